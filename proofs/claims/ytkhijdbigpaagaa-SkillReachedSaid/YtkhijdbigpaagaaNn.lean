import Derived.Test.YtkhijdbigpaagaaNm
import Derived.Test.YtkhijdbigpaagaaNe
import Derived.BigQuiet
/-
  The reference's test.
-/
namespace Go.Proofs.Ytkhijdbigpaagaa
open Go.RowKit RG

/-- What the reference's test answers of the tasks ts and the allowed misses al, for n skills. -/
def test0 (n : Nat) (ts : List (Int × Int)) (al : Int) : Int :=
  if inB 1 6 (ts.length : Int) = true then (if inB 0 ((ts.length : Int) - 1) al = true then (firstErr (fun i => taskE n (ts[i]?.getD (0, 0))) 0 ts.length).2 else 7) else 3
theorem testE_is (S : Sch) (ts : List (Int × Int)) (al : Int) : testE S ts al = if (checkS S).2.2 = 0 then test0 S.sks.length ts al else (checkS S).2.2 := rfl

set_option maxRecDepth 100000 in
set_option maxHeartbeats 4000000 in
theorem testR_any (A A2 B : Option Addr) (n c n2 c2 m cb : Nat) (ts : List (Int × Int)) (al : Int) (w : World) (hn : n ≤ maxLen) (ht : RdRow w B m 2 (ts.map tkCells)) (hm : m ≤ maxLen) :
    Calls Try.prog 77 #[.agg #[.slice A n c, .slice A2 n2 c2], .agg #[.slice B m cb, .int .i64 al]] w fun e w' => e = .returned (.int .i64 (test0 n ts al)) ∧ Below w.heap.size w w' := by
  have hl : ts.length = m := by have := ht.1; simpa using this
  obtain ⟨r, hr⟩ : ∃ r, test0 n ts al = r := ⟨_, rfl⟩
  rw [hr]
  unfold test0 at hr
  rw [hl] at hr
  unfold maxLen at hn hm
  obtain ⟨W0, hW0⟩ : ∃ W0, (w.alloc (.cells #[.slice A n c, .slice A2 n2 c2] 25)).alloc (.cells #[.slice B m cb, .int .i64 al] 48) = W0 := ⟨_, rfl⟩
  have kS := hide (show Blk W0 w.heap.size 25 #[.slice A n c, .slice A2 n2 c2] by rw [← hW0]; exact (blkNew rfl).alloc _)
  have kT := hide (show Blk W0 (w.heap.size + 1) 48 #[.slice B m cb, .int .i64 al] by rw [← hW0]; exact blkNew (by simp))
  have hB := hide (show Below w.heap.size w W0 by rw [← hW0]; exact ((Below.refl _ _).alloc (Nat.le_refl _) _).alloc (by simp) _)
  replace hW0 := hide hW0
  have t0 : W0.cell? ⟨w.heap.size + 1, 0, none⟩ = some (.slice B m cb) := kT.out.cell 0
  have t1 : W0.cell? ⟨w.heap.size + 1, 1, none⟩ = some (.int .i64 al) := kT.out.cell 1
  have hat := hide (fun j (hj : j < m) => map_at tkCells ts j (by omega))
  replace ht := hide ht
  replace hl := hide hl
  go_enter Try.func77, Try.ntmps77
  go_wp2_with fail
  rw [hW0.out]
  go_wp2_with fail
  refine (inRef_any (m : Int) 1 6 _).mono ?_
  rintro e w1 ⟨rfl, rfl⟩
  cases hq : inB 1 6 (m : Int) with
  | false =>
    rw [hq, if_neg (by simp)] at hr
    subst hr
    clear hq
    go_wp2
    go_ret
    exact ⟨rfl, hB.out⟩
  | true =>
    rw [hq, if_pos rfl] at hr
    have hm6 := (inB_iff.1 hq).2
    clear hq
    replace hr := hide hr
    go_wp2_with fail
    refine (inRef_any al 0 ((m : Int) - 1) _).mono ?_
    rintro e w1 ⟨rfl, rfl⟩
    cases hq : inB 0 ((m : Int) - 1) al with
    | false =>
      have hr := hr.out
      rw [hq, if_neg (by simp)] at hr
      subst hr
      clear hq
      go_wp2
      go_ret
      exact ⟨rfl, hB.out⟩
    | true =>
      have hr1 := hr.out
      rw [hq, if_pos rfl] at hr1
      clear hq hr
      replace hr1 := hide hr1
      clear t0 t1
      go_wp2
      go_loopg [6] m (fun g s6 wr => ∃ j : Nat, j ≤ m ∧ m - j ≤ g ∧ s6 = .int .i64 j ∧ Hid (Below w.heap.size w wr) ∧ Hid (Blk wr w.heap.size 25 #[.slice A n c, .slice A2 n2 c2]) ∧ Hid (Blk wr (w.heap.size + 1) 48 #[.slice B m cb, .int .i64 al]) ∧ Hid (∀ i, 0 ≤ i → i < j → taskE n (ts[i]?.getD (0, 0)) = 0))
      case atStart => exact ⟨0, Nat.zero_le _, by omega, rfl, hB, kS, kT, hide fun i _ h => absurd h (by omega)⟩
      case round =>
        clear hB kS kT
        obtain ⟨j, hj, hg, rfl, hB, kS, kT, hz⟩ := hrel
        by_cases hlt : j < m
        · have hltz : (j : Int) < (m : Int) := by omega
          have hat1 := hat.out j hlt
          obtain ⟨b, off, x0, x1, rfl, hb, hx, c0, c1⟩ := (ht.out.below hB.out).cells2 hlt
          rw [hat1] at hx
          unfold tkCells at hx
          simp only [List.cons.injEq, and_true] at hx
          obtain ⟨rfl, rfl⟩ := hx
          clear hat1
          have s0 : wr.cell? ⟨w.heap.size, 0, none⟩ = some (.slice A n c) := kS.out.cell 0
          have t0 : wr.cell? ⟨w.heap.size + 1, 0, none⟩ = some (.slice (some ⟨b, off, none⟩) m cb) := kT.out.cell 0
          have hdef : ts[j]?.getD default = ts[j]?.getD (0, 0) := by rw [List.getElem?_eq_getElem (by rw [hl.out]; exact hlt)]; rfl
          rw [hdef] at c0 c1
          clear hdef
          have htk : taskE n (ts[j]?.getD (0, 0)) = if inB 0 ((n : Int) - 1) (ts[j]?.getD (0, 0)).1 = true then (if inB 0 1000 (ts[j]?.getD (0, 0)).2 = true then 0 else 7) else 4 := rfl
          have hhit := hide (fun (hne : taskE n (ts[j]?.getD (0, 0)) ≠ 0) => firstErr_hit (err := fun i => taskE n (ts[i]?.getD (0, 0))) (k := 0) (m := m) (j := j) hz.out (Nat.zero_le _) (by omega) hne)
          have hnx := hide (fun (h0 : taskE n (ts[j]?.getD (0, 0)) = 0) => show ∀ i, 0 ≤ i → i < j + 1 → taskE n (ts[i]?.getD (0, 0)) = 0 from fun i h1 h2 => by
            by_cases e : i = j
            · subst e; exact h0
            · exact hz.out i h1 (by omega))
          replace htk := hide htk
          generalize (ts[j]?.getD (0, 0)).1 = ta at *
          generalize (ts[j]?.getD (0, 0)).2 = tb at *
          generalize taskE n (ts[j]?.getD (0, 0)) = te at *
          have hI := hide (fun W => inRef_any ta 0 ((n : Int) - 1) W)
          obtain ⟨q, hq⟩ : ∃ q, inB 0 ((n : Int) - 1) ta = q := ⟨_, rfl⟩
          have hI2 := hI.out
          rw [hq] at hI2
          replace hI2 := hide hI2
          clear hI
          replace hq := hide hq
          go_wp2
          go_quiet ((go_at_call 56; exact quiet_left (hI2.out _)))
          have hB2 := hide (below_drewN hB.out nq)
          have kS2 := hide (Blk.drewN kS.out nq)
          have kT2 := hide (Blk.drewN kT.out nq)
          replace c0 := hide ((show (wr.drewN nq).cell? ⟨b, off + j * 2, none⟩ = _ from c0))
          have c1' : (wr.drewN nq).cell? ⟨b, off + j * 2 + 1, none⟩ = _ := c1
          have t0' : (wr.drewN nq).cell? ⟨w.heap.size + 1, 0, none⟩ = _ := t0
          clear c0 c1 s0 t0 hB kS kT hI2
          generalize wr.drewN nq = w2 at *
          cases q with
          | false =>
            have htk1 := htk.out
            rw [hq.out, if_neg (by simp)] at htk1
            subst htk1
            have hr := hr1.out
            rw [hhit.out (by decide)] at hr
            simp only at hr
            subst hr
            clear hhit hnx
            go_wp2
            go_ret
            exact ⟨rfl, hB2.out⟩
          | true =>
            have htk1 := htk.out
            rw [hq.out, if_pos rfl] at htk1
            replace htk1 := hide htk1
            clear htk hq
            go_wp2_with fail
            refine (inRef_any tb 0 1000 _).mono ?_
            rintro e w3 ⟨rfl, rfl⟩
            cases hq : inB 0 1000 tb with
            | false =>
              have htk := htk1.out
              rw [hq, if_neg (by simp)] at htk
              subst htk
              have hr := hr1.out
              rw [hhit.out (by decide)] at hr
              simp only at hr
              subst hr
              clear hhit hnx hq
              go_wp2
              go_ret
              exact ⟨rfl, hB2.out⟩
            | true =>
              have htk := htk1.out
              rw [hq, if_pos rfl] at htk
              subst htk
              have hnx1 := hide (hnx.out rfl)
              clear hhit hnx hq
              go_wp2
              go_roundg (m - (j + 1))
              case measure => omega
              case rel => exact ⟨j + 1, by omega, by omega, by go_num, hB2, kS2, kT2, hnx1⟩
        · have hltz : ¬ (j : Int) < (m : Int) := by omega
          obtain rfl : j = m := by omega
          have hr := hr1.out
          rw [firstErr_none (err := fun i => taskE n (ts[i]?.getD (0, 0))) (k := 0) (m := j) (fun i h1 h2 => hz.out i h1 (by omega))] at hr
          simp only at hr
          subst hr
          go_wp2
          go_ret
          exact ⟨rfl, hB.out⟩
end Go.Proofs.Ytkhijdbigpaagaa

/-
  The reference's ranges, Power and passed.
-/
namespace Go.Proofs.Ytkhijdbigpaagaa
open Go.RowKit RG

set_option maxRecDepth 100000 in
set_option maxHeartbeats 2000000 in
theorem rangesR_any (A A2 L : Option Addr) (n c n2 c2 k cl : Nat) (rs : List Sp) (w : World) (hn : n ≤ maxLen) (h : RdRow w L k 2 (rs.map tkCells)) (hk : k ≤ maxLen) :
    Calls Try.prog 106 #[.agg #[.slice A n c, .slice A2 n2 c2], .slice L k cl] w fun e w' => e = .returned (.int .i64 (rangesE n rs)) ∧ Below w.heap.size w w' := by
  have hl : rs.length = k := by have := h.1; simpa using this
  obtain ⟨r, hr⟩ : ∃ r, rangesE n rs = r := ⟨_, rfl⟩
  rw [hr]
  unfold rangesE at hr
  rw [hl] at hr
  unfold maxLen at hn hk
  have kS := hide (show Blk (w.alloc (.cells #[.slice A n c, .slice A2 n2 c2] 25)) w.heap.size 25 #[.slice A n c, .slice A2 n2 c2] from blkNew rfl)
  have hB := hide (show Below w.heap.size w (w.alloc (.cells #[.slice A n c, .slice A2 n2 c2] 25)) from (Below.refl _ _).alloc (Nat.le_refl _) _)
  have s0 : (w.alloc (.cells #[.slice A n c, .slice A2 n2 c2] 25)).cell? ⟨w.heap.size, 0, none⟩ = some (.slice A n c) := kS.out.cell 0
  have hat := hide (fun j (hj : j < k) => map_at tkCells rs j (by omega))
  by_cases hne : k = n
  · subst hne
    rw [if_neg (by simp)] at hr
    have hb1 : ((k : Int) != (k : Int)) = false := by simp
    replace hr := hide hr
    replace h := hide h
    replace hl := hide hl
    go_enter Try.func106, Try.ntmps106
    go_wp2
    generalize (w.alloc (.cells #[.slice A k c, .slice A2 n2 c2] 25)) = w1 at *
    clear s0 kS
    go_loopg [5, 6] k (fun g s5 _ wr => ∃ j : Nat, j ≤ k ∧ k - j ≤ g ∧ s5 = .int .i64 j ∧ Hid (Below w.heap.size w wr) ∧ Hid (∀ i, 0 ≤ i → i < j → spanE 0 1000 [rs[i]?.getD (0, 0)] = 0))
    case atStart => exact ⟨0, Nat.zero_le _, by omega, rfl, hB, hide fun i _ h => absurd h (by omega)⟩
    case round =>
      clear hB
      obtain ⟨j, hj, hg, rfl, hB, hz⟩ := hrel
      by_cases hlt : j < k
      · have hltz : (j : Int) < (k : Int) := by omega
        have hat1 := hat.out j hlt
        obtain ⟨b, off, x0, x1, rfl, hb, hx, c0, c1⟩ := (h.out.below hB.out).cells2 hlt
        rw [hat1] at hx
        unfold tkCells at hx
        simp only [List.cons.injEq, and_true] at hx
        obtain ⟨rfl, rfl⟩ := hx
        clear hat1
        have hdef : rs[j]?.getD default = rs[j]?.getD (0, 0) := by rw [List.getElem?_eq_getElem (by rw [hl.out]; exact hlt)]; rfl
        rw [hdef] at c0 c1
        clear hdef
        have hS := hide (fun W => spanR_any (rs[j]?.getD (0, 0)).1 (rs[j]?.getD (0, 0)).2 0 1000 W)
        have hhit := hide (fun (hne : spanE 0 1000 [rs[j]?.getD (0, 0)] ≠ 0) => firstErr_hit (err := fun i => spanE 0 1000 [rs[i]?.getD (0, 0)]) (k := 0) (m := k) (j := j) hz.out (Nat.zero_le _) (by omega) hne)
        have hnx := hide (fun (h0 : spanE 0 1000 [rs[j]?.getD (0, 0)] = 0) => show ∀ i, 0 ≤ i → i < j + 1 → spanE 0 1000 [rs[i]?.getD (0, 0)] = 0 from fun i h1 h2 => by
          by_cases e : i = j
          · subst e; exact h0
          · exact hz.out i h1 (by omega))
        have hsp : spanE 0 1000 [((rs[j]?.getD (0, 0)).1, (rs[j]?.getD (0, 0)).2)] = spanE 0 1000 [rs[j]?.getD (0, 0)] := rfl
        rw [hsp] at hS
        clear hsp
        generalize (rs[j]?.getD (0, 0)).1 = ta at *
        generalize (rs[j]?.getD (0, 0)).2 = tb at *
        generalize spanE 0 1000 [rs[j]?.getD (0, 0)] = te at *
        go_wp2_with fail
        refine (hS.out _).mono ?_
        rintro e w2 ⟨rfl, hb2⟩
        have hB2 := hide (hB.out.trans (hb2.mono hB.out.size))
        clear hb2 hB c0 c1 hS
        by_cases h0 : te = 0
        · subst h0
          have hnx1 := hide (hnx.out rfl)
          clear hhit hnx
          go_wp2
          go_roundg (k - (j + 1))
          case measure => omega
          case rel => exact ⟨j + 1, by omega, by omega, by go_num, hB2, hnx1⟩
        · have hr := hr.out
          rw [hhit.out h0] at hr
          simp only at hr
          subst hr
          have hb2 : (te != 0) = true := by rw [bne_iff_ne]; exact h0
          replace h0 := hide h0
          clear hhit hnx
          go_wp2
          go_ret
          exact ⟨rfl, hB2.out⟩
      · have hltz : ¬ (j : Int) < (k : Int) := by omega
        obtain rfl : j = k := by omega
        have hr := hr.out
        rw [firstErr_none (err := fun i => spanE 0 1000 [rs[i]?.getD (0, 0)]) (k := 0) (m := j) (fun i h1 h2 => hz.out i h1 (by omega))] at hr
        simp only at hr
        subst hr
        go_wp2
        go_ret
        exact ⟨rfl, hB.out⟩
  · rw [if_pos hne] at hr
    subst hr
    have hb1 : ((k : Int) != (n : Int)) = true := by simp; omega
    replace hne := hide hne
    go_enter Try.func106, Try.ntmps106
    go_wp2
    go_ret
    exact ⟨rfl, hB.out⟩

theorem pow1000_b {k : Nat} (hk : k ≤ 6) : (1000 : Int) ^ k ≤ 1000000000000000000 ∧ 1 ≤ (1000 : Int) ^ k := by
  have : k = 0 ∨ k = 1 ∨ k = 2 ∨ k = 3 ∨ k = 4 ∨ k = 5 ∨ k = 6 := by omega
  rcases this with rfl | rfl | rfl | rfl | rfl | rfl | rfl <;> decide
set_option maxHeartbeats 1000000 in
theorem Power_any (n : Nat) (w : World) (hn : n ≤ 6) : Calls Try.prog 49 #[.int .i64 n] w fun e w' => e = .returned (.int .i64 ((1000 : Int) ^ n)) ∧ w = w' := by
  obtain ⟨r, hr⟩ : ∃ r, (1000 : Int) ^ n = r := ⟨_, rfl⟩
  rw [hr]
  replace hr := hide hr
  go_enter Try.func49, Try.ntmps49
  go_wp2
  go_loopg [3, 4] n (fun g s3 s4 wr => ∃ (j : Nat) (x : Int), j ≤ n ∧ n - j ≤ g ∧ s4 = .int .i64 j ∧ s3 = .int .i64 x ∧ wr = w ∧ Hid ((1000 : Int) ^ j = x))
  case atStart => exact ⟨0, 1, Nat.zero_le _, by omega, rfl, rfl, rfl, rfl⟩
  case round =>
    obtain ⟨j, x, hj, hg, rfl, rfl, rfl, hx⟩ := hrel
    by_cases hlt : j < n
    · have hltz : (j : Int) < (n : Int) := by omega
      have hb := (pow1000_b (k := j + 1) (by omega)).1
      have hb0 := (pow1000_b (k := j + 1) (by omega)).2
      have hx1 := hide (show (1000 : Int) ^ (j + 1) = 1000 * x by rw [pow_succ', hx.out])
      rw [hx1.out] at hb hb0
      go_wp2
      go_roundg (n - (j + 1))
      case measure => omega
      case rel => exact ⟨j + 1, 1000 * x, by omega, by omega, by go_num, by go_num, rfl, hx1⟩
    · have hltz : ¬ (j : Int) < (n : Int) := by omega
      obtain rfl : j = n := by omega
      have hxr : x = r := hx.out.symm.trans hr.out
      subst hxr
      go_wp2
      go_ret
      exact ⟨rfl, rfl⟩
end Go.Proofs.Ytkhijdbigpaagaa

/-
  The reference's passed.
-/
namespace Go.Proofs.Ytkhijdbigpaagaa
open Go.RowKit RG

/-- The chance that at most a are not done; no chance if a is below 0. -/
def passV (ps : List Int) (a : Int) : Int := if a < 0 then 0 else fk ps a.toNat
theorem passV_cons (p : Int) (ps : List Int) {a : Int} (ha : 0 ≤ a) : passV (p :: ps) a = p * passV ps a + (1000 - p) * passV ps (a - 1) := by
  obtain ⟨n, rfl⟩ : ∃ n : Nat, a = n := ⟨a.toNat, by omega⟩
  unfold passV
  rw [if_neg (by omega), if_neg (by omega)]
  cases n with
  | zero => simp [fk]
  | succ n =>
    rw [if_neg (by omega)]
    simp only [Int.toNat_natCast]
    rw [show (((n + 1 : Nat) : Int) - 1).toNat = n by omega]
    rfl
theorem passV_b {ps : List Int} (h : InL ps) (a : Int) (hl : ps.length ≤ 5) : 0 ≤ passV ps a ∧ passV ps a ≤ 1000000000000000 := by
  unfold passV
  have h1 : (1000 : Int) ^ ps.length ≤ 1000000000000000 := by
    have : ps.length = 0 ∨ ps.length = 1 ∨ ps.length = 2 ∨ ps.length = 3 ∨ ps.length = 4 ∨ ps.length = 5 := by omega
    rcases this with e | e | e | e | e | e <;> rw [e] <;> decide
  split
  · exact ⟨Int.le_refl _, by decide⟩
  · exact ⟨fk_nn h _, Int.le_trans (fk_le h _) h1⟩
theorem dropMap (f : Int × Int → Int) (ts : List (Int × Int)) (j : Nat) (h : j < ts.length) : (ts.drop j).map f = f (ts[j]?.getD (0, 0)) :: (ts.drop (j + 1)).map f := by
  rw [List.drop_eq_getElem_cons h, List.getElem?_eq_getElem h]; rfl

set_option maxRecDepth 100000 in
set_option maxHeartbeats 4000000 in
theorem passed_any (B L : Option Addr) (m cb k cl : Nat) (ts : List (Int × Int)) (ls : List Int) (al : Int) (hm : m ≤ 6) (hk : k ≤ 6)
    (hts : ∀ i, i < m → 0 ≤ (ts[i]?.getD (0, 0)).1 ∧ (ts[i]?.getD (0, 0)).1 < k ∧ 0 ≤ (ts[i]?.getD (0, 0)).2 ∧ (ts[i]?.getD (0, 0)).2 ≤ 1000) (hls : ∀ i, i < k → 0 ≤ ls[i]?.getD 0 ∧ ls[i]?.getD 0 ≤ 1000) (hlen : ts.length = m) :
    ∀ (f j : Nat) (a : Int) (w : World), m - j = f → j ≤ m → -1 ≤ a → a ≤ 6 → RdRow w B m 2 (ts.map tkCells) → RdInts w L k ls →
    Calls Try.prog 78 #[.agg #[.slice B m cb, .int .i64 al], .slice L k cl, .int .i64 j, .int .i64 a] w fun e w' => e = .returned (.int .i64 (passV ((ts.drop j).map (doneT ls)) a)) ∧ Below w.heap.size w w' := by
  intro f
  induction f with
  | zero =>
    intro j a w hf hj ha ha6 ht hl
    obtain rfl : j = m := by omega
    obtain ⟨r, hr⟩ : ∃ r, passV ((ts.drop j).map (doneT ls)) a = r := ⟨_, rfl⟩
    rw [hr]
    rw [List.drop_eq_nil_of_le (by omega)] at hr
    unfold passV at hr
    clear hts hls ht hl hlen
    have kT := hide (show Blk (w.alloc (.cells #[.slice B j cb, .int .i64 al] 48)) w.heap.size 48 #[.slice B j cb, .int .i64 al] from blkNew rfl)
    have hB := hide (show Below w.heap.size w (w.alloc (.cells #[.slice B j cb, .int .i64 al] 48)) from (Below.refl _ _).alloc (Nat.le_refl _) _)
    have t0 : (w.alloc (.cells #[.slice B j cb, .int .i64 al] 48)).cell? ⟨w.heap.size, 0, none⟩ = some (.slice B j cb) := kT.out.cell 0
    by_cases h0 : a < 0
    · rw [if_pos h0] at hr
      subst hr
      go_enter Try.func78, Try.ntmps78
      go_wp2
      go_ret
      exact ⟨rfl, hB.out⟩
    · rw [if_neg h0] at hr
      have hr1 : r = 1 := by rw [← hr]; simp only [List.map_nil]; cases a.toNat <;> rfl
      subst hr1
      clear hr
      have hb1 : ((j : Int) == (j : Int)) = true := by simp
      go_enter Try.func78, Try.ntmps78
      go_wp2
      go_ret
      exact ⟨rfl, hB.out⟩
  | succ f ih =>
    intro j a w hf hj ha ha6 ht hl
    have hjm : j < m := by omega
    have hIL : InL ((ts.drop (j + 1)).map (doneT ls)) := by
      intro x hx
      obtain ⟨t, _, rfl⟩ := List.mem_map.1 hx
      exact lim_le _
    have hpl : ((ts.drop (j + 1)).map (doneT ls)).length ≤ 5 := by simp; omega
    by_cases h0 : a < 0
    · have hr : passV ((ts.drop j).map (doneT ls)) a = 0 := by unfold passV; rw [if_pos h0]
      rw [hr]
      clear hr hIL hpl hts hls ih
      have hB := hide (show Below w.heap.size w (w.alloc (.cells #[.slice B m cb, .int .i64 al] 48)) from (Below.refl _ _).alloc (Nat.le_refl _) _)
      replace ht := hide ht
      replace hl := hide hl
      go_enter Try.func78, Try.ntmps78
      go_wp2
      go_ret
      exact ⟨rfl, hB.out⟩
    · have ha0 : 0 ≤ a := by omega
      obtain ⟨r, hr⟩ : ∃ r, passV ((ts.drop j).map (doneT ls)) a = r := ⟨_, rfl⟩
      rw [hr]
      rw [dropMap _ _ _ (by omega), passV_cons _ _ ha0] at hr
      have hi1 := hide (fun W (hb : Below w.heap.size w W) => ih (j + 1) a W (by omega) (by omega) ha ha6 (ht.below hb) (hl.below hb))
      have hi2 := hide (fun W (hb : Below w.heap.size w W) => ih (j + 1) (a - 1) W (by omega) (by omega) (by omega) (by omega) (ht.below hb) (hl.below hb))
      have hp1 := passV_b hIL a hpl
      have hp2 := passV_b hIL (a - 1) hpl
      have hbt := hts j hjm
      have hat := map_at tkCells ts j (by omega)
      have hdef : ts[j]?.getD default = ts[j]?.getD (0, 0) := by rw [List.getElem?_eq_getElem (by omega)]; rfl
      rw [hdef] at hat
      clear hdef
      obtain ⟨i, hi⟩ : ∃ i : Nat, (ts[j]?.getD (0, 0)).1 = i := ⟨(ts[j]?.getD (0, 0)).1.toNat, by omega⟩
      have hd : doneT ls (ts[j]?.getD (0, 0)) = lim (500 + ls[i]?.getD 0 - (ts[j]?.getD (0, 0)).2) := by unfold doneT; rw [hi]; rfl
      rw [hd] at hr
      rw [hi] at hbt
      obtain ⟨b, off, x0, x1, rfl, hb, hx, c0, c1⟩ := ht.cells2 hjm
      rw [hat] at hx
      unfold tkCells at hx
      simp only [List.cons.injEq, and_true] at hx
      rw [hi] at hx
      obtain ⟨rfl, rfl⟩ := hx
      have hik : i < k := by omega
      obtain ⟨b2, off2, rfl, hb2, hc2⟩ := hl.2 (by omega)
      have c2 := hc2 i hik
      have hlb := hls i hik
      clear hc2 hat hd hi hts hls ih hl ht hlen
      generalize passV ((ts.drop (j + 1)).map (doneT ls)) a = v1 at *
      generalize passV ((ts.drop (j + 1)).map (doneT ls)) (a - 1) = v2 at *
      generalize (ts[j]?.getD (0, 0)).2 = tb at *
      generalize ls[i]?.getD 0 = lv at *
      clear hIL hpl
      obtain ⟨p, hp⟩ : ∃ p, lim (500 + lv - tb) = p := ⟨_, rfl⟩
      have hpb := lim_le (500 + lv - tb)
      rw [hp] at hpb hr
      have hW := hide (fun W => Within_any (500 + lv - tb) W)
      rw [hp] at hW
      clear hp
      obtain ⟨m1, hm1⟩ : ∃ x, p * v1 = x := ⟨_, rfl⟩
      obtain ⟨m2, hm2⟩ : ∃ x, (1000 - p) * v2 = x := ⟨_, rfl⟩
      have hm1b : 0 ≤ m1 ∧ m1 ≤ 1000000000000000000 := by
        rw [← hm1]
        exact ⟨Int.mul_nonneg hpb.1 hp1.1, Int.le_trans (Int.mul_le_mul hpb.2 hp1.2 hp1.1 (by omega)) (by decide)⟩
      have hm2b : 0 ≤ m2 ∧ m2 ≤ 1000000000000000000 := by
        rw [← hm2]
        exact ⟨Int.mul_nonneg (by omega) hp2.1, Int.le_trans (Int.mul_le_mul (show 1000 - p ≤ 1000 by omega) hp2.2 hp2.1 (by omega)) (by decide)⟩
      rw [hm1, hm2] at hr
      have hw1 : IntKind.i64.wrap (p * v1) = m1 := by rw [hm1, IntKind.wrap_i64]; omega
      have hw2 : IntKind.i64.wrap ((1000 - p) * v2) = m2 := by rw [hm2, IntKind.wrap_i64]; omega
      have hw3 : IntKind.i64.wrap (m1 + m2) = r := by rw [← hr, IntKind.wrap_i64]; omega
      have hw4 : IntKind.i64.wrap ((j : Int) + 1) = (j : Int) + 1 := by rw [IntKind.wrap_i64]; omega
      have hw5 : IntKind.i64.wrap (1000 - p) = 1000 - p := by rw [IntKind.wrap_i64]; omega
      have hw6 : IntKind.i64.wrap (a - 1) = a - 1 := by rw [IntKind.wrap_i64]; omega
      clear hm1 hm2 hr hm1b hm2b hp1 hp2
      have hjz : ((j : Int) == (m : Int)) = false := by rw [beq_eq_false_iff_ne]; omega
      have hjl : (j : Int) < (m : Int) := by omega
      have hil : (i : Int) < (k : Int) := by omega
      obtain ⟨hlb0, hlb1⟩ := hlb
      obtain ⟨hpb0, hpb1⟩ := hpb
      have hbt0 := hbt.2.2.1
      have hbt1 := hbt.2.2.2
      clear hbt
      obtain ⟨W1, hW1⟩ : ∃ W1, (w.alloc (.cells #[.slice (some ⟨b, off, none⟩) m cb, .int .i64 al] 48)).alloc (.cells #[.int .i64 i, .int .i64 tb] 100) = W1 := ⟨_, rfl⟩
      have kT := hide (show Blk W1 w.heap.size 48 #[.slice (some ⟨b, off, none⟩) m cb, .int .i64 al] by rw [← hW1]; exact (blkNew rfl).alloc _)
      have kX := hide (show Blk W1 (w.heap.size + 1) 100 #[.int .i64 i, .int .i64 tb] by rw [← hW1]; exact blkNew (by simp))
      have hB := hide (show Below w.heap.size w W1 by rw [← hW1]; exact ((Below.refl _ _).alloc (Nat.le_refl _) _).alloc (by simp) _)
      have kT0 := hide (show Blk (w.alloc (.cells #[.slice (some ⟨b, off, none⟩) m cb, .int .i64 al] 48)) w.heap.size 48 #[.slice (some ⟨b, off, none⟩) m cb, .int .i64 al] from blkNew rfl)
      have t0 : (w.alloc (.cells #[.slice (some ⟨b, off, none⟩) m cb, .int .i64 al] 48)).cell? ⟨w.heap.size, 0, none⟩ = some (.slice (some ⟨b, off, none⟩) m cb) := kT0.out.cell 0
      have x0 := (cellB (o := off + j * 2) ((Below.refl w.heap.size w).alloc (Nat.le_refl _) (.cells #[.slice (some ⟨b, off, none⟩) m cb, .int .i64 al] 48)) hb).trans c0
      have x1 := (cellB (o := off + j * 2 + 1) ((Below.refl w.heap.size w).alloc (Nat.le_refl _) (.cells #[.slice (some ⟨b, off, none⟩) m cb, .int .i64 al] 48)) hb).trans c1
      have y0 : W1.cell? ⟨w.heap.size + 1, 0, none⟩ = some (.int .i64 i) := kX.out.cell 0
      have y1 : W1.cell? ⟨w.heap.size + 1, 1, none⟩ = some (.int .i64 tb) := kX.out.cell 1
      have y2 := (cellB (o := off2 + i) hB.out hb2).trans c2
      rw [← hW1] at y0 y1 y2
      clear c0 c1 c2 kT0
      replace hW1 := hide hW1
      go_enter Try.func78, Try.ntmps78
      go_wp2
      go_quiet ((go_at_call 46; exact quiet_left (hW.out _)))
      rw [hW1.out]
      have hB1 := hide (below_drewN hB.out nq)
      have kT1 := hide (Blk.drewN kT.out nq)
      clear t0 x0 x1 y0 y1 y2 hB kT kX hW hlb0 hlb1 hbt0 hbt1 hb hb2 hW1
      generalize W1.drewN nq = w2 at *
      have hc : ((j + 1 : Nat) : Int) = (j : Int) + 1 := by omega
      rw [hc] at hi1 hi2
      clear hc
      replace hi1 := hide hi1
      replace hi2 := hide hi2
      go_wp2
      replace hi1 := hi1.out
      replace hi2 := hi2.out
      refine region_grow [IsV (.int .i64 p), IsV (.agg #[.slice (some ⟨b, off, none⟩) m cb, .int .i64 al]), IsV (.slice (some ⟨b2, off2, none⟩) k cl), IsV (.int .i64 j), IsV (.int .i64 ((j : Int) + 1)), IsV (.int .i64 a), IsV (.int .i64 v1), IsV (.int .i64 m1),
        IsV (.int .i64 p), IsV (.int .i64 (1000 - p)), IsV (.agg #[.slice (some ⟨b, off, none⟩) m cb, .int .i64 al]), IsV (.slice (some ⟨b2, off2, none⟩) k cl), IsV (.int .i64 j), IsV (.int .i64 ((j : Int) + 1)), IsV (.int .i64 a), IsV (.int .i64 (a - 1)), IsV (.int .i64 v2), IsV (.int .i64 m2),
        IsV (.int .i64 r), IsV (.int .i64 r)] (by kernel_rfl) (by kernel_rfl) rfl ?_ ?_ ?_
      · simp [AllStb, IsV.stb]
      · refine ⟨?_, ?_, ?_, ?_, ?_, ?_, ?_, ?_, ?_, ?_, ?_, ?_, ?_, ?_, ?_, ?_, ?_, ?_, ?_, ?_, trivial⟩
        all_goals
          intro y w6 K Qq Cv hC hd hV
          have k6 := kT1.out.below hC kT1.out.lt
          have q0 : w6.cell? ⟨w.heap.size, 0, none⟩ = some (.slice (some ⟨b, off, none⟩) m cb) := k6.cell 0
          have q1 : w6.cell? ⟨w.heap.size, 1, none⟩ = some (.int .i64 al) := k6.cell 1
          simp [deps, VL, IsV, Region.binds] at hd
          simp only [putAll, Act.put]
          go_simp; intro hK
        · exact hK _ _ (hV _ _ hC (Below.refl _ _) rfl)
        · exact hK _ _ (hV _ _ hC (Below.refl _ _) rfl)
        · exact hK _ _ (hV _ _ hC (Below.refl _ _) rfl)
        · exact hK _ _ (hV _ _ hC (Below.refl _ _) rfl)
        · exact hK _ _ (hV _ _ hC (Below.refl _ _) rfl)
        · exact hK _ _ (hV _ _ hC (Below.refl _ _) rfl)
        · refine (hi1.out _ (hB1.out.trans (hC.mono hB1.out.size))).mono ?_; rintro e w7 ⟨rfl, hb7⟩; exact hK _ _ (hV _ _ (hC.trans (hb7.mono hC.size)) hb7 rfl)
        · exact hK _ _ (hV _ _ hC (Below.refl _ _) rfl)
        · exact hK _ _ (hV _ _ hC (Below.refl _ _) rfl)
        · exact hK _ _ (hV _ _ hC (Below.refl _ _) rfl)
        · exact hK _ _ (hV _ _ hC (Below.refl _ _) rfl)
        · exact hK _ _ (hV _ _ hC (Below.refl _ _) rfl)
        · exact hK _ _ (hV _ _ hC (Below.refl _ _) rfl)
        · exact hK _ _ (hV _ _ hC (Below.refl _ _) rfl)
        · exact hK _ _ (hV _ _ hC (Below.refl _ _) rfl)
        · exact hK _ _ (hV _ _ hC (Below.refl _ _) rfl)
        · refine (hi2.out _ (hB1.out.trans (hC.mono hB1.out.size))).mono ?_; rintro e w7 ⟨rfl, hb7⟩; exact hK _ _ (hV _ _ (hC.trans (hb7.mono hC.size)) hb7 rfl)
        · exact hK _ _ (hV _ _ hC (Below.refl _ _) rfl)
        · exact hK _ _ (hV _ _ hC (Below.refl _ _) rfl)
        · exact hK _ _ (hV _ _ hC (Below.refl _ _) rfl)
      intro y w6 hC hd
      simp [EndsL, IsV] at hd
      obtain ⟨d0, d1, d2, d3, d4, d5, d6, d7, d8, d9, d10, d11, d12, d13, d14, d15, d16, d17, d18, d19⟩ := hd
      simp only [putAll, Act.put]
      rw [d19]
      clear d0 d1 d2 d3 d4 d5 d6 d7 d8 d9 d10 d11 d12 d13 d14 d15 d16 d17 d18 d19
      simp only [List.setIfInBounds_toArray, List.set_cons_succ, List.set_cons_zero]
      have hB6 := hide (hB1.out.trans (hC.mono hB1.out.size))
      clear hC hi1 hi2
      go_wp2
      go_ret
      exact ⟨rfl, hB6.out⟩
end Go.Proofs.Ytkhijdbigpaagaa

/-
  The reference's ends and enough.
-/
namespace Go.Proofs.Ytkhijdbigpaagaa
open Go.RowKit RG

set_option maxRecDepth 100000 in
set_option maxHeartbeats 4000000 in
theorem endsLo_any (L : Option Addr) (k cl : Nat) (rs : List Sp) (w : World) (h : RdRow w L k 2 (rs.map tkCells)) (hk : k ≤ 5) :
    Calls Try.prog 82 #[.slice L k cl, .bool false] w fun e w' => (∃ v, e = .returned v ∧ IsInts (rs.map (fun s : Sp => s.1)) v w') ∧ Below w.heap.size w w' := by
  have hkl : rs.length = k := by have := h.1; simpa using this
  obtain ⟨i0, hi, hz0, hz1, hz2⟩ := info_parts infoInt
  replace hi := hide hi
  replace hz0 := hide hz0
  replace hz1 := hide hz1
  replace hz2 := hide hz2
  have hcells := hide (fun j (hj : j < k) => map_at tkCells rs j (by omega))
  have hdef := hide (fun j (hj : j < k) => show rs[j]?.getD default = rs[j]?.getD (0, 0) by rw [List.getElem?_eq_getElem (by omega)]; rfl)
  have hsn := hide (fun j (hj : j < k) => mapTake (fun s : Sp => s.1) rs j (by omega))
  have hB := hide (fun W (hb : Below w.heap.size w W) => h.below hb)
  clear h

  replace hkl := hide hkl
  go_enter Try.func82, Try.ntmps82
  go_wp2
  go_loopg [5, 6] k (fun gg s5 s6 wr => ∃ j : Nat, j ≤ k ∧ k ≤ gg + j ∧ s6 = .int .i64 j ∧ Hid (Below w.heap.size w wr) ∧ Hid (wr.ownsRow w.heap.size 3 1 s5 j (((rs.take j).map (fun s : Sp => s.1)).map (Value.int .i64))))
  case atStart => exact ⟨0, Nat.zero_le _, by omega, rfl, Below.refl _ _, World.ownsRow_nil _ _ _ _⟩
  case round =>
    obtain ⟨j, hj, hgg, rfl, hBr, ho1⟩ := hrel
    by_cases hlt : j < k
    · have hltz : (j : Int) < (k : Int) := by omega
      have hcj := hcells.out j hlt
      rw [hdef.out j hlt] at hcj
      have hsj := hsn.out j hlt
      obtain ⟨b, off, x0, x1, rfl, hb, hx, c0, c1⟩ := (hB.out wr hBr.out).cells2 hlt
      rw [hcj] at hx
      unfold tkCells at hx
      simp only [List.cons.injEq, and_true] at hx
      obtain ⟨rfl, rfl⟩ := hx
      generalize (rs[j]?.getD (0, 0)).1 = lo at *
      generalize (rs[j]?.getD (0, 0)).2 = hi' at *
      clear hcj
      replace hsj := hide hsj
      have hsr := hBr.out.size
      go_wp2_with (at_builtin; refine wpList_append_own _ rfl _ _ 49 rfl w.heap.size 3 i0 (.int .i64 0) 1 8 Try.underlying49 hi.out hz0.out hz1.out hz2.out rfl (by decide) _ _ _ rfl (ho1.out.alloc _) ⟨wr.heap.size, 0, none⟩ 1 1 [.int .i64 lo] rfl rfl (cell_one_new _ _ _) (by simp [Value.oneCell']) (by unfold maxLen; omega) (by omega) (by simp; omega) ?_; intro v' w7 hown7 hgrow7 _)
      have hB7 := hide ((hBr.out.alloc hsr (.cells #[.int .i64 lo] 3)).grown hgrow7 (by simp; omega) (fun k hk => (ho1.out.lt k hk).1))
      replace hown7 := hide hown7
      clear hgrow7 ho1 c0 c1
      go_wp2
      go_roundg (k - (j + 1))
      case measure => omega
      case rel =>
        refine ⟨j + 1, by omega, by omega, by go_num, hB7.out, ?_⟩
        unfold Hid
        rw [hsj.out]
        exact hown7.out
    · have hltz : ¬ (j : Int) < (k : Int) := by omega
      obtain rfl : j = k := by omega
      have hln : (rs.map (fun s : Sp => s.1)).length = j := by rw [List.length_map]; exact hkl.out
      have hres : IsInts (rs.map (fun s : Sp => s.1)) u5 wr := isInts_of_own (base := w.heap.size) (by
        have h := ho1.out
        rw [List.take_of_length_le (by rw [hkl.out]; exact Nat.le_refl _)] at h
        rw [hln]; exact h)
      replace hres := hide hres
      clear ho1 hln
      go_wp2
      go_ret
      exact ⟨⟨_, rfl, hres.out⟩, hBr.out⟩

set_option maxRecDepth 100000 in
set_option maxHeartbeats 4000000 in
theorem endsHi_any (L : Option Addr) (k cl : Nat) (rs : List Sp) (w : World) (h : RdRow w L k 2 (rs.map tkCells)) (hk : k ≤ 5) :
    Calls Try.prog 82 #[.slice L k cl, .bool true] w fun e w' => (∃ v, e = .returned v ∧ IsInts (rs.map (fun s : Sp => s.2)) v w') ∧ Below w.heap.size w w' := by
  have hkl : rs.length = k := by have := h.1; simpa using this
  obtain ⟨i0, hi, hz0, hz1, hz2⟩ := info_parts infoInt
  replace hi := hide hi
  replace hz0 := hide hz0
  replace hz1 := hide hz1
  replace hz2 := hide hz2
  have hcells := hide (fun j (hj : j < k) => map_at tkCells rs j (by omega))
  have hdef := hide (fun j (hj : j < k) => show rs[j]?.getD default = rs[j]?.getD (0, 0) by rw [List.getElem?_eq_getElem (by omega)]; rfl)
  have hsn := hide (fun j (hj : j < k) => mapTake (fun s : Sp => s.2) rs j (by omega))
  have hB := hide (fun W (hb : Below w.heap.size w W) => h.below hb)
  clear h

  replace hkl := hide hkl
  go_enter Try.func82, Try.ntmps82
  go_wp2
  go_loopg [5, 6] k (fun gg s5 s6 wr => ∃ j : Nat, j ≤ k ∧ k ≤ gg + j ∧ s6 = .int .i64 j ∧ Hid (Below w.heap.size w wr) ∧ Hid (wr.ownsRow w.heap.size 3 1 s5 j (((rs.take j).map (fun s : Sp => s.2)).map (Value.int .i64))))
  case atStart => exact ⟨0, Nat.zero_le _, by omega, rfl, Below.refl _ _, World.ownsRow_nil _ _ _ _⟩
  case round =>
    obtain ⟨j, hj, hgg, rfl, hBr, ho1⟩ := hrel
    by_cases hlt : j < k
    · have hltz : (j : Int) < (k : Int) := by omega
      have hcj := hcells.out j hlt
      rw [hdef.out j hlt] at hcj
      have hsj := hsn.out j hlt
      obtain ⟨b, off, x0, x1, rfl, hb, hx, c0, c1⟩ := (hB.out wr hBr.out).cells2 hlt
      rw [hcj] at hx
      unfold tkCells at hx
      simp only [List.cons.injEq, and_true] at hx
      obtain ⟨rfl, rfl⟩ := hx
      generalize (rs[j]?.getD (0, 0)).1 = lo at *
      generalize (rs[j]?.getD (0, 0)).2 = hi' at *
      clear hcj
      replace hsj := hide hsj
      have hsr := hBr.out.size
      go_wp2_with (at_builtin; refine wpList_append_own _ rfl _ _ 49 rfl w.heap.size 3 i0 (.int .i64 0) 1 8 Try.underlying49 hi.out hz0.out hz1.out hz2.out rfl (by decide) _ _ _ rfl (ho1.out.alloc _) ⟨wr.heap.size, 0, none⟩ 1 1 [.int .i64 hi'] rfl rfl (cell_one_new _ _ _) (by simp [Value.oneCell']) (by unfold maxLen; omega) (by omega) (by simp; omega) ?_; intro v' w7 hown7 hgrow7 _)
      have hB7 := hide ((hBr.out.alloc hsr (.cells #[.int .i64 hi'] 3)).grown hgrow7 (by simp; omega) (fun k hk => (ho1.out.lt k hk).1))
      replace hown7 := hide hown7
      clear hgrow7 ho1 c0 c1
      go_wp2
      go_roundg (k - (j + 1))
      case measure => omega
      case rel =>
        refine ⟨j + 1, by omega, by omega, by go_num, hB7.out, ?_⟩
        unfold Hid
        rw [hsj.out]
        exact hown7.out
    · have hltz : ¬ (j : Int) < (k : Int) := by omega
      obtain rfl : j = k := by omega
      have hln : (rs.map (fun s : Sp => s.2)).length = j := by rw [List.length_map]; exact hkl.out
      have hres : IsInts (rs.map (fun s : Sp => s.2)) u5 wr := isInts_of_own (base := w.heap.size) (by
        have h := ho1.out
        rw [List.take_of_length_le (by rw [hkl.out]; exact Nat.le_refl _)] at h
        rw [hln]; exact h)
      replace hres := hide hres
      clear ho1 hln
      go_wp2
      go_ret
      exact ⟨⟨_, rfl, hres.out⟩, hBr.out⟩

set_option maxRecDepth 100000 in
theorem enough_any (B : Option Addr) (m cb : Nat) (al x ch : Int) (w : World) (hm : 1 ≤ m ∧ m ≤ 6) (hch : 0 ≤ ch ∧ ch ≤ 1000) :
    Calls Try.prog 83 #[.agg #[.slice B m cb, .int .i64 al], .int .i64 x, .int .i64 ch] w fun e w' => e = .returned (.bool (decide (ch * 1000 ^ (m - 1) ≤ x))) ∧ Below w.heap.size w w' := by
  obtain ⟨n, rfl⟩ : ∃ n, m = n + 1 := ⟨m - 1, by omega⟩
  rw [show n + 1 - 1 = n by omega]
  have hP := hide (fun W => Power_any n W (by omega))
  have hpb : (1000 : Int) ^ n ≤ 1000000000000000 := by
    have : n = 0 ∨ n = 1 ∨ n = 2 ∨ n = 3 ∨ n = 4 ∨ n = 5 := by omega
    rcases this with e | e | e | e | e | e <;> rw [e] <;> decide
  have hp0 := (pow1000_b (k := n) (by omega)).2
  generalize (1000 : Int) ^ n = p at *
  obtain ⟨y, hy⟩ : ∃ y, ch * p = y := ⟨_, rfl⟩
  have hyb : 0 ≤ y ∧ y ≤ 1000000000000000000 := by
    rw [← hy]
    exact ⟨Int.mul_nonneg hch.1 (by omega), Int.le_trans (Int.mul_le_mul hch.2 hpb (by omega) (by omega)) (by decide)⟩
  rw [hy]
  have hw1 : IntKind.i64.wrap (ch * p) = y := by rw [hy, IntKind.wrap_i64]; omega
  have hw2 : IntKind.i64.wrap ((((n + 1 : Nat) : Int)) - 1) = n := by rw [IntKind.wrap_i64]; omega
  have hn6 : n ≤ 5 := by omega
  clear hy hyb hpb hp0 hch hm
  have kT := hide (show Blk (w.alloc (.cells #[.slice B (n + 1) cb, .int .i64 al] 48)) w.heap.size 48 #[.slice B (n + 1) cb, .int .i64 al] from blkNew rfl)
  have hB := hide (show Below w.heap.size w (w.alloc (.cells #[.slice B (n + 1) cb, .int .i64 al] 48)) from (Below.refl _ _).alloc (Nat.le_refl _) _)
  have t0 : (w.alloc (.cells #[.slice B (n + 1) cb, .int .i64 al] 48)).cell? ⟨w.heap.size, 0, none⟩ = some (.slice B (n + 1) cb) := kT.out.cell 0
  go_enter Try.func83, Try.ntmps83
  go_wp2_with fail
  refine (hP.out _).mono ?_
  rintro e w1 ⟨rfl, rfl⟩
  go_wp2
  go_ret
  exact ⟨rfl, hB.out⟩
end Go.Proofs.Ytkhijdbigpaagaa

/-
  The reference's tested and Chance.
-/
namespace Go.Proofs.Ytkhijdbigpaagaa
open Go.RowKit RG

set_option maxRecDepth 100000 in
set_option maxHeartbeats 4000000 in
theorem tested_any (v : Value) (S : Sch) (B L : Option Addr) (m cb k cl : Nat) (ts : List (Int × Int)) (al : Int) (rs : List Sp) (ch : Int) (w : World) (h : RdSch w v S) (ht : RdRow w B m 2 (ts.map tkCells)) (hm : m ≤ maxLen)
    (hls : RdRow w L k 2 (rs.map tkCells)) (hk : k ≤ maxLen) :
    Calls Try.prog 81 #[v, .agg #[.slice B m cb, .int .i64 al], .slice L k cl, .int .i64 ch] w fun e w' => e = .returned (.int .i64 (readyE S ts al rs ch)) ∧ Below w.heap.size w w' := by
  have hC := hide (fun W (hb : Below w.heap.size w W) => CheckR_any v S W (h.below hb))
  obtain ⟨A, c, A2, c2, rfl, -, h3, -⟩ := h
  have hT := hide (fun W (hb : Below w.heap.size w W) => testR_any A A2 B S.sks.length c S.ins.length c2 m cb ts al W h3 (ht.below hb) hm)
  have hG := hide (fun W (hb : Below w.heap.size w W) => rangesR_any A A2 L S.sks.length c S.ins.length c2 k cl rs W h3 (hls.below hb) hk)
  obtain ⟨r, hr⟩ : ∃ r, readyE S ts al rs ch = r := ⟨_, rfl⟩
  rw [hr]
  unfold readyE at hr
  rw [testE_is] at hr
  unfold Ret3 at hC
  generalize checkS S = q at *
  obtain ⟨q0, q1, q2⟩ := q
  generalize test0 S.sks.length ts al = te at *
  generalize rangesE S.sks.length rs = re at *
  simp only at hr hC
  clear ht hls hm hk h3
  generalize S.sks.length = n at *
  generalize S.ins.length = n2 at *
  obtain ⟨W0, hW0⟩ : ∃ W0, (w.alloc (.cells #[.slice A n c, .slice A2 n2 c2] 25)).alloc (.cells #[.slice B m cb, .int .i64 al] 48) = W0 := ⟨_, rfl⟩
  have kS := hide (show Blk W0 w.heap.size 25 #[.slice A n c, .slice A2 n2 c2] by rw [← hW0]; exact (blkNew rfl).alloc _)
  have kT := hide (show Blk W0 (w.heap.size + 1) 48 #[.slice B m cb, .int .i64 al] by rw [← hW0]; exact blkNew (by simp))
  have hB := hide (show Below w.heap.size w W0 by rw [← hW0]; exact ((Below.refl _ _).alloc (Nat.le_refl _) _).alloc (by simp) _)
  have s0 : W0.cell? ⟨w.heap.size, 0, none⟩ = some (.slice A n c) := kS.out.cell 0
  have s1 : W0.cell? ⟨w.heap.size, 1, none⟩ = some (.slice A2 n2 c2) := kS.out.cell 1
  rw [← hW0] at s0 s1
  replace hW0 := hide hW0
  replace hr := hide hr
  go_enter Try.func81, Try.ntmps81
  go_wp2_with fail
  rw [hW0.out]
  refine (hC.out _ hB.out).mono ?_
  rintro e w1 ⟨rfl, hb⟩
  replace kS := hide (kS.out.below hb kS.out.lt)
  replace kT := hide (kT.out.below hb kT.out.lt)
  replace hB := hide (hB.out.trans (hb.mono hB.out.size))
  clear hb s0 s1 hC hW0
  have s0 : w1.cell? ⟨w.heap.size, 0, none⟩ = some (.slice A n c) := kS.out.cell 0
  have s1 : w1.cell? ⟨w.heap.size, 1, none⟩ = some (.slice A2 n2 c2) := kS.out.cell 1
  have t0 : w1.cell? ⟨w.heap.size + 1, 0, none⟩ = some (.slice B m cb) := kT.out.cell 0
  have t1 : w1.cell? ⟨w.heap.size + 1, 1, none⟩ = some (.int .i64 al) := kT.out.cell 1
  by_cases h2 : q2 = 0
  · subst h2
    have hr1 := hr.out
    rw [if_pos rfl] at hr1
    replace hr1 := hide hr1
    clear hr
    go_wp2_with fail
    refine (hT.out _ hB.out).mono ?_
    rintro e w2 ⟨rfl, hb⟩
    replace kS := hide (kS.out.below hb kS.out.lt)
    replace hB := hide (hB.out.trans (hb.mono hB.out.size))
    clear hb s0 s1 t0 t1 hT kT
    have s0 : w2.cell? ⟨w.heap.size, 0, none⟩ = some (.slice A n c) := kS.out.cell 0
    have s1 : w2.cell? ⟨w.heap.size, 1, none⟩ = some (.slice A2 n2 c2) := kS.out.cell 1
    by_cases h2 : te = 0
    · subst h2
      have hr := hr1.out
      rw [if_pos rfl] at hr
      replace hr := hide hr
      clear hr1
      go_wp2_with fail
      refine (hG.out _ hB.out).mono ?_
      rintro e w3 ⟨rfl, hb⟩
      replace hB := hide (hB.out.trans (hb.mono hB.out.size))
      clear hb s0 s1 hG kS
      by_cases h2 : re = 0
      · subst h2
        have hr1 := hr.out
        rw [if_pos rfl] at hr1
        replace hr1 := hide hr1
        clear hr
        go_wp2_with fail
        refine (inRef_any ch 0 1000 _).mono ?_
        rintro e w4 ⟨rfl, rfl⟩
        cases hq : inB 0 1000 ch with
        | false =>
          have hr := hr1.out
          rw [hq, if_neg (by simp)] at hr
          subst hr
          clear hq
          go_wp2
          go_ret
          exact ⟨rfl, hB.out⟩
        | true =>
          have hr := hr1.out
          rw [hq, if_pos rfl] at hr
          subst hr
          clear hq
          go_wp2
          go_ret
          exact ⟨rfl, hB.out⟩
      · have hr1 := hr.out
        rw [if_neg h2] at hr1
        subst hr1
        have hb1 : (re == 0) = false := by rw [beq_eq_false_iff_ne]; exact h2
        replace h2 := hide h2
        clear hr
        go_wp2
        go_ret
        exact ⟨rfl, hB.out⟩
    · have hr2 := hr1.out
      rw [if_neg h2] at hr2
      subst hr2
      have hb1 : (te == 0) = false := by rw [beq_eq_false_iff_ne]; exact h2
      replace h2 := hide h2
      clear hr1 hG
      go_wp2
      go_ret
      exact ⟨rfl, hB.out⟩
  · have hr1 := hr.out
    rw [if_neg h2, if_neg h2] at hr1
    subst hr1
    have hb1 : (q2 == 0) = false := by rw [beq_eq_false_iff_ne]; exact h2
    replace h2 := hide h2
    clear hr hT hG s0 s1 t0 t1
    go_wp2
    go_ret
    exact ⟨rfl, hB.out⟩
end Go.Proofs.Ytkhijdbigpaagaa

/-
  The reference's Chance.
-/
namespace Go.Proofs.Ytkhijdbigpaagaa
open Go.RowKit RG

theorem passed_at (B L : Option Addr) (m cb k cl : Nat) (S : Sch) (ts : List (Int × Int)) (al : Int) (ls : List Int) (h0 : testE S ts al = 0) (hks : k = S.sks.length) (hal : ∀ j, j < k → 0 ≤ ls[j]?.getD 0 ∧ ls[j]?.getD 0 ≤ 1000) (hl : ts.length = m)
    (W : World) (ht : RdRow W B m 2 (ts.map tkCells)) (hr : RdInts W L k ls) :
    Calls Try.prog 78 #[.agg #[.slice B m cb, .int .i64 al], .slice L k cl, .int .i64 0, .int .i64 al] W fun e w' => e = .returned (.int .i64 (fk (ts.map (doneT ls)) al.toNat)) ∧ Below W.heap.size W w' := by
  obtain ⟨h00, h1, h2, h3, h4, h5⟩ := test_ok h0
  obtain ⟨_, h6, _⟩ := check_ok h00
  have := passed_any B L m cb k cl ts ls al (by omega) (by omega) (fun i hi => by
    obtain ⟨s, l, e, e1, e2⟩ := h5 i (by omega)
    rw [e]
    simp only
    omega) hal hl (m - 0) 0 al W rfl (Nat.zero_le _) (by omega) (by omega) ht hr
  rw [List.drop_zero] at this
  unfold passV at this
  rw [if_neg (by omega)] at this
  exact this

set_option maxRecDepth 100000 in
set_option maxHeartbeats 4000000 in
theorem ChanceR_any (v : Value) (S : Sch) (B L : Option Addr) (m cb k cl : Nat) (ts : List (Int × Int)) (al : Int) (ls : List Int) (w : World) (h : RdSch w v S) (ht : RdRow w B m 2 (ts.map tkCells)) (hm : m ≤ maxLen)
    (hls : RdInts w L k ls) (hk : k ≤ maxLen) :
    Calls Try.prog 31 #[v, .agg #[.slice B m cb, .int .i64 al], .slice L k cl] w fun e w' => e = .returned (.tuple #[.int .i64 (chanceF S ts al ls).1, .int .i64 (chanceF S ts al ls).2]) ∧ Below w.heap.size w w' := by
  have hl : ts.length = m := by have := ht.1; simpa using this
  have hkl : ls.length = k := hls.1
  have hC := hide (fun W (hb : Below w.heap.size w W) => CheckR_any v S W (h.below hb))
  obtain ⟨A, c, A2, c2, rfl, -, h3, -⟩ := h
  have hT := hide (fun W (hb : Below w.heap.size w W) => testR_any A A2 B S.sks.length c S.ins.length c2 m cb ts al W h3 (ht.below hb) hm)
  have hP := hide (fun (h0 : testE S ts al = 0) (hks : k = S.sks.length) (hal : ∀ j, j < k → inB 0 1000 (ls[j]?.getD 0) = true) W (hb : Below w.heap.size w W) => passed_at B L m cb k cl S ts al ls h0 hks (fun j hj => inB_iff.1 (hal j hj)) hl W (ht.below hb) (hls.below hb))
  have hrow := hide (fun W (hb : Below w.heap.size w W) => hls.below hb)
  have hallT := hide (fun (hal : ∀ j, j < k → inB 0 1000 (ls[j]?.getD 0) = true) => show ls.all (inB 0 1000) = true by
    rw [List.all_eq_true]
    intro x hx
    obtain ⟨j, hj, rfl⟩ := List.mem_iff_getElem.1 hx
    have := hal j (by omega)
    rwa [List.getElem?_eq_getElem hj] at this)
  have hallF := hide (fun j (hj : j < k) (hq : inB 0 1000 (ls[j]?.getD 0) = false) => show ls.all (inB 0 1000) = false by
    refine all_no _ ls j (by omega) ?_
    rwa [List.getElem?_eq_getElem (by omega)] at hq)
  obtain ⟨r, hr⟩ : ∃ r, chanceF S ts al ls = r := ⟨_, rfl⟩
  rw [hr]
  unfold chanceF at hr
  rw [hkl] at hr
  rw [testE_is] at hr hP
  unfold Ret3 at hC
  generalize checkS S = q at *
  obtain ⟨q0, q1, q2⟩ := q
  generalize test0 S.sks.length ts al = te at *
  generalize fk (ts.map (doneT ls)) al.toNat = fv at *
  simp only at hr hC hP
  clear ht hls hm hl hkl
  generalize S.sks.length = n at *
  generalize S.ins.length = n2 at *
  unfold maxLen at hk h3
  obtain ⟨W0, hW0⟩ : ∃ W0, (w.alloc (.cells #[.slice A n c, .slice A2 n2 c2] 25)).alloc (.cells #[.slice B m cb, .int .i64 al] 48) = W0 := ⟨_, rfl⟩
  have kS := hide (show Blk W0 w.heap.size 25 #[.slice A n c, .slice A2 n2 c2] by rw [← hW0]; exact (blkNew rfl).alloc _)
  have kT := hide (show Blk W0 (w.heap.size + 1) 48 #[.slice B m cb, .int .i64 al] by rw [← hW0]; exact blkNew (by simp))
  have hB := hide (show Below w.heap.size w W0 by rw [← hW0]; exact ((Below.refl _ _).alloc (Nat.le_refl _) _).alloc (by simp) _)
  have s0 : W0.cell? ⟨w.heap.size, 0, none⟩ = some (.slice A n c) := kS.out.cell 0
  have s1 : W0.cell? ⟨w.heap.size, 1, none⟩ = some (.slice A2 n2 c2) := kS.out.cell 1
  rw [← hW0] at s0 s1
  replace hW0 := hide hW0
  replace hr := hide hr
  go_enter Try.func31, Try.ntmps31
  go_wp2_with fail
  rw [hW0.out]
  refine (hC.out _ hB.out).mono ?_
  rintro e w1 ⟨rfl, hb⟩
  replace kS := hide (kS.out.below hb kS.out.lt)
  replace kT := hide (kT.out.below hb kT.out.lt)
  replace hB := hide (hB.out.trans (hb.mono hB.out.size))
  clear hb s0 s1 hC hW0
  have s0 : w1.cell? ⟨w.heap.size, 0, none⟩ = some (.slice A n c) := kS.out.cell 0
  have s1 : w1.cell? ⟨w.heap.size, 1, none⟩ = some (.slice A2 n2 c2) := kS.out.cell 1
  have t0 : w1.cell? ⟨w.heap.size + 1, 0, none⟩ = some (.slice B m cb) := kT.out.cell 0
  have t1 : w1.cell? ⟨w.heap.size + 1, 1, none⟩ = some (.int .i64 al) := kT.out.cell 1
  by_cases h2 : q2 = 0
  · subst h2
    have hr1 := hr.out
    rw [if_pos rfl] at hr1
    rw [if_pos rfl] at hP
    replace hr1 := hide hr1
    clear hr
    go_wp2_with fail
    refine (hT.out _ hB.out).mono ?_
    rintro e w2 ⟨rfl, hb⟩
    replace kS := hide (kS.out.below hb kS.out.lt)
    replace kT := hide (kT.out.below hb kT.out.lt)
    replace hB := hide (hB.out.trans (hb.mono hB.out.size))
    clear hb s0 s1 t0 t1 hT
    have s0 : w2.cell? ⟨w.heap.size, 0, none⟩ = some (.slice A n c) := kS.out.cell 0
    by_cases h2 : te = 0
    · subst h2
      have hr := hr1.out
      rw [if_pos rfl] at hr
      replace hP := hide (hP.out rfl)
      replace hr := hide hr
      clear hr1
      by_cases hkn : k = n
      · subst hkn
        have hr1 := hr.out
        rw [if_pos rfl] at hr1
        replace hP := hide (hP.out rfl)
        replace hr1 := hide hr1
        clear hr
        have hb1 : ((k : Int) != (k : Int)) = false := by simp
        go_wp2
        clear s0
        go_loopg [10, 11] (k + 1) (fun g s10 s11 wr => ∃ j : Nat, j ≤ k ∧ k + 1 - j ≤ g ∧ s11 = .int .i64 j ∧ Hid (Below w.heap.size w wr) ∧ Hid (Blk wr (w.heap.size + 1) 48 #[.slice B m cb, .int .i64 al]) ∧
          ((s10 = .int .i64 0 ∧ Hid (∀ i, i < j → inB 0 1000 (ls[i]?.getD 0) = true)) ∨ (s10 = .int .i64 7 ∧ Hid (ls.all (inB 0 1000) = false))))
        case atStart => exact ⟨0, Nat.zero_le _, by omega, rfl, hB, kT, .inl ⟨rfl, hide fun i h => absurd h (by omega)⟩⟩
        case round =>
          clear hB kT
          obtain ⟨j, hj, hg, rfl, hB, kT, ⟨rfl, hz⟩ | ⟨rfl, hz⟩⟩ := hrel
          · by_cases hlt : j < k
            · have hltz : (j : Int) < (k : Int) := by omega
              obtain ⟨b, off, rfl, hb, hc⟩ := (hrow.out wr hB.out).2 (by omega)
              have c0 := hc j hlt
              have hF := hide (hallF.out j hlt)
              have hnx := hide (fun (hq : inB 0 1000 (ls[j]?.getD 0) = true) => show ∀ i, i < j + 1 → inB 0 1000 (ls[i]?.getD 0) = true from fun i h1 => by
                by_cases e : i = j
                · subst e; exact hq
                · exact hz.out i (by omega))
              clear hc
              generalize ls[j]?.getD 0 = x at *
              go_wp2_with fail
              refine (inRef_any x 0 1000 _).mono ?_
              rintro e w3 ⟨rfl, rfl⟩
              clear c0
              cases hq : inB 0 1000 x with
              | false =>
                have hF1 := hide (hF.out hq)
                clear hq hF hnx
                go_wp2
                go_roundg (k - j)
                case measure => omega
                case rel => exact ⟨j + 1, by omega, by omega, by go_num, hB, kT, .inr ⟨rfl, hF1⟩⟩
              | true =>
                have hnx1 := hide (hnx.out hq)
                clear hq hF hnx
                go_wp2
                go_roundg (k - j)
                case measure => omega
                case rel => exact ⟨j + 1, by omega, by omega, by go_num, hB, kT, .inl ⟨rfl, hnx1⟩⟩
            · have hltz : ¬ (j : Int) < (k : Int) := by omega
              obtain rfl : j = k := by omega
              have hr := hr1.out
              rw [if_pos (hallT.out hz.out)] at hr
              subst hr
              have hP1 := hide (hP.out hz.out)
              have t0 : wr.cell? ⟨w.heap.size + 1, 0, none⟩ = some (.slice B m cb) := kT.out.cell 0
              have t1 : wr.cell? ⟨w.heap.size + 1, 1, none⟩ = some (.int .i64 al) := kT.out.cell 1
              clear hP hz hallT hallF
              go_wp2_with fail
              refine (hP1.out _ hB.out).mono ?_
              rintro e w4 ⟨rfl, hb⟩
              replace hB := hide (hB.out.trans (hb.mono hB.out.size))
              clear hb t0 t1
              go_wp2
              go_ret2
              exact ⟨rfl, hB.out⟩
          · have hr := hr1.out
            rw [hz.out, if_neg (by simp)] at hr
            subst hr
            clear hP hz hallT hallF
            by_cases hlt : j < k
            · have hltz : (j : Int) < (k : Int) := by omega
              go_wp2
              go_ret2
              exact ⟨rfl, hB.out⟩
            · have hltz : ¬ (j : Int) < (k : Int) := by omega
              go_wp2
              go_ret2
              exact ⟨rfl, hB.out⟩
      · have hr1 := hr.out
        rw [if_neg hkn] at hr1
        subst hr1
        have hb1 : ((k : Int) != (n : Int)) = true := by simp; omega
        replace hkn := hide hkn
        clear hr hP hallT hallF
        by_cases hk0 : 0 < k
        · have hkz : (0 : Int) < (k : Int) := by omega
          go_wp2
          go_loopg [10, 11] 0 (fun g s10 s11 wr => s10 = .int .i64 3 ∧ s11 = .int .i64 0 ∧ Hid (Below w.heap.size w wr))
          case atStart => exact ⟨rfl, rfl, hB⟩
          case round =>
            clear hB
            obtain ⟨rfl, rfl, hB⟩ := hrel
            go_wp2
            go_ret2
            exact ⟨rfl, hB.out⟩
        · obtain rfl : k = 0 := by omega
          go_wp2
          go_loopg [10, 11] 0 (fun g s10 s11 wr => s10 = .int .i64 3 ∧ s11 = .int .i64 0 ∧ Hid (Below w.heap.size w wr))
          case atStart => exact ⟨rfl, rfl, hB⟩
          case round =>
            clear hB
            obtain ⟨rfl, rfl, hB⟩ := hrel
            go_wp2
            go_ret2
            exact ⟨rfl, hB.out⟩
    · have hr2 := hr1.out
      rw [if_neg h2] at hr2
      subst hr2
      have hb1 : (te == 0) = false := by rw [beq_eq_false_iff_ne]; exact h2
      have hb2 : (te != 0) = true := by rw [bne_iff_ne]; exact h2
      replace h2 := hide h2
      clear hr1 hP hallT hallF
      by_cases hk0 : 0 < k
      · have hkz : (0 : Int) < (k : Int) := by omega
        go_wp2
        go_loopg [10, 11] 0 (fun g s10 s11 wr => s10 = .int .i64 te ∧ s11 = .int .i64 0 ∧ Hid (Below w.heap.size w wr))
        case atStart => exact ⟨rfl, rfl, hB⟩
        case round =>
          clear hB
          obtain ⟨rfl, rfl, hB⟩ := hrel
          go_wp2
          go_ret2
          exact ⟨rfl, hB.out⟩
      · obtain rfl : k = 0 := by omega
        go_wp2
        go_loopg [10, 11] 0 (fun g s10 s11 wr => s10 = .int .i64 te ∧ s11 = .int .i64 0 ∧ Hid (Below w.heap.size w wr))
        case atStart => exact ⟨rfl, rfl, hB⟩
        case round =>
          clear hB
          obtain ⟨rfl, rfl, hB⟩ := hrel
          go_wp2
          go_ret2
          exact ⟨rfl, hB.out⟩
  · have hr1 := hr.out
    rw [if_neg h2, if_neg h2] at hr1
    subst hr1
    have hb1 : (q2 == 0) = false := by rw [beq_eq_false_iff_ne]; exact h2
    have hb2 : (q2 != 0) = true := by rw [bne_iff_ne]; exact h2
    replace h2 := hide h2
    clear hr hP hallT hallF hT s0 s1 t0 t1
    by_cases hk0 : 0 < k
    · have hkz : (0 : Int) < (k : Int) := by omega
      go_wp2
      go_loopg [10, 11] 0 (fun g s10 s11 wr => s10 = .int .i64 q2 ∧ s11 = .int .i64 0 ∧ Hid (Below w.heap.size w wr))
      case atStart => exact ⟨rfl, rfl, hB⟩
      case round =>
        clear hB
        obtain ⟨rfl, rfl, hB⟩ := hrel
        go_wp2
        go_ret2
        exact ⟨rfl, hB.out⟩
    · obtain rfl : k = 0 := by omega
      go_wp2
      go_loopg [10, 11] 0 (fun g s10 s11 wr => s10 = .int .i64 q2 ∧ s11 = .int .i64 0 ∧ Hid (Below w.heap.size w wr))
      case atStart => exact ⟨rfl, rfl, hB⟩
      case round =>
        clear hB
        obtain ⟨rfl, rfl, hB⟩ := hrel
        go_wp2
        go_ret2
        exact ⟨rfl, hB.out⟩
end Go.Proofs.Ytkhijdbigpaagaa

/-
  The reference's Ready.
-/
namespace Go.Proofs.Ytkhijdbigpaagaa
open Go.RowKit RG

set_option maxRecDepth 100000 in
set_option maxHeartbeats 4000000 in
theorem ReadyR_any (v : Value) (S : Sch) (B L : Option Addr) (m cb k cl : Nat) (ts : List (Int × Int)) (al : Int) (rs : List Sp) (ch : Int) (w : World) (h : RdSch w v S) (ht : RdRow w B m 2 (ts.map tkCells)) (hm : m ≤ maxLen)
    (hls : RdRow w L k 2 (rs.map tkCells)) (hk : k ≤ maxLen) :
    Calls Try.prog 33 #[v, .agg #[.slice B m cb, .int .i64 al], .slice L k cl, .int .i64 ch] w fun e w' =>
      e = .returned (.tuple #[.bool (readyF S ts al rs ch).1, .int .i64 (readyF S ts al rs ch).2.1, .int .i64 (readyF S ts al rs ch).2.2.1, .int .i64 (readyF S ts al rs ch).2.2.2]) ∧ Below w.heap.size w w' := by
  have hl : ts.length = m := by have := ht.1; simpa using this
  have hkl : rs.length = k := by have := hls.1; simpa using this
  have hT := hide (fun W (hb : Below w.heap.size w W) => tested_any v S B L m cb k cl ts al rs ch W (h.below hb) (ht.below hb) hm (hls.below hb) hk)
  have hFacts : readyE S ts al rs ch = 0 → k ≤ 5 ∧ (1 ≤ m ∧ m ≤ 6) ∧ (0 ≤ ch ∧ ch ≤ 1000) ∧ testE S ts al = 0 ∧ k = S.sks.length ∧ ∀ i, i < k → 0 ≤ (rs[i]?.getD (0, 0)).1 ∧ (rs[i]?.getD (0, 0)).1 ≤ (rs[i]?.getD (0, 0)).2 ∧ (rs[i]?.getD (0, 0)).2 ≤ 1000 := fun h0 => by
    obtain ⟨h1, h2, h3, h4⟩ := ready_ok h0
    obtain ⟨h5, h6, h7, _⟩ := test_ok h1
    obtain ⟨_, h8, _⟩ := check_ok h5
    obtain ⟨h9, h10⟩ := ranges_ok h2
    exact ⟨by omega, ⟨by omega, by omega⟩, ⟨h3, h4⟩, h1, by omega, fun i hi => h10 i (by omega)⟩
  have hE1 := hide (fun (h5 : k ≤ 5) W (hb : Below w.heap.size w W) => endsLo_any L k cl rs W (hls.below hb) h5)
  have hE2 := hide (fun (h5 : k ≤ 5) W (hb : Below w.heap.size w W) => endsHi_any L k cl rs W (hls.below hb) h5)
  have hP := hide (fun (h0 : testE S ts al = 0) (hks : k = S.sks.length) (A : Option Addr) (c : Nat) (ls : List Int) (hal : ∀ j, j < k → 0 ≤ ls[j]?.getD 0 ∧ ls[j]?.getD 0 ≤ 1000) W (hb : Below w.heap.size w W) (hr : RdInts W A k ls) => passed_at B A m cb k c S ts al ls h0 hks hal hl W (ht.below hb) hr)
  obtain ⟨r, hr⟩ : ∃ r, readyF S ts al rs ch = r := ⟨_, rfl⟩
  rw [hr]
  unfold readyF at hr
  have hatL : ∀ ls, atL ts al ls = fk (ts.map (doneT ls)) al.toNat := fun _ => rfl
  rw [hatL, hatL] at hr
  rw [hl] at hr
  obtain ⟨A, c, A2, c2, rfl, -⟩ := h
  generalize readyE S ts al rs ch = q at *
  generalize S.ins.length = n2 at *
  obtain ⟨W0, hW0⟩ : ∃ W0, (w.alloc (.cells #[.slice A S.sks.length c, .slice A2 n2 c2] 25)).alloc (.cells #[.slice B m cb, .int .i64 al] 48) = W0 := ⟨_, rfl⟩
  have kT := hide (show Blk W0 (w.heap.size + 1) 48 #[.slice B m cb, .int .i64 al] by rw [← hW0]; exact blkNew (by simp))
  have hB := hide (show Below w.heap.size w W0 by rw [← hW0]; exact ((Below.refl _ _).alloc (Nat.le_refl _) _).alloc (by simp) _)
  have kS := hide (show Blk W0 w.heap.size 25 #[.slice A S.sks.length c, .slice A2 n2 c2] by rw [← hW0]; exact (blkNew rfl).alloc _)
  have s0 : W0.cell? ⟨w.heap.size, 0, none⟩ = some (.slice A S.sks.length c) := kS.out.cell 0
  have s1 : W0.cell? ⟨w.heap.size, 1, none⟩ = some (.slice A2 n2 c2) := kS.out.cell 1
  have t0 : W0.cell? ⟨w.heap.size + 1, 0, none⟩ = some (.slice B m cb) := kT.out.cell 0
  have t1 : W0.cell? ⟨w.heap.size + 1, 1, none⟩ = some (.int .i64 al) := kT.out.cell 1
  rw [← hW0] at s0 s1 t0 t1
  replace hW0 := hide hW0
  clear ht hls hm hk
  by_cases h2 : q = 0
  · subst h2
    rw [if_pos rfl] at hr
    obtain ⟨hk5, hm6, hch, hte, hks, hrb⟩ := hFacts rfl
    replace hE1 := hide (hE1.out hk5)
    replace hE2 := hide (hE2.out hk5)
    have hb1 : ∀ j, j < k → 0 ≤ (rs.map (fun s : Sp => s.1))[j]?.getD 0 ∧ (rs.map (fun s : Sp => s.1))[j]?.getD 0 ≤ 1000 := fun j hj => by
      have := hrb j hj
      rw [List.getElem?_map, List.getElem?_eq_getElem (by omega)]
      rw [List.getElem?_eq_getElem (by omega)] at this
      simp only [Option.map_some, Option.getD_some] at this ⊢
      omega
    have hb2 : ∀ j, j < k → 0 ≤ (rs.map (fun s : Sp => s.2))[j]?.getD 0 ∧ (rs.map (fun s : Sp => s.2))[j]?.getD 0 ≤ 1000 := fun j hj => by
      have := hrb j hj
      rw [List.getElem?_map, List.getElem?_eq_getElem (by omega)]
      rw [List.getElem?_eq_getElem (by omega)] at this
      simp only [Option.map_some, Option.getD_some] at this ⊢
      omega
    have hP1 := hide (fun A c => hP.out hte hks A c _ hb1)
    have hP2 := hide (fun A c => hP.out hte hks A c _ hb2)
    have hn1 : (rs.map (fun s : Sp => s.1)).length = k := by rw [List.length_map]; exact hkl
    have hn2 : (rs.map (fun s : Sp => s.2)).length = k := by rw [List.length_map]; exact hkl
    clear hP hb1 hb2 hFacts hrb hkl hl hatL
    have hr' := hr
    rw [show (rs.map (·.1)) = rs.map (fun s : Sp => s.1) from rfl, show (rs.map (·.2)) = rs.map (fun s : Sp => s.2) from rfl] at hr'
    clear hr
    generalize rs.map (fun s : Sp => s.1) = l1 at *
    generalize rs.map (fun s : Sp => s.2) = l2 at *
    generalize fk (ts.map (doneT l1)) al.toNat = v1 at *
    generalize fk (ts.map (doneT l2)) al.toNat = v2 at *
    subst hr'
    have hEn := hide (fun W => enough_any B m cb al v1 ch W hm6 hch)
    replace hn1 := hide hn1
    replace hn2 := hide hn2
    replace hks := hide hks
    clear hk5 hm6 hch hte
    go_enter Try.func33, Try.ntmps33
    go_wp2_with fail
    rw [hW0.out]
    refine (hT.out _ hB.out).mono ?_
    rintro e w1 ⟨rfl, hb⟩
    replace kT := hide (kT.out.below hb kT.out.lt)
    replace hB := hide (hB.out.trans (hb.mono hB.out.size))
    clear hb s0 s1 t0 t1 kS hT hW0
    go_wp2
    refine region_grow [IsV (.agg #[.slice B m cb, .int .i64 al]), IsV (.slice L k cl), IsInts l1, IsV (.pointer (some ⟨w.heap.size + 1, 1, none⟩)), IsV (.int .i64 al), IsV (.int .i64 v1),
      IsV (.agg #[.slice B m cb, .int .i64 al]), IsV (.slice L k cl), IsInts l2, IsV (.pointer (some ⟨w.heap.size + 1, 1, none⟩)), IsV (.int .i64 al), IsV (.int .i64 v2), IsV (.int .i64 v1), IsV (.int .i64 v2)] (by kernel_rfl) (by kernel_rfl) rfl ?_ ?_ ?_
    · simp [AllStb, IsV.stb, IsInts.stb]
    · refine ⟨?_, ?_, ?_, ?_, ?_, ?_, ?_, ?_, ?_, ?_, ?_, ?_, ?_, ?_, trivial⟩
      all_goals
        intro y w6 K Qq Cv hC hd hV
        have k6 := kT.out.below hC kT.out.lt
        have q0 : w6.cell? ⟨w.heap.size + 1, 0, none⟩ = some (.slice B m cb) := k6.cell 0
        have q1 : w6.cell? ⟨w.heap.size + 1, 1, none⟩ = some (.int .i64 al) := k6.cell 1
        have hB6 := hB.out.trans (hC.mono hB.out.size)
      all_goals try (simp [deps, VL, IsV, Region.binds] at hd)
      · simp only [putAll, Act.put]; go_simp; intro hK; exact hK _ _ (hV _ _ hC (Below.refl _ _) rfl)
      · simp only [putAll, Act.put]; go_simp; intro hK; exact hK _ _ (hV _ _ hC (Below.refl _ _) rfl)
      · simp only [putAll, Act.put]; go_simp; intro hK; refine (hE1.out _ hB6).mono ?_; rintro e w7 ⟨⟨x, rfl, hx⟩, hb7⟩; exact hK _ _ (hV _ _ (hC.trans (hb7.mono hC.size)) hb7 hx)
      · simp only [putAll, Act.put]; go_simp; intro hK; exact hK _ _ (hV _ _ hC (Below.refl _ _) rfl)
      · simp only [putAll, Act.put]; go_simp; intro hK; exact hK _ _ (hV _ _ hC (Below.refl _ _) rfl)
      · obtain ⟨e0, ⟨A3, c3, e2, h3, _⟩, e4⟩ := hd
        rw [hn1.out] at e2 h3
        have hPq := hide (hP1.out A3 c3 w6 hB6 h3)
        clear h3
        simp only [putAll, Act.put]; go_simp; intro hK; refine (hPq.out).mono ?_; rintro e w7 ⟨rfl, hb7⟩; exact hK _ _ (hV _ _ (hC.trans (hb7.mono hC.size)) hb7 rfl)
      · simp only [putAll, Act.put]; go_simp; intro hK; exact hK _ _ (hV _ _ hC (Below.refl _ _) rfl)
      · simp only [putAll, Act.put]; go_simp; intro hK; exact hK _ _ (hV _ _ hC (Below.refl _ _) rfl)
      · simp only [putAll, Act.put]; go_simp; intro hK; refine (hE2.out _ hB6).mono ?_; rintro e w7 ⟨⟨x, rfl, hx⟩, hb7⟩; exact hK _ _ (hV _ _ (hC.trans (hb7.mono hC.size)) hb7 hx)
      · simp only [putAll, Act.put]; go_simp; intro hK; exact hK _ _ (hV _ _ hC (Below.refl _ _) rfl)
      · simp only [putAll, Act.put]; go_simp; intro hK; exact hK _ _ (hV _ _ hC (Below.refl _ _) rfl)
      · obtain ⟨e0, ⟨A3, c3, e2, h3, _⟩, e4⟩ := hd
        rw [hn2.out] at e2 h3
        have hPq := hide (hP2.out A3 c3 w6 hB6 h3)
        clear h3
        simp only [putAll, Act.put]; go_simp; intro hK; refine (hPq.out).mono ?_; rintro e w7 ⟨rfl, hb7⟩; exact hK _ _ (hV _ _ (hC.trans (hb7.mono hC.size)) hb7 rfl)
      · simp only [putAll, Act.put]; go_simp; intro hK; exact hK _ _ (hV _ _ hC (Below.refl _ _) rfl)
      · simp only [putAll, Act.put]; go_simp; intro hK; exact hK _ _ (hV _ _ hC (Below.refl _ _) rfl)
    intro y w6 hC hd
    simp [EndsL, IsV] at hd
    obtain ⟨d0, d1, d2, d3, d4, d5, d6, d7, d8, d9, d10, d11, d12, d13⟩ := hd
    obtain ⟨A3, c3, d2, -, -⟩ := d2
    obtain ⟨A4, c4, d8, -, -⟩ := d8
    simp only [putAll, Act.put]
    rw [d0, d1, d2, d3, d4, d5, d6, d7, d8, d9, d10, d11, d12, d13]
    clear d0 d1 d2 d3 d4 d5 d6 d7 d8 d9 d10 d11 d12 d13
    simp only [List.setIfInBounds_toArray, List.set_cons_succ, List.set_cons_zero]
    have hB4 := hide (hB.out.trans (hC.mono hB.out.size))
    have k5 := kT.out.below hC kT.out.lt
    have y0 : w6.cell? ⟨w.heap.size + 1, 0, none⟩ = some (.slice B m cb) := k5.cell 0
    have y1 : w6.cell? ⟨w.heap.size + 1, 1, none⟩ = some (.int .i64 al) := k5.cell 1
    clear k5 hC hP1 hP2 hE1 hE2 hB kT
    go_wp2_with fail
    refine (hEn.out _).mono ?_
    rintro e w7 ⟨rfl, hb7⟩
    have hB7 := hide (hB4.out.trans (hb7.mono hB4.out.size))
    clear hb7 y0 y1
    go_wp2
    refine bodyPost_ret (v := .tuple #[.bool (decide (ch * 1000 ^ (m - 1) ≤ v1)), .int .i64 v1, .int .i64 v2, .int .i64 0]) (by simp [results, Try.results33, go_sem]) rfl ⟨rfl, hB7.out⟩
  · rw [if_neg h2] at hr
    subst hr
    have hb1 : (q != 0) = true := by rw [bne_iff_ne]; exact h2
    replace h2 := hide h2
    clear hFacts hatL hP hE1 hE2
    replace hl := hide hl
    replace hkl := hide hkl
    go_enter Try.func33, Try.ntmps33
    go_wp2_with fail
    rw [hW0.out]
    refine (hT.out _ hB.out).mono ?_
    rintro e w1 ⟨rfl, hb⟩
    replace hB := hide (hB.out.trans (hb.mono hB.out.size))
    clear hb s0 s1 t0 t1 kS kT hT hW0
    go_wp2
    refine bodyPost_ret (v := .tuple #[.bool false, .int .i64 0, .int .i64 0, .int .i64 q]) (by simp [results, Try.results33, go_sem]) rfl ⟨rfl, hB.out⟩
end Go.Proofs.Ytkhijdbigpaagaa
