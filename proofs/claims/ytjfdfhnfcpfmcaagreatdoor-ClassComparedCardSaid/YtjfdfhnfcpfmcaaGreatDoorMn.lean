import Derived.Test.YtjfdfhnfcpfmcaaGreatDoorMm
import Derived.Test.YtjfdfhnfcpfmcaaGreatDoorMk
/-
  The reference's Sets, Has and Rights.
-/
namespace Go.Proofs.YtjfdfhnfcpfmcaaGreatDoor
open Go.RowKit RG

set_option maxHeartbeats 1000000 in
theorem SetsR_any (n : Nat) (w : World) (hn : n ≤ 40) : Calls Tryz.prog 52 #[.int .i64 n] w fun e w' => e = .returned (.int .i64 ((2 ^ n : Nat) : Int)) ∧ w = w' := by
  go_enter Tryz.func52, Tryz.ntmps52
  go_wp2
  go_loop [3, 4] (fun s3 s4 => ∃ k p : Nat, k ≤ n ∧ s4 = .int .i64 k ∧ s3 = .int .i64 p ∧ Hid (2 ^ k = p)) (fun _ i => n - (intOf i).toNat)
  case atStart => exact ⟨0, 1, Nat.zero_le _, rfl, rfl, rfl⟩
  case round =>
    obtain ⟨k, p, hk, rfl, rfl, hp⟩ := hrel
    by_cases hlt : k < n
    · have hltz : (k : Int) < (n : Int) := by omega
      have hpb : p < 2 ^ 40 := by rw [← hp.out]; exact Nat.pow_lt_pow_right (by omega) (by omega)
      have hpb : p < 1099511627776 := hpb
      have hp2 : 2 ^ (k + 1) = 2 * p := by rw [← hp.out, Nat.pow_succ, Nat.mul_comm]
      replace hp2 := hide hp2
      clear hp
      go_wp2
      go_round
      case measure => simp [intOf]; omega
      case rel => exact ⟨k + 1, 2 * p, by omega, by go_num, by go_num, hp2.out⟩
    · have hltz : ¬ (k : Int) < (n : Int) := by omega
      obtain rfl : k = n := by omega
      go_wp2
      go_ret
      exact ⟨ret_int (by rw [← hp.out]; norm_cast), rfl⟩
theorem hasB (x k : Nat) (hx : x < 2 ^ 40) : ((wrap64 ((x : Int) / ((2 ^ k : Nat) : Int))).tmod 2 == 1) = x.testBit k := by
  have hd : (x : Int) / ((2 ^ k : Nat) : Int) = ((x / 2 ^ k : Nat) : Int) := by norm_cast
  have hle : x / 2 ^ k < 1099511627776 := Nat.lt_of_le_of_lt (Nat.div_le_self _ _) hx
  rw [hd, Nat.testBit_eq_decide_div_mod_eq]
  generalize x / 2 ^ k = d at *
  have hw : wrap64 (d : Int) = (d : Int) := by unfold wrap64; omega
  rw [hw, Int.tmod_eq_emod_of_nonneg (Int.natCast_nonneg d)]
  by_cases h : d % 2 = 1
  · rw [decide_eq_true h, beq_iff_eq]; omega
  · rw [decide_eq_false h, beq_eq_false_iff_ne]; omega
set_option maxHeartbeats 1000000 in
theorem HasR_any (x k : Nat) (w : World) (hk : k ≤ 40) (hx : x < 2 ^ 40) : Calls Tryz.prog 55 #[.int .i64 x, .int .i64 k] w fun e w' => e = .returned (.bool (x.testBit k)) ∧ w = w' := by
  have hs := hide (fun W => SetsR_any k W hk)
  have hb := hasB x k hx
  have hx : x < 1099511627776 := hx
  have hp : 1 ≤ 2 ^ k := Nat.one_le_two_pow
  have hpb : 2 ^ k ≤ 2 ^ 40 := Nat.pow_le_pow_right (by omega) hk
  have hpb : 2 ^ k ≤ 1099511627776 := hpb
  generalize 2 ^ k = p at *
  replace hb := hide hb
  go_enter Tryz.func55, Tryz.ntmps55
  go_wp2_with fail
  refine (hs.out w).mono ?_
  rintro e w' ⟨rfl, rfl⟩
  go_wp2
  go_ret
  exact ⟨ret_bool hb.out, rfl⟩
end Go.Proofs.YtjfdfhnfcpfmcaaGreatDoor

/-
  The reference's Rights.
-/
namespace Go.Proofs.YtjfdfhnfcpfmcaaGreatDoor
open Go.RowKit RG

theorem firstErr_fin {err : Nat → Int} {k n : Nat} (hk : k < n) (h : err k ≠ 0) (h' : firstErr err 0 n = firstErr err k (n - k)) : (firstErr err 0 n).2 = err k := by rw [firstErr_at hk h h']
set_option maxHeartbeats 4000000 in
theorem RightsR_any (A A2 R : Option Addr) (n cc n2 c2 m cr : Nat) (rs : List (Int × Int)) (w : World) (hn : n ≤ maxLen) (hn2 : n2 ≤ 40) (h : RdRts w R m rs) :
    Calls Tryz.prog 51 #[.agg #[.slice A n cc, .slice A2 n2 c2], .slice R m cr] w fun e w' => e = .returned (.int .i64 (rightsF n n2 rs)) ∧ Below w.heap.size w w' := by
  have hl := h.len
  have hm := h.2
  unfold maxLen at hm hn
  have hB0 := hide ((Below.refl w.heap.size w).alloc (Nat.le_refl _) (.cells #[.slice A n cc, .slice A2 n2 c2] 38))
  obtain ⟨q, hq⟩ : ∃ q, rightsF n n2 rs = q := ⟨_, rfl⟩
  rw [hq]
  unfold rightsF at hq
  rw [hl] at hq
  by_cases h40 : 40 < m
  · rw [if_pos h40] at hq
    subst hq
    have h40' : (40 : Int) < m := by omega
    replace h := hide h
    clear hl
    go_enter Tryz.func51, Tryz.ntmps51
    go_wp2
    go_ret
    exact ⟨rfl, hB0.out⟩
  · rw [if_neg h40] at hq
    have h40' : ¬ (40 : Int) < m := by omega
    obtain ⟨err, herr⟩ : ∃ err : Nat → Int, err = fun i => rtErr n n2 (rs[i]?.getD (0, 0)) := ⟨_, rfl⟩
    rw [← herr] at hq
    have hS0 := hide (Blk.new_ (w := w) (g := w.heap.size) (t := 38) (cs := #[.slice A n cc, .slice A2 n2 c2]) rfl)
    have herr := hide (fun i => congrFun herr i)
    have hs := hide (fun W => SetsR_any n2 W hn2)
    have hpb : 2 ^ n2 ≤ 1099511627776 := Nat.le_trans (Nat.pow_le_pow_right (by omega) hn2) (show 2 ^ 40 ≤ 1099511627776 from Nat.le_refl _)
    have hp1 : 1 ≤ 2 ^ n2 := Nat.one_le_two_pow
    unfold rtErr at herr
    generalize 2 ^ n2 = p at *
    replace h := hide h
    replace hq := hide hq
    replace hl := hide hl
    go_enter Tryz.func51, Tryz.ntmps51
    go_wp2
    generalize w.alloc (.cells #[.slice A n cc, .slice A2 n2 c2] 38) = w0 at *
    go_loopg [5] m (fun g iv wr => ∃ i : Nat, i ≤ m ∧ m - i ≤ g ∧ iv = .int .i64 i ∧ Hid (Below w.heap.size w wr) ∧ Hid (Blk wr w.heap.size 38 #[.slice A n cc, .slice A2 n2 c2]) ∧ Hid (firstErr err 0 m = firstErr err i (m - i)))
    case atStart => exact ⟨0, Nat.zero_le _, by omega, rfl, hB0, hS0, rfl⟩
    case round =>
      clear hB0 hS0
      obtain ⟨i, hi, hg, rfl, BW, SW, E⟩ := hrel
      by_cases hlt : i < m
      · have hltz : (i : Int) < (m : Int) := by omega
        have hi0 : (0 : Int) ≤ (i : Int) := by omega
        have hx : i < rs.length := by rw [hl.out]; exact hlt
        obtain ⟨b, off, x0, x1, rfl, hb, e1, c1, c2'⟩ := (h.out.below BW.out).1.cells2 hlt
        rw [row_at rs i hx] at e1
        simp only [List.cons.injEq, and_true] at e1
        obtain ⟨rfl, rfl⟩ := e1
        have he := herr.out i
        generalize rs[i]?.getD (0, 0) = x at *
        obtain ⟨x0, x1⟩ := x
        simp only at he c1 c2'
        have s0 : wr.cell? ⟨w.heap.size, 0, none⟩ = some (.slice A n cc) := SW.out.cell 0
        have s1 : wr.cell? ⟨w.heap.size, 1, none⟩ = some (.slice A2 n2 c2) := SW.out.cell 1
        replace he := hide he
        clear hx
        go_wp2
        go_quiet ((go_at_call 59; exact quiet_left (in_any _ _ _ _)))
        cases h1 : inB 0 ((n : Int) - 1) x0 with
        | false =>
          have he := he.out
          rw [h1, if_pos rfl] at he
          have hr := hq.out
          rw [firstErr_fin hlt (by rw [he]; decide) E.out, he] at hr
          subst hr
          clear he h1 E hq
          go_wp2
          go_ret
          exact ⟨rfl, below_drewN BW.out _⟩
        | true =>
          have he := he.out
          rw [h1, if_neg (by simp)] at he
          replace he := hide he
          clear h1
          go_wp2
          have d0 := hide (below_drewN BW.out nq)
          have SD := hide (Blk.drewN SW.out nq)
          have f0 : (wr.drewN nq).cell? ⟨b, off + i * 2 + 1, none⟩ = some (.int .i64 x1) := (cellB (below_drewN (Below.refl _ wr) nq) hb).trans c2'
          have f1 : (wr.drewN nq).cell? ⟨w.heap.size, 1, none⟩ = some (.slice A2 n2 c2) := SD.out.cell 1
          clear c1 c2' s0 s1 SW BW hb
          generalize wr.drewN nq = W1 at *
          go_quiet ((first | (go_at_call 52; exact quiet_left (hs.out _)) | (go_at_call 59; exact quiet_left (in_any _ _ _ _))))
          cases h1 : inB 0 ((p : Int) - 1) x1 with
          | false =>
            have he := he.out
            rw [h1, if_pos rfl] at he
            have hr := hq.out
            rw [firstErr_fin hlt (by rw [he]; decide) E.out, he] at hr
            subst hr
            clear he h1 E hq
            go_wp2
            go_ret
            exact ⟨rfl, below_drewN d0.out _⟩
          | true =>
            have he := he.out
            rw [h1, if_neg (by simp)] at he
            have hE := hide (firstErr_on hlt he E.out)
            clear h1 he E
            go_wp2
            go_roundg (m - (i + 1))
            case measure => omega
            case rel => exact ⟨i + 1, by omega, by omega, by go_num, below_drewN d0.out _, Blk.drewN SD.out _, hE⟩
      · obtain rfl : i = m := by omega
        have hltz : ¬ (i : Int) < (i : Int) := by omega
        have hr := hq.out
        rw [firstErr_end E.out] at hr
        subst hr
        clear E hq
        go_wp2
        go_ret
        exact ⟨rfl, BW.out⟩
end Go.Proofs.YtjfdfhnfcpfmcaaGreatDoor

/-
  The reference's Allowed.
-/
namespace Go.Proofs.YtjfdfhnfcpfmcaaGreatDoor
open Go.RowKit RG

/-- No code below k is in both sets. -/
def okF (x y k : Nat) : Bool := (List.range k).all fun j => !(x.testBit j && y.testBit j)
theorem okF_succ (x y k : Nat) : okF x y (k + 1) = (okF x y k && !(x.testBit k && y.testBit k)) := by
  unfold okF
  rw [List.range_succ, List.all_append]
  simp
theorem okF_end {x y n : Nat} (hx : x < 2 ^ n) : okF x y n = (x &&& y == 0) := by
  rw [Bool.eq_iff_iff, beq_iff_eq]
  unfold okF
  rw [List.all_eq_true]
  constructor
  · intro h
    apply Nat.eq_of_testBit_eq
    intro j
    rw [Nat.testBit_and, Nat.zero_testBit]
    by_cases hj : j < n
    · have := h j (List.mem_range.2 hj)
      cases h1 : x.testBit j <;> cases h2 : y.testBit j <;> simp_all
    · rw [Nat.testBit_lt_two_pow (Nat.lt_of_lt_of_le hx (Nat.pow_le_pow_right (by omega) (by omega)))]
      rfl
  · intro h j _
    have := congrArg (fun z => z.testBit j) h
    simp only [Nat.testBit_and, Nat.zero_testBit] at this
    cases h1 : x.testBit j <;> cases h2 : y.testBit j <;> simp_all
theorem anyIdx_at {p : Nat → Bool} {k n : Nat} (hk : k < n) (h : p k = true) (h' : firstIdx p 0 n = firstIdx p k (n - k)) : anyIdx p n = true := by
  unfold anyIdx
  rw [h', show n - k = (n - k - 1) + 1 by omega, firstIdx_hit h]
  simp
theorem anyIdx_on {p : Nat → Bool} {k n : Nat} (hk : k < n) (h : p k = false) (h' : firstIdx p 0 n = firstIdx p k (n - k)) : firstIdx p 0 n = firstIdx p (k + 1) (n - (k + 1)) := by
  rw [h', show n - k = (n - (k + 1)) + 1 by omega, firstIdx_miss h]
theorem anyIdx_end {p : Nat → Bool} {n : Nat} (h' : firstIdx p 0 n = firstIdx p n (n - n)) : anyIdx p n = false := by
  unfold anyIdx
  rw [h', show n - n = 0 by omega]
  rfl
set_option maxRecDepth 100000 in
set_option maxHeartbeats 8000000 in
theorem AllowedR_any (A A2 R : Option Addr) (cc c2 cr : Nat) (S : Sys) (rs : List (Int × Int)) (c f : Nat) (w : World) (h : InMem w A A2 cc c2 S) (gd : Good S) (hr : RdRts w R rs.length rs) (hgr : GoodR S rs) (hc : c < S.cs.length) (hf : f < 2 ^ S.codes.length) :
    Calls Tryz.prog 53 #[.agg #[.slice A S.cs.length cc, .slice A2 S.codes.length c2], .slice R rs.length cr, .int .i64 c, .int .i64 f] w fun e w' =>
      e = .returned (.bool (anyIdx (fun j => mayB S.cs S.cs.length c f (natR (rs[j]?.getD (0, 0)))) rs.length)) ∧ Below w.heap.size w w' := by
  have hcv := hide (fun (W : World) (hb : Below w.heap.size w W) (kn : Nat) (hk : kn < S.cs.length) => CoverR_any A A2 cc c2 S kn W (h.below hb) gd.bd.1.2 gd.inc hk)
  have hn12 := gd.bd.1.2
  have hn28 := gd.bd.2
  have hgr2 := hgr.2
  have hm := hr.2
  unfold maxLen at hm
  have hf8 := pow8 gd hf
  have hp8 := fun (k : Nat) (hk : k < 2 ^ S.codes.length) => pow8 gd hk
  obtain ⟨p, hp⟩ : ∃ p : Nat → Bool, p = fun j => mayB S.cs S.cs.length c f (natR (rs[j]?.getD (0, 0))) := ⟨_, rfl⟩
  rw [← hp]
  replace hp := hide (fun j => congrFun hp j)
  have hB0 := hide ((Below.refl w.heap.size w).alloc (Nat.le_refl _) (.cells #[.slice A S.cs.length cc, .slice A2 S.codes.length c2] 38))
  have hS0 := hide (Blk.new_ (w := w) (g := w.heap.size) (t := 38) (cs := #[.slice A S.cs.length cc, .slice A2 S.codes.length c2]) rfl)
  clear h gd hgr
  generalize hcs : S.cs = cs at *
  generalize hcd : S.codes = codes at *
  generalize hnn : cs.length = n at *
  generalize hmm : codes.length = n2 at *
  generalize hmr : rs.length = m at *
  clear hcs hcd hnn hmm
  replace hmr := hide hmr
  replace hr := hide hr
  replace hgr2 := hide hgr2
  replace hp8 := hide hp8
  replace hf := hide hf
  replace hf8 := hide hf8
  go_enter Tryz.func53, Tryz.ntmps53
  go_wp2
  generalize w.alloc (.cells #[.slice A n cc, .slice A2 n2 c2] 38) = w0 at *
  go_loopg [9] m (fun g iv wr => ∃ i : Nat, i ≤ m ∧ m - i ≤ g ∧ iv = .int .i64 i ∧ Hid (Below w.heap.size w wr) ∧ Hid (Blk wr w.heap.size 38 #[.slice A n cc, .slice A2 n2 c2]) ∧ Hid (firstIdx p 0 m = firstIdx p i (m - i)))
  case atStart => exact ⟨0, Nat.zero_le _, by omega, rfl, hB0, hS0, rfl⟩
  case round =>
    clear hB0 hS0
    obtain ⟨i, hi, hg, rfl, BW, SW, E⟩ := hrel
    by_cases hlt : i < m
    · have hltz : (i : Int) < (m : Int) := by omega
      have hi0 : (0 : Int) ≤ (i : Int) := by omega
      have hx : i < rs.length := by rw [hmr.out]; exact hlt
      obtain ⟨b, off, x0, x1, rfl, hb, e1, r0, r1⟩ := (hr.out.below BW.out).1.cells2 hlt
      obtain ⟨ci, ki, hri, hci, hki⟩ := hgr2.out i hlt
      rw [row_at rs i hx, hri] at e1
      simp only [List.cons.injEq, and_true] at e1
      obtain ⟨rfl, rfl⟩ := e1
      have hpi := hp.out i
      rw [hri] at hpi
      have hpi2 : p i = ((cover cs n ci).testBit c && okF ki f n2) := by
        rw [hpi, okF_end hki]; rfl
      clear hpi hri hx
      replace hpi2 := hide hpi2
      have hki8 := hp8.out ki hki
      have s0 : wr.cell? ⟨w.heap.size, 0, none⟩ = some (.slice A n cc) := SW.out.cell 0
      have s1 : wr.cell? ⟨w.heap.size, 1, none⟩ = some (.slice A2 n2 c2) := SW.out.cell 1
      replace hki8 := hide hki8
      clear hki
      go_wp2
      go_loopg [10, 11] n2 (fun g4 ov kv wr' => ∃ (q : Nat) (bb : Bool), q ≤ n2 ∧ n2 - q ≤ g4 ∧ kv = .int .i64 q ∧ ov = .bool bb ∧ wr' = wr ∧ Hid (okF ki f q = bb))
      case atStart => exact ⟨0, true, Nat.zero_le _, by omega, rfl, rfl, rfl, rfl⟩
      case round =>
        obtain ⟨q, bb, hq, hg4, rfl, rfl, rfl, HO⟩ := hrel
        by_cases hlt4 : q < n2
        · have hltz4 : (q : Int) < (n2 : Int) := by omega
          have hon := okF_succ ki f q
          rw [HO.out] at hon
          replace hon := hide hon
          clear HO
          cases bb with
          | false =>
            go_wp2
            go_roundg (n2 - (q + 1))
            case measure => omega
            case rel => exact ⟨q + 1, false, by omega, by omega, by go_num, rfl, rfl, hon⟩
          | true =>
            go_wp2_with fail
            refine (HasR_any ki q _ (by omega) hki8.out).mono ?_
            rintro e w' ⟨rfl, rfl⟩
            cases hb1 : ki.testBit q with
            | false =>
              rw [hb1] at hon
              go_wp2
              go_roundg (n2 - (q + 1))
              case measure => omega
              case rel => exact ⟨q + 1, true, by omega, by omega, by go_num, rfl, rfl, hon⟩
            | true =>
              rw [hb1] at hon
              go_wp2_with fail
              refine (HasR_any f q _ (by omega) hf8.out).mono ?_
              rintro e w' ⟨rfl, rfl⟩
              cases hb2 : f.testBit q with
              | false =>
                rw [hb2] at hon
                go_wp2
                go_roundg (n2 - (q + 1))
                case measure => omega
                case rel => exact ⟨q + 1, true, by omega, by omega, by go_num, rfl, rfl, hon⟩
              | true =>
                rw [hb2] at hon
                go_wp2
                go_roundg (n2 - (q + 1))
                case measure => omega
                case rel => exact ⟨q + 1, false, by omega, by omega, by go_num, rfl, rfl, hon⟩
        · obtain rfl : q = n2 := by omega
          have hltz4 : ¬ (q : Int) < (q : Int) := by omega
          cases bb with
          | false =>
            have hpf : p i = false := by rw [hpi2.out, HO.out, Bool.and_false]
            have hE := hide (anyIdx_on hlt hpf E.out)
            clear hpf hpi2 HO E
            go_wp2
            go_quiet (fail)
            go_wp2
            go_roundg (m - (i + 1))
            case measure => omega
            case rel => exact ⟨i + 1, by omega, by omega, by go_num, below_drewN BW.out _, Blk.drewN SW.out _, hE⟩
          | true =>
            have hpt : p i = (cover cs n ci).testBit c := by rw [hpi2.out, HO.out, Bool.and_true]
            clear hpi2 HO
            replace hpt := hide hpt
            go_wp2
            refine region_grow [IsV (.bool true), IsV (.bool true), IsV (.agg #[.slice A n cc, .slice A2 q c2]), IsV (.slice (some ⟨b, off, none⟩) m cr), IsV (.int .i64 i), IsV (.pointer (some ⟨b, off + i * 2, none⟩)), IsV (.pointer (some ⟨b, off + i * 2, none⟩)), IsV (.int .i64 ci),
              IsBools n (cover cs n ci), IsV (.int .i64 c), BoolAt n (cover cs n ci) c, IsV (.bool ((cover cs n ci).testBit c)), IsV (.bool ((cover cs n ci).testBit c))] (by kernel_rfl) (by kernel_rfl) rfl ?_ ?_ ?_
            · simp [AllStb, IsV.stb, IsBools.stb, BoolAt.stb]
            · refine ⟨?_, ?_, ?_, ?_, ?_, ?_, ?_, ?_, ?_, ?_, ?_, ?_, ?_, trivial⟩
              all_goals
                intro y w1 K Q Cv hC hd hV
                have hz := hC.size
                have c0 : w1.cell? ⟨w.heap.size, 0, none⟩ = some (.slice A n cc) := (cellB hC SW.out.lt).trans (SW.out.cell 0)
                have c1 : w1.cell? ⟨w.heap.size, 1, none⟩ = some (.slice A2 q c2) := (cellB hC SW.out.lt).trans (SW.out.cell 1)
                have c3 : w1.cell? ⟨b, off + i * 2, none⟩ = some (.int .i64 (ci : Int)) := (cellB hC hb).trans r0
                simp [deps, VL, IsV, Region.binds] at hd
              · simp only [putAll, Act.put]; go_simp; intro hK; exact hK _ _ (hV _ _ hC (Below.refl _ _) rfl)
              · simp only [putAll, Act.put]; go_simp; intro hK; exact hK _ _ (hV _ _ hC (Below.refl _ _) rfl)
              · simp only [putAll, Act.put]; go_simp; intro hK; exact hK _ _ (hV _ _ hC (Below.refl _ _) rfl)
              · simp only [putAll, Act.put]; go_simp; intro hK; exact hK _ _ (hV _ _ hC (Below.refl _ _) rfl)
              · simp only [putAll, Act.put]; go_simp; intro hK; exact hK _ _ (hV _ _ hC (Below.refl _ _) rfl)
              · simp only [putAll, Act.put]; go_simp; intro hK; exact hK _ _ (hV _ _ hC (Below.refl _ _) rfl)
              · simp only [putAll, Act.put]; go_simp; intro hK; exact hK _ _ (hV _ _ hC (Below.refl _ _) rfl)
              · simp only [putAll, Act.put]; go_simp; intro hK; exact hK _ _ (hV _ _ hC (Below.refl _ _) rfl)
              · clear c0 c1 c3
                simp only [putAll, Act.put]; go_simp; intro hK
                refine (hcv.out w1 (BW.out.trans (hC.mono BW.out.size)) ci hci).mono ?_
                rintro e w2 ⟨⟨v, rfl, hv⟩, hb2⟩
                exact hK _ _ (hV _ _ (hC.trans (hb2.mono hz)) hb2 hv)
              · simp only [putAll, Act.put]; go_simp; intro hK; exact hK _ _ (hV _ _ hC (Below.refl _ _) rfl)
              · obtain ⟨⟨gb, hgb, hBl⟩, hd2⟩ := hd
                simp only [putAll, Act.put]; go_simp; intro hK; exact hK _ _ (hV _ _ hC (Below.refl _ _) ⟨gb, rfl, hBl⟩)
              · obtain ⟨⟨gb, hgb, hBl⟩, hd2⟩ := hd
                have cb : w1.cell? ⟨gb, c, none⟩ = some (.bool ((cover cs n ci).testBit c)) := by rw [hBl.cell]; exact boolCells_at hc
                simp only [putAll, Act.put]; go_simp; intro hK; exact hK _ _ (hV _ _ hC (Below.refl _ _) rfl)
              · simp only [putAll, Act.put]; go_simp; intro hK; exact hK _ _ (hV _ _ hC (Below.refl _ _) rfl)
            · intro y w1 hC hd
              have BW1 := hide (BW.out.trans (hC.mono BW.out.size))
              have SW1 := hide (SW.out.below hC SW.out.lt)
              simp [EndsL, IsV] at hd
              obtain ⟨d0, d1, d2, d3, d4, d5, d6, d7, d8, d9, d10, d11, d12⟩ := hd
              simp only [putAll, Act.put]
              rw [d12]
              clear d0 d1 d2 d3 d4 d5 d6 d7 d8 d9 d10 d11 d12 hC BW SW hcv
              simp only [List.setIfInBounds_toArray, List.set_cons_succ, List.set_cons_zero]
              cases hbit : (cover cs n ci).testBit c with
              | true =>
                rw [hbit] at hpt
                have hr := hide (anyIdx_at hlt hpt.out E.out)
                clear hbit hpt E
                go_wp2
                go_ret
                exact ⟨ret_bool hr.out.symm, BW1.out⟩
              | false =>
                rw [hbit] at hpt
                have hE := hide (anyIdx_on hlt hpt.out E.out)
                clear hbit hpt E
                go_wp2
                go_roundg (m - (i + 1))
                case measure => omega
                case rel => exact ⟨i + 1, by omega, by omega, by go_num, BW1, SW1, hE⟩
    · obtain rfl : i = m := by omega
      have hltz : ¬ (i : Int) < (i : Int) := by omega
      have hr := hide (anyIdx_end E.out)
      clear E
      go_wp2
      go_ret
      exact ⟨ret_bool hr.out.symm, BW.out⟩
end Go.Proofs.YtjfdfhnfcpfmcaaGreatDoor

/-
  The reference's asked and May.
-/
namespace Go.Proofs.YtjfdfhnfcpfmcaaGreatDoor
open Go.RowKit RG

theorem openF_one (S : Sys) (rs : List (Int × Int)) : openF S [rs] = if (checkF S).2.2 = 0 then rightsF S.cs.length S.codes.length rs else (checkF S).2.2 := by
  unfold openF listsF listsF
  split
  · split
    · rename_i h; exact h.symm
    · rfl
  · rfl
theorem InMem.len1 {w : World} {A A2 : Option Addr} {cc c2 : Nat} {S : Sys} (h : InMem w A A2 cc c2 S) : S.cs.length ≤ maxLen := by
  obtain ⟨xs, hx⟩ := h.cls
  exact hx.2.2.1
set_option maxRecDepth 100000 in
set_option maxHeartbeats 4000000 in
theorem askedR_any (A A2 R : Option Addr) (cc c2 cr : Nat) (S : Sys) (rs : List (Int × Int)) (w : World) (h : InMem w A A2 cc c2 S) (hr : RdRts w R rs.length rs) :
    Calls Tryz.prog 79 #[.agg #[.slice A S.cs.length cc, .slice A2 S.codes.length c2], .slice R rs.length cr] w fun e w' => e = .returned (.int .i64 (openF S [rs])) ∧ Below w.heap.size w w' := by
  rw [openF_one]
  have hB0 := hide ((Below.refl w.heap.size w).alloc (Nat.le_refl _) (.cells #[.slice A S.cs.length cc, .slice A2 S.codes.length c2] 38))
  have hS0 := hide (Blk.new_ (w := w) (g := w.heap.size) (t := 38) (cs := #[.slice A S.cs.length cc, .slice A2 S.codes.length c2]) rfl)
  have hchk := hide (CheckR_any A A2 cc c2 S _ (h.below hB0.out))
  have hrt := hide (fun (gd : Good S) (W : World) (hb : Below w.heap.size w W) => RightsR_any A A2 R S.cs.length cc S.codes.length c2 rs.length cr rs W h.len1 (by have := gd.bd.2; omega) (hr.below hb))
  have gd : (checkF S).2.2 = 0 → Good S := fun h => h
  clear h hr
  generalize rightsF S.cs.length S.codes.length rs = rr at *
  generalize rs.length = m at *
  generalize S.cs.length = n at *
  generalize S.codes.length = n2 at *
  generalize checkF S = x at *
  obtain ⟨x1, x2, x3⟩ := x
  simp only at gd ⊢
  obtain ⟨q, hq⟩ : ∃ q, (if x3 = 0 then rr else x3) = q := ⟨_, rfl⟩
  rw [hq]
  replace hq := hide hq
  replace gd := hide gd
  go_enter Tryz.func79, Tryz.ntmps79
  go_wp2_with fail
  generalize w.alloc (.cells #[.slice A n cc, .slice A2 n2 c2] 38) = w0 at *
  refine hchk.out.mono ?_
  rintro e w1 ⟨rfl, hb1⟩
  have hB1 := hide (hB0.out.trans (hb1.mono hB0.out.size))
  have hS1 := hS0.out.below hb1 hS0.out.lt
  clear hb1 hB0 hS0 hchk
  have s0 : w1.cell? ⟨w.heap.size, 0, none⟩ = some (.slice A n cc) := hS1.cell 0
  have s1 : w1.cell? ⟨w.heap.size, 1, none⟩ = some (.slice A2 n2 c2) := hS1.cell 1
  replace hS1 := hide hS1
  by_cases hx0 : x3 = 0
  · subst hx0
    have hrt := hide (hrt.out (gd.out rfl))
    have hq := hq.out
    rw [if_pos rfl] at hq
    subst hq
    go_wp2_with fail
    refine (hrt.out _ hB1.out).mono ?_
    rintro e w2 ⟨rfl, hb2⟩
    have hB2 := hide (hB1.out.trans (hb2.mono hB1.out.size))
    clear hb2 s0 s1 hrt
    go_wp2
    go_ret
    exact ⟨rfl, hB2.out⟩
  · have hq := hq.out
    rw [if_neg hx0] at hq
    subst hq
    have hb1 : (x3 == 0) = false := by rw [beq_eq_false_iff_ne]; exact hx0
    clear hrt gd
    replace hx0 := hide hx0
    go_wp2
    go_ret
    exact ⟨rfl, hB1.out⟩
set_option maxRecDepth 100000 in
set_option maxHeartbeats 4000000 in
theorem MayR_any (A A2 R : Option Addr) (cc c2 cr : Nat) (S : Sys) (rs : List (Int × Int)) (c f : Int) (w : World) (h : InMem w A A2 cc c2 S) (hr : RdRts w R rs.length rs) :
    Calls Tryz.prog 35 #[.agg #[.slice A S.cs.length cc, .slice A2 S.codes.length c2], .slice R rs.length cr, .int .i64 c, .int .i64 f] w fun e w' =>
      e = .returned (.tuple #[.bool (mayF S rs c f).1, .int .i64 (mayF S rs c f).2]) ∧ Below w.heap.size w w' := by
  obtain ⟨q, hq⟩ : ∃ q, mayF S rs c f = q := ⟨_, rfl⟩
  rw [hq]
  unfold mayF at hq
  have hB0 := hide ((Below.refl w.heap.size w).alloc (Nat.le_refl _) (.cells #[.slice A S.cs.length cc, .slice A2 S.codes.length c2] 38))
  have hS0 := hide (Blk.new_ (w := w) (g := w.heap.size) (t := 38) (cs := #[.slice A S.cs.length cc, .slice A2 S.codes.length c2]) rfl)
  have hask := hide (askedR_any A A2 R cc c2 cr S rs _ (h.below hB0.out) (hr.below hB0.out))
  have hall := hide (fun (gd : Good S) (gr : GoodR S rs) (cn fn : Nat) (hc : cn < S.cs.length) (hf : fn < 2 ^ S.codes.length) (W : World) (hb : Below w.heap.size w W) => AllowedR_any A A2 R cc c2 cr S rs cn fn W (h.below hb) gd (hr.below hb) gr hc hf)
  have hgd : openF S [rs] = 0 → (Good S ∧ S.cs.length ≤ 12 ∧ S.codes.length ≤ 8) ∧ GoodR S rs := fun h0 => ⟨⟨(openF_good h0).1, (openF_good h0).1.bd.1.2, (openF_good h0).1.bd.2⟩, (openF_good h0).2 rs (List.mem_singleton.2 rfl)⟩
  clear h hr
  generalize openF S [rs] = x at *
  replace hgd := hide hgd
  generalize hm : rs.length = m at *
  generalize hn : S.cs.length = n at *
  generalize hn2 : S.codes.length = n2 at *
  clear hm hn hn2
  replace hq := hide hq
  go_enter Tryz.func35, Tryz.ntmps35
  go_wp2_with fail
  generalize w.alloc (.cells #[.slice A n cc, .slice A2 n2 c2] 38) = w0 at *
  refine hask.out.mono ?_
  rintro e w1 ⟨rfl, hb1⟩
  have hB1 := hide (hB0.out.trans (hb1.mono hB0.out.size))
  have hS1 := hS0.out.below hb1 hS0.out.lt
  clear hb1 hB0 hS0 hask
  have s0 : w1.cell? ⟨w.heap.size, 0, none⟩ = some (.slice A n cc) := hS1.cell 0
  have s1 : w1.cell? ⟨w.heap.size, 1, none⟩ = some (.slice A2 n2 c2) := hS1.cell 1
  replace hS1 := hide hS1
  by_cases hx0 : x = 0
  · subst hx0
    obtain ⟨⟨gd, hn12, hn28⟩, gr⟩ := hgd.out rfl
    have hall := hide (hall.out gd gr)
    clear hgd gd gr
    have hq := hq.out
    rw [if_neg (by simp)] at hq
    have hs := hide (fun W => SetsR_any n2 W (by omega))
    have hpb : 2 ^ n2 ≤ 2 ^ 8 := Nat.pow_le_pow_right (by omega) hn28
    have hpb : 2 ^ n2 ≤ 256 := hpb
    have hp1 : 1 ≤ 2 ^ n2 := Nat.one_le_two_pow
    generalize 2 ^ n2 = p at *
    replace hq := hide hq
    go_wp2_with fail
    refine (in_any c 0 ((n : Int) - 1) _).mono ?_
    rintro e w' ⟨rfl, rfl⟩
    cases h1 : inB 0 ((n : Int) - 1) c with
    | false =>
      have hq := hq.out
      rw [h1, if_pos rfl] at hq
      subst hq
      clear h1 hall
      go_wp2
      go_ret2
      exact ⟨rfl, hB1.out⟩
    | true =>
      have hq := hq.out
      rw [h1, if_neg (by simp)] at hq
      have hc := inB_iff.1 h1
      clear h1
      obtain ⟨cn, rfl⟩ := Int.eq_ofNat_of_zero_le hc.1
      have hcn : cn < n := by omega
      replace hq := hide hq
      go_wp2_with fail
      refine (hs.out _).mono ?_
      rintro e w' ⟨rfl, rfl⟩
      go_wp2_with fail
      refine (in_any f 0 ((p : Int) - 1) _).mono ?_
      rintro e w' ⟨rfl, rfl⟩
      cases h2 : inB 0 ((p : Int) - 1) f with
      | false =>
        have hq := hq.out
        rw [h2, if_pos rfl] at hq
        subst hq
        clear h2 hall
        go_wp2
        go_ret2
        exact ⟨rfl, hB1.out⟩
      | true =>
        have hq := hq.out
        rw [h2, if_neg (by simp)] at hq
        have hf := inB_iff.1 h2
        clear h2
        obtain ⟨fn, rfl⟩ := Int.eq_ofNat_of_zero_le hf.1
        have hfn : fn < p := by omega
        simp only [Int.toNat_natCast] at hq
        have hall := hide (hall.out cn fn hcn hfn)
        generalize anyIdx (fun j => mayB S.cs n cn fn (natR (rs[j]?.getD (0, 0)))) m = an at *
        subst hq
        go_wp2_with fail
        refine (hall.out _ hB1.out).mono ?_
        rintro e w2 ⟨rfl, hb2⟩
        have hB2 := hide (hB1.out.trans (hb2.mono hB1.out.size))
        clear hb2
        go_wp2
        go_ret2
        exact ⟨rfl, hB2.out⟩
  · have hq := hq.out
    rw [if_pos hx0] at hq
    subst hq
    have hb1 : (x == 0) = false := by rw [beq_eq_false_iff_ne]; exact hx0
    have hb2 : (x != 0) = true := by rw [bne_iff_ne]; exact hx0
    clear hgd hall
    replace hx0 := hide hx0
    go_wp2
    go_ret2
    exact ⟨rfl, hB1.out⟩
end Go.Proofs.YtjfdfhnfcpfmcaaGreatDoor

/-
  The arguments of the laws as they are read: two numbers.
-/
namespace Go.Proofs.YtjfdfhnfcpfmcaaGreatDoor
open Go.ChangeShapes Go.WideShapes Go.ChangeAt Go.RowKit
section
variable {H : Type} {enc : TypeId × Value → H} {w : World} {base : Nat} {spare : Nat → Bool} {held : Bool} {r : Go.Reach} {b0 : Nat} {v : Value} {d : DataW H} {p : List MemPlace}
set_option maxRecDepth 100000 in
theorem open_i64x2 (hv : Value.okWide Tryz.prog w r b0 47 v) (h : DataW.Trod enc Tryz.prog w base spare held 47 v d p) :
    ∃ x0 x1 : Int, v = .agg #[.int .i64 x0, .int .i64 x1] := by
  obtain ⟨zs, hl, rfl, _⟩ := open_intarr Tryz.underlying47 Tryz.underlying3 (by kernel_rfl) (by kernel_rfl) hv h
  match zs, hl with
  | [x0, x1], _ => exact ⟨x0, x1, rfl⟩
end
end Go.Proofs.YtjfdfhnfcpfmcaaGreatDoor

/-
  The laws' own 'valid'.
-/
namespace Go.Proofs.YtjfdfhnfcpfmcaaGreatDoor
open Go.RowKit RG

/-- What is left of the lists when j are read, and the last error is e. -/
def leftF (n n2 : Nat) (ls : List (List (Int × Int))) (e : Int) (j : Nat) : Int := if e = 0 then listsF n n2 (ls.drop j) else e
theorem leftF_next {n n2 : Nat} {ls : List (List (Int × Int))} {j : Nat} (h : j < ls.length) : leftF n n2 ls (rightsF n n2 (ls[j]?.getD [])) (j + 1) = leftF n n2 ls 0 j := by
  unfold leftF
  rw [if_pos rfl, List.drop_eq_getElem_cons h, List.getElem?_eq_getElem h]
  simp only [Option.getD_some, listsF]
theorem leftF_end {n n2 : Nat} {ls : List (List (Int × Int))} {j : Nat} (h : ls.length ≤ j) : leftF n n2 ls 0 j = 0 := by
  unfold leftF
  rw [if_pos rfl, List.drop_eq_nil_of_le h]
  rfl
theorem openF_left (S : Sys) (ls : List (List (Int × Int))) : openF S ls = leftF S.cs.length S.codes.length ls (checkF S).2.2 0 := rfl
set_option maxRecDepth 100000 in
set_option maxHeartbeats 4000000 in
theorem valid_any (A A2 L : Option Addr) (cc c2 m cl : Nat) (S : Sys) (ls : List (List (Int × Int))) (w : World) (h : InMem w A A2 cc c2 S) (hl : RdLists w L m ls) :
    Calls Tryz.prog 50 #[.agg #[.slice A S.cs.length cc, .slice A2 S.codes.length c2], .slice L m cl] w fun e w' => e = .returned (.bool (openF S ls == 0)) ∧ Below w.heap.size w w' := by
  obtain ⟨q, hq⟩ : ∃ q, openF S ls = q := ⟨_, rfl⟩
  rw [hq]
  rw [openF_left] at hq
  have hB0 := hide ((Below.refl w.heap.size w).alloc (Nat.le_refl _) (.cells #[.slice A S.cs.length cc, .slice A2 S.codes.length c2] 38))
  have hS0 := hide (Blk.new_ (w := w) (g := w.heap.size) (t := 38) (cs := #[.slice A S.cs.length cc, .slice A2 S.codes.length c2]) rfl)
  have hchk := hide (CheckR_any A A2 cc c2 S _ (h.below hB0.out))
  have hrt := hide (fun (gd : Good S) (R : Option Addr) (c : Nat) (l : List (Int × Int)) (W : World) (hb : Below w.heap.size w W) (hr : RdRts W R l.length l) => RightsR_any A A2 R S.cs.length cc S.codes.length c2 l.length c l W (h.below hb).len1 (by have := gd.bd.2; omega) hr)
  have gd : (checkF S).2.2 = 0 → Good S := fun h => h
  have hm := hl.2.1
  unfold maxLen at hm
  have hll := hl.1
  clear h
  generalize S.cs.length = n at *
  generalize S.codes.length = n2 at *
  generalize checkF S = x at *
  obtain ⟨x1, x2, x3⟩ := x
  simp only at gd hq
  replace gd := hide gd
  replace hq := hide hq
  replace hl := hide hl
  replace hll := hide hll
  go_enter Tryz.func50, Tryz.ntmps50
  go_wp2_with fail
  generalize w.alloc (.cells #[.slice A n cc, .slice A2 n2 c2] 38) = w0 at *
  refine hchk.out.mono ?_
  rintro e w1 ⟨rfl, hb1⟩
  have hB1 := hide (hB0.out.trans (hb1.mono hB0.out.size))
  have hS1 := hide (hS0.out.below hb1 hS0.out.lt)
  clear hb1 hB0 hS0 hchk
  go_wp2
  go_loopg [7, 8] m (fun g ev iv wr => ∃ (i : Nat) (e : Int), i ≤ m ∧ m - i ≤ g ∧ iv = .int .i64 i ∧ ev = .int .i64 e ∧ Hid (Below w.heap.size w wr) ∧ Hid (Blk wr w.heap.size 38 #[.slice A n cc, .slice A2 n2 c2]) ∧ Hid (leftF n n2 ls e i = q) ∧ Hid (e = 0 → Good S))
  case atStart => exact ⟨0, x3, Nat.zero_le _, by omega, rfl, rfl, hB1, hS1, hq, gd⟩
  case round =>
    clear hB1 hS1 hq gd
    obtain ⟨i, e, hi, hg, rfl, rfl, BW, SW, E, gd⟩ := hrel
    by_cases hx0 : e = 0
    · subst hx0
      by_cases hlt : i < m
      · have hltz : (i : Int) < (m : Int) := by omega
        have hi0 : (0 : Int) ≤ (i : Int) := by omega
        have hE := hide ((leftF_next (n := n) (n2 := n2) (ls := ls) (j := i) (by rw [hll.out]; exact hlt)).trans E.out)
        have hl1 := hl.out.below BW.out
        obtain ⟨b, off, rfl, hb, hc⟩ := hl1.2.2 (by omega)
        obtain ⟨R, c, r0, hR⟩ := hc i hlt
        generalize ls[i]?.getD [] = l at *
        have hcall := hide (fun W (hb : Below wr.heap.size wr W) => hrt.out (gd.out rfl) R c l W (BW.out.trans (hb.mono BW.out.size)) (hR.below hb))
        have hgd := hide (gd.out rfl)
        clear hc hl1 E gd hR
        generalize rightsF n n2 l = re at *
        generalize l.length = ll at *
        go_wp2
        refine region_grow [IsV (.agg #[.slice A n cc, .slice A2 n2 c2]), IsV (.slice (some ⟨b, off, none⟩) m cl), IsV (.int .i64 i), IsV (.pointer (some ⟨b, off + i, none⟩)), IsV (.slice R ll c), IsV (.int .i64 re), IsV (.int .i64 re)] (by kernel_rfl) (by kernel_rfl) rfl ?_ ?_ ?_
        · simp [AllStb, IsV.stb]
        · refine ⟨?_, ?_, ?_, ?_, ?_, ?_, ?_, trivial⟩
          all_goals
            intro y w1 K Q Cv hC hd hV
            have hz := hC.size
            have c0 : w1.cell? ⟨w.heap.size, 0, none⟩ = some (.slice A n cc) := (cellB hC SW.out.lt).trans (SW.out.cell 0)
            have c1 : w1.cell? ⟨w.heap.size, 1, none⟩ = some (.slice A2 n2 c2) := (cellB hC SW.out.lt).trans (SW.out.cell 1)
            have c3 : w1.cell? ⟨b, off + i, none⟩ = some (.slice R ll c) := (cellB hC hb).trans r0
            simp [deps, VL, IsV, Region.binds] at hd
          · simp only [putAll, Act.put]; go_simp; intro hK; exact hK _ _ (hV _ _ hC (Below.refl _ _) rfl)
          · simp only [putAll, Act.put]; go_simp; intro hK; exact hK _ _ (hV _ _ hC (Below.refl _ _) rfl)
          · simp only [putAll, Act.put]; go_simp; intro hK; exact hK _ _ (hV _ _ hC (Below.refl _ _) rfl)
          · simp only [putAll, Act.put]; go_simp; intro hK; exact hK _ _ (hV _ _ hC (Below.refl _ _) rfl)
          · simp only [putAll, Act.put]; go_simp; intro hK; exact hK _ _ (hV _ _ hC (Below.refl _ _) rfl)
          · clear c0 c1 c3
            simp only [putAll, Act.put]; go_simp; intro hK
            refine (hcall.out w1 hC).mono ?_
            rintro e w2 ⟨rfl, hb2⟩
            exact hK _ _ (hV _ _ (hC.trans (hb2.mono hz)) hb2 rfl)
          · simp only [putAll, Act.put]; go_simp; intro hK; exact hK _ _ (hV _ _ hC (Below.refl _ _) rfl)
        · intro y w1 hC hd
          have BW1 := hide (BW.out.trans (hC.mono BW.out.size))
          have SW1 := hide (SW.out.below hC SW.out.lt)
          simp [EndsL, IsV] at hd
          obtain ⟨d0, d1, d2, d3, d4, d5, d6⟩ := hd
          simp only [putAll, Act.put]
          rw [d6]
          clear d0 d1 d2 d3 d4 d5 d6 hC BW SW hcall
          simp only [List.setIfInBounds_toArray, List.set_cons_succ, List.set_cons_zero]
          go_wp2
          go_roundg (m - (i + 1))
          case measure => omega
          case rel => exact ⟨i + 1, re, by omega, by omega, by go_num, rfl, BW1, SW1, hE, fun _ => hgd.out⟩
      · obtain rfl : i = m := by omega
        have hltz : ¬ (i : Int) < (i : Int) := by omega
        have hr : q = 0 := by rw [← E.out]; exact leftF_end (by rw [hll.out]; exact Nat.le_refl _)
        subst hr
        clear E
        go_wp2
        go_ret
        exact ⟨rfl, BW.out⟩
    · have hr : e = q := by rw [← E.out]; unfold leftF; rw [if_neg hx0]
      subst hr
      have hb1 : (e == 0) = false := by rw [beq_eq_false_iff_ne]; exact hx0
      clear E gd
      replace hx0 := hide hx0
      by_cases hlt : i < m
      · have hltz : (i : Int) < (m : Int) := by omega
        go_wp2
        go_ret
        exact ⟨by first | rfl | exact ret_bool hb1.symm, BW.out⟩
      · obtain rfl : i = m := by omega
        have hltz : ¬ (i : Int) < (i : Int) := by omega
        go_wp2
        go_ret
        exact ⟨by first | rfl | exact ret_bool hb1.symm, BW.out⟩
end Go.Proofs.YtjfdfhnfcpfmcaaGreatDoor
