/-
  The reference's right.
-/
import Derived.Test.YtjfdfhnfcpfmcaaGreatDoorRefP
import Derived.StillTailTactics
namespace Go.Proofs.YtjfdfhnfcpfmcaaGreatDoor
open Go.RowKit RG

theorem IndexC_any (A : Option Addr) (n c : Nat) (xs : List ByteArray) (x : ByteArray) (w : World) (h : RdStrs w A n xs) (hm : n ≤ maxLen) :
    Calls Tryz.prog 72 #[.slice A n c, .string x] w fun e w' => e = .returned (.int .i64 (idxC xs x)) ∧ w = w' := by
  have := IndexR_any A n c xs x w h hm
  have e : (fun j : Nat => eqS (xs[j]?.getD ⟨#[]⟩) x) = fun j : Nat => eqS x (xs[j]?.getD ⟨#[]⟩) := funext fun j => eqS_comm _ _
  rw [e] at this
  unfold idxC
  rw [h.1]
  exact this
/-- How right ends. -/
def RightR (q : Option (Int × Nat)) (e : Ending) : Prop := match q with
  | some x => e = .returned (.tuple #[.agg #[.int .i64 x.1, .int .i64 (x.2 : Nat)], .bool true])
  | none => ∃ a b : Int, e = .returned (.tuple #[.agg #[.int .i64 a, .int .i64 b], .bool false])
/-- The class that has the name, of the first j. -/
def ClsAt (p : Nat → Bool) (j : Nat) (x : Int) : Prop := (x = -1 ∧ ∀ i, i < j → p i = false) ∨ ∃ i : Nat, i < j ∧ x = (i : Int) ∧ p i = true
theorem ClsAt.hit {p : Nat → Bool} {j : Nat} (h : p j = true) : ClsAt p (j + 1) (j : Int) := .inr ⟨j, by omega, rfl, h⟩
theorem ClsAt.miss {p : Nat → Bool} {j : Nat} {x : Int} (h : ClsAt p j x) (hp : p j = false) : ClsAt p (j + 1) x := by
  rcases h with ⟨h1, h2⟩ | ⟨i, h1, h2, h3⟩
  · exact .inl ⟨h1, fun i hi => by
      by_cases e : i = j
      · subst e; exact hp
      · exact h2 i (by omega)⟩
  · exact .inr ⟨i, by omega, h2, h3⟩
theorem ClsAt.fin {S : Sys} (gd : Good S) {s : ByteArray} {x : Int} (h : ClsAt (fun j => eqS (S.cs[j]?.getD default).name s) S.cs.length x) : x = idxN S.cs s := by
  rcases h with ⟨h1, h2⟩ | ⟨i, h1, h2, h3⟩
  · unfold idxN
    rw [h1, eq_comm]
    exact firstIdx_neg.2 fun j _ hj => h2 j (by omega)
  · rw [h2, ← eqS_iff.1 h3, idxN_at gd h1]
/-- What is left to read of the parts, from the i-th on. -/
def codesAt (codes : List ByteArray) (ps : List ByteArray) (i c : Nat) : Option Nat := codesQ codes (ps.drop i) c
theorem codesAt_next {codes ps : List ByteArray} {i c : Nat} (h : i < ps.length) : codesAt codes ps i c = if idxC codes (ps[i]?.getD ⟨#[]⟩) < 0 ∨ c.testBit (idxC codes (ps[i]?.getD ⟨#[]⟩)).toNat = true then none else codesAt codes ps (i + 1) (c + 2 ^ (idxC codes (ps[i]?.getD ⟨#[]⟩)).toNat) := by
  unfold codesAt
  rw [List.drop_eq_getElem_cons h, codesQ, List.getElem?_eq_getElem h]
  rfl
theorem codesAt_end {codes ps : List ByteArray} {i c : Nat} (h : ps.length ≤ i) : codesAt codes ps i c = some c := by
  unfold codesAt
  rw [List.drop_eq_nil_of_le h]
  rfl
theorem idxC_rng (codes : List ByteArray) (s : ByteArray) : idxC codes s = -1 ∨ ∃ i : Nat, i < codes.length ∧ idxC codes s = (i : Int) := firstIdx_rng _ _

def resQ (ix : Int) (Z : Option Nat) : Option (Int × Nat) := match Z with
  | none => none
  | some k => if ix < 0 then none else some (ix, k)
set_option maxRecDepth 100000 in
set_option maxHeartbeats 4000000 in
theorem rightR_any (A A2 : Option Addr) (cc c2 : Nat) (S : Sys) (s : ByteArray) (w : World) (gd : Good S) (h : InMem w A A2 cc c2 S) (hs : s.size ≤ 7000) :
    Calls Tryz.prog 92 #[.agg #[.slice A S.cs.length cc, .slice A2 S.codes.length c2], .string s] w fun e w' => RightR (rightQ S (splitL 46 s)) e ∧ Below w.heap.size w w' := by
  have hB := hide (((Below.refl w.heap.size w).alloc (Nat.le_refl _) (.cells #[.slice A S.cs.length cc, .slice A2 S.codes.length c2] 38)).alloc (by simp) (.cells #[.int .i64 0, .int .i64 0] 64))
  have hS := hide (show Blk ((w.alloc (.cells #[.slice A S.cs.length cc, .slice A2 S.codes.length c2] 38)).alloc (.cells #[.int .i64 0, .int .i64 0] 64)) w.heap.size 38 #[.slice A S.cs.length cc, .slice A2 S.codes.length c2] from (Blk.new_ rfl).alloc _)
  have hR := hide (show Blk ((w.alloc (.cells #[.slice A S.cs.length cc, .slice A2 S.codes.length c2] 38)).alloc (.cells #[.int .i64 0, .int .i64 0] 64)) (w.heap.size + 1) 64 #[.int .i64 0, .int .i64 0] from Blk.new_ (by simp))
  have hZ : w.heap.size + 2 = ((w.alloc (.cells #[.slice A S.cs.length cc, .slice A2 S.codes.length c2] 38)).alloc (.cells #[.int .i64 0, .int .i64 0] 64)).heap.size := by simp +arith
  have hq : rightQ S (splitL 46 s) = resQ (idxN S.cs ((splitL 46 s)[0]?.getD ⟨#[]⟩)) (codesAt S.codes (splitL 46 s) 1 0) := rfl
  have hsp := hide (fun W => SplitR_any s 46 W (by omega))
  have hpl : 1 ≤ (splitL 46 s).length := by
    rcases Nat.eq_zero_or_pos (splitL 46 s).length with h1 | h1
    · exact absurd (List.eq_nil_of_length_eq_zero h1) (splitL_ne 46 s)
    · exact h1
  have hpn : (splitL 46 s).length ≤ s.size + 1 := by
    have := Lib.countB_le ⟨#[46]⟩ (Nat.le_refl 1) s.size s (Nat.le_refl _)
    unfold splitL
    rw [Lib.splitB_all ⟨#[46]⟩ (Nat.le_refl 1) 0 _ s rfl]
    omega
  have hfin := hide (fun x (hx : ClsAt (fun j => eqS (S.cs[j]?.getD default).name ((splitL 46 s)[0]?.getD ⟨#[]⟩)) S.cs.length x) => hx.fin gd)
  have hcn := hide (fun i c (hi : i < (splitL 46 s).length) => codesAt_next (codes := S.codes) (ps := splitL 46 s) (c := c) hi)
  have hce := hide (fun i c (hi : (splitL 46 s).length ≤ i) => codesAt_end (codes := S.codes) (ps := splitL 46 s) (c := c) hi)
  have hn12 := gd.bd.1.2
  have hn28 := gd.bd.2
  obtain ⟨xs, hx⟩ := h.cls
  have hx := hide hx
  have hstr := hide h.strs
  have hl2 := h.len2
  have hidx := hide (fun (x : ByteArray) W (hb : Below w.heap.size w W) => IndexC_any A2 S.codes.length c2 S.codes x W (h.strs.below hb) h.len2)
  have hir := hide (fun (x : ByteArray) => idxC_rng S.codes x)
  have hhas := hide (fun x k W (hk : k ≤ 40) (hx : x < 2 ^ 40) => HasR_any x k W hk hx)
  have hsets := hide (fun k W (hk : k ≤ 40) => (SetsR_any k W hk).mono (R' := fun e w' => e = .returned (.int .i64 ((2 ^ k : Nat) : Int)) ∧ w' = W) (fun e w' hh => ⟨hh.1, hh.2.symm⟩))
  clear h gd
  rw [hq]
  clear hq
  generalize splitL 46 s = ps at *
  generalize idxN S.cs (ps[0]?.getD ⟨#[]⟩) = ix at *
  generalize codesAt S.codes ps = F at *
  generalize idxC S.codes = IX at *
  generalize hFZ : F 1 0 = Z at *
  obtain ⟨RES, hRES⟩ : ∃ RES : Option (Int × Nat), RES = resQ ix Z := ⟨_, rfl⟩
  rw [← hRES]
  have hr1 := hide (fun (h : Z = none) => show RES = none by rw [hRES, h]; rfl)
  have hr2 := hide (fun k (h : Z = some k) (h2 : ix < 0) => show RES = none by rw [hRES, h]; unfold resQ; simp only; rw [if_pos h2])
  have hr3 := hide (fun k (h : Z = some k) (h2 : ¬ ix < 0) => show RES = some (ix, k) by rw [hRES, h]; unfold resQ; simp only; rw [if_neg h2])
  have hbad := hide (fun (h : RES = none) (a b : Int) => show RightR RES (.returned (.tuple #[.agg #[.int .i64 a, .int .i64 b], .bool false])) by rw [h]; exact ⟨a, b, rfl⟩)
  have hgood := hide (fun k (h : RES = some (ix, k)) => show RightR RES (.returned (.tuple #[.agg #[.int .i64 ix, .int .i64 (k : Nat)], .bool true])) by rw [h]; rfl)
  clear hRES
  replace hFZ := hide hFZ
  generalize hcs : S.cs = cs at *
  generalize hn : cs.length = n at *
  generalize hn2 : S.codes.length = n2 at *
  replace hn := hide hn
  replace hn2 := hide hn2
  generalize hN : ps.length = N at *
  replace hN := hide hN
  go_enter Tryz.func92, Tryz.ntmps92
  go_wp2_with fail
  generalize ((w.alloc (.cells #[.slice A n cc, .slice A2 n2 c2] 38)).alloc (.cells #[.int .i64 0, .int .i64 0] 64)) = w0 at *
  refine (hsp.out _).mono ?_
  rintro e w1 ⟨⟨v, rfl, PA, pc, rfl, hP, _⟩, hb⟩
  replace hS := hide (hS.out.below hb hS.out.lt)
  replace hR := hide (hR.out.below hb hR.out.lt)
  replace hB := hide (hB.out.trans (hb.mono hB.out.size))
  have hsz := hb.size
  clear hb hsp
  rw [hN.out] at hP ⊢
  replace hP := hide hP
  have hpz0 := hpl
  obtain ⟨pb, poff, rfl, hpb, hpc⟩ := hP.out.2.2 (by omega)
  have hpc := hide hpc
  have hp0 : w1.cell? ⟨pb, poff, none⟩ = some (.string (ps[0]?.getD ⟨#[]⟩)) := by
    have := hpc.out 0 (ps[0]?.getD ⟨#[]⟩) (by rw [List.getElem?_eq_getElem (by rw [hN.out]; omega)]; rfl)
    rwa [Nat.add_zero] at this
  replace hp0 := hide hp0
  generalize hp : ps[0]?.getD ⟨#[]⟩ = p0 at *
  clear hp
  have hB2 := hide (hB.out.trans (((Below.refl w1.heap.size w1).alloc (Nat.le_refl _) (.cells #[.int .i64 (-1), .int .i64 0] 64)).mono hB.out.size))
  have hW0 := hide ((Below.refl w1.heap.size w1).alloc (Nat.le_refl _) (.cells #[.int .i64 (-1), .int .i64 0] 64))
  have hX0 := hide (Blk.new_ (w := w1) (g := w1.heap.size) (t := 64) (cs := #[.int .i64 (-1), .int .i64 0]) rfl)
  have hSl := hS.out.lt
  have hRl := hR.out.lt
  have hszB := hB.out.size
  have hP0 : ClsAt (fun j => eqS (cs[j]?.getD default).name p0) 0 (-1) := .inl ⟨rfl, fun i hi => by omega⟩
  replace hP0 := hide hP0
  have hhit := hide (fun j (h : eqS (cs[j]?.getD default).name p0 = true) => ClsAt.hit (p := fun j => eqS (cs[j]?.getD default).name p0) (j := j) h)
  have hmiss := hide (fun j x (h : ClsAt (fun j => eqS (cs[j]?.getD default).name p0) j x) (h2 : eqS (cs[j]?.getD default).name p0 = false) => ClsAt.miss h h2)
  go_wp2
  generalize (w1.alloc (.cells #[.int .i64 (-1), .int .i64 0] 64)) = w2 at *
  generalize hB1 : w1.heap.size = B1 at *
  replace hB1 := hide hB1
  go_loopg [8] n (fun g jv wr => ∃ (j : Nat) (x : Int), j ≤ n ∧ n - j ≤ g ∧ jv = .int .i64 j ∧ Hid (Below B1 w1 wr) ∧ Hid (Blk wr B1 64 #[.int .i64 x, .int .i64 0]) ∧ Hid (ClsAt (fun j => eqS (cs[j]?.getD default).name p0) j x))
  case atStart => exact ⟨0, -1, Nat.zero_le _, by omega, rfl, hW0, hX0, hP0⟩
  case round =>
    clear hW0 hX0 hP0 hB2
    obtain ⟨j, x, hj, hg, rfl, hW, hX, hC⟩ := hrel
    have hSW := hide (hS.out.below hW.out hSl)
    have s0 : wr.cell? ⟨w.heap.size, 0, none⟩ = some (.slice A n cc) := hSW.out.cell 0
    by_cases hlt : j < n
    · have hltz : (j : Int) < (n : Int) := by omega
      have hj0 : (0 : Int) ≤ (j : Int) := by omega
      have hBW := hide (hB.out.trans (hW.out.mono hszB))
      obtain ⟨b, off, x0, x1, x2, x3, x4, rfl, hb, hxj, c0, c1, c2', c3', c4⟩ := (hx.out.below hBW.out).1.cells5 hlt
      have hcls := hx.out.2.2.2 j hlt
      rw [hxj] at hcls
      obtain ⟨ia, ic, hcell, _⟩ := hcls
      simp only [List.cons.injEq, and_true] at hcell
      obtain ⟨rfl, _⟩ := hcell
      clear c1 c2' c3' c4 hxj
      have q0 := (cellB (o := poff) hW.out hpb).trans hp0.out
      have hN0 : (0 : Int) < (N : Int) := by omega
      have hhj := hhit.out j
      have hmj := hmiss.out j x hC.out
      generalize (cs[j]?.getD default).name = nm at *
      cases hq : eqS nm p0 with
      | true =>
        have h2 : (nm.toList == p0.toList) = true := hq
        have hC2 := hide (hhj hq)
        have hXl := hX.out.lt
        have x0 : wr.cell? ⟨B1, 0, none⟩ = some (.int .i64 x) := hX.out.cell 0
        have xf : wr.frozen? ⟨B1, 0, none⟩ = false := hX.out.frozen 0
        replace hhj := hide hhj
        replace hmj := hide hmj
        clear hq
        go_wp2
        go_quiet (fail)
        go_wp2
        go_roundg (n - (j + 1))
        case measure => omega
        case rel => exact ⟨j + 1, j, by omega, by omega, by go_num, (below_drewN hW.out _).setCell (by simp) _, by unfold Hid; simpa using (Blk.drewN hX.out _).set_ 0 (.int .i64 j), hC2⟩
      | false =>
        have h2 : (nm.toList == p0.toList) = false := hq
        have hC2 := hide (hmj hq)
        replace hhj := hide hhj
        replace hmj := hide hmj
        clear hq
        go_wp2
        go_quiet (fail)
        go_wp2
        go_roundg (n - (j + 1))
        case measure => omega
        case rel => exact ⟨j + 1, x, by omega, by omega, by go_num, below_drewN hW.out _, Blk.drewN hX.out _, hC2⟩
    · obtain rfl : n = j := by omega
      have hltz : ¬ (n : Int) < (n : Int) := by omega
      obtain rfl : ix = x := (hfin.out x hC.out).symm
      clear hC hfin hhit hmiss hx hp0
      go_wp2
      clear s0
      go_loopg [9] N (fun g iv wr => ∃ (i c : Nat), 1 ≤ i ∧ i ≤ N ∧ N - i ≤ g ∧ iv = .int .i64 i ∧ c < 2 ^ n2 ∧ Hid (Below B1 w1 wr) ∧ Hid (Blk wr B1 64 #[.int .i64 ix, .int .i64 c]) ∧ Hid (F i c = Z))
      case atStart => exact ⟨1, 0, Nat.le_refl _, hpl, by omega, rfl, Nat.two_pow_pos _, hW, hX, hFZ⟩
      case round =>
        clear hW hX hSW
        obtain ⟨i, c, hi1, hiN, hg, rfl, hc, hW, hX, hZ⟩ := hrel
        have hBW := hide (hB.out.trans (hW.out.mono hszB))
        have hSW := hide (hS.out.below hW.out hSl)
        have hRW := hide (hR.out.below hW.out hRl)
        have hcb : c < 256 := Nat.lt_of_lt_of_le hc (Nat.le_trans (Nat.pow_le_pow_right (by omega) hn28) (by decide))
        have hc40 : c < 2 ^ 40 := Nat.lt_trans hcb (by decide)
        by_cases hlt : i < N
        · have hltz : (i : Int) < (N : Int) := by omega
          have hi0 : (0 : Int) ≤ (i : Int) := by omega
          have q0 : wr.cell? ⟨pb, poff + i, none⟩ = some (.string (ps[i]?.getD ⟨#[]⟩)) := (cellB hW.out hpb).trans (hpc.out i _ (by rw [List.getElem?_eq_getElem (by rw [hN.out]; omega)]; rfl))
          have s1 : wr.cell? ⟨w.heap.size, 1, none⟩ = some (.slice A2 n2 c2) := hSW.out.cell 1
          have hnx := hcn.out i c hlt
          rw [hZ.out] at hnx
          have hir0 := hir.out (ps[i]?.getD ⟨#[]⟩)
          generalize ps[i]?.getD ⟨#[]⟩ = pi at *
          have hcall := hide (fun W hb => hidx.out pi W hb)
          generalize IX pi = kk at *
          replace hnx := hide hnx
          clear hZ
          have y0 : wr.cell? ⟨B1, 0, none⟩ = some (.int .i64 ix) := hX.out.cell 0
          have y1 : wr.cell? ⟨B1, 1, none⟩ = some (.int .i64 c) := hX.out.cell 1
          have z0 : wr.cell? ⟨w.heap.size + 1, 0, none⟩ = some (.int .i64 0) := hRW.out.cell 0
          have z1 : wr.cell? ⟨w.heap.size + 1, 1, none⟩ = some (.int .i64 0) := hRW.out.cell 1
          have zf0 : wr.frozen? ⟨w.heap.size + 1, 0, none⟩ = false := hRW.out.frozen 0
          have zf1 : wr.frozen? ⟨w.heap.size + 1, 1, none⟩ = false := hRW.out.frozen 1
          rcases hir0 with rfl | ⟨q, hq, rfl⟩
          · have hres := hide (hr1.out (by have := hnx.out; rw [if_pos (.inl (by omega))] at this; exact this))
            clear hnx
            go_wp2
            go_quiet ((go_at_call 72; exact quiet_left (hcall.out _ (below_drewN hBW.out _))))
            have hRn := ((Blk.drewN hRW.out nq).set_ 0 (.int .i64 ix)).set_ 1 (.int .i64 c)
            have e0 := (hRn.cell 0).trans (show _ = some (Value.int .i64 ix) by simp)
            have e1 := (hRn.cell 1).trans (show _ = some (Value.int .i64 c) by simp)
            go_wp2
            refine bodyPost_ret (v := .tuple #[.agg #[.int .i64 ix, .int .i64 c], .bool false]) (by simp [results, Tryz.results92, go_sem, e0, e1]) rfl ⟨hbad.out hres.out ix c, ?_⟩
            exact ((below_drewN hBW.out _).setCell (by simp) _).setCell (by simp) _
          · go_wp2
            go_quiet ((go_at_call 72; exact quiet_left (hcall.out _ (below_drewN hBW.out _))))
            have hq0 : ¬ (q : Int) < 0 := by omega
            go_wp2_with fail
            refine (hhas.out c q _ (by omega) hc40).mono ?_
            rintro e w6 ⟨rfl, rfl⟩
            cases hbit : c.testBit q with
            | true =>
              have hres := hide (hr1.out (by have := hnx.out; rw [if_pos (.inr (by simpa using hbit))] at this; exact this))
              clear hnx hbit
              have hRn := ((Blk.drewN hRW.out nq).set_ 0 (.int .i64 ix)).set_ 1 (.int .i64 c)
              have e0 := (hRn.cell 0).trans (show _ = some (Value.int .i64 ix) by simp)
              have e1 := (hRn.cell 1).trans (show _ = some (Value.int .i64 c) by simp)
              go_wp2
              refine bodyPost_ret (v := .tuple #[.agg #[.int .i64 ix, .int .i64 c], .bool false]) (by simp [results, Tryz.results92, go_sem, e0, e1]) rfl ⟨hbad.out hres.out ix c, ?_⟩
              exact ((below_drewN hBW.out _).setCell (by simp) _).setCell (by simp) _
            | false =>
              have hZ2 := hide (show F (i + 1) (c + 2 ^ q) = Z by
                have := hnx.out
                rw [if_neg (by intro h; rcases h with h | h <;> first | omega | (rw [Int.toNat_natCast, hbit] at h; cases h))] at this
                simpa using this.symm)
              have hc2 := add_lt hbit hc hq
              have hsi := hide (fun W => hsets.out q W (by omega))
              have hXq := hide (Blk.drewN hX.out nq)
              have hWq := hide (below_drewN hW.out nq)
              have hszq : B1 ≤ (wr.drewN nq).heap.size := by rw [← hB1.out]; exact hWq.out.size
              have hXl := hXq.out.lt
              have hcb2 : c + 2 ^ q < 256 := Nat.lt_of_lt_of_le hc2 (Nat.le_trans (Nat.pow_le_pow_right (by omega) hn28) (by decide))
              have y1 : (wr.drewN nq).cell? ⟨B1, 1, none⟩ = some (.int .i64 c) := hXq.out.cell 1
              clear hbit hnx hW hX hBW hSW hRW s1 q0 y0 z0 z1 zf0 zf1
              generalize hpq : 2 ^ q = pq at *
              have hcast : (c : Int) + (pq : Int) = ((c + pq : Nat) : Int) := by omega
              have hwr : IntKind.i64.wrap ((c + pq : Nat) : Int) = ((c + pq : Nat) : Int) := Bits.wrap_nat _ (by omega)
              generalize hcq : c + pq = cq at *
              replace hpq := hide hpq
              replace hcq := hide hcq
              generalize wr.drewN nq = wq at *
              go_wp2
              refine region_grow_tail 6 [IsV (.pointer (some ⟨B1, 1, none⟩)), IsV (.int .i64 c), IsV (.int .i64 q), IsV (.int .i64 (pq : Nat)), IsV (.int .i64 (cq : Nat)), IsV (.pointer (some ⟨B1, 1, none⟩))] (by kernel_rfl) (by kernel_rfl) rfl ?_ ?_ ?_
              · simp [AllStb, IsV.stb]
              · refine ⟨?_, ?_, ?_, ?_, ?_, ?_, trivial⟩
                all_goals
                  intro y w6 K Q Cv hC hd hV
                  have r1 := (cellB (o := 1) hC hXl).trans y1
                  simp [deps, VL, IsV, Region.binds] at hd
                  simp only [List.take_succ_cons, List.take_zero, putAll, Act.put]
                  go_simp; intro hK
                · exact hK _ _ (hV _ _ hC (Below.refl _ _) rfl)
                · exact hK _ _ (hV _ _ hC (Below.refl _ _) rfl)
                · exact hK _ _ (hV _ _ hC (Below.refl _ _) rfl)
                · refine (hsi.out w6).mono ?_
                  rintro e w7 ⟨rfl, rfl⟩
                  exact hK _ _ (hV _ _ hC (Below.refl _ _) rfl)
                · exact hK _ _ (hV _ _ hC (Below.refl _ _) rfl)
                · exact hK _ _ (hV _ _ hC (Below.refl _ _) rfl)
              · intro y w6 hC hd
                simp [EndsL, IsV] at hd
                obtain ⟨d0, d1, d2, d3, d4, d5⟩ := hd
                simp only [List.take_succ_cons, List.take_zero, List.drop_succ_cons, List.drop_zero, putAll, Act.put]
                rw [d0, d1, d2, d3, d4, d5]
                clear d0 d1 d2 d3 d4 d5
                simp only [List.setIfInBounds_toArray, List.set_cons_succ, List.set_cons_zero]
                have hX6 := hide (hXq.out.below hC hXl)
                have hW6 := hide (hWq.out.trans (hC.mono hszq))
                have g1 : w6.cell? ⟨B1, 1, none⟩ = some (.int .i64 c) := hX6.out.cell 1
                have f1 : w6.frozen? ⟨B1, 1, none⟩ = false := hX6.out.frozen 1
                clear hC y1
                go_wp2
                go_roundg (N - (i + 1))
                case measure => omega
                case rel => exact ⟨i + 1, cq, by omega, by omega, by omega, by go_num, hc2, hW6.out.setCell (by simp) _, by unfold Hid; simpa using hX6.out.set_ 1 (.int .i64 cq), hZ2⟩
        · obtain rfl : N = i := by omega
          have hltz : ¬ (N : Int) < (N : Int) := by omega
          have hZc := (hce.out N c (Nat.le_refl _)).symm.trans hZ.out
          have y0 : wr.cell? ⟨B1, 0, none⟩ = some (.int .i64 ix) := hX.out.cell 0
          have y1 : wr.cell? ⟨B1, 1, none⟩ = some (.int .i64 c) := hX.out.cell 1
          have z0 : wr.cell? ⟨w.heap.size + 1, 0, none⟩ = some (.int .i64 0) := hRW.out.cell 0
          have z1 : wr.cell? ⟨w.heap.size + 1, 1, none⟩ = some (.int .i64 0) := hRW.out.cell 1
          have zf0 : wr.frozen? ⟨w.heap.size + 1, 0, none⟩ = false := hRW.out.frozen 0
          have zf1 : wr.frozen? ⟨w.heap.size + 1, 1, none⟩ = false := hRW.out.frozen 1
          have hne : w.heap.size + 1 ≠ B1 := by omega
          have hne2 : B1 ≠ w.heap.size + 1 := by omega
          by_cases hix : ix < 0
          · have hres := hide (hr2.out c hZc.symm hix)
            have hge : ¬ (0 : Int) ≤ ix := by omega
            clear hZc hZ
            have hd : decide ((0 : Int) ≤ ix) = false := by simpa using hix
            go_wp2
            go_region
            have hRn := (((hRW.out).set_ 0 (.int .i64 ix)).set_ 1 (.int .i64 c)).drew
            have e0 := (hRn.cell 0).trans (show _ = some (Value.int .i64 ix) by simp)
            have e1 := (hRn.cell 1).trans (show _ = some (Value.int .i64 c) by simp)
            go_wp2
            refine bodyPost_ret (v := .tuple #[.agg #[.int .i64 ix, .int .i64 c], .bool false]) (by simp [results, Tryz.results92, go_sem, e0, e1]) rfl ⟨hbad.out hres.out ix c, ?_⟩
            exact ((hBW.out.setCell (by simp) _).setCell (by simp) _).drew
          · have hres := hide (hr3.out c hZc.symm (by simpa using hix))
            have hge : (0 : Int) ≤ ix := by omega
            clear hZc hZ
            have hd : decide ((0 : Int) ≤ ix) = true := by simpa using hge
            go_wp2
            go_region
            have hRn := (((hRW.out).set_ 0 (.int .i64 ix)).set_ 1 (.int .i64 c)).drew
            have e0 := (hRn.cell 0).trans (show _ = some (Value.int .i64 ix) by simp)
            have e1 := (hRn.cell 1).trans (show _ = some (Value.int .i64 c) by simp)
            go_wp2
            refine bodyPost_ret (v := .tuple #[.agg #[.int .i64 ix, .int .i64 c], .bool true]) (by simp [results, Tryz.results92, go_sem, e0, e1]) rfl ⟨hgood.out c hres.out, ?_⟩
            exact ((hBW.out.setCell (by simp) _).setCell (by simp) _).drew
end Go.Proofs.YtjfdfhnfcpfmcaaGreatDoor
