import Derived.Test.YtkmhldjebopljaaOw
/-
  The events with a weather.
-/
namespace Go.Proofs.Ytkmhldjebopljaa
open Go.RowKit RG

def IsOneE (cs : Array Value) : Value → World → Prop := fun v w => ∃ g, v = .slice (some ⟨g, 0, none⟩) 1 1 ∧ Blk w g 65 cs
theorem IsOneE.stb (cs : Array Value) : Stb (IsOneE cs) := fun _ _ _ hb ⟨g, e, h⟩ => ⟨g, e, h.below hb h.lt⟩
def IsFour (B : Nat) : Value → World → Prop := fun v w => ∃ base, B ≤ base ∧ base ≤ w.heap.size ∧ w.ownsRow base 65 11 v 4 (ev1C.toList.take 33 ++ [.int .i64 2, .int .i64 4, .int .i64 0, .int .i64 0, .int .i64 0, .int .i64 0, .int .i64 0, .int .i64 1, .int .i64 1, .int .i64 0, .int .i64 0])
theorem IsFour.stb (B : Nat) : Stb (IsFour B) := fun _ _ _ hb ⟨base, h0, h1, h⟩ => ⟨base, h0, Nat.le_trans h1 hb.size, own_below h hb⟩
theorem _root_.Go.World.ownsRow.lt_own {w : World} {base : Nat} {e : TypeId} {size : Nat} {v : Value} {n : Nat} {xs : List Value} (h : w.ownsRow base e size v n xs) : v.ownBlock = none ∨ ∃ g, v.ownBlock = some g ∧ base ≤ g := by
  rcases h.2 with ⟨rfl, _⟩ | ⟨g, cap, cur, rfl, h1, _⟩
  · exact .inl rfl
  · exact .inr ⟨g, rfl, h1⟩
set_option maxRecDepth 100000 in
set_option maxHeartbeats 2000000 in
theorem Weather_w (w : World) : Calls Try.prog 52 #[] w fun e w' => (∃ v, e = .returned v ∧ IsRow 11 (EvW.map evCells) v w') ∧ Below w.heap.size w w' := by
  go_enter Try.func52, Try.ntmps52
  go_wp2_with fail
  refine (Events_w _).mono ?_
  rintro e w1 ⟨⟨g, rfl, hg, hk⟩, hb⟩
  have hfac := hide (fun W (h : Below w1.heap.size w1 W) => hk.below h hk.lt)
  have hB := hide hb
  clear hk hb
  go_upto_region 2 with fail
  refine region_grow_tail 9 [IsV (.slice (some ⟨g, 0, none⟩) 4 4), IsV (.slice (some ⟨g, 0, none⟩) 3 3), IsV (.agg #[.int .i64 2, .int .i64 4, .int .i64 0, .int .i64 0, .int .i64 0, .int .i64 0, .int .i64 0, .int .i64 1, .int .i64 1, .int .i64 0, .int .i64 0]), IsOneE #[.int .i64 2, .int .i64 4, .int .i64 0, .int .i64 0, .int .i64 0, .int .i64 0, .int .i64 0, .int .i64 1, .int .i64 1, .int .i64 0, .int .i64 0], IsFour w1.heap.size, IsV (.slice (some ⟨g, 0, none⟩) 4 4), IsV (.pointer (some ⟨g, 33, none⟩)), IsV (.agg #[.int .i64 1, .int .i64 5, .int .i64 0, .int .i64 0, .int .i64 0, .int .i64 0, .int .i64 0, .int .i64 0, .int .i64 0, .int .i64 0, .int .i64 0]), IsOneE #[.int .i64 1, .int .i64 5, .int .i64 0, .int .i64 0, .int .i64 0, .int .i64 0, .int .i64 0, .int .i64 0, .int .i64 0, .int .i64 0, .int .i64 0]] (by kernel_rfl) (by kernel_rfl) rfl ?_ ?_ ?_
  · exact ⟨IsV.stb _, IsV.stb _, IsV.stb _, IsOneE.stb _, IsFour.stb _, IsV.stb _, IsV.stb _, IsV.stb _, IsOneE.stb _, trivial⟩
  · refine ⟨?_, ?_, ?_, ?_, ?_, ?_, ?_, ?_, ?_, trivial⟩
    · intro y w4 K Q Cv hC hd hV
      clear hd
      simp only [List.take_succ_cons, List.take_zero, putAll, Act.put]
      go_simp
      intro hK; exact hK _ _ (hV _ _ hC (Below.refl _ _) rfl)
    · intro y w4 K Q Cv hC hd hV
      simp [deps, VL, IsV, Region.binds] at hd
      simp only [List.take_succ_cons, List.take_zero, putAll, Act.put]
      go_simp
      intro hK; exact hK _ _ (hV _ _ hC (Below.refl _ _) rfl)
    · intro y w4 K Q Cv hC hd hV
      clear hd
      simp only [List.take_succ_cons, List.take_zero, putAll, Act.put]
      go_simp
      intro hK; exact hK _ _ (hV _ _ hC (Below.refl _ _) rfl)
    · intro y w4 K Q Cv hC hd hV
      simp [deps, VL, IsV, Region.binds] at hd
      simp only [List.take_succ_cons, List.take_zero, putAll, Act.put]
      go_simp
      intro hK; exact hK _ _ (hV _ _ (hC.alloc hC.size _) ((Below.refl _ _).alloc (Nat.le_refl _) _) ⟨w4.heap.size, rfl, blkNew rfl⟩)
    · intro y w4 K Q Cv hC hd hV
      intro hK
      rw [if_pos (by simp [Region.wanted])]
      obtain ⟨h1, g', h2, hk'⟩ : y 1 = .slice (some ⟨g, 0, none⟩) 3 3 ∧ ∃ g', y 3 = .slice (some ⟨g', 0, none⟩) 1 1 ∧ Blk w4 g' 65 #[.int .i64 2, .int .i64 4, .int .i64 0, .int .i64 0, .int .i64 0, .int .i64 0, .int .i64 0, .int .i64 1, .int .i64 1, .int .i64 0, .int .i64 0] := by
        simp [deps, VL, IsV, IsOneE, Region.binds] at hd
        exact ⟨hd.1, hd.2⟩
      obtain ⟨i0, hi, hz0, hz1, hz2⟩ := info_parts infoEv
      obtain ⟨v', w', hrun, hown, hgrow⟩ := run_append_arg_grows (P := Try.prog) (w := w4) 37 37 65 i0 _ 11 88 Try.underlying37 hi hz0 hz1 hz2 rfl (by decide)
        ⟨g, 0, none⟩ 3 3 (ev1C.toList.take 33) rfl (blk_take (hfac.out w4 hC) 33) ⟨g', 0, none⟩ 1 1 (#[.int .i64 2, .int .i64 4, .int .i64 0, .int .i64 0, .int .i64 0, .int .i64 0, .int .i64 0, .int .i64 1, .int .i64 1, .int .i64 0, .int .i64 0] : Array Value).toList rfl (blk_news hk' 0) (by decide) (by unfold maxLen; decide) (by decide)
      refine wp_append_run (.tmp 4) (.tmp 6) 37 rfl (.slice (some ⟨g, 0, none⟩) 3 3) (.slice (some ⟨g', 0, none⟩) 1 1) v' ?_ ?_ hrun ?_
      · simp only [List.take_succ_cons, List.take_zero, putAll, Act.put]
        go_simp
      · simp only [List.take_succ_cons, List.take_zero, putAll, Act.put]
        go_simp
      · exact hK _ _ (hV _ _ (hC.trans ((below_of_grown hgrow).mono hC.size)) (below_of_grown hgrow) ⟨w4.heap.size, hC.size, hgrow.size, hown⟩)
    · intro y w4 K Q Cv hC hd hV
      clear hd
      simp only [List.take_succ_cons, List.take_zero, putAll, Act.put]
      go_simp
      intro hK; exact hK _ _ (hV _ _ hC (Below.refl _ _) rfl)
    · intro y w4 K Q Cv hC hd hV
      simp [deps, VL, IsV, Region.binds] at hd
      simp only [List.take_succ_cons, List.take_zero, putAll, Act.put]
      go_simp
      intro hK; exact hK _ _ (hV _ _ hC (Below.refl _ _) rfl)
    · intro y w4 K Q Cv hC hd hV
      simp [deps, VL, IsV, Region.binds] at hd
      have kg := hfac.out w4 hC
      have a0 : w4.cell? ⟨g, 33, none⟩ = some (.int .i64 1) := kg.cell 33
      have a1 : w4.cell? ⟨g, 34, none⟩ = some (.int .i64 5) := kg.cell 34
      have a2 : w4.cell? ⟨g, 35, none⟩ = some (.int .i64 0) := kg.cell 35
      have a3 : w4.cell? ⟨g, 36, none⟩ = some (.int .i64 0) := kg.cell 36
      have a4 : w4.cell? ⟨g, 37, none⟩ = some (.int .i64 0) := kg.cell 37
      have a5 : w4.cell? ⟨g, 38, none⟩ = some (.int .i64 0) := kg.cell 38
      have a6 : w4.cell? ⟨g, 39, none⟩ = some (.int .i64 0) := kg.cell 39
      have a7 : w4.cell? ⟨g, 40, none⟩ = some (.int .i64 0) := kg.cell 40
      have a8 : w4.cell? ⟨g, 41, none⟩ = some (.int .i64 0) := kg.cell 41
      have a9 : w4.cell? ⟨g, 42, none⟩ = some (.int .i64 0) := kg.cell 42
      have a10 : w4.cell? ⟨g, 43, none⟩ = some (.int .i64 0) := kg.cell 43
      clear kg
      simp only [List.take_succ_cons, List.take_zero, putAll, Act.put]
      go_simp
      intro hK; exact hK _ _ (hV _ _ hC (Below.refl _ _) rfl)
    · intro y w4 K Q Cv hC hd hV
      simp [deps, VL, IsV, Region.binds] at hd
      simp only [List.take_succ_cons, List.take_zero, putAll, Act.put]
      go_simp
      intro hK; exact hK _ _ (hV _ _ (hC.alloc hC.size _) ((Below.refl _ _).alloc (Nat.le_refl _) _) ⟨w4.heap.size, rfl, blkNew rfl⟩)
  · intro y w4 hC hE
    obtain ⟨base, hb0, hb1, hown⟩ : IsFour w1.heap.size (y 4) w4 := hE.2.2.2.2.1
    obtain ⟨g8, h8, hk8⟩ : IsOneE #[.int .i64 1, .int .i64 5, .int .i64 0, .int .i64 0, .int .i64 0, .int .i64 0, .int .i64 0, .int .i64 0, .int .i64 0, .int .i64 0, .int .i64 0] (y 8) w4 := hE.2.2.2.2.2.2.2.2.1
    clear hE
    obtain ⟨i0, hi, hz0, hz1, hz2⟩ := info_parts infoEv
    obtain ⟨v', w', hrun, hown', hgrow, -, hat⟩ := run_append_own_at (P := Try.prog) w4 base 37 37 65 i0 _ 11 88 Try.underlying37 hi hz0 hz1 hz2 rfl (by decide)
      (y 4) 4 _ hown ⟨g8, 0, none⟩ 1 1 (#[.int .i64 1, .int .i64 5, .int .i64 0, .int .i64 0, .int .i64 0, .int .i64 0, .int .i64 0, .int .i64 0, .int .i64 0, .int .i64 0, .int .i64 0] : Array Value).toList rfl (blk_news hk8 0) (by decide) (by unfold maxLen; decide) (by decide) hb1
    have hfin := hide (show IsRow 11 (EvW.map evCells) v' w' from row_of_own (by intro x hx; obtain ⟨q, _, rfl⟩ := List.mem_map.1 hx; rfl) hown')
    have hBf := hide (show Below w.heap.size w w' from (hB.out.trans (hC.mono hB.out.size)).trans ⟨hgrow.os, hgrow.tape, hgrow.output, hgrow.size, fun k hk => by
      have h1 := hB.out.size
      have h2 := hC.size
      refine hgrow.block k (by omega) ?_
      rcases hown.lt_own with h | ⟨q, hq, hq2⟩
      · rw [h]; simp
      · rw [hq]; intro e; cases e; omega⟩)
    replace hrun := hide hrun
    clear hown hown' hgrow hat hk8 hi hz0 hz1 hz2 hb0 hb1 hC hfac hB
    refine wpList_append_run rfl (.tmp 7) (.tmp 11) 37 rfl (y 4) (.slice (some ⟨g8, 0, none⟩) 1 1) v' ?_ ?_ hrun.out ?_
    · simp only [List.take_succ_cons, List.take_zero, putAll, Act.put]
      go_simp
    · simp only [List.take_succ_cons, List.take_zero, putAll, Act.put]
      go_simp
    · simp only [List.take_succ_cons, List.take_zero, putAll, Act.put]
      go_wp2
      go_ret
      exact ⟨⟨_, rfl, hfin.out⟩, hBf.out⟩
end Go.Proofs.Ytkmhldjebopljaa

/-
  What the calls of the examples return.
-/
namespace Go.Proofs.Ytkmhldjebopljaa
open Go.RowKit RG

def SZ : BSch := ⟨[], [], 0, 0, 0, 0, []⟩
def bC : Bks := ⟨[⟨0, 0, 33, 2, 1⟩, ⟨1, 1, 34, 1, 3⟩], [0, 650], [0, 150], [-4000, -4000, -22000, 50000, -20000, 0], [], [], 0⟩
deriving instance DecidableEq for Bks
theorem fee_0 : feeF S1 2 28 = (4000, 0) := by decide +kernel
theorem fee_1 : feeF SZ 1 1 = (0, 3) := by decide +kernel
theorem fee_2 : feeF S1 2 48 = (0, 0) := by decide +kernel
theorem fee_3 : feeF S1 2 23 = (8000, 0) := by decide +kernel
theorem runE_C : runE S1 EvC = 0 := by decide +kernel
theorem runE_W : runE S1 EvW = 0 := by decide +kernel
theorem runE_1 : runE S1 Ev1 = 0 := by decide +kernel
theorem run_C : (runR S1 EvC).1 = [0, 5, 0, 0, 0, 0] := by decide +kernel
theorem run_C2 : (runR S1 EvC).2.les = bC.les ∧ (runR S1 EvC).2.km = bC.km ∧ (runR S1 EvC).2.since = bC.since ∧ (runR S1 EvC).2.acc = bC.acc := by decide +kernel
theorem run_1 : (runR S1 Ev1).1 = [0, 5, 0, 0] := by decide +kernel
theorem run_12 : (runR S1 Ev1).2.acc = [-4000, 0, 4000, 0, 0, 0] := by decide +kernel
theorem run_13 : (runR S1 Ev1).2.pst = [⟨3, 0, 2, 4000⟩] := by decide +kernel
theorem run_W : (runR S1 EvW).2.les.length = 2 ∧ (runR S1 EvW).2.les[0]?.getD default = ⟨0, 0, 57, 2, 1⟩ ∧ (runR S1 EvW).2.acc = [0, 0, 0, 0, 0, 0] := by decide +kernel
theorem first_0 : firstF S1 Ev1 1 0 43 2 = (56, 0) := by decide +kernel
theorem first_1 : firstF S1 Ev1 1 0 34 1 = (35, 0) := by decide +kernel
end Go.Proofs.Ytkmhldjebopljaa

/-
  The contracts, by what the values hold.
-/
namespace Go.Proofs.Ytkmhldjebopljaa
open Go.RowKit RG

theorem Run_k (v u : Value) (S : BSch) (es : List BEv) (w : World) (h : RdBSch w v S) (hu : IsRow 11 (es.map evCells) u w) :
    Calls Try.prog 21 #[v, u] w fun e w' => (∃ v1 v2, e = .returned (.tuple #[v1, v2, .int .i64 (runE S es)]) ∧ IsInts (runR S es).1 v1 w' ∧ IsState (runR S es).2 v2 w') ∧ Below w.heap.size w w' := by
  obtain ⟨A, c, rfl, hr, hc, hm⟩ := hu
  rw [List.length_map] at hr hc ⊢
  exact Run_any v S A c es w h hr (by omega)
theorem Postings_k (v u : Value) (S : BSch) (es : List BEv) (w : World) (h : RdBSch w v S) (hu : IsRow 11 (es.map evCells) u w) :
    Calls Try.prog 25 #[v, u] w fun e w' => (∃ v1, e = .returned (.tuple #[v1, .int .i64 (runE S es)]) ∧ IsRow 4 ((runR S es).2.pst.map pstCells) v1 w') ∧ Below w.heap.size w w' := by
  obtain ⟨A, c, rfl, hr, hc, hm⟩ := hu
  rw [List.length_map] at hr hc ⊢
  exact Postings_any v S A c es w h hr (by omega)
theorem First_k (v u : Value) (S : BSch) (es : List BEv) (learner car frm hours : Int) (w : World) (h : RdBSch w v S) (hu : IsRow 11 (es.map evCells) u w) :
    Calls Try.prog 28 #[v, u, .int .i64 learner, .int .i64 car, .int .i64 frm, .int .i64 hours] w fun e w' => e = .returned (.tuple #[.int .i64 (firstF S es learner car frm hours).1, .int .i64 (firstF S es learner car frm hours).2]) ∧ Below w.heap.size w w' := by
  obtain ⟨A, c, rfl, hr, hc, hm⟩ := hu
  rw [List.length_map] at hr hc ⊢
  exact First_any v S A c es learner car frm hours w h hr (by omega)
theorem Events_k (w : World) : Calls Try.prog 31 #[] w fun e w' => (∃ v, e = .returned v ∧ IsRow 11 (Ev1.map evCells) v w') ∧ Below w.heap.size w w' := by
  refine (Events_w w).mono ?_
  rintro e w' ⟨⟨g, rfl, hg, hk⟩, hb⟩
  exact ⟨⟨_, rfl, ev_blk hk⟩, hb⟩
theorem sz_w (w : World) : RdBSch w (.agg #[.slice none 0 0, .slice none 0 0, .int .i64 0, .int .i64 0, .int .i64 0, .int .i64 0, .slice none 0 0]) SZ :=
  ⟨none, none, none, 0, 0, 0, rfl, {
    ln := (show RdStrs w none 0 [] from ⟨rfl, (fun x hx => by cases hx), (fun h => absurd h (by decide))⟩)
    lm := ⟨Nat.zero_le _, Nat.le_refl _⟩
    cn := RdRow.nil _ _ _
    cm := ⟨Nat.zero_le _, Nat.le_refl _⟩
    cs := (fun x hx => by cases hx)
    tn := RdRow.nil _ _ _
    tm := ⟨Nat.zero_le _, Nat.le_refl _⟩ }⟩
theorem IsState.shape {b : Bks} {v : Value} {w : World} (h : IsState b v w) : ∃ A0 n0 c0 A1 n1 c1 A2 n2 c2 A3 n3 c3, v = .agg #[.slice A0 n0 c0, .slice A1 n1 c1, .slice A2 n2 c2, .slice A3 n3 c3] ∧ IsRow 5 (b.les.map lesCells) (.slice A0 n0 c0) w ∧ IsInts b.km (.slice A1 n1 c1) w ∧ IsInts b.since (.slice A2 n2 c2) w ∧ IsInts b.acc (.slice A3 n3 c3) w ∧ n0 = b.les.length := by
  obtain ⟨vl, vk, vs, va, rfl, ⟨A0, c0, rfl, h0⟩, ⟨A1, c1, rfl, h1⟩, ⟨A2, c2, rfl, h2⟩, ⟨A3, c3, rfl, h3⟩⟩ := h
  exact ⟨A0, _, c0, A1, _, c1, A2, _, c2, A3, _, c3, rfl, ⟨A0, c0, rfl, h0⟩, ⟨A1, c1, rfl, h1⟩, ⟨A2, c2, rfl, h2⟩, ⟨A3, c3, rfl, h3⟩, List.length_map ..⟩
theorem isInts_blk {w : World} {g c : Nat} {t : TypeId} (xs : List Int) {cs : Array Value} (h : Blk w g t cs) (hc : cs = (xs.map (Value.int .i64)).toArray) (hl : xs.length ≤ c) : IsInts xs (.slice (some ⟨g, 0, none⟩) xs.length c) w := by
  subst hc
  refine ⟨_, c, rfl, ⟨rfl, fun _ => ⟨g, 0, rfl, h.lt, fun j hj => ?_⟩⟩, hl⟩
  rw [Nat.zero_add, h.cell, List.getElem?_toArray, List.getElem?_map, List.getElem?_eq_getElem hj]
  rfl
theorem Errors_t {u u' : Value} {w : World} {xs ys : List Int} (h : IsInts xs u w) (h' : IsInts ys u' w) (e : xs = ys) (hx : xs.length ≤ maxLen) : Calls Try.prog 23 #[u, u'] w fun e w' => e = .returned (.bool true) ∧ Below w.heap.size w w' := by
  subst e
  have := Errors_k h h' hx hx
  rwa [decide_eq_true rfl] at this
theorem Ints_t {u u' : Value} {w : World} {xs ys : List Int} (h : IsInts xs u w) (h' : IsInts ys u' w) (e : xs = ys) (hx : xs.length ≤ maxLen) : Calls Try.prog 32 #[u, u'] w fun e w' => e = .returned (.bool true) ∧ Below w.heap.size w w' := by
  subst e
  have := Ints_k h h' hx hx
  rwa [decide_eq_true rfl] at this
theorem Equal_t {u u' : Value} {w : World} {xs ys : List Pst} (h : IsRow 4 (xs.map pstCells) u w) (h' : IsRow 4 (ys.map pstCells) u' w) (e : xs = ys) : Calls Try.prog 27 #[u, u'] w fun e w' => e = .returned (.bool true) ∧ Below w.heap.size w w' := by
  subst e
  have := Equal_k h h'
  rwa [decide_eq_true rfl] at this
theorem States_t {a b : Bks} {u v : Value} {w : World} (h : IsState a u w) (h' : IsState b v w) (e : a.les = b.les ∧ a.km = b.km ∧ a.since = b.since ∧ a.acc = b.acc) (hl : LenOk b) : Calls Try.prog 24 #[u, v] w fun e w' => e = .returned (.bool true) ∧ Below w.heap.size w w' := by
  have hla : LenOk a := by
    obtain ⟨e0, e1, e2, e3⟩ := e
    unfold LenOk at *
    rw [e1, e2, e3]
    exact hl
  have := States_any h h' hla hl
  rwa [show sameS a b = true by unfold sameS; obtain ⟨e0, e1, e2, e3⟩ := e; simp [e0, e1, e2, e3]] at this
theorem bC_len : LenOk bC := ⟨by unfold maxLen; decide, by unfold maxLen; decide, by unfold maxLen; decide⟩
/-- The first lesson of a row in memory. -/
theorem first_les {b : Bks} {A : Option Addr} {n c : Nat} {w : World} {l : Les} (h : IsRow 5 (b.les.map lesCells) (.slice A n c) w) (hl : b.les[0]?.getD default = l) (h0 : 0 < b.les.length) : ∃ g o, A = some ⟨g, o, none⟩ ∧
    ∀ W, Below w.heap.size w W → W.cell? ⟨g, o, none⟩ = some (.int .i64 l.learner) ∧ W.cell? ⟨g, o + 1, none⟩ = some (.int .i64 l.car) ∧ W.cell? ⟨g, o + 2, none⟩ = some (.int .i64 l.start) ∧ W.cell? ⟨g, o + 3, none⟩ = some (.int .i64 l.hours) ∧ W.cell? ⟨g, o + 4, none⟩ = some (.int .i64 l.state) := by
  obtain ⟨A', c', e, hr, -⟩ := h
  cases e
  rw [List.length_map] at hr
  obtain ⟨g, o, x0, x1, x2, x3, x4, rfl, hb, hx, c0, c1, c2, c3, c4⟩ := hr.cells5 h0
  rw [lesRow_at b.les 0 h0] at hx
  rw [List.getElem?_eq_getElem h0] at hl
  simp only [Option.getD_some] at hl
  rw [hl] at hx
  simp only [lesCells, List.cons.injEq, and_true] at hx
  obtain ⟨rfl, rfl, rfl, rfl, rfl⟩ := hx
  simp only [Nat.zero_mul, Nat.add_zero] at c0 c1 c2 c3 c4
  exact ⟨g, o, rfl, fun W hW => ⟨(cellB hW hb).trans c0, (cellB hW hb).trans c1, (cellB hW hb).trans c2, (cellB hW hb).trans c3, (cellB hW hb).trans c4⟩⟩
/-- Four new blocks. -/
theorem blk4 (w : World) (t0 t1 t2 t3 : TypeId) (c0 c1 c2 c3 : Array Value) : ∃ W, (((w.alloc (.cells c0 t0)).alloc (.cells c1 t1)).alloc (.cells c2 t2)).alloc (.cells c3 t3) = W ∧ Below w.heap.size w W ∧ Blk W w.heap.size t0 c0 ∧ Blk W (w.heap.size + 1) t1 c1 ∧ Blk W (w.heap.size + 1 + 1) t2 c2 ∧ Blk W (w.heap.size + 1 + 1 + 1) t3 c3 := by
  refine ⟨_, rfl, ?_, ?_, ?_, ?_, ?_⟩
  · exact ((((Below.refl _ _).alloc (Nat.le_refl _) _).alloc (by simp) _).alloc (by simp; omega) _).alloc (by simp; omega) _
  · exact (((blkNew rfl).alloc _).alloc _).alloc _
  · exact ((blkNew (by simp)).alloc _).alloc _
  · exact (blkNew (by simp)).alloc _
  · exact blkNew (by simp)
end Go.Proofs.Ytkmhldjebopljaa
