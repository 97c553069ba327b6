import Derived.Test.YtkmhldjebopljaaOu
import Derived.Test.YtkmhldjebopljaaOg
/-
  Run and Postings (made by mkbkrun.py).
-/
namespace Go.Proofs.Ytkmhldjebopljaa
open Go.RowKit RG

/-- A slice value that holds the ints xs. -/
def IsInts (xs : List Int) (v : Value) (w : World) : Prop := ∃ A c, v = .slice A xs.length c ∧ RdInts w A xs.length xs ∧ xs.length ≤ c
/-- A slice value that holds elements of k cells. -/
def IsRow (k : Nat) (xs : List (List Value)) (v : Value) (w : World) : Prop := ∃ A c, v = .slice A xs.length c ∧ RdRow w A xs.length k xs ∧ xs.length ≤ c ∧ c ≤ maxLen
theorem RowAt.shape {w : World} {X : Nat → Prop} {e : TypeId} {k : Nat} {v : Value} {xs : List (List Value)} (h : RowAt w X e k v xs) : ∃ A n c, v = .slice A n c := by
  obtain ⟨A, c, e, -⟩ := h.row
  exact ⟨A, _, c, e⟩
theorem RowAt.isRow {w : World} {X : Nat → Prop} {e : TypeId} {k : Nat} {v : Value} {xs : List (List Value)} (h : RowAt w X e k v xs) : IsRow k xs v w := by
  obtain ⟨A, c, e, h1, h2, h3, -⟩ := h.row
  exact ⟨A, c, e, h1, h2, h3⟩
theorem RowAt.isInts {w : World} {X : Nat → Prop} {v : Value} {xs : List Int} (h : RowAt w X 3 1 v (xs.map iCells)) : IsInts xs v w := by
  obtain ⟨A, c, e, h1, h2, h3, -⟩ := h.row
  rw [List.length_map] at e h1 h2
  refine ⟨A, c, e, ⟨rfl, fun hn => ?_⟩, h2⟩
  obtain ⟨b, off, e1, e2, hc⟩ := h1.2.2 hn
  refine ⟨b, off, e1, e2, fun j hj => ?_⟩
  have := hc j 0 (.int .i64 (xs[j]?.getD 0)) (by rw [List.getElem?_map, List.getElem?_eq_getElem hj]; rfl)
  rwa [Nat.mul_one, Nat.add_zero] at this
theorem IsRow.below {k : Nat} {xs : List (List Value)} {v : Value} {w w' : World} (h : IsRow k xs v w) (hb : Below w.heap.size w w') : IsRow k xs v w' := by
  obtain ⟨A, c, e, h1, h2⟩ := h
  exact ⟨A, c, e, h1.below hb, h2⟩
theorem IsInts.below {xs : List Int} {v : Value} {w w' : World} (h : IsInts xs v w) (hb : Below w.heap.size w w') : IsInts xs v w' := by
  obtain ⟨A, c, e, h1, h2⟩ := h
  exact ⟨A, c, e, h1.below hb, h2⟩
theorem isInts_refs {w : World} {g n : Nat} {xs : List Int} (h : Blk w g 30 (refC xs n)) (hn : xs.length = n) : IsInts xs (.slice (some ⟨g, 0, none⟩) n n) w := by
  refine ⟨_, n, by rw [hn], ⟨rfl, fun _ => ⟨g, 0, rfl, h.lt, fun j hj => ?_⟩⟩, by omega⟩
  rw [Nat.zero_add, h.cell]
  unfold refC
  rw [List.getElem?_toArray, List.getElem?_append_left (by simpa using hj), List.getElem?_map, List.getElem?_eq_getElem hj]
  rfl
/-- The error of a school and events. -/
def runE (S : BSch) (es : List BEv) : Int := if (checkB S).2.2 ≠ 0 then (checkB S).2.2 else if 60 < es.length then 3 else 0
/-- A value that is what there is after events. -/
def IsState (b : Bks) (v : Value) (w : World) : Prop := ∃ vl vk vs va, v = .agg #[vl, vk, vs, va] ∧ IsRow 5 (b.les.map lesCells) vl w ∧ IsInts b.km vk w ∧ IsInts b.since vs w ∧ IsInts b.acc va w
def noBks : Bks := ⟨[], [], [], [], [], [], 0⟩
/-- What there is after events, and how each of them went; nothing if there is an error. -/
def runR (S : BSch) (es : List BEv) : List Int × Bks := if runE S es = 0 then runB S es 0 (startB S) else ([], noBks)
theorem isRow_nil (k : Nat) (w : World) : IsRow k [] (.slice none 0 0) w := ⟨none, 0, rfl, RdRow.nil _ _ _, Nat.le_refl _, by unfold maxLen; omega⟩
theorem isInts_nil (w : World) : IsInts [] (.slice none 0 0) w := ⟨none, 0, rfl, rdInts_nil _ _, Nat.le_refl _⟩
theorem isState_none (w : World) : IsState noBks (.agg #[.slice none 0 0, .slice none 0 0, .slice none 0 0, .slice none 0 0]) w := ⟨_, _, _, _, rfl, isRow_nil _ _, isInts_nil _, isInts_nil _, isInts_nil _⟩
theorem isState_books {w : World} {X : Nat → Prop} {p : Nat} {L C T : Option Addr} {cl cc ct : Nat} {S : BSch} {vl vk vs va : Value} {mb : Nat} {vp : Value} {b : Bks} {ev : Int} (h : RawB w X p L C T cl cc ct S vl vk vs va mb vp b ev) : IsState b (.agg #[vl, vk, vs, va]) w :=
  ⟨vl, vk, vs, va, rfl, h.les.isRow, h.km.isInts, h.since.isInts, h.acc.isInts⟩
theorem IsState.below {b : Bks} {v : Value} {w w' : World} (h : IsState b v w) (hb : Below w.heap.size w w') : IsState b v w' := by
  obtain ⟨vl, vk, vs, va, e, h1, h2, h3, h4⟩ := h
  exact ⟨vl, vk, vs, va, e, h1.below hb, h2.below hb, h3.below hb, h4.below hb⟩

theorem run_end (tm : Array Value) (wf : World) (R : Ending → World → Prop) (q : Nat) (v4 v6 v0 v1 v2 v3 : Value) (h4 : tm[4]? = some v4) (h5 : tm[5]? = some (.pointer (some ⟨q, 0, none⟩))) (h6 : tm[6]? = some v6) (hb : Blk wf q 42 #[v0, v1, v2, v3]) (hR : R (.returned (.tuple #[v4, .agg #[v0, v1, v2, v3], v6])) wf) :
    bodyPost Try.prog Try.f21 R Exit.ret { tmps := tm, defers := [] } wf := by
  have a1 := Try.isAgg38
  have a2 := Try.isAgg42
  have a3 := Try.isAgg30
  have c0 := hb.cell 0
  have c1 := hb.cell 1
  have c2 := hb.cell 2
  have c3 := hb.cell 3
  simp at c0 c1 c2 c3
  refine ⟨rfl, .tuple #[v4, .agg #[v0, v1, v2, v3], v6], ?_, hR⟩
  simp [results, Try.results21, go_sem, h4, h5, h6, c0, c1, c2, c3]
set_option maxRecDepth 100000 in
set_option maxHeartbeats 1000000 in
theorem Run_any (v : Value) (S : BSch) (A : Option Addr) (c : Nat) (es : List BEv) (w : World) (h : RdBSch w v S) (hE : RdRow w A es.length 11 (es.map evCells)) (hm : es.length ≤ maxLen) :
    Calls Try.prog 21 #[v, .slice A es.length c] w fun e w' => (∃ v1 v2, e = .returned (.tuple #[v1, v2, .int .i64 (runE S es)]) ∧ IsInts (runR S es).1 v1 w' ∧ IsState (runR S es).2 v2 w') ∧ Below w.heap.size w w' := by
  have hop := hide (fun V (hb : Below w.heap.size w V) => open_any v S A c es V (h.below hb) (hE.below hb) hm)
  have hsz : ∀ V : World, OpenR V S es = OpenR V S es := fun _ => rfl
  clear hsz
  obtain ⟨L, C, T, cl, cc, ct, rfl, -⟩ := h
  have hlr := hide (show (runB S es 0 (startB S)).1.length = es.length from run_len S es 0 (startB S))
  obtain ⟨W, hW⟩ : ∃ y, (w.alloc (.cells (schCells L C T cl cc ct S) 28)).alloc (.cells #[.slice none 0 0, .slice none 0 0, .slice none 0 0, .slice none 0 0] 42) = y := ⟨_, rfl⟩
  have kb := hide (show Blk W w.heap.size 28 (schCells L C T cl cc ct S) by rw [← hW]; exact (blkNew rfl).alloc _)
  have kr := hide (show Blk W (w.heap.size + 1) 42 #[.slice none 0 0, .slice none 0 0, .slice none 0 0, .slice none 0 0] by rw [← hW]; exact blkNew (by simp))
  have hB := hide (show Below w.heap.size w W by rw [← hW]; exact ((Below.refl w.heap.size w).alloc (Nat.le_refl _) _).alloc (by simp) _)
  have hRE := hide (show ∀ V e, OpenR V S es e = OpenR V S es e from fun _ _ => rfl)
  clear hRE
  unfold schCells at *
  generalize S.learners.length = nl at *
  generalize S.cars.length = nc at *
  generalize S.terms.length = nt at *
  have k0 : W.cell? ⟨w.heap.size, 0, none⟩ = some (.slice L nl cl) := kb.out.cell 0
  have k1 : W.cell? ⟨w.heap.size, 1, none⟩ = some (.slice C nc cc) := kb.out.cell 1
  have k2 : W.cell? ⟨w.heap.size, 2, none⟩ = some (.int .i64 S.price) := kb.out.cell 2
  have k3 : W.cell? ⟨w.heap.size, 3, none⟩ = some (.int .i64 S.excess) := kb.out.cell 3
  have k4 : W.cell? ⟨w.heap.size, 4, none⟩ = some (.int .i64 S.lo) := kb.out.cell 4
  have k5 : W.cell? ⟨w.heap.size, 5, none⟩ = some (.int .i64 S.hi) := kb.out.cell 5
  have k6 : W.cell? ⟨w.heap.size, 6, none⟩ = some (.slice T nt ct) := kb.out.cell 6
  replace hW := hide hW
  obtain ⟨n, hn⟩ : ∃ n, es.length = n := ⟨_, rfl⟩
  have hop2 := hide (hop.out W hB.out)
  rw [hn] at hop2 ⊢
  clear hE hop
  go_enter Try.func21, Try.ntmps21
  go_upto_region 1 with fail
  rw [hW.out]
  go_wp2_with fail
  refine hop2.out.mono ?_
  clear hop2
  rintro e w2 ⟨hO, hb⟩
  have hB2 := hide (hB.out.trans (hb.mono hB.out.size))
  have kr2 := hide (kr.out.below hb kr.out.lt)
  have hWz := hide (show w.heap.size + 1 < W.heap.size from kr.out.lt)
  clear hb k0 k1 k2 k3 k4 k5 k6 kb hB
  unfold OpenR at hO
  by_cases hE : runE S es = 0
  · have hq0 : (checkB S).2.2 = 0 := by
      unfold runE at hE
      split at hE
      · rename_i hh; exact absurd hE hh
      · rename_i hh; simpa using hh
    have hq1 : ¬ 60 < es.length := by
      intro hh
      unfold runE at hE
      rw [if_neg (by simp [hq0]), if_pos hh] at hE
      cases hE
    rw [if_neg (by simp [hq0]), if_neg hq1] at hO
    obtain ⟨p, g, X, L', C', T', cl', cc', ct', ev, rfl, hpw, hgw, hXg, hXw, ⟨vl, vk, vs, va, mb, vp, hr⟩, kg⟩ := hO
    rw [hn] at kg ⊢
    have hrr : runR S es = runB S es 0 (startB S) := by unfold runR; rw [if_pos hE]
    obtain ⟨Al, nl2, cl2, rfl⟩ := hr.les.shape
    obtain ⟨Ak, nk2, ck2, rfl⟩ := hr.km.shape
    obtain ⟨As, ns2, cs2, rfl⟩ := hr.since.shape
    obtain ⟨Aa, na2, ca2, rfl⟩ := hr.acc.shape
    have c7 : w2.cell? ⟨p, 7, none⟩ = some (.slice Al nl2 cl2) := hr.blk.cell 7
    have c8 : w2.cell? ⟨p, 8, none⟩ = some (.slice Ak nk2 ck2) := hr.blk.cell 8
    have c9 : w2.cell? ⟨p, 9, none⟩ = some (.slice As ns2 cs2) := hr.blk.cell 9
    have c10 : w2.cell? ⟨p, 10, none⟩ = some (.slice Aa na2 ca2) := hr.blk.cell 10
    obtain ⟨r, hr0⟩ : ∃ r, w.heap.size + 1 = r := ⟨_, rfl⟩
    have hXr : X r := hXw r (by rw [← hr0]; exact hWz.out)
    have hgr : g ≠ r := by have := hWz.out; omega
    rw [hr0] at kr2
    have r0 : w2.cell? ⟨r, 0, none⟩ = some (.slice none 0 0) := kr2.out.cell 0
    have r1 : w2.cell? ⟨r, 1, none⟩ = some (.slice none 0 0) := kr2.out.cell 1
    have r2 : w2.cell? ⟨r, 2, none⟩ = some (.slice none 0 0) := kr2.out.cell 2
    have r3 : w2.cell? ⟨r, 3, none⟩ = some (.slice none 0 0) := kr2.out.cell 3
    have f0 := kr2.out.frozen 0
    have f1 := kr2.out.frozen 1
    have f2 := kr2.out.frozen 2
    have f3 := kr2.out.frozen 3
    obtain ⟨W9, hW9⟩ : ∃ y, ((((w2.setCell ⟨r, 0, none⟩ (.slice Al nl2 cl2)).setCell ⟨r, 1, none⟩ (.slice Ak nk2 ck2)).setCell ⟨r, 2, none⟩ (.slice As ns2 cs2)).setCell ⟨r, 3, none⟩ (.slice Aa na2 ca2)).drew = y := ⟨_, rfl⟩
    have hfr : ∀ k, k ≠ r → W9.heap[k]? = w2.heap[k]? := fun k hk => by
      rw [← hW9]
      exact (Below.heap_setCell _ _ _ _ hk).trans ((Below.heap_setCell _ _ _ _ hk).trans ((Below.heap_setCell _ _ _ _ hk).trans (Below.heap_setCell _ _ _ _ hk)))
    have kr9 := hide (show Blk W9 r 42 #[(.slice Al nl2 cl2), (.slice Ak nk2 ck2), (.slice As ns2 cs2), (.slice Aa na2 ca2)] by
      have := (((kr2.out.set_ 0 (.slice Al nl2 cl2)).set_ 1 (.slice Ak nk2 ck2)).set_ 2 (.slice As ns2 cs2)).set_ 3 (.slice Aa na2 ca2)
      have h2 : Blk ((((w2.setCell ⟨r, 0, none⟩ (.slice Al nl2 cl2)).setCell ⟨r, 1, none⟩ (.slice Ak nk2 ck2)).setCell ⟨r, 2, none⟩ (.slice As ns2 cs2)).setCell ⟨r, 3, none⟩ (.slice Aa na2 ca2)) r 42 #[(.slice Al nl2 cl2), (.slice Ak nk2 ck2), (.slice As ns2 cs2), (.slice Aa na2 ca2)] := by simpa using this
      rw [← hW9]
      exact h2)
    have row : ∀ {e k v xs}, RowAt w2 X e k v xs → RowAt W9 X e k v xs := fun {e k v xs} hh => hh.blk fun g h1 _ => hfr g (fun e => hh.not g h1 (e ▸ hXr))
    have hst := hide (show IsState (runB S es 0 (startB S)).2 (.agg #[(.slice Al nl2 cl2), (.slice Ak nk2 ck2), (.slice As ns2 cs2), (.slice Aa na2 ca2)]) W9 from ⟨(.slice Al nl2 cl2), (.slice Ak nk2 ck2), (.slice As ns2 cs2), (.slice Aa na2 ca2), rfl, (row hr.les).isRow, (row hr.km).isInts, (row hr.since).isInts, (row hr.acc).isInts⟩)
    have hrf := hide (show IsInts (runB S es 0 (startB S)).1 (.slice (some ⟨g, 0, none⟩) n n) W9 from isInts_refs (n := n) ((hfr g hgr).trans kg) (by rw [hlr.out, hn]))
    have hB9 := hide (show Below w.heap.size w W9 by
      rw [← hW9]
      exact ((((hB2.out.setCell (p := ⟨r, 0, none⟩) (by show w.heap.size ≤ r; omega) _).setCell (p := ⟨r, 1, none⟩) (by show w.heap.size ≤ r; omega) _).setCell (p := ⟨r, 2, none⟩) (by show w.heap.size ≤ r; omega) _).setCell (p := ⟨r, 3, none⟩) (by show w.heap.size ≤ r; omega) _).drew)
    have hpc := hide (show ∀ j, j ≤ 1 → (wsC w2.drew [W9] j).cell? ⟨p, 7, none⟩ = some (.slice Al nl2 cl2) ∧ (wsC w2.drew [W9] j).cell? ⟨p, 8, none⟩ = some (.slice Ak nk2 ck2) ∧ (wsC w2.drew [W9] j).cell? ⟨p, 9, none⟩ = some (.slice As ns2 cs2) ∧ (wsC w2.drew [W9] j).cell? ⟨p, 10, none⟩ = some (.slice Aa na2 ca2) from by
      intro j hj
      rcases (show j = 0 ∨ j = 1 by omega) with rfl | rfl
      · exact ⟨c7, c8, c9, c10⟩
      · have hpr : p ≠ r := fun e => hr.px (e ▸ hXr)
        have hb9 : Blk W9 p 99 _ := (hfr p hpr).trans hr.blk
        exact ⟨hb9.cell 7, hb9.cell 8, hb9.cell 9, hb9.cell 10⟩)
    replace hW9 := hide hW9
    replace hr0 := hide hr0
    clear hr row hfr kg c7 c8 c9 c10 hXw kr2 hgr
    go_upto_region 4 with fail
    rw [hr0.out]
    refine region_chain [6] [.slice (some ⟨g, 0, none⟩) n n, .pointer (some ⟨p, 0, none⟩), .pointer (some ⟨p, 0, none⟩), .pointer (some ⟨p, 7, none⟩), .agg #[.slice Al nl2 cl2, .slice Ak nk2 ck2, .slice As ns2 cs2, .slice Aa na2 ca2], .slice (some ⟨g, 0, none⟩) n n, undef, .int .i64 0] (wsC w2.drew [W9]) (by kernel_rfl) (by kernel_rfl) (by kernel_rfl) (by kernel_rfl) rfl ?_ ?_
    · refine ⟨?_, ?_, ?_, ?_, ?_, ?_, ?_, ?_, trivial⟩
      · refine oneC_still 1 (by kernel_rfl) (by kernel_rfl) ?_
        intro y j K Q hd hj hK
        generalize wsC w2.drew [W9] j = W at *
        clear hd
        revert hK
        simp only [putAll, Act.put]
        go_simp
      · refine oneC_still 1 (by kernel_rfl) (by kernel_rfl) ?_
        intro y j K Q hd hj hK
        generalize wsC w2.drew [W9] j = W at *
        clear hd
        revert hK
        simp only [putAll, Act.put]
        go_simp
      · refine oneC_still 1 (by kernel_rfl) (by kernel_rfl) ?_
        intro y j K Q hd hj hK
        generalize wsC w2.drew [W9] j = W at *
        simp [depsC, Region.binds] at hd
        revert hK
        simp only [putAll, Act.put]
        go_simp
      · refine oneC_still 1 (by kernel_rfl) (by kernel_rfl) ?_
        intro y j K Q hd hj hK
        generalize wsC w2.drew [W9] j = W at *
        simp [depsC, Region.binds] at hd
        revert hK
        simp only [putAll, Act.put]
        go_simp
      · refine oneC_still 1 (by kernel_rfl) (by kernel_rfl) ?_
        intro y j K Q hd hj hK
        have a1 := (hpc.out j (Nat.le_trans hj (by decide))).1
        have a2 := (hpc.out j (Nat.le_trans hj (by decide))).2.1
        have a3 := (hpc.out j (Nat.le_trans hj (by decide))).2.2.1
        have a4 := (hpc.out j (Nat.le_trans hj (by decide))).2.2.2
        generalize wsC w2.drew [W9] j = W at *
        simp [depsC, Region.binds] at hd
        revert hK
        simp only [putAll, Act.put]
        go_simp
      · refine oneC_still 1 (by kernel_rfl) (by kernel_rfl) ?_
        intro y j K Q hd hj hK
        generalize wsC w2.drew [W9] j = W at *
        simp [depsC, Region.binds] at hd
        revert hK
        simp only [putAll, Act.put]
        go_simp
      · refine oneC_eff 0 rfl ?_
        intro y K Q hd hK
        simp [depsC, Region.binds] at hd
        revert hK
        simp only [wsC]
        simp only [putAll, Act.put]
        go_simp
        rw [hW9.out]
        exact fun h => h
      · refine oneC_still 1 (by kernel_rfl) (by kernel_rfl) ?_
        intro y j K Q hd hj hK
        generalize wsC w2.drew [W9] j = W at *
        clear hd
        revert hK
        simp only [putAll, Act.put]
        go_simp
    · simp only [putAll, Act.put, wsC, List.length_cons, List.length_nil]
      simp only [List.setIfInBounds_toArray, List.set_cons_succ, List.set_cons_zero, List.getD_cons_zero, List.getD_cons_succ]
      clear hpc r0 r1 r2 r3 f0 f1 f2 f3
      go_wp2
      refine run_end _ _ _ r _ _ (.slice Al nl2 cl2) (.slice Ak nk2 ck2) (.slice As ns2 cs2) (.slice Aa na2 ca2) rfl rfl rfl kr9.out ?_
      exact ⟨⟨_, _, by rw [hE]; rfl, by rw [hrr]; exact hrf.out, by rw [hrr]; exact hst.out⟩, hB9.out⟩
  · have hO2 : e = .returned (.tuple #[.pointer none, .slice none 0 0, .int .i64 (runE S es)]) := by
      unfold runE at hE ⊢
      split at hO
      · rename_i hh; rw [if_pos hh]; exact hO
      · rename_i hh
        rw [if_neg hh] at hE ⊢
        split at hO
        · rename_i h6; rw [if_pos h6]; exact hO
        · rename_i h6; rw [if_neg h6] at hE; exact absurd rfl hE
    subst hO2
    clear hO
    have hrr := hide (show runR S es = ([], noBks) by unfold runR; rw [if_neg hE])
    obtain ⟨re, hre⟩ : ∃ re, runE S es = re := ⟨_, rfl⟩
    rw [hre] at hE ⊢
    replace hre := hide hre
    have b1 : (re != 0) = true := by rw [bne_iff_ne]; exact hE
    replace hE := hide hE
    have r0 : w2.cell? ⟨w.heap.size + 1, 0, none⟩ = some (.slice none 0 0) := kr2.out.cell 0
    have r1 : w2.cell? ⟨w.heap.size + 1, 1, none⟩ = some (.slice none 0 0) := kr2.out.cell 1
    have r2 : w2.cell? ⟨w.heap.size + 1, 2, none⟩ = some (.slice none 0 0) := kr2.out.cell 2
    have r3 : w2.cell? ⟨w.heap.size + 1, 3, none⟩ = some (.slice none 0 0) := kr2.out.cell 3
    have f0 := kr2.out.frozen 0
    have f1 := kr2.out.frozen 1
    have f2 := kr2.out.frozen 2
    have f3 := kr2.out.frozen 3
    have kr9 := hide (show Blk ((((w2.setCell ⟨w.heap.size + 1, 0, none⟩ (.slice none 0 0)).setCell ⟨w.heap.size + 1, 1, none⟩ (.slice none 0 0)).setCell ⟨w.heap.size + 1, 2, none⟩ (.slice none 0 0)).setCell ⟨w.heap.size + 1, 3, none⟩ (.slice none 0 0)) (w.heap.size + 1) 42 #[.slice none 0 0, .slice none 0 0, .slice none 0 0, .slice none 0 0] by
      have := (((kr2.out.set_ 0 (.slice none 0 0)).set_ 1 (.slice none 0 0)).set_ 2 (.slice none 0 0)).set_ 3 (.slice none 0 0)
      simpa using this)
    have hB9 := hide ((((hB2.out.setCell (p := ⟨w.heap.size + 1, 0, none⟩) (by simp) (.slice none 0 0)).setCell (p := ⟨w.heap.size + 1, 1, none⟩) (by simp) (.slice none 0 0)).setCell (p := ⟨w.heap.size + 1, 2, none⟩) (by simp) (.slice none 0 0)).setCell (p := ⟨w.heap.size + 1, 3, none⟩) (by simp) (.slice none 0 0))
    clear kr2 hB2
    go_wp2
    refine run_end _ _ _ (w.heap.size + 1) _ _ _ _ _ _ rfl rfl rfl kr9.out ?_
    exact ⟨⟨_, _, by rw [hre.out]; rfl, by rw [hrr.out]; exact isInts_nil _, by rw [hrr.out]; exact isState_none _⟩, hB9.out⟩
end Go.Proofs.Ytkmhldjebopljaa

/-
  Postings.
-/
namespace Go.Proofs.Ytkmhldjebopljaa
open Go.RowKit RG

theorem open_err {V w' : World} {S : BSch} {es : List BEv} {e : Ending} (h : OpenR V S es e w') (hE : runE S es ≠ 0) : e = .returned (.tuple #[.pointer none, .slice none 0 0, .int .i64 (runE S es)]) := by
  unfold OpenR at h
  unfold runE at hE ⊢
  split at h
  · rename_i hh; rw [if_pos hh]; exact h
  · rename_i hh
    rw [if_neg hh] at hE ⊢
    split at h
    · rename_i h6; rw [if_pos h6]; exact h
    · rename_i h6; rw [if_neg h6] at hE; exact absurd rfl hE
theorem open_ok {V w' : World} {S : BSch} {es : List BEv} {e : Ending} (h : OpenR V S es e w') (hE : runE S es = 0) : ∃ p g X L C T cl cc ct ev, e = .returned (.tuple #[.pointer (some ⟨p, 0, none⟩), .slice (some ⟨g, 0, none⟩) es.length es.length, .int .i64 0]) ∧ (∀ k, k < V.heap.size → X k) ∧ Books w' X p L C T cl cc ct S (runB S es 0 (startB S)).2 ev := by
  unfold OpenR at h
  unfold runE at hE
  split at h
  · rename_i hh; rw [if_pos hh] at hE; exact absurd hE hh
  · rename_i hh
    rw [if_neg hh] at hE
    split at h
    · rename_i h6; rw [if_pos h6] at hE; cases hE
    · obtain ⟨p, g, X, L, C, T, cl, cc, ct, ev, h1, _, _, _, h2, h3, _⟩ := h
      exact ⟨p, g, X, L, C, T, cl, cc, ct, ev, h1, h2, h3⟩
theorem run_zero {S : BSch} {es : List BEv} (h : runE S es = 0) : (checkB S).2.2 = 0 ∧ es.length ≤ 60 := by
  unfold runE at h
  split at h
  · rename_i hh; exact absurd h hh
  · rename_i hh
    split at h
    · cases h
    · rename_i h6; exact ⟨by simpa using hh, by omega⟩
set_option maxRecDepth 100000 in
set_option maxHeartbeats 1000000 in
theorem Postings_any (v : Value) (S : BSch) (A : Option Addr) (c : Nat) (es : List BEv) (w : World) (h : RdBSch w v S) (hE : RdRow w A es.length 11 (es.map evCells)) (hm : es.length ≤ maxLen) :
    Calls Try.prog 25 #[v, .slice A es.length c] w fun e w' => (∃ v1, e = .returned (.tuple #[v1, .int .i64 (runE S es)]) ∧ IsRow 4 ((runR S es).2.pst.map pstCells) v1 w') ∧ Below w.heap.size w w' := by
  have hop := hide (fun V (hb : Below w.heap.size w V) => open_any v S A c es V (h.below hb) (hE.below hb) hm)
  obtain ⟨L, C, T, cl, cc, ct, rfl, -⟩ := h
  obtain ⟨W, hW⟩ : ∃ y, w.alloc (.cells (schCells L C T cl cc ct S) 28) = y := ⟨_, rfl⟩
  have kb := hide (show Blk W w.heap.size 28 (schCells L C T cl cc ct S) by rw [← hW]; exact blkNew rfl)
  have hB := hide (show Below w.heap.size w W by rw [← hW]; exact (Below.refl w.heap.size w).alloc (Nat.le_refl _) _)
  unfold schCells at *
  generalize S.learners.length = nl at *
  generalize S.cars.length = nc at *
  generalize S.terms.length = nt at *
  have k0 : W.cell? ⟨w.heap.size, 0, none⟩ = some (.slice L nl cl) := kb.out.cell 0
  have k1 : W.cell? ⟨w.heap.size, 1, none⟩ = some (.slice C nc cc) := kb.out.cell 1
  have k2 : W.cell? ⟨w.heap.size, 2, none⟩ = some (.int .i64 S.price) := kb.out.cell 2
  have k3 : W.cell? ⟨w.heap.size, 3, none⟩ = some (.int .i64 S.excess) := kb.out.cell 3
  have k4 : W.cell? ⟨w.heap.size, 4, none⟩ = some (.int .i64 S.lo) := kb.out.cell 4
  have k5 : W.cell? ⟨w.heap.size, 5, none⟩ = some (.int .i64 S.hi) := kb.out.cell 5
  have k6 : W.cell? ⟨w.heap.size, 6, none⟩ = some (.slice T nt ct) := kb.out.cell 6
  replace hW := hide hW
  have hop2 := hide (hop.out W hB.out)
  clear hE hop
  go_enter Try.func25, Try.ntmps25
  go_upto_region 1 with fail
  rw [hW.out]
  go_wp2_with fail
  refine hop2.out.mono ?_
  clear hop2
  rintro e w2 ⟨hO, hb⟩
  have hB2 := hide (hB.out.trans (hb.mono hB.out.size))
  clear hb k0 k1 k2 k3 k4 k5 k6 kb hB
  obtain ⟨re, hre⟩ : ∃ re, runE S es = re := ⟨_, rfl⟩
  by_cases hE : runE S es = 0
  · obtain ⟨p, g, X, L', C', T', cl', cc', ct', ev, rfl, -, vl, vk, vs, va, mb, vp, hr⟩ := open_ok hO hE
    have hrr := hide (show runR S es = runB S es 0 (startB S) by unfold runR; rw [if_pos hE])
    have c12 : w2.cell? ⟨p, 12, none⟩ = some vp := hr.blk.cell 12
    have hrow := hide hr.pst.isRow
    replace hE := hide hE
    clear hO hr hre
    go_wp2
    go_ret2
    exact ⟨⟨vp, by rw [hE.out]; rfl, by rw [hrr.out]; exact hrow.out⟩, hB2.out⟩
  · obtain rfl := open_err hO hE
    have hrr := hide (show runR S es = ([], noBks) by unfold runR; rw [if_neg hE])
    rw [hre] at hE
    replace hre := hide hre
    rw [hre.out]
    have b1 : (re != 0) = true := by rw [bne_iff_ne]; exact hE
    replace hE := hide hE
    clear hO
    go_wp2
    go_ret2
    exact ⟨⟨_, by rw [hre.out]; rfl, by rw [hrr.out]; exact isRow_nil _ _⟩, hB2.out⟩
end Go.Proofs.Ytkmhldjebopljaa

/-
  First.
-/
namespace Go.Proofs.Ytkmhldjebopljaa
open Go.RowKit RG

/-- The first of n hours from one on at which a lesson can begin. -/
def firstH (S : BSch) (b : Bks) (learner car hours : Int) : Nat → Int → Int × Int
  | 0, _ => (0, 9)
  | n + 1, s => if lesErr S b ⟨learner, car, s, hours, 0⟩ b.time = 0 then (s, 0) else firstH S b learner car hours n (s + 1)
/-- What First returns. -/
def firstF (S : BSch) (es : List BEv) (learner car frm hours : Int) : Int × Int :=
  if runE S es ≠ 0 then (0, runE S es)
  else if inI 0 ((S.learners.length : Int) - 1) learner = false ∨ inI 0 ((S.cars.length : Int) - 1) car = false then (0, 4)
  else if inI 0 4800 frm = false ∨ inI 1 4 hours = false then (0, 7)
  else firstH S (runB S es 0 (startB S)).2 learner car hours (4801 - frm).toNat frm
set_option maxRecDepth 100000 in
set_option maxHeartbeats 1000000 in
theorem First_any (v : Value) (S : BSch) (A : Option Addr) (c : Nat) (es : List BEv) (learner car frm hours : Int) (w : World) (h : RdBSch w v S) (hE : RdRow w A es.length 11 (es.map evCells)) (hm : es.length ≤ maxLen) :
    Calls Try.prog 28 #[v, .slice A es.length c, .int .i64 learner, .int .i64 car, .int .i64 frm, .int .i64 hours] w fun e w' => e = .returned (.tuple #[.int .i64 (firstF S es learner car frm hours).1, .int .i64 (firstF S es learner car frm hours).2]) ∧ Below w.heap.size w w' := by
  have hop := hide (fun V (hb : Below w.heap.size w V) => open_any v S A c es V (h.below hb) (hE.below hb) hm)
  obtain ⟨q, hq⟩ : ∃ q, firstF S es learner car frm hours = q := ⟨_, rfl⟩
  rw [hq]
  unfold firstF at hq
  have hbkg := hide (fun (hr : runE S es = 0) => show SchGd S ∧ Gd S (runB S es 0 (startB S)).2 from by
    have hS := sch_gd (run_zero hr).1
    have := (bk_gd hS es (j := es.length) (run_zero hr).2).1
    unfold bk at this
    rw [List.take_length] at this
    exact ⟨hS, this⟩)
  obtain ⟨L, C, T, cl, cc, ct, rfl, -⟩ := h
  obtain ⟨W, hW⟩ : ∃ y, w.alloc (.cells (schCells L C T cl cc ct S) 28) = y := ⟨_, rfl⟩
  have kb := hide (show Blk W w.heap.size 28 (schCells L C T cl cc ct S) by rw [← hW]; exact blkNew rfl)
  have hB := hide (show Below w.heap.size w W by rw [← hW]; exact (Below.refl w.heap.size w).alloc (Nat.le_refl _) _)
  have k0 : W.cell? ⟨w.heap.size, 0, none⟩ = some (.slice L S.learners.length cl) := kb.out.cell 0
  have k1 : W.cell? ⟨w.heap.size, 1, none⟩ = some (.slice C S.cars.length cc) := kb.out.cell 1
  have k2 : W.cell? ⟨w.heap.size, 2, none⟩ = some (.int .i64 S.price) := kb.out.cell 2
  have k3 : W.cell? ⟨w.heap.size, 3, none⟩ = some (.int .i64 S.excess) := kb.out.cell 3
  have k4 : W.cell? ⟨w.heap.size, 4, none⟩ = some (.int .i64 S.lo) := kb.out.cell 4
  have k5 : W.cell? ⟨w.heap.size, 5, none⟩ = some (.int .i64 S.hi) := kb.out.cell 5
  have k6 : W.cell? ⟨w.heap.size, 6, none⟩ = some (.slice T S.terms.length ct) := kb.out.cell 6
  unfold schCells at *
  replace hW := hide hW
  have hop2 := hide (hop.out W hB.out)
  have hH := hide (fun V => isHour_any frm V)
  have hL := hide (fun V => isLength_any hours V)
  clear hE hop
  go_enter Try.func28, Try.ntmps28
  go_upto_region 1 with fail
  rw [hW.out]
  go_wp2_with fail
  refine hop2.out.mono ?_
  clear hop2
  rintro e w2 ⟨hO, hb⟩
  have hB2 := hide (hB.out.trans (hb.mono hB.out.size))
  clear hb k0 k1 k2 k3 k4 k5 k6 kb hB
  obtain ⟨re, hre⟩ : ∃ re, runE S es = re := ⟨_, rfl⟩
  by_cases hE : runE S es = 0
  · obtain ⟨p, g, X, L', C', T', cl', cc', ct', ev, rfl, hXw, vl, vk, vs, va, mb, vp, hr⟩ := open_ok hO hE
    rw [if_neg (by simp [hE])] at hq
    obtain ⟨hS, hg⟩ := hbkg.out hE
    clear hbkg hE hO hre
    generalize (runB S es 0 (startB S)).2 = b at *
    have hlr := hide (fun V (hb : Below w2.heap.size w2 V) => isLearner_any (hr.blk.below hb hr.blk.lt) hS.nl.2 learner)
    have hcr := hide (fun V (hb : Below w2.heap.size w2 V) => isCar_any (hr.blk.below hb hr.blk.lt) (by have := hS.nc; omega) car)
    have hle := hide (fun V (hb : Below w2.heap.size w2 V) s (hs : 0 ≤ s ∧ s ≤ 4800) (hc : 0 ≤ car ∧ car < S.cars.length) (hh : 1 ≤ hours ∧ hours ≤ 4) => show Calls Try.prog 58 #[.pointer (some ⟨p, 0, none⟩), .agg #[.int .i64 learner, .int .i64 car, .int .i64 s, .int .i64 hours, .int .i64 0], .int .i64 b.time] V fun e w' => e = .returned (.int .i64 (lesErr S b ⟨learner, car, s, hours, 0⟩ b.time)) ∧ Below V.heap.size V w' from
      lessonError_any (Raw.below hr hb) hS hg ⟨learner, car, s, hours, 0⟩ hc (by show 0 ≤ s ∧ s ≤ 24000; omega) (by show 0 ≤ hours ∧ hours ≤ 1000; omega) b.time)
    have htm := hide (fun V (hb : Below w2.heap.size w2 V) => (show V.cell? ⟨p, 13, none⟩ = some (.int .i64 b.time) from (hr.blk.below hb hr.blk.lt).cell 13))
    have hB22 := Below.refl w2.heap.size w2
    replace hB22 := hide hB22
    clear hr hS hg hXw
    go_wp2_with fail
    refine (hlr.out _ hB22.out).mono ?_
    rintro e w3 ⟨rfl, hb⟩
    have hB3 := hide (hB22.out.trans (hb.mono hB22.out.size))
    clear hb hlr
    cases h1 : inI 0 ((S.learners.length : Int) - 1) learner with
    | false =>
      rw [if_pos (.inl h1)] at hq
      subst hq
      replace h1 := hide h1
      have hBB := hide (hB2.out.trans (hB3.out.mono hB2.out.size))
      go_wp2
      go_ret2
      exact ⟨rfl, hBB.out⟩
    | true =>
      replace h1 := hide h1
      go_wp2_with fail
      refine (hcr.out _ hB3.out).mono ?_
      rintro e w4 ⟨rfl, hb⟩
      have hB4 := hide (hB3.out.trans (hb.mono hB3.out.size))
      clear hb hcr hB3
      cases h2 : inI 0 ((S.cars.length : Int) - 1) car with
      | false =>
        rw [if_pos (.inr h2)] at hq
        subst hq
        replace h2 := hide h2
        have hBB := hide (hB2.out.trans (hB4.out.mono hB2.out.size))
        go_wp2
        go_ret2
        exact ⟨rfl, hBB.out⟩
      | true =>
        rw [if_neg (by simp [h1.out, h2])] at hq
        have hcc := hide (show 0 ≤ car ∧ car < S.cars.length by have := inI_iff.1 h2; omega)
        replace h2 := hide h2
        go_wp2_with fail
        refine (hH.out _).mono ?_
        rintro e w5 ⟨rfl, hb⟩
        have hB5 := hide (hB4.out.trans (hb.mono hB4.out.size))
        clear hb hH hB4
        cases h3 : inI 0 4800 frm with
        | false =>
          rw [if_pos (.inl h3)] at hq
          subst hq
          replace h3 := hide h3
          have hBB := hide (hB2.out.trans (hB5.out.mono hB2.out.size))
          go_wp2
          go_ret2
          exact ⟨rfl, hBB.out⟩
        | true =>
          have hfr := hide (inI_iff.1 h3)
          replace h3 := hide h3
          go_wp2_with fail
          refine (hL.out _).mono ?_
          rintro e w6 ⟨rfl, hb⟩
          have hB6 := hide (hB5.out.trans (hb.mono hB5.out.size))
          clear hb hL hB5
          cases h4 : inI 1 4 hours with
          | false =>
            rw [if_pos (.inr h4)] at hq
            subst hq
            replace h4 := hide h4
            have hBB := hide (hB2.out.trans (hB6.out.mono hB2.out.size))
            go_wp2
            go_ret2
            exact ⟨rfl, hBB.out⟩
          | true =>
            rw [if_neg (by simp [h3.out, h4])] at hq
            have hhh := hide (inI_iff.1 h4)
            replace h4 := hide h4
            replace hq := hide hq
            obtain ⟨N, hN⟩ : ∃ N, (4801 - frm).toNat = N := ⟨_, rfl⟩
            rw [hN] at hq
            have hN2 := hide (show frm + N = 4801 by have := hfr.out; omega)
            clear hN
            go_wp2
            go_loopg [17] (N + 1) (fun gg s17 wr => ∃ (k : Nat) (s : Int), k < gg ∧ s17 = .int .i64 s ∧ Hid (s + k = 4801 ∧ frm ≤ s) ∧ Hid (firstH S b learner car hours k s = q) ∧ Hid (Below w2.heap.size w2 wr))
            case atStart => exact ⟨N, frm, by omega, rfl, ⟨hN2.out, Int.le_refl _⟩, hq.out, hB6.out⟩
            case round =>
              clear hB6 hq hN2
              obtain ⟨k, s, hkg, rfl, hsk, hfs, hBr⟩ := hrel
              go_wp2_with fail
              refine (isHour_any s _).mono ?_
              rintro e w7 ⟨rfl, hb⟩
              have hB7 := hide (hBr.out.trans (hb.mono hBr.out.size))
              clear hb hBr
              cases h5 : inI 0 4800 s with
              | false =>
                have hk0 : k = 0 := by
                  have h6 := hsk.out
                  have h7 := hfr.out
                  have : ¬ (0 ≤ s ∧ s ≤ 4800) := by rw [← inI_iff, h5]; simp
                  omega
                subst hk0
                have hq1 : (0, 9) = q := hfs.out
                subst hq1
                have hBB := hide (hB2.out.trans (hB7.out.mono hB2.out.size))
                replace h5 := hide h5
                go_wp2
                go_ret2
                exact ⟨rfl, hBB.out⟩
              | true =>
                have hsr := inI_iff.1 h5
                replace h5 := hide h5
                obtain ⟨k', hk'⟩ : ∃ k', k = k' + 1 := ⟨k - 1, by have := hsk.out; omega⟩
                subst hk'
                have hfs2 := hfs.out
                unfold firstH at hfs2
                obtain ⟨w8, hw8⟩ : ∃ y, w7.alloc (.cells #[.int .i64 learner, .int .i64 car, .int .i64 s, .int .i64 hours, .int .i64 0] 63) = y := ⟨_, rfl⟩
                have hB8 := hide (show Below w2.heap.size w2 w8 by rw [← hw8]; exact hB7.out.alloc hB7.out.size _)
                have kl := hide (show Blk w8 w7.heap.size 63 #[.int .i64 learner, .int .i64 car, .int .i64 s, .int .i64 hours, .int .i64 0] by rw [← hw8]; exact blkNew rfl)
                have l0 : w8.drew.cell? ⟨w7.heap.size, 0, none⟩ = some (.int .i64 learner) := kl.out.cell 0
                have l1 : w8.drew.cell? ⟨w7.heap.size, 1, none⟩ = some (.int .i64 car) := kl.out.cell 1
                have l2 : w8.drew.cell? ⟨w7.heap.size, 2, none⟩ = some (.int .i64 s) := kl.out.cell 2
                have l3 : w8.drew.cell? ⟨w7.heap.size, 3, none⟩ = some (.int .i64 hours) := kl.out.cell 3
                have l4 : w8.drew.cell? ⟨w7.heap.size, 4, none⟩ = some (.int .i64 0) := kl.out.cell 4
                have p13 : w8.drew.cell? ⟨p, 13, none⟩ = some (.int .i64 b.time) := htm.out w8.drew hB8.out.drew
                have hlc := hide (hle.out w8.drew hB8.out.drew s hsr hcc.out hhh.out)
                have hws : IntKind.i64.wrap (s + 1) = s + 1 := by rw [IntKind.wrap_i64]; omega
                generalize lesErr S b ⟨learner, car, s, hours, 0⟩ b.time = er0 at *
                replace hw8 := hide hw8
                replace hsr := hide hsr
                replace hfs2 := hide hfs2
                clear hfs
                go_upto_region 12 with fail
                rw [hw8.out]
                refine region_tailB 6 (by kernel_rfl) (by kernel_rfl) ?_
                simp only [List.take_succ_cons, List.take_zero, List.drop_succ_cons, List.drop_zero]
                iterate 6 (refine still_bx (fun K hK => ?_); go_simp; refine hK.out _ ?_; clear hK K)
                refine still_bx_nil ?_
                clear l0 l1 l2 l3 l4 p13
                go_wp2_with fail
                refine hlc.out.mono ?_
                clear hlc
                rintro e w9 ⟨rfl, hb⟩
                have hB9 := hide (hB8.out.trans ((Below.refl _ _).drew.trans (hb.mono (Nat.le_refl _)) |>.mono hB8.out.size))
                clear hb
                by_cases he0 : er0 = 0
                · subst he0
                  have hq1 := hfs2.out
                  rw [if_pos rfl] at hq1
                  subst hq1
                  have hBB := hide (hB2.out.trans (hB9.out.mono hB2.out.size))
                  go_wp2
                  go_ret2
                  exact ⟨rfl, hBB.out⟩
                · have hq1 := hfs2.out
                  rw [if_neg he0] at hq1
                  have b0 : (er0 == 0) = false := by rw [beq_eq_false_iff_ne]; exact he0
                  replace he0 := hide he0
                  replace hq1 := hide hq1
                  clear hfs2
                  go_wp2
                  go_roundg (k' + 1)
                  case measure => omega
                  case rel => exact ⟨k', s + 1, by omega, rfl, ⟨by have := hsk.out; omega, by have := hsk.out; omega⟩, hq1.out, hB9.out⟩
  · obtain rfl := open_err hO hE
    rw [if_pos hE] at hq
    subst hq
    rw [hre] at hE
    replace hre := hide hre
    rw [hre.out]
    have b1 : (re != 0) = true := by rw [bne_iff_ne]; exact hE
    replace hE := hide hE
    clear hO
    go_wp2
    go_ret2
    exact ⟨by rw [hre.out]; rfl, hB2.out⟩
end Go.Proofs.Ytkmhldjebopljaa

/-
  A long region that draws its order: its frame is looked at slot by slot.
-/
namespace Go.Proofs.Ytkmhldjebopljaa.RG
open Go

theorem putAll_old : ∀ (l : List Oper) (i : Nat) (y : Nat → Value) (a : Act) (d : Tmp), (l.all fun o => o.dst != some d) = true → (putAll l i y a).tmps.getD d undef = a.tmps.getD d undef
  | [], _, _, _, _, _ => rfl
  | o :: r, i, y, a, d, h => by
    simp only [List.all_cons, Bool.and_eq_true] at h
    simp only [putAll]
    rw [putAll_old r (i + 1) y _ d h.2]
    have h1 := h.1
    cases hd : o.dst with
    | none => rfl
    | some e =>
      rw [hd] at h1
      have hne : e ≠ d := by intro e'; subst e'; simp at h1
      simp [Act.put, Array.getD_eq_getD_getElem?, Array.getElem?_setIfInBounds_ne hne]
theorem putAll_size : ∀ (l : List Oper) (i : Nat) (y : Nat → Value) (a : Act), (putAll l i y a).tmps.size = a.tmps.size
  | [], _, _, _ => rfl
  | o :: r, i, y, a => by
    simp only [putAll]
    rw [putAll_size r]
    cases o.dst <;> simp [Act.put]
theorem putAll_get : ∀ (l : List Oper) (i : Nat) (y : Nat → Value) (a : Act) (j : Nat) (o : Oper) (d : Tmp), okB l i = true → l[j]? = some o → o.dst = some d → d < a.tmps.size → (putAll l i y a).tmps.getD d undef = y (i + j)
  | [], _, _, _, j, o, d, _, hj, _, _ => by simp at hj
  | o' :: r, i, y, a, 0, o, d, hok, hj, hd, hs => by
    simp only [List.getElem?_cons_zero, Option.some.injEq] at hj
    subst hj
    obtain ⟨_, h2, _⟩ := okB_cons hok
    simp only [putAll]
    rw [putAll_old r (i + 1) y _ d (List.all_eq_true.2 fun o2 ho2 => by simpa using h2 o2 ho2 d hd)]
    rw [hd]
    simp [Act.put, Array.getD_eq_getD_getElem?, Array.getElem?_setIfInBounds_self_of_lt hs]
  | o' :: r, i, y, a, j + 1, o, d, hok, hj, hd, hs => by
    obtain ⟨_, _, h3⟩ := okB_cons hok
    simp only [List.getElem?_cons_succ] at hj
    simp only [putAll]
    rw [putAll_get r (i + 1) y _ j o d h3 hj hd (by cases o'.dst <;> simpa [Act.put] using hs)]
    congr 1; omega

/-- The j-th operation writes slot d, which the frame has. -/
def atB (l : List Oper) (n j : Nat) (d : Tmp) : Bool := decide ((l[j]?).bind (·.dst) = some d) && decide (d < n)
theorem atB_of {l : List Oper} {n j : Nat} {d : Tmp} (h : atB l n j d = true) : (∃ o, l[j]? = some o ∧ o.dst = some d) ∧ d < n := by
  simp only [atB, Bool.and_eq_true, decide_eq_true_eq] at h
  obtain ⟨h1, h2⟩ := h
  cases hj : l[j]? with
  | none => rw [hj] at h1; cases h1
  | some o => rw [hj] at h1; exact ⟨⟨o, rfl, h1⟩, h2⟩
/-- Operation o is done if the k-th one, which writes slot d, yields true. -/
def guardB (l : List Oper) (n : Nat) (o : Oper) (k : Nat) (d : Tmp) : Bool := atB l n k d && decide (o.guard = some (k, true)) && o.after.toList.any fun e => decide (e.on = k) && Region.binds .any e
/-- What an operation's obligation may know of the frame. -/
structure Fr (l : List Oper) (a0 : Act) (y : Nat → Value) (T : Act) : Prop where
  get : ∀ j d, atB l a0.tmps.size j d = true → T.tmps.getD d undef = y j
  old : ∀ d v, (l.all fun o => o.dst != some d) = true → a0.tmps.getD d undef = v → T.tmps.getD d undef = v
theorem one_fr {P : Program} {l : List Oper} {C : World → Prop} {Rel : World → World → Prop} {V : Nat → Value → World → Prop} {a0 : Act} {i : Nat} {o : Oper} (hok : okB l 0 = true)
    (hg : decide (o.guard = none) = true ∨ ∃ k d, guardB l a0.tmps.size o k d = true ∧ ∀ v W, V k v W → v = .bool true)
    (h : ∀ (T : Act) (y : Nat → Value) (w : World) (K : Act → World → Prop) (Q : Exit → Act → World → Prop) (Cv : Value → World → Prop), Fr l a0 y T → C w → deps V y w o.after.toList →
      (∀ v w', C w' → Rel w w' → V i v w' → Cv v w') → (∀ v w', Cv v w' → K (T.put o.dst v) w') → o.wp P T w K Q) : One P l.toArray C Rel V a0 i o := by
  intro y w K Q Cv hC hd hV hK
  have hget : ∀ j d, atB l a0.tmps.size j d = true → (putAll l 0 y a0).tmps.getD d undef = y j := fun j d hb => by
    obtain ⟨⟨o, h1, h2⟩, h3⟩ := atB_of hb
    have := putAll_get l 0 y a0 j o d hok h1 h2 h3; rwa [Nat.zero_add] at this
  have hF : Fr l a0 y (putAll l.toArray.toList 0 y a0) := ⟨hget, fun d v h hv => (putAll_old l 0 y a0 d h).trans hv⟩
  have hw : Region.wanted o (yielded l.toArray (putAll l.toArray.toList 0 y a0).tmps) = true := by
    rcases hg with h | ⟨k, d, hb, hv⟩
    · simp [Region.wanted, of_decide_eq_true h]
    · simp only [guardB, Bool.and_eq_true, decide_eq_true_eq, List.any_eq_true] at hb
      obtain ⟨⟨h1, h2⟩, e, h5, h6, h7⟩ := hb
      have hde : ∀ (es : List Edge), deps V y w es → e ∈ es → V k (y k) w := by
        intro es hes
        induction es with
        | nil => intro h; cases h
        | cons e' r ih =>
          intro hm
          rcases List.mem_cons.1 hm with rfl | hm
          · have := hes.1 h7; rwa [h6] at this
          · exact ih hes.2 hm
      have h8 := hv _ _ (hde _ hd h5)
      obtain ⟨⟨o', h9, h10⟩, h11⟩ := atB_of h1
      have hgv := hget k d h1
      rw [h8] at hgv
      have hsz : d < (putAll l 0 y a0).tmps.size := by rw [putAll_size]; exact h11
      have hy : yielded l.toArray (putAll l 0 y a0).tmps k = some true := by
        unfold yielded
        rw [Array.getD_eq_getD_getElem?, Array.getElem?_eq_getElem hsz, Option.getD_some] at hgv
        simp only [List.getElem?_toArray, h9, Option.bind_some, h10, Array.getElem?_eq_getElem hsz, hgv]
      simp [Region.wanted, h2, hy]
  rw [if_pos hw]
  exact h _ y w K Q Cv hF hC hd hV hK
theorem putAll_defers : ∀ (l : List Oper) (i : Nat) (y : Nat → Value) (a : Act), (putAll l i y a).defers = a.defers
  | [], _, _, _ => rfl
  | o :: r, i, y, a => by
    simp only [putAll]
    rw [putAll_defers r]
    cases o.dst <;> rfl
theorem end_fr {l : List Oper} {a0 : Act} {y : Nat → Value} {Q : Act → World → Prop} {W : World} (hok : okB l 0 = true) (h : ∀ tm : Array Value, (∀ j d, atB l a0.tmps.size j d = true → tm.getD d undef = y j) → Q { tmps := tm, defers := a0.defers } W) : Q (putAll l 0 y a0) W := by
  have := h (putAll l 0 y a0).tmps (fun j d hb => by
    obtain ⟨⟨o, h1, h2⟩, h3⟩ := atB_of hb
    have := putAll_get l 0 y a0 j o d hok h1 h2 h3; rwa [Nat.zero_add] at this)
  rw [← putAll_defers l 0 y a0] at this
  exact this
end Go.Proofs.Ytkmhldjebopljaa.RG
