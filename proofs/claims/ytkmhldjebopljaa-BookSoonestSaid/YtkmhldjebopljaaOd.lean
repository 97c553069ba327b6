import Derived.Test.YtkmhldjebopljaaOc
import Derived.Test.YtkmhldjebopljaaOa
import Derived.StillTail
/-
  Schools in memory; the fee of package book.
-/
namespace Go.Proofs.Ytkmhldjebopljaa
open Go.RowKit RG

def carCells (c : BCar) : List Value := [.string c.name, .int .i64 c.km, .int .i64 c.every, .int .i64 c.never]
def termCells (t : BTerm) : List Value := [.int .i64 t.before, .int .i64 t.fee]
instance : Inhabited BTerm := ⟨⟨0, 0⟩⟩
instance : Inhabited BCar := ⟨⟨ByteArray.empty, 0, 0, 0⟩⟩
theorem map_at {α : Type} [Inhabited α] (f : α → List Value) (ss : List α) (k : Nat) (h : k < ss.length) : ((ss.map f)[k]?.getD []) = f (ss[k]?.getD default) := by
  rw [List.getElem?_map, List.getElem?_eq_getElem h]; rfl
/-- The rows of a school in memory. -/
structure SchRows (w : World) (L C T : Option Addr) (cl cc ct : Nat) (S : BSch) : Prop where
  ln : RdStrs w L S.learners.length S.learners
  lm : S.learners.length ≤ maxLen ∧ S.learners.length ≤ cl
  cn : RdRow w C S.cars.length 4 (S.cars.map carCells)
  cm : S.cars.length ≤ maxLen ∧ S.cars.length ≤ cc
  cs : ∀ c ∈ S.cars, c.name.size ≤ maxLen
  tn : RdRow w T S.terms.length 2 (S.terms.map termCells)
  tm : S.terms.length ≤ maxLen ∧ S.terms.length ≤ ct
theorem SchRows.below {w w' : World} {L C T : Option Addr} {cl cc ct : Nat} {S : BSch} (h : SchRows w L C T cl cc ct S) (hb : Below w.heap.size w w') : SchRows w' L C T cl cc ct S :=
  ⟨h.ln.below hb, h.lm, h.cn.below hb, h.cm, h.cs, h.tn.below hb, h.tm⟩
/-- The cells of a school. -/
def schCells (L C T : Option Addr) (cl cc ct : Nat) (S : BSch) : Array Value :=
  #[.slice L S.learners.length cl, .slice C S.cars.length cc, .int .i64 S.price, .int .i64 S.excess, .int .i64 S.lo, .int .i64 S.hi, .slice T S.terms.length ct]
def RdBSch (w : World) (v : Value) (S : BSch) : Prop := ∃ L C T cl cc ct, v = .agg (schCells L C T cl cc ct S) ∧ SchRows w L C T cl cc ct S
theorem RdBSch.below {w w' : World} {v : Value} {S : BSch} (h : RdBSch w v S) (hb : Below w.heap.size w w') : RdBSch w' v S := by
  obtain ⟨L, C, T, cl, cc, ct, e, h⟩ := h
  exact ⟨L, C, T, cl, cc, ct, e, h.below hb⟩
theorem partT_drop {ts : List BTerm} {before : Int} {j : Nat} (hj : j < ts.length) : partT (ts.drop j) before = if (ts[j]?.getD default).before ≤ before then (ts[j]?.getD default).fee else partT (ts.drop (j + 1)) before := by
  rw [List.drop_eq_getElem_cons hj, List.getElem?_eq_getElem hj]; rfl

set_option maxRecDepth 100000 in
set_option maxHeartbeats 2000000 in
theorem fee_any (v : Value) (S : BSch) (hours before : Int) (w : World) (h : RdBSch w v S) (hS : SchOk S) (hh : 1 ≤ hours ∧ hours ≤ 4) :
    Calls Try.prog 49 #[v, .int .i64 hours, .int .i64 before] w fun e w' => e = .returned (.int .i64 (feeB S hours before)) ∧ Below w.heap.size w w' := by
  obtain ⟨L, C, T, cl, cc, ct, rfl, hR⟩ := h
  have htn := hide (fun W (hb : Below w.heap.size w W) => hR.tn.below hb)
  have htl := hide hR.tm
  have hp := hS.price
  have hx : 1 ≤ hours * S.price ∧ hours * S.price ≤ 40000 := by
    have h1 : hours * 1 ≤ hours * S.price := Int.mul_le_mul_of_nonneg_left hp.1 (by omega)
    have h2 : hours * S.price ≤ hours * 10000 := Int.mul_le_mul_of_nonneg_left hp.2 (by omega)
    omega
  obtain ⟨xp, hxp⟩ : ∃ x, hours * S.price = x := ⟨_, rfl⟩
  have hfin := hide (show ∀ q, partT S.terms before = q → 0 ≤ q ∧ q ≤ 1000 ∧ feeB S hours before = (xp * q + 999) / 1000 from fun q hq => by
    have := partT_in S.terms before hS.terms
    unfold feeB
    rw [hxp, hq] at *
    exact ⟨this.1, this.2, rfl⟩)
  rw [hxp] at hx
  have hw0 : IntKind.i64.wrap (hours * S.price) = xp := by rw [hxp, IntKind.wrap_i64]; omega
  obtain ⟨nt, hnt⟩ : ∃ n, S.terms.length = n := ⟨_, rfl⟩
  unfold schCells
  rw [hnt] at htn htl ⊢
  have hb63 : nt ≤ 9223372036854775807 := by have h1 := htl.out.1; unfold maxLen at h1; omega
  generalize S.learners.length = nl at *
  generalize S.cars.length = nc at *
  obtain ⟨w1, hw1⟩ : ∃ x, w.alloc (.cells #[.slice L nl cl, .slice C nc cc, .int .i64 S.price, .int .i64 S.excess, .int .i64 S.lo, .int .i64 S.hi, .slice T nt ct] 28) = x := ⟨_, rfl⟩
  have kb := hide (show Blk w1 w.heap.size 28 #[.slice L nl cl, .slice C nc cc, .int .i64 S.price, .int .i64 S.excess, .int .i64 S.lo, .int .i64 S.hi, .slice T nt ct] by rw [← hw1]; exact blkNew rfl)
  have hB1 := hide (show Below w.heap.size w w1 by rw [← hw1]; exact (Below.refl _ _).alloc (Nat.le_refl _) _)
  have c6 : w1.cell? ⟨w.heap.size, 6, none⟩ = some (.slice T nt ct) := kb.out.cell 6
  rw [← hw1] at c6
  have hz1 := kb.out.lt
  replace hw1 := hide hw1
  clear hR hxp
  replace hnt := hide hnt
  go_enter Try.func49, Try.ntmps49
  go_wp2
  rw [hw1.out]
  clear c6
  go_loopg [7, 13] nt (fun gg s7 s13 wr => ∃ j : Nat, j ≤ nt ∧ nt ≤ gg + j ∧ s13 = .int .i64 j ∧ s7 = .int .i64 1000 ∧ Hid (partT S.terms before = partT (S.terms.drop j) before) ∧ Hid (Below w.heap.size w wr) ∧ Hid (Blk wr w.heap.size 28 #[.slice L nl cl, .slice C nc cc, .int .i64 S.price, .int .i64 S.excess, .int .i64 S.lo, .int .i64 S.hi, .slice T nt ct]))
  case atStart => exact ⟨0, Nat.zero_le _, by omega, rfl, rfl, rfl, hB1.out, kb.out⟩
  case round =>
    clear kb hB1
    obtain ⟨j, hj, hgg, rfl, rfl, hpt, hB, kb⟩ := hrel
    have p2 : wr.cell? ⟨w.heap.size, 2, none⟩ = some (.int .i64 S.price) := kb.out.cell 2
    by_cases hlt : j < nt
    · have hltz : (j : Int) < (nt : Int) := by omega
      have hjl : j < S.terms.length := by rw [hnt.out]; exact hlt
      obtain ⟨b, off, y0, y1, rfl, hb, hy, d0, d1⟩ := (htn.out wr hB.out).cells2 hlt
      rw [map_at termCells S.terms j hjl] at hy
      unfold termCells at hy
      simp only [List.cons.injEq, and_true] at hy
      obtain ⟨rfl, rfl⟩ := hy
      have hstep := partT_drop (before := before) hjl
      generalize (S.terms[j]?.getD default).before = tb at *
      generalize (S.terms[j]?.getD default).fee = tf at *
      have hB2 := hide (hB.out.alloc hB.out.size (.cells #[.int .i64 tb, .int .i64 tf] 86))
      have kb2 := hide (kb.out.alloc (.cells #[.int .i64 tb, .int .i64 tf] 86))
      have kt := hide (Blk.new wr 86 #[.int .i64 tb, .int .i64 tf])
      have t0 : (wr.alloc (.cells #[.int .i64 tb, .int .i64 tf] 86)).cell? ⟨wr.heap.size, 0, none⟩ = some (.int .i64 tb) := kt.out.cell 0
      have t1 : (wr.alloc (.cells #[.int .i64 tb, .int .i64 tf] 86)).cell? ⟨wr.heap.size, 1, none⟩ = some (.int .i64 tf) := kt.out.cell 1
      have p2' : (wr.alloc (.cells #[.int .i64 tb, .int .i64 tf] 86)).cell? ⟨w.heap.size, 2, none⟩ = some (.int .i64 S.price) := kb2.out.cell 2
      by_cases hle : tb ≤ before
      · rw [if_pos hle] at hstep
        obtain ⟨q0, q1, hfe⟩ := hfin.out tf (by rw [hpt.out, hstep])
        have hm0 : 0 ≤ xp * tf := Int.mul_nonneg (by omega) q0
        have hm1 : xp * tf ≤ xp * 1000 := Int.mul_le_mul_of_nonneg_left q1 (by omega)
        obtain ⟨xq, hxq⟩ : ∃ x, xp * tf = x := ⟨_, rfl⟩
        rw [hxq] at hm0 hm1 hfe
        replace hfe := hide hfe
        have hv1 : IntKind.i64.wrap (xp * tf) = xq := by rw [hxq, IntKind.wrap_i64]; omega
        have hv2 : IntKind.i64.wrap (xq + 1000) = xq + 1000 := by rw [IntKind.wrap_i64]; omega
        have hv3 : IntKind.i64.wrap (xq + 1000 - 1) = xq + 999 := by rw [IntKind.wrap_i64]; omega
        have hv4 : (xq + 999).tdiv 1000 = (xq + 999) / 1000 := Int.tdiv_eq_ediv_of_nonneg (by omega)
        have hv5 : IntKind.i64.wrap ((xq + 999) / 1000) = (xq + 999) / 1000 := by rw [IntKind.wrap_i64]; omega
        clear hxq hm0 hm1 hstep hpt p2
        go_wp2
        go_ret
        exact ⟨by rw [hfe.out]; rfl, hB2.out⟩
      · rw [if_neg hle] at hstep
        have hnx := hide (hpt.out.trans hstep)
        have hj1 := hide hlt
        clear hstep hpt p2
        go_wp2
        clear d0 d1 t0 t1 p2'
        go_roundg (nt - (j + 1))
        case measure => have h1 := hj1.out; omega
        case rel => exact ⟨j + 1, by have h1 := hj1.out; omega, by have h1 := hj1.out; omega, by have h1 := hj1.out; go_num, rfl, hnx.out, hB2.out, kb2.out⟩
    · have hltz : ¬ (j : Int) < (nt : Int) := by omega
      obtain rfl : j = nt := by omega
      obtain ⟨q0, q1, hfe⟩ := hfin.out 1000 (by rw [hpt.out, List.drop_eq_nil_of_le (by rw [hnt.out]; exact Nat.le_refl _)]; rfl)
      replace hfe := hide hfe
      have hv1 : IntKind.i64.wrap (xp * 1000) = xp * 1000 := by rw [IntKind.wrap_i64]; omega
      have hv2 : IntKind.i64.wrap (xp * 1000 + 1000) = xp * 1000 + 1000 := by rw [IntKind.wrap_i64]; omega
      have hv3 : IntKind.i64.wrap (xp * 1000 + 1000 - 1) = xp * 1000 + 999 := by rw [IntKind.wrap_i64]; omega
      have hv4 : (xp * 1000 + 999).tdiv 1000 = (xp * 1000 + 999) / 1000 := Int.tdiv_eq_ediv_of_nonneg (by omega)
      have hv5 : IntKind.i64.wrap ((xp * 1000 + 999) / 1000) = (xp * 1000 + 999) / 1000 := by rw [IntKind.wrap_i64]; omega
      clear hpt
      go_wp2
      go_ret
      exact ⟨by rw [hfe.out]; rfl, hB.out⟩
end Go.Proofs.Ytkmhldjebopljaa

/-
  numbersError of package book.
-/
namespace Go.Proofs.Ytkmhldjebopljaa
open Go.RowKit RG

/-- The error of how much a school has of everything. -/
def numE (S : BSch) : Int :=
  if inB 1 8 S.learners.length = true ∧ inB 1 5 S.cars.length = true ∧ S.terms.length ≤ 4 then
    (if inB 1 10000 S.price = true ∧ inB 0 10000000 S.excess = true ∧ inB 0 24 S.lo = true ∧ inB 0 24 S.hi = true then (if S.hi ≤ S.lo then 2 else 0) else 7)
  else 3

set_option maxRecDepth 100000 in
set_option maxHeartbeats 2000000 in
theorem numbersError_any (L C T : Option Addr) (cl cc ct : Nat) (S : BSch) (w : World) (hm : S.learners.length ≤ maxLen ∧ S.cars.length ≤ maxLen ∧ S.terms.length ≤ maxLen) :
    Calls Try.prog 38 #[.agg (schCells L C T cl cc ct S)] w fun e w' => e = .returned (.int .i64 (numE S)) ∧ Below w.heap.size w w' := by
  unfold maxLen at hm
  obtain ⟨r, hr⟩ : ∃ r, numE S = r := ⟨_, rfl⟩
  rw [hr]
  unfold numE at hr
  unfold schCells
  have hw1 := hide (fun (lo hi x : Int) (W : World) => within_one lo hi x W.heap.size 0 1 (W.alloc (.cells #[.int .i64 x] 3)) ((Blk.new W _ _).cell 0))
  have hw2 := hide (fun (lo hi x y : Int) (W : World) => within_two lo hi x y W.heap.size 0 2 (W.alloc (.cells #[.int .i64 x, .int .i64 y] 3)) ((Blk.new W _ _).cell 0) ((Blk.new W _ _).cell 1))
  generalize S.learners.length = nl at *
  generalize S.cars.length = nc at *
  generalize S.terms.length = nt at *
  generalize S.price = pr at *
  generalize S.excess = ex at *
  generalize S.lo = lo at *
  generalize S.hi = hi at *
  obtain ⟨W, hW⟩ : ∃ x, w.alloc (.cells #[.slice L nl cl, .slice C nc cc, .int .i64 pr, .int .i64 ex, .int .i64 lo, .int .i64 hi, .slice T nt ct] 28) = x := ⟨_, rfl⟩
  have kb := hide (show Blk W w.heap.size 28 #[.slice L nl cl, .slice C nc cc, .int .i64 pr, .int .i64 ex, .int .i64 lo, .int .i64 hi, .slice T nt ct] by rw [← hW]; exact blkNew rfl)
  have hB := hide (show Below w.heap.size w W by rw [← hW]; exact (Below.refl _ _).alloc (Nat.le_refl _) _)
  replace hW := hide hW
  go_enter Try.func38, Try.ntmps38
  go_upto_region 1 with fail
  rw [hW.out]
  clear hW
  have c0 : W.cell? ⟨w.heap.size, 0, none⟩ = some (.slice L nl cl) := kb.out.cell 0
  go_wp2_with fail
  refine (hw1.out _ _ _ _).mono ?_
  rintro e w2 ⟨rfl, rfl⟩
  replace kb := hide (kb.out.alloc (.cells #[.int .i64 nl] 3))
  replace hB := hide (hB.out.alloc hB.out.size (.cells #[.int .i64 nl] 3))
  clear c0
  generalize W.alloc (.cells #[.int .i64 nl] 3) = W2 at *
  cases ha : inB 1 8 (nl : Int) with
  | false =>
    rw [ha, if_neg (by simp)] at hr
    subst hr
    go_wp2
    go_ret
    exact ⟨rfl, hB.out⟩
  | true =>
    rw [ha] at hr
    have c1 : W2.cell? ⟨w.heap.size, 1, none⟩ = some (.slice C nc cc) := kb.out.cell 1
    go_wp2_with fail
    refine (hw1.out _ _ _ _).mono ?_
    rintro e w2 ⟨rfl, rfl⟩
    replace kb := hide (kb.out.alloc (.cells #[.int .i64 nc] 3))
    replace hB := hide (hB.out.alloc hB.out.size (.cells #[.int .i64 nc] 3))
    clear c1
    generalize W2.alloc (.cells #[.int .i64 nc] 3) = W3 at *
    cases hb : inB 1 5 (nc : Int) with
    | false =>
      rw [hb, if_neg (by simp)] at hr
      subst hr
      go_wp2
      go_ret
      exact ⟨rfl, hB.out⟩
    | true =>
      rw [hb] at hr
      have c2 : W3.cell? ⟨w.heap.size, 6, none⟩ = some (.slice T nt ct) := kb.out.cell 6
      have c3 : W3.cell? ⟨w.heap.size, 2, none⟩ = some (.int .i64 pr) := kb.out.cell 2
      by_cases ht : nt ≤ 4
      · have htz : ¬ (4 : Int) < (nt : Int) := by omega
        have htn : ¬ 4 < nt := by omega
        rw [if_pos (by simp [ht])] at hr
        go_wp2_with fail
        refine (hw1.out _ _ _ _).mono ?_
        rintro e w2 ⟨rfl, rfl⟩
        replace kb := hide (kb.out.alloc (.cells #[.int .i64 pr] 3))
        replace hB := hide (hB.out.alloc hB.out.size (.cells #[.int .i64 pr] 3))
        clear c2 c3
        generalize W3.alloc (.cells #[.int .i64 pr] 3) = W4 at *
        cases hc : inB 1 10000 pr with
        | false =>
          rw [hc, if_neg (by simp)] at hr
          subst hr
          go_wp2
          go_ret
          exact ⟨rfl, hB.out⟩
        | true =>
          rw [hc] at hr
          have c4 : W4.cell? ⟨w.heap.size, 3, none⟩ = some (.int .i64 ex) := kb.out.cell 3
          go_wp2_with fail
          refine (hw1.out _ _ _ _).mono ?_
          rintro e w2 ⟨rfl, rfl⟩
          replace kb := hide (kb.out.alloc (.cells #[.int .i64 ex] 3))
          replace hB := hide (hB.out.alloc hB.out.size (.cells #[.int .i64 ex] 3))
          clear c4
          generalize W4.alloc (.cells #[.int .i64 ex] 3) = W5 at *
          cases hd : inB 0 10000000 ex with
          | false =>
            rw [hd, if_neg (by simp)] at hr
            subst hr
            go_wp2
            go_ret
            exact ⟨rfl, hB.out⟩
          | true =>
            rw [hd] at hr
            have c5 : W5.cell? ⟨w.heap.size, 4, none⟩ = some (.int .i64 lo) := kb.out.cell 4
            have c6 : W5.cell? ⟨w.heap.size, 5, none⟩ = some (.int .i64 hi) := kb.out.cell 5
            go_wp2_with fail
            refine (hw2.out _ _ _ _ _).mono ?_
            rintro e w2 ⟨rfl, rfl⟩
            replace kb := hide (kb.out.alloc (.cells #[.int .i64 lo, .int .i64 hi] 3))
            replace hB := hide (hB.out.alloc hB.out.size (.cells #[.int .i64 lo, .int .i64 hi] 3))
            clear c5 c6
            generalize W5.alloc (.cells #[.int .i64 lo, .int .i64 hi] 3) = W6 at *
            have c5 : W6.cell? ⟨w.heap.size, 4, none⟩ = some (.int .i64 lo) := kb.out.cell 4
            have c6 : W6.cell? ⟨w.heap.size, 5, none⟩ = some (.int .i64 hi) := kb.out.cell 5
            cases he : inB 0 24 lo with
            | false =>
              rw [he, if_neg (by simp)] at hr
              subst hr
              go_wp2
              go_ret
              exact ⟨rfl, hB.out⟩
            | true =>
              rw [he] at hr
              cases hf : inB 0 24 hi with
              | false =>
                rw [hf, if_neg (by simp)] at hr
                subst hr
                go_wp2
                go_ret
                exact ⟨rfl, hB.out⟩
              | true =>
                rw [hf, if_pos (by simp)] at hr
                by_cases hg : hi ≤ lo
                · rw [if_pos hg] at hr
                  subst hr
                  go_wp2
                  go_ret
                  exact ⟨rfl, hB.out⟩
                · rw [if_neg hg] at hr
                  subst hr
                  go_wp2
                  go_ret
                  exact ⟨rfl, hB.out⟩
      · have htz : (4 : Int) < (nt : Int) := by omega
        have htn : 4 < nt := by omega
        rw [if_neg (fun h => ht h.2.2)] at hr
        subst hr
        go_wp2
        go_ret
        exact ⟨rfl, hB.out⟩
end Go.Proofs.Ytkmhldjebopljaa

/-
  termErrors of package book: the error of a term.
-/
namespace Go.Proofs.Ytkmhldjebopljaa
open Go.RowKit RG

def termE (ts : List BTerm) (j : Nat) (t : BTerm) : Int :=
  if inB 0 240 t.before = true ∧ inB 0 1000 t.fee = true then
    (if 0 < j ∧ ((ts[j - 1]?.getD default).before ≤ t.before ∨ t.fee < (ts[j - 1]?.getD default).fee) then 2 else 0)
  else 7

set_option maxRecDepth 100000 in
set_option maxHeartbeats 2000000 in
theorem termE_any (T : Option Addr) (nt ct j ps : Nat) (ts : List BTerm) (t : BTerm) (w : World) (h : RdRow w T nt 2 (ts.map termCells)) (hm : nt ≤ maxLen) (hj : j < nt) (hs : w.cell? ⟨ps, 6, none⟩ = some (.slice T nt ct)) :
    Calls Try.prog 68 #[.int .i64 j, .agg (termCells t).toArray, .pointer (some ⟨ps, 0, none⟩)] w fun e w' => e = .returned (.int .i64 (termE ts j t)) ∧ Below w.heap.size w w' := by
  unfold maxLen at hm
  obtain ⟨r, hr⟩ : ∃ r, termE ts j t = r := ⟨_, rfl⟩
  rw [hr]
  unfold termE at hr
  unfold termCells
  obtain ⟨tb, tf⟩ := t
  simp only at hr
  have htl : ts.length = nt := by have := h.1; simpa using this
  have hps := lt_of_cell hs
  have hw1 := hide (fun (lo hi x : Int) (W : World) => within_one lo hi x W.heap.size 0 1 (W.alloc (.cells #[.int .i64 x] 3)) ((Blk.new W _ _).cell 0))
  obtain ⟨W, hW⟩ : ∃ x, w.alloc (.cells #[.int .i64 tb, .int .i64 tf] 86) = x := ⟨_, rfl⟩
  have kb := hide (show Blk W w.heap.size 86 #[.int .i64 tb, .int .i64 tf] by rw [← hW]; exact blkNew rfl)
  have hB := hide (show Below w.heap.size w W by rw [← hW]; exact (Below.refl _ _).alloc (Nat.le_refl _) _)
  replace hW := hide hW
  replace hs := hide hs
  replace h := hide h
  go_enter Try.func68, Try.ntmps68
  go_upto_region 1 with fail
  rw [hW.out]
  clear hW
  have c0 : W.cell? ⟨w.heap.size, 0, none⟩ = some (.int .i64 tb) := kb.out.cell 0
  go_wp2_with fail
  refine (hw1.out _ _ _ _).mono ?_
  rintro e w2 ⟨rfl, rfl⟩
  replace kb := hide (kb.out.alloc (.cells #[.int .i64 tb] 3))
  replace hB := hide (hB.out.alloc hB.out.size (.cells #[.int .i64 tb] 3))
  clear c0
  generalize W.alloc (.cells #[.int .i64 tb] 3) = W2 at *
  cases ha : inB 0 240 tb with
  | false =>
    rw [ha, if_neg (by simp)] at hr
    subst hr
    go_wp2
    go_ret
    exact ⟨rfl, hB.out⟩
  | true =>
    rw [ha] at hr
    have c1 : W2.cell? ⟨w.heap.size, 1, none⟩ = some (.int .i64 tf) := kb.out.cell 1
    go_wp2_with fail
    refine (hw1.out _ _ _ _).mono ?_
    rintro e w2 ⟨rfl, rfl⟩
    replace kb := hide (kb.out.alloc (.cells #[.int .i64 tf] 3))
    replace hB := hide (hB.out.alloc hB.out.size (.cells #[.int .i64 tf] 3))
    clear c1
    generalize W2.alloc (.cells #[.int .i64 tf] 3) = W3 at *
    cases hb : inB 0 1000 tf with
    | false =>
      rw [hb, if_neg (by simp)] at hr
      subst hr
      go_wp2
      go_ret
      exact ⟨rfl, hB.out⟩
    | true =>
      rw [hb, if_pos (by simp)] at hr
      have c0 : W3.cell? ⟨w.heap.size, 0, none⟩ = some (.int .i64 tb) := kb.out.cell 0
      have c1 : W3.cell? ⟨w.heap.size, 1, none⟩ = some (.int .i64 tf) := kb.out.cell 1
      have c2 : W3.cell? ⟨ps, 6, none⟩ = some (.slice T nt ct) := (cellB hB.out hps).trans hs.out
      by_cases h0 : j = 0
      · subst h0
        rw [if_neg (by simp)] at hr
        subst hr
        go_wp2
        go_quiet (fail)
        go_wp2
        go_ret
        exact ⟨rfl, below_drewN hB.out _⟩
      · obtain ⟨i, rfl⟩ : ∃ i, j = i + 1 := ⟨j - 1, by omega⟩
        have hil : i < nt := by omega
        obtain ⟨b, off, y0, y1, rfl, hbl, hy, d0, d1⟩ := (h.out.below hB.out).cells2 hil
        rw [map_at termCells ts i (by omega)] at hy
        unfold termCells at hy
        simp only [List.cons.injEq, and_true] at hy
        obtain ⟨rfl, rfl⟩ := hy
        rw [show i + 1 - 1 = i by omega] at hr
        generalize (ts[i]?.getD default).before = ub at *
        generalize (ts[i]?.getD default).fee = uf at *
        obtain ⟨k, hk⟩ : ∃ k : Nat, i + 1 = k := ⟨_, rfl⟩
        have hk0 : decide ((0 : Int) < (k : Int)) = true := decide_eq_true (by omega)
        have hk1 : decide (0 < k) = true := decide_eq_true (by omega)
        have hk2 : 0 < k := by omega
        have hki : IntKind.i64.wrap ((k : Int) - 1) = (i : Int) := by rw [IntKind.wrap_i64]; omega
        have hiz : (i : Int) < (nt : Int) := by omega
        have hi0 : (0 : Int) ≤ (i : Int) := by omega
        rw [hk] at hr ⊢
        replace hk := hide hk
        replace hj := hide hj
        by_cases h1 : ub ≤ tb
        · have e1 : decide (ub ≤ tb) = true := decide_eq_true h1
          rw [if_pos ⟨hk2, .inl h1⟩] at hr
          subst hr
          go_wp2
          go_quiet (fail)
          go_wp2
          go_ret
          exact ⟨rfl, below_drewN hB.out _⟩
        · have e1 : decide (ub ≤ tb) = false := decide_eq_false h1
          by_cases h2 : tf < uf
          · have e2 : decide (tf < uf) = true := decide_eq_true h2
            rw [if_pos ⟨hk2, .inr h2⟩] at hr
            subst hr
            go_wp2
            go_quiet (fail)
            go_wp2
            go_ret
            exact ⟨rfl, below_drewN hB.out _⟩
          · have e2 : decide (tf < uf) = false := decide_eq_false h2
            rw [if_neg (by rintro ⟨_, h | h⟩; exact h1 h; exact h2 h)] at hr
            subst hr
            go_wp2
            go_quiet (fail)
            go_wp2
            go_ret
            exact ⟨rfl, below_drewN hB.out _⟩
end Go.Proofs.Ytkmhldjebopljaa

/-
  The rule for a region of which the last operations wait for all the others: those by the rule of XRegion, these one behind the other.
-/
namespace Go.Proofs.Ytkmhldjebopljaa.RG
open Go

theorem cnt_one (p p' : Nat → Bool) (i : Nat) (h : ∀ j, j ≠ i → p j = p' j) (n : Nat) : cnt p n ≤ cnt p' n + 1 := by
  have hone : ∀ m, cnt p m ≤ cnt p' m + (if i < m then 1 else 0) := by
    intro m
    induction m with
    | zero => simp [cnt]
    | succ m ihm =>
      simp only [cnt]
      by_cases e : m = i
      · subst e
        have h1 : (if p m = true then 1 else 0) ≤ 1 := by split <;> omega
        rw [if_neg (Nat.lt_irrefl m)] at ihm
        rw [if_pos (show m < m + 1 by omega)]
        omega
      · have h1 : (if p m = true then 1 else 0) = (if p' m = true then 1 else 0) := by rw [h m e]
        have h2 : (if i < m then 1 else 0) ≤ (if i < m + 1 then 1 else 0) := by split <;> split <;> omega
        omega
  have := hone n
  split at this <;> omega
/-- The obligation of one operation of the head. -/
def OneT (P : Program) (ops : Array Oper) (hd : List Oper) (C : World → Prop) (Rel : World → World → Prop) (V : Nat → Value → World → Prop) (a0 : Act) (i : Nat) (o : Oper) : Prop :=
  ∀ (y : Nat → Value) (w : World) (K : Act → World → Prop) (Q : Exit → Act → World → Prop) (Cv : Value → World → Prop), C w → deps V y w o.after.toList →
    (∀ v w', C w' → Rel w w' → V i v w' → Cv v w') → (∀ v w', Cv v w' → K ((putAll hd 0 y a0).put o.dst v) w') →
    if Region.wanted o (yielded ops (putAll hd 0 y a0).tmps) then o.wp P (putAll hd 0 y a0) w K Q else K ((putAll hd 0 y a0).put o.dst undef) w
def AllT (P : Program) (ops : Array Oper) (hd : List Oper) (C : World → Prop) (Rel : World → World → Prop) (V : Nat → Value → World → Prop) (a0 : Act) : List Oper → Nat → Prop
  | [], _ => True
  | o :: r, i => OneT P ops hd C Rel V a0 i o ∧ AllT P ops hd C Rel V a0 r (i + 1)
theorem AllT.get {P : Program} {ops : Array Oper} {hd : List Oper} {C : World → Prop} {Rel : World → World → Prop} {V : Nat → Value → World → Prop} {a0 : Act} :
    ∀ {l : List Oper} {i j : Nat} {o : Oper}, AllT P ops hd C Rel V a0 l i → l[j]? = some o → OneT P ops hd C Rel V a0 (i + j) o
  | [], _, _, _, _, hj => by simp at hj
  | o' :: r, i, 0, o, h, hj => by
    simp only [List.getElem?_cons_zero, Option.some.injEq] at hj
    subst hj; exact h.1
  | o' :: r, i, j + 1, o, h, hj => by
    simp only [List.getElem?_cons_succ] at hj
    have := AllT.get h.2 hj
    rwa [show i + (j + 1) = i + 1 + j by omega]

/-- The first n are listed, the others are not. -/
def heads (n m : Nat) : Array Bool := ((List.range m).map fun j => decide (j < n)).toArray
def tailB (l : List Oper) (n : Nat) : Bool :=
  decide (n < l.length) && Region.sinkB .any l.toArray n && Region.chainB .any l.toArray n && Region.seqB .any l.toArray (l.length - n) n (heads n l.length) && okB (l.take n) 0

theorem wpAny_rgT {P : Program} {l : List Oper} {n : Nat} {C : World → Prop} {Rel : World → World → Prop} {V : Nat → Value → World → Prop} {a0 : Act} {Q : Exit → Act → World → Prop}
    (hB : tailB l n = true) (hst : ∀ k v w w', C w → C w' → Rel w w' → V k v w → V k v w')
    (hall : AllT P l.toArray (l.take n) C Rel V a0 (l.take n) 0)
    (hend : ∀ y w, C w → Ends V y w 0 n → wpList P l.toArray Q (l.drop n) (putAll (l.take n) 0 y a0) w) :
    ∀ (fuel : Nat) (listed : Array Bool) (y : Nat → Value) (w : World), HeadInv .any l.toArray n listed → cnt (fun j => !listed.getD j true) n = fuel → C w →
      (∀ k, k < n → listed.getD k false = true → V k (y k) w) → wpAny P .any l.toArray Q (fuel + (l.length - n)) listed (putAll (l.take n) 0 y a0) w := by
  simp only [tailB, Bool.and_eq_true, decide_eq_true_eq] at hB
  obtain ⟨⟨⟨⟨hn, hs⟩, hc⟩, hseq⟩, hok⟩ := hB
  have hn' : n < l.toArray.size := by simpa using hn
  intro fuel
  induction fuel with
  | zero =>
    intro listed y w inv h0 hC hV
    have hl : ∀ j, j < n → listed.getD j true = true := fun j hj => by
      have := cnt_zero _ _ h0 j hj
      simpa using this
    have hsz : listed.size = l.length := by simpa using inv.size
    have hl' : ∀ j, j < n → listed.getD j false = true := fun j hj => by
      have := hl j hj
      simpa [Array.getD, hsz, show j < l.length by omega] using this
    have heq : listed = heads n l.length := by
      apply Array.ext
      · simp [heads, hsz]
      · intro j h1 h2
        by_cases hj : j < n
        · have := hl j hj
          simp only [Array.getD, h1, dite_true] at this
          simp [heads, hj]
          exact this
        · have := inv.tail j (by omega) (by simp; omega)
          simp only [Array.getD, h1, dite_true] at this
          simp [heads, hj]
          exact this
    have := wpAny_of_seq (P := P) (md := .any) (Q' := Q) (ops := l.toArray) (l.drop n) n listed (putAll (l.take n) 0 y a0) w (fun j => by simp [List.getElem?_drop]) (by rw [heq]; simpa using hseq)
      (hend y w hC (Ends.of 0 _ fun k _ hk => hV k (by omega) (hl' k (by omega))))
    rw [List.length_drop] at this
    rw [Nat.zero_add]
    exact this
  | succ fuel ih =>
    intro listed y w inv hcnt hC hV
    have hex : ∃ i, i < n ∧ listed.getD i true = false := by
      rcases Nat.eq_zero_or_pos (cnt (fun j => !listed.getD j true) n) with h | h
      · omega
      · by_cases hx : ∃ i, i < n ∧ listed.getD i true = false
        · exact hx
        · exfalso
          have : ∀ m, m ≤ n → cnt (fun j => !listed.getD j true) m = 0 := by
            intro m
            induction m with
            | zero => intro _; rfl
            | succ m ihm =>
              intro hm
              simp only [cnt]
              rw [ihm (by omega)]
              have : listed.getD m true = true := by
                cases h' : listed.getD m true with
                | true => rfl
                | false => exact absurd ⟨m, by omega, h'⟩ hx
              simp [this]
          have := this n (Nat.le_refl _)
          omega
    obtain ⟨i0, hi0, hl0⟩ := hex
    have hhead : ∀ t ∈ Region.ready .any l.toArray listed, t < n := fun t ht => by
      rcases Nat.lt_or_ge t n with h | h
      · exact h
      · exact absurd ht (tail_waits hs hc hn' inv _ i0 rfl hi0 hl0 t h)
    rw [show fuel + 1 + (l.length - n) = (fuel + (l.length - n)) + 1 by omega]
    refine ⟨fun hr => ?_, fun i hi => ?_⟩
    · exfalso
      -- the first unlisted operation of the head is ready
      have hfirst : ∃ j, j < n ∧ listed.getD j true = false ∧ ∀ k, k < j → listed.getD k true = true := by
        have : ∀ m, (∀ k, k < m → listed.getD k true = true) ∨ ∃ j, j < m ∧ listed.getD j true = false ∧ ∀ k, k < j → listed.getD k true = true := by
          intro m
          induction m with
          | zero => exact .inl fun k hk => by omega
          | succ m ihm =>
            rcases ihm with h | ⟨j, h1, h2, h3⟩
            · cases h' : listed.getD m true with
              | true =>
                refine .inl fun k hk => ?_
                by_cases e : k = m
                · subst e; exact h'
                · exact h k (by omega)
              | false => exact .inr ⟨m, by omega, h', h⟩
            · exact .inr ⟨j, by omega, h2, h3⟩
        rcases this n with h | h
        · rw [h i0 hi0] at hl0; cases hl0
        · exact h
      obtain ⟨j, hj, hlj, hbef⟩ := hfirst
      have hjl : j < l.length := by omega
      have hm : j ∈ Region.ready .any l.toArray listed := by
        rw [mem_ready]
        refine ⟨hlj, l[j], by simp [hjl], fun e he hbb => ?_⟩
        have : e.on < j := by
          have hac : ∀ (q : List Oper) (s : Nat) (m : Nat) (o : Oper), okB q s = true → q[m]? = some o → ∀ e ∈ o.after, Region.binds .any e = true → e.on < s + m := by
            intro q
            induction q with
            | nil => intro s m o _ hm; simp at hm
            | cons o' r ihr =>
              intro s m o h hm e he hbb
              obtain ⟨h1, _, h3⟩ := okB_cons h
              cases m with
              | zero => simp only [List.getElem?_cons_zero, Option.some.injEq] at hm; subst hm; exact h1 e he hbb
              | succ m =>
                simp only [List.getElem?_cons_succ] at hm
                have := ihr (s + 1) m o h3 hm e he hbb
                omega
          have := hac (l.take n) 0 j l[j] hok (by rw [List.getElem?_take_of_lt hj]; simp [hjl]) e he hbb
          omega
        have h2 := hbef e.on this
        have hsz : listed.size = l.length := by simpa using inv.size
        simpa [Array.getD, hsz, show e.on < l.length by omega] using h2
      rw [hr] at hm
      cases hm
    · have hin := hhead i hi
      have hi' := hi
      rw [mem_ready] at hi
      obtain ⟨hl, o, ho, hdep⟩ := hi
      have hol : (l.take n)[i]? = some o := by rw [List.getElem?_take_of_lt hin]; simpa using ho
      have h1 := AllT.get hall hol
      rw [Nat.zero_add] at h1
      have hnext : ∀ v w', C w' → Rel w w' → V i v w' → wpAny P .any l.toArray Q (fuel + (l.length - n)) (listed.setIfInBounds i true) ((putAll (l.take n) 0 y a0).put o.dst v) w' := by
        intro v w' hC' hR hVi
        rw [putAll_upd (l.take n) 0 i y a0 o v hok hol, Nat.zero_add]
        have hsz : listed.size = l.length := by simpa using inv.size
        refine ih _ _ _ (inv.set hi' hin) ?_ hC' (fun k hk hlk => ?_)
        · have hlt := cnt_lt (fun j => !listed.getD j true) (fun j => !(listed.setIfInBounds i true).getD j true) (fun j hj => by
            by_cases e : i = j
            · subst e; simp [Array.getD, Array.setIfInBounds, hsz, show i < l.length by omega] at hj
            · rw [getD_set_ne true e] at hj; exact hj) i (by simp [hl]) (by simp [Array.getD, Array.setIfInBounds, hsz, show i < l.length by omega]) n hin
          have hge := cnt_one (fun j => !listed.getD j true) (fun j => !(listed.setIfInBounds i true).getD j true) i (fun j hj => by
            show (!listed.getD j true) = (!(listed.setIfInBounds i true).getD j true)
            rw [getD_set_ne true (fun h => hj h.symm)])
          have := hge n
          omega
        · by_cases e : k = i
          · subst e; simpa [upd] using hVi
          · have : upd y i v k = y k := by simp [upd, e]
            rw [this]
            rw [getD_set_ne false (fun h => e h.symm)] at hlk
            exact hst k _ w w' hC hC' hR (hV k hk hlk)
      have h2 := h1 y w (wpAny P .any l.toArray Q (fuel + (l.length - n)) (listed.setIfInBounds i true)) Q (fun v w' => C w' ∧ Rel w w' ∧ V i v w') hC (deps_of _ fun e he hb => by
        have he' : e ∈ o.after := by simpa using he
        have h3 := hdep e he' hb
        have hen : e.on < n := by
          rcases Nat.lt_or_ge e.on n with h | h
          · exact h
          · have := inv.tail e.on h
            have hb2 : e.on < l.toArray.size := by
              rcases Nat.lt_or_ge e.on listed.size with h' | h'
              · rw [← inv.size]; exact h'
              · simp [Array.getD, Nat.not_lt.2 h'] at h3
            have := this hb2
            have hsz := inv.size
            simp [Array.getD, show e.on < listed.size by omega] at this h3
            rw [this] at h3; cases h3
        exact hV e.on hen h3) (fun v w' a b c => ⟨a, b, c⟩) (fun v w' h => hnext v w' h.1 h.2.1 h.2.2)
      unfold wpOp
      simp only [ho]
      split
      · rename_i hw; simp only [hw, if_true] at h2; exact .inl h2
      · rename_i hw; simp only [hw] at h2; exact h2
/-- THE RULE with a tail: C, Rel, V as in region_rg, of the first n operations. -/
theorem region_rg_tail {P : Program} {id : Nat} {Q : Exit → Act → World → Prop} {a : Act} {w : World} {l : List Oper} (n : Nat) (C : World → Prop) (Rel : World → World → Prop) (V : Nat → Value → World → Prop)
    (hm : P.follows .mixedOrders = true) (hB : tailB l n = true) (hC : C w.drew) (hst : ∀ k v w w', C w → C w' → Rel w w' → V k v w → V k v w')
    (hall : AllT P l.toArray (l.take n) C Rel V a (l.take n) 0) (hend : ∀ y w, C w → Ends V y w 0 n → wpList P l.toArray Q (l.drop n) (putAll (l.take n) 0 y a) w) :
    (Code.region id l.toArray true).wp P Q a w := by
  have hn : n < l.length := by
    have := hB
    simp only [tailB, Bool.and_eq_true, decide_eq_true_eq] at this
    exact this.1.1.1.1
  refine wp_region_any hm ?_
  have h0 : cnt (fun j => !(Array.replicate l.toArray.size false).getD j true) n = n := by
    have : ∀ m, m ≤ n → cnt (fun j => !(Array.replicate l.toArray.size false).getD j true) m = m := by
      intro m
      induction m with
      | zero => intro _; rfl
      | succ m ih =>
        intro hmn
        simp only [cnt]
        rw [ih (by omega)]
        have : (Array.replicate l.toArray.size false).getD m true = false := getD_in (by simp; omega) (getD_replicate_false _ _)
        have hb : (!(Array.replicate l.toArray.size false).getD m true) = true := by rw [this]; rfl
        rw [if_pos hb]
    exact this n (Nat.le_refl _)
  have := wpAny_rgT (P := P) (l := l) (n := n) (C := C) (Rel := Rel) (V := V) (a0 := a) (Q := Q) hB hst hall hend n
    (Array.replicate l.toArray.size false) (start (l.take n) a) w.drew ⟨by simp, fun j oj _ hl => (by rw [getD_replicate_false] at hl; cases hl), fun t _ ht => getD_in (by simpa using ht) (getD_replicate_false _ _)⟩ h0 hC
    (fun k hk h => by rw [getD_replicate_false] at h; cases h)
  rw [putAll_start (l.take n) 0 (start (l.take n) a) a (fun j o hj e he => by simp [start, hj, he])] at this
  rw [show n + (l.length - n) = l.toArray.size by simp; omega] at this
  exact this

/-- The same where memory only grows in the head. -/
theorem region_grow_tail {P : Program} {id : Nat} {Q : Exit → Act → World → Prop} {a : Act} {w : World} {l : List Oper} (n : Nat) (L : List (Value → World → Prop))
    (hm : P.follows .mixedOrders = true) (hB : tailB l n = true) (hlen : L.length = n) (hL : AllStb L)
    (hall : AllT P l.toArray (l.take n) (Go.RowKit.Below w.heap.size w) (fun u u' => Go.RowKit.Below u.heap.size u u') (VL L) a (l.take n) 0)
    (hend : ∀ y w', Go.RowKit.Below w.heap.size w w' → EndsL L y w' 0 → wpList P l.toArray Q (l.drop n) (putAll (l.take n) 0 y a) w') :
    (Code.region id l.toArray true).wp P Q a w :=
  region_rg_tail n _ _ _ hm hB (Go.RowKit.Below.refl _ _).drew (fun k v u u' _ _ h hv => hL.at_ k v u u' h hv) hall
    (fun y w' hC hE => hend y w' hC (EndsL.of 0 fun k hk => by
      have := hE.get (k := k) (by omega)
      simpa using this))
end Go.Proofs.Ytkmhldjebopljaa.RG
