import Derived.Test.YtkhijdbigpaagaaNh
import Derived.RangeFuncNested
import Derived.RangeFuncBound
import Derived.RangeFuncCalls
import Derived.RangeFuncLeaves
import Derived.RangeFuncBox
import Derived.Shelf.Abstract
import Derived.Shelf.AbstractIn
import Derived.Shelf.RegionOpen
import Derived.OwnWalkIn
import Derived.TacticsInMore
import Derived.LoopNIn
import Derived.LoopIn
/-
  The closure of Severity of package skill: whether there is a truth if an instructor always adds the same number.
-/
namespace Go.Proofs.Ytkhijdbigpaagaa
open Go.RowKit RG

/-- The school in which the instructor i always adds x. -/
def setB (S : Sch) (i : Nat) (x : Int) : Sch := ⟨S.sks, S.ins.set i ⟨(S.ins[i]?.getD default).name, x, x⟩⟩
theorem firstErr_none {err : Nat → Int} : ∀ {k m : Nat}, (∀ j, k ≤ j → j < k + m → err j = 0) → firstErr err k m = (0, 0)
  | k, 0, _ => rfl
  | k, m + 1, h => by
    unfold firstErr
    rw [if_pos (h k (Nat.le_refl _) (by omega))]
    exact firstErr_none fun j h1 h2 => h j (by omega) (by omega)
theorem setB_name (S : Sch) (i : Nat) (x : Int) : (fun j : Nat => ((setB S i x).ins[j]?.getD default).name) = fun j : Nat => (S.ins[j]?.getD default).name := by
  funext j
  show (((S.ins.set i (⟨(S.ins[i]?.getD default).name, x, x⟩ : Ins))[j]?.getD default : Ins)).name = _
  by_cases e : i = j
  · subst e
    rcases Nat.lt_or_ge i S.ins.length with h | h
    · rw [List.getElem?_set_self h]; rfl
    · rw [List.set_eq_of_length_le h]
  · rw [List.getElem?_set_ne e]
theorem check_setB {S : Sch} (h : (checkS S).2.2 = 0) (i : Nat) {x : Int} (hx : -300 ≤ x ∧ x ≤ 300) : (checkS (setB S i x)).2.2 = 0 := by
  obtain ⟨h1, h2, h3, h4, h5⟩ := check_ok h
  have hl : (setB S i x).ins.length = S.ins.length := by simp [setB]
  have e1 : firstErr (fun j => skErr (setB S i x).sks j ((setB S i x).sks[j]?.getD default)) 0 (setB S i x).sks.length = (0, 0) := firstErr_none fun j _ hj => h4 j (by simpa [setB] using hj)
  have e2 : firstErr (fun j => inErr (setB S i x).ins j ((setB S i x).ins[j]?.getD default)) 0 (setB S i x).ins.length = (0, 0) := firstErr_none fun j _ hj => by
    have hj' : j < S.ins.length := by rw [hl] at hj; omega
    have h6 := h5 j hj'
    unfold inErr at h6 ⊢
    rw [setB_name]
    by_cases hn : nmErr (fun j => (S.ins[j]?.getD default).name) j = 0
    · rw [if_pos hn] at h6 ⊢
      by_cases e : i = j
      · subst e
        have : (setB S i x).ins[i]?.getD default = ⟨(S.ins[i]?.getD default).name, x, x⟩ := by
          show (S.ins.set i _)[i]?.getD default = _
          rw [List.getElem?_set_self hj']; rfl
        rw [this]
        simp [spanE, inB_iff.2 hx]
      · have : (setB S i x).ins[j]?.getD default = S.ins[j]?.getD default := by
          show (S.ins.set i _)[j]?.getD default = _
          rw [List.getElem?_set_ne e]
        rw [this]; exact h6
    · rw [if_neg hn] at h6; exact absurd h6 hn
  unfold checkS
  rw [if_neg (by rw [hl]; show ¬ (¬ (1 ≤ S.sks.length ∧ S.sks.length ≤ 5) ∨ 6 < S.ins.length); omega), if_neg (by rw [e1]; simp), if_neg (by rw [e2]; simp)]

/-- Instructors in block g, at its head. -/
def InsAt (W : World) (g : Nat) (is : List Ins) : Prop := ∃ cur, Blk W g 81 cur ∧ is.length * 3 ≤ cur.size ∧ cur.toList.take (is.length * 3) = is.flatMap inCells
theorem InsAt.blk {W W' : World} {g : Nat} {is : List Ins} (h : InsAt W g is) (hb : W'.heap[g]? = W.heap[g]?) : InsAt W' g is := by
  obtain ⟨cur, h1, h2⟩ := h
  exact ⟨cur, hb.trans h1, h2⟩
theorem InsAt.lt {W : World} {g : Nat} {is : List Ins} (h : InsAt W g is) : g < W.heap.size := by obtain ⟨cur, h1, _⟩ := h; exact h1.lt
theorem insAt_own {W : World} {base n : Nat} {v : Value} {is : List Ins} (h : W.ownsRow base 81 3 v n (is.flatMap inCells)) (hn : is.length = n) (h1 : 1 ≤ n) : ∃ g c, v = .slice (some ⟨g, 0, none⟩) n c ∧ base ≤ g ∧ n ≤ c ∧ InsAt W g is := by
  subst hn
  rcases h.2 with ⟨_, h0⟩ | ⟨g, cap, cur, e, hb, hg, hc, _, hs, ht⟩
  · omega
  · exact ⟨g, cap, e, hb, hc, cur, hg, by rw [hs]; exact Nat.mul_le_mul_right _ hc, ht⟩
theorem flatIn_get (is : List Ins) (j i : Nat) (v : Value) (hv : ((is.map inCells)[j]?.getD [])[i]? = some v) : j < is.length ∧ i < 3 ∧ (is.flatMap inCells)[j * 3 + i]? = some v := by
  induction is generalizing j with
  | nil => simp at hv
  | cons x is ih =>
    cases j with
    | zero =>
      simp only [List.map_cons, List.getElem?_cons_zero, Option.getD_some] at hv
      have hi : i < 3 := by have := (List.getElem?_eq_some_iff.1 hv).1; simpa [inCells] using this
      refine ⟨by simp, hi, ?_⟩
      rw [List.flatMap_cons, Nat.zero_mul, Nat.zero_add, List.getElem?_append_left (by simpa [inCells] using hi)]
      exact hv
    | succ j =>
      simp only [List.map_cons, List.getElem?_cons_succ] at hv
      obtain ⟨h1, h2, h3⟩ := ih j hv
      refine ⟨by simpa using h1, h2, ?_⟩
      rw [List.flatMap_cons, List.getElem?_append_right (by simp [inCells]; omega)]
      simpa [inCells, show (j + 1) * 3 + i - 3 = j * 3 + i by omega] using h3
theorem InsAt.row {W : World} {g : Nat} {is : List Ins} (h : InsAt W g is) : RdRow W (some ⟨g, 0, none⟩) is.length 3 (is.map inCells) := by
  obtain ⟨cur, h1, h2, h3⟩ := h
  refine ⟨by simp, ?_, fun _ => ⟨g, 0, rfl, h1.lt, fun j i v hv => ?_⟩⟩
  · intro x hx
    obtain ⟨s, _, rfl⟩ := List.mem_map.1 hx
    rfl
  · obtain ⟨hj, hi, hf⟩ := flatIn_get is j i v hv
    rw [Nat.zero_add, h1.cell]
    rw [← h3, List.getElem?_take_of_lt (by omega)] at hf
    simpa using hf
theorem flatIn_set (is : List Ins) (i : Nat) (nm : ByteArray) (x y : Int) (hi : i < is.length) (hn : (is[i]?.getD default).name = nm) :
    ((is.flatMap inCells).set (i * 3 + 1) (.int .i64 x)).set (i * 3 + 2) (.int .i64 y) = (is.set i ⟨nm, x, y⟩).flatMap inCells := by
  induction is generalizing i with
  | nil => simp at hi
  | cons z is ih =>
    cases i with
    | zero => simp at hn; subst hn; simp [inCells]
    | succ i =>
      have := ih i (by simpa using hi) (by simpa using hn)
      rw [List.set_cons_succ, List.flatMap_cons, List.flatMap_cons, ← this]
      rw [List.set_append_right _ _ (by simp [inCells]; omega), List.set_append_right _ _ (by simp [inCells]; omega)]
      congr 1
      simp [inCells, show (i + 1) * 3 + 1 - 3 = i * 3 + 1 by omega, show (i + 1) * 3 + 2 - 3 = i * 3 + 2 by omega]
theorem InsAt.set {W : World} {g i : Nat} {is : List Ins} {nm : ByteArray} {x y : Int} (h : InsAt W g is) (hi : i < is.length) (hn : (is[i]?.getD default).name = nm) :
    InsAt ((W.setCell ⟨g, i * 3 + 1, none⟩ (.int .i64 x)).setCell ⟨g, i * 3 + 2, none⟩ (.int .i64 y)) g (is.set i ⟨nm, x, y⟩) := by
  obtain ⟨cur, h1, h2, h3⟩ := h
  refine ⟨_, (h1.set_ (i * 3 + 1) _).set_ (i * 3 + 2) _, by simpa using h2, ?_⟩
  rw [List.length_set, Array.toList_setIfInBounds, Array.toList_setIfInBounds, List.take_set, List.take_set, h3]
  exact flatIn_set is i nm x y hi hn

/-- Whether there is a truth if the instructor i always adds x. -/
def isTr (S : Sch) (rs : List Sp) (es : List Ev) (i : Nat) (x : Int) : Bool := (liveS (setB S i x) (lastW es) es 0 rs).isSome
/-- What the rows behind the closure hold, in whatever world that keeps what lies below B. -/
structure Rows3 (w : World) (B : Nat) (S : Sch) (A L E : Option Addr) (c k m n2 c2 : Nat) (rs : List Sp) (es : List Ev) : Prop where
  sk : RdRow w A S.sks.length 5 (S.sks.map skCells)
  st : RdRow w L k 2 (rs.map tkCells)
  ev : RdRow w E m 5 (es.map evCells)
  n5 : S.sks.length ≤ maxLen ∧ S.sks.length ≤ c
  nm : ∀ s ∈ S.sks, s.name.size ≤ maxLen
  i5 : S.ins.length = n2 ∧ n2 ≤ maxLen ∧ n2 ≤ c2
  im : ∀ s ∈ S.ins, s.name.size ≤ maxLen
  hm : m ≤ maxLen
theorem setB_at (S : Sch) (i : Nat) (x : Int) {is : List Ins} (h : ∃ y, is = S.ins.set i y) : is.set i ⟨(S.ins[i]?.getD default).name, x, x⟩ = (setB S i x).ins := by
  obtain ⟨y, rfl⟩ := h
  rw [List.set_set]; rfl

set_option maxRecDepth 100000 in
set_option maxHeartbeats 8000000 in
theorem isTrue_any (S : Sch) (A L E : Option Addr) (c k cl m ce n2 c2 ps pi pst pe g B i : Nat) (rs : List Sp) (es : List Ev) (is : List Ins) (x : Int) (w0 w : World)
    (hR : Rows3 w0 B S A L E c k m n2 c2 rs es) (hB : B = w0.heap.size) (hw : Below B w0 w) (hg : B ≤ g)
    (hs : Blk w ps 25 #[.slice A S.sks.length c, .slice (some ⟨g, 0, none⟩) n2 c2]) (hpi : Blk w pi 3 #[.int .i64 (i : Int)]) (hst : Blk w pst 37 #[.slice L k cl]) (he : Blk w pe 38 #[.slice E m ce])
    (hI : InsAt w g is) (his : ∃ y, is = S.ins.set i y ∧ y.name = (S.ins[i]?.getD default).name) (hi : i < n2) (hx : -300 ≤ x ∧ x ≤ 300)
    (hck : (checkS S).2.2 = 0) (hrk : rangesE S.sks.length rs = 0) (hek : evsE S.sks.length S.ins.length es = 0) :
    Calls Try.prog 73 #[.int .i64 x, .pointer (some ⟨ps, 0, none⟩), .pointer (some ⟨pi, 0, none⟩), .pointer (some ⟨pst, 0, none⟩), .pointer (some ⟨pe, 0, none⟩)] w fun e w' =>
      e = .returned (.bool (isTr S rs es i x)) ∧ w.grownBy w' (some g) ∧ InsAt w' g (setB S i x).ins := by
  obtain ⟨hi1, hi2, hi3⟩ := hR.i5
  obtain ⟨hm60, hev⟩ := evs_ok hek
  have hlw := lastW_in hev es.length (Nat.le_refl _)
  rw [List.take_length] at hlw
  have hil : is.length = n2 := by obtain ⟨y, e, _⟩ := his; rw [e, List.length_set]; exact hi1
  have hnm : (is[i]?.getD default).name = (S.ins[i]?.getD default).name := by
    obtain ⟨y, e, hy⟩ := his
    rw [e, List.getElem?_set_self (by omega)]; exact hy
  obtain ⟨W1, hW1⟩ : ∃ W1, (w.setCell ⟨g, i * 3 + 1, none⟩ (.int .i64 x)).setCell ⟨g, i * 3 + 2, none⟩ (.int .i64 x) = W1 := ⟨_, rfl⟩
  have hI1 : InsAt W1 g (setB S i x).ins := by
    rw [← hW1, ← setB_at S i x (by obtain ⟨y, e, _⟩ := his; exact ⟨y, e⟩)]
    exact hI.set (by omega) hnm
  have hG1 : w.grownBy W1 (some g) := by
    rw [← hW1]
    exact only_setCell (only_setCell (only_of_below (row := some g) (Below.refl _ w)) (p := ⟨g, i * 3 + 1, none⟩) (.inl rfl) (.int .i64 x)) (p := ⟨g, i * 3 + 2, none⟩) (.inl rfl) (.int .i64 x)
  have hB1 : Below B w0 W1 := by rw [← hW1]; exact (hw.setCell hg _).setCell hg _
  obtain ⟨cur, hgb, hgs, hgt⟩ := id hI
  have hng : ∀ {p : Nat} {t : TypeId} {cs : Array Value}, Blk w p t cs → t ≠ 81 → p ≠ g := fun hp ht => hp.ne_ hgb ht
  have hs1 : Blk W1 ps 25 #[.slice A S.sks.length c, .slice (some ⟨g, 0, none⟩) n2 c2] := hs.grown hG1 (by simpa using hng hs (by decide))
  have hst1 : Blk W1 pst 37 #[.slice L k cl] := hst.grown hG1 (by simpa using hng hst (by decide))
  have he1 : Blk W1 pe 38 #[.slice E m ce] := he.grown hG1 (by simpa using hng he (by decide))
  have hLW := hide (fun W (hb : Below W1.heap.size W1 W) => lastWeek_any E m ce es W (hR.ev.below (hB ▸ (hB1.trans (hb.mono (by rw [hB]; exact hB1.size))))) hR.hm)
  have hH := hide (fun W (hb : Below W1.heap.size W1 W) => show Calls Try.prog 68 #[.agg #[.slice A S.sks.length c, .slice (some ⟨g, 0, none⟩) n2 c2], .slice L k cl, .slice E m ce, .int .i64 (lastW es)] W fun e w' => HistR (liveS (setB S i x) (lastW es) es 0 rs) e w' ∧ Below W.heap.size W w' by
    have hb0 : Below w0.heap.size w0 W := hB ▸ (hB1.trans (hb.mono (by rw [hB]; exact hB1.size)))
    have hl2 : (setB S i x).ins.length = n2 := by simp [setB, hi1]
    refine history_any (.agg #[.slice A S.sks.length c, .slice (some ⟨g, 0, none⟩) n2 c2]) (setB S i x) L E k cl m ce rs es (lastW es) W ?_ (hR.st.below hb0) (hR.ev.below hb0) (check_setB hck i hx) hrk (by rw [hl2, ← hi1]; exact hek) ⟨Int.le_refl _, hlw.2⟩
    refine ⟨A, c, some ⟨g, 0, none⟩, c2, by rw [hl2]; rfl, hR.sk.below hb0, hR.n5.1, hR.n5.2, hR.nm, ?_, by omega, by omega, ?_⟩
    · have := (hI1.blk (hb.block g hI1.lt)).row
      exact this
    · intro s hs
      rcases List.mem_or_eq_of_mem_set hs with h | h
      · exact hR.im s h
      · subst h
        show (S.ins[i]?.getD default).name.size ≤ maxLen
        rw [List.getElem?_eq_getElem (by omega)]
        exact hR.im _ (List.getElem_mem _))
  have hq : isTr S rs es i x = (liveS (setB S i x) (lastW es) es 0 rs).isSome := rfl
  rw [hq]
  clear hq
  generalize liveS (setB S i x) (lastW es) es 0 rs = q at *
  generalize S.sks.length = n at *
  generalize (setB S i x).ins = is2 at *
  generalize lastW es = lw at *
  have c0 : w.cell? ⟨ps, 0, none⟩ = some (.slice A n c) := hs.cell 0
  have c1 : w.cell? ⟨ps, 1, none⟩ = some (.slice (some ⟨g, 0, none⟩) n2 c2) := hs.cell 1
  have c2' : w.cell? ⟨pi, 0, none⟩ = some (.int .i64 (i : Int)) := hpi.cell 0
  obtain ⟨u1, d1⟩ : ∃ u, w.cell? ⟨g, i * 3 + 1, none⟩ = some u := by rw [hgb.cell]; exact ⟨_, Array.getElem?_eq_getElem (by omega)⟩
  obtain ⟨u2, d2⟩ : ∃ u, w.cell? ⟨g, i * 3 + 2, none⟩ = some u := by rw [hgb.cell]; exact ⟨_, Array.getElem?_eq_getElem (by omega)⟩
  have f1 : w.frozen? ⟨g, i * 3 + 1, none⟩ = false := hgb.frozen _
  have f2 : w.frozen? ⟨g, i * 3 + 2, none⟩ = false := hgb.frozen _
  have hiz : (i : Int) < (n2 : Int) := by omega
  replace hI1 := hide hI1
  replace hG1 := hide hG1
  replace hs1 := hide hs1
  replace hst1 := hide hst1
  replace he1 := hide he1
  replace hW1 := hide hW1
  clear hs hpi hst he hI his hck hrk hek hgb hgs hgt hng hR hB1 hw hi1 hi2 hi3 hil hnm hm60 hev hlw hx
  go_enter Try.func73, Try.ntmps73
  go_wp2
  rw [show ((w.setCell ⟨g, i * 3 + 1, none⟩ (.int .i64 x)).setCell ⟨g, i * 3 + 1 + 1, none⟩ (.int .i64 x)) = W1 from hW1.out]
  clear c0 c1 c2' d1 d2 f1 f2 hW1 hiz
  obtain ⟨z, hz⟩ : ∃ z : Int, (match q with | none => 9 | some _ => 0) = z := ⟨_, rfl⟩
  have hqz := hide (show q.isSome = (z == 0) by rw [← hz]; cases q <;> rfl)
  have hH2 := hide (fun W (hb : Below W1.heap.size W1 W) => (hH.out W hb).mono (R' := fun e w' => (∃ y, e = .returned (.tuple #[y, .int .i64 z])) ∧ Below W.heap.size W w') (fun e w' h => by
    obtain ⟨⟨y, he, _⟩, hb⟩ := h
    exact ⟨⟨y, by rw [he, ← hz]; cases q <;> rfl⟩, hb⟩))
  clear hz hH
  refine region_grow [IsV (.agg #[.slice A n c, .slice (some ⟨g, 0, none⟩) n2 c2]), IsV (.slice L k cl), IsV (.slice E m ce), IsV (.slice E m ce), IsV (.int .i64 lw), (fun v _ => ∃ y, v = .tuple #[y, .int .i64 z]), (fun v _ => ∃ y, v = .tuple #[y, .int .i64 z]), (fun _ _ => True), IsV (.int .i64 z), (fun _ _ => True), IsV (.int .i64 z)] (by kernel_rfl) (by kernel_rfl) rfl ?_ ?_ ?_
  · refine ⟨IsV.stb _, IsV.stb _, IsV.stb _, IsV.stb _, IsV.stb _, fun _ _ _ _ h => h, fun _ _ _ _ h => h, fun _ _ _ _ h => h, IsV.stb _, fun _ _ _ _ h => h, IsV.stb _, trivial⟩
  · refine ⟨?_, ?_, ?_, ?_, ?_, ?_, ?_, ?_, ?_, ?_, ?_, trivial⟩
    all_goals
      intro y W4 K Q Cv hC4 hd hV
      have z0 : W4.cell? ⟨ps, 0, none⟩ = some (.slice A n c) := (hs1.out.below hC4 hs1.out.lt).cell 0
      have z1 : W4.cell? ⟨ps, 1, none⟩ = some (.slice (some ⟨g, 0, none⟩) n2 c2) := (hs1.out.below hC4 hs1.out.lt).cell 1
      have z2 : W4.cell? ⟨pst, 0, none⟩ = some (.slice L k cl) := (hst1.out.below hC4 hst1.out.lt).cell 0
      have z3 : W4.cell? ⟨pe, 0, none⟩ = some (.slice E m ce) := (he1.out.below hC4 he1.out.lt).cell 0
      simp [deps, VL, IsV, Region.binds] at hd
    · simp only [putAll, Act.put]; go_simp; intro hK; exact hK _ _ (hV _ _ hC4 (Below.refl _ _) rfl)
    · simp only [putAll, Act.put]; go_simp; intro hK; exact hK _ _ (hV _ _ hC4 (Below.refl _ _) rfl)
    · simp only [putAll, Act.put]; go_simp; intro hK; exact hK _ _ (hV _ _ hC4 (Below.refl _ _) rfl)
    · simp only [putAll, Act.put]; go_simp; intro hK; exact hK _ _ (hV _ _ hC4 (Below.refl _ _) rfl)
    · simp only [putAll, Act.put]; go_simp; intro hK; refine (hLW.out _ hC4).mono ?_; rintro e w7 ⟨rfl, rfl⟩; exact hK _ _ (hV _ _ hC4 (Below.refl _ _) rfl)
    · simp only [putAll, Act.put]; go_simp; intro hK; refine (hH2.out _ hC4).mono ?_; rintro e w7 ⟨⟨y', rfl⟩, hb7⟩; exact hK _ _ (hV _ _ (hC4.trans (hb7.mono hC4.size)) hb7 ⟨_, rfl⟩)
    · obtain ⟨y', hy'⟩ := hd
      simp only [putAll, Act.put]; go_simp; intro hK; exact hK _ _ (hV _ _ hC4 (Below.refl _ _) ⟨_, rfl⟩)
    · obtain ⟨y', hy'⟩ := hd
      simp only [putAll, Act.put]; go_simp; intro hK; exact hK _ _ (hV _ _ hC4 (Below.refl _ _) trivial)
    · obtain ⟨y', hy'⟩ := hd
      simp only [putAll, Act.put]; go_simp; intro hK; exact hK _ _ (hV _ _ hC4 (Below.refl _ _) rfl)
    · simp only [putAll, Act.put]; go_simp; intro hK; exact hK _ _ (hV _ _ hC4 (Below.refl _ _) trivial)
    · have h8 := hd.1
      simp only [putAll, Act.put]; go_simp; intro hK; exact hK _ _ (hV _ _ hC4 (Below.refl _ _) rfl)
  intro y W4 hC4 hd
  simp [EndsL, IsV] at hd
  obtain ⟨d0, d1, d2, d3, d4, d5, d6, d8, d10⟩ := hd
  simp only [putAll, Act.put]
  rw [d10]
  clear d0 d1 d2 d3 d4 d5 d6 d8 d10
  simp only [List.setIfInBounds_toArray, List.set_cons_succ, List.set_cons_zero]
  have hI4 := hide (hI1.out.blk (hC4.block g hI1.out.lt))
  have hG4 := hide (only_trans hG1.out (only_of_below (row := some g) hC4))
  clear hI1 hG1 hs1 hst1 he1 hLW hH2 hC4
  go_wp2
  go_ret
  exact ⟨by rw [hqz.out]; rfl, hG4.out, hI4.out⟩
end Go.Proofs.Ytkhijdbigpaagaa

/-
  Severity of package skill.
-/
namespace Go.Proofs.Ytkhijdbigpaagaa
open Go.RowKit RG

/-- The first of n numbers from lo on of which p is true; lo and n, together, if there is none. -/
def firstUp (p : Int → Bool) : Nat → Int → Int
  | 0, lo => lo
  | n + 1, lo => if p lo = true then lo else firstUp p n (lo + 1)
/-- The first of n numbers from hi downwards of which p is true. -/
def lastDown (p : Int → Bool) : Nat → Int → Int
  | 0, hi => hi
  | n + 1, hi => if p hi = true then hi else lastDown p n (hi - 1)
/-- What Severity answers. -/
def sevF (S : Sch) (rs : List Sp) (es : List Ev) (i : Int) : Int × Int × Int :=
  if histE S rs es = 0 then (if inB 0 ((S.ins.length : Int) - 1) i = true then
    (if (S.ins[i.toNat]?.getD default).hi < firstUp (isTr S rs es i.toNat) ((S.ins[i.toNat]?.getD default).hi + 1 - (S.ins[i.toNat]?.getD default).lo).toNat (S.ins[i.toNat]?.getD default).lo then (0, 0, 9)
     else (firstUp (isTr S rs es i.toNat) ((S.ins[i.toNat]?.getD default).hi + 1 - (S.ins[i.toNat]?.getD default).lo).toNat (S.ins[i.toNat]?.getD default).lo,
       lastDown (isTr S rs es i.toNat) ((S.ins[i.toNat]?.getD default).hi + 1 - (S.ins[i.toNat]?.getD default).lo).toNat (S.ins[i.toNat]?.getD default).hi, 0)) else (0, 0, 4)) else (0, 0, histE S rs es)

/-- Where Severity is, in a world W. -/
def SevW (w : World) (S : Sch) (A L E : Option Addr) (n c k cl m ce n2 c2 g b i : Nat) (lo hi : Int) (W : World) : Prop :=
  Below w.heap.size w W ∧ Blk W w.heap.size 25 #[.slice A n c, .slice (some ⟨g, 0, none⟩) n2 c2] ∧ Blk W (w.heap.size + 1) 37 #[.slice L k cl] ∧ Blk W (w.heap.size + 1 + 1) 38 #[.slice E m ce] ∧
    Blk W (w.heap.size + 1 + 1 + 1) 3 #[.int .i64 (i : Int)] ∧ Blk W (w.heap.size + 1 + 1 + 1 + 1) 32 #[.int .i64 0, .int .i64 0] ∧ Blk W b 32 #[.int .i64 lo, .int .i64 hi] ∧
    ∃ is, InsAt W g is ∧ ∃ y, is = S.ins.set i y ∧ y.name = (S.ins[i]?.getD default).name
theorem SevW.call {w W : World} {S : Sch} {A L E : Option Addr} {n c k cl m ce n2 c2 g b i : Nat} {lo hi : Int} {rs : List Sp} {es : List Ev} (h : SevW w S A L E n c k cl m ce n2 c2 g b i lo hi W) (hn : S.sks.length = n) (hR : Rows3 w w.heap.size S A L E c k m n2 c2 rs es) (hg : w.heap.size ≤ g) (hin : i < n2)
    {x : Int} (hx : -300 ≤ x ∧ x ≤ 300) (hck : (checkS S).2.2 = 0) (hrk : rangesE S.sks.length rs = 0) (hek : evsE S.sks.length S.ins.length es = 0) :
    Calls Try.prog 73 #[.int .i64 x, .pointer (some ⟨w.heap.size, 0, none⟩), .pointer (some ⟨w.heap.size + 1 + 1 + 1, 0, none⟩), .pointer (some ⟨w.heap.size + 1, 0, none⟩), .pointer (some ⟨w.heap.size + 1 + 1, 0, none⟩)] W fun e w' =>
      e = .returned (.bool (isTr S rs es i x)) ∧ SevW w S A L E n c k cl m ce n2 c2 g b i lo hi w' ∧ W.heap.size ≤ w'.heap.size := by
  subst hn
  obtain ⟨h1, h2, h3, h4, h5, h6, h7, is, h8, h9⟩ := h
  obtain ⟨cur, hgb, _⟩ := id h8
  refine (isTrue_any S A L E c k cl m ce n2 c2 _ _ _ _ g w.heap.size i rs es is x w W hR rfl h1 hg h2 h5 h3 h4 h8 h9 hin hx hck hrk hek).mono ?_
  rintro e w' ⟨rfl, hG, hI⟩
  have hk : ∀ {p : Nat} {t : TypeId} {cs : Array Value}, Blk W p t cs → t ≠ 81 → Blk w' p t cs := fun hp ht => hp.grown hG (by simpa using hp.ne_ hgb ht)
  exact ⟨rfl, ⟨h1.trans (only_below hG hg h1.size), hk h2 (by decide), hk h3 (by decide), hk h4 (by decide), hk h5 (by decide), hk h6 (by decide), hk h7 (by decide), _, hI, _, rfl, rfl⟩, hG.size⟩

theorem SevW.set {w W : World} {S : Sch} {A L E : Option Addr} {n c k cl m ce n2 c2 g b i : Nat} {lo hi : Int} (h : SevW w S A L E n c k cl m ce n2 c2 g b i lo hi W) (hb : w.heap.size + 1 + 1 + 1 + 1 < b) (o : Nat) (x : Int) (ho : o = 0 ∨ o = 1) :
    SevW w S A L E n c k cl m ce n2 c2 g b i (if o = 0 then x else lo) (if o = 0 then hi else x) (W.setCell ⟨b, o, none⟩ (.int .i64 x)) := by
  obtain ⟨h1, h2, h3, h4, h5, h6, h7, is, h8, h9⟩ := h
  obtain ⟨cur, hgb, _⟩ := id h8
  have hne : g ≠ b := fun e => by subst e; exact absurd (hgb.ne_ h7 (by decide)) (by simp)
  have h7' : Blk (W.setCell ⟨b, o, none⟩ (.int .i64 x)) b 32 #[.int .i64 (if o = 0 then x else lo), .int .i64 (if o = 0 then hi else x)] := by
    have := h7.set_ o (.int .i64 x)
    rcases ho with rfl | rfl <;> simpa using this
  exact ⟨h1.setCell (by show w.heap.size ≤ b; omega) _, h2.far (by show w.heap.size ≠ b; omega) _, h3.far (by show w.heap.size + 1 ≠ b; omega) _, h4.far (by show w.heap.size + 1 + 1 ≠ b; omega) _, h5.far (by show w.heap.size + 1 + 1 + 1 ≠ b; omega) _, h6.far (by show w.heap.size + 1 + 1 + 1 + 1 ≠ b; omega) _, h7', is, h8.blk (Below.heap_setCell _ _ _ _ (by simpa using hne)), h9⟩
theorem SevW.below {w W W' : World} {S : Sch} {A L E : Option Addr} {n c k cl m ce n2 c2 g b i : Nat} {lo hi : Int} (h : SevW w S A L E n c k cl m ce n2 c2 g b i lo hi W) (hb : Below W.heap.size W W') : SevW w S A L E n c k cl m ce n2 c2 g b i lo hi W' := by
  obtain ⟨h1, h2, h3, h4, h5, h6, h7, is, h8, h9⟩ := h
  exact ⟨h1.trans (hb.mono h1.size), h2.below hb h2.lt, h3.below hb h3.lt, h4.below hb h4.lt, h5.below hb h5.lt, h6.below hb h6.lt, h7.below hb h7.lt, is, h8.blk (hb.block g h8.lt), h9⟩
theorem SevW.bias {w W : World} {S : Sch} {A L E : Option Addr} {n c k cl m ce n2 c2 g b i : Nat} {lo hi : Int} (h : SevW w S A L E n c k cl m ce n2 c2 g b i lo hi W) : W.cell? ⟨b, 0, none⟩ = some (.int .i64 lo) ∧ W.cell? ⟨b, 1, none⟩ = some (.int .i64 hi) ∧ W.frozen? ⟨b, 0, none⟩ = false ∧ W.frozen? ⟨b, 1, none⟩ = false :=
  have hb := h.2.2.2.2.2.2.1
  ⟨hb.cell 0, hb.cell 1, hb.frozen 0, hb.frozen 1⟩
theorem sev_end (tm : Array Value) (wf : World) (R : Ending → World → Prop) (p : Nat) (a b e : Int) (h8 : tm[8]? = some (.pointer (some ⟨p, 0, none⟩))) (h9 : tm[9]? = some (.int .i64 e)) (hk : Blk wf p 32 (spC a b))
    (hR : R (.returned (.tuple #[.agg #[.int .i64 a, .int .i64 b], .int .i64 e])) wf) : bodyPost Try.prog Try.f28 R .ret { tmps := tm, defers := [] } wf := by
  have c0 : wf.cell? ⟨p, 0, none⟩ = some (.int .i64 a) := hk.cell 0
  have c1 : wf.cell? ⟨p, 1, none⟩ = some (.int .i64 b) := hk.cell 1
  exact bodyPost_ret (v := .tuple #[.agg #[.int .i64 a, .int .i64 b], .int .i64 e]) (by simp [results, Try.results28, go_sem, h8, h9, c0, c1]) rfl hR
def SevR (q : Int × Int × Int) (e : Ending) : Prop := e = .returned (.tuple #[.agg #[.int .i64 q.1, .int .i64 q.2.1], .int .i64 q.2.2])

set_option maxRecDepth 100000 in
set_option maxHeartbeats 8000000 in
theorem Severity_any (v : Value) (S : Sch) (L E : Option Addr) (k cl m ce : Nat) (rs : List Sp) (es : List Ev) (ix : Int) (w : World) (h : RdSch w v S) (hls : RdRow w L k 2 (rs.map tkCells)) (hk : k ≤ maxLen)
    (hes : RdRow w E m 5 (es.map evCells)) (hm : m ≤ maxLen) (hcap : m ≤ ce) :
    Calls Try.prog 28 #[v, .slice L k cl, .slice E m ce, .int .i64 ix] w fun e w' => SevR (sevF S rs es ix) e ∧ Below w.heap.size w w' := by
  have hT := hide (fun W (hb : Below w.heap.size w W) => historyError_any v S L E k cl m ce rs es W (h.below hb) (hls.below hb) hk (hes.below hb) hm hcap)
  obtain ⟨A, c, A2, c2, rfl, hA, hn1, hn2, hnm, hA2, hi1, hi2, him⟩ := h
  obtain ⟨r, hr⟩ : ∃ r, sevF S rs es ix = r := ⟨_, rfl⟩
  rw [hr]
  unfold sevF at hr
  have hI := hide (fun W => isInstructor_any A A2 S.sks.length c S.ins.length c2 ix W hi1)
  generalize hq : histE S rs es = q at *
  obtain ⟨n, hnS⟩ : ∃ n, S.sks.length = n := ⟨_, rfl⟩
  obtain ⟨n2, hnI⟩ : ∃ n2, S.ins.length = n2 := ⟨_, rfl⟩
  rw [hnI] at hr hI hT hi1 hi2 hA2
  have hR := hide (fun c2' (hc2 : n2 ≤ c2') => show Rows3 w w.heap.size S A L E c k m n2 c2' rs es from ⟨hA, hls, hes, ⟨hn1, hn2⟩, hnm, ⟨hnI, hi1, hc2⟩, him, hm⟩)
  rw [hnI]
  rw [hnS] at hT hI ⊢
  replace hq := hide hq
  replace hr := hide hr
  replace hA2 := hide hA2
  replace hnS := hide hnS
  replace hnI := hide hnI
  clear hA hn1 hn2 hnm hls hes hk hm hcap him hi2
  have hB0 := hide (show Below w.heap.size w (((((w.alloc (.cells #[.slice A n c, .slice A2 n2 c2] 25)).alloc (.cells #[.slice L k cl] 37)).alloc (.cells #[.slice E m ce] 38)).alloc (.cells #[.int .i64 ix] 3)).alloc (.cells #[.int .i64 0, .int .i64 0] 32)) from
    (((((Below.refl _ _).alloc (Nat.le_refl _) _).alloc (by simp) _).alloc (by simp; omega) _).alloc (by simp; omega) _).alloc (by simp; omega) _)
  have b0 := hide (show Blk (((((w.alloc (.cells #[.slice A n c, .slice A2 n2 c2] 25)).alloc (.cells #[.slice L k cl] 37)).alloc (.cells #[.slice E m ce] 38)).alloc (.cells #[.int .i64 ix] 3)).alloc (.cells #[.int .i64 0, .int .i64 0] 32)) w.heap.size 25 #[.slice A n c, .slice A2 n2 c2] from ((((blkNew rfl).alloc _).alloc _).alloc _).alloc _)
  have b1 := hide (show Blk (((((w.alloc (.cells #[.slice A n c, .slice A2 n2 c2] 25)).alloc (.cells #[.slice L k cl] 37)).alloc (.cells #[.slice E m ce] 38)).alloc (.cells #[.int .i64 ix] 3)).alloc (.cells #[.int .i64 0, .int .i64 0] 32)) (w.heap.size + 1) 37 #[.slice L k cl] from (((blkNew (by simp)).alloc _).alloc _).alloc _)
  have b2 := hide (show Blk (((((w.alloc (.cells #[.slice A n c, .slice A2 n2 c2] 25)).alloc (.cells #[.slice L k cl] 37)).alloc (.cells #[.slice E m ce] 38)).alloc (.cells #[.int .i64 ix] 3)).alloc (.cells #[.int .i64 0, .int .i64 0] 32)) (w.heap.size + 1 + 1) 38 #[.slice E m ce] from ((blkNew (by simp)).alloc _).alloc _)
  have b3 := hide (show Blk (((((w.alloc (.cells #[.slice A n c, .slice A2 n2 c2] 25)).alloc (.cells #[.slice L k cl] 37)).alloc (.cells #[.slice E m ce] 38)).alloc (.cells #[.int .i64 ix] 3)).alloc (.cells #[.int .i64 0, .int .i64 0] 32)) (w.heap.size + 1 + 1 + 1) 3 #[.int .i64 ix] from (blkNew (by simp)).alloc _)
  have b4 := hide (show Blk (((((w.alloc (.cells #[.slice A n c, .slice A2 n2 c2] 25)).alloc (.cells #[.slice L k cl] 37)).alloc (.cells #[.slice E m ce] 38)).alloc (.cells #[.int .i64 ix] 3)).alloc (.cells #[.int .i64 0, .int .i64 0] 32)) (w.heap.size + 1 + 1 + 1 + 1) 32 #[.int .i64 0, .int .i64 0] from blkNew (by simp))
  have hs0 : (((((w.alloc (.cells #[.slice A n c, .slice A2 n2 c2] 25)).alloc (.cells #[.slice L k cl] 37)).alloc (.cells #[.slice E m ce] 38)).alloc (.cells #[.int .i64 ix] 3)).alloc (.cells #[.int .i64 0, .int .i64 0] 32)).heap.size = w.heap.size + 5 := by simp
  have x0 := b0.out.cell 0
  have x1 := b0.out.cell 1
  have x2 := b1.out.cell 0
  have x3 := b2.out.cell 0
  simp only [List.getElem?_toArray, List.getElem?_cons_zero, List.getElem?_cons_succ] at x0 x1 x2 x3
  go_enter Try.func28, Try.ntmps28
  go_wp2_with fail
  clear x0 x1 x2 x3
  generalize (((((w.alloc (.cells #[.slice A n c, .slice A2 n2 c2] 25)).alloc (.cells #[.slice L k cl] 37)).alloc (.cells #[.slice E m ce] 38)).alloc (.cells #[.int .i64 ix] 3)).alloc (.cells #[.int .i64 0, .int .i64 0] 32)) = W0 at *
  refine (hT.out _ hB0.out).mono ?_
  rintro e w1 ⟨rfl, hb1⟩
  have hB1 := hide (hB0.out.trans (hb1.mono (by omega)))
  replace b0 := hide (b0.out.below hb1 b0.out.lt)
  replace b1 := hide (b1.out.below hb1 b1.out.lt)
  replace b2 := hide (b2.out.below hb1 b2.out.lt)
  replace b3 := hide (b3.out.below hb1 b3.out.lt)
  replace b4 := hide (b4.out.below hb1 b4.out.lt)
  have hs1 := hb1.size
  clear hb1 hB0 hT
  have x0 : w1.cell? ⟨w.heap.size, 0, none⟩ = some (.slice A n c) := b0.out.cell 0
  have x1 : w1.cell? ⟨w.heap.size, 1, none⟩ = some (.slice A2 n2 c2) := b0.out.cell 1
  have x3 : w1.cell? ⟨w.heap.size + 1 + 1 + 1, 0, none⟩ = some (.int .i64 ix) := b3.out.cell 0
  have x4 : w1.cell? ⟨w.heap.size + 1 + 1 + 1 + 1, 0, none⟩ = some (.int .i64 0) := b4.out.cell 0
  have x5 : w1.cell? ⟨w.heap.size + 1 + 1 + 1 + 1, 1, none⟩ = some (.int .i64 0) := b4.out.cell 1
  have f4 : w1.frozen? ⟨w.heap.size + 1 + 1 + 1 + 1, 0, none⟩ = false := b4.out.frozen 0
  have f5 : w1.frozen? ⟨w.heap.size + 1 + 1 + 1 + 1, 1, none⟩ = false := b4.out.frozen 1
  by_cases h2 : q = 0
  · subst h2
    have hr1 := hr.out
    rw [if_pos rfl] at hr1
    replace hr1 := hide hr1
    clear hr
    clear x4 x5 f4 f5
    go_wp2_with fail
    refine (hI.out _).mono ?_
    rintro e w2 ⟨rfl, hb2⟩
    have hB2 := hide (hB1.out.trans (hb2.mono hB1.out.size))
    replace b0 := hide (b0.out.below hb2 b0.out.lt)
    replace b1 := hide (b1.out.below hb2 b1.out.lt)
    replace b2 := hide (b2.out.below hb2 b2.out.lt)
    replace b3 := hide (b3.out.below hb2 b3.out.lt)
    replace b4 := hide (b4.out.below hb2 b4.out.lt)
    have hs2 := hb2.size
    clear hb2 hB1 hI x0 x1 x3
    cases hq2 : inB 0 ((n2 : Int) - 1) ix with
    | false =>
      have hr2 := hr1.out
      rw [hq2, if_neg (by simp)] at hr2
      subst hr2
      clear hr1 hq2
      have x4 : w2.cell? ⟨w.heap.size + 1 + 1 + 1 + 1, 0, none⟩ = some (.int .i64 0) := b4.out.cell 0
      have x5 : w2.cell? ⟨w.heap.size + 1 + 1 + 1 + 1, 1, none⟩ = some (.int .i64 0) := b4.out.cell 1
      have f4 : w2.frozen? ⟨w.heap.size + 1 + 1 + 1 + 1, 0, none⟩ = false := b4.out.frozen 0
      have f5 : w2.frozen? ⟨w.heap.size + 1 + 1 + 1 + 1, 1, none⟩ = false := b4.out.frozen 1
      go_wp2
      exact sev_end _ _ _ (w.heap.size + 1 + 1 + 1 + 1) 0 0 4 rfl rfl (set2 (lo := 0) (hi := 0) b4.out) ⟨rfl, (hB2.out.setCell (by simp +arith) _).setCell (by simp +arith) _⟩
    | true =>
      have hr2 := hr1.out
      rw [hq2, if_pos rfl] at hr2
      obtain ⟨i, rfl⟩ : ∃ i : Nat, ix = i := ⟨ix.toNat, by have := inB_iff.1 hq2; omega⟩
      have hi : i < n2 := by have := inB_iff.1 hq2; omega
      clear hr1 hq2
      obtain ⟨hck, hrk, hek⟩ := hist_ok hq.out
      have hib := in_ok hck (i := i) (by rw [hnI.out]; exact hi)
      have hni6 : n2 ≤ 6 := by have := (check_ok hck).2.2.1; rw [hnI.out] at this; exact this
      have hcl := hide (CloneIn_any A2 n2 c2 S.ins w2 (hA2.out.below (hB2.out)) (by omega) hni6)
      have x1 : w2.cell? ⟨w.heap.size, 1, none⟩ = some (.slice A2 n2 c2) := b0.out.cell 1
      have f1 : w2.frozen? ⟨w.heap.size, 1, none⟩ = false := b0.out.frozen 1
      go_wp2_with fail
      refine hcl.out.mono ?_
      rintro e w3 ⟨v', rfl, hown, hb3⟩
      obtain ⟨g, gc, rfl, hgb, hgc, hIns⟩ := insAt_own hown hnI.out (by omega)
      have hB3 := hide (hB2.out.trans (hb3.mono hB2.out.size))
      replace b0 := hide (b0.out.below hb3 b0.out.lt)
      replace b1 := hide (b1.out.below hb3 b1.out.lt)
      replace b2 := hide (b2.out.below hb3 b2.out.lt)
      replace b3 := hide (b3.out.below hb3 b3.out.lt)
      replace b4 := hide (b4.out.below hb3 b4.out.lt)
      have hs3 := hb3.size
      clear hb3 hB2 hcl hown x1 f1
      obtain ⟨bb, off, y0, y1, y2, e, -, hy, -, d1, d2⟩ := hIns.row.cells3 (j := i) (by have := hnI.out; omega)
      injection e with e
      injection e with e1 e2
      subst e1
      subst e2
      rw [in_at S.ins i (by have := hnI.out; omega)] at hy
      unfold inCells at hy
      simp only [List.cons.injEq, and_true] at hy
      obtain ⟨-, rfl, rfl⟩ := hy
      simp only [Int.toNat_natCast] at hr2
      rw [Nat.zero_add] at d1 d2
      generalize hlo0 : (S.ins[i]?.getD default).lo = lo0 at *
      generalize hhi0 : (S.ins[i]?.getD default).hi = hi0 at *
      replace hlo0 := hide hlo0
      replace hhi0 := hide hhi0
      have hgh : g ≠ w.heap.size := by omega
      have hW4 : ∃ W4, w3.setCell ⟨w.heap.size, 1, none⟩ (.slice (some ⟨g, 0, none⟩) n2 gc) = W4 := ⟨_, rfl⟩
      have x1 : w3.cell? ⟨w.heap.size, 1, none⟩ = some (.slice A2 n2 c2) := b0.out.cell 1
      have f1 : w3.frozen? ⟨w.heap.size, 1, none⟩ = false := b0.out.frozen 1
      have n0 := hide (show Blk (w3.setCell ⟨w.heap.size, 1, none⟩ (.slice (some ⟨g, 0, none⟩) n2 gc)) w.heap.size 25 #[.slice A n c, .slice (some ⟨g, 0, none⟩) n2 gc] by
        have := b0.out.set_ 1 (.slice (some ⟨g, 0, none⟩) n2 gc); simpa using this)
      have n1 := hide (b1.out.far (p := ⟨w.heap.size, 1, none⟩) (by simp) (.slice (some ⟨g, 0, none⟩) n2 gc))
      have n2' := hide (b2.out.far (p := ⟨w.heap.size, 1, none⟩) (by simp; omega) (.slice (some ⟨g, 0, none⟩) n2 gc))
      have n3 := hide (b3.out.far (p := ⟨w.heap.size, 1, none⟩) (by simp; omega) (.slice (some ⟨g, 0, none⟩) n2 gc))
      have n4 := hide (b4.out.far (p := ⟨w.heap.size, 1, none⟩) (by simp; omega) (.slice (some ⟨g, 0, none⟩) n2 gc))
      have hgb4 : (w3.setCell ⟨w.heap.size, 1, none⟩ (.slice (some ⟨g, 0, none⟩) n2 gc)).heap[g]? = w3.heap[g]? := Below.heap_setCell _ _ _ _ (by simpa using hgh)
      have nI := hide (hIns.blk hgb4)
      have m1 : (w3.setCell ⟨w.heap.size, 1, none⟩ (.slice (some ⟨g, 0, none⟩) n2 gc)).cell? ⟨g, i * 3 + 1, none⟩ = some (.int .i64 lo0) := (World.cell?_of_block hgb4).trans d1
      have m2 : (w3.setCell ⟨w.heap.size, 1, none⟩ (.slice (some ⟨g, 0, none⟩) n2 gc)).cell? ⟨g, i * 3 + 1 + 1, none⟩ = some (.int .i64 hi0) := (World.cell?_of_block hgb4).trans d2
      have hB4 := hide (hB3.out.setCell (p := ⟨w.heap.size, 1, none⟩) (Nat.le_refl _) (.slice (some ⟨g, 0, none⟩) n2 gc))
      have z1 : (w3.setCell ⟨w.heap.size, 1, none⟩ (.slice (some ⟨g, 0, none⟩) n2 gc)).cell? ⟨w.heap.size, 1, none⟩ = some (.slice (some ⟨g, 0, none⟩) n2 gc) := n0.out.cell 1
      have z3 : (w3.setCell ⟨w.heap.size, 1, none⟩ (.slice (some ⟨g, 0, none⟩) n2 gc)).cell? ⟨w.heap.size + 1 + 1 + 1, 0, none⟩ = some (.int .i64 (i : Int)) := n3.out.cell 0
      have hiz : (i : Int) < (n2 : Int) := by omega
      have hs4 : (w3.setCell ⟨w.heap.size, 1, none⟩ (.slice (some ⟨g, 0, none⟩) n2 gc)).heap.size = w3.heap.size := by simp [World.setCell]
      clear b0 b1 b2 b3 b4 d1 d2 hIns hgb4 hB3
      replace hr2 := hide hr2
      go_wp2_with fail
      have hS5 := hide (show SevW w S A L E n c k cl m ce n2 gc g (w3.setCell ⟨w.heap.size, 1, none⟩ (.slice (some ⟨g, 0, none⟩) n2 gc)).heap.size i lo0 hi0 ((w3.setCell ⟨w.heap.size, 1, none⟩ (.slice (some ⟨g, 0, none⟩) n2 gc)).alloc (.cells #[.int .i64 lo0, .int .i64 hi0] 32)) from
        ⟨hB4.out.alloc hB4.out.size _, n0.out.alloc _, n1.out.alloc _, n2'.out.alloc _, n3.out.alloc _, n4.out.alloc _, blkNew rfl, S.ins, nI.out.blk (Below.heap_alloc _ _ _ nI.out.lt), S.ins[i]?.getD default, by rw [List.getElem?_eq_getElem (by have := hnI.out; omega)]; simp, rfl⟩)
      rw [hs4] at hS5
      have hb5 : w.heap.size + 1 + 1 + 1 + 1 < w3.heap.size := by omega
      clear m1 m2 z1 z3 x1 f1 n0 n1 n2' n3 n4 nI hB4
      generalize ((w3.setCell ⟨w.heap.size, 1, none⟩ (.slice (some ⟨g, 0, none⟩) n2 gc)).alloc (.cells #[.int .i64 lo0, .int .i64 hi0] 32)) = w5 at *
      have hcall := hide (fun W lo h' x (hx : -300 ≤ x ∧ x ≤ 300) (h : SevW w S A L E n c k cl m ce n2 gc g w3.heap.size i lo h' W) => h.call hnS.out (hR.out gc hgc) (by omega) hi hx hck hrk hek)
      generalize isTr S rs es i = p at *
      clear hck hrk hek hW4 hR hs4
      obtain ⟨N, hN⟩ : ∃ N, (hi0 + 1 - lo0).toNat = N := ⟨_, rfl⟩
      rw [hN] at hr2
      obtain ⟨r1, hr1⟩ : ∃ r1, firstUp p N lo0 = r1 := ⟨_, rfl⟩
      rw [hr1] at hr2
      replace hr1 := hide hr1
      replace hN := hide hN
      replace hib := hide hib
      go_loopg [] N (fun gg wr => ∃ lo : Int, Hid (SevW w S A L E n c k cl m ce n2 gc g w3.heap.size i lo hi0 wr) ∧ Hid (lo + gg = hi0 + 1 ∧ lo0 ≤ lo) ∧ Hid (firstUp p gg lo = r1))
      case atStart => exact ⟨lo0, hS5.out, ⟨by have := hN.out; have := hib.out; omega, Int.le_refl _⟩, hr1.out⟩
      case round =>
        obtain ⟨lo, hS, hlg, hf⟩ := hrel
        clear hS5
        obtain ⟨v0, v1, -, -⟩ := hS.out.bias
        by_cases hle : lo ≤ hi0
        · have hc1 := hide (hcall.out wr lo hi0 lo (by have := hlg.out; have := hib.out; omega) hS.out)
          obtain ⟨gp, rfl⟩ : ∃ gp, gk = gp + 1 := ⟨gk - 1, by have := hlg.out; omega⟩
          go_wp2_with fail
          refine hc1.out.mono ?_
          rintro e w6 ⟨rfl, hS6, hs6⟩
          have hf2 := hf.out
          unfold firstUp at hf2
          clear hc1 v0 v1 hS hf
          replace hS6 := hide hS6
          cases hp : p lo with
          | true =>
            rw [hp, if_pos rfl] at hf2
            subst hf2
            have hr3 := hr2.out
            rw [if_neg (by omega)] at hr3
            have hlt : ¬ hi0 < lo := by omega
            clear hr2 hr1
            obtain ⟨v0, v1, -, -⟩ := hS6.out.bias
            replace hr3 := hide hr3
            replace hp := hide hp
            go_wp2_with fail
            refine (isEmpty_any lo hi0 _).mono ?_
            rintro e w7 ⟨rfl, hb7⟩
            have hS7 := hide (hS6.out.below hb7)
            clear hS6 hb7 v0 v1 hs6
            go_wp2
            obtain ⟨r2, hr2⟩ : ∃ r2, lastDown p N hi0 = r2 := ⟨_, rfl⟩
            rw [hr2] at hr3
            obtain ⟨ex, hex⟩ : ∃ ex, gp + 1 + ex = N := ⟨N - (gp + 1), by have := hN.out; have := hlg.out; omega⟩
            have hr4 := hide (show lastDown p (gp + 1 + ex) hi0 = r2 by rw [hex]; exact hr2)
            clear hr2 hex hN
            go_loopg [] (gp + 1) (fun gg wr => ∃ hi : Int, Hid (SevW w S A L E n c k cl m ce n2 gc g w3.heap.size i lo hi wr) ∧ Hid (hi + 1 = lo + gg ∧ 1 ≤ gg ∧ hi ≤ hi0) ∧ Hid (lastDown p (gg + ex) hi = r2))
            case atStart => exact ⟨hi0, hS7.out, ⟨by have := hlg.out; omega, by omega, Int.le_refl _⟩, hr4.out⟩
            case round =>
              obtain ⟨hh, hS8, hhg, hld⟩ := hrel
              clear hS7 hr4
              obtain ⟨gq, rfl⟩ : ∃ gq, gk = gq + 1 := ⟨gk - 1, by have := hhg.out; omega⟩
              have hc1 := hide (hcall.out wr lo hh hh (by have := hlg.out; have := hib.out; have := hhg.out; omega) hS8.out)
              obtain ⟨v0, v1, -, -⟩ := hS8.out.bias
              have hld2 := hld.out
              rw [show gq + 1 + ex = (gq + ex) + 1 by omega] at hld2
              unfold lastDown at hld2
              replace hld2 := hide hld2
              go_wp2_with fail
              refine hc1.out.mono ?_
              rintro e w9 ⟨rfl, hS9, hs9⟩
              replace hS9 := hide hS9
              clear hc1 v0 v1 hS8 hld
              cases hph : p hh with
              | true =>
                have hld3 := hld2.out
                rw [hph, if_pos rfl] at hld3
                subst hld3
                have hr5 := hr3.out
                subst hr5
                obtain ⟨v0, v1, -, -⟩ := hS9.out.bias
                obtain ⟨q1, -, -, -, -, q6, -⟩ := hS9.out
                have x4 : w9.cell? ⟨w.heap.size + 1 + 1 + 1 + 1, 0, none⟩ = some (.int .i64 0) := q6.cell 0
                have x5 : w9.cell? ⟨w.heap.size + 1 + 1 + 1 + 1, 1, none⟩ = some (.int .i64 0) := q6.cell 1
                have f4 : w9.frozen? ⟨w.heap.size + 1 + 1 + 1 + 1, 0, none⟩ = false := q6.frozen 0
                have f5 : w9.frozen? ⟨w.heap.size + 1 + 1 + 1 + 1, 1, none⟩ = false := q6.frozen 1
                replace q1 := hide q1
                replace q6 := hide q6
                clear hS9 hs9 hph hr3 hld2
                go_wp2
                exact sev_end _ _ _ (w.heap.size + 1 + 1 + 1 + 1) lo hh 0 rfl rfl (set2 (lo := 0) (hi := 0) q6.out) ⟨rfl, (q1.out.setCell (by simp +arith) _).setCell (by simp +arith) _⟩
              | false =>
                have hld3 := hld2.out
                rw [hph, if_neg (by simp)] at hld3
                have hgq : 1 ≤ gq := by
                  rcases Nat.eq_zero_or_pos gq with h0 | h0
                  · subst h0
                    have : hh = lo := by have := hhg.out; omega
                    rw [this, hp.out] at hph; cases hph
                  · exact h0
                have ww : IntKind.i64.wrap (hh - 1) = hh - 1 := by have := hlg.out; have := hib.out; have := hhg.out; rw [IntKind.wrap_i64]; omega
                obtain ⟨v0, v1, f0, f1⟩ := hS9.out.bias
                have hS7 := hide (hS9.out.set hb5 1 (hh - 1) (.inr rfl))
                simp only [Nat.one_ne_zero, if_false] at hS7
                clear hS9 hph hld2
                replace hld3 := hide hld3
                go_wp2
                go_roundg gq
                case measure => omega
                case rel => exact ⟨hh - 1, hS7.out, ⟨by have := hhg.out; omega, hgq, by have := hhg.out; omega⟩, hld3.out⟩
          | false =>
            rw [hp, if_neg (by simp)] at hf2
            have ww : IntKind.i64.wrap (lo + 1) = lo + 1 := by have := hlg.out; have := hib.out; rw [IntKind.wrap_i64]; omega
            obtain ⟨v0, v1, f0, f1⟩ := hS6.out.bias
            have hS7 := hide (hS6.out.set hb5 0 (lo + 1) (.inl rfl))
            simp only [if_true] at hS7
            clear hS6 hp
            replace hf2 := hide hf2
            go_wp2
            go_roundg gp
            case measure => omega
            case rel => exact ⟨lo + 1, hS7.out, ⟨by have := hlg.out; omega, by have := hlg.out; omega⟩, hf2.out⟩
        · have hg0 : gk = 0 := by have := hlg.out; omega
          subst hg0
          have hf2 := hf.out
          unfold firstUp at hf2
          subst hf2
          have hr3 := hr2.out
          rw [if_pos (by omega)] at hr3
          subst hr3
          have hlt : hi0 < lo := by omega
          clear hr1 hr2 hf
          go_wp2_with fail
          refine (isEmpty_any lo hi0 _).mono ?_
          rintro e w7 ⟨rfl, hb7⟩
          have hS7 := hS.out.below hb7
          obtain ⟨q1, -, -, -, -, q6, -⟩ := hS7
          have x4 : w7.cell? ⟨w.heap.size + 1 + 1 + 1 + 1, 0, none⟩ = some (.int .i64 0) := q6.cell 0
          have x5 : w7.cell? ⟨w.heap.size + 1 + 1 + 1 + 1, 1, none⟩ = some (.int .i64 0) := q6.cell 1
          have f4 : w7.frozen? ⟨w.heap.size + 1 + 1 + 1 + 1, 0, none⟩ = false := q6.frozen 0
          have f5 : w7.frozen? ⟨w.heap.size + 1 + 1 + 1 + 1, 1, none⟩ = false := q6.frozen 1
          replace q1 := hide q1
          replace q6 := hide q6
          clear hb7 v0 v1 hS
          go_wp2
          exact sev_end _ _ _ (w.heap.size + 1 + 1 + 1 + 1) 0 0 9 rfl rfl (set2 (lo := 0) (hi := 0) q6.out) ⟨rfl, (q1.out.setCell (by simp +arith) _).setCell (by simp +arith) _⟩
  · have hr1 := hr.out
    rw [if_neg h2] at hr1
    subst hr1
    have hb1 : (q == 0) = false := by rw [beq_eq_false_iff_ne]; exact h2
    have hb2 : (q != 0) = true := by rw [bne_iff_ne]; exact h2
    replace h2 := hide h2
    go_wp2
    exact sev_end _ _ _ (w.heap.size + 1 + 1 + 1 + 1) 0 0 q rfl rfl (set2 (lo := 0) (hi := 0) b4.out) ⟨rfl, (hB1.out.setCell (by simp +arith) _).setCell (by simp +arith) _⟩
end Go.Proofs.Ytkhijdbigpaagaa

/-
  A range over a function whose iterator keeps cells of its own.
-/
namespace Go.Proofs.Ytkhijdbigpaagaa
open Go.RowKit Go.Shelf RG

/-- Whatever is cells lies as it lay. -/
def KC (W W' : World) : Prop := W.heap.size ≤ W'.heap.size ∧ ∀ (k : Nat) (cs : Array Value) (t : TypeId) (f : Nat × Nat), W.heap[k]? = some (Obj.cells cs t f) → W'.heap[k]? = some (Obj.cells cs t f)
theorem KC.refl (W : World) : KC W W := ⟨Nat.le_refl _, fun _ _ _ _ h => h⟩
theorem KC.trans {X Y Z : World} (h : KC X Y) (k : KC Y Z) : KC X Z := ⟨Nat.le_trans h.1 k.1, fun i cs t f hi => k.2 i cs t f (h.2 i cs t f hi)⟩
theorem KC.grown {W W' : World} (h : W.grownBy W' none) : KC W W' := ⟨h.size, fun k cs t f hk => (h.block k (Array.getElem?_eq_some_iff.1 hk).1 (by simp)).trans hk⟩
theorem KC.below {W W' : World} (h : Below W.heap.size W W') : KC W W' := KC.grown ⟨h.os, h.tape, h.output, h.size, fun k hk _ => h.block k hk⟩
theorem KC.put {W : World} {l : Nat} {o : Obj} (o' : Obj) (hl : W.heap[l]? = some o) (ho : o.isCells = false) : KC W (W.putObj l o') := by
  have hg := grownBy_putObj' W l o'
  refine ⟨hg.size, fun k cs t f hk => ?_⟩
  by_cases e : k = l
  · subst e; rw [hl] at hk; cases hk; cases ho
  · exact (hg.block k (Array.getElem?_eq_some_iff.1 hk).1 (fun h => e (by cases h; rfl))).trans hk
theorem KC.blk {W W' : World} (h : KC W W') {b : Nat} {t : TypeId} {cs : Array Value} (hb : Blk W b t cs) : Blk W' b t cs := h.2 _ _ _ _ hb

/-- An iterator that may write what it lays itself: J abides whatever happens to blocks that are laid later; the round keeps all cells. -/
def SeqOwn {α : Type} (n gf : Nat) (lb : Array Value) (encs : α → Array Value) (Px : α → World → Prop) (S Sp : List α → Prop) (w0 : World) : Prop :=
  ∀ (l : Nat) (J Jx : List α → World → Prop) (W : World), Below w0.heap.size w0 W → (∀ s X Y, J s X → Below W.heap.size X Y → J s Y) → (∀ s X Y, Jx s X → X.grownBy Y none → Jx s Y) →
    (∀ pre x W1, J pre W1 → Px x W1 → YieldAt Fence.wide (n - 1) Try.prog l (encs x) W1 fun e W' => (e = .returned (.bool true) ∧ J (pre ++ [x]) W' ∧ KC W1 W') ∨ (e = .returned (.bool false) ∧ Jx (pre ++ [x]) W')) →
    J [] W →
    CallsIn Fence.wide n Try.prog gf (#[.func (.yield l) #[] #[]] ++ lb) W fun e W' => (∃ v, e = .returned v) ∧ ((∃ xs, S xs ∧ J xs W') ∨ ∃ pre, Sp pre ∧ Jx pre W')

theorem below_putObj {B l : Nat} (W : World) (o : Obj) (hs : B ≤ W.heap.size) (h : B ≤ l) : Below B W (W.putObj l o) := by
  have hg := grownBy_putObj' W l o
  exact ⟨hg.os, hg.tape, hg.output, hg.size, fun k hk => hg.block k (by omega) (by simp; omega)⟩

section
variable {α : Type} {n : Nat} {g : Operand} {ps : Array Tmp} {assign body : Code} {Q : Exit → Act → World → Prop} {a : Act} {w : World} {gf : Nat} {lb : Array Value} {encs : α → Array Value} {S Sp : List α → Prop} {Px : α → World → Prop}
/-- A loop over such an iterator. What holds between two rounds speaks of what lay before the loop alone. -/
theorem range_own (hg : a.eval g = .func (.func gf) #[] lb) (eg : ∀ args w, (callFunc gf args).run Try.prog w = .ok (.enter gf args) w)
    (hseq : SeqOwn (n - 1) gf lb encs Px S Sp w) (hPx : ∀ x X Y, Px x X → KC X Y → Px x Y) (hps : ∀ x, (encs x).size = ps.size)
    (I : List α → World → Prop) (Ix : Code → List α → World → Prop) (hsz : ∀ s X, I s X → w.heap.size ≤ X.heap.size) (hI : ∀ s X Y, I s X → Below w.heap.size X Y → I s Y) (hIx : ∀ c, OwnFrom w.heap.size (Ix c)) (h0 : I [] w) (a₁ : α → Act)
    (hassign : ∀ (l : Nat) (x : α) (W : World) (K : Act → World → Prop), K (a₁ x) W →
      assign.wpIn (Fence.wide.inRound l) (n - 1 - 1) Try.prog (Exit.then K (fun _ _ _ => False)) { tmps := (ps.zip (encs x)).foldl (fun t (p, v) => t.setIfInBounds p v) a.tmps, defers := [] } W)
    (hbody : ∀ (l : Nat) (pre : List α) (x : α) (W : World), I pre W → Px x W → body.wpIn (Fence.wide.inRound l) (n - 1 - 1) Try.prog (ownPostG w.heap.size KC I Ix (pre ++ [x]) W) (a₁ x) W)
    (hdone : ∀ (xs : List α) (W : World), S xs → I xs W → W.heap[w.heap.size]? = some (.deferred (some [])) → Q .normal { a with defers := { target := .collected w.heap.size, args := #[] } :: a.defers } W)
    (hstop : ∀ (c : Code) (pre : List α) (W : World), Sp pre → Ix c pre W → W.heap[w.heap.size]? = some (.deferred (some [])) → c.wpIn Fence.wide n Try.prog Q { a with defers := { target := .collected w.heap.size, args := #[] } :: a.defers } W) :
    (Code.rangeFunc g ps assign body).wpIn Fence.wide n Try.prog Q a w := by
  refine wpIn_rangeFunc fun fn hfn => ?_
  obtain ⟨mk, hmk⟩ : ∃ mk : LoopState → Option Code → Loop, mk = fun st pe => { state := st, pending := pe, fn, tmps := a.tmps, params := ps, assign, body, defers := w.heap.size } := ⟨_, rfl⟩
  obtain ⟨W1, hW1⟩ : ∃ W1, (w.alloc (.deferred (some []))).alloc (.loop (mk .ready none)) = W1 := ⟨_, rfl⟩
  have hs1 : W1.heap.size = w.heap.size + 2 := by rw [← hW1]; simp
  have hb1 : Below w.heap.size w W1 := by rw [← hW1]; exact ((Below.refl _ w).alloc (Nat.le_refl _) _).alloc (by simp) _
  have hl1 : W1.heap[w.heap.size + 1]? = some (.loop (mk .ready none)) := by
    rw [← hW1]; have := World.alloc_heap_new (w.alloc (.deferred (some []))) (.loop (mk .ready none)); rwa [World.size_alloc] at this
  have hd1 : W1.heap[w.heap.size]? = some (.deferred (some [])) := by
    rw [← hW1]; exact (Below.heap_alloc _ _ _ (by simp)).trans (World.alloc_heap_new w _)
  refine ⟨w.heap.size + 1, [{ target := .collected w.heap.size, args := #[] }], W1, { target := .fn (.func gf) lb, args := #[.func (.yield (w.heap.size + 1)) #[] #[]] }, W1, gf,
    #[.func (.yield (w.heap.size + 1)) #[] #[]] ++ lb, W1, ?_, ?_, ?_, ?_, (fun h => absurd h (by decide)), ?_⟩
  · rw [← hW1, hmk]; exact run_enterLoop_outer _ _ _ _ _
  · simp only [resolve, hg]
    simp [go_sem]
  · intro f' _; trivial
  · simp [invoke, go_sem, eg]
  · refine (hseq (w.heap.size + 1)
      (fun pre W => I pre W ∧ W.heap[w.heap.size + 1]? = some (.loop (mk .ready none)) ∧ W.heap[w.heap.size]? = some (.deferred (some [])))
      (fun pre W => ∃ c, Ix c pre W ∧ W.heap[w.heap.size + 1]? = some (.loop (mk .done (some c))) ∧ W.heap[w.heap.size]? = some (.deferred (some []))) W1 hb1 ?_ ?_ ?_ ⟨hI _ _ _ h0 hb1, hl1, hd1⟩).mono ?_
    · rintro s X Y ⟨h1, h2, h3⟩ hb
      exact ⟨hI _ _ _ h1 (hb.mono (by omega)), (hb.block _ (by omega)).trans h2, (hb.block _ (by omega)).trans h3⟩
    · rintro s X Y ⟨c, h1, h2, h3⟩ hb
      exact ⟨c, hIx c s X Y none h1 hb (fun r e => by cases e), (hb.block _ (Array.getElem?_eq_some_iff.1 h2).1 (by simp)).trans h2, (hb.block _ (Array.getElem?_eq_some_iff.1 h3).1 (by simp)).trans h3⟩
    · rintro pre x W ⟨hi, hl, hd⟩ hpx
      have hlt : w.heap.size + 1 < W.heap.size := (Array.getElem?_eq_some_iff.1 hl).1
      have hy := run_yield (P := Try.prog) (args := encs x) hl (by rw [hmk]; exact hps x)
      rw [hmk] at hy
      refine ⟨fn, _, assign, body, hy, roundIn_of_wpIn hfn (hassign _ x W _ ?_)⟩
      clear hy
      refine ⟨_, run_beginRound hl (by rw [hmk]), ?_⟩
      obtain ⟨W2, hW2⟩ : ∃ W2, W.putObj (w.heap.size + 1) (.loop { mk .ready none with state := .busy }) = W2 := ⟨_, rfl⟩
      have hl2 : W2.heap[w.heap.size + 1]? = some (.loop { mk .ready none with state := .busy }) := by rw [← hW2]; exact World.putObj_heap_same hlt
      have hd2 : W2.heap[w.heap.size]? = some (.deferred (some [])) := by rw [← hW2]; exact (World.putObj_heap_other (by omega)).trans hd
      have hk2 : KC W W2 := by rw [← hW2]; exact KC.put _ hl rfl
      have hi2 : I pre W2 := by rw [← hW2]; exact hI _ _ _ hi (below_putObj _ _ (by omega) (by omega))
      rw [hW2]
      refine wpIn_mono (hbody _ pre x W2 hi2 (hPx _ _ _ hpx hk2)) ?_
      have fin : ∀ (jump : Option Code) (W3 : World), KeepsFrom w.heap.size W2 W3 →
          (Instr.endRound (w.heap.size + 1) jump).run Try.prog W3 = .ok (.bool jump.isNone) (W3.putObj (w.heap.size + 1) (.loop (mk (if jump.isNone then .ready else .done) jump))) ∧
          W3.heap[w.heap.size + 1]? = some (.loop { mk .ready none with state := .busy }) ∧
          (W3.putObj (w.heap.size + 1) (.loop (mk (if jump.isNone then .ready else .done) jump))).heap[w.heap.size + 1]? = some (.loop (mk (if jump.isNone then .ready else .done) jump)) ∧
          (W3.putObj (w.heap.size + 1) (.loop (mk (if jump.isNone then .ready else .done) jump))).heap[w.heap.size]? = some (.deferred (some [])) := fun jump W3 hk3 => by
        have hl3 := hk3.same _ _ (by omega) hl2 rfl
        have hr := run_endRound (P := Try.prog) jump hl3
        have h3 := (Array.getElem?_eq_some_iff.1 hl3).1
        refine ⟨?_, hl3, World.putObj_heap_same h3, (World.putObj_heap_other (by omega)).trans (hk3.same _ _ (Nat.le_refl _) hd2 rfl)⟩
        rw [hmk] at hr ⊢
        exact hr
      rintro e a3 W3 hp
      cases e with
      | normal =>
        obtain ⟨hk3, hc3, hi3⟩ := hp
        obtain ⟨hr, hl3, hl4, hd4⟩ := fin none W3 hk3
        have := hsz _ _ hi3
        exact ⟨_, _, hr, .inl ⟨rfl, ⟨hI _ _ _ hi3 (below_putObj _ _ this (by omega)), hl4, hd4⟩, hk2.trans (hc3.trans (KC.put _ hl3 rfl))⟩⟩
      | ret =>
        obtain ⟨hk3, hi3⟩ := hp
        obtain ⟨hr, hl3, hl4, hd4⟩ := fin (some .ret) W3 hk3
        exact ⟨_, _, hr, .inr ⟨rfl, .ret, (hIx _).putObj _ hi3 (by omega) hl3 rfl, hl4, hd4⟩⟩
      | exit id =>
        obtain ⟨hk3, hi3⟩ := hp
        obtain ⟨hr, hl3, hl4, hd4⟩ := fin (some (.exit id)) W3 hk3
        exact ⟨_, _, hr, .inr ⟨rfl, .exit id, (hIx _).putObj _ hi3 (by omega) hl3 rfl, hl4, hd4⟩⟩
      | goto t =>
        obtain ⟨hk3, hi3⟩ := hp
        obtain ⟨hr, hl3, hl4, hd4⟩ := fin (some (.goto t)) W3 hk3
        exact ⟨_, _, hr, .inr ⟨rfl, .goto t, (hIx _).putObj _ hi3 (by omega) hl3 rfl, hl4, hd4⟩⟩
      | panic ch => exact hp.elim
      | outgrown => exact hp.elim
    · rintro e W2 ⟨⟨v, rfl⟩, (⟨xs, hS, hi, hl, hd⟩ | ⟨pre, hSp, c, hi, hl, hd⟩)⟩
      · have hr := run_endLoop (P := Try.prog) hl (by rw [hmk]; simp)
        rw [hmk] at hr
        exact ⟨none, _, hr, hdone xs _ hS (hI _ _ _ hi (below_putObj _ _ (hsz _ _ hi) (by omega))) ((World.putObj_heap_other (by omega)).trans hd)⟩
      · have hr := run_endLoop (P := Try.prog) hl (by rw [hmk]; simp)
        rw [hmk] at hr
        exact ⟨some c, _, hr, hstop c pre _ hSp ((hIx c).putObj _ hi (by omega) hl rfl) ((World.putObj_heap_other (by omega)).trans hd)⟩
end
end Go.Proofs.Ytkhijdbigpaagaa

/-
  Plans of lessons: all of them, those with fewer lessons first.
-/
namespace Go.Proofs.Ytkhijdbigpaagaa
def sumN : List Nat → Nat
  | [] => 0
  | x :: xs => x + sumN xs
def shareL : Nat → Nat → List (List Nat)
  | 0, _ => [[]]
  | k + 1, t => (List.range' (t - k * 8) (min t 8 + 1 - (t - k * 8))).flatMap fun n => (shareL k (t - n)).map (n :: ·)
def plansL (k : Nat) : List (List Nat) := (List.range (k * 8 + 1)).flatMap (shareL k)
theorem mem_shareL : ∀ {k t : Nat} {p : List Nat}, t ≤ k * 8 → (p ∈ shareL k t ↔ p.length = k ∧ sumN p = t ∧ ∀ x ∈ p, x ≤ 8)
  | 0, t, p, ht => by
    obtain rfl : t = 0 := by omega
    simp only [shareL, List.mem_singleton]
    constructor
    · rintro rfl; exact ⟨rfl, rfl, by simp⟩
    · rintro ⟨h, _⟩; exact List.length_eq_zero_iff.1 h
  | k + 1, t, p, ht => by
    simp only [shareL, List.mem_flatMap, List.mem_range'_1, List.mem_map]
    constructor
    · rintro ⟨n, ⟨h1, h2⟩, q, hq, rfl⟩
      obtain ⟨e1, e2, e3⟩ := (mem_shareL (by omega)).1 hq
      refine ⟨by simp [e1], by simp only [sumN]; omega, ?_⟩
      intro x hx
      rcases List.mem_cons.1 hx with rfl | hx
      · omega
      · exact e3 x hx
    · rintro ⟨e1, e2, e3⟩
      match p with
      | n :: q =>
        simp only [List.length_cons] at e1
        simp only [sumN] at e2
        have h8 := e3 n (List.mem_cons_self ..)
        have hq8 : ∀ x ∈ q, x ≤ 8 := fun x hx => e3 x (List.mem_cons_of_mem _ hx)
        have hs : sumN q ≤ q.length * 8 := by
          clear e1 e2 e3
          induction q with
          | nil => simp [sumN]
          | cons y ys ih =>
            have := hq8 y (List.mem_cons_self ..)
            have := ih fun x hx => hq8 x (List.mem_cons_of_mem _ hx)
            simp only [sumN, List.length_cons]; omega
        refine ⟨n, ⟨by omega, by omega⟩, q, (mem_shareL (by omega)).2 ⟨by omega, by omega, hq8⟩, rfl⟩
theorem mem_plansL {k : Nat} {p : List Nat} : p ∈ plansL k ↔ p.length = k ∧ ∀ x ∈ p, x ≤ 8 := by
  unfold plansL
  simp only [List.mem_flatMap, List.mem_range]
  constructor
  · rintro ⟨t, ht, h⟩
    have := (mem_shareL (by omega)).1 h
    exact ⟨this.1, this.2.2⟩
  · rintro ⟨h1, h2⟩
    have hs : sumN p ≤ p.length * 8 := by
      clear h1
      induction p with
      | nil => simp [sumN]
      | cons y ys ih =>
        have := h2 y (List.mem_cons_self ..)
        have := ih fun x hx => h2 x (List.mem_cons_of_mem _ hx)
        simp only [sumN, List.length_cons]; omega
    exact ⟨sumN p, by rw [← h1]; omega, (mem_shareL (by rw [← h1]; omega)).2 ⟨h1, rfl, h2⟩⟩
/-- Of two plans with as many lessons, the one compared skill by skill comes first. -/
def lexN : List Nat → List Nat → Prop
  | x :: xs, y :: ys => x < y ∨ x = y ∧ lexN xs ys
  | _, _ => False
theorem shareL_lex : ∀ {k t : Nat}, (shareL k t).Pairwise lexN
  | 0, t => by simp [shareL]
  | k + 1, t => by
    simp only [shareL]
    rw [List.pairwise_flatMap]
    refine ⟨fun n _ => ?_, ?_⟩
    · rw [List.pairwise_map]
      exact (shareL_lex (k := k) (t := t - n)).imp fun h => .inr ⟨rfl, h⟩
    · refine (List.pairwise_lt_range' (s := t - k * 8) (n := min t 8 + 1 - (t - k * 8))).imp ?_
      intro a b hab x hx y hy
      obtain ⟨q, _, rfl⟩ := List.mem_map.1 hx
      obtain ⟨r, _, rfl⟩ := List.mem_map.1 hy
      exact .inl hab
/-- The order of plans. -/
def planLt (p q : List Nat) : Prop := sumN p < sumN q ∨ sumN p = sumN q ∧ lexN p q
theorem plansL_lt (k : Nat) : (plansL k).Pairwise planLt := by
  unfold plansL
  rw [List.pairwise_flatMap]
  refine ⟨fun t ht => ?_, ?_⟩
  · have ht := List.mem_range.1 ht
    refine List.Pairwise.imp_of_mem ?_ (shareL_lex (k := k) (t := t))
    intro a b ha hb h
    have h1 := (mem_shareL (by omega)).1 ha
    have h2 := (mem_shareL (by omega)).1 hb
    exact .inr ⟨by rw [h1.2.1, h2.2.1], h⟩
  · refine List.Pairwise.imp_of_mem ?_ (List.pairwise_lt_range (n := k * 8 + 1))
    intro a b ha hb hab x hx y hy
    have ha := List.mem_range.1 ha
    have hb := List.mem_range.1 hb
    have h1 := (mem_shareL (by omega)).1 hx
    have h2 := (mem_shareL (by omega)).1 hy
    exact .inl (by rw [h1.2.1, h2.2.1]; exact hab)
/-- The first plan that is good: no good one comes before it. -/
theorem plans_some {k : Nat} {ok : List Nat → Bool} {p : List Nat} (h : (plansL k).find? ok = some p) :
    ok p = true ∧ p.length = k ∧ (∀ x ∈ p, x ≤ 8) ∧ ∀ q : List Nat, q.length = k → (∀ x ∈ q, x ≤ 8) → ok q = true → q = p ∨ planLt p q := by
  rw [List.find?_eq_some_iff_append] at h
  obtain ⟨h1, zs1, bs, e, h2⟩ := h
  have hp := mem_plansL.1 (show p ∈ plansL k by rw [e]; simp)
  refine ⟨h1, hp.1, hp.2, ?_⟩
  intro q hq1 hq2 hq3
  have hq := mem_plansL.2 ⟨hq1, hq2⟩
  rw [e] at hq
  have hs := plansL_lt k
  rw [e] at hs
  rcases List.mem_append.1 hq with hq | hq
  · have := h2 q hq
    rw [hq3] at this; simp at this
  · rcases List.mem_cons.1 hq with rfl | hq
    · exact .inl rfl
    · exact .inr ((List.pairwise_cons.1 (List.pairwise_append.1 hs).2.1).1 q hq)
theorem plans_none {k : Nat} {ok : List Nat → Bool} (h : (plansL k).find? ok = none) {q : List Nat} (h1 : q.length = k) (h2 : ∀ x ∈ q, x ≤ 8) : ok q = false := by
  rw [List.find?_eq_none] at h
  have := h q (mem_plansL.2 ⟨h1, h2⟩)
  simpa using this
end Go.Proofs.Ytkhijdbigpaagaa
