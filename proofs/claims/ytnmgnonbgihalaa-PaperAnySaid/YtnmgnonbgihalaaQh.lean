import Derived.Test.YtnmgnonbgihalaaPh
import Derived.Test.YtnmgnonbgihalaaQg
/-
  The rule of XRegCso, where some values are not known ahead: the word of the world may speak of them.
-/
namespace Go.Proofs.Ytnmgnonbgihalaa.RG
open Go

section
variable {P : Program}
def OneMx (P : Program) (l : List Oper) (L : List (Option Value)) (J : (Nat → Bool) → (Nat → Value) → World → Prop) (a0 : Act) (i : Nat) (o : Oper) : Prop :=
  decide (o.guard = none) = true ∧ ∀ (T : Act) (f : Nat → Bool) (y : Nat → Value) (W : World) (K : Act → World → Prop) (Q : Exit → Act → World → Prop), Fr l a0 y T → J f y W → f i = false →
    (∀ j, f j = false → y j = start l a0 j) → (∀ k o', f k = true → l[k]? = some o' → ∀ j, depB o'.after.toList j = true → f j = true) →
    (∀ j, depB o.after.toList j = true → f j = true ∧ ∀ v, L[j]? = some (some v) → y j = v) → (∀ v W', (∀ u, L[i]? = some (some u) → v = u) → J (fun k => decide (k = i) || f k) (upd y i v) W' → K (T.put o.dst v) W') → o.wp P T W K Q
def AllMx (P : Program) (l0 : List Oper) (L : List (Option Value)) (J : (Nat → Bool) → (Nat → Value) → World → Prop) (a0 : Act) : List Oper → Nat → Prop
  | [], _ => True
  | o :: r, i => OneMx P l0 L J a0 i o ∧ AllMx P l0 L J a0 r (i + 1)
def InvMx (l : List Oper) (L : List (Option Value)) (J : (Nat → Bool) → (Nat → Value) → World → Prop) (a0 : Act) (f : Nat → Bool) (y : Nat → Value) (W : World) : Prop :=
  (∀ i v, f i = true → L[i]? = some (some v) → y i = v) ∧ J f y W ∧ (∀ j, f j = false → y j = start l a0 j) ∧ ∀ k o', f k = true → l[k]? = some o' → ∀ j, depB o'.after.toList j = true → f j = true
theorem AllMx.all {l : List Oper} {L : List (Option Value)} {J : (Nat → Bool) → (Nat → Value) → World → Prop} {a0 : Act} (hok : okB l 0 = true) : ∀ (r : List Oper) (i : Nat), (∀ k o, r[k]? = some o → l[i + k]? = some o) → AllMx P l L J a0 r i → AllI P l.toArray (InvMx l L J a0) a0 r i
  | [], _, _, _ => trivial
  | o :: r, i, hl, h => by
    refine ⟨oneI_fr hok h.1.1 ?_, AllMx.all hok r (i + 1) (fun k o' hk => by have := hl (k + 1) o' (by simpa using hk); rwa [show i + (k + 1) = i + 1 + k by omega] at this) h.2⟩
    have hlo := hl 0 o rfl
    rw [Nat.add_zero] at hlo
    intro T f y W K Q Cv hF hI hf hd hV hK
    obtain ⟨h1, h2, h3, h4⟩ := hI
    have hdep : ∀ j, depB o.after.toList j = true → f j = true := fun j hj => by
      unfold depB at hj
      rw [List.any_eq_true] at hj
      obtain ⟨e, he, hb⟩ := hj
      simp only [Bool.and_eq_true, beq_iff_eq] at hb
      have h5 := hd e he hb.1
      rw [hb.2] at h5
      exact h5
    refine h.1.2 T f y W K Q hF h2 hf h3 h4 (fun j hj => ⟨hdep j hj, fun v hv => h1 j v (hdep j hj) hv⟩) (fun u W' hu hJ => ?_)
    refine hK _ _ (hV _ _ ⟨fun k v hk hv => ?_, hJ, fun j hj => ?_, fun k o' hk ho' j hj => ?_⟩)
    · unfold upd
      by_cases e : k = i
      · subst e; rw [if_pos rfl]; exact hu v hv
      · rw [if_neg e]; exact h1 k v (by simpa [e] using hk) hv
    · have e : j ≠ i := by rintro rfl; simp at hj
      unfold upd
      rw [if_neg e]
      exact h3 j (by simpa [e] using hj)
    · rw [Bool.or_eq_true]
      right
      by_cases e : k = i
      · subst e
        rw [hlo] at ho'; cases ho'
        exact hdep j hj
      · exact h4 k o' (by simpa [e] using hk) ho' j hj
/-- THE RULE. -/
theorem region_mx {id : Nat} {Q : Exit → Act → World → Prop} {a : Act} {w : World} {l : List Oper} (L : List (Option Value)) (J : (Nat → Bool) → (Nat → Value) → World → Prop)
    (hm : P.follows .mixedOrders = true) (hok : okB l 0 = true) (h0 : ∀ y, J (fun _ => false) y w.drew) (hall : AllMx P l L J a l 0)
    (hend : ∀ f y W, (∀ k, k < l.length → f k = true) → J f y W → (∀ k v, k < l.length → L[k]? = some (some v) → y k = v) → Q .normal (putAll l 0 y a) W) :
    (Code.region id l.toArray true).wp P Q a w :=
  region_inv_at (InvMx l L J a) hm hok ⟨fun _ _ h => (by cases h), h0 _, fun _ _ => rfl, fun _ _ h => (by cases h)⟩ (AllMx.all hok l 0 (fun k o hk => by rwa [Nat.zero_add]) hall) fun f y W hf hI => hend f y W hf hI.2.1 fun k v hk hv => hI.1 k v (hf k hk) hv
end
end Go.Proofs.Ytnmgnonbgihalaa.RG

/-
  Questions chosen by bits, no more of a part than wanted; a region that appends a number while other calls make memory.
-/
namespace Go.Proofs.Ytnmgnonbgihalaa
open Go.RowKit RG

def selX (B : Bank) (bt : Nat → Bool) : Nat → List Int
  | 0 => []
  | i + 1 => if bt i = true ∧ (cntX B (partAt B i) (selX B bt i) : Int) < B.wanted[partAt B i]?.getD 0 then selX B bt i ++ [(i : Int)] else selX B bt i
theorem selX_yes {B : Bank} {bt : Nat → Bool} {i : Nat} (h1 : bt i = true) (h2 : (cntX B (partAt B i) (selX B bt i) : Int) < B.wanted[partAt B i]?.getD 0) : selX B bt (i + 1) = selX B bt i ++ [(i : Int)] := if_pos ⟨h1, h2⟩
theorem selX_no {B : Bank} {bt : Nat → Bool} {i : Nat} (h : ¬ (bt i = true ∧ (cntX B (partAt B i) (selX B bt i) : Int) < B.wanted[partAt B i]?.getD 0)) : selX B bt (i + 1) = selX B bt i := if_neg h
theorem selX_fit (B : Bank) (bt : Nat → Bool) : ∀ i, (∀ x ∈ selX B bt i, 0 ≤ x ∧ x < (i : Int)) ∧ (selX B bt i).Pairwise (· < ·) ∧ (selX B bt i).length ≤ i
  | 0 => by simp [selX]
  | i + 1 => by
    obtain ⟨h1, h2, h3⟩ := selX_fit B bt i
    unfold selX
    split
    · refine ⟨fun x hx => ?_, ?_, ?_⟩
      · rcases List.mem_append.1 hx with hx | hx
        · have := h1 x hx; omega
        · rw [List.mem_singleton] at hx; omega
      · rw [List.pairwise_append]
        refine ⟨h2, List.pairwise_singleton _ _, fun a ha b hb => ?_⟩
        rw [List.mem_singleton] at hb
        have := h1 a ha
        omega
      · rw [List.length_append, List.length_singleton]; omega
    · exact ⟨fun x hx => by have := h1 x hx; omega, h2, by omega⟩
theorem levX_push (B : Bank) (xs : List Int) (i : Nat) : levX B (xs ++ [(i : Int)]) = levX B xs + wAt B i := by
  unfold levX
  rw [List.map_append, List.sum_append]
  simp
theorem cntX_push (B : Bank) (p : Nat) (xs : List Int) (i : Nat) : cntX B p (xs ++ [(i : Int)]) = cntX B p xs + if partAt B i = p then 1 else 0 := by
  unfold cntX
  rw [List.countP_append]
  simp
theorem cntXL_push {B : Bank} {xs : List Int} {i p : Nat} (hp : partAt B i = p) : (cntXL B xs).set p ((cntX B p xs : Int) + 1) = cntXL B (xs ++ [(i : Int)]) := by
  unfold cntXL
  refine List.ext_getElem (by simp) fun j h1 h2 => ?_
  rw [List.getElem_set]
  split
  · rename_i e
    subst e
    rw [List.getElem_map, List.getElem_range, cntX_push, if_pos hp]
    omega
  · rename_i e
    rw [List.getElem_map, List.getElem_range, List.getElem_map, List.getElem_range, cntX_push, if_neg (by omega)]
    omega
theorem lev_sel {B : Bank} (hB : BankOk B) (bt : Nat → Bool) (i : Nat) : 0 ≤ levX B (selX B bt i) ∧ levX B (selX B bt i) ≤ 1000 * i := by
  induction i with
  | zero => simp [selX, levX]
  | succ i ih =>
    have := wAt_bd hB i
    unfold selX
    split
    · rw [levX_push]; omega
    · omega
/-- Whether what was chosen is a paper. -/
theorem sel_isP {B : Bank} (h : errP B = 0) (bt : Nat → Bool) : isP B (selX B bt B.qs.length) = (decide (cntXL B (selX B bt B.qs.length) = B.wanted) && (decide (B.lo ≤ levX B (selX B bt B.qs.length)) && decide (levX B (selX B bt B.qs.length) ≤ B.hi))) := by
  obtain ⟨h1, h2, -⟩ := selX_fit B bt B.qs.length
  generalize selX B bt B.qs.length = xs at *
  rw [Bool.eq_iff_iff, isX_iff (err_ok h), Bool.and_eq_true, Bool.and_eq_true, decide_eq_true_eq, decide_eq_true_eq, decide_eq_true_eq]
  constructor
  · intro hx
    have hl := hx.lev
    unfold inLev at hl
    rw [inI_iff] at hl
    refine ⟨List.ext_getElem (cntXL_len B xs) fun p a b => ?_, hl⟩
    have h3 := cntXL_at B xs p b
    rw [List.getElem?_eq_getElem a, Option.getD_some] at h3
    have h4 := hx.cnt p b
    rw [List.getElem?_eq_getElem b, Option.getD_some] at h4
    rw [h3, h4]
  · rintro ⟨h3, h4⟩
    refine ⟨h1, h2, fun p hp => ?_, by unfold inLev; rw [inI_iff]; exact h4⟩
    rw [← cntXL_at B xs p hp, h3]
/-- A paper has a number. -/
theorem isP_at {B : Bank} (h : errP B = 0) {xs : List Int} (hx : isP B xs = true) : ∃ i, i < (papers B).length ∧ ppI B i = xs := by
  obtain ⟨q, rfl, hq⟩ := (isP_mem (err_ok h)).1 hx
  obtain ⟨i, hi, rfl⟩ := List.mem_iff_getElem.1 hq
  exact ⟨i, hi, by unfold ppI; rw [List.getElem?_eq_getElem hi]; rfl⟩
theorem numE_not {B : Bank} (h : errP B = 0) {xs : List Int} (hx : isP B xs = false) : numE B xs = 6 ∧ numV B xs = 0 := by
  have h1 : numE B xs = 6 := by rw [numE, if_neg (by simp [h]), if_pos hx]
  exact ⟨h1, by rw [numV, h1, if_neg (by decide)]⟩
/-- What a region that appends a number keeps. -/
structure AJ (w0 : World) (n0 : Nat) (lv : Value) (sel : List Int) (i : Int) (f : Nat → Bool) (y : Nat → Value) (W : World) : Prop where
  kept : KeptX (fun g => g < w0.heap.size ∧ lv.ownBlock ≠ some g) w0 W
  pre : f 3 = false → RowAt W (fun g => g < n0) 3 1 lv (sel.map iCells)
  post : f 3 = true → RowAt W (fun g => g < n0) 3 1 (y 3) ((sel ++ [i]).map iCells)
  one : f 2 = true → f 3 = false → ∃ g, y 2 = .slice (some ⟨g, 0, none⟩) 1 1 ∧ Blk W g 3 #[.int .i64 i]
  last : f 8 = true → f 3 = true ∧ y 8 = y 3
  dep : f 3 = true → f 2 = true
theorem AJ.start {w0 : World} {n0 : Nat} {lv : Value} {sel : List Int} {i : Int} (y : Nat → Value) (h : RowAt w0 (fun g => g < n0) 3 1 lv (sel.map iCells)) : AJ w0 n0 lv sel i (fun _ => false) y w0.drew :=
  ⟨⟨rfl, rfl, rfl, Nat.le_refl _, fun _ _ => rfl⟩, fun _ => h.below ((Below.refl _ _).drew), fun h => (by cases h), fun h => (by cases h), fun h => (by cases h), fun h => (by cases h)⟩
theorem AJ.below {w0 : World} {n0 : Nat} {lv : Value} {sel : List Int} {i : Int} {f : Nat → Bool} {y : Nat → Value} {W W' : World} (h : AJ w0 n0 lv sel i f y W) (hb : Below W.heap.size W W') : AJ w0 n0 lv sel i f y W' := by
  refine ⟨h.kept.trans ⟨hb.os, hb.tape, hb.output, hb.size, fun g hg => hb.block g (Nat.lt_of_lt_of_le hg.1 h.kept.size)⟩, fun e => (h.pre e).below hb, fun e => (h.post e).below hb, fun e e' => ?_, h.last, h.dep⟩
  obtain ⟨g, e1, e2⟩ := h.one e e'
  exact ⟨g, e1, e2.below hb e2.lt⟩
/-- An operation that is none of the three. -/
theorem AJ.other {w0 : World} {n0 : Nat} {lv : Value} {sel : List Int} {i : Int} {f : Nat → Bool} {y : Nat → Value} {W : World} (h : AJ w0 n0 lv sel i f y W) {j : Nat} (hj : j ≠ 2 ∧ j ≠ 3 ∧ j ≠ 8) (v : Value) :
    AJ w0 n0 lv sel i (fun k => decide (k = j) || f k) (upd y j v) W := by
  have f2 : (decide (2 = j) || f 2) = f 2 := by rw [decide_eq_false (fun e => hj.1 e.symm), Bool.false_or]
  have f3 : (decide (3 = j) || f 3) = f 3 := by rw [decide_eq_false (fun e => hj.2.1 e.symm), Bool.false_or]
  have f8 : (decide (8 = j) || f 8) = f 8 := by rw [decide_eq_false (fun e => hj.2.2 e.symm), Bool.false_or]
  have y2 : upd y j v 2 = y 2 := if_neg fun e => hj.1 e.symm
  have y3 : upd y j v 3 = y 3 := if_neg fun e => hj.2.1 e.symm
  have y8 : upd y j v 8 = y 8 := if_neg fun e => hj.2.2 e.symm
  exact ⟨h.kept, by rw [f3]; exact h.pre, by rw [f3, y3]; exact h.post, by rw [f2, f3, y2]; exact h.one, by rw [f8, f3, y8, y3]; exact h.last, by rw [f3, f2]; exact h.dep⟩
theorem AJ.built {w0 : World} {n0 : Nat} {lv : Value} {sel : List Int} {i : Int} {f : Nat → Bool} {y : Nat → Value} {W : World} (h : AJ w0 n0 lv sel i f y W) (h2 : f 2 = false) :
    AJ w0 n0 lv sel i (fun k => decide (k = 2) || f k) (upd y 2 (.slice (some ⟨W.heap.size, 0, none⟩) 1 1)) (W.alloc (.cells #[.int .i64 i] 3)) := by
  have hb : Below W.heap.size W (W.alloc (.cells #[.int .i64 i] 3)) := (Below.refl _ _).alloc (Nat.le_refl _) _
  have h3 : f 3 = false := by
    cases e : f 3 with
    | false => rfl
    | true => rw [h.dep e] at h2; cases h2
  have h' := h.below hb
  refine ⟨h'.kept, fun _ => h'.pre h3, fun e => ?_, fun _ _ => ⟨W.heap.size, rfl, blkNew rfl⟩, fun e => ?_, fun e => rfl⟩
  · have e' : f 3 = true := e
    rw [h3] at e'; cases e'
  · have := h.last e
    rw [h3] at this
    cases this.1
theorem AJ.app {w0 : World} {n0 : Nat} {lv : Value} {sel : List Int} {i : Int} {f : Nat → Bool} {y : Nat → Value} {W : World} (h : AJ w0 n0 lv sel i f y W) (hn : n0 ≤ w0.heap.size) (hl : sel.length ≤ 999999) (h2 : f 2 = true) (h3 : f 3 = false) :
    ∃ v' w4, (Builtin.append_ #[23, 23] 23 #[lv, y 2]).run Try.prog W = .ok v' w4 ∧ AJ w0 n0 lv sel i (fun k => decide (k = 3) || f k) (upd y 3 v') w4 := by
  obtain ⟨g, eg, hg⟩ := h.one h2 h3
  rw [eg]
  have hp := h.pre h3
  have hX : RowAt W (fun b => b < W.heap.size ∧ lv.ownBlock ≠ some b) 3 1 lv (sel.map iCells) := hp.mono fun b hb hx => hx.2 hb
  obtain ⟨v', w4, hrun, hrow, hk, -⟩ := app_row (ty := 23) Try.underlying23 infoInt rfl (by decide) (by decide) hX (fun b hb => hb.1) (A := some ⟨g, 0, none⟩) (m := 1) (c := 1) (ys := [iCells i])
    (rdRow_blk (xs := [iCells i]) (fun x hx => by rw [List.mem_singleton] at hx; subst hx; rfl) hg) (fun e => by cases e) (fun u hu => by
      have : u = .int .i64 i := by simpa [iCells] using hu
      subst this; rfl) (by rw [List.length_map]; omega)
  refine ⟨v', w4, hrun, ⟨h.kept.trans ⟨hk.os, hk.tape, hk.output, hk.size, fun b hb => hk.block b ⟨Nat.lt_of_lt_of_le hb.1 h.kept.size, hb.2⟩⟩, fun e => (by cases e), fun _ => ?_, fun _ e => (by cases e), fun e => ?_, fun _ => h2⟩⟩
  · have h9 := hrow.mono (Y := fun g => g < n0) fun b hb hlt => hrow.not b hb ⟨by have := h.kept.size; omega, fun e => hp.not b e hlt⟩
    show RowAt w4 _ 3 1 v' _
    rw [List.map_append]
    exact h9
  · have e' : f 8 = true := e
    have := (h.last e').1
    rw [h3] at this; cases this
theorem AJ.copied {w0 : World} {n0 : Nat} {lv : Value} {sel : List Int} {i : Int} {f : Nat → Bool} {y : Nat → Value} {W : World} (h : AJ w0 n0 lv sel i f y W) (h3 : f 3 = true) : AJ w0 n0 lv sel i (fun k => decide (k = 8) || f k) (upd y 8 (y 3)) W :=
  ⟨h.kept, h.pre, h.post, h.one, fun _ => ⟨h3, rfl⟩, h.dep⟩
end Go.Proofs.Ytnmgnonbgihalaa
