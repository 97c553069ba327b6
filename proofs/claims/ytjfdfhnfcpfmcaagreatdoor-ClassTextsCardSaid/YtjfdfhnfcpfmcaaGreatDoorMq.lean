import Derived.Test.YtjfdfhnfcpfmcaaGreatDoorMa
import Derived.StillTail
/-
  The rule for a region whose order Go leaves open, by one invariant of what is listed, of the values and of the world.
-/
namespace Go.Proofs.YtjfdfhnfcpfmcaaGreatDoor.RG
open Go

section
variable {P : Program}
/-- The obligation of one operation. -/
def OneI (P : Program) (ops : Array Oper) (I : (Nat → Bool) → (Nat → Value) → World → Prop) (a0 : Act) (i : Nat) (o : Oper) : Prop :=
  ∀ (f : Nat → Bool) (y : Nat → Value) (w : World) (K : Act → World → Prop) (Q : Exit → Act → World → Prop) (Cv : Value → World → Prop), I f y w → f i = false → (∀ e ∈ o.after.toList, Region.binds .any e = true → f e.on = true) →
    (∀ v w', I (fun k => decide (k = i) || f k) (upd y i v) w' → Cv v w') → (∀ v w', Cv v w' → K ((putAll ops.toList 0 y a0).put o.dst v) w') →
    if Region.wanted o (yielded ops (putAll ops.toList 0 y a0).tmps) then o.wp P (putAll ops.toList 0 y a0) w K Q else K ((putAll ops.toList 0 y a0).put o.dst undef) w
def AllI (P : Program) (ops : Array Oper) (I : (Nat → Bool) → (Nat → Value) → World → Prop) (a0 : Act) : List Oper → Nat → Prop
  | [], _ => True
  | o :: r, i => OneI P ops I a0 i o ∧ AllI P ops I a0 r (i + 1)
theorem AllI.get {ops : Array Oper} {I : (Nat → Bool) → (Nat → Value) → World → Prop} {a0 : Act} :
    ∀ {l : List Oper} {i j : Nat} {o : Oper}, AllI P ops I a0 l i → l[j]? = some o → OneI P ops I a0 (i + j) o
  | [], _, _, _, _, hj => by simp at hj
  | o' :: r, i, 0, o, h, hj => by
    simp only [List.getElem?_cons_zero, Option.some.injEq] at hj
    subst hj; exact h.1
  | o' :: r, i, j + 1, o, h, hj => by
    simp only [List.getElem?_cons_succ] at hj
    have := AllI.get h.2 hj
    rwa [show i + (j + 1) = i + 1 + j by omega]
theorem wpAny_inv {ops : Array Oper} {I : (Nat → Bool) → (Nat → Value) → World → Prop} {a0 : Act} {Q : Exit → Act → World → Prop}
    (hok : okB ops.toList 0 = true) (hall : AllI P ops I a0 ops.toList 0)
    (hend : ∀ f y w, (∀ k, k < ops.size → f k = true) → I f y w → Q .normal (putAll ops.toList 0 y a0) w) :
    ∀ (fuel : Nat) (listed : Array Bool) (y : Nat → Value) (w : World), listed.size = ops.size → cnt (fun j => !listed.getD j true) ops.size ≤ fuel →
      I (fun k => listed.getD k false) y w → wpAny P .any ops Q fuel listed (putAll ops.toList 0 y a0) w := by
  have hdone : ∀ (listed : Array Bool) (y : Nat → Value) (w : World), listed.size = ops.size → I (fun k => listed.getD k false) y w →
      (∀ j, j < ops.size → listed.getD j true = true) → Q .normal (putAll ops.toList 0 y a0) w := by
    intro listed y w hs hI hl
    refine hend _ y w (fun k hk => ?_) hI
    have := hl k hk
    simpa [Array.getD, hs, hk] using this
  have hacyc : ∀ (l : List Oper) (i j : Nat) (o : Oper), okB l i = true → l[j]? = some o → ∀ e ∈ o.after, Region.binds .any e = true → e.on < i + j := by
    intro l
    induction l with
    | nil => intro i j o _ hj; simp at hj
    | cons o' r ih =>
      intro i j o h hj e he hbb
      obtain ⟨h1, _, h3⟩ := okB_cons h
      cases j with
      | zero => simp only [List.getElem?_cons_zero, Option.some.injEq] at hj; subst hj; exact h1 e he hbb
      | succ j =>
        simp only [List.getElem?_cons_succ] at hj
        have := ih (i + 1) j o h3 hj e he hbb
        omega
  have hready : ∀ (listed : Array Bool), listed.size = ops.size → Region.ready .any ops listed = [] → ∀ j, j < ops.size → listed.getD j true = true := by
    intro listed hs hr j
    induction j using Nat.strongRecOn with
    | ind j ih =>
      intro hj
      cases hl : listed.getD j true with
      | true => rfl
      | false =>
        have hm : j ∈ Region.ready .any ops listed := by
          rw [mem_ready]
          refine ⟨hl, ops[j], Array.getElem?_eq_getElem hj, fun e he hbb => ?_⟩
          have := hacyc ops.toList 0 j ops[j] hok (by simp [hj]) e he hbb
          have h2 := ih e.on (by omega) (by omega)
          simpa [Array.getD, hs, show e.on < ops.size by omega] using h2
        rw [hr] at hm
        cases hm
  intro fuel
  induction fuel with
  | zero =>
    intro listed y w hs hc hI
    have hall' : ∀ j, j < ops.size → listed.getD j true = true := fun j hj => by
      have := cnt_zero _ _ (Nat.le_zero.1 hc) j hj
      simpa using this
    refine ⟨?_, hdone listed y w hs hI hall'⟩
    rw [List.eq_nil_iff_forall_not_mem]
    intro j hj
    rw [mem_ready] at hj
    obtain ⟨h1, o, ho, _⟩ := hj
    have := hall' j (Array.getElem?_eq_some_iff.1 ho).1
    rw [h1] at this
    cases this
  | succ fuel ih =>
    intro listed y w hs hc hI
    refine ⟨fun hr => hdone listed y w hs hI (hready listed hs hr), fun i hi => ?_⟩
    rw [mem_ready] at hi
    obtain ⟨hl, o, ho, hdep⟩ := hi
    have hlt : i < ops.size := (Array.getElem?_eq_some_iff.1 ho).1
    have hol : ops.toList[i]? = some o := by simpa using ho
    have h1 := AllI.get hall hol
    rw [Nat.zero_add] at h1
    have hset : (fun k => (listed.setIfInBounds i true).getD k false) = fun k => decide (k = i) || listed.getD k false := by
      funext k
      by_cases e : i = k
      · subst e; simp [Array.getD, Array.setIfInBounds, hs, hlt]
      · rw [getD_set_ne false e]
        simp [Ne.symm e]
    have hnext : ∀ v w', I (fun k => decide (k = i) || listed.getD k false) (upd y i v) w' → wpAny P .any ops Q fuel (listed.setIfInBounds i true) ((putAll ops.toList 0 y a0).put o.dst v) w' := by
      intro v w' hI'
      rw [putAll_upd ops.toList 0 i y a0 o v hok hol, Nat.zero_add]
      refine ih _ _ _ (by simpa using hs) ?_ ?_
      · have := cnt_lt (fun j => !listed.getD j true) (fun j => !(listed.setIfInBounds i true).getD j true) (fun j hj => by
          by_cases e : i = j
          · subst e; simp [Array.getD, Array.setIfInBounds, hs, hlt] at hj
          · rw [getD_set_ne true e] at hj; exact hj) i (by simp [hl]) (by simp [Array.getD, Array.setIfInBounds, hs, hlt]) ops.size hlt
        omega
      · rw [hset]; exact hI'
    have hfi : listed.getD i false = false := by
      simpa [Array.getD, hs, hlt] using hl
    have h2 := h1 (fun k => listed.getD k false) y w (wpAny P .any ops Q fuel (listed.setIfInBounds i true)) Q (fun v w' => I (fun k => decide (k = i) || listed.getD k false) (upd y i v) w') hI hfi (fun e he hb => hdep e (by simpa using he) hb)
      (fun v w' h => h) (fun v w' h => hnext _ _ h)
    unfold wpOp
    simp only [ho]
    split
    · rename_i hw; simp only [hw, if_true] at h2; exact .inl h2
    · rename_i hw; simp only [hw] at h2; exact h2

/-- THE RULE by an invariant. -/
theorem region_inv {id : Nat} {Q : Exit → Act → World → Prop} {a : Act} {w : World} {l : List Oper} (I : (Nat → Bool) → (Nat → Value) → World → Prop)
    (hm : P.follows .mixedOrders = true) (hok : okB l 0 = true) (h0 : ∀ y, I (fun _ => false) y w.drew)
    (hall : AllI P l.toArray I a l 0) (hend : ∀ f y w, (∀ k, k < l.length → f k = true) → I f y w → Q .normal (putAll l 0 y a) w) :
    (Code.region id l.toArray true).wp P Q a w := by
  refine wp_region_any hm ?_
  have := wpAny_inv (P := P) (ops := l.toArray) (I := I) (a0 := a) (Q := Q) (by simpa using hok) (by simpa using hall) (by simpa using hend) l.toArray.size
    (Array.replicate l.toArray.size false) (start l a) w.drew (by simp) (cnt_le _ _) (by
      have h := h0 (start l a)
      have e : (fun _ => false : Nat → Bool) = fun k => (Array.replicate l.toArray.size false).getD k false := by
        funext k; rw [getD_replicate_false]
      rw [e] at h
      exact h)
  rw [show (l.toArray).toList = l by simp, putAll_start l 0 (start l a) a (fun j o hj e he => by simp [start, hj, he])] at this
  exact this
/-- The same, with what the slots hold at the start. -/
theorem region_inv_at {id : Nat} {Q : Exit → Act → World → Prop} {a : Act} {w : World} {l : List Oper} (I : (Nat → Bool) → (Nat → Value) → World → Prop)
    (hm : P.follows .mixedOrders = true) (hok : okB l 0 = true) (h0 : I (fun _ => false) (start l a) w.drew)
    (hall : AllI P l.toArray I a l 0) (hend : ∀ f y w, (∀ k, k < l.length → f k = true) → I f y w → Q .normal (putAll l 0 y a) w) :
    (Code.region id l.toArray true).wp P Q a w := by
  refine wp_region_any hm ?_
  have := wpAny_inv (P := P) (ops := l.toArray) (I := I) (a0 := a) (Q := Q) (by simpa using hok) (by simpa using hall) (by simpa using hend) l.toArray.size
    (Array.replicate l.toArray.size false) (start l a) w.drew (by simp) (cnt_le _ _) (by
      have e : (fun _ => false : Nat → Bool) = fun k => (Array.replicate l.toArray.size false).getD k false := by
        funext k; rw [getD_replicate_false]
      rw [e] at h0
      exact h0)
  rw [show (l.toArray).toList = l by simp, putAll_start l 0 (start l a) a (fun j o hj e he => by simp [start, hj, he])] at this
  exact this
end
end Go.Proofs.YtjfdfhnfcpfmcaaGreatDoor.RG
