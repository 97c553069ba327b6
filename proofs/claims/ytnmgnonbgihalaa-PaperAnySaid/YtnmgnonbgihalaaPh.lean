import Derived.Test.YtnmgnonbgihalaaPg
import Derived.Test.YtnmgnonbgihalaaPf
import Derived.Test.YtnmgnonbgihalaaPb
/-
  The rule for a region whose order Go leaves open, by what each value says of the world, where some operations (a store, an append in its place) change what others say: each word lasts until the operation that uses it up.
-/
namespace Go.Proofs.Ytnmgnonbgihalaa.RG
open Go

section
variable {P : Program}
/-- What the k-th value says: before it is used up, and behind it. -/
def VB (L L2 : List (Value → World → Prop)) (b : Bool) (k : Nat) (v : Value) (w : World) : Prop := match b with
  | false => VL L k v w
  | true => VL L2 k v w
def flagQ (ql : List (Nat × Nat)) (f : Nat → Bool) (k : Nat) : Bool := match ql.lookup k with
  | none => false
  | some j => f j
def InvK (l : List Oper) (L L2 : List (Value → World → Prop)) (ql : List (Nat × Nat)) (w0 : World) (f : Nat → Bool) (y : Nat → Value) (w : World) : Prop :=
  (∀ k o, f k = true → l[k]? = some o → ∀ e ∈ o.after.toList, Region.binds .any e = true → f e.on = true) ∧ Go.RowKit.Below w0.heap.size w0 w ∧ ∀ k, f k = true → VB L L2 (flagQ ql f k) k (y k) w
/-- Each operation that uses a word up waits for it. -/
def qlB (l : List Oper) (ql : List (Nat × Nat)) : Bool := ql.all fun p => depE l p.1 p.2 && p.1 != p.2
/-- What an operation leans on is not used up by another. -/
def dqB (ql : List (Nat × Nat)) (i : Nat) (o : Oper) : Bool := o.after.toList.all fun e => !Region.binds .any e || (match ql.lookup e.on with | none => true | some j => j == i)
/-- An operation that changes more than it makes. -/
def OneS1 (P : Program) (ops : Array Oper) (L : List (Value → World → Prop)) (w0 : World) (a0 : Act) (i : Nat) (o : Oper) (Sp : (Nat → Value) → World → World → Prop) : Prop :=
  ∀ (y : Nat → Value) (w : World) (K : Act → World → Prop) (Q : Exit → Act → World → Prop) (Cv : Value → World → Prop), Go.RowKit.Below w0.heap.size w0 w → deps (VL L) y w o.after.toList →
    (∀ v w', Go.RowKit.Below w0.heap.size w0 w' → Sp y w w' → VL L i v w' → Cv v w') → (∀ v w', Cv v w' → K ((putAll ops.toList 0 y a0).put o.dst v) w') →
    if Region.wanted o (yielded ops (putAll ops.toList 0 y a0).tmps) then o.wp P (putAll ops.toList 0 y a0) w K Q else K ((putAll ops.toList 0 y a0).put o.dst undef) w
def OneS (P : Program) (ops : Array Oper) (L L2 : List (Value → World → Prop)) (ql : List (Nat × Nat)) (w0 : World) (a0 : Act) (i : Nat) (o : Oper) : Prop :=
  ∃ Sp : (Nat → Value) → World → World → Prop, OneS1 P ops L w0 a0 i o Sp ∧ ∀ y u u' k b, k ≠ i → Go.RowKit.Below w0.heap.size w0 u → Sp y u u' → VB L L2 b k (y k) u → (ql.lookup k = some i → b = false) → VB L L2 (b || decide (ql.lookup k = some i)) k (y k) u'
/-- The same, but for one word, on which it does not lean. -/
def dqX (ql : List (Nat × Nat)) (i : Nat) (o : Oper) (m : Nat) : Bool := o.after.toList.all fun e => !Region.binds .any e || e.on == m || (match ql.lookup e.on with | none => true | some j => j == i)
def OneK (P : Program) (ops : Array Oper) (L L2 : List (Value → World → Prop)) (ql : List (Nat × Nat)) (w0 : World) (a0 : Act) (i : Nat) (o : Oper) : Prop :=
  (∃ m, dqX ql i o m = true ∧ m ≠ i ∧ One P ops (Go.RowKit.Below w0.heap.size w0) (fun u u' => Go.RowKit.Below u.heap.size u u') (VL (L.set m fun _ _ => True)) a0 i o ∧ (∀ k, ql.lookup k = some i → ∀ v w, VL L k v w → VL L2 k v w)) ∨
  dqB ql i o = true ∧ (One P ops (Go.RowKit.Below w0.heap.size w0) (fun u u' => Go.RowKit.Below u.heap.size u u') (VL L) a0 i o ∧ (∀ k, ql.lookup k = some i → ∀ v w, VL L k v w → VL L2 k v w) ∨ OneS P ops L L2 ql w0 a0 i o)
theorem VL_set (L : List (Value → World → Prop)) (m k : Nat) (v : Value) (w : World) : VL (L.set m fun _ _ => True) k v w ↔ (k = m ∨ VL L k v w) := by
  induction L generalizing m k with
  | nil => simp [VL]
  | cons p r ih =>
    cases m with
    | zero =>
      cases k with
      | zero => simp [VL]
      | succ k => simp [VL]
    | succ m =>
      cases k with
      | zero => simp [VL]
      | succ k => rw [List.set_cons_succ]; simp only [VL]; rw [ih]; simp
def AllK (P : Program) (ops : Array Oper) (L L2 : List (Value → World → Prop)) (ql : List (Nat × Nat)) (w0 : World) (a0 : Act) : List Oper → Nat → Prop
  | [], _ => True
  | o :: r, i => OneK P ops L L2 ql w0 a0 i o ∧ AllK P ops L L2 ql w0 a0 r (i + 1)
theorem lookup_mem {ql : List (Nat × Nat)} {k j : Nat} (h : ql.lookup k = some j) : (k, j) ∈ ql := by
  induction ql with
  | nil => cases h
  | cons p r ih =>
    obtain ⟨a, b⟩ := p
    rw [List.lookup_cons] at h
    split at h
    · rename_i he
      have : k = a := by simpa using he
      subst this
      cases h
      exact List.mem_cons_self ..
    · exact List.mem_cons_of_mem _ (ih h)
theorem invK_one {l : List Oper} {L L2 : List (Value → World → Prop)} {ql : List (Nat × Nat)} {w0 : World} {a0 : Act} (hq : qlB l ql = true) (h1 : AllStb L) (h2 : AllStb L2) {i : Nat} {o : Oper} (ho : l[i]? = some o) (h : OneK P l.toArray L L2 ql w0 a0 i o) : OneI P l.toArray (InvK l L L2 ql w0) a0 i o := by
  intro f y w K Q Cv hI hf hdep hCv hK
  obtain ⟨hcl, hB, hv⟩ := hI
  -- what uses a word up waits for it
  have hql : ∀ k j, ql.lookup k = some j → f j = true → f k = true := by
    intro k j hl hj
    have := List.all_eq_true.1 hq _ (lookup_mem hl)
    simp only [Bool.and_eq_true] at this
    have h3 := this.1
    unfold depE at h3
    split at h3
    · rename_i o' ho'
      rw [List.any_eq_true] at h3
      obtain ⟨e, he, hb⟩ := h3
      simp only [Bool.and_eq_true, beq_iff_eq] at hb
      have := hcl j o' hj ho' e he hb.1
      rwa [hb.2] at this
    · cases h3
  have hne : ∀ k j, ql.lookup k = some j → k ≠ j := by
    intro k j hl
    have := List.all_eq_true.1 hq _ (lookup_mem hl)
    simp only [Bool.and_eq_true, bne_iff_ne, ne_eq] at this
    exact this.2
  have hd : dqB ql i o = true → deps (VL L) y w o.after.toList := fun hdq => deps_of _ fun e he hb => by
    have h3 := List.all_eq_true.1 hdq e he
    rw [hb, Bool.not_true, Bool.false_or] at h3
    have h4 := hv _ (hdep e he hb)
    unfold flagQ at h4
    cases hl : ql.lookup e.on with
    | none => rw [hl] at h4; exact h4
    | some j =>
      rw [hl] at h3 h4
      have : j = i := by simpa using h3
      subst this
      simp only [hf] at h4
      exact h4
  have hdx : ∀ m, dqX ql i o m = true → deps (VL (L.set m fun _ _ => True)) y w o.after.toList := fun m hdq => deps_of _ fun e he hb => by
    have h3 := List.all_eq_true.1 hdq e he
    rw [hb, Bool.not_true, Bool.false_or, Bool.or_eq_true] at h3
    rw [VL_set]
    rcases h3 with h3 | h3
    · exact .inl (by simpa using h3)
    · right
      have h4 := hv _ (hdep e he hb)
      unfold flagQ at h4
      cases hl : ql.lookup e.on with
      | none => rw [hl] at h4; exact h4
      | some j =>
        rw [hl] at h3 h4
        have : j = i := by simpa using h3
        subst this
        simp only [hf] at h4
        exact h4
  have hcl2 : ∀ k o', (decide (k = i) || f k) = true → l[k]? = some o' → ∀ e ∈ o'.after.toList, Region.binds .any e = true → (decide (e.on = i) || f e.on) = true := by
    intro k o' hk ho' e he hb
    rw [Bool.or_eq_true]
    right
    by_cases e' : k = i
    · subst e'
      rw [ho] at ho'; cases ho'
      exact hdep e he hb
    · exact hcl k o' (by simpa [e'] using hk) ho' e he hb
  have hself : flagQ ql (fun k => decide (k = i) || f k) i = false := by
    unfold flagQ
    cases hl : ql.lookup i with
    | none => rfl
    | some j =>
      have h3 : j ≠ i := fun e => hne i j hl e.symm
      have h4 : f j = false := by
        cases hj : f j with
        | false => rfl
        | true => rw [hql i j hl hj] at hf; cases hf
      simp [h3, h4]
  have hflag : ∀ k, flagQ ql (fun k => decide (k = i) || f k) k = (flagQ ql f k || decide (ql.lookup k = some i)) := by
    intro k
    unfold flagQ
    cases hl : ql.lookup k with
    | none => rfl
    | some j =>
      by_cases e : j = i
      · subst e; simp
      · simp [e]
  have hfl0 : ∀ k, ql.lookup k = some i → flagQ ql f k = false := by
    intro k hl
    unfold flagQ
    rw [hl]
    exact hf
  rcases h with ⟨m, hdq, hmi, hG, hcv⟩ | ⟨hdq, ⟨hG, hcv⟩ | ⟨Sp, hS, hsp⟩⟩
  · refine hG y w K Q Cv hB (hdx m hdq) (fun v w' hC hR hV => hCv v w' ⟨hcl2, hC, fun k hk => ?_⟩) hK
    by_cases e : k = i
    · subst e
      rw [hself]
      unfold upd
      rw [if_pos rfl]
      exact ((VL_set _ _ _ _ _).1 hV).resolve_left (fun e => hmi e.symm)
    · have hfk : f k = true := by simpa [e] using hk
      have h3 := hv k hfk
      unfold upd
      rw [if_neg e, hflag]
      by_cases hl : ql.lookup k = some i
      · rw [hfl0 k hl] at h3
        rw [decide_eq_true hl, Bool.or_true]
        exact hcv k hl _ _ (h1.at_ k _ _ _ hR h3)
      · rw [decide_eq_false hl, Bool.or_false]
        cases hb : flagQ ql f k with
        | false => rw [hb] at h3; exact h1.at_ k _ _ _ hR h3
        | true => rw [hb] at h3; exact h2.at_ k _ _ _ hR h3
  · refine hG y w K Q Cv hB (hd hdq) (fun v w' hC hR hV => hCv v w' ⟨hcl2, hC, fun k hk => ?_⟩) hK
    by_cases e : k = i
    · subst e
      rw [hself]
      unfold upd
      rw [if_pos rfl]
      exact hV
    · have hfk : f k = true := by simpa [e] using hk
      have h3 := hv k hfk
      unfold upd
      rw [if_neg e, hflag]
      by_cases hl : ql.lookup k = some i
      · rw [hfl0 k hl] at h3
        rw [decide_eq_true hl, Bool.or_true]
        exact hcv k hl _ _ (h1.at_ k _ _ _ hR h3)
      · rw [decide_eq_false hl, Bool.or_false]
        cases hb : flagQ ql f k with
        | false => rw [hb] at h3; exact h1.at_ k _ _ _ hR h3
        | true => rw [hb] at h3; exact h2.at_ k _ _ _ hR h3
  · refine hS y w K Q Cv hB (hd hdq) (fun v w' hC hR hV => hCv v w' ⟨hcl2, hC, fun k hk => ?_⟩) hK
    by_cases e : k = i
    · subst e
      rw [hself]
      unfold upd
      rw [if_pos rfl]
      exact hV
    · have hfk : f k = true := by simpa [e] using hk
      have h3 := hv k hfk
      unfold upd
      rw [if_neg e, hflag]
      exact hsp y w w' k _ e hB hR h3 (fun hl => hfl0 k hl)
theorem AllK.all {l : List Oper} {L L2 : List (Value → World → Prop)} {ql : List (Nat × Nat)} {w0 : World} {a0 : Act} (hq : qlB l ql = true) (h1 : AllStb L) (h2 : AllStb L2) : ∀ (r : List Oper) (i : Nat), (∀ k o, r[k]? = some o → l[i + k]? = some o) → AllK P l.toArray L L2 ql w0 a0 r i → AllI P l.toArray (InvK l L L2 ql w0) a0 r i
  | [], _, _, _ => trivial
  | o :: r, i, hl, h => ⟨invK_one hq h1 h2 (hl 0 o rfl) h.1, AllK.all hq h1 h2 r (i + 1) (fun k o' hk => by have := hl (k + 1) o' (by simpa using hk); rwa [show i + (k + 1) = i + 1 + k by omega] at this) h.2⟩
/-- THE RULE. -/
theorem region_vk {id : Nat} {Q : Exit → Act → World → Prop} {a : Act} {w : World} {l : List Oper} (L L2 : List (Value → World → Prop)) (ql : List (Nat × Nat))
    (hm : P.follows .mixedOrders = true) (hok : okB l 0 = true) (hq : qlB l ql = true) (h1 : AllStb L) (h2 : AllStb L2)
    (hall : AllK P l.toArray L L2 ql w a l 0)
    (hend : ∀ y w', Go.RowKit.Below w.heap.size w w' → (∀ k, k < l.length → VB L L2 (ql.lookup k).isSome k (y k) w') → Q .normal (putAll l 0 y a) w') :
    (Code.region id l.toArray true).wp P Q a w := by
  refine region_inv (InvK l L L2 ql w) hm hok (fun y => ⟨(fun k o hk => by cases hk), (Go.RowKit.Below.refl _ _).drew, (fun k hk => by cases hk)⟩) (AllK.all hq h1 h2 l 0 (fun k o hk => by rwa [Nat.zero_add]) hall) ?_
  rintro f y w' hf ⟨-, hB, hv⟩
  refine hend y w' hB fun k hk => ?_
  have h3 := hv k (hf k hk)
  unfold flagQ at h3
  cases hl : ql.lookup k with
  | none => rw [hl] at h3; exact h3
  | some j =>
    rw [hl] at h3
    have hj : j < l.length := by
      have := List.all_eq_true.1 hq _ (lookup_mem hl)
      simp only [Bool.and_eq_true] at this
      have h4 := this.1
      unfold depE at h4
      split at h4
      · rename_i o' ho'
        exact (List.getElem?_eq_some_iff.1 ho').1
      · cases h4
    simp only [hf j hj] at h3
    exact h3
end
end Go.Proofs.Ytnmgnonbgihalaa.RG

/-
  The rule of XRegVK: what an operation's obligation may know of the frame.
-/
namespace Go.Proofs.Ytnmgnonbgihalaa.RG
open Go

theorem ones_fr {P : Program} {l : List Oper} {L : List (Value → World → Prop)} {w0 : World} {a0 : Act} {i : Nat} {o : Oper} {Sp : (Nat → Value) → World → World → Prop} (hok : okB l 0 = true) (hg : decide (o.guard = none) = true)
    (h : ∀ (T : Act) (y : Nat → Value) (w : World) (K : Act → World → Prop) (Q : Exit → Act → World → Prop) (Cv : Value → World → Prop), Fr l a0 y T → Go.RowKit.Below w0.heap.size w0 w → deps (VL L) y w o.after.toList →
      (∀ v w', Go.RowKit.Below w0.heap.size w0 w' → Sp y w w' → VL L i v w' → Cv v w') → (∀ v w', Cv v w' → K (T.put o.dst v) w') → o.wp P T w K Q) : OneS1 P l.toArray L w0 a0 i o Sp := by
  intro y w K Q Cv hC hd hV hK
  have hget : ∀ j d, atB l a0.tmps.size j d = true → (putAll l 0 y a0).tmps.getD d undef = y j := fun j d hb => by
    obtain ⟨⟨o, h1, h2⟩, h3⟩ := atB_of hb
    have := putAll_get l 0 y a0 j o d hok h1 h2 h3; rwa [Nat.zero_add] at this
  have hF : Fr l a0 y (putAll l.toArray.toList 0 y a0) := ⟨hget, fun d v h hv => (putAll_old l 0 y a0 d h).trans hv⟩
  have hw : Region.wanted o (yielded l.toArray (putAll l.toArray.toList 0 y a0).tmps) = true := by
    simp [Region.wanted, of_decide_eq_true hg]
  rw [if_pos hw]
  exact h _ y w K Q Cv hF hC hd hV hK
def depB (l : List Edge) (j : Nat) : Bool := l.any fun e => Region.binds .any e && e.on == j
theorem deps_all {V : Nat → Value → World → Prop} {y : Nat → Value} {w : World} {l : List Edge} (h : deps V y w l) : ∀ j, depB l j = true → V j (y j) w := by
  intro j hj
  induction l with
  | nil => cases hj
  | cons e r ih =>
    unfold depB at hj
    rw [List.any_cons, Bool.or_eq_true] at hj
    rcases hj with hj | hj
    · simp only [Bool.and_eq_true, beq_iff_eq] at hj
      have := h.1 hj.1
      rwa [hj.2] at this
    · exact ih h.2 hj
theorem lk1 {a b k i : Nat} (h : List.lookup k [(a, b)] = some i) : k = a ∧ b = i := by
  rw [List.lookup_cons] at h
  split at h
  · rename_i he
    exact ⟨by simpa using he, by simpa using h⟩
  · cases h
end Go.Proofs.Ytnmgnonbgihalaa.RG

/-
  The rule for a region whose order Go leaves open, all of whose values are known ahead, and whose world is told by what is listed.
-/
namespace Go.Proofs.Ytnmgnonbgihalaa.RG
open Go

section
variable {P : Program}
/-- The obligation of one operation. -/
def OneCst (P : Program) (l : List Oper) (L : List Value) (J : (Nat → Bool) → World → Prop) (a0 : Act) (i : Nat) (o : Oper) : Prop :=
  decide (o.guard = none) = true ∧ ∀ (T : Act) (f : Nat → Bool) (y : Nat → Value) (W : World) (K : Act → World → Prop) (Q : Exit → Act → World → Prop), Fr l a0 y T → J f W → f i = false →
    (∀ j, depB o.after.toList j = true → f j = true ∧ ∀ v, L[j]? = some v → y j = v) → (∀ W', J (fun k => decide (k = i) || f k) W' → K (T.put o.dst (L[i]?.getD undef)) W') → o.wp P T W K Q
def AllCst (P : Program) (l0 : List Oper) (L : List Value) (J : (Nat → Bool) → World → Prop) (a0 : Act) : List Oper → Nat → Prop
  | [], _ => True
  | o :: r, i => OneCst P l0 L J a0 i o ∧ AllCst P l0 L J a0 r (i + 1)
def InvCst (L : List Value) (J : (Nat → Bool) → World → Prop) (f : Nat → Bool) (y : Nat → Value) (W : World) : Prop := (∀ i v, f i = true → L[i]? = some v → y i = v) ∧ J f W
theorem AllCst.all {l : List Oper} {L : List Value} {J : (Nat → Bool) → World → Prop} {a0 : Act} (hok : okB l 0 = true) : ∀ (r : List Oper) (i : Nat), AllCst P l L J a0 r i → AllI P l.toArray (InvCst L J) a0 r i
  | [], _, _ => trivial
  | o :: r, i, h => by
    refine ⟨oneI_fr hok h.1.1 ?_, AllCst.all hok r (i + 1) h.2⟩
    intro T f y W K Q Cv hF hI hf hd hV hK
    refine h.1.2 T f y W K Q hF hI.2 hf (fun j hj => ?_) (fun W' hJ => ?_)
    · unfold depB at hj
      rw [List.any_eq_true] at hj
      obtain ⟨e, he, hb⟩ := hj
      simp only [Bool.and_eq_true, beq_iff_eq] at hb
      have h1 := hd e he hb.1
      rw [hb.2] at h1
      exact ⟨h1, fun v hv => hI.1 j v h1 hv⟩
    · refine hK _ _ (hV _ _ ⟨fun k v hk hv => ?_, hJ⟩)
      unfold upd
      by_cases e : k = i
      · subst e; rw [if_pos rfl, hv]; rfl
      · rw [if_neg e]; exact hI.1 k v (by simpa [e] using hk) hv
/-- THE RULE. -/
theorem region_cst {id : Nat} {Q : Exit → Act → World → Prop} {a : Act} {w : World} {l : List Oper} (L : List Value) (J : (Nat → Bool) → World → Prop)
    (hm : P.follows .mixedOrders = true) (hok : okB l 0 = true) (h0 : J (fun _ => false) w.drew) (hall : AllCst P l L J a l 0)
    (hend : ∀ f y W, (∀ k, k < l.length → f k = true) → J f W → (∀ k v, k < l.length → L[k]? = some v → y k = v) → Q .normal (putAll l 0 y a) W) :
    (Code.region id l.toArray true).wp P Q a w :=
  region_inv (InvCst L J) hm hok (fun y => ⟨fun _ _ h => (by cases h), h0⟩) (AllCst.all hok l 0 hall) fun f y W hf hI => hend f y W hf hI.2 fun k v hk hv => hI.1 k v (hf k hk) hv
end
end Go.Proofs.Ytnmgnonbgihalaa.RG

/-
  The map of a view: what is known of stands; what is kept when it is written.
-/
namespace Go.Proofs.Ytnmgnonbgihalaa
open Go.RowKit RG
open Go.Maps (has_put_same has_put_other atKey_put_same atKey_put_other)

/-- The map in block M knows how many papers some stands become. -/
def KnownM (w : World) (M : Nat) (B : Bank) (m : Nat) : Prop :=
  ∃ D : DataW Unit, w.ownsMap Try.prog 113 (plainElem Try.prog 3) M m D ∧ ∀ k a b c d l, Wf6 k a b c d l → Maps.has D (litS k a b c d l) = true → ∃ j r : Nat, k = (j : Int) ∧ j + r = B.qs.length ∧ D.atKey (litS k a b c d l) (.lit (.int .i64 0)) = .lit (.int .i64 (countB B r j [a, b, c, d] l))
theorem KnownM.blk {w w' : World} {M m : Nat} {B : Bank} (h : KnownM w M B m) (hb : w'.heap[M]? = w.heap[M]?) : KnownM w' M B m := by
  obtain ⟨D, ⟨es, clock, h1, h2⟩, h3⟩ := h
  exact ⟨D, ⟨es, clock, hb.trans h1, h2⟩, h3⟩
theorem KnownM.lt {w : World} {M m : Nat} {B : Bank} (h : KnownM w M B m) : M < w.heap.size := by
  obtain ⟨D, h1, h3⟩ := h
  exact h1.lt
theorem KnownM.below {w w' : World} {M m : Nat} {B : Bank} (h : KnownM w M B m) (hb : Below w.heap.size w w') : KnownM w' M B m := h.blk (hb.block M h.lt)
theorem KnownM.more {w : World} {M m m' : Nat} {B : Bank} (h : KnownM w M B m) (hm : m ≤ m') : KnownM w M B m' := by
  obtain ⟨D, ⟨es, clock, h1, h2, h4, h5⟩, h3⟩ := h
  exact ⟨D, ⟨es, clock, h1, h2, Nat.le_trans h4 hm, h5⟩, h3⟩
theorem KnownM.map {w : World} {M m : Nat} {B : Bank} (h : KnownM w M B m) : ∃ es c, w.heap[M]? = some (.map es c) := by
  obtain ⟨D, ⟨es, clock, h1, _⟩, _⟩ := h
  exact ⟨es, clock, h1⟩
/-- A cell lies in no map's block. -/
theorem cell_nmap {w : World} {M b o : Nat} {v : Value} (h : ∃ es c, w.heap[M]? = some (.map es c)) (hc : w.cell? ⟨b, o, none⟩ = some v) : b ≠ M := by
  rintro rfl
  obtain ⟨es, c, h⟩ := h
  unfold World.cell? at hc
  rw [h] at hc
  simp at hc
theorem blk_nmap {w : World} {M g : Nat} {t : TypeId} {cs : Array Value} (h : ∃ es c, w.heap[M]? = some (.map es c)) (hb : Blk w g t cs) : g ≠ M := by
  rintro rfl
  obtain ⟨es, c, h⟩ := h
  unfold Blk at hb
  rw [h] at hb
  cases hb
/-- What is kept but for the map M: all blocks below n. -/
abbrev KeptM (n M : Nat) := KeptX (fun g => g < n ∧ g ≠ M)
theorem KeptM.of_below {n M : Nat} {w w' : World} (h : Below n w w') : KeptM n M w w' := ⟨h.os, h.tape, h.output, h.size, fun g hg => h.block g hg.1⟩
theorem KeptM.to_below {n M : Nat} {w w' : World} (h : KeptM n M w w') (hM : n ≤ M) : Below n w w' := ⟨h.os, h.tape, h.output, h.size, fun g hg => h.block g ⟨hg, by omega⟩⟩
theorem KeptM.mono {n n' M : Nat} {w w' : World} (h : KeptM n M w w') (hn : n' ≤ n) : KeptM n' M w w' := KeptX.mono h fun g hg => ⟨by omega, hg.2⟩
theorem RdRow.keptM {w w' : World} {M n k : Nat} {A : Option Addr} {xs : List (List Value)} (h : RdRow w A n k xs) (hm : ∃ es c, w.heap[M]? = some (.map es c)) (hk : KeptM w.heap.size M w w') (hk0 : 0 < k) : RdRow w' A n k xs := by
  refine ⟨h.1, h.2.1, fun hn => ?_⟩
  obtain ⟨b, off, e, hlt, hc⟩ := h.2.2 hn
  have hne : b ≠ M := by
    have hl := h.len hn
    obtain ⟨v, hv⟩ : ∃ v, (xs[0]?.getD [])[0]? = some v := ⟨_, List.getElem?_eq_getElem (by omega)⟩
    exact cell_nmap hm (hc 0 0 v hv)
  exact ⟨b, off, e, Nat.lt_of_lt_of_le hlt hk.size, fun j i v hv => (KeptX.cell hk (b := b) ⟨hlt, hne⟩).trans (hc j i v hv)⟩
theorem RdInts.keptM {w w' : World} {M n : Nat} {A : Option Addr} {xs : List Int} (h : RdInts w A n xs) (hm : ∃ es c, w.heap[M]? = some (.map es c)) (hk : KeptM w.heap.size M w w') : RdInts w' A n xs := by
  refine ⟨h.1, fun hn => ?_⟩
  obtain ⟨b, off, e, hlt, hc⟩ := h.2 hn
  have hne : b ≠ M := cell_nmap hm (hc 0 hn)
  exact ⟨b, off, e, Nat.lt_of_lt_of_le hlt hk.size, fun j hj => (KeptX.cell hk (b := b) ⟨hlt, hne⟩).trans (hc j hj)⟩
theorem VwR.keptM {w w' : World} {Q Wd : Option Addr} {gw gl M : Nat} {B : Bank} (h : VwR w Q Wd gw gl B) (hn : 0 < B.qs.length) (hm : ∃ es c, w.heap[M]? = some (.map es c)) (hk : KeptM w.heap.size M w w') : VwR w' Q Wd gw gl B := by
  have h1 : gw ≠ M := cell_nmap hm (h.wts 0 hn)
  have h2 : gl ≠ M := cell_nmap hm (h.left 0 0 (Nat.zero_le _) (by decide))
  exact ⟨h.qs.keptM hm hk (by decide), h.ws.keptM hm hk, fun k hk' => (KeptX.cell hk (b := gw) ⟨h.gw, h1⟩).trans (h.wts k hk'), fun k p hk' hp => (KeptX.cell hk (b := gl) ⟨h.gl, h2⟩).trans (h.left k p hk' hp), Nat.lt_of_lt_of_le h.gw hk.size, Nat.lt_of_lt_of_le h.gl hk.size⟩
/-- What is found in the map. -/
theorem known_put {w w' : World} {M m : Nat} {B : Bank} {D : DataW Unit} (h1 : w.ownsMap Try.prog 113 (plainElem Try.prog 3) M m D) (h3 : ∀ k a b c d l, Wf6 k a b c d l → Maps.has D (litS k a b c d l) = true → ∃ j r : Nat, k = (j : Int) ∧ j + r = B.qs.length ∧ D.atKey (litS k a b c d l) (.lit (.int .i64 0)) = .lit (.int .i64 (countB B r j [a, b, c, d] l)))
    {j r : Nat} {a b c d l : Int} (hw : Wf6 j a b c d l) (hr : j + r = B.qs.length) (h : w'.ownsMap Try.prog 113 (plainElem Try.prog 3) M (m + 1) (D.put (litS j a b c d l) (.lit (.int .i64 (countB B r j [a, b, c, d] l))))) : KnownM w' M B (m + 1) := by
  refine ⟨_, h, fun k' a' b' c' d' l' hw' hh => ?_⟩
  by_cases e : litS k' a' b' c' d' l' = litS j a b c d l
  · obtain ⟨rfl, rfl, rfl, rfl, rfl, rfl⟩ := litS_inj hw' hw e
    exact ⟨j, r, rfl, hr, atKey_put_same h1.isMap (litS_key hw) _ _⟩
  · rw [has_put_other e] at hh
    obtain ⟨j', r', h4, h5, h6⟩ := h3 _ _ _ _ _ _ hw' hh
    exact ⟨j', r', h4, h5, by rw [atKey_put_other e]; exact h6⟩
end Go.Proofs.Ytnmgnonbgihalaa

/-
  The rule of XRegCh (effects one behind the other) for a region of which the last operations wait for all the others: those by that rule, these one behind the other.
-/
namespace Go.Proofs.Ytnmgnonbgihalaa.RG
open Go

section
variable {P : Program}
/-- The obligation of one operation of the head. -/
def OneTI (P : Program) (ops : Array Oper) (hd : List Oper) (I : (Nat → Bool) → (Nat → Value) → World → Prop) (a0 : Act) (i : Nat) (o : Oper) : Prop :=
  ∀ (f : Nat → Bool) (y : Nat → Value) (w : World) (K : Act → World → Prop) (Q : Exit → Act → World → Prop) (Cv : Value → World → Prop), I f y w → f i = false → (∀ e ∈ o.after.toList, Region.binds .any e = true → f e.on = true) →
    (∀ v w', I (fun k => decide (k = i) || f k) (upd y i v) w' → Cv v w') → (∀ v w', Cv v w' → K ((putAll hd 0 y a0).put o.dst v) w') →
    if Region.wanted o (yielded ops (putAll hd 0 y a0).tmps) then o.wp P (putAll hd 0 y a0) w K Q else K ((putAll hd 0 y a0).put o.dst undef) w
def AllTI (P : Program) (ops : Array Oper) (hd : List Oper) (I : (Nat → Bool) → (Nat → Value) → World → Prop) (a0 : Act) : List Oper → Nat → Prop
  | [], _ => True
  | o :: r, i => OneTI P ops hd I a0 i o ∧ AllTI P ops hd I a0 r (i + 1)
theorem AllTI.get {ops : Array Oper} {hd : List Oper} {I : (Nat → Bool) → (Nat → Value) → World → Prop} {a0 : Act} :
    ∀ {l : List Oper} {i j : Nat} {o : Oper}, AllTI P ops hd I a0 l i → l[j]? = some o → OneTI P ops hd I a0 (i + j) o
  | [], _, _, _, _, hj => by simp at hj
  | o' :: r, i, 0, o, h, hj => by
    simp only [List.getElem?_cons_zero, Option.some.injEq] at hj
    subst hj; exact h.1
  | o' :: r, i, j + 1, o, h, hj => by
    simp only [List.getElem?_cons_succ] at hj
    have := AllTI.get h.2 hj
    rwa [show i + (j + 1) = i + 1 + j by omega]
theorem wpAny_inT {l : List Oper} {n : Nat} {I : (Nat → Bool) → (Nat → Value) → World → Prop} {a0 : Act} {Q : Exit → Act → World → Prop}
    (hB : tailB l n = true)
    (hall : AllTI P l.toArray (l.take n) I a0 (l.take n) 0)
    (hend : ∀ f y w, (∀ k, k < n → f k = true) → I f y w → wpList P l.toArray Q (l.drop n) (putAll (l.take n) 0 y a0) w) :
    ∀ (fuel : Nat) (listed : Array Bool) (y : Nat → Value) (w : World), HeadInv .any l.toArray n listed → cnt (fun j => !listed.getD j true) n = fuel →
      I (fun k => decide (k < n) && listed.getD k false) y w → wpAny P .any l.toArray Q (fuel + (l.length - n)) listed (putAll (l.take n) 0 y a0) w := by
  simp only [tailB, Bool.and_eq_true, decide_eq_true_eq] at hB
  obtain ⟨⟨⟨⟨hn, hs⟩, hc⟩, hseq⟩, hok⟩ := hB
  have hn' : n < l.toArray.size := by simpa using hn
  intro fuel
  induction fuel with
  | zero =>
    intro listed y w inv h0 hI
    have hl : ∀ j, j < n → listed.getD j true = true := fun j hj => by
      have := cnt_zero _ _ h0 j hj
      simpa using this
    have hsz : listed.size = l.length := by simpa using inv.size
    have hl' : ∀ j, j < n → listed.getD j false = true := fun j hj => by
      have := hl j hj
      simpa [Array.getD, hsz, show j < l.length by omega] using this
    have heq : listed = heads n l.length := by
      apply Array.ext
      · simp [heads, hsz]
      · intro j h1 h2
        by_cases hj : j < n
        · have := hl j hj
          simp only [Array.getD, h1, dite_true] at this
          simp [heads, hj]
          exact this
        · have := inv.tail j (by omega) (by simp; omega)
          simp only [Array.getD, h1, dite_true] at this
          simp [heads, hj]
          exact this
    have := wpAny_of_seq (P := P) (md := .any) (Q' := Q) (ops := l.toArray) (l.drop n) n listed (putAll (l.take n) 0 y a0) w (fun j => by simp [List.getElem?_drop]) (by rw [heq]; simpa using hseq)
      (hend _ y w (fun k hk => by simp [hk, hl' k hk]) hI)
    rw [List.length_drop] at this
    rw [Nat.zero_add]
    exact this
  | succ fuel ih =>
    intro listed y w inv hcnt hI
    have hex : ∃ i, i < n ∧ listed.getD i true = false := by
      by_cases hx : ∃ i, i < n ∧ listed.getD i true = false
      · exact hx
      · exfalso
        have : ∀ m, m ≤ n → cnt (fun j => !listed.getD j true) m = 0 := by
          intro m
          induction m with
          | zero => intro _; rfl
          | succ m ihm =>
            intro hm
            simp only [cnt]
            rw [ihm (by omega)]
            have : listed.getD m true = true := by
              cases h' : listed.getD m true with
              | true => rfl
              | false => exact absurd ⟨m, by omega, h'⟩ hx
            simp [this]
        have := this n (Nat.le_refl _)
        omega
    obtain ⟨i0, hi0, hl0⟩ := hex
    have hhead : ∀ t ∈ Region.ready .any l.toArray listed, t < n := fun t ht => by
      rcases Nat.lt_or_ge t n with h | h
      · exact h
      · exact absurd ht (tail_waits hs hc hn' inv _ i0 rfl hi0 hl0 t h)
    rw [show fuel + 1 + (l.length - n) = (fuel + (l.length - n)) + 1 by omega]
    refine ⟨fun hr => ?_, fun i hi => ?_⟩
    · exfalso
      have hfirst : ∃ j, j < n ∧ listed.getD j true = false ∧ ∀ k, k < j → listed.getD k true = true := by
        have : ∀ m, (∀ k, k < m → listed.getD k true = true) ∨ ∃ j, j < m ∧ listed.getD j true = false ∧ ∀ k, k < j → listed.getD k true = true := by
          intro m
          induction m with
          | zero => exact .inl fun k hk => by omega
          | succ m ihm =>
            rcases ihm with h | ⟨j, h1, h2, h3⟩
            · cases h' : listed.getD m true with
              | true =>
                refine .inl fun k hk => ?_
                by_cases e : k = m
                · subst e; exact h'
                · exact h k (by omega)
              | false => exact .inr ⟨m, by omega, h', h⟩
            · exact .inr ⟨j, by omega, h2, h3⟩
        rcases this n with h | h
        · rw [h i0 hi0] at hl0; cases hl0
        · exact h
      obtain ⟨j, hj, hlj, hbef⟩ := hfirst
      have hjl : j < l.length := by omega
      have hm : j ∈ Region.ready .any l.toArray listed := by
        rw [mem_ready]
        refine ⟨hlj, l[j], by simp [hjl], fun e he hbb => ?_⟩
        have : e.on < j := by
          have hac : ∀ (q : List Oper) (s : Nat) (m : Nat) (o : Oper), okB q s = true → q[m]? = some o → ∀ e ∈ o.after, Region.binds .any e = true → e.on < s + m := by
            intro q
            induction q with
            | nil => intro s m o _ hm; simp at hm
            | cons o' r ihr =>
              intro s m o h hm e he hbb
              obtain ⟨h1, _, h3⟩ := okB_cons h
              cases m with
              | zero => simp only [List.getElem?_cons_zero, Option.some.injEq] at hm; subst hm; exact h1 e he hbb
              | succ m =>
                simp only [List.getElem?_cons_succ] at hm
                have := ihr (s + 1) m o h3 hm e he hbb
                omega
          have := hac (l.take n) 0 j l[j] hok (by rw [List.getElem?_take_of_lt hj]; simp [hjl]) e he hbb
          omega
        have h2 := hbef e.on this
        have hsz : listed.size = l.length := by simpa using inv.size
        simpa [Array.getD, hsz, show e.on < l.length by omega] using h2
      rw [hr] at hm
      cases hm
    · have hin := hhead i hi
      have hi' := hi
      rw [mem_ready] at hi
      obtain ⟨hl, o, ho, hdep⟩ := hi
      have hsz : listed.size = l.length := by simpa using inv.size
      have hol : (l.take n)[i]? = some o := by rw [List.getElem?_take_of_lt hin]; simpa using ho
      have h1 := AllTI.get hall hol
      rw [Nat.zero_add] at h1
      have hset : (fun k => decide (k < n) && (listed.setIfInBounds i true).getD k false) = fun k => decide (k = i) || (decide (k < n) && listed.getD k false) := by
        funext k
        by_cases e : i = k
        · subst e; simp [Array.getD, Array.setIfInBounds, hsz, hin, show i < l.length by omega]
        · rw [getD_set_ne false e]
          simp [Ne.symm e]
      have hnext : ∀ v w', I (fun k => decide (k = i) || (decide (k < n) && listed.getD k false)) (upd y i v) w' → wpAny P .any l.toArray Q (fuel + (l.length - n)) (listed.setIfInBounds i true) ((putAll (l.take n) 0 y a0).put o.dst v) w' := by
        intro v w' hI'
        rw [putAll_upd (l.take n) 0 i y a0 o v hok hol, Nat.zero_add]
        refine ih _ _ _ (inv.set hi' hin) ?_ (by rw [hset]; exact hI')
        have hlt := cnt_lt (fun j => !listed.getD j true) (fun j => !(listed.setIfInBounds i true).getD j true) (fun j hj => by
          by_cases e : i = j
          · subst e; simp [Array.getD, Array.setIfInBounds, hsz, show i < l.length by omega] at hj
          · rw [getD_set_ne true e] at hj; exact hj) i (by simp [hl]) (by simp [Array.getD, Array.setIfInBounds, hsz, show i < l.length by omega]) n hin
        have hge := cnt_one (fun j => !listed.getD j true) (fun j => !(listed.setIfInBounds i true).getD j true) i (fun j hj => by
          show (!listed.getD j true) = (!(listed.setIfInBounds i true).getD j true)
          rw [getD_set_ne true (fun h => hj h.symm)])
        have := hge n
        omega
      have hfi : (decide (i < n) && listed.getD i false) = false := by
        have : listed.getD i false = false := by simpa [Array.getD, hsz, show i < l.length by omega] using hl
        rw [this, Bool.and_false]
      have h2 := h1 (fun k => decide (k < n) && listed.getD k false) y w (wpAny P .any l.toArray Q (fuel + (l.length - n)) (listed.setIfInBounds i true)) Q (fun v w' => I (fun k => decide (k = i) || (decide (k < n) && listed.getD k false)) (upd y i v) w') hI hfi (fun e he hb => by
        have he' : e ∈ o.after := by simpa using he
        have h3 := hdep e he' hb
        have hen : e.on < n := by
          rcases Nat.lt_or_ge e.on n with h | h
          · exact h
          · have := inv.tail e.on h
            have hb2 : e.on < l.toArray.size := by
              rcases Nat.lt_or_ge e.on listed.size with h' | h'
              · rw [← inv.size]; exact h'
              · simp [Array.getD, Nat.not_lt.2 h'] at h3
            have := this hb2
            simp [Array.getD, show e.on < listed.size by have := inv.size; omega] at this h3
            rw [this] at h3; cases h3
        simp [hen, h3]) (fun v w' h => h) (fun v w' h => hnext v w' h)
      unfold wpOp
      simp only [ho]
      split
      · rename_i hw; simp only [hw, if_true] at h2; exact .inl h2
      · rename_i hw; simp only [hw] at h2; exact h2
/-- The rule by an invariant, with a tail. -/
theorem region_inv_tail {id : Nat} {Q : Exit → Act → World → Prop} {a : Act} {w : World} {l : List Oper} (n : Nat) (I : (Nat → Bool) → (Nat → Value) → World → Prop)
    (hm : P.follows .mixedOrders = true) (hB : tailB l n = true) (h0 : ∀ y, I (fun _ => false) y w.drew)
    (hall : AllTI P l.toArray (l.take n) I a (l.take n) 0) (hend : ∀ f y w, (∀ k, k < n → f k = true) → I f y w → wpList P l.toArray Q (l.drop n) (putAll (l.take n) 0 y a) w) :
    (Code.region id l.toArray true).wp P Q a w := by
  have hn : n < l.length := by
    have := hB
    simp only [tailB, Bool.and_eq_true, decide_eq_true_eq] at this
    exact this.1.1.1.1
  refine wp_region_any hm ?_
  have hc0 : cnt (fun j => !(Array.replicate l.toArray.size false).getD j true) n = n := by
    have : ∀ m, m ≤ n → cnt (fun j => !(Array.replicate l.toArray.size false).getD j true) m = m := by
      intro m
      induction m with
      | zero => intro _; rfl
      | succ m ih =>
        intro hmn
        simp only [cnt]
        rw [ih (by omega)]
        have : (Array.replicate l.toArray.size false).getD m true = false := getD_in (by simp; omega) (getD_replicate_false _ _)
        have hb : (!(Array.replicate l.toArray.size false).getD m true) = true := by rw [this]; rfl
        rw [if_pos hb]
    exact this n (Nat.le_refl _)
  have := wpAny_inT (P := P) (l := l) (n := n) (I := I) (a0 := a) (Q := Q) hB hall hend n
    (Array.replicate l.toArray.size false) (start (l.take n) a) w.drew ⟨by simp, fun j oj _ hl => (by rw [getD_replicate_false] at hl; cases hl), fun t _ ht => getD_in (by simpa using ht) (getD_replicate_false _ _)⟩ hc0
    (by
      have h := h0 (start (l.take n) a)
      have e : (fun _ => false : Nat → Bool) = fun k => decide (k < n) && (Array.replicate l.toArray.size false).getD k false := by
        funext k; rw [getD_replicate_false, Bool.and_false]
      rw [e] at h
      exact h)
  rw [putAll_start (l.take n) 0 (start (l.take n) a) a (fun j o hj e he => by simp [start, hj, he])] at this
  rw [show n + (l.length - n) = l.toArray.size by simp; omega] at this
  exact this
/-- The obligation of an operation that leaves the world as it is. -/
def StillT (P : Program) (ops : Array Oper) (hd : List Oper) (L : List Value) (Ws : Nat → World) (E : List Nat) (a0 : Act) (i : Nat) (o : Oper) : Prop :=
  ∀ (y : Nat → Value) (j : Nat) (K : Act → World → Prop) (Q : Exit → Act → World → Prop), depsC L y o.after.toList → j ≤ mxE hd i E →
    K ((putAll hd 0 y a0).put o.dst (L.getD i undef)) (Ws j) →
    if Region.wanted o (yielded ops (putAll hd 0 y a0).tmps) then o.wp P (putAll hd 0 y a0) (Ws j) K Q else K ((putAll hd 0 y a0).put o.dst undef) (Ws j)
/-- That of the b-th effect. -/
structure EffT (P : Program) (ops : Array Oper) (hd : List Oper) (L : List Value) (Ws : Nat → World) (a0 : Act) (i : Nat) (o : Oper) (b : Nat) : Prop where
  out :
    ∀ (y : Nat → Value) (K : Act → World → Prop) (Q : Exit → Act → World → Prop), depsC L y o.after.toList →
      K ((putAll hd 0 y a0).put o.dst (L.getD i undef)) (Ws (b + 1)) →
      if Region.wanted o (yielded ops (putAll hd 0 y a0).tmps) then o.wp P (putAll hd 0 y a0) (Ws b) K Q else K ((putAll hd 0 y a0).put o.dst undef) (Ws b)
def OneCT (P : Program) (ops : Array Oper) (hd : List Oper) (L : List Value) (Ws : Nat → World) (E : List Nat) (a0 : Act) (i : Nat) (o : Oper) : Prop :=
  (i ∉ E ∧ StillT P ops hd L Ws E a0 i o) ∨ ∃ b, E[b]? = some i ∧ EffT P ops hd L Ws a0 i o b
def AllCT (P : Program) (ops : Array Oper) (hd : List Oper) (L : List Value) (Ws : Nat → World) (E : List Nat) (a0 : Act) : List Oper → Nat → Prop
  | [], _ => True
  | o :: r, i => OneCT P ops hd L Ws E a0 i o ∧ AllCT P ops hd L Ws E a0 r (i + 1)
theorem invCT_one {ops : Array Oper} {l : List Oper} {L : List Value} {Ws : Nat → World} {E : List Nat} {a0 : Act} (hE : chE l E = true) {i : Nat} {o : Oper} (ho : l[i]? = some o) (h : OneCT P ops l L Ws E a0 i o) : OneTI P ops l (InvC l L Ws E) a0 i o := by
  intro f y w K Q Cv hI hf hdep hCv hK
  obtain ⟨hv, hcl, j, hj, rfl, hl⟩ := hI
  have hd : depsC L y o.after.toList := depsC_of _ fun e he hb => hv _ (hdep e he hb)
  have hval : ∀ k, (decide (k = i) || f k) = true → upd y i (L.getD i undef) k = L.getD k undef := by
    intro k hk
    unfold upd
    by_cases e : k = i
    · subst e; rw [if_pos rfl]
    · rw [if_neg e]
      exact hv k (by simpa [e] using hk)
  have hcl2 : ∀ k o', (decide (k = i) || f k) = true → l[k]? = some o' → ∀ e ∈ o'.after.toList, Region.binds .any e = true → (decide (e.on = i) || f e.on) = true := by
    intro k o' hk ho' e he hb
    rw [Bool.or_eq_true]
    right
    by_cases e' : k = i
    · subst e'
      rw [ho] at ho'; cases ho'
      exact hdep e he hb
    · exact hcl k o' (by simpa [e'] using hk) ho' e he hb
  rcases h with ⟨hn, hs⟩ | ⟨b, hb, he⟩
  · have hjm : j ≤ mxE l i E := by
      have := mxE_ge (l := l) (i := i) (j := j) E 0 (by omega) (fun b e o' h1 h2 h3 => by
        obtain ⟨d, hd, hbb, hon⟩ := h3
        rcases Nat.lt_or_ge b j with hlt | hge
        · exfalso
          have h4 := hl b e h1
          rw [decide_eq_true hlt] at h4
          have h5 := hcl e o' h4 h2 d hd hbb
          rw [hon, hf] at h5
          cases h5
        · omega)
      simpa using this
    refine hs y j K Q hd hjm (hK _ _ (hCv _ _ ⟨hval, hcl2, j, hj, rfl, fun b i' hi' => ?_⟩))
    have : i' ≠ i := fun e => hn (e ▸ List.mem_of_getElem? hi')
    simp only [this, decide_false, Bool.false_or]
    exact hl b i' hi'
  · have h1 := hl b i hb
    rw [hf] at h1
    have hjb : j ≤ b := by simpa using h1.symm
    have hbl := (List.getElem?_eq_some_iff.1 hb).1
    have hjb2 : j = b := by
      rcases Nat.lt_or_ge j b with hlt | hge
      · exfalso
        have hb1 : E[b - 1]? = some E[b - 1] := List.getElem?_eq_getElem (by omega)
        obtain ⟨_, o', ho', e, he', hbb, hon⟩ := chE_step hE hb1 (by rw [show b - 1 + 1 = b by omega]; exact hb)
        rw [ho] at ho'
        cases ho'
        have h2 := hdep e he' hbb
        rw [hon] at h2
        have h3 := hl (b - 1) _ hb1
        rw [h2] at h3
        have : b - 1 < j := by simpa using h3.symm
        omega
      · omega
    subst hjb2
    refine he.out y K Q hd (hK _ _ (hCv _ _ ⟨hval, hcl2, j + 1, by omega, rfl, fun c i' hi' => ?_⟩))
    by_cases e : i' = i
    · subst e
      have := chE_inj hE hi' hb
      subst this
      simp
    · simp only [e, decide_false, Bool.false_or]
      rw [hl c i' hi']
      have : c ≠ j := fun e' => e (by subst e'; rw [hi'] at hb; exact Option.some.inj hb)
      rw [decide_eq_decide]
      omega
theorem AllCT.all {ops : Array Oper} {l : List Oper} {L : List Value} {Ws : Nat → World} {E : List Nat} {a0 : Act} (hE : chE l E = true) : ∀ (r : List Oper) (i : Nat), (∀ k o, r[k]? = some o → l[i + k]? = some o) → AllCT P ops l L Ws E a0 r i → AllTI P ops l (InvC l L Ws E) a0 r i
  | [], _, _, _ => trivial
  | o :: r, i, hl, h => ⟨invCT_one hE (hl 0 o rfl) h.1, AllCT.all hE r (i + 1) (fun k o' hk => by have := hl (k + 1) o' (by simpa using hk); rwa [show i + (k + 1) = i + 1 + k by omega] at this) h.2⟩
/-- THE RULE. -/
theorem region_chain_tail {id : Nat} {Q : Exit → Act → World → Prop} {a : Act} {w : World} {l : List Oper} (n : Nat) (E : List Nat) (L : List Value) (Ws : Nat → World)
    (hm : P.follows .mixedOrders = true) (hB : tailB l n = true) (hE : chE (l.take n) E = true) (hlt : E.all (fun i => decide (i < n)) = true) (h0 : Ws 0 = w.drew)
    (hall : AllCT P l.toArray (l.take n) L Ws E a (l.take n) 0) (hend : wpList P l.toArray Q (l.drop n) (putAll (l.take n) 0 (fun k => L.getD k undef) a) (Ws E.length)) :
    (Code.region id l.toArray true).wp P Q a w := by
  have hn : n < l.length := by
    have := hB
    simp only [tailB, Bool.and_eq_true, decide_eq_true_eq] at this
    exact this.1.1.1.1
  refine region_inv_tail n (InvC (l.take n) L Ws E) hm hB (fun y => ⟨fun k hk => (by cases hk), fun k o hk => (by cases hk), 0, Nat.zero_le _, h0.symm, fun b i hb => by simp⟩) (AllCT.all hE (l.take n) 0 (fun k o hk => by rwa [Nat.zero_add]) hall) ?_
  rintro f y w' hf ⟨hv, -, j, hj, rfl, hl⟩
  have hjE : j = E.length := by
    rcases Nat.lt_or_ge j E.length with h | h
    · exfalso
      have h1 := hl j E[j] (List.getElem?_eq_getElem h)
      rw [hf _ (by simpa using List.all_eq_true.1 hlt E[j] (List.getElem_mem h))] at h1
      simp at h1
    · omega
  subst hjE
  rw [putAll_congr (l.take n) 0 y (fun k => L.getD k undef) a fun k _ hk => hv k (hf k (by rw [List.length_take] at hk; omega))]
  exact hend
theorem oneT_still {ops : Array Oper} {hd : List Oper} {L : List Value} {Ws : Nat → World} {E : List Nat} {a0 : Act} {i : Nat} {o : Oper} (m : Nat) (hi : E.contains i = false) (hm : decide (mxE hd i E ≤ m) = true)
    (h : ∀ (y : Nat → Value) (j : Nat) (K : Act → World → Prop) (Q : Exit → Act → World → Prop), depsC L y o.after.toList → j ≤ m → K ((putAll hd 0 y a0).put o.dst (L.getD i undef)) (Ws j) →
      if Region.wanted o (yielded ops (putAll hd 0 y a0).tmps) then o.wp P (putAll hd 0 y a0) (Ws j) K Q else K ((putAll hd 0 y a0).put o.dst undef) (Ws j)) : OneCT P ops hd L Ws E a0 i o :=
  .inl ⟨fun hm => by (rw [← List.contains_iff_mem] at hm; rw [hm] at hi; exact absurd hi (by simp)), fun y j K Q hd hj hK => h y j K Q hd (Nat.le_trans hj (of_decide_eq_true hm)) hK⟩
theorem oneT_eff {ops : Array Oper} {hd : List Oper} {L : List Value} {Ws : Nat → World} {E : List Nat} {a0 : Act} {i : Nat} {o : Oper} (b : Nat) (hi : E[b]? = some i) (h : EffT P ops hd L Ws a0 i o b) : OneCT P ops hd L Ws E a0 i o := .inr ⟨b, hi, h⟩
theorem oneT_eff' {ops : Array Oper} {hd : List Oper} {L : List Value} {Ws : Nat → World} {E : List Nat} {a0 : Act} {i : Nat} {o : Oper} (b : Nat) (hi : E[b]? = some i) (h : ∀ (y : Nat → Value) (K : Act → World → Prop) (Q : Exit → Act → World → Prop), depsC L y o.after.toList →
    K ((putAll hd 0 y a0).put o.dst (L.getD i undef)) (Ws (b + 1)) →
    if Region.wanted o (yielded ops (putAll hd 0 y a0).tmps) then o.wp P (putAll hd 0 y a0) (Ws b) K Q else K ((putAll hd 0 y a0).put o.dst undef) (Ws b)) : OneCT P ops hd L Ws E a0 i o := .inr ⟨b, hi, ⟨h⟩⟩
/-- The effect of an append whose run is known. -/
theorem effT_append {ops : Array Oper} {hd : List Oper} {L : List Value} {Ws : Nat → World} {a0 : Act} {i b : Nat} {o : Oper} (s x : Operand) (t : TypeId)
    (ho : o.op = .call { callee := .builtin .append, args := #[s, x], argTypes := #[t, t] }) (v u : Value)
    (hs : ∀ y, depsC L y o.after.toList → (putAll hd 0 y a0).eval s = v) (hx : ∀ y, depsC L y o.after.toList → (putAll hd 0 y a0).eval x = u)
    (hw : ∀ y, depsC L y o.after.toList → Region.wanted o (yielded ops (putAll hd 0 y a0).tmps) = true)
    (hr : (Builtin.append_ #[t, t] o.type #[v, u]).run P (Ws b) = .ok (L.getD i undef) (Ws (b + 1))) : EffT P ops hd L Ws a0 i o b := by
  refine ⟨fun y K Q hd hK => ?_⟩
  rw [if_pos (hw y hd)]
  unfold Oper.wp execOp
  simp only [ho, resolve, invoke, builtin, Sem.run_bind, Sem.run_pure, Result.andThen_ok, List.map_toArray, List.map_cons, List.map_nil, hs y hd, hx y hd, hr]
  exact hK
end
end Go.Proofs.Ytnmgnonbgihalaa.RG
