import Derived.Orders
import Derived.Deep.Draws
import Derived.Below
import Derived.Tactics
import Derived.WalkKit
import Derived.Test.YtnmgnonbgihalaaProg
import Derived.IntWalk
import Derived.Lib.Hide
import Derived.Deep.QuietTactic
import Derived.BigQuiet
import Derived.BigGuardPart
import Derived.StillTailTactics
import Derived.Deep.RegionWith
import Derived.Deep.RegionHeld3
import Derived.Deep.DeepFit
import Derived.WalkSpells
import Derived.Deep.LoopGhost
import Derived.Deep.CutRange
import Derived.Deep.DeepCutAuto
import Derived.Shelf.SlicesQ.Load
/-
  A region whose order Go leaves open, of which each operation may allocate, call and read: one obligation an operation, whatever the order. Of no program.
-/
namespace Go.Proofs.Ytnmgnonbgihalaa.RG
open Go

section
variable {P : Program}

/-- The frame in which each operation's slot holds y's value for it. -/
def putAll : List Oper → Nat → (Nat → Value) → Act → Act
  | [], _, _, a => a
  | o :: r, i, y, a => putAll r (i + 1) y (a.put o.dst (y i))

def upd (y : Nat → Value) (i : Nat) (v : Value) : Nat → Value := fun k => if k = i then v else y k

/-- No two operations write the same slot, and none waits for a later one. -/
def okB : List Oper → Nat → Bool
  | [], _ => true
  | o :: r, i => (o.after.toList.all fun e => !Region.binds .any e || decide (e.on < i)) && (r.all fun o' => match o.dst, o'.dst with | some d, some d' => d != d' | _, _ => true) && okB r (i + 1)

theorem okB_cons {o : Oper} {r : List Oper} {i : Nat} (h : okB (o :: r) i = true) :
    (∀ e ∈ o.after, Region.binds .any e = true → e.on < i) ∧ (∀ o' ∈ r, ∀ d, o.dst = some d → o'.dst ≠ some d) ∧ okB r (i + 1) = true := by
  simp only [okB, Bool.and_eq_true, List.all_eq_true] at h
  obtain ⟨⟨h1, h2⟩, h3⟩ := h
  refine ⟨fun e he hb => by have := h1 e (by simpa using he); simpa [hb] using this, fun o' ho' d hd hd' => ?_, h3⟩
  have := h2 o' ho'
  rw [hd, hd'] at this
  simp at this

theorem putAll_put (l : List Oper) (i : Nat) (y : Nat → Value) (a : Act) (d : Option Tmp) (v : Value) (h : ∀ o ∈ l, ∀ e, d = some e → o.dst ≠ some e) :
    (putAll l i y a).put d v = putAll l i y (a.put d v) := by
  induction l generalizing i a with
  | nil => rfl
  | cons o r ih =>
    simp only [putAll]
    rw [ih (i + 1) _ (fun o' ho' => h o' (List.mem_cons_of_mem _ ho'))]
    rw [Act.put_comm a (y i) v (x := o.dst) (y := d) (fun e he hd => h o (List.mem_cons_self ..) e hd he)]

theorem put_put (a : Act) (d : Option Tmp) (v u : Value) : (a.put d v).put d u = a.put d u := by
  cases d <;> simp [Act.put]

theorem putAll_congr (l : List Oper) (i : Nat) (y y' : Nat → Value) (a : Act) (h : ∀ k, i ≤ k → k < i + l.length → y k = y' k) : putAll l i y a = putAll l i y' a := by
  induction l generalizing i a with
  | nil => rfl
  | cons o r ih =>
    simp only [putAll]
    rw [h i (Nat.le_refl _) (by simp), ih (i + 1) _ (fun k h1 h2 => h k (by omega) (by simp at *; omega))]

/-- An operation's result put into the frame. -/
theorem putAll_upd (l : List Oper) (i j : Nat) (y : Nat → Value) (a : Act) (o : Oper) (v : Value) (hok : okB l i = true) (hj : l[j]? = some o) :
    (putAll l i y a).put o.dst v = putAll l i (upd y (i + j) v) a := by
  induction l generalizing i j a with
  | nil => simp at hj
  | cons o' r ih =>
    obtain ⟨_, h2, h3⟩ := okB_cons hok
    cases j with
    | zero =>
      simp only [List.getElem?_cons_zero, Option.some.injEq] at hj
      subst hj
      simp only [putAll]
      rw [putAll_put r (i + 1) y _ o'.dst v (fun o hq e he hd => h2 o hq e he hd), put_put]
      rw [show upd y (i + 0) v i = v by simp [upd]]
      exact putAll_congr _ _ _ _ _ (fun k h4 _ => by simp [upd]; omega)
    | succ j =>
      simp only [List.getElem?_cons_succ] at hj
      simp only [putAll]
      rw [ih (i + 1) j _ h3 hj]
      rw [show upd y (i + (j + 1)) v i = y i by simp [upd], show i + (j + 1) = i + 1 + j by omega]

/-- What the slots hold at the start. -/
def start (l : List Oper) (a : Act) : Nat → Value := fun k => match l[k]? with | some o => (match o.dst with | some d => a.tmps.getD d undef | none => undef) | none => undef

theorem put_same (a : Act) (d : Option Tmp) (v : Value) (h : ∀ e, d = some e → v = a.tmps.getD e undef) : a.put d v = a := by
  cases d with
  | none => rfl
  | some e =>
    obtain ⟨t, ds⟩ := a
    have := h e rfl
    subst this
    simp only [Act.put]
    congr 1
    by_cases hlt : e < t.size
    · simp [Array.setIfInBounds, hlt, Array.getD]
    · simp [Array.setIfInBounds, hlt]

theorem putAll_start (l : List Oper) (i : Nat) (y : Nat → Value) (a : Act) (h : ∀ j o, l[j]? = some o → ∀ e, o.dst = some e → y (i + j) = a.tmps.getD e undef) : putAll l i y a = a := by
  induction l generalizing i with
  | nil => rfl
  | cons o r ih =>
    simp only [putAll]
    rw [put_same a o.dst (y i) (fun e he => h 0 o rfl e he)]
    exact ih (i + 1) (fun j o' hj e he => by have := h (j + 1) o' hj e he; rwa [show i + (j + 1) = i + 1 + j by omega] at this)

def cnt (p : Nat → Bool) : Nat → Nat
  | 0 => 0
  | n + 1 => cnt p n + if p n then 1 else 0
theorem cnt_le (p : Nat → Bool) (n : Nat) : cnt p n ≤ n := by
  induction n with
  | zero => simp [cnt]
  | succ n ih => simp only [cnt]; split <;> omega
theorem cnt_mono (p p' : Nat → Bool) (h : ∀ j, p' j = true → p j = true) (n : Nat) : cnt p' n ≤ cnt p n := by
  induction n with
  | zero => simp [cnt]
  | succ n ih =>
    simp only [cnt]
    have := h n
    split <;> split <;> simp_all <;> omega
theorem cnt_lt (p p' : Nat → Bool) (h : ∀ j, p' j = true → p j = true) (i : Nat) (hp : p i = true) (hp' : p' i = false) (n : Nat) (hi : i < n) : cnt p' n < cnt p n := by
  induction n with
  | zero => omega
  | succ n ih =>
    simp only [cnt]
    by_cases e : i = n
    · subst e
      have := cnt_mono p p' h i
      simp [hp, hp']; omega
    · have := ih (by omega)
      have := h n
      split <;> split <;> simp_all <;> omega
theorem cnt_zero (p : Nat → Bool) (n : Nat) (h : cnt p n = 0) : ∀ j, j < n → p j = false := by
  induction n with
  | zero => intro j hj; omega
  | succ n ih =>
    intro j hj
    simp only [cnt] at h
    by_cases e : j = n
    · subst e; cases hp : p j
      · rfl
      · simp [hp] at h
    · exact ih (by omega) j (by omega)

/-- What is known of y's values for the operations on the list. -/
def deps (V : Nat → Value → World → Prop) (y : Nat → Value) (w : World) : List Edge → Prop
  | [] => True
  | e :: r => (Region.binds .any e = true → V e.on (y e.on) w) ∧ deps V y w r
theorem deps_of {V : Nat → Value → World → Prop} {y : Nat → Value} {w : World} (l : List Edge) (h : ∀ e ∈ l, Region.binds .any e = true → V e.on (y e.on) w) : deps V y w l := by
  induction l with
  | nil => trivial
  | cons e r ih => exact ⟨h e (List.mem_cons_self ..), ih fun e' he' => h e' (List.mem_cons_of_mem _ he')⟩

/-- What an operation must leave. -/
def Out (C : World → Prop) (Rel : World → World → Prop) (Vi : Value → World → Prop) (a : Act) (d : Option Tmp) (w : World) (a' : Act) (w' : World) : Prop :=
  ∃ v, a' = a.put d v ∧ C w' ∧ Rel w w' ∧ Vi v w'

/-- The obligation of one operation. -/
def One (P : Program) (ops : Array Oper) (C : World → Prop) (Rel : World → World → Prop) (V : Nat → Value → World → Prop) (a0 : Act) (i : Nat) (o : Oper) : Prop :=
  ∀ (y : Nat → Value) (w : World) (K : Act → World → Prop) (Q : Exit → Act → World → Prop) (Cv : Value → World → Prop), C w → deps V y w o.after.toList →
    (∀ v w', C w' → Rel w w' → V i v w' → Cv v w') → (∀ v w', Cv v w' → K ((putAll ops.toList 0 y a0).put o.dst v) w') →
    if Region.wanted o (yielded ops (putAll ops.toList 0 y a0).tmps) then o.wp P (putAll ops.toList 0 y a0) w K Q else K ((putAll ops.toList 0 y a0).put o.dst undef) w

def All (P : Program) (ops : Array Oper) (C : World → Prop) (Rel : World → World → Prop) (V : Nat → Value → World → Prop) (a0 : Act) : List Oper → Nat → Prop
  | [], _ => True
  | o :: r, i => One P ops C Rel V a0 i o ∧ All P ops C Rel V a0 r (i + 1)
theorem All.get {ops : Array Oper} {C : World → Prop} {Rel : World → World → Prop} {V : Nat → Value → World → Prop} {a0 : Act} :
    ∀ {l : List Oper} {i j : Nat} {o : Oper}, All P ops C Rel V a0 l i → l[j]? = some o → One P ops C Rel V a0 (i + j) o
  | [], _, _, _, _, hj => by simp at hj
  | o' :: r, i, 0, o, h, hj => by
    simp only [List.getElem?_cons_zero, Option.some.injEq] at hj
    subst hj; exact h.1
  | o' :: r, i, j + 1, o, h, hj => by
    simp only [List.getElem?_cons_succ] at hj
    have := All.get h.2 hj
    rwa [show i + (j + 1) = i + 1 + j by omega]

/-- What is known of all values, operation by operation. -/
def Ends (V : Nat → Value → World → Prop) (y : Nat → Value) (w : World) : Nat → Nat → Prop
  | _, 0 => True
  | i, n + 1 => V i (y i) w ∧ Ends V y w (i + 1) n
theorem Ends.of {V : Nat → Value → World → Prop} {y : Nat → Value} {w : World} : ∀ (i n : Nat), (∀ k, i ≤ k → k < i + n → V k (y k) w) → Ends V y w i n
  | _, 0, _ => trivial
  | i, n + 1, h => ⟨h i (Nat.le_refl _) (by omega), Ends.of (i + 1) n fun k h1 h2 => h k (by omega) (by omega)⟩

theorem wpAny_rg {ops : Array Oper} {C : World → Prop} {Rel : World → World → Prop} {V : Nat → Value → World → Prop} {a0 : Act} {Q : Exit → Act → World → Prop}
    (hok : okB ops.toList 0 = true) (hst : ∀ k v w w', C w → C w' → Rel w w' → V k v w → V k v w')
    (hall : All P ops C Rel V a0 ops.toList 0)
    (hend : ∀ y w, C w → Ends V y w 0 ops.size → Q .normal (putAll ops.toList 0 y a0) w) :
    ∀ (fuel : Nat) (listed : Array Bool) (y : Nat → Value) (w : World), listed.size = ops.size → cnt (fun j => !listed.getD j true) ops.size ≤ fuel → C w →
      (∀ k, k < ops.size → listed.getD k false = true → V k (y k) w) → wpAny P .any ops Q fuel listed (putAll ops.toList 0 y a0) w := by
  have hdone : ∀ (listed : Array Bool) (y : Nat → Value) (w : World), listed.size = ops.size → C w → (∀ k, k < ops.size → listed.getD k false = true → V k (y k) w) →
      (∀ j, j < ops.size → listed.getD j true = true) → Q .normal (putAll ops.toList 0 y a0) w := by
    intro listed y w hs hC hV hl
    refine hend y w hC (Ends.of 0 _ fun k _ hk => hV k (by omega) ?_)
    have := hl k (by omega)
    simpa [Array.getD, hs, show k < ops.size by omega] using this
  have hacyc : ∀ (l : List Oper) (i j : Nat) (o : Oper), okB l i = true → l[j]? = some o → ∀ e ∈ o.after, Region.binds .any e = true → e.on < i + j := by
    intro l
    induction l with
    | nil => intro i j o _ hj; simp at hj
    | cons o' r ih =>
      intro i j o h hj e he hbb
      obtain ⟨h1, _, h3⟩ := okB_cons h
      cases j with
      | zero => simp only [List.getElem?_cons_zero, Option.some.injEq] at hj; subst hj; exact h1 e he hbb
      | succ j =>
        simp only [List.getElem?_cons_succ] at hj
        have := ih (i + 1) j o h3 hj e he hbb
        omega
  have hready : ∀ (listed : Array Bool), listed.size = ops.size → Region.ready .any ops listed = [] → ∀ j, j < ops.size → listed.getD j true = true := by
    intro listed hs hr j
    induction j using Nat.strongRecOn with
    | ind j ih =>
      intro hj
      cases hl : listed.getD j true with
      | true => rfl
      | false =>
        have hm : j ∈ Region.ready .any ops listed := by
          rw [mem_ready]
          refine ⟨hl, ops[j], Array.getElem?_eq_getElem hj, fun e he hbb => ?_⟩
          have := hacyc ops.toList 0 j ops[j] hok (by simp [hj]) e he hbb
          have h2 := ih e.on (by omega) (by omega)
          simpa [Array.getD, hs, show e.on < ops.size by omega] using h2
        rw [hr] at hm
        cases hm
  intro fuel
  induction fuel with
  | zero =>
    intro listed y w hs hc hC hV
    have hall' : ∀ j, j < ops.size → listed.getD j true = true := fun j hj => by
      have := cnt_zero _ _ (Nat.le_zero.1 hc) j hj
      simpa using this
    refine ⟨?_, hdone listed y w hs hC hV hall'⟩
    rw [List.eq_nil_iff_forall_not_mem]
    intro j hj
    rw [mem_ready] at hj
    obtain ⟨h1, o, ho, _⟩ := hj
    have := hall' j (Array.getElem?_eq_some_iff.1 ho).1
    rw [h1] at this
    cases this
  | succ fuel ih =>
    intro listed y w hs hc hC hV
    refine ⟨fun hr => hdone listed y w hs hC hV (hready listed hs hr), fun i hi => ?_⟩
    rw [mem_ready] at hi
    obtain ⟨hl, o, ho, hdep⟩ := hi
    have hlt : i < ops.size := (Array.getElem?_eq_some_iff.1 ho).1
    have hol : ops.toList[i]? = some o := by simpa using ho
    have h1 := All.get hall hol
    rw [Nat.zero_add] at h1
    have hnext : ∀ a' w', Out C Rel (V i) (putAll ops.toList 0 y a0) o.dst w a' w' → wpAny P .any ops Q fuel (listed.setIfInBounds i true) a' w' := by
      rintro a' w' ⟨v, rfl, hC', hR, hVi⟩
      rw [putAll_upd ops.toList 0 i y a0 o v hok hol, Nat.zero_add]
      refine ih _ _ _ (by simpa using hs) ?_ hC' (fun k hk hlk => ?_)
      · have := cnt_lt (fun j => !listed.getD j true) (fun j => !(listed.setIfInBounds i true).getD j true) (fun j hj => by
          by_cases e : i = j
          · subst e; simp [Array.getD, Array.setIfInBounds, hs, hlt] at hj
          · rw [getD_set_ne true e] at hj; exact hj) i (by simp [hl]) (by simp [Array.getD, Array.setIfInBounds, hs, hlt]) ops.size hlt
        omega
      · by_cases e : k = i
        · subst e; simpa [upd] using hVi
        · have : upd y i v k = y k := by simp [upd, e]
          rw [this]
          rw [getD_set_ne false (fun h => e h.symm)] at hlk
          exact hst k _ w w' hC hC' hR (hV k hk hlk)
    have h2 := h1 y w (wpAny P .any ops Q fuel (listed.setIfInBounds i true)) Q (fun v w' => C w' ∧ Rel w w' ∧ V i v w') hC (deps_of _ fun e he hb => by
      have he' : e ∈ o.after := by simpa using he
      have h3 := hdep e he' hb
      have hlt2 := hacyc ops.toList 0 i o hok hol e he' hb
      exact hV e.on (by omega) h3) (fun v w' a b c => ⟨a, b, c⟩) (fun v w' h => hnext _ _ ⟨v, rfl, h⟩)
    unfold wpOp
    simp only [ho]
    split
    · rename_i hw; simp only [hw, if_true] at h2; exact .inl h2
    · rename_i hw; simp only [hw] at h2; exact h2

/-- THE RULE. C: what holds of every world on the way; Rel: what an operation may do to the world; V i: what the i-th operation's value is (said in a way that lasts). -/
theorem region_rg {id : Nat} {Q : Exit → Act → World → Prop} {a : Act} {w : World} {l : List Oper} (C : World → Prop) (Rel : World → World → Prop) (V : Nat → Value → World → Prop)
    (hm : P.follows .mixedOrders = true) (hok : okB l 0 = true) (hC : C w.drew) (hst : ∀ k v w w', C w → C w' → Rel w w' → V k v w → V k v w')
    (hall : All P l.toArray C Rel V a l 0) (hend : ∀ y w, C w → Ends V y w 0 l.length → Q .normal (putAll l 0 y a) w) :
    (Code.region id l.toArray true).wp P Q a w := by
  refine wp_region_any hm ?_
  have := wpAny_rg (P := P) (ops := l.toArray) (C := C) (Rel := Rel) (V := V) (a0 := a) (Q := Q) (by simpa using hok) hst (by simpa using hall) (by simpa using hend) l.toArray.size
    (Array.replicate l.toArray.size false) (start l a) w.drew (by simp) (cnt_le _ _) hC (fun k hk h => by
      simp [Array.getD] at h)
  rw [show (l.toArray).toList = l by simp, putAll_start l 0 (start l a) a (fun j o hj e he => by simp [start, hj, he])] at this
  exact this
end

/-- The i-th of a list of words on values. -/
def VL : List (Value → World → Prop) → Nat → Value → World → Prop
  | [], _, _, _ => True
  | p :: _, 0, v, w => p v w
  | _ :: r, k + 1, v, w => VL r k v w
/-- A word that lasts while memory only grows. -/
def Stb (p : Value → World → Prop) : Prop := ∀ v w w', Go.RowKit.Below w.heap.size w w' → p v w → p v w'
def AllStb : List (Value → World → Prop) → Prop
  | [] => True
  | p :: r => Stb p ∧ AllStb r
theorem AllStb.at_ {L : List (Value → World → Prop)} (h : AllStb L) : ∀ k v w w', Go.RowKit.Below w.heap.size w w' → VL L k v w → VL L k v w' := by
  induction L with
  | nil => intro k v w w' _ _; trivial
  | cons p r ih =>
    intro k v w w' hb hv
    cases k with
    | zero => exact h.1 v w w' hb hv
    | succ k => exact ih h.2 k v w w' hb hv
/-- What is known of all values at the end. -/
def EndsL : List (Value → World → Prop) → (Nat → Value) → World → Nat → Prop
  | [], _, _, _ => True
  | p :: r, y, w, i => p (y i) w ∧ EndsL r y w (i + 1)
theorem EndsL.of {L : List (Value → World → Prop)} {y : Nat → Value} {w : World} (i : Nat) (h : ∀ k, k < L.length → VL L k (y (i + k)) w) : EndsL L y w i := by
  induction L generalizing i with
  | nil => trivial
  | cons p r ih => exact ⟨h 0 (by simp), ih (i + 1) fun k hk => by have := h (k + 1) (by simpa using hk); rwa [show i + (k + 1) = i + 1 + k by omega] at this⟩
theorem Ends.get {V : Nat → Value → World → Prop} {y : Nat → Value} {w : World} : ∀ {i n k : Nat}, Ends V y w i n → k < n → V (i + k) (y (i + k)) w
  | _, 0, k, _, hk => by omega
  | i, n + 1, 0, h, _ => h.1
  | i, n + 1, k + 1, h, hk => by have := Ends.get h.2 (show k < n by omega); rwa [show i + (k + 1) = i + 1 + k by omega]

/-- THE RULE where memory only grows: each operation may read, allocate, and call what allocates. -/
theorem region_grow {P : Program} {id : Nat} {Q : Exit → Act → World → Prop} {a : Act} {w : World} {l : List Oper} (L : List (Value → World → Prop))
    (hm : P.follows .mixedOrders = true) (hok : okB l 0 = true) (hlen : L.length = l.length) (hL : AllStb L)
    (hall : All P l.toArray (Go.RowKit.Below w.heap.size w) (fun u u' => Go.RowKit.Below u.heap.size u u') (VL L) a l 0)
    (hend : ∀ y w', Go.RowKit.Below w.heap.size w w' → EndsL L y w' 0 → Q .normal (putAll l 0 y a) w') :
    (Code.region id l.toArray true).wp P Q a w :=
  region_rg _ _ _ hm hok (Go.RowKit.Below.refl _ _).drew (fun k v u u' _ _ h hv => hL.at_ k v u u' h hv) hall
    (fun y w' hC hE => hend y w' hC (EndsL.of 0 fun k hk => by
      have := hE.get (k := k) (by omega)
      simpa using this))

def IsV (c : Value) : Value → World → Prop := fun v _ => v = c
theorem IsV.stb (c : Value) : Stb (IsV c) := fun _ _ _ _ h => h
end Go.Proofs.Ytnmgnonbgihalaa.RG

/-
  Words that all walks of this project use: memory that reads as a list of ints, old memory that stays. Nothing of the program is in it but its name.
-/
namespace Go.Proofs.Ytnmgnonbgihalaa
open Go.RowKit

theorem hide {p : Prop} (h : p) : Hid p := h
theorem bcell {W w1 : World} (hb : Below W.heap.size W w1) : (∀ b o, b < W.heap.size → w1.cell? ⟨b, o, none⟩ = W.cell? ⟨b, o, none⟩) ∧ (∀ b o, b < W.heap.size → w1.frozen? ⟨b, o, none⟩ = W.frozen? ⟨b, o, none⟩) :=
  ⟨fun b o h => hb.cell (p := ⟨b, o, none⟩) h, fun b o h => hb.frozen (p := ⟨b, o, none⟩) h⟩
theorem cellB {B : Nat} {W w1 : World} {b o : Nat} (hb : Below B W w1) (h : b < B) : w1.cell? ⟨b, o, none⟩ = W.cell? ⟨b, o, none⟩ := hb.cell (p := ⟨b, o, none⟩) h
theorem ret_int {k : IntKind} {a b : Int} (h : a = b) : Ending.returned (.int k a) = .returned (.int k b) := by rw [h]
theorem ret_bool {a b : Bool} (h : a = b) : Ending.returned (.bool a) = .returned (.bool b) := by rw [h]

theorem quiet_add_left {P : Program} {f : FuncId} {args : Array Value} {w : World} {a n : Nat} {v : Value}
    (h : Calls P f args (w.drewN (a + n)) fun e w' => e = .returned v ∧ w.drewN (a + n) = w') :
    Calls P f args (w.drewN (a + n)) fun e w'' => e = .returned v ∧ ∃ m, w'' = w.drewN (a + m) :=
  h.mono fun _ _ ⟨he, hm⟩ => ⟨he, n, hm.symm⟩
theorem quiet_left {P : Program} {f : FuncId} {args : Array Value} {w : World} {n : Nat} {v : Value}
    (h : Calls P f args (w.drewN n) fun e w' => e = .returned v ∧ w.drewN n = w') : Calls P f args (w.drewN n) fun e w'' => e = .returned v ∧ ∃ m, w'' = w.drewN m :=
  h.mono fun _ _ ⟨he, hm⟩ => ⟨he, n, hm.symm⟩
theorem below_drewN {B : Nat} {a w : World} (h : Below B a w) (n : Nat) : Below B a (w.drewN n) := ⟨h.os, h.tape, h.output, h.size, h.block⟩

/-- A region that draws its order, of which all but the last operations read or call quietly. -/
theorem region_tail {P : Program} {id : Nat} {Q : Exit → Act → World → Prop} {a : Act} {w : World} {l : List Oper} (n : Nat) (hm : P.follows .mixedOrders = true) (hB : Region.lexTailB .any l.toArray n = true)
    (h : wpStill P l.toArray w.drew (fun a' => wpList P l.toArray Q (l.drop n) a' w.drew) (l.take n) a) : (Code.region id l.toArray true).wp P Q a w :=
  wp_region_still_tail n hm hB h

/-- Block g is just the cells cs, of element type t, none frozen. -/
def Blk (w : World) (g : Nat) (t : TypeId) (cs : Array Value) : Prop := w.heap[g]? = some (.cells cs t (0, 0))
section
variable {w w' : World} {g : Nat} {t : TypeId} {cs : Array Value}
theorem Blk.lt (h : Blk w g t cs) : g < w.heap.size := by
  rcases Nat.lt_or_ge g w.heap.size with hlt | hge
  · exact hlt
  · unfold Blk at h; rw [Array.getElem?_eq_none hge] at h; cases h
theorem Blk.cell (h : Blk w g t cs) (i : Nat) : w.cell? ⟨g, i, none⟩ = cs[i]? := cell_of_row w g i cs t (0, 0) h
theorem Blk.frozen (h : Blk w g t cs) (i : Nat) : w.frozen? ⟨g, i, none⟩ = false := by
  unfold Blk at h
  simp [World.frozen?, h]
theorem Blk.new (w : World) (t : TypeId) (cs : Array Value) : Blk (w.alloc (.cells cs t)) w.heap.size t cs := heap_alloc_new w _
theorem Blk.drew (h : Blk w g t cs) : Blk w.drew g t cs := h
theorem Blk.drewN (h : Blk w g t cs) (n : Nat) : Blk (w.drewN n) g t cs := h
theorem Blk.alloc (h : Blk w g t cs) (o : Obj) : Blk (w.alloc o) g t cs := (Below.heap_alloc w o g h.lt).trans h
theorem Blk.set_ (h : Blk w g t cs) (i : Nat) (u : Value) : Blk (w.setCell ⟨g, i, none⟩ u) g t (cs.setIfInBounds i u) := by
  unfold Blk at h ⊢
  simp [World.setCell, Array.getElem?_modify, h]
theorem Blk.far (h : Blk w g t cs) {p : Addr} (hp : g ≠ p.block) (u : Value) : Blk (w.setCell p u) g t cs := (Below.heap_setCell w p u g hp).trans h
theorem Blk.below {B : Nat} (h : Blk w g t cs) (hb : Below B w w') (hg : g < B) : Blk w' g t cs := (hb.block g hg).trans h
theorem Blk.ne_ {g' : Nat} {t' : TypeId} {cs' : Array Value} (h : Blk w g t cs) (h' : Blk w g' t' cs') (hne : t ≠ t') : g ≠ g' := by
  rintro rfl
  unfold Blk at h h'
  rw [h] at h'
  injection h' with h'
  injection h' with _ ht
  exact hne ht
theorem Blk.grown {row : Option Nat} (h : Blk w g t cs) (hb : w.grownBy w' row) (hg : some g ≠ row) : Blk w' g t cs := (hb.block g h.lt hg).trans h
end

/-- A slice value '.slice A n c' that holds the ints xs. -/
def RdInts (w : World) (A : Option Addr) (n : Nat) (xs : List Int) : Prop :=
  xs.length = n ∧ (0 < n → ∃ b off, A = some ⟨b, off, none⟩ ∧ b < w.heap.size ∧ ∀ j, j < n → w.cell? ⟨b, off + j, none⟩ = some (.int .i64 (xs[j]?.getD 0)))

theorem RdInts.below {w w' : World} {A : Option Addr} {n : Nat} {xs : List Int} (h : RdInts w A n xs) (hb : Below w.heap.size w w') : RdInts w' A n xs :=
  ⟨h.1, fun hn => by
    obtain ⟨b, off, e, hlt, hc⟩ := h.2 hn
    exact ⟨b, off, e, Nat.lt_of_lt_of_le hlt hb.size, fun j hj => (hb.cell (p := ⟨b, off + j, none⟩) hlt).trans (hc j hj)⟩⟩
theorem RdInts.alloc {w : World} {A : Option Addr} {n : Nat} {xs : List Int} (h : RdInts w A n xs) (o : Obj) : RdInts (w.alloc o) A n xs :=
  h.below ((Below.refl _ _).alloc (Nat.le_refl _) o)
theorem rdInts_nil (w : World) (A : Option Addr) : RdInts w A 0 [] := ⟨rfl, fun h => absurd h (by omega)⟩
theorem rdInts_one (w : World) (x : Int) (t : TypeId) : RdInts (w.alloc (.cells #[.int .i64 x] t)) (some ⟨w.heap.size, 0, none⟩) 1 [x] := by
  refine ⟨rfl, fun _ => ⟨w.heap.size, 0, rfl, by simp, fun j hj => ?_⟩⟩
  obtain rfl : j = 0 := by omega
  exact World.cell?_alloc_new w _ t 0
theorem rdInts_two (w : World) (x y : Int) (t : TypeId) : RdInts (w.alloc (.cells #[.int .i64 x, .int .i64 y] t)) (some ⟨w.heap.size, 0, none⟩) 2 [x, y] := by
  refine ⟨rfl, fun _ => ⟨w.heap.size, 0, rfl, by simp, fun j hj => ?_⟩⟩
  rcases (show j = 0 ∨ j = 1 by omega) with rfl | rfl <;> exact World.cell?_alloc_new w _ t _

/-- All of a list lie from lo to hi. -/
def inB (lo hi x : Int) : Bool := decide (lo ≤ x) && decide (x ≤ hi)
theorem inB_iff {lo hi x : Int} : inB lo hi x = true ↔ lo ≤ x ∧ x ≤ hi := by simp [inB]

theorem lt_of_cell {w : World} {a : Addr} {v : Value} (h : w.cell? a = some v) : a.block < w.heap.size := by
  rcases Nat.lt_or_ge a.block w.heap.size with hlt | hge
  · exact hlt
  · unfold World.cell? at h
    rw [Array.getElem?_eq_none hge] at h
    simp at h
/-- A slice of the one int x. -/
def IsOne (x : Int) : Value → World → Prop := fun v w => ∃ b c, v = .slice (some ⟨b, 0, none⟩) 1 c ∧ w.cell? ⟨b, 0, none⟩ = some (.int .i64 x)
theorem IsOne.stb (x : Int) : RG.Stb (IsOne x) := fun _ _ _ hb ⟨b, c, e, h⟩ => ⟨b, c, e, (hb.cell (lt_of_cell h)).trans h⟩
end Go.Proofs.Ytnmgnonbgihalaa

/-
  check.Within.
-/
namespace Go.Proofs.Ytnmgnonbgihalaa
open Go.RowKit

theorem inB_no {lo hi x : Int} (h : ¬ (lo ≤ x ∧ x ≤ hi)) : inB lo hi x = false := by
  rw [Bool.eq_false_iff, Ne, inB_iff]; exact h
theorem all_take_succ {α : Type} (p : α → Bool) (xs : List α) (k : Nat) (h : k < xs.length) (hr : (xs.take k).all p = true) (hp : p xs[k] = true) : (xs.take (k + 1)).all p = true := by
  rw [List.take_succ_eq_append_getElem h, List.all_append, hr]; simp [hp]
theorem all_false_at {α : Type} (p : α → Bool) (xs : List α) (k : Nat) (h : k < xs.length) (hp : p xs[k] = false) : xs.all p = false := by
  rw [List.all_eq_false]; exact ⟨xs[k], List.getElem_mem h, by simp [hp]⟩

theorem within_any (lo hi : Int) (A : Option Addr) (n c : Nat) (xs : List Int) (w : World) (h : RdInts w A n xs) (hm : n ≤ maxLen) :
    Calls Try.prog 53 #[.int .i64 lo, .int .i64 hi, .slice A n c] w fun e w' => e = .returned (.bool (xs.all (inB lo hi))) ∧ w = w' := by
  unfold maxLen at hm
  obtain ⟨hl, hc⟩ := h
  go_enter Try.func53, Try.ntmps53
  go_wp2
  go_loop [11] (fun i => ∃ k : Nat, k ≤ n ∧ i = .int .i64 k ∧ (xs.take k).all (inB lo hi) = true) (fun i => n - (intOf i).toNat)
  case atStart => exact ⟨0, Nat.zero_le _, rfl, rfl⟩
  case round =>
    obtain ⟨k, hk, rfl, hr⟩ := hrel
    by_cases hlt : k < n
    · obtain ⟨b, off, rfl, hlt2, hcell0⟩ := hc (by omega)
      have hcell := hcell0 k hlt
      clear hcell0 hc
      have hx : xs[k]? = some (xs[k]'(by omega)) := List.getElem?_eq_getElem (by omega)
      have hts := all_take_succ (inB lo hi) xs k (by omega) hr
      have hfs := all_false_at (inB lo hi) xs k (by omega)
      rw [hx] at hcell
      simp only [Option.getD_some] at hcell
      generalize xs[k]'(by omega) = x at *
      have HT := hide hts
      have HF := hide hfs
      clear hts hfs hx
      go_wp2
      · go_ret
        exact ⟨ret_bool (HF.out (inB_no (by omega))).symm, rfl⟩
      · go_ret
        exact ⟨ret_bool (HF.out (inB_no (by omega))).symm, rfl⟩
      · go_round
        case rel => exact ⟨k + 1, by omega, by go_num, HT.out (inB_iff.2 (by omega))⟩
        case measure => simp [intOf]; omega
    · go_wp2
      go_ret
      exact ⟨ret_bool (by rw [← hr, List.take_of_length_le (by omega)]), rfl⟩

theorem within_one (lo hi x : Int) (b off c : Nat) (w : World) (h : w.cell? ⟨b, off, none⟩ = some (.int .i64 x)) :
    Calls Try.prog 53 #[.int .i64 lo, .int .i64 hi, .slice (some ⟨b, off, none⟩) 1 c] w fun e w' => e = .returned (.bool (inB lo hi x)) ∧ w = w' := by
  have h' : RdInts w (some ⟨b, off, none⟩) 1 [x] := ⟨rfl, fun _ => ⟨b, off, rfl, lt_of_cell h, fun j hj => by
    obtain rfl : j = 0 := by omega
    exact h⟩⟩
  refine (within_any lo hi _ 1 c [x] w h' (by unfold maxLen; omega)).mono fun e w' he => ?_
  simpa using he
theorem within_two (lo hi x y : Int) (b off c : Nat) (w : World) (h : w.cell? ⟨b, off, none⟩ = some (.int .i64 x)) (h2 : w.cell? ⟨b, off + 1, none⟩ = some (.int .i64 y)) :
    Calls Try.prog 53 #[.int .i64 lo, .int .i64 hi, .slice (some ⟨b, off, none⟩) 2 c] w fun e w' => e = .returned (.bool (inB lo hi x && inB lo hi y)) ∧ w = w' := by
  have h' : RdInts w (some ⟨b, off, none⟩) 2 [x, y] := ⟨rfl, fun _ => ⟨b, off, rfl, lt_of_cell h, fun j hj => by
    rcases (show j = 0 ∨ j = 1 by omega) with rfl | rfl
    · exact h
    · exact h2⟩⟩
  refine (within_any lo hi _ 2 c [x, y] w h' (by unfold maxLen; omega)).mono fun e w' he => ?_
  simpa using he

theorem within_one_no (lo hi x : Int) (b off c : Nat) (w : World) (h : w.cell? ⟨b, off, none⟩ = some (.int .i64 x)) (hx : ¬ (lo ≤ x ∧ x ≤ hi)) :
    Calls Try.prog 53 #[.int .i64 lo, .int .i64 hi, .slice (some ⟨b, off, none⟩) 1 c] w fun e w' => e = .returned (.bool false) ∧ w = w' := by
  have := within_one lo hi x b off c w h
  rwa [inB_no hx] at this
theorem within_one_yes (lo hi x : Int) (b off c : Nat) (w : World) (h : w.cell? ⟨b, off, none⟩ = some (.int .i64 x)) (hx : lo ≤ x ∧ x ≤ hi) :
    Calls Try.prog 53 #[.int .i64 lo, .int .i64 hi, .slice (some ⟨b, off, none⟩) 1 c] w fun e w' => e = .returned (.bool true) ∧ w = w' := by
  have := within_one lo hi x b off c w h
  rwa [inB_iff.2 hx] at this
end Go.Proofs.Ytnmgnonbgihalaa

/-
  Words on memory: rows of elements of k cells, rows of strings; what the first element is that has something. Of no function.
-/
namespace Go.Proofs.Ytnmgnonbgihalaa
open Go.RowKit

/-- A slice value '.slice A n c' whose elements are the lists of k cells xs. -/
def RdRow (w : World) (A : Option Addr) (n k : Nat) (xs : List (List Value)) : Prop :=
  xs.length = n ∧ (∀ x ∈ xs, x.length = k) ∧ (0 < n → ∃ b off, A = some ⟨b, off, none⟩ ∧ b < w.heap.size ∧
    ∀ j i v, (xs[j]?.getD [])[i]? = some v → w.cell? ⟨b, off + j * k + i, none⟩ = some v)
section
variable {w w' : World} {A : Option Addr} {n k : Nat} {xs : List (List Value)}
theorem RdRow.below (h : RdRow w A n k xs) (hb : Below w.heap.size w w') : RdRow w' A n k xs :=
  ⟨h.1, h.2.1, fun hn => by
    obtain ⟨b, off, e, hlt, hc⟩ := h.2.2 hn
    exact ⟨b, off, e, Nat.lt_of_lt_of_le hlt hb.size, fun j i v hv => (hb.cell (p := ⟨b, off + j * k + i, none⟩) hlt).trans (hc j i v hv)⟩⟩
theorem RdRow.alloc (h : RdRow w A n k xs) (o : Obj) : RdRow (w.alloc o) A n k xs := h.below ((Below.refl _ _).alloc (Nat.le_refl _) o)
theorem RdRow.drewN (h : RdRow w A n k xs) (m : Nat) : RdRow (w.drewN m) A n k xs := h
theorem RdRow.drew (h : RdRow w A n k xs) : RdRow w.drew A n k xs := h
theorem RdRow.nil (w : World) (A : Option Addr) (k : Nat) : RdRow w A 0 k [] := ⟨rfl, (fun _ h => nomatch h), fun h => absurd h (by omega)⟩
theorem RdRow.take (h : RdRow w A n k xs) {m : Nat} (hm : m ≤ n) : RdRow w A m k (xs.take m) := by
  refine ⟨by simp [h.1, hm], fun x hx => h.2.1 x (List.mem_of_mem_take hx), fun hn => ?_⟩
  obtain ⟨b, off, e, hlt, hc⟩ := h.2.2 (by omega)
  refine ⟨b, off, e, hlt, fun j i v hv => hc j i v ?_⟩
  by_cases hj : j < m
  · rwa [List.getElem?_take_of_lt hj] at hv
  · rw [List.getElem?_take_eq_none (by omega)] at hv
    simp at hv
theorem RdRow.len (h : RdRow w A n k xs) {j : Nat} (hj : j < n) : (xs[j]?.getD []).length = k := by
  have hl : j < xs.length := by rw [h.1]; exact hj
  rw [List.getElem?_eq_getElem hl]
  exact h.2.1 _ (List.getElem_mem hl)
/-- The load of a whole element. -/
theorem RdRow.row {P : Program} (h : RdRow w A n k xs) {j : Nat} (hj : j < n) : ∃ b off, A = some ⟨b, off, none⟩ ∧ b < w.heap.size ∧
    Sem.run P (loadCellsFrom ⟨b, off + j * k, none⟩ 0 k #[]) w = .ok (xs[j]?.getD []).toArray w := by
  obtain ⟨b, off, e, hlt, hc⟩ := h.2.2 (by omega)
  exact ⟨b, off, e, hlt, run_loadCellsFrom_list P _ _ _ k (h.len hj) fun i v hv => by
    rw [Addr.add_lit]
    exact hc j i v hv⟩
end

theorem len5 {l : List Value} (h : l.length = 5) : ∃ x0 x1 x2 x3 x4, l = [x0, x1, x2, x3, x4] := by
  match l, h with
  | [x0, x1, x2, x3, x4], _ => exact ⟨x0, x1, x2, x3, x4, rfl⟩
theorem len2 {l : List Value} (h : l.length = 2) : ∃ x0 x1, l = [x0, x1] := by
  match l, h with
  | [x0, x1], _ => exact ⟨x0, x1, rfl⟩
theorem RdRow.cells5 {w : World} {A : Option Addr} {n : Nat} {xs : List (List Value)} (h : RdRow w A n 5 xs) {j : Nat} (hj : j < n) :
    ∃ b off x0 x1 x2 x3 x4, A = some ⟨b, off, none⟩ ∧ b < w.heap.size ∧ xs[j]?.getD [] = [x0, x1, x2, x3, x4] ∧ w.cell? ⟨b, off + j * 5, none⟩ = some x0 ∧ w.cell? ⟨b, off + j * 5 + 1, none⟩ = some x1 ∧
      w.cell? ⟨b, off + j * 5 + 2, none⟩ = some x2 ∧ w.cell? ⟨b, off + j * 5 + 3, none⟩ = some x3 ∧ w.cell? ⟨b, off + j * 5 + 4, none⟩ = some x4 := by
  obtain ⟨b, off, e, hlt, hc⟩ := h.2.2 (by omega)
  obtain ⟨x0, x1, x2, x3, x4, hx⟩ := len5 (h.len hj)
  have hc := fun i v => hc j i v
  rw [hx] at hc
  exact ⟨b, off, x0, x1, x2, x3, x4, e, hlt, hx, hc 0 x0 rfl, hc 1 x1 rfl, hc 2 x2 rfl, hc 3 x3 rfl, hc 4 x4 rfl⟩
theorem RdRow.cells2 {w : World} {A : Option Addr} {n : Nat} {xs : List (List Value)} (h : RdRow w A n 2 xs) {j : Nat} (hj : j < n) :
    ∃ b off x0 x1, A = some ⟨b, off, none⟩ ∧ b < w.heap.size ∧ xs[j]?.getD [] = [x0, x1] ∧ w.cell? ⟨b, off + j * 2, none⟩ = some x0 ∧ w.cell? ⟨b, off + j * 2 + 1, none⟩ = some x1 := by
  obtain ⟨b, off, e, hlt, hc⟩ := h.2.2 (by omega)
  obtain ⟨x0, x1, hx⟩ := len2 (h.len hj)
  have hc := fun i v => hc j i v
  rw [hx] at hc
  exact ⟨b, off, x0, x1, e, hlt, hx, hc 0 x0 rfl, hc 1 x1 rfl⟩

/-- A slice value '.slice A n c' of strings. -/
def RdStrs (w : World) (A : Option Addr) (n : Nat) (xs : List ByteArray) : Prop :=
  xs.length = n ∧ (∀ x ∈ xs, x.size ≤ maxLen) ∧ (0 < n → ∃ b off, A = some ⟨b, off, none⟩ ∧ b < w.heap.size ∧ ∀ j x, xs[j]? = some x → w.cell? ⟨b, off + j, none⟩ = some (.string x))
section
variable {w w' : World} {A : Option Addr} {n : Nat} {xs : List ByteArray}
theorem RdStrs.below (h : RdStrs w A n xs) (hb : Below w.heap.size w w') : RdStrs w' A n xs :=
  ⟨h.1, h.2.1, fun hn => by
    obtain ⟨b, off, e, hlt, hc⟩ := h.2.2 hn
    exact ⟨b, off, e, Nat.lt_of_lt_of_le hlt hb.size, fun j x hv => (hb.cell (p := ⟨b, off + j, none⟩) hlt).trans (hc j x hv)⟩⟩
theorem RdStrs.alloc (h : RdStrs w A n xs) (o : Obj) : RdStrs (w.alloc o) A n xs := h.below ((Below.refl _ _).alloc (Nat.le_refl _) o)
theorem RdStrs.take (h : RdStrs w A n xs) {m : Nat} (hm : m ≤ n) : RdStrs w A m (xs.take m) := by
  refine ⟨by simp [h.1, hm], fun x hx => h.2.1 x (List.mem_of_mem_take hx), fun hn => ?_⟩
  obtain ⟨b, off, e, hlt, hc⟩ := h.2.2 (by omega)
  refine ⟨b, off, e, hlt, fun j x hv => hc j x ?_⟩
  by_cases hj : j < m
  · rwa [List.getElem?_take_of_lt hj] at hv
  · rw [List.getElem?_take_eq_none (by omega)] at hv
    cases hv
theorem RdStrs.nil (w : World) (A : Option Addr) : RdStrs w A 0 [] := ⟨rfl, (fun _ h => nomatch h), fun h => absurd h (by omega)⟩
end

/-- The first of n places from k on that has p; -1 if there is none. -/
def firstIdx (p : Nat → Bool) : Nat → Nat → Int
  | _, 0 => -1
  | k, m + 1 => if p k = true then (k : Int) else firstIdx p (k + 1) m
theorem firstIdx_hit {p : Nat → Bool} {k m : Nat} (h : p k = true) : firstIdx p k (m + 1) = k := by simp [firstIdx, h]
theorem firstIdx_miss {p : Nat → Bool} {k m : Nat} (h : p k = false) : firstIdx p k (m + 1) = firstIdx p (k + 1) m := by simp [firstIdx, h]
theorem firstIdx_neg {p : Nat → Bool} : ∀ {k m : Nat}, firstIdx p k m = -1 ↔ ∀ j, k ≤ j → j < k + m → p j = false
  | k, 0 => by simp [firstIdx]; intros; omega
  | k, m + 1 => by
    by_cases h : p k = true
    · rw [firstIdx_hit h]
      constructor
      · intro h'; omega
      · intro h'; have := h' k (by omega) (by omega); rw [h] at this; cases this
    · have h' : p k = false := by simpa using h
      rw [firstIdx_miss h', firstIdx_neg]
      constructor
      · intro g j h1 h2
        by_cases e : j = k
        · subst e; exact h'
        · exact g j (by omega) (by omega)
      · intro g j h1 h2; exact g j (by omega) (by omega)
theorem firstIdx_at {p : Nat → Bool} : ∀ {k m : Nat}, firstIdx p k m ≠ -1 → ∃ i : Nat, firstIdx p k m = (i : Int) ∧ k ≤ i ∧ i < k + m ∧ p i = true ∧ ∀ j, k ≤ j → j < i → p j = false
  | k, 0 => by simp [firstIdx]
  | k, m + 1 => by
    by_cases h : p k = true
    · intro _; exact ⟨k, firstIdx_hit h, by omega, by omega, h, fun j h1 h2 => by omega⟩
    · have h' : p k = false := by simpa using h
      rw [firstIdx_miss h']
      intro g
      obtain ⟨i, h1, h2, h3, h4, h5⟩ := firstIdx_at g
      refine ⟨i, h1, by omega, by omega, h4, fun j h6 h7 => ?_⟩
      by_cases e : j = k
      · subst e; exact h'
      · exact h5 j (by omega) h7
/-- Whether one of n places has p. -/
def anyIdx (p : Nat → Bool) (n : Nat) : Bool := decide (0 ≤ firstIdx p 0 n)
theorem anyIdx_iff {p : Nat → Bool} {n : Nat} : anyIdx p n = true ↔ ∃ j, j < n ∧ p j = true := by
  unfold anyIdx
  rw [decide_eq_true_iff]
  constructor
  · intro h
    obtain ⟨i, _, _, h3, h4, _⟩ := firstIdx_at (p := p) (k := 0) (m := n) (by omega)
    exact ⟨i, by omega, h4⟩
  · rintro ⟨j, hj, hp⟩
    by_cases h : firstIdx p 0 n = -1
    · rw [firstIdx_neg] at h
      rw [h j (by omega) (by omega)] at hp
      cases hp
    · obtain ⟨i, h1, _⟩ := firstIdx_at h
      omega

/-- The first of n places from k on with an error, and the error; 0 and 0 if there is none. -/
def firstErr (err : Nat → Int) : Nat → Nat → Int × Int
  | _, 0 => (0, 0)
  | k, m + 1 => if err k = 0 then firstErr err (k + 1) m else ((k : Int), err k)
end Go.Proofs.Ytnmgnonbgihalaa
