import Derived.Test.YtnmgnonbgihalaaPa
import Derived.StillTail
import Derived.Maps.OwnOps
import Derived.Maps.OwnSet
import Derived.Maps.AppendAt
import Derived.Laws.OwnMore
import Derived.DeepKeys4
import Derived.Maps.Keyed
import Derived.Maps.Views
/-
  The rule for a region of which the last operations wait for all the others: those by the rule of XRegion, these one behind the other.
-/
namespace Go.Proofs.Ytnmgnonbgihalaa.RG
open Go

theorem cnt_one (p p' : Nat → Bool) (i : Nat) (h : ∀ j, j ≠ i → p j = p' j) (n : Nat) : cnt p n ≤ cnt p' n + 1 := by
  have hone : ∀ m, cnt p m ≤ cnt p' m + (if i < m then 1 else 0) := by
    intro m
    induction m with
    | zero => simp [cnt]
    | succ m ihm =>
      simp only [cnt]
      by_cases e : m = i
      · subst e
        have h1 : (if p m = true then 1 else 0) ≤ 1 := by split <;> omega
        rw [if_neg (Nat.lt_irrefl m)] at ihm
        rw [if_pos (show m < m + 1 by omega)]
        omega
      · have h1 : (if p m = true then 1 else 0) = (if p' m = true then 1 else 0) := by rw [h m e]
        have h2 : (if i < m then 1 else 0) ≤ (if i < m + 1 then 1 else 0) := by split <;> split <;> omega
        omega
  have := hone n
  split at this <;> omega
/-- The obligation of one operation of the head. -/
def OneT (P : Program) (ops : Array Oper) (hd : List Oper) (C : World → Prop) (Rel : World → World → Prop) (V : Nat → Value → World → Prop) (a0 : Act) (i : Nat) (o : Oper) : Prop :=
  ∀ (y : Nat → Value) (w : World) (K : Act → World → Prop) (Q : Exit → Act → World → Prop) (Cv : Value → World → Prop), C w → deps V y w o.after.toList →
    (∀ v w', C w' → Rel w w' → V i v w' → Cv v w') → (∀ v w', Cv v w' → K ((putAll hd 0 y a0).put o.dst v) w') →
    if Region.wanted o (yielded ops (putAll hd 0 y a0).tmps) then o.wp P (putAll hd 0 y a0) w K Q else K ((putAll hd 0 y a0).put o.dst undef) w
def AllT (P : Program) (ops : Array Oper) (hd : List Oper) (C : World → Prop) (Rel : World → World → Prop) (V : Nat → Value → World → Prop) (a0 : Act) : List Oper → Nat → Prop
  | [], _ => True
  | o :: r, i => OneT P ops hd C Rel V a0 i o ∧ AllT P ops hd C Rel V a0 r (i + 1)
theorem AllT.get {P : Program} {ops : Array Oper} {hd : List Oper} {C : World → Prop} {Rel : World → World → Prop} {V : Nat → Value → World → Prop} {a0 : Act} :
    ∀ {l : List Oper} {i j : Nat} {o : Oper}, AllT P ops hd C Rel V a0 l i → l[j]? = some o → OneT P ops hd C Rel V a0 (i + j) o
  | [], _, _, _, _, hj => by simp at hj
  | o' :: r, i, 0, o, h, hj => by
    simp only [List.getElem?_cons_zero, Option.some.injEq] at hj
    subst hj; exact h.1
  | o' :: r, i, j + 1, o, h, hj => by
    simp only [List.getElem?_cons_succ] at hj
    have := AllT.get h.2 hj
    rwa [show i + (j + 1) = i + 1 + j by omega]

/-- The first n are listed, the others are not. -/
def heads (n m : Nat) : Array Bool := ((List.range m).map fun j => decide (j < n)).toArray
def tailB (l : List Oper) (n : Nat) : Bool :=
  decide (n < l.length) && Region.sinkB .any l.toArray n && Region.chainB .any l.toArray n && Region.seqB .any l.toArray (l.length - n) n (heads n l.length) && okB (l.take n) 0

theorem wpAny_rgT {P : Program} {l : List Oper} {n : Nat} {C : World → Prop} {Rel : World → World → Prop} {V : Nat → Value → World → Prop} {a0 : Act} {Q : Exit → Act → World → Prop}
    (hB : tailB l n = true) (hst : ∀ k v w w', C w → C w' → Rel w w' → V k v w → V k v w')
    (hall : AllT P l.toArray (l.take n) C Rel V a0 (l.take n) 0)
    (hend : ∀ y w, C w → Ends V y w 0 n → wpList P l.toArray Q (l.drop n) (putAll (l.take n) 0 y a0) w) :
    ∀ (fuel : Nat) (listed : Array Bool) (y : Nat → Value) (w : World), HeadInv .any l.toArray n listed → cnt (fun j => !listed.getD j true) n = fuel → C w →
      (∀ k, k < n → listed.getD k false = true → V k (y k) w) → wpAny P .any l.toArray Q (fuel + (l.length - n)) listed (putAll (l.take n) 0 y a0) w := by
  simp only [tailB, Bool.and_eq_true, decide_eq_true_eq] at hB
  obtain ⟨⟨⟨⟨hn, hs⟩, hc⟩, hseq⟩, hok⟩ := hB
  have hn' : n < l.toArray.size := by simpa using hn
  intro fuel
  induction fuel with
  | zero =>
    intro listed y w inv h0 hC hV
    have hl : ∀ j, j < n → listed.getD j true = true := fun j hj => by
      have := cnt_zero _ _ h0 j hj
      simpa using this
    have hsz : listed.size = l.length := by simpa using inv.size
    have hl' : ∀ j, j < n → listed.getD j false = true := fun j hj => by
      have := hl j hj
      simpa [Array.getD, hsz, show j < l.length by omega] using this
    have heq : listed = heads n l.length := by
      apply Array.ext
      · simp [heads, hsz]
      · intro j h1 h2
        by_cases hj : j < n
        · have := hl j hj
          simp only [Array.getD, h1, dite_true] at this
          simp [heads, hj]
          exact this
        · have := inv.tail j (by omega) (by simp; omega)
          simp only [Array.getD, h1, dite_true] at this
          simp [heads, hj]
          exact this
    have := wpAny_of_seq (P := P) (md := .any) (Q' := Q) (ops := l.toArray) (l.drop n) n listed (putAll (l.take n) 0 y a0) w (fun j => by simp [List.getElem?_drop]) (by rw [heq]; simpa using hseq)
      (hend y w hC (Ends.of 0 _ fun k _ hk => hV k (by omega) (hl' k (by omega))))
    rw [List.length_drop] at this
    rw [Nat.zero_add]
    exact this
  | succ fuel ih =>
    intro listed y w inv hcnt hC hV
    have hex : ∃ i, i < n ∧ listed.getD i true = false := by
      rcases Nat.eq_zero_or_pos (cnt (fun j => !listed.getD j true) n) with h | h
      · omega
      · by_cases hx : ∃ i, i < n ∧ listed.getD i true = false
        · exact hx
        · exfalso
          have : ∀ m, m ≤ n → cnt (fun j => !listed.getD j true) m = 0 := by
            intro m
            induction m with
            | zero => intro _; rfl
            | succ m ihm =>
              intro hm
              simp only [cnt]
              rw [ihm (by omega)]
              have : listed.getD m true = true := by
                cases h' : listed.getD m true with
                | true => rfl
                | false => exact absurd ⟨m, by omega, h'⟩ hx
              simp [this]
          have := this n (Nat.le_refl _)
          omega
    obtain ⟨i0, hi0, hl0⟩ := hex
    have hhead : ∀ t ∈ Region.ready .any l.toArray listed, t < n := fun t ht => by
      rcases Nat.lt_or_ge t n with h | h
      · exact h
      · exact absurd ht (tail_waits hs hc hn' inv _ i0 rfl hi0 hl0 t h)
    rw [show fuel + 1 + (l.length - n) = (fuel + (l.length - n)) + 1 by omega]
    refine ⟨fun hr => ?_, fun i hi => ?_⟩
    · exfalso
      -- the first unlisted operation of the head is ready
      have hfirst : ∃ j, j < n ∧ listed.getD j true = false ∧ ∀ k, k < j → listed.getD k true = true := by
        have : ∀ m, (∀ k, k < m → listed.getD k true = true) ∨ ∃ j, j < m ∧ listed.getD j true = false ∧ ∀ k, k < j → listed.getD k true = true := by
          intro m
          induction m with
          | zero => exact .inl fun k hk => by omega
          | succ m ihm =>
            rcases ihm with h | ⟨j, h1, h2, h3⟩
            · cases h' : listed.getD m true with
              | true =>
                refine .inl fun k hk => ?_
                by_cases e : k = m
                · subst e; exact h'
                · exact h k (by omega)
              | false => exact .inr ⟨m, by omega, h', h⟩
            · exact .inr ⟨j, by omega, h2, h3⟩
        rcases this n with h | h
        · rw [h i0 hi0] at hl0; cases hl0
        · exact h
      obtain ⟨j, hj, hlj, hbef⟩ := hfirst
      have hjl : j < l.length := by omega
      have hm : j ∈ Region.ready .any l.toArray listed := by
        rw [mem_ready]
        refine ⟨hlj, l[j], by simp [hjl], fun e he hbb => ?_⟩
        have : e.on < j := by
          have hac : ∀ (q : List Oper) (s : Nat) (m : Nat) (o : Oper), okB q s = true → q[m]? = some o → ∀ e ∈ o.after, Region.binds .any e = true → e.on < s + m := by
            intro q
            induction q with
            | nil => intro s m o _ hm; simp at hm
            | cons o' r ihr =>
              intro s m o h hm e he hbb
              obtain ⟨h1, _, h3⟩ := okB_cons h
              cases m with
              | zero => simp only [List.getElem?_cons_zero, Option.some.injEq] at hm; subst hm; exact h1 e he hbb
              | succ m =>
                simp only [List.getElem?_cons_succ] at hm
                have := ihr (s + 1) m o h3 hm e he hbb
                omega
          have := hac (l.take n) 0 j l[j] hok (by rw [List.getElem?_take_of_lt hj]; simp [hjl]) e he hbb
          omega
        have h2 := hbef e.on this
        have hsz : listed.size = l.length := by simpa using inv.size
        simpa [Array.getD, hsz, show e.on < l.length by omega] using h2
      rw [hr] at hm
      cases hm
    · have hin := hhead i hi
      have hi' := hi
      rw [mem_ready] at hi
      obtain ⟨hl, o, ho, hdep⟩ := hi
      have hol : (l.take n)[i]? = some o := by rw [List.getElem?_take_of_lt hin]; simpa using ho
      have h1 := AllT.get hall hol
      rw [Nat.zero_add] at h1
      have hnext : ∀ v w', C w' → Rel w w' → V i v w' → wpAny P .any l.toArray Q (fuel + (l.length - n)) (listed.setIfInBounds i true) ((putAll (l.take n) 0 y a0).put o.dst v) w' := by
        intro v w' hC' hR hVi
        rw [putAll_upd (l.take n) 0 i y a0 o v hok hol, Nat.zero_add]
        have hsz : listed.size = l.length := by simpa using inv.size
        refine ih _ _ _ (inv.set hi' hin) ?_ hC' (fun k hk hlk => ?_)
        · have hlt := cnt_lt (fun j => !listed.getD j true) (fun j => !(listed.setIfInBounds i true).getD j true) (fun j hj => by
            by_cases e : i = j
            · subst e; simp [Array.getD, Array.setIfInBounds, hsz, show i < l.length by omega] at hj
            · rw [getD_set_ne true e] at hj; exact hj) i (by simp [hl]) (by simp [Array.getD, Array.setIfInBounds, hsz, show i < l.length by omega]) n hin
          have hge := cnt_one (fun j => !listed.getD j true) (fun j => !(listed.setIfInBounds i true).getD j true) i (fun j hj => by
            show (!listed.getD j true) = (!(listed.setIfInBounds i true).getD j true)
            rw [getD_set_ne true (fun h => hj h.symm)])
          have := hge n
          omega
        · by_cases e : k = i
          · subst e; simpa [upd] using hVi
          · have : upd y i v k = y k := by simp [upd, e]
            rw [this]
            rw [getD_set_ne false (fun h => e h.symm)] at hlk
            exact hst k _ w w' hC hC' hR (hV k hk hlk)
      have h2 := h1 y w (wpAny P .any l.toArray Q (fuel + (l.length - n)) (listed.setIfInBounds i true)) Q (fun v w' => C w' ∧ Rel w w' ∧ V i v w') hC (deps_of _ fun e he hb => by
        have he' : e ∈ o.after := by simpa using he
        have h3 := hdep e he' hb
        have hen : e.on < n := by
          rcases Nat.lt_or_ge e.on n with h | h
          · exact h
          · have := inv.tail e.on h
            have hb2 : e.on < l.toArray.size := by
              rcases Nat.lt_or_ge e.on listed.size with h' | h'
              · rw [← inv.size]; exact h'
              · simp [Array.getD, Nat.not_lt.2 h'] at h3
            have := this hb2
            have hsz := inv.size
            simp [Array.getD, show e.on < listed.size by omega] at this h3
            rw [this] at h3; cases h3
        exact hV e.on hen h3) (fun v w' a b c => ⟨a, b, c⟩) (fun v w' h => hnext v w' h.1 h.2.1 h.2.2)
      unfold wpOp
      simp only [ho]
      split
      · rename_i hw; simp only [hw, if_true] at h2; exact .inl h2
      · rename_i hw; simp only [hw] at h2; exact h2
/-- THE RULE with a tail: C, Rel, V as in region_rg, of the first n operations. -/
theorem region_rg_tail {P : Program} {id : Nat} {Q : Exit → Act → World → Prop} {a : Act} {w : World} {l : List Oper} (n : Nat) (C : World → Prop) (Rel : World → World → Prop) (V : Nat → Value → World → Prop)
    (hm : P.follows .mixedOrders = true) (hB : tailB l n = true) (hC : C w.drew) (hst : ∀ k v w w', C w → C w' → Rel w w' → V k v w → V k v w')
    (hall : AllT P l.toArray (l.take n) C Rel V a (l.take n) 0) (hend : ∀ y w, C w → Ends V y w 0 n → wpList P l.toArray Q (l.drop n) (putAll (l.take n) 0 y a) w) :
    (Code.region id l.toArray true).wp P Q a w := by
  have hn : n < l.length := by
    have := hB
    simp only [tailB, Bool.and_eq_true, decide_eq_true_eq] at this
    exact this.1.1.1.1
  refine wp_region_any hm ?_
  have h0 : cnt (fun j => !(Array.replicate l.toArray.size false).getD j true) n = n := by
    have : ∀ m, m ≤ n → cnt (fun j => !(Array.replicate l.toArray.size false).getD j true) m = m := by
      intro m
      induction m with
      | zero => intro _; rfl
      | succ m ih =>
        intro hmn
        simp only [cnt]
        rw [ih (by omega)]
        have : (Array.replicate l.toArray.size false).getD m true = false := getD_in (by simp; omega) (getD_replicate_false _ _)
        have hb : (!(Array.replicate l.toArray.size false).getD m true) = true := by rw [this]; rfl
        rw [if_pos hb]
    exact this n (Nat.le_refl _)
  have := wpAny_rgT (P := P) (l := l) (n := n) (C := C) (Rel := Rel) (V := V) (a0 := a) (Q := Q) hB hst hall hend n
    (Array.replicate l.toArray.size false) (start (l.take n) a) w.drew ⟨by simp, fun j oj _ hl => (by rw [getD_replicate_false] at hl; cases hl), fun t _ ht => getD_in (by simpa using ht) (getD_replicate_false _ _)⟩ h0 hC
    (fun k hk h => by rw [getD_replicate_false] at h; cases h)
  rw [putAll_start (l.take n) 0 (start (l.take n) a) a (fun j o hj e he => by simp [start, hj, he])] at this
  rw [show n + (l.length - n) = l.toArray.size by simp; omega] at this
  exact this

/-- The same where memory only grows in the head. -/
theorem region_grow_tail {P : Program} {id : Nat} {Q : Exit → Act → World → Prop} {a : Act} {w : World} {l : List Oper} (n : Nat) (L : List (Value → World → Prop))
    (hm : P.follows .mixedOrders = true) (hB : tailB l n = true) (hlen : L.length = n) (hL : AllStb L)
    (hall : AllT P l.toArray (l.take n) (Go.RowKit.Below w.heap.size w) (fun u u' => Go.RowKit.Below u.heap.size u u') (VL L) a (l.take n) 0)
    (hend : ∀ y w', Go.RowKit.Below w.heap.size w w' → EndsL L y w' 0 → wpList P l.toArray Q (l.drop n) (putAll (l.take n) 0 y a) w') :
    (Code.region id l.toArray true).wp P Q a w :=
  region_rg_tail n _ _ _ hm hB (Go.RowKit.Below.refl _ _).drew (fun k v u u' _ _ h hv => hL.at_ k v u u' h hv) hall
    (fun y w' hC hE => hend y w' hC (EndsL.of 0 fun k hk => by
      have := hE.get (k := k) (by omega)
      simpa using this))
end Go.Proofs.Ytnmgnonbgihalaa.RG

/-
  A row of elements of k cells each, at the head of a block of its own that is none of some blocks; what is kept of some blocks. Of no function.
-/
namespace Go.Proofs.Ytnmgnonbgihalaa
open Go.RowKit RG

theorem blkNew {w : World} {g : Nat} {t : TypeId} {cs : Array Value} (h : g = w.heap.size) : Blk (w.alloc (.cells cs t)) g t cs := by subst h; exact Blk.new _ _ _
theorem flat_get {k : Nat} : ∀ {xs : List (List Value)} (_ : ∀ x ∈ xs, x.length = k) {j i : Nat} {v : Value}, (xs[j]?.getD [])[i]? = some v → j < xs.length ∧ i < k ∧ xs.flatten[j * k + i]? = some v
  | [], _, j, i, v, hv => by simp at hv
  | x :: xs, h, 0, i, v, hv => by
    have hx : x.length = k := h x List.mem_cons_self
    have hv' : x[i]? = some v := by simpa using hv
    have hi := (List.getElem?_eq_some_iff.1 hv').1
    refine ⟨by simp, by omega, ?_⟩
    rw [List.flatten_cons, List.getElem?_append_left (by omega), Nat.zero_mul, Nat.zero_add]
    exact hv'
  | x :: xs, h, j + 1, i, v, hv => by
    have hx : x.length = k := h x List.mem_cons_self
    obtain ⟨h1, h2, h3⟩ := flat_get (fun y hy => h y (List.mem_cons_of_mem _ hy)) (j := j) (i := i) (v := v) (by simpa using hv)
    refine ⟨by simpa using h1, h2, ?_⟩
    rw [List.flatten_cons, List.getElem?_append_right (by rw [hx, Nat.succ_mul]; omega), hx, show (j + 1) * k + i - k = j * k + i by rw [Nat.succ_mul]; omega]
    exact h3
theorem flat_set {k : Nat} (u : Value) : ∀ {xs : List (List Value)} (_ : ∀ x ∈ xs, x.length = k) {j i : Nat}, j < xs.length → i < k → xs.flatten.set (j * k + i) u = (xs.set j ((xs[j]?.getD []).set i u)).flatten
  | [], _, j, i, hj, _ => by simp at hj
  | x :: xs, h, 0, i, _, hi => by
    have hx : x.length = k := h x List.mem_cons_self
    rw [List.flatten_cons, Nat.zero_mul, Nat.zero_add, List.set_append_left _ _ (by omega)]
    simp
  | x :: xs, h, j + 1, i, hj, hi => by
    have hx : x.length = k := h x List.mem_cons_self
    have := flat_set u (fun y hy => h y (List.mem_cons_of_mem _ hy)) (j := j) (i := i) (by simpa using hj) hi
    rw [List.flatten_cons, List.set_append_right _ _ (by rw [hx, Nat.succ_mul]; omega), hx, show (j + 1) * k + i - k = j * k + i by rw [Nat.succ_mul]; omega, this]
    simp
theorem flat_len {k : Nat} : ∀ {xs : List (List Value)} (_ : ∀ x ∈ xs, x.length = k), xs.flatten.length = xs.length * k
  | [], _ => by simp
  | x :: xs, h => by
    rw [List.flatten_cons, List.length_append, flat_len (fun y hy => h y (List.mem_cons_of_mem _ hy)), h x List.mem_cons_self, List.length_cons, Nat.succ_mul]
    omega

/-- Of the blocks X none has changed. -/
structure KeptX (X : Nat → Prop) (w w' : World) : Prop where
  os : w'.os = w.os
  tape : w'.tape = w.tape
  output : w'.output = w.output
  size : w.heap.size ≤ w'.heap.size
  block : ∀ g, X g → w'.heap[g]? = w.heap[g]?
section
variable {X Y : Nat → Prop} {w w' w'' : World}
theorem KeptX.refl (X : Nat → Prop) (w : World) : KeptX X w w := ⟨rfl, rfl, rfl, Nat.le_refl _, fun _ _ => rfl⟩
theorem KeptX.trans (h : KeptX X w w') (k : KeptX X w' w'') : KeptX X w w'' :=
  ⟨k.os.trans h.os, k.tape.trans h.tape, k.output.trans h.output, Nat.le_trans h.size k.size, fun i hi => (k.block i hi).trans (h.block i hi)⟩
theorem KeptX.mono (h : KeptX X w w') (hy : ∀ g, Y g → X g) : KeptX Y w w' := ⟨h.os, h.tape, h.output, h.size, fun g hg => h.block g (hy g hg)⟩
/-- The blocks X are there. -/
def Old (X : Nat → Prop) (w : World) : Prop := ∀ g, X g → g < w.heap.size
theorem Old.kept (h : Old X w) (k : KeptX X w w') : Old X w' := fun g hg => Nat.lt_of_lt_of_le (h g hg) k.size
theorem Old.fresh (h : Old X w) : ¬ X w.heap.size := fun hx => Nat.lt_irrefl _ (h _ hx)
theorem KeptX.of_below (h : Below w.heap.size w w') (ho : Old X w) : KeptX X w w' := ⟨h.os, h.tape, h.output, h.size, fun g hg => h.block g (ho g hg)⟩
theorem KeptX.below {B : Nat} (h : KeptX (fun g => g < B) w w') : Below B w w' := ⟨h.os, h.tape, h.output, h.size, h.block⟩
theorem KeptX.setCell (w : World) {p : Addr} (hp : ¬ X p.block) (u : Value) : KeptX X w (w.setCell p u) :=
  ⟨rfl, rfl, rfl, by simp, fun g hg => Below.heap_setCell w p u g (fun e => hp (e ▸ hg))⟩
theorem KeptX.alloc (w : World) (ho : Old X w) (o : Obj) : KeptX X w (w.alloc o) := KeptX.of_below ((Below.refl _ _).alloc (Nat.le_refl _) o) ho
theorem KeptX.drew (h : KeptX X w w') : KeptX X w w'.drew := ⟨h.os, h.tape, h.output, h.size, h.block⟩
theorem KeptX.drewN (h : KeptX X w w') (n : Nat) : KeptX X w (w'.drewN n) := ⟨h.os, h.tape, h.output, h.size, h.block⟩
theorem KeptX.grown {row : Option Nat} (h : w.grownBy w' row) (ho : Old X w) (hr : ∀ g, row = some g → ¬ X g) : KeptX X w w' :=
  ⟨h.os, h.tape, h.output, h.size, fun g hg => h.block g (ho g hg) (fun e => hr g e.symm hg)⟩
theorem KeptX.blk {g : Nat} {t : TypeId} {cs : Array Value} (h : KeptX X w w') (hg : X g) (hb : Blk w g t cs) : Blk w' g t cs := (h.block g hg).trans hb
theorem KeptX.cell (h : KeptX X w w') {b o : Nat} (hg : X b) : w'.cell? ⟨b, o, none⟩ = w.cell? ⟨b, o, none⟩ := World.cell?_of_block (a := ⟨b, o, none⟩) (h.block b hg)
theorem KeptX.frozen (h : KeptX X w w') {b o : Nat} (hg : X b) : w'.frozen? ⟨b, o, none⟩ = w.frozen? ⟨b, o, none⟩ := World.frozen?_of_block (a := ⟨b, o, none⟩) (h.block b hg)
end

/-- The slice v holds the elements xs, of k cells each, in a block of its own that is none of X (or it is nil). -/
def RowAt (w : World) (X : Nat → Prop) (e : TypeId) (k : Nat) (v : Value) (xs : List (List Value)) : Prop :=
  (∀ x ∈ xs, x.length = k) ∧ ((v = .slice none 0 0 ∧ xs = []) ∨ ∃ g cap cur, v = .slice (some ⟨g, 0, none⟩) xs.length cap ∧ ¬ X g ∧ Blk w g e cur ∧ xs.length ≤ cap ∧ cap ≤ maxLen ∧ cur.size = cap * k ∧ cur.toList.take (xs.length * k) = xs.flatten)
section
variable {w w' : World} {X Y : Nat → Prop} {e : TypeId} {k : Nat} {v : Value} {xs : List (List Value)}
theorem RowAt.len (h : RowAt w X e k v xs) {j : Nat} (hj : j < xs.length) : (xs[j]?.getD []).length = k := by
  rw [List.getElem?_eq_getElem hj]
  exact h.1 _ (List.getElem_mem hj)
theorem RowAt.mono (h : RowAt w X e k v xs) (hy : ∀ g, v.ownBlock = some g → ¬ Y g) : RowAt w Y e k v xs := by
  refine ⟨h.1, ?_⟩
  rcases h.2 with hn | ⟨g, cap, cur, rfl, _, hb⟩
  · exact .inl hn
  · exact .inr ⟨g, cap, cur, rfl, hy g rfl, hb⟩
theorem RowAt.not (h : RowAt w X e k v xs) : ∀ g, v.ownBlock = some g → ¬ X g := by
  rcases h.2 with ⟨rfl, _⟩ | ⟨g, cap, cur, rfl, hx, _⟩
  · intro g hg; simp [Value.ownBlock] at hg
  · intro g' hg
    have : g = g' := by simpa [Value.ownBlock] using hg
    subst this; exact hx
theorem RowAt.blk (h : RowAt w X e k v xs) (hb : ∀ g, v.ownBlock = some g → g < w.heap.size → w'.heap[g]? = w.heap[g]?) : RowAt w' X e k v xs := by
  refine ⟨h.1, ?_⟩
  rcases h.2 with hn | ⟨g, cap, cur, rfl, hx, hk, hr⟩
  · exact .inl hn
  · exact .inr ⟨g, cap, cur, rfl, hx, (hb g rfl hk.lt).trans hk, hr⟩
theorem RowAt.below (h : RowAt w X e k v xs) (hb : Below w.heap.size w w') : RowAt w' X e k v xs := h.blk fun g _ hg => hb.block g hg
theorem RowAt.far (h : RowAt w X e k v xs) {p : Addr} (hp : v.ownBlock ≠ some p.block) (u : Value) : RowAt (w.setCell p u) X e k v xs :=
  h.blk fun g hg _ => Below.heap_setCell w p u g fun e => hp (by rw [hg, e])
theorem RowAt.own (h : RowAt w X e k v xs) : w.ownsRow 0 e k v xs.length xs.flatten := by
  refine ⟨flat_len h.1, ?_⟩
  rcases h.2 with ⟨rfl, rfl⟩ | ⟨g, cap, cur, rfl, _, hk, h1, h2, h3, h4⟩
  · exact .inl ⟨rfl, rfl⟩
  · exact .inr ⟨g, cap, cur, rfl, Nat.zero_le _, hk, h1, h2, h3, h4⟩
theorem rowAt_of (hk : ∀ x ∈ xs, x.length = k) (h : w.ownsRow 0 e k v xs.length xs.flatten) (hx : ∀ g, v.ownBlock = some g → ¬ X g) : RowAt w X e k v xs := by
  refine ⟨hk, ?_⟩
  rcases h.2 with ⟨rfl, h0⟩ | ⟨g, cap, cur, rfl, _, hb, h1, h2, h3, h4⟩
  · exact .inl ⟨rfl, List.eq_nil_of_length_eq_zero h0⟩
  · exact .inr ⟨g, cap, cur, rfl, hx g rfl, hb, h1, h2, h3, h4⟩
/-- The row's block, where there are elements. -/
theorem RowAt.at (h : RowAt w X e k v xs) (hn : 0 < xs.length) : ∃ g cap, v = .slice (some ⟨g, 0, none⟩) xs.length cap ∧ ¬ X g ∧ g < w.heap.size ∧ xs.length ≤ cap ∧ cap ≤ maxLen ∧ w.frozen? ⟨g, 0, none⟩ = false ∧
    (∀ j i u, (xs[j]?.getD [])[i]? = some u → w.cell? ⟨g, j * k + i, none⟩ = some u) ∧ (∀ i, w.frozen? ⟨g, i, none⟩ = false) ∧ ∃ cur, Blk w g e cur := by
  rcases h.2 with ⟨rfl, h0⟩ | ⟨g, cap, cur, rfl, hx, hk, h1, h2, h3, h4⟩
  · subst h0; simp at hn
  · refine ⟨g, cap, rfl, hx, hk.lt, h1, h2, hk.frozen 0, fun j i u hu => ?_, fun i => hk.frozen i, cur, hk⟩
    obtain ⟨hj, hi, hf⟩ := flat_get h.1 hu
    have hlt : j * k + i < xs.length * k := Nat.lt_of_lt_of_le (by omega : j * k + i < j * k + k) (by rw [← Nat.succ_mul]; exact Nat.mul_le_mul_right _ hj)
    rw [hk.cell]
    rw [← h4, List.getElem?_take_of_lt hlt] at hf
    simpa using hf
theorem RowAt.row (h : RowAt w X e k v xs) : ∃ A c, v = .slice A xs.length c ∧ RdRow w A xs.length k xs ∧ xs.length ≤ c ∧ c ≤ maxLen ∧ (∀ b off, A = some ⟨b, off, none⟩ → off = 0 ∧ ¬ X b ∧ b < w.heap.size ∧ ∃ cur, Blk w b e cur) := by
  rcases h.2 with ⟨rfl, rfl⟩ | ⟨g, cap, cur, rfl, hx, hk, h1, h2, h3, h4⟩
  · exact ⟨none, 0, rfl, RdRow.nil _ _ _, Nat.le_refl _, by unfold maxLen; omega, fun b off e => by cases e⟩
  · refine ⟨_, cap, rfl, ⟨rfl, h.1, fun _ => ⟨g, 0, rfl, hk.lt, fun j i u hu => ?_⟩⟩, h1, h2, fun b off e => by cases e; exact ⟨rfl, hx, hk.lt, cur, hk⟩⟩
    have hn : 0 < xs.length := by have := (flat_get h.1 hu).1; omega
    obtain ⟨g', cap', e', _, _, _, _, _, hc, _⟩ := RowAt.at h hn
    have : g = g' := by injection e' with e'; injection e' with e'; injection e'
    subst this
    rw [Nat.zero_add]
    exact hc j i u hu
/-- A cell of the row is written. -/
theorem RowAt.set {g : Nat} {n cap : Nat} (h : RowAt w X e k (.slice (some ⟨g, 0, none⟩) n cap) xs) {j i : Nat} (hj : j < xs.length) (hi : i < k) (u : Value) :
    RowAt (w.setCell ⟨g, j * k + i, none⟩ u) X e k (.slice (some ⟨g, 0, none⟩) n cap) (xs.set j ((xs[j]?.getD []).set i u)) := by
  refine ⟨?_, ?_⟩
  · intro x hx
    rcases List.mem_or_eq_of_mem_set hx with hx | rfl
    · exact h.1 x hx
    · rw [List.length_set]; exact h.len hj
  · rcases h.2 with ⟨h0, _⟩ | ⟨g', cap', cur, e', hx, hk, h1, h2, h3, h4⟩
    · cases h0
    · cases e'
      refine .inr ⟨g, cap, _, by rw [List.length_set], hx, hk.set_ _ u, by rw [List.length_set]; exact h1, h2, by simpa using h3, ?_⟩
      rw [List.length_set, Array.toList_setIfInBounds, List.take_set, h4]
      exact flat_set u h.1 hj hi
end
end Go.Proofs.Ytnmgnonbgihalaa

/-
  Rows of one's own: lists of numbers and of elements, appends. Of no function.
-/
namespace Go.Proofs.Ytnmgnonbgihalaa
open Go.RowKit RG

theorem RdRow.cells3 {w : World} {A : Option Addr} {n : Nat} {xs : List (List Value)} (h : RdRow w A n 3 xs) {j : Nat} (hj : j < n) :
    ∃ b off x0 x1 x2, A = some ⟨b, off, none⟩ ∧ b < w.heap.size ∧ xs[j]?.getD [] = [x0, x1, x2] ∧
      w.cell? ⟨b, off + j * 3, none⟩ = some x0 ∧ w.cell? ⟨b, off + j * 3 + 1, none⟩ = some x1 ∧ w.cell? ⟨b, off + j * 3 + 2, none⟩ = some x2 := by
  obtain ⟨b, off, e, hlt, hc⟩ := h.2.2 (by omega)
  obtain ⟨x0, x1, x2, hx⟩ : ∃ x0 x1 x2, xs[j]?.getD [] = [x0, x1, x2] := by
    have hl := h.len hj
    match hq : xs[j]?.getD [], hl with
    | [x0, x1, x2], _ => exact ⟨x0, x1, x2, rfl⟩
  have hc := fun i v => hc j i v
  rw [hx] at hc
  exact ⟨b, off, x0, x1, x2, e, hlt, hx, hc 0 x0 rfl, hc 1 x1 rfl, hc 2 x2 rfl⟩
def iCells (x : Int) : List Value := [.int .i64 x]
theorem map_at {α : Type} [Inhabited α] (f : α → List Value) (ss : List α) (k : Nat) (h : k < ss.length) : ((ss.map f)[k]?.getD []) = f (ss[k]?.getD default) := by
  rw [List.getElem?_map, List.getElem?_eq_getElem h]; rfl
theorem info_parts {t : TypeId} {z : Value} {k b : Nat} (h : (Try.prog.info? t).map (fun i => (i.zero, i.size, i.bytes)) = some (some z, k, b)) : ∃ i, Try.prog.info? t = some i ∧ i.zero = some z ∧ i.size = k ∧ i.bytes = b := by
  cases hi : Try.prog.info? t with
  | none => rw [hi] at h; cases h
  | some i =>
    rw [hi] at h
    simp only [Option.map_some, Option.some.injEq, Prod.mk.injEq] at h
    exact ⟨i, rfl, h.1, h.2.1, h.2.2⟩
theorem infoInt : (Try.prog.info? 3).map (fun i => (i.zero, i.size, i.bytes)) = some (some (.int .i64 0), 1, 8) := by kernel_rfl
section
variable {w w' : World} {X Y : Nat → Prop}
theorem RowAt.typed {e : TypeId} {k : Nat} {v : Value} {xs : List (List Value)} (h : RowAt w X e k v xs) {g : Nat} (hg : v.ownBlock = some g) : ∃ cur, Blk w g e cur := by
  rcases h.2 with ⟨rfl, _⟩ | ⟨g', cap, cur, rfl, _, hk, _⟩
  · simp [Value.ownBlock] at hg
  · have : g' = g := by simpa [Value.ownBlock] using hg
    subst this; exact ⟨cur, hk⟩
theorem RowAt.lt {e : TypeId} {k : Nat} {v : Value} {xs : List (List Value)} (h : RowAt w X e k v xs) {g : Nat} (hg : v.ownBlock = some g) : g < w.heap.size := by
  obtain ⟨cur, hk⟩ := h.typed hg
  exact hk.lt
theorem RowAt.ne_ {e e' : TypeId} {k k' : Nat} {v v' : Value} {xs xs' : List (List Value)} (h : RowAt w X e k v xs) (h' : RowAt w X e' k' v' xs') (hne : e ≠ e') {g : Nat} (hg : v.ownBlock = some g) : v'.ownBlock ≠ some g := by
  intro hg'
  obtain ⟨c1, h1⟩ := h.typed hg
  obtain ⟨c2, h2⟩ := h'.typed hg'
  exact h1.ne_ h2 hne rfl
theorem RowAt.nblk {e t : TypeId} {k g : Nat} {v : Value} {xs : List (List Value)} {cs : Array Value} (h : RowAt w X e k v xs) (hb : Blk w g t cs) (hne : e ≠ t) : v.ownBlock ≠ some g := by
  intro hg
  obtain ⟨c1, h1⟩ := h.typed hg
  exact h1.ne_ hb hne rfl
structure Grew (w w' : World) (v v' : Value) : Prop where
  grown : w.grownBy w' v.ownBlock
  at_ : v'.ownBlock = v.ownBlock ∨ ∃ g, v'.ownBlock = some g ∧ w.heap.size ≤ g
theorem Grew.row {v v' u : Value} (hg : Grew w w' v v') {e : TypeId} {k : Nat} {xs : List (List Value)} (h : RowAt w X e k u xs) (hne : ∀ g, u.ownBlock = some g → v.ownBlock ≠ some g) : RowAt w' X e k u xs :=
  h.blk fun g h1 h2 => hg.grown.block g h2 fun e' => hne g h1 e'.symm
theorem Grew.keptX {v v' : Value} (hg : Grew w w' v v') (ho : Old X w) (hv : ∀ g, v.ownBlock = some g → ¬ X g) : KeptX X w w' := KeptX.grown hg.grown ho hv
theorem Grew.blk {v v' : Value} (hg : Grew w w' v v') {g : Nat} {t : TypeId} {cs : Array Value} (hb : Blk w g t cs) (hne : v.ownBlock ≠ some g) : Blk w' g t cs := (hg.grown.block g hb.lt fun e => hne e.symm).trans hb
theorem Grew.ne_ {v v' u : Value} (hg : Grew w w' v v') {e : TypeId} {k : Nat} {xs : List (List Value)} (h : RowAt w X e k u xs) (hne : ∀ g, u.ownBlock = some g → v.ownBlock ≠ some g) : ∀ g, u.ownBlock = some g → v'.ownBlock ≠ some g := by
  intro g h1 h2
  rcases hg.at_ with h3 | ⟨g', h3, h4⟩
  · rw [h3] at h2; exact hne g h1 h2
  · rw [h3] at h2; cases h2; exact absurd (h.lt h1) (by omega)
end
def IsInts (xs : List Int) (v : Value) (w : World) : Prop := ∃ A c, v = .slice A xs.length c ∧ RdInts w A xs.length xs ∧ xs.length ≤ c
def IsRow (k : Nat) (xs : List (List Value)) (v : Value) (w : World) : Prop := ∃ A c, v = .slice A xs.length c ∧ RdRow w A xs.length k xs ∧ xs.length ≤ c ∧ c ≤ maxLen
theorem RowAt.shape {w : World} {X : Nat → Prop} {e : TypeId} {k : Nat} {v : Value} {xs : List (List Value)} (h : RowAt w X e k v xs) : ∃ A n c, v = .slice A n c := by
  obtain ⟨A, c, e, -⟩ := h.row
  exact ⟨A, _, c, e⟩
theorem RowAt.isRow {w : World} {X : Nat → Prop} {e : TypeId} {k : Nat} {v : Value} {xs : List (List Value)} (h : RowAt w X e k v xs) : IsRow k xs v w := by
  obtain ⟨A, c, e, h1, h2, h3, -⟩ := h.row
  exact ⟨A, c, e, h1, h2, h3⟩
theorem RowAt.isInts {w : World} {X : Nat → Prop} {v : Value} {xs : List Int} (h : RowAt w X 3 1 v (xs.map iCells)) : IsInts xs v w := by
  obtain ⟨A, c, e, h1, h2, h3, -⟩ := h.row
  rw [List.length_map] at e h1 h2
  refine ⟨A, c, e, ⟨rfl, fun hn => ?_⟩, h2⟩
  obtain ⟨b, off, e1, e2, hc⟩ := h1.2.2 hn
  refine ⟨b, off, e1, e2, fun j hj => ?_⟩
  have := hc j 0 (.int .i64 (xs[j]?.getD 0)) (by rw [List.getElem?_map, List.getElem?_eq_getElem hj]; rfl)
  rwa [Nat.mul_one, Nat.add_zero] at this
theorem IsRow.below {k : Nat} {xs : List (List Value)} {v : Value} {w w' : World} (h : IsRow k xs v w) (hb : Below w.heap.size w w') : IsRow k xs v w' := by
  obtain ⟨A, c, e, h1, h2⟩ := h
  exact ⟨A, c, e, h1.below hb, h2⟩
theorem IsInts.below {xs : List Int} {v : Value} {w w' : World} (h : IsInts xs v w) (hb : Below w.heap.size w w') : IsInts xs v w' := by
  obtain ⟨A, c, e, h1, h2⟩ := h
  exact ⟨A, c, e, h1.below hb, h2⟩
theorem row_cells {w : World} {A : Option Addr} {m k : Nat} {ys : List (List Value)} (h : RdRow w A m k ys) {a : Addr} (ha : A = some a) : ∀ j u, ys.flatten[j]? = some u → w.cell? (a.add j) = some u := by
  intro j u hj
  have hlen := (List.getElem?_eq_some_iff.1 hj).1
  rw [flat_len h.2.1, h.1] at hlen
  have hm : 0 < m := by
    rcases Nat.eq_zero_or_pos m with h0 | h0
    · subst h0; omega
    · exact h0
  have hk : 0 < k := by
    rcases Nat.eq_zero_or_pos k with h0 | h0
    · subst h0; omega
    · exact h0
  obtain ⟨b, off, e, _, hc⟩ := h.2.2 hm
  rw [ha] at e
  cases e
  have hdm : j / k * k + j % k = j := by rw [Nat.mul_comm]; exact Nat.div_add_mod j k
  have hj2 : j / k < m := Nat.div_lt_of_lt_mul (by rw [Nat.mul_comm]; exact hlen)
  have hi2 : j % k < k := Nat.mod_lt _ hk
  have hy : (ys[j / k]?.getD []).length = k := by
    rw [List.getElem?_eq_getElem (by rw [h.1]; exact hj2)]
    exact h.2.1 _ (List.getElem_mem _)
  obtain ⟨u', hu'⟩ : ∃ u', (ys[j / k]?.getD [])[j % k]? = some u' := ⟨_, List.getElem?_eq_getElem (by rw [hy]; exact hi2)⟩
  have h3 := (flat_get h.2.1 hu').2.2
  rw [hdm, hj] at h3
  cases h3
  have := hc _ _ _ hu'
  rw [Nat.add_assoc, hdm] at this
  rw [Addr.add_lit]
  exact this
/-- Whether two slices lie in one block. -/
def Disj (u v : Value) : Prop := ∀ g, u.ownBlock = some g → v.ownBlock ≠ some g
theorem Disj.symm {u v : Value} (h : Disj u v) : Disj v u := fun g h1 h2 => h g h2 h1
theorem disj_none {u : Value} {n c : Nat} : Disj u (.slice none n c) := fun g _ h2 => by simp [Value.ownBlock] at h2
/-- An append to a row of its own. -/
theorem app_row {W : World} {X : Nat → Prop} {t e ty : TypeId} {k bytes : Nat} {z : Value} (ht : Try.prog.underlying t = some (.slice e)) (hinfo : (Try.prog.info? e).map (fun i => (i.zero, i.size, i.bytes)) = some (some z, k, bytes)) (hzc : z.cells.size = k) (hk : 0 < k) (hb : bytes ≤ 1000)
    {v : Value} {xs : List (List Value)} (h : RowAt W X e k v xs) (ho : Old X W) {A : Option Addr} {m c : Nat} {ys : List (List Value)} (hy : RdRow W A m k ys) (hA : A = none → c = 0) (h1 : ∀ u ∈ ys.flatten, u.oneCell' = true) (hl : xs.length + m ≤ 1000000) :
    ∃ v' w4, (Builtin.append_ #[t, t] ty #[v, .slice A m c]).run Try.prog W = .ok v' w4 ∧ RowAt w4 X e k v' (xs ++ ys) ∧ KeptX X W w4 ∧ (∀ {e' : TypeId} {k' : Nat} {u : Value} {us : List (List Value)}, RowAt W X e' k' u us → Disj u v → RowAt w4 X e' k' u us ∧ Disj u v') := by
  obtain ⟨i0, hi, hz0, hz1, hz2⟩ := info_parts hinfo
  cases A with
  | none =>
    have hm : m = 0 := by
      rcases Nat.eq_zero_or_pos m with h0 | h0
      · exact h0
      · obtain ⟨b, off, e, _⟩ := hy.2.2 h0
        cases e
    subst hm
    obtain rfl : ys = [] := List.eq_nil_of_length_eq_zero hy.1
    rw [hA rfl]
    refine ⟨v, W, run_append_owned_none (P := Try.prog) W 0 t ty e i0 k ht hi v xs.length xs.flatten h.own, by rw [List.append_nil]; exact h, KeptX.refl _ _, fun hu hd => ⟨hu, hd⟩⟩
  | some a =>
    have hfl : ys.flatten.length = m * k := by rw [flat_len hy.2.1, hy.1]
    obtain ⟨v', w4, hrun, hown, hgrow, -, hat⟩ := run_append_own_at (P := Try.prog) W 0 t ty e i0 z k bytes ht hi hz0 hz1 hz2 hzc hk
      v xs.length xs.flatten h.own a m c ys.flatten hfl (row_cells hy rfl) h1 (by unfold maxLen; omega)
      (Nat.le_trans (Nat.mul_le_mul hl hb) (by decide)) (Nat.zero_le _)
    have hG : Grew W w4 v v' := ⟨hgrow, by rcases hat with h' | h'; exact .inl h'; exact .inr ⟨_, h', Nat.le_refl _⟩⟩
    refine ⟨v', w4, hrun, ?_, hG.keptX ho h.not, fun hu hd => ⟨hG.row hu hd, hG.ne_ hu hd⟩⟩
    refine rowAt_of ?_ ?_ ?_
    · intro x hx
      rcases List.mem_append.1 hx with h' | h'
      · exact h.1 x h'
      · exact hy.2.1 x h'
    · rw [List.length_append, hy.1, List.flatten_append]; exact hown
    · intro g hg hX
      rcases hat with h' | h'
      · exact h.not g (by rw [← h']; exact hg) hX
      · rw [hg] at h'; cases h'; exact absurd (ho _ hX) (Nat.lt_irrefl _)
/-- An append of one number that was just built. -/
theorem app_int {W : World} {X : Nat → Prop} {v : Value} {xs : List Int} (h : RowAt W X 3 1 v (xs.map iCells)) (ho : Old X W) (hl : xs.length ≤ 999999) (x : Int) :
    ∃ v' w4, (Builtin.append_ #[23, 23] 23 #[v, .slice (some ⟨W.heap.size, 0, none⟩) 1 1]).run Try.prog (W.alloc (.cells #[.int .i64 x] 3)) = .ok v' w4 ∧ RowAt w4 X 3 1 v' ((xs ++ [x]).map iCells) ∧ KeptX X W w4 ∧ (∀ {e' : TypeId} {k' : Nat} {u : Value} {us : List (List Value)}, RowAt W X e' k' u us → Disj u v → RowAt w4 X e' k' u us ∧ Disj u v') := by
  have hb := (Below.refl W.heap.size W).alloc (Nat.le_refl _) (.cells #[.int .i64 x] 3)
  have hk : Blk (W.alloc (.cells #[.int .i64 x] 3)) W.heap.size 3 #[.int .i64 x] := blkNew rfl
  obtain ⟨v', w4, h1, h2, h3, h4⟩ := app_row (W := W.alloc (.cells #[.int .i64 x] 3)) (X := X) (ty := 23) Try.underlying23 infoInt rfl (by decide) (by decide) (h.below hb) (ho.kept (KeptX.alloc W ho _)) (A := some ⟨W.heap.size, 0, none⟩) (m := 1) (c := 1) (ys := [iCells x])
    ⟨rfl, fun y hy => by rw [List.mem_singleton] at hy; subst hy; rfl, fun _ => ⟨_, 0, rfl, hk.lt, fun j i u hu => by
      obtain ⟨h5, h6, h7⟩ := flat_get (k := 1) (xs := [iCells x]) (fun y hy => by rw [List.mem_singleton] at hy; subst hy; rfl) hu
      have hj : j = 0 := by simpa using h5
      have hi : i = 0 := by omega
      subst hj; subst hi
      have hu' : u = .int .i64 x := by
        have : some (Value.int .i64 x) = some u := h7
        cases this; rfl
      subst hu'
      exact hk.cell 0⟩⟩ (fun h => by cases h) (fun u hu => by
      have : u = .int .i64 x := by simpa [iCells] using hu
      subst this; rfl) (by rw [List.length_map]; omega)
  refine ⟨v', w4, h1, by rw [List.map_append]; exact h2, (KeptX.alloc W ho _).trans h3, fun hu hd => h4 (hu.below hb) hd⟩
theorem rowAt_nil (w : World) (X : Nat → Prop) (e : TypeId) (k : Nat) : RowAt w X e k (.slice none 0 0) [] := ⟨(fun _ h => by cases h), .inl ⟨rfl, rfl⟩⟩
theorem rowAt_new {w : World} {X : Nat → Prop} {e : TypeId} (k : Nat) {g : Nat} (h : Blk w g e #[]) (hx : ¬ X g) : RowAt w X e k (.slice (some ⟨g, 0, none⟩) 0 0) [] :=
  ⟨(fun _ h => by cases h), .inr ⟨g, 0, #[], rfl, hx, h, Nat.le_refl _, by unfold maxLen; omega, by simp, by simp⟩⟩
theorem rowInt_set {w : World} {X : Nat → Prop} {g n cap : Nat} {xs : List Int} (h : RowAt w X 3 1 (.slice (some ⟨g, 0, none⟩) n cap) (xs.map iCells)) {j : Nat} (hj : j < xs.length) (x : Int) :
    RowAt (w.setCell ⟨g, j, none⟩ (.int .i64 x)) X 3 1 (.slice (some ⟨g, 0, none⟩) n cap) ((xs.set j x).map iCells) := by
  have h1 := h.set (j := j) (i := 0) (by rw [List.length_map]; exact hj) (by decide) (.int .i64 x)
  rw [Nat.mul_one, Nat.add_zero] at h1
  have h2 : (xs.map iCells)[j]?.getD [] = iCells (xs[j]'hj) := by rw [List.getElem?_map, List.getElem?_eq_getElem hj]; rfl
  rw [h2, show (iCells (xs[j]'hj)).set 0 (.int .i64 x) = iCells x from rfl, ← List.map_set] at h1
  exact h1
theorem one_int {xs : List Int} : ∀ u ∈ (xs.map iCells).flatten, u.oneCell' = true := by
  intro u hu
  obtain ⟨x, hx, h⟩ := List.mem_flatten.1 hu
  obtain ⟨e, _, rfl⟩ := List.mem_map.1 hx
  unfold iCells at h
  simp only [List.mem_cons, List.not_mem_nil, or_false] at h
  subst h; rfl
end Go.Proofs.Ytnmgnonbgihalaa

/-
  Stands as keys of a map; arrays of what is needed, compared.
-/
namespace Go.Proofs.Ytnmgnonbgihalaa
open Go.RowKit Go.Maps

theorem laidOut : laidOutB Try.prog = true := by kernel_rfl
theorem stLaw : Keyed Try.prog 113 := Keyed.of_law (deep_law_laid laidOut (m := 3) (by omega) (of_decide_eq_true (by kernel_rfl)) (by kernel_rfl) (by rw [Try.underlying113]))
/-- A stand as a value. -/
def stV (k a b c d l : Int) : Value := .agg #[.int .i64 k, .int .i64 a, .int .i64 b, .int .i64 c, .int .i64 d, .int .i64 l]
def litS (k a b c d l : Int) : Lit := .string (keyBytes [.int .i64 k, .int .i64 a, .int .i64 b, .int .i64 c, .int .i64 d, .int .i64 l])
theorem tySize : ∃ m, Try.prog.types.size = m + 2 := by
  have : 2 ≤ Try.prog.types.size := of_decide_eq_true (by kernel_rfl)
  exact ⟨Try.prog.types.size - 2, by omega⟩
theorem stCells : Try.prog.cellsOf 113 = 6 := by kernel_rfl
theorem neCells : Try.prog.cellsOf 107 = 4 := by kernel_rfl
theorem intCells1 : Try.prog.cellsOf 3 = 1 := by kernel_rfl
theorem stKeyT : Try.prog.keyType 113 = true := by kernel_rfl
/-- Numbers that a key can hold. -/
def Wf6 (k a b c d l : Int) : Prop := (Lit.int .i64 k).wf = true ∧ (Lit.int .i64 a).wf = true ∧ (Lit.int .i64 b).wf = true ∧ (Lit.int .i64 c).wf = true ∧ (Lit.int .i64 d).wf = true ∧ (Lit.int .i64 l).wf = true
theorem keyOf_st {k a b c d l : Int} (h : Wf6 k a b c d l) : keyOf Try.prog 113 (stV k a b c d l) = some (litS k a b c d l) := by
  obtain ⟨h1, h2, h3, h4, h5, h6⟩ := h
  obtain ⟨m, hm⟩ := tySize
  have hf : (stV k a b c d l).formed Try.prog 113 = true := by simp [Value.formed, stV, Try.underlying113, stCells]
  have hl : Try.prog.keyLits (Try.prog.types.size + 1) 113 (stV k a b c d l).cells.toList = some [.int .i64 k, .int .i64 a, .int .i64 b, .int .i64 c, .int .i64 d, .int .i64 l] := by
    rw [hm]
    simp [Program.keyLits, stV, Value.cells, Try.underlying113, Try.underlying107, Try.underlying3, stCells, neCells, intCells1, h1, h2, h3, h4, h5, h6, List.range_succ]
  simp only [keyOf, Try.underlying113, stKeyT, hf, hl, litS]
  rfl
theorem litS_key {k a b c d l : Int} (h : Wf6 k a b c d l) : WideAt.IsKeyLit (litS k a b c d l) := stLaw.key (keyOf_st h)
theorem litS_inj {k a b c d l k' a' b' c' d' l' : Int} (h : Wf6 k a b c d l) (h' : Wf6 k' a' b' c' d' l') (e : litS k a b c d l = litS k' a' b' c' d' l') : k = k' ∧ a = a' ∧ b = b' ∧ c = c' ∧ d = d' ∧ l = l' := by
  have := stLaw.inj (keyOf_st h) (by rw [e]; exact keyOf_st h')
  simp only [stV, Value.agg.injEq] at this
  have := congrArg Array.toList this
  simpa using this
/-- What is needed, compared with nothing. -/
theorem eqNeeds (a b c d : Int) (w : World) (ha : (Lit.int .i64 a).wf = true) (hb : (Lit.int .i64 b).wf = true) (hc : (Lit.int .i64 c).wf = true) (hd : (Lit.int .i64 d).wf = true) :
    (binOp .eql 107 (.agg #[.int .i64 a, .int .i64 b, .int .i64 c, .int .i64 d]) (.agg #[.int .i64 0, .int .i64 0, .int .i64 0, .int .i64 0])).run Try.prog w = .ok (.bool (decide ([a, b, c, d] = [0, 0, 0, 0]))) w := by
  obtain ⟨m, hm⟩ := tySize
  have hk : Try.prog.keyTypeAt 2 107 = true := by kernel_rfl
  have hz : (Lit.int .i64 0).wf = true := by decide
  obtain ⟨r, hr, hiff⟩ := run_equalIn_deep (P := Try.prog) 9998 2 107 hk w 2 2 (.agg #[.int .i64 a, .int .i64 b, .int .i64 c, .int .i64 d]) (.agg #[.int .i64 0, .int .i64 0, .int .i64 0, .int .i64 0]) [.int .i64 a, .int .i64 b, .int .i64 c, .int .i64 d] [.int .i64 0, .int .i64 0, .int .i64 0, .int .i64 0]
    (by simp [Value.formed, Try.underlying107]; exact neCells.symm) (by simp [Value.formed, Try.underlying107]; exact neCells.symm)
    (by simp [Program.keyLits, Value.cells, Try.underlying107, Try.underlying3, intCells1, ha, hb, hc, hd, List.range_succ]; exact neCells.symm)
    (by simp [Program.keyLits, Value.cells, Try.underlying107, Try.underlying3, intCells1, hz, List.range_succ]; exact neCells.symm)
  rw [run_eql_struct]
  rw [show (10000 : Nat) = 9998 + 2 from rfl, hr, Result.andThen_ok]
  have e : r = decide ([a, b, c, d] = [0, 0, 0, 0]) := by
    rw [Bool.eq_iff_iff, hiff, decide_eq_true_iff]
    simp
  rw [e]
end Go.Proofs.Ytnmgnonbgihalaa
