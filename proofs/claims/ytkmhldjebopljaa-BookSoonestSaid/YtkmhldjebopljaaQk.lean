import Derived.Test.YtkmhldjebopljaaQj
import Derived.Test.YtkmhldjebopljaaQg
import Derived.Test.YtkmhldjebopljaaPz
/-
  The rule of XRegVA, where the blocks that some operations make differ.
-/
namespace Go.Proofs.Ytkmhldjebopljaa.RG
open Go

section
variable {P : Program}
/-- The block that a value points into. -/
def blkOf : Value → Option Nat
  | .slice (some a) _ _ => some a.block
  | .pointer (some a) => some a.block
  | _ => none
/-- The blocks that were made differ. -/
def DiffB (al : List Nat) (f : Nat → Bool) (y : Nat → Value) : Prop := ∀ i ∈ al, ∀ j ∈ al, i ≠ j → f i = true → f j = true → blkOf (y i) ≠ blkOf (y j)
/-- An operation that makes a block of its own. -/
def OneAl (P : Program) (ops : Array Oper) (V : Value → World → Prop) (w0 : World) (a0 : Act) (o : Oper) : Prop :=
  ∀ (y : Nat → Value) (w : World) (K : Act → World → Prop) (Q : Exit → Act → World → Prop) (Cv : Value → World → Prop), Go.RowKit.Below w0.heap.size w0 w →
    (∀ v w', Go.RowKit.Below w0.heap.size w0 w' → Go.RowKit.Below w.heap.size w w' → V v w' → blkOf v = some w.heap.size → Cv v w') → (∀ v w', Cv v w' → K ((putAll ops.toList 0 y a0).put o.dst v) w') →
    if Region.wanted o (yielded ops (putAll ops.toList 0 y a0).tmps) then o.wp P (putAll ops.toList 0 y a0) w K Q else K ((putAll ops.toList 0 y a0).put o.dst undef) w
/-- An operation that changes more than it makes: what it keeps. -/
def OneSD (P : Program) (l : List Oper) (L L2 : List (Value → World → Prop)) (ql : List (Nat × Nat)) (al : List Nat) (w0 : World) (a0 : Act) (i : Nat) (o : Oper) (ms : List Nat) : Prop :=
  ∃ Sp : (Nat → Value) → World → World → Prop, OneS1 P l.toArray (setL ms L) w0 a0 i o Sp ∧ ∀ y u u' k b, k ≠ i → ancB l l.length i k = false → Go.RowKit.Below w0.heap.size w0 u → Sp y u u' → VB L L2 b k (y k) u → (∀ e ∈ o.after.toList, Region.binds .any e = true → e.on ∈ al → k ∈ al → e.on ≠ k → blkOf (y e.on) ≠ blkOf (y k)) → (ql.lookup k = some i → b = false) → (∀ j, ql.lookup k = some j → ancB l l.length j i = true → b = true) → (∀ j, ql.lookup k = some j → ancB l l.length i j = true → b = false) → VB L L2 (b || decide (ql.lookup k = some i)) k (y k) u'
def OneKD (P : Program) (l : List Oper) (L L2 : List (Value → World → Prop)) (ql : List (Nat × Nat)) (al : List Nat) (w0 : World) (a0 : Act) (i : Nat) (o : Oper) : Prop :=
  ∃ ms, dqY ql i o ms = true ∧ (i ∉ al ∧ One P l.toArray (Go.RowKit.Below w0.heap.size w0) (fun u u' => Go.RowKit.Below u.heap.size u u') (VL (setL ms L)) a0 i o ∧ (∀ k, ql.lookup k = some i → ∀ v w, VL L k v w → VL L2 k v w) ∨ i ∉ al ∧ OneSD P l L L2 ql al w0 a0 i o ms ∨ OneAl P l.toArray (VL L i) w0 a0 o ∧ (∀ k, ql.lookup k = some i → ∀ v w, VL L k v w → VL L2 k v w))
def AllKD (P : Program) (l0 : List Oper) (L L2 : List (Value → World → Prop)) (ql : List (Nat × Nat)) (al : List Nat) (w0 : World) (a0 : Act) : List Oper → Nat → Prop
  | [], _ => True
  | o :: r, i => OneKD P l0 L L2 ql al w0 a0 i o ∧ AllKD P l0 L L2 ql al w0 a0 r (i + 1)
def InvD (l : List Oper) (L L2 : List (Value → World → Prop)) (ql : List (Nat × Nat)) (al : List Nat) (w0 : World) (f : Nat → Bool) (y : Nat → Value) (w : World) : Prop := InvK l L L2 ql w0 f y w ∧ DiffB al f y
theorem invKD_one {l : List Oper} {L L2 : List (Value → World → Prop)} {ql : List (Nat × Nat)} {al : List Nat} {w0 : World} {a0 : Act} (hq : qlB l ql = true) (h1 : AllStb L) (h2 : AllStb L2) (hal : ∀ k ∈ al, ∀ b v w, VB L L2 b k v w → ∃ g, blkOf v = some g ∧ g < w.heap.size) {i : Nat} {o : Oper} (ho : l[i]? = some o) (h : OneKD P l L L2 ql al w0 a0 i o) : OneI P l.toArray (InvD l L L2 ql al w0) a0 i o := by
  intro f y w K Q Cv hI hf hdep hCv hK
  obtain ⟨⟨hcl, hB, hv⟩, hD⟩ := hI
  -- what uses a word up waits for it
  have hql : ∀ k j, ql.lookup k = some j → f j = true → f k = true := by
    intro k j hl hj
    have := List.all_eq_true.1 hq _ (lookup_mem hl)
    simp only [Bool.and_eq_true] at this
    have h3 := this.1
    unfold depE at h3
    split at h3
    · rename_i o' ho'
      rw [List.any_eq_true] at h3
      obtain ⟨e, he, hb⟩ := h3
      simp only [Bool.and_eq_true, beq_iff_eq] at hb
      have := hcl j o' hj ho' e he hb.1
      rwa [hb.2] at this
    · cases h3
  have hne : ∀ k j, ql.lookup k = some j → k ≠ j := by
    intro k j hl
    have := List.all_eq_true.1 hq _ (lookup_mem hl)
    simp only [Bool.and_eq_true, bne_iff_ne, ne_eq] at this
    exact this.2
  obtain ⟨ms, hdq, h⟩ := h
  unfold dqY at hdq
  rw [Bool.and_eq_true] at hdq
  have hmi : i ∉ ms := by simpa using hdq.2
  have hdy : deps (VL (setL ms L)) y w o.after.toList := deps_of _ fun e he hb => by
    have h3 := List.all_eq_true.1 hdq.1 e he
    rw [hb, Bool.not_true, Bool.false_or, Bool.or_eq_true] at h3
    rw [VL_setL]
    rcases h3 with h3 | h3
    · exact .inl (by simpa using h3)
    · right
      have h4 := hv _ (hdep e he hb)
      unfold flagQ at h4
      cases hl : ql.lookup e.on with
      | none => rw [hl] at h4; exact h4
      | some j =>
        rw [hl] at h3 h4
        have : j = i := by simpa using h3
        subst this
        simp only [hf] at h4
        exact h4
  have hcl2 : ∀ k o', (decide (k = i) || f k) = true → l[k]? = some o' → ∀ e ∈ o'.after.toList, Region.binds .any e = true → (decide (e.on = i) || f e.on) = true := by
    intro k o' hk ho' e he hb
    rw [Bool.or_eq_true]
    right
    by_cases e' : k = i
    · subst e'
      rw [ho] at ho'; cases ho'
      exact hdep e he hb
    · exact hcl k o' (by simpa [e'] using hk) ho' e he hb
  have hself : flagQ ql (fun k => decide (k = i) || f k) i = false := by
    unfold flagQ
    cases hl : ql.lookup i with
    | none => rfl
    | some j =>
      have h3 : j ≠ i := fun e => hne i j hl e.symm
      have h4 : f j = false := by
        cases hj : f j with
        | false => rfl
        | true => rw [hql i j hl hj] at hf; cases hf
      simp [h3, h4]
  have hflag : ∀ k, flagQ ql (fun k => decide (k = i) || f k) k = (flagQ ql f k || decide (ql.lookup k = some i)) := by
    intro k
    unfold flagQ
    cases hl : ql.lookup k with
    | none => rfl
    | some j =>
      by_cases e : j = i
      · subst e; simp
      · simp [e]
  have hfl0 : ∀ k, ql.lookup k = some i → flagQ ql f k = false := by
    intro k hl
    unfold flagQ
    rw [hl]
    exact hf
  have hgrow : ∀ v w', Go.RowKit.Below w0.heap.size w0 w' → Go.RowKit.Below w.heap.size w w' → VL L i v w' → (∀ k, ql.lookup k = some i → ∀ v w, VL L k v w → VL L2 k v w) → InvK l L L2 ql w0 (fun k => decide (k = i) || f k) (upd y i v) w' := by
    intro v w' hC hR hV hcv
    refine ⟨hcl2, hC, fun k hk => ?_⟩
    by_cases e : k = i
    · subst e
      rw [hself]
      unfold upd
      rw [if_pos rfl]
      exact hV
    · have hfk : f k = true := by simpa [e] using hk
      have h3 := hv k hfk
      unfold upd
      rw [if_neg e, hflag]
      by_cases hl : ql.lookup k = some i
      · rw [hfl0 k hl] at h3
        rw [decide_eq_true hl, Bool.or_true]
        exact hcv k hl _ _ (h1.at_ k _ _ _ hR h3)
      · rw [decide_eq_false hl, Bool.or_false]
        cases hb : flagQ ql f k with
        | false => rw [hb] at h3; exact h1.at_ k _ _ _ hR h3
        | true => rw [hb] at h3; exact h2.at_ k _ _ _ hR h3
  have hDk : i ∉ al → ∀ v, DiffB al (fun k => decide (k = i) || f k) (upd y i v) := by
    intro hia v a ha b hb hab hfa hfb
    have e1 : a ≠ i := fun e => hia (e ▸ ha)
    have e2 : b ≠ i := fun e => hia (e ▸ hb)
    unfold upd
    rw [if_neg e1, if_neg e2]
    exact hD a ha b hb hab (by simpa [e1] using hfa) (by simpa [e2] using hfb)
  rcases h with ⟨hia, hG, hcv⟩ | ⟨hia, Sp, hS, hsp⟩ | ⟨hA, hcv⟩
  · exact hG y w K Q Cv hB hdy (fun v w' hC hR hV => hCv v w' ⟨hgrow v w' hC hR (((VL_setL _ _ _ _ _).1 hV).resolve_left hmi) hcv, hDk hia v⟩) hK
  · refine hS y w K Q Cv hB hdy (fun v w' hC hR hV => hCv v w' ⟨⟨hcl2, hC, fun k hk => ?_⟩, hDk hia v⟩) hK
    by_cases e : k = i
    · subst e
      rw [hself]
      unfold upd
      rw [if_pos rfl]
      exact ((VL_setL _ _ _ _ _).1 hV).resolve_left hmi
    · have hfk : f k = true := by simpa [e] using hk
      have h3 := hv k hfk
      unfold upd
      rw [if_neg e, hflag]
      refine hsp y w w' k _ e ?_ hB hR h3 (fun e' he' hb' h5 h6 h7 => hD _ h5 _ h6 h7 (hdep e' he' hb') hfk) (fun hl => hfl0 k hl) ?_ ?_
      · cases hx : ancB l l.length i k with
        | false => rfl
        | true =>
          exfalso
          cases hok' : l[k]? with
          | none =>
            have : ancB l l.length i k = false := by
              cases l.length with
              | zero => rfl
              | succ d => unfold ancB; rw [hok']
            rw [this] at hx; cases hx
          | some o' =>
            have := anc_done hcl l.length i k o' hok' (hcl k o' hfk hok') hx
            rw [hf] at this; cases this
      · intro j hl ha
        have := anc_done hcl l.length j i o ho hdep ha
        unfold flagQ
        rw [hl]
        exact this
      · intro j hl ha
        unfold flagQ
        rw [hl]
        cases hfj : f j with
        | false => exact hfj
        | true =>
          exfalso
          cases hoj : l[j]? with
          | none =>
            have : ancB l l.length i j = false := by
              cases l.length with
              | zero => rfl
              | succ d => unfold ancB; rw [hoj]
            rw [this] at ha; cases ha
          | some o' =>
            have := anc_done hcl l.length i j o' hoj (hcl j o' hfj hoj) ha
            rw [hf] at this; cases this
  · refine hA y w K Q Cv hB (fun v w' hC hR hV hown => hCv v w' ⟨hgrow v w' hC hR hV hcv, ?_⟩) hK
    have hnew : ∀ b ∈ al, f b = true → blkOf (y b) ≠ some w.heap.size := by
      intro b hb hfb e
      obtain ⟨g, eg, hg⟩ := hal b hb _ _ _ (hv b hfb)
      rw [eg] at e
      injection e with e
      omega
    intro a ha b hb hab hfa hfb
    unfold upd
    by_cases e1 : a = i
    · have e2 : b ≠ i := fun e => hab (e1.trans e.symm)
      rw [if_pos e1, if_neg e2, hown]
      exact fun e => hnew b hb (by simpa [e2] using hfb) e.symm
    · rw [if_neg e1]
      by_cases e2 : b = i
      · rw [if_pos e2, hown]
        exact hnew a ha (by simpa [e1] using hfa)
      · rw [if_neg e2]
        exact hD a ha b hb hab (by simpa [e1] using hfa) (by simpa [e2] using hfb)
theorem AllKD.all {l : List Oper} {L L2 : List (Value → World → Prop)} {ql : List (Nat × Nat)} {al : List Nat} {w0 : World} {a0 : Act} (hq : qlB l ql = true) (h1 : AllStb L) (h2 : AllStb L2) (hal : ∀ k ∈ al, ∀ b v w, VB L L2 b k v w → ∃ g, blkOf v = some g ∧ g < w.heap.size) : ∀ (r : List Oper) (i : Nat), (∀ k o, r[k]? = some o → l[i + k]? = some o) → AllKD P l L L2 ql al w0 a0 r i → AllI P l.toArray (InvD l L L2 ql al w0) a0 r i
  | [], _, _, _ => trivial
  | o :: r, i, hl, h => ⟨invKD_one hq h1 h2 hal (hl 0 o rfl) h.1, AllKD.all hq h1 h2 hal r (i + 1) (fun k o' hk => by have := hl (k + 1) o' (by simpa using hk); rwa [show i + (k + 1) = i + 1 + k by omega] at this) h.2⟩
/-- THE RULE. -/
theorem region_vd {id : Nat} {Q : Exit → Act → World → Prop} {a : Act} {w : World} {l : List Oper} (L L2 : List (Value → World → Prop)) (ql : List (Nat × Nat)) (al : List Nat)
    (hm : P.follows .mixedOrders = true) (hok : okB l 0 = true) (hq : qlB l ql = true) (h1 : AllStb L) (h2 : AllStb L2)
    (hal : ∀ k ∈ al, ∀ b v w, VB L L2 b k v w → ∃ g, blkOf v = some g ∧ g < w.heap.size)
    (hall : AllKD P l L L2 ql al w a l 0)
    (hend : ∀ y w', Go.RowKit.Below w.heap.size w w' → (∀ k, k < l.length → VB L L2 (ql.lookup k).isSome k (y k) w') → (∀ i ∈ al, ∀ j ∈ al, i ≠ j → i < l.length → j < l.length → blkOf (y i) ≠ blkOf (y j)) → Q .normal (putAll l 0 y a) w') :
    (Code.region id l.toArray true).wp P Q a w := by
  refine region_inv (InvD l L L2 ql al w) hm hok (fun y => ⟨⟨(fun k o hk => by cases hk), (Go.RowKit.Below.refl _ _).drew, (fun k hk => by cases hk)⟩, fun i _ j _ _ h => by cases h⟩) (AllKD.all hq h1 h2 hal l 0 (fun k o hk => by rwa [Nat.zero_add]) hall) ?_
  rintro f y w' hf ⟨⟨-, hB, hv⟩, hD⟩
  refine hend y w' hB (fun k hk => ?_) (fun i hi j hj hij h5 h6 => hD i hi j hj hij (hf i h5) (hf j h6))
  have h3 := hv k (hf k hk)
  unfold flagQ at h3
  cases hl : ql.lookup k with
  | none => rw [hl] at h3; exact h3
  | some j =>
    rw [hl] at h3
    have hj : j < l.length := by
      have := List.all_eq_true.1 hq _ (lookup_mem hl)
      simp only [Bool.and_eq_true] at this
      have h4 := this.1
      unfold depE at h4
      split at h4
      · rename_i o' ho'
        exact (List.getElem?_eq_some_iff.1 ho').1
      · cases h4
    simp only [hf j hj] at h3
    exact h3
end
theorem dif_on {es : List Edge} {al : List Nat} {k : Nat} {y : Nat → Value} (h : ∀ e ∈ es, Region.binds .any e = true → e.on ∈ al → k ∈ al → e.on ≠ k → blkOf (y e.on) ≠ blkOf (y k)) : ∀ j, depB es j = true → j ∈ al → k ∈ al → j ≠ k → blkOf (y j) ≠ blkOf (y k) := by
  intro j hj h1 h2 h3
  unfold depB at hj
  rw [List.any_eq_true] at hj
  obtain ⟨e, he, hb⟩ := hj
  simp only [Bool.and_eq_true, beq_iff_eq] at hb
  obtain ⟨hb, rfl⟩ := hb
  exact h e he hb h1 h2 h3
theorem lk2 {a b c d k i : Nat} (h1 : i ≠ b) (h2 : i ≠ d) : ¬ List.lookup k [(a, b), (c, d)] = some i := by
  intro h
  have := lookup_mem h
  simp only [List.mem_cons, Prod.mk.injEq, List.not_mem_nil, or_false] at this
  omega
/-- What the obligation of an operation that makes a block may know of the frame. -/
theorem al_fr {P : Program} {l : List Oper} {V : Value → World → Prop} {w0 : World} {a0 : Act} {o : Oper} (hok : okB l 0 = true) (hg : decide (o.guard = none) = true)
    (h : ∀ (T : Act) (y : Nat → Value) (w : World) (K : Act → World → Prop) (Q : Exit → Act → World → Prop) (Cv : Value → World → Prop), Fr l a0 y T → Go.RowKit.Below w0.heap.size w0 w →
      (∀ v w', Go.RowKit.Below w0.heap.size w0 w' → Go.RowKit.Below w.heap.size w w' → V v w' → blkOf v = some w.heap.size → Cv v w') → (∀ v w', Cv v w' → K (T.put o.dst v) w') → o.wp P T w K Q) : OneAl P l.toArray V w0 a0 o := by
  intro y w K Q Cv hC hV hK
  have hget : ∀ j d, atB l a0.tmps.size j d = true → (putAll l 0 y a0).tmps.getD d undef = y j := fun j d hb => by
    obtain ⟨⟨o, h1, h2⟩, h3⟩ := atB_of hb
    have := putAll_get l 0 y a0 j o d hok h1 h2 h3; rwa [Nat.zero_add] at this
  have hF : Fr l a0 y (putAll l.toArray.toList 0 y a0) := ⟨hget, fun d v h hv => (putAll_old l 0 y a0 d h).trans hv⟩
  have hw : Region.wanted o (yielded l.toArray (putAll l.toArray.toList 0 y a0).tmps) = true := by
    simp [Region.wanted, of_decide_eq_true hg]
  rw [if_pos hw]
  exact h _ y w K Q Cv hF hC hV hK
end Go.Proofs.Ytkmhldjebopljaa.RG

/-
  A lesson that is stored into a block that was made for it. Of no function.
-/
namespace Go.Proofs.Ytkmhldjebopljaa
open Go.RowKit RG

def zLes : Array Value := #[.int .i64 0, .int .i64 0, .int .i64 0, .int .i64 0, .int .i64 0]
def LesZ (n : Nat) : Value → World → Prop := fun v W => ∃ g, v = .pointer (some ⟨g, 0, none⟩) ∧ n ≤ g ∧ Blk W g 63 zLes
def LesS (n : Nat) (l : Les) : Value → World → Prop := fun v W => ∃ g, v = .pointer (some ⟨g, 0, none⟩) ∧ n ≤ g ∧ Blk W g 63 (lesCells l).toArray
theorem LesZ.stb (n : Nat) : Stb (LesZ n) := fun _ _ _ hb ⟨g, e, h1, h2⟩ => ⟨g, e, h1, h2.below hb h2.lt⟩
theorem LesS.stb (n : Nat) (l : Les) : Stb (LesS n l) := fun _ _ _ hb ⟨g, e, h1, h2⟩ => ⟨g, e, h1, h2.below hb h2.lt⟩
theorem Blk.stored {u u' : World} {g b : Nat} {t : TypeId} {cs : Array Value} (h : Blk u b t cs) (hs : Stored g u u') (hne : b ≠ g) : Blk u' b t cs := (hs.block b hne).trans h
theorem Stored.set1 (u : World) (g i : Nat) (v : Value) : Stored g u (u.setCell ⟨g, i, none⟩ v) := ⟨rfl, rfl, rfl, by simp, fun _ hk => Below.heap_setCell _ _ _ _ hk⟩
theorem Stored.trans {u v w : World} {g : Nat} (h : Stored g u v) (h' : Stored g v w) : Stored g u w :=
  ⟨h'.os.trans h.os, h'.tape.trans h.tape, h'.output.trans h.output, h'.size.trans h.size, fun b hb => (h'.block b hb).trans (h.block b hb)⟩
/-- The store of a lesson into a block of its own. -/
theorem stored_les {u : World} {g : Nat} (h : Blk u g 63 zLes) (a b c d e : Value) :
    Stored g u (((((u.setCell ⟨g, 0, none⟩ a).setCell ⟨g, 1, none⟩ b).setCell ⟨g, 2, none⟩ c).setCell ⟨g, 3, none⟩ d).setCell ⟨g, 4, none⟩ e) ∧ Blk (((((u.setCell ⟨g, 0, none⟩ a).setCell ⟨g, 1, none⟩ b).setCell ⟨g, 2, none⟩ c).setCell ⟨g, 3, none⟩ d).setCell ⟨g, 4, none⟩ e) g 63 #[a, b, c, d, e] := by
  refine ⟨((((Stored.set1 _ _ _ _).trans (Stored.set1 _ _ _ _)).trans (Stored.set1 _ _ _ _)).trans (Stored.set1 _ _ _ _)).trans (Stored.set1 _ _ _ _), ?_⟩
  have h4 := ((((h.set_ 0 a).set_ 1 b).set_ 2 c).set_ 3 d).set_ 4 e
  have e : (((((zLes.setIfInBounds 0 a).setIfInBounds 1 b).setIfInBounds 2 c).setIfInBounds 3 d).setIfInBounds 4 e) = #[a, b, c, d, e] := rfl
  rw [e] at h4
  exact h4
end Go.Proofs.Ytkmhldjebopljaa

/-
  A value of many cells that is stored into a block that was made for it. Of no function.
-/
namespace Go.Proofs.Ytkmhldjebopljaa
open Go.RowKit RG

/-- A pointer to a block of one's own. -/
def PtrB (n : Nat) (t : TypeId) (cs : Array Value) : Value → World → Prop := fun v W => ∃ g, v = .pointer (some ⟨g, 0, none⟩) ∧ n ≤ g ∧ Blk W g t cs
theorem PtrB.stb (n : Nat) (t : TypeId) (cs : Array Value) : Stb (PtrB n t cs) := fun _ _ _ hb ⟨g, e, h1, h2⟩ => ⟨g, e, h1, h2.below hb h2.lt⟩
theorem PtrB.own {n : Nat} {t : TypeId} {cs : Array Value} {v : Value} {W : World} (h : PtrB n t cs v W) : ∃ g, blkOf v = some g ∧ g < W.heap.size := by
  obtain ⟨g, rfl, -, h2⟩ := h; exact ⟨g, rfl, h2.lt⟩
theorem PtrB.stored {n g : Nat} {t : TypeId} {cs : Array Value} {v : Value} {u u' : World} (h : PtrB n t cs v u) (hs : Stored g u u') (hne : blkOf (.pointer (some ⟨g, 0, none⟩)) ≠ blkOf v) : PtrB n t cs v u' := by
  obtain ⟨g', rfl, h1, h2⟩ := h
  exact ⟨g', rfl, h1, Blk.stored h2 hs (fun e => hne (by rw [e]))⟩
/-- Cells that are written one behind the other. -/
def putCells (g : Nat) : Nat → List Value → World → World
  | _, [], u => u
  | i, v :: r, u => putCells g (i + 1) r (u.setCell ⟨g, i, none⟩ v)
theorem stored_from {g : Nat} {t : TypeId} : ∀ (vs pre : List Value) (post : List Value) {u : World}, vs.length = post.length → Blk u g t (pre ++ post).toArray → Stored g u (putCells g pre.length vs u) ∧ Blk (putCells g pre.length vs u) g t (pre ++ vs).toArray
  | [], pre, post, u, hl, h => by
    have : post = [] := List.length_eq_zero_iff.1 hl.symm
    subst this
    exact ⟨⟨rfl, rfl, rfl, rfl, fun _ _ => rfl⟩, h⟩
  | v :: r, pre, [], u, hl, h => by simp at hl
  | v :: r, pre, p :: post, u, hl, h => by
    have h1 : Blk (u.setCell ⟨g, pre.length, none⟩ v) g t ((pre ++ [v]) ++ post).toArray := by
      have := h.set_ pre.length v
      simpa using this
    have := stored_from r (pre ++ [v]) post (by simpa using hl) h1
    rw [List.length_append] at this
    obtain ⟨h2, h3⟩ := this
    refine ⟨(Stored.set1 u g pre.length v).trans h2, ?_⟩
    simpa [putCells] using h3
/-- The store of all cells of a block. -/
theorem stored_put {u : World} {g : Nat} {t : TypeId} {cs : Array Value} (h : Blk u g t cs) (vs : List Value) (hl : cs.size = vs.length) : Stored g u (putCells g 0 vs u) ∧ Blk (putCells g 0 vs u) g t vs.toArray := by
  have := stored_from (g := g) (t := t) vs [] cs.toList (u := u) (by simpa using hl.symm) (by simpa using h)
  simpa using this
theorem lkn {ql : List (Nat × Nat)} {k i : Nat} (h : ql.all (fun p => p.2 != i) = true) : ¬ List.lookup k ql = some i := by
  intro h2
  have := List.all_eq_true.1 h _ (lookup_mem h2)
  simp at this
end Go.Proofs.Ytkmhldjebopljaa

/-
  Arrays of three ints, of five numbers, as arguments.
-/
namespace Go.Proofs.Ytkmhldjebopljaa
open Go.ChangeShapes Go.WideShapes Go.ChangeAt Go.RowKit

section
variable {H : Type} {enc : TypeId × Value → H} {w : World} {base : Nat} {spare : Nat → Bool} {held : Bool} {r : Reach} {b0 : Nat} {v : Value} {d : DataW H} {p : List MemPlace}
set_option maxRecDepth 100000 in
theorem open_int3 (hv : Value.okWide Try.prog w r b0 70 v) (h : DataW.Trod enc Try.prog w base spare held 70 v d p) :
    ∃ x0 x1 x2 : Int, v = .agg #[.int .i64 x0, .int .i64 x1, .int .i64 x2] := by
  obtain ⟨zs, hl, rfl, _⟩ := open_intarr Try.underlying70 Try.underlying3 (by kernel_rfl) (by kernel_rfl) hv h
  match zs, hl with
  | [x0, x1, x2], _ => exact ⟨x0, x1, x2, rfl⟩
set_option maxRecDepth 100000 in
theorem open_int4 (hv : Value.okWide Try.prog w r b0 52 v) (h : DataW.Trod enc Try.prog w base spare held 52 v d p) :
    ∃ x0 x1 x2 x3 : Int, v = .agg #[.int .i64 x0, .int .i64 x1, .int .i64 x2, .int .i64 x3] := by
  obtain ⟨zs, hl, rfl, _⟩ := open_intarr Try.underlying52 Try.underlying3 (by kernel_rfl) (by kernel_rfl) hv h
  match zs, hl with
  | [x0, x1, x2, x3], _ => exact ⟨x0, x1, x2, x3, rfl⟩
set_option maxRecDepth 100000 in
theorem open_u16x5 (hv : Value.okWide Try.prog w r b0 77 v) (h : DataW.Trod enc Try.prog w base spare held 77 v d p) :
    ∃ x0 x1 x2 x3 x4 : Int, v = .agg #[.int .u16 x0, .int .u16 x1, .int .u16 x2, .int .u16 x3, .int .u16 x4] ∧ (0 ≤ x0 ∧ x0 ≤ 65535) ∧ (0 ≤ x1 ∧ x1 ≤ 65535) ∧ (0 ≤ x2 ∧ x2 ≤ 65535) ∧ (0 ≤ x3 ∧ x3 ≤ 65535) ∧ (0 ≤ x4 ∧ x4 ≤ 65535) := by
  obtain ⟨zs, hl, rfl, hw⟩ := open_intarr Try.underlying77 Try.underlying72 (by kernel_rfl) (by kernel_rfl) hv h
  match zs, hl with
  | [x0, x1, x2, x3, x4], _ => exact ⟨x0, x1, x2, x3, x4, rfl, wf16 (hw _ (by simp)), wf16 (hw _ (by simp)), wf16 (hw _ (by simp)), wf16 (hw _ (by simp)), wf16 (hw _ (by simp))⟩
end
end Go.Proofs.Ytkmhldjebopljaa
