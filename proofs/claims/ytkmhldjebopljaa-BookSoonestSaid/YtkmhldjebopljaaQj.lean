import Derived.Test.YtkmhldjebopljaaQg
import Derived.Test.YtkmhldjebopljaaQi
import Derived.Test.YtkmhldjebopljaaQf
/-
  The rule of XRegVK, where an operation that changes more than it makes need keep the words of those operations alone that do not wait for it.
-/
namespace Go.Proofs.Ytkmhldjebopljaa.RG
open Go

section
variable {P : Program}
/-- A list of words of which some say nothing. -/
def setL (ms : List Nat) (L : List (Value → World → Prop)) : List (Value → World → Prop) := ms.foldr (fun m L => L.set m fun _ _ => True) L
theorem VL_setL : ∀ (ms : List Nat) (L : List (Value → World → Prop)) (k : Nat) (v : Value) (w : World), VL (setL ms L) k v w ↔ (k ∈ ms ∨ VL L k v w)
  | [], L, k, v, w => by simp [setL]
  | m :: r, L, k, v, w => by
    show VL ((setL r L).set m fun _ _ => True) k v w ↔ _
    rw [VL_set, VL_setL r]
    simp [or_assoc]
/-- What an operation leans on: some words say nothing, the others are not used up by another. -/
def dqY (ql : List (Nat × Nat)) (i : Nat) (o : Oper) (ms : List Nat) : Bool := (o.after.toList.all fun e => !Region.binds .any e || ms.contains e.on || (match ql.lookup e.on with | none => true | some j => j == i)) && !ms.contains i
/-- An operation that changes more than it makes: what it keeps. -/
def OneSA (P : Program) (l : List Oper) (L L2 : List (Value → World → Prop)) (ql : List (Nat × Nat)) (w0 : World) (a0 : Act) (i : Nat) (o : Oper) (ms : List Nat) : Prop :=
  ∃ Sp : (Nat → Value) → World → World → Prop, OneS1 P l.toArray (setL ms L) w0 a0 i o Sp ∧ ∀ y u u' k b, k ≠ i → ancB l l.length i k = false → Go.RowKit.Below w0.heap.size w0 u → Sp y u u' → VB L L2 b k (y k) u → (ql.lookup k = some i → b = false) → (∀ j, ql.lookup k = some j → ancB l l.length j i = true → b = true) → (∀ j, ql.lookup k = some j → ancB l l.length i j = true → b = false) → VB L L2 (b || decide (ql.lookup k = some i)) k (y k) u'
def OneKA (P : Program) (l : List Oper) (L L2 : List (Value → World → Prop)) (ql : List (Nat × Nat)) (w0 : World) (a0 : Act) (i : Nat) (o : Oper) : Prop :=
  ∃ ms, dqY ql i o ms = true ∧ (One P l.toArray (Go.RowKit.Below w0.heap.size w0) (fun u u' => Go.RowKit.Below u.heap.size u u') (VL (setL ms L)) a0 i o ∧ (∀ k, ql.lookup k = some i → ∀ v w, VL L k v w → VL L2 k v w) ∨ OneSA P l L L2 ql w0 a0 i o ms)
def AllKA (P : Program) (l0 : List Oper) (L L2 : List (Value → World → Prop)) (ql : List (Nat × Nat)) (w0 : World) (a0 : Act) : List Oper → Nat → Prop
  | [], _ => True
  | o :: r, i => OneKA P l0 L L2 ql w0 a0 i o ∧ AllKA P l0 L L2 ql w0 a0 r (i + 1)
theorem invKA_one {l : List Oper} {L L2 : List (Value → World → Prop)} {ql : List (Nat × Nat)} {w0 : World} {a0 : Act} (hq : qlB l ql = true) (h1 : AllStb L) (h2 : AllStb L2) {i : Nat} {o : Oper} (ho : l[i]? = some o) (h : OneKA P l L L2 ql w0 a0 i o) : OneI P l.toArray (InvK l L L2 ql w0) a0 i o := by
  intro f y w K Q Cv hI hf hdep hCv hK
  obtain ⟨hcl, hB, hv⟩ := hI
  -- what uses a word up waits for it
  have hql : ∀ k j, ql.lookup k = some j → f j = true → f k = true := by
    intro k j hl hj
    have := List.all_eq_true.1 hq _ (lookup_mem hl)
    simp only [Bool.and_eq_true] at this
    have h3 := this.1
    unfold depE at h3
    split at h3
    · rename_i o' ho'
      rw [List.any_eq_true] at h3
      obtain ⟨e, he, hb⟩ := h3
      simp only [Bool.and_eq_true, beq_iff_eq] at hb
      have := hcl j o' hj ho' e he hb.1
      rwa [hb.2] at this
    · cases h3
  have hne : ∀ k j, ql.lookup k = some j → k ≠ j := by
    intro k j hl
    have := List.all_eq_true.1 hq _ (lookup_mem hl)
    simp only [Bool.and_eq_true, bne_iff_ne, ne_eq] at this
    exact this.2
  obtain ⟨ms, hdq, h⟩ := h
  unfold dqY at hdq
  rw [Bool.and_eq_true] at hdq
  have hmi : i ∉ ms := by simpa using hdq.2
  have hdy : deps (VL (setL ms L)) y w o.after.toList := deps_of _ fun e he hb => by
    have h3 := List.all_eq_true.1 hdq.1 e he
    rw [hb, Bool.not_true, Bool.false_or, Bool.or_eq_true] at h3
    rw [VL_setL]
    rcases h3 with h3 | h3
    · exact .inl (by simpa using h3)
    · right
      have h4 := hv _ (hdep e he hb)
      unfold flagQ at h4
      cases hl : ql.lookup e.on with
      | none => rw [hl] at h4; exact h4
      | some j =>
        rw [hl] at h3 h4
        have : j = i := by simpa using h3
        subst this
        simp only [hf] at h4
        exact h4
  have hcl2 : ∀ k o', (decide (k = i) || f k) = true → l[k]? = some o' → ∀ e ∈ o'.after.toList, Region.binds .any e = true → (decide (e.on = i) || f e.on) = true := by
    intro k o' hk ho' e he hb
    rw [Bool.or_eq_true]
    right
    by_cases e' : k = i
    · subst e'
      rw [ho] at ho'; cases ho'
      exact hdep e he hb
    · exact hcl k o' (by simpa [e'] using hk) ho' e he hb
  have hself : flagQ ql (fun k => decide (k = i) || f k) i = false := by
    unfold flagQ
    cases hl : ql.lookup i with
    | none => rfl
    | some j =>
      have h3 : j ≠ i := fun e => hne i j hl e.symm
      have h4 : f j = false := by
        cases hj : f j with
        | false => rfl
        | true => rw [hql i j hl hj] at hf; cases hf
      simp [h3, h4]
  have hflag : ∀ k, flagQ ql (fun k => decide (k = i) || f k) k = (flagQ ql f k || decide (ql.lookup k = some i)) := by
    intro k
    unfold flagQ
    cases hl : ql.lookup k with
    | none => rfl
    | some j =>
      by_cases e : j = i
      · subst e; simp
      · simp [e]
  have hfl0 : ∀ k, ql.lookup k = some i → flagQ ql f k = false := by
    intro k hl
    unfold flagQ
    rw [hl]
    exact hf
  rcases h with ⟨hG, hcv⟩ | ⟨Sp, hS, hsp⟩
  · refine hG y w K Q Cv hB hdy (fun v w' hC hR hV => hCv v w' ⟨hcl2, hC, fun k hk => ?_⟩) hK
    by_cases e : k = i
    · subst e
      rw [hself]
      unfold upd
      rw [if_pos rfl]
      exact ((VL_setL _ _ _ _ _).1 hV).resolve_left hmi
    · have hfk : f k = true := by simpa [e] using hk
      have h3 := hv k hfk
      unfold upd
      rw [if_neg e, hflag]
      by_cases hl : ql.lookup k = some i
      · rw [hfl0 k hl] at h3
        rw [decide_eq_true hl, Bool.or_true]
        exact hcv k hl _ _ (h1.at_ k _ _ _ hR h3)
      · rw [decide_eq_false hl, Bool.or_false]
        cases hb : flagQ ql f k with
        | false => rw [hb] at h3; exact h1.at_ k _ _ _ hR h3
        | true => rw [hb] at h3; exact h2.at_ k _ _ _ hR h3
  · refine hS y w K Q Cv hB hdy (fun v w' hC hR hV => hCv v w' ⟨hcl2, hC, fun k hk => ?_⟩) hK
    by_cases e : k = i
    · subst e
      rw [hself]
      unfold upd
      rw [if_pos rfl]
      exact ((VL_setL _ _ _ _ _).1 hV).resolve_left hmi
    · have hfk : f k = true := by simpa [e] using hk
      have h3 := hv k hfk
      unfold upd
      rw [if_neg e, hflag]
      refine hsp y w w' k _ e ?_ hB hR h3 (fun hl => hfl0 k hl) ?_ ?_
      · cases hx : ancB l l.length i k with
        | false => rfl
        | true =>
          exfalso
          cases hok' : l[k]? with
          | none =>
            have : ancB l l.length i k = false := by
              cases l.length with
              | zero => rfl
              | succ d => unfold ancB; rw [hok']
            rw [this] at hx; cases hx
          | some o' =>
            have := anc_done hcl l.length i k o' hok' (hcl k o' hfk hok') hx
            rw [hf] at this; cases this
      · intro j hl ha
        have := anc_done hcl l.length j i o ho hdep ha
        unfold flagQ
        rw [hl]
        exact this
      · intro j hl ha
        unfold flagQ
        rw [hl]
        cases hfj : f j with
        | false => exact hfj
        | true =>
          exfalso
          cases hoj : l[j]? with
          | none =>
            have : ancB l l.length i j = false := by
              cases l.length with
              | zero => rfl
              | succ d => unfold ancB; rw [hoj]
            rw [this] at ha; cases ha
          | some o' =>
            have := anc_done hcl l.length i j o' hoj (hcl j o' hfj hoj) ha
            rw [hf] at this; cases this
theorem AllKA.all {l : List Oper} {L L2 : List (Value → World → Prop)} {ql : List (Nat × Nat)} {w0 : World} {a0 : Act} (hq : qlB l ql = true) (h1 : AllStb L) (h2 : AllStb L2) : ∀ (r : List Oper) (i : Nat), (∀ k o, r[k]? = some o → l[i + k]? = some o) → AllKA P l L L2 ql w0 a0 r i → AllI P l.toArray (InvK l L L2 ql w0) a0 r i
  | [], _, _, _ => trivial
  | o :: r, i, hl, h => ⟨invKA_one hq h1 h2 (hl 0 o rfl) h.1, AllKA.all hq h1 h2 r (i + 1) (fun k o' hk => by have := hl (k + 1) o' (by simpa using hk); rwa [show i + (k + 1) = i + 1 + k by omega] at this) h.2⟩
/-- THE RULE. -/
theorem region_va {id : Nat} {Q : Exit → Act → World → Prop} {a : Act} {w : World} {l : List Oper} (L L2 : List (Value → World → Prop)) (ql : List (Nat × Nat))
    (hm : P.follows .mixedOrders = true) (hok : okB l 0 = true) (hq : qlB l ql = true) (h1 : AllStb L) (h2 : AllStb L2)
    (hall : AllKA P l L L2 ql w a l 0)
    (hend : ∀ y w', Go.RowKit.Below w.heap.size w w' → (∀ k, k < l.length → VB L L2 (ql.lookup k).isSome k (y k) w') → Q .normal (putAll l 0 y a) w') :
    (Code.region id l.toArray true).wp P Q a w := by
  refine region_inv (InvK l L L2 ql w) hm hok (fun y => ⟨(fun k o hk => by cases hk), (Go.RowKit.Below.refl _ _).drew, (fun k hk => by cases hk)⟩) (AllKA.all hq h1 h2 l 0 (fun k o hk => by rwa [Nat.zero_add]) hall) ?_
  rintro f y w' hf ⟨-, hB, hv⟩
  refine hend y w' hB fun k hk => ?_
  have h3 := hv k (hf k hk)
  unfold flagQ at h3
  cases hl : ql.lookup k with
  | none => rw [hl] at h3; exact h3
  | some j =>
    rw [hl] at h3
    have hj : j < l.length := by
      have := List.all_eq_true.1 hq _ (lookup_mem hl)
      simp only [Bool.and_eq_true] at this
      have h4 := this.1
      unfold depE at h4
      split at h4
      · rename_i o' ho'
        exact (List.getElem?_eq_some_iff.1 ho').1
      · cases h4
    simp only [hf j hj] at h3
    exact h3
end
end Go.Proofs.Ytkmhldjebopljaa.RG

/-
  Two appends to a row of nothing: what each value says, and what is kept. Of no function.
-/
namespace Go.Proofs.Ytkmhldjebopljaa
open Go.RowKit RG

def EmpV (n : Nat) : Value → World → Prop := fun v W => ∃ g, v = .slice (some ⟨g, 0, none⟩) 0 0 ∧ n ≤ g ∧ Blk W g 65 #[]
def RowV (n : Nat) (es : List BEv) : Value → World → Prop := fun v W => RowAt W (fun g => g < n) 65 11 v (es.map evCells)
def OneV (n : Nat) (y : BEv) : Value → World → Prop := fun v W => ∃ g, v = .slice (some ⟨g, 0, none⟩) 1 1 ∧ n ≤ g ∧ Blk W g 65 (evCells y).toArray
def NewV (es : List BEv) : Value → World → Prop := fun v W => IsRow 11 (es.map evCells) v W
theorem EmpV.stb (n : Nat) : Stb (EmpV n) := fun _ _ _ hb ⟨g, e, h1, h2⟩ => ⟨g, e, h1, h2.below hb h2.lt⟩
theorem RowV.stb (n : Nat) (es : List BEv) : Stb (RowV n es) := fun _ _ _ hb h => RowAt.below h hb
theorem OneV.stb (n : Nat) (y : BEv) : Stb (OneV n y) := fun _ _ _ hb ⟨g, e, h1, h2⟩ => ⟨g, e, h1, h2.below hb h2.lt⟩
theorem NewV.stb (es : List BEv) : Stb (NewV es) := fun _ _ _ hb h => IsRow.below h hb
theorem NewV.stored {es : List BEv} {v : Value} {u u' : World} {g : Nat} (h : NewV es v u) (hs : Stored g u u') (hz : Blk u g 42 zState) : NewV es v u' :=
  rows_stored h (fun x hx => by obtain ⟨e, _, rfl⟩ := List.mem_map.1 hx; exact ⟨e.kind, rfl⟩) hs hz
/-- What Run gives back, whatever its error. -/
def RunQ (q : Int) (er : List Int) (B : Bks) : Value → World → Prop := fun v W => ∃ v1 v2, v = .tuple #[v1, v2, .int .i64 q] ∧ IsInts er v1 W ∧ IsState B v2 W
theorem RunQ.stored {q : Int} {er : List Int} {B : Bks} {v : Value} {u u' : World} {g : Nat} (h : RunQ q er B v u) (hs : Stored g u u') (hz : Blk u g 42 zState) : RunQ q er B v u' := by
  obtain ⟨v1, v2, e, h1, h2⟩ := h
  exact ⟨v1, v2, e, h1.stored hs hz, h2.stored hs hz⟩
theorem RunQ.stb (q : Int) (er : List Int) (B : Bks) : Stb (RunQ q er B) := fun _ _ _ hb ⟨v1, v2, e, h1, h2⟩ => ⟨v1, v2, e, h1.below hb, h2.below hb⟩
/-- The first append: to a row of nothing. -/
def Sp1 (n : Nat) (v1 : Value) (u u' : World) : Prop := ∃ g1, v1 = .slice (some ⟨g1, 0, none⟩) 0 0 ∧ n ≤ g1 ∧ Blk u g1 65 #[] ∧ KeptX (fun g => g < u.heap.size ∧ g ≠ g1) u u'
theorem app_first {u : World} {n : Nat} {v1 : Value} {es : List BEv} {A : Option Addr} {c : Nat} (h : EmpV n v1 u) (hn : n ≤ u.heap.size) (hE : RdRow u A es.length 11 (es.map evCells)) (hA : A = none → c = 0) (hl : es.length ≤ 900) :
    ∃ v' u', (Builtin.append_ #[37, 37] 37 #[v1, .slice A es.length c]).run Try.prog u = .ok v' u' ∧ RowV n es v' u' ∧ Sp1 n v1 u u' ∧ Below n u u' := by
  obtain ⟨g1, rfl, h1, h2⟩ := h
  have hX : ¬ (fun g => g < u.heap.size ∧ g ≠ g1) g1 := fun h => h.2 rfl
  obtain ⟨v', u', hr, rr, hk, -⟩ := app_row (W := u) (X := fun g => g < u.heap.size ∧ g ≠ g1) (ty := 37) Try.underlying37 infoEv rfl (by decide) (by decide) (rowAt_new 11 h2 hX) (fun g hg => hg.1) (c := c) hE hA one_ev (by simp; omega)
  rw [List.nil_append] at rr
  refine ⟨v', u', hr, rr.mono (fun g hg hlt => rr.not g hg ⟨Nat.lt_of_lt_of_le hlt hn, fun e => by subst e; exact absurd hlt (by show ¬ g < n; omega)⟩), ⟨g1, rfl, h1, h2, hk⟩, ?_⟩
  exact KeptX.below (hk.mono fun g hg => ⟨Nat.lt_of_lt_of_le hg hn, fun e => by subst e; exact absurd hg (by show ¬ g < n; omega)⟩)
/-- The second: behind the first, perhaps in its spare room. -/
def Sp2 (n : Nat) (es : List BEv) (v3 : Value) (u u' : World) : Prop := RowV n es v3 u ∧ KeptX (fun g => g < u.heap.size ∧ v3.ownBlock ≠ some g) u u'
theorem app_second {u : World} {n : Nat} {v3 v5 : Value} {es : List BEv} {y : BEv} (h : RowV n es v3 u) (hn : n ≤ u.heap.size) (h5 : OneV n y v5 u) (hl : es.length ≤ 900) :
    ∃ v' u', (Builtin.append_ #[37, 37] 37 #[v3, v5]).run Try.prog u = .ok v' u' ∧ NewV (es ++ [y]) v' u' ∧ Sp2 n es v3 u u' ∧ Below n u u' := by
  obtain ⟨g5, rfl, h1, h2⟩ := h5
  have hr5 : RdRow u (some ⟨g5, 0, none⟩) 1 11 ([y].map evCells) := row_of_blk (k := 11) (f := evCells) (fun _ => rfl) [y] h2 (by simp [evCells])
  have h' : RowAt u (fun g => g < u.heap.size ∧ v3.ownBlock ≠ some g) 65 11 v3 (es.map evCells) := RowAt.mono h fun g hg hx => hx.2 hg
  obtain ⟨v', u', hr, rr, hk, -⟩ := app_row (W := u) (X := fun g => g < u.heap.size ∧ v3.ownBlock ≠ some g) (ty := 37) Try.underlying37 infoEv rfl (by decide) (by decide) h' (fun g hg => hg.1) (c := 1) hr5 (fun h => by cases h) one_ev (by simp; omega)
  rw [← List.map_append] at rr
  refine ⟨v', u', hr, rr.isRow, ⟨h, hk⟩, ?_⟩
  exact KeptX.below (hk.mono fun g hg => ⟨Nat.lt_of_lt_of_le hg hn, fun e => RowAt.not h g e hg⟩)
theorem OneV.sp1 {n : Nat} {y : BEv} {v v1 : Value} {u u' : World} (h : OneV n y v u) (hs : Sp1 n v1 u u') : OneV n y v u' := by
  obtain ⟨g, e, h1, h2⟩ := h
  obtain ⟨g1, -, -, h3, hk⟩ := hs
  refine ⟨g, e, h1, hk.blk ⟨h2.lt, fun e => ?_⟩ h2⟩
  subst e
  have h4 := h2.cell 0
  rw [h3.cell 0] at h4
  simp [evCells] at h4
theorem VarZ.sp1 {n m : Nat} {v v1 : Value} {u u' : World} (h : VarZ m v u) (hs : Sp1 n v1 u u') : VarZ m v u' := by
  obtain ⟨g, e, h1, h2⟩ := h
  obtain ⟨g1, -, -, h3, hk⟩ := hs
  refine ⟨g, e, h1, hk.blk ⟨h2.lt, fun e => ?_⟩ h2⟩
  exact h2.ne_ h3 (by decide) e
theorem VarZ.sp2 {n m : Nat} {es : List BEv} {v v3 : Value} {u u' : World} (h : VarZ m v u) (hs : Sp2 n es v3 u u') : VarZ m v u' := by
  obtain ⟨g, e, h1, h2⟩ := h
  exact ⟨g, e, h1, hs.2.blk ⟨h2.lt, RowAt.nblk hs.1 h2 (by decide)⟩ h2⟩
theorem lk4 {k i : Nat} (h3 : i ≠ 3) (h6 : i ≠ 6) (h14 : i ≠ 14) : ¬ List.lookup k [(1, 3), (3, 6), (5, 6), (12, 14)] = some i := by
  intro h
  have := lookup_mem h
  simp only [List.mem_cons, Prod.mk.injEq, List.not_mem_nil, or_false] at this
  omega
theorem wp_mk0 {o : Oper} {a : Act} {w : World} {K : Act → World → Prop} {Q : Exit → Act → World → Prop} {t e : TypeId} (ho : o.op = .buildSlice t 0 #[]) (_ : t = t)
    (hr : ∀ w : World, (Instr.buildSlice t 0 #[]).run Try.prog w = .ok (.slice (some ⟨w.heap.size, 0, none⟩) 0 0) (w.alloc (.cells #[] e)))
    (hK : K (a.put o.dst (.slice (some ⟨w.heap.size, 0, none⟩) 0 0)) (w.alloc (.cells #[] e))) : o.wp Try.prog a w K Q := by
  unfold Oper.wp execOp
  simp only [ho]
  have h1 := hr w
  simp only [List.map_toArray, List.map_nil, Sem.run_bind, Sem.run_pure, h1, Result.andThen_ok]
  exact hK
end Go.Proofs.Ytkmhldjebopljaa

/-
  What a weather behind some events makes (BookMoved). Of no program.
-/
namespace Go.Proofs.Ytkmhldjebopljaa
open Go.RowKit RG

structure MovedAll (S : BSch) (es : List BEv) (wv : BEv) (err : Int) : Prop where
  ok : runE S (es ++ [wv]) = 0
  errs : (runR S (es ++ [wv])).1 = (runR S es).1 ++ [err]
  len : (runR S (es ++ [wv])).2.les.length = (runR S es).2.les.length
  no : err ≠ 0 → (runR S (es ++ [wv])).2 = (runR S es).2
  yes : err = 0 → (0 ≤ wv.weather ∧ wv.weather ≤ 7) ∧ (runR S (es ++ [wv])).2.acc = (runR S es).2.acc ∧ (runR S (es ++ [wv])).2.km = (runR S es).2.km ∧ ∀ j, j < (runR S es).2.les.length → Moved S wv (atL (runR S es).2.les j) (atL (runR S (es ++ [wv])).2.les j)
theorem moved_all {S : BSch} {es : List BEv} {wv : BEv} (h : runE S es = 0) (h60 : es.length < 60) (hk : wv.kind = 2) : ∃ err, MovedAll S es wv err := by
  have h1 := run_zero h
  have hE : runE S (es ++ [wv]) = 0 := by
    unfold runE
    rw [if_neg (by simp [h1.1]), if_neg (by rw [List.length_append]; simp; omega)]
  have hr := run_append S es [wv] 0 (startB S)
  rw [← runR_ok hE, ← runR_ok h] at hr
  have ht : ∀ b n, runB S [wv] n b = ([(tellB S b n wv).1], (tellB S b n wv).2) := fun b n => rfl
  rw [ht] at hr
  generalize (0 : Int) + (es.length : Int) = n at hr
  obtain ⟨r, hrr⟩ : ∃ r, runR S es = r := ⟨_, rfl⟩
  rw [hrr] at hr
  refine ⟨(tellB S r.2 n wv).1, hE, by rw [hr, hrr], ?_, ?_, ?_⟩
  · rw [hr, hrr]
    show (tellB S r.2 n wv).2.les.length = _
    by_cases h0 : (tellB S r.2 n wv).1 = 0
    · obtain ⟨-, -, -, h3, h4⟩ := tell_done h0
      rw [h4]
      have hc : kindB S r.2 n wv = weatherB S r.2 wv := by
        unfold kindB
        rw [if_neg (by omega), if_neg (by omega), if_pos hk]
      rw [hc]
      unfold weatherB
      split
      · rfl
      · exact moves_len _ _ _ _ _
    · rw [tell_refused h0]
  · intro h0
    rw [hr, hrr]
    exact tell_refused h0
  · intro h0
    rw [hr, hrr]
    show _ ∧ (tellB S r.2 n wv).2.acc = _ ∧ (tellB S r.2 n wv).2.km = _ ∧ ∀ j, j < r.2.les.length → Moved S wv (atL r.2.les j) (atL (tellB S r.2 n wv).2.les j)
    obtain ⟨-, -, -, h3, h4⟩ := tell_done h0
    rw [h4]
    have hc : kindB S r.2 n wv = weatherB S r.2 wv := by
      unfold kindB
      rw [if_neg (by omega), if_neg (by omega), if_pos hk]
    rw [hc] at h3 ⊢
    unfold weatherB at h3 ⊢
    split at h3
    · cases h3
    rename_i h5
    rw [if_neg h5]
    have h6 : inI 0 7 wv.weather = true := by
      cases hq : inI 0 7 wv.weather with
      | true => rfl
      | false => exact absurd (Or.inr hq) h5
    refine ⟨inI_iff.1 h6, (moves_acc S wv _ _ _).1, (moves_km S wv _ _ _).1, fun j hj => ?_⟩
    have := (moves_each (S := S) (e := wv) r.2.les.length 0 (b := { r.2 with wt := r.2.wt ++ [(wv.day, wv.weather)] }) (by simp)).2.2 j (Nat.zero_le _) hj
    exact this
end Go.Proofs.Ytkmhldjebopljaa
