import Derived.Test.YtnmgnonbgihalaaPh
import Derived.Test.YtnmgnonbgihalaaPb
import Derived.Test.YtnmgnonbgihalaaPd
import Derived.Test.YtnmgnonbgihalaaPg
import Derived.Maps.Views
/-
  The rule for a region whose order Go leaves open: the first n operations by XRegCh (effects one behind the other), the others, each of which waits for all of these, by what their values say while memory only grows.
-/
namespace Go.Proofs.Ytnmgnonbgihalaa.RG
open Go

section
variable {P : Program}
/-- Operation k comes before operation i. -/
def ancB (l : List Oper) : Nat → Nat → Nat → Bool
  | 0, _, _ => false
  | d + 1, k, i => match l[i]? with
    | some o => o.after.toList.any fun e => Region.binds .any e && (e.on == k || ancB l d k e.on)
    | none => false
theorem anc_done {l : List Oper} {f : Nat → Bool} (hcl : ∀ k o, f k = true → l[k]? = some o → ∀ e ∈ o.after.toList, Region.binds .any e = true → f e.on = true) : ∀ (d k i : Nat) (o : Oper), l[i]? = some o → (∀ e ∈ o.after.toList, Region.binds .any e = true → f e.on = true) → ancB l d k i = true → f k = true
  | 0, _, _, _, _, _, h => by cases h
  | d + 1, k, i, o, ho, hd, h => by
    unfold ancB at h
    rw [ho] at h
    simp only [List.any_eq_true, Bool.and_eq_true, Bool.or_eq_true, beq_iff_eq] at h
    obtain ⟨e, he, hb, h1 | h1⟩ := h
    · rw [← h1]; exact hd e he hb
    · have hfe := hd e he hb
      have h2 := h1
      cases d with
      | zero => cases h1
      | succ d =>
        unfold ancB at h2
        cases ho2 : l[e.on]? with
        | none => rw [ho2] at h2; cases h2
        | some o2 => exact anc_done hcl (d + 1) k e.on o2 ho2 (hcl e.on o2 hfe ho2) h1
def covB (l : List Oper) (n : Nat) : Bool := (List.range (l.length - n)).all fun d => (List.range n).all fun k => ancB l l.length k (n + d)
def IsVL (L : List Value) : List (Value → World → Prop) := L.map fun c => IsV c
theorem VL_isv : ∀ (L : List Value) (Lt : List (Value → World → Prop)) (k : Nat) (v : Value) (w : World), k < L.length → (VL (IsVL L ++ Lt) k v w ↔ v = L.getD k undef)
  | [], _, k, _, _, h => by simp at h
  | c :: r, Lt, 0, v, w, _ => Iff.rfl
  | c :: r, Lt, k + 1, v, w, h => by
    have := VL_isv r Lt k v w (by simpa using h)
    rw [List.getD_cons_succ]
    exact this
theorem AllC.get {ops : Array Oper} {L : List Value} {Ws : Nat → World} {E : List Nat} {a0 : Act} : ∀ {l : List Oper} {i j : Nat} {o : Oper}, AllC P ops L Ws E a0 l i → l[j]? = some o → OneC P ops L Ws E a0 (i + j) o
  | [], _, _, _, _, hj => by simp at hj
  | o' :: r, i, 0, o, h, hj => by
    simp only [List.getElem?_cons_zero, Option.some.injEq] at hj
    subst hj; exact h.1
  | o' :: r, i, j + 1, o, h, hj => by
    simp only [List.getElem?_cons_succ] at hj
    have := AllC.get h.2 hj
    rwa [show i + (j + 1) = i + 1 + j by omega]
theorem All.get' {ops : Array Oper} {C : World → Prop} {Rel : World → World → Prop} {V : Nat → Value → World → Prop} {a0 : Act} : ∀ {l : List Oper} {i j : Nat} {o : Oper}, All P ops C Rel V a0 l i → l[j]? = some o → One P ops C Rel V a0 (i + j) o
  | [], _, _, _, _, hj => by simp at hj
  | o' :: r, i, 0, o, h, hj => by
    simp only [List.getElem?_cons_zero, Option.some.injEq] at hj
    subst hj; exact h.1
  | o' :: r, i, j + 1, o, h, hj => by
    simp only [List.getElem?_cons_succ] at hj
    have := All.get' h.2 hj
    rwa [show i + (j + 1) = i + 1 + j by omega]
def InvG (l : List Oper) (n : Nat) (L : List Value) (Lt : List (Value → World → Prop)) (Ws : Nat → World) (E : List Nat) (f : Nat → Bool) (y : Nat → Value) (w : World) : Prop :=
  (∀ k o, f k = true → l[k]? = some o → ∀ e ∈ o.after.toList, Region.binds .any e = true → f e.on = true) ∧
  (((∃ k, k < n ∧ f k = false) ∧ (∀ k, n ≤ k → f k = false) ∧ InvC l L Ws E f y w) ∨
   ((∀ k, k < n → f k = true) ∧ Go.RowKit.Below (Ws E.length).heap.size (Ws E.length) w ∧ ∀ k, f k = true → VL (IsVL L ++ Lt) k (y k) w))
theorem invG_of {l : List Oper} {n : Nat} {L : List Value} {Lt : List (Value → World → Prop)} {Ws : Nat → World} {E : List Nat} (hLn : L.length = n) (hlt : E.all (fun i => decide (i < n)) = true) {f : Nat → Bool} {y : Nat → Value} {w : World}
    (ht : ∀ k, n ≤ k → f k = false) (h : InvC l L Ws E f y w) : InvG l n L Lt Ws E f y w := by
  obtain ⟨hv, hcl, j, hj, rfl, hl⟩ := id h
  refine ⟨hcl, ?_⟩
  by_cases hx : ∃ k, k < n ∧ f k = false
  · exact .inl ⟨hx, ht, h⟩
  · have hall : ∀ k, k < n → f k = true := fun k hk => by
      cases hf : f k with
      | true => rfl
      | false => exact absurd ⟨k, hk, hf⟩ hx
    have hjE : j = E.length := by
      rcases Nat.lt_or_ge j E.length with h' | h'
      · exfalso
        have h1 := hl j E[j] (List.getElem?_eq_getElem h')
        rw [hall _ (by simpa using List.all_eq_true.1 hlt E[j] (List.getElem_mem h'))] at h1
        simp at h1
      · omega
    subst hjE
    refine .inr ⟨hall, Go.RowKit.Below.refl _ _, fun k hk => ?_⟩
    have hkn : k < n := by
      rcases Nat.lt_or_ge k n with h' | h'
      · exact h'
      · rw [ht k h'] at hk; cases hk
    exact (VL_isv L Lt k _ _ (by omega)).2 (hv k hk)
theorem region_chain_grow {id : Nat} {Q : Exit → Act → World → Prop} {a : Act} {w : World} {l : List Oper} (n : Nat) (E : List Nat) (L : List Value) (Ws : Nat → World) (Lt : List (Value → World → Prop))
    (hm : P.follows .mixedOrders = true) (hok : okB l 0 = true) (hE : chE l E = true) (hlt : E.all (fun i => decide (i < n)) = true) (hcov : covB l n = true) (hn : decide (0 < n ∧ n ≤ l.length) = true) (hLn : L.length = n) (h0 : Ws 0 = w.drew) (hst : AllStb (IsVL L ++ Lt))
    (hallH : AllC P l.toArray L Ws E a (l.take n) 0)
    (hallT : All P l.toArray (Go.RowKit.Below (Ws E.length).heap.size (Ws E.length)) (fun u u' => Go.RowKit.Below u.heap.size u u') (VL (IsVL L ++ Lt)) a (l.drop n) n)
    (hend : ∀ y w', Go.RowKit.Below (Ws E.length).heap.size (Ws E.length) w' → (∀ k, decide (k < l.length) = true → VL (IsVL L ++ Lt) k (y k) w') → Q .normal (putAll l 0 y a) w') :
    (Code.region id l.toArray true).wp P Q a w := by
  have hn0 : 0 < n := (of_decide_eq_true hn).1
  have hnl : n ≤ l.length := (of_decide_eq_true hn).2
  have hall : ∀ (r : List Oper) (i : Nat), (∀ k o, r[k]? = some o → l[i + k]? = some o) → AllI P l.toArray (InvG l n L Lt Ws E) a r i := by
    intro r
    induction r with
    | nil => intro i _; trivial
    | cons o r ih =>
      intro i hl
      refine ⟨?_, ih (i + 1) (fun k o' hk => by have := hl (k + 1) o' (by simpa using hk); rwa [show i + (k + 1) = i + 1 + k by omega] at this)⟩
      have ho : l[i]? = some o := hl 0 o rfl
      intro f y w K Q Cv hI hf hdep hCv hK
      obtain ⟨hcl, hI⟩ := hI
      rcases Nat.lt_or_ge i n with hin | hin
      · rcases hI with ⟨-, ht, hC⟩ | ⟨ha, -⟩
        · have hoc := AllC.get hallH (show (l.take n)[i]? = some o by rw [List.getElem?_take_of_lt hin]; exact ho)
          rw [Nat.zero_add] at hoc
          refine invC_one hE ho hoc f y w K Q Cv hC hf hdep (fun v w' hC' => hCv v w' (invG_of hLn hlt (fun k hk => ?_) hC')) hK
          have : k ≠ i := by omega
          simp [this, ht k hk]
        · rw [ha i hin] at hf; cases hf
      · have hlen : i < l.length := (List.getElem?_eq_some_iff.1 ho).1
        have hheads : ∀ k, k < n → f k = true := fun k hk => by
          have h1 := List.all_eq_true.1 hcov (i - n) (List.mem_range.2 (by omega))
          have h2 := List.all_eq_true.1 h1 k (List.mem_range.2 hk)
          rw [show n + (i - n) = i by omega] at h2
          exact anc_done hcl _ k i o ho hdep h2
        rcases hI with ⟨⟨k, hk, hfk⟩, -⟩ | ⟨-, hB, hv⟩
        · rw [hheads k hk] at hfk; cases hfk
        · have hoc := All.get' hallT (show (l.drop n)[i - n]? = some o by rw [List.getElem?_drop, show n + (i - n) = i by omega]; exact ho)
          rw [show n + (i - n) = i by omega] at hoc
          refine hoc y w K Q Cv hB (deps_of _ fun e he hb => hv _ (hdep e he hb)) (fun v w' hC hR hV => hCv v w' ⟨?_, .inr ⟨fun k hk => by simp [hheads k hk], hC, fun k hk => ?_⟩⟩) hK
          · intro k o' hk ho' e he hb
            rw [Bool.or_eq_true]
            right
            by_cases e' : k = i
            · subst e'
              rw [ho] at ho'; cases ho'
              exact hdep e he hb
            · exact hcl k o' (by simpa [e'] using hk) ho' e he hb
          · by_cases e : k = i
            · subst e
              unfold upd
              rw [if_pos rfl]
              exact hV
            · unfold upd
              rw [if_neg e]
              exact hst.at_ k _ _ _ hR (hv k (by simpa [e] using hk))
  refine region_inv (InvG l n L Lt Ws E) hm hok (fun y => ⟨(fun k o hk => by cases hk), .inl ⟨⟨0, hn0, rfl⟩, fun _ _ => rfl, (fun k hk => by cases hk), (fun k o hk => by cases hk), 0, Nat.zero_le _, h0.symm, fun b i hb => by simp⟩⟩) (hall l 0 (fun k o hk => by rwa [Nat.zero_add])) ?_
  rintro f y w' hf ⟨-, ⟨⟨k, hk, hfk⟩, -⟩ | ⟨-, hB, hv⟩⟩
  · exfalso
    rw [hf k (by omega)] at hfk
    cases hfk
  · exact hend y w' hB fun k hk => hv k (hf k (of_decide_eq_true hk))
end
end Go.Proofs.Ytnmgnonbgihalaa.RG

/-
  The rule of XRegVK, where an operation that changes more than it makes need keep the words of those operations alone that do not wait for it.
-/
namespace Go.Proofs.Ytnmgnonbgihalaa.RG
open Go

section
variable {P : Program}
/-- A list of words of which some say nothing. -/
def setL (ms : List Nat) (L : List (Value → World → Prop)) : List (Value → World → Prop) := ms.foldr (fun m L => L.set m fun _ _ => True) L
theorem VL_setL : ∀ (ms : List Nat) (L : List (Value → World → Prop)) (k : Nat) (v : Value) (w : World), VL (setL ms L) k v w ↔ (k ∈ ms ∨ VL L k v w)
  | [], L, k, v, w => by simp [setL]
  | m :: r, L, k, v, w => by
    show VL ((setL r L).set m fun _ _ => True) k v w ↔ _
    rw [VL_set, VL_setL r]
    simp [or_assoc]
/-- What an operation leans on: some words say nothing, the others are not used up by another. -/
def dqY (ql : List (Nat × Nat)) (i : Nat) (o : Oper) (ms : List Nat) : Bool := (o.after.toList.all fun e => !Region.binds .any e || ms.contains e.on || (match ql.lookup e.on with | none => true | some j => j == i)) && !ms.contains i
/-- An operation that changes more than it makes: what it keeps. -/
def OneSA (P : Program) (l : List Oper) (L L2 : List (Value → World → Prop)) (ql : List (Nat × Nat)) (w0 : World) (a0 : Act) (i : Nat) (o : Oper) (ms : List Nat) : Prop :=
  ∃ Sp : (Nat → Value) → World → World → Prop, OneS1 P l.toArray (setL ms L) w0 a0 i o Sp ∧ ∀ y u u' k b, k ≠ i → ancB l l.length i k = false → Go.RowKit.Below w0.heap.size w0 u → Sp y u u' → VB L L2 b k (y k) u → (ql.lookup k = some i → b = false) → (∀ j, ql.lookup k = some j → ancB l l.length j i = true → b = true) → (∀ j, ql.lookup k = some j → ancB l l.length i j = true → b = false) → VB L L2 (b || decide (ql.lookup k = some i)) k (y k) u'
def OneKA (P : Program) (l : List Oper) (L L2 : List (Value → World → Prop)) (ql : List (Nat × Nat)) (w0 : World) (a0 : Act) (i : Nat) (o : Oper) : Prop :=
  ∃ ms, dqY ql i o ms = true ∧ (One P l.toArray (Go.RowKit.Below w0.heap.size w0) (fun u u' => Go.RowKit.Below u.heap.size u u') (VL (setL ms L)) a0 i o ∧ (∀ k, ql.lookup k = some i → ∀ v w, VL L k v w → VL L2 k v w) ∨ OneSA P l L L2 ql w0 a0 i o ms)
def AllKA (P : Program) (l0 : List Oper) (L L2 : List (Value → World → Prop)) (ql : List (Nat × Nat)) (w0 : World) (a0 : Act) : List Oper → Nat → Prop
  | [], _ => True
  | o :: r, i => OneKA P l0 L L2 ql w0 a0 i o ∧ AllKA P l0 L L2 ql w0 a0 r (i + 1)
theorem invKA_one {l : List Oper} {L L2 : List (Value → World → Prop)} {ql : List (Nat × Nat)} {w0 : World} {a0 : Act} (hq : qlB l ql = true) (h1 : AllStb L) (h2 : AllStb L2) {i : Nat} {o : Oper} (ho : l[i]? = some o) (h : OneKA P l L L2 ql w0 a0 i o) : OneI P l.toArray (InvK l L L2 ql w0) a0 i o := by
  intro f y w K Q Cv hI hf hdep hCv hK
  obtain ⟨hcl, hB, hv⟩ := hI
  -- what uses a word up waits for it
  have hql : ∀ k j, ql.lookup k = some j → f j = true → f k = true := by
    intro k j hl hj
    have := List.all_eq_true.1 hq _ (lookup_mem hl)
    simp only [Bool.and_eq_true] at this
    have h3 := this.1
    unfold depE at h3
    split at h3
    · rename_i o' ho'
      rw [List.any_eq_true] at h3
      obtain ⟨e, he, hb⟩ := h3
      simp only [Bool.and_eq_true, beq_iff_eq] at hb
      have := hcl j o' hj ho' e he hb.1
      rwa [hb.2] at this
    · cases h3
  have hne : ∀ k j, ql.lookup k = some j → k ≠ j := by
    intro k j hl
    have := List.all_eq_true.1 hq _ (lookup_mem hl)
    simp only [Bool.and_eq_true, bne_iff_ne, ne_eq] at this
    exact this.2
  obtain ⟨ms, hdq, h⟩ := h
  unfold dqY at hdq
  rw [Bool.and_eq_true] at hdq
  have hmi : i ∉ ms := by simpa using hdq.2
  have hdy : deps (VL (setL ms L)) y w o.after.toList := deps_of _ fun e he hb => by
    have h3 := List.all_eq_true.1 hdq.1 e he
    rw [hb, Bool.not_true, Bool.false_or, Bool.or_eq_true] at h3
    rw [VL_setL]
    rcases h3 with h3 | h3
    · exact .inl (by simpa using h3)
    · right
      have h4 := hv _ (hdep e he hb)
      unfold flagQ at h4
      cases hl : ql.lookup e.on with
      | none => rw [hl] at h4; exact h4
      | some j =>
        rw [hl] at h3 h4
        have : j = i := by simpa using h3
        subst this
        simp only [hf] at h4
        exact h4
  have hcl2 : ∀ k o', (decide (k = i) || f k) = true → l[k]? = some o' → ∀ e ∈ o'.after.toList, Region.binds .any e = true → (decide (e.on = i) || f e.on) = true := by
    intro k o' hk ho' e he hb
    rw [Bool.or_eq_true]
    right
    by_cases e' : k = i
    · subst e'
      rw [ho] at ho'; cases ho'
      exact hdep e he hb
    · exact hcl k o' (by simpa [e'] using hk) ho' e he hb
  have hself : flagQ ql (fun k => decide (k = i) || f k) i = false := by
    unfold flagQ
    cases hl : ql.lookup i with
    | none => rfl
    | some j =>
      have h3 : j ≠ i := fun e => hne i j hl e.symm
      have h4 : f j = false := by
        cases hj : f j with
        | false => rfl
        | true => rw [hql i j hl hj] at hf; cases hf
      simp [h3, h4]
  have hflag : ∀ k, flagQ ql (fun k => decide (k = i) || f k) k = (flagQ ql f k || decide (ql.lookup k = some i)) := by
    intro k
    unfold flagQ
    cases hl : ql.lookup k with
    | none => rfl
    | some j =>
      by_cases e : j = i
      · subst e; simp
      · simp [e]
  have hfl0 : ∀ k, ql.lookup k = some i → flagQ ql f k = false := by
    intro k hl
    unfold flagQ
    rw [hl]
    exact hf
  rcases h with ⟨hG, hcv⟩ | ⟨Sp, hS, hsp⟩
  · refine hG y w K Q Cv hB hdy (fun v w' hC hR hV => hCv v w' ⟨hcl2, hC, fun k hk => ?_⟩) hK
    by_cases e : k = i
    · subst e
      rw [hself]
      unfold upd
      rw [if_pos rfl]
      exact ((VL_setL _ _ _ _ _).1 hV).resolve_left hmi
    · have hfk : f k = true := by simpa [e] using hk
      have h3 := hv k hfk
      unfold upd
      rw [if_neg e, hflag]
      by_cases hl : ql.lookup k = some i
      · rw [hfl0 k hl] at h3
        rw [decide_eq_true hl, Bool.or_true]
        exact hcv k hl _ _ (h1.at_ k _ _ _ hR h3)
      · rw [decide_eq_false hl, Bool.or_false]
        cases hb : flagQ ql f k with
        | false => rw [hb] at h3; exact h1.at_ k _ _ _ hR h3
        | true => rw [hb] at h3; exact h2.at_ k _ _ _ hR h3
  · refine hS y w K Q Cv hB hdy (fun v w' hC hR hV => hCv v w' ⟨hcl2, hC, fun k hk => ?_⟩) hK
    by_cases e : k = i
    · subst e
      rw [hself]
      unfold upd
      rw [if_pos rfl]
      exact ((VL_setL _ _ _ _ _).1 hV).resolve_left hmi
    · have hfk : f k = true := by simpa [e] using hk
      have h3 := hv k hfk
      unfold upd
      rw [if_neg e, hflag]
      refine hsp y w w' k _ e ?_ hB hR h3 (fun hl => hfl0 k hl) ?_ ?_
      · cases hx : ancB l l.length i k with
        | false => rfl
        | true =>
          exfalso
          cases hok' : l[k]? with
          | none =>
            have : ancB l l.length i k = false := by
              cases l.length with
              | zero => rfl
              | succ d => unfold ancB; rw [hok']
            rw [this] at hx; cases hx
          | some o' =>
            have := anc_done hcl l.length i k o' hok' (hcl k o' hfk hok') hx
            rw [hf] at this; cases this
      · intro j hl ha
        have := anc_done hcl l.length j i o ho hdep ha
        unfold flagQ
        rw [hl]
        exact this
      · intro j hl ha
        unfold flagQ
        rw [hl]
        cases hfj : f j with
        | false => exact hfj
        | true =>
          exfalso
          cases hoj : l[j]? with
          | none =>
            have : ancB l l.length i j = false := by
              cases l.length with
              | zero => rfl
              | succ d => unfold ancB; rw [hoj]
            rw [this] at ha; cases ha
          | some o' =>
            have := anc_done hcl l.length i j o' hoj (hcl j o' hfj hoj) ha
            rw [hf] at this; cases this
theorem AllKA.all {l : List Oper} {L L2 : List (Value → World → Prop)} {ql : List (Nat × Nat)} {w0 : World} {a0 : Act} (hq : qlB l ql = true) (h1 : AllStb L) (h2 : AllStb L2) : ∀ (r : List Oper) (i : Nat), (∀ k o, r[k]? = some o → l[i + k]? = some o) → AllKA P l L L2 ql w0 a0 r i → AllI P l.toArray (InvK l L L2 ql w0) a0 r i
  | [], _, _, _ => trivial
  | o :: r, i, hl, h => ⟨invKA_one hq h1 h2 (hl 0 o rfl) h.1, AllKA.all hq h1 h2 r (i + 1) (fun k o' hk => by have := hl (k + 1) o' (by simpa using hk); rwa [show i + (k + 1) = i + 1 + k by omega] at this) h.2⟩
/-- THE RULE. -/
theorem region_va {id : Nat} {Q : Exit → Act → World → Prop} {a : Act} {w : World} {l : List Oper} (L L2 : List (Value → World → Prop)) (ql : List (Nat × Nat))
    (hm : P.follows .mixedOrders = true) (hok : okB l 0 = true) (hq : qlB l ql = true) (h1 : AllStb L) (h2 : AllStb L2)
    (hall : AllKA P l L L2 ql w a l 0)
    (hend : ∀ y w', Go.RowKit.Below w.heap.size w w' → (∀ k, k < l.length → VB L L2 (ql.lookup k).isSome k (y k) w') → Q .normal (putAll l 0 y a) w') :
    (Code.region id l.toArray true).wp P Q a w := by
  refine region_inv (InvK l L L2 ql w) hm hok (fun y => ⟨(fun k o hk => by cases hk), (Go.RowKit.Below.refl _ _).drew, (fun k hk => by cases hk)⟩) (AllKA.all hq h1 h2 l 0 (fun k o hk => by rwa [Nat.zero_add]) hall) ?_
  rintro f y w' hf ⟨-, hB, hv⟩
  refine hend y w' hB fun k hk => ?_
  have h3 := hv k (hf k hk)
  unfold flagQ at h3
  cases hl : ql.lookup k with
  | none => rw [hl] at h3; exact h3
  | some j =>
    rw [hl] at h3
    have hj : j < l.length := by
      have := List.all_eq_true.1 hq _ (lookup_mem hl)
      simp only [Bool.and_eq_true] at this
      have h4 := this.1
      unfold depE at h4
      split at h4
      · rename_i o' ho'
        exact (List.getElem?_eq_some_iff.1 ho').1
      · cases h4
    simp only [hf j hj] at h3
    exact h3
end
end Go.Proofs.Ytnmgnonbgihalaa.RG

/-
  The rule of XRegVA, where the blocks that some operations make differ.
-/
namespace Go.Proofs.Ytnmgnonbgihalaa.RG
open Go

section
variable {P : Program}
/-- The block that a value points into. -/
def blkOf : Value → Option Nat
  | .slice (some a) _ _ => some a.block
  | .pointer (some a) => some a.block
  | _ => none
/-- The blocks that were made differ. -/
def DiffB (al : List Nat) (f : Nat → Bool) (y : Nat → Value) : Prop := ∀ i ∈ al, ∀ j ∈ al, i ≠ j → f i = true → f j = true → blkOf (y i) ≠ blkOf (y j)
/-- An operation that makes a block of its own. -/
def OneAl (P : Program) (ops : Array Oper) (V : Value → World → Prop) (w0 : World) (a0 : Act) (o : Oper) : Prop :=
  ∀ (y : Nat → Value) (w : World) (K : Act → World → Prop) (Q : Exit → Act → World → Prop) (Cv : Value → World → Prop), Go.RowKit.Below w0.heap.size w0 w →
    (∀ v w', Go.RowKit.Below w0.heap.size w0 w' → Go.RowKit.Below w.heap.size w w' → V v w' → blkOf v = some w.heap.size → Cv v w') → (∀ v w', Cv v w' → K ((putAll ops.toList 0 y a0).put o.dst v) w') →
    if Region.wanted o (yielded ops (putAll ops.toList 0 y a0).tmps) then o.wp P (putAll ops.toList 0 y a0) w K Q else K ((putAll ops.toList 0 y a0).put o.dst undef) w
/-- An operation that changes more than it makes: what it keeps. -/
def OneSD (P : Program) (l : List Oper) (L L2 : List (Value → World → Prop)) (ql : List (Nat × Nat)) (al : List Nat) (w0 : World) (a0 : Act) (i : Nat) (o : Oper) (ms : List Nat) : Prop :=
  ∃ Sp : (Nat → Value) → World → World → Prop, OneS1 P l.toArray (setL ms L) w0 a0 i o Sp ∧ ∀ y u u' k b, k ≠ i → ancB l l.length i k = false → Go.RowKit.Below w0.heap.size w0 u → Sp y u u' → VB L L2 b k (y k) u → (∀ e ∈ o.after.toList, Region.binds .any e = true → e.on ∈ al → k ∈ al → e.on ≠ k → blkOf (y e.on) ≠ blkOf (y k)) → (ql.lookup k = some i → b = false) → (∀ j, ql.lookup k = some j → ancB l l.length j i = true → b = true) → (∀ j, ql.lookup k = some j → ancB l l.length i j = true → b = false) → VB L L2 (b || decide (ql.lookup k = some i)) k (y k) u'
def OneKD (P : Program) (l : List Oper) (L L2 : List (Value → World → Prop)) (ql : List (Nat × Nat)) (al : List Nat) (w0 : World) (a0 : Act) (i : Nat) (o : Oper) : Prop :=
  ∃ ms, dqY ql i o ms = true ∧ (i ∉ al ∧ One P l.toArray (Go.RowKit.Below w0.heap.size w0) (fun u u' => Go.RowKit.Below u.heap.size u u') (VL (setL ms L)) a0 i o ∧ (∀ k, ql.lookup k = some i → ∀ v w, VL L k v w → VL L2 k v w) ∨ i ∉ al ∧ OneSD P l L L2 ql al w0 a0 i o ms ∨ OneAl P l.toArray (VL L i) w0 a0 o ∧ (∀ k, ql.lookup k = some i → ∀ v w, VL L k v w → VL L2 k v w))
def AllKD (P : Program) (l0 : List Oper) (L L2 : List (Value → World → Prop)) (ql : List (Nat × Nat)) (al : List Nat) (w0 : World) (a0 : Act) : List Oper → Nat → Prop
  | [], _ => True
  | o :: r, i => OneKD P l0 L L2 ql al w0 a0 i o ∧ AllKD P l0 L L2 ql al w0 a0 r (i + 1)
def InvD (l : List Oper) (L L2 : List (Value → World → Prop)) (ql : List (Nat × Nat)) (al : List Nat) (w0 : World) (f : Nat → Bool) (y : Nat → Value) (w : World) : Prop := InvK l L L2 ql w0 f y w ∧ DiffB al f y
theorem invKD_one {l : List Oper} {L L2 : List (Value → World → Prop)} {ql : List (Nat × Nat)} {al : List Nat} {w0 : World} {a0 : Act} (hq : qlB l ql = true) (h1 : AllStb L) (h2 : AllStb L2) (hal : ∀ k ∈ al, ∀ b v w, VB L L2 b k v w → ∃ g, blkOf v = some g ∧ g < w.heap.size) {i : Nat} {o : Oper} (ho : l[i]? = some o) (h : OneKD P l L L2 ql al w0 a0 i o) : OneI P l.toArray (InvD l L L2 ql al w0) a0 i o := by
  intro f y w K Q Cv hI hf hdep hCv hK
  obtain ⟨⟨hcl, hB, hv⟩, hD⟩ := hI
  -- what uses a word up waits for it
  have hql : ∀ k j, ql.lookup k = some j → f j = true → f k = true := by
    intro k j hl hj
    have := List.all_eq_true.1 hq _ (lookup_mem hl)
    simp only [Bool.and_eq_true] at this
    have h3 := this.1
    unfold depE at h3
    split at h3
    · rename_i o' ho'
      rw [List.any_eq_true] at h3
      obtain ⟨e, he, hb⟩ := h3
      simp only [Bool.and_eq_true, beq_iff_eq] at hb
      have := hcl j o' hj ho' e he hb.1
      rwa [hb.2] at this
    · cases h3
  have hne : ∀ k j, ql.lookup k = some j → k ≠ j := by
    intro k j hl
    have := List.all_eq_true.1 hq _ (lookup_mem hl)
    simp only [Bool.and_eq_true, bne_iff_ne, ne_eq] at this
    exact this.2
  obtain ⟨ms, hdq, h⟩ := h
  unfold dqY at hdq
  rw [Bool.and_eq_true] at hdq
  have hmi : i ∉ ms := by simpa using hdq.2
  have hdy : deps (VL (setL ms L)) y w o.after.toList := deps_of _ fun e he hb => by
    have h3 := List.all_eq_true.1 hdq.1 e he
    rw [hb, Bool.not_true, Bool.false_or, Bool.or_eq_true] at h3
    rw [VL_setL]
    rcases h3 with h3 | h3
    · exact .inl (by simpa using h3)
    · right
      have h4 := hv _ (hdep e he hb)
      unfold flagQ at h4
      cases hl : ql.lookup e.on with
      | none => rw [hl] at h4; exact h4
      | some j =>
        rw [hl] at h3 h4
        have : j = i := by simpa using h3
        subst this
        simp only [hf] at h4
        exact h4
  have hcl2 : ∀ k o', (decide (k = i) || f k) = true → l[k]? = some o' → ∀ e ∈ o'.after.toList, Region.binds .any e = true → (decide (e.on = i) || f e.on) = true := by
    intro k o' hk ho' e he hb
    rw [Bool.or_eq_true]
    right
    by_cases e' : k = i
    · subst e'
      rw [ho] at ho'; cases ho'
      exact hdep e he hb
    · exact hcl k o' (by simpa [e'] using hk) ho' e he hb
  have hself : flagQ ql (fun k => decide (k = i) || f k) i = false := by
    unfold flagQ
    cases hl : ql.lookup i with
    | none => rfl
    | some j =>
      have h3 : j ≠ i := fun e => hne i j hl e.symm
      have h4 : f j = false := by
        cases hj : f j with
        | false => rfl
        | true => rw [hql i j hl hj] at hf; cases hf
      simp [h3, h4]
  have hflag : ∀ k, flagQ ql (fun k => decide (k = i) || f k) k = (flagQ ql f k || decide (ql.lookup k = some i)) := by
    intro k
    unfold flagQ
    cases hl : ql.lookup k with
    | none => rfl
    | some j =>
      by_cases e : j = i
      · subst e; simp
      · simp [e]
  have hfl0 : ∀ k, ql.lookup k = some i → flagQ ql f k = false := by
    intro k hl
    unfold flagQ
    rw [hl]
    exact hf
  have hgrow : ∀ v w', Go.RowKit.Below w0.heap.size w0 w' → Go.RowKit.Below w.heap.size w w' → VL L i v w' → (∀ k, ql.lookup k = some i → ∀ v w, VL L k v w → VL L2 k v w) → InvK l L L2 ql w0 (fun k => decide (k = i) || f k) (upd y i v) w' := by
    intro v w' hC hR hV hcv
    refine ⟨hcl2, hC, fun k hk => ?_⟩
    by_cases e : k = i
    · subst e
      rw [hself]
      unfold upd
      rw [if_pos rfl]
      exact hV
    · have hfk : f k = true := by simpa [e] using hk
      have h3 := hv k hfk
      unfold upd
      rw [if_neg e, hflag]
      by_cases hl : ql.lookup k = some i
      · rw [hfl0 k hl] at h3
        rw [decide_eq_true hl, Bool.or_true]
        exact hcv k hl _ _ (h1.at_ k _ _ _ hR h3)
      · rw [decide_eq_false hl, Bool.or_false]
        cases hb : flagQ ql f k with
        | false => rw [hb] at h3; exact h1.at_ k _ _ _ hR h3
        | true => rw [hb] at h3; exact h2.at_ k _ _ _ hR h3
  have hDk : i ∉ al → ∀ v, DiffB al (fun k => decide (k = i) || f k) (upd y i v) := by
    intro hia v a ha b hb hab hfa hfb
    have e1 : a ≠ i := fun e => hia (e ▸ ha)
    have e2 : b ≠ i := fun e => hia (e ▸ hb)
    unfold upd
    rw [if_neg e1, if_neg e2]
    exact hD a ha b hb hab (by simpa [e1] using hfa) (by simpa [e2] using hfb)
  rcases h with ⟨hia, hG, hcv⟩ | ⟨hia, Sp, hS, hsp⟩ | ⟨hA, hcv⟩
  · exact hG y w K Q Cv hB hdy (fun v w' hC hR hV => hCv v w' ⟨hgrow v w' hC hR (((VL_setL _ _ _ _ _).1 hV).resolve_left hmi) hcv, hDk hia v⟩) hK
  · refine hS y w K Q Cv hB hdy (fun v w' hC hR hV => hCv v w' ⟨⟨hcl2, hC, fun k hk => ?_⟩, hDk hia v⟩) hK
    by_cases e : k = i
    · subst e
      rw [hself]
      unfold upd
      rw [if_pos rfl]
      exact ((VL_setL _ _ _ _ _).1 hV).resolve_left hmi
    · have hfk : f k = true := by simpa [e] using hk
      have h3 := hv k hfk
      unfold upd
      rw [if_neg e, hflag]
      refine hsp y w w' k _ e ?_ hB hR h3 (fun e' he' hb' h5 h6 h7 => hD _ h5 _ h6 h7 (hdep e' he' hb') hfk) (fun hl => hfl0 k hl) ?_ ?_
      · cases hx : ancB l l.length i k with
        | false => rfl
        | true =>
          exfalso
          cases hok' : l[k]? with
          | none =>
            have : ancB l l.length i k = false := by
              cases l.length with
              | zero => rfl
              | succ d => unfold ancB; rw [hok']
            rw [this] at hx; cases hx
          | some o' =>
            have := anc_done hcl l.length i k o' hok' (hcl k o' hfk hok') hx
            rw [hf] at this; cases this
      · intro j hl ha
        have := anc_done hcl l.length j i o ho hdep ha
        unfold flagQ
        rw [hl]
        exact this
      · intro j hl ha
        unfold flagQ
        rw [hl]
        cases hfj : f j with
        | false => exact hfj
        | true =>
          exfalso
          cases hoj : l[j]? with
          | none =>
            have : ancB l l.length i j = false := by
              cases l.length with
              | zero => rfl
              | succ d => unfold ancB; rw [hoj]
            rw [this] at ha; cases ha
          | some o' =>
            have := anc_done hcl l.length i j o' hoj (hcl j o' hfj hoj) ha
            rw [hf] at this; cases this
  · refine hA y w K Q Cv hB (fun v w' hC hR hV hown => hCv v w' ⟨hgrow v w' hC hR hV hcv, ?_⟩) hK
    have hnew : ∀ b ∈ al, f b = true → blkOf (y b) ≠ some w.heap.size := by
      intro b hb hfb e
      obtain ⟨g, eg, hg⟩ := hal b hb _ _ _ (hv b hfb)
      rw [eg] at e
      injection e with e
      omega
    intro a ha b hb hab hfa hfb
    unfold upd
    by_cases e1 : a = i
    · have e2 : b ≠ i := fun e => hab (e1.trans e.symm)
      rw [if_pos e1, if_neg e2, hown]
      exact fun e => hnew b hb (by simpa [e2] using hfb) e.symm
    · rw [if_neg e1]
      by_cases e2 : b = i
      · rw [if_pos e2, hown]
        exact hnew a ha (by simpa [e1] using hfa)
      · rw [if_neg e2]
        exact hD a ha b hb hab (by simpa [e1] using hfa) (by simpa [e2] using hfb)
theorem AllKD.all {l : List Oper} {L L2 : List (Value → World → Prop)} {ql : List (Nat × Nat)} {al : List Nat} {w0 : World} {a0 : Act} (hq : qlB l ql = true) (h1 : AllStb L) (h2 : AllStb L2) (hal : ∀ k ∈ al, ∀ b v w, VB L L2 b k v w → ∃ g, blkOf v = some g ∧ g < w.heap.size) : ∀ (r : List Oper) (i : Nat), (∀ k o, r[k]? = some o → l[i + k]? = some o) → AllKD P l L L2 ql al w0 a0 r i → AllI P l.toArray (InvD l L L2 ql al w0) a0 r i
  | [], _, _, _ => trivial
  | o :: r, i, hl, h => ⟨invKD_one hq h1 h2 hal (hl 0 o rfl) h.1, AllKD.all hq h1 h2 hal r (i + 1) (fun k o' hk => by have := hl (k + 1) o' (by simpa using hk); rwa [show i + (k + 1) = i + 1 + k by omega] at this) h.2⟩
/-- THE RULE. -/
theorem region_vd {id : Nat} {Q : Exit → Act → World → Prop} {a : Act} {w : World} {l : List Oper} (L L2 : List (Value → World → Prop)) (ql : List (Nat × Nat)) (al : List Nat)
    (hm : P.follows .mixedOrders = true) (hok : okB l 0 = true) (hq : qlB l ql = true) (h1 : AllStb L) (h2 : AllStb L2)
    (hal : ∀ k ∈ al, ∀ b v w, VB L L2 b k v w → ∃ g, blkOf v = some g ∧ g < w.heap.size)
    (hall : AllKD P l L L2 ql al w a l 0)
    (hend : ∀ y w', Go.RowKit.Below w.heap.size w w' → (∀ k, k < l.length → VB L L2 (ql.lookup k).isSome k (y k) w') → (∀ i ∈ al, ∀ j ∈ al, i ≠ j → i < l.length → j < l.length → blkOf (y i) ≠ blkOf (y j)) → Q .normal (putAll l 0 y a) w') :
    (Code.region id l.toArray true).wp P Q a w := by
  refine region_inv (InvD l L L2 ql al w) hm hok (fun y => ⟨⟨(fun k o hk => by cases hk), (Go.RowKit.Below.refl _ _).drew, (fun k hk => by cases hk)⟩, fun i _ j _ _ h => by cases h⟩) (AllKD.all hq h1 h2 hal l 0 (fun k o hk => by rwa [Nat.zero_add]) hall) ?_
  rintro f y w' hf ⟨⟨-, hB, hv⟩, hD⟩
  refine hend y w' hB (fun k hk => ?_) (fun i hi j hj hij h5 h6 => hD i hi j hj hij (hf i h5) (hf j h6))
  have h3 := hv k (hf k hk)
  unfold flagQ at h3
  cases hl : ql.lookup k with
  | none => rw [hl] at h3; exact h3
  | some j =>
    rw [hl] at h3
    have hj : j < l.length := by
      have := List.all_eq_true.1 hq _ (lookup_mem hl)
      simp only [Bool.and_eq_true] at this
      have h4 := this.1
      unfold depE at h4
      split at h4
      · rename_i o' ho'
        exact (List.getElem?_eq_some_iff.1 ho').1
      · cases h4
    simp only [hf j hj] at h3
    exact h3
end
theorem dif_on {es : List Edge} {al : List Nat} {k : Nat} {y : Nat → Value} (h : ∀ e ∈ es, Region.binds .any e = true → e.on ∈ al → k ∈ al → e.on ≠ k → blkOf (y e.on) ≠ blkOf (y k)) : ∀ j, depB es j = true → j ∈ al → k ∈ al → j ≠ k → blkOf (y j) ≠ blkOf (y k) := by
  intro j hj h1 h2 h3
  unfold depB at hj
  rw [List.any_eq_true] at hj
  obtain ⟨e, he, hb⟩ := hj
  simp only [Bool.and_eq_true, beq_iff_eq] at hb
  obtain ⟨hb, rfl⟩ := hb
  exact h e he hb h1 h2 h3
theorem lk2 {a b c d k i : Nat} (h1 : i ≠ b) (h2 : i ≠ d) : ¬ List.lookup k [(a, b), (c, d)] = some i := by
  intro h
  have := lookup_mem h
  simp only [List.mem_cons, Prod.mk.injEq, List.not_mem_nil, or_false] at this
  omega
/-- What the obligation of an operation that makes a block may know of the frame. -/
theorem al_fr {P : Program} {l : List Oper} {V : Value → World → Prop} {w0 : World} {a0 : Act} {o : Oper} (hok : okB l 0 = true) (hg : decide (o.guard = none) = true)
    (h : ∀ (T : Act) (y : Nat → Value) (w : World) (K : Act → World → Prop) (Q : Exit → Act → World → Prop) (Cv : Value → World → Prop), Fr l a0 y T → Go.RowKit.Below w0.heap.size w0 w →
      (∀ v w', Go.RowKit.Below w0.heap.size w0 w' → Go.RowKit.Below w.heap.size w w' → V v w' → blkOf v = some w.heap.size → Cv v w') → (∀ v w', Cv v w' → K (T.put o.dst v) w') → o.wp P T w K Q) : OneAl P l.toArray V w0 a0 o := by
  intro y w K Q Cv hC hV hK
  have hget : ∀ j d, atB l a0.tmps.size j d = true → (putAll l 0 y a0).tmps.getD d undef = y j := fun j d hb => by
    obtain ⟨⟨o, h1, h2⟩, h3⟩ := atB_of hb
    have := putAll_get l 0 y a0 j o d hok h1 h2 h3; rwa [Nat.zero_add] at this
  have hF : Fr l a0 y (putAll l.toArray.toList 0 y a0) := ⟨hget, fun d v h hv => (putAll_old l 0 y a0 d h).trans hv⟩
  have hw : Region.wanted o (yielded l.toArray (putAll l.toArray.toList 0 y a0).tmps) = true := by
    simp [Region.wanted, of_decide_eq_true hg]
  rw [if_pos hw]
  exact h _ y w K Q Cv hF hC hV hK
end Go.Proofs.Ytnmgnonbgihalaa.RG

/-
  Blocks of one's own, and stores into them. Of no function.
-/
namespace Go.Proofs.Ytnmgnonbgihalaa
open Go.RowKit RG

structure Stored (g : Nat) (u u' : World) : Prop where
  os : u'.os = u.os
  tape : u'.tape = u.tape
  output : u'.output = u.output
  size : u'.heap.size = u.heap.size
  block : ∀ b, b ≠ g → u'.heap[b]? = u.heap[b]?
theorem Stored.below {g B : Nat} {u u' : World} (h : Stored g u u') (hg : B ≤ g) : Below B u u' :=
  ⟨h.os, h.tape, h.output, by rw [h.size]; exact Nat.le_refl _, fun k hk => h.block k (by omega)⟩
theorem Blk.stored {u u' : World} {g b : Nat} {t : TypeId} {cs : Array Value} (h : Blk u b t cs) (hs : Stored g u u') (hne : b ≠ g) : Blk u' b t cs := (hs.block b hne).trans h
theorem Stored.set1 (u : World) (g i : Nat) (v : Value) : Stored g u (u.setCell ⟨g, i, none⟩ v) := ⟨rfl, rfl, rfl, by simp, fun _ hk => Below.heap_setCell _ _ _ _ hk⟩
theorem Stored.trans {u v w : World} {g : Nat} (h : Stored g u v) (h' : Stored g v w) : Stored g u w :=
  ⟨h'.os.trans h.os, h'.tape.trans h.tape, h'.output.trans h.output, h'.size.trans h.size, fun b hb => (h'.block b hb).trans (h.block b hb)⟩
def TT : Value → World → Prop := fun _ _ => True
theorem TT.stb : Stb TT := fun _ _ _ _ _ => trivial
/-- A pointer to a block of one's own. -/
def PtrB (n : Nat) (t : TypeId) (cs : Array Value) : Value → World → Prop := fun v W => ∃ g, v = .pointer (some ⟨g, 0, none⟩) ∧ n ≤ g ∧ Blk W g t cs
theorem PtrB.stb (n : Nat) (t : TypeId) (cs : Array Value) : Stb (PtrB n t cs) := fun _ _ _ hb ⟨g, e, h1, h2⟩ => ⟨g, e, h1, h2.below hb h2.lt⟩
theorem PtrB.own {n : Nat} {t : TypeId} {cs : Array Value} {v : Value} {W : World} (h : PtrB n t cs v W) : ∃ g, blkOf v = some g ∧ g < W.heap.size := by
  obtain ⟨g, rfl, -, h2⟩ := h; exact ⟨g, rfl, h2.lt⟩
theorem PtrB.stored {n g : Nat} {t : TypeId} {cs : Array Value} {v : Value} {u u' : World} (h : PtrB n t cs v u) (hs : Stored g u u') (hne : blkOf (.pointer (some ⟨g, 0, none⟩)) ≠ blkOf v) : PtrB n t cs v u' := by
  obtain ⟨g', rfl, h1, h2⟩ := h
  exact ⟨g', rfl, h1, Blk.stored h2 hs (fun e => hne (by rw [e]))⟩
/-- Cells that are written one behind the other. -/
def putCells (g : Nat) : Nat → List Value → World → World
  | _, [], u => u
  | i, v :: r, u => putCells g (i + 1) r (u.setCell ⟨g, i, none⟩ v)
theorem stored_from {g : Nat} {t : TypeId} : ∀ (vs pre : List Value) (post : List Value) {u : World}, vs.length = post.length → Blk u g t (pre ++ post).toArray → Stored g u (putCells g pre.length vs u) ∧ Blk (putCells g pre.length vs u) g t (pre ++ vs).toArray
  | [], pre, post, u, hl, h => by
    have : post = [] := List.length_eq_zero_iff.1 hl.symm
    subst this
    exact ⟨⟨rfl, rfl, rfl, rfl, fun _ _ => rfl⟩, h⟩
  | v :: r, pre, [], u, hl, h => by simp at hl
  | v :: r, pre, p :: post, u, hl, h => by
    have h1 : Blk (u.setCell ⟨g, pre.length, none⟩ v) g t ((pre ++ [v]) ++ post).toArray := by
      have := h.set_ pre.length v
      simpa using this
    have := stored_from r (pre ++ [v]) post (by simpa using hl) h1
    rw [List.length_append] at this
    obtain ⟨h2, h3⟩ := this
    refine ⟨(Stored.set1 u g pre.length v).trans h2, ?_⟩
    simpa [putCells] using h3
/-- The store of all cells of a block. -/
theorem stored_put {u : World} {g : Nat} {t : TypeId} {cs : Array Value} (h : Blk u g t cs) (vs : List Value) (hl : cs.size = vs.length) : Stored g u (putCells g 0 vs u) ∧ Blk (putCells g 0 vs u) g t vs.toArray := by
  have := stored_from (g := g) (t := t) vs [] cs.toList (u := u) (by simpa using hl.symm) (by simpa using h)
  simpa using this
theorem lkn {ql : List (Nat × Nat)} {k i : Nat} (h : ql.all (fun p => p.2 != i) = true) : ¬ List.lookup k ql = some i := by
  intro h2
  have := List.all_eq_true.1 h _ (lookup_mem h2)
  simp at this
end Go.Proofs.Ytnmgnonbgihalaa

/-
  An append whose run is known; an append of one number to a row of one's own. Of no function.
-/
namespace Go.Proofs.Ytnmgnonbgihalaa
open Go.RowKit RG

section
variable {P : Program}
/-- An append whose run is known. -/
theorem wpList_append_run {ops : Array Oper} {rest : List Oper} {o : Oper} {a : Act} {w w' : World} {Q : Exit → Act → World → Prop} (hgd : o.guard = none) (s x : Operand) (t : TypeId)
    (ho : o.op = .call { callee := .builtin .append, args := #[s, x], argTypes := #[t, t] }) (v u v' : Value) (hs : a.eval s = v) (hx : a.eval x = u)
    (hr : (Builtin.append_ #[t, t] o.type #[v, u]).run P w = .ok v' w') (h : wpList P ops Q rest (a.put o.dst v') w') : wpList P ops Q (o :: rest) a w := by
  refine wpList_plain hgd fun K hK => ?_
  unfold Oper.wp execOp
  simp only [ho, resolve, invoke, builtin, Sem.run_bind, Sem.run_pure, Result.andThen_ok, List.map_toArray, List.map_cons, List.map_nil, hs, hx, hr]
  exact hK _ _ h
theorem wp_append_run {o : Oper} {a : Act} {w w' : World} {K : Act → World → Prop} {Q : Exit → Act → World → Prop} (s x : Operand) (t : TypeId)
    (ho : o.op = .call { callee := .builtin .append, args := #[s, x], argTypes := #[t, t] }) (v u v' : Value) (hs : a.eval s = v) (hx : a.eval x = u)
    (hr : (Builtin.append_ #[t, t] o.type #[v, u]).run P w = .ok v' w') (h : K (a.put o.dst v') w') : o.wp P a w K Q := by
  unfold Oper.wp execOp
  simp only [ho, resolve, invoke, builtin, Sem.run_bind, Sem.run_pure, Result.andThen_ok, List.map_toArray, List.map_cons, List.map_nil, hs, hx, hr]
  exact h
end
theorem RowAt.nmap {w : World} {X : Nat → Prop} {e : TypeId} {k M : Nat} {v : Value} {xs : List (List Value)} (h : RowAt w X e k v xs) (hm : ∃ es c, w.heap[M]? = some (.map es c)) : v.ownBlock ≠ some M := by
  intro hg
  obtain ⟨c1, h1⟩ := h.typed hg
  obtain ⟨es, c, h2⟩ := hm
  unfold Blk at h1
  rw [h2] at h1
  cases h1
theorem RowAt.kept {w w' : World} {X Y : Nat → Prop} {e : TypeId} {k : Nat} {v : Value} {xs : List (List Value)} (h : RowAt w X e k v xs) (hk : KeptX Y w w') (hy : ∀ g, v.ownBlock = some g → Y g) : RowAt w' X e k v xs :=
  h.blk fun g hg _ => hk.block g (hy g hg)
/-- One number behind a row of one's own: what comes of it, and that all else is kept. -/
theorem app_one {W : World} {n : Nat} {v : Value} {xs : List Int} (h : RowAt W (fun g => g < n) 3 1 v (xs.map iCells)) (hn : n ≤ W.heap.size) (hl : xs.length ≤ 999999) (x : Int) :
    ∃ v' w4, (Builtin.append_ #[23, 23] 23 #[v, .slice (some ⟨W.heap.size, 0, none⟩) 1 1]).run Try.prog (W.alloc (.cells #[.int .i64 x] 3)) = .ok v' w4 ∧ RowAt w4 (fun g => g < n) 3 1 v' ((xs ++ [x]).map iCells) ∧ KeptX (fun g => g < W.heap.size ∧ v.ownBlock ≠ some g) W w4 := by
  have hX : RowAt W (fun g => g < W.heap.size ∧ v.ownBlock ≠ some g) 3 1 v (xs.map iCells) := h.mono fun g hg hx => hx.2 hg
  obtain ⟨v', w4, h1, h2, h3, -⟩ := app_int hX (fun g hg => hg.1) hl x
  refine ⟨v', w4, h1, h2.mono fun g hg hlt => h2.not g hg ⟨by omega, fun e => h.not g e hlt⟩, h3⟩
end Go.Proofs.Ytnmgnonbgihalaa

/-
  Of a view that is built: the row of what is left, the map of nothing; slices.Backward as an iterator.
-/
namespace Go.Proofs.Ytnmgnonbgihalaa
open Go.RowKit Go.Shelf RG

/-- m cells with the ints f. -/
def lfC (m : Nat) (f : Nat → Int) : Array Value := ((List.range m).map fun j => Value.int .i64 (f j)).toArray
def updI (f : Nat → Int) (i : Nat) (x : Int) : Nat → Int := fun j => if j = i then x else f j
theorem lfC_size (m : Nat) (f : Nat → Int) : (lfC m f).size = m := by simp [lfC]
theorem lfC_get {m : Nat} {f : Nat → Int} {j : Nat} (h : j < m) : (lfC m f)[j]? = some (.int .i64 (f j)) := by
  unfold lfC
  rw [List.getElem?_toArray, List.getElem?_map, List.getElem?_range h]
  rfl
theorem lfC_set (m : Nat) (f : Nat → Int) (i : Nat) (x : Int) : (lfC m f).setIfInBounds i (.int .i64 x) = lfC m (updI f i x) := by
  apply Array.ext_getElem?
  intro j
  rw [Array.getElem?_setIfInBounds, lfC_size]
  by_cases hj : j < m
  · rw [lfC_get hj, lfC_get hj]
    unfold updI
    by_cases e : i = j
    · subst e; simp [hj]
    · rw [if_neg e, if_neg fun h => e h.symm]
  · rw [Array.getElem?_eq_none (by rw [lfC_size]; omega), Array.getElem?_eq_none (by rw [lfC_size]; omega)]
    simp
    omega
theorem lf_set {w : World} {g m : Nat} {t : TypeId} {f : Nat → Int} (h : Blk w g t (lfC m f)) (i : Nat) (x : Int) : Blk (w.setCell ⟨g, i, none⟩ (.int .i64 x)) g t (lfC m (updI f i x)) := by
  have := h.set_ i (.int .i64 x)
  rwa [lfC_set] at this
theorem lf_cell {w : World} {g m : Nat} {t : TypeId} {f : Nat → Int} (h : Blk w g t (lfC m f)) {j : Nat} (hj : j < m) : w.cell? ⟨g, j, none⟩ = some (.int .i64 (f j)) := (h.cell j).trans (lfC_get hj)
/-- What is left behind each of the last questions. -/
def LeftK (B : Bank) (k : Nat) (f : Nat → Int) : Prop := ∀ j p, B.qs.length - k ≤ j → j ≤ B.qs.length → p < 4 → f (j * 4 + p) = leftP B j p
theorem leftK_zero (B : Bank) : LeftK B 0 (fun _ => 0) := by
  intro j p h1 h2 _
  obtain rfl : j = B.qs.length := by omega
  rw [left_end]
  rfl
/-- A round: the row behind is copied, and one of it counted. -/
def stepL (f : Nat → Int) (i p : Nat) : Nat → Int :=
  let g := updI (updI (updI (updI f (i * 4) (f ((i + 1) * 4))) (i * 4 + 1) (f ((i + 1) * 4 + 1))) (i * 4 + 2) (f ((i + 1) * 4 + 2))) (i * 4 + 3) (f ((i + 1) * 4 + 3))
  updI g (i * 4 + p) (f ((i + 1) * 4 + p) + 1)
theorem leftK_step {B : Bank} (hp : ∀ q ∈ B.qs, 0 ≤ q.part) (h4 : ∀ x, partAt B x < 4) {k i : Nat} {f : Nat → Int} (hi : B.qs.length - 1 - k = i) (hk : k < B.qs.length) (h : LeftK B k f) : LeftK B (k + 1) (stepL f i (partAt B i)) := by
  intro j p h1 h2 hp4
  have hpi := h4 i
  have hil : i < B.qs.length := by omega
  have key : ∀ q, q < 4 → f ((i + 1) * 4 + q) = leftP B (i + 1) q := fun q hq => h (i + 1) q (by omega) (by omega) hq
  by_cases e : j = i
  · subst e
    rw [left_succ hp hil p]
    generalize partAt B j = pt at *
    have hk0 := key p hp4
    unfold stepL
    by_cases e2 : pt = p
    · subst e2
      simp only [updI, if_true]
      omega
    · rw [if_neg e2]
      have e3 : ¬ j * 4 + p = j * 4 + pt := by omega
      simp only [updI, if_neg e3]
      rcases (show p = 0 ∨ p = 1 ∨ p = 2 ∨ p = 3 by omega) with rfl | rfl | rfl | rfl
      · rw [if_neg (by omega), if_neg (by omega), if_neg (by omega), if_pos (by omega)]; simpa using hk0
      · rw [if_neg (by omega), if_neg (by omega), if_pos rfl]; simpa using hk0
      · rw [if_neg (by omega), if_pos rfl]; simpa using hk0
      · rw [if_pos rfl]; simpa using hk0
  · have h3 := h j p (by omega) h2 hp4
    unfold stepL
    simp only [updI]
    rw [if_neg (by omega), if_neg (by omega), if_neg (by omega), if_neg (by omega), if_neg (by omega)]
    exact h3
theorem infoNeeds : (Try.prog.info? 107).map (fun i => (i.zero, i.size, i.bytes)) = some (some (.agg #[.int .i64 0, .int .i64 0, .int .i64 0, .int .i64 0]), 4, 32) := by kernel_rfl
theorem mk_left (n : Nat) (hn : n ≤ 1000) (w : World) :
    (Instr.makeSlice 82 (.int .i64 (n : Int)) (.int .i64 (n : Int))).run Try.prog w = .ok (.slice (some ⟨w.heap.size, 0, none⟩) n n) (w.alloc (.cells (lfC (n * 4) fun _ => 0) 107)) := by
  obtain ⟨i, hi, hz, hs, hb⟩ := info_parts infoNeeds
  have hr := run_make (P := Try.prog) w 82 107 i (.agg #[.int .i64 0, .int .i64 0, .int .i64 0, .int .i64 0]) Try.underlying82 hi hz .i64 .i64 n n (by omega) (by omega) (by rw [hb]; omega) (by omega)
  simp only [Int.toNat_natCast] at hr
  rw [hr, hs]
  have hm : madeCells (Value.agg #[.int .i64 0, .int .i64 0, .int .i64 0, .int .i64 0]).cells (n * 4) = lfC (n * 4) fun _ => 0 := by
    apply Array.ext
    · simp [madeCells, lfC]
    · intro j h1 h2
      have h3 : j % 4 = 0 ∨ j % 4 = 1 ∨ j % 4 = 2 ∨ j % 4 = 3 := by omega
      rcases h3 with h3 | h3 | h3 | h3 <;> simp [madeCells, Value.cells, lfC, h3]
  rw [hm]
theorem knownM_new (w : World) (B : Bank) : KnownM (w.alloc (.map #[] 0)) w.heap.size B 0 :=
  ⟨.map [], World.ownsMap_made w _ _ _, fun k a b c d l _ h => by cases h⟩

theorem backward_any (A : Option Addr) (n cap : Nat) (w : World) : Calls Try.prog 72 #[.slice A n cap] w fun e w' => e = .returned (.func (.func 86) #[] #[.pointer (some ⟨w.heap.size, 0, none⟩)]) ∧ w' = w.alloc (.cells #[.slice A n cap] 22) := by
  go_enter Try.func72, Try.ntmps72
  go_wp2
  go_ret
  exact ⟨rfl, rfl⟩
theorem enters_back : ∀ args w, (callFunc 86 args).run Try.prog w = .ok (.enter 86 args) w := fun _ _ => by kernel_rfl
/-- The iterator as one that 'range_own' takes. -/
theorem back_seq (n cp cap : Nat) (A : Option Addr) (B : Bank) (w : World) (hn : B.qs.length ≤ 16) :
    SeqOwn n 86 #[.pointer (some ⟨cp, 0, none⟩)] encQ (fun _ X => X.cell? ⟨cp, 0, none⟩ = some (.slice A B.qs.length cap) ∧ RdRow X A B.qs.length 3 (B.qs.map qCells)) (fun pre x => ∃ j, j < B.qs.length ∧ pre = bk B j ∧ x = (B.qs.length - 1 - j, B.qs[B.qs.length - 1 - j]?.getD default)) (fun xs => xs = bk B B.qs.length) (fun pre => ∃ j, j ≤ B.qs.length ∧ pre = bk B j) w := by
  intro l J Jx W hb hJ _ hsz hRd hY h0
  refine (back_in n l cp cap A B hn J Jx W (fun i X h => hRd _ _ h) (fun j X hj hJ0 => ?_) h0).mono ?_
  · exact hY _ (B.qs.length - 1 - j, B.qs[B.qs.length - 1 - j]?.getD default) X hJ0 ⟨j, hj, rfl, rfl⟩
  · rintro e W' ⟨h1, (h2 | ⟨j, h3, h4⟩)⟩
    · exact ⟨h1, .inl ⟨_, rfl, h2⟩⟩
    · exact ⟨h1, .inr ⟨_, ⟨j, h3, rfl⟩, h4⟩⟩
end Go.Proofs.Ytnmgnonbgihalaa
