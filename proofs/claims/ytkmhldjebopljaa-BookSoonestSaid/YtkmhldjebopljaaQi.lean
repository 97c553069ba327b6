import Derived.Test.YtkmhldjebopljaaQg
import Derived.Test.YtkmhldjebopljaaQh
import Derived.Test.YtkmhldjebopljaaOv
/-
  The rule for a region whose order Go leaves open: the first n operations by XRegCh (effects one behind the other), the others, each of which waits for all of these, by what their values say while memory only grows.
-/
namespace Go.Proofs.Ytkmhldjebopljaa.RG
open Go

section
variable {P : Program}
/-- Operation k comes before operation i. -/
def ancB (l : List Oper) : Nat → Nat → Nat → Bool
  | 0, _, _ => false
  | d + 1, k, i => match l[i]? with
    | some o => o.after.toList.any fun e => Region.binds .any e && (e.on == k || ancB l d k e.on)
    | none => false
theorem anc_done {l : List Oper} {f : Nat → Bool} (hcl : ∀ k o, f k = true → l[k]? = some o → ∀ e ∈ o.after.toList, Region.binds .any e = true → f e.on = true) : ∀ (d k i : Nat) (o : Oper), l[i]? = some o → (∀ e ∈ o.after.toList, Region.binds .any e = true → f e.on = true) → ancB l d k i = true → f k = true
  | 0, _, _, _, _, _, h => by cases h
  | d + 1, k, i, o, ho, hd, h => by
    unfold ancB at h
    rw [ho] at h
    simp only [List.any_eq_true, Bool.and_eq_true, Bool.or_eq_true, beq_iff_eq] at h
    obtain ⟨e, he, hb, h1 | h1⟩ := h
    · rw [← h1]; exact hd e he hb
    · have hfe := hd e he hb
      have h2 := h1
      cases d with
      | zero => cases h1
      | succ d =>
        unfold ancB at h2
        cases ho2 : l[e.on]? with
        | none => rw [ho2] at h2; cases h2
        | some o2 => exact anc_done hcl (d + 1) k e.on o2 ho2 (hcl e.on o2 hfe ho2) h1
def covB (l : List Oper) (n : Nat) : Bool := (List.range (l.length - n)).all fun d => (List.range n).all fun k => ancB l l.length k (n + d)
def IsVL (L : List Value) : List (Value → World → Prop) := L.map fun c => IsV c
theorem VL_isv : ∀ (L : List Value) (Lt : List (Value → World → Prop)) (k : Nat) (v : Value) (w : World), k < L.length → (VL (IsVL L ++ Lt) k v w ↔ v = L.getD k undef)
  | [], _, k, _, _, h => by simp at h
  | c :: r, Lt, 0, v, w, _ => Iff.rfl
  | c :: r, Lt, k + 1, v, w, h => by
    have := VL_isv r Lt k v w (by simpa using h)
    rw [List.getD_cons_succ]
    exact this
theorem AllC.get {ops : Array Oper} {L : List Value} {Ws : Nat → World} {E : List Nat} {a0 : Act} : ∀ {l : List Oper} {i j : Nat} {o : Oper}, AllC P ops L Ws E a0 l i → l[j]? = some o → OneC P ops L Ws E a0 (i + j) o
  | [], _, _, _, _, hj => by simp at hj
  | o' :: r, i, 0, o, h, hj => by
    simp only [List.getElem?_cons_zero, Option.some.injEq] at hj
    subst hj; exact h.1
  | o' :: r, i, j + 1, o, h, hj => by
    simp only [List.getElem?_cons_succ] at hj
    have := AllC.get h.2 hj
    rwa [show i + (j + 1) = i + 1 + j by omega]
theorem All.get' {ops : Array Oper} {C : World → Prop} {Rel : World → World → Prop} {V : Nat → Value → World → Prop} {a0 : Act} : ∀ {l : List Oper} {i j : Nat} {o : Oper}, All P ops C Rel V a0 l i → l[j]? = some o → One P ops C Rel V a0 (i + j) o
  | [], _, _, _, _, hj => by simp at hj
  | o' :: r, i, 0, o, h, hj => by
    simp only [List.getElem?_cons_zero, Option.some.injEq] at hj
    subst hj; exact h.1
  | o' :: r, i, j + 1, o, h, hj => by
    simp only [List.getElem?_cons_succ] at hj
    have := All.get' h.2 hj
    rwa [show i + (j + 1) = i + 1 + j by omega]
def InvG (l : List Oper) (n : Nat) (L : List Value) (Lt : List (Value → World → Prop)) (Ws : Nat → World) (E : List Nat) (f : Nat → Bool) (y : Nat → Value) (w : World) : Prop :=
  (∀ k o, f k = true → l[k]? = some o → ∀ e ∈ o.after.toList, Region.binds .any e = true → f e.on = true) ∧
  (((∃ k, k < n ∧ f k = false) ∧ (∀ k, n ≤ k → f k = false) ∧ InvC l L Ws E f y w) ∨
   ((∀ k, k < n → f k = true) ∧ Go.RowKit.Below (Ws E.length).heap.size (Ws E.length) w ∧ ∀ k, f k = true → VL (IsVL L ++ Lt) k (y k) w))
theorem invG_of {l : List Oper} {n : Nat} {L : List Value} {Lt : List (Value → World → Prop)} {Ws : Nat → World} {E : List Nat} (hLn : L.length = n) (hlt : E.all (fun i => decide (i < n)) = true) {f : Nat → Bool} {y : Nat → Value} {w : World}
    (ht : ∀ k, n ≤ k → f k = false) (h : InvC l L Ws E f y w) : InvG l n L Lt Ws E f y w := by
  obtain ⟨hv, hcl, j, hj, rfl, hl⟩ := id h
  refine ⟨hcl, ?_⟩
  by_cases hx : ∃ k, k < n ∧ f k = false
  · exact .inl ⟨hx, ht, h⟩
  · have hall : ∀ k, k < n → f k = true := fun k hk => by
      cases hf : f k with
      | true => rfl
      | false => exact absurd ⟨k, hk, hf⟩ hx
    have hjE : j = E.length := by
      rcases Nat.lt_or_ge j E.length with h' | h'
      · exfalso
        have h1 := hl j E[j] (List.getElem?_eq_getElem h')
        rw [hall _ (by simpa using List.all_eq_true.1 hlt E[j] (List.getElem_mem h'))] at h1
        simp at h1
      · omega
    subst hjE
    refine .inr ⟨hall, Go.RowKit.Below.refl _ _, fun k hk => ?_⟩
    have hkn : k < n := by
      rcases Nat.lt_or_ge k n with h' | h'
      · exact h'
      · rw [ht k h'] at hk; cases hk
    exact (VL_isv L Lt k _ _ (by omega)).2 (hv k hk)
theorem region_chain_grow {id : Nat} {Q : Exit → Act → World → Prop} {a : Act} {w : World} {l : List Oper} (n : Nat) (E : List Nat) (L : List Value) (Ws : Nat → World) (Lt : List (Value → World → Prop))
    (hm : P.follows .mixedOrders = true) (hok : okB l 0 = true) (hE : chE l E = true) (hlt : E.all (fun i => decide (i < n)) = true) (hcov : covB l n = true) (hn : decide (0 < n ∧ n ≤ l.length) = true) (hLn : L.length = n) (h0 : Ws 0 = w.drew) (hst : AllStb (IsVL L ++ Lt))
    (hallH : AllC P l.toArray L Ws E a (l.take n) 0)
    (hallT : All P l.toArray (Go.RowKit.Below (Ws E.length).heap.size (Ws E.length)) (fun u u' => Go.RowKit.Below u.heap.size u u') (VL (IsVL L ++ Lt)) a (l.drop n) n)
    (hend : ∀ y w', Go.RowKit.Below (Ws E.length).heap.size (Ws E.length) w' → (∀ k, decide (k < l.length) = true → VL (IsVL L ++ Lt) k (y k) w') → Q .normal (putAll l 0 y a) w') :
    (Code.region id l.toArray true).wp P Q a w := by
  have hn0 : 0 < n := (of_decide_eq_true hn).1
  have hnl : n ≤ l.length := (of_decide_eq_true hn).2
  have hall : ∀ (r : List Oper) (i : Nat), (∀ k o, r[k]? = some o → l[i + k]? = some o) → AllI P l.toArray (InvG l n L Lt Ws E) a r i := by
    intro r
    induction r with
    | nil => intro i _; trivial
    | cons o r ih =>
      intro i hl
      refine ⟨?_, ih (i + 1) (fun k o' hk => by have := hl (k + 1) o' (by simpa using hk); rwa [show i + (k + 1) = i + 1 + k by omega] at this)⟩
      have ho : l[i]? = some o := hl 0 o rfl
      intro f y w K Q Cv hI hf hdep hCv hK
      obtain ⟨hcl, hI⟩ := hI
      rcases Nat.lt_or_ge i n with hin | hin
      · rcases hI with ⟨-, ht, hC⟩ | ⟨ha, -⟩
        · have hoc := AllC.get hallH (show (l.take n)[i]? = some o by rw [List.getElem?_take_of_lt hin]; exact ho)
          rw [Nat.zero_add] at hoc
          refine invC_one hE ho hoc f y w K Q Cv hC hf hdep (fun v w' hC' => hCv v w' (invG_of hLn hlt (fun k hk => ?_) hC')) hK
          have : k ≠ i := by omega
          simp [this, ht k hk]
        · rw [ha i hin] at hf; cases hf
      · have hlen : i < l.length := (List.getElem?_eq_some_iff.1 ho).1
        have hheads : ∀ k, k < n → f k = true := fun k hk => by
          have h1 := List.all_eq_true.1 hcov (i - n) (List.mem_range.2 (by omega))
          have h2 := List.all_eq_true.1 h1 k (List.mem_range.2 hk)
          rw [show n + (i - n) = i by omega] at h2
          exact anc_done hcl _ k i o ho hdep h2
        rcases hI with ⟨⟨k, hk, hfk⟩, -⟩ | ⟨-, hB, hv⟩
        · rw [hheads k hk] at hfk; cases hfk
        · have hoc := All.get' hallT (show (l.drop n)[i - n]? = some o by rw [List.getElem?_drop, show n + (i - n) = i by omega]; exact ho)
          rw [show n + (i - n) = i by omega] at hoc
          refine hoc y w K Q Cv hB (deps_of _ fun e he hb => hv _ (hdep e he hb)) (fun v w' hC hR hV => hCv v w' ⟨?_, .inr ⟨fun k hk => by simp [hheads k hk], hC, fun k hk => ?_⟩⟩) hK
          · intro k o' hk ho' e he hb
            rw [Bool.or_eq_true]
            right
            by_cases e' : k = i
            · subst e'
              rw [ho] at ho'; cases ho'
              exact hdep e he hb
            · exact hcl k o' (by simpa [e'] using hk) ho' e he hb
          · by_cases e : k = i
            · subst e
              unfold upd
              rw [if_pos rfl]
              exact hV
            · unfold upd
              rw [if_neg e]
              exact hst.at_ k _ _ _ hR (hv k (by simpa [e] using hk))
  refine region_inv (InvG l n L Lt Ws E) hm hok (fun y => ⟨(fun k o hk => by cases hk), .inl ⟨⟨0, hn0, rfl⟩, fun _ _ => rfl, (fun k hk => by cases hk), (fun k o hk => by cases hk), 0, Nat.zero_le _, h0.symm, fun b i hb => by simp⟩⟩) (hall l 0 (fun k o hk => by rwa [Nat.zero_add])) ?_
  rintro f y w' hf ⟨-, ⟨⟨k, hk, hfk⟩, -⟩ | ⟨-, hB, hv⟩⟩
  · exfalso
    rw [hf k (by omega)] at hfk
    cases hfk
  · exact hend y w' hB fun k hk => hv k (hf k (of_decide_eq_true hk))
end
end Go.Proofs.Ytkmhldjebopljaa.RG

/-
  A row of nothing. Of no function.
-/
namespace Go.Proofs.Ytkmhldjebopljaa
open Go.RowKit RG
theorem mk0_ev (w : World) : (Instr.buildSlice 37 0 #[]).run Try.prog w = .ok (.slice (some ⟨w.heap.size, 0, none⟩) 0 0) (w.alloc (.cells #[] 65)) := by kernel_rfl
theorem mk0_err (w : World) : (Instr.buildSlice 38 0 #[]).run Try.prog w = .ok (.slice (some ⟨w.heap.size, 0, none⟩) 0 0) (w.alloc (.cells #[] 30)) := by kernel_rfl
/-- The effect of a row of nothing. -/
theorem eff_mk0 {ops : Array Oper} {L : List Value} {Ws : Nat → World} {a0 : Act} {i b : Nat} {o : Oper} (hgd : o.guard = none) (t e : TypeId) (ho : o.op = .buildSlice t 0 #[])
    (hr : ∀ w : World, (Instr.buildSlice t 0 #[]).run Try.prog w = .ok (.slice (some ⟨w.heap.size, 0, none⟩) 0 0) (w.alloc (.cells #[] e)))
    (hL : L.getD i undef = .slice (some ⟨(Ws b).heap.size, 0, none⟩) 0 0) (hw : Ws (b + 1) = (Ws b).alloc (.cells #[] e)) : RG.EffC Try.prog ops L Ws a0 i o b := by
  intro y K Q hd hK
  have hw' : Region.wanted o (yielded ops (putAll ops.toList 0 y a0).tmps) = true := by simp [Region.wanted, hgd]
  rw [if_pos hw']
  unfold Oper.wp execOp
  simp only [ho]
  have h1 := hr (Ws b)
  simp only [List.map_toArray, List.map_nil, Sem.run_bind, Sem.run_pure, h1, Result.andThen_ok]
  rw [hL, hw] at hK
  exact hK
/-- An effect, as a structure (that no elaboration runs it). -/
structure EffS (P : Program) (ops : Array Oper) (L : List Value) (Ws : Nat → World) (a0 : Act) (i : Nat) (o : Oper) (b : Nat) : Prop where
  out : RG.EffC P ops L Ws a0 i o b
theorem oneC_effS {P : Program} {ops : Array Oper} {L : List Value} {Ws : Nat → World} {E : List Nat} {a0 : Act} {i : Nat} {o : Oper} (b : Nat) (hi : E[b]? = some i) (h : EffS P ops L Ws a0 i o b) : RG.OneC P ops L Ws E a0 i o := .inr ⟨b, hi, h.out⟩
theorem effS_mk0 {ops : Array Oper} {L : List Value} {Ws : Nat → World} {a0 : Act} {i b : Nat} {o : Oper} (t e : TypeId) (ho : o.op = .buildSlice t 0 #[])
    (hr : ∀ w : World, (Instr.buildSlice t 0 #[]).run Try.prog w = .ok (.slice (some ⟨w.heap.size, 0, none⟩) 0 0) (w.alloc (.cells #[] e)))
    (hwt : ∀ y, RG.depsC L y o.after.toList → Region.wanted o (yielded ops (putAll ops.toList 0 y a0).tmps) = true)
    (hL : L.getD i undef = .slice (some ⟨(Ws b).heap.size, 0, none⟩) 0 0) (hw : Ws (b + 1) = (Ws b).alloc (.cells #[] e)) : EffS Try.prog ops L Ws a0 i o b := by
  refine ⟨fun y K Q hdp hK => ?_⟩
  rw [if_pos (hwt y hdp)]
  unfold Oper.wp execOp
  simp only [ho]
  have h1 := hr (Ws b)
  simp only [List.map_toArray, List.map_nil, Sem.run_bind, Sem.run_pure, h1, Result.andThen_ok]
  rw [hL, hw] at hK
  exact hK
theorem effS_append {P : Program} {ops : Array Oper} {L : List Value} {Ws : Nat → World} {a0 : Act} {i b : Nat} {o : Oper} (s x : Operand) (t : TypeId)
    (ho : o.op = .call { callee := .builtin .append, args := #[s, x], argTypes := #[t, t] }) (v u : Value)
    (hs : ∀ y, RG.depsC L y o.after.toList → (putAll ops.toList 0 y a0).eval s = v) (hx : ∀ y, RG.depsC L y o.after.toList → (putAll ops.toList 0 y a0).eval x = u)
    (hw : ∀ y, RG.depsC L y o.after.toList → Region.wanted o (yielded ops (putAll ops.toList 0 y a0).tmps) = true)
    (hr : (Builtin.append_ #[t, t] o.type #[v, u]).run P (Ws b) = .ok (L.getD i undef) (Ws (b + 1))) : EffS P ops L Ws a0 i o b := by
  refine ⟨fun y K Q hd hK => ?_⟩
  rw [if_pos (hw y hd)]
  unfold Oper.wp execOp
  simp only [ho, resolve, invoke, builtin, Sem.run_bind, Sem.run_pure, Result.andThen_ok, List.map_toArray, List.map_cons, List.map_nil, hs y hd, hx y hd, hr]
  exact hK
end Go.Proofs.Ytkmhldjebopljaa
