import Derived.Test.YtkmhldjebopljaaOg
import Derived.Test.YtkmhldjebopljaaOa
import Derived.Test.YtkmhldjebopljaaOc
/-
  The rule for a region whose order Go leaves open, of which some operations change the world, one behind the other (each waits for the one before), and each operation gives one value, in whichever of these worlds.
-/
namespace Go.Proofs.Ytkmhldjebopljaa.RG
open Go

section
variable {P : Program}
def depsC (L : List Value) (y : Nat → Value) : List Edge → Prop
  | [] => True
  | e :: r => (Region.binds .any e = true → y e.on = L.getD e.on undef) ∧ depsC L y r
theorem depsC_of {L : List Value} {y : Nat → Value} : ∀ (l : List Edge), (∀ e ∈ l, Region.binds .any e = true → y e.on = L.getD e.on undef) → depsC L y l
  | [], _ => trivial
  | e :: r, h => ⟨h e (List.mem_cons_self ..), depsC_of r fun e' he' => h e' (List.mem_cons_of_mem _ he')⟩
/-- How many effects can come before the operation i at most: up to the first that waits for it. -/
def depE (l : List Oper) (i e : Nat) : Bool := match l[e]? with | some o => o.after.toList.any fun d => Region.binds .any d && d.on == i | none => false
def mxE (l : List Oper) (i : Nat) : List Nat → Nat
  | [] => 0
  | e :: r => if depE l i e = true then 0 else mxE l i r + 1
/-- The obligation of an operation that leaves the world as it is. -/
def StillC (P : Program) (ops : Array Oper) (L : List Value) (Ws : Nat → World) (E : List Nat) (a0 : Act) (i : Nat) (o : Oper) : Prop :=
  ∀ (y : Nat → Value) (j : Nat) (K : Act → World → Prop) (Q : Exit → Act → World → Prop), depsC L y o.after.toList → j ≤ mxE ops.toList i E →
    K ((putAll ops.toList 0 y a0).put o.dst (L.getD i undef)) (Ws j) →
    if Region.wanted o (yielded ops (putAll ops.toList 0 y a0).tmps) then o.wp P (putAll ops.toList 0 y a0) (Ws j) K Q else K ((putAll ops.toList 0 y a0).put o.dst undef) (Ws j)
/-- That of the b-th effect. -/
def EffC (P : Program) (ops : Array Oper) (L : List Value) (Ws : Nat → World) (a0 : Act) (i : Nat) (o : Oper) (b : Nat) : Prop :=
  ∀ (y : Nat → Value) (K : Act → World → Prop) (Q : Exit → Act → World → Prop), depsC L y o.after.toList →
    K ((putAll ops.toList 0 y a0).put o.dst (L.getD i undef)) (Ws (b + 1)) →
    if Region.wanted o (yielded ops (putAll ops.toList 0 y a0).tmps) then o.wp P (putAll ops.toList 0 y a0) (Ws b) K Q else K ((putAll ops.toList 0 y a0).put o.dst undef) (Ws b)
def OneC (P : Program) (ops : Array Oper) (L : List Value) (Ws : Nat → World) (E : List Nat) (a0 : Act) (i : Nat) (o : Oper) : Prop :=
  (i ∉ E ∧ StillC P ops L Ws E a0 i o) ∨ ∃ b, E[b]? = some i ∧ EffC P ops L Ws a0 i o b
def AllC (P : Program) (ops : Array Oper) (L : List Value) (Ws : Nat → World) (E : List Nat) (a0 : Act) : List Oper → Nat → Prop
  | [], _ => True
  | o :: r, i => OneC P ops L Ws E a0 i o ∧ AllC P ops L Ws E a0 r (i + 1)
/-- Each effect waits for the one before. -/
def chE (l : List Oper) : List Nat → Bool
  | a :: b :: r => (match l[b]? with | some o => o.after.toList.any fun e => Region.binds .any e && e.on == a | none => false) && decide (a < b) && chE l (b :: r)
  | _ => true
theorem chE_step {l : List Oper} : ∀ {E : List Nat}, chE l E = true → ∀ {b i i' : Nat}, E[b]? = some i → E[b + 1]? = some i' → i < i' ∧ ∃ o, l[i']? = some o ∧ ∃ e ∈ o.after.toList, Region.binds .any e = true ∧ e.on = i
  | [], _, b, i, i', h1, _ => by simp at h1
  | [a], _, b, i, i', _, h2 => by simp at h2
  | a :: c :: r, h, 0, i, i', h1, h2 => by
    simp only [List.getElem?_cons_zero, Option.some.injEq, List.getElem?_cons_succ] at h1 h2
    subst h1; subst h2
    simp only [chE, Bool.and_eq_true, decide_eq_true_eq] at h
    refine ⟨h.1.2, ?_⟩
    have h3 := h.1.1
    split at h3
    · rename_i o ho
      rw [List.any_eq_true] at h3
      obtain ⟨e, he, hb⟩ := h3
      simp only [Bool.and_eq_true, beq_iff_eq] at hb
      exact ⟨o, ho, e, he, hb.1, hb.2⟩
    · cases h3
  | a :: c :: r, h, b + 1, i, i', h1, h2 => by
    simp only [chE, Bool.and_eq_true] at h
    exact chE_step h.2 (by simpa using h1) (by simpa using h2)
theorem chE_lt {l : List Oper} {E : List Nat} (h : chE l E = true) : ∀ (d b : Nat) {i i' : Nat}, E[b]? = some i → E[b + d + 1]? = some i' → i < i'
  | 0, b, i, i', h1, h2 => (chE_step h h1 h2).1
  | d + 1, b, i, i', h1, h2 => by
    have hlt : b + d + 1 < E.length := by have := (List.getElem?_eq_some_iff.1 h2).1; omega
    have h3 : E[b + d + 1]? = some E[b + d + 1] := List.getElem?_eq_getElem hlt
    have := chE_lt h d b h1 h3
    have := (chE_step h h3 (show E[b + d + 1 + 1]? = some i' from h2)).1
    omega
theorem chE_inj {l : List Oper} {E : List Nat} (h : chE l E = true) {b c i : Nat} (h1 : E[b]? = some i) (h2 : E[c]? = some i) : b = c := by
  rcases Nat.lt_trichotomy b c with hl | he | hl
  · have := chE_lt h (c - b - 1) b h1 (by rw [show b + (c - b - 1) + 1 = c by omega]; exact h2); omega
  · exact he
  · have := chE_lt h (b - c - 1) c h2 (by rw [show c + (b - c - 1) + 1 = b by omega]; exact h1); omega
theorem mxE_ge {l : List Oper} {i j : Nat} : ∀ (E : List Nat) (c : Nat), j ≤ c + E.length → (∀ b e o, E[b]? = some e → l[e]? = some o → (∃ d ∈ o.after.toList, Region.binds .any d = true ∧ d.on = i) → j ≤ c + b) → j ≤ c + mxE l i E
  | [], c, h, _ => h
  | e :: r, c, h, hb => by
    unfold mxE
    split
    · rename_i h1
      unfold depE at h1
      split at h1
      · rename_i o ho
        rw [List.any_eq_true] at h1
        obtain ⟨d, hd, hd2⟩ := h1
        simp only [Bool.and_eq_true, beq_iff_eq] at hd2
        exact hb 0 e o rfl ho ⟨d, hd, hd2.1, hd2.2⟩
      · cases h1
    · have := mxE_ge (l := l) (i := i) (j := j) r (c + 1) (by simp only [List.length_cons] at h; omega) (fun b e' o h1 h2 h3 => by have := hb (b + 1) e' o (by simpa using h1) h2 h3; omega)
      omega
def InvC (l : List Oper) (L : List Value) (Ws : Nat → World) (E : List Nat) (f : Nat → Bool) (y : Nat → Value) (w : World) : Prop :=
  (∀ k, f k = true → y k = L.getD k undef) ∧ (∀ k o, f k = true → l[k]? = some o → ∀ e ∈ o.after.toList, Region.binds .any e = true → f e.on = true) ∧ ∃ j, j ≤ E.length ∧ w = Ws j ∧ ∀ b i, E[b]? = some i → f i = decide (b < j)
theorem invC_one {l : List Oper} {L : List Value} {Ws : Nat → World} {E : List Nat} {a0 : Act} (hE : chE l E = true) {i : Nat} {o : Oper} (ho : l[i]? = some o) (h : OneC P l.toArray L Ws E a0 i o) : OneI P l.toArray (InvC l L Ws E) a0 i o := by
  intro f y w K Q Cv hI hf hdep hCv hK
  obtain ⟨hv, hcl, j, hj, rfl, hl⟩ := hI
  have hd : depsC L y o.after.toList := depsC_of _ fun e he hb => hv _ (hdep e he hb)
  have hval : ∀ k, (decide (k = i) || f k) = true → upd y i (L.getD i undef) k = L.getD k undef := by
    intro k hk
    unfold upd
    by_cases e : k = i
    · subst e; rw [if_pos rfl]
    · rw [if_neg e]
      exact hv k (by simpa [e] using hk)
  have hcl2 : ∀ k o', (decide (k = i) || f k) = true → l[k]? = some o' → ∀ e ∈ o'.after.toList, Region.binds .any e = true → (decide (e.on = i) || f e.on) = true := by
    intro k o' hk ho' e he hb
    rw [Bool.or_eq_true]
    right
    by_cases e' : k = i
    · subst e'
      rw [ho] at ho'; cases ho'
      exact hdep e he hb
    · exact hcl k o' (by simpa [e'] using hk) ho' e he hb
  rcases h with ⟨hn, hs⟩ | ⟨b, hb, he⟩
  · have hjm : j ≤ mxE l.toArray.toList i E := by
      have := mxE_ge (l := l) (i := i) (j := j) E 0 (by omega) (fun b e o' h1 h2 h3 => by
        obtain ⟨d, hd, hbb, hon⟩ := h3
        rcases Nat.lt_or_ge b j with hlt | hge
        · exfalso
          have h4 := hl b e h1
          rw [decide_eq_true hlt] at h4
          have h5 := hcl e o' h4 h2 d hd hbb
          rw [hon, hf] at h5
          cases h5
        · omega)
      simpa using this
    refine hs y j K Q hd hjm (hK _ _ (hCv _ _ ⟨hval, hcl2, j, hj, rfl, fun b i' hi' => ?_⟩))
    have : i' ≠ i := fun e => hn (e ▸ List.mem_of_getElem? hi')
    simp only [this, decide_false, Bool.false_or]
    exact hl b i' hi'
  · have h1 := hl b i hb
    rw [hf] at h1
    have hjb : j ≤ b := by simpa using h1.symm
    have hbl := (List.getElem?_eq_some_iff.1 hb).1
    have hjb2 : j = b := by
      rcases Nat.lt_or_ge j b with hlt | hge
      · exfalso
        have hb1 : E[b - 1]? = some E[b - 1] := List.getElem?_eq_getElem (by omega)
        obtain ⟨_, o', ho', e, he', hbb, hon⟩ := chE_step hE hb1 (by rw [show b - 1 + 1 = b by omega]; exact hb)
        rw [ho] at ho'
        cases ho'
        have h2 := hdep e he' hbb
        rw [hon] at h2
        have h3 := hl (b - 1) _ hb1
        rw [h2] at h3
        have : b - 1 < j := by simpa using h3.symm
        omega
      · omega
    subst hjb2
    refine he y K Q hd (hK _ _ (hCv _ _ ⟨hval, hcl2, j + 1, by omega, rfl, fun c i' hi' => ?_⟩))
    by_cases e : i' = i
    · subst e
      have := chE_inj hE hi' hb
      subst this
      simp
    · simp only [e, decide_false, Bool.false_or]
      rw [hl c i' hi']
      have : c ≠ j := fun e' => e (by subst e'; rw [hi'] at hb; exact Option.some.inj hb)
      rw [decide_eq_decide]
      omega
theorem AllC.all {l : List Oper} {L : List Value} {Ws : Nat → World} {E : List Nat} {a0 : Act} (hE : chE l E = true) : ∀ (r : List Oper) (i : Nat), (∀ k o, r[k]? = some o → l[i + k]? = some o) → AllC P l.toArray L Ws E a0 r i → AllI P l.toArray (InvC l L Ws E) a0 r i
  | [], _, _, _ => trivial
  | o :: r, i, hl, h => ⟨invC_one hE (hl 0 o rfl) h.1, AllC.all hE r (i + 1) (fun k o' hk => by have := hl (k + 1) o' (by simpa using hk); rwa [show i + (k + 1) = i + 1 + k by omega] at this) h.2⟩
/-- THE RULE. -/
theorem region_chain {id : Nat} {Q : Exit → Act → World → Prop} {a : Act} {w : World} {l : List Oper} (E : List Nat) (L : List Value) (Ws : Nat → World)
    (hm : P.follows .mixedOrders = true) (hok : okB l 0 = true) (hE : chE l E = true) (hlt : E.all (fun i => decide (i < l.length)) = true) (h0 : Ws 0 = w.drew)
    (hall : AllC P l.toArray L Ws E a l 0) (hend : Q .normal (putAll l 0 (fun k => L.getD k undef) a) (Ws E.length)) :
    (Code.region id l.toArray true).wp P Q a w := by
  refine region_inv (InvC l L Ws E) hm hok (fun y => ⟨fun k hk => (by cases hk), fun k o hk => (by cases hk), 0, Nat.zero_le _, h0.symm, fun b i hb => by simp⟩) (AllC.all hE l 0 (fun k o hk => by rwa [Nat.zero_add]) hall) ?_
  rintro f y w' hf ⟨hv, -, j, hj, rfl, hl⟩
  have hjE : j = E.length := by
    rcases Nat.lt_or_ge j E.length with h | h
    · exfalso
      have h1 := hl j E[j] (List.getElem?_eq_getElem h)
      rw [hf _ (by simpa using List.all_eq_true.1 hlt E[j] (List.getElem_mem h))] at h1
      simp at h1
    · omega
  subst hjE
  rw [putAll_congr l 0 y (fun k => L.getD k undef) a fun k _ hk => hv k (hf k (by omega))]
  exact hend
theorem oneC_still {ops : Array Oper} {L : List Value} {Ws : Nat → World} {E : List Nat} {a0 : Act} {i : Nat} {o : Oper} (m : Nat) (hi : E.contains i = false) (hm : decide (mxE ops.toList i E ≤ m) = true)
    (h : ∀ (y : Nat → Value) (j : Nat) (K : Act → World → Prop) (Q : Exit → Act → World → Prop), depsC L y o.after.toList → j ≤ m → K ((putAll ops.toList 0 y a0).put o.dst (L.getD i undef)) (Ws j) →
      if Region.wanted o (yielded ops (putAll ops.toList 0 y a0).tmps) then o.wp P (putAll ops.toList 0 y a0) (Ws j) K Q else K ((putAll ops.toList 0 y a0).put o.dst undef) (Ws j)) : OneC P ops L Ws E a0 i o :=
  .inl ⟨fun hm => by (rw [← List.contains_iff_mem] at hm; rw [hm] at hi; exact absurd hi (by simp)), fun y j K Q hd hj hK => h y j K Q hd (Nat.le_trans hj (of_decide_eq_true hm)) hK⟩
/-- Worlds one behind the other. -/
def wsC (w0 : World) : List World → Nat → World
  | _, 0 => w0
  | [], _ + 1 => w0
  | w :: r, k + 1 => wsC w r k
theorem oneC_eff {ops : Array Oper} {L : List Value} {Ws : Nat → World} {E : List Nat} {a0 : Act} {i : Nat} {o : Oper} (b : Nat) (hi : E[b]? = some i) (h : EffC P ops L Ws a0 i o b) : OneC P ops L Ws E a0 i o := .inr ⟨b, hi, h⟩
/-- The effect of an append whose run is known. -/
theorem eff_append {ops : Array Oper} {L : List Value} {Ws : Nat → World} {a0 : Act} {i b : Nat} {o : Oper} (hgd : o.guard = none) (s x : Operand) (t : TypeId)
    (ho : o.op = .call { callee := .builtin .append, args := #[s, x], argTypes := #[t, t] }) (v u : Value)
    (hs : ∀ y, depsC L y o.after.toList → (putAll ops.toList 0 y a0).eval s = v) (hx : ∀ y, depsC L y o.after.toList → (putAll ops.toList 0 y a0).eval x = u)
    (hr : (Builtin.append_ #[t, t] o.type #[v, u]).run P (Ws b) = .ok (L.getD i undef) (Ws (b + 1))) : EffC P ops L Ws a0 i o b := by
  intro y K Q hd hK
  have hw : Region.wanted o (yielded ops (putAll ops.toList 0 y a0).tmps) = true := by simp [Region.wanted, hgd]
  rw [if_pos hw]
  unfold Oper.wp execOp
  simp only [ho, resolve, invoke, builtin, Sem.run_bind, Sem.run_pure, Result.andThen_ok, List.map_toArray, List.map_cons, List.map_nil, hs y hd, hx y hd, hr]
  exact hK
end
end Go.Proofs.Ytkmhldjebopljaa.RG

/-
  The method post of the books.
-/
namespace Go.Proofs.Ytkmhldjebopljaa
open Go.RowKit RG

theorem info_parts {t : TypeId} {z : Value} {k b : Nat} (h : (Try.prog.info? t).map (fun i => (i.zero, i.size, i.bytes)) = some (some z, k, b)) : ∃ i, Try.prog.info? t = some i ∧ i.zero = some z ∧ i.size = k ∧ i.bytes = b := by
  cases hi : Try.prog.info? t with
  | none => rw [hi] at h; cases h
  | some i =>
    rw [hi] at h
    simp only [Option.map_some, Option.some.injEq, Prod.mk.injEq] at h
    exact ⟨i, rfl, h.1, h.2.1, h.2.2⟩
theorem infoPst : (Try.prog.info? 61).map (fun i => (i.zero, i.size, i.bytes)) = some (some (.agg #[.int .i64 0, .int .i64 0, .int .i64 0, .int .i64 0]), 4, 32) := by kernel_rfl
theorem infoLes : (Try.prog.info? 63).map (fun i => (i.zero, i.size, i.bytes)) = some (some (.agg #[.int .i64 0, .int .i64 0, .int .i64 0, .int .i64 0, .int .i64 0]), 5, 40) := by kernel_rfl
theorem infoInt : (Try.prog.info? 3).map (fun i => (i.zero, i.size, i.bytes)) = some (some (.int .i64 0), 1, 8) := by kernel_rfl
theorem int_row {w : World} {X : Nat → Prop} {v : Value} {xs : List Int} (h : RowAt w X 3 1 v (xs.map iCells)) (hn : 0 < xs.length) : ∃ g cap, v = .slice (some ⟨g, 0, none⟩) xs.length cap ∧ ¬ X g ∧ g < w.heap.size ∧ xs.length ≤ cap ∧ cap ≤ maxLen ∧ (∀ i, w.frozen? ⟨g, i, none⟩ = false) ∧
    (∀ j, j < xs.length → w.cell? ⟨g, j, none⟩ = some (.int .i64 (xs[j]?.getD 0))) ∧ ∃ cur, Blk w g 3 cur := by
  obtain ⟨g, cap, e, h1, h2, h3, h4, h5, h6, h7, h8⟩ := h.at (by simpa using hn)
  rw [List.length_map] at e h3
  refine ⟨g, cap, e, h1, h2, h3, h4, h7, fun j hj => ?_, h8⟩
  have := h6 j 0 (.int .i64 (xs[j]?.getD 0)) (by rw [List.getElem?_map, List.getElem?_eq_getElem hj]; rfl)
  rwa [Nat.mul_one, Nat.add_zero] at this
theorem map_set_i (xs : List Int) (j : Nat) (x : Int) : (xs.map iCells).set j [.int .i64 x] = (xs.set j x).map iCells := by rw [List.map_set]; rfl
theorem addAt_nat (l : List Int) (j : Nat) (x : Int) : addAt l (j : Int) x = l.set j (l[j]?.getD 0 + x) := by unfold addAt; rw [Int.toNat_natCast]

set_option maxRecDepth 100000 in
set_option maxHeartbeats 1000000 in
theorem post_any {w : World} {X : Nat → Prop} {p : Nat} {L C T : Option Addr} {cl cc ct : Nat} {S : BSch} {vl vk vs va : Value} {mb : Nat} {vp : Value} {b : Bks} {ev : Int} (h : RawB w X p L C T cl cc ct S vl vk vs va mb vp b ev) {jf jt : Nat} {c : Int}
    (hf : jf < b.acc.length) (ht : jt < b.acc.length) (hl : b.acc.length ≤ 1000) (hc : 0 ≤ c ∧ c ≤ 1000000000) (ha : ∀ a ∈ b.acc, -1000000000000 ≤ a ∧ a ≤ 1000000000000) (hp : b.pst.length ≤ 1000) :
    Calls Try.prog 104 #[.pointer (some ⟨p, 0, none⟩), .int .i64 jf, .int .i64 jt, .int .i64 c] w fun e w' => e = .returned (.tuple #[]) ∧ Books w' X p L C T cl cc ct S (postB b ev jf jt c) ev ∧ KeptX X w w' := by
  by_cases h0 : c = 0
  · subst h0
    go_enter Try.func104, Try.ntmps104
    go_wp2
    refine bodyPost_ret (results_none rfl _ _ _) rfl ?_
    exact ⟨rfl, ⟨vl, vk, vs, va, mb, vp, by unfold postB; rw [if_pos rfl]; exact h⟩, KeptX.refl _ _⟩
  · have hc0 : (c == 0) = false := by rw [beq_eq_false_iff_ne]; exact h0
    have hpost : postB b ev jf jt c = { b with acc := addAt (addAt b.acc jf (-c)) jt c, pst := b.pst ++ [⟨ev, jf, jt, c⟩] } := by unfold postB; rw [if_neg h0]
    obtain ⟨ga, cap, rfl, hgx, hgl, hcap, hcm, hfz, hcell, -⟩ := int_row h.acc (by omega)
    obtain ⟨-, -, -, -, -, -, -, -, -, -, c10, -, -, -, -, hpf⟩ := books_cells h.blk
    have e1 := hcell jf hf
    have z1 := hfz jf
    have hA := ha (b.acc[jf]?.getD 0) (by rw [List.getElem?_eq_getElem hf]; exact List.getElem_mem hf)
    generalize hxf : b.acc[jf]?.getD 0 = xf at *
    have w1w : IntKind.i64.wrap (xf - c) = xf - c := by rw [IntKind.wrap_i64]; omega
    have hr1 := h.setAcc (j := jf) (by simpa using hf) (.int .i64 (xf - c))
    rw [map_set_i] at hr1
    have hk1 := KeptX.setCell w (p := ⟨ga, jf, none⟩) hgx (.int .i64 (xf - c))
    obtain ⟨w1, hw1⟩ : ∃ x, w.setCell ⟨ga, jf, none⟩ (.int .i64 (xf - c)) = x := ⟨_, rfl⟩
    rw [hw1] at hr1 hk1
    -- the second account
    have hlen1 : (b.acc.set jf (xf - c)).length = b.acc.length := List.length_set
    obtain ⟨ga', cap', e', -, -, -, -, hfz1, hcell1, -⟩ := int_row hr1.acc (by rw [hlen1]; omega)
    rw [hlen1] at e' hcell1
    cases e'
    obtain ⟨-, -, -, -, -, -, -, -, -, -, d10, -, -, -, -, -⟩ := books_cells hr1.blk
    have e2 := hcell1 jt ht
    have z2 := hfz1 jt
    have hA2 : -2000000000000 ≤ (b.acc.set jf (xf - c))[jt]?.getD 0 ∧ (b.acc.set jf (xf - c))[jt]?.getD 0 ≤ 2000000000000 := by
      rw [List.getElem?_eq_getElem (by rw [hlen1]; exact ht), Option.getD_some]
      rcases List.mem_or_eq_of_mem_set (List.getElem_mem (by rw [hlen1]; exact ht) : (b.acc.set jf (xf - c))[jt] ∈ _) with h' | h'
      · have := ha _ h'; omega
      · rw [h']; omega
    generalize hxt : (b.acc.set jf (xf - c))[jt]?.getD 0 = xt at *
    have w2w : IntKind.i64.wrap (xt + c) = xt + c := by rw [IntKind.wrap_i64]; omega
    have hr2 := hr1.setAcc (j := jt) (by simpa using ht) (.int .i64 (xt + c))
    rw [map_set_i] at hr2
    have hk2 := KeptX.setCell w1 (p := ⟨ga, jt, none⟩) hgx (.int .i64 (xt + c))
    obtain ⟨w2, hw2⟩ : ∃ x, w1.setCell ⟨ga, jt, none⟩ (.int .i64 (xt + c)) = x := ⟨_, rfl⟩
    rw [hw2] at hr2 hk2
    have hacc : addAt (addAt b.acc jf (-c)) jt c = (b.acc.set jf (xf - c)).set jt (xt + c) := by
      rw [addAt_nat, addAt_nat, hxf, show xf + -c = xf - c by omega, hxt]
    rw [hpost, hacc]
    have hcA := hide hacc
    -- the row of postings
    obtain ⟨i0, hi, hz0, hz1, hz2⟩ := info_parts infoPst
    have hrow := hr2.pst.own
    rw [List.length_map] at hrow
    have hB : w2.heap.size ≤ w2.heap.size := Nat.le_refl _
    obtain ⟨v', w4, hrun, hown, hgrow, -, hat⟩ := run_append_own_at (P := Try.prog) (w2.drew.alloc (.cells #[.int .i64 ev, .int .i64 jf, .int .i64 jt, .int .i64 c] 61)) 0 47 47 61 i0 _ 4 32 Try.underlying47 hi hz0 hz1 hz2 rfl (by decide)
      vp b.pst.length (b.pst.map pstCells).flatten (World.ownsRow.alloc hrow _) ⟨w2.heap.size, 0, none⟩ 1 1 [.int .i64 ev, .int .i64 jf, .int .i64 jt, .int .i64 c] rfl
      (by
        intro j u hj
        match j, hj with
        | 0, hj => cases hj; exact World.cell?_alloc_new _ _ _ 0
        | 1, hj => cases hj; exact World.cell?_alloc_new _ _ _ 1
        | 2, hj => cases hj; exact World.cell?_alloc_new _ _ _ 2
        | 3, hj => cases hj; exact World.cell?_alloc_new _ _ _ 3)
      (by intro u hu; simp only [List.mem_cons, List.not_mem_nil, or_false] at hu; rcases hu with rfl | rfl | rfl | rfl <;> rfl) (by unfold maxLen; omega) (by omega) (Nat.zero_le _)
    obtain ⟨gn, capn, rfl⟩ : ∃ g c, v' = .slice (some ⟨g, 0, none⟩) (b.pst.length + 1) c := by
      rcases hown.2 with ⟨_, h'⟩ | ⟨g, cp, cur, e, _⟩
      · omega
      · exact ⟨g, cp, e⟩
    have hra : Raw (w2.drew.alloc (.cells #[.int .i64 ev, .int .i64 jf, .int .i64 jt, .int .i64 c] 61)) X p L C T cl cc ct S vl vk vs _ mb vp _ _ _ _ _ _ _ ev := Raw.alloc (hr2.below (Below.refl _ _).drew) _
    have hkA := KeptX.alloc w2.drew (show Old X w2.drew from hr2.old) (.cells #[.int .i64 ev, .int .i64 jf, .int .i64 jt, .int .i64 c] 61)
    obtain ⟨wa, hwa⟩ : ∃ x, w2.drew.alloc (.cells #[.int .i64 ev, .int .i64 jf, .int .i64 jt, .int .i64 c] 61) = x := ⟨_, rfl⟩
    rw [hwa] at hra hrun hgrow hat hkA
    have hG : Grew wa w4 vp (.slice (some ⟨gn, 0, none⟩) (b.pst.length + 1) capn) := ⟨hgrow, by rcases hat with h' | h'; exact .inl h'; exact .inr ⟨_, h', Nat.le_refl _⟩⟩
    have hrow4 : RowAt w4 X 61 4 (.slice (some ⟨gn, 0, none⟩) (b.pst.length + 1) capn) ((b.pst ++ [(⟨ev, jf, jt, c⟩ : Pst)]).map pstCells) := by
      refine rowAt_of ?_ ?_ ?_
      · intro x hx
        obtain ⟨q, _, rfl⟩ := List.mem_map.1 hx
        rfl
      · simpa [pstCells] using hown
      · intro g hg hX
        rcases hat with h' | h'
        · exact hra.pst.not g (by rw [← h']; exact hg) hX
        · rw [hg] at h'; cases h'; exact absurd (hra.old _ hX) (Nat.lt_irrefl _)
    have hfin := hide (hra.newPst hG hrow4)
    have hkF := hide (hk1.trans (hk2.trans (((KeptX.refl X w2).drew.trans hkA).trans ((hG.keptX hra.old hra.pst.not).trans (KeptX.setCell w4 (p := ⟨p, 12, none⟩) hra.px (.slice (some ⟨gn, 0, none⟩) (b.pst.length + 1) capn))))))
    have hp0 : w2.cell? ⟨p, 12, none⟩ = some vp := (books_cells hr2.blk).2.2.2.2.2.2.2.2.2.2.2.2.1
    have hb4 : Blk w4 p 99 _ := hG.blk hra.blk (hra.pst.nblk hra.blk (by decide))
    have hpc : ∀ j, j ≤ 3 → (wsC w2.drew [wa, w4, w4.setCell ⟨p, 12, none⟩ (.slice (some ⟨gn, 0, none⟩) (b.pst.length + 1) capn)] j).cell? ⟨p, 14, none⟩ = some (.int .i64 ev) ∧ (j ≤ 1 → (wsC w2.drew [wa, w4, w4.setCell ⟨p, 12, none⟩ (.slice (some ⟨gn, 0, none⟩) (b.pst.length + 1) capn)] j).cell? ⟨p, 12, none⟩ = some vp) := by
      intro j hj
      rcases (show j = 0 ∨ j = 1 ∨ j = 2 ∨ j = 3 by omega) with rfl | rfl | rfl | rfl
      · exact ⟨hr2.blk.cell 14, fun _ => hp0⟩
      · exact ⟨hra.blk.cell 14, fun _ => hra.blk.cell 12⟩
      · exact ⟨hb4.cell 14, fun h => by omega⟩
      · exact ⟨hfin.out.blk.cell 14, fun h => by omega⟩
    have hz4 : w4.frozen? ⟨p, 12, none⟩ = false := hb4.frozen 12
    have hc4 : w4.cell? ⟨p, 12, none⟩ = some vp := hb4.cell 12
    replace hrun := hide hrun
    replace hpc := hide hpc
    replace hwa := hide hwa
    replace hw2 := hide hw2
    replace hw1 := hide hw1
    clear hG hrow4 hgrow hat hown hrow hi hz0 hz1 hz2 hra hkA hr1 hk1 hr2 hk2 hcell hcell1 hfz hfz1 hpf hpost hacc hcA hA hA2 h ha hxf hxt hb4
    have hjf : (jf : Int) < (b.acc.length : Int) := by omega
    have hjt : (jt : Int) < (b.acc.length : Int) := by omega
    generalize b.acc.length = n at *
    generalize hlp : b.pst.length = np at *
    go_enter Try.func104, Try.ntmps104
    go_upto_region 2 with fail
    rw [hw1.out]
    go_upto_region 3 with fail
    rw [hw2.out]
    refine region_chain [13, 14, 17] [.pointer (some ⟨p, 0, none⟩), .pointer (some ⟨p, 0, none⟩), .pointer (some ⟨p, 0, none⟩), .pointer (some ⟨p, 12, none⟩), vp, .pointer (some ⟨p, 0, none⟩), .pointer (some ⟨p, 0, none⟩), .pointer (some ⟨p, 14, none⟩), .int .i64 ev, .int .i64 jf, .int .i64 jt, .int .i64 c,
      .agg #[.int .i64 ev, .int .i64 jf, .int .i64 jt, .int .i64 c], .slice (some ⟨w2.heap.size, 0, none⟩) 1 1, (.slice (some ⟨gn, 0, none⟩) (np + 1) capn), .pointer (some ⟨p, 0, none⟩), .pointer (some ⟨p, 12, none⟩), undef] (wsC w2.drew [wa, w4, w4.setCell ⟨p, 12, none⟩ (.slice (some ⟨gn, 0, none⟩) (np + 1) capn)])
      (by kernel_rfl) (by kernel_rfl) (by kernel_rfl) (by kernel_rfl) rfl ?_ ?_
    · clear c10 d10 e1 e2 z1 z2 w1w w2w hjf hjt hc0 hfin hkF
      refine ⟨?_, ?_, ?_, ?_, ?_, ?_, ?_, ?_, ?_, ?_, ?_, ?_, ?_, ?_, ?_, ?_, ?_, ?_, trivial⟩
      · refine oneC_still 3 (by kernel_rfl) (by kernel_rfl) ?_
        intro y j K Q hd hj hK
        have a1 := (hpc.out j (Nat.le_trans hj (by decide))).1
        generalize wsC w2.drew [wa, w4, w4.setCell ⟨p, 12, none⟩ (.slice (some ⟨gn, 0, none⟩) (np + 1) capn)] j = W at *
        clear hd
        revert hK
        simp only [putAll, Act.put]
        go_simp
      · refine oneC_still 3 (by kernel_rfl) (by kernel_rfl) ?_
        intro y j K Q hd hj hK
        have a1 := (hpc.out j (Nat.le_trans hj (by decide))).1
        generalize wsC w2.drew [wa, w4, w4.setCell ⟨p, 12, none⟩ (.slice (some ⟨gn, 0, none⟩) (np + 1) capn)] j = W at *
        clear hd
        revert hK
        simp only [putAll, Act.put]
        go_simp
      · refine oneC_still 3 (by kernel_rfl) (by kernel_rfl) ?_
        intro y j K Q hd hj hK
        have a1 := (hpc.out j (Nat.le_trans hj (by decide))).1
        generalize wsC w2.drew [wa, w4, w4.setCell ⟨p, 12, none⟩ (.slice (some ⟨gn, 0, none⟩) (np + 1) capn)] j = W at *
        simp [depsC, Region.binds] at hd
        revert hK
        simp only [putAll, Act.put]
        go_simp
      · refine oneC_still 3 (by kernel_rfl) (by kernel_rfl) ?_
        intro y j K Q hd hj hK
        have a1 := (hpc.out j (Nat.le_trans hj (by decide))).1
        generalize wsC w2.drew [wa, w4, w4.setCell ⟨p, 12, none⟩ (.slice (some ⟨gn, 0, none⟩) (np + 1) capn)] j = W at *
        simp [depsC, Region.binds] at hd
        revert hK
        simp only [putAll, Act.put]
        go_simp
      · refine oneC_still 1 (by kernel_rfl) (by kernel_rfl) ?_
        intro y j K Q hd hj hK
        have a1 := (hpc.out j (Nat.le_trans hj (by decide))).1
        have a2 := (hpc.out j (Nat.le_trans hj (by decide))).2 hj
        generalize wsC w2.drew [wa, w4, w4.setCell ⟨p, 12, none⟩ (.slice (some ⟨gn, 0, none⟩) (np + 1) capn)] j = W at *
        simp [depsC, Region.binds] at hd
        revert hK
        simp only [putAll, Act.put]
        go_simp
      · refine oneC_still 3 (by kernel_rfl) (by kernel_rfl) ?_
        intro y j K Q hd hj hK
        have a1 := (hpc.out j (Nat.le_trans hj (by decide))).1
        generalize wsC w2.drew [wa, w4, w4.setCell ⟨p, 12, none⟩ (.slice (some ⟨gn, 0, none⟩) (np + 1) capn)] j = W at *
        clear hd
        revert hK
        simp only [putAll, Act.put]
        go_simp
      · refine oneC_still 3 (by kernel_rfl) (by kernel_rfl) ?_
        intro y j K Q hd hj hK
        have a1 := (hpc.out j (Nat.le_trans hj (by decide))).1
        generalize wsC w2.drew [wa, w4, w4.setCell ⟨p, 12, none⟩ (.slice (some ⟨gn, 0, none⟩) (np + 1) capn)] j = W at *
        simp [depsC, Region.binds] at hd
        revert hK
        simp only [putAll, Act.put]
        go_simp
      · refine oneC_still 3 (by kernel_rfl) (by kernel_rfl) ?_
        intro y j K Q hd hj hK
        have a1 := (hpc.out j (Nat.le_trans hj (by decide))).1
        generalize wsC w2.drew [wa, w4, w4.setCell ⟨p, 12, none⟩ (.slice (some ⟨gn, 0, none⟩) (np + 1) capn)] j = W at *
        simp [depsC, Region.binds] at hd
        revert hK
        simp only [putAll, Act.put]
        go_simp
      · refine oneC_still 3 (by kernel_rfl) (by kernel_rfl) ?_
        intro y j K Q hd hj hK
        have a1 := (hpc.out j (Nat.le_trans hj (by decide))).1
        generalize wsC w2.drew [wa, w4, w4.setCell ⟨p, 12, none⟩ (.slice (some ⟨gn, 0, none⟩) (np + 1) capn)] j = W at *
        simp [depsC, Region.binds] at hd
        revert hK
        simp only [putAll, Act.put]
        go_simp
      · refine oneC_still 3 (by kernel_rfl) (by kernel_rfl) ?_
        intro y j K Q hd hj hK
        have a1 := (hpc.out j (Nat.le_trans hj (by decide))).1
        generalize wsC w2.drew [wa, w4, w4.setCell ⟨p, 12, none⟩ (.slice (some ⟨gn, 0, none⟩) (np + 1) capn)] j = W at *
        clear hd
        revert hK
        simp only [putAll, Act.put]
        go_simp
      · refine oneC_still 3 (by kernel_rfl) (by kernel_rfl) ?_
        intro y j K Q hd hj hK
        have a1 := (hpc.out j (Nat.le_trans hj (by decide))).1
        generalize wsC w2.drew [wa, w4, w4.setCell ⟨p, 12, none⟩ (.slice (some ⟨gn, 0, none⟩) (np + 1) capn)] j = W at *
        clear hd
        revert hK
        simp only [putAll, Act.put]
        go_simp
      · refine oneC_still 3 (by kernel_rfl) (by kernel_rfl) ?_
        intro y j K Q hd hj hK
        have a1 := (hpc.out j (Nat.le_trans hj (by decide))).1
        generalize wsC w2.drew [wa, w4, w4.setCell ⟨p, 12, none⟩ (.slice (some ⟨gn, 0, none⟩) (np + 1) capn)] j = W at *
        clear hd
        revert hK
        simp only [putAll, Act.put]
        go_simp
      · refine oneC_still 3 (by kernel_rfl) (by kernel_rfl) ?_
        intro y j K Q hd hj hK
        have a1 := (hpc.out j (Nat.le_trans hj (by decide))).1
        generalize wsC w2.drew [wa, w4, w4.setCell ⟨p, 12, none⟩ (.slice (some ⟨gn, 0, none⟩) (np + 1) capn)] j = W at *
        simp [depsC, Region.binds] at hd
        revert hK
        simp only [putAll, Act.put]
        go_simp
      · refine oneC_eff 0 rfl ?_
        intro y K Q hd hK
        simp [depsC, Region.binds] at hd
        revert hK
        simp only [wsC, ← hwa.out]
        simp only [putAll, Act.put]
        go_simp
      · refine oneC_eff 1 rfl (eff_append rfl (.tmp 36) (.tmp 45) 47 rfl vp (.slice (some ⟨w2.heap.size, 0, none⟩) 1 1) ?_ ?_ hrun.out)
        · intro y hd
          simp [depsC, Region.binds] at hd
          simp only [putAll, Act.put]
          go_simp
          try exact hd.1
        · intro y hd
          simp [depsC, Region.binds] at hd
          simp only [putAll, Act.put]
          go_simp
          try exact hd.2
      · refine oneC_still 3 (by kernel_rfl) (by kernel_rfl) ?_
        intro y j K Q hd hj hK
        have a1 := (hpc.out j (Nat.le_trans hj (by decide))).1
        generalize wsC w2.drew [wa, w4, w4.setCell ⟨p, 12, none⟩ (.slice (some ⟨gn, 0, none⟩) (np + 1) capn)] j = W at *
        simp [depsC, Region.binds] at hd
        revert hK
        simp only [putAll, Act.put]
        go_simp
      · refine oneC_still 3 (by kernel_rfl) (by kernel_rfl) ?_
        intro y j K Q hd hj hK
        have a1 := (hpc.out j (Nat.le_trans hj (by decide))).1
        generalize wsC w2.drew [wa, w4, w4.setCell ⟨p, 12, none⟩ (.slice (some ⟨gn, 0, none⟩) (np + 1) capn)] j = W at *
        simp [depsC, Region.binds] at hd
        revert hK
        simp only [putAll, Act.put]
        go_simp
      · refine oneC_eff 2 rfl ?_
        intro y K Q hd hK
        simp [depsC, Region.binds] at hd
        revert hK
        simp only [wsC]
        simp only [putAll, Act.put]
        go_simp
    · simp only [putAll, Act.put, wsC, List.length_cons, List.length_nil]
      simp only [List.setIfInBounds_toArray, List.set_cons_succ, List.set_cons_zero, List.getD_cons_zero, List.getD_cons_succ]
      clear hrun hpc hwa hw1 hw2 z1 z2 e1 e2 c10 d10 hz4 hc4 hp0 w1w w2w hlen1
      go_wp2
      go_end0
      exact ⟨rfl, ⟨vl, vk, vs, _, mb, _, hfin.out⟩, hkF.out⟩
end Go.Proofs.Ytkmhldjebopljaa

/-
  A school that is good; whether a car is driven on a day, whether a lesson fits.
-/
namespace Go.Proofs.Ytkmhldjebopljaa
open Go.RowKit RG
open Go.Maps (int_keyed keyOf_int_mk)

/-- A school without an error. -/
structure SchGd (S : BSch) : Prop where
  ok : SchOk S
  nl : 1 ≤ S.learners.length ∧ S.learners.length ≤ 8
  nc : 1 ≤ S.cars.length ∧ S.cars.length ≤ 5
  open_ : 0 ≤ S.lo ∧ S.lo < S.hi ∧ S.hi ≤ 24
  cars : ∀ c ∈ S.cars, (0 ≤ c.km ∧ c.km ≤ 1000000) ∧ (1 ≤ c.every ∧ c.every ≤ 1000000) ∧ 0 ≤ c.never ∧ c.never ≤ 255
theorem zeroInt (w : World) : (zeroValue 3).run Try.prog w = .ok (.int .i64 0) w := by kernel_rfl
theorem MapW.look {w : World} {mb : Nat} {wt : List (Int × Int)} (h : MapW w mb wt) {day : Int} (hd : 0 ≤ day ∧ day ≤ 1000) :
    (Instr.lookup 97 (.map (some mb)) (.int .i64 day) false).run Try.prog w = .ok (.int .i64 (wbits wt day)) w := by
  obtain ⟨n, D, -, ho, hr⟩ := h
  have hwf : (Lit.int .i64 day).wf = true := by simp [Lit.wf, IntKind.min, IntKind.max, IntKind.signed, IntKind.bits]; omega
  obtain ⟨c, h1, h2, -⟩ := ho.lookup_int (t := 97) (int_keyed Try.underlying3) Try.underlying97 Try.underlying3 (zeroInt w) (keyOf_int_mk Try.underlying3 hwf)
  rw [hr day hd] at h2
  cases h2
  exact h1
theorem car_cells {w : World} {L C T : Option Addr} {cl cc ct : Nat} {S : BSch} (h : SchRows w L C T cl cc ct S) {j : Nat} (hj : j < S.cars.length) : ∃ b off, C = some ⟨b, off, none⟩ ∧ b < w.heap.size ∧
    w.cell? ⟨b, off + j * 4 + 1, none⟩ = some (.int .i64 (S.cars[j]?.getD default).km) ∧ w.cell? ⟨b, off + j * 4 + 2, none⟩ = some (.int .i64 (S.cars[j]?.getD default).every) ∧ w.cell? ⟨b, off + j * 4 + 3, none⟩ = some (.int .i64 (S.cars[j]?.getD default).never) := by
  obtain ⟨b, off, e, hb, hc⟩ := h.cn.2.2 (by omega)
  have k : ∀ i u, (carCells (S.cars[j]?.getD default))[i]? = some u → w.cell? ⟨b, off + j * 4 + i, none⟩ = some u := fun i u hu => hc j i u (by rw [map_at carCells S.cars j hj]; exact hu)
  exact ⟨b, off, e, hb, k 1 _ rfl, k 2 _ rfl, k 3 _ rfl⟩
theorem never_at {S : BSch} {j : Nat} (hS : SchGd S) (hj : j < S.cars.length) : (S.cars[j]?.getD default).never = (never S j : Int) ∧ never S j ≤ 255 := by
  unfold never
  rw [Int.toNat_natCast, List.getElem?_eq_getElem hj]
  have := (hS.cars S.cars[j] (List.getElem_mem hj)).2.2
  simp only [Option.map_some, Option.getD_some]
  omega
section
variable {w : World} {p : Nat} {L C T : Option Addr} {cl cc ct : Nat} {S : BSch} {vl vk vs va : Value} {mb : Nat} {vp : Value} {tm ev : Int} {wt : List (Int × Int)}
set_option maxRecDepth 100000 in
set_option maxHeartbeats 1000000 in
theorem canBeDriven_any (h : Blk w p 99 (bkCells L C T cl cc ct S vl vk vs va mb vp tm ev)) (hR : SchRows w L C T cl cc ct S) (hM : MapW w mb wt) (hS : SchGd S) (hw : ∀ s ∈ wt, 0 ≤ s.2 ∧ s.2 ≤ 7) (l : Les) (hc : 0 ≤ l.car ∧ l.car < S.cars.length) (hs : 0 ≤ l.start ∧ l.start ≤ 24000) :
    Calls Try.prog 75 #[.pointer (some ⟨p, 0, none⟩), .agg (lesCells l).toArray] w fun e w' => e = .returned (.bool (dryB S wt l.car (l.start / 24))) ∧ Below w.heap.size w w' := by
  obtain ⟨learner, car, start, hours, state⟩ := l
  simp only at hc hs
  obtain ⟨j, rfl⟩ : ∃ j : Nat, car = (j : Int) := ⟨car.toNat, by omega⟩
  have hj : j < S.cars.length := by omega
  obtain ⟨bc, oc, rfl, hbc, -, -, n3⟩ := car_cells hR hj
  obtain ⟨hn1, hn2⟩ := never_at hS hj
  rw [hn1] at n3
  have hbits : dryB S wt j (start / 24) = (((wbits wt (start / 24) &&& never S j : Nat) : Int) == 0) := by
    rw [dry_bits S wt hw]
    rw [Bool.eq_iff_iff]
    simp
  have hwl := wbits_lt (start / 24) wt hw
  have hand := Bits.and_nat (wbits wt (start / 24)) (never S j) (by omega) (by omega)
  rw [hbits]
  have hdr : MapW (w.alloc (.cells #[.int .i64 learner, .int .i64 j, .int .i64 start, .int .i64 hours, .int .i64 state] 63)).drew mb wt := hM.blk (by exact (Below.refl w.heap.size w |>.alloc (Nat.le_refl _) (.cells #[.int .i64 learner, .int .i64 j, .int .i64 start, .int .i64 hours, .int .i64 state] 63)).block mb hM.lt)
  have hlook := hdr.look (day := start / 24) (by omega)
  generalize wbits wt (start / 24) = nb at *
  generalize never S j = nv at *
  have hday := hide (dayOf_any start (w.alloc (.cells #[.int .i64 learner, .int .i64 j, .int .i64 start, .int .i64 hours, .int .i64 state] 63)).drew (by omega))
  have kb := hide (blkNew (w := w) (t := 63) (cs := #[.int .i64 learner, .int .i64 j, .int .i64 start, .int .i64 hours, .int .i64 state]) rfl)
  have hB := hide ((Below.refl w.heap.size w).alloc (Nat.le_refl _) (.cells #[.int .i64 learner, .int .i64 j, .int .i64 start, .int .i64 hours, .int .i64 state] 63))
  have hpl := h.lt
  have q1 : w.cell? ⟨p, 1, none⟩ = some (.slice (some ⟨bc, oc, none⟩) S.cars.length cc) := h.cell 1
  have q11 : w.cell? ⟨p, 11, none⟩ = some (.map (some mb)) := h.cell 11
  have hjz : (j : Int) < (S.cars.length : Int) := by omega
  generalize S.cars.length = nc at *
  unfold lesCells
  obtain ⟨W, hW⟩ : ∃ x, w.alloc (.cells #[.int .i64 learner, .int .i64 j, .int .i64 start, .int .i64 hours, .int .i64 state] 63) = x := ⟨_, rfl⟩
  rw [hW] at kb hB hlook hday
  have k1 : W.cell? ⟨w.heap.size, 1, none⟩ = some (.int .i64 j) := kb.out.cell 1
  have k2 : W.cell? ⟨w.heap.size, 2, none⟩ = some (.int .i64 start) := kb.out.cell 2
  replace q1 := (cellB hB.out hpl).trans q1
  replace q11 := (cellB hB.out hpl).trans q11
  replace n3 := (cellB hB.out hbc).trans n3
  replace hW := hide hW
  clear h hR hM hS hw hdr hbits kb hwl hn1 hn2 hs hc
  go_enter Try.func75, Try.ntmps75
  go_upto_region 1 with fail
  rw [hW.out]
  refine region_tailB 20 (by kernel_rfl) (by kernel_rfl) ?_
  simp only [List.take_succ_cons, List.take_zero, List.drop_succ_cons, List.drop_zero]
  iterate 6 (refine still_bx (fun K hK => ?_); go_simp; refine hK.out _ ?_; clear hK K)
  refine still_bx (fun K hK => ?_)
  go_simp
  refine ⟨_, hday.out.mono fun _ _ h => ⟨h.1, h.2.symm⟩, hK.out _ ?_⟩
  clear hK K
  iterate 13 (refine still_bx (fun K hK => ?_); go_simp; refine hK.out _ ?_; clear hK K)
  refine still_bx_nil ?_
  clear k1 k2 q1 q11 n3 hlook hand
  go_wp2
  go_ret
  exact ⟨rfl, hB.out.drew⟩
end
end Go.Proofs.Ytkmhldjebopljaa
