import Derived.Test.YtkhijdbigpaagaaNfa
import Derived.Laws.AppendOwnNone
import Derived.BigQuiet
/-
  SkillMore: narrower ranges, the arguments, numbers among others.
-/
namespace Go.Proofs.Ytkhijdbigpaagaa
open Go.RowKit RG

def subS (a b : Sp) : Prop := b.1 ≤ a.1 ∧ a.2 ≤ b.2
def SubL (A B : List Sp) : Prop := A.length = B.length ∧ ∀ i : Nat, subS (A[i]?.getD (0, 0)) (B[i]?.getD (0, 0))
theorem SubL.of {A B : List Sp} (hl : A.length = B.length) (h : ∀ i : Nat, i < A.length → subS (A[i]?.getD (0, 0)) (B[i]?.getD (0, 0))) : SubL A B := ⟨hl, fun i => by
  rcases Nat.lt_or_ge i A.length with hi | hi
  · exact h i hi
  · rw [List.getElem?_eq_none hi, List.getElem?_eq_none (by omega)]; exact ⟨Int.le_refl _, Int.le_refl _⟩⟩
theorem SubL.trans {A B C : List Sp} (h : SubL A B) (h' : SubL B C) : SubL A C := ⟨h.1.trans h'.1, fun i => ⟨Int.le_trans (h'.2 i).1 (h.2 i).1, Int.le_trans (h.2 i).2 (h'.2 i).2⟩⟩
theorem SubL.refl (A : List Sp) : SubL A A := ⟨rfl, fun _ => ⟨Int.le_refl _, Int.le_refl _⟩⟩
theorem SubL.set {A B : List Sp} (h : SubL A B) (i : Nat) {a b : Sp} (hs : subS a b) : SubL (A.set i a) (B.set i b) := by
  refine SubL.of (by simp [h.1]) fun j hj => ?_
  rw [List.length_set] at hj
  by_cases e : i = j
  · subst e; rw [List.getElem?_set_self hj, List.getElem?_set_self (by rw [← h.1]; exact hj)]; exact hs
  · rw [List.getElem?_set_ne e, List.getElem?_set_ne e]; exact h.2 j
theorem lower_sub {f a b : Sp} (h : subS a b) : subS (lowerS f a) (lowerS f b) := ⟨lim_mono (by have := h.1; omega), lim_mono (by have := h.2; omega)⟩
theorem raise_sub {g a b : Sp} (h : subS a b) : subS (raiseS g a) (raiseS g b) := ⟨lim_mono (by have := h.1; omega), lim_mono (by have := h.2; omega)⟩
theorem narrow_sub {c a b : Sp} (h : subS a b) : subS (narrowS c a) (narrowS c b) := by
  obtain ⟨h1, h2⟩ := h
  unfold narrowS
  constructor <;> simp only <;> omega
theorem wait1_sub {S : Sch} {A B : List Sp} (h : SubL A B) : SubL (wait1 S A) (wait1 S B) := by
  refine SubL.of (by rw [wait1_len, wait1_len]; exact h.1) fun i hi => ?_
  rw [wait1_len] at hi
  rw [wait1_at S A hi, wait1_at S B (by rw [← h.1]; exact hi)]
  exact lower_sub (h.2 i)
theorem waitN_sub {S : Sch} {A B : List Sp} (h : SubL A B) : ∀ m, SubL (waitN S m A) (waitN S m B)
  | 0 => h
  | m + 1 => wait1_sub (waitN_sub h m)
theorem step_sub {S : Sch} {e : Ev} {A B A' : List Sp} (h : SubL A B) (hs : stepS S e A = some A') : ∃ B', stepS S e B = some B' ∧ SubL A' B' := by
  unfold stepS at hs ⊢
  have hc := h.2 e.c.toNat
  split at hs
  · rename_i hb
    rw [if_pos hb]
    have hn := narrow_sub (c := behindS (biasOf (S.ins[e.d.toNat]?.getD default)) e.e) hc
    split at hs
    · cases hs
    · rename_i hlt
      injection hs with hs
      rw [if_neg (by have h1 := hn.1; have h2 := hn.2; omega)]
      exact ⟨_, rfl, by rw [← hs]; exact h.set _ hn⟩
  · rename_i hb
    rw [if_neg hb]
    injection hs with hs
    exact ⟨_, rfl, by rw [← hs]; exact h.set _ (raise_sub hc)⟩
theorem live_sub {S : Sch} {wk : Int} : ∀ {es : List Ev} {now : Int} {A B A' : List Sp}, SubL A B → liveS S wk es now A = some A' → ∃ B', liveS S wk es now B = some B' ∧ SubL A' B'
  | [], now, A, B, A', h, hs => by
    have hs : some (waitN S (wk - now).toNat A) = some A' := hs
    injection hs with hs
    exact ⟨_, rfl, by rw [← hs]; exact waitN_sub h _⟩
  | e :: es, now, A, B, A', h, hs => by
    have hs : (stepS S e (waitN S (e.a - now).toNat A)).bind (liveS S wk es e.a) = some A' := hs
    cases hq : stepS S e (waitN S (e.a - now).toNat A) with
    | none => rw [hq] at hs; cases hs
    | some q =>
      rw [hq] at hs
      obtain ⟨q', h1, h2⟩ := step_sub (waitN_sub h _) hq
      obtain ⟨B', h3, h4⟩ := live_sub (es := es) h2 hs
      refine ⟨B', ?_, h4⟩
      show (stepS S e (waitN S (e.a - now).toNat B)).bind (liveS S wk es e.a) = some B'
      rw [h1]; exact h3
/-- With a further mark behind all events. -/
theorem live_mark {S : Sch} {wk : Int} {es : List Ev} {e : Ev} {A A' : List Sp} (he : e.a = wk) (hb : e.b = 1) (hs : liveS S wk (es ++ [e]) 0 A = some A') : ∃ T, liveS S wk es 0 A = some T ∧ SubL A' T := by
  have h := liveS_cut S wk e [] es 0 A
  rw [he] at h
  rw [h] at hs
  cases hq : liveS S wk es 0 A with
  | none => rw [hq] at hs; cases hs
  | some T =>
    rw [hq] at hs
    have hs : (stepS S e (waitN S (e.a - wk).toNat T)).bind (liveS S wk [] e.a) = some A' := hs
    rw [he, show (wk - wk).toNat = 0 by omega] at hs
    have hs : (stepS S e T).bind (liveS S wk [] wk) = some A' := hs
    cases hq2 : stepS S e T with
    | none => rw [hq2] at hs; cases hs
    | some q =>
      rw [hq2] at hs
      have hs : some (waitN S (wk - wk).toNat q) = some A' := hs
      rw [show (wk - wk).toNat = 0 by omega] at hs
      injection hs with hs
      have hs : q = A' := hs
      refine ⟨T, rfl, ?_⟩
      unfold stepS at hq2
      rw [if_pos hb] at hq2
      split at hq2
      · cases hq2
      · injection hq2 with hq2
        rw [← hs, ← hq2]
        have : subS (narrowS (behindS (biasOf (S.ins[e.d.toNat]?.getD default)) e.e) (T[e.c.toNat]?.getD (0, 0))) (T[e.c.toNat]?.getD (0, 0)) := by
          unfold narrowS; constructor <;> simp only <;> omega
        refine SubL.of (by simp) fun j hj => ?_
        rw [List.length_set] at hj
        by_cases e1 : e.c.toNat = j
        · rw [← e1, List.getElem?_set_self (by rw [e1]; exact hj)]; exact this
        · rw [List.getElem?_set_ne e1]; exact ⟨Int.le_refl _, Int.le_refl _⟩
theorem evs_mark {n n2 : Nat} {es : List Ev} {e : Ev} {wk : Int} (h : evsE n n2 es = 0) (hl : es.length < 60) (hw : 0 ≤ wk ∧ wk ≤ 200) (hlw : lastW es ≤ wk) (he : e.a = wk) (hb : e.b = 1) (hc : 0 ≤ e.c ∧ e.c < n) (hd : 0 ≤ e.d ∧ e.d < n2) (hm : 0 ≤ e.e ∧ e.e ≤ 1000) : evsE n n2 (es ++ [e]) = 0 := by
  obtain ⟨h1, h2⟩ := evsE_each h
  refine evsE_zero (by simp; omega) fun i hi => ?_
  rw [List.length_append] at hi
  rcases Nat.lt_or_ge i es.length with h3 | h3
  · have := h2 i h3
    unfold evsErr at this ⊢
    rw [List.take_append_of_le_length (by omega), List.getElem?_append_left h3]
    exact this
  · obtain rfl : i = es.length := by simp at hi; omega
    unfold evsErr evErr
    rw [List.take_append_of_le_length (Nat.le_refl _), List.take_length, List.getElem?_append_right (Nat.le_refl _), Nat.sub_self]
    simp only [List.getElem?_cons_zero, Option.getD_some]
    rw [he, if_pos (inB_iff.2 hw), if_neg (by omega), if_pos hb, if_pos (inB_iff.2 (by omega)), if_pos (inB_iff.2 (by omega)), if_pos (inB_iff.2 hm)]
/-- P2.12: what the law SkillMore asks. -/
theorem more_math {S : Sch} {rs rs' T : List Sp} {es es' : List Ev} {wk : Int} (h : afterF S rs es wk = (some T, 0)) (hr : SubL rs' rs) (ho : AllOk rs') (he : es' = es ∨ (es.length < 60 ∧ ∃ e : Ev, es' = es ++ [e] ∧ e.a = wk ∧ e.b = 1 ∧ (0 ≤ e.c ∧ e.c < S.sks.length) ∧ (0 ≤ e.d ∧ e.d < S.ins.length) ∧ (0 ≤ e.e ∧ e.e ≤ 1000))) :
    afterF S rs' es' wk = (none, 9) ∨ ∃ T', afterF S rs' es' wk = (some T', 0) ∧ SubL T' T := by
  obtain ⟨hh, hw, hlw, hq⟩ := after_ok (S := S) (rs := rs) (es := es) (wk := wk) (by rw [h]; exact .inl rfl)
  rw [h] at hq
  have hT : liveS S wk es 0 rs = some T := (congrArg Prod.fst hq).symm
  obtain ⟨hck, hrk, hek⟩ := hist_ok hh
  have hlen : rs'.length = S.sks.length := by rw [hr.1]; exact (ranges_ok hrk).1
  have hp : histE S rs' es' = 0 := by
    unfold histE
    rw [if_pos hck, if_pos (ranges_of_ok hlen ho)]
    rcases he with rfl | ⟨h60, e, rfl, h1, h2, h3, h4, h5⟩
    · exact hek
    · exact evs_mark hek h60 hw hlw h1 h2 h3 h4 h5
  have hl2 : lastW es' ≤ wk := by
    rcases he with rfl | ⟨h60, e, rfl, h1, -⟩
    · exact hlw
    · unfold lastW
      rw [if_neg (by simp), List.length_append, List.length_singleton, Nat.add_sub_cancel, List.getElem?_append_right (Nat.le_refl _), Nat.sub_self]
      simp [h1]
  rw [after_at hp hw hl2]
  cases hq2 : liveS S wk es' 0 rs' with
  | none => exact .inl rfl
  | some T' =>
    refine .inr ⟨T', rfl, ?_⟩
    rcases he with rfl | ⟨h60, e, rfl, h1, h2, -⟩
    · obtain ⟨B, h3, h4⟩ := live_sub hr hq2
      rw [hT] at h3
      injection h3 with h3
      rw [h3]; exact h4
    · obtain ⟨T1, h3, h4⟩ := live_mark h1 h2 hq2
      obtain ⟨B, h5, h6⟩ := live_sub hr h3
      rw [hT] at h5
      injection h5 with h5
      rw [h5]; exact h4.trans h6

set_option maxRecDepth 100000 in
theorem among_any (lo hi n : Int) (w : World) (hr : 0 ≤ lo ∧ lo ≤ hi ∧ hi ≤ 1000) (hn : 0 ≤ n ∧ n ≤ 65535) :
    Calls Try.prog 47 #[.agg #[.int .i64 lo, .int .i64 hi], .int .i64 n] w fun e w' => (∃ z, e = .returned (.int .i64 z) ∧ lo ≤ z ∧ z ≤ hi) ∧ Below w.heap.size w w' := by
  have hd : (0 : Int) < hi - lo + 1 := by omega
  obtain ⟨z, hz⟩ : ∃ z, n.tmod (hi - lo + 1) = z := ⟨_, rfl⟩
  have hz0 : 0 ≤ z ∧ z < hi - lo + 1 := by rw [← hz]; exact ⟨Int.tmod_nonneg _ hn.1, Int.tmod_lt_of_pos _ hd⟩
  have b0 : (hi - lo + 1 == 0) = false := by rw [beq_eq_false_iff_ne]; omega
  have hw1 : IntKind.i64.wrap (hi - lo) = hi - lo := by rw [IntKind.wrap_i64]; omega
  have hw2 : IntKind.i64.wrap (hi - lo + 1) = hi - lo + 1 := by rw [IntKind.wrap_i64]; omega
  have hw3 : IntKind.i64.wrap (lo + z) = lo + z := by rw [IntKind.wrap_i64]; omega
  have hw4 : IntKind.i64.wrap z = z := by rw [IntKind.wrap_i64]; omega
  have kb := hide (show Blk (w.alloc (.cells #[.int .i64 lo, .int .i64 hi] 32)) w.heap.size 32 #[.int .i64 lo, .int .i64 hi] from blkNew rfl)
  have hB := hide (show Below w.heap.size w (w.alloc (.cells #[.int .i64 lo, .int .i64 hi] 32)) from (Below.refl _ _).alloc (Nat.le_refl _) _)
  have c0 : (w.alloc (.cells #[.int .i64 lo, .int .i64 hi] 32)).cell? ⟨w.heap.size, 0, none⟩ = some (.int .i64 lo) := kb.out.cell 0
  have c1 : (w.alloc (.cells #[.int .i64 lo, .int .i64 hi] 32)).cell? ⟨w.heap.size, 1, none⟩ = some (.int .i64 hi) := kb.out.cell 1
  replace hn := hide hn
  replace hr := hide hr
  go_enter Try.func47, Try.ntmps47
  go_wp2
  go_quiet (fail)
  have hB2 := hide (below_drewN hB.out nq)
  clear c0 c1 hw1 hw2 hw3 hw4 hz b0
  go_wp2
  go_ret
  have h1 := hr.out
  exact ⟨⟨lo + z, rfl, by omega, by omega⟩, hB2.out⟩

section
open Go.ChangeShapes Go.WideShapes Go.ChangeAt
variable {H : Type} {enc : TypeId × Value → H} {w : World} {base : Nat} {held : Bool} {fuel : Nat} {cs : List Value} {x : DataW H × List MemPlace}
theorem open_row2 {α : Type} [Inhabited α] {cells : α → List Value} {K : Nat} {t te : TypeId} {P : α → Prop} (hu : Try.prog.underlying t = some (.slice te)) (hK : Try.prog.cellsOf te = K) (hK0 : 0 < K) (hlen : ∀ a, (cells a).length = K)
    (elem : ∀ (n : Nat) (cs : List Value) (x : DataW H × List MemPlace), DataW.trod enc Try.prog w base (fun _ => true) held n te cs = some x → cs.length = K → ∃ a, cs = cells a ∧ P a)
    (h : DataW.trod enc Try.prog w base (fun _ => true) held fuel t cs = some x) :
    ∃ A c l, cs = [.slice A (l : List α).length c] ∧ RdRow w A l.length K (l.map cells) ∧ l.length ≤ maxLen ∧ l.length ≤ c ∧ (A = none → c = 0) ∧ ∀ a ∈ l, P a := by
  rcases Go.Deep.open_slice hu h with ⟨rfl, _⟩ | ⟨a, len, cap, m, n, D, Pl, rfl, hb, hl, hm, hmm, _, hx⟩
  · exact ⟨none, 0, [], rfl, RdRow.nil _ _ _, by unfold maxLen; simp, Nat.le_refl _, fun _ => rfl, fun a ha => nomatch ha⟩
  · rw [hK] at hx
    simp only [if_true] at hmm
    have key : ∀ i, i < len → ∃ q : α, P q ∧ ∀ j, j < K → w.cell? ((a.add (i * K)).add j) = (cells q)[j]? := by
      intro i hi
      obtain ⟨cs', h1, h2⟩ := hx i (by omega)
      obtain ⟨_, h3, h4⟩ := World.cells?_some h1
      obtain ⟨q, rfl, hq⟩ := elem _ _ _ h2 h3
      exact ⟨q, hq, h4⟩
    obtain ⟨l, hll, hlp⟩ := list_of key
    refine ⟨some a, cap, l, by rw [hll], ?_, by omega, by rw [hll]; exact hl, (fun h => nomatch h), fun q hq => ?_⟩
    · rw [hll]
      have hg1 : ∀ j, j < len → (l.map cells)[j]?.getD [] = cells (l[j]?.getD default) := fun j hj => by
        rw [List.getElem?_map, List.getElem?_eq_getElem (by omega)]; rfl
      refine ⟨by simp [hll], fun y hy => ?_, fun hn => ?_⟩
      · obtain ⟨q, _, rfl⟩ := List.mem_map.1 hy
        exact hlen q
      · have h0 := (hlp 0 hn).2 0 hK0
        rw [List.getElem?_eq_getElem (by rw [hlen]; exact hK0)] at h0
        obtain ⟨b, off, e⟩ := plain_addr h0
        rw [Nat.zero_mul, add_plain_zero, add_plain_zero] at e
        subst e
        refine ⟨b, off, rfl, by have := lt_of_cell h0; simpa [Addr.add] using this, fun j i v hv => ?_⟩
        have hj : j < len := by
          rcases Nat.lt_or_ge j len with h' | h'
          · exact h'
          · rw [List.getElem?_eq_none (l := l.map cells) (by simp [hll]; exact h')] at hv; simp at hv
        rw [hg1 j hj] at hv
        have hi : i < K := by
          rcases Nat.lt_or_ge i K with h' | h'
          · exact h'
          · rw [List.getElem?_eq_none (by rw [hlen]; exact h')] at hv; cases hv
        have := (hlp j hj).2 i hi
        rw [add_plain, add_plain, hv] at this
        exact this
    · obtain ⟨j, hj, rfl⟩ := List.mem_iff_getElem.1 hq
      have := (hlp j (by omega)).1
      rwa [List.getElem?_eq_getElem hj] at this
set_option maxRecDepth 100000 in
/-- A history, of which nil is no row. -/
theorem open_history2 {r : Reach} {b0 : Nat} {v : Value} {d : DataW H} {p : List MemPlace} (hv : Value.okWide Try.prog w r b0 40 v) (h : DataW.Trod enc Try.prog w base (fun _ => true) held 40 v d p) :
    ∃ A c rs E ce es wk ix, v = .agg #[.slice A (rs : List (Int × Int)).length c, .slice E (es : List Ev).length ce, .int .i64 wk, .int .i64 ix] ∧ RdRow w A rs.length 2 (rs.map tkCells) ∧ rs.length ≤ maxLen ∧ RdRow w E es.length 5 (es.map evCells) ∧ es.length ≤ maxLen ∧ es.length ≤ ce ∧ (E = none → ce = 0) := by
  obtain ⟨v0, v1, v2, v3, y0, y1, y2, y3, n, rfl, _, _, h0, h1, h2, h3⟩ := Joins.open_agg4 Try.underlying40 (by kernel_rfl) (by kernel_rfl) hv h
  obtain ⟨A, c, rs, e0, hr, hm, _⟩ := open_spans h0
  obtain ⟨E, ce, es, e1, hr2, hm2, hc2, hc3, _⟩ := open_row2 (cells := evCells) (K := 5) (P := fun _ => True) Try.underlying38 (by kernel_rfl) (by decide) (fun _ => rfl) open_ev h1
  obtain ⟨z, e2, _, hz⟩ := DataW.trod_int Try.underlying3 h2
  obtain ⟨z2, e3, _, _⟩ := DataW.trod_int Try.underlying3 h3
  simp only [List.cons.injEq, and_true] at e0 e1 e2 e3
  subst e0 e1 e2 e3
  exact ⟨A, c, rs, E, ce, es, z, z2, rfl, hr, hm, hr2, hm2, hc2, hc3⟩
set_option maxRecDepth 100000 in
/-- Numbers by which ranges are narrower, and a mark. -/
theorem open_more {r : Reach} {b0 : Nat} {v : Value} {d : DataW H} {p : List MemPlace} (hv : Value.okWide Try.prog w r b0 95 v) (h : DataW.Trod enc Try.prog w base (fun _ => true) held 95 v d p) :
    ∃ N nn nc sk i mk, v = .agg #[.slice N nn nc, .int .u8 sk, .int .u8 i, .int .u16 mk] ∧ RdU16 w N nn ∧ nn ≤ maxLen ∧ (0 ≤ sk ∧ sk ≤ 255) ∧ (0 ≤ i ∧ i ≤ 255) ∧ (0 ≤ mk ∧ mk ≤ 65535) := by
  obtain ⟨v0, v1, v2, v3, y0, y1, y2, y3, n, rfl, _, _, h0, h1, h2, h3⟩ := Joins.open_agg4 Try.underlying95 (by kernel_rfl) (by kernel_rfl) hv h
  obtain ⟨N, nn, nc, e0, hu, hum, _⟩ := open_u16s h0
  obtain ⟨z1, e1, _, hz1⟩ := DataW.trod_int Try.underlying5 h1
  obtain ⟨z2, e2, _, hz2⟩ := DataW.trod_int Try.underlying5 h2
  obtain ⟨z3, e3, _, hz3⟩ := DataW.trod_int Try.underlying84 h3
  simp only [List.cons.injEq, and_true] at e0 e1 e2 e3
  subst e0 e1 e2 e3
  exact ⟨N, nn, nc, z1, z2, z3, rfl, hu, hum, wf8 hz1, wf8 hz2, wf16 hz3⟩
end

theorem flatEv_len (l : List Ev) : (l.flatMap evCells).length = l.length * 5 := by
  induction l with
  | nil => rfl
  | cons x l ih => rw [List.flatMap_cons, List.length_append, ih]; simp [evCells]; omega
theorem flatEv_back (l : List Ev) (j : Nat) (u : Value) (h : (l.flatMap evCells)[j]? = some u) : ((l.map evCells)[j / 5]?.getD [])[j % 5]? = some u := by
  induction l generalizing j with
  | nil => simp at h
  | cons x l ih =>
    rw [List.flatMap_cons] at h
    by_cases hj : j < 5
    · rw [List.getElem?_append_left (by simpa [evCells] using hj)] at h
      rw [show j / 5 = 0 by omega, show j % 5 = j by omega]
      simpa using h
    · rw [List.getElem?_append_right (by simpa [evCells] using hj)] at h
      have := ih (j - 5) (by simpa [evCells] using h)
      rw [show j / 5 = (j - 5) / 5 + 1 by omega, show j % 5 = (j - 5) % 5 by omega]
      simpa using this
theorem evOne (l : List Ev) : ∀ u ∈ l.flatMap evCells, u.oneCell' = true := by
  intro u hu
  obtain ⟨s, _, hs⟩ := List.mem_flatMap.1 hu
  simp only [evCells, List.mem_cons, List.not_mem_nil, or_false] at hs
  rcases hs with rfl | rfl | rfl | rfl | rfl <;> rfl
set_option maxRecDepth 100000 in
theorem wpList_append_evs {w : World} {ops : Array Oper} {rest : List Oper} {o : Oper} {a : Act} {Q : Exit → Act → World → Prop} (hgd : o.guard = none) (s x : Operand)
    (ho : o.op = .call { callee := .builtin .append, args := #[s, x], argTypes := #[38, 38] })
    (base : Nat) (i : TypeInfo) (hi : Try.prog.info? 78 = some i) (hz : i.zero = some (.agg #[.int .i64 0, .int .i64 0, .int .i64 0, .int .i64 0, .int .i64 0])) (hsize : i.size = 5) (hby : i.bytes = 40)
    (v : Value) (n : Nat) (xs : List Value) (hs : a.eval s = v) (hown : w.ownsRow base 78 5 v n xs)
    (R : Option Addr) (m c : Nat) (rs : List Ev) (hx : a.eval x = .slice R m c) (hr : RdRow w R m 5 (rs.map evCells)) (hc : R = none → c = 0)
    (h63 : n + m ≤ maxLen) (hbytes : (n + m) * 40 ≤ 140737488355328) (hbase : base ≤ w.heap.size)
    (h : ∀ v' w', w'.ownsRow base 78 5 v' (n + m) (xs ++ rs.flatMap evCells) → w.grownBy w' v.ownBlock → wpList Try.prog ops Q rest (a.put o.dst v') w') : wpList Try.prog ops Q (o :: rest) a w := by
  have hl : rs.length = m := by have := hr.1; simpa using this
  cases R with
  | none =>
    have hm : m = 0 := by
      rcases Nat.eq_zero_or_pos m with h0 | h0
      · exact h0
      · obtain ⟨b, off, e, _⟩ := hr.2.2 h0
        cases e
    subst hm
    obtain rfl : rs = [] := List.eq_nil_of_length_eq_zero hl
    rw [hc rfl] at hx
    exact wpList_append_own_none hgd s x _ ho base _ i 5 Try.underlying38 hi v n xs hs hown hx (h v w (by simpa using hown) (World.grownBy.refl w _))
  | some ad =>
    refine wpList_append_own w hgd s x _ ho base _ i _ 5 40 Try.underlying38 hi hz hsize hby rfl (by decide) v n xs hs hown ad m c (rs.flatMap evCells) hx (by rw [flatEv_len, hl]) ?_ (evOne rs) h63 hbytes hbase (fun v' w' h1 h2 _ => h v' w' h1 h2)
    intro j u hj
    have hm : 0 < m := by
      rcases Nat.eq_zero_or_pos m with h0 | h0
      · obtain rfl : rs = [] := List.eq_nil_of_length_eq_zero (by rw [hl]; exact h0)
        simp at hj
      · exact h0
    obtain ⟨b, off, e, _, hcell⟩ := hr.2.2 hm
    injection e with e
    subst e
    have := hcell (j / 5) (j % 5) u (flatEv_back rs j u hj)
    rw [Addr.add_lit]
    rwa [show off + j / 5 * 5 + j % 5 = off + j by omega] at this
end Go.Proofs.Ytkhijdbigpaagaa
