import Derived.Test.YtkhijdbigpaagaaNaf
import Derived.Test.YtkhijdbigpaagaaNl
import Derived.Test.YtkhijdbigpaagaaNda
import Derived.Test.YtkhijdbigpaagaaNah
/-
  How long the ranges are that After answers.
-/
namespace Go.Proofs.Ytkhijdbigpaagaa
open Go.RowKit RG

theorem liveS_len {S : Sch} {week : Int} : ∀ {es : List Ev} {now : Int} {rs T : List Sp}, liveS S week es now rs = some T → T.length = rs.length
  | [], now, rs, T, h => by
    have h : some (waitN S (week - now).toNat rs) = some T := h
    injection h with h
    rw [← h, waitN_len]
  | e :: r, now, rs, T, h => by
    have h : (stepS S e (waitN S (e.a - now).toNat rs)).bind (liveS S week r e.a) = some T := h
    cases hq : stepS S e (waitN S (e.a - now).toNat rs) with
    | none => rw [hq] at h; cases h
    | some q =>
      rw [hq] at h
      have h1 := liveS_len (es := r) h
      rw [h1]
      unfold stepS at hq
      split at hq
      · split at hq
        · cases hq
        · injection hq with hq; rw [← hq, List.length_set, waitN_len]
      · injection hq with hq; rw [← hq, List.length_set, waitN_len]
theorem afterF_len (S : Sch) (rs : List Sp) (es : List Ev) (week : Int) : ((afterF S rs es week).1.getD []).length ≤ rs.length := by
  unfold afterF
  split
  · split
    · split
      · simp
      · simp only
        cases hq : liveS S week es 0 rs with
        | none => simp
        | some T => simp [liveS_len hq]
    · simp
  · simp

end Go.Proofs.Ytkhijdbigpaagaa

/-
  Histories that are cut: what is so of their ranges; errors of arguments are never 9.
-/
namespace Go.Proofs.Ytkhijdbigpaagaa
open Go.RowKit RG

theorem firstErr_ne {err : Nat → Int} (h : ∀ i, err i ≠ 9) : ∀ k m, (firstErr err k m).2 ≠ 9
  | k, 0 => by simp [firstErr]
  | k, m + 1 => by
    unfold firstErr
    split
    · exact firstErr_ne h _ _
    · exact h k
theorem spanE_ne (lo hi : Int) (ss : List Sp) : spanE lo hi ss ≠ 9 := by unfold spanE; split <;> (try split) <;> simp
theorem nmErr_ne (ns : Nat → ByteArray) (i : Nat) : nmErr ns i ≠ 9 := by unfold nmErr; split <;> (try split) <;> simp
theorem checkS_ne (S : Sch) : (checkS S).2.2 ≠ 9 := by
  have h1 : ∀ i, skErr S.sks i (S.sks[i]?.getD default) ≠ 9 := fun i => by unfold skErr; split <;> first | exact spanE_ne _ _ _ | exact nmErr_ne _ _
  have h2 : ∀ i, inErr S.ins i (S.ins[i]?.getD default) ≠ 9 := fun i => by unfold inErr; split <;> first | exact spanE_ne _ _ _ | exact nmErr_ne _ _
  unfold checkS
  split
  · simp
  · split
    · exact firstErr_ne h1 _ _
    · split
      · exact firstErr_ne h2 _ _
      · simp
theorem rangesE_ne (n : Nat) (rs : List Sp) : rangesE n rs ≠ 9 := by
  unfold rangesE
  split
  · simp
  · exact firstErr_ne (fun i => spanE_ne _ _ _) _ _
theorem evsE_ne (n n2 : Nat) (es : List Ev) : evsE n n2 es ≠ 9 := by
  unfold evsE
  split
  · simp
  · refine firstErr_ne (fun i => ?_) _ _
    unfold evsErr evErr
    repeat' split
    all_goals simp
theorem histE_ne (S : Sch) (rs : List Sp) (es : List Ev) : histE S rs es ≠ 9 := by
  unfold histE
  split
  · split
    · exact evsE_ne _ _ _
    · exact rangesE_ne _ _
  · exact checkS_ne S
/-- The error of no truth. -/
def e9 (q : Option (List Sp)) : Int := match q with | none => 9 | some _ => 0
/-- Where After has no error, or says that there is no truth, its arguments have none. -/
theorem after_ok {S : Sch} {rs : List Sp} {es : List Ev} {wk : Int} (h : (afterF S rs es wk).2 = 0 ∨ (afterF S rs es wk).2 = 9) :
    histE S rs es = 0 ∧ (0 ≤ wk ∧ wk ≤ 200) ∧ lastW es ≤ wk ∧ afterF S rs es wk = (liveS S wk es 0 rs, e9 (liveS S wk es 0 rs)) := by
  have hne := histE_ne S rs es
  unfold afterF at h ⊢
  split at h
  · rename_i h0
    split at h
    · rename_i h1
      have h1' := inB_iff.1 h1
      split at h
      · simp at h
      · rename_i h2
        refine ⟨h0, h1', by omega, ?_⟩
        rw [if_pos h0, if_pos h1, if_neg h2]
        cases liveS S wk es 0 rs <;> rfl
    · simp at h
  · rename_i h0
    simp only at h
    omega
theorem after_bad {S : Sch} {rs : List Sp} {es : List Ev} {wk : Int} (h : (afterF S rs es wk).2 ≠ 0) : (afterF S rs es wk).1 = none := by
  unfold afterF at h ⊢
  split
  · rename_i h0
    rw [if_pos h0] at h
    split
    · rename_i h1
      rw [if_pos h1] at h
      split
      · rfl
      · rename_i h2
        rw [if_neg h2] at h
        simp only at h ⊢
        cases hq : liveS S wk es 0 rs with
        | none => rfl
        | some T => rw [hq] at h; simp at h
    · rfl
  · rfl
theorem after_at {S : Sch} {rs : List Sp} {es : List Ev} {wk : Int} (h0 : histE S rs es = 0) (h1 : 0 ≤ wk ∧ wk ≤ 200) (h2 : lastW es ≤ wk) : afterF S rs es wk = (liveS S wk es 0 rs, e9 (liveS S wk es 0 rs)) := by
  unfold afterF
  rw [if_pos h0, if_pos (inB_iff.2 h1), if_neg (by omega)]
  cases liveS S wk es 0 rs <;> rfl

theorem waitN_add (S : Sch) (a : Nat) (rs : List Sp) : ∀ b, waitN S (a + b) rs = waitN S b (waitN S a rs)
  | 0 => rfl
  | b + 1 => by show wait1 S (waitN S (a + b) rs) = _; rw [waitN_add S a rs b]; rfl
theorem liveS_cut (S : Sch) (wk : Int) (e : Ev) (es2 : List Ev) : ∀ (es1 : List Ev) (now : Int) (rs : List Sp), liveS S wk (es1 ++ e :: es2) now rs = (liveS S e.a es1 now rs).bind (liveS S wk (e :: es2) e.a)
  | [], now, rs => by
    show (stepS S e (waitN S (e.a - now).toNat rs)).bind (liveS S wk es2 e.a) = (stepS S e (waitN S (e.a - e.a).toNat (waitN S (e.a - now).toNat rs))).bind (liveS S wk es2 e.a)
    rw [show (e.a - e.a).toNat = 0 by omega]
    rfl
  | x :: es1, now, rs => by
    show (stepS S x (waitN S (x.a - now).toNat rs)).bind (liveS S wk (es1 ++ e :: es2) x.a) = ((stepS S x (waitN S (x.a - now).toNat rs)).bind (liveS S e.a es1 x.a)).bind (liveS S wk (e :: es2) e.a)
    cases stepS S x (waitN S (x.a - now).toNat rs) with
    | none => rfl
    | some q => exact liveS_cut S wk e es2 es1 x.a q
/-- An event some weeks earlier. -/
def shE (c : Int) (e : Ev) : Ev := ⟨e.a - c, e.b, e.c, e.d, e.e⟩
theorem liveS_shift (S : Sch) (wk c : Int) : ∀ (es : List Ev) (now : Int) (rs : List Sp), liveS S (wk - c) (es.map (shE c)) (now - c) rs = liveS S wk es now rs
  | [], now, rs => by
    show some (waitN S (wk - c - (now - c)).toNat rs) = some (waitN S (wk - now).toNat rs)
    rw [show wk - c - (now - c) = wk - now by omega]
  | e :: es, now, rs => by
    show (stepS S (shE c e) (waitN S (e.a - c - (now - c)).toNat rs)).bind (liveS S (wk - c) (es.map (shE c)) (e.a - c)) = (stepS S e (waitN S (e.a - now).toNat rs)).bind (liveS S wk es e.a)
    rw [show e.a - c - (now - c) = e.a - now by omega]
    cases hq : stepS S e (waitN S (e.a - now).toNat rs) with
    | none =>
      have : stepS S (shE c e) (waitN S (e.a - now).toNat rs) = none := hq
      rw [this]; rfl
    | some q =>
      have : stepS S (shE c e) (waitN S (e.a - now).toNat rs) = some q := hq
      rw [this]
      exact liveS_shift S wk c es e.a q
theorem live_ok {S : Sch} {wk : Int} (hck : (checkS S).2.2 = 0) : ∀ {es : List Ev} {now : Int} {rs T : List Sp}, (∀ i, i < es.length → ∃ s : Nat, (es[i]?.getD default).c = s ∧ s < S.sks.length) → rs.length = S.sks.length → AllOk rs → liveS S wk es now rs = some T → AllOk T
  | [], now, rs, T, _, hl, hr, h => by
    have h : some (waitN S (wk - now).toNat rs) = some T := h
    injection h with h
    rw [← h]
    exact waitN_ok (fun i hi => by have := sk_ok hck (i := i) (by omega); omega) hr _
  | e :: es, now, rs, T, hs, hl, hr, h => by
    have h : (stepS S e (waitN S (e.a - now).toNat rs)).bind (liveS S wk es e.a) = some T := h
    have hw := waitN_ok (S := S) (T := rs) (fun i hi => by have := sk_ok hck (i := i) (by omega); omega) hr (e.a - now).toNat
    have hwl : (waitN S (e.a - now).toNat rs).length = S.sks.length := by rw [waitN_len]; exact hl
    obtain ⟨s, hsc, hsl⟩ := hs 0 (by simp)
    have hsc : e.c = s := hsc
    cases hq : stepS S e (waitN S (e.a - now).toNat rs) with
    | none => rw [hq] at h; cases h
    | some q =>
      rw [hq] at h
      generalize waitN S (e.a - now).toNat rs = R at *
      have hq' : AllOk q ∧ q.length = S.sks.length := by
        have hr0 := hw s (by omega)
        unfold stepS at hq
        rw [hsc, Int.toNat_natCast] at hq
        split at hq
        · split at hq
          · cases hq
          · rename_i hn
            injection hq with hq
            rw [← hq]
            exact ⟨hw.set s (narrow_ok hr0 (by omega)), by rw [List.length_set]; exact hwl⟩
        · injection hq with hq
          rw [← hq]
          exact ⟨hw.set s (raise_ok (g := gainOf (S.sks[s]?.getD default)) (by have := sk_ok hck hsl; unfold gainOf; simp only; omega) hr0), by rw [List.length_set]; exact hwl⟩
      exact live_ok hck (es := es) (fun i hi => hs (i + 1) (by simpa using hi)) hq'.2 hq'.1 h
theorem ranges_of_ok {n : Nat} {T : List Sp} (hl : T.length = n) (h : AllOk T) : rangesE n T = 0 := by
  unfold rangesE
  rw [if_neg (by omega), firstErr_none]
  intro i _ hi
  have := h i (by omega)
  unfold okS at this
  unfold spanE
  have b1 := inB_iff.2 (show 0 ≤ (T[i]?.getD (0, 0)).1 ∧ (T[i]?.getD (0, 0)).1 ≤ 1000 by omega)
  have b2 := inB_iff.2 (show 0 ≤ (T[i]?.getD (0, 0)).2 ∧ (T[i]?.getD (0, 0)).2 ≤ 1000 by omega)
  simp [b1, b2]; omega
theorem evsE_zero {n n2 : Nat} {es : List Ev} (hl : es.length ≤ 60) (h : ∀ i, i < es.length → evsErr n n2 es i = 0) : evsE n n2 es = 0 := by
  unfold evsE
  rw [if_neg (by omega), firstErr_none]
  intro i _ hi
  exact h i (by omega)
theorem evsE_each {n n2 : Nat} {es : List Ev} (h : evsE n n2 es = 0) : es.length ≤ 60 ∧ ∀ i, i < es.length → evsErr n n2 es i = 0 := by
  refine ⟨(evs_ok h).1, fun i hi => ?_⟩
  unfold evsE at h
  split at h
  · simp at h
  · exact firstErr_zero h i (Nat.zero_le _) (by omega)
theorem evs_take {n n2 : Nat} {es : List Ev} (h : evsE n n2 es = 0) (k : Nat) : evsE n n2 (es.take k) = 0 := by
  obtain ⟨h1, h2⟩ := evsE_each h
  refine evsE_zero (by rw [List.length_take]; omega) fun i hi => ?_
  rw [List.length_take] at hi
  have := h2 i (by omega)
  unfold evsErr at this ⊢
  rw [List.take_take, Nat.min_eq_left (by omega), List.getElem?_take_of_lt (by omega)]
  exact this
theorem evs_drop {n n2 : Nat} {es : List Ev} (h : evsE n n2 es = 0) {k : Nat} (hk : k < es.length) : evsE n n2 ((es.drop k).map (shE (es[k]?.getD default).a)) = 0 := by
  obtain ⟨h1, h2⟩ := evsE_each h
  have hev := (evs_ok h).2
  have mono : ∀ j, k + j < es.length → (es[k]?.getD default).a ≤ (es[k + j]?.getD default).a := by
    intro j
    induction j with
    | zero => intro _; exact Int.le_refl _
    | succ j ih =>
      intro hj
      obtain ⟨_, _, _, _, _, hm, _⟩ := hev (k + (j + 1)) hj
      rw [show k + (j + 1) = k + j + 1 by omega, lastW_take es (k + j) (by omega)] at hm
      have := ih (by omega)
      rw [show k + (j + 1) = k + j + 1 by omega]
      omega
  refine evsE_zero (by simp; omega) fun i hi => ?_
  have hi' : k + i < es.length := by simp at hi; omega
  have hi2 := h2 (k + i) hi'
  have e1 : (((es.drop k).map (shE (es[k]?.getD default).a))[i]?.getD default) = shE (es[k]?.getD default).a (es[k + i]?.getD default) := by
    rw [List.getElem?_map, List.getElem?_drop, List.getElem?_eq_getElem hi']; rfl
  have e2 : lastW (((es.drop k).map (shE (es[k]?.getD default).a)).take i) ≤ (es[k + i]?.getD default).a - (es[k]?.getD default).a := by
    cases i with
    | zero => simp [lastW]
    | succ i =>
      rw [lastW_take _ i (by simp; omega)]
      have e3 : (((es.drop k).map (shE (es[k]?.getD default).a))[i]?.getD default) = shE (es[k]?.getD default).a (es[k + i]?.getD default) := by
        rw [List.getElem?_map, List.getElem?_drop, List.getElem?_eq_getElem (show k + i < es.length by omega)]; rfl
      rw [e3]
      obtain ⟨_, _, _, _, _, hm, _⟩ := hev (k + (i + 1)) hi'
      rw [show k + (i + 1) = k + i + 1 by omega, lastW_take es (k + i) (by omega)] at hm
      show (es[k + i]?.getD default).a - _ ≤ _
      rw [show k + (i + 1) = k + i + 1 by omega]
      omega
  have hm0 := mono i hi'
  obtain ⟨_, _, _, ha0, ha1, _, _⟩ := hev (k + i) hi'
  obtain ⟨_, _, _, hk0, hk1, _, _⟩ := hev k hk
  unfold evsErr at hi2 ⊢
  rw [e1]
  unfold evErr at hi2 ⊢
  rw [if_pos (inB_iff.2 (show 0 ≤ (shE (es[k]?.getD default).a (es[k + i]?.getD default)).a ∧ (shE (es[k]?.getD default).a (es[k + i]?.getD default)).a ≤ 200 by show 0 ≤ _ - _ ∧ _ - _ ≤ (200 : Int); omega)),
    if_neg (show ¬ (shE (es[k]?.getD default).a (es[k + i]?.getD default)).a < _ by show ¬ _ - _ < _; omega)]
  rw [if_pos (inB_iff.2 ⟨ha0, ha1⟩)] at hi2
  split at hi2
  · simp at hi2
  · exact hi2
end Go.Proofs.Ytkhijdbigpaagaa

/-
  SkillWeeks: where a history is cut; rows of events.
-/
namespace Go.Proofs.Ytkhijdbigpaagaa
open Go.RowKit RG

theorem ev_mono {n n2 : Nat} {es : List Ev} (hev : EvsOk n n2 es) {k : Nat} : ∀ j, k + j < es.length → (es[k]?.getD default).a ≤ (es[k + j]?.getD default).a := by
  intro j
  induction j with
  | zero => intro _; exact Int.le_refl _
  | succ j ih =>
    intro hj
    obtain ⟨_, _, _, _, _, hm, _⟩ := hev (k + (j + 1)) hj
    rw [show k + (j + 1) = k + j + 1 by omega, lastW_take es (k + j) (by omega)] at hm
    have := ih (by omega)
    rw [show k + (j + 1) = k + j + 1 by omega]
    omega
theorem lastW_at {es : List Ev} {k : Nat} (hk : k < es.length) : lastW es = (es[k + (es.length - 1 - k)]?.getD default).a := by
  unfold lastW
  rw [if_neg (by omega), show k + (es.length - 1 - k) = es.length - 1 by omega]
theorem weeks_math {S : Sch} {rs : List Sp} {es : List Ev} {wk : Int} {k : Nat} (hh : histE S rs es = 0) (hw : 0 ≤ wk ∧ wk ≤ 200) (hl : lastW es ≤ wk) (hk : k < es.length) :
    (0 ≤ (es[k]?.getD default).a ∧ (es[k]?.getD default).a ≤ wk) ∧ afterF S rs (es.take k) (es[k]?.getD default).a = (liveS S (es[k]?.getD default).a (es.take k) 0 rs, e9 (liveS S (es[k]?.getD default).a (es.take k) 0 rs)) ∧
      liveS S wk es 0 rs = (liveS S (es[k]?.getD default).a (es.take k) 0 rs).bind (liveS S wk (es.drop k) (es[k]?.getD default).a) ∧
      ∀ T1, liveS S (es[k]?.getD default).a (es.take k) 0 rs = some T1 → T1.length = S.sks.length ∧ afterF S T1 ((es.drop k).map (shE (es[k]?.getD default).a)) (wk - (es[k]?.getD default).a) = (liveS S wk (es.drop k) (es[k]?.getD default).a T1, e9 (liveS S wk (es.drop k) (es[k]?.getD default).a T1)) := by
  obtain ⟨hck, hrk, hek⟩ := hist_ok hh
  have hev := (evs_ok hek).2
  obtain ⟨_, _, _, ha0, ha1, hla, _⟩ := hev k hk
  have hlast := ev_mono hev (k := k) (es.length - 1 - k) (by omega)
  rw [← lastW_at hk] at hlast
  have hcut := liveS_cut S wk (es[k]?.getD default) (es.drop (k + 1)) (es.take k) 0 rs
  have hdr : es.drop k = es[k]?.getD default :: es.drop (k + 1) := by
    rw [List.drop_eq_getElem_cons hk, List.getElem?_eq_getElem hk]; rfl
  have happ : es.take k ++ es[k]?.getD default :: es.drop (k + 1) = es := by rw [← hdr, List.take_append_drop]
  rw [happ, ← hdr] at hcut
  have hp0 : histE S rs (es.take k) = 0 := by unfold histE; rw [if_pos hck, if_pos hrk]; exact evs_take hek k
  refine ⟨⟨ha0, by omega⟩, after_at hp0 ⟨ha0, ha1⟩ hla, hcut, fun T1 hT1 => ?_⟩
  have hrr := ranges_ok hrk
  have hlen : T1.length = S.sks.length := by rw [liveS_len hT1]; exact hrr.1
  have hok : AllOk T1 := live_ok hck (es := es.take k) (fun i hi => by
    rw [List.length_take] at hi
    obtain ⟨s, h1, h2, _⟩ := hev i (by omega)
    exact ⟨s, by rw [List.getElem?_take_of_lt (by omega)]; exact h1, h2⟩) hrr.1 (fun i hi => hrr.2 i hi) hT1
  refine ⟨hlen, ?_⟩
  have hp1 : histE S T1 ((es.drop k).map (shE (es[k]?.getD default).a)) = 0 := by
    unfold histE
    rw [if_pos hck, if_pos (ranges_of_ok hlen hok)]
    exact evs_drop hek hk
  have hlw : lastW ((es.drop k).map (shE (es[k]?.getD default).a)) = lastW es - (es[k]?.getD default).a := by
    unfold lastW
    rw [if_neg (by simp; omega), if_neg (by omega)]
    rw [show ((es.drop k).map (shE (es[k]?.getD default).a)).length - 1 = es.length - 1 - k by simp; omega]
    rw [List.getElem?_map, List.getElem?_drop, show k + (es.length - 1 - k) = es.length - 1 by omega, List.getElem?_eq_getElem (show es.length - 1 < es.length by omega)]
    rfl
  rw [after_at hp1 (by omega) (by omega)]
  have hs := liveS_shift S wk (es[k]?.getD default).a (es.drop k) (es[k]?.getD default).a T1
  rw [show (es[k]?.getD default).a - (es[k]?.getD default).a = 0 by omega] at hs
  rw [hs]

theorem infoEv : (Try.prog.info? 78).map (fun i => (i.zero, i.size, i.bytes)) = some (some (.agg #[.int .i64 0, .int .i64 0, .int .i64 0, .int .i64 0, .int .i64 0]), 5, 40) := by kernel_rfl
theorem flatEv_at (l : List Ev) (j : Nat) (x : Value) (i : Nat) (h : (((l.map evCells)[j]?.getD [])[i]?) = some x) : (l.flatMap evCells)[j * 5 + i]? = some x := by
  induction l generalizing j with
  | nil => simp at h
  | cons r l ih =>
    rw [List.flatMap_cons]
    cases j with
    | zero =>
      simp only [List.map_cons, List.getElem?_cons_zero, Option.getD_some] at h
      have hi : i < (evCells r).length := (List.getElem?_eq_some_iff.1 h).1
      rw [List.getElem?_append_left (by omega), show 0 * 5 + i = i by omega]; exact h
    | succ j =>
      simp only [List.map_cons, List.getElem?_cons_succ] at h
      rw [List.getElem?_append_right (by simp [evCells]; omega)]
      have := ih j h
      simp only [evCells, List.length_cons, List.length_nil]
      rw [show (j + 1) * 5 + i - (0 + 1 + 1 + 1 + 1 + 1) = j * 5 + i by omega]
      exact this
theorem isEvs_own {w : World} {base : Nat} {v : Value} {es : List Ev} (h : w.ownsRow base 78 5 v es.length (es.flatMap evCells)) : IsEvs es v w := by
  rcases h.2 with ⟨rfl, h0⟩ | ⟨g, cap, cur, rfl, _, hg, hc, _, hs, ht⟩
  · obtain rfl : es = [] := List.eq_nil_of_length_eq_zero h0
    exact ⟨none, 0, rfl, RdRow.nil _ _ _, Nat.le_refl _⟩
  · refine ⟨_, cap, rfl, ⟨by simp, fun x hx => ?_, fun hn => ⟨g, 0, rfl, ?_, fun j i v hv => ?_⟩⟩, hc⟩
    · obtain ⟨r, _, rfl⟩ := List.mem_map.1 hx; rfl
    · exact (Array.getElem?_eq_some_iff.1 hg).1
    · have h1 : w.cell? ⟨g, 0 + j * 5 + i, none⟩ = cur[j * 5 + i]? := by rw [Nat.zero_add]; exact cell_of_row w g (j * 5 + i) cur _ (0, 0) hg
      rw [h1]
      have h2 := flatEv_at es j v i hv
      rw [← ht] at h2
      have hlt : j * 5 + i < (cur.toList.take (es.length * 5)).length := (List.getElem?_eq_some_iff.1 h2).1
      rw [List.getElem?_take_of_lt (by rw [List.length_take] at hlt; omega)] at h2
      simpa using h2
theorem takeEv (l : List Ev) (j : Nat) (hj : j < l.length) : (l.take (j + 1)).flatMap evCells = (l.take j).flatMap evCells ++ evCells (l[j]?.getD default) := by
  rw [List.take_succ_eq_append_getElem hj, List.getElem?_eq_getElem hj, List.flatMap_append]
  simp
theorem cell_five_new {g : Nat} {w : World} (hg : g = w.heap.size) (a b c d e : Value) (t : TypeId) : ∀ j u, [a, b, c, d, e][j]? = some u → (w.alloc (.cells #[a, b, c, d, e] t)).cell? ((⟨g, 0, none⟩ : Addr).add j) = some u := by
  subst hg
  intro j u hj
  match j, hj with
  | 0, hj => simp at hj; subst hj; simp [Addr.add]
  | 1, hj => simp at hj; subst hj; simp [Addr.add]
  | 2, hj => simp at hj; subst hj; simp [Addr.add]
  | 3, hj => simp at hj; subst hj; simp [Addr.add]
  | 4, hj => simp at hj; subst hj; simp [Addr.add]
/-- What After answers, as a value. -/
def AfP (T : List Sp) (f : Int) : Value → World → Prop := fun v w => ∃ x, v = .tuple #[x, .int .i64 f] ∧ IsSpans T x w
theorem AfP.stb (T : List Sp) (f : Int) : Stb (AfP T f) := fun _ _ _ hb ⟨x, e, h⟩ => ⟨x, e, IsSpans.stb T _ _ _ hb h⟩
end Go.Proofs.Ytkhijdbigpaagaa
