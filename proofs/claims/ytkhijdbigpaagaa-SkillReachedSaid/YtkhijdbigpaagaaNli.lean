import Derived.Test.YtkhijdbigpaagaaNmo
import Derived.Test.YtkhijdbigpaagaaNi
import Derived.Test.YtkhijdbigpaagaaNre
import Derived.Test.YtkhijdbigpaagaaNwa
import Derived.Test.YtkhijdbigpaagaaNf
import Derived.Test.YtkhijdbigpaagaaNea
import Derived.Test.YtkhijdbigpaagaaNaf
/-
  Truths of a learner: what the levels are in any of them (SkillTrue), and what an instructor always adds (SkillSevere): the mathematics.
-/
namespace Go.Proofs.Ytkhijdbigpaagaa
open Go.RowKit RG

/-- A truth: what happened up to a week, and the levels then. If 'same', the marks of the instructor i are the level and the number al[i], together. -/
inductive Truth (S : Sch) (same : Bool) (al : List Int) (rs : List Sp) : List Ev → Int → List Int → Prop where
  | start (U : List Int) (hl : U.length = rs.length) (h : ∀ i, i < rs.length → inS (rs[i]?.getD (0, 0)) (U[i]?.getD 0)) : Truth S same al rs [] 0 U
  | week (es : List Ev) (wk : Int) (U V : List Int) (h : Truth S same al rs es wk U) (hw : wk < 200) (hl : V.length = U.length) (hV : ∀ i, i < U.length → ∃ d, inS (fadeOf (S.sks[i]?.getD default)) d ∧ V[i]?.getD 0 = lim (U[i]?.getD 0 - d)) : Truth S same al rs es (wk + 1) V
  | taught (es : List Ev) (wk : Int) (U : List Int) (c : Nat) (d y z : Int) (h : Truth S same al rs es wk U) (he : es.length < 60) (hc : c < U.length) (hd : inS (gainOf (S.sks[c]?.getD default)) d) : Truth S same al rs (es ++ [⟨wk, 0, c, y, z⟩]) wk (U.set c (lim (U[c]?.getD 0 + d)))
  | marked (es : List Ev) (wk : Int) (U : List Int) (c i : Nat) (b : Int) (h : Truth S same al rs es wk U) (he : es.length < 60) (hc : c < U.length) (hi : i < S.ins.length) (hb : inS (biasOf (S.ins[i]?.getD default)) b) (hs : same = true → b = al[i]?.getD 0) : Truth S same al rs (es ++ [⟨wk, 1, c, i, lim (U[c]?.getD 0 + b)⟩]) wk U

def InL2 (R : List Sp) (U : List Int) : Prop := R.length = U.length ∧ ∀ i, i < U.length → inS (R[i]?.getD (0, 0)) (U[i]?.getD 0)
/-- Skills whose ranges are none empty. -/
def SksOk (S : Sch) : Prop := ∀ i, i < S.sks.length → (S.sks[i]?.getD default).fl ≤ (S.sks[i]?.getD default).fh ∧ (S.sks[i]?.getD default).gl ≤ (S.sks[i]?.getD default).gh
theorem sks_ok {S : Sch} (h : (checkS S).2.2 = 0) : SksOk S := fun _ hi => ⟨(sk_ok h hi).2.2.2.2.1, (sk_ok h hi).2.1⟩

theorem live_week (S : Sch) {wk : Int} : ∀ {es : List Ev} {now : Int} {rs : List Sp}, now ≤ wk → (∀ e ∈ es, e.a ≤ wk) → liveS S (wk + 1) es now rs = (liveS S wk es now rs).map (wait1 S)
  | [], now, rs, h, _ => by
    show some (waitN S (wk + 1 - now).toNat rs) = some (wait1 S (waitN S (wk - now).toNat rs))
    rw [show (wk + 1 - now).toNat = (wk - now).toNat + 1 by omega]
    rfl
  | e :: r, now, rs, h, he => by
    show (stepS S e (waitN S (e.a - now).toNat rs)).bind (liveS S (wk + 1) r e.a) = ((stepS S e (waitN S (e.a - now).toNat rs)).bind (liveS S wk r e.a)).map (wait1 S)
    cases stepS S e (waitN S (e.a - now).toNat rs) with
    | none => rfl
    | some q => exact live_week S (he e (List.mem_cons_self ..)) fun x hx => he x (List.mem_cons_of_mem _ hx)
theorem live_some (S : Sch) (wk wk' : Int) : ∀ (es : List Ev) (now : Int) (rs : List Sp), (liveS S wk es now rs).isSome = (liveS S wk' es now rs).isSome
  | [], _, _ => rfl
  | e :: r, now, rs => by
    show ((stepS S e (waitN S (e.a - now).toNat rs)).bind (liveS S wk r e.a)).isSome = ((stepS S e (waitN S (e.a - now).toNat rs)).bind (liveS S wk' r e.a)).isSome
    cases stepS S e (waitN S (e.a - now).toNat rs) with
    | none => rfl
    | some q => exact live_some S wk wk' r e.a q
theorem live_snoc (S : Sch) {wk : Int} {es : List Ev} {e : Ev} {rs R q : List Sp} (he : e.a = wk) (h : liveS S wk es 0 rs = some R) (hq : stepS S e R = some q) : liveS S wk (es ++ [e]) 0 rs = some q := by
  rw [liveS_cut, he, h]
  show (stepS S e (waitN S (e.a - wk).toNat R)).bind (liveS S wk [] e.a) = some q
  rw [he, show (wk - wk).toNat = 0 by omega]
  show (stepS S e R).bind (liveS S wk [] wk) = some q
  rw [hq]
  show some (waitN S (wk - wk).toNat q) = some q
  rw [show (wk - wk).toNat = 0 by omega]
  rfl
theorem evs_taught {n n2 : Nat} {es : List Ev} {e : Ev} {wk : Int} (h : evsE n n2 es = 0) (hl : es.length < 60) (hw : 0 ≤ wk ∧ wk ≤ 200) (hlw : lastW es ≤ wk) (he : e.a = wk) (hb : e.b = 0) (hc : 0 ≤ e.c ∧ e.c < n) : evsE n n2 (es ++ [e]) = 0 := by
  obtain ⟨h1, h2⟩ := evsE_each h
  refine evsE_zero (by simp; omega) fun i hi => ?_
  rw [List.length_append] at hi
  rcases Nat.lt_or_ge i es.length with h3 | h3
  · have := h2 i h3
    unfold evsErr at this ⊢
    rw [List.take_append_of_le_length (by omega), List.getElem?_append_left h3]
    exact this
  · obtain rfl : i = es.length := by simp at hi; omega
    unfold evsErr evErr
    rw [List.take_append_of_le_length (Nat.le_refl _), List.take_length, List.getElem?_append_right (Nat.le_refl _), Nat.sub_self]
    simp only [List.getElem?_cons_zero, Option.getD_some]
    rw [he, if_pos (inB_iff.2 hw), if_neg (by omega), if_neg (by omega), if_pos hb, if_pos (inB_iff.2 (by omega))]
theorem lastW_snoc (es : List Ev) (e : Ev) : lastW (es ++ [e]) = e.a := by
  unfold lastW
  rw [if_neg (by simp)]
  simp
theorem inL2_set {R : List Sp} {U : List Int} (h : InL2 R U) {c : Nat} {r : Sp} {u : Int} (hc : c < U.length) (hu : inS r u) : InL2 (R.set c r) (U.set c u) := by
  refine ⟨by simp [h.1], fun i hi => ?_⟩
  rw [List.length_set] at hi
  by_cases e : c = i
  · subst e
    rw [List.getElem?_set_self (by rw [h.1]; exact hc), List.getElem?_set_self hc]; exact hu
  · rw [List.getElem?_set_ne e, List.getElem?_set_ne e]; exact h.2 i hi
theorem inL2_set1 {R : List Sp} {U : List Int} (h : InL2 R U) {c : Nat} {r : Sp} (hc : c < U.length) (hu : inS r (U[c]?.getD 0)) : InL2 (R.set c r) U := by
  refine ⟨by simp [h.1], fun i hi => ?_⟩
  by_cases e : c = i
  · subst e
    rw [List.getElem?_set_self (by rw [h.1]; exact hc)]; exact hu
  · rw [List.getElem?_set_ne e]; exact h.2 i hi

/-- All that is known of a truth. -/
theorem truth_all {S : Sch} {same : Bool} {al : List Int} {rs : List Sp} (hsk : SksOk S) (hrs : AllOk rs) (hrl : rs.length = S.sks.length) {es : List Ev} {wk : Int} {U : List Int} (h : Truth S same al rs es wk U) :
    (0 ≤ wk ∧ wk ≤ 200) ∧ evsE S.sks.length S.ins.length es = 0 ∧ lastW es ≤ wk ∧ (∀ e ∈ es, e.a ≤ wk) ∧ U.length = rs.length ∧ (∀ i, i < U.length → 0 ≤ U[i]?.getD 0 ∧ U[i]?.getD 0 ≤ 1000) ∧ ∃ R, liveS S wk es 0 rs = some R ∧ InL2 R U := by
  induction h with
  | start U hl h =>
    refine ⟨by omega, evsE_zero (by simp) (fun i hi => absurd hi (by simp)), by simp [lastW], fun e he => by simp at he, hl, fun i hi => ?_, rs, rfl, hl.symm, fun i hi => h i (by omega)⟩
    have := hrs i (by omega)
    have := h i (by omega)
    unfold okS inS at *
    omega
  | week es wk U V h hw hl hV ih =>
    obtain ⟨h1, h2, h3, h4, h5, h6, R, h7, h8⟩ := ih
    refine ⟨by omega, h2, by omega, fun e he => by have := h4 e he; omega, by omega, fun i hi => ?_, wait1 S R, ?_, ?_, fun i hi => ?_⟩
    · obtain ⟨d, _, e⟩ := hV i (by omega)
      rw [e]; exact lim_le _
    · rw [live_week S h1.1 h4, h7]; rfl
    · rw [wait1_len, hl]; exact h8.1
    · obtain ⟨d, hd, e⟩ := hV i (by omega)
      have hin := h8.2 i (by omega)
      rw [wait1_at S R (by rw [h8.1]; omega), e]
      exact (lower_iff (hsk i (by omega)).1 (Int.le_trans hin.1 hin.2) _).2 ⟨_, d, hin, hd, rfl⟩
  | taught es wk U c d y z h he hc hd ih =>
    obtain ⟨h1, h2, h3, h4, h5, h6, R, h7, h8⟩ := ih
    refine ⟨h1, evs_taught h2 he h1 h3 rfl rfl ⟨by simp, by simp; omega⟩, by rw [lastW_snoc]; exact Int.le_refl _, fun e he => ?_, by simp [h5], fun i hi => ?_, R.set c (raiseS (gainOf (S.sks[c]?.getD default)) (R[c]?.getD (0, 0))), ?_, ?_⟩
    · rcases List.mem_append.1 he with h | h
      · exact h4 e h
      · rw [List.mem_singleton] at h; rw [h]; exact Int.le_refl _
    · rw [List.length_set] at hi
      by_cases e : c = i
      · subst e; rw [List.getElem?_set_self hc]; exact lim_le _
      · rw [List.getElem?_set_ne e]; exact h6 i hi
    · refine live_snoc S rfl h7 ?_
      unfold stepS
      rw [if_neg (by simp)]
      simp
    · have hin := h8.2 c hc
      exact inL2_set h8 hc ((raise_iff (hsk c (by omega)).2 (Int.le_trans hin.1 hin.2) _).2 ⟨_, d, hin, hd, rfl⟩)
  | marked es wk U c i b h he hc hi hb hs ih =>
    obtain ⟨h1, h2, h3, h4, h5, h6, R, h7, h8⟩ := ih
    have hm := lim_le (U[c]?.getD 0 + b)
    have hin := h8.2 c hc
    have hbe : inS (behindS (biasOf (S.ins[i]?.getD default)) (lim (U[c]?.getD 0 + b))) (U[c]?.getD 0) := (behind_iff hm).2 ⟨h6 c hc, lim_mono (by have := hb.1; omega), lim_mono (by have := hb.2; omega)⟩
    have hna : inS (narrowS (behindS (biasOf (S.ins[i]?.getD default)) (lim (U[c]?.getD 0 + b))) (R[c]?.getD (0, 0))) (U[c]?.getD 0) := (narrow_iff _).2 ⟨hin, hbe⟩
    refine ⟨h1, evs_mark h2 he h1 h3 rfl rfl ⟨by simp, by simp; omega⟩ ⟨by simp, by simp; omega⟩ hm, by rw [lastW_snoc]; exact Int.le_refl _, fun e he => ?_, h5, h6, R.set c (narrowS (behindS (biasOf (S.ins[i]?.getD default)) (lim (U[c]?.getD 0 + b))) (R[c]?.getD (0, 0))), ?_, ?_⟩
    · rcases List.mem_append.1 he with h | h
      · exact h4 e h
      · rw [List.mem_singleton] at h; rw [h]; exact Int.le_refl _
    · refine live_snoc S rfl h7 ?_
      unfold stepS
      rw [if_pos rfl, if_neg]
      · simp
      · simp only [Int.toNat_natCast]
        have := hna.1
        have := hna.2
        omega
    · exact inL2_set1 h8 hc hna
/-- P2.7: what the law SkillTrue asks. -/
theorem true_math {S : Sch} {same : Bool} {al : List Int} {rs : List Sp} (hck : (checkS S).2.2 = 0) (hrs : AllOk rs) (hrl : rs.length = S.sks.length) (hr0 : rangesE S.sks.length rs = 0) {es : List Ev} {wk : Int} {U : List Int} (h : Truth S same al rs es wk U) :
    ∃ R, afterF S rs es wk = (some R, 0) ∧ R.length = U.length ∧ ∀ i, i < U.length → inS (R[i]?.getD (0, 0)) (U[i]?.getD 0) := by
  obtain ⟨h1, h2, h3, h4, h5, h6, R, h7, h8⟩ := truth_all (sks_ok hck) hrs hrl h
  refine ⟨R, ?_, h8.1, h8.2⟩
  unfold afterF
  rw [if_pos (by unfold histE; rw [if_pos hck, if_pos hr0]; exact h2), if_pos (inB_iff.2 h1), if_neg (by omega), h7]
theorem truth_setB {S : Sch} {al : List Int} {rs : List Sp} {k : Nat} {es : List Ev} {wk : Int} {U : List Int} (h : Truth S true al rs es wk U) : Truth (setB S k (al[k]?.getD 0)) true al rs es wk U := by
  induction h with
  | start U hl h => exact .start U hl h
  | week es wk U V h hw hl hV ih => exact .week es wk U V ih hw hl hV
  | taught es wk U c d y z h he hc hd ih => exact .taught es wk U c d y z ih he hc hd
  | marked es wk U c i b h he hc hi hb hs ih =>
    refine .marked es wk U c i b ih he hc (by simp [setB]; exact hi) ?_ hs
    have := hs rfl
    unfold setB
    by_cases e : k = i
    · subst e
      rw [List.getElem?_set_self hi, ← this]
      exact ⟨Int.le_refl _, Int.le_refl _⟩
    · rw [List.getElem?_set_ne e]; exact hb
theorem firstUp_le {p : Int → Bool} {a : Int} (ha : p a = true) : ∀ (n : Nat) (lo : Int), lo ≤ a → a < lo + n → lo ≤ firstUp p n lo ∧ firstUp p n lo ≤ a
  | 0, lo, h1, h2 => by omega
  | n + 1, lo, h1, h2 => by
    unfold firstUp
    split
    · exact ⟨Int.le_refl _, h1⟩
    · rename_i hn
      have hne : lo ≠ a := fun e => hn (e ▸ ha)
      have := firstUp_le ha n (lo + 1) (by omega) (by omega)
      omega
theorem lastDown_ge {p : Int → Bool} {a : Int} (ha : p a = true) : ∀ (n : Nat) (hi : Int), a ≤ hi → hi < a + n → a ≤ lastDown p n hi ∧ lastDown p n hi ≤ hi
  | 0, hi, h1, h2 => by omega
  | n + 1, hi, h1, h2 => by
    unfold lastDown
    split
    · exact ⟨h1, Int.le_refl _⟩
    · rename_i hn
      have hne : hi ≠ a := fun e => hn (e ▸ ha)
      have := lastDown_ge ha n (hi - 1) (by omega) (by omega)
      omega
/-- P2.9: what the law SkillSevere asks. -/
theorem severe_math {S : Sch} {al : List Int} {rs : List Sp} (hck : (checkS S).2.2 = 0) (hrs : AllOk rs) (hrl : rs.length = S.sks.length) (hr0 : rangesE S.sks.length rs = 0) {es : List Ev} {wk : Int} {U : List Int} (h : Truth S true al rs es wk U) {k : Nat} (hk : k < S.ins.length)
    (hal : inS (biasOf (S.ins[k]?.getD default)) (al[k]?.getD 0)) :
    ∃ lo hi, sevF S rs es k = (lo, hi, 0) ∧ lo ≤ al[k]?.getD 0 ∧ al[k]?.getD 0 ≤ hi ∧ (S.ins[k]?.getD default).lo ≤ lo ∧ hi ≤ (S.ins[k]?.getD default).hi := by
  obtain ⟨h1, h2, h3, -⟩ := truth_all (sks_ok hck) hrs hrl h
  have hsk' : SksOk (setB S k (al[k]?.getD 0)) := fun i hi => sks_ok hck i hi
  obtain ⟨-, -, -, -, -, -, R, h7, -⟩ := truth_all hsk' hrs hrl (truth_setB h)
  have htr : isTr S rs es k (al[k]?.getD 0) = true := by
    unfold isTr
    rw [live_some _ _ wk, h7]; rfl
  obtain ⟨ha1, ha2⟩ := hal
  have ha1 : (S.ins[k]?.getD default).lo ≤ al[k]?.getD 0 := ha1
  have ha2 : al[k]?.getD 0 ≤ (S.ins[k]?.getD default).hi := ha2
  have hf := firstUp_le htr ((S.ins[k]?.getD default).hi + 1 - (S.ins[k]?.getD default).lo).toNat (S.ins[k]?.getD default).lo ha1 (by omega)
  have hg := lastDown_ge htr ((S.ins[k]?.getD default).hi + 1 - (S.ins[k]?.getD default).lo).toNat (S.ins[k]?.getD default).hi ha2 (by omega)
  refine ⟨_, _, ?_, hf.2, hg.1, hf.1, hg.2⟩
  unfold sevF
  rw [if_pos (by unfold histE; rw [if_pos hck, if_pos hr0]; exact h2), if_pos (inB_iff.2 (by omega))]
  simp only [Int.toNat_natCast]
  rw [if_neg (by omega)]
end Go.Proofs.Ytkhijdbigpaagaa

/-
  The contract of 'lived': a number of any range; the region in which a level and a range are appended; what stays in the loop of events.
-/
namespace Go.Proofs.Ytkhijdbigpaagaa
open Go.RowKit RG

set_option maxHeartbeats 1000000 in
theorem amongB_any (lo hi n : Int) (w : World) (hr : -1000 ≤ lo ∧ lo ≤ hi ∧ hi ≤ 1000) (hn : 0 ≤ n ∧ n ≤ 65535) :
    Calls Try.prog 47 #[.agg #[.int .i64 lo, .int .i64 hi], .int .i64 n] w fun e w' => (∃ z, e = .returned (.int .i64 z) ∧ lo ≤ z ∧ z ≤ hi) ∧ Below w.heap.size w w' := by
  have hd : (0 : Int) < hi - lo + 1 := by omega
  obtain ⟨z, hz⟩ : ∃ z, n.tmod (hi - lo + 1) = z := ⟨_, rfl⟩
  have hz0 : 0 ≤ z ∧ z < hi - lo + 1 := by rw [← hz]; exact ⟨Int.tmod_nonneg _ hn.1, Int.tmod_lt_of_pos _ hd⟩
  have b0 : (hi - lo + 1 == 0) = false := by rw [beq_eq_false_iff_ne]; omega
  have hw1 : IntKind.i64.wrap (hi - lo) = hi - lo := by rw [IntKind.wrap_i64]; omega
  have hw2 : IntKind.i64.wrap (hi - lo + 1) = hi - lo + 1 := by rw [IntKind.wrap_i64]; omega
  have hw3 : IntKind.i64.wrap (lo + z) = lo + z := by rw [IntKind.wrap_i64]; omega
  have hw4 : IntKind.i64.wrap z = z := by rw [IntKind.wrap_i64]; omega
  have kb := hide (show Blk (w.alloc (.cells #[.int .i64 lo, .int .i64 hi] 32)) w.heap.size 32 #[.int .i64 lo, .int .i64 hi] from blkNew rfl)
  have hB := hide (show Below w.heap.size w (w.alloc (.cells #[.int .i64 lo, .int .i64 hi] 32)) from (Below.refl _ _).alloc (Nat.le_refl _) _)
  have c0 : (w.alloc (.cells #[.int .i64 lo, .int .i64 hi] 32)).cell? ⟨w.heap.size, 0, none⟩ = some (.int .i64 lo) := kb.out.cell 0
  have c1 : (w.alloc (.cells #[.int .i64 lo, .int .i64 hi] 32)).cell? ⟨w.heap.size, 1, none⟩ = some (.int .i64 hi) := kb.out.cell 1
  replace hn := hide hn
  replace hr := hide hr
  go_enter Try.func47, Try.ntmps47
  go_wp2
  go_quiet (fail)
  have hB2 := hide (below_drewN hB.out nq)
  clear c0 c1 hw1 hw2 hw3 hw4 hz b0
  go_wp2
  go_ret
  have h1 := hr.out
  exact ⟨⟨lo + z, rfl, by omega, by omega⟩, hB2.out⟩

set_option maxRecDepth 100000 in
theorem wp_append_sp {w : World} {o : Oper} {a : Act} {K : Act → World → Prop} {Q : Exit → Act → World → Prop} (s x : Operand)
    (ho : o.op = .call { callee := .builtin .append, args := #[s, x], argTypes := #[37, 37] })
    (base : Nat) (i : TypeInfo) (hi : Try.prog.info? 32 = some i) (hz : i.zero = some (.agg #[.int .i64 0, .int .i64 0])) (hsize : i.size = 2) (hby : i.bytes = 16)
    (v : Value) (n : Nat) (xs : List Value) (hs : a.eval s = v) (hown : w.ownsRow base 32 2 v n xs)
    (g : Nat) (p q : Int) (hx : a.eval x = .slice (some ⟨g, 0, none⟩) 1 1) (hc : Blk w g 32 #[.int .i64 p, .int .i64 q])
    (h63 : n + 1 ≤ maxLen) (hbytes : (n + 1) * 16 ≤ 140737488355328) (hbase : base ≤ w.heap.size)
    (h : ∀ v' w', w'.ownsRow base 32 2 v' (n + 1) (xs ++ [.int .i64 p, .int .i64 q]) → w.grownBy w' v.ownBlock → (v'.ownBlock = v.ownBlock ∨ v'.ownBlock = some w.heap.size) → K (a.put o.dst v') w') : o.wp Try.prog a w K Q := by
  have hnews : ∀ j u, ([.int .i64 p, .int .i64 q] : List Value)[j]? = some u → w.cell? ((⟨g, 0, none⟩ : Addr).add j) = some u := by
    intro j u hj
    match j, hj with
    | 0, hj => simp at hj; subst hj; simpa [Addr.add] using hc.cell 0
    | 1, hj => simp at hj; subst hj; simpa [Addr.add] using hc.cell 1
    | j + 2, hj => simp at hj
  obtain ⟨v', w', hrun, h2, h3, _, h5⟩ := run_append_own_at (P := Try.prog) w base 37 o.type _ i _ 2 16 Try.underlying37 hi hz hsize hby rfl (by decide) v n xs hown ⟨g, 0, none⟩ 1 1 [.int .i64 p, .int .i64 q] rfl hnews (by simp [Value.oneCell']) h63 hbytes hbase
  unfold Oper.wp execOp
  simp only [ho, resolve, invoke, builtin, Sem.run_bind, Sem.run_pure, Result.andThen_ok, List.map_toArray, List.map_cons, List.map_nil, hs, hx, hrun]
  exact h v' w' h2 h3 (h5.imp (fun e => by rw [e]) (fun e => e))
/-- Two rows of elements of two types lie in two blocks. -/
theorem own_types {w : World} {base base' : Nat} {e e' : TypeId} {k k' : Nat} {v v' : Value} {n n' : Nat} {l l' : List Value} (h : w.ownsRow base e k v n l) (h' : w.ownsRow base' e' k' v' n' l') (hne : e ≠ e') : v.ownBlock = none ∨ v.ownBlock ≠ v'.ownBlock := by
  rcases h.2 with ⟨rfl, h0⟩ | ⟨g, cap, cur, rfl, _, hg, _⟩
  · exact .inl rfl
  · exact .inr fun e1 => own_ne h' (show Blk w g e cur from hg) (Ne.symm hne) e1.symm

abbrev OwnI (w : World) (base : Nat) (v : Value) (n : Nat) (l : List Value) : Prop := w.ownsRow base 3 1 v n l
abbrev OwnS (w : World) (base : Nat) (v : Value) (n : Nat) (l : List Value) : Prop := w.ownsRow base 32 2 v n l
/-- What is known in the region of the two appends, of what is listed, of the values and of the world. -/
def LfI (w0 : World) (base : Nat) (V1 V2 : Value) (n : Nat) (L1 L2 : List Value) (X : Nat) (zn d0 d1 a b : Int) (f : Nat → Bool) (y : Nat → Value) (w : World) : Prop :=
  Below base w0 w ∧ base ≤ w.heap.size ∧ ∃ v1 m1 l1 v2 m2 l2, OwnI w base v1 m1 l1 ∧ OwnS w base v2 m2 l2 ∧
  (f 3 = false → v1 = V1 ∧ m1 = n ∧ l1 = L1) ∧ (f 3 = true → v1 = y 3 ∧ m1 = n + 1 ∧ l1 = L1 ++ [.int .i64 zn]) ∧
  (f 21 = false → v2 = V2 ∧ m2 = n ∧ l2 = L2) ∧ (f 21 = true → v2 = y 21 ∧ m2 = n + 1 ∧ l2 = L2 ++ [.int .i64 a, .int .i64 b]) ∧
  (f 2 = true → f 3 = false → ∃ g, y 2 = .slice (some ⟨g, 0, none⟩) 1 1 ∧ Blk w g 3 #[.int .i64 zn] ∧ v1.ownBlock ≠ some g) ∧
  (f 20 = true → f 21 = false → ∃ g, y 20 = .slice (some ⟨g, 0, none⟩) 1 1 ∧ Blk w g 32 #[.int .i64 a, .int .i64 b] ∧ v2.ownBlock ≠ some g) ∧
  (f 0 = true → y 0 = V1) ∧ (f 1 = true → y 1 = .int .i64 zn) ∧ (f 4 = true → y 4 = V2) ∧ (f 5 = true → y 5 = .int .i64 zn) ∧ (f 6 = true → y 6 = .pointer (some ⟨X, 2, none⟩)) ∧ (f 7 = true → y 7 = .pointer (some ⟨X, 2, none⟩)) ∧ (f 8 = true → y 8 = .int .u8 d0) ∧ (f 9 = true → y 9 = .int .i64 d0) ∧ (f 10 = true → y 10 = .int .i64 (zn - d0)) ∧ (f 11 = true → y 11 = .int .i64 a) ∧ (f 12 = true → y 12 = .int .i64 zn) ∧ (f 13 = true → y 13 = .pointer (some ⟨X, 2, none⟩)) ∧ (f 14 = true → y 14 = .pointer (some ⟨X, 3, none⟩)) ∧ (f 15 = true → y 15 = .int .u8 d1) ∧ (f 16 = true → y 16 = .int .i64 d1) ∧ (f 17 = true → y 17 = .int .i64 (zn + d1)) ∧ (f 18 = true → y 18 = .int .i64 b) ∧ (f 19 = true → y 19 = .agg #[.int .i64 a, .int .i64 b]) ∧
  (f 22 = true → y 22 = y 3) ∧ (f 23 = true → y 23 = y 21) ∧ (f 22 = false → y 22 = V1) ∧ (f 23 = false → y 23 = V2) ∧
  (f 3 = true → f 2 = true ∧ f 0 = true) ∧ (f 21 = true → f 20 = true ∧ f 4 = true) ∧ (f 22 = true → f 3 = true) ∧ (f 23 = true → f 21 = true)
section
variable {w0 w w' : World} {base : Nat} {V1 V2 v : Value} {n X : Nat} {L1 L2 : List Value} {zn d0 d1 a b : Int} {f : Nat → Bool} {y : Nat → Value}
theorem LfI.below (h : LfI w0 base V1 V2 n L1 L2 X zn d0 d1 a b f y w) (hb : Below w.heap.size w w') : LfI w0 base V1 V2 n L1 L2 X zn d0 d1 a b f y w' := by
  obtain ⟨hC, hs, v1, m1, l1, v2, m2, l2, o1, o2, a1, a2, a3, a4, s1, s2, rest⟩ := h
  refine ⟨hC.trans (hb.mono hs), Nat.le_trans hs hb.size, v1, m1, l1, v2, m2, l2, own_below o1 hb, own_below o2 hb, a1, a2, a3, a4, fun x x' => ?_, fun x x' => ?_, rest⟩
  · obtain ⟨g, e, e2, e3⟩ := s1 x x'
    exact ⟨g, e, e2.below hb e2.lt, e3⟩
  · obtain ⟨g, e, e2, e3⟩ := s2 x x'
    exact ⟨g, e, e2.below hb e2.lt, e3⟩
theorem LfI.o0 (h : LfI w0 base V1 V2 n L1 L2 X zn d0 d1 a b f y w) (hv : v = V1) : LfI w0 base V1 V2 n L1 L2 X zn d0 d1 a b (fun k => decide (k = 0) || f k) (upd y 0 v) w := by
  obtain ⟨hC, hs, v1, m1, l1, v2, m2, l2, o1, o2, rest⟩ := h
  refine ⟨hC, hs, v1, m1, l1, v2, m2, l2, o1, o2, ?_⟩
  simp [upd] at *
  grind
theorem LfI.o1 (h : LfI w0 base V1 V2 n L1 L2 X zn d0 d1 a b f y w) (hv : v = .int .i64 zn) : LfI w0 base V1 V2 n L1 L2 X zn d0 d1 a b (fun k => decide (k = 1) || f k) (upd y 1 v) w := by
  obtain ⟨hC, hs, v1, m1, l1, v2, m2, l2, o1, o2, rest⟩ := h
  refine ⟨hC, hs, v1, m1, l1, v2, m2, l2, o1, o2, ?_⟩
  simp [upd] at *
  grind
theorem LfI.o4 (h : LfI w0 base V1 V2 n L1 L2 X zn d0 d1 a b f y w) (hv : v = V2) : LfI w0 base V1 V2 n L1 L2 X zn d0 d1 a b (fun k => decide (k = 4) || f k) (upd y 4 v) w := by
  obtain ⟨hC, hs, v1, m1, l1, v2, m2, l2, o1, o2, rest⟩ := h
  refine ⟨hC, hs, v1, m1, l1, v2, m2, l2, o1, o2, ?_⟩
  simp [upd] at *
  grind
theorem LfI.o5 (h : LfI w0 base V1 V2 n L1 L2 X zn d0 d1 a b f y w) (hv : v = .int .i64 zn) : LfI w0 base V1 V2 n L1 L2 X zn d0 d1 a b (fun k => decide (k = 5) || f k) (upd y 5 v) w := by
  obtain ⟨hC, hs, v1, m1, l1, v2, m2, l2, o1, o2, rest⟩ := h
  refine ⟨hC, hs, v1, m1, l1, v2, m2, l2, o1, o2, ?_⟩
  simp [upd] at *
  grind
theorem LfI.o6 (h : LfI w0 base V1 V2 n L1 L2 X zn d0 d1 a b f y w) (hv : v = .pointer (some ⟨X, 2, none⟩)) : LfI w0 base V1 V2 n L1 L2 X zn d0 d1 a b (fun k => decide (k = 6) || f k) (upd y 6 v) w := by
  obtain ⟨hC, hs, v1, m1, l1, v2, m2, l2, o1, o2, rest⟩ := h
  refine ⟨hC, hs, v1, m1, l1, v2, m2, l2, o1, o2, ?_⟩
  simp [upd] at *
  grind
theorem LfI.o7 (h : LfI w0 base V1 V2 n L1 L2 X zn d0 d1 a b f y w) (hv : v = .pointer (some ⟨X, 2, none⟩)) : LfI w0 base V1 V2 n L1 L2 X zn d0 d1 a b (fun k => decide (k = 7) || f k) (upd y 7 v) w := by
  obtain ⟨hC, hs, v1, m1, l1, v2, m2, l2, o1, o2, rest⟩ := h
  refine ⟨hC, hs, v1, m1, l1, v2, m2, l2, o1, o2, ?_⟩
  simp [upd] at *
  grind
theorem LfI.o8 (h : LfI w0 base V1 V2 n L1 L2 X zn d0 d1 a b f y w) (hv : v = .int .u8 d0) : LfI w0 base V1 V2 n L1 L2 X zn d0 d1 a b (fun k => decide (k = 8) || f k) (upd y 8 v) w := by
  obtain ⟨hC, hs, v1, m1, l1, v2, m2, l2, o1, o2, rest⟩ := h
  refine ⟨hC, hs, v1, m1, l1, v2, m2, l2, o1, o2, ?_⟩
  simp [upd] at *
  grind
theorem LfI.o9 (h : LfI w0 base V1 V2 n L1 L2 X zn d0 d1 a b f y w) (hv : v = .int .i64 d0) : LfI w0 base V1 V2 n L1 L2 X zn d0 d1 a b (fun k => decide (k = 9) || f k) (upd y 9 v) w := by
  obtain ⟨hC, hs, v1, m1, l1, v2, m2, l2, o1, o2, rest⟩ := h
  refine ⟨hC, hs, v1, m1, l1, v2, m2, l2, o1, o2, ?_⟩
  simp [upd] at *
  grind
theorem LfI.o10 (h : LfI w0 base V1 V2 n L1 L2 X zn d0 d1 a b f y w) (hv : v = .int .i64 (zn - d0)) : LfI w0 base V1 V2 n L1 L2 X zn d0 d1 a b (fun k => decide (k = 10) || f k) (upd y 10 v) w := by
  obtain ⟨hC, hs, v1, m1, l1, v2, m2, l2, o1, o2, rest⟩ := h
  refine ⟨hC, hs, v1, m1, l1, v2, m2, l2, o1, o2, ?_⟩
  simp [upd] at *
  grind
theorem LfI.o11 (h : LfI w0 base V1 V2 n L1 L2 X zn d0 d1 a b f y w) (hv : v = .int .i64 a) : LfI w0 base V1 V2 n L1 L2 X zn d0 d1 a b (fun k => decide (k = 11) || f k) (upd y 11 v) w := by
  obtain ⟨hC, hs, v1, m1, l1, v2, m2, l2, o1, o2, rest⟩ := h
  refine ⟨hC, hs, v1, m1, l1, v2, m2, l2, o1, o2, ?_⟩
  simp [upd] at *
  grind
theorem LfI.o12 (h : LfI w0 base V1 V2 n L1 L2 X zn d0 d1 a b f y w) (hv : v = .int .i64 zn) : LfI w0 base V1 V2 n L1 L2 X zn d0 d1 a b (fun k => decide (k = 12) || f k) (upd y 12 v) w := by
  obtain ⟨hC, hs, v1, m1, l1, v2, m2, l2, o1, o2, rest⟩ := h
  refine ⟨hC, hs, v1, m1, l1, v2, m2, l2, o1, o2, ?_⟩
  simp [upd] at *
  grind
theorem LfI.o13 (h : LfI w0 base V1 V2 n L1 L2 X zn d0 d1 a b f y w) (hv : v = .pointer (some ⟨X, 2, none⟩)) : LfI w0 base V1 V2 n L1 L2 X zn d0 d1 a b (fun k => decide (k = 13) || f k) (upd y 13 v) w := by
  obtain ⟨hC, hs, v1, m1, l1, v2, m2, l2, o1, o2, rest⟩ := h
  refine ⟨hC, hs, v1, m1, l1, v2, m2, l2, o1, o2, ?_⟩
  simp [upd] at *
  grind
theorem LfI.o14 (h : LfI w0 base V1 V2 n L1 L2 X zn d0 d1 a b f y w) (hv : v = .pointer (some ⟨X, 3, none⟩)) : LfI w0 base V1 V2 n L1 L2 X zn d0 d1 a b (fun k => decide (k = 14) || f k) (upd y 14 v) w := by
  obtain ⟨hC, hs, v1, m1, l1, v2, m2, l2, o1, o2, rest⟩ := h
  refine ⟨hC, hs, v1, m1, l1, v2, m2, l2, o1, o2, ?_⟩
  simp [upd] at *
  grind
theorem LfI.o15 (h : LfI w0 base V1 V2 n L1 L2 X zn d0 d1 a b f y w) (hv : v = .int .u8 d1) : LfI w0 base V1 V2 n L1 L2 X zn d0 d1 a b (fun k => decide (k = 15) || f k) (upd y 15 v) w := by
  obtain ⟨hC, hs, v1, m1, l1, v2, m2, l2, o1, o2, rest⟩ := h
  refine ⟨hC, hs, v1, m1, l1, v2, m2, l2, o1, o2, ?_⟩
  simp [upd] at *
  grind
theorem LfI.o16 (h : LfI w0 base V1 V2 n L1 L2 X zn d0 d1 a b f y w) (hv : v = .int .i64 d1) : LfI w0 base V1 V2 n L1 L2 X zn d0 d1 a b (fun k => decide (k = 16) || f k) (upd y 16 v) w := by
  obtain ⟨hC, hs, v1, m1, l1, v2, m2, l2, o1, o2, rest⟩ := h
  refine ⟨hC, hs, v1, m1, l1, v2, m2, l2, o1, o2, ?_⟩
  simp [upd] at *
  grind
theorem LfI.o17 (h : LfI w0 base V1 V2 n L1 L2 X zn d0 d1 a b f y w) (hv : v = .int .i64 (zn + d1)) : LfI w0 base V1 V2 n L1 L2 X zn d0 d1 a b (fun k => decide (k = 17) || f k) (upd y 17 v) w := by
  obtain ⟨hC, hs, v1, m1, l1, v2, m2, l2, o1, o2, rest⟩ := h
  refine ⟨hC, hs, v1, m1, l1, v2, m2, l2, o1, o2, ?_⟩
  simp [upd] at *
  grind
theorem LfI.o18 (h : LfI w0 base V1 V2 n L1 L2 X zn d0 d1 a b f y w) (hv : v = .int .i64 b) : LfI w0 base V1 V2 n L1 L2 X zn d0 d1 a b (fun k => decide (k = 18) || f k) (upd y 18 v) w := by
  obtain ⟨hC, hs, v1, m1, l1, v2, m2, l2, o1, o2, rest⟩ := h
  refine ⟨hC, hs, v1, m1, l1, v2, m2, l2, o1, o2, ?_⟩
  simp [upd] at *
  grind
theorem LfI.o19 (h : LfI w0 base V1 V2 n L1 L2 X zn d0 d1 a b f y w) (hv : v = .agg #[.int .i64 a, .int .i64 b]) : LfI w0 base V1 V2 n L1 L2 X zn d0 d1 a b (fun k => decide (k = 19) || f k) (upd y 19 v) w := by
  obtain ⟨hC, hs, v1, m1, l1, v2, m2, l2, o1, o2, rest⟩ := h
  refine ⟨hC, hs, v1, m1, l1, v2, m2, l2, o1, o2, ?_⟩
  simp [upd] at *
  grind
theorem LfI.o22 (h : LfI w0 base V1 V2 n L1 L2 X zn d0 d1 a b f y w) (hf : f 3 = true) (hv : v = y 3) : LfI w0 base V1 V2 n L1 L2 X zn d0 d1 a b (fun k => decide (k = 22) || f k) (upd y 22 v) w := by
  obtain ⟨hC, hs, v1, m1, l1, v2, m2, l2, o1, o2, rest⟩ := h
  refine ⟨hC, hs, v1, m1, l1, v2, m2, l2, o1, o2, ?_⟩
  simp [upd] at *
  grind
theorem LfI.o23 (h : LfI w0 base V1 V2 n L1 L2 X zn d0 d1 a b f y w) (hf : f 21 = true) (hv : v = y 21) : LfI w0 base V1 V2 n L1 L2 X zn d0 d1 a b (fun k => decide (k = 23) || f k) (upd y 23 v) w := by
  obtain ⟨hC, hs, v1, m1, l1, v2, m2, l2, o1, o2, rest⟩ := h
  refine ⟨hC, hs, v1, m1, l1, v2, m2, l2, o1, o2, ?_⟩
  simp [upd] at *
  grind
theorem LfI.u0 (h : LfI w0 base V1 V2 n L1 L2 X zn d0 d1 a b f y w) : f 0 = true → y 0 = V1 := by
  obtain ⟨_, _, _, _, _, _, _, _, _, _, _, _, _, _, _, _, r⟩ := h
  exact r.1
theorem LfI.u1 (h : LfI w0 base V1 V2 n L1 L2 X zn d0 d1 a b f y w) : f 1 = true → y 1 = .int .i64 zn := by
  obtain ⟨_, _, _, _, _, _, _, _, _, _, _, _, _, _, _, _, r⟩ := h
  exact r.2.1
theorem LfI.u4 (h : LfI w0 base V1 V2 n L1 L2 X zn d0 d1 a b f y w) : f 4 = true → y 4 = V2 := by
  obtain ⟨_, _, _, _, _, _, _, _, _, _, _, _, _, _, _, _, r⟩ := h
  exact r.2.2.1
theorem LfI.u5 (h : LfI w0 base V1 V2 n L1 L2 X zn d0 d1 a b f y w) : f 5 = true → y 5 = .int .i64 zn := by
  obtain ⟨_, _, _, _, _, _, _, _, _, _, _, _, _, _, _, _, r⟩ := h
  exact r.2.2.2.1
theorem LfI.u6 (h : LfI w0 base V1 V2 n L1 L2 X zn d0 d1 a b f y w) : f 6 = true → y 6 = .pointer (some ⟨X, 2, none⟩) := by
  obtain ⟨_, _, _, _, _, _, _, _, _, _, _, _, _, _, _, _, r⟩ := h
  exact r.2.2.2.2.1
theorem LfI.u7 (h : LfI w0 base V1 V2 n L1 L2 X zn d0 d1 a b f y w) : f 7 = true → y 7 = .pointer (some ⟨X, 2, none⟩) := by
  obtain ⟨_, _, _, _, _, _, _, _, _, _, _, _, _, _, _, _, r⟩ := h
  exact r.2.2.2.2.2.1
theorem LfI.u8 (h : LfI w0 base V1 V2 n L1 L2 X zn d0 d1 a b f y w) : f 8 = true → y 8 = .int .u8 d0 := by
  obtain ⟨_, _, _, _, _, _, _, _, _, _, _, _, _, _, _, _, r⟩ := h
  exact r.2.2.2.2.2.2.1
theorem LfI.u9 (h : LfI w0 base V1 V2 n L1 L2 X zn d0 d1 a b f y w) : f 9 = true → y 9 = .int .i64 d0 := by
  obtain ⟨_, _, _, _, _, _, _, _, _, _, _, _, _, _, _, _, r⟩ := h
  exact r.2.2.2.2.2.2.2.1
theorem LfI.u10 (h : LfI w0 base V1 V2 n L1 L2 X zn d0 d1 a b f y w) : f 10 = true → y 10 = .int .i64 (zn - d0) := by
  obtain ⟨_, _, _, _, _, _, _, _, _, _, _, _, _, _, _, _, r⟩ := h
  exact r.2.2.2.2.2.2.2.2.1
theorem LfI.u11 (h : LfI w0 base V1 V2 n L1 L2 X zn d0 d1 a b f y w) : f 11 = true → y 11 = .int .i64 a := by
  obtain ⟨_, _, _, _, _, _, _, _, _, _, _, _, _, _, _, _, r⟩ := h
  exact r.2.2.2.2.2.2.2.2.2.1
theorem LfI.u12 (h : LfI w0 base V1 V2 n L1 L2 X zn d0 d1 a b f y w) : f 12 = true → y 12 = .int .i64 zn := by
  obtain ⟨_, _, _, _, _, _, _, _, _, _, _, _, _, _, _, _, r⟩ := h
  exact r.2.2.2.2.2.2.2.2.2.2.1
theorem LfI.u13 (h : LfI w0 base V1 V2 n L1 L2 X zn d0 d1 a b f y w) : f 13 = true → y 13 = .pointer (some ⟨X, 2, none⟩) := by
  obtain ⟨_, _, _, _, _, _, _, _, _, _, _, _, _, _, _, _, r⟩ := h
  exact r.2.2.2.2.2.2.2.2.2.2.2.1
theorem LfI.u14 (h : LfI w0 base V1 V2 n L1 L2 X zn d0 d1 a b f y w) : f 14 = true → y 14 = .pointer (some ⟨X, 3, none⟩) := by
  obtain ⟨_, _, _, _, _, _, _, _, _, _, _, _, _, _, _, _, r⟩ := h
  exact r.2.2.2.2.2.2.2.2.2.2.2.2.1
theorem LfI.u15 (h : LfI w0 base V1 V2 n L1 L2 X zn d0 d1 a b f y w) : f 15 = true → y 15 = .int .u8 d1 := by
  obtain ⟨_, _, _, _, _, _, _, _, _, _, _, _, _, _, _, _, r⟩ := h
  exact r.2.2.2.2.2.2.2.2.2.2.2.2.2.1
theorem LfI.u16 (h : LfI w0 base V1 V2 n L1 L2 X zn d0 d1 a b f y w) : f 16 = true → y 16 = .int .i64 d1 := by
  obtain ⟨_, _, _, _, _, _, _, _, _, _, _, _, _, _, _, _, r⟩ := h
  exact r.2.2.2.2.2.2.2.2.2.2.2.2.2.2.1
theorem LfI.u17 (h : LfI w0 base V1 V2 n L1 L2 X zn d0 d1 a b f y w) : f 17 = true → y 17 = .int .i64 (zn + d1) := by
  obtain ⟨_, _, _, _, _, _, _, _, _, _, _, _, _, _, _, _, r⟩ := h
  exact r.2.2.2.2.2.2.2.2.2.2.2.2.2.2.2.1
theorem LfI.u18 (h : LfI w0 base V1 V2 n L1 L2 X zn d0 d1 a b f y w) : f 18 = true → y 18 = .int .i64 b := by
  obtain ⟨_, _, _, _, _, _, _, _, _, _, _, _, _, _, _, _, r⟩ := h
  exact r.2.2.2.2.2.2.2.2.2.2.2.2.2.2.2.2.1
theorem LfI.u19 (h : LfI w0 base V1 V2 n L1 L2 X zn d0 d1 a b f y w) : f 19 = true → y 19 = .agg #[.int .i64 a, .int .i64 b] := by
  obtain ⟨_, _, _, _, _, _, _, _, _, _, _, _, _, _, _, _, r⟩ := h
  exact r.2.2.2.2.2.2.2.2.2.2.2.2.2.2.2.2.2.1
theorem LfI.v22 (h : LfI w0 base V1 V2 n L1 L2 X zn d0 d1 a b f y w) : f 22 = true → y 22 = y 3 := by
  obtain ⟨_, _, _, _, _, _, _, _, _, _, _, _, _, _, _, _, r⟩ := h
  exact r.2.2.2.2.2.2.2.2.2.2.2.2.2.2.2.2.2.2.1
theorem LfI.v23 (h : LfI w0 base V1 V2 n L1 L2 X zn d0 d1 a b f y w) : f 23 = true → y 23 = y 21 := by
  obtain ⟨_, _, _, _, _, _, _, _, _, _, _, _, _, _, _, _, r⟩ := h
  exact r.2.2.2.2.2.2.2.2.2.2.2.2.2.2.2.2.2.2.2.1
theorem LfI.c22 (h : LfI w0 base V1 V2 n L1 L2 X zn d0 d1 a b f y w) : f 22 = false → y 22 = V1 := by
  obtain ⟨_, _, _, _, _, _, _, _, _, _, _, _, _, _, _, _, r⟩ := h
  exact r.2.2.2.2.2.2.2.2.2.2.2.2.2.2.2.2.2.2.2.2.1
theorem LfI.c23 (h : LfI w0 base V1 V2 n L1 L2 X zn d0 d1 a b f y w) : f 23 = false → y 23 = V2 := by
  obtain ⟨_, _, _, _, _, _, _, _, _, _, _, _, _, _, _, _, r⟩ := h
  exact r.2.2.2.2.2.2.2.2.2.2.2.2.2.2.2.2.2.2.2.2.2.1
theorem LfI.q3 (h : LfI w0 base V1 V2 n L1 L2 X zn d0 d1 a b f y w) : f 3 = true → f 2 = true ∧ f 0 = true := by
  obtain ⟨_, _, _, _, _, _, _, _, _, _, _, _, _, _, _, _, r⟩ := h
  exact r.2.2.2.2.2.2.2.2.2.2.2.2.2.2.2.2.2.2.2.2.2.2.1
theorem LfI.q21 (h : LfI w0 base V1 V2 n L1 L2 X zn d0 d1 a b f y w) : f 21 = true → f 20 = true ∧ f 4 = true := by
  obtain ⟨_, _, _, _, _, _, _, _, _, _, _, _, _, _, _, _, r⟩ := h
  exact r.2.2.2.2.2.2.2.2.2.2.2.2.2.2.2.2.2.2.2.2.2.2.2.1
theorem LfI.q22 (h : LfI w0 base V1 V2 n L1 L2 X zn d0 d1 a b f y w) : f 22 = true → f 3 = true := by
  obtain ⟨_, _, _, _, _, _, _, _, _, _, _, _, _, _, _, _, r⟩ := h
  exact r.2.2.2.2.2.2.2.2.2.2.2.2.2.2.2.2.2.2.2.2.2.2.2.2.1
theorem LfI.q23 (h : LfI w0 base V1 V2 n L1 L2 X zn d0 d1 a b f y w) : f 23 = true → f 21 = true := by
  obtain ⟨_, _, _, _, _, _, _, _, _, _, _, _, _, _, _, _, r⟩ := h
  exact r.2.2.2.2.2.2.2.2.2.2.2.2.2.2.2.2.2.2.2.2.2.2.2.2.2
theorem LfI.z0 (h : LfI w0 base V1 V2 n L1 L2 X zn d0 d1 a b f y w) (hf : f 0 = false) : y 22 = V1 := by
  refine h.c22 ?_
  cases e : f 22 with
  | false => rfl
  | true => have := (h.q3 (h.q22 e)).2; rw [hf] at this; cases this
theorem LfI.z4 (h : LfI w0 base V1 V2 n L1 L2 X zn d0 d1 a b f y w) (hf : f 4 = false) : y 23 = V2 := by
  refine h.c23 ?_
  cases e : f 23 with
  | false => rfl
  | true => have := (h.q21 (h.q23 e)).2; rw [hf] at this; cases this
theorem LfI.o2 (h : LfI w0 base V1 V2 n L1 L2 X zn d0 d1 a b f y w) (hf : f 2 = false) (hv : v = .slice (some ⟨w.heap.size, 0, none⟩) 1 1) : LfI w0 base V1 V2 n L1 L2 X zn d0 d1 a b (fun k => decide (k = 2) || f k) (upd y 2 v) (w.alloc (.cells #[.int .i64 zn] 3)) := by
  have hA : Below w.heap.size w (w.alloc (.cells #[.int .i64 zn] 3)) := (Below.refl _ _).alloc (Nat.le_refl _) _
  obtain ⟨hC, hs, v1, m1, l1, v2, m2, l2, o1, o2, a1, a2, a3, a4, s1, s2, rest⟩ := h
  have hnew : ∃ g, v = .slice (some ⟨g, 0, none⟩) 1 1 ∧ Blk (w.alloc (.cells #[.int .i64 zn] 3)) g 3 #[.int .i64 zn] ∧ v1.ownBlock ≠ some g := ⟨_, hv, blkNew rfl, fun e => by have := (o1.lt _ e).2; omega⟩
  have q : (∃ g, y 20 = .slice (some ⟨g, 0, none⟩) 1 1 ∧ Blk w g 32 #[.int .i64 a, .int .i64 b] ∧ v2.ownBlock ≠ some g) → ∃ g, y 20 = .slice (some ⟨g, 0, none⟩) 1 1 ∧ Blk (w.alloc (.cells #[.int .i64 zn] 3)) g 32 #[.int .i64 a, .int .i64 b] ∧ v2.ownBlock ≠ some g := fun ⟨g, e, e2, e3⟩ => ⟨g, e, e2.below hA e2.lt, e3⟩
  replace s2 := fun x x' => q (s2 x x')
  refine ⟨hC.alloc hs _, Nat.le_trans hs hA.size, v1, m1, l1, v2, m2, l2, own_below o1 hA, own_below o2 hA, ?_⟩
  clear o1 o2 q hA hC hs hv s1
  generalize w.alloc (.cells #[.int .i64 zn] 3) = w2 at *
  simp [upd] at *
  grind
theorem LfI.o20 (h : LfI w0 base V1 V2 n L1 L2 X zn d0 d1 a b f y w) (hf : f 20 = false) (hv : v = .slice (some ⟨w.heap.size, 0, none⟩) 1 1) : LfI w0 base V1 V2 n L1 L2 X zn d0 d1 a b (fun k => decide (k = 20) || f k) (upd y 20 v) (w.alloc (.cells #[.int .i64 a, .int .i64 b] 32)) := by
  have hA : Below w.heap.size w (w.alloc (.cells #[.int .i64 a, .int .i64 b] 32)) := (Below.refl _ _).alloc (Nat.le_refl _) _
  obtain ⟨hC, hs, v1, m1, l1, v2, m2, l2, o1, o2, a1, a2, a3, a4, s1, s2, rest⟩ := h
  have hnew : ∃ g, v = .slice (some ⟨g, 0, none⟩) 1 1 ∧ Blk (w.alloc (.cells #[.int .i64 a, .int .i64 b] 32)) g 32 #[.int .i64 a, .int .i64 b] ∧ v2.ownBlock ≠ some g := ⟨_, hv, blkNew rfl, fun e => by have := (o2.lt _ e).2; omega⟩
  have q : (∃ g, y 2 = .slice (some ⟨g, 0, none⟩) 1 1 ∧ Blk w g 3 #[.int .i64 zn] ∧ v1.ownBlock ≠ some g) → ∃ g, y 2 = .slice (some ⟨g, 0, none⟩) 1 1 ∧ Blk (w.alloc (.cells #[.int .i64 a, .int .i64 b] 32)) g 3 #[.int .i64 zn] ∧ v1.ownBlock ≠ some g := fun ⟨g, e, e2, e3⟩ => ⟨g, e, e2.below hA e2.lt, e3⟩
  replace s1 := fun x x' => q (s1 x x')
  refine ⟨hC.alloc hs _, Nat.le_trans hs hA.size, v1, m1, l1, v2, m2, l2, own_below o1 hA, own_below o2 hA, ?_⟩
  clear o1 o2 q hA hC hs hv s2
  generalize w.alloc (.cells #[.int .i64 a, .int .i64 b] 32) = w2 at *
  simp [upd] at *
  grind
theorem LfI.g3 (h : LfI w0 base V1 V2 n L1 L2 X zn d0 d1 a b f y w) (hf : f 3 = false) (hf2 : f 2 = true) : OwnI w base V1 n L1 ∧ ∃ g, y 2 = .slice (some ⟨g, 0, none⟩) 1 1 ∧ Blk w g 3 #[.int .i64 zn] := by
  obtain ⟨hC, hs, v1, m1, l1, v2, m2, l2, o1, o2, a1, a2, a3, a4, s1, s2, rest⟩ := h
  obtain ⟨rfl, rfl, rfl⟩ := a1 hf
  obtain ⟨g, e, e2, _⟩ := s1 hf2 hf
  exact ⟨o1, g, e, e2⟩
theorem LfI.g21 (h : LfI w0 base V1 V2 n L1 L2 X zn d0 d1 a b f y w) (hf : f 21 = false) (hf2 : f 20 = true) : OwnS w base V2 n L2 ∧ ∃ g, y 20 = .slice (some ⟨g, 0, none⟩) 1 1 ∧ Blk w g 32 #[.int .i64 a, .int .i64 b] := by
  obtain ⟨hC, hs, v1, m1, l1, v2, m2, l2, o1, o2, a1, a2, a3, a4, s1, s2, rest⟩ := h
  obtain ⟨rfl, rfl, rfl⟩ := a3 hf
  obtain ⟨g, e, e2, _⟩ := s2 hf2 hf
  exact ⟨o2, g, e, e2⟩
theorem LfI.o3 (h : LfI w0 base V1 V2 n L1 L2 X zn d0 d1 a b f y w) (hf : f 3 = false) (hf2 : f 2 = true) (hf0 : f 0 = true) (ho : OwnI w' base v (n + 1) (L1 ++ [.int .i64 zn])) (hg : w.grownBy w' V1.ownBlock) : LfI w0 base V1 V2 n L1 L2 X zn d0 d1 a b (fun k => decide (k = 3) || f k) (upd y 3 v) w' := by
  obtain ⟨hC, hs, v1, m1, l1, v2, m2, l2, o1, o2, a1, a2, a3, a4, s1, s2, rest⟩ := h
  obtain ⟨e1, _, _⟩ := a1 hf
  rw [← e1] at hg
  have hlt := o1.lt
  have q : (∃ g, y 20 = .slice (some ⟨g, 0, none⟩) 1 1 ∧ Blk w g 32 #[.int .i64 a, .int .i64 b] ∧ v2.ownBlock ≠ some g) → ∃ g, y 20 = .slice (some ⟨g, 0, none⟩) 1 1 ∧ Blk w' g 32 #[.int .i64 a, .int .i64 b] ∧ v2.ownBlock ≠ some g := fun ⟨g, e, e2, e3⟩ => ⟨g, e, e2.grown hg (fun x => own_ne o1 e2 (by decide) x.symm), e3⟩
  replace s2 := fun x x' => q (s2 x x')
  refine ⟨hC.grown hg hs (fun k hk => (hlt k hk).1), Nat.le_trans hs hg.size, v, n + 1, L1 ++ [.int .i64 zn], v2, m2, l2, ho, o2.kept hg (own_types o2 o1 (by decide)), ?_⟩
  clear o1 o2 q hlt hC hs hg ho s1 e1
  simp [upd] at *
  grind
theorem LfI.o21 (h : LfI w0 base V1 V2 n L1 L2 X zn d0 d1 a b f y w) (hf : f 21 = false) (hf2 : f 20 = true) (hf0 : f 4 = true) (ho : OwnS w' base v (n + 1) (L2 ++ [.int .i64 a, .int .i64 b])) (hg : w.grownBy w' V2.ownBlock) : LfI w0 base V1 V2 n L1 L2 X zn d0 d1 a b (fun k => decide (k = 21) || f k) (upd y 21 v) w' := by
  obtain ⟨hC, hs, v1, m1, l1, v2, m2, l2, o1, o2, a1, a2, a3, a4, s1, s2, rest⟩ := h
  obtain ⟨e1, _, _⟩ := a3 hf
  rw [← e1] at hg
  have hlt := o2.lt
  have q : (∃ g, y 2 = .slice (some ⟨g, 0, none⟩) 1 1 ∧ Blk w g 3 #[.int .i64 zn] ∧ v1.ownBlock ≠ some g) → ∃ g, y 2 = .slice (some ⟨g, 0, none⟩) 1 1 ∧ Blk w' g 3 #[.int .i64 zn] ∧ v1.ownBlock ≠ some g := fun ⟨g, e, e2, e3⟩ => ⟨g, e, e2.grown hg (fun x => own_ne o2 e2 (by decide) x.symm), e3⟩
  replace s1 := fun x x' => q (s1 x x')
  refine ⟨hC.grown hg hs (fun k hk => (hlt k hk).1), Nat.le_trans hs hg.size, v1, m1, l1, v, n + 1, L2 ++ [.int .i64 a, .int .i64 b], o1.kept hg (own_types o1 o2 (by decide)), ho, ?_⟩
  clear o1 o2 q hlt hC hs hg ho s2 e1
  simp [upd] at *
  grind
theorem LfI.init (hs : base ≤ w.heap.size) (o1 : OwnI w base V1 n L1) (o2 : OwnS w base V2 n L2) (h22 : y 22 = V1) (h23 : y 23 = V2) : LfI w base V1 V2 n L1 L2 X zn d0 d1 a b (fun _ => false) y w := by
  refine ⟨Below.refl _ _, hs, V1, n, L1, V2, n, L2, o1, o2, ?_⟩
  simp [h22, h23]
theorem LfI.done (h : LfI w0 base V1 V2 n L1 L2 X zn d0 d1 a b f y w) (hf : ∀ k, k < 24 → f k = true) : Below base w0 w ∧ base ≤ w.heap.size ∧ OwnI w base (y 22) (n + 1) (L1 ++ [.int .i64 zn]) ∧ OwnS w base (y 23) (n + 1) (L2 ++ [.int .i64 a, .int .i64 b]) := by
  have e22 := h.v22 (hf 22 (by omega))
  have e23 := h.v23 (hf 23 (by omega))
  obtain ⟨hC, hs, v1, m1, l1, v2, m2, l2, o1, o2, a1, a2, a3, a4, s1, s2, rest⟩ := h
  obtain ⟨rfl, rfl, rfl⟩ := a2 (hf 3 (by omega))
  obtain ⟨rfl, rfl, rfl⟩ := a4 (hf 21 (by omega))
  rw [e22, e23]
  exact ⟨hC, hs, o1, o2⟩
end

/-- What the loop of events writes and what it leaves: the levels U in the block gL; the ranges rs of the start, and the numbers al of the instructors, in other ones, all below B. -/
structure LfW (B : Nat) (W : World) (gL gS : Nat) (AL : Option Addr) (n n2 : Nat) (U : List Int) (rs : List Sp) (al : List Int) : Prop where
  lev : InAt W gL U
  len : U.length = n
  sta : RdRow W (some ⟨gS, 0, none⟩) n 2 (rs.map tkCells)
  alw : RdInts W AL n2 al
  gl : gL < B
  gs : gS < B ∧ gS ≠ gL
  ga : ∀ b o, AL = some ⟨b, o, none⟩ → b < B ∧ b ≠ gL
section
variable {B : Nat} {W W' : World} {gL gS n n2 : Nat} {AL : Option Addr} {U : List Int} {rs : List Sp} {al : List Int}
theorem rdInts_keep {A : Option Addr} {k : Nat} {ls : List Int} (h : RdInts W A k ls) (hs : W.heap.size ≤ W'.heap.size) (hk : ∀ b o, A = some ⟨b, o, none⟩ → W'.heap[b]? = W.heap[b]?) : RdInts W' A k ls := by
  refine ⟨h.1, fun hn => ?_⟩
  obtain ⟨b, off, e, hb, hc⟩ := h.2 hn
  exact ⟨b, off, e, Nat.lt_of_lt_of_le hb hs, fun j hj => (World.cell?_of_block (a := ⟨b, off + j, none⟩) (hk b off e)).trans (hc j hj)⟩
theorem LfW.below (h : LfW B W gL gS AL n n2 U rs al) (hb : Below B W W') : LfW B W' gL gS AL n n2 U rs al :=
  ⟨h.lev.blk (hb.block gL h.gl), h.len, ⟨h.sta.1, h.sta.2.1, fun hn => by
    obtain ⟨b, off, e, hlt, hc⟩ := h.sta.2.2 hn
    simp only [Option.some.injEq, Addr.mk.injEq, and_true] at e
    obtain ⟨rfl, rfl⟩ := e
    exact ⟨gS, 0, rfl, Nat.lt_of_lt_of_le hlt hb.size, fun j i v hv => (hb.cell (p := ⟨gS, 0 + j * 2 + i, none⟩) h.gs.1).trans (hc j i v hv)⟩⟩,
   rdInts_keep h.alw hb.size fun b o e => hb.block b (h.ga b o e).1, h.gl, h.gs, h.ga⟩
theorem LfW.store (h : LfW B W gL gS AL n n2 U rs al) (k : Nat) (x : Int) : LfW B (W.setCell ⟨gL, k, none⟩ (.int .i64 x)) gL gS AL n n2 (U.set k x) rs al :=
  ⟨h.lev.set, by rw [List.length_set]; exact h.len, h.sta.far_ (p := ⟨gL, k, none⟩) (Ne.symm h.gs.2) _,
   rdInts_keep h.alw (by simp) fun b o e => Below.heap_setCell W ⟨gL, k, none⟩ _ b (h.ga b o e).2, h.gl, h.gs, h.ga⟩
end
/-- The region in which an event becomes a mark: what is known. -/
def YI (w0 : World) (G : Nat) (wk kk m q i ii : Int) (p2 v3 : Value) (f : Nat → Bool) (y : Nat → Value) (w : World) : Prop :=
  Below G w0 w ∧ G < w.heap.size ∧ Blk w G 78 #[.int .i64 wk, .int .i64 (bif f 7 then 1 else 0), .int .i64 kk, .int .i64 (bif f 9 then ii else 0), .int .i64 0] ∧
  (f 0 = true → y 0 = .int .i64 m) ∧ (f 1 = true → y 1 = .int .i64 q) ∧ (f 2 = true → y 2 = p2) ∧ (f 3 = true → y 3 = v3) ∧ (f 4 = true → y 4 = .int .i64 i) ∧ (f 5 = true → y 5 = .int .i64 ii) ∧ (f 6 = true → y 6 = .pointer (some ⟨G, 1, none⟩)) ∧ (f 8 = true → y 8 = .pointer (some ⟨G, 3, none⟩))
section
variable {w0 w : World} {G : Nat} {wk kk m q i ii : Int} {p2 v3 v : Value} {f : Nat → Bool} {y : Nat → Value}
theorem YI.o0 (h : YI w0 G wk kk m q i ii p2 v3 f y w) (hv : v = .int .i64 m) : YI w0 G wk kk m q i ii p2 v3 (fun k => decide (k = 0) || f k) (upd y 0 v) w := by
  obtain ⟨h1, h2, h3, r⟩ := h
  refine ⟨h1, h2, by simpa using h3, ?_⟩
  simp [upd] at *
  grind
theorem YI.u0 (h : YI w0 G wk kk m q i ii p2 v3 f y w) : f 0 = true → y 0 = .int .i64 m := by
  obtain ⟨_, _, _, r⟩ := h
  exact r.1
theorem YI.o1 (h : YI w0 G wk kk m q i ii p2 v3 f y w) (hv : v = .int .i64 q) : YI w0 G wk kk m q i ii p2 v3 (fun k => decide (k = 1) || f k) (upd y 1 v) w := by
  obtain ⟨h1, h2, h3, r⟩ := h
  refine ⟨h1, h2, by simpa using h3, ?_⟩
  simp [upd] at *
  grind
theorem YI.u1 (h : YI w0 G wk kk m q i ii p2 v3 f y w) : f 1 = true → y 1 = .int .i64 q := by
  obtain ⟨_, _, _, r⟩ := h
  exact r.2.1
theorem YI.o2 (h : YI w0 G wk kk m q i ii p2 v3 f y w) (hv : v = p2) : YI w0 G wk kk m q i ii p2 v3 (fun k => decide (k = 2) || f k) (upd y 2 v) w := by
  obtain ⟨h1, h2, h3, r⟩ := h
  refine ⟨h1, h2, by simpa using h3, ?_⟩
  simp [upd] at *
  grind
theorem YI.u2 (h : YI w0 G wk kk m q i ii p2 v3 f y w) : f 2 = true → y 2 = p2 := by
  obtain ⟨_, _, _, r⟩ := h
  exact r.2.2.1
theorem YI.o3 (h : YI w0 G wk kk m q i ii p2 v3 f y w) (hv : v = v3) : YI w0 G wk kk m q i ii p2 v3 (fun k => decide (k = 3) || f k) (upd y 3 v) w := by
  obtain ⟨h1, h2, h3, r⟩ := h
  refine ⟨h1, h2, by simpa using h3, ?_⟩
  simp [upd] at *
  grind
theorem YI.u3 (h : YI w0 G wk kk m q i ii p2 v3 f y w) : f 3 = true → y 3 = v3 := by
  obtain ⟨_, _, _, r⟩ := h
  exact r.2.2.2.1
theorem YI.o4 (h : YI w0 G wk kk m q i ii p2 v3 f y w) (hv : v = .int .i64 i) : YI w0 G wk kk m q i ii p2 v3 (fun k => decide (k = 4) || f k) (upd y 4 v) w := by
  obtain ⟨h1, h2, h3, r⟩ := h
  refine ⟨h1, h2, by simpa using h3, ?_⟩
  simp [upd] at *
  grind
theorem YI.u4 (h : YI w0 G wk kk m q i ii p2 v3 f y w) : f 4 = true → y 4 = .int .i64 i := by
  obtain ⟨_, _, _, r⟩ := h
  exact r.2.2.2.2.1
theorem YI.o5 (h : YI w0 G wk kk m q i ii p2 v3 f y w) (hv : v = .int .i64 ii) : YI w0 G wk kk m q i ii p2 v3 (fun k => decide (k = 5) || f k) (upd y 5 v) w := by
  obtain ⟨h1, h2, h3, r⟩ := h
  refine ⟨h1, h2, by simpa using h3, ?_⟩
  simp [upd] at *
  grind
theorem YI.u5 (h : YI w0 G wk kk m q i ii p2 v3 f y w) : f 5 = true → y 5 = .int .i64 ii := by
  obtain ⟨_, _, _, r⟩ := h
  exact r.2.2.2.2.2.1
theorem YI.o6 (h : YI w0 G wk kk m q i ii p2 v3 f y w) (hv : v = .pointer (some ⟨G, 1, none⟩)) : YI w0 G wk kk m q i ii p2 v3 (fun k => decide (k = 6) || f k) (upd y 6 v) w := by
  obtain ⟨h1, h2, h3, r⟩ := h
  refine ⟨h1, h2, by simpa using h3, ?_⟩
  simp [upd] at *
  grind
theorem YI.u6 (h : YI w0 G wk kk m q i ii p2 v3 f y w) : f 6 = true → y 6 = .pointer (some ⟨G, 1, none⟩) := by
  obtain ⟨_, _, _, r⟩ := h
  exact r.2.2.2.2.2.2.1
theorem YI.o8 (h : YI w0 G wk kk m q i ii p2 v3 f y w) (hv : v = .pointer (some ⟨G, 3, none⟩)) : YI w0 G wk kk m q i ii p2 v3 (fun k => decide (k = 8) || f k) (upd y 8 v) w := by
  obtain ⟨h1, h2, h3, r⟩ := h
  refine ⟨h1, h2, by simpa using h3, ?_⟩
  simp [upd] at *
  grind
theorem YI.u8 (h : YI w0 G wk kk m q i ii p2 v3 f y w) : f 8 = true → y 8 = .pointer (some ⟨G, 3, none⟩) := by
  obtain ⟨_, _, _, r⟩ := h
  exact r.2.2.2.2.2.2.2
theorem YI.o7 (h : YI w0 G wk kk m q i ii p2 v3 f y w) : YI w0 G wk kk m q i ii p2 v3 (fun k => decide (k = 7) || f k) (upd y 7 v) (w.setCell ⟨G, 1, none⟩ (.int .i64 1)) := by
  obtain ⟨h1, h2, h3, r⟩ := h
  refine ⟨h1.setCell (p := ⟨G, 1, none⟩) (Nat.le_refl _) _, by simpa using h2, by simpa using h3.set_ 1 (.int .i64 1), ?_⟩
  simp [upd] at *
  grind
theorem YI.o9 (h : YI w0 G wk kk m q i ii p2 v3 f y w) : YI w0 G wk kk m q i ii p2 v3 (fun k => decide (k = 9) || f k) (upd y 9 v) (w.setCell ⟨G, 3, none⟩ (.int .i64 ii)) := by
  obtain ⟨h1, h2, h3, r⟩ := h
  refine ⟨h1.setCell (p := ⟨G, 3, none⟩) (Nat.le_refl _) _, by simpa using h2, by simpa using h3.set_ 3 (.int .i64 ii), ?_⟩
  simp [upd] at *
  grind
theorem YI.init (h1 : Blk w G 78 #[.int .i64 wk, .int .i64 0, .int .i64 kk, .int .i64 0, .int .i64 0]) : YI w G wk kk m q i ii p2 v3 (fun _ => false) y w := ⟨Below.refl _ _, h1.lt, by simpa using h1, by simp⟩
end
theorem rdInts_own {w : World} {base n : Nat} {v : Value} {xs : List Int} (h : w.ownsRow base 3 1 v n (xs.map (Value.int .i64))) (hl : xs.length = n) : ∃ A c, v = .slice A n c ∧ RdInts w A n xs ∧ ∀ b o, A = some ⟨b, o, none⟩ → base ≤ b ∧ b < w.heap.size := by
  rcases Nat.eq_zero_or_pos n with h0 | h0
  · subst h0
    rcases h.2 with ⟨rfl, _⟩ | ⟨g, cap, cur, rfl, _⟩
    · exact ⟨none, 0, rfl, ⟨hl, fun h => absurd h (by omega)⟩, fun b o e => nomatch e⟩
    · exact ⟨_, cap, rfl, ⟨hl, fun h => absurd h (by omega)⟩, fun b o e => by
        simp only [Option.some.injEq, Addr.mk.injEq, and_true] at e
        obtain ⟨rfl, -⟩ := e
        exact h.lt g rfl⟩
  · obtain ⟨g, c, rfl, hg, hc, hI⟩ := inAt_own h hl h0
    have hr := hI.row
    rw [hl] at hr
    exact ⟨_, c, rfl, hr, fun b o e => by
      simp only [Option.some.injEq, Addr.mk.injEq, and_true] at e
      obtain ⟨rfl, -⟩ := e
      exact h.lt g rfl⟩
theorem flatEv_snoc (es : List Ev) (e : Ev) : (es ++ [e]).flatMap evCells = es.flatMap evCells ++ [.int .i64 e.a, .int .i64 e.b, .int .i64 e.c, .int .i64 e.d, .int .i64 e.e] := by
  rw [List.flatMap_append]; rfl
end Go.Proofs.Ytkhijdbigpaagaa
