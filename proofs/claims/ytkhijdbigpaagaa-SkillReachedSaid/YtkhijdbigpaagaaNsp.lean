import Derived.Test.YtkhijdbigpaagaaNa
import Derived.Test.YtkhijdbigpaagaaNli
import Derived.Test.YtkhijdbigpaagaaNe
import Derived.Test.YtkhijdbigpaagaaNk
import Derived.BigQuiet
import Derived.Test.YtkhijdbigpaagaaNwa
/-
  A region whose order Go leaves open, all but the last operations of which read: the walk kept in a box, so that nothing unfolds it ahead of its time (guards that are false).
-/
namespace Go.Proofs.Ytkhijdbigpaagaa
open Go.RowKit

/-- A box that no unfolding opens. -/
structure Bx (p : Prop) : Prop where
  out : p
theorem still_bx {P : Program} {ops : Array Oper} {w : World} {Q : Act → Prop} {a : Act} {o : Oper} {rest : List Oper}
    (h : ∀ K : Act → Prop, Bx (∀ a, Bx (wpStill P ops w Q rest a) → K a) → if Region.wanted o (yielded ops a.tmps) then o.still P a w K else K (a.put o.dst undef)) : Bx (wpStill P ops w Q (o :: rest) a) :=
  ⟨wpStill_step fun K hK => h K ⟨fun a ha => hK a ha.out⟩⟩
theorem still_bx_nil {P : Program} {ops : Array Oper} {w : World} {Q : Act → Prop} {a : Act} (h : Q a) : Bx (wpStill P ops w Q [] a) := ⟨wpStill_nil h⟩
theorem region_tailB {P : Program} {id : Nat} {Q : Exit → Act → World → Prop} {a : Act} {w : World} {l : List Oper} (n : Nat) (hm : P.follows .mixedOrders = true) (hB : Region.lexTailB .any l.toArray n = true)
    (h : Bx (wpStill P l.toArray w.drew (fun a' => wpList P l.toArray Q (l.drop n) a' w.drew) (l.take n) a)) : (Code.region id l.toArray true).wp P Q a w :=
  region_tail n hm hB h.out
end Go.Proofs.Ytkhijdbigpaagaa

/-
  SkillReached, the mathematics: one skill's levels followed alone; sets of levels, and what a range that is added makes of them.
-/
namespace Go.Proofs.Ytkhijdbigpaagaa
open Go.RowKit RG

/-- What some weeks make of the levels of one skill. -/
def waitO (s : Skl) : Nat → Option Sp → Option Sp
  | 0, q => q
  | m + 1, q => waitO s m (q.map (lowerS (fadeOf s)))
/-- What an event makes of the levels of the skill i. -/
def stepI (S : Sch) (i : Nat) (e : Ev) (q : Option Sp) : Option Sp :=
  if e.c = i then
    (if e.b = 1 then q.bind fun r => if (narrowS (behindS (biasOf (S.ins[e.d.toNat]?.getD default)) e.e) r).2 < (narrowS (behindS (biasOf (S.ins[e.d.toNat]?.getD default)) e.e) r).1 then none else some (narrowS (behindS (biasOf (S.ins[e.d.toNat]?.getD default)) e.e) r)
     else q.map (raiseS (gainOf (S.sks[i]?.getD default))))
  else q
def liveI (S : Sch) (wk : Int) (i : Nat) : List Ev → Int → Option Sp → Option Sp
  | [], now, q => waitO (S.sks[i]?.getD default) (wk - now).toNat q
  | e :: r, now, q => liveI S wk i r e.a (stepI S i e (waitO (S.sks[i]?.getD default) (e.a - now).toNat q))
theorem waitO_none (s : Skl) : ∀ m, waitO s m none = none
  | 0 => rfl
  | m + 1 => waitO_none s m
theorem stepI_none (S : Sch) (i : Nat) (e : Ev) : stepI S i e none = none := by
  unfold stepI; split <;> (try split) <;> rfl
theorem liveI_none (S : Sch) (wk : Int) (i : Nat) : ∀ (es : List Ev) (now : Int), liveI S wk i es now none = none
  | [], now => waitO_none _ _
  | e :: r, now => by
    show liveI S wk i r e.a (stepI S i e (waitO _ _ none)) = none
    rw [waitO_none, stepI_none]
    exact liveI_none S wk i r e.a
theorem waitN_comm (S : Sch) (rs : List Sp) : ∀ m, waitN S m (wait1 S rs) = wait1 S (waitN S m rs)
  | 0 => rfl
  | m + 1 => by show wait1 S (waitN S m (wait1 S rs)) = _; rw [waitN_comm S rs m]; rfl
theorem waitO_at (S : Sch) {i : Nat} : ∀ (m : Nat) (rs : List Sp), i < rs.length → waitO (S.sks[i]?.getD default) m (some (rs[i]?.getD (0, 0))) = some ((waitN S m rs)[i]?.getD (0, 0))
  | 0, rs, _ => rfl
  | m + 1, rs, h => by
    have := waitO_at S m (wait1 S rs) (by rw [wait1_len]; exact h)
    rw [wait1_at S rs h] at this
    show waitO _ m (some (lowerS _ _)) = some ((wait1 S (waitN S m rs))[i]?.getD (0, 0))
    rw [this, waitN_comm]
theorem stepI_at {S : Sch} {e : Ev} {rs T : List Sp} {c i : Nat} (hc : e.c = c) (hcl : c < rs.length) (hi : i < rs.length) (h : stepS S e rs = some T) : stepI S i e (some (rs[i]?.getD (0, 0))) = some (T[i]?.getD (0, 0)) ∧ T.length = rs.length := by
  unfold stepS at h
  unfold stepI
  have hct : e.c.toNat = c := by omega
  rw [hct] at h
  by_cases hb : e.b = 1
  · rw [if_pos hb] at h
    split at h
    · cases h
    · rename_i hn
      injection h with h
      subst h
      refine ⟨?_, by simp⟩
      by_cases hci : c = i
      · subst hci
        rw [if_pos hc, if_pos hb, List.getElem?_set_self hcl]
        simp only [Option.bind_some]
        rw [if_neg hn]; rfl
      · rw [if_neg (by omega), List.getElem?_set_ne hci]
  · rw [if_neg hb] at h
    injection h with h
    subst h
    refine ⟨?_, by simp⟩
    by_cases hci : c = i
    · subst hci
      rw [if_pos hc, if_neg hb, List.getElem?_set_self hcl]; rfl
    · rw [if_neg (by omega), List.getElem?_set_ne hci]
theorem stepI_bad {S : Sch} {e : Ev} {rs : List Sp} {c : Nat} (hc : e.c = c) (h : stepS S e rs = none) : stepI S c e (some (rs[c]?.getD (0, 0))) = none := by
  unfold stepS at h
  unfold stepI
  have hct : e.c.toNat = c := by omega
  rw [hct] at h
  by_cases hb : e.b = 1
  · rw [if_pos hb] at h
    split at h
    · rename_i hn
      rw [if_pos hc, if_pos hb]
      simp only [Option.bind_some]
      rw [if_pos hn]
    · cases h
  · rw [if_neg hb] at h; cases h
/-- Where there is a truth, each skill's range is that of its own levels. -/
theorem live_each {S : Sch} {wk : Int} {i : Nat} : ∀ {es : List Ev} {now : Int} {rs T : List Sp}, (∀ e ∈ es, ∃ c : Nat, e.c = c ∧ c < rs.length) → i < rs.length → liveS S wk es now rs = some T → liveI S wk i es now (some (rs[i]?.getD (0, 0))) = some (T[i]?.getD (0, 0))
  | [], now, rs, T, _, hi, h => by
    have h : some (waitN S (wk - now).toNat rs) = some T := h
    injection h with h
    subst h
    exact waitO_at S _ rs hi
  | e :: r, now, rs, T, he, hi, h => by
    have h : (stepS S e (waitN S (e.a - now).toNat rs)).bind (liveS S wk r e.a) = some T := h
    obtain ⟨c, hc, hcl⟩ := he e (List.mem_cons_self ..)
    cases hq : stepS S e (waitN S (e.a - now).toNat rs) with
    | none => rw [hq] at h; cases h
    | some Q =>
      rw [hq] at h
      have hw := waitN_len S (e.a - now).toNat rs
      obtain ⟨h1, h2⟩ := stepI_at hc (by omega) (show i < _ by omega) hq
      show liveI S wk i r e.a (stepI S i e (waitO _ _ _)) = _
      rw [waitO_at S _ rs hi, h1]
      exact live_each (fun x hx => by rw [h2, hw]; exact he x (List.mem_cons_of_mem _ hx)) (by omega) h
/-- Where there is none, some skill has no level left. -/
theorem live_none {S : Sch} {wk : Int} : ∀ {es : List Ev} {now : Int} {rs : List Sp}, (∀ e ∈ es, ∃ c : Nat, e.c = c ∧ c < rs.length) → liveS S wk es now rs = none → ∃ i, i < rs.length ∧ liveI S wk i es now (some (rs[i]?.getD (0, 0))) = none
  | [], now, rs, _, h => by
    have h : some (waitN S (wk - now).toNat rs) = none := h
    cases h
  | e :: r, now, rs, he, h => by
    have h : (stepS S e (waitN S (e.a - now).toNat rs)).bind (liveS S wk r e.a) = none := h
    obtain ⟨c, hc, hcl⟩ := he e (List.mem_cons_self ..)
    have hw := waitN_len S (e.a - now).toNat rs
    cases hq : stepS S e (waitN S (e.a - now).toNat rs) with
    | none =>
      refine ⟨c, hcl, ?_⟩
      show liveI S wk c r e.a (stepI S c e (waitO _ _ _)) = none
      rw [waitO_at S _ rs hcl, stepI_bad hc hq]
      exact liveI_none _ _ _ _ _
    | some Q =>
      rw [hq] at h
      have h2 := (stepI_at hc (by omega) (show c < _ by omega) hq).2
      obtain ⟨i, hi, h3⟩ := live_none (fun x hx => by rw [h2, hw]; exact he x (List.mem_cons_of_mem _ hx)) h
      refine ⟨i, by omega, ?_⟩
      show liveI S wk i r e.a (stepI S i e (waitO _ _ _)) = none
      rw [waitO_at S _ rs (by omega), (stepI_at hc (by omega) (by omega) hq).1]
      exact h3
/-- A week before an event, and before the last week. -/
theorem liveI_week (S : Sch) {wk : Int} (i : Nat) {e : Ev} {r : List Ev} {now : Int} (q : Option Sp) (h : now < e.a) : liveI S wk i (e :: r) now q = liveI S wk i (e :: r) (now + 1) (q.map (lowerS (fadeOf (S.sks[i]?.getD default)))) := by
  show liveI S wk i r e.a (stepI S i e (waitO _ _ q)) = liveI S wk i r e.a (stepI S i e (waitO _ _ _))
  rw [show (e.a - now).toNat = (e.a - (now + 1)).toNat + 1 by omega]
  rfl
theorem liveI_last (S : Sch) {wk : Int} (i : Nat) {now : Int} (q : Option Sp) (h : now < wk) : liveI S wk i [] now q = liveI S wk i [] (now + 1) (q.map (lowerS (fadeOf (S.sks[i]?.getD default)))) := by
  show waitO _ _ q = waitO _ _ _
  rw [show (wk - now).toNat = (wk - (now + 1)).toNat + 1 by omega]
  rfl
theorem liveI_end (S : Sch) {wk : Int} (i : Nat) {now : Int} (q : Option Sp) (h : wk ≤ now) : liveI S wk i [] now q = q := by
  show waitO _ _ q = q
  rw [show (wk - now).toNat = 0 by omega]
  rfl
theorem liveI_ev (S : Sch) {wk : Int} (i : Nat) {e : Ev} {r : List Ev} {now : Int} (q : Option Sp) (h : e.a = now) : liveI S wk i (e :: r) now q = liveI S wk i r now (stepI S i e q) := by
  show liveI S wk i r e.a (stepI S i e (waitO _ _ q)) = _
  rw [show (e.a - now).toNat = 0 by omega, h]
  rfl

/-- The set of the levels of a range, or of none. -/
def indB (q : Option Sp) (n : Nat) : Bool := match q with
  | none => false
  | some r => decide (r.1 ≤ (n : Int)) && decide ((n : Int) ≤ r.2)
def okO' (q : Option Sp) : Prop := ∀ r, q = some r → okS r
theorem indB_iff {r : Sp} {n : Nat} : indB (some r) n = true ↔ r.1 ≤ (n : Int) ∧ (n : Int) ≤ r.2 := by simp [indB]
theorem cnt_step (s : Nat → Bool) : ∀ {a b : Nat}, a ≤ b → cnt s a ≤ cnt s b := by
  intro a b h
  induction h with
  | refl => exact Nat.le_refl _
  | step _ ih => exact Nat.le_trans ih (by simp only [cnt]; omega)
theorem cnt_lt_iff {s : Nat → Bool} {a : Nat} : ∀ {b : Nat}, a ≤ b → (cnt s a < cnt s b ↔ ∃ l, a ≤ l ∧ l < b ∧ s l = true) := by
  intro b h
  induction h with
  | refl => exact ⟨fun h => absurd h (Nat.lt_irrefl _), fun ⟨l, h1, h2, _⟩ => by omega⟩
  | @step b hb ih =>
    simp only [cnt]
    have hm := cnt_step s hb
    by_cases hs : s b = true
    · rw [if_pos hs]
      exact ⟨fun _ => ⟨b, hb, by omega, hs⟩, fun _ => by omega⟩
    · rw [if_neg hs, Nat.add_zero, ih]
      constructor
      · rintro ⟨l, h1, h2, h3⟩; exact ⟨l, h1, by omega, h3⟩
      · rintro ⟨l, h1, h2, h3⟩
        have : l ≠ b := fun e => hs (e ▸ h3)
        exact ⟨l, h1, by omega, h3⟩
/-- From which levels a number of a range leads to n. -/
def lowA (hi n : Int) : Int := max 0 (if n = 0 then 0 else n - hi)
def highA (lo n : Int) : Int := min 1000 (if n = 1000 then 1000 else n - lo)
def sprB (s : Nat → Bool) (lo hi : Int) (n : Nat) : Bool := decide (lowA hi n ≤ highA lo n) && decide (cnt s (lowA hi n).toNat < cnt s (highA lo n + 1).toNat)
theorem sprB_ind {q : Option Sp} {lo hi : Int} {n : Nat} (hq : okO' q) (hl : lo ≤ hi) (hn : n ≤ 1000) : sprB (indB q) lo hi n = indB (q.map (raiseS (lo, hi))) n := by
  have key : sprB (indB q) lo hi n = true ↔ ∃ l : Nat, lowA hi n ≤ l ∧ (l : Int) ≤ highA lo n ∧ indB q l = true := by
    unfold sprB
    rw [Bool.and_eq_true, decide_eq_true_iff, decide_eq_true_iff]
    have h0 : 0 ≤ lowA hi n := by unfold lowA; omega
    constructor
    · rintro ⟨h1, h2⟩
      obtain ⟨l, h3, h4, h5⟩ := (cnt_lt_iff (by omega)).1 h2
      exact ⟨l, by omega, by omega, h5⟩
    · rintro ⟨l, h1, h2, h3⟩
      exact ⟨by omega, (cnt_lt_iff (by omega)).2 ⟨l, by omega, by omega, h3⟩⟩
  rw [Bool.eq_iff_iff, key]
  cases q with
  | none => simp [indB]
  | some r =>
    have hr := hq r rfl
    unfold okS at hr
    rw [Option.map_some, indB_iff]
    simp only [indB_iff]
    unfold raiseS lim
    simp only
    unfold lowA highA
    constructor
    · rintro ⟨l, h1, h2, h3, h4⟩
      split at h1 <;> split at h2 <;> omega
    · rintro ⟨h1, h2⟩
      refine ⟨(max r.1 (max 0 (if (n : Int) = 0 then 0 else n - hi))).toNat, ?_, ?_, ?_, ?_⟩
      all_goals
        split <;> (try split) <;> omega
theorem lower_raise (f r : Sp) : lowerS f r = raiseS (-f.2, -f.1) r := by
  unfold lowerS raiseS
  simp only [Int.sub_eq_add_neg]
/-- What a mark leaves of a set. -/
def cutB (b : Sp) (m : Int) (s : Nat → Bool) (n : Nat) : Bool := s n && (decide (lim ((n : Int) + b.1) ≤ m) && decide (m ≤ lim ((n : Int) + b.2)))
theorem cutB_ind {q : Option Sp} {b : Sp} {m : Int} (hq : okO' q) (hm : 0 ≤ m ∧ m ≤ 1000) {n : Nat} (hn : n ≤ 1000) :
    cutB b m (indB q) n = indB (q.bind fun r => if (narrowS (behindS b m) r).2 < (narrowS (behindS b m) r).1 then none else some (narrowS (behindS b m) r)) n := by
  cases q with
  | none => simp [cutB, indB]
  | some r =>
    have h1 := behind_iff (b := b) (m := m) (l := (n : Int)) hm
    have h2 := narrow_iff (b := behindS b m) (r := r) (n : Int)
    rw [Option.bind_some]
    have h3 : cutB b m (indB (some r)) n = true ↔ inS (narrowS (behindS b m) r) n := by
      rw [h2, h1]
      unfold cutB inS
      rw [Bool.and_eq_true, Bool.and_eq_true, indB_iff, decide_eq_true_iff, decide_eq_true_iff]
      constructor
      · rintro ⟨a, b, c⟩; exact ⟨a, by omega, b, c⟩
      · rintro ⟨a, _, b, c⟩; exact ⟨a, b, c⟩
    rw [Bool.eq_iff_iff, h3]
    split
    · rename_i h
      unfold inS
      constructor
      · intro h'; omega
      · intro h'; simp [indB] at h'
    · rw [indB_iff]; rfl
theorem okO_lower {S : Sch} (hck : (checkS S).2.2 = 0) {i : Nat} (hi : i < S.sks.length) {q : Option Sp} (hq : okO' q) : okO' (q.map (lowerS (fadeOf (S.sks[i]?.getD default)))) := by
  intro r hr
  cases q with
  | none => cases hr
  | some p => injection hr with hr; subst hr; exact lower_ok (sks_ok hck i hi).1 (hq p rfl)
theorem okO_step {S : Sch} (hck : (checkS S).2.2 = 0) {i : Nat} (hi : i < S.sks.length) {q : Option Sp} (e : Ev) (hq : okO' q) : okO' (stepI S i e q) := by
  intro r hr
  unfold stepI at hr
  cases q with
  | none => split at hr <;> (try split at hr) <;> cases hr
  | some p =>
    split at hr
    · split at hr
      · simp only [Option.bind_some] at hr
        split at hr
        · cases hr
        · rename_i hn
          injection hr with hr; subst hr
          exact narrow_ok (hq p rfl) (by omega)
      · injection hr with hr; subst hr; exact raise_ok (sks_ok hck i hi).2 (hq p rfl)
    · exact hq r hr
/-- The least and the greatest of the first n numbers of a set; -1 if there is none. -/
def leastB (s : Nat → Bool) : Nat → Int
  | 0 => -1
  | n + 1 => if leastB s n < 0 ∧ s n = true then n else leastB s n
def mostB (s : Nat → Bool) : Nat → Int
  | 0 => -1
  | n + 1 => if s n = true then n else mostB s n
theorem ends_none : ∀ n, leastB (indB none) n = -1 ∧ mostB (indB none) n = -1
  | 0 => ⟨rfl, rfl⟩
  | n + 1 => by
    obtain ⟨h1, h2⟩ := ends_none n
    unfold leastB mostB
    rw [if_neg (by simp [indB]), if_neg (by simp [indB])]
    exact ⟨h1, h2⟩
theorem ends_at {r : Sp} (hr : okS r) : ∀ n : Nat, leastB (indB (some r)) n = (if r.1 < n then r.1 else -1) ∧ mostB (indB (some r)) n = (if r.1 < n then min r.2 (n - 1) else -1)
  | 0 => by unfold okS at hr; unfold leastB mostB; rw [if_neg (by omega), if_neg (by omega)]; exact ⟨rfl, rfl⟩
  | n + 1 => by
    obtain ⟨h1, h2⟩ := ends_at hr n
    unfold okS at hr
    unfold leastB mostB
    simp only [indB_iff, h1, h2]
    constructor
    · repeat' split
      all_goals omega
    · repeat' split
      all_goals omega
theorem ends_ind {r : Sp} (hr : okS r) : leastB (indB (some r)) 1001 = r.1 ∧ mostB (indB (some r)) 1001 = r.2 := by
  obtain ⟨h1, h2⟩ := ends_at hr 1001
  unfold okS at hr
  rw [h1, h2, if_pos (by omega), if_pos (by omega)]
  exact ⟨rfl, by omega⟩
end Go.Proofs.Ytkhijdbigpaagaa

/-
  The contract of the laws' 'spread': sets of levels in memory.
-/
namespace Go.Proofs.Ytkhijdbigpaagaa
open Go.RowKit RG

/-- The cells of a set of levels. -/
def setC (s : Nat → Bool) : Array Value := (Array.range 1001).map fun i => Value.bool (s i)
theorem setC_size (s : Nat → Bool) : (setC s).size = 1001 := by simp [setC]
theorem setC_get (s : Nat → Bool) {i : Nat} (hi : i ≤ 1000) : (setC s)[i]? = some (.bool (s i)) := by
  unfold setC
  rw [Array.getElem?_map, Array.getElem?_range, if_pos (by omega)]; rfl
theorem setC_out (s : Nat → Bool) {i : Nat} (hi : ¬ i ≤ 1000) : (setC s)[i]? = none := by
  rw [Array.getElem?_eq_none (by rw [setC_size]; omega)]
theorem setC_ext {s : Nat → Bool} {a : Array Value} (hs : a.size = 1001) (h : ∀ i, i ≤ 1000 → a[i]? = some (.bool (s i))) : a = setC s := by
  apply Array.ext_getElem?
  intro i
  by_cases hi : i ≤ 1000
  · rw [h i hi, setC_get s hi]
  · rw [setC_out s hi, Array.getElem?_eq_none (by omega)]
theorem setC_congr {s t : Nat → Bool} (h : ∀ i, i ≤ 1000 → s i = t i) : setC s = setC t :=
  setC_ext (setC_size s) fun i hi => by rw [setC_get s hi, h i hi]
theorem setC_set (s : Nat → Bool) {i : Nat} (hi : i ≤ 1000) (b : Bool) : (setC s).setIfInBounds i (.bool b) = setC fun k => if k = i then b else s k := by
  refine setC_ext (by simp [setC_size]) fun k hk => ?_
  rw [Array.getElem?_setIfInBounds]
  by_cases e : i = k
  · subst e
    rw [if_pos rfl, if_pos (by rw [setC_size]; omega), if_pos rfl]
  · rw [if_neg e, setC_get s hk, if_neg (by omega)]
theorem infoBool : (Try.prog.info? 4).map (fun i => (i.zero, i.size, i.bytes)) = some (some (.bool false), 1, 1) := by kernel_rfl
theorem mk_set (w : World) : (Instr.makeSlice 74 (.int .i64 1001) (.int .i64 1001)).run Try.prog w = .ok (.slice (some ⟨w.heap.size, 0, none⟩) 1001 1001) (w.alloc (.cells (setC fun _ => false) 4)) := by
  obtain ⟨i, hi, hz, hs, hb⟩ := info_parts infoBool
  have hr := run_make (P := Try.prog) w 74 4 i (.bool false) Try.underlying74 hi hz .i64 .i64 1001 1001 (by omega) (by omega) (by rw [hb]; omega) (by omega)
  rw [hr, hs]
  have hm : madeCells (Value.bool false).cells ((1001 : Int).toNat * 1) = setC fun _ => false := by
    refine setC_ext ?_ fun k hk => ?_
    · simp [madeCells]
    · have e1 : (1001 : Int).toNat * 1 = 1001 := rfl
      rw [e1]
      unfold madeCells
      rw [Array.getElem?_map, Array.getElem?_range, if_pos (by omega)]
      simp [Value.cells, Nat.mod_one]
  rw [hm]
  rfl
/-- The numbers of how many before each level are in the set. -/
def cntL (s : Nat → Bool) (n : Nat) : List Value := (List.range n).map fun k => Value.int .i64 (cnt s k)
theorem cntL_succ (s : Nat → Bool) (n : Nat) : cntL s (n + 1) = cntL s n ++ [.int .i64 (cnt s n)] := by
  unfold cntL; rw [List.range_succ, List.map_append]; rfl
theorem cntL_len (s : Nat → Bool) (n : Nat) : (cntL s n).length = n := by simp [cntL]
theorem cntL_get (s : Nat → Bool) {n k : Nat} (h : k < n) : (cntL s n)[k]? = some (.int .i64 (cnt s k)) := by
  unfold cntL; rw [List.getElem?_map, List.getElem?_range h]; rfl
/-- An own row of them, cell by cell. -/
theorem own_cnt {w : World} {base : Nat} {v : Value} {s : Nat → Bool} {n : Nat} (h : w.ownsRow base 3 1 v n (cntL s n)) (h1 : 1 ≤ n) :
    ∃ g cap cur, v = .slice (some ⟨g, 0, none⟩) n cap ∧ base ≤ g ∧ Blk w g 3 cur ∧ n ≤ cap ∧ ∀ k, k < n → cur[k]? = some (.int .i64 (cnt s k)) := by
  rcases h.2 with ⟨_, h0⟩ | ⟨g, cap, cur, e, hb, hg, hc, _, hs, ht⟩
  · omega
  · refine ⟨g, cap, cur, e, hb, hg, hc, fun k hk => ?_⟩
    have h2 := cntL_get s hk
    rw [← ht, List.getElem?_take_of_lt (by omega)] at h2
    simpa using h2
theorem own_first (w : World) (base g : Nat) (s : Nat → Bool) (hb : base ≤ w.heap.size) (hg : g = w.heap.size) : (w.alloc (.cells #[.int .i64 0] 3)).ownsRow base 3 1 (.slice (some ⟨g, 0, none⟩) 1 1) 1 (cntL s 1) := by
  subst hg
  exact ⟨by simp [cntL], .inr ⟨w.heap.size, 1, #[.int .i64 0], rfl, hb, heap_alloc_new w _, Nat.le_refl _, by unfold maxLen; omega, rfl, by simp [cntL, cnt]⟩⟩

set_option maxRecDepth 100000 in
set_option maxHeartbeats 4000000 in
theorem spread_any (g : Nat) (lo hi : Int) (s : Nat → Bool) (w : World) (hb : Blk w g 4 (setC s)) (hr : -1000 ≤ lo ∧ lo ≤ hi ∧ hi ≤ 1000) :
    Calls Try.prog 45 #[.slice (some ⟨g, 0, none⟩) 1001 1001, .agg #[.int .i64 lo, .int .i64 hi]] w fun e w' =>
      (∃ g', e = .returned (.slice (some ⟨g', 0, none⟩) 1001 1001) ∧ Blk w' g' 4 (setC (sprB s lo hi)) ∧ w.heap.size ≤ g') ∧ Below w.heap.size w w' := by
  obtain ⟨i0, hi0, hz0, hz1, hz2⟩ := info_parts infoInt
  replace hi0 := hide hi0
  replace hz0 := hide hz0
  replace hz1 := hide hz1
  replace hz2 := hide hz2
  have hgl := hb.lt
  have hset := hide (fun W i (hB : Below w.heap.size w W) (hi : i ≤ 1000) => show W.cell? ⟨g, i, none⟩ = some (.bool (s i)) by rw [(hb.below hB hgl).cell, setC_get s hi])
  clear hb
  obtain ⟨w1, hw1⟩ : ∃ w1, w.alloc (.cells #[.int .i64 lo, .int .i64 hi] 32) = w1 := ⟨_, rfl⟩
  have kb := hide (show Blk w1 w.heap.size 32 #[.int .i64 lo, .int .i64 hi] by rw [← hw1]; exact blkNew rfl)
  have hB1 := hide (show Below w.heap.size w w1 by rw [← hw1]; exact (Below.refl _ _).alloc (Nat.le_refl _) _)
  have hsz := hide (show w1.heap.size = w.heap.size + 1 by rw [← hw1]; simp)
  have ho0 := hide (own_first w1 w1.heap.size (w.heap.size + 1) s (Nat.le_refl _) hsz.out.symm)
  have hBa := hide ((Below.refl w1.heap.size w1).alloc (Nat.le_refl _) (.cells #[.int .i64 0] 3))
  replace hw1 := hide hw1
  replace hr := hide hr
  go_enter Try.func45, Try.ntmps45
  go_wp2
  rw [hw1.out]
  go_loopg [5, 6] 1001 (fun gg s5 s6 wr => ∃ i : Nat, i ≤ 1001 ∧ 1001 ≤ gg + i ∧ s6 = .int .i64 i ∧ Hid (Below w1.heap.size w1 wr) ∧ Hid (wr.ownsRow w1.heap.size 3 1 s5 (i + 1) (cntL s (i + 1))))
  case atStart => exact ⟨0, by omega, by omega, rfl, hBa.out, ho0.out⟩
  case round =>
    clear ho0 hBa
    obtain ⟨i, hi2, hgg, rfl, hBr, ho⟩ := hrel
    obtain ⟨g5, cap, cur, rfl, hg5, hcur, hcap, hcs⟩ := own_cnt ho.out (by omega)
    by_cases hlt : i ≤ 1000
    · have hltz : (i : Int) ≤ 1000 := by omega
      have hi0z : (0 : Int) ≤ (i : Int) := by omega
      obtain ⟨N, hN⟩ : ∃ N, i + 1 = N := ⟨_, rfl⟩
      have hsn := hide (cntL_succ s N)
      have hcn := hide (show cnt s N = cnt s i + if s i = true then 1 else 0 by rw [← hN]; rfl)
      have c0 : wr.cell? ⟨g5, i, none⟩ = some (.int .i64 (cnt s i : Int)) := by rw [hcur.cell, hcs i (by omega)]
      have c1 := hset.out wr i (hB1.out.trans (hBr.out.mono hB1.out.size)) hlt
      have hcb := cnt_le s i
      rw [hN] at ho hcap ⊢
      have hiN : (i : Int) < (N : Int) := by omega
      have hsr := hBr.out.size
      have hsrr := hide hsr
      have hNb := hide (show N ≤ 1001 ∧ N = i + 1 by omega)
      replace hN := hide hN
      clear hcs hcur
      obtain ⟨m, hm⟩ : ∃ m : Nat, cnt s i = m := ⟨_, rfl⟩
      rw [hm] at c0 hcn hcb
      replace hm := hide hm
      have hwm : IntKind.i64.wrap ((m : Int) + 1) = (m : Int) + 1 := by rw [IntKind.wrap_i64]; omega
      cases hsi : s i
      · rw [hsi] at c1 hcn
        replace hcn : Hid (cnt s N = m) := hide (by rw [hcn.out]; simp)
        rw [hcn.out] at hsn
        clear hsi
        go_wp2_with (at_builtin; go_loud (refine wpList_append_own _ rfl _ _ 49 rfl w1.heap.size 3 i0 (.int .i64 0) 1 8 Try.underlying49 hi0.out hz0.out hz1.out hz2.out rfl (by decide) _ _ _ rfl (ho.out.alloc _) ⟨wr.heap.size, 0, none⟩ 1 1 [.int .i64 m] rfl rfl (cell_one_new _ _ _) (by simp [Value.oneCell']) (by have h1 := hNb.out; unfold maxLen; omega) (by have h1 := hNb.out; omega) (by simp; have h1 := hsrr.out; omega) ?_); intro v' w7 hown7 hgrow7 _)
        have hB7 := hide ((hBr.out.alloc hsr (.cells #[.int .i64 m] 3)).grown hgrow7 (by simp; have h1 := hsrr.out; omega) (fun k hk => (ho.out.lt k hk).1))
        replace hown7 := hide hown7
        clear hgrow7 ho c0 c1
        go_wp2
        go_roundg (1001 - N)
        case measure => have := hN.out; omega
        case rel =>
          refine ⟨N, by have := hN.out; omega, by have := hN.out; omega, by have := hN.out; go_num, hB7.out, ?_⟩
          unfold Hid
          rw [hsn.out]
          exact hown7.out
      · rw [hsi] at c1 hcn
        replace hcn : Hid (cnt s N = m + 1) := hide (by rw [hcn.out]; simp)
        rw [hcn.out] at hsn
        clear hsi
        go_wp2_with (at_builtin; go_loud (refine wpList_append_own _ rfl _ _ 49 rfl w1.heap.size 3 i0 (.int .i64 0) 1 8 Try.underlying49 hi0.out hz0.out hz1.out hz2.out rfl (by decide) _ _ _ rfl (ho.out.alloc _) ⟨wr.heap.size, 0, none⟩ 1 1 [.int .i64 (((m : Int) + 1))] rfl rfl (cell_one_new _ _ _) (by simp [Value.oneCell']) (by have h1 := hNb.out; unfold maxLen; omega) (by have h1 := hNb.out; omega) (by simp; have h1 := hsrr.out; omega) ?_); intro v' w7 hown7 hgrow7 _)
        have hB7 := hide ((hBr.out.alloc hsr (.cells #[.int .i64 (((m : Int) + 1))] 3)).grown hgrow7 (by simp; have h1 := hsrr.out; omega) (fun k hk => (ho.out.lt k hk).1))
        replace hown7 := hide hown7
        clear hgrow7 ho c0 c1
        go_wp2
        go_roundg (1001 - N)
        case measure => have := hN.out; omega
        case rel =>
          refine ⟨N, by have := hN.out; omega, by have := hN.out; omega, by have := hN.out; go_num, hB7.out, ?_⟩
          unfold Hid
          rw [hsn.out]
          exact hown7.out
    · have hltz : ¬ (i : Int) ≤ 1000 := by omega
      obtain rfl : i = 1001 := by omega
      have hBw := hide (hB1.out.trans (hBr.out.mono hB1.out.size))
      have kb2 := hide (kb.out.below hBr.out (by have := hsz.out; omega))
      have hcs' := hide hcs
      have hcur' := hide hcur
      have hgg5 := hcur.lt
      have hmk := mk_set wr
      have hsw := hBw.out.size
      have hs1 := hsz.out
      have hg5w : w.heap.size < g5 := by omega
      have hbl1 : Blk (wr.alloc (.cells (setC fun _ => false) 4)) wr.heap.size 4 (setC fun k => decide (k < 0) && sprB s lo hi k) := by
        rw [setC_congr (s := fun k => decide (k < 0) && sprB s lo hi k) (t := fun _ => false) (fun k _ => by simp)]
        exact blkNew rfl
      have hbl := hide hbl1
      have kb3 := hide (kb2.out.alloc (.cells (setC fun _ => false) 4))
      have hcur3 := hide (hcur'.out.alloc (.cells (setC fun _ => false) 4))
      have hB3 := hide (hBw.out.alloc hsw (.cells (setC fun _ => false) 4))
      clear hcs hcur hcur' kb kb2 ho hbl1 hBr hBw
      obtain ⟨w2, hw2⟩ : ∃ w2, wr.alloc (.cells (setC fun _ => false) 4) = w2 := ⟨_, rfl⟩
      obtain ⟨gO, hgO⟩ : ∃ gO, wr.heap.size = gO := ⟨_, rfl⟩
      rw [hw2, hgO] at hmk hbl
      rw [hw2] at kb3 hcur3 hB3
      rw [hgO] at hgg5
      have hgOw : w.heap.size < gO := by omega
      replace hw2 := hide hw2
      replace hgO := hide hgO
      replace hcap := hide hcap
      go_wp2
      clear hmk
      go_loopg [9] 1001 (fun gg s9 wr => ∃ i : Nat, i ≤ 1001 ∧ 1001 ≤ gg + i ∧ s9 = .int .i64 i ∧ Hid (Below w.heap.size w wr) ∧ Hid (Blk wr w.heap.size 32 #[.int .i64 lo, .int .i64 hi]) ∧ Hid (Blk wr g5 3 cur) ∧ Hid (Blk wr gO 4 (setC fun k => decide (k < i) && sprB s lo hi k)))
      case atStart => exact ⟨0, by omega, by omega, rfl, hB3.out, kb3.out, hcur3.out, hbl.out⟩
      case round =>
        clear kb3 hcur3 hB3 hbl
        obtain ⟨i, hi2, hgg, rfl, hB, hk, hc, hO⟩ := hrel
        by_cases hlt : i ≤ 1000
        · have hltz : (i : Int) ≤ 1000 := by omega
          have hiz : (0 : Int) ≤ (i : Int) := by omega
          have hiz2 : (i : Int) < 1001 := by omega
          have hrr := hr.out
          have l0 : wr.cell? ⟨w.heap.size, 0, none⟩ = some (.int .i64 lo) := hk.out.cell 0
          have l1 : wr.cell? ⟨w.heap.size, 1, none⟩ = some (.int .i64 hi) := hk.out.cell 1
          have w1 : IntKind.i64.wrap ((i : Int) - hi) = (i : Int) - hi := by rw [IntKind.wrap_i64]; omega
          have w2 : IntKind.i64.wrap ((i : Int) - lo) = (i : Int) - lo := by rw [IntKind.wrap_i64]; omega
          obtain ⟨a, ha⟩ : ∃ a : Nat, lowA hi i = a := ⟨(lowA hi i).toNat, by unfold lowA; omega⟩
          obtain ⟨h, hh⟩ : ∃ h : Int, highA lo i = h := ⟨_, rfl⟩
          have hh1 : h ≤ 1000 := by rw [← hh]; unfold highA; omega
          obtain ⟨q, hq⟩ : ∃ q, sprB s lo hi i = q := ⟨_, rfl⟩
          have hq' := hq
          unfold sprB at hq'
          rw [ha, hh] at hq'
          unfold lowA at ha
          unfold highA at hh
          have hnext := hide (show (setC fun k => decide (k < i) && sprB s lo hi k).setIfInBounds i (.bool q) = setC fun k => decide (k < i + 1) && sprB s lo hi k by
            rw [setC_set _ hlt]
            refine setC_congr fun k _ => ?_
            by_cases e : k = i
            · subst e; rw [if_pos rfl, hq]; simp
            · rw [if_neg e, show decide (k < i + 1) = decide (k < i) by rw [decide_eq_decide]; omega])
          replace hq := hide hq
          replace hk := hide hk.out
          obtain ⟨o9, ho9⟩ : ∃ o : Value, (setC fun k => decide (k < i) && sprB s lo hi k)[i]? = some o := ⟨_, setC_get _ hlt⟩
          have hgs := hO.out.lt
          replace ho9 := hide ho9
          obtain ⟨x10, h10⟩ : ∃ x : Int, (if (i : Int) = 0 then 0 else (i : Int) - hi) = x := ⟨_, rfl⟩
          obtain ⟨x11, h11⟩ : ∃ x : Int, (if (i : Int) = 1000 then 1000 else (i : Int) - lo) = x := ⟨_, rfl⟩
          rw [h10] at ha
          rw [h11] at hh
          replace h10 := hide h10
          replace h11 := hide h11
          replace hq' := hide hq'
          replace ha := hide ha
          replace hh := hide hh
          go_wp2
          go_quiet (fail)
          have hB2 := hide (below_drewN hB.out nq)
          have hk2 := hide (Blk.drewN hk.out nq)
          have hc2 := hide (Blk.drewN hc.out nq)
          have hO2 := hide (Blk.drewN hO.out nq)
          clear l0 l1 w1 w2 hB hk hc hO
          generalize wr.drewN nq = W2 at *
          have v0 := hide (show W2.cell? ⟨gO, i, none⟩ = some o9 by rw [hO2.out.cell]; exact ho9.out)
          have v1 := hide (show W2.frozen? ⟨gO, i, none⟩ = false from hO2.out.frozen i)
          have hcc := hide (fun k (hk : k ≤ 1001) => show W2.cell? ⟨g5, k, none⟩ = some (.int .i64 (cnt s k : Int)) by rw [hc2.out.cell]; exact hcs'.out k (by omega))
          go_upto_if 45 with fail
          go_cut [10] from 32 to 69 (fun c wx => c = .int .i64 x10 ∧ wx = W2)
          case first =>
            have h10' := h10.out
            by_cases z0 : (i : Int) = 0
            · have z0b : ((i : Int) == 0) = true := by rw [beq_iff_eq]; exact z0
              rw [if_pos z0] at h10'
              subst h10'
              replace z0 := hide z0
              go_wp2
              go_meet
              exact ⟨rfl, rfl⟩
            · have z0b : ((i : Int) == 0) = false := by rw [beq_eq_false_iff_ne]; exact z0
              rw [if_neg z0] at h10'
              subst h10'
              replace z0 := hide z0
              go_wp2
              go_meet
              exact ⟨rfl, rfl⟩
          case rest =>
            obtain ⟨rfl, rfl⟩ := hcut
            go_upto_if 47 with fail
            go_cut [11] from 32 to 69 (fun c wx => c = .int .i64 x11 ∧ wx = wc)
            case first =>
              have h11' := h11.out
              by_cases z0 : (i : Int) = 1000
              · have z0b : ((i : Int) == 1000) = true := by rw [beq_iff_eq]; exact z0
                rw [if_pos z0] at h11'
                subst h11'
                replace z0 := hide z0
                go_wp2
                go_meet
                exact ⟨rfl, rfl⟩
              · have z0b : ((i : Int) == 1000) = false := by rw [beq_eq_false_iff_ne]; exact z0
                rw [if_neg z0] at h11'
                subst h11'
                replace z0 := hide z0
                go_wp2
                go_meet
                exact ⟨rfl, rfl⟩
            case rest =>
              obtain ⟨rfl, rfl⟩ := hcut
              have ha1 := ha.out
              have hh1' := hh.out
              go_wp2
              clear ha1 hh1'
              by_cases hle : (a : Int) ≤ h
              · obtain ⟨b, hb⟩ : ∃ b : Nat, h = b := ⟨h.toNat, by omega⟩
                subst hb
                obtain ⟨b1, hb1⟩ : ∃ b1 : Nat, b + 1 = b1 := ⟨_, rfl⟩
                have hw3 : IntKind.i64.wrap ((b : Int) + 1) = (b1 : Int) := by rw [IntKind.wrap_i64]; omega
                have j1 : (b1 : Int) < 1002 := by omega
                have j2 : (a : Int) < 1002 := by omega
                have j3 : 0 ≤ (b1 : Int) := by omega
                have j4 : 0 ≤ (a : Int) := by omega
                obtain ⟨x, hx⟩ : ∃ x : Int, (cnt s a : Int) = x := ⟨_, rfl⟩
                obtain ⟨y, hy⟩ : ∃ y : Int, (cnt s b1 : Int) = y := ⟨_, rfl⟩
                have k1 : wc.cell? ⟨g5, a, none⟩ = some (.int .i64 x) := by rw [← hx]; exact hcc.out _ (by omega)
                have k2 : wc.cell? ⟨g5, b1, none⟩ = some (.int .i64 y) := by rw [← hy]; exact hcc.out _ (by omega)
                have hg : decide (x < y) = q := by
                  rw [← hq'.out, show ((b : Int) + 1 : Int).toNat = b1 by omega, show (a : Int).toNat = a by omega, decide_eq_true (show (a : Int) ≤ (b : Int) by omega), Bool.true_and, decide_eq_decide]
                  omega
                replace hx := hide hx
                replace hy := hide hy
                replace hb1 := hide hb1
                have hab : a ≤ b := by omega
                replace hle := hide hle
                refine region_tailB 18 (by kernel_rfl) (by kernel_rfl) ?_
                simp only [List.take_succ_cons, List.take_zero, List.drop_succ_cons, List.drop_zero]
                iterate 18 (refine still_bx (fun K hK => ?_); go_simp; refine hK.out _ ?_; clear hK K)
                refine still_bx_nil ?_
                clear k1 k2 hw3 j1 j2 j3 j4 hg hab
                have v0' := v0.out
                have v1' := v1.out
                go_wp2
                go_roundg (1001 - (i + 1))
                case measure => omega
                case rel =>
                  refine ⟨i + 1, by omega, by omega, by go_num, hB2.out.drew.setCell (by show w.heap.size ≤ gO; omega) _, (Blk.drew hk2.out).far (by show w.heap.size ≠ gO; omega) _, (Blk.drew hc2.out).far (by show g5 ≠ gO; omega) _, ?_⟩
                  unfold Hid
                  rw [← hnext.out]
                  exact (Blk.drew hO2.out).set_ i _
              · have hqf : q = false := by rw [← hq'.out, decide_eq_false hle]; rfl
                have d1 : decide ((a : Int) ≤ h) = false := decide_eq_false hle
                replace hle := hide hle
                subst hqf
                refine region_tailB 18 (by kernel_rfl) (by kernel_rfl) ?_
                simp only [List.take_succ_cons, List.take_zero, List.drop_succ_cons, List.drop_zero]
                iterate 18 (refine still_bx (fun K hK => ?_); go_simp; refine hK.out _ ?_; clear hK K)
                refine still_bx_nil ?_
                clear d1
                have v0' := v0.out
                have v1' := v1.out
                go_wp2
                go_roundg (1001 - (i + 1))
                case measure => omega
                case rel =>
                  refine ⟨i + 1, by omega, by omega, by go_num, hB2.out.drew.setCell (by show w.heap.size ≤ gO; omega) _, (Blk.drew hk2.out).far (by show w.heap.size ≠ gO; omega) _, (Blk.drew hc2.out).far (by show g5 ≠ gO; omega) _, ?_⟩
                  unfold Hid
                  rw [← hnext.out]
                  exact (Blk.drew hO2.out).set_ i _
        · have hltz : ¬ (i : Int) ≤ 1000 := by omega
          obtain rfl : i = 1001 := by omega
          clear hset hcs' hcap hc hk
          have hfin := hide (setC_congr (s := fun k => decide (k < 1001) && sprB s lo hi k) (t := sprB s lo hi) fun k hk => by rw [decide_eq_true (by omega : k < 1001), Bool.true_and])
          go_wp2
          go_ret
          refine ⟨⟨gO, rfl, ?_, Nat.le_of_lt hgOw⟩, hB.out⟩
          rw [← hfin.out]
          exact hO.out
end Go.Proofs.Ytkhijdbigpaagaa

/-
  SkillReached: what its loops keep; whether a skill has no level left.
-/
namespace Go.Proofs.Ytkhijdbigpaagaa
open Go.RowKit RG

/-- Whether one of the first skills has no level left. -/
def anyN (F : Nat → Option Sp) : Nat → Bool
  | 0 => false
  | n + 1 => anyN F n || (F n).isNone
theorem anyN_false {F : Nat → Option Sp} : ∀ {n : Nat}, (∀ j, j < n → (F j).isSome = true) → anyN F n = false
  | 0, _ => rfl
  | n + 1, h => by
    have h1 := h n (by omega)
    unfold anyN
    rw [anyN_false fun j hj => h j (by omega)]
    cases hq : F n with
    | none => rw [hq] at h1; cases h1
    | some q => rfl
theorem anyN_true {F : Nat → Option Sp} {j : Nat} (hj : F j = none) : ∀ {n : Nat}, j < n → anyN F n = true
  | n + 1, h => by
    unfold anyN
    by_cases e : j = n
    · subst e; rw [hj]; simp
    · rw [anyN_true hj (by omega)]; rfl
/-- P2.7: what the law SkillReached asks of After. -/
theorem reach_math {S : Sch} {rs : List Sp} {es : List Ev} {wk : Int} (hh : histE S rs es = 0) :
    (∀ T, liveS S wk es 0 rs = some T → T.length = S.sks.length ∧ ∀ i, i < S.sks.length → liveI S wk i es 0 (some (rs[i]?.getD (0, 0))) = some (T[i]?.getD (0, 0))) ∧
    (liveS S wk es 0 rs = none → anyN (fun i => liveI S wk i es 0 (some (rs[i]?.getD (0, 0)))) S.sks.length = true) := by
  obtain ⟨hck, hrk, hek⟩ := hist_ok hh
  have hrl := (ranges_ok hrk).1
  have hev : ∀ e ∈ es, ∃ c : Nat, e.c = c ∧ c < rs.length := fun e he => by
    obtain ⟨i, hi, rfl⟩ := List.getElem_of_mem he
    obtain ⟨s, h1, h2, _⟩ := (evs_ok hek).2 i hi
    rw [List.getElem?_eq_getElem hi, Option.getD_some] at h1
    exact ⟨s, h1, by omega⟩
  refine ⟨fun T hT => ⟨by rw [liveS_len hT]; exact hrl, fun i hi => live_each hev (by omega) hT⟩, fun hn => ?_⟩
  obtain ⟨i, hi, h3⟩ := live_none hev hn
  exact anyN_true h3 (by omega)
/-- Where the loop of events stands. -/
def AtEv (S : Sch) (wk : Int) (i : Nat) (es : List Ev) (F : Option Sp) (n : Nat) (now : Int) (q : Option Sp) : Prop :=
  (n ≤ es.length ∧ now = lastW (es.take n) ∧ liveI S wk i (es.drop n) now q = F) ∨ (n = es.length + 1 ∧ q = F)
theorem atEv_start (S : Sch) (wk : Int) (i : Nat) (es : List Ev) (q : Option Sp) : AtEv S wk i es (liveI S wk i es 0 q) 0 0 q := .inl ⟨Nat.zero_le _, by simp [lastW], rfl⟩
theorem drop_at {es : List Ev} {n : Nat} (h : n < es.length) : es.drop n = es[n]?.getD default :: es.drop (n + 1) := by
  rw [List.drop_eq_getElem_cons h, List.getElem?_eq_getElem h]; rfl
/-- The week up to which the weeks go by at the n-th place. -/
def wkAt (wk : Int) (es : List Ev) (n : Nat) : Int := if n < es.length then (es[n]?.getD default).a else wk
theorem weekI (S : Sch) {wk : Int} (i : Nat) {es : List Ev} {n : Nat} (hn : n ≤ es.length) {now : Int} (q : Option Sp) (h : now < wkAt wk es n) : liveI S wk i (es.drop n) now q = liveI S wk i (es.drop n) (now + 1) (q.map (lowerS (fadeOf (S.sks[i]?.getD default)))) := by
  unfold wkAt at h
  by_cases hl : n < es.length
  · rw [if_pos hl] at h
    rw [drop_at hl]
    exact liveI_week S i q h
  · rw [if_neg hl] at h
    rw [List.drop_eq_nil_of_le (by omega)]
    exact liveI_last S i q h
theorem wkAt_in {S : Sch} {rs : List Sp} {es : List Ev} {wk : Int} (hh : histE S rs es = 0) (hw : 0 ≤ wk ∧ wk ≤ 200) (hl : lastW es ≤ wk) {n : Nat} (hn : n ≤ es.length) : 0 ≤ lastW (es.take n) ∧ lastW (es.take n) ≤ wkAt wk es n ∧ wkAt wk es n ≤ 200 := by
  have hek := (hist_ok hh).2.2
  have hev := (evs_ok hek).2
  have h0 := (lastW_in hev n hn).1
  unfold wkAt
  by_cases h : n < es.length
  · rw [if_pos h]
    obtain ⟨_, _, _, _, h5, h6, _⟩ := hev n h
    exact ⟨h0, h6, h5⟩
  · rw [if_neg h]
    have e : es.take n = es := List.take_of_length_le (by omega)
    rw [e] at h0 ⊢
    exact ⟨h0, hl, hw.2⟩
/-- Behind an event of another skill. -/
theorem atEv_other {S : Sch} {wk : Int} {i : Nat} {es : List Ev} {F : Option Sp} {n : Nat} {q : Option Sp} (hn : n < es.length) (h : liveI S wk i (es.drop n) (es[n]?.getD default).a q = F) (hc : (es[n]?.getD default).c ≠ i) : AtEv S wk i es F (n + 1) (es[n]?.getD default).a q := by
  refine .inl ⟨by omega, (lastW_take es n hn).symm, ?_⟩
  rw [drop_at hn, liveI_ev S i q rfl] at h
  unfold stepI at h
  rw [if_neg hc] at h
  exact h
/-- Behind an event of this skill. -/
theorem atEv_this {S : Sch} {wk : Int} {i : Nat} {es : List Ev} {F : Option Sp} {n : Nat} {q : Option Sp} (hn : n < es.length) (h : liveI S wk i (es.drop n) (es[n]?.getD default).a q = F) : AtEv S wk i es F (n + 1) (es[n]?.getD default).a (stepI S i (es[n]?.getD default) q) := by
  refine .inl ⟨by omega, (lastW_take es n hn).symm, ?_⟩
  rw [drop_at hn, liveI_ev S i q rfl] at h
  exact h
theorem atEv_end {S : Sch} {wk : Int} {i : Nat} {es : List Ev} {F : Option Sp} {q : Option Sp} {now : Int} (h : liveI S wk i (es.drop es.length) now q = F) (hn : wk ≤ now) : AtEv S wk i es F (es.length + 1) now q := by
  refine .inr ⟨rfl, ?_⟩
  rw [List.drop_length, liveI_end S i q hn] at h
  exact h
theorem step_taught {S : Sch} {i : Nat} {e : Ev} {q : Option Sp} (hc : e.c = i) (hb : e.b = 0) : stepI S i e q = q.map (raiseS ((S.sks[i]?.getD default).gl, (S.sks[i]?.getD default).gh)) := by
  unfold stepI; rw [if_pos hc, if_neg (by omega)]; rfl
theorem step_marked {S : Sch} {i ki : Nat} {e : Ev} {q : Option Sp} (hc : e.c = i) (hb : e.b = 1) (hd : e.d = ki) (hq : okO' q) (hm : 0 ≤ e.e ∧ e.e ≤ 1000) :
    setC (cutB ((S.ins[ki]?.getD default).lo, (S.ins[ki]?.getD default).hi) e.e (indB q)) = setC (indB (stepI S i e q)) := by
  refine setC_congr fun n hn => ?_
  rw [cutB_ind hq hm hn]
  unfold stepI
  rw [if_pos hc, if_pos hb, hd, Int.toNat_natCast]
  rfl
theorem spr_lower {q : Option Sp} {f : Sp} (hq : okO' q) (hf : f.1 ≤ f.2) : setC (sprB (indB q) (-f.2) (-f.1)) = setC (indB (q.map (lowerS f))) := by
  refine setC_congr fun n hn => ?_
  rw [sprB_ind hq (by omega) hn]
  cases q with
  | none => rfl
  | some r => rw [Option.map_some, Option.map_some, lower_raise]
theorem spr_raise {q : Option Sp} {lo hi : Int} (hq : okO' q) (hf : lo ≤ hi) : setC (sprB (indB q) lo hi) = setC (indB (q.map (raiseS (lo, hi)))) :=
  setC_congr fun _ hn => sprB_ind hq hf hn
/-- The set of the start, as far as it is made. -/
def fromB (a j : Nat) (t : Nat) : Bool := decide (a ≤ t) && decide (t < j)
theorem from_start (a : Nat) : setC (fromB a a) = setC fun _ => false := setC_congr fun t _ => by
  unfold fromB
  by_cases h : a ≤ t
  · rw [decide_eq_false (by omega : ¬ t < a), Bool.and_false]
  · rw [decide_eq_false h, Bool.false_and]
theorem from_set {a j : Nat} (h : a ≤ j) (hj : j ≤ 1000) : (setC (fromB a j)).setIfInBounds j (.bool true) = setC (fromB a (j + 1)) := by
  rw [setC_set _ hj]
  refine setC_congr fun t _ => ?_
  unfold fromB
  by_cases e : t = j
  · subst e; rw [if_pos rfl]; simp [h]
  · rw [if_neg e, show decide (t < j + 1) = decide (t < j) by rw [decide_eq_decide]; omega]
theorem from_end (a b : Nat) : setC (fromB a (b + 1)) = setC (indB (some ((a : Int), (b : Int)))) := setC_congr fun t _ => by
  unfold fromB indB
  simp only
  rw [show decide (t < b + 1) = decide ((t : Int) ≤ (b : Int)) by rw [decide_eq_decide]; omega, show decide (a ≤ t) = decide ((a : Int) ≤ (t : Int)) by rw [decide_eq_decide]; omega]
/-- A set that is cut, as far as it is. -/
def cutTo (b : Sp) (m : Int) (s : Nat → Bool) (j : Nat) (t : Nat) : Bool := if t < j then cutB b m s t else s t
theorem cutTo_start (b : Sp) (m : Int) (s : Nat → Bool) : cutTo b m s 0 = s := by funext t; unfold cutTo; rw [if_neg (by omega)]
theorem cutTo_set (b : Sp) (m : Int) (s : Nat → Bool) {j : Nat} (hj : j ≤ 1000) : (setC (cutTo b m s j)).setIfInBounds j (.bool (cutB b m s j)) = setC (cutTo b m s (j + 1)) := by
  rw [setC_set _ hj]
  refine setC_congr fun t _ => ?_
  unfold cutTo
  by_cases e : t = j
  · subst e; rw [if_pos rfl, if_pos (by omega)]
  · rw [if_neg e]
    by_cases h : t < j
    · rw [if_pos h, if_pos (by omega)]
    · rw [if_neg h, if_neg (by omega)]
theorem cutTo_end (b : Sp) (m : Int) (s : Nat → Bool) : setC (cutTo b m s 1001) = setC (cutB b m s) := setC_congr fun t ht => by unfold cutTo; rw [if_pos (by omega)]
theorem cutTo_at (b : Sp) (m : Int) (s : Nat → Bool) (j : Nat) : cutTo b m s j j = s j := by unfold cutTo; rw [if_neg (by omega)]
/-- A new range, of which nothing is known but that it is new. -/
def SpNew (B : Nat) : Value → World → Prop := fun v w => ∃ g, v = .pointer (some ⟨g, 0, none⟩) ∧ B ≤ g ∧ Blk w g 32 #[.int .i64 0, .int .i64 0]
theorem SpNew.stb (B : Nat) : Stb (SpNew B) := fun _ _ _ hb ⟨g, e, h1, h⟩ => ⟨g, e, h1, h.below hb h.lt⟩
end Go.Proofs.Ytkhijdbigpaagaa
