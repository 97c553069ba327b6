import Derived.Test.YtkmhldjebopljaaOmb
/-
  Who pays a crash (BookInsured), and what the time is after events. Of no program.
-/
namespace Go.Proofs.Ytkmhldjebopljaa

/-- What an event adds to what was posted is of its own number. -/
def Adds (n : Int) (a c : List Pst) : Prop := ∃ q, c = a ++ q ∧ ∀ p ∈ q, p.event = n
theorem Adds.refl (n : Int) (a : List Pst) : Adds n a a := ⟨[], (List.append_nil a).symm, fun _ h => by cases h⟩
theorem post_adds (b : Bks) (n f t c : Int) : Adds n b.pst (postB b n f t c).pst := by
  unfold postB
  split
  · exact Adds.refl _ _
  · exact ⟨_, rfl, fun p hp => by rw [List.mem_singleton] at hp; rw [hp]⟩
theorem Adds.trans {n : Int} {a b c : List Pst} (h : Adds n a b) (k : Adds n b c) : Adds n a c := by
  obtain ⟨q, rfl, hq⟩ := h
  obtain ⟨r, rfl, hr⟩ := k
  exact ⟨q ++ r, List.append_assoc _ _ _, fun p hp => (List.mem_append.1 hp).elim (hq p) (hr p)⟩
theorem kind_adds (S : BSch) (b : Bks) (n : Int) (e : BEv) : Adds n b.pst (kindB S b n e).2.pst := by
  unfold kindB
  split
  · unfold bookB
    repeat' split
    all_goals exact Adds.refl _ _
  split
  · unfold cancelB
    repeat' split
    · exact Adds.refl _ _
    · exact Adds.refl _ _
    · exact post_adds _ _ _ _ _
  split
  · unfold weatherB
    split
    · exact Adds.refl _ _
    · show Adds n b.pst (movesB S e _ _ _).pst
      rw [moves_pst]
      exact Adds.refl _ _
  split
  · unfold driveB
    repeat' split
    · exact Adds.refl _ _
    · exact Adds.refl _ _
    · exact Adds.refl _ _
    · exact Adds.refl _ _
    · exact post_adds _ _ _ _ _
  split
  · unfold serviceB
    repeat' split
    · exact Adds.refl _ _
    · exact Adds.refl _ _
    · exact post_adds _ _ _ _ _
  split
  · unfold crashB
    repeat' split
    · exact Adds.refl _ _
    · exact Adds.refl _ _
    · exact (post_adds (setLes b e.booking fun l => { l with state := 3 }) _ _ _ _).trans (post_adds _ _ _ _ _)
  · unfold payB
    repeat' split
    · exact Adds.refl _ _
    · exact Adds.refl _ _
    · exact post_adds _ _ _ _ _
theorem tell_adds (S : BSch) (b : Bks) (n : Int) (e : BEv) : Adds n b.pst (tellB S b n e).2.pst := by
  unfold tellB
  repeat' split
  · exact Adds.refl _ _
  · exact Adds.refl _ _
  · exact kind_adds S b n e
  · exact Adds.refl _ _
/-- What events add to what was posted. -/
theorem run_adds (S : BSch) : ∀ (es : List BEv) (n : Int) (b : Bks), ∃ q, (runB S es n b).2.pst = b.pst ++ q ∧ ∀ p ∈ q, n ≤ p.event
  | [], _, b => ⟨[], (List.append_nil b.pst).symm, fun _ h => by cases h⟩
  | e :: r, n, b => by
    obtain ⟨q, h1, h2⟩ := tell_adds S b n e
    obtain ⟨s, h3, h4⟩ := run_adds S r (n + 1) (tellB S b n e).2
    rw [run_cons]
    refine ⟨q ++ s, ?_, fun p hp => (List.mem_append.1 hp).elim (fun h => by have := h2 p h; omega) (fun h => by have := h4 p h; omega)⟩
    show (runB S r (n + 1) (tellB S b n e).2).2.pst = _
    rw [h3, h1, List.append_assoc]
/-- What is posted of a crash. -/
def crashP (S : BSch) (n c : Int) : List Pst :=
  (if min c S.excess = 0 then [] else [⟨n, S.learners.length, (S.learners.length : Int) + 1, min c S.excess⟩]) ++ (if c - min c S.excess = 0 then [] else [⟨n, (S.learners.length : Int) + 2, (S.learners.length : Int) + 1, c - min c S.excess⟩])
theorem post_list (b : Bks) (n f t c : Int) : (postB b n f t c).pst = b.pst ++ if c = 0 then [] else [⟨n, f, t, c⟩] := by
  unfold postB
  split <;> simp_all
theorem tell_crash {S : BSch} {b : Bks} {n : Int} {e : BEv} (hk : e.kind = 5) (h : (tellB S b n e).1 = 0) : (tellB S b n e).2.pst = b.pst ++ crashP S n e.cents ∧ 0 ≤ e.cents := by
  unfold tellB at h ⊢
  split at h
  · cases h
  rename_i h1
  rw [if_neg h1]
  split at h
  · cases h
  rename_i h2
  rw [if_neg h2]
  split at h
  · rename_i h3
    rw [if_pos h3]
    simp only
    have hc : kindB S b n e = crashB S b n e := by
      unfold kindB
      rw [if_neg (by omega), if_neg (by omega), if_neg (by omega), if_neg (by omega), if_neg (by omega), if_pos hk]
    rw [hc] at h3 ⊢
    unfold crashB at h3 ⊢
    split at h3
    · cases h3
    rename_i h4
    rw [if_neg h4]
    split at h3
    · cases h3
    rename_i h5
    rw [if_neg h5]
    have h6 := inI_iff.1 (by simpa using h5)
    refine ⟨?_, h6.1⟩
    rw [post_list, post_list]
    show b.pst ++ _ ++ _ = _
    unfold crashP
    rw [List.append_assoc]
  · rename_i h3
    exact absurd h h3
def ownP (nl i : Int) (ps : List Pst) : Int := (ps.map fun p => if p.event = i ∧ p.frm = nl then p.cents else 0).sum
def restP (nl i : Int) (ps : List Pst) : Int := (ps.map fun p => if p.event = i ∧ p.frm ≠ nl then p.cents else 0).sum
theorem sum_zero {f : Pst → Int} : ∀ (ps : List Pst), (∀ p ∈ ps, f p = 0) → (ps.map f).sum = 0
  | [], _ => rfl
  | p :: ps, h => by
    rw [List.map_cons, List.sum_cons, sum_zero ps (fun q hq => h q (List.mem_cons_of_mem _ hq)), h p (List.mem_cons_self ..)]
    rfl
/-- P5.11, of what was posted of an event. -/
structure Insured (S : BSch) (ps : List Pst) (i c : Int) : Prop where
  who : ∀ p ∈ ps, p.event = i → p.to = (S.learners.length : Int) + 1 ∧ (p.frm = S.learners.length ∨ p.frm = (S.learners.length : Int) + 2)
  own : ownP S.learners.length i ps ≤ S.excess
  all : ownP S.learners.length i ps + restP S.learners.length i ps = c
theorem insured_of {S : BSch} {a q : List Pst} {i c : Int} (ha : ∀ p ∈ a, p.event ≠ i) (hq : ∀ p ∈ q, p.event ≠ i) : Insured S (a ++ crashP S i c ++ q) i c := by
  have hm : ∀ p ∈ crashP S i c, p.event = i ∧ p.to = (S.learners.length : Int) + 1 ∧ (p.frm = S.learners.length ∨ p.frm = (S.learners.length : Int) + 2) := by
    intro p hp
    unfold crashP at hp
    rcases List.mem_append.1 hp with h | h
    · split at h
      · cases h
      · rw [List.mem_singleton] at h; subst h; exact ⟨rfl, rfl, .inl rfl⟩
    · split at h
      · cases h
      · rw [List.mem_singleton] at h; subst h; exact ⟨rfl, rfl, .inr rfl⟩
  have ho : ownP S.learners.length i (a ++ crashP S i c ++ q) = min c S.excess := by
    unfold ownP
    rw [List.map_append, List.map_append, List.sum_append, List.sum_append, sum_zero a (fun p hp => if_neg fun h => ha p hp h.1), sum_zero q (fun p hp => if_neg fun h => hq p hp h.1)]
    unfold crashP
    rw [List.map_append, List.sum_append]
    split <;> split <;> simp <;> omega
  have hr : restP S.learners.length i (a ++ crashP S i c ++ q) = c - min c S.excess := by
    unfold restP
    rw [List.map_append, List.map_append, List.sum_append, List.sum_append, sum_zero a (fun p hp => if_neg fun h => ha p hp h.1), sum_zero q (fun p hp => if_neg fun h => hq p hp h.1)]
    unfold crashP
    rw [List.map_append, List.sum_append]
    split <;> split <;> simp <;> omega
  refine ⟨?_, by rw [ho]; omega, by rw [ho, hr]; omega⟩
  intro p hp he
  rcases List.mem_append.1 hp with h | h
  · rcases List.mem_append.1 h with h | h
    · exact absurd he (ha p h)
    · exact (hm p h).2
  · exact absurd he (hq p h)
theorem run_insured {S : BSch} : ∀ (es : List BEv) {n : Int} {b : Bks} {k : Nat}, (∀ p ∈ b.pst, p.event < n) → k < es.length → (es[k]?.getD default).kind = 5 → (runB S es n b).1[k]?.getD 1 = 0 → Insured S (runB S es n b).2.pst (n + k) (es[k]?.getD default).cents
  | [], _, _, k, _, hk, _, _ => by simp at hk
  | e :: r, n, b, 0, hb, _, h5, h0 => by
    rw [run_cons] at h0 ⊢
    simp only [List.getElem?_cons_zero, Option.getD_some] at h0 h5 ⊢
    obtain ⟨h1, -⟩ := tell_crash h5 h0
    obtain ⟨q, h3, h4⟩ := run_adds S r (n + 1) (tellB S b n e).2
    rw [h3, h1]
    have h6 := insured_of (S := S) (a := b.pst) (q := q) (i := n) (c := e.cents) (fun p hp => by have := hb p hp; omega) (fun p hp => by have := h4 p hp; omega)
    simpa using h6
  | e :: r, n, b, k + 1, hb, hk, h5, h0 => by
    rw [run_cons] at h0 ⊢
    simp only [List.getElem?_cons_succ, List.length_cons] at h0 h5 hk ⊢
    obtain ⟨q, h1, h2⟩ := tell_adds S b n e
    have hb' : ∀ p ∈ (tellB S b n e).2.pst, p.event < n + 1 := by
      intro p hp
      rw [h1] at hp
      rcases List.mem_append.1 hp with h | h
      · have := hb p h; omega
      · have := h2 p h; omega
    have h6 := run_insured r (n := n + 1) (b := (tellB S b n e).2) (k := k) hb' (by omega) h5 h0
    have e1 : n + 1 + (k : Int) = n + ((k + 1 : Nat) : Int) := by omega
    rw [e1] at h6
    exact h6
/-- The time after an event. -/
def timeStep (t : Int) (e : BEv) (err : Int) : Int := if err = 0 then e.at_ else t
theorem tell_time (S : BSch) (b : Bks) (n : Int) (e : BEv) : (tellB S b n e).2.time = timeStep b.time e (tellB S b n e).1 := by
  unfold timeStep
  by_cases h : (tellB S b n e).1 = 0
  · rw [if_pos h]
    unfold tellB at h ⊢
    split at h
    · cases h
    rename_i h1
    rw [if_neg h1]
    split at h
    · cases h
    rename_i h2
    rw [if_neg h2]
    split at h
    · rename_i h3; rw [if_pos h3]
    · rename_i h3; exact absurd h h3
  · rw [if_neg h, tell_refused h]
def timeFold : List BEv → List Int → Int → Int
  | e :: es, x :: xs, t => timeFold es xs (timeStep t e x)
  | _, _, t => t
theorem run_time (S : BSch) : ∀ (es : List BEv) (n : Int) (b : Bks), (runB S es n b).2.time = timeFold es (runB S es n b).1 b.time
  | [], _, _ => rfl
  | e :: r, n, b => by
    rw [run_cons]
    show (runB S r (n + 1) (tellB S b n e).2).2.time = timeFold r _ (timeStep b.time e (tellB S b n e).1)
    rw [run_time S r, tell_time]
end Go.Proofs.Ytkmhldjebopljaa
