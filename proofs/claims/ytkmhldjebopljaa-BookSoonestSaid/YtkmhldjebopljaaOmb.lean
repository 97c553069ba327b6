import Derived.Test.YtkmhldjebopljaaOma
/-
  Nobody is at two places (BookOnce): open lessons are not in each other's way, fit, and are driven in the weathers of their days. Of no program.
-/
namespace Go.Proofs.Ytkmhldjebopljaa

def atL (ls : List Les) (i : Nat) : Les := ls[i]?.getD default
theorem atL_set {ls : List Les} {i : Nat} (hi : i < ls.length) (x : Les) (j : Nat) : atL (ls.set i x) j = if j = i then x else atL ls j := by
  unfold atL
  by_cases h : j = i
  · subst h; rw [if_pos rfl, List.getElem?_set_self hi]; rfl
  · rw [if_neg h, List.getElem?_set_ne (Ne.symm h)]
theorem atL_mem {ls : List Les} {i : Nat} (hi : i < ls.length) : atL ls i ∈ ls := by unfold atL; rw [List.getElem?_eq_getElem hi]; exact List.getElem_mem hi
theorem clash_symm (a b : Les) : clash a b = clash b a := by
  unfold clash
  rw [Bool.and_comm (decide (a.start < b.start + b.hours))]
  congr 2
  · rw [decide_eq_decide]; exact eq_comm
  · rw [decide_eq_decide]; exact eq_comm
theorem free_iff {ls : List Les} {l : Les} : freeB ls l = true ↔ ∀ x ∈ ls, x.state = 0 → clash x l = false := by
  unfold freeB
  rw [List.all_eq_true]
  constructor
  · intro h x hx h0
    have := h x hx
    rw [decide_eq_true h0, Bool.true_and] at this
    simpa using this
  · intro h x hx
    by_cases h0 : x.state = 0
    · rw [h x hx h0]; simp
    · rw [decide_eq_false h0]; rfl
/-- Open lessons are not in each other's way, and fit. -/
structure OnceL (S : BSch) (ls : List Les) : Prop where
  apart : ∀ i j, i < ls.length → j < ls.length → i ≠ j → (atL ls i).state = 0 → (atL ls j).state = 0 → clash (atL ls i) (atL ls j) = false
  fits : ∀ i, i < ls.length → (atL ls i).state = 0 → fitsB S (atL ls i) = true
theorem OnceL.set {S : BSch} {ls : List Les} (h : OnceL S ls) {i : Nat} {x : Les} (hx : i < ls.length → x.state = 0 → fitsB S x = true ∧ ∀ j, j < ls.length → j ≠ i → (atL ls j).state = 0 → clash (atL ls j) x = false) : OnceL S (ls.set i x) := by
  by_cases hi : i < ls.length
  · constructor
    · intro a b ha hb hab
      rw [List.length_set] at ha hb
      rw [atL_set hi, atL_set hi]
      by_cases e1 : a = i
      · subst e1
        rw [if_pos rfl, if_neg (Ne.symm hab)]
        intro h1 h2
        rw [clash_symm]
        exact (hx hi h1).2 b hb (Ne.symm hab) h2
      · rw [if_neg e1]
        by_cases e2 : b = i
        · subst e2
          rw [if_pos rfl]
          intro h1 h2
          exact (hx hi h2).2 a ha hab h1
        · rw [if_neg e2]
          exact h.apart a b ha hb hab
    · intro a ha
      rw [List.length_set] at ha
      rw [atL_set hi]
      by_cases e1 : a = i
      · subst e1; rw [if_pos rfl]; intro h1; exact (hx hi h1).1
      · rw [if_neg e1]; exact h.fits a ha
  · rw [List.set_eq_of_length_le (by omega)]; exact h
theorem atL_append {ls : List Les} {x : Les} {j : Nat} : atL (ls ++ [x]) j = if j = ls.length then x else atL ls j := by
  unfold atL
  by_cases h : j = ls.length
  · subst h; rw [if_pos rfl, List.getElem?_append_right (Nat.le_refl _), Nat.sub_self]; rfl
  · rw [if_neg h]
    rcases Nat.lt_or_ge j ls.length with h1 | h1
    · rw [List.getElem?_append_left h1]
    · rw [List.getElem?_append_right h1, List.getElem?_eq_none (by simp; omega), List.getElem?_eq_none (by omega)]
theorem OnceL.append {S : BSch} {ls : List Les} (h : OnceL S ls) {x : Les} (hf : fitsB S x = true) (hc : freeB ls x = true) : OnceL S (ls ++ [x]) := by
  have hc := free_iff.1 hc
  constructor
  · intro a b ha hb hab
    rw [List.length_append] at ha hb
    simp only [List.length_cons, List.length_nil] at ha hb
    rw [atL_append, atL_append]
    by_cases e1 : a = ls.length
    · subst e1
      rw [if_pos rfl, if_neg (Ne.symm hab)]
      intro _ h2
      rw [clash_symm]
      exact hc _ (atL_mem (by omega)) h2
    · rw [if_neg e1]
      by_cases e2 : b = ls.length
      · subst e2
        rw [if_pos rfl]
        intro h1 _
        exact hc _ (atL_mem (by omega)) h1
      · rw [if_neg e2]
        exact h.apart a b (by omega) (by omega) hab
  · intro a ha
    rw [List.length_append] at ha
    simp only [List.length_cons, List.length_nil] at ha
    rw [atL_append]
    by_cases e1 : a = ls.length
    · subst e1; rw [if_pos rfl]; intro _; exact hf
    · rw [if_neg e1]; exact h.fits a (by omega)
/-- What a later day of a lesson is like. -/
theorem later_at {S : BSch} {b : Bks} {l : Les} : ∀ {n : Nat} {start : Int} {x : Les}, (∃ k : Int, start = l.start + 24 * k ∧ 1 ≤ k) → laterB S b l n start = some x →
    x = { l with start := x.start } ∧ (∃ k : Int, x.start = l.start + 24 * k ∧ 1 ≤ k) ∧ x.start + l.hours ≤ 4800 ∧ dryB S b.wt l.car (x.start / 24) = true ∧ freeB b.les x = true
  | 0, _, _, _, h => by cases h
  | n + 1, start, x, hk, h => by
    unfold laterB at h
    split at h
    · rename_i h1
      split at h
      · rename_i h2
        rw [Bool.and_eq_true] at h2
        injection h with h; subst h
        exact ⟨rfl, hk, h1, h2.1, h2.2⟩
      · obtain ⟨k, hk1, hk2⟩ := hk
        exact later_at ⟨k + 1, by omega, by omega⟩ h
    · cases h
/-- A lesson that is moved is free where it goes, and driven in that day's weathers; or it is cancelled. -/
theorem move_at (S : BSch) (b : Bks) (i : Nat) :
    (∃ x, (moveB S b i).les = b.les.set i x ∧ x = { atL b.les i with start := x.start } ∧ (∃ k : Int, x.start = (atL b.les i).start + 24 * k ∧ 1 ≤ k) ∧ dryB S b.wt (atL b.les i).car (x.start / 24) = true ∧ freeB b.les x = true) ∨
    (moveB S b i).les = b.les.set i { atL b.les i with state := 1 } := by
  unfold moveB
  cases hq : laterB S b (b.les[i]?.getD default) 201 ((b.les[i]?.getD default).start + 24) with
  | none => exact .inr rfl
  | some x =>
    obtain ⟨h1, h2, _, h3, h4⟩ := later_at ⟨1, by omega, Int.le_refl _⟩ hq
    exact .inl ⟨x, rfl, h1, h2, h3, h4⟩
theorem fits_day {S : BSch} {l : Les} {s : Int} (h : ∃ k : Int, s = l.start + 24 * k ∧ 1 ≤ k) : fitsB S { l with start := s } = fitsB S l := by
  obtain ⟨k, h1, _⟩ := h
  have : s % 24 = l.start % 24 := by omega
  unfold fitsB
  simp only [this]
theorem move_once {S : BSch} {b : Bks} {i : Nat} (h : OnceL S b.les) (hi : i < b.les.length) (h0 : (atL b.les i).state = 0) : OnceL S (moveB S b i).les := by
  rcases move_at S b i with ⟨x, h1, h2, h3, _, h5⟩ | h1
  · rw [h1]
    refine h.set fun _ _ => ⟨?_, fun j hj _ hs => (free_iff.1 h5) _ (atL_mem hj) hs⟩
    rw [h2, fits_day h3]
    exact h.fits i hi h0
  · rw [h1]
    refine h.set fun _ hx => ?_
    have : (1 : Int) = 0 := hx
    omega
theorem moves_once {S : BSch} {e : BEv} : ∀ (k i : Nat) {b : Bks}, OnceL S b.les → i + k = b.les.length → OnceL S (movesB S e k i b).les
  | 0, _, _, h, _ => h
  | k + 1, i, b, h, hk => by
    unfold movesB
    split
    · rename_i hc
      refine moves_once k (i + 1) (move_once h (by omega) hc.1) ?_
      unfold moveB
      simp only [List.length_set]
      omega
    · exact moves_once k (i + 1) h (by omega)
theorem set_once {S : BSch} {b : Bks} {i : Int} {f : Les → Les} (h : OnceL S b.les) (hf : ∀ l, (f l).state ≠ 0) : OnceL S (setLes b i f).les := h.set fun _ hx => absurd hx (hf _)
theorem post_les (b : Bks) (n f t c : Int) : (postB b n f t c).les = b.les := by unfold postB; split <;> rfl
/-- P5.8: whatever is told, open lessons are not in each other's way, and fit. -/
theorem tell_once {S : BSch} {b : Bks} {n : Int} {e : BEv} (h : OnceL S b.les) : OnceL S (tellB S b n e).2.les := by
  have hk : OnceL S (kindB S b n e).2.les := by
    unfold kindB
    split
    · unfold bookB
      split
      · exact h
      · split
        · exact h
        · split
          · rename_i h0
            unfold lesErr at h0
            split at h0
            · cases h0
            · rename_i h1
              split at h0
              · cases h0
              · split at h0
                · cases h0
                · rename_i h2
                  refine h.append ?_ (by simpa using h2)
                  have := (not_or.1 h1).2
                  simpa using this
          · exact h
    · split
      · unfold cancelB
        repeat' split
        · exact h
        · exact h
        · rw [post_les]; exact set_once h fun _ => by simp
      · split
        · unfold weatherB
          split
          · exact h
          · exact moves_once _ _ h (by simp)
        · split
          · unfold driveB
            repeat' split
            · exact h
            · exact h
            · exact h
            · exact h
            · rw [post_les]
              exact set_once (i := e.booking) (f := fun l => { l with state := 2 }) h fun _ => by simp
          · split
            · unfold serviceB
              repeat' split
              · exact h
              · exact h
              · rw [post_les]; exact h
            · split
              · unfold crashB
                repeat' split
                · exact h
                · exact h
                · rw [post_les, post_les]; exact set_once h fun _ => by simp
              · unfold payB
                repeat' split
                · exact h
                · exact h
                · rw [post_les]; exact h
  unfold tellB
  repeat' split
  · exact h
  · exact h
  · exact hk
  · exact h
theorem run_once {S : BSch} : ∀ (es : List BEv) {n : Int} {b : Bks}, OnceL S b.les → OnceL S (runB S es n b).2.les
  | [], _, _, h => h
  | e :: r, n, b, h => by rw [run_cons]; exact run_once r (tell_once h)
theorem start_once (S : BSch) : OnceL S (startB S).les where
  apart := by intro i j hi; simp [startB] at hi
  fits := by intro i hi; simp [startB] at hi
end Go.Proofs.Ytkmhldjebopljaa

/-
  Open lessons that have not begun are driven in the weathers of their days (BookOnce); what a weather leaves as it was (BookMoved). Of no program.
-/
namespace Go.Proofs.Ytkmhldjebopljaa

theorem dry_append (S : BSch) (wt : List (Int × Int)) (d x car day : Int) : dryB S (wt ++ [(d, x)]) car day = (dryB S wt car day && !(decide (d = day) && (never S car).testBit x.toNat)) := by
  unfold dryB; rw [List.all_append]; simp
theorem dry_mem {S : BSch} {wt : List (Int × Int)} {car day x : Int} (h : dryB S wt car day = true) (hm : (day, x) ∈ wt) : (never S car).testBit x.toNat = false := by
  unfold dryB at h
  rw [List.all_eq_true] at h
  have := h _ hm
  simpa using this
/-- Open lessons that begin behind t are driven in the weathers of their days. -/
def DryL (S : BSch) (wt : List (Int × Int)) (t : Int) (ls : List Les) : Prop := ∀ i, i < ls.length → (atL ls i).state = 0 → t < (atL ls i).start → dryB S wt (atL ls i).car ((atL ls i).start / 24) = true
theorem DryL.later {S : BSch} {wt : List (Int × Int)} {t t' : Int} {ls : List Les} (h : DryL S wt t ls) (ht : t ≤ t') : DryL S wt t' ls := fun i hi h0 h1 => h i hi h0 (by omega)
theorem DryL.set {S : BSch} {wt : List (Int × Int)} {t : Int} {ls : List Les} (h : DryL S wt t ls) {i : Nat} {x : Les} (hx : x.state = 0 → t < x.start → dryB S wt x.car (x.start / 24) = true) : DryL S wt t (ls.set i x) := by
  by_cases hi : i < ls.length
  · intro j hj
    rw [List.length_set] at hj
    rw [atL_set hi]
    by_cases e : j = i
    · rw [if_pos e]; exact hx
    · rw [if_neg e]; exact h j hj
  · rw [List.set_eq_of_length_le (by omega)]; exact h
/-- What is known while a weather moves lessons: those before i are driven in it. -/
structure MvI (S : BSch) (wt wt2 : List (Int × Int)) (t : Int) (i : Nat) (b : Bks) : Prop where
  hwt : b.wt = wt2
  old : ∀ j, i ≤ j → j < b.les.length → (atL b.les j).state = 0 → t < (atL b.les j).start → dryB S wt (atL b.les j).car ((atL b.les j).start / 24) = true
  new : ∀ j, j < i → j < b.les.length → (atL b.les j).state = 0 → t < (atL b.les j).start → dryB S wt2 (atL b.les j).car ((atL b.les j).start / 24) = true
theorem move_wt (S : BSch) (b : Bks) (i : Nat) : (moveB S b i).wt = b.wt := rfl
theorem move_len (S : BSch) (b : Bks) (i : Nat) : (moveB S b i).les.length = b.les.length := by unfold moveB; simp only [List.length_set]
theorem move_ne {S : BSch} {b : Bks} {i j : Nat} (h : j ≠ i) : atL (moveB S b i).les j = atL b.les j := by
  unfold moveB atL; simp only [List.getElem?_set_ne (Ne.symm h)]
theorem moves_dry {S : BSch} {e : BEv} {wt : List (Int × Int)} : ∀ (k i : Nat) {b : Bks}, MvI S wt (wt ++ [(e.day, e.weather)]) e.at_ i b → i + k = b.les.length → DryL S (wt ++ [(e.day, e.weather)]) e.at_ (movesB S e k i b).les
  | 0, i, b, h, hk => fun j hj h0 h1 => h.new j (by have hj : j < b.les.length := hj; omega) hj h0 h1
  | k + 1, i, b, h, hk => by
    unfold movesB
    split
    · rename_i hc
      refine moves_dry k (i + 1) ⟨h.hwt, ?_, ?_⟩ (by rw [move_len]; omega)
      · intro j hj hjl
        rw [move_len] at hjl
        rw [move_ne (by omega)]
        exact h.old j (by omega) hjl
      · intro j hj hjl
        rw [move_len] at hjl
        by_cases e1 : j = i
        · subst e1
          rcases move_at S b j with ⟨x, h1, h2, _, h3, _⟩ | h1
          · rw [h1, atL_set hjl, if_pos rfl]
            intro _ _
            rw [← h.hwt, h2]
            rw [h2] at h3
            exact h3
          · rw [h1, atL_set hjl, if_pos rfl]
            intro h0
            have : (1 : Int) = 0 := h0
            omega
        · rw [move_ne e1]
          exact h.new j (by omega) hjl
    · rename_i hc
      refine moves_dry k (i + 1) ⟨h.hwt, fun j hj => h.old j (by omega), ?_⟩ (by omega)
      intro j hj hjl
      by_cases e1 : j = i
      · subst e1
        intro h0 h1
        rw [dry_append, h.old j (Nat.le_refl _) hjl h0 h1, Bool.true_and]
        by_cases hd : (atL b.les j).start / 24 = e.day
        · have hb : ¬ (never S (atL b.les j).car).testBit e.weather.toNat = true := fun hb => hc ⟨h0, hd, h1, hb⟩
          rw [Bool.not_eq_true] at hb
          rw [hb]; simp
        · rw [decide_eq_false (fun e' => hd e'.symm)]; rfl
      · exact h.new j (by omega) hjl
theorem post_wt (b : Bks) (n f t c : Int) : (postB b n f t c).wt = b.wt := by unfold postB; split <;> rfl
theorem moves_wt (S : BSch) (e : BEv) : ∀ (k i : Nat) (b : Bks), (movesB S e k i b).wt = b.wt
  | 0, _, _ => rfl
  | k + 1, i, b => by
    unfold movesB
    rw [moves_wt S e k (i + 1)]
    split <;> rfl
/-- P5.8: whatever is told. -/
theorem tell_dry {S : BSch} {b : Bks} {n : Int} {e : BEv} (h : DryL S b.wt b.time b.les) : DryL S (tellB S b n e).2.wt (tellB S b n e).2.time (tellB S b n e).2.les := by
  unfold tellB
  split
  · exact h
  · split
    · exact h
    · rename_i ht
      have ht : b.time ≤ e.at_ := by have := (not_or.1 ht).2; omega
      have h' := h.later ht
      split
      · show DryL S (kindB S b n e).2.wt e.at_ (kindB S b n e).2.les
        unfold kindB
        split
        · unfold bookB
          split
          · exact h'
          · split
            · exact h'
            · split
              · rename_i h0
                unfold lesErr at h0
                split at h0
                · cases h0
                · split at h0
                  · cases h0
                  · rename_i h2
                    intro i hi
                    rw [List.length_append] at hi
                    simp only [List.length_cons, List.length_nil] at hi
                    rw [atL_append]
                    by_cases e1 : i = b.les.length
                    · rw [if_pos e1]; intro _ _; simpa using h2
                    · rw [if_neg e1]; exact h' i (by omega)
              · exact h'
        · split
          · unfold cancelB
            repeat' split
            · exact h'
            · exact h'
            · rw [post_les, post_wt]; exact h'.set fun h0 => by simp at h0
          · split
            · unfold weatherB
              split
              · exact h'
              · simp only
                rw [moves_wt]
                exact moves_dry b.les.length 0 ⟨rfl, fun j _ hj => h' j hj, fun j hj => absurd hj (by omega)⟩ (by simp)
            · split
              · unfold driveB
                repeat' split
                · exact h'
                · exact h'
                · exact h'
                · exact h'
                · rw [post_les, post_wt]
                  exact DryL.set (i := e.booking.toNat) (x := { lesAt b e.booking with state := 2 }) h' fun h0 => by simp at h0
              · split
                · unfold serviceB
                  repeat' split
                  · exact h'
                  · exact h'
                  · rw [post_les, post_wt]; exact h'
                · split
                  · unfold crashB
                    repeat' split
                    · exact h'
                    · exact h'
                    · rw [post_les, post_les, post_wt, post_wt]; exact h'.set fun h0 => by simp at h0
                  · unfold payB
                    repeat' split
                    · exact h'
                    · exact h'
                    · rw [post_les, post_wt]; exact h'
      · exact h
theorem run_dry {S : BSch} : ∀ (es : List BEv) {n : Int} {b : Bks}, DryL S b.wt b.time b.les → DryL S (runB S es n b).2.wt (runB S es n b).2.time (runB S es n b).2.les
  | [], _, _, h => h
  | e :: r, n, b, h => by rw [run_cons]; exact run_dry r (tell_dry h)

/-- P5.9: what a weather makes of each lesson. -/
def Moved (S : BSch) (e : BEv) (a x : Les) : Prop :=
  if a.state = 0 ∧ a.start / 24 = e.day ∧ e.at_ < a.start ∧ (never S a.car).testBit e.weather.toNat = true then
    (x = { a with state := 1 }) ∨ (x = { a with start := x.start } ∧ ∃ k : Int, x.start = a.start + 24 * k ∧ 1 ≤ k)
  else x = a
theorem moves_each {S : BSch} {e : BEv} : ∀ (k i : Nat) {b : Bks}, i + k = b.les.length → (movesB S e k i b).les.length = b.les.length ∧ (∀ j, j < i → atL (movesB S e k i b).les j = atL b.les j) ∧ ∀ j, i ≤ j → j < b.les.length → Moved S e (atL b.les j) (atL (movesB S e k i b).les j)
  | 0, i, b, hk => ⟨rfl, fun _ _ => rfl, fun j h1 h2 => by omega⟩
  | k + 1, i, b, hk => by
    unfold movesB
    split
    · rename_i hc
      obtain ⟨h1, h2, h3⟩ := moves_each (S := S) (e := e) k (i + 1) (b := moveB S b i) (by rw [move_len]; omega)
      rw [move_len] at h1 h3
      refine ⟨h1, fun j hj => by rw [h2 j (by omega), move_ne (by omega)], fun j hj hjl => ?_⟩
      by_cases e1 : j = i
      · subst e1
        rw [h2 j (by omega)]
        have hc' : (atL b.les j).state = 0 ∧ (atL b.les j).start / 24 = e.day ∧ e.at_ < (atL b.les j).start ∧ (never S (atL b.les j).car).testBit e.weather.toNat = true := hc
        unfold Moved
        rw [if_pos hc']
        rcases move_at S b j with ⟨x, g1, g2, g3, _, _⟩ | g1
        · rw [g1, atL_set hjl, if_pos rfl]
          exact .inr ⟨g2, g3⟩
        · rw [g1, atL_set hjl, if_pos rfl]
          exact .inl rfl
      · have := h3 j (by omega) hjl
        rw [move_ne e1] at this
        exact this
    · rename_i hc
      obtain ⟨h1, h2, h3⟩ := moves_each (S := S) (e := e) k (i + 1) (b := b) (by omega)
      refine ⟨h1, fun j hj => h2 j (by omega), fun j hj hjl => ?_⟩
      by_cases e1 : j = i
      · subst e1
        rw [h2 j (by omega)]
        have hc' : ¬ ((atL b.les j).state = 0 ∧ (atL b.les j).start / 24 = e.day ∧ e.at_ < (atL b.les j).start ∧ (never S (atL b.les j).car).testBit e.weather.toNat = true) := hc
        unfold Moved
        rw [if_neg hc']
      · exact h3 j (by omega) hjl
end Go.Proofs.Ytkmhldjebopljaa

/-
  Who and what a lesson is of never changes; kilometres (BookKm). Of no program.
-/
namespace Go.Proofs.Ytkmhldjebopljaa

/-- Lessons that stay: their learner, car and hours. -/
def Keep (a b : List Les) : Prop := a.length ≤ b.length ∧ ∀ j, j < a.length → (atL b j).learner = (atL a j).learner ∧ (atL b j).car = (atL a j).car ∧ (atL b j).hours = (atL a j).hours
theorem Keep.refl (a : List Les) : Keep a a := ⟨Nat.le_refl _, fun _ _ => ⟨rfl, rfl, rfl⟩⟩
theorem Keep.trans {a b c : List Les} (h : Keep a b) (k : Keep b c) : Keep a c :=
  ⟨Nat.le_trans h.1 k.1, fun j hj => by
    obtain ⟨h1, h2, h3⟩ := h.2 j hj
    obtain ⟨k1, k2, k3⟩ := k.2 j (Nat.lt_of_lt_of_le hj h.1)
    exact ⟨k1.trans h1, k2.trans h2, k3.trans h3⟩⟩
theorem keep_set (ls : List Les) (i : Nat) (x : Les) (h : i < ls.length → x.learner = (atL ls i).learner ∧ x.car = (atL ls i).car ∧ x.hours = (atL ls i).hours) : Keep ls (ls.set i x) := by
  refine ⟨by simp, fun j hj => ?_⟩
  by_cases hi : i < ls.length
  · rw [atL_set hi]
    by_cases e : j = i
    · subst e; rw [if_pos rfl]; exact h hi
    · rw [if_neg e]; exact ⟨rfl, rfl, rfl⟩
  · rw [List.set_eq_of_length_le (by omega)]; exact ⟨rfl, rfl, rfl⟩
theorem keep_append (ls : List Les) (x : Les) : Keep ls (ls ++ [x]) := by
  refine ⟨by simp, fun j hj => ?_⟩
  rw [atL_append, if_neg (by omega)]
  exact ⟨rfl, rfl, rfl⟩
theorem keep_move (S : BSch) (b : Bks) (i : Nat) : Keep b.les (moveB S b i).les := by
  rcases move_at S b i with ⟨x, h1, h2, _⟩ | h1
  · rw [h1]
    refine keep_set _ _ _ fun _ => ?_
    rw [h2]; exact ⟨rfl, rfl, rfl⟩
  · rw [h1]; exact keep_set _ _ _ fun _ => ⟨rfl, rfl, rfl⟩
theorem keep_moves (S : BSch) (e : BEv) : ∀ (k i : Nat) (b : Bks), Keep b.les (movesB S e k i b).les
  | 0, _, b => Keep.refl _
  | k + 1, i, b => by
    unfold movesB
    split
    · exact (keep_move S b i).trans (keep_moves S e k (i + 1) _)
    · exact keep_moves S e k (i + 1) b
theorem keep_setLes (b : Bks) (i : Int) (f : Les → Les) (hf : ∀ l, (f l).learner = l.learner ∧ (f l).car = l.car ∧ (f l).hours = l.hours) : Keep b.les (setLes b i f).les := keep_set _ _ _ fun _ => hf _
theorem keep_kind (S : BSch) (b : Bks) (n : Int) (e : BEv) : Keep b.les (kindB S b n e).2.les := by
  unfold kindB
  split
  · unfold bookB
    repeat' split
    · exact Keep.refl _
    · exact Keep.refl _
    · exact keep_append _ _
    · exact Keep.refl _
  · split
    · unfold cancelB
      repeat' split
      · exact Keep.refl _
      · exact Keep.refl _
      · rw [post_les]; exact keep_setLes _ _ _ fun _ => ⟨rfl, rfl, rfl⟩
    · split
      · unfold weatherB
        split
        · exact Keep.refl _
        · exact keep_moves S e b.les.length 0 { b with wt := b.wt ++ [(e.day, e.weather)] }
      · split
        · unfold driveB
          repeat' split
          · exact Keep.refl _
          · exact Keep.refl _
          · exact Keep.refl _
          · exact Keep.refl _
          · rw [post_les]; exact keep_setLes b e.booking (fun l => { l with state := 2 }) fun _ => ⟨rfl, rfl, rfl⟩
        · split
          · unfold serviceB
            repeat' split
            · exact Keep.refl _
            · exact Keep.refl _
            · rw [post_les]; exact Keep.refl _
          · split
            · unfold crashB
              repeat' split
              · exact Keep.refl _
              · exact Keep.refl _
              · rw [post_les, post_les]; exact keep_setLes _ _ _ fun _ => ⟨rfl, rfl, rfl⟩
            · unfold payB
              repeat' split
              · exact Keep.refl _
              · exact Keep.refl _
              · rw [post_les]; exact Keep.refl _
theorem keep_tell (S : BSch) (b : Bks) (n : Int) (e : BEv) : Keep b.les (tellB S b n e).2.les := by
  unfold tellB
  repeat' split
  · exact Keep.refl _
  · exact Keep.refl _
  · exact keep_kind S b n e
  · exact Keep.refl _
theorem keep_run (S : BSch) : ∀ (es : List BEv) (n : Int) (b : Bks), Keep b.les (runB S es n b).2.les
  | [], _, b => Keep.refl _
  | e :: r, n, b => by rw [run_cons]; exact (keep_tell S b n e).trans (keep_run S r (n + 1) _)

/-- What an event that was done, or not, makes of kilometres. -/
def kmStep (fin : List Les) (ks : List Int × List Int) (e : BEv) (err : Int) : List Int × List Int :=
  if err ≠ 0 then ks else if e.kind = 3 then (addAt ks.1 (atL fin e.booking.toNat).car e.km, addAt ks.2 (atL fin e.booking.toNat).car e.km)
  else if e.kind = 4 then (ks.1, ks.2.set e.car.toNat 0) else ks
def kmFold (fin : List Les) : List BEv → List Int → List Int × List Int → List Int × List Int
  | e :: es, x :: xs, ks => kmFold fin es xs (kmStep fin ks e x)
  | _, _, ks => ks
theorem post_km (b : Bks) (n f t c : Int) : (postB b n f t c).km = b.km := by unfold postB; split <;> rfl
theorem post_since (b : Bks) (n f t c : Int) : (postB b n f t c).since = b.since := by unfold postB; split <;> rfl
theorem moves_km (S : BSch) (e : BEv) : ∀ (k i : Nat) (b : Bks), (movesB S e k i b).km = b.km ∧ (movesB S e k i b).since = b.since
  | 0, _, _ => ⟨rfl, rfl⟩
  | k + 1, i, b => by
    unfold movesB
    split
    · exact moves_km S e k (i + 1) (moveB S b i)
    · exact moves_km S e k (i + 1) b
theorem tell_km {S : BSch} {b : Bks} {n : Int} {e : BEv} {fin : List Les} (hf : Keep (tellB S b n e).2.les fin) : ((tellB S b n e).2.km, (tellB S b n e).2.since) = kmStep fin (b.km, b.since) e (tellB S b n e).1 := by
  have hk := keep_tell S b n e
  have hf2 := hk.trans hf
  by_cases h0 : (tellB S b n e).1 = 0
  · unfold kmStep
    rw [if_neg (by simpa using h0)]
    unfold tellB at h0 ⊢
    split at h0
    · cases h0
    · rename_i g1
      rw [if_neg g1]
      split at h0
      · cases h0
      · rename_i g2
        rw [if_neg g2]
        split at h0
        · rename_i g3
          rw [if_pos g3]
          show ((kindB S b n e).2.km, (kindB S b n e).2.since) = _
          unfold kindB at g3 ⊢
          split
          · rename_i h1
            rw [if_neg (by omega), if_neg (by omega)]
            unfold bookB
            repeat' split
            all_goals rfl
          · split
            · rename_i h1 h2
              rw [if_neg (by omega), if_neg (by omega)]
              unfold cancelB
              repeat' split
              · rfl
              · rfl
              · simp only [post_km, post_since]; rfl
            · split
              · rename_i h1 h2 h3
                rw [if_neg (by omega), if_neg (by omega)]
                unfold weatherB
                split
                · rfl
                · simp only [(moves_km S e _ _ _).1, (moves_km S e _ _ _).2]
              · split
                · rename_i h1 h2 h3 h4
                  rw [if_neg h1, if_neg h2, if_neg h3, if_pos h4] at g3
                  unfold driveB at g3 ⊢
                  split at g3
                  · cases g3
                  · rename_i hb
                    rw [if_neg hb]
                    have hb' := hasB_iff (by simpa using hb)
                    have hcar := (hf2.2 e.booking.toNat hb'.1.2).2.1
                    split at g3
                    · cases g3
                    · rename_i g4
                      rw [if_neg g4]
                      split at g3
                      · cases g3
                      · rename_i g5
                        rw [if_neg g5]
                        split at g3
                        · cases g3
                        · rename_i g6
                          rw [if_neg g6]
                          simp only [post_km, post_since]
                          rw [hcar]; rfl
                · split
                  · rename_i h1 h2 h3 h4 h5
                    rw [if_neg h1, if_neg h2, if_neg h3, if_neg h4, if_pos h5] at g3
                    unfold serviceB at g3 ⊢
                    split at g3
                    · cases g3
                    · rename_i g4
                      rw [if_neg g4]
                      split at g3
                      · cases g3
                      · rename_i g5
                        rw [if_neg g5]
                        simp only [post_km, post_since]
                  · split
                    · unfold crashB
                      repeat' split
                      · rfl
                      · rfl
                      · simp only [post_km, post_since]; rfl
                    · unfold payB
                      repeat' split
                      · rfl
                      · rfl
                      · simp only [post_km, post_since]
        · rename_i g3
          exact absurd h0 g3
  · rw [tell_refused h0]
    unfold kmStep
    rw [if_pos h0]
/-- P5.7: each car has the kilometres with which it began, and those of all events that drove it. -/
theorem run_km {S : BSch} : ∀ (es : List BEv) {n : Int} {b : Bks} {fin : List Les}, Keep (runB S es n b).2.les fin → ((runB S es n b).2.km, (runB S es n b).2.since) = kmFold fin es (runB S es n b).1 (b.km, b.since)
  | [], _, _, _, _ => rfl
  | e :: r, n, b, fin, h => by
    rw [run_cons] at h ⊢
    simp only at h ⊢
    rw [run_km r h]
    show _ = kmFold fin r _ (kmStep fin (b.km, b.since) e (tellB S b n e).1)
    rw [← tell_km ((keep_run S r (n + 1) _).trans h)]
end Go.Proofs.Ytkmhldjebopljaa

/-
  What learners pay: lessons that were driven, and fees (BookHours). Of no program.
-/
namespace Go.Proofs.Ytkmhldjebopljaa

/-- What a lesson brings that was driven. -/
def dv (S : BSch) (l : Les) : Int := if l.state = 2 ∨ l.state = 3 then l.hours * S.price else 0
def dSum (S : BSch) (ls : List Les) : Int := (ls.map (dv S)).sum
theorem sum_map_set (f : Les → Int) : ∀ (ls : List Les) (i : Nat) (x : Les), i < ls.length → ((ls.set i x).map f).sum = (ls.map f).sum + f x - f (atL ls i)
  | [], i, x, h => by simp at h
  | y :: ls, 0, x, _ => by simp [atL]; omega
  | y :: ls, i + 1, x, h => by
    have := sum_map_set f ls i x (by simpa using h)
    simp only [List.set_cons_succ, List.map_cons, List.sum_cons]
    rw [this]
    show _ = _ + _ + _ - f (atL (y :: ls) (i + 1))
    have : atL (y :: ls) (i + 1) = atL ls i := by unfold atL; rw [List.getElem?_cons_succ]
    rw [this]
    omega
theorem dSum_set {S : BSch} {ls : List Les} {i : Nat} {x : Les} (h : i < ls.length → dv S x = dv S (atL ls i)) : dSum S (ls.set i x) = dSum S ls := by
  by_cases hi : i < ls.length
  · unfold dSum; rw [sum_map_set _ _ _ _ hi, h hi]; omega
  · rw [List.set_eq_of_length_le (by omega)]
/-- What was posted from learners. -/
def paid (nl : Nat) (ps : List Pst) : Int := (ps.map fun p => if p.frm < (nl : Int) then p.cents else 0).sum
/-- Learners pay to the school alone. -/
def PaidTo (nl : Nat) (ps : List Pst) : Prop := ∀ p ∈ ps, p.frm < (nl : Int) → p.to = (nl : Int)
theorem paid_post {nl : Nat} (b : Bks) (n f t c : Int) : paid nl (postB b n f t c).pst = paid nl b.pst + if f < (nl : Int) then c else 0 := by
  unfold postB
  split
  · rename_i h; subst h; split <;> omega
  · unfold paid; simp
theorem paidTo_post {nl : Nat} {b : Bks} (h : PaidTo nl b.pst) (n : Int) {f t c : Int} (hf : f < (nl : Int) → t = (nl : Int)) : PaidTo nl (postB b n f t c).pst := by
  unfold postB
  split
  · exact h
  · intro p hp
    rcases List.mem_append.1 hp with h1 | h1
    · exact h p h1
    · rw [List.mem_singleton] at h1; subst h1; exact hf
theorem moves_pst (S : BSch) (e : BEv) : ∀ (k i : Nat) (b : Bks), (movesB S e k i b).pst = b.pst
  | 0, _, _ => rfl
  | k + 1, i, b => by
    unfold movesB
    rw [moves_pst S e k (i + 1)]
    split <;> rfl
theorem moves_dSum (S : BSch) (e : BEv) : ∀ (k i : Nat) (b : Bks), dSum S (movesB S e k i b).les = dSum S b.les
  | 0, _, _ => rfl
  | k + 1, i, b => by
    unfold movesB
    rw [moves_dSum S e k (i + 1)]
    split
    · rename_i hc
      have h0 : dv S (atL b.les i) = 0 := by
        have h0 : (atL b.les i).state = 0 := hc.1
        unfold dv; rw [if_neg (by omega)]
      rcases move_at S b i with ⟨x, h1, h2, _⟩ | h1
      · rw [h1]
        refine dSum_set fun _ => ?_
        rw [h0, h2]
        have : ({ atL b.les i with start := x.start } : Les).state = 0 := hc.1
        unfold dv; rw [if_neg (by omega)]
      · rw [h1]
        refine dSum_set fun _ => ?_
        rw [h0]
        unfold dv; rw [if_neg (by simp)]
    · rfl
/-- The fee of an event that was done. -/
def feeOf (S : BSch) (b : Bks) (e : BEv) (err : Int) : Int := if e.kind = 1 ∧ err = 0 then feeB S (lesAt b e.booking).hours ((lesAt b e.booking).start - e.at_) else 0
/-- P5.6, for an event. -/
theorem tell_paid {S : BSch} {b : Bks} {n m : Int} {e : BEv} (hok : BksOk S m b) (hto : PaidTo S.learners.length b.pst) :
    paid S.learners.length (tellB S b n e).2.pst - dSum S (tellB S b n e).2.les = paid S.learners.length b.pst - dSum S b.les + feeOf S b e (tellB S b n e).1 ∧ PaidTo S.learners.length (tellB S b n e).2.pst := by
  by_cases h0 : (tellB S b n e).1 = 0
  · have hfe : feeOf S b e (tellB S b n e).1 = if e.kind = 1 then feeB S (lesAt b e.booking).hours ((lesAt b e.booking).start - e.at_) else 0 := by
      unfold feeOf
      by_cases hk : e.kind = 1
      · rw [if_pos ⟨hk, h0⟩, if_pos hk]
      · rw [if_neg (fun h => hk h.1), if_neg hk]
    rw [hfe]
    clear hfe
    unfold tellB at h0 ⊢
    split at h0
    · cases h0
    · rename_i g1
      rw [if_neg g1]
      split at h0
      · cases h0
      · rename_i g2
        rw [if_neg g2]
        split at h0
        · rename_i g3
          rw [if_pos g3]
          show paid _ (kindB S b n e).2.pst - dSum S (kindB S b n e).2.les = _ ∧ PaidTo _ (kindB S b n e).2.pst
          clear h0
          unfold kindB at g3 ⊢
          by_cases k0 : e.kind = 0
          · rw [if_pos k0, if_neg (show ¬ e.kind = 1 by omega)]
            unfold bookB
            repeat' split
            · exact ⟨by simp only; omega, hto⟩
            · exact ⟨by simp only; omega, hto⟩
            · refine ⟨?_, hto⟩
              have : dSum S (b.les ++ [(⟨e.learner, e.car, e.start, e.hours, 0⟩ : Les)]) = dSum S b.les := by unfold dSum; simp [dv]
              show paid _ b.pst - dSum S (b.les ++ [(⟨e.learner, e.car, e.start, e.hours, 0⟩ : Les)]) = _
              rw [this]; omega
            · exact ⟨by simp only; omega, hto⟩
          · rw [if_neg k0] at g3 ⊢
            by_cases k1 : e.kind = 1
            · rw [if_pos k1] at g3 ⊢
              rw [if_pos k1]
              unfold cancelB at g3 ⊢
              split at g3
              · cases g3
              · rename_i hb
                rw [if_neg hb]
                have hb' := hasB_iff (by simpa using hb)
                have hl : LesOk S.learners.length S.cars.length (lesAt b e.booking) := les_at hok.les hb'.1.2
                split at g3
                · cases g3
                · rename_i g4
                  rw [if_neg g4]
                  refine ⟨?_, paidTo_post (b := setLes b e.booking fun l => { l with state := 1 }) hto n fun _ => rfl⟩
                  simp only
                  rw [paid_post, post_les, if_pos (by have := hl.1.2; omega)]
                  have h0 : (atL b.les e.booking.toNat).state = 0 := hb'.2
                  have : dSum S (setLes b e.booking fun l => { l with state := 1 }).les = dSum S b.les := dSum_set fun _ => by
                    have e1 : dv S (atL b.les e.booking.toNat) = 0 := by unfold dv; rw [if_neg (by omega)]
                    rw [e1]; unfold dv; rw [if_neg (by simp)]
                  rw [this]
                  show paid _ b.pst + _ - _ = _
                  omega
            · rw [if_neg k1] at g3 ⊢
              rw [if_neg k1]
              by_cases k2 : e.kind = 2
              · rw [if_pos k2]
                unfold weatherB
                split
                · exact ⟨by simp only; omega, hto⟩
                · refine ⟨?_, by show PaidTo _ (movesB S e _ _ _).pst; rw [moves_pst]; exact hto⟩
                  simp only
                  rw [moves_pst, moves_dSum]
                  show paid _ b.pst - dSum S b.les = _
                  omega
              · rw [if_neg k2] at g3 ⊢
                by_cases k3 : e.kind = 3
                · rw [if_pos k3] at g3 ⊢
                  unfold driveB at g3 ⊢
                  split at g3
                  · cases g3
                  · rename_i hb
                    rw [if_neg hb]
                    have hb' := hasB_iff (by simpa using hb)
                    have hl : LesOk S.learners.length S.cars.length (lesAt b e.booking) := les_at hok.les hb'.1.2
                    split at g3
                    · cases g3
                    · rename_i g4
                      rw [if_neg g4]
                      split at g3
                      · cases g3
                      · rename_i g5
                        rw [if_neg g5]
                        split at g3
                        · cases g3
                        · rename_i g6
                          rw [if_neg g6]
                          refine ⟨?_, paidTo_post (b := { (setLes b e.booking fun l => { l with state := 2 }) with km := addAt b.km (lesAt b e.booking).car e.km, since := addAt b.since (lesAt b e.booking).car e.km }) hto n fun _ => rfl⟩
                          simp only
                          rw [paid_post, post_les, if_pos (by have := hl.1.2; omega)]
                          have h0 : (atL b.les e.booking.toNat).state = 0 := hb'.2
                          have h2 : dSum S (setLes b e.booking fun l => { l with state := 2 }).les = dSum S b.les + (lesAt b e.booking).hours * S.price := by
                            show ((b.les.set _ _).map (dv S)).sum = _
                            rw [sum_map_set _ _ _ _ hb'.1.2]
                            have e1 : dv S (atL b.les e.booking.toNat) = 0 := by unfold dv; rw [if_neg (by omega)]
                            rw [e1]
                            unfold dv
                            rw [if_pos (.inl rfl)]
                            show dSum S b.les + (lesAt b e.booking).hours * S.price - 0 = _
                            omega
                          show paid _ b.pst + _ - dSum S (setLes b e.booking fun l => { l with state := 2 }).les = _
                          rw [h2]
                          omega
                · rw [if_neg k3] at g3 ⊢
                  by_cases k4 : e.kind = 4
                  · rw [if_pos k4]
                    unfold serviceB
                    repeat' split
                    · exact ⟨by simp only; omega, hto⟩
                    · exact ⟨by simp only; omega, hto⟩
                    · refine ⟨?_, paidTo_post (b := { b with since := b.since.set e.car.toNat 0 }) hto n fun h => by omega⟩
                      simp only
                      rw [paid_post, post_les, if_neg (by omega)]
                      show paid _ b.pst + 0 - dSum S b.les = _
                      omega
                  · rw [if_neg k4] at g3 ⊢
                    by_cases k5 : e.kind = 5
                    · rw [if_pos k5] at g3 ⊢
                      unfold crashB at g3 ⊢
                      split at g3
                      · cases g3
                      · rename_i hb
                        rw [if_neg hb]
                        have hb' := hasB_iff (by simpa using hb)
                        split at g3
                        · cases g3
                        · rename_i g4
                          rw [if_neg g4]
                          refine ⟨?_, paidTo_post (paidTo_post (b := setLes b e.booking fun l => { l with state := 3 }) hto n fun h => by omega) n fun h => by omega⟩
                          simp only
                          rw [paid_post, paid_post, post_les, post_les, if_neg (by omega), if_neg (by omega)]
                          have h0 : (atL b.les e.booking.toNat).state = 2 := hb'.2
                          have : dSum S (setLes b e.booking fun l => { l with state := 3 }).les = dSum S b.les := dSum_set fun _ => by
                            have e1 : dv S (atL b.les e.booking.toNat) = (atL b.les e.booking.toNat).hours * S.price := by unfold dv; rw [if_pos (.inl h0)]
                            rw [e1]; unfold dv; rw [if_pos (.inr rfl)]; rfl
                          rw [this]
                          show paid _ b.pst + 0 + 0 - _ = _
                          omega
                    · rw [if_neg k5]
                      unfold payB
                      repeat' split
                      · exact ⟨by simp only; omega, hto⟩
                      · exact ⟨by simp only; omega, hto⟩
                      · refine ⟨?_, paidTo_post hto n fun h => by omega⟩
                        simp only
                        rw [paid_post, post_les, if_neg (by omega)]
                        omega
        · rename_i g3; exact absurd h0 g3
  · rw [tell_refused h0]
    unfold feeOf
    rw [if_neg (fun h => h0 h.2)]
    exact ⟨by omega, hto⟩
end Go.Proofs.Ytkmhldjebopljaa

/-
  How great the numbers of a school's books can be, after n events; the weathers of a day as bits. Of no program.
-/
namespace Go.Proofs.Ytkmhldjebopljaa

structure BksLim (n : Nat) (b : Bks) : Prop where
  acc : ∀ a ∈ b.acc, -(n * 40000000) ≤ a ∧ a ≤ n * 40000000
  km : ∀ a ∈ b.km, 0 ≤ a ∧ a ≤ 1000000 + 400 * n
  since : ∀ a ∈ b.since, 0 ≤ a ∧ a ≤ 400 * n
  pst : b.pst.length ≤ 2 * n
  les : b.les.length ≤ n
  wt : b.wt.length ≤ n
  wts : ∀ s ∈ b.wt, (0 ≤ s.1 ∧ s.1 ≤ 200) ∧ 0 ≤ s.2 ∧ s.2 ≤ 7
theorem addAt_lim {l : List Int} {i x lo hi dl dh : Int} (h : ∀ a ∈ l, lo ≤ a ∧ a ≤ hi) (h0 : dl ≤ 0 ∧ 0 ≤ dh) (hx : dl ≤ x ∧ x ≤ dh) : ∀ a ∈ addAt l i x, lo + dl ≤ a ∧ a ≤ hi + dh := by
  intro a ha
  unfold addAt at ha
  rcases Nat.lt_or_ge i.toNat l.length with hi | hi
  · rcases List.mem_or_eq_of_mem_set ha with ha | rfl
    · have := h a ha; omega
    · have := h _ (List.getElem_mem hi)
      rw [List.getElem?_eq_getElem hi, Option.getD_some]
      omega
  · rw [List.set_eq_of_length_le hi] at ha
    have := h a ha; omega
theorem post_lim {b : Bks} {n f t c : Int} {K D : Int} (h : ∀ a ∈ b.acc, -K ≤ a ∧ a ≤ K) (hc : 0 ≤ c ∧ c ≤ D) : ∀ a ∈ (postB b n f t c).acc, -(K + 2 * D) ≤ a ∧ a ≤ K + 2 * D := by
  intro a ha
  unfold postB at ha
  split at ha
  · have := h a ha; omega
  · have := addAt_lim (i := t) (x := c) (dl := 0) (dh := D) (addAt_lim (i := f) (x := -c) (dl := -D) (dh := 0) h (by omega) (by omega)) (by omega) (by omega) a ha
    omega
theorem post_lim_ {b : Bks} {n f t c a : Int} (ha : a ∈ (postB b n f t c).acc) {K D : Int} (h : ∀ a ∈ b.acc, -K ≤ a ∧ a ≤ K) (hc : 0 ≤ c ∧ c ≤ D) : -(K + 2 * D) ≤ a ∧ a ≤ K + 2 * D := post_lim h hc a ha
theorem post_pst (b : Bks) (n f t c : Int) : (postB b n f t c).pst.length ≤ b.pst.length + 1 := by
  unfold postB
  split
  · omega
  · simp
theorem post_time (b : Bks) (n f t c : Int) : (postB b n f t c).time = b.time := by unfold postB; split <;> rfl
theorem moves_len (S : BSch) (e : BEv) : ∀ (k i : Nat) (b : Bks), (movesB S e k i b).les.length = b.les.length
  | 0, _, _ => rfl
  | k + 1, i, b => by
    unfold movesB
    rw [moves_len S e k]
    split
    · exact move_len S b i
    · rfl
theorem moves_acc (S : BSch) (e : BEv) : ∀ (k i : Nat) (b : Bks), (movesB S e k i b).acc = b.acc ∧ (movesB S e k i b).time = b.time
  | 0, _, _ => ⟨rfl, rfl⟩
  | k + 1, i, b => by
    unfold movesB
    have := moves_acc S e k (i + 1) (if (b.les[i]?.getD default).state = 0 ∧ (b.les[i]?.getD default).start / 24 = e.day ∧ e.at_ < (b.les[i]?.getD default).start ∧ (never S (b.les[i]?.getD default).car).testBit e.weather.toNat = true then moveB S b i else b)
    rw [this.1, this.2]
    split <;> exact ⟨rfl, rfl⟩
/-- What changes in an event: bounds of it. -/
structure Step (b c : Bks) : Prop where
  acc : ∀ K : Int, (∀ a ∈ b.acc, -K ≤ a ∧ a ≤ K) → ∀ a ∈ c.acc, -(K + 40000000) ≤ a ∧ a ≤ K + 40000000
  km : ∀ K : Int, (∀ a ∈ b.km, 0 ≤ a ∧ a ≤ K) → ∀ a ∈ c.km, 0 ≤ a ∧ a ≤ K + 400
  since : ∀ K : Int, 0 ≤ K → (∀ a ∈ b.since, 0 ≤ a ∧ a ≤ K) → ∀ a ∈ c.since, 0 ≤ a ∧ a ≤ K + 400
  pst : c.pst.length ≤ b.pst.length + 2
  les : c.les.length ≤ b.les.length + 1
  wt : c.wt.length ≤ b.wt.length + 1
  wts : (∀ s ∈ b.wt, (0 ≤ s.1 ∧ s.1 ≤ 200) ∧ 0 ≤ s.2 ∧ s.2 ≤ 7) → ∀ s ∈ c.wt, (0 ≤ s.1 ∧ s.1 ≤ 200) ∧ 0 ≤ s.2 ∧ s.2 ≤ 7
theorem Step.refl (b : Bks) : Step b b :=
  ⟨fun K h a ha => by have := h a ha; omega, fun K h a ha => by have := h a ha; omega, fun K _ h a ha => by have := h a ha; omega, by omega, by omega, by omega, fun h => h⟩
theorem Step.lim {n : Nat} {b c : Bks} (h : Step b c) (hb : BksLim n b) : BksLim (n + 1) c :=
  ⟨fun a ha => by have := h.acc _ hb.acc a ha; omega, fun a ha => by have := h.km _ hb.km a ha; omega, fun a ha => by have := h.since _ (by omega) hb.since a ha; omega, by have := h.pst; have := hb.pst; omega, by have := h.les; have := hb.les; omega,
    by have := h.wt; have := hb.wt; omega, h.wts hb.wts⟩
theorem book_step (S : BSch) (b : Bks) (e : BEv) : Step b (bookB S b e).2 := by
  unfold bookB
  repeat' split
  all_goals first
    | exact Step.refl b
    | exact ⟨(Step.refl b).acc, (Step.refl b).km, (Step.refl b).since, (Step.refl b).pst, by simp, (Step.refl b).wt, fun h => h⟩
theorem cancel_step {S : BSch} (hS : SchOk S) {b : Bks} {m : Int} (hok : BksOk S m b) (n : Int) (e : BEv) : Step b (cancelB S b n e).2 := by
  unfold cancelB
  split
  · exact Step.refl b
  · rename_i hb
    have hb := hasB_iff (by simpa using hb)
    have hl : LesOk S.learners.length S.cars.length (lesAt b e.booking) := les_at hok.les hb.1.2
    split
    · exact Step.refl b
    · have hf := feeB_in hS (hours := (lesAt b e.booking).hours) (before := (lesAt b e.booking).start - e.at_) (by have := hl.2.2.1; omega)
      have hp := hS.price
      have h1 : (lesAt b e.booking).hours * S.price ≤ 4 * S.price := Int.mul_le_mul_of_nonneg_right hl.2.2.1.2 (by omega)
      generalize feeB S (lesAt b e.booking).hours ((lesAt b e.booking).start - e.at_) = f at *
      refine ⟨fun K h a ha => ?_, ?_, ?_, ?_, ?_, ?_, ?_⟩
      · have := post_lim_ ha (D := 20000000) (K := K) h (by omega)
        omega
      · rw [post_km]; exact (Step.refl b).km
      · rw [post_since]; exact (Step.refl b).since
      · exact Nat.le_trans (post_pst _ _ _ _ _) (by show b.pst.length + 1 ≤ _; omega)
      · rw [post_les]; show (b.les.set _ _).length ≤ _; rw [List.length_set]; omega
      · rw [post_wt]; exact (Step.refl b).wt
      · rw [post_wt]; exact fun h => h
theorem weather_step (S : BSch) (b : Bks) (e : BEv) : Step b (weatherB S b e).2 := by
  unfold weatherB
  split
  · exact Step.refl b
  · rename_i h
    simp only [not_or, Bool.not_eq_false, inI_iff] at h
    refine ⟨?_, ?_, ?_, ?_, ?_, ?_, ?_⟩
    · rw [(moves_acc S e _ _ _).1]; exact (Step.refl b).acc
    · rw [(moves_km S e _ _ _).1]; exact (Step.refl b).km
    · rw [(moves_km S e _ _ _).2]; exact (Step.refl b).since
    · rw [moves_pst]; exact (Step.refl b).pst
    · rw [moves_len]; exact (Step.refl b).les
    · rw [moves_wt]; simp
    · rw [moves_wt]
      intro hw s hs
      rcases List.mem_append.1 hs with hs | hs
      · exact hw s hs
      · rw [List.mem_singleton] at hs; subst hs; exact ⟨h.1, h.2⟩
theorem drive_step {S : BSch} (hS : SchOk S) {b : Bks} {m : Int} (hok : BksOk S m b) (n : Int) (e : BEv) : Step b (driveB S b n e).2 := by
  unfold driveB
  split
  · exact Step.refl b
  · rename_i hb
    have hb := hasB_iff (by simpa using hb)
    have hl : LesOk S.learners.length S.cars.length (lesAt b e.booking) := les_at hok.les hb.1.2
    split
    · exact Step.refl b
    · split
      · exact Step.refl b
      · rename_i hk
        simp only [Bool.not_eq_false, inI_iff] at hk
        split
        · exact Step.refl b
        · have hp := hS.price
          have h0 : 0 ≤ (lesAt b e.booking).hours * S.price := Int.mul_nonneg (by have := hl.2.2.1; omega) (by omega)
          have h1 : (lesAt b e.booking).hours * S.price ≤ 4 * S.price := Int.mul_le_mul_of_nonneg_right hl.2.2.1.2 (by omega)
          refine ⟨fun K h a ha => ?_, ?_, ?_, ?_, ?_, ?_, ?_⟩
          · have := post_lim_ ha (D := 20000000) (K := K) h (by omega)
            omega
          · rw [post_km]; intro K h a ha; have := addAt_lim (dl := 0) (dh := 400) h (by omega) (by omega) a ha; omega
          · rw [post_since]; intro K _ h a ha; have := addAt_lim (dl := 0) (dh := 400) h (by omega) (by omega) a ha; omega
          · exact Nat.le_trans (post_pst _ _ _ _ _) (by show b.pst.length + 1 ≤ _; omega)
          · rw [post_les]; show (b.les.set _ _).length ≤ _; rw [List.length_set]; omega
          · rw [post_wt]; exact (Step.refl b).wt
          · rw [post_wt]; exact fun h => h
theorem service_step (S : BSch) (b : Bks) (n : Int) (e : BEv) : Step b (serviceB S b n e).2 := by
  unfold serviceB
  split
  · exact Step.refl b
  · split
    · exact Step.refl b
    · rename_i hc
      simp only [Bool.not_eq_false, inI_iff] at hc
      refine ⟨fun K h a ha => ?_, ?_, ?_, ?_, ?_, ?_, ?_⟩
      · have := post_lim_ ha (D := 20000000) (K := K) h (by omega)
        omega
      · rw [post_km]; exact (Step.refl b).km
      · rw [post_since]
        intro K hK h a ha
        rcases List.mem_or_eq_of_mem_set ha with ha | rfl
        · have := h a ha; omega
        · omega
      · exact Nat.le_trans (post_pst _ _ _ _ _) (by show b.pst.length + 1 ≤ _; omega)
      · rw [post_les]; exact (Step.refl b).les
      · rw [post_wt]; exact (Step.refl b).wt
      · rw [post_wt]; exact fun h => h
theorem crash_step {S : BSch} (hS : SchOk S) (b : Bks) (n : Int) (e : BEv) : Step b (crashB S b n e).2 := by
  unfold crashB
  split
  · exact Step.refl b
  · split
    · exact Step.refl b
    · rename_i hc
      simp only [Bool.not_eq_false, inI_iff] at hc
      have hx := hS.excess
      refine ⟨fun K h a ha => ?_, ?_, ?_, ?_, ?_, ?_, ?_⟩
      · have := post_lim_ ha (D := 10000000) (K := K + 2 * 10000000) (fun a ha => post_lim_ ha (D := 10000000) (K := K) h (by omega)) (by omega)
        omega
      · rw [post_km, post_km]; exact (Step.refl b).km
      · rw [post_since, post_since]; exact (Step.refl b).since
      · exact Nat.le_trans (post_pst _ _ _ _ _) (Nat.succ_le_succ (Nat.le_trans (post_pst _ _ _ _ _) (Nat.le_refl _)))
      · rw [post_les, post_les]; show (b.les.set _ _).length ≤ _; rw [List.length_set]; omega
      · rw [post_wt, post_wt]; exact (Step.refl b).wt
      · rw [post_wt, post_wt]; exact fun h => h
theorem pay_step (S : BSch) (b : Bks) (n : Int) (e : BEv) : Step b (payB S b n e).2 := by
  unfold payB
  split
  · exact Step.refl b
  · split
    · exact Step.refl b
    · rename_i hc
      simp only [Bool.not_eq_false, inI_iff] at hc
      refine ⟨fun K h a ha => ?_, ?_, ?_, ?_, ?_, ?_, ?_⟩
      · have := post_lim_ ha (D := 20000000) (K := K) h (by omega)
        omega
      · rw [post_km]; exact (Step.refl b).km
      · rw [post_since]; exact (Step.refl b).since
      · exact Nat.le_trans (post_pst _ _ _ _ _) (by show b.pst.length + 1 ≤ _; omega)
      · rw [post_les]; exact (Step.refl b).les
      · rw [post_wt]; exact (Step.refl b).wt
      · rw [post_wt]; exact fun h => h
theorem kind_step {S : BSch} (hS : SchOk S) {b : Bks} {m : Int} (hok : BksOk S m b) (n : Int) (e : BEv) : Step b (kindB S b n e).2 := by
  unfold kindB
  repeat' split
  · exact book_step S b e
  · exact cancel_step hS hok n e
  · exact weather_step S b e
  · exact drive_step hS hok n e
  · exact service_step S b n e
  · exact crash_step hS b n e
  · exact pay_step S b n e
theorem tell_lim {S : BSch} (hS : SchOk S) {b : Bks} {m : Int} (hok : BksOk S m b) {k : Nat} (h : BksLim k b) (n : Int) (e : BEv) : BksLim (k + 1) (tellB S b n e).2 := by
  refine Step.lim ?_ h
  unfold tellB
  split
  · exact Step.refl b
  · split
    · exact Step.refl b
    · split
      · have := kind_step hS hok n e
        exact ⟨this.acc, this.km, this.since, this.pst, this.les, this.wt, this.wts⟩
      · exact Step.refl b
theorem start_lim {S : BSch} (h : ∀ c ∈ S.cars, 0 ≤ c.km ∧ c.km ≤ 1000000) : BksLim 0 (startB S) := by
  refine ⟨?_, ?_, ?_, by simp [startB], by simp [startB], by simp [startB], by simp [startB]⟩
  · intro a ha
    simp only [startB, List.mem_replicate] at ha
    omega
  · intro a ha
    simp only [startB, List.mem_map] at ha
    obtain ⟨c, hc, rfl⟩ := ha
    have := h c hc
    omega
  · intro a ha
    simp only [startB, List.mem_map] at ha
    obtain ⟨c, _, rfl⟩ := ha
    omega

/-- The weathers of a day, as bits. -/
def wbits : List (Int × Int) → Int → Nat
  | [], _ => 0
  | s :: r, day => if s.1 = day then wbits r day ||| (1 <<< s.2.toNat) else wbits r day
theorem wbits_append (d x day : Int) : ∀ wt : List (Int × Int), wbits (wt ++ [(d, x)]) day = if d = day then wbits wt day ||| (1 <<< x.toNat) else wbits wt day
  | [] => by simp [wbits]
  | s :: r => by
    simp only [List.cons_append, wbits, wbits_append d x day r]
    split <;> split <;> first | rfl | (rw [Nat.or_assoc, Nat.or_assoc, Nat.or_comm (1 <<< x.toNat)])
theorem wbits_lt (day : Int) : ∀ wt : List (Int × Int), (∀ s ∈ wt, 0 ≤ s.2 ∧ s.2 ≤ 7) → wbits wt day < 256
  | [], _ => by simp [wbits]
  | s :: r, h => by
    have ih := wbits_lt day r fun x hx => h x (List.mem_cons_of_mem _ hx)
    have hs := h s (List.mem_cons_self ..)
    unfold wbits
    split
    · refine Nat.or_lt_two_pow (n := 8) ih ?_
      rw [Nat.one_shiftLeft]
      exact Nat.pow_lt_pow_right (by omega) (by omega)
    · exact ih
theorem wbits_test (day : Int) (i : Nat) : ∀ wt : List (Int × Int), (∀ s ∈ wt, 0 ≤ s.2 ∧ s.2 ≤ 7) → (wbits wt day).testBit i = wt.any fun s => decide (s.1 = day) && decide (s.2.toNat = i)
  | [], _ => by simp [wbits]
  | s :: r, h => by
    have ih := wbits_test day i r fun x hx => h x (List.mem_cons_of_mem _ hx)
    unfold wbits
    rw [List.any_cons, ← ih]
    split
    · rename_i he
      rw [Nat.testBit_or, Nat.one_shiftLeft, Nat.testBit_two_pow]
      simp [he, Bool.or_comm]
    · rename_i he
      simp [he]
/-- A car is driven just if none of the day's weathers is one of those in which it is not. -/
theorem dry_bits (S : BSch) (wt : List (Int × Int)) (h : ∀ s ∈ wt, 0 ≤ s.2 ∧ s.2 ≤ 7) (car day : Int) : dryB S wt car day = decide (wbits wt day &&& never S car = 0) := by
  rw [Bool.eq_iff_iff, decide_eq_true_iff]
  unfold dryB
  rw [List.all_eq_true]
  constructor
  · intro hd
    apply Nat.eq_of_testBit_eq
    intro i
    rw [Nat.testBit_and, wbits_test day i wt h, Nat.zero_testBit]
    cases hn : (never S car).testBit i with
    | false => simp
    | true =>
      rw [Bool.and_true, List.any_eq_false]
      intro s hs
      have := hd s hs
      simp only [Bool.not_eq_true', Bool.and_eq_false_iff, decide_eq_false_iff_not] at this
      simp only [Bool.and_eq_true, decide_eq_true_iff, not_and]
      rintro he rfl
      rcases this with h1 | h1
      · exact h1 he
      · rw [hn] at h1; cases h1
  · intro h0 s hs
    have := congrArg (fun x => x.testBit s.2.toNat) h0
    simp only [Nat.testBit_and, Nat.zero_testBit, wbits_test day s.2.toNat wt h] at this
    cases hn : (never S car).testBit s.2.toNat with
    | false => simp
    | true =>
      rw [hn, Bool.and_true, List.any_eq_false] at this
      have := this s hs
      simp at this
      simp [this]
end Go.Proofs.Ytkmhldjebopljaa
