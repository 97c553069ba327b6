import Derived.Orders
import Derived.Deep.Draws
import Derived.Below
import Derived.Tactics
import Derived.WalkKit
/-
  The calendar as plain mathematics: nothing of the program.
-/
namespace Go.Proofs.YtjfdfhnfcpfmcaaGreatDoor.Cal
def leapP (y : Int) : Prop := y % 4 = 0 ∧ y % 100 ≠ 0 ∨ y % 400 = 0
instance (y : Int) : Decidable (leapP y) := by unfold leapP; exact inferInstance
def leapB (y : Int) : Bool := decide (leapP y)
theorem leapB_iff {y : Int} : leapB y = true ↔ leapP y := by simp [leapB]
theorem tm (y n : Int) : y.tmod n = 0 ↔ y % n = 0 := by
  rw [← Int.dvd_iff_tmod_eq_zero, Int.dvd_iff_emod_eq_zero]
theorem leapB_yes {y : Int} (h : y.tmod 4 = 0 ∧ ¬ y.tmod 100 = 0 ∨ y.tmod 400 = 0) : leapB y = true := by
  simp only [tm] at h; rw [leapB_iff]; exact h
theorem leapB_mid {y : Int} (h : ¬ (y.tmod 4 = 0 ∧ ¬ y.tmod 100 = 0)) : leapB y = (y.tmod 400 == 0) := by
  simp only [tm] at h
  rw [Bool.eq_iff_iff, leapB_iff, beq_iff_eq, tm]
  unfold leapP; omega
/-- The length of month m of a year that is no leap year. -/
def monthTab : Nat → Int
  | 0 => 31 | 1 => 28 | 2 => 31 | 3 => 30 | 4 => 31 | 5 => 30 | 6 => 31 | 7 => 31 | 8 => 30 | 9 => 31 | 10 => 30 | 11 => 31 | _ => 0
def dim (y m : Int) : Int := if m = 2 ∧ leapB y = true then 29 else monthTab (m.toNat - 1)
def diy (y : Int) : Int := if leapB y = true then 366 else 365
theorem monthTab_bd (k : Nat) (h : k < 12) : 28 ≤ monthTab k ∧ monthTab k ≤ 31 := by
  rcases (show k = 0 ∨ k = 1 ∨ k = 2 ∨ k = 3 ∨ k = 4 ∨ k = 5 ∨ k = 6 ∨ k = 7 ∨ k = 8 ∨ k = 9 ∨ k = 10 ∨ k = 11 by omega) with rfl | rfl | rfl | rfl | rfl | rfl | rfl | rfl | rfl | rfl | rfl | rfl <;> decide
theorem dim_bd (y m : Int) (h1 : 1 ≤ m) (h2 : m ≤ 12) : 28 ≤ dim y m ∧ dim y m ≤ 31 := by
  have := monthTab_bd (m.toNat - 1) (by omega)
  unfold dim; split <;> omega
theorem diy_bd (y : Int) : 365 ≤ diy y ∧ diy y ≤ 366 := by unfold diy; split <;> omega

/-- How many days the first n years from 2000 on have. -/
def sumY : Nat → Int
  | 0 => 0
  | n + 1 => sumY n + diy (2000 + n)
/-- How many days the first n months of a year have. -/
def cumM (y : Int) : Nat → Int
  | 0 => 0
  | n + 1 => cumM y n + dim y (n + 1)
/-- The number of a date from 2000 on. -/
def num (y m d : Int) : Int := d - 1 + sumY (y - 2000).toNat + cumM y (m.toNat - 1)
theorem sumY_step (n : Nat) : 365 ≤ sumY (n + 1) - sumY n ∧ sumY (n + 1) - sumY n ≤ 366 := by
  have := diy_bd (2000 + n); simp only [sumY]; omega
theorem sumY_ge (n : Nat) : 365 * (n : Int) ≤ sumY n ∧ sumY n ≤ 366 * (n : Int) := by
  induction n with
  | zero => simp [sumY]
  | succ n ih => have := sumY_step n; omega
theorem sumY_mono {a b : Nat} (h : a ≤ b) : sumY a ≤ sumY b := by
  induction h with
  | refl => exact Int.le_refl _
  | step _ ih => have := sumY_step ‹Nat›; simp only [Nat.succ_eq_add_one] at *; omega
theorem cumM_step (y : Int) (n : Nat) (h : n < 12) : 28 ≤ cumM y (n + 1) - cumM y n ∧ cumM y (n + 1) - cumM y n ≤ 31 := by
  have := dim_bd y (n + 1) (by omega) (by omega); simp only [cumM]; omega
theorem cumM_ge (y : Int) (n : Nat) (h : n ≤ 12) : 28 * (n : Int) ≤ cumM y n ∧ cumM y n ≤ 31 * (n : Int) := by
  induction n with
  | zero => simp [cumM]
  | succ n ih => have := cumM_step y n (by omega); have := ih (by omega); omega
/-- What dayOf returns: the number, or (beyond 40000) some number beyond 40000 as well. -/
def DayIs (y m d r : Int) : Prop := 0 ≤ r ∧ r ≤ 50000 ∧ (r = num y m d ∨ 40000 < r ∧ 40000 < num y m d)
theorem dayIs_of (y m d : Int) (n : Nat) (hy : 2000 ≤ y) (hm : 1 ≤ m) (hm2 : m ≤ 12) (hd : 1 ≤ d) (hd2 : d ≤ 31) (hn : 2000 + (n : Int) ≤ y) (hb : d - 1 + sumY n ≤ 41000)
    (hend : 2000 + (n : Int) = y ∨ 40000 < d - 1 + sumY n) : DayIs y m d (d - 1 + sumY n + cumM y (m.toNat - 1)) := by
  have h1 := cumM_ge y (m.toNat - 1) (by omega)
  have h2 := sumY_ge n
  refine ⟨by omega, by omega, ?_⟩
  rcases hend with h | h
  · left; unfold num; rw [show (y - 2000).toNat = n by omega]
  · right
    have h3 : sumY n ≤ sumY (y - 2000).toNat := sumY_mono (by omega)
    unfold num; omega

theorem cumM_12 (y : Int) : cumM y 12 = diy y := by
  simp only [cumM, dim, diy, monthTab]
  by_cases h : leapB y = true <;> simp [h]
theorem cumM_mono (y : Int) {a b : Nat} (h : a ≤ b) (hb : b ≤ 12) : cumM y a ≤ cumM y b := by
  induction h with
  | refl => exact Int.le_refl _
  | step _ ih => have := cumM_step y ‹Nat› (by omega); have := ih (by omega); simp only [Nat.succ_eq_add_one] at *; omega
/-- (y, m, d) is a date from 2000 on, and its number is n. -/
def DateIs (n y m d : Int) : Prop := 2000 ≤ y ∧ 1 ≤ m ∧ m ≤ 12 ∧ 1 ≤ d ∧ d ≤ dim y m ∧ num y m d = n
theorem dateIs_of (n : Int) (k j : Nat) (hj : j ≤ 11) (h1 : 1 ≤ n + 1 - sumY k - cumM (2000 + k) j) (h2 : n + 1 - sumY k - cumM (2000 + k) j ≤ dim (2000 + k) (j + 1)) :
    DateIs n (2000 + k) (j + 1) (n + 1 - sumY k - cumM (2000 + k) j) := by
  refine ⟨by omega, by omega, by omega, h1, h2, ?_⟩
  unfold num
  rw [show ((2000 : Int) + k - 2000).toNat = k by omega, show ((j : Int) + 1).toNat - 1 = j by omega]
  omega
theorem month_more (n : Int) (k j : Nat) (hj : j ≤ 11) (hk : n + 1 - sumY k ≤ diy (2000 + k)) (h : dim (2000 + k) (j + 1) < n + 1 - sumY k - cumM (2000 + k) j) : j + 1 ≤ 11 := by
  rcases Nat.lt_or_ge j 11 with h' | h'
  · omega
  · obtain rfl : j = 11 := by omega
    have h12 := cumM_12 (2000 + k)
    rw [show cumM (2000 + (k : Int)) 12 = cumM (2000 + k) 11 + dim (2000 + k) ((11 : Nat) + 1) from rfl] at h12
    omega

/-- r is what the day n plus years and months is (or some number beyond 40000 in its place). -/
def PlusIs (n years months r : Int) : Prop := ∃ y m d, DateIs n y m d ∧
  DayIs (y + (years + (m - 1 + months) / 12)) ((m - 1 + months) % 12 + 1) (min d (dim (y + (years + (m - 1 + months) / 12)) ((m - 1 + months) % 12 + 1))) r
theorem dateIs_bd {n y m d : Int} (h : DateIs n y m d) (hn : n ≤ 40000) : y ≤ 2110 ∧ d ≤ 31 := by
  obtain ⟨h1, h2, h3, h4, h5, h6⟩ := h
  have := dim_bd y m h2 h3
  have g1 := cumM_ge y (m.toNat - 1) (by omega)
  have g2 := sumY_ge (y - 2000).toNat
  unfold num at h6
  omega

def isDate (y m d : Int) : Prop := 1 ≤ m ∧ m ≤ 12 ∧ 1 ≤ d ∧ d ≤ dim y m
instance (y m d : Int) : Decidable (isDate y m d) := by unfold isDate; exact inferInstance
/-- What Day returns: the number and the error. -/
def dayF (y m d : Int) : Int × Int := if isDate y m d then (if y < 2000 ∨ 40000 < num y m d then (0, 7) else (num y m d, 0)) else (0, 6)

theorem dateIs_year {n y m d : Int} (h : DateIs n y m d) : sumY (y - 2000).toNat ≤ n ∧ n < sumY ((y - 2000).toNat + 1) := by
  obtain ⟨h1, h2, h3, h4, h5, h6⟩ := h
  have g1 := cumM_ge y (m.toNat - 1) (by omega)
  have g2 : cumM y (m.toNat - 1 + 1) = cumM y (m.toNat - 1) + dim y m := by
    simp only [cumM]; rw [show ((m.toNat - 1 : Nat) : Int) + 1 = m by omega]
  have g3 := cumM_mono y (a := m.toNat - 1 + 1) (b := 12) (by omega) (by omega)
  rw [cumM_12] at g3
  have g4 : sumY ((y - 2000).toNat + 1) = sumY (y - 2000).toNat + diy y := by
    simp only [sumY]; rw [show 2000 + ((y - 2000).toNat : Int) = y by omega]
  unfold num at h6
  omega
theorem dateIs_years {n n' y m d y' m' d' : Int} (h : DateIs n y m d) (h' : DateIs n' y' m' d') (hn : n ≤ n') : y ≤ y' := by
  have a := dateIs_year h
  have b := dateIs_year h'
  rcases Int.lt_or_le y' y with hlt | hge
  · have := sumY_mono (a := (y' - 2000).toNat + 1) (b := (y - 2000).toNat) (by have := h'.1; omega)
    omega
  · exact hge
/-- (a, e) is what Plus returns. -/
def PlusR (n years months a e : Int) : Prop :=
  ¬ ((0 ≤ n ∧ n ≤ 40000) ∧ (0 ≤ years ∧ years ≤ 100) ∧ (0 ≤ months ∧ months ≤ 1200)) ∧ a = 0 ∧ e = 7 ∨
  ((0 ≤ n ∧ n ≤ 40000) ∧ (0 ≤ years ∧ years ≤ 100) ∧ (0 ≤ months ∧ months ≤ 1200)) ∧ ∃ r, PlusIs n years months r ∧ (40000 < r ∧ a = 0 ∧ e = 7 ∨ r ≤ 40000 ∧ a = r ∧ e = 0)
/-- (a, e) is what Age returns. -/
def AgeR (born day a e : Int) : Prop :=
  ¬ ((0 ≤ born ∧ born ≤ 40000) ∧ (0 ≤ day ∧ day ≤ 40000)) ∧ a = 0 ∧ e = 7 ∨
  ((0 ≤ born ∧ born ≤ 40000) ∧ (0 ≤ day ∧ day ≤ 40000)) ∧ day < born ∧ a = 0 ∧ e = 2 ∨
  ((0 ≤ born ∧ born ≤ 40000) ∧ (0 ≤ day ∧ day ≤ 40000)) ∧ born ≤ day ∧ e = 0 ∧ ∃ y m d y' m' d' r, DateIs day y m d ∧ DateIs born y' m' d' ∧ PlusIs born (y - y') 0 r ∧ (day < r ∧ a = y - y' - 1 ∨ r ≤ day ∧ a = y - y')
end Go.Proofs.YtjfdfhnfcpfmcaaGreatDoor.Cal

/-
  The calendar as plain mathematics: a day has one date; what follows of the later one of two days; a day plus years and months is one number; ages.
-/
namespace Go.Proofs.YtjfdfhnfcpfmcaaGreatDoor.Cal
theorem dateIs_uniq {n y m d y' m' d' : Int} (h : DateIs n y m d) (h' : DateIs n y' m' d') : y = y' ∧ m = m' ∧ d = d' := by
  have a := dateIs_years h h' (Int.le_refl _)
  have b := dateIs_years h' h (Int.le_refl _)
  obtain rfl : y = y' := by omega
  obtain ⟨h1, h2, h3, h4, h5, h6⟩ := h
  obtain ⟨g1, g2, g3, g4, g5, g6⟩ := h'
  have key : ∀ {m d m' d' : Int}, 1 ≤ m → m ≤ 12 → d ≤ dim y m → 1 ≤ d' → m' ≤ 12 → num y m d = num y m' d' → m < m' → False := by
    intro m d m' d' h2 h3 h5 g4 g3 hn hlt
    have s : cumM y (m.toNat - 1 + 1) = cumM y (m.toNat - 1) + dim y m := by
      simp only [cumM]; rw [show ((m.toNat - 1 : Nat) : Int) + 1 = m by omega]
    have mo := cumM_mono y (a := m.toNat - 1 + 1) (b := m'.toNat - 1) (by omega) (by omega)
    unfold num at hn
    omega
  have hm : m = m' := by
    rcases Int.lt_trichotomy m m' with hlt | he | hgt
    · exact (key h2 h3 h5 g4 g3 (h6.trans g6.symm) hlt).elim
    · exact he
    · exact (key g2 g3 g5 h4 h3 (g6.trans h6.symm) hgt).elim
  subst hm
  refine ⟨rfl, rfl, ?_⟩
  unfold num at h6 g6
  omega
/-- (y, m, d) is before (y', m', d'). -/
def Bef (y m d y' m' d' : Int) : Prop := if y = y' then (if m = m' then d < d' else m < m') else y < y'
theorem dateIs_lt {n n' y m d y' m' d' : Int} (h : DateIs n y m d) (h' : DateIs n' y' m' d') (hn : n < n') : Bef y m d y' m' d' := by
  have hy := dateIs_years h h' (by omega)
  unfold Bef
  by_cases e : y = y'
  · subst e
    rw [if_pos rfl]
    obtain ⟨h1, h2, h3, h4, h5, h6⟩ := h
    obtain ⟨g1, g2, g3, g4, g5, g6⟩ := h'
    by_cases e : m = m'
    · subst e
      rw [if_pos rfl]
      unfold num at h6 g6; omega
    · rw [if_neg e]
      rcases Int.lt_or_le m m' with hlt | hge
      · exact hlt
      · exfalso
        have hgt : m' < m := by omega
        have s : cumM y (m'.toNat - 1 + 1) = cumM y (m'.toNat - 1) + dim y m' := by
          simp only [cumM]; rw [show ((m'.toNat - 1 : Nat) : Int) + 1 = m' by omega]
        have mo := cumM_mono y (a := m'.toNat - 1 + 1) (b := m.toNat - 1) (by omega) (by omega)
        unfold num at h6 g6
        omega
  · rw [if_neg e]; omega
theorem bef_irrefl (y m d y' m' d' : Int) (h : Bef y m d y' m' d') (h' : Bef y' m' d' y m d) : False := by
  unfold Bef at h h'
  by_cases e : y = y'
  · subst e
    rw [if_pos rfl] at h h'
    by_cases e : m = m'
    · subst e
      rw [if_pos rfl] at h h'; omega
    · rw [if_neg e] at h; rw [if_neg (Ne.symm e)] at h'; omega
  · rw [if_neg e] at h; rw [if_neg (Ne.symm e)] at h'; omega
instance (y m d y' m' d' : Int) : Decidable (Bef y m d y' m' d') := by unfold Bef; exact inferInstance
theorem dateIs_bef {n n' y m d y' m' d' : Int} (h : DateIs n y m d) (h' : DateIs n' y' m' d') : n < n' ↔ Bef y m d y' m' d' := by
  refine ⟨dateIs_lt h h', fun hb => ?_⟩
  rcases Int.lt_trichotomy n n' with hlt | he | hgt
  · exact hlt
  · subst he
    obtain ⟨rfl, rfl, rfl⟩ := dateIs_uniq h h'
    exact (bef_irrefl _ _ _ _ _ _ hb hb).elim
  · exact (bef_irrefl _ _ _ _ _ _ hb (dateIs_lt h' h hgt)).elim
theorem dateIs_day {n y m d : Int} (h : DateIs n y m d) (hn : n ≤ 40000) : dayF y m d = (n, 0) := by
  obtain ⟨h1, h2, h3, h4, h5, h6⟩ := h
  unfold dayF
  rw [if_pos ⟨h2, h3, h4, h5⟩, if_neg (by rw [h6]; omega), h6]
theorem dayF_date {y m d n : Int} (h : dayF y m d = (n, 0)) : DateIs n y m d ∧ n ≤ 40000 := by
  unfold dayF at h
  split at h
  · rename_i hd
    split at h
    · cases h
    · rename_i hr
      injection h with h1 h2
      subst h1
      exact ⟨⟨by omega, hd.1, hd.2.1, hd.2.2.1, hd.2.2.2, rfl⟩, by omega⟩
  · cases h
theorem dayF_num (y m d : Int) : 0 ≤ (dayF y m d).1 ∧ (dayF y m d).1 ≤ 40000 ∧ ((dayF y m d).2 ≠ 0 → (dayF y m d).1 = 0) ∧ 0 ≤ (dayF y m d).2 ∧ (dayF y m d).2 ≤ 7 := by
  unfold dayF
  split
  · rename_i h
    obtain ⟨h1, h2, h3, h4⟩ := h
    split
    · simp
    · rename_i h
      have g1 := cumM_ge y (m.toNat - 1) (by omega)
      have g2 := sumY_ge (y - 2000).toNat
      simp only [ne_eq, not_true_eq_false, false_implies, true_and]
      unfold num at *
      omega
  · simp
end Go.Proofs.YtjfdfhnfcpfmcaaGreatDoor.Cal

/-
  The calendar as plain mathematics: a day plus years and months is one number, which grows with the day; an age is the number of years whose birthday has been.
-/
namespace Go.Proofs.YtjfdfhnfcpfmcaaGreatDoor.Cal
def lpI (y : Int) : Int := if leapB y = true then 1 else 0
theorem lpI_bd (y : Int) : 0 ≤ lpI y ∧ lpI y ≤ 1 := by unfold lpI; split <;> omega
theorem diy_lp (y : Int) : diy y = 365 + lpI y := by unfold diy lpI; split <;> rfl
theorem dim_lp (y m : Int) : dim y m = if m = 2 then 28 + lpI y else monthTab (m.toNat - 1) := by
  unfold dim lpI
  by_cases h : m = 2
  · subst h; by_cases g : leapB y = true <;> simp [g, monthTab]
  · simp [h]
theorem cumM_lp (y : Int) (j : Nat) (h : j ≤ 12) : cumM y j = cumM 2001 j + if 2 ≤ j then lpI y else 0 := by
  rcases (show j = 0 ∨ j = 1 ∨ j = 2 ∨ j = 3 ∨ j = 4 ∨ j = 5 ∨ j = 6 ∨ j = 7 ∨ j = 8 ∨ j = 9 ∨ j = 10 ∨ j = 11 ∨ j = 12 by omega) with rfl | rfl | rfl | rfl | rfl | rfl | rfl | rfl | rfl | rfl | rfl | rfl | rfl <;>
    simp [cumM, dim_lp, monthTab, show lpI 2001 = 0 from rfl] <;> omega
/-- The year, the month and the day of what a day plus years and months is. -/
def pY (y m years months : Int) : Int := y + (years + (m - 1 + months) / 12)
def pM (m months : Int) : Int := (m - 1 + months) % 12 + 1
def pD (y m d years months : Int) : Int := min d (dim (pY y m years months) (pM m months))
/-- The day of the date (y, m, d) plus years and months. -/
def pN (y m d years months : Int) : Int := num (pY y m years months) (pM m months) (pD y m d years months)
theorem pN_date {n y m d years months : Int} (h : DateIs n y m d) (h1 : 0 ≤ years) (h2 : 0 ≤ months) :
    DateIs (pN y m d years months) (pY y m years months) (pM m months) (pD y m d years months) := by
  obtain ⟨a1, a2, a3, a4, a5, a6⟩ := h
  have hM : 1 ≤ pM m months ∧ pM m months ≤ 12 := by unfold pM; omega
  have hb := dim_bd (pY y m years months) (pM m months) hM.1 hM.2
  refine ⟨?_, hM.1, hM.2, ?_, ?_, rfl⟩
  · unfold pY; omega
  · unfold pD; omega
  · unfold pD; omega
theorem plusIs_val {n y m d years months r : Int} (h : DateIs n y m d) (hp : PlusIs n years months r) : r = pN y m d years months ∨ 40000 < r ∧ 40000 < pN y m d years months := by
  obtain ⟨y', m', d', h', hr⟩ := hp
  obtain ⟨rfl, rfl, rfl⟩ := dateIs_uniq h h'
  exact hr.2.2
theorem plusR_val {n y m d years months a e : Int} (h : DateIs n y m d) (hn : n ≤ 40000) (hn0 : 0 ≤ n) (h1 : 0 ≤ years ∧ years ≤ 100) (h2 : 0 ≤ months ∧ months ≤ 1200) (hp : PlusR n years months a e) :
    (pN y m d years months ≤ 40000 ∧ a = pN y m d years months ∧ e = 0) ∨ (40000 < pN y m d years months ∧ a = 0 ∧ e = 7) := by
  rcases hp with ⟨h3, _⟩ | ⟨_, r, hr, h4⟩
  · exact absurd ⟨⟨hn0, hn⟩, h1, h2⟩ h3
  · have := plusIs_val h hr
    omega
theorem pN_ge {n y m d years months : Int} (h : DateIs n y m d) (h1 : 0 ≤ years) (h2 : 0 ≤ months) : n ≤ pN y m d years months := by
  have hp := pN_date h h1 h2
  rcases Int.lt_or_le (pN y m d years months) n with hlt | hge
  · exfalso
    have hb := (dateIs_bef hp h).1 hlt
    obtain ⟨a1, a2, a3, a4, a5, a6⟩ := h
    unfold Bef at hb
    by_cases e : pY y m years months = y
    · rw [if_pos e] at hb
      by_cases e2 : pM m months = m
      · rw [if_pos e2] at hb
        unfold pD at hb
        rw [e, e2] at hb
        omega
      · rw [if_neg e2] at hb
        unfold pM at *; unfold pY at *; omega
    · rw [if_neg e] at hb
      unfold pY at *; omega
  · exact hge
theorem pN_mono {n n' y m d y' m' d' years months : Int} (h : DateIs n y m d) (h' : DateIs n' y' m' d') (hn : n ≤ n') (h1 : 0 ≤ years) (h2 : 0 ≤ months) : pN y m d years months ≤ pN y' m' d' years months := by
  rcases Int.lt_or_le n n' with hlt | hge
  · have hb := (dateIs_bef h h').1 hlt
    have hp := pN_date h h1 h2
    have hp' := pN_date h' h1 h2
    rcases Int.lt_or_le (pN y' m' d' years months) (pN y m d years months) with hlt2 | hge2
    · exfalso
      have hb2 := (dateIs_bef hp' hp).1 hlt2
      obtain ⟨a1, a2, a3, a4, a5, a6⟩ := h
      obtain ⟨b1, b2, b3, b4, b5, b6⟩ := h'
      unfold Bef at hb hb2
      by_cases e : y = y'
      · subst e
        rw [if_pos rfl] at hb
        by_cases e2 : m = m'
        · subst e2
          rw [if_pos rfl] at hb
          rw [if_pos rfl, if_pos rfl] at hb2
          unfold pD at hb2
          omega
        · rw [if_neg e2] at hb
          by_cases e3 : pY y m' years months = pY y m years months
          · rw [if_pos e3] at hb2
            by_cases e4 : pM m' months = pM m months
            · unfold pM pY at *; omega
            · rw [if_neg e4] at hb2
              unfold pM pY at *; omega
          · rw [if_neg e3] at hb2
            unfold pY at *; omega
      · rw [if_neg e] at hb
        by_cases e3 : pY y' m' years months = pY y m years months
        · rw [if_pos e3] at hb2
          by_cases e4 : pM m' months = pM m months
          · unfold pM pY at *; omega
          · rw [if_neg e4] at hb2
            unfold pM pY at *; omega
        · rw [if_neg e3] at hb2
          unfold pY at *; omega
    · exact hge2
  · obtain rfl : n = n' := by omega
    obtain ⟨rfl, rfl, rfl⟩ := dateIs_uniq h h'
    exact Int.le_refl _
/-- The birthday after k years. -/
def bN (y m d k : Int) : Int := num (y + k) m (min d (dim (y + k) m))
theorem pN_b {n y m d k : Int} (h : DateIs n y m d) : pN y m d k 0 = bN y m d k := by
  obtain ⟨a1, a2, a3, _⟩ := h
  have e1 : pY y m k 0 = y + k := by unfold pY; omega
  have e2 : pM m 0 = m := by unfold pM; omega
  unfold pN pD bN
  rw [e1, e2]
theorem bN_date {n y m d k : Int} (h : DateIs n y m d) (hk : 0 ≤ k) : DateIs (bN y m d k) (y + k) m (min d (dim (y + k) m)) := by
  obtain ⟨a1, a2, a3, a4, a5, a6⟩ := h
  have := dim_bd (y + k) m a2 a3
  exact ⟨by omega, a2, a3, by omega, by omega, rfl⟩
theorem bN_zero {n y m d : Int} (h : DateIs n y m d) : bN y m d 0 = n := by
  obtain ⟨a1, a2, a3, a4, a5, a6⟩ := h
  unfold bN
  rw [show y + 0 = y by omega, show min d (dim y m) = d by omega, a6]
theorem bN_lt {n y m d k k' : Int} (h : DateIs n y m d) (hk : 0 ≤ k) (hlt : k < k') : bN y m d k < bN y m d k' := by
  have h1 := dateIs_year (bN_date h hk)
  have h2 := dateIs_year (bN_date h (show 0 ≤ k' by omega))
  have h3 := sumY_mono (a := (y + k - 2000).toNat + 1) (b := (y + k' - 2000).toNat) (by have := h.1; omega)
  omega
theorem bN_le {n y m d k k' : Int} (h : DateIs n y m d) (hk : 0 ≤ k) (hle : k ≤ k') : bN y m d k ≤ bN y m d k' := by
  rcases Int.lt_or_le k k' with hlt | hge
  · exact Int.le_of_lt (bN_lt h hk hlt)
  · rw [show k = k' by omega]; exact Int.le_refl _
/-- The age a on a day. -/
def AgeIs (y m d day a : Int) : Prop := 0 ≤ a ∧ bN y m d a ≤ day ∧ day < bN y m d (a + 1)
theorem ageIs_uniq {n y m d day a a' : Int} (h : DateIs n y m d) (h1 : AgeIs y m d day a) (h2 : AgeIs y m d day a') : a = a' := by
  rcases Int.lt_trichotomy a a' with hlt | he | hgt
  · have := bN_le h (show 0 ≤ a + 1 by have := h1.1; omega) (show a + 1 ≤ a' by omega)
    have := h1.2.2; have := h2.2.1; omega
  · exact he
  · have := bN_le h (show 0 ≤ a' + 1 by have := h2.1; omega) (show a' + 1 ≤ a by omega)
    have := h2.2.2; have := h1.2.1; omega
theorem ageR_val {born day y m d a e : Int} (h : DateIs born y m d) (h0 : 0 ≤ born) (h1 : born ≤ day) (h2 : day ≤ 40000) (ha : AgeR born day a e) : e = 0 ∧ AgeIs y m d day a := by
  rcases ha with ⟨h3, _⟩ | ⟨_, h3, _⟩ | ⟨_, _, rfl, y2, m2, d2, y', m', d', r, hd, hb, hp, hr⟩
  · exact absurd ⟨⟨h0, by omega⟩, by omega, h2⟩ h3
  · omega
  · refine ⟨rfl, ?_⟩
    obtain ⟨rfl, rfl, rfl⟩ := dateIs_uniq h hb
    have hv := plusIs_val h hp
    rw [pN_b h] at hv
    have hy := dateIs_years h hd h1
    have q0 := dateIs_year hd
    have q1 := dateIs_year (bN_date h (show 0 ≤ y2 - y by omega))
    have q2 := dateIs_year (bN_date h (show 0 ≤ y2 - y + 1 by omega))
    rw [show y + (y2 - y + 1) - 2000 = y2 - 2000 + 1 by omega] at q2
    rw [show y + (y2 - y) - 2000 = y2 - 2000 by omega] at q1
    have hy2 := hd.1
    rw [show (y2 - 2000 + 1).toNat = (y2 - 2000).toNat + 1 by omega] at q2
    rcases hr with ⟨hr, rfl⟩ | ⟨hr, rfl⟩
    · by_cases e : y2 = y
      · subst e
        have := bN_zero h
        rw [show y2 - y2 = 0 by omega] at hv
        omega
      · have q3 := dateIs_year (bN_date h (show 0 ≤ y2 - y - 1 by omega))
        rw [show y + (y2 - y - 1) - 2000 = y2 - 2000 - 1 by omega] at q3
        rw [show (y2 - 2000 - 1).toNat + 1 = (y2 - 2000).toNat by have := h.1; omega] at q3
        refine ⟨by omega, by omega, ?_⟩
        rw [show y2 - y - 1 + 1 = y2 - y by omega]
        omega
    · exact ⟨by omega, by omega, by omega⟩
theorem ageR_err {born day a e : Int} (h : ¬ ((0 ≤ born ∧ born ≤ 40000) ∧ (0 ≤ day ∧ day ≤ 40000))) (ha : AgeR born day a e) : a = 0 ∧ e = 7 := by
  rcases ha with ⟨_, h1, h2⟩ | ⟨h3, _⟩ | ⟨h3, _⟩
  · exact ⟨h1, h2⟩
  · exact absurd h3 h
  · exact absurd h3 h
theorem ageR_arg {born day a e : Int} (h : (0 ≤ born ∧ born ≤ 40000) ∧ (0 ≤ day ∧ day ≤ 40000)) (hlt : day < born) (ha : AgeR born day a e) : a = 0 ∧ e = 2 := by
  rcases ha with ⟨h3, _⟩ | ⟨_, _, h1, h2⟩ | ⟨_, h3, _⟩
  · exact absurd h h3
  · exact ⟨h1, h2⟩
  · omega
theorem plus_known {a e : Int} (h : PlusR 59 1 0 a e) : a = 424 ∧ e = 0 := by
  have hd : DateIs 59 2000 2 29 := by unfold DateIs; decide
  have hv : pN 2000 2 29 1 0 = 424 := by decide
  have := plusR_val hd (by omega) (by omega) (by omega) (by omega) h
  rw [hv] at this
  omega
theorem plus_known2 {a e : Int} (h : PlusR 30 0 1 a e) : a = 59 ∧ e = 0 := by
  have hd : DateIs 30 2000 1 31 := by unfold DateIs; decide
  have hv : pN 2000 1 31 0 1 = 59 := by decide
  have := plusR_val hd (by omega) (by omega) (by omega) (by omega) h
  rw [hv] at this
  omega
theorem age_known {a e : Int} (h : AgeR 59 424 a e) : a = 1 ∧ e = 0 := by
  have hd : DateIs 59 2000 2 29 := by unfold DateIs; decide
  have := ageR_val hd (by omega) (by omega) (by omega) h
  have h2 : AgeIs 2000 2 29 424 1 := by unfold AgeIs; decide
  exact ⟨ageIs_uniq hd this.2 h2, this.1⟩
theorem age_known2 {a e : Int} (h : AgeR 59 423 a e) : a = 0 ∧ e = 0 := by
  have hd : DateIs 59 2000 2 29 := by unfold DateIs; decide
  have := ageR_val hd (by omega) (by omega) (by omega) h
  have h2 : AgeIs 2000 2 29 423 0 := by unfold AgeIs; decide
  exact ⟨ageIs_uniq hd this.2 h2, this.1⟩
theorem date_known {y m d : Int} (h : DateIs 424 y m d) : y = 2001 ∧ m = 2 ∧ d = 28 := by
  have hd : DateIs 424 2001 2 28 := by unfold DateIs; decide
  exact dateIs_uniq h hd
end Go.Proofs.YtjfdfhnfcpfmcaaGreatDoor.Cal

/-
  The calendar as plain mathematics: the next date; each day has a date; what the law on ages asks.
-/
namespace Go.Proofs.YtjfdfhnfcpfmcaaGreatDoor.Cal
theorem dateIs_more {n y m d : Int} (h : DateIs n y m d) (hd : d < dim y m) : DateIs (n + 1) y m (d + 1) := by
  obtain ⟨h1, h2, h3, h4, h5, h6⟩ := h
  refine ⟨h1, h2, h3, by omega, by omega, ?_⟩
  unfold num at *; omega
theorem dateIs_month {n y m d : Int} (h : DateIs n y m d) (hd : d = dim y m) (hm : m < 12) : DateIs (n + 1) y (m + 1) 1 := by
  obtain ⟨h1, h2, h3, h4, h5, h6⟩ := h
  have hb := dim_bd y (m + 1) (by omega) (by omega)
  have s : cumM y (m.toNat - 1 + 1) = cumM y (m.toNat - 1) + dim y m := by
    simp only [cumM]; rw [show ((m.toNat - 1 : Nat) : Int) + 1 = m by omega]
  refine ⟨h1, by omega, by omega, by omega, by omega, ?_⟩
  unfold num at *
  rw [show (m + 1).toNat - 1 = m.toNat - 1 + 1 by omega, s]
  omega
theorem dateIs_newYear {n y m d : Int} (h : DateIs n y m d) (hd : d = dim y m) (hm : m = 12) : DateIs (n + 1) (y + 1) 1 1 := by
  obtain ⟨h1, h2, h3, h4, h5, h6⟩ := h
  subst hm
  have hb := dim_bd (y + 1) 1 (by omega) (by omega)
  have s : cumM y 12 = cumM y 11 + dim y 12 := rfl
  have s2 := cumM_12 y
  have g4 : sumY ((y - 2000).toNat + 1) = sumY (y - 2000).toNat + diy y := by
    simp only [sumY]; rw [show 2000 + ((y - 2000).toNat : Int) = y by omega]
  refine ⟨by omega, by omega, by omega, by omega, by omega, ?_⟩
  unfold num at *
  rw [show (y + 1 - 2000).toNat = (y - 2000).toNat + 1 by omega, g4]
  have e1 : ((12 : Int).toNat - 1) = 11 := rfl
  have e2 : ((1 : Int).toNat - 1) = 0 := rfl
  rw [e1] at h6
  rw [e2]
  simp only [cumM]
  omega
theorem dateIs_ex (n : Nat) : ∃ y m d, DateIs n y m d := by
  induction n with
  | zero => exact ⟨2000, 1, 1, by unfold DateIs; decide⟩
  | succ n ih =>
    obtain ⟨y, m, d, h⟩ := ih
    have h5 := h.2.2.2.2.1
    have h3 := h.2.2.1
    rcases Int.lt_or_le d (dim y m) with hlt | hge
    · exact ⟨_, _, _, by have := dateIs_more h hlt; simpa using this⟩
    · rcases Int.lt_or_le m 12 with hm | hm
      · exact ⟨_, _, _, by have := dateIs_month h (by omega) hm; simpa using this⟩
      · exact ⟨_, _, _, by have := dateIs_newYear h (by omega) (by omega); simpa using this⟩
theorem dateIs_exI {n : Int} (h : 0 ≤ n) : ∃ y m d, DateIs n y m d := by
  obtain ⟨y, m, d, hd⟩ := dateIs_ex n.toNat
  rw [show (n.toNat : Int) = n by omega] at hd
  exact ⟨y, m, d, hd⟩
/-- The age on the birthday, and on the day before. -/
theorem age_on {n y m d k : Int} (h : DateIs n y m d) (hk : 0 ≤ k) : AgeIs y m d (bN y m d k) k :=
  ⟨hk, Int.le_refl _, bN_lt h hk (by omega)⟩
theorem age_before {n y m d k : Int} (h : DateIs n y m d) (hk : 1 ≤ k) : AgeIs y m d (bN y m d k - 1) (k - 1) := by
  have := bN_lt h (show 0 ≤ k - 1 by omega) (show k - 1 < k by omega)
  exact ⟨by omega, by omega, by rw [show k - 1 + 1 = k by omega]; omega⟩
theorem age_next {n y m d day a a' : Int} (h : DateIs n y m d) (h1 : AgeIs y m d day a) (h2 : AgeIs y m d (day + 1) a') : a ≤ a' ∧ a' ≤ a + 1 := by
  obtain ⟨p0, p1, p2⟩ := h1
  obtain ⟨q0, q1, q2⟩ := h2
  constructor
  · rcases Int.lt_or_le a' a with hlt | hge
    · have := bN_le h (show 0 ≤ a' + 1 by omega) (show a' + 1 ≤ a by omega); omega
    · exact hge
  · rcases Int.lt_or_le (a + 1) a' with hlt | hge
    · have := bN_lt h (show 0 ≤ a + 1 by omega) hlt; omega
    · exact hge
/-- There is an age. -/
theorem age_ex {n y m d day : Int} (h : DateIs n y m d) (_h0 : 0 ≤ n) (hle : n ≤ day) : ∃ a, AgeIs y m d day a := by
  have hz := bN_zero h
  have key : ∀ k : Nat, bN y m d (k : Int) ≤ day ∨ ∃ a, AgeIs y m d day a := by
    intro k
    induction k with
    | zero => left; rw [show ((0 : Nat) : Int) = 0 from rfl, hz]; exact hle
    | succ k ih =>
      rcases ih with ih | ih
      · rcases Int.lt_or_le day (bN y m d ((k + 1 : Nat) : Int)) with hlt | hge
        · right
          exact ⟨k, by omega, ih, by rw [show ((k : Int) + 1) = ((k + 1 : Nat) : Int) by omega]; exact hlt⟩
        · exact .inl hge
      · exact .inr ih
  rcases key (day.toNat + 1) with hk | hk
  · exfalso
    have q1 := dateIs_year (bN_date h (k := ((day.toNat + 1 : Nat) : Int)) (by omega))
    have q2 := sumY_ge (y + ((day.toNat + 1 : Nat) : Int) - 2000).toNat
    have := h.1
    omega
  · exact hk
end Go.Proofs.YtjfdfhnfcpfmcaaGreatDoor.Cal

/-
  A region whose order Go leaves open, of which each operation may allocate, call and read: one obligation an operation, whatever the order. Of no program.
-/
namespace Go.Proofs.YtjfdfhnfcpfmcaaGreatDoor.RG
open Go

section
variable {P : Program}

/-- The frame in which each operation's slot holds y's value for it. -/
def putAll : List Oper → Nat → (Nat → Value) → Act → Act
  | [], _, _, a => a
  | o :: r, i, y, a => putAll r (i + 1) y (a.put o.dst (y i))

def upd (y : Nat → Value) (i : Nat) (v : Value) : Nat → Value := fun k => if k = i then v else y k

/-- No two operations write the same slot, and none waits for a later one. -/
def okB : List Oper → Nat → Bool
  | [], _ => true
  | o :: r, i => (o.after.toList.all fun e => !Region.binds .any e || decide (e.on < i)) && (r.all fun o' => match o.dst, o'.dst with | some d, some d' => d != d' | _, _ => true) && okB r (i + 1)

theorem okB_cons {o : Oper} {r : List Oper} {i : Nat} (h : okB (o :: r) i = true) :
    (∀ e ∈ o.after, Region.binds .any e = true → e.on < i) ∧ (∀ o' ∈ r, ∀ d, o.dst = some d → o'.dst ≠ some d) ∧ okB r (i + 1) = true := by
  simp only [okB, Bool.and_eq_true, List.all_eq_true] at h
  obtain ⟨⟨h1, h2⟩, h3⟩ := h
  refine ⟨fun e he hb => by have := h1 e (by simpa using he); simpa [hb] using this, fun o' ho' d hd hd' => ?_, h3⟩
  have := h2 o' ho'
  rw [hd, hd'] at this
  simp at this

theorem putAll_put (l : List Oper) (i : Nat) (y : Nat → Value) (a : Act) (d : Option Tmp) (v : Value) (h : ∀ o ∈ l, ∀ e, d = some e → o.dst ≠ some e) :
    (putAll l i y a).put d v = putAll l i y (a.put d v) := by
  induction l generalizing i a with
  | nil => rfl
  | cons o r ih =>
    simp only [putAll]
    rw [ih (i + 1) _ (fun o' ho' => h o' (List.mem_cons_of_mem _ ho'))]
    rw [Act.put_comm a (y i) v (x := o.dst) (y := d) (fun e he hd => h o (List.mem_cons_self ..) e hd he)]

theorem put_put (a : Act) (d : Option Tmp) (v u : Value) : (a.put d v).put d u = a.put d u := by
  cases d <;> simp [Act.put]

theorem putAll_congr (l : List Oper) (i : Nat) (y y' : Nat → Value) (a : Act) (h : ∀ k, i ≤ k → k < i + l.length → y k = y' k) : putAll l i y a = putAll l i y' a := by
  induction l generalizing i a with
  | nil => rfl
  | cons o r ih =>
    simp only [putAll]
    rw [h i (Nat.le_refl _) (by simp), ih (i + 1) _ (fun k h1 h2 => h k (by omega) (by simp at *; omega))]

/-- An operation's result put into the frame. -/
theorem putAll_upd (l : List Oper) (i j : Nat) (y : Nat → Value) (a : Act) (o : Oper) (v : Value) (hok : okB l i = true) (hj : l[j]? = some o) :
    (putAll l i y a).put o.dst v = putAll l i (upd y (i + j) v) a := by
  induction l generalizing i j a with
  | nil => simp at hj
  | cons o' r ih =>
    obtain ⟨_, h2, h3⟩ := okB_cons hok
    cases j with
    | zero =>
      simp only [List.getElem?_cons_zero, Option.some.injEq] at hj
      subst hj
      simp only [putAll]
      rw [putAll_put r (i + 1) y _ o'.dst v (fun o hq e he hd => h2 o hq e he hd), put_put]
      rw [show upd y (i + 0) v i = v by simp [upd]]
      exact putAll_congr _ _ _ _ _ (fun k h4 _ => by simp [upd]; omega)
    | succ j =>
      simp only [List.getElem?_cons_succ] at hj
      simp only [putAll]
      rw [ih (i + 1) j _ h3 hj]
      rw [show upd y (i + (j + 1)) v i = y i by simp [upd], show i + (j + 1) = i + 1 + j by omega]

/-- What the slots hold at the start. -/
def start (l : List Oper) (a : Act) : Nat → Value := fun k => match l[k]? with | some o => (match o.dst with | some d => a.tmps.getD d undef | none => undef) | none => undef

theorem put_same (a : Act) (d : Option Tmp) (v : Value) (h : ∀ e, d = some e → v = a.tmps.getD e undef) : a.put d v = a := by
  cases d with
  | none => rfl
  | some e =>
    obtain ⟨t, ds⟩ := a
    have := h e rfl
    subst this
    simp only [Act.put]
    congr 1
    by_cases hlt : e < t.size
    · simp [Array.setIfInBounds, hlt, Array.getD]
    · simp [Array.setIfInBounds, hlt]

theorem putAll_start (l : List Oper) (i : Nat) (y : Nat → Value) (a : Act) (h : ∀ j o, l[j]? = some o → ∀ e, o.dst = some e → y (i + j) = a.tmps.getD e undef) : putAll l i y a = a := by
  induction l generalizing i with
  | nil => rfl
  | cons o r ih =>
    simp only [putAll]
    rw [put_same a o.dst (y i) (fun e he => h 0 o rfl e he)]
    exact ih (i + 1) (fun j o' hj e he => by have := h (j + 1) o' hj e he; rwa [show i + (j + 1) = i + 1 + j by omega] at this)

def cnt (p : Nat → Bool) : Nat → Nat
  | 0 => 0
  | n + 1 => cnt p n + if p n then 1 else 0
theorem cnt_le (p : Nat → Bool) (n : Nat) : cnt p n ≤ n := by
  induction n with
  | zero => simp [cnt]
  | succ n ih => simp only [cnt]; split <;> omega
theorem cnt_mono (p p' : Nat → Bool) (h : ∀ j, p' j = true → p j = true) (n : Nat) : cnt p' n ≤ cnt p n := by
  induction n with
  | zero => simp [cnt]
  | succ n ih =>
    simp only [cnt]
    have := h n
    split <;> split <;> simp_all <;> omega
theorem cnt_lt (p p' : Nat → Bool) (h : ∀ j, p' j = true → p j = true) (i : Nat) (hp : p i = true) (hp' : p' i = false) (n : Nat) (hi : i < n) : cnt p' n < cnt p n := by
  induction n with
  | zero => omega
  | succ n ih =>
    simp only [cnt]
    by_cases e : i = n
    · subst e
      have := cnt_mono p p' h i
      simp [hp, hp']; omega
    · have := ih (by omega)
      have := h n
      split <;> split <;> simp_all <;> omega
theorem cnt_zero (p : Nat → Bool) (n : Nat) (h : cnt p n = 0) : ∀ j, j < n → p j = false := by
  induction n with
  | zero => intro j hj; omega
  | succ n ih =>
    intro j hj
    simp only [cnt] at h
    by_cases e : j = n
    · subst e; cases hp : p j
      · rfl
      · simp [hp] at h
    · exact ih (by omega) j (by omega)

/-- What is known of y's values for the operations on the list. -/
def deps (V : Nat → Value → World → Prop) (y : Nat → Value) (w : World) : List Edge → Prop
  | [] => True
  | e :: r => (Region.binds .any e = true → V e.on (y e.on) w) ∧ deps V y w r
theorem deps_of {V : Nat → Value → World → Prop} {y : Nat → Value} {w : World} (l : List Edge) (h : ∀ e ∈ l, Region.binds .any e = true → V e.on (y e.on) w) : deps V y w l := by
  induction l with
  | nil => trivial
  | cons e r ih => exact ⟨h e (List.mem_cons_self ..), ih fun e' he' => h e' (List.mem_cons_of_mem _ he')⟩

/-- What an operation must leave. -/
def Out (C : World → Prop) (Rel : World → World → Prop) (Vi : Value → World → Prop) (a : Act) (d : Option Tmp) (w : World) (a' : Act) (w' : World) : Prop :=
  ∃ v, a' = a.put d v ∧ C w' ∧ Rel w w' ∧ Vi v w'

/-- The obligation of one operation. -/
def One (P : Program) (ops : Array Oper) (C : World → Prop) (Rel : World → World → Prop) (V : Nat → Value → World → Prop) (a0 : Act) (i : Nat) (o : Oper) : Prop :=
  ∀ (y : Nat → Value) (w : World) (K : Act → World → Prop) (Q : Exit → Act → World → Prop) (Cv : Value → World → Prop), C w → deps V y w o.after.toList →
    (∀ v w', C w' → Rel w w' → V i v w' → Cv v w') → (∀ v w', Cv v w' → K ((putAll ops.toList 0 y a0).put o.dst v) w') →
    if Region.wanted o (yielded ops (putAll ops.toList 0 y a0).tmps) then o.wp P (putAll ops.toList 0 y a0) w K Q else K ((putAll ops.toList 0 y a0).put o.dst undef) w

def All (P : Program) (ops : Array Oper) (C : World → Prop) (Rel : World → World → Prop) (V : Nat → Value → World → Prop) (a0 : Act) : List Oper → Nat → Prop
  | [], _ => True
  | o :: r, i => One P ops C Rel V a0 i o ∧ All P ops C Rel V a0 r (i + 1)
theorem All.get {ops : Array Oper} {C : World → Prop} {Rel : World → World → Prop} {V : Nat → Value → World → Prop} {a0 : Act} :
    ∀ {l : List Oper} {i j : Nat} {o : Oper}, All P ops C Rel V a0 l i → l[j]? = some o → One P ops C Rel V a0 (i + j) o
  | [], _, _, _, _, hj => by simp at hj
  | o' :: r, i, 0, o, h, hj => by
    simp only [List.getElem?_cons_zero, Option.some.injEq] at hj
    subst hj; exact h.1
  | o' :: r, i, j + 1, o, h, hj => by
    simp only [List.getElem?_cons_succ] at hj
    have := All.get h.2 hj
    rwa [show i + (j + 1) = i + 1 + j by omega]

/-- What is known of all values, operation by operation. -/
def Ends (V : Nat → Value → World → Prop) (y : Nat → Value) (w : World) : Nat → Nat → Prop
  | _, 0 => True
  | i, n + 1 => V i (y i) w ∧ Ends V y w (i + 1) n
theorem Ends.of {V : Nat → Value → World → Prop} {y : Nat → Value} {w : World} : ∀ (i n : Nat), (∀ k, i ≤ k → k < i + n → V k (y k) w) → Ends V y w i n
  | _, 0, _ => trivial
  | i, n + 1, h => ⟨h i (Nat.le_refl _) (by omega), Ends.of (i + 1) n fun k h1 h2 => h k (by omega) (by omega)⟩

theorem wpAny_rg {ops : Array Oper} {C : World → Prop} {Rel : World → World → Prop} {V : Nat → Value → World → Prop} {a0 : Act} {Q : Exit → Act → World → Prop}
    (hok : okB ops.toList 0 = true) (hst : ∀ k v w w', C w → C w' → Rel w w' → V k v w → V k v w')
    (hall : All P ops C Rel V a0 ops.toList 0)
    (hend : ∀ y w, C w → Ends V y w 0 ops.size → Q .normal (putAll ops.toList 0 y a0) w) :
    ∀ (fuel : Nat) (listed : Array Bool) (y : Nat → Value) (w : World), listed.size = ops.size → cnt (fun j => !listed.getD j true) ops.size ≤ fuel → C w →
      (∀ k, k < ops.size → listed.getD k false = true → V k (y k) w) → wpAny P .any ops Q fuel listed (putAll ops.toList 0 y a0) w := by
  have hdone : ∀ (listed : Array Bool) (y : Nat → Value) (w : World), listed.size = ops.size → C w → (∀ k, k < ops.size → listed.getD k false = true → V k (y k) w) →
      (∀ j, j < ops.size → listed.getD j true = true) → Q .normal (putAll ops.toList 0 y a0) w := by
    intro listed y w hs hC hV hl
    refine hend y w hC (Ends.of 0 _ fun k _ hk => hV k (by omega) ?_)
    have := hl k (by omega)
    simpa [Array.getD, hs, show k < ops.size by omega] using this
  have hacyc : ∀ (l : List Oper) (i j : Nat) (o : Oper), okB l i = true → l[j]? = some o → ∀ e ∈ o.after, Region.binds .any e = true → e.on < i + j := by
    intro l
    induction l with
    | nil => intro i j o _ hj; simp at hj
    | cons o' r ih =>
      intro i j o h hj e he hbb
      obtain ⟨h1, _, h3⟩ := okB_cons h
      cases j with
      | zero => simp only [List.getElem?_cons_zero, Option.some.injEq] at hj; subst hj; exact h1 e he hbb
      | succ j =>
        simp only [List.getElem?_cons_succ] at hj
        have := ih (i + 1) j o h3 hj e he hbb
        omega
  have hready : ∀ (listed : Array Bool), listed.size = ops.size → Region.ready .any ops listed = [] → ∀ j, j < ops.size → listed.getD j true = true := by
    intro listed hs hr j
    induction j using Nat.strongRecOn with
    | ind j ih =>
      intro hj
      cases hl : listed.getD j true with
      | true => rfl
      | false =>
        have hm : j ∈ Region.ready .any ops listed := by
          rw [mem_ready]
          refine ⟨hl, ops[j], Array.getElem?_eq_getElem hj, fun e he hbb => ?_⟩
          have := hacyc ops.toList 0 j ops[j] hok (by simp [hj]) e he hbb
          have h2 := ih e.on (by omega) (by omega)
          simpa [Array.getD, hs, show e.on < ops.size by omega] using h2
        rw [hr] at hm
        cases hm
  intro fuel
  induction fuel with
  | zero =>
    intro listed y w hs hc hC hV
    have hall' : ∀ j, j < ops.size → listed.getD j true = true := fun j hj => by
      have := cnt_zero _ _ (Nat.le_zero.1 hc) j hj
      simpa using this
    refine ⟨?_, hdone listed y w hs hC hV hall'⟩
    rw [List.eq_nil_iff_forall_not_mem]
    intro j hj
    rw [mem_ready] at hj
    obtain ⟨h1, o, ho, _⟩ := hj
    have := hall' j (Array.getElem?_eq_some_iff.1 ho).1
    rw [h1] at this
    cases this
  | succ fuel ih =>
    intro listed y w hs hc hC hV
    refine ⟨fun hr => hdone listed y w hs hC hV (hready listed hs hr), fun i hi => ?_⟩
    rw [mem_ready] at hi
    obtain ⟨hl, o, ho, hdep⟩ := hi
    have hlt : i < ops.size := (Array.getElem?_eq_some_iff.1 ho).1
    have hol : ops.toList[i]? = some o := by simpa using ho
    have h1 := All.get hall hol
    rw [Nat.zero_add] at h1
    have hnext : ∀ a' w', Out C Rel (V i) (putAll ops.toList 0 y a0) o.dst w a' w' → wpAny P .any ops Q fuel (listed.setIfInBounds i true) a' w' := by
      rintro a' w' ⟨v, rfl, hC', hR, hVi⟩
      rw [putAll_upd ops.toList 0 i y a0 o v hok hol, Nat.zero_add]
      refine ih _ _ _ (by simpa using hs) ?_ hC' (fun k hk hlk => ?_)
      · have := cnt_lt (fun j => !listed.getD j true) (fun j => !(listed.setIfInBounds i true).getD j true) (fun j hj => by
          by_cases e : i = j
          · subst e; simp [Array.getD, Array.setIfInBounds, hs, hlt] at hj
          · rw [getD_set_ne true e] at hj; exact hj) i (by simp [hl]) (by simp [Array.getD, Array.setIfInBounds, hs, hlt]) ops.size hlt
        omega
      · by_cases e : k = i
        · subst e; simpa [upd] using hVi
        · have : upd y i v k = y k := by simp [upd, e]
          rw [this]
          rw [getD_set_ne false (fun h => e h.symm)] at hlk
          exact hst k _ w w' hC hC' hR (hV k hk hlk)
    have h2 := h1 y w (wpAny P .any ops Q fuel (listed.setIfInBounds i true)) Q (fun v w' => C w' ∧ Rel w w' ∧ V i v w') hC (deps_of _ fun e he hb => by
      have he' : e ∈ o.after := by simpa using he
      have h3 := hdep e he' hb
      have hlt2 := hacyc ops.toList 0 i o hok hol e he' hb
      exact hV e.on (by omega) h3) (fun v w' a b c => ⟨a, b, c⟩) (fun v w' h => hnext _ _ ⟨v, rfl, h⟩)
    unfold wpOp
    simp only [ho]
    split
    · rename_i hw; simp only [hw, if_true] at h2; exact .inl h2
    · rename_i hw; simp only [hw] at h2; exact h2

/-- THE RULE. C: what holds of every world on the way; Rel: what an operation may do to the world; V i: what the i-th operation's value is (said in a way that lasts). -/
theorem region_rg {id : Nat} {Q : Exit → Act → World → Prop} {a : Act} {w : World} {l : List Oper} (C : World → Prop) (Rel : World → World → Prop) (V : Nat → Value → World → Prop)
    (hm : P.follows .mixedOrders = true) (hok : okB l 0 = true) (hC : C w.drew) (hst : ∀ k v w w', C w → C w' → Rel w w' → V k v w → V k v w')
    (hall : All P l.toArray C Rel V a l 0) (hend : ∀ y w, C w → Ends V y w 0 l.length → Q .normal (putAll l 0 y a) w) :
    (Code.region id l.toArray true).wp P Q a w := by
  refine wp_region_any hm ?_
  have := wpAny_rg (P := P) (ops := l.toArray) (C := C) (Rel := Rel) (V := V) (a0 := a) (Q := Q) (by simpa using hok) hst (by simpa using hall) (by simpa using hend) l.toArray.size
    (Array.replicate l.toArray.size false) (start l a) w.drew (by simp) (cnt_le _ _) hC (fun k hk h => by
      simp [Array.getD] at h)
  rw [show (l.toArray).toList = l by simp, putAll_start l 0 (start l a) a (fun j o hj e he => by simp [start, hj, he])] at this
  exact this
end

/-- The i-th of a list of words on values. -/
def VL : List (Value → World → Prop) → Nat → Value → World → Prop
  | [], _, _, _ => True
  | p :: _, 0, v, w => p v w
  | _ :: r, k + 1, v, w => VL r k v w
/-- A word that lasts while memory only grows. -/
def Stb (p : Value → World → Prop) : Prop := ∀ v w w', Go.RowKit.Below w.heap.size w w' → p v w → p v w'
def AllStb : List (Value → World → Prop) → Prop
  | [] => True
  | p :: r => Stb p ∧ AllStb r
theorem AllStb.at_ {L : List (Value → World → Prop)} (h : AllStb L) : ∀ k v w w', Go.RowKit.Below w.heap.size w w' → VL L k v w → VL L k v w' := by
  induction L with
  | nil => intro k v w w' _ _; trivial
  | cons p r ih =>
    intro k v w w' hb hv
    cases k with
    | zero => exact h.1 v w w' hb hv
    | succ k => exact ih h.2 k v w w' hb hv
/-- What is known of all values at the end. -/
def EndsL : List (Value → World → Prop) → (Nat → Value) → World → Nat → Prop
  | [], _, _, _ => True
  | p :: r, y, w, i => p (y i) w ∧ EndsL r y w (i + 1)
theorem EndsL.of {L : List (Value → World → Prop)} {y : Nat → Value} {w : World} (i : Nat) (h : ∀ k, k < L.length → VL L k (y (i + k)) w) : EndsL L y w i := by
  induction L generalizing i with
  | nil => trivial
  | cons p r ih => exact ⟨h 0 (by simp), ih (i + 1) fun k hk => by have := h (k + 1) (by simpa using hk); rwa [show i + (k + 1) = i + 1 + k by omega] at this⟩
theorem Ends.get {V : Nat → Value → World → Prop} {y : Nat → Value} {w : World} : ∀ {i n k : Nat}, Ends V y w i n → k < n → V (i + k) (y (i + k)) w
  | _, 0, k, _, hk => by omega
  | i, n + 1, 0, h, _ => h.1
  | i, n + 1, k + 1, h, hk => by have := Ends.get h.2 (show k < n by omega); rwa [show i + (k + 1) = i + 1 + k by omega]

/-- THE RULE where memory only grows: each operation may read, allocate, and call what allocates. -/
theorem region_grow {P : Program} {id : Nat} {Q : Exit → Act → World → Prop} {a : Act} {w : World} {l : List Oper} (L : List (Value → World → Prop))
    (hm : P.follows .mixedOrders = true) (hok : okB l 0 = true) (hlen : L.length = l.length) (hL : AllStb L)
    (hall : All P l.toArray (Go.RowKit.Below w.heap.size w) (fun u u' => Go.RowKit.Below u.heap.size u u') (VL L) a l 0)
    (hend : ∀ y w', Go.RowKit.Below w.heap.size w w' → EndsL L y w' 0 → Q .normal (putAll l 0 y a) w') :
    (Code.region id l.toArray true).wp P Q a w :=
  region_rg _ _ _ hm hok (Go.RowKit.Below.refl _ _).drew (fun k v u u' _ _ h hv => hL.at_ k v u u' h hv) hall
    (fun y w' hC hE => hend y w' hC (EndsL.of 0 fun k hk => by
      have := hE.get (k := k) (by omega)
      simpa using this))

def IsV (c : Value) : Value → World → Prop := fun v _ => v = c
theorem IsV.stb (c : Value) : Stb (IsV c) := fun _ _ _ _ h => h
end Go.Proofs.YtjfdfhnfcpfmcaaGreatDoor.RG
