/-
  The reference's within.
-/
import Derived.Test.YtjfdfhnfcpfmcaaGreatDoorMn
import Derived.Test.YtjfdfhnfcpfmcaaGreatDoorMo
namespace Go.Proofs.YtjfdfhnfcpfmcaaGreatDoor
open Go.RowKit RG

/-- Below k all of a's codes are b's. -/
def wiB (a b k : Nat) : Bool := (List.range k).all fun j => !(a.testBit j && !b.testBit j)
theorem wiB_succ (a b k : Nat) : wiB a b (k + 1) = (wiB a b k && !(a.testBit k && !b.testBit k)) := by
  unfold wiB
  rw [List.range_succ, List.all_append]
  simp
theorem wiB_end {a b : Nat} (ha : a < 2 ^ 8) : wiB a b 8 = (Bits.andNot a b == 0) := by
  rw [Bool.eq_iff_iff, andNot_zero]
  unfold wiB
  rw [List.all_eq_true]
  constructor
  · intro h j hj
    by_cases h8 : j < 8
    · have := h j (List.mem_range.2 h8)
      rw [hj] at this
      simpa using this
    · rw [Nat.testBit_lt_two_pow (Nat.lt_of_lt_of_le ha (Nat.pow_le_pow_right (by omega) (by omega)))] at hj
      cases hj
  · intro h j _
    cases hj : a.testBit j with
    | false => rfl
    | true => rw [h j hj]; rfl
set_option maxHeartbeats 2000000 in
theorem withinR_any (a b : Nat) (w : World) (ha : a < 2 ^ 40) (hb : b < 2 ^ 40) : Calls Tryz.prog 130 #[.int .i64 a, .int .i64 b] w fun e w' => e = .returned (.bool (wiB a b 8)) ∧ w = w' := by
  go_enter Tryz.func130, Tryz.ntmps130
  go_wp2
  go_loopg [5] 8 (fun g iv wr => ∃ i : Nat, i ≤ 8 ∧ 8 - i ≤ g ∧ iv = .int .i64 i ∧ wr = w ∧ Hid (wiB a b i = true))
  case atStart => exact ⟨0, by omega, by omega, rfl, rfl, rfl⟩
  case round =>
    obtain ⟨i, hi, hg, rfl, rfl, hE⟩ := hrel
    by_cases hlt : i < 8
    · have hltz : (i : Int) < 8 := by omega
      have hon := wiB_succ a b i
      rw [hE.out, Bool.true_and] at hon
      replace hon := hide hon
      go_wp2_with fail
      refine (HasR_any a i _ (by omega) ha).mono ?_
      rintro e w' ⟨rfl, rfl⟩
      cases h1 : a.testBit i with
      | false =>
        rw [h1] at hon
        go_wp2
        go_roundg (8 - (i + 1))
        case measure => omega
        case rel => exact ⟨i + 1, by omega, by omega, by go_num, rfl, hon⟩
      | true =>
        rw [h1] at hon
        go_wp2_with fail
        refine (HasR_any b i _ (by omega) hb).mono ?_
        rintro e w' ⟨rfl, rfl⟩
        cases h2 : b.testBit i with
        | true =>
          rw [h2] at hon
          go_wp2
          go_roundg (8 - (i + 1))
          case measure => omega
          case rel => exact ⟨i + 1, by omega, by omega, by go_num, rfl, hon⟩
        | false =>
          have hr := hide (show wiB a b 8 = false by
            unfold wiB
            rw [List.all_eq_false]
            exact ⟨i, List.mem_range.2 hlt, by rw [h1, h2]; simp⟩)
          clear h1 h2 hon hE
          go_wp2
          go_ret
          exact ⟨ret_bool hr.out.symm, rfl⟩
    · obtain rfl : i = 8 := by omega
      have hltz : ¬ (8 : Int) < 8 := by omega
      go_wp2
      go_ret
      exact ⟨ret_bool hE.out.symm, rfl⟩

end Go.Proofs.YtjfdfhnfcpfmcaaGreatDoor
