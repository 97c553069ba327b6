/-
  The reference's least form: the mathematics of it.
-/
import Derived.Test.YtjfdfhnfcpfmcaaGreatDoorMo
namespace Go.Proofs.YtjfdfhnfcpfmcaaGreatDoor
open Go.RowKit RG

theorem form_filter {cs : List Cls} {n : Nat} {P : Int × Int → Prop} {all : List (Int × Int)} (hs : all.Pairwise ltI) (h : ∀ x, x ∈ all ↔ P x) : FormP cs n P (all.filter fun x => !(all.any fun y => wkI cs n x y)) := by
  refine ⟨hs.filter _, fun x => ?_⟩
  rw [List.mem_filter, h, Bool.not_eq_true', Bool.eq_false_iff]
  refine and_congr_right fun _ => ⟨fun h2 y hy => ?_, fun h2 h3 => ?_⟩
  · rw [← Bool.not_eq_true]
    exact fun h4 => h2 (List.any_eq_true.2 ⟨y, (h y).2 hy, h4⟩)
  · obtain ⟨y, hy, h4⟩ := List.any_eq_true.1 h3
    rw [h2 y ((h y).1 hy)] at h4
    cases h4
/-- The rights of a class below the set k that are there. -/
def rowL (is : Nat → Nat → Bool) (c k : Nat) : List (Int × Int) := ((List.range k).filter fun j => is c j).map fun (j : Nat) => ((c : Int), (j : Int))
/-- The rights of the classes below c that are there. -/
def gridL (p : Nat) (is : Nat → Nat → Bool) (c : Nat) : List (Int × Int) := (List.range c).flatMap fun d => rowL is d p
theorem rowL_zero (is : Nat → Nat → Bool) (c : Nat) : rowL is c 0 = [] := rfl
theorem rowL_hit {is : Nat → Nat → Bool} {c k : Nat} (h : is c k = true) : rowL is c (k + 1) = rowL is c k ++ [((c : Int), (k : Int))] := by
  unfold rowL
  rw [List.range_succ, List.filter_append]
  simp [h]
theorem rowL_miss {is : Nat → Nat → Bool} {c k : Nat} (h : is c k = false) : rowL is c (k + 1) = rowL is c k := by
  unfold rowL
  rw [List.range_succ, List.filter_append]
  simp [h]
theorem gridL_succ (p : Nat) (is : Nat → Nat → Bool) (c : Nat) : gridL p is (c + 1) = gridL p is c ++ rowL is c p := by
  unfold gridL
  rw [List.range_succ, List.flatMap_append]
  simp
theorem mem_rowL {is : Nat → Nat → Bool} {c k : Nat} {x : Int × Int} : x ∈ rowL is c k ↔ ∃ j, j < k ∧ is c j = true ∧ x = ((c : Int), (j : Int)) := by
  unfold rowL
  simp only [List.mem_map, List.mem_filter, List.mem_range]
  exact ⟨fun ⟨j, ⟨h1, h2⟩, e⟩ => ⟨j, h1, h2, e.symm⟩, fun ⟨j, h1, h2, e⟩ => ⟨j, ⟨h1, h2⟩, e.symm⟩⟩
theorem mem_gridL {p : Nat} {is : Nat → Nat → Bool} {n : Nat} {x : Int × Int} : x ∈ gridL p is n ↔ ∃ c j, c < n ∧ j < p ∧ is c j = true ∧ x = ((c : Int), (j : Int)) := by
  unfold gridL
  simp only [List.mem_flatMap, List.mem_range, mem_rowL]
  exact ⟨fun ⟨c, h1, j, h2, h3, h4⟩ => ⟨c, j, h1, h2, h3, h4⟩, fun ⟨c, j, h1, h2, h3, h4⟩ => ⟨c, h1, j, h2, h3, h4⟩⟩
theorem rowL_up (is : Nat → Nat → Bool) (c k : Nat) : (rowL is c k).Pairwise ltI := by
  unfold rowL
  rw [List.pairwise_map]
  refine (List.Pairwise.filter _ List.pairwise_lt_range).imp fun {a b} h => ?_
  exact .inr ⟨rfl, by simp only; omega⟩
theorem gridL_up (p : Nat) (is : Nat → Nat → Bool) : ∀ c, (gridL p is c).Pairwise ltI
  | 0 => List.Pairwise.nil
  | c + 1 => by
    rw [gridL_succ, List.pairwise_append]
    refine ⟨gridL_up p is c, rowL_up is c p, fun x hx y hy => ?_⟩
    obtain ⟨d, j, h1, _, _, rfl⟩ := mem_gridL.1 hx
    obtain ⟨j', _, _, rfl⟩ := mem_rowL.1 hy
    exact .inl (by simp only; omega)
theorem rowL_len (is : Nat → Nat → Bool) (c k : Nat) : (rowL is c k).length ≤ k := by
  unfold rowL
  rw [List.length_map]
  exact Nat.le_trans (List.length_filter_le _ _) (by simp)
theorem gridL_len (p : Nat) (is : Nat → Nat → Bool) : ∀ c, (gridL p is c).length ≤ c * p
  | 0 => by simp [gridL]
  | c + 1 => by
    have h1 := gridL_len p is c
    have h2 := rowL_len is c p
    rw [gridL_succ, List.length_append, Nat.add_mul, Nat.one_mul]
    omega
/-- The vehicle with all features that a right does not exclude. -/
theorem rest_eq (S : Sys) (c : Nat) {k : Nat} (hk : k < 2 ^ S.codes.length) : 2 ^ S.codes.length - 1 - k = rest S (c, k) := by
  apply Nat.eq_of_testBit_eq
  intro j
  rw [rest_bit, show 2 ^ S.codes.length - 1 - k = 2 ^ S.codes.length - (k + 1) by omega, Nat.testBit_two_pow_sub_succ hk]
  cases hb : k.testBit j with
  | false => simp
  | true =>
    have : j < S.codes.length := by
      rcases Nat.lt_or_ge j S.codes.length with h | h
      · exact h
      · rw [Nat.testBit_lt_two_pow (Nat.lt_of_lt_of_le hk (Nat.pow_le_pow_right (by omega) h))] at hb; cases hb
    simp [this]
/-- The form of the rights that allow nothing that one of two lists does not allow is the form of both. -/
theorem form_grid {S : Sys} (gd : Good S) {ra rb L M : List (Int × Int)} (ga : GoodR S ra) (gb : GoodR S rb)
    (hL : FormP S.cs S.cs.length (bothP S ra rb) L)
    (hM : FormP S.cs S.cs.length (· ∈ gridL (2 ^ S.codes.length) (fun c k => mayL S ra c (2 ^ S.codes.length - 1 - k) && mayL S rb c (2 ^ S.codes.length - 1 - k)) S.cs.length) M) : L = M := by
  have hall : AllR S (gridL (2 ^ S.codes.length) (fun c k => mayL S ra c (2 ^ S.codes.length - 1 - k) && mayL S rb c (2 ^ S.codes.length - 1 - k)) S.cs.length) := by
    intro x hx
    obtain ⟨c, j, h1, h2, _, e⟩ := mem_gridL.1 hx
    exact ⟨c, j, e, h1, h2⟩
  refine (form_same_ gd (bothI_all gd ga gb) hall (hL.of (mem_bothI S ra rb)) hM).2 fun c f hc hf => ?_
  rw [mayL_both gd ga gb hc, Bool.eq_iff_iff, Bool.and_eq_true, mayL_iff (rs := gridL _ _ _)]
  constructor
  · rintro ⟨h1, h2⟩
    have hr : rest S (c, f) < 2 ^ S.codes.length := by
      rw [← rest_eq S c hf]; omega
    have hrr : 2 ^ S.codes.length - 1 - rest S (c, f) = f := by rw [← rest_eq S c hf]; omega
    refine ⟨((c : Int), ((rest S (c, f) : Nat) : Int)), mem_gridL.2 ⟨c, rest S (c, f), hc, hr, by simp only [hrr, h1, h2, Bool.and_self], rfl⟩, mayB_iff.2 ⟨?_, fun j hj => ?_⟩⟩
    · simp only [natR, Int.toNat_natCast]; exact gd.cov_refl hc
    · simp only [natR, Int.toNat_natCast] at hj
      rw [rest_bit] at hj
      cases hb : f.testBit j with
      | false => rfl
      | true =>
        rw [hb] at hj
        have : j < S.codes.length := by
          rcases Nat.lt_or_ge j S.codes.length with h | h
          · exact h
          · rw [Nat.testBit_lt_two_pow (Nat.lt_of_lt_of_le hf (Nat.pow_le_pow_right (by omega) h))] at hb; cases hb
        simp [this] at hj
  · rintro ⟨x, hx, hm⟩
    obtain ⟨d, j, h1, h2, h3, rfl⟩ := mem_gridL.1 hx
    rw [rest_eq S d h2, Bool.and_eq_true] at h3
    have hn : natR ((d : Int), (j : Int)) = (d, j) := by simp [natR]
    rw [hn] at hm
    have key : ∀ {rs : List (Int × Int)}, GoodR S rs → mayL S rs d (rest S (d, j)) = true → mayL S rs c f = true := by
      intro rs g h
      obtain ⟨r, hr, h4⟩ := mayL_iff.1 h
      have orr := okR_of gd g hr
      exact mayL_iff.2 ⟨r, hr, mayB_ge gd orr ⟨h1, h2⟩ ((may_rest (r := (d, j)) orr).1 h4) hm⟩
    exact ⟨key ga h3.1, key gb h3.2⟩
end Go.Proofs.YtjfdfhnfcpfmcaaGreatDoor
