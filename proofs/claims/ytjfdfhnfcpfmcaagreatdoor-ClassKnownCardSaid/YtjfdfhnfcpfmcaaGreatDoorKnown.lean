/-
  What the calls of ClassKnown return.
-/
import Derived.Test.YtjfdfhnfcpfmcaaGreatDoorMj
namespace Go.Proofs.YtjfdfhnfcpfmcaaGreatDoor
open Go.RowKit RG
theorem Day_229 (w : World) (he : Env w) : Calls Tryz.prog 18 #[.agg #[.int .i64 2000, .int .i64 2, .int .i64 29]] w fun e w' => e = .returned (.tuple #[.int .i64 59, .int .i64 0]) ∧ Below w.heap.size w w' := by
  have h := Day_any 2000 2 29 w he (by omega)
  rw [show Cal.dayF 2000 2 29 = (59, 0) by decide +kernel] at h
  exact h
theorem Day_301 (w : World) (he : Env w) : Calls Tryz.prog 18 #[.agg #[.int .i64 2000, .int .i64 3, .int .i64 1]] w fun e w' => e = .returned (.tuple #[.int .i64 60, .int .i64 0]) ∧ Below w.heap.size w w' := by
  have h := Day_any 2000 3 1 w he (by omega)
  rw [show Cal.dayF 2000 3 1 = (60, 0) by decide +kernel] at h
  exact h
theorem Plus_30 (w : World) (he : Env w) : Calls Tryz.prog 24 #[.int .i64 30, .int .i64 0, .int .i64 1] w fun e w' => e = .returned (.tuple #[.int .i64 59, .int .i64 0]) ∧ Below w.heap.size w w' :=
  (Plus_any 30 0 1 w he).mono fun e w' ⟨⟨a, x, he, hp⟩, hb⟩ => by
    obtain ⟨rfl, rfl⟩ := Cal.plus_known2 hp
    exact ⟨he, hb⟩
theorem Age_423 (w : World) (he : Env w) : Calls Tryz.prog 26 #[.int .i64 59, .int .i64 423] w fun e w' => e = .returned (.tuple #[.int .i64 0, .int .i64 0]) ∧ Below w.heap.size w w' :=
  (Age_any 59 423 w he).mono fun e w' ⟨⟨a, x, he, hp⟩, hb⟩ => by
    obtain ⟨rfl, rfl⟩ := Cal.age_known2 hp
    exact ⟨he, hb⟩
theorem Covers_0 (v : Value) (w : World) (h : IsS0 v w) : Calls Tryz.prog 31 #[v, .int .i64 0] w fun e w' => (∃ u, e = .returned (.tuple #[u, .int .i64 0]) ∧ IsInts [0] u w') ∧ Below w.heap.size w w' := by
  obtain ⟨A, A2, rfl, h⟩ := h
  have := Covers_any A A2 4 2 S0 0 w h
  rw [show coversF S0 0 = ([0], 0) by decide +kernel] at this
  exact this
theorem Allows_1 (w : World) (v r : Value) (hv : IsS0 v w) (hr : IsRts R0 r w) :
    Calls Tryz.prog 39 #[v, r, .slice (some ⟨w.heap.size, 0, none⟩) 1 1] (w.alloc (.cells #[.int .i64 1, .int .i64 0] 64)) fun e w' => e = .returned (.tuple #[.bool false, .int .i64 0]) ∧ Below w.heap.size w w' := by
  have hb : Below w.heap.size w (w.alloc (.cells #[.int .i64 1, .int .i64 0] 64)) := ((Below.refl _ _).alloc (Nat.le_refl _) _)
  obtain ⟨A, A2, rfl, h⟩ := IsS0.stb _ _ _ hb hv
  obtain ⟨R, c, rfl, hr2⟩ := IsRts.stb _ _ _ _ hb hr
  obtain ⟨R', c', e', hr'⟩ := isRts_blk (c := 1) [(1, 0)] (Blk.new_ (w := w) (t := 64) rfl) rfl (by unfold maxLen; decide)
  have := Allows_any A A2 R R' 4 2 c c' S0 R0 [(1, 0)] _ h hr2 hr'
  rw [show allowsF S0 R0 [(1, 0)] = (false, 0) by decide +kernel, ← e'] at this
  refine this.mono ?_
  rintro e w' ⟨he, hb'⟩
  exact ⟨he, hb.trans (hb'.mono hb.size)⟩
def ka : Nat → Nat
  | 0 => 0 | 1 => 1 | 2 => 1 | 3 => 2 | _ => 2
def kb : Nat → Nat
  | 0 => 1 | 1 => 1 | 2 => 2 | 3 => 2 | _ => 0
def kw : Nat → Bool
  | 0 => true | 1 => false | 2 => true | 3 => false | _ => true
theorem May_n (v r : Value) (k : Nat) (w : World) (h : IsS0 v w) (hr : IsRts R0 r w) : Calls Tryz.prog 34 #[v, r, .int .i64 (ka k : Nat), .int .i64 (kb k : Nat)] w fun e w' => e = .returned (.tuple #[.bool (kw k), .int .i64 0]) ∧ Below w.heap.size w w' := by
  obtain ⟨A, A2, rfl, h⟩ := h
  obtain ⟨R, c, rfl, hr⟩ := hr
  have := May_any A A2 R 4 2 c S0 R0 (ka k : Nat) (kb k : Nat) w h hr
  rw [show mayF S0 R0 (ka k : Nat) (kb k : Nat) = (kw k, 0) by
    match k with
    | 0 => decide +kernel
    | 1 => decide +kernel
    | 2 => decide +kernel
    | 3 => decide +kernel
    | k + 4 => show mayF S0 R0 ((2 : Nat) : Int) ((0 : Nat) : Int) = (true, 0); decide +kernel] at this
  exact this
end Go.Proofs.YtjfdfhnfcpfmcaaGreatDoor
