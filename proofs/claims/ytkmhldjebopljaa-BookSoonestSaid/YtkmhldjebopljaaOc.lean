import Derived.Test.YtkmhldjebopljaaOa
import Derived.Test.YtkmhldjebopljaaOb
import Derived.Test.YtkmhldjebopljaaOmb
import Derived.Laws.MakeOwn
/-
  A region whose order Go leaves open, all but the last operations of which read: the walk kept in a box, so that nothing unfolds it ahead of its time (guards that are false).
-/
namespace Go.Proofs.Ytkmhldjebopljaa
open Go.RowKit

/-- A box that no unfolding opens. -/
structure Bx (p : Prop) : Prop where
  out : p
theorem still_bx {P : Program} {ops : Array Oper} {w : World} {Q : Act → Prop} {a : Act} {o : Oper} {rest : List Oper}
    (h : ∀ K : Act → Prop, Bx (∀ a, Bx (wpStill P ops w Q rest a) → K a) → if Region.wanted o (yielded ops a.tmps) then o.still P a w K else K (a.put o.dst undef)) : Bx (wpStill P ops w Q (o :: rest) a) :=
  ⟨wpStill_step fun K hK => h K ⟨fun a ha => hK a ha.out⟩⟩
theorem still_bx_nil {P : Program} {ops : Array Oper} {w : World} {Q : Act → Prop} {a : Act} (h : Q a) : Bx (wpStill P ops w Q [] a) := ⟨wpStill_nil h⟩
theorem region_tailB {P : Program} {id : Nat} {Q : Exit → Act → World → Prop} {a : Act} {w : World} {l : List Oper} (n : Nat) (hm : P.follows .mixedOrders = true) (hB : Region.lexTailB .any l.toArray n = true)
    (h : Bx (wpStill P l.toArray w.drew (fun a' => wpList P l.toArray Q (l.drop n) a' w.drew) (l.take n) a)) : (Code.region id l.toArray true).wp P Q a w :=
  region_tail n hm hB h.out
end Go.Proofs.Ytkmhldjebopljaa

/-
  Small functions of package book: hours, lengths, amounts, days, ends, fees.
-/
namespace Go.Proofs.Ytkmhldjebopljaa
open Go.RowKit RG

theorem blkNew {w : World} {g : Nat} {t : TypeId} {cs : Array Value} (h : g = w.heap.size) : Blk (w.alloc (.cells cs t)) g t cs := by subst h; exact Blk.new _ _ _
theorem inI_inB : inI = inB := rfl
theorem isHour_any (n : Int) (w : World) : Calls Try.prog 48 #[.int .i64 n] w fun e w' => e = .returned (.bool (inI 0 4800 n)) ∧ Below w.heap.size w w' := by
  have hw := hide (within_one 0 4800 n w.heap.size 0 1 (w.alloc (.cells #[.int .i64 n] 3)) ((Blk.new w _ _).cell 0))
  go_enter Try.func48, Try.ntmps48
  go_wp2_with fail
  refine hw.out.mono ?_
  rintro e w1 ⟨rfl, rfl⟩
  go_wp2
  go_ret
  exact ⟨rfl, (Below.refl _ _).alloc (Nat.le_refl _) _⟩
theorem isLength_any (n : Int) (w : World) : Calls Try.prog 47 #[.int .i64 n] w fun e w' => e = .returned (.bool (inI 1 4 n)) ∧ Below w.heap.size w w' := by
  have hw := hide (within_one 1 4 n w.heap.size 0 1 (w.alloc (.cells #[.int .i64 n] 3)) ((Blk.new w _ _).cell 0))
  go_enter Try.func47, Try.ntmps47
  go_wp2_with fail
  refine hw.out.mono ?_
  rintro e w1 ⟨rfl, rfl⟩
  go_wp2
  go_ret
  exact ⟨rfl, (Below.refl _ _).alloc (Nat.le_refl _) _⟩
theorem isAmount_any (n : Int) (w : World) : Calls Try.prog 108 #[.int .i64 n] w fun e w' => e = .returned (.bool (inI 0 10000000 n)) ∧ Below w.heap.size w w' := by
  have hw := hide (within_one 0 10000000 n w.heap.size 0 1 (w.alloc (.cells #[.int .i64 n] 3)) ((Blk.new w _ _).cell 0))
  go_enter Try.func108, Try.ntmps108
  go_wp2_with fail
  refine hw.out.mono ?_
  rintro e w1 ⟨rfl, rfl⟩
  go_wp2
  go_ret
  exact ⟨rfl, (Below.refl _ _).alloc (Nat.le_refl _) _⟩
theorem dayOf_any (n : Int) (w : World) (hn : 0 ≤ n ∧ n ≤ 1000000) : Calls Try.prog 97 #[.int .i64 n] w fun e w' => e = .returned (.int .i64 (n / 24)) ∧ w = w' := by
  have h1 : n.tdiv 24 = n / 24 := Int.tdiv_eq_ediv_of_nonneg hn.1
  have h2 : IntKind.i64.wrap (n / 24) = n / 24 := by rw [IntKind.wrap_i64]; omega
  go_enter Try.func97, Try.ntmps97
  go_wp2
  go_ret
  exact ⟨rfl, rfl⟩
/-- The cells of a lesson. -/
def lesCells (l : Les) : List Value := [.int .i64 l.learner, .int .i64 l.car, .int .i64 l.start, .int .i64 l.hours, .int .i64 l.state]
theorem endOf_any (l : Les) (w : World) (hl : -1000000 ≤ l.start ∧ l.start ≤ 1000000 ∧ -1000000 ≤ l.hours ∧ l.hours ≤ 1000000) : Calls Try.prog 98 #[.agg (lesCells l).toArray] w fun e w' => e = .returned (.int .i64 (l.start + l.hours)) ∧ Below w.heap.size w w' := by
  obtain ⟨a, b, c, d, s⟩ := l
  simp only at hl
  have h2 : IntKind.i64.wrap (c + d) = c + d := by rw [IntKind.wrap_i64]; omega
  have kb := hide (blkNew (w := w) (t := 63) (cs := #[.int .i64 a, .int .i64 b, .int .i64 c, .int .i64 d, .int .i64 s]) rfl)
  have c2 : (w.alloc (.cells #[.int .i64 a, .int .i64 b, .int .i64 c, .int .i64 d, .int .i64 s] 63)).cell? ⟨w.heap.size, 2, none⟩ = some (.int .i64 c) := kb.out.cell 2
  have c3 : (w.alloc (.cells #[.int .i64 a, .int .i64 b, .int .i64 c, .int .i64 d, .int .i64 s] 63)).cell? ⟨w.heap.size, 3, none⟩ = some (.int .i64 d) := kb.out.cell 3
  unfold lesCells
  go_enter Try.func98, Try.ntmps98
  go_wp2
  go_ret
  exact ⟨rfl, (Below.refl _ _).alloc (Nat.le_refl _) _⟩
end Go.Proofs.Ytkmhldjebopljaa
