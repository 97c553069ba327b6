import Derived.Test.YtkhijdbigpaagaaNx
import Derived.Test.YtkhijdbigpaagaaNar
import Derived.Test.YtkhijdbigpaagaaNe
/-
  The arguments of the laws of the skill layer as they are read: events, histories, rows of small numbers.
-/
namespace Go.Proofs.Ytkhijdbigpaagaa
open Go.ChangeShapes Go.WideShapes Go.ChangeAt Go.RowKit

section
variable {H : Type} {enc : TypeId × Value → H} {w : World} {base : Nat} {held : Bool} {fuel : Nat} {cs : List Value} {x : DataW H × List MemPlace}
set_option maxRecDepth 100000 in
theorem open_ev (n : Nat) (cs : List Value) (x : DataW H × List MemPlace) (h : DataW.trod enc Try.prog w base (fun _ => true) held n 78 cs = some x) (hl : cs.length = 5) : ∃ t : Ev, cs = evCells t ∧ True := by
  obtain ⟨x0, x1, x2, x3, x4, rfl⟩ := len5 hl
  have k3 : Try.prog.cellsOf 3 = 1 := by kernel_rfl
  obtain ⟨ys, n', _, _, _, hlen, hf⟩ := DataW.trod_struct Try.underlying78 h
  match ys, hlen with
  | [y0, y1, y2, y3, y4], _ =>
  have g0 : DataW.trod enc Try.prog w base (fun _ => true) held n' 3 (([x0, x1, x2, x3, x4].drop 0).take (Try.prog.cellsOf 3)) = some y0 := by simpa using hf 0 _ rfl
  have g1 : DataW.trod enc Try.prog w base (fun _ => true) held n' 3 (([x0, x1, x2, x3, x4].drop 1).take (Try.prog.cellsOf 3)) = some y1 := by simpa using hf 1 _ rfl
  have g2 : DataW.trod enc Try.prog w base (fun _ => true) held n' 3 (([x0, x1, x2, x3, x4].drop 2).take (Try.prog.cellsOf 3)) = some y2 := by simpa using hf 2 _ rfl
  have g3 : DataW.trod enc Try.prog w base (fun _ => true) held n' 3 (([x0, x1, x2, x3, x4].drop 3).take (Try.prog.cellsOf 3)) = some y3 := by simpa using hf 3 _ rfl
  have g4 : DataW.trod enc Try.prog w base (fun _ => true) held n' 3 (([x0, x1, x2, x3, x4].drop 4).take (Try.prog.cellsOf 3)) = some y4 := by simpa using hf 4 _ rfl
  rw [k3] at g0 g1 g2 g3 g4
  obtain ⟨z0, e0, _, _⟩ := DataW.trod_int Try.underlying3 g0
  obtain ⟨z1, e1, _, _⟩ := DataW.trod_int Try.underlying3 g1
  obtain ⟨z2, e2, _, _⟩ := DataW.trod_int Try.underlying3 g2
  obtain ⟨z3, e3, _, _⟩ := DataW.trod_int Try.underlying3 g3
  obtain ⟨z4, e4, _, _⟩ := DataW.trod_int Try.underlying3 g4
  obtain rfl : x0 = .int .i64 z0 := by simpa using e0
  obtain rfl : x1 = .int .i64 z1 := by simpa using e1
  obtain rfl : x2 = .int .i64 z2 := by simpa using e2
  obtain rfl : x3 = .int .i64 z3 := by simpa using e3
  obtain rfl : x4 = .int .i64 z4 := by simpa using e4
  exact ⟨⟨z0, z1, z2, z3, z4⟩, rfl, trivial⟩
set_option maxRecDepth 100000 in
theorem open_evs (h : DataW.trod enc Try.prog w base (fun _ => true) held fuel 38 cs = some x) : ∃ A c es, cs = [.slice A (es : List Ev).length c] ∧ RdRow w A es.length 5 (es.map evCells) ∧ es.length ≤ maxLen ∧ es.length ≤ c := by
  obtain ⟨A, c, l, e, h1, h2, h3, _⟩ := open_row (cells := evCells) (K := 5) (P := fun _ => True) Try.underlying38 (by kernel_rfl) (by decide) (fun _ => rfl) open_ev h
  exact ⟨A, c, l, e, h1, h2, h3⟩
set_option maxRecDepth 100000 in
/-- A history. -/
theorem open_history {r : Reach} {b0 : Nat} {v : Value} {d : DataW H} {p : List MemPlace} (hv : Value.okWide Try.prog w r b0 40 v) (h : DataW.Trod enc Try.prog w base (fun _ => true) held 40 v d p) :
    ∃ A c rs E ce es wk ix, v = .agg #[.slice A (rs : List (Int × Int)).length c, .slice E (es : List Ev).length ce, .int .i64 wk, .int .i64 ix] ∧ RdRow w A rs.length 2 (rs.map tkCells) ∧ rs.length ≤ maxLen ∧ RdRow w E es.length 5 (es.map evCells) ∧ es.length ≤ maxLen ∧ es.length ≤ ce ∧ (-9223372036854775808 ≤ wk ∧ wk ≤ 9223372036854775807) := by
  obtain ⟨v0, v1, v2, v3, y0, y1, y2, y3, n, rfl, _, _, h0, h1, h2, h3⟩ := Joins.open_agg4 Try.underlying40 (by kernel_rfl) (by kernel_rfl) hv h
  obtain ⟨A, c, rs, e0, hr, hm, _⟩ := open_spans h0
  obtain ⟨E, ce, es, e1, hr2, hm2, hc2⟩ := open_evs h1
  obtain ⟨z, e2, _, hz⟩ := DataW.trod_int Try.underlying3 h2
  obtain ⟨z2, e3, _, _⟩ := DataW.trod_int Try.underlying3 h3
  simp only [List.cons.injEq, and_true] at e0 e1 e2 e3
  subst e0 e1 e2 e3
  exact ⟨A, c, rs, E, ce, es, z, z2, rfl, hr, hm, hr2, hm2, hc2, wf64 hz⟩
end
end Go.Proofs.Ytkhijdbigpaagaa
