import Derived.Test.YtkhijdbigpaagaaNfa
import Derived.Test.YtkhijdbigpaagaaNar
/-
  A truth of a learner, by turns, as it is read.
-/
namespace Go.Proofs.Ytkhijdbigpaagaa
open Go.ChangeShapes Go.WideShapes Go.ChangeAt Go.RowKit

section
variable {H : Type} {enc : TypeId × Value → H} {w : World} {base : Nat} {held : Bool}
set_option maxRecDepth 100000 in
theorem open_life {r : Reach} {b0 : Nat} {v : Value} {d : DataW H} {p : List MemPlace} (hv : Value.okWide Try.prog w r b0 68 v) (h : DataW.Trod enc Try.prog w base (fun _ => true) held 68 v d p) :
    ∃ Wh nw cw N nn nc d0 d1 same, v = .agg #[.slice Wh nw cw, .slice N nn nc, .int .u8 d0, .int .u8 d1, .bool same] ∧ RdU16 w Wh nw ∧ nw ≤ maxLen ∧ RdU16 w N nn ∧ nn ≤ maxLen ∧ (0 ≤ d0 ∧ d0 ≤ 255) ∧ (0 ≤ d1 ∧ d1 ≤ 255) := by
  have hC : Try.prog.cellsOf 68 = 5 := by kernel_rfl
  have k1 : Try.prog.cellsOf 65 = 1 := by kernel_rfl
  have k2 : Try.prog.cellsOf 66 = 2 := by kernel_rfl
  have k3 : Try.prog.cellsOf 4 = 1 := by kernel_rfl
  have k4 : Try.prog.cellsOf 5 = 1 := by kernel_rfl
  obtain ⟨cs, rfl, hsz⟩ := okWide_struct Try.underlying68 hv
  obtain ⟨x0, x1, x2, x3, x4, hcs⟩ := len5 (l := cs.toList) (by rw [Array.length_toList, hsz, hC])
  obtain rfl : cs = #[x0, x1, x2, x3, x4] := by
    have := congrArg List.toArray hcs
    simpa using this
  obtain ⟨fuel, hf⟩ := h
  obtain ⟨y0, y1, y2, y3, n, hx, _, h0, h1, h2, h3⟩ := Joins.trod_struct4 Try.underlying68 hf
  have g0 : DataW.trod enc Try.prog w base (fun _ => true) held n 65 (([x0, x1, x2, x3, x4].drop 0).take (Try.prog.cellsOf 65)) = some y0 := h0
  have g1 : DataW.trod enc Try.prog w base (fun _ => true) held n 65 (([x0, x1, x2, x3, x4].drop 1).take (Try.prog.cellsOf 65)) = some y1 := h1
  have g2 : DataW.trod enc Try.prog w base (fun _ => true) held n 66 (([x0, x1, x2, x3, x4].drop 2).take (Try.prog.cellsOf 66)) = some y2 := h2
  have g3 : DataW.trod enc Try.prog w base (fun _ => true) held n 4 (([x0, x1, x2, x3, x4].drop 4).take (Try.prog.cellsOf 4)) = some y3 := h3
  rw [k1] at g0 g1
  rw [k2] at g2
  rw [k3] at g3
  obtain ⟨Wh, nw, cw, e0, hw, hwm, _⟩ := open_u16s g0
  obtain ⟨N, nn, nc, e1, hu, hum, _⟩ := open_u16s g1
  obtain ⟨b, e4, _⟩ := DataW.trod_bool Try.underlying4 g3
  obtain ⟨xs, m, _, _, _, hxl, hel⟩ := DataW.trod_array Try.underlying66 g2
  match xs, hxl with
  | [q0, q1], _ =>
    have a0 := hel 0 (by decide)
    have a1 := hel 1 (by decide)
    rw [k4] at a0 a1
    obtain ⟨z0, f0, _, w0⟩ := DataW.trod_int Try.underlying5 a0
    obtain ⟨z1, f1, _, w1⟩ := DataW.trod_int Try.underlying5 a1
    simp at e0 e1 e4 f0 f1
    subst e0 e1 e4 f0 f1
    exact ⟨Wh, nw, cw, N, nn, nc, z0, z1, b, rfl, hw, hwm, hu, hum, wf8 w0, wf8 w1⟩
end
end Go.Proofs.Ytkhijdbigpaagaa
