import Derived.Test.YtkmhldjebopljaaPz
import Derived.Test.YtkmhldjebopljaaOv
/-
  The arguments of the laws of the book layer as they are read: events.
-/
namespace Go.Proofs.Ytkmhldjebopljaa
open Go.ChangeShapes Go.WideShapes Go.ChangeAt Go.RowKit

section
variable {H : Type} {enc : TypeId × Value → H} {w : World} {base : Nat} {held : Bool} {fuel : Nat} {cs : List Value} {x : DataW H × List MemPlace}
theorem len11 {l : List Value} (h : l.length = 11) : ∃ x0 x1 x2 x3 x4 x5 x6 x7 x8 x9 x10, l = [x0, x1, x2, x3, x4, x5, x6, x7, x8, x9, x10] := by
  match l, h with
  | [a, b, c, d, e, f, g, h, i, j, k], _ => exact ⟨a, b, c, d, e, f, g, h, i, j, k, rfl⟩
set_option maxRecDepth 100000 in
theorem open_ev (n : Nat) (cs : List Value) (x : DataW H × List MemPlace) (h : DataW.trod enc Try.prog w base (fun _ => true) held n 65 cs = some x) (hl : cs.length = 11) : ∃ t : BEv, cs = evCells t ∧ True := by
  obtain ⟨x0, x1, x2, x3, x4, x5, x6, x7, x8, x9, x10, rfl⟩ := len11 hl
  have k3 : Try.prog.cellsOf 3 = 1 := by kernel_rfl
  obtain ⟨ys, n', _, _, _, hlen, hf⟩ := DataW.trod_struct Try.underlying65 h
  have hlen : ys.length = 11 := hlen
  have key : ∀ i (hi : i < 11), ∃ z, ([x0, x1, x2, x3, x4, x5, x6, x7, x8, x9, x10] : List Value)[i]? = some (.int .i64 z) := by
    intro i hi
    obtain ⟨t, ht⟩ : ∃ t, ys[i]? = some t := ⟨_, List.getElem?_eq_getElem (by omega)⟩
    have hz : ∀ (j : Nat) (hj : j < 11) (y : DataW H × List MemPlace), DataW.trod enc Try.prog w base (fun _ => true) held n' 3 ((([x0, x1, x2, x3, x4, x5, x6, x7, x8, x9, x10] : List Value).drop j).take (Try.prog.cellsOf 3)) = some y → ∃ z, ([x0, x1, x2, x3, x4, x5, x6, x7, x8, x9, x10] : List Value)[j]? = some (.int .i64 z) := by
      intro j hj y hy
      rw [k3] at hy
      obtain ⟨z, e, _, _⟩ := DataW.trod_int Try.underlying3 hy
      refine ⟨z, ?_⟩
      have h0 : ((([x0, x1, x2, x3, x4, x5, x6, x7, x8, x9, x10] : List Value).drop j).take 1)[0]? = some (.int .i64 z) := by rw [e]; rfl
      simpa using h0
    match i, hi with
    | 0, _ => exact hz 0 (by decide) ys[0] (by have := hf 0 _ rfl; rw [List.getElem?_eq_getElem (by omega)] at this; exact this)
    | 1, _ => exact hz 1 (by decide) ys[1] (by have := hf 1 _ rfl; rw [List.getElem?_eq_getElem (by omega)] at this; exact this)
    | 2, _ => exact hz 2 (by decide) ys[2] (by have := hf 2 _ rfl; rw [List.getElem?_eq_getElem (by omega)] at this; exact this)
    | 3, _ => exact hz 3 (by decide) ys[3] (by have := hf 3 _ rfl; rw [List.getElem?_eq_getElem (by omega)] at this; exact this)
    | 4, _ => exact hz 4 (by decide) ys[4] (by have := hf 4 _ rfl; rw [List.getElem?_eq_getElem (by omega)] at this; exact this)
    | 5, _ => exact hz 5 (by decide) ys[5] (by have := hf 5 _ rfl; rw [List.getElem?_eq_getElem (by omega)] at this; exact this)
    | 6, _ => exact hz 6 (by decide) ys[6] (by have := hf 6 _ rfl; rw [List.getElem?_eq_getElem (by omega)] at this; exact this)
    | 7, _ => exact hz 7 (by decide) ys[7] (by have := hf 7 _ rfl; rw [List.getElem?_eq_getElem (by omega)] at this; exact this)
    | 8, _ => exact hz 8 (by decide) ys[8] (by have := hf 8 _ rfl; rw [List.getElem?_eq_getElem (by omega)] at this; exact this)
    | 9, _ => exact hz 9 (by decide) ys[9] (by have := hf 9 _ rfl; rw [List.getElem?_eq_getElem (by omega)] at this; exact this)
    | 10, _ => exact hz 10 (by decide) ys[10] (by have := hf 10 _ rfl; rw [List.getElem?_eq_getElem (by omega)] at this; exact this)
  obtain ⟨z0, e0⟩ := key 0 (by decide)
  obtain rfl : x0 = .int .i64 z0 := by simpa using e0
  obtain ⟨z1, e1⟩ := key 1 (by decide)
  obtain rfl : x1 = .int .i64 z1 := by simpa using e1
  obtain ⟨z2, e2⟩ := key 2 (by decide)
  obtain rfl : x2 = .int .i64 z2 := by simpa using e2
  obtain ⟨z3, e3⟩ := key 3 (by decide)
  obtain rfl : x3 = .int .i64 z3 := by simpa using e3
  obtain ⟨z4, e4⟩ := key 4 (by decide)
  obtain rfl : x4 = .int .i64 z4 := by simpa using e4
  obtain ⟨z5, e5⟩ := key 5 (by decide)
  obtain rfl : x5 = .int .i64 z5 := by simpa using e5
  obtain ⟨z6, e6⟩ := key 6 (by decide)
  obtain rfl : x6 = .int .i64 z6 := by simpa using e6
  obtain ⟨z7, e7⟩ := key 7 (by decide)
  obtain rfl : x7 = .int .i64 z7 := by simpa using e7
  obtain ⟨z8, e8⟩ := key 8 (by decide)
  obtain rfl : x8 = .int .i64 z8 := by simpa using e8
  obtain ⟨z9, e9⟩ := key 9 (by decide)
  obtain rfl : x9 = .int .i64 z9 := by simpa using e9
  obtain ⟨z10, e10⟩ := key 10 (by decide)
  obtain rfl : x10 = .int .i64 z10 := by simpa using e10
  exact ⟨⟨z0, z1, z2, z3, z4, z5, z6, z7, z8, z9, z10⟩, rfl, trivial⟩
set_option maxRecDepth 100000 in
theorem open_events {r : Reach} {b0 : Nat} {v : Value} {d : DataW H} {p : List MemPlace} (hv : Value.okWide Try.prog w r b0 37 v) (h : DataW.Trod enc Try.prog w base (fun _ => true) held 37 v d p) :
    ∃ es : List BEv, IsRow 11 (es.map evCells) v w ∧ ∀ n c, v = .slice none n c → c = 0 := by
  obtain ⟨a, len, cap, rfl⟩ := okWide_slice Try.underlying37 hv
  obtain ⟨fuel, hf⟩ := h
  have hs : cap ≤ maxLen ∧ (a = none → cap = 0) := by
    rcases DataW.trod_slice Try.underlying37 hf with ⟨e0, _⟩ | ⟨a0, len0, cap0, _, _, _, _, e0, _, _, _, hm, _⟩
    · simp only [Value.cells, List.cons.injEq, and_true, Value.slice.injEq] at e0
      obtain ⟨-, -, rfl⟩ := e0
      exact ⟨Nat.zero_le _, fun _ => rfl⟩
    · simp only [Value.cells, List.cons.injEq, and_true, Value.slice.injEq] at e0
      obtain ⟨rfl, -, rfl⟩ := e0
      exact ⟨hm, fun h => by cases h⟩
  obtain ⟨A, c, l, e, h1, h2, h3, _⟩ := open_row (cells := evCells) (K := 11) (P := fun _ => True) Try.underlying37 (by kernel_rfl) (by decide) (fun _ => rfl) open_ev hf
  simp only [Value.cells, List.cons.injEq, and_true] at e
  cases e
  refine ⟨l, ⟨a, cap, by rw [List.length_map], by rw [List.length_map]; exact h1, by rw [List.length_map]; exact h3, hs.1⟩, fun n c' e => ?_⟩
  injection e with e1 e2 e3
  rw [← e3]
  exact hs.2 e1
end
end Go.Proofs.Ytkmhldjebopljaa
