import Derived.Test.YtkhijdbigpaagaaNy
import Derived.Test.YtkhijdbigpaagaaNc
/-
  The arguments of the laws of the skill layer as they are read: tests, ranges, numbers.
-/
namespace Go.Proofs.Ytkhijdbigpaagaa
open Go.ChangeShapes Go.WideShapes Go.ChangeAt Go.RowKit

section
variable {H : Type} {enc : TypeId × Value → H} {w : World} {base : Nat} {held : Bool} {fuel : Nat} {cs : List Value} {x : DataW H × List MemPlace}

/-- A row of numbers. -/
theorem open_rdInts (h : DataW.trod enc Try.prog w base (fun _ => true) held fuel 49 cs = some x) : ∃ A c xs, cs = [.slice A (xs : List Int).length c] ∧ RdInts w A xs.length xs ∧ xs.length ≤ maxLen ∧ xs.length ≤ c := by
  rcases open_ints Try.underlying49 Try.underlying3 (by kernel_rfl) h with ⟨rfl, _⟩ | ⟨a, len, cap, zs, rfl, hb, hl, hm, hlen, _, hc, _⟩
  · exact ⟨none, 0, [], rfl, rdInts_nil _ _, by unfold maxLen; simp, Nat.le_refl _⟩
  · simp only [if_true] at hlen
    have hlt : (zs.take len).length = len := by simp; omega
    refine ⟨some a, cap, zs.take len, by rw [hlt], ?_, by rw [hlt]; omega, by rw [hlt]; exact hl⟩
    rw [hlt]
    refine ⟨hlt, fun hn => ?_⟩
    have h0 := hc 0 (by omega)
    obtain ⟨b, off, e⟩ := plain_addr h0
    rw [add_plain_zero] at e
    subst e
    refine ⟨b, off, rfl, by have := lt_of_cell h0; simpa [Addr.add] using this, fun j hj => ?_⟩
    have := hc j (by omega)
    rw [add_plain] at this
    rw [this, List.getElem?_take_of_lt hj]
    simp [List.getD]
set_option maxRecDepth 100000 in
theorem open_tk (n : Nat) (cs : List Value) (x : DataW H × List MemPlace) (h : DataW.trod enc Try.prog w base (fun _ => true) held n 100 cs = some x) (hl : cs.length = 2) : ∃ t : Int × Int, cs = tkCells t ∧ True := by
  obtain ⟨x0, x1, rfl⟩ := len2 hl
  have k3 : Try.prog.cellsOf 3 = 1 := by kernel_rfl
  obtain ⟨y0, y1, n', _, _, g0, g1⟩ := trod_struct2 Try.underlying100 h
  have g0 : DataW.trod enc Try.prog w base (fun _ => true) held n' 3 (([x0, x1].drop 0).take (Try.prog.cellsOf 3)) = some y0 := g0
  have g1 : DataW.trod enc Try.prog w base (fun _ => true) held n' 3 (([x0, x1].drop 1).take (Try.prog.cellsOf 3)) = some y1 := g1
  rw [k3] at g0 g1
  obtain ⟨z0, e0, _, _⟩ := DataW.trod_int Try.underlying3 g0
  obtain ⟨z1, e1, _, _⟩ := DataW.trod_int Try.underlying3 g1
  obtain rfl : x0 = .int .i64 z0 := by simpa using e0
  obtain rfl : x1 = .int .i64 z1 := by simpa using e1
  exact ⟨(z0, z1), rfl, trivial⟩
theorem open_sp (n : Nat) (cs : List Value) (x : DataW H × List MemPlace) (h : DataW.trod enc Try.prog w base (fun _ => true) held n 32 cs = some x) (hl : cs.length = 2) : ∃ t : Int × Int, cs = tkCells t ∧ True := by
  obtain ⟨x0, x1, rfl⟩ := len2 hl
  obtain ⟨a, b, rfl, rfl⟩ := open_spanCells h
  exact ⟨(a, b), rfl, trivial⟩
theorem open_spans (h : DataW.trod enc Try.prog w base (fun _ => true) held fuel 37 cs = some x) : ∃ A c rs, cs = [.slice A (rs : List (Int × Int)).length c] ∧ RdRow w A rs.length 2 (rs.map tkCells) ∧ rs.length ≤ maxLen ∧ rs.length ≤ c := by
  obtain ⟨A, c, l, e, h1, h2, h3, _⟩ := open_row (cells := tkCells) (K := 2) (P := fun _ => True) Try.underlying37 (by kernel_rfl) (by decide) (fun _ => rfl) open_sp h
  exact ⟨A, c, l, e, h1, h2, h3⟩
set_option maxRecDepth 100000 in
/-- A test. -/
theorem open_test {r : Reach} {b0 : Nat} {v : Value} {d : DataW H} {p : List MemPlace} (hv : Value.okWide Try.prog w r b0 48 v) (h : DataW.Trod enc Try.prog w base (fun _ => true) held 48 v d p) :
    ∃ A c ts al, v = .agg #[.slice A (ts : List (Int × Int)).length c, .int .i64 al] ∧ RdRow w A ts.length 2 (ts.map tkCells) ∧ ts.length ≤ maxLen ∧ ts.length ≤ c ∧ (-9223372036854775808 ≤ al ∧ al ≤ 9223372036854775807) := by
  obtain ⟨v0, v1, y0, y1, n, rfl, _, _, h0, h1⟩ := Joins.open_agg2 Try.underlying48 (by kernel_rfl) (by kernel_rfl) hv h
  obtain ⟨A, c, ts, e0, hr, hm, hc, _⟩ := open_row (cells := tkCells) (K := 2) (P := fun _ => True) Try.underlying46 (by kernel_rfl) (by decide) (fun _ => rfl) open_tk h0
  obtain ⟨z, e1, _, hz⟩ := DataW.trod_int Try.underlying3 h1
  simp only [List.cons.injEq, and_true] at e0 e1
  subst e0 e1
  exact ⟨A, c, ts, z, rfl, hr, hm, hc, wf64 hz⟩
set_option maxRecDepth 100000 in
/-- What a law about tests is given. -/
theorem open_examined {r : Reach} {b0 : Nat} {v : Value} {d : DataW H} {p : List MemPlace} (hv : Value.okWide Try.prog w r b0 51 v) (h : DataW.Trod enc Try.prog w base (fun _ => true) held 51 v d p) :
    ∃ A c rs A2 c2 ls ch, v = .agg #[.slice A (rs : List (Int × Int)).length c, .slice A2 (ls : List Int).length c2, .int .i64 ch] ∧ RdRow w A rs.length 2 (rs.map tkCells) ∧ rs.length ≤ maxLen ∧ RdInts w A2 ls.length ls ∧ ls.length ≤ maxLen := by
  obtain ⟨v0, v1, v2, y0, y1, y2, n, rfl, _, _, h0, h1, h2⟩ := Joins.open_agg3 Try.underlying51 (by kernel_rfl) (by kernel_rfl) hv h
  obtain ⟨A, c, rs, e0, hr, hm, _⟩ := open_spans h0
  obtain ⟨A2, c2, ls, e1, hr2, hm2, _⟩ := open_rdInts h1
  obtain ⟨z, e2, _, hz⟩ := DataW.trod_int Try.underlying3 h2
  simp only [List.cons.injEq, and_true] at e0 e1 e2
  subst e0 e1 e2
  exact ⟨A, c, rs, A2, c2, ls, z, rfl, hr, hm, hr2, hm2⟩
end
end Go.Proofs.Ytkhijdbigpaagaa
