import Derived.Test.YtnmgnonbgihalaaPw
/-
  The arguments of the laws of the paper layer as they are read: lists of papers.
-/
namespace Go.Proofs.Ytnmgnonbgihalaa
open Go.ChangeShapes Go.WideShapes Go.ChangeAt Go.RowKit

def papCell (p : Option Addr × Nat × List Int) : List Value := [.slice p.1 p.2.2.length p.2.1]
section
variable {H : Type} {enc : TypeId × Value → H} {w : World} {base : Nat} {held : Bool} {fuel : Nat} {cs : List Value} {x : DataW H × List MemPlace}
set_option maxRecDepth 100000 in
theorem open_paps (h : DataW.trod enc Try.prog w base (fun _ => true) held fuel 45 cs = some x) : ∃ A c ps, cs = [.slice A (ps : List (List Int)).length c] ∧ RdPaps w A ps.length ps ∧ ps.length ≤ maxLen := by
  obtain ⟨A, c, l, e, hr, hm, hc, hA, hp⟩ := open_row (cells := papCell) (K := 1) (P := fun p => RdInts w p.1 p.2.2.length p.2.2 ∧ p.2.2.length ≤ maxLen) Try.underlying45 (by kernel_rfl) (by decide) (fun _ => rfl) (fun n cs x h hl => by
    obtain ⟨A, c, xs, e, h1, h2, -⟩ := open_list h
    exact ⟨(A, c, xs), e, h1, h2⟩) h
  refine ⟨A, c, l.map fun p => p.2.2, by rw [List.length_map]; exact e, ⟨rfl, fun hn => ?_⟩, by rw [List.length_map]; exact hm⟩
  rw [List.length_map] at hn ⊢
  obtain ⟨b, off, e1, hlt, hcl⟩ := hr.2.2 hn
  refine ⟨b, off, e1, hlt, fun j hj => ?_⟩
  have h0 := hp (l[j]'hj) (List.getElem_mem _)
  have e2 : (l.map fun p => p.2.2)[j]?.getD [] = (l[j]'hj).2.2 := by rw [List.getElem?_map, List.getElem?_eq_getElem hj]; rfl
  rw [e2]
  refine ⟨(l[j]'hj).1, (l[j]'hj).2.1, ?_, h0.1, h0.2⟩
  have := hcl j 0 (.slice (l[j]'hj).1 (l[j]'hj).2.2.length (l[j]'hj).2.1) (by rw [List.getElem?_map, List.getElem?_eq_getElem hj]; rfl)
  rwa [Nat.mul_one, Nat.add_zero] at this
end
/-- Papers that came in. -/
def PapsIn (w : World) (v : Value) (A : Option Addr) (c : Nat) (ps : List (List Int)) : Prop := v = .slice A ps.length c ∧ RdPaps w A ps.length ps ∧ ps.length ≤ maxLen
section
variable {H : Type} {enc : TypeId × Value → H} {w : World} {base : Nat} {held : Bool}
set_option maxRecDepth 100000 in
theorem open_papers {r : Reach} {b0 : Nat} {v : Value} {d : DataW H} {p : List MemPlace} (hv : Value.okWide Try.prog w r b0 45 v) (h : DataW.Trod enc Try.prog w base (fun _ => true) held 45 v d p) :
    ∃ A c ps, PapsIn w v A c ps := by
  obtain ⟨a, len, cap, rfl⟩ := okWide_slice Try.underlying45 hv
  obtain ⟨fuel, hf⟩ := h
  obtain ⟨A, c, ps, e, h1, h2⟩ := open_paps hf
  simp only [Value.cells, List.cons.injEq, and_true] at e
  exact ⟨A, c, ps, e, h1, h2⟩
set_option maxRecDepth 100000 in
theorem open_numbers {r : Reach} {b0 : Nat} {v : Value} {d : DataW H} {p : List MemPlace} (hv : Value.okWide Try.prog w r b0 23 v) (h : DataW.Trod enc Try.prog w base (fun _ => true) held 23 v d p) :
    ∃ A c xs, ListIn w v A c xs := by
  obtain ⟨a, len, cap, rfl⟩ := okWide_slice Try.underlying23 hv
  obtain ⟨fuel, hf⟩ := h
  obtain ⟨A, c, xs, e, h1⟩ := open_list hf
  simp only [Value.cells, List.cons.injEq, and_true] at e
  exact ⟨A, c, xs, e, h1⟩
end
end Go.Proofs.Ytnmgnonbgihalaa
