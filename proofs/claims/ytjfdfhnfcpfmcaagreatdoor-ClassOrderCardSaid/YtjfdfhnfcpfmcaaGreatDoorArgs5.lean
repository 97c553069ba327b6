/-
  A row of bytes as an argument.
-/
import Derived.Test.YtjfdfhnfcpfmcaaGreatDoorMk
namespace Go.Proofs.YtjfdfhnfcpfmcaaGreatDoor
open Go.ChangeShapes Go.WideShapes Go.ChangeAt Go.RowKit

def RdU8s (w : World) (A : Option Addr) (n : Nat) (xs : List Int) : Prop :=
  xs.length = n ∧ n ≤ maxLen ∧ (∀ j, j < n → 0 ≤ xs[j]?.getD 0 ∧ xs[j]?.getD 0 < 256) ∧ (0 < n → ∃ b off, A = some ⟨b, off, none⟩ ∧ b < w.heap.size ∧ ∀ j, j < n → w.cell? ⟨b, off + j, none⟩ = some (.int .u8 (xs[j]?.getD 0)))
theorem RdU8s.below {w w' : World} {A : Option Addr} {n : Nat} {xs : List Int} (h : RdU8s w A n xs) (hb : Below w.heap.size w w') : RdU8s w' A n xs :=
  ⟨h.1, h.2.1, h.2.2.1, fun hn => by
    obtain ⟨b, off, e, hl, hc⟩ := h.2.2.2 hn
    exact ⟨b, off, e, Nat.lt_of_lt_of_le hl hb.size, fun j hj => (cellB hb hl).trans (hc j hj)⟩⟩
section
variable {H : Type} {enc : TypeId × Value → H} {w : World} {base : Nat} {held : Bool} {r : Reach} {b0 : Nat} {v : Value} {d : DataW H} {p : List MemPlace} {fuel : Nat} {cs : List Value} {x : DataW H × List MemPlace}
theorem open_rdU8s (h : DataW.trod enc Tryz.prog w base (fun _ => true) held fuel 77 cs = some x) : ∃ A c xs, cs = [.slice A (xs : List Int).length c] ∧ RdU8s w A xs.length xs := by
  rcases open_ints Tryz.underlying77 Tryz.underlying5 (by kernel_rfl) h with ⟨rfl, _⟩ | ⟨a, len, cap, zs, rfl, hb, hl, hm, hlen, _, hc, hwf⟩
  · exact ⟨none, 0, [], rfl, rfl, by unfold maxLen; simp, fun j hj => absurd hj (by simp), fun h => absurd h (by simp)⟩
  · simp only [if_true] at hlen
    have hlt : (zs.take len).length = len := by simp; omega
    refine ⟨some a, cap, zs.take len, by rw [hlt], rfl, by rw [hlt]; omega, fun j hj => ?_, fun hn => ?_⟩
    · rw [hlt] at hj
      have hz : j < zs.length := by omega
      rw [List.getElem?_take_of_lt hj, List.getElem?_eq_getElem hz]
      have := hwf _ (List.getElem_mem hz)
      have h2 : (0 : Int) ≤ zs[j] ∧ zs[j] ≤ 255 := by
        simp only [Lit.wf, Bool.and_eq_true, decide_eq_true_eq] at this
        exact this
      exact ⟨h2.1, by show zs[j] < 256; omega⟩
    · rw [hlt] at hn ⊢
      have h0 := hc 0 (by omega)
      obtain ⟨b, off, e⟩ := plain_addr h0
      rw [add_plain_zero] at e
      subst e
      refine ⟨b, off, rfl, by have := lt_of_cell h0; simpa [Addr.add] using this, fun j hj => ?_⟩
      have := hc j (by omega)
      rw [add_plain] at this
      rw [this, List.getElem?_take_of_lt hj]
      simp [List.getD]
set_option maxRecDepth 100000 in
theorem open_u8s (hv : Value.okWide Tryz.prog w r b0 77 v) (h : DataW.Trod enc Tryz.prog w base (fun _ => true) held 77 v d p) :
    ∃ A c xs, v = .slice A (xs : List Int).length c ∧ RdU8s w A xs.length xs := by
  obtain ⟨a, len, cap, rfl⟩ := okWide_slice Tryz.underlying77 hv
  obtain ⟨fuel, hf⟩ := h
  obtain ⟨A, c, xs, e, h1⟩ := open_rdU8s hf
  simp only [Value.cells, List.cons.injEq, and_true] at e
  exact ⟨A, c, xs, e, h1⟩
end
end Go.Proofs.YtjfdfhnfcpfmcaaGreatDoor
