import Derived.Test.YtkhijdbigpaagaaNz
import Derived.Test.YtkhijdbigpaagaaNd
import Derived.SliceStrings
import Derived.ChangeSlices
import Derived.Deep.Slices
import Derived.Deep.Strs
/-
  The arguments of the laws of the skill layer as they are read: schools, rows of structs.
-/
namespace Go.Proofs.Ytkhijdbigpaagaa
open Go.ChangeShapes Go.WideShapes Go.ChangeAt Go.RowKit

theorem list_of {α : Type} [Inhabited α] {n : Nat} {P : Nat → α → Prop} (h : ∀ i, i < n → ∃ x, P i x) : ∃ l : List α, l.length = n ∧ ∀ i, i < n → P i (l[i]?.getD default) := by
  induction n with
  | zero => exact ⟨[], rfl, fun i hi => absurd hi (by omega)⟩
  | succ n ih =>
    obtain ⟨l, hl, hp⟩ := ih fun i hi => h i (by omega)
    obtain ⟨x, hx⟩ := h n (by omega)
    refine ⟨l ++ [x], by simp [hl], fun i hi => ?_⟩
    by_cases e : i = n
    · subst e
      rw [List.getElem?_append_right (by omega), hl]
      simpa using hx
    · rw [List.getElem?_append_left (by omega)]
      exact hp i (by omega)
theorem plain_addr {w : World} {a : Addr} {v : Value} (h : w.cell? a = some v) : ∃ b off, a = ⟨b, off, none⟩ := by
  obtain ⟨b, off, s⟩ := a
  cases s with
  | none => exact ⟨b, off, rfl⟩
  | some x =>
    exfalso
    unfold World.cell? at h
    simp only at h
    split at h <;> simp at h
theorem add_plain (b off i : Nat) : Addr.add ⟨b, off, none⟩ i = ⟨b, off + i, none⟩ := by
  unfold Addr.add
  split
  · rename_i h; subst h; rfl
  · rfl
theorem add_plain_zero (a : Addr) : a.add 0 = a := by simp [Addr.add]
section
variable {H : Type} {enc : TypeId × Value → H} {w : World} {base : Nat} {held : Bool} {fuel : Nat} {cs : List Value} {x : DataW H × List MemPlace}

/-- A row of structs of K cells. -/
theorem open_row {α : Type} [Inhabited α] {cells : α → List Value} {K : Nat} {t te : TypeId} {P : α → Prop} (hu : Try.prog.underlying t = some (.slice te)) (hK : Try.prog.cellsOf te = K) (hK0 : 0 < K) (hlen : ∀ a, (cells a).length = K)
    (elem : ∀ (n : Nat) (cs : List Value) (x : DataW H × List MemPlace), DataW.trod enc Try.prog w base (fun _ => true) held n te cs = some x → cs.length = K → ∃ a, cs = cells a ∧ P a)
    (h : DataW.trod enc Try.prog w base (fun _ => true) held fuel t cs = some x) :
    ∃ A c l, cs = [.slice A (l : List α).length c] ∧ RdRow w A l.length K (l.map cells) ∧ l.length ≤ maxLen ∧ l.length ≤ c ∧ ∀ a ∈ l, P a := by
  rcases Go.Deep.open_slice hu h with ⟨rfl, _⟩ | ⟨a, len, cap, m, n, D, Pl, rfl, hb, hl, hm, hmm, _, hx⟩
  · exact ⟨none, 0, [], rfl, RdRow.nil _ _ _, by unfold maxLen; simp, Nat.le_refl _, fun a ha => nomatch ha⟩
  · rw [hK] at hx
    simp only [if_true] at hmm
    have key : ∀ i, i < len → ∃ q : α, P q ∧ ∀ j, j < K → w.cell? ((a.add (i * K)).add j) = (cells q)[j]? := by
      intro i hi
      obtain ⟨cs', h1, h2⟩ := hx i (by omega)
      obtain ⟨_, h3, h4⟩ := World.cells?_some h1
      obtain ⟨q, rfl, hq⟩ := elem _ _ _ h2 h3
      exact ⟨q, hq, h4⟩
    obtain ⟨l, hll, hlp⟩ := list_of key
    refine ⟨some a, cap, l, by rw [hll], ?_, by omega, by rw [hll]; exact hl, fun q hq => ?_⟩
    · rw [hll]
      have hg1 : ∀ j, j < len → (l.map cells)[j]?.getD [] = cells (l[j]?.getD default) := fun j hj => by
        rw [List.getElem?_map, List.getElem?_eq_getElem (by omega)]; rfl
      refine ⟨by simp [hll], fun y hy => ?_, fun hn => ?_⟩
      · obtain ⟨q, _, rfl⟩ := List.mem_map.1 hy
        exact hlen q
      · have h0 := (hlp 0 hn).2 0 hK0
        rw [List.getElem?_eq_getElem (by rw [hlen]; exact hK0)] at h0
        obtain ⟨b, off, e⟩ := plain_addr h0
        rw [Nat.zero_mul, add_plain_zero, add_plain_zero] at e
        subst e
        refine ⟨b, off, rfl, by have := lt_of_cell h0; simpa [Addr.add] using this, fun j i v hv => ?_⟩
        have hj : j < len := by
          rcases Nat.lt_or_ge j len with h' | h'
          · exact h'
          · rw [List.getElem?_eq_none (l := l.map cells) (by simp [hll]; exact h')] at hv; simp at hv
        rw [hg1 j hj] at hv
        have hi : i < K := by
          rcases Nat.lt_or_ge i K with h' | h'
          · exact h'
          · rw [List.getElem?_eq_none (by rw [hlen]; exact h')] at hv; cases hv
        have := (hlp j hj).2 i hi
        rw [add_plain, add_plain, hv] at this
        exact this
    · obtain ⟨j, hj, rfl⟩ := List.mem_iff_getElem.1 hq
      have := (hlp j (by omega)).1
      rwa [List.getElem?_eq_getElem hj] at this
theorem len3 {l : List Value} (h : l.length = 3) : ∃ x0 x1 x2, l = [x0, x1, x2] := by
  match l, h with
  | [a, b, c], _ => exact ⟨a, b, c, rfl⟩
set_option maxRecDepth 100000 in
/-- A pair of ints. -/
theorem open_spanCells {x0 x1 : Value} (h : DataW.trod enc Try.prog w base (fun _ => true) held fuel 32 [x0, x1] = some x) : ∃ a b, x0 = .int .i64 a ∧ x1 = .int .i64 b := by
  have k3 : Try.prog.cellsOf 3 = 1 := by kernel_rfl
  obtain ⟨y0, y1, n', _, _, g0, g1⟩ := trod_struct2 Try.underlying32 h
  have g0 : DataW.trod enc Try.prog w base (fun _ => true) held n' 3 (([x0, x1].drop 0).take (Try.prog.cellsOf 3)) = some y0 := g0
  have g1 : DataW.trod enc Try.prog w base (fun _ => true) held n' 3 (([x0, x1].drop 1).take (Try.prog.cellsOf 3)) = some y1 := g1
  rw [k3] at g0 g1
  obtain ⟨z0, e0, _, _⟩ := DataW.trod_int Try.underlying3 g0
  obtain ⟨z1, e1, _, _⟩ := DataW.trod_int Try.underlying3 g1
  exact ⟨z0, z1, by simpa using e0, by simpa using e1⟩
set_option maxRecDepth 100000 in
theorem open_sk (n : Nat) (cs : List Value) (x : DataW H × List MemPlace) (h : DataW.trod enc Try.prog w base (fun _ => true) held n 76 cs = some x) (hl : cs.length = 5) : ∃ s : Skl, cs = skCells s ∧ s.name.size ≤ maxLen := by
  obtain ⟨x0, x1, x2, x3, x4, rfl⟩ := len5 hl
  have k9 : Try.prog.cellsOf 9 = 1 := by kernel_rfl
  have k2 : Try.prog.cellsOf 32 = 2 := by kernel_rfl
  obtain ⟨y0, y1, y2, n', _, _, g0, g1, g2⟩ := Go.Deep.trod_struct3 Try.underlying76 h
  have g0 : DataW.trod enc Try.prog w base (fun _ => true) held n' 9 (([x0, x1, x2, x3, x4].drop 0).take (Try.prog.cellsOf 9)) = some y0 := g0
  have g1 : DataW.trod enc Try.prog w base (fun _ => true) held n' 32 (([x0, x1, x2, x3, x4].drop 1).take (Try.prog.cellsOf 32)) = some y1 := g1
  have g2 : DataW.trod enc Try.prog w base (fun _ => true) held n' 32 (([x0, x1, x2, x3, x4].drop 3).take (Try.prog.cellsOf 32)) = some y2 := g2
  rw [k9] at g0
  rw [k2] at g1 g2
  obtain ⟨s, e0, _, hs⟩ := DataW.trod_string Try.underlying9 g0
  obtain ⟨gl, gh, rfl, rfl⟩ := open_spanCells g1
  obtain ⟨fl, fh, rfl, rfl⟩ := open_spanCells g2
  obtain rfl : x0 = .string s := by simpa using e0
  exact ⟨⟨s, gl, gh, fl, fh⟩, rfl, hs⟩
set_option maxRecDepth 100000 in
theorem open_in (n : Nat) (cs : List Value) (x : DataW H × List MemPlace) (h : DataW.trod enc Try.prog w base (fun _ => true) held n 81 cs = some x) (hl : cs.length = 3) : ∃ s : Ins, cs = inCells s ∧ s.name.size ≤ maxLen := by
  obtain ⟨x0, x1, x2, rfl⟩ := len3 hl
  have k9 : Try.prog.cellsOf 9 = 1 := by kernel_rfl
  have k2 : Try.prog.cellsOf 32 = 2 := by kernel_rfl
  obtain ⟨y0, y1, n', _, _, g0, g1⟩ := trod_struct2 Try.underlying81 h
  have g0 : DataW.trod enc Try.prog w base (fun _ => true) held n' 9 (([x0, x1, x2].drop 0).take (Try.prog.cellsOf 9)) = some y0 := g0
  have g1 : DataW.trod enc Try.prog w base (fun _ => true) held n' 32 (([x0, x1, x2].drop 1).take (Try.prog.cellsOf 32)) = some y1 := g1
  rw [k9] at g0
  rw [k2] at g1
  obtain ⟨s, e0, _, hs⟩ := DataW.trod_string Try.underlying9 g0
  obtain ⟨lo, hi, rfl, rfl⟩ := open_spanCells g1
  obtain rfl : x0 = .string s := by simpa using e0
  exact ⟨⟨s, lo, hi⟩, rfl, hs⟩
set_option maxRecDepth 100000 in
/-- A school. -/
theorem open_school {r : Reach} {b0 : Nat} {v : Value} {d : DataW H} {p : List MemPlace} (hv : Value.okWide Try.prog w r b0 25 v) (h : DataW.Trod enc Try.prog w base (fun _ => true) held 25 v d p) :
    ∃ S, RdSch w v S := by
  obtain ⟨v0, v1, y0, y1, n, rfl, _, _, h0, h1⟩ := Joins.open_agg2 Try.underlying25 (by kernel_rfl) (by kernel_rfl) hv h
  obtain ⟨A, c, sks, e0, hr, hm, hc, hn⟩ := open_row (cells := skCells) (K := 5) (P := fun s => s.name.size ≤ maxLen) Try.underlying22 (by kernel_rfl) (by decide) (fun _ => rfl) open_sk h0
  obtain ⟨A2, c2, ins, e1, hr2, hm2, hc2, hn2⟩ := open_row (cells := inCells) (K := 3) (P := fun s => s.name.size ≤ maxLen) Try.underlying23 (by kernel_rfl) (by decide) (fun _ => rfl) open_in h1
  simp only [List.cons.injEq, and_true] at e0 e1
  subst e0 e1
  exact ⟨⟨sks, ins⟩, A, c, A2, c2, rfl, hr, hm, hc, hn, hr2, hm2, hc2, hn2⟩
set_option maxRecDepth 100000 in
/-- What a law asks of a school. -/
theorem open_asked {r : Reach} {b0 : Nat} {v : Value} {d : DataW H} {p : List MemPlace} (hv : Value.okWide Try.prog w r b0 27 v) (h : DataW.Trod enc Try.prog w base (fun _ => true) held 27 v d p) :
    ∃ k n x, v = .agg #[.int .i64 k, .int .i64 n, .int .i64 x] := by
  obtain ⟨v0, v1, v2, y0, y1, y2, n, rfl, _, _, h0, h1, h2⟩ := Joins.open_agg3 Try.underlying27 (by kernel_rfl) (by kernel_rfl) hv h
  obtain ⟨z0, e0, _, _⟩ := DataW.trod_int Try.underlying3 h0
  obtain ⟨z1, e1, _, _⟩ := DataW.trod_int Try.underlying3 h1
  obtain ⟨z2, e2, _, _⟩ := DataW.trod_int Try.underlying3 h2
  simp only [List.cons.injEq, and_true] at e0 e1 e2
  subst e0 e1 e2
  exact ⟨z0, z1, z2, rfl⟩
end
end Go.Proofs.Ytkhijdbigpaagaa
