import Derived.Test.YtkmhldjebopljaaOz
import Derived.ProofKit
import Derived.Test.YtkmhldjebopljaaOd
import Derived.SliceStrings
import Derived.ChangeSlices
import Derived.Deep.Slices
import Derived.Deep.Strs
/-
  Arrays of numbers as arguments of the laws of the book layer.
-/
namespace Go.Proofs.Ytkmhldjebopljaa
open Go.ChangeShapes Go.WideShapes Go.ChangeAt Go.RowKit

section
variable {H : Type} {enc : TypeId × Value → H} {P : Program} {w : World} {base : Nat} {spare : Nat → Bool} {held : Bool} {r : Reach} {b0 : Nat}
theorem okWide_array_ {t e : TypeId} {n : Nat} {v : Value} (ht : P.underlying t = some (.array n e)) (h : Value.okWide P w r b0 t v) : ∃ cs, v = .agg cs ∧ cs.size = P.cellsOf t := by
  simp only [Value.okWide, ht] at h
  obtain ⟨cs, h1, h2, _⟩ := h
  exact ⟨cs, h1, h2⟩
theorem open_intarr {t e : TypeId} {n : Nat} {k : IntKind} {v : Value} {d : DataW H} {p : List MemPlace} (ht : P.underlying t = some (.array n e)) (he : P.underlying e = some (.int k)) (ce : P.cellsOf e = 1) (ct : P.cellsOf t = n)
    (hv : Value.okWide P w r b0 t v) (h : DataW.Trod enc P w base spare held t v d p) : ∃ zs : List Int, zs.length = n ∧ v = .agg (zs.map (Value.int k)).toArray ∧ ∀ z ∈ zs, (Lit.int k z).wf = true := by
  obtain ⟨cs, rfl, hsz⟩ := okWide_array_ ht hv
  obtain ⟨fuel, hf⟩ := h
  obtain ⟨xs, m, _, _, hl, hlen, hel⟩ := DataW.trod_array ht hf
  have hcs : (Value.agg cs).cells = cs := rfl
  rw [hcs] at hel
  rw [ct] at hsz
  have key : ∀ i (hi : i < n), ∃ z, cs.toList[i]? = some (.int k z) ∧ (Lit.int k z).wf = true := by
    intro i hi
    have hE := hel i hi
    rw [ce, Nat.mul_one, List.getElem?_eq_getElem (by omega)] at hE
    obtain ⟨z, e1, _, wz⟩ := DataW.trod_int he hE
    refine ⟨z, ?_, wz⟩
    have h0 : ((cs.toList.drop i).take 1)[0]? = some (.int k z) := by rw [e1]; rfl
    simpa using h0
  refine ⟨cs.toList.map intOf, by simp [hsz], ?_, ?_⟩
  · congr 1
    apply Array.ext
    · simp
    · intro i h1 h2
      obtain ⟨z, hz, _⟩ := key i (by omega)
      have hz' : cs[i] = .int k z := by
        rw [List.getElem?_eq_getElem (by simpa using h1)] at hz
        simpa using hz
      simp [hz', intOf]
  · intro z hz
    obtain ⟨u, hu, rfl⟩ := List.mem_map.1 hz
    obtain ⟨i, hi, rfl⟩ := List.mem_iff_getElem.1 hu
    obtain ⟨z, hz, wz⟩ := key i (by simpa [hsz] using hi)
    rw [List.getElem?_eq_getElem hi] at hz
    simp only [Option.some.injEq] at hz
    rw [hz]
    exact wz
end
theorem wf16 {z : Int} (h : (Lit.int .u16 z).wf = true) : 0 ≤ z ∧ z ≤ 65535 := by
  have hmin : IntKind.u16.min = 0 := rfl
  have hmax : IntKind.u16.max = 65535 := rfl
  simp only [Lit.wf, Bool.and_eq_true, decide_eq_true_eq] at h
  omega
theorem wf8 {z : Int} (h : (Lit.int .u8 z).wf = true) : 0 ≤ z ∧ z ≤ 255 := by
  have hmin : IntKind.u8.min = 0 := rfl
  have hmax : IntKind.u8.max = 255 := rfl
  simp only [Lit.wf, Bool.and_eq_true, decide_eq_true_eq] at h
  omega
section
variable {H : Type} {enc : TypeId × Value → H} {w : World} {base : Nat} {spare : Nat → Bool} {held : Bool} {r : Reach} {b0 : Nat} {v : Value} {d : DataW H} {p : List MemPlace}
set_option maxRecDepth 100000 in
theorem open_u16x3 (hv : Value.okWide Try.prog w r b0 73 v) (h : DataW.Trod enc Try.prog w base spare held 73 v d p) :
    ∃ x0 x1 x2 : Int, v = .agg #[.int .u16 x0, .int .u16 x1, .int .u16 x2] ∧ (0 ≤ x0 ∧ x0 ≤ 65535) ∧ (0 ≤ x1 ∧ x1 ≤ 65535) ∧ (0 ≤ x2 ∧ x2 ≤ 65535) := by
  obtain ⟨zs, hl, rfl, hw⟩ := open_intarr Try.underlying73 Try.underlying72 (by kernel_rfl) (by kernel_rfl) hv h
  match zs, hl with
  | [x0, x1, x2], _ => exact ⟨x0, x1, x2, rfl, wf16 (hw _ (by simp)), wf16 (hw _ (by simp)), wf16 (hw _ (by simp))⟩
set_option maxRecDepth 100000 in
theorem open_u8x2 (hv : Value.okWide Try.prog w r b0 75 v) (h : DataW.Trod enc Try.prog w base spare held 75 v d p) :
    ∃ x0 x1 : Int, v = .agg #[.int .u8 x0, .int .u8 x1] ∧ (0 ≤ x0 ∧ x0 ≤ 255) ∧ (0 ≤ x1 ∧ x1 ≤ 255) := by
  obtain ⟨zs, hl, rfl, hw⟩ := open_intarr Try.underlying75 Try.underlying5 (by kernel_rfl) (by kernel_rfl) hv h
  match zs, hl with
  | [x0, x1], _ => exact ⟨x0, x1, rfl, wf8 (hw _ (by simp)), wf8 (hw _ (by simp))⟩
set_option maxRecDepth 100000 in
theorem open_int2 (hv : Value.okWide Try.prog w r b0 29 v) (h : DataW.Trod enc Try.prog w base spare held 29 v d p) :
    ∃ x0 x1 : Int, v = .agg #[.int .i64 x0, .int .i64 x1] := by
  obtain ⟨zs, hl, rfl, _⟩ := open_intarr Try.underlying29 Try.underlying3 (by kernel_rfl) (by kernel_rfl) hv h
  match zs, hl with
  | [x0, x1], _ => exact ⟨x0, x1, rfl⟩
end
end Go.Proofs.Ytkmhldjebopljaa

/-
  The arguments of the laws of the book layer as they are read: schools.
-/
namespace Go.Proofs.Ytkmhldjebopljaa
open Go.ChangeShapes Go.WideShapes Go.ChangeAt Go.RowKit

theorem list_of {α : Type} [Inhabited α] {n : Nat} {P : Nat → α → Prop} (h : ∀ i, i < n → ∃ x, P i x) : ∃ l : List α, l.length = n ∧ ∀ i, i < n → P i (l[i]?.getD default) := by
  induction n with
  | zero => exact ⟨[], rfl, fun i hi => absurd hi (by omega)⟩
  | succ n ih =>
    obtain ⟨l, hl, hp⟩ := ih fun i hi => h i (by omega)
    obtain ⟨x, hx⟩ := h n (by omega)
    refine ⟨l ++ [x], by simp [hl], fun i hi => ?_⟩
    by_cases e : i = n
    · subst e
      rw [List.getElem?_append_right (by omega), hl]
      simpa using hx
    · rw [List.getElem?_append_left (by omega)]
      exact hp i (by omega)
theorem plain_addr {w : World} {a : Addr} {v : Value} (h : w.cell? a = some v) : ∃ b off, a = ⟨b, off, none⟩ := by
  obtain ⟨b, off, s⟩ := a
  cases s with
  | none => exact ⟨b, off, rfl⟩
  | some x =>
    exfalso
    unfold World.cell? at h
    simp only at h
    split at h <;> simp at h
theorem add_plain (b off i : Nat) : Addr.add ⟨b, off, none⟩ i = ⟨b, off + i, none⟩ := by
  unfold Addr.add
  split
  · rename_i h; subst h; rfl
  · rfl
theorem add_plain_zero (a : Addr) : a.add 0 = a := by simp [Addr.add]
section
variable {H : Type} {enc : TypeId × Value → H} {w : World} {base : Nat} {held : Bool} {fuel : Nat} {cs : List Value} {x : DataW H × List MemPlace}

/-- A row of structs of K cells. -/
theorem open_row {α : Type} [Inhabited α] {cells : α → List Value} {K : Nat} {t te : TypeId} {P : α → Prop} (hu : Try.prog.underlying t = some (.slice te)) (hK : Try.prog.cellsOf te = K) (hK0 : 0 < K) (hlen : ∀ a, (cells a).length = K)
    (elem : ∀ (n : Nat) (cs : List Value) (x : DataW H × List MemPlace), DataW.trod enc Try.prog w base (fun _ => true) held n te cs = some x → cs.length = K → ∃ a, cs = cells a ∧ P a)
    (h : DataW.trod enc Try.prog w base (fun _ => true) held fuel t cs = some x) :
    ∃ A c l, cs = [.slice A (l : List α).length c] ∧ RdRow w A l.length K (l.map cells) ∧ l.length ≤ maxLen ∧ l.length ≤ c ∧ ∀ a ∈ l, P a := by
  rcases Go.Deep.open_slice hu h with ⟨rfl, _⟩ | ⟨a, len, cap, m, n, D, Pl, rfl, hb, hl, hm, hmm, _, hx⟩
  · exact ⟨none, 0, [], rfl, RdRow.nil _ _ _, by unfold maxLen; simp, Nat.le_refl _, fun a ha => nomatch ha⟩
  · rw [hK] at hx
    simp only [if_true] at hmm
    have key : ∀ i, i < len → ∃ q : α, P q ∧ ∀ j, j < K → w.cell? ((a.add (i * K)).add j) = (cells q)[j]? := by
      intro i hi
      obtain ⟨cs', h1, h2⟩ := hx i (by omega)
      obtain ⟨_, h3, h4⟩ := World.cells?_some h1
      obtain ⟨q, rfl, hq⟩ := elem _ _ _ h2 h3
      exact ⟨q, hq, h4⟩
    obtain ⟨l, hll, hlp⟩ := list_of key
    refine ⟨some a, cap, l, by rw [hll], ?_, by omega, by rw [hll]; exact hl, fun q hq => ?_⟩
    · rw [hll]
      have hg1 : ∀ j, j < len → (l.map cells)[j]?.getD [] = cells (l[j]?.getD default) := fun j hj => by
        rw [List.getElem?_map, List.getElem?_eq_getElem (by omega)]; rfl
      refine ⟨by simp [hll], fun y hy => ?_, fun hn => ?_⟩
      · obtain ⟨q, _, rfl⟩ := List.mem_map.1 hy
        exact hlen q
      · have h0 := (hlp 0 hn).2 0 hK0
        rw [List.getElem?_eq_getElem (by rw [hlen]; exact hK0)] at h0
        obtain ⟨b, off, e⟩ := plain_addr h0
        rw [Nat.zero_mul, add_plain_zero, add_plain_zero] at e
        subst e
        refine ⟨b, off, rfl, by have := lt_of_cell h0; simpa [Addr.add] using this, fun j i v hv => ?_⟩
        have hj : j < len := by
          rcases Nat.lt_or_ge j len with h' | h'
          · exact h'
          · rw [List.getElem?_eq_none (l := l.map cells) (by simp [hll]; exact h')] at hv; simp at hv
        rw [hg1 j hj] at hv
        have hi : i < K := by
          rcases Nat.lt_or_ge i K with h' | h'
          · exact h'
          · rw [List.getElem?_eq_none (by rw [hlen]; exact h')] at hv; cases hv
        have := (hlp j hj).2 i hi
        rw [add_plain, add_plain, hv] at this
        exact this
    · obtain ⟨j, hj, rfl⟩ := List.mem_iff_getElem.1 hq
      have := (hlp j (by omega)).1
      rwa [List.getElem?_eq_getElem hj] at this
theorem len3 {l : List Value} (h : l.length = 3) : ∃ x0 x1 x2, l = [x0, x1, x2] := by
  match l, h with
  | [a, b, c], _ => exact ⟨a, b, c, rfl⟩
set_option maxRecDepth 100000 in
/-- A pair of ints. -/
theorem open_spanCells {x0 x1 : Value} (h : DataW.trod enc Try.prog w base (fun _ => true) held fuel 25 [x0, x1] = some x) : ∃ a b, x0 = .int .i64 a ∧ x1 = .int .i64 b := by
  have k3 : Try.prog.cellsOf 3 = 1 := by kernel_rfl
  obtain ⟨y0, y1, n', _, _, g0, g1⟩ := trod_struct2 Try.underlying25 h
  have g0 : DataW.trod enc Try.prog w base (fun _ => true) held n' 3 (([x0, x1].drop 0).take (Try.prog.cellsOf 3)) = some y0 := g0
  have g1 : DataW.trod enc Try.prog w base (fun _ => true) held n' 3 (([x0, x1].drop 1).take (Try.prog.cellsOf 3)) = some y1 := g1
  rw [k3] at g0 g1
  obtain ⟨z0, e0, _, _⟩ := DataW.trod_int Try.underlying3 g0
  obtain ⟨z1, e1, _, _⟩ := DataW.trod_int Try.underlying3 g1
  exact ⟨z0, z1, by simpa using e0, by simpa using e1⟩
/-- A row of strings. -/
theorem open_rdStrs (h : DataW.trod enc Try.prog w base (fun _ => true) held fuel 22 cs = some x) : ∃ A c xs, cs = [.slice A (xs : List ByteArray).length c] ∧ RdStrs w A xs.length xs ∧ xs.length ≤ maxLen ∧ xs.length ≤ c := by
  rcases open_strings Try.underlying22 Try.underlying9 (by kernel_rfl) h with ⟨rfl, _⟩ | ⟨a, len, cap, ss, rfl, hb, hl, hm, hlen, _, hc, hs⟩
  · exact ⟨none, 0, [], rfl, RdStrs.nil _ _, by unfold maxLen; simp, Nat.le_refl _⟩
  · simp only [if_true] at hlen
    have hlt : (ss.take len).length = len := by simp; omega
    refine ⟨some a, cap, ss.take len, by rw [hlt], ?_, by rw [hlt]; omega, by rw [hlt]; exact hl⟩
    rw [hlt]
    refine ⟨hlt, fun s hs' => hs s (List.mem_of_mem_take hs'), fun hn => ?_⟩
    have h0 := hc 0 (by omega)
    obtain ⟨b, off, e⟩ := plain_addr h0
    rw [add_plain_zero] at e
    subst e
    refine ⟨b, off, rfl, by have := lt_of_cell h0; simpa [Addr.add] using this, fun j s hj => ?_⟩
    have hj' : j < len := by
      rcases Nat.lt_or_ge j len with h' | h'
      · exact h'
      · rw [List.getElem?_eq_none (by omega)] at hj; cases hj
    have := hc j (by omega)
    rw [add_plain] at this
    rw [this]
    rw [List.getElem?_take_of_lt hj'] at hj
    simp [List.getD, hj]
set_option maxRecDepth 100000 in
theorem open_car (n : Nat) (cs : List Value) (x : DataW H × List MemPlace) (h : DataW.trod enc Try.prog w base (fun _ => true) held n 67 cs = some x) (hl : cs.length = 4) : ∃ s : BCar, cs = carCells s ∧ s.name.size ≤ maxLen := by
  obtain ⟨x0, x1, x2, x3, rfl⟩ : ∃ x0 x1 x2 x3, cs = [x0, x1, x2, x3] := by
    match cs, hl with
    | [a, b, c, d], _ => exact ⟨a, b, c, d, rfl⟩
  have k9 : Try.prog.cellsOf 9 = 1 := by kernel_rfl
  have k3 : Try.prog.cellsOf 3 = 1 := by kernel_rfl
  obtain ⟨y0, y1, y2, y3, n', _, _, g0, g1, g2, g3⟩ := Joins.trod_struct4 Try.underlying67 h
  have g0 : DataW.trod enc Try.prog w base (fun _ => true) held n' 9 (([x0, x1, x2, x3].drop 0).take (Try.prog.cellsOf 9)) = some y0 := g0
  have g1 : DataW.trod enc Try.prog w base (fun _ => true) held n' 3 (([x0, x1, x2, x3].drop 1).take (Try.prog.cellsOf 3)) = some y1 := g1
  have g2 : DataW.trod enc Try.prog w base (fun _ => true) held n' 3 (([x0, x1, x2, x3].drop 2).take (Try.prog.cellsOf 3)) = some y2 := g2
  have g3 : DataW.trod enc Try.prog w base (fun _ => true) held n' 3 (([x0, x1, x2, x3].drop 3).take (Try.prog.cellsOf 3)) = some y3 := g3
  rw [k9] at g0
  rw [k3] at g1 g2 g3
  obtain ⟨s, e0, _, hs⟩ := DataW.trod_string Try.underlying9 g0
  obtain ⟨z1, e1, _, _⟩ := DataW.trod_int Try.underlying3 g1
  obtain ⟨z2, e2, _, _⟩ := DataW.trod_int Try.underlying3 g2
  obtain ⟨z3, e3, _, _⟩ := DataW.trod_int Try.underlying3 g3
  obtain rfl : x0 = .string s := by simpa using e0
  obtain rfl : x1 = .int .i64 z1 := by simpa using e1
  obtain rfl : x2 = .int .i64 z2 := by simpa using e2
  obtain rfl : x3 = .int .i64 z3 := by simpa using e3
  exact ⟨⟨s, z1, z2, z3⟩, rfl, hs⟩
set_option maxRecDepth 100000 in
theorem open_term (n : Nat) (cs : List Value) (x : DataW H × List MemPlace) (h : DataW.trod enc Try.prog w base (fun _ => true) held n 86 cs = some x) (hl : cs.length = 2) : ∃ s : BTerm, cs = termCells s ∧ True := by
  obtain ⟨x0, x1, rfl⟩ : ∃ x0 x1, cs = [x0, x1] := by
    match cs, hl with
    | [a, b], _ => exact ⟨a, b, rfl⟩
  have k3 : Try.prog.cellsOf 3 = 1 := by kernel_rfl
  obtain ⟨y0, y1, n', _, _, g0, g1⟩ := trod_struct2 Try.underlying86 h
  have g0 : DataW.trod enc Try.prog w base (fun _ => true) held n' 3 (([x0, x1].drop 0).take (Try.prog.cellsOf 3)) = some y0 := g0
  have g1 : DataW.trod enc Try.prog w base (fun _ => true) held n' 3 (([x0, x1].drop 1).take (Try.prog.cellsOf 3)) = some y1 := g1
  rw [k3] at g0 g1
  obtain ⟨z0, e0, _, _⟩ := DataW.trod_int Try.underlying3 g0
  obtain ⟨z1, e1, _, _⟩ := DataW.trod_int Try.underlying3 g1
  obtain rfl : x0 = .int .i64 z0 := by simpa using e0
  obtain rfl : x1 = .int .i64 z1 := by simpa using e1
  exact ⟨⟨z0, z1⟩, rfl, trivial⟩
theorem array7 {α : Type} {cs : Array α} (h : cs.size = 7) : ∃ c0 c1 c2 c3 c4 c5 c6, cs = #[c0, c1, c2, c3, c4, c5, c6] := by
  obtain ⟨l⟩ := cs
  match l, h with
  | [c0, c1, c2, c3, c4, c5, c6], _ => exact ⟨c0, c1, c2, c3, c4, c5, c6, rfl⟩
set_option maxRecDepth 100000 in
/-- A school. -/
theorem open_school {r : Reach} {b0 : Nat} {v : Value} {d : DataW H} {p : List MemPlace} (hv : Value.okWide Try.prog w r b0 28 v) (h : DataW.Trod enc Try.prog w base (fun _ => true) held 28 v d p) :
    ∃ S, RdBSch w v S := by
  obtain ⟨cs, rfl, hsz⟩ := okWide_struct Try.underlying28 hv
  have k7 : Try.prog.cellsOf 28 = 7 := by kernel_rfl
  obtain ⟨c0, c1, c2, c3, c4, c5, c6, rfl⟩ := array7 (hsz.trans k7)
  obtain ⟨fuel, hf⟩ := h
  obtain ⟨ys, n, _, _, _, hlen, hf⟩ := DataW.trod_struct Try.underlying28 hf
  have k3 : Try.prog.cellsOf 3 = 1 := by kernel_rfl
  have k2 : Try.prog.cellsOf 25 = 2 := by kernel_rfl
  have ks : Try.prog.cellsOf 22 = 1 := by kernel_rfl
  have kc : Try.prog.cellsOf 23 = 1 := by kernel_rfl
  have kt : Try.prog.cellsOf 26 = 1 := by kernel_rfl
  have hlen : ys.length = 6 := hlen
  obtain ⟨y0, y1, y2, y3, y4, y5, rfl⟩ : ∃ y0 y1 y2 y3 y4 y5, ys = [y0, y1, y2, y3, y4, y5] := by
    match ys, hlen with
    | [y0, y1, y2, y3, y4, y5], _ => exact ⟨y0, y1, y2, y3, y4, y5, rfl⟩
  have g0 : DataW.trod enc Try.prog w base (fun _ => true) held n 22 (([c0, c1, c2, c3, c4, c5, c6].drop 0).take (Try.prog.cellsOf 22)) = some y0 := hf 0 _ rfl
  have g1 : DataW.trod enc Try.prog w base (fun _ => true) held n 23 (([c0, c1, c2, c3, c4, c5, c6].drop 1).take (Try.prog.cellsOf 23)) = some y1 := hf 1 _ rfl
  have g2 : DataW.trod enc Try.prog w base (fun _ => true) held n 3 (([c0, c1, c2, c3, c4, c5, c6].drop 2).take (Try.prog.cellsOf 3)) = some y2 := hf 2 _ rfl
  have g3 : DataW.trod enc Try.prog w base (fun _ => true) held n 3 (([c0, c1, c2, c3, c4, c5, c6].drop 3).take (Try.prog.cellsOf 3)) = some y3 := hf 3 _ rfl
  have g4 : DataW.trod enc Try.prog w base (fun _ => true) held n 25 (([c0, c1, c2, c3, c4, c5, c6].drop 4).take (Try.prog.cellsOf 25)) = some y4 := hf 4 _ rfl
  have g5 : DataW.trod enc Try.prog w base (fun _ => true) held n 26 (([c0, c1, c2, c3, c4, c5, c6].drop 6).take (Try.prog.cellsOf 26)) = some y5 := hf 5 _ rfl
  rw [ks] at g0
  rw [kc] at g1
  rw [k3] at g2 g3
  rw [k2] at g4
  rw [kt] at g5
  obtain ⟨L, cl, ls, e0, hr0, hm0, hc0⟩ := open_rdStrs g0
  obtain ⟨C, cc, crs, e1, hr1, hm1, hc1, hn1⟩ := open_row (cells := carCells) (K := 4) (P := fun s => s.name.size ≤ maxLen) Try.underlying23 (by kernel_rfl) (by decide) (fun _ => rfl) open_car g1
  obtain ⟨z2, e2, _, _⟩ := DataW.trod_int Try.underlying3 g2
  obtain ⟨z3, e3, _, _⟩ := DataW.trod_int Try.underlying3 g3
  obtain ⟨lo, hi, rfl, rfl⟩ := open_spanCells g4
  obtain ⟨T, ct, ts, e5, hr5, hm5, hc5, _⟩ := open_row (cells := termCells) (K := 2) (P := fun _ => True) Try.underlying26 (by kernel_rfl) (by decide) (fun _ => rfl) open_term g5
  obtain rfl : c0 = .slice L ls.length cl := by simpa using e0
  obtain rfl : c1 = .slice C crs.length cc := by simpa using e1
  obtain rfl : c2 = .int .i64 z2 := by simpa using e2
  obtain rfl : c3 = .int .i64 z3 := by simpa using e3
  obtain rfl : c6 = .slice T ts.length ct := by simpa using e5
  exact ⟨⟨ls, crs, z2, z3, lo, hi, ts⟩, L, C, T, cl, cc, ct, rfl, ⟨hr0, ⟨hm0, hc0⟩, hr1, ⟨hm1, hc1⟩, hn1, hr5, ⟨hm5, hc5⟩⟩⟩
end
end Go.Proofs.Ytkmhldjebopljaa
