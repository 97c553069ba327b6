import Derived.Test.YtnmgnonbgihalaaPz
import Derived.ProofKit
import Derived.Test.YtnmgnonbgihalaaPt
import Derived.SliceStrings
import Derived.ChangeSlices
import Derived.Deep.Slices
import Derived.Deep.Strs
/-
  Arrays of numbers as arguments of the laws of the paper layer.
-/
namespace Go.Proofs.Ytnmgnonbgihalaa
open Go.ChangeShapes Go.WideShapes Go.ChangeAt Go.RowKit

section
variable {H : Type} {enc : TypeId × Value → H} {P : Program} {w : World} {base : Nat} {spare : Nat → Bool} {held : Bool} {r : Reach} {b0 : Nat}
theorem okWide_array_ {t e : TypeId} {n : Nat} {v : Value} (ht : P.underlying t = some (.array n e)) (h : Value.okWide P w r b0 t v) : ∃ cs, v = .agg cs ∧ cs.size = P.cellsOf t := by
  simp only [Value.okWide, ht] at h
  obtain ⟨cs, h1, h2, _⟩ := h
  exact ⟨cs, h1, h2⟩
theorem open_intarr {t e : TypeId} {n : Nat} {k : IntKind} {v : Value} {d : DataW H} {p : List MemPlace} (ht : P.underlying t = some (.array n e)) (he : P.underlying e = some (.int k)) (ce : P.cellsOf e = 1) (ct : P.cellsOf t = n)
    (hv : Value.okWide P w r b0 t v) (h : DataW.Trod enc P w base spare held t v d p) : ∃ zs : List Int, zs.length = n ∧ v = .agg (zs.map (Value.int k)).toArray ∧ ∀ z ∈ zs, (Lit.int k z).wf = true := by
  obtain ⟨cs, rfl, hsz⟩ := okWide_array_ ht hv
  obtain ⟨fuel, hf⟩ := h
  obtain ⟨xs, m, _, _, hl, hlen, hel⟩ := DataW.trod_array ht hf
  have hcs : (Value.agg cs).cells = cs := rfl
  rw [hcs] at hel
  rw [ct] at hsz
  have key : ∀ i (hi : i < n), ∃ z, cs.toList[i]? = some (.int k z) ∧ (Lit.int k z).wf = true := by
    intro i hi
    have hE := hel i hi
    rw [ce, Nat.mul_one, List.getElem?_eq_getElem (by omega)] at hE
    obtain ⟨z, e1, _, wz⟩ := DataW.trod_int he hE
    refine ⟨z, ?_, wz⟩
    have h0 : ((cs.toList.drop i).take 1)[0]? = some (.int k z) := by rw [e1]; rfl
    simpa using h0
  refine ⟨cs.toList.map intOf, by simp [hsz], ?_, ?_⟩
  · congr 1
    apply Array.ext
    · simp
    · intro i h1 h2
      obtain ⟨z, hz, _⟩ := key i (by omega)
      have hz' : cs[i] = .int k z := by
        rw [List.getElem?_eq_getElem (by simpa using h1)] at hz
        simpa using hz
      simp [hz', intOf]
  · intro z hz
    obtain ⟨u, hu, rfl⟩ := List.mem_map.1 hz
    obtain ⟨i, hi, rfl⟩ := List.mem_iff_getElem.1 hu
    obtain ⟨z, hz, wz⟩ := key i (by simpa [hsz] using hi)
    rw [List.getElem?_eq_getElem hi] at hz
    simp only [Option.some.injEq] at hz
    rw [hz]
    exact wz
end
theorem wf16 {z : Int} (h : (Lit.int .u16 z).wf = true) : 0 ≤ z ∧ z ≤ 65535 := by
  have hmin : IntKind.u16.min = 0 := rfl
  have hmax : IntKind.u16.max = 65535 := rfl
  simp only [Lit.wf, Bool.and_eq_true, decide_eq_true_eq] at h
  omega
theorem wf8 {z : Int} (h : (Lit.int .u8 z).wf = true) : 0 ≤ z ∧ z ≤ 255 := by
  have hmin : IntKind.u8.min = 0 := rfl
  have hmax : IntKind.u8.max = 255 := rfl
  simp only [Lit.wf, Bool.and_eq_true, decide_eq_true_eq] at h
  omega
section
variable {H : Type} {enc : TypeId × Value → H} {w : World} {base : Nat} {spare : Nat → Bool} {held : Bool} {r : Reach} {b0 : Nat} {v : Value} {d : DataW H} {p : List MemPlace}
set_option maxRecDepth 100000 in
theorem open_u16x2 (hv : Value.okWide Try.prog w r b0 58 v) (h : DataW.Trod enc Try.prog w base spare held 58 v d p) :
    ∃ x0 x1 : Int, v = .agg #[.int .u16 x0, .int .u16 x1] ∧ (0 ≤ x0 ∧ x0 ≤ 65535) ∧ (0 ≤ x1 ∧ x1 ≤ 65535) := by
  obtain ⟨zs, hl, rfl, hw⟩ := open_intarr Try.underlying58 Try.underlying57 (by kernel_rfl) (by kernel_rfl) hv h
  match zs, hl with
  | [x0, x1], _ => exact ⟨x0, x1, rfl, wf16 (hw _ (by simp)), wf16 (hw _ (by simp))⟩
set_option maxRecDepth 100000 in
theorem open_u16x3 (hv : Value.okWide Try.prog w r b0 67 v) (h : DataW.Trod enc Try.prog w base spare held 67 v d p) :
    ∃ x0 x1 x2 : Int, v = .agg #[.int .u16 x0, .int .u16 x1, .int .u16 x2] ∧ (0 ≤ x0 ∧ x0 ≤ 65535) ∧ (0 ≤ x1 ∧ x1 ≤ 65535) ∧ (0 ≤ x2 ∧ x2 ≤ 65535) := by
  obtain ⟨zs, hl, rfl, hw⟩ := open_intarr Try.underlying67 Try.underlying57 (by kernel_rfl) (by kernel_rfl) hv h
  match zs, hl with
  | [x0, x1, x2], _ => exact ⟨x0, x1, x2, rfl, wf16 (hw _ (by simp)), wf16 (hw _ (by simp)), wf16 (hw _ (by simp))⟩
set_option maxRecDepth 100000 in
theorem open_u16x4 (hv : Value.okWide Try.prog w r b0 71 v) (h : DataW.Trod enc Try.prog w base spare held 71 v d p) :
    ∃ x0 x1 x2 x3 : Int, v = .agg #[.int .u16 x0, .int .u16 x1, .int .u16 x2, .int .u16 x3] ∧ (0 ≤ x0 ∧ x0 ≤ 65535) ∧ (0 ≤ x1 ∧ x1 ≤ 65535) ∧ (0 ≤ x2 ∧ x2 ≤ 65535) ∧ (0 ≤ x3 ∧ x3 ≤ 65535) := by
  obtain ⟨zs, hl, rfl, hw⟩ := open_intarr Try.underlying71 Try.underlying57 (by kernel_rfl) (by kernel_rfl) hv h
  match zs, hl with
  | [x0, x1, x2, x3], _ => exact ⟨x0, x1, x2, x3, rfl, wf16 (hw _ (by simp)), wf16 (hw _ (by simp)), wf16 (hw _ (by simp)), wf16 (hw _ (by simp))⟩
set_option maxRecDepth 100000 in
theorem open_u16 (hv : Value.okWide Try.prog w r b0 57 v) (h : DataW.Trod enc Try.prog w base spare held 57 v d p) : ∃ x : Int, v = .int .u16 x ∧ 0 ≤ x ∧ x ≤ 65535 := by
  obtain ⟨x, rfl, -, -, hw⟩ := open_int Try.underlying57 hv h
  exact ⟨x, rfl, wf16 hw⟩
set_option maxRecDepth 100000 in
theorem open_u8 (hv : Value.okWide Try.prog w r b0 5 v) (h : DataW.Trod enc Try.prog w base spare held 5 v d p) : ∃ x : Int, v = .int .u8 x ∧ 0 ≤ x ∧ x ≤ 255 := by
  obtain ⟨x, rfl, -, -, hw⟩ := open_int Try.underlying5 hv h
  exact ⟨x, rfl, wf8 hw⟩
end
end Go.Proofs.Ytnmgnonbgihalaa

/-
  The arguments of the laws of the paper layer as they are read: banks, halls, lists.
-/
namespace Go.Proofs.Ytnmgnonbgihalaa
open Go.ChangeShapes Go.WideShapes Go.ChangeAt Go.RowKit

theorem list_of {α : Type} [Inhabited α] {n : Nat} {P : Nat → α → Prop} (h : ∀ i, i < n → ∃ x, P i x) : ∃ l : List α, l.length = n ∧ ∀ i, i < n → P i (l[i]?.getD default) := by
  induction n with
  | zero => exact ⟨[], rfl, fun i hi => absurd hi (by omega)⟩
  | succ n ih =>
    obtain ⟨l, hl, hp⟩ := ih fun i hi => h i (by omega)
    obtain ⟨x, hx⟩ := h n (by omega)
    refine ⟨l ++ [x], by simp [hl], fun i hi => ?_⟩
    by_cases e : i = n
    · subst e
      rw [List.getElem?_append_right (by omega), hl]
      simpa using hx
    · rw [List.getElem?_append_left (by omega)]
      exact hp i (by omega)
theorem plain_addr {w : World} {a : Addr} {v : Value} (h : w.cell? a = some v) : ∃ b off, a = ⟨b, off, none⟩ := by
  obtain ⟨b, off, s⟩ := a
  cases s with
  | none => exact ⟨b, off, rfl⟩
  | some x =>
    exfalso
    unfold World.cell? at h
    simp only at h
    split at h <;> simp at h
theorem add_plain (b off i : Nat) : Addr.add ⟨b, off, none⟩ i = ⟨b, off + i, none⟩ := by
  unfold Addr.add
  split
  · rename_i h; subst h; rfl
  · rfl
theorem add_plain_zero (a : Addr) : a.add 0 = a := by simp [Addr.add]
section
variable {H : Type} {enc : TypeId × Value → H} {w : World} {base : Nat} {held : Bool} {fuel : Nat} {cs : List Value} {x : DataW H × List MemPlace}

/-- A row of structs of K cells. -/
theorem open_row {α : Type} [Inhabited α] {cells : α → List Value} {K : Nat} {t te : TypeId} {P : α → Prop} (hu : Try.prog.underlying t = some (.slice te)) (hK : Try.prog.cellsOf te = K) (hK0 : 0 < K) (hlen : ∀ a, (cells a).length = K)
    (elem : ∀ (n : Nat) (cs : List Value) (x : DataW H × List MemPlace), DataW.trod enc Try.prog w base (fun _ => true) held n te cs = some x → cs.length = K → ∃ a, cs = cells a ∧ P a)
    (h : DataW.trod enc Try.prog w base (fun _ => true) held fuel t cs = some x) :
    ∃ A c l, cs = [.slice A (l : List α).length c] ∧ RdRow w A l.length K (l.map cells) ∧ l.length ≤ maxLen ∧ l.length ≤ c ∧ (A = none → c = 0) ∧ ∀ a ∈ l, P a := by
  rcases Go.Deep.open_slice hu h with ⟨rfl, _⟩ | ⟨a, len, cap, m, n, D, Pl, rfl, hb, hl, hm, hmm, _, hx⟩
  · exact ⟨none, 0, [], rfl, RdRow.nil _ _ _, by unfold maxLen; simp, Nat.le_refl _, fun _ => rfl, fun a ha => nomatch ha⟩
  · rw [hK] at hx
    simp only [if_true] at hmm
    have key : ∀ i, i < len → ∃ q : α, P q ∧ ∀ j, j < K → w.cell? ((a.add (i * K)).add j) = (cells q)[j]? := by
      intro i hi
      obtain ⟨cs', h1, h2⟩ := hx i (by omega)
      obtain ⟨_, h3, h4⟩ := World.cells?_some h1
      obtain ⟨q, rfl, hq⟩ := elem _ _ _ h2 h3
      exact ⟨q, hq, h4⟩
    obtain ⟨l, hll, hlp⟩ := list_of key
    refine ⟨some a, cap, l, by rw [hll], ?_, by omega, by rw [hll]; exact hl, (fun e => by cases e), fun q hq => ?_⟩
    · rw [hll]
      have hg1 : ∀ j, j < len → (l.map cells)[j]?.getD [] = cells (l[j]?.getD default) := fun j hj => by
        rw [List.getElem?_map, List.getElem?_eq_getElem (by omega)]; rfl
      refine ⟨by simp [hll], fun y hy => ?_, fun hn => ?_⟩
      · obtain ⟨q, _, rfl⟩ := List.mem_map.1 hy
        exact hlen q
      · have h0 := (hlp 0 hn).2 0 hK0
        rw [List.getElem?_eq_getElem (by rw [hlen]; exact hK0)] at h0
        obtain ⟨b, off, e⟩ := plain_addr h0
        rw [Nat.zero_mul, add_plain_zero, add_plain_zero] at e
        subst e
        refine ⟨b, off, rfl, by have := lt_of_cell h0; simpa [Addr.add] using this, fun j i v hv => ?_⟩
        have hj : j < len := by
          rcases Nat.lt_or_ge j len with h' | h'
          · exact h'
          · rw [List.getElem?_eq_none (l := l.map cells) (by simp [hll]; exact h')] at hv; simp at hv
        rw [hg1 j hj] at hv
        have hi : i < K := by
          rcases Nat.lt_or_ge i K with h' | h'
          · exact h'
          · rw [List.getElem?_eq_none (by rw [hlen]; exact h')] at hv; cases hv
        have := (hlp j hj).2 i hi
        rw [add_plain, add_plain, hv] at this
        exact this
    · obtain ⟨j, hj, rfl⟩ := List.mem_iff_getElem.1 hq
      have := (hlp j (by omega)).1
      rwa [List.getElem?_eq_getElem hj] at this
theorem len3 {l : List Value} (h : l.length = 3) : ∃ x0 x1 x2, l = [x0, x1, x2] := by
  match l, h with
  | [a, b, c], _ => exact ⟨a, b, c, rfl⟩
set_option maxRecDepth 100000 in
/-- A pair of ints. -/
theorem open_spanCells {x0 x1 : Value} (h : DataW.trod enc Try.prog w base (fun _ => true) held fuel 25 [x0, x1] = some x) : ∃ a b, x0 = .int .i64 a ∧ x1 = .int .i64 b := by
  have k3 : Try.prog.cellsOf 3 = 1 := by kernel_rfl
  obtain ⟨y0, y1, n', _, _, g0, g1⟩ := trod_struct2 Try.underlying25 h
  have g0 : DataW.trod enc Try.prog w base (fun _ => true) held n' 3 (([x0, x1].drop 0).take (Try.prog.cellsOf 3)) = some y0 := g0
  have g1 : DataW.trod enc Try.prog w base (fun _ => true) held n' 3 (([x0, x1].drop 1).take (Try.prog.cellsOf 3)) = some y1 := g1
  rw [k3] at g0 g1
  obtain ⟨z0, e0, _, _⟩ := DataW.trod_int Try.underlying3 g0
  obtain ⟨z1, e1, _, _⟩ := DataW.trod_int Try.underlying3 g1
  exact ⟨z0, z1, by simpa using e0, by simpa using e1⟩
theorem rdInts_row {w : World} {A : Option Addr} {n : Nat} {xs : List Int} (h : RdRow w A n 1 (xs.map iCells)) : RdInts w A n xs := by
  refine ⟨by have := h.1; rwa [List.length_map] at this, fun hn => ?_⟩
  obtain ⟨b, off, e, hlt, hc⟩ := h.2.2 hn
  refine ⟨b, off, e, hlt, fun j hj => ?_⟩
  have hl : xs.length = n := by have := h.1; rwa [List.length_map] at this
  have := hc j 0 (.int .i64 (xs[j]?.getD 0)) (by rw [List.getElem?_map, List.getElem?_eq_getElem (show j < xs.length by omega)]; rfl)
  rwa [Nat.mul_one, Nat.add_zero] at this
/-- A list of ints. -/
theorem open_list (h : DataW.trod enc Try.prog w base (fun _ => true) held fuel 23 cs = some x) : ∃ A c xs, cs = [.slice A (xs : List Int).length c] ∧ RdInts w A xs.length xs ∧ xs.length ≤ maxLen ∧ xs.length ≤ c ∧ (A = none → c = 0) ∧ ∀ z ∈ xs, -9223372036854775808 ≤ z ∧ z ≤ 9223372036854775807 := by
  obtain ⟨A, c, l, e, hr, hm, hc, hA, hw⟩ := open_row (cells := iCells) (K := 1) (P := fun z => -9223372036854775808 ≤ z ∧ z ≤ 9223372036854775807) Try.underlying23 (by kernel_rfl) (by decide) (fun _ => rfl) (fun n cs x h hl => by
    obtain ⟨z, e, _, hw⟩ := DataW.trod_int Try.underlying3 h
    exact ⟨z, e, wf64 hw⟩) h
  exact ⟨A, c, l, e, rdInts_row hr, hm, hc, hA, hw⟩
set_option maxRecDepth 100000 in
theorem open_qnCells {x0 x1 x2 : Value} (h : DataW.trod enc Try.prog w base (fun _ => true) held fuel 61 [x0, x1, x2] = some x) : ∃ a b c, x0 = .int .i64 a ∧ x1 = .int .i64 b ∧ x2 = .int .i64 c := by
  have k3 : Try.prog.cellsOf 3 = 1 := by kernel_rfl
  obtain ⟨y0, y1, y2, n', _, _, g0, g1, g2⟩ := Go.Deep.trod_struct3 Try.underlying61 h
  have g0 : DataW.trod enc Try.prog w base (fun _ => true) held n' 3 (([x0, x1, x2].drop 0).take (Try.prog.cellsOf 3)) = some y0 := g0
  have g1 : DataW.trod enc Try.prog w base (fun _ => true) held n' 3 (([x0, x1, x2].drop 1).take (Try.prog.cellsOf 3)) = some y1 := g1
  have g2 : DataW.trod enc Try.prog w base (fun _ => true) held n' 3 (([x0, x1, x2].drop 2).take (Try.prog.cellsOf 3)) = some y2 := g2
  rw [k3] at g0 g1 g2
  obtain ⟨z0, e0, _, _⟩ := DataW.trod_int Try.underlying3 g0
  obtain ⟨z1, e1, _, _⟩ := DataW.trod_int Try.underlying3 g1
  obtain ⟨z2, e2, _, _⟩ := DataW.trod_int Try.underlying3 g2
  exact ⟨z0, z1, z2, by simpa using e0, by simpa using e1, by simpa using e2⟩
set_option maxRecDepth 100000 in
theorem open_hallCells {x0 x1 x2 : Value} (h : DataW.trod enc Try.prog w base (fun _ => true) held fuel 44 [x0, x1, x2] = some x) : ∃ a b c, x0 = .int .i64 a ∧ x1 = .int .i64 b ∧ x2 = .int .i64 c := by
  have k3 : Try.prog.cellsOf 3 = 1 := by kernel_rfl
  obtain ⟨y0, y1, y2, n', _, _, g0, g1, g2⟩ := Go.Deep.trod_struct3 Try.underlying44 h
  have g0 : DataW.trod enc Try.prog w base (fun _ => true) held n' 3 (([x0, x1, x2].drop 0).take (Try.prog.cellsOf 3)) = some y0 := g0
  have g1 : DataW.trod enc Try.prog w base (fun _ => true) held n' 3 (([x0, x1, x2].drop 1).take (Try.prog.cellsOf 3)) = some y1 := g1
  have g2 : DataW.trod enc Try.prog w base (fun _ => true) held n' 3 (([x0, x1, x2].drop 2).take (Try.prog.cellsOf 3)) = some y2 := g2
  rw [k3] at g0 g1 g2
  obtain ⟨z0, e0, _, _⟩ := DataW.trod_int Try.underlying3 g0
  obtain ⟨z1, e1, _, _⟩ := DataW.trod_int Try.underlying3 g1
  obtain ⟨z2, e2, _, _⟩ := DataW.trod_int Try.underlying3 g2
  exact ⟨z0, z1, z2, by simpa using e0, by simpa using e1, by simpa using e2⟩
theorem open_qn (n : Nat) (cs : List Value) (x : DataW H × List MemPlace) (h : DataW.trod enc Try.prog w base (fun _ => true) held n 61 cs = some x) (hl : cs.length = 3) : ∃ q : Qn, cs = qCells q ∧ True := by
  obtain ⟨x0, x1, x2, rfl⟩ := len3 hl
  obtain ⟨a, b, c, rfl, rfl, rfl⟩ := open_qnCells h
  exact ⟨⟨a, b, c⟩, rfl, trivial⟩
theorem array4 {α : Type} {cs : Array α} (h : cs.size = 4) : ∃ c0 c1 c2 c3, cs = #[c0, c1, c2, c3] := by
  obtain ⟨l⟩ := cs
  match l, h with
  | [c0, c1, c2, c3], _ => exact ⟨c0, c1, c2, c3, rfl⟩
theorem array3 {α : Type} {cs : Array α} (h : cs.size = 3) : ∃ c0 c1 c2, cs = #[c0, c1, c2] := by
  obtain ⟨l⟩ := cs
  match l, h with
  | [c0, c1, c2], _ => exact ⟨c0, c1, c2, rfl⟩
/-- A bank that came in. -/
def BankIn (w : World) (v : Value) (Q Wd : Option Addr) (cq cw : Nat) (B : Bank) : Prop := v = bkV Q Wd cq cw B ∧ BkR w Q Wd B ∧ B.qs.length ≤ cq ∧ (Q = none → cq = 0)
set_option maxRecDepth 100000 in
/-- A bank. -/
theorem open_bank {r : Reach} {b0 : Nat} {v : Value} {d : DataW H} {p : List MemPlace} (hv : Value.okWide Try.prog w r b0 27 v) (h : DataW.Trod enc Try.prog w base (fun _ => true) held 27 v d p) :
    ∃ Q Wd cq cw B, BankIn w v Q Wd cq cw B := by
  obtain ⟨cs, rfl, hsz⟩ := okWide_struct Try.underlying27 hv
  have k7 : Try.prog.cellsOf 27 = 4 := by kernel_rfl
  obtain ⟨c0, c1, c2, c3, rfl⟩ := array4 (hsz.trans k7)
  obtain ⟨fuel, hf⟩ := h
  obtain ⟨y0, y1, y2, n, _, _, g0, g1, g2⟩ := Go.Deep.trod_struct3 Try.underlying27 hf
  have ks : Try.prog.cellsOf 22 = 1 := by kernel_rfl
  have ki : Try.prog.cellsOf 23 = 1 := by kernel_rfl
  have k2 : Try.prog.cellsOf 25 = 2 := by kernel_rfl
  have g0 : DataW.trod enc Try.prog w base (fun _ => true) held n 22 (([c0, c1, c2, c3].drop 0).take (Try.prog.cellsOf 22)) = some y0 := g0
  have g1 : DataW.trod enc Try.prog w base (fun _ => true) held n 23 (([c0, c1, c2, c3].drop 1).take (Try.prog.cellsOf 23)) = some y1 := g1
  have g2 : DataW.trod enc Try.prog w base (fun _ => true) held n 25 (([c0, c1, c2, c3].drop 2).take (Try.prog.cellsOf 25)) = some y2 := g2
  rw [ks] at g0
  rw [ki] at g1
  rw [k2] at g2
  obtain ⟨Q, cq, qs, e0, hr0, hm0, hc0, hA0, _⟩ := open_row (cells := qCells) (K := 3) (P := fun _ => True) Try.underlying22 (by kernel_rfl) (by decide) (fun _ => rfl) open_qn g0
  obtain ⟨Wd, cw, ws, e1, hr1, hm1, hc1, hA1, _⟩ := open_list g1
  obtain ⟨lo, hi, rfl, rfl⟩ := open_spanCells g2
  obtain rfl : c0 = .slice Q qs.length cq := by simpa using e0
  obtain rfl : c1 = .slice Wd ws.length cw := by simpa using e1
  exact ⟨Q, Wd, cq, cw, ⟨qs, ws, lo, hi⟩, rfl, ⟨hr0, hr1, hm0, hm1⟩, hc0, hA0⟩
set_option maxRecDepth 100000 in
/-- A hall. -/
theorem open_hall {r : Reach} {b0 : Nat} {v : Value} {d : DataW H} {p : List MemPlace} (hv : Value.okWide Try.prog w r b0 44 v) (h : DataW.Trod enc Try.prog w base (fun _ => true) held 44 v d p) :
    ∃ hr hs hc : Int, v = .agg #[.int .i64 hr, .int .i64 hs, .int .i64 hc] := by
  obtain ⟨cs, rfl, hsz⟩ := okWide_struct Try.underlying44 hv
  have k7 : Try.prog.cellsOf 44 = 3 := by kernel_rfl
  obtain ⟨c0, c1, c2, rfl⟩ := array3 (hsz.trans k7)
  obtain ⟨fuel, hf⟩ := h
  obtain ⟨a, b, c, rfl, rfl, rfl⟩ := open_hallCells hf
  exact ⟨a, b, c, rfl⟩
/-- Numbers that came in. -/
def ListIn (w : World) (v : Value) (A : Option Addr) (c : Nat) (xs : List Int) : Prop := v = .slice A xs.length c ∧ RdInts w A xs.length xs ∧ xs.length ≤ maxLen ∧ xs.length ≤ c ∧ (A = none → c = 0) ∧ ∀ z ∈ xs, -9223372036854775808 ≤ z ∧ z ≤ 9223372036854775807
set_option maxRecDepth 100000 in
/-- A hall and numbers. -/
theorem open_seated {r : Reach} {b0 : Nat} {v : Value} {d : DataW H} {p : List MemPlace} (hv : Value.okWide Try.prog w r b0 54 v) (h : DataW.Trod enc Try.prog w base (fun _ => true) held 54 v d p) :
    ∃ (hr hs hc : Int) (l : Value) (A : Option Addr) (c : Nat) (xs : List Int), v = .agg #[.int .i64 hr, .int .i64 hs, .int .i64 hc, l] ∧ ListIn w l A c xs := by
  obtain ⟨cs, rfl, hsz⟩ := okWide_struct Try.underlying54 hv
  have k7 : Try.prog.cellsOf 54 = 4 := by kernel_rfl
  obtain ⟨c0, c1, c2, c3, rfl⟩ := array4 (hsz.trans k7)
  obtain ⟨fuel, hf⟩ := h
  obtain ⟨y0, y1, n, _, _, g0, g1⟩ := trod_struct2 Try.underlying54 hf
  have ks : Try.prog.cellsOf 44 = 3 := by kernel_rfl
  have ki : Try.prog.cellsOf 23 = 1 := by kernel_rfl
  have g0 : DataW.trod enc Try.prog w base (fun _ => true) held n 44 (([c0, c1, c2, c3].drop 0).take (Try.prog.cellsOf 44)) = some y0 := g0
  have g1 : DataW.trod enc Try.prog w base (fun _ => true) held n 23 (([c0, c1, c2, c3].drop 3).take (Try.prog.cellsOf 23)) = some y1 := g1
  rw [ks] at g0
  rw [ki] at g1
  obtain ⟨a, b, c, rfl, rfl, rfl⟩ := open_hallCells g0
  obtain ⟨A, cn, xs, e1, h1, h2, h3, h4, h5⟩ := open_list g1
  obtain rfl : c3 = .slice A xs.length cn := by simpa using e1
  exact ⟨a, b, c, _, A, cn, xs, rfl, rfl, h1, h2, h3, h4, h5⟩
end
end Go.Proofs.Ytnmgnonbgihalaa
