import Derived.Test.YtkmhldjebopljaaQg
import Derived.Test.YtkmhldjebopljaaQf
/-
  Slicing: the first m, and from the k-th on. Of no function.
-/
namespace Go.Proofs.Ytkmhldjebopljaa
open Go.RowKit RG

theorem slice_hi {t e : TypeId} {z : Option Value} {k b : Nat} (ht : Try.prog.underlying t = some (.slice e)) (hi : (Try.prog.info? e).map (fun i => (i.zero, i.size, i.bytes)) = some (z, k, b)) (A : Option Addr) (n c m : Nat) (hm : m ≤ c) (W : World) :
    (Instr.sliceAt t (.slice A n c) none (some (.int .i64 (m : Int))) none).run Try.prog W = .ok (.slice A m c) W := by
  obtain ⟨i, h1, h2⟩ : ∃ i, Try.prog.info? e = some i ∧ i.size = k := by
    cases h : Try.prog.info? e with
    | none => rw [h] at hi; cases hi
    | some i =>
      rw [h] at hi
      simp only [Option.map_some, Option.some.injEq, Prod.mk.injEq] at hi
      exact ⟨i, rfl, hi.2.1⟩
  have ha : A.map (fun x => x.add 0) = A := by
    cases A with
    | none => rfl
    | some a => simp [Addr.add]
  simp [Instr.sliceAt, Instr.slice, Instr.sliceBounds, Instr.sliceBound, run_underlying ht, sizeOf, typeInfo, h1, asIntOf, hm, ha]
end Go.Proofs.Ytkmhldjebopljaa

/-
  The events that were refused (BookRefused). Of no program.
-/
namespace Go.Proofs.Ytkmhldjebopljaa
open Go.RowKit RG

def refsTo (S : BSch) (es : List BEv) : Nat → List Int
  | 0 => []
  | i + 1 => refsTo S es i ++ if errAt S es i ≠ 0 then [(i : Int)] else []
theorem refs_len (S : BSch) (es : List BEv) : ∀ i, (refsTo S es i).length ≤ i
  | 0 => Nat.le_refl _
  | i + 1 => by
    have := refs_len S es i
    unfold refsTo
    split <;> simp <;> omega
theorem refs_mem {S : BSch} {es : List BEv} {r : Int} : ∀ i, r ∈ refsTo S es i → ∃ k : Nat, r = (k : Int) ∧ k < i ∧ errAt S es k ≠ 0
  | 0, h => by cases h
  | i + 1, h => by
    unfold refsTo at h
    rcases List.mem_append.1 h with h1 | h1
    · obtain ⟨k, h2, h3, h4⟩ := refs_mem i h1
      exact ⟨k, h2, by omega, h4⟩
    · split at h1
      · rename_i h0
        rw [List.mem_singleton] at h1
        exact ⟨i, h1, by omega, h0⟩
      · cases h1
/-- Without an event that was refused. -/
structure Without (S : BSch) (es : List BEv) (k : Nat) : Prop where
  ok : runE S (es.take k ++ es.drop (k + 1)) = 0
  errs : (runR S (es.take k ++ es.drop (k + 1))).1 = (runR S es).1.take k ++ (runR S es).1.drop (k + 1)
  les : (runR S es).2.les = (runR S (es.take k ++ es.drop (k + 1))).2.les
  km : (runR S es).2.km = (runR S (es.take k ++ es.drop (k + 1))).2.km
  since : (runR S es).2.since = (runR S (es.take k ++ es.drop (k + 1))).2.since
  acc : (runR S es).2.acc = (runR S (es.take k ++ es.drop (k + 1))).2.acc
theorem without_all {S : BSch} {es : List BEv} (h : runE S es = 0) {k : Nat} (hk : k < es.length) (h0 : errAt S es k ≠ 0) : Without S es k := by
  have h1 := run_zero h
  have hE : runE S (es.take k ++ es.drop (k + 1)) = 0 := by
    unfold runE
    rw [if_neg (by simp [h1.1]), if_neg (by rw [List.length_append, List.length_take, List.length_drop]; omega)]
  have hw := run_without S (es := es) (b := startB S) (n := 0) hk (by
    have h2 := (runR_er h).1
    rw [runR_ok h] at h2
    rw [h2, er_at S es hk (Nat.le_refl _)]
    exact h0)
  have hn := hw.2
  rw [← runR_ok hE, ← runR_ok h] at hw hn
  unfold noP at hn
  simp only [Bks.mk.injEq] at hn
  exact ⟨hE, hw.1, hn.1.symm, hn.2.1.symm, hn.2.2.1.symm, hn.2.2.2.1.symm⟩
theorem slice_lo {t e : TypeId} {z : Option Value} {k b : Nat} (ht : Try.prog.underlying t = some (.slice e)) (hi : (Try.prog.info? e).map (fun i => (i.zero, i.size, i.bytes)) = some (z, k, b)) (a : Addr) (n c m : Nat) (hm : m ≤ n) :
    ∃ a2, ∀ W, (Instr.sliceAt t (.slice (some a) n c) (some (.int .i64 (m : Int))) none none).run Try.prog W = .ok (.slice (some a2) (n - m) (c - m)) W ∧ (a2 = a.add (m * k) ∨ c = m) := by
  obtain ⟨i, h1, h2⟩ : ∃ i, Try.prog.info? e = some i ∧ i.size = k := by
    cases h : Try.prog.info? e with
    | none => rw [h] at hi; cases hi
    | some i =>
      rw [h] at hi
      simp only [Option.map_some, Option.some.injEq, Prod.mk.injEq] at hi
      exact ⟨i, rfl, hi.2.1⟩
  refine ⟨if c = m then a else a.add (m * k), fun W => ⟨?_, ?_⟩⟩
  · simp [Instr.sliceAt, Instr.slice, Instr.sliceBounds, Instr.sliceBound, run_underlying ht, sizeOf, typeInfo, h1, asIntOf, hm, h2]
    split <;> rfl
  · split
    · rename_i hc; exact .inr hc
    · exact .inl rfl
theorem isRow_drop {k : Nat} {xs : List (List Value)} {a a2 : Addr} {n c m : Nat} {w : World} (h : IsRow k xs (.slice (some a) n c) w) (hm : m ≤ xs.length) (h2 : a2 = a.add (m * k) ∨ c = m) : IsRow k (xs.drop m) (.slice (some a2) (n - m) (c - m)) w := by
  obtain ⟨A', c', e, hr, h1, h3⟩ := h
  cases e
  have hl : (xs.drop m).length = xs.length - m := List.length_drop
  refine ⟨some a2, c - m, by rw [hl], ?_, by rw [hl]; omega, by omega⟩
  rw [hl]
  refine ⟨hl, fun x hx => hr.2.1 x (List.mem_of_mem_drop hx), fun hn => ?_⟩
  obtain ⟨b, off, e, hb, hc⟩ := hr.2.2 (by omega)
  have h4 : a2 = a.add (m * k) := by
    rcases h2 with h2 | h2
    · exact h2
    · omega
  cases e
  refine ⟨b, off + m * k, by rw [h4, Addr.add_lit], hb, fun j i v hv => ?_⟩
  rw [List.getElem?_drop] at hv
  have := hc (m + j) i v hv
  rw [show off + m * k + j * k + i = off + (m + j) * k + i by rw [Nat.add_mul]; omega]
  exact this
theorem isInts_drop {xs : List Int} {a a2 : Addr} {n c m : Nat} {w : World} (h : IsInts xs (.slice (some a) n c) w) (hm : m ≤ xs.length) (h2 : a2 = a.add (m * 1) ∨ c = m) : IsInts (xs.drop m) (.slice (some a2) (n - m) (c - m)) w := by
  obtain ⟨A', c', e, hr, h1⟩ := h
  cases e
  have hl : (xs.drop m).length = xs.length - m := List.length_drop
  refine ⟨some a2, c - m, by rw [hl], ⟨rfl, fun hn => ?_⟩, by rw [hl]; omega⟩
  rw [hl] at hn ⊢
  obtain ⟨b, off, e, hb, hc⟩ := hr.2 (by omega)
  have h4 : a2 = a.add (m * 1) := by
    rcases h2 with h2 | h2
    · exact h2
    · omega
  cases e
  refine ⟨b, off + m, by rw [h4, Nat.mul_one, Addr.add_lit], hb, fun j hj => ?_⟩
  rw [List.getElem?_drop]
  have := hc (m + j) (by omega)
  rw [show off + m + j = off + (m + j) by omega]
  exact this
theorem IsRow.rd {k : Nat} {xs : List (List Value)} {A : Option Addr} {n c : Nat} {w : World} (h : IsRow k xs (.slice A n c) w) : RdRow w A n k xs ∧ n = xs.length := by
  obtain ⟨A', c', e, hr, -⟩ := h
  cases e
  exact ⟨hr, rfl⟩
theorem IsInts.rd {xs : List Int} {A : Option Addr} {n c : Nat} {w : World} (h : IsInts xs (.slice A n c) w) : RdRow w A n 1 (xs.map iCells) := by
  obtain ⟨A', c', e, hr, -⟩ := h
  cases e
  refine ⟨by rw [List.length_map], fun x hx => ?_, fun hn => ?_⟩
  · obtain ⟨y, _, rfl⟩ := List.mem_map.1 hx; rfl
  · obtain ⟨b, off, e, hb, hc⟩ := hr.2 hn
    refine ⟨b, off, e, hb, fun j i v hv => ?_⟩
    obtain ⟨h1, h2, -⟩ := flat_get (k := 1) (xs := xs.map iCells) (fun x hx => by obtain ⟨y, _, rfl⟩ := List.mem_map.1 hx; rfl) hv
    rw [List.length_map] at h1
    obtain rfl : i = 0 := by omega
    have := hc j h1
    rw [List.getElem?_map, List.getElem?_eq_getElem h1] at hv
    rw [List.getElem?_eq_getElem h1] at this
    simp only [Option.map_some, Option.getD_some, iCells, List.getElem?_cons_zero, Option.some.injEq] at hv
    rw [Nat.mul_one, Nat.add_zero, ← hv]
    exact this
theorem rowAny_ints {w : World} {X : Nat → Prop} {e : TypeId} {v : Value} {xs : List Int} (h : RowAt w X e 1 v (xs.map iCells)) : IsInts xs v w := by
  obtain ⟨A, c, rfl, hr, h1, -⟩ := h.row
  rw [List.length_map] at hr h1 ⊢
  refine ⟨A, c, rfl, ⟨rfl, fun hn => ?_⟩, h1⟩
  obtain ⟨b, off, e, hb, hc⟩ := hr.2.2 hn
  refine ⟨b, off, e, hb, fun j hj => ?_⟩
  have := hc j 0 (.int .i64 (xs[j]?.getD 0)) (by rw [List.getElem?_map, List.getElem?_eq_getElem hj]; rfl)
  rwa [Nat.mul_one, Nat.add_zero] at this
theorem one_ev {es : List BEv} : ∀ u ∈ (es.map evCells).flatten, u.oneCell' = true := by
  intro u hu
  obtain ⟨x, hx, h⟩ := List.mem_flatten.1 hu
  obtain ⟨e, _, rfl⟩ := List.mem_map.1 hx
  unfold evCells at h
  simp only [List.mem_cons, List.not_mem_nil, or_false] at h
  rcases h with rfl | rfl | rfl | rfl | rfl | rfl | rfl | rfl | rfl | rfl | rfl <;> rfl
theorem one_int {xs : List Int} : ∀ u ∈ (xs.map iCells).flatten, u.oneCell' = true := by
  intro u hu
  obtain ⟨x, hx, h⟩ := List.mem_flatten.1 hu
  obtain ⟨e, _, rfl⟩ := List.mem_map.1 hx
  unfold iCells at h
  simp only [List.mem_cons, List.not_mem_nil, or_false] at h
  subst h; rfl
end Go.Proofs.Ytkmhldjebopljaa
