import Derived.Test.YtkmhldjebopljaaQe
import Derived.Test.YtkmhldjebopljaaQb
/-
  What the law BookHours sums. Of no program.
-/
namespace Go.Proofs.Ytkmhldjebopljaa
open Go.RowKit RG

theorem dv_in {S : BSch} (hS : SchOk S) {l : Les} {nl nc : Nat} (hl : LesOk nl nc l) : 0 ≤ dv S l ∧ dv S l ≤ 40000 := by
  unfold dv
  split
  · have hp := hS.price
    have hh := hl.2.2.1
    have h1 : l.hours * S.price ≤ 4 * S.price := Int.mul_le_mul_of_nonneg_right hh.2 (by omega)
    have h2 : 0 ≤ l.hours * S.price := Int.mul_nonneg (by omega) (by omega)
    omega
  · omega
def dTo (S : BSch) (ls : List Les) (i : Nat) : Int := ((ls.take i).map (dv S)).sum
theorem dTo_step {S : BSch} {ls : List Les} {i : Nat} (hi : i < ls.length) : dTo S ls (i + 1) = dTo S ls i + dv S (ls[i]?.getD default) := by
  unfold dTo
  rw [List.take_succ_eq_append_getElem hi, List.map_append, List.sum_append, List.getElem?_eq_getElem hi]
  simp
theorem dTo_lim {S : BSch} (hS : SchOk S) {ls : List Les} {nl nc : Nat} (h : ∀ l ∈ ls, LesOk nl nc l) : ∀ i, i ≤ ls.length → 0 ≤ dTo S ls i ∧ dTo S ls i ≤ i * 40000
  | 0, _ => by simp [dTo]
  | i + 1, hi => by
    have h1 := dTo_lim hS h i (by omega)
    have h2 := dv_in hS (les_at h (i := i) (by omega))
    rw [dTo_step (by omega)]
    omega
theorem dTo_all (S : BSch) (ls : List Les) : dTo S ls ls.length = dSum S ls := by unfold dTo dSum; rw [List.take_length]
def pTo (nl : Nat) (ps : List Pst) (i : Nat) : Int := paid nl (ps.take i)
theorem pTo_step {nl : Nat} {ps : List Pst} {i : Nat} {p : Pst} (h : ps[i]? = some p) : pTo nl ps (i + 1) = pTo nl ps i + if p.frm < (nl : Int) then p.cents else 0 := by
  unfold pTo paid
  exact sum_step (fun p => if p.frm < (nl : Int) then p.cents else 0) h
theorem pTo_lim {nl : Nat} {ps : List Pst} (h : ∀ p ∈ ps, 0 < p.cents ∧ p.cents ≤ 10000000) : ∀ i, i ≤ ps.length → 0 ≤ pTo nl ps i ∧ pTo nl ps i ≤ i * 10000000
  | 0, _ => by simp [pTo, paid]
  | i + 1, hi => by
    have h1 := pTo_lim (nl := nl) h i (by omega)
    obtain ⟨p, hp⟩ : ∃ p, ps[i]? = some p := ⟨_, List.getElem?_eq_getElem (by omega)⟩
    have h2 := h p (List.mem_of_getElem? hp)
    rw [pTo_step hp]
    split <;> omega
/-- An event that the law counts. -/
structure FeeEv (S : BSch) (es : List BEv) (i : Nat) : Prop where
  has : ∃ jb : Nat, (es[i]?.getD default).booking = jb ∧ jb < (bk S es i).les.length
  hours : 1 ≤ (lesAt (bk S es i) (es[i]?.getD default).booking).hours ∧ (lesAt (bk S es i) (es[i]?.getD default).booking).hours ≤ 4
  ahead : 0 ≤ (lesAt (bk S es i) (es[i]?.getD default).booking).start - (es[i]?.getD default).at_ ∧ (lesAt (bk S es i) (es[i]?.getD default).booking).start - (es[i]?.getD default).at_ ≤ 4800
  start : 0 ≤ (lesAt (bk S es i) (es[i]?.getD default).booking).start ∧ (lesAt (bk S es i) (es[i]?.getD default).booking).start ≤ 4800
theorem fee_ev {S : BSch} (hS : SchOk S) {es : List BEv} {i : Nat} (hi : i < es.length) (h1 : (es[i]?.getD default).kind = 1) (h0 : errAt S es i = 0) : FeeEv S es i := by
  obtain ⟨hb, ha, ht⟩ := tell_cancel h1 h0
  obtain ⟨jb, hjb, hjl, -⟩ := hasB_nat hb
  have hl := les_at (bk_ok hS es (by omega : i ≤ es.length)).les hjl
  have e : lesAt (bk S es i) (es[i]?.getD default).booking = (bk S es i).les[jb]?.getD default := by unfold lesAt; rw [hjb, Int.toNat_natCast]
  refine ⟨⟨jb, hjb, hjl⟩, ?_, ?_, ?_⟩
  · rw [e]; exact hl.2.2.1
  · rw [e] at ha ⊢
    have := hl.2.2.2.1
    omega
  · rw [e]; exact hl.2.2.2.1
theorem feeOf_in {S : BSch} (hS : SchOk S) {es : List BEv} {i : Nat} (hi : i < es.length) : 0 ≤ feeOf S (bk S es i) (es[i]?.getD default) (errAt S es i) ∧ feeOf S (bk S es i) (es[i]?.getD default) (errAt S es i) ≤ 40000 := by
  unfold feeOf
  split
  · rename_i h
    have h1 := fee_ev hS hi h.1 h.2
    have h2 := feeB_in hS (hours := (lesAt (bk S es i) (es[i]?.getD default).booking).hours) (before := (lesAt (bk S es i) (es[i]?.getD default).booking).start - (es[i]?.getD default).at_) (by have := h1.hours; omega)
    have hp := hS.price
    have h3 : (lesAt (bk S es i) (es[i]?.getD default).booking).hours * S.price ≤ 4 * S.price := Int.mul_le_mul_of_nonneg_right h1.hours.2 (by omega)
    omega
  · omega
theorem feeUp_lim {S : BSch} (hS : SchOk S) (es : List BEv) : ∀ i, i ≤ es.length → 0 ≤ feeUpTo S es i ∧ feeUpTo S es i ≤ i * 40000
  | 0, _ => by simp [feeUpTo]
  | i + 1, hi => by
    have h1 := feeUp_lim hS es i (by omega)
    have h2 := feeOf_in hS (es := es) (i := i) (by omega)
    unfold feeUpTo
    omega
/-- All that the law needs. -/
theorem hours_all {S : BSch} {es : List BEv} (h : runE S es = 0) : pTo S.learners.length (runR S es).2.pst (runR S es).2.pst.length = dTo S (runR S es).2.les (runR S es).2.les.length + feeUpTo S es es.length ∧ PaidTo S.learners.length (runR S es).2.pst := by
  have h1 := hours_upto (sch_ok (run_zero h).1) es (Nat.le_refl es.length)
  rw [← (runR_er h).2] at h1
  refine ⟨?_, h1.2⟩
  unfold pTo
  rw [dTo_all, List.take_length]
  omega
/-- The first events, told alone. -/
theorem run_take {S : BSch} {es : List BEv} (h : runE S es = 0) {i : Nat} (hi : i ≤ es.length) : runE S (es.take i) = 0 ∧ (runR S (es.take i)).2 = bk S es i ∧ (runR S (es.take i)).1 = er S es i := by
  have h1 := run_zero h
  have h2 : runE S (es.take i) = 0 := by
    unfold runE
    rw [if_neg (by simp [h1.1]), if_neg (by rw [List.length_take]; omega)]
  refine ⟨h2, ?_, ?_⟩
  · rw [runR_ok h2]; rfl
  · rw [runR_ok h2]; rfl
theorem isRow_take {k : Nat} {xs : List (List Value)} {A : Option Addr} {n c : Nat} {w : World} (h : IsRow k xs (.slice A n c) w) {i : Nat} (hi : i ≤ xs.length) : IsRow k (xs.take i) (.slice A i c) w := by
  obtain ⟨A', c', e, hr, h1, h2⟩ := h
  cases e
  have hl : (xs.take i).length = i := by rw [List.length_take]; omega
  refine ⟨A, c, by rw [hl], ?_, by rw [hl]; omega, h2⟩
  rw [hl]
  refine ⟨hl, fun x hx => hr.2.1 x (List.mem_of_mem_take hx), fun hn => ?_⟩
  obtain ⟨b, off, e, hb, hc⟩ := hr.2.2 (by omega)
  refine ⟨b, off, e, hb, fun j i' v hv => hc j i' v ?_⟩
  have hj : j < i := by
    rcases Nat.lt_or_ge j i with h | h
    · exact h
    · rw [List.getElem?_eq_none (l := xs.take i) (by rw [hl]; exact h)] at hv; simp at hv
  rwa [List.getElem?_take_of_lt hj] at hv
end Go.Proofs.Ytkmhldjebopljaa
