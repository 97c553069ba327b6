import Derived.Test.YtkmhldjebopljaaQb
/-
  What the law BookSoonest asks of the package's answers. Of no program.
-/
namespace Go.Proofs.Ytkmhldjebopljaa
open Go.RowKit RG

theorem first_eq {S : BSch} {es : List BEv} {ln cn frm hh : Int} (hq : runE S es = 0) (h1 : 0 ≤ ln ∧ ln < S.learners.length) (h2 : 0 ≤ cn ∧ cn < S.cars.length) (h3 : 0 ≤ frm ∧ frm ≤ 4800) (h4 : 1 ≤ hh ∧ hh ≤ 4) :
    firstF S es ln cn frm hh = firstH S (runR S es).2 ln cn hh (4801 - frm).toNat frm := by
  have i3 : inI 0 ((S.learners.length : Int) - 1) ln = true := inI_iff.2 (by omega)
  have i4 : inI 0 ((S.cars.length : Int) - 1) cn = true := inI_iff.2 (by omega)
  have i5 : inI 0 4800 frm = true := inI_iff.2 (by omega)
  have i6 : inI 1 4 hh = true := inI_iff.2 (by omega)
  unfold firstF
  rw [if_neg (by simp [hq]), if_neg (by simp [i3, i4]), if_neg (by simp [i5, i6]), ← runR_ok hq]
theorem book_err {S : BSch} {es : List BEv} {ln cn st hh : Int} (hq : runE S es = 0) (h60 : es.length < 60) (h1 : 0 ≤ ln ∧ ln < S.learners.length) (h2 : 0 ≤ cn ∧ cn < S.cars.length) (h3 : 0 ≤ st ∧ st ≤ 4800) (h4 : 1 ≤ hh ∧ hh ≤ 4) :
    runE S (es ++ [⟨0, (runR S es).2.time, ln, cn, 0, st, hh, 0, 0, 0, 0⟩]) = 0 ∧ (runR S (es ++ [⟨0, (runR S es).2.time, ln, cn, 0, st, hh, 0, 0, 0, 0⟩])).1 = (runR S es).1 ++ [lesErr S (runR S es).2 ⟨ln, cn, st, hh, 0⟩ (runR S es).2.time] := by
  have h5 := run_zero hq
  obtain ⟨y, hy⟩ : ∃ y : BEv, (⟨0, (runR S es).2.time, ln, cn, 0, st, hh, 0, 0, 0, 0⟩ : BEv) = y := ⟨_, rfl⟩
  rw [hy]
  have hE : runE S (es ++ [y]) = 0 := by
    unfold runE
    rw [if_neg (by simp [h5.1]), if_neg (by rw [List.length_append]; simp; omega)]
  refine ⟨hE, ?_⟩
  have hr := run_append S es [y] 0 (startB S)
  rw [← runR_ok hE, ← runR_ok hq] at hr
  have ht : ∀ b n, runB S [y] n b = ([(tellB S b n y).1], (tellB S b n y).2) := fun b n => rfl
  rw [ht] at hr
  rw [hr]
  have h6 := tell_book (S := S) (b := (runR S es).2) (n := 0 + (es.length : Int)) (e := y) (by rw [← hy]) (by rw [← hy]) (after_of hq).gd.time (by rw [← hy]; exact h1) (by rw [← hy]; exact h2) (by rw [← hy]; exact h4) (by rw [← hy]; exact h3)
  show _ ++ [(tellB S (runR S es).2 (0 + (es.length : Int)) y).1] = _
  rw [h6, ← hy]
end Go.Proofs.Ytkmhldjebopljaa
