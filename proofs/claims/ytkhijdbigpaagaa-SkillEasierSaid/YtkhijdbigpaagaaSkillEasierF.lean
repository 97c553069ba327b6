/-
  The closed facts of the row of the law SkillEasier.
-/
import Derived.Test.YtkhijdbigpaagaaFacts
import Derived.SevenTiedAt
namespace Go.Proofs.Ytkhijdbigpaagaa.skillEasier
open Go
theorem k0 : Rows.skillEasierRow.wf (OpenSpec.ofChange Rows.skillEasierSpec) = true := by kernel_rfl
theorem k3 : Try.f15.params.all (Try.prog.readableRec ·) = true := by kernel_rfl
theorem k4 : namedTie Try.prog Rows.skillEasierRow.named Rows.skillEasierSpec.vars = true := by kernel_rfl
theorem k9 : (Rows.skillEasierRow.inPlace == Try.prog.inPlace 15) = true := by kernel_rfl
theorem k10 : (Rows.skillEasierRow.unfollowed == Try.prog.unfollowed 15) = true := by kernel_rfl
theorem k11 : (Rows.skillEasierRow.recurses == Try.prog.recurses 15) = true := by kernel_rfl
theorem k12 : (Rows.skillEasierRow.named == Try.prog.varsNamed 15) = true := by kernel_rfl
theorem k13 : (Rows.skillEasierRow.maps == (Try.f15.params.toList ++ Rows.skillEasierSpec.plain.varTypes Try.prog).any (Try.prog.mapsRec ·)) = true := by kernel_rfl
theorem k14 : (Rows.skillEasierRow.ifaces == (Try.f15.params.toList ++ Rows.skillEasierSpec.plain.varTypes Try.prog).any (Try.prog.ifacesRec ·)) = true := by kernel_rfl
theorem k15 : (Rows.skillEasierRow.mapsOut == Try.prog.mapsAmong Try.f15.resultTypes.toList) = true := by kernel_rfl
theorem k16 : (Rows.skillEasierRow.loops == (Try.f15.params.toList ++ Rows.skillEasierSpec.plain.varTypes Try.prog).any (Try.prog.loopsFrom ·)) = true := by kernel_rfl
theorem k17 : (Rows.skillEasierRow.wideKeys == (Try.f15.params.toList ++ Rows.skillEasierSpec.plain.varTypes Try.prog ++ Try.f15.resultTypes.toList).any (Try.prog.wideKeysFrom ·)) = true := by kernel_rfl
theorem k18 : Rows.skillEasierSpec.vars.all (Try.prog.varReadable ·) = true := by kernel_rfl
theorem k20 : (Rows.skillEasierRow.ifacesOut == Try.f15.resultTypes.toList.any (Try.prog.ifacesRec ·)) = true := by kernel_rfl
theorem k21 : (Rows.skillEasierRow.loopsOut == Try.f15.resultTypes.toList.any (Try.prog.loopsFrom ·)) = true := by kernel_rfl
theorem k30 : (Rows.skillEasierRow.veiled == (Try.f15.params.toList ++ Rows.skillEasierSpec.plain.varTypes Try.prog ++ Try.f15.resultTypes.toList).any (Try.prog.veiledRec ·)) = true := by kernel_rfl
theorem k31 : Rows.skillEasierRow.veiledFits Try.prog Try.f15.params.toList (Try.f15.params.toList ++ Rows.skillEasierSpec.plain.varTypes Try.prog ++ Try.f15.resultTypes.toList) = true := by kernel_rfl
theorem closed : joinedFacts Try.prog 15 Try.f15 Rows.skillEasierSpec Rows.skillEasierRow = true :=
  facts.mk k0 facts.p1 facts.p2 k3 k4 rfl facts.p6 rfl facts.p8 k9 k10 k11 k12 k13 k14 k15 k16 k17 k18 facts.p19 k20 k21 facts.p22 rfl facts.p24 facts.p25 facts.p26 facts.p27 rfl rfl k30 k31
theorem notInit : Try.prog.inits.idxOf? 15 = none := by kernel_rfl
theorem named : Try.prog.funcNamed "bitepoint/bitepointlaw02.SkillEasier" = some 15 := by kernel_rfl
theorem instance_ : Try.f15.isInstance Try.prog Rows.skillEasierRow.origin Rows.skillEasierRow.targs := of_decide_eq_true (by kernel_rfl)
theorem wrap : Try.f15.isWrapper Try.prog Rows.skillEasierRow.wrapper Rows.skillEasierRow.mainSum := by unfold Func.isWrapper; first | (rw [if_pos (by decide +kernel)]; kernel_rfl) | (rw [if_neg (by decide +kernel)]; exact ⟨rfl, rfl⟩)
end Go.Proofs.Ytkhijdbigpaagaa.skillEasier
