/-
  The closed facts of the row of the law SkillWeeks.
-/
import Derived.Test.YtkhijdbigpaagaaFacts
import Derived.SevenTiedAt
namespace Go.Proofs.Ytkhijdbigpaagaa.skillWeeks
open Go
theorem k0 : Rows.skillWeeksRow.wf (OpenSpec.ofChange Rows.skillWeeksSpec) = true := by kernel_rfl
theorem k3 : Try.f17.params.all (Try.prog.readableRec ·) = true := by kernel_rfl
theorem k4 : namedTie Try.prog Rows.skillWeeksRow.named Rows.skillWeeksSpec.vars = true := by kernel_rfl
theorem k9 : (Rows.skillWeeksRow.inPlace == Try.prog.inPlace 17) = true := by kernel_rfl
theorem k10 : (Rows.skillWeeksRow.unfollowed == Try.prog.unfollowed 17) = true := by kernel_rfl
theorem k11 : (Rows.skillWeeksRow.recurses == Try.prog.recurses 17) = true := by kernel_rfl
theorem k12 : (Rows.skillWeeksRow.named == Try.prog.varsNamed 17) = true := by kernel_rfl
theorem k13 : (Rows.skillWeeksRow.maps == (Try.f17.params.toList ++ Rows.skillWeeksSpec.plain.varTypes Try.prog).any (Try.prog.mapsRec ·)) = true := by kernel_rfl
theorem k14 : (Rows.skillWeeksRow.ifaces == (Try.f17.params.toList ++ Rows.skillWeeksSpec.plain.varTypes Try.prog).any (Try.prog.ifacesRec ·)) = true := by kernel_rfl
theorem k15 : (Rows.skillWeeksRow.mapsOut == Try.prog.mapsAmong Try.f17.resultTypes.toList) = true := by kernel_rfl
theorem k16 : (Rows.skillWeeksRow.loops == (Try.f17.params.toList ++ Rows.skillWeeksSpec.plain.varTypes Try.prog).any (Try.prog.loopsFrom ·)) = true := by kernel_rfl
theorem k17 : (Rows.skillWeeksRow.wideKeys == (Try.f17.params.toList ++ Rows.skillWeeksSpec.plain.varTypes Try.prog ++ Try.f17.resultTypes.toList).any (Try.prog.wideKeysFrom ·)) = true := by kernel_rfl
theorem k18 : Rows.skillWeeksSpec.vars.all (Try.prog.varReadable ·) = true := by kernel_rfl
theorem k20 : (Rows.skillWeeksRow.ifacesOut == Try.f17.resultTypes.toList.any (Try.prog.ifacesRec ·)) = true := by kernel_rfl
theorem k21 : (Rows.skillWeeksRow.loopsOut == Try.f17.resultTypes.toList.any (Try.prog.loopsFrom ·)) = true := by kernel_rfl
theorem k30 : (Rows.skillWeeksRow.veiled == (Try.f17.params.toList ++ Rows.skillWeeksSpec.plain.varTypes Try.prog ++ Try.f17.resultTypes.toList).any (Try.prog.veiledRec ·)) = true := by kernel_rfl
theorem k31 : Rows.skillWeeksRow.veiledFits Try.prog Try.f17.params.toList (Try.f17.params.toList ++ Rows.skillWeeksSpec.plain.varTypes Try.prog ++ Try.f17.resultTypes.toList) = true := by kernel_rfl
theorem closed : joinedFacts Try.prog 17 Try.f17 Rows.skillWeeksSpec Rows.skillWeeksRow = true :=
  facts.mk k0 facts.p1 facts.p2 k3 k4 rfl facts.p6 rfl facts.p8 k9 k10 k11 k12 k13 k14 k15 k16 k17 k18 facts.p19 k20 k21 facts.p22 rfl facts.p24 facts.p25 facts.p26 facts.p27 rfl rfl k30 k31
theorem notInit : Try.prog.inits.idxOf? 17 = none := by kernel_rfl
theorem named : Try.prog.funcNamed "bitepoint/bitepointlaw02.SkillWeeks" = some 17 := by kernel_rfl
theorem instance_ : Try.f17.isInstance Try.prog Rows.skillWeeksRow.origin Rows.skillWeeksRow.targs := of_decide_eq_true (by kernel_rfl)
theorem wrap : Try.f17.isWrapper Try.prog Rows.skillWeeksRow.wrapper Rows.skillWeeksRow.mainSum := by unfold Func.isWrapper; first | (rw [if_pos (by decide +kernel)]; kernel_rfl) | (rw [if_neg (by decide +kernel)]; exact ⟨rfl, rfl⟩)
end Go.Proofs.Ytkhijdbigpaagaa.skillWeeks
