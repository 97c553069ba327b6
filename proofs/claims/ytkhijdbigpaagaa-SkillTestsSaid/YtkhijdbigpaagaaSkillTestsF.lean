/-
  The closed facts of the row of the law SkillTests.
-/
import Derived.Test.YtkhijdbigpaagaaFacts
import Derived.SevenTiedAt
namespace Go.Proofs.Ytkhijdbigpaagaa.skillTests
open Go
theorem k0 : Rows.skillTestsRow.wf (OpenSpec.ofChange Rows.skillTestsSpec) = true := by kernel_rfl
theorem k3 : Try.f5.params.all (Try.prog.readableRec ·) = true := by kernel_rfl
theorem k4 : namedTie Try.prog Rows.skillTestsRow.named Rows.skillTestsSpec.vars = true := by kernel_rfl
theorem k9 : (Rows.skillTestsRow.inPlace == Try.prog.inPlace 5) = true := by kernel_rfl
theorem k10 : (Rows.skillTestsRow.unfollowed == Try.prog.unfollowed 5) = true := by kernel_rfl
theorem k11 : (Rows.skillTestsRow.recurses == Try.prog.recurses 5) = true := by kernel_rfl
theorem k12 : (Rows.skillTestsRow.named == Try.prog.varsNamed 5) = true := by kernel_rfl
theorem k13 : (Rows.skillTestsRow.maps == (Try.f5.params.toList ++ Rows.skillTestsSpec.plain.varTypes Try.prog).any (Try.prog.mapsRec ·)) = true := by kernel_rfl
theorem k14 : (Rows.skillTestsRow.ifaces == (Try.f5.params.toList ++ Rows.skillTestsSpec.plain.varTypes Try.prog).any (Try.prog.ifacesRec ·)) = true := by kernel_rfl
theorem k15 : (Rows.skillTestsRow.mapsOut == Try.prog.mapsAmong Try.f5.resultTypes.toList) = true := by kernel_rfl
theorem k16 : (Rows.skillTestsRow.loops == (Try.f5.params.toList ++ Rows.skillTestsSpec.plain.varTypes Try.prog).any (Try.prog.loopsFrom ·)) = true := by kernel_rfl
theorem k17 : (Rows.skillTestsRow.wideKeys == (Try.f5.params.toList ++ Rows.skillTestsSpec.plain.varTypes Try.prog ++ Try.f5.resultTypes.toList).any (Try.prog.wideKeysFrom ·)) = true := by kernel_rfl
theorem k18 : Rows.skillTestsSpec.vars.all (Try.prog.varReadable ·) = true := by kernel_rfl
theorem k20 : (Rows.skillTestsRow.ifacesOut == Try.f5.resultTypes.toList.any (Try.prog.ifacesRec ·)) = true := by kernel_rfl
theorem k21 : (Rows.skillTestsRow.loopsOut == Try.f5.resultTypes.toList.any (Try.prog.loopsFrom ·)) = true := by kernel_rfl
theorem k30 : (Rows.skillTestsRow.veiled == (Try.f5.params.toList ++ Rows.skillTestsSpec.plain.varTypes Try.prog ++ Try.f5.resultTypes.toList).any (Try.prog.veiledRec ·)) = true := by kernel_rfl
theorem k31 : Rows.skillTestsRow.veiledFits Try.prog Try.f5.params.toList (Try.f5.params.toList ++ Rows.skillTestsSpec.plain.varTypes Try.prog ++ Try.f5.resultTypes.toList) = true := by kernel_rfl
theorem closed : joinedFacts Try.prog 5 Try.f5 Rows.skillTestsSpec Rows.skillTestsRow = true :=
  facts.mk k0 facts.p1 facts.p2 k3 k4 rfl facts.p6 rfl facts.p8 k9 k10 k11 k12 k13 k14 k15 k16 k17 k18 facts.p19 k20 k21 facts.p22 rfl facts.p24 facts.p25 facts.p26 facts.p27 rfl rfl k30 k31
theorem notInit : Try.prog.inits.idxOf? 5 = none := by kernel_rfl
theorem named : Try.prog.funcNamed "bitepoint/bitepointlaw02.SkillTests" = some 5 := by kernel_rfl
theorem instance_ : Try.f5.isInstance Try.prog Rows.skillTestsRow.origin Rows.skillTestsRow.targs := of_decide_eq_true (by kernel_rfl)
theorem wrap : Try.f5.isWrapper Try.prog Rows.skillTestsRow.wrapper Rows.skillTestsRow.mainSum := by unfold Func.isWrapper; first | (rw [if_pos (by decide +kernel)]; kernel_rfl) | (rw [if_neg (by decide +kernel)]; exact ⟨rfl, rfl⟩)
end Go.Proofs.Ytkhijdbigpaagaa.skillTests
