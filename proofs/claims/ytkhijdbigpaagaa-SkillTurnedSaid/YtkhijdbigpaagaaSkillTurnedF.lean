/-
  The closed facts of the row of the law SkillTurned.
-/
import Derived.Test.YtkhijdbigpaagaaFacts
import Derived.SevenTiedAt
namespace Go.Proofs.Ytkhijdbigpaagaa.skillTurned
open Go
theorem k0 : Rows.skillTurnedRow.wf (OpenSpec.ofChange Rows.skillTurnedSpec) = true := by kernel_rfl
theorem k3 : Try.f16.params.all (Try.prog.readableRec ·) = true := by kernel_rfl
theorem k4 : namedTie Try.prog Rows.skillTurnedRow.named Rows.skillTurnedSpec.vars = true := by kernel_rfl
theorem k9 : (Rows.skillTurnedRow.inPlace == Try.prog.inPlace 16) = true := by kernel_rfl
theorem k10 : (Rows.skillTurnedRow.unfollowed == Try.prog.unfollowed 16) = true := by kernel_rfl
theorem k11 : (Rows.skillTurnedRow.recurses == Try.prog.recurses 16) = true := by kernel_rfl
theorem k12 : (Rows.skillTurnedRow.named == Try.prog.varsNamed 16) = true := by kernel_rfl
theorem k13 : (Rows.skillTurnedRow.maps == (Try.f16.params.toList ++ Rows.skillTurnedSpec.plain.varTypes Try.prog).any (Try.prog.mapsRec ·)) = true := by kernel_rfl
theorem k14 : (Rows.skillTurnedRow.ifaces == (Try.f16.params.toList ++ Rows.skillTurnedSpec.plain.varTypes Try.prog).any (Try.prog.ifacesRec ·)) = true := by kernel_rfl
theorem k15 : (Rows.skillTurnedRow.mapsOut == Try.prog.mapsAmong Try.f16.resultTypes.toList) = true := by kernel_rfl
theorem k16 : (Rows.skillTurnedRow.loops == (Try.f16.params.toList ++ Rows.skillTurnedSpec.plain.varTypes Try.prog).any (Try.prog.loopsFrom ·)) = true := by kernel_rfl
theorem k17 : (Rows.skillTurnedRow.wideKeys == (Try.f16.params.toList ++ Rows.skillTurnedSpec.plain.varTypes Try.prog ++ Try.f16.resultTypes.toList).any (Try.prog.wideKeysFrom ·)) = true := by kernel_rfl
theorem k18 : Rows.skillTurnedSpec.vars.all (Try.prog.varReadable ·) = true := by kernel_rfl
theorem k20 : (Rows.skillTurnedRow.ifacesOut == Try.f16.resultTypes.toList.any (Try.prog.ifacesRec ·)) = true := by kernel_rfl
theorem k21 : (Rows.skillTurnedRow.loopsOut == Try.f16.resultTypes.toList.any (Try.prog.loopsFrom ·)) = true := by kernel_rfl
theorem k30 : (Rows.skillTurnedRow.veiled == (Try.f16.params.toList ++ Rows.skillTurnedSpec.plain.varTypes Try.prog ++ Try.f16.resultTypes.toList).any (Try.prog.veiledRec ·)) = true := by kernel_rfl
theorem k31 : Rows.skillTurnedRow.veiledFits Try.prog Try.f16.params.toList (Try.f16.params.toList ++ Rows.skillTurnedSpec.plain.varTypes Try.prog ++ Try.f16.resultTypes.toList) = true := by kernel_rfl
theorem closed : joinedFacts Try.prog 16 Try.f16 Rows.skillTurnedSpec Rows.skillTurnedRow = true :=
  facts.mk k0 facts.p1 facts.p2 k3 k4 rfl facts.p6 rfl facts.p8 k9 k10 k11 k12 k13 k14 k15 k16 k17 k18 facts.p19 k20 k21 facts.p22 rfl facts.p24 facts.p25 facts.p26 facts.p27 rfl rfl k30 k31
theorem notInit : Try.prog.inits.idxOf? 16 = none := by kernel_rfl
theorem named : Try.prog.funcNamed "bitepoint/bitepointlaw02.SkillTurned" = some 16 := by kernel_rfl
theorem instance_ : Try.f16.isInstance Try.prog Rows.skillTurnedRow.origin Rows.skillTurnedRow.targs := of_decide_eq_true (by kernel_rfl)
theorem wrap : Try.f16.isWrapper Try.prog Rows.skillTurnedRow.wrapper Rows.skillTurnedRow.mainSum := by unfold Func.isWrapper; first | (rw [if_pos (by decide +kernel)]; kernel_rfl) | (rw [if_neg (by decide +kernel)]; exact ⟨rfl, rfl⟩)
end Go.Proofs.Ytkhijdbigpaagaa.skillTurned
