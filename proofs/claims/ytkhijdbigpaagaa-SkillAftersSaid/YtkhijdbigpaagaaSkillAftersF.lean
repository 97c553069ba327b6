/-
  The closed facts of the row of the law SkillAfters.
-/
import Derived.Test.YtkhijdbigpaagaaFacts
import Derived.SevenTiedAt
namespace Go.Proofs.Ytkhijdbigpaagaa.skillAfters
open Go
theorem k0 : Rows.skillAftersRow.wf (OpenSpec.ofChange Rows.skillAftersSpec) = true := by kernel_rfl
theorem k3 : Try.f4.params.all (Try.prog.readableRec ·) = true := by kernel_rfl
theorem k4 : namedTie Try.prog Rows.skillAftersRow.named Rows.skillAftersSpec.vars = true := by kernel_rfl
theorem k9 : (Rows.skillAftersRow.inPlace == Try.prog.inPlace 4) = true := by kernel_rfl
theorem k10 : (Rows.skillAftersRow.unfollowed == Try.prog.unfollowed 4) = true := by kernel_rfl
theorem k11 : (Rows.skillAftersRow.recurses == Try.prog.recurses 4) = true := by kernel_rfl
theorem k12 : (Rows.skillAftersRow.named == Try.prog.varsNamed 4) = true := by kernel_rfl
theorem k13 : (Rows.skillAftersRow.maps == (Try.f4.params.toList ++ Rows.skillAftersSpec.plain.varTypes Try.prog).any (Try.prog.mapsRec ·)) = true := by kernel_rfl
theorem k14 : (Rows.skillAftersRow.ifaces == (Try.f4.params.toList ++ Rows.skillAftersSpec.plain.varTypes Try.prog).any (Try.prog.ifacesRec ·)) = true := by kernel_rfl
theorem k15 : (Rows.skillAftersRow.mapsOut == Try.prog.mapsAmong Try.f4.resultTypes.toList) = true := by kernel_rfl
theorem k16 : (Rows.skillAftersRow.loops == (Try.f4.params.toList ++ Rows.skillAftersSpec.plain.varTypes Try.prog).any (Try.prog.loopsFrom ·)) = true := by kernel_rfl
theorem k17 : (Rows.skillAftersRow.wideKeys == (Try.f4.params.toList ++ Rows.skillAftersSpec.plain.varTypes Try.prog ++ Try.f4.resultTypes.toList).any (Try.prog.wideKeysFrom ·)) = true := by kernel_rfl
theorem k18 : Rows.skillAftersSpec.vars.all (Try.prog.varReadable ·) = true := by kernel_rfl
theorem k20 : (Rows.skillAftersRow.ifacesOut == Try.f4.resultTypes.toList.any (Try.prog.ifacesRec ·)) = true := by kernel_rfl
theorem k21 : (Rows.skillAftersRow.loopsOut == Try.f4.resultTypes.toList.any (Try.prog.loopsFrom ·)) = true := by kernel_rfl
theorem k30 : (Rows.skillAftersRow.veiled == (Try.f4.params.toList ++ Rows.skillAftersSpec.plain.varTypes Try.prog ++ Try.f4.resultTypes.toList).any (Try.prog.veiledRec ·)) = true := by kernel_rfl
theorem k31 : Rows.skillAftersRow.veiledFits Try.prog Try.f4.params.toList (Try.f4.params.toList ++ Rows.skillAftersSpec.plain.varTypes Try.prog ++ Try.f4.resultTypes.toList) = true := by kernel_rfl
theorem closed : joinedFacts Try.prog 4 Try.f4 Rows.skillAftersSpec Rows.skillAftersRow = true :=
  facts.mk k0 facts.p1 facts.p2 k3 k4 rfl facts.p6 rfl facts.p8 k9 k10 k11 k12 k13 k14 k15 k16 k17 k18 facts.p19 k20 k21 facts.p22 rfl facts.p24 facts.p25 facts.p26 facts.p27 rfl rfl k30 k31
theorem notInit : Try.prog.inits.idxOf? 4 = none := by kernel_rfl
theorem named : Try.prog.funcNamed "bitepoint/bitepointlaw02.SkillAfters" = some 4 := by kernel_rfl
theorem instance_ : Try.f4.isInstance Try.prog Rows.skillAftersRow.origin Rows.skillAftersRow.targs := of_decide_eq_true (by kernel_rfl)
theorem wrap : Try.f4.isWrapper Try.prog Rows.skillAftersRow.wrapper Rows.skillAftersRow.mainSum := by unfold Func.isWrapper; first | (rw [if_pos (by decide +kernel)]; kernel_rfl) | (rw [if_neg (by decide +kernel)]; exact ⟨rfl, rfl⟩)
end Go.Proofs.Ytkhijdbigpaagaa.skillAfters
