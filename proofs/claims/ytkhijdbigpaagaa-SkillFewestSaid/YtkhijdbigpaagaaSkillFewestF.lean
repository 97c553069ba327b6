/-
  The closed facts of the row of the law SkillFewest.
-/
import Derived.Test.YtkhijdbigpaagaaFacts
import Derived.SevenTiedAt
namespace Go.Proofs.Ytkhijdbigpaagaa.skillFewest
open Go
theorem k0 : Rows.skillFewestRow.wf (OpenSpec.ofChange Rows.skillFewestSpec) = true := by kernel_rfl
theorem k3 : Try.f13.params.all (Try.prog.readableRec ·) = true := by kernel_rfl
theorem k4 : namedTie Try.prog Rows.skillFewestRow.named Rows.skillFewestSpec.vars = true := by kernel_rfl
theorem k9 : (Rows.skillFewestRow.inPlace == Try.prog.inPlace 13) = true := by kernel_rfl
theorem k10 : (Rows.skillFewestRow.unfollowed == Try.prog.unfollowed 13) = true := by kernel_rfl
theorem k11 : (Rows.skillFewestRow.recurses == Try.prog.recurses 13) = true := by kernel_rfl
theorem k12 : (Rows.skillFewestRow.named == Try.prog.varsNamed 13) = true := by kernel_rfl
theorem k13 : (Rows.skillFewestRow.maps == (Try.f13.params.toList ++ Rows.skillFewestSpec.plain.varTypes Try.prog).any (Try.prog.mapsRec ·)) = true := by kernel_rfl
theorem k14 : (Rows.skillFewestRow.ifaces == (Try.f13.params.toList ++ Rows.skillFewestSpec.plain.varTypes Try.prog).any (Try.prog.ifacesRec ·)) = true := by kernel_rfl
theorem k15 : (Rows.skillFewestRow.mapsOut == Try.prog.mapsAmong Try.f13.resultTypes.toList) = true := by kernel_rfl
theorem k16 : (Rows.skillFewestRow.loops == (Try.f13.params.toList ++ Rows.skillFewestSpec.plain.varTypes Try.prog).any (Try.prog.loopsFrom ·)) = true := by kernel_rfl
theorem k17 : (Rows.skillFewestRow.wideKeys == (Try.f13.params.toList ++ Rows.skillFewestSpec.plain.varTypes Try.prog ++ Try.f13.resultTypes.toList).any (Try.prog.wideKeysFrom ·)) = true := by kernel_rfl
theorem k18 : Rows.skillFewestSpec.vars.all (Try.prog.varReadable ·) = true := by kernel_rfl
theorem k20 : (Rows.skillFewestRow.ifacesOut == Try.f13.resultTypes.toList.any (Try.prog.ifacesRec ·)) = true := by kernel_rfl
theorem k21 : (Rows.skillFewestRow.loopsOut == Try.f13.resultTypes.toList.any (Try.prog.loopsFrom ·)) = true := by kernel_rfl
theorem k30 : (Rows.skillFewestRow.veiled == (Try.f13.params.toList ++ Rows.skillFewestSpec.plain.varTypes Try.prog ++ Try.f13.resultTypes.toList).any (Try.prog.veiledRec ·)) = true := by kernel_rfl
theorem k31 : Rows.skillFewestRow.veiledFits Try.prog Try.f13.params.toList (Try.f13.params.toList ++ Rows.skillFewestSpec.plain.varTypes Try.prog ++ Try.f13.resultTypes.toList) = true := by kernel_rfl
theorem closed : joinedFacts Try.prog 13 Try.f13 Rows.skillFewestSpec Rows.skillFewestRow = true :=
  facts.mk k0 facts.p1 facts.p2 k3 k4 rfl facts.p6 rfl facts.p8 k9 k10 k11 k12 k13 k14 k15 k16 k17 k18 facts.p19 k20 k21 facts.p22 rfl facts.p24 facts.p25 facts.p26 facts.p27 rfl rfl k30 k31
theorem notInit : Try.prog.inits.idxOf? 13 = none := by kernel_rfl
theorem named : Try.prog.funcNamed "bitepoint/bitepointlaw02.SkillFewest" = some 13 := by kernel_rfl
theorem instance_ : Try.f13.isInstance Try.prog Rows.skillFewestRow.origin Rows.skillFewestRow.targs := of_decide_eq_true (by kernel_rfl)
theorem wrap : Try.f13.isWrapper Try.prog Rows.skillFewestRow.wrapper Rows.skillFewestRow.mainSum := by unfold Func.isWrapper; first | (rw [if_pos (by decide +kernel)]; kernel_rfl) | (rw [if_neg (by decide +kernel)]; exact ⟨rfl, rfl⟩)
end Go.Proofs.Ytkhijdbigpaagaa.skillFewest
