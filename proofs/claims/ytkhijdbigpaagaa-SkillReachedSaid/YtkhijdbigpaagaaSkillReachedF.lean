/-
  The closed facts of the row of the law SkillReached.
-/
import Derived.Test.YtkhijdbigpaagaaFacts
import Derived.SevenTiedAt
namespace Go.Proofs.Ytkhijdbigpaagaa.skillReached
open Go
theorem k0 : Rows.skillReachedRow.wf (OpenSpec.ofChange Rows.skillReachedSpec) = true := by kernel_rfl
theorem k3 : Try.f9.params.all (Try.prog.readableRec ·) = true := by kernel_rfl
theorem k4 : namedTie Try.prog Rows.skillReachedRow.named Rows.skillReachedSpec.vars = true := by kernel_rfl
theorem k9 : (Rows.skillReachedRow.inPlace == Try.prog.inPlace 9) = true := by kernel_rfl
theorem k10 : (Rows.skillReachedRow.unfollowed == Try.prog.unfollowed 9) = true := by kernel_rfl
theorem k11 : (Rows.skillReachedRow.recurses == Try.prog.recurses 9) = true := by kernel_rfl
theorem k12 : (Rows.skillReachedRow.named == Try.prog.varsNamed 9) = true := by kernel_rfl
theorem k13 : (Rows.skillReachedRow.maps == (Try.f9.params.toList ++ Rows.skillReachedSpec.plain.varTypes Try.prog).any (Try.prog.mapsRec ·)) = true := by kernel_rfl
theorem k14 : (Rows.skillReachedRow.ifaces == (Try.f9.params.toList ++ Rows.skillReachedSpec.plain.varTypes Try.prog).any (Try.prog.ifacesRec ·)) = true := by kernel_rfl
theorem k15 : (Rows.skillReachedRow.mapsOut == Try.prog.mapsAmong Try.f9.resultTypes.toList) = true := by kernel_rfl
theorem k16 : (Rows.skillReachedRow.loops == (Try.f9.params.toList ++ Rows.skillReachedSpec.plain.varTypes Try.prog).any (Try.prog.loopsFrom ·)) = true := by kernel_rfl
theorem k17 : (Rows.skillReachedRow.wideKeys == (Try.f9.params.toList ++ Rows.skillReachedSpec.plain.varTypes Try.prog ++ Try.f9.resultTypes.toList).any (Try.prog.wideKeysFrom ·)) = true := by kernel_rfl
theorem k18 : Rows.skillReachedSpec.vars.all (Try.prog.varReadable ·) = true := by kernel_rfl
theorem k20 : (Rows.skillReachedRow.ifacesOut == Try.f9.resultTypes.toList.any (Try.prog.ifacesRec ·)) = true := by kernel_rfl
theorem k21 : (Rows.skillReachedRow.loopsOut == Try.f9.resultTypes.toList.any (Try.prog.loopsFrom ·)) = true := by kernel_rfl
theorem k30 : (Rows.skillReachedRow.veiled == (Try.f9.params.toList ++ Rows.skillReachedSpec.plain.varTypes Try.prog ++ Try.f9.resultTypes.toList).any (Try.prog.veiledRec ·)) = true := by kernel_rfl
theorem k31 : Rows.skillReachedRow.veiledFits Try.prog Try.f9.params.toList (Try.f9.params.toList ++ Rows.skillReachedSpec.plain.varTypes Try.prog ++ Try.f9.resultTypes.toList) = true := by kernel_rfl
theorem closed : joinedFacts Try.prog 9 Try.f9 Rows.skillReachedSpec Rows.skillReachedRow = true :=
  facts.mk k0 facts.p1 facts.p2 k3 k4 rfl facts.p6 rfl facts.p8 k9 k10 k11 k12 k13 k14 k15 k16 k17 k18 facts.p19 k20 k21 facts.p22 rfl facts.p24 facts.p25 facts.p26 facts.p27 rfl rfl k30 k31
theorem notInit : Try.prog.inits.idxOf? 9 = none := by kernel_rfl
theorem named : Try.prog.funcNamed "bitepoint/bitepointlaw02.SkillReached" = some 9 := by kernel_rfl
theorem instance_ : Try.f9.isInstance Try.prog Rows.skillReachedRow.origin Rows.skillReachedRow.targs := of_decide_eq_true (by kernel_rfl)
theorem wrap : Try.f9.isWrapper Try.prog Rows.skillReachedRow.wrapper Rows.skillReachedRow.mainSum := by unfold Func.isWrapper; first | (rw [if_pos (by decide +kernel)]; kernel_rfl) | (rw [if_neg (by decide +kernel)]; exact ⟨rfl, rfl⟩)
end Go.Proofs.Ytkhijdbigpaagaa.skillReached
