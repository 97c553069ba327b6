/-
  The closed facts of the row of the law PaperAny.
-/
import Derived.Test.YtnmgnonbgihalaaFacts
import Derived.SevenTiedAt
namespace Go.Proofs.Ytnmgnonbgihalaa.paperAny
open Go
theorem k0 : Rows.paperAnyRow.wf (OpenSpec.ofChange Rows.paperAnySpec) = true := by kernel_rfl
theorem k3 : Try.f10.params.all (Try.prog.readableRec ·) = true := by kernel_rfl
theorem k4 : namedTie Try.prog Rows.paperAnyRow.named Rows.paperAnySpec.vars = true := by kernel_rfl
theorem k9 : (Rows.paperAnyRow.inPlace == Try.prog.inPlace 10) = true := by kernel_rfl
theorem k10 : (Rows.paperAnyRow.unfollowed == Try.prog.unfollowed 10) = true := by kernel_rfl
theorem k11 : (Rows.paperAnyRow.recurses == Try.prog.recurses 10) = true := by kernel_rfl
theorem k12 : (Rows.paperAnyRow.named == Try.prog.varsNamed 10) = true := by kernel_rfl
theorem k13 : (Rows.paperAnyRow.maps == (Try.f10.params.toList ++ Rows.paperAnySpec.plain.varTypes Try.prog).any (Try.prog.mapsRec ·)) = true := by kernel_rfl
theorem k14 : (Rows.paperAnyRow.ifaces == (Try.f10.params.toList ++ Rows.paperAnySpec.plain.varTypes Try.prog).any (Try.prog.ifacesRec ·)) = true := by kernel_rfl
theorem k15 : (Rows.paperAnyRow.mapsOut == Try.prog.mapsAmong Try.f10.resultTypes.toList) = true := by kernel_rfl
theorem k16 : (Rows.paperAnyRow.loops == (Try.f10.params.toList ++ Rows.paperAnySpec.plain.varTypes Try.prog).any (Try.prog.loopsFrom ·)) = true := by kernel_rfl
theorem k17 : (Rows.paperAnyRow.wideKeys == (Try.f10.params.toList ++ Rows.paperAnySpec.plain.varTypes Try.prog ++ Try.f10.resultTypes.toList).any (Try.prog.wideKeysFrom ·)) = true := by kernel_rfl
theorem k18 : Rows.paperAnySpec.vars.all (Try.prog.varReadable ·) = true := by kernel_rfl
theorem k20 : (Rows.paperAnyRow.ifacesOut == Try.f10.resultTypes.toList.any (Try.prog.ifacesRec ·)) = true := by kernel_rfl
theorem k21 : (Rows.paperAnyRow.loopsOut == Try.f10.resultTypes.toList.any (Try.prog.loopsFrom ·)) = true := by kernel_rfl
theorem k30 : (Rows.paperAnyRow.veiled == (Try.f10.params.toList ++ Rows.paperAnySpec.plain.varTypes Try.prog ++ Try.f10.resultTypes.toList).any (Try.prog.veiledRec ·)) = true := by kernel_rfl
theorem k31 : Rows.paperAnyRow.veiledFits Try.prog Try.f10.params.toList (Try.f10.params.toList ++ Rows.paperAnySpec.plain.varTypes Try.prog ++ Try.f10.resultTypes.toList) = true := by kernel_rfl
theorem closed : joinedFacts Try.prog 10 Try.f10 Rows.paperAnySpec Rows.paperAnyRow = true :=
  facts.mk k0 facts.p1 facts.p2 k3 k4 rfl facts.p6 rfl facts.p8 k9 k10 k11 k12 k13 k14 k15 k16 k17 k18 facts.p19 k20 k21 facts.p22 rfl facts.p24 facts.p25 facts.p26 facts.p27 rfl rfl k30 k31
theorem notInit : Try.prog.inits.idxOf? 10 = none := by kernel_rfl
theorem named : Try.prog.funcNamed "bitepoint/bitepointlaw06.PaperAny" = some 10 := by kernel_rfl
theorem instance_ : Try.f10.isInstance Try.prog Rows.paperAnyRow.origin Rows.paperAnyRow.targs := of_decide_eq_true (by kernel_rfl)
theorem wrap : Try.f10.isWrapper Try.prog Rows.paperAnyRow.wrapper Rows.paperAnyRow.mainSum := by unfold Func.isWrapper; first | (rw [if_pos (by decide +kernel)]; kernel_rfl) | (rw [if_neg (by decide +kernel)]; exact ⟨rfl, rfl⟩)
end Go.Proofs.Ytnmgnonbgihalaa.paperAny
