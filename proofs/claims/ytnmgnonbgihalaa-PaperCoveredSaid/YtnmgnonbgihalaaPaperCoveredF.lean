/-
  The closed facts of the row of the law PaperCovered.
-/
import Derived.Test.YtnmgnonbgihalaaFacts
import Derived.SevenTiedAt
namespace Go.Proofs.Ytnmgnonbgihalaa.paperCovered
open Go
theorem k0 : Rows.paperCoveredRow.wf (OpenSpec.ofChange Rows.paperCoveredSpec) = true := by kernel_rfl
theorem k3 : Try.f8.params.all (Try.prog.readableRec ·) = true := by kernel_rfl
theorem k4 : namedTie Try.prog Rows.paperCoveredRow.named Rows.paperCoveredSpec.vars = true := by kernel_rfl
theorem k9 : (Rows.paperCoveredRow.inPlace == Try.prog.inPlace 8) = true := by kernel_rfl
theorem k10 : (Rows.paperCoveredRow.unfollowed == Try.prog.unfollowed 8) = true := by kernel_rfl
theorem k11 : (Rows.paperCoveredRow.recurses == Try.prog.recurses 8) = true := by kernel_rfl
theorem k12 : (Rows.paperCoveredRow.named == Try.prog.varsNamed 8) = true := by kernel_rfl
theorem k13 : (Rows.paperCoveredRow.maps == (Try.f8.params.toList ++ Rows.paperCoveredSpec.plain.varTypes Try.prog).any (Try.prog.mapsRec ·)) = true := by kernel_rfl
theorem k14 : (Rows.paperCoveredRow.ifaces == (Try.f8.params.toList ++ Rows.paperCoveredSpec.plain.varTypes Try.prog).any (Try.prog.ifacesRec ·)) = true := by kernel_rfl
theorem k15 : (Rows.paperCoveredRow.mapsOut == Try.prog.mapsAmong Try.f8.resultTypes.toList) = true := by kernel_rfl
theorem k16 : (Rows.paperCoveredRow.loops == (Try.f8.params.toList ++ Rows.paperCoveredSpec.plain.varTypes Try.prog).any (Try.prog.loopsFrom ·)) = true := by kernel_rfl
theorem k17 : (Rows.paperCoveredRow.wideKeys == (Try.f8.params.toList ++ Rows.paperCoveredSpec.plain.varTypes Try.prog ++ Try.f8.resultTypes.toList).any (Try.prog.wideKeysFrom ·)) = true := by kernel_rfl
theorem k18 : Rows.paperCoveredSpec.vars.all (Try.prog.varReadable ·) = true := by kernel_rfl
theorem k20 : (Rows.paperCoveredRow.ifacesOut == Try.f8.resultTypes.toList.any (Try.prog.ifacesRec ·)) = true := by kernel_rfl
theorem k21 : (Rows.paperCoveredRow.loopsOut == Try.f8.resultTypes.toList.any (Try.prog.loopsFrom ·)) = true := by kernel_rfl
theorem k30 : (Rows.paperCoveredRow.veiled == (Try.f8.params.toList ++ Rows.paperCoveredSpec.plain.varTypes Try.prog ++ Try.f8.resultTypes.toList).any (Try.prog.veiledRec ·)) = true := by kernel_rfl
theorem k31 : Rows.paperCoveredRow.veiledFits Try.prog Try.f8.params.toList (Try.f8.params.toList ++ Rows.paperCoveredSpec.plain.varTypes Try.prog ++ Try.f8.resultTypes.toList) = true := by kernel_rfl
theorem closed : joinedFacts Try.prog 8 Try.f8 Rows.paperCoveredSpec Rows.paperCoveredRow = true :=
  facts.mk k0 facts.p1 facts.p2 k3 k4 rfl facts.p6 rfl facts.p8 k9 k10 k11 k12 k13 k14 k15 k16 k17 k18 facts.p19 k20 k21 facts.p22 rfl facts.p24 facts.p25 facts.p26 facts.p27 rfl rfl k30 k31
theorem notInit : Try.prog.inits.idxOf? 8 = none := by kernel_rfl
theorem named : Try.prog.funcNamed "bitepoint/bitepointlaw06.PaperCovered" = some 8 := by kernel_rfl
theorem instance_ : Try.f8.isInstance Try.prog Rows.paperCoveredRow.origin Rows.paperCoveredRow.targs := of_decide_eq_true (by kernel_rfl)
theorem wrap : Try.f8.isWrapper Try.prog Rows.paperCoveredRow.wrapper Rows.paperCoveredRow.mainSum := by unfold Func.isWrapper; first | (rw [if_pos (by decide +kernel)]; kernel_rfl) | (rw [if_neg (by decide +kernel)]; exact ⟨rfl, rfl⟩)
end Go.Proofs.Ytnmgnonbgihalaa.paperCovered
