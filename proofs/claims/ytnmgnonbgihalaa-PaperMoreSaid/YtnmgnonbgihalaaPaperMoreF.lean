/-
  The closed facts of the row of the law PaperMore.
-/
import Derived.Test.YtnmgnonbgihalaaFacts
import Derived.SevenTiedAt
namespace Go.Proofs.Ytnmgnonbgihalaa.paperMore
open Go
theorem k0 : Rows.paperMoreRow.wf (OpenSpec.ofChange Rows.paperMoreSpec) = true := by kernel_rfl
theorem k3 : Try.f14.params.all (Try.prog.readableRec ·) = true := by kernel_rfl
theorem k4 : namedTie Try.prog Rows.paperMoreRow.named Rows.paperMoreSpec.vars = true := by kernel_rfl
theorem k9 : (Rows.paperMoreRow.inPlace == Try.prog.inPlace 14) = true := by kernel_rfl
theorem k10 : (Rows.paperMoreRow.unfollowed == Try.prog.unfollowed 14) = true := by kernel_rfl
theorem k11 : (Rows.paperMoreRow.recurses == Try.prog.recurses 14) = true := by kernel_rfl
theorem k12 : (Rows.paperMoreRow.named == Try.prog.varsNamed 14) = true := by kernel_rfl
theorem k13 : (Rows.paperMoreRow.maps == (Try.f14.params.toList ++ Rows.paperMoreSpec.plain.varTypes Try.prog).any (Try.prog.mapsRec ·)) = true := by kernel_rfl
theorem k14 : (Rows.paperMoreRow.ifaces == (Try.f14.params.toList ++ Rows.paperMoreSpec.plain.varTypes Try.prog).any (Try.prog.ifacesRec ·)) = true := by kernel_rfl
theorem k15 : (Rows.paperMoreRow.mapsOut == Try.prog.mapsAmong Try.f14.resultTypes.toList) = true := by kernel_rfl
theorem k16 : (Rows.paperMoreRow.loops == (Try.f14.params.toList ++ Rows.paperMoreSpec.plain.varTypes Try.prog).any (Try.prog.loopsFrom ·)) = true := by kernel_rfl
theorem k17 : (Rows.paperMoreRow.wideKeys == (Try.f14.params.toList ++ Rows.paperMoreSpec.plain.varTypes Try.prog ++ Try.f14.resultTypes.toList).any (Try.prog.wideKeysFrom ·)) = true := by kernel_rfl
theorem k18 : Rows.paperMoreSpec.vars.all (Try.prog.varReadable ·) = true := by kernel_rfl
theorem k20 : (Rows.paperMoreRow.ifacesOut == Try.f14.resultTypes.toList.any (Try.prog.ifacesRec ·)) = true := by kernel_rfl
theorem k21 : (Rows.paperMoreRow.loopsOut == Try.f14.resultTypes.toList.any (Try.prog.loopsFrom ·)) = true := by kernel_rfl
theorem k30 : (Rows.paperMoreRow.veiled == (Try.f14.params.toList ++ Rows.paperMoreSpec.plain.varTypes Try.prog ++ Try.f14.resultTypes.toList).any (Try.prog.veiledRec ·)) = true := by kernel_rfl
theorem k31 : Rows.paperMoreRow.veiledFits Try.prog Try.f14.params.toList (Try.f14.params.toList ++ Rows.paperMoreSpec.plain.varTypes Try.prog ++ Try.f14.resultTypes.toList) = true := by kernel_rfl
theorem closed : joinedFacts Try.prog 14 Try.f14 Rows.paperMoreSpec Rows.paperMoreRow = true :=
  facts.mk k0 facts.p1 facts.p2 k3 k4 rfl facts.p6 rfl facts.p8 k9 k10 k11 k12 k13 k14 k15 k16 k17 k18 facts.p19 k20 k21 facts.p22 rfl facts.p24 facts.p25 facts.p26 facts.p27 rfl rfl k30 k31
theorem notInit : Try.prog.inits.idxOf? 14 = none := by kernel_rfl
theorem named : Try.prog.funcNamed "bitepoint/bitepointlaw06.PaperMore" = some 14 := by kernel_rfl
theorem instance_ : Try.f14.isInstance Try.prog Rows.paperMoreRow.origin Rows.paperMoreRow.targs := of_decide_eq_true (by kernel_rfl)
theorem wrap : Try.f14.isWrapper Try.prog Rows.paperMoreRow.wrapper Rows.paperMoreRow.mainSum := by unfold Func.isWrapper; first | (rw [if_pos (by decide +kernel)]; kernel_rfl) | (rw [if_neg (by decide +kernel)]; exact ⟨rfl, rfl⟩)
end Go.Proofs.Ytnmgnonbgihalaa.paperMore
