/-
  The closed facts of the row of the law PaperNumbered.
-/
import Derived.Test.YtnmgnonbgihalaaFacts
import Derived.SevenTiedAt
namespace Go.Proofs.Ytnmgnonbgihalaa.paperNumbered
open Go
theorem k0 : Rows.paperNumberedRow.wf (OpenSpec.ofChange Rows.paperNumberedSpec) = true := by kernel_rfl
theorem k3 : Try.f9.params.all (Try.prog.readableRec ·) = true := by kernel_rfl
theorem k4 : namedTie Try.prog Rows.paperNumberedRow.named Rows.paperNumberedSpec.vars = true := by kernel_rfl
theorem k9 : (Rows.paperNumberedRow.inPlace == Try.prog.inPlace 9) = true := by kernel_rfl
theorem k10 : (Rows.paperNumberedRow.unfollowed == Try.prog.unfollowed 9) = true := by kernel_rfl
theorem k11 : (Rows.paperNumberedRow.recurses == Try.prog.recurses 9) = true := by kernel_rfl
theorem k12 : (Rows.paperNumberedRow.named == Try.prog.varsNamed 9) = true := by kernel_rfl
theorem k13 : (Rows.paperNumberedRow.maps == (Try.f9.params.toList ++ Rows.paperNumberedSpec.plain.varTypes Try.prog).any (Try.prog.mapsRec ·)) = true := by kernel_rfl
theorem k14 : (Rows.paperNumberedRow.ifaces == (Try.f9.params.toList ++ Rows.paperNumberedSpec.plain.varTypes Try.prog).any (Try.prog.ifacesRec ·)) = true := by kernel_rfl
theorem k15 : (Rows.paperNumberedRow.mapsOut == Try.prog.mapsAmong Try.f9.resultTypes.toList) = true := by kernel_rfl
theorem k16 : (Rows.paperNumberedRow.loops == (Try.f9.params.toList ++ Rows.paperNumberedSpec.plain.varTypes Try.prog).any (Try.prog.loopsFrom ·)) = true := by kernel_rfl
theorem k17 : (Rows.paperNumberedRow.wideKeys == (Try.f9.params.toList ++ Rows.paperNumberedSpec.plain.varTypes Try.prog ++ Try.f9.resultTypes.toList).any (Try.prog.wideKeysFrom ·)) = true := by kernel_rfl
theorem k18 : Rows.paperNumberedSpec.vars.all (Try.prog.varReadable ·) = true := by kernel_rfl
theorem k20 : (Rows.paperNumberedRow.ifacesOut == Try.f9.resultTypes.toList.any (Try.prog.ifacesRec ·)) = true := by kernel_rfl
theorem k21 : (Rows.paperNumberedRow.loopsOut == Try.f9.resultTypes.toList.any (Try.prog.loopsFrom ·)) = true := by kernel_rfl
theorem k30 : (Rows.paperNumberedRow.veiled == (Try.f9.params.toList ++ Rows.paperNumberedSpec.plain.varTypes Try.prog ++ Try.f9.resultTypes.toList).any (Try.prog.veiledRec ·)) = true := by kernel_rfl
theorem k31 : Rows.paperNumberedRow.veiledFits Try.prog Try.f9.params.toList (Try.f9.params.toList ++ Rows.paperNumberedSpec.plain.varTypes Try.prog ++ Try.f9.resultTypes.toList) = true := by kernel_rfl
theorem closed : joinedFacts Try.prog 9 Try.f9 Rows.paperNumberedSpec Rows.paperNumberedRow = true :=
  facts.mk k0 facts.p1 facts.p2 k3 k4 rfl facts.p6 rfl facts.p8 k9 k10 k11 k12 k13 k14 k15 k16 k17 k18 facts.p19 k20 k21 facts.p22 rfl facts.p24 facts.p25 facts.p26 facts.p27 rfl rfl k30 k31
theorem notInit : Try.prog.inits.idxOf? 9 = none := by kernel_rfl
theorem named : Try.prog.funcNamed "bitepoint/bitepointlaw06.PaperNumbered" = some 9 := by kernel_rfl
theorem instance_ : Try.f9.isInstance Try.prog Rows.paperNumberedRow.origin Rows.paperNumberedRow.targs := of_decide_eq_true (by kernel_rfl)
theorem wrap : Try.f9.isWrapper Try.prog Rows.paperNumberedRow.wrapper Rows.paperNumberedRow.mainSum := by unfold Func.isWrapper; first | (rw [if_pos (by decide +kernel)]; kernel_rfl) | (rw [if_neg (by decide +kernel)]; exact ⟨rfl, rfl⟩)
end Go.Proofs.Ytnmgnonbgihalaa.paperNumbered
