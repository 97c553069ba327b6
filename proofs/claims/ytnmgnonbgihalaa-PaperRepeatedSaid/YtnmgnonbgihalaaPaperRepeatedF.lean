/-
  The closed facts of the row of the law PaperRepeated.
-/
import Derived.Test.YtnmgnonbgihalaaFacts
import Derived.SevenTiedAt
namespace Go.Proofs.Ytnmgnonbgihalaa.paperRepeated
open Go
theorem k0 : Rows.paperRepeatedRow.wf (OpenSpec.ofChange Rows.paperRepeatedSpec) = true := by kernel_rfl
theorem k3 : Try.f12.params.all (Try.prog.readableRec ·) = true := by kernel_rfl
theorem k4 : namedTie Try.prog Rows.paperRepeatedRow.named Rows.paperRepeatedSpec.vars = true := by kernel_rfl
theorem k9 : (Rows.paperRepeatedRow.inPlace == Try.prog.inPlace 12) = true := by kernel_rfl
theorem k10 : (Rows.paperRepeatedRow.unfollowed == Try.prog.unfollowed 12) = true := by kernel_rfl
theorem k11 : (Rows.paperRepeatedRow.recurses == Try.prog.recurses 12) = true := by kernel_rfl
theorem k12 : (Rows.paperRepeatedRow.named == Try.prog.varsNamed 12) = true := by kernel_rfl
theorem k13 : (Rows.paperRepeatedRow.maps == (Try.f12.params.toList ++ Rows.paperRepeatedSpec.plain.varTypes Try.prog).any (Try.prog.mapsRec ·)) = true := by kernel_rfl
theorem k14 : (Rows.paperRepeatedRow.ifaces == (Try.f12.params.toList ++ Rows.paperRepeatedSpec.plain.varTypes Try.prog).any (Try.prog.ifacesRec ·)) = true := by kernel_rfl
theorem k15 : (Rows.paperRepeatedRow.mapsOut == Try.prog.mapsAmong Try.f12.resultTypes.toList) = true := by kernel_rfl
theorem k16 : (Rows.paperRepeatedRow.loops == (Try.f12.params.toList ++ Rows.paperRepeatedSpec.plain.varTypes Try.prog).any (Try.prog.loopsFrom ·)) = true := by kernel_rfl
theorem k17 : (Rows.paperRepeatedRow.wideKeys == (Try.f12.params.toList ++ Rows.paperRepeatedSpec.plain.varTypes Try.prog ++ Try.f12.resultTypes.toList).any (Try.prog.wideKeysFrom ·)) = true := by kernel_rfl
theorem k18 : Rows.paperRepeatedSpec.vars.all (Try.prog.varReadable ·) = true := by kernel_rfl
theorem k20 : (Rows.paperRepeatedRow.ifacesOut == Try.f12.resultTypes.toList.any (Try.prog.ifacesRec ·)) = true := by kernel_rfl
theorem k21 : (Rows.paperRepeatedRow.loopsOut == Try.f12.resultTypes.toList.any (Try.prog.loopsFrom ·)) = true := by kernel_rfl
theorem k30 : (Rows.paperRepeatedRow.veiled == (Try.f12.params.toList ++ Rows.paperRepeatedSpec.plain.varTypes Try.prog ++ Try.f12.resultTypes.toList).any (Try.prog.veiledRec ·)) = true := by kernel_rfl
theorem k31 : Rows.paperRepeatedRow.veiledFits Try.prog Try.f12.params.toList (Try.f12.params.toList ++ Rows.paperRepeatedSpec.plain.varTypes Try.prog ++ Try.f12.resultTypes.toList) = true := by kernel_rfl
theorem closed : joinedFacts Try.prog 12 Try.f12 Rows.paperRepeatedSpec Rows.paperRepeatedRow = true :=
  facts.mk k0 facts.p1 facts.p2 k3 k4 rfl facts.p6 rfl facts.p8 k9 k10 k11 k12 k13 k14 k15 k16 k17 k18 facts.p19 k20 k21 facts.p22 rfl facts.p24 facts.p25 facts.p26 facts.p27 rfl rfl k30 k31
theorem notInit : Try.prog.inits.idxOf? 12 = none := by kernel_rfl
theorem named : Try.prog.funcNamed "bitepoint/bitepointlaw06.PaperRepeated" = some 12 := by kernel_rfl
theorem instance_ : Try.f12.isInstance Try.prog Rows.paperRepeatedRow.origin Rows.paperRepeatedRow.targs := of_decide_eq_true (by kernel_rfl)
theorem wrap : Try.f12.isWrapper Try.prog Rows.paperRepeatedRow.wrapper Rows.paperRepeatedRow.mainSum := by unfold Func.isWrapper; first | (rw [if_pos (by decide +kernel)]; kernel_rfl) | (rw [if_neg (by decide +kernel)]; exact ⟨rfl, rfl⟩)
end Go.Proofs.Ytnmgnonbgihalaa.paperRepeated
