/-
  The closed facts of the row of the law PaperHarder.
-/
import Derived.Test.YtnmgnonbgihalaaFacts
import Derived.SevenTiedAt
namespace Go.Proofs.Ytnmgnonbgihalaa.paperHarder
open Go
theorem k0 : Rows.paperHarderRow.wf (OpenSpec.ofChange Rows.paperHarderSpec) = true := by kernel_rfl
theorem k3 : Try.f15.params.all (Try.prog.readableRec ·) = true := by kernel_rfl
theorem k4 : namedTie Try.prog Rows.paperHarderRow.named Rows.paperHarderSpec.vars = true := by kernel_rfl
theorem k9 : (Rows.paperHarderRow.inPlace == Try.prog.inPlace 15) = true := by kernel_rfl
theorem k10 : (Rows.paperHarderRow.unfollowed == Try.prog.unfollowed 15) = true := by kernel_rfl
theorem k11 : (Rows.paperHarderRow.recurses == Try.prog.recurses 15) = true := by kernel_rfl
theorem k12 : (Rows.paperHarderRow.named == Try.prog.varsNamed 15) = true := by kernel_rfl
theorem k13 : (Rows.paperHarderRow.maps == (Try.f15.params.toList ++ Rows.paperHarderSpec.plain.varTypes Try.prog).any (Try.prog.mapsRec ·)) = true := by kernel_rfl
theorem k14 : (Rows.paperHarderRow.ifaces == (Try.f15.params.toList ++ Rows.paperHarderSpec.plain.varTypes Try.prog).any (Try.prog.ifacesRec ·)) = true := by kernel_rfl
theorem k15 : (Rows.paperHarderRow.mapsOut == Try.prog.mapsAmong Try.f15.resultTypes.toList) = true := by kernel_rfl
theorem k16 : (Rows.paperHarderRow.loops == (Try.f15.params.toList ++ Rows.paperHarderSpec.plain.varTypes Try.prog).any (Try.prog.loopsFrom ·)) = true := by kernel_rfl
theorem k17 : (Rows.paperHarderRow.wideKeys == (Try.f15.params.toList ++ Rows.paperHarderSpec.plain.varTypes Try.prog ++ Try.f15.resultTypes.toList).any (Try.prog.wideKeysFrom ·)) = true := by kernel_rfl
theorem k18 : Rows.paperHarderSpec.vars.all (Try.prog.varReadable ·) = true := by kernel_rfl
theorem k20 : (Rows.paperHarderRow.ifacesOut == Try.f15.resultTypes.toList.any (Try.prog.ifacesRec ·)) = true := by kernel_rfl
theorem k21 : (Rows.paperHarderRow.loopsOut == Try.f15.resultTypes.toList.any (Try.prog.loopsFrom ·)) = true := by kernel_rfl
theorem k30 : (Rows.paperHarderRow.veiled == (Try.f15.params.toList ++ Rows.paperHarderSpec.plain.varTypes Try.prog ++ Try.f15.resultTypes.toList).any (Try.prog.veiledRec ·)) = true := by kernel_rfl
theorem k31 : Rows.paperHarderRow.veiledFits Try.prog Try.f15.params.toList (Try.f15.params.toList ++ Rows.paperHarderSpec.plain.varTypes Try.prog ++ Try.f15.resultTypes.toList) = true := by kernel_rfl
theorem closed : joinedFacts Try.prog 15 Try.f15 Rows.paperHarderSpec Rows.paperHarderRow = true :=
  facts.mk k0 facts.p1 facts.p2 k3 k4 rfl facts.p6 rfl facts.p8 k9 k10 k11 k12 k13 k14 k15 k16 k17 k18 facts.p19 k20 k21 facts.p22 rfl facts.p24 facts.p25 facts.p26 facts.p27 rfl rfl k30 k31
theorem notInit : Try.prog.inits.idxOf? 15 = none := by kernel_rfl
theorem named : Try.prog.funcNamed "bitepoint/bitepointlaw06.PaperHarder" = some 15 := by kernel_rfl
theorem instance_ : Try.f15.isInstance Try.prog Rows.paperHarderRow.origin Rows.paperHarderRow.targs := of_decide_eq_true (by kernel_rfl)
theorem wrap : Try.f15.isWrapper Try.prog Rows.paperHarderRow.wrapper Rows.paperHarderRow.mainSum := by unfold Func.isWrapper; first | (rw [if_pos (by decide +kernel)]; kernel_rfl) | (rw [if_neg (by decide +kernel)]; exact ⟨rfl, rfl⟩)
end Go.Proofs.Ytnmgnonbgihalaa.paperHarder
