/-
  The closed facts of the row of the law PaperNeighbours.
-/
import Derived.Test.YtnmgnonbgihalaaFacts
import Derived.SevenTiedAt
namespace Go.Proofs.Ytnmgnonbgihalaa.paperNeighbours
open Go
theorem k0 : Rows.paperNeighboursRow.wf (OpenSpec.ofChange Rows.paperNeighboursSpec) = true := by kernel_rfl
theorem k3 : Try.f11.params.all (Try.prog.readableRec ·) = true := by kernel_rfl
theorem k4 : namedTie Try.prog Rows.paperNeighboursRow.named Rows.paperNeighboursSpec.vars = true := by kernel_rfl
theorem k9 : (Rows.paperNeighboursRow.inPlace == Try.prog.inPlace 11) = true := by kernel_rfl
theorem k10 : (Rows.paperNeighboursRow.unfollowed == Try.prog.unfollowed 11) = true := by kernel_rfl
theorem k11 : (Rows.paperNeighboursRow.recurses == Try.prog.recurses 11) = true := by kernel_rfl
theorem k12 : (Rows.paperNeighboursRow.named == Try.prog.varsNamed 11) = true := by kernel_rfl
theorem k13 : (Rows.paperNeighboursRow.maps == (Try.f11.params.toList ++ Rows.paperNeighboursSpec.plain.varTypes Try.prog).any (Try.prog.mapsRec ·)) = true := by kernel_rfl
theorem k14 : (Rows.paperNeighboursRow.ifaces == (Try.f11.params.toList ++ Rows.paperNeighboursSpec.plain.varTypes Try.prog).any (Try.prog.ifacesRec ·)) = true := by kernel_rfl
theorem k15 : (Rows.paperNeighboursRow.mapsOut == Try.prog.mapsAmong Try.f11.resultTypes.toList) = true := by kernel_rfl
theorem k16 : (Rows.paperNeighboursRow.loops == (Try.f11.params.toList ++ Rows.paperNeighboursSpec.plain.varTypes Try.prog).any (Try.prog.loopsFrom ·)) = true := by kernel_rfl
theorem k17 : (Rows.paperNeighboursRow.wideKeys == (Try.f11.params.toList ++ Rows.paperNeighboursSpec.plain.varTypes Try.prog ++ Try.f11.resultTypes.toList).any (Try.prog.wideKeysFrom ·)) = true := by kernel_rfl
theorem k18 : Rows.paperNeighboursSpec.vars.all (Try.prog.varReadable ·) = true := by kernel_rfl
theorem k20 : (Rows.paperNeighboursRow.ifacesOut == Try.f11.resultTypes.toList.any (Try.prog.ifacesRec ·)) = true := by kernel_rfl
theorem k21 : (Rows.paperNeighboursRow.loopsOut == Try.f11.resultTypes.toList.any (Try.prog.loopsFrom ·)) = true := by kernel_rfl
theorem k30 : (Rows.paperNeighboursRow.veiled == (Try.f11.params.toList ++ Rows.paperNeighboursSpec.plain.varTypes Try.prog ++ Try.f11.resultTypes.toList).any (Try.prog.veiledRec ·)) = true := by kernel_rfl
theorem k31 : Rows.paperNeighboursRow.veiledFits Try.prog Try.f11.params.toList (Try.f11.params.toList ++ Rows.paperNeighboursSpec.plain.varTypes Try.prog ++ Try.f11.resultTypes.toList) = true := by kernel_rfl
theorem closed : joinedFacts Try.prog 11 Try.f11 Rows.paperNeighboursSpec Rows.paperNeighboursRow = true :=
  facts.mk k0 facts.p1 facts.p2 k3 k4 rfl facts.p6 rfl facts.p8 k9 k10 k11 k12 k13 k14 k15 k16 k17 k18 facts.p19 k20 k21 facts.p22 rfl facts.p24 facts.p25 facts.p26 facts.p27 rfl rfl k30 k31
theorem notInit : Try.prog.inits.idxOf? 11 = none := by kernel_rfl
theorem named : Try.prog.funcNamed "bitepoint/bitepointlaw06.PaperNeighbours" = some 11 := by kernel_rfl
theorem instance_ : Try.f11.isInstance Try.prog Rows.paperNeighboursRow.origin Rows.paperNeighboursRow.targs := of_decide_eq_true (by kernel_rfl)
theorem wrap : Try.f11.isWrapper Try.prog Rows.paperNeighboursRow.wrapper Rows.paperNeighboursRow.mainSum := by unfold Func.isWrapper; first | (rw [if_pos (by decide +kernel)]; kernel_rfl) | (rw [if_neg (by decide +kernel)]; exact ⟨rfl, rfl⟩)
end Go.Proofs.Ytnmgnonbgihalaa.paperNeighbours
