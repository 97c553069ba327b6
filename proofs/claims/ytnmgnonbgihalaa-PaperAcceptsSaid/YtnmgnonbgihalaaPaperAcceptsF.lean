/-
  The closed facts of the row of the law PaperAccepts.
-/
import Derived.Test.YtnmgnonbgihalaaFacts
import Derived.SevenTiedAt
namespace Go.Proofs.Ytnmgnonbgihalaa.paperAccepts
open Go
theorem k0 : Rows.paperAcceptsRow.wf (OpenSpec.ofChange Rows.paperAcceptsSpec) = true := by kernel_rfl
theorem k3 : Try.f6.params.all (Try.prog.readableRec ·) = true := by kernel_rfl
theorem k4 : namedTie Try.prog Rows.paperAcceptsRow.named Rows.paperAcceptsSpec.vars = true := by kernel_rfl
theorem k9 : (Rows.paperAcceptsRow.inPlace == Try.prog.inPlace 6) = true := by kernel_rfl
theorem k10 : (Rows.paperAcceptsRow.unfollowed == Try.prog.unfollowed 6) = true := by kernel_rfl
theorem k11 : (Rows.paperAcceptsRow.recurses == Try.prog.recurses 6) = true := by kernel_rfl
theorem k12 : (Rows.paperAcceptsRow.named == Try.prog.varsNamed 6) = true := by kernel_rfl
theorem k13 : (Rows.paperAcceptsRow.maps == (Try.f6.params.toList ++ Rows.paperAcceptsSpec.plain.varTypes Try.prog).any (Try.prog.mapsRec ·)) = true := by kernel_rfl
theorem k14 : (Rows.paperAcceptsRow.ifaces == (Try.f6.params.toList ++ Rows.paperAcceptsSpec.plain.varTypes Try.prog).any (Try.prog.ifacesRec ·)) = true := by kernel_rfl
theorem k15 : (Rows.paperAcceptsRow.mapsOut == Try.prog.mapsAmong Try.f6.resultTypes.toList) = true := by kernel_rfl
theorem k16 : (Rows.paperAcceptsRow.loops == (Try.f6.params.toList ++ Rows.paperAcceptsSpec.plain.varTypes Try.prog).any (Try.prog.loopsFrom ·)) = true := by kernel_rfl
theorem k17 : (Rows.paperAcceptsRow.wideKeys == (Try.f6.params.toList ++ Rows.paperAcceptsSpec.plain.varTypes Try.prog ++ Try.f6.resultTypes.toList).any (Try.prog.wideKeysFrom ·)) = true := by kernel_rfl
theorem k18 : Rows.paperAcceptsSpec.vars.all (Try.prog.varReadable ·) = true := by kernel_rfl
theorem k20 : (Rows.paperAcceptsRow.ifacesOut == Try.f6.resultTypes.toList.any (Try.prog.ifacesRec ·)) = true := by kernel_rfl
theorem k21 : (Rows.paperAcceptsRow.loopsOut == Try.f6.resultTypes.toList.any (Try.prog.loopsFrom ·)) = true := by kernel_rfl
theorem k30 : (Rows.paperAcceptsRow.veiled == (Try.f6.params.toList ++ Rows.paperAcceptsSpec.plain.varTypes Try.prog ++ Try.f6.resultTypes.toList).any (Try.prog.veiledRec ·)) = true := by kernel_rfl
theorem k31 : Rows.paperAcceptsRow.veiledFits Try.prog Try.f6.params.toList (Try.f6.params.toList ++ Rows.paperAcceptsSpec.plain.varTypes Try.prog ++ Try.f6.resultTypes.toList) = true := by kernel_rfl
theorem closed : joinedFacts Try.prog 6 Try.f6 Rows.paperAcceptsSpec Rows.paperAcceptsRow = true :=
  facts.mk k0 facts.p1 facts.p2 k3 k4 rfl facts.p6 rfl facts.p8 k9 k10 k11 k12 k13 k14 k15 k16 k17 k18 facts.p19 k20 k21 facts.p22 rfl facts.p24 facts.p25 facts.p26 facts.p27 rfl rfl k30 k31
theorem notInit : Try.prog.inits.idxOf? 6 = none := by kernel_rfl
theorem named : Try.prog.funcNamed "bitepoint/bitepointlaw06.PaperAccepts" = some 6 := by kernel_rfl
theorem instance_ : Try.f6.isInstance Try.prog Rows.paperAcceptsRow.origin Rows.paperAcceptsRow.targs := of_decide_eq_true (by kernel_rfl)
theorem wrap : Try.f6.isWrapper Try.prog Rows.paperAcceptsRow.wrapper Rows.paperAcceptsRow.mainSum := by unfold Func.isWrapper; first | (rw [if_pos (by decide +kernel)]; kernel_rfl) | (rw [if_neg (by decide +kernel)]; exact ⟨rfl, rfl⟩)
end Go.Proofs.Ytnmgnonbgihalaa.paperAccepts
