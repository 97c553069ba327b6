/-
  The closed facts of the row of the law PaperKnown.
-/
import Derived.Test.YtnmgnonbgihalaaFacts
import Derived.SevenTiedAt
namespace Go.Proofs.Ytnmgnonbgihalaa.paperKnown
open Go
theorem k0 : Rows.paperKnownRow.wf (OpenSpec.ofChange Rows.paperKnownSpec) = true := by kernel_rfl
theorem k3 : Try.f7.params.all (Try.prog.readableRec ·) = true := by kernel_rfl
theorem k4 : namedTie Try.prog Rows.paperKnownRow.named Rows.paperKnownSpec.vars = true := by kernel_rfl
theorem k9 : (Rows.paperKnownRow.inPlace == Try.prog.inPlace 7) = true := by kernel_rfl
theorem k10 : (Rows.paperKnownRow.unfollowed == Try.prog.unfollowed 7) = true := by kernel_rfl
theorem k11 : (Rows.paperKnownRow.recurses == Try.prog.recurses 7) = true := by kernel_rfl
theorem k12 : (Rows.paperKnownRow.named == Try.prog.varsNamed 7) = true := by kernel_rfl
theorem k13 : (Rows.paperKnownRow.maps == (Try.f7.params.toList ++ Rows.paperKnownSpec.plain.varTypes Try.prog).any (Try.prog.mapsRec ·)) = true := by kernel_rfl
theorem k14 : (Rows.paperKnownRow.ifaces == (Try.f7.params.toList ++ Rows.paperKnownSpec.plain.varTypes Try.prog).any (Try.prog.ifacesRec ·)) = true := by kernel_rfl
theorem k15 : (Rows.paperKnownRow.mapsOut == Try.prog.mapsAmong Try.f7.resultTypes.toList) = true := by kernel_rfl
theorem k16 : (Rows.paperKnownRow.loops == (Try.f7.params.toList ++ Rows.paperKnownSpec.plain.varTypes Try.prog).any (Try.prog.loopsFrom ·)) = true := by kernel_rfl
theorem k17 : (Rows.paperKnownRow.wideKeys == (Try.f7.params.toList ++ Rows.paperKnownSpec.plain.varTypes Try.prog ++ Try.f7.resultTypes.toList).any (Try.prog.wideKeysFrom ·)) = true := by kernel_rfl
theorem k18 : Rows.paperKnownSpec.vars.all (Try.prog.varReadable ·) = true := by kernel_rfl
theorem k20 : (Rows.paperKnownRow.ifacesOut == Try.f7.resultTypes.toList.any (Try.prog.ifacesRec ·)) = true := by kernel_rfl
theorem k21 : (Rows.paperKnownRow.loopsOut == Try.f7.resultTypes.toList.any (Try.prog.loopsFrom ·)) = true := by kernel_rfl
theorem k30 : (Rows.paperKnownRow.veiled == (Try.f7.params.toList ++ Rows.paperKnownSpec.plain.varTypes Try.prog ++ Try.f7.resultTypes.toList).any (Try.prog.veiledRec ·)) = true := by kernel_rfl
theorem k31 : Rows.paperKnownRow.veiledFits Try.prog Try.f7.params.toList (Try.f7.params.toList ++ Rows.paperKnownSpec.plain.varTypes Try.prog ++ Try.f7.resultTypes.toList) = true := by kernel_rfl
theorem closed : joinedFacts Try.prog 7 Try.f7 Rows.paperKnownSpec Rows.paperKnownRow = true :=
  facts.mk k0 facts.p1 facts.p2 k3 k4 rfl facts.p6 rfl facts.p8 k9 k10 k11 k12 k13 k14 k15 k16 k17 k18 facts.p19 k20 k21 facts.p22 rfl facts.p24 facts.p25 facts.p26 facts.p27 rfl rfl k30 k31
theorem notInit : Try.prog.inits.idxOf? 7 = none := by kernel_rfl
theorem named : Try.prog.funcNamed "bitepoint/bitepointlaw06.PaperKnown" = some 7 := by kernel_rfl
theorem instance_ : Try.f7.isInstance Try.prog Rows.paperKnownRow.origin Rows.paperKnownRow.targs := of_decide_eq_true (by kernel_rfl)
theorem wrap : Try.f7.isWrapper Try.prog Rows.paperKnownRow.wrapper Rows.paperKnownRow.mainSum := by unfold Func.isWrapper; first | (rw [if_pos (by decide +kernel)]; kernel_rfl) | (rw [if_neg (by decide +kernel)]; exact ⟨rfl, rfl⟩)
end Go.Proofs.Ytnmgnonbgihalaa.paperKnown
