/-
  The closed facts of the row of the law BookInsured.
-/
import Derived.Test.YtkmhldjebopljaaFacts
import Derived.SevenTiedAt
namespace Go.Proofs.Ytkmhldjebopljaa.bookInsured
open Go
theorem k0 : Rows.bookInsuredRow.wf (OpenSpec.ofChange Rows.bookInsuredSpec) = true := by kernel_rfl
theorem k3 : Try.f13.params.all (Try.prog.readableRec ·) = true := by kernel_rfl
theorem k4 : namedTie Try.prog Rows.bookInsuredRow.named Rows.bookInsuredSpec.vars = true := by kernel_rfl
theorem k9 : (Rows.bookInsuredRow.inPlace == Try.prog.inPlace 13) = true := by kernel_rfl
theorem k10 : (Rows.bookInsuredRow.unfollowed == Try.prog.unfollowed 13) = true := by kernel_rfl
theorem k11 : (Rows.bookInsuredRow.recurses == Try.prog.recurses 13) = true := by kernel_rfl
theorem k12 : (Rows.bookInsuredRow.named == Try.prog.varsNamed 13) = true := by kernel_rfl
theorem k13 : (Rows.bookInsuredRow.maps == (Try.f13.params.toList ++ Rows.bookInsuredSpec.plain.varTypes Try.prog).any (Try.prog.mapsRec ·)) = true := by kernel_rfl
theorem k14 : (Rows.bookInsuredRow.ifaces == (Try.f13.params.toList ++ Rows.bookInsuredSpec.plain.varTypes Try.prog).any (Try.prog.ifacesRec ·)) = true := by kernel_rfl
theorem k15 : (Rows.bookInsuredRow.mapsOut == Try.prog.mapsAmong Try.f13.resultTypes.toList) = true := by kernel_rfl
theorem k16 : (Rows.bookInsuredRow.loops == (Try.f13.params.toList ++ Rows.bookInsuredSpec.plain.varTypes Try.prog).any (Try.prog.loopsFrom ·)) = true := by kernel_rfl
theorem k17 : (Rows.bookInsuredRow.wideKeys == (Try.f13.params.toList ++ Rows.bookInsuredSpec.plain.varTypes Try.prog ++ Try.f13.resultTypes.toList).any (Try.prog.wideKeysFrom ·)) = true := by kernel_rfl
theorem k18 : Rows.bookInsuredSpec.vars.all (Try.prog.varReadable ·) = true := by kernel_rfl
theorem k20 : (Rows.bookInsuredRow.ifacesOut == Try.f13.resultTypes.toList.any (Try.prog.ifacesRec ·)) = true := by kernel_rfl
theorem k21 : (Rows.bookInsuredRow.loopsOut == Try.f13.resultTypes.toList.any (Try.prog.loopsFrom ·)) = true := by kernel_rfl
theorem k30 : (Rows.bookInsuredRow.veiled == (Try.f13.params.toList ++ Rows.bookInsuredSpec.plain.varTypes Try.prog ++ Try.f13.resultTypes.toList).any (Try.prog.veiledRec ·)) = true := by kernel_rfl
theorem k31 : Rows.bookInsuredRow.veiledFits Try.prog Try.f13.params.toList (Try.f13.params.toList ++ Rows.bookInsuredSpec.plain.varTypes Try.prog ++ Try.f13.resultTypes.toList) = true := by kernel_rfl
theorem closed : joinedFacts Try.prog 13 Try.f13 Rows.bookInsuredSpec Rows.bookInsuredRow = true :=
  facts.mk k0 facts.p1 facts.p2 k3 k4 rfl facts.p6 rfl facts.p8 k9 k10 k11 k12 k13 k14 k15 k16 k17 k18 facts.p19 k20 k21 facts.p22 rfl facts.p24 facts.p25 facts.p26 facts.p27 rfl rfl k30 k31
theorem notInit : Try.prog.inits.idxOf? 13 = none := by kernel_rfl
theorem named : Try.prog.funcNamed "bitepoint/bitepointlaw05.BookInsured" = some 13 := by kernel_rfl
theorem instance_ : Try.f13.isInstance Try.prog Rows.bookInsuredRow.origin Rows.bookInsuredRow.targs := of_decide_eq_true (by kernel_rfl)
theorem wrap : Try.f13.isWrapper Try.prog Rows.bookInsuredRow.wrapper Rows.bookInsuredRow.mainSum := by unfold Func.isWrapper; first | (rw [if_pos (by decide +kernel)]; kernel_rfl) | (rw [if_neg (by decide +kernel)]; exact ⟨rfl, rfl⟩)
end Go.Proofs.Ytkmhldjebopljaa.bookInsured
