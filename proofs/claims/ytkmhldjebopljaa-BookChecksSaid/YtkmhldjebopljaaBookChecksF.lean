/-
  The closed facts of the row of the law BookChecks.
-/
import Derived.Test.YtkmhldjebopljaaFacts
import Derived.SevenTiedAt
namespace Go.Proofs.Ytkmhldjebopljaa.bookChecks
open Go
theorem k0 : Rows.bookChecksRow.wf (OpenSpec.ofChange Rows.bookChecksSpec) = true := by kernel_rfl
theorem k3 : Try.f3.params.all (Try.prog.readableRec ·) = true := by kernel_rfl
theorem k4 : namedTie Try.prog Rows.bookChecksRow.named Rows.bookChecksSpec.vars = true := by kernel_rfl
theorem k9 : (Rows.bookChecksRow.inPlace == Try.prog.inPlace 3) = true := by kernel_rfl
theorem k10 : (Rows.bookChecksRow.unfollowed == Try.prog.unfollowed 3) = true := by kernel_rfl
theorem k11 : (Rows.bookChecksRow.recurses == Try.prog.recurses 3) = true := by kernel_rfl
theorem k12 : (Rows.bookChecksRow.named == Try.prog.varsNamed 3) = true := by kernel_rfl
theorem k13 : (Rows.bookChecksRow.maps == (Try.f3.params.toList ++ Rows.bookChecksSpec.plain.varTypes Try.prog).any (Try.prog.mapsRec ·)) = true := by kernel_rfl
theorem k14 : (Rows.bookChecksRow.ifaces == (Try.f3.params.toList ++ Rows.bookChecksSpec.plain.varTypes Try.prog).any (Try.prog.ifacesRec ·)) = true := by kernel_rfl
theorem k15 : (Rows.bookChecksRow.mapsOut == Try.prog.mapsAmong Try.f3.resultTypes.toList) = true := by kernel_rfl
theorem k16 : (Rows.bookChecksRow.loops == (Try.f3.params.toList ++ Rows.bookChecksSpec.plain.varTypes Try.prog).any (Try.prog.loopsFrom ·)) = true := by kernel_rfl
theorem k17 : (Rows.bookChecksRow.wideKeys == (Try.f3.params.toList ++ Rows.bookChecksSpec.plain.varTypes Try.prog ++ Try.f3.resultTypes.toList).any (Try.prog.wideKeysFrom ·)) = true := by kernel_rfl
theorem k18 : Rows.bookChecksSpec.vars.all (Try.prog.varReadable ·) = true := by kernel_rfl
theorem k20 : (Rows.bookChecksRow.ifacesOut == Try.f3.resultTypes.toList.any (Try.prog.ifacesRec ·)) = true := by kernel_rfl
theorem k21 : (Rows.bookChecksRow.loopsOut == Try.f3.resultTypes.toList.any (Try.prog.loopsFrom ·)) = true := by kernel_rfl
theorem k30 : (Rows.bookChecksRow.veiled == (Try.f3.params.toList ++ Rows.bookChecksSpec.plain.varTypes Try.prog ++ Try.f3.resultTypes.toList).any (Try.prog.veiledRec ·)) = true := by kernel_rfl
theorem k31 : Rows.bookChecksRow.veiledFits Try.prog Try.f3.params.toList (Try.f3.params.toList ++ Rows.bookChecksSpec.plain.varTypes Try.prog ++ Try.f3.resultTypes.toList) = true := by kernel_rfl
theorem closed : joinedFacts Try.prog 3 Try.f3 Rows.bookChecksSpec Rows.bookChecksRow = true :=
  facts.mk k0 facts.p1 facts.p2 k3 k4 rfl facts.p6 rfl facts.p8 k9 k10 k11 k12 k13 k14 k15 k16 k17 k18 facts.p19 k20 k21 facts.p22 rfl facts.p24 facts.p25 facts.p26 facts.p27 rfl rfl k30 k31
theorem notInit : Try.prog.inits.idxOf? 3 = none := by kernel_rfl
theorem named : Try.prog.funcNamed "bitepoint/bitepointlaw05.BookChecks" = some 3 := by kernel_rfl
theorem instance_ : Try.f3.isInstance Try.prog Rows.bookChecksRow.origin Rows.bookChecksRow.targs := of_decide_eq_true (by kernel_rfl)
theorem wrap : Try.f3.isWrapper Try.prog Rows.bookChecksRow.wrapper Rows.bookChecksRow.mainSum := by unfold Func.isWrapper; first | (rw [if_pos (by decide +kernel)]; kernel_rfl) | (rw [if_neg (by decide +kernel)]; exact ⟨rfl, rfl⟩)
end Go.Proofs.Ytkmhldjebopljaa.bookChecks
