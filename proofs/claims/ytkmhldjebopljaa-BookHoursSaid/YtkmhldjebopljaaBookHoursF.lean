/-
  The closed facts of the row of the law BookHours.
-/
import Derived.Test.YtkmhldjebopljaaFacts
import Derived.SevenTiedAt
namespace Go.Proofs.Ytkmhldjebopljaa.bookHours
open Go
theorem k0 : Rows.bookHoursRow.wf (OpenSpec.ofChange Rows.bookHoursSpec) = true := by kernel_rfl
theorem k3 : Try.f8.params.all (Try.prog.readableRec ·) = true := by kernel_rfl
theorem k4 : namedTie Try.prog Rows.bookHoursRow.named Rows.bookHoursSpec.vars = true := by kernel_rfl
theorem k9 : (Rows.bookHoursRow.inPlace == Try.prog.inPlace 8) = true := by kernel_rfl
theorem k10 : (Rows.bookHoursRow.unfollowed == Try.prog.unfollowed 8) = true := by kernel_rfl
theorem k11 : (Rows.bookHoursRow.recurses == Try.prog.recurses 8) = true := by kernel_rfl
theorem k12 : (Rows.bookHoursRow.named == Try.prog.varsNamed 8) = true := by kernel_rfl
theorem k13 : (Rows.bookHoursRow.maps == (Try.f8.params.toList ++ Rows.bookHoursSpec.plain.varTypes Try.prog).any (Try.prog.mapsRec ·)) = true := by kernel_rfl
theorem k14 : (Rows.bookHoursRow.ifaces == (Try.f8.params.toList ++ Rows.bookHoursSpec.plain.varTypes Try.prog).any (Try.prog.ifacesRec ·)) = true := by kernel_rfl
theorem k15 : (Rows.bookHoursRow.mapsOut == Try.prog.mapsAmong Try.f8.resultTypes.toList) = true := by kernel_rfl
theorem k16 : (Rows.bookHoursRow.loops == (Try.f8.params.toList ++ Rows.bookHoursSpec.plain.varTypes Try.prog).any (Try.prog.loopsFrom ·)) = true := by kernel_rfl
theorem k17 : (Rows.bookHoursRow.wideKeys == (Try.f8.params.toList ++ Rows.bookHoursSpec.plain.varTypes Try.prog ++ Try.f8.resultTypes.toList).any (Try.prog.wideKeysFrom ·)) = true := by kernel_rfl
theorem k18 : Rows.bookHoursSpec.vars.all (Try.prog.varReadable ·) = true := by kernel_rfl
theorem k20 : (Rows.bookHoursRow.ifacesOut == Try.f8.resultTypes.toList.any (Try.prog.ifacesRec ·)) = true := by kernel_rfl
theorem k21 : (Rows.bookHoursRow.loopsOut == Try.f8.resultTypes.toList.any (Try.prog.loopsFrom ·)) = true := by kernel_rfl
theorem k30 : (Rows.bookHoursRow.veiled == (Try.f8.params.toList ++ Rows.bookHoursSpec.plain.varTypes Try.prog ++ Try.f8.resultTypes.toList).any (Try.prog.veiledRec ·)) = true := by kernel_rfl
theorem k31 : Rows.bookHoursRow.veiledFits Try.prog Try.f8.params.toList (Try.f8.params.toList ++ Rows.bookHoursSpec.plain.varTypes Try.prog ++ Try.f8.resultTypes.toList) = true := by kernel_rfl
theorem closed : joinedFacts Try.prog 8 Try.f8 Rows.bookHoursSpec Rows.bookHoursRow = true :=
  facts.mk k0 facts.p1 facts.p2 k3 k4 rfl facts.p6 rfl facts.p8 k9 k10 k11 k12 k13 k14 k15 k16 k17 k18 facts.p19 k20 k21 facts.p22 rfl facts.p24 facts.p25 facts.p26 facts.p27 rfl rfl k30 k31
theorem notInit : Try.prog.inits.idxOf? 8 = none := by kernel_rfl
theorem named : Try.prog.funcNamed "bitepoint/bitepointlaw05.BookHours" = some 8 := by kernel_rfl
theorem instance_ : Try.f8.isInstance Try.prog Rows.bookHoursRow.origin Rows.bookHoursRow.targs := of_decide_eq_true (by kernel_rfl)
theorem wrap : Try.f8.isWrapper Try.prog Rows.bookHoursRow.wrapper Rows.bookHoursRow.mainSum := by unfold Func.isWrapper; first | (rw [if_pos (by decide +kernel)]; kernel_rfl) | (rw [if_neg (by decide +kernel)]; exact ⟨rfl, rfl⟩)
end Go.Proofs.Ytkmhldjebopljaa.bookHours
