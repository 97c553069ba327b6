/-
  The closed facts of the row of the law BookKm.
-/
import Derived.Test.YtkmhldjebopljaaFacts
import Derived.SevenTiedAt
namespace Go.Proofs.Ytkmhldjebopljaa.bookKm
open Go
theorem k0 : Rows.bookKmRow.wf (OpenSpec.ofChange Rows.bookKmSpec) = true := by kernel_rfl
theorem k3 : Try.f9.params.all (Try.prog.readableRec ·) = true := by kernel_rfl
theorem k4 : namedTie Try.prog Rows.bookKmRow.named Rows.bookKmSpec.vars = true := by kernel_rfl
theorem k9 : (Rows.bookKmRow.inPlace == Try.prog.inPlace 9) = true := by kernel_rfl
theorem k10 : (Rows.bookKmRow.unfollowed == Try.prog.unfollowed 9) = true := by kernel_rfl
theorem k11 : (Rows.bookKmRow.recurses == Try.prog.recurses 9) = true := by kernel_rfl
theorem k12 : (Rows.bookKmRow.named == Try.prog.varsNamed 9) = true := by kernel_rfl
theorem k13 : (Rows.bookKmRow.maps == (Try.f9.params.toList ++ Rows.bookKmSpec.plain.varTypes Try.prog).any (Try.prog.mapsRec ·)) = true := by kernel_rfl
theorem k14 : (Rows.bookKmRow.ifaces == (Try.f9.params.toList ++ Rows.bookKmSpec.plain.varTypes Try.prog).any (Try.prog.ifacesRec ·)) = true := by kernel_rfl
theorem k15 : (Rows.bookKmRow.mapsOut == Try.prog.mapsAmong Try.f9.resultTypes.toList) = true := by kernel_rfl
theorem k16 : (Rows.bookKmRow.loops == (Try.f9.params.toList ++ Rows.bookKmSpec.plain.varTypes Try.prog).any (Try.prog.loopsFrom ·)) = true := by kernel_rfl
theorem k17 : (Rows.bookKmRow.wideKeys == (Try.f9.params.toList ++ Rows.bookKmSpec.plain.varTypes Try.prog ++ Try.f9.resultTypes.toList).any (Try.prog.wideKeysFrom ·)) = true := by kernel_rfl
theorem k18 : Rows.bookKmSpec.vars.all (Try.prog.varReadable ·) = true := by kernel_rfl
theorem k20 : (Rows.bookKmRow.ifacesOut == Try.f9.resultTypes.toList.any (Try.prog.ifacesRec ·)) = true := by kernel_rfl
theorem k21 : (Rows.bookKmRow.loopsOut == Try.f9.resultTypes.toList.any (Try.prog.loopsFrom ·)) = true := by kernel_rfl
theorem k30 : (Rows.bookKmRow.veiled == (Try.f9.params.toList ++ Rows.bookKmSpec.plain.varTypes Try.prog ++ Try.f9.resultTypes.toList).any (Try.prog.veiledRec ·)) = true := by kernel_rfl
theorem k31 : Rows.bookKmRow.veiledFits Try.prog Try.f9.params.toList (Try.f9.params.toList ++ Rows.bookKmSpec.plain.varTypes Try.prog ++ Try.f9.resultTypes.toList) = true := by kernel_rfl
theorem closed : joinedFacts Try.prog 9 Try.f9 Rows.bookKmSpec Rows.bookKmRow = true :=
  facts.mk k0 facts.p1 facts.p2 k3 k4 rfl facts.p6 rfl facts.p8 k9 k10 k11 k12 k13 k14 k15 k16 k17 k18 facts.p19 k20 k21 facts.p22 rfl facts.p24 facts.p25 facts.p26 facts.p27 rfl rfl k30 k31
theorem notInit : Try.prog.inits.idxOf? 9 = none := by kernel_rfl
theorem named : Try.prog.funcNamed "bitepoint/bitepointlaw05.BookKm" = some 9 := by kernel_rfl
theorem instance_ : Try.f9.isInstance Try.prog Rows.bookKmRow.origin Rows.bookKmRow.targs := of_decide_eq_true (by kernel_rfl)
theorem wrap : Try.f9.isWrapper Try.prog Rows.bookKmRow.wrapper Rows.bookKmRow.mainSum := by unfold Func.isWrapper; first | (rw [if_pos (by decide +kernel)]; kernel_rfl) | (rw [if_neg (by decide +kernel)]; exact ⟨rfl, rfl⟩)
end Go.Proofs.Ytkmhldjebopljaa.bookKm
