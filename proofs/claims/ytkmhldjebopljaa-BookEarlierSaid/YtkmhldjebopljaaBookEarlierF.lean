/-
  The closed facts of the row of the law BookEarlier.
-/
import Derived.Test.YtkmhldjebopljaaFacts
import Derived.SevenTiedAt
namespace Go.Proofs.Ytkmhldjebopljaa.bookEarlier
open Go
theorem k0 : Rows.bookEarlierRow.wf (OpenSpec.ofChange Rows.bookEarlierSpec) = true := by kernel_rfl
theorem k3 : Try.f12.params.all (Try.prog.readableRec ·) = true := by kernel_rfl
theorem k4 : namedTie Try.prog Rows.bookEarlierRow.named Rows.bookEarlierSpec.vars = true := by kernel_rfl
theorem k9 : (Rows.bookEarlierRow.inPlace == Try.prog.inPlace 12) = true := by kernel_rfl
theorem k10 : (Rows.bookEarlierRow.unfollowed == Try.prog.unfollowed 12) = true := by kernel_rfl
theorem k11 : (Rows.bookEarlierRow.recurses == Try.prog.recurses 12) = true := by kernel_rfl
theorem k12 : (Rows.bookEarlierRow.named == Try.prog.varsNamed 12) = true := by kernel_rfl
theorem k13 : (Rows.bookEarlierRow.maps == (Try.f12.params.toList ++ Rows.bookEarlierSpec.plain.varTypes Try.prog).any (Try.prog.mapsRec ·)) = true := by kernel_rfl
theorem k14 : (Rows.bookEarlierRow.ifaces == (Try.f12.params.toList ++ Rows.bookEarlierSpec.plain.varTypes Try.prog).any (Try.prog.ifacesRec ·)) = true := by kernel_rfl
theorem k15 : (Rows.bookEarlierRow.mapsOut == Try.prog.mapsAmong Try.f12.resultTypes.toList) = true := by kernel_rfl
theorem k16 : (Rows.bookEarlierRow.loops == (Try.f12.params.toList ++ Rows.bookEarlierSpec.plain.varTypes Try.prog).any (Try.prog.loopsFrom ·)) = true := by kernel_rfl
theorem k17 : (Rows.bookEarlierRow.wideKeys == (Try.f12.params.toList ++ Rows.bookEarlierSpec.plain.varTypes Try.prog ++ Try.f12.resultTypes.toList).any (Try.prog.wideKeysFrom ·)) = true := by kernel_rfl
theorem k18 : Rows.bookEarlierSpec.vars.all (Try.prog.varReadable ·) = true := by kernel_rfl
theorem k20 : (Rows.bookEarlierRow.ifacesOut == Try.f12.resultTypes.toList.any (Try.prog.ifacesRec ·)) = true := by kernel_rfl
theorem k21 : (Rows.bookEarlierRow.loopsOut == Try.f12.resultTypes.toList.any (Try.prog.loopsFrom ·)) = true := by kernel_rfl
theorem k30 : (Rows.bookEarlierRow.veiled == (Try.f12.params.toList ++ Rows.bookEarlierSpec.plain.varTypes Try.prog ++ Try.f12.resultTypes.toList).any (Try.prog.veiledRec ·)) = true := by kernel_rfl
theorem k31 : Rows.bookEarlierRow.veiledFits Try.prog Try.f12.params.toList (Try.f12.params.toList ++ Rows.bookEarlierSpec.plain.varTypes Try.prog ++ Try.f12.resultTypes.toList) = true := by kernel_rfl
theorem closed : joinedFacts Try.prog 12 Try.f12 Rows.bookEarlierSpec Rows.bookEarlierRow = true :=
  facts.mk k0 facts.p1 facts.p2 k3 k4 rfl facts.p6 rfl facts.p8 k9 k10 k11 k12 k13 k14 k15 k16 k17 k18 facts.p19 k20 k21 facts.p22 rfl facts.p24 facts.p25 facts.p26 facts.p27 rfl rfl k30 k31
theorem notInit : Try.prog.inits.idxOf? 12 = none := by kernel_rfl
theorem named : Try.prog.funcNamed "bitepoint/bitepointlaw05.BookEarlier" = some 12 := by kernel_rfl
theorem instance_ : Try.f12.isInstance Try.prog Rows.bookEarlierRow.origin Rows.bookEarlierRow.targs := of_decide_eq_true (by kernel_rfl)
theorem wrap : Try.f12.isWrapper Try.prog Rows.bookEarlierRow.wrapper Rows.bookEarlierRow.mainSum := by unfold Func.isWrapper; first | (rw [if_pos (by decide +kernel)]; kernel_rfl) | (rw [if_neg (by decide +kernel)]; exact ⟨rfl, rfl⟩)
end Go.Proofs.Ytkmhldjebopljaa.bookEarlier
