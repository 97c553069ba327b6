/-
  The closed facts of the row of the law ClassRound.
-/
import Derived.Test.YtjfdfhnfcpfmcaaGreatDoorFacts
import Derived.SevenTiedAt
namespace Go.Proofs.YtjfdfhnfcpfmcaaGreatDoor.classRound
open Go
theorem k0 : Rows.classRoundRow.wf (OpenSpec.ofChange Rows.classRoundSpec) = true := by kernel_rfl
theorem k3 : Tryz.f17.params.all (Tryz.prog.readableRec ·) = true := by kernel_rfl
theorem k4 : namedTie Tryz.prog Rows.classRoundRow.named Rows.classRoundSpec.vars = true := by kernel_rfl
theorem k9 : (Rows.classRoundRow.inPlace == Tryz.prog.inPlace 17) = true := by kernel_rfl
theorem k10 : (Rows.classRoundRow.unfollowed == Tryz.prog.unfollowed 17) = true := by kernel_rfl
theorem k11 : (Rows.classRoundRow.recurses == Tryz.prog.recurses 17) = true := by kernel_rfl
theorem k12 : (Rows.classRoundRow.named == Tryz.prog.varsNamed 17) = true := by kernel_rfl
theorem k13 : (Rows.classRoundRow.maps == (Tryz.f17.params.toList ++ Rows.classRoundSpec.plain.varTypes Tryz.prog).any (Tryz.prog.mapsRec ·)) = true := by kernel_rfl
theorem k14 : (Rows.classRoundRow.ifaces == (Tryz.f17.params.toList ++ Rows.classRoundSpec.plain.varTypes Tryz.prog).any (Tryz.prog.ifacesRec ·)) = true := by kernel_rfl
theorem k15 : (Rows.classRoundRow.mapsOut == Tryz.prog.mapsAmong Tryz.f17.resultTypes.toList) = true := by kernel_rfl
theorem k16 : (Rows.classRoundRow.loops == (Tryz.f17.params.toList ++ Rows.classRoundSpec.plain.varTypes Tryz.prog).any (Tryz.prog.loopsFrom ·)) = true := by kernel_rfl
theorem k17 : (Rows.classRoundRow.wideKeys == (Tryz.f17.params.toList ++ Rows.classRoundSpec.plain.varTypes Tryz.prog ++ Tryz.f17.resultTypes.toList).any (Tryz.prog.wideKeysFrom ·)) = true := by kernel_rfl
theorem k18 : Rows.classRoundSpec.vars.all (Tryz.prog.varReadable ·) = true := by kernel_rfl
theorem k20 : (Rows.classRoundRow.ifacesOut == Tryz.f17.resultTypes.toList.any (Tryz.prog.ifacesRec ·)) = true := by kernel_rfl
theorem k21 : (Rows.classRoundRow.loopsOut == Tryz.f17.resultTypes.toList.any (Tryz.prog.loopsFrom ·)) = true := by kernel_rfl
theorem k30 : (Rows.classRoundRow.veiled == (Tryz.f17.params.toList ++ Rows.classRoundSpec.plain.varTypes Tryz.prog ++ Tryz.f17.resultTypes.toList).any (Tryz.prog.veiledRec ·)) = true := by kernel_rfl
theorem k31 : Rows.classRoundRow.veiledFits Tryz.prog Tryz.f17.params.toList (Tryz.f17.params.toList ++ Rows.classRoundSpec.plain.varTypes Tryz.prog ++ Tryz.f17.resultTypes.toList) = true := by kernel_rfl
theorem closed : joinedFacts Tryz.prog 17 Tryz.f17 Rows.classRoundSpec Rows.classRoundRow = true :=
  facts.mk k0 facts.p1 facts.p2 k3 k4 rfl facts.p6 rfl facts.p8 k9 k10 k11 k12 k13 k14 k15 k16 k17 k18 facts.p19 k20 k21 facts.p22 rfl facts.p24 facts.p25 facts.p26 facts.p27 rfl rfl k30 k31
theorem notInit : Tryz.prog.inits.idxOf? 17 = none := by kernel_rfl
theorem named : Tryz.prog.funcNamed "bitepoint/bitepointlaw01.ClassRound" = some 17 := by kernel_rfl
theorem instance_ : Tryz.f17.isInstance Tryz.prog Rows.classRoundRow.origin Rows.classRoundRow.targs := of_decide_eq_true (by kernel_rfl)
theorem wrap : Tryz.f17.isWrapper Tryz.prog Rows.classRoundRow.wrapper Rows.classRoundRow.mainSum := by unfold Func.isWrapper; first | (rw [if_pos (by decide +kernel)]; kernel_rfl) | (rw [if_neg (by decide +kernel)]; exact ⟨rfl, rfl⟩)
theorem noStand : Tryz.f17.params.toList.all (fun t => !Tryz.prog.wantsStandIn t) = true := by kernel_rfl
theorem looks0 : false = Tryz.prog.looks [] := by kernel_rfl
end Go.Proofs.YtjfdfhnfcpfmcaaGreatDoor.classRound
