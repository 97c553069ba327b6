/-
  The closed facts of the row of the law ClassSame.
-/
import Derived.Test.YtjfdfhnfcpfmcaaGreatDoorFacts
import Derived.SevenTiedAt
namespace Go.Proofs.YtjfdfhnfcpfmcaaGreatDoor.classSame
open Go
theorem k0 : Rows.classSameRow.wf (OpenSpec.ofChange Rows.classSameSpec) = true := by kernel_rfl
theorem k3 : Tryz.f12.params.all (Tryz.prog.readableRec ·) = true := by kernel_rfl
theorem k4 : namedTie Tryz.prog Rows.classSameRow.named Rows.classSameSpec.vars = true := by kernel_rfl
theorem k9 : (Rows.classSameRow.inPlace == Tryz.prog.inPlace 12) = true := by kernel_rfl
theorem k10 : (Rows.classSameRow.unfollowed == Tryz.prog.unfollowed 12) = true := by kernel_rfl
theorem k11 : (Rows.classSameRow.recurses == Tryz.prog.recurses 12) = true := by kernel_rfl
theorem k12 : (Rows.classSameRow.named == Tryz.prog.varsNamed 12) = true := by kernel_rfl
theorem k13 : (Rows.classSameRow.maps == (Tryz.f12.params.toList ++ Rows.classSameSpec.plain.varTypes Tryz.prog).any (Tryz.prog.mapsRec ·)) = true := by kernel_rfl
theorem k14 : (Rows.classSameRow.ifaces == (Tryz.f12.params.toList ++ Rows.classSameSpec.plain.varTypes Tryz.prog).any (Tryz.prog.ifacesRec ·)) = true := by kernel_rfl
theorem k15 : (Rows.classSameRow.mapsOut == Tryz.prog.mapsAmong Tryz.f12.resultTypes.toList) = true := by kernel_rfl
theorem k16 : (Rows.classSameRow.loops == (Tryz.f12.params.toList ++ Rows.classSameSpec.plain.varTypes Tryz.prog).any (Tryz.prog.loopsFrom ·)) = true := by kernel_rfl
theorem k17 : (Rows.classSameRow.wideKeys == (Tryz.f12.params.toList ++ Rows.classSameSpec.plain.varTypes Tryz.prog ++ Tryz.f12.resultTypes.toList).any (Tryz.prog.wideKeysFrom ·)) = true := by kernel_rfl
theorem k18 : Rows.classSameSpec.vars.all (Tryz.prog.varReadable ·) = true := by kernel_rfl
theorem k20 : (Rows.classSameRow.ifacesOut == Tryz.f12.resultTypes.toList.any (Tryz.prog.ifacesRec ·)) = true := by kernel_rfl
theorem k21 : (Rows.classSameRow.loopsOut == Tryz.f12.resultTypes.toList.any (Tryz.prog.loopsFrom ·)) = true := by kernel_rfl
theorem k30 : (Rows.classSameRow.veiled == (Tryz.f12.params.toList ++ Rows.classSameSpec.plain.varTypes Tryz.prog ++ Tryz.f12.resultTypes.toList).any (Tryz.prog.veiledRec ·)) = true := by kernel_rfl
theorem k31 : Rows.classSameRow.veiledFits Tryz.prog Tryz.f12.params.toList (Tryz.f12.params.toList ++ Rows.classSameSpec.plain.varTypes Tryz.prog ++ Tryz.f12.resultTypes.toList) = true := by kernel_rfl
theorem closed : joinedFacts Tryz.prog 12 Tryz.f12 Rows.classSameSpec Rows.classSameRow = true :=
  facts.mk k0 facts.p1 facts.p2 k3 k4 rfl facts.p6 rfl facts.p8 k9 k10 k11 k12 k13 k14 k15 k16 k17 k18 facts.p19 k20 k21 facts.p22 rfl facts.p24 facts.p25 facts.p26 facts.p27 rfl rfl k30 k31
theorem notInit : Tryz.prog.inits.idxOf? 12 = none := by kernel_rfl
theorem named : Tryz.prog.funcNamed "bitepoint/bitepointlaw01.ClassSame" = some 12 := by kernel_rfl
theorem instance_ : Tryz.f12.isInstance Tryz.prog Rows.classSameRow.origin Rows.classSameRow.targs := of_decide_eq_true (by kernel_rfl)
theorem wrap : Tryz.f12.isWrapper Tryz.prog Rows.classSameRow.wrapper Rows.classSameRow.mainSum := by unfold Func.isWrapper; first | (rw [if_pos (by decide +kernel)]; kernel_rfl) | (rw [if_neg (by decide +kernel)]; exact ⟨rfl, rfl⟩)
theorem noStand : Tryz.f12.params.toList.all (fun t => !Tryz.prog.wantsStandIn t) = true := by kernel_rfl
theorem looks0 : false = Tryz.prog.looks [] := by kernel_rfl
end Go.Proofs.YtjfdfhnfcpfmcaaGreatDoor.classSame
