/-
  The closed facts of the row of the law ClassCompared.
-/
import Derived.Test.YtjfdfhnfcpfmcaaGreatDoorFacts
import Derived.SevenTiedAt
namespace Go.Proofs.YtjfdfhnfcpfmcaaGreatDoor.classCompared
open Go
theorem k0 : Rows.classComparedRow.wf (OpenSpec.ofChange Rows.classComparedSpec) = true := by kernel_rfl
theorem k3 : Tryz.f15.params.all (Tryz.prog.readableRec ·) = true := by kernel_rfl
theorem k4 : namedTie Tryz.prog Rows.classComparedRow.named Rows.classComparedSpec.vars = true := by kernel_rfl
theorem k9 : (Rows.classComparedRow.inPlace == Tryz.prog.inPlace 15) = true := by kernel_rfl
theorem k10 : (Rows.classComparedRow.unfollowed == Tryz.prog.unfollowed 15) = true := by kernel_rfl
theorem k11 : (Rows.classComparedRow.recurses == Tryz.prog.recurses 15) = true := by kernel_rfl
theorem k12 : (Rows.classComparedRow.named == Tryz.prog.varsNamed 15) = true := by kernel_rfl
theorem k13 : (Rows.classComparedRow.maps == (Tryz.f15.params.toList ++ Rows.classComparedSpec.plain.varTypes Tryz.prog).any (Tryz.prog.mapsRec ·)) = true := by kernel_rfl
theorem k14 : (Rows.classComparedRow.ifaces == (Tryz.f15.params.toList ++ Rows.classComparedSpec.plain.varTypes Tryz.prog).any (Tryz.prog.ifacesRec ·)) = true := by kernel_rfl
theorem k15 : (Rows.classComparedRow.mapsOut == Tryz.prog.mapsAmong Tryz.f15.resultTypes.toList) = true := by kernel_rfl
theorem k16 : (Rows.classComparedRow.loops == (Tryz.f15.params.toList ++ Rows.classComparedSpec.plain.varTypes Tryz.prog).any (Tryz.prog.loopsFrom ·)) = true := by kernel_rfl
theorem k17 : (Rows.classComparedRow.wideKeys == (Tryz.f15.params.toList ++ Rows.classComparedSpec.plain.varTypes Tryz.prog ++ Tryz.f15.resultTypes.toList).any (Tryz.prog.wideKeysFrom ·)) = true := by kernel_rfl
theorem k18 : Rows.classComparedSpec.vars.all (Tryz.prog.varReadable ·) = true := by kernel_rfl
theorem k20 : (Rows.classComparedRow.ifacesOut == Tryz.f15.resultTypes.toList.any (Tryz.prog.ifacesRec ·)) = true := by kernel_rfl
theorem k21 : (Rows.classComparedRow.loopsOut == Tryz.f15.resultTypes.toList.any (Tryz.prog.loopsFrom ·)) = true := by kernel_rfl
theorem k30 : (Rows.classComparedRow.veiled == (Tryz.f15.params.toList ++ Rows.classComparedSpec.plain.varTypes Tryz.prog ++ Tryz.f15.resultTypes.toList).any (Tryz.prog.veiledRec ·)) = true := by kernel_rfl
theorem k31 : Rows.classComparedRow.veiledFits Tryz.prog Tryz.f15.params.toList (Tryz.f15.params.toList ++ Rows.classComparedSpec.plain.varTypes Tryz.prog ++ Tryz.f15.resultTypes.toList) = true := by kernel_rfl
theorem closed : joinedFacts Tryz.prog 15 Tryz.f15 Rows.classComparedSpec Rows.classComparedRow = true :=
  facts.mk k0 facts.p1 facts.p2 k3 k4 rfl facts.p6 rfl facts.p8 k9 k10 k11 k12 k13 k14 k15 k16 k17 k18 facts.p19 k20 k21 facts.p22 rfl facts.p24 facts.p25 facts.p26 facts.p27 rfl rfl k30 k31
theorem notInit : Tryz.prog.inits.idxOf? 15 = none := by kernel_rfl
theorem named : Tryz.prog.funcNamed "bitepoint/bitepointlaw01.ClassCompared" = some 15 := by kernel_rfl
theorem instance_ : Tryz.f15.isInstance Tryz.prog Rows.classComparedRow.origin Rows.classComparedRow.targs := of_decide_eq_true (by kernel_rfl)
theorem wrap : Tryz.f15.isWrapper Tryz.prog Rows.classComparedRow.wrapper Rows.classComparedRow.mainSum := by unfold Func.isWrapper; first | (rw [if_pos (by decide +kernel)]; kernel_rfl) | (rw [if_neg (by decide +kernel)]; exact ⟨rfl, rfl⟩)
theorem noStand : Tryz.f15.params.toList.all (fun t => !Tryz.prog.wantsStandIn t) = true := by kernel_rfl
theorem looks0 : false = Tryz.prog.looks [] := by kernel_rfl
end Go.Proofs.YtjfdfhnfcpfmcaaGreatDoor.classCompared
