/-
  The closed facts of the row of the law ClassAges.
-/
import Derived.Test.YtjfdfhnfcpfmcaaGreatDoorFacts
import Derived.SevenTiedAt
namespace Go.Proofs.YtjfdfhnfcpfmcaaGreatDoor.classAges
open Go
theorem k0 : Rows.classAgesRow.wf (OpenSpec.ofChange Rows.classAgesSpec) = true := by kernel_rfl
theorem k3 : Tryz.f10.params.all (Tryz.prog.readableRec ·) = true := by kernel_rfl
theorem k4 : namedTie Tryz.prog Rows.classAgesRow.named Rows.classAgesSpec.vars = true := by kernel_rfl
theorem k9 : (Rows.classAgesRow.inPlace == Tryz.prog.inPlace 10) = true := by kernel_rfl
theorem k10 : (Rows.classAgesRow.unfollowed == Tryz.prog.unfollowed 10) = true := by kernel_rfl
theorem k11 : (Rows.classAgesRow.recurses == Tryz.prog.recurses 10) = true := by kernel_rfl
theorem k12 : (Rows.classAgesRow.named == Tryz.prog.varsNamed 10) = true := by kernel_rfl
theorem k13 : (Rows.classAgesRow.maps == (Tryz.f10.params.toList ++ Rows.classAgesSpec.plain.varTypes Tryz.prog).any (Tryz.prog.mapsRec ·)) = true := by kernel_rfl
theorem k14 : (Rows.classAgesRow.ifaces == (Tryz.f10.params.toList ++ Rows.classAgesSpec.plain.varTypes Tryz.prog).any (Tryz.prog.ifacesRec ·)) = true := by kernel_rfl
theorem k15 : (Rows.classAgesRow.mapsOut == Tryz.prog.mapsAmong Tryz.f10.resultTypes.toList) = true := by kernel_rfl
theorem k16 : (Rows.classAgesRow.loops == (Tryz.f10.params.toList ++ Rows.classAgesSpec.plain.varTypes Tryz.prog).any (Tryz.prog.loopsFrom ·)) = true := by kernel_rfl
theorem k17 : (Rows.classAgesRow.wideKeys == (Tryz.f10.params.toList ++ Rows.classAgesSpec.plain.varTypes Tryz.prog ++ Tryz.f10.resultTypes.toList).any (Tryz.prog.wideKeysFrom ·)) = true := by kernel_rfl
theorem k18 : Rows.classAgesSpec.vars.all (Tryz.prog.varReadable ·) = true := by kernel_rfl
theorem k20 : (Rows.classAgesRow.ifacesOut == Tryz.f10.resultTypes.toList.any (Tryz.prog.ifacesRec ·)) = true := by kernel_rfl
theorem k21 : (Rows.classAgesRow.loopsOut == Tryz.f10.resultTypes.toList.any (Tryz.prog.loopsFrom ·)) = true := by kernel_rfl
theorem k30 : (Rows.classAgesRow.veiled == (Tryz.f10.params.toList ++ Rows.classAgesSpec.plain.varTypes Tryz.prog ++ Tryz.f10.resultTypes.toList).any (Tryz.prog.veiledRec ·)) = true := by kernel_rfl
theorem k31 : Rows.classAgesRow.veiledFits Tryz.prog Tryz.f10.params.toList (Tryz.f10.params.toList ++ Rows.classAgesSpec.plain.varTypes Tryz.prog ++ Tryz.f10.resultTypes.toList) = true := by kernel_rfl
theorem closed : joinedFacts Tryz.prog 10 Tryz.f10 Rows.classAgesSpec Rows.classAgesRow = true :=
  facts.mk k0 facts.p1 facts.p2 k3 k4 rfl facts.p6 rfl facts.p8 k9 k10 k11 k12 k13 k14 k15 k16 k17 k18 facts.p19 k20 k21 facts.p22 rfl facts.p24 facts.p25 facts.p26 facts.p27 rfl rfl k30 k31
theorem notInit : Tryz.prog.inits.idxOf? 10 = none := by kernel_rfl
theorem named : Tryz.prog.funcNamed "bitepoint/bitepointlaw01.ClassAges" = some 10 := by kernel_rfl
theorem instance_ : Tryz.f10.isInstance Tryz.prog Rows.classAgesRow.origin Rows.classAgesRow.targs := of_decide_eq_true (by kernel_rfl)
theorem wrap : Tryz.f10.isWrapper Tryz.prog Rows.classAgesRow.wrapper Rows.classAgesRow.mainSum := by unfold Func.isWrapper; first | (rw [if_pos (by decide +kernel)]; kernel_rfl) | (rw [if_neg (by decide +kernel)]; exact ⟨rfl, rfl⟩)
theorem noStand : Tryz.f10.params.toList.all (fun t => !Tryz.prog.wantsStandIn t) = true := by kernel_rfl
theorem looks0 : false = Tryz.prog.looks [] := by kernel_rfl
end Go.Proofs.YtjfdfhnfcpfmcaaGreatDoor.classAges
