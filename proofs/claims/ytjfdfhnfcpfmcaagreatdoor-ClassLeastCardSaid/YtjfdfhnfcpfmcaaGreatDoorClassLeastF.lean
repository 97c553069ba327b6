/-
  The closed facts of the row of the law ClassLeast.
-/
import Derived.Test.YtjfdfhnfcpfmcaaGreatDoorFacts
import Derived.SevenTiedAt
namespace Go.Proofs.YtjfdfhnfcpfmcaaGreatDoor.classLeast
open Go
theorem k0 : Rows.classLeastRow.wf (OpenSpec.ofChange Rows.classLeastSpec) = true := by kernel_rfl
theorem k3 : Tryz.f11.params.all (Tryz.prog.readableRec ·) = true := by kernel_rfl
theorem k4 : namedTie Tryz.prog Rows.classLeastRow.named Rows.classLeastSpec.vars = true := by kernel_rfl
theorem k9 : (Rows.classLeastRow.inPlace == Tryz.prog.inPlace 11) = true := by kernel_rfl
theorem k10 : (Rows.classLeastRow.unfollowed == Tryz.prog.unfollowed 11) = true := by kernel_rfl
theorem k11 : (Rows.classLeastRow.recurses == Tryz.prog.recurses 11) = true := by kernel_rfl
theorem k12 : (Rows.classLeastRow.named == Tryz.prog.varsNamed 11) = true := by kernel_rfl
theorem k13 : (Rows.classLeastRow.maps == (Tryz.f11.params.toList ++ Rows.classLeastSpec.plain.varTypes Tryz.prog).any (Tryz.prog.mapsRec ·)) = true := by kernel_rfl
theorem k14 : (Rows.classLeastRow.ifaces == (Tryz.f11.params.toList ++ Rows.classLeastSpec.plain.varTypes Tryz.prog).any (Tryz.prog.ifacesRec ·)) = true := by kernel_rfl
theorem k15 : (Rows.classLeastRow.mapsOut == Tryz.prog.mapsAmong Tryz.f11.resultTypes.toList) = true := by kernel_rfl
theorem k16 : (Rows.classLeastRow.loops == (Tryz.f11.params.toList ++ Rows.classLeastSpec.plain.varTypes Tryz.prog).any (Tryz.prog.loopsFrom ·)) = true := by kernel_rfl
theorem k17 : (Rows.classLeastRow.wideKeys == (Tryz.f11.params.toList ++ Rows.classLeastSpec.plain.varTypes Tryz.prog ++ Tryz.f11.resultTypes.toList).any (Tryz.prog.wideKeysFrom ·)) = true := by kernel_rfl
theorem k18 : Rows.classLeastSpec.vars.all (Tryz.prog.varReadable ·) = true := by kernel_rfl
theorem k20 : (Rows.classLeastRow.ifacesOut == Tryz.f11.resultTypes.toList.any (Tryz.prog.ifacesRec ·)) = true := by kernel_rfl
theorem k21 : (Rows.classLeastRow.loopsOut == Tryz.f11.resultTypes.toList.any (Tryz.prog.loopsFrom ·)) = true := by kernel_rfl
theorem k30 : (Rows.classLeastRow.veiled == (Tryz.f11.params.toList ++ Rows.classLeastSpec.plain.varTypes Tryz.prog ++ Tryz.f11.resultTypes.toList).any (Tryz.prog.veiledRec ·)) = true := by kernel_rfl
theorem k31 : Rows.classLeastRow.veiledFits Tryz.prog Tryz.f11.params.toList (Tryz.f11.params.toList ++ Rows.classLeastSpec.plain.varTypes Tryz.prog ++ Tryz.f11.resultTypes.toList) = true := by kernel_rfl
theorem closed : joinedFacts Tryz.prog 11 Tryz.f11 Rows.classLeastSpec Rows.classLeastRow = true :=
  facts.mk k0 facts.p1 facts.p2 k3 k4 rfl facts.p6 rfl facts.p8 k9 k10 k11 k12 k13 k14 k15 k16 k17 k18 facts.p19 k20 k21 facts.p22 rfl facts.p24 facts.p25 facts.p26 facts.p27 rfl rfl k30 k31
theorem notInit : Tryz.prog.inits.idxOf? 11 = none := by kernel_rfl
theorem named : Tryz.prog.funcNamed "bitepoint/bitepointlaw01.ClassLeast" = some 11 := by kernel_rfl
theorem instance_ : Tryz.f11.isInstance Tryz.prog Rows.classLeastRow.origin Rows.classLeastRow.targs := of_decide_eq_true (by kernel_rfl)
theorem wrap : Tryz.f11.isWrapper Tryz.prog Rows.classLeastRow.wrapper Rows.classLeastRow.mainSum := by unfold Func.isWrapper; first | (rw [if_pos (by decide +kernel)]; kernel_rfl) | (rw [if_neg (by decide +kernel)]; exact ⟨rfl, rfl⟩)
theorem noStand : Tryz.f11.params.toList.all (fun t => !Tryz.prog.wantsStandIn t) = true := by kernel_rfl
theorem looks0 : false = Tryz.prog.looks [] := by kernel_rfl
end Go.Proofs.YtjfdfhnfcpfmcaaGreatDoor.classLeast
