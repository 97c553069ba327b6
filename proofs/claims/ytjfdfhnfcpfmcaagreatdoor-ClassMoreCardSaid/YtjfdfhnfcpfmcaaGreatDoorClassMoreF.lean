/-
  The closed facts of the row of the law ClassMore.
-/
import Derived.Test.YtjfdfhnfcpfmcaaGreatDoorFacts
import Derived.SevenTiedAt
namespace Go.Proofs.YtjfdfhnfcpfmcaaGreatDoor.classMore
open Go
theorem k0 : Rows.classMoreRow.wf (OpenSpec.ofChange Rows.classMoreSpec) = true := by kernel_rfl
theorem k3 : Tryz.f14.params.all (Tryz.prog.readableRec ·) = true := by kernel_rfl
theorem k4 : namedTie Tryz.prog Rows.classMoreRow.named Rows.classMoreSpec.vars = true := by kernel_rfl
theorem k9 : (Rows.classMoreRow.inPlace == Tryz.prog.inPlace 14) = true := by kernel_rfl
theorem k10 : (Rows.classMoreRow.unfollowed == Tryz.prog.unfollowed 14) = true := by kernel_rfl
theorem k11 : (Rows.classMoreRow.recurses == Tryz.prog.recurses 14) = true := by kernel_rfl
theorem k12 : (Rows.classMoreRow.named == Tryz.prog.varsNamed 14) = true := by kernel_rfl
theorem k13 : (Rows.classMoreRow.maps == (Tryz.f14.params.toList ++ Rows.classMoreSpec.plain.varTypes Tryz.prog).any (Tryz.prog.mapsRec ·)) = true := by kernel_rfl
theorem k14 : (Rows.classMoreRow.ifaces == (Tryz.f14.params.toList ++ Rows.classMoreSpec.plain.varTypes Tryz.prog).any (Tryz.prog.ifacesRec ·)) = true := by kernel_rfl
theorem k15 : (Rows.classMoreRow.mapsOut == Tryz.prog.mapsAmong Tryz.f14.resultTypes.toList) = true := by kernel_rfl
theorem k16 : (Rows.classMoreRow.loops == (Tryz.f14.params.toList ++ Rows.classMoreSpec.plain.varTypes Tryz.prog).any (Tryz.prog.loopsFrom ·)) = true := by kernel_rfl
theorem k17 : (Rows.classMoreRow.wideKeys == (Tryz.f14.params.toList ++ Rows.classMoreSpec.plain.varTypes Tryz.prog ++ Tryz.f14.resultTypes.toList).any (Tryz.prog.wideKeysFrom ·)) = true := by kernel_rfl
theorem k18 : Rows.classMoreSpec.vars.all (Tryz.prog.varReadable ·) = true := by kernel_rfl
theorem k20 : (Rows.classMoreRow.ifacesOut == Tryz.f14.resultTypes.toList.any (Tryz.prog.ifacesRec ·)) = true := by kernel_rfl
theorem k21 : (Rows.classMoreRow.loopsOut == Tryz.f14.resultTypes.toList.any (Tryz.prog.loopsFrom ·)) = true := by kernel_rfl
theorem k30 : (Rows.classMoreRow.veiled == (Tryz.f14.params.toList ++ Rows.classMoreSpec.plain.varTypes Tryz.prog ++ Tryz.f14.resultTypes.toList).any (Tryz.prog.veiledRec ·)) = true := by kernel_rfl
theorem k31 : Rows.classMoreRow.veiledFits Tryz.prog Tryz.f14.params.toList (Tryz.f14.params.toList ++ Rows.classMoreSpec.plain.varTypes Tryz.prog ++ Tryz.f14.resultTypes.toList) = true := by kernel_rfl
theorem closed : joinedFacts Tryz.prog 14 Tryz.f14 Rows.classMoreSpec Rows.classMoreRow = true :=
  facts.mk k0 facts.p1 facts.p2 k3 k4 rfl facts.p6 rfl facts.p8 k9 k10 k11 k12 k13 k14 k15 k16 k17 k18 facts.p19 k20 k21 facts.p22 rfl facts.p24 facts.p25 facts.p26 facts.p27 rfl rfl k30 k31
theorem notInit : Tryz.prog.inits.idxOf? 14 = none := by kernel_rfl
theorem named : Tryz.prog.funcNamed "bitepoint/bitepointlaw01.ClassMore" = some 14 := by kernel_rfl
theorem instance_ : Tryz.f14.isInstance Tryz.prog Rows.classMoreRow.origin Rows.classMoreRow.targs := of_decide_eq_true (by kernel_rfl)
theorem wrap : Tryz.f14.isWrapper Tryz.prog Rows.classMoreRow.wrapper Rows.classMoreRow.mainSum := by unfold Func.isWrapper; first | (rw [if_pos (by decide +kernel)]; kernel_rfl) | (rw [if_neg (by decide +kernel)]; exact ⟨rfl, rfl⟩)
theorem noStand : Tryz.f14.params.toList.all (fun t => !Tryz.prog.wantsStandIn t) = true := by kernel_rfl
theorem looks0 : false = Tryz.prog.looks [] := by kernel_rfl
end Go.Proofs.YtjfdfhnfcpfmcaaGreatDoor.classMore
