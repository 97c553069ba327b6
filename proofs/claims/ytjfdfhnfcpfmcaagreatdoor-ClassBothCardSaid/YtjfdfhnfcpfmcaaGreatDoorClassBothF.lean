/-
  The closed facts of the row of the law ClassBoth.
-/
import Derived.Test.YtjfdfhnfcpfmcaaGreatDoorFacts
import Derived.SevenTiedAt
namespace Go.Proofs.YtjfdfhnfcpfmcaaGreatDoor.classBoth
open Go
theorem k0 : Rows.classBothRow.wf (OpenSpec.ofChange Rows.classBothSpec) = true := by kernel_rfl
theorem k3 : Tryz.f16.params.all (Tryz.prog.readableRec ·) = true := by kernel_rfl
theorem k4 : namedTie Tryz.prog Rows.classBothRow.named Rows.classBothSpec.vars = true := by kernel_rfl
theorem k9 : (Rows.classBothRow.inPlace == Tryz.prog.inPlace 16) = true := by kernel_rfl
theorem k10 : (Rows.classBothRow.unfollowed == Tryz.prog.unfollowed 16) = true := by kernel_rfl
theorem k11 : (Rows.classBothRow.recurses == Tryz.prog.recurses 16) = true := by kernel_rfl
theorem k12 : (Rows.classBothRow.named == Tryz.prog.varsNamed 16) = true := by kernel_rfl
theorem k13 : (Rows.classBothRow.maps == (Tryz.f16.params.toList ++ Rows.classBothSpec.plain.varTypes Tryz.prog).any (Tryz.prog.mapsRec ·)) = true := by kernel_rfl
theorem k14 : (Rows.classBothRow.ifaces == (Tryz.f16.params.toList ++ Rows.classBothSpec.plain.varTypes Tryz.prog).any (Tryz.prog.ifacesRec ·)) = true := by kernel_rfl
theorem k15 : (Rows.classBothRow.mapsOut == Tryz.prog.mapsAmong Tryz.f16.resultTypes.toList) = true := by kernel_rfl
theorem k16 : (Rows.classBothRow.loops == (Tryz.f16.params.toList ++ Rows.classBothSpec.plain.varTypes Tryz.prog).any (Tryz.prog.loopsFrom ·)) = true := by kernel_rfl
theorem k17 : (Rows.classBothRow.wideKeys == (Tryz.f16.params.toList ++ Rows.classBothSpec.plain.varTypes Tryz.prog ++ Tryz.f16.resultTypes.toList).any (Tryz.prog.wideKeysFrom ·)) = true := by kernel_rfl
theorem k18 : Rows.classBothSpec.vars.all (Tryz.prog.varReadable ·) = true := by kernel_rfl
theorem k20 : (Rows.classBothRow.ifacesOut == Tryz.f16.resultTypes.toList.any (Tryz.prog.ifacesRec ·)) = true := by kernel_rfl
theorem k21 : (Rows.classBothRow.loopsOut == Tryz.f16.resultTypes.toList.any (Tryz.prog.loopsFrom ·)) = true := by kernel_rfl
theorem k30 : (Rows.classBothRow.veiled == (Tryz.f16.params.toList ++ Rows.classBothSpec.plain.varTypes Tryz.prog ++ Tryz.f16.resultTypes.toList).any (Tryz.prog.veiledRec ·)) = true := by kernel_rfl
theorem k31 : Rows.classBothRow.veiledFits Tryz.prog Tryz.f16.params.toList (Tryz.f16.params.toList ++ Rows.classBothSpec.plain.varTypes Tryz.prog ++ Tryz.f16.resultTypes.toList) = true := by kernel_rfl
theorem closed : joinedFacts Tryz.prog 16 Tryz.f16 Rows.classBothSpec Rows.classBothRow = true :=
  facts.mk k0 facts.p1 facts.p2 k3 k4 rfl facts.p6 rfl facts.p8 k9 k10 k11 k12 k13 k14 k15 k16 k17 k18 facts.p19 k20 k21 facts.p22 rfl facts.p24 facts.p25 facts.p26 facts.p27 rfl rfl k30 k31
theorem notInit : Tryz.prog.inits.idxOf? 16 = none := by kernel_rfl
theorem named : Tryz.prog.funcNamed "bitepoint/bitepointlaw01.ClassBoth" = some 16 := by kernel_rfl
theorem instance_ : Tryz.f16.isInstance Tryz.prog Rows.classBothRow.origin Rows.classBothRow.targs := of_decide_eq_true (by kernel_rfl)
theorem wrap : Tryz.f16.isWrapper Tryz.prog Rows.classBothRow.wrapper Rows.classBothRow.mainSum := by unfold Func.isWrapper; first | (rw [if_pos (by decide +kernel)]; kernel_rfl) | (rw [if_neg (by decide +kernel)]; exact ⟨rfl, rfl⟩)
theorem noStand : Tryz.f16.params.toList.all (fun t => !Tryz.prog.wantsStandIn t) = true := by kernel_rfl
theorem looks0 : false = Tryz.prog.looks [] := by kernel_rfl
end Go.Proofs.YtjfdfhnfcpfmcaaGreatDoor.classBoth
