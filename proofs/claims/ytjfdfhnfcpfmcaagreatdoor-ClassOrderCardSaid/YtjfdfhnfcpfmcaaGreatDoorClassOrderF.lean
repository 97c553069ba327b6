/-
  The closed facts of the row of the law ClassOrder.
-/
import Derived.Test.YtjfdfhnfcpfmcaaGreatDoorFacts
import Derived.SevenTiedAt
namespace Go.Proofs.YtjfdfhnfcpfmcaaGreatDoor.classOrder
open Go
theorem k0 : Rows.classOrderRow.wf (OpenSpec.ofChange Rows.classOrderSpec) = true := by kernel_rfl
theorem k3 : Tryz.f13.params.all (Tryz.prog.readableRec ·) = true := by kernel_rfl
theorem k4 : namedTie Tryz.prog Rows.classOrderRow.named Rows.classOrderSpec.vars = true := by kernel_rfl
theorem k9 : (Rows.classOrderRow.inPlace == Tryz.prog.inPlace 13) = true := by kernel_rfl
theorem k10 : (Rows.classOrderRow.unfollowed == Tryz.prog.unfollowed 13) = true := by kernel_rfl
theorem k11 : (Rows.classOrderRow.recurses == Tryz.prog.recurses 13) = true := by kernel_rfl
theorem k12 : (Rows.classOrderRow.named == Tryz.prog.varsNamed 13) = true := by kernel_rfl
theorem k13 : (Rows.classOrderRow.maps == (Tryz.f13.params.toList ++ Rows.classOrderSpec.plain.varTypes Tryz.prog).any (Tryz.prog.mapsRec ·)) = true := by kernel_rfl
theorem k14 : (Rows.classOrderRow.ifaces == (Tryz.f13.params.toList ++ Rows.classOrderSpec.plain.varTypes Tryz.prog).any (Tryz.prog.ifacesRec ·)) = true := by kernel_rfl
theorem k15 : (Rows.classOrderRow.mapsOut == Tryz.prog.mapsAmong Tryz.f13.resultTypes.toList) = true := by kernel_rfl
theorem k16 : (Rows.classOrderRow.loops == (Tryz.f13.params.toList ++ Rows.classOrderSpec.plain.varTypes Tryz.prog).any (Tryz.prog.loopsFrom ·)) = true := by kernel_rfl
theorem k17 : (Rows.classOrderRow.wideKeys == (Tryz.f13.params.toList ++ Rows.classOrderSpec.plain.varTypes Tryz.prog ++ Tryz.f13.resultTypes.toList).any (Tryz.prog.wideKeysFrom ·)) = true := by kernel_rfl
theorem k18 : Rows.classOrderSpec.vars.all (Tryz.prog.varReadable ·) = true := by kernel_rfl
theorem k20 : (Rows.classOrderRow.ifacesOut == Tryz.f13.resultTypes.toList.any (Tryz.prog.ifacesRec ·)) = true := by kernel_rfl
theorem k21 : (Rows.classOrderRow.loopsOut == Tryz.f13.resultTypes.toList.any (Tryz.prog.loopsFrom ·)) = true := by kernel_rfl
theorem k30 : (Rows.classOrderRow.veiled == (Tryz.f13.params.toList ++ Rows.classOrderSpec.plain.varTypes Tryz.prog ++ Tryz.f13.resultTypes.toList).any (Tryz.prog.veiledRec ·)) = true := by kernel_rfl
theorem k31 : Rows.classOrderRow.veiledFits Tryz.prog Tryz.f13.params.toList (Tryz.f13.params.toList ++ Rows.classOrderSpec.plain.varTypes Tryz.prog ++ Tryz.f13.resultTypes.toList) = true := by kernel_rfl
theorem closed : joinedFacts Tryz.prog 13 Tryz.f13 Rows.classOrderSpec Rows.classOrderRow = true :=
  facts.mk k0 facts.p1 facts.p2 k3 k4 rfl facts.p6 rfl facts.p8 k9 k10 k11 k12 k13 k14 k15 k16 k17 k18 facts.p19 k20 k21 facts.p22 rfl facts.p24 facts.p25 facts.p26 facts.p27 rfl rfl k30 k31
theorem notInit : Tryz.prog.inits.idxOf? 13 = none := by kernel_rfl
theorem named : Tryz.prog.funcNamed "bitepoint/bitepointlaw01.ClassOrder" = some 13 := by kernel_rfl
theorem instance_ : Tryz.f13.isInstance Tryz.prog Rows.classOrderRow.origin Rows.classOrderRow.targs := of_decide_eq_true (by kernel_rfl)
theorem wrap : Tryz.f13.isWrapper Tryz.prog Rows.classOrderRow.wrapper Rows.classOrderRow.mainSum := by unfold Func.isWrapper; first | (rw [if_pos (by decide +kernel)]; kernel_rfl) | (rw [if_neg (by decide +kernel)]; exact ⟨rfl, rfl⟩)
theorem noStand : Tryz.f13.params.toList.all (fun t => !Tryz.prog.wantsStandIn t) = true := by kernel_rfl
theorem looks0 : false = Tryz.prog.looks [] := by kernel_rfl
end Go.Proofs.YtjfdfhnfcpfmcaaGreatDoor.classOrder
