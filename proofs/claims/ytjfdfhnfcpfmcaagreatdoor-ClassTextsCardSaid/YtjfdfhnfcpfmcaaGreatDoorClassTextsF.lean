/-
  The closed facts of the row of the law ClassTexts.
-/
import Derived.Test.YtjfdfhnfcpfmcaaGreatDoorFacts
import Derived.SevenTiedAt
namespace Go.Proofs.YtjfdfhnfcpfmcaaGreatDoor.classTexts
open Go
theorem k0 : Rows.classTextsRow.wf (OpenSpec.ofChange Rows.classTextsSpec) = true := by kernel_rfl
theorem k3 : Tryz.f7.params.all (Tryz.prog.readableRec ·) = true := by kernel_rfl
theorem k4 : namedTie Tryz.prog Rows.classTextsRow.named Rows.classTextsSpec.vars = true := by kernel_rfl
theorem k9 : (Rows.classTextsRow.inPlace == Tryz.prog.inPlace 7) = true := by kernel_rfl
theorem k10 : (Rows.classTextsRow.unfollowed == Tryz.prog.unfollowed 7) = true := by kernel_rfl
theorem k11 : (Rows.classTextsRow.recurses == Tryz.prog.recurses 7) = true := by kernel_rfl
theorem k12 : (Rows.classTextsRow.named == Tryz.prog.varsNamed 7) = true := by kernel_rfl
theorem k13 : (Rows.classTextsRow.maps == (Tryz.f7.params.toList ++ Rows.classTextsSpec.plain.varTypes Tryz.prog).any (Tryz.prog.mapsRec ·)) = true := by kernel_rfl
theorem k14 : (Rows.classTextsRow.ifaces == (Tryz.f7.params.toList ++ Rows.classTextsSpec.plain.varTypes Tryz.prog).any (Tryz.prog.ifacesRec ·)) = true := by kernel_rfl
theorem k15 : (Rows.classTextsRow.mapsOut == Tryz.prog.mapsAmong Tryz.f7.resultTypes.toList) = true := by kernel_rfl
theorem k16 : (Rows.classTextsRow.loops == (Tryz.f7.params.toList ++ Rows.classTextsSpec.plain.varTypes Tryz.prog).any (Tryz.prog.loopsFrom ·)) = true := by kernel_rfl
theorem k17 : (Rows.classTextsRow.wideKeys == (Tryz.f7.params.toList ++ Rows.classTextsSpec.plain.varTypes Tryz.prog ++ Tryz.f7.resultTypes.toList).any (Tryz.prog.wideKeysFrom ·)) = true := by kernel_rfl
theorem k18 : Rows.classTextsSpec.vars.all (Tryz.prog.varReadable ·) = true := by kernel_rfl
theorem k20 : (Rows.classTextsRow.ifacesOut == Tryz.f7.resultTypes.toList.any (Tryz.prog.ifacesRec ·)) = true := by kernel_rfl
theorem k21 : (Rows.classTextsRow.loopsOut == Tryz.f7.resultTypes.toList.any (Tryz.prog.loopsFrom ·)) = true := by kernel_rfl
theorem k30 : (Rows.classTextsRow.veiled == (Tryz.f7.params.toList ++ Rows.classTextsSpec.plain.varTypes Tryz.prog ++ Tryz.f7.resultTypes.toList).any (Tryz.prog.veiledRec ·)) = true := by kernel_rfl
theorem k31 : Rows.classTextsRow.veiledFits Tryz.prog Tryz.f7.params.toList (Tryz.f7.params.toList ++ Rows.classTextsSpec.plain.varTypes Tryz.prog ++ Tryz.f7.resultTypes.toList) = true := by kernel_rfl
theorem closed : joinedFacts Tryz.prog 7 Tryz.f7 Rows.classTextsSpec Rows.classTextsRow = true :=
  facts.mk k0 facts.p1 facts.p2 k3 k4 rfl facts.p6 rfl facts.p8 k9 k10 k11 k12 k13 k14 k15 k16 k17 k18 facts.p19 k20 k21 facts.p22 rfl facts.p24 facts.p25 facts.p26 facts.p27 rfl rfl k30 k31
theorem notInit : Tryz.prog.inits.idxOf? 7 = none := by kernel_rfl
theorem named : Tryz.prog.funcNamed "bitepoint/bitepointlaw01.ClassTexts" = some 7 := by kernel_rfl
theorem instance_ : Tryz.f7.isInstance Tryz.prog Rows.classTextsRow.origin Rows.classTextsRow.targs := of_decide_eq_true (by kernel_rfl)
theorem wrap : Tryz.f7.isWrapper Tryz.prog Rows.classTextsRow.wrapper Rows.classTextsRow.mainSum := by unfold Func.isWrapper; first | (rw [if_pos (by decide +kernel)]; kernel_rfl) | (rw [if_neg (by decide +kernel)]; exact ⟨rfl, rfl⟩)
theorem noStand : Tryz.f7.params.toList.all (fun t => !Tryz.prog.wantsStandIn t) = true := by kernel_rfl
theorem looks0 : false = Tryz.prog.looks [] := by kernel_rfl
end Go.Proofs.YtjfdfhnfcpfmcaaGreatDoor.classTexts
