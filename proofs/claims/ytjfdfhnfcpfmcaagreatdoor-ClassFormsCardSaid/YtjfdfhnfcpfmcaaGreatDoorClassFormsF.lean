/-
  The closed facts of the row of the law ClassForms.
-/
import Derived.Test.YtjfdfhnfcpfmcaaGreatDoorFacts
import Derived.SevenTiedAt
namespace Go.Proofs.YtjfdfhnfcpfmcaaGreatDoor.classForms
open Go
theorem k0 : Rows.classFormsRow.wf (OpenSpec.ofChange Rows.classFormsSpec) = true := by kernel_rfl
theorem k3 : Tryz.f6.params.all (Tryz.prog.readableRec ·) = true := by kernel_rfl
theorem k4 : namedTie Tryz.prog Rows.classFormsRow.named Rows.classFormsSpec.vars = true := by kernel_rfl
theorem k9 : (Rows.classFormsRow.inPlace == Tryz.prog.inPlace 6) = true := by kernel_rfl
theorem k10 : (Rows.classFormsRow.unfollowed == Tryz.prog.unfollowed 6) = true := by kernel_rfl
theorem k11 : (Rows.classFormsRow.recurses == Tryz.prog.recurses 6) = true := by kernel_rfl
theorem k12 : (Rows.classFormsRow.named == Tryz.prog.varsNamed 6) = true := by kernel_rfl
theorem k13 : (Rows.classFormsRow.maps == (Tryz.f6.params.toList ++ Rows.classFormsSpec.plain.varTypes Tryz.prog).any (Tryz.prog.mapsRec ·)) = true := by kernel_rfl
theorem k14 : (Rows.classFormsRow.ifaces == (Tryz.f6.params.toList ++ Rows.classFormsSpec.plain.varTypes Tryz.prog).any (Tryz.prog.ifacesRec ·)) = true := by kernel_rfl
theorem k15 : (Rows.classFormsRow.mapsOut == Tryz.prog.mapsAmong Tryz.f6.resultTypes.toList) = true := by kernel_rfl
theorem k16 : (Rows.classFormsRow.loops == (Tryz.f6.params.toList ++ Rows.classFormsSpec.plain.varTypes Tryz.prog).any (Tryz.prog.loopsFrom ·)) = true := by kernel_rfl
theorem k17 : (Rows.classFormsRow.wideKeys == (Tryz.f6.params.toList ++ Rows.classFormsSpec.plain.varTypes Tryz.prog ++ Tryz.f6.resultTypes.toList).any (Tryz.prog.wideKeysFrom ·)) = true := by kernel_rfl
theorem k18 : Rows.classFormsSpec.vars.all (Tryz.prog.varReadable ·) = true := by kernel_rfl
theorem k20 : (Rows.classFormsRow.ifacesOut == Tryz.f6.resultTypes.toList.any (Tryz.prog.ifacesRec ·)) = true := by kernel_rfl
theorem k21 : (Rows.classFormsRow.loopsOut == Tryz.f6.resultTypes.toList.any (Tryz.prog.loopsFrom ·)) = true := by kernel_rfl
theorem k30 : (Rows.classFormsRow.veiled == (Tryz.f6.params.toList ++ Rows.classFormsSpec.plain.varTypes Tryz.prog ++ Tryz.f6.resultTypes.toList).any (Tryz.prog.veiledRec ·)) = true := by kernel_rfl
theorem k31 : Rows.classFormsRow.veiledFits Tryz.prog Tryz.f6.params.toList (Tryz.f6.params.toList ++ Rows.classFormsSpec.plain.varTypes Tryz.prog ++ Tryz.f6.resultTypes.toList) = true := by kernel_rfl
theorem closed : joinedFacts Tryz.prog 6 Tryz.f6 Rows.classFormsSpec Rows.classFormsRow = true :=
  facts.mk k0 facts.p1 facts.p2 k3 k4 rfl facts.p6 rfl facts.p8 k9 k10 k11 k12 k13 k14 k15 k16 k17 k18 facts.p19 k20 k21 facts.p22 rfl facts.p24 facts.p25 facts.p26 facts.p27 rfl rfl k30 k31
theorem notInit : Tryz.prog.inits.idxOf? 6 = none := by kernel_rfl
theorem named : Tryz.prog.funcNamed "bitepoint/bitepointlaw01.ClassForms" = some 6 := by kernel_rfl
theorem instance_ : Tryz.f6.isInstance Tryz.prog Rows.classFormsRow.origin Rows.classFormsRow.targs := of_decide_eq_true (by kernel_rfl)
theorem wrap : Tryz.f6.isWrapper Tryz.prog Rows.classFormsRow.wrapper Rows.classFormsRow.mainSum := by unfold Func.isWrapper; first | (rw [if_pos (by decide +kernel)]; kernel_rfl) | (rw [if_neg (by decide +kernel)]; exact ⟨rfl, rfl⟩)
theorem noStand : Tryz.f6.params.toList.all (fun t => !Tryz.prog.wantsStandIn t) = true := by kernel_rfl
theorem looks0 : false = Tryz.prog.looks [] := by kernel_rfl
end Go.Proofs.YtjfdfhnfcpfmcaaGreatDoor.classForms
