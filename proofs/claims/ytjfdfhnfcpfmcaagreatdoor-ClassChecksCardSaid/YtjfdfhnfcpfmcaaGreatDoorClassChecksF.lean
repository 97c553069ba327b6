/-
  The closed facts of the row of the law ClassChecks.
-/
import Derived.Test.YtjfdfhnfcpfmcaaGreatDoorFacts
import Derived.SevenTiedAt
namespace Go.Proofs.YtjfdfhnfcpfmcaaGreatDoor.classChecks
open Go
theorem k0 : Rows.classChecksRow.wf (OpenSpec.ofChange Rows.classChecksSpec) = true := by kernel_rfl
theorem k3 : Tryz.f4.params.all (Tryz.prog.readableRec ·) = true := by kernel_rfl
theorem k4 : namedTie Tryz.prog Rows.classChecksRow.named Rows.classChecksSpec.vars = true := by kernel_rfl
theorem k9 : (Rows.classChecksRow.inPlace == Tryz.prog.inPlace 4) = true := by kernel_rfl
theorem k10 : (Rows.classChecksRow.unfollowed == Tryz.prog.unfollowed 4) = true := by kernel_rfl
theorem k11 : (Rows.classChecksRow.recurses == Tryz.prog.recurses 4) = true := by kernel_rfl
theorem k12 : (Rows.classChecksRow.named == Tryz.prog.varsNamed 4) = true := by kernel_rfl
theorem k13 : (Rows.classChecksRow.maps == (Tryz.f4.params.toList ++ Rows.classChecksSpec.plain.varTypes Tryz.prog).any (Tryz.prog.mapsRec ·)) = true := by kernel_rfl
theorem k14 : (Rows.classChecksRow.ifaces == (Tryz.f4.params.toList ++ Rows.classChecksSpec.plain.varTypes Tryz.prog).any (Tryz.prog.ifacesRec ·)) = true := by kernel_rfl
theorem k15 : (Rows.classChecksRow.mapsOut == Tryz.prog.mapsAmong Tryz.f4.resultTypes.toList) = true := by kernel_rfl
theorem k16 : (Rows.classChecksRow.loops == (Tryz.f4.params.toList ++ Rows.classChecksSpec.plain.varTypes Tryz.prog).any (Tryz.prog.loopsFrom ·)) = true := by kernel_rfl
theorem k17 : (Rows.classChecksRow.wideKeys == (Tryz.f4.params.toList ++ Rows.classChecksSpec.plain.varTypes Tryz.prog ++ Tryz.f4.resultTypes.toList).any (Tryz.prog.wideKeysFrom ·)) = true := by kernel_rfl
theorem k18 : Rows.classChecksSpec.vars.all (Tryz.prog.varReadable ·) = true := by kernel_rfl
theorem k20 : (Rows.classChecksRow.ifacesOut == Tryz.f4.resultTypes.toList.any (Tryz.prog.ifacesRec ·)) = true := by kernel_rfl
theorem k21 : (Rows.classChecksRow.loopsOut == Tryz.f4.resultTypes.toList.any (Tryz.prog.loopsFrom ·)) = true := by kernel_rfl
theorem k30 : (Rows.classChecksRow.veiled == (Tryz.f4.params.toList ++ Rows.classChecksSpec.plain.varTypes Tryz.prog ++ Tryz.f4.resultTypes.toList).any (Tryz.prog.veiledRec ·)) = true := by kernel_rfl
theorem k31 : Rows.classChecksRow.veiledFits Tryz.prog Tryz.f4.params.toList (Tryz.f4.params.toList ++ Rows.classChecksSpec.plain.varTypes Tryz.prog ++ Tryz.f4.resultTypes.toList) = true := by kernel_rfl
theorem closed : joinedFacts Tryz.prog 4 Tryz.f4 Rows.classChecksSpec Rows.classChecksRow = true :=
  facts.mk k0 facts.p1 facts.p2 k3 k4 rfl facts.p6 rfl facts.p8 k9 k10 k11 k12 k13 k14 k15 k16 k17 k18 facts.p19 k20 k21 facts.p22 rfl facts.p24 facts.p25 facts.p26 facts.p27 rfl rfl k30 k31
theorem notInit : Tryz.prog.inits.idxOf? 4 = none := by kernel_rfl
theorem named : Tryz.prog.funcNamed "bitepoint/bitepointlaw01.ClassChecks" = some 4 := by kernel_rfl
theorem instance_ : Tryz.f4.isInstance Tryz.prog Rows.classChecksRow.origin Rows.classChecksRow.targs := of_decide_eq_true (by kernel_rfl)
theorem wrap : Tryz.f4.isWrapper Tryz.prog Rows.classChecksRow.wrapper Rows.classChecksRow.mainSum := by unfold Func.isWrapper; first | (rw [if_pos (by decide +kernel)]; kernel_rfl) | (rw [if_neg (by decide +kernel)]; exact ⟨rfl, rfl⟩)
theorem noStand : Tryz.f4.params.toList.all (fun t => !Tryz.prog.wantsStandIn t) = true := by kernel_rfl
theorem looks0 : false = Tryz.prog.looks [] := by kernel_rfl
end Go.Proofs.YtjfdfhnfcpfmcaaGreatDoor.classChecks
