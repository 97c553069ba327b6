/-
  The law SkillPlans.
-/
import Derived.Test.YtkhijdbigpaagaaNpl
import Derived.Test.YtkhijdbigpaagaaNl
import Derived.Test.YtkhijdbigpaagaaNx
namespace Go.Proofs.Ytkhijdbigpaagaa
open Go.RowKit RG

theorem fewF_len (S : Sch) (ts : List (Int × Int)) (al : Int) (rs : List Sp) (ch : Int) : (((fewestF S ts al rs ch).1.getD []).map Int.ofNat).length ≤ maxLen := by
  rw [List.length_map]
  unfold fewestF
  split
  · rename_i h0
    have h5 := (check_ok (test_ok (ready_ok h0).1).1).2.1
    simp only
    cases hf : (plansL S.sks.length).find? (okPlan S ts al rs ch) with
    | none => simp
    | some p =>
      have := (plans_some hf).2.1
      unfold maxLen
      simp only [Option.getD_some]
      omega
  · simp

set_option maxRecDepth 100000 in
set_option maxHeartbeats 4000000 in
theorem SkillPlans_any (v : Value) (S : Sch) (B L I : Option Addr) (m cb k cl j ci : Nat) (ts : List (Int × Int)) (al : Int) (rs : List Sp) (ch : Int) (w : World) (h : RdSch w v S) (ht : RdRow w B m 2 (ts.map tkCells)) (hm : m ≤ maxLen)
    (hls : RdRow w L k 2 (rs.map tkCells)) (hk : k ≤ maxLen) :
    Calls Try.prog 6 #[v, .agg #[.slice B m cb, .int .i64 al], .agg #[.slice L k cl, .slice I j ci, .int .i64 ch]] w fun e w' => e = .returned (.bool true) ∧ Below w.heap.size w w' := by
  have hF := hide (fun W (hb : Below w.heap.size w W) => Fewest_any v S B L m cb k cl ts al rs ch W (h.below hb) (ht.below hb) hm (hls.below hb) hk)
  have hFR := hide (fun W (hb : Below w.heap.size w W) => FewestR_any v S B L m cb k cl ts al rs ch W (h.below hb) (ht.below hb) hm (hls.below hb) hk)
  have hlm := fewF_len S ts al rs ch
  obtain ⟨A, c, A2, c2, rfl, -⟩ := h
  unfold FewR IsPlan at hF hFR
  generalize fewestF S ts al rs ch = q at *
  obtain ⟨q1, q2⟩ := q
  simp only at hF hFR hlm
  generalize (q1.getD []).map Int.ofNat = T at *
  clear ht hls hm hk
  replace hlm := hide hlm
  generalize S.sks.length = n1 at *
  generalize S.ins.length = n2 at *
  have e4 : (q2 == q2) = true := by simp
  obtain ⟨W0, hW0⟩ : ∃ W0, ((w.alloc (.cells #[.slice A n1 c, .slice A2 n2 c2] 25)).alloc (.cells #[.slice B m cb, .int .i64 al] 48)).alloc (.cells #[.slice L k cl, .slice I j ci, .int .i64 ch] 51) = W0 := ⟨_, rfl⟩
  have kS := hide (show Blk W0 w.heap.size 25 #[.slice A n1 c, .slice A2 n2 c2] by rw [← hW0]; exact ((blkNew rfl).alloc _).alloc _)
  have kT := hide (show Blk W0 (w.heap.size + 1) 48 #[.slice B m cb, .int .i64 al] by rw [← hW0]; exact (blkNew (by simp)).alloc _)
  have kX := hide (show Blk W0 (w.heap.size + 2) 51 #[.slice L k cl, .slice I j ci, .int .i64 ch] by rw [← hW0]; exact blkNew (by simp +arith))
  have hB := hide (show Below w.heap.size w W0 by rw [← hW0]; exact (((Below.refl _ _).alloc (Nat.le_refl _) _).alloc (by simp) _).alloc (by simp +arith) _)
  have s0 : W0.cell? ⟨w.heap.size, 0, none⟩ = some (.slice A n1 c) := kS.out.cell 0
  have s1 : W0.cell? ⟨w.heap.size, 1, none⟩ = some (.slice A2 n2 c2) := kS.out.cell 1
  have t0 : W0.cell? ⟨w.heap.size + 1, 0, none⟩ = some (.slice B m cb) := kT.out.cell 0
  have t1 : W0.cell? ⟨w.heap.size + 1, 1, none⟩ = some (.int .i64 al) := kT.out.cell 1
  have x0 : W0.cell? ⟨w.heap.size + 2, 0, none⟩ = some (.slice L k cl) := kX.out.cell 0
  have x2 : W0.cell? ⟨w.heap.size + 2, 2, none⟩ = some (.int .i64 ch) := kX.out.cell 2
  rw [← hW0] at s0 s1 t0 t1 x0 x2
  replace hW0 := hide hW0
  go_enter Try.func6, Try.ntmps6
  go_wp2_with fail
  rw [hW0.out]
  refine (hF.out _ hB.out).mono ?_
  rintro e w1 ⟨⟨v1, rfl, hT1⟩, hb⟩
  replace kS := hide (kS.out.below hb kS.out.lt)
  replace kT := hide (kT.out.below hb kT.out.lt)
  replace kX := hide (kX.out.below hb kX.out.lt)
  replace hB := hide (hB.out.trans (hb.mono hB.out.size))
  clear hb s0 s1 t0 t1 x0 x2 hF hW0
  have s0 : w1.cell? ⟨w.heap.size, 0, none⟩ = some (.slice A n1 c) := kS.out.cell 0
  have s1 : w1.cell? ⟨w.heap.size, 1, none⟩ = some (.slice A2 n2 c2) := kS.out.cell 1
  have t0 : w1.cell? ⟨w.heap.size + 1, 0, none⟩ = some (.slice B m cb) := kT.out.cell 0
  have t1 : w1.cell? ⟨w.heap.size + 1, 1, none⟩ = some (.int .i64 al) := kT.out.cell 1
  have x0 : w1.cell? ⟨w.heap.size + 2, 0, none⟩ = some (.slice L k cl) := kX.out.cell 0
  have x2 : w1.cell? ⟨w.heap.size + 2, 2, none⟩ = some (.int .i64 ch) := kX.out.cell 2
  obtain ⟨A3, c3, rfl, hr3, -⟩ := hT1
  go_wp2_with fail
  refine (hFR.out _ hB.out).mono ?_
  rintro e w2 ⟨⟨v2, rfl, hT2⟩, hb⟩
  have hr3 := hr3.below hb
  replace hB := hide (hB.out.trans (hb.mono hB.out.size))
  clear hb s0 s1 t0 t1 x0 x2 hFR kS kT kX
  obtain ⟨A4, c4, rfl, hr4, -⟩ := hT2
  have hIn := Ints_any A3 A4 T.length T.length c3 c4 T T w2 hr3 hr4 hlm.out hlm.out
  simp only [decide_true] at hIn
  replace hIn := hide hIn
  clear hr3 hr4
  go_wp2_with fail
  refine hIn.out.mono ?_
  rintro e w3 ⟨rfl, hb⟩
  replace hB := hide (hB.out.trans (hb.mono hB.out.size))
  clear hb hIn
  go_wp2_with fail
  refine (AwakeS _).mono ?_
  rintro e w6 ⟨rfl, hb⟩
  replace hB := hide (hB.out.trans (hb.mono hB.out.size))
  clear hb
  go_wp2
  go_ret
  exact ⟨rfl, hB.out⟩
end Go.Proofs.Ytkhijdbigpaagaa
