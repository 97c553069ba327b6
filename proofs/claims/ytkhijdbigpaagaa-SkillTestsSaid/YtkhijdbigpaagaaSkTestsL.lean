/-
  The law SkillTests.
-/
import Derived.Test.YtkhijdbigpaagaaNn
import Derived.Test.YtkhijdbigpaagaaNl
import Derived.Test.YtkhijdbigpaagaaNx
namespace Go.Proofs.Ytkhijdbigpaagaa
open Go.RowKit RG

set_option maxRecDepth 100000 in
set_option maxHeartbeats 8000000 in
theorem SkillTests_any (v : Value) (S : Sch) (B L I : Option Addr) (m cb k cl j ci : Nat) (ts : List (Int × Int)) (al : Int) (rs : List Sp) (ls : List Int) (ch : Int) (w : World) (h : RdSch w v S) (ht : RdRow w B m 2 (ts.map tkCells)) (hm : m ≤ maxLen)
    (hls : RdRow w L k 2 (rs.map tkCells)) (hk : k ≤ maxLen) (hin : RdInts w I j ls) (hj : j ≤ maxLen) :
    Calls Try.prog 5 #[v, .agg #[.slice B m cb, .int .i64 al], .agg #[.slice L k cl, .slice I j ci, .int .i64 ch]] w fun e w' => e = .returned (.bool true) ∧ Below w.heap.size w w' := by
  have hC := hide (fun W (hb : Below w.heap.size w W) => Chance_any v S B I m cb j ci ts al ls W (h.below hb) (ht.below hb) hm (hin.below hb) hj)
  have hCR := hide (fun W (hb : Below w.heap.size w W) => ChanceR_any v S B I m cb j ci ts al ls W (h.below hb) (ht.below hb) hm (hin.below hb) hj)
  have hR := hide (fun W (hb : Below w.heap.size w W) => Ready_any v S B L m cb k cl ts al rs ch W (h.below hb) (ht.below hb) hm (hls.below hb) hk)
  have hRR := hide (fun W (hb : Below w.heap.size w W) => ReadyR_any v S B L m cb k cl ts al rs ch W (h.below hb) (ht.below hb) hm (hls.below hb) hk)
  obtain ⟨A, c, A2, c2, rfl, -⟩ := h
  generalize chanceF S ts al ls = q at *
  generalize readyF S ts al rs ch = r at *
  obtain ⟨q0, q1⟩ := q
  obtain ⟨r0, r1, r2, r3⟩ := r
  simp only at hC hCR hR hRR
  clear ht hls hin hm hk hj
  generalize S.sks.length = n1 at *
  generalize S.ins.length = n2 at *
  have e0 : (q0 != q0) = false := by simp
  have e1 : (q1 != q1) = false := by simp
  have e2 : (r0 == r0) = true := by simp
  have e3 : (r1 == r1) = true := by simp
  have e4 : (r2 == r2) = true := by simp
  have e5 : (r3 == r3) = true := by simp
  obtain ⟨W0, hW0⟩ : ∃ W0, ((w.alloc (.cells #[.slice A n1 c, .slice A2 n2 c2] 25)).alloc (.cells #[.slice B m cb, .int .i64 al] 48)).alloc (.cells #[.slice L k cl, .slice I j ci, .int .i64 ch] 51) = W0 := ⟨_, rfl⟩
  have kS := hide (show Blk W0 w.heap.size 25 #[.slice A n1 c, .slice A2 n2 c2] by rw [← hW0]; exact ((blkNew rfl).alloc _).alloc _)
  have kT := hide (show Blk W0 (w.heap.size + 1) 48 #[.slice B m cb, .int .i64 al] by rw [← hW0]; exact (blkNew (by simp)).alloc _)
  have kX := hide (show Blk W0 (w.heap.size + 2) 51 #[.slice L k cl, .slice I j ci, .int .i64 ch] by rw [← hW0]; exact blkNew (by simp +arith))
  have hB := hide (show Below w.heap.size w W0 by rw [← hW0]; exact (((Below.refl _ _).alloc (Nat.le_refl _) _).alloc (by simp) _).alloc (by simp +arith) _)
  have s0 : W0.cell? ⟨w.heap.size, 0, none⟩ = some (.slice A n1 c) := kS.out.cell 0
  have s1 : W0.cell? ⟨w.heap.size, 1, none⟩ = some (.slice A2 n2 c2) := kS.out.cell 1
  have t0 : W0.cell? ⟨w.heap.size + 1, 0, none⟩ = some (.slice B m cb) := kT.out.cell 0
  have t1 : W0.cell? ⟨w.heap.size + 1, 1, none⟩ = some (.int .i64 al) := kT.out.cell 1
  have x0 : W0.cell? ⟨w.heap.size + 2, 0, none⟩ = some (.slice L k cl) := kX.out.cell 0
  have x1 : W0.cell? ⟨w.heap.size + 2, 1, none⟩ = some (.slice I j ci) := kX.out.cell 1
  have x2 : W0.cell? ⟨w.heap.size + 2, 2, none⟩ = some (.int .i64 ch) := kX.out.cell 2
  rw [← hW0] at s0 s1 t0 t1 x0 x1 x2
  replace hW0 := hide hW0
  go_enter Try.func5, Try.ntmps5
  go_wp2_with fail
  rw [hW0.out]
  refine (hC.out _ hB.out).mono ?_
  rintro e w1 ⟨rfl, hb⟩
  replace kS := hide (kS.out.below hb kS.out.lt)
  replace kT := hide (kT.out.below hb kT.out.lt)
  replace kX := hide (kX.out.below hb kX.out.lt)
  replace hB := hide (hB.out.trans (hb.mono hB.out.size))
  clear hb s0 s1 t0 t1 x0 x1 x2 hC hW0
  have s0 : w1.cell? ⟨w.heap.size, 0, none⟩ = some (.slice A n1 c) := kS.out.cell 0
  have s1 : w1.cell? ⟨w.heap.size, 1, none⟩ = some (.slice A2 n2 c2) := kS.out.cell 1
  have t0 : w1.cell? ⟨w.heap.size + 1, 0, none⟩ = some (.slice B m cb) := kT.out.cell 0
  have t1 : w1.cell? ⟨w.heap.size + 1, 1, none⟩ = some (.int .i64 al) := kT.out.cell 1
  have x1 : w1.cell? ⟨w.heap.size + 2, 1, none⟩ = some (.slice I j ci) := kX.out.cell 1
  go_wp2_with fail
  refine (hCR.out _ hB.out).mono ?_
  rintro e w2 ⟨rfl, hb⟩
  replace kS := hide (kS.out.below hb kS.out.lt)
  replace kT := hide (kT.out.below hb kT.out.lt)
  replace kX := hide (kX.out.below hb kX.out.lt)
  replace hB := hide (hB.out.trans (hb.mono hB.out.size))
  clear hb s0 s1 t0 t1 x1 hCR
  have s0 : w2.cell? ⟨w.heap.size, 0, none⟩ = some (.slice A n1 c) := kS.out.cell 0
  have s1 : w2.cell? ⟨w.heap.size, 1, none⟩ = some (.slice A2 n2 c2) := kS.out.cell 1
  have t0 : w2.cell? ⟨w.heap.size + 1, 0, none⟩ = some (.slice B m cb) := kT.out.cell 0
  have t1 : w2.cell? ⟨w.heap.size + 1, 1, none⟩ = some (.int .i64 al) := kT.out.cell 1
  have x0 : w2.cell? ⟨w.heap.size + 2, 0, none⟩ = some (.slice L k cl) := kX.out.cell 0
  have x2 : w2.cell? ⟨w.heap.size + 2, 2, none⟩ = some (.int .i64 ch) := kX.out.cell 2
  go_wp2_with fail
  refine (hR.out _ hB.out).mono ?_
  rintro e w3 ⟨rfl, hb⟩
  replace kS := hide (kS.out.below hb kS.out.lt)
  replace kT := hide (kT.out.below hb kT.out.lt)
  replace kX := hide (kX.out.below hb kX.out.lt)
  replace hB := hide (hB.out.trans (hb.mono hB.out.size))
  clear hb s0 s1 t0 t1 x0 x2 hR
  have s0 : w3.cell? ⟨w.heap.size, 0, none⟩ = some (.slice A n1 c) := kS.out.cell 0
  have s1 : w3.cell? ⟨w.heap.size, 1, none⟩ = some (.slice A2 n2 c2) := kS.out.cell 1
  have t0 : w3.cell? ⟨w.heap.size + 1, 0, none⟩ = some (.slice B m cb) := kT.out.cell 0
  have t1 : w3.cell? ⟨w.heap.size + 1, 1, none⟩ = some (.int .i64 al) := kT.out.cell 1
  have x0 : w3.cell? ⟨w.heap.size + 2, 0, none⟩ = some (.slice L k cl) := kX.out.cell 0
  have x2 : w3.cell? ⟨w.heap.size + 2, 2, none⟩ = some (.int .i64 ch) := kX.out.cell 2
  go_wp2_with fail
  refine (hRR.out _ hB.out).mono ?_
  rintro e w4 ⟨rfl, hb⟩
  replace hB := hide (hB.out.trans (hb.mono hB.out.size))
  clear hb s0 s1 t0 t1 x0 x2 hRR kS kT kX
  go_wp2_with fail
  refine (AwakeS _).mono ?_
  rintro e w5 ⟨rfl, hb⟩
  replace hB := hide (hB.out.trans (hb.mono hB.out.size))
  clear hb
  go_wp2
  go_ret
  exact ⟨rfl, hB.out⟩
end Go.Proofs.Ytkhijdbigpaagaa
