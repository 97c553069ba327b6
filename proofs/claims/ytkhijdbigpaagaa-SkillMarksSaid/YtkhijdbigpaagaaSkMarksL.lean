/-
  The law SkillMarks.
-/
import Derived.Test.YtkhijdbigpaagaaNm
import Derived.Test.YtkhijdbigpaagaaNl
import Derived.Test.YtkhijdbigpaagaaNy
namespace Go.Proofs.Ytkhijdbigpaagaa
open Go.RowKit RG

set_option maxRecDepth 100000 in
set_option maxHeartbeats 8000000 in
theorem SkillMarks_any (v : Value) (S : Sch) (k n x : Int) (w : World) (h : RdSch w v S) :
    Calls Try.prog 3 #[v, .agg #[.int .i64 k, .int .i64 n, .int .i64 x]] w fun e w' => e = .returned (.bool true) ∧ Below w.heap.size w w' := by
  have hC := hide (fun W (hb : Below w.heap.size w W) => CheckS_any v S W (h.below hb))
  have hCR := hide (fun W (hb : Below w.heap.size w W) => CheckR_any v S W (h.below hb))
  have hM := hide (fun W (hb : Below w.heap.size w W) => Marks_any v S k x W (h.below hb))
  have hMR := hide (fun W (hb : Below w.heap.size w W) => MarksR_any v S k x W (h.below hb))
  have hH := hide (fun W (hb : Below w.heap.size w W) => Behind_any v S k x W (h.below hb))
  have hHR := hide (fun W (hb : Below w.heap.size w W) => BehindR_any v S k x W (h.below hb))
  unfold Ret3 at hC hCR
  obtain ⟨A, c, A2, c2, rfl, -⟩ := h
  generalize checkS S = q at *
  generalize marksF S k x = m at *
  generalize behindF S k x = b at *
  obtain ⟨q0, q1, q2⟩ := q
  obtain ⟨⟨m0, m1⟩, m2⟩ := m
  obtain ⟨⟨b0, b1⟩, b2⟩ := b
  simp only at hC hCR hM hMR hH hHR
  generalize S.sks.length = n1 at *
  generalize S.ins.length = n2 at *
  have e0 : (q0 != q0) = false := by simp
  have e1 : (q1 != q1) = false := by simp
  have e2 : (q2 != q2) = false := by simp
  have e3 : (m2 != m2) = false := by simp
  have e4 : (b2 == b2) = true := by simp
  have hne := hide (fun W => (neSpan m0 m1 m0 m1 W).trans (show _ = Result.ok (Value.bool false) W by simp))
  have heq := hide (fun W => (eqSpan b0 b1 b0 b1 W).trans (show _ = Result.ok (Value.bool true) W by simp))
  obtain ⟨W0, hW0⟩ : ∃ W0, (w.alloc (.cells #[.slice A n1 c, .slice A2 n2 c2] 25)).alloc (.cells #[.int .i64 k, .int .i64 n, .int .i64 x] 27) = W0 := ⟨_, rfl⟩
  have kS := hide (show Blk W0 w.heap.size 25 #[.slice A n1 c, .slice A2 n2 c2] by rw [← hW0]; exact (blkNew rfl).alloc _)
  have kA := hide (show Blk W0 (w.heap.size + 1) 27 #[.int .i64 k, .int .i64 n, .int .i64 x] by rw [← hW0]; exact blkNew (by simp))
  have hB := hide (show Below w.heap.size w W0 by rw [← hW0]; exact ((Below.refl _ _).alloc (Nat.le_refl _) _).alloc (by simp) _)
  replace hW0 := hide hW0
  have s0 : W0.cell? ⟨w.heap.size, 0, none⟩ = some (.slice A n1 c) := kS.out.cell 0
  have s1 : W0.cell? ⟨w.heap.size, 1, none⟩ = some (.slice A2 n2 c2) := kS.out.cell 1
  go_enter Try.func3, Try.ntmps3
  go_wp2_with fail
  rw [hW0.out]
  go_wp2_with fail
  refine (hC.out _ hB.out).mono ?_
  rintro e w1 ⟨rfl, hb⟩
  replace kS := hide (kS.out.below hb kS.out.lt)
  replace kA := hide (kA.out.below hb kA.out.lt)
  replace hB := hide (hB.out.trans (hb.mono hB.out.size))
  clear hb s0 s1 hC hW0
  have s0 : w1.cell? ⟨w.heap.size, 0, none⟩ = some (.slice A n1 c) := kS.out.cell 0
  have s1 : w1.cell? ⟨w.heap.size, 1, none⟩ = some (.slice A2 n2 c2) := kS.out.cell 1
  go_wp2_with fail
  refine (hCR.out _ hB.out).mono ?_
  rintro e w2 ⟨rfl, hb⟩
  replace kS := hide (kS.out.below hb kS.out.lt)
  replace kA := hide (kA.out.below hb kA.out.lt)
  replace hB := hide (hB.out.trans (hb.mono hB.out.size))
  clear hb s0 s1 hCR
  have s0 : w2.cell? ⟨w.heap.size, 0, none⟩ = some (.slice A n1 c) := kS.out.cell 0
  have s1 : w2.cell? ⟨w.heap.size, 1, none⟩ = some (.slice A2 n2 c2) := kS.out.cell 1
  have a0 : w2.cell? ⟨w.heap.size + 1, 0, none⟩ = some (.int .i64 k) := kA.out.cell 0
  have a2 : w2.cell? ⟨w.heap.size + 1, 2, none⟩ = some (.int .i64 x) := kA.out.cell 2
  go_wp2_with fail
  refine (hM.out _ hB.out).mono ?_
  rintro e w3 ⟨rfl, hb⟩
  have hlA := (kA.out.below hb kA.out.lt).lt
  replace kS := hide ((kS.out.below hb kS.out.lt).alloc (.cells #[.int .i64 m0, .int .i64 m1] 32))
  replace kA := hide ((kA.out.below hb kA.out.lt).alloc (.cells #[.int .i64 m0, .int .i64 m1] 32))
  replace hB := hide (hB.out.trans (hb.mono hB.out.size))
  have k11 := hide (show Blk (w3.alloc (.cells #[.int .i64 m0, .int .i64 m1] 32)) w3.heap.size 32 #[.int .i64 m0, .int .i64 m1] from blkNew rfl)
  have hn2 : w.heap.size + 1 ≠ w3.heap.size := fun e => by have := hlA; omega
  have hg1 := hB.out.size
  replace hB := hide (hB.out.alloc hg1 (.cells #[.int .i64 m0, .int .i64 m1] 32))
  clear hb s0 s1 a0 a2 hM
  have hz11 : w3.heap.size < (w3.alloc (.cells #[.int .i64 m0, .int .i64 m1] 32)).heap.size := by simp
  have s0 : (w3.alloc (.cells #[.int .i64 m0, .int .i64 m1] 32)).cell? ⟨w.heap.size, 0, none⟩ = some (.slice A n1 c) := kS.out.cell 0
  have s1 : (w3.alloc (.cells #[.int .i64 m0, .int .i64 m1] 32)).cell? ⟨w.heap.size, 1, none⟩ = some (.slice A2 n2 c2) := kS.out.cell 1
  have a0 : (w3.alloc (.cells #[.int .i64 m0, .int .i64 m1] 32)).cell? ⟨w.heap.size + 1, 0, none⟩ = some (.int .i64 k) := kA.out.cell 0
  have a2 : (w3.alloc (.cells #[.int .i64 m0, .int .i64 m1] 32)).cell? ⟨w.heap.size + 1, 2, none⟩ = some (.int .i64 x) := kA.out.cell 2
  go_wp2_with fail
  refine (hMR.out _ hB.out).mono ?_
  rintro e w5 ⟨rfl, hb⟩
  have hz5 := Nat.lt_of_lt_of_le hz11 hb.size
  replace kS := hide (kS.out.below hb kS.out.lt)
  replace kA := hide (kA.out.below hb kA.out.lt)
  replace k11 := hide (k11.out.below hb k11.out.lt)
  replace hB := hide (hB.out.trans (hb.mono hB.out.size))
  have hg2 := hB.out.size
  have k12 := hide (show Blk (w5.alloc (.cells #[.int .i64 m0, .int .i64 m1] 32)) w5.heap.size 32 #[.int .i64 m0, .int .i64 m1] from blkNew rfl)
  replace kS := hide (kS.out.alloc (.cells #[.int .i64 m0, .int .i64 m1] 32))
  replace kA := hide (kA.out.alloc (.cells #[.int .i64 m0, .int .i64 m1] 32))
  replace k11 := hide (k11.out.alloc (.cells #[.int .i64 m0, .int .i64 m1] 32))
  replace hB := hide (hB.out.alloc hg2 (.cells #[.int .i64 m0, .int .i64 m1] 32))
  clear hb s0 s1 a0 a2 hMR
  have hz12 : w5.heap.size < (w5.alloc (.cells #[.int .i64 m0, .int .i64 m1] 32)).heap.size := by simp
  have s0 : (w5.alloc (.cells #[.int .i64 m0, .int .i64 m1] 32)).cell? ⟨w.heap.size, 0, none⟩ = some (.slice A n1 c) := kS.out.cell 0
  have s1 : (w5.alloc (.cells #[.int .i64 m0, .int .i64 m1] 32)).cell? ⟨w.heap.size, 1, none⟩ = some (.slice A2 n2 c2) := kS.out.cell 1
  have a0 : (w5.alloc (.cells #[.int .i64 m0, .int .i64 m1] 32)).cell? ⟨w.heap.size + 1, 0, none⟩ = some (.int .i64 k) := kA.out.cell 0
  have a2 : (w5.alloc (.cells #[.int .i64 m0, .int .i64 m1] 32)).cell? ⟨w.heap.size + 1, 2, none⟩ = some (.int .i64 x) := kA.out.cell 2
  have x0 : (w5.alloc (.cells #[.int .i64 m0, .int .i64 m1] 32)).cell? ⟨w3.heap.size, 0, none⟩ = some (.int .i64 m0) := k11.out.cell 0
  have x1 : (w5.alloc (.cells #[.int .i64 m0, .int .i64 m1] 32)).cell? ⟨w3.heap.size, 1, none⟩ = some (.int .i64 m1) := k11.out.cell 1
  have y0 : (w5.alloc (.cells #[.int .i64 m0, .int .i64 m1] 32)).cell? ⟨w5.heap.size, 0, none⟩ = some (.int .i64 m0) := k12.out.cell 0
  have y1 : (w5.alloc (.cells #[.int .i64 m0, .int .i64 m1] 32)).cell? ⟨w5.heap.size, 1, none⟩ = some (.int .i64 m1) := k12.out.cell 1
  have hn := hne.out
  go_wp2_with fail
  clear hn
  refine (hH.out _ hB.out).mono ?_
  rintro e w6 ⟨rfl, hb⟩
  have hn1 : w.heap.size ≠ w3.heap.size := by omega
  have hn3 : w5.heap.size ≠ w3.heap.size := by omega
  have hn4 : w3.heap.size ≠ w5.heap.size := by omega
  replace kS := hide (kS.out.below hb kS.out.lt)
  replace kA := hide (kA.out.below hb kA.out.lt)
  replace k11 := hide (k11.out.below hb k11.out.lt)
  replace k12 := hide (k12.out.below hb k12.out.lt)
  replace hB := hide (hB.out.trans (hb.mono hB.out.size))
  clear hb s0 s1 a0 a2 hH x0 x1 y0 y1
  have g0 : w6.cell? ⟨w3.heap.size, 0, none⟩ = some (.int .i64 m0) := k11.out.cell 0
  have g1 : w6.cell? ⟨w3.heap.size, 1, none⟩ = some (.int .i64 m1) := k11.out.cell 1
  have f0 : w6.frozen? ⟨w3.heap.size, 0, none⟩ = false := k11.out.frozen 0
  have f1 : w6.frozen? ⟨w3.heap.size, 1, none⟩ = false := k11.out.frozen 1
  replace kS := hide ((kS.out.far (p := ⟨w3.heap.size, 0, none⟩) hn1 (.int .i64 b0)).far (p := ⟨w3.heap.size, 1, none⟩) hn1 (.int .i64 b1))
  replace kA := hide ((kA.out.far (p := ⟨w3.heap.size, 0, none⟩) hn2 (.int .i64 b0)).far (p := ⟨w3.heap.size, 1, none⟩) hn2 (.int .i64 b1))
  replace k12 := hide ((k12.out.far (p := ⟨w3.heap.size, 0, none⟩) hn3 (.int .i64 b0)).far (p := ⟨w3.heap.size, 1, none⟩) hn3 (.int .i64 b1))
  replace k11 := hide (show Blk ((w6.setCell ⟨w3.heap.size, 0, none⟩ (.int .i64 b0)).setCell ⟨w3.heap.size, 1, none⟩ (.int .i64 b1)) w3.heap.size 32 #[.int .i64 b0, .int .i64 b1] by have := (k11.out.set_ 0 (.int .i64 b0)).set_ 1 (.int .i64 b1); simpa using this)
  replace hB := hide ((hB.out.setCell (p := ⟨w3.heap.size, 0, none⟩) hg1 (.int .i64 b0)).setCell (p := ⟨w3.heap.size, 1, none⟩) hg1 (.int .i64 b1))
  have s0 : ((w6.setCell ⟨w3.heap.size, 0, none⟩ (.int .i64 b0)).setCell ⟨w3.heap.size, 1, none⟩ (.int .i64 b1)).cell? ⟨w.heap.size, 0, none⟩ = some (.slice A n1 c) := kS.out.cell 0
  have s1 : ((w6.setCell ⟨w3.heap.size, 0, none⟩ (.int .i64 b0)).setCell ⟨w3.heap.size, 1, none⟩ (.int .i64 b1)).cell? ⟨w.heap.size, 1, none⟩ = some (.slice A2 n2 c2) := kS.out.cell 1
  have a0 : ((w6.setCell ⟨w3.heap.size, 0, none⟩ (.int .i64 b0)).setCell ⟨w3.heap.size, 1, none⟩ (.int .i64 b1)).cell? ⟨w.heap.size + 1, 0, none⟩ = some (.int .i64 k) := kA.out.cell 0
  have a2 : ((w6.setCell ⟨w3.heap.size, 0, none⟩ (.int .i64 b0)).setCell ⟨w3.heap.size, 1, none⟩ (.int .i64 b1)).cell? ⟨w.heap.size + 1, 2, none⟩ = some (.int .i64 x) := kA.out.cell 2
  go_wp2_with fail
  refine (hHR.out _ hB.out).mono ?_
  rintro e w8 ⟨rfl, hb⟩
  replace kS := hide (kS.out.below hb kS.out.lt)
  replace kA := hide (kA.out.below hb kA.out.lt)
  replace k11 := hide (k11.out.below hb k11.out.lt)
  replace k12 := hide (k12.out.below hb k12.out.lt)
  replace hB := hide (hB.out.trans (hb.mono hB.out.size))
  clear hb s0 s1 a0 a2 hHR g0 g1 f0 f1
  have g0 : w8.cell? ⟨w5.heap.size, 0, none⟩ = some (.int .i64 m0) := k12.out.cell 0
  have g1 : w8.cell? ⟨w5.heap.size, 1, none⟩ = some (.int .i64 m1) := k12.out.cell 1
  have f0 : w8.frozen? ⟨w5.heap.size, 0, none⟩ = false := k12.out.frozen 0
  have f1 : w8.frozen? ⟨w5.heap.size, 1, none⟩ = false := k12.out.frozen 1
  replace k11 := hide ((k11.out.far (p := ⟨w5.heap.size, 0, none⟩) hn4 (.int .i64 b0)).far (p := ⟨w5.heap.size, 1, none⟩) hn4 (.int .i64 b1))
  replace k12 := hide (show Blk ((w8.setCell ⟨w5.heap.size, 0, none⟩ (.int .i64 b0)).setCell ⟨w5.heap.size, 1, none⟩ (.int .i64 b1)) w5.heap.size 32 #[.int .i64 b0, .int .i64 b1] by have := (k12.out.set_ 0 (.int .i64 b0)).set_ 1 (.int .i64 b1); simpa using this)
  replace hB := hide ((hB.out.setCell (p := ⟨w5.heap.size, 0, none⟩) hg2 (.int .i64 b0)).setCell (p := ⟨w5.heap.size, 1, none⟩) hg2 (.int .i64 b1))
  have x0 : ((w8.setCell ⟨w5.heap.size, 0, none⟩ (.int .i64 b0)).setCell ⟨w5.heap.size, 1, none⟩ (.int .i64 b1)).cell? ⟨w3.heap.size, 0, none⟩ = some (.int .i64 b0) := k11.out.cell 0
  have x1 : ((w8.setCell ⟨w5.heap.size, 0, none⟩ (.int .i64 b0)).setCell ⟨w5.heap.size, 1, none⟩ (.int .i64 b1)).cell? ⟨w3.heap.size, 1, none⟩ = some (.int .i64 b1) := k11.out.cell 1
  have y0 : ((w8.setCell ⟨w5.heap.size, 0, none⟩ (.int .i64 b0)).setCell ⟨w5.heap.size, 1, none⟩ (.int .i64 b1)).cell? ⟨w5.heap.size, 0, none⟩ = some (.int .i64 b0) := k12.out.cell 0
  have y1 : ((w8.setCell ⟨w5.heap.size, 0, none⟩ (.int .i64 b0)).setCell ⟨w5.heap.size, 1, none⟩ (.int .i64 b1)).cell? ⟨w5.heap.size, 1, none⟩ = some (.int .i64 b1) := k12.out.cell 1
  have hn := heq.out
  go_wp2_with fail
  clear hn
  refine (AwakeS _).mono ?_
  rintro e w10 ⟨rfl, hb⟩
  replace hB := hide (hB.out.trans (hb.mono hB.out.size))
  clear hb x0 x1 y0 y1 g0 g1 f0 f1
  go_wp2
  go_ret
  exact ⟨rfl, hB.out⟩
end Go.Proofs.Ytkhijdbigpaagaa
