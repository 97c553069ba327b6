/-
  The law BookChecks: Check and Fee answer as the reference does.
-/
import Derived.Test.YtkmhldjebopljaaPb
import Derived.Test.YtkmhldjebopljaaOy
namespace Go.Proofs.Ytkmhldjebopljaa
open Go.RowKit RG

set_option maxRecDepth 100000 in
set_option maxHeartbeats 2000000 in
theorem BookChecks_any (v : Value) (S : BSch) (x0 x1 : Int) (w : World) (h : RdBSch w v S) :
    Calls Try.prog 3 #[v, .agg #[.int .i64 x0, .int .i64 x1]] w fun e w' => e = .returned (.bool true) ∧ Below w.heap.size w w' := by
  have hC := hide (fun W (hb : Below w.heap.size w W) => Check_any v S W (h.below hb))
  have hD := hide (fun W (hb : Below w.heap.size w W) => CheckR_any v S W (h.below hb))
  have hF := hide (fun W (hb : Below w.heap.size w W) => Fee_any v S x0 x1 W (h.below hb))
  have hG := hide (fun W (hb : Below w.heap.size w W) => FeeR_any v S x0 x1 W (h.below hb))
  generalize checkB S = q at *
  obtain ⟨qa, qb, qc⟩ := q
  generalize feeF S x0 x1 = r at *
  obtain ⟨ra, rb⟩ := r
  simp only at hC hD hF hG
  obtain ⟨L, C, T, cl, cc, ct, rfl, -⟩ := h
  unfold schCells at *
  generalize S.learners.length = nl at *
  generalize S.cars.length = nc at *
  generalize S.terms.length = nt at *
  generalize S.price = pr at *
  generalize S.excess = ex at *
  generalize S.lo = lo at *
  generalize S.hi = hi at *
  obtain ⟨W, hW⟩ : ∃ y, (w.alloc (.cells #[.slice L nl cl, .slice C nc cc, .int .i64 pr, .int .i64 ex, .int .i64 lo, .int .i64 hi, .slice T nt ct] 28)).alloc (.cells #[.int .i64 x0, .int .i64 x1] 29) = y := ⟨_, rfl⟩
  have kb := hide (show Blk W w.heap.size 28 #[.slice L nl cl, .slice C nc cc, .int .i64 pr, .int .i64 ex, .int .i64 lo, .int .i64 hi, .slice T nt ct] by rw [← hW]; exact (blkNew rfl).alloc _)
  have kx := hide (show Blk W (w.heap.size + 1) 29 #[.int .i64 x0, .int .i64 x1] by rw [← hW]; exact blkNew (by simp))
  have hB := hide (show Below w.heap.size w W by rw [← hW]; exact ((Below.refl _ _).alloc (Nat.le_refl _) _).alloc (by simp) _)
  replace hW := hide hW
  have c0 : W.cell? ⟨w.heap.size, 0, none⟩ = some (.slice L nl cl) := kb.out.cell 0
  have c1 : W.cell? ⟨w.heap.size, 1, none⟩ = some (.slice C nc cc) := kb.out.cell 1
  have c2 : W.cell? ⟨w.heap.size, 2, none⟩ = some (.int .i64 pr) := kb.out.cell 2
  have c3 : W.cell? ⟨w.heap.size, 3, none⟩ = some (.int .i64 ex) := kb.out.cell 3
  have c4 : W.cell? ⟨w.heap.size, 4, none⟩ = some (.int .i64 lo) := kb.out.cell 4
  have c5 : W.cell? ⟨w.heap.size, 5, none⟩ = some (.int .i64 hi) := kb.out.cell 5
  have c6 : W.cell? ⟨w.heap.size, 6, none⟩ = some (.slice T nt ct) := kb.out.cell 6
  go_enter Try.func3, Try.ntmps3
  go_upto_region 1 with fail
  rw [hW.out]
  go_wp2_with fail
  refine (hC.out W hB.out).mono ?_
  rintro e w1 ⟨rfl, hb⟩
  replace kb := hide (kb.out.below hb kb.out.lt)
  replace kx := hide (kx.out.below hb kx.out.lt)
  replace hB := hide (hB.out.trans (hb.mono hB.out.size))
  clear hb hC c0 c1 c2 c3 c4 c5 c6
  have c0 : w1.cell? ⟨w.heap.size, 0, none⟩ = some (.slice L nl cl) := kb.out.cell 0
  have c1 : w1.cell? ⟨w.heap.size, 1, none⟩ = some (.slice C nc cc) := kb.out.cell 1
  have c2 : w1.cell? ⟨w.heap.size, 2, none⟩ = some (.int .i64 pr) := kb.out.cell 2
  have c3 : w1.cell? ⟨w.heap.size, 3, none⟩ = some (.int .i64 ex) := kb.out.cell 3
  have c4 : w1.cell? ⟨w.heap.size, 4, none⟩ = some (.int .i64 lo) := kb.out.cell 4
  have c5 : w1.cell? ⟨w.heap.size, 5, none⟩ = some (.int .i64 hi) := kb.out.cell 5
  have c6 : w1.cell? ⟨w.heap.size, 6, none⟩ = some (.slice T nt ct) := kb.out.cell 6
  go_wp2_with fail
  refine (hD.out w1 hB.out).mono ?_
  rintro e w2 ⟨rfl, hb⟩
  replace kb := hide (kb.out.below hb kb.out.lt)
  replace kx := hide (kx.out.below hb kx.out.lt)
  replace hB := hide (hB.out.trans (hb.mono hB.out.size))
  clear hb hD c0 c1 c2 c3 c4 c5 c6
  have b0 : (qa != qa) = false := by simp
  have b1 : (qb != qb) = false := by simp
  have b2 : (qc != qc) = false := by simp
  have c0 : w2.cell? ⟨w.heap.size, 0, none⟩ = some (.slice L nl cl) := kb.out.cell 0
  have c1 : w2.cell? ⟨w.heap.size, 1, none⟩ = some (.slice C nc cc) := kb.out.cell 1
  have c2 : w2.cell? ⟨w.heap.size, 2, none⟩ = some (.int .i64 pr) := kb.out.cell 2
  have c3 : w2.cell? ⟨w.heap.size, 3, none⟩ = some (.int .i64 ex) := kb.out.cell 3
  have c4 : w2.cell? ⟨w.heap.size, 4, none⟩ = some (.int .i64 lo) := kb.out.cell 4
  have c5 : w2.cell? ⟨w.heap.size, 5, none⟩ = some (.int .i64 hi) := kb.out.cell 5
  have c6 : w2.cell? ⟨w.heap.size, 6, none⟩ = some (.slice T nt ct) := kb.out.cell 6
  have z0 : w2.cell? ⟨w.heap.size + 1, 0, none⟩ = some (.int .i64 x0) := kx.out.cell 0
  have z1 : w2.cell? ⟨w.heap.size + 1, 1, none⟩ = some (.int .i64 x1) := kx.out.cell 1
  go_wp2_with fail
  refine (hF.out w2 hB.out).mono ?_
  rintro e w3 ⟨rfl, hb⟩
  replace kb := hide (kb.out.below hb kb.out.lt)
  replace kx := hide (kx.out.below hb kx.out.lt)
  replace hB := hide (hB.out.trans (hb.mono hB.out.size))
  clear hb hF c0 c1 c2 c3 c4 c5 c6
  clear z0 z1
  have c0 : w3.cell? ⟨w.heap.size, 0, none⟩ = some (.slice L nl cl) := kb.out.cell 0
  have c1 : w3.cell? ⟨w.heap.size, 1, none⟩ = some (.slice C nc cc) := kb.out.cell 1
  have c2 : w3.cell? ⟨w.heap.size, 2, none⟩ = some (.int .i64 pr) := kb.out.cell 2
  have c3 : w3.cell? ⟨w.heap.size, 3, none⟩ = some (.int .i64 ex) := kb.out.cell 3
  have c4 : w3.cell? ⟨w.heap.size, 4, none⟩ = some (.int .i64 lo) := kb.out.cell 4
  have c5 : w3.cell? ⟨w.heap.size, 5, none⟩ = some (.int .i64 hi) := kb.out.cell 5
  have c6 : w3.cell? ⟨w.heap.size, 6, none⟩ = some (.slice T nt ct) := kb.out.cell 6
  have z0 : w3.cell? ⟨w.heap.size + 1, 0, none⟩ = some (.int .i64 x0) := kx.out.cell 0
  have z1 : w3.cell? ⟨w.heap.size + 1, 1, none⟩ = some (.int .i64 x1) := kx.out.cell 1
  go_wp2_with fail
  refine (hG.out w3 hB.out).mono ?_
  rintro e w4 ⟨rfl, hb⟩
  replace kb := hide (kb.out.below hb kb.out.lt)
  replace kx := hide (kx.out.below hb kx.out.lt)
  replace hB := hide (hB.out.trans (hb.mono hB.out.size))
  clear hb hG c0 c1 c2 c3 c4 c5 c6
  clear z0 z1 kb kx
  have e0 : (ra == ra) = true := by simp
  have e1 : (rb == rb) = true := by simp
  go_wp2_with fail
  refine (AwakeB _).mono ?_
  rintro e w5 ⟨rfl, hb⟩
  replace hB := hide (hB.out.trans (hb.mono hB.out.size))
  clear hb
  go_wp2
  go_ret
  exact ⟨rfl, hB.out⟩
end Go.Proofs.Ytkmhldjebopljaa
