import Derived.Test.YtnmgnonbgihalaaPc
/-
  A stand with its next question (made by mkpa.py).
-/
namespace Go.Proofs.Ytnmgnonbgihalaa
open Go.RowKit RG

set_option maxRecDepth 100000 in
set_option maxHeartbeats 2000000 in
theorem with_0 (gq oq cq cw gw cg gl M : Nat) (Wd : Option Addr) (B : Bank) (k : Nat) (a b c d l wk : Int) (w : World) (hgq : gq < w.heap.size) (e0 : w.cell? ⟨gq, oq + k * 3, none⟩ = some (.int .i64 0)) (hgw : gw < w.heap.size) (e3 : w.cell? ⟨gw, k, none⟩ = some (.int .i64 wk)) (hnq : B.qs.length ≤ 16) (hk : k < B.qs.length) (u2 : IntKind.i64.wrap (l + wk) = l + wk) (v0 : IntKind.i64.wrap (a - 1) = a - 1) :
    Calls Try.prog 77 #[vwV (some ⟨gq, oq, none⟩) Wd cq cw gw cg gl M B, stV k a b c d l] w fun e w' => e = .returned (stV ((k : Int) + 1) (a - 1) b c d (l + wk)) ∧ Below w.heap.size w w' := by
  have hkz : (k : Int) < (B.qs.length : Int) := by omega
  have hk0 : (0 : Int) ≤ (k : Int) := by omega
  have u1 : IntKind.i64.wrap ((k : Int) + 1) = (k : Int) + 1 := by rw [IntKind.wrap_i64]; omega
  unfold vwV stV
  obtain ⟨W, hW⟩ : ∃ y, ((w.alloc (.cells #[.slice (some ⟨gq, oq, none⟩) B.qs.length cq, .slice Wd B.wanted.length cw, .int .i64 B.lo, .int .i64 B.hi, .slice (some ⟨gw, 0, none⟩) B.qs.length cg, .slice (some ⟨gl, 0, none⟩) (B.qs.length + 1) (B.qs.length + 1), .map (some M)] 85)).alloc (.cells #[.int .i64 k, .int .i64 a, .int .i64 b, .int .i64 c, .int .i64 d, .int .i64 l] 113)).alloc (.cells #[.int .i64 0, .int .i64 0, .int .i64 0, .int .i64 0, .int .i64 0, .int .i64 0] 113) = y := ⟨_, rfl⟩
  have bW0 := hide (show Blk W w.heap.size 85 #[.slice (some ⟨gq, oq, none⟩) B.qs.length cq, .slice Wd B.wanted.length cw, .int .i64 B.lo, .int .i64 B.hi, .slice (some ⟨gw, 0, none⟩) B.qs.length cg, .slice (some ⟨gl, 0, none⟩) (B.qs.length + 1) (B.qs.length + 1), .map (some M)] by rw [← hW]; exact ((blkNew rfl).alloc _).alloc _)
  have bW1 := hide (show Blk W (w.heap.size + 1) 113 #[.int .i64 k, .int .i64 a, .int .i64 b, .int .i64 c, .int .i64 d, .int .i64 l] by rw [← hW]; exact (blkNew (by simp)).alloc _)
  have bW2 := hide (show Blk W (w.heap.size + 1 + 1) 113 #[.int .i64 0, .int .i64 0, .int .i64 0, .int .i64 0, .int .i64 0, .int .i64 0] by rw [← hW]; exact blkNew (by simp))
  have hBW := hide (show Below w.heap.size w W by rw [← hW]; exact (((Below.refl _ _).alloc (Nat.le_refl _) _).alloc (by simp <;> omega) _).alloc (by simp <;> omega) _)
  replace hW := hide hW
  have d0 : W.cell? ⟨gq, oq + k * 3, none⟩ = some (.int .i64 0) := (cellB hBW.out hgq).trans e0
  have c0 : W.cell? ⟨w.heap.size, 0, none⟩ = some (.slice (some ⟨gq, oq, none⟩) B.qs.length cq) := bW0.out.cell 0
  have s0 : W.cell? ⟨w.heap.size + 1, 0, none⟩ = some (.int .i64 k) := bW1.out.cell 0
  have s1 : W.cell? ⟨w.heap.size + 1, 1, none⟩ = some (.int .i64 a) := bW1.out.cell 1
  have s2 : W.cell? ⟨w.heap.size + 1, 2, none⟩ = some (.int .i64 b) := bW1.out.cell 2
  have s3 : W.cell? ⟨w.heap.size + 1, 3, none⟩ = some (.int .i64 c) := bW1.out.cell 3
  have s4 : W.cell? ⟨w.heap.size + 1, 4, none⟩ = some (.int .i64 d) := bW1.out.cell 4
  have s5 : W.cell? ⟨w.heap.size + 1, 5, none⟩ = some (.int .i64 l) := bW1.out.cell 5
  have z1 := bW1.out.frozen 1
  obtain ⟨W2, hW2⟩ : ∃ y, W.setCell ⟨w.heap.size + 1, 1, none⟩ (.int .i64 (a - 1)) = y := ⟨_, rfl⟩
  have bW1' := hide (show Blk W2 (w.heap.size + 1) 113 #[.int .i64 k, .int .i64 (a - 1), .int .i64 b, .int .i64 c, .int .i64 d, .int .i64 l] by rw [← hW2]; exact bW1.out.set_ 1 (.int .i64 (a - 1)))
  have bW0' := hide (show Blk W2 w.heap.size 85 #[.slice (some ⟨gq, oq, none⟩) B.qs.length cq, .slice Wd B.wanted.length cw, .int .i64 B.lo, .int .i64 B.hi, .slice (some ⟨gw, 0, none⟩) B.qs.length cg, .slice (some ⟨gl, 0, none⟩) (B.qs.length + 1) (B.qs.length + 1), .map (some M)] by rw [← hW2]; exact bW0.out.far (p := ⟨w.heap.size + 1, 1, none⟩) (by simp) (.int .i64 (a - 1)))
  have bW2' := hide (show Blk W2 (w.heap.size + 1 + 1) 113 #[.int .i64 0, .int .i64 0, .int .i64 0, .int .i64 0, .int .i64 0, .int .i64 0] by rw [← hW2]; exact bW2.out.far (p := ⟨w.heap.size + 1, 1, none⟩) (by simp) (.int .i64 (a - 1)))
  replace hW2 := hide hW2
  go_enter Try.func77, Try.ntmps77
  go_upto_region 1 with fail
  rw [hW.out]
  go_upto_region 2 with fail
  rw [hW2.out]
  clear d0 c0 s0 s1 s2 s3 s4 s5 z1
  have hB2 := hide (show Below w.heap.size w W2 by rw [← hW2.out]; exact hBW.out.setCell (p := ⟨w.heap.size + 1, 1, none⟩) (by simp) _)
  have d1 : W2.cell? ⟨gw, k, none⟩ = some (.int .i64 wk) := (cellB hB2.out hgw).trans e3
  have c4 : W2.cell? ⟨w.heap.size, 4, none⟩ = some (.slice (some ⟨gw, 0, none⟩) B.qs.length cg) := bW0'.out.cell 4
  have s0 : W2.cell? ⟨w.heap.size + 1, 0, none⟩ = some (.int .i64 k) := bW1'.out.cell 0
  have s1 : W2.cell? ⟨w.heap.size + 1, 1, none⟩ = some (.int .i64 (a - 1)) := bW1'.out.cell 1
  have s2 : W2.cell? ⟨w.heap.size + 1, 2, none⟩ = some (.int .i64 b) := bW1'.out.cell 2
  have s3 : W2.cell? ⟨w.heap.size + 1, 3, none⟩ = some (.int .i64 c) := bW1'.out.cell 3
  have s4 : W2.cell? ⟨w.heap.size + 1, 4, none⟩ = some (.int .i64 d) := bW1'.out.cell 4
  have s5 : W2.cell? ⟨w.heap.size + 1, 5, none⟩ = some (.int .i64 l) := bW1'.out.cell 5
  have r0 : W2.cell? ⟨w.heap.size + 1 + 1, 0, none⟩ = some (.int .i64 0) := bW2'.out.cell 0
  have r1 : W2.cell? ⟨w.heap.size + 1 + 1, 1, none⟩ = some (.int .i64 0) := bW2'.out.cell 1
  have r2 : W2.cell? ⟨w.heap.size + 1 + 1, 2, none⟩ = some (.int .i64 0) := bW2'.out.cell 2
  have r3 : W2.cell? ⟨w.heap.size + 1 + 1, 3, none⟩ = some (.int .i64 0) := bW2'.out.cell 3
  have r4 : W2.cell? ⟨w.heap.size + 1 + 1, 4, none⟩ = some (.int .i64 0) := bW2'.out.cell 4
  have r5 : W2.cell? ⟨w.heap.size + 1 + 1, 5, none⟩ = some (.int .i64 0) := bW2'.out.cell 5
  have z0 := bW1'.out.frozen 0
  have z5 := bW1'.out.frozen 5
  have y0 := bW2'.out.frozen 0
  have y1 := bW2'.out.frozen 1
  have y2 := bW2'.out.frozen 2
  have y3 := bW2'.out.frozen 3
  have y4 := bW2'.out.frozen 4
  have y5 := bW2'.out.frozen 5
  refine region_tail 10 (by kernel_rfl) (by kernel_rfl) ?_
  simp only [List.take_succ_cons, List.take_zero, List.drop_succ_cons, List.drop_zero]
  iterate 10 still_step
  refine wpStill_nil ?_
  go_wp2
  refine bodyPost_ret (v := .agg #[.int .i64 ((k : Int) + 1), .int .i64 (a - 1), .int .i64 b, .int .i64 c, .int .i64 d, .int .i64 (l + wk)]) ?_ rfl ⟨rfl, ?_⟩
  · have hk := ((((((((bW2'.out.far (p := ⟨w.heap.size + 1, 5, none⟩) (by simp) (.int .i64 (l + wk))).far (p := ⟨w.heap.size + 1, 0, none⟩) (by simp) (.int .i64 ((k : Int) + 1))).set_ 0 (.int .i64 ((k : Int) + 1))).set_ 1 (.int .i64 (a - 1))).set_ 2 (.int .i64 b)).set_ 3 (.int .i64 c)).set_ 4 (.int .i64 d)).set_ 5 (.int .i64 (l + wk))).drew
    have q0 := hk.cell 0
    replace q0 : World.cell? _ ⟨w.heap.size + 1 + 1, 0, none⟩ = some (.int .i64 ((k : Int) + 1)) := q0
    have q1 := hk.cell 1
    replace q1 : World.cell? _ ⟨w.heap.size + 1 + 1, 1, none⟩ = some (.int .i64 (a - 1)) := q1
    have q2 := hk.cell 2
    replace q2 : World.cell? _ ⟨w.heap.size + 1 + 1, 2, none⟩ = some (.int .i64 b) := q2
    have q3 := hk.cell 3
    replace q3 : World.cell? _ ⟨w.heap.size + 1 + 1, 3, none⟩ = some (.int .i64 c) := q3
    have q4 := hk.cell 4
    replace q4 : World.cell? _ ⟨w.heap.size + 1 + 1, 4, none⟩ = some (.int .i64 d) := q4
    have q5 := hk.cell 5
    replace q5 : World.cell? _ ⟨w.heap.size + 1 + 1, 5, none⟩ = some (.int .i64 (l + wk)) := q5
    clear hk
    simp [results, Try.results77, go_sem, q0, q1, q2, q3, q4, q5]
  · refine Below.drew ?_
    iterate 8 (refine Below.setCell ?_ (by simp <;> omega) _)
    exact hB2.out
set_option maxRecDepth 100000 in
set_option maxHeartbeats 2000000 in
theorem with_1 (gq oq cq cw gw cg gl M : Nat) (Wd : Option Addr) (B : Bank) (k : Nat) (a b c d l wk : Int) (w : World) (hgq : gq < w.heap.size) (e0 : w.cell? ⟨gq, oq + k * 3, none⟩ = some (.int .i64 1)) (hgw : gw < w.heap.size) (e3 : w.cell? ⟨gw, k, none⟩ = some (.int .i64 wk)) (hnq : B.qs.length ≤ 16) (hk : k < B.qs.length) (u2 : IntKind.i64.wrap (l + wk) = l + wk) (v0 : IntKind.i64.wrap (b - 1) = b - 1) :
    Calls Try.prog 77 #[vwV (some ⟨gq, oq, none⟩) Wd cq cw gw cg gl M B, stV k a b c d l] w fun e w' => e = .returned (stV ((k : Int) + 1) a (b - 1) c d (l + wk)) ∧ Below w.heap.size w w' := by
  have hkz : (k : Int) < (B.qs.length : Int) := by omega
  have hk0 : (0 : Int) ≤ (k : Int) := by omega
  have u1 : IntKind.i64.wrap ((k : Int) + 1) = (k : Int) + 1 := by rw [IntKind.wrap_i64]; omega
  unfold vwV stV
  obtain ⟨W, hW⟩ : ∃ y, ((w.alloc (.cells #[.slice (some ⟨gq, oq, none⟩) B.qs.length cq, .slice Wd B.wanted.length cw, .int .i64 B.lo, .int .i64 B.hi, .slice (some ⟨gw, 0, none⟩) B.qs.length cg, .slice (some ⟨gl, 0, none⟩) (B.qs.length + 1) (B.qs.length + 1), .map (some M)] 85)).alloc (.cells #[.int .i64 k, .int .i64 a, .int .i64 b, .int .i64 c, .int .i64 d, .int .i64 l] 113)).alloc (.cells #[.int .i64 0, .int .i64 0, .int .i64 0, .int .i64 0, .int .i64 0, .int .i64 0] 113) = y := ⟨_, rfl⟩
  have bW0 := hide (show Blk W w.heap.size 85 #[.slice (some ⟨gq, oq, none⟩) B.qs.length cq, .slice Wd B.wanted.length cw, .int .i64 B.lo, .int .i64 B.hi, .slice (some ⟨gw, 0, none⟩) B.qs.length cg, .slice (some ⟨gl, 0, none⟩) (B.qs.length + 1) (B.qs.length + 1), .map (some M)] by rw [← hW]; exact ((blkNew rfl).alloc _).alloc _)
  have bW1 := hide (show Blk W (w.heap.size + 1) 113 #[.int .i64 k, .int .i64 a, .int .i64 b, .int .i64 c, .int .i64 d, .int .i64 l] by rw [← hW]; exact (blkNew (by simp)).alloc _)
  have bW2 := hide (show Blk W (w.heap.size + 1 + 1) 113 #[.int .i64 0, .int .i64 0, .int .i64 0, .int .i64 0, .int .i64 0, .int .i64 0] by rw [← hW]; exact blkNew (by simp))
  have hBW := hide (show Below w.heap.size w W by rw [← hW]; exact (((Below.refl _ _).alloc (Nat.le_refl _) _).alloc (by simp <;> omega) _).alloc (by simp <;> omega) _)
  replace hW := hide hW
  have d0 : W.cell? ⟨gq, oq + k * 3, none⟩ = some (.int .i64 1) := (cellB hBW.out hgq).trans e0
  have c0 : W.cell? ⟨w.heap.size, 0, none⟩ = some (.slice (some ⟨gq, oq, none⟩) B.qs.length cq) := bW0.out.cell 0
  have s0 : W.cell? ⟨w.heap.size + 1, 0, none⟩ = some (.int .i64 k) := bW1.out.cell 0
  have s1 : W.cell? ⟨w.heap.size + 1, 1, none⟩ = some (.int .i64 a) := bW1.out.cell 1
  have s2 : W.cell? ⟨w.heap.size + 1, 2, none⟩ = some (.int .i64 b) := bW1.out.cell 2
  have s3 : W.cell? ⟨w.heap.size + 1, 3, none⟩ = some (.int .i64 c) := bW1.out.cell 3
  have s4 : W.cell? ⟨w.heap.size + 1, 4, none⟩ = some (.int .i64 d) := bW1.out.cell 4
  have s5 : W.cell? ⟨w.heap.size + 1, 5, none⟩ = some (.int .i64 l) := bW1.out.cell 5
  have z2 := bW1.out.frozen 2
  obtain ⟨W2, hW2⟩ : ∃ y, W.setCell ⟨w.heap.size + 1, 2, none⟩ (.int .i64 (b - 1)) = y := ⟨_, rfl⟩
  have bW1' := hide (show Blk W2 (w.heap.size + 1) 113 #[.int .i64 k, .int .i64 a, .int .i64 (b - 1), .int .i64 c, .int .i64 d, .int .i64 l] by rw [← hW2]; exact bW1.out.set_ 2 (.int .i64 (b - 1)))
  have bW0' := hide (show Blk W2 w.heap.size 85 #[.slice (some ⟨gq, oq, none⟩) B.qs.length cq, .slice Wd B.wanted.length cw, .int .i64 B.lo, .int .i64 B.hi, .slice (some ⟨gw, 0, none⟩) B.qs.length cg, .slice (some ⟨gl, 0, none⟩) (B.qs.length + 1) (B.qs.length + 1), .map (some M)] by rw [← hW2]; exact bW0.out.far (p := ⟨w.heap.size + 1, 2, none⟩) (by simp) (.int .i64 (b - 1)))
  have bW2' := hide (show Blk W2 (w.heap.size + 1 + 1) 113 #[.int .i64 0, .int .i64 0, .int .i64 0, .int .i64 0, .int .i64 0, .int .i64 0] by rw [← hW2]; exact bW2.out.far (p := ⟨w.heap.size + 1, 2, none⟩) (by simp) (.int .i64 (b - 1)))
  replace hW2 := hide hW2
  go_enter Try.func77, Try.ntmps77
  go_upto_region 1 with fail
  rw [hW.out]
  go_upto_region 2 with fail
  rw [hW2.out]
  clear d0 c0 s0 s1 s2 s3 s4 s5 z2
  have hB2 := hide (show Below w.heap.size w W2 by rw [← hW2.out]; exact hBW.out.setCell (p := ⟨w.heap.size + 1, 2, none⟩) (by simp) _)
  have d1 : W2.cell? ⟨gw, k, none⟩ = some (.int .i64 wk) := (cellB hB2.out hgw).trans e3
  have c4 : W2.cell? ⟨w.heap.size, 4, none⟩ = some (.slice (some ⟨gw, 0, none⟩) B.qs.length cg) := bW0'.out.cell 4
  have s0 : W2.cell? ⟨w.heap.size + 1, 0, none⟩ = some (.int .i64 k) := bW1'.out.cell 0
  have s1 : W2.cell? ⟨w.heap.size + 1, 1, none⟩ = some (.int .i64 a) := bW1'.out.cell 1
  have s2 : W2.cell? ⟨w.heap.size + 1, 2, none⟩ = some (.int .i64 (b - 1)) := bW1'.out.cell 2
  have s3 : W2.cell? ⟨w.heap.size + 1, 3, none⟩ = some (.int .i64 c) := bW1'.out.cell 3
  have s4 : W2.cell? ⟨w.heap.size + 1, 4, none⟩ = some (.int .i64 d) := bW1'.out.cell 4
  have s5 : W2.cell? ⟨w.heap.size + 1, 5, none⟩ = some (.int .i64 l) := bW1'.out.cell 5
  have r0 : W2.cell? ⟨w.heap.size + 1 + 1, 0, none⟩ = some (.int .i64 0) := bW2'.out.cell 0
  have r1 : W2.cell? ⟨w.heap.size + 1 + 1, 1, none⟩ = some (.int .i64 0) := bW2'.out.cell 1
  have r2 : W2.cell? ⟨w.heap.size + 1 + 1, 2, none⟩ = some (.int .i64 0) := bW2'.out.cell 2
  have r3 : W2.cell? ⟨w.heap.size + 1 + 1, 3, none⟩ = some (.int .i64 0) := bW2'.out.cell 3
  have r4 : W2.cell? ⟨w.heap.size + 1 + 1, 4, none⟩ = some (.int .i64 0) := bW2'.out.cell 4
  have r5 : W2.cell? ⟨w.heap.size + 1 + 1, 5, none⟩ = some (.int .i64 0) := bW2'.out.cell 5
  have z0 := bW1'.out.frozen 0
  have z5 := bW1'.out.frozen 5
  have y0 := bW2'.out.frozen 0
  have y1 := bW2'.out.frozen 1
  have y2 := bW2'.out.frozen 2
  have y3 := bW2'.out.frozen 3
  have y4 := bW2'.out.frozen 4
  have y5 := bW2'.out.frozen 5
  refine region_tail 10 (by kernel_rfl) (by kernel_rfl) ?_
  simp only [List.take_succ_cons, List.take_zero, List.drop_succ_cons, List.drop_zero]
  iterate 10 still_step
  refine wpStill_nil ?_
  go_wp2
  refine bodyPost_ret (v := .agg #[.int .i64 ((k : Int) + 1), .int .i64 a, .int .i64 (b - 1), .int .i64 c, .int .i64 d, .int .i64 (l + wk)]) ?_ rfl ⟨rfl, ?_⟩
  · have hk := ((((((((bW2'.out.far (p := ⟨w.heap.size + 1, 5, none⟩) (by simp) (.int .i64 (l + wk))).far (p := ⟨w.heap.size + 1, 0, none⟩) (by simp) (.int .i64 ((k : Int) + 1))).set_ 0 (.int .i64 ((k : Int) + 1))).set_ 1 (.int .i64 a)).set_ 2 (.int .i64 (b - 1))).set_ 3 (.int .i64 c)).set_ 4 (.int .i64 d)).set_ 5 (.int .i64 (l + wk))).drew
    have q0 := hk.cell 0
    replace q0 : World.cell? _ ⟨w.heap.size + 1 + 1, 0, none⟩ = some (.int .i64 ((k : Int) + 1)) := q0
    have q1 := hk.cell 1
    replace q1 : World.cell? _ ⟨w.heap.size + 1 + 1, 1, none⟩ = some (.int .i64 a) := q1
    have q2 := hk.cell 2
    replace q2 : World.cell? _ ⟨w.heap.size + 1 + 1, 2, none⟩ = some (.int .i64 (b - 1)) := q2
    have q3 := hk.cell 3
    replace q3 : World.cell? _ ⟨w.heap.size + 1 + 1, 3, none⟩ = some (.int .i64 c) := q3
    have q4 := hk.cell 4
    replace q4 : World.cell? _ ⟨w.heap.size + 1 + 1, 4, none⟩ = some (.int .i64 d) := q4
    have q5 := hk.cell 5
    replace q5 : World.cell? _ ⟨w.heap.size + 1 + 1, 5, none⟩ = some (.int .i64 (l + wk)) := q5
    clear hk
    simp [results, Try.results77, go_sem, q0, q1, q2, q3, q4, q5]
  · refine Below.drew ?_
    iterate 8 (refine Below.setCell ?_ (by simp <;> omega) _)
    exact hB2.out
set_option maxRecDepth 100000 in
set_option maxHeartbeats 2000000 in
theorem with_2 (gq oq cq cw gw cg gl M : Nat) (Wd : Option Addr) (B : Bank) (k : Nat) (a b c d l wk : Int) (w : World) (hgq : gq < w.heap.size) (e0 : w.cell? ⟨gq, oq + k * 3, none⟩ = some (.int .i64 2)) (hgw : gw < w.heap.size) (e3 : w.cell? ⟨gw, k, none⟩ = some (.int .i64 wk)) (hnq : B.qs.length ≤ 16) (hk : k < B.qs.length) (u2 : IntKind.i64.wrap (l + wk) = l + wk) (v0 : IntKind.i64.wrap (c - 1) = c - 1) :
    Calls Try.prog 77 #[vwV (some ⟨gq, oq, none⟩) Wd cq cw gw cg gl M B, stV k a b c d l] w fun e w' => e = .returned (stV ((k : Int) + 1) a b (c - 1) d (l + wk)) ∧ Below w.heap.size w w' := by
  have hkz : (k : Int) < (B.qs.length : Int) := by omega
  have hk0 : (0 : Int) ≤ (k : Int) := by omega
  have u1 : IntKind.i64.wrap ((k : Int) + 1) = (k : Int) + 1 := by rw [IntKind.wrap_i64]; omega
  unfold vwV stV
  obtain ⟨W, hW⟩ : ∃ y, ((w.alloc (.cells #[.slice (some ⟨gq, oq, none⟩) B.qs.length cq, .slice Wd B.wanted.length cw, .int .i64 B.lo, .int .i64 B.hi, .slice (some ⟨gw, 0, none⟩) B.qs.length cg, .slice (some ⟨gl, 0, none⟩) (B.qs.length + 1) (B.qs.length + 1), .map (some M)] 85)).alloc (.cells #[.int .i64 k, .int .i64 a, .int .i64 b, .int .i64 c, .int .i64 d, .int .i64 l] 113)).alloc (.cells #[.int .i64 0, .int .i64 0, .int .i64 0, .int .i64 0, .int .i64 0, .int .i64 0] 113) = y := ⟨_, rfl⟩
  have bW0 := hide (show Blk W w.heap.size 85 #[.slice (some ⟨gq, oq, none⟩) B.qs.length cq, .slice Wd B.wanted.length cw, .int .i64 B.lo, .int .i64 B.hi, .slice (some ⟨gw, 0, none⟩) B.qs.length cg, .slice (some ⟨gl, 0, none⟩) (B.qs.length + 1) (B.qs.length + 1), .map (some M)] by rw [← hW]; exact ((blkNew rfl).alloc _).alloc _)
  have bW1 := hide (show Blk W (w.heap.size + 1) 113 #[.int .i64 k, .int .i64 a, .int .i64 b, .int .i64 c, .int .i64 d, .int .i64 l] by rw [← hW]; exact (blkNew (by simp)).alloc _)
  have bW2 := hide (show Blk W (w.heap.size + 1 + 1) 113 #[.int .i64 0, .int .i64 0, .int .i64 0, .int .i64 0, .int .i64 0, .int .i64 0] by rw [← hW]; exact blkNew (by simp))
  have hBW := hide (show Below w.heap.size w W by rw [← hW]; exact (((Below.refl _ _).alloc (Nat.le_refl _) _).alloc (by simp <;> omega) _).alloc (by simp <;> omega) _)
  replace hW := hide hW
  have d0 : W.cell? ⟨gq, oq + k * 3, none⟩ = some (.int .i64 2) := (cellB hBW.out hgq).trans e0
  have c0 : W.cell? ⟨w.heap.size, 0, none⟩ = some (.slice (some ⟨gq, oq, none⟩) B.qs.length cq) := bW0.out.cell 0
  have s0 : W.cell? ⟨w.heap.size + 1, 0, none⟩ = some (.int .i64 k) := bW1.out.cell 0
  have s1 : W.cell? ⟨w.heap.size + 1, 1, none⟩ = some (.int .i64 a) := bW1.out.cell 1
  have s2 : W.cell? ⟨w.heap.size + 1, 2, none⟩ = some (.int .i64 b) := bW1.out.cell 2
  have s3 : W.cell? ⟨w.heap.size + 1, 3, none⟩ = some (.int .i64 c) := bW1.out.cell 3
  have s4 : W.cell? ⟨w.heap.size + 1, 4, none⟩ = some (.int .i64 d) := bW1.out.cell 4
  have s5 : W.cell? ⟨w.heap.size + 1, 5, none⟩ = some (.int .i64 l) := bW1.out.cell 5
  have z3 := bW1.out.frozen 3
  obtain ⟨W2, hW2⟩ : ∃ y, W.setCell ⟨w.heap.size + 1, 3, none⟩ (.int .i64 (c - 1)) = y := ⟨_, rfl⟩
  have bW1' := hide (show Blk W2 (w.heap.size + 1) 113 #[.int .i64 k, .int .i64 a, .int .i64 b, .int .i64 (c - 1), .int .i64 d, .int .i64 l] by rw [← hW2]; exact bW1.out.set_ 3 (.int .i64 (c - 1)))
  have bW0' := hide (show Blk W2 w.heap.size 85 #[.slice (some ⟨gq, oq, none⟩) B.qs.length cq, .slice Wd B.wanted.length cw, .int .i64 B.lo, .int .i64 B.hi, .slice (some ⟨gw, 0, none⟩) B.qs.length cg, .slice (some ⟨gl, 0, none⟩) (B.qs.length + 1) (B.qs.length + 1), .map (some M)] by rw [← hW2]; exact bW0.out.far (p := ⟨w.heap.size + 1, 3, none⟩) (by simp) (.int .i64 (c - 1)))
  have bW2' := hide (show Blk W2 (w.heap.size + 1 + 1) 113 #[.int .i64 0, .int .i64 0, .int .i64 0, .int .i64 0, .int .i64 0, .int .i64 0] by rw [← hW2]; exact bW2.out.far (p := ⟨w.heap.size + 1, 3, none⟩) (by simp) (.int .i64 (c - 1)))
  replace hW2 := hide hW2
  go_enter Try.func77, Try.ntmps77
  go_upto_region 1 with fail
  rw [hW.out]
  go_upto_region 2 with fail
  rw [hW2.out]
  clear d0 c0 s0 s1 s2 s3 s4 s5 z3
  have hB2 := hide (show Below w.heap.size w W2 by rw [← hW2.out]; exact hBW.out.setCell (p := ⟨w.heap.size + 1, 3, none⟩) (by simp) _)
  have d1 : W2.cell? ⟨gw, k, none⟩ = some (.int .i64 wk) := (cellB hB2.out hgw).trans e3
  have c4 : W2.cell? ⟨w.heap.size, 4, none⟩ = some (.slice (some ⟨gw, 0, none⟩) B.qs.length cg) := bW0'.out.cell 4
  have s0 : W2.cell? ⟨w.heap.size + 1, 0, none⟩ = some (.int .i64 k) := bW1'.out.cell 0
  have s1 : W2.cell? ⟨w.heap.size + 1, 1, none⟩ = some (.int .i64 a) := bW1'.out.cell 1
  have s2 : W2.cell? ⟨w.heap.size + 1, 2, none⟩ = some (.int .i64 b) := bW1'.out.cell 2
  have s3 : W2.cell? ⟨w.heap.size + 1, 3, none⟩ = some (.int .i64 (c - 1)) := bW1'.out.cell 3
  have s4 : W2.cell? ⟨w.heap.size + 1, 4, none⟩ = some (.int .i64 d) := bW1'.out.cell 4
  have s5 : W2.cell? ⟨w.heap.size + 1, 5, none⟩ = some (.int .i64 l) := bW1'.out.cell 5
  have r0 : W2.cell? ⟨w.heap.size + 1 + 1, 0, none⟩ = some (.int .i64 0) := bW2'.out.cell 0
  have r1 : W2.cell? ⟨w.heap.size + 1 + 1, 1, none⟩ = some (.int .i64 0) := bW2'.out.cell 1
  have r2 : W2.cell? ⟨w.heap.size + 1 + 1, 2, none⟩ = some (.int .i64 0) := bW2'.out.cell 2
  have r3 : W2.cell? ⟨w.heap.size + 1 + 1, 3, none⟩ = some (.int .i64 0) := bW2'.out.cell 3
  have r4 : W2.cell? ⟨w.heap.size + 1 + 1, 4, none⟩ = some (.int .i64 0) := bW2'.out.cell 4
  have r5 : W2.cell? ⟨w.heap.size + 1 + 1, 5, none⟩ = some (.int .i64 0) := bW2'.out.cell 5
  have z0 := bW1'.out.frozen 0
  have z5 := bW1'.out.frozen 5
  have y0 := bW2'.out.frozen 0
  have y1 := bW2'.out.frozen 1
  have y2 := bW2'.out.frozen 2
  have y3 := bW2'.out.frozen 3
  have y4 := bW2'.out.frozen 4
  have y5 := bW2'.out.frozen 5
  refine region_tail 10 (by kernel_rfl) (by kernel_rfl) ?_
  simp only [List.take_succ_cons, List.take_zero, List.drop_succ_cons, List.drop_zero]
  iterate 10 still_step
  refine wpStill_nil ?_
  go_wp2
  refine bodyPost_ret (v := .agg #[.int .i64 ((k : Int) + 1), .int .i64 a, .int .i64 b, .int .i64 (c - 1), .int .i64 d, .int .i64 (l + wk)]) ?_ rfl ⟨rfl, ?_⟩
  · have hk := ((((((((bW2'.out.far (p := ⟨w.heap.size + 1, 5, none⟩) (by simp) (.int .i64 (l + wk))).far (p := ⟨w.heap.size + 1, 0, none⟩) (by simp) (.int .i64 ((k : Int) + 1))).set_ 0 (.int .i64 ((k : Int) + 1))).set_ 1 (.int .i64 a)).set_ 2 (.int .i64 b)).set_ 3 (.int .i64 (c - 1))).set_ 4 (.int .i64 d)).set_ 5 (.int .i64 (l + wk))).drew
    have q0 := hk.cell 0
    replace q0 : World.cell? _ ⟨w.heap.size + 1 + 1, 0, none⟩ = some (.int .i64 ((k : Int) + 1)) := q0
    have q1 := hk.cell 1
    replace q1 : World.cell? _ ⟨w.heap.size + 1 + 1, 1, none⟩ = some (.int .i64 a) := q1
    have q2 := hk.cell 2
    replace q2 : World.cell? _ ⟨w.heap.size + 1 + 1, 2, none⟩ = some (.int .i64 b) := q2
    have q3 := hk.cell 3
    replace q3 : World.cell? _ ⟨w.heap.size + 1 + 1, 3, none⟩ = some (.int .i64 (c - 1)) := q3
    have q4 := hk.cell 4
    replace q4 : World.cell? _ ⟨w.heap.size + 1 + 1, 4, none⟩ = some (.int .i64 d) := q4
    have q5 := hk.cell 5
    replace q5 : World.cell? _ ⟨w.heap.size + 1 + 1, 5, none⟩ = some (.int .i64 (l + wk)) := q5
    clear hk
    simp [results, Try.results77, go_sem, q0, q1, q2, q3, q4, q5]
  · refine Below.drew ?_
    iterate 8 (refine Below.setCell ?_ (by simp <;> omega) _)
    exact hB2.out
set_option maxRecDepth 100000 in
set_option maxHeartbeats 2000000 in
theorem with_3 (gq oq cq cw gw cg gl M : Nat) (Wd : Option Addr) (B : Bank) (k : Nat) (a b c d l wk : Int) (w : World) (hgq : gq < w.heap.size) (e0 : w.cell? ⟨gq, oq + k * 3, none⟩ = some (.int .i64 3)) (hgw : gw < w.heap.size) (e3 : w.cell? ⟨gw, k, none⟩ = some (.int .i64 wk)) (hnq : B.qs.length ≤ 16) (hk : k < B.qs.length) (u2 : IntKind.i64.wrap (l + wk) = l + wk) (v0 : IntKind.i64.wrap (d - 1) = d - 1) :
    Calls Try.prog 77 #[vwV (some ⟨gq, oq, none⟩) Wd cq cw gw cg gl M B, stV k a b c d l] w fun e w' => e = .returned (stV ((k : Int) + 1) a b c (d - 1) (l + wk)) ∧ Below w.heap.size w w' := by
  have hkz : (k : Int) < (B.qs.length : Int) := by omega
  have hk0 : (0 : Int) ≤ (k : Int) := by omega
  have u1 : IntKind.i64.wrap ((k : Int) + 1) = (k : Int) + 1 := by rw [IntKind.wrap_i64]; omega
  unfold vwV stV
  obtain ⟨W, hW⟩ : ∃ y, ((w.alloc (.cells #[.slice (some ⟨gq, oq, none⟩) B.qs.length cq, .slice Wd B.wanted.length cw, .int .i64 B.lo, .int .i64 B.hi, .slice (some ⟨gw, 0, none⟩) B.qs.length cg, .slice (some ⟨gl, 0, none⟩) (B.qs.length + 1) (B.qs.length + 1), .map (some M)] 85)).alloc (.cells #[.int .i64 k, .int .i64 a, .int .i64 b, .int .i64 c, .int .i64 d, .int .i64 l] 113)).alloc (.cells #[.int .i64 0, .int .i64 0, .int .i64 0, .int .i64 0, .int .i64 0, .int .i64 0] 113) = y := ⟨_, rfl⟩
  have bW0 := hide (show Blk W w.heap.size 85 #[.slice (some ⟨gq, oq, none⟩) B.qs.length cq, .slice Wd B.wanted.length cw, .int .i64 B.lo, .int .i64 B.hi, .slice (some ⟨gw, 0, none⟩) B.qs.length cg, .slice (some ⟨gl, 0, none⟩) (B.qs.length + 1) (B.qs.length + 1), .map (some M)] by rw [← hW]; exact ((blkNew rfl).alloc _).alloc _)
  have bW1 := hide (show Blk W (w.heap.size + 1) 113 #[.int .i64 k, .int .i64 a, .int .i64 b, .int .i64 c, .int .i64 d, .int .i64 l] by rw [← hW]; exact (blkNew (by simp)).alloc _)
  have bW2 := hide (show Blk W (w.heap.size + 1 + 1) 113 #[.int .i64 0, .int .i64 0, .int .i64 0, .int .i64 0, .int .i64 0, .int .i64 0] by rw [← hW]; exact blkNew (by simp))
  have hBW := hide (show Below w.heap.size w W by rw [← hW]; exact (((Below.refl _ _).alloc (Nat.le_refl _) _).alloc (by simp <;> omega) _).alloc (by simp <;> omega) _)
  replace hW := hide hW
  have d0 : W.cell? ⟨gq, oq + k * 3, none⟩ = some (.int .i64 3) := (cellB hBW.out hgq).trans e0
  have c0 : W.cell? ⟨w.heap.size, 0, none⟩ = some (.slice (some ⟨gq, oq, none⟩) B.qs.length cq) := bW0.out.cell 0
  have s0 : W.cell? ⟨w.heap.size + 1, 0, none⟩ = some (.int .i64 k) := bW1.out.cell 0
  have s1 : W.cell? ⟨w.heap.size + 1, 1, none⟩ = some (.int .i64 a) := bW1.out.cell 1
  have s2 : W.cell? ⟨w.heap.size + 1, 2, none⟩ = some (.int .i64 b) := bW1.out.cell 2
  have s3 : W.cell? ⟨w.heap.size + 1, 3, none⟩ = some (.int .i64 c) := bW1.out.cell 3
  have s4 : W.cell? ⟨w.heap.size + 1, 4, none⟩ = some (.int .i64 d) := bW1.out.cell 4
  have s5 : W.cell? ⟨w.heap.size + 1, 5, none⟩ = some (.int .i64 l) := bW1.out.cell 5
  have z4 := bW1.out.frozen 4
  obtain ⟨W2, hW2⟩ : ∃ y, W.setCell ⟨w.heap.size + 1, 4, none⟩ (.int .i64 (d - 1)) = y := ⟨_, rfl⟩
  have bW1' := hide (show Blk W2 (w.heap.size + 1) 113 #[.int .i64 k, .int .i64 a, .int .i64 b, .int .i64 c, .int .i64 (d - 1), .int .i64 l] by rw [← hW2]; exact bW1.out.set_ 4 (.int .i64 (d - 1)))
  have bW0' := hide (show Blk W2 w.heap.size 85 #[.slice (some ⟨gq, oq, none⟩) B.qs.length cq, .slice Wd B.wanted.length cw, .int .i64 B.lo, .int .i64 B.hi, .slice (some ⟨gw, 0, none⟩) B.qs.length cg, .slice (some ⟨gl, 0, none⟩) (B.qs.length + 1) (B.qs.length + 1), .map (some M)] by rw [← hW2]; exact bW0.out.far (p := ⟨w.heap.size + 1, 4, none⟩) (by simp) (.int .i64 (d - 1)))
  have bW2' := hide (show Blk W2 (w.heap.size + 1 + 1) 113 #[.int .i64 0, .int .i64 0, .int .i64 0, .int .i64 0, .int .i64 0, .int .i64 0] by rw [← hW2]; exact bW2.out.far (p := ⟨w.heap.size + 1, 4, none⟩) (by simp) (.int .i64 (d - 1)))
  replace hW2 := hide hW2
  go_enter Try.func77, Try.ntmps77
  go_upto_region 1 with fail
  rw [hW.out]
  go_upto_region 2 with fail
  rw [hW2.out]
  clear d0 c0 s0 s1 s2 s3 s4 s5 z4
  have hB2 := hide (show Below w.heap.size w W2 by rw [← hW2.out]; exact hBW.out.setCell (p := ⟨w.heap.size + 1, 4, none⟩) (by simp) _)
  have d1 : W2.cell? ⟨gw, k, none⟩ = some (.int .i64 wk) := (cellB hB2.out hgw).trans e3
  have c4 : W2.cell? ⟨w.heap.size, 4, none⟩ = some (.slice (some ⟨gw, 0, none⟩) B.qs.length cg) := bW0'.out.cell 4
  have s0 : W2.cell? ⟨w.heap.size + 1, 0, none⟩ = some (.int .i64 k) := bW1'.out.cell 0
  have s1 : W2.cell? ⟨w.heap.size + 1, 1, none⟩ = some (.int .i64 a) := bW1'.out.cell 1
  have s2 : W2.cell? ⟨w.heap.size + 1, 2, none⟩ = some (.int .i64 b) := bW1'.out.cell 2
  have s3 : W2.cell? ⟨w.heap.size + 1, 3, none⟩ = some (.int .i64 c) := bW1'.out.cell 3
  have s4 : W2.cell? ⟨w.heap.size + 1, 4, none⟩ = some (.int .i64 (d - 1)) := bW1'.out.cell 4
  have s5 : W2.cell? ⟨w.heap.size + 1, 5, none⟩ = some (.int .i64 l) := bW1'.out.cell 5
  have r0 : W2.cell? ⟨w.heap.size + 1 + 1, 0, none⟩ = some (.int .i64 0) := bW2'.out.cell 0
  have r1 : W2.cell? ⟨w.heap.size + 1 + 1, 1, none⟩ = some (.int .i64 0) := bW2'.out.cell 1
  have r2 : W2.cell? ⟨w.heap.size + 1 + 1, 2, none⟩ = some (.int .i64 0) := bW2'.out.cell 2
  have r3 : W2.cell? ⟨w.heap.size + 1 + 1, 3, none⟩ = some (.int .i64 0) := bW2'.out.cell 3
  have r4 : W2.cell? ⟨w.heap.size + 1 + 1, 4, none⟩ = some (.int .i64 0) := bW2'.out.cell 4
  have r5 : W2.cell? ⟨w.heap.size + 1 + 1, 5, none⟩ = some (.int .i64 0) := bW2'.out.cell 5
  have z0 := bW1'.out.frozen 0
  have z5 := bW1'.out.frozen 5
  have y0 := bW2'.out.frozen 0
  have y1 := bW2'.out.frozen 1
  have y2 := bW2'.out.frozen 2
  have y3 := bW2'.out.frozen 3
  have y4 := bW2'.out.frozen 4
  have y5 := bW2'.out.frozen 5
  refine region_tail 10 (by kernel_rfl) (by kernel_rfl) ?_
  simp only [List.take_succ_cons, List.take_zero, List.drop_succ_cons, List.drop_zero]
  iterate 10 still_step
  refine wpStill_nil ?_
  go_wp2
  refine bodyPost_ret (v := .agg #[.int .i64 ((k : Int) + 1), .int .i64 a, .int .i64 b, .int .i64 c, .int .i64 (d - 1), .int .i64 (l + wk)]) ?_ rfl ⟨rfl, ?_⟩
  · have hk := ((((((((bW2'.out.far (p := ⟨w.heap.size + 1, 5, none⟩) (by simp) (.int .i64 (l + wk))).far (p := ⟨w.heap.size + 1, 0, none⟩) (by simp) (.int .i64 ((k : Int) + 1))).set_ 0 (.int .i64 ((k : Int) + 1))).set_ 1 (.int .i64 a)).set_ 2 (.int .i64 b)).set_ 3 (.int .i64 c)).set_ 4 (.int .i64 (d - 1))).set_ 5 (.int .i64 (l + wk))).drew
    have q0 := hk.cell 0
    replace q0 : World.cell? _ ⟨w.heap.size + 1 + 1, 0, none⟩ = some (.int .i64 ((k : Int) + 1)) := q0
    have q1 := hk.cell 1
    replace q1 : World.cell? _ ⟨w.heap.size + 1 + 1, 1, none⟩ = some (.int .i64 a) := q1
    have q2 := hk.cell 2
    replace q2 : World.cell? _ ⟨w.heap.size + 1 + 1, 2, none⟩ = some (.int .i64 b) := q2
    have q3 := hk.cell 3
    replace q3 : World.cell? _ ⟨w.heap.size + 1 + 1, 3, none⟩ = some (.int .i64 c) := q3
    have q4 := hk.cell 4
    replace q4 : World.cell? _ ⟨w.heap.size + 1 + 1, 4, none⟩ = some (.int .i64 (d - 1)) := q4
    have q5 := hk.cell 5
    replace q5 : World.cell? _ ⟨w.heap.size + 1 + 1, 5, none⟩ = some (.int .i64 (l + wk)) := q5
    clear hk
    simp [results, Try.results77, go_sem, q0, q1, q2, q3, q4, q5]
  · refine Below.drew ?_
    iterate 8 (refine Below.setCell ?_ (by simp <;> omega) _)
    exact hB2.out
/-- The stand with its next question. -/
theorem with_any (Q Wd : Option Addr) (cq cw gw cg gl M : Nat) (B : Bank) (k : Nat) (a b c d a' b' c' d' l : Int) (w : World) (h : VwR w Q Wd gw gl B) (hB : BankOk B) (hk : k < B.qs.length) (ha : Small a) (hb : Small b) (hc : Small c) (hd : Small d) (hl : Small l)
    (hn : dec [a, b, c, d] (partAt B k) = [a', b', c', d']) :
    Calls Try.prog 77 #[vwV Q Wd cq cw gw cg gl M B, stV k a b c d l] w fun e w' => e = .returned (stV ((k : Int) + 1) a' b' c' d' (l + wAt B k)) ∧ Below w.heap.size w w' := by
  have hp4 := part4 hB k
  have hpa := part_at hB hk
  have hw := wAt_bd hB k
  have hnq := hB.nq
  obtain ⟨gq, oq, q0, q1, q2, rfl, hgq, hq, e0, e1, e2⟩ := h.qs.cells3 hk
  rw [map_at qCells B.qs k hk] at hq
  simp only [qCells, List.cons.injEq, and_true] at hq
  obtain ⟨rfl, rfl, rfl⟩ := hq
  rw [hpa] at e0
  have e3 := h.wts k hk
  have u2 : IntKind.i64.wrap (l + wAt B k) = l + wAt B k := by unfold Small at hl; rw [IntKind.wrap_i64]; omega
  have u3 : ∀ x, Small x → IntKind.i64.wrap (x - 1) = x - 1 := fun x hx => by unfold Small at hx; rw [IntKind.wrap_i64]; omega
  generalize partAt B k = p at *
  match p, hp4, hn, e0 with
  | 0, _, hn, e0 => simp [dec] at hn; obtain ⟨rfl, rfl, rfl, rfl⟩ := hn; exact with_0 gq oq cq cw gw cg gl M Wd B k a b c d l _ w hgq e0 h.gw e3 hnq.2 hk u2 (u3 a ha)
  | 1, _, hn, e0 => simp [dec] at hn; obtain ⟨rfl, rfl, rfl, rfl⟩ := hn; exact with_1 gq oq cq cw gw cg gl M Wd B k a b c d l _ w hgq e0 h.gw e3 hnq.2 hk u2 (u3 b hb)
  | 2, _, hn, e0 => simp [dec] at hn; obtain ⟨rfl, rfl, rfl, rfl⟩ := hn; exact with_2 gq oq cq cw gw cg gl M Wd B k a b c d l _ w hgq e0 h.gw e3 hnq.2 hk u2 (u3 c hc)
  | 3, _, hn, e0 => simp [dec] at hn; obtain ⟨rfl, rfl, rfl, rfl⟩ := hn; exact with_3 gq oq cq cw gw cg gl M Wd B k a b c d l _ w hgq e0 h.gw e3 hnq.2 hk u2 (u3 d hd)
end Go.Proofs.Ytnmgnonbgihalaa
