/-
  The law PaperAccepts (made by gen_accl.py).
-/
import Derived.Test.YtnmgnonbgihalaaQa
import Derived.Test.YtnmgnonbgihalaaPt
import Derived.Test.YtnmgnonbgihalaaQb
namespace Go.Proofs.Ytnmgnonbgihalaa
open Go.RowKit RG

set_option maxRecDepth 100000 in
set_option maxHeartbeats 4000000 in
theorem PaperAccepts_any (v u : Value) (Q Wd : Option Addr) (cq cw : Nat) (B : Bank) (hr hs hc : Int) (A : Option Addr) (c : Nat) (ps : List (List Int)) (w : World) (hv : BankIn w v Q Wd cq cw B) (hu : PapsIn w u A c ps) :
    Calls Try.prog 6 #[v, .agg #[.int .i64 hr, .int .i64 hs, .int .i64 hc], u] w fun e w' => e = .returned (.bool true) ∧ Below w.heap.size w w' := by
  obtain ⟨rfl, hR, -, -⟩ := hv
  obtain ⟨rfl, hP, -⟩ := hu
  have hA1 := hide (fun W (hb : Below w.heap.size w W) => Accept_any Q Wd cq cw B hr hs hc A _ c ps W (hR.below hb) (hP.below hb))
  have hA2 := hide (fun W (hb : Below w.heap.size w W) => AcceptR_any Q Wd cq cw B hr hs hc A _ c ps W (hR.below hb) (hP.below hb))
  generalize (acceptP B hr hs hc ps).1 = x at *
  generalize (acceptP B hr hs hc ps).2 = y at *
  generalize ps.length = n at *
  unfold bkV at *
  obtain ⟨W, hW⟩ : ∃ y, (w.alloc (.cells #[.slice Q B.qs.length cq, .slice Wd B.wanted.length cw, .int .i64 B.lo, .int .i64 B.hi] 27)).alloc (.cells #[.int .i64 hr, .int .i64 hs, .int .i64 hc] 44) = y := ⟨_, rfl⟩
  have bW := hide (show Blk W w.heap.size 27 #[.slice Q B.qs.length cq, .slice Wd B.wanted.length cw, .int .i64 B.lo, .int .i64 B.hi] by rw [← hW]; exact (blkNew rfl).alloc _)
  have bH := hide (show Blk W (w.heap.size + 1) 44 #[.int .i64 hr, .int .i64 hs, .int .i64 hc] by rw [← hW]; exact blkNew (by simp))
  have hB := hide (show Below w.heap.size w W by rw [← hW]; exact ((Below.refl _ _).alloc (Nat.le_refl _) _).alloc (by simp <;> omega) _)
  replace hW := hide hW
  clear hR hP
  have bo := bW.out
  have b0 : W.cell? ⟨w.heap.size, 0, none⟩ = some (.slice Q B.qs.length cq) := bo.cell 0
  have b1 : W.cell? ⟨w.heap.size, 1, none⟩ = some (.slice Wd B.wanted.length cw) := bo.cell 1
  have b2 : W.cell? ⟨w.heap.size, 2, none⟩ = some (.int .i64 B.lo) := bo.cell 2
  have b3 : W.cell? ⟨w.heap.size, 3, none⟩ = some (.int .i64 B.hi) := bo.cell 3
  clear bo
  have bo := bH.out
  have d0 : W.cell? ⟨w.heap.size + 1, 0, none⟩ = some (.int .i64 hr) := bo.cell 0
  have d1 : W.cell? ⟨w.heap.size + 1, 1, none⟩ = some (.int .i64 hs) := bo.cell 1
  have d2 : W.cell? ⟨w.heap.size + 1, 2, none⟩ = some (.int .i64 hc) := bo.cell 2
  clear bo
  go_enter Try.func6, Try.ntmps6
  go_upto_region 1 with fail
  rw [hW.out]
  go_wp2_with fail
  refine (hA1.out W hB.out).mono ?_
  rintro e w1 ⟨rfl, hb⟩
  clear b0 b1 b2 b3
  clear d0 d1 d2 hA1 hW
  have hB_1 := hide (hB.out.trans (hb.mono hB.out.size))
  have bW_1 := hide (bW.out.below hb bW.out.lt)
  have bH_1 := hide (bH.out.below hb bH.out.lt)
  clear hb
  have bo := bW_1.out
  have b0 : w1.cell? ⟨w.heap.size, 0, none⟩ = some (.slice Q B.qs.length cq) := bo.cell 0
  have b1 : w1.cell? ⟨w.heap.size, 1, none⟩ = some (.slice Wd B.wanted.length cw) := bo.cell 1
  have b2 : w1.cell? ⟨w.heap.size, 2, none⟩ = some (.int .i64 B.lo) := bo.cell 2
  have b3 : w1.cell? ⟨w.heap.size, 3, none⟩ = some (.int .i64 B.hi) := bo.cell 3
  clear bo
  have bo := bH_1.out
  have d0 : w1.cell? ⟨w.heap.size + 1, 0, none⟩ = some (.int .i64 hr) := bo.cell 0
  have d1 : w1.cell? ⟨w.heap.size + 1, 1, none⟩ = some (.int .i64 hs) := bo.cell 1
  have d2 : w1.cell? ⟨w.heap.size + 1, 2, none⟩ = some (.int .i64 hc) := bo.cell 2
  clear bo
  go_wp2_with fail
  refine (hA2.out w1 hB_1.out).mono ?_
  rintro e w2 ⟨rfl, hb⟩
  clear b0 b1 b2 b3
  clear d0 d1 d2 hA2
  have hB_2 := hide (hB_1.out.trans (hb.mono hB_1.out.size))
  have bW_2 := hide (bW_1.out.below hb bW_1.out.lt)
  have bH_2 := hide (bH_1.out.below hb bH_1.out.lt)
  clear hb
  go_wp2_with fail
  refine (Awake_any _).mono ?_
  rintro e wz ⟨rfl, hbz⟩
  have hBz := hide (hB_2.out.trans (hbz.mono hB_2.out.size))
  clear hbz 
  go_wp2
  go_ret
  exact ⟨rfl, hBz.out⟩
end Go.Proofs.Ytnmgnonbgihalaa
