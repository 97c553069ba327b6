/-
  The law PaperMore (made by gen_morel.py).
-/
import Derived.Test.YtnmgnonbgihalaaQd
import Derived.Test.YtnmgnonbgihalaaPt
import Derived.Test.YtnmgnonbgihalaaPw
namespace Go.Proofs.Ytnmgnonbgihalaa
open Go.RowKit RG

theorem BkR.wide {w : World} {Q Wd : Option Addr} {B : Bank} (h : BkR w Q Wd B) (lo hi : Int) : BkR w Q Wd (wideB B lo hi) := ⟨h.qs, h.ws, h.nq, h.nw⟩
set_option maxRecDepth 100000 in
set_option maxHeartbeats 8000000 in
theorem PaperMore_any (v l : Value) (Q Wd : Option Addr) (cq cw : Nat) (B : Bank) (hr hs hc : Int) (A : Option Addr) (c : Nat) (ms : List Int) (x0 x1 x2 x3 : Int) (w : World) (hv : BankIn w v Q Wd cq cw B) (hl : ListIn w l A c ms)
    (h0 : 0 ≤ x0 ∧ x0 ≤ 65535) (h1 : 0 ≤ x1 ∧ x1 ≤ 65535) (h2 : 0 ≤ x2 ∧ x2 ≤ 65535) (h3 : 0 ≤ x3 ∧ x3 ≤ 65535) :
    Calls Try.prog 14 #[v, .agg #[.int .i64 hr, .int .i64 hs, .int .i64 hc, l], .agg #[.int .u16 x0, .int .u16 x1, .int .u16 x2, .int .u16 x3]] w fun e w' => e = .returned (.bool true) ∧ Below w.heap.size w w' := by
  obtain ⟨rfl, hR, -, -⟩ := hv
  obtain ⟨rfl, hM, hmx, -, -, -⟩ := hl
  have hVa := hide (fun W (hb : Below w.heap.size w W) => valid_any Q Wd cq cw B W (hR.below hb))
  have hCo := hide (fun W (hb : Below w.heap.size w W) => Count_any Q Wd cq cw B W (hR.below hb))
  have hNt := hide (fun x W (hb : Below w.heap.size w W) => Nth_f Q Wd cq cw B x W (hR.below hb))
  have hDr := hide (fun W (hb : Below w.heap.size w W) => Draw_any Q Wd cq cw B hr hs 16 A _ c ms W (hR.below hb) (hM.below hb) hmx)
  have hMk := hide (fun W (hb : Below w.heap.size w W) => hM.below hb)
  obtain ⟨lo, hlo⟩ : ∃ z, max 0 (B.lo - x0) = z := ⟨_, rfl⟩
  obtain ⟨hi, hhi⟩ : ∃ z, min 16000 (B.hi + x1) = z := ⟨_, rfl⟩
  have hCw := hide (fun W (hb : Below w.heap.size w W) => Count_any Q Wd cq cw (wideB B lo hi) W ((hR.wide lo hi).below hb))
  have hNw := hide (fun A n c xs W (hb : Below w.heap.size w W) (h : RdInts W A n xs) (hn : n ≤ maxLen) => Number_f Q Wd cq cw (wideB B lo hi) A n c xs W ((hR.wide lo hi).below hb) h hn)
  have hOk := hide (fun (h : errP B = 0) => err_ok h)
  have g1 := hide (fun (h : errP B = 0) => show errP (wideB B lo hi) = 0 ∧ countP (wideB B lo hi) = (((papers (wideB B lo hi)).length : Nat) : Int) ∧ (papers B).length ≤ (papers (wideB B lo hi)).length ∧ (papers (wideB B lo hi)).length ≤ 65536 ∧ (∀ i, i < (papers B).length → numE (wideB B lo hi) (ppI B i) = 0) ∧ 0 ≤ B.lo ∧ B.lo ≤ 16000 ∧ 0 ≤ B.hi ∧ B.hi ≤ 16000 from by
    have hb := err_ok h
    have a1 := hb.lo
    have a2 := hb.hi
    have k1 : 0 ≤ lo := by omega
    have k2 : lo ≤ B.lo := by omega
    have k3 : B.hi ≤ hi := by omega
    have k4 : hi ≤ 16000 := by omega
    have he := wide_err h k1 k2 k3 k4
    exact ⟨he, by unfold countP; rw [if_neg (by simp [he])], (wide_papers k2 k3).length_le, papers_len (err_ok he), fun i hi' => wide_num h k1 k2 k3 k4 hi', a1.1, a1.2, a2.1, a2.2⟩)
  have g2 := hide (fun (h : errP B = 0) (i : Nat) (hi : i < (papers B).length) => (⟨nthE_lt h hi, nthP_lt h hi⟩ : nthE B i = 0 ∧ nthP B i = ppI B i))
  have g3 := hide (fun (h : errP B = 0) (h' : drawE B hr hs 16 ms = 0) k hk => more_at h h' k hk)
  have g4 := hide (fun (h : errP B = 0) (h' : drawE B hr hs 16 ms ≠ 0) hn => more_err h h' hn)
  have g5 := hide (fun (h' : drawE B hr hs 16 ms ≠ 0) => draw_nil h')
  have g6 := hide (fun (h' : drawE B hr hs 16 ms = 0) => show (drawR B hr hs 16 ms).length = ms.length ∧ 1 ≤ ms.length ∧ ms.length ≤ 30 from by
    obtain ⟨q1, -⟩ := draw_ok h'
    obtain ⟨-, q2, q3⟩ := enter_ok q1
    have := hall_n ⟨q2.1, q2.2.1⟩ q3
    exact ⟨draw_len h', by omega, by omega⟩)
  have g7 := hide (fun (h : errP B = 0) => papers_len (err_ok h))
  have hcn : countP B = if errP B ≠ 0 then (0 : Int) else (((papers B).length : Nat) : Int) := rfl
  have hwb : ∀ lo hi, bkV Q Wd cq cw (wideB B lo hi) = .agg #[.slice Q B.qs.length cq, .slice Wd B.wanted.length cw, .int .i64 lo, .int .i64 hi] := fun _ _ => rfl
  rw [hwb] at hCw hNw
  clear hwb
  generalize drawE B hr hs 16 ms = de at *
  generalize drawR B hr hs 16 ms = dr at *
  generalize countP B = cnt at *
  generalize errP B = er at *
  generalize errP (wideB B lo hi) = ew at *
  generalize countP (wideB B lo hi) = cntw at *
  obtain ⟨N, hN⟩ : ∃ z, (papers B).length = z := ⟨_, rfl⟩
  obtain ⟨Nw, hNW⟩ : ∃ z, (papers (wideB B lo hi)).length = z := ⟨_, rfl⟩
  rw [hNW, hN] at g1
  rw [hN] at g2 g3 g4 g7 hcn
  replace hN := hide hN
  replace hNW := hide hNW
  obtain ⟨n, hn⟩ : ∃ z, ms.length = z := ⟨_, rfl⟩
  rw [hn] at hDr hMk g3 g6 hmx
  rw [hn]
  replace hn := hide hn
  unfold bkV at hVa hCo hNt hDr
  unfold bkV
  obtain ⟨W, hW⟩ : ∃ y, ((w.alloc (.cells #[.slice Q B.qs.length cq, .slice Wd B.wanted.length cw, .int .i64 B.lo, .int .i64 B.hi] 27)).alloc (.cells #[.int .i64 hr, .int .i64 hs, .int .i64 hc, .slice A n c] 54)).alloc (.cells #[.int .u16 x0, .int .u16 x1, .int .u16 x2, .int .u16 x3] 71) = y := ⟨_, rfl⟩
  have bW := hide (show Blk W w.heap.size 27 #[.slice Q B.qs.length cq, .slice Wd B.wanted.length cw, .int .i64 B.lo, .int .i64 B.hi] by rw [← hW]; exact ((blkNew rfl).alloc _).alloc _)
  have bS := hide (show Blk W (w.heap.size + 1) 54 #[.int .i64 hr, .int .i64 hs, .int .i64 hc, .slice A n c] by rw [← hW]; exact (blkNew (by simp)).alloc _)
  have bX := hide (show Blk W (w.heap.size + 1 + 1) 71 #[.int .u16 x0, .int .u16 x1, .int .u16 x2, .int .u16 x3] by rw [← hW]; exact blkNew (by simp))
  have hB := hide (show Below w.heap.size w W by rw [← hW]; exact (((Below.refl _ _).alloc (Nat.le_refl _) _).alloc (by simp <;> omega) _).alloc (by simp <;> omega) _)
  replace hW := hide hW
  clear hR hM
  have bo := bW.out
  have b0 : W.cell? ⟨w.heap.size, 0, none⟩ = some (.slice Q B.qs.length cq) := bo.cell 0
  have b1 : W.cell? ⟨w.heap.size, 1, none⟩ = some (.slice Wd B.wanted.length cw) := bo.cell 1
  have b2 : W.cell? ⟨w.heap.size, 2, none⟩ = some (.int .i64 B.lo) := bo.cell 2
  have b3 : W.cell? ⟨w.heap.size, 3, none⟩ = some (.int .i64 B.hi) := bo.cell 3
  clear bo
  go_enter Try.func14, Try.ntmps14
  go_upto_region 1 with fail
  rw [hW.out]
  go_wp2_with fail
  refine (hVa.out W hB.out).mono ?_
  rintro e w1 ⟨rfl, hb⟩
  clear b0 b1 b2 b3
  clear hVa hW
  have hB_1 := hide (hB.out.trans (hb.mono hB.out.size))
  have bW_1 := hide (bW.out.below hb bW.out.lt)
  have bS_1 := hide (bS.out.below hb bS.out.lt)
  have bX_1 := hide (bX.out.below hb bX.out.lt)
  clear hb
  by_cases he : er = 0
  · subst he
    obtain ⟨rfl, rfl, gA, gB, gC, a1, a2, a3, a4⟩ := g1.out rfl
    replace gC := hide gC
    have k2 := hide (g2.out rfl)
    have k3 := hide (g3.out rfl)
    have k4 := hide (g4.out rfl)
    have k7 := g7.out rfl
    rw [if_neg (by simp)] at hcn
    subst hcn
    clear g1 g2 g3 g4 g7
    have bo := bW_1.out
    have b0 : w1.cell? ⟨w.heap.size, 0, none⟩ = some (.slice Q B.qs.length cq) := bo.cell 0
    have b1 : w1.cell? ⟨w.heap.size, 1, none⟩ = some (.slice Wd B.wanted.length cw) := bo.cell 1
    have b2 : w1.cell? ⟨w.heap.size, 2, none⟩ = some (.int .i64 B.lo) := bo.cell 2
    have b3 : w1.cell? ⟨w.heap.size, 3, none⟩ = some (.int .i64 B.hi) := bo.cell 3
    clear bo
    go_wp2_with fail
    refine (hCo.out w1 hB_1.out).mono ?_
    rintro e w2 ⟨rfl, hb⟩
    clear b0 b1 b2 b3
    clear hCo
    have hB_2 := hide (hB_1.out.trans (hb.mono hB_1.out.size))
    have bW_2 := hide (bW_1.out.below hb bW_1.out.lt)
    have bS_2 := hide (bS_1.out.below hb bS_1.out.lt)
    have bX_2 := hide (bX_1.out.below hb bX_1.out.lt)
    clear hb
    have bo := bW_2.out
    have b0 : w2.cell? ⟨w.heap.size, 0, none⟩ = some (.slice Q B.qs.length cq) := bo.cell 0
    have b1 : w2.cell? ⟨w.heap.size, 1, none⟩ = some (.slice Wd B.wanted.length cw) := bo.cell 1
    have b2 : w2.cell? ⟨w.heap.size, 2, none⟩ = some (.int .i64 B.lo) := bo.cell 2
    have b3 : w2.cell? ⟨w.heap.size, 3, none⟩ = some (.int .i64 B.hi) := bo.cell 3
    clear bo
    have hs1 : IntKind.i64.wrap x0 = x0 := by rw [IntKind.wrap_i64]; omega
    have hs2 : IntKind.i64.wrap x1 = x1 := by rw [IntKind.wrap_i64]; omega
    have hs3 : IntKind.i64.wrap (B.lo - x0) = B.lo - x0 := by rw [IntKind.wrap_i64]; omega
    have hs4 : IntKind.i64.wrap (B.hi + x1) = B.hi + x1 := by rw [IntKind.wrap_i64]; omega
    obtain ⟨V4, hV4⟩ : ∃ y, w2.alloc (.cells #[.slice Q B.qs.length cq, .slice Wd B.wanted.length cw, .int .i64 B.lo, .int .i64 B.hi] 27) = y := ⟨_, rfl⟩
    have bV := hide (show Blk V4 w2.heap.size 27 #[.slice Q B.qs.length cq, .slice Wd B.wanted.length cw, .int .i64 B.lo, .int .i64 B.hi] by rw [← hV4]; exact blkNew rfl)
    have hb : Below w2.heap.size w2 V4 := by rw [← hV4]; exact (Below.refl _ _).alloc (Nat.le_refl _) _
    have hB_3 := hide (hB_2.out.trans (hb.mono hB_2.out.size))
    have bW_3 := hide (bW_2.out.below hb bW_2.out.lt)
    have bS_3 := hide (bS_2.out.below hb bS_2.out.lt)
    have bX_3 := hide (bX_2.out.below hb bX_2.out.lt)
    have hg2 := hide (show w.heap.size ≤ w2.heap.size ∧ w.heap.size + 1 + 1 < w2.heap.size from ⟨hB_2.out.size, by have := bX_2.out.lt; omega⟩)
    replace hV4 := hide hV4
    clear hb
    go_upto_region 5 with fail
    rw [hV4.out]
    clear b0 b1 b2 b3
    have bo := bW_3.out
    have b0 : V4.cell? ⟨w.heap.size, 0, none⟩ = some (.slice Q B.qs.length cq) := bo.cell 0
    have b1 : V4.cell? ⟨w.heap.size, 1, none⟩ = some (.slice Wd B.wanted.length cw) := bo.cell 1
    have b2 : V4.cell? ⟨w.heap.size, 2, none⟩ = some (.int .i64 B.lo) := bo.cell 2
    have b3 : V4.cell? ⟨w.heap.size, 3, none⟩ = some (.int .i64 B.hi) := bo.cell 3
    clear bo
    have bo := bX_3.out
    have u0 : V4.cell? ⟨w.heap.size + 1 + 1, 0, none⟩ = some (.int .u16 x0) := bo.cell 0
    have u1 : V4.cell? ⟨w.heap.size + 1 + 1, 1, none⟩ = some (.int .u16 x1) := bo.cell 1
    clear bo
    have z2 := bV.out.frozen 2
    have z3 := bV.out.frozen 3
    have v2 : V4.cell? ⟨w2.heap.size, 2, none⟩ = some (.int .i64 B.lo) := bV.out.cell 2
    have v3 : V4.cell? ⟨w2.heap.size, 3, none⟩ = some (.int .i64 B.hi) := bV.out.cell 3
    obtain ⟨W3, hW3⟩ : ∃ y, (V4.setCell ⟨w2.heap.size, 2, none⟩ (.int .i64 lo)).setCell ⟨w2.heap.size, 3, none⟩ (.int .i64 hi) = y := ⟨_, rfl⟩
    have hst : Stored w2.heap.size V4 W3 := by rw [← hW3]; exact (Stored.set1 _ _ _ _).trans (Stored.set1 _ _ _ _)
    have bU := hide (show Blk W3 w2.heap.size 27 #[.slice Q B.qs.length cq, .slice Wd B.wanted.length cw, .int .i64 lo, .int .i64 hi] by rw [← hW3]; exact (bV.out.set_ 2 (.int .i64 lo)).set_ 3 (.int .i64 hi))
    have hB_4 := hide (hB_3.out.trans (hst.below (by have := hg2.out; omega)))
    have bW_4 := hide (bW_3.out.stored hst (by have := hg2.out; omega))
    have bS_4 := hide (bS_3.out.stored hst (by have := hg2.out; omega))
    have bX_4 := hide (bX_3.out.stored hst (by have := hg2.out; omega))
    clear hst
    replace hW3 := hide hW3
    go_upto_region 6 with fail
    rw [hW3.out]
    clear u0 u1 z2 z3 v2 v3 hs1 hs2 hs3 hs4 bV
    clear b0 b1 b2 b3
    have bo := bU.out
    have v0 : W3.cell? ⟨w2.heap.size, 0, none⟩ = some (.slice Q B.qs.length cq) := bo.cell 0
    have v1 : W3.cell? ⟨w2.heap.size, 1, none⟩ = some (.slice Wd B.wanted.length cw) := bo.cell 1
    have v2 : W3.cell? ⟨w2.heap.size, 2, none⟩ = some (.int .i64 lo) := bo.cell 2
    have v3 : W3.cell? ⟨w2.heap.size, 3, none⟩ = some (.int .i64 hi) := bo.cell 3
    clear bo
    replace hlo := hide hlo
    replace hhi := hide hhi
    go_wp2_with fail
    refine (hCw.out W3 hB_4.out).mono ?_
    rintro e w4 ⟨rfl, hb⟩
    clear v0 v1 v2 v3 hCw
    have hB_5 := hide (hB_4.out.trans (hb.mono hB_4.out.size))
    have bW_5 := hide (bW_4.out.below hb bW_4.out.lt)
    have bS_5 := hide (bS_4.out.below hb bS_4.out.lt)
    have bX_5 := hide (bX_4.out.below hb bX_4.out.lt)
    have bU_5 := hide (bU.out.below hb bU.out.lt)
    clear hb
    have t1 : decide ((N : Int) < 0) = false := decide_eq_false (by omega)
    have t2 : ¬ (N : Int) < 0 := by omega
    have t3 : decide ((Nw : Int) < (N : Int)) = false := decide_eq_false (by omega)
    have t4 : ¬ (Nw : Int) < (N : Int) := by omega
    have t5 : ¬ Nw < N := by omega
    by_cases hN0 : N = 0
    · subst hN0
      have bo := bS_5.out
      have d0 : w4.cell? ⟨w.heap.size + 1, 0, none⟩ = some (.int .i64 hr) := bo.cell 0
      have d1 : w4.cell? ⟨w.heap.size + 1, 1, none⟩ = some (.int .i64 hs) := bo.cell 1
      have d2 : w4.cell? ⟨w.heap.size + 1, 2, none⟩ = some (.int .i64 hc) := bo.cell 2
      have d3 : w4.cell? ⟨w.heap.size + 1, 3, none⟩ = some (.slice A n c) := bo.cell 3
      clear bo
      obtain ⟨X5, hX5⟩ : ∃ y, w4.alloc (.cells #[.int .i64 hr, .int .i64 hs, .int .i64 16] 44) = y := ⟨_, rfl⟩
      have bH := hide (show Blk X5 w4.heap.size 44 #[.int .i64 hr, .int .i64 hs, .int .i64 16] by rw [← hX5]; exact blkNew rfl)
      have hb : Below w4.heap.size w4 X5 := by rw [← hX5]; exact (Below.refl _ _).alloc (Nat.le_refl _) _
      have hB_6 := hide (hB_5.out.trans (hb.mono hB_5.out.size))
      have bW_6 := hide (bW_5.out.below hb bW_5.out.lt)
      have bS_6 := hide (bS_5.out.below hb bS_5.out.lt)
      have bX_6 := hide (bX_5.out.below hb bX_5.out.lt)
      have bU_6 := hide (bU_5.out.below hb bU_5.out.lt)
      replace hX5 := hide hX5
      clear hb
      go_upto_region 16 with fail
      rw [hX5.out]
      clear d0 d1 d2 d3
      have bo := bW_6.out
      have b0 : X5.cell? ⟨w.heap.size, 0, none⟩ = some (.slice Q B.qs.length cq) := bo.cell 0
      have b1 : X5.cell? ⟨w.heap.size, 1, none⟩ = some (.slice Wd B.wanted.length cw) := bo.cell 1
      have b2 : X5.cell? ⟨w.heap.size, 2, none⟩ = some (.int .i64 B.lo) := bo.cell 2
      have b3 : X5.cell? ⟨w.heap.size, 3, none⟩ = some (.int .i64 B.hi) := bo.cell 3
      clear bo
      have bo := bS_6.out
      have d3 : X5.cell? ⟨w.heap.size + 1, 3, none⟩ = some (.slice A n c) := bo.cell 3
      clear bo
      have bo := bH.out
      have q0 : X5.cell? ⟨w4.heap.size, 0, none⟩ = some (.int .i64 hr) := bo.cell 0
      have q1 : X5.cell? ⟨w4.heap.size, 1, none⟩ = some (.int .i64 hs) := bo.cell 1
      have q2 : X5.cell? ⟨w4.heap.size, 2, none⟩ = some (.int .i64 16) := bo.cell 2
      clear bo
      go_wp2_with fail
      refine (hDr.out X5 hB_6.out).mono ?_
      rintro e w7 ⟨⟨ld, rfl, hld⟩, hb⟩
      replace hld := hide hld
      clear q0 q1 q2 d3 hDr
      clear b0 b1 b2 b3
      have hB_7 := hide (hB_6.out.trans (hb.mono hB_6.out.size))
      have bW_7 := hide (bW_6.out.below hb bW_6.out.lt)
      have bS_7 := hide (bS_6.out.below hb bS_6.out.lt)
      have bX_7 := hide (bX_6.out.below hb bX_6.out.lt)
      have bU_7 := hide (bU_6.out.below hb bU_6.out.lt)
      have bH_7 := hide (bH.out.below hb bH.out.lt)
      clear hb
      have hde : de ≠ 0 := fun h => by
        have := g6.out h
        have h9 := (k3.out h 0 (by omega)).1
        omega
      have hd1 : (de != 0) = true := by rw [bne_iff_ne]; exact hde
      obtain rfl := g5.out hde
      obtain ⟨Ad, cd, rfl, -, -, -⟩ := hld.out.paps
      clear hld k3 k4 g5 g6 k2
      replace hde := hide hde
      go_wp2_with fail
      refine (Awake_any _).mono ?_
      rintro e wz ⟨rfl, hbz⟩
      have hBz := hide (hB_7.out.trans (hbz.mono hB_7.out.size))
      clear hbz 
      go_wp2
      go_ret
      exact ⟨rfl, hBz.out⟩
    · have hNp : 0 < N := by omega
      have hNd : decide ((N : Int) > 0) = true := decide_eq_true (by omega)
      have hNd2 : (0 : Int) < (N : Int) := by omega
      have hNe : ((N : Int) == 0) = false := by rw [beq_eq_false_iff_ne]; omega
      have hNe2 : (N : Int) ≠ 0 := by omega
      obtain ⟨i2, hi2⟩ : ∃ z, x2.toNat % N = z := ⟨_, rfl⟩
      have hiN2 : i2 < N := by rw [← hi2]; exact Nat.mod_lt _ hNp
      obtain ⟨a2', hx2⟩ : ∃ z : Nat, x2 = (z : Int) := ⟨x2.toNat, by omega⟩
      have hm2 : x2.tmod (N : Int) = (i2 : Int) := by rw [hx2, Int.tmod_eq_emod_of_nonneg (by omega), ← hi2, hx2]; rfl
      have hw2 : IntKind.i64.wrap x2 = x2 := by rw [IntKind.wrap_i64]; omega
      have hwi2 : IntKind.i64.wrap (i2 : Int) = (i2 : Int) := by rw [IntKind.wrap_i64]; omega
      obtain ⟨p1, p2⟩ := k2.out i2 hiN2
      have gCi := gC.out i2 hiN2
      replace hi2 := hide hi2
      replace hx2 := hide hx2
      go_upto_region 10 with fail
      refine region_grow [IsV (.agg #[.slice Q B.qs.length cq, .slice Wd B.wanted.length cw, .int .i64 B.lo, .int .i64 B.hi]), IsV (.pointer (some ⟨w.heap.size + 1 + 1, 2, none⟩)), IsV (.int .u16 x2), IsV (.int .i64 x2), IsV (.int .i64 (N : Int)), IsV (.int .i64 (i2 : Int)), TupL (ppI B i2) 0, TupL (ppI B i2) 0, LstV (ppI B i2), IsV (.int .i64 0), LstV (ppI B i2), IsV (.int .i64 0)] (by kernel_rfl) (by kernel_rfl) rfl ?_ ?_ ?_
      · simp [AllStb, IsV.stb, TupL.stb, LstV.stb]
      · refine ⟨?_, ?_, ?_, ?_, ?_, ?_, ?_, ?_, ?_, ?_, ?_, ?_, trivial⟩
        · refine one_fr ?_ ?_ ?_
          · kernel_rfl
          · left; kernel_rfl
          intro T y W4 K Qk Cv hF hC4 hd hV hK
          clear hd
          have t3 := hF.old 3 (.pointer (some ⟨w.heap.size, 0, none⟩)) (by kernel_rfl) (by kernel_rfl)
          clear hF
          have bx4 := bW_5.out.below hC4 bW_5.out.lt
          have c0 : W4.cell? ⟨w.heap.size, 0, none⟩ = some (.slice Q B.qs.length cq) := bx4.cell 0
          have c1 : W4.cell? ⟨w.heap.size, 1, none⟩ = some (.slice Wd B.wanted.length cw) := bx4.cell 1
          have c2 : W4.cell? ⟨w.heap.size, 2, none⟩ = some (.int .i64 B.lo) := bx4.cell 2
          have c3 : W4.cell? ⟨w.heap.size, 3, none⟩ = some (.int .i64 B.hi) := bx4.cell 3
          clear bx4
          go_simp
          exact hK _ _ (hV _ _ hC4 (Below.refl _ _) rfl)
        · refine one_fr ?_ ?_ ?_
          · kernel_rfl
          · left; kernel_rfl
          intro T y W4 K Qk Cv hF hC4 hd hV hK
          clear hd
          have t5 := hF.old 5 (.pointer (some ⟨w.heap.size + 1 + 1, 0, none⟩)) (by kernel_rfl) (by kernel_rfl)
          clear hF
          go_simp
          exact hK _ _ (hV _ _ hC4 (Below.refl _ _) rfl)
        · refine one_fr ?_ ?_ ?_
          · kernel_rfl
          · left; kernel_rfl
          intro T y W4 K Qk Cv hF hC4 hd hV hK
          simp [deps, VL, IsV, Region.binds] at hd
          have t72 := hF.get 1 72 (by kernel_rfl)
          simp only [hd] at t72
          clear hF
          have bx4 := bX_5.out.below hC4 bX_5.out.lt
          have c2 : W4.cell? ⟨w.heap.size + 1 + 1, 2, none⟩ = some (.int .u16 x2) := bx4.cell 2
          clear bx4
          go_simp
          exact hK _ _ (hV _ _ hC4 (Below.refl _ _) rfl)
        · refine one_fr ?_ ?_ ?_
          · kernel_rfl
          · left; kernel_rfl
          intro T y W4 K Qk Cv hF hC4 hd hV hK
          simp [deps, VL, IsV, Region.binds] at hd
          have t73 := hF.get 2 73 (by kernel_rfl)
          simp only [hd] at t73
          clear hF
          go_simp
          exact hK _ _ (hV _ _ hC4 (Below.refl _ _) rfl)
        · refine one_fr ?_ ?_ ?_
          · kernel_rfl
          · left; kernel_rfl
          intro T y W4 K Qk Cv hF hC4 hd hV hK
          clear hd
          have t7 := hF.old 7 (.int .i64 (N : Int)) (by kernel_rfl) (by kernel_rfl)
          clear hF
          go_simp
          exact hK _ _ (hV _ _ hC4 (Below.refl _ _) rfl)
        · refine one_fr ?_ ?_ ?_
          · kernel_rfl
          · left; kernel_rfl
          intro T y W4 K Qk Cv hF hC4 hd hV hK
          simp [deps, VL, IsV, Region.binds] at hd
          have t74 := hF.get 3 74 (by kernel_rfl)
          simp only [hd] at t74
          have t75 := hF.get 4 75 (by kernel_rfl)
          simp only [hd] at t75
          clear hF
          go_simp
          exact hK _ _ (hV _ _ hC4 (Below.refl _ _) rfl)
        · refine one_fr ?_ ?_ ?_
          · kernel_rfl
          · left; kernel_rfl
          intro T y W4 K Qk Cv hF hC4 hd hV hK
          simp [deps, VL, IsV, Region.binds] at hd
          have t71 := hF.get 0 71 (by kernel_rfl)
          simp only [hd] at t71
          have t76 := hF.get 5 76 (by kernel_rfl)
          simp only [hd] at t76
          clear hF
          have hs := hNt.out (i2 : Int) W4 (hB_5.out.trans (hC4.mono hB_5.out.size))
          rw [p1, p2] at hs
          go_simp
          refine hs.mono ?_
          rintro e w7 ⟨⟨v7, rfl, q7⟩, hb7⟩
          exact hK _ _ (hV _ _ (hC4.trans (hb7.mono hC4.size)) hb7 ⟨v7, rfl, q7⟩)
        · refine one_fr ?_ ?_ ?_
          · kernel_rfl
          · left; kernel_rfl
          intro T y W4 K Qk Cv hF hC4 hd hV hK
          simp [deps, VL, Region.binds] at hd
          have t77 := hF.get 6 77 (by kernel_rfl)
          clear hF
          generalize y 6 = zz at *
          go_simp
          first
            | exact hK _ _ (hV _ _ hC4 (Below.refl _ _) hd)
            | exact hK _ _ (hV _ _ hC4 (Below.refl _ _) hd.1)
        · refine one_fr ?_ ?_ ?_
          · kernel_rfl
          · left; kernel_rfl
          intro T y W4 K Qk Cv hF hC4 hd hV hK
          simp [deps, VL, Region.binds] at hd
          have t70 := hF.get 7 70 (by kernel_rfl)
          clear hF
          obtain ⟨u7, e7, h7⟩ := hd
          rw [e7] at t70
          go_simp
          exact hK _ _ (hV _ _ hC4 (Below.refl _ _) h7)
        · refine one_fr ?_ ?_ ?_
          · kernel_rfl
          · left; kernel_rfl
          intro T y W4 K Qk Cv hF hC4 hd hV hK
          simp [deps, VL, Region.binds] at hd
          have t70 := hF.get 7 70 (by kernel_rfl)
          clear hF
          obtain ⟨u7, e7, h7⟩ := hd
          rw [e7] at t70
          go_simp
          exact hK _ _ (hV _ _ hC4 (Below.refl _ _) rfl)
        · refine one_fr ?_ ?_ ?_
          · kernel_rfl
          · left; kernel_rfl
          intro T y W4 K Qk Cv hF hC4 hd hV hK
          simp [deps, VL, Region.binds] at hd
          have t78 := hF.get 8 78 (by kernel_rfl)
          clear hF
          generalize y 8 = zz at *
          go_simp
          first
            | exact hK _ _ (hV _ _ hC4 (Below.refl _ _) hd)
            | exact hK _ _ (hV _ _ hC4 (Below.refl _ _) hd.1)
        · refine one_fr ?_ ?_ ?_
          · kernel_rfl
          · left; kernel_rfl
          intro T y W4 K Qk Cv hF hC4 hd hV hK
          simp [deps, VL, IsV, Region.binds] at hd
          have t79 := hF.get 9 79 (by kernel_rfl)
          clear hF
          simp only [hd] at t79
          go_simp
          exact hK _ _ (hV _ _ hC4 (Below.refl _ _) rfl)
      intro y w5 hC hd4
      simp [EndsL, IsV] at hd4
      obtain ⟨m0, m1, m2, m3, m4, m5, m6, m7, m8, m9, m10, m11⟩ := hd4
      simp only [putAll, Act.put]
      rw [m0, m1, m2, m3, m4, m5, m9, m11]
      clear m0 m1 m2 m3 m4 m5 m9 m11
      simp only [List.setIfInBounds_toArray, List.set_cons_succ, List.set_cons_zero]
      generalize y 6 = z6 at *
      generalize y 7 = z7 at *
      generalize y 8 = z8 at *
      generalize y 10 = z10 at *
      obtain ⟨Ap, cp, rfl, hrp, hmp, -⟩ := m10
      have hb : Below w4.heap.size w4 w5 := hC
      have hB_8 := hide (hB_5.out.trans (hb.mono hB_5.out.size))
      have bW_8 := hide (bW_5.out.below hb bW_5.out.lt)
      have bS_8 := hide (bS_5.out.below hb bS_5.out.lt)
      have bX_8 := hide (bX_5.out.below hb bX_5.out.lt)
      have bU_8 := hide (bU_5.out.below hb bU_5.out.lt)
      clear hC m6 m7 m8 hb hm2 hw2 hwi2 p1 p2
      have bo := bU_8.out
      have v0 : w5.cell? ⟨w2.heap.size, 0, none⟩ = some (.slice Q B.qs.length cq) := bo.cell 0
      have v1 : w5.cell? ⟨w2.heap.size, 1, none⟩ = some (.slice Wd B.wanted.length cw) := bo.cell 1
      have v2 : w5.cell? ⟨w2.heap.size, 2, none⟩ = some (.int .i64 lo) := bo.cell 2
      have v3 : w5.cell? ⟨w2.heap.size, 3, none⟩ = some (.int .i64 hi) := bo.cell 3
      clear bo
      have hnw := hide (hNw.out Ap _ cp _ w5 hB_8.out hrp hmp)
      rw [gCi] at hnw
      generalize (ppI B i2).length = lp at *
      go_wp2_with fail
      refine hnw.out.mono ?_
      rintro e w6 ⟨rfl, hb⟩
      clear v0 v1 v2 v3 hnw hNw hrp hmp gCi
      have hB_9 := hide (hB_8.out.trans (hb.mono hB_8.out.size))
      have bW_9 := hide (bW_8.out.below hb bW_8.out.lt)
      have bS_9 := hide (bS_8.out.below hb bS_8.out.lt)
      have bX_9 := hide (bX_8.out.below hb bX_8.out.lt)
      have bU_9 := hide (bU_8.out.below hb bU_8.out.lt)
      clear hb
      have bo := bS_9.out
      have d0 : w6.cell? ⟨w.heap.size + 1, 0, none⟩ = some (.int .i64 hr) := bo.cell 0
      have d1 : w6.cell? ⟨w.heap.size + 1, 1, none⟩ = some (.int .i64 hs) := bo.cell 1
      have d2 : w6.cell? ⟨w.heap.size + 1, 2, none⟩ = some (.int .i64 hc) := bo.cell 2
      have d3 : w6.cell? ⟨w.heap.size + 1, 3, none⟩ = some (.slice A n c) := bo.cell 3
      clear bo
      obtain ⟨X5, hX5⟩ : ∃ y, w6.alloc (.cells #[.int .i64 hr, .int .i64 hs, .int .i64 16] 44) = y := ⟨_, rfl⟩
      have bH := hide (show Blk X5 w6.heap.size 44 #[.int .i64 hr, .int .i64 hs, .int .i64 16] by rw [← hX5]; exact blkNew rfl)
      have hb : Below w6.heap.size w6 X5 := by rw [← hX5]; exact (Below.refl _ _).alloc (Nat.le_refl _) _
      have hB_10 := hide (hB_9.out.trans (hb.mono hB_9.out.size))
      have bW_10 := hide (bW_9.out.below hb bW_9.out.lt)
      have bS_10 := hide (bS_9.out.below hb bS_9.out.lt)
      have bX_10 := hide (bX_9.out.below hb bX_9.out.lt)
      have bU_10 := hide (bU_9.out.below hb bU_9.out.lt)
      replace hX5 := hide hX5
      clear hb
      go_upto_region 16 with fail
      rw [hX5.out]
      clear d0 d1 d2 d3
      have bo := bW_10.out
      have b0 : X5.cell? ⟨w.heap.size, 0, none⟩ = some (.slice Q B.qs.length cq) := bo.cell 0
      have b1 : X5.cell? ⟨w.heap.size, 1, none⟩ = some (.slice Wd B.wanted.length cw) := bo.cell 1
      have b2 : X5.cell? ⟨w.heap.size, 2, none⟩ = some (.int .i64 B.lo) := bo.cell 2
      have b3 : X5.cell? ⟨w.heap.size, 3, none⟩ = some (.int .i64 B.hi) := bo.cell 3
      clear bo
      have bo := bS_10.out
      have d3 : X5.cell? ⟨w.heap.size + 1, 3, none⟩ = some (.slice A n c) := bo.cell 3
      clear bo
      have bo := bH.out
      have q0 : X5.cell? ⟨w6.heap.size, 0, none⟩ = some (.int .i64 hr) := bo.cell 0
      have q1 : X5.cell? ⟨w6.heap.size, 1, none⟩ = some (.int .i64 hs) := bo.cell 1
      have q2 : X5.cell? ⟨w6.heap.size, 2, none⟩ = some (.int .i64 16) := bo.cell 2
      clear bo
      go_wp2_with fail
      refine (hDr.out X5 hB_10.out).mono ?_
      rintro e w7 ⟨⟨ld, rfl, hld⟩, hb⟩
      replace hld := hide hld
      clear q0 q1 q2 d3 hDr
      clear b0 b1 b2 b3
      have hB_11 := hide (hB_10.out.trans (hb.mono hB_10.out.size))
      have bW_11 := hide (bW_10.out.below hb bW_10.out.lt)
      have bS_11 := hide (bS_10.out.below hb bS_10.out.lt)
      have bX_11 := hide (bX_10.out.below hb bX_10.out.lt)
      have bU_11 := hide (bU_10.out.below hb bU_10.out.lt)
      have bH_11 := hide (bH.out.below hb bH.out.lt)
      clear hb
      by_cases hde : de ≠ 0
      · have hd1 : (de != 0) = true := by rw [bne_iff_ne]; exact hde
        obtain ⟨e4, e9⟩ := k4.out hde hN0
        have hd4 : (de != 4) = true := by rw [bne_iff_ne]; exact e4
        have hd9 : (de != 9) = true := by rw [bne_iff_ne]; exact e9
        obtain rfl := g5.out hde
        obtain ⟨Ad, cd, rfl, -, -, -⟩ := hld.out.paps
        clear hld k3 k4 g5 g6 k2
        replace hde := hide hde
        replace e4 := hide e4
        replace e9 := hide e9
        go_wp2_with fail
        refine (Awake_any _).mono ?_
        rintro e wz ⟨rfl, hbz⟩
        have hBz := hide (hB_11.out.trans (hbz.mono hB_11.out.size))
        clear hbz 
        go_wp2
        go_ret
        exact ⟨rfl, hBz.out⟩
      · obtain rfl : de = 0 := Classical.byContradiction hde
        obtain ⟨j1, j2, j3⟩ := g6.out rfl
        obtain ⟨Ad, cd, rfl, hps, -, -⟩ := hld.out.paps
        rw [j1] at hps ⊢
        obtain ⟨k, hk⟩ : ∃ z, x3.toNat % n = z := ⟨_, rfl⟩
        have hkn : k < n := by rw [← hk]; exact Nat.mod_lt _ (by omega)
        obtain ⟨-, m1, m2⟩ := k3.out rfl k hkn
        obtain ⟨a3', hx3⟩ : ∃ z : Nat, x3 = (z : Int) := ⟨x3.toNat, by omega⟩
        have hm3 : x3.tmod (n : Int) = (k : Int) := by rw [hx3, Int.tmod_eq_emod_of_nonneg (by omega), ← hk, hx3]; rfl
        have hw3 : IntKind.i64.wrap x3 = x3 := by rw [IntKind.wrap_i64]; omega
        have hw4 : IntKind.i64.wrap (k : Int) = (k : Int) := by rw [IntKind.wrap_i64]; omega
        have hnz : ((n : Int) == 0) = false := by rw [beq_eq_false_iff_ne]; omega
        have hnz2 : (n : Int) ≠ 0 := by omega
        have hnz3 : n ≠ 0 := by omega
        have hNz : ((N : Int) == 0) = false := by rw [beq_eq_false_iff_ne]; omega
        have hNz2 : (N : Int) ≠ 0 := by omega
        have hnn : ((n : Int) != (n : Int)) = false := by simp
        replace hk := hide hk
        replace hx3 := hide hx3
        obtain ⟨bm, om, rfl, hbm, hcm⟩ := (hMk.out w7 hB_11.out).2 (by omega)
        have cmk := hcm k hkn
        obtain ⟨mk, hmk⟩ : ∃ z : Nat, ms[k]?.getD 0 = (z : Int) := ⟨(ms[k]?.getD 0).toNat, by omega⟩
        rw [hmk] at cmk m2
        rw [Int.toNat_natCast] at m2
        have hkz : (k : Int) < (n : Int) := by omega
        have hkz0 : (0 : Int) ≤ (k : Int) := by omega
        have hmk0 : decide ((mk : Int) < 0) = false := decide_eq_false (by omega)
        have hmk1 : ¬ (mk : Int) < 0 := by omega
        obtain ⟨i, hi9⟩ : ∃ z, mk % N = z := ⟨_, rfl⟩
        have hiN : i < N := by rw [← hi9]; exact Nat.mod_lt _ (by omega)
        have hmi : (mk : Int).tmod (N : Int) = (i : Int) := by rw [Int.tmod_eq_emod_of_nonneg (by omega), ← hi9]; rfl
        have hwi : IntKind.i64.wrap (i : Int) = (i : Int) := by rw [IntKind.wrap_i64]; omega
        rw [hi9] at m2
        replace hi9 := hide hi9
        obtain ⟨p1, p2⟩ := k2.out i hiN
        obtain ⟨bd, od, rfl, hbd, hcd⟩ := hps.2 (by omega)
        obtain ⟨Ak, ck, ckd, hrk, hmx2⟩ := hcd k hkn
        rw [m2] at ckd hrk hmx2
        clear hcm hcd hps m1 m2 k2 k3 k4 g5 g6 hld
        replace hrk := hide hrk
        have bo := bW_11.out
        have b0 : w7.cell? ⟨w.heap.size, 0, none⟩ = some (.slice Q B.qs.length cq) := bo.cell 0
        have b1 : w7.cell? ⟨w.heap.size, 1, none⟩ = some (.slice Wd B.wanted.length cw) := bo.cell 1
        have b2 : w7.cell? ⟨w.heap.size, 2, none⟩ = some (.int .i64 B.lo) := bo.cell 2
        have b3 : w7.cell? ⟨w.heap.size, 3, none⟩ = some (.int .i64 B.hi) := bo.cell 3
        clear bo
        have bo := bS_11.out
        have d3 : w7.cell? ⟨w.heap.size + 1, 3, none⟩ = some (.slice (some ⟨bm, om, none⟩) n c) := bo.cell 3
        clear bo
        have bo := bX_11.out
        have u3 : w7.cell? ⟨w.heap.size + 1 + 1, 3, none⟩ = some (.int .u16 x3) := bo.cell 3
        clear bo
        go_upto_region 24 with fail
        clear u3 d3
        clear b0 b1 b2 b3
        refine region_grow [IsV (.agg #[.slice Q B.qs.length cq, .slice Wd B.wanted.length cw, .int .i64 B.lo, .int .i64 B.hi]), IsV (.pointer (some ⟨w.heap.size + 1, 3, none⟩)), IsV (.slice (some ⟨bm, om, none⟩) n c), IsV (.int .i64 (k : Int)), IsV (.pointer (some ⟨bm, om + k, none⟩)), IsV (.int .i64 (mk : Int)), IsV (.int .i64 (N : Int)), IsV (.int .i64 (i : Int)), TupL (ppI B i) 0, TupL (ppI B i) 0, LstV (ppI B i), IsV (.int .i64 0), LstV (ppI B i), IsV (.int .i64 0)] (by kernel_rfl) (by kernel_rfl) rfl ?_ ?_ ?_
        · simp [AllStb, IsV.stb, TupL.stb, LstV.stb]
        · refine ⟨?_, ?_, ?_, ?_, ?_, ?_, ?_, ?_, ?_, ?_, ?_, ?_, ?_, ?_, trivial⟩
          · refine one_fr ?_ ?_ ?_
            · kernel_rfl
            · left; kernel_rfl
            intro T y W4 K Qk Cv hF hC4 hd hV hK
            clear hd
            have t3 := hF.old 3 (.pointer (some ⟨w.heap.size, 0, none⟩)) (by kernel_rfl) (by kernel_rfl)
            clear hF
            have bx4 := bW_11.out.below hC4 bW_11.out.lt
            have c0 : W4.cell? ⟨w.heap.size, 0, none⟩ = some (.slice Q B.qs.length cq) := bx4.cell 0
            have c1 : W4.cell? ⟨w.heap.size, 1, none⟩ = some (.slice Wd B.wanted.length cw) := bx4.cell 1
            have c2 : W4.cell? ⟨w.heap.size, 2, none⟩ = some (.int .i64 B.lo) := bx4.cell 2
            have c3 : W4.cell? ⟨w.heap.size, 3, none⟩ = some (.int .i64 B.hi) := bx4.cell 3
            clear bx4
            go_simp
            exact hK _ _ (hV _ _ hC4 (Below.refl _ _) rfl)
          · refine one_fr ?_ ?_ ?_
            · kernel_rfl
            · left; kernel_rfl
            intro T y W4 K Qk Cv hF hC4 hd hV hK
            clear hd
            have t4 := hF.old 4 (.pointer (some ⟨w.heap.size + 1, 0, none⟩)) (by kernel_rfl) (by kernel_rfl)
            clear hF
            go_simp
            exact hK _ _ (hV _ _ hC4 (Below.refl _ _) rfl)
          · refine one_fr ?_ ?_ ?_
            · kernel_rfl
            · left; kernel_rfl
            intro T y W4 K Qk Cv hF hC4 hd hV hK
            simp [deps, VL, IsV, Region.binds] at hd
            have t152 := hF.get 1 152 (by kernel_rfl)
            simp only [hd] at t152
            clear hF
            have bx4 := bS_11.out.below hC4 bS_11.out.lt
            have c3 : W4.cell? ⟨w.heap.size + 1, 3, none⟩ = some (.slice (some ⟨bm, om, none⟩) n c) := bx4.cell 3
            clear bx4
            go_simp
            exact hK _ _ (hV _ _ hC4 (Below.refl _ _) rfl)
          · refine one_fr ?_ ?_ ?_
            · kernel_rfl
            · left; kernel_rfl
            intro T y W4 K Qk Cv hF hC4 hd hV hK
            clear hd
            have t18 := hF.old 18 (.int .i64 (k : Int)) (by kernel_rfl) (by kernel_rfl)
            clear hF
            go_simp
            exact hK _ _ (hV _ _ hC4 (Below.refl _ _) rfl)
          · refine one_fr ?_ ?_ ?_
            · kernel_rfl
            · left; kernel_rfl
            intro T y W4 K Qk Cv hF hC4 hd hV hK
            simp [deps, VL, IsV, Region.binds] at hd
            have t153 := hF.get 2 153 (by kernel_rfl)
            simp only [hd] at t153
            have t154 := hF.get 3 154 (by kernel_rfl)
            simp only [hd] at t154
            clear hF
            go_simp
            exact hK _ _ (hV _ _ hC4 (Below.refl _ _) rfl)
          · refine one_fr ?_ ?_ ?_
            · kernel_rfl
            · left; kernel_rfl
            intro T y W4 K Qk Cv hF hC4 hd hV hK
            simp [deps, VL, IsV, Region.binds] at hd
            have t155 := hF.get 4 155 (by kernel_rfl)
            simp only [hd] at t155
            clear hF
            have cx : W4.cell? ⟨bm, om + k, none⟩ = some (.int .i64 (mk : Int)) := (cellB hC4 hbm).trans cmk
            go_simp
            exact hK _ _ (hV _ _ hC4 (Below.refl _ _) rfl)
          · refine one_fr ?_ ?_ ?_
            · kernel_rfl
            · left; kernel_rfl
            intro T y W4 K Qk Cv hF hC4 hd hV hK
            clear hd
            have t7 := hF.old 7 (.int .i64 (N : Int)) (by kernel_rfl) (by kernel_rfl)
            clear hF
            go_simp
            exact hK _ _ (hV _ _ hC4 (Below.refl _ _) rfl)
          · refine one_fr ?_ ?_ ?_
            · kernel_rfl
            · left; kernel_rfl
            intro T y W4 K Qk Cv hF hC4 hd hV hK
            simp [deps, VL, IsV, Region.binds] at hd
            have t156 := hF.get 5 156 (by kernel_rfl)
            simp only [hd] at t156
            have t157 := hF.get 6 157 (by kernel_rfl)
            simp only [hd] at t157
            clear hF
            go_simp
            exact hK _ _ (hV _ _ hC4 (Below.refl _ _) rfl)
          · refine one_fr ?_ ?_ ?_
            · kernel_rfl
            · left; kernel_rfl
            intro T y W4 K Qk Cv hF hC4 hd hV hK
            simp [deps, VL, IsV, Region.binds] at hd
            have t151 := hF.get 0 151 (by kernel_rfl)
            simp only [hd] at t151
            have t158 := hF.get 7 158 (by kernel_rfl)
            simp only [hd] at t158
            clear hF
            have hs := hNt.out (i : Int) W4 (hB_11.out.trans (hC4.mono hB_11.out.size))
            rw [p1, p2] at hs
            go_simp
            refine hs.mono ?_
            rintro e w7 ⟨⟨v7, rfl, q7⟩, hb7⟩
            exact hK _ _ (hV _ _ (hC4.trans (hb7.mono hC4.size)) hb7 ⟨v7, rfl, q7⟩)
          · refine one_fr ?_ ?_ ?_
            · kernel_rfl
            · left; kernel_rfl
            intro T y W4 K Qk Cv hF hC4 hd hV hK
            simp [deps, VL, Region.binds] at hd
            have t159 := hF.get 8 159 (by kernel_rfl)
            clear hF
            generalize y 8 = zz at *
            go_simp
            first
              | exact hK _ _ (hV _ _ hC4 (Below.refl _ _) hd)
              | exact hK _ _ (hV _ _ hC4 (Below.refl _ _) hd.1)
          · refine one_fr ?_ ?_ ?_
            · kernel_rfl
            · left; kernel_rfl
            intro T y W4 K Qk Cv hF hC4 hd hV hK
            simp [deps, VL, Region.binds] at hd
            have t150 := hF.get 9 150 (by kernel_rfl)
            clear hF
            obtain ⟨u7, e7, h7⟩ := hd
            rw [e7] at t150
            go_simp
            exact hK _ _ (hV _ _ hC4 (Below.refl _ _) h7)
          · refine one_fr ?_ ?_ ?_
            · kernel_rfl
            · left; kernel_rfl
            intro T y W4 K Qk Cv hF hC4 hd hV hK
            simp [deps, VL, Region.binds] at hd
            have t150 := hF.get 9 150 (by kernel_rfl)
            clear hF
            obtain ⟨u7, e7, h7⟩ := hd
            rw [e7] at t150
            go_simp
            exact hK _ _ (hV _ _ hC4 (Below.refl _ _) rfl)
          · refine one_fr ?_ ?_ ?_
            · kernel_rfl
            · left; kernel_rfl
            intro T y W4 K Qk Cv hF hC4 hd hV hK
            simp [deps, VL, Region.binds] at hd
            have t160 := hF.get 10 160 (by kernel_rfl)
            clear hF
            generalize y 10 = zz at *
            go_simp
            first
              | exact hK _ _ (hV _ _ hC4 (Below.refl _ _) hd)
              | exact hK _ _ (hV _ _ hC4 (Below.refl _ _) hd.1)
          · refine one_fr ?_ ?_ ?_
            · kernel_rfl
            · left; kernel_rfl
            intro T y W4 K Qk Cv hF hC4 hd hV hK
            simp [deps, VL, IsV, Region.binds] at hd
            have t161 := hF.get 11 161 (by kernel_rfl)
            clear hF
            simp only [hd] at t161
            go_simp
            exact hK _ _ (hV _ _ hC4 (Below.refl _ _) rfl)
        intro y w8 hC hd4
        simp [EndsL, IsV] at hd4
        obtain ⟨m0, m1, m2, m3, m4, m5, m6, m7, m8, m9, m10, m11, m12, m13⟩ := hd4
        simp only [putAll, Act.put]
        rw [m0, m1, m2, m3, m4, m5, m6, m7, m11, m13]
        clear m0 m1 m2 m3 m4 m5 m6 m7 m11 m13
        simp only [List.setIfInBounds_toArray, List.set_cons_succ, List.set_cons_zero]
        generalize y 8 = z8 at *
        generalize y 9 = z9 at *
        generalize y 10 = z10 at *
        generalize y 12 = z12 at *
        obtain ⟨Al, cl, rfl, hrl, hml, -⟩ := m12
        have hb : Below w7.heap.size w7 w8 := hC
        have hB_12 := hide (hB_11.out.trans (hb.mono hB_11.out.size))
        have bW_12 := hide (bW_11.out.below hb bW_11.out.lt)
        have bS_12 := hide (bS_11.out.below hb bS_11.out.lt)
        have bX_12 := hide (bX_11.out.below hb bX_11.out.lt)
        have bU_12 := hide (bU_11.out.below hb bU_11.out.lt)
        have bH_12 := hide (bH_11.out.below hb bH_11.out.lt)
        have hrk_12 := hide (hrk.out.below hb)
        clear hC m8 m9 m10
        have ckd8 : w8.cell? ⟨bd, od + k, none⟩ = some (.slice Ak (ppI B i).length ck) := (cellB hb hbd).trans ckd
        clear hb hbd ckd
        have hcl := hide (Ints_any Al Ak _ _ cl ck _ _ w8 hrl hrk_12.out hml hmx2)
        rw [decide_eq_true rfl] at hcl
        go_wp2_with fail
        refine hcl.out.mono ?_
        rintro e w9 ⟨rfl, qq, rfl⟩
        have hb : Below w8.heap.size w8 (w8.drewN qq) := below_drewN (Below.refl _ _) _
        have hB_13 := hide (hB_12.out.trans (hb.mono hB_12.out.size))
        have bW_13 := hide (bW_12.out.below hb bW_12.out.lt)
        have bS_13 := hide (bS_12.out.below hb bS_12.out.lt)
        have bX_13 := hide (bX_12.out.below hb bX_12.out.lt)
        have bU_13 := hide (bU_12.out.below hb bU_12.out.lt)
        have bH_13 := hide (bH_12.out.below hb bH_12.out.lt)
        have hrk_13 := hide (hrk_12.out.below hb)
        clear hb ckd8 hcl
        generalize w8.drewN qq = w9 at *
        go_wp2_with fail
        refine (Awake_any _).mono ?_
        rintro e wz ⟨rfl, hbz⟩
        have hBz := hide (hB_13.out.trans (hbz.mono hB_13.out.size))
        clear hbz 
        go_wp2
        go_ret
        exact ⟨rfl, hBz.out⟩
  · have he3 : decide (er = 0) = false := decide_eq_false he
    replace he := hide he
    go_wp2_with fail
    refine (Awake_any _).mono ?_
    rintro e wz ⟨rfl, hbz⟩
    have hBz := hide (hB_1.out.trans (hbz.mono hB_1.out.size))
    clear hbz 
    go_wp2
    go_ret
    exact ⟨rfl, hBz.out⟩
end Go.Proofs.Ytnmgnonbgihalaa
