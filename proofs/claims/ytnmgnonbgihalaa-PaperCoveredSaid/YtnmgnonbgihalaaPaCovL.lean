/-
  The law PaperCovered (made by gen_covl.py).
-/
import Derived.Test.YtnmgnonbgihalaaPy
import Derived.Test.YtnmgnonbgihalaaQc
import Derived.Test.YtnmgnonbgihalaaPt
import Derived.Test.YtnmgnonbgihalaaPw
namespace Go.Proofs.Ytnmgnonbgihalaa
open Go.RowKit RG

set_option maxRecDepth 100000 in
set_option maxHeartbeats 8000000 in
theorem PaperCovered_any (v l : Value) (Q Wd : Option Addr) (cq cw : Nat) (B : Bank) (x hr hs hc : Int) (A : Option Addr) (c : Nat) (ms : List Int) (w : World) (hv : BankIn w v Q Wd cq cw B) (hl : ListIn w l A c ms) :
    Calls Try.prog 8 #[v, .int .i64 x, .agg #[.int .i64 hr, .int .i64 hs, .int .i64 hc, l]] w fun e w' => e = .returned (.bool true) ∧ Below w.heap.size w w' := by
  obtain ⟨rfl, hR, -, -⟩ := hv
  obtain ⟨rfl, hM, hmx, -, -⟩ := hl
  have hNt := hide (fun W (hb : Below w.heap.size w W) => Nth_f Q Wd cq cw B x W (hR.below hb))
  have hDr := hide (fun W (hb : Below w.heap.size w W) => Draw_any Q Wd cq cw B hr hs hc A _ c ms W (hR.below hb) (hM.below hb) hmx)
  have hVa := hide (fun W (hb : Below w.heap.size w W) => valid_any Q Wd cq cw B W (hR.below hb))
  have hIs := hide (fun (hB : BankOk B) W (hb : Below w.heap.size w W) A n c xs (h : RdInts W A n xs) (hn : n ≤ maxLen) => Is_any Q Wd cq cw B A n c xs W (hR.below hb) hB h hn)
  have g1 := hide (fun (h : errP B ≠ 0) => nthE_err h x)
  have g2 := hide (fun (h : errP B ≠ 0) => draw_err (hr := hr) (hs := hs) (hc := hc) (ms := ms) h)
  have g3 := hide (fun (h : nthE B x ≠ 0) => nthP_nil h)
  have g4 := hide (fun (h : drawE B hr hs hc ms ≠ 0) => draw_nil h)
  have g5 := hide (fun (h : nthE B x = 0) => nthP_isP h)
  have g6 := hide (fun (h : errP B = 0) j hj => draw_all (hr := hr) (hs := hs) (hc := hc) (ms := ms) h j hj)
  have g7 := hide (fun (h : errP B = 0) => err_ok h)
  generalize nthE B x = ne at *
  generalize nthP B x = np at *
  generalize drawE B hr hs hc ms = de at *
  generalize drawR B hr hs hc ms = dr at *
  generalize errP B = er at *
  generalize ms.length = n at *
  unfold bkV at *
  obtain ⟨W, hW⟩ : ∃ y, (w.alloc (.cells #[.slice Q B.qs.length cq, .slice Wd B.wanted.length cw, .int .i64 B.lo, .int .i64 B.hi] 27)).alloc (.cells #[.int .i64 hr, .int .i64 hs, .int .i64 hc, .slice A n c] 54) = y := ⟨_, rfl⟩
  have bW := hide (show Blk W w.heap.size 27 #[.slice Q B.qs.length cq, .slice Wd B.wanted.length cw, .int .i64 B.lo, .int .i64 B.hi] by rw [← hW]; exact (blkNew rfl).alloc _)
  have bS := hide (show Blk W (w.heap.size + 1) 54 #[.int .i64 hr, .int .i64 hs, .int .i64 hc, .slice A n c] by rw [← hW]; exact blkNew (by simp))
  have hB := hide (show Below w.heap.size w W by rw [← hW]; exact ((Below.refl _ _).alloc (Nat.le_refl _) _).alloc (by simp <;> omega) _)
  replace hW := hide hW
  clear hR hM
  have bo := bW.out
  have b0 : W.cell? ⟨w.heap.size, 0, none⟩ = some (.slice Q B.qs.length cq) := bo.cell 0
  have b1 : W.cell? ⟨w.heap.size, 1, none⟩ = some (.slice Wd B.wanted.length cw) := bo.cell 1
  have b2 : W.cell? ⟨w.heap.size, 2, none⟩ = some (.int .i64 B.lo) := bo.cell 2
  have b3 : W.cell? ⟨w.heap.size, 3, none⟩ = some (.int .i64 B.hi) := bo.cell 3
  clear bo
  go_enter Try.func8, Try.ntmps8
  go_upto_region 1 with fail
  rw [hW.out]
  go_wp2_with fail
  refine (hNt.out W hB.out).mono ?_
  rintro e w1 ⟨⟨la, rfl, hla⟩, hb⟩
  replace hla := hide hla
  clear b0 b1 b2 b3
  clear hNt hW
  have hB_1 := hide (hB.out.trans (hb.mono hB.out.size))
  have bW_1 := hide (bW.out.below hb bW.out.lt)
  have bS_1 := hide (bS.out.below hb bS.out.lt)
  clear hb
  have bo := bW_1.out
  have b0 : w1.cell? ⟨w.heap.size, 0, none⟩ = some (.slice Q B.qs.length cq) := bo.cell 0
  have b1 : w1.cell? ⟨w.heap.size, 1, none⟩ = some (.slice Wd B.wanted.length cw) := bo.cell 1
  have b2 : w1.cell? ⟨w.heap.size, 2, none⟩ = some (.int .i64 B.lo) := bo.cell 2
  have b3 : w1.cell? ⟨w.heap.size, 3, none⟩ = some (.int .i64 B.hi) := bo.cell 3
  clear bo
  have bo := bS_1.out
  have d0 : w1.cell? ⟨w.heap.size + 1, 0, none⟩ = some (.int .i64 hr) := bo.cell 0
  have d1 : w1.cell? ⟨w.heap.size + 1, 1, none⟩ = some (.int .i64 hs) := bo.cell 1
  have d2 : w1.cell? ⟨w.heap.size + 1, 2, none⟩ = some (.int .i64 hc) := bo.cell 2
  have d3 : w1.cell? ⟨w.heap.size + 1, 3, none⟩ = some (.slice A n c) := bo.cell 3
  clear bo
  go_wp2_with fail
  refine (hDr.out w1 hB_1.out).mono ?_
  rintro e w2 ⟨⟨ld, rfl, hld⟩, hb⟩
  replace hld := hide hld
  clear b0 b1 b2 b3
  clear d0 d1 d2 d3 hDr
  have hB_2 := hide (hB_1.out.trans (hb.mono hB_1.out.size))
  have bW_2 := hide (bW_1.out.below hb bW_1.out.lt)
  have bS_2 := hide (bS_1.out.below hb bS_1.out.lt)
  have hla_2 := hide (hla.out.below hb)
  clear hb
  have bo := bW_2.out
  have b0 : w2.cell? ⟨w.heap.size, 0, none⟩ = some (.slice Q B.qs.length cq) := bo.cell 0
  have b1 : w2.cell? ⟨w.heap.size, 1, none⟩ = some (.slice Wd B.wanted.length cw) := bo.cell 1
  have b2 : w2.cell? ⟨w.heap.size, 2, none⟩ = some (.int .i64 B.lo) := bo.cell 2
  have b3 : w2.cell? ⟨w.heap.size, 3, none⟩ = some (.int .i64 B.hi) := bo.cell 3
  clear bo
  go_wp2_with fail
  refine (hVa.out w2 hB_2.out).mono ?_
  rintro e w3 ⟨rfl, hb⟩
  clear b0 b1 b2 b3
  clear hVa
  have hB_3 := hide (hB_2.out.trans (hb.mono hB_2.out.size))
  have bW_3 := hide (bW_2.out.below hb bW_2.out.lt)
  have bS_3 := hide (bS_2.out.below hb bS_2.out.lt)
  have hla_3 := hide (hla_2.out.below hb)
  have hld_3 := hide (hld.out.below hb)
  clear hb
  obtain ⟨Ad, cd, rfl, hps, hd1, hd2⟩ := hld_3.out.paps
  replace hps := hide hps
  have hdl0 := hide (Nat.le_trans hd1 hd2)
  clear hd1 hd2
  obtain ⟨An, cn, rfl, hra, hma, -⟩ := hla_3.out
  replace hra := hide hra
  by_cases he : er = 0
  · subst he
    have hOk := hide (g7.out rfl)
    have h6 := hide (g6.out rfl)
    clear g1 g2 g6 g7
    by_cases hn : ne = 0
    · subst hn
      have bo := bW_3.out
      have b0 : w3.cell? ⟨w.heap.size, 0, none⟩ = some (.slice Q B.qs.length cq) := bo.cell 0
      have b1 : w3.cell? ⟨w.heap.size, 1, none⟩ = some (.slice Wd B.wanted.length cw) := bo.cell 1
      have b2 : w3.cell? ⟨w.heap.size, 2, none⟩ = some (.int .i64 B.lo) := bo.cell 2
      have b3 : w3.cell? ⟨w.heap.size, 3, none⟩ = some (.int .i64 B.hi) := bo.cell 3
      clear bo
      have hip := hide (hIs.out hOk.out w3 hB_3.out An _ cn _ hra.out hma)
      rw [g5.out rfl] at hip
      generalize np.length = lnp at *
      go_wp2_with fail
      refine hip.out.mono ?_
      rintro e w4 ⟨rfl, hb⟩
      clear b0 b1 b2 b3
      clear hip
      have hB_4 := hide (hB_3.out.trans (hb.mono hB_3.out.size))
      have bW_4 := hide (bW_3.out.below hb bW_3.out.lt)
      have bS_4 := hide (bS_3.out.below hb bS_3.out.lt)
      have hps_4 := hide (hps.out.below hb)
      clear hb
      by_cases hf : de = 0
      · subst hf
        have hdl := hide (show dr.length ≤ maxLen from hdl0.out)
        go_wp2
        go_loopg [11] (dr.length + 1) (fun gg s11 wr => ∃ i : Nat, i ≤ dr.length ∧ dr.length < gg + i ∧ s11 = .int .i64 i ∧ Hid (Below w4.heap.size w4 wr))
        case atStart => exact ⟨0, by omega, by omega, rfl, hide (Below.refl _ _)⟩
        case round =>
          obtain ⟨i, hi, hg, rfl, hbr⟩ := hrel
          have hBr := hide (hB_4.out.trans (hbr.out.mono hB_4.out.size))
          have bWr := hide (bW_4.out.below hbr.out bW_4.out.lt)
          by_cases hil : i < dr.length
          · have hilz := hide (show (i : Int) < (dr.length : Int) by omega)
            have hilz' : (i : Int) < (dr.length : Int) := hilz.out
            have hi0 := hide (show (0 : Int) ≤ (i : Int) by omega)
            have hiw : IntKind.i64.wrap ((i : Int) + 1) = (i : Int) + 1 := by rw [IntKind.wrap_i64]; have := hdl.out; unfold maxLen at this; omega
            obtain ⟨ba, oa, rfl, hba, hcx⟩ := (hps_4.out.below hbr.out).2 (by omega)
            obtain ⟨Aj, cj, cxi, hrj, hlj⟩ := hcx i hil
            have hIs2 := hide (fun W4 (hj : Below wr.heap.size wr W4) => hIs.out hOk.out W4 (hBr.out.trans (hj.mono hBr.out.size)) Aj _ cj _ (hrj.below hj) hlj)
            rw [h6.out i hil] at hIs2
            generalize (dr[i]?.getD []).length = lj at *
            replace hba := hide hba
            replace cxi := hide cxi
            clear hcx hrj hlj
            go_wp2
            refine region_cst [.agg #[.slice Q B.qs.length cq, .slice Wd B.wanted.length cw, .int .i64 B.lo, .int .i64 B.hi], .slice (some ⟨ba, oa, none⟩) dr.length cd, .int .i64 (i : Int), .pointer (some ⟨ba, oa + i, none⟩), .slice Aj lj cj, .bool true, .bool false] (fun (_ : Nat → Bool) (W' : World) => Below wr.heap.size wr W') (by kernel_rfl) (by kernel_rfl) (Below.drew (Below.refl _ _)) ?_ ?_
            · refine ⟨?_, ?_, ?_, ?_, ?_, ?_, ?_, trivial⟩
              · refine ⟨by kernel_rfl, ?_⟩
                intro Tf f y W4 Kq Qq hF hJ4 hf hd hK
                have t3 := hF.old 3 (.pointer (some ⟨w.heap.size, 0, none⟩)) (by kernel_rfl) (by kernel_rfl)
                clear hF hd
                have bx4 := bWr.out.below hJ4 bWr.out.lt
                have c0 : W4.cell? ⟨w.heap.size, 0, none⟩ = some (.slice Q B.qs.length cq) := bx4.cell 0
                have c1 : W4.cell? ⟨w.heap.size, 1, none⟩ = some (.slice Wd B.wanted.length cw) := bx4.cell 1
                have c2 : W4.cell? ⟨w.heap.size, 2, none⟩ = some (.int .i64 B.lo) := bx4.cell 2
                have c3 : W4.cell? ⟨w.heap.size, 3, none⟩ = some (.int .i64 B.hi) := bx4.cell 3
                clear bx4
                go_simp
                exact hK _ (hJ4)
              · refine ⟨by kernel_rfl, ?_⟩
                intro Tf f y W4 Kq Qq hF hJ4 hf hd hK
                have t9 := hF.old 9 (.slice (some ⟨ba, oa, none⟩) dr.length cd) (by kernel_rfl) (by kernel_rfl)
                clear hF hd
                go_simp
                exact hK _ (hJ4)
              · refine ⟨by kernel_rfl, ?_⟩
                intro Tf f y W4 Kq Qq hF hJ4 hf hd hK
                have t11 := hF.old 11 (.int .i64 (i : Int)) (by kernel_rfl) (by kernel_rfl)
                clear hF hd
                go_simp
                exact hK _ (hJ4)
              · refine ⟨by kernel_rfl, ?_⟩
                intro Tf f y W4 Kq Qq hF hJ4 hf hd hK
                have p1 : y 1 = .slice (some ⟨ba, oa, none⟩) dr.length cd := (hd 1 (by kernel_rfl)).2 _ rfl
                have p2 : y 2 = .int .i64 (i : Int) := (hd 2 (by kernel_rfl)).2 _ rfl
                have t81 := hF.get 1 81 (by kernel_rfl)
                rw [p1] at t81
                have t82 := hF.get 2 82 (by kernel_rfl)
                rw [p2] at t82
                clear hF hd
                have u1 := hilz.out
                have u2 := hi0.out
                go_simp
                exact hK _ (hJ4)
              · refine ⟨by kernel_rfl, ?_⟩
                intro Tf f y W4 Kq Qq hF hJ4 hf hd hK
                have p3 : y 3 = .pointer (some ⟨ba, oa + i, none⟩) := (hd 3 (by kernel_rfl)).2 _ rfl
                have t83 := hF.get 3 83 (by kernel_rfl)
                rw [p3] at t83
                clear hF hd
                have cx : W4.cell? ⟨ba, oa + i, none⟩ = some (.slice Aj lj cj) := (cellB hJ4 hba.out).trans cxi.out
                go_simp
                exact hK _ (hJ4)
              · refine ⟨by kernel_rfl, ?_⟩
                intro Tf f y W4 Kq Qq hF hJ4 hf hd hK
                have p0 : y 0 = .agg #[.slice Q B.qs.length cq, .slice Wd B.wanted.length cw, .int .i64 B.lo, .int .i64 B.hi] := (hd 0 (by kernel_rfl)).2 _ rfl
                have p4 : y 4 = .slice Aj lj cj := (hd 4 (by kernel_rfl)).2 _ rfl
                have t80 := hF.get 0 80 (by kernel_rfl)
                rw [p0] at t80
                have t84 := hF.get 4 84 (by kernel_rfl)
                rw [p4] at t84
                have hs := hIs2.out W4 hJ4
                clear hF hd
                go_simp
                refine hs.mono ?_
                rintro e w7 ⟨rfl, hb7⟩
                exact hK _ (hJ4.trans (hb7.mono hJ4.size))
              · refine ⟨by kernel_rfl, ?_⟩
                intro Tf f y W4 Kq Qq hF hJ4 hf hd hK
                have p5 : y 5 = .bool true := (hd 5 (by kernel_rfl)).2 _ rfl
                have t85 := hF.get 5 85 (by kernel_rfl)
                rw [p5] at t85
                clear hF hd
                go_simp
                exact hK _ (hJ4)
            intro f y W8 hf hJ hE
            have ee : y 6 = .bool false := hE 6 _ (by decide) rfl
            clear hE
            simp only [putAll, Act.put]
            simp only [List.setIfInBounds_toArray, List.set_cons_succ, List.set_cons_zero]
            rw [ee]
            have hb8 := hide (hbr.out.trans (hJ.mono hbr.out.size))
            go_wp2
            go_roundg (dr.length - i)
            case measure => omega
            case rel => exact ⟨i + 1, by omega, by omega, by go_num, hb8⟩
          · have hilz : ¬ (i : Int) < (dr.length : Int) := by omega
            clear hil
            go_wp2_with fail
            refine (Awake_any _).mono ?_
            rintro e wz ⟨rfl, hbz⟩
            have hBz := hide (hBr.out.trans (hbz.mono hBr.out.size))
            clear hbz
            go_wp2
            go_ret
            exact ⟨rfl, hBz.out⟩
      · have hf1 : (de != 0) = true := by rw [bne_iff_ne]; exact hf
        obtain rfl := g4.out hf
        replace hf := hide hf
        go_wp2
        go_loopg [11] 1 (fun gg s11 wr => 0 < gg ∧ s11 = .int .i64 0 ∧ Hid (Below w4.heap.size w4 wr))
        case atStart => exact ⟨by omega, rfl, hide (Below.refl _ _)⟩
        case round =>
          obtain ⟨hg, rfl, hbr⟩ := hrel
          have hBr := hide (hB_4.out.trans (hbr.out.mono hB_4.out.size))
          go_wp2_with fail
          refine (Awake_any _).mono ?_
          rintro e wz ⟨rfl, hbz⟩
          have hBz := hide (hBr.out.trans (hbz.mono hBr.out.size))
          clear hbz
          go_wp2
          go_ret
          exact ⟨rfl, hBz.out⟩
    · have hn1 : (ne != 0) = true := by rw [bne_iff_ne]; exact hn
      have hn2 : (ne == 0) = false := by rw [beq_eq_false_iff_ne]; exact hn
      obtain rfl := g3.out hn
      replace hn := hide hn
      by_cases hf : de = 0
      · subst hf
        have hdl := hide (show dr.length ≤ maxLen from hdl0.out)
        go_wp2
        go_loopg [11] (dr.length + 1) (fun gg s11 wr => ∃ i : Nat, i ≤ dr.length ∧ dr.length < gg + i ∧ s11 = .int .i64 i ∧ Hid (Below w3.heap.size w3 wr))
        case atStart => exact ⟨0, by omega, by omega, rfl, hide (Below.refl _ _)⟩
        case round =>
          obtain ⟨i, hi, hg, rfl, hbr⟩ := hrel
          have hBr := hide (hB_3.out.trans (hbr.out.mono hB_3.out.size))
          have bWr := hide (bW_3.out.below hbr.out bW_3.out.lt)
          by_cases hil : i < dr.length
          · have hilz := hide (show (i : Int) < (dr.length : Int) by omega)
            have hilz' : (i : Int) < (dr.length : Int) := hilz.out
            have hi0 := hide (show (0 : Int) ≤ (i : Int) by omega)
            have hiw : IntKind.i64.wrap ((i : Int) + 1) = (i : Int) + 1 := by rw [IntKind.wrap_i64]; have := hdl.out; unfold maxLen at this; omega
            obtain ⟨ba, oa, rfl, hba, hcx⟩ := (hps.out.below hbr.out).2 (by omega)
            obtain ⟨Aj, cj, cxi, hrj, hlj⟩ := hcx i hil
            have hIs2 := hide (fun W4 (hj : Below wr.heap.size wr W4) => hIs.out hOk.out W4 (hBr.out.trans (hj.mono hBr.out.size)) Aj _ cj _ (hrj.below hj) hlj)
            rw [h6.out i hil] at hIs2
            generalize (dr[i]?.getD []).length = lj at *
            replace hba := hide hba
            replace cxi := hide cxi
            clear hcx hrj hlj
            go_wp2
            refine region_cst [.agg #[.slice Q B.qs.length cq, .slice Wd B.wanted.length cw, .int .i64 B.lo, .int .i64 B.hi], .slice (some ⟨ba, oa, none⟩) dr.length cd, .int .i64 (i : Int), .pointer (some ⟨ba, oa + i, none⟩), .slice Aj lj cj, .bool true, .bool false] (fun (_ : Nat → Bool) (W' : World) => Below wr.heap.size wr W') (by kernel_rfl) (by kernel_rfl) (Below.drew (Below.refl _ _)) ?_ ?_
            · refine ⟨?_, ?_, ?_, ?_, ?_, ?_, ?_, trivial⟩
              · refine ⟨by kernel_rfl, ?_⟩
                intro Tf f y W4 Kq Qq hF hJ4 hf hd hK
                have t3 := hF.old 3 (.pointer (some ⟨w.heap.size, 0, none⟩)) (by kernel_rfl) (by kernel_rfl)
                clear hF hd
                have bx4 := bWr.out.below hJ4 bWr.out.lt
                have c0 : W4.cell? ⟨w.heap.size, 0, none⟩ = some (.slice Q B.qs.length cq) := bx4.cell 0
                have c1 : W4.cell? ⟨w.heap.size, 1, none⟩ = some (.slice Wd B.wanted.length cw) := bx4.cell 1
                have c2 : W4.cell? ⟨w.heap.size, 2, none⟩ = some (.int .i64 B.lo) := bx4.cell 2
                have c3 : W4.cell? ⟨w.heap.size, 3, none⟩ = some (.int .i64 B.hi) := bx4.cell 3
                clear bx4
                go_simp
                exact hK _ (hJ4)
              · refine ⟨by kernel_rfl, ?_⟩
                intro Tf f y W4 Kq Qq hF hJ4 hf hd hK
                have t9 := hF.old 9 (.slice (some ⟨ba, oa, none⟩) dr.length cd) (by kernel_rfl) (by kernel_rfl)
                clear hF hd
                go_simp
                exact hK _ (hJ4)
              · refine ⟨by kernel_rfl, ?_⟩
                intro Tf f y W4 Kq Qq hF hJ4 hf hd hK
                have t11 := hF.old 11 (.int .i64 (i : Int)) (by kernel_rfl) (by kernel_rfl)
                clear hF hd
                go_simp
                exact hK _ (hJ4)
              · refine ⟨by kernel_rfl, ?_⟩
                intro Tf f y W4 Kq Qq hF hJ4 hf hd hK
                have p1 : y 1 = .slice (some ⟨ba, oa, none⟩) dr.length cd := (hd 1 (by kernel_rfl)).2 _ rfl
                have p2 : y 2 = .int .i64 (i : Int) := (hd 2 (by kernel_rfl)).2 _ rfl
                have t81 := hF.get 1 81 (by kernel_rfl)
                rw [p1] at t81
                have t82 := hF.get 2 82 (by kernel_rfl)
                rw [p2] at t82
                clear hF hd
                have u1 := hilz.out
                have u2 := hi0.out
                go_simp
                exact hK _ (hJ4)
              · refine ⟨by kernel_rfl, ?_⟩
                intro Tf f y W4 Kq Qq hF hJ4 hf hd hK
                have p3 : y 3 = .pointer (some ⟨ba, oa + i, none⟩) := (hd 3 (by kernel_rfl)).2 _ rfl
                have t83 := hF.get 3 83 (by kernel_rfl)
                rw [p3] at t83
                clear hF hd
                have cx : W4.cell? ⟨ba, oa + i, none⟩ = some (.slice Aj lj cj) := (cellB hJ4 hba.out).trans cxi.out
                go_simp
                exact hK _ (hJ4)
              · refine ⟨by kernel_rfl, ?_⟩
                intro Tf f y W4 Kq Qq hF hJ4 hf hd hK
                have p0 : y 0 = .agg #[.slice Q B.qs.length cq, .slice Wd B.wanted.length cw, .int .i64 B.lo, .int .i64 B.hi] := (hd 0 (by kernel_rfl)).2 _ rfl
                have p4 : y 4 = .slice Aj lj cj := (hd 4 (by kernel_rfl)).2 _ rfl
                have t80 := hF.get 0 80 (by kernel_rfl)
                rw [p0] at t80
                have t84 := hF.get 4 84 (by kernel_rfl)
                rw [p4] at t84
                have hs := hIs2.out W4 hJ4
                clear hF hd
                go_simp
                refine hs.mono ?_
                rintro e w7 ⟨rfl, hb7⟩
                exact hK _ (hJ4.trans (hb7.mono hJ4.size))
              · refine ⟨by kernel_rfl, ?_⟩
                intro Tf f y W4 Kq Qq hF hJ4 hf hd hK
                have p5 : y 5 = .bool true := (hd 5 (by kernel_rfl)).2 _ rfl
                have t85 := hF.get 5 85 (by kernel_rfl)
                rw [p5] at t85
                clear hF hd
                go_simp
                exact hK _ (hJ4)
            intro f y W8 hf hJ hE
            have ee : y 6 = .bool false := hE 6 _ (by decide) rfl
            clear hE
            simp only [putAll, Act.put]
            simp only [List.setIfInBounds_toArray, List.set_cons_succ, List.set_cons_zero]
            rw [ee]
            have hb8 := hide (hbr.out.trans (hJ.mono hbr.out.size))
            go_wp2
            go_roundg (dr.length - i)
            case measure => omega
            case rel => exact ⟨i + 1, by omega, by omega, by go_num, hb8⟩
          · have hilz : ¬ (i : Int) < (dr.length : Int) := by omega
            clear hil
            go_wp2_with fail
            refine (Awake_any _).mono ?_
            rintro e wz ⟨rfl, hbz⟩
            have hBz := hide (hBr.out.trans (hbz.mono hBr.out.size))
            clear hbz
            go_wp2
            go_ret
            exact ⟨rfl, hBz.out⟩
      · have hf1 : (de != 0) = true := by rw [bne_iff_ne]; exact hf
        obtain rfl := g4.out hf
        replace hf := hide hf
        go_wp2
        go_loopg [11] 1 (fun gg s11 wr => 0 < gg ∧ s11 = .int .i64 0 ∧ Hid (Below w3.heap.size w3 wr))
        case atStart => exact ⟨by omega, rfl, hide (Below.refl _ _)⟩
        case round =>
          obtain ⟨hg, rfl, hbr⟩ := hrel
          have hBr := hide (hB_3.out.trans (hbr.out.mono hB_3.out.size))
          go_wp2_with fail
          refine (Awake_any _).mono ?_
          rintro e wz ⟨rfl, hbz⟩
          have hBz := hide (hBr.out.trans (hbz.mono hBr.out.size))
          clear hbz
          go_wp2
          go_ret
          exact ⟨rfl, hBz.out⟩
  · have he1 : (er != 0) = true := by rw [bne_iff_ne]; exact he
    have he2 : (er == 0) = false := by rw [beq_eq_false_iff_ne]; exact he
    have he3 : decide (er = 0) = false := decide_eq_false he
    obtain rfl := g1.out he
    obtain rfl := g2.out he
    obtain rfl := g3.out he
    obtain rfl := g4.out he
    replace he := hide he
    go_wp2_with fail
    refine (Awake_any _).mono ?_
    rintro e wz ⟨rfl, hbz⟩
    have hBz := hide (hB_3.out.trans (hbz.mono hB_3.out.size))
    clear hbz 
    go_wp2
    go_ret
    exact ⟨rfl, hBz.out⟩
end Go.Proofs.Ytnmgnonbgihalaa
