/-
  The law PaperNeighbours (made by gen_nb.py).
-/
import Derived.Test.YtnmgnonbgihalaaQf
import Derived.Test.YtnmgnonbgihalaaPt
import Derived.Test.YtnmgnonbgihalaaPv
import Derived.Test.YtnmgnonbgihalaaPs
import Derived.Test.YtnmgnonbgihalaaPw
namespace Go.Proofs.Ytnmgnonbgihalaa
open Go.RowKit RG

set_option maxRecDepth 100000 in
set_option maxHeartbeats 8000000 in
theorem PaperNeighbours_any (v l : Value) (Q Wd : Option Addr) (cq cw : Nat) (B : Bank) (hr hs hc : Int) (A : Option Addr) (c : Nat) (ms : List Int) (x0 : Int) (w : World) (hv : BankIn w v Q Wd cq cw B) (hl : ListIn w l A c ms)
    (h0 : 0 ≤ x0 ∧ x0 ≤ 255) :
    Calls Try.prog 11 #[v, .agg #[.int .i64 hr, .int .i64 hs, .int .i64 hc, l], .int .u8 x0] w fun e w' => e = .returned (.bool true) ∧ Below w.heap.size w w' := by
  obtain ⟨rfl, hR, -, -⟩ := hv
  obtain ⟨rfl, hM, hmx, -, hAc, -⟩ := hl
  have hCo := hide (fun W (hb : Below w.heap.size w W) => Count_any Q Wd cq cw B W (hR.below hb))
  have hDr := hide (fun W (hb : Below w.heap.size w W) => Draw_any Q Wd cq cw B hr hs hc A _ c ms W (hR.below hb) (hM.below hb) hmx)
  have hDg := hide (fun A n c xs W (hb : Below w.heap.size w W) (h : RdInts W A n xs) (hn : n ≤ maxLen) => Draw_any Q Wd cq cw B hr hs hc A n c xs W (hR.below hb) h hn)
  have hAp := hide (fun A n c ps W (hb : Below w.heap.size w W) (h : RdPaps W A n ps) => Accept_any Q Wd cq cw B hr hs hc A n c ps W (hR.below hb) h)
  have hMk := hide (fun W (hb : Below w.heap.size w W) => hM.below hb)
  have g1 := hide (fun (h : drawE B hr hs hc ms ≠ 0) => draw_nil h)
  have g2 := hide (fun (h : drawE B hr hs hc ms = 0) => show (drawR B hr hs hc ms).length = ms.length ∧ 1 ≤ ms.length ∧ ms.length ≤ 30 ∧ countP B = (((papers B).length : Nat) : Int) ∧ 1 ≤ (papers B).length ∧ (papers B).length ≤ 65536 ∧ acceptP B hr hs hc (drawR B hr hs hc ms) = (0, 0) ∧ errP B = 0 ∧ (∀ m ∈ ms, 0 ≤ m ∧ m ≤ 1000000000) ∧
      (∀ k, k < ms.length → ms[k]?.getD 0 + (papers B).length ≤ 1000000000 → drawE B hr hs hc (ms.set k (ms[k]?.getD 0 + (papers B).length)) = 0 ∧ drawR B hr hs hc (ms.set k (ms[k]?.getD 0 + (papers B).length)) = drawR B hr hs hc ms) from by
    obtain ⟨q1, q5, q6, -⟩ := draw_ok h
    obtain ⟨qB, q2, q3⟩ := enter_ok q1
    have := hall_n ⟨q2.1, q2.2.1⟩ q3
    exact ⟨draw_len h, by omega, by omega, by unfold countP; rw [if_neg (by simp [ok_err qB])], q6, papers_len qB, draw_acc h, ok_err qB, q5, fun k hk hy => draw_shift h hk hy⟩)
  obtain ⟨de, hde⟩ : ∃ z, drawE B hr hs hc ms = z := ⟨_, rfl⟩
  obtain ⟨dr, hdr⟩ : ∃ z, drawR B hr hs hc ms = z := ⟨_, rfl⟩
  obtain ⟨N, hN⟩ : ∃ z, (papers B).length = z := ⟨_, rfl⟩
  obtain ⟨n, hn⟩ : ∃ z, ms.length = z := ⟨_, rfl⟩
  rw [hde, hdr] at hDr g1
  rw [hde, hdr, hn, hN] at g2
  rw [hn] at hDr hMk hmx
  rw [hn]
  generalize countP B = cnt at *
  obtain ⟨er, her⟩ : ∃ z, errP B = z := ⟨_, rfl⟩
  rw [her] at g2 hCo
  replace her := hide her
  replace hde := hide hde
  replace hdr := hide hdr
  replace hN := hide hN
  replace hn := hide hn
  replace hAc := hide hAc
  unfold bkV at hCo hDr hDg hAp ⊢
  obtain ⟨W, hW⟩ : ∃ y, (w.alloc (.cells #[.slice Q B.qs.length cq, .slice Wd B.wanted.length cw, .int .i64 B.lo, .int .i64 B.hi] 27)).alloc (.cells #[.int .i64 hr, .int .i64 hs, .int .i64 hc, .slice A n c] 54) = y := ⟨_, rfl⟩
  have bW := hide (show Blk W w.heap.size 27 #[.slice Q B.qs.length cq, .slice Wd B.wanted.length cw, .int .i64 B.lo, .int .i64 B.hi] by rw [← hW]; exact (blkNew rfl).alloc _)
  have bS := hide (show Blk W (w.heap.size + 1) 54 #[.int .i64 hr, .int .i64 hs, .int .i64 hc, .slice A n c] by rw [← hW]; exact blkNew (by simp))
  have hB := hide (show Below w.heap.size w W by rw [← hW]; exact ((Below.refl _ _).alloc (Nat.le_refl _) _).alloc (by simp <;> omega) _)
  replace hW := hide hW
  clear hR hM
  have bo := bW.out
  have b0 : W.cell? ⟨w.heap.size, 0, none⟩ = some (.slice Q B.qs.length cq) := bo.cell 0
  have b1 : W.cell? ⟨w.heap.size, 1, none⟩ = some (.slice Wd B.wanted.length cw) := bo.cell 1
  have b2 : W.cell? ⟨w.heap.size, 2, none⟩ = some (.int .i64 B.lo) := bo.cell 2
  have b3 : W.cell? ⟨w.heap.size, 3, none⟩ = some (.int .i64 B.hi) := bo.cell 3
  clear bo
  have bo := bS.out
  have d0 : W.cell? ⟨w.heap.size + 1, 0, none⟩ = some (.int .i64 hr) := bo.cell 0
  have d1 : W.cell? ⟨w.heap.size + 1, 1, none⟩ = some (.int .i64 hs) := bo.cell 1
  have d2 : W.cell? ⟨w.heap.size + 1, 2, none⟩ = some (.int .i64 hc) := bo.cell 2
  have d3 : W.cell? ⟨w.heap.size + 1, 3, none⟩ = some (.slice A n c) := bo.cell 3
  clear bo
  go_enter Try.func11, Try.ntmps11
  go_upto_region 1 with fail
  rw [hW.out]
  go_wp2_with fail
  refine (hDr.out W hB.out).mono ?_
  rintro e w1 ⟨⟨ld, rfl, hld⟩, hb⟩
  replace hld := hide hld
  clear b0 b1 b2 b3
  clear hDr hW d0 d1 d2 d3
  have hB_1 := hide (hB.out.trans (hb.mono hB.out.size))
  have bW_1 := hide (bW.out.below hb bW.out.lt)
  have bS_1 := hide (bS.out.below hb bS.out.lt)
  clear hb
  by_cases he : de ≠ 0
  · have hd1 : (de != 0) = true := by rw [bne_iff_ne]; exact he
    obtain rfl := g1.out he
    obtain ⟨Ad, cd, rfl, -, -, -⟩ := hld.out.paps
    clear hld g2
    replace he := hide he
    go_wp2_with fail
    refine (Awake_any _).mono ?_
    rintro e wz ⟨rfl, hbz⟩
    have hBz := hide (hB_1.out.trans (hbz.mono hB_1.out.size))
    clear hbz 
    go_wp2
    go_ret
    exact ⟨rfl, hBz.out⟩
  · obtain rfl : de = 0 := Classical.byContradiction he
    obtain ⟨j1, j2, j3, rfl, j4, j5, j6, rfl, j7, j8⟩ := g2.out rfl
    clear g1 g2
    obtain ⟨Ad, cd, rfl, hps, hdc, -⟩ := hld.out.paps
    rw [j1] at hps hdc ⊢
    clear hld
    replace hps := hide hps
    have bo := bW_1.out
    have b0 : w1.cell? ⟨w.heap.size, 0, none⟩ = some (.slice Q B.qs.length cq) := bo.cell 0
    have b1 : w1.cell? ⟨w.heap.size, 1, none⟩ = some (.slice Wd B.wanted.length cw) := bo.cell 1
    have b2 : w1.cell? ⟨w.heap.size, 2, none⟩ = some (.int .i64 B.lo) := bo.cell 2
    have b3 : w1.cell? ⟨w.heap.size, 3, none⟩ = some (.int .i64 B.hi) := bo.cell 3
    clear bo
    have bo := bS_1.out
    have d0 : w1.cell? ⟨w.heap.size + 1, 0, none⟩ = some (.int .i64 hr) := bo.cell 0
    have d1 : w1.cell? ⟨w.heap.size + 1, 1, none⟩ = some (.int .i64 hs) := bo.cell 1
    have d2 : w1.cell? ⟨w.heap.size + 1, 2, none⟩ = some (.int .i64 hc) := bo.cell 2
    clear bo
    have hac := hide (hAp.out Ad n cd dr w1 hB_1.out hps.out)
    rw [j6] at hac
    go_wp2_with fail
    refine hac.out.mono ?_
    rintro e w2 ⟨rfl, hb⟩
    clear hac hAp d0 d1 d2
    clear b0 b1 b2 b3
    have hB_2 := hide (hB_1.out.trans (hb.mono hB_1.out.size))
    have bW_2 := hide (bW_1.out.below hb bW_1.out.lt)
    have bS_2 := hide (bS_1.out.below hb bS_1.out.lt)
    have hps_2 := hide (hps.out.below hb)
    clear hb
    have bo := bW_2.out
    have b0 : w2.cell? ⟨w.heap.size, 0, none⟩ = some (.slice Q B.qs.length cq) := bo.cell 0
    have b1 : w2.cell? ⟨w.heap.size, 1, none⟩ = some (.slice Wd B.wanted.length cw) := bo.cell 1
    have b2 : w2.cell? ⟨w.heap.size, 2, none⟩ = some (.int .i64 B.lo) := bo.cell 2
    have b3 : w2.cell? ⟨w.heap.size, 3, none⟩ = some (.int .i64 B.hi) := bo.cell 3
    clear bo
    go_wp2_with fail
    refine (hCo.out w2 hB_2.out).mono ?_
    rintro e w3 ⟨rfl, hb⟩
    clear hCo
    clear b0 b1 b2 b3
    have hB_3 := hide (hB_2.out.trans (hb.mono hB_2.out.size))
    have bW_3 := hide (bW_2.out.below hb bW_2.out.lt)
    have bS_3 := hide (bS_2.out.below hb bS_2.out.lt)
    have hps_3 := hide (hps_2.out.below hb)
    clear hb
    obtain ⟨k, hk⟩ : ∃ z, x0.toNat % n = z := ⟨_, rfl⟩
    have hkn : k < n := by rw [← hk]; exact Nat.mod_lt _ (by omega)
    obtain ⟨a0', hx0⟩ : ∃ z : Nat, x0 = (z : Int) := ⟨x0.toNat, by omega⟩
    have hm0 : x0.tmod (n : Int) = (k : Int) := by rw [hx0, Int.tmod_eq_emod_of_nonneg (by omega), ← hk, hx0]; rfl
    have hw0 : IntKind.i64.wrap x0 = x0 := by rw [IntKind.wrap_i64]; omega
    have hwk : IntKind.i64.wrap (k : Int) = (k : Int) := by rw [IntKind.wrap_i64]; omega
    have hkz : (k : Int) < (n : Int) := by omega
    have hkz0 : (0 : Int) ≤ (k : Int) := by omega
    have hnz : ((n : Int) == 0) = false := by rw [beq_eq_false_iff_ne]; omega
    have hnz2 : (n : Int) ≠ 0 := by omega
    have hnz3 : n ≠ 0 := by omega
    have hnn : ((n : Int) != (n : Int)) = false := by simp
    have hN1 : decide ((N : Int) < 1) = false := decide_eq_false (by omega)
    have hN2 : ¬ (N : Int) < 1 := by omega
    obtain ⟨y, hy⟩ : ∃ z, ms[k]?.getD 0 = z := ⟨_, rfl⟩
    have hy01 := j7 y (by rw [← hy, List.getElem?_eq_getElem (by rw [hn.out]; exact hkn)]; exact List.getElem_mem _)
    have hy0 := hy01.1
    have hy1 := hy01.2
    have hsub : IntKind.i64.wrap (1000000000 - (N : Int)) = 1000000000 - (N : Int) := by rw [IntKind.wrap_i64]; omega
    have hadd : IntKind.i64.wrap (y + (N : Int)) = y + (N : Int) := by rw [IntKind.wrap_i64]; omega
    have j8 := j8 k hkn
    rw [hy] at j8
    have hR3 := hMk.out w3 hB_3.out
    obtain ⟨g, cap, w4, hrun, hrow, hb4, hg1, hg2, hcap⟩ := copyN hR3 (by omega) (by omega) c hAc.out
    have hs3 := hB_3.out.size
    have hlx := bS_3.out.lt
    have cy : w4.cell? ⟨g, k, none⟩ = some (.int .i64 y) := by
      obtain ⟨g', cap', e7, -, -, -, -, -, hcel, -⟩ := hrow.at (by rw [List.length_map, hn.out]; omega)
      obtain rfl : g = g' := by injection e7 with a; injection a with a; injection a
      have hkm : k < ms.length := by rw [hn.out]; exact hkn
      have hyk : ms[k] = y := by rw [← hy, List.getElem?_eq_getElem hkm]; rfl
      have h9 := hcel k 0 (.int .i64 y) (by rw [List.getElem?_map, List.getElem?_eq_getElem hkm, hyk]; rfl)
      rwa [Nat.mul_one, Nat.add_zero] at h9
    have fy : w4.frozen? ⟨g, k, none⟩ = false := by
      obtain ⟨g', cap', e7, -, -, -, -, -, -, hfz, -⟩ := hrow.at (by rw [List.length_map, hn.out]; omega)
      obtain rfl : g = g' := by injection e7 with a; injection a with a; injection a
      exact hfz k
    replace hrun := hide hrun
    replace hrow := hide hrow
    replace hk := hide hk
    replace hx0 := hide hx0
    replace hy := hide hy
    replace j8 := hide j8
    replace j7 := hide j7
    replace hg1 := hide hg1
    replace hg2 := hide hg2
    replace hcap := hide hcap
    have bo := bS_3.out
    have d3 : w3.cell? ⟨w.heap.size + 1, 3, none⟩ = some (.slice A n c) := bo.cell 3
    clear bo
    have s3 : (w3.alloc (.cells #[] 3)).cell? ⟨w.heap.size + 1, 3, none⟩ = some (.slice A n c) := (bS_3.out.alloc _).cell 3
    have hb4 : Below w3.heap.size w3 w4 := hb4
    have hB_4 := hide (hB_3.out.trans (hb4.mono hB_3.out.size))
    have bW_4 := hide (bW_3.out.below hb4 bW_3.out.lt)
    have bS_4 := hide (bS_3.out.below hb4 bS_3.out.lt)
    have hps_4 := hide (hps_3.out.below hb4)
    by_cases hbig : y > 1000000000 - (N : Int)
    · have hd2 : decide (y > 1000000000 - (N : Int)) = true := decide_eq_true hbig
      have hd3 : decide (1000000000 - (N : Int) < y) = true := decide_eq_true hbig
      have hd4 : 1000000000 - (N : Int) < y := hbig
      clear hbig fy
      go_upto_region 11 with (at_builtin; refine wpList_append_run rfl _ _ 23 rfl _ _ _ rfl rfl hrun.out ?_)
      go_wp2_with fail
      refine (Awake_any _).mono ?_
      rintro e wz ⟨rfl, hbz⟩
      have hBz := hide (hB_4.out.trans (hbz.mono hB_4.out.size))
      clear hbz 
      go_wp2
      go_ret
      exact ⟨rfl, hBz.out⟩
    · have hd2 : decide (y > 1000000000 - (N : Int)) = false := decide_eq_false hbig
      have hd3 : decide (1000000000 - (N : Int) < y) = false := decide_eq_false hbig
      have hd4 : ¬ 1000000000 - (N : Int) < y := hbig
      obtain ⟨q1, q2⟩ := j8.out (by omega)
      clear hbig
      obtain ⟨W5, hW5⟩ : ∃ z, w4.setCell ⟨g, k, none⟩ (.int .i64 (y + (N : Int))) = z := ⟨_, rfl⟩
      have st5 : Stored g w4 W5 := by rw [← hW5]; exact Stored.set1 _ _ _ _
      have hb5 : Below w3.heap.size w3 W5 := hb4.trans (st5.below hg1.out)
      have row5 : RowAt W5 (fun i => i < w3.heap.size) 3 1 (.slice (some ⟨g, 0, none⟩) n cap) ((ms.set k (y + (N : Int))).map iCells) := by rw [← hW5]; exact rowInt_set hrow.out (by rw [hn.out]; exact hkn) _
      replace hW5 := hide hW5
      go_upto_region 13 with (at_builtin; refine wpList_append_run rfl _ _ 23 rfl _ _ _ rfl rfl hrun.out ?_)
      rw [hW5.out]
      clear d3 s3 cy fy hy0 hy1 hd2 hd3 hd4
      have hB_5 := hide (hB_3.out.trans (hb5.mono hB_3.out.size))
      have bW_5 := hide (bW_3.out.below hb5 bW_3.out.lt)
      have bS_5 := hide (bS_3.out.below hb5 bS_3.out.lt)
      have hps_5 := hide (hps_3.out.below hb5)
      clear hb5 hW5
      obtain ⟨Ag, cg, eg, hrg, hmg, hcg, -⟩ := row5.ints
      injection eg with a1 a2 a3
      subst a1
      subst a3
      clear a2
      have hlen9 : (ms.set k (y + (N : Int))).length = n := by rw [List.length_set]; exact hn.out
      rw [hlen9] at hrg
      have hdg := hide (hDg.out _ n cap _ W5 hB_5.out hrg hmx)
      rw [q1, q2] at hdg
      have bo := bW_5.out
      have b0 : W5.cell? ⟨w.heap.size, 0, none⟩ = some (.slice Q B.qs.length cq) := bo.cell 0
      have b1 : W5.cell? ⟨w.heap.size, 1, none⟩ = some (.slice Wd B.wanted.length cw) := bo.cell 1
      have b2 : W5.cell? ⟨w.heap.size, 2, none⟩ = some (.int .i64 B.lo) := bo.cell 2
      have b3 : W5.cell? ⟨w.heap.size, 3, none⟩ = some (.int .i64 B.hi) := bo.cell 3
      clear bo
      have bo := bS_5.out
      have d0 : W5.cell? ⟨w.heap.size + 1, 0, none⟩ = some (.int .i64 hr) := bo.cell 0
      have d1 : W5.cell? ⟨w.heap.size + 1, 1, none⟩ = some (.int .i64 hs) := bo.cell 1
      have d2 : W5.cell? ⟨w.heap.size + 1, 2, none⟩ = some (.int .i64 hc) := bo.cell 2
      clear bo
      go_wp2_with fail
      refine hdg.out.mono ?_
      rintro e w6 ⟨⟨lm, rfl, hlm⟩, hb⟩
      clear hdg hDg hrg d0 d1 d2 row5
      clear b0 b1 b2 b3
      have hB_6 := hide (hB_5.out.trans (hb.mono hB_5.out.size))
      have bW_6 := hide (bW_5.out.below hb bW_5.out.lt)
      have bS_6 := hide (bS_5.out.below hb bS_5.out.lt)
      have hps_6 := hide (hps_5.out.below hb)
      clear hb
      obtain ⟨Am, cm, rfl, hpm, -, -⟩ := hlm.paps
      rw [j1] at hpm ⊢
      have heq := hide (Equal_any Ad Am n n cd cm dr dr w6 hps_6.out hpm hmx hmx)
      rw [decide_eq_true rfl] at heq
      clear hlm hpm
      go_wp2_with fail
      refine heq.out.mono ?_
      rintro e w7 ⟨rfl, qq, rfl⟩
      have hb : Below w6.heap.size w6 (w6.drewN qq) := below_drewN (Below.refl _ _) _
      have hB_7 := hide (hB_6.out.trans (hb.mono hB_6.out.size))
      have bW_7 := hide (bW_6.out.below hb bW_6.out.lt)
      have bS_7 := hide (bS_6.out.below hb bS_6.out.lt)
      have hps_7 := hide (hps_6.out.below hb)
      clear hb heq
      generalize w6.drewN qq = w7 at *
      go_wp2_with fail
      refine (Awake_any _).mono ?_
      rintro e wz ⟨rfl, hbz⟩
      have hBz := hide (hB_7.out.trans (hbz.mono hB_7.out.size))
      clear hbz 
      go_wp2
      go_ret
      exact ⟨rfl, hBz.out⟩
end Go.Proofs.Ytnmgnonbgihalaa
