/-
  The law PaperHarder (made by gen_hard.py).
-/
import Derived.Test.YtnmgnonbgihalaaQe
import Derived.Test.YtnmgnonbgihalaaPv
import Derived.Test.YtnmgnonbgihalaaPt
import Derived.Test.YtnmgnonbgihalaaPw
import Derived.BigQuiet
namespace Go.Proofs.Ytnmgnonbgihalaa
open Go.RowKit RG

set_option maxRecDepth 100000 in
set_option maxHeartbeats 8000000 in
theorem PaperHarder_any (v : Value) (Q Wd : Option Addr) (cq cw : Nat) (B : Bank) (x0 x1 : Int) (w : World) (hv : BankIn w v Q Wd cq cw B)
    (h0 : 0 ≤ x0 ∧ x0 ≤ 65535) (h1 : 0 ≤ x1 ∧ x1 ≤ 65535) :
    Calls Try.prog 15 #[v, .agg #[.int .u16 x0, .int .u16 x1]] w fun e w' => e = .returned (.bool true) ∧ Below w.heap.size w w' := by
  obtain ⟨rfl, hR, hcqn, hcq⟩ := hv
  have hWt := hide (fun W (hb : Below w.heap.size w W) => Weights_f Q Wd cq cw B W (hR.below hb))
  have hVa := hide (fun W (hb : Below w.heap.size w W) => valid_any Q Wd cq cw B W (hR.below hb))
  have hRb := hide (fun W (hb : Below w.heap.size w W) => hR.below hb)
  have g1 := hide (fun (h : errP B ≠ 0) => wts_nil h)
  have g2 := hide (fun (h : errP B = 0) => show (wtsP B).length = B.qs.length ∧ BankOk B ∧ (∀ k, k < B.qs.length → errP (hardB B k x1) = 0 ∧ (wtsP (hardB B k x1)).length = B.qs.length ∧ ∀ i, i < B.qs.length → ∃ a b, (wtsP B)[i]? = some a ∧ (wtsP (hardB B k x1))[i]? = some b ∧ (i ≠ k → a = b) ∧ a ≤ b ∧ 0 ≤ a ∧ b ≤ 1000) from
    ⟨wts_len h, err_ok h, fun k hk => ⟨hard_err h hk h1.1, by rw [wts_len (hard_err h hk h1.1), hard_len], fun i hi => hard_at h hk h1.1 i hi⟩⟩)
  have hnm := hR.nq
  generalize wtsP B = ws at *
  generalize errP B = er at *
  unfold bkV at hWt hVa ⊢
  obtain ⟨W, hW⟩ : ∃ y, (w.alloc (.cells #[.slice Q B.qs.length cq, .slice Wd B.wanted.length cw, .int .i64 B.lo, .int .i64 B.hi] 27)).alloc (.cells #[.int .u16 x0, .int .u16 x1] 58) = y := ⟨_, rfl⟩
  have bW := hide (show Blk W w.heap.size 27 #[.slice Q B.qs.length cq, .slice Wd B.wanted.length cw, .int .i64 B.lo, .int .i64 B.hi] by rw [← hW]; exact (blkNew rfl).alloc _)
  have bX := hide (show Blk W (w.heap.size + 1) 58 #[.int .u16 x0, .int .u16 x1] by rw [← hW]; exact blkNew (by simp))
  have hB := hide (show Below w.heap.size w W by rw [← hW]; exact ((Below.refl _ _).alloc (Nat.le_refl _) _).alloc (by simp <;> omega) _)
  replace hW := hide hW
  replace hcq := hide hcq
  clear hR
  have bo := bW.out
  have b0 : W.cell? ⟨w.heap.size, 0, none⟩ = some (.slice Q B.qs.length cq) := bo.cell 0
  have b1 : W.cell? ⟨w.heap.size, 1, none⟩ = some (.slice Wd B.wanted.length cw) := bo.cell 1
  have b2 : W.cell? ⟨w.heap.size, 2, none⟩ = some (.int .i64 B.lo) := bo.cell 2
  have b3 : W.cell? ⟨w.heap.size, 3, none⟩ = some (.int .i64 B.hi) := bo.cell 3
  clear bo
  go_enter Try.func15, Try.ntmps15
  go_upto_region 1 with fail
  rw [hW.out]
  go_wp2_with fail
  refine (hWt.out W hB.out).mono ?_
  rintro e w1 ⟨⟨la, rfl, hla⟩, hb⟩
  replace hla := hide hla
  clear b0 b1 b2 b3
  clear hWt hW
  have hB_1 := hide (hB.out.trans (hb.mono hB.out.size))
  have bW_1 := hide (bW.out.below hb bW.out.lt)
  have bX_1 := hide (bX.out.below hb bX.out.lt)
  clear hb
  have bo := bW_1.out
  have b0 : w1.cell? ⟨w.heap.size, 0, none⟩ = some (.slice Q B.qs.length cq) := bo.cell 0
  have b1 : w1.cell? ⟨w.heap.size, 1, none⟩ = some (.slice Wd B.wanted.length cw) := bo.cell 1
  have b2 : w1.cell? ⟨w.heap.size, 2, none⟩ = some (.int .i64 B.lo) := bo.cell 2
  have b3 : w1.cell? ⟨w.heap.size, 3, none⟩ = some (.int .i64 B.hi) := bo.cell 3
  clear bo
  go_wp2_with fail
  refine (hVa.out w1 hB_1.out).mono ?_
  rintro e w2 ⟨rfl, hb⟩
  clear b0 b1 b2 b3
  clear hVa
  have hB_2 := hide (hB_1.out.trans (hb.mono hB_1.out.size))
  have bW_2 := hide (bW_1.out.below hb bW_1.out.lt)
  have bX_2 := hide (bX_1.out.below hb bX_1.out.lt)
  have hla_2 := hide (hla.out.below hb)
  clear hb
  obtain ⟨Al, cl, rfl, hra, hma, hac⟩ := hla_2.out
  replace hra := hide hra
  clear hla hla_2
  by_cases he : er = 0
  · subst he
    obtain ⟨j1, hOk, j2⟩ := g2.out rfl
    obtain ⟨N, hN⟩ : ∃ z, B.qs.length = z := ⟨_, rfl⟩
    have hnq := hOk.nq
    rw [hN] at hnq j1
    obtain ⟨k, hk⟩ : ∃ z, x0.toNat % N = z := ⟨_, rfl⟩
    have hkN : k < N := by rw [← hk]; exact Nat.mod_lt _ (by omega)
    obtain ⟨a0', hx0⟩ : ∃ z : Nat, x0 = (z : Int) := ⟨x0.toNat, by omega⟩
    have hm0 : x0.tmod (N : Int) = (k : Int) := by rw [hx0, Int.tmod_eq_emod_of_nonneg (by omega), ← hk, hx0]; rfl
    have hw0 : IntKind.i64.wrap x0 = x0 := by rw [IntKind.wrap_i64]; omega
    have hw1 : IntKind.i64.wrap x1 = x1 := by rw [IntKind.wrap_i64]; omega
    have hwk : IntKind.i64.wrap (k : Int) = (k : Int) := by rw [IntKind.wrap_i64]; omega
    have hNz : ((N : Int) == 0) = false := by rw [beq_eq_false_iff_ne]; omega
    have hNz2 : (N : Int) ≠ 0 := by omega
    have hkz : (k : Int) < (N : Int) := by omega
    have hkz0 : (0 : Int) ≤ (k : Int) := by omega
    obtain ⟨m1, m2, m3⟩ := j2 k (by omega)
    clear g1 g2 j2
    obtain ⟨q, hq⟩ : ∃ z, B.qs[k]?.getD default = z := ⟨_, rfl⟩
    have hqq := hOk.qs q (by rw [← hq, List.getElem?_eq_getElem (by omega)]; exact List.getElem_mem _)
    have hw4 : IntKind.i64.wrap (q.wrong + x1) = q.wrong + x1 := by rw [IntKind.wrap_i64]; omega
    -- the worlds ahead
    obtain ⟨V5, hV5⟩ : ∃ y, w2.alloc (.cells #[.slice Q B.qs.length cq, .slice Wd B.wanted.length cw, .int .i64 B.lo, .int .i64 B.hi] 27) = y := ⟨_, rfl⟩
    have bV : Blk V5 w2.heap.size 27 #[.slice Q B.qs.length cq, .slice Wd B.wanted.length cw, .int .i64 B.lo, .int .i64 B.hi] := by rw [← hV5]; exact blkNew rfl
    have hb5 : Below w2.heap.size w2 V5 := by rw [← hV5]; exact (Below.refl _ _).alloc (Nat.le_refl _) _
    have hs5 : V5.heap.size = w2.heap.size + 1 := by rw [← hV5]; simp
    have hs2 := hB_2.out.size
    have hlx := bX_2.out.lt
    have hR5 := hRb.out V5 (hB_2.out.trans (hb5.mono hs2))
    obtain ⟨g, cap, w4, hrun, hrow, hb4, hg1, hg2, hcap⟩ := copyQ hR5 hOk cq hcq.out
    rw [hN] at hrun hrow hcap
    have hb4' : Below w2.heap.size w2 w4 := hb5.trans (hb4.mono (by omega))
    have bV4 := bV.below hb4 bV.lt
    obtain ⟨W7, hW7⟩ : ∃ y, w4.setCell ⟨w2.heap.size, 0, none⟩ (.slice (some ⟨g, 0, none⟩) N cap) = y := ⟨_, rfl⟩
    have st7 : Stored w2.heap.size w4 W7 := by rw [← hW7]; exact Stored.set1 _ _ _ _
    have bM7 : Blk W7 w2.heap.size 27 #[.slice (some ⟨g, 0, none⟩) N cap, .slice Wd B.wanted.length cw, .int .i64 B.lo, .int .i64 B.hi] := by rw [← hW7]; exact bV4.set_ 0 _
    have row7 : RowAt W7 (fun i => i < V5.heap.size) 61 3 (.slice (some ⟨g, 0, none⟩) N cap) (B.qs.map qCells) := by
      rw [← hW7]
      refine hrow.far ?_ _
      intro e
      have : g = w2.heap.size := by simpa [Value.ownBlock] using e
      omega
    obtain ⟨W8, hW8⟩ : ∃ y, (W7.setCell ⟨g, k * 3 + 2, none⟩ (.int .i64 (min q.asked (q.wrong + x1)))).drew = y := ⟨_, rfl⟩
    have row8 : RowAt W8 (fun i => i < V5.heap.size) 61 3 (.slice (some ⟨g, 0, none⟩) N cap) ((hardB B k x1).qs.map qCells) := by
      have h9 := RowAt.set row7 (j := k) (i := 2) (by rw [List.length_map]; omega) (by decide) (.int .i64 (min q.asked (q.wrong + x1)))
      have e1 : (B.qs.map qCells)[k]?.getD [] = qCells q := by rw [map_at _ _ _ (by omega), hq]
      rw [e1, qCells_set, ← List.map_set] at h9
      rw [show (hardB B k x1).qs = B.qs.set k (hardQ q x1) by unfold hardB; rw [hq], ← hW8]
      exact h9
    have st8 : Stored g W7 W8 := by
      have h9 := Stored.set1 W7 g (k * 3 + 2) (.int .i64 (min q.asked (q.wrong + x1)))
      rw [← hW8]
      exact ⟨h9.os, h9.tape, h9.output, h9.size, h9.block⟩
    have hb8 : Below w2.heap.size w2 W8 := (hb4'.trans (st7.below (Nat.le_refl _))).trans (st8.below (by omega))
    have bM8 := hide (bM7.stored st8 (by omega))
    have hgW7 : g < W7.heap.size := by have := st7.size; omega
    obtain ⟨g', cap', e7, -, -, -, -, hfz0, hcel, hfz, -⟩ := row7.at (by rw [List.length_map]; omega)
    obtain rfl : g = g' := by injection e7 with a; injection a with a; injection a
    have hq3 : ((B.qs.map qCells)[k]?.getD []) = qCells q := by rw [map_at _ _ _ (by omega), hq]
    have k1 : W7.cell? ⟨g, k * 3 + 1, none⟩ = some (.int .i64 q.asked) := hcel k 1 _ (by rw [hq3]; rfl)
    have k2 : W7.cell? ⟨g, k * 3 + 2, none⟩ = some (.int .i64 q.wrong) := hcel k 2 _ (by rw [hq3]; rfl)
    have kz := hfz (k * 3 + 2)
    clear hcel hfz hfz0 hq3 e7
    have hR8 : BkR W8 (some ⟨g, 0, none⟩) Wd (hardB B k x1) := by
      obtain ⟨A9, c9, e9, hrd, -⟩ := row8.row
      cases e9
      rw [List.length_map] at hrd
      refine ⟨hrd, (hRb.out w2 hB_2.out).ws.below hb8, by rw [hard_len]; exact hnm, (hRb.out w2 hB_2.out).nw⟩
    have hWt2 := hide (Weights_f (some ⟨g, 0, none⟩) Wd cap cw (hardB B k x1) W8 hR8)
    have e9 : bkV (some ⟨g, 0, none⟩) Wd cap cw (hardB B k x1) = .agg #[.slice (some ⟨g, 0, none⟩) B.qs.length cap, .slice Wd B.wanted.length cw, .int .i64 B.lo, .int .i64 B.hi] := by unfold bkV; rw [hard_len]; rfl
    rw [e9, hN, m1] at hWt2
    clear e9
    generalize wtsP (hardB B k x1) = ws2 at *
    rw [hN] at m2 m3
    have kzd : W7.drew.frozen? ⟨g, k * 3 + 2, none⟩ = false := kz
    have k2d : W7.drew.cell? ⟨g, k * 3 + 2, none⟩ = some (.int .i64 q.wrong) := k2
    -- facts for the walk
    have c5 : (V5.alloc (.cells #[] 61)).cell? ⟨w.heap.size, 0, none⟩ = some (.slice Q N cq) := by rw [← hN]; exact ((bW_2.out.below hb5 bW_2.out.lt).alloc _).cell 0
    have z4 := bV4.frozen 0
    have y4 : w4.cell? ⟨w2.heap.size, 0, none⟩ = some (.slice Q N cq) := by rw [← hN]; exact bV4.cell 0
    have y7 : W7.cell? ⟨w2.heap.size, 0, none⟩ = some (.slice (some ⟨g, 0, none⟩) N cap) := bM7.cell 0
    have hb7 : Below w2.heap.size w2 W7 := hb4'.trans (st7.below (Nat.le_refl _))
    have y8 : W7.cell? ⟨w.heap.size + 1, 1, none⟩ = some (.int .u16 x1) := (bX_2.out.below hb7 bX_2.out.lt).cell 1
    clear hb7 row7 hrow row8 hR8 st7 st8 bM7 bV4 bV hb4 hb4' hb5 hR5
    replace hb8 := hide hb8
    replace hg1 := hide hg1
    replace hg2 := hide hg2
    replace hs5 := hide hs5
    replace hOk := hide hOk
    replace hN := hide hN
    replace hrun := hide hrun
    replace hW7 := hide hW7
    replace hW8 := hide hW8
    rw [hN.out] at hV5
    replace hV5 := hide hV5
    replace hq := hide hq
    replace hk := hide hk
    replace hx0 := hide hx0
    replace m3 := hide m3
    replace hac := hide hac
    have bo := bW_2.out
    have b0 : w2.cell? ⟨w.heap.size, 0, none⟩ = some (.slice Q B.qs.length cq) := bo.cell 0
    have b1 : w2.cell? ⟨w.heap.size, 1, none⟩ = some (.slice Wd B.wanted.length cw) := bo.cell 1
    have b2 : w2.cell? ⟨w.heap.size, 2, none⟩ = some (.int .i64 B.lo) := bo.cell 2
    have b3 : w2.cell? ⟨w.heap.size, 3, none⟩ = some (.int .i64 B.hi) := bo.cell 3
    clear bo
    have bo := bX_2.out
    have u0 : w2.cell? ⟨w.heap.size + 1, 0, none⟩ = some (.int .u16 x0) := bo.cell 0
    clear bo
    rw [hN.out] at b0
    go_upto_region 6 with fail
    rw [hV5.out]
    clear b0 b1 b2 b3 u0
    go_upto_region 7 with (at_builtin; refine wpList_append_run rfl _ _ 22 rfl _ _ _ rfl rfl hrun.out ?_)
    rw [hW7.out]
    clear c5 z4 y4
    go_upto_region 8 with fail
    clear y7
    go_still_tail 16, (by kernel_rfl)
    change wpList _ _ _ _ _ W7.drew
    go_upto_region 9 with fail
    rw [hW8.out]
    clear k1 k2 kz kzd k2d y8 hw0 hw1 hw4 hm0 hwk hNz hkz hkz0
    have bo := bM8.out
    have v0 : W8.cell? ⟨w2.heap.size, 0, none⟩ = some (.slice (some ⟨g, 0, none⟩) N cap) := bo.cell 0
    have v1 : W8.cell? ⟨w2.heap.size, 1, none⟩ = some (.slice Wd B.wanted.length cw) := bo.cell 1
    have v2 : W8.cell? ⟨w2.heap.size, 2, none⟩ = some (.int .i64 B.lo) := bo.cell 2
    have v3 : W8.cell? ⟨w2.heap.size, 3, none⟩ = some (.int .i64 B.hi) := bo.cell 3
    clear bo
    go_wp2_with fail
    refine hWt2.out.mono ?_
    rintro e w9 ⟨⟨lb, rfl, hlb⟩, hb9⟩
    have hb := hb8.out.trans (hb9.mono hb8.out.size)
    clear v0 v1 v2 v3 hb9 hb8 hWt2 bM8 hW8 hW7 hrun hV5 hg1 hg2 hs5
    have hB_3 := hide (hB_2.out.trans (hb.mono hB_2.out.size))
    have bW_3 := hide (bW_2.out.below hb bW_2.out.lt)
    have bX_3 := hide (bX_2.out.below hb bX_2.out.lt)
    have hra_3 := hide (hra.out.below hb)
    clear hb
    obtain ⟨Am, cm, rfl, hrb, hmb, hbc⟩ := hlb
    have bo := bW_3.out
    have b0 : w9.cell? ⟨w.heap.size, 0, none⟩ = some (.slice Q N cq) := by rw [← hN.out]; exact bo.cell 0
    clear bo
    have hnn : ((N : Int) != (N : Int)) = false := by simp
    obtain ⟨ba, oa, rfl, hba, hca⟩ := hra_3.out.2 (by omega)
    obtain ⟨bb, ob, rfl, hbb, hcb⟩ := hrb.2 (by omega)
    replace hca := hide (fun i (h : i < N) => hca i (by omega))
    replace hcb := hide (fun i (h : i < N) => hcb i (by omega))
    replace hbb := hide hbb
    replace hba := hide hba
    clear hrb hra_3
    go_wp2
    clear b0 hNz2
    go_loopg [12] (N + 1) (fun gg s12 wr => ∃ i : Nat, i ≤ N ∧ N < gg + i ∧ s12 = .int .i64 i ∧ Hid (Below w9.heap.size w9 wr))
    case atStart => exact ⟨0, by omega, by omega, rfl, hide (Below.refl _ _)⟩
    case round =>
      obtain ⟨i, hi, hg, rfl, hbr⟩ := hrel
      have hBr := hide (hB_3.out.trans (hbr.out.mono hB_3.out.size))
      by_cases hil : i < N
      · have hilz : (i : Int) < (N : Int) := by omega
        have hi0 : (0 : Int) ≤ (i : Int) := by omega
        have hiw : IntKind.i64.wrap ((i : Int) + 1) = (i : Int) + 1 := by rw [IntKind.wrap_i64]; omega
        obtain ⟨a, b, ha, hb, e1, e2, e3, e4⟩ := m3.out i hil
        have ca : wr.cell? ⟨ba, oa + i, none⟩ = some (.int .i64 a) := by
          have h9 := (cellB hbr.out hba.out).trans (hca.out i hil)
          rwa [ha, Option.getD_some] at h9
        have cb : wr.cell? ⟨bb, ob + i, none⟩ = some (.int .i64 b) := by
          have h9 := (cellB hbr.out hbb.out).trans (hcb.out i hil)
          rwa [hb, Option.getD_some] at h9
        have d1 : decide (b < a) = false := decide_eq_false (by omega)
        have d2 : decide (a < 0) = false := decide_eq_false (by omega)
        have d3 : decide (b > 1000) = false := decide_eq_false (by omega)
        have d4 : decide (1000 < b) = false := decide_eq_false (by omega)
        have d5 : ¬ b < a := by omega
        have d6 : ¬ a < 0 := by omega
        have d7 : ¬ 1000 < b := by omega
        clear ha hb e2 e3 e4 hil
        by_cases hik : i = k
        · have d8 : ((i : Int) != (k : Int)) = false := by rw [hik]; simp
          replace hik := hide hik
          clear e1
          go_wp2
          go_quiet (fail)
          go_wp2
          go_roundg (N - i)
          case measure => omega
          case rel => exact ⟨i + 1, by omega, by omega, by go_num, hide (below_drewN hbr.out _)⟩
        · have d8 : ((i : Int) != (k : Int)) = true := by rw [bne_iff_ne]; omega
          obtain rfl := e1 hik
          have d9 : (a != a) = false := by simp
          replace hik := hide hik
          go_wp2
          go_quiet (fail)
          go_wp2
          go_roundg (N - i)
          case measure => omega
          case rel => exact ⟨i + 1, by omega, by omega, by go_num, hide (below_drewN hbr.out _)⟩
      · have hilz : ¬ (i : Int) < (N : Int) := by omega
        clear hil
        go_wp2_with fail
        refine (Awake_any _).mono ?_
        rintro e wz ⟨rfl, hbz⟩
        have hBz := hide (hBr.out.trans (hbz.mono hBr.out.size))
        clear hbz
        go_wp2
        go_ret
        exact ⟨rfl, hBz.out⟩
  · have hd1 : (er != 0) = true := by rw [bne_iff_ne]; exact he
    have he3 : decide (er = 0) = false := decide_eq_false he
    obtain rfl := g1.out he
    replace he := hide he
    go_wp2_with fail
    refine (Awake_any _).mono ?_
    rintro e wz ⟨rfl, hbz⟩
    have hBz := hide (hB_2.out.trans (hbz.mono hB_2.out.size))
    clear hbz 
    go_wp2
    go_ret
    exact ⟨rfl, hBz.out⟩
end Go.Proofs.Ytnmgnonbgihalaa
