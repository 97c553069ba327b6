/-
  The law PaperRepeated (made by gen_rep.py).
-/
import Derived.Test.YtnmgnonbgihalaaQg
import Derived.Test.YtnmgnonbgihalaaPx
import Derived.Test.YtnmgnonbgihalaaQd
import Derived.Test.YtnmgnonbgihalaaPt
import Derived.Test.YtnmgnonbgihalaaPw
namespace Go.Proofs.Ytnmgnonbgihalaa
open Go.RowKit RG

set_option maxRecDepth 100000 in
set_option maxHeartbeats 8000000 in
theorem PaperRepeated_any (v l : Value) (Q Wd : Option Addr) (cq cw : Nat) (B : Bank) (hr hs hc : Int) (A : Option Addr) (c : Nat) (ms : List Int) (x0 x1 : Int) (w : World) (hv : BankIn w v Q Wd cq cw B) (hl : ListIn w l A c ms)
    (h0 : 0 ≤ x0 ∧ x0 ≤ 65535) (h1 : 0 ≤ x1 ∧ x1 ≤ 65535) :
    Calls Try.prog 12 #[v, .agg #[.int .i64 hr, .int .i64 hs, .int .i64 hc, l], .agg #[.int .u16 x0, .int .u16 x1]] w fun e w' => e = .returned (.bool true) ∧ Below w.heap.size w w' := by
  obtain ⟨rfl, hR, -, -⟩ := hv
  obtain ⟨rfl, hM, hmx, -, hAc, -⟩ := hl
  have hVa := hide (fun W (hb : Below w.heap.size w W) => valid_any Q Wd cq cw B W (hR.below hb))
  have hCo := hide (fun W (hb : Below w.heap.size w W) => Count_any Q Wd cq cw B W (hR.below hb))
  have hDr := hide (fun W (hb : Below w.heap.size w W) => Draw_any Q Wd cq cw B hr hs hc A _ c ms W (hR.below hb) (hM.below hb) hmx)
  have hNt := hide (fun x W (hb : Below w.heap.size w W) => Nth_f Q Wd cq cw B x W (hR.below hb))
  have hNm := hide (fun A n c xs W (hb : Below w.heap.size w W) (h : RdInts W A n xs) (hn : n ≤ maxLen) => Number_f Q Wd cq cw B A n c xs W (hR.below hb) h hn)
  have hMk := hide (fun W (hb : Below w.heap.size w W) => hM.below hb)
  have g1 := hide (fun (h : drawE B hr hs hc ms ≠ 0) => draw_nil h)
  have g2 := hide (fun (h : drawE B hr hs hc ms = 0) => show (drawR B hr hs hc ms).length = ms.length ∧ 1 ≤ ms.length ∧ ms.length ≤ 30 ∧ countP B = (((papers B).length : Nat) : Int) ∧ 1 ≤ (papers B).length ∧ (papers B).length ≤ 65536 ∧ errP B = 0 ∧ (∀ m ∈ ms, 0 ≤ m ∧ m ≤ 1000000000) ∧
      ((1 ≤ hr ∧ hr ≤ 5) ∧ (1 ≤ hs ∧ hs ≤ 6)) ∧ (ms.length : Int) = hr * hs ∧
      (∀ s, s < ms.length → ∃ d, d < (papers B).length ∧ (drawR B hr hs hc ms)[s]?.getD [] = ppI B (((ms[s]?.getD 0).toNat + d) % (papers B).length) ∧ alikeP hs.toNat hc (drawR B hr hs hc ms) s ((drawR B hr hs hc ms)[s]?.getD []) = false ∧
        ∀ e, e < d → alikeP hs.toNat hc (drawR B hr hs hc ms) s (ppI B (((ms[s]?.getD 0).toNat + e) % (papers B).length)) = true) ∧
      (∀ i, i < (papers B).length → numE B (ppI B i) = 0 ∧ numV B (ppI B i) = i ∧ (ppI B i).Nodup ∧ (ppI B i).length ≤ 16 ∧ nthE B i = 0 ∧ nthP B i = ppI B i) ∧ (∀ j, ((drawR B hr hs hc ms)[j]?.getD []).length ≤ 1000) from by
    obtain ⟨q1, q5, q6, -⟩ := draw_ok h
    obtain ⟨qB, q2, q3⟩ := enter_ok q1
    have he := ok_err qB
    have := hall_n ⟨q2.1, q2.2.1⟩ q3
    have hq : ∀ s, s < ms.length → _ := fun s hs' => draw_first (B := B) (hr := hr) (hc := hc) (hs := hs.toNat) (ms := ms) (by rw [show ((hs.toNat : Nat) : Int) = hs by omega]; exact h) hs'
    rw [show ((hs.toNat : Nat) : Int) = hs by omega] at hq
    refine ⟨draw_len h, by omega, by omega, by unfold countP; rw [if_neg (by simp [he])], q6, papers_len qB, he, q5, ⟨q2.1, q2.2.1⟩, q3, hq, fun i hi => ⟨numE_ppI he hi, numV_ppI he hi, ppI_nodup he hi, ppI_len qB i, nthE_lt he hi, nthP_lt he hi⟩, fun j => ?_⟩
    by_cases hj : j < ms.length
    · obtain ⟨d, -, e1, -⟩ := hq j hj
      rw [e1]
      have := ppI_len qB (((ms[j]?.getD 0).toNat + d) % (papers B).length)
      omega
    · rw [List.getElem?_eq_none (by rw [draw_len h]; omega)]
      decide)
  obtain ⟨de, hde⟩ : ∃ z, drawE B hr hs hc ms = z := ⟨_, rfl⟩
  obtain ⟨dr, hdr⟩ : ∃ z, drawR B hr hs hc ms = z := ⟨_, rfl⟩
  obtain ⟨N, hN⟩ : ∃ z, (papers B).length = z := ⟨_, rfl⟩
  obtain ⟨n, hn⟩ : ∃ z, ms.length = z := ⟨_, rfl⟩
  rw [hde, hdr] at hDr g1
  rw [hde, hdr, hn, hN] at g2
  rw [hn] at hDr hMk hmx
  rw [hn]
  generalize countP B = cnt at *
  obtain ⟨er, her⟩ : ∃ z, errP B = z := ⟨_, rfl⟩
  rw [her] at g2 hCo hVa
  clear her hde hdr hN hAc
  replace hn := hide hn
  unfold bkV at hCo hDr hNt hNm hVa ⊢
  obtain ⟨W, hW⟩ : ∃ y, ((w.alloc (.cells #[.slice Q B.qs.length cq, .slice Wd B.wanted.length cw, .int .i64 B.lo, .int .i64 B.hi] 27)).alloc (.cells #[.int .i64 hr, .int .i64 hs, .int .i64 hc, .slice A n c] 54)).alloc (.cells #[.int .u16 x0, .int .u16 x1] 58) = y := ⟨_, rfl⟩
  have bW := hide (show Blk W w.heap.size 27 #[.slice Q B.qs.length cq, .slice Wd B.wanted.length cw, .int .i64 B.lo, .int .i64 B.hi] by rw [← hW]; exact ((blkNew rfl).alloc _).alloc _)
  have bS := hide (show Blk W (w.heap.size + 1) 54 #[.int .i64 hr, .int .i64 hs, .int .i64 hc, .slice A n c] by rw [← hW]; exact (blkNew (by simp)).alloc _)
  have bX := hide (show Blk W (w.heap.size + 1 + 1) 58 #[.int .u16 x0, .int .u16 x1] by rw [← hW]; exact blkNew (by simp))
  have hB := hide (show Below w.heap.size w W by rw [← hW]; exact (((Below.refl _ _).alloc (Nat.le_refl _) _).alloc (by simp <;> omega) _).alloc (by simp <;> omega) _)
  replace hW := hide hW
  clear hR hM
  have bo := bW.out
  have b0 : W.cell? ⟨w.heap.size, 0, none⟩ = some (.slice Q B.qs.length cq) := bo.cell 0
  have b1 : W.cell? ⟨w.heap.size, 1, none⟩ = some (.slice Wd B.wanted.length cw) := bo.cell 1
  have b2 : W.cell? ⟨w.heap.size, 2, none⟩ = some (.int .i64 B.lo) := bo.cell 2
  have b3 : W.cell? ⟨w.heap.size, 3, none⟩ = some (.int .i64 B.hi) := bo.cell 3
  clear bo
  have bo := bS.out
  have d0 : W.cell? ⟨w.heap.size + 1, 0, none⟩ = some (.int .i64 hr) := bo.cell 0
  have d1 : W.cell? ⟨w.heap.size + 1, 1, none⟩ = some (.int .i64 hs) := bo.cell 1
  have d2 : W.cell? ⟨w.heap.size + 1, 2, none⟩ = some (.int .i64 hc) := bo.cell 2
  have d3 : W.cell? ⟨w.heap.size + 1, 3, none⟩ = some (.slice A n c) := bo.cell 3
  clear bo
  go_enter Try.func12, Try.ntmps12
  go_upto_region 1 with fail
  rw [hW.out]
  go_wp2_with fail
  refine (hDr.out W hB.out).mono ?_
  rintro e w1 ⟨⟨ld, rfl, hld⟩, hb⟩
  replace hld := hide hld
  clear b0 b1 b2 b3
  clear hDr hW d0 d1 d2 d3
  have hB_1 := hide (hB.out.trans (hb.mono hB.out.size))
  have bW_1 := hide (bW.out.below hb bW.out.lt)
  have bS_1 := hide (bS.out.below hb bS.out.lt)
  have bX_1 := hide (bX.out.below hb bX.out.lt)
  clear hb
  by_cases he : de ≠ 0
  · have hd1 : (de != 0) = true := by rw [bne_iff_ne]; exact he
    obtain rfl := g1.out he
    obtain ⟨Ad, cd, rfl, -, -, -⟩ := hld.out.paps
    clear hld g2
    replace he := hide he
    go_wp2_with fail
    refine (Awake_any _).mono ?_
    rintro e wz ⟨rfl, hbz⟩
    have hBz := hide (hB_1.out.trans (hbz.mono hB_1.out.size))
    clear hbz 
    go_wp2
    go_ret
    exact ⟨rfl, hBz.out⟩
  · obtain rfl : de = 0 := Classical.byContradiction he
    obtain ⟨j1, j2, j3, rfl, j4, j5, rfl, j7, jh, jn, jf, jp, jl⟩ := g2.out rfl
    clear g1 g2
    obtain ⟨Ad, cd, rfl, hps, hdc, -⟩ := hld.out.paps
    rw [j1] at hps hdc ⊢
    clear hld
    obtain ⟨bd, od, rfl, hbd, hcd⟩ := hps.2 (by omega)
    replace hps := hide hps
    replace hcd := hide hcd
    replace jf := hide jf
    replace jp := hide jp
    replace jl := hide jl
    replace j7 := hide j7
    have bo := bW_1.out
    have b0 : w1.cell? ⟨w.heap.size, 0, none⟩ = some (.slice Q B.qs.length cq) := bo.cell 0
    have b1 : w1.cell? ⟨w.heap.size, 1, none⟩ = some (.slice Wd B.wanted.length cw) := bo.cell 1
    have b2 : w1.cell? ⟨w.heap.size, 2, none⟩ = some (.int .i64 B.lo) := bo.cell 2
    have b3 : w1.cell? ⟨w.heap.size, 3, none⟩ = some (.int .i64 B.hi) := bo.cell 3
    clear bo
    go_wp2_with fail
    refine (hVa.out w1 hB_1.out).mono ?_
    rintro e w2 ⟨rfl, hb⟩
    clear hVa
    clear b0 b1 b2 b3
    have hb12 := hide hb
    have hB_2 := hide (hB_1.out.trans (hb.mono hB_1.out.size))
    have bW_2 := hide (bW_1.out.below hb bW_1.out.lt)
    have bS_2 := hide (bS_1.out.below hb bS_1.out.lt)
    have bX_2 := hide (bX_1.out.below hb bX_1.out.lt)
    have hps_2 := hide (hps.out.below hb)
    clear hb
    have bo := bW_2.out
    have b0 : w2.cell? ⟨w.heap.size, 0, none⟩ = some (.slice Q B.qs.length cq) := bo.cell 0
    have b1 : w2.cell? ⟨w.heap.size, 1, none⟩ = some (.slice Wd B.wanted.length cw) := bo.cell 1
    have b2 : w2.cell? ⟨w.heap.size, 2, none⟩ = some (.int .i64 B.lo) := bo.cell 2
    have b3 : w2.cell? ⟨w.heap.size, 3, none⟩ = some (.int .i64 B.hi) := bo.cell 3
    clear bo
    have bo := bS_2.out
    have d3 : w2.cell? ⟨w.heap.size + 1, 3, none⟩ = some (.slice A n c) := bo.cell 3
    clear bo
    have hnz : ((n : Int) == 0) = false := by rw [beq_eq_false_iff_ne]; omega
    have hnz2 : (n : Int) ≠ 0 := by omega
    have hnz3 : n ≠ 0 := by omega
    go_wp2_with fail
    refine (hCo.out w2 hB_2.out).mono ?_
    rintro e w3 ⟨rfl, hb⟩
    clear hCo d3
    clear b0 b1 b2 b3
    have hb13 := hide (hb12.out.trans (hb.mono hb12.out.size))
    have hB_3 := hide (hB_2.out.trans (hb.mono hB_2.out.size))
    have bW_3 := hide (bW_2.out.below hb bW_2.out.lt)
    have bS_3 := hide (bS_2.out.below hb bS_2.out.lt)
    have bX_3 := hide (bX_2.out.below hb bX_2.out.lt)
    have hps_3 := hide (hps_2.out.below hb)
    clear hb hb12
    have hnn : ((n : Int) != (n : Int)) = false := by simp
    have hN1 : decide ((N : Int) < 1) = false := decide_eq_false (by omega)
    have hN2 : ¬ (N : Int) < 1 := by omega
    have hs1 : decide (hs < 1) = false := decide_eq_false (by omega)
    have hs2 : ¬ hs < 1 := by omega
    have hmul : IntKind.i64.wrap (hr * hs) = (n : Int) := by rw [← jn, IntKind.wrap_i64]; omega
    obtain ⟨s, hk⟩ : ∃ z, x0.toNat % n = z := ⟨_, rfl⟩
    have hsn : s < n := by rw [← hk]; exact Nat.mod_lt _ (by omega)
    obtain ⟨a0', hx0⟩ : ∃ z : Nat, x0 = (z : Int) := ⟨x0.toNat, by omega⟩
    have hm0 : x0.tmod (n : Int) = (s : Int) := by rw [hx0, Int.tmod_eq_emod_of_nonneg (by omega), ← hk, hx0]; rfl
    have hw0 : IntKind.i64.wrap x0 = x0 := by rw [IntKind.wrap_i64]; omega
    have hws : IntKind.i64.wrap (s : Int) = (s : Int) := by rw [IntKind.wrap_i64]; omega
    have hsz : (s : Int) < (n : Int) := by omega
    have hsz0 : (0 : Int) ≤ (s : Int) := by omega
    have hms : s < ms.length := by rw [hn.out]; exact hsn
    have hy7 := j7.out (ms[s]?.getD 0) (by rw [List.getElem?_eq_getElem hms]; exact List.getElem_mem _)
    obtain ⟨yv, hy⟩ : ∃ z : Nat, ms[s]?.getD 0 = (z : Int) := ⟨(ms[s]?.getD 0).toNat, by omega⟩
    obtain ⟨d, e0, e1, e2, e3⟩ := jf.out s hsn
    rw [hy, Int.toNat_natCast] at e1 e3
    rw [hy] at hy7
    obtain ⟨kk, hkk⟩ : ∃ z, (yv + d) % N = z := ⟨_, rfl⟩
    have hkN : kk < N := by rw [← hkk]; exact Nat.mod_lt _ (by omega)
    obtain ⟨b, hbb⟩ : ∃ z, yv % N = z := ⟨_, rfl⟩
    have hbN : b < N := by rw [← hbb]; exact Nat.mod_lt _ (by omega)
    rw [hkk] at e1
    have hbk : (b + d) % N = kk := by rw [← hkk, ← hbb, Nat.mod_add_mod]
    have hpas : ((kk : Int) - (b : Int) + (N : Int)).tmod (N : Int) = (d : Int) := by
      rw [Int.tmod_eq_emod_of_nonneg (by omega)]
      by_cases hlt : b + d < N
      · rw [Nat.mod_eq_of_lt hlt] at hbk
        rw [show (kk : Int) - (b : Int) + (N : Int) = (d : Int) + N by omega, Int.add_emod_right]
        exact Int.emod_eq_of_lt (by omega) (by omega)
      · rw [Nat.mod_eq_sub_mod (by omega), Nat.mod_eq_of_lt (by omega)] at hbk
        rw [show (kk : Int) - (b : Int) + (N : Int) = (d : Int) by omega]
        exact Int.emod_eq_of_lt (by omega) (by omega)
    have hbeg : (yv : Int).tmod (N : Int) = (b : Int) := by rw [Int.tmod_eq_emod_of_nonneg (by omega), ← hbb]; rfl
    have hNz : ((N : Int) == 0) = false := by rw [beq_eq_false_iff_ne]; omega
    have hNz2 : (N : Int) ≠ 0 := by omega
    have hNz3 : N ≠ 0 := by omega
    have hwb : IntKind.i64.wrap (b : Int) = (b : Int) := by rw [IntKind.wrap_i64]; omega
    have hwd : IntKind.i64.wrap (d : Int) = (d : Int) := by rw [IntKind.wrap_i64]; omega
    have hw1 : IntKind.i64.wrap ((kk : Int) - (b : Int)) = (kk : Int) - (b : Int) := by rw [IntKind.wrap_i64]; omega
    have hw2 : IntKind.i64.wrap ((kk : Int) - (b : Int) + (N : Int)) = (kk : Int) - (b : Int) + (N : Int) := by rw [IntKind.wrap_i64]; omega
    have hyn : decide ((yv : Int) < 0) = false := decide_eq_false (by omega)
    have hyn2 : ¬ (yv : Int) < 0 := by omega
    obtain ⟨p1, p2, p3, p4, -, -⟩ := jp.out kk hkN
    obtain ⟨As, cs, cds, hrs, hmxs⟩ := hcd.out s hsn
    rw [e1] at cds hrs hmxs e2
    obtain ⟨ps, hps'⟩ : ∃ z, ppI B kk = z := ⟨_, rfl⟩
    rw [hps'] at cds hrs hmxs e2 p1 p2 p3 p4
    have cds3 := hide ((cellB hb13.out hbd).trans cds)
    have hbd3 := hide (Nat.lt_of_lt_of_le hbd hb13.out.size)
    have hrs3 := hide (hrs.below hb13.out)
    have hbm3 := (hMk.out w3 hB_3.out).2 (by omega)
    obtain ⟨bm, om, rfl, hbm, hcm⟩ := hbm3
    have cym : w3.cell? ⟨bm, om + s, none⟩ = some (.int .i64 (yv : Int)) := by rw [← hy]; exact hcm s hsn
    have hNm2 := hide (fun W4 (hC4 : Below w3.heap.size w3 W4) => hNm.out As ps.length cs ps W4 (hB_3.out.trans (hC4.mono hB_3.out.size)) (hrs3.out.below hC4) hmxs)
    rw [p1, p2] at hNm2
    have hAq := hide (fun W4 (hC4 : Below w3.heap.size w3 W4) => Apart_any hr hc hs.toNat s (some ⟨bd, od, none⟩) As n cd ps.length cs dr ps W4 (by omega) (by omega) (by omega) (by omega) (hps_3.out.below hC4) (hrs3.out.below hC4) (by omega) p3 (fun j _ => jl.out j))
    rw [e2, show ((hs.toNat : Nat) : Int) = hs by omega] at hAq
    have hAg := hide (fun Ap cp xs W4 (hC4 : Below w3.heap.size w3 W4) (hX : RdInts W4 Ap xs.length xs) (hl : xs.length ≤ 16) (hnd : xs.Nodup) => Apart_any hr hc hs.toNat s (some ⟨bd, od, none⟩) Ap n cd xs.length cp dr xs W4 (by omega) (by omega) (by omega) (by omega) (hps_3.out.below hC4) hX (by omega) hnd (fun j _ => jl.out j))
    rw [show ((hs.toNat : Nat) : Int) = hs by omega] at hAg
    generalize hlp : ps.length = lp at *
    clear hcm hbd hbb hbk hcd hNm hmxs hrs cds p1 p2 p3 p4 e1 hb13 jn hps' jf hrs3 jl
    replace hlp := hide hlp
    replace e2 := hide e2
    replace e3 := hide e3
    replace hy := hide hy
    replace hkk := hide hkk
    replace hk := hide hk
    replace hx0 := hide hx0
    replace hms := hide hms
    have bo := bS_3.out
    have d0 : w3.cell? ⟨w.heap.size + 1, 0, none⟩ = some (.int .i64 hr) := bo.cell 0
    have d1 : w3.cell? ⟨w.heap.size + 1, 1, none⟩ = some (.int .i64 hs) := bo.cell 1
    have d2 : w3.cell? ⟨w.heap.size + 1, 2, none⟩ = some (.int .i64 hc) := bo.cell 2
    have d3 : w3.cell? ⟨w.heap.size + 1, 3, none⟩ = some (.slice (some ⟨bm, om, none⟩) n c) := bo.cell 3
    clear bo
    have bo := bX_3.out
    have u0 : w3.cell? ⟨w.heap.size + 1 + 1, 0, none⟩ = some (.int .u16 x0) := bo.cell 0
    clear bo
    go_upto_region 8 with fail
    clear d0 d1 d2 u0 hmul hnn
    refine region_grow [IsV (.agg #[.slice Q B.qs.length cq, .slice Wd B.wanted.length cw, .int .i64 B.lo, .int .i64 B.hi]), IsV (.slice (some ⟨bd, od, none⟩) n cd), IsV (.int .i64 (s : Int)), IsV (.pointer (some ⟨bd, od + s, none⟩)), IsV (.slice As lp cs), IsV (.tuple #[.int .i64 (kk : Int), .int .i64 0]), IsV (.tuple #[.int .i64 (kk : Int), .int .i64 0]), IsV (.int .i64 (kk : Int)), IsV (.int .i64 0), IsV (.int .i64 (kk : Int)), IsV (.int .i64 0)] (by kernel_rfl) (by kernel_rfl) rfl ?_ ?_ ?_
    · simp [AllStb, IsV.stb]
    · refine ⟨?_, ?_, ?_, ?_, ?_, ?_, ?_, ?_, ?_, ?_, ?_, trivial⟩
      · refine one_fr ?_ ?_ ?_
        · kernel_rfl
        · left; kernel_rfl
        intro T y W4 K Qk Cv hF hC4 hd hV hK
        clear hd
        have t3 := hF.old 3 (.pointer (some ⟨w.heap.size, 0, none⟩)) (by kernel_rfl) (by kernel_rfl)
        clear hF
        have bx4 := bW_3.out.below hC4 bW_3.out.lt
        have c0 : W4.cell? ⟨w.heap.size, 0, none⟩ = some (.slice Q B.qs.length cq) := bx4.cell 0
        have c1 : W4.cell? ⟨w.heap.size, 1, none⟩ = some (.slice Wd B.wanted.length cw) := bx4.cell 1
        have c2 : W4.cell? ⟨w.heap.size, 2, none⟩ = some (.int .i64 B.lo) := bx4.cell 2
        have c3 : W4.cell? ⟨w.heap.size, 3, none⟩ = some (.int .i64 B.hi) := bx4.cell 3
        clear bx4
        go_simp
        exact hK _ _ (hV _ _ hC4 (Below.refl _ _) rfl)
      · refine one_fr ?_ ?_ ?_
        · kernel_rfl
        · left; kernel_rfl
        intro T y W4 K Qk Cv hF hC4 hd hV hK
        clear hd
        have t7 := hF.old 7 (.slice (some ⟨bd, od, none⟩) n cd) (by kernel_rfl) (by kernel_rfl)
        clear hF
        go_simp
        exact hK _ _ (hV _ _ hC4 (Below.refl _ _) rfl)
      · refine one_fr ?_ ?_ ?_
        · kernel_rfl
        · left; kernel_rfl
        intro T y W4 K Qk Cv hF hC4 hd hV hK
        clear hd
        have t10 := hF.old 10 (.int .i64 (s : Int)) (by kernel_rfl) (by kernel_rfl)
        clear hF
        go_simp
        exact hK _ _ (hV _ _ hC4 (Below.refl _ _) rfl)
      · refine one_fr ?_ ?_ ?_
        · kernel_rfl
        · left; kernel_rfl
        intro T y W4 K Qk Cv hF hC4 hd hV hK
        simp [deps, VL, IsV, Region.binds] at hd
        have t92 := hF.get 1 92 (by kernel_rfl)
        simp only [hd] at t92
        have t93 := hF.get 2 93 (by kernel_rfl)
        simp only [hd] at t93
        clear hF
        go_simp
        exact hK _ _ (hV _ _ hC4 (Below.refl _ _) rfl)
      · refine one_fr ?_ ?_ ?_
        · kernel_rfl
        · left; kernel_rfl
        intro T y W4 K Qk Cv hF hC4 hd hV hK
        simp [deps, VL, IsV, Region.binds] at hd
        have t94 := hF.get 3 94 (by kernel_rfl)
        simp only [hd] at t94
        clear hF
        have cx : W4.cell? ⟨bd, od + s, none⟩ = some (.slice As lp cs) := (cellB hC4 hbd3.out).trans cds3.out
        go_simp
        exact hK _ _ (hV _ _ hC4 (Below.refl _ _) rfl)
      · refine one_fr ?_ ?_ ?_
        · kernel_rfl
        · left; kernel_rfl
        intro T y W4 K Qk Cv hF hC4 hd hV hK
        simp [deps, VL, IsV, Region.binds] at hd
        have t91 := hF.get 0 91 (by kernel_rfl)
        simp only [hd] at t91
        have t95 := hF.get 4 95 (by kernel_rfl)
        simp only [hd] at t95
        clear hF
        have hs := hNm2.out W4 hC4
        go_simp
        refine hs.mono ?_
        rintro e w7 ⟨rfl, hb7⟩
        exact hK _ _ (hV _ _ (hC4.trans (hb7.mono hC4.size)) hb7 rfl)
      · refine one_fr ?_ ?_ ?_
        · kernel_rfl
        · left; kernel_rfl
        intro T y W4 K Qk Cv hF hC4 hd hV hK
        simp [deps, VL, IsV, Region.binds] at hd
        have t96 := hF.get 5 96 (by kernel_rfl)
        simp only [hd] at t96
        clear hF
        go_simp
        exact hK _ _ (hV _ _ hC4 (Below.refl _ _) rfl)
      · refine one_fr ?_ ?_ ?_
        · kernel_rfl
        · left; kernel_rfl
        intro T y W4 K Qk Cv hF hC4 hd hV hK
        simp [deps, VL, IsV, Region.binds] at hd
        have t90 := hF.get 6 90 (by kernel_rfl)
        simp only [hd] at t90
        clear hF
        go_simp
        exact hK _ _ (hV _ _ hC4 (Below.refl _ _) rfl)
      · refine one_fr ?_ ?_ ?_
        · kernel_rfl
        · left; kernel_rfl
        intro T y W4 K Qk Cv hF hC4 hd hV hK
        simp [deps, VL, IsV, Region.binds] at hd
        have t90 := hF.get 6 90 (by kernel_rfl)
        simp only [hd] at t90
        clear hF
        go_simp
        exact hK _ _ (hV _ _ hC4 (Below.refl _ _) rfl)
      · refine one_fr ?_ ?_ ?_
        · kernel_rfl
        · left; kernel_rfl
        intro T y W4 K Qk Cv hF hC4 hd hV hK
        simp [deps, VL, IsV, Region.binds] at hd
        have t97 := hF.get 7 97 (by kernel_rfl)
        simp only [hd] at t97
        clear hF
        go_simp
        exact hK _ _ (hV _ _ hC4 (Below.refl _ _) rfl)
      · refine one_fr ?_ ?_ ?_
        · kernel_rfl
        · left; kernel_rfl
        intro T y W4 K Qk Cv hF hC4 hd hV hK
        simp [deps, VL, IsV, Region.binds] at hd
        have t98 := hF.get 8 98 (by kernel_rfl)
        simp only [hd] at t98
        clear hF
        go_simp
        exact hK _ _ (hV _ _ hC4 (Below.refl _ _) rfl)
    intro y w4 hC hd4
    simp [EndsL, IsV] at hd4
    obtain ⟨m0, m1, m2, m3, m4, m5, m6, m7, m8, m9, m10⟩ := hd4
    simp only [putAll, Act.put]
    rw [m0, m1, m2, m3, m4, m5, m6, m7, m8, m9, m10]
    clear m0 m1 m2 m3 m4 m5 m6 m7 m8 m9 m10
    simp only [List.setIfInBounds_toArray, List.set_cons_succ, List.set_cons_zero]
    have hb : Below w3.heap.size w3 w4 := hC
    have hb34 := hide hb
    have hB_4 := hide (hB_3.out.trans (hb.mono hB_3.out.size))
    have bW_4 := hide (bW_3.out.below hb bW_3.out.lt)
    have bS_4 := hide (bS_3.out.below hb bS_3.out.lt)
    have bX_4 := hide (bX_3.out.below hb bX_3.out.lt)
    have hps_4 := hide (hps_3.out.below hb)
    have cym4 : w4.cell? ⟨bm, om + s, none⟩ = some (.int .i64 (yv : Int)) := (cellB hb hbm).trans cym
    clear hb hC cym hNm2 d3
    have bo := bS_4.out
    have d3 : w4.cell? ⟨w.heap.size + 1, 3, none⟩ = some (.slice (some ⟨bm, om, none⟩) n c) := bo.cell 3
    clear bo
    by_cases hd0 : d = 0
    · subst hd0
      have hd9 : (((0 : Nat) : Int) == 0) = true := by decide
      go_upto_region 14 with fail
      clear d3
      refine region_grow [IsV (.pointer (some ⟨w.heap.size + 1, 0, none⟩)), IsV (.agg #[.int .i64 hr, .int .i64 hs, .int .i64 hc]), IsV (.slice (some ⟨bd, od, none⟩) n cd), IsV (.int .i64 (s : Int)), IsV (.slice (some ⟨bd, od, none⟩) n cd), IsV (.int .i64 (s : Int)), IsV (.pointer (some ⟨bd, od + s, none⟩)), IsV (.slice As lp cs), IsV (.bool true), IsV (.bool true), IsV (.bool true), IsV (.bool true), IsV (.bool true)] (by kernel_rfl) (by kernel_rfl) rfl ?_ ?_ ?_
      · simp [AllStb, IsV.stb]
      · refine ⟨?_, ?_, ?_, ?_, ?_, ?_, ?_, ?_, ?_, ?_, ?_, ?_, ?_, trivial⟩
        · refine one_fr ?_ ?_ ?_
          · kernel_rfl
          · left; kernel_rfl
          intro T y W4 K Qk Cv hF hC4 hd hV hK
          clear hd
          have t4 := hF.old 4 (.pointer (some ⟨w.heap.size + 1, 0, none⟩)) (by kernel_rfl) (by kernel_rfl)
          clear hF
          go_simp
          exact hK _ _ (hV _ _ hC4 (Below.refl _ _) rfl)
        · refine one_fr ?_ ?_ ?_
          · kernel_rfl
          · left; kernel_rfl
          intro T y W4 K Qk Cv hF hC4 hd hV hK
          simp [deps, VL, IsV, Region.binds] at hd
          have t125 := hF.get 0 125 (by kernel_rfl)
          simp only [hd] at t125
          clear hF
          have bx4 := bS_4.out.below hC4 bS_4.out.lt
          have c0 : W4.cell? ⟨w.heap.size + 1, 0, none⟩ = some (.int .i64 hr) := bx4.cell 0
          have c1 : W4.cell? ⟨w.heap.size + 1, 1, none⟩ = some (.int .i64 hs) := bx4.cell 1
          have c2 : W4.cell? ⟨w.heap.size + 1, 2, none⟩ = some (.int .i64 hc) := bx4.cell 2
          clear bx4
          go_simp
          exact hK _ _ (hV _ _ hC4 (Below.refl _ _) rfl)
        · refine one_fr ?_ ?_ ?_
          · kernel_rfl
          · left; kernel_rfl
          intro T y W4 K Qk Cv hF hC4 hd hV hK
          clear hd
          have t7 := hF.old 7 (.slice (some ⟨bd, od, none⟩) n cd) (by kernel_rfl) (by kernel_rfl)
          clear hF
          go_simp
          exact hK _ _ (hV _ _ hC4 (Below.refl _ _) rfl)
        · refine one_fr ?_ ?_ ?_
          · kernel_rfl
          · left; kernel_rfl
          intro T y W4 K Qk Cv hF hC4 hd hV hK
          clear hd
          have t10 := hF.old 10 (.int .i64 (s : Int)) (by kernel_rfl) (by kernel_rfl)
          clear hF
          go_simp
          exact hK _ _ (hV _ _ hC4 (Below.refl _ _) rfl)
        · refine one_fr ?_ ?_ ?_
          · kernel_rfl
          · left; kernel_rfl
          intro T y W4 K Qk Cv hF hC4 hd hV hK
          clear hd
          have t7 := hF.old 7 (.slice (some ⟨bd, od, none⟩) n cd) (by kernel_rfl) (by kernel_rfl)
          clear hF
          go_simp
          exact hK _ _ (hV _ _ hC4 (Below.refl _ _) rfl)
        · refine one_fr ?_ ?_ ?_
          · kernel_rfl
          · left; kernel_rfl
          intro T y W4 K Qk Cv hF hC4 hd hV hK
          clear hd
          have t10 := hF.old 10 (.int .i64 (s : Int)) (by kernel_rfl) (by kernel_rfl)
          clear hF
          go_simp
          exact hK _ _ (hV _ _ hC4 (Below.refl _ _) rfl)
        · refine one_fr ?_ ?_ ?_
          · kernel_rfl
          · left; kernel_rfl
          intro T y W4 K Qk Cv hF hC4 hd hV hK
          simp [deps, VL, IsV, Region.binds] at hd
          have t129 := hF.get 4 129 (by kernel_rfl)
          simp only [hd] at t129
          have t130 := hF.get 5 130 (by kernel_rfl)
          simp only [hd] at t130
          clear hF
          go_simp
          exact hK _ _ (hV _ _ hC4 (Below.refl _ _) rfl)
        · refine one_fr ?_ ?_ ?_
          · kernel_rfl
          · left; kernel_rfl
          intro T y W4 K Qk Cv hF hC4 hd hV hK
          simp [deps, VL, IsV, Region.binds] at hd
          have t131 := hF.get 6 131 (by kernel_rfl)
          simp only [hd] at t131
          clear hF
          have cx : W4.cell? ⟨bd, od + s, none⟩ = some (.slice As lp cs) := (cellB (hb34.out.trans (hC4.mono hb34.out.size)) hbd3.out).trans cds3.out
          go_simp
          exact hK _ _ (hV _ _ hC4 (Below.refl _ _) rfl)
        · refine one_fr ?_ ?_ ?_
          · kernel_rfl
          · left; kernel_rfl
          intro T y W4 K Qk Cv hF hC4 hd hV hK
          simp [deps, VL, IsV, Region.binds] at hd
          have t126 := hF.get 1 126 (by kernel_rfl)
          simp only [hd] at t126
          have t127 := hF.get 2 127 (by kernel_rfl)
          simp only [hd] at t127
          have t128 := hF.get 3 128 (by kernel_rfl)
          simp only [hd] at t128
          have t132 := hF.get 7 132 (by kernel_rfl)
          simp only [hd] at t132
          clear hF
          have hs := hAq.out W4 (hb34.out.trans (hC4.mono hb34.out.size))
          go_simp
          refine hs.mono ?_
          rintro e w7 ⟨rfl, hb7⟩
          exact hK _ _ (hV _ _ (hC4.trans (hb7.mono hC4.size)) hb7 rfl)
        · refine one_fr ?_ ?_ ?_
          · kernel_rfl
          · left; kernel_rfl
          intro T y W4 K Qk Cv hF hC4 hd hV hK
          simp [deps, VL, IsV, Region.binds] at hd
          have t133 := hF.get 8 133 (by kernel_rfl)
          simp only [hd] at t133
          clear hF
          go_simp
          exact hK _ _ (hV _ _ hC4 (Below.refl _ _) rfl)
        · refine one_fr ?_ ?_ ?_
          · kernel_rfl
          · right; exact ⟨9, 134, by kernel_rfl, fun _ _ h => h⟩
          intro T y W4 K Qk Cv hF hC4 hd hV hK
          clear hd
          clear hF
          have hs := Awake_any W4
          go_simp
          refine hs.mono ?_
          rintro e w7 ⟨rfl, hb7⟩
          exact hK _ _ (hV _ _ (hC4.trans (hb7.mono hC4.size)) hb7 rfl)
        · refine one_fr ?_ ?_ ?_
          · kernel_rfl
          · left; kernel_rfl
          intro T y W4 K Qk Cv hF hC4 hd hV hK
          simp [deps, VL, IsV, Region.binds] at hd
          have t134 := hF.get 9 134 (by kernel_rfl)
          simp only [hd] at t134
          have t135 := hF.get 10 135 (by kernel_rfl)
          simp only [hd] at t135
          clear hF
          go_simp
          exact hK _ _ (hV _ _ hC4 (Below.refl _ _) rfl)
        · refine one_fr ?_ ?_ ?_
          · kernel_rfl
          · left; kernel_rfl
          intro T y W4 K Qk Cv hF hC4 hd hV hK
          simp [deps, VL, IsV, Region.binds] at hd
          have t136 := hF.get 11 136 (by kernel_rfl)
          simp only [hd] at t136
          clear hF
          go_simp
          exact hK _ _ (hV _ _ hC4 (Below.refl _ _) rfl)
      intro y w5 hC hd4
      simp [EndsL, IsV] at hd4
      obtain ⟨m0, m1, m2, m3, m4, m5, m6, m7, m8, m9, m10, m11, m12⟩ := hd4
      simp only [putAll, Act.put]
      rw [m0, m1, m2, m3, m4, m5, m6, m7, m8, m9, m10, m11, m12]
      clear m0 m1 m2 m3 m4 m5 m6 m7 m8 m9 m10 m11 m12
      simp only [List.setIfInBounds_toArray, List.set_cons_succ, List.set_cons_zero]
      have hb : Below w4.heap.size w4 w5 := hC
      clear hC
      have hB_5 := hide (hB_4.out.trans (hb.mono hB_4.out.size))
      have bW_5 := hide (bW_4.out.below hb bW_4.out.lt)
      have bS_5 := hide (bS_4.out.below hb bS_4.out.lt)
      have bX_5 := hide (bX_4.out.below hb bX_4.out.lt)
      have hps_5 := hide (hps_4.out.below hb)
      clear hb
      go_wp2
      go_ret
      exact ⟨rfl, hB_5.out⟩
    · have hdz : ((d : Int) == 0) = false := by rw [beq_eq_false_iff_ne]; omega
      have hdz2 : (d : Int) ≠ 0 := by omega
      obtain ⟨e, he⟩ : ∃ z, x1.toNat % d = z := ⟨_, rfl⟩
      have hed : e < d := by rw [← he]; exact Nat.mod_lt _ (by omega)
      obtain ⟨a1', hx1⟩ : ∃ z : Nat, x1 = (z : Int) := ⟨x1.toNat, by omega⟩
      have hm1 : x1.tmod (d : Int) = (e : Int) := by rw [hx1, Int.tmod_eq_emod_of_nonneg (by omega), ← he, hx1]; rfl
      have hw3 : IntKind.i64.wrap x1 = x1 := by rw [IntKind.wrap_i64]; omega
      have hwe : IntKind.i64.wrap (e : Int) = (e : Int) := by rw [IntKind.wrap_i64]; omega
      have hwbe : IntKind.i64.wrap ((b : Int) + (e : Int)) = (b : Int) + (e : Int) := by rw [IntKind.wrap_i64]; omega
      obtain ⟨q, hq⟩ : ∃ z, (yv + e) % N = z := ⟨_, rfl⟩
      have hqN : q < N := by rw [← hq]; exact Nat.mod_lt _ (by omega)
      have hbe : ((b : Int) + (e : Int)).tmod (N : Int) = (q : Int) := by
        rw [Int.tmod_eq_emod_of_nonneg (by omega), ← hq, ← hbeg, Int.tmod_eq_emod_of_nonneg (by omega), Int.emod_add_emod]
        rfl
      have hwq : IntKind.i64.wrap (q : Int) = (q : Int) := by rw [IntKind.wrap_i64]; omega
      have hal := e3.out e hed
      rw [hq] at hal
      obtain ⟨-, -, r3, r4, r5, r6⟩ := jp.out q hqN
      replace he := hide he
      replace hx1 := hide hx1
      replace hq := hide hq
      go_upto_region 15 with fail
      clear d3
      refine region_grow [IsV (.agg #[.slice Q B.qs.length cq, .slice Wd B.wanted.length cw, .int .i64 B.lo, .int .i64 B.hi]), IsV (.int .i64 (b : Int)), IsV (.pointer (some ⟨w.heap.size + 1 + 1, 1, none⟩)), IsV (.int .u16 x1), IsV (.int .i64 x1), IsV (.int .i64 (d : Int)), IsV (.int .i64 (e : Int)), IsV (.int .i64 ((b : Int) + (e : Int))), IsV (.int .i64 (N : Int)), IsV (.int .i64 (q : Int)), TupL (ppI B q) 0, TupL (ppI B q) 0, LstV (ppI B q), IsV (.int .i64 0), LstV (ppI B q), IsV (.int .i64 0)] (by kernel_rfl) (by kernel_rfl) rfl ?_ ?_ ?_
      · simp [AllStb, IsV.stb, TupL.stb, LstV.stb]
      · refine ⟨?_, ?_, ?_, ?_, ?_, ?_, ?_, ?_, ?_, ?_, ?_, ?_, ?_, ?_, ?_, ?_, trivial⟩
        · refine one_fr ?_ ?_ ?_
          · kernel_rfl
          · left; kernel_rfl
          intro T y W4 K Qk Cv hF hC4 hd hV hK
          clear hd
          have t3 := hF.old 3 (.pointer (some ⟨w.heap.size, 0, none⟩)) (by kernel_rfl) (by kernel_rfl)
          clear hF
          have bx4 := bW_4.out.below hC4 bW_4.out.lt
          have c0 : W4.cell? ⟨w.heap.size, 0, none⟩ = some (.slice Q B.qs.length cq) := bx4.cell 0
          have c1 : W4.cell? ⟨w.heap.size, 1, none⟩ = some (.slice Wd B.wanted.length cw) := bx4.cell 1
          have c2 : W4.cell? ⟨w.heap.size, 2, none⟩ = some (.int .i64 B.lo) := bx4.cell 2
          have c3 : W4.cell? ⟨w.heap.size, 3, none⟩ = some (.int .i64 B.hi) := bx4.cell 3
          clear bx4
          go_simp
          exact hK _ _ (hV _ _ hC4 (Below.refl _ _) rfl)
        · refine one_fr ?_ ?_ ?_
          · kernel_rfl
          · left; kernel_rfl
          intro T y W4 K Qk Cv hF hC4 hd hV hK
          clear hd
          have t12 := hF.old 12 (.int .i64 (b : Int)) (by kernel_rfl) (by kernel_rfl)
          clear hF
          go_simp
          exact hK _ _ (hV _ _ hC4 (Below.refl _ _) rfl)
        · refine one_fr ?_ ?_ ?_
          · kernel_rfl
          · left; kernel_rfl
          intro T y W4 K Qk Cv hF hC4 hd hV hK
          clear hd
          have t5 := hF.old 5 (.pointer (some ⟨w.heap.size + 1 + 1, 0, none⟩)) (by kernel_rfl) (by kernel_rfl)
          clear hF
          go_simp
          exact hK _ _ (hV _ _ hC4 (Below.refl _ _) rfl)
        · refine one_fr ?_ ?_ ?_
          · kernel_rfl
          · left; kernel_rfl
          intro T y W4 K Qk Cv hF hC4 hd hV hK
          simp [deps, VL, IsV, Region.binds] at hd
          have t140 := hF.get 2 140 (by kernel_rfl)
          simp only [hd] at t140
          clear hF
          have bx4 := bX_4.out.below hC4 bX_4.out.lt
          have c2 : W4.cell? ⟨w.heap.size + 1 + 1, 1, none⟩ = some (.int .u16 x1) := bx4.cell 1
          clear bx4
          go_simp
          exact hK _ _ (hV _ _ hC4 (Below.refl _ _) rfl)
        · refine one_fr ?_ ?_ ?_
          · kernel_rfl
          · left; kernel_rfl
          intro T y W4 K Qk Cv hF hC4 hd hV hK
          simp [deps, VL, IsV, Region.binds] at hd
          have t141 := hF.get 3 141 (by kernel_rfl)
          simp only [hd] at t141
          clear hF
          go_simp
          exact hK _ _ (hV _ _ hC4 (Below.refl _ _) rfl)
        · refine one_fr ?_ ?_ ?_
          · kernel_rfl
          · left; kernel_rfl
          intro T y W4 K Qk Cv hF hC4 hd hV hK
          clear hd
          have t13 := hF.old 13 (.int .i64 (d : Int)) (by kernel_rfl) (by kernel_rfl)
          clear hF
          go_simp
          exact hK _ _ (hV _ _ hC4 (Below.refl _ _) rfl)
        · refine one_fr ?_ ?_ ?_
          · kernel_rfl
          · left; kernel_rfl
          intro T y W4 K Qk Cv hF hC4 hd hV hK
          simp [deps, VL, IsV, Region.binds] at hd
          have t142 := hF.get 4 142 (by kernel_rfl)
          simp only [hd] at t142
          have t143 := hF.get 5 143 (by kernel_rfl)
          simp only [hd] at t143
          clear hF
          go_simp
          exact hK _ _ (hV _ _ hC4 (Below.refl _ _) rfl)
        · refine one_fr ?_ ?_ ?_
          · kernel_rfl
          · left; kernel_rfl
          intro T y W4 K Qk Cv hF hC4 hd hV hK
          simp [deps, VL, IsV, Region.binds] at hd
          have t139 := hF.get 1 139 (by kernel_rfl)
          simp only [hd] at t139
          have t144 := hF.get 6 144 (by kernel_rfl)
          simp only [hd] at t144
          clear hF
          go_simp
          exact hK _ _ (hV _ _ hC4 (Below.refl _ _) rfl)
        · refine one_fr ?_ ?_ ?_
          · kernel_rfl
          · left; kernel_rfl
          intro T y W4 K Qk Cv hF hC4 hd hV hK
          clear hd
          have t9 := hF.old 9 (.int .i64 (N : Int)) (by kernel_rfl) (by kernel_rfl)
          clear hF
          go_simp
          exact hK _ _ (hV _ _ hC4 (Below.refl _ _) rfl)
        · refine one_fr ?_ ?_ ?_
          · kernel_rfl
          · left; kernel_rfl
          intro T y W4 K Qk Cv hF hC4 hd hV hK
          simp [deps, VL, IsV, Region.binds] at hd
          have t145 := hF.get 7 145 (by kernel_rfl)
          simp only [hd] at t145
          have t146 := hF.get 8 146 (by kernel_rfl)
          simp only [hd] at t146
          clear hF
          go_simp
          exact hK _ _ (hV _ _ hC4 (Below.refl _ _) rfl)
        · refine one_fr ?_ ?_ ?_
          · kernel_rfl
          · left; kernel_rfl
          intro T y W4 K Qk Cv hF hC4 hd hV hK
          simp [deps, VL, IsV, Region.binds] at hd
          have t138 := hF.get 0 138 (by kernel_rfl)
          simp only [hd] at t138
          have t147 := hF.get 9 147 (by kernel_rfl)
          simp only [hd] at t147
          clear hF
          have hs := hNt.out (q : Int) W4 (hB_4.out.trans (hC4.mono hB_4.out.size))
          rw [r5, r6] at hs
          go_simp
          refine hs.mono ?_
          rintro e w7 ⟨⟨v7, rfl, q7⟩, hb7⟩
          exact hK _ _ (hV _ _ (hC4.trans (hb7.mono hC4.size)) hb7 ⟨v7, rfl, q7⟩)
        · refine one_fr ?_ ?_ ?_
          · kernel_rfl
          · left; kernel_rfl
          intro T y W4 K Qk Cv hF hC4 hd hV hK
          simp [deps, VL, Region.binds] at hd
          have t148 := hF.get 10 148 (by kernel_rfl)
          clear hF
          generalize y 10 = zz at *
          go_simp
          first
            | exact hK _ _ (hV _ _ hC4 (Below.refl _ _) hd)
            | exact hK _ _ (hV _ _ hC4 (Below.refl _ _) hd.1)
        · refine one_fr ?_ ?_ ?_
          · kernel_rfl
          · left; kernel_rfl
          intro T y W4 K Qk Cv hF hC4 hd hV hK
          simp [deps, VL, Region.binds] at hd
          have t137 := hF.get 11 137 (by kernel_rfl)
          clear hF
          obtain ⟨u7, e7, h7⟩ := hd
          rw [e7] at t137
          go_simp
          exact hK _ _ (hV _ _ hC4 (Below.refl _ _) h7)
        · refine one_fr ?_ ?_ ?_
          · kernel_rfl
          · left; kernel_rfl
          intro T y W4 K Qk Cv hF hC4 hd hV hK
          simp [deps, VL, Region.binds] at hd
          have t137 := hF.get 11 137 (by kernel_rfl)
          clear hF
          obtain ⟨u7, e7, h7⟩ := hd
          rw [e7] at t137
          go_simp
          exact hK _ _ (hV _ _ hC4 (Below.refl _ _) rfl)
        · refine one_fr ?_ ?_ ?_
          · kernel_rfl
          · left; kernel_rfl
          intro T y W4 K Qk Cv hF hC4 hd hV hK
          simp [deps, VL, Region.binds] at hd
          have t149 := hF.get 12 149 (by kernel_rfl)
          clear hF
          generalize y 12 = zz at *
          go_simp
          first
            | exact hK _ _ (hV _ _ hC4 (Below.refl _ _) hd)
            | exact hK _ _ (hV _ _ hC4 (Below.refl _ _) hd.1)
        · refine one_fr ?_ ?_ ?_
          · kernel_rfl
          · left; kernel_rfl
          intro T y W4 K Qk Cv hF hC4 hd hV hK
          simp [deps, VL, IsV, Region.binds] at hd
          have t150 := hF.get 13 150 (by kernel_rfl)
          clear hF
          simp only [hd] at t150
          go_simp
          exact hK _ _ (hV _ _ hC4 (Below.refl _ _) rfl)
      intro y w5 hC hd4
      simp [EndsL, IsV] at hd4
      obtain ⟨m0, m1, m2, m3, m4, m5, m6, m7, m8, m9, m10, m11, m12, m13, m14, m15⟩ := hd4
      simp only [putAll, Act.put]
      rw [m0, m1, m2, m3, m4, m5, m6, m7, m8, m9, m13, m15]
      clear m0 m1 m2 m3 m4 m5 m6 m7 m8 m9 m13 m15
      simp only [List.setIfInBounds_toArray, List.set_cons_succ, List.set_cons_zero]
      generalize y 10 = z10 at *
      generalize y 11 = z11 at *
      generalize y 12 = z12 at *
      generalize y 14 = z14 at *
      obtain ⟨Ap, cp, rfl, hrp, hmp, -⟩ := m14
      have hb : Below w4.heap.size w4 w5 := hC
      have hb35 := hide (hb34.out.trans (hb.mono hb34.out.size))
      have hB_6 := hide (hB_4.out.trans (hb.mono hB_4.out.size))
      have bW_6 := hide (bW_4.out.below hb bW_4.out.lt)
      have bS_6 := hide (bS_4.out.below hb bS_4.out.lt)
      have bX_6 := hide (bX_4.out.below hb bX_4.out.lt)
      have hps_6 := hide (hps_4.out.below hb)
      clear hC m10 m11 m12 hb hNt
      have hAh := hide (fun W4 (hC4 : Below w5.heap.size w5 W4) => hAg.out Ap cp (ppI B q) W4 (hb35.out.trans (hC4.mono hb35.out.size)) (hrp.below hC4) r4 r3)
      rw [hal] at hAh
      generalize (ppI B q).length = lq at *
      clear r3 r4 r5 r6 hrp hmp hal hAg
      go_upto_region 16 with fail
      refine region_grow [IsV (.int .i64 0), IsV (.bool true), IsV (.bool true), IsV (.pointer (some ⟨w.heap.size + 1, 0, none⟩)), IsV (.agg #[.int .i64 hr, .int .i64 hs, .int .i64 hc]), IsV (.slice (some ⟨bd, od, none⟩) n cd), IsV (.int .i64 (s : Int)), IsV (.slice Ap lq cp), IsV (.bool false), IsV (.bool true), IsV (.bool true), IsV (.bool true), IsV (.pointer (some ⟨w.heap.size + 1, 0, none⟩)), IsV (.agg #[.int .i64 hr, .int .i64 hs, .int .i64 hc]), IsV (.slice (some ⟨bd, od, none⟩) n cd), IsV (.int .i64 (s : Int)), IsV (.slice (some ⟨bd, od, none⟩) n cd), IsV (.int .i64 (s : Int)), IsV (.pointer (some ⟨bd, od + s, none⟩)), IsV (.slice As lp cs), IsV (.bool true), IsV (.bool true), IsV (.bool true), IsV (.bool true), IsV (.bool true), IsV (.bool true)] (by kernel_rfl) (by kernel_rfl) rfl ?_ ?_ ?_
      · simp [AllStb, IsV.stb]
      · refine ⟨?_, ?_, ?_, ?_, ?_, ?_, ?_, ?_, ?_, ?_, ?_, ?_, ?_, ?_, ?_, ?_, ?_, ?_, ?_, ?_, ?_, ?_, ?_, ?_, ?_, ?_, trivial⟩
        · refine one_fr ?_ ?_ ?_
          · kernel_rfl
          · left; kernel_rfl
          intro T y W4 K Qk Cv hF hC4 hd hV hK
          clear hd
          have t8 := hF.old 8 (.int .i64 0) (by kernel_rfl) (by kernel_rfl)
          clear hF
          go_simp
          exact hK _ _ (hV _ _ hC4 (Below.refl _ _) rfl)
        · refine one_fr ?_ ?_ ?_
          · kernel_rfl
          · left; kernel_rfl
          intro T y W4 K Qk Cv hF hC4 hd hV hK
          simp [deps, VL, IsV, Region.binds] at hd
          have t151 := hF.get 0 151 (by kernel_rfl)
          simp only [hd] at t151
          clear hF
          go_simp
          exact hK _ _ (hV _ _ hC4 (Below.refl _ _) rfl)
        · refine one_fr ?_ ?_ ?_
          · kernel_rfl
          · left; kernel_rfl
          intro T y W4 K Qk Cv hF hC4 hd hV hK
          simp [deps, VL, IsV, Region.binds] at hd
          have t152 := hF.get 1 152 (by kernel_rfl)
          simp only [hd] at t152
          clear hF
          go_simp
          exact hK _ _ (hV _ _ hC4 (Below.refl _ _) rfl)
        · refine one_fr ?_ ?_ ?_
          · kernel_rfl
          · right; exact ⟨2, 153, by kernel_rfl, fun _ _ h => h⟩
          intro T y W4 K Qk Cv hF hC4 hd hV hK
          clear hd
          have t4 := hF.old 4 (.pointer (some ⟨w.heap.size + 1, 0, none⟩)) (by kernel_rfl) (by kernel_rfl)
          clear hF
          go_simp
          exact hK _ _ (hV _ _ hC4 (Below.refl _ _) rfl)
        · refine one_fr ?_ ?_ ?_
          · kernel_rfl
          · right; exact ⟨2, 153, by kernel_rfl, fun _ _ h => h⟩
          intro T y W4 K Qk Cv hF hC4 hd hV hK
          simp [deps, VL, IsV, Region.binds] at hd
          have t154 := hF.get 3 154 (by kernel_rfl)
          simp only [hd] at t154
          clear hF
          have bx4 := bS_6.out.below hC4 bS_6.out.lt
          have c0 : W4.cell? ⟨w.heap.size + 1, 0, none⟩ = some (.int .i64 hr) := bx4.cell 0
          have c1 : W4.cell? ⟨w.heap.size + 1, 1, none⟩ = some (.int .i64 hs) := bx4.cell 1
          have c2 : W4.cell? ⟨w.heap.size + 1, 2, none⟩ = some (.int .i64 hc) := bx4.cell 2
          clear bx4
          go_simp
          exact hK _ _ (hV _ _ hC4 (Below.refl _ _) rfl)
        · refine one_fr ?_ ?_ ?_
          · kernel_rfl
          · right; exact ⟨2, 153, by kernel_rfl, fun _ _ h => h⟩
          intro T y W4 K Qk Cv hF hC4 hd hV hK
          clear hd
          have t7 := hF.old 7 (.slice (some ⟨bd, od, none⟩) n cd) (by kernel_rfl) (by kernel_rfl)
          clear hF
          go_simp
          exact hK _ _ (hV _ _ hC4 (Below.refl _ _) rfl)
        · refine one_fr ?_ ?_ ?_
          · kernel_rfl
          · right; exact ⟨2, 153, by kernel_rfl, fun _ _ h => h⟩
          intro T y W4 K Qk Cv hF hC4 hd hV hK
          clear hd
          have t10 := hF.old 10 (.int .i64 (s : Int)) (by kernel_rfl) (by kernel_rfl)
          clear hF
          go_simp
          exact hK _ _ (hV _ _ hC4 (Below.refl _ _) rfl)
        · refine one_fr ?_ ?_ ?_
          · kernel_rfl
          · right; exact ⟨2, 153, by kernel_rfl, fun _ _ h => h⟩
          intro T y W4 K Qk Cv hF hC4 hd hV hK
          clear hd
          have t14 := hF.old 14 (.slice Ap lq cp) (by kernel_rfl) (by kernel_rfl)
          clear hF
          go_simp
          exact hK _ _ (hV _ _ hC4 (Below.refl _ _) rfl)
        · refine one_fr ?_ ?_ ?_
          · kernel_rfl
          · right; exact ⟨2, 153, by kernel_rfl, fun _ _ h => h⟩
          intro T y W4 K Qk Cv hF hC4 hd hV hK
          simp [deps, VL, IsV, Region.binds] at hd
          have t155 := hF.get 4 155 (by kernel_rfl)
          simp only [hd] at t155
          have t156 := hF.get 5 156 (by kernel_rfl)
          simp only [hd] at t156
          have t157 := hF.get 6 157 (by kernel_rfl)
          simp only [hd] at t157
          have t158 := hF.get 7 158 (by kernel_rfl)
          simp only [hd] at t158
          clear hF
          have hs := hAh.out W4 hC4
          go_simp
          refine hs.mono ?_
          rintro e w7 ⟨rfl, hb7⟩
          exact hK _ _ (hV _ _ (hC4.trans (hb7.mono hC4.size)) hb7 rfl)
        · refine one_fr ?_ ?_ ?_
          · kernel_rfl
          · right; exact ⟨2, 153, by kernel_rfl, fun _ _ h => h⟩
          intro T y W4 K Qk Cv hF hC4 hd hV hK
          simp [deps, VL, IsV, Region.binds] at hd
          have t159 := hF.get 8 159 (by kernel_rfl)
          simp only [hd] at t159
          clear hF
          go_simp
          exact hK _ _ (hV _ _ hC4 (Below.refl _ _) rfl)
        · refine one_fr ?_ ?_ ?_
          · kernel_rfl
          · left; kernel_rfl
          intro T y W4 K Qk Cv hF hC4 hd hV hK
          simp [deps, VL, IsV, Region.binds] at hd
          have t153 := hF.get 2 153 (by kernel_rfl)
          simp only [hd] at t153
          have t160 := hF.get 9 160 (by kernel_rfl)
          simp only [hd] at t160
          clear hF
          go_simp
          exact hK _ _ (hV _ _ hC4 (Below.refl _ _) rfl)
        · refine one_fr ?_ ?_ ?_
          · kernel_rfl
          · left; kernel_rfl
          intro T y W4 K Qk Cv hF hC4 hd hV hK
          simp [deps, VL, IsV, Region.binds] at hd
          have t161 := hF.get 10 161 (by kernel_rfl)
          simp only [hd] at t161
          clear hF
          go_simp
          exact hK _ _ (hV _ _ hC4 (Below.refl _ _) rfl)
        · refine one_fr ?_ ?_ ?_
          · kernel_rfl
          · right; exact ⟨11, 162, by kernel_rfl, fun _ _ h => h⟩
          intro T y W4 K Qk Cv hF hC4 hd hV hK
          clear hd
          have t4 := hF.old 4 (.pointer (some ⟨w.heap.size + 1, 0, none⟩)) (by kernel_rfl) (by kernel_rfl)
          clear hF
          go_simp
          exact hK _ _ (hV _ _ hC4 (Below.refl _ _) rfl)
        · refine one_fr ?_ ?_ ?_
          · kernel_rfl
          · right; exact ⟨11, 162, by kernel_rfl, fun _ _ h => h⟩
          intro T y W4 K Qk Cv hF hC4 hd hV hK
          simp [deps, VL, IsV, Region.binds] at hd
          have t163 := hF.get 12 163 (by kernel_rfl)
          simp only [hd] at t163
          clear hF
          have bx4 := bS_6.out.below hC4 bS_6.out.lt
          have c0 : W4.cell? ⟨w.heap.size + 1, 0, none⟩ = some (.int .i64 hr) := bx4.cell 0
          have c1 : W4.cell? ⟨w.heap.size + 1, 1, none⟩ = some (.int .i64 hs) := bx4.cell 1
          have c2 : W4.cell? ⟨w.heap.size + 1, 2, none⟩ = some (.int .i64 hc) := bx4.cell 2
          clear bx4
          go_simp
          exact hK _ _ (hV _ _ hC4 (Below.refl _ _) rfl)
        · refine one_fr ?_ ?_ ?_
          · kernel_rfl
          · right; exact ⟨11, 162, by kernel_rfl, fun _ _ h => h⟩
          intro T y W4 K Qk Cv hF hC4 hd hV hK
          clear hd
          have t7 := hF.old 7 (.slice (some ⟨bd, od, none⟩) n cd) (by kernel_rfl) (by kernel_rfl)
          clear hF
          go_simp
          exact hK _ _ (hV _ _ hC4 (Below.refl _ _) rfl)
        · refine one_fr ?_ ?_ ?_
          · kernel_rfl
          · right; exact ⟨11, 162, by kernel_rfl, fun _ _ h => h⟩
          intro T y W4 K Qk Cv hF hC4 hd hV hK
          clear hd
          have t10 := hF.old 10 (.int .i64 (s : Int)) (by kernel_rfl) (by kernel_rfl)
          clear hF
          go_simp
          exact hK _ _ (hV _ _ hC4 (Below.refl _ _) rfl)
        · refine one_fr ?_ ?_ ?_
          · kernel_rfl
          · right; exact ⟨11, 162, by kernel_rfl, fun _ _ h => h⟩
          intro T y W4 K Qk Cv hF hC4 hd hV hK
          clear hd
          have t7 := hF.old 7 (.slice (some ⟨bd, od, none⟩) n cd) (by kernel_rfl) (by kernel_rfl)
          clear hF
          go_simp
          exact hK _ _ (hV _ _ hC4 (Below.refl _ _) rfl)
        · refine one_fr ?_ ?_ ?_
          · kernel_rfl
          · right; exact ⟨11, 162, by kernel_rfl, fun _ _ h => h⟩
          intro T y W4 K Qk Cv hF hC4 hd hV hK
          clear hd
          have t10 := hF.old 10 (.int .i64 (s : Int)) (by kernel_rfl) (by kernel_rfl)
          clear hF
          go_simp
          exact hK _ _ (hV _ _ hC4 (Below.refl _ _) rfl)
        · refine one_fr ?_ ?_ ?_
          · kernel_rfl
          · right; exact ⟨11, 162, by kernel_rfl, fun _ _ h => h⟩
          intro T y W4 K Qk Cv hF hC4 hd hV hK
          simp [deps, VL, IsV, Region.binds] at hd
          have t167 := hF.get 16 167 (by kernel_rfl)
          simp only [hd] at t167
          have t168 := hF.get 17 168 (by kernel_rfl)
          simp only [hd] at t168
          clear hF
          go_simp
          exact hK _ _ (hV _ _ hC4 (Below.refl _ _) rfl)
        · refine one_fr ?_ ?_ ?_
          · kernel_rfl
          · right; exact ⟨11, 162, by kernel_rfl, fun _ _ h => h⟩
          intro T y W4 K Qk Cv hF hC4 hd hV hK
          simp [deps, VL, IsV, Region.binds] at hd
          have t169 := hF.get 18 169 (by kernel_rfl)
          simp only [hd] at t169
          clear hF
          have cx : W4.cell? ⟨bd, od + s, none⟩ = some (.slice As lp cs) := (cellB (hb35.out.trans (hC4.mono hb35.out.size)) hbd3.out).trans cds3.out
          go_simp
          exact hK _ _ (hV _ _ hC4 (Below.refl _ _) rfl)
        · refine one_fr ?_ ?_ ?_
          · kernel_rfl
          · right; exact ⟨11, 162, by kernel_rfl, fun _ _ h => h⟩
          intro T y W4 K Qk Cv hF hC4 hd hV hK
          simp [deps, VL, IsV, Region.binds] at hd
          have t164 := hF.get 13 164 (by kernel_rfl)
          simp only [hd] at t164
          have t165 := hF.get 14 165 (by kernel_rfl)
          simp only [hd] at t165
          have t166 := hF.get 15 166 (by kernel_rfl)
          simp only [hd] at t166
          have t170 := hF.get 19 170 (by kernel_rfl)
          simp only [hd] at t170
          clear hF
          have hs := hAq.out W4 (hb35.out.trans (hC4.mono hb35.out.size))
          go_simp
          refine hs.mono ?_
          rintro e w7 ⟨rfl, hb7⟩
          exact hK _ _ (hV _ _ (hC4.trans (hb7.mono hC4.size)) hb7 rfl)
        · refine one_fr ?_ ?_ ?_
          · kernel_rfl
          · left; kernel_rfl
          intro T y W4 K Qk Cv hF hC4 hd hV hK
          simp [deps, VL, IsV, Region.binds] at hd
          have t162 := hF.get 11 162 (by kernel_rfl)
          simp only [hd] at t162
          have t171 := hF.get 20 171 (by kernel_rfl)
          simp only [hd] at t171
          clear hF
          go_simp
          exact hK _ _ (hV _ _ hC4 (Below.refl _ _) rfl)
        · refine one_fr ?_ ?_ ?_
          · kernel_rfl
          · left; kernel_rfl
          intro T y W4 K Qk Cv hF hC4 hd hV hK
          simp [deps, VL, IsV, Region.binds] at hd
          have t172 := hF.get 21 172 (by kernel_rfl)
          simp only [hd] at t172
          clear hF
          go_simp
          exact hK _ _ (hV _ _ hC4 (Below.refl _ _) rfl)
        · refine one_fr ?_ ?_ ?_
          · kernel_rfl
          · right; exact ⟨22, 173, by kernel_rfl, fun _ _ h => h⟩
          intro T y W4 K Qk Cv hF hC4 hd hV hK
          clear hd
          clear hF
          have hs := Awake_any W4
          go_simp
          refine hs.mono ?_
          rintro e w7 ⟨rfl, hb7⟩
          exact hK _ _ (hV _ _ (hC4.trans (hb7.mono hC4.size)) hb7 rfl)
        · refine one_fr ?_ ?_ ?_
          · kernel_rfl
          · left; kernel_rfl
          intro T y W4 K Qk Cv hF hC4 hd hV hK
          simp [deps, VL, IsV, Region.binds] at hd
          have t173 := hF.get 22 173 (by kernel_rfl)
          simp only [hd] at t173
          have t174 := hF.get 23 174 (by kernel_rfl)
          simp only [hd] at t174
          clear hF
          go_simp
          exact hK _ _ (hV _ _ hC4 (Below.refl _ _) rfl)
        · refine one_fr ?_ ?_ ?_
          · kernel_rfl
          · left; kernel_rfl
          intro T y W4 K Qk Cv hF hC4 hd hV hK
          simp [deps, VL, IsV, Region.binds] at hd
          have t175 := hF.get 24 175 (by kernel_rfl)
          simp only [hd] at t175
          clear hF
          go_simp
          exact hK _ _ (hV _ _ hC4 (Below.refl _ _) rfl)
      intro y w6 hC hd4
      simp [EndsL, IsV] at hd4
      obtain ⟨m0, m1, m2, m3, m4, m5, m6, m7, m8, m9, m10, m11, m12, m13, m14, m15, m16, m17, m18, m19, m20, m21, m22, m23, m24, m25⟩ := hd4
      simp only [putAll, Act.put]
      rw [m0, m1, m2, m3, m4, m5, m6, m7, m8, m9, m10, m11, m12, m13, m14, m15, m16, m17, m18, m19, m20, m21, m22, m23, m24, m25]
      clear m0 m1 m2 m3 m4 m5 m6 m7 m8 m9 m10 m11 m12 m13 m14 m15 m16 m17 m18 m19 m20 m21 m22 m23 m24 m25
      simp only [List.setIfInBounds_toArray, List.set_cons_succ, List.set_cons_zero]
      have hb : Below w5.heap.size w5 w6 := hC
      clear hC
      have hB_7 := hide (hB_6.out.trans (hb.mono hB_6.out.size))
      have bW_7 := hide (bW_6.out.below hb bW_6.out.lt)
      have bS_7 := hide (bS_6.out.below hb bS_6.out.lt)
      have bX_7 := hide (bX_6.out.below hb bX_6.out.lt)
      have hps_7 := hide (hps_6.out.below hb)
      clear hb
      go_wp2
      go_ret
      exact ⟨rfl, hB_7.out⟩
end Go.Proofs.Ytnmgnonbgihalaa
