/-
  The law PaperAny (made by gen_any.py).
-/
import Derived.Test.YtnmgnonbgihalaaQh
import Derived.Test.YtnmgnonbgihalaaPy
import Derived.Test.YtnmgnonbgihalaaQd
import Derived.Test.YtnmgnonbgihalaaPt
import Derived.Test.YtnmgnonbgihalaaPw
import Derived.BigQuiet
namespace Go.Proofs.Ytnmgnonbgihalaa
open Go.RowKit RG

set_option maxRecDepth 100000 in
set_option maxHeartbeats 8000000 in
theorem PaperAny_any (v : Value) (Q Wd : Option Addr) (cq cw : Nat) (B : Bank) (x0 : Int) (w : World) (hv : BankIn w v Q Wd cq cw B) (h0 : 0 ≤ x0 ∧ x0 ≤ 65535) :
    Calls Try.prog 10 #[v, .int .u16 x0] w fun e w' => e = .returned (.bool true) ∧ Below w.heap.size w w' := by
  obtain ⟨rfl, hR, -, -⟩ := hv
  have hVa := hide (fun W (hb : Below w.heap.size w W) => valid_any Q Wd cq cw B W (hR.below hb))
  have hCo := hide (fun W (hb : Below w.heap.size w W) => Count_any Q Wd cq cw B W (hR.below hb))
  have hNt := hide (fun x W (hb : Below w.heap.size w W) => Nth_f Q Wd cq cw B x W (hR.below hb))
  have hNm := hide (fun A n c xs W (hb : Below w.heap.size w W) (h : RdInts W A n xs) (hn : n ≤ maxLen) => Number_f Q Wd cq cw B A n c xs W (hR.below hb) h hn)
  have hRb := hide (fun W (hb : Below w.heap.size w W) => hR.below hb)
  obtain ⟨er, her⟩ : ∃ z, errP B = z := ⟨_, rfl⟩
  rw [her] at hVa hCo
  obtain ⟨cnt, hcnt⟩ : ∃ z, countP B = z := ⟨_, rfl⟩
  rw [hcnt] at hCo
  unfold bkV at hCo hNt hNm hVa ⊢
  obtain ⟨W, hW⟩ : ∃ y, w.alloc (.cells #[.slice Q B.qs.length cq, .slice Wd B.wanted.length cw, .int .i64 B.lo, .int .i64 B.hi] 27) = y := ⟨_, rfl⟩
  have bW := hide (show Blk W w.heap.size 27 #[.slice Q B.qs.length cq, .slice Wd B.wanted.length cw, .int .i64 B.lo, .int .i64 B.hi] by rw [← hW]; exact blkNew rfl)
  have hB := hide (show Below w.heap.size w W by rw [← hW]; exact (Below.refl _ _).alloc (Nat.le_refl _) _)
  replace hW := hide hW
  replace her := hide her
  replace hcnt := hide hcnt
  clear hR
  have bo := bW.out
  have b0 : W.cell? ⟨w.heap.size, 0, none⟩ = some (.slice Q B.qs.length cq) := bo.cell 0
  have b1 : W.cell? ⟨w.heap.size, 1, none⟩ = some (.slice Wd B.wanted.length cw) := bo.cell 1
  have b2 : W.cell? ⟨w.heap.size, 2, none⟩ = some (.int .i64 B.lo) := bo.cell 2
  have b3 : W.cell? ⟨w.heap.size, 3, none⟩ = some (.int .i64 B.hi) := bo.cell 3
  clear bo
  go_enter Try.func10, Try.ntmps10
  go_upto_region 1 with fail
  rw [hW.out]
  go_wp2_with fail
  refine (hVa.out W hB.out).mono ?_
  rintro e w1 ⟨rfl, hb⟩
  clear b0 b1 b2 b3
  clear hVa hW
  have hB_1 := hide (hB.out.trans (hb.mono hB.out.size))
  have bW_1 := hide (bW.out.below hb bW.out.lt)
  clear hb
  by_cases he : er = 0
  · subst he
    have hOk := err_ok her.out
    have hnq := hOk.nq
    have hnw := hOk.nw
    obtain ⟨N, hN⟩ : ∃ z, B.qs.length = z := ⟨_, rfl⟩
    obtain ⟨nw, hNW⟩ : ∃ z, B.wanted.length = z := ⟨_, rfl⟩
    have hmk := mk_ints nw (by omega) w1
    obtain ⟨w5, hw5⟩ : ∃ y, w1.alloc (.cells (List.replicate nw (.int .i64 0)).toArray 3) = y := ⟨_, rfl⟩
    rw [hw5] at hmk
    have hb5 : Below w1.heap.size w1 w5 := by rw [← hw5]; exact (Below.refl _ _).alloc (Nat.le_refl _) _
    have hs5 : w5.heap.size = w1.heap.size + 1 := by rw [← hw5]; simp
    obtain ⟨bt, hbt⟩ : ∃ bt : Nat → Bool, (fun i => decide ((x0 / 2 ^ i).tmod 2 = 1)) = bt := ⟨_, rfl⟩
    have hr5 := hide (show RowAt w5 (fun g => g < w1.heap.size) 3 1 (.slice (some ⟨w1.heap.size, 0, none⟩) nw nw) ((cntXL B (selX B bt 0)).map iCells) by
      show RowAt w5 _ _ _ _ ((cntXL B []).map iCells)
      rw [← cntXL_zero, hNW]; exact row_zeros (by rw [← hw5]; exact blkNew rfl) (by omega) (Nat.lt_irrefl _))
    have hl5 := hide (show RowAt w5 (fun g => g < w5.heap.size) 3 1 (.slice none 0 0) ((selX B bt 0).map iCells) from rowAt_nil _ _ _ _)
    replace hw5 := hide hw5
    have c1 : w1.cell? ⟨w.heap.size, 1, none⟩ = some (.slice Wd nw cw) := by rw [← hNW]; exact bW_1.out.cell 1
    go_wp2
    clear hmk c1
    go_loopg [8, 9, 10, 11] (N + 1) (fun gg s8 s9 s10 _ wr => ∃ i : Nat, i ≤ N ∧ N < gg + i ∧ s8 = .int .i64 (levX B (selX B bt i)) ∧ s10 = .int .i64 i ∧ Hid (Below w1.heap.size w1 wr) ∧ Hid (w5.heap.size ≤ wr.heap.size) ∧ Hid (RowAt wr (fun g => g < w1.heap.size) 3 1 (.slice (some ⟨w1.heap.size, 0, none⟩) nw nw) ((cntXL B (selX B bt i)).map iCells)) ∧ Hid (RowAt wr (fun g => g < w5.heap.size) 3 1 s9 ((selX B bt i).map iCells)))
    case atStart => exact ⟨0, by omega, by omega, rfl, rfl, hide hb5, hide (Nat.le_refl _), hr5, hl5⟩
    case round =>
      clear hr5 hl5 hb5
      obtain ⟨i, hi, hg, rfl, rfl, hbr, hsz, hrm, hrl⟩ := hrel
      have hBr := hide (hB_1.out.trans (hbr.out.mono hB_1.out.size))
      have bWr := hide (bW_1.out.below hbr.out bW_1.out.lt)
      obtain ⟨f1, f2, f3⟩ := selX_fit B bt i
      have hlv := lev_sel hOk bt i
      by_cases hil : i < N
      · have hilz : (i : Int) < (N : Int) := by omega
        have hi0 : (0 : Int) ≤ (i : Int) := by omega
        have hi16 : (i : Int) ≤ 16 := by omega
        have hiw : IntKind.i64.wrap ((i : Int) + 1) = (i : Int) + 1 := by rw [IntKind.wrap_i64]; omega
        have hiq : i < B.qs.length := by omega
        have hqx := hOk.qs (B.qs[i]?.getD default) (by rw [List.getElem?_eq_getElem hiq]; exact List.getElem_mem _)
        have hsel := hide (fun (h1 : bt i = true) h2 => selX_yes (B := B) h1 h2)
        have hsno := hide (fun h => selX_no (B := B) (bt := bt) (i := i) h)
        obtain ⟨p, hp⟩ : ∃ z, partAt B i = z := ⟨_, rfl⟩
        have hpq := part_at hOk hiq
        rw [hp] at hpq hsel hsno
        have hpn : p < nw := by have := partAt_lt hOk hiq; omega
        have hBk := hRb.out wr hBr.out
        obtain ⟨bq, oq, rfl, hbq, ex, ey, ez⟩ := q_cells hBk hiq
        obtain ⟨bw, ow, rfl, hbw, hcw⟩ := hBk.ws.2 (by omega)
        have cw1 := hcw p (by omega)
        have hwa : wAt B i = weight (B.qs[i]?.getD default) := rfl
        obtain ⟨qp, qa, qw, hqe⟩ : ∃ a b c, B.qs[i]?.getD default = ⟨a, b, c⟩ := ⟨_, _, _, rfl⟩
        rw [hqe] at ex ey ez hqx hwa hpq
        simp only at ex ey ez hqx hpq
        subst hpq
        have cmn : wr.cell? ⟨w1.heap.size, p, none⟩ = some (.int .i64 (cntX B p (selX B bt i) : Nat)) := by
          obtain ⟨g', cap', e7, -, -, -, -, -, hcel, -⟩ := hrm.out.at (by rw [List.length_map, cntXL_len]; omega)
          have e8 : w1.heap.size = g' := by injection e7 with a; injection a with a; injection a
          subst e8
          have h9 := cntXL_at B (selX B bt i) p (by omega)
          have hlt : p < (cntXL B (selX B bt i)).length := by rw [cntXL_len]; omega
          rw [List.getElem?_eq_getElem hlt, Option.getD_some] at h9
          have h8 := hcel p 0 (.int .i64 (cntX B p (selX B bt i) : Nat)) (by rw [List.getElem?_map, List.getElem?_eq_getElem hlt, h9]; rfl)
          rwa [Nat.mul_one, Nat.add_zero] at h8
        obtain ⟨wtd, hwtd⟩ : ∃ z, B.wanted[p]?.getD 0 = z := ⟨_, rfl⟩
        rw [hwtd] at cw1 hsel hsno
        obtain ⟨W9, hW9⟩ : ∃ z, wr.alloc (.cells #[.int .i64 (p : Int), .int .i64 qa, .int .i64 qw] 61) = z := ⟨_, rfl⟩
        have bQ : Blk W9 wr.heap.size 61 #[.int .i64 (p : Int), .int .i64 qa, .int .i64 qw] := by rw [← hW9]; exact blkNew rfl
        have hb9 : Below wr.heap.size wr W9 := by rw [← hW9]; exact (Below.refl _ _).alloc (Nat.le_refl _) _
        have c0 : wr.cell? ⟨w.heap.size, 0, none⟩ = some (.slice (some ⟨bq, oq, none⟩) N cq) := by rw [← hN]; exact bWr.out.cell 0
        have k11 : W9.cell? ⟨wr.heap.size, 0, none⟩ = some (.int .i64 (p : Int)) := bQ.cell 0
        have kmn : W9.cell? ⟨w1.heap.size, p, none⟩ = some (.int .i64 (cntX B p (selX B bt i) : Nat)) := (cellB hb9 (by have := hsz.out; omega)).trans cmn
        have kw0 : W9.cell? ⟨w.heap.size, 1, none⟩ = some (.slice (some ⟨bw, ow, none⟩) nw cw) := by rw [← hNW]; exact (bWr.out.below hb9 bWr.out.lt).cell 1
        have kw1 : W9.cell? ⟨bw, ow + p, none⟩ = some (.int .i64 wtd) := (cellB hb9 hbw).trans cw1
        have hpz : (p : Int) < (nw : Int) := by omega
        have hpz0 : (0 : Int) ≤ (p : Int) := by omega
        clear cmn cw1 hcw hBk
        replace hW9 := hide hW9
        replace hwtd := hide hwtd
        generalize hcx : cntX B p (selX B bt i) = cx at *
        replace hcx := hide hcx
        obtain ⟨z, hz⟩ : ∃ z, x0 / 2 ^ i = z := ⟨_, rfl⟩
        have hz0 : 0 ≤ z ∧ z ≤ 65535 := by
          rw [← hz]
          exact ⟨Int.ediv_nonneg h0.1 (Int.pow_nonneg (by decide)), Int.le_trans (Int.ediv_le_self _ h0.1) h0.2⟩
        have hbi : bt i = decide (z.tmod 2 = 1) := by rw [← hbt, ← hz]
        have hz2 : 0 ≤ z.tmod 2 ∧ z.tmod 2 ≤ 1 := by rw [Int.tmod_eq_emod_of_nonneg hz0.1]; omega
        have hzw : IntKind.u16.wrap (z.tmod 2) = z.tmod 2 := by rw [IntKind.wrap_u16]; omega
        obtain ⟨r, hr0⟩ : ∃ y, z.tmod 2 = y := ⟨_, rfl⟩
        rw [hr0] at hbi hz2 hzw
        have hzn : x0 / 2 ^ ((i : Int).toNat) = z := by rw [Int.toNat_natCast]; exact hz
        go_upto_region 9 with fail
        go_upto_region 10 with fail
        rw [hW9.out]
        clear c0 ex ey ez
        by_cases hr : r = 1
        · have d1 : (r == 1) = true := by rw [hr]; rfl
          rw [hr, decide_eq_true rfl] at hbi
          obtain ⟨lt, hlt⟩ : ∃ y, decide ((cx : Int) < wtd) = y := ⟨_, rfl⟩
          go_quiet (fail)
          have hb10 := hb9.trans (below_drewN (Below.refl W9.heap.size W9) nq |>.mono hb9.size)
          have bQ10 : Blk (W9.drewN nq) wr.heap.size 61 #[.int .i64 (p : Int), .int .i64 qa, .int .i64 qw] := bQ
          have kmn10 : (W9.drewN nq).cell? ⟨w1.heap.size, p, none⟩ = some (.int .i64 (cx : Int)) := kmn
          generalize W9.drewN nq = W10 at *
          have hrl10 := hrl.out.below hb10
          have hrm10 := hrm.out.below hb10
          have hs10 : wr.heap.size ≤ W10.heap.size := hb10.size
          cases lt with
          | false =>
            go_wp2
            go_roundg (N - i)
            case measure => omega
            case rel =>
              have hse := hsno.out (fun h => by have := of_decide_eq_false hlt; exact this h.2)
              refine ⟨i + 1, by omega, by omega, ?_⟩
              rw [hse]
              exact ⟨rfl, by go_num, hide (hbr.out.trans (hb10.mono hbr.out.size)), hide (by have := hsz.out; omega), hide hrm10, hide hrl10⟩
          | true =>
            have hse := hsel.out hbi (of_decide_eq_true hlt)
            have hwt := hwa.symm
            have hwb := wAt_bd hOk i
            have hWt := hide (fun W4 => Weight_any ⟨(p : Int), qa, qw⟩ hqx.2 W4)
            rw [hwt] at hWt
            have hlp := levX_push B (selX B bt i) i
            have hcp := cntXL_push (B := B) (xs := selX B bt i) (i := i) (p := p) hp
            rw [hcx.out] at hcp
            rw [← hse] at hlp hcp
            have hAp := hide (fun f y W (h : AJ W10 w5.heap.size u9 (selX B bt i) (i : Int) f y W) h2 h3 => h.app (by have := hsz.out; omega) (by omega) h2 h3)
            have hcx16 : (cx : Int) ≤ 16 := by
              have h9 : cntX B p (selX B bt i) ≤ (selX B bt i).length := List.countP_le_length
              rw [hcx.out] at h9; omega
            have hJ0 := hide (AJ.start (i := (i : Int)) (w0 := W10) (fun _ => undef) hrl10)
            generalize wAt B i = wt at *
            generalize hlvd : levX B (selX B bt i) = lv at *
            have hsum : IntKind.i64.wrap (lv + wt) = lv + wt := by rw [IntKind.wrap_i64]; omega
            replace hse := hide hse
            replace hlp := hide hlp
            replace hcp := hide hcp
            replace hlvd := hide hlvd
            clear hsel hsno hbi hwa hqx hqe k11 kmn kw0 kw1 bQ hb9 hwt
            have hqlt : wr.heap.size < W10.heap.size := bQ10.lt
            have hqne : u9.ownBlock ≠ some wr.heap.size := fun e => by have := hrl.out.lt e; omega
            go_upto_region 11 with fail
            refine region_mx [some (u9), some (.int .i64 (i : Int)), none, none, some (.int .i64 lv), some (.agg #[.int .i64 (p : Int), .int .i64 qa, .int .i64 qw]), some (.int .i64 wt), some (.int .i64 (lv + wt)), none, some (.int .i64 (lv + wt))] (AJ W10 w5.heap.size u9 (selX B bt i) (i : Int)) (by kernel_rfl) (by kernel_rfl) (fun y => AJ.start y hrl10) ?_ ?_
            · refine ⟨?_, ?_, ?_, ?_, ?_, ?_, ?_, ?_, ?_, ?_, trivial⟩
              · refine ⟨by kernel_rfl, ?_⟩
                intro Tf f y W4 Kq Qq hF hJ4 hf hst hcl hd hK
                have g8 : f 8 = false := by
                  cases h8 : f 8 with
                  | false => rfl
                  | true =>
                    have h3 := hcl 8 _ h8 rfl 3 (by kernel_rfl)
                    have h0 := hcl 3 _ h3 rfl 0 (by kernel_rfl)
                    rw [hf] at h0
                    cases h0
                have o9 : y 8 = u9 := (hst 8 g8).trans (by kernel_rfl)
                have t9 := hF.get 8 9 (by kernel_rfl)
                rw [o9] at t9
                clear hF hd hst hcl
                go_simp
                exact hK _ _ (fun u hu => by cases hu; rfl) (hJ4.other (by decide) _)
              · refine ⟨by kernel_rfl, ?_⟩
                intro Tf f y W4 Kq Qq hF hJ4 hf hst hcl hd hK
                have t10 := hF.old 10 (.int .i64 (i : Int)) (by kernel_rfl) (by kernel_rfl)
                clear hF hd hst hcl
                go_simp
                exact hK _ _ (fun u hu => by cases hu; rfl) (hJ4.other (by decide) _)
              · refine ⟨by kernel_rfl, ?_⟩
                intro Tf f y W4 Kq Qq hF hJ4 hf hst hcl hd hK
                have t68 := hF.get 1 68 (by kernel_rfl)
                have p1 : y 1 = .int .i64 (i : Int) := (hd 1 (by kernel_rfl)).2 _ rfl
                rw [p1] at t68
                have tt68 := t68
                rw [Array.getD_eq_getD_getElem?] at tt68
                clear hF hd hst hcl
                go_simp
                exact hK _ _ (fun u hu => by cases hu) (hJ4.built hf)
              · refine ⟨by kernel_rfl, ?_⟩
                intro Tf f y W4 Kq Qq hF hJ4 hf hst hcl hd hK
                have t67 := hF.get 0 67 (by kernel_rfl)
                have p0 : y 0 = u9 := (hd 0 (by kernel_rfl)).2 _ rfl
                rw [p0] at t67
                have t69 := hF.get 2 69 (by kernel_rfl)
                have h2 := (hd 2 (by kernel_rfl)).1
                obtain ⟨v9, W5, hrun, hJ5⟩ := hAp.out f y W4 hJ4 h2 hf
                clear hF hd hst hcl
                refine wp_append_run (.tmp 67) (.tmp 69) 23 rfl _ _ _ t67 t69 hrun ?_
                exact hK _ _ (fun u hu => by cases hu) hJ5
              · refine ⟨by kernel_rfl, ?_⟩
                intro Tf f y W4 Kq Qq hF hJ4 hf hst hcl hd hK
                have g9 : f 9 = false := by
                  cases h9 : f 9 with
                  | false => rfl
                  | true =>
                    have h7 := hcl 9 _ h9 rfl 7 (by kernel_rfl)
                    have h4 := hcl 7 _ h7 rfl 4 (by kernel_rfl)
                    rw [hf] at h4
                    cases h4
                have o8 : y 9 = .int .i64 lv := (hst 9 g9).trans (by kernel_rfl)
                have t8 := hF.get 9 8 (by kernel_rfl)
                rw [o8] at t8
                clear hF hd hst hcl
                go_simp
                exact hK _ _ (fun u hu => by cases hu; rfl) (hJ4.other (by decide) _)
              · refine ⟨by kernel_rfl, ?_⟩
                intro Tf f y W4 Kq Qq hF hJ4 hf hst hcl hd hK
                have t11 := hF.old 11 (.pointer (some ⟨wr.heap.size, 0, none⟩)) (by kernel_rfl) (by kernel_rfl)
                clear hF hd hst hcl
                have bx := hJ4.kept.blk (⟨hqlt, hqne⟩) bQ10
                have c0 : W4.cell? ⟨wr.heap.size, 0, none⟩ = some (.int .i64 (p : Int)) := bx.cell 0
                have c1 : W4.cell? ⟨wr.heap.size, 1, none⟩ = some (.int .i64 qa) := bx.cell 1
                have c2 : W4.cell? ⟨wr.heap.size, 2, none⟩ = some (.int .i64 qw) := bx.cell 2
                clear bx
                go_simp
                exact hK _ _ (fun u hu => by cases hu; rfl) (hJ4.other (by decide) _)
              · refine ⟨by kernel_rfl, ?_⟩
                intro Tf f y W4 Kq Qq hF hJ4 hf hst hcl hd hK
                have t72 := hF.get 5 72 (by kernel_rfl)
                have p5 : y 5 = .agg #[.int .i64 (p : Int), .int .i64 qa, .int .i64 qw] := (hd 5 (by kernel_rfl)).2 _ rfl
                rw [p5] at t72
                clear hF hd hst hcl
                have hs := hWt.out W4
                go_simp
                refine hs.mono ?_
                rintro e w7 ⟨rfl, hb7⟩
                exact hK _ _ (fun u hu => by cases hu; rfl) ((hJ4.below hb7).other (by decide) _)
              · refine ⟨by kernel_rfl, ?_⟩
                intro Tf f y W4 Kq Qq hF hJ4 hf hst hcl hd hK
                have t71 := hF.get 4 71 (by kernel_rfl)
                have p4 : y 4 = .int .i64 lv := (hd 4 (by kernel_rfl)).2 _ rfl
                rw [p4] at t71
                have t73 := hF.get 6 73 (by kernel_rfl)
                have p6 : y 6 = .int .i64 wt := (hd 6 (by kernel_rfl)).2 _ rfl
                rw [p6] at t73
                clear hF hd hst hcl
                go_simp
                exact hK _ _ (fun u hu => by cases hu; rfl) (hJ4.other (by decide) _)
              · refine ⟨by kernel_rfl, ?_⟩
                intro Tf f y W4 Kq Qq hF hJ4 hf hst hcl hd hK
                have t70 := hF.get 3 70 (by kernel_rfl)
                have h3 := (hd 3 (by kernel_rfl)).1
                clear hF hd hst hcl
                go_simp
                exact hK _ _ (fun u hu => by cases hu) (hJ4.copied h3)
              · refine ⟨by kernel_rfl, ?_⟩
                intro Tf f y W4 Kq Qq hF hJ4 hf hst hcl hd hK
                have t74 := hF.get 7 74 (by kernel_rfl)
                have p7 : y 7 = .int .i64 (lv + wt) := (hd 7 (by kernel_rfl)).2 _ rfl
                rw [p7] at t74
                clear hF hd hst hcl
                go_simp
                exact hK _ _ (fun u hu => by cases hu; rfl) (hJ4.other (by decide) _)
            intro f y W11 hf hJ hE
            have e9 : y 9 = .int .i64 (lv + wt) := hE 9 _ (by decide) rfl
            have e8 := (hJ.last (hf 8 (by decide))).2
            have hpost := hJ.post (hf 3 (by decide))
            have hkept := hJ.kept
            clear hE hJ hf
            simp only [putAll, Act.put]
            simp only [List.setIfInBounds_toArray, List.set_cons_succ, List.set_cons_zero]
            rw [e9, e8]
            generalize y 3 = v9 at *
            have hb11 : Below w5.heap.size W10 W11 := ⟨hkept.os, hkept.tape, hkept.output, hkept.size, fun g hg => hkept.block g ⟨by have := hsz.out; omega, fun e => hrl10.not g e hg⟩⟩
            have bQ11 := hkept.blk (⟨hqlt, hqne⟩) bQ10
            have hrm11 : RowAt W11 (fun g => g < w1.heap.size) 3 1 (.slice (some ⟨w1.heap.size, 0, none⟩) nw nw) ((cntXL B (selX B bt i)).map iCells) := hrm10.blk fun g hg _ => hb11.block g (by
              have : w1.heap.size = g := by simpa [Value.ownBlock] using hg
              omega)
            have kq : W11.cell? ⟨wr.heap.size, 0, none⟩ = some (.int .i64 (p : Int)) := bQ11.cell 0
            have km : W11.cell? ⟨w1.heap.size, p, none⟩ = some (.int .i64 (cx : Int)) := (cellB hb11 (by omega)).trans kmn10
            have kf : W11.frozen? ⟨w1.heap.size, p, none⟩ = false := by
              obtain ⟨g', cap', e7, -, -, -, -, -, -, hfz, -⟩ := hrm11.at (by rw [List.length_map, cntXL_len]; omega)
              have e8 : w1.heap.size = g' := by injection e7 with a; injection a with a; injection a
              subst e8
              exact hfz p
            have hw12 : IntKind.i64.wrap ((cx : Int) + 1) = (cx : Int) + 1 := by rw [IntKind.wrap_i64]; omega
            have hrm12 := hide (rowInt_set hrm11 (j := p) (by rw [cntXL_len]; omega) ((cx : Int) + 1))
            rw [hcp.out] at hrm12
            have hrl12 := hide (hpost.far (p := ⟨w1.heap.size, p, none⟩) (fun e => by have := hpost.not _ e; exact this (by show w1.heap.size < w5.heap.size; omega)) (.int .i64 ((cx : Int) + 1)))
            rw [← hse.out] at hrl12
            have hb12 := hide ((hbr.out.trans (hb10.mono hbr.out.size)).trans ((hb11.mono (by omega)).trans ((Stored.set1 W11 w1.heap.size p (.int .i64 ((cx : Int) + 1))).below (Nat.le_refl _))))
            have hs12 := hide (show w5.heap.size ≤ (W11.setCell ⟨w1.heap.size, p, none⟩ (.int .i64 ((cx : Int) + 1))).heap.size by
              have := (Stored.set1 W11 w1.heap.size p (.int .i64 ((cx : Int) + 1))).size
              have := hb11.size
              have := hsz.out
              omega)
            clear hpost hkept hb11 bQ11 hrm11 kmn10 bQ10 hrl10 hrm10 hJ0 hAp
            go_wp2
            go_roundg (N - i)
            case measure => omega
            case rel => exact ⟨i + 1, by omega, by omega, by rw [hlp.out], by go_num, hb12, hs12, hrm12, hrl12⟩
        · have d1 : (r == 1) = false := by rw [beq_eq_false_iff_ne]; exact hr
          rw [decide_eq_false hr] at hbi
          go_quiet (fail)
          go_wp2
          go_roundg (N - i)
          case measure => omega
          case rel =>
            have hse := hsno.out (fun h => by rw [hbi] at h; cases h.1)
            refine ⟨i + 1, by omega, by omega, ?_⟩
            rw [hse]
            exact ⟨rfl, by go_num, hide (hbr.out.trans ((below_drewN hb9 _).mono hbr.out.size)), hide (by have := hsz.out; have := hb9.size; show _ ≤ W9.heap.size; omega), hide (hrm.out.below (below_drewN hb9 _)), hide (hrl.out.below (below_drewN hb9 _))⟩
      · have hilz : ¬ (i : Int) < (N : Int) := by omega
        have hiN : i = N := by omega
        subst hiN
        have hBk := hRb.out wr hBr.out
        have hws := hBk.ws
        have hsp := sel_isP her.out bt
        rw [hN] at hsp
        have hcl := cntXL_len B (selX B bt i)
        generalize selX B bt i = xs at *
        obtain ⟨Am, cm, em, hrdm, hmm, -, -⟩ := hrm.out.ints
        injection em with a1 a2 a3
        subst a1
        clear a2 a3
        rw [hcl, hNW] at hrdm
        rw [hNW] at hws
        have hIn := hide (Ints_any _ Wd nw nw nw cw _ _ wr hrdm hws (by unfold maxLen; omega) (by unfold maxLen; omega))
        obtain ⟨b1, hb1⟩ : ∃ z, decide (cntXL B xs = B.wanted) = z := ⟨_, rfl⟩
        rw [hb1] at hIn hsp
        obtain ⟨Al, cl, rfl, hrx, hmx, -, -⟩ := hrl.out.ints
        replace hrx := hide hrx
        generalize levX B xs = lv at *
        have hno := hide (fun (h : isP B xs = false) => numE_not her.out h)
        have hyes := hide (fun (h : isP B xs = true) => isP_at her.out h)
        have hall := hide (fun (k : Nat) (hk : k < (papers B).length) (e : ppI B k = xs) => show numE B xs = 0 ∧ numV B xs = k ∧ nthE B k = 0 ∧ nthP B k = xs from ⟨by rw [← e]; exact numE_ppI her.out hk, by rw [← e]; exact numV_ppI her.out hk, nthE_lt her.out hk, by rw [nthP_lt her.out hk, e]⟩)
        have hcn : cnt = (((papers B).length : Nat) : Int) := by rw [← hcnt.out]; unfold countP; rw [if_neg (by simp [her.out])]
        subst hcn
        have hpl := papers_len hOk
        obtain ⟨M, hM⟩ : ∃ z, (papers B).length = z := ⟨_, rfl⟩
        rw [hM] at hyes hall hCo hpl
        replace hM := hide hM
        clear hrl hrm hrdm hmm hws hBk hcl hcnt
        have c0 : wr.cell? ⟨w.heap.size, 0, none⟩ = some (.slice Q i cq) := by rw [← hN]; exact bWr.out.cell 0
        have c1 : wr.cell? ⟨w.heap.size, 1, none⟩ = some (.slice Wd nw cw) := by rw [← hNW]; exact bWr.out.cell 1
        replace hN := hide hN
        replace hNW := hide hNW
        have bWr := hide (show Blk wr w.heap.size 27 #[.slice Q i cq, .slice Wd nw cw, .int .i64 B.lo, .int .i64 B.hi] by rw [← hN.out, ← hNW.out]; exact bWr.out)
        rw [hN.out, hNW.out] at hNm hNt hCo
        go_wp2_with fail
        refine hIn.out.mono ?_
        rintro e w7 ⟨rfl, qq, rfl⟩
        have hb : Below wr.heap.size wr (wr.drewN qq) := below_drewN (Below.refl _ _) _
        generalize wr.drewN qq = w7 at *
        clear hIn c0 c1
        have hB_2 := hide (hBr.out.trans (hb.mono hBr.out.size))
        have bW_2 := hide (bWr.out.below hb bWr.out.lt)
        have hrx_2 := hide (hrx.out.below hb)
        clear hb
        have bo := bW_2.out
        have b_0 : w7.cell? ⟨w.heap.size, 0, none⟩ = some (.slice Q i cq) := bo.cell 0
        have b_1 : w7.cell? ⟨w.heap.size, 1, none⟩ = some (.slice Wd nw cw) := bo.cell 1
        have b_2 : w7.cell? ⟨w.heap.size, 2, none⟩ = some (.int .i64 B.lo) := bo.cell 2
        have b_3 : w7.cell? ⟨w.heap.size, 3, none⟩ = some (.int .i64 B.hi) := bo.cell 3
        clear bo
        cases b1 with
        | false =>
          rw [Bool.false_and] at hsp
          obtain ⟨n1, n2⟩ := hno.out hsp
          have hnm := hide (hNm.out Al xs.length cl xs w7 hB_2.out hrx_2.out hmx)
          rw [n1, n2] at hnm
          clear n1 n2
          go_wp2_with fail
          refine hnm.out.mono ?_
          rintro e w8 ⟨rfl, hb⟩
          clear hnm
          clear b_0 b_1 b_2 b_3
          have hB_3 := hide (hB_2.out.trans (hb.mono hB_2.out.size))
          have bW_3 := hide (bW_2.out.below hb bW_2.out.lt)
          have hrx_3 := hide (hrx_2.out.below hb)
          clear hb
          go_wp2_with fail
          refine (Awake_any _).mono ?_
          rintro e wz ⟨rfl, hbz⟩
          have hBz := hide (hB_3.out.trans (hbz.mono hB_3.out.size))
          clear hbz 
          go_wp2
          go_ret
          exact ⟨rfl, hBz.out⟩
        | true =>
          rw [Bool.true_and] at hsp
          by_cases q1 : B.lo ≤ lv
          · have q2 : decide (B.lo ≤ lv) = true := decide_eq_true q1
            have q3 : decide (lv ≥ B.lo) = true := decide_eq_true q1
            rw [q2, Bool.true_and] at hsp
            by_cases q4 : lv ≤ B.hi
            · have q5 : decide (lv ≤ B.hi) = true := decide_eq_true q4
              rw [q5] at hsp
              obtain ⟨k, hk, hkx⟩ := hyes.out hsp
              obtain ⟨n1, n2, n3, n4⟩ := hall.out k hk hkx
              have hnm := hide (hNm.out Al xs.length cl xs w7 hB_2.out hrx_2.out hmx)
              rw [n1, n2] at hnm
              go_wp2_with fail
              refine hnm.out.mono ?_
              rintro e w8 ⟨rfl, hb⟩
              clear hnm n1 n2
              clear b_0 b_1 b_2 b_3
              have hB_4 := hide (hB_2.out.trans (hb.mono hB_2.out.size))
              have bW_4 := hide (bW_2.out.below hb bW_2.out.lt)
              have hrx_4 := hide (hrx_2.out.below hb)
              clear hb
              have bo := bW_4.out
              have b_0 : w8.cell? ⟨w.heap.size, 0, none⟩ = some (.slice Q i cq) := bo.cell 0
              have b_1 : w8.cell? ⟨w.heap.size, 1, none⟩ = some (.slice Wd nw cw) := bo.cell 1
              have b_2 : w8.cell? ⟨w.heap.size, 2, none⟩ = some (.int .i64 B.lo) := bo.cell 2
              have b_3 : w8.cell? ⟨w.heap.size, 3, none⟩ = some (.int .i64 B.hi) := bo.cell 3
              clear bo
              have hnt := hide (hNt.out (k : Int) w8 hB_4.out)
              rw [n3, n4] at hnt
              go_wp2_with fail
              refine hnt.out.mono ?_
              rintro e w9 ⟨⟨lm, rfl, hlm⟩, hb⟩
              clear hnt n3 n4
              clear b_0 b_1 b_2 b_3
              have hB_5 := hide (hB_4.out.trans (hb.mono hB_4.out.size))
              have bW_5 := hide (bW_4.out.below hb bW_4.out.lt)
              have hrx_5 := hide (hrx_4.out.below hb)
              clear hb
              have bo := bW_5.out
              have b_0 : w9.cell? ⟨w.heap.size, 0, none⟩ = some (.slice Q i cq) := bo.cell 0
              have b_1 : w9.cell? ⟨w.heap.size, 1, none⟩ = some (.slice Wd nw cw) := bo.cell 1
              have b_2 : w9.cell? ⟨w.heap.size, 2, none⟩ = some (.int .i64 B.lo) := bo.cell 2
              have b_3 : w9.cell? ⟨w.heap.size, 3, none⟩ = some (.int .i64 B.hi) := bo.cell 3
              clear bo
              have hlm0 := hide hlm
              clear hlm
              go_wp2_with fail
              refine (hCo.out w9 hB_5.out).mono ?_
              rintro e w10 ⟨rfl, hb⟩
              clear hCo
              clear b_0 b_1 b_2 b_3
              have hB_6 := hide (hB_5.out.trans (hb.mono hB_5.out.size))
              have bW_6 := hide (bW_5.out.below hb bW_5.out.lt)
              have hrx_6 := hide (hrx_5.out.below hb)
              have hlm_6 := hide (hlm0.out.below hb)
              clear hb
              obtain ⟨Ax, cx, rfl, hry, hmy, -⟩ := hlm_6.out
              have hin2 := hide (Ints_any Al Ax _ _ cl cx xs xs w10 hrx_6.out hry hmx hmy)
              rw [decide_eq_true rfl] at hin2
              have r1 : decide ((k : Int) ≥ 0) = true := decide_eq_true (by omega)
              have r2 : decide ((0 : Int) ≤ (k : Int)) = true := decide_eq_true (by omega)
              have r3 : decide ((k : Int) < (M : Int)) = true := decide_eq_true (by omega)
              have r4 : (0 : Int) ≤ (k : Int) := by omega
              have r5 : (k : Int) < (M : Int) := by omega
              generalize xs.length = lx at *
              go_wp2_with fail
              refine hin2.out.mono ?_
              rintro e w11 ⟨rfl, q9, rfl⟩
              have hb : Below w10.heap.size w10 (w10.drewN q9) := below_drewN (Below.refl _ _) _
              generalize w10.drewN q9 = w11 at *
              clear hin2
              have hB_7 := hide (hB_6.out.trans (hb.mono hB_6.out.size))
              have bW_7 := hide (bW_6.out.below hb bW_6.out.lt)
              clear hb
              go_wp2_with fail
              refine (Awake_any _).mono ?_
              rintro e wz ⟨rfl, hbz⟩
              have hBz := hide (hB_7.out.trans (hbz.mono hB_7.out.size))
              clear hbz 
              go_wp2
              go_ret
              exact ⟨rfl, hBz.out⟩
            · have q5 : decide (lv ≤ B.hi) = false := decide_eq_false q4
              rw [q5] at hsp
              obtain ⟨n1, n2⟩ := hno.out hsp
              have hnm := hide (hNm.out Al xs.length cl xs w7 hB_2.out hrx_2.out hmx)
              rw [n1, n2] at hnm
              clear n1 n2
              go_wp2_with fail
              refine hnm.out.mono ?_
              rintro e w8 ⟨rfl, hb⟩
              clear hnm
              clear b_0 b_1 b_2 b_3
              have hB_8 := hide (hB_2.out.trans (hb.mono hB_2.out.size))
              have bW_8 := hide (bW_2.out.below hb bW_2.out.lt)
              have hrx_8 := hide (hrx_2.out.below hb)
              clear hb
              go_wp2_with fail
              refine (Awake_any _).mono ?_
              rintro e wz ⟨rfl, hbz⟩
              have hBz := hide (hB_8.out.trans (hbz.mono hB_8.out.size))
              clear hbz 
              go_wp2
              go_ret
              exact ⟨rfl, hBz.out⟩
          · have q2 : decide (B.lo ≤ lv) = false := decide_eq_false q1
            have q3 : decide (lv ≥ B.lo) = false := decide_eq_false q1
            rw [q2, Bool.false_and] at hsp
            obtain ⟨n1, n2⟩ := hno.out hsp
            have hnm := hide (hNm.out Al xs.length cl xs w7 hB_2.out hrx_2.out hmx)
            rw [n1, n2] at hnm
            clear n1 n2
            go_wp2_with fail
            refine hnm.out.mono ?_
            rintro e w8 ⟨rfl, hb⟩
            clear hnm
            clear b_0 b_1 b_2 b_3
            have hB_9 := hide (hB_2.out.trans (hb.mono hB_2.out.size))
            have bW_9 := hide (bW_2.out.below hb bW_2.out.lt)
            have hrx_9 := hide (hrx_2.out.below hb)
            clear hb
            go_wp2_with fail
            refine (Awake_any _).mono ?_
            rintro e wz ⟨rfl, hbz⟩
            have hBz := hide (hB_9.out.trans (hbz.mono hB_9.out.size))
            clear hbz 
            go_wp2
            go_ret
            exact ⟨rfl, hBz.out⟩
  · have he3 : decide (er = 0) = false := decide_eq_false he
    have hd1 : (er != 0) = true := by rw [bne_iff_ne]; exact he
    have bo := bW_1.out
    have b0 : w1.cell? ⟨w.heap.size, 0, none⟩ = some (.slice Q B.qs.length cq) := bo.cell 0
    have b1 : w1.cell? ⟨w.heap.size, 1, none⟩ = some (.slice Wd B.wanted.length cw) := bo.cell 1
    have b2 : w1.cell? ⟨w.heap.size, 2, none⟩ = some (.int .i64 B.lo) := bo.cell 2
    have b3 : w1.cell? ⟨w.heap.size, 3, none⟩ = some (.int .i64 B.hi) := bo.cell 3
    clear bo
    have hnm := hide (hNm.out none 0 0 [] w1 hB_1.out (rdInts_nil _ _) (by decide))
    have hnE : numE B [] = er := by rw [numE, if_pos (by rw [her.out]; exact he), her.out]
    rw [hnE] at hnm
    replace he := hide he
    go_wp2_with fail
    refine hnm.out.mono ?_
    rintro e w2 ⟨rfl, hb⟩
    clear hnm
    clear b0 b1 b2 b3
    have hB_10 := hide (hB_1.out.trans (hb.mono hB_1.out.size))
    have bW_10 := hide (bW_1.out.below hb bW_1.out.lt)
    clear hb
    go_wp2_with fail
    refine (Awake_any _).mono ?_
    rintro e wz ⟨rfl, hbz⟩
    have hBz := hide (hB_10.out.trans (hbz.mono hB_10.out.size))
    clear hbz 
    go_wp2
    go_ret
    exact ⟨rfl, hBz.out⟩
end Go.Proofs.Ytnmgnonbgihalaa
