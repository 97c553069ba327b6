/-
  The law BookHours: what learners pay (made by mklaw.py).
-/
import Derived.Test.YtkmhldjebopljaaQb
import Derived.Test.YtkmhldjebopljaaQf
import Derived.Test.YtkmhldjebopljaaQg
namespace Go.Proofs.Ytkmhldjebopljaa
open Go.RowKit RG

theorem errs_at5 {S : BSch} {es : List BEv} (h : runE S es = 0) {j : Nat} (hj : j < es.length) : (runR S es).1[j]?.getD 0 = errAt S es j := by
  rw [(runR_er h).1, er_at S es hj (Nat.le_refl _)]; rfl
set_option maxRecDepth 100000 in
set_option maxHeartbeats 8000000 in
theorem BookHours_any (v u : Value) (S : BSch) (es : List BEv) (w : World) (h : RdBSch w v S) (hu : IsRow 11 (es.map evCells) u w) :
    Calls Try.prog 8 #[v, u] w fun e w' => e = .returned (.bool true) ∧ Below w.heap.size w w' := by
  have hRun := hide (fun W (hb : Below w.heap.size w W) => Run_k v u S es W (h.below hb) (hu.below hb))
  have hPst := hide (fun W (hb : Below w.heap.size w W) => Postings_k v u S es W (h.below hb) (hu.below hb))
  have hV := hide (fun W (hb : Below w.heap.size w W) => valid_any v S W (h.below hb))
  have hSc := hide (fun W (hb : Below w.heap.size w W) => h.below hb)
  have huW := hide (fun W (hb : Below w.heap.size w W) => hu.below hb)
  obtain ⟨L, C, T, cl, cc, ct, rfl, hR⟩ := h
  have hRW := hide (fun W (hb : Below w.heap.size w W) => hR.below hb)
  clear hR
  obtain ⟨A, ce, rfl, hce, hcm⟩ := evRow_len hu
  have hEW := hide (fun W (hb : Below w.heap.size w W) => (ev_read hu).below hb)
  clear hu
  obtain ⟨W, hW⟩ : ∃ y, w.alloc (.cells (schCells L C T cl cc ct S) 28) = y := ⟨_, rfl⟩
  have kb := hide (show Blk W w.heap.size 28 (schCells L C T cl cc ct S) by rw [← hW]; exact blkNew rfl)
  have hB := hide (show Below w.heap.size w W by rw [← hW]; exact (Below.refl _ _).alloc (Nat.le_refl _) _)
  replace hW := hide hW
  unfold schCells at *
  unfold maxLen at hcm
  obtain ⟨c0, c1, c2, c3, c4, c5, c6⟩ := sch_cells (w := W) (p := w.heap.size) (S := S) kb.out
  go_enter Try.func8, Try.ntmps8
  go_upto_region 1 with fail
  rw [hW.out]
  go_wp2_with fail
  refine (hRun.out _ hB.out).mono ?_
  rintro e w1 ⟨⟨v1, v2, rfl, he, hx⟩, hb⟩
  have heW := hide (fun W' (hb : Below w1.heap.size w1 W') => he.below hb)
  have hxW := hide (fun W' (hb : Below w1.heap.size w1 W') => hx.below hb)
  obtain ⟨Ae, ca, rfl, -, hca⟩ := he
  obtain ⟨A0, q0, A1, q1, A2, q2, A3, q3, rfl, hl, hk, hs, ha⟩ := hx.parts
  have hlW := hide (fun W' (hb : Below w1.heap.size w1 W') => hl.below hb)
  have hkW := hide (fun W' (hb : Below w1.heap.size w1 W') => hk.below hb)
  have hsW := hide (fun W' (hb : Below w1.heap.size w1 W') => hs.below hb)
  have haW := hide (fun W' (hb : Below w1.heap.size w1 W') => ha.below hb)
  clear hl hk hs ha hx
  clear c0 c1 c2 c3 c4 c5 c6
  replace kb := hide (kb.out.below hb kb.out.lt)
  replace hB := hide (hB.out.trans (hb.mono hB.out.size))
  clear hb hRun
  obtain ⟨W2, hW2⟩ : ∃ y, w1.alloc (.cells #[.slice A0 (runR S es).2.les.length q0, .slice A1 (runR S es).2.km.length q1, .slice A2 (runR S es).2.since.length q2, .slice A3 (runR S es).2.acc.length q3] 42) = y := ⟨_, rfl⟩
  have hb12 := hide (show Below w1.heap.size w1 W2 by rw [← hW2]; exact (Below.refl _ _).alloc (Nat.le_refl _) _)
  have kx := hide (show Blk W2 w1.heap.size 42 #[.slice A0 (runR S es).2.les.length q0, .slice A1 (runR S es).2.km.length q1, .slice A2 (runR S es).2.since.length q2, .slice A3 (runR S es).2.acc.length q3] by rw [← hW2]; exact blkNew rfl)
  replace kb := hide (kb.out.below hb12.out kb.out.lt)
  replace hB := hide (hB.out.trans (hb12.out.mono hB.out.size))
  replace hW2 := hide hW2
  obtain ⟨c0, c1, c2, c3, c4, c5, c6⟩ := sch_cells (w := W2) (p := w.heap.size) (S := S) kb.out
  go_upto_region 2 with fail
  rw [hW2.out]
  go_wp2_with fail
  refine (hPst.out W2 hB.out).mono ?_
  rintro e w3 ⟨⟨v3, rfl, hp⟩, hb⟩
  have hpW := hide (fun W' (hb : Below w3.heap.size w3 W') => hp.below hb)
  obtain ⟨Ap, cp, rfl, -, -, -⟩ := hp
  rw [List.length_map] at hpW ⊢
  replace kb := hide (kb.out.below hb kb.out.lt)
  replace kx := hide (kx.out.below hb kx.out.lt)
  replace hB := hide (hB.out.trans (hb.mono hB.out.size))
  have hb13 := hide (hb12.out.trans (hb.mono hb12.out.size))
  clear hb hPst hb12 c0 c1 c2 c3 c4 c5 c6
  by_cases hq : runE S es = 0
  · have ha := after_of hq
    have hev := hide (even_all hq)
    have hhr := hide (hours_all hq)
    have her := hide (runR_er hq)
    have hea := hide (fun (j : Nat) (hj : j < es.length) => errs_at5 hq hj)
    have hSok := hide (sch_ok ha.sch)
    have hles := hide ha.gd.les
    have hkl := ha.gd.lim.les
    have hgdj := hide (fun (j : Nat) (hj : j ≤ es.length) => (bk_gd (sch_gd ha.sch) es (j := j) (by have := ha.few; omega)).1)
    have hrt := hide (fun (i : Nat) (hi : i ≤ es.length) => run_take hq hi)
    have hsh := hide (fun W' (hb : Below w.heap.size w W') (hb1 : Below w1.heap.size w1 W') => shaped_t (hSc.out W' hb) (hxW.out W' hb1) ha.ok.km ha.ok.since ha.ok.accLen ha.ok.les (by have := ha.nl; omega))
    have hnl := ha.nl
    have hfew := ha.few
    rw [hq]
    have hvt := hide (fun W (hb : Below w.heap.size w W) => show Calls Try.prog 33 #[.agg #[.slice L S.learners.length cl, .slice C S.cars.length cc, .int .i64 S.price, .int .i64 S.excess, .int .i64 S.lo, .int .i64 S.hi, .slice T S.terms.length ct]] W fun e w' => e = .returned (.bool true) ∧ Below W.heap.size W w' from by
      have := hV.out W hb
      rwa [ha.sch, show decide ((0 : Int) = 0) = true from rfl] at this)
    have hlen := hide ha.len
    replace ha := hide ha
    rw [hlen.out] at heW ⊢
    clear hV
    obtain ⟨c0, c1, c2, c3, c4, c5, c6⟩ := sch_cells (w := w3) (p := w.heap.size) (S := S) kb.out
    go_wp2_with fail
    refine (hvt.out w3 hB.out).mono ?_
    rintro e w4 ⟨rfl, hb⟩
    have hb4 := hide hb
    replace kb := hide (kb.out.below hb kb.out.lt)
    replace kx := hide (kx.out.below hb kx.out.lt)
    replace hB := hide (hB.out.trans (hb.mono hB.out.size))
    clear hb hvt
    have hb14 := hide (hb13.out.trans (hb4.out.mono hb13.out.size))
    clear c0 c1 c2 c3 c4 c5 c6 hb13
    obtain ⟨c0, c1, c2, c3, c4, c5, c6⟩ := sch_cells (w := w4) (p := w.heap.size) (S := S) kb.out
    have x0 : w4.cell? ⟨w1.heap.size, 0, none⟩ = some (.slice A0 (runR S es).2.les.length q0) := kx.out.cell 0
    have x1 : w4.cell? ⟨w1.heap.size, 1, none⟩ = some (.slice A1 (runR S es).2.km.length q1) := kx.out.cell 1
    have x2 : w4.cell? ⟨w1.heap.size, 2, none⟩ = some (.slice A2 (runR S es).2.since.length q2) := kx.out.cell 2
    have x3 : w4.cell? ⟨w1.heap.size, 3, none⟩ = some (.slice A3 (runR S es).2.acc.length q3) := kx.out.cell 3
    go_wp2_with fail
    refine (hsh.out w4 hB.out hb14.out).mono ?_
    rintro e w5 ⟨rfl, hb⟩
    replace kb := hide (kb.out.below hb kb.out.lt)
    replace kx := hide (kx.out.below hb kx.out.lt)
    replace hB := hide (hB.out.trans (hb.mono hB.out.size))
    have hb15 := hide (hb14.out.trans (hb.mono hb14.out.size))
    have hb34 := hide (hb4.out.trans (hb.mono hb4.out.size))
    clear hb hsh c0 c1 c2 c3 c4 c5 c6 x0 x1 x2 x3
    have x0 : w5.cell? ⟨w1.heap.size, 0, none⟩ = some (.slice A0 (runR S es).2.les.length q0) := kx.out.cell 0
    have c2 : w5.cell? ⟨w.heap.size, 2, none⟩ = some (.int .i64 S.price) := kb.out.cell 2
    have hm200 := hev.out.few
    have hokp := hide hev.out.ok
    clear hev
    obtain ⟨ls, hls⟩ : ∃ l, (runR S es).2.les = l := ⟨_, rfl⟩
    rw [hls] at hles hkl hhr hlW x0
    rw [hls] at kx hxW ⊢
    have hdl := hide (fun i (hi : i ≤ ls.length) => dTo_lim hSok.out hles.out i hi)
    have hfl := hide (fun i (hi : i ≤ es.length) => feeUp_lim hSok.out es i hi)
    have hprice := hSok.out.price
    go_upto_region 9 with fail
    go_loopg [10, 12] ls.length (fun gg s10 s12 wr => ∃ i : Nat, i ≤ ls.length ∧ ls.length ≤ gg + i ∧ s12 = .int .i64 i ∧ s10 = .int .i64 (dTo S ls i) ∧ Hid (Below w5.heap.size w5 wr))
    case atStart => exact ⟨0, Nat.zero_le _, by omega, rfl, rfl, Below.refl _ _⟩
    case round =>
      clear x0 c2
      obtain ⟨i, hi, hgg, rfl, rfl, hBr⟩ := hrel
      have x0 : wr.cell? ⟨w1.heap.size, 0, none⟩ = some (.slice A0 ls.length q0) := (kx.out.below hBr.out kx.out.lt).cell 0
      have hBx := hide (hb15.out.trans (hBr.out.mono hb15.out.size))
      by_cases hlt : i < ls.length
      · have hltz : (i : Int) < (ls.length : Int) := by omega
        have hi0 : (0 : Int) ≤ (i : Int) := by omega
        obtain ⟨gl, ol, rfl, hgl, -, -, -, l3, l4⟩ := les_read (hlW.out wr hBx.out) hlt
        have hst := dTo_step (S := S) hlt
        have hb1 := hdl.out (i + 1) (by omega)
        have hlo := (les_at hles.out hlt).2.2.1
        obtain ⟨d1, hd1⟩ : ∃ z, dTo S ls (i + 1) = z := ⟨_, rfl⟩
        rw [hd1] at hst hb1
        replace hd1 := hide hd1
        unfold dv at hst
        generalize dTo S ls i = d0 at *
        generalize ls[i]?.getD default = l at *
        obtain ⟨ll, lc, lst, lh, lt⟩ := l
        simp only at l3 l4 hst hlo
        by_cases ht : lt = 2 ∨ lt = 3
        · rw [if_pos ht] at hst
          have c2 : wr.cell? ⟨w.heap.size, 2, none⟩ = some (.int .i64 S.price) := (kb.out.below hBr.out kb.out.lt).cell 2
          have hm0 : 0 ≤ lh * S.price ∧ lh * S.price ≤ 40000 := by
            have h1 : lh * S.price ≤ 4 * S.price := Int.mul_le_mul_of_nonneg_right hlo.2 (by omega)
            have h2 : 0 ≤ lh * S.price := Int.mul_nonneg (by omega) (by omega)
            omega
          obtain ⟨mp, hmp⟩ : ∃ z, lh * S.price = z := ⟨_, rfl⟩
          rw [hmp] at hst hm0
          subst hst
          have hw1 : IntKind.i64.wrap (lh * S.price) = mp := by rw [hmp, IntKind.wrap_i64]; omega
          have hw2 : IntKind.i64.wrap (d0 + mp) = d0 + mp := by rw [IntKind.wrap_i64]; omega
          replace hmp := hide hmp
          clear hb1 hm0
          by_cases h2 : lt = 2
          · subst h2
            clear ht
            go_wp2
            go_quiet (fail)
            go_wp2
            go_roundg (ls.length - (i + 1))
            case measure => omega
            case rel => exact ⟨i + 1, by omega, by omega, by go_num, by rw [hd1.out], below_drewN hBr.out _⟩
          · obtain rfl : lt = 3 := by rcases ht with h | h; exact absurd h h2; exact h
            clear ht
            replace h2 := hide h2
            go_wp2
            go_quiet (fail)
            go_wp2
            go_roundg (ls.length - (i + 1))
            case measure => omega
            case rel => exact ⟨i + 1, by omega, by omega, by go_num, by rw [hd1.out], below_drewN hBr.out _⟩
        · rw [if_neg ht, Int.add_zero] at hst
          subst hst
          have t2 : (lt == 2) = false := beq_eq_false_iff_ne.2 fun h => ht (.inl h)
          have t3 : (lt == 3) = false := beq_eq_false_iff_ne.2 fun h => ht (.inr h)
          replace ht := hide ht
          clear hb1
          go_wp2
          go_roundg (ls.length - (i + 1))
          case measure => omega
          case rel => exact ⟨i + 1, by omega, by omega, by go_num, by rw [hd1.out], hBr.out⟩
      · have hltz : ¬ (i : Int) < (ls.length : Int) := by omega
        obtain rfl : i = ls.length := by omega
        have hd0 := hdl.out ls.length (Nat.le_refl _)
        obtain ⟨dS, hdS⟩ : ∃ z, dTo S ls ls.length = z := ⟨_, rfl⟩
        rw [hdS] at hd0 hhr ⊢
        replace hdS := hide hdS
        have hf0 : feeUpTo S es 0 = 0 := rfl
        replace hf0 := hide hf0
        have hwo := hide hBr.out
        generalize wr = wo at *
        go_wp2
        go_loopg [10, 13, 14, 15, 16, 17, 18] es.length (fun gg s10 s13 _ _ _ _ _ wr => ∃ i : Nat, i ≤ es.length ∧ es.length ≤ gg + i ∧ s13 = .int .i64 i ∧ s10 = .int .i64 (dS + feeUpTo S es i) ∧ Hid (Below w5.heap.size w5 wr))
        case atStart => exact ⟨0, Nat.zero_le _, by omega, rfl, by rw [hf0.out, Int.add_zero], hwo.out⟩
        case round =>
          clear hBr hBx hwo x0
          obtain ⟨i, hi, hgi, rfl, rfl, hBr⟩ := hrel
          have hBx := hide (hb15.out.trans (hBr.out.mono hb15.out.size))
          have hBw := hide (hB.out.trans (hBr.out.mono hB.out.size))
          by_cases hlt : i < es.length
          · have hltz : (i : Int) < (es.length : Int) := by omega
            have hi0 : (0 : Int) ≤ (i : Int) := by omega
            obtain ⟨be, oe, rfl, hbe, d0, d1, d2, d3, d4, d5, d6, d7, d8, d9, d10⟩ := ev_row (hEW.out wr hBw.out) hlt
            obtain ⟨ge, oe2, rfl, hge, m0⟩ := int_read (heW.out wr hBx.out) (by rw [hlen.out]; exact hlt)
            rw [hea.out i hlt] at m0
            have hfst : feeUpTo S es (i + 1) = feeUpTo S es i + feeOf S (bk S es i) (es[i]?.getD default) (errAt S es i) := rfl
            have hfb := hfl.out (i + 1) (by omega)
            have hfv := hide (fun h1 h0 => fee_ev hSok.out hlt h1 h0)
            obtain ⟨f1, hf1⟩ : ∃ z, feeUpTo S es (i + 1) = z := ⟨_, rfl⟩
            rw [hf1] at hfst hfb
            replace hf1 := hide hf1
            generalize feeUpTo S es i = f0 at *
            by_cases hcase : (es[i]?.getD default).kind = 1 ∧ errAt S es i = 0
            · obtain ⟨hk1, he0⟩ := hcase
              obtain ⟨⟨jb, hjb, hjl⟩, hh, hah, hstt⟩ := hfv.out hk1 he0
              have hlesat : lesAt (bk S es i) (es[i]?.getD default).booking = (bk S es i).les[jb]?.getD default := by unfold lesAt; rw [hjb, Int.toNat_natCast]
              unfold feeOf at hfst
              rw [if_pos ⟨hk1, he0⟩, hlesat] at hfst
              rw [hlesat] at hh hah hstt
              rw [he0] at m0
              rw [hk1] at d0
              rw [hjb] at d4
              clear d2 d3 d5 d6 d7 d8 d9 d10 hlesat hjb hk1 he0
              generalize (es[i]?.getD default).at_ = xat at *
              obtain ⟨hrt0, hrt1, hrt2⟩ := hrt.out i (by omega)
              have hRT := hide (fun W (hb : Below w.heap.size w W) => Run_k _ _ S (es.take i) W (hSc.out W hb) (by rw [List.map_take]; exact isRow_take (huW.out W hb) (by rw [List.length_map]; omega)))
              rw [hrt0, hrt1, hrt2] at hRT
              have hbl := (hgdj.out i (by omega)).lim.les
              obtain ⟨B, hBd⟩ : ∃ b, bk S es i = b := ⟨_, rfl⟩
              rw [hBd] at hRT hbl hfst hh hah hstt hjl
              have hice : (i : Int) ≤ (ce : Int) := by omega
              have hcce := hide hice
              have hRT2 := hide (fun W (hb : Below wr.heap.size wr W) => (hRT.out W (hBw.out.trans (hb.mono hBw.out.size))).mono (R' := fun e w' => (∃ v, e = .returned v ∧ RunV (er S es i) B v w') ∧ Below W.heap.size W w') (by
                rintro e w' ⟨⟨v1, v2, rfl, h1, h2⟩, h3⟩
                exact ⟨⟨_, rfl, v1, v2, rfl, h1, h2⟩, h3⟩))
              have kbr := hide (kb.out.below hBr.out kb.out.lt)
              clear hRT
              go_wp2
              refine region_vk [IsV (.agg #[.slice L S.learners.length cl, .slice C S.cars.length cc, .int .i64 S.price, .int .i64 S.excess, .int .i64 S.lo, .int .i64 S.hi, .slice T S.terms.length ct]), IsV (.slice (some ⟨be, oe, none⟩) es.length ce), IsV (.int .i64 i), IsV (.slice (some ⟨be, oe, none⟩) i ce), RunV (er S es i) B, RunV (er S es i) B, IsInts (er S es i), IsState B, IsV (.int .i64 0), VarZ (wr.heap.size), IsInts (er S es i), TT, IsV (.int .i64 0)] [TT, TT, TT, TT, TT, TT, TT, TT, TT, VarS (wr.heap.size) B, TT, TT, TT] [(9, 11)] (by kernel_rfl) (by kernel_rfl) (by kernel_rfl) ⟨IsV.stb _, IsV.stb _, IsV.stb _, IsV.stb _, RunV.stb _ _, RunV.stb _ _, Ints.stb _, State.stb _, IsV.stb _, VarZ.stb _, Ints.stb _, TT.stb, IsV.stb _, trivial⟩ ⟨TT.stb, TT.stb, TT.stb, TT.stb, TT.stb, TT.stb, TT.stb, TT.stb, TT.stb, VarS.stb _ _, TT.stb, TT.stb, TT.stb, trivial⟩ ?_ ?_
              · clear hSc huW hEW hRW heW hxW hlW hkW hsW haW hpW hea her hhr hdl hfl hokp hles hlen hgdj hrt hSok kb kx hW hW2 hb14 hb15 hBx hBr hB hf0 hd0 hdS hf1 hfb hfst hh hah hstt hbl hBd m0 d0 d1 d4 hrt0 hrt1 hrt2 hfv hprice hm200 hcm hce
                refine ⟨?_, ?_, ?_, ?_, ?_, ?_, ?_, ?_, ?_, ?_, ?_, ?_, ?_, trivial⟩
                · refine .inr ⟨by kernel_rfl, .inl ⟨?_, fun k hk => absurd (lk1 hk).2 (by decide)⟩⟩
                  · refine one_fr ?_ ?_ ?_
                    · kernel_rfl
                    · left; kernel_rfl
                    intro T y W4 K Q Cv hF hC4 hd hV hK
                    clear hd
                    have t2 := hF.old 2 (.pointer (some ⟨w.heap.size, 0, none⟩)) (by kernel_rfl) (by kernel_rfl)
                    clear hF
                    obtain ⟨c0, c1, c2, c3, c4, c5, c6⟩ := sch_cells (w := W4) (p := w.heap.size) (S := S) (kbr.out.below hC4 kbr.out.lt)
                    go_simp
                    exact hK _ _ (hV _ _ hC4 (Below.refl _ _) rfl)
                · refine .inr ⟨by kernel_rfl, .inl ⟨?_, fun k hk => absurd (lk1 hk).2 (by decide)⟩⟩
                  · refine one_fr ?_ ?_ ?_
                    · kernel_rfl
                    · left; kernel_rfl
                    intro T y W4 K Q Cv hF hC4 hd hV hK
                    clear hd
                    have t1 := hF.old 1 (.slice (some ⟨be, oe, none⟩) es.length ce) (by kernel_rfl) (by kernel_rfl)
                    clear hF
                    go_simp
                    exact hK _ _ (hV _ _ hC4 (Below.refl _ _) rfl)
                · refine .inr ⟨by kernel_rfl, .inl ⟨?_, fun k hk => absurd (lk1 hk).2 (by decide)⟩⟩
                  · refine one_fr ?_ ?_ ?_
                    · kernel_rfl
                    · left; kernel_rfl
                    intro T y W4 K Q Cv hF hC4 hd hV hK
                    clear hd
                    have t13 := hF.old 13 (.int .i64 i) (by kernel_rfl) (by kernel_rfl)
                    clear hF
                    go_simp
                    exact hK _ _ (hV _ _ hC4 (Below.refl _ _) rfl)
                · refine .inr ⟨by kernel_rfl, .inl ⟨?_, fun k hk => absurd (lk1 hk).2 (by decide)⟩⟩
                  · refine one_fr ?_ ?_ ?_
                    · kernel_rfl
                    · left; kernel_rfl
                    intro T y W4 K Q Cv hF hC4 hd hV hK
                    simp [deps, VL, IsV, Region.binds] at hd
                    have t120 := hF.get 1 120 (by kernel_rfl)
                    simp only [hd] at t120
                    have t121 := hF.get 2 121 (by kernel_rfl)
                    simp only [hd] at t121
                    clear hF
                    go_simp
                    exact hK _ _ (hV _ _ hC4 (Below.refl _ _) rfl)
                · refine .inr ⟨by kernel_rfl, .inl ⟨?_, fun k hk => absurd (lk1 hk).2 (by decide)⟩⟩
                  · refine one_fr ?_ ?_ ?_
                    · kernel_rfl
                    · left; kernel_rfl
                    intro T y W4 K Q Cv hF hC4 hd hV hK
                    simp [deps, VL, IsV, Region.binds] at hd
                    have t119 := hF.get 0 119 (by kernel_rfl)
                    simp only [hd] at t119
                    have t122 := hF.get 3 122 (by kernel_rfl)
                    simp only [hd] at t122
                    clear hF
                    have hs := hRT2.out W4 hC4
                    go_simp
                    refine hs.mono ?_
                    rintro e w7 ⟨⟨v, rfl, q1⟩, hb7⟩
                    exact hK _ _ (hV _ _ (hC4.trans (hb7.mono hC4.size)) hb7 q1)
                · refine .inr ⟨by kernel_rfl, .inl ⟨?_, fun k hk => absurd (lk1 hk).2 (by decide)⟩⟩
                  · refine one_fr ?_ ?_ ?_
                    · kernel_rfl
                    · left; kernel_rfl
                    intro T y W4 K Q Cv hF hC4 hd hV hK
                    have p1 : (RunV (er S es i) B) (y 4) W4 := hd.1 rfl
                    have t123 := hF.get 4 123 (by kernel_rfl)
                    rw [Array.getD_eq_getD_getElem?] at t123
                    clear hF hd
                    go_simp
                    exact hK _ _ (hV _ _ hC4 (Below.refl _ _) p1)
                · refine .inr ⟨by kernel_rfl, .inl ⟨?_, fun k hk => absurd (lk1 hk).2 (by decide)⟩⟩
                  · refine one_fr ?_ ?_ ?_
                    · kernel_rfl
                    · left; kernel_rfl
                    intro T y W4 K Q Cv hF hC4 hd hV hK
                    obtain ⟨v1, v2, e4, q1, q2⟩ : (RunV (er S es i) B) (y 5) W4 := hd.1 rfl
                    have t118 := hF.get 5 118 (by kernel_rfl)
                    rw [e4] at t118
                    clear hF hd
                    go_simp
                    exact hK _ _ (hV _ _ hC4 (Below.refl _ _) q1)
                · refine .inr ⟨by kernel_rfl, .inl ⟨?_, fun k hk => absurd (lk1 hk).2 (by decide)⟩⟩
                  · refine one_fr ?_ ?_ ?_
                    · kernel_rfl
                    · left; kernel_rfl
                    intro T y W4 K Q Cv hF hC4 hd hV hK
                    obtain ⟨v1, v2, e4, q1, q2⟩ : (RunV (er S es i) B) (y 5) W4 := hd.1 rfl
                    have t118 := hF.get 5 118 (by kernel_rfl)
                    rw [e4] at t118
                    clear hF hd
                    go_simp
                    exact hK _ _ (hV _ _ hC4 (Below.refl _ _) q2)
                · refine .inr ⟨by kernel_rfl, .inl ⟨?_, fun k hk => absurd (lk1 hk).2 (by decide)⟩⟩
                  · refine one_fr ?_ ?_ ?_
                    · kernel_rfl
                    · left; kernel_rfl
                    intro T y W4 K Q Cv hF hC4 hd hV hK
                    obtain ⟨v1, v2, e4, q1, q2⟩ : (RunV (er S es i) B) (y 5) W4 := hd.1 rfl
                    have t118 := hF.get 5 118 (by kernel_rfl)
                    rw [e4] at t118
                    clear hF hd
                    go_simp
                    exact hK _ _ (hV _ _ hC4 (Below.refl _ _) rfl)
                · refine .inr ⟨by kernel_rfl, .inl ⟨?_, fun k hk => absurd (lk1 hk).2 (by decide)⟩⟩
                  · refine one_fr ?_ ?_ ?_
                    · kernel_rfl
                    · left; kernel_rfl
                    intro T y W4 K Q Cv hF hC4 hd hV hK
                    clear hF hd
                    go_simp
                    exact hK _ _ (hV _ _ (hC4.alloc hC4.size _) ((Below.refl _ _).alloc (Nat.le_refl _) _) ⟨W4.heap.size, rfl, hC4.size, blkNew rfl⟩)
                · refine .inl ⟨9, by kernel_rfl, by decide, ?_, fun k hk => absurd (lk1 hk).2 (by decide)⟩
                  · refine one_fr ?_ ?_ ?_
                    · kernel_rfl
                    · left; kernel_rfl
                    intro T y W4 K Q Cv hF hC4 hd hV hK
                    have p1 : (IsInts (er S es i)) (y 6) W4 := hd.1 rfl
                    have t124 := hF.get 6 124 (by kernel_rfl)
                    rw [Array.getD_eq_getD_getElem?] at t124
                    clear hF hd
                    go_simp
                    exact hK _ _ (hV _ _ hC4 (Below.refl _ _) p1)
                · refine .inr ⟨by kernel_rfl, .inr ⟨fun y u u' => ∃ g vl vk vs va, y 9 = .pointer (some ⟨g, 0, none⟩) ∧ wr.heap.size ≤ g ∧ Blk u g 42 zState ∧ IsState B (.agg #[vl, vk, vs, va]) u ∧ Stored g u u' ∧ Blk u' g 42 #[vl, vk, vs, va], ?_, ?_⟩⟩
                  · refine ones_fr ?_ ?_ ?_
                    · kernel_rfl
                    · kernel_rfl
                    intro T y W4 K Q Cv hF hC4 hd hV hK
                    have hdd := deps_all hd
                    obtain ⟨g, eg, hg, hz⟩ : VarZ (wr.heap.size) (y 9) W4 := hdd 9 (by kernel_rfl)
                    obtain ⟨vl, vk, vs, va, ev, r1, r2, r3, r4⟩ : IsState B (y 7) W4 := hdd 7 (by kernel_rfl)
                    have t15 := hF.get 9 15 (by kernel_rfl)
                    have t125 := hF.get 7 125 (by kernel_rfl)
                    rw [eg] at t15
                    rw [ev] at t125
                    have b0 : W4.cell? ⟨g, 0, none⟩ = some (.slice none 0 0) := hz.cell 0
                    have b1 : W4.cell? ⟨g, 1, none⟩ = some (.slice none 0 0) := hz.cell 1
                    have b2 : W4.cell? ⟨g, 2, none⟩ = some (.slice none 0 0) := hz.cell 2
                    have b3 : W4.cell? ⟨g, 3, none⟩ = some (.slice none 0 0) := hz.cell 3
                    have z0 := hz.frozen 0
                    have z1 := hz.frozen 1
                    have z2 := hz.frozen 2
                    have z3 := hz.frozen 3
                    obtain ⟨k1, k2⟩ := stored_set4 hz vl vk vs va
                    obtain ⟨A0, c0, rfl, -⟩ := id r1
                    rw [List.length_map] at k1 k2 r1 t125
                    obtain ⟨A1, c1, rfl, -⟩ := id r2
                    obtain ⟨A2, c2, rfl, -⟩ := id r3
                    obtain ⟨A3, c3, rfl, -⟩ := id r4
                    clear hF hd hdd
                    go_simp
                    exact hK undef _ (hV undef _ (hC4.trans (k1.below hg)) ⟨g, _, _, _, _, eg, hg, hz, ⟨_, _, _, _, rfl, r1, r2, r3, r4⟩, k1, k2⟩ trivial)
                  · rintro y u u' k b hk - ⟨g, vl, vk, vs, va, eg, hg, hz, hS, k1, k2⟩ hv hb
                    cases b with
                    | true =>
                      match k, hk, hv, hb with
                      | 0, _, _, _ => exact trivial
                      | 1, _, _, _ => exact trivial
                      | 2, _, _, _ => exact trivial
                      | 3, _, _, _ => exact trivial
                      | 4, _, _, _ => exact trivial
                      | 5, _, _, _ => exact trivial
                      | 6, _, _, _ => exact trivial
                      | 7, _, _, _ => exact trivial
                      | 8, _, _, _ => exact trivial
                      | 9, _, _, hb => cases hb rfl
                      | 10, _, _, _ => exact trivial
                      | 11, _, _, _ => exact trivial
                      | 12, _, _, _ => exact trivial
                      | k + 13, _, _, _ => exact trivial
                    | false =>
                      match k, hk, hv, hb with
                      | 0, _, hv, _ => exact (show (IsV (.agg #[.slice L S.learners.length cl, .slice C S.cars.length cc, .int .i64 S.price, .int .i64 S.excess, .int .i64 S.lo, .int .i64 S.hi, .slice T S.terms.length ct])) (y 0) u' from hv)
                      | 1, _, hv, _ => exact (show (IsV (.slice (some ⟨be, oe, none⟩) es.length ce)) (y 1) u' from hv)
                      | 2, _, hv, _ => exact (show (IsV (.int .i64 i)) (y 2) u' from hv)
                      | 3, _, hv, _ => exact (show (IsV (.slice (some ⟨be, oe, none⟩) i ce)) (y 3) u' from hv)
                      | 4, _, hv, _ => exact (show (RunV (er S es i) B) (y 4) u' from ((show (RunV (er S es i) B) (y 4) u from hv).stored k1 hz))
                      | 5, _, hv, _ => exact (show (RunV (er S es i) B) (y 5) u' from ((show (RunV (er S es i) B) (y 5) u from hv).stored k1 hz))
                      | 6, _, hv, _ => exact (show (IsInts (er S es i)) (y 6) u' from ((show (IsInts (er S es i)) (y 6) u from hv).stored k1 hz))
                      | 7, _, hv, _ => exact (show (IsState B) (y 7) u' from ((show (IsState B) (y 7) u from hv).stored k1 hz))
                      | 8, _, hv, _ => exact (show (IsV (.int .i64 0)) (y 8) u' from hv)
                      | 9, _, hv, _ => exact by obtain ⟨g1, e1, h1, _⟩ := (hv : VarZ (wr.heap.size) (y 9) u); rw [eg] at e1; injection e1 with e1; injection e1 with e1; injection e1 with e1; subst e1; exact (show VarS (wr.heap.size) B (y 9) u' from ⟨g, vl, vk, vs, va, eg, hg, k2, hS.stored k1 hz⟩)
                      | 10, _, hv, _ => exact (show (IsInts (er S es i)) (y 10) u' from ((show (IsInts (er S es i)) (y 10) u from hv).stored k1 hz))
                      | 11, hk, _, _ => exact absurd rfl hk
                      | 12, _, hv, _ => exact (show (IsV (.int .i64 0)) (y 12) u' from hv)
                      | k + 13, _, _, _ => cases decide (List.lookup (k + 13) _ = some 11) <;> trivial
                · refine .inl ⟨9, by kernel_rfl, by decide, ?_, fun k hk => absurd (lk1 hk).2 (by decide)⟩
                  · refine one_fr ?_ ?_ ?_
                    · kernel_rfl
                    · left; kernel_rfl
                    intro T y W4 K Q Cv hF hC4 hd hV hK
                    have p1 : (IsV (.int .i64 0)) (y 8) W4 := hd.1 rfl
                    have t126 := hF.get 8 126 (by kernel_rfl)
                    rw [Array.getD_eq_getD_getElem?] at t126
                    clear hF hd
                    go_simp
                    exact hK _ _ (hV _ _ hC4 (Below.refl _ _) p1)
              intro y w' hC4 hE
              have e0 : (IsV (.agg #[.slice L S.learners.length cl, .slice C S.cars.length cc, .int .i64 S.price, .int .i64 S.excess, .int .i64 S.lo, .int .i64 S.hi, .slice T S.terms.length ct])) (y 0) w' := hE 0 (of_decide_eq_true (by kernel_rfl))
              have e1 : (IsV (.slice (some ⟨be, oe, none⟩) es.length ce)) (y 1) w' := hE 1 (of_decide_eq_true (by kernel_rfl))
              have e2 : (IsV (.int .i64 i)) (y 2) w' := hE 2 (of_decide_eq_true (by kernel_rfl))
              have e3 : (IsV (.slice (some ⟨be, oe, none⟩) i ce)) (y 3) w' := hE 3 (of_decide_eq_true (by kernel_rfl))
              have e4 : (RunV (er S es i) B) (y 4) w' := hE 4 (of_decide_eq_true (by kernel_rfl))
              have e5 : (RunV (er S es i) B) (y 5) w' := hE 5 (of_decide_eq_true (by kernel_rfl))
              have e6 : (IsInts (er S es i)) (y 6) w' := hE 6 (of_decide_eq_true (by kernel_rfl))
              have e7 : (IsState B) (y 7) w' := hE 7 (of_decide_eq_true (by kernel_rfl))
              have e8 : (IsV (.int .i64 0)) (y 8) w' := hE 8 (of_decide_eq_true (by kernel_rfl))
              have e9 : (VarS (wr.heap.size) B) (y 9) w' := hE 9 (of_decide_eq_true (by kernel_rfl))
              have e10 : (IsInts (er S es i)) (y 10) w' := hE 10 (of_decide_eq_true (by kernel_rfl))
              have e12 : (IsV (.int .i64 0)) (y 12) w' := hE 12 (of_decide_eq_true (by kernel_rfl))
              clear hE
              obtain ⟨gb, vl, vk, vs, va, e9, hgb, kbf, hst⟩ := e9
              obtain ⟨Ai, ci, e10, -⟩ := e10
              replace e12 : y 12 = .int .i64 0 := e12
              obtain ⟨B0, r0, B1, r1, B2, r2, B3, r3, eqv, hlB, -⟩ := hst.parts
              simp only [Value.agg.injEq, Array.mk.injEq, List.cons.injEq, and_true] at eqv
              obtain ⟨rfl, rfl, rfl, rfl⟩ := eqv
              have hBr6 := hide (hBr.out.trans (hC4.mono hBr.out.size))
              have hBw6 := hide (hBw.out.trans (hC4.mono hBw.out.size))
              replace d1 := (cellB hC4 hbe).trans d1
              replace d4 := (cellB hC4 hbe).trans d4
              have kb6 := hide (kbr.out.below hC4 kbr.out.lt)
              obtain ⟨gm, om, rfl, hgm, -, -, l2, l3, -⟩ := les_read hlB hjl
              generalize B.les[jb]?.getD default = lb at *
              obtain ⟨bln, blc, bls, blh, blt⟩ := lb
              simp only at l2 l3 hfst hh hah hstt
              have f0c : w'.cell? ⟨gb, 0, none⟩ = some (.slice (some ⟨gm, om, none⟩) B.les.length r0) := kbf.cell 0
              have hFee := hide (fun W (hb : Below w'.heap.size w' W) => Fee_any _ S blh (bls - xat) W (hSc.out W (hBw6.out.trans (hb.mono hBw6.out.size))))
              have hsch : (checkB S).2.2 = 0 := ha.out.sch
              have hff : feeF S blh (bls - xat) = (feeB S blh (bls - xat), 0) := by unfold feeF; rw [if_neg (by simp [hsch]), if_pos ⟨inI_iff.2 hh, inI_iff.2 hah⟩]
              rw [hff] at hFee
              replace hff := hide hff
              replace hsch := hide hsch
              have t1 : decide ((jb : Int) < 0) = false := decide_eq_false (by omega)
              have t2 : decide ((B.les.length : Int) ≤ (jb : Int)) = false := decide_eq_false (by omega)
              have hjlz : (jb : Int) < (B.les.length : Int) := by omega
              have hjb0 : (0 : Int) ≤ (jb : Int) := by omega
              have w1w : IntKind.i64.wrap (bls - xat) = bls - xat := by rw [IntKind.wrap_i64]; omega
              obtain ⟨fe, hfe⟩ : ∃ z, feeB S blh (bls - xat) = z := ⟨_, rfl⟩
              rw [hfe] at hFee hfst
              replace hfe := hide hfe
              clear e0 e1 e2 e3 e4 e5 e6 e7 e8 hst hlB hRT2 hcce
              simp only [putAll, Act.put]
              simp only [List.setIfInBounds_toArray, List.set_cons_succ, List.set_cons_zero]
              rw [e9, e10, e12]
              clear e9 e10 e12
              obtain ⟨c0, c1, c2, c3, c4, c5, c6⟩ := sch_cells (w := w') (p := w.heap.size) (S := S) kb6.out
              have hfac := hide (fun W (hb : Below w'.heap.size w' W) => show W.cell? ⟨gb, 0, none⟩ = some (.slice (some ⟨gm, om, none⟩) B.les.length r0) ∧ W.cell? ⟨gm, om + jb * 5 + 3, none⟩ = some (.int .i64 blh) ∧ W.cell? ⟨gm, om + jb * 5 + 2, none⟩ = some (.int .i64 bls) ∧ W.cell? ⟨be, oe + i * 11 + 1, none⟩ = some (.int .i64 xat) from ⟨(cellB hb kbf.lt).trans f0c, (cellB hb hgm).trans l3, (cellB hb hgm).trans l2, (cellB hb (Nat.lt_of_lt_of_le hbe hC4.size)).trans d1⟩)
              go_wp2
              clear c0 c1 c2 c3 c4 c5 c6 f0c l2 l3 d1 d4
              refine region_grow [IsV (.agg #[.slice L S.learners.length cl, .slice C S.cars.length cc, .int .i64 S.price, .int .i64 S.excess, .int .i64 S.lo, .int .i64 S.hi, .slice T S.terms.length ct]), IsV (.pointer (some ⟨gb, 0, none⟩)), IsV (.slice (some ⟨gm, om, none⟩) B.les.length r0), IsV (.int .i64 jb), IsV (.pointer (some ⟨gm, om + jb * 5, none⟩)), IsV (.pointer (some ⟨gm, om + jb * 5 + 3, none⟩)), IsV (.int .i64 blh), IsV (.pointer (some ⟨gb, 0, none⟩)), IsV (.slice (some ⟨gm, om, none⟩) B.les.length r0), IsV (.int .i64 jb), IsV (.pointer (some ⟨gm, om + jb * 5, none⟩)), IsV (.pointer (some ⟨gm, om + jb * 5 + 2, none⟩)), IsV (.int .i64 bls), IsV (.slice (some ⟨be, oe, none⟩) es.length ce), IsV (.int .i64 i), IsV (.pointer (some ⟨be, oe + i * 11, none⟩)), IsV (.pointer (some ⟨be, oe + i * 11 + 1, none⟩)), IsV (.int .i64 xat), IsV (.int .i64 (bls - xat)), IsV (.tuple #[.int .i64 fe, .int .i64 0]), IsV (.tuple #[.int .i64 fe, .int .i64 0]), IsV (.int .i64 fe), IsV (.int .i64 0), IsV (.int .i64 fe), IsV (.int .i64 0)] (by kernel_rfl) (by kernel_rfl) rfl ?_ ?_ ?_
              · simp [AllStb, IsV.stb]
              · refine ⟨?_, ?_, ?_, ?_, ?_, ?_, ?_, ?_, ?_, ?_, ?_, ?_, ?_, ?_, ?_, ?_, ?_, ?_, ?_, ?_, ?_, ?_, ?_, ?_, ?_, trivial⟩
                · refine one_fr ?_ ?_ ?_
                  · kernel_rfl
                  · left; kernel_rfl
                  intro T y W4 K Q Cv hF hC4 hd hV hK
                  clear hd
                  have t2 := hF.old 2 (.pointer (some ⟨w.heap.size, 0, none⟩)) (by kernel_rfl) (by kernel_rfl)
                  clear hF
                  obtain ⟨c0, c1, c2, c3, c4, c5, c6⟩ := sch_cells (w := W4) (p := w.heap.size) (S := S) (kb6.out.below hC4 kb6.out.lt)
                  go_simp
                  exact hK _ _ (hV _ _ hC4 (Below.refl _ _) rfl)
                · refine one_fr ?_ ?_ ?_
                  · kernel_rfl
                  · left; kernel_rfl
                  intro T y W4 K Q Cv hF hC4 hd hV hK
                  clear hd
                  have t15 := hF.old 15 (.pointer (some ⟨gb, 0, none⟩)) (by kernel_rfl) (by kernel_rfl)
                  clear hF
                  go_simp
                  exact hK _ _ (hV _ _ hC4 (Below.refl _ _) rfl)
                · refine one_fr ?_ ?_ ?_
                  · kernel_rfl
                  · left; kernel_rfl
                  intro T y W4 K Q Cv hF hC4 hd hV hK
                  simp [deps, VL, IsV, Region.binds] at hd
                  have t147 := hF.get 1 147 (by kernel_rfl)
                  simp only [hd] at t147
                  clear hF
                  have f := hfac.out W4 hC4
                  have a0 := f.1
                  clear f
                  go_simp
                  exact hK _ _ (hV _ _ hC4 (Below.refl _ _) rfl)
                · refine one_fr ?_ ?_ ?_
                  · kernel_rfl
                  · left; kernel_rfl
                  intro T y W4 K Q Cv hF hC4 hd hV hK
                  clear hd
                  have t17 := hF.old 17 (.int .i64 jb) (by kernel_rfl) (by kernel_rfl)
                  clear hF
                  go_simp
                  exact hK _ _ (hV _ _ hC4 (Below.refl _ _) rfl)
                · refine one_fr ?_ ?_ ?_
                  · kernel_rfl
                  · left; kernel_rfl
                  intro T y W4 K Q Cv hF hC4 hd hV hK
                  simp [deps, VL, IsV, Region.binds] at hd
                  have t148 := hF.get 2 148 (by kernel_rfl)
                  simp only [hd] at t148
                  have t149 := hF.get 3 149 (by kernel_rfl)
                  simp only [hd] at t149
                  clear hF
                  go_simp
                  exact hK _ _ (hV _ _ hC4 (Below.refl _ _) rfl)
                · refine one_fr ?_ ?_ ?_
                  · kernel_rfl
                  · left; kernel_rfl
                  intro T y W4 K Q Cv hF hC4 hd hV hK
                  simp [deps, VL, IsV, Region.binds] at hd
                  have t150 := hF.get 4 150 (by kernel_rfl)
                  simp only [hd] at t150
                  clear hF
                  go_simp
                  exact hK _ _ (hV _ _ hC4 (Below.refl _ _) rfl)
                · refine one_fr ?_ ?_ ?_
                  · kernel_rfl
                  · left; kernel_rfl
                  intro T y W4 K Q Cv hF hC4 hd hV hK
                  simp [deps, VL, IsV, Region.binds] at hd
                  have t151 := hF.get 5 151 (by kernel_rfl)
                  simp only [hd] at t151
                  clear hF
                  have f := hfac.out W4 hC4
                  have a0 := f.2.1
                  clear f
                  go_simp
                  exact hK _ _ (hV _ _ hC4 (Below.refl _ _) rfl)
                · refine one_fr ?_ ?_ ?_
                  · kernel_rfl
                  · left; kernel_rfl
                  intro T y W4 K Q Cv hF hC4 hd hV hK
                  clear hd
                  have t15 := hF.old 15 (.pointer (some ⟨gb, 0, none⟩)) (by kernel_rfl) (by kernel_rfl)
                  clear hF
                  go_simp
                  exact hK _ _ (hV _ _ hC4 (Below.refl _ _) rfl)
                · refine one_fr ?_ ?_ ?_
                  · kernel_rfl
                  · left; kernel_rfl
                  intro T y W4 K Q Cv hF hC4 hd hV hK
                  simp [deps, VL, IsV, Region.binds] at hd
                  have t153 := hF.get 7 153 (by kernel_rfl)
                  simp only [hd] at t153
                  clear hF
                  have f := hfac.out W4 hC4
                  have a0 := f.1
                  clear f
                  go_simp
                  exact hK _ _ (hV _ _ hC4 (Below.refl _ _) rfl)
                · refine one_fr ?_ ?_ ?_
                  · kernel_rfl
                  · left; kernel_rfl
                  intro T y W4 K Q Cv hF hC4 hd hV hK
                  clear hd
                  have t17 := hF.old 17 (.int .i64 jb) (by kernel_rfl) (by kernel_rfl)
                  clear hF
                  go_simp
                  exact hK _ _ (hV _ _ hC4 (Below.refl _ _) rfl)
                · refine one_fr ?_ ?_ ?_
                  · kernel_rfl
                  · left; kernel_rfl
                  intro T y W4 K Q Cv hF hC4 hd hV hK
                  simp [deps, VL, IsV, Region.binds] at hd
                  have t154 := hF.get 8 154 (by kernel_rfl)
                  simp only [hd] at t154
                  have t155 := hF.get 9 155 (by kernel_rfl)
                  simp only [hd] at t155
                  clear hF
                  go_simp
                  exact hK _ _ (hV _ _ hC4 (Below.refl _ _) rfl)
                · refine one_fr ?_ ?_ ?_
                  · kernel_rfl
                  · left; kernel_rfl
                  intro T y W4 K Q Cv hF hC4 hd hV hK
                  simp [deps, VL, IsV, Region.binds] at hd
                  have t156 := hF.get 10 156 (by kernel_rfl)
                  simp only [hd] at t156
                  clear hF
                  go_simp
                  exact hK _ _ (hV _ _ hC4 (Below.refl _ _) rfl)
                · refine one_fr ?_ ?_ ?_
                  · kernel_rfl
                  · left; kernel_rfl
                  intro T y W4 K Q Cv hF hC4 hd hV hK
                  simp [deps, VL, IsV, Region.binds] at hd
                  have t157 := hF.get 11 157 (by kernel_rfl)
                  simp only [hd] at t157
                  clear hF
                  have f := hfac.out W4 hC4
                  have a0 := f.2.2.1
                  clear f
                  go_simp
                  exact hK _ _ (hV _ _ hC4 (Below.refl _ _) rfl)
                · refine one_fr ?_ ?_ ?_
                  · kernel_rfl
                  · left; kernel_rfl
                  intro T y W4 K Q Cv hF hC4 hd hV hK
                  clear hd
                  have t1 := hF.old 1 (.slice (some ⟨be, oe, none⟩) es.length ce) (by kernel_rfl) (by kernel_rfl)
                  clear hF
                  go_simp
                  exact hK _ _ (hV _ _ hC4 (Below.refl _ _) rfl)
                · refine one_fr ?_ ?_ ?_
                  · kernel_rfl
                  · left; kernel_rfl
                  intro T y W4 K Q Cv hF hC4 hd hV hK
                  clear hd
                  have t13 := hF.old 13 (.int .i64 i) (by kernel_rfl) (by kernel_rfl)
                  clear hF
                  go_simp
                  exact hK _ _ (hV _ _ hC4 (Below.refl _ _) rfl)
                · refine one_fr ?_ ?_ ?_
                  · kernel_rfl
                  · left; kernel_rfl
                  intro T y W4 K Q Cv hF hC4 hd hV hK
                  simp [deps, VL, IsV, Region.binds] at hd
                  have t159 := hF.get 13 159 (by kernel_rfl)
                  simp only [hd] at t159
                  have t160 := hF.get 14 160 (by kernel_rfl)
                  simp only [hd] at t160
                  clear hF
                  go_simp
                  exact hK _ _ (hV _ _ hC4 (Below.refl _ _) rfl)
                · refine one_fr ?_ ?_ ?_
                  · kernel_rfl
                  · left; kernel_rfl
                  intro T y W4 K Q Cv hF hC4 hd hV hK
                  simp [deps, VL, IsV, Region.binds] at hd
                  have t161 := hF.get 15 161 (by kernel_rfl)
                  simp only [hd] at t161
                  clear hF
                  go_simp
                  exact hK _ _ (hV _ _ hC4 (Below.refl _ _) rfl)
                · refine one_fr ?_ ?_ ?_
                  · kernel_rfl
                  · left; kernel_rfl
                  intro T y W4 K Q Cv hF hC4 hd hV hK
                  simp [deps, VL, IsV, Region.binds] at hd
                  have t162 := hF.get 16 162 (by kernel_rfl)
                  simp only [hd] at t162
                  clear hF
                  have f := hfac.out W4 hC4
                  have a0 := f.2.2.2
                  clear f
                  go_simp
                  exact hK _ _ (hV _ _ hC4 (Below.refl _ _) rfl)
                · refine one_fr ?_ ?_ ?_
                  · kernel_rfl
                  · left; kernel_rfl
                  intro T y W4 K Q Cv hF hC4 hd hV hK
                  simp [deps, VL, IsV, Region.binds] at hd
                  have t158 := hF.get 12 158 (by kernel_rfl)
                  simp only [hd] at t158
                  have t163 := hF.get 17 163 (by kernel_rfl)
                  simp only [hd] at t163
                  clear hF
                  go_simp
                  exact hK _ _ (hV _ _ hC4 (Below.refl _ _) rfl)
                · refine one_fr ?_ ?_ ?_
                  · kernel_rfl
                  · left; kernel_rfl
                  intro T y W4 K Q Cv hF hC4 hd hV hK
                  simp [deps, VL, IsV, Region.binds] at hd
                  have t146 := hF.get 0 146 (by kernel_rfl)
                  simp only [hd] at t146
                  have t152 := hF.get 6 152 (by kernel_rfl)
                  simp only [hd] at t152
                  have t164 := hF.get 18 164 (by kernel_rfl)
                  simp only [hd] at t164
                  clear hF
                  have hs := hFee.out W4 hC4
                  go_simp
                  refine hs.mono ?_
                  rintro e w7 ⟨rfl, hb7⟩
                  exact hK _ _ (hV _ _ (hC4.trans (hb7.mono hC4.size)) hb7 rfl)
                · refine one_fr ?_ ?_ ?_
                  · kernel_rfl
                  · left; kernel_rfl
                  intro T y W4 K Q Cv hF hC4 hd hV hK
                  simp [deps, VL, IsV, Region.binds] at hd
                  have t165 := hF.get 19 165 (by kernel_rfl)
                  simp only [hd] at t165
                  clear hF
                  go_simp
                  exact hK _ _ (hV _ _ hC4 (Below.refl _ _) rfl)
                · refine one_fr ?_ ?_ ?_
                  · kernel_rfl
                  · left; kernel_rfl
                  intro T y W4 K Q Cv hF hC4 hd hV hK
                  simp [deps, VL, IsV, Region.binds] at hd
                  have t145 := hF.get 20 145 (by kernel_rfl)
                  simp only [hd] at t145
                  clear hF
                  go_simp
                  exact hK _ _ (hV _ _ hC4 (Below.refl _ _) rfl)
                · refine one_fr ?_ ?_ ?_
                  · kernel_rfl
                  · left; kernel_rfl
                  intro T y W4 K Q Cv hF hC4 hd hV hK
                  simp [deps, VL, IsV, Region.binds] at hd
                  have t145 := hF.get 20 145 (by kernel_rfl)
                  simp only [hd] at t145
                  clear hF
                  go_simp
                  exact hK _ _ (hV _ _ hC4 (Below.refl _ _) rfl)
                · refine one_fr ?_ ?_ ?_
                  · kernel_rfl
                  · left; kernel_rfl
                  intro T y W4 K Q Cv hF hC4 hd hV hK
                  simp [deps, VL, IsV, Region.binds] at hd
                  have t166 := hF.get 21 166 (by kernel_rfl)
                  simp only [hd] at t166
                  clear hF
                  go_simp
                  exact hK _ _ (hV _ _ hC4 (Below.refl _ _) rfl)
                · refine one_fr ?_ ?_ ?_
                  · kernel_rfl
                  · left; kernel_rfl
                  intro T y W4 K Q Cv hF hC4 hd hV hK
                  simp [deps, VL, IsV, Region.binds] at hd
                  have t167 := hF.get 22 167 (by kernel_rfl)
                  simp only [hd] at t167
                  clear hF
                  go_simp
                  exact hK _ _ (hV _ _ hC4 (Below.refl _ _) rfl)
              intro y w8 hC8 hd
              simp [EndsL, IsV] at hd
              obtain ⟨d0, d1, d2, d3, d4, d5, d6, d7, d8, d9, d10, d11, d12, d13, d14, d15, d16, d17, d18, d19, d20, d21, d22, d23, d24⟩ := hd
              simp only [putAll, Act.put]
              rw [d23, d24]
              simp only [List.setIfInBounds_toArray, List.set_cons_succ, List.set_cons_zero]
              have hBr8 := hide (hBr6.out.trans (hC8.mono hBr6.out.size))
              clear hC8 hFee d0 d1 d2 d3 d4 d5 d6 d7 d8 d9 d10 d11 d12 d13 d14 d15 d16 d17 d18 d19 d20 d21 d22 d23 d24
              subst hfst
              have hw2 : IntKind.i64.wrap (dS + f0 + fe) = dS + f0 + fe := by have := hd0; rw [IntKind.wrap_i64]; omega
              go_wp2
              go_roundg (es.length - (i + 1))
              case measure => omega
              case rel => exact ⟨i + 1, by omega, by omega, by go_num, by rw [hf1.out, Int.add_assoc], hBr8.out⟩
            · have hz : feeOf S (bk S es i) (es[i]?.getD default) (errAt S es i) = 0 := by unfold feeOf; rw [if_neg hcase]
              rw [hz, Int.add_zero] at hfst
              subst hfst
              replace hz := hide hz
              clear hfv hfb d1 d2 d3 d4 d5 d6 d7 d8 d9 d10
              by_cases hk1 : (es[i]?.getD default).kind = 1
              · have b1 : (errAt S es i != 0) = true := bne_iff_ne.2 fun h => hcase ⟨hk1, h⟩
                rw [hk1] at d0
                replace hcase := hide hcase
                replace hk1 := hide hk1
                generalize errAt S es i = er0 at *
                go_wp2
                go_roundg (es.length - (i + 1))
                case measure => omega
                case rel => exact ⟨i + 1, by omega, by omega, by go_num, by rw [hf1.out], hBr.out⟩
              · have b1 : ((es[i]?.getD default).kind != 1) = true := bne_iff_ne.2 hk1
                replace hcase := hide hcase
                replace hk1 := hide hk1
                generalize (es[i]?.getD default).kind = kk at *
                go_wp2
                go_roundg (es.length - (i + 1))
                case measure => omega
                case rel => exact ⟨i + 1, by omega, by omega, by go_num, by rw [hf1.out], hBr.out⟩
          · have hltz : ¬ (i : Int) < (es.length : Int) := by omega
            obtain rfl : i = es.length := by omega
            have hfin := hfl.out es.length (Nat.le_refl _)
            obtain ⟨hpd, hpt⟩ := hhr.out
            obtain ⟨want, hwant⟩ : ∃ z, dS + feeUpTo S es es.length = z := ⟨_, rfl⟩
            rw [hwant] at hpd ⊢
            have hwb : 0 ≤ want ∧ want ≤ 100000000 := by omega
            replace hwant := hide hwant
            have hpl := hide (pTo_lim (nl := S.learners.length) (ps := (runR S es).2.pst) (fun p hp => ⟨(hokp.out p hp).1.2.2.2, (hokp.out p hp).2.2⟩))
            have hp0 : pTo S.learners.length (runR S es).2.pst 0 = 0 := rfl
            replace hp0 := hide hp0
            replace hpt := hide hpt
            have hBr0 := hide hBr.out
            have hb45 := hide (show Below w3.heap.size w3 w5 from hb34.out)
            generalize wr = wo2 at *
            go_wp2
            go_loopg [11, 19] (runR S es).2.pst.length (fun gg s11 s19 wr => ∃ i : Nat, i ≤ (runR S es).2.pst.length ∧ (runR S es).2.pst.length ≤ gg + i ∧ s19 = .int .i64 i ∧ s11 = .int .i64 (pTo S.learners.length (runR S es).2.pst i) ∧ Hid (Below w5.heap.size w5 wr))
            case atStart => exact ⟨0, Nat.zero_le _, by omega, rfl, by rw [hp0.out], hBr0.out⟩
            case round =>
              clear hBr hBr0 hBx hBw
              obtain ⟨i, hi, hgi, rfl, rfl, hBr⟩ := hrel
              have hBw := hide (hB.out.trans (hBr.out.mono hB.out.size))
              have hBp := hide (hb34.out.trans (hBr.out.mono hb34.out.size))
              by_cases hlt : i < (runR S es).2.pst.length
              · have hltz : (i : Int) < ((runR S es).2.pst.length : Int) := by omega
                have hi0 : (0 : Int) ≤ (i : Int) := by omega
                obtain ⟨gp, op, p, rfl, hgp, hpk, p0, p1, p2, p3⟩ := pst_read (hpW.out wr hBp.out) hlt
                have hmem : p ∈ (runR S es).2.pst := List.mem_of_getElem? hpk
                obtain ⟨⟨⟨o1, o2⟩, ⟨o3, o4⟩, o5, o6⟩, ⟨o7, o8⟩, o9⟩ := hokp.out p hmem
                have hst := pTo_step (nl := S.learners.length) hpk
                have hlm := hpl.out (i + 1) (by omega)
                have hto := hpt.out p hmem
                obtain ⟨s1, hs1⟩ : ∃ z, pTo S.learners.length (runR S es).2.pst (i + 1) = z := ⟨_, rfl⟩
                rw [hs1] at hst hlm
                replace hs1 := hide hs1
                replace hpk := hide hpk
                generalize pTo S.learners.length (runR S es).2.pst i = s0 at *
                obtain ⟨pe, pf, pt, pc⟩ := p
                simp only at *
                have c0 : wr.cell? ⟨w.heap.size, 0, none⟩ = some (.slice L S.learners.length cl) := (kb.out.below hBr.out kb.out.lt).cell 0
                have t1 : decide ((0 : Int) ≤ pf) = true := decide_eq_true o1
                clear o2 o3 o4 o5 p0
                by_cases hf : pf < (S.learners.length : Int)
                · have t2 : decide (pf < (S.learners.length : Int)) = true := decide_eq_true hf
                  have t3 : (pt != (S.learners.length : Int)) = false := by rw [hto hf]; simp
                  rw [if_pos hf] at hst
                  subst hst
                  have hw1 : IntKind.i64.wrap (s0 + pc) = s0 + pc := by rw [IntKind.wrap_i64]; omega
                  replace hto := hide hto
                  replace hf := hide hf
                  clear hlm
                  go_wp2
                  go_quiet (fail)
                  have hbn := below_drewN (Below.refl wr.heap.size wr) nq
                  replace c0 := (kb.out.below (hBr.out.trans (hbn.mono hBr.out.size)) kb.out.lt).cell 0
                  replace hBr := hide (hBr.out.trans (hbn.mono hBr.out.size))
                  replace p1 := (cellB hbn hgp).trans p1
                  replace p2 := (cellB hbn hgp).trans p2
                  replace p3 := (cellB hbn hgp).trans p3
                  clear hbn t1 t2
                  generalize wr.drewN nq = W6 at *
                  go_wp2
                  go_quiet (fail)
                  have hbn := below_drewN (Below.refl W6.heap.size W6) nq
                  replace hBr := hide (hBr.out.trans (hbn.mono hBr.out.size))
                  replace p3 : (W6.drewN nq).cell? _ = _ := p3
                  clear hbn t3 p1 p2 c0
                  generalize W6.drewN nq = W7 at *
                  go_wp2
                  go_roundg ((runR S es).2.pst.length - (i + 1))
                  case measure => omega
                  case rel => exact ⟨i + 1, by omega, by omega, by go_num, by rw [hs1.out], hBr.out⟩
                · have t2 : decide (pf < (S.learners.length : Int)) = false := decide_eq_false hf
                  rw [if_neg hf, Int.add_zero] at hst
                  subst hst
                  replace hto := hide hto
                  replace hf := hide hf
                  clear hlm
                  go_wp2
                  go_quiet (fail)
                  have hbn := below_drewN (Below.refl wr.heap.size wr) nq
                  replace hBr := hide (hBr.out.trans (hbn.mono hBr.out.size))
                  clear hbn t1 t2 p1 p2 p3 c0
                  generalize wr.drewN nq = W6 at *
                  go_wp2
                  go_roundg ((runR S es).2.pst.length - (i + 1))
                  case measure => omega
                  case rel => exact ⟨i + 1, by omega, by omega, by go_num, by rw [hs1.out], hBr.out⟩
              · have hltz : ¬ (i : Int) < ((runR S es).2.pst.length : Int) := by omega
                obtain rfl : i = (runR S es).2.pst.length := by omega
                rw [hpd]
                have heq : (want == want) = true := by simp
                replace hpd := hide hpd
                go_wp2_with fail
                refine (AwakeB _).mono ?_
                rintro e w8 ⟨rfl, hb⟩
                replace hBw := hide (hBw.out.trans (hb.mono hBw.out.size))
                clear hb
                go_wp2
                go_ret
                exact ⟨rfl, hBw.out⟩
  · have b0 : (runE S es != 0) = true := bne_iff_ne.2 hq
    have hz : (runR S es).1.length = 0 := by rw [runR_err hq]; rfl
    rw [hz]
    generalize runE S es = qe at *
    generalize runR S es = qr at *
    replace hq := hide hq
    replace hz := hide hz
    clear hV hSc huW heW hxW hlW hkW hsW haW hpW
    go_wp2_with fail
    refine (AwakeB _).mono ?_
    rintro e w5 ⟨rfl, hb⟩
    replace hB := hide (hB.out.trans (hb.mono hB.out.size))
    clear hb
    go_wp2
    go_ret
    exact ⟨rfl, hB.out⟩
end Go.Proofs.Ytkmhldjebopljaa
