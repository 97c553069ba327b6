/-
  The law BookOnce: nobody is at two places (made by mklaw.py).
-/
import Derived.Test.YtkmhldjebopljaaQb
import Derived.Test.YtkmhldjebopljaaQd
namespace Go.Proofs.Ytkmhldjebopljaa
open Go.RowKit RG

theorem errs_at3 {S : BSch} {es : List BEv} (h : runE S es = 0) {j : Nat} (hj : j < es.length) : (runR S es).1[j]?.getD 0 = errAt S es j := by
  rw [(runR_er h).1, er_at S es hj (Nat.le_refl _)]; rfl
theorem drives_t {L C T : Option Addr} {cl cc ct : Nat} {S : BSch} {w : World} (h : SchRows w L C T cl cc ct S) (hS : SchGd S) {jc x : Nat} (hj : jc < S.cars.length) (hx : x ≤ 7) (hn : (never S jc).testBit x = false) :
    Calls Try.prog 37 #[.agg (schCells L C T cl cc ct S), .int .i64 jc, .int .i64 x] w fun e w' => e = .returned (.bool true) ∧ Below w.heap.size w w' := by
  have h1 := never_at hS hj
  have h2 := DrivesR_any L C T cl cc ct jc x S w h.cn hj (by rw [h1.1]; omega) hx
  rw [h1.1, Int.toNat_natCast, hn] at h2
  exact h2
set_option maxRecDepth 100000 in
set_option maxHeartbeats 8000000 in
theorem BookOnce_any (v u : Value) (S : BSch) (es : List BEv) (w : World) (h : RdBSch w v S) (hu : IsRow 11 (es.map evCells) u w) :
    Calls Try.prog 10 #[v, u] w fun e w' => e = .returned (.bool true) ∧ Below w.heap.size w w' := by
  have hRun := hide (fun W (hb : Below w.heap.size w W) => Run_k v u S es W (h.below hb) (hu.below hb))
  have hPst := hide (fun W (hb : Below w.heap.size w W) => Postings_k v u S es W (h.below hb) (hu.below hb))
  have hV := hide (fun W (hb : Below w.heap.size w W) => valid_any v S W (h.below hb))
  have hSc := hide (fun W (hb : Below w.heap.size w W) => h.below hb)
  have huW := hide (fun W (hb : Below w.heap.size w W) => hu.below hb)
  obtain ⟨L, C, T, cl, cc, ct, rfl, hR⟩ := h
  have hRW := hide (fun W (hb : Below w.heap.size w W) => hR.below hb)
  clear hR
  obtain ⟨A, ce, rfl, hce, hcm⟩ := evRow_len hu
  have hEW := hide (fun W (hb : Below w.heap.size w W) => (ev_read hu).below hb)
  clear hu
  obtain ⟨W, hW⟩ : ∃ y, w.alloc (.cells (schCells L C T cl cc ct S) 28) = y := ⟨_, rfl⟩
  have kb := hide (show Blk W w.heap.size 28 (schCells L C T cl cc ct S) by rw [← hW]; exact blkNew rfl)
  have hB := hide (show Below w.heap.size w W by rw [← hW]; exact (Below.refl _ _).alloc (Nat.le_refl _) _)
  replace hW := hide hW
  unfold schCells at *
  unfold maxLen at hcm
  clear hPst
  obtain ⟨c0, c1, c2, c3, c4, c5, c6⟩ := sch_cells (w := W) (p := w.heap.size) (S := S) kb.out
  go_enter Try.func10, Try.ntmps10
  go_upto_region 1 with fail
  rw [hW.out]
  go_wp2_with fail
  refine (hRun.out _ hB.out).mono ?_
  rintro e w1 ⟨⟨v1, v2, rfl, he, hx⟩, hb⟩
  have heW := hide (fun W' (hb : Below w1.heap.size w1 W') => he.below hb)
  have hxW := hide (fun W' (hb : Below w1.heap.size w1 W') => hx.below hb)
  obtain ⟨Ae, ca, rfl, -, hca⟩ := he
  obtain ⟨A0, q0, A1, q1, A2, q2, A3, q3, rfl, hl, hk, hs, ha⟩ := hx.parts
  have hlW := hide (fun W' (hb : Below w1.heap.size w1 W') => hl.below hb)
  have hkW := hide (fun W' (hb : Below w1.heap.size w1 W') => hk.below hb)
  have hsW := hide (fun W' (hb : Below w1.heap.size w1 W') => hs.below hb)
  have haW := hide (fun W' (hb : Below w1.heap.size w1 W') => ha.below hb)
  clear hl hk hs ha hx
  clear c0 c1 c2 c3 c4 c5 c6
  replace kb := hide (kb.out.below hb kb.out.lt)
  replace hB := hide (hB.out.trans (hb.mono hB.out.size))
  clear hb hRun
  obtain ⟨W2, hW2⟩ : ∃ y, w1.alloc (.cells #[.slice A0 (runR S es).2.les.length q0, .slice A1 (runR S es).2.km.length q1, .slice A2 (runR S es).2.since.length q2, .slice A3 (runR S es).2.acc.length q3] 42) = y := ⟨_, rfl⟩
  have hb12 := hide (show Below w1.heap.size w1 W2 by rw [← hW2]; exact (Below.refl _ _).alloc (Nat.le_refl _) _)
  have kx := hide (show Blk W2 w1.heap.size 42 #[.slice A0 (runR S es).2.les.length q0, .slice A1 (runR S es).2.km.length q1, .slice A2 (runR S es).2.since.length q2, .slice A3 (runR S es).2.acc.length q3] by rw [← hW2]; exact blkNew rfl)
  replace kb := hide (kb.out.below hb12.out kb.out.lt)
  replace hB := hide (hB.out.trans (hb12.out.mono hB.out.size))
  replace hW2 := hide hW2
  by_cases hq : runE S es = 0
  · have ha := after_of hq
    have her := hide (runR_er hq)
    have hea := hide (fun (j : Nat) (hj : j < es.length) => errs_at3 hq hj)
    have hall := hide (once_all hq)
    have hSgd := hide (sch_gd ha.sch)
    have hles := hide ha.gd.les
    have hnc := ha.nc
    have hfew := ha.few
    rw [hq]
    have hvt := hide (fun W (hb : Below w.heap.size w W) => show Calls Try.prog 33 #[.agg #[.slice L S.learners.length cl, .slice C S.cars.length cc, .int .i64 S.price, .int .i64 S.excess, .int .i64 S.lo, .int .i64 S.hi, .slice T S.terms.length ct]] W fun e w' => e = .returned (.bool true) ∧ Below W.heap.size W w' from by
      have := hV.out W hb
      rwa [ha.sch, show decide ((0 : Int) = 0) = true from rfl] at this)
    have hsh := hide (fun W' (hb : Below w.heap.size w W') (hb1 : Below w1.heap.size w1 W') => shaped_t (hSc.out W' hb) (hxW.out W' hb1) ha.ok.km ha.ok.since ha.ok.accLen ha.ok.les (by have := ha.nl; omega))
    have hlen := hide ha.len
    have hkl := hide (show (runR S es).2.les.length ≤ 100 from ha.gd.lim.les)
    clear ha
    rw [hlen.out] at heW ⊢
    clear hV
    go_upto_region 2 with fail
    rw [hW2.out]
    obtain ⟨c0, c1, c2, c3, c4, c5, c6⟩ := sch_cells (w := W2) (p := w.heap.size) (S := S) kb.out
    go_wp2_with fail
    refine (hvt.out W2 hB.out).mono ?_
    rintro e w3 ⟨rfl, hb⟩
    have hb3 := hide hb
    replace kb := hide (kb.out.below hb kb.out.lt)
    replace kx := hide (kx.out.below hb kx.out.lt)
    replace hB := hide (hB.out.trans (hb.mono hB.out.size))
    clear hb hvt
    have hb13 := hide (hb12.out.trans ((hb3.out).mono hb12.out.size))
    clear c0 c1 c2 c3 c4 c5 c6
    obtain ⟨c0, c1, c2, c3, c4, c5, c6⟩ := sch_cells (w := w3) (p := w.heap.size) (S := S) kb.out
    have x0 : w3.cell? ⟨w1.heap.size, 0, none⟩ = some (.slice A0 (runR S es).2.les.length q0) := kx.out.cell 0
    have x1 : w3.cell? ⟨w1.heap.size, 1, none⟩ = some (.slice A1 (runR S es).2.km.length q1) := kx.out.cell 1
    have x2 : w3.cell? ⟨w1.heap.size, 2, none⟩ = some (.slice A2 (runR S es).2.since.length q2) := kx.out.cell 2
    have x3 : w3.cell? ⟨w1.heap.size, 3, none⟩ = some (.slice A3 (runR S es).2.acc.length q3) := kx.out.cell 3
    go_wp2_with fail
    refine (hsh.out w3 hB.out hb13.out).mono ?_
    rintro e w4 ⟨rfl, hb⟩
    replace kb := hide (kb.out.below hb kb.out.lt)
    replace kx := hide (kx.out.below hb kx.out.lt)
    replace hB := hide (hB.out.trans (hb.mono hB.out.size))
    have hb14 := hide (hb13.out.trans (hb.mono hb13.out.size))
    clear hb hsh c0 c1 c2 c3 c4 c5 c6 x0 x1 x2 x3 hb13 hb12
    have htm0 : (bk S es 0).time = 0 := rfl
    replace htm0 := hide htm0
    go_upto_region 8 with fail
    go_loopg [8, 9] es.length (fun gg s8 s9 wr => ∃ j : Nat, j ≤ es.length ∧ es.length ≤ gg + j ∧ s9 = .int .i64 j ∧ s8 = .int .i64 (bk S es j).time ∧ wr = w4)
    case atStart => exact ⟨0, Nat.zero_le _, by omega, rfl, by rw [htm0.out], rfl⟩
    case round =>
      obtain ⟨j, hj, hgg, rfl, rfl, rfl⟩ := hrel
      by_cases hlt : j < es.length
      · have hltz : (j : Int) < (es.length : Int) := by omega
        have hj0 : (0 : Int) ≤ (j : Int) := by omega
        obtain ⟨be, oe, rfl, hbe, -, d1, -, -, -, -, -, -, -, -, -⟩ := ev_row (hEW.out _ hB.out) hlt
        obtain ⟨ge, oe2, rfl, hge, m0⟩ := int_read (heW.out _ hb14.out) (by rw [hlen.out]; exact hlt)
        rw [hea.out j hlt] at m0
        have htm := bk_time S es hlt
        generalize errAt S es j = er at *
        generalize (es[j]?.getD default).at_ = xat at *
        by_cases h0 : er = 0
        · rw [if_pos h0] at htm
          subst h0
          replace htm := hide htm
          go_wp2
          go_roundg (es.length - (j + 1))
          case measure => omega
          case rel => exact ⟨j + 1, by omega, by omega, by go_num, by rw [htm.out], rfl⟩
        · rw [if_neg h0] at htm
          have b0 : (er == 0) = false := beq_eq_false_iff_ne.2 h0
          replace h0 := hide h0
          replace htm := hide htm
          go_wp2
          go_roundg (es.length - (j + 1))
          case measure => omega
          case rel => exact ⟨j + 1, by omega, by omega, by go_num, by rw [htm.out], rfl⟩
      · have hltz : ¬ (j : Int) < (es.length : Int) := by omega
        obtain rfl : j = es.length := by omega
        rw [← her.out.2]
        obtain ⟨tm, htm⟩ : ∃ t, (runR S es).2.time = t := ⟨_, rfl⟩
        rw [htm] at hall ⊢
        replace htm := hide htm
        have hklz := hkl.out
        generalize wr = wo at *
        have hB0 := hide (show Below wo.heap.size wo wo from Below.refl _ _)
        go_wp2
        go_loopg [10, 11, 12, 13, 14, 15] (runR S es).2.les.length (fun gg s10 _ _ _ _ _ wv => ∃ i : Nat, i ≤ (runR S es).2.les.length ∧ (runR S es).2.les.length ≤ gg + i ∧ s10 = .int .i64 i ∧ Hid (Below wo.heap.size wo wv))
        case atStart => exact ⟨0, Nat.zero_le _, by omega, rfl, hB0.out⟩
        case round =>
          obtain ⟨i, hi, hgi, rfl, hBv⟩ := hrel
          generalize wr = wv at *
          have x0 : wv.cell? ⟨w1.heap.size, 0, none⟩ = some (.slice A0 (runR S es).2.les.length q0) := (kx.out.below hBv.out kx.out.lt).cell 0
          by_cases hil : i < (runR S es).2.les.length
          · have hilz : (i : Int) < ((runR S es).2.les.length : Int) := by omega
            have hi0 : (0 : Int) ≤ (i : Int) := by omega
            have hBvx := hide (hb14.out.trans (hBv.out.mono hb14.out.size))
            obtain ⟨gl, ol, rfl, hgl, e0, e1, e2, e3, e4⟩ := les_read (hlW.out wv hBvx.out) hil
            have hlo := les_at hles.out hil
            have hfit := hide (hall.out.fits i hil)
            have hapt := hide (fun k => hall.out.apart i k hil)
            have hdry := hide (fun k => hall.out.dry i k hil)
            unfold atL at hfit hapt hdry
            generalize hla : (runR S es).2.les[i]?.getD default = a at *
            replace hla := hide hla
            obtain ⟨al, ac, as_, ah, at_⟩ := a
            obtain ⟨⟨o1, o2⟩, ⟨o3, o4⟩, ⟨o5, o6⟩, ⟨o7, o8⟩, -⟩ := hlo
            simp only at o1 o2 o3 o4 o5 o6 o7 o8 e0 e1 e2 e3 e4
            obtain ⟨W4, hW4⟩ : ∃ y, wv.alloc (.cells #[.int .i64 al, .int .i64 ac, .int .i64 as_, .int .i64 ah, .int .i64 at_] 63) = y := ⟨_, rfl⟩
            have hB4 := hide (show Below wv.heap.size wv W4 by rw [← hW4]; exact (Below.refl _ _).alloc (Nat.le_refl _) _)
            have ka := hide (show Blk W4 wv.heap.size 63 #[.int .i64 al, .int .i64 ac, .int .i64 as_, .int .i64 ah, .int .i64 at_] by rw [← hW4]; exact blkNew rfl)
            replace hW4 := hide hW4
            have hBr4 := hide (hBv.out.trans (hB4.out.mono hBv.out.size))
            have a4 : W4.cell? ⟨wv.heap.size, 4, none⟩ = some (.int .i64 at_) := ka.out.cell 4
            go_upto_region 16 with fail
            rw [hW4.out]
            clear e0 e1 e2 e3 e4 x0
            by_cases hst : at_ = 0
            · subst hst
              have a2 : W4.cell? ⟨wv.heap.size, 2, none⟩ = some (.int .i64 as_) := ka.out.cell 2
              have a3 : W4.cell? ⟨wv.heap.size, 3, none⟩ = some (.int .i64 ah) := ka.out.cell 3
              have hft := hfit.out rfl
              have hfc := hide (fun W => FitsR_any L C T cl cc ct S as_ ah W (by omega) (by omega))
              unfold fitsB at hft
              simp only at hft
              rw [hft] at hfc
              replace hft := hide hft
              replace kb := hide (kb.out.below hBr4.out kb.out.lt)
              obtain ⟨c0, c1, c2, c3, c4, c5, c6⟩ := sch_cells (w := W4) (p := w.heap.size) (S := S) kb.out
              go_wp2_with fail
              refine (hfc.out W4).mono ?_
              rintro e W5 ⟨rfl, hb⟩
              have hBr5 := hide (hBr4.out.trans (hb.mono hBr4.out.size))
              have hB45 := hide hb
              have ka5 := hide (ka.out.below hb ka.out.lt)
              clear hb hfc c0 c1 c2 c3 c4 c5 c6 a2 a3 a4
              have hBz := hide (show Below W5.heap.size W5 W5 from Below.refl _ _)
              go_wp2
              go_loopg [12, 13] i (fun gg s12 _ wu => ∃ k : Nat, k ≤ i ∧ i ≤ gg + k ∧ s12 = .int .i64 k ∧ Hid (Below W5.heap.size W5 wu))
              case atStart => exact ⟨0, Nat.zero_le _, by omega, rfl, hBz.out⟩
              case round =>
                obtain ⟨k, hk, hgk, rfl, hBu⟩ := hrel
                generalize wr = wu at *
                have hBru := hide (hBr5.out.trans (hBu.out.mono hBr5.out.size))
                have hBux := hide (hb14.out.trans (hBru.out.mono hb14.out.size))
                by_cases hki : k < i
                · have hkiz : (k : Int) < (i : Int) := by omega
                  have hk0 : (0 : Int) ≤ (k : Int) := by omega
                  have x0 : wu.cell? ⟨w1.heap.size, 0, none⟩ = some (.slice (some ⟨gl, ol, none⟩) (runR S es).2.les.length q0) := (kx.out.below hBru.out kx.out.lt).cell 0
                  obtain ⟨gl', ol', el, hgl', e0, e1, e2, e3, e4⟩ := les_read (hlW.out wu hBux.out) (show k < (runR S es).2.les.length by omega)
                  cases el
                  have hlo2 := les_at hles.out (show k < (runR S es).2.les.length by omega)
                  have hap := hapt.out k hki (by trivial)
                  have hklt : (k : Int) < ((runR S es).2.les.length : Int) := by omega
                  generalize hlb : (runR S es).2.les[k]?.getD default = b at *
                  replace hlb := hide hlb
                  obtain ⟨bl, bc, bs, bh, bt⟩ := b
                  obtain ⟨⟨p1, p2⟩, ⟨p3, p4⟩, ⟨p5, p6⟩, ⟨p7, p8⟩, -⟩ := hlo2
                  simp only at p1 p2 p3 p4 p5 p6 p7 p8 e0 e1 e2 e3 e4 hap
                  have har := hide (fun W => ApartR_any ⟨al, ac, as_, ah, 0⟩ ⟨bl, bc, bs, bh, bt⟩ W ⟨by show 0 ≤ as_ ∧ as_ ≤ 24000; omega, by show 0 ≤ ah ∧ ah ≤ 1000; omega⟩ ⟨by show 0 ≤ bs ∧ bs ≤ 24000; omega, by show 0 ≤ bh ∧ bh ≤ 1000; omega⟩)
                  unfold lesCells at har
                  simp only at har
                  obtain ⟨W6, hW6⟩ : ∃ y, wu.alloc (.cells #[.int .i64 bl, .int .i64 bc, .int .i64 bs, .int .i64 bh, .int .i64 bt] 63) = y := ⟨_, rfl⟩
                  have hB6 := hide (show Below wu.heap.size wu W6 by rw [← hW6]; exact (Below.refl _ _).alloc (Nat.le_refl _) _)
                  have kbb := hide (show Blk W6 wu.heap.size 63 #[.int .i64 bl, .int .i64 bc, .int .i64 bs, .int .i64 bh, .int .i64 bt] by rw [← hW6]; exact blkNew rfl)
                  have ka6 := hide ((ka5.out.below hBu.out ka5.out.lt).below hB6.out (ka5.out.below hBu.out ka5.out.lt).lt)
                  replace hW6 := hide hW6
                  have hBu6 := hide (hBu.out.trans (hB6.out.mono hBu.out.size))
                  go_upto_region 23 with fail
                  rw [hW6.out]
                  clear e0 e1 e2 e3 e4 x0 p1 p2 p3 p4 p5 p6 p7 p8
                  have a0 : W6.cell? ⟨wv.heap.size, 0, none⟩ = some (.int .i64 al) := ka6.out.cell 0
                  have a1 : W6.cell? ⟨wv.heap.size, 1, none⟩ = some (.int .i64 ac) := ka6.out.cell 1
                  have a2 : W6.cell? ⟨wv.heap.size, 2, none⟩ = some (.int .i64 as_) := ka6.out.cell 2
                  have a3 : W6.cell? ⟨wv.heap.size, 3, none⟩ = some (.int .i64 ah) := ka6.out.cell 3
                  have a4 : W6.cell? ⟨wv.heap.size, 4, none⟩ = some (.int .i64 0) := ka6.out.cell 4
                  have b0 : W6.cell? ⟨wu.heap.size, 0, none⟩ = some (.int .i64 bl) := kbb.out.cell 0
                  have b1 : W6.cell? ⟨wu.heap.size, 1, none⟩ = some (.int .i64 bc) := kbb.out.cell 1
                  have b2 : W6.cell? ⟨wu.heap.size, 2, none⟩ = some (.int .i64 bs) := kbb.out.cell 2
                  have b3 : W6.cell? ⟨wu.heap.size, 3, none⟩ = some (.int .i64 bh) := kbb.out.cell 3
                  have b4 : W6.cell? ⟨wu.heap.size, 4, none⟩ = some (.int .i64 bt) := kbb.out.cell 4
                  by_cases hbt : bt = 0
                  · subst hbt
                    by_cases hs : al = bl ∨ ac = bc
                    · have h9 := hap rfl hs
                      have h8 : (decide (as_ + ah ≤ bs) || decide (bs + bh ≤ as_)) = true := by
                        rw [Bool.or_eq_true, decide_eq_true_iff, decide_eq_true_iff]; omega
                      rw [h8] at har
                      replace h8 := hide h8
                      replace h9 := hide h9
                      clear hap
                      by_cases hs1 : al = bl
                      · have t1 : (al == bl) = true := by simp [hs1]
                        replace hs1 := hide hs1
                        replace hs := hide hs
                        go_wp2_with fail
                        refine (har.out W6).mono ?_
                        rintro e W7 ⟨rfl, hb⟩
                        have hBu7 := hide (hBu6.out.trans (hb.mono hBu6.out.size))
                        clear hb a0 a1 a2 a3 a4 b0 b1 b2 b3 b4
                        go_wp2
                        go_roundg (i - (k + 1))
                        case measure => omega
                        case rel => exact ⟨k + 1, by omega, by omega, by go_num, hBu7.out⟩
                      · have t1 : (al == bl) = false := beq_eq_false_iff_ne.2 hs1
                        have t2 : (ac == bc) = true := by rcases hs with h | h; exact absurd h hs1; simp [h]
                        replace hs1 := hide hs1
                        replace hs := hide hs
                        go_wp2_with fail
                        refine (har.out W6).mono ?_
                        rintro e W7 ⟨rfl, hb⟩
                        have hBu7 := hide (hBu6.out.trans (hb.mono hBu6.out.size))
                        clear hb a0 a1 a2 a3 a4 b0 b1 b2 b3 b4
                        go_wp2
                        go_roundg (i - (k + 1))
                        case measure => omega
                        case rel => exact ⟨k + 1, by omega, by omega, by go_num, hBu7.out⟩
                    · have t1 : (al == bl) = false := beq_eq_false_iff_ne.2 fun h => hs (.inl h)
                      have t2 : (ac == bc) = false := beq_eq_false_iff_ne.2 fun h => hs (.inr h)
                      replace hs := hide hs
                      clear hap har
                      go_wp2
                      clear a0 a1 a2 a3 a4 b0 b1 b2 b3 b4
                      go_roundg (i - (k + 1))
                      case measure => omega
                      case rel => exact ⟨k + 1, by omega, by omega, by go_num, hBu6.out⟩
                  · have t1 : (bt == 0) = false := beq_eq_false_iff_ne.2 hbt
                    replace hbt := hide hbt
                    clear hap har
                    go_wp2
                    clear a0 a1 a2 a3 a4 b0 b1 b2 b3 b4
                    go_roundg (i - (k + 1))
                    case measure => omega
                    case rel => exact ⟨k + 1, by omega, by omega, by go_num, hBu6.out⟩
                · have hkiz : ¬ (k : Int) < (i : Int) := by omega
                  have hBy := hide (show Below wu.heap.size wu wu from Below.refl _ _)
                  have ka6 := hide (ka5.out.below hBu.out ka5.out.lt)
                  go_wp2
                  go_loopg [14, 15] es.length (fun gg s14 _ wy => ∃ k : Nat, k ≤ es.length ∧ es.length ≤ gg + k ∧ s14 = .int .i64 k ∧ Hid (Below wu.heap.size wu wy))
                  case atStart => exact ⟨0, Nat.zero_le _, by omega, rfl, hBy.out⟩
                  case round =>
                    obtain ⟨y, hy, hgy, rfl, hBy⟩ := hrel
                    generalize wr = wy at *
                    have hBx4 := hide (show Below W4.heap.size W4 wy from hB45.out.trans ((hBu.out.trans (hBy.out.mono hBu.out.size)).mono hB45.out.size))
                    have hBry := hide (hBru.out.trans (hBy.out.mono hBru.out.size))
                    have hBwy := hide (hB.out.trans (hBry.out.mono hB.out.size))
                    have hBxy := hide (hb14.out.trans (hBry.out.mono hb14.out.size))
                    by_cases hye : y < es.length
                    · have hyez : (y : Int) < (es.length : Int) := by omega
                      have hy0 : (0 : Int) ≤ (y : Int) := by omega
                      obtain ⟨be, oe, rfl, hbe, d0, d1, d2, d3, d4, d5, d6, d7, d8, d9, d10⟩ := ev_row (hEW.out wy hBwy.out) hye
                      obtain ⟨ge, oe2, rfl, hge, m0⟩ := int_read (heW.out wy hBxy.out) (by rw [hlen.out]; exact hye)
                      rw [hea.out y hye] at m0
                      have hdr := hdry.out y hye (by trivial)
                      generalize hxe : es[y]?.getD default = x at *
                      replace hxe := hide hxe
                      obtain ⟨W6, hW6⟩ : ∃ z, wy.alloc (.cells (evCells x).toArray 65) = z := ⟨_, rfl⟩
                      have hB6 := hide (show Below wy.heap.size wy W6 by rw [← hW6]; exact (Below.refl _ _).alloc (Nat.le_refl _) _)
                      have ky := hide (show Blk W6 wy.heap.size 65 (evCells x).toArray by rw [← hW6]; exact blkNew rfl)
                      have ka7 := hide ((ka6.out.below hBy.out ka6.out.lt).below hB6.out (ka6.out.below hBy.out ka6.out.lt).lt)
                      have kb6 := hide (kb.out.below ((show Below W4.heap.size W4 W6 from (hBx4.out.trans (hB6.out.mono hBx4.out.size)))) kb.out.lt)
                      have hBy6 := hide (hBy.out.trans (hB6.out.mono hBy.out.size))
                      have m1 := (cellB hB6.out hge).trans m0
                      have hRW6 := hide (hRW.out W6 (hBwy.out.trans (hB6.out.mono hBwy.out.size)))
                      clear m0
                      obtain ⟨k0, k1, k2, k3, k4, k5, k6, k7, k8, k9, k10⟩ := ev_cells ky.out
                      obtain ⟨xkind, xat, xlearner, xcar, xbooking, xstart, xhours, xday, xweather, xkm, xcents⟩ := x
                      unfold evCells at *
                      simp only at *
                      replace hW6 := hide hW6
                      generalize errAt S es y = er at *
                      clear k1 k2 k3 k4 k5 k6 k9 k10
                      go_upto_region 29 with fail
                      rw [hW6.out]
                      clear d0 d1 d2 d3 d4 d5 d6 d7 d8 d9 d10
                      have a1 : W6.cell? ⟨wv.heap.size, 1, none⟩ = some (.int .i64 ac) := ka7.out.cell 1
                      have a2 : W6.cell? ⟨wv.heap.size, 2, none⟩ = some (.int .i64 as_) := ka7.out.cell 2
                      have hqd : as_.tdiv 24 = as_ / 24 := Int.tdiv_eq_ediv_of_nonneg (by omega)
                      obtain ⟨qd, hqq⟩ : ∃ z, as_ / 24 = z := ⟨_, rfl⟩
                      have hqw : IntKind.i64.wrap qd = qd := by rw [IntKind.wrap_i64]; omega
                      rw [hqq] at hqd hdr
                      replace hqq := hide hqq
                      by_cases he0 : er = 0
                      · subst he0
                        by_cases hk2 : xkind = 2
                        · subst hk2
                          by_cases hday : xday = qd
                          · subst hday
                            by_cases htl : tm < as_
                            · obtain ⟨⟨hw0, hw7⟩, hnt⟩ := hdr (by trivial) (by trivial) (by trivial) htl
                              obtain ⟨jc, rfl⟩ : ∃ jc : Nat, ac = (jc : Int) := ⟨ac.toNat, by omega⟩
                              obtain ⟨jw, rfl⟩ : ∃ jw : Nat, xweather = (jw : Int) := ⟨xweather.toNat, by omega⟩
                              rw [Int.toNat_natCast] at hnt
                              have hdc := hide (drives_t (L := L) (C := C) (T := T) (cl := cl) (cc := cc) (ct := ct) hRW6.out hSgd.out (jc := jc) (x := jw) (by omega) (by omega) hnt)
                              unfold schCells at hdc
                              have t1 : decide (tm < as_) = true := decide_eq_true htl
                              have t2 : decide ((jw : Int) < 0) = false := decide_eq_false (by omega)
                              have t3 : decide ((8 : Int) ≤ (jw : Int)) = false := decide_eq_false (by omega)
                              obtain ⟨c0, c1, c2, c3, c4, c5, c6⟩ := sch_cells (w := W6) (p := w.heap.size) (S := S) kb6.out
                              clear hdr
                              replace hnt := hide hnt
                              go_wp2_with fail
                              refine hdc.out.mono ?_
                              rintro e W7 ⟨rfl, hb⟩
                              have hBy7 := hide (hBy6.out.trans (hb.mono hBy6.out.size))
                              clear hb c0 c1 c2 c3 c4 c5 c6 a1 a2 k0 k7 k8 m1
                              go_wp2
                              go_roundg (es.length - (y + 1))
                              case measure => omega
                              case rel => exact ⟨y + 1, by omega, by omega, by go_num, hBy7.out⟩
                            · have t1 : decide (tm < as_) = false := decide_eq_false htl
                              replace htl := hide htl
                              clear hdr
                              go_wp2
                              go_roundg (es.length - (y + 1))
                              case measure => omega
                              case rel => exact ⟨y + 1, by omega, by omega, by go_num, hBy6.out⟩
                          · have t1 : (xday == qd) = false := beq_eq_false_iff_ne.2 hday
                            replace hday := hide hday
                            clear hdr
                            go_wp2
                            go_roundg (es.length - (y + 1))
                            case measure => omega
                            case rel => exact ⟨y + 1, by omega, by omega, by go_num, hBy6.out⟩
                        · have t1 : (xkind == 2) = false := beq_eq_false_iff_ne.2 hk2
                          replace hk2 := hide hk2
                          clear hdr
                          go_wp2
                          go_roundg (es.length - (y + 1))
                          case measure => omega
                          case rel => exact ⟨y + 1, by omega, by omega, by go_num, hBy6.out⟩
                      · have t1 : (er == 0) = false := beq_eq_false_iff_ne.2 he0
                        replace he0 := hide he0
                        clear hdr
                        go_wp2
                        go_roundg (es.length - (y + 1))
                        case measure => omega
                        case rel => exact ⟨y + 1, by omega, by omega, by go_num, hBy6.out⟩
                    · have hyez : ¬ (y : Int) < (es.length : Int) := by omega
                      go_wp2
                      go_roundg ((runR S es).2.les.length - (i + 1))
                      case measure => omega
                      case rel => exact ⟨i + 1, by omega, by omega, by go_num, hBr5.out.trans ((hBu.out.trans (hBy.out.mono hBu.out.size)).mono hBr5.out.size)⟩
            · have b0 : (at_ != 0) = true := bne_iff_ne.2 hst
              replace hst := hide hst
              clear hfit hapt hdry
              go_wp2
              go_roundg ((runR S es).2.les.length - (i + 1))
              case measure => omega
              case rel => exact ⟨i + 1, by omega, by omega, by go_num, hBr4.out⟩
          · have hilz : ¬ (i : Int) < ((runR S es).2.les.length : Int) := by omega
            go_wp2_with fail
            refine (AwakeB _).mono ?_
            rintro e w5 ⟨rfl, hb⟩
            replace hB := hide (hB.out.trans ((hBv.out.trans (hb.mono hBv.out.size)).mono hB.out.size))
            clear hb x0
            go_wp2
            go_ret
            exact ⟨rfl, hB.out⟩
  · have b0 : (runE S es != 0) = true := bne_iff_ne.2 hq
    generalize runE S es = qe at *
    generalize runR S es = qr at *
    replace hq := hide hq
    clear hV hSc huW heW hxW hlW hkW hsW haW
    go_upto_region 2 with fail
    rw [hW2.out]
    go_wp2_with fail
    refine (AwakeB _).mono ?_
    rintro e w3 ⟨rfl, hb⟩
    replace hB := hide (hB.out.trans (hb.mono hB.out.size))
    clear hb
    go_wp2
    go_ret
    exact ⟨rfl, hB.out⟩
end Go.Proofs.Ytkmhldjebopljaa
