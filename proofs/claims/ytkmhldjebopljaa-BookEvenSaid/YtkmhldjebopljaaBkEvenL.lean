/-
  The law BookEven: accounts come out even (made by mkbkeven.py).
-/
import Derived.Test.YtkmhldjebopljaaQb
import Derived.Test.YtkmhldjebopljaaQe
namespace Go.Proofs.Ytkmhldjebopljaa
open Go.RowKit RG

set_option maxRecDepth 100000 in
set_option maxHeartbeats 8000000 in
theorem BookEven_any (v u : Value) (S : BSch) (es : List BEv) (w : World) (h : RdBSch w v S) (hu : IsRow 11 (es.map evCells) u w) :
    Calls Try.prog 7 #[v, u] w fun e w' => e = .returned (.bool true) ∧ Below w.heap.size w w' := by
  have hRun := hide (fun W (hb : Below w.heap.size w W) => Run_k v u S es W (h.below hb) (hu.below hb))
  have hPst := hide (fun W (hb : Below w.heap.size w W) => Postings_k v u S es W (h.below hb) (hu.below hb))
  have hV := hide (fun W (hb : Below w.heap.size w W) => valid_any v S W (h.below hb))
  have hSc := hide (fun W (hb : Below w.heap.size w W) => h.below hb)
  have huW := hide (fun W (hb : Below w.heap.size w W) => hu.below hb)
  obtain ⟨L, C, T, cl, cc, ct, rfl, hR⟩ := h
  have hRW := hide (fun W (hb : Below w.heap.size w W) => hR.below hb)
  clear hR
  obtain ⟨A, ce, rfl, hce, hcm⟩ := evRow_len hu
  have hEW := hide (fun W (hb : Below w.heap.size w W) => (ev_read hu).below hb)
  clear hu
  obtain ⟨W, hW⟩ : ∃ y, w.alloc (.cells (schCells L C T cl cc ct S) 28) = y := ⟨_, rfl⟩
  have kb := hide (show Blk W w.heap.size 28 (schCells L C T cl cc ct S) by rw [← hW]; exact blkNew rfl)
  have hB := hide (show Below w.heap.size w W by rw [← hW]; exact (Below.refl _ _).alloc (Nat.le_refl _) _)
  replace hW := hide hW
  unfold schCells at *
  unfold maxLen at hcm
  obtain ⟨c0, c1, c2, c3, c4, c5, c6⟩ := sch_cells (w := W) (p := w.heap.size) (S := S) kb.out
  go_enter Try.func7, Try.ntmps7
  go_upto_region 1 with fail
  rw [hW.out]
  go_wp2_with fail
  refine (hRun.out _ hB.out).mono ?_
  rintro e w1 ⟨⟨v1, v2, rfl, he, hx⟩, hb⟩
  have heW := hide (fun W' (hb : Below w1.heap.size w1 W') => he.below hb)
  have hxW := hide (fun W' (hb : Below w1.heap.size w1 W') => hx.below hb)
  obtain ⟨Ae, ca, rfl, -, hca⟩ := he
  obtain ⟨A0, q0, A1, q1, A2, q2, A3, q3, rfl, hl, hk, hs, ha⟩ := hx.parts
  have hlW := hide (fun W' (hb : Below w1.heap.size w1 W') => hl.below hb)
  have hkW := hide (fun W' (hb : Below w1.heap.size w1 W') => hk.below hb)
  have hsW := hide (fun W' (hb : Below w1.heap.size w1 W') => hs.below hb)
  have haW := hide (fun W' (hb : Below w1.heap.size w1 W') => ha.below hb)
  clear hl hk hs ha hx
  clear c0 c1 c2 c3 c4 c5 c6
  replace kb := hide (kb.out.below hb kb.out.lt)
  replace hB := hide (hB.out.trans (hb.mono hB.out.size))
  clear hb hRun
  obtain ⟨W2, hW2⟩ : ∃ y, w1.alloc (.cells #[.slice A0 (runR S es).2.les.length q0, .slice A1 (runR S es).2.km.length q1, .slice A2 (runR S es).2.since.length q2, .slice A3 (runR S es).2.acc.length q3] 42) = y := ⟨_, rfl⟩
  have hb12 := hide (show Below w1.heap.size w1 W2 by rw [← hW2]; exact (Below.refl _ _).alloc (Nat.le_refl _) _)
  have kx := hide (show Blk W2 w1.heap.size 42 #[.slice A0 (runR S es).2.les.length q0, .slice A1 (runR S es).2.km.length q1, .slice A2 (runR S es).2.since.length q2, .slice A3 (runR S es).2.acc.length q3] by rw [← hW2]; exact blkNew rfl)
  replace kb := hide (kb.out.below hb12.out kb.out.lt)
  replace hB := hide (hB.out.trans (hb12.out.mono hB.out.size))
  replace hW2 := hide hW2
  obtain ⟨c0, c1, c2, c3, c4, c5, c6⟩ := sch_cells (w := W2) (p := w.heap.size) (S := S) kb.out
  go_upto_region 2 with fail
  rw [hW2.out]
  go_wp2_with fail
  refine (hPst.out W2 hB.out).mono ?_
  rintro e w3 ⟨⟨v3, rfl, hp⟩, hb⟩
  have hpW := hide (fun W' (hb : Below w3.heap.size w3 W') => hp.below hb)
  obtain ⟨Ap, cp, rfl, -, -, -⟩ := hp
  rw [List.length_map] at hpW ⊢
  replace kb := hide (kb.out.below hb kb.out.lt)
  replace kx := hide (kx.out.below hb kx.out.lt)
  replace hB := hide (hB.out.trans (hb.mono hB.out.size))
  have hb13 := hide (hb12.out.trans (hb.mono hb12.out.size))
  clear hb hPst hb12 c0 c1 c2 c3 c4 c5 c6
  by_cases hq : runE S es = 0
  · have ha := after_of hq
    have hev := hide (even_all hq)
    have hsh := hide (fun W' (hb : Below w.heap.size w W') (hb1 : Below w1.heap.size w1 W') => shaped_t (hSc.out W' hb) (hxW.out W' hb1) ha.ok.km ha.ok.since ha.ok.accLen ha.ok.les (by have := ha.nl; omega))
    have hnl := ha.nl
    have hfew := ha.few
    rw [hq]
    have hvt := hide (fun W (hb : Below w.heap.size w W) => show Calls Try.prog 33 #[.agg #[.slice L S.learners.length cl, .slice C S.cars.length cc, .int .i64 S.price, .int .i64 S.excess, .int .i64 S.lo, .int .i64 S.hi, .slice T S.terms.length ct]] W fun e w' => e = .returned (.bool true) ∧ Below W.heap.size W w' from by
      have := hV.out W hb
      rwa [ha.sch, show decide ((0 : Int) = 0) = true from rfl] at this)
    have hlen := hide ha.len
    replace ha := hide ha
    rw [hlen.out] at heW ⊢
    clear hV
    obtain ⟨c0, c1, c2, c3, c4, c5, c6⟩ := sch_cells (w := w3) (p := w.heap.size) (S := S) kb.out
    go_wp2_with fail
    refine (hvt.out w3 hB.out).mono ?_
    rintro e w4 ⟨rfl, hb⟩
    have hb4 := hide hb
    replace kb := hide (kb.out.below hb kb.out.lt)
    replace kx := hide (kx.out.below hb kx.out.lt)
    replace hB := hide (hB.out.trans (hb.mono hB.out.size))
    clear hb hvt
    have hb14 := hide (hb13.out.trans (hb4.out.mono hb13.out.size))
    clear c0 c1 c2 c3 c4 c5 c6 hb13
    obtain ⟨c0, c1, c2, c3, c4, c5, c6⟩ := sch_cells (w := w4) (p := w.heap.size) (S := S) kb.out
    have x0 : w4.cell? ⟨w1.heap.size, 0, none⟩ = some (.slice A0 (runR S es).2.les.length q0) := kx.out.cell 0
    have x1 : w4.cell? ⟨w1.heap.size, 1, none⟩ = some (.slice A1 (runR S es).2.km.length q1) := kx.out.cell 1
    have x2 : w4.cell? ⟨w1.heap.size, 2, none⟩ = some (.slice A2 (runR S es).2.since.length q2) := kx.out.cell 2
    have x3 : w4.cell? ⟨w1.heap.size, 3, none⟩ = some (.slice A3 (runR S es).2.acc.length q3) := kx.out.cell 3
    go_wp2_with fail
    refine (hsh.out w4 hB.out hb14.out).mono ?_
    rintro e w5 ⟨rfl, hb⟩
    replace kb := hide (kb.out.below hb kb.out.lt)
    replace kx := hide (kx.out.below hb kx.out.lt)
    replace hB := hide (hB.out.trans (hb.mono hB.out.size))
    have hb15 := hide (hb14.out.trans (hb.mono hb14.out.size))
    have hb34 := hide (hb4.out.trans (hb.mono hb4.out.size))
    clear hb hsh c0 c1 c2 c3 c4 c5 c6 x0 x1 x2 x3
    have hna := hev.out.len
    obtain ⟨na, hnae⟩ : ∃ n, (runR S es).2.acc.length = n := ⟨_, rfl⟩
    have x3 : w5.cell? ⟨w1.heap.size, 3, none⟩ = some (.slice A3 (runR S es).2.acc.length q3) := kx.out.cell 3
    rw [hnae] at hna x3
    have hnab : na ≤ 12 := by omega
    replace hna := hide hna
    replace hnae := hide hnae
    have hm1 := mk_ints na (by omega) w5
    go_wp2
    obtain ⟨W6, hW6⟩ : ∃ y, w5.alloc (.cells (Array.replicate na (.int .i64 0)) 3) = y := ⟨_, rfl⟩
    rw [hW6]
    have kh := hide (show Blk W6 w5.heap.size 3 (Array.replicate na (.int .i64 0)) by rw [← hW6]; exact blkNew rfl)
    have hB56 := hide (show Below w5.heap.size w5 W6 by rw [← hW6]; exact (Below.refl _ _).alloc (Nat.le_refl _) _)
    have hX : ¬ (fun k => k < w5.heap.size) w5.heap.size := Nat.lt_irrefl _
    have hrow := hide (rowAt_zeros (X := fun k => k < w5.heap.size) kh.out hX (by omega))
    have hokp := hide hev.out.ok
    have hasc := hide hev.out.asc
    have hlimp := hev.out.lim
    have haccp := hev.out.acc
    have hm200 := hev.out.few
    have heven := hide hev.out.even
    have haccl := hide hev.out.accl
    clear hev
    obtain ⟨zs, hzs⟩ : ∃ z, List.replicate (S.learners.length + 4) (0 : Int) = z := ⟨_, rfl⟩
    rw [hzs] at hlimp haccp
    replace haccp := hide haccp
    replace hlimp := hide hlimp
    have hzl : zs.length = na := by rw [← hzs, List.length_replicate, hna.out]
    have hz0 : List.replicate na (0 : Int) = zs := by rw [hna.out, hzs]
    rw [hz0] at hrow
    have hfl := hide (fun (j : Nat) => show ((((runR S es).2.pst.take j).foldl applyP zs).length = na) by rw [fold_len, hzl])
    replace hzs := hide hzs
    replace hzl := hide hzl
    clear hz0
    replace hW6 := hide hW6
    obtain ⟨gh, hgh⟩ : ∃ g, w5.heap.size = g := ⟨_, rfl⟩
    rw [hgh] at hrow ⊢
    go_upto_region 9 with fail
    go_loopg [11, 12] (runR S es).2.pst.length (fun gg s11 _ wr => ∃ i : Nat, i ≤ (runR S es).2.pst.length ∧ (runR S es).2.pst.length ≤ gg + i ∧ s11 = .int .i64 i ∧ Hid (RowAt wr (fun k => k < gh) 3 1 (.slice (some ⟨gh, 0, none⟩) na na) ((((runR S es).2.pst.take i).foldl applyP zs).map iCells)) ∧ Hid (Below w5.heap.size w5 wr))
    case atStart => exact ⟨0, Nat.zero_le _, by omega, rfl, hrow.out, hB56.out⟩
    case round =>
      clear hrow hB56
      obtain ⟨i, hi, hgg, rfl, hrow, hBr⟩ := hrel
      have hBw := hide (hB.out.trans (hBr.out.mono hB.out.size))
      have hBp := hide (hb34.out.trans (hBr.out.mono hb34.out.size))
      by_cases hlt : i < (runR S es).2.pst.length
      · have hltz : (i : Int) < ((runR S es).2.pst.length : Int) := by omega
        have hi0 : (0 : Int) ≤ (i : Int) := by omega
        clear hSc huW hEW hRW heW hxW hlW hkW hsW haW haccp heven haccl hW hW2 kb kx kh hb14 hb15 hlen
        obtain ⟨gp, op, p, rfl, hgp, hpk, p0, p1, p2, p3⟩ := pst_read (hpW.out wr hBp.out) hlt
        have hmem : p ∈ (runR S es).2.pst := List.mem_of_getElem? hpk
        obtain ⟨⟨⟨o1, o2⟩, ⟨o3, o4⟩, o5, o6⟩, ⟨o7, o8⟩, o9⟩ := hokp.out p hmem
        have hfs := fold_step hpk zs
        have hprev := hide (fun (ip : Nat) (q : Pst) (hi : i = ip + 1) (hq : (runR S es).2.pst[ip]? = some q) => hasc.out ip q p hq (by rw [← hi]; exact hpk))
        have hll := hlimp.out i (by omega)
        have hlen' := hfl.out i
        generalize (((runR S es).2.pst.take i).foldl applyP zs) = ac at *
        obtain ⟨jf, hjf⟩ : ∃ jf : Nat, p.frm = jf := ⟨p.frm.toNat, by omega⟩
        obtain ⟨jt, hjt⟩ : ∃ jt : Nat, p.to = jt := ⟨p.to.toNat, by omega⟩
        have hap := applyP_nat (l := ac) hjf hjt (by omega)
        rw [hap] at hfs
        clear hap
        replace hpk := hide hpk
        obtain ⟨pe, pf, pt, pc⟩ := p
        simp only at hjf hjt o1 o2 o3 o4 o5 o6 o7 o8 o9 hfs p0 p1 p2 p3 hprev
        subst hjf
        subst hjt
        obtain ⟨W4, hW4⟩ : ∃ y, wr.alloc (.cells #[.int .i64 pe, .int .i64 jf, .int .i64 jt, .int .i64 pc] 61) = y := ⟨_, rfl⟩
        have hB4 := hide (show Below wr.heap.size wr W4 by rw [← hW4]; exact (Below.refl _ _).alloc (Nat.le_refl _) _)
        have ky := hide (show Blk W4 wr.heap.size 61 #[.int .i64 pe, .int .i64 jf, .int .i64 jt, .int .i64 pc] by rw [← hW4]; exact blkNew rfl)
        have hrow4 := hide (hrow.out.below hB4.out)
        have hBr4 := hide (hBr.out.trans (hB4.out.mono hBr.out.size))
        have hBp4 := hide (hBp.out.trans (hB4.out.mono hBp.out.size))
        have hghw : gh < wr.heap.size := hrow.out.lt rfl
        replace hW4 := hide hW4
        clear hrow
        have hna2 : (na : Int) = (S.learners.length : Int) + 4 := by have := hna.out; omega
        have y0 : W4.cell? ⟨wr.heap.size, 0, none⟩ = some (.int .i64 pe) := ky.out.cell 0
        have y1 : W4.cell? ⟨wr.heap.size, 1, none⟩ = some (.int .i64 jf) := ky.out.cell 1
        have y2 : W4.cell? ⟨wr.heap.size, 2, none⟩ = some (.int .i64 jt) := ky.out.cell 2
        have y3 : W4.cell? ⟨wr.heap.size, 3, none⟩ = some (.int .i64 pc) := ky.out.cell 3
        have t1 : decide ((jf : Int) < 0) = false := decide_eq_false (by omega)
        have t2 : decide ((na : Int) ≤ (jf : Int)) = false := decide_eq_false (by omega)
        have t3 : decide ((jt : Int) < 0) = false := decide_eq_false (by omega)
        have t4 : decide ((na : Int) ≤ (jt : Int)) = false := decide_eq_false (by omega)
        have t5 : ((jf : Int) == (jt : Int)) = false := beq_eq_false_iff_ne.2 o5
        have t6 : decide (pc ≤ 0) = false := decide_eq_false (by omega)
        have t7 : decide (pe < 0) = false := decide_eq_false (by omega)
        have t8 : decide ((es.length : Int) ≤ pe) = false := decide_eq_false (by omega)
        have t2n : decide (na ≤ jf) = false := decide_eq_false (by omega)
        have t4n : decide (na ≤ jt) = false := decide_eq_false (by omega)
        have hjfn : jf < na := by omega
        have hjtn : jt < na := by omega
        have hjne : jf ≠ jt := by omega
        have hjfz : (jf : Int) < (na : Int) := by omega
        have hjtz : (jt : Int) < (na : Int) := by omega
        have hjf0 : (0 : Int) ≤ (jf : Int) := by omega
        have hjt0 : (0 : Int) ≤ (jt : Int) := by omega
        replace hna2 := hide hna2
        go_upto_region 12 with fail
        rw [hW4.out]
        clear p0 p1 p2 p3
        have hd12 : ∃ nq : Nat, True := ⟨0, trivial⟩
        by_cases hi1 : i = 0
        · have t9 : decide ((0 : Int) < (i : Int)) = false := decide_eq_false (by omega)
          have hin : ¬ 0 < i := by omega
          replace hi1 := hide hi1
          go_quiet (fail)
          have hb45 := below_drewN (Below.refl W4.heap.size W4) nq
          have hrow5 := hrow4.out.below hb45
          have ky5 := hide (ky.out.below hb45 ky.out.lt)
          have hBr5 := hide (hBr4.out.trans (hb45.mono hBr4.out.size))
          clear hb45 t1 t2 t3 t4 t5 t6 t7 t8 t9 y0 y1 y2 y3 t2n t4n hin
          generalize W4.drewN nq = W5 at *
          have y1 : W5.cell? ⟨wr.heap.size, 1, none⟩ = some (.int .i64 jf) := ky5.out.cell 1
          have y2 : W5.cell? ⟨wr.heap.size, 2, none⟩ = some (.int .i64 jt) := ky5.out.cell 2
          have y3 : W5.cell? ⟨wr.heap.size, 3, none⟩ = some (.int .i64 pc) := ky5.out.cell 3
          have hjfl : jf < ac.length := by omega
          have hjtl : jt < ac.length := by omega
          obtain ⟨gh', ph', eh, -, -, -, -, fz, ech, -⟩ := int_row hrow5 (by omega)
          obtain rfl : gh = gh' := by injection eh with eh; injection eh with eh; injection eh
          have u1 := ech jf hjfl
          have u2 := ech jt hjtl
          have z1 := fz jf
          have z2 := fz jt
          have l1 := getI_lim hll hjfl
          have l2 := getI_lim hll hjtl
          have s1 := rowInt_set (hrow5.below (Below.refl _ _).drew) hjfl (ac[jf]?.getD 0 - pc)
          have s2 := rowInt_set s1 (j := jt) (by rw [List.length_set]; exact hjtl) (ac[jt]?.getD 0 + pc)
          rw [← hfs] at s2
          obtain ⟨hf, hhf⟩ : ∃ z, ac[jf]?.getD 0 = z := ⟨_, rfl⟩
          obtain ⟨ht, hht⟩ : ∃ z, ac[jt]?.getD 0 = z := ⟨_, rfl⟩
          rw [hhf] at u1 l1 s2
          rw [hht] at u2 l2 s2
          have w1w : IntKind.i64.wrap (hf - pc) = hf - pc := by rw [IntKind.wrap_i64]; omega
          have w2w : IntKind.i64.wrap (ht + pc) = ht + pc := by rw [IntKind.wrap_i64]; omega
          have hn1 : (W5.drew.setCell ⟨gh, jf, none⟩ (.int .i64 (hf - pc))).cell? ⟨gh, jt, none⟩ = some (.int .i64 ht) := (World.cell?_setCell_other _ _ _ _ (fun e => hjne (by injection e))).trans u2
          have hfy : ∀ k, (W5.drew.setCell ⟨gh, jf, none⟩ (.int .i64 (hf - pc))).cell? ⟨wr.heap.size, k, none⟩ = W5.cell? ⟨wr.heap.size, k, none⟩ := fun k => World.cell?_setCell_far _ _ _ _ (by show gh ≠ wr.heap.size; omega)
          have f2' : (W5.drew.setCell ⟨gh, jf, none⟩ (.int .i64 (hf - pc))).frozen? ⟨gh, jt, none⟩ = false := (World.frozen?_setCell _ _ _ _).trans z2
          have hpB := hide (show ∀ j' : Nat, j' ≤ 0 → (wsC W5.drew [(W5.drew.setCell ⟨gh, jf, none⟩ (.int .i64 (hf - pc))), ((W5.drew.setCell ⟨gh, jf, none⟩ (.int .i64 (hf - pc))).setCell ⟨gh, jt, none⟩ (.int .i64 (ht + pc)))] j').cell? ⟨gh, jf, none⟩ = some (.int .i64 hf) from by
            intro j' hj'
            obtain rfl : j' = 0 := by omega
            exact u1)
          have hpA := hide (show ∀ j' : Nat, j' ≤ 1 → (wsC W5.drew [(W5.drew.setCell ⟨gh, jf, none⟩ (.int .i64 (hf - pc))), ((W5.drew.setCell ⟨gh, jf, none⟩ (.int .i64 (hf - pc))).setCell ⟨gh, jt, none⟩ (.int .i64 (ht + pc)))] j').cell? ⟨wr.heap.size, 1, none⟩ = some (.int .i64 jf) ∧ (wsC W5.drew [(W5.drew.setCell ⟨gh, jf, none⟩ (.int .i64 (hf - pc))), ((W5.drew.setCell ⟨gh, jf, none⟩ (.int .i64 (hf - pc))).setCell ⟨gh, jt, none⟩ (.int .i64 (ht + pc)))] j').cell? ⟨wr.heap.size, 2, none⟩ = some (.int .i64 jt) ∧ (wsC W5.drew [(W5.drew.setCell ⟨gh, jf, none⟩ (.int .i64 (hf - pc))), ((W5.drew.setCell ⟨gh, jf, none⟩ (.int .i64 (hf - pc))).setCell ⟨gh, jt, none⟩ (.int .i64 (ht + pc)))] j').cell? ⟨wr.heap.size, 3, none⟩ = some (.int .i64 pc) ∧ (wsC W5.drew [(W5.drew.setCell ⟨gh, jf, none⟩ (.int .i64 (hf - pc))), ((W5.drew.setCell ⟨gh, jf, none⟩ (.int .i64 (hf - pc))).setCell ⟨gh, jt, none⟩ (.int .i64 (ht + pc)))] j').cell? ⟨gh, jt, none⟩ = some (.int .i64 ht) from by
            intro j' hj'
            rcases (show j' = 0 ∨ j' = 1 by omega) with rfl | rfl
            · exact ⟨y1, y2, y3, u2⟩
            · exact ⟨(hfy 1).trans y1, (hfy 2).trans y2, (hfy 3).trans y3, hn1⟩)
          have hghB : w5.heap.size ≤ gh := by omega
          have hBf := hide (((hBr5.out.drew).setCell (p := ⟨gh, jf, none⟩) hghB (.int .i64 (hf - pc))).setCell (p := ⟨gh, jt, none⟩) hghB (.int .i64 (ht + pc)))
          replace s2 := hide s2
          replace hfs := hide hfs
          clear s1 hrow5 hfy eh fz ech l1 l2 hhf hht hll hprev
          go_wp2
          refine region_chain [23, 25] [.slice (some ⟨gh, 0, none⟩) na na, .pointer (some ⟨wr.heap.size, 1, none⟩), .int .i64 jf, .slice (some ⟨gh, 0, none⟩) na na, .pointer (some ⟨wr.heap.size, 2, none⟩), .int .i64 jt, .slice (some ⟨gh, 0, none⟩) na na, .pointer (some ⟨wr.heap.size, 1, none⟩), .int .i64 jf, .pointer (some ⟨gh, jf, none⟩), .int .i64 hf, .pointer (some ⟨wr.heap.size, 3, none⟩), .int .i64 pc, .int .i64 (hf - pc), .slice (some ⟨gh, 0, none⟩) na na, .pointer (some ⟨wr.heap.size, 2, none⟩), .int .i64 jt, .pointer (some ⟨gh, jt, none⟩), .int .i64 ht, .pointer (some ⟨wr.heap.size, 3, none⟩), .int .i64 pc, .int .i64 (ht + pc), .pointer (some ⟨gh, jf, none⟩), undef, .pointer (some ⟨gh, jt, none⟩), undef] (wsC W5.drew [(W5.drew.setCell ⟨gh, jf, none⟩ (.int .i64 (hf - pc))), ((W5.drew.setCell ⟨gh, jf, none⟩ (.int .i64 (hf - pc))).setCell ⟨gh, jt, none⟩ (.int .i64 (ht + pc)))]) (by kernel_rfl) (by kernel_rfl) (by kernel_rfl) (by kernel_rfl) rfl ?_ ?_
          · refine ⟨?_, ?_, ?_, ?_, ?_, ?_, ?_, ?_, ?_, ?_, ?_, ?_, ?_, ?_, ?_, ?_, ?_, ?_, ?_, ?_, ?_, ?_, ?_, ?_, ?_, ?_, trivial⟩
            · refine oneC_still 2 (by kernel_rfl) (by kernel_rfl) ?_
              intro y jj K Q hd hj hK
              generalize wsC W5.drew [(W5.drew.setCell ⟨gh, jf, none⟩ (.int .i64 (hf - pc))), ((W5.drew.setCell ⟨gh, jf, none⟩ (.int .i64 (hf - pc))).setCell ⟨gh, jt, none⟩ (.int .i64 (ht + pc)))] jj = W at *
              clear hd
              revert hK
              simp only [putAll, Act.put]
              go_simp
            · refine oneC_still 2 (by kernel_rfl) (by kernel_rfl) ?_
              intro y jj K Q hd hj hK
              generalize wsC W5.drew [(W5.drew.setCell ⟨gh, jf, none⟩ (.int .i64 (hf - pc))), ((W5.drew.setCell ⟨gh, jf, none⟩ (.int .i64 (hf - pc))).setCell ⟨gh, jt, none⟩ (.int .i64 (ht + pc)))] jj = W at *
              clear hd
              revert hK
              simp only [putAll, Act.put]
              go_simp
            · refine oneC_still 0 (by kernel_rfl) (by kernel_rfl) ?_
              intro y jj K Q hd hj hK
              have b0 := (hpA.out jj (Nat.le_trans hj (by decide))).1
              generalize wsC W5.drew [(W5.drew.setCell ⟨gh, jf, none⟩ (.int .i64 (hf - pc))), ((W5.drew.setCell ⟨gh, jf, none⟩ (.int .i64 (hf - pc))).setCell ⟨gh, jt, none⟩ (.int .i64 (ht + pc)))] jj = W at *
              simp [depsC, Region.binds] at hd
              revert hK
              simp only [putAll, Act.put]
              go_simp
            · refine oneC_still 2 (by kernel_rfl) (by kernel_rfl) ?_
              intro y jj K Q hd hj hK
              generalize wsC W5.drew [(W5.drew.setCell ⟨gh, jf, none⟩ (.int .i64 (hf - pc))), ((W5.drew.setCell ⟨gh, jf, none⟩ (.int .i64 (hf - pc))).setCell ⟨gh, jt, none⟩ (.int .i64 (ht + pc)))] jj = W at *
              clear hd
              revert hK
              simp only [putAll, Act.put]
              go_simp
            · refine oneC_still 2 (by kernel_rfl) (by kernel_rfl) ?_
              intro y jj K Q hd hj hK
              generalize wsC W5.drew [(W5.drew.setCell ⟨gh, jf, none⟩ (.int .i64 (hf - pc))), ((W5.drew.setCell ⟨gh, jf, none⟩ (.int .i64 (hf - pc))).setCell ⟨gh, jt, none⟩ (.int .i64 (ht + pc)))] jj = W at *
              clear hd
              revert hK
              simp only [putAll, Act.put]
              go_simp
            · refine oneC_still 1 (by kernel_rfl) (by kernel_rfl) ?_
              intro y jj K Q hd hj hK
              have b0 := (hpA.out jj (Nat.le_trans hj (by decide))).2.1
              generalize wsC W5.drew [(W5.drew.setCell ⟨gh, jf, none⟩ (.int .i64 (hf - pc))), ((W5.drew.setCell ⟨gh, jf, none⟩ (.int .i64 (hf - pc))).setCell ⟨gh, jt, none⟩ (.int .i64 (ht + pc)))] jj = W at *
              simp [depsC, Region.binds] at hd
              revert hK
              simp only [putAll, Act.put]
              go_simp
            · refine oneC_still 2 (by kernel_rfl) (by kernel_rfl) ?_
              intro y jj K Q hd hj hK
              generalize wsC W5.drew [(W5.drew.setCell ⟨gh, jf, none⟩ (.int .i64 (hf - pc))), ((W5.drew.setCell ⟨gh, jf, none⟩ (.int .i64 (hf - pc))).setCell ⟨gh, jt, none⟩ (.int .i64 (ht + pc)))] jj = W at *
              clear hd
              revert hK
              simp only [putAll, Act.put]
              go_simp
            · refine oneC_still 2 (by kernel_rfl) (by kernel_rfl) ?_
              intro y jj K Q hd hj hK
              generalize wsC W5.drew [(W5.drew.setCell ⟨gh, jf, none⟩ (.int .i64 (hf - pc))), ((W5.drew.setCell ⟨gh, jf, none⟩ (.int .i64 (hf - pc))).setCell ⟨gh, jt, none⟩ (.int .i64 (ht + pc)))] jj = W at *
              clear hd
              revert hK
              simp only [putAll, Act.put]
              go_simp
            · refine oneC_still 0 (by kernel_rfl) (by kernel_rfl) ?_
              intro y jj K Q hd hj hK
              have b0 := (hpA.out jj (Nat.le_trans hj (by decide))).1
              generalize wsC W5.drew [(W5.drew.setCell ⟨gh, jf, none⟩ (.int .i64 (hf - pc))), ((W5.drew.setCell ⟨gh, jf, none⟩ (.int .i64 (hf - pc))).setCell ⟨gh, jt, none⟩ (.int .i64 (ht + pc)))] jj = W at *
              simp [depsC, Region.binds] at hd
              revert hK
              simp only [putAll, Act.put]
              go_simp
            · refine oneC_still 2 (by kernel_rfl) (by kernel_rfl) ?_
              intro y jj K Q hd hj hK
              generalize wsC W5.drew [(W5.drew.setCell ⟨gh, jf, none⟩ (.int .i64 (hf - pc))), ((W5.drew.setCell ⟨gh, jf, none⟩ (.int .i64 (hf - pc))).setCell ⟨gh, jt, none⟩ (.int .i64 (ht + pc)))] jj = W at *
              simp [depsC, Region.binds] at hd
              revert hK
              simp only [putAll, Act.put]
              go_simp
            · refine oneC_still 0 (by kernel_rfl) (by kernel_rfl) ?_
              intro y jj K Q hd hj hK
              have b0 := hpB.out jj hj
              generalize wsC W5.drew [(W5.drew.setCell ⟨gh, jf, none⟩ (.int .i64 (hf - pc))), ((W5.drew.setCell ⟨gh, jf, none⟩ (.int .i64 (hf - pc))).setCell ⟨gh, jt, none⟩ (.int .i64 (ht + pc)))] jj = W at *
              simp [depsC, Region.binds] at hd
              revert hK
              simp only [putAll, Act.put]
              go_simp
            · refine oneC_still 2 (by kernel_rfl) (by kernel_rfl) ?_
              intro y jj K Q hd hj hK
              generalize wsC W5.drew [(W5.drew.setCell ⟨gh, jf, none⟩ (.int .i64 (hf - pc))), ((W5.drew.setCell ⟨gh, jf, none⟩ (.int .i64 (hf - pc))).setCell ⟨gh, jt, none⟩ (.int .i64 (ht + pc)))] jj = W at *
              clear hd
              revert hK
              simp only [putAll, Act.put]
              go_simp
            · refine oneC_still 0 (by kernel_rfl) (by kernel_rfl) ?_
              intro y jj K Q hd hj hK
              have b0 := (hpA.out jj (Nat.le_trans hj (by decide))).2.2.1
              generalize wsC W5.drew [(W5.drew.setCell ⟨gh, jf, none⟩ (.int .i64 (hf - pc))), ((W5.drew.setCell ⟨gh, jf, none⟩ (.int .i64 (hf - pc))).setCell ⟨gh, jt, none⟩ (.int .i64 (ht + pc)))] jj = W at *
              simp [depsC, Region.binds] at hd
              revert hK
              simp only [putAll, Act.put]
              go_simp
            · refine oneC_still 2 (by kernel_rfl) (by kernel_rfl) ?_
              intro y jj K Q hd hj hK
              generalize wsC W5.drew [(W5.drew.setCell ⟨gh, jf, none⟩ (.int .i64 (hf - pc))), ((W5.drew.setCell ⟨gh, jf, none⟩ (.int .i64 (hf - pc))).setCell ⟨gh, jt, none⟩ (.int .i64 (ht + pc)))] jj = W at *
              simp [depsC, Region.binds] at hd
              revert hK
              simp only [putAll, Act.put]
              go_simp
            · refine oneC_still 2 (by kernel_rfl) (by kernel_rfl) ?_
              intro y jj K Q hd hj hK
              generalize wsC W5.drew [(W5.drew.setCell ⟨gh, jf, none⟩ (.int .i64 (hf - pc))), ((W5.drew.setCell ⟨gh, jf, none⟩ (.int .i64 (hf - pc))).setCell ⟨gh, jt, none⟩ (.int .i64 (ht + pc)))] jj = W at *
              clear hd
              revert hK
              simp only [putAll, Act.put]
              go_simp
            · refine oneC_still 2 (by kernel_rfl) (by kernel_rfl) ?_
              intro y jj K Q hd hj hK
              generalize wsC W5.drew [(W5.drew.setCell ⟨gh, jf, none⟩ (.int .i64 (hf - pc))), ((W5.drew.setCell ⟨gh, jf, none⟩ (.int .i64 (hf - pc))).setCell ⟨gh, jt, none⟩ (.int .i64 (ht + pc)))] jj = W at *
              clear hd
              revert hK
              simp only [putAll, Act.put]
              go_simp
            · refine oneC_still 1 (by kernel_rfl) (by kernel_rfl) ?_
              intro y jj K Q hd hj hK
              have b0 := (hpA.out jj (Nat.le_trans hj (by decide))).2.1
              generalize wsC W5.drew [(W5.drew.setCell ⟨gh, jf, none⟩ (.int .i64 (hf - pc))), ((W5.drew.setCell ⟨gh, jf, none⟩ (.int .i64 (hf - pc))).setCell ⟨gh, jt, none⟩ (.int .i64 (ht + pc)))] jj = W at *
              simp [depsC, Region.binds] at hd
              revert hK
              simp only [putAll, Act.put]
              go_simp
            · refine oneC_still 2 (by kernel_rfl) (by kernel_rfl) ?_
              intro y jj K Q hd hj hK
              generalize wsC W5.drew [(W5.drew.setCell ⟨gh, jf, none⟩ (.int .i64 (hf - pc))), ((W5.drew.setCell ⟨gh, jf, none⟩ (.int .i64 (hf - pc))).setCell ⟨gh, jt, none⟩ (.int .i64 (ht + pc)))] jj = W at *
              simp [depsC, Region.binds] at hd
              revert hK
              simp only [putAll, Act.put]
              go_simp
            · refine oneC_still 1 (by kernel_rfl) (by kernel_rfl) ?_
              intro y jj K Q hd hj hK
              have b0 := (hpA.out jj (Nat.le_trans hj (by decide))).2.2.2
              generalize wsC W5.drew [(W5.drew.setCell ⟨gh, jf, none⟩ (.int .i64 (hf - pc))), ((W5.drew.setCell ⟨gh, jf, none⟩ (.int .i64 (hf - pc))).setCell ⟨gh, jt, none⟩ (.int .i64 (ht + pc)))] jj = W at *
              simp [depsC, Region.binds] at hd
              revert hK
              simp only [putAll, Act.put]
              go_simp
            · refine oneC_still 2 (by kernel_rfl) (by kernel_rfl) ?_
              intro y jj K Q hd hj hK
              generalize wsC W5.drew [(W5.drew.setCell ⟨gh, jf, none⟩ (.int .i64 (hf - pc))), ((W5.drew.setCell ⟨gh, jf, none⟩ (.int .i64 (hf - pc))).setCell ⟨gh, jt, none⟩ (.int .i64 (ht + pc)))] jj = W at *
              clear hd
              revert hK
              simp only [putAll, Act.put]
              go_simp
            · refine oneC_still 1 (by kernel_rfl) (by kernel_rfl) ?_
              intro y jj K Q hd hj hK
              have b0 := (hpA.out jj (Nat.le_trans hj (by decide))).2.2.1
              generalize wsC W5.drew [(W5.drew.setCell ⟨gh, jf, none⟩ (.int .i64 (hf - pc))), ((W5.drew.setCell ⟨gh, jf, none⟩ (.int .i64 (hf - pc))).setCell ⟨gh, jt, none⟩ (.int .i64 (ht + pc)))] jj = W at *
              simp [depsC, Region.binds] at hd
              revert hK
              simp only [putAll, Act.put]
              go_simp
            · refine oneC_still 2 (by kernel_rfl) (by kernel_rfl) ?_
              intro y jj K Q hd hj hK
              generalize wsC W5.drew [(W5.drew.setCell ⟨gh, jf, none⟩ (.int .i64 (hf - pc))), ((W5.drew.setCell ⟨gh, jf, none⟩ (.int .i64 (hf - pc))).setCell ⟨gh, jt, none⟩ (.int .i64 (ht + pc)))] jj = W at *
              simp [depsC, Region.binds] at hd
              revert hK
              simp only [putAll, Act.put]
              go_simp
            · refine oneC_still 2 (by kernel_rfl) (by kernel_rfl) ?_
              intro y jj K Q hd hj hK
              generalize wsC W5.drew [(W5.drew.setCell ⟨gh, jf, none⟩ (.int .i64 (hf - pc))), ((W5.drew.setCell ⟨gh, jf, none⟩ (.int .i64 (hf - pc))).setCell ⟨gh, jt, none⟩ (.int .i64 (ht + pc)))] jj = W at *
              simp [depsC, Region.binds] at hd
              revert hK
              simp only [putAll, Act.put]
              go_simp
            · refine oneC_eff 0 rfl ?_
              intro y K Q hd hK
              simp [depsC, Region.binds] at hd
              revert hK
              simp only [wsC]
              simp only [putAll, Act.put]
              go_simp
            · refine oneC_still 2 (by kernel_rfl) (by kernel_rfl) ?_
              intro y jj K Q hd hj hK
              generalize wsC W5.drew [(W5.drew.setCell ⟨gh, jf, none⟩ (.int .i64 (hf - pc))), ((W5.drew.setCell ⟨gh, jf, none⟩ (.int .i64 (hf - pc))).setCell ⟨gh, jt, none⟩ (.int .i64 (ht + pc)))] jj = W at *
              simp [depsC, Region.binds] at hd
              revert hK
              simp only [putAll, Act.put]
              go_simp
            · refine oneC_eff 1 rfl ?_
              intro y K Q hd hK
              simp [depsC, Region.binds] at hd
              revert hK
              simp only [wsC]
              simp only [putAll, Act.put]
              go_simp
          · simp only [putAll, Act.put, wsC, List.length_cons, List.length_nil]
            simp only [List.setIfInBounds_toArray, List.set_cons_succ, List.set_cons_zero, List.getD_cons_zero, List.getD_cons_succ]
            clear hpA hpB hn1 f2' u1 u2 z1 z2 y1 y2 y3
            generalize ((W5.drew.setCell ⟨gh, jf, none⟩ (.int .i64 (hf - pc))).setCell ⟨gh, jt, none⟩ (.int .i64 (ht + pc))) = WF at *
            go_wp2
            go_roundg ((runR S es).2.pst.length - (i + 1))
            case measure => omega
            case rel => exact ⟨i + 1, by omega, by omega, by go_num, s2.out, hBf.out⟩
        · have t9 : decide ((0 : Int) < (i : Int)) = true := decide_eq_true (by omega)
          obtain ⟨ip, hip⟩ : ∃ ip : Nat, i = ip + 1 := ⟨i - 1, by omega⟩
          obtain ⟨gp', op', q, eg, hgp', hqk, r0, r1, r2, r3⟩ := pst_read (hpW.out W4 hBp4.out) (show ip < (runR S es).2.pst.length by omega)
          cases eg
          have hpe := hprev.out ip q hip hqk
          obtain ⟨qe, qf, qt, qc⟩ := q
          simp only at hpe r0 r1 r2 r3
          have t10 : decide (pe < qe) = false := decide_eq_false (by omega)
          have hsub : IntKind.i64.wrap ((i : Int) - 1) = (ip : Int) := by rw [IntKind.wrap_i64]; omega
          have hipz : (ip : Int) < ((runR S es).2.pst.length : Int) := by omega
          have hip0 : (0 : Int) ≤ (ip : Int) := by omega
          have hin : 0 < i := by omega
          replace hi1 := hide hi1
          replace hip := hide hip
          replace hqk := hide hqk
          go_quiet (fail)
          have hb45 := below_drewN (Below.refl W4.heap.size W4) nq
          have hrow5 := hrow4.out.below hb45
          have ky5 := hide (ky.out.below hb45 ky.out.lt)
          have hBr5 := hide (hBr4.out.trans (hb45.mono hBr4.out.size))
          clear hb45 t1 t2 t3 t4 t5 t6 t7 t8 t9 y0 y1 y2 y3 t2n t4n hin
          generalize W4.drewN nq = W5 at *
          have y1 : W5.cell? ⟨wr.heap.size, 1, none⟩ = some (.int .i64 jf) := ky5.out.cell 1
          have y2 : W5.cell? ⟨wr.heap.size, 2, none⟩ = some (.int .i64 jt) := ky5.out.cell 2
          have y3 : W5.cell? ⟨wr.heap.size, 3, none⟩ = some (.int .i64 pc) := ky5.out.cell 3
          have hjfl : jf < ac.length := by omega
          have hjtl : jt < ac.length := by omega
          obtain ⟨gh', ph', eh, -, -, -, -, fz, ech, -⟩ := int_row hrow5 (by omega)
          obtain rfl : gh = gh' := by injection eh with eh; injection eh with eh; injection eh
          have u1 := ech jf hjfl
          have u2 := ech jt hjtl
          have z1 := fz jf
          have z2 := fz jt
          have l1 := getI_lim hll hjfl
          have l2 := getI_lim hll hjtl
          have s1 := rowInt_set (hrow5.below (Below.refl _ _).drew) hjfl (ac[jf]?.getD 0 - pc)
          have s2 := rowInt_set s1 (j := jt) (by rw [List.length_set]; exact hjtl) (ac[jt]?.getD 0 + pc)
          rw [← hfs] at s2
          obtain ⟨hf, hhf⟩ : ∃ z, ac[jf]?.getD 0 = z := ⟨_, rfl⟩
          obtain ⟨ht, hht⟩ : ∃ z, ac[jt]?.getD 0 = z := ⟨_, rfl⟩
          rw [hhf] at u1 l1 s2
          rw [hht] at u2 l2 s2
          have w1w : IntKind.i64.wrap (hf - pc) = hf - pc := by rw [IntKind.wrap_i64]; omega
          have w2w : IntKind.i64.wrap (ht + pc) = ht + pc := by rw [IntKind.wrap_i64]; omega
          have hn1 : (W5.drew.setCell ⟨gh, jf, none⟩ (.int .i64 (hf - pc))).cell? ⟨gh, jt, none⟩ = some (.int .i64 ht) := (World.cell?_setCell_other _ _ _ _ (fun e => hjne (by injection e))).trans u2
          have hfy : ∀ k, (W5.drew.setCell ⟨gh, jf, none⟩ (.int .i64 (hf - pc))).cell? ⟨wr.heap.size, k, none⟩ = W5.cell? ⟨wr.heap.size, k, none⟩ := fun k => World.cell?_setCell_far _ _ _ _ (by show gh ≠ wr.heap.size; omega)
          have f2' : (W5.drew.setCell ⟨gh, jf, none⟩ (.int .i64 (hf - pc))).frozen? ⟨gh, jt, none⟩ = false := (World.frozen?_setCell _ _ _ _).trans z2
          have hpB := hide (show ∀ j' : Nat, j' ≤ 0 → (wsC W5.drew [(W5.drew.setCell ⟨gh, jf, none⟩ (.int .i64 (hf - pc))), ((W5.drew.setCell ⟨gh, jf, none⟩ (.int .i64 (hf - pc))).setCell ⟨gh, jt, none⟩ (.int .i64 (ht + pc)))] j').cell? ⟨gh, jf, none⟩ = some (.int .i64 hf) from by
            intro j' hj'
            obtain rfl : j' = 0 := by omega
            exact u1)
          have hpA := hide (show ∀ j' : Nat, j' ≤ 1 → (wsC W5.drew [(W5.drew.setCell ⟨gh, jf, none⟩ (.int .i64 (hf - pc))), ((W5.drew.setCell ⟨gh, jf, none⟩ (.int .i64 (hf - pc))).setCell ⟨gh, jt, none⟩ (.int .i64 (ht + pc)))] j').cell? ⟨wr.heap.size, 1, none⟩ = some (.int .i64 jf) ∧ (wsC W5.drew [(W5.drew.setCell ⟨gh, jf, none⟩ (.int .i64 (hf - pc))), ((W5.drew.setCell ⟨gh, jf, none⟩ (.int .i64 (hf - pc))).setCell ⟨gh, jt, none⟩ (.int .i64 (ht + pc)))] j').cell? ⟨wr.heap.size, 2, none⟩ = some (.int .i64 jt) ∧ (wsC W5.drew [(W5.drew.setCell ⟨gh, jf, none⟩ (.int .i64 (hf - pc))), ((W5.drew.setCell ⟨gh, jf, none⟩ (.int .i64 (hf - pc))).setCell ⟨gh, jt, none⟩ (.int .i64 (ht + pc)))] j').cell? ⟨wr.heap.size, 3, none⟩ = some (.int .i64 pc) ∧ (wsC W5.drew [(W5.drew.setCell ⟨gh, jf, none⟩ (.int .i64 (hf - pc))), ((W5.drew.setCell ⟨gh, jf, none⟩ (.int .i64 (hf - pc))).setCell ⟨gh, jt, none⟩ (.int .i64 (ht + pc)))] j').cell? ⟨gh, jt, none⟩ = some (.int .i64 ht) from by
            intro j' hj'
            rcases (show j' = 0 ∨ j' = 1 by omega) with rfl | rfl
            · exact ⟨y1, y2, y3, u2⟩
            · exact ⟨(hfy 1).trans y1, (hfy 2).trans y2, (hfy 3).trans y3, hn1⟩)
          have hghB : w5.heap.size ≤ gh := by omega
          have hBf := hide (((hBr5.out.drew).setCell (p := ⟨gh, jf, none⟩) hghB (.int .i64 (hf - pc))).setCell (p := ⟨gh, jt, none⟩) hghB (.int .i64 (ht + pc)))
          replace s2 := hide s2
          replace hfs := hide hfs
          clear s1 hrow5 hfy eh fz ech l1 l2 hhf hht hll hprev
          go_wp2
          refine region_chain [23, 25] [.slice (some ⟨gh, 0, none⟩) na na, .pointer (some ⟨wr.heap.size, 1, none⟩), .int .i64 jf, .slice (some ⟨gh, 0, none⟩) na na, .pointer (some ⟨wr.heap.size, 2, none⟩), .int .i64 jt, .slice (some ⟨gh, 0, none⟩) na na, .pointer (some ⟨wr.heap.size, 1, none⟩), .int .i64 jf, .pointer (some ⟨gh, jf, none⟩), .int .i64 hf, .pointer (some ⟨wr.heap.size, 3, none⟩), .int .i64 pc, .int .i64 (hf - pc), .slice (some ⟨gh, 0, none⟩) na na, .pointer (some ⟨wr.heap.size, 2, none⟩), .int .i64 jt, .pointer (some ⟨gh, jt, none⟩), .int .i64 ht, .pointer (some ⟨wr.heap.size, 3, none⟩), .int .i64 pc, .int .i64 (ht + pc), .pointer (some ⟨gh, jf, none⟩), undef, .pointer (some ⟨gh, jt, none⟩), undef] (wsC W5.drew [(W5.drew.setCell ⟨gh, jf, none⟩ (.int .i64 (hf - pc))), ((W5.drew.setCell ⟨gh, jf, none⟩ (.int .i64 (hf - pc))).setCell ⟨gh, jt, none⟩ (.int .i64 (ht + pc)))]) (by kernel_rfl) (by kernel_rfl) (by kernel_rfl) (by kernel_rfl) rfl ?_ ?_
          · refine ⟨?_, ?_, ?_, ?_, ?_, ?_, ?_, ?_, ?_, ?_, ?_, ?_, ?_, ?_, ?_, ?_, ?_, ?_, ?_, ?_, ?_, ?_, ?_, ?_, ?_, ?_, trivial⟩
            · refine oneC_still 2 (by kernel_rfl) (by kernel_rfl) ?_
              intro y jj K Q hd hj hK
              generalize wsC W5.drew [(W5.drew.setCell ⟨gh, jf, none⟩ (.int .i64 (hf - pc))), ((W5.drew.setCell ⟨gh, jf, none⟩ (.int .i64 (hf - pc))).setCell ⟨gh, jt, none⟩ (.int .i64 (ht + pc)))] jj = W at *
              clear hd
              revert hK
              simp only [putAll, Act.put]
              go_simp
            · refine oneC_still 2 (by kernel_rfl) (by kernel_rfl) ?_
              intro y jj K Q hd hj hK
              generalize wsC W5.drew [(W5.drew.setCell ⟨gh, jf, none⟩ (.int .i64 (hf - pc))), ((W5.drew.setCell ⟨gh, jf, none⟩ (.int .i64 (hf - pc))).setCell ⟨gh, jt, none⟩ (.int .i64 (ht + pc)))] jj = W at *
              clear hd
              revert hK
              simp only [putAll, Act.put]
              go_simp
            · refine oneC_still 0 (by kernel_rfl) (by kernel_rfl) ?_
              intro y jj K Q hd hj hK
              have b0 := (hpA.out jj (Nat.le_trans hj (by decide))).1
              generalize wsC W5.drew [(W5.drew.setCell ⟨gh, jf, none⟩ (.int .i64 (hf - pc))), ((W5.drew.setCell ⟨gh, jf, none⟩ (.int .i64 (hf - pc))).setCell ⟨gh, jt, none⟩ (.int .i64 (ht + pc)))] jj = W at *
              simp [depsC, Region.binds] at hd
              revert hK
              simp only [putAll, Act.put]
              go_simp
            · refine oneC_still 2 (by kernel_rfl) (by kernel_rfl) ?_
              intro y jj K Q hd hj hK
              generalize wsC W5.drew [(W5.drew.setCell ⟨gh, jf, none⟩ (.int .i64 (hf - pc))), ((W5.drew.setCell ⟨gh, jf, none⟩ (.int .i64 (hf - pc))).setCell ⟨gh, jt, none⟩ (.int .i64 (ht + pc)))] jj = W at *
              clear hd
              revert hK
              simp only [putAll, Act.put]
              go_simp
            · refine oneC_still 2 (by kernel_rfl) (by kernel_rfl) ?_
              intro y jj K Q hd hj hK
              generalize wsC W5.drew [(W5.drew.setCell ⟨gh, jf, none⟩ (.int .i64 (hf - pc))), ((W5.drew.setCell ⟨gh, jf, none⟩ (.int .i64 (hf - pc))).setCell ⟨gh, jt, none⟩ (.int .i64 (ht + pc)))] jj = W at *
              clear hd
              revert hK
              simp only [putAll, Act.put]
              go_simp
            · refine oneC_still 1 (by kernel_rfl) (by kernel_rfl) ?_
              intro y jj K Q hd hj hK
              have b0 := (hpA.out jj (Nat.le_trans hj (by decide))).2.1
              generalize wsC W5.drew [(W5.drew.setCell ⟨gh, jf, none⟩ (.int .i64 (hf - pc))), ((W5.drew.setCell ⟨gh, jf, none⟩ (.int .i64 (hf - pc))).setCell ⟨gh, jt, none⟩ (.int .i64 (ht + pc)))] jj = W at *
              simp [depsC, Region.binds] at hd
              revert hK
              simp only [putAll, Act.put]
              go_simp
            · refine oneC_still 2 (by kernel_rfl) (by kernel_rfl) ?_
              intro y jj K Q hd hj hK
              generalize wsC W5.drew [(W5.drew.setCell ⟨gh, jf, none⟩ (.int .i64 (hf - pc))), ((W5.drew.setCell ⟨gh, jf, none⟩ (.int .i64 (hf - pc))).setCell ⟨gh, jt, none⟩ (.int .i64 (ht + pc)))] jj = W at *
              clear hd
              revert hK
              simp only [putAll, Act.put]
              go_simp
            · refine oneC_still 2 (by kernel_rfl) (by kernel_rfl) ?_
              intro y jj K Q hd hj hK
              generalize wsC W5.drew [(W5.drew.setCell ⟨gh, jf, none⟩ (.int .i64 (hf - pc))), ((W5.drew.setCell ⟨gh, jf, none⟩ (.int .i64 (hf - pc))).setCell ⟨gh, jt, none⟩ (.int .i64 (ht + pc)))] jj = W at *
              clear hd
              revert hK
              simp only [putAll, Act.put]
              go_simp
            · refine oneC_still 0 (by kernel_rfl) (by kernel_rfl) ?_
              intro y jj K Q hd hj hK
              have b0 := (hpA.out jj (Nat.le_trans hj (by decide))).1
              generalize wsC W5.drew [(W5.drew.setCell ⟨gh, jf, none⟩ (.int .i64 (hf - pc))), ((W5.drew.setCell ⟨gh, jf, none⟩ (.int .i64 (hf - pc))).setCell ⟨gh, jt, none⟩ (.int .i64 (ht + pc)))] jj = W at *
              simp [depsC, Region.binds] at hd
              revert hK
              simp only [putAll, Act.put]
              go_simp
            · refine oneC_still 2 (by kernel_rfl) (by kernel_rfl) ?_
              intro y jj K Q hd hj hK
              generalize wsC W5.drew [(W5.drew.setCell ⟨gh, jf, none⟩ (.int .i64 (hf - pc))), ((W5.drew.setCell ⟨gh, jf, none⟩ (.int .i64 (hf - pc))).setCell ⟨gh, jt, none⟩ (.int .i64 (ht + pc)))] jj = W at *
              simp [depsC, Region.binds] at hd
              revert hK
              simp only [putAll, Act.put]
              go_simp
            · refine oneC_still 0 (by kernel_rfl) (by kernel_rfl) ?_
              intro y jj K Q hd hj hK
              have b0 := hpB.out jj hj
              generalize wsC W5.drew [(W5.drew.setCell ⟨gh, jf, none⟩ (.int .i64 (hf - pc))), ((W5.drew.setCell ⟨gh, jf, none⟩ (.int .i64 (hf - pc))).setCell ⟨gh, jt, none⟩ (.int .i64 (ht + pc)))] jj = W at *
              simp [depsC, Region.binds] at hd
              revert hK
              simp only [putAll, Act.put]
              go_simp
            · refine oneC_still 2 (by kernel_rfl) (by kernel_rfl) ?_
              intro y jj K Q hd hj hK
              generalize wsC W5.drew [(W5.drew.setCell ⟨gh, jf, none⟩ (.int .i64 (hf - pc))), ((W5.drew.setCell ⟨gh, jf, none⟩ (.int .i64 (hf - pc))).setCell ⟨gh, jt, none⟩ (.int .i64 (ht + pc)))] jj = W at *
              clear hd
              revert hK
              simp only [putAll, Act.put]
              go_simp
            · refine oneC_still 0 (by kernel_rfl) (by kernel_rfl) ?_
              intro y jj K Q hd hj hK
              have b0 := (hpA.out jj (Nat.le_trans hj (by decide))).2.2.1
              generalize wsC W5.drew [(W5.drew.setCell ⟨gh, jf, none⟩ (.int .i64 (hf - pc))), ((W5.drew.setCell ⟨gh, jf, none⟩ (.int .i64 (hf - pc))).setCell ⟨gh, jt, none⟩ (.int .i64 (ht + pc)))] jj = W at *
              simp [depsC, Region.binds] at hd
              revert hK
              simp only [putAll, Act.put]
              go_simp
            · refine oneC_still 2 (by kernel_rfl) (by kernel_rfl) ?_
              intro y jj K Q hd hj hK
              generalize wsC W5.drew [(W5.drew.setCell ⟨gh, jf, none⟩ (.int .i64 (hf - pc))), ((W5.drew.setCell ⟨gh, jf, none⟩ (.int .i64 (hf - pc))).setCell ⟨gh, jt, none⟩ (.int .i64 (ht + pc)))] jj = W at *
              simp [depsC, Region.binds] at hd
              revert hK
              simp only [putAll, Act.put]
              go_simp
            · refine oneC_still 2 (by kernel_rfl) (by kernel_rfl) ?_
              intro y jj K Q hd hj hK
              generalize wsC W5.drew [(W5.drew.setCell ⟨gh, jf, none⟩ (.int .i64 (hf - pc))), ((W5.drew.setCell ⟨gh, jf, none⟩ (.int .i64 (hf - pc))).setCell ⟨gh, jt, none⟩ (.int .i64 (ht + pc)))] jj = W at *
              clear hd
              revert hK
              simp only [putAll, Act.put]
              go_simp
            · refine oneC_still 2 (by kernel_rfl) (by kernel_rfl) ?_
              intro y jj K Q hd hj hK
              generalize wsC W5.drew [(W5.drew.setCell ⟨gh, jf, none⟩ (.int .i64 (hf - pc))), ((W5.drew.setCell ⟨gh, jf, none⟩ (.int .i64 (hf - pc))).setCell ⟨gh, jt, none⟩ (.int .i64 (ht + pc)))] jj = W at *
              clear hd
              revert hK
              simp only [putAll, Act.put]
              go_simp
            · refine oneC_still 1 (by kernel_rfl) (by kernel_rfl) ?_
              intro y jj K Q hd hj hK
              have b0 := (hpA.out jj (Nat.le_trans hj (by decide))).2.1
              generalize wsC W5.drew [(W5.drew.setCell ⟨gh, jf, none⟩ (.int .i64 (hf - pc))), ((W5.drew.setCell ⟨gh, jf, none⟩ (.int .i64 (hf - pc))).setCell ⟨gh, jt, none⟩ (.int .i64 (ht + pc)))] jj = W at *
              simp [depsC, Region.binds] at hd
              revert hK
              simp only [putAll, Act.put]
              go_simp
            · refine oneC_still 2 (by kernel_rfl) (by kernel_rfl) ?_
              intro y jj K Q hd hj hK
              generalize wsC W5.drew [(W5.drew.setCell ⟨gh, jf, none⟩ (.int .i64 (hf - pc))), ((W5.drew.setCell ⟨gh, jf, none⟩ (.int .i64 (hf - pc))).setCell ⟨gh, jt, none⟩ (.int .i64 (ht + pc)))] jj = W at *
              simp [depsC, Region.binds] at hd
              revert hK
              simp only [putAll, Act.put]
              go_simp
            · refine oneC_still 1 (by kernel_rfl) (by kernel_rfl) ?_
              intro y jj K Q hd hj hK
              have b0 := (hpA.out jj (Nat.le_trans hj (by decide))).2.2.2
              generalize wsC W5.drew [(W5.drew.setCell ⟨gh, jf, none⟩ (.int .i64 (hf - pc))), ((W5.drew.setCell ⟨gh, jf, none⟩ (.int .i64 (hf - pc))).setCell ⟨gh, jt, none⟩ (.int .i64 (ht + pc)))] jj = W at *
              simp [depsC, Region.binds] at hd
              revert hK
              simp only [putAll, Act.put]
              go_simp
            · refine oneC_still 2 (by kernel_rfl) (by kernel_rfl) ?_
              intro y jj K Q hd hj hK
              generalize wsC W5.drew [(W5.drew.setCell ⟨gh, jf, none⟩ (.int .i64 (hf - pc))), ((W5.drew.setCell ⟨gh, jf, none⟩ (.int .i64 (hf - pc))).setCell ⟨gh, jt, none⟩ (.int .i64 (ht + pc)))] jj = W at *
              clear hd
              revert hK
              simp only [putAll, Act.put]
              go_simp
            · refine oneC_still 1 (by kernel_rfl) (by kernel_rfl) ?_
              intro y jj K Q hd hj hK
              have b0 := (hpA.out jj (Nat.le_trans hj (by decide))).2.2.1
              generalize wsC W5.drew [(W5.drew.setCell ⟨gh, jf, none⟩ (.int .i64 (hf - pc))), ((W5.drew.setCell ⟨gh, jf, none⟩ (.int .i64 (hf - pc))).setCell ⟨gh, jt, none⟩ (.int .i64 (ht + pc)))] jj = W at *
              simp [depsC, Region.binds] at hd
              revert hK
              simp only [putAll, Act.put]
              go_simp
            · refine oneC_still 2 (by kernel_rfl) (by kernel_rfl) ?_
              intro y jj K Q hd hj hK
              generalize wsC W5.drew [(W5.drew.setCell ⟨gh, jf, none⟩ (.int .i64 (hf - pc))), ((W5.drew.setCell ⟨gh, jf, none⟩ (.int .i64 (hf - pc))).setCell ⟨gh, jt, none⟩ (.int .i64 (ht + pc)))] jj = W at *
              simp [depsC, Region.binds] at hd
              revert hK
              simp only [putAll, Act.put]
              go_simp
            · refine oneC_still 2 (by kernel_rfl) (by kernel_rfl) ?_
              intro y jj K Q hd hj hK
              generalize wsC W5.drew [(W5.drew.setCell ⟨gh, jf, none⟩ (.int .i64 (hf - pc))), ((W5.drew.setCell ⟨gh, jf, none⟩ (.int .i64 (hf - pc))).setCell ⟨gh, jt, none⟩ (.int .i64 (ht + pc)))] jj = W at *
              simp [depsC, Region.binds] at hd
              revert hK
              simp only [putAll, Act.put]
              go_simp
            · refine oneC_eff 0 rfl ?_
              intro y K Q hd hK
              simp [depsC, Region.binds] at hd
              revert hK
              simp only [wsC]
              simp only [putAll, Act.put]
              go_simp
            · refine oneC_still 2 (by kernel_rfl) (by kernel_rfl) ?_
              intro y jj K Q hd hj hK
              generalize wsC W5.drew [(W5.drew.setCell ⟨gh, jf, none⟩ (.int .i64 (hf - pc))), ((W5.drew.setCell ⟨gh, jf, none⟩ (.int .i64 (hf - pc))).setCell ⟨gh, jt, none⟩ (.int .i64 (ht + pc)))] jj = W at *
              simp [depsC, Region.binds] at hd
              revert hK
              simp only [putAll, Act.put]
              go_simp
            · refine oneC_eff 1 rfl ?_
              intro y K Q hd hK
              simp [depsC, Region.binds] at hd
              revert hK
              simp only [wsC]
              simp only [putAll, Act.put]
              go_simp
          · simp only [putAll, Act.put, wsC, List.length_cons, List.length_nil]
            simp only [List.setIfInBounds_toArray, List.set_cons_succ, List.set_cons_zero, List.getD_cons_zero, List.getD_cons_succ]
            clear hpA hpB hn1 f2' u1 u2 z1 z2 y1 y2 y3
            generalize ((W5.drew.setCell ⟨gh, jf, none⟩ (.int .i64 (hf - pc))).setCell ⟨gh, jt, none⟩ (.int .i64 (ht + pc))) = WF at *
            go_wp2
            go_roundg ((runR S es).2.pst.length - (i + 1))
            case measure => omega
            case rel => exact ⟨i + 1, by omega, by omega, by go_num, s2.out, hBf.out⟩
      · have hltz : ¬ (i : Int) < ((runR S es).2.pst.length : Int) := by omega
        obtain rfl : i = (runR S es).2.pst.length := by omega
        rw [List.take_length, ← haccp.out] at hrow
        have hBx := hide (hb15.out.trans (hBr.out.mono hb15.out.size))
        have x3 : wr.cell? ⟨w1.heap.size, 3, none⟩ = some (.slice A3 na q3) := by have := (kx.out.below hBr.out kx.out.lt).cell 3; rw [hnae.out] at this; exact this
        have i9 := hrow.out.isInts
        rw [hnae.out] at haW
        have hi1 := hide (Ints_t i9 (haW.out wr hBx.out) rfl (by rw [hnae.out]; unfold maxLen; omega))
        have hlim2 := hide (sum_lim (d := 2000000000) (by omega) haccl.out)
        clear i9 hrow
        generalize wr = wo at *
        go_wp2
        go_loopg [13, 14] na (fun gg s13 s14 wr => ∃ k : Nat, k ≤ na ∧ na ≤ gg + k ∧ s14 = .int .i64 k ∧ s13 = .int .i64 (((runR S es).2.acc.take k).sum) ∧ wr = wo)
        case atStart => exact ⟨0, Nat.zero_le _, by omega, rfl, rfl, rfl⟩
        case round =>
          obtain ⟨k, hk, hgk, rfl, rfl, rfl⟩ := hrel
          by_cases hkl : k < na
          · have hklz : (k : Int) < (na : Int) := by omega
            have hk0 : (0 : Int) ≤ (k : Int) := by omega
            obtain ⟨ga, oa, rfl, hga, m0⟩ := int_read (haW.out _ hBx.out) (show k < (runR S es).2.acc.length by rw [hnae.out]; exact hkl)
            have hs1 := sum_take (xs := (runR S es).2.acc) (i := k) (by rw [hnae.out]; exact hkl)
            have hb1 := hlim2.out (k + 1) (by rw [hnae.out]; omega)
            obtain ⟨s1, hs1e⟩ : ∃ z, ((runR S es).2.acc.take (k + 1)).sum = z := ⟨_, rfl⟩
            rw [hs1e] at hs1 hb1
            replace hs1e := hide hs1e
            generalize ((runR S es).2.acc.take k).sum = s0 at *
            generalize (runR S es).2.acc[k]?.getD 0 = av at *
            subst hs1
            have hw1 : IntKind.i64.wrap (s0 + av) = s0 + av := by rw [IntKind.wrap_i64]; omega
            clear hb1
            go_wp2
            go_roundg (na - (k + 1))
            case measure => omega
            case rel => exact ⟨k + 1, by omega, by omega, by go_num, by rw [hs1e.out], rfl⟩
          · have hklz : ¬ (k : Int) < (na : Int) := by omega
            obtain rfl : k = na := by omega
            have hsum : ((runR S es).2.acc.take k).sum = 0 := by rw [← hnae.out, List.take_length]; exact heven.out
            rw [hsum]
            replace hsum := hide hsum
            go_wp2_with fail
            refine hi1.out.mono ?_
            rintro e w7 ⟨rfl, hb⟩
            replace hBw := hide (hBw.out.trans (hb.mono hBw.out.size))
            clear hb x3
            go_wp2_with fail
            refine (AwakeB _).mono ?_
            rintro e w8 ⟨rfl, hb⟩
            replace hBw := hide (hBw.out.trans (hb.mono hBw.out.size))
            clear hb
            go_wp2
            go_ret
            exact ⟨rfl, hBw.out⟩
  · have b0 : (runE S es != 0) = true := bne_iff_ne.2 hq
    have hz : (runR S es).2.pst.length = 0 := by rw [runR_err hq]; rfl
    have hst := hide (fun W' (hb : Below w1.heap.size w1 W') => States_t (hxW.out W' hb) (isState_none W') (by rw [runR_err hq]; exact ⟨rfl, rfl, rfl, rfl⟩) ⟨Nat.zero_le _, Nat.zero_le _, Nat.zero_le _⟩)
    rw [hz]
    have x0 : w3.cell? ⟨w1.heap.size, 0, none⟩ = some (.slice A0 (runR S es).2.les.length q0) := kx.out.cell 0
    have x1 : w3.cell? ⟨w1.heap.size, 1, none⟩ = some (.slice A1 (runR S es).2.km.length q1) := kx.out.cell 1
    have x2 : w3.cell? ⟨w1.heap.size, 2, none⟩ = some (.slice A2 (runR S es).2.since.length q2) := kx.out.cell 2
    have x3 : w3.cell? ⟨w1.heap.size, 3, none⟩ = some (.slice A3 (runR S es).2.acc.length q3) := kx.out.cell 3
    generalize runE S es = qe at *
    generalize runR S es = qr at *
    replace hq := hide hq
    replace hz := hide hz
    clear hV hSc huW heW hxW hlW hkW hsW haW hpW
    go_wp2_with fail
    refine (hst.out w3 hb13.out).mono ?_
    rintro e w4 ⟨rfl, hb⟩
    replace hB := hide (hB.out.trans (hb.mono hB.out.size))
    clear hb x0 x1 x2 x3 hst
    go_wp2_with fail
    refine (AwakeB _).mono ?_
    rintro e w5 ⟨rfl, hb⟩
    replace hB := hide (hB.out.trans (hb.mono hB.out.size))
    clear hb
    go_wp2
    go_ret
    exact ⟨rfl, hB.out⟩
end Go.Proofs.Ytkmhldjebopljaa
