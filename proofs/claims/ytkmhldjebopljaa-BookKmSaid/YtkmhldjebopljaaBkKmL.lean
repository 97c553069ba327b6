/-
  The law BookKm: each car has its kilometres (made by mkbkkm.py).
-/
import Derived.Test.YtkmhldjebopljaaQb
namespace Go.Proofs.Ytkmhldjebopljaa
open Go.RowKit RG

theorem errs_at {S : BSch} {es : List BEv} (h : runE S es = 0) {j : Nat} (hj : j < es.length) : (runR S es).1[j]?.getD 0 = errAt S es j := by
  rw [(runR_er h).1, er_at S es hj (Nat.le_refl _)]; rfl
set_option maxRecDepth 100000 in
set_option maxHeartbeats 8000000 in
theorem BookKm_any (v u : Value) (S : BSch) (es : List BEv) (w : World) (h : RdBSch w v S) (hu : IsRow 11 (es.map evCells) u w) :
    Calls Try.prog 9 #[v, u] w fun e w' => e = .returned (.bool true) ∧ Below w.heap.size w w' := by
  have hRun := hide (fun W (hb : Below w.heap.size w W) => Run_k v u S es W (h.below hb) (hu.below hb))
  have hPst := hide (fun W (hb : Below w.heap.size w W) => Postings_k v u S es W (h.below hb) (hu.below hb))
  have hV := hide (fun W (hb : Below w.heap.size w W) => valid_any v S W (h.below hb))
  have hSc := hide (fun W (hb : Below w.heap.size w W) => h.below hb)
  have huW := hide (fun W (hb : Below w.heap.size w W) => hu.below hb)
  obtain ⟨L, C, T, cl, cc, ct, rfl, hR⟩ := h
  have hRW := hide (fun W (hb : Below w.heap.size w W) => hR.below hb)
  clear hR
  obtain ⟨A, ce, rfl, hce, hcm⟩ := evRow_len hu
  have hEW := hide (fun W (hb : Below w.heap.size w W) => (ev_read hu).below hb)
  clear hu
  obtain ⟨W, hW⟩ : ∃ y, w.alloc (.cells (schCells L C T cl cc ct S) 28) = y := ⟨_, rfl⟩
  have kb := hide (show Blk W w.heap.size 28 (schCells L C T cl cc ct S) by rw [← hW]; exact blkNew rfl)
  have hB := hide (show Below w.heap.size w W by rw [← hW]; exact (Below.refl _ _).alloc (Nat.le_refl _) _)
  replace hW := hide hW
  unfold schCells at *
  unfold maxLen at hcm
  clear hPst
  obtain ⟨c0, c1, c2, c3, c4, c5, c6⟩ := sch_cells (w := W) (p := w.heap.size) (S := S) kb.out
  go_enter Try.func9, Try.ntmps9
  go_upto_region 1 with fail
  rw [hW.out]
  go_wp2_with fail
  refine (hRun.out _ hB.out).mono ?_
  rintro e w1 ⟨⟨v1, v2, rfl, he, hx⟩, hb⟩
  have heW := hide (fun W' (hb : Below w1.heap.size w1 W') => he.below hb)
  have hxW := hide (fun W' (hb : Below w1.heap.size w1 W') => hx.below hb)
  obtain ⟨Ae, ca, rfl, -, hca⟩ := he
  obtain ⟨A0, q0, A1, q1, A2, q2, A3, q3, rfl, hl, hk, hs, ha⟩ := hx.parts
  have hlW := hide (fun W' (hb : Below w1.heap.size w1 W') => hl.below hb)
  have hkW := hide (fun W' (hb : Below w1.heap.size w1 W') => hk.below hb)
  have hsW := hide (fun W' (hb : Below w1.heap.size w1 W') => hs.below hb)
  have haW := hide (fun W' (hb : Below w1.heap.size w1 W') => ha.below hb)
  clear hl hk hs ha hx
  clear c0 c1 c2 c3 c4 c5 c6
  replace kb := hide (kb.out.below hb kb.out.lt)
  replace hB := hide (hB.out.trans (hb.mono hB.out.size))
  clear hb hRun
  obtain ⟨W2, hW2⟩ : ∃ y, w1.alloc (.cells #[.slice A0 (runR S es).2.les.length q0, .slice A1 (runR S es).2.km.length q1, .slice A2 (runR S es).2.since.length q2, .slice A3 (runR S es).2.acc.length q3] 42) = y := ⟨_, rfl⟩
  have hb12 := hide (show Below w1.heap.size w1 W2 by rw [← hW2]; exact (Below.refl _ _).alloc (Nat.le_refl _) _)
  have kx := hide (show Blk W2 w1.heap.size 42 #[.slice A0 (runR S es).2.les.length q0, .slice A1 (runR S es).2.km.length q1, .slice A2 (runR S es).2.since.length q2, .slice A3 (runR S es).2.acc.length q3] by rw [← hW2]; exact blkNew rfl)
  replace kb := hide (kb.out.below hb12.out kb.out.lt)
  replace hB := hide (hB.out.trans (hb12.out.mono hB.out.size))
  replace hW2 := hide hW2
  by_cases hq : runE S es = 0
  · have ha := after_of hq
    have her := hide (runR_er hq)
    have hea := hide (fun (j : Nat) (hj : j < es.length) => errs_at hq hj)
    have hSok := hide (sch_ok ha.sch)
    have hnc := ha.nc
    have hfew := ha.few
    have hgdj := hide (fun (j : Nat) (hj : j ≤ es.length) => (bk_gd (sch_gd ha.sch) es (j := j) (by have := ha.few; omega)).1)
    rw [hq]
    have hvt := hide (fun W (hb : Below w.heap.size w W) => show Calls Try.prog 33 #[.agg #[.slice L S.learners.length cl, .slice C S.cars.length cc, .int .i64 S.price, .int .i64 S.excess, .int .i64 S.lo, .int .i64 S.hi, .slice T S.terms.length ct]] W fun e w' => e = .returned (.bool true) ∧ Below W.heap.size W w' from by
      have := hV.out W hb
      rwa [ha.sch, show decide ((0 : Int) = 0) = true from rfl] at this)
    have hsh := hide (fun W' (hb : Below w.heap.size w W') (hb1 : Below w1.heap.size w1 W') => shaped_t (hSc.out W' hb) (hxW.out W' hb1) ha.ok.km ha.ok.since ha.ok.accLen ha.ok.les (by have := ha.nl; omega))
    have hlen := ha.len
    have hkl := hide (show (runR S es).2.les.length ≤ 100 from ha.gd.lim.les)
    replace ha := hide ha
    rw [hlen] at heW ⊢
    clear hV hlen
    go_upto_region 2 with fail
    rw [hW2.out]
    obtain ⟨c0, c1, c2, c3, c4, c5, c6⟩ := sch_cells (w := W2) (p := w.heap.size) (S := S) kb.out
    go_wp2_with fail
    refine (hvt.out W2 hB.out).mono ?_
    rintro e w3 ⟨rfl, hb⟩
    have hb3 := hide hb
    replace kb := hide (kb.out.below hb kb.out.lt)
    replace kx := hide (kx.out.below hb kx.out.lt)
    replace hB := hide (hB.out.trans (hb.mono hB.out.size))
    clear hb hvt
    have hb13 := hide (hb12.out.trans ((hb3.out).mono hb12.out.size))
    clear c0 c1 c2 c3 c4 c5 c6
    obtain ⟨c0, c1, c2, c3, c4, c5, c6⟩ := sch_cells (w := w3) (p := w.heap.size) (S := S) kb.out
    have x0 : w3.cell? ⟨w1.heap.size, 0, none⟩ = some (.slice A0 (runR S es).2.les.length q0) := kx.out.cell 0
    have x1 : w3.cell? ⟨w1.heap.size, 1, none⟩ = some (.slice A1 (runR S es).2.km.length q1) := kx.out.cell 1
    have x2 : w3.cell? ⟨w1.heap.size, 2, none⟩ = some (.slice A2 (runR S es).2.since.length q2) := kx.out.cell 2
    have x3 : w3.cell? ⟨w1.heap.size, 3, none⟩ = some (.slice A3 (runR S es).2.acc.length q3) := kx.out.cell 3
    go_wp2_with fail
    refine (hsh.out w3 hB.out hb13.out).mono ?_
    rintro e w4 ⟨rfl, hb⟩
    replace kb := hide (kb.out.below hb kb.out.lt)
    replace kx := hide (kx.out.below hb kx.out.lt)
    replace hB := hide (hB.out.trans (hb.mono hB.out.size))
    have hb14 := hide (hb13.out.trans (hb.mono hb13.out.size))
    clear hb hsh c0 c1 c2 c3 c4 c5 c6 x0 x1 x2 x3 hb13 hb12
    have hrow0 := hide (show ((S.cars.map BCar.km).take 0).map iCells = [] from rfl)
    go_upto_region 8 with fail
    go_loopg [8, 9, 10] S.cars.length (fun gg s8 s9 s10 wr => ∃ j : Nat, j ≤ S.cars.length ∧ S.cars.length ≤ gg + j ∧ s10 = .int .i64 j ∧ Hid (RowAt wr (fun k => k < w4.heap.size) 3 1 s8 (((S.cars.map BCar.km).take j).map iCells)) ∧ Hid (RowAt wr (fun k => k < w4.heap.size) 3 1 s9 ((List.replicate j (0 : Int)).map iCells)) ∧ Hid (Disj s8 s9) ∧ Hid (Below w4.heap.size w4 wr))
    case atStart => exact ⟨0, Nat.zero_le _, by omega, rfl, rowAt_nil _ _ _ _, rowAt_nil _ _ _ _, disj_none, Below.refl _ _⟩
    case round =>
      obtain ⟨j, hj, hgg, rfl, r8, r9, hd, hBr⟩ := hrel
      have hBw := hide (hB.out.trans (hBr.out.mono hB.out.size))
      have c1 : wr.cell? ⟨w.heap.size, 1, none⟩ = some (.slice C S.cars.length cc) := (kb.out.below hBr.out kb.out.lt).cell 1
      by_cases hlt : j < S.cars.length
      · have hltz : (j : Int) < (S.cars.length : Int) := by omega
        have hj0 : (0 : Int) ≤ (j : Int) := by omega
        obtain ⟨bc, oc, rfl, hbc, cm, -, -⟩ := car_cells (hRW.out wr hBw.out) hlt
        have ek : (S.cars.map BCar.km).take j ++ [(S.cars[j]?.getD default).km] = (S.cars.map BCar.km).take (j + 1) := by
          rw [List.take_succ_eq_append_getElem (by rw [List.length_map]; exact hlt), List.getElem_map, List.getElem?_eq_getElem hlt]
          rfl
        have es0 : List.replicate j (0 : Int) ++ [0] = List.replicate (j + 1) 0 := by rw [List.replicate_succ']
        have ho : Old (fun k => k < w4.heap.size) wr := fun g hg => Nat.lt_of_lt_of_le hg hBr.out.size
        obtain ⟨v8, wa, hrun1, r8', k1, o1⟩ := app_int r8.out ho (by rw [List.length_take, List.length_map]; omega) (S.cars[j]?.getD default).km
        obtain ⟨r9a, hd2⟩ := o1 r9.out hd.out.symm
        obtain ⟨v9, wb, hrun2, r9', k2, o2⟩ := app_int r9a (ho.kept k1) (by rw [List.length_replicate]; omega) 0
        obtain ⟨r8b, hd3⟩ := o2 r8' hd2.symm
        rw [ek] at r8b
        rw [es0] at r9'
        replace r8b := hide r8b
        replace r9' := hide r9'
        replace hd3 := hide hd3
        have hBb := hide (hBr.out.trans (KeptX.below (k1.trans k2)))
        replace hrun1 := hide hrun1
        replace hrun2 := hide hrun2
        clear ek es0 ho r8' k1 o1 r9a hd2 k2 o2 r8 r9 hd hBr
        generalize S.cars[j]?.getD default = cq at *
        go_wp2_with (at_builtin; first
          | refine wpList_append_run rfl _ _ 40 rfl _ _ _ rfl rfl hrun1.out ?_
          | refine wpList_append_run rfl _ _ 40 rfl _ _ _ rfl rfl hrun2.out ?_)
        go_roundg (S.cars.length - (j + 1))
        case measure => omega
        case rel => exact ⟨j + 1, by omega, by omega, by go_num, r8b.out, r9'.out, hd3.out, hBb.out⟩
      · have hltz : ¬ (j : Int) < (S.cars.length : Int) := by omega
        obtain rfl : j = S.cars.length := by omega
        rw [List.take_of_length_le (by rw [List.length_map]; exact Nat.le_refl _)] at r8
        have hz0 : (S.cars.map fun _ => (0 : Int)) = List.replicate S.cars.length 0 := List.map_const' ..
        rw [← hz0] at r9
        have hbk0 : bk S es 0 = startB S := rfl
        have hb0 : (bk S es 0).km = S.cars.map BCar.km ∧ (bk S es 0).since = S.cars.map fun _ => (0 : Int) := by rw [hbk0]; exact ⟨rfl, rfl⟩
        rw [← hb0.1] at r8
        rw [← hb0.2] at r9
        have hl8 : (bk S es 0).km.length = S.cars.length := by rw [hb0.1, List.length_map]
        have hl9 : (bk S es 0).since.length = S.cars.length := by rw [hb0.2, List.length_map]
        obtain ⟨g8, p8, rfl, hx8, hg8, -⟩ := int_row r8.out (by omega)
        obtain ⟨g9, p9, rfl, hx9, hg9, -⟩ := int_row r9.out (by omega)
        rw [hl8] at r8 hd ⊢
        rw [hl9] at r9 hd ⊢
        have hne : g8 ≠ g9 := fun e => hd.out g8 rfl (by rw [e]; rfl)
        have hx8' : w4.heap.size ≤ g8 := Nat.le_of_not_lt hx8
        have hx9' : w4.heap.size ≤ g9 := Nat.le_of_not_lt hx9
        replace hb0 := hide hb0
        clear hbk0 hz0 hl8 hl9 hx8 hx9 hd hg8 hg9
        replace hrow0 := hide hrow0
        go_wp2
        have r8k := hide r8
        have r9k := hide r9
        go_loopg [11, 12, 13] es.length (fun gg s11 _ _ wr => ∃ j : Nat, j ≤ es.length ∧ es.length ≤ gg + j ∧ s11 = .int .i64 j ∧ Hid (RowAt wr (fun k => k < w4.heap.size) 3 1 (.slice (some ⟨g8, 0, none⟩) S.cars.length p8) ((bk S es j).km.map iCells)) ∧ Hid (RowAt wr (fun k => k < w4.heap.size) 3 1 (.slice (some ⟨g9, 0, none⟩) S.cars.length p9) ((bk S es j).since.map iCells)) ∧ Hid (Below w4.heap.size w4 wr))
        case atStart => exact ⟨0, Nat.zero_le _, by omega, rfl, r8k.out.out, r9k.out.out, hBr.out⟩
        case round =>
          clear r8 r9 r8k r9k hBr hBw
          obtain ⟨j, hj, hgg, rfl, r8, r9, hBr⟩ := hrel
          have hBw := hide (hB.out.trans (hBr.out.mono hB.out.size))
          have hBx := hide (hb14.out.trans (hBr.out.mono hb14.out.size))
          by_cases hlt : j < es.length
          · have hltz : (j : Int) < (es.length : Int) := by omega
            have hj0 : (0 : Int) ≤ (j : Int) := by omega
            obtain ⟨be, oe, rfl, hbe, d0, d1, d2, d3, d4, d5, d6, d7, d8, d9, d10⟩ := ev_row (hEW.out wr hBw.out) hlt
            obtain ⟨ge, oe2, rfl, hge, m0⟩ := int_read (heW.out wr hBx.out) (by rw [show (runR S es).1.length = es.length from ha.out.len]; exact hlt)
            rw [hea.out j hlt] at m0
            have hst := km_step hSok.out es hlt
            rw [← her.out.2] at hst
            unfold KmStep at hst
            have hgd := hide (hgdj.out (j + 1) (by omega))
            have hgd0 := hide (hgdj.out j (by omega))
            generalize hxe : es[j]?.getD default = x at *
            replace hxe := hide hxe
            obtain ⟨W4, hW4⟩ : ∃ y, wr.alloc (.cells (evCells x).toArray 65) = y := ⟨_, rfl⟩
            have hB4 := hide (show Below wr.heap.size wr W4 by rw [← hW4]; exact (Below.refl _ _).alloc (Nat.le_refl _) _)
            have ky := hide (show Blk W4 wr.heap.size 65 (evCells x).toArray by rw [← hW4]; exact blkNew rfl)
            have r8' := hide (r8.out.below hB4.out)
            have r9' := hide (r9.out.below hB4.out)
            have hBr4 := hide (hBr.out.trans (hB4.out.mono hBr.out.size))
            have hBx4 := hide (hBx.out.trans (hB4.out.mono hBx.out.size))
            have hwr := hBr.out.size
            have hg8w : g8 < wr.heap.size := r8.out.lt rfl
            have hg9w : g9 < wr.heap.size := r9.out.lt rfl
            have m1 := (cellB hB4.out hge).trans m0
            clear r8 r9 m0
            obtain ⟨k0, k1, k2, k3, k4, k5, k6, k7, k8, k9, k10⟩ := ev_cells ky.out
            obtain ⟨xkind, xat, xlearner, xcar, xbooking, xstart, xhours, xday, xweather, xkm, xcents⟩ := x
            unfold evCells at *
            simp only at *
            replace hW4 := hide hW4
            generalize errAt S es j = er at *
            clear k1 k2 k5 k6 k7 k8 k10
            go_upto_region 15 with fail
            rw [hW4.out]
            clear d0 d1 d2 d3 d4 d5 d6 d7 d8 d9 d10
            rcases hst with ⟨h0, h1, h2⟩ | ⟨h0, h3, ⟨jb, jc, hjb, hjl, hjc, hjn, h1, h2⟩, h5, h6⟩ | ⟨h0, h4, jc, hjc, hjn, h1, h2⟩ | ⟨h0, h3, h4, h1, h2⟩
            · have b0 : (er != 0) = true := bne_iff_ne.2 h0
              rw [← h1] at r8'
              rw [← h2] at r9'
              replace h1 := hide h1
              replace h2 := hide h2
              go_wp2
              go_roundg (es.length - (j + 1))
              case measure => omega
              case rel => exact ⟨j + 1, by omega, by omega, by go_num, r8'.out, r9'.out, hBr4.out⟩
            · subst h0
              subst h3
              subst hjb
              have x0 : W4.cell? ⟨w1.heap.size, 0, none⟩ = some (.slice A0 (runR S es).2.les.length q0) := ((kx.out.below hBr.out kx.out.lt).below hB4.out (kx.out.below hBr.out kx.out.lt).lt).cell 0
              obtain ⟨gl, ol, rfl, hgl, -, lc, -⟩ := les_read (hlW.out W4 hBx4.out) hjl
              rw [hjc] at lc
              have t1 : decide ((jb : Int) < 0) = false := decide_eq_false (by omega)
              have t2 : decide (((runR S es).2.les.length : Int) ≤ (jb : Int)) = false := decide_eq_false (by omega)
              have hjlz : (jb : Int) < ((runR S es).2.les.length : Int) := by omega
              have hjcz : (jc : Int) < (S.cars.length : Int) := by omega
              have hjb0 : (0 : Int) ≤ (jb : Int) := by omega
              have hjc0 : (0 : Int) ≤ (jc : Int) := by omega
              have hj8 : jc < (bk S es j).km.length := by rw [hgd0.out.km]; exact hjn
              have hj9 : jc < (bk S es j).since.length := by rw [hgd0.out.since]; exact hjn
              obtain ⟨g8', p8', e8, -, hg8, -, -, f8, e8c, -⟩ := int_row r8'.out (by omega)
              obtain ⟨g9', p9', e9, -, hg9, -, -, f9, e9c, -⟩ := int_row r9'.out (by omega)
              obtain rfl : g8 = g8' := by injection e8 with e8; injection e8 with e8; injection e8
              obtain rfl : g9 = g9' := by injection e9 with e9; injection e9 with e9; injection e9
              have u8 := e8c jc hj8
              have u9 := e9c jc hj9
              have z8 := f8 jc
              have z9 := f9 jc
              have lk := getI_lim hgd0.out.lim.km (j := jc) hj8
              have ls := getI_lim hgd0.out.lim.since (j := jc) hj9
              have s8 := rowInt_set (r8'.out.below (Below.refl _ _).drew) hj8 ((bk S es j).km[jc]?.getD 0 + xkm)
              have s8' := s8.far (p := ⟨g9, jc, none⟩) (by intro e; exact hne (by simpa [Value.ownBlock] using e)) (.int .i64 ((bk S es j).since[jc]?.getD 0 + xkm))
              have s9 := (r9'.out.below (Below.refl _ _).drew).far (p := ⟨g8, jc, none⟩) (by intro e; exact hne (by have e : g9 = g8 := by simpa [Value.ownBlock] using e
                                                                                                                    exact e.symm)) (.int .i64 ((bk S es j).km[jc]?.getD 0 + xkm))
              have s9' := rowInt_set s9 hj9 ((bk S es j).since[jc]?.getD 0 + xkm)
              rw [← h1] at s8'
              rw [← h2] at s9'
              obtain ⟨kv, hkv⟩ : ∃ z, (bk S es j).km[jc]?.getD 0 = z := ⟨_, rfl⟩
              obtain ⟨sv, hsv⟩ : ∃ z, (bk S es j).since[jc]?.getD 0 = z := ⟨_, rfl⟩
              rw [hkv] at u8 lk s8' s9'
              rw [hsv] at u9 ls s8' s9'
              have w8 : IntKind.i64.wrap (kv + xkm) = kv + xkm := by rw [IntKind.wrap_i64]; omega
              have w9 : IntKind.i64.wrap (sv + xkm) = sv + xkm := by rw [IntKind.wrap_i64]; omega
              have hn1 : ∀ u, (W4.drew.setCell ⟨g8, jc, none⟩ u).cell? ⟨g9, jc, none⟩ = W4.cell? ⟨g9, jc, none⟩ := fun u => World.cell?_setCell_far _ _ _ _ hne
              have hn2 : ∀ u, (W4.drew.setCell ⟨g8, jc, none⟩ u).cell? ⟨wr.heap.size, 9, none⟩ = W4.cell? ⟨wr.heap.size, 9, none⟩ := fun u => World.cell?_setCell_far _ _ _ _ (by show g8 ≠ wr.heap.size; intro e; omega)
              have f2 : ∀ u, (W4.drew.setCell ⟨g8, jc, none⟩ u).frozen? ⟨g9, jc, none⟩ = false := fun u => (World.frozen?_setCell _ _ _ _).trans z9
              have hp0 := hide (show ∀ j' : Nat, j' ≤ 0 → (wsC W4.drew [(W4.drew.setCell ⟨g8, jc, none⟩ (.int .i64 (kv + xkm))), ((W4.drew.setCell ⟨g8, jc, none⟩ (.int .i64 (kv + xkm))).setCell ⟨g9, jc, none⟩ (.int .i64 (sv + xkm)))] j').cell? ⟨g8, jc, none⟩ = some (.int .i64 kv) ∧ (wsC W4.drew [(W4.drew.setCell ⟨g8, jc, none⟩ (.int .i64 (kv + xkm))), ((W4.drew.setCell ⟨g8, jc, none⟩ (.int .i64 (kv + xkm))).setCell ⟨g9, jc, none⟩ (.int .i64 (sv + xkm)))] j').cell? ⟨wr.heap.size, 9, none⟩ = some (.int .i64 xkm) from by
                intro j' hj'
                obtain rfl : j' = 0 := by omega
                exact ⟨u8, k9⟩)
              have hp1 := hide (show ∀ j' : Nat, j' ≤ 1 → (wsC W4.drew [(W4.drew.setCell ⟨g8, jc, none⟩ (.int .i64 (kv + xkm))), ((W4.drew.setCell ⟨g8, jc, none⟩ (.int .i64 (kv + xkm))).setCell ⟨g9, jc, none⟩ (.int .i64 (sv + xkm)))] j').cell? ⟨g9, jc, none⟩ = some (.int .i64 sv) ∧ (wsC W4.drew [(W4.drew.setCell ⟨g8, jc, none⟩ (.int .i64 (kv + xkm))), ((W4.drew.setCell ⟨g8, jc, none⟩ (.int .i64 (kv + xkm))).setCell ⟨g9, jc, none⟩ (.int .i64 (sv + xkm)))] j').cell? ⟨wr.heap.size, 9, none⟩ = some (.int .i64 xkm) from by
                intro j' hj'
                rcases (show j' = 0 ∨ j' = 1 by omega) with rfl | rfl
                · exact ⟨u9, k9⟩
                · exact ⟨(hn1 _).trans u9, (hn2 _).trans k9⟩)
              have hn1' := hn1 (.int .i64 (kv + xkm))
              have f2' := f2 (.int .i64 (kv + xkm))
              rw [u9] at hn1'
              have hBf := hide (((hBr4.out.drew).setCell (p := ⟨g8, jc, none⟩) hx8' (.int .i64 (kv + xkm))).setCell (p := ⟨g9, jc, none⟩) hx9' (.int .i64 (sv + xkm)))
              replace s8' := hide s8'
              replace s9' := hide s9'
              replace h1 := hide h1
              replace h2 := hide h2
              replace hjc := hide hjc
              have k0F := hide (show ((W4.drew.setCell ⟨g8, jc, none⟩ (.int .i64 (kv + xkm))).setCell ⟨g9, jc, none⟩ (.int .i64 (sv + xkm))).cell? ⟨wr.heap.size, 0, none⟩ = some (.int .i64 3) from by
                rw [World.cell?_setCell_far _ _ _ _ (by show g9 ≠ wr.heap.size; intro e; omega), World.cell?_setCell_far _ _ _ _ (by show g8 ≠ wr.heap.size; intro e; omega)]
                exact k0)
              clear s8 s9 hn1 hn2 f2 e8 e9 hg8 hg9 f8 f9 e8c e9c lk ls hkv hsv r8' r9'
              go_wp2
              refine region_chain [19, 21] [.slice (some ⟨g8, 0, none⟩) S.cars.length p8, .int .i64 jc, .slice (some ⟨g9, 0, none⟩) S.cars.length p9, .int .i64 jc, .slice (some ⟨g8, 0, none⟩) S.cars.length p8, .int .i64 jc, .pointer (some ⟨g8, jc, none⟩), .int .i64 kv, .pointer (some ⟨wr.heap.size, 9, none⟩), .int .i64 xkm, .int .i64 (kv + xkm), .slice (some ⟨g9, 0, none⟩) S.cars.length p9, .int .i64 jc, .pointer (some ⟨g9, jc, none⟩), .int .i64 sv, .pointer (some ⟨wr.heap.size, 9, none⟩), .int .i64 xkm, .int .i64 (sv + xkm), .pointer (some ⟨g8, jc, none⟩), undef, .pointer (some ⟨g9, jc, none⟩), undef] (wsC W4.drew [(W4.drew.setCell ⟨g8, jc, none⟩ (.int .i64 (kv + xkm))), ((W4.drew.setCell ⟨g8, jc, none⟩ (.int .i64 (kv + xkm))).setCell ⟨g9, jc, none⟩ (.int .i64 (sv + xkm)))]) (by kernel_rfl) (by kernel_rfl) (by kernel_rfl) (by kernel_rfl) rfl ?_ ?_
              · refine ⟨?_, ?_, ?_, ?_, ?_, ?_, ?_, ?_, ?_, ?_, ?_, ?_, ?_, ?_, ?_, ?_, ?_, ?_, ?_, ?_, ?_, ?_, trivial⟩
                · refine oneC_still 2 (by kernel_rfl) (by kernel_rfl) ?_
                  intro y jj K Q hd hj hK
                  generalize wsC W4.drew [(W4.drew.setCell ⟨g8, jc, none⟩ (.int .i64 (kv + xkm))), ((W4.drew.setCell ⟨g8, jc, none⟩ (.int .i64 (kv + xkm))).setCell ⟨g9, jc, none⟩ (.int .i64 (sv + xkm)))] jj = W at *
                  clear hd
                  revert hK
                  simp only [putAll, Act.put]
                  go_simp
                · refine oneC_still 2 (by kernel_rfl) (by kernel_rfl) ?_
                  intro y jj K Q hd hj hK
                  generalize wsC W4.drew [(W4.drew.setCell ⟨g8, jc, none⟩ (.int .i64 (kv + xkm))), ((W4.drew.setCell ⟨g8, jc, none⟩ (.int .i64 (kv + xkm))).setCell ⟨g9, jc, none⟩ (.int .i64 (sv + xkm)))] jj = W at *
                  clear hd
                  revert hK
                  simp only [putAll, Act.put]
                  go_simp
                · refine oneC_still 2 (by kernel_rfl) (by kernel_rfl) ?_
                  intro y jj K Q hd hj hK
                  generalize wsC W4.drew [(W4.drew.setCell ⟨g8, jc, none⟩ (.int .i64 (kv + xkm))), ((W4.drew.setCell ⟨g8, jc, none⟩ (.int .i64 (kv + xkm))).setCell ⟨g9, jc, none⟩ (.int .i64 (sv + xkm)))] jj = W at *
                  clear hd
                  revert hK
                  simp only [putAll, Act.put]
                  go_simp
                · refine oneC_still 2 (by kernel_rfl) (by kernel_rfl) ?_
                  intro y jj K Q hd hj hK
                  generalize wsC W4.drew [(W4.drew.setCell ⟨g8, jc, none⟩ (.int .i64 (kv + xkm))), ((W4.drew.setCell ⟨g8, jc, none⟩ (.int .i64 (kv + xkm))).setCell ⟨g9, jc, none⟩ (.int .i64 (sv + xkm)))] jj = W at *
                  clear hd
                  revert hK
                  simp only [putAll, Act.put]
                  go_simp
                · refine oneC_still 2 (by kernel_rfl) (by kernel_rfl) ?_
                  intro y jj K Q hd hj hK
                  generalize wsC W4.drew [(W4.drew.setCell ⟨g8, jc, none⟩ (.int .i64 (kv + xkm))), ((W4.drew.setCell ⟨g8, jc, none⟩ (.int .i64 (kv + xkm))).setCell ⟨g9, jc, none⟩ (.int .i64 (sv + xkm)))] jj = W at *
                  clear hd
                  revert hK
                  simp only [putAll, Act.put]
                  go_simp
                · refine oneC_still 2 (by kernel_rfl) (by kernel_rfl) ?_
                  intro y jj K Q hd hj hK
                  generalize wsC W4.drew [(W4.drew.setCell ⟨g8, jc, none⟩ (.int .i64 (kv + xkm))), ((W4.drew.setCell ⟨g8, jc, none⟩ (.int .i64 (kv + xkm))).setCell ⟨g9, jc, none⟩ (.int .i64 (sv + xkm)))] jj = W at *
                  clear hd
                  revert hK
                  simp only [putAll, Act.put]
                  go_simp
                · refine oneC_still 2 (by kernel_rfl) (by kernel_rfl) ?_
                  intro y jj K Q hd hj hK
                  generalize wsC W4.drew [(W4.drew.setCell ⟨g8, jc, none⟩ (.int .i64 (kv + xkm))), ((W4.drew.setCell ⟨g8, jc, none⟩ (.int .i64 (kv + xkm))).setCell ⟨g9, jc, none⟩ (.int .i64 (sv + xkm)))] jj = W at *
                  simp [depsC, Region.binds] at hd
                  revert hK
                  simp only [putAll, Act.put]
                  go_simp
                · refine oneC_still 0 (by kernel_rfl) (by kernel_rfl) ?_
                  intro y jj K Q hd hj hK
                  have b0 := (hp0.out jj hj).1
                  generalize wsC W4.drew [(W4.drew.setCell ⟨g8, jc, none⟩ (.int .i64 (kv + xkm))), ((W4.drew.setCell ⟨g8, jc, none⟩ (.int .i64 (kv + xkm))).setCell ⟨g9, jc, none⟩ (.int .i64 (sv + xkm)))] jj = W at *
                  simp [depsC, Region.binds] at hd
                  revert hK
                  simp only [putAll, Act.put]
                  go_simp
                · refine oneC_still 2 (by kernel_rfl) (by kernel_rfl) ?_
                  intro y jj K Q hd hj hK
                  generalize wsC W4.drew [(W4.drew.setCell ⟨g8, jc, none⟩ (.int .i64 (kv + xkm))), ((W4.drew.setCell ⟨g8, jc, none⟩ (.int .i64 (kv + xkm))).setCell ⟨g9, jc, none⟩ (.int .i64 (sv + xkm)))] jj = W at *
                  clear hd
                  revert hK
                  simp only [putAll, Act.put]
                  go_simp
                · refine oneC_still 0 (by kernel_rfl) (by kernel_rfl) ?_
                  intro y jj K Q hd hj hK
                  have b1 := (hp0.out jj hj).2
                  generalize wsC W4.drew [(W4.drew.setCell ⟨g8, jc, none⟩ (.int .i64 (kv + xkm))), ((W4.drew.setCell ⟨g8, jc, none⟩ (.int .i64 (kv + xkm))).setCell ⟨g9, jc, none⟩ (.int .i64 (sv + xkm)))] jj = W at *
                  simp [depsC, Region.binds] at hd
                  revert hK
                  simp only [putAll, Act.put]
                  go_simp
                · refine oneC_still 2 (by kernel_rfl) (by kernel_rfl) ?_
                  intro y jj K Q hd hj hK
                  generalize wsC W4.drew [(W4.drew.setCell ⟨g8, jc, none⟩ (.int .i64 (kv + xkm))), ((W4.drew.setCell ⟨g8, jc, none⟩ (.int .i64 (kv + xkm))).setCell ⟨g9, jc, none⟩ (.int .i64 (sv + xkm)))] jj = W at *
                  simp [depsC, Region.binds] at hd
                  revert hK
                  simp only [putAll, Act.put]
                  go_simp
                · refine oneC_still 2 (by kernel_rfl) (by kernel_rfl) ?_
                  intro y jj K Q hd hj hK
                  generalize wsC W4.drew [(W4.drew.setCell ⟨g8, jc, none⟩ (.int .i64 (kv + xkm))), ((W4.drew.setCell ⟨g8, jc, none⟩ (.int .i64 (kv + xkm))).setCell ⟨g9, jc, none⟩ (.int .i64 (sv + xkm)))] jj = W at *
                  clear hd
                  revert hK
                  simp only [putAll, Act.put]
                  go_simp
                · refine oneC_still 2 (by kernel_rfl) (by kernel_rfl) ?_
                  intro y jj K Q hd hj hK
                  generalize wsC W4.drew [(W4.drew.setCell ⟨g8, jc, none⟩ (.int .i64 (kv + xkm))), ((W4.drew.setCell ⟨g8, jc, none⟩ (.int .i64 (kv + xkm))).setCell ⟨g9, jc, none⟩ (.int .i64 (sv + xkm)))] jj = W at *
                  clear hd
                  revert hK
                  simp only [putAll, Act.put]
                  go_simp
                · refine oneC_still 2 (by kernel_rfl) (by kernel_rfl) ?_
                  intro y jj K Q hd hj hK
                  generalize wsC W4.drew [(W4.drew.setCell ⟨g8, jc, none⟩ (.int .i64 (kv + xkm))), ((W4.drew.setCell ⟨g8, jc, none⟩ (.int .i64 (kv + xkm))).setCell ⟨g9, jc, none⟩ (.int .i64 (sv + xkm)))] jj = W at *
                  simp [depsC, Region.binds] at hd
                  revert hK
                  simp only [putAll, Act.put]
                  go_simp
                · refine oneC_still 1 (by kernel_rfl) (by kernel_rfl) ?_
                  intro y jj K Q hd hj hK
                  have b0 := (hp1.out jj hj).1
                  generalize wsC W4.drew [(W4.drew.setCell ⟨g8, jc, none⟩ (.int .i64 (kv + xkm))), ((W4.drew.setCell ⟨g8, jc, none⟩ (.int .i64 (kv + xkm))).setCell ⟨g9, jc, none⟩ (.int .i64 (sv + xkm)))] jj = W at *
                  simp [depsC, Region.binds] at hd
                  revert hK
                  simp only [putAll, Act.put]
                  go_simp
                · refine oneC_still 2 (by kernel_rfl) (by kernel_rfl) ?_
                  intro y jj K Q hd hj hK
                  generalize wsC W4.drew [(W4.drew.setCell ⟨g8, jc, none⟩ (.int .i64 (kv + xkm))), ((W4.drew.setCell ⟨g8, jc, none⟩ (.int .i64 (kv + xkm))).setCell ⟨g9, jc, none⟩ (.int .i64 (sv + xkm)))] jj = W at *
                  clear hd
                  revert hK
                  simp only [putAll, Act.put]
                  go_simp
                · refine oneC_still 1 (by kernel_rfl) (by kernel_rfl) ?_
                  intro y jj K Q hd hj hK
                  have b1 := (hp1.out jj hj).2
                  generalize wsC W4.drew [(W4.drew.setCell ⟨g8, jc, none⟩ (.int .i64 (kv + xkm))), ((W4.drew.setCell ⟨g8, jc, none⟩ (.int .i64 (kv + xkm))).setCell ⟨g9, jc, none⟩ (.int .i64 (sv + xkm)))] jj = W at *
                  simp [depsC, Region.binds] at hd
                  revert hK
                  simp only [putAll, Act.put]
                  go_simp
                · refine oneC_still 2 (by kernel_rfl) (by kernel_rfl) ?_
                  intro y jj K Q hd hj hK
                  generalize wsC W4.drew [(W4.drew.setCell ⟨g8, jc, none⟩ (.int .i64 (kv + xkm))), ((W4.drew.setCell ⟨g8, jc, none⟩ (.int .i64 (kv + xkm))).setCell ⟨g9, jc, none⟩ (.int .i64 (sv + xkm)))] jj = W at *
                  simp [depsC, Region.binds] at hd
                  revert hK
                  simp only [putAll, Act.put]
                  go_simp
                · refine oneC_still 2 (by kernel_rfl) (by kernel_rfl) ?_
                  intro y jj K Q hd hj hK
                  generalize wsC W4.drew [(W4.drew.setCell ⟨g8, jc, none⟩ (.int .i64 (kv + xkm))), ((W4.drew.setCell ⟨g8, jc, none⟩ (.int .i64 (kv + xkm))).setCell ⟨g9, jc, none⟩ (.int .i64 (sv + xkm)))] jj = W at *
                  simp [depsC, Region.binds] at hd
                  revert hK
                  simp only [putAll, Act.put]
                  go_simp
                · refine oneC_eff 0 rfl ?_
                  intro y K Q hd hK
                  simp [depsC, Region.binds] at hd
                  revert hK
                  simp only [wsC]
                  simp only [putAll, Act.put]
                  go_simp
                · refine oneC_still 2 (by kernel_rfl) (by kernel_rfl) ?_
                  intro y jj K Q hd hj hK
                  generalize wsC W4.drew [(W4.drew.setCell ⟨g8, jc, none⟩ (.int .i64 (kv + xkm))), ((W4.drew.setCell ⟨g8, jc, none⟩ (.int .i64 (kv + xkm))).setCell ⟨g9, jc, none⟩ (.int .i64 (sv + xkm)))] jj = W at *
                  simp [depsC, Region.binds] at hd
                  revert hK
                  simp only [putAll, Act.put]
                  go_simp
                · refine oneC_eff 1 rfl ?_
                  intro y K Q hd hK
                  simp [depsC, Region.binds] at hd
                  revert hK
                  simp only [wsC]
                  simp only [putAll, Act.put]
                  go_simp
              · simp only [putAll, Act.put, wsC, List.length_cons, List.length_nil]
                simp only [List.setIfInBounds_toArray, List.set_cons_succ, List.set_cons_zero, List.getD_cons_zero, List.getD_cons_succ]
                generalize ((W4.drew.setCell ⟨g8, jc, none⟩ (.int .i64 (kv + xkm))).setCell ⟨g9, jc, none⟩ (.int .i64 (sv + xkm))) = WF at *
                clear hp0 hp1 hn1' f2' u8 u9 z8 z9 k0 k3 k4 k9 lc x0 m1
                have k0 := k0F.out
                go_wp2
                go_roundg (es.length - (j + 1))
                case measure => omega
                case rel => exact ⟨j + 1, by omega, by omega, by go_num, s8'.out, s9'.out, hBf.out⟩
            · subst h0
              subst h4
              subst hjc
              have t1 : decide ((jc : Int) < 0) = false := decide_eq_false (by omega)
              have t2 : decide ((S.cars.length : Int) ≤ (jc : Int)) = false := decide_eq_false (by omega)
              have hjcz : (jc : Int) < (S.cars.length : Int) := by omega
              have hjc0 : (0 : Int) ≤ (jc : Int) := by omega
              have hj9 : jc < (bk S es j).since.length := by rw [hgd0.out.since]; exact hjn
              obtain ⟨g9', p9', e9, -, hg9, -, -, f9, e9c, -⟩ := int_row r9'.out (by omega)
              obtain rfl : g9 = g9' := by injection e9 with e9; injection e9 with e9; injection e9
              have u9 := e9c jc hj9
              have z9 := f9 jc
              have s8' := r8'.out.far (p := ⟨g9, jc, none⟩) (by intro e; exact hne (by simpa [Value.ownBlock] using e)) (.int .i64 0)
              have s9' := rowInt_set r9'.out hj9 0
              rw [← h1] at s8'
              rw [← h2] at s9'
              have hBf := hide (hBr4.out.setCell (p := ⟨g9, jc, none⟩) hx9' (.int .i64 0))
              replace s8' := hide s8'
              replace s9' := hide s9'
              replace h1 := hide h1
              replace h2 := hide h2
              clear e9 hg9 f9 e9c r8' r9'
              go_wp2
              clear u9 z9
              go_roundg (es.length - (j + 1))
              case measure => omega
              case rel => exact ⟨j + 1, by omega, by omega, by go_num, s8'.out, s9'.out, hBf.out⟩
            · subst h0
              have t3 : (xkind == 3) = false := beq_eq_false_iff_ne.2 h3
              have t4 : (xkind == 4) = false := beq_eq_false_iff_ne.2 h4
              rw [← h1] at r8'
              rw [← h2] at r9'
              replace h1 := hide h1
              replace h2 := hide h2
              replace h3 := hide h3
              replace h4 := hide h4
              go_wp2
              go_roundg (es.length - (j + 1))
              case measure => omega
              case rel => exact ⟨j + 1, by omega, by omega, by go_num, r8'.out, r9'.out, hBr4.out⟩
          · have hltz : ¬ (j : Int) < (es.length : Int) := by omega
            obtain rfl : j = es.length := by omega
            have x1 : wr.cell? ⟨w1.heap.size, 1, none⟩ = some (.slice A1 (runR S es).2.km.length q1) := (kx.out.below hBr.out kx.out.lt).cell 1
            have x2 : wr.cell? ⟨w1.heap.size, 2, none⟩ = some (.slice A2 (runR S es).2.since.length q2) := (kx.out.below hBr.out kx.out.lt).cell 2
            have i8 := r8.out.isInts
            have i9 := r9.out.isInts
            rw [← her.out.2] at i8 i9
            have hi1 := hide (fun W' (hb : Below wr.heap.size wr W') => Ints_t (i8.below hb) (hkW.out W' (hBx.out.trans (hb.mono hBx.out.size))) rfl (by rw [ha.out.ok.km]; unfold maxLen; omega))
            have hi2 := hide (fun W' (hb : Below wr.heap.size wr W') => Ints_t (i9.below hb) (hsW.out W' (hBx.out.trans (hb.mono hBx.out.size))) rfl (by rw [ha.out.ok.since]; unfold maxLen; omega))
            clear i8 i9 r8 r9
            go_wp2_with fail
            refine (hi1.out wr (Below.refl _ _)).mono ?_
            rintro e w5 ⟨rfl, hb⟩
            have hb5 := hide hb
            clear hb x1 x2
            have x2 : w5.cell? ⟨w1.heap.size, 2, none⟩ = some (.slice A2 (runR S es).2.since.length q2) := ((kx.out.below hBr.out kx.out.lt).below hb5.out (kx.out.below hBr.out kx.out.lt).lt).cell 2
            go_wp2_with fail
            refine (hi2.out w5 hb5.out).mono ?_
            rintro e w6 ⟨rfl, hb⟩
            replace hBw := hide (hBw.out.trans ((hb5.out.trans (hb.mono hb5.out.size)).mono hBw.out.size))
            clear hb x2
            go_wp2_with fail
            refine (AwakeB _).mono ?_
            rintro e w7 ⟨rfl, hb⟩
            replace hBw := hide (hBw.out.trans (hb.mono hBw.out.size))
            clear hb
            go_wp2
            go_ret
            exact ⟨rfl, hBw.out⟩
  · have b0 : (runE S es != 0) = true := bne_iff_ne.2 hq
    generalize runE S es = qe at *
    generalize runR S es = qr at *
    replace hq := hide hq
    clear hV hSc huW heW hxW hlW hkW hsW haW
    go_upto_region 2 with fail
    rw [hW2.out]
    go_wp2_with fail
    refine (AwakeB _).mono ?_
    rintro e w3 ⟨rfl, hb⟩
    replace hB := hide (hB.out.trans (hb.mono hB.out.size))
    clear hb
    go_wp2
    go_ret
    exact ⟨rfl, hB.out⟩
end Go.Proofs.Ytkmhldjebopljaa
