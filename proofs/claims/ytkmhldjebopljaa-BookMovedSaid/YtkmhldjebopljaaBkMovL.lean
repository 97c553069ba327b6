/-
  The law BookMoved: what a weather leaves as it was (made by mkbkmov.py).
-/
import Derived.Test.YtkmhldjebopljaaQj
import Derived.Test.YtkmhldjebopljaaQh
import Derived.Test.YtkmhldjebopljaaQk
import Derived.Test.YtkmhldjebopljaaQd
namespace Go.Proofs.Ytkmhldjebopljaa
open Go.RowKit RG

theorem isInts_take7 {xs : List Int} {A : Option Addr} {n c : Nat} {w : World} (h : IsInts xs (.slice A n c) w) {i : Nat} (hi : i ≤ xs.length) : IsInts (xs.take i) (.slice A i c) w := by
  obtain ⟨A', c', e, ⟨h1, h2⟩, h3⟩ := h
  cases e
  have hl : (xs.take i).length = i := by rw [List.length_take]; omega
  refine ⟨A, c, by rw [hl], ⟨rfl, fun hn => ?_⟩, by rw [hl]; omega⟩
  obtain ⟨b, off, e, hb, hc⟩ := h2 (by omega)
  rw [hl] at hn ⊢
  refine ⟨b, off, e, hb, fun j hj => ?_⟩
  rw [List.getElem?_take_of_lt hj]
  exact hc j (by omega)
set_option maxRecDepth 100000 in
set_option maxHeartbeats 8000000 in
theorem BookMoved_any (v u : Value) (S : BSch) (es : List BEv) (x0 x1 x2 : Int)  (w : World) (h : RdBSch w v S) (hu : IsRow 11 (es.map evCells) u w) (hEn : ∀ n c, u = .slice none n c → c = 0) :
    Calls Try.prog 11 #[v, u, .agg #[.int .i64 x0, .int .i64 x1, .int .i64 x2]] w fun e w' => e = .returned (.bool true) ∧ Below w.heap.size w w' := by
  have hRun := hide (fun W (hb : Below w.heap.size w W) => Run_k v u S es W (h.below hb) (hu.below hb))
  have hPst := hide (fun W (hb : Below w.heap.size w W) => Postings_k v u S es W (h.below hb) (hu.below hb))
  have hV := hide (fun W (hb : Below w.heap.size w W) => valid_any v S W (h.below hb))
  have hSc := hide (fun W (hb : Below w.heap.size w W) => h.below hb)
  have huW := hide (fun W (hb : Below w.heap.size w W) => hu.below hb)
  obtain ⟨L, C, T, cl, cc, ct, rfl, hR⟩ := h
  have hRW := hide (fun W (hb : Below w.heap.size w W) => hR.below hb)
  clear hR
  obtain ⟨A, ce, rfl, hce, hcm⟩ := evRow_len hu
  have hEW := hide (fun W (hb : Below w.heap.size w W) => (ev_read hu).below hb)
  clear hu
  obtain ⟨W, hW⟩ : ∃ y, (w.alloc (.cells (schCells L C T cl cc ct S) 28)).alloc (.cells #[.int .i64 x0, .int .i64 x1, .int .i64 x2] 70) = y := ⟨_, rfl⟩
  have kb := hide (show Blk W w.heap.size 28 (schCells L C T cl cc ct S) by rw [← hW]; exact (blkNew rfl).alloc _)
  have ky := hide (show Blk W (w.heap.size + 1) 70 #[.int .i64 x0, .int .i64 x1, .int .i64 x2] by rw [← hW]; exact blkNew (by simp))
  have hB := hide (show Below w.heap.size w W by rw [← hW]; exact ((Below.refl _ _).alloc (Nat.le_refl _) _).alloc (by simp) _)
  replace hW := hide hW
  unfold schCells at *
  unfold maxLen at hcm
  clear hPst
  obtain ⟨c0, c1, c2, c3, c4, c5, c6⟩ := sch_cells (w := W) (p := w.heap.size) (S := S) kb.out
  go_enter Try.func11, Try.ntmps11
  go_upto_region 1 with fail
  rw [hW.out]
  by_cases h60 : 60 ≤ es.length
  · have t1 : decide ((60 : Int) ≤ (es.length : Int)) = true := decide_eq_true (by omega)
    have t2 : decide (60 ≤ es.length) = true := decide_eq_true h60
    clear hV hSc huW hRW hEW hRun c0 c1 c2 c3 c4 c5 c6
    go_wp2_with fail
    refine (AwakeB _).mono ?_
    rintro e w5 ⟨rfl, hb⟩
    replace hB := hide (hB.out.trans (hb.mono hB.out.size))
    clear hb
    go_wp2
    go_ret
    exact ⟨rfl, hB.out⟩
  · have t1 : decide ((60 : Int) ≤ (es.length : Int)) = false := decide_eq_false (by omega)
    have t2 : decide (60 ≤ es.length) = false := decide_eq_false h60
    go_wp2_with fail
    refine (hRun.out _ hB.out).mono ?_
    rintro e w1 ⟨⟨v1, v2, rfl, he, hx⟩, hb⟩
    have heW := hide (fun W' (hb : Below w1.heap.size w1 W') => he.below hb)
    have hxW := hide (fun W' (hb : Below w1.heap.size w1 W') => hx.below hb)
    obtain ⟨Ae, ca, rfl, -, hca⟩ := he
    obtain ⟨A0, q0, A1, q1, A2, q2, A3, q3, rfl, hl, hk, hs, ha⟩ := hx.parts
    have hlW := hide (fun W' (hb : Below w1.heap.size w1 W') => hl.below hb)
    have hkW := hide (fun W' (hb : Below w1.heap.size w1 W') => hk.below hb)
    have hsW := hide (fun W' (hb : Below w1.heap.size w1 W') => hs.below hb)
    have haW := hide (fun W' (hb : Below w1.heap.size w1 W') => ha.below hb)
    clear hl hk hs ha hx
    clear c0 c1 c2 c3 c4 c5 c6
    replace kb := hide (kb.out.below hb kb.out.lt)
    replace ky := hide (ky.out.below hb ky.out.lt)
    replace hB := hide (hB.out.trans (hb.mono hB.out.size))
    clear hb hRun
    obtain ⟨W2, hW2⟩ : ∃ y, w1.alloc (.cells #[.slice A0 (runR S es).2.les.length q0, .slice A1 (runR S es).2.km.length q1, .slice A2 (runR S es).2.since.length q2, .slice A3 (runR S es).2.acc.length q3] 42) = y := ⟨_, rfl⟩
    have hb12 := hide (show Below w1.heap.size w1 W2 by rw [← hW2]; exact (Below.refl _ _).alloc (Nat.le_refl _) _)
    have kx := hide (show Blk W2 w1.heap.size 42 #[.slice A0 (runR S es).2.les.length q0, .slice A1 (runR S es).2.km.length q1, .slice A2 (runR S es).2.since.length q2, .slice A3 (runR S es).2.acc.length q3] by rw [← hW2]; exact blkNew rfl)
    replace kb := hide (kb.out.below hb12.out kb.out.lt)
    replace ky := hide (ky.out.below hb12.out ky.out.lt)
    replace hB := hide (hB.out.trans (hb12.out.mono hB.out.size))
    replace hW2 := hide hW2
    obtain ⟨wv, hwv⟩ : ∃ e : BEv, (⟨2, x0, 0, 0, 0, 0, 0, x1, x2, 0, 0⟩ : BEv) = e := ⟨_, rfl⟩
    obtain ⟨W3, hW3⟩ : ∃ z, W2.alloc (.cells (evCells wv).toArray 65) = z := ⟨_, rfl⟩
    have hb23 := hide (show Below W2.heap.size W2 W3 by rw [← hW3]; exact (Below.refl _ _).alloc (Nat.le_refl _) _)
    have kw := hide (show Blk W3 W2.heap.size 65 (evCells wv).toArray by rw [← hW3]; exact blkNew rfl)
    have y0 : W2.cell? ⟨w.heap.size + 1, 0, none⟩ = some (.int .i64 x0) := ky.out.cell 0
    have y1 : W2.cell? ⟨w.heap.size + 1, 1, none⟩ = some (.int .i64 x1) := ky.out.cell 1
    have y2 : W2.cell? ⟨w.heap.size + 1, 2, none⟩ = some (.int .i64 x2) := ky.out.cell 2
    have hB3 := hide (hB.out.trans (hb23.out.mono hB.out.size))
    have kb3 := hide (kb.out.below hb23.out kb.out.lt)
    obtain ⟨q, hqq⟩ : ∃ q, runE S (es ++ [wv]) = q := ⟨_, rfl⟩
    have hRT := hide (fun v W (hb : Below W3.heap.size W3 W) (h : NewV (es ++ [wv]) v W) => (Run_k _ v S (es ++ [wv]) W (hSc.out W (hB3.out.trans (hb.mono hB3.out.size))) h).mono (R' := fun e w' => (∃ v, e = .returned v ∧ RunQ q (runR S (es ++ [wv])).1 (runR S (es ++ [wv])).2 v w') ∧ Below W.heap.size W w') (by
      rintro e w' ⟨⟨v1, v2, rfl, h1, h2⟩, h3⟩
      rw [hqq]
      exact ⟨⟨_, rfl, v1, v2, rfl, h1, h2⟩, h3⟩))
    have hEvR := hide (fun W (hb : Below W3.heap.size W3 W) => hEW.out W (hB3.out.trans (hb.mono hB3.out.size)))
    have hfA : A = none → ce = 0 := fun h => hEn es.length ce (by rw [h])
    replace hwv := hide hwv
    go_upto_region 4 with fail
    rw [hW2.out]
    have hwe : (evCells wv).toArray = #[.int .i64 2, .int .i64 x0, .int .i64 0, .int .i64 0, .int .i64 0, .int .i64 0, .int .i64 0, .int .i64 x1, .int .i64 x2, .int .i64 0, .int .i64 0] := by rw [← hwv.out]; rfl
    rw [hwe] at hW3
    replace hwe := hide hwe
    replace hW3 := hide hW3
    go_upto_region 5 with fail
    rw [hW3.out]
    clear y0 y1 y2
    refine region_va [IsV (.agg #[.slice L S.learners.length cl, .slice C S.cars.length cc, .int .i64 S.price, .int .i64 S.excess, .int .i64 S.lo, .int .i64 S.hi, .slice T S.terms.length ct]), EmpV (W3.heap.size), IsV (.slice A es.length ce), RowV (W3.heap.size) es, IsV (.agg #[.int .i64 wv.kind, .int .i64 wv.at_, .int .i64 wv.learner, .int .i64 wv.car, .int .i64 wv.booking, .int .i64 wv.start, .int .i64 wv.hours, .int .i64 wv.day, .int .i64 wv.weather, .int .i64 wv.km, .int .i64 wv.cents]), OneV (W3.heap.size) wv, NewV (es ++ [wv]), RunQ (q) (runR S (es ++ [wv])).1 (runR S (es ++ [wv])).2, RunQ (q) (runR S (es ++ [wv])).1 (runR S (es ++ [wv])).2, IsInts (runR S (es ++ [wv])).1, IsState (runR S (es ++ [wv])).2, IsV (.int .i64 (q)), VarZ (W3.heap.size), IsInts (runR S (es ++ [wv])).1, TT, IsV (.int .i64 (q))] [TT, TT, TT, TT, TT, TT, TT, TT, TT, TT, TT, TT, VarS (W3.heap.size) (runR S (es ++ [wv])).2, TT, TT, TT] [(1, 3), (3, 6), (5, 6), (12, 14)] (by kernel_rfl) (by kernel_rfl) (by kernel_rfl) ⟨IsV.stb _, EmpV.stb _, IsV.stb _, RowV.stb _ _, IsV.stb _, OneV.stb _ _, NewV.stb _, RunQ.stb _ _ _, RunQ.stb _ _ _, Ints.stb _, State.stb _, IsV.stb _, VarZ.stb _, Ints.stb _, TT.stb, IsV.stb _, trivial⟩ ⟨TT.stb, TT.stb, TT.stb, TT.stb, TT.stb, TT.stb, TT.stb, TT.stb, TT.stb, TT.stb, TT.stb, TT.stb, VarS.stb _ _, TT.stb, TT.stb, TT.stb, trivial⟩ ?_ ?_
    · try clear hSc
      try clear huW
      try clear hEW
      try clear hRW
      try clear heW
      try clear hxW
      try clear hlW
      try clear hkW
      try clear hsW
      try clear haW
      try clear hV
      try clear hW
      try clear hW2
      try clear kx
      try clear ky
      try clear kb
      try clear hB
      try clear hb12
      refine ⟨?_, ?_, ?_, ?_, ?_, ?_, ?_, ?_, ?_, ?_, ?_, ?_, ?_, ?_, ?_, ?_, trivial⟩
      · refine ⟨[1, 3, 5, 12], by kernel_rfl, .inl ⟨?_, fun k hk => absurd hk (lk4 (by decide) (by decide) (by decide))⟩⟩
        · refine one_fr ?_ ?_ ?_
          · kernel_rfl
          · left; kernel_rfl
          intro Tf y W4 K Q Cv hF hC4 hd hV hK
          clear hd
          have t3 := hF.old 3 (.pointer (some ⟨w.heap.size, 0, none⟩)) (by kernel_rfl) (by kernel_rfl)
          clear hF
          obtain ⟨c0, c1, c2, c3, c4, c5, c6⟩ := sch_cells (w := W4) (p := w.heap.size) (S := S) (kb3.out.below hC4 kb3.out.lt)
          go_simp
          exact hK _ _ (hV _ _ hC4 (Below.refl _ _) ((VL_setL _ _ _ _ _).2 (.inr rfl)))
      · refine ⟨[3, 5, 12], by kernel_rfl, .inl ⟨?_, fun k hk => absurd hk (lk4 (by decide) (by decide) (by decide))⟩⟩
        · refine one_fr ?_ ?_ ?_
          · kernel_rfl
          · left; kernel_rfl
          intro Tf y W4 K Q Cv hF hC4 hd hV hK
          clear hF hd
          refine wp_mk0 rfl rfl mk0_ev ?_
          exact hK _ _ (hV _ _ (hC4.alloc hC4.size _) ((Below.refl _ _).alloc (Nat.le_refl _) _) ((VL_setL _ _ _ _ _).2 (.inr ⟨W4.heap.size, rfl, hC4.size, blkNew rfl⟩)))
      · refine ⟨[1, 3, 5, 12], by kernel_rfl, .inl ⟨?_, fun k hk => absurd hk (lk4 (by decide) (by decide) (by decide))⟩⟩
        · refine one_fr ?_ ?_ ?_
          · kernel_rfl
          · left; kernel_rfl
          intro Tf y W4 K Q Cv hF hC4 hd hV hK
          clear hd
          have t1 := hF.old 1 (.slice A es.length ce) (by kernel_rfl) (by kernel_rfl)
          clear hF
          go_simp
          exact hK _ _ (hV _ _ hC4 (Below.refl _ _) ((VL_setL _ _ _ _ _).2 (.inr rfl)))
      · refine ⟨[5, 12], by kernel_rfl, .inr ⟨fun y u u' => Sp1 (W3.heap.size) (y 1) u u', ?_, ?_⟩⟩
        · refine ones_fr ?_ ?_ ?_
          · kernel_rfl
          · kernel_rfl
          intro Tf y W4 K Q Cv hF hC4 hd hV hK
          have p1 : (EmpV (W3.heap.size)) (y 1) W4 := ((VL_setL _ _ _ _ _).1 (deps_all hd 1 (by kernel_rfl))).resolve_left (by decide)
          have p2 : (IsV (.slice A es.length ce)) (y 2) W4 := ((VL_setL _ _ _ _ _).1 (deps_all hd 2 (by kernel_rfl))).resolve_left (by decide)
          replace p2 : y 2 = .slice A es.length ce := p2
          have t38 := hF.get 1 38 (by kernel_rfl)
          have t39 := hF.get 2 39 (by kernel_rfl)
          rw [p2] at t39
          clear hF hd
          obtain ⟨v', u', hr, q1, q2, q3⟩ := app_first p1 hC4.size (hEvR.out W4 hC4) hfA (by omega)
          refine wp_append_run (.tmp 38) (.tmp 39) 37 rfl _ _ _ t38 t39 hr ?_
          exact hK _ _ (hV _ _ (hC4.trans q3) q2 ((VL_setL _ _ _ _ _).2 (.inr q1)))
        · rintro y u u' k b hk ha - hS hv hb hj hj2
          match k, hk, ha, hv, hb, hj, hj2 with
          | 0, _, _, hv, _, _, _ => exact (by cases b with | false => exact (show (IsV (.agg #[.slice L S.learners.length cl, .slice C S.cars.length cc, .int .i64 S.price, .int .i64 S.excess, .int .i64 S.lo, .int .i64 S.hi, .slice T S.terms.length ct])) (y 0) u' from hv) | true => exact trivial)
          | 1, _, _, hv, hb, _, _ => exact (by obtain rfl := hb rfl; exact trivial)
          | 2, _, _, hv, _, _, _ => exact (by cases b with | false => exact (show (IsV (.slice A es.length ce)) (y 2) u' from hv) | true => exact trivial)
          | 3, hk, _, _, _, _, _ => exact absurd rfl hk
          | 4, _, _, hv, _, _, _ => exact (by cases b with | false => exact (show (IsV (.agg #[.int .i64 wv.kind, .int .i64 wv.at_, .int .i64 wv.learner, .int .i64 wv.car, .int .i64 wv.booking, .int .i64 wv.start, .int .i64 wv.hours, .int .i64 wv.day, .int .i64 wv.weather, .int .i64 wv.km, .int .i64 wv.cents])) (y 4) u' from hv) | true => exact trivial)
          | 5, _, _, hv, _, _, hj2 => exact (by obtain rfl := hj2 6 rfl (by kernel_rfl); exact (show (OneV (W3.heap.size) wv) (y 5) u' from OneV.sp1 (show (OneV (W3.heap.size) wv) (y 5) u from hv) hS))
          | 6, _, ha, _, _, _, _ => exact absurd (ha.symm.trans (by kernel_rfl)) Bool.false_ne_true
          | 7, _, ha, _, _, _, _ => exact absurd (ha.symm.trans (by kernel_rfl)) Bool.false_ne_true
          | 8, _, ha, _, _, _, _ => exact absurd (ha.symm.trans (by kernel_rfl)) Bool.false_ne_true
          | 9, _, ha, _, _, _, _ => exact absurd (ha.symm.trans (by kernel_rfl)) Bool.false_ne_true
          | 10, _, ha, _, _, _, _ => exact absurd (ha.symm.trans (by kernel_rfl)) Bool.false_ne_true
          | 11, _, ha, _, _, _, _ => exact absurd (ha.symm.trans (by kernel_rfl)) Bool.false_ne_true
          | 12, _, _, hv, _, _, hj2 => exact (by obtain rfl := hj2 14 rfl (by kernel_rfl); exact (show (VarZ (W3.heap.size)) (y 12) u' from VarZ.sp1 (show (VarZ (W3.heap.size)) (y 12) u from hv) hS))
          | 13, _, ha, _, _, _, _ => exact absurd (ha.symm.trans (by kernel_rfl)) Bool.false_ne_true
          | 14, _, ha, _, _, _, _ => exact absurd (ha.symm.trans (by kernel_rfl)) Bool.false_ne_true
          | 15, _, ha, _, _, _, _ => exact absurd (ha.symm.trans (by kernel_rfl)) Bool.false_ne_true
          | k + 16, _, _, _, _, _, _ => cases b <;> cases decide (List.lookup (k + 16) _ = some 3) <;> trivial
      · refine ⟨[1, 3, 5, 12], by kernel_rfl, .inl ⟨?_, fun k hk => absurd hk (lk4 (by decide) (by decide) (by decide))⟩⟩
        · refine one_fr ?_ ?_ ?_
          · kernel_rfl
          · left; kernel_rfl
          intro Tf y W4 K Q Cv hF hC4 hd hV hK
          clear hd
          have t10 := hF.old 10 (.pointer (some ⟨W2.heap.size, 0, none⟩)) (by kernel_rfl) (by kernel_rfl)
          clear hF
          have kk := kw.out.below hC4 kw.out.lt
          obtain ⟨k0, k1, k2, k3, k4, k5, k6, k7, k8, k9, k10⟩ := ev_cells kk
          unfold evCells at *
          clear kk
          go_simp
          exact hK _ _ (hV _ _ hC4 (Below.refl _ _) ((VL_setL _ _ _ _ _).2 (.inr rfl)))
      · refine ⟨[1, 3, 12], by kernel_rfl, .inl ⟨?_, fun k hk => absurd hk (lk4 (by decide) (by decide) (by decide))⟩⟩
        · refine one_fr ?_ ?_ ?_
          · kernel_rfl
          · left; kernel_rfl
          intro Tf y W4 K Q Cv hF hC4 hd hV hK
          have p4 : (IsV (.agg #[.int .i64 wv.kind, .int .i64 wv.at_, .int .i64 wv.learner, .int .i64 wv.car, .int .i64 wv.booking, .int .i64 wv.start, .int .i64 wv.hours, .int .i64 wv.day, .int .i64 wv.weather, .int .i64 wv.km, .int .i64 wv.cents])) (y 4) W4 := ((VL_setL _ _ _ _ _).1 (deps_all hd 4 (by kernel_rfl))).resolve_left (by decide)
          replace p4 : y 4 = .agg #[.int .i64 wv.kind, .int .i64 wv.at_, .int .i64 wv.learner, .int .i64 wv.car, .int .i64 wv.booking, .int .i64 wv.start, .int .i64 wv.hours, .int .i64 wv.day, .int .i64 wv.weather, .int .i64 wv.km, .int .i64 wv.cents] := p4
          have t41 := hF.get 4 41 (by kernel_rfl)
          rw [p4] at t41
          have tt := t41
          rw [Array.getD_eq_getD_getElem?] at tt
          clear hF hd p4
          go_simp
          exact hK _ _ (hV _ _ (hC4.alloc hC4.size _) ((Below.refl _ _).alloc (Nat.le_refl _) _) ((VL_setL _ _ _ _ _).2 (.inr ⟨W4.heap.size, rfl, hC4.size, blkNew rfl⟩)))
      · refine ⟨[1, 12], by kernel_rfl, .inr ⟨fun y u u' => Sp2 (W3.heap.size) es (y 3) u u', ?_, ?_⟩⟩
        · refine ones_fr ?_ ?_ ?_
          · kernel_rfl
          · kernel_rfl
          intro Tf y W4 K Q Cv hF hC4 hd hV hK
          have p3 : (RowV (W3.heap.size) es) (y 3) W4 := ((VL_setL _ _ _ _ _).1 (deps_all hd 3 (by kernel_rfl))).resolve_left (by decide)
          have p5 : (OneV (W3.heap.size) wv) (y 5) W4 := ((VL_setL _ _ _ _ _).1 (deps_all hd 5 (by kernel_rfl))).resolve_left (by decide)
          have t40 := hF.get 3 40 (by kernel_rfl)
          have t42 := hF.get 5 42 (by kernel_rfl)
          clear hF hd
          obtain ⟨v', u', hr, q1, q2, q3⟩ := app_second p3 hC4.size p5 (by omega)
          refine wp_append_run (.tmp 40) (.tmp 42) 37 rfl _ _ _ t40 t42 hr ?_
          exact hK _ _ (hV _ _ (hC4.trans q3) q2 ((VL_setL _ _ _ _ _).2 (.inr q1)))
        · rintro y u u' k b hk ha - hS hv hb hj hj2
          match k, hk, ha, hv, hb, hj, hj2 with
          | 0, _, _, hv, _, _, _ => exact (by cases b with | false => exact (show (IsV (.agg #[.slice L S.learners.length cl, .slice C S.cars.length cc, .int .i64 S.price, .int .i64 S.excess, .int .i64 S.lo, .int .i64 S.hi, .slice T S.terms.length ct])) (y 0) u' from hv) | true => exact trivial)
          | 1, _, _, _, _, hj, _ => exact (by obtain rfl := hj 3 rfl (by kernel_rfl); exact trivial)
          | 2, _, _, hv, _, _, _ => exact (by cases b with | false => exact (show (IsV (.slice A es.length ce)) (y 2) u' from hv) | true => exact trivial)
          | 3, _, _, hv, hb, _, _ => exact (by obtain rfl := hb rfl; exact trivial)
          | 4, _, _, hv, _, _, _ => exact (by cases b with | false => exact (show (IsV (.agg #[.int .i64 wv.kind, .int .i64 wv.at_, .int .i64 wv.learner, .int .i64 wv.car, .int .i64 wv.booking, .int .i64 wv.start, .int .i64 wv.hours, .int .i64 wv.day, .int .i64 wv.weather, .int .i64 wv.km, .int .i64 wv.cents])) (y 4) u' from hv) | true => exact trivial)
          | 5, _, _, hv, hb, _, _ => exact (by obtain rfl := hb rfl; exact trivial)
          | 6, hk, _, _, _, _, _ => exact absurd rfl hk
          | 7, _, ha, _, _, _, _ => exact absurd (ha.symm.trans (by kernel_rfl)) Bool.false_ne_true
          | 8, _, ha, _, _, _, _ => exact absurd (ha.symm.trans (by kernel_rfl)) Bool.false_ne_true
          | 9, _, ha, _, _, _, _ => exact absurd (ha.symm.trans (by kernel_rfl)) Bool.false_ne_true
          | 10, _, ha, _, _, _, _ => exact absurd (ha.symm.trans (by kernel_rfl)) Bool.false_ne_true
          | 11, _, ha, _, _, _, _ => exact absurd (ha.symm.trans (by kernel_rfl)) Bool.false_ne_true
          | 12, _, _, hv, _, _, hj2 => exact (by obtain rfl := hj2 14 rfl (by kernel_rfl); exact (show (VarZ (W3.heap.size)) (y 12) u' from VarZ.sp2 (show (VarZ (W3.heap.size)) (y 12) u from hv) hS))
          | 13, _, ha, _, _, _, _ => exact absurd (ha.symm.trans (by kernel_rfl)) Bool.false_ne_true
          | 14, _, ha, _, _, _, _ => exact absurd (ha.symm.trans (by kernel_rfl)) Bool.false_ne_true
          | 15, _, ha, _, _, _, _ => exact absurd (ha.symm.trans (by kernel_rfl)) Bool.false_ne_true
          | k + 16, _, _, _, _, _, _ => cases b <;> cases decide (List.lookup (k + 16) _ = some 6) <;> trivial
      · refine ⟨[1, 3, 5, 12], by kernel_rfl, .inl ⟨?_, fun k hk => absurd hk (lk4 (by decide) (by decide) (by decide))⟩⟩
        · refine one_fr ?_ ?_ ?_
          · kernel_rfl
          · left; kernel_rfl
          intro Tf y W4 K Q Cv hF hC4 hd hV hK
          have p0 : (IsV (.agg #[.slice L S.learners.length cl, .slice C S.cars.length cc, .int .i64 S.price, .int .i64 S.excess, .int .i64 S.lo, .int .i64 S.hi, .slice T S.terms.length ct])) (y 0) W4 := ((VL_setL _ _ _ _ _).1 (deps_all hd 0 (by kernel_rfl))).resolve_left (by decide)
          have p6 : (NewV (es ++ [wv])) (y 6) W4 := ((VL_setL _ _ _ _ _).1 (deps_all hd 6 (by kernel_rfl))).resolve_left (by decide)
          replace p0 : y 0 = .agg #[.slice L S.learners.length cl, .slice C S.cars.length cc, .int .i64 S.price, .int .i64 S.excess, .int .i64 S.lo, .int .i64 S.hi, .slice T S.terms.length ct] := p0
          have t37 := hF.get 0 37 (by kernel_rfl)
          have t43 := hF.get 6 43 (by kernel_rfl)
          rw [p0] at t37
          rw [Array.getD_eq_getD_getElem?] at t43
          clear hF hd
          have hs := hRT.out _ W4 hC4 p6
          go_simp
          refine hs.mono ?_
          rintro e w7 ⟨⟨v, rfl, q1⟩, hb7⟩
          exact hK _ _ (hV _ _ (hC4.trans (hb7.mono hC4.size)) hb7 ((VL_setL _ _ _ _ _).2 (.inr q1)))
      · refine ⟨[1, 3, 5, 12], by kernel_rfl, .inl ⟨?_, fun k hk => absurd hk (lk4 (by decide) (by decide) (by decide))⟩⟩
        · refine one_fr ?_ ?_ ?_
          · kernel_rfl
          · left; kernel_rfl
          intro Tf y W4 K Q Cv hF hC4 hd hV hK
          have p7 : (RunQ (q) (runR S (es ++ [wv])).1 (runR S (es ++ [wv])).2) (y 7) W4 := ((VL_setL _ _ _ _ _).1 (deps_all hd 7 (by kernel_rfl))).resolve_left (by decide)
          have t44 := hF.get 7 44 (by kernel_rfl)
          rw [Array.getD_eq_getD_getElem?] at t44
          clear hF hd
          go_simp
          exact hK _ _ (hV _ _ hC4 (Below.refl _ _) ((VL_setL _ _ _ _ _).2 (.inr p7)))
      · refine ⟨[1, 3, 5, 12], by kernel_rfl, .inl ⟨?_, fun k hk => absurd hk (lk4 (by decide) (by decide) (by decide))⟩⟩
        · refine one_fr ?_ ?_ ?_
          · kernel_rfl
          · left; kernel_rfl
          intro Tf y W4 K Q Cv hF hC4 hd hV hK
          have p8 : (RunQ (q) (runR S (es ++ [wv])).1 (runR S (es ++ [wv])).2) (y 8) W4 := ((VL_setL _ _ _ _ _).1 (deps_all hd 8 (by kernel_rfl))).resolve_left (by decide)
          obtain ⟨v1, v2, e4, q1, q2⟩ := p8
          have t36 := hF.get 8 36 (by kernel_rfl)
          rw [e4] at t36
          clear hF hd
          go_simp
          exact hK _ _ (hV _ _ hC4 (Below.refl _ _) ((VL_setL _ _ _ _ _).2 (.inr q1)))
      · refine ⟨[1, 3, 5, 12], by kernel_rfl, .inl ⟨?_, fun k hk => absurd hk (lk4 (by decide) (by decide) (by decide))⟩⟩
        · refine one_fr ?_ ?_ ?_
          · kernel_rfl
          · left; kernel_rfl
          intro Tf y W4 K Q Cv hF hC4 hd hV hK
          have p8 : (RunQ (q) (runR S (es ++ [wv])).1 (runR S (es ++ [wv])).2) (y 8) W4 := ((VL_setL _ _ _ _ _).1 (deps_all hd 8 (by kernel_rfl))).resolve_left (by decide)
          obtain ⟨v1, v2, e4, q1, q2⟩ := p8
          have t36 := hF.get 8 36 (by kernel_rfl)
          rw [e4] at t36
          clear hF hd
          go_simp
          exact hK _ _ (hV _ _ hC4 (Below.refl _ _) ((VL_setL _ _ _ _ _).2 (.inr q2)))
      · refine ⟨[1, 3, 5, 12], by kernel_rfl, .inl ⟨?_, fun k hk => absurd hk (lk4 (by decide) (by decide) (by decide))⟩⟩
        · refine one_fr ?_ ?_ ?_
          · kernel_rfl
          · left; kernel_rfl
          intro Tf y W4 K Q Cv hF hC4 hd hV hK
          have p8 : (RunQ (q) (runR S (es ++ [wv])).1 (runR S (es ++ [wv])).2) (y 8) W4 := ((VL_setL _ _ _ _ _).1 (deps_all hd 8 (by kernel_rfl))).resolve_left (by decide)
          obtain ⟨v1, v2, e4, q1, q2⟩ := p8
          have t36 := hF.get 8 36 (by kernel_rfl)
          rw [e4] at t36
          clear hF hd
          go_simp
          exact hK _ _ (hV _ _ hC4 (Below.refl _ _) ((VL_setL _ _ _ _ _).2 (.inr rfl)))
      · refine ⟨[1, 3, 5], by kernel_rfl, .inl ⟨?_, fun k hk => absurd hk (lk4 (by decide) (by decide) (by decide))⟩⟩
        · refine one_fr ?_ ?_ ?_
          · kernel_rfl
          · left; kernel_rfl
          intro Tf y W4 K Q Cv hF hC4 hd hV hK
          clear hF hd
          go_simp
          exact hK _ _ (hV _ _ (hC4.alloc hC4.size _) ((Below.refl _ _).alloc (Nat.le_refl _) _) ((VL_setL _ _ _ _ _).2 (.inr ⟨W4.heap.size, rfl, hC4.size, blkNew rfl⟩)))
      · refine ⟨[1, 3, 5, 12], by kernel_rfl, .inl ⟨?_, fun k hk => absurd hk (lk4 (by decide) (by decide) (by decide))⟩⟩
        · refine one_fr ?_ ?_ ?_
          · kernel_rfl
          · left; kernel_rfl
          intro Tf y W4 K Q Cv hF hC4 hd hV hK
          have p9 : (IsInts (runR S (es ++ [wv])).1) (y 9) W4 := ((VL_setL _ _ _ _ _).1 (deps_all hd 9 (by kernel_rfl))).resolve_left (by decide)
          have t45 := hF.get 9 45 (by kernel_rfl)
          rw [Array.getD_eq_getD_getElem?] at t45
          clear hF hd
          go_simp
          exact hK _ _ (hV _ _ hC4 (Below.refl _ _) ((VL_setL _ _ _ _ _).2 (.inr p9)))
      · refine ⟨[1, 3, 5], by kernel_rfl, .inr ⟨fun y u u' => ∃ g vl vk vs va, y 12 = .pointer (some ⟨g, 0, none⟩) ∧ W3.heap.size ≤ g ∧ Blk u g 42 zState ∧ IsState (runR S (es ++ [wv])).2 (.agg #[vl, vk, vs, va]) u ∧ Stored g u u' ∧ Blk u' g 42 #[vl, vk, vs, va], ?_, ?_⟩⟩
        · refine ones_fr ?_ ?_ ?_
          · kernel_rfl
          · kernel_rfl
          intro Tf y W4 K Q Cv hF hC4 hd hV hK
          have p12 : (VarZ (W3.heap.size)) (y 12) W4 := ((VL_setL _ _ _ _ _).1 (deps_all hd 12 (by kernel_rfl))).resolve_left (by decide)
          have p10 : (IsState (runR S (es ++ [wv])).2) (y 10) W4 := ((VL_setL _ _ _ _ _).1 (deps_all hd 10 (by kernel_rfl))).resolve_left (by decide)
          obtain ⟨g, eg, hg, hz⟩ := p12
          obtain ⟨vl, vk, vs, va, ev, r1, r2, r3, r4⟩ := p10
          have t12 := hF.get 12 12 (by kernel_rfl)
          have t46 := hF.get 10 46 (by kernel_rfl)
          rw [eg] at t12
          rw [ev] at t46
          have b0 : W4.cell? ⟨g, 0, none⟩ = some (.slice none 0 0) := hz.cell 0
          have b1 : W4.cell? ⟨g, 1, none⟩ = some (.slice none 0 0) := hz.cell 1
          have b2 : W4.cell? ⟨g, 2, none⟩ = some (.slice none 0 0) := hz.cell 2
          have b3 : W4.cell? ⟨g, 3, none⟩ = some (.slice none 0 0) := hz.cell 3
          have z0 := hz.frozen 0
          have z1 := hz.frozen 1
          have z2 := hz.frozen 2
          have z3 := hz.frozen 3
          obtain ⟨k1, k2⟩ := stored_set4 hz vl vk vs va
          obtain ⟨A0, c0, rfl, -⟩ := id r1
          rw [List.length_map] at k1 k2 r1 t46
          obtain ⟨A1, c1, rfl, -⟩ := id r2
          obtain ⟨A2, c2, rfl, -⟩ := id r3
          obtain ⟨A3, c3, rfl, -⟩ := id r4
          clear hF hd
          go_simp
          exact hK undef _ (hV undef _ (hC4.trans (k1.below hg)) ⟨g, _, _, _, _, eg, hg, hz, ⟨_, _, _, _, rfl, r1, r2, r3, r4⟩, k1, k2⟩ ((VL_setL _ _ _ _ _).2 (.inr trivial)))
        · rintro y u u' k b hk ha - ⟨g, vl, vk, vs, va, eg, hg, hz, hI, hS, k2⟩ hv hb hj hj2
          match k, hk, ha, hv, hb, hj, hj2 with
          | 0, _, _, hv, _, _, _ => exact (by cases b with | false => exact (show (IsV (.agg #[.slice L S.learners.length cl, .slice C S.cars.length cc, .int .i64 S.price, .int .i64 S.excess, .int .i64 S.lo, .int .i64 S.hi, .slice T S.terms.length ct])) (y 0) u' from hv) | true => exact trivial)
          | 1, _, _, _, _, hj, _ => exact (by obtain rfl := hj 3 rfl (by kernel_rfl); exact trivial)
          | 2, _, _, hv, _, _, _ => exact (by cases b with | false => exact (show (IsV (.slice A es.length ce)) (y 2) u' from hv) | true => exact trivial)
          | 3, _, _, _, _, hj, _ => exact (by obtain rfl := hj 6 rfl (by kernel_rfl); exact trivial)
          | 4, _, _, hv, _, _, _ => exact (by cases b with | false => exact (show (IsV (.agg #[.int .i64 wv.kind, .int .i64 wv.at_, .int .i64 wv.learner, .int .i64 wv.car, .int .i64 wv.booking, .int .i64 wv.start, .int .i64 wv.hours, .int .i64 wv.day, .int .i64 wv.weather, .int .i64 wv.km, .int .i64 wv.cents])) (y 4) u' from hv) | true => exact trivial)
          | 5, _, _, _, _, hj, _ => exact (by obtain rfl := hj 6 rfl (by kernel_rfl); exact trivial)
          | 6, _, _, hv, _, _, _ => exact (by cases b with | false => exact (show (NewV (es ++ [wv])) (y 6) u' from (show (NewV (es ++ [wv])) (y 6) u from hv).stored hS hz) | true => exact trivial)
          | 7, _, _, hv, _, _, _ => exact (by cases b with | false => exact (show (RunQ (q) (runR S (es ++ [wv])).1 (runR S (es ++ [wv])).2) (y 7) u' from (show (RunQ (q) (runR S (es ++ [wv])).1 (runR S (es ++ [wv])).2) (y 7) u from hv).stored hS hz) | true => exact trivial)
          | 8, _, _, hv, _, _, _ => exact (by cases b with | false => exact (show (RunQ (q) (runR S (es ++ [wv])).1 (runR S (es ++ [wv])).2) (y 8) u' from (show (RunQ (q) (runR S (es ++ [wv])).1 (runR S (es ++ [wv])).2) (y 8) u from hv).stored hS hz) | true => exact trivial)
          | 9, _, _, hv, _, _, _ => exact (by cases b with | false => exact (show (IsInts (runR S (es ++ [wv])).1) (y 9) u' from (show (IsInts (runR S (es ++ [wv])).1) (y 9) u from hv).stored hS hz) | true => exact trivial)
          | 10, _, _, hv, _, _, _ => exact (by cases b with | false => exact (show (IsState (runR S (es ++ [wv])).2) (y 10) u' from (show (IsState (runR S (es ++ [wv])).2) (y 10) u from hv).stored hS hz) | true => exact trivial)
          | 11, _, _, hv, _, _, _ => exact (by cases b with | false => exact (show (IsV (.int .i64 (q))) (y 11) u' from hv) | true => exact trivial)
          | 12, _, _, hv, hb, _, _ => exact (by obtain rfl := hb rfl; obtain ⟨g1, e1, h1, _⟩ := (hv : VarZ (W3.heap.size) (y 12) u); rw [eg] at e1; injection e1 with e1; injection e1 with e1; injection e1 with e1; subst e1; exact (show VarS (W3.heap.size) (runR S (es ++ [wv])).2 (y 12) u' from ⟨g, vl, vk, vs, va, eg, hg, k2, hI.stored hS hz⟩))
          | 13, _, _, hv, _, _, _ => exact (by cases b with | false => exact (show (IsInts (runR S (es ++ [wv])).1) (y 13) u' from (show (IsInts (runR S (es ++ [wv])).1) (y 13) u from hv).stored hS hz) | true => exact trivial)
          | 14, hk, _, _, _, _, _ => exact absurd rfl hk
          | 15, _, ha, _, _, _, _ => exact absurd (ha.symm.trans (by kernel_rfl)) Bool.false_ne_true
          | k + 16, _, _, _, _, _, _ => cases b <;> cases decide (List.lookup (k + 16) _ = some 14) <;> trivial
      · refine ⟨[1, 3, 5, 12], by kernel_rfl, .inl ⟨?_, fun k hk => absurd hk (lk4 (by decide) (by decide) (by decide))⟩⟩
        · refine one_fr ?_ ?_ ?_
          · kernel_rfl
          · left; kernel_rfl
          intro Tf y W4 K Q Cv hF hC4 hd hV hK
          have p11 : (IsV (.int .i64 (q))) (y 11) W4 := ((VL_setL _ _ _ _ _).1 (deps_all hd 11 (by kernel_rfl))).resolve_left (by decide)
          have t47 := hF.get 11 47 (by kernel_rfl)
          rw [Array.getD_eq_getD_getElem?] at t47
          clear hF hd
          go_simp
          exact hK _ _ (hV _ _ hC4 (Below.refl _ _) ((VL_setL _ _ _ _ _).2 (.inr p11)))
    intro y w' hC4 hE
    have e9 : (IsInts (runR S (es ++ [wv])).1) (y 9) w' := hE 9 (of_decide_eq_true (by kernel_rfl))
    have e12 : (VarS (W3.heap.size) (runR S (es ++ [wv])).2) (y 12) w' := hE 12 (of_decide_eq_true (by kernel_rfl))
    have e13 : (IsInts (runR S (es ++ [wv])).1) (y 13) w' := hE 13 (of_decide_eq_true (by kernel_rfl))
    have e15 : (IsV (.int .i64 (q))) (y 15) w' := hE 15 (of_decide_eq_true (by kernel_rfl))
    clear hE
    obtain ⟨gb, vl, vk, vs, va, e12, hgb, kbf, hst⟩ := e12
    have he2 := e13
    obtain ⟨Am, cm, e13, -⟩ := e13
    replace e15 : y 15 = .int .i64 q := e15
    rw [e13] at he2
    obtain ⟨B0, z0, B1, z1, B2, z2, B3, z3, eqv, -⟩ := hst.parts
    simp only [Value.agg.injEq, Array.mk.injEq, List.cons.injEq, and_true] at eqv
    obtain ⟨rfl, rfl, rfl, rfl⟩ := eqv
    have hB6 := hide (hB3.out.trans (hC4.mono hB3.out.size))
    have kb6 := hide (kb3.out.below hC4 kb3.out.lt)
    have hb26 := hide (hb23.out.trans (hC4.mono hb23.out.size))
    have hbx6 := hide (hb12.out.trans (hb26.out.mono hb12.out.size))
    have kx6 := hide (kx.out.below hb26.out kx.out.lt)
    have ky6 := hide (ky.out.below hb26.out ky.out.lt)
    have he2W := hide (fun W (hb : Below w'.heap.size w' W) => he2.below hb)
    have hx2W := hide (fun W (hb : Below w'.heap.size w' W) => hst.below hb)
    replace kbf := hide kbf
    clear e9 he2 hst hRT hEvR kw kb3
    simp only [putAll, Act.put]
    simp only [List.setIfInBounds_toArray, List.set_cons_succ, List.set_cons_zero]
    rw [e12, e13, e15]
    clear e12 e13 e15
    by_cases hq : runE S es = 0
    · have hsch := (run_zero hq).1
      have hq2 : runE S (es ++ [wv]) = 0 := by
        unfold runE
        rw [if_neg (by simp [hsch]), if_neg (by rw [List.length_append]; simp; omega)]
      obtain rfl : q = 0 := by rw [← hqq, hq2]
      rw [hq]
      have hvt := hide (fun W (hb : Below w.heap.size w W) => show Calls Try.prog 33 #[.agg #[.slice L S.learners.length cl, .slice C S.cars.length cc, .int .i64 S.price, .int .i64 S.excess, .int .i64 S.lo, .int .i64 S.hi, .slice T S.terms.length ct]] W fun e w' => e = .returned (.bool true) ∧ Below W.heap.size W w' from by
        have := hV.out W hb
        rwa [hsch, show decide ((0 : Int) = 0) = true from rfl] at this)
      have ha := after_of hq
      have ha2 := after_of hq2
      have hln := ha.len
      have hln2 : (runR S (es ++ [wv])).1.length = es.length + 1 := by rw [ha2.len, List.length_append]; rfl
      clear hV
      obtain ⟨c0, c1, c2, c3, c4, c5, c6⟩ := sch_cells (w := w') (p := w.heap.size) (S := S) kb6.out
      obtain ⟨er, hmv⟩ := moved_all (wv := wv) hq (by omega) (by rw [← hwv.out])
      replace hmv := hide hmv
      have hsh1 := hide (fun W (hb : Below w.heap.size w W) (hb1 : Below w1.heap.size w1 W) => shaped_t (hSc.out W hb) (hxW.out W hb1) ha.ok.km ha.ok.since ha.ok.accLen ha.ok.les (by have := ha.nl; omega))
      have hsh2 := hide (fun W (hb : Below w.heap.size w W) (hb1 : Below w'.heap.size w' W) => shaped_t (hSc.out W hb) (hx2W.out W hb1) ha2.ok.km ha2.ok.since ha2.ok.accLen ha2.ok.les (by have := ha.nl; omega))
      replace hq2 := hide hq2
      replace hqq := hide hqq
      have hcm0 : (runR S (es ++ [wv])).1.length ≤ cm := by
        have := he2W.out w' (Below.refl _ _)
        obtain ⟨_, _, e, -, h⟩ := this
        cases e
        exact h
      rw [hln] at heW ⊢
      rw [hln2] at he2W hcm0 ⊢
      replace ha := hide ha
      replace ha2 := hide ha2
      go_wp2_with fail
      refine (hvt.out w' hB6.out).mono ?_
      rintro e w7 ⟨rfl, hb⟩
      have hb67 := hide hb
      have hB7 := hide (hB6.out.trans (hb.mono hB6.out.size))
      have hbx7 := hide (hbx6.out.trans (hb.mono hbx6.out.size))
      have kb7 := hide (kb6.out.below hb kb6.out.lt)
      have kx7 := hide (kx6.out.below hb kx6.out.lt)
      have ky7 := hide (ky6.out.below hb ky6.out.lt)
      have kbf7 := hide (kbf.out.below hb kbf.out.lt)
      clear hb hvt c0 c1 c2 c3 c4 c5 c6 kb6 kx6 ky6
      have hcmm : es.length + 1 ≤ cm := by omega
      have hcmz : (es.length : Int) ≤ (cm : Int) := by omega
      have hn1 : IntKind.i64.wrap ((es.length : Int) + 1) = (es.length : Int) + 1 := by rw [IntKind.wrap_i64]; omega
      have hn2 : ((es.length + 1 : Nat) : Int) = (es.length : Int) + 1 := by omega
      have hn3 : (((es.length + 1 : Nat) : Int) != (es.length : Int) + 1) = false := by rw [hn2]; simp
      have hln3 := hide (show ((runR S (es ++ [wv])).1.take es.length) = (runR S es).1 by rw [hmv.out.errs, List.take_append_of_le_length (by omega), List.take_of_length_le (by omega)])
      have hErr := hide (Errors_t (heW.out w7 hbx7.out) (isInts_take7 (he2W.out w7 hb67.out) (by omega)) hln3.out.symm (by rw [hln]; unfold maxLen; omega))
      have hsl := slice_hi Try.underlying38 infoErr Am (es.length + 1) cm es.length (by omega) w7
      replace hn2 := hide hn2
      replace hln := hide hln
      replace hln2 := hide hln2
      go_wp2_with fail
      refine hErr.out.mono ?_
      rintro e w8 ⟨rfl, hb⟩
      have hb68 := hide (hb67.out.trans (hb.mono hb67.out.size))
      have hB8 := hide (hB7.out.trans (hb.mono hB7.out.size))
      have hbx8 := hide (hbx7.out.trans (hb.mono hbx7.out.size))
      have kb8 := hide (kb7.out.below hb kb7.out.lt)
      have kx8 := hide (kx7.out.below hb kx7.out.lt)
      have ky8 := hide (ky7.out.below hb ky7.out.lt)
      have kbf8 := hide (kbf7.out.below hb kbf7.out.lt)
      clear hb hErr hsl kb7 kx7 ky7 kbf7 kbf
      have hll : (((runR S (es ++ [wv])).2.les.length : Int) != ((runR S es).2.les.length : Int)) = false := by rw [hmv.out.len]; simp
      obtain ⟨c0, c1, c2, c3, c4, c5, c6⟩ := sch_cells (w := w8) (p := w.heap.size) (S := S) kb8.out
      have x0 : w8.cell? ⟨w1.heap.size, 0, none⟩ = some (.slice A0 (runR S es).2.les.length q0) := kx8.out.cell 0
      have x1 : w8.cell? ⟨w1.heap.size, 1, none⟩ = some (.slice A1 (runR S es).2.km.length q1) := kx8.out.cell 1
      have x2' : w8.cell? ⟨w1.heap.size, 2, none⟩ = some (.slice A2 (runR S es).2.since.length q2) := kx8.out.cell 2
      have x3 : w8.cell? ⟨w1.heap.size, 3, none⟩ = some (.slice A3 (runR S es).2.acc.length q3) := kx8.out.cell 3
      have g0 : w8.cell? ⟨gb, 0, none⟩ = some (.slice B0 (runR S (es ++ [wv])).2.les.length z0) := kbf8.out.cell 0
      go_wp2_with fail
      refine (hsh1.out w8 hB8.out hbx8.out).mono ?_
      rintro e w9 ⟨rfl, hb⟩
      have hb69 := hide (hb68.out.trans (hb.mono hb68.out.size))
      have hB9 := hide (hB8.out.trans (hb.mono hB8.out.size))
      have hbx9 := hide (hbx8.out.trans (hb.mono hbx8.out.size))
      have kb9 := hide (kb8.out.below hb kb8.out.lt)
      have kx9 := hide (kx8.out.below hb kx8.out.lt)
      have ky9 := hide (ky8.out.below hb ky8.out.lt)
      have kbf9 := hide (kbf8.out.below hb kbf8.out.lt)
      clear hb hsh1 kb8 kx8 ky8 kbf8 c0 c1 c2 c3 c4 c5 c6 x0 x1 x2' x3 g0
      obtain ⟨c0, c1, c2, c3, c4, c5, c6⟩ := sch_cells (w := w9) (p := w.heap.size) (S := S) kb9.out
      have g0 : w9.cell? ⟨gb, 0, none⟩ = some (.slice B0 (runR S (es ++ [wv])).2.les.length z0) := kbf9.out.cell 0
      have g1 : w9.cell? ⟨gb, 1, none⟩ = some (.slice B1 (runR S (es ++ [wv])).2.km.length z1) := kbf9.out.cell 1
      have g2 : w9.cell? ⟨gb, 2, none⟩ = some (.slice B2 (runR S (es ++ [wv])).2.since.length z2) := kbf9.out.cell 2
      have g3 : w9.cell? ⟨gb, 3, none⟩ = some (.slice B3 (runR S (es ++ [wv])).2.acc.length z3) := kbf9.out.cell 3
      go_wp2_with fail
      refine (hsh2.out w9 hB9.out hb69.out).mono ?_
      rintro e wA ⟨rfl, hb⟩
      have hb6A := hide (hb69.out.trans (hb.mono hb69.out.size))
      have hBA := hide (hB9.out.trans (hb.mono hB9.out.size))
      have hbxA := hide (hbx9.out.trans (hb.mono hbx9.out.size))
      have kbA := hide (kb9.out.below hb kb9.out.lt)
      have kxA := hide (kx9.out.below hb kx9.out.lt)
      have kyA := hide (ky9.out.below hb ky9.out.lt)
      have kbfA := hide (kbf9.out.below hb kbf9.out.lt)
      clear hb hsh2 kb9 kx9 ky9 kbf9 c0 c1 c2 c3 c4 c5 c6 g0 g1 g2 g3
      have hatn : (runR S (es ++ [wv])).1[es.length]?.getD 0 = er := by
        rw [hmv.out.errs, List.getElem?_append_right (by rw [hln.out]; exact Nat.le_refl _), hln.out, Nat.sub_self]; rfl
      obtain ⟨gm, om, rfl, hgm, m0⟩ := int_read (he2W.out wA hb6A.out) (j := es.length) (by rw [hln2.out]; omega)
      rw [hatn] at m0
      replace hatn := hide hatn
      have hnz : (es.length : Int) < ((es.length + 1 : Nat) : Int) := by omega
      by_cases he0 : er = 0
      · subst he0
        obtain ⟨hwk, hwd, hwa⟩ : wv.weather = x2 ∧ wv.day = x1 ∧ wv.at_ = x0 := by rw [← hwv.out]; exact ⟨rfl, rfl, rfl⟩
        obtain ⟨⟨hw0, hw7⟩, hacc, hkm, hmvd⟩ := hmv.out.yes rfl
        rw [hwk] at hw0 hw7
        have hmW := hide (fun (i : Nat) (hi : i < (runR S es).2.les.length) => show Moved S wv _ _ from hmvd i hi)
        have hnn := hide hmv.out.len
        replace hacc := hide hacc
        replace hkm := hide hkm
        clear hmvd
        obtain ⟨B0', z0', B1', z1', B2', z2', B3', z3', eqv, hl2, hk2, hs2, ha3⟩ := (hx2W.out wA hb6A.out).parts
        simp only [Value.agg.injEq, Array.mk.injEq, List.cons.injEq, Value.slice.injEq, and_true, true_and] at eqv
        obtain ⟨⟨rfl, rfl⟩, ⟨rfl, rfl⟩, ⟨rfl, rfl⟩, ⟨rfl, rfl⟩⟩ := eqv
        have hl2W := hide (fun W (hb : Below wA.heap.size wA W) => hl2.below hb)
        have hk2W := hide (fun W (hb : Below wA.heap.size wA W) => hk2.below hb)
        have ha2W := hide (fun W (hb : Below wA.heap.size wA W) => ha3.below hb)
        clear hl2 hk2 hs2 ha3
        have y2 : wA.cell? ⟨w.heap.size + 1, 2, none⟩ = some (.int .i64 x2) := kyA.out.cell 2
        have t1 : decide (x2 < 0) = false := decide_eq_false (by omega)
        have t2 : decide ((8 : Int) ≤ x2) = false := decide_eq_false (by omega)
        have hBA0 := hide (show Below wA.heap.size wA wA from Below.refl _ _)
        replace hmv := hide hmv.out.errs
        replace hwk := hide hwk
        replace hwd := hide hwd
        replace hwa := hide hwa
        go_wp2
        go_loopg [14, 15, 16, 17] (runR S es).2.les.length (fun gg s14 _ _ _ wr => ∃ i : Nat, i ≤ (runR S es).2.les.length ∧ (runR S es).2.les.length ≤ gg + i ∧ s14 = .int .i64 i ∧ Hid (Below wA.heap.size wA wr))
        case atStart => exact ⟨0, Nat.zero_le _, by omega, rfl, hBA0.out⟩
        case round =>
          clear m0 y2
          obtain ⟨i, hi, hgi, rfl, hBr⟩ := hrel
          have hbxr := hide (hbxA.out.trans (hBr.out.mono hbxA.out.size))
          have kxr := hide (kxA.out.below hBr.out kxA.out.lt)
          have kfr := hide (kbfA.out.below hBr.out kbfA.out.lt)
          have kyr := hide (kyA.out.below hBr.out kyA.out.lt)
          have kbr := hide (kbA.out.below hBr.out kbA.out.lt)
          have g0 : wr.cell? ⟨gb, 0, none⟩ = some (.slice B0 (runR S es).2.les.length z0) := by rw [← hnn.out]; exact kfr.out.cell 0
          by_cases hil : i < (runR S es).2.les.length
          · have hilz : (i : Int) < ((runR S es).2.les.length : Int) := by omega
            have hi0 : (0 : Int) ≤ (i : Int) := by omega
            obtain ⟨gl, ol, rfl, hgl, e0, e1, e2, e3, e4⟩ := les_read (hlW.out wr hbxr.out) hil
            obtain ⟨gm2, om2, rfl, hgm2, d0, d1, d2, d3, d4⟩ := les_read (hl2W.out wr hBr.out) (j := i) (by rw [hnn.out]; exact hil)
            have x0' : wr.cell? ⟨w1.heap.size, 0, none⟩ = some (.slice (some ⟨gl, ol, none⟩) (runR S es).2.les.length q0) := kxr.out.cell 0
            have hkl : (runR S es).2.les.length ≤ 100 := ha.out.gd.lim.les
            have hlo := les_at ha.out.gd.les hil
            have hlo2 := les_at ha2.out.gd.les (i := i) (by rw [hnn.out]; exact hil)
            have hmj := hmW.out i hil
            unfold atL at hmj
            generalize (runR S es).2.les[i]?.getD default = a at *
            generalize (runR S (es ++ [wv])).2.les[i]?.getD default = b at *
            obtain ⟨al, ac, as_, ah, at_⟩ := a
            obtain ⟨bl, bc, bs, bh, bt⟩ := b
            obtain ⟨⟨o1, o2⟩, ⟨o3, o4⟩, ⟨o5, o6⟩, ⟨o7, o8⟩, -⟩ := hlo
            obtain ⟨-, -, -, ⟨u7, u8⟩, -⟩ := hlo2
            simp only at o1 o2 o3 o4 o5 o6 o7 o8 u7 u8 e0 e1 e2 e3 e4 d0 d1 d2 d3 d4
            unfold Moved at hmj
            simp only at hmj
            rw [hwk.out, hwd.out, hwa.out] at hmj
            replace hmj := hide hmj
            go_upto_region 17 with fail
            refine region_vd [IsV (.pointer (some ⟨w1.heap.size, 0, none⟩)), IsV (.slice (some ⟨gl, ol, none⟩) (runR S es).2.les.length q0), IsV (.int .i64 i), IsV (.pointer (some ⟨gl, ol + i * 5, none⟩)), IsV (.agg #[.int .i64 al, .int .i64 ac, .int .i64 as_, .int .i64 ah, .int .i64 at_]), IsV (.pointer (some ⟨gb, 0, none⟩)), IsV (.slice (some ⟨gm2, om2, none⟩) (runR S es).2.les.length z0), IsV (.int .i64 i), IsV (.pointer (some ⟨gm2, om2 + i * 5, none⟩)), IsV (.agg #[.int .i64 bl, .int .i64 bc, .int .i64 bs, .int .i64 bh, .int .i64 bt]), LesZ (wr.heap.size), LesZ (wr.heap.size), TT, TT] [TT, TT, TT, TT, TT, TT, TT, TT, TT, TT, LesS (wr.heap.size) ⟨al, ac, as_, ah, at_⟩, LesS (wr.heap.size) ⟨bl, bc, bs, bh, bt⟩, TT, TT] [(10, 12), (11, 13)] [10, 11] (by kernel_rfl) (by kernel_rfl) (by kernel_rfl) ⟨IsV.stb _, IsV.stb _, IsV.stb _, IsV.stb _, IsV.stb _, IsV.stb _, IsV.stb _, IsV.stb _, IsV.stb _, IsV.stb _, LesZ.stb _, LesZ.stb _, TT.stb, TT.stb, trivial⟩ ⟨TT.stb, TT.stb, TT.stb, TT.stb, TT.stb, TT.stb, TT.stb, TT.stb, TT.stb, TT.stb, LesS.stb _ _, LesS.stb _ _, TT.stb, TT.stb, trivial⟩ ?_ ?_ ?_
            · intro k hk b v W hv
              simp only [List.mem_cons, List.not_mem_nil, or_false] at hk
              rcases hk with rfl | rfl
              · cases b with
                | false => obtain ⟨g, rfl, -, h2⟩ := (show LesZ (wr.heap.size) v W from hv); exact ⟨g, rfl, h2.lt⟩
                | true => obtain ⟨g, rfl, -, h2⟩ := (show LesS (wr.heap.size) ⟨al, ac, as_, ah, at_⟩ v W from hv); exact ⟨g, rfl, h2.lt⟩
              · cases b with
                | false => obtain ⟨g, rfl, -, h2⟩ := (show LesZ (wr.heap.size) v W from hv); exact ⟨g, rfl, h2.lt⟩
                | true => obtain ⟨g, rfl, -, h2⟩ := (show LesS (wr.heap.size) ⟨bl, bc, bs, bh, bt⟩ v W from hv); exact ⟨g, rfl, h2.lt⟩
            · try clear hmW
              try clear hlW
              try clear hkW
              try clear hsW
              try clear haW
              try clear hSc
              try clear hV
              try clear huW
              try clear hEW
              try clear hRW
              try clear hRun
              try clear hxW
              try clear heW
              try clear hl2W
              try clear hk2W
              try clear ha2W
              try clear hacc
              try clear hkm
              try clear hmj
              try clear ha
              try clear ha2
              try clear hErr
              try clear hbxA
              try clear hb6A
              try clear hbx
              try clear hB3
              try clear kyr
              try clear kbr
              try clear hmv
              try clear he2W
              try clear hx2W
              refine ⟨?_, ?_, ?_, ?_, ?_, ?_, ?_, ?_, ?_, ?_, ?_, ?_, ?_, ?_, trivial⟩
              · refine ⟨[10, 11], by kernel_rfl, .inl ⟨by decide, ?_, fun k hk => absurd hk (lk2 (by decide) (by decide))⟩⟩
                · refine one_fr ?_ ?_ ?_
                  · kernel_rfl
                  · left; kernel_rfl
                  intro Tf y W4 K Q Cv hF hC4 hd hV hK
                  have t8 := hF.old 8 (.pointer (some ⟨w1.heap.size, 0, none⟩)) (by kernel_rfl) (by kernel_rfl)
                  clear hF hd
                  go_simp
                  exact hK _ _ (hV _ _ hC4 (Below.refl _ _) ((VL_setL _ _ _ _ _).2 (.inr rfl)))
              · refine ⟨[10, 11], by kernel_rfl, .inl ⟨by decide, ?_, fun k hk => absurd hk (lk2 (by decide) (by decide))⟩⟩
                · refine one_fr ?_ ?_ ?_
                  · kernel_rfl
                  · left; kernel_rfl
                  intro Tf y W4 K Q Cv hF hC4 hd hV hK
                  have p0 : y 0 = .pointer (some ⟨w1.heap.size, 0, none⟩) := ((VL_setL _ _ _ _ _).1 (deps_all hd 0 (by kernel_rfl))).resolve_left (by decide)
                  have t139 := hF.get 0 139 (by kernel_rfl)
                  rw [p0] at t139
                  clear hF hd
                  have x0' : W4.cell? ⟨w1.heap.size, 0, none⟩ = some (.slice (some ⟨gl, ol, none⟩) (runR S es).2.les.length q0) := (kxr.out.below hC4 kxr.out.lt).cell 0
                  go_simp
                  exact hK _ _ (hV _ _ hC4 (Below.refl _ _) ((VL_setL _ _ _ _ _).2 (.inr rfl)))
              · refine ⟨[10, 11], by kernel_rfl, .inl ⟨by decide, ?_, fun k hk => absurd hk (lk2 (by decide) (by decide))⟩⟩
                · refine one_fr ?_ ?_ ?_
                  · kernel_rfl
                  · left; kernel_rfl
                  intro Tf y W4 K Q Cv hF hC4 hd hV hK
                  have t14 := hF.old 14 (.int .i64 i) (by kernel_rfl) (by kernel_rfl)
                  clear hF hd
                  go_simp
                  exact hK _ _ (hV _ _ hC4 (Below.refl _ _) ((VL_setL _ _ _ _ _).2 (.inr rfl)))
              · refine ⟨[10, 11], by kernel_rfl, .inl ⟨by decide, ?_, fun k hk => absurd hk (lk2 (by decide) (by decide))⟩⟩
                · refine one_fr ?_ ?_ ?_
                  · kernel_rfl
                  · left; kernel_rfl
                  intro Tf y W4 K Q Cv hF hC4 hd hV hK
                  have p1 : y 1 = .slice (some ⟨gl, ol, none⟩) (runR S es).2.les.length q0 := ((VL_setL _ _ _ _ _).1 (deps_all hd 1 (by kernel_rfl))).resolve_left (by decide)
                  have p2 : y 2 = .int .i64 i := ((VL_setL _ _ _ _ _).1 (deps_all hd 2 (by kernel_rfl))).resolve_left (by decide)
                  have t140 := hF.get 1 140 (by kernel_rfl)
                  rw [p1] at t140
                  have t141 := hF.get 2 141 (by kernel_rfl)
                  rw [p2] at t141
                  clear hF hd
                  go_simp
                  exact hK _ _ (hV _ _ hC4 (Below.refl _ _) ((VL_setL _ _ _ _ _).2 (.inr rfl)))
              · refine ⟨[10, 11], by kernel_rfl, .inl ⟨by decide, ?_, fun k hk => absurd hk (lk2 (by decide) (by decide))⟩⟩
                · refine one_fr ?_ ?_ ?_
                  · kernel_rfl
                  · left; kernel_rfl
                  intro Tf y W4 K Q Cv hF hC4 hd hV hK
                  have p3 : y 3 = .pointer (some ⟨gl, ol + i * 5, none⟩) := ((VL_setL _ _ _ _ _).1 (deps_all hd 3 (by kernel_rfl))).resolve_left (by decide)
                  have t142 := hF.get 3 142 (by kernel_rfl)
                  rw [p3] at t142
                  clear hF hd
                  have f0 := (cellB hC4 hgl).trans e0
                  have f1 := (cellB hC4 hgl).trans e1
                  have f2 := (cellB hC4 hgl).trans e2
                  have f3 := (cellB hC4 hgl).trans e3
                  have f4 := (cellB hC4 hgl).trans e4
                  go_simp
                  exact hK _ _ (hV _ _ hC4 (Below.refl _ _) ((VL_setL _ _ _ _ _).2 (.inr rfl)))
              · refine ⟨[10, 11], by kernel_rfl, .inl ⟨by decide, ?_, fun k hk => absurd hk (lk2 (by decide) (by decide))⟩⟩
                · refine one_fr ?_ ?_ ?_
                  · kernel_rfl
                  · left; kernel_rfl
                  intro Tf y W4 K Q Cv hF hC4 hd hV hK
                  have t12 := hF.old 12 (.pointer (some ⟨gb, 0, none⟩)) (by kernel_rfl) (by kernel_rfl)
                  clear hF hd
                  go_simp
                  exact hK _ _ (hV _ _ hC4 (Below.refl _ _) ((VL_setL _ _ _ _ _).2 (.inr rfl)))
              · refine ⟨[10, 11], by kernel_rfl, .inl ⟨by decide, ?_, fun k hk => absurd hk (lk2 (by decide) (by decide))⟩⟩
                · refine one_fr ?_ ?_ ?_
                  · kernel_rfl
                  · left; kernel_rfl
                  intro Tf y W4 K Q Cv hF hC4 hd hV hK
                  have p5 : y 5 = .pointer (some ⟨gb, 0, none⟩) := ((VL_setL _ _ _ _ _).1 (deps_all hd 5 (by kernel_rfl))).resolve_left (by decide)
                  have t144 := hF.get 5 144 (by kernel_rfl)
                  rw [p5] at t144
                  clear hF hd
                  have g0' : W4.cell? ⟨gb, 0, none⟩ = some (.slice (some ⟨gm2, om2, none⟩) (runR S es).2.les.length z0) := (cellB hC4 kfr.out.lt).trans g0
                  go_simp
                  exact hK _ _ (hV _ _ hC4 (Below.refl _ _) ((VL_setL _ _ _ _ _).2 (.inr rfl)))
              · refine ⟨[10, 11], by kernel_rfl, .inl ⟨by decide, ?_, fun k hk => absurd hk (lk2 (by decide) (by decide))⟩⟩
                · refine one_fr ?_ ?_ ?_
                  · kernel_rfl
                  · left; kernel_rfl
                  intro Tf y W4 K Q Cv hF hC4 hd hV hK
                  have t14 := hF.old 14 (.int .i64 i) (by kernel_rfl) (by kernel_rfl)
                  clear hF hd
                  go_simp
                  exact hK _ _ (hV _ _ hC4 (Below.refl _ _) ((VL_setL _ _ _ _ _).2 (.inr rfl)))
              · refine ⟨[10, 11], by kernel_rfl, .inl ⟨by decide, ?_, fun k hk => absurd hk (lk2 (by decide) (by decide))⟩⟩
                · refine one_fr ?_ ?_ ?_
                  · kernel_rfl
                  · left; kernel_rfl
                  intro Tf y W4 K Q Cv hF hC4 hd hV hK
                  have p6 : y 6 = .slice (some ⟨gm2, om2, none⟩) (runR S es).2.les.length z0 := ((VL_setL _ _ _ _ _).1 (deps_all hd 6 (by kernel_rfl))).resolve_left (by decide)
                  have p7 : y 7 = .int .i64 i := ((VL_setL _ _ _ _ _).1 (deps_all hd 7 (by kernel_rfl))).resolve_left (by decide)
                  have t145 := hF.get 6 145 (by kernel_rfl)
                  rw [p6] at t145
                  have t146 := hF.get 7 146 (by kernel_rfl)
                  rw [p7] at t146
                  clear hF hd
                  go_simp
                  exact hK _ _ (hV _ _ hC4 (Below.refl _ _) ((VL_setL _ _ _ _ _).2 (.inr rfl)))
              · refine ⟨[10, 11], by kernel_rfl, .inl ⟨by decide, ?_, fun k hk => absurd hk (lk2 (by decide) (by decide))⟩⟩
                · refine one_fr ?_ ?_ ?_
                  · kernel_rfl
                  · left; kernel_rfl
                  intro Tf y W4 K Q Cv hF hC4 hd hV hK
                  have p8 : y 8 = .pointer (some ⟨gm2, om2 + i * 5, none⟩) := ((VL_setL _ _ _ _ _).1 (deps_all hd 8 (by kernel_rfl))).resolve_left (by decide)
                  have t147 := hF.get 8 147 (by kernel_rfl)
                  rw [p8] at t147
                  clear hF hd
                  have f0 := (cellB hC4 hgm2).trans d0
                  have f1 := (cellB hC4 hgm2).trans d1
                  have f2 := (cellB hC4 hgm2).trans d2
                  have f3 := (cellB hC4 hgm2).trans d3
                  have f4 := (cellB hC4 hgm2).trans d4
                  go_simp
                  exact hK _ _ (hV _ _ hC4 (Below.refl _ _) ((VL_setL _ _ _ _ _).2 (.inr rfl)))
              · refine ⟨[11], by kernel_rfl, .inr (.inr ⟨?_, fun k hk => absurd hk (lk2 (by decide) (by decide))⟩)⟩
                · refine al_fr ?_ ?_ ?_
                  · kernel_rfl
                  · kernel_rfl
                  intro Tf y W4 K Q Cv hF hC4 hV hK
                  clear hF
                  go_simp
                  exact hK _ _ (hV _ _ (hC4.alloc hC4.size _) ((Below.refl _ _).alloc (Nat.le_refl _) _) ⟨W4.heap.size, rfl, hC4.size, blkNew rfl⟩ rfl)
              · refine ⟨[10], by kernel_rfl, .inr (.inr ⟨?_, fun k hk => absurd hk (lk2 (by decide) (by decide))⟩)⟩
                · refine al_fr ?_ ?_ ?_
                  · kernel_rfl
                  · kernel_rfl
                  intro Tf y W4 K Q Cv hF hC4 hV hK
                  clear hF
                  go_simp
                  exact hK _ _ (hV _ _ (hC4.alloc hC4.size _) ((Below.refl _ _).alloc (Nat.le_refl _) _) ⟨W4.heap.size, rfl, hC4.size, blkNew rfl⟩ rfl)
              · refine ⟨[11], by kernel_rfl, .inr (.inl ⟨by decide, fun y u u' => ∃ g, y 10 = .pointer (some ⟨g, 0, none⟩) ∧ wr.heap.size ≤ g ∧ Stored g u u' ∧ Blk u' g 63 (lesCells ⟨al, ac, as_, ah, at_⟩).toArray, ?_, ?_⟩)⟩
                · refine ones_fr ?_ ?_ ?_
                  · kernel_rfl
                  · kernel_rfl
                  intro Tf y W4 K Q Cv hF hC4 hd hV hK
                  obtain ⟨g, eg, hg, hz⟩ : LesZ (wr.heap.size) (y 10) W4 := ((VL_setL _ _ _ _ _).1 (deps_all hd 10 (by kernel_rfl))).resolve_left (by decide)
                  have p4 : y 4 = .agg #[.int .i64 al, .int .i64 ac, .int .i64 as_, .int .i64 ah, .int .i64 at_] := ((VL_setL _ _ _ _ _).1 (deps_all hd 4 (by kernel_rfl))).resolve_left (by decide)
                  have t15 := hF.get 10 15 (by kernel_rfl)
                  have t143 := hF.get 4 143 (by kernel_rfl)
                  rw [eg] at t15
                  rw [p4] at t143
                  have b0 : W4.cell? ⟨g, 0, none⟩ = some (.int .i64 0) := hz.cell 0
                  have b1 : W4.cell? ⟨g, 1, none⟩ = some (.int .i64 0) := hz.cell 1
                  have b2 : W4.cell? ⟨g, 2, none⟩ = some (.int .i64 0) := hz.cell 2
                  have b3 : W4.cell? ⟨g, 3, none⟩ = some (.int .i64 0) := hz.cell 3
                  have b4 : W4.cell? ⟨g, 4, none⟩ = some (.int .i64 0) := hz.cell 4
                  have z0 := hz.frozen 0
                  have z1 := hz.frozen 1
                  have z2 := hz.frozen 2
                  have z3 := hz.frozen 3
                  have z4 := hz.frozen 4
                  obtain ⟨k1, k2⟩ := stored_les hz (.int .i64 al) (.int .i64 ac) (.int .i64 as_) (.int .i64 ah) (.int .i64 at_)
                  clear hF hd
                  go_simp
                  exact hK undef _ (hV undef _ (hC4.trans (k1.below hg)) ⟨g, eg, hg, k1, k2⟩ ((VL_setL _ _ _ _ _).2 (.inr trivial)))
                · rintro y u u' k b hk ha - ⟨g, eg, hg, hS, k2⟩ hv hne hb hj hj2
                  match k, hk, ha, hv, hne, hb with
                  | 0, _, _, hv, _, _ => exact (by cases b with | false => exact (show (IsV (.pointer (some ⟨w1.heap.size, 0, none⟩))) (y 0) u' from hv) | true => exact trivial)
                  | 1, _, _, hv, _, _ => exact (by cases b with | false => exact (show (IsV (.slice (some ⟨gl, ol, none⟩) (runR S es).2.les.length q0)) (y 1) u' from hv) | true => exact trivial)
                  | 2, _, _, hv, _, _ => exact (by cases b with | false => exact (show (IsV (.int .i64 i)) (y 2) u' from hv) | true => exact trivial)
                  | 3, _, _, hv, _, _ => exact (by cases b with | false => exact (show (IsV (.pointer (some ⟨gl, ol + i * 5, none⟩))) (y 3) u' from hv) | true => exact trivial)
                  | 4, _, _, hv, _, _ => exact (by cases b with | false => exact (show (IsV (.agg #[.int .i64 al, .int .i64 ac, .int .i64 as_, .int .i64 ah, .int .i64 at_])) (y 4) u' from hv) | true => exact trivial)
                  | 5, _, _, hv, _, _ => exact (by cases b with | false => exact (show (IsV (.pointer (some ⟨gb, 0, none⟩))) (y 5) u' from hv) | true => exact trivial)
                  | 6, _, _, hv, _, _ => exact (by cases b with | false => exact (show (IsV (.slice (some ⟨gm2, om2, none⟩) (runR S es).2.les.length z0)) (y 6) u' from hv) | true => exact trivial)
                  | 7, _, _, hv, _, _ => exact (by cases b with | false => exact (show (IsV (.int .i64 i)) (y 7) u' from hv) | true => exact trivial)
                  | 8, _, _, hv, _, _ => exact (by cases b with | false => exact (show (IsV (.pointer (some ⟨gm2, om2 + i * 5, none⟩))) (y 8) u' from hv) | true => exact trivial)
                  | 9, _, _, hv, _, _ => exact (by cases b with | false => exact (show (IsV (.agg #[.int .i64 bl, .int .i64 bc, .int .i64 bs, .int .i64 bh, .int .i64 bt])) (y 9) u' from hv) | true => exact trivial)
                  | 10, _, _, _, _, hb => exact (by obtain rfl := hb rfl; exact (show LesS (wr.heap.size) ⟨al, ac, as_, ah, at_⟩ (y 10) u' from ⟨g, eg, hg, k2⟩))
                  | 11, _, _, hv, hne, _ =>
                    have h9 : blkOf (y 10) ≠ blkOf (y 11) := dif_on hne 10 (by kernel_rfl) (by decide) (by decide) (by decide)
                    rw [eg] at h9
                    cases b with
                    | false => obtain ⟨g1, e1, h1, h2⟩ := (show LesZ (wr.heap.size) (y 11) u from hv); rw [e1] at h9; exact (show LesZ (wr.heap.size) (y 11) u' from ⟨g1, e1, h1, h2.stored hS (fun e => h9 (by rw [e]))⟩)
                    | true => obtain ⟨g1, e1, h1, h2⟩ := (show LesS (wr.heap.size) ⟨bl, bc, bs, bh, bt⟩ (y 11) u from hv); rw [e1] at h9; exact (show LesS (wr.heap.size) ⟨bl, bc, bs, bh, bt⟩ (y 11) u' from ⟨g1, e1, h1, h2.stored hS (fun e => h9 (by rw [e]))⟩)
                  | 12, hk, _, _, _, _ => exact absurd rfl hk
                  | 13, _, _, hv, _, _ => exact (by cases b with | false => exact (show (TT) (y 13) u' from hv) | true => exact trivial)
                  | k + 14, _, _, _, _, _ => cases b <;> cases decide (List.lookup (k + 14) _ = some 12) <;> trivial
              · refine ⟨[10], by kernel_rfl, .inr (.inl ⟨by decide, fun y u u' => ∃ g, y 11 = .pointer (some ⟨g, 0, none⟩) ∧ wr.heap.size ≤ g ∧ Stored g u u' ∧ Blk u' g 63 (lesCells ⟨bl, bc, bs, bh, bt⟩).toArray, ?_, ?_⟩)⟩
                · refine ones_fr ?_ ?_ ?_
                  · kernel_rfl
                  · kernel_rfl
                  intro Tf y W4 K Q Cv hF hC4 hd hV hK
                  obtain ⟨g, eg, hg, hz⟩ : LesZ (wr.heap.size) (y 11) W4 := ((VL_setL _ _ _ _ _).1 (deps_all hd 11 (by kernel_rfl))).resolve_left (by decide)
                  have p9 : y 9 = .agg #[.int .i64 bl, .int .i64 bc, .int .i64 bs, .int .i64 bh, .int .i64 bt] := ((VL_setL _ _ _ _ _).1 (deps_all hd 9 (by kernel_rfl))).resolve_left (by decide)
                  have t16 := hF.get 11 16 (by kernel_rfl)
                  have t148 := hF.get 9 148 (by kernel_rfl)
                  rw [eg] at t16
                  rw [p9] at t148
                  have b0 : W4.cell? ⟨g, 0, none⟩ = some (.int .i64 0) := hz.cell 0
                  have b1 : W4.cell? ⟨g, 1, none⟩ = some (.int .i64 0) := hz.cell 1
                  have b2 : W4.cell? ⟨g, 2, none⟩ = some (.int .i64 0) := hz.cell 2
                  have b3 : W4.cell? ⟨g, 3, none⟩ = some (.int .i64 0) := hz.cell 3
                  have b4 : W4.cell? ⟨g, 4, none⟩ = some (.int .i64 0) := hz.cell 4
                  have z0 := hz.frozen 0
                  have z1 := hz.frozen 1
                  have z2 := hz.frozen 2
                  have z3 := hz.frozen 3
                  have z4 := hz.frozen 4
                  obtain ⟨k1, k2⟩ := stored_les hz (.int .i64 bl) (.int .i64 bc) (.int .i64 bs) (.int .i64 bh) (.int .i64 bt)
                  clear hF hd
                  go_simp
                  exact hK undef _ (hV undef _ (hC4.trans (k1.below hg)) ⟨g, eg, hg, k1, k2⟩ ((VL_setL _ _ _ _ _).2 (.inr trivial)))
                · rintro y u u' k b hk ha - ⟨g, eg, hg, hS, k2⟩ hv hne hb hj hj2
                  match k, hk, ha, hv, hne, hb with
                  | 0, _, _, hv, _, _ => exact (by cases b with | false => exact (show (IsV (.pointer (some ⟨w1.heap.size, 0, none⟩))) (y 0) u' from hv) | true => exact trivial)
                  | 1, _, _, hv, _, _ => exact (by cases b with | false => exact (show (IsV (.slice (some ⟨gl, ol, none⟩) (runR S es).2.les.length q0)) (y 1) u' from hv) | true => exact trivial)
                  | 2, _, _, hv, _, _ => exact (by cases b with | false => exact (show (IsV (.int .i64 i)) (y 2) u' from hv) | true => exact trivial)
                  | 3, _, _, hv, _, _ => exact (by cases b with | false => exact (show (IsV (.pointer (some ⟨gl, ol + i * 5, none⟩))) (y 3) u' from hv) | true => exact trivial)
                  | 4, _, _, hv, _, _ => exact (by cases b with | false => exact (show (IsV (.agg #[.int .i64 al, .int .i64 ac, .int .i64 as_, .int .i64 ah, .int .i64 at_])) (y 4) u' from hv) | true => exact trivial)
                  | 5, _, _, hv, _, _ => exact (by cases b with | false => exact (show (IsV (.pointer (some ⟨gb, 0, none⟩))) (y 5) u' from hv) | true => exact trivial)
                  | 6, _, _, hv, _, _ => exact (by cases b with | false => exact (show (IsV (.slice (some ⟨gm2, om2, none⟩) (runR S es).2.les.length z0)) (y 6) u' from hv) | true => exact trivial)
                  | 7, _, _, hv, _, _ => exact (by cases b with | false => exact (show (IsV (.int .i64 i)) (y 7) u' from hv) | true => exact trivial)
                  | 8, _, _, hv, _, _ => exact (by cases b with | false => exact (show (IsV (.pointer (some ⟨gm2, om2 + i * 5, none⟩))) (y 8) u' from hv) | true => exact trivial)
                  | 9, _, _, hv, _, _ => exact (by cases b with | false => exact (show (IsV (.agg #[.int .i64 bl, .int .i64 bc, .int .i64 bs, .int .i64 bh, .int .i64 bt])) (y 9) u' from hv) | true => exact trivial)
                  | 10, _, _, hv, hne, _ =>
                    have h9 : blkOf (y 11) ≠ blkOf (y 10) := dif_on hne 11 (by kernel_rfl) (by decide) (by decide) (by decide)
                    rw [eg] at h9
                    cases b with
                    | false => obtain ⟨g1, e1, h1, h2⟩ := (show LesZ (wr.heap.size) (y 10) u from hv); rw [e1] at h9; exact (show LesZ (wr.heap.size) (y 10) u' from ⟨g1, e1, h1, h2.stored hS (fun e => h9 (by rw [e]))⟩)
                    | true => obtain ⟨g1, e1, h1, h2⟩ := (show LesS (wr.heap.size) ⟨al, ac, as_, ah, at_⟩ (y 10) u from hv); rw [e1] at h9; exact (show LesS (wr.heap.size) ⟨al, ac, as_, ah, at_⟩ (y 10) u' from ⟨g1, e1, h1, h2.stored hS (fun e => h9 (by rw [e]))⟩)
                  | 11, _, _, _, _, hb => exact (by obtain rfl := hb rfl; exact (show LesS (wr.heap.size) ⟨bl, bc, bs, bh, bt⟩ (y 11) u' from ⟨g, eg, hg, k2⟩))
                  | 12, _, _, hv, _, _ => exact (by cases b with | false => exact (show (TT) (y 12) u' from hv) | true => exact trivial)
                  | 13, hk, _, _, _, _ => exact absurd rfl hk
                  | k + 14, _, _, _, _, _ => cases b <;> cases decide (List.lookup (k + 14) _ = some 13) <;> trivial
            intro y W17 hC4 hE hD
            have e10 : LesS (wr.heap.size) ⟨al, ac, as_, ah, at_⟩ (y 10) W17 := hE 10 (of_decide_eq_true (by kernel_rfl))
            have e11 : LesS (wr.heap.size) ⟨bl, bc, bs, bh, bt⟩ (y 11) W17 := hE 11 (of_decide_eq_true (by kernel_rfl))
            clear hE hD
            obtain ⟨ga, f10, hga, ka⟩ := e10
            obtain ⟨gc, f11, hgc, kc⟩ := e11
            simp only [putAll, Act.put]
            simp only [List.setIfInBounds_toArray, List.set_cons_succ, List.set_cons_zero]
            rw [f10, f11]
            clear f10 f11 e0 e1 e2 e3 e4 d0 d1 d2 d3 d4 x0' g0
            have hBr2 := hide (hBr.out.trans (hC4.mono hBr.out.size))
            have kbr2 := hide (kbr.out.below hC4 kbr.out.lt)
            have kyr2 := hide (kyr.out.below hC4 kyr.out.lt)
            have hBW := hide (hBA.out.trans (hBr2.out.mono hBA.out.size))
            clear hBr hbxr kxr kfr kyr kbr hlW hkW hsW haW hl2W hk2W ha2W
            unfold lesCells at ka kc
            simp only at ka kc
            replace ka := hide ka
            replace kc := hide kc
            have a4 : W17.cell? ⟨ga, 4, none⟩ = some (.int .i64 at_) := ka.out.cell 4
            have a2 : W17.cell? ⟨ga, 2, none⟩ = some (.int .i64 as_) := ka.out.cell 2
            have a1 : W17.cell? ⟨ga, 1, none⟩ = some (.int .i64 ac) := ka.out.cell 1
            have y0 : W17.cell? ⟨w.heap.size + 1, 0, none⟩ = some (.int .i64 x0) := kyr2.out.cell 0
            have y1 : W17.cell? ⟨w.heap.size + 1, 1, none⟩ = some (.int .i64 x1) := kyr2.out.cell 1
            have y2 : W17.cell? ⟨w.heap.size + 1, 2, none⟩ = some (.int .i64 x2) := kyr2.out.cell 2
            have hqd : as_.tdiv 24 = as_ / 24 := Int.tdiv_eq_ediv_of_nonneg (by omega)
            obtain ⟨qd, hqq⟩ : ∃ z, as_ / 24 = z := ⟨_, rfl⟩
            have hqw : IntKind.i64.wrap qd = qd := by rw [IntKind.wrap_i64]; omega
            rw [hqq] at hqd hmj
            replace hqq := hide hqq
            by_cases hst : at_ = 0
            · have t3 : (at_ == 0) = true := by simp [hst]
              by_cases hday : qd = x1
              · have t4 : (qd == x1) = true := by simp [hday]
                by_cases htl : x0 < as_
                · have t5 : decide (x0 < as_) = true := decide_eq_true htl
                  obtain ⟨jc, hjc⟩ : ∃ jc : Nat, ac = (jc : Int) := ⟨ac.toNat, by omega⟩
                  obtain ⟨jw, hjw⟩ : ∃ jw : Nat, x2 = (jw : Int) := ⟨x2.toNat, by omega⟩
                  have hdc := DrivesR_any L C T cl cc ct jc jw S W17 (hRW.out W17 hBW.out).cn (by omega) (by rw [(never_at (sch_gd hsch) (by omega)).1]; have := (never_at (sch_gd hsch) (j := jc) (by omega)).2; omega) (by omega)
                  rw [(never_at (sch_gd hsch) (by omega)).1, Int.toNat_natCast] at hdc
                  have hjn : x2.toNat = jw := by omega
                  rw [← hjn, Int.toNat_of_nonneg hw0, ← hjc] at hdc
                  unfold schCells at hdc
                  obtain ⟨q, hq9⟩ : ∃ q, (never S ac).testBit x2.toNat = q := ⟨_, rfl⟩
                  rw [hq9] at hdc
                  have hmq := hmj.out
                  rw [hq9] at hmq
                  clear hmj hq9 hjn
                  replace hdc := hide hdc
                  replace hmq := hide hmq
                  replace hjc := hide hjc
                  replace hjw := hide hjw
                  obtain ⟨c0, c1, c2, c3, c4, c5, c6⟩ := sch_cells (w := W17) (p := w.heap.size) (S := S) kbr2.out
                  cases q with
                  | false =>
                    replace hst := hide hst
                    replace hday := hide hday
                    replace htl := hide htl
                    have hdc := hdc.out
                    rw [Bool.not_false] at hdc
                    replace hdc := hide hdc
                    have hb9 := hmq.out
                    rw [if_neg (fun h => by have := h.2.2.2; cases this)] at hb9
                    simp only [Les.mk.injEq] at hb9
                    obtain ⟨h1, h2, h3, h4, h5⟩ := hb9
                    rw [h1, h2, h3, h4, h5] at kc
                    clear h1 h2 h3 h4 h5
                    clear hmq
                    have hne := fun W => neLes al ac as_ ah at_ al ac as_ ah at_ W
                    simp only [beq_self_eq_true, Bool.and_self, Bool.not_true] at hne
                    go_wp2_with fail
                    refine hdc.out.mono ?_
                    rintro e W18 ⟨rfl, hb⟩
                    replace hBr2 := hide (hBr2.out.trans (hb.mono hBr2.out.size))
                    have ka := hide (ka.out.below hb ka.out.lt)
                    have kc := hide (kc.out.below hb kc.out.lt)
                    clear hb hdc c0 c1 c2 c3 c4 c5 c6 a4 a2 a1 y0 y1 y2
                    have a0 : W18.cell? ⟨ga, 0, none⟩ = some (.int .i64 al) := ka.out.cell 0
                    have a1 : W18.cell? ⟨ga, 1, none⟩ = some (.int .i64 ac) := ka.out.cell 1
                    have a2 : W18.cell? ⟨ga, 2, none⟩ = some (.int .i64 as_) := ka.out.cell 2
                    have a3 : W18.cell? ⟨ga, 3, none⟩ = some (.int .i64 ah) := ka.out.cell 3
                    have a4 : W18.cell? ⟨ga, 4, none⟩ = some (.int .i64 at_) := ka.out.cell 4
                    have b0 : W18.cell? ⟨gc, 0, none⟩ = some (.int .i64 al) := kc.out.cell 0
                    have b1 : W18.cell? ⟨gc, 1, none⟩ = some (.int .i64 ac) := kc.out.cell 1
                    have b2 : W18.cell? ⟨gc, 2, none⟩ = some (.int .i64 as_) := kc.out.cell 2
                    have b3 : W18.cell? ⟨gc, 3, none⟩ = some (.int .i64 ah) := kc.out.cell 3
                    have b4 : W18.cell? ⟨gc, 4, none⟩ = some (.int .i64 at_) := kc.out.cell 4
                    go_wp2
                    go_roundg ((runR S es).2.les.length - (i + 1))
                    case measure => omega
                    case rel => exact ⟨i + 1, by omega, by omega, by go_num, hBr2.out⟩
                  | true =>
                    have hdc := hdc.out
                    rw [Bool.not_true] at hdc
                    replace hdc := hide hdc
                    have hb9 := hmq.out
                    rw [if_pos ⟨hst, hday, htl, rfl⟩] at hb9
                    clear hmq
                    replace hb9 := hide hb9
                    replace hst := hide hst
                    replace hday := hide hday
                    replace htl := hide htl
                    go_wp2_with fail
                    refine hdc.out.mono ?_
                    rintro e W18 ⟨rfl, hb⟩
                    replace hBr2 := hide (hBr2.out.trans (hb.mono hBr2.out.size))
                    have ka := hide (ka.out.below hb ka.out.lt)
                    have kc := hide (kc.out.below hb kc.out.lt)
                    clear hb hdc c0 c1 c2 c3 c4 c5 c6 a4 a2 a1 y0 y1 y2
                    have s1 : (al != al) = false := bne_self_eq_false' ..
                    have s2 : (ac != ac) = false := bne_self_eq_false' ..
                    have s3 : (ah != ah) = false := bne_self_eq_false' ..
                    rcases hb9.out with hb9 | ⟨hb9, k, hk1, hk2⟩
                    · simp only [Les.mk.injEq] at hb9
                      obtain ⟨h1, h2, h3, h4, h5⟩ := hb9
                      rw [h1, h2, h3, h4, h5] at kc
                      clear h1 h2 h3 h4 h5
                      have s4 : (as_ == as_) = true := beq_self_eq_true _
                      have a0 : W18.cell? ⟨ga, 0, none⟩ = some (.int .i64 al) := ka.out.cell 0
                      have a1 : W18.cell? ⟨ga, 1, none⟩ = some (.int .i64 ac) := ka.out.cell 1
                      have a2 : W18.cell? ⟨ga, 2, none⟩ = some (.int .i64 as_) := ka.out.cell 2
                      have a3 : W18.cell? ⟨ga, 3, none⟩ = some (.int .i64 ah) := ka.out.cell 3
                      have a4 : W18.cell? ⟨ga, 4, none⟩ = some (.int .i64 at_) := ka.out.cell 4
                      have b0 : W18.cell? ⟨gc, 0, none⟩ = some (.int .i64 al) := kc.out.cell 0
                      have b1 : W18.cell? ⟨gc, 1, none⟩ = some (.int .i64 ac) := kc.out.cell 1
                      have b2 : W18.cell? ⟨gc, 2, none⟩ = some (.int .i64 as_) := kc.out.cell 2
                      have b3 : W18.cell? ⟨gc, 3, none⟩ = some (.int .i64 ah) := kc.out.cell 3
                      have b4 : W18.cell? ⟨gc, 4, none⟩ = some (.int .i64 1) := kc.out.cell 4
                      go_wp2
                      go_roundg ((runR S es).2.les.length - (i + 1))
                      case measure => omega
                      case rel => exact ⟨i + 1, by omega, by omega, by go_num, hBr2.out⟩
                    · simp only [Les.mk.injEq] at hb9
                      obtain ⟨h1, h2, -, h4, h5⟩ := hb9
                      rw [h1, h2, h4, h5, hst.out] at kc
                      clear h1 h2 h4 h5
                      obtain ⟨rr, hrr⟩ : ∃ z, as_ % 24 = z := ⟨_, rfl⟩
                      have r1 : as_.tmod 24 = rr := by rw [Int.tmod_eq_emod_of_nonneg (by omega)]; exact hrr
                      have r2 : bs.tmod 24 = rr := by rw [Int.tmod_eq_emod_of_nonneg (by omega)]; omega
                      have r3 : IntKind.i64.wrap rr = rr := by rw [IntKind.wrap_i64]; omega
                      have r4 : (rr != rr) = false := bne_self_eq_false' ..
                      obtain ⟨qe, hqe⟩ : ∃ z, bs / 24 = z := ⟨_, rfl⟩
                      have r5 : bs.tdiv 24 = qe := by rw [Int.tdiv_eq_ediv_of_nonneg (by omega)]; exact hqe
                      have r6 : IntKind.i64.wrap qe = qe := by rw [IntKind.wrap_i64]; omega
                      have r7 : decide (qe ≤ qd) = false := decide_eq_false (by have := hqq.out; omega)
                      replace hrr := hide hrr
                      replace hqe := hide hqe
                      replace hk1 := hide hk1
                      have a0 : W18.cell? ⟨ga, 0, none⟩ = some (.int .i64 al) := ka.out.cell 0
                      have a1 : W18.cell? ⟨ga, 1, none⟩ = some (.int .i64 ac) := ka.out.cell 1
                      have a2 : W18.cell? ⟨ga, 2, none⟩ = some (.int .i64 as_) := ka.out.cell 2
                      have a3 : W18.cell? ⟨ga, 3, none⟩ = some (.int .i64 ah) := ka.out.cell 3
                      have a4 : W18.cell? ⟨ga, 4, none⟩ = some (.int .i64 at_) := ka.out.cell 4
                      have b0 : W18.cell? ⟨gc, 0, none⟩ = some (.int .i64 al) := kc.out.cell 0
                      have b1 : W18.cell? ⟨gc, 1, none⟩ = some (.int .i64 ac) := kc.out.cell 1
                      have b2 : W18.cell? ⟨gc, 2, none⟩ = some (.int .i64 bs) := kc.out.cell 2
                      have b3 : W18.cell? ⟨gc, 3, none⟩ = some (.int .i64 ah) := kc.out.cell 3
                      have b4 : W18.cell? ⟨gc, 4, none⟩ = some (.int .i64 0) := kc.out.cell 4
                      go_wp2
                      go_roundg ((runR S es).2.les.length - (i + 1))
                      case measure => omega
                      case rel => exact ⟨i + 1, by omega, by omega, by go_num, hBr2.out⟩
                · have t5 : decide (x0 < as_) = false := decide_eq_false htl
                  have hb9 := hmj.out
                  rw [if_neg (fun h => htl h.2.2.1)] at hb9
                  replace hst := hide hst
                  replace hday := hide hday
                  replace htl := hide htl
                  simp only [Les.mk.injEq] at hb9
                  obtain ⟨h1, h2, h3, h4, h5⟩ := hb9
                  rw [h1, h2, h3, h4, h5] at kc
                  clear h1 h2 h3 h4 h5
                  clear hmj a4 a2 a1
                  have hne := fun W => neLes al ac as_ ah at_ al ac as_ ah at_ W
                  simp only [beq_self_eq_true, Bool.and_self, Bool.not_true] at hne
                  have a0 : W17.cell? ⟨ga, 0, none⟩ = some (.int .i64 al) := ka.out.cell 0
                  have a1 : W17.cell? ⟨ga, 1, none⟩ = some (.int .i64 ac) := ka.out.cell 1
                  have a2 : W17.cell? ⟨ga, 2, none⟩ = some (.int .i64 as_) := ka.out.cell 2
                  have a3 : W17.cell? ⟨ga, 3, none⟩ = some (.int .i64 ah) := ka.out.cell 3
                  have a4 : W17.cell? ⟨ga, 4, none⟩ = some (.int .i64 at_) := ka.out.cell 4
                  have b0 : W17.cell? ⟨gc, 0, none⟩ = some (.int .i64 al) := kc.out.cell 0
                  have b1 : W17.cell? ⟨gc, 1, none⟩ = some (.int .i64 ac) := kc.out.cell 1
                  have b2 : W17.cell? ⟨gc, 2, none⟩ = some (.int .i64 as_) := kc.out.cell 2
                  have b3 : W17.cell? ⟨gc, 3, none⟩ = some (.int .i64 ah) := kc.out.cell 3
                  have b4 : W17.cell? ⟨gc, 4, none⟩ = some (.int .i64 at_) := kc.out.cell 4
                  go_wp2
                  go_roundg ((runR S es).2.les.length - (i + 1))
                  case measure => omega
                  case rel => exact ⟨i + 1, by omega, by omega, by go_num, hBr2.out⟩
              · have t4 : (qd == x1) = false := beq_eq_false_iff_ne.2 hday
                have hb9 := hmj.out
                rw [if_neg (fun h => hday h.2.1)] at hb9
                replace hst := hide hst
                replace hday := hide hday
                simp only [Les.mk.injEq] at hb9
                obtain ⟨h1, h2, h3, h4, h5⟩ := hb9
                rw [h1, h2, h3, h4, h5] at kc
                clear h1 h2 h3 h4 h5
                clear hmj a4 a2 a1
                have hne := fun W => neLes al ac as_ ah at_ al ac as_ ah at_ W
                simp only [beq_self_eq_true, Bool.and_self, Bool.not_true] at hne
                have a0 : W17.cell? ⟨ga, 0, none⟩ = some (.int .i64 al) := ka.out.cell 0
                have a1 : W17.cell? ⟨ga, 1, none⟩ = some (.int .i64 ac) := ka.out.cell 1
                have a2 : W17.cell? ⟨ga, 2, none⟩ = some (.int .i64 as_) := ka.out.cell 2
                have a3 : W17.cell? ⟨ga, 3, none⟩ = some (.int .i64 ah) := ka.out.cell 3
                have a4 : W17.cell? ⟨ga, 4, none⟩ = some (.int .i64 at_) := ka.out.cell 4
                have b0 : W17.cell? ⟨gc, 0, none⟩ = some (.int .i64 al) := kc.out.cell 0
                have b1 : W17.cell? ⟨gc, 1, none⟩ = some (.int .i64 ac) := kc.out.cell 1
                have b2 : W17.cell? ⟨gc, 2, none⟩ = some (.int .i64 as_) := kc.out.cell 2
                have b3 : W17.cell? ⟨gc, 3, none⟩ = some (.int .i64 ah) := kc.out.cell 3
                have b4 : W17.cell? ⟨gc, 4, none⟩ = some (.int .i64 at_) := kc.out.cell 4
                go_wp2
                go_roundg ((runR S es).2.les.length - (i + 1))
                case measure => omega
                case rel => exact ⟨i + 1, by omega, by omega, by go_num, hBr2.out⟩
            · have t3 : (at_ == 0) = false := beq_eq_false_iff_ne.2 hst
              have hb9 := hmj.out
              rw [if_neg (fun h => hst h.1)] at hb9
              replace hst := hide hst
              simp only [Les.mk.injEq] at hb9
              obtain ⟨h1, h2, h3, h4, h5⟩ := hb9
              rw [h1, h2, h3, h4, h5] at kc
              clear h1 h2 h3 h4 h5
              clear hmj a4 a2 a1
              have hne := fun W => neLes al ac as_ ah at_ al ac as_ ah at_ W
              simp only [beq_self_eq_true, Bool.and_self, Bool.not_true] at hne
              have a0 : W17.cell? ⟨ga, 0, none⟩ = some (.int .i64 al) := ka.out.cell 0
              have a1 : W17.cell? ⟨ga, 1, none⟩ = some (.int .i64 ac) := ka.out.cell 1
              have a2 : W17.cell? ⟨ga, 2, none⟩ = some (.int .i64 as_) := ka.out.cell 2
              have a3 : W17.cell? ⟨ga, 3, none⟩ = some (.int .i64 ah) := ka.out.cell 3
              have a4 : W17.cell? ⟨ga, 4, none⟩ = some (.int .i64 at_) := ka.out.cell 4
              have b0 : W17.cell? ⟨gc, 0, none⟩ = some (.int .i64 al) := kc.out.cell 0
              have b1 : W17.cell? ⟨gc, 1, none⟩ = some (.int .i64 ac) := kc.out.cell 1
              have b2 : W17.cell? ⟨gc, 2, none⟩ = some (.int .i64 as_) := kc.out.cell 2
              have b3 : W17.cell? ⟨gc, 3, none⟩ = some (.int .i64 ah) := kc.out.cell 3
              have b4 : W17.cell? ⟨gc, 4, none⟩ = some (.int .i64 at_) := kc.out.cell 4
              go_wp2
              go_roundg ((runR S es).2.les.length - (i + 1))
              case measure => omega
              case rel => exact ⟨i + 1, by omega, by omega, by go_num, hBr2.out⟩
          · have hilz : ¬ (i : Int) < ((runR S es).2.les.length : Int) := by omega
            have hi1 := hide (fun W' (hb : Below wr.heap.size wr W') => Ints_t (haW.out W' (hbxr.out.trans (hb.mono hbxr.out.size))) (ha2W.out W' (hBr.out.trans (hb.mono hBr.out.size))) hacc.out.symm (by have h1 := ha.out.ok.accLen; have h2 := ha.out.nl; unfold maxLen; omega))
            have hi2 := hide (fun W' (hb : Below wr.heap.size wr W') => Ints_t (hkW.out W' (hbxr.out.trans (hb.mono hbxr.out.size))) (hk2W.out W' (hBr.out.trans (hb.mono hBr.out.size))) hkm.out.symm (by have h1 := ha.out.ok.km; have h2 := ha.out.nc; unfold maxLen; omega))
            have v3 : wr.cell? ⟨w1.heap.size, 3, none⟩ = some (.slice A3 (runR S es).2.acc.length q3) := kxr.out.cell 3
            have g3 : wr.cell? ⟨gb, 3, none⟩ = some (.slice B3 (runR S (es ++ [wv])).2.acc.length z3) := kfr.out.cell 3
            have hBW := hide (hBA.out.trans (hBr.out.mono hBA.out.size))
            go_wp2_with fail
            refine (hi1.out wr (Below.refl _ _)).mono ?_
            rintro e w5 ⟨rfl, hb⟩
            have hb5 := hide hb
            clear hb v3 g3 g0
            have v1 : w5.cell? ⟨w1.heap.size, 1, none⟩ = some (.slice A1 (runR S es).2.km.length q1) := (kxr.out.below hb5.out kxr.out.lt).cell 1
            have g1 : w5.cell? ⟨gb, 1, none⟩ = some (.slice B1 (runR S (es ++ [wv])).2.km.length z1) := (kfr.out.below hb5.out kfr.out.lt).cell 1
            go_wp2_with fail
            refine (hi2.out w5 hb5.out).mono ?_
            rintro e w6 ⟨rfl, hb⟩
            replace hBW := hide (hBW.out.trans ((hb5.out.trans (hb.mono hb5.out.size)).mono hBW.out.size))
            clear hb v1 g1
            go_wp2_with fail
            refine (AwakeB _).mono ?_
            rintro e w7 ⟨rfl, hb⟩
            replace hBW := hide (hBW.out.trans (hb.mono hBW.out.size))
            clear hb
            go_wp2
            go_ret
            exact ⟨rfl, hBW.out⟩
      · have b1 : (er != 0) = true := bne_iff_ne.2 he0
        have hno := hmv.out.no he0
        have hSt := hide (States_t (hxW.out wA hbxA.out) (hx2W.out wA hb6A.out) (by rw [hno]; exact ⟨rfl, rfl, rfl, rfl⟩) (by
          have h1 := ha2.out.ok.km
          have h2 := ha2.out.ok.since
          have h3 := ha2.out.ok.accLen
          have h4 := ha2.out.nl
          have h5 := ha2.out.nc
          unfold LenOk maxLen
          omega))
        have x0 : wA.cell? ⟨w1.heap.size, 0, none⟩ = some (.slice A0 (runR S es).2.les.length q0) := kxA.out.cell 0
        have x1 : wA.cell? ⟨w1.heap.size, 1, none⟩ = some (.slice A1 (runR S es).2.km.length q1) := kxA.out.cell 1
        have x2' : wA.cell? ⟨w1.heap.size, 2, none⟩ = some (.slice A2 (runR S es).2.since.length q2) := kxA.out.cell 2
        have x3 : wA.cell? ⟨w1.heap.size, 3, none⟩ = some (.slice A3 (runR S es).2.acc.length q3) := kxA.out.cell 3
        have g0 : wA.cell? ⟨gb, 0, none⟩ = some (.slice B0 (runR S (es ++ [wv])).2.les.length z0) := kbfA.out.cell 0
        have g1 : wA.cell? ⟨gb, 1, none⟩ = some (.slice B1 (runR S (es ++ [wv])).2.km.length z1) := kbfA.out.cell 1
        have g2 : wA.cell? ⟨gb, 2, none⟩ = some (.slice B2 (runR S (es ++ [wv])).2.since.length z2) := kbfA.out.cell 2
        have g3 : wA.cell? ⟨gb, 3, none⟩ = some (.slice B3 (runR S (es ++ [wv])).2.acc.length z3) := kbfA.out.cell 3
        replace hno := hide hno
        replace he0 := hide he0
        go_wp2_with fail
        refine hSt.out.mono ?_
        rintro e wB ⟨rfl, hb⟩
        replace hBA := hide (hBA.out.trans (hb.mono hBA.out.size))
        clear hb x0 x1 x2' x3 g0 g1 g2 g3 m0
        go_wp2_with fail
        refine (AwakeB _).mono ?_
        rintro e wC ⟨rfl, hb⟩
        replace hBA := hide (hBA.out.trans (hb.mono hBA.out.size))
        clear hb
        go_wp2
        go_ret
        exact ⟨rfl, hBA.out⟩
    · have hse : runE S es = (checkB S).2.2 ∧ (checkB S).2.2 ≠ 0 := by
        unfold runE at hq ⊢
        by_cases hc : (checkB S).2.2 ≠ 0
        · rw [if_pos hc]; exact ⟨rfl, hc⟩
        · rw [if_neg hc, if_neg (by omega)] at hq; exact absurd rfl hq
      have hqe : q = runE S es := by
        rw [← hqq, hse.1]; unfold runE; rw [if_pos hse.2]
      subst hqe
      have b0 : (runE S es != 0) = true := bne_iff_ne.2 hq
      generalize runE S es = qe at *
      generalize runR S es = qr at *
      generalize runR S (es ++ [wv]) = qr2 at *
      replace hq := hide hq
      replace hqq := hide hqq
      clear hV hSc huW heW hxW hlW hkW hsW haW hse
      go_wp2_with fail
      refine (AwakeB _).mono ?_
      rintro e w5 ⟨rfl, hb⟩
      have hB7 := hide (hB6.out.trans (hb.mono hB6.out.size))
      clear hb
      go_wp2
      go_ret
      exact ⟨rfl, hB7.out⟩
end Go.Proofs.Ytkmhldjebopljaa
