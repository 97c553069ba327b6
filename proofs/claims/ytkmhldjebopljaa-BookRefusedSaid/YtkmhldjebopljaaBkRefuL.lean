/-
  The law BookRefused: without an event that was refused (made by mkbkrefu.py).
-/
import Derived.Test.YtkmhldjebopljaaQb
import Derived.Test.YtkmhldjebopljaaQg
import Derived.Test.YtkmhldjebopljaaQh
import Derived.Test.YtkmhldjebopljaaQi
namespace Go.Proofs.Ytkmhldjebopljaa
open Go.RowKit RG

theorem isInts_take {xs : List Int} {A : Option Addr} {n c : Nat} {w : World} (h : IsInts xs (.slice A n c) w) {i : Nat} (hi : i ≤ xs.length) : IsInts (xs.take i) (.slice A i c) w := by
  obtain ⟨A', c', e, ⟨h1, h2⟩, h3⟩ := h
  cases e
  have hl : (xs.take i).length = i := by rw [List.length_take]; omega
  refine ⟨A, c, by rw [hl], ⟨rfl, fun hn => ?_⟩, by rw [hl]; omega⟩
  obtain ⟨b, off, e, hb, hc⟩ := h2 (by omega)
  rw [hl] at hn ⊢
  refine ⟨b, off, e, hb, fun j hj => ?_⟩
  rw [List.getElem?_take_of_lt hj]
  exact hc j (by omega)
theorem errs_at6 {S : BSch} {es : List BEv} (h : runE S es = 0) {j : Nat} (hj : j < es.length) : (runR S es).1[j]?.getD 0 = errAt S es j := by
  rw [(runR_er h).1, er_at S es hj (Nat.le_refl _)]; rfl
set_option maxRecDepth 100000 in
set_option maxHeartbeats 8000000 in
theorem BookRefused_any (v u : Value) (S : BSch) (es : List BEv) (x0 x1 : Int)  (w : World) (h : RdBSch w v S) (hu : IsRow 11 (es.map evCells) u w) (r0 : 0 ≤ x0 ∧ x0 ≤ 255) (r1 : 0 ≤ x1 ∧ x1 ≤ 255) (hEn : ∀ n c, u = .slice none n c → c = 0) :
    Calls Try.prog 14 #[v, u, .agg #[.int .u8 x0, .int .u8 x1]] w fun e w' => e = .returned (.bool true) ∧ Below w.heap.size w w' := by
  have hRun := hide (fun W (hb : Below w.heap.size w W) => Run_k v u S es W (h.below hb) (hu.below hb))
  have hPst := hide (fun W (hb : Below w.heap.size w W) => Postings_k v u S es W (h.below hb) (hu.below hb))
  have hV := hide (fun W (hb : Below w.heap.size w W) => valid_any v S W (h.below hb))
  have hSc := hide (fun W (hb : Below w.heap.size w W) => h.below hb)
  have huW := hide (fun W (hb : Below w.heap.size w W) => hu.below hb)
  obtain ⟨L, C, T, cl, cc, ct, rfl, hR⟩ := h
  have hRW := hide (fun W (hb : Below w.heap.size w W) => hR.below hb)
  clear hR
  obtain ⟨A, ce, rfl, hce, hcm⟩ := evRow_len hu
  have hEW := hide (fun W (hb : Below w.heap.size w W) => (ev_read hu).below hb)
  clear hu
  obtain ⟨W, hW⟩ : ∃ y, (w.alloc (.cells (schCells L C T cl cc ct S) 28)).alloc (.cells #[.int .u8 x0, .int .u8 x1] 75) = y := ⟨_, rfl⟩
  have kb := hide (show Blk W w.heap.size 28 (schCells L C T cl cc ct S) by rw [← hW]; exact (blkNew rfl).alloc _)
  have ky := hide (show Blk W (w.heap.size + 1) 75 #[.int .u8 x0, .int .u8 x1] by rw [← hW]; exact blkNew (by simp))
  have hB := hide (show Below w.heap.size w W by rw [← hW]; exact ((Below.refl _ _).alloc (Nat.le_refl _) _).alloc (by simp) _)
  replace hW := hide hW
  unfold schCells at *
  unfold maxLen at hcm
  clear hPst
  obtain ⟨c0, c1, c2, c3, c4, c5, c6⟩ := sch_cells (w := W) (p := w.heap.size) (S := S) kb.out
  go_enter Try.func14, Try.ntmps14
  go_upto_region 1 with fail
  rw [hW.out]
  go_wp2_with fail
  refine (hRun.out _ hB.out).mono ?_
  rintro e w1 ⟨⟨v1, v2, rfl, he, hx⟩, hb⟩
  have heW := hide (fun W' (hb : Below w1.heap.size w1 W') => he.below hb)
  have hxW := hide (fun W' (hb : Below w1.heap.size w1 W') => hx.below hb)
  obtain ⟨Ae, ca, rfl, -, hca⟩ := he
  obtain ⟨A0, q0, A1, q1, A2, q2, A3, q3, rfl, hl, hk, hs, ha⟩ := hx.parts
  have hlW := hide (fun W' (hb : Below w1.heap.size w1 W') => hl.below hb)
  have hkW := hide (fun W' (hb : Below w1.heap.size w1 W') => hk.below hb)
  have hsW := hide (fun W' (hb : Below w1.heap.size w1 W') => hs.below hb)
  have haW := hide (fun W' (hb : Below w1.heap.size w1 W') => ha.below hb)
  clear hl hk hs ha hx
  clear c0 c1 c2 c3 c4 c5 c6
  replace kb := hide (kb.out.below hb kb.out.lt)
  replace ky := hide (ky.out.below hb ky.out.lt)
  replace hB := hide (hB.out.trans (hb.mono hB.out.size))
  clear hb hRun
  obtain ⟨W2, hW2⟩ : ∃ y, w1.alloc (.cells #[.slice A0 (runR S es).2.les.length q0, .slice A1 (runR S es).2.km.length q1, .slice A2 (runR S es).2.since.length q2, .slice A3 (runR S es).2.acc.length q3] 42) = y := ⟨_, rfl⟩
  have hb12 := hide (show Below w1.heap.size w1 W2 by rw [← hW2]; exact (Below.refl _ _).alloc (Nat.le_refl _) _)
  have kx := hide (show Blk W2 w1.heap.size 42 #[.slice A0 (runR S es).2.les.length q0, .slice A1 (runR S es).2.km.length q1, .slice A2 (runR S es).2.since.length q2, .slice A3 (runR S es).2.acc.length q3] by rw [← hW2]; exact blkNew rfl)
  replace kb := hide (kb.out.below hb12.out kb.out.lt)
  replace ky := hide (ky.out.below hb12.out ky.out.lt)
  replace hB := hide (hB.out.trans (hb12.out.mono hB.out.size))
  replace hW2 := hide hW2
  by_cases hq : runE S es = 0
  · have ha := after_of hq
    have her := hide (runR_er hq)
    have hSok := hide (sch_ok ha.sch)
    have hfew := ha.few
    have hrt := hide (fun (i : Nat) (hi : i ≤ es.length) => run_take hq hi)
    rw [hq]
    have hlen := hide ha.len
    replace ha := hide ha
    rw [hlen.out] at heW hca ⊢
    obtain ⟨m, hm⟩ : ∃ m : Nat, x1.tmod ((es.length : Int) + 1) = (m : Int) := ⟨(x1.tmod ((es.length : Int) + 1)).toNat, by have := Int.tmod_nonneg ((es.length : Int) + 1) r1.1; omega⟩
    have hmn : m ≤ es.length := by have := Int.tmod_lt_of_pos x1 (show (0 : Int) < (es.length : Int) + 1 by omega); omega
    have u1 : IntKind.i64.wrap x1 = x1 := by rw [IntKind.wrap_i64]; omega
    have u2 : IntKind.i64.wrap ((es.length : Int) + 1) = (es.length : Int) + 1 := by rw [IntKind.wrap_i64]; omega
    have u3 : IntKind.i64.wrap (m : Int) = (m : Int) := by rw [IntKind.wrap_i64]; omega
    have u4 : ((es.length : Int) + 1 == 0) = false := beq_eq_false_iff_ne.2 (by omega)
    have y1 : W2.cell? ⟨w.heap.size + 1, 1, none⟩ = some (.int .u8 x1) := ky.out.cell 1
    have hne0 : (es.length : Int) + 1 ≠ 0 := by omega
    go_upto_region 2 with fail
    rw [hW2.out]
    obtain ⟨hrt0, hrt1, hrt2⟩ := hrt.out m hmn
    have hRT := hide (fun W (hb : Below w.heap.size w W) => Run_k _ _ S (es.take m) W (hSc.out W hb) (by rw [List.map_take]; exact isRow_take (huW.out W hb) (by rw [List.length_map]; omega)))
    rw [hrt0, hrt1, hrt2] at hRT
    have hRT2 := hide (fun W (hb : Below W2.heap.size W2 W) => (hRT.out W (hB.out.trans (hb.mono hB.out.size))).mono (R' := fun e w' => (∃ v, e = .returned v ∧ RunV (er S es m) (bk S es m) v w') ∧ Below W.heap.size W w') (by
      rintro e w' ⟨⟨v1, v2, rfl, h1, h2⟩, h3⟩
      exact ⟨⟨_, rfl, v1, v2, rfl, h1, h2⟩, h3⟩))
    clear hRT
    go_wp2
    refine region_vk [IsV (.agg #[.slice L S.learners.length cl, .slice C S.cars.length cc, .int .i64 S.price, .int .i64 S.excess, .int .i64 S.lo, .int .i64 S.hi, .slice T S.terms.length ct]), IsV (.slice A es.length ce), IsV (.int .i64 m), IsV (.slice A m ce), RunV (er S es m) (bk S es m), RunV (er S es m) (bk S es m), IsInts (er S es m), IsState (bk S es m), IsV (.int .i64 0), VarZ (W2.heap.size), IsInts (er S es m), TT, IsV (.int .i64 0)] [TT, TT, TT, TT, TT, TT, TT, TT, TT, VarS (W2.heap.size) (bk S es m), TT, TT, TT] [(9, 11)] (by kernel_rfl) (by kernel_rfl) (by kernel_rfl) ⟨IsV.stb _, IsV.stb _, IsV.stb _, IsV.stb _, RunV.stb _ _, RunV.stb _ _, Ints.stb _, State.stb _, IsV.stb _, VarZ.stb _, Ints.stb _, TT.stb, IsV.stb _, trivial⟩ ⟨TT.stb, TT.stb, TT.stb, TT.stb, TT.stb, TT.stb, TT.stb, TT.stb, TT.stb, VarS.stb _ _, TT.stb, TT.stb, TT.stb, trivial⟩ ?_ ?_
    · clear hSc huW hEW hRW heW hxW hlW hkW hsW haW her hrt hSok hB ky kx y1 hlen ha hb12
      refine ⟨?_, ?_, ?_, ?_, ?_, ?_, ?_, ?_, ?_, ?_, ?_, ?_, ?_, trivial⟩
      · refine .inr ⟨by kernel_rfl, .inl ⟨?_, fun k hk => absurd (lk1 hk).2 (by decide)⟩⟩
        · refine one_fr ?_ ?_ ?_
          · kernel_rfl
          · left; kernel_rfl
          intro T y W4 K Q Cv hF hC4 hd hV hK
          clear hd
          have t3 := hF.old 3 (.pointer (some ⟨w.heap.size, 0, none⟩)) (by kernel_rfl) (by kernel_rfl)
          clear hF
          obtain ⟨c0, c1, c2, c3, c4, c5, c6⟩ := sch_cells (w := W4) (p := w.heap.size) (S := S) (kb.out.below hC4 kb.out.lt)
          go_simp
          exact hK _ _ (hV _ _ hC4 (Below.refl _ _) rfl)
      · refine .inr ⟨by kernel_rfl, .inl ⟨?_, fun k hk => absurd (lk1 hk).2 (by decide)⟩⟩
        · refine one_fr ?_ ?_ ?_
          · kernel_rfl
          · left; kernel_rfl
          intro T y W4 K Q Cv hF hC4 hd hV hK
          clear hd
          have t1 := hF.old 1 (.slice A es.length ce) (by kernel_rfl) (by kernel_rfl)
          clear hF
          go_simp
          exact hK _ _ (hV _ _ hC4 (Below.refl _ _) rfl)
      · refine .inr ⟨by kernel_rfl, .inl ⟨?_, fun k hk => absurd (lk1 hk).2 (by decide)⟩⟩
        · refine one_fr ?_ ?_ ?_
          · kernel_rfl
          · left; kernel_rfl
          intro T y W4 K Q Cv hF hC4 hd hV hK
          clear hd
          have t10 := hF.old 10 (.int .i64 m) (by kernel_rfl) (by kernel_rfl)
          clear hF
          go_simp
          exact hK _ _ (hV _ _ hC4 (Below.refl _ _) rfl)
      · refine .inr ⟨by kernel_rfl, .inl ⟨?_, fun k hk => absurd (lk1 hk).2 (by decide)⟩⟩
        · refine one_fr ?_ ?_ ?_
          · kernel_rfl
          · left; kernel_rfl
          intro T y W4 K Q Cv hF hC4 hd hV hK
          simp [deps, VL, IsV, Region.binds] at hd
          have t55 := hF.get 1 55 (by kernel_rfl)
          simp only [hd] at t55
          have t56 := hF.get 2 56 (by kernel_rfl)
          simp only [hd] at t56
          clear hF
          have hs := slice_hi Try.underlying37 infoEv A es.length ce m (by omega) W4
          go_simp
          exact hK _ _ (hV _ _ hC4 (Below.refl _ _) rfl)
      · refine .inr ⟨by kernel_rfl, .inl ⟨?_, fun k hk => absurd (lk1 hk).2 (by decide)⟩⟩
        · refine one_fr ?_ ?_ ?_
          · kernel_rfl
          · left; kernel_rfl
          intro T y W4 K Q Cv hF hC4 hd hV hK
          simp [deps, VL, IsV, Region.binds] at hd
          have t54 := hF.get 0 54 (by kernel_rfl)
          simp only [hd] at t54
          have t57 := hF.get 3 57 (by kernel_rfl)
          simp only [hd] at t57
          clear hF
          have hs := hRT2.out W4 hC4
          go_simp
          refine hs.mono ?_
          rintro e w7 ⟨⟨v, rfl, q1⟩, hb7⟩
          exact hK _ _ (hV _ _ (hC4.trans (hb7.mono hC4.size)) hb7 q1)
      · refine .inr ⟨by kernel_rfl, .inl ⟨?_, fun k hk => absurd (lk1 hk).2 (by decide)⟩⟩
        · refine one_fr ?_ ?_ ?_
          · kernel_rfl
          · left; kernel_rfl
          intro T y W4 K Q Cv hF hC4 hd hV hK
          have p1 : (RunV (er S es m) (bk S es m)) (y 4) W4 := hd.1 rfl
          have t58 := hF.get 4 58 (by kernel_rfl)
          rw [Array.getD_eq_getD_getElem?] at t58
          clear hF hd
          go_simp
          exact hK _ _ (hV _ _ hC4 (Below.refl _ _) p1)
      · refine .inr ⟨by kernel_rfl, .inl ⟨?_, fun k hk => absurd (lk1 hk).2 (by decide)⟩⟩
        · refine one_fr ?_ ?_ ?_
          · kernel_rfl
          · left; kernel_rfl
          intro T y W4 K Q Cv hF hC4 hd hV hK
          obtain ⟨v1, v2, e4, q1, q2⟩ : (RunV (er S es m) (bk S es m)) (y 5) W4 := hd.1 rfl
          have t53 := hF.get 5 53 (by kernel_rfl)
          rw [e4] at t53
          clear hF hd
          go_simp
          exact hK _ _ (hV _ _ hC4 (Below.refl _ _) q1)
      · refine .inr ⟨by kernel_rfl, .inl ⟨?_, fun k hk => absurd (lk1 hk).2 (by decide)⟩⟩
        · refine one_fr ?_ ?_ ?_
          · kernel_rfl
          · left; kernel_rfl
          intro T y W4 K Q Cv hF hC4 hd hV hK
          obtain ⟨v1, v2, e4, q1, q2⟩ : (RunV (er S es m) (bk S es m)) (y 5) W4 := hd.1 rfl
          have t53 := hF.get 5 53 (by kernel_rfl)
          rw [e4] at t53
          clear hF hd
          go_simp
          exact hK _ _ (hV _ _ hC4 (Below.refl _ _) q2)
      · refine .inr ⟨by kernel_rfl, .inl ⟨?_, fun k hk => absurd (lk1 hk).2 (by decide)⟩⟩
        · refine one_fr ?_ ?_ ?_
          · kernel_rfl
          · left; kernel_rfl
          intro T y W4 K Q Cv hF hC4 hd hV hK
          obtain ⟨v1, v2, e4, q1, q2⟩ : (RunV (er S es m) (bk S es m)) (y 5) W4 := hd.1 rfl
          have t53 := hF.get 5 53 (by kernel_rfl)
          rw [e4] at t53
          clear hF hd
          go_simp
          exact hK _ _ (hV _ _ hC4 (Below.refl _ _) rfl)
      · refine .inr ⟨by kernel_rfl, .inl ⟨?_, fun k hk => absurd (lk1 hk).2 (by decide)⟩⟩
        · refine one_fr ?_ ?_ ?_
          · kernel_rfl
          · left; kernel_rfl
          intro T y W4 K Q Cv hF hC4 hd hV hK
          clear hF hd
          go_simp
          exact hK _ _ (hV _ _ (hC4.alloc hC4.size _) ((Below.refl _ _).alloc (Nat.le_refl _) _) ⟨W4.heap.size, rfl, hC4.size, blkNew rfl⟩)
      · refine .inl ⟨9, by kernel_rfl, by decide, ?_, fun k hk => absurd (lk1 hk).2 (by decide)⟩
        · refine one_fr ?_ ?_ ?_
          · kernel_rfl
          · left; kernel_rfl
          intro T y W4 K Q Cv hF hC4 hd hV hK
          have p1 : (IsInts (er S es m)) (y 6) W4 := hd.1 rfl
          have t59 := hF.get 6 59 (by kernel_rfl)
          rw [Array.getD_eq_getD_getElem?] at t59
          clear hF hd
          go_simp
          exact hK _ _ (hV _ _ hC4 (Below.refl _ _) p1)
      · refine .inr ⟨by kernel_rfl, .inr ⟨fun y u u' => ∃ g vl vk vs va, y 9 = .pointer (some ⟨g, 0, none⟩) ∧ W2.heap.size ≤ g ∧ Blk u g 42 zState ∧ IsState (bk S es m) (.agg #[vl, vk, vs, va]) u ∧ Stored g u u' ∧ Blk u' g 42 #[vl, vk, vs, va], ?_, ?_⟩⟩
        · refine ones_fr ?_ ?_ ?_
          · kernel_rfl
          · kernel_rfl
          intro T y W4 K Q Cv hF hC4 hd hV hK
          have hdd := deps_all hd
          obtain ⟨g, eg, hg, hz⟩ : VarZ (W2.heap.size) (y 9) W4 := hdd 9 (by kernel_rfl)
          obtain ⟨vl, vk, vs, va, ev, r1, r2, r3, r4⟩ : IsState (bk S es m) (y 7) W4 := hdd 7 (by kernel_rfl)
          have t12 := hF.get 9 12 (by kernel_rfl)
          have t60 := hF.get 7 60 (by kernel_rfl)
          rw [eg] at t12
          rw [ev] at t60
          have b0 : W4.cell? ⟨g, 0, none⟩ = some (.slice none 0 0) := hz.cell 0
          have b1 : W4.cell? ⟨g, 1, none⟩ = some (.slice none 0 0) := hz.cell 1
          have b2 : W4.cell? ⟨g, 2, none⟩ = some (.slice none 0 0) := hz.cell 2
          have b3 : W4.cell? ⟨g, 3, none⟩ = some (.slice none 0 0) := hz.cell 3
          have z0 := hz.frozen 0
          have z1 := hz.frozen 1
          have z2 := hz.frozen 2
          have z3 := hz.frozen 3
          obtain ⟨k1, k2⟩ := stored_set4 hz vl vk vs va
          obtain ⟨A0, c0, rfl, -⟩ := id r1
          rw [List.length_map] at k1 k2 r1 t60
          obtain ⟨A1, c1, rfl, -⟩ := id r2
          obtain ⟨A2, c2, rfl, -⟩ := id r3
          obtain ⟨A3, c3, rfl, -⟩ := id r4
          clear hF hd hdd
          go_simp
          exact hK undef _ (hV undef _ (hC4.trans (k1.below hg)) ⟨g, _, _, _, _, eg, hg, hz, ⟨_, _, _, _, rfl, r1, r2, r3, r4⟩, k1, k2⟩ trivial)
        · rintro y u u' k b hk - ⟨g, vl, vk, vs, va, eg, hg, hz, hS, k1, k2⟩ hv hb
          cases b with
          | true =>
            match k, hk, hv, hb with
            | 0, _, _, _ => exact trivial
            | 1, _, _, _ => exact trivial
            | 2, _, _, _ => exact trivial
            | 3, _, _, _ => exact trivial
            | 4, _, _, _ => exact trivial
            | 5, _, _, _ => exact trivial
            | 6, _, _, _ => exact trivial
            | 7, _, _, _ => exact trivial
            | 8, _, _, _ => exact trivial
            | 9, _, _, hb => cases hb rfl
            | 10, _, _, _ => exact trivial
            | 11, _, _, _ => exact trivial
            | 12, _, _, _ => exact trivial
            | k + 13, _, _, _ => exact trivial
          | false =>
            match k, hk, hv, hb with
            | 0, _, hv, _ => exact (show (IsV (.agg #[.slice L S.learners.length cl, .slice C S.cars.length cc, .int .i64 S.price, .int .i64 S.excess, .int .i64 S.lo, .int .i64 S.hi, .slice T S.terms.length ct])) (y 0) u' from hv)
            | 1, _, hv, _ => exact (show (IsV (.slice A es.length ce)) (y 1) u' from hv)
            | 2, _, hv, _ => exact (show (IsV (.int .i64 m)) (y 2) u' from hv)
            | 3, _, hv, _ => exact (show (IsV (.slice A m ce)) (y 3) u' from hv)
            | 4, _, hv, _ => exact (show (RunV (er S es m) (bk S es m)) (y 4) u' from ((show (RunV (er S es m) (bk S es m)) (y 4) u from hv).stored k1 hz))
            | 5, _, hv, _ => exact (show (RunV (er S es m) (bk S es m)) (y 5) u' from ((show (RunV (er S es m) (bk S es m)) (y 5) u from hv).stored k1 hz))
            | 6, _, hv, _ => exact (show (IsInts (er S es m)) (y 6) u' from ((show (IsInts (er S es m)) (y 6) u from hv).stored k1 hz))
            | 7, _, hv, _ => exact (show (IsState (bk S es m)) (y 7) u' from ((show (IsState (bk S es m)) (y 7) u from hv).stored k1 hz))
            | 8, _, hv, _ => exact (show (IsV (.int .i64 0)) (y 8) u' from hv)
            | 9, _, hv, _ => exact by obtain ⟨g1, e1, h1, _⟩ := (hv : VarZ (W2.heap.size) (y 9) u); rw [eg] at e1; injection e1 with e1; injection e1 with e1; injection e1 with e1; subst e1; exact (show VarS (W2.heap.size) (bk S es m) (y 9) u' from ⟨g, vl, vk, vs, va, eg, hg, k2, hS.stored k1 hz⟩)
            | 10, _, hv, _ => exact (show (IsInts (er S es m)) (y 10) u' from ((show (IsInts (er S es m)) (y 10) u from hv).stored k1 hz))
            | 11, hk, _, _ => exact absurd rfl hk
            | 12, _, hv, _ => exact (show (IsV (.int .i64 0)) (y 12) u' from hv)
            | k + 13, _, _, _ => cases decide (List.lookup (k + 13) _ = some 11) <;> trivial
      · refine .inl ⟨9, by kernel_rfl, by decide, ?_, fun k hk => absurd (lk1 hk).2 (by decide)⟩
        · refine one_fr ?_ ?_ ?_
          · kernel_rfl
          · left; kernel_rfl
          intro T y W4 K Q Cv hF hC4 hd hV hK
          have p1 : (IsV (.int .i64 0)) (y 8) W4 := hd.1 rfl
          have t61 := hF.get 8 61 (by kernel_rfl)
          rw [Array.getD_eq_getD_getElem?] at t61
          clear hF hd
          go_simp
          exact hK _ _ (hV _ _ hC4 (Below.refl _ _) p1)
    intro y w' hC4 hE
    have e0 : (IsV (.agg #[.slice L S.learners.length cl, .slice C S.cars.length cc, .int .i64 S.price, .int .i64 S.excess, .int .i64 S.lo, .int .i64 S.hi, .slice T S.terms.length ct])) (y 0) w' := hE 0 (of_decide_eq_true (by kernel_rfl))
    have e1 : (IsV (.slice A es.length ce)) (y 1) w' := hE 1 (of_decide_eq_true (by kernel_rfl))
    have e2 : (IsV (.int .i64 m)) (y 2) w' := hE 2 (of_decide_eq_true (by kernel_rfl))
    have e3 : (IsV (.slice A m ce)) (y 3) w' := hE 3 (of_decide_eq_true (by kernel_rfl))
    have e4 : (RunV (er S es m) (bk S es m)) (y 4) w' := hE 4 (of_decide_eq_true (by kernel_rfl))
    have e5 : (RunV (er S es m) (bk S es m)) (y 5) w' := hE 5 (of_decide_eq_true (by kernel_rfl))
    have e6 : (IsInts (er S es m)) (y 6) w' := hE 6 (of_decide_eq_true (by kernel_rfl))
    have e7 : (IsState (bk S es m)) (y 7) w' := hE 7 (of_decide_eq_true (by kernel_rfl))
    have e8 : (IsV (.int .i64 0)) (y 8) w' := hE 8 (of_decide_eq_true (by kernel_rfl))
    have e9 : (VarS (W2.heap.size) (bk S es m)) (y 9) w' := hE 9 (of_decide_eq_true (by kernel_rfl))
    have e10 : (IsInts (er S es m)) (y 10) w' := hE 10 (of_decide_eq_true (by kernel_rfl))
    have e12 : (IsV (.int .i64 0)) (y 12) w' := hE 12 (of_decide_eq_true (by kernel_rfl))
    clear hE
    obtain ⟨gb, vl, vk, vs, va, e9, hgb, kbf, hst⟩ := e9
    have e10' := e10
    obtain ⟨Ai, ci, e10, hri⟩ := e10
    replace e12 : y 12 = .int .i64 0 := e12
    have hb26 := hide hC4
    have hB6 := hide (hB.out.trans (hC4.mono hB.out.size))
    have hbx6 := hide (hb12.out.trans (hC4.mono hb12.out.size))
    have kb6 := hide (kb.out.below hC4 kb.out.lt)
    have kx6 := hide (kx.out.below hC4 kx.out.lt)
    have ky6 := hide (ky.out.below hC4 ky.out.lt)
    have hsl := slice_hi Try.underlying38 infoErr Ae es.length ca m (by omega) w'
    have hmce : (m : Int) ≤ (ca : Int) := by omega
    have hert : er S es m = (runR S es).1.take m := by
      rw [← hrt2, runR_ok hrt0, runR_ok hq]; exact run_first S es (startB S) 0 m
    rw [e10] at e10'
    have hErr := hide (Errors_t e10' (isInts_take (heW.out w' hbx6.out) (show m ≤ (runR S es).1.length by rw [hlen.out]; exact hmn)) hert (by rw [hert, List.length_take]; unfold maxLen; omega))
    replace hert := hide hert
    replace hrt0 := hide hrt0
    replace hrt1 := hide hrt1
    replace hrt2 := hide hrt2
    clear e0 e1 e2 e3 e4 e5 e6 e7 e8 hst hRT2 hri e10' kb kx ky y1
    simp only [putAll, Act.put]
    simp only [List.setIfInBounds_toArray, List.set_cons_succ, List.set_cons_zero]
    rw [e9, e10, e12]
    clear e9 e10 e12
    go_wp2_with fail
    refine hErr.out.mono ?_
    rintro e w7 ⟨rfl, hb⟩
    have hB7 := hide (hB6.out.trans (hb.mono hB6.out.size))
    have hbx7 := hide (hbx6.out.trans (hb.mono hbx6.out.size))
    have kb7 := hide (kb6.out.below hb kb6.out.lt)
    have kx7 := hide (kx6.out.below hb kx6.out.lt)
    have ky7 := hide (ky6.out.below hb ky6.out.lt)
    clear hb hsl hErr kb6 kx6 ky6 kbf
    have hrl := hide (refs_len S es)
    have hrm := hide (fun r i (h : r ∈ refsTo S es i) => refs_mem i h)
    have hea := hide (fun (j : Nat) (hj : j < es.length) => errs_at6 hq hj)
    go_upto_region 10 with fail
    go_loopg [14, 15] es.length (fun gg s14 s15 wr => ∃ i : Nat, i ≤ es.length ∧ es.length ≤ gg + i ∧ s15 = .int .i64 i ∧ Hid (RowAt wr (fun k => k < w7.heap.size) 3 1 s14 ((refsTo S es i).map iCells)) ∧ Hid (Below w7.heap.size w7 wr))
    case atStart => exact ⟨0, Nat.zero_le _, by omega, rfl, rowAt_nil _ _ _ _, Below.refl _ _⟩
    case round =>
      obtain ⟨i, hi, hgg, rfl, hrow, hBr⟩ := hrel
      have hBx := hide (hbx7.out.trans (hBr.out.mono hbx7.out.size))
      have hBw := hide (hB7.out.trans (hBr.out.mono hB7.out.size))
      by_cases hlt : i < es.length
      · have hltz : (i : Int) < (es.length : Int) := by omega
        have hi0 : (0 : Int) ≤ (i : Int) := by omega
        obtain ⟨ge, oe2, rfl, hge, m0⟩ := int_read (heW.out wr hBx.out) (by rw [hlen.out]; exact hlt)
        rw [hea.out i hlt] at m0
        have hrs : refsTo S es (i + 1) = refsTo S es i ++ if errAt S es i ≠ 0 then [(i : Int)] else [] := rfl
        by_cases he : errAt S es i = 0
        · rw [he] at m0
          rw [if_neg (by simp [he]), List.append_nil] at hrs
          rw [← hrs] at hrow
          replace hrs := hide hrs
          replace he := hide he
          go_wp2
          go_roundg (es.length - (i + 1))
          case measure => omega
          case rel => exact ⟨i + 1, by omega, by omega, by go_num, hrow.out, hBr.out⟩
        · rw [if_pos he] at hrs
          have b1 : (errAt S es i != 0) = true := bne_iff_ne.2 he
          obtain ⟨v14, wa, hrun1, r14, k1, -⟩ := app_int hrow.out (fun g hg => Nat.lt_of_lt_of_le hg hBr.out.size) (by have := hrl.out i; omega) (i : Int)
          rw [← hrs] at r14
          replace hrs := hide hrs
          replace he := hide he
          replace r14 := hide r14
          have hBb := hide (hBr.out.trans (KeptX.below k1))
          replace hrun1 := hide hrun1
          clear k1 hrow hBr
          generalize errAt S es i = er0 at *
          go_wp2_with (at_builtin; refine wpList_append_run rfl _ _ 40 rfl _ _ _ rfl rfl hrun1.out ?_)
          go_roundg (es.length - (i + 1))
          case measure => omega
          case rel => exact ⟨i + 1, by omega, by omega, by go_num, r14.out, hBb.out⟩
      · have hltz : ¬ (i : Int) < (es.length : Int) := by omega
        obtain rfl : i = es.length := by omega
        obtain ⟨rs, hrs⟩ : ∃ l, refsTo S es es.length = l := ⟨_, rfl⟩
        have hrl2 := hrl.out es.length
        have hrm2 := hide (fun r (h : r ∈ rs) => hrm.out r es.length (by rw [hrs]; exact h))
        rw [hrs] at hrow hrl2
        replace hrs := hide hrs
        by_cases hr0 : rs.length = 0
        · obtain ⟨A14, c14, rfl, -⟩ := hrow.out.isInts
          rw [hr0]
          go_wp2_with fail
          refine (AwakeB _).mono ?_
          rintro e w8 ⟨rfl, hb⟩
          replace hBw := hide (hBw.out.trans (hb.mono hBw.out.size))
          clear hb
          go_wp2
          go_ret
          exact ⟨rfl, hBw.out⟩
        · obtain ⟨g14, c14, rfl, hg14, -, -, -, -, hcel, -⟩ := int_row hrow.out (by omega)
          obtain ⟨ix, hix⟩ : ∃ ix : Nat, x0.tmod (rs.length : Int) = (ix : Int) := ⟨(x0.tmod (rs.length : Int)).toNat, by have := Int.tmod_nonneg (rs.length : Int) r0.1; omega⟩
          have hixl : ix < rs.length := by have := Int.tmod_lt_of_pos x0 (show (0 : Int) < (rs.length : Int) by omega); omega
          obtain ⟨k, hk, hkn, hke⟩ := hrm2.out (rs[ix]?.getD 0) (by rw [List.getElem?_eq_getElem hixl]; exact List.getElem_mem hixl)
          have cr := hcel ix hixl
          rw [hk] at cr
          have y0 : wr.cell? ⟨w.heap.size + 1, 0, none⟩ = some (.int .u8 x0) := (ky7.out.below hBr.out ky7.out.lt).cell 0
          have u5 : IntKind.i64.wrap x0 = x0 := by rw [IntKind.wrap_i64]; omega
          have u6 : IntKind.i64.wrap (ix : Int) = (ix : Int) := by rw [IntKind.wrap_i64]; omega
          have u7 : ((rs.length : Int) == 0) = false := beq_eq_false_iff_ne.2 (by omega)
          have u8 : (rs.length : Int) ≠ 0 := by omega
          have u9 : ¬ rs.length = 0 := hr0
          have hixz : (ix : Int) < (rs.length : Int) := by omega
          have hix0 : (0 : Int) ≤ (ix : Int) := by omega
          have hwo := hide (without_all hq hkn hke)
          replace hk := hide hk
          replace hke := hide hke
          clear hcel
          obtain ⟨be, oe, rfl, hbe, -⟩ := ev_row (hEW.out wr hBw.out) hkn
          obtain ⟨ge, oe2, rfl, hge, -⟩ := int_read (heW.out wr hBx.out) (show k < (runR S es).1.length by rw [hlen.out]; exact hkn)
          have hkce : (k : Int) ≤ (ce : Int) := by omega
          have hX : ¬ (fun g => g < wr.heap.size) wr.heap.size := Nat.lt_irrefl _
          have hbd : Below wr.heap.size wr wr.drew := (Below.refl _ _).drew
          obtain ⟨wa, hwa⟩ : ∃ z, wr.drew.alloc (.cells #[] 65) = z := ⟨_, rfl⟩
          have hba : Below wr.heap.size wr wa := by rw [← hwa]; exact hbd.alloc (Nat.le_refl _) _
          have ka : Blk wa wr.heap.size 65 #[] := by rw [← hwa]; exact blkNew rfl
          have hz2 : wr.heap.size ≤ wa.heap.size := hba.size
          have hrow1 := isRow_take (huW.out wa (hBw.out.trans (hba.mono hBw.out.size))) (i := k) (by rw [List.length_map]; omega)
          rw [← List.map_take] at hrow1
          obtain ⟨v1, wb, hr1, rr1, k1, -⟩ := app_row (W := wa) (X := fun g => g < wr.heap.size) (ty := 37) Try.underlying37 infoEv rfl (by decide) (by decide) (rowAt_new 11 ka hX) (fun g hg => Nat.lt_of_lt_of_le hg hz2) (c := ce) hrow1.rd.1 (fun h => by cases h) one_ev (by simp; omega)
          have hbb : Below wr.heap.size wr wb := hba.trans (KeptX.below k1)
          obtain ⟨a2, ha2, hA2⟩ : ∃ a2, (a2 = (⟨be, oe, none⟩ : Addr).add ((k + 1) * 11) ∨ ce = k + 1) ∧ (if ce = k + 1 then some (⟨be, oe, none⟩ : Addr) else some ⟨be, oe + (k + 1) * 11, none⟩) = some a2 := by
            by_cases h : ce = k + 1
            · exact ⟨_, .inr h, if_pos h⟩
            · exact ⟨⟨be, oe + (k + 1) * 11, none⟩, .inl (Addr.add_lit ..).symm, if_neg h⟩
          have hrow2 := isRow_drop (m := k + 1) (huW.out wb (hBw.out.trans (hbb.mono hBw.out.size))) (by rw [List.length_map]; omega) ha2
          rw [← List.map_drop] at hrow2
          obtain ⟨v2, wc, hr2, rr2, k2, -⟩ := app_row (W := wb) (X := fun g => g < wr.heap.size) (ty := 37) Try.underlying37 infoEv rfl (by decide) (by decide) rr1 (fun g hg => Nat.lt_of_lt_of_le hg hbb.size) (c := ce - (k + 1)) hrow2.rd.1 (fun h => by cases h) one_ev (by simp; omega)
          have hbc := hide (show Below wr.heap.size wr wc from hbb.trans (KeptX.below k2))
          rw [List.nil_append, ← List.map_append] at rr2
          have hless := hide rr2.isRow
          have hsl1 := hide (fun W => slice_hi Try.underlying37 infoEv (some ⟨be, oe, none⟩) es.length ce k (by omega) W)
          have g1 : (0 : Int) ≤ (k : Int) + 1 := by omega
          have g2 : (k : Int) + 1 ≤ (es.length : Int) := by omega
          have g3 : k + 1 ≤ es.length := by omega
          replace ha2 := hide ha2
          have w9 : IntKind.i64.wrap ((k : Int) + 1) = (k : Int) + 1 := by rw [IntKind.wrap_i64]; omega
          replace hr1 := hide hr1
          replace hr2 := hide hr2
          replace hwa := hide hwa
          clear hrow1 hrow2 rr1 rr2 k1 k2 hbb ka hba hz2 hbd
          go_wp2
          clear cr y0
          refine region_chain [0, 4, 9] [.slice (some ⟨wr.heap.size, 0, none⟩) 0 0, .slice (some ⟨be, oe, none⟩) es.length ce, .int .i64 k, .slice (some ⟨be, oe, none⟩) k ce, v1, .slice (some ⟨be, oe, none⟩) es.length ce, .int .i64 k, .int .i64 ((k : Int) + 1), .slice (some a2) (es.length - (k + 1)) (ce - (k + 1)), v2, v2] (wsC wr.drew [wa, wb, wc]) (by kernel_rfl) (by kernel_rfl) (by kernel_rfl) (by kernel_rfl) rfl ?_ ?_
          · try clear hSc
            try clear huW
            try clear hEW
            try clear hRW
            try clear heW
            try clear hxW
            try clear hlW
            try clear hkW
            try clear hsW
            try clear haW
            try clear her
            try clear hrt
            try clear hSok
            try clear ha
            try clear hlen
            try clear hB6
            try clear hbx6
            try clear hB7
            try clear hbx7
            try clear kb7
            try clear kx7
            try clear ky7
            try clear hrl
            try clear hrm
            try clear hea
            try clear hrm2
            try clear hrs
            try clear hBx
            try clear hBw
            try clear hBr
            try clear hrow
            try clear hwo
            try clear hless
            try clear ha2
            try clear hbc
            try clear hke
            try clear hk
            try clear hV
            try clear hB
            try clear hb12
            try clear W2eq
            try clear hq
            try clear hmce
            try clear hrt0
            try clear hrt1
            try clear hrt2
            try clear hert
            try clear u1
            try clear u2
            try clear u3
            try clear u4
            try clear u5
            try clear u6
            try clear u7
            try clear u8
            try clear u9
            try clear hixz
            try clear hix0
            try clear hix
            try clear hixl
            try clear hm
            try clear hmn
            try clear hne0
            try clear hfew
            try clear hca
            try clear hce
            try clear hcm
            try clear r0
            try clear r1
            try clear hb26
            try clear hgb
            try clear hg14
            try clear hbe
            try clear hge
            try clear hX
            try clear hltz
            try clear hgg
            try clear hi
            try clear hr0
            try clear hrl2
            try clear kb8
            try clear kx8
            try clear hBw8
            try clear hBx8
            try clear hwr2
            try clear hb8
            try clear he2W
            try clear hx2W
            try clear hb89
            try clear kz
            try clear hBw9
            try clear hBx9
            try clear kx9
            try clear hX9
            try clear ha3
            try clear hb9c
            try clear hErr2
            try clear hSt
            try clear hle
            try clear hW
            try clear hW2
            try clear hW9
            try clear hEn
            refine ⟨?_, ?_, ?_, ?_, ?_, ?_, ?_, ?_, ?_, ?_, ?_, trivial⟩
            · exact oneC_eff 0 rfl (eff_mk0 rfl 37 65 rfl mk0_ev rfl hwa.out.symm)
            · refine oneC_still 3 (by kernel_rfl) (by kernel_rfl) ?_
              intro y jj K Q hd hj hK
              generalize wsC wr.drew [wa, wb, wc] jj = W at *
              clear hd
              revert hK
              simp only [putAll, Act.put]
              go_simp
            · refine oneC_still 3 (by kernel_rfl) (by kernel_rfl) ?_
              intro y jj K Q hd hj hK
              generalize wsC wr.drew [wa, wb, wc] jj = W at *
              clear hd
              revert hK
              simp only [putAll, Act.put]
              go_simp
            · refine oneC_still 3 (by kernel_rfl) (by kernel_rfl) ?_
              intro y jj K Q hd hj hK
              have hs := hsl1.out (wsC wr.drew [wa, wb, wc] jj)
              generalize wsC wr.drew [wa, wb, wc] jj = W at *
              simp [depsC, Region.binds] at hd
              revert hK
              simp only [putAll, Act.put]
              go_simp
            · refine oneC_eff 1 rfl (eff_append rfl (.tmp 100) (.tmp 103) 37 rfl (.slice (some ⟨wr.heap.size, 0, none⟩) 0 0) (.slice (some ⟨be, oe, none⟩) k ce) ?_ ?_ hr1.out)
              · intro y hd
                simp [depsC, Region.binds] at hd
                simp only [putAll, Act.put]
                go_simp
                try exact hd.1
              · intro y hd
                simp [depsC, Region.binds] at hd
                simp only [putAll, Act.put]
                go_simp
                try exact hd.2
            · refine oneC_still 3 (by kernel_rfl) (by kernel_rfl) ?_
              intro y jj K Q hd hj hK
              generalize wsC wr.drew [wa, wb, wc] jj = W at *
              clear hd
              revert hK
              simp only [putAll, Act.put]
              go_simp
            · refine oneC_still 3 (by kernel_rfl) (by kernel_rfl) ?_
              intro y jj K Q hd hj hK
              generalize wsC wr.drew [wa, wb, wc] jj = W at *
              clear hd
              revert hK
              simp only [putAll, Act.put]
              go_simp
            · refine oneC_still 3 (by kernel_rfl) (by kernel_rfl) ?_
              intro y jj K Q hd hj hK
              generalize wsC wr.drew [wa, wb, wc] jj = W at *
              simp [depsC, Region.binds] at hd
              revert hK
              simp only [putAll, Act.put]
              go_simp
            · refine oneC_still 3 (by kernel_rfl) (by kernel_rfl) ?_
              intro y jj K Q hd hj hK
              generalize wsC wr.drew [wa, wb, wc] jj = W at *
              simp [depsC, Region.binds] at hd
              revert hK
              simp only [putAll, Act.put]
              go_simp
            · refine oneC_eff 2 rfl (eff_append rfl (.tmp 104) (.tmp 108) 37 rfl (v1) (.slice (some a2) (es.length - (k + 1)) (ce - (k + 1))) ?_ ?_ hr2.out)
              · intro y hd
                simp [depsC, Region.binds] at hd
                simp only [putAll, Act.put]
                go_simp
                try exact hd.1
              · intro y hd
                simp [depsC, Region.binds] at hd
                simp only [putAll, Act.put]
                go_simp
                try exact hd.2
            · refine oneC_still 3 (by kernel_rfl) (by kernel_rfl) ?_
              intro y jj K Q hd hj hK
              generalize wsC wr.drew [wa, wb, wc] jj = W at *
              simp [depsC, Region.binds] at hd
              revert hK
              simp only [putAll, Act.put]
              go_simp
          · simp only [putAll, Act.put, wsC, List.length_cons, List.length_nil]
            simp only [List.setIfInBounds_toArray, List.set_cons_succ, List.set_cons_zero, List.getD_cons_zero, List.getD_cons_succ]
            clear hsl1 hA2 w9 g1 g2
            have hwr2 := hwo.out.ok
            have hRT3 := hide (fun W (hb : Below wc.heap.size wc W) => Run_k _ v2 S (es.take k ++ es.drop (k + 1)) W (hSc.out W (hBw.out.trans ((hbc.out.trans (hb.mono hbc.out.size)).mono hBw.out.size))) (hless.out.below hb))
            rw [hwr2] at hRT3
            have kb8 := hide ((kb7.out.below hBr.out kb7.out.lt).below hbc.out (kb7.out.below hBr.out kb7.out.lt).lt)
            have kx8 := hide ((kx7.out.below hBr.out kx7.out.lt).below hbc.out (kx7.out.below hBr.out kx7.out.lt).lt)
            have hBw8 := hide (hBw.out.trans (hbc.out.mono hBw.out.size))
            have hBx8 := hide (hBx.out.trans (hbc.out.mono hBx.out.size))
            obtain ⟨c0, c1, c2, c3, c4, c5, c6⟩ := sch_cells (w := wc) (p := w.heap.size) (S := S) kb8.out
            go_wp2_with fail
            refine (hRT3.out wc (Below.refl _ _)).mono ?_
            rintro e w8 ⟨⟨q1, q2, rfl, he2, hx2⟩, hb⟩
            have hb8 := hide hb
            have he2W := hide (fun W (hb : Below w8.heap.size w8 W) => he2.below hb)
            have hx2W := hide (fun W (hb : Below w8.heap.size w8 W) => hx2.below hb)
            obtain ⟨Am, cm, rfl, -, -⟩ := he2
            obtain ⟨B0, z0, B1, z1, B2, z2, B3, z3, rfl, -⟩ := hx2.parts
            clear hx2 hb c0 c1 c2 c3 c4 c5 c6 hRT3
            obtain ⟨W9, hW9⟩ : ∃ y, w8.alloc (.cells #[.slice B0 (runR S (es.take k ++ es.drop (k + 1))).2.les.length z0, .slice B1 (runR S (es.take k ++ es.drop (k + 1))).2.km.length z1, .slice B2 (runR S (es.take k ++ es.drop (k + 1))).2.since.length z2, .slice B3 (runR S (es.take k ++ es.drop (k + 1))).2.acc.length z3] 42) = y := ⟨_, rfl⟩
            have hb89 : Below w8.heap.size w8 W9 := by rw [← hW9]; exact (Below.refl _ _).alloc (Nat.le_refl _) _
            have kz := hide (show Blk W9 w8.heap.size 42 #[.slice B0 (runR S (es.take k ++ es.drop (k + 1))).2.les.length z0, .slice B1 (runR S (es.take k ++ es.drop (k + 1))).2.km.length z1, .slice B2 (runR S (es.take k ++ es.drop (k + 1))).2.since.length z2, .slice B3 (runR S (es.take k ++ es.drop (k + 1))).2.acc.length z3] by rw [← hW9]; exact blkNew rfl)
            have hbc9 : Below wc.heap.size wc W9 := hb8.out.trans (hb89.mono hb8.out.size)
            have hBw9 := hide (hBw8.out.trans (hbc9.mono hBw8.out.size))
            have hBx9 := hide (hBx8.out.trans (hbc9.mono hBx8.out.size))
            have kx9 := hide (kx8.out.below hbc9 kx8.out.lt)
            replace hb89 := hide hb89
            replace hW9 := hide hW9
            have hX9 : ¬ (fun g => g < W9.heap.size) W9.heap.size := Nat.lt_irrefl _
            have hbd : Below W9.heap.size W9 W9.drew := (Below.refl _ _).drew
            obtain ⟨xa, hxa⟩ : ∃ z, W9.drew.alloc (.cells #[] 30) = z := ⟨_, rfl⟩
            have hba : Below W9.heap.size W9 xa := by rw [← hxa]; exact hbd.alloc (Nat.le_refl _) _
            have ka : Blk xa W9.heap.size 30 #[] := by rw [← hxa]; exact blkNew rfl
            have hz2 : W9.heap.size ≤ xa.heap.size := hba.size
            have hle : (runR S es).1.length = es.length := hlen.out
            have hrow1 := isInts_take (heW.out xa (hBx9.out.trans (hba.mono hBx9.out.size))) (i := k) (by omega)
            obtain ⟨e1, xb, hq1, rr1, k1, -⟩ := app_row (W := xa) (X := fun g => g < W9.heap.size) (ty := 38) Try.underlying38 infoErr rfl (by decide) (by decide) (rowAt_new 1 ka hX9) (fun g hg => Nat.lt_of_lt_of_le hg hz2) (c := ca) hrow1.rd (fun h => by cases h) one_int (by simp; omega)
            have hbb : Below W9.heap.size W9 xb := hba.trans (KeptX.below k1)
            obtain ⟨a3, ha3, hA3⟩ : ∃ a2, (a2 = (⟨ge, oe2, none⟩ : Addr).add ((k + 1) * 1) ∨ ca = k + 1) ∧ (if ca = k + 1 then some (⟨ge, oe2, none⟩ : Addr) else some ⟨ge, oe2 + (k + 1), none⟩) = some a2 := by
              by_cases h : ca = k + 1
              · exact ⟨_, .inr h, if_pos h⟩
              · exact ⟨⟨ge, oe2 + (k + 1), none⟩, .inl (by rw [Nat.mul_one]; exact (Addr.add_lit ..).symm), if_neg h⟩
            have hrow2 := isInts_drop (m := k + 1) (heW.out xb (hBx9.out.trans (hbb.mono hBx9.out.size))) (by omega) ha3
            obtain ⟨e2, xc, hq2, rr2, k2, -⟩ := app_row (W := xb) (X := fun g => g < W9.heap.size) (ty := 38) Try.underlying38 infoErr rfl (by decide) (by decide) rr1 (fun g hg => Nat.lt_of_lt_of_le hg hbb.size) (c := ca - (k + 1)) hrow2.rd (fun h => by cases h) one_int (by simp; omega)
            have hb9c := hide (show Below W9.heap.size W9 xc from hbb.trans (KeptX.below k2))
            rw [List.nil_append, ← List.map_append] at rr2
            have hints := rowAny_ints rr2
            have hErr2 := hide (fun W (hb : Below xc.heap.size xc W) => Errors_t (he2W.out W (hb89.out.trans ((hb9c.out.trans (hb.mono hb9c.out.size)).mono hb89.out.size))) (hints.below hb) hwo.out.errs (by rw [hwo.out.errs, List.length_append, List.length_take, List.length_drop]; unfold maxLen; omega))
            have hSt := hide (fun W (hb : Below W9.heap.size W9 W) => States_t (hxW.out W (hBx9.out.trans (hb.mono hBx9.out.size))) (hx2W.out W (hb89.out.trans (hb.mono hb89.out.size))) ⟨hwo.out.les, hwo.out.km, hwo.out.since, hwo.out.acc⟩ (by
              have h1 := ha.out.ok.km
              have h2 := ha.out.ok.since
              have h3 := ha.out.ok.accLen
              have h4 := ha.out.nl
              have h5 := ha.out.nc
              unfold LenOk maxLen
              rw [← hwo.out.km, ← hwo.out.since, ← hwo.out.acc]
              omega))
            have hsl3 := hide (fun W => slice_hi Try.underlying38 infoErr (some ⟨ge, oe2, none⟩) es.length ca k (by omega) W)
            have w9 : IntKind.i64.wrap ((k : Int) + 1) = (k : Int) + 1 := by rw [IntKind.wrap_i64]; omega
            have g1 : (0 : Int) ≤ (k : Int) + 1 := by omega
            have g2 : (k : Int) + 1 ≤ (es.length : Int) := by omega
            have hkca : (k : Int) ≤ (ca : Int) := by omega
            replace ha3 := hide ha3
            replace hq1 := hide hq1
            replace hq2 := hide hq2
            replace hxa := hide hxa
            replace hle := hide hle
            clear hrow1 hrow2 rr1 rr2 k1 k2 hbb ka hba hz2 hbd hints hbc9 hr1 hr2 hwa hless
            go_upto_region 19 with fail
            rw [hW9.out]
            refine region_chain_grow 14 [4, 8, 13] [.int .i64 0, .bool true, .bool true, .slice Am (runR S (es.take k ++ es.drop (k + 1))).1.length cm, .slice (some ⟨W9.heap.size, 0, none⟩) 0 0, .slice (some ⟨ge, oe2, none⟩) es.length ca, .int .i64 k, .slice (some ⟨ge, oe2, none⟩) k ca, e1, .slice (some ⟨ge, oe2, none⟩) es.length ca, .int .i64 k, .int .i64 ((k : Int) + 1), .slice (some a3) (es.length - (k + 1)) (ca - (k + 1)), e2] (wsC W9.drew [xa, xb, xc]) [IsV (.bool true), IsV (.bool true), IsV (.bool true), IsV (.agg #[.slice A0 (runR S es).2.les.length q0, .slice A1 (runR S es).2.km.length q1, .slice A2 (runR S es).2.since.length q2, .slice A3 (runR S es).2.acc.length q3]), IsV (.agg #[.slice B0 (runR S (es.take k ++ es.drop (k + 1))).2.les.length z0, .slice B1 (runR S (es.take k ++ es.drop (k + 1))).2.km.length z1, .slice B2 (runR S (es.take k ++ es.drop (k + 1))).2.since.length z2, .slice B3 (runR S (es.take k ++ es.drop (k + 1))).2.acc.length z3]), IsV (.bool true), IsV (.bool true), IsV (.bool true), IsV (.bool true), IsV (.bool true), IsV (.bool true)] (by kernel_rfl) (by kernel_rfl) (by kernel_rfl) (by kernel_rfl) (by kernel_rfl) (by kernel_rfl) rfl rfl ?_ ?_ ?_ ?_
            · simp [AllStb, IsVL, IsV.stb]
            · try clear hSc
              try clear huW
              try clear hEW
              try clear hRW
              try clear heW
              try clear hxW
              try clear hlW
              try clear hkW
              try clear hsW
              try clear haW
              try clear her
              try clear hrt
              try clear hSok
              try clear ha
              try clear hlen
              try clear hB6
              try clear hbx6
              try clear hB7
              try clear hbx7
              try clear kb7
              try clear kx7
              try clear ky7
              try clear hrl
              try clear hrm
              try clear hea
              try clear hrm2
              try clear hrs
              try clear hBx
              try clear hBw
              try clear hBr
              try clear hrow
              try clear hwo
              try clear hless
              try clear ha2
              try clear hbc
              try clear hke
              try clear hk
              try clear hV
              try clear hB
              try clear hb12
              try clear W2eq
              try clear hq
              try clear hmce
              try clear hrt0
              try clear hrt1
              try clear hrt2
              try clear hert
              try clear u1
              try clear u2
              try clear u3
              try clear u4
              try clear u5
              try clear u6
              try clear u7
              try clear u8
              try clear u9
              try clear hixz
              try clear hix0
              try clear hix
              try clear hixl
              try clear hm
              try clear hmn
              try clear hne0
              try clear hfew
              try clear hca
              try clear hce
              try clear hcm
              try clear r0
              try clear r1
              try clear hb26
              try clear hgb
              try clear hg14
              try clear hbe
              try clear hge
              try clear hX
              try clear hltz
              try clear hgg
              try clear hi
              try clear hr0
              try clear hrl2
              try clear kb8
              try clear kx8
              try clear hBw8
              try clear hBx8
              try clear hwr2
              try clear hb8
              try clear he2W
              try clear hx2W
              try clear hb89
              try clear kz
              try clear hBw9
              try clear hBx9
              try clear kx9
              try clear hX9
              try clear ha3
              try clear hb9c
              try clear hErr2
              try clear hSt
              try clear hle
              try clear hW
              try clear hW2
              try clear hW9
              try clear hEn
              refine ⟨?_, ?_, ?_, ?_, ?_, ?_, ?_, ?_, ?_, ?_, ?_, ?_, ?_, ?_, trivial⟩
              · refine oneC_still 3 (by kernel_rfl) (by kernel_rfl) ?_
                intro y jj K Q hd hj hK
                generalize wsC W9.drew [xa, xb, xc] jj = W at *
                clear hd
                revert hK
                simp only [putAll, Act.put]
                go_simp
              · refine oneC_still 3 (by kernel_rfl) (by kernel_rfl) ?_
                intro y jj K Q hd hj hK
                generalize wsC W9.drew [xa, xb, xc] jj = W at *
                simp [depsC, Region.binds] at hd
                revert hK
                simp only [putAll, Act.put]
                go_simp
              · refine oneC_still 3 (by kernel_rfl) (by kernel_rfl) ?_
                intro y jj K Q hd hj hK
                generalize wsC W9.drew [xa, xb, xc] jj = W at *
                simp [depsC, Region.binds] at hd
                revert hK
                simp only [putAll, Act.put]
                go_simp
              · refine oneC_still 3 (by kernel_rfl) (by kernel_rfl) ?_
                intro y jj K Q hd hj hK
                generalize wsC W9.drew [xa, xb, xc] jj = W at *
                simp [depsC, Region.binds] at hd
                revert hK
                simp only [putAll, Act.put]
                go_simp
              · refine oneC_effS 0 rfl ?_
                refine effS_mk0 38 30 ?_ mk0_err ?_ ?_ ?_
                · rfl
                · intro y hd
                  simp [depsC, Region.binds] at hd
                  simp only [putAll, Act.put]
                  go_simp
                · rfl
                · exact hxa.out.symm
              · refine oneC_still 3 (by kernel_rfl) (by kernel_rfl) ?_
                intro y jj K Q hd hj hK
                generalize wsC W9.drew [xa, xb, xc] jj = W at *
                simp [depsC, Region.binds] at hd
                revert hK
                simp only [putAll, Act.put]
                go_simp
              · refine oneC_still 3 (by kernel_rfl) (by kernel_rfl) ?_
                intro y jj K Q hd hj hK
                generalize wsC W9.drew [xa, xb, xc] jj = W at *
                simp [depsC, Region.binds] at hd
                revert hK
                simp only [putAll, Act.put]
                go_simp
              · refine oneC_still 3 (by kernel_rfl) (by kernel_rfl) ?_
                intro y jj K Q hd hj hK
                have hs := hsl3.out (wsC W9.drew [xa, xb, xc] jj)
                generalize wsC W9.drew [xa, xb, xc] jj = W at *
                simp [depsC, Region.binds] at hd
                revert hK
                simp only [putAll, Act.put]
                go_simp
              · refine oneC_effS 1 rfl ?_
                refine effS_append (.tmp 121) (.tmp 124) 38 ?_ (.slice (some ⟨W9.heap.size, 0, none⟩) 0 0) (.slice (some ⟨ge, oe2, none⟩) k ca) ?_ ?_ ?_ hq1.out
                · rfl
                · intro y hd
                  simp [depsC, Region.binds] at hd
                  simp only [putAll, Act.put]
                  go_simp
                  try exact hd.1
                  try exact hd.2
                · intro y hd
                  simp [depsC, Region.binds] at hd
                  simp only [putAll, Act.put]
                  go_simp
                  try exact hd.1
                  try exact hd.2
                · intro y hd
                  simp [depsC, Region.binds] at hd
                  simp only [putAll, Act.put]
                  go_simp
              · refine oneC_still 3 (by kernel_rfl) (by kernel_rfl) ?_
                intro y jj K Q hd hj hK
                generalize wsC W9.drew [xa, xb, xc] jj = W at *
                simp [depsC, Region.binds] at hd
                revert hK
                simp only [putAll, Act.put]
                go_simp
              · refine oneC_still 3 (by kernel_rfl) (by kernel_rfl) ?_
                intro y jj K Q hd hj hK
                generalize wsC W9.drew [xa, xb, xc] jj = W at *
                simp [depsC, Region.binds] at hd
                revert hK
                simp only [putAll, Act.put]
                go_simp
              · refine oneC_still 3 (by kernel_rfl) (by kernel_rfl) ?_
                intro y jj K Q hd hj hK
                generalize wsC W9.drew [xa, xb, xc] jj = W at *
                simp [depsC, Region.binds] at hd
                revert hK
                simp only [putAll, Act.put]
                go_simp
              · refine oneC_still 3 (by kernel_rfl) (by kernel_rfl) ?_
                intro y jj K Q hd hj hK
                generalize wsC W9.drew [xa, xb, xc] jj = W at *
                simp [depsC, Region.binds] at hd
                revert hK
                simp only [putAll, Act.put]
                go_simp
              · refine oneC_effS 2 rfl ?_
                refine effS_append (.tmp 125) (.tmp 129) 38 ?_ (e1) (.slice (some a3) (es.length - (k + 1)) (ca - (k + 1))) ?_ ?_ ?_ hq2.out
                · rfl
                · intro y hd
                  simp [depsC, Region.binds] at hd
                  simp only [putAll, Act.put]
                  go_simp
                  try exact hd.1
                  try exact hd.2
                · intro y hd
                  simp [depsC, Region.binds] at hd
                  simp only [putAll, Act.put]
                  go_simp
                  try exact hd.1
                  try exact hd.2
                · intro y hd
                  simp [depsC, Region.binds] at hd
                  simp only [putAll, Act.put]
                  go_simp
            · refine ⟨?_, ?_, ?_, ?_, ?_, ?_, ?_, ?_, ?_, ?_, ?_, trivial⟩
              · refine one_fr ?_ ?_ ?_
                · kernel_rfl
                · right; exact ⟨2, 119, by kernel_rfl, fun _ _ h => h⟩
                intro T y W4 K Q Cv hF hC4 hd hV hK
                replace hC4 : Below xc.heap.size xc W4 := hC4
                simp [deps, VL, IsVL, IsV, Region.binds] at hd
                have t120 := hF.get 3 120 (by kernel_rfl)
                simp only [hd] at t120
                have t130 := hF.get 13 130 (by kernel_rfl)
                simp only [hd] at t130
                clear hF
                have hs := hErr2.out W4 hC4
                go_simp
                refine hs.mono ?_
                rintro e w7 ⟨rfl, hb7⟩
                exact hK _ _ (hV _ _ (hC4.trans (hb7.mono hC4.size)) hb7 rfl)
              · refine one_fr ?_ ?_ ?_
                · kernel_rfl
                · left; kernel_rfl
                intro T y W4 K Q Cv hF hC4 hd hV hK
                replace hC4 : Below xc.heap.size xc W4 := hC4
                simp [deps, VL, IsVL, IsV, Region.binds] at hd
                have t119 := hF.get 2 119 (by kernel_rfl)
                simp only [hd] at t119
                have t131 := hF.get 14 131 (by kernel_rfl)
                simp only [hd] at t131
                clear hF
                go_simp
                exact hK _ _ (hV _ _ hC4 (Below.refl _ _) rfl)
              · refine one_fr ?_ ?_ ?_
                · kernel_rfl
                · left; kernel_rfl
                intro T y W4 K Q Cv hF hC4 hd hV hK
                replace hC4 : Below xc.heap.size xc W4 := hC4
                simp [deps, VL, IsVL, IsV, Region.binds] at hd
                have t132 := hF.get 15 132 (by kernel_rfl)
                simp only [hd] at t132
                clear hF
                go_simp
                exact hK _ _ (hV _ _ hC4 (Below.refl _ _) rfl)
              · refine one_fr ?_ ?_ ?_
                · kernel_rfl
                · right; exact ⟨16, 133, by kernel_rfl, fun _ _ h => h⟩
                intro T y W4 K Q Cv hF hC4 hd hV hK
                replace hC4 : Below xc.heap.size xc W4 := hC4
                clear hd
                have t8 := hF.old 8 (.pointer (some ⟨w1.heap.size, 0, none⟩)) (by kernel_rfl) (by kernel_rfl)
                clear hF
                have kk := kx9.out.below (hb9c.out.trans (hC4.mono hb9c.out.size)) kx9.out.lt
                have x0 : W4.cell? ⟨w1.heap.size, 0, none⟩ = some (.slice A0 (runR S es).2.les.length q0) := kk.cell 0
                have x1 : W4.cell? ⟨w1.heap.size, 1, none⟩ = some (.slice A1 (runR S es).2.km.length q1) := kk.cell 1
                have x2 : W4.cell? ⟨w1.heap.size, 2, none⟩ = some (.slice A2 (runR S es).2.since.length q2) := kk.cell 2
                have x3 : W4.cell? ⟨w1.heap.size, 3, none⟩ = some (.slice A3 (runR S es).2.acc.length q3) := kk.cell 3
                clear kk
                go_simp
                exact hK _ _ (hV _ _ hC4 (Below.refl _ _) rfl)
              · refine one_fr ?_ ?_ ?_
                · kernel_rfl
                · right; exact ⟨16, 133, by kernel_rfl, fun _ _ h => h⟩
                intro T y W4 K Q Cv hF hC4 hd hV hK
                replace hC4 : Below xc.heap.size xc W4 := hC4
                clear hd
                have t19 := hF.old 19 (.pointer (some ⟨w8.heap.size, 0, none⟩)) (by kernel_rfl) (by kernel_rfl)
                clear hF
                have kk := kz.out.below (hb9c.out.trans (hC4.mono hb9c.out.size)) kz.out.lt
                have x0 : W4.cell? ⟨w8.heap.size, 0, none⟩ = some (.slice B0 (runR S (es.take k ++ es.drop (k + 1))).2.les.length z0) := kk.cell 0
                have x1 : W4.cell? ⟨w8.heap.size, 1, none⟩ = some (.slice B1 (runR S (es.take k ++ es.drop (k + 1))).2.km.length z1) := kk.cell 1
                have x2 : W4.cell? ⟨w8.heap.size, 2, none⟩ = some (.slice B2 (runR S (es.take k ++ es.drop (k + 1))).2.since.length z2) := kk.cell 2
                have x3 : W4.cell? ⟨w8.heap.size, 3, none⟩ = some (.slice B3 (runR S (es.take k ++ es.drop (k + 1))).2.acc.length z3) := kk.cell 3
                clear kk
                go_simp
                exact hK _ _ (hV _ _ hC4 (Below.refl _ _) rfl)
              · refine one_fr ?_ ?_ ?_
                · kernel_rfl
                · right; exact ⟨16, 133, by kernel_rfl, fun _ _ h => h⟩
                intro T y W4 K Q Cv hF hC4 hd hV hK
                replace hC4 : Below xc.heap.size xc W4 := hC4
                simp [deps, VL, IsVL, IsV, Region.binds] at hd
                have t134 := hF.get 17 134 (by kernel_rfl)
                simp only [hd] at t134
                have t135 := hF.get 18 135 (by kernel_rfl)
                simp only [hd] at t135
                clear hF
                have hs := hSt.out W4 (hb9c.out.trans (hC4.mono hb9c.out.size))
                go_simp
                refine hs.mono ?_
                rintro e w7 ⟨rfl, hb7⟩
                exact hK _ _ (hV _ _ (hC4.trans (hb7.mono hC4.size)) hb7 rfl)
              · refine one_fr ?_ ?_ ?_
                · kernel_rfl
                · left; kernel_rfl
                intro T y W4 K Q Cv hF hC4 hd hV hK
                replace hC4 : Below xc.heap.size xc W4 := hC4
                simp [deps, VL, IsVL, IsV, Region.binds] at hd
                have t133 := hF.get 16 133 (by kernel_rfl)
                simp only [hd] at t133
                have t136 := hF.get 19 136 (by kernel_rfl)
                simp only [hd] at t136
                clear hF
                go_simp
                exact hK _ _ (hV _ _ hC4 (Below.refl _ _) rfl)
              · refine one_fr ?_ ?_ ?_
                · kernel_rfl
                · left; kernel_rfl
                intro T y W4 K Q Cv hF hC4 hd hV hK
                replace hC4 : Below xc.heap.size xc W4 := hC4
                simp [deps, VL, IsVL, IsV, Region.binds] at hd
                have t137 := hF.get 20 137 (by kernel_rfl)
                simp only [hd] at t137
                clear hF
                go_simp
                exact hK _ _ (hV _ _ hC4 (Below.refl _ _) rfl)
              · refine one_fr ?_ ?_ ?_
                · kernel_rfl
                · right; exact ⟨21, 138, by kernel_rfl, fun _ _ h => h⟩
                intro T y W4 K Q Cv hF hC4 hd hV hK
                replace hC4 : Below xc.heap.size xc W4 := hC4
                clear hd
                clear hF
                have hs := AwakeB W4
                go_simp
                refine hs.mono ?_
                rintro e w7 ⟨rfl, hb7⟩
                exact hK _ _ (hV _ _ (hC4.trans (hb7.mono hC4.size)) hb7 rfl)
              · refine one_fr ?_ ?_ ?_
                · kernel_rfl
                · left; kernel_rfl
                intro T y W4 K Q Cv hF hC4 hd hV hK
                replace hC4 : Below xc.heap.size xc W4 := hC4
                simp [deps, VL, IsVL, IsV, Region.binds] at hd
                have t138 := hF.get 21 138 (by kernel_rfl)
                simp only [hd] at t138
                have t139 := hF.get 22 139 (by kernel_rfl)
                simp only [hd] at t139
                clear hF
                go_simp
                exact hK _ _ (hV _ _ hC4 (Below.refl _ _) rfl)
              · refine one_fr ?_ ?_ ?_
                · kernel_rfl
                · left; kernel_rfl
                intro T y W4 K Q Cv hF hC4 hd hV hK
                replace hC4 : Below xc.heap.size xc W4 := hC4
                simp [deps, VL, IsVL, IsV, Region.binds] at hd
                have t140 := hF.get 23 140 (by kernel_rfl)
                simp only [hd] at t140
                clear hF
                go_simp
                exact hK _ _ (hV _ _ hC4 (Below.refl _ _) rfl)
            · intro y w' hC hE
              have e24 : IsV (.bool true) (y 24) w' := hE 24 (by kernel_rfl)
              replace hC : Below xc.heap.size xc w' := hC
              have hfin := hide (hBw9.out.trans ((hb9c.out.trans (hC.mono hb9c.out.size)).mono hBw9.out.size))
              unfold IsV at e24
              clear hE hC
              simp only [putAll, Act.put]
              simp only [List.setIfInBounds_toArray, List.set_cons_succ, List.set_cons_zero]
              rw [e24]
              clear e24
              go_wp2
              go_ret
              exact ⟨rfl, hfin.out⟩
  · have b0 : (runE S es != 0) = true := bne_iff_ne.2 hq
    have hz : (runR S es).1.length = 0 := by rw [runR_err hq]; rfl
    rw [hz]
    generalize runE S es = qe at *
    generalize runR S es = qr at *
    replace hq := hide hq
    replace hz := hide hz
    clear hV hSc huW heW hxW hlW hkW hsW haW
    go_upto_region 2 with fail
    rw [hW2.out]
    go_wp2_with fail
    refine (AwakeB _).mono ?_
    rintro e w5 ⟨rfl, hb⟩
    replace hB := hide (hB.out.trans (hb.mono hB.out.size))
    clear hb
    go_wp2
    go_ret
    exact ⟨rfl, hB.out⟩
end Go.Proofs.Ytkmhldjebopljaa
