/-
  The law BookSoonest: the first hour (made by mkbksoon.py).
-/
import Derived.Test.YtkmhldjebopljaaQj
import Derived.Test.YtkmhldjebopljaaQl
import Derived.Test.YtkmhldjebopljaaQd
import Derived.Test.YtkmhldjebopljaaQk
namespace Go.Proofs.Ytkmhldjebopljaa
open Go.RowKit RG

theorem errs_at5 {S : BSch} {es : List BEv} (h : runE S es = 0) {j : Nat} (hj : j < es.length) : (runR S es).1[j]?.getD 0 = errAt S es j := by
  rw [(runR_er h).1, er_at S es hj (Nat.le_refl _)]; rfl
set_option maxRecDepth 100000 in
set_option maxHeartbeats 8000000 in
theorem BookSoonest_any (v u : Value) (S : BSch) (es : List BEv) (x0 x1 x2 x3 x4 : Int)  (w : World) (h : RdBSch w v S) (hu : IsRow 11 (es.map evCells) u w) (hx0 : 0 ≤ x0 ∧ x0 ≤ 65535) (hx1 : 0 ≤ x1 ∧ x1 ≤ 65535) (hx2 : 0 ≤ x2 ∧ x2 ≤ 65535) (hx3 : 0 ≤ x3 ∧ x3 ≤ 65535) (hx4 : 0 ≤ x4 ∧ x4 ≤ 65535) (hEn : ∀ n c, u = .slice none n c → c = 0) :
    Calls Try.prog 15 #[v, u, .agg #[.int .u16 x0, .int .u16 x1, .int .u16 x2, .int .u16 x3, .int .u16 x4]] w fun e w' => e = .returned (.bool true) ∧ Below w.heap.size w w' := by
  have hRun := hide (fun W (hb : Below w.heap.size w W) => Run_k v u S es W (h.below hb) (hu.below hb))
  have hPst := hide (fun W (hb : Below w.heap.size w W) => Postings_k v u S es W (h.below hb) (hu.below hb))
  have hV := hide (fun W (hb : Below w.heap.size w W) => valid_any v S W (h.below hb))
  have hSc := hide (fun W (hb : Below w.heap.size w W) => h.below hb)
  have huW := hide (fun W (hb : Below w.heap.size w W) => hu.below hb)
  obtain ⟨L, C, T, cl, cc, ct, rfl, hR⟩ := h
  have hRW := hide (fun W (hb : Below w.heap.size w W) => hR.below hb)
  clear hR
  obtain ⟨A, ce, rfl, hce, hcm⟩ := evRow_len hu
  have hEW := hide (fun W (hb : Below w.heap.size w W) => (ev_read hu).below hb)
  clear hu
  obtain ⟨W, hW⟩ : ∃ y, (w.alloc (.cells (schCells L C T cl cc ct S) 28)).alloc (.cells #[.int .u16 x0, .int .u16 x1, .int .u16 x2, .int .u16 x3, .int .u16 x4] 77) = y := ⟨_, rfl⟩
  have kb := hide (show Blk W w.heap.size 28 (schCells L C T cl cc ct S) by rw [← hW]; exact (blkNew rfl).alloc _)
  have ky := hide (show Blk W (w.heap.size + 1) 77 #[.int .u16 x0, .int .u16 x1, .int .u16 x2, .int .u16 x3, .int .u16 x4] by rw [← hW]; exact blkNew (by simp))
  have hB := hide (show Below w.heap.size w W by rw [← hW]; exact ((Below.refl _ _).alloc (Nat.le_refl _) _).alloc (by simp) _)
  replace hW := hide hW
  unfold schCells at *
  unfold maxLen at hcm
  clear hPst
  have hFi := hide (fun (a b c d : Int) W (hb : Below w.heap.size w W) => First_k _ _ S es a b c d W (hSc.out W hb) (huW.out W hb))
  obtain ⟨c0, c1, c2, c3, c4, c5, c6⟩ := sch_cells (w := W) (p := w.heap.size) (S := S) kb.out
  go_enter Try.func15, Try.ntmps15
  go_upto_region 1 with fail
  rw [hW.out]
  by_cases hck : (checkB S).2.2 = 0
  · have hvt := hide (fun W (hb : Below w.heap.size w W) => show Calls Try.prog 33 #[.agg #[.slice L S.learners.length cl, .slice C S.cars.length cc, .int .i64 S.price, .int .i64 S.excess, .int .i64 S.lo, .int .i64 S.hi, .slice T S.terms.length ct]] W fun e w' => e = .returned (.bool true) ∧ Below W.heap.size W w' from by
      have := hV.out W hb
      rwa [hck, show decide ((0 : Int) = 0) = true from rfl] at this)
    clear hV
    by_cases h60 : 60 ≤ es.length
    · have t1 : decide ((60 : Int) ≤ (es.length : Int)) = true := decide_eq_true (by omega)
      have t2 : decide (60 ≤ es.length) = true := decide_eq_true h60
      go_wp2_with fail
      refine (hvt.out W hB.out).mono ?_
      rintro e w0 ⟨rfl, hb⟩
      replace hB := hide (hB.out.trans (hb.mono hB.out.size))
      clear hb hSc huW hRW hEW hRun hFi hvt c0 c1 c2 c3 c4 c5 c6
      go_wp2_with fail
      refine (AwakeB _).mono ?_
      rintro e w5 ⟨rfl, hb⟩
      replace hB := hide (hB.out.trans (hb.mono hB.out.size))
      clear hb
      go_wp2
      go_ret
      exact ⟨rfl, hB.out⟩
    · have t1 : decide ((60 : Int) ≤ (es.length : Int)) = false := decide_eq_false (by omega)
      have t2 : decide (60 ≤ es.length) = false := decide_eq_false h60
      go_wp2_with fail
      refine (hvt.out W hB.out).mono ?_
      rintro e w0 ⟨rfl, hb⟩
      have hb0 := hide hb
      replace kb := hide (kb.out.below hb kb.out.lt)
      replace ky := hide (ky.out.below hb ky.out.lt)
      replace hB := hide (hB.out.trans (hb.mono hB.out.size))
      clear hb hvt
      clear c0 c1 c2 c3 c4 c5 c6
      obtain ⟨c0, c1, c2, c3, c4, c5, c6⟩ := sch_cells (w := w0) (p := w.heap.size) (S := S) kb.out
      go_wp2_with fail
      refine (hRun.out _ hB.out).mono ?_
      rintro e w1 ⟨⟨v1, v2, rfl, he, hx⟩, hb⟩
      have heW := hide (fun W' (hb : Below w1.heap.size w1 W') => he.below hb)
      have hxW := hide (fun W' (hb : Below w1.heap.size w1 W') => hx.below hb)
      obtain ⟨Ae, ca, rfl, -, hca⟩ := he
      obtain ⟨A0, q0, A1, q1, A2, q2, A3, q3, rfl, hl, hk, hs, ha⟩ := hx.parts
      have hlW := hide (fun W' (hb : Below w1.heap.size w1 W') => hl.below hb)
      have hkW := hide (fun W' (hb : Below w1.heap.size w1 W') => hk.below hb)
      have hsW := hide (fun W' (hb : Below w1.heap.size w1 W') => hs.below hb)
      have haW := hide (fun W' (hb : Below w1.heap.size w1 W') => ha.below hb)
      clear hl hk hs ha hx
      clear c0 c1 c2 c3 c4 c5 c6
      replace kb := hide (kb.out.below hb kb.out.lt)
      replace ky := hide (ky.out.below hb ky.out.lt)
      replace hB := hide (hB.out.trans (hb.mono hB.out.size))
      clear hb hRun
      obtain ⟨W2, hW2⟩ : ∃ y, w1.alloc (.cells #[.slice A0 (runR S es).2.les.length q0, .slice A1 (runR S es).2.km.length q1, .slice A2 (runR S es).2.since.length q2, .slice A3 (runR S es).2.acc.length q3] 42) = y := ⟨_, rfl⟩
      have hb12 := hide (show Below w1.heap.size w1 W2 by rw [← hW2]; exact (Below.refl _ _).alloc (Nat.le_refl _) _)
      have kx := hide (show Blk W2 w1.heap.size 42 #[.slice A0 (runR S es).2.les.length q0, .slice A1 (runR S es).2.km.length q1, .slice A2 (runR S es).2.since.length q2, .slice A3 (runR S es).2.acc.length q3] by rw [← hW2]; exact blkNew rfl)
      replace kb := hide (kb.out.below hb12.out kb.out.lt)
      replace ky := hide (ky.out.below hb12.out ky.out.lt)
      replace hB := hide (hB.out.trans (hb12.out.mono hB.out.size))
      replace hW2 := hide hW2
      have hq : runE S es = 0 := by
        unfold runE
        rw [if_neg (by simp [hck]), if_neg (by omega)]
      have ha := after_of hq
      have hnl := ha.nl
      have hnc := ha.nc
      have her := hide (runR_er hq)
      have hea := hide (fun (j : Nat) (hj : j < es.length) => errs_at5 hq hj)
      have hlen := hide ha.len
      have htb := hide ha.gd.time
      replace ha := hide ha
      rw [hq]
      rw [hlen.out] at heW ⊢
      go_upto_region 4 with fail
      rw [hW2.out]
      obtain ⟨ln, hln⟩ : ∃ z, x0.tmod (S.learners.length : Int) = z := ⟨_, rfl⟩
      obtain ⟨cn, hcn⟩ : ∃ z, x1.tmod (S.cars.length : Int) = z := ⟨_, rfl⟩
      obtain ⟨hm, hhm⟩ : ∃ z, x2.tmod 4 = z := ⟨_, rfl⟩
      obtain ⟨hh, hhh⟩ : ∃ z, 1 + hm = z := ⟨_, rfl⟩
      obtain ⟨frm, hfr⟩ : ∃ z, x3.tmod 4801 = z := ⟨_, rfl⟩
      have hl9 : 0 ≤ ln ∧ ln < (S.learners.length : Int) := by
        rw [← hln, Int.tmod_eq_emod_of_nonneg hx0.1]
        exact ⟨Int.emod_nonneg _ (by omega), Int.emod_lt_of_pos _ (by omega)⟩
      have hc9 : 0 ≤ cn ∧ cn < (S.cars.length : Int) := by
        rw [← hcn, Int.tmod_eq_emod_of_nonneg hx1.1]
        exact ⟨Int.emod_nonneg _ (by omega), Int.emod_lt_of_pos _ (by omega)⟩
      have hm9 : 0 ≤ hm ∧ hm < 4 := by
        rw [← hhm, Int.tmod_eq_emod_of_nonneg hx2.1]; omega
      have hf9 : 0 ≤ frm ∧ frm ≤ 4800 := by
        rw [← hfr, Int.tmod_eq_emod_of_nonneg hx3.1]; omega
      have hh9 : 1 ≤ hh ∧ hh ≤ 4 := by omega
      go_upto_region 6 with fail
      refine region_vd [IsV (.pointer (some ⟨w.heap.size + 1, 0, none⟩)), IsV (.int .u16 x0), IsV (.int .i64 x0), IsV (.pointer (some ⟨w.heap.size, 0, none⟩)), IsV (.slice L S.learners.length cl), IsV (.int .i64 S.learners.length), IsV (.int .i64 ln), IsV (.pointer (some ⟨w.heap.size + 1, 1, none⟩)), IsV (.int .u16 x1), IsV (.int .i64 x1), IsV (.pointer (some ⟨w.heap.size, 1, none⟩)), IsV (.slice C S.cars.length cc), IsV (.int .i64 S.cars.length), IsV (.int .i64 cn), IsV (.pointer (some ⟨w.heap.size + 1, 2, none⟩)), IsV (.int .u16 x2), IsV (.int .i64 x2), IsV (.int .i64 hm), IsV (.int .i64 hh), IsV (.agg #[.int .i64 0, .int .i64 0, .int .i64 ln, .int .i64 cn, .int .i64 0, .int .i64 0, .int .i64 hh, .int .i64 0, .int .i64 0, .int .i64 0, .int .i64 0]), PtrB (W2.heap.size) 65 #[.int .i64 0, .int .i64 0, .int .i64 0, .int .i64 0, .int .i64 0, .int .i64 0, .int .i64 0, .int .i64 0, .int .i64 0, .int .i64 0, .int .i64 0], TT] [TT, TT, TT, TT, TT, TT, TT, TT, TT, TT, TT, TT, TT, TT, TT, TT, TT, TT, TT, TT, PtrB (W2.heap.size) 65 #[.int .i64 0, .int .i64 0, .int .i64 ln, .int .i64 cn, .int .i64 0, .int .i64 0, .int .i64 hh, .int .i64 0, .int .i64 0, .int .i64 0, .int .i64 0], TT] [(20, 21)] [20] (by kernel_rfl) (by kernel_rfl) (by kernel_rfl) ⟨IsV.stb _, IsV.stb _, IsV.stb _, IsV.stb _, IsV.stb _, IsV.stb _, IsV.stb _, IsV.stb _, IsV.stb _, IsV.stb _, IsV.stb _, IsV.stb _, IsV.stb _, IsV.stb _, IsV.stb _, IsV.stb _, IsV.stb _, IsV.stb _, IsV.stb _, IsV.stb _, PtrB.stb _ _ _, TT.stb, trivial⟩ ⟨TT.stb, TT.stb, TT.stb, TT.stb, TT.stb, TT.stb, TT.stb, TT.stb, TT.stb, TT.stb, TT.stb, TT.stb, TT.stb, TT.stb, TT.stb, TT.stb, TT.stb, TT.stb, TT.stb, TT.stb, PtrB.stb _ _ _, TT.stb, trivial⟩ ?_ ?_ ?_
      · intro k hk b v W hv
        simp only [List.mem_cons, List.not_mem_nil, or_false] at hk
        rcases hk with rfl
        · cases b with
          | false => exact PtrB.own (show (PtrB (W2.heap.size) 65 #[.int .i64 0, .int .i64 0, .int .i64 0, .int .i64 0, .int .i64 0, .int .i64 0, .int .i64 0, .int .i64 0, .int .i64 0, .int .i64 0, .int .i64 0]) v W from hv)
          | true => exact PtrB.own (show (PtrB (W2.heap.size) 65 #[.int .i64 0, .int .i64 0, .int .i64 ln, .int .i64 cn, .int .i64 0, .int .i64 0, .int .i64 hh, .int .i64 0, .int .i64 0, .int .i64 0, .int .i64 0]) v W from hv)
      · try clear hSc
        try clear huW
        try clear hEW
        try clear hRW
        try clear hRun
        try clear heW
        try clear hxW
        try clear hlW
        try clear hkW
        try clear hsW
        try clear haW
        try clear hFi
        try clear her
        try clear hea
        try clear ha
        try clear hW
        try clear hW2
        try clear kx
        try clear hb12
        try clear hB
        try clear hlen
        try clear htb
        try clear t1
        try clear t2
        refine ⟨?_, ?_, ?_, ?_, ?_, ?_, ?_, ?_, ?_, ?_, ?_, ?_, ?_, ?_, ?_, ?_, ?_, ?_, ?_, ?_, ?_, ?_, trivial⟩
        · refine ⟨[20], by kernel_rfl, .inl ⟨by decide, ?_, fun k hk => absurd hk (lkn (by decide))⟩⟩
          · refine one_fr ?_ ?_ ?_
            · kernel_rfl
            · left; kernel_rfl
            intro Tf y W4 K Q Cv hF hC4 hd hV hK
            have t5 := hF.old 5 (.pointer (some ⟨w.heap.size + 1, 0, none⟩)) (by kernel_rfl) (by kernel_rfl)
            clear hF hd
            go_simp
            exact hK _ _ (hV _ _ hC4 (Below.refl _ _) ((VL_setL _ _ _ _ _).2 (.inr rfl)))
        · refine ⟨[20], by kernel_rfl, .inl ⟨by decide, ?_, fun k hk => absurd hk (lkn (by decide))⟩⟩
          · refine one_fr ?_ ?_ ?_
            · kernel_rfl
            · left; kernel_rfl
            intro Tf y W4 K Q Cv hF hC4 hd hV hK
            have p0 : y 0 = .pointer (some ⟨w.heap.size + 1, 0, none⟩) := ((VL_setL _ _ _ _ _).1 (deps_all hd 0 (by kernel_rfl))).resolve_left (by decide)
            have t46 := hF.get 0 46 (by kernel_rfl)
            rw [p0] at t46
            clear hF hd
            have u0 : W4.cell? ⟨w.heap.size + 1, 0, none⟩ = some (.int .u16 x0) := (ky.out.below hC4 ky.out.lt).cell 0
            go_simp
            exact hK _ _ (hV _ _ hC4 (Below.refl _ _) ((VL_setL _ _ _ _ _).2 (.inr rfl)))
        · refine ⟨[20], by kernel_rfl, .inl ⟨by decide, ?_, fun k hk => absurd hk (lkn (by decide))⟩⟩
          · refine one_fr ?_ ?_ ?_
            · kernel_rfl
            · left; kernel_rfl
            intro Tf y W4 K Q Cv hF hC4 hd hV hK
            have p1 : y 1 = .int .u16 x0 := ((VL_setL _ _ _ _ _).1 (deps_all hd 1 (by kernel_rfl))).resolve_left (by decide)
            have t47 := hF.get 1 47 (by kernel_rfl)
            rw [p1] at t47
            clear hF hd
            have fx0 : IntKind.i64.wrap x0 = x0 := by rw [IntKind.wrap_i64]; omega
            go_simp
            exact hK _ _ (hV _ _ hC4 (Below.refl _ _) ((VL_setL _ _ _ _ _).2 (.inr rfl)))
        · refine ⟨[20], by kernel_rfl, .inl ⟨by decide, ?_, fun k hk => absurd hk (lkn (by decide))⟩⟩
          · refine one_fr ?_ ?_ ?_
            · kernel_rfl
            · left; kernel_rfl
            intro Tf y W4 K Q Cv hF hC4 hd hV hK
            have t3 := hF.old 3 (.pointer (some ⟨w.heap.size, 0, none⟩)) (by kernel_rfl) (by kernel_rfl)
            clear hF hd
            go_simp
            exact hK _ _ (hV _ _ hC4 (Below.refl _ _) ((VL_setL _ _ _ _ _).2 (.inr rfl)))
        · refine ⟨[20], by kernel_rfl, .inl ⟨by decide, ?_, fun k hk => absurd hk (lkn (by decide))⟩⟩
          · refine one_fr ?_ ?_ ?_
            · kernel_rfl
            · left; kernel_rfl
            intro Tf y W4 K Q Cv hF hC4 hd hV hK
            have p3 : y 3 = .pointer (some ⟨w.heap.size, 0, none⟩) := ((VL_setL _ _ _ _ _).1 (deps_all hd 3 (by kernel_rfl))).resolve_left (by decide)
            have t49 := hF.get 3 49 (by kernel_rfl)
            rw [p3] at t49
            clear hF hd
            obtain ⟨c0, c1, c2, c3, c4, c5, c6⟩ := sch_cells (w := W4) (p := w.heap.size) (S := S) (kb.out.below hC4 kb.out.lt)
            go_simp
            exact hK _ _ (hV _ _ hC4 (Below.refl _ _) ((VL_setL _ _ _ _ _).2 (.inr rfl)))
        · refine ⟨[20], by kernel_rfl, .inl ⟨by decide, ?_, fun k hk => absurd hk (lkn (by decide))⟩⟩
          · refine one_fr ?_ ?_ ?_
            · kernel_rfl
            · left; kernel_rfl
            intro Tf y W4 K Q Cv hF hC4 hd hV hK
            have p4 : y 4 = .slice L S.learners.length cl := ((VL_setL _ _ _ _ _).1 (deps_all hd 4 (by kernel_rfl))).resolve_left (by decide)
            have t50 := hF.get 4 50 (by kernel_rfl)
            rw [p4] at t50
            clear hF hd
            go_simp
            exact hK _ _ (hV _ _ hC4 (Below.refl _ _) ((VL_setL _ _ _ _ _).2 (.inr rfl)))
        · refine ⟨[20], by kernel_rfl, .inl ⟨by decide, ?_, fun k hk => absurd hk (lkn (by decide))⟩⟩
          · refine one_fr ?_ ?_ ?_
            · kernel_rfl
            · left; kernel_rfl
            intro Tf y W4 K Q Cv hF hC4 hd hV hK
            have p2 : y 2 = .int .i64 x0 := ((VL_setL _ _ _ _ _).1 (deps_all hd 2 (by kernel_rfl))).resolve_left (by decide)
            have p5 : y 5 = .int .i64 S.learners.length := ((VL_setL _ _ _ _ _).1 (deps_all hd 5 (by kernel_rfl))).resolve_left (by decide)
            have t48 := hF.get 2 48 (by kernel_rfl)
            rw [p2] at t48
            have t51 := hF.get 5 51 (by kernel_rfl)
            rw [p5] at t51
            clear hF hd
            have fln : IntKind.i64.wrap ln = ln := by rw [IntKind.wrap_i64]; omega
            have hln := hln
            have n0 : ((S.learners.length : Int) == 0) = false := beq_eq_false_iff_ne.2 (by omega)
            have n1 : ¬ (S.learners.length : Int) = 0 := by omega
            have n2 : ¬ S.learners.length = 0 := by omega
            go_simp
            exact hK _ _ (hV _ _ hC4 (Below.refl _ _) ((VL_setL _ _ _ _ _).2 (.inr rfl)))
        · refine ⟨[20], by kernel_rfl, .inl ⟨by decide, ?_, fun k hk => absurd hk (lkn (by decide))⟩⟩
          · refine one_fr ?_ ?_ ?_
            · kernel_rfl
            · left; kernel_rfl
            intro Tf y W4 K Q Cv hF hC4 hd hV hK
            have t5 := hF.old 5 (.pointer (some ⟨w.heap.size + 1, 0, none⟩)) (by kernel_rfl) (by kernel_rfl)
            clear hF hd
            go_simp
            exact hK _ _ (hV _ _ hC4 (Below.refl _ _) ((VL_setL _ _ _ _ _).2 (.inr rfl)))
        · refine ⟨[20], by kernel_rfl, .inl ⟨by decide, ?_, fun k hk => absurd hk (lkn (by decide))⟩⟩
          · refine one_fr ?_ ?_ ?_
            · kernel_rfl
            · left; kernel_rfl
            intro Tf y W4 K Q Cv hF hC4 hd hV hK
            have p7 : y 7 = .pointer (some ⟨w.heap.size + 1, 1, none⟩) := ((VL_setL _ _ _ _ _).1 (deps_all hd 7 (by kernel_rfl))).resolve_left (by decide)
            have t53 := hF.get 7 53 (by kernel_rfl)
            rw [p7] at t53
            clear hF hd
            have u1 : W4.cell? ⟨w.heap.size + 1, 1, none⟩ = some (.int .u16 x1) := (ky.out.below hC4 ky.out.lt).cell 1
            go_simp
            exact hK _ _ (hV _ _ hC4 (Below.refl _ _) ((VL_setL _ _ _ _ _).2 (.inr rfl)))
        · refine ⟨[20], by kernel_rfl, .inl ⟨by decide, ?_, fun k hk => absurd hk (lkn (by decide))⟩⟩
          · refine one_fr ?_ ?_ ?_
            · kernel_rfl
            · left; kernel_rfl
            intro Tf y W4 K Q Cv hF hC4 hd hV hK
            have p8 : y 8 = .int .u16 x1 := ((VL_setL _ _ _ _ _).1 (deps_all hd 8 (by kernel_rfl))).resolve_left (by decide)
            have t54 := hF.get 8 54 (by kernel_rfl)
            rw [p8] at t54
            clear hF hd
            have fx1 : IntKind.i64.wrap x1 = x1 := by rw [IntKind.wrap_i64]; omega
            go_simp
            exact hK _ _ (hV _ _ hC4 (Below.refl _ _) ((VL_setL _ _ _ _ _).2 (.inr rfl)))
        · refine ⟨[20], by kernel_rfl, .inl ⟨by decide, ?_, fun k hk => absurd hk (lkn (by decide))⟩⟩
          · refine one_fr ?_ ?_ ?_
            · kernel_rfl
            · left; kernel_rfl
            intro Tf y W4 K Q Cv hF hC4 hd hV hK
            have t3 := hF.old 3 (.pointer (some ⟨w.heap.size, 0, none⟩)) (by kernel_rfl) (by kernel_rfl)
            clear hF hd
            go_simp
            exact hK _ _ (hV _ _ hC4 (Below.refl _ _) ((VL_setL _ _ _ _ _).2 (.inr rfl)))
        · refine ⟨[20], by kernel_rfl, .inl ⟨by decide, ?_, fun k hk => absurd hk (lkn (by decide))⟩⟩
          · refine one_fr ?_ ?_ ?_
            · kernel_rfl
            · left; kernel_rfl
            intro Tf y W4 K Q Cv hF hC4 hd hV hK
            have p10 : y 10 = .pointer (some ⟨w.heap.size, 1, none⟩) := ((VL_setL _ _ _ _ _).1 (deps_all hd 10 (by kernel_rfl))).resolve_left (by decide)
            have t56 := hF.get 10 56 (by kernel_rfl)
            rw [p10] at t56
            clear hF hd
            obtain ⟨c0, c1, c2, c3, c4, c5, c6⟩ := sch_cells (w := W4) (p := w.heap.size) (S := S) (kb.out.below hC4 kb.out.lt)
            go_simp
            exact hK _ _ (hV _ _ hC4 (Below.refl _ _) ((VL_setL _ _ _ _ _).2 (.inr rfl)))
        · refine ⟨[20], by kernel_rfl, .inl ⟨by decide, ?_, fun k hk => absurd hk (lkn (by decide))⟩⟩
          · refine one_fr ?_ ?_ ?_
            · kernel_rfl
            · left; kernel_rfl
            intro Tf y W4 K Q Cv hF hC4 hd hV hK
            have p11 : y 11 = .slice C S.cars.length cc := ((VL_setL _ _ _ _ _).1 (deps_all hd 11 (by kernel_rfl))).resolve_left (by decide)
            have t57 := hF.get 11 57 (by kernel_rfl)
            rw [p11] at t57
            clear hF hd
            go_simp
            exact hK _ _ (hV _ _ hC4 (Below.refl _ _) ((VL_setL _ _ _ _ _).2 (.inr rfl)))
        · refine ⟨[20], by kernel_rfl, .inl ⟨by decide, ?_, fun k hk => absurd hk (lkn (by decide))⟩⟩
          · refine one_fr ?_ ?_ ?_
            · kernel_rfl
            · left; kernel_rfl
            intro Tf y W4 K Q Cv hF hC4 hd hV hK
            have p9 : y 9 = .int .i64 x1 := ((VL_setL _ _ _ _ _).1 (deps_all hd 9 (by kernel_rfl))).resolve_left (by decide)
            have p12 : y 12 = .int .i64 S.cars.length := ((VL_setL _ _ _ _ _).1 (deps_all hd 12 (by kernel_rfl))).resolve_left (by decide)
            have t55 := hF.get 9 55 (by kernel_rfl)
            rw [p9] at t55
            have t58 := hF.get 12 58 (by kernel_rfl)
            rw [p12] at t58
            clear hF hd
            have fcn : IntKind.i64.wrap cn = cn := by rw [IntKind.wrap_i64]; omega
            have n0 : ((S.cars.length : Int) == 0) = false := beq_eq_false_iff_ne.2 (by omega)
            have n1 : ¬ (S.cars.length : Int) = 0 := by omega
            have n2 : ¬ S.cars.length = 0 := by omega
            go_simp
            exact hK _ _ (hV _ _ hC4 (Below.refl _ _) ((VL_setL _ _ _ _ _).2 (.inr rfl)))
        · refine ⟨[20], by kernel_rfl, .inl ⟨by decide, ?_, fun k hk => absurd hk (lkn (by decide))⟩⟩
          · refine one_fr ?_ ?_ ?_
            · kernel_rfl
            · left; kernel_rfl
            intro Tf y W4 K Q Cv hF hC4 hd hV hK
            have t5 := hF.old 5 (.pointer (some ⟨w.heap.size + 1, 0, none⟩)) (by kernel_rfl) (by kernel_rfl)
            clear hF hd
            go_simp
            exact hK _ _ (hV _ _ hC4 (Below.refl _ _) ((VL_setL _ _ _ _ _).2 (.inr rfl)))
        · refine ⟨[20], by kernel_rfl, .inl ⟨by decide, ?_, fun k hk => absurd hk (lkn (by decide))⟩⟩
          · refine one_fr ?_ ?_ ?_
            · kernel_rfl
            · left; kernel_rfl
            intro Tf y W4 K Q Cv hF hC4 hd hV hK
            have p14 : y 14 = .pointer (some ⟨w.heap.size + 1, 2, none⟩) := ((VL_setL _ _ _ _ _).1 (deps_all hd 14 (by kernel_rfl))).resolve_left (by decide)
            have t60 := hF.get 14 60 (by kernel_rfl)
            rw [p14] at t60
            clear hF hd
            have u2 : W4.cell? ⟨w.heap.size + 1, 2, none⟩ = some (.int .u16 x2) := (ky.out.below hC4 ky.out.lt).cell 2
            go_simp
            exact hK _ _ (hV _ _ hC4 (Below.refl _ _) ((VL_setL _ _ _ _ _).2 (.inr rfl)))
        · refine ⟨[20], by kernel_rfl, .inl ⟨by decide, ?_, fun k hk => absurd hk (lkn (by decide))⟩⟩
          · refine one_fr ?_ ?_ ?_
            · kernel_rfl
            · left; kernel_rfl
            intro Tf y W4 K Q Cv hF hC4 hd hV hK
            have p15 : y 15 = .int .u16 x2 := ((VL_setL _ _ _ _ _).1 (deps_all hd 15 (by kernel_rfl))).resolve_left (by decide)
            have t61 := hF.get 15 61 (by kernel_rfl)
            rw [p15] at t61
            clear hF hd
            have fx2 : IntKind.i64.wrap x2 = x2 := by rw [IntKind.wrap_i64]; omega
            go_simp
            exact hK _ _ (hV _ _ hC4 (Below.refl _ _) ((VL_setL _ _ _ _ _).2 (.inr rfl)))
        · refine ⟨[20], by kernel_rfl, .inl ⟨by decide, ?_, fun k hk => absurd hk (lkn (by decide))⟩⟩
          · refine one_fr ?_ ?_ ?_
            · kernel_rfl
            · left; kernel_rfl
            intro Tf y W4 K Q Cv hF hC4 hd hV hK
            have p16 : y 16 = .int .i64 x2 := ((VL_setL _ _ _ _ _).1 (deps_all hd 16 (by kernel_rfl))).resolve_left (by decide)
            have t62 := hF.get 16 62 (by kernel_rfl)
            rw [p16] at t62
            clear hF hd
            have fhm : IntKind.i64.wrap hm = hm := by rw [IntKind.wrap_i64]; omega
            go_simp
            exact hK _ _ (hV _ _ hC4 (Below.refl _ _) ((VL_setL _ _ _ _ _).2 (.inr rfl)))
        · refine ⟨[20], by kernel_rfl, .inl ⟨by decide, ?_, fun k hk => absurd hk (lkn (by decide))⟩⟩
          · refine one_fr ?_ ?_ ?_
            · kernel_rfl
            · left; kernel_rfl
            intro Tf y W4 K Q Cv hF hC4 hd hV hK
            have p17 : y 17 = .int .i64 hm := ((VL_setL _ _ _ _ _).1 (deps_all hd 17 (by kernel_rfl))).resolve_left (by decide)
            have t63 := hF.get 17 63 (by kernel_rfl)
            rw [p17] at t63
            clear hF hd
            have fhh : IntKind.i64.wrap hh = hh := by rw [IntKind.wrap_i64]; omega
            go_simp
            exact hK _ _ (hV _ _ hC4 (Below.refl _ _) ((VL_setL _ _ _ _ _).2 (.inr rfl)))
        · refine ⟨[20], by kernel_rfl, .inl ⟨by decide, ?_, fun k hk => absurd hk (lkn (by decide))⟩⟩
          · refine one_fr ?_ ?_ ?_
            · kernel_rfl
            · left; kernel_rfl
            intro Tf y W4 K Q Cv hF hC4 hd hV hK
            have p6 : y 6 = .int .i64 ln := ((VL_setL _ _ _ _ _).1 (deps_all hd 6 (by kernel_rfl))).resolve_left (by decide)
            have p13 : y 13 = .int .i64 cn := ((VL_setL _ _ _ _ _).1 (deps_all hd 13 (by kernel_rfl))).resolve_left (by decide)
            have p18 : y 18 = .int .i64 hh := ((VL_setL _ _ _ _ _).1 (deps_all hd 18 (by kernel_rfl))).resolve_left (by decide)
            have t52 := hF.get 6 52 (by kernel_rfl)
            rw [p6] at t52
            have tt52 := t52
            rw [Array.getD_eq_getD_getElem?] at tt52
            have t59 := hF.get 13 59 (by kernel_rfl)
            rw [p13] at t59
            have tt59 := t59
            rw [Array.getD_eq_getD_getElem?] at tt59
            have t64 := hF.get 18 64 (by kernel_rfl)
            rw [p18] at t64
            have tt64 := t64
            rw [Array.getD_eq_getD_getElem?] at tt64
            clear hF hd
            go_simp
            exact hK _ _ (hV _ _ hC4 (Below.refl _ _) ((VL_setL _ _ _ _ _).2 (.inr rfl)))
        · refine ⟨[], by kernel_rfl, .inr (.inr ⟨?_, fun k hk => absurd hk (lkn (by decide))⟩)⟩
          · refine al_fr ?_ ?_ ?_
            · kernel_rfl
            · kernel_rfl
            intro Tf y W4 K Q Cv hF hC4 hV hK
            clear hF
            go_simp
            exact hK _ _ (hV _ _ (hC4.alloc hC4.size _) ((Below.refl _ _).alloc (Nat.le_refl _) _) ⟨W4.heap.size, rfl, hC4.size, blkNew rfl⟩ rfl)
        · refine ⟨[], by kernel_rfl, .inr (.inl ⟨by decide, fun y u u' => ∃ g, y 20 = .pointer (some ⟨g, 0, none⟩) ∧ W2.heap.size ≤ g ∧ Stored g u u' ∧ Blk u' g 65 #[.int .i64 0, .int .i64 0, .int .i64 ln, .int .i64 cn, .int .i64 0, .int .i64 0, .int .i64 hh, .int .i64 0, .int .i64 0, .int .i64 0, .int .i64 0], ?_, ?_⟩)⟩
          · refine ones_fr ?_ ?_ ?_
            · kernel_rfl
            · kernel_rfl
            intro Tf y W4 K Q Cv hF hC4 hd hV hK
            obtain ⟨g, eg, hg, hz⟩ : (PtrB (W2.heap.size) 65 #[.int .i64 0, .int .i64 0, .int .i64 0, .int .i64 0, .int .i64 0, .int .i64 0, .int .i64 0, .int .i64 0, .int .i64 0, .int .i64 0, .int .i64 0]) (y 20) W4 := ((VL_setL _ _ _ _ _).1 (deps_all hd 20 (by kernel_rfl))).resolve_left (by decide)
            have p19 : y 19 = .agg #[.int .i64 0, .int .i64 0, .int .i64 ln, .int .i64 cn, .int .i64 0, .int .i64 0, .int .i64 hh, .int .i64 0, .int .i64 0, .int .i64 0, .int .i64 0] := ((VL_setL _ _ _ _ _).1 (deps_all hd 19 (by kernel_rfl))).resolve_left (by decide)
            have t10 := hF.get 20 10 (by kernel_rfl)
            have t65 := hF.get 19 65 (by kernel_rfl)
            rw [eg] at t10
            rw [p19] at t65
            have b0 : W4.cell? ⟨g, 0, none⟩ = some (.int .i64 0) := hz.cell 0
            have b1 : W4.cell? ⟨g, 1, none⟩ = some (.int .i64 0) := hz.cell 1
            have b2 : W4.cell? ⟨g, 2, none⟩ = some (.int .i64 0) := hz.cell 2
            have b3 : W4.cell? ⟨g, 3, none⟩ = some (.int .i64 0) := hz.cell 3
            have b4 : W4.cell? ⟨g, 4, none⟩ = some (.int .i64 0) := hz.cell 4
            have b5 : W4.cell? ⟨g, 5, none⟩ = some (.int .i64 0) := hz.cell 5
            have b6 : W4.cell? ⟨g, 6, none⟩ = some (.int .i64 0) := hz.cell 6
            have b7 : W4.cell? ⟨g, 7, none⟩ = some (.int .i64 0) := hz.cell 7
            have b8 : W4.cell? ⟨g, 8, none⟩ = some (.int .i64 0) := hz.cell 8
            have b9 : W4.cell? ⟨g, 9, none⟩ = some (.int .i64 0) := hz.cell 9
            have b10 : W4.cell? ⟨g, 10, none⟩ = some (.int .i64 0) := hz.cell 10
            have z0 := hz.frozen 0
            have z1 := hz.frozen 1
            have z2 := hz.frozen 2
            have z3 := hz.frozen 3
            have z4 := hz.frozen 4
            have z5 := hz.frozen 5
            have z6 := hz.frozen 6
            have z7 := hz.frozen 7
            have z8 := hz.frozen 8
            have z9 := hz.frozen 9
            have z10 := hz.frozen 10
            obtain ⟨k1, k2⟩ := stored_put hz [.int .i64 0, .int .i64 0, .int .i64 ln, .int .i64 cn, .int .i64 0, .int .i64 0, .int .i64 hh, .int .i64 0, .int .i64 0, .int .i64 0, .int .i64 0] rfl
            clear hF hd
            go_simp
            exact hK undef _ (hV undef _ (hC4.trans (k1.below hg)) ⟨g, eg, hg, k1, k2⟩ ((VL_setL _ _ _ _ _).2 (.inr trivial)))
          · rintro y u u' k b hk ha - ⟨g, eg, hg, hS, k2⟩ hv hne hb hj hj2
            match k, hk, ha, hv, hne, hb with
            | 0, _, _, hv, _, _ => exact (by cases b with | false => exact (show (IsV (.pointer (some ⟨w.heap.size + 1, 0, none⟩))) (y 0) u' from hv) | true => exact trivial)
            | 1, _, _, hv, _, _ => exact (by cases b with | false => exact (show (IsV (.int .u16 x0)) (y 1) u' from hv) | true => exact trivial)
            | 2, _, _, hv, _, _ => exact (by cases b with | false => exact (show (IsV (.int .i64 x0)) (y 2) u' from hv) | true => exact trivial)
            | 3, _, _, hv, _, _ => exact (by cases b with | false => exact (show (IsV (.pointer (some ⟨w.heap.size, 0, none⟩))) (y 3) u' from hv) | true => exact trivial)
            | 4, _, _, hv, _, _ => exact (by cases b with | false => exact (show (IsV (.slice L S.learners.length cl)) (y 4) u' from hv) | true => exact trivial)
            | 5, _, _, hv, _, _ => exact (by cases b with | false => exact (show (IsV (.int .i64 S.learners.length)) (y 5) u' from hv) | true => exact trivial)
            | 6, _, _, hv, _, _ => exact (by cases b with | false => exact (show (IsV (.int .i64 ln)) (y 6) u' from hv) | true => exact trivial)
            | 7, _, _, hv, _, _ => exact (by cases b with | false => exact (show (IsV (.pointer (some ⟨w.heap.size + 1, 1, none⟩))) (y 7) u' from hv) | true => exact trivial)
            | 8, _, _, hv, _, _ => exact (by cases b with | false => exact (show (IsV (.int .u16 x1)) (y 8) u' from hv) | true => exact trivial)
            | 9, _, _, hv, _, _ => exact (by cases b with | false => exact (show (IsV (.int .i64 x1)) (y 9) u' from hv) | true => exact trivial)
            | 10, _, _, hv, _, _ => exact (by cases b with | false => exact (show (IsV (.pointer (some ⟨w.heap.size, 1, none⟩))) (y 10) u' from hv) | true => exact trivial)
            | 11, _, _, hv, _, _ => exact (by cases b with | false => exact (show (IsV (.slice C S.cars.length cc)) (y 11) u' from hv) | true => exact trivial)
            | 12, _, _, hv, _, _ => exact (by cases b with | false => exact (show (IsV (.int .i64 S.cars.length)) (y 12) u' from hv) | true => exact trivial)
            | 13, _, _, hv, _, _ => exact (by cases b with | false => exact (show (IsV (.int .i64 cn)) (y 13) u' from hv) | true => exact trivial)
            | 14, _, _, hv, _, _ => exact (by cases b with | false => exact (show (IsV (.pointer (some ⟨w.heap.size + 1, 2, none⟩))) (y 14) u' from hv) | true => exact trivial)
            | 15, _, _, hv, _, _ => exact (by cases b with | false => exact (show (IsV (.int .u16 x2)) (y 15) u' from hv) | true => exact trivial)
            | 16, _, _, hv, _, _ => exact (by cases b with | false => exact (show (IsV (.int .i64 x2)) (y 16) u' from hv) | true => exact trivial)
            | 17, _, _, hv, _, _ => exact (by cases b with | false => exact (show (IsV (.int .i64 hm)) (y 17) u' from hv) | true => exact trivial)
            | 18, _, _, hv, _, _ => exact (by cases b with | false => exact (show (IsV (.int .i64 hh)) (y 18) u' from hv) | true => exact trivial)
            | 19, _, _, hv, _, _ => exact (by cases b with | false => exact (show (IsV (.agg #[.int .i64 0, .int .i64 0, .int .i64 ln, .int .i64 cn, .int .i64 0, .int .i64 0, .int .i64 hh, .int .i64 0, .int .i64 0, .int .i64 0, .int .i64 0])) (y 19) u' from hv) | true => exact trivial)
            | 20, _, _, _, _, hb => exact (by obtain rfl := hb rfl; exact (show (PtrB (W2.heap.size) 65 #[.int .i64 0, .int .i64 0, .int .i64 ln, .int .i64 cn, .int .i64 0, .int .i64 0, .int .i64 hh, .int .i64 0, .int .i64 0, .int .i64 0, .int .i64 0]) (y 20) u' from ⟨g, eg, hg, k2⟩))
            | 21, hk, _, _, _, _ => exact absurd rfl hk
            | k + 22, _, _, _, _, _ => cases b <;> cases decide (List.lookup (k + 22) _ = some 21) <;> trivial
      intro y W6 hC6 hE hD
      have e20 : (PtrB (W2.heap.size) 65 #[.int .i64 0, .int .i64 0, .int .i64 ln, .int .i64 cn, .int .i64 0, .int .i64 0, .int .i64 hh, .int .i64 0, .int .i64 0, .int .i64 0, .int .i64 0]) (y 20) W6 := hE 20 (of_decide_eq_true (by kernel_rfl))
      clear hE hD
      obtain ⟨gy, f20, hgy, kv⟩ := e20
      simp only [putAll, Act.put]
      simp only [List.setIfInBounds_toArray, List.set_cons_succ, List.set_cons_zero]
      rw [f20]
      clear f20
      have hBv := hide hC6
      replace kv := hide kv
      have htm0 : (bk S es 0).time = 0 := rfl
      replace htm0 := hide htm0
      have y3 : W6.cell? ⟨w.heap.size + 1, 3, none⟩ = some (.int .u16 x3) := (ky.out.below hC6 ky.out.lt).cell 3
      have f1 : IntKind.i64.wrap x3 = x3 := by rw [IntKind.wrap_i64]; omega
      have f2 : IntKind.i64.wrap frm = frm := by rw [IntKind.wrap_i64]; omega
      have hfA : A = none → ce = 0 := fun h => hEn es.length ce (by rw [h])
      replace hfA := hide hfA
      clear hEn
      replace hln := hide hln
      replace hcn := hide hcn
      replace hhm := hide hhm
      replace hhh := hide hhh
      clear hC6
      go_wp2
      clear y3 f1 f2
      replace hfr := hide hfr
      go_loopg [12] es.length (fun gg s12 wr => ∃ j : Nat, j ≤ es.length ∧ es.length ≤ gg + j ∧ s12 = .int .i64 j ∧ Hid (Blk wr gy 65 #[.int .i64 0, .int .i64 (bk S es j).time, .int .i64 ln, .int .i64 cn, .int .i64 0, .int .i64 0, .int .i64 hh, .int .i64 0, .int .i64 0, .int .i64 0, .int .i64 0]) ∧ Hid (Below W2.heap.size W2 wr))
      case atStart => exact ⟨0, Nat.zero_le _, by omega, rfl, by rw [htm0.out]; exact kv.out, hBv.out⟩
      case round =>
        clear kv hBv
        obtain ⟨j, hj, hgg, rfl, kv, hBv⟩ := hrel
        have hBw := hide (hB.out.trans (hBv.out.mono hB.out.size))
        have hbxv := hide (hb12.out.trans (hBv.out.mono hb12.out.size))
        by_cases hlt : j < es.length
        · have hltz : (j : Int) < (es.length : Int) := by omega
          have hj0 : (0 : Int) ≤ (j : Int) := by omega
          obtain ⟨be, oe, rfl, hbe, -, d1, -, -, -, -, -, -, -, -, -⟩ := ev_row (hEW.out _ hBw.out) hlt
          obtain ⟨ge, oe2, rfl, hge, m0⟩ := int_read (heW.out _ hbxv.out) (by rw [hlen.out]; exact hlt)
          rw [hea.out j hlt] at m0
          have htm := bk_time S es hlt
          have k1 : wr.cell? ⟨gy, 1, none⟩ = some (.int .i64 (bk S es j).time) := kv.out.cell 1
          have z1 := kv.out.frozen 1
          generalize errAt S es j = er at *
          generalize (es[j]?.getD default).at_ = xat at *
          by_cases h0 : er = 0
          · rw [if_pos h0] at htm
            subst h0
            have kv2 := hide (show Blk (wr.setCell ⟨gy, 1, none⟩ (.int .i64 xat)) gy 65 #[.int .i64 0, .int .i64 (bk S es (j + 1)).time, .int .i64 ln, .int .i64 cn, .int .i64 0, .int .i64 0, .int .i64 hh, .int .i64 0, .int .i64 0, .int .i64 0, .int .i64 0] from by rw [htm]; exact kv.out.set_ 1 (.int .i64 xat))
            have hBv2 := hide (hBv.out.setCell (p := ⟨gy, 1, none⟩) hgy (.int .i64 xat))
            replace htm := hide htm
            go_wp2
            clear k1 z1 d1 m0
            go_roundg (es.length - (j + 1))
            case measure => omega
            case rel => exact ⟨j + 1, by omega, by omega, by go_num, kv2.out, hBv2.out⟩
          · rw [if_neg h0] at htm
            have b0 : (er == 0) = false := beq_eq_false_iff_ne.2 h0
            replace h0 := hide h0
            replace htm := hide htm
            go_wp2
            clear k1 z1 d1 m0
            go_roundg (es.length - (j + 1))
            case measure => omega
            case rel => exact ⟨j + 1, by omega, by omega, by go_num, by rw [htm.out]; exact kv.out, hBv.out⟩
        · have hltz : ¬ (j : Int) < (es.length : Int) := by omega
          obtain rfl : j = es.length := by omega
          rw [← her.out.2] at kv
          generalize wr = wv at *
          have hbk := hide (fun st (h : 0 ≤ st ∧ st ≤ 4800) => book_err (st := st) hq (by omega) hl9 hc9 h hh9)
          have hfo := firstH_ok (S := S) (b := (runR S es).2) (learner := ln) (car := cn) (hours := hh) (4801 - frm).toNat frm
          rw [← first_eq hq hl9 hc9 hf9 hh9] at hfo
          have hfi := hFi.out ln cn frm hh wv hBw.out
          generalize firstF S es ln cn frm hh = fq at *
          obtain ⟨fh, fe⟩ := fq
          obtain ⟨tm, htm⟩ : ∃ t, (runR S es).2.time = t := ⟨_, rfl⟩
          rw [htm] at kv hbk hfo htb
          replace htm := hide htm
          replace hfi := hide hfi
          have kbv := hide (kb.out.below hBv.out kb.out.lt)
          have kyv := hide (ky.out.below hBv.out ky.out.lt)
          obtain ⟨c0, c1, c2, c3, c4, c5, c6⟩ := sch_cells (w := wv) (p := w.heap.size) (S := S) kbv.out
          have k2 : wv.cell? ⟨gy, 2, none⟩ = some (.int .i64 ln) := kv.out.cell 2
          have k3 : wv.cell? ⟨gy, 3, none⟩ = some (.int .i64 cn) := kv.out.cell 3
          have k6 : wv.cell? ⟨gy, 6, none⟩ = some (.int .i64 hh) := kv.out.cell 6
          replace hfo := hide hfo
          replace hl9 := hide hl9
          replace hc9 := hide hc9
          replace hh9 := hide hh9
          replace hm9 := hide hm9
          go_wp2_with fail
          refine hfi.out.mono ?_
          rintro e wF ⟨rfl, hb⟩
          have hBF := hide (hBv.out.trans (hb.mono hBv.out.size))
          have kbF := hide (kbv.out.below hb kbv.out.lt)
          have kyF := hide (kyv.out.below hb kyv.out.lt)
          have kvF := hide (kv.out.below hb kv.out.lt)
          clear hb hfi c0 c1 c2 c3 c4 c5 c6 k2 k3 k6 kbv kyv kv hBv hBw hbxv
          rcases hfo.out with ⟨e1, ⟨e2, e3⟩, e4, e5⟩ | ⟨e1, e2, e5⟩
          · subst e1
            have e3' : fh ≤ 4800 := by omega
            replace e3 := hide e3
            replace e4 := hide e4
            replace e5 := hide e5
            have s1 : decide (fh < frm) = false := decide_eq_false (by omega)
            have k5 : wF.cell? ⟨gy, 5, none⟩ = some (.int .i64 0) := kvF.out.cell 5
            have z5 := kvF.out.frozen 5
            obtain ⟨WG, hWG⟩ : ∃ z, wF.setCell ⟨gy, 5, none⟩ (.int .i64 fh) = z := ⟨_, rfl⟩
            have hBG := hide (show Below W2.heap.size W2 WG by rw [← hWG]; exact hBF.out.setCell (p := ⟨gy, 5, none⟩) hgy (.int .i64 fh))
            have kvG := hide (show Blk WG gy 65 #[.int .i64 0, .int .i64 tm, .int .i64 ln, .int .i64 cn, .int .i64 0, .int .i64 fh, .int .i64 hh, .int .i64 0, .int .i64 0, .int .i64 0, .int .i64 0] by rw [← hWG]; exact kvF.out.set_ 5 (.int .i64 fh))
            have kbG := hide (show Blk WG w.heap.size 28 _ by rw [← hWG]; exact kbF.out.far (p := ⟨gy, 5, none⟩) (by have := kb.out.lt; show w.heap.size ≠ gy; omega) (.int .i64 fh))
            have kyG := hide (show Blk WG (w.heap.size + 1) 77 _ by rw [← hWG]; exact kyF.out.far (p := ⟨gy, 5, none⟩) (by have := ky.out.lt; show w.heap.size + 1 ≠ gy; omega) (.int .i64 fh))
            replace hWG := hide hWG
            go_upto_region 21 with fail
            rw [hWG.out]
            clear k5 z5 kvF kbF kyF hBF
            obtain ⟨yv21, hyv21⟩ : ∃ e : BEv, (⟨0, tm, ln, cn, 0, fh, hh, 0, 0, 0, 0⟩ : BEv) = e := ⟨_, rfl⟩
            obtain ⟨hq21, her21⟩ := hbk.out fh (by omega)
            rw [hyv21] at hq21 her21
            have kw21 := hide (show Blk WG gy 65 (evCells yv21).toArray by rw [← hyv21]; exact kvG.out)
            have hBw21 := hide (hB.out.trans (hBG.out.mono hB.out.size))
            have hRT21 := hide (fun v W' (hb : Below WG.heap.size WG W') (h : NewV (es ++ [yv21]) v W') => (Run_k _ v S (es ++ [yv21]) W' (hSc.out W' (hBw21.out.trans (hb.mono hBw21.out.size))) h).mono (R' := fun e w' => (∃ v, e = .returned v ∧ RunQ 0 (runR S (es ++ [yv21])).1 (runR S (es ++ [yv21])).2 v w') ∧ Below W'.heap.size W' w') (by
              rintro e w' ⟨⟨v1, v2, rfl, h1, h2⟩, h3⟩
              rw [hq21]
              exact ⟨⟨_, rfl, v1, v2, rfl, h1, h2⟩, h3⟩))
            have hEvR21 := hide (fun W' (hb : Below WG.heap.size WG W') => hEW.out W' (hBw21.out.trans (hb.mono hBw21.out.size)))
            have hfA2 := hfA.out
            replace hyv21 := hide hyv21
            replace hq21 := hide hq21
            replace her21 := hide her21
            refine region_va [IsV (.agg #[.slice L S.learners.length cl, .slice C S.cars.length cc, .int .i64 S.price, .int .i64 S.excess, .int .i64 S.lo, .int .i64 S.hi, .slice T S.terms.length ct]), EmpV (WG.heap.size), IsV (.slice A es.length ce), RowV (WG.heap.size) es, IsV (.agg #[.int .i64 yv21.kind, .int .i64 yv21.at_, .int .i64 yv21.learner, .int .i64 yv21.car, .int .i64 yv21.booking, .int .i64 yv21.start, .int .i64 yv21.hours, .int .i64 yv21.day, .int .i64 yv21.weather, .int .i64 yv21.km, .int .i64 yv21.cents]), OneV (WG.heap.size) yv21, NewV (es ++ [yv21]), RunQ (0) (runR S (es ++ [yv21])).1 (runR S (es ++ [yv21])).2, RunQ (0) (runR S (es ++ [yv21])).1 (runR S (es ++ [yv21])).2, IsInts (runR S (es ++ [yv21])).1, IsState (runR S (es ++ [yv21])).2, IsV (.int .i64 (0)), VarZ (WG.heap.size), IsInts (runR S (es ++ [yv21])).1, TT, IsV (.int .i64 (0))] [TT, TT, TT, TT, TT, TT, TT, TT, TT, TT, TT, TT, VarS (WG.heap.size) (runR S (es ++ [yv21])).2, TT, TT, TT] [(1, 3), (3, 6), (5, 6), (12, 14)] (by kernel_rfl) (by kernel_rfl) (by kernel_rfl) ⟨IsV.stb _, EmpV.stb _, IsV.stb _, RowV.stb _ _, IsV.stb _, OneV.stb _ _, NewV.stb _, RunQ.stb _ _ _, RunQ.stb _ _ _, Ints.stb _, State.stb _, IsV.stb _, VarZ.stb _, Ints.stb _, TT.stb, IsV.stb _, trivial⟩ ⟨TT.stb, TT.stb, TT.stb, TT.stb, TT.stb, TT.stb, TT.stb, TT.stb, TT.stb, TT.stb, TT.stb, TT.stb, VarS.stb _ _, TT.stb, TT.stb, TT.stb, trivial⟩ ?_ ?_
            · try clear hSc
              try clear huW
              try clear hEW
              try clear hRW
              try clear heW
              try clear hxW
              try clear hlW
              try clear hkW
              try clear hsW
              try clear haW
              try clear hW
              try clear hW2
              try clear kx
              try clear hB
              try clear hb12
              try clear hFi
              try clear her
              try clear hea
              try clear ha
              try clear hfo
              try clear hbk
              try clear hlen
              try clear htb
              try clear hl9
              try clear hc9
              try clear hh9
              try clear hm9
              try clear hln
              try clear hcn
              try clear hhm
              try clear hhh
              try clear hfr
              try clear hea
              try clear ky
              try clear kyF
              try clear kyG
              refine ⟨?_, ?_, ?_, ?_, ?_, ?_, ?_, ?_, ?_, ?_, ?_, ?_, ?_, ?_, ?_, ?_, trivial⟩
              · refine ⟨[1, 3, 5, 12], by kernel_rfl, .inl ⟨?_, fun k hk => absurd hk (lk4 (by decide) (by decide) (by decide))⟩⟩
                · refine one_fr ?_ ?_ ?_
                  · kernel_rfl
                  · left; kernel_rfl
                  intro Tf y W4 K Q Cv hF hC4 hd hV hK
                  clear hd
                  have t3 := hF.old 3 (.pointer (some ⟨w.heap.size, 0, none⟩)) (by kernel_rfl) (by kernel_rfl)
                  clear hF
                  obtain ⟨c0, c1, c2, c3, c4, c5, c6⟩ := sch_cells (w := W4) (p := w.heap.size) (S := S) (kbG.out.below hC4 kbG.out.lt)
                  go_simp
                  exact hK _ _ (hV _ _ hC4 (Below.refl _ _) ((VL_setL _ _ _ _ _).2 (.inr rfl)))
              · refine ⟨[3, 5, 12], by kernel_rfl, .inl ⟨?_, fun k hk => absurd hk (lk4 (by decide) (by decide) (by decide))⟩⟩
                · refine one_fr ?_ ?_ ?_
                  · kernel_rfl
                  · left; kernel_rfl
                  intro Tf y W4 K Q Cv hF hC4 hd hV hK
                  clear hF hd
                  refine wp_mk0 rfl rfl mk0_ev ?_
                  exact hK _ _ (hV _ _ (hC4.alloc hC4.size _) ((Below.refl _ _).alloc (Nat.le_refl _) _) ((VL_setL _ _ _ _ _).2 (.inr ⟨W4.heap.size, rfl, hC4.size, blkNew rfl⟩)))
              · refine ⟨[1, 3, 5, 12], by kernel_rfl, .inl ⟨?_, fun k hk => absurd hk (lk4 (by decide) (by decide) (by decide))⟩⟩
                · refine one_fr ?_ ?_ ?_
                  · kernel_rfl
                  · left; kernel_rfl
                  intro Tf y W4 K Q Cv hF hC4 hd hV hK
                  clear hd
                  have t1 := hF.old 1 (.slice A es.length ce) (by kernel_rfl) (by kernel_rfl)
                  clear hF
                  go_simp
                  exact hK _ _ (hV _ _ hC4 (Below.refl _ _) ((VL_setL _ _ _ _ _).2 (.inr rfl)))
              · refine ⟨[5, 12], by kernel_rfl, .inr ⟨fun y u u' => Sp1 (WG.heap.size) (y 1) u u', ?_, ?_⟩⟩
                · refine ones_fr ?_ ?_ ?_
                  · kernel_rfl
                  · kernel_rfl
                  intro Tf y W4 K Q Cv hF hC4 hd hV hK
                  have p1 : (EmpV (WG.heap.size)) (y 1) W4 := ((VL_setL _ _ _ _ _).1 (deps_all hd 1 (by kernel_rfl))).resolve_left (by decide)
                  have p2 : (IsV (.slice A es.length ce)) (y 2) W4 := ((VL_setL _ _ _ _ _).1 (deps_all hd 2 (by kernel_rfl))).resolve_left (by decide)
                  replace p2 : y 2 = .slice A es.length ce := p2
                  have t116 := hF.get 1 116 (by kernel_rfl)
                  have t117 := hF.get 2 117 (by kernel_rfl)
                  rw [p2] at t117
                  clear hF hd
                  obtain ⟨v', u', hr, q1, q2, q3⟩ := app_first p1 hC4.size (hEvR21.out W4 hC4) hfA2 (by omega)
                  refine wp_append_run (.tmp 116) (.tmp 117) 37 rfl _ _ _ t116 t117 hr ?_
                  exact hK _ _ (hV _ _ (hC4.trans q3) q2 ((VL_setL _ _ _ _ _).2 (.inr q1)))
                · rintro y u u' k b hk ha - hS hv hb hj hj2
                  match k, hk, ha, hv, hb, hj, hj2 with
                  | 0, _, _, hv, _, _, _ => exact (by cases b with | false => exact (show (IsV (.agg #[.slice L S.learners.length cl, .slice C S.cars.length cc, .int .i64 S.price, .int .i64 S.excess, .int .i64 S.lo, .int .i64 S.hi, .slice T S.terms.length ct])) (y 0) u' from hv) | true => exact trivial)
                  | 1, _, _, hv, hb, _, _ => exact (by obtain rfl := hb rfl; exact trivial)
                  | 2, _, _, hv, _, _, _ => exact (by cases b with | false => exact (show (IsV (.slice A es.length ce)) (y 2) u' from hv) | true => exact trivial)
                  | 3, hk, _, _, _, _, _ => exact absurd rfl hk
                  | 4, _, _, hv, _, _, _ => exact (by cases b with | false => exact (show (IsV (.agg #[.int .i64 yv21.kind, .int .i64 yv21.at_, .int .i64 yv21.learner, .int .i64 yv21.car, .int .i64 yv21.booking, .int .i64 yv21.start, .int .i64 yv21.hours, .int .i64 yv21.day, .int .i64 yv21.weather, .int .i64 yv21.km, .int .i64 yv21.cents])) (y 4) u' from hv) | true => exact trivial)
                  | 5, _, _, hv, _, _, hj2 => exact (by obtain rfl := hj2 6 rfl (by kernel_rfl); exact (show (OneV (WG.heap.size) yv21) (y 5) u' from OneV.sp1 (show (OneV (WG.heap.size) yv21) (y 5) u from hv) hS))
                  | 6, _, ha, _, _, _, _ => exact absurd (ha.symm.trans (by kernel_rfl)) Bool.false_ne_true
                  | 7, _, ha, _, _, _, _ => exact absurd (ha.symm.trans (by kernel_rfl)) Bool.false_ne_true
                  | 8, _, ha, _, _, _, _ => exact absurd (ha.symm.trans (by kernel_rfl)) Bool.false_ne_true
                  | 9, _, ha, _, _, _, _ => exact absurd (ha.symm.trans (by kernel_rfl)) Bool.false_ne_true
                  | 10, _, ha, _, _, _, _ => exact absurd (ha.symm.trans (by kernel_rfl)) Bool.false_ne_true
                  | 11, _, ha, _, _, _, _ => exact absurd (ha.symm.trans (by kernel_rfl)) Bool.false_ne_true
                  | 12, _, _, hv, _, _, hj2 => exact (by obtain rfl := hj2 14 rfl (by kernel_rfl); exact (show (VarZ (WG.heap.size)) (y 12) u' from VarZ.sp1 (show (VarZ (WG.heap.size)) (y 12) u from hv) hS))
                  | 13, _, ha, _, _, _, _ => exact absurd (ha.symm.trans (by kernel_rfl)) Bool.false_ne_true
                  | 14, _, ha, _, _, _, _ => exact absurd (ha.symm.trans (by kernel_rfl)) Bool.false_ne_true
                  | 15, _, ha, _, _, _, _ => exact absurd (ha.symm.trans (by kernel_rfl)) Bool.false_ne_true
                  | k + 16, _, _, _, _, _, _ => cases b <;> cases decide (List.lookup (k + 16) _ = some 3) <;> trivial
              · refine ⟨[1, 3, 5, 12], by kernel_rfl, .inl ⟨?_, fun k hk => absurd hk (lk4 (by decide) (by decide) (by decide))⟩⟩
                · refine one_fr ?_ ?_ ?_
                  · kernel_rfl
                  · left; kernel_rfl
                  intro Tf y W4 K Q Cv hF hC4 hd hV hK
                  clear hd
                  have t10 := hF.old 10 (.pointer (some ⟨gy, 0, none⟩)) (by kernel_rfl) (by kernel_rfl)
                  clear hF
                  have kk := kw21.out.below hC4 kw21.out.lt
                  obtain ⟨k0, k1, k2, k3, k4, k5, k6, k7, k8, k9, k10⟩ := ev_cells kk
                  unfold evCells at *
                  clear kk
                  go_simp
                  exact hK _ _ (hV _ _ hC4 (Below.refl _ _) ((VL_setL _ _ _ _ _).2 (.inr rfl)))
              · refine ⟨[1, 3, 12], by kernel_rfl, .inl ⟨?_, fun k hk => absurd hk (lk4 (by decide) (by decide) (by decide))⟩⟩
                · refine one_fr ?_ ?_ ?_
                  · kernel_rfl
                  · left; kernel_rfl
                  intro Tf y W4 K Q Cv hF hC4 hd hV hK
                  have p4 : (IsV (.agg #[.int .i64 yv21.kind, .int .i64 yv21.at_, .int .i64 yv21.learner, .int .i64 yv21.car, .int .i64 yv21.booking, .int .i64 yv21.start, .int .i64 yv21.hours, .int .i64 yv21.day, .int .i64 yv21.weather, .int .i64 yv21.km, .int .i64 yv21.cents])) (y 4) W4 := ((VL_setL _ _ _ _ _).1 (deps_all hd 4 (by kernel_rfl))).resolve_left (by decide)
                  replace p4 : y 4 = .agg #[.int .i64 yv21.kind, .int .i64 yv21.at_, .int .i64 yv21.learner, .int .i64 yv21.car, .int .i64 yv21.booking, .int .i64 yv21.start, .int .i64 yv21.hours, .int .i64 yv21.day, .int .i64 yv21.weather, .int .i64 yv21.km, .int .i64 yv21.cents] := p4
                  have t119 := hF.get 4 119 (by kernel_rfl)
                  rw [p4] at t119
                  have tt := t119
                  rw [Array.getD_eq_getD_getElem?] at tt
                  clear hF hd p4
                  go_simp
                  exact hK _ _ (hV _ _ (hC4.alloc hC4.size _) ((Below.refl _ _).alloc (Nat.le_refl _) _) ((VL_setL _ _ _ _ _).2 (.inr ⟨W4.heap.size, rfl, hC4.size, blkNew rfl⟩)))
              · refine ⟨[1, 12], by kernel_rfl, .inr ⟨fun y u u' => Sp2 (WG.heap.size) es (y 3) u u', ?_, ?_⟩⟩
                · refine ones_fr ?_ ?_ ?_
                  · kernel_rfl
                  · kernel_rfl
                  intro Tf y W4 K Q Cv hF hC4 hd hV hK
                  have p3 : (RowV (WG.heap.size) es) (y 3) W4 := ((VL_setL _ _ _ _ _).1 (deps_all hd 3 (by kernel_rfl))).resolve_left (by decide)
                  have p5 : (OneV (WG.heap.size) yv21) (y 5) W4 := ((VL_setL _ _ _ _ _).1 (deps_all hd 5 (by kernel_rfl))).resolve_left (by decide)
                  have t118 := hF.get 3 118 (by kernel_rfl)
                  have t120 := hF.get 5 120 (by kernel_rfl)
                  clear hF hd
                  obtain ⟨v', u', hr, q1, q2, q3⟩ := app_second p3 hC4.size p5 (by omega)
                  refine wp_append_run (.tmp 118) (.tmp 120) 37 rfl _ _ _ t118 t120 hr ?_
                  exact hK _ _ (hV _ _ (hC4.trans q3) q2 ((VL_setL _ _ _ _ _).2 (.inr q1)))
                · rintro y u u' k b hk ha - hS hv hb hj hj2
                  match k, hk, ha, hv, hb, hj, hj2 with
                  | 0, _, _, hv, _, _, _ => exact (by cases b with | false => exact (show (IsV (.agg #[.slice L S.learners.length cl, .slice C S.cars.length cc, .int .i64 S.price, .int .i64 S.excess, .int .i64 S.lo, .int .i64 S.hi, .slice T S.terms.length ct])) (y 0) u' from hv) | true => exact trivial)
                  | 1, _, _, _, _, hj, _ => exact (by obtain rfl := hj 3 rfl (by kernel_rfl); exact trivial)
                  | 2, _, _, hv, _, _, _ => exact (by cases b with | false => exact (show (IsV (.slice A es.length ce)) (y 2) u' from hv) | true => exact trivial)
                  | 3, _, _, hv, hb, _, _ => exact (by obtain rfl := hb rfl; exact trivial)
                  | 4, _, _, hv, _, _, _ => exact (by cases b with | false => exact (show (IsV (.agg #[.int .i64 yv21.kind, .int .i64 yv21.at_, .int .i64 yv21.learner, .int .i64 yv21.car, .int .i64 yv21.booking, .int .i64 yv21.start, .int .i64 yv21.hours, .int .i64 yv21.day, .int .i64 yv21.weather, .int .i64 yv21.km, .int .i64 yv21.cents])) (y 4) u' from hv) | true => exact trivial)
                  | 5, _, _, hv, hb, _, _ => exact (by obtain rfl := hb rfl; exact trivial)
                  | 6, hk, _, _, _, _, _ => exact absurd rfl hk
                  | 7, _, ha, _, _, _, _ => exact absurd (ha.symm.trans (by kernel_rfl)) Bool.false_ne_true
                  | 8, _, ha, _, _, _, _ => exact absurd (ha.symm.trans (by kernel_rfl)) Bool.false_ne_true
                  | 9, _, ha, _, _, _, _ => exact absurd (ha.symm.trans (by kernel_rfl)) Bool.false_ne_true
                  | 10, _, ha, _, _, _, _ => exact absurd (ha.symm.trans (by kernel_rfl)) Bool.false_ne_true
                  | 11, _, ha, _, _, _, _ => exact absurd (ha.symm.trans (by kernel_rfl)) Bool.false_ne_true
                  | 12, _, _, hv, _, _, hj2 => exact (by obtain rfl := hj2 14 rfl (by kernel_rfl); exact (show (VarZ (WG.heap.size)) (y 12) u' from VarZ.sp2 (show (VarZ (WG.heap.size)) (y 12) u from hv) hS))
                  | 13, _, ha, _, _, _, _ => exact absurd (ha.symm.trans (by kernel_rfl)) Bool.false_ne_true
                  | 14, _, ha, _, _, _, _ => exact absurd (ha.symm.trans (by kernel_rfl)) Bool.false_ne_true
                  | 15, _, ha, _, _, _, _ => exact absurd (ha.symm.trans (by kernel_rfl)) Bool.false_ne_true
                  | k + 16, _, _, _, _, _, _ => cases b <;> cases decide (List.lookup (k + 16) _ = some 6) <;> trivial
              · refine ⟨[1, 3, 5, 12], by kernel_rfl, .inl ⟨?_, fun k hk => absurd hk (lk4 (by decide) (by decide) (by decide))⟩⟩
                · refine one_fr ?_ ?_ ?_
                  · kernel_rfl
                  · left; kernel_rfl
                  intro Tf y W4 K Q Cv hF hC4 hd hV hK
                  have p0 : (IsV (.agg #[.slice L S.learners.length cl, .slice C S.cars.length cc, .int .i64 S.price, .int .i64 S.excess, .int .i64 S.lo, .int .i64 S.hi, .slice T S.terms.length ct])) (y 0) W4 := ((VL_setL _ _ _ _ _).1 (deps_all hd 0 (by kernel_rfl))).resolve_left (by decide)
                  have p6 : (NewV (es ++ [yv21])) (y 6) W4 := ((VL_setL _ _ _ _ _).1 (deps_all hd 6 (by kernel_rfl))).resolve_left (by decide)
                  replace p0 : y 0 = .agg #[.slice L S.learners.length cl, .slice C S.cars.length cc, .int .i64 S.price, .int .i64 S.excess, .int .i64 S.lo, .int .i64 S.hi, .slice T S.terms.length ct] := p0
                  have t115 := hF.get 0 115 (by kernel_rfl)
                  have t121 := hF.get 6 121 (by kernel_rfl)
                  rw [p0] at t115
                  rw [Array.getD_eq_getD_getElem?] at t121
                  clear hF hd
                  have hs := hRT21.out _ W4 hC4 p6
                  go_simp
                  refine hs.mono ?_
                  rintro e w7 ⟨⟨v, rfl, q1⟩, hb7⟩
                  exact hK _ _ (hV _ _ (hC4.trans (hb7.mono hC4.size)) hb7 ((VL_setL _ _ _ _ _).2 (.inr q1)))
              · refine ⟨[1, 3, 5, 12], by kernel_rfl, .inl ⟨?_, fun k hk => absurd hk (lk4 (by decide) (by decide) (by decide))⟩⟩
                · refine one_fr ?_ ?_ ?_
                  · kernel_rfl
                  · left; kernel_rfl
                  intro Tf y W4 K Q Cv hF hC4 hd hV hK
                  have p7 : (RunQ (0) (runR S (es ++ [yv21])).1 (runR S (es ++ [yv21])).2) (y 7) W4 := ((VL_setL _ _ _ _ _).1 (deps_all hd 7 (by kernel_rfl))).resolve_left (by decide)
                  have t122 := hF.get 7 122 (by kernel_rfl)
                  rw [Array.getD_eq_getD_getElem?] at t122
                  clear hF hd
                  go_simp
                  exact hK _ _ (hV _ _ hC4 (Below.refl _ _) ((VL_setL _ _ _ _ _).2 (.inr p7)))
              · refine ⟨[1, 3, 5, 12], by kernel_rfl, .inl ⟨?_, fun k hk => absurd hk (lk4 (by decide) (by decide) (by decide))⟩⟩
                · refine one_fr ?_ ?_ ?_
                  · kernel_rfl
                  · left; kernel_rfl
                  intro Tf y W4 K Q Cv hF hC4 hd hV hK
                  have p8 : (RunQ (0) (runR S (es ++ [yv21])).1 (runR S (es ++ [yv21])).2) (y 8) W4 := ((VL_setL _ _ _ _ _).1 (deps_all hd 8 (by kernel_rfl))).resolve_left (by decide)
                  obtain ⟨v1, v2, e4, q1, q2⟩ := p8
                  have t114 := hF.get 8 114 (by kernel_rfl)
                  rw [e4] at t114
                  clear hF hd
                  go_simp
                  exact hK _ _ (hV _ _ hC4 (Below.refl _ _) ((VL_setL _ _ _ _ _).2 (.inr q1)))
              · refine ⟨[1, 3, 5, 12], by kernel_rfl, .inl ⟨?_, fun k hk => absurd hk (lk4 (by decide) (by decide) (by decide))⟩⟩
                · refine one_fr ?_ ?_ ?_
                  · kernel_rfl
                  · left; kernel_rfl
                  intro Tf y W4 K Q Cv hF hC4 hd hV hK
                  have p8 : (RunQ (0) (runR S (es ++ [yv21])).1 (runR S (es ++ [yv21])).2) (y 8) W4 := ((VL_setL _ _ _ _ _).1 (deps_all hd 8 (by kernel_rfl))).resolve_left (by decide)
                  obtain ⟨v1, v2, e4, q1, q2⟩ := p8
                  have t114 := hF.get 8 114 (by kernel_rfl)
                  rw [e4] at t114
                  clear hF hd
                  go_simp
                  exact hK _ _ (hV _ _ hC4 (Below.refl _ _) ((VL_setL _ _ _ _ _).2 (.inr q2)))
              · refine ⟨[1, 3, 5, 12], by kernel_rfl, .inl ⟨?_, fun k hk => absurd hk (lk4 (by decide) (by decide) (by decide))⟩⟩
                · refine one_fr ?_ ?_ ?_
                  · kernel_rfl
                  · left; kernel_rfl
                  intro Tf y W4 K Q Cv hF hC4 hd hV hK
                  have p8 : (RunQ (0) (runR S (es ++ [yv21])).1 (runR S (es ++ [yv21])).2) (y 8) W4 := ((VL_setL _ _ _ _ _).1 (deps_all hd 8 (by kernel_rfl))).resolve_left (by decide)
                  obtain ⟨v1, v2, e4, q1, q2⟩ := p8
                  have t114 := hF.get 8 114 (by kernel_rfl)
                  rw [e4] at t114
                  clear hF hd
                  go_simp
                  exact hK _ _ (hV _ _ hC4 (Below.refl _ _) ((VL_setL _ _ _ _ _).2 (.inr rfl)))
              · refine ⟨[1, 3, 5], by kernel_rfl, .inl ⟨?_, fun k hk => absurd hk (lk4 (by decide) (by decide) (by decide))⟩⟩
                · refine one_fr ?_ ?_ ?_
                  · kernel_rfl
                  · left; kernel_rfl
                  intro Tf y W4 K Q Cv hF hC4 hd hV hK
                  clear hF hd
                  go_simp
                  exact hK _ _ (hV _ _ (hC4.alloc hC4.size _) ((Below.refl _ _).alloc (Nat.le_refl _) _) ((VL_setL _ _ _ _ _).2 (.inr ⟨W4.heap.size, rfl, hC4.size, blkNew rfl⟩)))
              · refine ⟨[1, 3, 5, 12], by kernel_rfl, .inl ⟨?_, fun k hk => absurd hk (lk4 (by decide) (by decide) (by decide))⟩⟩
                · refine one_fr ?_ ?_ ?_
                  · kernel_rfl
                  · left; kernel_rfl
                  intro Tf y W4 K Q Cv hF hC4 hd hV hK
                  have p9 : (IsInts (runR S (es ++ [yv21])).1) (y 9) W4 := ((VL_setL _ _ _ _ _).1 (deps_all hd 9 (by kernel_rfl))).resolve_left (by decide)
                  have t123 := hF.get 9 123 (by kernel_rfl)
                  rw [Array.getD_eq_getD_getElem?] at t123
                  clear hF hd
                  go_simp
                  exact hK _ _ (hV _ _ hC4 (Below.refl _ _) ((VL_setL _ _ _ _ _).2 (.inr p9)))
              · refine ⟨[1, 3, 5], by kernel_rfl, .inr ⟨fun y u u' => ∃ g vl vk vs va, y 12 = .pointer (some ⟨g, 0, none⟩) ∧ WG.heap.size ≤ g ∧ Blk u g 42 zState ∧ IsState (runR S (es ++ [yv21])).2 (.agg #[vl, vk, vs, va]) u ∧ Stored g u u' ∧ Blk u' g 42 #[vl, vk, vs, va], ?_, ?_⟩⟩
                · refine ones_fr ?_ ?_ ?_
                  · kernel_rfl
                  · kernel_rfl
                  intro Tf y W4 K Q Cv hF hC4 hd hV hK
                  have p12 : (VarZ (WG.heap.size)) (y 12) W4 := ((VL_setL _ _ _ _ _).1 (deps_all hd 12 (by kernel_rfl))).resolve_left (by decide)
                  have p10 : (IsState (runR S (es ++ [yv21])).2) (y 10) W4 := ((VL_setL _ _ _ _ _).1 (deps_all hd 10 (by kernel_rfl))).resolve_left (by decide)
                  obtain ⟨g, eg, hg, hz⟩ := p12
                  obtain ⟨vl, vk, vs, va, ev, r1, r2, r3, r4⟩ := p10
                  have t16 := hF.get 12 16 (by kernel_rfl)
                  have t124 := hF.get 10 124 (by kernel_rfl)
                  rw [eg] at t16
                  rw [ev] at t124
                  have b0 : W4.cell? ⟨g, 0, none⟩ = some (.slice none 0 0) := hz.cell 0
                  have b1 : W4.cell? ⟨g, 1, none⟩ = some (.slice none 0 0) := hz.cell 1
                  have b2 : W4.cell? ⟨g, 2, none⟩ = some (.slice none 0 0) := hz.cell 2
                  have b3 : W4.cell? ⟨g, 3, none⟩ = some (.slice none 0 0) := hz.cell 3
                  have z0 := hz.frozen 0
                  have z1 := hz.frozen 1
                  have z2 := hz.frozen 2
                  have z3 := hz.frozen 3
                  obtain ⟨k1, k2⟩ := stored_set4 hz vl vk vs va
                  obtain ⟨A0, c0, rfl, -⟩ := id r1
                  rw [List.length_map] at k1 k2 r1 t124
                  obtain ⟨A1, c1, rfl, -⟩ := id r2
                  obtain ⟨A2, c2, rfl, -⟩ := id r3
                  obtain ⟨A3, c3, rfl, -⟩ := id r4
                  clear hF hd
                  go_simp
                  exact hK undef _ (hV undef _ (hC4.trans (k1.below hg)) ⟨g, _, _, _, _, eg, hg, hz, ⟨_, _, _, _, rfl, r1, r2, r3, r4⟩, k1, k2⟩ ((VL_setL _ _ _ _ _).2 (.inr trivial)))
                · rintro y u u' k b hk ha - ⟨g, vl, vk, vs, va, eg, hg, hz, hI, hS, k2⟩ hv hb hj hj2
                  match k, hk, ha, hv, hb, hj, hj2 with
                  | 0, _, _, hv, _, _, _ => exact (by cases b with | false => exact (show (IsV (.agg #[.slice L S.learners.length cl, .slice C S.cars.length cc, .int .i64 S.price, .int .i64 S.excess, .int .i64 S.lo, .int .i64 S.hi, .slice T S.terms.length ct])) (y 0) u' from hv) | true => exact trivial)
                  | 1, _, _, _, _, hj, _ => exact (by obtain rfl := hj 3 rfl (by kernel_rfl); exact trivial)
                  | 2, _, _, hv, _, _, _ => exact (by cases b with | false => exact (show (IsV (.slice A es.length ce)) (y 2) u' from hv) | true => exact trivial)
                  | 3, _, _, _, _, hj, _ => exact (by obtain rfl := hj 6 rfl (by kernel_rfl); exact trivial)
                  | 4, _, _, hv, _, _, _ => exact (by cases b with | false => exact (show (IsV (.agg #[.int .i64 yv21.kind, .int .i64 yv21.at_, .int .i64 yv21.learner, .int .i64 yv21.car, .int .i64 yv21.booking, .int .i64 yv21.start, .int .i64 yv21.hours, .int .i64 yv21.day, .int .i64 yv21.weather, .int .i64 yv21.km, .int .i64 yv21.cents])) (y 4) u' from hv) | true => exact trivial)
                  | 5, _, _, _, _, hj, _ => exact (by obtain rfl := hj 6 rfl (by kernel_rfl); exact trivial)
                  | 6, _, _, hv, _, _, _ => exact (by cases b with | false => exact (show (NewV (es ++ [yv21])) (y 6) u' from (show (NewV (es ++ [yv21])) (y 6) u from hv).stored hS hz) | true => exact trivial)
                  | 7, _, _, hv, _, _, _ => exact (by cases b with | false => exact (show (RunQ (0) (runR S (es ++ [yv21])).1 (runR S (es ++ [yv21])).2) (y 7) u' from (show (RunQ (0) (runR S (es ++ [yv21])).1 (runR S (es ++ [yv21])).2) (y 7) u from hv).stored hS hz) | true => exact trivial)
                  | 8, _, _, hv, _, _, _ => exact (by cases b with | false => exact (show (RunQ (0) (runR S (es ++ [yv21])).1 (runR S (es ++ [yv21])).2) (y 8) u' from (show (RunQ (0) (runR S (es ++ [yv21])).1 (runR S (es ++ [yv21])).2) (y 8) u from hv).stored hS hz) | true => exact trivial)
                  | 9, _, _, hv, _, _, _ => exact (by cases b with | false => exact (show (IsInts (runR S (es ++ [yv21])).1) (y 9) u' from (show (IsInts (runR S (es ++ [yv21])).1) (y 9) u from hv).stored hS hz) | true => exact trivial)
                  | 10, _, _, hv, _, _, _ => exact (by cases b with | false => exact (show (IsState (runR S (es ++ [yv21])).2) (y 10) u' from (show (IsState (runR S (es ++ [yv21])).2) (y 10) u from hv).stored hS hz) | true => exact trivial)
                  | 11, _, _, hv, _, _, _ => exact (by cases b with | false => exact (show (IsV (.int .i64 (0))) (y 11) u' from hv) | true => exact trivial)
                  | 12, _, _, hv, hb, _, _ => exact (by obtain rfl := hb rfl; obtain ⟨g1, e1, h1, _⟩ := (hv : VarZ (WG.heap.size) (y 12) u); rw [eg] at e1; injection e1 with e1; injection e1 with e1; injection e1 with e1; subst e1; exact (show VarS (WG.heap.size) (runR S (es ++ [yv21])).2 (y 12) u' from ⟨g, vl, vk, vs, va, eg, hg, k2, hI.stored hS hz⟩))
                  | 13, _, _, hv, _, _, _ => exact (by cases b with | false => exact (show (IsInts (runR S (es ++ [yv21])).1) (y 13) u' from (show (IsInts (runR S (es ++ [yv21])).1) (y 13) u from hv).stored hS hz) | true => exact trivial)
                  | 14, hk, _, _, _, _, _ => exact absurd rfl hk
                  | 15, _, ha, _, _, _, _ => exact absurd (ha.symm.trans (by kernel_rfl)) Bool.false_ne_true
                  | k + 16, _, _, _, _, _, _ => cases b <;> cases decide (List.lookup (k + 16) _ = some 14) <;> trivial
              · refine ⟨[1, 3, 5, 12], by kernel_rfl, .inl ⟨?_, fun k hk => absurd hk (lk4 (by decide) (by decide) (by decide))⟩⟩
                · refine one_fr ?_ ?_ ?_
                  · kernel_rfl
                  · left; kernel_rfl
                  intro Tf y W4 K Q Cv hF hC4 hd hV hK
                  have p11 : (IsV (.int .i64 (0))) (y 11) W4 := ((VL_setL _ _ _ _ _).1 (deps_all hd 11 (by kernel_rfl))).resolve_left (by decide)
                  have t125 := hF.get 11 125 (by kernel_rfl)
                  rw [Array.getD_eq_getD_getElem?] at t125
                  clear hF hd
                  go_simp
                  exact hK _ _ (hV _ _ hC4 (Below.refl _ _) ((VL_setL _ _ _ _ _).2 (.inr p11)))
            intro y W7 hC7 hE
            have e9 : (IsInts (runR S (es ++ [yv21])).1) (y 9) W7 := hE 9 (of_decide_eq_true (by kernel_rfl))
            have e12 : (VarS (WG.heap.size) (runR S (es ++ [yv21])).2) (y 12) W7 := hE 12 (of_decide_eq_true (by kernel_rfl))
            have e13 : (IsInts (runR S (es ++ [yv21])).1) (y 13) W7 := hE 13 (of_decide_eq_true (by kernel_rfl))
            have e15 : (IsV (.int .i64 (0))) (y 15) W7 := hE 15 (of_decide_eq_true (by kernel_rfl))
            clear hE
            clear e9
            obtain ⟨gb, vl, vk, vs, va, e12, -, -, -⟩ := e12
            have he2 := e13
            obtain ⟨Am, cm, e13, -⟩ := e13
            replace e15 : y 15 = .int .i64 0 := e15
            rw [e13] at he2
            simp only [putAll, Act.put]
            simp only [List.setIfInBounds_toArray, List.set_cons_succ, List.set_cons_zero]
            rw [e12, e13, e15]
            clear e12 e13 e15
            have hl21 : (runR S (es ++ [yv21])).1.length = es.length + 1 := by rw [her21.out, List.length_append, hlen.out]; rfl
            have hat : (runR S (es ++ [yv21])).1[es.length]?.getD 0 = lesErr S (runR S es).2 ⟨ln, cn, fh, hh, 0⟩ tm := by
              rw [her21.out, List.getElem?_append_right (by rw [hlen.out]; exact Nat.le_refl _), hlen.out, Nat.sub_self]; rfl
            obtain ⟨gm, om, rfl, hgm, m0⟩ := int_read he2 (j := es.length) (by rw [hl21]; omega)
            rw [hat] at m0
            rw [hl21] at he2 ⊢
            clear he2 hat
            have hBz21 := hide (hBw21.out.trans (hC7.mono hBw21.out.size))
            have hn1 : IntKind.i64.wrap ((es.length : Int) + 1) = (es.length : Int) + 1 := by rw [IntKind.wrap_i64]; omega
            have hn2 : ((es.length + 1 : Nat) : Int) = (es.length : Int) + 1 := by omega
            have hn3 : (((es.length + 1 : Nat) : Int) != (es.length : Int) + 1) = false := by rw [hn2]; simp
            have hn4 : (((es.length + 1 : Nat) : Int) == (es.length : Int) + 1) = true := by rw [hn2]; simp
            have hnz : (es.length : Int) < ((es.length + 1 : Nat) : Int) := by omega
            have hnn : (0 : Int) ≤ (es.length : Int) := by omega
            replace hn2 := hide hn2
            replace hl21 := hide hl21
            rw [e4.out] at m0
            have kyH := hide (kyG.out.below hC7 kyG.out.lt)
            have kbH7 := hide (kbG.out.below hC7 kbG.out.lt)
            have kvH7 := hide (kvG.out.below hC7 kvG.out.lt)
            have hBH7 := hide (hBG.out.trans (hC7.mono hBG.out.size))
            by_cases hle : fh ≤ frm
            · have t3 : decide (fh ≤ frm) = true := decide_eq_true hle
              replace hle := hide hle
              go_wp2_with fail
              refine (AwakeB _).mono ?_
              rintro e w9 ⟨rfl, hb⟩
              have hBq := hide (hBz21.out.trans (hb.mono hBz21.out.size))
              clear hb
              go_wp2
              go_ret
              exact ⟨rfl, hBq.out⟩
            · have t3 : decide (fh ≤ frm) = false := decide_eq_false hle
              clear kvG kbG kyG hBG kw21 hEvR21 hRT21
              have y4 : W7.cell? ⟨w.heap.size + 1, 4, none⟩ = some (.int .u16 x4) := kyH.out.cell 4
              have g1 : IntKind.i64.wrap x4 = x4 := by rw [IntKind.wrap_i64]; omega
              obtain ⟨dd, hdd⟩ : ∃ z, fh - frm = z := ⟨_, rfl⟩
              have hd9 : 1 ≤ dd ∧ dd ≤ 4801 := by omega
              have g2 : IntKind.i64.wrap dd = dd := by rw [IntKind.wrap_i64]; omega
              have g3 : (dd == 0) = false := beq_eq_false_iff_ne.2 (by omega)
              have g4 : ¬ dd = 0 := by omega
              obtain ⟨rr, hrr⟩ : ∃ z, x4.tmod dd = z := ⟨_, rfl⟩
              have hr9 : 0 ≤ rr ∧ rr < dd := by
                rw [← hrr, Int.tmod_eq_emod_of_nonneg hx4.1]
                exact ⟨Int.emod_nonneg _ (by omega), Int.emod_lt_of_pos _ (by omega)⟩
              have g5 : IntKind.i64.wrap rr = rr := by rw [IntKind.wrap_i64]; omega
              obtain ⟨ss, hss⟩ : ∃ z, frm + rr = z := ⟨_, rfl⟩
              have g6 : IntKind.i64.wrap ss = ss := by rw [IntKind.wrap_i64]; omega
              have hs9 : frm ≤ ss ∧ ss < fh ∧ ss ≤ 4800 := by omega
              have k5 : W7.cell? ⟨gy, 5, none⟩ = some (.int .i64 fh) := kvH7.out.cell 5
              have z5 := kvH7.out.frozen 5
              obtain ⟨WH, hWH⟩ : ∃ z, W7.setCell ⟨gy, 5, none⟩ (.int .i64 ss) = z := ⟨_, rfl⟩
              have hBH := hide (show Below W2.heap.size W2 WH by rw [← hWH]; exact hBH7.out.setCell (p := ⟨gy, 5, none⟩) hgy (.int .i64 ss))
              have kvH := hide (show Blk WH gy 65 #[.int .i64 0, .int .i64 tm, .int .i64 ln, .int .i64 cn, .int .i64 0, .int .i64 ss, .int .i64 hh, .int .i64 0, .int .i64 0, .int .i64 0, .int .i64 0] by rw [← hWH]; exact kvH7.out.set_ 5 (.int .i64 ss))
              have kbH := hide (show Blk WH w.heap.size 28 _ by rw [← hWH]; exact kbH7.out.far (p := ⟨gy, 5, none⟩) (by have := kb.out.lt; show w.heap.size ≠ gy; omega) (.int .i64 ss))
              replace hWH := hide hWH
              have hrq : x4 % dd = rr := by rw [← Int.tmod_eq_emod_of_nonneg hx4.1]; exact hrr
              replace hr9 := hide hr9
              go_upto_region 27 with fail
              rw [hWH.out]
              clear k5 z5 y4 g1 g2 g3 g4 g5 g6 hd9 hrq
              replace hrr := hide hrr
              replace hss := hide hss
              replace hdd := hide hdd
              obtain ⟨yv27, hyv27⟩ : ∃ e : BEv, (⟨0, tm, ln, cn, 0, ss, hh, 0, 0, 0, 0⟩ : BEv) = e := ⟨_, rfl⟩
              obtain ⟨hq27, her27⟩ := hbk.out ss (by omega)
              rw [hyv27] at hq27 her27
              have kw27 := hide (show Blk WH gy 65 (evCells yv27).toArray by rw [← hyv27]; exact kvH.out)
              have hBw27 := hide (hB.out.trans (hBH.out.mono hB.out.size))
              have hRT27 := hide (fun v W' (hb : Below WH.heap.size WH W') (h : NewV (es ++ [yv27]) v W') => (Run_k _ v S (es ++ [yv27]) W' (hSc.out W' (hBw27.out.trans (hb.mono hBw27.out.size))) h).mono (R' := fun e w' => (∃ v, e = .returned v ∧ RunQ 0 (runR S (es ++ [yv27])).1 (runR S (es ++ [yv27])).2 v w') ∧ Below W'.heap.size W' w') (by
                rintro e w' ⟨⟨v1, v2, rfl, h1, h2⟩, h3⟩
                rw [hq27]
                exact ⟨⟨_, rfl, v1, v2, rfl, h1, h2⟩, h3⟩))
              have hEvR27 := hide (fun W' (hb : Below WH.heap.size WH W') => hEW.out W' (hBw27.out.trans (hb.mono hBw27.out.size)))
              have hfA2 := hfA.out
              replace hyv27 := hide hyv27
              replace hq27 := hide hq27
              replace her27 := hide her27
              refine region_va [IsV (.agg #[.slice L S.learners.length cl, .slice C S.cars.length cc, .int .i64 S.price, .int .i64 S.excess, .int .i64 S.lo, .int .i64 S.hi, .slice T S.terms.length ct]), EmpV (WH.heap.size), IsV (.slice A es.length ce), RowV (WH.heap.size) es, IsV (.agg #[.int .i64 yv27.kind, .int .i64 yv27.at_, .int .i64 yv27.learner, .int .i64 yv27.car, .int .i64 yv27.booking, .int .i64 yv27.start, .int .i64 yv27.hours, .int .i64 yv27.day, .int .i64 yv27.weather, .int .i64 yv27.km, .int .i64 yv27.cents]), OneV (WH.heap.size) yv27, NewV (es ++ [yv27]), RunQ (0) (runR S (es ++ [yv27])).1 (runR S (es ++ [yv27])).2, RunQ (0) (runR S (es ++ [yv27])).1 (runR S (es ++ [yv27])).2, IsInts (runR S (es ++ [yv27])).1, IsState (runR S (es ++ [yv27])).2, IsV (.int .i64 (0)), VarZ (WH.heap.size), IsInts (runR S (es ++ [yv27])).1, TT, IsV (.int .i64 (0))] [TT, TT, TT, TT, TT, TT, TT, TT, TT, TT, TT, TT, VarS (WH.heap.size) (runR S (es ++ [yv27])).2, TT, TT, TT] [(1, 3), (3, 6), (5, 6), (12, 14)] (by kernel_rfl) (by kernel_rfl) (by kernel_rfl) ⟨IsV.stb _, EmpV.stb _, IsV.stb _, RowV.stb _ _, IsV.stb _, OneV.stb _ _, NewV.stb _, RunQ.stb _ _ _, RunQ.stb _ _ _, Ints.stb _, State.stb _, IsV.stb _, VarZ.stb _, Ints.stb _, TT.stb, IsV.stb _, trivial⟩ ⟨TT.stb, TT.stb, TT.stb, TT.stb, TT.stb, TT.stb, TT.stb, TT.stb, TT.stb, TT.stb, TT.stb, TT.stb, VarS.stb _ _, TT.stb, TT.stb, TT.stb, trivial⟩ ?_ ?_
              · try clear hSc
                try clear huW
                try clear hEW
                try clear hRW
                try clear heW
                try clear hxW
                try clear hlW
                try clear hkW
                try clear hsW
                try clear haW
                try clear hW
                try clear hW2
                try clear kx
                try clear hB
                try clear hb12
                try clear hFi
                try clear her
                try clear hea
                try clear ha
                try clear hfo
                try clear hbk
                try clear hlen
                try clear htb
                try clear hl9
                try clear hc9
                try clear hh9
                try clear hm9
                try clear hln
                try clear hcn
                try clear hhm
                try clear hhh
                try clear hfr
                try clear hea
                try clear ky
                try clear kyF
                try clear kyG
                refine ⟨?_, ?_, ?_, ?_, ?_, ?_, ?_, ?_, ?_, ?_, ?_, ?_, ?_, ?_, ?_, ?_, trivial⟩
                · refine ⟨[1, 3, 5, 12], by kernel_rfl, .inl ⟨?_, fun k hk => absurd hk (lk4 (by decide) (by decide) (by decide))⟩⟩
                  · refine one_fr ?_ ?_ ?_
                    · kernel_rfl
                    · left; kernel_rfl
                    intro Tf y W4 K Q Cv hF hC4 hd hV hK
                    clear hd
                    have t3 := hF.old 3 (.pointer (some ⟨w.heap.size, 0, none⟩)) (by kernel_rfl) (by kernel_rfl)
                    clear hF
                    obtain ⟨c0, c1, c2, c3, c4, c5, c6⟩ := sch_cells (w := W4) (p := w.heap.size) (S := S) (kbH.out.below hC4 kbH.out.lt)
                    go_simp
                    exact hK _ _ (hV _ _ hC4 (Below.refl _ _) ((VL_setL _ _ _ _ _).2 (.inr rfl)))
                · refine ⟨[3, 5, 12], by kernel_rfl, .inl ⟨?_, fun k hk => absurd hk (lk4 (by decide) (by decide) (by decide))⟩⟩
                  · refine one_fr ?_ ?_ ?_
                    · kernel_rfl
                    · left; kernel_rfl
                    intro Tf y W4 K Q Cv hF hC4 hd hV hK
                    clear hF hd
                    refine wp_mk0 rfl rfl mk0_ev ?_
                    exact hK _ _ (hV _ _ (hC4.alloc hC4.size _) ((Below.refl _ _).alloc (Nat.le_refl _) _) ((VL_setL _ _ _ _ _).2 (.inr ⟨W4.heap.size, rfl, hC4.size, blkNew rfl⟩)))
                · refine ⟨[1, 3, 5, 12], by kernel_rfl, .inl ⟨?_, fun k hk => absurd hk (lk4 (by decide) (by decide) (by decide))⟩⟩
                  · refine one_fr ?_ ?_ ?_
                    · kernel_rfl
                    · left; kernel_rfl
                    intro Tf y W4 K Q Cv hF hC4 hd hV hK
                    clear hd
                    have t1 := hF.old 1 (.slice A es.length ce) (by kernel_rfl) (by kernel_rfl)
                    clear hF
                    go_simp
                    exact hK _ _ (hV _ _ hC4 (Below.refl _ _) ((VL_setL _ _ _ _ _).2 (.inr rfl)))
                · refine ⟨[5, 12], by kernel_rfl, .inr ⟨fun y u u' => Sp1 (WH.heap.size) (y 1) u u', ?_, ?_⟩⟩
                  · refine ones_fr ?_ ?_ ?_
                    · kernel_rfl
                    · kernel_rfl
                    intro Tf y W4 K Q Cv hF hC4 hd hV hK
                    have p1 : (EmpV (WH.heap.size)) (y 1) W4 := ((VL_setL _ _ _ _ _).1 (deps_all hd 1 (by kernel_rfl))).resolve_left (by decide)
                    have p2 : (IsV (.slice A es.length ce)) (y 2) W4 := ((VL_setL _ _ _ _ _).1 (deps_all hd 2 (by kernel_rfl))).resolve_left (by decide)
                    replace p2 : y 2 = .slice A es.length ce := p2
                    have t160 := hF.get 1 160 (by kernel_rfl)
                    have t161 := hF.get 2 161 (by kernel_rfl)
                    rw [p2] at t161
                    clear hF hd
                    obtain ⟨v', u', hr, q1, q2, q3⟩ := app_first p1 hC4.size (hEvR27.out W4 hC4) hfA2 (by omega)
                    refine wp_append_run (.tmp 160) (.tmp 161) 37 rfl _ _ _ t160 t161 hr ?_
                    exact hK _ _ (hV _ _ (hC4.trans q3) q2 ((VL_setL _ _ _ _ _).2 (.inr q1)))
                  · rintro y u u' k b hk ha - hS hv hb hj hj2
                    match k, hk, ha, hv, hb, hj, hj2 with
                    | 0, _, _, hv, _, _, _ => exact (by cases b with | false => exact (show (IsV (.agg #[.slice L S.learners.length cl, .slice C S.cars.length cc, .int .i64 S.price, .int .i64 S.excess, .int .i64 S.lo, .int .i64 S.hi, .slice T S.terms.length ct])) (y 0) u' from hv) | true => exact trivial)
                    | 1, _, _, hv, hb, _, _ => exact (by obtain rfl := hb rfl; exact trivial)
                    | 2, _, _, hv, _, _, _ => exact (by cases b with | false => exact (show (IsV (.slice A es.length ce)) (y 2) u' from hv) | true => exact trivial)
                    | 3, hk, _, _, _, _, _ => exact absurd rfl hk
                    | 4, _, _, hv, _, _, _ => exact (by cases b with | false => exact (show (IsV (.agg #[.int .i64 yv27.kind, .int .i64 yv27.at_, .int .i64 yv27.learner, .int .i64 yv27.car, .int .i64 yv27.booking, .int .i64 yv27.start, .int .i64 yv27.hours, .int .i64 yv27.day, .int .i64 yv27.weather, .int .i64 yv27.km, .int .i64 yv27.cents])) (y 4) u' from hv) | true => exact trivial)
                    | 5, _, _, hv, _, _, hj2 => exact (by obtain rfl := hj2 6 rfl (by kernel_rfl); exact (show (OneV (WH.heap.size) yv27) (y 5) u' from OneV.sp1 (show (OneV (WH.heap.size) yv27) (y 5) u from hv) hS))
                    | 6, _, ha, _, _, _, _ => exact absurd (ha.symm.trans (by kernel_rfl)) Bool.false_ne_true
                    | 7, _, ha, _, _, _, _ => exact absurd (ha.symm.trans (by kernel_rfl)) Bool.false_ne_true
                    | 8, _, ha, _, _, _, _ => exact absurd (ha.symm.trans (by kernel_rfl)) Bool.false_ne_true
                    | 9, _, ha, _, _, _, _ => exact absurd (ha.symm.trans (by kernel_rfl)) Bool.false_ne_true
                    | 10, _, ha, _, _, _, _ => exact absurd (ha.symm.trans (by kernel_rfl)) Bool.false_ne_true
                    | 11, _, ha, _, _, _, _ => exact absurd (ha.symm.trans (by kernel_rfl)) Bool.false_ne_true
                    | 12, _, _, hv, _, _, hj2 => exact (by obtain rfl := hj2 14 rfl (by kernel_rfl); exact (show (VarZ (WH.heap.size)) (y 12) u' from VarZ.sp1 (show (VarZ (WH.heap.size)) (y 12) u from hv) hS))
                    | 13, _, ha, _, _, _, _ => exact absurd (ha.symm.trans (by kernel_rfl)) Bool.false_ne_true
                    | 14, _, ha, _, _, _, _ => exact absurd (ha.symm.trans (by kernel_rfl)) Bool.false_ne_true
                    | 15, _, ha, _, _, _, _ => exact absurd (ha.symm.trans (by kernel_rfl)) Bool.false_ne_true
                    | k + 16, _, _, _, _, _, _ => cases b <;> cases decide (List.lookup (k + 16) _ = some 3) <;> trivial
                · refine ⟨[1, 3, 5, 12], by kernel_rfl, .inl ⟨?_, fun k hk => absurd hk (lk4 (by decide) (by decide) (by decide))⟩⟩
                  · refine one_fr ?_ ?_ ?_
                    · kernel_rfl
                    · left; kernel_rfl
                    intro Tf y W4 K Q Cv hF hC4 hd hV hK
                    clear hd
                    have t10 := hF.old 10 (.pointer (some ⟨gy, 0, none⟩)) (by kernel_rfl) (by kernel_rfl)
                    clear hF
                    have kk := kw27.out.below hC4 kw27.out.lt
                    obtain ⟨k0, k1, k2, k3, k4, k5, k6, k7, k8, k9, k10⟩ := ev_cells kk
                    unfold evCells at *
                    clear kk
                    go_simp
                    exact hK _ _ (hV _ _ hC4 (Below.refl _ _) ((VL_setL _ _ _ _ _).2 (.inr rfl)))
                · refine ⟨[1, 3, 12], by kernel_rfl, .inl ⟨?_, fun k hk => absurd hk (lk4 (by decide) (by decide) (by decide))⟩⟩
                  · refine one_fr ?_ ?_ ?_
                    · kernel_rfl
                    · left; kernel_rfl
                    intro Tf y W4 K Q Cv hF hC4 hd hV hK
                    have p4 : (IsV (.agg #[.int .i64 yv27.kind, .int .i64 yv27.at_, .int .i64 yv27.learner, .int .i64 yv27.car, .int .i64 yv27.booking, .int .i64 yv27.start, .int .i64 yv27.hours, .int .i64 yv27.day, .int .i64 yv27.weather, .int .i64 yv27.km, .int .i64 yv27.cents])) (y 4) W4 := ((VL_setL _ _ _ _ _).1 (deps_all hd 4 (by kernel_rfl))).resolve_left (by decide)
                    replace p4 : y 4 = .agg #[.int .i64 yv27.kind, .int .i64 yv27.at_, .int .i64 yv27.learner, .int .i64 yv27.car, .int .i64 yv27.booking, .int .i64 yv27.start, .int .i64 yv27.hours, .int .i64 yv27.day, .int .i64 yv27.weather, .int .i64 yv27.km, .int .i64 yv27.cents] := p4
                    have t163 := hF.get 4 163 (by kernel_rfl)
                    rw [p4] at t163
                    have tt := t163
                    rw [Array.getD_eq_getD_getElem?] at tt
                    clear hF hd p4
                    go_simp
                    exact hK _ _ (hV _ _ (hC4.alloc hC4.size _) ((Below.refl _ _).alloc (Nat.le_refl _) _) ((VL_setL _ _ _ _ _).2 (.inr ⟨W4.heap.size, rfl, hC4.size, blkNew rfl⟩)))
                · refine ⟨[1, 12], by kernel_rfl, .inr ⟨fun y u u' => Sp2 (WH.heap.size) es (y 3) u u', ?_, ?_⟩⟩
                  · refine ones_fr ?_ ?_ ?_
                    · kernel_rfl
                    · kernel_rfl
                    intro Tf y W4 K Q Cv hF hC4 hd hV hK
                    have p3 : (RowV (WH.heap.size) es) (y 3) W4 := ((VL_setL _ _ _ _ _).1 (deps_all hd 3 (by kernel_rfl))).resolve_left (by decide)
                    have p5 : (OneV (WH.heap.size) yv27) (y 5) W4 := ((VL_setL _ _ _ _ _).1 (deps_all hd 5 (by kernel_rfl))).resolve_left (by decide)
                    have t162 := hF.get 3 162 (by kernel_rfl)
                    have t164 := hF.get 5 164 (by kernel_rfl)
                    clear hF hd
                    obtain ⟨v', u', hr, q1, q2, q3⟩ := app_second p3 hC4.size p5 (by omega)
                    refine wp_append_run (.tmp 162) (.tmp 164) 37 rfl _ _ _ t162 t164 hr ?_
                    exact hK _ _ (hV _ _ (hC4.trans q3) q2 ((VL_setL _ _ _ _ _).2 (.inr q1)))
                  · rintro y u u' k b hk ha - hS hv hb hj hj2
                    match k, hk, ha, hv, hb, hj, hj2 with
                    | 0, _, _, hv, _, _, _ => exact (by cases b with | false => exact (show (IsV (.agg #[.slice L S.learners.length cl, .slice C S.cars.length cc, .int .i64 S.price, .int .i64 S.excess, .int .i64 S.lo, .int .i64 S.hi, .slice T S.terms.length ct])) (y 0) u' from hv) | true => exact trivial)
                    | 1, _, _, _, _, hj, _ => exact (by obtain rfl := hj 3 rfl (by kernel_rfl); exact trivial)
                    | 2, _, _, hv, _, _, _ => exact (by cases b with | false => exact (show (IsV (.slice A es.length ce)) (y 2) u' from hv) | true => exact trivial)
                    | 3, _, _, hv, hb, _, _ => exact (by obtain rfl := hb rfl; exact trivial)
                    | 4, _, _, hv, _, _, _ => exact (by cases b with | false => exact (show (IsV (.agg #[.int .i64 yv27.kind, .int .i64 yv27.at_, .int .i64 yv27.learner, .int .i64 yv27.car, .int .i64 yv27.booking, .int .i64 yv27.start, .int .i64 yv27.hours, .int .i64 yv27.day, .int .i64 yv27.weather, .int .i64 yv27.km, .int .i64 yv27.cents])) (y 4) u' from hv) | true => exact trivial)
                    | 5, _, _, hv, hb, _, _ => exact (by obtain rfl := hb rfl; exact trivial)
                    | 6, hk, _, _, _, _, _ => exact absurd rfl hk
                    | 7, _, ha, _, _, _, _ => exact absurd (ha.symm.trans (by kernel_rfl)) Bool.false_ne_true
                    | 8, _, ha, _, _, _, _ => exact absurd (ha.symm.trans (by kernel_rfl)) Bool.false_ne_true
                    | 9, _, ha, _, _, _, _ => exact absurd (ha.symm.trans (by kernel_rfl)) Bool.false_ne_true
                    | 10, _, ha, _, _, _, _ => exact absurd (ha.symm.trans (by kernel_rfl)) Bool.false_ne_true
                    | 11, _, ha, _, _, _, _ => exact absurd (ha.symm.trans (by kernel_rfl)) Bool.false_ne_true
                    | 12, _, _, hv, _, _, hj2 => exact (by obtain rfl := hj2 14 rfl (by kernel_rfl); exact (show (VarZ (WH.heap.size)) (y 12) u' from VarZ.sp2 (show (VarZ (WH.heap.size)) (y 12) u from hv) hS))
                    | 13, _, ha, _, _, _, _ => exact absurd (ha.symm.trans (by kernel_rfl)) Bool.false_ne_true
                    | 14, _, ha, _, _, _, _ => exact absurd (ha.symm.trans (by kernel_rfl)) Bool.false_ne_true
                    | 15, _, ha, _, _, _, _ => exact absurd (ha.symm.trans (by kernel_rfl)) Bool.false_ne_true
                    | k + 16, _, _, _, _, _, _ => cases b <;> cases decide (List.lookup (k + 16) _ = some 6) <;> trivial
                · refine ⟨[1, 3, 5, 12], by kernel_rfl, .inl ⟨?_, fun k hk => absurd hk (lk4 (by decide) (by decide) (by decide))⟩⟩
                  · refine one_fr ?_ ?_ ?_
                    · kernel_rfl
                    · left; kernel_rfl
                    intro Tf y W4 K Q Cv hF hC4 hd hV hK
                    have p0 : (IsV (.agg #[.slice L S.learners.length cl, .slice C S.cars.length cc, .int .i64 S.price, .int .i64 S.excess, .int .i64 S.lo, .int .i64 S.hi, .slice T S.terms.length ct])) (y 0) W4 := ((VL_setL _ _ _ _ _).1 (deps_all hd 0 (by kernel_rfl))).resolve_left (by decide)
                    have p6 : (NewV (es ++ [yv27])) (y 6) W4 := ((VL_setL _ _ _ _ _).1 (deps_all hd 6 (by kernel_rfl))).resolve_left (by decide)
                    replace p0 : y 0 = .agg #[.slice L S.learners.length cl, .slice C S.cars.length cc, .int .i64 S.price, .int .i64 S.excess, .int .i64 S.lo, .int .i64 S.hi, .slice T S.terms.length ct] := p0
                    have t159 := hF.get 0 159 (by kernel_rfl)
                    have t165 := hF.get 6 165 (by kernel_rfl)
                    rw [p0] at t159
                    rw [Array.getD_eq_getD_getElem?] at t165
                    clear hF hd
                    have hs := hRT27.out _ W4 hC4 p6
                    go_simp
                    refine hs.mono ?_
                    rintro e w7 ⟨⟨v, rfl, q1⟩, hb7⟩
                    exact hK _ _ (hV _ _ (hC4.trans (hb7.mono hC4.size)) hb7 ((VL_setL _ _ _ _ _).2 (.inr q1)))
                · refine ⟨[1, 3, 5, 12], by kernel_rfl, .inl ⟨?_, fun k hk => absurd hk (lk4 (by decide) (by decide) (by decide))⟩⟩
                  · refine one_fr ?_ ?_ ?_
                    · kernel_rfl
                    · left; kernel_rfl
                    intro Tf y W4 K Q Cv hF hC4 hd hV hK
                    have p7 : (RunQ (0) (runR S (es ++ [yv27])).1 (runR S (es ++ [yv27])).2) (y 7) W4 := ((VL_setL _ _ _ _ _).1 (deps_all hd 7 (by kernel_rfl))).resolve_left (by decide)
                    have t166 := hF.get 7 166 (by kernel_rfl)
                    rw [Array.getD_eq_getD_getElem?] at t166
                    clear hF hd
                    go_simp
                    exact hK _ _ (hV _ _ hC4 (Below.refl _ _) ((VL_setL _ _ _ _ _).2 (.inr p7)))
                · refine ⟨[1, 3, 5, 12], by kernel_rfl, .inl ⟨?_, fun k hk => absurd hk (lk4 (by decide) (by decide) (by decide))⟩⟩
                  · refine one_fr ?_ ?_ ?_
                    · kernel_rfl
                    · left; kernel_rfl
                    intro Tf y W4 K Q Cv hF hC4 hd hV hK
                    have p8 : (RunQ (0) (runR S (es ++ [yv27])).1 (runR S (es ++ [yv27])).2) (y 8) W4 := ((VL_setL _ _ _ _ _).1 (deps_all hd 8 (by kernel_rfl))).resolve_left (by decide)
                    obtain ⟨v1, v2, e4, q1, q2⟩ := p8
                    have t158 := hF.get 8 158 (by kernel_rfl)
                    rw [e4] at t158
                    clear hF hd
                    go_simp
                    exact hK _ _ (hV _ _ hC4 (Below.refl _ _) ((VL_setL _ _ _ _ _).2 (.inr q1)))
                · refine ⟨[1, 3, 5, 12], by kernel_rfl, .inl ⟨?_, fun k hk => absurd hk (lk4 (by decide) (by decide) (by decide))⟩⟩
                  · refine one_fr ?_ ?_ ?_
                    · kernel_rfl
                    · left; kernel_rfl
                    intro Tf y W4 K Q Cv hF hC4 hd hV hK
                    have p8 : (RunQ (0) (runR S (es ++ [yv27])).1 (runR S (es ++ [yv27])).2) (y 8) W4 := ((VL_setL _ _ _ _ _).1 (deps_all hd 8 (by kernel_rfl))).resolve_left (by decide)
                    obtain ⟨v1, v2, e4, q1, q2⟩ := p8
                    have t158 := hF.get 8 158 (by kernel_rfl)
                    rw [e4] at t158
                    clear hF hd
                    go_simp
                    exact hK _ _ (hV _ _ hC4 (Below.refl _ _) ((VL_setL _ _ _ _ _).2 (.inr q2)))
                · refine ⟨[1, 3, 5, 12], by kernel_rfl, .inl ⟨?_, fun k hk => absurd hk (lk4 (by decide) (by decide) (by decide))⟩⟩
                  · refine one_fr ?_ ?_ ?_
                    · kernel_rfl
                    · left; kernel_rfl
                    intro Tf y W4 K Q Cv hF hC4 hd hV hK
                    have p8 : (RunQ (0) (runR S (es ++ [yv27])).1 (runR S (es ++ [yv27])).2) (y 8) W4 := ((VL_setL _ _ _ _ _).1 (deps_all hd 8 (by kernel_rfl))).resolve_left (by decide)
                    obtain ⟨v1, v2, e4, q1, q2⟩ := p8
                    have t158 := hF.get 8 158 (by kernel_rfl)
                    rw [e4] at t158
                    clear hF hd
                    go_simp
                    exact hK _ _ (hV _ _ hC4 (Below.refl _ _) ((VL_setL _ _ _ _ _).2 (.inr rfl)))
                · refine ⟨[1, 3, 5], by kernel_rfl, .inl ⟨?_, fun k hk => absurd hk (lk4 (by decide) (by decide) (by decide))⟩⟩
                  · refine one_fr ?_ ?_ ?_
                    · kernel_rfl
                    · left; kernel_rfl
                    intro Tf y W4 K Q Cv hF hC4 hd hV hK
                    clear hF hd
                    go_simp
                    exact hK _ _ (hV _ _ (hC4.alloc hC4.size _) ((Below.refl _ _).alloc (Nat.le_refl _) _) ((VL_setL _ _ _ _ _).2 (.inr ⟨W4.heap.size, rfl, hC4.size, blkNew rfl⟩)))
                · refine ⟨[1, 3, 5, 12], by kernel_rfl, .inl ⟨?_, fun k hk => absurd hk (lk4 (by decide) (by decide) (by decide))⟩⟩
                  · refine one_fr ?_ ?_ ?_
                    · kernel_rfl
                    · left; kernel_rfl
                    intro Tf y W4 K Q Cv hF hC4 hd hV hK
                    have p9 : (IsInts (runR S (es ++ [yv27])).1) (y 9) W4 := ((VL_setL _ _ _ _ _).1 (deps_all hd 9 (by kernel_rfl))).resolve_left (by decide)
                    have t167 := hF.get 9 167 (by kernel_rfl)
                    rw [Array.getD_eq_getD_getElem?] at t167
                    clear hF hd
                    go_simp
                    exact hK _ _ (hV _ _ hC4 (Below.refl _ _) ((VL_setL _ _ _ _ _).2 (.inr p9)))
                · refine ⟨[1, 3, 5], by kernel_rfl, .inr ⟨fun y u u' => ∃ g vl vk vs va, y 12 = .pointer (some ⟨g, 0, none⟩) ∧ WH.heap.size ≤ g ∧ Blk u g 42 zState ∧ IsState (runR S (es ++ [yv27])).2 (.agg #[vl, vk, vs, va]) u ∧ Stored g u u' ∧ Blk u' g 42 #[vl, vk, vs, va], ?_, ?_⟩⟩
                  · refine ones_fr ?_ ?_ ?_
                    · kernel_rfl
                    · kernel_rfl
                    intro Tf y W4 K Q Cv hF hC4 hd hV hK
                    have p12 : (VarZ (WH.heap.size)) (y 12) W4 := ((VL_setL _ _ _ _ _).1 (deps_all hd 12 (by kernel_rfl))).resolve_left (by decide)
                    have p10 : (IsState (runR S (es ++ [yv27])).2) (y 10) W4 := ((VL_setL _ _ _ _ _).1 (deps_all hd 10 (by kernel_rfl))).resolve_left (by decide)
                    obtain ⟨g, eg, hg, hz⟩ := p12
                    obtain ⟨vl, vk, vs, va, ev, r1, r2, r3, r4⟩ := p10
                    have t19 := hF.get 12 19 (by kernel_rfl)
                    have t168 := hF.get 10 168 (by kernel_rfl)
                    rw [eg] at t19
                    rw [ev] at t168
                    have b0 : W4.cell? ⟨g, 0, none⟩ = some (.slice none 0 0) := hz.cell 0
                    have b1 : W4.cell? ⟨g, 1, none⟩ = some (.slice none 0 0) := hz.cell 1
                    have b2 : W4.cell? ⟨g, 2, none⟩ = some (.slice none 0 0) := hz.cell 2
                    have b3 : W4.cell? ⟨g, 3, none⟩ = some (.slice none 0 0) := hz.cell 3
                    have z0 := hz.frozen 0
                    have z1 := hz.frozen 1
                    have z2 := hz.frozen 2
                    have z3 := hz.frozen 3
                    obtain ⟨k1, k2⟩ := stored_set4 hz vl vk vs va
                    obtain ⟨A0, c0, rfl, -⟩ := id r1
                    rw [List.length_map] at k1 k2 r1 t168
                    obtain ⟨A1, c1, rfl, -⟩ := id r2
                    obtain ⟨A2, c2, rfl, -⟩ := id r3
                    obtain ⟨A3, c3, rfl, -⟩ := id r4
                    clear hF hd
                    go_simp
                    exact hK undef _ (hV undef _ (hC4.trans (k1.below hg)) ⟨g, _, _, _, _, eg, hg, hz, ⟨_, _, _, _, rfl, r1, r2, r3, r4⟩, k1, k2⟩ ((VL_setL _ _ _ _ _).2 (.inr trivial)))
                  · rintro y u u' k b hk ha - ⟨g, vl, vk, vs, va, eg, hg, hz, hI, hS, k2⟩ hv hb hj hj2
                    match k, hk, ha, hv, hb, hj, hj2 with
                    | 0, _, _, hv, _, _, _ => exact (by cases b with | false => exact (show (IsV (.agg #[.slice L S.learners.length cl, .slice C S.cars.length cc, .int .i64 S.price, .int .i64 S.excess, .int .i64 S.lo, .int .i64 S.hi, .slice T S.terms.length ct])) (y 0) u' from hv) | true => exact trivial)
                    | 1, _, _, _, _, hj, _ => exact (by obtain rfl := hj 3 rfl (by kernel_rfl); exact trivial)
                    | 2, _, _, hv, _, _, _ => exact (by cases b with | false => exact (show (IsV (.slice A es.length ce)) (y 2) u' from hv) | true => exact trivial)
                    | 3, _, _, _, _, hj, _ => exact (by obtain rfl := hj 6 rfl (by kernel_rfl); exact trivial)
                    | 4, _, _, hv, _, _, _ => exact (by cases b with | false => exact (show (IsV (.agg #[.int .i64 yv27.kind, .int .i64 yv27.at_, .int .i64 yv27.learner, .int .i64 yv27.car, .int .i64 yv27.booking, .int .i64 yv27.start, .int .i64 yv27.hours, .int .i64 yv27.day, .int .i64 yv27.weather, .int .i64 yv27.km, .int .i64 yv27.cents])) (y 4) u' from hv) | true => exact trivial)
                    | 5, _, _, _, _, hj, _ => exact (by obtain rfl := hj 6 rfl (by kernel_rfl); exact trivial)
                    | 6, _, _, hv, _, _, _ => exact (by cases b with | false => exact (show (NewV (es ++ [yv27])) (y 6) u' from (show (NewV (es ++ [yv27])) (y 6) u from hv).stored hS hz) | true => exact trivial)
                    | 7, _, _, hv, _, _, _ => exact (by cases b with | false => exact (show (RunQ (0) (runR S (es ++ [yv27])).1 (runR S (es ++ [yv27])).2) (y 7) u' from (show (RunQ (0) (runR S (es ++ [yv27])).1 (runR S (es ++ [yv27])).2) (y 7) u from hv).stored hS hz) | true => exact trivial)
                    | 8, _, _, hv, _, _, _ => exact (by cases b with | false => exact (show (RunQ (0) (runR S (es ++ [yv27])).1 (runR S (es ++ [yv27])).2) (y 8) u' from (show (RunQ (0) (runR S (es ++ [yv27])).1 (runR S (es ++ [yv27])).2) (y 8) u from hv).stored hS hz) | true => exact trivial)
                    | 9, _, _, hv, _, _, _ => exact (by cases b with | false => exact (show (IsInts (runR S (es ++ [yv27])).1) (y 9) u' from (show (IsInts (runR S (es ++ [yv27])).1) (y 9) u from hv).stored hS hz) | true => exact trivial)
                    | 10, _, _, hv, _, _, _ => exact (by cases b with | false => exact (show (IsState (runR S (es ++ [yv27])).2) (y 10) u' from (show (IsState (runR S (es ++ [yv27])).2) (y 10) u from hv).stored hS hz) | true => exact trivial)
                    | 11, _, _, hv, _, _, _ => exact (by cases b with | false => exact (show (IsV (.int .i64 (0))) (y 11) u' from hv) | true => exact trivial)
                    | 12, _, _, hv, hb, _, _ => exact (by obtain rfl := hb rfl; obtain ⟨g1, e1, h1, _⟩ := (hv : VarZ (WH.heap.size) (y 12) u); rw [eg] at e1; injection e1 with e1; injection e1 with e1; injection e1 with e1; subst e1; exact (show VarS (WH.heap.size) (runR S (es ++ [yv27])).2 (y 12) u' from ⟨g, vl, vk, vs, va, eg, hg, k2, hI.stored hS hz⟩))
                    | 13, _, _, hv, _, _, _ => exact (by cases b with | false => exact (show (IsInts (runR S (es ++ [yv27])).1) (y 13) u' from (show (IsInts (runR S (es ++ [yv27])).1) (y 13) u from hv).stored hS hz) | true => exact trivial)
                    | 14, hk, _, _, _, _, _ => exact absurd rfl hk
                    | 15, _, ha, _, _, _, _ => exact absurd (ha.symm.trans (by kernel_rfl)) Bool.false_ne_true
                    | k + 16, _, _, _, _, _, _ => cases b <;> cases decide (List.lookup (k + 16) _ = some 14) <;> trivial
                · refine ⟨[1, 3, 5, 12], by kernel_rfl, .inl ⟨?_, fun k hk => absurd hk (lk4 (by decide) (by decide) (by decide))⟩⟩
                  · refine one_fr ?_ ?_ ?_
                    · kernel_rfl
                    · left; kernel_rfl
                    intro Tf y W4 K Q Cv hF hC4 hd hV hK
                    have p11 : (IsV (.int .i64 (0))) (y 11) W4 := ((VL_setL _ _ _ _ _).1 (deps_all hd 11 (by kernel_rfl))).resolve_left (by decide)
                    have t169 := hF.get 11 169 (by kernel_rfl)
                    rw [Array.getD_eq_getD_getElem?] at t169
                    clear hF hd
                    go_simp
                    exact hK _ _ (hV _ _ hC4 (Below.refl _ _) ((VL_setL _ _ _ _ _).2 (.inr p11)))
              intro y W8 hC7 hE
              have e9 : (IsInts (runR S (es ++ [yv27])).1) (y 9) W8 := hE 9 (of_decide_eq_true (by kernel_rfl))
              have e12 : (VarS (WH.heap.size) (runR S (es ++ [yv27])).2) (y 12) W8 := hE 12 (of_decide_eq_true (by kernel_rfl))
              have e13 : (IsInts (runR S (es ++ [yv27])).1) (y 13) W8 := hE 13 (of_decide_eq_true (by kernel_rfl))
              have e15 : (IsV (.int .i64 (0))) (y 15) W8 := hE 15 (of_decide_eq_true (by kernel_rfl))
              clear hE
              clear e9
              obtain ⟨gb, vl, vk, vs, va, e12, -, -, -⟩ := e12
              have he2 := e13
              obtain ⟨Am, cm, e13, -⟩ := e13
              replace e15 : y 15 = .int .i64 0 := e15
              rw [e13] at he2
              simp only [putAll, Act.put]
              simp only [List.setIfInBounds_toArray, List.set_cons_succ, List.set_cons_zero]
              rw [e12, e13, e15]
              clear e12 e13 e15
              have hl27 : (runR S (es ++ [yv27])).1.length = es.length + 1 := by rw [her27.out, List.length_append, hlen.out]; rfl
              have hat : (runR S (es ++ [yv27])).1[es.length]?.getD 0 = lesErr S (runR S es).2 ⟨ln, cn, ss, hh, 0⟩ tm := by
                rw [her27.out, List.getElem?_append_right (by rw [hlen.out]; exact Nat.le_refl _), hlen.out, Nat.sub_self]; rfl
              obtain ⟨gm, om, rfl, hgm, m0⟩ := int_read he2 (j := es.length) (by rw [hl27]; omega)
              rw [hat] at m0
              rw [hl27] at he2 ⊢
              clear he2 hat
              have hBz27 := hide (hBw27.out.trans (hC7.mono hBw27.out.size))
              have hn1 : IntKind.i64.wrap ((es.length : Int) + 1) = (es.length : Int) + 1 := by rw [IntKind.wrap_i64]; omega
              have hn2 : ((es.length + 1 : Nat) : Int) = (es.length : Int) + 1 := by omega
              have hn3 : (((es.length + 1 : Nat) : Int) != (es.length : Int) + 1) = false := by rw [hn2]; simp
              have hn4 : (((es.length + 1 : Nat) : Int) == (es.length : Int) + 1) = true := by rw [hn2]; simp
              have hnz : (es.length : Int) < ((es.length + 1 : Nat) : Int) := by omega
              have hnn : (0 : Int) ≤ (es.length : Int) := by omega
              replace hn2 := hide hn2
              replace hl27 := hide hl27
              have hne := e5.out ss (by omega) (by omega)
              obtain ⟨er, her8⟩ : ∃ z, lesErr S (runR S es).2 ⟨ln, cn, ss, hh, 0⟩ tm = z := ⟨_, rfl⟩
              rw [her8] at hne m0
              replace her8 := hide her8
              have b1 : (er != 0) = true := bne_iff_ne.2 hne
              replace hne := hide hne
              go_wp2_with fail
              refine (AwakeB _).mono ?_
              rintro e w9 ⟨rfl, hb⟩
              have hBq := hide (hBz27.out.trans (hb.mono hBz27.out.size))
              clear hb
              go_wp2
              go_ret
              exact ⟨rfl, hBq.out⟩
          · subst e1
            subst e2
            have e5 : ∀ t, frm ≤ t → t < 4801 → lesErr S (runR S es).2 ⟨ln, cn, t, hh, 0⟩ tm ≠ 0 := fun t h1 h2 => e5 t h1 (by omega)
            replace e5 := hide e5
            have t3 : decide ((4801 : Int) ≤ frm) = false := decide_eq_false (by omega)
            have y4 : wF.cell? ⟨w.heap.size + 1, 4, none⟩ = some (.int .u16 x4) := kyF.out.cell 4
            have g1 : IntKind.i64.wrap x4 = x4 := by rw [IntKind.wrap_i64]; omega
            obtain ⟨dd, hdd⟩ : ∃ z, 4801 - frm = z := ⟨_, rfl⟩
            have hd9 : 1 ≤ dd ∧ dd ≤ 4801 := by omega
            have g2 : IntKind.i64.wrap dd = dd := by rw [IntKind.wrap_i64]; omega
            have g3 : (dd == 0) = false := beq_eq_false_iff_ne.2 (by omega)
            have g4 : ¬ dd = 0 := by omega
            obtain ⟨rr, hrr⟩ : ∃ z, x4.tmod dd = z := ⟨_, rfl⟩
            have hr9 : 0 ≤ rr ∧ rr < dd := by
              rw [← hrr, Int.tmod_eq_emod_of_nonneg hx4.1]
              exact ⟨Int.emod_nonneg _ (by omega), Int.emod_lt_of_pos _ (by omega)⟩
            have g5 : IntKind.i64.wrap rr = rr := by rw [IntKind.wrap_i64]; omega
            obtain ⟨ss, hss⟩ : ∃ z, frm + rr = z := ⟨_, rfl⟩
            have g6 : IntKind.i64.wrap ss = ss := by rw [IntKind.wrap_i64]; omega
            have hs9 : frm ≤ ss ∧ ss < 4801 ∧ ss ≤ 4800 := by omega
            have k5 : wF.cell? ⟨gy, 5, none⟩ = some (.int .i64 0) := kvF.out.cell 5
            have z5 := kvF.out.frozen 5
            obtain ⟨WH, hWH⟩ : ∃ z, wF.setCell ⟨gy, 5, none⟩ (.int .i64 ss) = z := ⟨_, rfl⟩
            have hBH := hide (show Below W2.heap.size W2 WH by rw [← hWH]; exact hBF.out.setCell (p := ⟨gy, 5, none⟩) hgy (.int .i64 ss))
            have kvH := hide (show Blk WH gy 65 #[.int .i64 0, .int .i64 tm, .int .i64 ln, .int .i64 cn, .int .i64 0, .int .i64 ss, .int .i64 hh, .int .i64 0, .int .i64 0, .int .i64 0, .int .i64 0] by rw [← hWH]; exact kvF.out.set_ 5 (.int .i64 ss))
            have kbH := hide (show Blk WH w.heap.size 28 _ by rw [← hWH]; exact kbF.out.far (p := ⟨gy, 5, none⟩) (by have := kb.out.lt; show w.heap.size ≠ gy; omega) (.int .i64 ss))
            replace hWH := hide hWH
            have hrq : x4 % dd = rr := by rw [← Int.tmod_eq_emod_of_nonneg hx4.1]; exact hrr
            replace hr9 := hide hr9
            go_upto_region 27 with fail
            rw [hWH.out]
            clear k5 z5 y4 g1 g2 g3 g4 g5 g6 hd9 hrq
            replace hrr := hide hrr
            replace hss := hide hss
            replace hdd := hide hdd
            obtain ⟨yv27, hyv27⟩ : ∃ e : BEv, (⟨0, tm, ln, cn, 0, ss, hh, 0, 0, 0, 0⟩ : BEv) = e := ⟨_, rfl⟩
            obtain ⟨hq27, her27⟩ := hbk.out ss (by omega)
            rw [hyv27] at hq27 her27
            have kw27 := hide (show Blk WH gy 65 (evCells yv27).toArray by rw [← hyv27]; exact kvH.out)
            have hBw27 := hide (hB.out.trans (hBH.out.mono hB.out.size))
            have hRT27 := hide (fun v W' (hb : Below WH.heap.size WH W') (h : NewV (es ++ [yv27]) v W') => (Run_k _ v S (es ++ [yv27]) W' (hSc.out W' (hBw27.out.trans (hb.mono hBw27.out.size))) h).mono (R' := fun e w' => (∃ v, e = .returned v ∧ RunQ 0 (runR S (es ++ [yv27])).1 (runR S (es ++ [yv27])).2 v w') ∧ Below W'.heap.size W' w') (by
              rintro e w' ⟨⟨v1, v2, rfl, h1, h2⟩, h3⟩
              rw [hq27]
              exact ⟨⟨_, rfl, v1, v2, rfl, h1, h2⟩, h3⟩))
            have hEvR27 := hide (fun W' (hb : Below WH.heap.size WH W') => hEW.out W' (hBw27.out.trans (hb.mono hBw27.out.size)))
            have hfA2 := hfA.out
            replace hyv27 := hide hyv27
            replace hq27 := hide hq27
            replace her27 := hide her27
            refine region_va [IsV (.agg #[.slice L S.learners.length cl, .slice C S.cars.length cc, .int .i64 S.price, .int .i64 S.excess, .int .i64 S.lo, .int .i64 S.hi, .slice T S.terms.length ct]), EmpV (WH.heap.size), IsV (.slice A es.length ce), RowV (WH.heap.size) es, IsV (.agg #[.int .i64 yv27.kind, .int .i64 yv27.at_, .int .i64 yv27.learner, .int .i64 yv27.car, .int .i64 yv27.booking, .int .i64 yv27.start, .int .i64 yv27.hours, .int .i64 yv27.day, .int .i64 yv27.weather, .int .i64 yv27.km, .int .i64 yv27.cents]), OneV (WH.heap.size) yv27, NewV (es ++ [yv27]), RunQ (0) (runR S (es ++ [yv27])).1 (runR S (es ++ [yv27])).2, RunQ (0) (runR S (es ++ [yv27])).1 (runR S (es ++ [yv27])).2, IsInts (runR S (es ++ [yv27])).1, IsState (runR S (es ++ [yv27])).2, IsV (.int .i64 (0)), VarZ (WH.heap.size), IsInts (runR S (es ++ [yv27])).1, TT, IsV (.int .i64 (0))] [TT, TT, TT, TT, TT, TT, TT, TT, TT, TT, TT, TT, VarS (WH.heap.size) (runR S (es ++ [yv27])).2, TT, TT, TT] [(1, 3), (3, 6), (5, 6), (12, 14)] (by kernel_rfl) (by kernel_rfl) (by kernel_rfl) ⟨IsV.stb _, EmpV.stb _, IsV.stb _, RowV.stb _ _, IsV.stb _, OneV.stb _ _, NewV.stb _, RunQ.stb _ _ _, RunQ.stb _ _ _, Ints.stb _, State.stb _, IsV.stb _, VarZ.stb _, Ints.stb _, TT.stb, IsV.stb _, trivial⟩ ⟨TT.stb, TT.stb, TT.stb, TT.stb, TT.stb, TT.stb, TT.stb, TT.stb, TT.stb, TT.stb, TT.stb, TT.stb, VarS.stb _ _, TT.stb, TT.stb, TT.stb, trivial⟩ ?_ ?_
            · try clear hSc
              try clear huW
              try clear hEW
              try clear hRW
              try clear heW
              try clear hxW
              try clear hlW
              try clear hkW
              try clear hsW
              try clear haW
              try clear hW
              try clear hW2
              try clear kx
              try clear hB
              try clear hb12
              try clear hFi
              try clear her
              try clear hea
              try clear ha
              try clear hfo
              try clear hbk
              try clear hlen
              try clear htb
              try clear hl9
              try clear hc9
              try clear hh9
              try clear hm9
              try clear hln
              try clear hcn
              try clear hhm
              try clear hhh
              try clear hfr
              try clear hea
              try clear ky
              try clear kyF
              try clear kyG
              refine ⟨?_, ?_, ?_, ?_, ?_, ?_, ?_, ?_, ?_, ?_, ?_, ?_, ?_, ?_, ?_, ?_, trivial⟩
              · refine ⟨[1, 3, 5, 12], by kernel_rfl, .inl ⟨?_, fun k hk => absurd hk (lk4 (by decide) (by decide) (by decide))⟩⟩
                · refine one_fr ?_ ?_ ?_
                  · kernel_rfl
                  · left; kernel_rfl
                  intro Tf y W4 K Q Cv hF hC4 hd hV hK
                  clear hd
                  have t3 := hF.old 3 (.pointer (some ⟨w.heap.size, 0, none⟩)) (by kernel_rfl) (by kernel_rfl)
                  clear hF
                  obtain ⟨c0, c1, c2, c3, c4, c5, c6⟩ := sch_cells (w := W4) (p := w.heap.size) (S := S) (kbH.out.below hC4 kbH.out.lt)
                  go_simp
                  exact hK _ _ (hV _ _ hC4 (Below.refl _ _) ((VL_setL _ _ _ _ _).2 (.inr rfl)))
              · refine ⟨[3, 5, 12], by kernel_rfl, .inl ⟨?_, fun k hk => absurd hk (lk4 (by decide) (by decide) (by decide))⟩⟩
                · refine one_fr ?_ ?_ ?_
                  · kernel_rfl
                  · left; kernel_rfl
                  intro Tf y W4 K Q Cv hF hC4 hd hV hK
                  clear hF hd
                  refine wp_mk0 rfl rfl mk0_ev ?_
                  exact hK _ _ (hV _ _ (hC4.alloc hC4.size _) ((Below.refl _ _).alloc (Nat.le_refl _) _) ((VL_setL _ _ _ _ _).2 (.inr ⟨W4.heap.size, rfl, hC4.size, blkNew rfl⟩)))
              · refine ⟨[1, 3, 5, 12], by kernel_rfl, .inl ⟨?_, fun k hk => absurd hk (lk4 (by decide) (by decide) (by decide))⟩⟩
                · refine one_fr ?_ ?_ ?_
                  · kernel_rfl
                  · left; kernel_rfl
                  intro Tf y W4 K Q Cv hF hC4 hd hV hK
                  clear hd
                  have t1 := hF.old 1 (.slice A es.length ce) (by kernel_rfl) (by kernel_rfl)
                  clear hF
                  go_simp
                  exact hK _ _ (hV _ _ hC4 (Below.refl _ _) ((VL_setL _ _ _ _ _).2 (.inr rfl)))
              · refine ⟨[5, 12], by kernel_rfl, .inr ⟨fun y u u' => Sp1 (WH.heap.size) (y 1) u u', ?_, ?_⟩⟩
                · refine ones_fr ?_ ?_ ?_
                  · kernel_rfl
                  · kernel_rfl
                  intro Tf y W4 K Q Cv hF hC4 hd hV hK
                  have p1 : (EmpV (WH.heap.size)) (y 1) W4 := ((VL_setL _ _ _ _ _).1 (deps_all hd 1 (by kernel_rfl))).resolve_left (by decide)
                  have p2 : (IsV (.slice A es.length ce)) (y 2) W4 := ((VL_setL _ _ _ _ _).1 (deps_all hd 2 (by kernel_rfl))).resolve_left (by decide)
                  replace p2 : y 2 = .slice A es.length ce := p2
                  have t160 := hF.get 1 160 (by kernel_rfl)
                  have t161 := hF.get 2 161 (by kernel_rfl)
                  rw [p2] at t161
                  clear hF hd
                  obtain ⟨v', u', hr, q1, q2, q3⟩ := app_first p1 hC4.size (hEvR27.out W4 hC4) hfA2 (by omega)
                  refine wp_append_run (.tmp 160) (.tmp 161) 37 rfl _ _ _ t160 t161 hr ?_
                  exact hK _ _ (hV _ _ (hC4.trans q3) q2 ((VL_setL _ _ _ _ _).2 (.inr q1)))
                · rintro y u u' k b hk ha - hS hv hb hj hj2
                  match k, hk, ha, hv, hb, hj, hj2 with
                  | 0, _, _, hv, _, _, _ => exact (by cases b with | false => exact (show (IsV (.agg #[.slice L S.learners.length cl, .slice C S.cars.length cc, .int .i64 S.price, .int .i64 S.excess, .int .i64 S.lo, .int .i64 S.hi, .slice T S.terms.length ct])) (y 0) u' from hv) | true => exact trivial)
                  | 1, _, _, hv, hb, _, _ => exact (by obtain rfl := hb rfl; exact trivial)
                  | 2, _, _, hv, _, _, _ => exact (by cases b with | false => exact (show (IsV (.slice A es.length ce)) (y 2) u' from hv) | true => exact trivial)
                  | 3, hk, _, _, _, _, _ => exact absurd rfl hk
                  | 4, _, _, hv, _, _, _ => exact (by cases b with | false => exact (show (IsV (.agg #[.int .i64 yv27.kind, .int .i64 yv27.at_, .int .i64 yv27.learner, .int .i64 yv27.car, .int .i64 yv27.booking, .int .i64 yv27.start, .int .i64 yv27.hours, .int .i64 yv27.day, .int .i64 yv27.weather, .int .i64 yv27.km, .int .i64 yv27.cents])) (y 4) u' from hv) | true => exact trivial)
                  | 5, _, _, hv, _, _, hj2 => exact (by obtain rfl := hj2 6 rfl (by kernel_rfl); exact (show (OneV (WH.heap.size) yv27) (y 5) u' from OneV.sp1 (show (OneV (WH.heap.size) yv27) (y 5) u from hv) hS))
                  | 6, _, ha, _, _, _, _ => exact absurd (ha.symm.trans (by kernel_rfl)) Bool.false_ne_true
                  | 7, _, ha, _, _, _, _ => exact absurd (ha.symm.trans (by kernel_rfl)) Bool.false_ne_true
                  | 8, _, ha, _, _, _, _ => exact absurd (ha.symm.trans (by kernel_rfl)) Bool.false_ne_true
                  | 9, _, ha, _, _, _, _ => exact absurd (ha.symm.trans (by kernel_rfl)) Bool.false_ne_true
                  | 10, _, ha, _, _, _, _ => exact absurd (ha.symm.trans (by kernel_rfl)) Bool.false_ne_true
                  | 11, _, ha, _, _, _, _ => exact absurd (ha.symm.trans (by kernel_rfl)) Bool.false_ne_true
                  | 12, _, _, hv, _, _, hj2 => exact (by obtain rfl := hj2 14 rfl (by kernel_rfl); exact (show (VarZ (WH.heap.size)) (y 12) u' from VarZ.sp1 (show (VarZ (WH.heap.size)) (y 12) u from hv) hS))
                  | 13, _, ha, _, _, _, _ => exact absurd (ha.symm.trans (by kernel_rfl)) Bool.false_ne_true
                  | 14, _, ha, _, _, _, _ => exact absurd (ha.symm.trans (by kernel_rfl)) Bool.false_ne_true
                  | 15, _, ha, _, _, _, _ => exact absurd (ha.symm.trans (by kernel_rfl)) Bool.false_ne_true
                  | k + 16, _, _, _, _, _, _ => cases b <;> cases decide (List.lookup (k + 16) _ = some 3) <;> trivial
              · refine ⟨[1, 3, 5, 12], by kernel_rfl, .inl ⟨?_, fun k hk => absurd hk (lk4 (by decide) (by decide) (by decide))⟩⟩
                · refine one_fr ?_ ?_ ?_
                  · kernel_rfl
                  · left; kernel_rfl
                  intro Tf y W4 K Q Cv hF hC4 hd hV hK
                  clear hd
                  have t10 := hF.old 10 (.pointer (some ⟨gy, 0, none⟩)) (by kernel_rfl) (by kernel_rfl)
                  clear hF
                  have kk := kw27.out.below hC4 kw27.out.lt
                  obtain ⟨k0, k1, k2, k3, k4, k5, k6, k7, k8, k9, k10⟩ := ev_cells kk
                  unfold evCells at *
                  clear kk
                  go_simp
                  exact hK _ _ (hV _ _ hC4 (Below.refl _ _) ((VL_setL _ _ _ _ _).2 (.inr rfl)))
              · refine ⟨[1, 3, 12], by kernel_rfl, .inl ⟨?_, fun k hk => absurd hk (lk4 (by decide) (by decide) (by decide))⟩⟩
                · refine one_fr ?_ ?_ ?_
                  · kernel_rfl
                  · left; kernel_rfl
                  intro Tf y W4 K Q Cv hF hC4 hd hV hK
                  have p4 : (IsV (.agg #[.int .i64 yv27.kind, .int .i64 yv27.at_, .int .i64 yv27.learner, .int .i64 yv27.car, .int .i64 yv27.booking, .int .i64 yv27.start, .int .i64 yv27.hours, .int .i64 yv27.day, .int .i64 yv27.weather, .int .i64 yv27.km, .int .i64 yv27.cents])) (y 4) W4 := ((VL_setL _ _ _ _ _).1 (deps_all hd 4 (by kernel_rfl))).resolve_left (by decide)
                  replace p4 : y 4 = .agg #[.int .i64 yv27.kind, .int .i64 yv27.at_, .int .i64 yv27.learner, .int .i64 yv27.car, .int .i64 yv27.booking, .int .i64 yv27.start, .int .i64 yv27.hours, .int .i64 yv27.day, .int .i64 yv27.weather, .int .i64 yv27.km, .int .i64 yv27.cents] := p4
                  have t163 := hF.get 4 163 (by kernel_rfl)
                  rw [p4] at t163
                  have tt := t163
                  rw [Array.getD_eq_getD_getElem?] at tt
                  clear hF hd p4
                  go_simp
                  exact hK _ _ (hV _ _ (hC4.alloc hC4.size _) ((Below.refl _ _).alloc (Nat.le_refl _) _) ((VL_setL _ _ _ _ _).2 (.inr ⟨W4.heap.size, rfl, hC4.size, blkNew rfl⟩)))
              · refine ⟨[1, 12], by kernel_rfl, .inr ⟨fun y u u' => Sp2 (WH.heap.size) es (y 3) u u', ?_, ?_⟩⟩
                · refine ones_fr ?_ ?_ ?_
                  · kernel_rfl
                  · kernel_rfl
                  intro Tf y W4 K Q Cv hF hC4 hd hV hK
                  have p3 : (RowV (WH.heap.size) es) (y 3) W4 := ((VL_setL _ _ _ _ _).1 (deps_all hd 3 (by kernel_rfl))).resolve_left (by decide)
                  have p5 : (OneV (WH.heap.size) yv27) (y 5) W4 := ((VL_setL _ _ _ _ _).1 (deps_all hd 5 (by kernel_rfl))).resolve_left (by decide)
                  have t162 := hF.get 3 162 (by kernel_rfl)
                  have t164 := hF.get 5 164 (by kernel_rfl)
                  clear hF hd
                  obtain ⟨v', u', hr, q1, q2, q3⟩ := app_second p3 hC4.size p5 (by omega)
                  refine wp_append_run (.tmp 162) (.tmp 164) 37 rfl _ _ _ t162 t164 hr ?_
                  exact hK _ _ (hV _ _ (hC4.trans q3) q2 ((VL_setL _ _ _ _ _).2 (.inr q1)))
                · rintro y u u' k b hk ha - hS hv hb hj hj2
                  match k, hk, ha, hv, hb, hj, hj2 with
                  | 0, _, _, hv, _, _, _ => exact (by cases b with | false => exact (show (IsV (.agg #[.slice L S.learners.length cl, .slice C S.cars.length cc, .int .i64 S.price, .int .i64 S.excess, .int .i64 S.lo, .int .i64 S.hi, .slice T S.terms.length ct])) (y 0) u' from hv) | true => exact trivial)
                  | 1, _, _, _, _, hj, _ => exact (by obtain rfl := hj 3 rfl (by kernel_rfl); exact trivial)
                  | 2, _, _, hv, _, _, _ => exact (by cases b with | false => exact (show (IsV (.slice A es.length ce)) (y 2) u' from hv) | true => exact trivial)
                  | 3, _, _, hv, hb, _, _ => exact (by obtain rfl := hb rfl; exact trivial)
                  | 4, _, _, hv, _, _, _ => exact (by cases b with | false => exact (show (IsV (.agg #[.int .i64 yv27.kind, .int .i64 yv27.at_, .int .i64 yv27.learner, .int .i64 yv27.car, .int .i64 yv27.booking, .int .i64 yv27.start, .int .i64 yv27.hours, .int .i64 yv27.day, .int .i64 yv27.weather, .int .i64 yv27.km, .int .i64 yv27.cents])) (y 4) u' from hv) | true => exact trivial)
                  | 5, _, _, hv, hb, _, _ => exact (by obtain rfl := hb rfl; exact trivial)
                  | 6, hk, _, _, _, _, _ => exact absurd rfl hk
                  | 7, _, ha, _, _, _, _ => exact absurd (ha.symm.trans (by kernel_rfl)) Bool.false_ne_true
                  | 8, _, ha, _, _, _, _ => exact absurd (ha.symm.trans (by kernel_rfl)) Bool.false_ne_true
                  | 9, _, ha, _, _, _, _ => exact absurd (ha.symm.trans (by kernel_rfl)) Bool.false_ne_true
                  | 10, _, ha, _, _, _, _ => exact absurd (ha.symm.trans (by kernel_rfl)) Bool.false_ne_true
                  | 11, _, ha, _, _, _, _ => exact absurd (ha.symm.trans (by kernel_rfl)) Bool.false_ne_true
                  | 12, _, _, hv, _, _, hj2 => exact (by obtain rfl := hj2 14 rfl (by kernel_rfl); exact (show (VarZ (WH.heap.size)) (y 12) u' from VarZ.sp2 (show (VarZ (WH.heap.size)) (y 12) u from hv) hS))
                  | 13, _, ha, _, _, _, _ => exact absurd (ha.symm.trans (by kernel_rfl)) Bool.false_ne_true
                  | 14, _, ha, _, _, _, _ => exact absurd (ha.symm.trans (by kernel_rfl)) Bool.false_ne_true
                  | 15, _, ha, _, _, _, _ => exact absurd (ha.symm.trans (by kernel_rfl)) Bool.false_ne_true
                  | k + 16, _, _, _, _, _, _ => cases b <;> cases decide (List.lookup (k + 16) _ = some 6) <;> trivial
              · refine ⟨[1, 3, 5, 12], by kernel_rfl, .inl ⟨?_, fun k hk => absurd hk (lk4 (by decide) (by decide) (by decide))⟩⟩
                · refine one_fr ?_ ?_ ?_
                  · kernel_rfl
                  · left; kernel_rfl
                  intro Tf y W4 K Q Cv hF hC4 hd hV hK
                  have p0 : (IsV (.agg #[.slice L S.learners.length cl, .slice C S.cars.length cc, .int .i64 S.price, .int .i64 S.excess, .int .i64 S.lo, .int .i64 S.hi, .slice T S.terms.length ct])) (y 0) W4 := ((VL_setL _ _ _ _ _).1 (deps_all hd 0 (by kernel_rfl))).resolve_left (by decide)
                  have p6 : (NewV (es ++ [yv27])) (y 6) W4 := ((VL_setL _ _ _ _ _).1 (deps_all hd 6 (by kernel_rfl))).resolve_left (by decide)
                  replace p0 : y 0 = .agg #[.slice L S.learners.length cl, .slice C S.cars.length cc, .int .i64 S.price, .int .i64 S.excess, .int .i64 S.lo, .int .i64 S.hi, .slice T S.terms.length ct] := p0
                  have t159 := hF.get 0 159 (by kernel_rfl)
                  have t165 := hF.get 6 165 (by kernel_rfl)
                  rw [p0] at t159
                  rw [Array.getD_eq_getD_getElem?] at t165
                  clear hF hd
                  have hs := hRT27.out _ W4 hC4 p6
                  go_simp
                  refine hs.mono ?_
                  rintro e w7 ⟨⟨v, rfl, q1⟩, hb7⟩
                  exact hK _ _ (hV _ _ (hC4.trans (hb7.mono hC4.size)) hb7 ((VL_setL _ _ _ _ _).2 (.inr q1)))
              · refine ⟨[1, 3, 5, 12], by kernel_rfl, .inl ⟨?_, fun k hk => absurd hk (lk4 (by decide) (by decide) (by decide))⟩⟩
                · refine one_fr ?_ ?_ ?_
                  · kernel_rfl
                  · left; kernel_rfl
                  intro Tf y W4 K Q Cv hF hC4 hd hV hK
                  have p7 : (RunQ (0) (runR S (es ++ [yv27])).1 (runR S (es ++ [yv27])).2) (y 7) W4 := ((VL_setL _ _ _ _ _).1 (deps_all hd 7 (by kernel_rfl))).resolve_left (by decide)
                  have t166 := hF.get 7 166 (by kernel_rfl)
                  rw [Array.getD_eq_getD_getElem?] at t166
                  clear hF hd
                  go_simp
                  exact hK _ _ (hV _ _ hC4 (Below.refl _ _) ((VL_setL _ _ _ _ _).2 (.inr p7)))
              · refine ⟨[1, 3, 5, 12], by kernel_rfl, .inl ⟨?_, fun k hk => absurd hk (lk4 (by decide) (by decide) (by decide))⟩⟩
                · refine one_fr ?_ ?_ ?_
                  · kernel_rfl
                  · left; kernel_rfl
                  intro Tf y W4 K Q Cv hF hC4 hd hV hK
                  have p8 : (RunQ (0) (runR S (es ++ [yv27])).1 (runR S (es ++ [yv27])).2) (y 8) W4 := ((VL_setL _ _ _ _ _).1 (deps_all hd 8 (by kernel_rfl))).resolve_left (by decide)
                  obtain ⟨v1, v2, e4, q1, q2⟩ := p8
                  have t158 := hF.get 8 158 (by kernel_rfl)
                  rw [e4] at t158
                  clear hF hd
                  go_simp
                  exact hK _ _ (hV _ _ hC4 (Below.refl _ _) ((VL_setL _ _ _ _ _).2 (.inr q1)))
              · refine ⟨[1, 3, 5, 12], by kernel_rfl, .inl ⟨?_, fun k hk => absurd hk (lk4 (by decide) (by decide) (by decide))⟩⟩
                · refine one_fr ?_ ?_ ?_
                  · kernel_rfl
                  · left; kernel_rfl
                  intro Tf y W4 K Q Cv hF hC4 hd hV hK
                  have p8 : (RunQ (0) (runR S (es ++ [yv27])).1 (runR S (es ++ [yv27])).2) (y 8) W4 := ((VL_setL _ _ _ _ _).1 (deps_all hd 8 (by kernel_rfl))).resolve_left (by decide)
                  obtain ⟨v1, v2, e4, q1, q2⟩ := p8
                  have t158 := hF.get 8 158 (by kernel_rfl)
                  rw [e4] at t158
                  clear hF hd
                  go_simp
                  exact hK _ _ (hV _ _ hC4 (Below.refl _ _) ((VL_setL _ _ _ _ _).2 (.inr q2)))
              · refine ⟨[1, 3, 5, 12], by kernel_rfl, .inl ⟨?_, fun k hk => absurd hk (lk4 (by decide) (by decide) (by decide))⟩⟩
                · refine one_fr ?_ ?_ ?_
                  · kernel_rfl
                  · left; kernel_rfl
                  intro Tf y W4 K Q Cv hF hC4 hd hV hK
                  have p8 : (RunQ (0) (runR S (es ++ [yv27])).1 (runR S (es ++ [yv27])).2) (y 8) W4 := ((VL_setL _ _ _ _ _).1 (deps_all hd 8 (by kernel_rfl))).resolve_left (by decide)
                  obtain ⟨v1, v2, e4, q1, q2⟩ := p8
                  have t158 := hF.get 8 158 (by kernel_rfl)
                  rw [e4] at t158
                  clear hF hd
                  go_simp
                  exact hK _ _ (hV _ _ hC4 (Below.refl _ _) ((VL_setL _ _ _ _ _).2 (.inr rfl)))
              · refine ⟨[1, 3, 5], by kernel_rfl, .inl ⟨?_, fun k hk => absurd hk (lk4 (by decide) (by decide) (by decide))⟩⟩
                · refine one_fr ?_ ?_ ?_
                  · kernel_rfl
                  · left; kernel_rfl
                  intro Tf y W4 K Q Cv hF hC4 hd hV hK
                  clear hF hd
                  go_simp
                  exact hK _ _ (hV _ _ (hC4.alloc hC4.size _) ((Below.refl _ _).alloc (Nat.le_refl _) _) ((VL_setL _ _ _ _ _).2 (.inr ⟨W4.heap.size, rfl, hC4.size, blkNew rfl⟩)))
              · refine ⟨[1, 3, 5, 12], by kernel_rfl, .inl ⟨?_, fun k hk => absurd hk (lk4 (by decide) (by decide) (by decide))⟩⟩
                · refine one_fr ?_ ?_ ?_
                  · kernel_rfl
                  · left; kernel_rfl
                  intro Tf y W4 K Q Cv hF hC4 hd hV hK
                  have p9 : (IsInts (runR S (es ++ [yv27])).1) (y 9) W4 := ((VL_setL _ _ _ _ _).1 (deps_all hd 9 (by kernel_rfl))).resolve_left (by decide)
                  have t167 := hF.get 9 167 (by kernel_rfl)
                  rw [Array.getD_eq_getD_getElem?] at t167
                  clear hF hd
                  go_simp
                  exact hK _ _ (hV _ _ hC4 (Below.refl _ _) ((VL_setL _ _ _ _ _).2 (.inr p9)))
              · refine ⟨[1, 3, 5], by kernel_rfl, .inr ⟨fun y u u' => ∃ g vl vk vs va, y 12 = .pointer (some ⟨g, 0, none⟩) ∧ WH.heap.size ≤ g ∧ Blk u g 42 zState ∧ IsState (runR S (es ++ [yv27])).2 (.agg #[vl, vk, vs, va]) u ∧ Stored g u u' ∧ Blk u' g 42 #[vl, vk, vs, va], ?_, ?_⟩⟩
                · refine ones_fr ?_ ?_ ?_
                  · kernel_rfl
                  · kernel_rfl
                  intro Tf y W4 K Q Cv hF hC4 hd hV hK
                  have p12 : (VarZ (WH.heap.size)) (y 12) W4 := ((VL_setL _ _ _ _ _).1 (deps_all hd 12 (by kernel_rfl))).resolve_left (by decide)
                  have p10 : (IsState (runR S (es ++ [yv27])).2) (y 10) W4 := ((VL_setL _ _ _ _ _).1 (deps_all hd 10 (by kernel_rfl))).resolve_left (by decide)
                  obtain ⟨g, eg, hg, hz⟩ := p12
                  obtain ⟨vl, vk, vs, va, ev, r1, r2, r3, r4⟩ := p10
                  have t19 := hF.get 12 19 (by kernel_rfl)
                  have t168 := hF.get 10 168 (by kernel_rfl)
                  rw [eg] at t19
                  rw [ev] at t168
                  have b0 : W4.cell? ⟨g, 0, none⟩ = some (.slice none 0 0) := hz.cell 0
                  have b1 : W4.cell? ⟨g, 1, none⟩ = some (.slice none 0 0) := hz.cell 1
                  have b2 : W4.cell? ⟨g, 2, none⟩ = some (.slice none 0 0) := hz.cell 2
                  have b3 : W4.cell? ⟨g, 3, none⟩ = some (.slice none 0 0) := hz.cell 3
                  have z0 := hz.frozen 0
                  have z1 := hz.frozen 1
                  have z2 := hz.frozen 2
                  have z3 := hz.frozen 3
                  obtain ⟨k1, k2⟩ := stored_set4 hz vl vk vs va
                  obtain ⟨A0, c0, rfl, -⟩ := id r1
                  rw [List.length_map] at k1 k2 r1 t168
                  obtain ⟨A1, c1, rfl, -⟩ := id r2
                  obtain ⟨A2, c2, rfl, -⟩ := id r3
                  obtain ⟨A3, c3, rfl, -⟩ := id r4
                  clear hF hd
                  go_simp
                  exact hK undef _ (hV undef _ (hC4.trans (k1.below hg)) ⟨g, _, _, _, _, eg, hg, hz, ⟨_, _, _, _, rfl, r1, r2, r3, r4⟩, k1, k2⟩ ((VL_setL _ _ _ _ _).2 (.inr trivial)))
                · rintro y u u' k b hk ha - ⟨g, vl, vk, vs, va, eg, hg, hz, hI, hS, k2⟩ hv hb hj hj2
                  match k, hk, ha, hv, hb, hj, hj2 with
                  | 0, _, _, hv, _, _, _ => exact (by cases b with | false => exact (show (IsV (.agg #[.slice L S.learners.length cl, .slice C S.cars.length cc, .int .i64 S.price, .int .i64 S.excess, .int .i64 S.lo, .int .i64 S.hi, .slice T S.terms.length ct])) (y 0) u' from hv) | true => exact trivial)
                  | 1, _, _, _, _, hj, _ => exact (by obtain rfl := hj 3 rfl (by kernel_rfl); exact trivial)
                  | 2, _, _, hv, _, _, _ => exact (by cases b with | false => exact (show (IsV (.slice A es.length ce)) (y 2) u' from hv) | true => exact trivial)
                  | 3, _, _, _, _, hj, _ => exact (by obtain rfl := hj 6 rfl (by kernel_rfl); exact trivial)
                  | 4, _, _, hv, _, _, _ => exact (by cases b with | false => exact (show (IsV (.agg #[.int .i64 yv27.kind, .int .i64 yv27.at_, .int .i64 yv27.learner, .int .i64 yv27.car, .int .i64 yv27.booking, .int .i64 yv27.start, .int .i64 yv27.hours, .int .i64 yv27.day, .int .i64 yv27.weather, .int .i64 yv27.km, .int .i64 yv27.cents])) (y 4) u' from hv) | true => exact trivial)
                  | 5, _, _, _, _, hj, _ => exact (by obtain rfl := hj 6 rfl (by kernel_rfl); exact trivial)
                  | 6, _, _, hv, _, _, _ => exact (by cases b with | false => exact (show (NewV (es ++ [yv27])) (y 6) u' from (show (NewV (es ++ [yv27])) (y 6) u from hv).stored hS hz) | true => exact trivial)
                  | 7, _, _, hv, _, _, _ => exact (by cases b with | false => exact (show (RunQ (0) (runR S (es ++ [yv27])).1 (runR S (es ++ [yv27])).2) (y 7) u' from (show (RunQ (0) (runR S (es ++ [yv27])).1 (runR S (es ++ [yv27])).2) (y 7) u from hv).stored hS hz) | true => exact trivial)
                  | 8, _, _, hv, _, _, _ => exact (by cases b with | false => exact (show (RunQ (0) (runR S (es ++ [yv27])).1 (runR S (es ++ [yv27])).2) (y 8) u' from (show (RunQ (0) (runR S (es ++ [yv27])).1 (runR S (es ++ [yv27])).2) (y 8) u from hv).stored hS hz) | true => exact trivial)
                  | 9, _, _, hv, _, _, _ => exact (by cases b with | false => exact (show (IsInts (runR S (es ++ [yv27])).1) (y 9) u' from (show (IsInts (runR S (es ++ [yv27])).1) (y 9) u from hv).stored hS hz) | true => exact trivial)
                  | 10, _, _, hv, _, _, _ => exact (by cases b with | false => exact (show (IsState (runR S (es ++ [yv27])).2) (y 10) u' from (show (IsState (runR S (es ++ [yv27])).2) (y 10) u from hv).stored hS hz) | true => exact trivial)
                  | 11, _, _, hv, _, _, _ => exact (by cases b with | false => exact (show (IsV (.int .i64 (0))) (y 11) u' from hv) | true => exact trivial)
                  | 12, _, _, hv, hb, _, _ => exact (by obtain rfl := hb rfl; obtain ⟨g1, e1, h1, _⟩ := (hv : VarZ (WH.heap.size) (y 12) u); rw [eg] at e1; injection e1 with e1; injection e1 with e1; injection e1 with e1; subst e1; exact (show VarS (WH.heap.size) (runR S (es ++ [yv27])).2 (y 12) u' from ⟨g, vl, vk, vs, va, eg, hg, k2, hI.stored hS hz⟩))
                  | 13, _, _, hv, _, _, _ => exact (by cases b with | false => exact (show (IsInts (runR S (es ++ [yv27])).1) (y 13) u' from (show (IsInts (runR S (es ++ [yv27])).1) (y 13) u from hv).stored hS hz) | true => exact trivial)
                  | 14, hk, _, _, _, _, _ => exact absurd rfl hk
                  | 15, _, ha, _, _, _, _ => exact absurd (ha.symm.trans (by kernel_rfl)) Bool.false_ne_true
                  | k + 16, _, _, _, _, _, _ => cases b <;> cases decide (List.lookup (k + 16) _ = some 14) <;> trivial
              · refine ⟨[1, 3, 5, 12], by kernel_rfl, .inl ⟨?_, fun k hk => absurd hk (lk4 (by decide) (by decide) (by decide))⟩⟩
                · refine one_fr ?_ ?_ ?_
                  · kernel_rfl
                  · left; kernel_rfl
                  intro Tf y W4 K Q Cv hF hC4 hd hV hK
                  have p11 : (IsV (.int .i64 (0))) (y 11) W4 := ((VL_setL _ _ _ _ _).1 (deps_all hd 11 (by kernel_rfl))).resolve_left (by decide)
                  have t169 := hF.get 11 169 (by kernel_rfl)
                  rw [Array.getD_eq_getD_getElem?] at t169
                  clear hF hd
                  go_simp
                  exact hK _ _ (hV _ _ hC4 (Below.refl _ _) ((VL_setL _ _ _ _ _).2 (.inr p11)))
            intro y W8 hC7 hE
            have e9 : (IsInts (runR S (es ++ [yv27])).1) (y 9) W8 := hE 9 (of_decide_eq_true (by kernel_rfl))
            have e12 : (VarS (WH.heap.size) (runR S (es ++ [yv27])).2) (y 12) W8 := hE 12 (of_decide_eq_true (by kernel_rfl))
            have e13 : (IsInts (runR S (es ++ [yv27])).1) (y 13) W8 := hE 13 (of_decide_eq_true (by kernel_rfl))
            have e15 : (IsV (.int .i64 (0))) (y 15) W8 := hE 15 (of_decide_eq_true (by kernel_rfl))
            clear hE
            clear e9
            obtain ⟨gb, vl, vk, vs, va, e12, -, -, -⟩ := e12
            have he2 := e13
            obtain ⟨Am, cm, e13, -⟩ := e13
            replace e15 : y 15 = .int .i64 0 := e15
            rw [e13] at he2
            simp only [putAll, Act.put]
            simp only [List.setIfInBounds_toArray, List.set_cons_succ, List.set_cons_zero]
            rw [e12, e13, e15]
            clear e12 e13 e15
            have hl27 : (runR S (es ++ [yv27])).1.length = es.length + 1 := by rw [her27.out, List.length_append, hlen.out]; rfl
            have hat : (runR S (es ++ [yv27])).1[es.length]?.getD 0 = lesErr S (runR S es).2 ⟨ln, cn, ss, hh, 0⟩ tm := by
              rw [her27.out, List.getElem?_append_right (by rw [hlen.out]; exact Nat.le_refl _), hlen.out, Nat.sub_self]; rfl
            obtain ⟨gm, om, rfl, hgm, m0⟩ := int_read he2 (j := es.length) (by rw [hl27]; omega)
            rw [hat] at m0
            rw [hl27] at he2 ⊢
            clear he2 hat
            have hBz27 := hide (hBw27.out.trans (hC7.mono hBw27.out.size))
            have hn1 : IntKind.i64.wrap ((es.length : Int) + 1) = (es.length : Int) + 1 := by rw [IntKind.wrap_i64]; omega
            have hn2 : ((es.length + 1 : Nat) : Int) = (es.length : Int) + 1 := by omega
            have hn3 : (((es.length + 1 : Nat) : Int) != (es.length : Int) + 1) = false := by rw [hn2]; simp
            have hn4 : (((es.length + 1 : Nat) : Int) == (es.length : Int) + 1) = true := by rw [hn2]; simp
            have hnz : (es.length : Int) < ((es.length + 1 : Nat) : Int) := by omega
            have hnn : (0 : Int) ≤ (es.length : Int) := by omega
            replace hn2 := hide hn2
            replace hl27 := hide hl27
            have hne := e5.out ss (by omega) (by omega)
            obtain ⟨er, her8⟩ : ∃ z, lesErr S (runR S es).2 ⟨ln, cn, ss, hh, 0⟩ tm = z := ⟨_, rfl⟩
            rw [her8] at hne m0
            replace her8 := hide her8
            have b1 : (er != 0) = true := bne_iff_ne.2 hne
            replace hne := hide hne
            go_wp2_with fail
            refine (AwakeB _).mono ?_
            rintro e w9 ⟨rfl, hb⟩
            have hBq := hide (hBz27.out.trans (hb.mono hBz27.out.size))
            clear hb
            go_wp2
            go_ret
            exact ⟨rfl, hBq.out⟩
  · have hvt := hide (fun W (hb : Below w.heap.size w W) => show Calls Try.prog 33 #[.agg #[.slice L S.learners.length cl, .slice C S.cars.length cc, .int .i64 S.price, .int .i64 S.excess, .int .i64 S.lo, .int .i64 S.hi, .slice T S.terms.length ct]] W fun e w' => e = .returned (.bool false) ∧ Below W.heap.size W w' from by
      have := hV.out W hb
      rwa [decide_eq_false hck] at this)
    replace hck := hide hck
    clear hV
    go_wp2_with fail
    refine (hvt.out W hB.out).mono ?_
    rintro e w0 ⟨rfl, hb⟩
    replace hB := hide (hB.out.trans (hb.mono hB.out.size))
    clear hb hSc huW hRW hEW hRun hFi hvt c0 c1 c2 c3 c4 c5 c6
    go_wp2_with fail
    refine (AwakeB _).mono ?_
    rintro e w5 ⟨rfl, hb⟩
    replace hB := hide (hB.out.trans (hb.mono hB.out.size))
    clear hb
    go_wp2
    go_ret
    exact ⟨rfl, hB.out⟩
end Go.Proofs.Ytkmhldjebopljaa
