import Derived.Test.YtkmhldjebopljaaOx
import Derived.Test.YtkmhldjebopljaaOv
/-
  The law's Awake: all calls of the examples return what is said of them.
-/
namespace Go.Proofs.Ytkmhldjebopljaa
open Go.RowKit RG

set_option maxRecDepth 100000 in
set_option maxHeartbeats 16000000 in
theorem AwakeB (w : World) : Calls Try.prog 20 #[] w fun e w' => e = .returned (.bool true) ∧ Below w.heap.size w w' := by
  go_enter Try.func20, Try.ntmps20
  go_wp2_with fail
  refine (School_w _).mono ?_
  rintro e w1 ⟨⟨v1, rfl, h1⟩, hb⟩
  have hB := hide hb
  replace h1 := hide h1
  clear hb
  go_wp2_with fail
  refine (Fee_any v1 S1 2 28 _ h1.out).mono ?_
  rintro e w2 ⟨rfl, hb⟩
  clear h1
  replace hB := hide (hB.out.trans (hb.mono hB.out.size))
  clear hb
  rw [fee_0]
  go_wp2_with fail
  refine (School_w _).mono ?_
  rintro e w3 ⟨⟨v2, rfl, h2⟩, hb⟩
  replace hB := hide (hB.out.trans (hb.mono hB.out.size))
  replace h2 := hide h2
  clear hb
  go_wp2_with fail
  refine (Crash_w _).mono ?_
  rintro e w4 ⟨⟨u2, rfl, e2⟩, hb⟩
  replace h2 := hide (h2.out.below hb)
  replace hB := hide (hB.out.trans (hb.mono hB.out.size))
  replace e2 := hide e2
  clear hb
  go_wp2_with fail
  refine (Run_k v2 u2 S1 EvC _ h2.out e2.out).mono ?_
  rintro e w5 ⟨⟨pl, px, rfl, ph, ps⟩, hb⟩
  clear h2
  clear e2
  replace hB := hide (hB.out.trans (hb.mono hB.out.size))
  replace ph := hide ph
  replace ps := hide ps
  clear hb
  rw [runE_C]
  obtain ⟨pA0, pn0, pc0, pA1, pn1, pc1, pA2, pn2, pc2, pA3, pn3, pc3, rfl, pr0, pr1, pr2, pr3, pnn⟩ := ps.out.shape
  clear pnn
  replace pr0 := hide pr0
  replace pr1 := hide pr1
  replace pr2 := hide pr2
  replace pr3 := hide pr3
  have hb := (Below.refl w5.heap.size w5).alloc (Nat.le_refl _) (.cells #[.slice pA0 pn0 pc0, .slice pA1 pn1 pc1, .slice pA2 pn2 pc2, .slice pA3 pn3 pc3] 42)
  replace ph := hide (ph.out.below hb)
  replace ps := hide (ps.out.below hb)
  replace pr0 := hide (pr0.out.below hb)
  replace pr1 := hide (pr1.out.below hb)
  replace pr2 := hide (pr2.out.below hb)
  replace pr3 := hide (pr3.out.below hb)
  have ka := hide ((blkNew (w := w5) (t := 42) (cs := #[.slice pA0 pn0 pc0, .slice pA1 pn1 pc1, .slice pA2 pn2 pc2, .slice pA3 pn3 pc3]) rfl))
  replace hB := hide (hB.out.alloc hB.out.size (.cells #[.slice pA0 pn0 pc0, .slice pA1 pn1 pc1, .slice pA2 pn2 pc2, .slice pA3 pn3 pc3] 42))
  clear hb
  go_wp2_with fail
  refine (School_w _).mono ?_
  rintro e w6 ⟨⟨v3, rfl, h3⟩, hb⟩
  replace ph := hide (ph.out.below hb)
  replace ps := hide (ps.out.below hb)
  replace pr0 := hide (pr0.out.below hb)
  replace pr1 := hide (pr1.out.below hb)
  replace pr2 := hide (pr2.out.below hb)
  replace pr3 := hide (pr3.out.below hb)
  replace ka := hide (ka.out.below hb ka.out.lt)
  replace hB := hide (hB.out.trans (hb.mono hB.out.size))
  replace h3 := hide h3
  clear hb
  go_wp2_with fail
  refine (Events_k _).mono ?_
  rintro e w7 ⟨⟨u3, rfl, e3⟩, hb⟩
  replace ph := hide (ph.out.below hb)
  replace ps := hide (ps.out.below hb)
  replace pr0 := hide (pr0.out.below hb)
  replace pr1 := hide (pr1.out.below hb)
  replace pr2 := hide (pr2.out.below hb)
  replace pr3 := hide (pr3.out.below hb)
  replace ka := hide (ka.out.below hb ka.out.lt)
  replace h3 := hide (h3.out.below hb)
  replace hB := hide (hB.out.trans (hb.mono hB.out.size))
  replace e3 := hide e3
  clear hb
  go_wp2_with fail
  refine (Postings_k v3 u3 S1 Ev1 _ h3.out e3.out).mono ?_
  rintro e w8 ⟨⟨q, rfl, hq⟩, hb⟩
  clear h3
  clear e3
  replace ph := hide (ph.out.below hb)
  replace ps := hide (ps.out.below hb)
  replace pr0 := hide (pr0.out.below hb)
  replace pr1 := hide (pr1.out.below hb)
  replace pr2 := hide (pr2.out.below hb)
  replace pr3 := hide (pr3.out.below hb)
  replace ka := hide (ka.out.below hb ka.out.lt)
  replace hB := hide (hB.out.trans (hb.mono hB.out.size))
  replace hq := hide hq
  clear hb
  rw [runE_1]
  go_wp2_with fail
  refine (School_w _).mono ?_
  rintro e w9 ⟨⟨v4, rfl, h4⟩, hb⟩
  replace ph := hide (ph.out.below hb)
  replace ps := hide (ps.out.below hb)
  replace pr0 := hide (pr0.out.below hb)
  replace pr1 := hide (pr1.out.below hb)
  replace pr2 := hide (pr2.out.below hb)
  replace pr3 := hide (pr3.out.below hb)
  replace ka := hide (ka.out.below hb ka.out.lt)
  replace hq := hide (hq.out.below hb)
  replace hB := hide (hB.out.trans (hb.mono hB.out.size))
  replace h4 := hide h4
  clear hb
  go_wp2_with fail
  refine (Events_k _).mono ?_
  rintro e w10 ⟨⟨u4, rfl, e4⟩, hb⟩
  replace ph := hide (ph.out.below hb)
  replace ps := hide (ps.out.below hb)
  replace pr0 := hide (pr0.out.below hb)
  replace pr1 := hide (pr1.out.below hb)
  replace pr2 := hide (pr2.out.below hb)
  replace pr3 := hide (pr3.out.below hb)
  replace ka := hide (ka.out.below hb ka.out.lt)
  replace hq := hide (hq.out.below hb)
  replace h4 := hide (h4.out.below hb)
  replace hB := hide (hB.out.trans (hb.mono hB.out.size))
  replace e4 := hide e4
  clear hb
  go_wp2_with fail
  refine (First_k v4 u4 S1 Ev1 1 0 43 2 _ h4.out e4.out).mono ?_
  rintro e w11 ⟨rfl, hb⟩
  clear h4
  clear e4
  replace ph := hide (ph.out.below hb)
  replace ps := hide (ps.out.below hb)
  replace pr0 := hide (pr0.out.below hb)
  replace pr1 := hide (pr1.out.below hb)
  replace pr2 := hide (pr2.out.below hb)
  replace pr3 := hide (pr3.out.below hb)
  replace ka := hide (ka.out.below hb ka.out.lt)
  replace hq := hide (hq.out.below hb)
  replace hB := hide (hB.out.trans (hb.mono hB.out.size))
  clear hb
  rw [first_0]
  go_wp2_with fail
  refine (School_w _).mono ?_
  rintro e w12 ⟨⟨v5, rfl, h5⟩, hb⟩
  replace ph := hide (ph.out.below hb)
  replace ps := hide (ps.out.below hb)
  replace pr0 := hide (pr0.out.below hb)
  replace pr1 := hide (pr1.out.below hb)
  replace pr2 := hide (pr2.out.below hb)
  replace pr3 := hide (pr3.out.below hb)
  replace ka := hide (ka.out.below hb ka.out.lt)
  replace hq := hide (hq.out.below hb)
  replace hB := hide (hB.out.trans (hb.mono hB.out.size))
  replace h5 := hide h5
  clear hb
  go_wp2_with fail
  refine (Weather_w _).mono ?_
  rintro e w13 ⟨⟨u5, rfl, e5⟩, hb⟩
  replace ph := hide (ph.out.below hb)
  replace ps := hide (ps.out.below hb)
  replace pr0 := hide (pr0.out.below hb)
  replace pr1 := hide (pr1.out.below hb)
  replace pr2 := hide (pr2.out.below hb)
  replace pr3 := hide (pr3.out.below hb)
  replace ka := hide (ka.out.below hb ka.out.lt)
  replace hq := hide (hq.out.below hb)
  replace h5 := hide (h5.out.below hb)
  replace hB := hide (hB.out.trans (hb.mono hB.out.size))
  replace e5 := hide e5
  clear hb
  go_wp2_with fail
  refine (Run_k v5 u5 S1 EvW _ h5.out e5.out).mono ?_
  rintro e w14 ⟨⟨rl, rx, rfl, rh, rs⟩, hb⟩
  clear h5
  clear e5
  replace ph := hide (ph.out.below hb)
  replace ps := hide (ps.out.below hb)
  replace pr0 := hide (pr0.out.below hb)
  replace pr1 := hide (pr1.out.below hb)
  replace pr2 := hide (pr2.out.below hb)
  replace pr3 := hide (pr3.out.below hb)
  replace ka := hide (ka.out.below hb ka.out.lt)
  replace hq := hide (hq.out.below hb)
  replace hB := hide (hB.out.trans (hb.mono hB.out.size))
  replace rh := hide rh
  replace rs := hide rs
  clear hb
  rw [runE_W]
  obtain ⟨rA0, rn0, rc0, rA1, rn1, rc1, rA2, rn2, rc2, rA3, rn3, rc3, rfl, rr0, rr1, rr2, rr3, rnn⟩ := rs.out.shape
  rw [run_W.1] at rnn
  subst rnn
  replace rr0 := hide rr0
  replace rr1 := hide rr1
  replace rr2 := hide rr2
  replace rr3 := hide rr3
  have hb := (Below.refl w14.heap.size w14).alloc (Nat.le_refl _) (.cells #[.slice rA0 2 rc0, .slice rA1 rn1 rc1, .slice rA2 rn2 rc2, .slice rA3 rn3 rc3] 42)
  replace ph := hide (ph.out.below hb)
  replace ps := hide (ps.out.below hb)
  replace pr0 := hide (pr0.out.below hb)
  replace pr1 := hide (pr1.out.below hb)
  replace pr2 := hide (pr2.out.below hb)
  replace pr3 := hide (pr3.out.below hb)
  replace ka := hide (ka.out.below hb ka.out.lt)
  replace hq := hide (hq.out.below hb)
  replace rh := hide (rh.out.below hb)
  replace rs := hide (rs.out.below hb)
  replace rr0 := hide (rr0.out.below hb)
  replace rr1 := hide (rr1.out.below hb)
  replace rr2 := hide (rr2.out.below hb)
  replace rr3 := hide (rr3.out.below hb)
  have kb := hide ((blkNew (w := w14) (t := 42) (cs := #[.slice rA0 2 rc0, .slice rA1 rn1 rc1, .slice rA2 rn2 rc2, .slice rA3 rn3 rc3]) rfl))
  replace hB := hide (hB.out.alloc hB.out.size (.cells #[.slice rA0 2 rc0, .slice rA1 rn1 rc1, .slice rA2 rn2 rc2, .slice rA3 rn3 rc3] 42))
  clear hb
  clear rh
  clear rs
  clear rr1
  clear rr2
  clear pr0
  clear pr1
  clear pr2
  clear pr3
  go_wp2_with fail
  refine (Fee_any _ SZ 1 1 _ (sz_w _)).mono ?_
  rintro e w15 ⟨rfl, hb⟩
  replace ph := hide (ph.out.below hb)
  replace ps := hide (ps.out.below hb)
  replace ka := hide (ka.out.below hb ka.out.lt)
  replace hq := hide (hq.out.below hb)
  replace rr0 := hide (rr0.out.below hb)
  replace rr3 := hide (rr3.out.below hb)
  replace kb := hide (kb.out.below hb kb.out.lt)
  replace hB := hide (hB.out.trans (hb.mono hB.out.size))
  clear hb
  rw [fee_1]
  obtain ⟨rb, ro, rfl, hlc⟩ := first_les rr0.out run_W.2.1 (by rw [run_W.1]; decide)
  replace hlc := hide hlc
  go_wp2
  refine region_grow [IsV (.int .i64 0), IsV (.bool true), IsV (.bool true), IsV (.int .i64 0), IsV (.bool true), IsV (.bool true), IsV (.bool true), IsV (.int .i64 0), IsV (.bool true), IsV (.bool true), IsV (.bool true), IsV (.int .i64 0), IsV (.bool true), IsV (.bool true), IsV (.bool true), IsV (.int .i64 0), IsV (.bool true), IsV (.bool true), IsV (.bool true), IsV (.int .i64 3), IsV (.bool true), IsV (.bool true), IsV (.bool true), IsV (.int .i64 4000), IsV (.bool true), IsV (.bool true), IsV (.bool true), IsV (.int .i64 56), IsV (.bool true), IsV (.bool true), IsV (.bool true), IsV (pl), IsInts [0, 5, 0, 0, 0, 0], IsV (.bool true), IsV (.bool true), IsV (.bool true), IsV (.agg #[.slice pA0 pn0 pc0, .slice pA1 pn1 pc1, .slice pA2 pn2 pc2, .slice pA3 pn3 pc3]), IsV (.agg #[.int .i64 0, .int .i64 0, .int .i64 33, .int .i64 2, .int .i64 1]), IsV (.agg #[.int .i64 1, .int .i64 1, .int .i64 34, .int .i64 1, .int .i64 3]), IsRow 5 (bC.les.map lesCells), IsInts [0, 650], IsInts [0, 150], IsInts [-4000, -4000, -22000, 50000, -20000, 0], IsState bC, IsV (.bool true), IsV (.bool true), IsV (.bool true), IsV (q), IsV (.agg #[.int .i64 3, .int .i64 0, .int .i64 2, .int .i64 4000]), IsRow 4 (List.map pstCells [⟨3, 0, 2, 4000⟩]), IsV (.bool true), IsV (.bool true), IsV (.bool true), IsV (.pointer (some ⟨w14.heap.size, 0, none⟩)), IsV (.slice (some ⟨rb, ro, none⟩) 2 rc0), IsV (.int .i64 2), IsV (.bool true), IsV (.bool true), IsV (.bool true), IsV (.pointer (some ⟨w14.heap.size, 0, none⟩)), IsV (.slice (some ⟨rb, ro, none⟩) 2 rc0), IsV (.pointer (some ⟨rb, ro, none⟩)), IsV (.agg #[.int .i64 0, .int .i64 0, .int .i64 57, .int .i64 2, .int .i64 1]), IsV (.agg #[.int .i64 0, .int .i64 0, .int .i64 57, .int .i64 2, .int .i64 1]), IsV (.bool true), IsV (.bool true), IsV (.bool true), IsV (.pointer (some ⟨w14.heap.size, 3, none⟩)), IsV (.slice rA3 rn3 rc3), IsInts [0, 0, 0, 0, 0, 0], IsV (.bool true), IsV (.bool true), IsV (.bool true)] (by kernel_rfl) (by kernel_rfl) rfl ?_ ?_ ?_
  · exact ⟨IsV.stb _, IsV.stb _, IsV.stb _, IsV.stb _, IsV.stb _, IsV.stb _, IsV.stb _, IsV.stb _, IsV.stb _, IsV.stb _, IsV.stb _, IsV.stb _, IsV.stb _, IsV.stb _, IsV.stb _, IsV.stb _, IsV.stb _, IsV.stb _, IsV.stb _, IsV.stb _, IsV.stb _, IsV.stb _, IsV.stb _, IsV.stb _, IsV.stb _, IsV.stb _, IsV.stb _, IsV.stb _, IsV.stb _, IsV.stb _, IsV.stb _, IsV.stb _, fun _ _ _ hb h => h.below hb, IsV.stb _, IsV.stb _, IsV.stb _, IsV.stb _, IsV.stb _, IsV.stb _, fun _ _ _ hb h => h.below hb, fun _ _ _ hb h => h.below hb, fun _ _ _ hb h => h.below hb, fun _ _ _ hb h => h.below hb, fun _ _ _ hb h => h.below hb, IsV.stb _, IsV.stb _, IsV.stb _, IsV.stb _, IsV.stb _, fun _ _ _ hb h => h.below hb, IsV.stb _, IsV.stb _, IsV.stb _, IsV.stb _, IsV.stb _, IsV.stb _, IsV.stb _, IsV.stb _, IsV.stb _, IsV.stb _, IsV.stb _, IsV.stb _, IsV.stb _, IsV.stb _, IsV.stb _, IsV.stb _, IsV.stb _, IsV.stb _, IsV.stb _, fun _ _ _ hb h => h.below hb, IsV.stb _, IsV.stb _, IsV.stb _, trivial⟩
  · refine ⟨?_, ?_, ?_, ?_, ?_, ?_, ?_, ?_, ?_, ?_, ?_, ?_, ?_, ?_, ?_, ?_, ?_, ?_, ?_, ?_, ?_, ?_, ?_, ?_, ?_, ?_, ?_, ?_, ?_, ?_, ?_, ?_, ?_, ?_, ?_, ?_, ?_, ?_, ?_, ?_, ?_, ?_, ?_, ?_, ?_, ?_, ?_, ?_, ?_, ?_, ?_, ?_, ?_, ?_, ?_, ?_, ?_, ?_, ?_, ?_, ?_, ?_, ?_, ?_, ?_, ?_, ?_, ?_, ?_, ?_, ?_, ?_, ?_, trivial⟩
    · refine one_fr ?_ ?_ ?_
      · kernel_rfl
      · left; kernel_rfl
      intro T y W4 K Q Cv hF hC4 hd hV hK
      clear hd
      have t2 := hF.old 2 (.int .i64 0) (by kernel_rfl) (by kernel_rfl)
      clear hF
      go_simp
      exact hK _ _ (hV _ _ hC4 (Below.refl _ _) rfl)
    · refine one_fr ?_ ?_ ?_
      · kernel_rfl
      · left; kernel_rfl
      intro T y W4 K Q Cv hF hC4 hd hV hK
      simp [deps, VL, IsV, Region.binds] at hd
      have t51 := hF.get 0 51 (by kernel_rfl)
      simp only [hd] at t51
      clear hF
      go_simp
      exact hK _ _ (hV _ _ hC4 (Below.refl _ _) rfl)
    · refine one_fr ?_ ?_ ?_
      · kernel_rfl
      · left; kernel_rfl
      intro T y W4 K Q Cv hF hC4 hd hV hK
      simp [deps, VL, IsV, Region.binds] at hd
      have t52 := hF.get 1 52 (by kernel_rfl)
      simp only [hd] at t52
      clear hF
      go_simp
      exact hK _ _ (hV _ _ hC4 (Below.refl _ _) rfl)
    · refine one_fr ?_ ?_ ?_
      · kernel_rfl
      · right; exact ⟨2, 53, by kernel_rfl, fun _ _ h => h⟩
      intro T y W4 K Q Cv hF hC4 hd hV hK
      clear hd
      have t5 := hF.old 5 (.int .i64 0) (by kernel_rfl) (by kernel_rfl)
      clear hF
      go_simp
      exact hK _ _ (hV _ _ hC4 (Below.refl _ _) rfl)
    · refine one_fr ?_ ?_ ?_
      · kernel_rfl
      · right; exact ⟨2, 53, by kernel_rfl, fun _ _ h => h⟩
      intro T y W4 K Q Cv hF hC4 hd hV hK
      simp [deps, VL, IsV, Region.binds] at hd
      have t54 := hF.get 3 54 (by kernel_rfl)
      simp only [hd] at t54
      clear hF
      go_simp
      exact hK _ _ (hV _ _ hC4 (Below.refl _ _) rfl)
    · refine one_fr ?_ ?_ ?_
      · kernel_rfl
      · left; kernel_rfl
      intro T y W4 K Q Cv hF hC4 hd hV hK
      simp [deps, VL, IsV, Region.binds] at hd
      have t53 := hF.get 2 53 (by kernel_rfl)
      simp only [hd] at t53
      have t55 := hF.get 4 55 (by kernel_rfl)
      simp only [hd] at t55
      clear hF
      go_simp
      exact hK _ _ (hV _ _ hC4 (Below.refl _ _) rfl)
    · refine one_fr ?_ ?_ ?_
      · kernel_rfl
      · left; kernel_rfl
      intro T y W4 K Q Cv hF hC4 hd hV hK
      simp [deps, VL, IsV, Region.binds] at hd
      have t56 := hF.get 5 56 (by kernel_rfl)
      simp only [hd] at t56
      clear hF
      go_simp
      exact hK _ _ (hV _ _ hC4 (Below.refl _ _) rfl)
    · refine one_fr ?_ ?_ ?_
      · kernel_rfl
      · right; exact ⟨6, 57, by kernel_rfl, fun _ _ h => h⟩
      intro T y W4 K Q Cv hF hC4 hd hV hK
      clear hd
      have t7 := hF.old 7 (.int .i64 0) (by kernel_rfl) (by kernel_rfl)
      clear hF
      go_simp
      exact hK _ _ (hV _ _ hC4 (Below.refl _ _) rfl)
    · refine one_fr ?_ ?_ ?_
      · kernel_rfl
      · right; exact ⟨6, 57, by kernel_rfl, fun _ _ h => h⟩
      intro T y W4 K Q Cv hF hC4 hd hV hK
      simp [deps, VL, IsV, Region.binds] at hd
      have t58 := hF.get 7 58 (by kernel_rfl)
      simp only [hd] at t58
      clear hF
      go_simp
      exact hK _ _ (hV _ _ hC4 (Below.refl _ _) rfl)
    · refine one_fr ?_ ?_ ?_
      · kernel_rfl
      · left; kernel_rfl
      intro T y W4 K Q Cv hF hC4 hd hV hK
      simp [deps, VL, IsV, Region.binds] at hd
      have t57 := hF.get 6 57 (by kernel_rfl)
      simp only [hd] at t57
      have t59 := hF.get 8 59 (by kernel_rfl)
      simp only [hd] at t59
      clear hF
      go_simp
      exact hK _ _ (hV _ _ hC4 (Below.refl _ _) rfl)
    · refine one_fr ?_ ?_ ?_
      · kernel_rfl
      · left; kernel_rfl
      intro T y W4 K Q Cv hF hC4 hd hV hK
      simp [deps, VL, IsV, Region.binds] at hd
      have t60 := hF.get 9 60 (by kernel_rfl)
      simp only [hd] at t60
      clear hF
      go_simp
      exact hK _ _ (hV _ _ hC4 (Below.refl _ _) rfl)
    · refine one_fr ?_ ?_ ?_
      · kernel_rfl
      · right; exact ⟨10, 61, by kernel_rfl, fun _ _ h => h⟩
      intro T y W4 K Q Cv hF hC4 hd hV hK
      clear hd
      have t9 := hF.old 9 (.int .i64 0) (by kernel_rfl) (by kernel_rfl)
      clear hF
      go_simp
      exact hK _ _ (hV _ _ hC4 (Below.refl _ _) rfl)
    · refine one_fr ?_ ?_ ?_
      · kernel_rfl
      · right; exact ⟨10, 61, by kernel_rfl, fun _ _ h => h⟩
      intro T y W4 K Q Cv hF hC4 hd hV hK
      simp [deps, VL, IsV, Region.binds] at hd
      have t62 := hF.get 11 62 (by kernel_rfl)
      simp only [hd] at t62
      clear hF
      go_simp
      exact hK _ _ (hV _ _ hC4 (Below.refl _ _) rfl)
    · refine one_fr ?_ ?_ ?_
      · kernel_rfl
      · left; kernel_rfl
      intro T y W4 K Q Cv hF hC4 hd hV hK
      simp [deps, VL, IsV, Region.binds] at hd
      have t61 := hF.get 10 61 (by kernel_rfl)
      simp only [hd] at t61
      have t63 := hF.get 12 63 (by kernel_rfl)
      simp only [hd] at t63
      clear hF
      go_simp
      exact hK _ _ (hV _ _ hC4 (Below.refl _ _) rfl)
    · refine one_fr ?_ ?_ ?_
      · kernel_rfl
      · left; kernel_rfl
      intro T y W4 K Q Cv hF hC4 hd hV hK
      simp [deps, VL, IsV, Region.binds] at hd
      have t64 := hF.get 13 64 (by kernel_rfl)
      simp only [hd] at t64
      clear hF
      go_simp
      exact hK _ _ (hV _ _ hC4 (Below.refl _ _) rfl)
    · refine one_fr ?_ ?_ ?_
      · kernel_rfl
      · right; exact ⟨14, 65, by kernel_rfl, fun _ _ h => h⟩
      intro T y W4 K Q Cv hF hC4 hd hV hK
      clear hd
      have t12 := hF.old 12 (.int .i64 0) (by kernel_rfl) (by kernel_rfl)
      clear hF
      go_simp
      exact hK _ _ (hV _ _ hC4 (Below.refl _ _) rfl)
    · refine one_fr ?_ ?_ ?_
      · kernel_rfl
      · right; exact ⟨14, 65, by kernel_rfl, fun _ _ h => h⟩
      intro T y W4 K Q Cv hF hC4 hd hV hK
      simp [deps, VL, IsV, Region.binds] at hd
      have t66 := hF.get 15 66 (by kernel_rfl)
      simp only [hd] at t66
      clear hF
      go_simp
      exact hK _ _ (hV _ _ hC4 (Below.refl _ _) rfl)
    · refine one_fr ?_ ?_ ?_
      · kernel_rfl
      · left; kernel_rfl
      intro T y W4 K Q Cv hF hC4 hd hV hK
      simp [deps, VL, IsV, Region.binds] at hd
      have t65 := hF.get 14 65 (by kernel_rfl)
      simp only [hd] at t65
      have t67 := hF.get 16 67 (by kernel_rfl)
      simp only [hd] at t67
      clear hF
      go_simp
      exact hK _ _ (hV _ _ hC4 (Below.refl _ _) rfl)
    · refine one_fr ?_ ?_ ?_
      · kernel_rfl
      · left; kernel_rfl
      intro T y W4 K Q Cv hF hC4 hd hV hK
      simp [deps, VL, IsV, Region.binds] at hd
      have t68 := hF.get 17 68 (by kernel_rfl)
      simp only [hd] at t68
      clear hF
      go_simp
      exact hK _ _ (hV _ _ hC4 (Below.refl _ _) rfl)
    · refine one_fr ?_ ?_ ?_
      · kernel_rfl
      · right; exact ⟨18, 69, by kernel_rfl, fun _ _ h => h⟩
      intro T y W4 K Q Cv hF hC4 hd hV hK
      clear hd
      have t14 := hF.old 14 (.int .i64 3) (by kernel_rfl) (by kernel_rfl)
      clear hF
      go_simp
      exact hK _ _ (hV _ _ hC4 (Below.refl _ _) rfl)
    · refine one_fr ?_ ?_ ?_
      · kernel_rfl
      · right; exact ⟨18, 69, by kernel_rfl, fun _ _ h => h⟩
      intro T y W4 K Q Cv hF hC4 hd hV hK
      simp [deps, VL, IsV, Region.binds] at hd
      have t70 := hF.get 19 70 (by kernel_rfl)
      simp only [hd] at t70
      clear hF
      go_simp
      exact hK _ _ (hV _ _ hC4 (Below.refl _ _) rfl)
    · refine one_fr ?_ ?_ ?_
      · kernel_rfl
      · left; kernel_rfl
      intro T y W4 K Q Cv hF hC4 hd hV hK
      simp [deps, VL, IsV, Region.binds] at hd
      have t69 := hF.get 18 69 (by kernel_rfl)
      simp only [hd] at t69
      have t71 := hF.get 20 71 (by kernel_rfl)
      simp only [hd] at t71
      clear hF
      go_simp
      exact hK _ _ (hV _ _ hC4 (Below.refl _ _) rfl)
    · refine one_fr ?_ ?_ ?_
      · kernel_rfl
      · left; kernel_rfl
      intro T y W4 K Q Cv hF hC4 hd hV hK
      simp [deps, VL, IsV, Region.binds] at hd
      have t72 := hF.get 21 72 (by kernel_rfl)
      simp only [hd] at t72
      clear hF
      go_simp
      exact hK _ _ (hV _ _ hC4 (Below.refl _ _) rfl)
    · refine one_fr ?_ ?_ ?_
      · kernel_rfl
      · right; exact ⟨22, 73, by kernel_rfl, fun _ _ h => h⟩
      intro T y W4 K Q Cv hF hC4 hd hV hK
      clear hd
      have t1 := hF.old 1 (.int .i64 4000) (by kernel_rfl) (by kernel_rfl)
      clear hF
      go_simp
      exact hK _ _ (hV _ _ hC4 (Below.refl _ _) rfl)
    · refine one_fr ?_ ?_ ?_
      · kernel_rfl
      · right; exact ⟨22, 73, by kernel_rfl, fun _ _ h => h⟩
      intro T y W4 K Q Cv hF hC4 hd hV hK
      simp [deps, VL, IsV, Region.binds] at hd
      have t74 := hF.get 23 74 (by kernel_rfl)
      simp only [hd] at t74
      clear hF
      go_simp
      exact hK _ _ (hV _ _ hC4 (Below.refl _ _) rfl)
    · refine one_fr ?_ ?_ ?_
      · kernel_rfl
      · left; kernel_rfl
      intro T y W4 K Q Cv hF hC4 hd hV hK
      simp [deps, VL, IsV, Region.binds] at hd
      have t73 := hF.get 22 73 (by kernel_rfl)
      simp only [hd] at t73
      have t75 := hF.get 24 75 (by kernel_rfl)
      simp only [hd] at t75
      clear hF
      go_simp
      exact hK _ _ (hV _ _ hC4 (Below.refl _ _) rfl)
    · refine one_fr ?_ ?_ ?_
      · kernel_rfl
      · left; kernel_rfl
      intro T y W4 K Q Cv hF hC4 hd hV hK
      simp [deps, VL, IsV, Region.binds] at hd
      have t76 := hF.get 25 76 (by kernel_rfl)
      simp only [hd] at t76
      clear hF
      go_simp
      exact hK _ _ (hV _ _ hC4 (Below.refl _ _) rfl)
    · refine one_fr ?_ ?_ ?_
      · kernel_rfl
      · right; exact ⟨26, 77, by kernel_rfl, fun _ _ h => h⟩
      intro T y W4 K Q Cv hF hC4 hd hV hK
      clear hd
      have t8 := hF.old 8 (.int .i64 56) (by kernel_rfl) (by kernel_rfl)
      clear hF
      go_simp
      exact hK _ _ (hV _ _ hC4 (Below.refl _ _) rfl)
    · refine one_fr ?_ ?_ ?_
      · kernel_rfl
      · right; exact ⟨26, 77, by kernel_rfl, fun _ _ h => h⟩
      intro T y W4 K Q Cv hF hC4 hd hV hK
      simp [deps, VL, IsV, Region.binds] at hd
      have t78 := hF.get 27 78 (by kernel_rfl)
      simp only [hd] at t78
      clear hF
      go_simp
      exact hK _ _ (hV _ _ hC4 (Below.refl _ _) rfl)
    · refine one_fr ?_ ?_ ?_
      · kernel_rfl
      · left; kernel_rfl
      intro T y W4 K Q Cv hF hC4 hd hV hK
      simp [deps, VL, IsV, Region.binds] at hd
      have t77 := hF.get 26 77 (by kernel_rfl)
      simp only [hd] at t77
      have t79 := hF.get 28 79 (by kernel_rfl)
      simp only [hd] at t79
      clear hF
      go_simp
      exact hK _ _ (hV _ _ hC4 (Below.refl _ _) rfl)
    · refine one_fr ?_ ?_ ?_
      · kernel_rfl
      · left; kernel_rfl
      intro T y W4 K Q Cv hF hC4 hd hV hK
      simp [deps, VL, IsV, Region.binds] at hd
      have t80 := hF.get 29 80 (by kernel_rfl)
      simp only [hd] at t80
      clear hF
      go_simp
      exact hK _ _ (hV _ _ hC4 (Below.refl _ _) rfl)
    · refine one_fr ?_ ?_ ?_
      · kernel_rfl
      · right; exact ⟨30, 81, by kernel_rfl, fun _ _ h => h⟩
      intro T y W4 K Q Cv hF hC4 hd hV hK
      clear hd
      have t3 := hF.old 3 (pl) (by kernel_rfl) (by kernel_rfl)
      clear hF
      go_simp
      exact hK _ _ (hV _ _ hC4 (Below.refl _ _) rfl)
    · refine one_fr ?_ ?_ ?_
      · kernel_rfl
      · right; exact ⟨30, 81, by kernel_rfl, fun _ _ h => h⟩
      intro T y W4 K Q Cv hF hC4 hd hV hK
      clear hd
      clear hF
      go_simp
      refine hK _ _ (hV _ _ (hC4.alloc hC4.size _) ((Below.refl _ _).alloc (Nat.le_refl _) _) (isInts_blk (c := 6) [0, 5, 0, 0, 0, 0] (blkNew rfl) ?_ (by decide)))
      rfl
    · refine one_fr ?_ ?_ ?_
      · kernel_rfl
      · right; exact ⟨30, 81, by kernel_rfl, fun _ _ h => h⟩
      intro T y W4 K Q Cv hF hC4 hd hV hK
      simp [deps, VL, IsV, Region.binds] at hd
      have t82 := hF.get 31 82 (by kernel_rfl)
      simp only [hd] at t82
      have t83 := hF.get 32 83 (by kernel_rfl)
      rw [Array.getD_eq_getD_getElem?] at t83
      have p83 : (IsInts [0, 5, 0, 0, 0, 0]) (y 32) W4 := by first | exact hd | exact hd.1 | exact hd.2 | exact hd.2.1 | exact hd.2.2 | exact hd.2.2.1 | exact hd.2.2.2 | exact hd.2.2.2.1 | exact hd.2.2.2.2 | exact hd.2.2.2.2.1
      clear hF
      have hs := Errors_t (ph.out.below hC4) p83 run_C (by rw [run_C]; unfold maxLen; decide)
      go_simp
      refine hs.mono ?_
      rintro e w7 ⟨rfl, hb7⟩
      exact hK _ _ (hV _ _ (hC4.trans (hb7.mono hC4.size)) hb7 rfl)
    · refine one_fr ?_ ?_ ?_
      · kernel_rfl
      · left; kernel_rfl
      intro T y W4 K Q Cv hF hC4 hd hV hK
      simp [deps, VL, IsV, Region.binds] at hd
      have t81 := hF.get 30 81 (by kernel_rfl)
      simp only [hd] at t81
      have t84 := hF.get 33 84 (by kernel_rfl)
      simp only [hd] at t84
      clear hF
      go_simp
      exact hK _ _ (hV _ _ hC4 (Below.refl _ _) rfl)
    · refine one_fr ?_ ?_ ?_
      · kernel_rfl
      · left; kernel_rfl
      intro T y W4 K Q Cv hF hC4 hd hV hK
      simp [deps, VL, IsV, Region.binds] at hd
      have t85 := hF.get 34 85 (by kernel_rfl)
      simp only [hd] at t85
      clear hF
      go_simp
      exact hK _ _ (hV _ _ hC4 (Below.refl _ _) rfl)
    · refine one_fr ?_ ?_ ?_
      · kernel_rfl
      · right; exact ⟨35, 86, by kernel_rfl, fun _ _ h => h⟩
      intro T y W4 K Q Cv hF hC4 hd hV hK
      clear hd
      have t4 := hF.old 4 (.pointer (some ⟨w5.heap.size, 0, none⟩)) (by kernel_rfl) (by kernel_rfl)
      clear hF
      have c0 := (ka.out.below hC4 ka.out.lt).cell 0
      have c1 := (ka.out.below hC4 ka.out.lt).cell 1
      have c2 := (ka.out.below hC4 ka.out.lt).cell 2
      have c3 := (ka.out.below hC4 ka.out.lt).cell 3
      simp only [List.getElem?_toArray, List.getElem?_cons_zero, List.getElem?_cons_succ] at c0 c1 c2 c3
      go_simp
      exact hK _ _ (hV _ _ hC4 (Below.refl _ _) rfl)
    · refine one_fr ?_ ?_ ?_
      · kernel_rfl
      · right; exact ⟨35, 86, by kernel_rfl, fun _ _ h => h⟩
      intro T y W4 K Q Cv hF hC4 hd hV hK
      clear hd
      clear hF
      go_simp
      exact hK _ _ (hV _ _ hC4 (Below.refl _ _) rfl)
    · refine one_fr ?_ ?_ ?_
      · kernel_rfl
      · right; exact ⟨35, 86, by kernel_rfl, fun _ _ h => h⟩
      intro T y W4 K Q Cv hF hC4 hd hV hK
      clear hd
      clear hF
      go_simp
      exact hK _ _ (hV _ _ hC4 (Below.refl _ _) rfl)
    · refine one_fr ?_ ?_ ?_
      · kernel_rfl
      · right; exact ⟨35, 86, by kernel_rfl, fun _ _ h => h⟩
      intro T y W4 K Q Cv hF hC4 hd hV hK
      simp [deps, VL, IsV, Region.binds] at hd
      have t88 := hF.get 37 88 (by kernel_rfl)
      simp only [hd] at t88
      have t89 := hF.get 38 89 (by kernel_rfl)
      simp only [hd] at t89
      clear hF
      rw [Array.getD_eq_getD_getElem?] at t88
      rw [Array.getD_eq_getD_getElem?] at t89
      go_simp
      refine hK _ _ (hV _ _ (hC4.alloc hC4.size _) ((Below.refl _ _).alloc (Nat.le_refl _) _) ⟨_, 2, rfl, row_of_blk (k := 5) (f := lesCells) (fun _ => rfl) bC.les (blkNew rfl) ?_, by decide, by unfold maxLen; decide⟩)
      rfl
    · refine one_fr ?_ ?_ ?_
      · kernel_rfl
      · right; exact ⟨35, 86, by kernel_rfl, fun _ _ h => h⟩
      intro T y W4 K Q Cv hF hC4 hd hV hK
      clear hd
      clear hF
      go_simp
      refine hK _ _ (hV _ _ (hC4.alloc hC4.size _) ((Below.refl _ _).alloc (Nat.le_refl _) _) (isInts_blk (c := 2) [0, 650] (blkNew rfl) ?_ (by decide)))
      rfl
    · refine one_fr ?_ ?_ ?_
      · kernel_rfl
      · right; exact ⟨35, 86, by kernel_rfl, fun _ _ h => h⟩
      intro T y W4 K Q Cv hF hC4 hd hV hK
      clear hd
      clear hF
      go_simp
      refine hK _ _ (hV _ _ (hC4.alloc hC4.size _) ((Below.refl _ _).alloc (Nat.le_refl _) _) (isInts_blk (c := 2) [0, 150] (blkNew rfl) ?_ (by decide)))
      rfl
    · refine one_fr ?_ ?_ ?_
      · kernel_rfl
      · right; exact ⟨35, 86, by kernel_rfl, fun _ _ h => h⟩
      intro T y W4 K Q Cv hF hC4 hd hV hK
      clear hd
      clear hF
      go_simp
      refine hK _ _ (hV _ _ (hC4.alloc hC4.size _) ((Below.refl _ _).alloc (Nat.le_refl _) _) (isInts_blk (c := 6) [-4000, -4000, -22000, 50000, -20000, 0] (blkNew rfl) ?_ (by decide)))
      rfl
    · refine one_fr ?_ ?_ ?_
      · kernel_rfl
      · right; exact ⟨35, 86, by kernel_rfl, fun _ _ h => h⟩
      intro T y W4 K Q Cv hF hC4 hd hV hK
      simp [deps, VL, IsV, Region.binds] at hd
      have t90 := hF.get 39 90 (by kernel_rfl)
      rw [Array.getD_eq_getD_getElem?] at t90
      have p90 : (IsRow 5 (bC.les.map lesCells)) (y 39) W4 := by first | exact hd | exact hd.1 | exact hd.2 | exact hd.2.1 | exact hd.2.2 | exact hd.2.2.1 | exact hd.2.2.2 | exact hd.2.2.2.1 | exact hd.2.2.2.2 | exact hd.2.2.2.2.1
      have t91 := hF.get 40 91 (by kernel_rfl)
      rw [Array.getD_eq_getD_getElem?] at t91
      have p91 : (IsInts [0, 650]) (y 40) W4 := by first | exact hd | exact hd.1 | exact hd.2 | exact hd.2.1 | exact hd.2.2 | exact hd.2.2.1 | exact hd.2.2.2 | exact hd.2.2.2.1 | exact hd.2.2.2.2 | exact hd.2.2.2.2.1
      have t92 := hF.get 41 92 (by kernel_rfl)
      rw [Array.getD_eq_getD_getElem?] at t92
      have p92 : (IsInts [0, 150]) (y 41) W4 := by first | exact hd | exact hd.1 | exact hd.2 | exact hd.2.1 | exact hd.2.2 | exact hd.2.2.1 | exact hd.2.2.2 | exact hd.2.2.2.1 | exact hd.2.2.2.2 | exact hd.2.2.2.2.1
      have t93 := hF.get 42 93 (by kernel_rfl)
      rw [Array.getD_eq_getD_getElem?] at t93
      have p93 : (IsInts [-4000, -4000, -22000, 50000, -20000, 0]) (y 42) W4 := by first | exact hd | exact hd.1 | exact hd.2 | exact hd.2.1 | exact hd.2.2 | exact hd.2.2.1 | exact hd.2.2.2 | exact hd.2.2.2.1 | exact hd.2.2.2.2 | exact hd.2.2.2.2.1
      clear hF
      obtain ⟨A90, c90, e90, -⟩ := id p90
      rw [e90] at t90 p90
      obtain ⟨A91, c91, e91, -⟩ := id p91
      rw [e91] at t91 p91
      obtain ⟨A92, c92, e92, -⟩ := id p92
      rw [e92] at t92 p92
      obtain ⟨A93, c93, e93, -⟩ := id p93
      rw [e93] at t93 p93
      go_simp
      exact hK _ _ (hV _ _ hC4 (Below.refl _ _) ⟨_, _, _, _, rfl, p90, p91, p92, p93⟩)
    · refine one_fr ?_ ?_ ?_
      · kernel_rfl
      · right; exact ⟨35, 86, by kernel_rfl, fun _ _ h => h⟩
      intro T y W4 K Q Cv hF hC4 hd hV hK
      simp [deps, VL, IsV, Region.binds] at hd
      have t87 := hF.get 36 87 (by kernel_rfl)
      simp only [hd] at t87
      have t94 := hF.get 43 94 (by kernel_rfl)
      rw [Array.getD_eq_getD_getElem?] at t94
      have p94 : (IsState bC) (y 43) W4 := by first | exact hd | exact hd.1 | exact hd.2 | exact hd.2.1 | exact hd.2.2 | exact hd.2.2.1 | exact hd.2.2.2 | exact hd.2.2.2.1 | exact hd.2.2.2.2 | exact hd.2.2.2.2.1
      clear hF
      have hs := States_t (ps.out.below hC4) p94 run_C2 bC_len
      go_simp
      refine hs.mono ?_
      rintro e w7 ⟨rfl, hb7⟩
      exact hK _ _ (hV _ _ (hC4.trans (hb7.mono hC4.size)) hb7 rfl)
    · refine one_fr ?_ ?_ ?_
      · kernel_rfl
      · left; kernel_rfl
      intro T y W4 K Q Cv hF hC4 hd hV hK
      simp [deps, VL, IsV, Region.binds] at hd
      have t86 := hF.get 35 86 (by kernel_rfl)
      simp only [hd] at t86
      have t95 := hF.get 44 95 (by kernel_rfl)
      simp only [hd] at t95
      clear hF
      go_simp
      exact hK _ _ (hV _ _ hC4 (Below.refl _ _) rfl)
    · refine one_fr ?_ ?_ ?_
      · kernel_rfl
      · left; kernel_rfl
      intro T y W4 K Q Cv hF hC4 hd hV hK
      simp [deps, VL, IsV, Region.binds] at hd
      have t96 := hF.get 45 96 (by kernel_rfl)
      simp only [hd] at t96
      clear hF
      go_simp
      exact hK _ _ (hV _ _ hC4 (Below.refl _ _) rfl)
    · refine one_fr ?_ ?_ ?_
      · kernel_rfl
      · right; exact ⟨46, 97, by kernel_rfl, fun _ _ h => h⟩
      intro T y W4 K Q Cv hF hC4 hd hV hK
      clear hd
      have t6 := hF.old 6 (q) (by kernel_rfl) (by kernel_rfl)
      clear hF
      go_simp
      exact hK _ _ (hV _ _ hC4 (Below.refl _ _) rfl)
    · refine one_fr ?_ ?_ ?_
      · kernel_rfl
      · right; exact ⟨46, 97, by kernel_rfl, fun _ _ h => h⟩
      intro T y W4 K Q Cv hF hC4 hd hV hK
      clear hd
      clear hF
      go_simp
      exact hK _ _ (hV _ _ hC4 (Below.refl _ _) rfl)
    · refine one_fr ?_ ?_ ?_
      · kernel_rfl
      · right; exact ⟨46, 97, by kernel_rfl, fun _ _ h => h⟩
      intro T y W4 K Q Cv hF hC4 hd hV hK
      simp [deps, VL, IsV, Region.binds] at hd
      have t99 := hF.get 48 99 (by kernel_rfl)
      simp only [hd] at t99
      clear hF
      rw [Array.getD_eq_getD_getElem?] at t99
      go_simp
      refine hK _ _ (hV _ _ (hC4.alloc hC4.size _) ((Below.refl _ _).alloc (Nat.le_refl _) _) ⟨_, 1, rfl, row_of_blk (k := 4) (f := pstCells) (fun _ => rfl) [⟨3, 0, 2, 4000⟩] (blkNew rfl) ?_, by decide, by unfold maxLen; decide⟩)
      rfl
    · refine one_fr ?_ ?_ ?_
      · kernel_rfl
      · right; exact ⟨46, 97, by kernel_rfl, fun _ _ h => h⟩
      intro T y W4 K Q Cv hF hC4 hd hV hK
      simp [deps, VL, IsV, Region.binds] at hd
      have t98 := hF.get 47 98 (by kernel_rfl)
      simp only [hd] at t98
      have t100 := hF.get 49 100 (by kernel_rfl)
      rw [Array.getD_eq_getD_getElem?] at t100
      have p100 : (IsRow 4 (List.map pstCells [⟨3, 0, 2, 4000⟩])) (y 49) W4 := by first | exact hd | exact hd.1 | exact hd.2 | exact hd.2.1 | exact hd.2.2 | exact hd.2.2.1 | exact hd.2.2.2 | exact hd.2.2.2.1 | exact hd.2.2.2.2 | exact hd.2.2.2.2.1
      clear hF
      have hs := Equal_t (hq.out.below hC4) p100 run_13
      go_simp
      refine hs.mono ?_
      rintro e w7 ⟨rfl, hb7⟩
      exact hK _ _ (hV _ _ (hC4.trans (hb7.mono hC4.size)) hb7 rfl)
    · refine one_fr ?_ ?_ ?_
      · kernel_rfl
      · left; kernel_rfl
      intro T y W4 K Q Cv hF hC4 hd hV hK
      simp [deps, VL, IsV, Region.binds] at hd
      have t97 := hF.get 46 97 (by kernel_rfl)
      simp only [hd] at t97
      have t101 := hF.get 50 101 (by kernel_rfl)
      simp only [hd] at t101
      clear hF
      go_simp
      exact hK _ _ (hV _ _ hC4 (Below.refl _ _) rfl)
    · refine one_fr ?_ ?_ ?_
      · kernel_rfl
      · left; kernel_rfl
      intro T y W4 K Q Cv hF hC4 hd hV hK
      simp [deps, VL, IsV, Region.binds] at hd
      have t102 := hF.get 51 102 (by kernel_rfl)
      simp only [hd] at t102
      clear hF
      go_simp
      exact hK _ _ (hV _ _ hC4 (Below.refl _ _) rfl)
    · refine one_fr ?_ ?_ ?_
      · kernel_rfl
      · right; exact ⟨52, 103, by kernel_rfl, fun _ _ h => h⟩
      intro T y W4 K Q Cv hF hC4 hd hV hK
      clear hd
      have t11 := hF.old 11 (.pointer (some ⟨w14.heap.size, 0, none⟩)) (by kernel_rfl) (by kernel_rfl)
      clear hF
      go_simp
      exact hK _ _ (hV _ _ hC4 (Below.refl _ _) rfl)
    · refine one_fr ?_ ?_ ?_
      · kernel_rfl
      · right; exact ⟨52, 103, by kernel_rfl, fun _ _ h => h⟩
      intro T y W4 K Q Cv hF hC4 hd hV hK
      simp [deps, VL, IsV, Region.binds] at hd
      have t104 := hF.get 53 104 (by kernel_rfl)
      simp only [hd] at t104
      clear hF
      have c0 := (kb.out.below hC4 kb.out.lt).cell 0
      simp only [List.getElem?_toArray, List.getElem?_cons_zero] at c0
      go_simp
      exact hK _ _ (hV _ _ hC4 (Below.refl _ _) rfl)
    · refine one_fr ?_ ?_ ?_
      · kernel_rfl
      · right; exact ⟨52, 103, by kernel_rfl, fun _ _ h => h⟩
      intro T y W4 K Q Cv hF hC4 hd hV hK
      simp [deps, VL, IsV, Region.binds] at hd
      have t105 := hF.get 54 105 (by kernel_rfl)
      simp only [hd] at t105
      clear hF
      go_simp
      exact hK _ _ (hV _ _ hC4 (Below.refl _ _) rfl)
    · refine one_fr ?_ ?_ ?_
      · kernel_rfl
      · right; exact ⟨52, 103, by kernel_rfl, fun _ _ h => h⟩
      intro T y W4 K Q Cv hF hC4 hd hV hK
      simp [deps, VL, IsV, Region.binds] at hd
      have t106 := hF.get 55 106 (by kernel_rfl)
      simp only [hd] at t106
      clear hF
      go_simp
      exact hK _ _ (hV _ _ hC4 (Below.refl _ _) rfl)
    · refine one_fr ?_ ?_ ?_
      · kernel_rfl
      · left; kernel_rfl
      intro T y W4 K Q Cv hF hC4 hd hV hK
      simp [deps, VL, IsV, Region.binds] at hd
      have t103 := hF.get 52 103 (by kernel_rfl)
      simp only [hd] at t103
      have t107 := hF.get 56 107 (by kernel_rfl)
      simp only [hd] at t107
      clear hF
      go_simp
      exact hK _ _ (hV _ _ hC4 (Below.refl _ _) rfl)
    · refine one_fr ?_ ?_ ?_
      · kernel_rfl
      · left; kernel_rfl
      intro T y W4 K Q Cv hF hC4 hd hV hK
      simp [deps, VL, IsV, Region.binds] at hd
      have t108 := hF.get 57 108 (by kernel_rfl)
      simp only [hd] at t108
      clear hF
      go_simp
      exact hK _ _ (hV _ _ hC4 (Below.refl _ _) rfl)
    · refine one_fr ?_ ?_ ?_
      · kernel_rfl
      · right; exact ⟨58, 109, by kernel_rfl, fun _ _ h => h⟩
      intro T y W4 K Q Cv hF hC4 hd hV hK
      clear hd
      have t11 := hF.old 11 (.pointer (some ⟨w14.heap.size, 0, none⟩)) (by kernel_rfl) (by kernel_rfl)
      clear hF
      go_simp
      exact hK _ _ (hV _ _ hC4 (Below.refl _ _) rfl)
    · refine one_fr ?_ ?_ ?_
      · kernel_rfl
      · right; exact ⟨58, 109, by kernel_rfl, fun _ _ h => h⟩
      intro T y W4 K Q Cv hF hC4 hd hV hK
      simp [deps, VL, IsV, Region.binds] at hd
      have t110 := hF.get 59 110 (by kernel_rfl)
      simp only [hd] at t110
      clear hF
      have c0 := (kb.out.below hC4 kb.out.lt).cell 0
      simp only [List.getElem?_toArray, List.getElem?_cons_zero] at c0
      go_simp
      exact hK _ _ (hV _ _ hC4 (Below.refl _ _) rfl)
    · refine one_fr ?_ ?_ ?_
      · kernel_rfl
      · right; exact ⟨58, 109, by kernel_rfl, fun _ _ h => h⟩
      intro T y W4 K Q Cv hF hC4 hd hV hK
      simp [deps, VL, IsV, Region.binds] at hd
      have t111 := hF.get 60 111 (by kernel_rfl)
      simp only [hd] at t111
      clear hF
      go_simp
      exact hK _ _ (hV _ _ hC4 (Below.refl _ _) rfl)
    · refine one_fr ?_ ?_ ?_
      · kernel_rfl
      · right; exact ⟨58, 109, by kernel_rfl, fun _ _ h => h⟩
      intro T y W4 K Q Cv hF hC4 hd hV hK
      simp [deps, VL, IsV, Region.binds] at hd
      have t112 := hF.get 61 112 (by kernel_rfl)
      simp only [hd] at t112
      clear hF
      have lc := hlc.out W4 hC4
      have l0 := lc.1
      have l1 := lc.2.1
      have l2 := lc.2.2.1
      have l3 := lc.2.2.2.1
      have l4 := lc.2.2.2.2
      go_simp
      exact hK _ _ (hV _ _ hC4 (Below.refl _ _) rfl)
    · refine one_fr ?_ ?_ ?_
      · kernel_rfl
      · right; exact ⟨58, 109, by kernel_rfl, fun _ _ h => h⟩
      intro T y W4 K Q Cv hF hC4 hd hV hK
      clear hd
      clear hF
      go_simp
      exact hK _ _ (hV _ _ hC4 (Below.refl _ _) rfl)
    · refine one_fr ?_ ?_ ?_
      · kernel_rfl
      · right; exact ⟨58, 109, by kernel_rfl, fun _ _ h => h⟩
      intro T y W4 K Q Cv hF hC4 hd hV hK
      simp [deps, VL, IsV, Region.binds] at hd
      have t113 := hF.get 62 113 (by kernel_rfl)
      simp only [hd] at t113
      have t114 := hF.get 63 114 (by kernel_rfl)
      simp only [hd] at t114
      clear hF
      have qe := eqLes 0 0 57 2 1 0 0 57 2 1
      go_simp
      exact hK _ _ (hV _ _ hC4 (Below.refl _ _) rfl)
    · refine one_fr ?_ ?_ ?_
      · kernel_rfl
      · left; kernel_rfl
      intro T y W4 K Q Cv hF hC4 hd hV hK
      simp [deps, VL, IsV, Region.binds] at hd
      have t109 := hF.get 58 109 (by kernel_rfl)
      simp only [hd] at t109
      have t115 := hF.get 64 115 (by kernel_rfl)
      simp only [hd] at t115
      clear hF
      go_simp
      exact hK _ _ (hV _ _ hC4 (Below.refl _ _) rfl)
    · refine one_fr ?_ ?_ ?_
      · kernel_rfl
      · left; kernel_rfl
      intro T y W4 K Q Cv hF hC4 hd hV hK
      simp [deps, VL, IsV, Region.binds] at hd
      have t116 := hF.get 65 116 (by kernel_rfl)
      simp only [hd] at t116
      clear hF
      go_simp
      exact hK _ _ (hV _ _ hC4 (Below.refl _ _) rfl)
    · refine one_fr ?_ ?_ ?_
      · kernel_rfl
      · right; exact ⟨66, 117, by kernel_rfl, fun _ _ h => h⟩
      intro T y W4 K Q Cv hF hC4 hd hV hK
      clear hd
      have t11 := hF.old 11 (.pointer (some ⟨w14.heap.size, 0, none⟩)) (by kernel_rfl) (by kernel_rfl)
      clear hF
      go_simp
      exact hK _ _ (hV _ _ hC4 (Below.refl _ _) rfl)
    · refine one_fr ?_ ?_ ?_
      · kernel_rfl
      · right; exact ⟨66, 117, by kernel_rfl, fun _ _ h => h⟩
      intro T y W4 K Q Cv hF hC4 hd hV hK
      simp [deps, VL, IsV, Region.binds] at hd
      have t118 := hF.get 67 118 (by kernel_rfl)
      simp only [hd] at t118
      clear hF
      have c3 := (kb.out.below hC4 kb.out.lt).cell 3
      simp only [List.getElem?_toArray, List.getElem?_cons_zero, List.getElem?_cons_succ] at c3
      go_simp
      exact hK _ _ (hV _ _ hC4 (Below.refl _ _) rfl)
    · refine one_fr ?_ ?_ ?_
      · kernel_rfl
      · right; exact ⟨66, 117, by kernel_rfl, fun _ _ h => h⟩
      intro T y W4 K Q Cv hF hC4 hd hV hK
      clear hd
      clear hF
      go_simp
      refine hK _ _ (hV _ _ (hC4.alloc hC4.size _) ((Below.refl _ _).alloc (Nat.le_refl _) _) (isInts_blk (c := 6) [0, 0, 0, 0, 0, 0] (blkNew rfl) ?_ (by decide)))
      first | rfl | kernel_rfl | decide +kernel
    · refine one_fr ?_ ?_ ?_
      · kernel_rfl
      · right; exact ⟨66, 117, by kernel_rfl, fun _ _ h => h⟩
      intro T y W4 K Q Cv hF hC4 hd hV hK
      simp [deps, VL, IsV, Region.binds] at hd
      have t119 := hF.get 68 119 (by kernel_rfl)
      simp only [hd] at t119
      have t120 := hF.get 69 120 (by kernel_rfl)
      rw [Array.getD_eq_getD_getElem?] at t120
      have p120 : (IsInts [0, 0, 0, 0, 0, 0]) (y 69) W4 := by first | exact hd | exact hd.1 | exact hd.2 | exact hd.2.1 | exact hd.2.2 | exact hd.2.2.1 | exact hd.2.2.2 | exact hd.2.2.2.1 | exact hd.2.2.2.2 | exact hd.2.2.2.2.1
      clear hF
      have hs := Ints_t (rr3.out.below hC4) p120 run_W.2.2 (by rw [run_W.2.2]; unfold maxLen; decide)
      go_simp
      refine hs.mono ?_
      rintro e w7 ⟨rfl, hb7⟩
      exact hK _ _ (hV _ _ (hC4.trans (hb7.mono hC4.size)) hb7 rfl)
    · refine one_fr ?_ ?_ ?_
      · kernel_rfl
      · left; kernel_rfl
      intro T y W4 K Q Cv hF hC4 hd hV hK
      simp [deps, VL, IsV, Region.binds] at hd
      have t117 := hF.get 66 117 (by kernel_rfl)
      simp only [hd] at t117
      have t121 := hF.get 70 121 (by kernel_rfl)
      simp only [hd] at t121
      clear hF
      go_simp
      exact hK _ _ (hV _ _ hC4 (Below.refl _ _) rfl)
    · refine one_fr ?_ ?_ ?_
      · kernel_rfl
      · left; kernel_rfl
      intro T y W4 K Q Cv hF hC4 hd hV hK
      simp [deps, VL, IsV, Region.binds] at hd
      have t122 := hF.get 71 122 (by kernel_rfl)
      simp only [hd] at t122
      clear hF
      go_simp
      exact hK _ _ (hV _ _ hC4 (Below.refl _ _) rfl)
  intro y W4 hC4 hd
  have hd0 : y 72 = .bool true := hd.2.2.2.2.2.2.2.2.2.2.2.2.2.2.2.2.2.2.2.2.2.2.2.2.2.2.2.2.2.2.2.2.2.2.2.2.2.2.2.2.2.2.2.2.2.2.2.2.2.2.2.2.2.2.2.2.2.2.2.2.2.2.2.2.2.2.2.2.2.2.2.2.1
  have hBe := hide (hB.out.trans (hC4.mono hB.out.size))
  clear hd hC4
  refine end_fr (Q := Exit.then _ _ Exit.normal) ?_ ?_
  · kernel_rfl
  intro tm hget
  have t0 := hget 72 0 (by kernel_rfl)
  simp only [hd0] at t0
  clear hget
  dsimp only
  go_wp2
  rw [Array.getD_eq_getD_getElem?] at t0
  refine bodyPost_ret (v := .bool true) (by simp [results, Try.results20, go_sem, t0]) rfl ⟨rfl, hBe.out⟩
end Go.Proofs.Ytkmhldjebopljaa
