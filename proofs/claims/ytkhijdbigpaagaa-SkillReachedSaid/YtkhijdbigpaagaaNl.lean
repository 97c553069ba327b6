import Derived.Test.YtkhijdbigpaagaaNk
/-
  The law's Awake: all calls of the examples return what is said of them.
-/
namespace Go.Proofs.Ytkhijdbigpaagaa
open Go.RowKit RG

set_option maxRecDepth 100000 in
set_option maxHeartbeats 16000000 in
theorem AwakeS (w : World) : Calls Try.prog 24 #[] w fun e w' => e = .returned (.bool true) ∧ Below w.heap.size w w' := by
  go_enter Try.func24, Try.ntmps24
  go_wp2_with fail
  refine (School_w _).mono ?_
  rintro e w1 ⟨⟨v1, rfl, h1⟩, hb⟩
  have hB := hide hb
  replace h1 := hide h1
  clear hb
  go_wp2_with fail
  refine (Marks_any v1 S0 1 990 _ h1.out).mono ?_
  rintro e w2 ⟨rfl, hb⟩
  clear h1
  replace hB := hide (hB.out.trans (hb.mono hB.out.size))
  clear hb
  rw [marks_0]
  have hb := (Below.refl w2.heap.size w2).alloc (Nat.le_refl _) (.cells #[.int .i64 990, .int .i64 1000] 32)
  have ka := hide ((blkNew (w := w2) (t := 32) (cs := #[.int .i64 990, .int .i64 1000]) rfl))
  replace hB := hide (hB.out.alloc hB.out.size (.cells #[.int .i64 990, .int .i64 1000] 32))
  clear hb
  go_wp2_with fail
  refine (School_w _).mono ?_
  rintro e w3 ⟨⟨v2, rfl, h2⟩, hb⟩
  replace ka := hide (ka.out.below hb ka.out.lt)
  replace hB := hide (hB.out.trans (hb.mono hB.out.size))
  replace h2 := hide h2
  clear hb
  go_wp2_with fail
  refine (Behind_any v2 S0 0 500 _ h2.out).mono ?_
  rintro e w4 ⟨rfl, hb⟩
  clear h2
  replace ka := hide (ka.out.below hb ka.out.lt)
  replace hB := hide (hB.out.trans (hb.mono hB.out.size))
  clear hb
  rw [behind_0]
  have hb := (Below.refl w4.heap.size w4).alloc (Nat.le_refl _) (.cells #[.int .i64 500, .int .i64 520] 32)
  replace ka := hide (ka.out.below hb ka.out.lt)
  have kb := hide ((blkNew (w := w4) (t := 32) (cs := #[.int .i64 500, .int .i64 520]) rfl))
  replace hB := hide (hB.out.alloc hB.out.size (.cells #[.int .i64 500, .int .i64 520] 32))
  clear hb
  go_wp2_with fail
  refine (School_w _).mono ?_
  rintro e w5 ⟨⟨v3, rfl, h3⟩, hb⟩
  replace ka := hide (ka.out.below hb ka.out.lt)
  replace kb := hide (kb.out.below hb kb.out.lt)
  replace hB := hide (hB.out.trans (hb.mono hB.out.size))
  replace h3 := hide h3
  clear hb
  go_wp2_with fail
  refine (Start_w _).mono ?_
  rintro e w6 ⟨⟨r3, rfl, s3⟩, hb⟩
  replace ka := hide (ka.out.below hb ka.out.lt)
  replace kb := hide (kb.out.below hb kb.out.lt)
  replace h3 := hide (h3.out.below hb)
  replace hB := hide (hB.out.trans (hb.mono hB.out.size))
  replace s3 := hide s3
  clear hb
  go_wp2_with fail
  refine (Events_w 500 _).mono ?_
  rintro e w7 ⟨⟨u3, rfl, e3⟩, hb⟩
  replace ka := hide (ka.out.below hb ka.out.lt)
  replace kb := hide (kb.out.below hb kb.out.lt)
  replace h3 := hide (h3.out.below hb)
  replace s3 := hide (IsSpans.stb _ _ _ _ hb s3.out)
  replace hB := hide (hB.out.trans (hb.mono hB.out.size))
  replace e3 := hide e3
  clear hb
  go_wp2_with fail
  refine (After_k v3 r3 u3 S0 St0 (Ev0 500) 3 _ h3.out s3.out e3.out (by unfold maxLen; decide) (by show 2 ≤ maxLen; unfold maxLen; decide)).mono ?_
  rintro e w8 ⟨hR, hb⟩
  clear h3
  clear s3
  clear e3
  replace ka := hide (ka.out.below hb ka.out.lt)
  replace kb := hide (kb.out.below hb kb.out.lt)
  replace hB := hide (hB.out.trans (hb.mono hB.out.size))
  clear hb
  rw [after_0] at hR
  obtain ⟨l, rfl, hl⟩ := hR
  replace hl := hide hl
  go_wp2_with fail
  refine (School_w _).mono ?_
  rintro e w9 ⟨⟨v4, rfl, h4⟩, hb⟩
  replace ka := hide (ka.out.below hb ka.out.lt)
  replace kb := hide (kb.out.below hb kb.out.lt)
  replace hl := hide (IsSpans.stb _ _ _ _ hb hl.out)
  replace hB := hide (hB.out.trans (hb.mono hB.out.size))
  replace h4 := hide h4
  clear hb
  go_wp2_with fail
  refine (Start_w _).mono ?_
  rintro e w10 ⟨⟨r4, rfl, s4⟩, hb⟩
  replace ka := hide (ka.out.below hb ka.out.lt)
  replace kb := hide (kb.out.below hb kb.out.lt)
  replace hl := hide (IsSpans.stb _ _ _ _ hb hl.out)
  replace h4 := hide (h4.out.below hb)
  replace hB := hide (hB.out.trans (hb.mono hB.out.size))
  replace s4 := hide s4
  clear hb
  go_wp2_with fail
  refine (Events_w 520 _).mono ?_
  rintro e w11 ⟨⟨u4, rfl, e4⟩, hb⟩
  replace ka := hide (ka.out.below hb ka.out.lt)
  replace kb := hide (kb.out.below hb kb.out.lt)
  replace hl := hide (IsSpans.stb _ _ _ _ hb hl.out)
  replace h4 := hide (h4.out.below hb)
  replace s4 := hide (IsSpans.stb _ _ _ _ hb s4.out)
  replace hB := hide (hB.out.trans (hb.mono hB.out.size))
  replace e4 := hide e4
  clear hb
  go_wp2_with fail
  refine (Severity_k v4 r4 u4 S0 St0 (Ev0 520) 0 _ h4.out s4.out e4.out (by unfold maxLen; decide) (by show 2 ≤ maxLen; unfold maxLen; decide)).mono ?_
  rintro e w12 ⟨hR, hb⟩
  clear h4
  clear s4
  clear e4
  replace ka := hide (ka.out.below hb ka.out.lt)
  replace kb := hide (kb.out.below hb kb.out.lt)
  replace hl := hide (IsSpans.stb _ _ _ _ hb hl.out)
  replace hB := hide (hB.out.trans (hb.mono hB.out.size))
  clear hb
  rw [sev_0] at hR
  obtain rfl := hR
  have hb := (Below.refl w12.heap.size w12).alloc (Nat.le_refl _) (.cells #[.int .i64 (-10), .int .i64 0] 32)
  replace ka := hide (ka.out.below hb ka.out.lt)
  replace kb := hide (kb.out.below hb kb.out.lt)
  replace hl := hide (IsSpans.stb _ _ _ _ hb hl.out)
  have kc := hide ((blkNew (w := w12) (t := 32) (cs := #[.int .i64 (-10), .int .i64 0]) rfl))
  replace hB := hide (hB.out.alloc hB.out.size (.cells #[.int .i64 (-10), .int .i64 0] 32))
  clear hb
  go_wp2_with fail
  refine (School_w _).mono ?_
  rintro e w13 ⟨⟨v5, rfl, h5⟩, hb⟩
  replace ka := hide (ka.out.below hb ka.out.lt)
  replace kb := hide (kb.out.below hb kb.out.lt)
  replace hl := hide (IsSpans.stb _ _ _ _ hb hl.out)
  replace kc := hide (kc.out.below hb kc.out.lt)
  replace hB := hide (hB.out.trans (hb.mono hB.out.size))
  replace h5 := hide h5
  clear hb
  go_wp2_with fail
  refine (Test_w 1 _).mono ?_
  rintro e w14 ⟨⟨t5, rfl, k5⟩, hb⟩
  replace ka := hide (ka.out.below hb ka.out.lt)
  replace kb := hide (kb.out.below hb kb.out.lt)
  replace hl := hide (IsSpans.stb _ _ _ _ hb hl.out)
  replace kc := hide (kc.out.below hb kc.out.lt)
  replace h5 := hide (h5.out.below hb)
  replace hB := hide (hB.out.trans (hb.mono hB.out.size))
  replace k5 := hide k5
  clear hb
  have hb := (Below.refl w14.heap.size w14).alloc (Nat.le_refl _) (.cells #[.int .i64 490, .int .i64 385] 3)
  replace ka := hide (ka.out.below hb ka.out.lt)
  replace kb := hide (kb.out.below hb kb.out.lt)
  replace hl := hide (IsSpans.stb _ _ _ _ hb hl.out)
  replace kc := hide (kc.out.below hb kc.out.lt)
  replace h5 := hide (h5.out.below hb)
  replace k5 := hide (IsTst.stb _ _ _ _ _ hb k5.out)
  have i5 := hide (isInts_blk (c := 2) [490, 385] (blkNew (w := w14) (t := 3) (cs := #[.int .i64 490, .int .i64 385]) rfl) rfl (by decide))
  replace hB := hide (hB.out.alloc hB.out.size (.cells #[.int .i64 490, .int .i64 385] 3))
  clear hb
  go_wp2_with fail
  refine (Chance_k v5 t5 _ S0 Ts0 1 [490, 385] _ h5.out k5.out i5.out (by unfold maxLen; decide) (by unfold maxLen; decide)).mono ?_
  rintro e w15 ⟨rfl, hb⟩
  clear h5
  clear k5
  clear i5
  replace ka := hide (ka.out.below hb ka.out.lt)
  replace kb := hide (kb.out.below hb kb.out.lt)
  replace hl := hide (IsSpans.stb _ _ _ _ hb hl.out)
  replace kc := hide (kc.out.below hb kc.out.lt)
  replace hB := hide (hB.out.trans (hb.mono hB.out.size))
  clear hb
  rw [chance_0]
  go_wp2_with fail
  refine (School_w _).mono ?_
  rintro e w16 ⟨⟨v6, rfl, h6⟩, hb⟩
  replace ka := hide (ka.out.below hb ka.out.lt)
  replace kb := hide (kb.out.below hb kb.out.lt)
  replace hl := hide (IsSpans.stb _ _ _ _ hb hl.out)
  replace kc := hide (kc.out.below hb kc.out.lt)
  replace hB := hide (hB.out.trans (hb.mono hB.out.size))
  replace h6 := hide h6
  clear hb
  go_wp2_with fail
  refine (Test_w 1 _).mono ?_
  rintro e w17 ⟨⟨t6, rfl, k6⟩, hb⟩
  replace ka := hide (ka.out.below hb ka.out.lt)
  replace kb := hide (kb.out.below hb kb.out.lt)
  replace hl := hide (IsSpans.stb _ _ _ _ hb hl.out)
  replace kc := hide (kc.out.below hb kc.out.lt)
  replace h6 := hide (h6.out.below hb)
  replace hB := hide (hB.out.trans (hb.mono hB.out.size))
  replace k6 := hide k6
  clear hb
  go_wp2_with fail
  refine (Ready_k v6 t6 l S0 Ts0 1 L0 800 _ h6.out k6.out hl.out (by unfold maxLen; decide) (by unfold maxLen; decide)).mono ?_
  rintro e w18 ⟨rfl, hb⟩
  clear h6
  clear k6
  replace ka := hide (ka.out.below hb ka.out.lt)
  replace kb := hide (kb.out.below hb kb.out.lt)
  replace hl := hide (IsSpans.stb _ _ _ _ hb hl.out)
  replace kc := hide (kc.out.below hb kc.out.lt)
  replace hB := hide (hB.out.trans (hb.mono hB.out.size))
  clear hb
  rw [ready_0]
  go_wp2_with fail
  refine (School_w _).mono ?_
  rintro e w19 ⟨⟨v7, rfl, h7⟩, hb⟩
  replace ka := hide (ka.out.below hb ka.out.lt)
  replace kb := hide (kb.out.below hb kb.out.lt)
  replace hl := hide (IsSpans.stb _ _ _ _ hb hl.out)
  replace kc := hide (kc.out.below hb kc.out.lt)
  replace hB := hide (hB.out.trans (hb.mono hB.out.size))
  replace h7 := hide h7
  clear hb
  go_wp2_with fail
  refine (Test_w 0 _).mono ?_
  rintro e w20 ⟨⟨t7, rfl, k7⟩, hb⟩
  replace ka := hide (ka.out.below hb ka.out.lt)
  replace kb := hide (kb.out.below hb kb.out.lt)
  replace hl := hide (IsSpans.stb _ _ _ _ hb hl.out)
  replace kc := hide (kc.out.below hb kc.out.lt)
  replace h7 := hide (h7.out.below hb)
  replace hB := hide (hB.out.trans (hb.mono hB.out.size))
  replace k7 := hide k7
  clear hb
  go_wp2_with fail
  refine (Fewest_k v7 t7 l S0 Ts0 0 L0 400 _ h7.out k7.out hl.out (by unfold maxLen; decide) (by unfold maxLen; decide)).mono ?_
  rintro e w21 ⟨hR, hb⟩
  clear h7
  clear k7
  replace ka := hide (ka.out.below hb ka.out.lt)
  replace kb := hide (kb.out.below hb kb.out.lt)
  replace hl := hide (IsSpans.stb _ _ _ _ hb hl.out)
  replace kc := hide (kc.out.below hb kc.out.lt)
  replace hB := hide (hB.out.trans (hb.mono hB.out.size))
  clear hb
  rw [few_0] at hR
  obtain ⟨p, rfl, hp⟩ := hR
  replace hp : Hid (IsInts [5, 0] p w21) := hide hp
  go_wp2_with fail
  refine (School_w _).mono ?_
  rintro e w22 ⟨⟨v8, rfl, h8⟩, hb⟩
  replace ka := hide (ka.out.below hb ka.out.lt)
  replace kb := hide (kb.out.below hb kb.out.lt)
  replace hl := hide (IsSpans.stb _ _ _ _ hb hl.out)
  replace kc := hide (kc.out.below hb kc.out.lt)
  replace hp := hide (IsInts.stb _ _ _ _ hb hp.out)
  replace hB := hide (hB.out.trans (hb.mono hB.out.size))
  replace h8 := hide h8
  clear hb
  go_wp2_with fail
  refine (Start_w _).mono ?_
  rintro e w23 ⟨⟨r8, rfl, s8⟩, hb⟩
  replace ka := hide (ka.out.below hb ka.out.lt)
  replace kb := hide (kb.out.below hb kb.out.lt)
  replace hl := hide (IsSpans.stb _ _ _ _ hb hl.out)
  replace kc := hide (kc.out.below hb kc.out.lt)
  replace hp := hide (IsInts.stb _ _ _ _ hb hp.out)
  replace h8 := hide (h8.out.below hb)
  replace hB := hide (hB.out.trans (hb.mono hB.out.size))
  replace s8 := hide s8
  clear hb
  go_wp2_with fail
  refine (Events_w 560 _).mono ?_
  rintro e w24 ⟨⟨u8, rfl, e8⟩, hb⟩
  replace ka := hide (ka.out.below hb ka.out.lt)
  replace kb := hide (kb.out.below hb kb.out.lt)
  replace hl := hide (IsSpans.stb _ _ _ _ hb hl.out)
  replace kc := hide (kc.out.below hb kc.out.lt)
  replace hp := hide (IsInts.stb _ _ _ _ hb hp.out)
  replace h8 := hide (h8.out.below hb)
  replace s8 := hide (IsSpans.stb _ _ _ _ hb s8.out)
  replace hB := hide (hB.out.trans (hb.mono hB.out.size))
  replace e8 := hide e8
  clear hb
  go_wp2_with fail
  refine (After_k v8 r8 u8 S0 St0 (Ev0 560) 3 _ h8.out s8.out e8.out (by unfold maxLen; decide) (by show 2 ≤ maxLen; unfold maxLen; decide)).mono ?_
  rintro e w25 ⟨hR, hb⟩
  clear h8
  clear s8
  clear e8
  replace ka := hide (ka.out.below hb ka.out.lt)
  replace kb := hide (kb.out.below hb kb.out.lt)
  replace hl := hide (IsSpans.stb _ _ _ _ hb hl.out)
  replace kc := hide (kc.out.below hb kc.out.lt)
  replace hp := hide (IsInts.stb _ _ _ _ hb hp.out)
  replace hB := hide (hB.out.trans (hb.mono hB.out.size))
  clear hb
  rw [after_1] at hR
  obtain ⟨n8, rfl, -⟩ := hR
  go_wp2
  have q1 := fun W => eqSpan 990 1000 990 1000 W
  have q2 := fun W => eqSpan 500 520 500 520 W
  have q3 := fun W => eqSpan (-10) 0 (-10) 0 W
  refine region_grow [IsV (.int .i64 0), IsV (.bool true), IsV (.bool true), IsV (.int .i64 0), IsV (.bool true), IsV (.bool true), IsV (.bool true), IsV (.int .i64 0), IsV (.bool true), IsV (.bool true), IsV (.bool true), IsV (.int .i64 0), IsV (.bool true), IsV (.bool true), IsV (.bool true), IsV (.int .i64 0), IsV (.bool true), IsV (.bool true), IsV (.bool true), IsV (.int .i64 0), IsV (.bool true), IsV (.bool true), IsV (.bool true), IsV (.int .i64 0), IsV (.bool true), IsV (.bool true), IsV (.bool true), IsV (.int .i64 9), IsV (.bool true), IsV (.bool true), IsV (.bool true), IsV (.agg #[.int .i64 990, .int .i64 1000]), IsV (.agg #[.int .i64 990, .int .i64 1000]), IsV (.bool true), IsV (.bool true), IsV (.bool true), IsV (.agg #[.int .i64 500, .int .i64 520]), IsV (.agg #[.int .i64 500, .int .i64 520]), IsV (.bool true), IsV (.bool true), IsV (.bool true), IsV (l), IsV (.agg #[.int .i64 490, .int .i64 515]), IsV (.agg #[.int .i64 385, .int .i64 500]), IsSpans L0, IsV (.bool true), IsV (.bool true), IsV (.bool true), IsV (.agg #[.int .i64 (-10), .int .i64 0]), IsV (.agg #[.int .i64 (-10), .int .i64 0]), IsV (.bool true), IsV (.bool true), IsV (.bool true), IsV (.int .i64 829850), IsV (.bool true), IsV (.bool true), IsV (.bool true), IsV (.bool true), IsV (.bool true), IsV (.bool true), IsV (.int .i64 829850), IsV (.bool true), IsV (.bool true), IsV (.bool true), IsV (.int .i64 884500), IsV (.bool true), IsV (.bool true), IsV (.bool true), IsV (p), IsInts [5, 0], IsV (.bool true), IsV (.bool true), IsV (.bool true)] (by kernel_rfl) (by kernel_rfl) rfl ?_ ?_ ?_
  · exact ⟨IsV.stb _, IsV.stb _, IsV.stb _, IsV.stb _, IsV.stb _, IsV.stb _, IsV.stb _, IsV.stb _, IsV.stb _, IsV.stb _, IsV.stb _, IsV.stb _, IsV.stb _, IsV.stb _, IsV.stb _, IsV.stb _, IsV.stb _, IsV.stb _, IsV.stb _, IsV.stb _, IsV.stb _, IsV.stb _, IsV.stb _, IsV.stb _, IsV.stb _, IsV.stb _, IsV.stb _, IsV.stb _, IsV.stb _, IsV.stb _, IsV.stb _, IsV.stb _, IsV.stb _, IsV.stb _, IsV.stb _, IsV.stb _, IsV.stb _, IsV.stb _, IsV.stb _, IsV.stb _, IsV.stb _, IsV.stb _, IsV.stb _, IsV.stb _, IsSpans.stb _, IsV.stb _, IsV.stb _, IsV.stb _, IsV.stb _, IsV.stb _, IsV.stb _, IsV.stb _, IsV.stb _, IsV.stb _, IsV.stb _, IsV.stb _, IsV.stb _, IsV.stb _, IsV.stb _, IsV.stb _, IsV.stb _, IsV.stb _, IsV.stb _, IsV.stb _, IsV.stb _, IsV.stb _, IsV.stb _, IsV.stb _, IsV.stb _, IsInts.stb _, IsV.stb _, IsV.stb _, IsV.stb _, trivial⟩
  · refine ⟨?_, ?_, ?_, ?_, ?_, ?_, ?_, ?_, ?_, ?_, ?_, ?_, ?_, ?_, ?_, ?_, ?_, ?_, ?_, ?_, ?_, ?_, ?_, ?_, ?_, ?_, ?_, ?_, ?_, ?_, ?_, ?_, ?_, ?_, ?_, ?_, ?_, ?_, ?_, ?_, ?_, ?_, ?_, ?_, ?_, ?_, ?_, ?_, ?_, ?_, ?_, ?_, ?_, ?_, ?_, ?_, ?_, ?_, ?_, ?_, ?_, ?_, ?_, ?_, ?_, ?_, ?_, ?_, ?_, ?_, ?_, ?_, ?_, trivial⟩
    · refine one_fr ?_ ?_ ?_
      · kernel_rfl
      · left; kernel_rfl
      intro T y W4 K Q Cv hF hC4 hd hV hK
      clear hd
      have t2 := hF.old 2 (.int .i64 0) (by kernel_rfl) (by kernel_rfl)
      clear hF
      go_simp
      exact hK _ _ (hV _ _ hC4 (Below.refl _ _) rfl)
    · refine one_fr ?_ ?_ ?_
      · kernel_rfl
      · left; kernel_rfl
      intro T y W4 K Q Cv hF hC4 hd hV hK
      simp [deps, VL, IsV, Region.binds] at hd
      have t73 := hF.get 0 73 (by kernel_rfl)
      simp only [hd] at t73
      clear hF
      go_simp
      exact hK _ _ (hV _ _ hC4 (Below.refl _ _) rfl)
    · refine one_fr ?_ ?_ ?_
      · kernel_rfl
      · left; kernel_rfl
      intro T y W4 K Q Cv hF hC4 hd hV hK
      simp [deps, VL, IsV, Region.binds] at hd
      have t74 := hF.get 1 74 (by kernel_rfl)
      simp only [hd] at t74
      clear hF
      go_simp
      exact hK _ _ (hV _ _ hC4 (Below.refl _ _) rfl)
    · refine one_fr ?_ ?_ ?_
      · kernel_rfl
      · right; exact ⟨2, 75, by kernel_rfl, fun _ _ h => h⟩
      intro T y W4 K Q Cv hF hC4 hd hV hK
      clear hd
      have t4 := hF.old 4 (.int .i64 0) (by kernel_rfl) (by kernel_rfl)
      clear hF
      go_simp
      exact hK _ _ (hV _ _ hC4 (Below.refl _ _) rfl)
    · refine one_fr ?_ ?_ ?_
      · kernel_rfl
      · right; exact ⟨2, 75, by kernel_rfl, fun _ _ h => h⟩
      intro T y W4 K Q Cv hF hC4 hd hV hK
      simp [deps, VL, IsV, Region.binds] at hd
      have t76 := hF.get 3 76 (by kernel_rfl)
      simp only [hd] at t76
      clear hF
      go_simp
      exact hK _ _ (hV _ _ hC4 (Below.refl _ _) rfl)
    · refine one_fr ?_ ?_ ?_
      · kernel_rfl
      · left; kernel_rfl
      intro T y W4 K Q Cv hF hC4 hd hV hK
      simp [deps, VL, IsV, Region.binds] at hd
      have t75 := hF.get 2 75 (by kernel_rfl)
      simp only [hd] at t75
      have t77 := hF.get 4 77 (by kernel_rfl)
      simp only [hd] at t77
      clear hF
      go_simp
      exact hK _ _ (hV _ _ hC4 (Below.refl _ _) rfl)
    · refine one_fr ?_ ?_ ?_
      · kernel_rfl
      · left; kernel_rfl
      intro T y W4 K Q Cv hF hC4 hd hV hK
      simp [deps, VL, IsV, Region.binds] at hd
      have t78 := hF.get 5 78 (by kernel_rfl)
      simp only [hd] at t78
      clear hF
      go_simp
      exact hK _ _ (hV _ _ hC4 (Below.refl _ _) rfl)
    · refine one_fr ?_ ?_ ?_
      · kernel_rfl
      · right; exact ⟨6, 79, by kernel_rfl, fun _ _ h => h⟩
      intro T y W4 K Q Cv hF hC4 hd hV hK
      clear hd
      have t6 := hF.old 6 (.int .i64 0) (by kernel_rfl) (by kernel_rfl)
      clear hF
      go_simp
      exact hK _ _ (hV _ _ hC4 (Below.refl _ _) rfl)
    · refine one_fr ?_ ?_ ?_
      · kernel_rfl
      · right; exact ⟨6, 79, by kernel_rfl, fun _ _ h => h⟩
      intro T y W4 K Q Cv hF hC4 hd hV hK
      simp [deps, VL, IsV, Region.binds] at hd
      have t80 := hF.get 7 80 (by kernel_rfl)
      simp only [hd] at t80
      clear hF
      go_simp
      exact hK _ _ (hV _ _ hC4 (Below.refl _ _) rfl)
    · refine one_fr ?_ ?_ ?_
      · kernel_rfl
      · left; kernel_rfl
      intro T y W4 K Q Cv hF hC4 hd hV hK
      simp [deps, VL, IsV, Region.binds] at hd
      have t79 := hF.get 6 79 (by kernel_rfl)
      simp only [hd] at t79
      have t81 := hF.get 8 81 (by kernel_rfl)
      simp only [hd] at t81
      clear hF
      go_simp
      exact hK _ _ (hV _ _ hC4 (Below.refl _ _) rfl)
    · refine one_fr ?_ ?_ ?_
      · kernel_rfl
      · left; kernel_rfl
      intro T y W4 K Q Cv hF hC4 hd hV hK
      simp [deps, VL, IsV, Region.binds] at hd
      have t82 := hF.get 9 82 (by kernel_rfl)
      simp only [hd] at t82
      clear hF
      go_simp
      exact hK _ _ (hV _ _ hC4 (Below.refl _ _) rfl)
    · refine one_fr ?_ ?_ ?_
      · kernel_rfl
      · right; exact ⟨10, 83, by kernel_rfl, fun _ _ h => h⟩
      intro T y W4 K Q Cv hF hC4 hd hV hK
      clear hd
      have t8 := hF.old 8 (.int .i64 0) (by kernel_rfl) (by kernel_rfl)
      clear hF
      go_simp
      exact hK _ _ (hV _ _ hC4 (Below.refl _ _) rfl)
    · refine one_fr ?_ ?_ ?_
      · kernel_rfl
      · right; exact ⟨10, 83, by kernel_rfl, fun _ _ h => h⟩
      intro T y W4 K Q Cv hF hC4 hd hV hK
      simp [deps, VL, IsV, Region.binds] at hd
      have t84 := hF.get 11 84 (by kernel_rfl)
      simp only [hd] at t84
      clear hF
      go_simp
      exact hK _ _ (hV _ _ hC4 (Below.refl _ _) rfl)
    · refine one_fr ?_ ?_ ?_
      · kernel_rfl
      · left; kernel_rfl
      intro T y W4 K Q Cv hF hC4 hd hV hK
      simp [deps, VL, IsV, Region.binds] at hd
      have t83 := hF.get 10 83 (by kernel_rfl)
      simp only [hd] at t83
      have t85 := hF.get 12 85 (by kernel_rfl)
      simp only [hd] at t85
      clear hF
      go_simp
      exact hK _ _ (hV _ _ hC4 (Below.refl _ _) rfl)
    · refine one_fr ?_ ?_ ?_
      · kernel_rfl
      · left; kernel_rfl
      intro T y W4 K Q Cv hF hC4 hd hV hK
      simp [deps, VL, IsV, Region.binds] at hd
      have t86 := hF.get 13 86 (by kernel_rfl)
      simp only [hd] at t86
      clear hF
      go_simp
      exact hK _ _ (hV _ _ hC4 (Below.refl _ _) rfl)
    · refine one_fr ?_ ?_ ?_
      · kernel_rfl
      · right; exact ⟨14, 87, by kernel_rfl, fun _ _ h => h⟩
      intro T y W4 K Q Cv hF hC4 hd hV hK
      clear hd
      have t10 := hF.old 10 (.int .i64 0) (by kernel_rfl) (by kernel_rfl)
      clear hF
      go_simp
      exact hK _ _ (hV _ _ hC4 (Below.refl _ _) rfl)
    · refine one_fr ?_ ?_ ?_
      · kernel_rfl
      · right; exact ⟨14, 87, by kernel_rfl, fun _ _ h => h⟩
      intro T y W4 K Q Cv hF hC4 hd hV hK
      simp [deps, VL, IsV, Region.binds] at hd
      have t88 := hF.get 15 88 (by kernel_rfl)
      simp only [hd] at t88
      clear hF
      go_simp
      exact hK _ _ (hV _ _ hC4 (Below.refl _ _) rfl)
    · refine one_fr ?_ ?_ ?_
      · kernel_rfl
      · left; kernel_rfl
      intro T y W4 K Q Cv hF hC4 hd hV hK
      simp [deps, VL, IsV, Region.binds] at hd
      have t87 := hF.get 14 87 (by kernel_rfl)
      simp only [hd] at t87
      have t89 := hF.get 16 89 (by kernel_rfl)
      simp only [hd] at t89
      clear hF
      go_simp
      exact hK _ _ (hV _ _ hC4 (Below.refl _ _) rfl)
    · refine one_fr ?_ ?_ ?_
      · kernel_rfl
      · left; kernel_rfl
      intro T y W4 K Q Cv hF hC4 hd hV hK
      simp [deps, VL, IsV, Region.binds] at hd
      have t90 := hF.get 17 90 (by kernel_rfl)
      simp only [hd] at t90
      clear hF
      go_simp
      exact hK _ _ (hV _ _ hC4 (Below.refl _ _) rfl)
    · refine one_fr ?_ ?_ ?_
      · kernel_rfl
      · right; exact ⟨18, 91, by kernel_rfl, fun _ _ h => h⟩
      intro T y W4 K Q Cv hF hC4 hd hV hK
      clear hd
      have t14 := hF.old 14 (.int .i64 0) (by kernel_rfl) (by kernel_rfl)
      clear hF
      go_simp
      exact hK _ _ (hV _ _ hC4 (Below.refl _ _) rfl)
    · refine one_fr ?_ ?_ ?_
      · kernel_rfl
      · right; exact ⟨18, 91, by kernel_rfl, fun _ _ h => h⟩
      intro T y W4 K Q Cv hF hC4 hd hV hK
      simp [deps, VL, IsV, Region.binds] at hd
      have t92 := hF.get 19 92 (by kernel_rfl)
      simp only [hd] at t92
      clear hF
      go_simp
      exact hK _ _ (hV _ _ hC4 (Below.refl _ _) rfl)
    · refine one_fr ?_ ?_ ?_
      · kernel_rfl
      · left; kernel_rfl
      intro T y W4 K Q Cv hF hC4 hd hV hK
      simp [deps, VL, IsV, Region.binds] at hd
      have t91 := hF.get 18 91 (by kernel_rfl)
      simp only [hd] at t91
      have t93 := hF.get 20 93 (by kernel_rfl)
      simp only [hd] at t93
      clear hF
      go_simp
      exact hK _ _ (hV _ _ hC4 (Below.refl _ _) rfl)
    · refine one_fr ?_ ?_ ?_
      · kernel_rfl
      · left; kernel_rfl
      intro T y W4 K Q Cv hF hC4 hd hV hK
      simp [deps, VL, IsV, Region.binds] at hd
      have t94 := hF.get 21 94 (by kernel_rfl)
      simp only [hd] at t94
      clear hF
      go_simp
      exact hK _ _ (hV _ _ hC4 (Below.refl _ _) rfl)
    · refine one_fr ?_ ?_ ?_
      · kernel_rfl
      · right; exact ⟨22, 95, by kernel_rfl, fun _ _ h => h⟩
      intro T y W4 K Q Cv hF hC4 hd hV hK
      clear hd
      have t16 := hF.old 16 (.int .i64 0) (by kernel_rfl) (by kernel_rfl)
      clear hF
      go_simp
      exact hK _ _ (hV _ _ hC4 (Below.refl _ _) rfl)
    · refine one_fr ?_ ?_ ?_
      · kernel_rfl
      · right; exact ⟨22, 95, by kernel_rfl, fun _ _ h => h⟩
      intro T y W4 K Q Cv hF hC4 hd hV hK
      simp [deps, VL, IsV, Region.binds] at hd
      have t96 := hF.get 23 96 (by kernel_rfl)
      simp only [hd] at t96
      clear hF
      go_simp
      exact hK _ _ (hV _ _ hC4 (Below.refl _ _) rfl)
    · refine one_fr ?_ ?_ ?_
      · kernel_rfl
      · left; kernel_rfl
      intro T y W4 K Q Cv hF hC4 hd hV hK
      simp [deps, VL, IsV, Region.binds] at hd
      have t95 := hF.get 22 95 (by kernel_rfl)
      simp only [hd] at t95
      have t97 := hF.get 24 97 (by kernel_rfl)
      simp only [hd] at t97
      clear hF
      go_simp
      exact hK _ _ (hV _ _ hC4 (Below.refl _ _) rfl)
    · refine one_fr ?_ ?_ ?_
      · kernel_rfl
      · left; kernel_rfl
      intro T y W4 K Q Cv hF hC4 hd hV hK
      simp [deps, VL, IsV, Region.binds] at hd
      have t98 := hF.get 25 98 (by kernel_rfl)
      simp only [hd] at t98
      clear hF
      go_simp
      exact hK _ _ (hV _ _ hC4 (Below.refl _ _) rfl)
    · refine one_fr ?_ ?_ ?_
      · kernel_rfl
      · right; exact ⟨26, 99, by kernel_rfl, fun _ _ h => h⟩
      intro T y W4 K Q Cv hF hC4 hd hV hK
      clear hd
      have t18 := hF.old 18 (.int .i64 9) (by kernel_rfl) (by kernel_rfl)
      clear hF
      go_simp
      exact hK _ _ (hV _ _ hC4 (Below.refl _ _) rfl)
    · refine one_fr ?_ ?_ ?_
      · kernel_rfl
      · right; exact ⟨26, 99, by kernel_rfl, fun _ _ h => h⟩
      intro T y W4 K Q Cv hF hC4 hd hV hK
      simp [deps, VL, IsV, Region.binds] at hd
      have t100 := hF.get 27 100 (by kernel_rfl)
      simp only [hd] at t100
      clear hF
      go_simp
      exact hK _ _ (hV _ _ hC4 (Below.refl _ _) rfl)
    · refine one_fr ?_ ?_ ?_
      · kernel_rfl
      · left; kernel_rfl
      intro T y W4 K Q Cv hF hC4 hd hV hK
      simp [deps, VL, IsV, Region.binds] at hd
      have t99 := hF.get 26 99 (by kernel_rfl)
      simp only [hd] at t99
      have t101 := hF.get 28 101 (by kernel_rfl)
      simp only [hd] at t101
      clear hF
      go_simp
      exact hK _ _ (hV _ _ hC4 (Below.refl _ _) rfl)
    · refine one_fr ?_ ?_ ?_
      · kernel_rfl
      · left; kernel_rfl
      intro T y W4 K Q Cv hF hC4 hd hV hK
      simp [deps, VL, IsV, Region.binds] at hd
      have t102 := hF.get 29 102 (by kernel_rfl)
      simp only [hd] at t102
      clear hF
      go_simp
      exact hK _ _ (hV _ _ hC4 (Below.refl _ _) rfl)
    · refine one_fr ?_ ?_ ?_
      · kernel_rfl
      · right; exact ⟨30, 103, by kernel_rfl, fun _ _ h => h⟩
      intro T y W4 K Q Cv hF hC4 hd hV hK
      clear hd
      have t1 := hF.old 1 (.pointer (some ⟨w2.heap.size, 0, none⟩)) (by kernel_rfl) (by kernel_rfl)
      clear hF
      have c0 := (ka.out.below hC4 ka.out.lt).cell 0
      have c1 := (ka.out.below hC4 ka.out.lt).cell 1
      simp only [List.getElem?_toArray, List.getElem?_cons_zero, List.getElem?_cons_succ] at c0 c1
      go_simp
      exact hK _ _ (hV _ _ hC4 (Below.refl _ _) rfl)
    · refine one_fr ?_ ?_ ?_
      · kernel_rfl
      · right; exact ⟨30, 103, by kernel_rfl, fun _ _ h => h⟩
      intro T y W4 K Q Cv hF hC4 hd hV hK
      clear hd
      clear hF
      go_simp
      refine (span_w 990 1000 _).mono ?_
      rintro e w7 ⟨rfl, hb7⟩
      exact hK _ _ (hV _ _ (hC4.trans (hb7.mono hC4.size)) hb7 rfl)
    · refine one_fr ?_ ?_ ?_
      · kernel_rfl
      · right; exact ⟨30, 103, by kernel_rfl, fun _ _ h => h⟩
      intro T y W4 K Q Cv hF hC4 hd hV hK
      simp [deps, VL, IsV, Region.binds] at hd
      have t104 := hF.get 31 104 (by kernel_rfl)
      simp only [hd] at t104
      have t105 := hF.get 32 105 (by kernel_rfl)
      simp only [hd] at t105
      clear hF
      go_simp
      exact hK _ _ (hV _ _ hC4 (Below.refl _ _) rfl)
    · refine one_fr ?_ ?_ ?_
      · kernel_rfl
      · left; kernel_rfl
      intro T y W4 K Q Cv hF hC4 hd hV hK
      simp [deps, VL, IsV, Region.binds] at hd
      have t103 := hF.get 30 103 (by kernel_rfl)
      simp only [hd] at t103
      have t106 := hF.get 33 106 (by kernel_rfl)
      simp only [hd] at t106
      clear hF
      go_simp
      exact hK _ _ (hV _ _ hC4 (Below.refl _ _) rfl)
    · refine one_fr ?_ ?_ ?_
      · kernel_rfl
      · left; kernel_rfl
      intro T y W4 K Q Cv hF hC4 hd hV hK
      simp [deps, VL, IsV, Region.binds] at hd
      have t107 := hF.get 34 107 (by kernel_rfl)
      simp only [hd] at t107
      clear hF
      go_simp
      exact hK _ _ (hV _ _ hC4 (Below.refl _ _) rfl)
    · refine one_fr ?_ ?_ ?_
      · kernel_rfl
      · right; exact ⟨35, 108, by kernel_rfl, fun _ _ h => h⟩
      intro T y W4 K Q Cv hF hC4 hd hV hK
      clear hd
      have t3 := hF.old 3 (.pointer (some ⟨w4.heap.size, 0, none⟩)) (by kernel_rfl) (by kernel_rfl)
      clear hF
      have c0 := (kb.out.below hC4 kb.out.lt).cell 0
      have c1 := (kb.out.below hC4 kb.out.lt).cell 1
      simp only [List.getElem?_toArray, List.getElem?_cons_zero, List.getElem?_cons_succ] at c0 c1
      go_simp
      exact hK _ _ (hV _ _ hC4 (Below.refl _ _) rfl)
    · refine one_fr ?_ ?_ ?_
      · kernel_rfl
      · right; exact ⟨35, 108, by kernel_rfl, fun _ _ h => h⟩
      intro T y W4 K Q Cv hF hC4 hd hV hK
      clear hd
      clear hF
      go_simp
      refine (span_w 500 520 _).mono ?_
      rintro e w7 ⟨rfl, hb7⟩
      exact hK _ _ (hV _ _ (hC4.trans (hb7.mono hC4.size)) hb7 rfl)
    · refine one_fr ?_ ?_ ?_
      · kernel_rfl
      · right; exact ⟨35, 108, by kernel_rfl, fun _ _ h => h⟩
      intro T y W4 K Q Cv hF hC4 hd hV hK
      simp [deps, VL, IsV, Region.binds] at hd
      have t109 := hF.get 36 109 (by kernel_rfl)
      simp only [hd] at t109
      have t110 := hF.get 37 110 (by kernel_rfl)
      simp only [hd] at t110
      clear hF
      go_simp
      exact hK _ _ (hV _ _ hC4 (Below.refl _ _) rfl)
    · refine one_fr ?_ ?_ ?_
      · kernel_rfl
      · left; kernel_rfl
      intro T y W4 K Q Cv hF hC4 hd hV hK
      simp [deps, VL, IsV, Region.binds] at hd
      have t108 := hF.get 35 108 (by kernel_rfl)
      simp only [hd] at t108
      have t111 := hF.get 38 111 (by kernel_rfl)
      simp only [hd] at t111
      clear hF
      go_simp
      exact hK _ _ (hV _ _ hC4 (Below.refl _ _) rfl)
    · refine one_fr ?_ ?_ ?_
      · kernel_rfl
      · left; kernel_rfl
      intro T y W4 K Q Cv hF hC4 hd hV hK
      simp [deps, VL, IsV, Region.binds] at hd
      have t112 := hF.get 39 112 (by kernel_rfl)
      simp only [hd] at t112
      clear hF
      go_simp
      exact hK _ _ (hV _ _ hC4 (Below.refl _ _) rfl)
    · refine one_fr ?_ ?_ ?_
      · kernel_rfl
      · right; exact ⟨40, 113, by kernel_rfl, fun _ _ h => h⟩
      intro T y W4 K Q Cv hF hC4 hd hV hK
      clear hd
      have t5 := hF.old 5 (l) (by kernel_rfl) (by kernel_rfl)
      clear hF
      go_simp
      exact hK _ _ (hV _ _ hC4 (Below.refl _ _) rfl)
    · refine one_fr ?_ ?_ ?_
      · kernel_rfl
      · right; exact ⟨40, 113, by kernel_rfl, fun _ _ h => h⟩
      intro T y W4 K Q Cv hF hC4 hd hV hK
      clear hd
      clear hF
      go_simp
      refine (span_w 490 515 _).mono ?_
      rintro e w7 ⟨rfl, hb7⟩
      exact hK _ _ (hV _ _ (hC4.trans (hb7.mono hC4.size)) hb7 rfl)
    · refine one_fr ?_ ?_ ?_
      · kernel_rfl
      · right; exact ⟨40, 113, by kernel_rfl, fun _ _ h => h⟩
      intro T y W4 K Q Cv hF hC4 hd hV hK
      clear hd
      clear hF
      go_simp
      refine (span_w 385 500 _).mono ?_
      rintro e w7 ⟨rfl, hb7⟩
      exact hK _ _ (hV _ _ (hC4.trans (hb7.mono hC4.size)) hb7 rfl)
    · refine one_fr ?_ ?_ ?_
      · kernel_rfl
      · right; exact ⟨40, 113, by kernel_rfl, fun _ _ h => h⟩
      intro T y W4 K Q Cv hF hC4 hd hV hK
      simp [deps, VL, IsV, Region.binds] at hd
      have t115 := hF.get 42 115 (by kernel_rfl)
      simp only [hd] at t115
      have t116 := hF.get 43 116 (by kernel_rfl)
      simp only [hd] at t116
      rw [Array.getD_eq_getD_getElem?] at t115
      rw [Array.getD_eq_getD_getElem?] at t116
      clear hF
      go_simp
      refine hK _ _ (hV _ _ (hC4.alloc hC4.size _) ((Below.refl _ _).alloc (Nat.le_refl _) _) (isSpans_blk (c := 2) L0 (blkNew rfl) ?_ (by decide)))
      rfl
    · refine one_fr ?_ ?_ ?_
      · kernel_rfl
      · right; exact ⟨40, 113, by kernel_rfl, fun _ _ h => h⟩
      intro T y W4 K Q Cv hF hC4 hd hV hK
      simp [deps, VL, IsV, Region.binds] at hd
      have t114 := hF.get 41 114 (by kernel_rfl)
      simp only [hd] at t114
      have t117 := hF.get 44 117 (by kernel_rfl)
      clear hF
      have hs := (Spans_k _ _ W4 L0 L0 (IsSpans.stb _ _ _ _ hC4 hl.out) (by first | exact hd.2.1 | exact hd.2) (by unfold maxLen; decide) (by unfold maxLen; decide))
      simp only [decide_true] at hs
      go_simp
      refine hs.mono ?_
      rintro e w7 ⟨rfl, hb7⟩
      exact hK _ _ (hV _ _ (hC4.trans (hb7.mono hC4.size)) hb7 rfl)
    · refine one_fr ?_ ?_ ?_
      · kernel_rfl
      · left; kernel_rfl
      intro T y W4 K Q Cv hF hC4 hd hV hK
      simp [deps, VL, IsV, Region.binds] at hd
      have t113 := hF.get 40 113 (by kernel_rfl)
      simp only [hd] at t113
      have t118 := hF.get 45 118 (by kernel_rfl)
      simp only [hd] at t118
      clear hF
      go_simp
      exact hK _ _ (hV _ _ hC4 (Below.refl _ _) rfl)
    · refine one_fr ?_ ?_ ?_
      · kernel_rfl
      · left; kernel_rfl
      intro T y W4 K Q Cv hF hC4 hd hV hK
      simp [deps, VL, IsV, Region.binds] at hd
      have t119 := hF.get 46 119 (by kernel_rfl)
      simp only [hd] at t119
      clear hF
      go_simp
      exact hK _ _ (hV _ _ hC4 (Below.refl _ _) rfl)
    · refine one_fr ?_ ?_ ?_
      · kernel_rfl
      · right; exact ⟨47, 120, by kernel_rfl, fun _ _ h => h⟩
      intro T y W4 K Q Cv hF hC4 hd hV hK
      clear hd
      have t7 := hF.old 7 (.pointer (some ⟨w12.heap.size, 0, none⟩)) (by kernel_rfl) (by kernel_rfl)
      clear hF
      have c0 := (kc.out.below hC4 kc.out.lt).cell 0
      have c1 := (kc.out.below hC4 kc.out.lt).cell 1
      simp only [List.getElem?_toArray, List.getElem?_cons_zero, List.getElem?_cons_succ] at c0 c1
      go_simp
      exact hK _ _ (hV _ _ hC4 (Below.refl _ _) rfl)
    · refine one_fr ?_ ?_ ?_
      · kernel_rfl
      · right; exact ⟨47, 120, by kernel_rfl, fun _ _ h => h⟩
      intro T y W4 K Q Cv hF hC4 hd hV hK
      clear hd
      clear hF
      go_simp
      refine (span_w (-10) 0 _).mono ?_
      rintro e w7 ⟨rfl, hb7⟩
      exact hK _ _ (hV _ _ (hC4.trans (hb7.mono hC4.size)) hb7 rfl)
    · refine one_fr ?_ ?_ ?_
      · kernel_rfl
      · right; exact ⟨47, 120, by kernel_rfl, fun _ _ h => h⟩
      intro T y W4 K Q Cv hF hC4 hd hV hK
      simp [deps, VL, IsV, Region.binds] at hd
      have t121 := hF.get 48 121 (by kernel_rfl)
      simp only [hd] at t121
      have t122 := hF.get 49 122 (by kernel_rfl)
      simp only [hd] at t122
      clear hF
      go_simp
      exact hK _ _ (hV _ _ hC4 (Below.refl _ _) rfl)
    · refine one_fr ?_ ?_ ?_
      · kernel_rfl
      · left; kernel_rfl
      intro T y W4 K Q Cv hF hC4 hd hV hK
      simp [deps, VL, IsV, Region.binds] at hd
      have t120 := hF.get 47 120 (by kernel_rfl)
      simp only [hd] at t120
      have t123 := hF.get 50 123 (by kernel_rfl)
      simp only [hd] at t123
      clear hF
      go_simp
      exact hK _ _ (hV _ _ hC4 (Below.refl _ _) rfl)
    · refine one_fr ?_ ?_ ?_
      · kernel_rfl
      · left; kernel_rfl
      intro T y W4 K Q Cv hF hC4 hd hV hK
      simp [deps, VL, IsV, Region.binds] at hd
      have t124 := hF.get 51 124 (by kernel_rfl)
      simp only [hd] at t124
      clear hF
      go_simp
      exact hK _ _ (hV _ _ hC4 (Below.refl _ _) rfl)
    · refine one_fr ?_ ?_ ?_
      · kernel_rfl
      · right; exact ⟨52, 125, by kernel_rfl, fun _ _ h => h⟩
      intro T y W4 K Q Cv hF hC4 hd hV hK
      clear hd
      have t9 := hF.old 9 (.int .i64 829850) (by kernel_rfl) (by kernel_rfl)
      clear hF
      go_simp
      exact hK _ _ (hV _ _ hC4 (Below.refl _ _) rfl)
    · refine one_fr ?_ ?_ ?_
      · kernel_rfl
      · right; exact ⟨52, 125, by kernel_rfl, fun _ _ h => h⟩
      intro T y W4 K Q Cv hF hC4 hd hV hK
      simp [deps, VL, IsV, Region.binds] at hd
      have t126 := hF.get 53 126 (by kernel_rfl)
      simp only [hd] at t126
      clear hF
      go_simp
      exact hK _ _ (hV _ _ hC4 (Below.refl _ _) rfl)
    · refine one_fr ?_ ?_ ?_
      · kernel_rfl
      · left; kernel_rfl
      intro T y W4 K Q Cv hF hC4 hd hV hK
      simp [deps, VL, IsV, Region.binds] at hd
      have t125 := hF.get 52 125 (by kernel_rfl)
      simp only [hd] at t125
      have t127 := hF.get 54 127 (by kernel_rfl)
      simp only [hd] at t127
      clear hF
      go_simp
      exact hK _ _ (hV _ _ hC4 (Below.refl _ _) rfl)
    · refine one_fr ?_ ?_ ?_
      · kernel_rfl
      · left; kernel_rfl
      intro T y W4 K Q Cv hF hC4 hd hV hK
      simp [deps, VL, IsV, Region.binds] at hd
      have t128 := hF.get 55 128 (by kernel_rfl)
      simp only [hd] at t128
      clear hF
      go_simp
      exact hK _ _ (hV _ _ hC4 (Below.refl _ _) rfl)
    · refine one_fr ?_ ?_ ?_
      · kernel_rfl
      · right; exact ⟨56, 129, by kernel_rfl, fun _ _ h => h⟩
      intro T y W4 K Q Cv hF hC4 hd hV hK
      clear hd
      have t11 := hF.old 11 (.bool true) (by kernel_rfl) (by kernel_rfl)
      clear hF
      go_simp
      exact hK _ _ (hV _ _ hC4 (Below.refl _ _) rfl)
    · refine one_fr ?_ ?_ ?_
      · kernel_rfl
      · left; kernel_rfl
      intro T y W4 K Q Cv hF hC4 hd hV hK
      simp [deps, VL, IsV, Region.binds] at hd
      have t129 := hF.get 56 129 (by kernel_rfl)
      simp only [hd] at t129
      have t130 := hF.get 57 130 (by kernel_rfl)
      simp only [hd] at t130
      clear hF
      go_simp
      exact hK _ _ (hV _ _ hC4 (Below.refl _ _) rfl)
    · refine one_fr ?_ ?_ ?_
      · kernel_rfl
      · left; kernel_rfl
      intro T y W4 K Q Cv hF hC4 hd hV hK
      simp [deps, VL, IsV, Region.binds] at hd
      have t131 := hF.get 58 131 (by kernel_rfl)
      simp only [hd] at t131
      clear hF
      go_simp
      exact hK _ _ (hV _ _ hC4 (Below.refl _ _) rfl)
    · refine one_fr ?_ ?_ ?_
      · kernel_rfl
      · right; exact ⟨59, 132, by kernel_rfl, fun _ _ h => h⟩
      intro T y W4 K Q Cv hF hC4 hd hV hK
      clear hd
      have t12 := hF.old 12 (.int .i64 829850) (by kernel_rfl) (by kernel_rfl)
      clear hF
      go_simp
      exact hK _ _ (hV _ _ hC4 (Below.refl _ _) rfl)
    · refine one_fr ?_ ?_ ?_
      · kernel_rfl
      · right; exact ⟨59, 132, by kernel_rfl, fun _ _ h => h⟩
      intro T y W4 K Q Cv hF hC4 hd hV hK
      simp [deps, VL, IsV, Region.binds] at hd
      have t133 := hF.get 60 133 (by kernel_rfl)
      simp only [hd] at t133
      clear hF
      go_simp
      exact hK _ _ (hV _ _ hC4 (Below.refl _ _) rfl)
    · refine one_fr ?_ ?_ ?_
      · kernel_rfl
      · left; kernel_rfl
      intro T y W4 K Q Cv hF hC4 hd hV hK
      simp [deps, VL, IsV, Region.binds] at hd
      have t132 := hF.get 59 132 (by kernel_rfl)
      simp only [hd] at t132
      have t134 := hF.get 61 134 (by kernel_rfl)
      simp only [hd] at t134
      clear hF
      go_simp
      exact hK _ _ (hV _ _ hC4 (Below.refl _ _) rfl)
    · refine one_fr ?_ ?_ ?_
      · kernel_rfl
      · left; kernel_rfl
      intro T y W4 K Q Cv hF hC4 hd hV hK
      simp [deps, VL, IsV, Region.binds] at hd
      have t135 := hF.get 62 135 (by kernel_rfl)
      simp only [hd] at t135
      clear hF
      go_simp
      exact hK _ _ (hV _ _ hC4 (Below.refl _ _) rfl)
    · refine one_fr ?_ ?_ ?_
      · kernel_rfl
      · right; exact ⟨63, 136, by kernel_rfl, fun _ _ h => h⟩
      intro T y W4 K Q Cv hF hC4 hd hV hK
      clear hd
      have t13 := hF.old 13 (.int .i64 884500) (by kernel_rfl) (by kernel_rfl)
      clear hF
      go_simp
      exact hK _ _ (hV _ _ hC4 (Below.refl _ _) rfl)
    · refine one_fr ?_ ?_ ?_
      · kernel_rfl
      · right; exact ⟨63, 136, by kernel_rfl, fun _ _ h => h⟩
      intro T y W4 K Q Cv hF hC4 hd hV hK
      simp [deps, VL, IsV, Region.binds] at hd
      have t137 := hF.get 64 137 (by kernel_rfl)
      simp only [hd] at t137
      clear hF
      go_simp
      exact hK _ _ (hV _ _ hC4 (Below.refl _ _) rfl)
    · refine one_fr ?_ ?_ ?_
      · kernel_rfl
      · left; kernel_rfl
      intro T y W4 K Q Cv hF hC4 hd hV hK
      simp [deps, VL, IsV, Region.binds] at hd
      have t136 := hF.get 63 136 (by kernel_rfl)
      simp only [hd] at t136
      have t138 := hF.get 65 138 (by kernel_rfl)
      simp only [hd] at t138
      clear hF
      go_simp
      exact hK _ _ (hV _ _ hC4 (Below.refl _ _) rfl)
    · refine one_fr ?_ ?_ ?_
      · kernel_rfl
      · left; kernel_rfl
      intro T y W4 K Q Cv hF hC4 hd hV hK
      simp [deps, VL, IsV, Region.binds] at hd
      have t139 := hF.get 66 139 (by kernel_rfl)
      simp only [hd] at t139
      clear hF
      go_simp
      exact hK _ _ (hV _ _ hC4 (Below.refl _ _) rfl)
    · refine one_fr ?_ ?_ ?_
      · kernel_rfl
      · right; exact ⟨67, 140, by kernel_rfl, fun _ _ h => h⟩
      intro T y W4 K Q Cv hF hC4 hd hV hK
      clear hd
      have t15 := hF.old 15 (p) (by kernel_rfl) (by kernel_rfl)
      clear hF
      go_simp
      exact hK _ _ (hV _ _ hC4 (Below.refl _ _) rfl)
    · refine one_fr ?_ ?_ ?_
      · kernel_rfl
      · right; exact ⟨67, 140, by kernel_rfl, fun _ _ h => h⟩
      intro T y W4 K Q Cv hF hC4 hd hV hK
      clear hd
      clear hF
      go_simp
      refine hK _ _ (hV _ _ (hC4.alloc hC4.size _) ((Below.refl _ _).alloc (Nat.le_refl _) _) (isInts_blk (c := 2) [5, 0] (blkNew rfl) ?_ (by decide)))
      rfl
    · refine one_fr ?_ ?_ ?_
      · kernel_rfl
      · right; exact ⟨67, 140, by kernel_rfl, fun _ _ h => h⟩
      intro T y W4 K Q Cv hF hC4 hd hV hK
      simp [deps, VL, IsV, Region.binds] at hd
      have t141 := hF.get 68 141 (by kernel_rfl)
      simp only [hd] at t141
      have t142 := hF.get 69 142 (by kernel_rfl)
      clear hF
      have hs := (Ints_k _ _ W4 [5, 0] [5, 0] (IsInts.stb _ _ _ _ hC4 hp.out) (by first | exact hd.2.1 | exact hd.2) (by unfold maxLen; decide) (by unfold maxLen; decide))
      simp only [decide_true] at hs
      go_simp
      refine hs.mono ?_
      rintro e w7 ⟨rfl, hb7⟩
      exact hK _ _ (hV _ _ (hC4.trans (hb7.mono hC4.size)) hb7 rfl)
    · refine one_fr ?_ ?_ ?_
      · kernel_rfl
      · left; kernel_rfl
      intro T y W4 K Q Cv hF hC4 hd hV hK
      simp [deps, VL, IsV, Region.binds] at hd
      have t140 := hF.get 67 140 (by kernel_rfl)
      simp only [hd] at t140
      have t143 := hF.get 70 143 (by kernel_rfl)
      simp only [hd] at t143
      clear hF
      go_simp
      exact hK _ _ (hV _ _ hC4 (Below.refl _ _) rfl)
    · refine one_fr ?_ ?_ ?_
      · kernel_rfl
      · left; kernel_rfl
      intro T y W4 K Q Cv hF hC4 hd hV hK
      simp [deps, VL, IsV, Region.binds] at hd
      have t144 := hF.get 71 144 (by kernel_rfl)
      simp only [hd] at t144
      clear hF
      go_simp
      exact hK _ _ (hV _ _ hC4 (Below.refl _ _) rfl)
  intro y W4 hC4 hd
  have hd0 : y 72 = .bool true := hd.2.2.2.2.2.2.2.2.2.2.2.2.2.2.2.2.2.2.2.2.2.2.2.2.2.2.2.2.2.2.2.2.2.2.2.2.2.2.2.2.2.2.2.2.2.2.2.2.2.2.2.2.2.2.2.2.2.2.2.2.2.2.2.2.2.2.2.2.2.2.2.2.1
  have hBe := hide (hB.out.trans (hC4.mono hB.out.size))
  clear hd hC4 q1 q2 q3
  refine end_fr (Q := Exit.then _ _ Exit.normal) ?_ ?_
  · kernel_rfl
  intro tm hget
  have t0 := hget 72 0 (by kernel_rfl)
  simp only [hd0] at t0
  clear hget
  dsimp only
  go_wp2
  rw [Array.getD_eq_getD_getElem?] at t0
  refine bodyPost_ret (v := .bool true) (by simp [results, Try.results24, go_sem, t0]) rfl ⟨rfl, hBe.out⟩
end Go.Proofs.Ytkhijdbigpaagaa
