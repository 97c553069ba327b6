/-
  The law SkillKnown: the examples of the document.
-/
import Derived.Test.YtkhijdbigpaagaaNl
namespace Go.Proofs.Ytkhijdbigpaagaa
open Go.RowKit RG

def L1 : List Sp := [(500, 520), (390, 500)]
theorem marks_1 : marksF S0 0 500 = ((480, 500), 0) := by decide +kernel
theorem behind_1 : behindF S0 1 1000 = ((970, 1000), 0) := by decide +kernel
theorem behind_2 : behindF S0 0 1000 = ((1000, 1000), 0) := by decide +kernel
theorem after_2 : afterF S0 St0 (Ev0 500) 2 = (some L1, 0) := by decide +kernel
theorem sev_1 : sevF S0 St0 (Ev0 500) 0 = (-20, 0, 0) := by decide +kernel
theorem chance_1 : chanceF S0 Ts0 0 [490, 385] = (345150, 0) := by decide +kernel
theorem ready_1 : readyF S0 Ts0 0 L0 800 = (false, 345150, 430500, 0) := by decide +kernel

set_option maxRecDepth 100000 in
set_option maxHeartbeats 16000000 in
theorem Known_any (w : World) : Calls Try.prog 7 #[] w fun e w' => e = .returned (.bool true) ∧ Below w.heap.size w w' := by
  go_enter Try.func7, Try.ntmps7
  go_wp2_with fail
  refine (School_w _).mono ?_
  rintro e w1 ⟨⟨v1, rfl, h1⟩, hb⟩
  have hB := hide hb
  replace h1 := hide h1
  clear hb
  go_wp2_with fail
  refine (Marks_any v1 S0 0 500 _ h1.out).mono ?_
  rintro e w2 ⟨rfl, hb⟩
  clear h1
  replace hB := hide (hB.out.trans (hb.mono hB.out.size))
  clear hb
  rw [marks_1]
  have hb := (Below.refl w2.heap.size w2).alloc (Nat.le_refl _) (.cells #[.int .i64 480, .int .i64 500] 32)
  have ka := hide ((blkNew (w := w2) (t := 32) (cs := #[.int .i64 480, .int .i64 500]) rfl))
  replace hB := hide (hB.out.alloc hB.out.size (.cells #[.int .i64 480, .int .i64 500] 32))
  clear hb
  go_wp2_with fail
  refine (School_w _).mono ?_
  rintro e w3 ⟨⟨v2, rfl, h2⟩, hb⟩
  replace ka := hide (ka.out.below hb ka.out.lt)
  replace hB := hide (hB.out.trans (hb.mono hB.out.size))
  replace h2 := hide h2
  clear hb
  go_wp2_with fail
  refine (Behind_any v2 S0 1 1000 _ h2.out).mono ?_
  rintro e w4 ⟨rfl, hb⟩
  clear h2
  replace ka := hide (ka.out.below hb ka.out.lt)
  replace hB := hide (hB.out.trans (hb.mono hB.out.size))
  clear hb
  rw [behind_1]
  have hb := (Below.refl w4.heap.size w4).alloc (Nat.le_refl _) (.cells #[.int .i64 970, .int .i64 1000] 32)
  replace ka := hide (ka.out.below hb ka.out.lt)
  have kb := hide ((blkNew (w := w4) (t := 32) (cs := #[.int .i64 970, .int .i64 1000]) rfl))
  replace hB := hide (hB.out.alloc hB.out.size (.cells #[.int .i64 970, .int .i64 1000] 32))
  clear hb
  go_wp2_with fail
  refine (School_w _).mono ?_
  rintro e w5 ⟨⟨v3, rfl, h3⟩, hb⟩
  replace ka := hide (ka.out.below hb ka.out.lt)
  replace kb := hide (kb.out.below hb kb.out.lt)
  replace hB := hide (hB.out.trans (hb.mono hB.out.size))
  replace h3 := hide h3
  clear hb
  go_wp2_with fail
  refine (Behind_any v3 S0 0 1000 _ h3.out).mono ?_
  rintro e w6 ⟨rfl, hb⟩
  clear h3
  replace ka := hide (ka.out.below hb ka.out.lt)
  replace kb := hide (kb.out.below hb kb.out.lt)
  replace hB := hide (hB.out.trans (hb.mono hB.out.size))
  clear hb
  rw [behind_2]
  have hb := (Below.refl w6.heap.size w6).alloc (Nat.le_refl _) (.cells #[.int .i64 1000, .int .i64 1000] 32)
  replace ka := hide (ka.out.below hb ka.out.lt)
  replace kb := hide (kb.out.below hb kb.out.lt)
  have kd := hide ((blkNew (w := w6) (t := 32) (cs := #[.int .i64 1000, .int .i64 1000]) rfl))
  replace hB := hide (hB.out.alloc hB.out.size (.cells #[.int .i64 1000, .int .i64 1000] 32))
  clear hb
  go_wp2_with fail
  refine (School_w _).mono ?_
  rintro e w7 ⟨⟨v4, rfl, h4⟩, hb⟩
  replace ka := hide (ka.out.below hb ka.out.lt)
  replace kb := hide (kb.out.below hb kb.out.lt)
  replace kd := hide (kd.out.below hb kd.out.lt)
  replace hB := hide (hB.out.trans (hb.mono hB.out.size))
  replace h4 := hide h4
  clear hb
  go_wp2_with fail
  refine (Start_w _).mono ?_
  rintro e w8 ⟨⟨r4, rfl, s4⟩, hb⟩
  replace ka := hide (ka.out.below hb ka.out.lt)
  replace kb := hide (kb.out.below hb kb.out.lt)
  replace kd := hide (kd.out.below hb kd.out.lt)
  replace h4 := hide (h4.out.below hb)
  replace hB := hide (hB.out.trans (hb.mono hB.out.size))
  replace s4 := hide s4
  clear hb
  go_wp2_with fail
  refine (Events_w 500 _).mono ?_
  rintro e w9 ⟨⟨u4, rfl, e4⟩, hb⟩
  replace ka := hide (ka.out.below hb ka.out.lt)
  replace kb := hide (kb.out.below hb kb.out.lt)
  replace kd := hide (kd.out.below hb kd.out.lt)
  replace h4 := hide (h4.out.below hb)
  replace s4 := hide (IsSpans.stb _ _ _ _ hb s4.out)
  replace hB := hide (hB.out.trans (hb.mono hB.out.size))
  replace e4 := hide e4
  clear hb
  go_wp2_with fail
  refine (After_k v4 r4 u4 S0 St0 (Ev0 500) 2 _ h4.out s4.out e4.out (by unfold maxLen; decide) (by show 2 ≤ maxLen; unfold maxLen; decide)).mono ?_
  rintro e w10 ⟨hR, hb⟩
  clear h4
  clear s4
  clear e4
  replace ka := hide (ka.out.below hb ka.out.lt)
  replace kb := hide (kb.out.below hb kb.out.lt)
  replace kd := hide (kd.out.below hb kd.out.lt)
  replace hB := hide (hB.out.trans (hb.mono hB.out.size))
  clear hb
  rw [after_2] at hR
  obtain ⟨l, rfl, hl⟩ := hR
  replace hl : Hid (IsSpans L1 l w10) := hide hl
  go_wp2_with fail
  refine (School_w _).mono ?_
  rintro e w11 ⟨⟨v5, rfl, h5⟩, hb⟩
  replace ka := hide (ka.out.below hb ka.out.lt)
  replace kb := hide (kb.out.below hb kb.out.lt)
  replace kd := hide (kd.out.below hb kd.out.lt)
  replace hl := hide (IsSpans.stb _ _ _ _ hb hl.out)
  replace hB := hide (hB.out.trans (hb.mono hB.out.size))
  replace h5 := hide h5
  clear hb
  go_wp2_with fail
  refine (Start_w _).mono ?_
  rintro e w12 ⟨⟨r5, rfl, s5⟩, hb⟩
  replace ka := hide (ka.out.below hb ka.out.lt)
  replace kb := hide (kb.out.below hb kb.out.lt)
  replace kd := hide (kd.out.below hb kd.out.lt)
  replace hl := hide (IsSpans.stb _ _ _ _ hb hl.out)
  replace h5 := hide (h5.out.below hb)
  replace hB := hide (hB.out.trans (hb.mono hB.out.size))
  replace s5 := hide s5
  clear hb
  go_wp2_with fail
  refine (Events_w 500 _).mono ?_
  rintro e w13 ⟨⟨u5, rfl, e5⟩, hb⟩
  replace ka := hide (ka.out.below hb ka.out.lt)
  replace kb := hide (kb.out.below hb kb.out.lt)
  replace kd := hide (kd.out.below hb kd.out.lt)
  replace hl := hide (IsSpans.stb _ _ _ _ hb hl.out)
  replace h5 := hide (h5.out.below hb)
  replace s5 := hide (IsSpans.stb _ _ _ _ hb s5.out)
  replace hB := hide (hB.out.trans (hb.mono hB.out.size))
  replace e5 := hide e5
  clear hb
  go_wp2_with fail
  refine (Severity_k v5 r5 u5 S0 St0 (Ev0 500) 0 _ h5.out s5.out e5.out (by unfold maxLen; decide) (by show 2 ≤ maxLen; unfold maxLen; decide)).mono ?_
  rintro e w14 ⟨hR, hb⟩
  clear h5
  clear s5
  clear e5
  replace ka := hide (ka.out.below hb ka.out.lt)
  replace kb := hide (kb.out.below hb kb.out.lt)
  replace kd := hide (kd.out.below hb kd.out.lt)
  replace hl := hide (IsSpans.stb _ _ _ _ hb hl.out)
  replace hB := hide (hB.out.trans (hb.mono hB.out.size))
  clear hb
  rw [sev_1] at hR
  obtain rfl := hR
  have hb := (Below.refl w14.heap.size w14).alloc (Nat.le_refl _) (.cells #[.int .i64 (-20), .int .i64 0] 32)
  replace ka := hide (ka.out.below hb ka.out.lt)
  replace kb := hide (kb.out.below hb kb.out.lt)
  replace kd := hide (kd.out.below hb kd.out.lt)
  replace hl := hide (IsSpans.stb _ _ _ _ hb hl.out)
  have kc := hide ((blkNew (w := w14) (t := 32) (cs := #[.int .i64 (-20), .int .i64 0]) rfl))
  replace hB := hide (hB.out.alloc hB.out.size (.cells #[.int .i64 (-20), .int .i64 0] 32))
  clear hb
  go_wp2_with fail
  refine (School_w _).mono ?_
  rintro e w15 ⟨⟨v6, rfl, h6⟩, hb⟩
  replace ka := hide (ka.out.below hb ka.out.lt)
  replace kb := hide (kb.out.below hb kb.out.lt)
  replace kd := hide (kd.out.below hb kd.out.lt)
  replace hl := hide (IsSpans.stb _ _ _ _ hb hl.out)
  replace kc := hide (kc.out.below hb kc.out.lt)
  replace hB := hide (hB.out.trans (hb.mono hB.out.size))
  replace h6 := hide h6
  clear hb
  go_wp2_with fail
  refine (Test_w 0 _).mono ?_
  rintro e w16 ⟨⟨t6, rfl, k6⟩, hb⟩
  replace ka := hide (ka.out.below hb ka.out.lt)
  replace kb := hide (kb.out.below hb kb.out.lt)
  replace kd := hide (kd.out.below hb kd.out.lt)
  replace hl := hide (IsSpans.stb _ _ _ _ hb hl.out)
  replace kc := hide (kc.out.below hb kc.out.lt)
  replace h6 := hide (h6.out.below hb)
  replace hB := hide (hB.out.trans (hb.mono hB.out.size))
  replace k6 := hide k6
  clear hb
  have hb := (Below.refl w16.heap.size w16).alloc (Nat.le_refl _) (.cells #[.int .i64 490, .int .i64 385] 3)
  replace ka := hide (ka.out.below hb ka.out.lt)
  replace kb := hide (kb.out.below hb kb.out.lt)
  replace kd := hide (kd.out.below hb kd.out.lt)
  replace hl := hide (IsSpans.stb _ _ _ _ hb hl.out)
  replace kc := hide (kc.out.below hb kc.out.lt)
  replace h6 := hide (h6.out.below hb)
  replace k6 := hide (IsTst.stb _ _ _ _ _ hb k6.out)
  have i5 := hide (isInts_blk (c := 2) [490, 385] (blkNew (w := w16) (t := 3) (cs := #[.int .i64 490, .int .i64 385]) rfl) rfl (by decide))
  replace hB := hide (hB.out.alloc hB.out.size (.cells #[.int .i64 490, .int .i64 385] 3))
  clear hb
  go_wp2_with fail
  refine (Chance_k v6 t6 _ S0 Ts0 0 [490, 385] _ h6.out k6.out i5.out (by unfold maxLen; decide) (by unfold maxLen; decide)).mono ?_
  rintro e w17 ⟨rfl, hb⟩
  clear h6
  clear k6
  clear i5
  replace ka := hide (ka.out.below hb ka.out.lt)
  replace kb := hide (kb.out.below hb kb.out.lt)
  replace kd := hide (kd.out.below hb kd.out.lt)
  replace hl := hide (IsSpans.stb _ _ _ _ hb hl.out)
  replace kc := hide (kc.out.below hb kc.out.lt)
  replace hB := hide (hB.out.trans (hb.mono hB.out.size))
  clear hb
  rw [chance_1]
  go_wp2_with fail
  refine (School_w _).mono ?_
  rintro e w18 ⟨⟨v7, rfl, h7⟩, hb⟩
  replace ka := hide (ka.out.below hb ka.out.lt)
  replace kb := hide (kb.out.below hb kb.out.lt)
  replace kd := hide (kd.out.below hb kd.out.lt)
  replace hl := hide (IsSpans.stb _ _ _ _ hb hl.out)
  replace kc := hide (kc.out.below hb kc.out.lt)
  replace hB := hide (hB.out.trans (hb.mono hB.out.size))
  replace h7 := hide h7
  clear hb
  go_wp2_with fail
  refine (Test_w 0 _).mono ?_
  rintro e w19 ⟨⟨t7, rfl, k7⟩, hb⟩
  replace ka := hide (ka.out.below hb ka.out.lt)
  replace kb := hide (kb.out.below hb kb.out.lt)
  replace kd := hide (kd.out.below hb kd.out.lt)
  replace hl := hide (IsSpans.stb _ _ _ _ hb hl.out)
  replace kc := hide (kc.out.below hb kc.out.lt)
  replace h7 := hide (h7.out.below hb)
  replace hB := hide (hB.out.trans (hb.mono hB.out.size))
  replace k7 := hide k7
  clear hb
  go_wp2_with fail
  refine (span_w 490 515 _).mono ?_
  rintro e w20 ⟨rfl, hb⟩
  replace ka := hide (ka.out.below hb ka.out.lt)
  replace kb := hide (kb.out.below hb kb.out.lt)
  replace kd := hide (kd.out.below hb kd.out.lt)
  replace hl := hide (IsSpans.stb _ _ _ _ hb hl.out)
  replace kc := hide (kc.out.below hb kc.out.lt)
  replace h7 := hide (h7.out.below hb)
  replace k7 := hide (IsTst.stb _ _ _ _ _ hb k7.out)
  replace hB := hide (hB.out.trans (hb.mono hB.out.size))
  clear hb
  go_wp2_with fail
  refine (span_w 385 500 _).mono ?_
  rintro e w21 ⟨rfl, hb⟩
  replace ka := hide (ka.out.below hb ka.out.lt)
  replace kb := hide (kb.out.below hb kb.out.lt)
  replace kd := hide (kd.out.below hb kd.out.lt)
  replace hl := hide (IsSpans.stb _ _ _ _ hb hl.out)
  replace kc := hide (kc.out.below hb kc.out.lt)
  replace h7 := hide (h7.out.below hb)
  replace k7 := hide (IsTst.stb _ _ _ _ _ hb k7.out)
  replace hB := hide (hB.out.trans (hb.mono hB.out.size))
  clear hb
  have hb := (Below.refl w21.heap.size w21).alloc (Nat.le_refl _) (.cells #[.int .i64 490, .int .i64 515, .int .i64 385, .int .i64 500] 32)
  replace ka := hide (ka.out.below hb ka.out.lt)
  replace kb := hide (kb.out.below hb kb.out.lt)
  replace kd := hide (kd.out.below hb kd.out.lt)
  replace hl := hide (IsSpans.stb _ _ _ _ hb hl.out)
  replace kc := hide (kc.out.below hb kc.out.lt)
  replace h7 := hide (h7.out.below hb)
  replace k7 := hide (IsTst.stb _ _ _ _ _ hb k7.out)
  have j5 := hide (isSpans_blk (c := 2) L0 (blkNew (w := w21) (t := 32) (cs := #[.int .i64 490, .int .i64 515, .int .i64 385, .int .i64 500]) rfl) rfl (by decide))
  replace hB := hide (hB.out.alloc hB.out.size (.cells #[.int .i64 490, .int .i64 515, .int .i64 385, .int .i64 500] 32))
  clear hb
  go_wp2_with fail
  refine (Ready_k v7 t7 _ S0 Ts0 0 L0 800 _ h7.out k7.out j5.out (by unfold maxLen; decide) (by unfold maxLen; decide)).mono ?_
  rintro e w22 ⟨rfl, hb⟩
  clear h7
  clear k7
  clear j5
  replace ka := hide (ka.out.below hb ka.out.lt)
  replace kb := hide (kb.out.below hb kb.out.lt)
  replace kd := hide (kd.out.below hb kd.out.lt)
  replace hl := hide (IsSpans.stb _ _ _ _ hb hl.out)
  replace kc := hide (kc.out.below hb kc.out.lt)
  replace hB := hide (hB.out.trans (hb.mono hB.out.size))
  clear hb
  rw [ready_1]
  go_wp2
  have q1 := fun W => eqSpan 480 500 480 500 W
  have q2 := fun W => eqSpan 970 1000 970 1000 W
  have q3 := fun W => eqSpan (-20) 0 (-20) 0 W
  have q4 := fun W => eqSpan 1000 1000 1000 1000 W
  refine region_grow [IsV (.int .i64 0), IsV (.bool true), IsV (.bool true), IsV (.int .i64 0), IsV (.bool true), IsV (.bool true), IsV (.bool true), IsV (.int .i64 0), IsV (.bool true), IsV (.bool true), IsV (.bool true), IsV (.int .i64 0), IsV (.bool true), IsV (.bool true), IsV (.bool true), IsV (.int .i64 0), IsV (.bool true), IsV (.bool true), IsV (.bool true), IsV (.int .i64 0), IsV (.bool true), IsV (.bool true), IsV (.bool true), IsV (.int .i64 0), IsV (.bool true), IsV (.bool true), IsV (.bool true), IsV (.agg #[.int .i64 480, .int .i64 500]), IsV (.agg #[.int .i64 480, .int .i64 500]), IsV (.bool true), IsV (.bool true), IsV (.bool true), IsV (.agg #[.int .i64 970, .int .i64 1000]), IsV (.agg #[.int .i64 970, .int .i64 1000]), IsV (.bool true), IsV (.bool true), IsV (.bool true), IsV (.agg #[.int .i64 1000, .int .i64 1000]), IsV (.agg #[.int .i64 1000, .int .i64 1000]), IsV (.bool true), IsV (.bool true), IsV (.bool true), IsV (l), IsV (.agg #[.int .i64 500, .int .i64 520]), IsV (.agg #[.int .i64 390, .int .i64 500]), IsSpans L1, IsV (.bool true), IsV (.bool true), IsV (.bool true), IsV (.agg #[.int .i64 (-20), .int .i64 0]), IsV (.agg #[.int .i64 (-20), .int .i64 0]), IsV (.bool true), IsV (.bool true), IsV (.bool true), IsV (.int .i64 345150), IsV (.bool true), IsV (.bool true), IsV (.bool true), IsV (.bool false), IsV (.bool true), IsV (.bool true), IsV (.bool true), IsV (.int .i64 345150), IsV (.bool true), IsV (.bool true), IsV (.bool true), IsV (.int .i64 430500), IsV (.bool true), IsV (.bool true), IsV (.bool true), IsV (.bool true), IsV (.bool true), IsV (.bool true)] (by kernel_rfl) (by kernel_rfl) rfl ?_ ?_ ?_
  · exact ⟨IsV.stb _, IsV.stb _, IsV.stb _, IsV.stb _, IsV.stb _, IsV.stb _, IsV.stb _, IsV.stb _, IsV.stb _, IsV.stb _, IsV.stb _, IsV.stb _, IsV.stb _, IsV.stb _, IsV.stb _, IsV.stb _, IsV.stb _, IsV.stb _, IsV.stb _, IsV.stb _, IsV.stb _, IsV.stb _, IsV.stb _, IsV.stb _, IsV.stb _, IsV.stb _, IsV.stb _, IsV.stb _, IsV.stb _, IsV.stb _, IsV.stb _, IsV.stb _, IsV.stb _, IsV.stb _, IsV.stb _, IsV.stb _, IsV.stb _, IsV.stb _, IsV.stb _, IsV.stb _, IsV.stb _, IsV.stb _, IsV.stb _, IsV.stb _, IsV.stb _, IsSpans.stb _, IsV.stb _, IsV.stb _, IsV.stb _, IsV.stb _, IsV.stb _, IsV.stb _, IsV.stb _, IsV.stb _, IsV.stb _, IsV.stb _, IsV.stb _, IsV.stb _, IsV.stb _, IsV.stb _, IsV.stb _, IsV.stb _, IsV.stb _, IsV.stb _, IsV.stb _, IsV.stb _, IsV.stb _, IsV.stb _, IsV.stb _, IsV.stb _, IsV.stb _, IsV.stb _, IsV.stb _, trivial⟩
  · refine ⟨?_, ?_, ?_, ?_, ?_, ?_, ?_, ?_, ?_, ?_, ?_, ?_, ?_, ?_, ?_, ?_, ?_, ?_, ?_, ?_, ?_, ?_, ?_, ?_, ?_, ?_, ?_, ?_, ?_, ?_, ?_, ?_, ?_, ?_, ?_, ?_, ?_, ?_, ?_, ?_, ?_, ?_, ?_, ?_, ?_, ?_, ?_, ?_, ?_, ?_, ?_, ?_, ?_, ?_, ?_, ?_, ?_, ?_, ?_, ?_, ?_, ?_, ?_, ?_, ?_, ?_, ?_, ?_, ?_, ?_, ?_, ?_, ?_, trivial⟩
    · refine one_fr ?_ ?_ ?_
      · kernel_rfl
      · left; kernel_rfl
      intro T y W4 K Q Cv hF hC4 hd hV hK
      clear hd
      have t2 := hF.old 2 (.int .i64 0) (by kernel_rfl) (by kernel_rfl)
      clear hF
      go_simp
      exact hK _ _ (hV _ _ hC4 (Below.refl _ _) rfl)
    · refine one_fr ?_ ?_ ?_
      · kernel_rfl
      · left; kernel_rfl
      intro T y W4 K Q Cv hF hC4 hd hV hK
      simp [deps, VL, IsV, Region.binds] at hd
      have t64 := hF.get 0 64 (by kernel_rfl)
      simp only [hd] at t64
      clear hF
      go_simp
      exact hK _ _ (hV _ _ hC4 (Below.refl _ _) rfl)
    · refine one_fr ?_ ?_ ?_
      · kernel_rfl
      · left; kernel_rfl
      intro T y W4 K Q Cv hF hC4 hd hV hK
      simp [deps, VL, IsV, Region.binds] at hd
      have t65 := hF.get 1 65 (by kernel_rfl)
      simp only [hd] at t65
      clear hF
      go_simp
      exact hK _ _ (hV _ _ hC4 (Below.refl _ _) rfl)
    · refine one_fr ?_ ?_ ?_
      · kernel_rfl
      · right; exact ⟨2, 66, by kernel_rfl, fun _ _ h => h⟩
      intro T y W4 K Q Cv hF hC4 hd hV hK
      clear hd
      have t4 := hF.old 4 (.int .i64 0) (by kernel_rfl) (by kernel_rfl)
      clear hF
      go_simp
      exact hK _ _ (hV _ _ hC4 (Below.refl _ _) rfl)
    · refine one_fr ?_ ?_ ?_
      · kernel_rfl
      · right; exact ⟨2, 66, by kernel_rfl, fun _ _ h => h⟩
      intro T y W4 K Q Cv hF hC4 hd hV hK
      simp [deps, VL, IsV, Region.binds] at hd
      have t67 := hF.get 3 67 (by kernel_rfl)
      simp only [hd] at t67
      clear hF
      go_simp
      exact hK _ _ (hV _ _ hC4 (Below.refl _ _) rfl)
    · refine one_fr ?_ ?_ ?_
      · kernel_rfl
      · left; kernel_rfl
      intro T y W4 K Q Cv hF hC4 hd hV hK
      simp [deps, VL, IsV, Region.binds] at hd
      have t66 := hF.get 2 66 (by kernel_rfl)
      simp only [hd] at t66
      have t68 := hF.get 4 68 (by kernel_rfl)
      simp only [hd] at t68
      clear hF
      go_simp
      exact hK _ _ (hV _ _ hC4 (Below.refl _ _) rfl)
    · refine one_fr ?_ ?_ ?_
      · kernel_rfl
      · left; kernel_rfl
      intro T y W4 K Q Cv hF hC4 hd hV hK
      simp [deps, VL, IsV, Region.binds] at hd
      have t69 := hF.get 5 69 (by kernel_rfl)
      simp only [hd] at t69
      clear hF
      go_simp
      exact hK _ _ (hV _ _ hC4 (Below.refl _ _) rfl)
    · refine one_fr ?_ ?_ ?_
      · kernel_rfl
      · right; exact ⟨6, 70, by kernel_rfl, fun _ _ h => h⟩
      intro T y W4 K Q Cv hF hC4 hd hV hK
      clear hd
      have t6 := hF.old 6 (.int .i64 0) (by kernel_rfl) (by kernel_rfl)
      clear hF
      go_simp
      exact hK _ _ (hV _ _ hC4 (Below.refl _ _) rfl)
    · refine one_fr ?_ ?_ ?_
      · kernel_rfl
      · right; exact ⟨6, 70, by kernel_rfl, fun _ _ h => h⟩
      intro T y W4 K Q Cv hF hC4 hd hV hK
      simp [deps, VL, IsV, Region.binds] at hd
      have t71 := hF.get 7 71 (by kernel_rfl)
      simp only [hd] at t71
      clear hF
      go_simp
      exact hK _ _ (hV _ _ hC4 (Below.refl _ _) rfl)
    · refine one_fr ?_ ?_ ?_
      · kernel_rfl
      · left; kernel_rfl
      intro T y W4 K Q Cv hF hC4 hd hV hK
      simp [deps, VL, IsV, Region.binds] at hd
      have t70 := hF.get 6 70 (by kernel_rfl)
      simp only [hd] at t70
      have t72 := hF.get 8 72 (by kernel_rfl)
      simp only [hd] at t72
      clear hF
      go_simp
      exact hK _ _ (hV _ _ hC4 (Below.refl _ _) rfl)
    · refine one_fr ?_ ?_ ?_
      · kernel_rfl
      · left; kernel_rfl
      intro T y W4 K Q Cv hF hC4 hd hV hK
      simp [deps, VL, IsV, Region.binds] at hd
      have t73 := hF.get 9 73 (by kernel_rfl)
      simp only [hd] at t73
      clear hF
      go_simp
      exact hK _ _ (hV _ _ hC4 (Below.refl _ _) rfl)
    · refine one_fr ?_ ?_ ?_
      · kernel_rfl
      · right; exact ⟨10, 74, by kernel_rfl, fun _ _ h => h⟩
      intro T y W4 K Q Cv hF hC4 hd hV hK
      clear hd
      have t8 := hF.old 8 (.int .i64 0) (by kernel_rfl) (by kernel_rfl)
      clear hF
      go_simp
      exact hK _ _ (hV _ _ hC4 (Below.refl _ _) rfl)
    · refine one_fr ?_ ?_ ?_
      · kernel_rfl
      · right; exact ⟨10, 74, by kernel_rfl, fun _ _ h => h⟩
      intro T y W4 K Q Cv hF hC4 hd hV hK
      simp [deps, VL, IsV, Region.binds] at hd
      have t75 := hF.get 11 75 (by kernel_rfl)
      simp only [hd] at t75
      clear hF
      go_simp
      exact hK _ _ (hV _ _ hC4 (Below.refl _ _) rfl)
    · refine one_fr ?_ ?_ ?_
      · kernel_rfl
      · left; kernel_rfl
      intro T y W4 K Q Cv hF hC4 hd hV hK
      simp [deps, VL, IsV, Region.binds] at hd
      have t74 := hF.get 10 74 (by kernel_rfl)
      simp only [hd] at t74
      have t76 := hF.get 12 76 (by kernel_rfl)
      simp only [hd] at t76
      clear hF
      go_simp
      exact hK _ _ (hV _ _ hC4 (Below.refl _ _) rfl)
    · refine one_fr ?_ ?_ ?_
      · kernel_rfl
      · left; kernel_rfl
      intro T y W4 K Q Cv hF hC4 hd hV hK
      simp [deps, VL, IsV, Region.binds] at hd
      have t77 := hF.get 13 77 (by kernel_rfl)
      simp only [hd] at t77
      clear hF
      go_simp
      exact hK _ _ (hV _ _ hC4 (Below.refl _ _) rfl)
    · refine one_fr ?_ ?_ ?_
      · kernel_rfl
      · right; exact ⟨14, 78, by kernel_rfl, fun _ _ h => h⟩
      intro T y W4 K Q Cv hF hC4 hd hV hK
      clear hd
      have t10 := hF.old 10 (.int .i64 0) (by kernel_rfl) (by kernel_rfl)
      clear hF
      go_simp
      exact hK _ _ (hV _ _ hC4 (Below.refl _ _) rfl)
    · refine one_fr ?_ ?_ ?_
      · kernel_rfl
      · right; exact ⟨14, 78, by kernel_rfl, fun _ _ h => h⟩
      intro T y W4 K Q Cv hF hC4 hd hV hK
      simp [deps, VL, IsV, Region.binds] at hd
      have t79 := hF.get 15 79 (by kernel_rfl)
      simp only [hd] at t79
      clear hF
      go_simp
      exact hK _ _ (hV _ _ hC4 (Below.refl _ _) rfl)
    · refine one_fr ?_ ?_ ?_
      · kernel_rfl
      · left; kernel_rfl
      intro T y W4 K Q Cv hF hC4 hd hV hK
      simp [deps, VL, IsV, Region.binds] at hd
      have t78 := hF.get 14 78 (by kernel_rfl)
      simp only [hd] at t78
      have t80 := hF.get 16 80 (by kernel_rfl)
      simp only [hd] at t80
      clear hF
      go_simp
      exact hK _ _ (hV _ _ hC4 (Below.refl _ _) rfl)
    · refine one_fr ?_ ?_ ?_
      · kernel_rfl
      · left; kernel_rfl
      intro T y W4 K Q Cv hF hC4 hd hV hK
      simp [deps, VL, IsV, Region.binds] at hd
      have t81 := hF.get 17 81 (by kernel_rfl)
      simp only [hd] at t81
      clear hF
      go_simp
      exact hK _ _ (hV _ _ hC4 (Below.refl _ _) rfl)
    · refine one_fr ?_ ?_ ?_
      · kernel_rfl
      · right; exact ⟨18, 82, by kernel_rfl, fun _ _ h => h⟩
      intro T y W4 K Q Cv hF hC4 hd hV hK
      clear hd
      have t12 := hF.old 12 (.int .i64 0) (by kernel_rfl) (by kernel_rfl)
      clear hF
      go_simp
      exact hK _ _ (hV _ _ hC4 (Below.refl _ _) rfl)
    · refine one_fr ?_ ?_ ?_
      · kernel_rfl
      · right; exact ⟨18, 82, by kernel_rfl, fun _ _ h => h⟩
      intro T y W4 K Q Cv hF hC4 hd hV hK
      simp [deps, VL, IsV, Region.binds] at hd
      have t83 := hF.get 19 83 (by kernel_rfl)
      simp only [hd] at t83
      clear hF
      go_simp
      exact hK _ _ (hV _ _ hC4 (Below.refl _ _) rfl)
    · refine one_fr ?_ ?_ ?_
      · kernel_rfl
      · left; kernel_rfl
      intro T y W4 K Q Cv hF hC4 hd hV hK
      simp [deps, VL, IsV, Region.binds] at hd
      have t82 := hF.get 18 82 (by kernel_rfl)
      simp only [hd] at t82
      have t84 := hF.get 20 84 (by kernel_rfl)
      simp only [hd] at t84
      clear hF
      go_simp
      exact hK _ _ (hV _ _ hC4 (Below.refl _ _) rfl)
    · refine one_fr ?_ ?_ ?_
      · kernel_rfl
      · left; kernel_rfl
      intro T y W4 K Q Cv hF hC4 hd hV hK
      simp [deps, VL, IsV, Region.binds] at hd
      have t85 := hF.get 21 85 (by kernel_rfl)
      simp only [hd] at t85
      clear hF
      go_simp
      exact hK _ _ (hV _ _ hC4 (Below.refl _ _) rfl)
    · refine one_fr ?_ ?_ ?_
      · kernel_rfl
      · right; exact ⟨22, 86, by kernel_rfl, fun _ _ h => h⟩
      intro T y W4 K Q Cv hF hC4 hd hV hK
      clear hd
      have t16 := hF.old 16 (.int .i64 0) (by kernel_rfl) (by kernel_rfl)
      clear hF
      go_simp
      exact hK _ _ (hV _ _ hC4 (Below.refl _ _) rfl)
    · refine one_fr ?_ ?_ ?_
      · kernel_rfl
      · right; exact ⟨22, 86, by kernel_rfl, fun _ _ h => h⟩
      intro T y W4 K Q Cv hF hC4 hd hV hK
      simp [deps, VL, IsV, Region.binds] at hd
      have t87 := hF.get 23 87 (by kernel_rfl)
      simp only [hd] at t87
      clear hF
      go_simp
      exact hK _ _ (hV _ _ hC4 (Below.refl _ _) rfl)
    · refine one_fr ?_ ?_ ?_
      · kernel_rfl
      · left; kernel_rfl
      intro T y W4 K Q Cv hF hC4 hd hV hK
      simp [deps, VL, IsV, Region.binds] at hd
      have t86 := hF.get 22 86 (by kernel_rfl)
      simp only [hd] at t86
      have t88 := hF.get 24 88 (by kernel_rfl)
      simp only [hd] at t88
      clear hF
      go_simp
      exact hK _ _ (hV _ _ hC4 (Below.refl _ _) rfl)
    · refine one_fr ?_ ?_ ?_
      · kernel_rfl
      · left; kernel_rfl
      intro T y W4 K Q Cv hF hC4 hd hV hK
      simp [deps, VL, IsV, Region.binds] at hd
      have t89 := hF.get 25 89 (by kernel_rfl)
      simp only [hd] at t89
      clear hF
      go_simp
      exact hK _ _ (hV _ _ hC4 (Below.refl _ _) rfl)
    · refine one_fr ?_ ?_ ?_
      · kernel_rfl
      · right; exact ⟨26, 90, by kernel_rfl, fun _ _ h => h⟩
      intro T y W4 K Q Cv hF hC4 hd hV hK
      clear hd
      have t1 := hF.old 1 (.pointer (some ⟨w2.heap.size, 0, none⟩)) (by kernel_rfl) (by kernel_rfl)
      clear hF
      have c0 := (ka.out.below hC4 ka.out.lt).cell 0
      have c1 := (ka.out.below hC4 ka.out.lt).cell 1
      simp only [List.getElem?_toArray, List.getElem?_cons_zero, List.getElem?_cons_succ] at c0 c1
      go_simp
      exact hK _ _ (hV _ _ hC4 (Below.refl _ _) rfl)
    · refine one_fr ?_ ?_ ?_
      · kernel_rfl
      · right; exact ⟨26, 90, by kernel_rfl, fun _ _ h => h⟩
      intro T y W4 K Q Cv hF hC4 hd hV hK
      clear hd
      clear hF
      go_simp
      refine (span_w 480 500 _).mono ?_
      rintro e w7 ⟨rfl, hb7⟩
      exact hK _ _ (hV _ _ (hC4.trans (hb7.mono hC4.size)) hb7 rfl)
    · refine one_fr ?_ ?_ ?_
      · kernel_rfl
      · right; exact ⟨26, 90, by kernel_rfl, fun _ _ h => h⟩
      intro T y W4 K Q Cv hF hC4 hd hV hK
      simp [deps, VL, IsV, Region.binds] at hd
      have t91 := hF.get 27 91 (by kernel_rfl)
      simp only [hd] at t91
      have t92 := hF.get 28 92 (by kernel_rfl)
      simp only [hd] at t92
      clear hF
      go_simp
      exact hK _ _ (hV _ _ hC4 (Below.refl _ _) rfl)
    · refine one_fr ?_ ?_ ?_
      · kernel_rfl
      · left; kernel_rfl
      intro T y W4 K Q Cv hF hC4 hd hV hK
      simp [deps, VL, IsV, Region.binds] at hd
      have t90 := hF.get 26 90 (by kernel_rfl)
      simp only [hd] at t90
      have t93 := hF.get 29 93 (by kernel_rfl)
      simp only [hd] at t93
      clear hF
      go_simp
      exact hK _ _ (hV _ _ hC4 (Below.refl _ _) rfl)
    · refine one_fr ?_ ?_ ?_
      · kernel_rfl
      · left; kernel_rfl
      intro T y W4 K Q Cv hF hC4 hd hV hK
      simp [deps, VL, IsV, Region.binds] at hd
      have t94 := hF.get 30 94 (by kernel_rfl)
      simp only [hd] at t94
      clear hF
      go_simp
      exact hK _ _ (hV _ _ hC4 (Below.refl _ _) rfl)
    · refine one_fr ?_ ?_ ?_
      · kernel_rfl
      · right; exact ⟨31, 95, by kernel_rfl, fun _ _ h => h⟩
      intro T y W4 K Q Cv hF hC4 hd hV hK
      clear hd
      have t3 := hF.old 3 (.pointer (some ⟨w4.heap.size, 0, none⟩)) (by kernel_rfl) (by kernel_rfl)
      clear hF
      have c0 := (kb.out.below hC4 kb.out.lt).cell 0
      have c1 := (kb.out.below hC4 kb.out.lt).cell 1
      simp only [List.getElem?_toArray, List.getElem?_cons_zero, List.getElem?_cons_succ] at c0 c1
      go_simp
      exact hK _ _ (hV _ _ hC4 (Below.refl _ _) rfl)
    · refine one_fr ?_ ?_ ?_
      · kernel_rfl
      · right; exact ⟨31, 95, by kernel_rfl, fun _ _ h => h⟩
      intro T y W4 K Q Cv hF hC4 hd hV hK
      clear hd
      clear hF
      go_simp
      refine (span_w 970 1000 _).mono ?_
      rintro e w7 ⟨rfl, hb7⟩
      exact hK _ _ (hV _ _ (hC4.trans (hb7.mono hC4.size)) hb7 rfl)
    · refine one_fr ?_ ?_ ?_
      · kernel_rfl
      · right; exact ⟨31, 95, by kernel_rfl, fun _ _ h => h⟩
      intro T y W4 K Q Cv hF hC4 hd hV hK
      simp [deps, VL, IsV, Region.binds] at hd
      have t96 := hF.get 32 96 (by kernel_rfl)
      simp only [hd] at t96
      have t97 := hF.get 33 97 (by kernel_rfl)
      simp only [hd] at t97
      clear hF
      go_simp
      exact hK _ _ (hV _ _ hC4 (Below.refl _ _) rfl)
    · refine one_fr ?_ ?_ ?_
      · kernel_rfl
      · left; kernel_rfl
      intro T y W4 K Q Cv hF hC4 hd hV hK
      simp [deps, VL, IsV, Region.binds] at hd
      have t95 := hF.get 31 95 (by kernel_rfl)
      simp only [hd] at t95
      have t98 := hF.get 34 98 (by kernel_rfl)
      simp only [hd] at t98
      clear hF
      go_simp
      exact hK _ _ (hV _ _ hC4 (Below.refl _ _) rfl)
    · refine one_fr ?_ ?_ ?_
      · kernel_rfl
      · left; kernel_rfl
      intro T y W4 K Q Cv hF hC4 hd hV hK
      simp [deps, VL, IsV, Region.binds] at hd
      have t99 := hF.get 35 99 (by kernel_rfl)
      simp only [hd] at t99
      clear hF
      go_simp
      exact hK _ _ (hV _ _ hC4 (Below.refl _ _) rfl)
    · refine one_fr ?_ ?_ ?_
      · kernel_rfl
      · right; exact ⟨36, 100, by kernel_rfl, fun _ _ h => h⟩
      intro T y W4 K Q Cv hF hC4 hd hV hK
      clear hd
      have t5 := hF.old 5 (.pointer (some ⟨w6.heap.size, 0, none⟩)) (by kernel_rfl) (by kernel_rfl)
      clear hF
      have c0 := (kd.out.below hC4 kd.out.lt).cell 0
      have c1 := (kd.out.below hC4 kd.out.lt).cell 1
      simp only [List.getElem?_toArray, List.getElem?_cons_zero, List.getElem?_cons_succ] at c0 c1
      go_simp
      exact hK _ _ (hV _ _ hC4 (Below.refl _ _) rfl)
    · refine one_fr ?_ ?_ ?_
      · kernel_rfl
      · right; exact ⟨36, 100, by kernel_rfl, fun _ _ h => h⟩
      intro T y W4 K Q Cv hF hC4 hd hV hK
      clear hd
      clear hF
      go_simp
      refine (span_w 1000 1000 _).mono ?_
      rintro e w7 ⟨rfl, hb7⟩
      exact hK _ _ (hV _ _ (hC4.trans (hb7.mono hC4.size)) hb7 rfl)
    · refine one_fr ?_ ?_ ?_
      · kernel_rfl
      · right; exact ⟨36, 100, by kernel_rfl, fun _ _ h => h⟩
      intro T y W4 K Q Cv hF hC4 hd hV hK
      simp [deps, VL, IsV, Region.binds] at hd
      have t101 := hF.get 37 101 (by kernel_rfl)
      simp only [hd] at t101
      have t102 := hF.get 38 102 (by kernel_rfl)
      simp only [hd] at t102
      clear hF
      go_simp
      exact hK _ _ (hV _ _ hC4 (Below.refl _ _) rfl)
    · refine one_fr ?_ ?_ ?_
      · kernel_rfl
      · left; kernel_rfl
      intro T y W4 K Q Cv hF hC4 hd hV hK
      simp [deps, VL, IsV, Region.binds] at hd
      have t100 := hF.get 36 100 (by kernel_rfl)
      simp only [hd] at t100
      have t103 := hF.get 39 103 (by kernel_rfl)
      simp only [hd] at t103
      clear hF
      go_simp
      exact hK _ _ (hV _ _ hC4 (Below.refl _ _) rfl)
    · refine one_fr ?_ ?_ ?_
      · kernel_rfl
      · left; kernel_rfl
      intro T y W4 K Q Cv hF hC4 hd hV hK
      simp [deps, VL, IsV, Region.binds] at hd
      have t104 := hF.get 40 104 (by kernel_rfl)
      simp only [hd] at t104
      clear hF
      go_simp
      exact hK _ _ (hV _ _ hC4 (Below.refl _ _) rfl)
    · refine one_fr ?_ ?_ ?_
      · kernel_rfl
      · right; exact ⟨41, 105, by kernel_rfl, fun _ _ h => h⟩
      intro T y W4 K Q Cv hF hC4 hd hV hK
      clear hd
      have t7 := hF.old 7 (l) (by kernel_rfl) (by kernel_rfl)
      clear hF
      go_simp
      exact hK _ _ (hV _ _ hC4 (Below.refl _ _) rfl)
    · refine one_fr ?_ ?_ ?_
      · kernel_rfl
      · right; exact ⟨41, 105, by kernel_rfl, fun _ _ h => h⟩
      intro T y W4 K Q Cv hF hC4 hd hV hK
      clear hd
      clear hF
      go_simp
      refine (span_w 500 520 _).mono ?_
      rintro e w7 ⟨rfl, hb7⟩
      exact hK _ _ (hV _ _ (hC4.trans (hb7.mono hC4.size)) hb7 rfl)
    · refine one_fr ?_ ?_ ?_
      · kernel_rfl
      · right; exact ⟨41, 105, by kernel_rfl, fun _ _ h => h⟩
      intro T y W4 K Q Cv hF hC4 hd hV hK
      clear hd
      clear hF
      go_simp
      refine (span_w 390 500 _).mono ?_
      rintro e w7 ⟨rfl, hb7⟩
      exact hK _ _ (hV _ _ (hC4.trans (hb7.mono hC4.size)) hb7 rfl)
    · refine one_fr ?_ ?_ ?_
      · kernel_rfl
      · right; exact ⟨41, 105, by kernel_rfl, fun _ _ h => h⟩
      intro T y W4 K Q Cv hF hC4 hd hV hK
      simp [deps, VL, IsV, Region.binds] at hd
      have t107 := hF.get 43 107 (by kernel_rfl)
      simp only [hd] at t107
      have t108 := hF.get 44 108 (by kernel_rfl)
      simp only [hd] at t108
      rw [Array.getD_eq_getD_getElem?] at t107
      rw [Array.getD_eq_getD_getElem?] at t108
      clear hF
      go_simp
      refine hK _ _ (hV _ _ (hC4.alloc hC4.size _) ((Below.refl _ _).alloc (Nat.le_refl _) _) (isSpans_blk (c := 2) L1 (blkNew rfl) ?_ (by decide)))
      rfl
    · refine one_fr ?_ ?_ ?_
      · kernel_rfl
      · right; exact ⟨41, 105, by kernel_rfl, fun _ _ h => h⟩
      intro T y W4 K Q Cv hF hC4 hd hV hK
      simp [deps, VL, IsV, Region.binds] at hd
      have t106 := hF.get 42 106 (by kernel_rfl)
      simp only [hd] at t106
      have t109 := hF.get 45 109 (by kernel_rfl)
      clear hF
      have hs := (Spans_k _ _ W4 L1 L1 (IsSpans.stb _ _ _ _ hC4 hl.out) (by first | exact hd.2.1 | exact hd.2) (by unfold maxLen; decide) (by unfold maxLen; decide))
      simp only [decide_true] at hs
      go_simp
      refine hs.mono ?_
      rintro e w7 ⟨rfl, hb7⟩
      exact hK _ _ (hV _ _ (hC4.trans (hb7.mono hC4.size)) hb7 rfl)
    · refine one_fr ?_ ?_ ?_
      · kernel_rfl
      · left; kernel_rfl
      intro T y W4 K Q Cv hF hC4 hd hV hK
      simp [deps, VL, IsV, Region.binds] at hd
      have t105 := hF.get 41 105 (by kernel_rfl)
      simp only [hd] at t105
      have t110 := hF.get 46 110 (by kernel_rfl)
      simp only [hd] at t110
      clear hF
      go_simp
      exact hK _ _ (hV _ _ hC4 (Below.refl _ _) rfl)
    · refine one_fr ?_ ?_ ?_
      · kernel_rfl
      · left; kernel_rfl
      intro T y W4 K Q Cv hF hC4 hd hV hK
      simp [deps, VL, IsV, Region.binds] at hd
      have t111 := hF.get 47 111 (by kernel_rfl)
      simp only [hd] at t111
      clear hF
      go_simp
      exact hK _ _ (hV _ _ hC4 (Below.refl _ _) rfl)
    · refine one_fr ?_ ?_ ?_
      · kernel_rfl
      · right; exact ⟨48, 112, by kernel_rfl, fun _ _ h => h⟩
      intro T y W4 K Q Cv hF hC4 hd hV hK
      clear hd
      have t9 := hF.old 9 (.pointer (some ⟨w14.heap.size, 0, none⟩)) (by kernel_rfl) (by kernel_rfl)
      clear hF
      have c0 := (kc.out.below hC4 kc.out.lt).cell 0
      have c1 := (kc.out.below hC4 kc.out.lt).cell 1
      simp only [List.getElem?_toArray, List.getElem?_cons_zero, List.getElem?_cons_succ] at c0 c1
      go_simp
      exact hK _ _ (hV _ _ hC4 (Below.refl _ _) rfl)
    · refine one_fr ?_ ?_ ?_
      · kernel_rfl
      · right; exact ⟨48, 112, by kernel_rfl, fun _ _ h => h⟩
      intro T y W4 K Q Cv hF hC4 hd hV hK
      clear hd
      clear hF
      go_simp
      refine (span_w (-20) 0 _).mono ?_
      rintro e w7 ⟨rfl, hb7⟩
      exact hK _ _ (hV _ _ (hC4.trans (hb7.mono hC4.size)) hb7 rfl)
    · refine one_fr ?_ ?_ ?_
      · kernel_rfl
      · right; exact ⟨48, 112, by kernel_rfl, fun _ _ h => h⟩
      intro T y W4 K Q Cv hF hC4 hd hV hK
      simp [deps, VL, IsV, Region.binds] at hd
      have t113 := hF.get 49 113 (by kernel_rfl)
      simp only [hd] at t113
      have t114 := hF.get 50 114 (by kernel_rfl)
      simp only [hd] at t114
      clear hF
      go_simp
      exact hK _ _ (hV _ _ hC4 (Below.refl _ _) rfl)
    · refine one_fr ?_ ?_ ?_
      · kernel_rfl
      · left; kernel_rfl
      intro T y W4 K Q Cv hF hC4 hd hV hK
      simp [deps, VL, IsV, Region.binds] at hd
      have t112 := hF.get 48 112 (by kernel_rfl)
      simp only [hd] at t112
      have t115 := hF.get 51 115 (by kernel_rfl)
      simp only [hd] at t115
      clear hF
      go_simp
      exact hK _ _ (hV _ _ hC4 (Below.refl _ _) rfl)
    · refine one_fr ?_ ?_ ?_
      · kernel_rfl
      · left; kernel_rfl
      intro T y W4 K Q Cv hF hC4 hd hV hK
      simp [deps, VL, IsV, Region.binds] at hd
      have t116 := hF.get 52 116 (by kernel_rfl)
      simp only [hd] at t116
      clear hF
      go_simp
      exact hK _ _ (hV _ _ hC4 (Below.refl _ _) rfl)
    · refine one_fr ?_ ?_ ?_
      · kernel_rfl
      · right; exact ⟨53, 117, by kernel_rfl, fun _ _ h => h⟩
      intro T y W4 K Q Cv hF hC4 hd hV hK
      clear hd
      have t11 := hF.old 11 (.int .i64 345150) (by kernel_rfl) (by kernel_rfl)
      clear hF
      go_simp
      exact hK _ _ (hV _ _ hC4 (Below.refl _ _) rfl)
    · refine one_fr ?_ ?_ ?_
      · kernel_rfl
      · right; exact ⟨53, 117, by kernel_rfl, fun _ _ h => h⟩
      intro T y W4 K Q Cv hF hC4 hd hV hK
      simp [deps, VL, IsV, Region.binds] at hd
      have t118 := hF.get 54 118 (by kernel_rfl)
      simp only [hd] at t118
      clear hF
      go_simp
      exact hK _ _ (hV _ _ hC4 (Below.refl _ _) rfl)
    · refine one_fr ?_ ?_ ?_
      · kernel_rfl
      · left; kernel_rfl
      intro T y W4 K Q Cv hF hC4 hd hV hK
      simp [deps, VL, IsV, Region.binds] at hd
      have t117 := hF.get 53 117 (by kernel_rfl)
      simp only [hd] at t117
      have t119 := hF.get 55 119 (by kernel_rfl)
      simp only [hd] at t119
      clear hF
      go_simp
      exact hK _ _ (hV _ _ hC4 (Below.refl _ _) rfl)
    · refine one_fr ?_ ?_ ?_
      · kernel_rfl
      · left; kernel_rfl
      intro T y W4 K Q Cv hF hC4 hd hV hK
      simp [deps, VL, IsV, Region.binds] at hd
      have t120 := hF.get 56 120 (by kernel_rfl)
      simp only [hd] at t120
      clear hF
      go_simp
      exact hK _ _ (hV _ _ hC4 (Below.refl _ _) rfl)
    · refine one_fr ?_ ?_ ?_
      · kernel_rfl
      · right; exact ⟨57, 121, by kernel_rfl, fun _ _ h => h⟩
      intro T y W4 K Q Cv hF hC4 hd hV hK
      clear hd
      have t13 := hF.old 13 (.bool false) (by kernel_rfl) (by kernel_rfl)
      clear hF
      go_simp
      exact hK _ _ (hV _ _ hC4 (Below.refl _ _) rfl)
    · refine one_fr ?_ ?_ ?_
      · kernel_rfl
      · right; exact ⟨57, 121, by kernel_rfl, fun _ _ h => h⟩
      intro T y W4 K Q Cv hF hC4 hd hV hK
      simp [deps, VL, IsV, Region.binds] at hd
      have t122 := hF.get 58 122 (by kernel_rfl)
      simp only [hd] at t122
      clear hF
      go_simp
      exact hK _ _ (hV _ _ hC4 (Below.refl _ _) rfl)
    · refine one_fr ?_ ?_ ?_
      · kernel_rfl
      · left; kernel_rfl
      intro T y W4 K Q Cv hF hC4 hd hV hK
      simp [deps, VL, IsV, Region.binds] at hd
      have t121 := hF.get 57 121 (by kernel_rfl)
      simp only [hd] at t121
      have t123 := hF.get 59 123 (by kernel_rfl)
      simp only [hd] at t123
      clear hF
      go_simp
      exact hK _ _ (hV _ _ hC4 (Below.refl _ _) rfl)
    · refine one_fr ?_ ?_ ?_
      · kernel_rfl
      · left; kernel_rfl
      intro T y W4 K Q Cv hF hC4 hd hV hK
      simp [deps, VL, IsV, Region.binds] at hd
      have t124 := hF.get 60 124 (by kernel_rfl)
      simp only [hd] at t124
      clear hF
      go_simp
      exact hK _ _ (hV _ _ hC4 (Below.refl _ _) rfl)
    · refine one_fr ?_ ?_ ?_
      · kernel_rfl
      · right; exact ⟨61, 125, by kernel_rfl, fun _ _ h => h⟩
      intro T y W4 K Q Cv hF hC4 hd hV hK
      clear hd
      have t14 := hF.old 14 (.int .i64 345150) (by kernel_rfl) (by kernel_rfl)
      clear hF
      go_simp
      exact hK _ _ (hV _ _ hC4 (Below.refl _ _) rfl)
    · refine one_fr ?_ ?_ ?_
      · kernel_rfl
      · right; exact ⟨61, 125, by kernel_rfl, fun _ _ h => h⟩
      intro T y W4 K Q Cv hF hC4 hd hV hK
      simp [deps, VL, IsV, Region.binds] at hd
      have t126 := hF.get 62 126 (by kernel_rfl)
      simp only [hd] at t126
      clear hF
      go_simp
      exact hK _ _ (hV _ _ hC4 (Below.refl _ _) rfl)
    · refine one_fr ?_ ?_ ?_
      · kernel_rfl
      · left; kernel_rfl
      intro T y W4 K Q Cv hF hC4 hd hV hK
      simp [deps, VL, IsV, Region.binds] at hd
      have t125 := hF.get 61 125 (by kernel_rfl)
      simp only [hd] at t125
      have t127 := hF.get 63 127 (by kernel_rfl)
      simp only [hd] at t127
      clear hF
      go_simp
      exact hK _ _ (hV _ _ hC4 (Below.refl _ _) rfl)
    · refine one_fr ?_ ?_ ?_
      · kernel_rfl
      · left; kernel_rfl
      intro T y W4 K Q Cv hF hC4 hd hV hK
      simp [deps, VL, IsV, Region.binds] at hd
      have t128 := hF.get 64 128 (by kernel_rfl)
      simp only [hd] at t128
      clear hF
      go_simp
      exact hK _ _ (hV _ _ hC4 (Below.refl _ _) rfl)
    · refine one_fr ?_ ?_ ?_
      · kernel_rfl
      · right; exact ⟨65, 129, by kernel_rfl, fun _ _ h => h⟩
      intro T y W4 K Q Cv hF hC4 hd hV hK
      clear hd
      have t15 := hF.old 15 (.int .i64 430500) (by kernel_rfl) (by kernel_rfl)
      clear hF
      go_simp
      exact hK _ _ (hV _ _ hC4 (Below.refl _ _) rfl)
    · refine one_fr ?_ ?_ ?_
      · kernel_rfl
      · right; exact ⟨65, 129, by kernel_rfl, fun _ _ h => h⟩
      intro T y W4 K Q Cv hF hC4 hd hV hK
      simp [deps, VL, IsV, Region.binds] at hd
      have t130 := hF.get 66 130 (by kernel_rfl)
      simp only [hd] at t130
      clear hF
      go_simp
      exact hK _ _ (hV _ _ hC4 (Below.refl _ _) rfl)
    · refine one_fr ?_ ?_ ?_
      · kernel_rfl
      · left; kernel_rfl
      intro T y W4 K Q Cv hF hC4 hd hV hK
      simp [deps, VL, IsV, Region.binds] at hd
      have t129 := hF.get 65 129 (by kernel_rfl)
      simp only [hd] at t129
      have t131 := hF.get 67 131 (by kernel_rfl)
      simp only [hd] at t131
      clear hF
      go_simp
      exact hK _ _ (hV _ _ hC4 (Below.refl _ _) rfl)
    · refine one_fr ?_ ?_ ?_
      · kernel_rfl
      · left; kernel_rfl
      intro T y W4 K Q Cv hF hC4 hd hV hK
      simp [deps, VL, IsV, Region.binds] at hd
      have t132 := hF.get 68 132 (by kernel_rfl)
      simp only [hd] at t132
      clear hF
      go_simp
      exact hK _ _ (hV _ _ hC4 (Below.refl _ _) rfl)
    · refine one_fr ?_ ?_ ?_
      · kernel_rfl
      · right; exact ⟨69, 133, by kernel_rfl, fun _ _ h => h⟩
      intro T y W4 K Q Cv hF hC4 hd hV hK
      clear hd
      clear hF
      go_simp
      refine (AwakeS _).mono ?_
      rintro e w7 ⟨rfl, hb7⟩
      exact hK _ _ (hV _ _ (hC4.trans (hb7.mono hC4.size)) hb7 rfl)
    · refine one_fr ?_ ?_ ?_
      · kernel_rfl
      · left; kernel_rfl
      intro T y W4 K Q Cv hF hC4 hd hV hK
      simp [deps, VL, IsV, Region.binds] at hd
      have t133 := hF.get 69 133 (by kernel_rfl)
      simp only [hd] at t133
      have t134 := hF.get 70 134 (by kernel_rfl)
      simp only [hd] at t134
      clear hF
      go_simp
      exact hK _ _ (hV _ _ hC4 (Below.refl _ _) rfl)
    · refine one_fr ?_ ?_ ?_
      · kernel_rfl
      · left; kernel_rfl
      intro T y W4 K Q Cv hF hC4 hd hV hK
      simp [deps, VL, IsV, Region.binds] at hd
      have t135 := hF.get 71 135 (by kernel_rfl)
      simp only [hd] at t135
      clear hF
      go_simp
      exact hK _ _ (hV _ _ hC4 (Below.refl _ _) rfl)
  intro y W4 hC4 hd
  have hd0 : y 72 = .bool true := hd.2.2.2.2.2.2.2.2.2.2.2.2.2.2.2.2.2.2.2.2.2.2.2.2.2.2.2.2.2.2.2.2.2.2.2.2.2.2.2.2.2.2.2.2.2.2.2.2.2.2.2.2.2.2.2.2.2.2.2.2.2.2.2.2.2.2.2.2.2.2.2.2.1
  have hBe := hide (hB.out.trans (hC4.mono hB.out.size))
  clear hd hC4 q1 q2 q3 q4
  refine end_fr (Q := Exit.then _ _ Exit.normal) ?_ ?_
  · kernel_rfl
  intro tm hget
  have t0 := hget 72 0 (by kernel_rfl)
  simp only [hd0] at t0
  clear hget
  dsimp only
  go_wp2
  rw [Array.getD_eq_getD_getElem?] at t0
  refine bodyPost_ret (v := .bool true) (by simp [results, Try.results7, go_sem, t0]) rfl ⟨rfl, hBe.out⟩
end Go.Proofs.Ytkhijdbigpaagaa
