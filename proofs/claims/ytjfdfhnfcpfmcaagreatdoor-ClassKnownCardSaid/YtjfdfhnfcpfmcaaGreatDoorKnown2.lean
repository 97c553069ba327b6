/-
  The law ClassKnown returns true.
-/
import Derived.Test.YtjfdfhnfcpfmcaaGreatDoorKnown
namespace Go.Proofs.YtjfdfhnfcpfmcaaGreatDoor
open Go.RowKit RG
theorem isInts1 {w : World} {g : Nat} {t : TypeId} {x : Int} (h : Blk w g t #[.int .i64 x]) : IsInts [x] (.slice (some ⟨g, 0, none⟩) 1 1) w :=
  ⟨_, 1, rfl, rdInts_blk h, Nat.le_refl _⟩
theorem step_i0 (w : World) (u : Value) (hu : IsInts [0] u w) :
    Calls Tryz.prog 33 #[u, .slice (some ⟨w.heap.size, 0, none⟩) 1 1] (w.alloc (.cells #[.int .i64 0] 3)) fun e w' => e = .returned (.bool true) ∧ Below w.heap.size w w' := by
  have hb : Below w.heap.size w (w.alloc (.cells #[.int .i64 0] 3)) := ((Below.refl _ _).alloc (Nat.le_refl _) _)
  refine (Ints_k _ _ _ _ _ (IsInts.stb _ _ _ _ hb hu) (isInts1 (Blk.new_ rfl)) (by unfold maxLen; decide) (by unfold maxLen; decide)).mono ?_
  rintro e w' ⟨he, hb'⟩
  exact ⟨he, hb.trans (hb'.mono hb.size)⟩
set_option maxRecDepth 100000 in
set_option maxHeartbeats 8000000 in
theorem Known_any (w : World) (he : Env w) : Calls Tryz.prog 8 #[] w fun e w' => e = .returned (.bool true) ∧ Below w.heap.size w w' := by
  replace he := hide he
  go_enter Tryz.func8, Tryz.ntmps8
  go_wp2_with fail
  refine (Day_229 _ he.out).mono ?_
  rintro e w1 ⟨rfl, hb1⟩
  have he1 := hide (he.out.below hb1 he.out.size)
  replace hb1 := hide hb1
  go_wp2_with fail
  refine (Day_301 _ he1.out).mono ?_
  rintro e w2 ⟨rfl, hb2⟩
  have he2 := hide (he1.out.below hb2 he1.out.size)
  have hB2 := hide (hb1.out.trans (hb2.mono hb1.out.size))
  clear hb1 hb2 he he1
  go_wp2_with fail
  refine (Plus_30 _ he2.out).mono ?_
  rintro e w3 ⟨rfl, hb3⟩
  have he3 := hide (he2.out.below hb3 he2.out.size)
  have hB3 := hide (hB2.out.trans (hb3.mono hB2.out.size))
  clear hb3 he2 hB2
  go_wp2_with fail
  refine (Age_423 _ he3.out).mono ?_
  rintro e w4 ⟨rfl, hb4⟩
  have he4 := hide (he3.out.below hb4 he3.out.size)
  have hB4 := hide (hB3.out.trans (hb4.mono hB3.out.size))
  clear hb4 he3 hB3
  go_wp2_with fail
  refine (System_any _).mono ?_
  rintro e w5 ⟨⟨v5, rfl, hv5⟩, hb5⟩
  have he5 := hide (he4.out.below hb5 he4.out.size)
  have hB5 := hide (hB4.out.trans (hb5.mono hB4.out.size))
  replace hv5 := hide hv5
  clear hb5 he4 hB4
  go_wp2_with fail
  refine (Covers_0 _ _ hv5.out).mono ?_
  rintro e w6 ⟨⟨u6, rfl, hu6⟩, hb6⟩
  have he6 := hide (he5.out.below hb6 he5.out.size)
  have hB6 := hide (hB5.out.trans (hb6.mono hB5.out.size))
  replace hu6 := hide hu6
  clear hb6 he5 hB5 hv5
  go_wp2_with fail
  refine (System_any _).mono ?_
  rintro e w7 ⟨⟨v7, rfl, hv7⟩, hb7⟩
  have he7 := hide (he6.out.below hb7 he6.out.size)
  have hB7 := hide (hB6.out.trans (hb7.mono hB6.out.size))
  have hU7 := hide (IsInts.stb _ _ _ _ hb7 hu6.out)
  replace hv7 := hide hv7
  clear hb7 he6 hB6 hu6
  go_wp2_with fail
  refine (Rights_any _).mono ?_
  rintro e w8 ⟨⟨r8, rfl, hr8⟩, hb8⟩
  have he8 := hide (he7.out.below hb8 he7.out.size)
  have hB8 := hide (hB7.out.trans (hb8.mono hB7.out.size))
  have hU8 := hide (IsInts.stb _ _ _ _ hb8 hU7.out)
  have hv8 := hide (IsS0.stb _ _ _ hb8 hv7.out)
  replace hr8 := hide hr8
  clear hb8 he7 hB7 hU7 hv7
  go_wp2_with fail
  refine (Allows_1 _ _ _ hv8.out hr8.out).mono ?_
  rintro e w9 ⟨rfl, hb9⟩
  have he9 := hide (he8.out.below hb9 he8.out.size)
  have hB9 := hide (hB8.out.trans (hb9.mono hB8.out.size))
  have hU9 := hide (IsInts.stb _ _ _ _ hb9 hU8.out)
  clear hb9 he8 hB8 hU8 hv8 hr8
  go_wp2_with fail
  have hX := Blk.new (w9.alloc (.cells #[.bool true, .bool false, .bool true, .bool false, .bool true] 4)) 47 #[.int .i64 0, .int .i64 1, .int .i64 1, .int .i64 1, .int .i64 1, .int .i64 2, .int .i64 2, .int .i64 2, .int .i64 2, .int .i64 0]
  have hWt := (Blk.new w9 4 #[.bool true, .bool false, .bool true, .bool false, .bool true]).alloc (.cells #[.int .i64 0, .int .i64 1, .int .i64 1, .int .i64 1, .int .i64 1, .int .i64 2, .int .i64 2, .int .i64 2, .int .i64 2, .int .i64 0] 47)
  have hA9 : Below w9.heap.size w9 ((w9.alloc (.cells #[.bool true, .bool false, .bool true, .bool false, .bool true] 4)).alloc (.cells #[.int .i64 0, .int .i64 1, .int .i64 1, .int .i64 1, .int .i64 1, .int .i64 2, .int .i64 2, .int .i64 2, .int .i64 2, .int .i64 0] 47)) := ((Below.refl _ _).alloc (Nat.le_refl _) _).alloc (by simp) _
  have he10 := hide (he9.out.below hA9 he9.out.size)
  have hB10 := hide (hB9.out.trans (hA9.mono hB9.out.size))
  have hU10 := hide (IsInts.stb _ _ _ _ hA9 hU9.out)
  rw [World.size_alloc] at hX
  generalize ((w9.alloc (.cells #[.bool true, .bool false, .bool true, .bool false, .bool true] 4)).alloc (.cells #[.int .i64 0, .int .i64 1, .int .i64 1, .int .i64 1, .int .i64 1, .int .i64 2, .int .i64 2, .int .i64 2, .int .i64 2, .int .i64 0] 47)) = w10 at *
  generalize w9.heap.size = gw at *
  obtain ⟨gx, hgx⟩ : ∃ g, gw + 1 = g := ⟨_, rfl⟩
  rw [hgx] at hX ⊢
  clear hgx hA9 he9 hB9 hU9
  replace hX := hide hX
  replace hWt := hide hWt
  go_loopg [15] 5 (fun g i wr => ∃ k : Nat, k ≤ 5 ∧ 5 - k ≤ g ∧ i = .int .i64 k ∧ Hid (Below w.heap.size w wr) ∧ Hid (Env wr) ∧ Hid (IsInts [0] u6 wr) ∧ Hid (Blk wr gw 4 #[.bool true, .bool false, .bool true, .bool false, .bool true]) ∧ Hid (Blk wr gx 47 #[.int .i64 0, .int .i64 1, .int .i64 1, .int .i64 1, .int .i64 1, .int .i64 2, .int .i64 2, .int .i64 2, .int .i64 2, .int .i64 0]))
  case atStart => exact ⟨0, Nat.zero_le _, by omega, rfl, hB10, he10, hU10, hWt, hX⟩
  case round =>
    clear hB10 he10 hU10 hWt hX
    obtain ⟨k, hk, hg, rfl, BW, EW, UW, WW, XW⟩ := hrel
    by_cases hlt : k < 5
    · have hltz : (k : Int) < 5 := by omega
      have hk0 : (0 : Int) ≤ (k : Int) := by omega
      have x0 : wr.cell? ⟨gx, k * 2, none⟩ = some (.int .i64 (ka k : Nat)) := by
        rw [XW.out.cell]
        rcases (show k = 0 ∨ k = 1 ∨ k = 2 ∨ k = 3 ∨ k = 4 by omega) with rfl | rfl | rfl | rfl | rfl <;> rfl
      have x1 : wr.cell? ⟨gx, k * 2 + 1, none⟩ = some (.int .i64 (kb k : Nat)) := by
        rw [XW.out.cell]
        rcases (show k = 0 ∨ k = 1 ∨ k = 2 ∨ k = 3 ∨ k = 4 by omega) with rfl | rfl | rfl | rfl | rfl <;> rfl
      replace x0 := hide x0
      replace x1 := hide x1
      go_wp2
      refine region_grow [IsS0, IsRts R0, IsV (.slice (some ⟨gx, 0, none⟩) 5 5), IsV (.int .i64 k), IsV (.pointer (some ⟨gx, k * 2, none⟩)), IsV (.pointer (some ⟨gx, k * 2, none⟩)), IsV (.int .i64 (ka k : Nat)),
        IsV (.slice (some ⟨gx, 0, none⟩) 5 5), IsV (.int .i64 k), IsV (.pointer (some ⟨gx, k * 2, none⟩)), IsV (.pointer (some ⟨gx, k * 2 + 1, none⟩)), IsV (.int .i64 (kb k : Nat)),
        IsV (.tuple #[.bool (kw k), .int .i64 0]), IsV (.tuple #[.bool (kw k), .int .i64 0]), IsV (.bool (kw k)), IsV (.int .i64 0), IsV (.bool (kw k)), IsV (.int .i64 0)] (by kernel_rfl) (by kernel_rfl) rfl ?_ ?_ ?_
      · simp [AllStb, IsV.stb, IsS0.stb, IsRts.stb]
      · refine ⟨?_, ?_, ?_, ?_, ?_, ?_, ?_, ?_, ?_, ?_, ?_, ?_, ?_, ?_, ?_, ?_, ?_, ?_, trivial⟩
        all_goals
          intro y w1 K Q Cv hC hd hV
          have hz := hC.size
          have c0 : w1.cell? ⟨gx, k * 2, none⟩ = some (.int .i64 (ka k : Nat)) := (cellB hC XW.out.lt).trans x0.out
          have c1 : w1.cell? ⟨gx, k * 2 + 1, none⟩ = some (.int .i64 (kb k : Nat)) := (cellB hC XW.out.lt).trans x1.out
          simp [deps, VL, IsV, Region.binds] at hd
        · simp only [putAll, Act.put]; go_simp; intro hK; refine (System_any _).mono ?_; rintro e w2 ⟨⟨v, rfl, hv⟩, hb⟩; exact hK _ _ (hV _ _ (hC.trans (hb.mono hz)) hb hv)
        · simp only [putAll, Act.put]; go_simp; intro hK; refine (Rights_any _).mono ?_; rintro e w2 ⟨⟨v, rfl, hv⟩, hb⟩; exact hK _ _ (hV _ _ (hC.trans (hb.mono hz)) hb hv)
        · simp only [putAll, Act.put]; go_simp; intro hK; exact hK _ _ (hV _ _ hC (Below.refl _ _) rfl)
        · simp only [putAll, Act.put]; go_simp; intro hK; exact hK _ _ (hV _ _ hC (Below.refl _ _) rfl)
        · simp only [putAll, Act.put]; go_simp; intro hK; exact hK _ _ (hV _ _ hC (Below.refl _ _) rfl)
        · simp only [putAll, Act.put]; go_simp; intro hK; exact hK _ _ (hV _ _ hC (Below.refl _ _) rfl)
        · simp only [putAll, Act.put]; go_simp; intro hK; exact hK _ _ (hV _ _ hC (Below.refl _ _) rfl)
        · simp only [putAll, Act.put]; go_simp; intro hK; exact hK _ _ (hV _ _ hC (Below.refl _ _) rfl)
        · simp only [putAll, Act.put]; go_simp; intro hK; exact hK _ _ (hV _ _ hC (Below.refl _ _) rfl)
        · simp only [putAll, Act.put]; go_simp; intro hK; exact hK _ _ (hV _ _ hC (Below.refl _ _) rfl)
        · simp only [putAll, Act.put]; go_simp; intro hK; exact hK _ _ (hV _ _ hC (Below.refl _ _) rfl)
        · simp only [putAll, Act.put]; go_simp; intro hK; exact hK _ _ (hV _ _ hC (Below.refl _ _) rfl)
        · simp only [putAll, Act.put]; go_simp; intro hK
          refine (May_n _ _ k _ hd.1 hd.2.1).mono ?_
          rintro e w2 ⟨rfl, hb⟩
          exact hK _ _ (hV _ _ (hC.trans (hb.mono hz)) hb rfl)
        · simp only [putAll, Act.put]; go_simp; intro hK; exact hK _ _ (hV _ _ hC (Below.refl _ _) rfl)
        · simp only [putAll, Act.put]; go_simp; intro hK; exact hK _ _ (hV _ _ hC (Below.refl _ _) rfl)
        · simp only [putAll, Act.put]; go_simp; intro hK; exact hK _ _ (hV _ _ hC (Below.refl _ _) rfl)
        · simp only [putAll, Act.put]; go_simp; intro hK; exact hK _ _ (hV _ _ hC (Below.refl _ _) rfl)
        · simp only [putAll, Act.put]; go_simp; intro hK; exact hK _ _ (hV _ _ hC (Below.refl _ _) rfl)
      · intro y w1 hC hd
        have hz := hC.size
        have BW1 := hide (BW.out.trans (hC.mono BW.out.size))
        have EW1 := hide (EW.out.below hC EW.out.size)
        have UW1 := hide (IsInts.stb _ _ _ _ hC UW.out)
        have WW1 := hide (WW.out.below hC WW.out.lt)
        have XW1 := hide (XW.out.below hC XW.out.lt)
        simp [EndsL, IsV] at hd
        obtain ⟨d0, d1, d2, d3, d4, d5, d6, d7, d8, d9, d10, d11, d12, d13, d14, d15, d16, d17⟩ := hd
        simp only [putAll, Act.put]
        rw [d2, d3, d4, d5, d6, d7, d8, d9, d10, d11, d12, d13, d14, d15, d16, d17]
        clear d0 d1 d2 d3 d4 d5 d6 d7 d8 d9 d10 d11 d12 d13 d14 d15 d16 d17 hC BW EW UW WW XW x0 x1
        have c2 : w1.cell? ⟨gw, k, none⟩ = some (.bool (kw k)) := by
          rw [WW1.out.cell]
          rcases (show k = 0 ∨ k = 1 ∨ k = 2 ∨ k = 3 ∨ k = 4 by omega) with rfl | rfl | rfl | rfl | rfl <;> rfl
        have hnb : (kw k != kw k) = false := by simp
        generalize kw k = q at *
        simp only [List.setIfInBounds_toArray, List.set_cons_succ, List.set_cons_zero]
        go_wp2
        go_roundg (5 - (k + 1))
        case measure => omega
        case rel => exact ⟨k + 1, by omega, by omega, by go_num, BW1, EW1, UW1, WW1, XW1⟩
    · obtain rfl : k = 5 := by omega
      clear WW XW
      go_wp2_with fail
      refine (step_i0 _ _ UW.out).mono ?_
      rintro e w11 ⟨rfl, hb11⟩
      have E11 := hide (EW.out.below hb11 EW.out.size)
      have B11 := hide (BW.out.trans (hb11.mono BW.out.size))
      clear hb11 BW EW UW
      go_wp2_with fail
      refine (Awake_any _ E11.out).mono ?_
      rintro e w12 ⟨rfl, hb12⟩
      have B12 := hide (B11.out.trans (hb12.mono B11.out.size))
      clear hb12 B11 E11
      go_wp2
      go_ret
      exact ⟨rfl, B12.out⟩
end Go.Proofs.YtjfdfhnfcpfmcaaGreatDoor
