/-
  The reference's Weaker.
-/
import Derived.Test.YtjfdfhnfcpfmcaaGreatDoorRefR1
namespace Go.Proofs.YtjfdfhnfcpfmcaaGreatDoor
open Go.RowKit RG

set_option maxRecDepth 100000 in
set_option maxHeartbeats 4000000 in
theorem WeakerR_any (A A2 : Option Addr) (cc c2 : Nat) (S : Sys) (a1 a2 b1 b2 : Nat) (w : World) (h : InMem w A A2 cc c2 S) (gd : Good S) (h1 : a1 < S.cs.length) (h2 : a2 < 2 ^ S.codes.length) (h3 : b1 < S.cs.length) (h4 : b2 < 2 ^ S.codes.length) :
    Calls Tryz.prog 112 #[.agg #[.slice A S.cs.length cc, .slice A2 S.codes.length c2], .agg #[.int .i64 a1, .int .i64 a2], .agg #[.int .i64 b1, .int .i64 b2]] w fun e w' =>
      e = .returned (.bool (weakB S.cs S.cs.length (a1, a2) (b1, b2))) ∧ Below w.heap.size w w' := by
  have hcv := hide (fun (W : World) (hb : Below w.heap.size w W) => CoverR_any A A2 cc c2 S b1 W (h.below hb) gd.bd.1.2 gd.inc h3)
  have hB0 := hide ((((Below.refl w.heap.size w).alloc (Nat.le_refl _) (.cells #[.slice A S.cs.length cc, .slice A2 S.codes.length c2] 38)).alloc (by simp) (.cells #[.int .i64 a1, .int .i64 a2] 64)).alloc (by simp +arith) (.cells #[.int .i64 b1, .int .i64 b2] 64))
  have hS := hide (show Blk (((w.alloc (.cells #[.slice A S.cs.length cc, .slice A2 S.codes.length c2] 38)).alloc (.cells #[.int .i64 a1, .int .i64 a2] 64)).alloc (.cells #[.int .i64 b1, .int .i64 b2] 64)) w.heap.size 38 #[.slice A S.cs.length cc, .slice A2 S.codes.length c2] from ((Blk.new_ rfl).alloc _).alloc _)
  have hA := hide (show Blk (((w.alloc (.cells #[.slice A S.cs.length cc, .slice A2 S.codes.length c2] 38)).alloc (.cells #[.int .i64 a1, .int .i64 a2] 64)).alloc (.cells #[.int .i64 b1, .int .i64 b2] 64)) (w.heap.size + 1) 64 #[.int .i64 a1, .int .i64 a2] from (Blk.new_ (by simp)).alloc _)
  have hO := hide (show Blk (((w.alloc (.cells #[.slice A S.cs.length cc, .slice A2 S.codes.length c2] 38)).alloc (.cells #[.int .i64 a1, .int .i64 a2] 64)).alloc (.cells #[.int .i64 b1, .int .i64 b2] 64)) (w.heap.size + 1 + 1) 64 #[.int .i64 b1, .int .i64 b2] from Blk.new_ (by simp))
  have hne := fun W => neqRt a1 a2 b1 b2 W
  have ha8 : a2 < 2 ^ 8 := Nat.lt_of_lt_of_le h2 (Nat.pow_le_pow_right (by omega) gd.bd.2)
  have hb8 : b2 < 2 ^ 8 := Nat.lt_of_lt_of_le h4 (Nat.pow_le_pow_right (by omega) gd.bd.2)
  have hE := hide (show weakB S.cs S.cs.length (a1, a2) (b1, b2) = ((!((a1 : Int) == b1 && (a2 : Int) == b2)) && ((cover S.cs S.cs.length b1).testBit a1 && wiB b2 a2 8)) by
    rw [wiB_end hb8]
    unfold weakB allB; congr 2
    rw [Bool.eq_iff_iff]; simp [Prod.ext_iff]; omega)
  have hwi := hide (fun W => withinR_any b2 a2 W (Nat.lt_trans hb8 (by decide)) (Nat.lt_trans ha8 (by decide)))
  clear h gd h2 h4 ha8 hb8
  generalize S.codes.length = n2 at *
  generalize hcs : S.cs = cs at *
  generalize hnn : cs.length = n at *
  clear hcs hnn
  generalize weakB cs n (a1, a2) (b1, b2) = res at *
  generalize ((a1 : Int) == b1 && (a2 : Int) == b2) = q at *
  generalize wiB b2 a2 8 = q3 at *
  cases q with
  | true =>
    replace hE := hE.out
    simp only [Bool.not_true, Bool.false_and] at hE hne
    replace hE := hide hE
    go_enter Tryz.func112, Tryz.ntmps112
    go_wp2
    go_quiet (fail)
    go_wp2
    go_ret
    exact ⟨ret_bool hE.out.symm, below_drewN hB0.out _⟩
  | false =>
    replace hE := hE.out
    simp only [Bool.not_false, Bool.true_and] at hE hne
    replace hE := hide hE
    go_enter Tryz.func112, Tryz.ntmps112
    go_wp2
    generalize (((w.alloc (.cells #[.slice A n cc, .slice A2 n2 c2] 38)).alloc (.cells #[.int .i64 a1, .int .i64 a2] 64)).alloc (.cells #[.int .i64 b1, .int .i64 b2] 64)) = w0 at *
    have zS := hS.out.lt
    have zA := hA.out.lt
    have zO := hO.out.lt
    have hnv := hide hne
    clear hne
    cases hbit : (cover cs n b1).testBit a1 with
    | false =>
      rw [hbit] at hE
      replace hbit := hide hbit
      refine region_grow [IsV (.agg #[.int .i64 a1, .int .i64 a2]), IsV (.agg #[.int .i64 b1, .int .i64 b2]), IsV (.bool true), IsV (.bool true), IsV (.agg #[.slice A n cc, .slice A2 n2 c2]), IsV (.pointer (some ⟨w.heap.size + 1 + 1, 0, none⟩)), IsV (.int .i64 b1), IsBools n (cover cs n b1),
        IsV (.pointer (some ⟨w.heap.size + 1, 0, none⟩)), IsV (.int .i64 a1), BoolAt n (cover cs n b1) a1, IsV (.bool false), IsV (.bool false), IsV (.bool false), IsV undef, IsV undef, IsV undef, IsV undef, IsV undef, IsV (.bool false), IsV (.bool false)] (by kernel_rfl) (by kernel_rfl) rfl ?_ ?_ ?_
      · simp [AllStb, IsV.stb, IsBools.stb, BoolAt.stb]
      · refine ⟨?_, ?_, ?_, ?_, ?_, ?_, ?_, ?_, ?_, ?_, ?_, ?_, ?_, ?_, ?_, ?_, ?_, ?_, ?_, ?_, ?_, trivial⟩
        all_goals
          intro y w1 K Q Cv hC hd hV
          simp [deps, VL, IsV, Region.binds] at hd
        · have a0 : w1.cell? ⟨w.heap.size + 1, 0, none⟩ = some (.int .i64 a1) := (cellB hC zA).trans (hA.out.cell 0)
          have a9 : w1.cell? ⟨w.heap.size + 1, 1, none⟩ = some (.int .i64 a2) := (cellB hC zA).trans (hA.out.cell 1)
          simp only [putAll, Act.put]; go_simp; intro hK; exact hK _ _ (hV _ _ hC (Below.refl _ _) rfl)
        · have b0 : w1.cell? ⟨w.heap.size + 1 + 1, 0, none⟩ = some (.int .i64 b1) := (cellB hC zO).trans (hO.out.cell 0)
          have b9 : w1.cell? ⟨w.heap.size + 1 + 1, 1, none⟩ = some (.int .i64 b2) := (cellB hC zO).trans (hO.out.cell 1)
          simp only [putAll, Act.put]; go_simp; intro hK; exact hK _ _ (hV _ _ hC (Below.refl _ _) rfl)
        · have hne := hnv.out
          simp only [putAll, Act.put]; go_simp; intro hK; exact hK _ _ (hV _ _ hC (Below.refl _ _) rfl)
        · simp only [putAll, Act.put]; go_simp; intro hK; exact hK _ _ (hV _ _ hC (Below.refl _ _) rfl)
        · have c0 : w1.cell? ⟨w.heap.size, 0, none⟩ = some (.slice A n cc) := (cellB hC zS).trans (hS.out.cell 0)
          have c1 : w1.cell? ⟨w.heap.size, 1, none⟩ = some (.slice A2 n2 c2) := (cellB hC zS).trans (hS.out.cell 1)
          simp only [putAll, Act.put]; go_simp; intro hK; exact hK _ _ (hV _ _ hC (Below.refl _ _) rfl)
        · simp only [putAll, Act.put]; go_simp; intro hK; exact hK _ _ (hV _ _ hC (Below.refl _ _) rfl)
        · have b0 : w1.cell? ⟨w.heap.size + 1 + 1, 0, none⟩ = some (.int .i64 b1) := (cellB hC zO).trans (hO.out.cell 0)
          simp only [putAll, Act.put]; go_simp; intro hK; exact hK _ _ (hV _ _ hC (Below.refl _ _) rfl)
        · simp only [putAll, Act.put]; go_simp; intro hK
          refine (hcv.out w1 (hB0.out.trans (hC.mono hB0.out.size))).mono ?_
          rintro e w2 ⟨⟨v, rfl, hv⟩, hb2⟩
          exact hK _ _ (hV _ _ (hC.trans (hb2.mono hC.size)) hb2 hv)
        · simp only [putAll, Act.put]; go_simp; intro hK; exact hK _ _ (hV _ _ hC (Below.refl _ _) rfl)
        · have a0 : w1.cell? ⟨w.heap.size + 1, 0, none⟩ = some (.int .i64 a1) := (cellB hC zA).trans (hA.out.cell 0)
          simp only [putAll, Act.put]; go_simp; intro hK; exact hK _ _ (hV _ _ hC (Below.refl _ _) rfl)
        · obtain ⟨⟨gb, hgb, hBl⟩, hd2⟩ := hd
          simp only [putAll, Act.put]; go_simp; intro hK; exact hK _ _ (hV _ _ hC (Below.refl _ _) ⟨gb, rfl, hBl⟩)
        · obtain ⟨⟨gb, hgb, hBl⟩, hd2⟩ := hd
          have cb : w1.cell? ⟨gb, a1, none⟩ = some (.bool false) := by rw [hBl.cell, boolCells_at h1, hbit.out]
          simp only [putAll, Act.put]; go_simp; intro hK; exact hK _ _ (hV _ _ hC (Below.refl _ _) rfl)
        · simp only [putAll, Act.put]; go_simp; intro hK; exact hK _ _ (hV _ _ hC (Below.refl _ _) rfl)
        · simp only [putAll, Act.put]; go_simp; intro hK; exact hK _ _ (hV _ _ hC (Below.refl _ _) rfl)
        · simp only [putAll, Act.put]; go_simp; intro hK; exact hK _ _ (hV _ _ hC (Below.refl _ _) rfl)
        · have b9 : w1.cell? ⟨w.heap.size + 1 + 1, 1, none⟩ = some (.int .i64 b2) := (cellB hC zO).trans (hO.out.cell 1)
          simp only [putAll, Act.put]; go_simp; intro hK; exact hK _ _ (hV _ _ hC (Below.refl _ _) rfl)
        · simp only [putAll, Act.put]; go_simp; intro hK; exact hK _ _ (hV _ _ hC (Below.refl _ _) rfl)
        · have a9 : w1.cell? ⟨w.heap.size + 1, 1, none⟩ = some (.int .i64 a2) := (cellB hC zA).trans (hA.out.cell 1)
          simp only [putAll, Act.put]; go_simp; intro hK; exact hK _ _ (hV _ _ hC (Below.refl _ _) rfl)
        · simp only [putAll, Act.put]; go_simp; intro hK; exact hK _ _ (hV _ _ hC (Below.refl _ _) rfl)
        · simp only [putAll, Act.put]; go_simp; intro hK; exact hK _ _ (hV _ _ hC (Below.refl _ _) rfl)
        · simp only [putAll, Act.put]; go_simp; intro hK; exact hK _ _ (hV _ _ hC (Below.refl _ _) rfl)
      · intro y w1 hC hd
        have BW1 := hide (hB0.out.trans (hC.mono hB0.out.size))
        simp [EndsL, IsV] at hd
        obtain ⟨d0, d1, d2, d3, d4, d5, d6, d7, d8, d9, d10, d11, d12, d13, d14, d15, d16, d17, d18, d19, d20⟩ := hd
        simp only [putAll, Act.put]
        rw [d20]
        clear d0 d1 d2 d3 d4 d5 d6 d7 d8 d9 d10 d11 d12 d13 d14 d15 d16 d17 d18 d19 d20 hC
        simp only [List.setIfInBounds_toArray, List.set_cons_succ, List.set_cons_zero]
        go_wp2
        go_ret
        exact ⟨ret_bool hE.out.symm, BW1.out⟩
    | true =>
      rw [hbit] at hE
      replace hbit := hide hbit
      refine region_grow [IsV (.agg #[.int .i64 a1, .int .i64 a2]), IsV (.agg #[.int .i64 b1, .int .i64 b2]), IsV (.bool true), IsV (.bool true), IsV (.agg #[.slice A n cc, .slice A2 n2 c2]), IsV (.pointer (some ⟨w.heap.size + 1 + 1, 0, none⟩)), IsV (.int .i64 b1), IsBools n (cover cs n b1),
        IsV (.pointer (some ⟨w.heap.size + 1, 0, none⟩)), IsV (.int .i64 a1), BoolAt n (cover cs n b1) a1, IsV (.bool true), IsV (.bool true), IsV (.bool true), IsV (.pointer (some ⟨w.heap.size + 1 + 1, 1, none⟩)), IsV (.int .i64 b2), IsV (.pointer (some ⟨w.heap.size + 1, 1, none⟩)), IsV (.int .i64 a2), IsV (.bool q3), IsV (.bool q3), IsV (.bool q3)] (by kernel_rfl) (by kernel_rfl) rfl ?_ ?_ ?_
      · simp [AllStb, IsV.stb, IsBools.stb, BoolAt.stb]
      · refine ⟨?_, ?_, ?_, ?_, ?_, ?_, ?_, ?_, ?_, ?_, ?_, ?_, ?_, ?_, ?_, ?_, ?_, ?_, ?_, ?_, ?_, trivial⟩
        all_goals
          intro y w1 K Q Cv hC hd hV
          simp [deps, VL, IsV, Region.binds] at hd
        · have a0 : w1.cell? ⟨w.heap.size + 1, 0, none⟩ = some (.int .i64 a1) := (cellB hC zA).trans (hA.out.cell 0)
          have a9 : w1.cell? ⟨w.heap.size + 1, 1, none⟩ = some (.int .i64 a2) := (cellB hC zA).trans (hA.out.cell 1)
          simp only [putAll, Act.put]; go_simp; intro hK; exact hK _ _ (hV _ _ hC (Below.refl _ _) rfl)
        · have b0 : w1.cell? ⟨w.heap.size + 1 + 1, 0, none⟩ = some (.int .i64 b1) := (cellB hC zO).trans (hO.out.cell 0)
          have b9 : w1.cell? ⟨w.heap.size + 1 + 1, 1, none⟩ = some (.int .i64 b2) := (cellB hC zO).trans (hO.out.cell 1)
          simp only [putAll, Act.put]; go_simp; intro hK; exact hK _ _ (hV _ _ hC (Below.refl _ _) rfl)
        · have hne := hnv.out
          simp only [putAll, Act.put]; go_simp; intro hK; exact hK _ _ (hV _ _ hC (Below.refl _ _) rfl)
        · simp only [putAll, Act.put]; go_simp; intro hK; exact hK _ _ (hV _ _ hC (Below.refl _ _) rfl)
        · have c0 : w1.cell? ⟨w.heap.size, 0, none⟩ = some (.slice A n cc) := (cellB hC zS).trans (hS.out.cell 0)
          have c1 : w1.cell? ⟨w.heap.size, 1, none⟩ = some (.slice A2 n2 c2) := (cellB hC zS).trans (hS.out.cell 1)
          simp only [putAll, Act.put]; go_simp; intro hK; exact hK _ _ (hV _ _ hC (Below.refl _ _) rfl)
        · simp only [putAll, Act.put]; go_simp; intro hK; exact hK _ _ (hV _ _ hC (Below.refl _ _) rfl)
        · have b0 : w1.cell? ⟨w.heap.size + 1 + 1, 0, none⟩ = some (.int .i64 b1) := (cellB hC zO).trans (hO.out.cell 0)
          simp only [putAll, Act.put]; go_simp; intro hK; exact hK _ _ (hV _ _ hC (Below.refl _ _) rfl)
        · simp only [putAll, Act.put]; go_simp; intro hK
          refine (hcv.out w1 (hB0.out.trans (hC.mono hB0.out.size))).mono ?_
          rintro e w2 ⟨⟨v, rfl, hv⟩, hb2⟩
          exact hK _ _ (hV _ _ (hC.trans (hb2.mono hC.size)) hb2 hv)
        · simp only [putAll, Act.put]; go_simp; intro hK; exact hK _ _ (hV _ _ hC (Below.refl _ _) rfl)
        · have a0 : w1.cell? ⟨w.heap.size + 1, 0, none⟩ = some (.int .i64 a1) := (cellB hC zA).trans (hA.out.cell 0)
          simp only [putAll, Act.put]; go_simp; intro hK; exact hK _ _ (hV _ _ hC (Below.refl _ _) rfl)
        · obtain ⟨⟨gb, hgb, hBl⟩, hd2⟩ := hd
          simp only [putAll, Act.put]; go_simp; intro hK; exact hK _ _ (hV _ _ hC (Below.refl _ _) ⟨gb, rfl, hBl⟩)
        · obtain ⟨⟨gb, hgb, hBl⟩, hd2⟩ := hd
          have cb : w1.cell? ⟨gb, a1, none⟩ = some (.bool true) := by rw [hBl.cell, boolCells_at h1, hbit.out]
          simp only [putAll, Act.put]; go_simp; intro hK; exact hK _ _ (hV _ _ hC (Below.refl _ _) rfl)
        · simp only [putAll, Act.put]; go_simp; intro hK; exact hK _ _ (hV _ _ hC (Below.refl _ _) rfl)
        · simp only [putAll, Act.put]; go_simp; intro hK; exact hK _ _ (hV _ _ hC (Below.refl _ _) rfl)
        · simp only [putAll, Act.put]; go_simp; intro hK; exact hK _ _ (hV _ _ hC (Below.refl _ _) rfl)
        · have b9 : w1.cell? ⟨w.heap.size + 1 + 1, 1, none⟩ = some (.int .i64 b2) := (cellB hC zO).trans (hO.out.cell 1)
          simp only [putAll, Act.put]; go_simp; intro hK; exact hK _ _ (hV _ _ hC (Below.refl _ _) rfl)
        · simp only [putAll, Act.put]; go_simp; intro hK; exact hK _ _ (hV _ _ hC (Below.refl _ _) rfl)
        · have a9 : w1.cell? ⟨w.heap.size + 1, 1, none⟩ = some (.int .i64 a2) := (cellB hC zA).trans (hA.out.cell 1)
          simp only [putAll, Act.put]; go_simp; intro hK; exact hK _ _ (hV _ _ hC (Below.refl _ _) rfl)
        · simp only [putAll, Act.put]; go_simp; intro hK
          refine (hwi.out w1).mono ?_
          rintro e w2 ⟨rfl, rfl⟩
          exact hK _ _ (hV _ _ hC (Below.refl _ _) rfl)
        · simp only [putAll, Act.put]; go_simp; intro hK; exact hK _ _ (hV _ _ hC (Below.refl _ _) rfl)
        · simp only [putAll, Act.put]; go_simp; intro hK; exact hK _ _ (hV _ _ hC (Below.refl _ _) rfl)
      · intro y w1 hC hd
        have BW1 := hide (hB0.out.trans (hC.mono hB0.out.size))
        simp [EndsL, IsV] at hd
        obtain ⟨d0, d1, d2, d3, d4, d5, d6, d7, d8, d9, d10, d11, d12, d13, d14, d15, d16, d17, d18, d19, d20⟩ := hd
        simp only [putAll, Act.put]
        rw [d20]
        clear d0 d1 d2 d3 d4 d5 d6 d7 d8 d9 d10 d11 d12 d13 d14 d15 d16 d17 d18 d19 d20 hC
        simp only [List.setIfInBounds_toArray, List.set_cons_succ, List.set_cons_zero]
        go_wp2
        go_ret
        exact ⟨ret_bool (by simpa using hE.out.symm), BW1.out⟩
end Go.Proofs.YtjfdfhnfcpfmcaaGreatDoor
