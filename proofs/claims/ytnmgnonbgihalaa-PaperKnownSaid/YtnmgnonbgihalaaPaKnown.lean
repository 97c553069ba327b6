/-
  The law PaperKnown (made by gen_known.py).
-/
import Derived.Test.YtnmgnonbgihalaaPt
namespace Go.Proofs.Ytnmgnonbgihalaa
open Go.RowKit RG

theorem b0_k1 : nthE B0 0 = 0 := by decide +kernel
theorem b0_k2 : nthP B0 0 = [0, 2, 3] := by decide +kernel
theorem b0_k3 : nthE B0 1 = 0 := by decide +kernel
theorem b0_k4 : nthP B0 1 = [0, 3, 4] := by decide +kernel
theorem b0_k5 : nthE B0 3 = 4 := by decide +kernel
theorem b0_fair1 : fairV B0 1 = (1100, 1100) := by
  rw [fairV, if_pos (b0_fairE 1 (by decide)), b0_levels, b0_papers]
  decide +kernel
theorem b0_fair3 : fairV B0 3 = (1100, 1200) := by
  rw [fairV, if_pos (b0_fairE 3 (by decide)), b0_levels, b0_papers]
  decide +kernel
theorem b0_fairE4 : fairE B0 4 = 9 := by decide +kernel
theorem b0_fair4 : fairV B0 4 = (0, 0) := by rw [fairV, if_neg (by rw [b0_fairE4]; decide)]
set_option maxRecDepth 100000 in
set_option maxHeartbeats 4000000 in
theorem Known_any (w : World) : Calls Try.prog 7 #[] w fun e w' => e = .returned (.bool true) ∧ Below w.heap.size w w' := by
  have hI := hide (fun (A B : Option Addr) (n m c d : Nat) (xs ys : List Int) (W : World) (h : RdInts W A n xs) (h' : RdInts W B m ys) (hn : n ≤ maxLen) (hm : m ≤ maxLen) => Ints_any A B n m c d xs ys W h h' hn hm)
  unfold bkV at *
  go_enter Try.func7, Try.ntmps7
  go_wp2_with fail
  refine (Bank_any _).mono ?_
  rintro e u1 ⟨⟨Q1, W1, rfl, hq1⟩, hb1⟩
  have hB1a := hide (hb1)
  unfold bkV
  have hc1 := hide (Nth_f Q1 W1 5 2 B0 0 u1 hq1)
  unfold bkV at hc1
  clear hq1 hb1
  go_wp2_with fail
  refine hc1.out.mono ?_
  rintro e v1 ⟨⟨l1, rfl, hl1⟩, hv1⟩
  rw [b0_k1]
  have hB1 := hide (hB1a.out.trans (hv1.mono hB1a.out.size))
  rw [b0_k2] at hl1
  have la_0 := hide hl1
  clear hc1 hl1 hv1
  go_wp2_with fail
  refine (Bank_any _).mono ?_
  rintro e u2 ⟨⟨Q2, W2, rfl, hq2⟩, hb2⟩
  have hB2a := hide (hB1.out.trans (hb2.mono hB1.out.size))
  have la_2a := hide (la_0.out.below hb2)
  unfold bkV
  have hc2 := hide (Nth_f Q2 W2 5 2 B0 1 u2 hq2)
  unfold bkV at hc2
  clear hq2 hb2
  go_wp2_with fail
  refine hc2.out.mono ?_
  rintro e v2 ⟨⟨l2, rfl, hl2⟩, hv2⟩
  rw [b0_k3]
  have hB2 := hide (hB2a.out.trans (hv2.mono hB2a.out.size))
  have la_2 := hide (la_2a.out.below hv2)
  rw [b0_k4] at hl2
  have lb_0 := hide hl2
  clear hc2 hl2 hv2
  go_wp2_with fail
  refine (Bank_any _).mono ?_
  rintro e u3 ⟨⟨Q3, W3, rfl, hq3⟩, hb3⟩
  have hB3a := hide (hB2.out.trans (hb3.mono hB2.out.size))
  have la_3a := hide (la_2.out.below hb3)
  have lb_3a := hide (lb_0.out.below hb3)
  unfold bkV
  have hc3 := hide (Nth_f Q3 W3 5 2 B0 3 u3 hq3)
  unfold bkV at hc3
  clear hq3 hb3
  go_wp2_with fail
  refine hc3.out.mono ?_
  rintro e v3 ⟨⟨l3, rfl, hl3⟩, hv3⟩
  rw [b0_k5]
  have hB3 := hide (hB3a.out.trans (hv3.mono hB3a.out.size))
  have la_3 := hide (la_3a.out.below hv3)
  have lb_3 := hide (lb_3a.out.below hv3)
  clear hc3 hl3 hv3
  go_wp2_with fail
  refine (Bank_any _).mono ?_
  rintro e u4 ⟨⟨Q4, W4, rfl, hq4⟩, hb4⟩
  have hB4a := hide (hB3.out.trans (hb4.mono hB3.out.size))
  have la_4a := hide (la_3.out.below hb4)
  have lb_4a := hide (lb_3.out.below hb4)
  unfold bkV
  have hc4 := hide (Fair_any Q4 W4 5 2 B0 1 u4 hq4)
  rw [b0_fair1, b0_fairE 1 (by decide)] at hc4
  unfold bkV at hc4
  clear hq4 hb4
  go_wp2_with fail
  refine hc4.out.mono ?_
  rintro e v4 ⟨rfl, hv4⟩
  have hB4b := hide (hB4a.out.trans (hv4.mono hB4a.out.size))
  have la_4b := hide (la_4a.out.below hv4)
  have lb_4b := hide (lb_4a.out.below hv4)
  clear hc4 hv4
  obtain ⟨x4, hx4⟩ : ∃ y, v4.alloc (.cells #[.int .i64 1100, .int .i64 1100] 25) = y := ⟨_, rfl⟩
  have ha4 : Below v4.heap.size v4 x4 := by rw [← hx4]; exact (Below.refl _ _).alloc (Nat.le_refl _) _
  have sa_0 := hide (show Blk x4 v4.heap.size 25 #[.int .i64 1100, .int .i64 1100] by rw [← hx4]; exact blkNew rfl)
  have hB4 := hide (hB4b.out.trans (ha4.mono hB4b.out.size))
  have la_4c := hide (la_4b.out.below ha4)
  have lb_4c := hide (lb_4b.out.below ha4)
  replace hx4 := hide hx4
  clear ha4
  go_upto_region 5 with fail
  rw [hx4.out]
  go_wp2_with fail
  refine (Bank_any _).mono ?_
  rintro e u5 ⟨⟨Q5, W5, rfl, hq5⟩, hb5⟩
  have hB5a := hide (hB4.out.trans (hb5.mono hB4.out.size))
  have la_5a := hide (la_4c.out.below hb5)
  have lb_5a := hide (lb_4c.out.below hb5)
  have sa_5a := hide (sa_0.out.below hb5 sa_0.out.lt)
  unfold bkV
  have hc5 := hide (Fair_any Q5 W5 5 2 B0 3 u5 hq5)
  rw [b0_fair3, b0_fairE 3 (by decide)] at hc5
  unfold bkV at hc5
  clear hq5 hb5
  go_wp2_with fail
  refine hc5.out.mono ?_
  rintro e v5 ⟨rfl, hv5⟩
  have hB5b := hide (hB5a.out.trans (hv5.mono hB5a.out.size))
  have la_5b := hide (la_5a.out.below hv5)
  have lb_5b := hide (lb_5a.out.below hv5)
  have sa_5b := hide (sa_5a.out.below hv5 sa_5a.out.lt)
  clear hc5 hv5
  obtain ⟨x5, hx5⟩ : ∃ y, v5.alloc (.cells #[.int .i64 1100, .int .i64 1200] 25) = y := ⟨_, rfl⟩
  have ha5 : Below v5.heap.size v5 x5 := by rw [← hx5]; exact (Below.refl _ _).alloc (Nat.le_refl _) _
  have sb_0 := hide (show Blk x5 v5.heap.size 25 #[.int .i64 1100, .int .i64 1200] by rw [← hx5]; exact blkNew rfl)
  have hB5 := hide (hB5b.out.trans (ha5.mono hB5b.out.size))
  have la_5c := hide (la_5b.out.below ha5)
  have lb_5c := hide (lb_5b.out.below ha5)
  have sa_5c := hide (sa_5b.out.below ha5 sa_5b.out.lt)
  replace hx5 := hide hx5
  clear ha5
  go_upto_region 6 with fail
  rw [hx5.out]
  go_wp2_with fail
  refine (Bank_any _).mono ?_
  rintro e u6 ⟨⟨Q6, W6, rfl, hq6⟩, hb6⟩
  have hB6a := hide (hB5.out.trans (hb6.mono hB5.out.size))
  have la_6a := hide (la_5c.out.below hb6)
  have lb_6a := hide (lb_5c.out.below hb6)
  have sa_6a := hide (sa_5c.out.below hb6 sa_5c.out.lt)
  have sb_6a := hide (sb_0.out.below hb6 sb_0.out.lt)
  unfold bkV
  have hc6 := hide (Fair_any Q6 W6 5 2 B0 4 u6 hq6)
  rw [b0_fair4, b0_fairE4] at hc6
  unfold bkV at hc6
  clear hq6 hb6
  go_wp2_with fail
  refine hc6.out.mono ?_
  rintro e v6 ⟨rfl, hv6⟩
  have hB6b := hide (hB6a.out.trans (hv6.mono hB6a.out.size))
  have la_6b := hide (la_6a.out.below hv6)
  have lb_6b := hide (lb_6a.out.below hv6)
  have sa_6b := hide (sa_6a.out.below hv6 sa_6a.out.lt)
  have sb_6b := hide (sb_6a.out.below hv6 sb_6a.out.lt)
  clear hc6 hv6
  obtain ⟨x6, hx6⟩ : ∃ y, v6.alloc (.cells #[.int .i64 0, .int .i64 0] 25) = y := ⟨_, rfl⟩
  have ha6 : Below v6.heap.size v6 x6 := by rw [← hx6]; exact (Below.refl _ _).alloc (Nat.le_refl _) _
  have sc_0 := hide (show Blk x6 v6.heap.size 25 #[.int .i64 0, .int .i64 0] by rw [← hx6]; exact blkNew rfl)
  have hB6 := hide (hB6b.out.trans (ha6.mono hB6b.out.size))
  have la_6c := hide (la_6b.out.below ha6)
  have lb_6c := hide (lb_6b.out.below ha6)
  have sa_6c := hide (sa_6b.out.below ha6 sa_6b.out.lt)
  have sb_6c := hide (sb_6b.out.below ha6 sb_6b.out.lt)
  replace hx6 := hide hx6
  clear ha6
  go_upto_region 7 with fail
  rw [hx6.out]
  obtain ⟨x7, hx7⟩ : ∃ y, x6.alloc (.cells #[.int .i64 0, .int .i64 2, .int .i64 3] 3) = y := ⟨_, rfl⟩
  have ha7 : Below x6.heap.size x6 x7 := by rw [← hx7]; exact (Below.refl _ _).alloc (Nat.le_refl _) _
  have rd7 : RdInts x7 (some ⟨x6.heap.size, 0, none⟩) 3 [0, 2, 3] := rdInts_blk (xs := [0, 2, 3]) (by rw [← hx7]; exact blkNew rfl)
  have hB7a := hide (hB6.out.trans (ha7.mono hB6.out.size))
  have la_7a := hide (la_6c.out.below ha7)
  have lb_7a := hide (lb_6c.out.below ha7)
  have sa_7a := hide (sa_6c.out.below ha7 sa_6c.out.lt)
  have sb_7a := hide (sb_6c.out.below ha7 sb_6c.out.lt)
  have sc_7a := hide (sc_0.out.below ha7 sc_0.out.lt)
  obtain ⟨A7, c7, rfl, r7, m7, -⟩ := la_7a.out
  have hc7 := hide (hI.out A7 _ _ _ c7 3 _ _ x7 r7 rd7 m7 (by decide))
  rw [show decide (([0, 2, 3] : List Int) = [0, 2, 3]) = true from decide_eq_true rfl] at hc7
  replace hx7 := hide hx7
  clear ha7 rd7 r7 m7
  go_wp2_with fail
  rw [hx7.out]
  refine hc7.out.mono ?_
  rintro e z7 ⟨rfl, q7, hz7⟩
  have hv7 : Below x7.heap.size x7 z7 := by rw [hz7]; exact below_drewN (Below.refl _ _) _
  have hB7 := hide (hB7a.out.trans (hv7.mono hB7a.out.size))
  have la_7 := hide (la_7a.out.below hv7)
  have lb_7 := hide (lb_7a.out.below hv7)
  have sa_7 := hide (sa_7a.out.below hv7 sa_7a.out.lt)
  have sb_7 := hide (sb_7a.out.below hv7 sb_7a.out.lt)
  have sc_7 := hide (sc_7a.out.below hv7 sc_7a.out.lt)
  clear hc7 hv7 hz7
  obtain ⟨x8, hx8⟩ : ∃ y, z7.alloc (.cells #[.int .i64 0, .int .i64 3, .int .i64 4] 3) = y := ⟨_, rfl⟩
  have ha8 : Below z7.heap.size z7 x8 := by rw [← hx8]; exact (Below.refl _ _).alloc (Nat.le_refl _) _
  have rd8 : RdInts x8 (some ⟨z7.heap.size, 0, none⟩) 3 [0, 3, 4] := rdInts_blk (xs := [0, 3, 4]) (by rw [← hx8]; exact blkNew rfl)
  have hB8a := hide (hB7.out.trans (ha8.mono hB7.out.size))
  have la_8a := hide (la_7.out.below ha8)
  have lb_8a := hide (lb_7.out.below ha8)
  have sa_8a := hide (sa_7.out.below ha8 sa_7.out.lt)
  have sb_8a := hide (sb_7.out.below ha8 sb_7.out.lt)
  have sc_8a := hide (sc_7.out.below ha8 sc_7.out.lt)
  obtain ⟨A8, c8, rfl, r8, m8, -⟩ := lb_8a.out
  have hc8 := hide (hI.out A8 _ _ _ c8 3 _ _ x8 r8 rd8 m8 (by decide))
  rw [show decide (([0, 3, 4] : List Int) = [0, 3, 4]) = true from decide_eq_true rfl] at hc8
  replace hx8 := hide hx8
  clear ha8 rd8 r8 m8
  go_wp2_with fail
  rw [hx8.out]
  refine hc8.out.mono ?_
  rintro e z8 ⟨rfl, q8, hz8⟩
  have hv8 : Below x8.heap.size x8 z8 := by rw [hz8]; exact below_drewN (Below.refl _ _) _
  have hB8 := hide (hB8a.out.trans (hv8.mono hB8a.out.size))
  have la_8 := hide (la_8a.out.below hv8)
  have lb_8 := hide (lb_8a.out.below hv8)
  have sa_8 := hide (sa_8a.out.below hv8 sa_8a.out.lt)
  have sb_8 := hide (sb_8a.out.below hv8 sb_8a.out.lt)
  have sc_8 := hide (sc_8a.out.below hv8 sc_8a.out.lt)
  clear hc8 hv8 hz8
  have sa0 : z8.cell? ⟨v4.heap.size, 0, none⟩ = some (.int .i64 1100) := sa_8.out.cell 0
  have sa1 : z8.cell? ⟨v4.heap.size, 1, none⟩ = some (.int .i64 1100) := sa_8.out.cell 1
  have sb0 : z8.cell? ⟨v5.heap.size, 0, none⟩ = some (.int .i64 1100) := sb_8.out.cell 0
  have sb1 : z8.cell? ⟨v5.heap.size, 1, none⟩ = some (.int .i64 1200) := sb_8.out.cell 1
  go_wp2_with fail
  refine (Awake_any _).mono ?_
  rintro e w9 ⟨rfl, hb9⟩
  have hB9 := hide (hB8.out.trans (hb9.mono hB8.out.size))
  clear hb9 sa0 sa1 sb0 sb1
  go_wp2
  go_ret
  exact ⟨rfl, hB9.out⟩
end Go.Proofs.Ytnmgnonbgihalaa
