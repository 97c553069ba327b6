/-
  The law ClassDays returns true.
-/
import Derived.Test.YtjfdfhnfcpfmcaaGreatDoorMj
import Derived.Test.YtjfdfhnfcpfmcaaGreatDoorMl
namespace Go.Proofs.YtjfdfhnfcpfmcaaGreatDoor
open Go.RowKit RG

theorem date_same (n : Int) : ∃ y m d e : Int, (∀ w, Env w → Calls Tryz.prog 22 #[.int .i64 n] w fun x w' => x = .returned (.tuple #[.agg #[.int .i64 y, .int .i64 m, .int .i64 d], .int .i64 e]) ∧ Below w.heap.size w w') ∧
    (∀ w, Calls Tryz.prog 23 #[.int .i64 n] w fun x w' => x = .returned (.tuple #[.agg #[.int .i64 y, .int .i64 m, .int .i64 d], .int .i64 e]) ∧ Below w.heap.size w w') := by
  by_cases h : 0 ≤ n ∧ n ≤ 40000
  · obtain ⟨y, m, d, hd⟩ := Cal.dateIs_exI h.1
    refine ⟨y, m, d, 0, fun w he => (Date_yes n w he (inB_iff.2 h)).mono ?_, fun w => (DateR_yes n w h).mono ?_⟩
    all_goals
      rintro e w' ⟨⟨y', m', d', rfl, hd'⟩, hb⟩
      obtain ⟨rfl, rfl, rfl⟩ := Cal.dateIs_uniq hd hd'
      exact ⟨rfl, hb⟩
  · exact ⟨0, 0, 0, 7, fun w _ => Date_no n w (inB_no h), fun w => DateR_no n w (inB_no h)⟩
theorem plus_same (n years months : Int) : ∃ p e : Int, (∀ w, Env w → Calls Tryz.prog 24 #[.int .i64 n, .int .i64 years, .int .i64 months] w fun x w' => x = .returned (.tuple #[.int .i64 p, .int .i64 e]) ∧ Below w.heap.size w w') ∧
    (∀ w, Calls Tryz.prog 25 #[.int .i64 n, .int .i64 years, .int .i64 months] w fun x w' => x = .returned (.tuple #[.int .i64 p, .int .i64 e]) ∧ Below w.heap.size w w') := by
  by_cases h : (0 ≤ n ∧ n ≤ 40000) ∧ (0 ≤ years ∧ years ≤ 100) ∧ (0 ≤ months ∧ months ≤ 1200)
  · obtain ⟨y, m, d, hd⟩ := Cal.dateIs_exI h.1.1
    exact ⟨_, _, fun w he => Plus_v n y m d years months w he hd h.1.1 h.1.2 h.2.1 h.2.2, fun w => PlusR_v n y m d years months w hd h.1.1 h.1.2 h.2.1 h.2.2⟩
  · refine ⟨0, 7, fun w he => (Plus_any n years months w he).mono ?_, fun w => PlusR_no n years months w h⟩
    rintro e w' ⟨⟨a, x, rfl, hp | hp⟩, hb⟩
    · obtain ⟨_, rfl, rfl⟩ := hp
      exact ⟨rfl, hb⟩
    · exact absurd hp.1 h
theorem age_same (n day : Int) : ∃ a e : Int, (∀ w, Env w → Calls Tryz.prog 26 #[.int .i64 n, .int .i64 day] w fun x w' => x = .returned (.tuple #[.int .i64 a, .int .i64 e]) ∧ Below w.heap.size w w') ∧
    (∀ w, Calls Tryz.prog 27 #[.int .i64 n, .int .i64 day] w fun x w' => x = .returned (.tuple #[.int .i64 a, .int .i64 e]) ∧ Below w.heap.size w w') := by
  by_cases h : (0 ≤ n ∧ n ≤ 40000) ∧ (0 ≤ day ∧ day ≤ 40000)
  · rcases Int.lt_or_le day n with hlt | hge
    · refine ⟨0, 2, fun w he => (Age_any n day w he).mono ?_, fun w => AgeR_arg n day w h.1 h.2 hlt⟩
      rintro e w' ⟨⟨a, x, rfl, hp⟩, hb⟩
      obtain ⟨rfl, rfl⟩ := Cal.ageR_arg h hlt hp
      exact ⟨rfl, hb⟩
    · obtain ⟨y, m, d, hd⟩ := Cal.dateIs_exI h.1.1
      obtain ⟨a, ha⟩ := Cal.age_ex hd h.1.1 hge
      refine ⟨a, 0, fun w he => (Age_v n y m d day w he hd h.1.1 hge h.2.2).mono ?_, fun w => (AgeR_yes n y m d day w hd h.1.1 hge h.2.2).mono ?_⟩
      all_goals
        rintro e w' ⟨⟨a', rfl, hA⟩, hb⟩
        obtain rfl := Cal.ageIs_uniq hd ha hA
        exact ⟨rfl, hb⟩
  · refine ⟨0, 7, fun w he => (Age_any n day w he).mono ?_, fun w => AgeR_no n day w h⟩
    rintro e w' ⟨⟨a, x, rfl, hp⟩, hb⟩
    obtain ⟨rfl, rfl⟩ := Cal.ageR_err h hp
    exact ⟨rfl, hb⟩
set_option maxRecDepth 100000 in
set_option maxHeartbeats 8000000 in
theorem Days_any (s : ByteArray) (Y M D x0 x1 x2 x3 : Int) (w : World) (he : Env w) (hs : s.size ≤ maxLen) (hY : -9223372036854775808 ≤ Y ∧ Y ≤ 9223372036854775807) :
    Calls Tryz.prog 3 #[.string s, .agg #[.int .i64 Y, .int .i64 M, .int .i64 D], .agg #[.int .i64 x0, .int .i64 x1, .int .i64 x2, .int .i64 x3]] w fun e w' => e = .returned (.bool true) ∧ Below w.heap.size w w' := by
  obtain ⟨dy, dm, dd, de, hd1, hd2⟩ := date_same x0
  obtain ⟨pp, pe, hp1, hp2⟩ := plus_same x0 x1 x2
  obtain ⟨aa, ae, ha1, ha2⟩ := age_same x0 x3
  replace hd1 := hide hd1
  replace hd2 := hide hd2
  replace hp1 := hide hp1
  replace hp2 := hide hp2
  replace ha1 := hide ha1
  replace ha2 := hide ha2
  replace hs := hide hs
  replace hY := hide hY
  have hBA : Below w.heap.size w ((w.alloc (.cells #[.int .i64 Y, .int .i64 M, .int .i64 D] 23)).alloc (.cells #[.int .i64 x0, .int .i64 x1, .int .i64 x2, .int .i64 x3] 24)) := ((Below.refl _ _).alloc (Nat.le_refl _) _).alloc (by simp) _
  have heA := hide (he.below hBA he.size)
  have hDA : Blk ((w.alloc (.cells #[.int .i64 Y, .int .i64 M, .int .i64 D] 23)).alloc (.cells #[.int .i64 x0, .int .i64 x1, .int .i64 x2, .int .i64 x3] 24)) w.heap.size 23 #[.int .i64 Y, .int .i64 M, .int .i64 D] := (Blk.new_ rfl).alloc _
  have hXA : Blk ((w.alloc (.cells #[.int .i64 Y, .int .i64 M, .int .i64 D] 23)).alloc (.cells #[.int .i64 x0, .int .i64 x1, .int .i64 x2, .int .i64 x3] 24)) (w.heap.size + 1) 24 #[.int .i64 x0, .int .i64 x1, .int .i64 x2, .int .i64 x3] := Blk.new_ (by simp)
  replace hBA := hide hBA
  replace hDA := hide hDA
  replace hXA := hide hXA
  clear he
  go_enter Tryz.func3, Tryz.ntmps3
  go_wp2_with fail
  generalize ((w.alloc (.cells #[.int .i64 Y, .int .i64 M, .int .i64 D] 23)).alloc (.cells #[.int .i64 x0, .int .i64 x1, .int .i64 x2, .int .i64 x3] 24)) = w0 at *
  refine (Day_any Y M D _ heA.out hY.out).mono ?_
  rintro e w1 ⟨rfl, hb1⟩
  have he1 := hide (heA.out.below hb1 heA.out.size)
  have hB1 := hide (hBA.out.trans (hb1.mono hBA.out.size))
  have hD1 := hDA.out.below hb1 hDA.out.lt
  have hX1 := hide (hXA.out.below hb1 hXA.out.lt)
  clear hb1 heA hBA hDA hXA
  have p0 : w1.cell? ⟨w.heap.size, 0, none⟩ = some (.int .i64 Y) := hD1.cell 0
  have p1 : w1.cell? ⟨w.heap.size, 1, none⟩ = some (.int .i64 M) := hD1.cell 1
  have p2 : w1.cell? ⟨w.heap.size, 2, none⟩ = some (.int .i64 D) := hD1.cell 2
  clear hD1
  go_wp2_with fail
  refine (DayR_any Y M D _).mono ?_
  rintro e w2 ⟨rfl, hb2⟩
  have he2 := hide (he1.out.below hb2 he1.out.size)
  have hB2 := hide (hB1.out.trans (hb2.mono hB1.out.size))
  have hX2 := hide (hX1.out.below hb2 hX1.out.lt)
  clear hb2 he1 hB1 hX1 p0 p1 p2
  generalize (Cal.dayF Y M D).1 = n1 at *
  generalize (Cal.dayF Y M D).2 = n2 at *
  go_wp2_with fail
  refine (Name_any s _ hs.out).mono ?_
  rintro e w3 ⟨rfl, hb3⟩
  have he3 := hide (he2.out.below hb3 he2.out.size)
  have hB3 := hide (hB2.out.trans (hb3.mono hB2.out.size))
  have hX3 := hX2.out.below hb3 hX2.out.lt
  clear hb3 he2 hB2 hX2
  go_wp2_with fail
  refine (NameR_any s _ hs.out).mono ?_
  rintro e w' ⟨rfl, rfl⟩
  generalize nameB s = nb at *
  have x3' : w3.cell? ⟨w.heap.size + 1, 0, none⟩ = some (.int .i64 x0) := hX3.cell 0
  replace hX3 := hide hX3
  go_wp2_with fail
  refine (hd1.out _ he3.out).mono ?_
  rintro e w4 ⟨rfl, hb4⟩
  have he4 := hide (he3.out.below hb4 he3.out.size)
  have hB4 := hB3.out.trans (hb4.mono hB3.out.size)
  have hX4 := hX3.out.below hb4 hX3.out.lt
  clear hb4 he3 hB3 hX3 x3' hs hY hd1
  have x4' : w4.cell? ⟨w.heap.size + 1, 0, none⟩ = some (.int .i64 x0) := hX4.cell 0
  have hA4 : Below w4.heap.size w4 (w4.alloc (.cells #[.int .i64 dy, .int .i64 dm, .int .i64 dd] 23)) := (Below.refl _ _).alloc (Nat.le_refl _) _
  have he5 := hide (he4.out.below hA4 he4.out.size)
  have hB5 := hide (hB4.trans (hA4.mono hB4.size))
  have hX5 := hide (hX4.below hA4 hX4.lt)
  have hP5 := hide (Blk.new w4 23 #[.int .i64 dy, .int .i64 dm, .int .i64 dd])
  have hlt := hX4.lt
  have hne : w.heap.size + 1 ≠ w4.heap.size := Nat.ne_of_lt hX4.lt
  clear hA4 he4 hB4 hX4
  go_wp2_with fail
  clear x4' hne hlt
  generalize w4.alloc (.cells #[.int .i64 dy, .int .i64 dm, .int .i64 dd] 23) = w5 at *
  generalize w4.heap.size = gp at *
  refine (hd2.out _).mono ?_
  rintro e w6 ⟨rfl, hb6⟩
  have he6 := hide (he5.out.below hb6 he5.out.size)
  have hB6 := hB5.out.trans (hb6.mono hB5.out.size)
  have hX6 := hX5.out.below hb6 hX5.out.lt
  have hP6 := hP5.out.below hb6 hP5.out.lt
  clear hb6 he5 hB5 hX5 hP5 hd2
  have hA6 : Below w6.heap.size w6 (w6.alloc (.cells #[.int .i64 dy, .int .i64 dm, .int .i64 dd] 23)) := (Below.refl _ _).alloc (Nat.le_refl _) _
  have he7 := hide (he6.out.below hA6 he6.out.size)
  have hB7 := hide (hB6.trans (hA6.mono hB6.size))
  have hX7 := hide (hX6.below hA6 hX6.lt)
  have hlt := hX6.lt
  have hlt2 := hP6.lt
  have hne : w.heap.size + 1 ≠ w6.heap.size := Nat.ne_of_lt hX6.lt
  have hne2 : gp ≠ w6.heap.size := Nat.ne_of_lt hP6.lt
  have p0 : w6.cell? ⟨gp, 0, none⟩ = some (.int .i64 dy) := hP6.cell 0
  have p1 : w6.cell? ⟨gp, 1, none⟩ = some (.int .i64 dm) := hP6.cell 1
  have p2 : w6.cell? ⟨gp, 2, none⟩ = some (.int .i64 dd) := hP6.cell 2
  have x0' : w6.cell? ⟨w.heap.size + 1, 0, none⟩ = some (.int .i64 x0) := hX6.cell 0
  have x1' : w6.cell? ⟨w.heap.size + 1, 1, none⟩ = some (.int .i64 x1) := hX6.cell 1
  have x2' : w6.cell? ⟨w.heap.size + 1, 2, none⟩ = some (.int .i64 x2) := hX6.cell 2
  have heq := fun W => neDate dy dm dd dy dm dd W
  simp only [beq_self_eq_true, Bool.and_self, Bool.not_true] at heq
  clear hA6 he6 hB6 hX6 hP6
  go_wp2_with fail
  clear p0 p1 p2 x0' x1' x2' hne hne2 heq hlt hlt2
  generalize w6.alloc (.cells #[.int .i64 dy, .int .i64 dm, .int .i64 dd] 23) = w7 at *
  refine (hp1.out _ he7.out).mono ?_
  rintro e w8 ⟨rfl, hb8⟩
  have he8 := hide (he7.out.below hb8 he7.out.size)
  have hB8 := hide (hB7.out.trans (hb8.mono hB7.out.size))
  have hX8 := hX7.out.below hb8 hX7.out.lt
  clear hb8 he7 hB7 hX7 hp1
  have x0' : w8.cell? ⟨w.heap.size + 1, 0, none⟩ = some (.int .i64 x0) := hX8.cell 0
  have x1' : w8.cell? ⟨w.heap.size + 1, 1, none⟩ = some (.int .i64 x1) := hX8.cell 1
  have x2' : w8.cell? ⟨w.heap.size + 1, 2, none⟩ = some (.int .i64 x2) := hX8.cell 2
  replace hX8 := hide hX8
  go_wp2_with fail
  clear x0' x1' x2'
  refine (hp2.out _).mono ?_
  rintro e w9 ⟨rfl, hb9⟩
  have he9 := hide (he8.out.below hb9 he8.out.size)
  have hB9 := hide (hB8.out.trans (hb9.mono hB8.out.size))
  have hX9 := hX8.out.below hb9 hX8.out.lt
  clear hb9 he8 hB8 hX8 hp2
  have x0' : w9.cell? ⟨w.heap.size + 1, 0, none⟩ = some (.int .i64 x0) := hX9.cell 0
  have x3' : w9.cell? ⟨w.heap.size + 1, 3, none⟩ = some (.int .i64 x3) := hX9.cell 3
  replace hX9 := hide hX9
  go_wp2_with fail
  clear x0' x3'
  refine (ha1.out _ he9.out).mono ?_
  rintro e w10 ⟨rfl, hb10⟩
  have he10 := hide (he9.out.below hb10 he9.out.size)
  have hB10 := hide (hB9.out.trans (hb10.mono hB9.out.size))
  have hX10 := hX9.out.below hb10 hX9.out.lt
  clear hb10 he9 hB9 hX9 ha1
  have x0' : w10.cell? ⟨w.heap.size + 1, 0, none⟩ = some (.int .i64 x0) := hX10.cell 0
  have x3' : w10.cell? ⟨w.heap.size + 1, 3, none⟩ = some (.int .i64 x3) := hX10.cell 3
  clear hX10
  go_wp2_with fail
  clear x0' x3'
  refine (ha2.out _).mono ?_
  rintro e w11 ⟨rfl, hb11⟩
  have he11 := hide (he10.out.below hb11 he10.out.size)
  have hB11 := hide (hB10.out.trans (hb11.mono hB10.out.size))
  clear hb11 he10 hB10 ha2
  go_wp2_with fail
  refine (Awake_any _ he11.out).mono ?_
  rintro e w12 ⟨rfl, hb12⟩
  have hB12 := hide (hB11.out.trans (hb12.mono hB11.out.size))
  clear hb12
  go_wp2
  go_ret
  exact ⟨rfl, hB12.out⟩
end Go.Proofs.YtjfdfhnfcpfmcaaGreatDoor
