/-
  The law ClassInverse returns true.
-/
import Derived.Test.YtjfdfhnfcpfmcaaGreatDoorMj
namespace Go.Proofs.YtjfdfhnfcpfmcaaGreatDoor
open Go.RowKit RG
theorem before_any (y m d y' m' d' : Int) (w : World) : Calls Tryz.prog 49 #[.agg #[.int .i64 y, .int .i64 m, .int .i64 d], .agg #[.int .i64 y', .int .i64 m', .int .i64 d']] w fun e w' => e = .returned (.bool (decide (Cal.Bef y m d y' m' d'))) ∧ Below w.heap.size w w' := by
  have hb2 : ∀ A B : Obj, Below w.heap.size w ((w.alloc A).alloc B) := fun A B => ((Below.refl _ _).alloc (Nat.le_refl _) _).alloc (by simp) _
  replace hb2 := hide hb2
  by_cases h1 : y = y'
  · have b1 : ((y : Int) != y') = false := by simp [h1]
    by_cases h2 : m = m'
    · have b2 : ((m : Int) != m') = false := by simp [h2]
      have hf := hide (show decide (Cal.Bef y m d y' m' d') = decide (d < d') by unfold Cal.Bef; simp [h1, h2])
      clear h1 h2
      go_enter Tryz.func49, Tryz.ntmps49
      go_wp2
      go_ret
      exact ⟨ret_bool hf.out.symm, hb2.out _ _⟩
    · have b2 : ((m : Int) != m') = true := by simp [h2]
      have hf := hide (show decide (Cal.Bef y m d y' m' d') = decide (m < m') by unfold Cal.Bef; simp [h1, h2])
      clear h1 h2
      go_enter Tryz.func49, Tryz.ntmps49
      go_wp2
      go_ret
      exact ⟨ret_bool hf.out.symm, hb2.out _ _⟩
  · have b1 : ((y : Int) != y') = true := by simp [h1]
    have hf := hide (show decide (Cal.Bef y m d y' m' d') = decide (y < y') by unfold Cal.Bef; simp [h1])
    clear h1
    go_enter Tryz.func49, Tryz.ntmps49
    go_wp2
    go_ret
    exact ⟨ret_bool hf.out.symm, hb2.out _ _⟩
theorem Date_in (n : Int) (w : World) (he : Env w) (h0 : 0 ≤ n) (h1 : n ≤ 40000) :
    Calls Tryz.prog 22 #[.int .i64 n] w fun e w' => (∃ y m d, e = .returned (.tuple #[.agg #[.int .i64 y, .int .i64 m, .int .i64 d], .int .i64 0]) ∧ Cal.DateIs n y m d) ∧ Below w.heap.size w w' :=
  Date_yes n w he (inB_iff.2 ⟨h0, h1⟩)
theorem dateIs_wide {n y m d : Int} (h : Cal.DateIs n y m d) (h1 : n ≤ 40000) : -9223372036854775808 ≤ y ∧ y ≤ 9223372036854775807 := by
  have := Cal.dateIs_bd h h1
  have := h.1
  omega
set_option maxRecDepth 100000 in
set_option maxHeartbeats 4000000 in
theorem Inverse_any (x0 x1 Y M D : Int) (w : World) (he : Env w) (h0 : 0 ≤ x0 ∧ x0 ≤ 65535) (h1 : 0 ≤ x1 ∧ x1 ≤ 65535) (hY : -9223372036854775808 ≤ Y ∧ Y ≤ 9223372036854775807) :
    Calls Tryz.prog 9 #[.agg #[.int .u16 x0, .int .u16 x1], .agg #[.int .i64 Y, .int .i64 M, .int .i64 D]] w fun e w' => e = .returned (.bool true) ∧ Below w.heap.size w w' := by
  obtain ⟨h00, h01⟩ := h0
  obtain ⟨h10, h11⟩ := h1
  replace he := hide he
  replace hY := hide hY
  go_enter Tryz.func9, Tryz.ntmps9
  go_wp2
  go_quiet (fail)
  go_wp2_with fail
  have hB0 : Below w.heap.size w (((w.alloc (.cells #[.int .u16 x0, .int .u16 x1] 68)).alloc (.cells #[.int .i64 Y, .int .i64 M, .int .i64 D] 23)).drewN nq) := below_drewN (((Below.refl _ _).alloc (Nat.le_refl _) _).alloc (by simp) _) nq
  have hD0 : Blk (((w.alloc (.cells #[.int .u16 x0, .int .u16 x1] 68)).alloc (.cells #[.int .i64 Y, .int .i64 M, .int .i64 D] 23)).drewN nq) (w.heap.size + 1) 23 #[.int .i64 Y, .int .i64 M, .int .i64 D] := Blk.drewN (Blk.new_ (by simp)) nq
  have he0 := hide (he.out.below hB0 he.out.size)
  generalize (((w.alloc (.cells #[.int .u16 x0, .int .u16 x1] 68)).alloc (.cells #[.int .i64 Y, .int .i64 M, .int .i64 D] 23)).drewN nq) = w0 at *
  generalize w.heap.size + 1 = gd at *
  replace hB0 := hide hB0
  replace hD0 := hide hD0
  have a0 : 0 ≤ x0 % 40001 ∧ x0 % 40001 ≤ 40000 := by omega
  have b0 : 0 ≤ x1 % 40001 ∧ x1 % 40001 ≤ 40000 := by omega
  generalize x0 % 40001 = a at *
  generalize x1 % 40001 = b at *
  obtain ⟨a00, a01⟩ := a0
  obtain ⟨b00, b01⟩ := b0
  clear h00 h01 h10 h11 he
  refine (Date_in a _ he0.out a00 a01).mono ?_
  rintro e w1 ⟨⟨y, m, d, rfl, hd⟩, hb1⟩
  have he1 := hide (he0.out.below hb1 he0.out.size)
  have hB1 := hide (hB0.out.trans (hb1.mono hB0.out.size))
  have hD1 := hide (hD0.out.below hb1 hD0.out.lt)
  replace hd := hide hd
  clear hb1 he0 hB0 hD0
  go_wp2_with fail
  have hb2 : Below w1.heap.size w1 (w1.alloc (.cells #[.int .i64 y, .int .i64 m, .int .i64 d] 23)) := (Below.refl _ _).alloc (Nat.le_refl _) _
  have he2 := hide (he1.out.below hb2 he1.out.size)
  have hB2 := hide (hB1.out.trans (hb2.mono hB1.out.size))
  have hD2 := hide (hD1.out.below hb2 hD1.out.lt)
  have hP2 := hide (Blk.new w1 23 #[.int .i64 y, .int .i64 m, .int .i64 d])
  clear hb2 he1 hB1 hD1
  generalize w1.alloc (.cells #[.int .i64 y, .int .i64 m, .int .i64 d] 23) = w2 at *
  generalize w1.heap.size = gp at *
  refine (Date_in b _ he2.out b00 b01).mono ?_
  rintro e w3 ⟨⟨y', m', d', rfl, hd'⟩, hb3⟩
  have he3 := hide (he2.out.below hb3 he2.out.size)
  have hB3 := hide (hB2.out.trans (hb3.mono hB2.out.size))
  have hD3 := hide (hD2.out.below hb3 hD2.out.lt)
  have hP3 := hide (hP2.out.below hb3 hP2.out.lt)
  replace hd' := hide hd'
  clear hb3 he2 hB2 hD2 hP2
  have p0 : w3.cell? ⟨gp, 0, none⟩ = some (.int .i64 y) := hP3.out.cell 0
  have p1 : w3.cell? ⟨gp, 1, none⟩ = some (.int .i64 m) := hP3.out.cell 1
  have p2 : w3.cell? ⟨gp, 2, none⟩ = some (.int .i64 d) := hP3.out.cell 2
  have hlt := hP3.out.lt
  have hne : gp ≠ w3.heap.size := Nat.ne_of_lt hlt
  go_wp2_with fail
  clear p0 p1 p2 hne hlt
  have hb4 : Below w3.heap.size w3 (w3.alloc (.cells #[.int .i64 y', .int .i64 m', .int .i64 d'] 23)) := (Below.refl _ _).alloc (Nat.le_refl _) _
  have he4 := hide (he3.out.below hb4 he3.out.size)
  have hB4 := hide (hB3.out.trans (hb4.mono hB3.out.size))
  have hD4 := hide (hD3.out.below hb4 hD3.out.lt)
  have hP4 := hide (hP3.out.below hb4 hP3.out.lt)
  clear hb4 he3 hB3 hD3 hP3
  generalize w3.alloc (.cells #[.int .i64 y', .int .i64 m', .int .i64 d'] 23) = w4 at *
  generalize w3.heap.size = gq at *
  refine (before_any y m d y' m' d' _).mono ?_
  rintro e w5 ⟨rfl, hb5⟩
  rw [show decide (Cal.Bef y m d y' m' d') = decide (a < b) by rw [decide_eq_decide]; exact (Cal.dateIs_bef hd.out hd'.out).symm]
  have he5 := hide (he4.out.below hb5 he4.out.size)
  have hB5 := hide (hB4.out.trans (hb5.mono hB4.out.size))
  have hD5 := hide (hD4.out.below hb5 hD4.out.lt)
  have hP5 := hP4.out.below hb5 hP4.out.lt
  clear hb5 he4 hB4 hD4 hP4 hd'
  have p0 : w5.cell? ⟨gp, 0, none⟩ = some (.int .i64 y) := hP5.cell 0
  have p1 : w5.cell? ⟨gp, 1, none⟩ = some (.int .i64 m) := hP5.cell 1
  have p2 : w5.cell? ⟨gp, 2, none⟩ = some (.int .i64 d) := hP5.cell 2
  replace hP5 := hide hP5
  go_wp2_with fail
  have hday := Day_any y m d w5 he5.out (dateIs_wide hd.out a01)
  rw [Cal.dateIs_day hd.out a01] at hday
  simp only at hday
  refine hday.mono ?_
  clear hday
  rintro e w6 ⟨rfl, hb6⟩
  have he6 := hide (he5.out.below hb6 he5.out.size)
  have hB6 := hide (hB5.out.trans (hb6.mono hB5.out.size))
  have hD6 := hD5.out.below hb6 hD5.out.lt
  clear hb6 he5 hB5 hD5 hP5 hd p0 p1 p2
  have p0 : w6.cell? ⟨gd, 0, none⟩ = some (.int .i64 Y) := hD6.cell 0
  have p1 : w6.cell? ⟨gd, 1, none⟩ = some (.int .i64 M) := hD6.cell 1
  have p2 : w6.cell? ⟨gd, 2, none⟩ = some (.int .i64 D) := hD6.cell 2
  replace hD6 := hide hD6
  go_wp2_with fail
  clear p0 p1 p2
  have hday := Day_any Y M D w6 he6.out hY.out
  obtain ⟨q, hq⟩ : ∃ q, Cal.dayF Y M D = q := ⟨_, rfl⟩
  have hnum := Cal.dayF_num Y M D
  rw [hq] at hday hnum
  obtain ⟨n, x⟩ := q
  simp only at hday hnum
  replace hq := hide hq
  obtain ⟨n0, n1, nz, x0', x1'⟩ := hnum
  refine hday.mono ?_
  clear hday
  rintro e w7 ⟨rfl, hb7⟩
  have he7 := hide (he6.out.below hb7 he6.out.size)
  have hB7 := hide (hB6.out.trans (hb7.mono hB6.out.size))
  have hD7 := hide (hD6.out.below hb7 hD6.out.lt)
  clear hb7 he6 hB6 hD6
  by_cases hx : x = 0
  · obtain rfl : 0 = x := hx.symm
    clear hx nz x0' x1'
    have hd := hide (Cal.dayF_date hq.out).1
    clear hq
    go_wp2_with fail
    refine (Date_in n _ he7.out n0 n1).mono ?_
    rintro e w8 ⟨⟨y2, m2, d2, rfl, hd2⟩, hb8⟩
    obtain ⟨e1, e2, e3⟩ := Cal.dateIs_uniq hd2 hd.out
    subst e1 e2 e3
    have he8 := he7.out.below hb8 he7.out.size
    have hB8 := hB7.out.trans (hb8.mono hB7.out.size)
    have hD8 := hD7.out.below hb8 hD7.out.lt
    clear hb8 he7 hB7 hD7 hd2 hd
    have hb9 : Below w8.heap.size w8 (w8.alloc (.cells #[.int .i64 y2, .int .i64 m2, .int .i64 d2] 23)) := (Below.refl _ _).alloc (Nat.le_refl _) _
    have he9 := hide (he8.below hb9 he8.size)
    have hB9 := hide (hB8.trans (hb9.mono hB8.size))
    have p0 : w8.cell? ⟨gd, 0, none⟩ = some (.int .i64 y2) := hD8.cell 0
    have p1 : w8.cell? ⟨gd, 1, none⟩ = some (.int .i64 m2) := hD8.cell 1
    have p2 : w8.cell? ⟨gd, 2, none⟩ = some (.int .i64 d2) := hD8.cell 2
    have hlt := hD8.lt
    have hne : gd ≠ w8.heap.size := Nat.ne_of_lt hlt
    have heq := fun W => eqDate y2 m2 d2 y2 m2 d2 W
    simp only [beq_self_eq_true, Bool.and_self] at heq
    clear he8 hB8 hD8 hb9
    go_wp2_with fail
    clear p0 p1 p2
    refine (Awake_any _ he9.out).mono ?_
    rintro e w10 ⟨rfl, hb10⟩
    have hB10 := hide (hB9.out.trans (hb10.mono hB9.out.size))
    clear hb10
    go_wp2
    go_ret
    exact ⟨rfl, hB10.out⟩
  · have hxb : ((x : Int) != 0) = true := by simp [hx]
    obtain rfl : 0 = n := (nz hx).symm
    clear hx nz
    go_wp2_with fail
    refine (Awake_any _ he7.out).mono ?_
    rintro e w8 ⟨rfl, hb8⟩
    have hB8 := hide (hB7.out.trans (hb8.mono hB7.out.size))
    clear hb8
    go_wp2
    go_ret
    exact ⟨rfl, hB8.out⟩
end Go.Proofs.YtjfdfhnfcpfmcaaGreatDoor
