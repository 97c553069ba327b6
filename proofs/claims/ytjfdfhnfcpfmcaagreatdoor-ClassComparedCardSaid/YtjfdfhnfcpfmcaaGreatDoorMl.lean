import Derived.Test.YtjfdfhnfcpfmcaaGreatDoorMb
import Derived.Test.YtjfdfhnfcpfmcaaGreatDoorMa
import Derived.Test.YtjfdfhnfcpfmcaaGreatDoorMi
import Derived.Test.YtjfdfhnfcpfmcaaGreatDoorMc
/-
  Plus and Age, of a day with a known date.
-/
namespace Go.Proofs.YtjfdfhnfcpfmcaaGreatDoor
open Go.RowKit RG

/-- What Plus returns, of a day with a known date. -/
theorem Plus_v (n y m d years months : Int) (w : World) (he : Env w) (hd : Cal.DateIs n y m d) (h0 : 0 ≤ n) (h1 : n ≤ 40000) (h2 : 0 ≤ years ∧ years ≤ 100) (h3 : 0 ≤ months ∧ months ≤ 1200) :
    Calls Tryz.prog 24 #[.int .i64 n, .int .i64 years, .int .i64 months] w fun e w' =>
      e = .returned (.tuple #[.int .i64 (if Cal.pN y m d years months ≤ 40000 then Cal.pN y m d years months else 0), .int .i64 (if Cal.pN y m d years months ≤ 40000 then 0 else 7)]) ∧ Below w.heap.size w w' := by
  refine (Plus_any n years months w he).mono ?_
  rintro e w' ⟨⟨a, x, rfl, hp⟩, hb⟩
  rcases Cal.plusR_val hd h1 h0 h2 h3 hp with ⟨g1, rfl, rfl⟩ | ⟨g1, rfl, rfl⟩
  · rw [if_pos g1, if_pos g1]; exact ⟨rfl, hb⟩
  · rw [if_neg (by omega), if_neg (by omega)]; exact ⟨rfl, hb⟩
theorem Age_v (n y m d day : Int) (w : World) (he : Env w) (hd : Cal.DateIs n y m d) (h0 : 0 ≤ n) (h1 : n ≤ day) (h2 : day ≤ 40000) :
    Calls Tryz.prog 26 #[.int .i64 n, .int .i64 day] w fun e w' => (∃ a, e = .returned (.tuple #[.int .i64 a, .int .i64 0]) ∧ Cal.AgeIs y m d day a) ∧ Below w.heap.size w w' := by
  refine (Age_any n day w he).mono ?_
  rintro e w' ⟨⟨a, x, rfl, hp⟩, hb⟩
  obtain ⟨rfl, hA⟩ := Cal.ageR_val hd h0 h1 h2 hp
  exact ⟨⟨a, rfl, hA⟩, hb⟩
theorem Age_is (n y m d day a : Int) (w : World) (he : Env w) (hd : Cal.DateIs n y m d) (h0 : 0 ≤ n) (h1 : n ≤ day) (h2 : day ≤ 40000) (ha : Cal.AgeIs y m d day a) :
    Calls Tryz.prog 26 #[.int .i64 n, .int .i64 day] w fun e w' => e = .returned (.tuple #[.int .i64 a, .int .i64 0]) ∧ Below w.heap.size w w' := by
  refine (Age_v n y m d day w he hd h0 h1 h2).mono ?_
  rintro e w' ⟨⟨a', rfl, hA⟩, hb⟩
  obtain rfl := Cal.ageIs_uniq hd ha hA
  exact ⟨rfl, hb⟩
end Go.Proofs.YtjfdfhnfcpfmcaaGreatDoor

/-
  The reference's calendar: Long, next, begin, Day and date.
-/
namespace Go.Proofs.YtjfdfhnfcpfmcaaGreatDoor
open Go.RowKit RG

theorem leap_ref {y : Int} (h : y.tmod 400 = 0) : Cal.leapB y = true := Cal.leapB_yes (.inr h)
theorem leap_ref2 {y : Int} (h : ¬ y.tmod 400 = 0) (h4 : ¬ y.tmod 4 = 0) : Cal.leapB y = false := by
  rw [Cal.leapB_mid (y := y) (fun h' => h4 h'.1)]; simpa using h
theorem leap_ref3 {y : Int} (h : ¬ y.tmod 400 = 0) (h1 : y.tmod 100 = 0) : Cal.leapB y = false := by
  rw [Cal.leapB_mid (y := y) (fun h' => h'.2 h1)]; simpa using h
theorem leap_ref4 {y : Int} (h4 : y.tmod 4 = 0) (h1 : ¬ y.tmod 100 = 0) : Cal.leapB y = true := Cal.leapB_yes (.inl ⟨h4, h1⟩)
set_option maxHeartbeats 2000000 in
theorem Long_any (y m : Int) (w : World) (h1 : 1 ≤ m) (h2 : m ≤ 12) : Calls Tryz.prog 60 #[.int .i64 y, .int .i64 m] w fun e w' => e = .returned (.int .i64 (Cal.dim y m)) ∧ w = w' := by
  rcases (show m = 2 ∨ m = 1 ∨ m = 3 ∨ m = 4 ∨ m = 5 ∨ m = 6 ∨ m = 7 ∨ m = 8 ∨ m = 9 ∨ m = 10 ∨ m = 11 ∨ m = 12 by omega) with rfl | rfl | rfl | rfl | rfl | rfl | rfl | rfl | rfl | rfl | rfl | rfl
  · by_cases c1 : y.tmod 400 = 0
    · have b1 : (y.tmod 400 == 0) = true := by simp [c1]
      have hf := hide (show Cal.dim y 2 = 29 by simp [Cal.dim, leap_ref c1])
      clear c1
      go_enter Tryz.func60, Tryz.ntmps60
      go_wp2
      go_ret
      exact ⟨ret_int hf.out.symm, rfl⟩
    · have b1 : (y.tmod 400 == 0) = false := by simp [c1]
      by_cases c2 : y.tmod 4 = 0
      · have b2 : (y.tmod 4 == 0) = true := by simp [c2]
        by_cases c3 : y.tmod 100 = 0
        · have b3 : (y.tmod 100 != 0) = false := by simp [c3]
          have hf := hide (show Cal.dim y 2 = 28 by simp [Cal.dim, Cal.monthTab, leap_ref3 c1 c3])
          clear c1 c2 c3
          go_enter Tryz.func60, Tryz.ntmps60
          go_wp2
          go_ret
          exact ⟨ret_int hf.out.symm, rfl⟩
        · have b3 : (y.tmod 100 != 0) = true := by simp [c3]
          have hf := hide (show Cal.dim y 2 = 29 by simp [Cal.dim, leap_ref4 c2 c3])
          clear c1 c2 c3
          go_enter Tryz.func60, Tryz.ntmps60
          go_wp2
          go_ret
          exact ⟨ret_int hf.out.symm, rfl⟩
      · have b2 : (y.tmod 4 == 0) = false := by simp [c2]
        have hf := hide (show Cal.dim y 2 = 28 by simp [Cal.dim, Cal.monthTab, leap_ref2 c1 c2])
        clear c1 c2
        go_enter Tryz.func60, Tryz.ntmps60
        go_wp2
        go_ret
        exact ⟨ret_int hf.out.symm, rfl⟩
  all_goals
    go_enter Tryz.func60, Tryz.ntmps60
    go_wp2
    go_ret
    exact ⟨ret_int (by simp [Cal.dim, Cal.monthTab]), rfl⟩

theorem begin_any (y : Int) (w : World) (h1 : 2000 ≤ y) (h2 : y ≤ 2300) : Calls Tryz.prog 61 #[.int .i64 y] w fun e w' => e = .returned (.int .i64 (Cal.sumY (y - 2000).toNat)) ∧ w = w' := by
  go_enter Tryz.func61, Tryz.ntmps61
  go_wp2
  go_loop [3, 4] (fun s i => ∃ n : Nat, 2000 + (n : Int) ≤ y ∧ i = .int .i64 (2000 + n) ∧ s = .int .i64 (Cal.sumY n)) (fun _ i => (y - intOf i).toNat)
  case atStart => exact ⟨0, by omega, rfl, rfl⟩
  case round =>
    obtain ⟨n, hn, rfl, rfl⟩ := hrel
    have g := Cal.sumY_ge n
    have g1 := Cal.dim_bd (2000 + n) 2 (by omega) (by omega)
    have g2 : Cal.diy (2000 + n) = 337 + Cal.dim (2000 + n) 2 := by
      unfold Cal.diy Cal.dim; by_cases hl : Cal.leapB (2000 + n) = true <;> simp [hl, Cal.monthTab]
    by_cases hc : 2000 + (n : Int) < y
    · have hs : Cal.sumY (n + 1) = Cal.sumY n + 337 + Cal.dim (2000 + n) 2 := by simp only [Cal.sumY]; omega
      replace hs := hide hs
      replace g2 := hide g2
      go_wp2_with (go_at_call 60; refine (Long_any _ _ _ (by omega) (by omega)).mono ?_; rintro e w' ⟨rfl, rfl⟩)
      go_round
      case rel => exact ⟨n + 1, by omega, by go_num, by rw [hs.out]⟩
      case measure => simp [intOf]; omega
    · have he : (y - 2000).toNat = n := by omega
      replace he := hide he
      replace g2 := hide g2
      go_wp2
      go_ret
      exact ⟨ret_int (by rw [he.out]), rfl⟩

/-- The next date. -/
def nextF (y m d : Int) : Int × Int × Int := if d + 1 ≤ Cal.dim y m then (y, m, d + 1) else if m + 1 ≤ 12 then (y, m + 1, 1) else (y + 1, 1, 1)
theorem nextF_date {n y m d : Int} (h : Cal.DateIs n y m d) : Cal.DateIs (n + 1) (nextF y m d).1 (nextF y m d).2.1 (nextF y m d).2.2 := by
  have h5 := h.2.2.2.2.1
  have h3 := h.2.2.1
  unfold nextF
  by_cases c1 : d + 1 ≤ Cal.dim y m
  · rw [if_pos c1]; show Cal.DateIs (n + 1) y m (d + 1); exact Cal.dateIs_more h (by omega)
  · rw [if_neg c1]
    by_cases c2 : m + 1 ≤ 12
    · rw [if_pos c2]; show Cal.DateIs (n + 1) y (m + 1) 1; exact Cal.dateIs_month h (by omega) (by omega)
    · rw [if_neg c2]; show Cal.DateIs (n + 1) (y + 1) 1 1; exact Cal.dateIs_newYear h (by omega) (by omega)
set_option maxRecDepth 100000 in
set_option maxHeartbeats 2000000 in
theorem next_any (y m d : Int) (w : World) (h1 : 1 ≤ m) (h2 : m ≤ 12) (hy : 0 ≤ y ∧ y ≤ 3000) (hd : 0 ≤ d ∧ d ≤ 31) :
    Calls Tryz.prog 95 #[.agg #[.int .i64 y, .int .i64 m, .int .i64 d]] w fun e w' => e = .returned (.agg #[.int .i64 (nextF y m d).1, .int .i64 (nextF y m d).2.1, .int .i64 (nextF y m d).2.2]) ∧ Below w.heap.size w w' := by
  obtain ⟨hy0, hy1⟩ := hy
  obtain ⟨hd0, hd1⟩ := hd
  have hb := Cal.dim_bd y m h1 h2
  by_cases c1 : d + 1 ≤ Cal.dim y m
  · rw [show nextF y m d = (y, m, d + 1) by unfold nextF; rw [if_pos c1]]
    go_enter Tryz.func95, Tryz.ntmps95
    go_wp2
    go_quiet ((go_at_call 60; exact quiet_left (Long_any _ _ _ h1 h2)))
    have hP : Blk (((w.alloc (.cells #[.int .i64 y, .int .i64 m, .int .i64 (d + 1)] 23)).alloc (.cells #[.int .i64 0, .int .i64 0, .int .i64 0] 23)).drewN nq) w.heap.size 23 #[.int .i64 y, .int .i64 m, .int .i64 (d + 1)] := Blk.drewN ((Blk.new_ rfl).alloc _) nq
    have hR : Blk (((w.alloc (.cells #[.int .i64 y, .int .i64 m, .int .i64 (d + 1)] 23)).alloc (.cells #[.int .i64 0, .int .i64 0, .int .i64 0] 23)).drewN nq) (w.heap.size + 1) 23 #[.int .i64 0, .int .i64 0, .int .i64 0] := Blk.drewN (Blk.new_ (by simp)) nq
    have hB : Below w.heap.size w (((w.alloc (.cells #[.int .i64 y, .int .i64 m, .int .i64 (d + 1)] 23)).alloc (.cells #[.int .i64 0, .int .i64 0, .int .i64 0] 23)).drewN nq) := below_drewN (((Below.refl _ _).alloc (Nat.le_refl _) _).alloc (by simp) _) nq
    generalize (((w.alloc (.cells #[.int .i64 y, .int .i64 m, .int .i64 (d + 1)] 23)).alloc (.cells #[.int .i64 0, .int .i64 0, .int .i64 0] 23)).drewN nq) = W at *
    have hz : w.heap.size + 1 < W.heap.size := hR.lt
    have c0 : W.cell? ⟨w.heap.size, 0, none⟩ = some (.int .i64 y) := hP.cell 0
    have c1' : W.cell? ⟨w.heap.size, 1, none⟩ = some (.int .i64 m) := hP.cell 1
    have c2' : W.cell? ⟨w.heap.size, 2, none⟩ = some (.int .i64 (d + 1)) := hP.cell 2
    have f0 := hP.frozen 0
    have f1 := hP.frozen 1
    have f2 := hP.frozen 2
    have r0 : W.cell? ⟨w.heap.size + 1, 0, none⟩ = some (.int .i64 0) := hR.cell 0
    have r1 : W.cell? ⟨w.heap.size + 1, 1, none⟩ = some (.int .i64 0) := hR.cell 1
    have r2 : W.cell? ⟨w.heap.size + 1, 2, none⟩ = some (.int .i64 0) := hR.cell 2
    have rf0 := hR.frozen 0
    have rf1 := hR.frozen 1
    have rf2 := hR.frozen 2
    replace hB := hide hB
    clear hP hR
    go_wp2
    refine bodyPost_ret (v := .agg #[.int .i64 y, .int .i64 m, .int .i64 (d + 1)]) (by simp [results, Tryz.results95, go_sem, r0, r1, r2]) rfl ⟨rfl, ?_⟩
    replace hB := hB.out
    exact (((hB.setCell (by simp) _).setCell (by simp) _).setCell (by simp) _)
  · by_cases c2 : m + 1 ≤ 12
    · rw [show nextF y m d = (y, m + 1, 1) by unfold nextF; rw [if_neg c1, if_pos c2]]
      go_enter Tryz.func95, Tryz.ntmps95
      go_wp2
      go_quiet ((go_at_call 60; exact quiet_left (Long_any _ _ _ h1 h2)))
      have hP : Blk (((w.alloc (.cells #[.int .i64 y, .int .i64 m, .int .i64 (d + 1)] 23)).alloc (.cells #[.int .i64 0, .int .i64 0, .int .i64 0] 23)).drewN nq) w.heap.size 23 #[.int .i64 y, .int .i64 m, .int .i64 (d + 1)] := Blk.drewN ((Blk.new_ rfl).alloc _) nq
      have hR : Blk (((w.alloc (.cells #[.int .i64 y, .int .i64 m, .int .i64 (d + 1)] 23)).alloc (.cells #[.int .i64 0, .int .i64 0, .int .i64 0] 23)).drewN nq) (w.heap.size + 1) 23 #[.int .i64 0, .int .i64 0, .int .i64 0] := Blk.drewN (Blk.new_ (by simp)) nq
      have hB : Below w.heap.size w (((w.alloc (.cells #[.int .i64 y, .int .i64 m, .int .i64 (d + 1)] 23)).alloc (.cells #[.int .i64 0, .int .i64 0, .int .i64 0] 23)).drewN nq) := below_drewN (((Below.refl _ _).alloc (Nat.le_refl _) _).alloc (by simp) _) nq
      generalize (((w.alloc (.cells #[.int .i64 y, .int .i64 m, .int .i64 (d + 1)] 23)).alloc (.cells #[.int .i64 0, .int .i64 0, .int .i64 0] 23)).drewN nq) = W at *
      have hz : w.heap.size + 1 < W.heap.size := hR.lt
      have c0 : W.cell? ⟨w.heap.size, 0, none⟩ = some (.int .i64 y) := hP.cell 0
      have c1' : W.cell? ⟨w.heap.size, 1, none⟩ = some (.int .i64 m) := hP.cell 1
      have c2' : W.cell? ⟨w.heap.size, 2, none⟩ = some (.int .i64 (d + 1)) := hP.cell 2
      have f0 := hP.frozen 0
      have f1 := hP.frozen 1
      have f2 := hP.frozen 2
      have r0 : W.cell? ⟨w.heap.size + 1, 0, none⟩ = some (.int .i64 0) := hR.cell 0
      have r1 : W.cell? ⟨w.heap.size + 1, 1, none⟩ = some (.int .i64 0) := hR.cell 1
      have r2 : W.cell? ⟨w.heap.size + 1, 2, none⟩ = some (.int .i64 0) := hR.cell 2
      have rf0 := hR.frozen 0
      have rf1 := hR.frozen 1
      have rf2 := hR.frozen 2
      replace hB := hide hB
      clear hP hR
      go_wp2
      refine bodyPost_ret (v := .agg #[.int .i64 y, .int .i64 (m + 1), .int .i64 1]) (by simp [results, Tryz.results95, go_sem, r0, r1, r2]) rfl ⟨rfl, ?_⟩
      replace hB := hB.out
      exact (((((hB.setCell (by simp) _).setCell (by simp) _).setCell (by simp) _).setCell (by simp) _).setCell (by simp) _)
    · rw [show nextF y m d = (y + 1, 1, 1) by unfold nextF; rw [if_neg c1, if_neg c2]]
      go_enter Tryz.func95, Tryz.ntmps95
      go_wp2
      go_quiet ((go_at_call 60; exact quiet_left (Long_any _ _ _ h1 h2)))
      have hP : Blk (((w.alloc (.cells #[.int .i64 y, .int .i64 m, .int .i64 (d + 1)] 23)).alloc (.cells #[.int .i64 0, .int .i64 0, .int .i64 0] 23)).drewN nq) w.heap.size 23 #[.int .i64 y, .int .i64 m, .int .i64 (d + 1)] := Blk.drewN ((Blk.new_ rfl).alloc _) nq
      have hR : Blk (((w.alloc (.cells #[.int .i64 y, .int .i64 m, .int .i64 (d + 1)] 23)).alloc (.cells #[.int .i64 0, .int .i64 0, .int .i64 0] 23)).drewN nq) (w.heap.size + 1) 23 #[.int .i64 0, .int .i64 0, .int .i64 0] := Blk.drewN (Blk.new_ (by simp)) nq
      have hB : Below w.heap.size w (((w.alloc (.cells #[.int .i64 y, .int .i64 m, .int .i64 (d + 1)] 23)).alloc (.cells #[.int .i64 0, .int .i64 0, .int .i64 0] 23)).drewN nq) := below_drewN (((Below.refl _ _).alloc (Nat.le_refl _) _).alloc (by simp) _) nq
      generalize (((w.alloc (.cells #[.int .i64 y, .int .i64 m, .int .i64 (d + 1)] 23)).alloc (.cells #[.int .i64 0, .int .i64 0, .int .i64 0] 23)).drewN nq) = W at *
      have hz : w.heap.size + 1 < W.heap.size := hR.lt
      have c0 : W.cell? ⟨w.heap.size, 0, none⟩ = some (.int .i64 y) := hP.cell 0
      have c1' : W.cell? ⟨w.heap.size, 1, none⟩ = some (.int .i64 m) := hP.cell 1
      have c2' : W.cell? ⟨w.heap.size, 2, none⟩ = some (.int .i64 (d + 1)) := hP.cell 2
      have f0 := hP.frozen 0
      have f1 := hP.frozen 1
      have f2 := hP.frozen 2
      have r0 : W.cell? ⟨w.heap.size + 1, 0, none⟩ = some (.int .i64 0) := hR.cell 0
      have r1 : W.cell? ⟨w.heap.size + 1, 1, none⟩ = some (.int .i64 0) := hR.cell 1
      have r2 : W.cell? ⟨w.heap.size + 1, 2, none⟩ = some (.int .i64 0) := hR.cell 2
      have rf0 := hR.frozen 0
      have rf1 := hR.frozen 1
      have rf2 := hR.frozen 2
      replace hB := hide hB
      replace hP := hide hP
      replace hR := hide hR
      go_upto_region 6 with (fail)
      have hP2 := (hP.out.set_ 2 (.int .i64 1)).set_ 1 (.int .i64 (m + 1))
      have hR2 := (hR.out.far (p := ⟨w.heap.size, 2, none⟩) (by simp) (.int .i64 1)).far (p := ⟨w.heap.size, 1, none⟩) (by simp) (.int .i64 (m + 1))
      have hB2 := (hB.out.setCell (p := ⟨w.heap.size, 2, none⟩) (by simp) (.int .i64 1)).setCell (p := ⟨w.heap.size, 1, none⟩) (by simp) (.int .i64 (m + 1))
      simp only [List.setIfInBounds_toArray, List.set_cons_succ, List.set_cons_zero] at hP2
      clear hP hR hB c0 c1' c2' f0 f1 f2 r0 r1 r2 rf0 rf1 rf2
      generalize (W.setCell ⟨w.heap.size, 2, none⟩ (.int .i64 1)).setCell ⟨w.heap.size, 1, none⟩ (.int .i64 (m + 1)) = W2 at *
      have c0 : W2.cell? ⟨w.heap.size, 0, none⟩ = some (.int .i64 y) := hP2.cell 0
      have c1' : W2.cell? ⟨w.heap.size, 1, none⟩ = some (.int .i64 (m + 1)) := hP2.cell 1
      have c2' : W2.cell? ⟨w.heap.size, 2, none⟩ = some (.int .i64 1) := hP2.cell 2
      have f0 := hP2.frozen 0
      have f1 := hP2.frozen 1
      have f2 := hP2.frozen 2
      have r0 : W2.cell? ⟨w.heap.size + 1, 0, none⟩ = some (.int .i64 0) := hR2.cell 0
      have r1 : W2.cell? ⟨w.heap.size + 1, 1, none⟩ = some (.int .i64 0) := hR2.cell 1
      have r2 : W2.cell? ⟨w.heap.size + 1, 2, none⟩ = some (.int .i64 0) := hR2.cell 2
      have rf0 := hR2.frozen 0
      have rf1 := hR2.frozen 1
      have rf2 := hR2.frozen 2
      replace hB2 := hide hB2
      clear hP2 hR2
      go_wp2
      refine bodyPost_ret (v := .agg #[.int .i64 (y + 1), .int .i64 1, .int .i64 1]) (by simp [results, Tryz.results95, go_sem, r0, r1, r2]) rfl ⟨rfl, ?_⟩
      replace hB := hB2.out
      exact (((((hB.setCell (by simp) _).setCell (by simp) _).setCell (by simp) _).setCell (by simp) _).setCell (by simp) _)

theorem begin_date (k : Nat) : Cal.DateIs (Cal.sumY k) (2000 + k) 1 1 := by
  have := Cal.dim_bd (2000 + k) 1 (by omega) (by omega)
  refine ⟨by omega, by omega, by omega, by omega, by omega, ?_⟩
  unfold Cal.num
  rw [show ((2000 : Int) + k - 2000).toNat = k by omega]
  have e2 : ((1 : Int).toNat - 1) = 0 := rfl
  rw [e2]
  simp only [Cal.cumM]
  omega
set_option maxRecDepth 100000 in
set_option maxHeartbeats 4000000 in
theorem date_any (n : Int) (w : World) (h0 : 0 ≤ n) (h1 : n ≤ 40000) :
    Calls Tryz.prog 63 #[.int .i64 n] w fun e w' => DateRes n e ∧ Below w.heap.size w w' := by
  go_enter Tryz.func63, Tryz.ntmps63
  go_wp2
  go_loop [3] (fun i => ∃ k : Nat, i = .int .i64 (2000 + k) ∧ Cal.sumY k ≤ n) (fun i => (2200 - intOf i).toNat)
  case atStart => exact ⟨0, rfl, by simp [Cal.sumY]; omega⟩
  case round =>
    obtain ⟨k, rfl, hs⟩ := hrel
    have g := Cal.sumY_ge k
    have e1 : ((2000 : Int) + k + 1 - 2000).toNat = k + 1 := by omega
    have e0 : ((2000 : Int) + k - 2000).toNat = k := by omega
    replace e1 := hide e1
    replace e0 := hide e0
    by_cases hc : Cal.sumY (k + 1) ≤ n
    · go_wp2_with fail
      refine (begin_any _ _ (by omega) (by omega)).mono ?_
      rintro e w' ⟨rfl, rfl⟩
      rw [e1.out]
      go_wp2
      go_round
      case rel => exact ⟨k + 1, by go_num, hc⟩
      case measure => simp [intOf]; omega
    · go_wp2_with fail
      refine (begin_any _ _ (by omega) (by omega)).mono ?_
      rintro e w' ⟨rfl, rfl⟩
      rw [e1.out]
      go_wp2_with fail
      refine (begin_any _ _ (by omega) (by omega)).mono ?_
      rintro e w' ⟨rfl, rfl⟩
      rw [e0.out]
      go_wp2
      clear hc e1 e0
      have hbd := begin_date k
      have hP := Blk.new_ (w := w.alloc (.cells #[.int .i64 0, .int .i64 0, .int .i64 0] 23)) (g := w.heap.size + 1) (t := 23) (cs := #[.int .i64 (2000 + k), .int .i64 1, .int .i64 1]) (by simp)
      have hR := (Blk.new_ (w := w) (g := w.heap.size) (t := 23) (cs := #[.int .i64 0, .int .i64 0, .int .i64 0]) rfl).alloc (.cells #[.int .i64 (2000 + k), .int .i64 1, .int .i64 1] 23)
      have hB : Below w.heap.size w ((w.alloc (.cells #[.int .i64 0, .int .i64 0, .int .i64 0] 23)).alloc (.cells #[.int .i64 (2000 + k), .int .i64 1, .int .i64 1] 23)) := ((Below.refl _ _).alloc (Nat.le_refl _) _).alloc (by simp) _
      generalize ((w.alloc (.cells #[.int .i64 0, .int .i64 0, .int .i64 0] 23)).alloc (.cells #[.int .i64 (2000 + k), .int .i64 1, .int .i64 1] 23)) = W at *
      replace hP := hide hP
      replace hR := hide hR
      replace hB := hide hB
      replace hbd := hide hbd
      go_loopg [5] (n - Cal.sumY k).toNat (fun gg i wr => ∃ (j y m d : Int), i = .int .i64 j ∧ 0 ≤ j ∧ j ≤ n ∧ (n - j).toNat ≤ gg ∧ Hid (Cal.DateIs j y m d) ∧ Hid (Below w.heap.size w wr) ∧ Hid (Blk wr (w.heap.size + 1) 23 #[.int .i64 y, .int .i64 m, .int .i64 d]) ∧ Hid (Blk wr w.heap.size 23 #[.int .i64 0, .int .i64 0, .int .i64 0]))
      case atStart => exact ⟨Cal.sumY k, 2000 + k, 1, 1, rfl, by omega, hs, by omega, hbd, hB, hP, hR⟩
      case round =>
        clear hP hR hB hbd
        obtain ⟨j, y, m, d, rfl, hj0, hj, hgg, hD, BW, PW, RW⟩ := hrel
        have p0 : wr.cell? ⟨w.heap.size + 1, 0, none⟩ = some (.int .i64 y) := PW.out.cell 0
        have p1 : wr.cell? ⟨w.heap.size + 1, 1, none⟩ = some (.int .i64 m) := PW.out.cell 1
        have p2 : wr.cell? ⟨w.heap.size + 1, 2, none⟩ = some (.int .i64 d) := PW.out.cell 2
        by_cases hlt : j < n
        · have hy2 := Cal.dateIs_bd hD.out (by omega)
          have ⟨a1, a2, a3, a4, _, _⟩ := hD.out
          go_wp2_with fail
          refine (next_any y m d _ a2 a3 (by omega) (by omega)).mono ?_
          rintro e w1 ⟨rfl, hb1⟩
          have hnx := hide (nextF_date hD.out)
          have PW1 := PW.out.below hb1 PW.out.lt
          have RW1 := RW.out.below hb1 RW.out.lt
          have BW1 := hide (BW.out.trans (hb1.mono BW.out.size))
          obtain ⟨⟨y', m', d'⟩, hq⟩ : ∃ q, nextF y m d = q := ⟨_, rfl⟩
          rw [hq] at hnx ⊢
          simp only at hnx ⊢
          clear hq hb1 BW PW RW p0 p1 p2 hD a1 a2 a3 a4 hy2
          have f0 := PW1.frozen 0
          have f1 := PW1.frozen 1
          have f2 := PW1.frozen 2
          have p0 : w1.cell? ⟨w.heap.size + 1, 0, none⟩ = some (.int .i64 y) := PW1.cell 0
          have p1 : w1.cell? ⟨w.heap.size + 1, 1, none⟩ = some (.int .i64 m) := PW1.cell 1
          have p2 : w1.cell? ⟨w.heap.size + 1, 2, none⟩ = some (.int .i64 d) := PW1.cell 2
          have PW2 := ((PW1.set_ 0 (.int .i64 y')).set_ 1 (.int .i64 m')).set_ 2 (.int .i64 d')
          simp only [List.setIfInBounds_toArray, List.set_cons_succ, List.set_cons_zero] at PW2
          have RW2 := hide (((RW1.far (p := ⟨w.heap.size + 1, 0, none⟩) (by simp) (.int .i64 y')).far (p := ⟨w.heap.size + 1, 1, none⟩) (by simp) (.int .i64 m')).far (p := ⟨w.heap.size + 1, 2, none⟩) (by simp) (.int .i64 d'))
          replace PW2 := hide PW2
          clear PW1 RW1
          go_wp2
          go_roundg (n - (j + 1)).toNat
          case measure => omega
          case rel => exact ⟨j + 1, y', m', d', rfl, by omega, by omega, by omega, hnx, ((BW1.out.setCell (by simp) _).setCell (by simp) _).setCell (by simp) _, PW2.out, RW2.out⟩
        · obtain rfl : j = n := by omega
          have r0 : wr.cell? ⟨w.heap.size, 0, none⟩ = some (.int .i64 0) := RW.out.cell 0
          have r1 : wr.cell? ⟨w.heap.size, 1, none⟩ = some (.int .i64 0) := RW.out.cell 1
          have r2 : wr.cell? ⟨w.heap.size, 2, none⟩ = some (.int .i64 0) := RW.out.cell 2
          have rf0 := RW.out.frozen 0
          have rf1 := RW.out.frozen 1
          have rf2 := RW.out.frozen 2
          go_wp2
          refine bodyPost_ret (v := .agg #[.int .i64 y, .int .i64 m, .int .i64 d]) (by simp [results, Tryz.results63, go_sem, r0, r1, r2]) rfl ⟨⟨y, m, d, rfl, hD.out⟩, ?_⟩
          exact ((BW.out.setCell (by simp) _).setCell (by simp) _).setCell (by simp) _
end Go.Proofs.YtjfdfhnfcpfmcaaGreatDoor

/-
  The reference's Day.
-/
namespace Go.Proofs.YtjfdfhnfcpfmcaaGreatDoor
open Go.RowKit RG

theorem tmod_400 (y : Int) : (if y.tmod 400 < 0 then y.tmod 400 + 400 else y.tmod 400) = y % 400 ∧ -400 < y.tmod 400 ∧ y.tmod 400 < 400 := by
  rcases Int.lt_or_le y 0 with h | h
  · have e : y.tmod 400 = -((-y) % 400) := by
      have h1 : (-y).tmod 400 = (-y) % 400 := Int.tmod_eq_emod_of_nonneg (by omega)
      have h2 : (-y).tmod 400 = -(y.tmod 400) := Int.neg_tmod ..
      omega
    rw [e]
    split <;> omega
  · have e : y.tmod 400 = y % 400 := Int.tmod_eq_emod_of_nonneg h
    rw [e]
    split <;> omega
theorem dim_mod (y m : Int) : Cal.dim (y % 400) m = Cal.dim y m := by
  have : Cal.leapB (y % 400) = Cal.leapB y := by
    rw [Bool.eq_iff_iff, Cal.leapB_iff, Cal.leapB_iff]; unfold Cal.leapP; omega
  unfold Cal.dim; rw [this]
theorem dayF_far {y m d : Int} (h : Cal.isDate y m d) (hy : 2200 < y) : Cal.dayF y m d = (0, 7) := by
  have h1 := Cal.cumM_ge y (m.toNat - 1) (by have := h.2.1; omega)
  have h2 := Cal.sumY_ge (y - 2000).toNat
  have h3 := h.2.2.1
  have h40 : 40000 < Cal.num y m d := by unfold Cal.num; omega
  unfold Cal.dayF
  rw [if_pos h, if_pos (.inr h40)]
set_option maxRecDepth 100000 in
set_option maxHeartbeats 4000000 in
theorem DayR_any (Y M D : Int) (w : World) :
    Calls Tryz.prog 19 #[.agg #[.int .i64 Y, .int .i64 M, .int .i64 D]] w fun e w' => e = .returned (.tuple #[.int .i64 (Cal.dayF Y M D).1, .int .i64 (Cal.dayF Y M D).2]) ∧ Below w.heap.size w w' := by
  have hB0 := hide ((Below.refl w.heap.size w).alloc (Nat.le_refl _) (.cells #[.int .i64 Y, .int .i64 M, .int .i64 D] 23))
  obtain ⟨q, hq⟩ : ∃ q, Cal.dayF Y M D = q := ⟨_, rfl⟩
  rw [hq]
  by_cases h1 : 1 ≤ M ∧ M ≤ 12
  · have hin1 : inB 1 12 M = true := inB_iff.2 h1
    by_cases h2 : D < 1 ∨ 31 < D
    · have hno : q = (0, 6) := by
        rw [← hq]; unfold Cal.dayF; rw [if_neg]; rintro ⟨_, _, h3, h4⟩
        have := Cal.dim_bd Y M h1.1 h1.2
        omega
      subst hno
      clear hq
      by_cases h3 : D < 1
      · go_enter Tryz.func19, Tryz.ntmps19
        go_wp2_with fail
        refine (in_any M 1 12 _).mono ?_
        rintro e w1 ⟨rfl, rfl⟩
        rw [hin1]
        go_wp2
        go_ret2
        exact ⟨rfl, hB0.out⟩
      · have h4 : 31 < D := by omega
        go_enter Tryz.func19, Tryz.ntmps19
        go_wp2_with fail
        refine (in_any M 1 12 _).mono ?_
        rintro e w1 ⟨rfl, rfl⟩
        rw [hin1]
        go_wp2
        go_ret2
        exact ⟨rfl, hB0.out⟩
    · have h3 : 1 ≤ D := by omega
      have h4 : D ≤ 31 := by omega
      clear h2
      obtain ⟨t1, t2, t3⟩ := tmod_400 Y
      have hdm := dim_mod Y M
      rw [← t1] at hdm
      clear t1
      have hbd := Cal.dim_bd Y M h1.1 h1.2
      obtain ⟨m1, m2⟩ := h1
      generalize hr : Y.tmod 400 = r at *
      obtain ⟨r', hr'⟩ : ∃ r', (if r < 0 then r + 400 else r) = r' := ⟨_, rfl⟩
      rw [hr'] at hdm
      replace hr := hide hr
      have hL := fun W => Long_any r' M W m1 m2
      rw [hdm] at hL
      replace hL := hide hL
      clear hdm
      replace hq := hide hq
      have hfin : ∀ n : Nat, n = M.toNat - 1 → 2000 ≤ Y → Y ≤ 2200 → D ≤ Cal.dim Y M → q = if 40000 < Cal.sumY (Y - 2000).toNat + D - 1 + Cal.cumM Y n then (0, 7) else (Cal.sumY (Y - 2000).toNat + D - 1 + Cal.cumM Y n, 0) := by
        intro n hn hy1 hy2 hd
        have e : Cal.num Y M D = Cal.sumY (Y - 2000).toNat + D - 1 + Cal.cumM Y n := by unfold Cal.num; rw [hn]; omega
        rw [← hq.out]
        unfold Cal.dayF
        rw [if_pos ⟨m1, m2, h3, hd⟩, e]
        by_cases c : 40000 < Cal.sumY (Y - 2000).toNat + D - 1 + Cal.cumM Y n
        · rw [if_pos (.inr c), if_pos c]
        · rw [if_neg (by omega), if_neg c]
      replace hfin := hide hfin
      go_enter Tryz.func19, Tryz.ntmps19
      go_wp2_with fail
      refine (in_any M 1 12 _).mono ?_
      rintro e w1 ⟨rfl, rfl⟩
      rw [hin1]
      by_cases hneg : r < 0
      all_goals
        first | rw [if_pos hneg] at hr' | rw [if_neg hneg] at hr'
        subst hr'
        have hr2 := hr.out
        clear hr
        have k1 : decide (31 < D) = false := by simp; omega
        have k2 : decide (D < 1) = false := by simp; omega
        try have k3 : decide (r < 0) = false := by simp; omega
        go_wp2
        go_quiet ((go_at_call 60; exact quiet_left (hL.out _)))
        clear hr2 hneg t2 t3
        have hB1 := hide (below_drewN hB0.out nq)
        have hD1 : Blk ((w.alloc (.cells #[.int .i64 Y, .int .i64 M, .int .i64 D] 23)).drewN nq) w.heap.size 23 #[.int .i64 Y, .int .i64 M, .int .i64 D] := Blk.drewN (Blk.new_ rfl) nq
        generalize ((w.alloc (.cells #[.int .i64 Y, .int .i64 M, .int .i64 D] 23)).drewN nq) = w0 at *
        have p0 : w0.cell? ⟨w.heap.size, 0, none⟩ = some (.int .i64 Y) := hD1.cell 0
        have p1 : w0.cell? ⟨w.heap.size, 1, none⟩ = some (.int .i64 M) := hD1.cell 1
        have p2 : w0.cell? ⟨w.heap.size, 2, none⟩ = some (.int .i64 D) := hD1.cell 2
        have hz := hD1.lt
        replace hD1 := hide hD1
        clear hL
        by_cases h5 : Cal.dim Y M < D
        · have hno : q = (0, 6) := by
            rw [← hq.out]; unfold Cal.dayF; rw [if_neg]; rintro ⟨_, _, _, h6⟩; omega
          subst hno
          clear hq hfin
          go_wp2
          go_ret2
          exact ⟨rfl, hB1.out⟩
        · have his : Cal.isDate Y M D := ⟨m1, m2, h3, by omega⟩
          replace his := hide his
          by_cases h6 : 2000 ≤ Y ∧ Y ≤ 2200
          · have hin : inB 2000 2200 Y = true := inB_iff.2 h6
            obtain ⟨y1, y2⟩ := h6
            go_wp2_with fail
            refine (in_any Y 2000 2200 _).mono ?_
            rintro e w1 ⟨rfl, rfl⟩
            rw [hin]
            clear hin hq
            have g := Cal.sumY_ge (Y - 2000).toNat
            go_wp2
            go_quiet ((go_at_call 61; exact quiet_left (begin_any _ _ y1 (by omega))))
            have hB2 := hide (below_drewN hB1.out nq)
            have hD2 := Blk.drewN hD1.out nq
            clear p0 p1 p2 hz hB1 hD1
            generalize w0.drewN nq = w2 at *
            have p0 : w2.cell? ⟨w.heap.size, 0, none⟩ = some (.int .i64 Y) := hD2.cell 0
            have p1 : w2.cell? ⟨w.heap.size, 1, none⟩ = some (.int .i64 M) := hD2.cell 1
            clear hD2
            have hle : D ≤ Cal.dim Y M := by omega
            have hfin2 := hide (fun n hn => hfin.out n hn y1 y2 hle)
            clear hfin his h5 hle k1 k2
            go_wp2
            go_loop [5, 6] (fun s j => ∃ k : Nat, (k : Int) + 1 ≤ M ∧ j = .int .i64 (k + 1) ∧ s = .int .i64 (Cal.sumY (Y - 2000).toNat + D - 1 + Cal.cumM Y k)) (fun _ j => (M - intOf j).toNat)
            case atStart => exact ⟨0, by omega, rfl, by simp [Cal.cumM]⟩
            case round =>
              obtain ⟨k, hk, rfl, rfl⟩ := hrel
              have g2 := Cal.cumM_ge Y k (by omega)
              by_cases hm : (k : Int) + 1 < M
              · have g3 := Cal.dim_bd Y ((k : Int) + 1) (by omega) (by omega)
                have hs : Cal.cumM Y (k + 1) = Cal.cumM Y k + Cal.dim Y ((k : Int) + 1) := rfl
                replace hs := hide hs
                go_wp2_with (go_at_call 60; refine (Long_any _ _ _ (by omega) (by omega)).mono ?_; rintro e w' ⟨rfl, rfl⟩)
                go_round
                case rel => exact ⟨k + 1, by omega, by go_num, by rw [hs.out]; go_num⟩
                case measure => simp [intOf]; omega
              · have hres := hfin2.out k (by omega)
                by_cases h8 : 40000 < Cal.sumY (Y - 2000).toNat + D - 1 + Cal.cumM Y k
                · rw [if_pos h8] at hres
                  subst hres
                  go_wp2
                  go_ret2
                  exact ⟨rfl, hB2.out⟩
                · rw [if_neg h8] at hres
                  subst hres
                  go_wp2
                  go_ret2
                  exact ⟨rfl, hB2.out⟩
          · have hin : inB 2000 2200 Y = false := inB_no h6
            have hno : q = (0, 7) := by
              rw [← hq.out]
              rcases Int.lt_or_le Y 2000 with h7 | h7
              · unfold Cal.dayF; rw [if_pos his.out, if_pos (.inl h7)]
              · exact dayF_far his.out (by omega)
            subst hno
            clear hq hfin his h6
            go_wp2_with fail
            refine (in_any Y 2000 2200 _).mono ?_
            rintro e w1 ⟨rfl, rfl⟩
            rw [hin]
            go_wp2
            go_ret2
            exact ⟨rfl, hB1.out⟩
  · have hin1 : inB 1 12 M = false := inB_no h1
    have hno : q = (0, 6) := by
      rw [← hq]; unfold Cal.dayF; rw [if_neg]; rintro ⟨h2, h3, _⟩; exact h1 ⟨h2, h3⟩
    subst hno
    clear hq
    go_enter Tryz.func19, Tryz.ntmps19
    go_wp2_with fail
    refine (in_any M 1 12 _).mono ?_
    rintro e w1 ⟨rfl, rfl⟩
    rw [hin1]
    go_wp2
    go_ret2
    exact ⟨rfl, hB0.out⟩
end Go.Proofs.YtjfdfhnfcpfmcaaGreatDoor

/-
  The reference's Date, Plus and Age.
-/
namespace Go.Proofs.YtjfdfhnfcpfmcaaGreatDoor
open Go.RowKit RG

theorem DateR_no (n : Int) (w : World) (h : inB 0 40000 n = false) :
    Calls Tryz.prog 23 #[.int .i64 n] w fun e w' => e = .returned (.tuple #[.agg #[.int .i64 0, .int .i64 0, .int .i64 0], .int .i64 7]) ∧ Below w.heap.size w w' := by
  go_enter Tryz.func23, Tryz.ntmps23
  go_wp2_with fail
  refine (in_any n 0 40000 _).mono ?_
  rintro e w' ⟨rfl, rfl⟩
  rw [h]
  go_wp2
  refine bodyPost_ret (v := .tuple #[.agg #[.int .i64 0, .int .i64 0, .int .i64 0], .int .i64 7]) (by simp [results, Tryz.results23, go_sem]) rfl ⟨rfl, ?_⟩
  exact (Below.refl _ _).alloc (by simp) _
set_option maxRecDepth 100000 in
theorem DateR_yes (n : Int) (w : World) (h : 0 ≤ n ∧ n ≤ 40000) :
    Calls Tryz.prog 23 #[.int .i64 n] w fun e w' => (∃ y m d, e = .returned (.tuple #[.agg #[.int .i64 y, .int .i64 m, .int .i64 d], .int .i64 0]) ∧ Cal.DateIs n y m d) ∧ Below w.heap.size w w' := by
  have hin : inB 0 40000 n = true := inB_iff.2 h
  have HB : Below w.heap.size w (w.alloc (.cells #[.int .i64 0, .int .i64 0, .int .i64 0] 23)) := (Below.refl _ _).alloc (by simp) _
  go_enter Tryz.func23, Tryz.ntmps23
  go_wp2_with fail
  refine (in_any n 0 40000 _).mono ?_
  rintro e w' ⟨rfl, rfl⟩
  rw [hin]
  go_wp2_with fail
  refine (date_any n _ h.1 h.2).mono ?_
  rintro e w1 ⟨⟨y, m, d, rfl, hd⟩, hb1⟩
  obtain ⟨hc, hf⟩ := bcell hb1
  have hz : w.heap.size < w1.heap.size := by have := hb1.size; simp at this; omega
  have c0 : w1.cell? ⟨w.heap.size, 0, none⟩ = some (.int .i64 0) := (hc _ _ (by simp)).trans (by go_simp)
  have c1 : w1.cell? ⟨w.heap.size, 1, none⟩ = some (.int .i64 0) := (hc _ _ (by simp)).trans (by go_simp)
  have c2 : w1.cell? ⟨w.heap.size, 2, none⟩ = some (.int .i64 0) := (hc _ _ (by simp)).trans (by go_simp)
  have f0 : w1.frozen? ⟨w.heap.size, 0, none⟩ = false := (hf _ _ (by simp)).trans (by go_simp)
  have f1 : w1.frozen? ⟨w.heap.size, 1, none⟩ = false := (hf _ _ (by simp)).trans (by go_simp)
  have f2 : w1.frozen? ⟨w.heap.size, 2, none⟩ = false := (hf _ _ (by simp)).trans (by go_simp)
  clear hc hf
  go_wp2
  refine bodyPost_ret (v := .tuple #[.agg #[.int .i64 y, .int .i64 m, .int .i64 d], .int .i64 0]) (by simp [results, Tryz.results23, go_sem, c0, c1, c2]) rfl ⟨⟨y, m, d, rfl, hd⟩, ?_⟩
  exact ((((HB.trans (hb1.mono (by simp))).setCell (by simp) _).setCell (by simp) _).setCell (by simp) _)

theorem dayF_is {n y m d : Int} (h : Cal.DateIs n y m d) : Cal.dayF y m d = if n ≤ 40000 then (n, 0) else (0, 7) := by
  obtain ⟨h1, h2, h3, h4, h5, h6⟩ := h
  unfold Cal.dayF
  rw [if_pos ⟨h2, h3, h4, h5⟩, h6]
  by_cases c : n ≤ 40000
  · rw [if_neg (by omega), if_pos c]
  · rw [if_pos (.inr (by omega)), if_neg c]
set_option maxRecDepth 100000 in
set_option maxHeartbeats 4000000 in
theorem PlusR_v (n y m d years months : Int) (w : World) (hd : Cal.DateIs n y m d) (h0 : 0 ≤ n) (h1 : n ≤ 40000) (h2 : 0 ≤ years ∧ years ≤ 100) (h3 : 0 ≤ months ∧ months ≤ 1200) :
    Calls Tryz.prog 25 #[.int .i64 n, .int .i64 years, .int .i64 months] w fun e w' =>
      e = .returned (.tuple #[.int .i64 (if Cal.pN y m d years months ≤ 40000 then Cal.pN y m d years months else 0), .int .i64 (if Cal.pN y m d years months ≤ 40000 then 0 else 7)]) ∧ Below w.heap.size w w' := by
  have hday := dayF_is (Cal.pN_date hd h2.1 h3.1)
  obtain ⟨p, hp⟩ : ∃ p, Cal.pN y m d years months = p := ⟨_, rfl⟩
  rw [hp] at hday ⊢
  clear hp
  obtain ⟨r1, hr1⟩ : ∃ r, (if p ≤ 40000 then p else 0) = r := ⟨_, rfl⟩
  obtain ⟨r2, hr2⟩ : ∃ r : Int, (if p ≤ 40000 then (0 : Int) else 7) = r := ⟨_, rfl⟩
  rw [hr1, hr2]
  replace hr1 := hide hr1
  replace hr2 := hide hr2
  have ⟨bd1, bd2⟩ := Cal.dateIs_bd hd h1
  have ⟨bd3, bd4, bd5, bd6, _, _⟩ := hd
  replace hday := hide hday
  have i1 : inB 0 40000 n = true := inB_iff.2 ⟨h0, h1⟩
  have i2 : inB 0 100 years = true := inB_iff.2 h2
  have i3 : inB 0 1200 months = true := inB_iff.2 h3
  obtain ⟨h20, h21⟩ := h2
  obtain ⟨h30, h31⟩ := h3
  have hpM : Cal.pM m months = (months + m - 1) % 12 + 1 := by unfold Cal.pM; omega
  have hpY : Cal.pY y m years months = y + years + (months + m - 1) / 12 := by unfold Cal.pY; omega
  have hpD : Cal.pD y m d years months = min d (Cal.dim (y + years + (months + m - 1) / 12) ((months + m - 1) % 12 + 1)) := by unfold Cal.pD; rw [hpY, hpM]
  have hbd := Cal.dim_bd (y + years + (months + m - 1) / 12) ((months + m - 1) % 12 + 1) (by omega) (by omega)
  have hday2 := hday.out
  rw [hpM, hpY, hpD] at hday2
  replace hday := hide hday2
  clear hpM hpY hpD hday2
  go_enter Tryz.func25, Tryz.ntmps25
  go_wp2_with fail
  refine (in_any n 0 40000 _).mono ?_
  rintro e w' ⟨rfl, rfl⟩
  rw [i1]
  go_wp2_with fail
  refine (in_any years 0 100 _).mono ?_
  rintro e w' ⟨rfl, rfl⟩
  rw [i2]
  go_wp2_with fail
  refine (in_any months 0 1200 _).mono ?_
  rintro e w' ⟨rfl, rfl⟩
  rw [i3]
  clear i1 i2 i3
  go_wp2_with fail
  refine (date_any n _ h0 h1).mono ?_
  rintro e w1 ⟨⟨y', m', d', rfl, hd'⟩, hb1⟩
  obtain ⟨e1, e2, e3⟩ := Cal.dateIs_uniq hd hd'
  subst e1 e2 e3
  clear hd' hd
  have hz : w.heap.size ≤ w1.heap.size := hb1.size
  replace hb1 := hide hb1
  go_wp2
  refine region_tail 9 (by kernel_rfl) (by kernel_rfl) ?_
  simp only [List.take_succ_cons, List.take_zero, List.drop_succ_cons, List.drop_zero]
  iterate 6 still_step
  still_call ((Long_any _ _ _ (by omega) (by omega)).mono fun _ _ h => ⟨h.1, h.2.symm⟩)
  iterate 2 still_step
  refine wpStill_nil ?_
  go_wp2_with fail
  have hcall := hide (DayR_any (y + years + (months + m - 1) / 12) ((months + m - 1) % 12 + 1) (min d (Cal.dim (y + years + (months + m - 1) / 12) ((months + m - 1) % 12 + 1))))
  rw [hday.out] at hcall
  clear hday
  have hB2 := hide ((((hb1.out.alloc hz (.cells #[.int .i64 (y + years + (months + m - 1) / 12), .int .i64 ((months + m - 1) % 12 + 1), .int .i64 (min d (Cal.dim (y + years + (months + m - 1) / 12) ((months + m - 1) % 12 + 1)))] 23))).drew))
  by_cases c : p ≤ 40000
  · have k1 := hide (show r1 = p by rw [← hr1.out, if_pos c])
    have k2 := hide (show r2 = 0 by rw [← hr2.out, if_pos c])
    clear hr1 hr2
    have hc := hcall.out
    rw [if_pos c] at hc
    replace hcall := hide hc
    clear hc
    refine (hcall.out _).mono ?_
    rintro e w2 ⟨rfl, hb2⟩
    have hB3 := hide (hB2.out.trans (hb2.mono hB2.out.size))
    clear hb2 hB2 hcall hbd
    go_wp2
    go_ret2
    exact ⟨by rw [k1.out, k2.out]; rfl, hB3.out⟩
  · have k1 := hide (show r1 = 0 by rw [← hr1.out, if_neg c])
    have k2 := hide (show r2 = 7 by rw [← hr2.out, if_neg c])
    clear hr1 hr2
    have hc := hcall.out
    rw [if_neg c] at hc
    replace hcall := hide hc
    clear hc
    refine (hcall.out _).mono ?_
    rintro e w2 ⟨rfl, hb2⟩
    have hB3 := hide (hB2.out.trans (hb2.mono hB2.out.size))
    clear hb2 hB2 hcall hbd
    go_wp2
    go_ret2
    exact ⟨by rw [k1.out, k2.out]; rfl, hB3.out⟩
theorem PlusR_no (n years months : Int) (w : World) (h : ¬ ((0 ≤ n ∧ n ≤ 40000) ∧ (0 ≤ years ∧ years ≤ 100) ∧ (0 ≤ months ∧ months ≤ 1200))) :
    Calls Tryz.prog 25 #[.int .i64 n, .int .i64 years, .int .i64 months] w fun e w' => e = .returned (.tuple #[.int .i64 0, .int .i64 7]) ∧ Below w.heap.size w w' := by
  obtain ⟨b1, e1⟩ : ∃ b, inB 0 40000 n = b := ⟨_, rfl⟩
  obtain ⟨b2, e2⟩ : ∃ b, inB 0 100 years = b := ⟨_, rfl⟩
  obtain ⟨b3, e3⟩ : ∃ b, inB 0 1200 months = b := ⟨_, rfl⟩
  have hb : b1 = false ∨ b1 = true ∧ b2 = false ∨ b1 = true ∧ b2 = true ∧ b3 = false := by
    rw [← e1, ← e2, ← e3]
    rw [← inB_iff, ← inB_iff, ← inB_iff] at h
    cases h1 : inB 0 40000 n <;> cases h2 : inB 0 100 years <;> cases h3 : inB 0 1200 months <;> simp_all
  replace e1 := hide e1
  replace e2 := hide e2
  replace e3 := hide e3
  clear h
  rcases hb with rfl | ⟨rfl, rfl⟩ | ⟨rfl, rfl, rfl⟩
  · go_enter Tryz.func25, Tryz.ntmps25
    go_wp2_with fail
    refine (in_any n 0 40000 _).mono ?_
    rintro e w' ⟨rfl, rfl⟩
    rw [e1.out]
    go_wp2
    go_ret2
    exact ⟨rfl, Below.refl _ _⟩
  · go_enter Tryz.func25, Tryz.ntmps25
    go_wp2_with fail
    refine (in_any n 0 40000 _).mono ?_
    rintro e w' ⟨rfl, rfl⟩
    rw [e1.out]
    go_wp2_with fail
    refine (in_any years 0 100 _).mono ?_
    rintro e w' ⟨rfl, rfl⟩
    rw [e2.out]
    go_wp2
    go_ret2
    exact ⟨rfl, Below.refl _ _⟩
  · go_enter Tryz.func25, Tryz.ntmps25
    go_wp2_with fail
    refine (in_any n 0 40000 _).mono ?_
    rintro e w' ⟨rfl, rfl⟩
    rw [e1.out]
    go_wp2_with fail
    refine (in_any years 0 100 _).mono ?_
    rintro e w' ⟨rfl, rfl⟩
    rw [e2.out]
    go_wp2_with fail
    refine (in_any months 0 1200 _).mono ?_
    rintro e w' ⟨rfl, rfl⟩
    rw [e3.out]
    go_wp2
    go_ret2
    exact ⟨rfl, Below.refl _ _⟩
theorem AgeR_no (n day : Int) (w : World) (h : ¬ ((0 ≤ n ∧ n ≤ 40000) ∧ (0 ≤ day ∧ day ≤ 40000))) :
    Calls Tryz.prog 27 #[.int .i64 n, .int .i64 day] w fun e w' => e = .returned (.tuple #[.int .i64 0, .int .i64 7]) ∧ Below w.heap.size w w' := by
  by_cases h1 : 0 ≤ n ∧ n ≤ 40000
  · have e1 : inB 0 40000 n = true := inB_iff.2 h1
    have e2 : inB 0 40000 day = false := inB_no (fun h2 => h ⟨h1, h2⟩)
    go_enter Tryz.func27, Tryz.ntmps27
    go_wp2_with fail
    refine (in_any n 0 40000 _).mono ?_
    rintro e w' ⟨rfl, rfl⟩
    rw [e1]
    go_wp2_with fail
    refine (in_any day 0 40000 _).mono ?_
    rintro e w' ⟨rfl, rfl⟩
    rw [e2]
    go_wp2
    go_ret2
    exact ⟨rfl, Below.refl _ _⟩
  · have e1 : inB 0 40000 n = false := inB_no h1
    go_enter Tryz.func27, Tryz.ntmps27
    go_wp2_with fail
    refine (in_any n 0 40000 _).mono ?_
    rintro e w' ⟨rfl, rfl⟩
    rw [e1]
    go_wp2
    go_ret2
    exact ⟨rfl, Below.refl _ _⟩
theorem AgeR_arg (n day : Int) (w : World) (h1 : 0 ≤ n ∧ n ≤ 40000) (h2 : 0 ≤ day ∧ day ≤ 40000) (hlt : day < n) :
    Calls Tryz.prog 27 #[.int .i64 n, .int .i64 day] w fun e w' => e = .returned (.tuple #[.int .i64 0, .int .i64 2]) ∧ Below w.heap.size w w' := by
  have e1 : inB 0 40000 n = true := inB_iff.2 h1
  have e2 : inB 0 40000 day = true := inB_iff.2 h2
  go_enter Tryz.func27, Tryz.ntmps27
  go_wp2_with fail
  refine (in_any n 0 40000 _).mono ?_
  rintro e w' ⟨rfl, rfl⟩
  rw [e1]
  go_wp2_with fail
  refine (in_any day 0 40000 _).mono ?_
  rintro e w' ⟨rfl, rfl⟩
  rw [e2]
  go_wp2
  go_ret2
  exact ⟨rfl, Below.refl _ _⟩
/-- The age of the first k - 1 years. -/
def AgeTo (y m d day : Int) (k a : Int) : Prop := 0 ≤ a ∧ a < k ∧ Cal.bN y m d a ≤ day ∧ ∀ j, a < j → j < k → day < Cal.bN y m d j
set_option maxRecDepth 100000 in
set_option maxHeartbeats 4000000 in
theorem AgeR_yes (n y m d day : Int) (w : World) (hd : Cal.DateIs n y m d) (h0 : 0 ≤ n) (h1 : n ≤ day) (h2 : day ≤ 40000) :
    Calls Tryz.prog 27 #[.int .i64 n, .int .i64 day] w fun e w' => (∃ a, e = .returned (.tuple #[.int .i64 a, .int .i64 0]) ∧ Cal.AgeIs y m d day a) ∧ Below w.heap.size w w' := by
  have e1 : inB 0 40000 n = true := inB_iff.2 (by omega)
  have e2 : inB 0 40000 day = true := inB_iff.2 (by omega)
  have hz0 := Cal.bN_zero hd
  have ⟨bd1, bd2⟩ := Cal.dateIs_bd hd (by omega)
  have ⟨bd3, bd4, bd5, bd6, _, _⟩ := hd
  replace hd := hide hd
  go_enter Tryz.func27, Tryz.ntmps27
  go_wp2_with fail
  refine (in_any n 0 40000 _).mono ?_
  rintro e w' ⟨rfl, rfl⟩
  rw [e1]
  go_wp2_with fail
  refine (in_any day 0 40000 _).mono ?_
  rintro e w' ⟨rfl, rfl⟩
  rw [e2]
  clear e1 e2
  go_wp2
  go_loopg [6, 7] 111 (fun g av kv wr => ∃ k a : Int, kv = .int .i64 k ∧ av = .int .i64 a ∧ 1 ≤ k ∧ k ≤ 111 ∧ (111 - k).toNat ≤ g ∧ Hid (AgeTo y m d day k a) ∧ Hid (Below w.heap.size w wr))
  case atStart => exact ⟨1, 0, rfl, rfl, by omega, by omega, by omega, ⟨by omega, by omega, by rw [hz0]; exact h1, fun j h3 h4 => by omega⟩, Below.refl _ _⟩
  case round =>
    obtain ⟨k, a, rfl, rfl, hk1, hk2, hg, hA, BW⟩ := hrel
    clear hz0
    by_cases hlt : k ≤ 110
    · have hday := dayF_is (Cal.bN_date hd.out (k := k) (by omega))
      replace hday := hide hday
      have hbd := Cal.dim_bd (y + k) m bd4 bd5
      go_wp2_with fail
      refine (date_any n _ h0 (by omega)).mono ?_
      rintro e w1 ⟨⟨y', m', d', rfl, hd'⟩, hb1⟩
      obtain ⟨q1, q2, q3⟩ := Cal.dateIs_uniq hd.out hd'
      subst q1 q2 q3
      clear hd'
      have hB1 := hide (BW.out.trans (hb1.mono BW.out.size))
      have hz := hB1.out.size
      clear hb1 BW
      go_wp2
      refine region_tail 9 (by kernel_rfl) (by kernel_rfl) ?_
      simp only [List.take_succ_cons, List.take_zero, List.drop_succ_cons, List.drop_zero]
      iterate 6 still_step
      still_call ((Long_any _ _ _ (by omega) (by omega)).mono fun _ _ h => ⟨h.1, h.2.symm⟩)
      iterate 2 still_step
      refine wpStill_nil ?_
      go_wp2_with fail
      have hB2 := hide (((hB1.out.alloc hz (.cells #[.int .i64 (y + k), .int .i64 m, .int .i64 (min d (Cal.dim (y + k) m))] 23))).drew)
      have hcall := hide (DayR_any (y + k) m (min d (Cal.dim (y + k) m)))
      rw [hday.out] at hcall
      clear hday hB1
      by_cases c : Cal.bN y m d k ≤ 40000
      · have hc := hcall.out
        rw [if_pos c] at hc
        replace hcall := hide hc
        clear hc
        refine (hcall.out _).mono ?_
        rintro e w2 ⟨rfl, hb2⟩
        have hB3 := hide (hB2.out.trans (hb2.mono hB2.out.size))
        clear hb2 hB2 hcall hbd
        by_cases c2 : Cal.bN y m d k ≤ day
        · have hA2 : AgeTo y m d day (k + 1) k := ⟨by omega, by omega, c2, fun j h3 h4 => by omega⟩
          replace hA2 := hide hA2
          generalize Cal.bN y m d k = bk at *
          go_wp2
          go_roundg (111 - (k + 1)).toNat
          case measure => omega
          case rel => exact ⟨k + 1, k, rfl, rfl, by omega, by omega, by omega, hA2, hB3⟩
        · have hA2 : AgeTo y m d day (k + 1) a := ⟨hA.out.1, by have := hA.out.2.1; omega, hA.out.2.2.1, fun j h3 h4 => by
            by_cases e : j = k
            · subst e; omega
            · exact hA.out.2.2.2 j h3 (by omega)⟩
          replace hA2 := hide hA2
          generalize Cal.bN y m d k = bk at *
          go_wp2
          go_roundg (111 - (k + 1)).toNat
          case measure => omega
          case rel => exact ⟨k + 1, a, rfl, rfl, by omega, by omega, by omega, hA2, hB3⟩
      · have hc := hcall.out
        rw [if_neg c] at hc
        replace hcall := hide hc
        clear hc
        have hA2 : AgeTo y m d day (k + 1) a := ⟨hA.out.1, by have := hA.out.2.1; omega, hA.out.2.2.1, fun j h3 h4 => by
          by_cases e : j = k
          · subst e; omega
          · exact hA.out.2.2.2 j h3 (by omega)⟩
        replace hA2 := hide hA2
        refine (hcall.out _).mono ?_
        rintro e w2 ⟨rfl, hb2⟩
        have hB3 := hide (hB2.out.trans (hb2.mono hB2.out.size))
        clear hb2 hB2 hcall hbd c
        go_wp2
        go_roundg (111 - (k + 1)).toNat
        case measure => omega
        case rel => exact ⟨k + 1, a, rfl, rfl, by omega, by omega, by omega, hA2, hB3⟩
    · obtain rfl : k = 111 := by omega
      have hfin : Cal.AgeIs y m d day a := by
        obtain ⟨p1, p2, p3, p4⟩ := hA.out
        refine ⟨p1, p3, ?_⟩
        by_cases e : a = 110
        · subst e
          exfalso
          have q1 := Cal.dateIs_year (Cal.bN_date hd.out (k := 110) (by omega))
          have q2 := Cal.sumY_ge (y + 110 - 2000).toNat
          omega
        · exact p4 (a + 1) (by omega) (by omega)
      replace hfin := hide hfin
      go_wp2
      go_ret2
      exact ⟨⟨a, rfl, hfin.out⟩, BW.out⟩
end Go.Proofs.YtjfdfhnfcpfmcaaGreatDoor

/-
  The reference's Name.
-/
namespace Go.Proofs.YtjfdfhnfcpfmcaaGreatDoor
open Go.RowKit RG
set_option maxRecDepth 100000 in
set_option maxHeartbeats 4000000 in
theorem NameR_any (s : ByteArray) (w : World) (hs : s.size ≤ maxLen) :
    Calls Tryz.prog 21 #[.string s] w fun e w' => e = .returned (.bool (nameB s)) ∧ w = w' := by
  unfold maxLen at hs
  by_cases h1 : 1 ≤ s.size ∧ s.size ≤ 16
  · have hin : inB 1 16 (s.size : Int) = true := inB_iff.2 (by omega)
    obtain ⟨h10, h11⟩ := h1
    have hno := fun k h hb => name_no s k h hb
    have hb0 : s[0].toNat < 256 := UInt8.toNat_lt _
    have hx : ∀ k (hk : k < s.size), inB 97 122 (s[k].toNat : Int) = decide (isLet s[k]) := by
      intro k hk; rw [Bool.eq_iff_iff, inB_iff, decide_eq_true_iff]; unfold isLet; omega
    have hy : ∀ k (hk : k < s.size), inB 48 57 (s[k].toNat : Int) = decide (isDig s[k]) := by
      intro k hk; rw [Bool.eq_iff_iff, inB_iff, decide_eq_true_iff]; unfold isDig; omega
    replace hno := hide hno
    replace hx := hide hx
    replace hy := hide hy
    go_enter Tryz.func21, Tryz.ntmps21
    go_wp2_with fail
    refine (in_any (s.size : Int) 1 16 _).mono ?_
    rintro e w' ⟨rfl, rfl⟩
    rw [hin]
    go_wp2_with fail
    refine (in_any (s[0].toNat : Int) 97 122 _).mono ?_
    rintro e w' ⟨rfl, rfl⟩
    rw [hx.out 0 h10]
    by_cases hl : isLet s[0]
    · have hl' : decide (isLet s[0]) = true := by simpa using hl
      rw [hl']
      have h00 : okAt 0 (s.data.toList[0]?.getD 0) := by rw [byte_at s 0 h10]; exact .inl hl
      replace h00 := hide h00
      clear hl hl' hb0
      go_wp2
      go_loop [3] (fun i => ∃ k : Nat, k ≤ s.size ∧ i = .int .i64 k ∧ Hid (∀ j, j < k → okAt j (s.data.toList[j]?.getD 0))) (fun i => s.size - (intOf i).toNat)
      case atStart => exact ⟨0, Nat.zero_le _, rfl, fun j hj => absurd hj (by omega)⟩
      case round =>
        obtain ⟨k, hk, rfl, hok⟩ := hrel
        by_cases hlt : k < s.size
        · have hb256 : s[k].toNat < 256 := UInt8.toNat_lt _
          have hbk := byte_at s k hlt
          have hst : okAt k s[k] → ∀ j, j < k + 1 → okAt j (s.data.toList[j]?.getD 0) := fun hb j hj => by
            by_cases e : j = k
            · subst e; rw [hbk]; exact hb
            · exact hok.out j (by omega)
          have hk0 : k = 0 → isLet s[k] ∨ ¬ isDig s[k] := by
            rintro rfl
            have := h00.out
            rw [hbk] at this
            rcases this with h | h
            · exact .inl h
            · exact absurd rfl h.2
          replace hbk := hide hbk
          replace hst := hide hst
          replace hk0 := hide hk0
          have hx' := hx.out k hlt
          have hy' := hy.out k hlt
          have hno' := hno.out k hlt
          by_cases c1 : isLet s[k]
          · have d1 : inB 97 122 (s[k].toNat : Int) = true := by rw [hx']; simpa using c1
            have hn := hide (hst.out (.inl c1))
            clear hx' hy' hno' c1
            go_wp2_with fail
            refine (in_any (s[k].toNat : Int) 97 122 _).mono ?_
            rintro e w' ⟨rfl, rfl⟩
            rw [d1]
            go_wp2
            go_round
            case rel => exact ⟨k + 1, by omega, by go_num, hn⟩
            case measure => simp [intOf]; omega
          · have d1 : inB 97 122 (s[k].toNat : Int) = false := by rw [hx']; simpa using c1
            by_cases c2 : isDig s[k]
            · have d2 : inB 48 57 (s[k].toNat : Int) = true := by rw [hy']; simpa using c2
              have hn := hide (hst.out (.inr ⟨c2, fun e => by rcases hk0.out e with h | h; exact c1 h; exact h c2⟩))
              clear hx' hy' hno' c1 c2
              go_wp2_with fail
              refine (in_any (s[k].toNat : Int) 97 122 _).mono ?_
              rintro e w' ⟨rfl, rfl⟩
              rw [d1]
              go_wp2_with fail
              refine (in_any (s[k].toNat : Int) 48 57 _).mono ?_
              rintro e w' ⟨rfl, rfl⟩
              rw [d2]
              go_wp2
              go_round
              case rel => exact ⟨k + 1, by omega, by go_num, hn⟩
              case measure => simp [intOf]; omega
            · have d2 : inB 48 57 (s[k].toNat : Int) = false := by rw [hy']; simpa using c2
              have hf := hide (hno' (by rintro (h | h); exact c1 h; exact c2 h.1))
              clear hx' hy' hno' c1 c2
              go_wp2_with fail
              refine (in_any (s[k].toNat : Int) 97 122 _).mono ?_
              rintro e w' ⟨rfl, rfl⟩
              rw [d1]
              go_wp2_with fail
              refine (in_any (s[k].toNat : Int) 48 57 _).mono ?_
              rintro e w' ⟨rfl, rfl⟩
              rw [d2]
              go_wp2
              go_ret
              exact ⟨ret_bool hf.out.symm, rfl⟩
        · obtain rfl : k = s.size := by omega
          have hf : nameB s = true := by
            unfold nameB
            rw [decide_eq_true_iff]
            refine ⟨by simpa using (show 1 ≤ s.size ∧ s.size ≤ 16 by omega), fun j hj => hok.out j (by simpa using hj)⟩
          replace hf := hide hf
          go_wp2
          go_ret
          exact ⟨ret_bool hf.out.symm, rfl⟩
    · have hl' : decide (isLet s[0]) = false := by simpa using hl
      rw [hl']
      have hf := hide (hno.out 0 h10 (by rintro (h | h); exact hl h; exact h.2 rfl))
      clear hl hl' hb0
      go_wp2
      go_ret
      exact ⟨ret_bool hf.out.symm, rfl⟩
  · have hin : inB 1 16 (s.size : Int) = false := inB_no (by omega)
    have hno : nameB s = false := by
      unfold nameB
      rw [decide_eq_false_iff_not]
      rintro ⟨h2, _⟩
      have h3 : s.data.toList.length = s.size := by simp
      omega
    replace hno := hide hno
    go_enter Tryz.func21, Tryz.ntmps21
    go_wp2_with fail
    refine (in_any (s.size : Int) 1 16 _).mono ?_
    rintro e w' ⟨rfl, rfl⟩
    rw [hin]
    go_wp2
    go_ret
    exact ⟨ret_bool hno.out.symm, rfl⟩
end Go.Proofs.YtjfdfhnfcpfmcaaGreatDoor
