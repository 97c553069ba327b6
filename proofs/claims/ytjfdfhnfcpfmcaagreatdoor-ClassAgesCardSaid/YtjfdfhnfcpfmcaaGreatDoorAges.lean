/-
  The law ClassAges returns true.
-/
import Derived.Test.YtjfdfhnfcpfmcaaGreatDoorMj
import Derived.Test.YtjfdfhnfcpfmcaaGreatDoorMa
import Derived.Test.YtjfdfhnfcpfmcaaGreatDoorMl
namespace Go.Proofs.YtjfdfhnfcpfmcaaGreatDoor
open Go.RowKit RG

set_option maxRecDepth 100000 in
set_option maxHeartbeats 8000000 in
theorem Ages_any (x0 x1 ys ms : Int) (w : World) (he : Env w) (h0 : 0 ≤ x0 ∧ x0 ≤ 65535) (h1 : 0 ≤ x1 ∧ x1 ≤ 65535) (h2 : 0 ≤ ys ∧ ys ≤ 255) (h3 : 0 ≤ ms ∧ ms ≤ 255) :
    Calls Tryz.prog 10 #[.agg #[.int .u16 x0, .int .u16 x1], .int .u8 ys, .int .u8 ms] w fun e w' => e = .returned (.bool true) ∧ Below w.heap.size w w' := by
  obtain ⟨h00, h01⟩ := h0
  obtain ⟨h10, h11⟩ := h1
  obtain ⟨h20, h21⟩ := h2
  obtain ⟨h30, h31⟩ := h3
  replace he := hide he
  go_enter Tryz.func10, Tryz.ntmps10
  go_wp2
  go_quiet (fail)
  go_wp2_with fail
  have hB0 : Below w.heap.size w ((w.alloc (.cells #[.int .u16 x0, .int .u16 x1] 68)).drewN nq) := below_drewN ((Below.refl _ _).alloc (Nat.le_refl _) _) nq
  have he0 := hide (he.out.below hB0 he.out.size)
  generalize ((w.alloc (.cells #[.int .u16 x0, .int .u16 x1] 68)).drewN nq) = w0 at *
  replace hB0 := hide hB0
  have ha : 0 ≤ min (x0 % 40001) (x1 % 40001) ∧ min (x0 % 40001) (x1 % 40001) ≤ max (x0 % 40001) (x1 % 40001) ∧ max (x0 % 40001) (x1 % 40001) ≤ 40000 := by omega
  have hy : 0 ≤ ys % 101 ∧ ys % 101 ≤ 100 := by omega
  generalize min (x0 % 40001) (x1 % 40001) = a at *
  generalize max (x0 % 40001) (x1 % 40001) = b at *
  generalize ys % 101 = y at *
  obtain ⟨a0, hab, b1⟩ := ha
  obtain ⟨y0, y1⟩ := hy
  clear h00 h01 h10 h11 h20 h21 he
  obtain ⟨ya, ma, da, hda⟩ := Cal.dateIs_exI a0
  obtain ⟨yb, mb, db, hdb⟩ := Cal.dateIs_exI (show 0 ≤ b by omega)
  have hle := Cal.pN_mono hda hdb hab y0 h30
  have hge := Cal.pN_ge hda y0 h30
  replace hda := hide hda
  replace hdb := hide hdb
  refine (Plus_v a ya ma da y ms _ he0.out hda.out a0 (by omega) ⟨y0, y1⟩ ⟨h30, by omega⟩).mono ?_
  rintro e w1 ⟨rfl, hb1⟩
  have he1 := hide (he0.out.below hb1 he0.out.size)
  have hB1 := hide (hB0.out.trans (hb1.mono hB0.out.size))
  clear hb1 he0 hB0
  generalize Cal.pN ya ma da y ms = pa at *
  obtain ⟨p, hp⟩ : ∃ p, (if pa ≤ 40000 then pa else 0) = p := ⟨_, rfl⟩
  obtain ⟨e, hep⟩ : ∃ e : Int, (if pa ≤ 40000 then (0 : Int) else 7) = e := ⟨_, rfl⟩
  rw [hp, hep]
  replace hp := hide hp
  replace hep := hide hep
  replace hle := hide hle
  go_wp2_with fail
  refine (Plus_v b yb mb db y ms _ he1.out hdb.out (by omega) b1 ⟨y0, y1⟩ ⟨h30, by omega⟩).mono ?_
  rintro e w2 ⟨rfl, hb2⟩
  have he2 := hide (he1.out.below hb2 he1.out.size)
  have hB2 := hide (hB1.out.trans (hb2.mono hB1.out.size))
  clear hb2 he1 hB1
  generalize Cal.pN yb mb db y ms = pb at *
  have htest : ∀ pp ee qq ff : Int, (if pa ≤ 40000 then pa else 0) = pp → (if pa ≤ 40000 then (0 : Int) else 7) = ee → (if pb ≤ 40000 then pb else 0) = qq → (if pb ≤ 40000 then (0 : Int) else 7) = ff →
      (ff = 0 ∧ ee = 0 ∧ pp ≤ qq ∧ a ≤ pp) ∨ (ff = 7 ∧ ee = 0 ∧ a ≤ pp) ∨ (ff = 7 ∧ ee = 7) := by
    rintro pp ee qq ff rfl rfl rfl rfl
    have := hle.out
    by_cases c1 : pa ≤ 40000 <;> by_cases c2 : pb ≤ 40000 <;> simp [c1, c2] <;> omega
  obtain ⟨q, hq⟩ : ∃ q, (if pb ≤ 40000 then pb else 0) = q := ⟨_, rfl⟩
  obtain ⟨f, hf⟩ : ∃ f : Int, (if pb ≤ 40000 then (0 : Int) else 7) = f := ⟨_, rfl⟩
  rw [hq, hf]
  have ht := htest _ _ _ _ hp.out hep.out hq hf
  clear htest hp hep hq hf hle
  rcases ht with ⟨rfl, rfl, t1, t2⟩ | ⟨rfl, rfl, t2⟩ | ⟨rfl, rfl⟩
  all_goals
    clear hge
    go_wp2_with fail
    refine (Plus_v a ya ma da y 0 _ he2.out hda.out a0 (by omega) ⟨y0, y1⟩ (by omega)).mono ?_
    rintro e w3 ⟨rfl, hb3⟩
    have he3 := hide (he2.out.below hb3 he2.out.size)
    have hB3 := hide (hB2.out.trans (hb3.mono hB2.out.size))
    clear hb3 he2 hB2
    rw [Cal.pN_b hda.out]
    have hon := hide (Cal.age_on hda.out y0)
    have hbf := hide (fun h => Cal.age_before (k := y) hda.out h)
    have hz := hide (Cal.bN_zero hda.out)
    have hbge := Cal.bN_le hda.out (Int.le_refl 0) y0
    rw [hz.out] at hbge
    have hy1 : a < Cal.bN ya ma da y → 1 ≤ y := fun h => by
      rcases Int.lt_or_le 0 y with h' | h'
      · omega
      · obtain rfl : y = 0 := by omega
        rw [hz.out] at h; omega
    replace hy1 := hide hy1
    clear hz
    generalize hbn : Cal.bN ya ma da y = bn at *
    clear hbn
    by_cases c1 : bn ≤ 40000
    · rw [if_pos c1, if_pos c1]
      go_wp2_with fail
      refine (Age_is a ya ma da bn y _ he3.out hda.out a0 hbge c1 hon.out).mono ?_
      rintro e w4 ⟨rfl, hb4⟩
      have he4 := hide (he3.out.below hb4 he3.out.size)
      have hB4 := hide (hB3.out.trans (hb4.mono hB3.out.size))
      clear hb4 he3 hB3 hon
      by_cases c2 : a < bn
      · go_wp2_with fail
        refine (Age_is a ya ma da (bn - 1) (y - 1) _ he4.out hda.out a0 (by omega) (by omega) (hbf.out (hy1.out c2))).mono ?_
        rintro e w5 ⟨rfl, hb5⟩
        have he5 := hide (he4.out.below hb5 he4.out.size)
        have hB5 := hide (hB4.out.trans (hb5.mono hB4.out.size))
        clear hb5 he4 hB4 hbf hy1
        go_wp2_with fail
        refine (Age_v a ya ma da b _ he5.out hda.out a0 hab b1).mono ?_
        rintro e w6 ⟨⟨n, rfl, hn⟩, hb6⟩
        have he6 := hide (he5.out.below hb6 he5.out.size)
        have hB6 := hide (hB5.out.trans (hb6.mono hB5.out.size))
        have hn0 := hn.1
        replace hn := hide hn
        clear hb6 he5 hB5
        by_cases c3 : b < 40000
        · go_wp2_with fail
          refine (Age_v a ya ma da (b + 1) _ he6.out hda.out a0 (by omega) (by omega)).mono ?_
          rintro e w7 ⟨⟨n', rfl, hn'⟩, hb7⟩
          have he7 := hide (he6.out.below hb7 he6.out.size)
          have hB7 := hide (hB6.out.trans (hb7.mono hB6.out.size))
          obtain ⟨s1, s2⟩ := Cal.age_next hda.out hn.out hn'
          have hn1 : n ≤ 50000 := by
            have := Cal.dateIs_years (Cal.bN_date hda.out hn0) hdb.out hn.out.2.1
            have := Cal.dateIs_bd hdb.out b1
            have := hda.out.1
            omega
          have t3 : decide (n + 1 < n') = false := by simp; omega
          have t4 : decide (n' < n) = false := by simp; omega
          clear hb7 he6 hB6 hn hn'
          go_wp2_with fail
          refine (Awake_any _ he7.out).mono ?_
          rintro e w8 ⟨rfl, hb8⟩
          have hB8 := hide (hB7.out.trans (hb8.mono hB7.out.size))
          clear hb8
          go_wp2
          go_ret
          exact ⟨rfl, hB8.out⟩
        · go_wp2_with fail
          refine (Awake_any _ he6.out).mono ?_
          rintro e w7 ⟨rfl, hb7⟩
          have hB7 := hide (hB6.out.trans (hb7.mono hB6.out.size))
          clear hb7
          go_wp2
          go_ret
          exact ⟨rfl, hB7.out⟩
      · go_wp2_with fail
        refine (Age_v a ya ma da b _ he4.out hda.out a0 hab b1).mono ?_
        rintro e w6 ⟨⟨n, rfl, hn⟩, hb6⟩
        have he6 := hide (he4.out.below hb6 he4.out.size)
        have hB6 := hide (hB4.out.trans (hb6.mono hB4.out.size))
        have hn0 := hn.1
        replace hn := hide hn
        clear hb6 he4 hB4
        by_cases c3 : b < 40000
        · go_wp2_with fail
          refine (Age_v a ya ma da (b + 1) _ he6.out hda.out a0 (by omega) (by omega)).mono ?_
          rintro e w7 ⟨⟨n', rfl, hn'⟩, hb7⟩
          have he7 := hide (he6.out.below hb7 he6.out.size)
          have hB7 := hide (hB6.out.trans (hb7.mono hB6.out.size))
          obtain ⟨s1, s2⟩ := Cal.age_next hda.out hn.out hn'
          have hn1 : n ≤ 50000 := by
            have := Cal.dateIs_years (Cal.bN_date hda.out hn0) hdb.out hn.out.2.1
            have := Cal.dateIs_bd hdb.out b1
            have := hda.out.1
            omega
          have t3 : decide (n + 1 < n') = false := by simp; omega
          have t4 : decide (n' < n) = false := by simp; omega
          clear hb7 he6 hB6 hn hn'
          go_wp2_with fail
          refine (Awake_any _ he7.out).mono ?_
          rintro e w8 ⟨rfl, hb8⟩
          have hB8 := hide (hB7.out.trans (hb8.mono hB7.out.size))
          clear hb8
          go_wp2
          go_ret
          exact ⟨rfl, hB8.out⟩
        · go_wp2_with fail
          refine (Awake_any _ he6.out).mono ?_
          rintro e w7 ⟨rfl, hb7⟩
          have hB7 := hide (hB6.out.trans (hb7.mono hB6.out.size))
          clear hb7
          go_wp2
          go_ret
          exact ⟨rfl, hB7.out⟩
    · rw [if_neg c1, if_neg c1]
      go_wp2_with fail
      refine (Age_v a ya ma da b _ he3.out hda.out a0 hab b1).mono ?_
      rintro e w6 ⟨⟨n, rfl, hn⟩, hb6⟩
      have he6 := hide (he3.out.below hb6 he3.out.size)
      have hB6 := hide (hB3.out.trans (hb6.mono hB3.out.size))
      have hn0 := hn.1
      replace hn := hide hn
      clear hb6 he3 hB3
      by_cases c3 : b < 40000
      · go_wp2_with fail
        refine (Age_v a ya ma da (b + 1) _ he6.out hda.out a0 (by omega) (by omega)).mono ?_
        rintro e w7 ⟨⟨n', rfl, hn'⟩, hb7⟩
        have he7 := hide (he6.out.below hb7 he6.out.size)
        have hB7 := hide (hB6.out.trans (hb7.mono hB6.out.size))
        obtain ⟨s1, s2⟩ := Cal.age_next hda.out hn.out hn'
        have hn1 : n ≤ 50000 := by
          have := Cal.dateIs_years (Cal.bN_date hda.out hn0) hdb.out hn.out.2.1
          have := Cal.dateIs_bd hdb.out b1
          have := hda.out.1
          omega
        have t3 : decide (n + 1 < n') = false := by simp; omega
        have t4 : decide (n' < n) = false := by simp; omega
        clear hb7 he6 hB6 hn hn'
        go_wp2_with fail
        refine (Awake_any _ he7.out).mono ?_
        rintro e w8 ⟨rfl, hb8⟩
        have hB8 := hide (hB7.out.trans (hb8.mono hB7.out.size))
        clear hb8
        go_wp2
        go_ret
        exact ⟨rfl, hB8.out⟩
      · go_wp2_with fail
        refine (Awake_any _ he6.out).mono ?_
        rintro e w7 ⟨rfl, hb7⟩
        have hB7 := hide (hB6.out.trans (hb7.mono hB6.out.size))
        clear hb7
        go_wp2
        go_ret
        exact ⟨rfl, hB7.out⟩
end Go.Proofs.YtjfdfhnfcpfmcaaGreatDoor
