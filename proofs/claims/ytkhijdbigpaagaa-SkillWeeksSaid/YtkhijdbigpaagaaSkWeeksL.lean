/-
  The law SkillWeeks.
-/
import Derived.Test.YtkhijdbigpaagaaNwa
import Derived.Test.YtkhijdbigpaagaaNj
namespace Go.Proofs.Ytkhijdbigpaagaa
open Go.RowKit RG

set_option maxRecDepth 100000 in
set_option maxHeartbeats 4000000 in
theorem SkillWeeks_any (v : Value) (S : Sch) (L E : Option Addr) (k cl m ce : Nat) (rs : List Sp) (es : List Ev) (wk ix cut : Int) (w : World) (h : RdSch w v S) (hls : RdRow w L k 2 (rs.map tkCells)) (hk : k ≤ maxLen) (hes : RdRow w E m 5 (es.map evCells)) (hm : m ≤ maxLen) (hcap : m ≤ ce) (hcut : 0 ≤ cut ∧ cut ≤ 255) :
    Calls Try.prog 17 #[v, .agg #[.slice L k cl, .slice E m ce, .int .i64 wk, .int .i64 ix], .int .u8 cut] w fun e w' => e = .returned (.bool true) ∧ Below w.heap.size w w' := by
  have hA := hide (After_any v S L E k cl m ce rs es wk)
  have hAW := hide (fun W (hb : Below w.heap.size w W) => hA.out W (h.below hb) (hls.below hb) hk (hes.below hb) hm hcap)
  have hV := hide (fun W (hb : Below w.heap.size w W) => valid_any v S W (h.below hb))
  have hAk := hide (fun W (L' E' : Option Addr) (k' c' m' ce' : Nat) (rs' : List Sp) (es' : List Ev) (wk' : Int) (hb : Below w.heap.size w W) (h1 : RdRow W L' k' 2 (rs'.map tkCells)) (h2 : k' ≤ maxLen) (h3 : RdRow W E' m' 5 (es'.map evCells)) (h4 : m' ≤ maxLen) (h5 : m' ≤ ce') => After_any v S L' E' k' c' m' ce' rs' es' wk' W (h.below hb) h1 h2 h3 h4 h5)
  have hrl : rs.length = k := by have := hls.1; simpa using this
  have hel : es.length = m := by have := hes.1; simpa using this
  have hlsB := hide (fun W (hb : Below w.heap.size w W) => hls.below hb)
  have hesB := hide (fun W (hb : Below w.heap.size w W) => hes.below hb)
  have hlen := afterF_len S rs es wk
  rw [hrl] at hlen
  have hlm : ((afterF S rs es wk).1.getD []).length ≤ maxLen := Nat.le_trans hlen hk
  have hbad := fun h => after_bad (S := S) (rs := rs) (es := es) (wk := wk) h
  have hokk := fun h => after_ok (S := S) (rs := rs) (es := es) (wk := wk) h
  obtain ⟨A, c, A2, c2, rfl, -⟩ := h
  unfold AfterR at hAW
  obtain ⟨q, hq⟩ : ∃ q, afterF S rs es wk = q := ⟨_, rfl⟩
  rw [hq] at hAW hlm hbad hokk
  obtain ⟨q1, q2⟩ := q
  simp only at hAW hlm hbad hokk
  clear hls hes hlen hA
  replace hlm := hide hlm
  replace hrl := hide hrl
  replace hel := hide hel
  replace hbad := hide hbad
  replace hokk := hide hokk
  replace hq := hide hq
  obtain ⟨n1, hn1⟩ : ∃ n, S.sks.length = n := ⟨_, rfl⟩
  obtain ⟨n2, hn2⟩ : ∃ n, S.ins.length = n := ⟨_, rfl⟩
  rw [hn1, hn2] at hAW hV hAk ⊢
  replace hn1 := hide hn1
  replace hn2 := hide hn2
  obtain ⟨W0, hW0⟩ : ∃ W0, (w.alloc (.cells #[.slice A n1 c, .slice A2 n2 c2] 25)).alloc (.cells #[.slice L k cl, .slice E m ce, .int .i64 wk, .int .i64 ix] 40) = W0 := ⟨_, rfl⟩
  have kS := hide (show Blk W0 w.heap.size 25 #[.slice A n1 c, .slice A2 n2 c2] by rw [← hW0]; exact (blkNew rfl).alloc _)
  have kX := hide (show Blk W0 (w.heap.size + 1) 40 #[.slice L k cl, .slice E m ce, .int .i64 wk, .int .i64 ix] by rw [← hW0]; exact blkNew (by simp))
  have hB := hide (show Below w.heap.size w W0 by rw [← hW0]; exact ((Below.refl _ _).alloc (Nat.le_refl _) _).alloc (by simp) _)
  have s0 : W0.cell? ⟨w.heap.size, 0, none⟩ = some (.slice A n1 c) := kS.out.cell 0
  have s1 : W0.cell? ⟨w.heap.size, 1, none⟩ = some (.slice A2 n2 c2) := kS.out.cell 1
  have x0 : W0.cell? ⟨w.heap.size + 1, 0, none⟩ = some (.slice L k cl) := kX.out.cell 0
  have x1 : W0.cell? ⟨w.heap.size + 1, 1, none⟩ = some (.slice E m ce) := kX.out.cell 1
  have x2 : W0.cell? ⟨w.heap.size + 1, 2, none⟩ = some (.int .i64 wk) := kX.out.cell 2
  rw [← hW0] at s0 s1 x0 x1 x2
  replace hW0 := hide hW0
  go_enter Try.func17, Try.ntmps17
  go_wp2_with fail
  rw [hW0.out]
  refine (hAW.out _ hB.out).mono ?_
  rintro e w1 ⟨⟨v1, rfl, hT1⟩, hb⟩
  replace kS := hide (kS.out.below hb kS.out.lt)
  replace kX := hide (kX.out.below hb kX.out.lt)
  replace hB := hide (hB.out.trans (hb.mono hB.out.size))
  clear hb s0 s1 x0 x1 x2 hAW hW0
  have s0 : w1.cell? ⟨w.heap.size, 0, none⟩ = some (.slice A n1 c) := kS.out.cell 0
  have s1 : w1.cell? ⟨w.heap.size, 1, none⟩ = some (.slice A2 n2 c2) := kS.out.cell 1
  have x0 : w1.cell? ⟨w.heap.size + 1, 0, none⟩ = some (.slice L k cl) := kX.out.cell 0
  have x1 : w1.cell? ⟨w.heap.size + 1, 1, none⟩ = some (.slice E m ce) := kX.out.cell 1
  have x2 : w1.cell? ⟨w.heap.size + 1, 2, none⟩ = some (.int .i64 wk) := kX.out.cell 2
  obtain ⟨A3, c3, rfl, hr3, -⟩ := hT1
  by_cases hbd : q2 ≠ 0 ∧ q2 ≠ 9
  · have hT0 : q1 = none := hbad.out hbd.1
    subst hT0
    have b1 : (q2 != 0) = true := by rw [bne_iff_ne]; exact hbd.1
    have b2 : (q2 != 9) = true := by rw [bne_iff_ne]; exact hbd.2
    have b3 : (q2 == 0) = false := by rw [beq_eq_false_iff_ne]; exact hbd.1
    replace hbd := hide hbd
    simp only [Option.getD_none, List.length_nil]
    clear hr3
    go_wp2_with fail
    refine (AwakeS _).mono ?_
    rintro e w5 ⟨rfl, hb⟩
    replace hB := hide (hB.out.trans (hb.mono hB.out.size))
    clear hb s0 s1 x0 x1 x2
    go_wp2
    go_ret
    exact ⟨rfl, hB.out⟩
  · have h09 : q2 = 0 ∨ q2 = 9 := by omega
    obtain ⟨hh, hw, hl, hqe⟩ := hokk.out h09
    by_cases hm0 : m = 0
    · subst hm0
      clear hr3
      rcases h09 with rfl | rfl
      · go_wp2_with fail
        refine (AwakeS _).mono ?_
        rintro e w5 ⟨rfl, hb⟩
        replace hB := hide (hB.out.trans (hb.mono hB.out.size))
        clear hb s0 s1 x0 x1 x2
        go_wp2
        go_ret
        exact ⟨rfl, hB.out⟩
      · have hT0 : q1 = none := hbad.out (by decide)
        subst hT0
        simp only [Option.getD_none, List.length_nil]
        go_wp2_with fail
        refine (AwakeS _).mono ?_
        rintro e w5 ⟨rfl, hb⟩
        replace hB := hide (hB.out.trans (hb.mono hB.out.size))
        clear hb s0 s1 x0 x1 x2
        go_wp2
        go_ret
        exact ⟨rfl, hB.out⟩
    · have hkp : 0 < m := by omega
      have hkz : (0 : Int) < (m : Int) := by omega
      have bm : ((m : Int) == 0) = false := by rw [beq_eq_false_iff_ne]; omega
      obtain ⟨i, hi⟩ : ∃ i : Nat, cut.tmod (m : Int) = i := ⟨(cut.tmod m).toNat, by rw [Int.toNat_of_nonneg (Int.tmod_nonneg _ hcut.1)]⟩
      have hib : (i : Int) < (m : Int) := by rw [← hi]; exact Int.tmod_lt_of_pos _ hkz
      have hi2 : i < es.length := by rw [hel.out]; omega
      obtain ⟨hwa, hpre, hcutq, hpost⟩ := weeks_math hh hw hl hi2
      have hat := map_at evCells es i hi2
      have hck := hide (hist_ok hh).1
      have hpre2 := hAk.out
      have hesW := hesB.out
      obtain ⟨b, off, y0, y1, y2, y3, y4, rfl, hb0, hy, e0, e1, e2, e3, e4⟩ := (hesB.out w1 hB.out).cells5 (show i < m by omega)
      rw [hat] at hy
      unfold evCells at hy
      simp only [List.cons.injEq, and_true] at hy
      obtain ⟨rfl, rfl, rfl, rfl, rfl⟩ := hy
      clear e1 e2 e3 e4 hat hpre2 hesW
      have htk : ∀ W, Below w.heap.size w W → RdRow W (some ⟨b, off, none⟩) i 5 ((es.take i).map evCells) := fun W hb => by
        rw [List.map_take]; exact (hesB.out W hb).take (by omega)
      have hP1 := fun W (hb : Below w.heap.size w W) => hAk.out W L (some ⟨b, off, none⟩) k cl i ce rs (es.take i) (es[i]?.getD default).a hb (hlsB.out W hb) hk (htk W hb) (by omega) (by omega)
      rw [hpre] at hP1
      unfold AfterR at hP1
      simp only at hP1
      have hdrop := hide (show ∀ j, i ≤ j → j < m → ((es.drop i).map (shE (es[i]?.getD default).a))[j - i]?.getD default = shE (es[i]?.getD default).a (es[j]?.getD default) from fun j h1 h2 => by
        rw [List.getElem?_map, List.getElem?_drop, show i + (j - i) = j by omega, List.getElem?_eq_getElem (show j < es.length by rw [hel.out]; exact h2)]; rfl)
      have hdl := hide (show ((es.drop i).map (shE (es[i]?.getD default).a)).length = m - i by simp [hel.out])
      have hevc := hide (fun j (hj : j < m) => map_at evCells es j (by rw [hel.out]; exact hj))
      have hmono := hide (fun j (h1 : i ≤ j) (h2 : j < m) => show 0 ≤ (es[j]?.getD default).a ∧ (es[j]?.getD default).a ≤ 200 from by
        obtain ⟨_, _, _, h3, h4, _⟩ := (evs_ok (hist_ok hh).2.2).2 j (by rw [hel.out]; exact h2)
        exact ⟨h3, h4⟩)
      generalize (es[i]?.getD default).a = wa at *
      generalize (es.drop i).map (shE wa) = es2 at *
      obtain ⟨P, hPe⟩ : ∃ P, liveS S wa (es.take i) 0 rs = P := ⟨_, rfl⟩
      rw [hPe] at hpre hcutq hpost hP1
      rw [hcutq] at hqe
      have hqa := congrArg Prod.fst hqe
      have hqb := congrArg Prod.snd hqe
      simp only at hqa hqb
      clear hqe
      subst hqa
      have hck1 : ((checkS S).2.2 == 0) = true := by rw [beq_iff_eq]; exact hck.out
      rw [hck1] at hV
      replace hP1 := hide hP1
      replace hi := hide hi
      replace hh := hide hh
      replace hpre := hide hpre
      replace hPe := hide hPe
      replace hcutq := hide hcutq
      replace hpost := hide hpost
      replace hesB := hide (fun W hb => hesB.out W hb)
      obtain ⟨hwa0, hwa1⟩ := hwa
      obtain ⟨hw0, hw1⟩ := hw
      have hs1 := hB.out.size
      have hmb : m ≤ 60 := by have := (evs_ok (hist_ok hh.out).2.2).1; rw [hel.out] at this; exact this
      replace hm := hide hm
      replace hi2 := hide hi2
      replace hm0 := hide hm0
      replace hl := hide hl
      replace hk := hide hk
      clear hck1 htk h09 hokk hbad hbd
      cases P with
      | none =>
        replace hqb : q2 = 9 := hqb
        subst hqb
        clear hpost hr3
        simp only [Option.bind_none, Option.getD_none, List.length_nil]

        go_wp2_with fail
        refine (hV.out _ hB.out).mono ?_
        rintro e w2 ⟨rfl, hb⟩
        have e0' := (cellB (o := off + i * 5) hb hb0).trans e0
        have hb0' : b < w2.heap.size := Nat.lt_of_lt_of_le hb0 hb.size
        replace kS := hide (kS.out.below hb kS.out.lt)
        replace kX := hide (kX.out.below hb kX.out.lt)
        replace hB := hide (hB.out.trans (hb.mono hB.out.size))
        clear hb s0 s1 x0 x1 x2 e0 hV
        have x1 : w2.cell? ⟨w.heap.size + 1, 1, none⟩ = some (.slice (some ⟨b, off, none⟩) m ce) := kX.out.cell 1
        have hi' := hi.out
        go_wp2
        clear hi' x1 e0'
        have hs2 := hB.out.size
        have hsl1 : (i : Int) ≤ (ce : Int) := by omega
        have hsl2 : (0 : Int) ≤ (i : Int) := by omega
        refine region_grow [IsV (.agg #[.slice A n1 c, .slice A2 n2 c2]), IsV (.pointer (some ⟨w.heap.size + 1, 0, none⟩)), IsV (.slice L k cl), IsV (.pointer (some ⟨w.heap.size + 1, 1, none⟩)), IsV (.slice (some ⟨b, off, none⟩) m ce), IsV (.int .i64 i), IsV (.slice (some ⟨b, off, none⟩) i ce), IsV (.int .i64 wa), AfP ([] : List Sp) 9, AfP ([] : List Sp) 9, IsSpans ([] : List Sp), IsV (.int .i64 9), IsSpans ([] : List Sp), IsV (.int .i64 9)] (by kernel_rfl) (by kernel_rfl) rfl ?_ ?_ ?_
        · simp [AllStb, IsV.stb, AfP.stb, IsSpans.stb]
        · refine ⟨?_, ?_, ?_, ?_, ?_, ?_, ?_, ?_, ?_, ?_, ?_, ?_, ?_, ?_, trivial⟩
          all_goals
            intro y w6 K Qq Cv hC hd hV
            have q0 : w6.cell? ⟨w.heap.size, 0, none⟩ = some (.slice A n1 c) := (kS.out.below hC kS.out.lt).cell 0
            have q1 : w6.cell? ⟨w.heap.size, 1, none⟩ = some (.slice A2 n2 c2) := (kS.out.below hC kS.out.lt).cell 1
            have q2 : w6.cell? ⟨w.heap.size + 1, 0, none⟩ = some (.slice L k cl) := (kX.out.below hC kX.out.lt).cell 0
            have q3 : w6.cell? ⟨w.heap.size + 1, 1, none⟩ = some (.slice (some ⟨b, off, none⟩) m ce) := (kX.out.below hC kX.out.lt).cell 1
            simp [deps, VL, IsV, Region.binds] at hd
          · simp only [putAll, Act.put]; go_simp; intro hK; exact hK _ _ (hV _ _ hC (Below.refl _ _) rfl)
          · simp only [putAll, Act.put]; go_simp; intro hK; exact hK _ _ (hV _ _ hC (Below.refl _ _) rfl)
          · simp only [putAll, Act.put]; go_simp; intro hK; exact hK _ _ (hV _ _ hC (Below.refl _ _) rfl)
          · simp only [putAll, Act.put]; go_simp; intro hK; exact hK _ _ (hV _ _ hC (Below.refl _ _) rfl)
          · simp only [putAll, Act.put]; go_simp; intro hK; exact hK _ _ (hV _ _ hC (Below.refl _ _) rfl)
          · simp only [putAll, Act.put]; go_simp; intro hK; exact hK _ _ (hV _ _ hC (Below.refl _ _) rfl)
          · simp only [putAll, Act.put]; go_simp; intro hK; exact hK _ _ (hV _ _ hC (Below.refl _ _) rfl)
          · simp only [putAll, Act.put]; go_simp; intro hK; exact hK _ _ (hV _ _ hC (Below.refl _ _) rfl)
          · simp only [putAll, Act.put]; go_simp; intro hK
            refine (hP1.out _ (hB.out.trans (hC.mono hs2))).mono ?_
            rintro e w7 ⟨⟨x, rfl, hx⟩, hb7⟩
            exact hK _ _ (hV _ _ (hC.trans (hb7.mono hC.size)) hb7 ⟨x, rfl, hx⟩)
          · have hd0 := hd
            simp only [putAll, Act.put]; go_simp; intro hK; exact hK _ _ (hV _ _ hC (Below.refl _ _) hd0)
          · obtain ⟨x, hd0, hx⟩ := hd
            simp only [putAll, Act.put]; go_simp; intro hK; exact hK _ _ (hV _ _ hC (Below.refl _ _) hx)
          · obtain ⟨x, hd0, hx⟩ := hd
            simp only [putAll, Act.put]; go_simp; intro hK; exact hK _ _ (hV _ _ hC (Below.refl _ _) rfl)
          · have hd0 := hd.1
            simp only [putAll, Act.put]; go_simp; intro hK; exact hK _ _ (hV _ _ hC (Below.refl _ _) hd0)
          · simp only [putAll, Act.put]; go_simp; intro hK; exact hK _ _ (hV _ _ hC (Below.refl _ _) rfl)
        · intro y w6 hC hd
          simp [EndsL, IsV] at hd
          obtain ⟨d0, d1, d2, d3, d4, d5, d6, d7, d8, d9, d10, d11, d12, d13⟩ := hd
          simp only [putAll, Act.put]
          obtain ⟨Lm, cm, d12, hrm, hcm⟩ := d12
          rw [d12, d13]
          clear d0 d1 d2 d3 d4 d5 d6 d7 d8 d9 d10 d11 d12 d13
          simp only [List.setIfInBounds_toArray, List.set_cons_succ, List.set_cons_zero]
          have kS6 := hide (kS.out.below hC kS.out.lt)
          have kX6 := hide (kX.out.below hC kX.out.lt)
          have hB6 := hide (hB.out.trans (hC.mono hs2))
          clear kS kX hB hs2 hC hP1
          clear hrm hcm
          go_wp2_with fail
          refine (AwakeS _).mono ?_
          rintro e w7 ⟨rfl, hb⟩
          replace hB6 := hide (hB6.out.trans (hb.mono hB6.out.size))
          clear hb
          go_wp2
          go_ret
          exact ⟨rfl, hB6.out⟩
      | some T1 =>
        obtain ⟨hl1, hp2⟩ := hpost.out T1 rfl
        replace hl1 := hide hl1
        obtain ⟨R, hR⟩ : ∃ R, liveS S wk (es.drop i) wa T1 = R := ⟨_, rfl⟩
        have hR' : (some T1).bind (liveS S wk (es.drop i) wa) = R := hR
        rw [hR'] at hqb hr3 hlm ⊢
        rw [hR] at hp2
        clear hpost
        cases R with
        | none =>
          replace hqb : q2 = 9 := hqb
          subst hqb
          go_wp2_with fail
          refine (hV.out _ hB.out).mono ?_
          rintro e w2 ⟨rfl, hb⟩
          have e0' := (cellB (o := off + i * 5) hb hb0).trans e0
          have hb0' : b < w2.heap.size := Nat.lt_of_lt_of_le hb0 hb.size
          replace kS := hide (kS.out.below hb kS.out.lt)
          replace kX := hide (kX.out.below hb kX.out.lt)
          replace hB := hide (hB.out.trans (hb.mono hB.out.size))
          clear hb s0 s1 x0 x1 x2 e0 hV
          have x1 : w2.cell? ⟨w.heap.size + 1, 1, none⟩ = some (.slice (some ⟨b, off, none⟩) m ce) := kX.out.cell 1
          have hi' := hi.out
          go_wp2
          clear hi' x1 e0'
          have hs2 := hB.out.size
          have hsl1 : (i : Int) ≤ (ce : Int) := by omega
          have hsl2 : (0 : Int) ≤ (i : Int) := by omega
          refine region_grow [IsV (.agg #[.slice A n1 c, .slice A2 n2 c2]), IsV (.pointer (some ⟨w.heap.size + 1, 0, none⟩)), IsV (.slice L k cl), IsV (.pointer (some ⟨w.heap.size + 1, 1, none⟩)), IsV (.slice (some ⟨b, off, none⟩) m ce), IsV (.int .i64 i), IsV (.slice (some ⟨b, off, none⟩) i ce), IsV (.int .i64 wa), AfP T1 0, AfP T1 0, IsSpans T1, IsV (.int .i64 0), IsSpans T1, IsV (.int .i64 0)] (by kernel_rfl) (by kernel_rfl) rfl ?_ ?_ ?_
          · simp [AllStb, IsV.stb, AfP.stb, IsSpans.stb]
          · refine ⟨?_, ?_, ?_, ?_, ?_, ?_, ?_, ?_, ?_, ?_, ?_, ?_, ?_, ?_, trivial⟩
            all_goals
              intro y w6 K Qq Cv hC hd hV
              have q0 : w6.cell? ⟨w.heap.size, 0, none⟩ = some (.slice A n1 c) := (kS.out.below hC kS.out.lt).cell 0
              have q1 : w6.cell? ⟨w.heap.size, 1, none⟩ = some (.slice A2 n2 c2) := (kS.out.below hC kS.out.lt).cell 1
              have q2 : w6.cell? ⟨w.heap.size + 1, 0, none⟩ = some (.slice L k cl) := (kX.out.below hC kX.out.lt).cell 0
              have q3 : w6.cell? ⟨w.heap.size + 1, 1, none⟩ = some (.slice (some ⟨b, off, none⟩) m ce) := (kX.out.below hC kX.out.lt).cell 1
              simp [deps, VL, IsV, Region.binds] at hd
            · simp only [putAll, Act.put]; go_simp; intro hK; exact hK _ _ (hV _ _ hC (Below.refl _ _) rfl)
            · simp only [putAll, Act.put]; go_simp; intro hK; exact hK _ _ (hV _ _ hC (Below.refl _ _) rfl)
            · simp only [putAll, Act.put]; go_simp; intro hK; exact hK _ _ (hV _ _ hC (Below.refl _ _) rfl)
            · simp only [putAll, Act.put]; go_simp; intro hK; exact hK _ _ (hV _ _ hC (Below.refl _ _) rfl)
            · simp only [putAll, Act.put]; go_simp; intro hK; exact hK _ _ (hV _ _ hC (Below.refl _ _) rfl)
            · simp only [putAll, Act.put]; go_simp; intro hK; exact hK _ _ (hV _ _ hC (Below.refl _ _) rfl)
            · simp only [putAll, Act.put]; go_simp; intro hK; exact hK _ _ (hV _ _ hC (Below.refl _ _) rfl)
            · simp only [putAll, Act.put]; go_simp; intro hK; exact hK _ _ (hV _ _ hC (Below.refl _ _) rfl)
            · simp only [putAll, Act.put]; go_simp; intro hK
              refine (hP1.out _ (hB.out.trans (hC.mono hs2))).mono ?_
              rintro e w7 ⟨⟨x, rfl, hx⟩, hb7⟩
              exact hK _ _ (hV _ _ (hC.trans (hb7.mono hC.size)) hb7 ⟨x, rfl, hx⟩)
            · have hd0 := hd
              simp only [putAll, Act.put]; go_simp; intro hK; exact hK _ _ (hV _ _ hC (Below.refl _ _) hd0)
            · obtain ⟨x, hd0, hx⟩ := hd
              simp only [putAll, Act.put]; go_simp; intro hK; exact hK _ _ (hV _ _ hC (Below.refl _ _) hx)
            · obtain ⟨x, hd0, hx⟩ := hd
              simp only [putAll, Act.put]; go_simp; intro hK; exact hK _ _ (hV _ _ hC (Below.refl _ _) rfl)
            · have hd0 := hd.1
              simp only [putAll, Act.put]; go_simp; intro hK; exact hK _ _ (hV _ _ hC (Below.refl _ _) hd0)
            · simp only [putAll, Act.put]; go_simp; intro hK; exact hK _ _ (hV _ _ hC (Below.refl _ _) rfl)
          · intro y w6 hC hd
            simp [EndsL, IsV] at hd
            obtain ⟨d0, d1, d2, d3, d4, d5, d6, d7, d8, d9, d10, d11, d12, d13⟩ := hd
            simp only [putAll, Act.put]
            obtain ⟨Lm, cm, d12, hrm, hcm⟩ := d12
            rw [d12, d13]
            clear d0 d1 d2 d3 d4 d5 d6 d7 d8 d9 d10 d11 d12 d13
            simp only [List.setIfInBounds_toArray, List.set_cons_succ, List.set_cons_zero]
            have kS6 := hide (kS.out.below hC kS.out.lt)
            have kX6 := hide (kX.out.below hC kX.out.lt)
            have hB6 := hide (hB.out.trans (hC.mono hs2))
            clear kS kX hB hs2 hC hP1
            have hs6 := hB6.out.size
            obtain ⟨i0, hi0', hz0, hz1, hz2⟩ := info_parts infoEv
            replace hi0' := hide hi0'
            replace hz0 := hide hz0
            replace hz1 := hide hz1
            replace hz2 := hide hz2
            go_wp2
            go_loopg [13, 14, 15] (m - i) (fun gg s13 s14 _ wr => ∃ j : Nat, i ≤ j ∧ j ≤ m ∧ m ≤ gg + j ∧ s14 = .int .i64 j ∧ Hid (Below w6.heap.size w6 wr) ∧ Hid (wr.ownsRow w6.heap.size 78 5 s13 (j - i) ((es2.take (j - i)).flatMap evCells)))
            case atStart => exact ⟨i, Nat.le_refl _, by omega, by omega, rfl, Below.refl _ _, by rw [Nat.sub_self]; exact World.ownsRow_nil _ _ _ _⟩
            case round =>
              obtain ⟨j, hij, hj, hgg, rfl, hBr, ho1⟩ := hrel
              have hBw := hide (hB6.out.trans (hBr.out.mono hs6))
              have kXr := kX6.out.below hBr.out kX6.out.lt
              have x1 : wr.cell? ⟨w.heap.size + 1, 1, none⟩ = some (.slice (some ⟨b, off, none⟩) m ce) := kXr.cell 1
              by_cases hlt : j < m
              · have hltz : (j : Int) < (m : Int) := by omega
                obtain ⟨b', off', z0, z1, z2, z3, z4, hA, hbb, hz, d0, d1, d2, d3, d4⟩ := (hesB.out wr hBw.out).cells5 hlt
                obtain ⟨rfl, rfl⟩ : b = b' ∧ off = off' := by simpa using hA
                clear hA
                rw [hevc.out j hlt] at hz
                unfold evCells at hz
                simp only [List.cons.injEq, and_true] at hz
                obtain ⟨rfl, rfl, rfl, rfl, rfl⟩ := hz
                have htk := hide (takeEv es2 (j - i) (by rw [hdl.out]; omega))
                rw [hdrop.out j hij hlt] at htk
                have hab := hmono.out j hij hlt
                generalize es[j]?.getD default = ev at *
                obtain ⟨ea, eb, ec, ed, ee⟩ := ev
                rw [show evCells (shE wa ⟨ea, eb, ec, ed, ee⟩) = [.int .i64 (ea - wa), .int .i64 eb, .int .i64 ec, .int .i64 ed, .int .i64 ee] from rfl] at htk
                simp only at hab d0 d1 d2 d3 d4
                have hwz : IntKind.i64.wrap (ea - wa) = ea - wa := by rw [IntKind.wrap_i64]; omega
                have hsr := hBr.out.size
                go_wp2_with (at_builtin; refine wpList_append_own _ rfl _ _ 38 rfl w6.heap.size 78 i0 (.agg #[.int .i64 0, .int .i64 0, .int .i64 0, .int .i64 0, .int .i64 0]) 5 40 Try.underlying38 hi0'.out hz0.out hz1.out hz2.out rfl (by decide) _ _ _ rfl ((ho1.out.alloc _).alloc _) ⟨wr.heap.size + 1, 0, none⟩ 1 1 [.int .i64 (ea - wa), .int .i64 eb, .int .i64 ec, .int .i64 ed, .int .i64 ee] rfl rfl (cell_five_new (by simp) _ _ _ _ _ _) (by simp [Value.oneCell']) (by unfold maxLen; omega) (by omega) (by simp; omega) ?_; intro v' w7 hown7 hgrow7 _)
                have hB7 := hide ((((Below.refl w6.heap.size w6).trans (hBr.out.mono (Nat.le_refl _))).alloc hsr (.cells #[.int .i64 (ea - wa), .int .i64 eb, .int .i64 ec, .int .i64 ed, .int .i64 ee] 78)).alloc (by simp; omega) (.cells #[.int .i64 (ea - wa), .int .i64 eb, .int .i64 ec, .int .i64 ed, .int .i64 ee] 78) |>.grown hgrow7 (by simp; omega) (fun k hk => (ho1.out.lt k hk).1))
                have hown8 := hide (show w7.ownsRow w6.heap.size 78 5 v' (j + 1 - i) ((es2.take (j + 1 - i)).flatMap evCells) by
                  rw [show j + 1 - i = j - i + 1 by omega, htk.out]; exact hown7)
                clear hgrow7 ho1 hown7 d0 d1 d2 d3 d4 x1 htk
                go_wp2
                go_roundg (m - (j + 1))
                case measure => omega
                case rel => exact ⟨j + 1, by omega, by omega, by omega, by go_num, hB7.out, hown8.out⟩
              · have hltz : ¬ (j : Int) < (m : Int) := by omega
                obtain rfl : j = m := by omega
                have hev2 : IsEvs es2 u13 wr := isEvs_own (base := w6.heap.size) (by
                  have h := ho1.out
                  rw [List.take_of_length_le (by rw [hdl.out]; exact Nat.le_refl _)] at h
                  rw [hdl.out]; exact h)
                obtain ⟨Le, le, rfl, hre, hce2⟩ := hev2
                rw [hdl.out] at hre hce2 ⊢
                have kSr := kS6.out.below hBr.out kS6.out.lt
                have s0 : wr.cell? ⟨w.heap.size, 0, none⟩ = some (.slice A n1 c) := kSr.cell 0
                have s1 : wr.cell? ⟨w.heap.size, 1, none⟩ = some (.slice A2 n2 c2) := kSr.cell 1
                have x2 : wr.cell? ⟨w.heap.size + 1, 2, none⟩ = some (.int .i64 wk) := kXr.cell 2
                have hwz : IntKind.i64.wrap (wk - wa) = wk - wa := by rw [IntKind.wrap_i64]; omega
                have hT15 : T1.length ≤ 5 := by rw [hl1.out]; exact (check_ok hck.out).2.1
                have hAf := hAk.out wr Lm Le T1.length cm (j - i) le T1 es2 (wk - wa) hBw.out (hrm.below hBr.out) (by unfold maxLen; omega) hre (by unfold maxLen; omega) hce2
                rw [hp2] at hAf
                unfold AfterR at hAf
                simp only [Option.getD_none, show e9 (none : Option (List Sp)) = 9 from rfl] at hAf
                replace hAf := hide hAf
                clear ho1 hre hce2 kSr
                go_wp2_with fail
                refine hAf.out.mono ?_
                rintro e w8 ⟨⟨v8, rfl, hT8⟩, hb8⟩
                have hB8 := hide (hBw.out.trans (hb8.mono hBw.out.size))
                have hBr8 := hBr.out.trans (hb8.mono hBr.out.size)
                clear hAf s0 s1 x1 x2 hb8
                obtain ⟨A8, c8, rfl, hr8, -⟩ := hT8
                have hSp := Spans_any A3 A8 0 0 c3 c8 [] [] w8 (RdRow.nil _ _ _) (RdRow.nil _ _ _) (by unfold maxLen; omega) (by unfold maxLen; omega)
                simp only [decide_true] at hSp
                replace hSp := hide hSp
                clear hr8
                simp only [List.length_nil]
                go_wp2_with fail
                refine hSp.out.mono ?_
                rintro e w10 ⟨rfl, hb⟩
                replace hB8 := hide (hB8.out.trans (hb.mono hB8.out.size))
                clear hb hSp
                go_wp2_with fail
                refine (AwakeS _).mono ?_
                rintro e w9 ⟨rfl, hb⟩
                replace hB8 := hide (hB8.out.trans (hb.mono hB8.out.size))
                clear hb
                go_wp2
                go_ret
                exact ⟨rfl, hB8.out⟩
        | some T2 =>
          replace hqb : q2 = 0 := hqb
          subst hqb
          simp only [Option.getD_some] at hr3 hlm ⊢
          go_wp2_with fail
          refine (hV.out _ hB.out).mono ?_
          rintro e w2 ⟨rfl, hb⟩
          have e0' := (cellB (o := off + i * 5) hb hb0).trans e0
          have hb0' : b < w2.heap.size := Nat.lt_of_lt_of_le hb0 hb.size
          replace kS := hide (kS.out.below hb kS.out.lt)
          replace kX := hide (kX.out.below hb kX.out.lt)
          replace hB := hide (hB.out.trans (hb.mono hB.out.size))
          have hr3w2 := hr3.below hb
          clear hb s0 s1 x0 x1 x2 e0 hV hr3
          have x1 : w2.cell? ⟨w.heap.size + 1, 1, none⟩ = some (.slice (some ⟨b, off, none⟩) m ce) := kX.out.cell 1
          have hi' := hi.out
          go_wp2
          clear hi' x1 e0'
          have hs2 := hB.out.size
          have hsl1 : (i : Int) ≤ (ce : Int) := by omega
          have hsl2 : (0 : Int) ≤ (i : Int) := by omega
          refine region_grow [IsV (.agg #[.slice A n1 c, .slice A2 n2 c2]), IsV (.pointer (some ⟨w.heap.size + 1, 0, none⟩)), IsV (.slice L k cl), IsV (.pointer (some ⟨w.heap.size + 1, 1, none⟩)), IsV (.slice (some ⟨b, off, none⟩) m ce), IsV (.int .i64 i), IsV (.slice (some ⟨b, off, none⟩) i ce), IsV (.int .i64 wa), AfP T1 0, AfP T1 0, IsSpans T1, IsV (.int .i64 0), IsSpans T1, IsV (.int .i64 0)] (by kernel_rfl) (by kernel_rfl) rfl ?_ ?_ ?_
          · simp [AllStb, IsV.stb, AfP.stb, IsSpans.stb]
          · refine ⟨?_, ?_, ?_, ?_, ?_, ?_, ?_, ?_, ?_, ?_, ?_, ?_, ?_, ?_, trivial⟩
            all_goals
              intro y w6 K Qq Cv hC hd hV
              have q0 : w6.cell? ⟨w.heap.size, 0, none⟩ = some (.slice A n1 c) := (kS.out.below hC kS.out.lt).cell 0
              have q1 : w6.cell? ⟨w.heap.size, 1, none⟩ = some (.slice A2 n2 c2) := (kS.out.below hC kS.out.lt).cell 1
              have q2 : w6.cell? ⟨w.heap.size + 1, 0, none⟩ = some (.slice L k cl) := (kX.out.below hC kX.out.lt).cell 0
              have q3 : w6.cell? ⟨w.heap.size + 1, 1, none⟩ = some (.slice (some ⟨b, off, none⟩) m ce) := (kX.out.below hC kX.out.lt).cell 1
              simp [deps, VL, IsV, Region.binds] at hd
            · simp only [putAll, Act.put]; go_simp; intro hK; exact hK _ _ (hV _ _ hC (Below.refl _ _) rfl)
            · simp only [putAll, Act.put]; go_simp; intro hK; exact hK _ _ (hV _ _ hC (Below.refl _ _) rfl)
            · simp only [putAll, Act.put]; go_simp; intro hK; exact hK _ _ (hV _ _ hC (Below.refl _ _) rfl)
            · simp only [putAll, Act.put]; go_simp; intro hK; exact hK _ _ (hV _ _ hC (Below.refl _ _) rfl)
            · simp only [putAll, Act.put]; go_simp; intro hK; exact hK _ _ (hV _ _ hC (Below.refl _ _) rfl)
            · simp only [putAll, Act.put]; go_simp; intro hK; exact hK _ _ (hV _ _ hC (Below.refl _ _) rfl)
            · simp only [putAll, Act.put]; go_simp; intro hK; exact hK _ _ (hV _ _ hC (Below.refl _ _) rfl)
            · simp only [putAll, Act.put]; go_simp; intro hK; exact hK _ _ (hV _ _ hC (Below.refl _ _) rfl)
            · simp only [putAll, Act.put]; go_simp; intro hK
              refine (hP1.out _ (hB.out.trans (hC.mono hs2))).mono ?_
              rintro e w7 ⟨⟨x, rfl, hx⟩, hb7⟩
              exact hK _ _ (hV _ _ (hC.trans (hb7.mono hC.size)) hb7 ⟨x, rfl, hx⟩)
            · have hd0 := hd
              simp only [putAll, Act.put]; go_simp; intro hK; exact hK _ _ (hV _ _ hC (Below.refl _ _) hd0)
            · obtain ⟨x, hd0, hx⟩ := hd
              simp only [putAll, Act.put]; go_simp; intro hK; exact hK _ _ (hV _ _ hC (Below.refl _ _) hx)
            · obtain ⟨x, hd0, hx⟩ := hd
              simp only [putAll, Act.put]; go_simp; intro hK; exact hK _ _ (hV _ _ hC (Below.refl _ _) rfl)
            · have hd0 := hd.1
              simp only [putAll, Act.put]; go_simp; intro hK; exact hK _ _ (hV _ _ hC (Below.refl _ _) hd0)
            · simp only [putAll, Act.put]; go_simp; intro hK; exact hK _ _ (hV _ _ hC (Below.refl _ _) rfl)
          · intro y w6 hC hd
            simp [EndsL, IsV] at hd
            obtain ⟨d0, d1, d2, d3, d4, d5, d6, d7, d8, d9, d10, d11, d12, d13⟩ := hd
            simp only [putAll, Act.put]
            obtain ⟨Lm, cm, d12, hrm, hcm⟩ := d12
            rw [d12, d13]
            clear d0 d1 d2 d3 d4 d5 d6 d7 d8 d9 d10 d11 d12 d13
            simp only [List.setIfInBounds_toArray, List.set_cons_succ, List.set_cons_zero]
            have kS6 := hide (kS.out.below hC kS.out.lt)
            have kX6 := hide (kX.out.below hC kX.out.lt)
            have hB6 := hide (hB.out.trans (hC.mono hs2))
            have hr38 := hr3w2.below hC
            clear kS kX hB hs2 hC hP1 hr3w2
            have hs6 := hB6.out.size
            obtain ⟨i0, hi0', hz0, hz1, hz2⟩ := info_parts infoEv
            replace hi0' := hide hi0'
            replace hz0 := hide hz0
            replace hz1 := hide hz1
            replace hz2 := hide hz2
            go_wp2
            go_loopg [13, 14, 15] (m - i) (fun gg s13 s14 _ wr => ∃ j : Nat, i ≤ j ∧ j ≤ m ∧ m ≤ gg + j ∧ s14 = .int .i64 j ∧ Hid (Below w6.heap.size w6 wr) ∧ Hid (wr.ownsRow w6.heap.size 78 5 s13 (j - i) ((es2.take (j - i)).flatMap evCells)))
            case atStart => exact ⟨i, Nat.le_refl _, by omega, by omega, rfl, Below.refl _ _, by rw [Nat.sub_self]; exact World.ownsRow_nil _ _ _ _⟩
            case round =>
              obtain ⟨j, hij, hj, hgg, rfl, hBr, ho1⟩ := hrel
              have hBw := hide (hB6.out.trans (hBr.out.mono hs6))
              have kXr := kX6.out.below hBr.out kX6.out.lt
              have x1 : wr.cell? ⟨w.heap.size + 1, 1, none⟩ = some (.slice (some ⟨b, off, none⟩) m ce) := kXr.cell 1
              by_cases hlt : j < m
              · have hltz : (j : Int) < (m : Int) := by omega
                obtain ⟨b', off', z0, z1, z2, z3, z4, hA, hbb, hz, d0, d1, d2, d3, d4⟩ := (hesB.out wr hBw.out).cells5 hlt
                obtain ⟨rfl, rfl⟩ : b = b' ∧ off = off' := by simpa using hA
                clear hA
                rw [hevc.out j hlt] at hz
                unfold evCells at hz
                simp only [List.cons.injEq, and_true] at hz
                obtain ⟨rfl, rfl, rfl, rfl, rfl⟩ := hz
                have htk := hide (takeEv es2 (j - i) (by rw [hdl.out]; omega))
                rw [hdrop.out j hij hlt] at htk
                have hab := hmono.out j hij hlt
                generalize es[j]?.getD default = ev at *
                obtain ⟨ea, eb, ec, ed, ee⟩ := ev
                rw [show evCells (shE wa ⟨ea, eb, ec, ed, ee⟩) = [.int .i64 (ea - wa), .int .i64 eb, .int .i64 ec, .int .i64 ed, .int .i64 ee] from rfl] at htk
                simp only at hab d0 d1 d2 d3 d4
                have hwz : IntKind.i64.wrap (ea - wa) = ea - wa := by rw [IntKind.wrap_i64]; omega
                have hsr := hBr.out.size
                go_wp2_with (at_builtin; refine wpList_append_own _ rfl _ _ 38 rfl w6.heap.size 78 i0 (.agg #[.int .i64 0, .int .i64 0, .int .i64 0, .int .i64 0, .int .i64 0]) 5 40 Try.underlying38 hi0'.out hz0.out hz1.out hz2.out rfl (by decide) _ _ _ rfl ((ho1.out.alloc _).alloc _) ⟨wr.heap.size + 1, 0, none⟩ 1 1 [.int .i64 (ea - wa), .int .i64 eb, .int .i64 ec, .int .i64 ed, .int .i64 ee] rfl rfl (cell_five_new (by simp) _ _ _ _ _ _) (by simp [Value.oneCell']) (by unfold maxLen; omega) (by omega) (by simp; omega) ?_; intro v' w7 hown7 hgrow7 _)
                have hB7 := hide ((((Below.refl w6.heap.size w6).trans (hBr.out.mono (Nat.le_refl _))).alloc hsr (.cells #[.int .i64 (ea - wa), .int .i64 eb, .int .i64 ec, .int .i64 ed, .int .i64 ee] 78)).alloc (by simp; omega) (.cells #[.int .i64 (ea - wa), .int .i64 eb, .int .i64 ec, .int .i64 ed, .int .i64 ee] 78) |>.grown hgrow7 (by simp; omega) (fun k hk => (ho1.out.lt k hk).1))
                have hown8 := hide (show w7.ownsRow w6.heap.size 78 5 v' (j + 1 - i) ((es2.take (j + 1 - i)).flatMap evCells) by
                  rw [show j + 1 - i = j - i + 1 by omega, htk.out]; exact hown7)
                clear hgrow7 ho1 hown7 d0 d1 d2 d3 d4 x1 htk
                go_wp2
                go_roundg (m - (j + 1))
                case measure => omega
                case rel => exact ⟨j + 1, by omega, by omega, by omega, by go_num, hB7.out, hown8.out⟩
              · have hltz : ¬ (j : Int) < (m : Int) := by omega
                obtain rfl : j = m := by omega
                have hev2 : IsEvs es2 u13 wr := isEvs_own (base := w6.heap.size) (by
                  have h := ho1.out
                  rw [List.take_of_length_le (by rw [hdl.out]; exact Nat.le_refl _)] at h
                  rw [hdl.out]; exact h)
                obtain ⟨Le, le, rfl, hre, hce2⟩ := hev2
                rw [hdl.out] at hre hce2 ⊢
                have kSr := kS6.out.below hBr.out kS6.out.lt
                have s0 : wr.cell? ⟨w.heap.size, 0, none⟩ = some (.slice A n1 c) := kSr.cell 0
                have s1 : wr.cell? ⟨w.heap.size, 1, none⟩ = some (.slice A2 n2 c2) := kSr.cell 1
                have x2 : wr.cell? ⟨w.heap.size + 1, 2, none⟩ = some (.int .i64 wk) := kXr.cell 2
                have hwz : IntKind.i64.wrap (wk - wa) = wk - wa := by rw [IntKind.wrap_i64]; omega
                have hT15 : T1.length ≤ 5 := by rw [hl1.out]; exact (check_ok hck.out).2.1
                have hAf := hAk.out wr Lm Le T1.length cm (j - i) le T1 es2 (wk - wa) hBw.out (hrm.below hBr.out) (by unfold maxLen; omega) hre (by unfold maxLen; omega) hce2
                rw [hp2] at hAf
                unfold AfterR at hAf
                simp only [Option.getD_some, show ∀ T, e9 (some T : Option (List Sp)) = 0 from fun _ => rfl] at hAf
                replace hAf := hide hAf
                clear ho1 hre hce2 kSr
                go_wp2_with fail
                refine hAf.out.mono ?_
                rintro e w8 ⟨⟨v8, rfl, hT8⟩, hb8⟩
                have hB8 := hide (hBw.out.trans (hb8.mono hBw.out.size))
                have hBr8 := hBr.out.trans (hb8.mono hBr.out.size)
                clear hAf s0 s1 x1 x2 hb8
                obtain ⟨A8, c8, rfl, hr8, -⟩ := hT8
                have hr3' := hr38.below hBr8
                have hSp := Spans_any A3 A8 T2.length T2.length c3 c8 T2 T2 w8 hr3' hr8 hlm.out hlm.out
                simp only [decide_true] at hSp
                replace hSp := hide hSp
                clear hr8 hr3'
                go_wp2_with fail
                refine hSp.out.mono ?_
                rintro e w10 ⟨rfl, hb⟩
                replace hB8 := hide (hB8.out.trans (hb.mono hB8.out.size))
                clear hb hSp
                go_wp2_with fail
                refine (AwakeS _).mono ?_
                rintro e w9 ⟨rfl, hb⟩
                replace hB8 := hide (hB8.out.trans (hb.mono hB8.out.size))
                clear hb
                go_wp2
                go_ret
                exact ⟨rfl, hB8.out⟩
end Go.Proofs.Ytkhijdbigpaagaa
