/-
  The law SkillSevere.
-/
import Derived.Test.YtkhijdbigpaagaaNll
import Derived.Test.YtkhijdbigpaagaaNlo
import Derived.Test.YtkhijdbigpaagaaNl
import Derived.Test.YtkhijdbigpaagaaNda
namespace Go.Proofs.Ytkhijdbigpaagaa
open Go.RowKit RG

set_option maxRecDepth 100000 in
set_option maxHeartbeats 2000000 in
theorem SkillSevere_any (v : Value) (S : Sch) (Wh N : Option Addr) (nw cw nn nc : Nat) (d0 d1 : Int) (same : Bool) (wh : Int) (w : World) (h : RdSch w v S) (hwh : RdU16 w Wh nw) (hwn : nw ≤ maxLen) (hnu : RdU16 w N nn) (hnn : nn ≤ maxLen) (hd0 : 0 ≤ d0 ∧ d0 ≤ 255) (hd1 : 0 ≤ d1 ∧ d1 ≤ 255) (hwi : 0 ≤ wh ∧ wh ≤ 255) :
    Calls Try.prog 11 #[v, .agg #[.slice Wh nw cw, .slice N nn nc, .int .u8 d0, .int .u8 d1, .bool same], .int .u8 wh] w fun e w' => e = .returned (.bool true) ∧ Below w.heap.size w w' := by
  have hV := hide (fun W (hb : Below w.heap.size w W) => valid_any v S W (h.below hb))
  have hLv := hide (fun (sm : Bool) (hck : (checkS S).2.2 = 0) W (hb : Below w.heap.size w W) => lived_any v S Wh N nw cw nn nc d0 d1 sm W (h.below hb) hck (hwh.below hb) hwn (hnu.below hb) hnn hd0 hd1)
  have hSv := hide (fun W (L E : Option Addr) (k cl m ce : Nat) (rs : List Sp) (es : List Ev) (ix : Int) (hb : Below w.heap.size w W) h2 h3 h4 h5 h6 => Severity_any v S L E k cl m ce rs es ix W (h.below hb) h2 h3 h4 h5 h6)
  unfold SevR at hSv
  have hn2c := h
  obtain ⟨A, c, A2, c2, rfl, -, -, -, -, hins, -⟩ := h
  have hinB := hide (fun W (hb : Below w.heap.size w W) => hins.below hb)
  obtain ⟨n1, hn1⟩ : ∃ n, S.sks.length = n := ⟨_, rfl⟩
  obtain ⟨n2, hn2⟩ : ∃ n, S.ins.length = n := ⟨_, rfl⟩
  clear hn2c hins hwh hnu
  unfold LivedR at hLv
  rw [hn1, hn2] at hV hLv hSv ⊢
  rw [hn2] at hinB
  replace hn1 := hide hn1
  replace hn2 := hide hn2
  obtain ⟨W0, hW0⟩ : ∃ W0, (w.alloc (.cells #[.slice A n1 c, .slice A2 n2 c2] 25)).alloc (.cells #[.slice Wh nw cw, .slice N nn nc, .int .u8 d0, .int .u8 d1, .bool same] 68) = W0 := ⟨_, rfl⟩
  have kS := hide (show Blk W0 w.heap.size 25 #[.slice A n1 c, .slice A2 n2 c2] by rw [← hW0]; exact (blkNew rfl).alloc _)
  have kX := hide (show Blk W0 (w.heap.size + 1) 68 #[.slice Wh nw cw, .slice N nn nc, .int .u8 d0, .int .u8 d1, .bool same] by rw [← hW0]; exact blkNew (by simp))
  have hB := hide (show Below w.heap.size w W0 by rw [← hW0]; exact ((Below.refl _ _).alloc (Nat.le_refl _) _).alloc (by simp) _)
  have s0 : W0.cell? ⟨w.heap.size, 0, none⟩ = some (.slice A n1 c) := kS.out.cell 0
  have s1 : W0.cell? ⟨w.heap.size, 1, none⟩ = some (.slice A2 n2 c2) := kS.out.cell 1
  rw [← hW0] at s0 s1
  replace hW0 := hide hW0
  go_enter Try.func11, Try.ntmps11
  go_wp2_with fail
  rw [hW0.out]
  refine (hV.out _ hB.out).mono ?_
  rintro e w1 ⟨rfl, hb⟩
  replace kS := hide (kS.out.below hb kS.out.lt)
  replace kX := hide (kX.out.below hb kX.out.lt)
  replace hB := hide (hB.out.trans (hb.mono hB.out.size))
  clear hb s0 s1 hW0 hV
  have s0 : w1.cell? ⟨w.heap.size, 0, none⟩ = some (.slice A n1 c) := kS.out.cell 0
  have s1 : w1.cell? ⟨w.heap.size, 1, none⟩ = some (.slice A2 n2 c2) := kS.out.cell 1
  by_cases hck : (checkS S).2.2 = 0
  · have b1 : ((checkS S).2.2 == 0) = true := by rw [beq_iff_eq]; exact hck
    rw [b1]
    by_cases hn0 : n2 = 0
    · have b2 : ((n2 : Int) == 0) = true := by rw [beq_iff_eq]; omega
      replace hn0 := hide hn0
      clear hLv hSv
      go_wp2_with fail
      refine (AwakeS _).mono ?_
      rintro e w9 ⟨rfl, hb⟩
      replace hB := hide (hB.out.trans (hb.mono hB.out.size))
      clear hb s0 s1
      go_wp2
      go_ret
      exact ⟨rfl, hB.out⟩
    · have b2 : ((n2 : Int) == 0) = false := by rw [beq_eq_false_iff_ne]; omega
      have zX := kX.out.lt
      have zS := kS.out.lt
      have c4 : w1.cell? ⟨w.heap.size + 1, 4, none⟩ = some (.bool same) := kX.out.cell 4
      have f4 := kX.out.frozen 4
      obtain ⟨W1, hW1⟩ : ∃ W1, w1.setCell ⟨w.heap.size + 1, 4, none⟩ (.bool true) = W1 := ⟨_, rfl⟩
      have kX1 := hide (show Blk W1 (w.heap.size + 1) 68 #[.slice Wh nw cw, .slice N nn nc, .int .u8 d0, .int .u8 d1, .bool true] by
        rw [← hW1]
        have := kX.out.set_ 4 (.bool true)
        simpa using this)
      have kS1 := hide (show Blk W1 w.heap.size 25 #[.slice A n1 c, .slice A2 n2 c2] by rw [← hW1]; exact kS.out.far (p := ⟨w.heap.size + 1, 4, none⟩) (by simp) _)
      have hB1 := hide (show Below w.heap.size w W1 by rw [← hW1]; exact hB.out.setCell (p := ⟨w.heap.size + 1, 4, none⟩) (by simp) _)
      have y0 : W1.cell? ⟨w.heap.size, 0, none⟩ = some (.slice A n1 c) := kS1.out.cell 0
      have y1 : W1.cell? ⟨w.heap.size, 1, none⟩ = some (.slice A2 n2 c2) := kS1.out.cell 1
      have x0 : W1.cell? ⟨w.heap.size + 1, 0, none⟩ = some (.slice Wh nw cw) := kX1.out.cell 0
      have x1 : W1.cell? ⟨w.heap.size + 1, 1, none⟩ = some (.slice N nn nc) := kX1.out.cell 1
      have x2 : W1.cell? ⟨w.heap.size + 1, 2, none⟩ = some (.int .u8 d0) := kX1.out.cell 2
      have x3 : W1.cell? ⟨w.heap.size + 1, 3, none⟩ = some (.int .u8 d1) := kX1.out.cell 3
      have x4 : W1.cell? ⟨w.heap.size + 1, 4, none⟩ = some (.bool true) := kX1.out.cell 4
      rw [← hW1] at y0 y1 x0 x1 x2 x3 x4
      replace hW1 := hide hW1
      clear kX kS hB
      have hB := hB1
      have kS := kS1
      have kX := kX1
      clear hB1 kS1 kX1
      go_wp2_with fail
      rw [hW1.out]
      refine (hLv.out true hck _ hB.out).mono ?_
      rintro e w2 ⟨⟨rs, es, wk, U, al, gS, cS, gL, cL, vE, AL, cA, rfl, hTr, hok, hrl, hbi, hst, hev, hlv, hal⟩, hb⟩
      replace kS := hide (kS.out.below hb kS.out.lt)
      replace kX := hide (kX.out.below hb kX.out.lt)
      replace hB := hide (hB.out.trans (hb.mono hB.out.size))
      clear hb s0 s1 y0 y1 x0 x1 x2 x3 x4 c4 f4 hW1 b1 b2 hLv
      obtain ⟨AE, cE, rfl, hev, hce⟩ := hev
      have hr0 : rangesE S.sks.length rs = 0 := ranges_of_ok (by rw [hn1.out]; exact hrl) hok
      have hel : es.length ≤ maxLen := by
        have := (evsE_each (truth_all (sks_ok hck) hok (by rw [hn1.out]; exact hrl) hTr).2.1).1
        unfold maxLen; omega
      have hU0 := (truth_all (sks_ok hck) hok (by rw [hn1.out]; exact hrl) hTr).2.2.2.2.1
      have hn15 : 1 ≤ n1 ∧ n1 ≤ 5 := by rw [← hn1.out]; exact ⟨(check_ok hck).1, (check_ok hck).2.1⟩
      have s0 : w2.cell? ⟨w.heap.size, 0, none⟩ = some (.slice A n1 c) := kS.out.cell 0
      have s1 : w2.cell? ⟨w.heap.size, 1, none⟩ = some (.slice A2 n2 c2) := kS.out.cell 1
      obtain ⟨ii, hii'⟩ : ∃ ii : Nat, wh.tmod (n2 : Int) = (ii : Int) := ⟨(wh.tmod (n2 : Int)).toNat, by rw [Int.toNat_of_nonneg (Int.tmod_nonneg _ hwi.1)]⟩
      have hii : ii < n2 := by
        have := Int.tmod_lt_of_pos wh (show (0 : Int) < (n2 : Int) by omega)
        rw [hii'] at this; omega
      have hbii := hbi ii hii
      obtain ⟨lo, hi, hS, h1, h2, h3, h4⟩ := severe_math hck hok (by rw [hn1.out]; exact hrl) hr0 hTr (k := ii) (by rw [hn2.out]; exact hii) hbii
      have hC2 := hSv.out w2 (some ⟨gS, 0, none⟩) AE n1 cS es.length cE rs es (ii : Int) hB.out hst (by unfold maxLen; omega) hev hel hce
      rw [hS] at hC2
      simp only at hC2
      replace hC2 := hide hC2
      obtain ⟨a, ha⟩ : ∃ a, al[ii]?.getD 0 = a := ⟨_, rfl⟩
      rw [ha] at h1 h2
      obtain ⟨blo, hblo⟩ : ∃ x, (S.ins[ii]?.getD default).lo = x := ⟨_, rfl⟩
      obtain ⟨bhi, hbhi⟩ : ∃ x, (S.ins[ii]?.getD default).hi = x := ⟨_, rfl⟩
      rw [hblo] at h3
      rw [hbhi] at h4
      have g1 : decide (lo ≤ a) = true := decide_eq_true h1
      have g2 : decide (a ≤ hi) = true := decide_eq_true h2
      have g3 : decide (blo ≤ lo) = true := decide_eq_true h3
      have g4 : decide (hi ≤ bhi) = true := decide_eq_true h4
      have hn26 : n2 ≤ 6 := by rw [← hn2.out]; have := (check_ok hck).2.2.1; omega
      have hww : IntKind.i64.wrap wh = wh := by rw [IntKind.wrap_i64]; omega
      have hwi2 : IntKind.i64.wrap (ii : Int) = (ii : Int) := by rw [IntKind.wrap_i64]; omega
      have b2 : ((n2 : Int) == 0) = false := by rw [beq_eq_false_iff_ne]; omega
      have b3 : (n2 == 0) = false := by rw [beq_eq_false_iff_ne]; omega
      replace h1 := hide h1
      replace h2 := hide h2
      replace h3 := hide h3
      replace h4 := hide h4
      clear hTr hok hrl hbi hst hev hce hr0 hel hS hck hU0 hbii hlv
      go_wp2_with fail
      refine hC2.out.mono ?_
      rintro e w3 ⟨rfl, hb⟩
      have hal3 := hal.below hb
      have kS3 := kS.out.below hb kS.out.lt
      have hB3 := hB.out.trans (hb.mono hB.out.size)
      have hA' := (Below.refl w3.heap.size w3).alloc (Nat.le_refl _) (.cells #[.int .i64 lo, .int .i64 hi] 32)
      have kR := hide (show Blk (w3.alloc (.cells #[.int .i64 lo, .int .i64 hi] 32)) w3.heap.size 32 #[.int .i64 lo, .int .i64 hi] from blkNew rfl)
      have hB4 := hide (hB3.trans (hA'.mono hB3.size))
      have kS4 := hide (kS3.alloc (.cells #[.int .i64 lo, .int .i64 hi] 32))
      have hal4 := hal3.below hA'
      obtain ⟨ba, oa, rfl, hba, hca⟩ := hal4.2 (by omega)
      have ca := hca ii hii
      rw [ha] at ca
      obtain ⟨bI, oI, z0, z1, z2, rfl, hbI, hy, e0, e1, e2⟩ := (hinB.out _ hB4.out).cells3 hii
      rw [in_at S.ins ii (by rw [hn2.out]; exact hii)] at hy
      unfold inCells at hy
      simp only [List.cons.injEq, and_true] at hy
      obtain ⟨rfl, rfl, rfl⟩ := hy
      rw [hblo] at e1
      rw [hbhi] at e2
      have zR := kR.out.lt
      have zS4 := kS4.out.lt
      have hiz : (0 : Int) ≤ (ii : Int) := by omega
      have hiz2 : (ii : Int) < (n2 : Int) := by omega
      replace ca := hide ca
      replace e1 := hide e1
      replace e2 := hide e2
      replace hblo := hide hblo
      replace hbhi := hide hbhi
      replace ha := hide ha
      clear hb s0 s1 hC2 hal hal3 hal4 hca kS hB hA' hB3 kS3 kX e0 hn0
      go_wp2
      clear zS
      have zS := zS4
      clear hii' hww hwi2 b2 b3
      refine region_grow [IsV (.int .i64 0), IsV (.bool true), IsV (.bool true), IsV (.pointer (some ⟨w3.heap.size, 0, none⟩)), IsV (.int .i64 lo), IsV (.slice (some ⟨ba, oa, none⟩) n2 cA), IsV (.int .i64 ii), IsV (.pointer (some ⟨ba, oa + ii, none⟩)), IsV (.int .i64 a), IsV (.bool true), IsV (.bool true), IsV (.bool true), IsV (.slice (some ⟨ba, oa, none⟩) n2 cA), IsV (.int .i64 ii), IsV (.pointer (some ⟨ba, oa + ii, none⟩)), IsV (.int .i64 a), IsV (.pointer (some ⟨w3.heap.size, 1, none⟩)), IsV (.int .i64 hi), IsV (.bool true), IsV (.bool true), IsV (.bool true), IsV (.pointer (some ⟨w3.heap.size, 0, none⟩)), IsV (.int .i64 lo), IsV (.pointer (some ⟨w.heap.size, 1, none⟩)), IsV (.slice (some ⟨bI, oI, none⟩) n2 c2), IsV (.int .i64 ii), IsV (.pointer (some ⟨bI, oI + ii * 3, none⟩)), IsV (.pointer (some ⟨bI, oI + ii * 3 + 1, none⟩)), IsV (.pointer (some ⟨bI, oI + ii * 3 + 1, none⟩)), IsV (.int .i64 blo), IsV (.bool true), IsV (.bool true), IsV (.bool true), IsV (.pointer (some ⟨w3.heap.size, 1, none⟩)), IsV (.int .i64 hi), IsV (.pointer (some ⟨w.heap.size, 1, none⟩)), IsV (.slice (some ⟨bI, oI, none⟩) n2 c2), IsV (.int .i64 ii), IsV (.pointer (some ⟨bI, oI + ii * 3, none⟩)), IsV (.pointer (some ⟨bI, oI + ii * 3 + 1, none⟩)), IsV (.pointer (some ⟨bI, oI + ii * 3 + 1 + 1, none⟩)), IsV (.int .i64 bhi), IsV (.bool true), IsV (.bool true), IsV (.bool true), IsV (.bool true), IsV (.bool true), IsV (.bool true)] (by kernel_rfl) (by kernel_rfl) rfl ?_ ?_ ?_
      · simp [AllStb, IsV.stb]
      · refine ⟨?_, ?_, ?_, ?_, ?_, ?_, ?_, ?_, ?_, ?_, ?_, ?_, ?_, ?_, ?_, ?_, ?_, ?_, ?_, ?_, ?_, ?_, ?_, ?_, ?_, ?_, ?_, ?_, ?_, ?_, ?_, ?_, ?_, ?_, ?_, ?_, ?_, ?_, ?_, ?_, ?_, ?_, ?_, ?_, ?_, ?_, ?_, ?_, trivial⟩
        all_goals
          intro y w6 K Qq Cv hC hd hV
          have q0 : w6.cell? ⟨w3.heap.size, 0, none⟩ = some (.int .i64 lo) := (kR.out.below hC zR).cell 0
          have q1 : w6.cell? ⟨w3.heap.size, 1, none⟩ = some (.int .i64 hi) := (kR.out.below hC zR).cell 1
          have q2 := (cellB (o := oa + ii) hC hba).trans ca.out
          have q3 : w6.cell? ⟨w.heap.size, 1, none⟩ = some (.slice (some ⟨bI, oI, none⟩) n2 c2) := (kS4.out.below hC zS).cell 1
          have q4 := (cellB (o := oI + ii * 3 + 1) hC hbI).trans e1.out
          have q5 := (cellB (o := oI + ii * 3 + 1 + 1) hC hbI).trans e2.out
        all_goals try (simp [deps, VL, IsV, Region.binds] at hd)
        · simp only [putAll, Act.put]; go_simp; intro hK; exact hK _ _ (hV _ _ hC (Below.refl _ _) rfl)
        · simp only [putAll, Act.put]; go_simp; intro hK; exact hK _ _ (hV _ _ hC (Below.refl _ _) rfl)
        · simp only [putAll, Act.put]; go_simp; intro hK; exact hK _ _ (hV _ _ hC (Below.refl _ _) rfl)
        · simp only [putAll, Act.put]; go_simp; intro hK; exact hK _ _ (hV _ _ hC (Below.refl _ _) rfl)
        · simp only [putAll, Act.put]; go_simp; intro hK; exact hK _ _ (hV _ _ hC (Below.refl _ _) rfl)
        · simp only [putAll, Act.put]; go_simp; intro hK; exact hK _ _ (hV _ _ hC (Below.refl _ _) rfl)
        · simp only [putAll, Act.put]; go_simp; intro hK; exact hK _ _ (hV _ _ hC (Below.refl _ _) rfl)
        · simp only [putAll, Act.put]; go_simp; intro hK; exact hK _ _ (hV _ _ hC (Below.refl _ _) rfl)
        · simp only [putAll, Act.put]; go_simp; intro hK; exact hK _ _ (hV _ _ hC (Below.refl _ _) rfl)
        · simp only [putAll, Act.put]; go_simp; intro hK; exact hK _ _ (hV _ _ hC (Below.refl _ _) rfl)
        · simp only [putAll, Act.put]; go_simp; intro hK; exact hK _ _ (hV _ _ hC (Below.refl _ _) rfl)
        · simp only [putAll, Act.put]; go_simp; intro hK; exact hK _ _ (hV _ _ hC (Below.refl _ _) rfl)
        · simp only [putAll, Act.put]; go_simp; intro hK; exact hK _ _ (hV _ _ hC (Below.refl _ _) rfl)
        · simp only [putAll, Act.put]; go_simp; intro hK; exact hK _ _ (hV _ _ hC (Below.refl _ _) rfl)
        · simp only [putAll, Act.put]; go_simp; intro hK; exact hK _ _ (hV _ _ hC (Below.refl _ _) rfl)
        · simp only [putAll, Act.put]; go_simp; intro hK; exact hK _ _ (hV _ _ hC (Below.refl _ _) rfl)
        · simp only [putAll, Act.put]; go_simp; intro hK; exact hK _ _ (hV _ _ hC (Below.refl _ _) rfl)
        · simp only [putAll, Act.put]; go_simp; intro hK; exact hK _ _ (hV _ _ hC (Below.refl _ _) rfl)
        · simp only [putAll, Act.put]; go_simp; intro hK; exact hK _ _ (hV _ _ hC (Below.refl _ _) rfl)
        · simp only [putAll, Act.put]; go_simp; intro hK; exact hK _ _ (hV _ _ hC (Below.refl _ _) rfl)
        · simp only [putAll, Act.put]; go_simp; intro hK; exact hK _ _ (hV _ _ hC (Below.refl _ _) rfl)
        · simp only [putAll, Act.put]; go_simp; intro hK; exact hK _ _ (hV _ _ hC (Below.refl _ _) rfl)
        · simp only [putAll, Act.put]; go_simp; intro hK; exact hK _ _ (hV _ _ hC (Below.refl _ _) rfl)
        · simp only [putAll, Act.put]; go_simp; intro hK; exact hK _ _ (hV _ _ hC (Below.refl _ _) rfl)
        · simp only [putAll, Act.put]; go_simp; intro hK; exact hK _ _ (hV _ _ hC (Below.refl _ _) rfl)
        · simp only [putAll, Act.put]; go_simp; intro hK; exact hK _ _ (hV _ _ hC (Below.refl _ _) rfl)
        · simp only [putAll, Act.put]; go_simp; intro hK; exact hK _ _ (hV _ _ hC (Below.refl _ _) rfl)
        · simp only [putAll, Act.put]; go_simp; intro hK; exact hK _ _ (hV _ _ hC (Below.refl _ _) rfl)
        · simp only [putAll, Act.put]; go_simp; intro hK; exact hK _ _ (hV _ _ hC (Below.refl _ _) rfl)
        · simp only [putAll, Act.put]; go_simp; intro hK; exact hK _ _ (hV _ _ hC (Below.refl _ _) rfl)
        · simp only [putAll, Act.put]; go_simp; intro hK; exact hK _ _ (hV _ _ hC (Below.refl _ _) rfl)
        · simp only [putAll, Act.put]; go_simp; intro hK; exact hK _ _ (hV _ _ hC (Below.refl _ _) rfl)
        · simp only [putAll, Act.put]; go_simp; intro hK; exact hK _ _ (hV _ _ hC (Below.refl _ _) rfl)
        · simp only [putAll, Act.put]; go_simp; intro hK; exact hK _ _ (hV _ _ hC (Below.refl _ _) rfl)
        · simp only [putAll, Act.put]; go_simp; intro hK; exact hK _ _ (hV _ _ hC (Below.refl _ _) rfl)
        · simp only [putAll, Act.put]; go_simp; intro hK; exact hK _ _ (hV _ _ hC (Below.refl _ _) rfl)
        · simp only [putAll, Act.put]; go_simp; intro hK; exact hK _ _ (hV _ _ hC (Below.refl _ _) rfl)
        · simp only [putAll, Act.put]; go_simp; intro hK; exact hK _ _ (hV _ _ hC (Below.refl _ _) rfl)
        · simp only [putAll, Act.put]; go_simp; intro hK; exact hK _ _ (hV _ _ hC (Below.refl _ _) rfl)
        · simp only [putAll, Act.put]; go_simp; intro hK; exact hK _ _ (hV _ _ hC (Below.refl _ _) rfl)
        · simp only [putAll, Act.put]; go_simp; intro hK; exact hK _ _ (hV _ _ hC (Below.refl _ _) rfl)
        · simp only [putAll, Act.put]; go_simp; intro hK; exact hK _ _ (hV _ _ hC (Below.refl _ _) rfl)
        · simp only [putAll, Act.put]; go_simp; intro hK; exact hK _ _ (hV _ _ hC (Below.refl _ _) rfl)
        · simp only [putAll, Act.put]; go_simp; intro hK; exact hK _ _ (hV _ _ hC (Below.refl _ _) rfl)
        · simp only [putAll, Act.put]; go_simp; intro hK; exact hK _ _ (hV _ _ hC (Below.refl _ _) rfl)
        · simp only [putAll, Act.put]; go_simp; intro hK
          refine (AwakeS w6).mono ?_
          rintro e w7 ⟨rfl, hb7⟩
          exact hK _ _ (hV _ _ (hC.trans (hb7.mono hC.size)) hb7 rfl)
        · simp only [putAll, Act.put]; go_simp; intro hK; exact hK _ _ (hV _ _ hC (Below.refl _ _) rfl)
        · simp only [putAll, Act.put]; go_simp; intro hK; exact hK _ _ (hV _ _ hC (Below.refl _ _) rfl)
      intro y w6 hC hd
      simp [EndsL, IsV] at hd
      obtain ⟨-, -, -, -, -, -, -, -, -, -, -, -, -, -, -, -, -, -, -, -, -, -, -, -, -, -, -, -, -, -, -, -, -, -, -, -, -, -, -, -, -, -, -, -, -, -, -, d47⟩ := hd
      simp only [putAll, Act.put]
      rw [d47]
      clear d47
      simp only [List.setIfInBounds_toArray, List.set_cons_succ, List.set_cons_zero]
      have hB6 := hide (hB4.out.trans (hC.mono hB4.out.size))
      clear hC ca e1 e2
      go_wp2
      go_ret
      exact ⟨rfl, hB6.out⟩
  · have b1 : ((checkS S).2.2 == 0) = false := by rw [beq_eq_false_iff_ne]; exact hck
    rw [b1]
    clear hLv hSv
    go_wp2_with fail
    refine (AwakeS _).mono ?_
    rintro e w9 ⟨rfl, hb⟩
    replace hB := hide (hB.out.trans (hb.mono hB.out.size))
    clear hb s0 s1
    go_wp2
    go_ret
    exact ⟨rfl, hB.out⟩
end Go.Proofs.Ytkhijdbigpaagaa
