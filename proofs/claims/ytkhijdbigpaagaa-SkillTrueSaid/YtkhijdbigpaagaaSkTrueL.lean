/-
  The law SkillTrue.
-/
import Derived.Test.YtkhijdbigpaagaaNll
import Derived.Test.YtkhijdbigpaagaaNlo
import Derived.Test.YtkhijdbigpaagaaNl
import Derived.Test.YtkhijdbigpaagaaNda
namespace Go.Proofs.Ytkhijdbigpaagaa
open Go.RowKit RG

set_option maxRecDepth 100000 in
set_option maxHeartbeats 2000000 in
theorem SkillTrue_any (v : Value) (S : Sch) (Wh N : Option Addr) (nw cw nn nc : Nat) (d0 d1 : Int) (same : Bool) (w : World) (h : RdSch w v S) (hwh : RdU16 w Wh nw) (hwn : nw ≤ maxLen) (hnu : RdU16 w N nn) (hnn : nn ≤ maxLen) (hd0 : 0 ≤ d0 ∧ d0 ≤ 255) (hd1 : 0 ≤ d1 ∧ d1 ≤ 255) :
    Calls Try.prog 8 #[v, .agg #[.slice Wh nw cw, .slice N nn nc, .int .u8 d0, .int .u8 d1, .bool same]] w fun e w' => e = .returned (.bool true) ∧ Below w.heap.size w w' := by
  have hV := hide (fun W (hb : Below w.heap.size w W) => valid_any v S W (h.below hb))
  have hLv := hide (fun (sm : Bool) (hck : (checkS S).2.2 = 0) W (hb : Below w.heap.size w W) => lived_any v S Wh N nw cw nn nc d0 d1 sm W (h.below hb) hck (hwh.below hb) hwn (hnu.below hb) hnn hd0 hd1)
  have hAf := hide (fun W (L E : Option Addr) (k cl m ce : Nat) (rs : List Sp) (es : List Ev) (wk : Int) (hb : Below w.heap.size w W) h2 h3 h4 h5 h6 => After_any v S L E k cl m ce rs es wk W (h.below hb) h2 h3 h4 h5 h6)
  have hA0 := hide (fun W (hb : Below w.heap.size w W) => hAf.out W none none 0 0 0 0 [] [] 0 hb (RdRow.nil _ _ _) (Nat.zero_le _) (RdRow.nil _ _ _) (Nat.zero_le _) (Nat.le_refl _))
  unfold AfterR at hAf hA0
  have hn2c := h
  obtain ⟨A, c, A2, c2, rfl, -, -, -, -, hins, -⟩ := h
  have hinB := hide (fun W (hb : Below w.heap.size w W) => hins.below hb)
  obtain ⟨n1, hn1⟩ : ∃ n, S.sks.length = n := ⟨_, rfl⟩
  obtain ⟨n2, hn2⟩ : ∃ n, S.ins.length = n := ⟨_, rfl⟩
  clear hn2c hins hwh hnu
  unfold LivedR at hLv
  rw [hn1, hn2] at hV hLv hAf hA0 ⊢
  rw [hn2] at hinB
  replace hn1 := hide hn1
  replace hn2 := hide hn2
  obtain ⟨W0, hW0⟩ : ∃ W0, (w.alloc (.cells #[.slice A n1 c, .slice A2 n2 c2] 25)).alloc (.cells #[.slice Wh nw cw, .slice N nn nc, .int .u8 d0, .int .u8 d1, .bool same] 68) = W0 := ⟨_, rfl⟩
  have kS := hide (show Blk W0 w.heap.size 25 #[.slice A n1 c, .slice A2 n2 c2] by rw [← hW0]; exact (blkNew rfl).alloc _)
  have kX := hide (show Blk W0 (w.heap.size + 1) 68 #[.slice Wh nw cw, .slice N nn nc, .int .u8 d0, .int .u8 d1, .bool same] by rw [← hW0]; exact blkNew (by simp))
  have hB := hide (show Below w.heap.size w W0 by rw [← hW0]; exact ((Below.refl _ _).alloc (Nat.le_refl _) _).alloc (by simp) _)
  have s0 : W0.cell? ⟨w.heap.size, 0, none⟩ = some (.slice A n1 c) := kS.out.cell 0
  have s1 : W0.cell? ⟨w.heap.size, 1, none⟩ = some (.slice A2 n2 c2) := kS.out.cell 1
  rw [← hW0] at s0 s1
  replace hW0 := hide hW0
  go_enter Try.func8, Try.ntmps8
  go_wp2_with fail
  rw [hW0.out]
  refine (hV.out _ hB.out).mono ?_
  rintro e w1 ⟨rfl, hb⟩
  replace kS := hide (kS.out.below hb kS.out.lt)
  replace kX := hide (kX.out.below hb kX.out.lt)
  replace hB := hide (hB.out.trans (hb.mono hB.out.size))
  clear hb s0 s1 hW0 hV
  have s0 : w1.cell? ⟨w.heap.size, 0, none⟩ = some (.slice A n1 c) := kS.out.cell 0
  have s1 : w1.cell? ⟨w.heap.size, 1, none⟩ = some (.slice A2 n2 c2) := kS.out.cell 1
  by_cases hck : (checkS S).2.2 = 0
  · have b1 : ((checkS S).2.2 == 0) = true := by rw [beq_iff_eq]; exact hck
    rw [b1]
    have x0 : w1.cell? ⟨w.heap.size + 1, 0, none⟩ = some (.slice Wh nw cw) := kX.out.cell 0
    have x1 : w1.cell? ⟨w.heap.size + 1, 1, none⟩ = some (.slice N nn nc) := kX.out.cell 1
    have x2 : w1.cell? ⟨w.heap.size + 1, 2, none⟩ = some (.int .u8 d0) := kX.out.cell 2
    have x3 : w1.cell? ⟨w.heap.size + 1, 3, none⟩ = some (.int .u8 d1) := kX.out.cell 3
    have x4 : w1.cell? ⟨w.heap.size + 1, 4, none⟩ = some (.bool same) := kX.out.cell 4
    clear b1 hA0
    go_wp2_with fail
    refine (hLv.out same hck _ hB.out).mono ?_
    rintro e w2 ⟨⟨rs, es, wk, U, al, gS, cS, gL, cL, vE, AL, cA, rfl, hTr, hok, hrl, hbi, hst, hev, hlv, hal⟩, hb⟩
    replace kS := hide (kS.out.below hb kS.out.lt)
    replace kX := hide (kX.out.below hb kX.out.lt)
    replace hB := hide (hB.out.trans (hb.mono hB.out.size))
    clear hb s0 s1 x0 x1 x2 x3 x4 hLv
    obtain ⟨AE, cE, rfl, hev, hce⟩ := hev
    have hr0 : rangesE S.sks.length rs = 0 := ranges_of_ok (by rw [hn1.out]; exact hrl) hok
    have hel : es.length ≤ maxLen := by
      have := (evsE_each (truth_all (sks_ok hck) hok (by rw [hn1.out]; exact hrl) hTr).2.1).1
      unfold maxLen; omega
    have hU0 := (truth_all (sks_ok hck) hok (by rw [hn1.out]; exact hrl) hTr).2.2.2.2.1
    have hn15 : 1 ≤ n1 ∧ n1 ≤ 5 := by rw [← hn1.out]; exact ⟨(check_ok hck).1, (check_ok hck).2.1⟩
    have s0 : w2.cell? ⟨w.heap.size, 0, none⟩ = some (.slice A n1 c) := kS.out.cell 0
    have s1 : w2.cell? ⟨w.heap.size, 1, none⟩ = some (.slice A2 n2 c2) := kS.out.cell 1
    obtain ⟨R, hR, hRl, hRi⟩ := true_math hck hok (by rw [hn1.out]; exact hrl) hr0 hTr
    have hC2 := hAf.out w2 (some ⟨gS, 0, none⟩) AE n1 cS es.length cE rs es wk hB.out hst (by unfold maxLen; omega) hev hel hce
    rw [hR] at hC2
    simp only [Option.getD_some] at hC2
    replace hC2 := hide hC2
    have hUl : U.length = n1 := by rw [hU0]; exact hrl
    replace hRi := hide hRi
    rw [hUl] at hRl
    clear hTr hok hrl hbi hst hev hal hce hr0 hel hR hck hAf hU0
    go_wp2_with fail
    refine hC2.out.mono ?_
    rintro e w3 ⟨⟨x, rfl, AR, cR, rfl, hRr, -⟩, hb⟩
    rw [hRl] at hRr ⊢
    have hlv3 := hide (hlv.below hb)
    replace hRr := hide hRr
    replace hB := hide (hB.out.trans (hb.mono hB.out.size))
    clear hb s0 s1 hC2 hlv kS kX
    have bn : ((n1 : Int) != (n1 : Int)) = false := by simp
    obtain ⟨bR, oR, rfl, hbR, -⟩ := hRr.out.2.2 (by omega)
    have hBx := hide (Below.refl w3.heap.size w3)
    replace hUl := hide hUl
    replace hRl := hide hRl
    have hw31 : w3.heap.size = w3.heap.size := rfl
    clear hw31
    go_wp2
    go_loopg [14] n1 (fun gg s14 wr => ∃ i : Nat, i ≤ n1 ∧ n1 ≤ gg + i ∧ s14 = .int .i64 i ∧ Hid (Below w3.heap.size w3 wr))
    case atStart => exact ⟨0, Nat.zero_le _, by omega, rfl, hBx⟩
    case round =>
      clear hBx
      obtain ⟨i, hi, hgg, rfl, hBr⟩ := hrel
      by_cases hlt : i < n1
      · have hltz : (i : Int) < (n1 : Int) := by omega
        have hiz : (0 : Int) ≤ (i : Int) := by omega
        obtain ⟨b', o', z0, z1, hbe, hb', hz, c0, c1⟩ := (hRr.out.below hBr.out).cells2 hlt
        simp only [Option.some.injEq, Addr.mk.injEq, and_true] at hbe
        obtain ⟨rfl, rfl⟩ := hbe
        rw [map_at tkCells R i (by rw [hRl.out]; exact hlt), show R[i]?.getD default = R[i]?.getD (0, 0) by rw [List.getElem?_eq_getElem (by rw [hRl.out]; exact hlt)]; rfl] at hz
        unfold tkCells at hz
        simp only [List.cons.injEq, and_true] at hz
        obtain ⟨rfl, rfl⟩ := hz
        obtain ⟨bL, oL, hbe, hbL, hcL⟩ := (hlv3.out.below hBr.out).2 (by omega)
        simp only [Option.some.injEq, Addr.mk.injEq, and_true] at hbe
        obtain ⟨rfl, rfl⟩ := hbe
        have c2' := hcL i hlt
        have hin := hRi.out i (by rw [hUl.out]; exact hlt)
        obtain ⟨lo, hlo⟩ : ∃ x, (R[i]?.getD (0, 0)).1 = x := ⟨_, rfl⟩
        obtain ⟨hi', hhi⟩ : ∃ x, (R[i]?.getD (0, 0)).2 = x := ⟨_, rfl⟩
        obtain ⟨u, hu⟩ : ∃ x, U[i]?.getD 0 = x := ⟨_, rfl⟩
        unfold inS at hin
        rw [hlo] at c0 hin
        rw [hhi] at c1 hin
        rw [hu] at c2' hin
        have e1 : decide (u < lo) = false := decide_eq_false (by omega)
        have e2 : decide (hi' < u) = false := decide_eq_false (by omega)
        replace hlo := hide hlo
        replace hhi := hide hhi
        replace hu := hide hu
        replace c0 := hide c0
        replace c1 := hide c1
        replace c2' := hide c2'
        clear hcL hin
        go_wp2
        refine region_grow [IsV (.slice (some ⟨gL, 0, none⟩) n1 cL), IsV (.int .i64 i), IsV (.pointer (some ⟨gL, i, none⟩)), IsV (.int .i64 u), IsV (.slice (some ⟨bR, oR, none⟩) n1 cR), IsV (.int .i64 i), IsV (.pointer (some ⟨bR, oR + i * 2, none⟩)), IsV (.pointer (some ⟨bR, oR + i * 2, none⟩)), IsV (.int .i64 lo), IsV (.bool false), IsV (.bool false), IsV (.slice (some ⟨gL, 0, none⟩) n1 cL), IsV (.int .i64 i), IsV (.pointer (some ⟨gL, i, none⟩)), IsV (.int .i64 u), IsV (.slice (some ⟨bR, oR, none⟩) n1 cR), IsV (.int .i64 i), IsV (.pointer (some ⟨bR, oR + i * 2, none⟩)), IsV (.pointer (some ⟨bR, oR + i * 2 + 1, none⟩)), IsV (.int .i64 hi'), IsV (.bool false), IsV (.bool false)] (by kernel_rfl) (by kernel_rfl) rfl ?_ ?_ ?_
        · simp [AllStb, IsV.stb]
        · refine ⟨?_, ?_, ?_, ?_, ?_, ?_, ?_, ?_, ?_, ?_, ?_, ?_, ?_, ?_, ?_, ?_, ?_, ?_, ?_, ?_, ?_, ?_, trivial⟩
          all_goals
            intro y w6 K Qq Cv hC hd hV
            have q0 := (cellB (o := oR + i * 2) hC hb').trans c0.out
            have q1 := (cellB (o := oR + i * 2 + 1) hC hb').trans c1.out
            have q2 : w6.cell? ⟨gL, i, none⟩ = some (.int .i64 u) := by simpa using (cellB (o := 0 + i) hC hbL).trans c2'.out
          all_goals try (simp [deps, VL, IsV, Region.binds] at hd)
          · simp only [putAll, Act.put]; go_simp; intro hK; exact hK _ _ (hV _ _ hC (Below.refl _ _) rfl)
          · simp only [putAll, Act.put]; go_simp; intro hK; exact hK _ _ (hV _ _ hC (Below.refl _ _) rfl)
          · simp only [putAll, Act.put]; go_simp; intro hK; exact hK _ _ (hV _ _ hC (Below.refl _ _) rfl)
          · simp only [putAll, Act.put]; go_simp; intro hK; exact hK _ _ (hV _ _ hC (Below.refl _ _) rfl)
          · simp only [putAll, Act.put]; go_simp; intro hK; exact hK _ _ (hV _ _ hC (Below.refl _ _) rfl)
          · simp only [putAll, Act.put]; go_simp; intro hK; exact hK _ _ (hV _ _ hC (Below.refl _ _) rfl)
          · simp only [putAll, Act.put]; go_simp; intro hK; exact hK _ _ (hV _ _ hC (Below.refl _ _) rfl)
          · simp only [putAll, Act.put]; go_simp; intro hK; exact hK _ _ (hV _ _ hC (Below.refl _ _) rfl)
          · simp only [putAll, Act.put]; go_simp; intro hK; exact hK _ _ (hV _ _ hC (Below.refl _ _) rfl)
          · simp only [putAll, Act.put]; go_simp; intro hK; exact hK _ _ (hV _ _ hC (Below.refl _ _) rfl)
          · simp only [putAll, Act.put]; go_simp; intro hK; exact hK _ _ (hV _ _ hC (Below.refl _ _) rfl)
          · simp only [putAll, Act.put]; go_simp; intro hK; exact hK _ _ (hV _ _ hC (Below.refl _ _) rfl)
          · simp only [putAll, Act.put]; go_simp; intro hK; exact hK _ _ (hV _ _ hC (Below.refl _ _) rfl)
          · simp only [putAll, Act.put]; go_simp; intro hK; exact hK _ _ (hV _ _ hC (Below.refl _ _) rfl)
          · simp only [putAll, Act.put]; go_simp; intro hK; exact hK _ _ (hV _ _ hC (Below.refl _ _) rfl)
          · simp only [putAll, Act.put]; go_simp; intro hK; exact hK _ _ (hV _ _ hC (Below.refl _ _) rfl)
          · simp only [putAll, Act.put]; go_simp; intro hK; exact hK _ _ (hV _ _ hC (Below.refl _ _) rfl)
          · simp only [putAll, Act.put]; go_simp; intro hK; exact hK _ _ (hV _ _ hC (Below.refl _ _) rfl)
          · simp only [putAll, Act.put]; go_simp; intro hK; exact hK _ _ (hV _ _ hC (Below.refl _ _) rfl)
          · simp only [putAll, Act.put]; go_simp; intro hK; exact hK _ _ (hV _ _ hC (Below.refl _ _) rfl)
          · simp only [putAll, Act.put]; go_simp; intro hK; exact hK _ _ (hV _ _ hC (Below.refl _ _) rfl)
          · simp only [putAll, Act.put]; go_simp; intro hK; exact hK _ _ (hV _ _ hC (Below.refl _ _) rfl)
        intro y w6 hC hd
        simp [EndsL, IsV] at hd
        obtain ⟨-, -, -, -, -, -, -, -, -, -, -, -, -, -, -, -, -, -, -, -, -, d21⟩ := hd
        simp only [putAll, Act.put]
        rw [d21]
        clear d21
        simp only [List.setIfInBounds_toArray, List.set_cons_succ, List.set_cons_zero]
        have hB6 := hide (hBr.out.trans (hC.mono hBr.out.size))
        clear hC c0 c1 c2' e1 e2
        go_wp2
        go_roundg (n1 - (i + 1))
        case measure => omega
        case rel => exact ⟨i + 1, by omega, by omega, by go_num, hB6⟩
      · have hltz : ¬ (i : Int) < (n1 : Int) := by omega
        replace hB := hide (hB.out.trans (hBr.out.mono hB.out.size))
        clear hBr hlv3 hRr
        go_wp2_with fail
        refine (AwakeS _).mono ?_
        rintro e w9 ⟨rfl, hb⟩
        replace hB := hide (hB.out.trans (hb.mono hB.out.size))
        clear hb
        go_wp2
        go_ret
        exact ⟨rfl, hB.out⟩
  · have b1 : ((checkS S).2.2 == 0) = false := by rw [beq_eq_false_iff_ne]; exact hck
    rw [b1]
    have hz : (afterF S [] [] 0).2 ≠ 0 := by
      have hh : histE S [] [] = (checkS S).2.2 := by unfold histE; rw [if_neg hck]
      unfold afterF
      rw [hh, if_neg hck]
      exact hck
    obtain ⟨q, hq⟩ : ∃ q, afterF S [] [] 0 = q := ⟨_, rfl⟩
    rw [hq] at hA0 hz
    obtain ⟨q1, q2⟩ := q
    simp only at hA0 hz
    have b2 : (q2 != 0) = true := by rw [bne_iff_ne]; exact hz
    replace hz := hide hz
    replace hq := hide hq
    clear b1 hLv hAf
    go_wp2_with fail
    refine (hA0.out _ hB.out).mono ?_
    rintro e w3 ⟨⟨x, rfl, -⟩, hb⟩
    replace hB := hide (hB.out.trans (hb.mono hB.out.size))
    clear hb s0 s1 hA0
    go_wp2_with fail
    refine (AwakeS _).mono ?_
    rintro e w9 ⟨rfl, hb⟩
    replace hB := hide (hB.out.trans (hb.mono hB.out.size))
    clear hb
    go_wp2
    go_ret
    exact ⟨rfl, hB.out⟩
end Go.Proofs.Ytkhijdbigpaagaa
