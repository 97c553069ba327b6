/-
  The law PaperNumbered (made by gen_numd.py).
-/
import Derived.Test.YtnmgnonbgihalaaPv
import Derived.Test.YtnmgnonbgihalaaPt
import Derived.Test.YtnmgnonbgihalaaPw
namespace Go.Proofs.Ytnmgnonbgihalaa
open Go.RowKit RG

set_option maxRecDepth 100000 in
set_option maxHeartbeats 8000000 in
theorem PaperNumbered_any (v : Value) (Q Wd : Option Addr) (cq cw : Nat) (B : Bank) (x0 x1 : Int) (w : World) (hv : BankIn w v Q Wd cq cw B) (hx0 : 0 ≤ x0 ∧ x0 ≤ 65535) (hx1 : 0 ≤ x1 ∧ x1 ≤ 65535) :
    Calls Try.prog 9 #[v, .agg #[.int .u16 x0, .int .u16 x1]] w fun e w' => e = .returned (.bool true) ∧ Below w.heap.size w w' := by
  obtain ⟨rfl, hR, -, -⟩ := hv
  have hCo := hide (fun W (h : BkR W Q Wd B) => Count_any Q Wd cq cw B W h)
  have hVa := hide (fun W (h : BkR W Q Wd B) => valid_any Q Wd cq cw B W h)
  have hNt := hide (fun x W (h : BkR W Q Wd B) => Nth_f Q Wd cq cw B x W h)
  have hNu := hide (fun A n c xs W (h : BkR W Q Wd B) (h1 : RdInts W A n xs) (h2 : n ≤ maxLen) => Number_f Q Wd cq cw B A n c xs W h h1 h2)
  have hLa := hide (fun A A2 n n2 c c2 xs ys W (h : RdInts W A n xs) (h' : RdInts W A2 n2 ys) (h1 : n ≤ maxLen) (h2 : n2 ≤ maxLen) => later_any A A2 n n2 c c2 xs ys W h h' h1 h2)
  have hIn := hide (fun A A2 n n2 c c2 xs ys W (h : RdInts W A n xs) (h' : RdInts W A2 n2 ys) (h1 : n ≤ maxLen) (h2 : n2 ≤ maxLen) => Ints_any A A2 n n2 c c2 xs ys W h h' h1 h2)
  have f1 := hide (fun (h : errP B ≠ 0) => nthE_err h 0)
  have f2 := hide (fun (h : errP B = 0) (i : Nat) (hi : i < (papers B).length) => nthE_lt h hi)
  have f3 := hide (fun (h : errP B = 0) (x : Int) (hx : ((papers B).length : Int) ≤ x) => nthE_ge h hx)
  have f4 := hide (fun (h : errP B = 0) (i : Nat) (hi : i < (papers B).length) => nthP_lt h hi)
  have f5 := hide (fun (h : errP B = 0) (i : Nat) (hi : i < (papers B).length) => numE_ppI h hi)
  have f6 := hide (fun (h : errP B = 0) (i : Nat) (hi : i < (papers B).length) => numV_ppI h hi)
  have f7 := hide (fun (h : errP B = 0) (i k : Nat) (hik : i < k) (hk : k < (papers B).length) => later_ppI h hik hk)
  have f8 := hide (fun (h : errP B = 0) => papers_len (err_ok h))
  have hc : countP B = if errP B ≠ 0 then (0 : Int) else (((papers B).length : Nat) : Int) := rfl
  generalize errP B = er at *
  generalize countP B = cnt at *
  obtain ⟨N, hN⟩ : ∃ z, (papers B).length = z := ⟨_, rfl⟩
  rw [hN] at f2 f3 f4 f5 f6 f7 f8 hc
  replace hN := hide hN
  unfold bkV at *
  obtain ⟨a0, rfl⟩ : ∃ k : Nat, x0 = (k : Int) := ⟨x0.toNat, by omega⟩
  obtain ⟨a1, rfl⟩ : ∃ k : Nat, x1 = (k : Int) := ⟨x1.toNat, by omega⟩
  obtain ⟨W, hW⟩ : ∃ y, (w.alloc (.cells #[.slice Q B.qs.length cq, .slice Wd B.wanted.length cw, .int .i64 B.lo, .int .i64 B.hi] 27)).alloc (.cells #[.int .u16 (a0 : Int), .int .u16 (a1 : Int)] 58) = y := ⟨_, rfl⟩
  have bW := hide (show Blk W w.heap.size 27 #[.slice Q B.qs.length cq, .slice Wd B.wanted.length cw, .int .i64 B.lo, .int .i64 B.hi] by rw [← hW]; exact (blkNew rfl).alloc _)
  have bX := hide (show Blk W (w.heap.size + 1) 58 #[.int .u16 (a0 : Int), .int .u16 (a1 : Int)] by rw [← hW]; exact blkNew (by simp))
  have hB := hide (show Below w.heap.size w W by rw [← hW]; exact ((Below.refl _ _).alloc (Nat.le_refl _) _).alloc (by simp <;> omega) _)
  have rB := hide (hR.below hB.out)
  replace hW := hide hW
  clear hR
  have bo := bW.out
  have b0 : W.cell? ⟨w.heap.size, 0, none⟩ = some (.slice Q B.qs.length cq) := bo.cell 0
  have b1 : W.cell? ⟨w.heap.size, 1, none⟩ = some (.slice Wd B.wanted.length cw) := bo.cell 1
  have b2 : W.cell? ⟨w.heap.size, 2, none⟩ = some (.int .i64 B.lo) := bo.cell 2
  have b3 : W.cell? ⟨w.heap.size, 3, none⟩ = some (.int .i64 B.hi) := bo.cell 3
  clear bo
  go_enter Try.func9, Try.ntmps9
  go_upto_region 1 with fail
  rw [hW.out]
  go_wp2_with fail
  refine (hCo.out W rB.out).mono ?_
  rintro e w1 ⟨rfl, hb⟩
  clear b0 b1 b2 b3
  have hB_1 := hide (hB.out.trans (hb.mono hB.out.size))
  have bW_1 := hide (bW.out.below hb bW.out.lt)
  have bX_1 := hide (bX.out.below hb bX.out.lt)
  have rB_1 := hide (rB.out.below hb)
  clear hb hCo hW
  by_cases he : er = 0
  · subst he
    rw [if_neg (by simp)] at hc
    subst hc
    have hn16 := f8.out rfl
    have g2 := hide (f2.out rfl)
    have g3 := hide (f3.out rfl)
    have g4 := hide (f4.out rfl)
    have g5 := hide (f5.out rfl)
    have g6 := hide (f6.out rfl)
    have g7 := hide (f7.out rfl)
    clear f1 f2 f3 f4 f5 f6 f7 f8
    have bo := bW_1.out
    have b0 : w1.cell? ⟨w.heap.size, 0, none⟩ = some (.slice Q B.qs.length cq) := bo.cell 0
    have b1 : w1.cell? ⟨w.heap.size, 1, none⟩ = some (.slice Wd B.wanted.length cw) := bo.cell 1
    have b2 : w1.cell? ⟨w.heap.size, 2, none⟩ = some (.int .i64 B.lo) := bo.cell 2
    have b3 : w1.cell? ⟨w.heap.size, 3, none⟩ = some (.int .i64 B.hi) := bo.cell 3
    clear bo
    go_wp2_with fail
    refine (hVa.out w1 rB_1.out).mono ?_
    rintro e w2 ⟨rfl, hb⟩
    clear b0 b1 b2 b3
    have hB_2 := hide (hB_1.out.trans (hb.mono hB_1.out.size))
    have bW_2 := hide (bW_1.out.below hb bW_1.out.lt)
    have bX_2 := hide (bX_1.out.below hb bX_1.out.lt)
    have rB_2 := hide (rB_1.out.below hb)
    clear hb hVa
    by_cases hN0 : N = 0
    · subst hN0
      have bo := bW_2.out
      have b0 : w2.cell? ⟨w.heap.size, 0, none⟩ = some (.slice Q B.qs.length cq) := bo.cell 0
      have b1 : w2.cell? ⟨w.heap.size, 1, none⟩ = some (.slice Wd B.wanted.length cw) := bo.cell 1
      have b2 : w2.cell? ⟨w.heap.size, 2, none⟩ = some (.int .i64 B.lo) := bo.cell 2
      have b3 : w2.cell? ⟨w.heap.size, 3, none⟩ = some (.int .i64 B.hi) := bo.cell 3
      clear bo
      have hnt := hide (hNt.out 0 w2 rB_2.out)
      rw [g3.out 0 (by omega)] at hnt
      go_wp2_with fail
      refine hnt.out.mono ?_
      rintro e w3 ⟨⟨l3, rfl, -⟩, hb⟩
      clear b0 b1 b2 b3
      have hB_3 := hide (hB_2.out.trans (hb.mono hB_2.out.size))
      have bW_3 := hide (bW_2.out.below hb bW_2.out.lt)
      have bX_3 := hide (bX_2.out.below hb bX_2.out.lt)
      have rB_3 := hide (rB_2.out.below hb)
      clear hb hnt
      go_wp2_with fail
      refine (Awake_any _).mono ?_
      rintro e wz ⟨rfl, hbz⟩
      have hBz := hide (hB_3.out.trans (hbz.mono hB_3.out.size))
      clear hbz 
      go_wp2
      go_ret
      exact ⟨rfl, hBz.out⟩
    · have hNp : 0 < N := by omega
      have hNz : ((N : Int) == 0) = false := by rw [beq_eq_false_iff_ne]; omega
      have hNz2 : (N : Int) ≠ 0 := by omega
      have hNl : decide ((N : Int) ≤ 0) = false := decide_eq_false (by omega)
      have hNl2 : ¬ (N : Int) ≤ 0 := by omega
      obtain ⟨i, hi⟩ : ∃ z, a0 % N = z := ⟨_, rfl⟩
      obtain ⟨k, hk⟩ : ∃ z, a1 % N = z := ⟨_, rfl⟩
      have hiN : i < N := by rw [← hi]; exact Nat.mod_lt _ hNp
      have hkN : k < N := by rw [← hk]; exact Nat.mod_lt _ hNp
      have hm0 : (a0 : Int).tmod (N : Int) = (i : Int) := by rw [Int.tmod_eq_emod_of_nonneg (by omega), ← hi]; rfl
      have hm1 : (a1 : Int).tmod (N : Int) = (k : Int) := by rw [Int.tmod_eq_emod_of_nonneg (by omega), ← hk]; rfl
      have hw0 : IntKind.i64.wrap (i : Int) = (i : Int) := by rw [IntKind.wrap_i64]; omega
      have hw1 : IntKind.i64.wrap (k : Int) = (k : Int) := by rw [IntKind.wrap_i64]; omega
      have hw2 : IntKind.i64.wrap (a0 : Int) = (a0 : Int) := by rw [IntKind.wrap_i64]; omega
      have hw3 : IntKind.i64.wrap (a1 : Int) = (a1 : Int) := by rw [IntKind.wrap_i64]; omega
      replace hi := hide hi
      replace hk := hide hk
      replace hN0 := hide hN0
      have bo := bX_2.out
      have y0 : w2.cell? ⟨w.heap.size + 1, 0, none⟩ = some (.int .u16 (a0 : Int)) := bo.cell 0
      have y1 : w2.cell? ⟨w.heap.size + 1, 1, none⟩ = some (.int .u16 (a1 : Int)) := bo.cell 1
      clear bo
      go_wp2
      go_quiet (fail)
      clear y0 y1 hm0 hm1
      have hbq : Below w2.heap.size w2 (w2.drewN nq) := below_drewN (Below.refl _ _) _
      have hB_4 := hide (hB_2.out.trans (hbq.mono hB_2.out.size))
      have bW_4 := hide (bW_2.out.below hbq bW_2.out.lt)
      have bX_4 := hide (bX_2.out.below hbq bX_2.out.lt)
      have rB_4 := hide (rB_2.out.below hbq)
      clear hbq
      generalize w2.drewN nq = w3 at *
      have bo := bW_4.out
      have b0 : w3.cell? ⟨w.heap.size, 0, none⟩ = some (.slice Q B.qs.length cq) := bo.cell 0
      have b1 : w3.cell? ⟨w.heap.size, 1, none⟩ = some (.slice Wd B.wanted.length cw) := bo.cell 1
      have b2 : w3.cell? ⟨w.heap.size, 2, none⟩ = some (.int .i64 B.lo) := bo.cell 2
      have b3 : w3.cell? ⟨w.heap.size, 3, none⟩ = some (.int .i64 B.hi) := bo.cell 3
      clear bo
      have hnt := hide (hNt.out (i : Int) w3 rB_4.out)
      rw [g2.out i hiN, g4.out i hiN] at hnt
      go_wp2_with fail
      refine hnt.out.mono ?_
      rintro e w4 ⟨⟨li, rfl, hli⟩, hb⟩
      clear b0 b1 b2 b3
      have hB_5 := hide (hB_4.out.trans (hb.mono hB_4.out.size))
      have bW_5 := hide (bW_4.out.below hb bW_4.out.lt)
      have bX_5 := hide (bX_4.out.below hb bX_4.out.lt)
      have rB_5 := hide (rB_4.out.below hb)
      replace hli := hide hli
      clear hb hnt
      have bo := bW_5.out
      have b0 : w4.cell? ⟨w.heap.size, 0, none⟩ = some (.slice Q B.qs.length cq) := bo.cell 0
      have b1 : w4.cell? ⟨w.heap.size, 1, none⟩ = some (.slice Wd B.wanted.length cw) := bo.cell 1
      have b2 : w4.cell? ⟨w.heap.size, 2, none⟩ = some (.int .i64 B.lo) := bo.cell 2
      have b3 : w4.cell? ⟨w.heap.size, 3, none⟩ = some (.int .i64 B.hi) := bo.cell 3
      clear bo
      have hnt := hide (hNt.out (k : Int) w4 rB_5.out)
      rw [g2.out k hkN, g4.out k hkN] at hnt
      go_wp2_with fail
      refine hnt.out.mono ?_
      rintro e w5 ⟨⟨lk, rfl, hlk⟩, hb⟩
      clear b0 b1 b2 b3
      have hB_6 := hide (hB_5.out.trans (hb.mono hB_5.out.size))
      have bW_6 := hide (bW_5.out.below hb bW_5.out.lt)
      have bX_6 := hide (bX_5.out.below hb bX_5.out.lt)
      have rB_6 := hide (rB_5.out.below hb)
      have hli_6 := hide (hli.out.below hb)
      replace hlk := hide hlk
      clear hb hnt
      have bo := bW_6.out
      have b0 : w5.cell? ⟨w.heap.size, 0, none⟩ = some (.slice Q B.qs.length cq) := bo.cell 0
      have b1 : w5.cell? ⟨w.heap.size, 1, none⟩ = some (.slice Wd B.wanted.length cw) := bo.cell 1
      have b2 : w5.cell? ⟨w.heap.size, 2, none⟩ = some (.int .i64 B.lo) := bo.cell 2
      have b3 : w5.cell? ⟨w.heap.size, 3, none⟩ = some (.int .i64 B.hi) := bo.cell 3
      clear bo
      obtain ⟨Ai, ci, rfl, hri, hmi, -⟩ := hli_6.out
      have hnu := hide (hNu.out Ai _ ci _ w5 rB_6.out hri hmi)
      rw [g6.out i hiN, g5.out i hiN] at hnu
      obtain ⟨Ak, ck, rfl, -, -, -⟩ := hlk.out
      clear hri hmi
      go_wp2_with fail
      refine hnu.out.mono ?_
      rintro e w6 ⟨rfl, hb⟩
      clear b0 b1 b2 b3
      have hB_7 := hide (hB_6.out.trans (hb.mono hB_6.out.size))
      have bW_7 := hide (bW_6.out.below hb bW_6.out.lt)
      have bX_7 := hide (bX_6.out.below hb bX_6.out.lt)
      have rB_7 := hide (rB_6.out.below hb)
      have hli_7 := hide (hli_6.out.below hb)
      have hlk_7 := hide (hlk.out.below hb)
      clear hb hnu
      have bo := bW_7.out
      have b0 : w6.cell? ⟨w.heap.size, 0, none⟩ = some (.slice Q B.qs.length cq) := bo.cell 0
      have b1 : w6.cell? ⟨w.heap.size, 1, none⟩ = some (.slice Wd B.wanted.length cw) := bo.cell 1
      have b2 : w6.cell? ⟨w.heap.size, 2, none⟩ = some (.int .i64 B.lo) := bo.cell 2
      have b3 : w6.cell? ⟨w.heap.size, 3, none⟩ = some (.int .i64 B.hi) := bo.cell 3
      clear bo
      have hnt := hide (hNt.out (N : Int) w6 rB_7.out)
      rw [g3.out (N : Int) (by omega)] at hnt
      go_wp2_with fail
      refine hnt.out.mono ?_
      rintro e w7 ⟨⟨l7, rfl, -⟩, hb⟩
      clear b0 b1 b2 b3
      have hB_8 := hide (hB_7.out.trans (hb.mono hB_7.out.size))
      have bW_8 := hide (bW_7.out.below hb bW_7.out.lt)
      have bX_8 := hide (bX_7.out.below hb bX_7.out.lt)
      have rB_8 := hide (rB_7.out.below hb)
      have hli_8 := hide (hli_7.out.below hb)
      have hlk_8 := hide (hlk_7.out.below hb)
      clear hb hnt
      obtain ⟨Ai', ci', ei, hri, hmi, -⟩ := hli_8.out
      cases ei
      obtain ⟨Ak', ck', ek, hrk, hmk, -⟩ := hlk_8.out
      cases ek
      rcases Nat.lt_trichotomy i k with hlt | hlt | hlt
      · have t0 : True := trivial
        have t1 : decide ((i : Int) ≥ (k : Int)) = false := decide_eq_false (by omega)
        have t2 : decide ((i : Int) ≤ (k : Int)) = true := decide_eq_true (by omega)
        have t3 : ((i : Int) != (k : Int)) = true := by rw [bne_iff_ne]; omega
        have t4 : decide ((k : Int) ≤ (i : Int)) = false := decide_eq_false (by omega)
        have t5 : ¬ (k : Int) ≤ (i : Int) := by omega
        have t6 : ¬ k ≤ i := by omega
        have t7 : (i : Int) ≤ (k : Int) := by omega
        have t8 : i ≤ k := by omega
        have hcl := hide (hLa.out Ai Ak _ _ ci ck _ _ w7 hri hrk hmi hmk)
        rw [g7.out i k hlt hkN] at hcl
        replace hlt := hide hlt
        clear hri hrk hmi hmk
        go_wp2_with fail
        refine hcl.out.mono ?_
        rintro e w8 ⟨rfl, qq, rfl⟩
        have hb : Below w7.heap.size w7 (w7.drewN qq) := below_drewN (Below.refl _ _) _
        have hB_9 := hide (hB_8.out.trans (hb.mono hB_8.out.size))
        have bW_9 := hide (bW_8.out.below hb bW_8.out.lt)
        have bX_9 := hide (bX_8.out.below hb bX_8.out.lt)
        have rB_9 := hide (rB_8.out.below hb)
        have hli_9 := hide (hli_8.out.below hb)
        have hlk_9 := hide (hlk_8.out.below hb)
        clear hb hcl
        generalize w7.drewN qq = w8 at *
        go_wp2_with fail
        refine (Awake_any _).mono ?_
        rintro e wz ⟨rfl, hbz⟩
        have hBz := hide (hB_9.out.trans (hbz.mono hB_9.out.size))
        clear hbz 
        go_wp2
        go_ret
        exact ⟨rfl, hBz.out⟩
      · subst hlt
        have t1 : decide ((i : Int) ≥ (i : Int)) = true := decide_eq_true (by omega)
        have t2 : decide ((i : Int) ≤ (i : Int)) = true := decide_eq_true (by omega)
        have t3 : ((i : Int) != (i : Int)) = false := by simp
        have hcl := hide (hIn.out Ai Ak _ _ ci ck _ _ w7 hri hrk hmi hmk)
        rw [decide_eq_true rfl] at hcl
        clear hri hrk hmi hmk
        go_wp2_with fail
        refine hcl.out.mono ?_
        rintro e w8 ⟨rfl, qq, rfl⟩
        have hb : Below w7.heap.size w7 (w7.drewN qq) := below_drewN (Below.refl _ _) _
        have hB_10 := hide (hB_8.out.trans (hb.mono hB_8.out.size))
        have bW_10 := hide (bW_8.out.below hb bW_8.out.lt)
        have bX_10 := hide (bX_8.out.below hb bX_8.out.lt)
        have rB_10 := hide (rB_8.out.below hb)
        have hli_10 := hide (hli_8.out.below hb)
        have hlk_10 := hide (hlk_8.out.below hb)
        clear hb hcl
        generalize w7.drewN qq = w8 at *
        go_wp2_with fail
        refine (Awake_any _).mono ?_
        rintro e wz ⟨rfl, hbz⟩
        have hBz := hide (hB_10.out.trans (hbz.mono hB_10.out.size))
        clear hbz 
        go_wp2
        go_ret
        exact ⟨rfl, hBz.out⟩
      · have t0 : True := trivial
        have t1 : decide ((i : Int) ≥ (k : Int)) = true := decide_eq_true (by omega)
        have t2 : decide ((i : Int) ≤ (k : Int)) = false := decide_eq_false (by omega)
        have t3 : ((i : Int) != (k : Int)) = true := by rw [bne_iff_ne]; omega
        have t4 : decide ((k : Int) ≤ (i : Int)) = true := decide_eq_true (by omega)
        have t5 : ¬ (i : Int) ≤ (k : Int) := by omega
        have t6 : ¬ i ≤ k := by omega
        have t7 : (k : Int) ≤ (i : Int) := by omega
        have t8 : k ≤ i := by omega
        have hcl := hide (hLa.out Ak Ai _ _ ck ci _ _ w7 hrk hri hmk hmi)
        rw [g7.out k i hlt hiN] at hcl
        replace hlt := hide hlt
        clear hri hrk hmi hmk
        go_wp2_with fail
        refine hcl.out.mono ?_
        rintro e w8 ⟨rfl, qq, rfl⟩
        have hb : Below w7.heap.size w7 (w7.drewN qq) := below_drewN (Below.refl _ _) _
        have hB_11 := hide (hB_8.out.trans (hb.mono hB_8.out.size))
        have bW_11 := hide (bW_8.out.below hb bW_8.out.lt)
        have bX_11 := hide (bX_8.out.below hb bX_8.out.lt)
        have rB_11 := hide (rB_8.out.below hb)
        have hli_11 := hide (hli_8.out.below hb)
        have hlk_11 := hide (hlk_8.out.below hb)
        clear hb hcl
        generalize w7.drewN qq = w8 at *
        go_wp2_with fail
        refine (Awake_any _).mono ?_
        rintro e wz ⟨rfl, hbz⟩
        have hBz := hide (hB_11.out.trans (hbz.mono hB_11.out.size))
        clear hbz 
        go_wp2
        go_ret
        exact ⟨rfl, hBz.out⟩
  · have b1 : (er != 0) = true := by rw [bne_iff_ne]; exact he
    have b2 : (er == 0) = false := by rw [beq_eq_false_iff_ne]; exact he
    rw [if_pos he] at hc
    subst hc
    have bo := bW_1.out
    have b0 : w1.cell? ⟨w.heap.size, 0, none⟩ = some (.slice Q B.qs.length cq) := bo.cell 0
    have b1 : w1.cell? ⟨w.heap.size, 1, none⟩ = some (.slice Wd B.wanted.length cw) := bo.cell 1
    have b2 : w1.cell? ⟨w.heap.size, 2, none⟩ = some (.int .i64 B.lo) := bo.cell 2
    have b3 : w1.cell? ⟨w.heap.size, 3, none⟩ = some (.int .i64 B.hi) := bo.cell 3
    clear bo
    have hnt := hide (hNt.out 0 w1 rB_1.out)
    rw [f1.out he] at hnt
    replace he := hide he
    go_wp2_with fail
    refine hnt.out.mono ?_
    rintro e w3 ⟨⟨l3, rfl, -⟩, hb⟩
    clear b0 b1 b2 b3
    have hB_12 := hide (hB_1.out.trans (hb.mono hB_1.out.size))
    have bW_12 := hide (bW_1.out.below hb bW_1.out.lt)
    have bX_12 := hide (bX_1.out.below hb bX_1.out.lt)
    have rB_12 := hide (rB_1.out.below hb)
    clear hb hnt
    go_wp2_with fail
    refine (Awake_any _).mono ?_
    rintro e wz ⟨rfl, hbz⟩
    have hBz := hide (hB_12.out.trans (hbz.mono hB_12.out.size))
    clear hbz 
    go_wp2
    go_ret
    exact ⟨rfl, hBz.out⟩
end Go.Proofs.Ytnmgnonbgihalaa
