/-
  The law SkillDual, case 2.
-/
import Derived.Test.YtkhijdbigpaagaaSkDualB
import Derived.BigQuiet
import Derived.Test.YtkhijdbigpaagaaNh
import Derived.Test.YtkhijdbigpaagaaNb
import Derived.Deep.RegionLawGrows
namespace Go.Proofs.Ytkhijdbigpaagaa
open Go.RowKit RG

set_option maxRecDepth 100000 in
set_option maxHeartbeats 8000000 in
theorem SkillDual_c2 (v : Value) (S : Sch) (x0 x1 x2 y0 y1 : Int) (w : World) (h : RdSch w v S) (hx0 : 0 ≤ x0 ∧ x0 ≤ 65535) (hx1 : 0 ≤ x1 ∧ x1 ≤ 65535) (hx2 : 0 ≤ x2 ∧ x2 ≤ 65535) (hy0 : 0 ≤ y0 ∧ y0 ≤ 255) (hy1 : 0 ≤ y1 ∧ y1 ≤ 255) (hC : DualC S x0 x1 x2 DC2) :
    Calls Try.prog 10 #[v, .agg #[.int .u16 x0, .int .u16 x1, .int .u16 x2], .agg #[.int .u8 y0, .int .u8 y1]] w fun e w' => e = .returned (.bool true) ∧ Below w.heap.size w w' := by
  obtain ⟨i0, hi0, hz0, hz1, hz2⟩ := info_parts infoIn
  replace hi0 := hide hi0
  replace hz0 := hide hz0
  replace hz1 := hide hz1
  replace hz2 := hide hz2
  have hVa := hide (fun W (hb : Below w.heap.size w W) => valid_any v S W (h.below hb))
  have hM := hide (fun k x W (hb : Below w.heap.size w W) => Marks_any v S k x W (h.below hb))
  have hH := hide (fun k x W (hb : Below w.heap.size w W) => Behind_any v S k x W (h.below hb))
  have hS := hide h
  obtain ⟨A, c, A2, c2, rfl, hr1, hm1, hc1, hn1, hr2, hm2, hc2, hn2⟩ := h
  obtain ⟨k1, hk1⟩ : ∃ k1, S.sks.length = k1 := ⟨_, rfl⟩
  obtain ⟨k2, hk2⟩ : ∃ k2, S.ins.length = k2 := ⟨_, rfl⟩
  rw [hk1] at hS hVa hM hH ⊢
  rw [hk2] at hS hVa hM hH ⊢
  obtain ⟨W0, hW0⟩ : ∃ W0, ((w.alloc (.cells #[.slice A k1 c, .slice A2 k2 c2] 25)).alloc (.cells #[.int .u16 x0, .int .u16 x1, .int .u16 x2] 85)).alloc (.cells #[.int .u8 y0, .int .u8 y1] 66) = W0 := ⟨_, rfl⟩
  have kS := hide (show Blk W0 w.heap.size 25 #[.slice A k1 c, .slice A2 k2 c2] by rw [← hW0]; exact ((blkNew rfl).alloc _).alloc _)
  have kX := hide (show Blk W0 (w.heap.size + 1) 85 #[.int .u16 x0, .int .u16 x1, .int .u16 x2] by rw [← hW0]; exact (blkNew (by simp)).alloc _)
  have kY := hide (show Blk W0 (w.heap.size + 2) 66 #[.int .u8 y0, .int .u8 y1] by rw [← hW0]; exact blkNew (by simp +arith))
  have hB := hide (show Below w.heap.size w W0 by rw [← hW0]; exact (((Below.refl _ _).alloc (Nat.le_refl _) _).alloc (by simp) _).alloc (by simp +arith) _)
  have s0 : W0.cell? ⟨w.heap.size, 0, none⟩ = some (.slice A k1 c) := kS.out.cell 0
  have s1 : W0.cell? ⟨w.heap.size, 1, none⟩ = some (.slice A2 k2 c2) := kS.out.cell 1
  rw [← hW0] at s0 s1
  replace hW0 := hide hW0
  replace hr2 := hide hr2
  replace hm2 := hide (show k2 ≤ maxLen by rw [← hk2]; exact hm2)
  replace hc2 := hide hc2
  replace hk1 := hide hk1
  replace hk2 := hide hk2
  clear hr1 hm1 hc1 hn1 hn2
  go_enter Try.func10, Try.ntmps10
  go_wp2_with fail
  rw [hW0.out]
  refine (hVa.out _ hB.out).mono ?_
  rintro e w1 ⟨rfl, hb⟩
  replace kS := hide (kS.out.below hb kS.out.lt)
  replace kX := hide (kX.out.below hb kX.out.lt)
  replace kY := hide (kY.out.below hb kY.out.lt)
  replace hB := hide (hB.out.trans (hb.mono hB.out.size))
  clear hb s0 s1 hVa hW0
  have s0 : w1.cell? ⟨w.heap.size, 0, none⟩ = some (.slice A k1 c) := kS.out.cell 0
  have s1 : w1.cell? ⟨w.heap.size, 1, none⟩ = some (.slice A2 k2 c2) := kS.out.cell 1
  by_cases hck : (checkS S).2.2 = 0
  · rw [show ((checkS S).2.2 == 0) = true by rw [beq_iff_eq]; exact hck]
    replace hck := hide hck
    by_cases hk0 : k2 = 0
    · have hb1 : ((k2 : Int) == 0) = true := by rw [hk0]; rfl
      replace hk0 := hide hk0
      go_wp2_with fail
      refine (AwakeS _).mono ?_
      rintro e w5 ⟨rfl, hb⟩
      replace hB := hide (hB.out.trans (hb.mono hB.out.size))
      clear hb s0 s1
      go_wp2
      go_ret
      exact ⟨rfl, hB.out⟩
    · have hb1 : ((k2 : Int) == 0) = false := by rw [beq_eq_false_iff_ne]; omega
      have hkp : 0 < k2 := by omega
      have hkz : (0 : Int) < (k2 : Int) := by omega
      have hm2' := hm2.out
      unfold maxLen at hm2'
      obtain ⟨i, hi⟩ : ∃ i : Nat, x0.tmod (k2 : Int) = i := ⟨(x0.tmod k2).toNat, by rw [Int.toNat_of_nonneg (Int.tmod_nonneg _ hx0.1)]⟩
      have hib : (i : Int) < (k2 : Int) := by rw [← hi]; exact Int.tmod_lt_of_pos _ hkz
      obtain ⟨l, hl⟩ : ∃ l, x1.tmod 1001 = l := ⟨_, rfl⟩
      have hlb : 0 ≤ l ∧ l ≤ 1000 := by rw [← hl]; exact ⟨Int.tmod_nonneg _ hx1.1, by have := Int.tmod_lt_of_pos x1 (show (0 : Int) < 1001 by decide); omega⟩
      obtain ⟨m, hm⟩ : ∃ m, x2.tmod 1001 = m := ⟨_, rfl⟩
      have hmb : 0 ≤ m ∧ m ≤ 1000 := by rw [← hm]; exact ⟨Int.tmod_nonneg _ hx2.1, by have := Int.tmod_lt_of_pos x2 (show (0 : Int) < 1001 by decide); omega⟩
      have t0 : w1.cell? ⟨w.heap.size + 1, 0, none⟩ = some (.int .u16 x0) := kX.out.cell 0
      have t1 : w1.cell? ⟨w.heap.size + 1, 1, none⟩ = some (.int .u16 x1) := kX.out.cell 1
      have t2 : w1.cell? ⟨w.heap.size + 1, 2, none⟩ = some (.int .u16 x2) := kX.out.cell 2
      go_wp2
      go_quiet (fail)
      have hB1 := hide (below_drewN hB.out nq)
      replace kS := hide (Blk.drewN kS.out nq)
      replace kX := hide (Blk.drewN kX.out nq)
      replace kY := hide (Blk.drewN kY.out nq)
      clear t0 t1 t2 s0 s1 hB kX
      replace hi := hide hi
      replace hl := hide hl
      replace hm := hide hm
      generalize w1.drewN nq = w2 at *
      have hi2 : i < S.ins.length := by rw [hk2.out]; omega
      have hk6 : k2 ≤ 6 := by obtain ⟨_, _, h6, _⟩ := check_ok hck.out; rw [← hk2.out]; exact h6
      obtain ⟨hlo0, hloh, hhi0⟩ := ins_ok hck.out hi2
      have hMa := marks_at hck.out hi2 hlb
      have hMi := hM.out i l
      have hHi := hH.out i m
      obtain ⟨lo, hlo⟩ : ∃ lo, (S.ins[i]?.getD default).lo = lo := ⟨_, rfl⟩
      obtain ⟨hj, hhj⟩ : ∃ hj, (S.ins[i]?.getD default).hi = hj := ⟨_, rfl⟩
      have hcs := hC hck.out (by rw [hk2.out]; omega) i l m lo hj (by rw [hk2.out]; exact hi.out) hl.out hm.out hlo hhj
      unfold DC2 at hcs
      rw [hlo] at hMa hlo0 hloh
      rw [hhj] at hMa hloh hhi0
      rw [hMa] at hMi
      obtain ⟨hy00, hy01⟩ := hy0
      obtain ⟨hy10, hy11⟩ := hy1
      obtain ⟨lo2, hlo2⟩ : ∃ x, max (-300) (lo - y0) = x := ⟨_, rfl⟩
      obtain ⟨hj2, hhj2⟩ : ∃ x, min 300 (hj + y1) = x := ⟨_, rfl⟩
      obtain ⟨c0, c1, e0, e1, ge, hMw, hHw, hc0, hc1, hge⟩ := dual_all hck.out hi2 hlb hmb hlo hhj (lo2 := lo2) (hj2 := hj2) (by omega)
      obtain ⟨a0, ha0⟩ : ∃ a0, lim (l + lo) = a0 := ⟨_, rfl⟩
      obtain ⟨a1, ha1⟩ : ∃ a1, lim (l + hj) = a1 := ⟨_, rfl⟩
      rw [ha0] at hMi hcs hc0
      rw [ha1] at hMi hc1
      try rw [ha1] at hcs
      obtain ⟨b0, b1, f, hbf⟩ : ∃ b0 b1 f, behindF S i m = ((b0, b1), f) := ⟨_, _, _, rfl⟩
      rw [hbf] at hHi hcs hge
      simp only at hMi hHi hcs hge
      obtain ⟨rfl, hcs⟩ := hcs
      replace hlo := hide hlo
      replace hhj := hide hhj
      replace hMw := hide hMw
      replace hHw := hide hHw
      replace hge := hide hge
      replace hMi := hide hMi
      replace hHi := hide hHi
      replace hck := hide hck.out
      clear ha0 ha1 hbf hMa hM hH hC hi hl hm
      have s0 : w2.cell? ⟨w.heap.size, 0, none⟩ = some (.slice A k1 c) := kS.out.cell 0
      have s1 : w2.cell? ⟨w.heap.size, 1, none⟩ = some (.slice A2 k2 c2) := kS.out.cell 1
      replace hcs := hide hcs
      replace hlo2 := hide hlo2
      replace hhj2 := hide hhj2
      replace hc0 := hide hc0
      replace hc1 := hide hc1
      go_wp2_with fail
      refine (hMi.out _ hB1.out).mono ?_
      rintro e w3 ⟨rfl, hb⟩
      replace kS := hide ((kS.out.below hb kS.out.lt).alloc (.cells #[.int .i64 a0, .int .i64 a1] 32))
      replace kY := hide ((kY.out.below hb kY.out.lt).alloc (.cells #[.int .i64 a0, .int .i64 a1] 32))
      have ka := hide (show Blk (w3.alloc (.cells #[.int .i64 a0, .int .i64 a1] 32)) w3.heap.size 32 #[.int .i64 a0, .int .i64 a1] from blkNew rfl)
      have hB3 := hB1.out.trans (hb.mono hB1.out.size)
      replace hB1 := hide (hB3.alloc hB3.size (.cells #[.int .i64 a0, .int .i64 a1] 32))
      clear hb s0 s1 hMi hB3
      have s0 : (w3.alloc (.cells #[.int .i64 a0, .int .i64 a1] 32)).cell? ⟨w.heap.size, 0, none⟩ = some (.slice A k1 c) := kS.out.cell 0
      have s1 : (w3.alloc (.cells #[.int .i64 a0, .int .i64 a1] 32)).cell? ⟨w.heap.size, 1, none⟩ = some (.slice A2 k2 c2) := kS.out.cell 1
      go_wp2_with fail
      refine (hHi.out _ hB1.out).mono ?_
      rintro e w4 ⟨rfl, hb⟩
      replace kS := hide ((kS.out.below hb kS.out.lt).alloc (.cells #[.int .i64 b0, .int .i64 b1] 32))
      replace kY := hide ((kY.out.below hb kY.out.lt).alloc (.cells #[.int .i64 b0, .int .i64 b1] 32))
      replace ka := hide ((ka.out.below hb ka.out.lt).alloc (.cells #[.int .i64 b0, .int .i64 b1] 32))
      have kb := hide (show Blk (w4.alloc (.cells #[.int .i64 b0, .int .i64 b1] 32)) w4.heap.size 32 #[.int .i64 b0, .int .i64 b1] from blkNew rfl)
      have hB3 := hB1.out.trans (hb.mono hB1.out.size)
      replace hB1 := hide (hB3.alloc hB3.size (.cells #[.int .i64 b0, .int .i64 b1] 32))
      clear hb s0 s1 hHi hB3
      have qa0 : (w4.alloc (.cells #[.int .i64 b0, .int .i64 b1] 32)).cell? ⟨w3.heap.size, 0, none⟩ = some (.int .i64 a0) := ka.out.cell 0
      have qa1 : (w4.alloc (.cells #[.int .i64 b0, .int .i64 b1] 32)).cell? ⟨w3.heap.size, 1, none⟩ = some (.int .i64 a1) := ka.out.cell 1
      have qb0 : (w4.alloc (.cells #[.int .i64 b0, .int .i64 b1] 32)).cell? ⟨w4.heap.size, 0, none⟩ = some (.int .i64 b0) := kb.out.cell 0
      have qb1 : (w4.alloc (.cells #[.int .i64 b0, .int .i64 b1] 32)).cell? ⟨w4.heap.size, 1, none⟩ = some (.int .i64 b1) := kb.out.cell 1
      replace hlb := hide hlb
      replace hmb := hide hmb
      have hcs1 := hcs.out
      first | (have d1 : decide (a0 ≤ m) = true := decide_eq_true (by omega)) | (have d1 : decide (a0 ≤ m) = false := decide_eq_false (by omega)) | skip
      first | (have d2 : decide (m ≤ a1) = true := decide_eq_true (by omega)) | (have d2 : decide (m ≤ a1) = false := decide_eq_false (by omega)) | skip
      first | (have d3 : decide (b0 ≤ l) = true := decide_eq_true (by omega)) | (have d3 : decide (b0 ≤ l) = false := decide_eq_false (by omega)) | skip
      first | (have d4 : decide (l ≤ b1) = true := decide_eq_true (by omega)) | (have d4 : decide (l ≤ b1) = false := decide_eq_false (by omega)) | skip
      clear hcs1
      go_wp2
      clear qa0 qa1 qb0 qb1
      try clear d1
      try clear d2
      try clear d3
      try clear d4
      have hrr := hr2.out.below hB1.out
      generalize (w4.alloc (.cells #[.int .i64 b0, .int .i64 b1] 32)) = w5 at *
      rw [hk2.out] at hrr
      obtain ⟨bb, off, rfl, hbb, hcc⟩ := hrr.2.2 hkp
      have hfl := hide (flatIn_len S.ins)
      have hfa := hide (flatIn_at S.ins)
      have hone := hide (inOne S.ins)
      obtain ⟨xs, hxs⟩ : ∃ xs, S.ins.flatMap inCells = xs := ⟨_, rfl⟩
      rw [hxs] at hfl hfa hone
      replace hxs := hide hxs
      replace hcc := hide hcc
      clear hrr
      have hs5 := hB1.out.size
      refine region_grow_tail 8 [IsV (.pointer (some ⟨w.heap.size, 0, none⟩)), IsV (.slice A k1 c), (fun v _ => ∃ a, v = .slice (some a) 0 0), IsV (.pointer (some ⟨w.heap.size, 1, none⟩)), IsV (.slice (some ⟨bb, off, none⟩) k2 c2),
        InsV S.ins k2 w5.heap.size, SchV A k1 c S.ins k2 w5.heap.size, NewV w5.heap.size] (by kernel_rfl) (by kernel_rfl) rfl ?_ ?_ ?_
      · simp only [AllStb, IsV.stb, InsV.stb, SchV.stb, NewV.stb, and_true, true_and]
        exact fun _ _ _ _ h => h
      · refine ⟨?_, ?_, ?_, ?_, ?_, ?_, ?_, ?_, trivial⟩
        all_goals
          intro y w6 K Qq Cv hC hd hV
          have k6 := kS.out.below hC kS.out.lt
          have q0 : w6.cell? ⟨w.heap.size, 0, none⟩ = some (.slice A k1 c) := k6.cell 0
          have q1 : w6.cell? ⟨w.heap.size, 1, none⟩ = some (.slice (some ⟨bb, off, none⟩) k2 c2) := k6.cell 1
          replace k6 := hide k6
        all_goals try (simp [deps, VL, IsV, Region.binds] at hd)
        · simp only [List.take_succ_cons, List.take_zero, putAll, Act.put]; go_simp; intro hK; exact hK _ _ (hV _ _ hC (Below.refl _ _) rfl)
        · simp only [List.take_succ_cons, List.take_zero, putAll, Act.put]; go_simp; intro hK; exact hK _ _ (hV _ _ hC (Below.refl _ _) rfl)
        · simp only [List.take_succ_cons, List.take_zero, putAll, Act.put]; go_simp; intro hK; exact hK _ _ (hV _ _ (hC.alloc hC.size _) ((Below.refl _ _).alloc (Nat.le_refl _) _) ⟨_, rfl⟩)
        · simp only [List.take_succ_cons, List.take_zero, putAll, Act.put]; go_simp; intro hK; exact hK _ _ (hV _ _ hC (Below.refl _ _) rfl)
        · simp only [List.take_succ_cons, List.take_zero, putAll, Act.put]; go_simp; intro hK; exact hK _ _ (hV _ _ hC (Below.refl _ _) rfl)
        · obtain ⟨⟨a, e2⟩, e4⟩ := hd
          intro hK
          refine step_append_grows rfl (.tmp 98) (.tmp 100) 23 rfl 81 i0 _ 3 32 Try.underlying23 hi0.out hz0.out hz1.out hz2.out rfl (by decide) (some a) 0 0 [] (by simp only [List.take_succ_cons, List.take_zero, putAll, Act.put]; go_simp; try exact e2) (by simp) rfl (by simp) ⟨bb, off, none⟩ k2 c2 xs (by simp only [List.take_succ_cons, List.take_zero, putAll, Act.put]; go_simp; try exact e4) ?n1 ?n2 hone.out (by omega) ?n3 ?n4 ?_
          case n1 => rw [hfl.out, hk2.out]
          case n2 =>
            intro j u hj
            have hx := hfa.out j u hj
            rw [Addr.add_lit]
            have := hcc.out (j / 3) (j % 3) u hx
            rw [show off + j / 3 * 3 + j % 3 = off + j by omega] at this
            exact (cellB hC hbb).trans this
          case n3 => have := hm2.out; omega
          case n4 => omega
          intro v' w' hown hgrow
          rw [Nat.zero_add, List.nil_append, ← hxs.out] at hown
          obtain ⟨g, cc, rfl, hg, hgc, hI⟩ := insAt_own hown hk2.out (by omega)
          have hb7 : Below w6.heap.size w6 w' := (Below.refl _ w6).grown hgrow (Nat.le_refl _) (by intro k hk; cases hk)
          exact hK _ _ (hV _ _ (hC.trans (hb7.mono hC.size)) hb7 ⟨g, cc, rfl, by have := hC.size; omega, hgc, hI⟩)
        · obtain ⟨e1, g, cc, e5, hg1, hg2, hg3⟩ := hd
          simp only [List.take_succ_cons, List.take_zero, putAll, Act.put]; go_simp; intro hK; exact hK _ _ (hV _ _ hC (Below.refl _ _) ⟨g, cc, rfl, hg1, hg2, hg3⟩)
        · simp only [List.take_succ_cons, List.take_zero, putAll, Act.put]; go_simp; intro hK; exact hK _ _ (hV _ _ (hC.alloc hC.size _) ((Below.refl _ _).alloc (Nat.le_refl _) _) ⟨_, rfl, hC.size, blkNew rfl⟩)
      · intro y w6 hC hd
        simp [EndsL, IsV] at hd
        obtain ⟨d0, d1, d2, d3, d4, d5, d6, d7⟩ := hd
        obtain ⟨a2, d2⟩ := d2
        obtain ⟨g', cc', d5, -, -, -⟩ := d5
        obtain ⟨g, cc, d6, hg1, hg2, hI⟩ := d6
        obtain ⟨pp, d7, hp1, hkp2⟩ := d7
        have hgp : g ≠ pp := by
          rintro rfl
          obtain ⟨cur, hbk, _⟩ := hI
          unfold Blk at hbk hkp2
          have he := hbk.symm.trans hkp2
          simp at he
        simp only [List.take_succ_cons, List.take_zero, List.drop_succ_cons, List.drop_zero, putAll, Act.put]
        rw [d0, d1, d2, d3, d4, d5, d6, d7]
        clear d0 d1 d2 d3 d4 d5 d6 d7
        simp only [List.setIfInBounds_toArray, List.set_cons_succ, List.set_cons_zero]
        have hB6 := hide (hB1.out.trans (hC.mono hs5))
        have hat := map_at inCells S.ins i hi2
        have hcc1 := fun j u hu => hcc.out i j u (by rw [hat]; exact hu)
        have c1 := hcc1 1 (.int .i64 lo) (by rw [← hlo.out]; rfl)
        have c2' := hcc1 2 (.int .i64 hj) (by rw [← hhj.out]; rfl)
        have hbp : bb ≠ pp := by omega
        have z6 := hkp2.lt
        have hzS := kS.out.lt
        have hzY := kY.out.lt
        have hza := ka.out.lt
        have hzb := kb.out.lt
        have kS6 := kS.out.below hC hzS
        have kY6 := kY.out.below hC hzY
        have ka6 := ka.out.below hC hza
        have kb6 := kb.out.below hC hzb
        replace c1 := (cellB hC hbb).trans c1
        replace c2' := (cellB hC hbb).trans c2'
        have z0 : w6.cell? ⟨pp, 0, none⟩ = some (.slice none 0 0) := hkp2.cell 0
        have z1 : w6.cell? ⟨pp, 1, none⟩ = some (.slice none 0 0) := hkp2.cell 1
        have f0 : w6.frozen? ⟨pp, 0, none⟩ = false := hkp2.frozen 0
        have f1 : w6.frozen? ⟨pp, 1, none⟩ = false := hkp2.frozen 1
        have u1 : w.heap.size ≠ pp := by omega
        have u2 : w.heap.size + 2 ≠ pp := by omega
        have u3 : w3.heap.size ≠ pp := by omega
        have u4 : w4.heap.size ≠ pp := by omega
        have kp7 : Blk ((w6.setCell ⟨pp, 0, none⟩ (.slice A k1 c)).setCell ⟨pp, 1, none⟩ (.slice (some ⟨g, 0, none⟩) k2 cc)) pp 25 #[.slice A k1 c, .slice (some ⟨g, 0, none⟩) k2 cc] := by
          have := (hkp2.set_ 0 (.slice A k1 c)).set_ 1 (.slice (some ⟨g, 0, none⟩) k2 cc)
          simpa using this
        have kS7 := ((kS6.far (p := ⟨pp, 0, none⟩) u1 (.slice A k1 c)).far (p := ⟨pp, 1, none⟩) u1 (.slice (some ⟨g, 0, none⟩) k2 cc))
        have kY7 := ((kY6.far (p := ⟨pp, 0, none⟩) u2 (.slice A k1 c)).far (p := ⟨pp, 1, none⟩) u2 (.slice (some ⟨g, 0, none⟩) k2 cc))
        have ka7 := ((ka6.far (p := ⟨pp, 0, none⟩) u3 (.slice A k1 c)).far (p := ⟨pp, 1, none⟩) u3 (.slice (some ⟨g, 0, none⟩) k2 cc))
        have kb7 := ((kb6.far (p := ⟨pp, 0, none⟩) u4 (.slice A k1 c)).far (p := ⟨pp, 1, none⟩) u4 (.slice (some ⟨g, 0, none⟩) k2 cc))
        have hI7 : InsAt ((w6.setCell ⟨pp, 0, none⟩ (.slice A k1 c)).setCell ⟨pp, 1, none⟩ (.slice (some ⟨g, 0, none⟩) k2 cc)) g S.ins := (hI.blk (Below.heap_setCell w6 ⟨pp, 0, none⟩ (.slice A k1 c) g hgp)).blk (Below.heap_setCell _ ⟨pp, 1, none⟩ (.slice (some ⟨g, 0, none⟩) k2 cc) g hgp)
        have hB7 : Below w.heap.size w ((w6.setCell ⟨pp, 0, none⟩ (.slice A k1 c)).setCell ⟨pp, 1, none⟩ (.slice (some ⟨g, 0, none⟩) k2 cc)) := (hB6.out.setCell (p := ⟨pp, 0, none⟩) (by show w.heap.size ≤ pp; omega) (.slice A k1 c)).setCell (p := ⟨pp, 1, none⟩) (by show w.heap.size ≤ pp; omega) (.slice (some ⟨g, 0, none⟩) k2 cc)
        have hbk7 : ((w6.setCell ⟨pp, 0, none⟩ (.slice A k1 c)).setCell ⟨pp, 1, none⟩ (.slice (some ⟨g, 0, none⟩) k2 cc)).heap[bb]? = w6.heap[bb]? := (Below.heap_setCell _ ⟨pp, 1, none⟩ (.slice (some ⟨g, 0, none⟩) k2 cc) bb hbp).trans (Below.heap_setCell w6 ⟨pp, 0, none⟩ (.slice A k1 c) bb hbp)
        replace c1 : ((w6.setCell ⟨pp, 0, none⟩ (.slice A k1 c)).setCell ⟨pp, 1, none⟩ (.slice (some ⟨g, 0, none⟩) k2 cc)).cell? ⟨bb, off + i * 3 + 1, none⟩ = some (.int .i64 lo) := (World.cell?_of_block hbk7).trans c1
        replace c2' : ((w6.setCell ⟨pp, 0, none⟩ (.slice A k1 c)).setCell ⟨pp, 1, none⟩ (.slice (some ⟨g, 0, none⟩) k2 cc)).cell? ⟨bb, off + i * 3 + 2, none⟩ = some (.int .i64 hj) := (World.cell?_of_block hbk7).trans c2'
        have q1 : ((w6.setCell ⟨pp, 0, none⟩ (.slice A k1 c)).setCell ⟨pp, 1, none⟩ (.slice (some ⟨g, 0, none⟩) k2 cc)).cell? ⟨w.heap.size, 1, none⟩ = some (.slice (some ⟨bb, off, none⟩) k2 c2) := kS7.cell 1
        have hsz7 : ((w6.setCell ⟨pp, 0, none⟩ (.slice A k1 c)).setCell ⟨pp, 1, none⟩ (.slice (some ⟨g, 0, none⟩) k2 cc)).heap.size = w6.heap.size := by simp [World.setCell]
        have kS8 := hide (kS7.alloc (.cells #[.int .i64 lo, .int .i64 hj] 32))
        have kY8 := hide (kY7.alloc (.cells #[.int .i64 lo, .int .i64 hj] 32))
        have ka8 := hide (ka7.alloc (.cells #[.int .i64 lo, .int .i64 hj] 32))
        have kb8 := hide (kb7.alloc (.cells #[.int .i64 lo, .int .i64 hj] 32))
        have kp8 := hide (kp7.alloc (.cells #[.int .i64 lo, .int .i64 hj] 32))
        have hI8 := hide (hI7.alloc (.cells #[.int .i64 lo, .int .i64 hj] 32))
        have hB8 := hide (hB7.alloc hB7.size (.cells #[.int .i64 lo, .int .i64 hj] 32))
        have kc8 := hide (show Blk (((w6.setCell ⟨pp, 0, none⟩ (.slice A k1 c)).setCell ⟨pp, 1, none⟩ (.slice (some ⟨g, 0, none⟩) k2 cc)).alloc (.cells #[.int .i64 lo, .int .i64 hj] 32)) w6.heap.size 32 #[.int .i64 lo, .int .i64 hj] from blkNew hsz7.symm)
        clear hC hkp2 hI kS6 kY6 ka6 kb6 kS7 kY7 ka7 kb7 hI7 hB7 hbk7 kp7 kS kY ka kb hB1 hcc1 hat hB6 hsz7
        go_wp2
        generalize (((w6.setCell ⟨pp, 0, none⟩ (.slice A k1 c)).setCell ⟨pp, 1, none⟩ (.slice (some ⟨g, 0, none⟩) k2 cc)).alloc (.cells #[.int .i64 lo, .int .i64 hj] 32)) = w8 at *
        have hw1 : IntKind.i64.wrap (lo - y0) = lo - y0 := by rw [IntKind.wrap_i64]; omega
        have hw2 : IntKind.i64.wrap (hj + y1) = hj + y1 := by rw [IntKind.wrap_i64]; omega
        have hw3 : IntKind.i64.wrap y0 = y0 := by rw [IntKind.wrap_i64]; omega
        have hw4 : IntKind.i64.wrap y1 = y1 := by rw [IntKind.wrap_i64]; omega
        have hlo3 := hlo2.out
        have hhj3 := hhj2.out
        have hsp := hide (fun W => span_w lo2 hj2 W)
        clear z0 z1 f0 f1 c1 c2' q1
        refine region_grow_tail 20 [IsV (.pointer (some ⟨pp, 1, none⟩)), IsV (.slice (some ⟨g, 0, none⟩) k2 cc), IsV (.int .i64 i), IsV (.pointer (some ⟨w6.heap.size, 0, none⟩)), IsV (.int .i64 lo), IsV (.pointer (some ⟨w.heap.size + 2, 0, none⟩)), IsV (.int .u8 y0), IsV (.int .i64 y0), IsV (.int .i64 (lo - y0)), IsV (.int .i64 lo2),
          IsV (.pointer (some ⟨w6.heap.size, 1, none⟩)), IsV (.int .i64 hj), IsV (.pointer (some ⟨w.heap.size + 2, 1, none⟩)), IsV (.int .u8 y1), IsV (.int .i64 y1), IsV (.int .i64 (hj + y1)), IsV (.int .i64 hj2), IsV (.agg #[.int .i64 lo2, .int .i64 hj2]), IsV (.pointer (some ⟨g, i * 3, none⟩)), IsV (.pointer (some ⟨g, i * 3 + 1, none⟩))] (by kernel_rfl) (by kernel_rfl) rfl ?_ ?_ ?_
        · simp [AllStb, IsV.stb]
        · refine ⟨?_, ?_, ?_, ?_, ?_, ?_, ?_, ?_, ?_, ?_, ?_, ?_, ?_, ?_, ?_, ?_, ?_, ?_, ?_, ?_, trivial⟩
          all_goals
            intro y w9 K Qq Cv hC hd hV
            have b1' : w9.cell? ⟨pp, 1, none⟩ = some (.slice (some ⟨g, 0, none⟩) k2 cc) := (kp8.out.below hC kp8.out.lt).cell 1
            have b2' : w9.cell? ⟨w6.heap.size, 0, none⟩ = some (.int .i64 lo) := (kc8.out.below hC kc8.out.lt).cell 0
            have b3' : w9.cell? ⟨w6.heap.size, 1, none⟩ = some (.int .i64 hj) := (kc8.out.below hC kc8.out.lt).cell 1
            have b4' : w9.cell? ⟨w.heap.size + 2, 0, none⟩ = some (.int .u8 y0) := (kY8.out.below hC kY8.out.lt).cell 0
            have b5' : w9.cell? ⟨w.heap.size + 2, 1, none⟩ = some (.int .u8 y1) := (kY8.out.below hC kY8.out.lt).cell 1
          all_goals try (simp [deps, VL, IsV, Region.binds] at hd)
          all_goals simp only [List.take_succ_cons, List.take_zero, putAll, Act.put]
          all_goals (go_simp; intro hK)
          iterate 17 (first | exact hK _ _ (hV _ _ hC (Below.refl _ _) rfl) | skip)
          all_goals first
            | exact hK _ _ (hV _ _ hC (Below.refl _ _) rfl)
            | (refine (hsp.out _).mono ?_; rintro e w7 ⟨rfl, hb7⟩; exact hK _ _ (hV _ _ (hC.trans (hb7.mono hC.size)) hb7 rfl))
        · intro y w9 hC hd
          simp [EndsL, IsV] at hd
          obtain ⟨d0, d1, d2, d3, d4, d5, d6, d7, d8, d9, d10, d11, d12, d13, d14, d15, d16, d17, d18, d19⟩ := hd
          simp only [List.take_succ_cons, List.take_zero, List.drop_succ_cons, List.drop_zero, putAll, Act.put]
          rw [d17, d19]
          clear d0 d1 d2 d3 d4 d5 d6 d7 d8 d9 d10 d11 d12 d13 d14 d15 d16 d17 d18 d19
          simp only [List.setIfInBounds_toArray, List.set_cons_succ, List.set_cons_zero]
          have hI9 := hI8.out.blk (hC.block g hI8.out.lt)
          have hB9 := hB8.out.trans (hC.mono hB8.out.size)
          have ka9 := ka8.out.below hC ka8.out.lt
          have kb9 := kb8.out.below hC kb8.out.lt
          have kp9 := kp8.out.below hC kp8.out.lt
          obtain ⟨cur, hgb, hgs, hgt⟩ := id hI9
          have v1 := ka9.ne_ hgb (by decide)
          have v2 := kb9.ne_ hgb (by decide)
          have v3 := kp9.ne_ hgb (by decide)
          obtain ⟨W10, hW10⟩ : ∃ W, (w9.setCell ⟨g, i * 3 + 1, none⟩ (.int .i64 lo2)).setCell ⟨g, i * 3 + 2, none⟩ (.int .i64 hj2) = W := ⟨_, rfl⟩
          have ka10 := hide (show Blk W10 w3.heap.size 32 #[.int .i64 a0, .int .i64 a1] by rw [← hW10]; exact (ka9.far (p := ⟨g, i * 3 + 1, none⟩) v1 _).far (p := ⟨g, i * 3 + 2, none⟩) v1 _)
          have kb10 := hide (show Blk W10 w4.heap.size 32 #[.int .i64 b0, .int .i64 b1] by rw [← hW10]; exact (kb9.far (p := ⟨g, i * 3 + 1, none⟩) v2 _).far (p := ⟨g, i * 3 + 2, none⟩) v2 _)
          have kp10 := hide (show Blk W10 pp 25 #[.slice A k1 c, .slice (some ⟨g, 0, none⟩) k2 cc] by rw [← hW10]; exact (kp9.far (p := ⟨g, i * 3 + 1, none⟩) v3 _).far (p := ⟨g, i * 3 + 2, none⟩) v3 _)
          have hI10 : InsAt W10 g (setW S i lo2 hj2).ins := by rw [← hW10]; exact hI9.set hi2 rfl
          have hgw : w.heap.size ≤ g := by omega
          have hB10 := hide (show Below w.heap.size w W10 by rw [← hW10]; exact (hB9.setCell (p := ⟨g, i * 3 + 1, none⟩) hgw _).setCell (p := ⟨g, i * 3 + 2, none⟩) hgw _)
          have hib2 : i < k2 := by omega
          have hsw := setW_sch hS.out hB10.out hI10 hk2.out hg2 hib2
          have hM10 := Marks_any _ (setW S i lo2 hj2) i l W10 hsw
          have hH10 := hide (fun W (hb : Below W10.heap.size W10 W) => Behind_any _ (setW S i lo2 hj2) i m W (hsw.below hb))
          rw [hMw.out] at hM10
          rw [hHw.out] at hH10
          simp only at hM10 hH10
          replace hM10 := hide hM10
          obtain ⟨z1, e1'⟩ : ∃ u, w9.cell? ⟨g, i * 3 + 1, none⟩ = some u := by rw [hgb.cell]; exact ⟨_, Array.getElem?_eq_getElem (by omega)⟩
          obtain ⟨z2, e2'⟩ : ∃ u, w9.cell? ⟨g, i * 3 + 2, none⟩ = some u := by rw [hgb.cell]; exact ⟨_, Array.getElem?_eq_getElem (by omega)⟩
          have f1 : w9.frozen? ⟨g, i * 3 + 1, none⟩ = false := hgb.frozen _
          have f2 : w9.frozen? ⟨g, i * 3 + 2, none⟩ = false := hgb.frozen _
          have q0 : ((w9.setCell ⟨g, i * 3 + 1, none⟩ (.int .i64 lo2)).setCell ⟨g, i * 3 + 1 + 1, none⟩ (.int .i64 hj2)).cell? ⟨pp, 0, none⟩ = some (.slice A k1 c) := by
            rw [show (w9.setCell ⟨g, i * 3 + 1, none⟩ (.int .i64 lo2)).setCell ⟨g, i * 3 + 1 + 1, none⟩ (.int .i64 hj2) = W10 from hW10]; exact kp10.out.cell 0
          have q1 : ((w9.setCell ⟨g, i * 3 + 1, none⟩ (.int .i64 lo2)).setCell ⟨g, i * 3 + 1 + 1, none⟩ (.int .i64 hj2)).cell? ⟨pp, 1, none⟩ = some (.slice (some ⟨g, 0, none⟩) k2 cc) := by
            rw [show (w9.setCell ⟨g, i * 3 + 1, none⟩ (.int .i64 lo2)).setCell ⟨g, i * 3 + 1 + 1, none⟩ (.int .i64 hj2) = W10 from hW10]; exact kp10.out.cell 1
          replace hW10 := hide hW10
          clear hC hI8 hB8 ka8 kb8 kp8 kS8 kY8 kc8 hI9 hB9 ka9 kb9 kp9 hgb hgs hgt v1 v2 v3 hI10 hsw hS hMw hHw hcs hfl hfa hone hxs hlo3 hhj3 hlo2 hhj2 hw1 hw2 hw3 hw4 hsp hcc
          go_wp2_with fail
          rw [show (w9.setCell ⟨g, i * 3 + 1, none⟩ (.int .i64 lo2)).setCell ⟨g, i * 3 + 1 + 1, none⟩ (.int .i64 hj2) = W10 from hW10.out]
          clear e1' e2' f1 f2 q0 q1 hW10
          refine hM10.out.mono ?_
          rintro e w11 ⟨rfl, hb⟩
          replace kp10 := hide ((kp10.out.below hb kp10.out.lt).alloc (.cells #[.int .i64 c0, .int .i64 c1] 32))
          replace ka10 := hide ((ka10.out.below hb ka10.out.lt).alloc (.cells #[.int .i64 c0, .int .i64 c1] 32))
          replace kb10 := hide ((kb10.out.below hb kb10.out.lt).alloc (.cells #[.int .i64 c0, .int .i64 c1] 32))
          have kc10 := hide (show Blk (w11.alloc (.cells #[.int .i64 c0, .int .i64 c1] 32)) w11.heap.size 32 #[.int .i64 c0, .int .i64 c1] from blkNew rfl)
          have hb2 := hide (hb.alloc hb.size (.cells #[.int .i64 c0, .int .i64 c1] 32))
          clear hb hM10
          have q0 : (w11.alloc (.cells #[.int .i64 c0, .int .i64 c1] 32)).cell? ⟨pp, 0, none⟩ = some (.slice A k1 c) := kp10.out.cell 0
          have q1 : (w11.alloc (.cells #[.int .i64 c0, .int .i64 c1] 32)).cell? ⟨pp, 1, none⟩ = some (.slice (some ⟨g, 0, none⟩) k2 cc) := kp10.out.cell 1
          go_wp2_with fail
          refine (hH10.out _ hb2.out).mono ?_
          rintro e w12 ⟨rfl, hb⟩
          clear q0 q1 hH10
          replace ka10 := hide ((ka10.out.below hb ka10.out.lt).alloc (.cells #[.int .i64 e0, .int .i64 e1] 32))
          replace kb10 := hide ((kb10.out.below hb kb10.out.lt).alloc (.cells #[.int .i64 e0, .int .i64 e1] 32))
          replace kc10 := hide ((kc10.out.below hb kc10.out.lt).alloc (.cells #[.int .i64 e0, .int .i64 e1] 32))
          have kd10 := hide (show Blk (w12.alloc (.cells #[.int .i64 e0, .int .i64 e1] 32)) w12.heap.size 32 #[.int .i64 e0, .int .i64 e1] from blkNew rfl)
          have hb3 := hb2.out.trans (hb.mono hb2.out.size)
          have hb4 := hb3.alloc hb3.size (.cells #[.int .i64 e0, .int .i64 e1] 32)
          replace hB10 := hide (hB10.out.trans (hb4.mono hB10.out.size))
          clear hb hb2 hb3 hb4 kp10
          have qa0 : (w12.alloc (.cells #[.int .i64 e0, .int .i64 e1] 32)).cell? ⟨w3.heap.size, 0, none⟩ = some (.int .i64 a0) := ka10.out.cell 0
          have qa1 : (w12.alloc (.cells #[.int .i64 e0, .int .i64 e1] 32)).cell? ⟨w3.heap.size, 1, none⟩ = some (.int .i64 a1) := ka10.out.cell 1
          have qb0 : (w12.alloc (.cells #[.int .i64 e0, .int .i64 e1] 32)).cell? ⟨w4.heap.size, 0, none⟩ = some (.int .i64 b0) := kb10.out.cell 0
          have qb1 : (w12.alloc (.cells #[.int .i64 e0, .int .i64 e1] 32)).cell? ⟨w4.heap.size, 1, none⟩ = some (.int .i64 b1) := kb10.out.cell 1
          have qc0 : (w12.alloc (.cells #[.int .i64 e0, .int .i64 e1] 32)).cell? ⟨w11.heap.size, 0, none⟩ = some (.int .i64 c0) := kc10.out.cell 0
          have qc1 : (w12.alloc (.cells #[.int .i64 e0, .int .i64 e1] 32)).cell? ⟨w11.heap.size, 1, none⟩ = some (.int .i64 c1) := kc10.out.cell 1
          have qd0 : (w12.alloc (.cells #[.int .i64 e0, .int .i64 e1] 32)).cell? ⟨w12.heap.size, 0, none⟩ = some (.int .i64 e0) := kd10.out.cell 0
          have qd1 : (w12.alloc (.cells #[.int .i64 e0, .int .i64 e1] 32)).cell? ⟨w12.heap.size, 1, none⟩ = some (.int .i64 e1) := kd10.out.cell 1
          have g1 : decide (c0 ≤ a0) = true := decide_eq_true hc0.out
          have g2 : decide (a1 ≤ c1) = true := decide_eq_true hc1.out
          clear hge
          go_wp2_with fail
          refine (AwakeS _).mono ?_
          rintro e w13 ⟨rfl, hb⟩
          replace hB10 := hide (hB10.out.trans (hb.mono hB10.out.size))
          clear hb qa0 qa1 qb0 qb1 qc0 qc1 qd0 qd1
          go_wp2
          go_ret
          exact ⟨rfl, hB10.out⟩
  · rw [show ((checkS S).2.2 == 0) = false by rw [beq_eq_false_iff_ne]; exact hck]
    replace hck := hide hck
    clear hM hH
    go_wp2_with fail
    refine (AwakeS _).mono ?_
    rintro e w5 ⟨rfl, hb⟩
    replace hB := hide (hB.out.trans (hb.mono hB.out.size))
    clear hb s0 s1
    go_wp2
    go_ret
    exact ⟨rfl, hB.out⟩
end Go.Proofs.Ytkhijdbigpaagaa
