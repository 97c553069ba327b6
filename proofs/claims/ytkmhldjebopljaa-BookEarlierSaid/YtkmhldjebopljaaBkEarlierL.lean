/-
  The law BookEarlier: who cancels earlier pays no more.
-/
import Derived.Test.YtkmhldjebopljaaPb
import Derived.Test.YtkmhldjebopljaaOy
namespace Go.Proofs.Ytkmhldjebopljaa
open Go.RowKit RG

theorem terms_up {S : BSch} (h : (checkB S).2.2 = 0) : TermsUp S.terms := by
  have hz := firstErr_zero (check_parts h).2.2.2
  have step : ∀ j, j + 1 < S.terms.length → (S.terms[j]?.getD default).fee ≤ (S.terms[j + 1]?.getD default).fee := by
    intro j hj
    have h1 : termE S.terms (j + 1) (S.terms[j + 1]?.getD default) = 0 := hz (j + 1) (Nat.zero_le _) (by omega)
    unfold termE at h1
    rw [Nat.add_sub_cancel] at h1
    split at h1
    · split at h1
      · cases h1
      · rename_i h2; omega
    · cases h1
  have mono : ∀ d i, i + d < S.terms.length → (S.terms[i]?.getD default).fee ≤ (S.terms[i + d]?.getD default).fee := by
    intro d
    induction d with
    | zero => intro i _; exact Int.le_refl _
    | succ d ih => intro i hi; exact Int.le_trans (ih i (by omega)) (step (i + d) (by omega))
  unfold TermsUp
  rw [List.pairwise_iff_getElem]
  intro i j hi hj hij
  have h1 := mono (j - i) i (by omega)
  rw [show i + (j - i) = j by omega, List.getElem?_eq_getElem hi, List.getElem?_eq_getElem hj] at h1
  exact h1
set_option maxRecDepth 100000 in
set_option maxHeartbeats 2000000 in
theorem valid_any (v : Value) (S : BSch) (w : World) (h : RdBSch w v S) :
    Calls Try.prog 33 #[v] w fun e w' => e = .returned (.bool (decide ((checkB S).2.2 = 0))) ∧ Below w.heap.size w w' := by
  have hC := hide (fun W (hb : Below w.heap.size w W) => CheckR_any v S W (h.below hb))
  generalize checkB S = q at *
  obtain ⟨qa, qb, qc⟩ := q
  simp only at hC ⊢
  have hqb : (qc == 0) = decide (qc = 0) := rfl
  obtain ⟨L, C, T, cl, cc, ct, rfl, -⟩ := h
  unfold schCells at *
  generalize S.learners.length = nl at *
  generalize S.cars.length = nc at *
  generalize S.terms.length = nt at *
  generalize S.price = pr at *
  generalize S.excess = ex at *
  generalize S.lo = lo at *
  generalize S.hi = hi at *
  obtain ⟨W, hW⟩ : ∃ y, w.alloc (.cells #[.slice L nl cl, .slice C nc cc, .int .i64 pr, .int .i64 ex, .int .i64 lo, .int .i64 hi, .slice T nt ct] 28) = y := ⟨_, rfl⟩
  have kb := hide (show Blk W w.heap.size 28 #[.slice L nl cl, .slice C nc cc, .int .i64 pr, .int .i64 ex, .int .i64 lo, .int .i64 hi, .slice T nt ct] by rw [← hW]; exact blkNew rfl)
  have hB := hide (show Below w.heap.size w W by rw [← hW]; exact (Below.refl _ _).alloc (Nat.le_refl _) _)
  replace hW := hide hW
  have c0 : W.cell? ⟨w.heap.size, 0, none⟩ = some (.slice L nl cl) := kb.out.cell 0
  have c1 : W.cell? ⟨w.heap.size, 1, none⟩ = some (.slice C nc cc) := kb.out.cell 1
  have c2 : W.cell? ⟨w.heap.size, 2, none⟩ = some (.int .i64 pr) := kb.out.cell 2
  have c3 : W.cell? ⟨w.heap.size, 3, none⟩ = some (.int .i64 ex) := kb.out.cell 3
  have c4 : W.cell? ⟨w.heap.size, 4, none⟩ = some (.int .i64 lo) := kb.out.cell 4
  have c5 : W.cell? ⟨w.heap.size, 5, none⟩ = some (.int .i64 hi) := kb.out.cell 5
  have c6 : W.cell? ⟨w.heap.size, 6, none⟩ = some (.slice T nt ct) := kb.out.cell 6
  generalize hq : decide (qc = 0) = t at *
  clear hq
  go_enter Try.func33, Try.ntmps33
  go_upto_region 1 with fail
  rw [hW.out]
  go_wp2_with fail
  refine (hC.out W hB.out).mono ?_
  rintro e w1 ⟨rfl, hb⟩
  replace kb := hide (kb.out.below hb kb.out.lt)
  replace hB := hide (hB.out.trans (hb.mono hB.out.size))
  clear hb hC c0 c1 c2 c3 c4 c5 c6
  go_wp2
  go_ret
  exact ⟨rfl, hB.out⟩
set_option maxRecDepth 100000 in
set_option maxHeartbeats 2000000 in
theorem BookEarlier_any (v : Value) (S : BSch) (x0 x1 x2 : Int) (w : World) (h : RdBSch w v S) (r0 : 0 ≤ x0 ∧ x0 ≤ 65535) (r1 : 0 ≤ x1 ∧ x1 ≤ 65535) (r2 : 0 ≤ x2 ∧ x2 ≤ 65535) :
    Calls Try.prog 12 #[v, .agg #[.int .u16 x0, .int .u16 x1, .int .u16 x2]] w fun e w' => e = .returned (.bool true) ∧ Below w.heap.size w w' := by
  obtain ⟨a, ha⟩ : ∃ a, x0.tmod 4 = a := ⟨_, rfl⟩
  obtain ⟨bf, hbf⟩ : ∃ b, x1.tmod 4801 = b := ⟨_, rfl⟩
  have ha2 : 0 ≤ a ∧ a ≤ 3 := by rw [← ha]; exact ⟨Int.tmod_nonneg _ r0.1, by have := Int.tmod_lt_of_pos x0 (show (0 : Int) < 4 by decide); omega⟩
  have hb2 : 0 ≤ bf ∧ bf ≤ 4800 := by rw [← hbf]; exact ⟨Int.tmod_nonneg _ r1.1, by have := Int.tmod_lt_of_pos x1 (show (0 : Int) < 4801 by decide); omega⟩
  have u0 : IntKind.i64.wrap x0 = x0 := by rw [IntKind.wrap_i64]; omega
  have u1 : IntKind.i64.wrap x1 = x1 := by rw [IntKind.wrap_i64]; omega
  have u2 : IntKind.i64.wrap x2 = x2 := by rw [IntKind.wrap_i64]; omega
  have u3 : IntKind.i64.wrap a = a := by rw [IntKind.wrap_i64]; omega
  have u4 : IntKind.i64.wrap bf = bf := by rw [IntKind.wrap_i64]; omega
  have u5 : IntKind.i64.wrap (1 + a) = 1 + a := by rw [IntKind.wrap_i64]; omega
  have u6 : IntKind.i64.wrap (bf + x2) = bf + x2 := by rw [IntKind.wrap_i64]; omega
  obtain ⟨mo, hmo⟩ : ∃ m, min 4800 (bf + x2) = m := ⟨_, rfl⟩
  have hm2 : bf ≤ mo ∧ mo ≤ 4800 := by omega
  have hF := hide (fun W (hb : Below w.heap.size w W) => Fee_any v S (1 + a) bf W (h.below hb))
  have hG := hide (fun W (hb : Below w.heap.size w W) => Fee_any v S (1 + a) mo W (h.below hb))
  have hV := hide (fun W (hb : Below w.heap.size w W) => valid_any v S W (h.below hb))
  have hno := hide (fun (hc : (checkB S).2.2 ≠ 0) (m : Int) => show feeF S (1 + a) m = (0, (checkB S).2.2) by unfold feeF; rw [if_pos hc])
  have hyes := hide (fun (hc : (checkB S).2.2 = 0) (m : Int) (h1 : 0 ≤ m ∧ m ≤ 4800) => show feeF S (1 + a) m = (feeB S (1 + a) m, 0) by unfold feeF; rw [if_neg (by simp [hc]), if_pos ⟨inI_iff.2 (by omega), inI_iff.2 h1⟩])
  have hfact := hide (fun (hc : (checkB S).2.2 = 0) => show feeB S (1 + a) mo ≤ feeB S (1 + a) bf ∧ feeB S (1 + a) bf ≤ (1 + a) * S.price ∧ 0 ≤ feeB S (1 + a) mo ∧ 1 ≤ S.price ∧ S.price ≤ 10000 from
    ⟨fee_mono (sch_ok hc) (terms_up hc) (by omega) hm2.1, (feeB_in (sch_ok hc) (by omega)).2, (feeB_in (sch_ok hc) (by omega)).1, (sch_ok hc).price⟩)
  obtain ⟨qc, hqc⟩ : ∃ q, (checkB S).2.2 = q := ⟨_, rfl⟩
  rw [hqc] at hno hyes hfact hV
  clear hqc
  obtain ⟨L, C, T, cl, cc, ct, rfl, -⟩ := h
  obtain ⟨W, hW⟩ : ∃ y, (w.alloc (.cells (schCells L C T cl cc ct S) 28)).alloc (.cells #[.int .u16 x0, .int .u16 x1, .int .u16 x2] 73) = y := ⟨_, rfl⟩
  have kb := hide (show Blk W w.heap.size 28 (schCells L C T cl cc ct S) by rw [← hW]; exact (blkNew rfl).alloc _)
  have kx := hide (show Blk W (w.heap.size + 1) 73 #[.int .u16 x0, .int .u16 x1, .int .u16 x2] by rw [← hW]; exact blkNew (by simp))
  have hB := hide (show Below w.heap.size w W by rw [← hW]; exact ((Below.refl _ _).alloc (Nat.le_refl _) _).alloc (by simp) _)
  replace hW := hide hW
  have z0 : W.cell? ⟨w.heap.size + 1, 0, none⟩ = some (.int .u16 x0) := kx.out.cell 0
  have z1 : W.cell? ⟨w.heap.size + 1, 1, none⟩ = some (.int .u16 x1) := kx.out.cell 1
  have z2 : W.cell? ⟨w.heap.size + 1, 2, none⟩ = some (.int .u16 x2) := kx.out.cell 2
  unfold schCells at *
  generalize S.learners.length = nl at *
  generalize S.cars.length = nc at *
  generalize S.terms.length = nt at *
  generalize S.price = pr at *
  generalize S.excess = ex at *
  generalize S.lo = lo at *
  generalize S.hi = hi at *
  go_enter Try.func12, Try.ntmps12
  go_upto_region 1 with fail
  rw [hW.out]
  go_quiet (fail)
  go_upto_region 3 with fail
  have hbn := below_drewN (Below.refl W.heap.size W) nq
  replace kb := hide (kb.out.below hbn kb.out.lt)
  replace hB := hide (hB.out.trans (hbn.mono hB.out.size))
  clear hbn z0 z1 z2 kx hmo
  generalize W.drewN nq = W1 at *
  by_cases hc : qc = 0
  · subst hc
    rw [hyes.out rfl bf hb2] at hF
    rw [hyes.out rfl mo ⟨by omega, by omega⟩] at hG
    obtain ⟨f1, f2, f3, f4, f5⟩ := hfact.out rfl
    obtain ⟨fb, hfb⟩ : ∃ x, feeB S (1 + a) bf = x := ⟨_, rfl⟩
    obtain ⟨fm2, hfm⟩ : ∃ x, feeB S (1 + a) mo = x := ⟨_, rfl⟩
    rw [hfb] at hF f1 f2
    rw [hfm] at hG f1 f3
    clear hfb hfm
    obtain ⟨pp, hpp⟩ : ∃ x, (1 + a) * pr = x := ⟨_, rfl⟩
    have hpb : pp ≤ 4 * 10000 := by
      rw [← hpp]
      exact Int.le_trans (Int.mul_le_mul_of_nonneg_right (show 1 + a ≤ 4 by omega) (by omega)) (Int.mul_le_mul_of_nonneg_left f5 (by omega))
    have hp0 : 0 ≤ pp := by rw [← hpp]; exact Int.mul_nonneg (by omega) (by omega)
    rw [hpp] at f2
    have hwp : IntKind.i64.wrap ((1 + a) * pr) = pp := by rw [hpp, IntKind.wrap_i64]; omega
    have e1 : decide (fm2 ≤ fb) = true := decide_eq_true f1
    have e2 : decide (fb ≤ pp) = true := decide_eq_true f2
    have e3 : decide ((0 : Int) ≤ fm2) = true := decide_eq_true f3
    have hvt := hide (fun W (hb : Below w.heap.size w W) => show Calls Try.prog 33 #[.agg #[.slice L nl cl, .slice C nc cc, .int .i64 pr, .int .i64 ex, .int .i64 lo, .int .i64 hi, .slice T nt ct]] W fun e w' => e = .returned (.bool true) ∧ Below W.heap.size W w' from by
      have := hV.out W hb
      rwa [show decide ((0 : Int) = 0) = true from rfl] at this)
    clear hV hno hyes hfact hpp hpb hp0
    have c0 : W1.cell? ⟨w.heap.size, 0, none⟩ = some (.slice L nl cl) := kb.out.cell 0
    have c1 : W1.cell? ⟨w.heap.size, 1, none⟩ = some (.slice C nc cc) := kb.out.cell 1
    have c2 : W1.cell? ⟨w.heap.size, 2, none⟩ = some (.int .i64 pr) := kb.out.cell 2
    have c3 : W1.cell? ⟨w.heap.size, 3, none⟩ = some (.int .i64 ex) := kb.out.cell 3
    have c4 : W1.cell? ⟨w.heap.size, 4, none⟩ = some (.int .i64 lo) := kb.out.cell 4
    have c5 : W1.cell? ⟨w.heap.size, 5, none⟩ = some (.int .i64 hi) := kb.out.cell 5
    have c6 : W1.cell? ⟨w.heap.size, 6, none⟩ = some (.slice T nt ct) := kb.out.cell 6
    go_wp2_with fail
    refine (hF.out W1 hB.out).mono ?_
    rintro e w2 ⟨rfl, hb⟩
    replace kb := hide (kb.out.below hb kb.out.lt)
    replace hB := hide (hB.out.trans (hb.mono hB.out.size))
    clear hb hF c0 c1 c2 c3 c4 c5 c6
    have c0 : w2.cell? ⟨w.heap.size, 0, none⟩ = some (.slice L nl cl) := kb.out.cell 0
    have c1 : w2.cell? ⟨w.heap.size, 1, none⟩ = some (.slice C nc cc) := kb.out.cell 1
    have c2 : w2.cell? ⟨w.heap.size, 2, none⟩ = some (.int .i64 pr) := kb.out.cell 2
    have c3 : w2.cell? ⟨w.heap.size, 3, none⟩ = some (.int .i64 ex) := kb.out.cell 3
    have c4 : w2.cell? ⟨w.heap.size, 4, none⟩ = some (.int .i64 lo) := kb.out.cell 4
    have c5 : w2.cell? ⟨w.heap.size, 5, none⟩ = some (.int .i64 hi) := kb.out.cell 5
    have c6 : w2.cell? ⟨w.heap.size, 6, none⟩ = some (.slice T nt ct) := kb.out.cell 6
    go_wp2_with fail
    refine (hG.out w2 hB.out).mono ?_
    rintro e w3 ⟨rfl, hb⟩
    replace kb := hide (kb.out.below hb kb.out.lt)
    replace hB := hide (hB.out.trans (hb.mono hB.out.size))
    clear hb hG c0 c1 c2 c3 c4 c5 c6
    have c0 : w3.cell? ⟨w.heap.size, 0, none⟩ = some (.slice L nl cl) := kb.out.cell 0
    have c1 : w3.cell? ⟨w.heap.size, 1, none⟩ = some (.slice C nc cc) := kb.out.cell 1
    have c2 : w3.cell? ⟨w.heap.size, 2, none⟩ = some (.int .i64 pr) := kb.out.cell 2
    have c3 : w3.cell? ⟨w.heap.size, 3, none⟩ = some (.int .i64 ex) := kb.out.cell 3
    have c4 : w3.cell? ⟨w.heap.size, 4, none⟩ = some (.int .i64 lo) := kb.out.cell 4
    have c5 : w3.cell? ⟨w.heap.size, 5, none⟩ = some (.int .i64 hi) := kb.out.cell 5
    have c6 : w3.cell? ⟨w.heap.size, 6, none⟩ = some (.slice T nt ct) := kb.out.cell 6
    go_wp2_with fail
    refine (hvt.out w3 hB.out).mono ?_
    rintro e w4 ⟨rfl, hb⟩
    replace kb := hide (kb.out.below hb kb.out.lt)
    replace hB := hide (hB.out.trans (hb.mono hB.out.size))
    clear hb hvt c0 c1 c2 c3 c4 c5 c6
    have c2 : w4.cell? ⟨w.heap.size, 2, none⟩ = some (.int .i64 pr) := kb.out.cell 2
    go_wp2_with fail
    refine (AwakeB _).mono ?_
    rintro e w5 ⟨rfl, hb⟩
    replace hB := hide (hB.out.trans (hb.mono hB.out.size))
    clear hb c2
    go_wp2
    go_ret
    exact ⟨rfl, hB.out⟩
  · rw [hno.out hc bf] at hF
    rw [hno.out hc mo] at hG
    have b0 : (qc != 0) = true := by rw [bne_iff_ne]; exact hc
    have b1 : (qc == qc) = true := by simp
    replace hc := hide hc
    clear hV hno hyes hfact
    have c0 : W1.cell? ⟨w.heap.size, 0, none⟩ = some (.slice L nl cl) := kb.out.cell 0
    have c1 : W1.cell? ⟨w.heap.size, 1, none⟩ = some (.slice C nc cc) := kb.out.cell 1
    have c2 : W1.cell? ⟨w.heap.size, 2, none⟩ = some (.int .i64 pr) := kb.out.cell 2
    have c3 : W1.cell? ⟨w.heap.size, 3, none⟩ = some (.int .i64 ex) := kb.out.cell 3
    have c4 : W1.cell? ⟨w.heap.size, 4, none⟩ = some (.int .i64 lo) := kb.out.cell 4
    have c5 : W1.cell? ⟨w.heap.size, 5, none⟩ = some (.int .i64 hi) := kb.out.cell 5
    have c6 : W1.cell? ⟨w.heap.size, 6, none⟩ = some (.slice T nt ct) := kb.out.cell 6
    go_wp2_with fail
    refine (hF.out W1 hB.out).mono ?_
    rintro e w2 ⟨rfl, hb⟩
    replace kb := hide (kb.out.below hb kb.out.lt)
    replace hB := hide (hB.out.trans (hb.mono hB.out.size))
    clear hb hF c0 c1 c2 c3 c4 c5 c6
    have c0 : w2.cell? ⟨w.heap.size, 0, none⟩ = some (.slice L nl cl) := kb.out.cell 0
    have c1 : w2.cell? ⟨w.heap.size, 1, none⟩ = some (.slice C nc cc) := kb.out.cell 1
    have c2 : w2.cell? ⟨w.heap.size, 2, none⟩ = some (.int .i64 pr) := kb.out.cell 2
    have c3 : w2.cell? ⟨w.heap.size, 3, none⟩ = some (.int .i64 ex) := kb.out.cell 3
    have c4 : w2.cell? ⟨w.heap.size, 4, none⟩ = some (.int .i64 lo) := kb.out.cell 4
    have c5 : w2.cell? ⟨w.heap.size, 5, none⟩ = some (.int .i64 hi) := kb.out.cell 5
    have c6 : w2.cell? ⟨w.heap.size, 6, none⟩ = some (.slice T nt ct) := kb.out.cell 6
    go_wp2_with fail
    refine (hG.out w2 hB.out).mono ?_
    rintro e w3 ⟨rfl, hb⟩
    replace kb := hide (kb.out.below hb kb.out.lt)
    replace hB := hide (hB.out.trans (hb.mono hB.out.size))
    clear hb hG c0 c1 c2 c3 c4 c5 c6
    go_wp2_with fail
    refine (AwakeB _).mono ?_
    rintro e w5 ⟨rfl, hb⟩
    replace hB := hide (hB.out.trans (hb.mono hB.out.size))
    clear hb
    go_wp2
    go_ret
    exact ⟨rfl, hB.out⟩
end Go.Proofs.Ytkmhldjebopljaa
