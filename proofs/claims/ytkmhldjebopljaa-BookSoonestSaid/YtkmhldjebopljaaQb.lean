import Derived.Test.YtkmhldjebopljaaPb
import Derived.Test.YtkmhldjebopljaaOy
import Derived.Test.YtkmhldjebopljaaOx
import Derived.Test.YtkmhldjebopljaaOv
import Derived.Test.YtkmhldjebopljaaQa
import Derived.Laws.OwnMore
/-
  The law BookEarlier: who cancels earlier pays no more.
-/
namespace Go.Proofs.Ytkmhldjebopljaa
open Go.RowKit RG

theorem terms_up {S : BSch} (h : (checkB S).2.2 = 0) : TermsUp S.terms := by
  have hz := firstErr_zero (check_parts h).2.2.2
  have step : ∀ j, j + 1 < S.terms.length → (S.terms[j]?.getD default).fee ≤ (S.terms[j + 1]?.getD default).fee := by
    intro j hj
    have h1 : termE S.terms (j + 1) (S.terms[j + 1]?.getD default) = 0 := hz (j + 1) (Nat.zero_le _) (by omega)
    unfold termE at h1
    rw [Nat.add_sub_cancel] at h1
    split at h1
    · split at h1
      · cases h1
      · rename_i h2; omega
    · cases h1
  have mono : ∀ d i, i + d < S.terms.length → (S.terms[i]?.getD default).fee ≤ (S.terms[i + d]?.getD default).fee := by
    intro d
    induction d with
    | zero => intro i _; exact Int.le_refl _
    | succ d ih => intro i hi; exact Int.le_trans (ih i (by omega)) (step (i + d) (by omega))
  unfold TermsUp
  rw [List.pairwise_iff_getElem]
  intro i j hi hj hij
  have h1 := mono (j - i) i (by omega)
  rw [show i + (j - i) = j by omega, List.getElem?_eq_getElem hi, List.getElem?_eq_getElem hj] at h1
  exact h1
set_option maxRecDepth 100000 in
set_option maxHeartbeats 2000000 in
theorem valid_any (v : Value) (S : BSch) (w : World) (h : RdBSch w v S) :
    Calls Try.prog 33 #[v] w fun e w' => e = .returned (.bool (decide ((checkB S).2.2 = 0))) ∧ Below w.heap.size w w' := by
  have hC := hide (fun W (hb : Below w.heap.size w W) => CheckR_any v S W (h.below hb))
  generalize checkB S = q at *
  obtain ⟨qa, qb, qc⟩ := q
  simp only at hC ⊢
  have hqb : (qc == 0) = decide (qc = 0) := rfl
  obtain ⟨L, C, T, cl, cc, ct, rfl, -⟩ := h
  unfold schCells at *
  generalize S.learners.length = nl at *
  generalize S.cars.length = nc at *
  generalize S.terms.length = nt at *
  generalize S.price = pr at *
  generalize S.excess = ex at *
  generalize S.lo = lo at *
  generalize S.hi = hi at *
  obtain ⟨W, hW⟩ : ∃ y, w.alloc (.cells #[.slice L nl cl, .slice C nc cc, .int .i64 pr, .int .i64 ex, .int .i64 lo, .int .i64 hi, .slice T nt ct] 28) = y := ⟨_, rfl⟩
  have kb := hide (show Blk W w.heap.size 28 #[.slice L nl cl, .slice C nc cc, .int .i64 pr, .int .i64 ex, .int .i64 lo, .int .i64 hi, .slice T nt ct] by rw [← hW]; exact blkNew rfl)
  have hB := hide (show Below w.heap.size w W by rw [← hW]; exact (Below.refl _ _).alloc (Nat.le_refl _) _)
  replace hW := hide hW
  have c0 : W.cell? ⟨w.heap.size, 0, none⟩ = some (.slice L nl cl) := kb.out.cell 0
  have c1 : W.cell? ⟨w.heap.size, 1, none⟩ = some (.slice C nc cc) := kb.out.cell 1
  have c2 : W.cell? ⟨w.heap.size, 2, none⟩ = some (.int .i64 pr) := kb.out.cell 2
  have c3 : W.cell? ⟨w.heap.size, 3, none⟩ = some (.int .i64 ex) := kb.out.cell 3
  have c4 : W.cell? ⟨w.heap.size, 4, none⟩ = some (.int .i64 lo) := kb.out.cell 4
  have c5 : W.cell? ⟨w.heap.size, 5, none⟩ = some (.int .i64 hi) := kb.out.cell 5
  have c6 : W.cell? ⟨w.heap.size, 6, none⟩ = some (.slice T nt ct) := kb.out.cell 6
  generalize hq : decide (qc = 0) = t at *
  clear hq
  go_enter Try.func33, Try.ntmps33
  go_upto_region 1 with fail
  rw [hW.out]
  go_wp2_with fail
  refine (hC.out W hB.out).mono ?_
  rintro e w1 ⟨rfl, hb⟩
  replace kb := hide (kb.out.below hb kb.out.lt)
  replace hB := hide (hB.out.trans (hb.mono hB.out.size))
  clear hb hC c0 c1 c2 c3 c4 c5 c6
  go_wp2
  go_ret
  exact ⟨rfl, hB.out⟩
set_option maxRecDepth 100000 in
set_option maxHeartbeats 2000000 in
theorem BookEarlier_any (v : Value) (S : BSch) (x0 x1 x2 : Int) (w : World) (h : RdBSch w v S) (r0 : 0 ≤ x0 ∧ x0 ≤ 65535) (r1 : 0 ≤ x1 ∧ x1 ≤ 65535) (r2 : 0 ≤ x2 ∧ x2 ≤ 65535) :
    Calls Try.prog 12 #[v, .agg #[.int .u16 x0, .int .u16 x1, .int .u16 x2]] w fun e w' => e = .returned (.bool true) ∧ Below w.heap.size w w' := by
  obtain ⟨a, ha⟩ : ∃ a, x0.tmod 4 = a := ⟨_, rfl⟩
  obtain ⟨bf, hbf⟩ : ∃ b, x1.tmod 4801 = b := ⟨_, rfl⟩
  have ha2 : 0 ≤ a ∧ a ≤ 3 := by rw [← ha]; exact ⟨Int.tmod_nonneg _ r0.1, by have := Int.tmod_lt_of_pos x0 (show (0 : Int) < 4 by decide); omega⟩
  have hb2 : 0 ≤ bf ∧ bf ≤ 4800 := by rw [← hbf]; exact ⟨Int.tmod_nonneg _ r1.1, by have := Int.tmod_lt_of_pos x1 (show (0 : Int) < 4801 by decide); omega⟩
  have u0 : IntKind.i64.wrap x0 = x0 := by rw [IntKind.wrap_i64]; omega
  have u1 : IntKind.i64.wrap x1 = x1 := by rw [IntKind.wrap_i64]; omega
  have u2 : IntKind.i64.wrap x2 = x2 := by rw [IntKind.wrap_i64]; omega
  have u3 : IntKind.i64.wrap a = a := by rw [IntKind.wrap_i64]; omega
  have u4 : IntKind.i64.wrap bf = bf := by rw [IntKind.wrap_i64]; omega
  have u5 : IntKind.i64.wrap (1 + a) = 1 + a := by rw [IntKind.wrap_i64]; omega
  have u6 : IntKind.i64.wrap (bf + x2) = bf + x2 := by rw [IntKind.wrap_i64]; omega
  obtain ⟨mo, hmo⟩ : ∃ m, min 4800 (bf + x2) = m := ⟨_, rfl⟩
  have hm2 : bf ≤ mo ∧ mo ≤ 4800 := by omega
  have hF := hide (fun W (hb : Below w.heap.size w W) => Fee_any v S (1 + a) bf W (h.below hb))
  have hG := hide (fun W (hb : Below w.heap.size w W) => Fee_any v S (1 + a) mo W (h.below hb))
  have hV := hide (fun W (hb : Below w.heap.size w W) => valid_any v S W (h.below hb))
  have hno := hide (fun (hc : (checkB S).2.2 ≠ 0) (m : Int) => show feeF S (1 + a) m = (0, (checkB S).2.2) by unfold feeF; rw [if_pos hc])
  have hyes := hide (fun (hc : (checkB S).2.2 = 0) (m : Int) (h1 : 0 ≤ m ∧ m ≤ 4800) => show feeF S (1 + a) m = (feeB S (1 + a) m, 0) by unfold feeF; rw [if_neg (by simp [hc]), if_pos ⟨inI_iff.2 (by omega), inI_iff.2 h1⟩])
  have hfact := hide (fun (hc : (checkB S).2.2 = 0) => show feeB S (1 + a) mo ≤ feeB S (1 + a) bf ∧ feeB S (1 + a) bf ≤ (1 + a) * S.price ∧ 0 ≤ feeB S (1 + a) mo ∧ 1 ≤ S.price ∧ S.price ≤ 10000 from
    ⟨fee_mono (sch_ok hc) (terms_up hc) (by omega) hm2.1, (feeB_in (sch_ok hc) (by omega)).2, (feeB_in (sch_ok hc) (by omega)).1, (sch_ok hc).price⟩)
  obtain ⟨qc, hqc⟩ : ∃ q, (checkB S).2.2 = q := ⟨_, rfl⟩
  rw [hqc] at hno hyes hfact hV
  clear hqc
  obtain ⟨L, C, T, cl, cc, ct, rfl, -⟩ := h
  obtain ⟨W, hW⟩ : ∃ y, (w.alloc (.cells (schCells L C T cl cc ct S) 28)).alloc (.cells #[.int .u16 x0, .int .u16 x1, .int .u16 x2] 73) = y := ⟨_, rfl⟩
  have kb := hide (show Blk W w.heap.size 28 (schCells L C T cl cc ct S) by rw [← hW]; exact (blkNew rfl).alloc _)
  have kx := hide (show Blk W (w.heap.size + 1) 73 #[.int .u16 x0, .int .u16 x1, .int .u16 x2] by rw [← hW]; exact blkNew (by simp))
  have hB := hide (show Below w.heap.size w W by rw [← hW]; exact ((Below.refl _ _).alloc (Nat.le_refl _) _).alloc (by simp) _)
  replace hW := hide hW
  have z0 : W.cell? ⟨w.heap.size + 1, 0, none⟩ = some (.int .u16 x0) := kx.out.cell 0
  have z1 : W.cell? ⟨w.heap.size + 1, 1, none⟩ = some (.int .u16 x1) := kx.out.cell 1
  have z2 : W.cell? ⟨w.heap.size + 1, 2, none⟩ = some (.int .u16 x2) := kx.out.cell 2
  unfold schCells at *
  generalize S.learners.length = nl at *
  generalize S.cars.length = nc at *
  generalize S.terms.length = nt at *
  generalize S.price = pr at *
  generalize S.excess = ex at *
  generalize S.lo = lo at *
  generalize S.hi = hi at *
  go_enter Try.func12, Try.ntmps12
  go_upto_region 1 with fail
  rw [hW.out]
  go_quiet (fail)
  go_upto_region 3 with fail
  have hbn := below_drewN (Below.refl W.heap.size W) nq
  replace kb := hide (kb.out.below hbn kb.out.lt)
  replace hB := hide (hB.out.trans (hbn.mono hB.out.size))
  clear hbn z0 z1 z2 kx hmo
  generalize W.drewN nq = W1 at *
  by_cases hc : qc = 0
  · subst hc
    rw [hyes.out rfl bf hb2] at hF
    rw [hyes.out rfl mo ⟨by omega, by omega⟩] at hG
    obtain ⟨f1, f2, f3, f4, f5⟩ := hfact.out rfl
    obtain ⟨fb, hfb⟩ : ∃ x, feeB S (1 + a) bf = x := ⟨_, rfl⟩
    obtain ⟨fm2, hfm⟩ : ∃ x, feeB S (1 + a) mo = x := ⟨_, rfl⟩
    rw [hfb] at hF f1 f2
    rw [hfm] at hG f1 f3
    clear hfb hfm
    obtain ⟨pp, hpp⟩ : ∃ x, (1 + a) * pr = x := ⟨_, rfl⟩
    have hpb : pp ≤ 4 * 10000 := by
      rw [← hpp]
      exact Int.le_trans (Int.mul_le_mul_of_nonneg_right (show 1 + a ≤ 4 by omega) (by omega)) (Int.mul_le_mul_of_nonneg_left f5 (by omega))
    have hp0 : 0 ≤ pp := by rw [← hpp]; exact Int.mul_nonneg (by omega) (by omega)
    rw [hpp] at f2
    have hwp : IntKind.i64.wrap ((1 + a) * pr) = pp := by rw [hpp, IntKind.wrap_i64]; omega
    have e1 : decide (fm2 ≤ fb) = true := decide_eq_true f1
    have e2 : decide (fb ≤ pp) = true := decide_eq_true f2
    have e3 : decide ((0 : Int) ≤ fm2) = true := decide_eq_true f3
    have hvt := hide (fun W (hb : Below w.heap.size w W) => show Calls Try.prog 33 #[.agg #[.slice L nl cl, .slice C nc cc, .int .i64 pr, .int .i64 ex, .int .i64 lo, .int .i64 hi, .slice T nt ct]] W fun e w' => e = .returned (.bool true) ∧ Below W.heap.size W w' from by
      have := hV.out W hb
      rwa [show decide ((0 : Int) = 0) = true from rfl] at this)
    clear hV hno hyes hfact hpp hpb hp0
    have c0 : W1.cell? ⟨w.heap.size, 0, none⟩ = some (.slice L nl cl) := kb.out.cell 0
    have c1 : W1.cell? ⟨w.heap.size, 1, none⟩ = some (.slice C nc cc) := kb.out.cell 1
    have c2 : W1.cell? ⟨w.heap.size, 2, none⟩ = some (.int .i64 pr) := kb.out.cell 2
    have c3 : W1.cell? ⟨w.heap.size, 3, none⟩ = some (.int .i64 ex) := kb.out.cell 3
    have c4 : W1.cell? ⟨w.heap.size, 4, none⟩ = some (.int .i64 lo) := kb.out.cell 4
    have c5 : W1.cell? ⟨w.heap.size, 5, none⟩ = some (.int .i64 hi) := kb.out.cell 5
    have c6 : W1.cell? ⟨w.heap.size, 6, none⟩ = some (.slice T nt ct) := kb.out.cell 6
    go_wp2_with fail
    refine (hF.out W1 hB.out).mono ?_
    rintro e w2 ⟨rfl, hb⟩
    replace kb := hide (kb.out.below hb kb.out.lt)
    replace hB := hide (hB.out.trans (hb.mono hB.out.size))
    clear hb hF c0 c1 c2 c3 c4 c5 c6
    have c0 : w2.cell? ⟨w.heap.size, 0, none⟩ = some (.slice L nl cl) := kb.out.cell 0
    have c1 : w2.cell? ⟨w.heap.size, 1, none⟩ = some (.slice C nc cc) := kb.out.cell 1
    have c2 : w2.cell? ⟨w.heap.size, 2, none⟩ = some (.int .i64 pr) := kb.out.cell 2
    have c3 : w2.cell? ⟨w.heap.size, 3, none⟩ = some (.int .i64 ex) := kb.out.cell 3
    have c4 : w2.cell? ⟨w.heap.size, 4, none⟩ = some (.int .i64 lo) := kb.out.cell 4
    have c5 : w2.cell? ⟨w.heap.size, 5, none⟩ = some (.int .i64 hi) := kb.out.cell 5
    have c6 : w2.cell? ⟨w.heap.size, 6, none⟩ = some (.slice T nt ct) := kb.out.cell 6
    go_wp2_with fail
    refine (hG.out w2 hB.out).mono ?_
    rintro e w3 ⟨rfl, hb⟩
    replace kb := hide (kb.out.below hb kb.out.lt)
    replace hB := hide (hB.out.trans (hb.mono hB.out.size))
    clear hb hG c0 c1 c2 c3 c4 c5 c6
    have c0 : w3.cell? ⟨w.heap.size, 0, none⟩ = some (.slice L nl cl) := kb.out.cell 0
    have c1 : w3.cell? ⟨w.heap.size, 1, none⟩ = some (.slice C nc cc) := kb.out.cell 1
    have c2 : w3.cell? ⟨w.heap.size, 2, none⟩ = some (.int .i64 pr) := kb.out.cell 2
    have c3 : w3.cell? ⟨w.heap.size, 3, none⟩ = some (.int .i64 ex) := kb.out.cell 3
    have c4 : w3.cell? ⟨w.heap.size, 4, none⟩ = some (.int .i64 lo) := kb.out.cell 4
    have c5 : w3.cell? ⟨w.heap.size, 5, none⟩ = some (.int .i64 hi) := kb.out.cell 5
    have c6 : w3.cell? ⟨w.heap.size, 6, none⟩ = some (.slice T nt ct) := kb.out.cell 6
    go_wp2_with fail
    refine (hvt.out w3 hB.out).mono ?_
    rintro e w4 ⟨rfl, hb⟩
    replace kb := hide (kb.out.below hb kb.out.lt)
    replace hB := hide (hB.out.trans (hb.mono hB.out.size))
    clear hb hvt c0 c1 c2 c3 c4 c5 c6
    have c2 : w4.cell? ⟨w.heap.size, 2, none⟩ = some (.int .i64 pr) := kb.out.cell 2
    go_wp2_with fail
    refine (AwakeB _).mono ?_
    rintro e w5 ⟨rfl, hb⟩
    replace hB := hide (hB.out.trans (hb.mono hB.out.size))
    clear hb c2
    go_wp2
    go_ret
    exact ⟨rfl, hB.out⟩
  · rw [hno.out hc bf] at hF
    rw [hno.out hc mo] at hG
    have b0 : (qc != 0) = true := by rw [bne_iff_ne]; exact hc
    have b1 : (qc == qc) = true := by simp
    replace hc := hide hc
    clear hV hno hyes hfact
    have c0 : W1.cell? ⟨w.heap.size, 0, none⟩ = some (.slice L nl cl) := kb.out.cell 0
    have c1 : W1.cell? ⟨w.heap.size, 1, none⟩ = some (.slice C nc cc) := kb.out.cell 1
    have c2 : W1.cell? ⟨w.heap.size, 2, none⟩ = some (.int .i64 pr) := kb.out.cell 2
    have c3 : W1.cell? ⟨w.heap.size, 3, none⟩ = some (.int .i64 ex) := kb.out.cell 3
    have c4 : W1.cell? ⟨w.heap.size, 4, none⟩ = some (.int .i64 lo) := kb.out.cell 4
    have c5 : W1.cell? ⟨w.heap.size, 5, none⟩ = some (.int .i64 hi) := kb.out.cell 5
    have c6 : W1.cell? ⟨w.heap.size, 6, none⟩ = some (.slice T nt ct) := kb.out.cell 6
    go_wp2_with fail
    refine (hF.out W1 hB.out).mono ?_
    rintro e w2 ⟨rfl, hb⟩
    replace kb := hide (kb.out.below hb kb.out.lt)
    replace hB := hide (hB.out.trans (hb.mono hB.out.size))
    clear hb hF c0 c1 c2 c3 c4 c5 c6
    have c0 : w2.cell? ⟨w.heap.size, 0, none⟩ = some (.slice L nl cl) := kb.out.cell 0
    have c1 : w2.cell? ⟨w.heap.size, 1, none⟩ = some (.slice C nc cc) := kb.out.cell 1
    have c2 : w2.cell? ⟨w.heap.size, 2, none⟩ = some (.int .i64 pr) := kb.out.cell 2
    have c3 : w2.cell? ⟨w.heap.size, 3, none⟩ = some (.int .i64 ex) := kb.out.cell 3
    have c4 : w2.cell? ⟨w.heap.size, 4, none⟩ = some (.int .i64 lo) := kb.out.cell 4
    have c5 : w2.cell? ⟨w.heap.size, 5, none⟩ = some (.int .i64 hi) := kb.out.cell 5
    have c6 : w2.cell? ⟨w.heap.size, 6, none⟩ = some (.slice T nt ct) := kb.out.cell 6
    go_wp2_with fail
    refine (hG.out w2 hB.out).mono ?_
    rintro e w3 ⟨rfl, hb⟩
    replace kb := hide (kb.out.below hb kb.out.lt)
    replace hB := hide (hB.out.trans (hb.mono hB.out.size))
    clear hb hG c0 c1 c2 c3 c4 c5 c6
    go_wp2_with fail
    refine (AwakeB _).mono ?_
    rintro e w5 ⟨rfl, hb⟩
    replace hB := hide (hB.out.trans (hb.mono hB.out.size))
    clear hb
    go_wp2
    go_ret
    exact ⟨rfl, hB.out⟩
end Go.Proofs.Ytkmhldjebopljaa

/-
  The laws' shaped, of what there is after events.
-/
namespace Go.Proofs.Ytkmhldjebopljaa
open Go.RowKit RG

theorem IsState.shape2 {b : Bks} {v : Value} {w : World} (h : IsState b v w) : ∃ A0 c0 A1 c1 A2 c2 A3 c3, v = .agg #[.slice A0 b.les.length c0, .slice A1 b.km.length c1, .slice A2 b.since.length c2, .slice A3 b.acc.length c3] ∧ RdRow w A0 b.les.length 5 (b.les.map lesCells) ∧ b.les.length ≤ maxLen := by
  obtain ⟨vl, vk, vs, va, rfl, ⟨A0, c0, rfl, h0, h1, h2⟩, ⟨A1, c1, rfl, -⟩, ⟨A2, c2, rfl, -⟩, ⟨A3, c3, rfl, -⟩⟩ := h
  rw [List.length_map] at *
  exact ⟨A0, c0, A1, c1, A2, c2, A3, c3, rfl, h0, by omega⟩
set_option maxRecDepth 100000 in
set_option maxHeartbeats 4000000 in
theorem shaped_t {v u : Value} {S : BSch} {b : Bks} {w : World} (h : RdBSch w v S) (hu : IsState b u w) (h1 : b.km.length = S.cars.length) (h2 : b.since.length = S.cars.length) (h3 : b.acc.length = S.learners.length + 4) (h4 : ∀ l ∈ b.les, LesOk S.learners.length S.cars.length l) (h5 : S.learners.length ≤ 1000) :
    Calls Try.prog 34 #[v, u] w fun e w' => e = .returned (.bool true) ∧ Below w.heap.size w w' := by
  obtain ⟨L, C, T, cl, cc, ct, rfl, hR⟩ := h
  have hm1 := hR.lm.1
  have hm2 := hR.cm.1
  clear hR
  obtain ⟨A0, c0, A1, c1, A2, c2, A3, c3, rfl, hrow, hlm⟩ := hu.shape2
  clear hu
  have hrB := hide (fun W (hb : Below w.heap.size w W) => hrow.below hb)
  have hat := hide (fun (j : Nat) (hj : j < b.les.length) => lesRow_at b.les j hj)
  have hok := hide (fun (j : Nat) (hj : j < b.les.length) => h4 (b.les[j]'hj) (List.getElem_mem hj))
  clear hrow h4
  rw [h1, h2, h3]
  clear h1 h2 h3
  unfold schCells
  unfold maxLen at hm1 hm2 hlm
  generalize S.learners.length = nl at *
  generalize S.cars.length = nc at *
  generalize S.terms.length = nt at *
  obtain ⟨n, hn⟩ : ∃ n, b.les.length = n := ⟨_, rfl⟩
  simp only [hn] at hrB hlm ⊢
  replace hn := hide hn
  have hw4 : IntKind.i64.wrap ((nl : Int) + 4) = (nl : Int) + 4 := by rw [IntKind.wrap_i64]; omega
  have hc4 : (((nl + 4 : Nat) : Int)) = (nl : Int) + 4 := by omega
  obtain ⟨W, hW⟩ : ∃ y, (w.alloc (.cells #[.slice L nl cl, .slice C nc cc, .int .i64 S.price, .int .i64 S.excess, .int .i64 S.lo, .int .i64 S.hi, .slice T nt ct] 28)).alloc (.cells #[.slice A0 n c0, .slice A1 nc c1, .slice A2 nc c2, .slice A3 (nl + 4) c3] 42) = y := ⟨_, rfl⟩
  have kb := hide (show Blk W w.heap.size 28 #[.slice L nl cl, .slice C nc cc, .int .i64 S.price, .int .i64 S.excess, .int .i64 S.lo, .int .i64 S.hi, .slice T nt ct] by rw [← hW]; exact (blkNew rfl).alloc _)
  have kx := hide (show Blk W (w.heap.size + 1) 42 #[.slice A0 n c0, .slice A1 nc c1, .slice A2 nc c2, .slice A3 (nl + 4) c3] by rw [← hW]; exact blkNew (by simp))
  have hB := hide (show Below w.heap.size w W by rw [← hW]; exact ((Below.refl _ _).alloc (Nat.le_refl _) _).alloc (by simp) _)
  replace hW := hide hW
  have y0 : W.cell? ⟨w.heap.size, 0, none⟩ = some (.slice L nl cl) := kb.out.cell 0
  have y1 : W.cell? ⟨w.heap.size, 1, none⟩ = some (.slice C nc cc) := kb.out.cell 1
  have z0 : W.cell? ⟨w.heap.size + 1, 0, none⟩ = some (.slice A0 n c0) := kx.out.cell 0
  have z1 : W.cell? ⟨w.heap.size + 1, 1, none⟩ = some (.slice A1 nc c1) := kx.out.cell 1
  have z2 : W.cell? ⟨w.heap.size + 1, 2, none⟩ = some (.slice A2 nc c2) := kx.out.cell 2
  have z3 : W.cell? ⟨w.heap.size + 1, 3, none⟩ = some (.slice A3 (nl + 4) c3) := kx.out.cell 3
  have b1 : ((nc : Int) != (nc : Int)) = false := by simp
  have b2 : (((nl + 4 : Nat) : Int) != (nl : Int) + 4) = false := by rw [hc4]; simp
  have b3 : ((nl : Int) + 4 != (nl : Int) + 4) = false := by simp
  go_enter Try.func34, Try.ntmps34
  go_upto_region 1 with fail
  rw [hW.out]
  go_wp2
  clear y0 y1 z0 z1 z2 z3 b1 b2 b3
  go_loopg [5, 6] n (fun gg s5 _ wr => ∃ j : Nat, j ≤ n ∧ n ≤ gg + j ∧ s5 = .int .i64 j ∧ Hid (Below W.heap.size W wr))
  case atStart => exact ⟨0, Nat.zero_le _, by omega, rfl, Below.refl _ _⟩
  case round =>
    obtain ⟨j, hj, hgg, rfl, hBr⟩ := hrel
    have hBw := hide (hB.out.trans (hBr.out.mono hB.out.size))
    have x0 : wr.cell? ⟨w.heap.size + 1, 0, none⟩ = some (.slice A0 n c0) := (kx.out.below hBr.out kx.out.lt).cell 0
    by_cases hlt : j < n
    · have hltz : (j : Int) < (n : Int) := by omega
      obtain ⟨bb, off, q0, q1, q2, q3, q4, rfl, hb, hy, d0, d1, d2, d3, d4⟩ := (hrB.out wr hBw.out).cells5 hlt
      have hjl : j < b.les.length := by rw [hn.out]; exact hlt
      rw [hat.out j hjl] at hy
      have ho := hok.out j hjl
      generalize b.les[j]'hjl = l at *
      obtain ⟨la, lc, ls, lh, lt⟩ := l
      simp only [lesCells, List.cons.injEq, and_true] at hy
      obtain ⟨rfl, rfl, rfl, rfl, rfl⟩ := hy
      unfold LesOk at ho
      simp only at ho
      have t1 : decide (la < 0) = false := decide_eq_false (by omega)
      have t2 : decide ((nl : Int) ≤ la) = false := decide_eq_false (by omega)
      have t3 : decide (lc < 0) = false := decide_eq_false (by omega)
      have t4 : decide ((nc : Int) ≤ lc) = false := decide_eq_false (by omega)
      have t5 : decide (lh < 1) = false := decide_eq_false (by omega)
      have t6 : decide (4 < lh) = false := decide_eq_false (by omega)
      have t7 : decide (ls < 0) = false := decide_eq_false (by omega)
      have t8 : decide (4800 < ls) = false := decide_eq_false (by omega)
      replace ho := hide ho
      obtain ⟨W3, hW3⟩ : ∃ y, wr.alloc (.cells #[.int .i64 la, .int .i64 lc, .int .i64 ls, .int .i64 lh, .int .i64 lt] 63) = y := ⟨_, rfl⟩
      have kl := hide (show Blk W3 wr.heap.size 63 #[.int .i64 la, .int .i64 lc, .int .i64 ls, .int .i64 lh, .int .i64 lt] by rw [← hW3]; exact blkNew rfl)
      have hB3 := hide (show Below W.heap.size W W3 by rw [← hW3]; exact hBr.out.alloc hBr.out.size _)
      have s0 : W3.cell? ⟨w.heap.size, 0, none⟩ = some (.slice L nl cl) := (kb.out.below hB3.out kb.out.lt).cell 0
      have s1 : W3.cell? ⟨w.heap.size, 1, none⟩ = some (.slice C nc cc) := (kb.out.below hB3.out kb.out.lt).cell 1
      have l0 : W3.cell? ⟨wr.heap.size, 0, none⟩ = some (.int .i64 la) := kl.out.cell 0
      have l1 : W3.cell? ⟨wr.heap.size, 1, none⟩ = some (.int .i64 lc) := kl.out.cell 1
      have l2 : W3.cell? ⟨wr.heap.size, 2, none⟩ = some (.int .i64 ls) := kl.out.cell 2
      have l3 : W3.cell? ⟨wr.heap.size, 3, none⟩ = some (.int .i64 lh) := kl.out.cell 3
      replace hW3 := hide hW3
      replace hjl := hide hjl
      have hj0 : (0 : Int) ≤ (j : Int) := by omega
      go_upto_region 7 with fail
      rw [hW3.out]
      clear d0 d1 d2 d3 d4 x0
      go_wp2
      clear l0 l1 l2 l3 s0 s1 t1 t2 t3 t4 t5 t6 t7 t8
      go_roundg (n - (j + 1))
      case measure => omega
      case rel => exact ⟨j + 1, by omega, by omega, by go_num, hB3.out⟩
    · have hltz : ¬ (j : Int) < (n : Int) := by omega
      go_wp2
      go_ret
      exact ⟨rfl, hBw.out⟩
end Go.Proofs.Ytkmhldjebopljaa

/-
  What the laws need of what there is after events. Of no program.
-/
namespace Go.Proofs.Ytkmhldjebopljaa

theorem runR_err {S : BSch} {es : List BEv} (h : runE S es ≠ 0) : runR S es = ([], noBks) := by unfold runR; rw [if_neg h]
theorem runR_ok {S : BSch} {es : List BEv} (h : runE S es = 0) : runR S es = runB S es 0 (startB S) := by unfold runR; rw [if_pos h]
/-- All that a law asks of what there is after events that are few enough, of a school that is one. -/
structure After (S : BSch) (es : List BEv) : Prop where
  sch : (checkB S).2.2 = 0
  few : es.length ≤ 60
  nl : 1 ≤ S.learners.length ∧ S.learners.length ≤ 8
  nc : 1 ≤ S.cars.length ∧ S.cars.length ≤ 5
  ok : BksOk S es.length (runR S es).2
  len : (runR S es).1.length = es.length
  gd : Gd S (runR S es).2
theorem after_of {S : BSch} {es : List BEv} (h : runE S es = 0) : After S es where
  sch := (run_zero h).1
  few := (run_zero h).2
  nl := (num_ok (check_parts (run_zero h).1).1).1
  nc := (num_ok (check_parts (run_zero h).1).1).2.1
  ok := by
    have := (run_ok (sch_ok (run_zero h).1) es (n := 0) (Int.le_refl _) (start_ok S)).1
    rw [runR_ok h]
    simpa using this
  len := by
    rw [runR_ok h]
    exact (run_ok (sch_ok (run_zero h).1) es (n := 0) (Int.le_refl _) (start_ok S)).2
  gd := by
    have hS := sch_gd (run_zero h).1
    have := (bk_gd hS es (j := es.length) (run_zero h).2).1
    unfold bk at this
    rw [List.take_length] at this
    rw [runR_ok h]
    exact this
end Go.Proofs.Ytkmhldjebopljaa

/-
  The sum over events of what learners pay (BookHours); the first hour (BookSoonest). Of no program.
-/
namespace Go.Proofs.Ytkmhldjebopljaa
open Go.RowKit RG

/-- The error of the j-th event. -/
def errAt (S : BSch) (es : List BEv) (j : Nat) : Int := (tellB S (bk S es j) j (es[j]?.getD default)).1
theorem er_at (S : BSch) (es : List BEv) : ∀ {k j : Nat}, j < k → k ≤ es.length → (er S es k)[j]? = some (errAt S es j)
  | 0, j, h, _ => by omega
  | k + 1, j, h, hk => by
    rw [(bk_succ S es (by omega : k < es.length)).2]
    have hl := er_len S es (j := k) (by omega)
    by_cases hj : j < k
    · rw [List.getElem?_append_left (by omega)]
      exact er_at S es hj (by omega)
    · have : j = k := by omega
      subst this
      rw [List.getElem?_append_right (by omega), hl, Nat.sub_self]
      rfl
theorem runR_er {S : BSch} {es : List BEv} (h : runE S es = 0) : (runR S es).1 = er S es es.length ∧ (runR S es).2 = bk S es es.length := by
  rw [runR_ok h]
  unfold er bk
  rw [List.take_length]
  exact ⟨rfl, rfl⟩
/-- The fees of the first events. -/
def feeUpTo (S : BSch) (es : List BEv) : Nat → Int
  | 0 => 0
  | j + 1 => feeUpTo S es j + feeOf S (bk S es j) (es[j]?.getD default) (errAt S es j)
theorem bk_ok {S : BSch} (hS : SchOk S) (es : List BEv) {j : Nat} (hj : j ≤ es.length) : BksOk S j (bk S es j) := by
  have := (run_ok hS (es.take j) (n := 0) (Int.le_refl _) (start_ok S)).1
  rw [List.length_take, Nat.min_eq_left hj, Int.zero_add] at this
  exact this
theorem hours_upto {S : BSch} (hS : SchOk S) (es : List BEv) : ∀ {j : Nat}, j ≤ es.length → paid S.learners.length (bk S es j).pst - dSum S (bk S es j).les = feeUpTo S es j ∧ PaidTo S.learners.length (bk S es j).pst
  | 0, _ => ⟨rfl, fun _ h => by cases h⟩
  | j + 1, hj => by
    obtain ⟨h1, h2⟩ := hours_upto hS es (j := j) (by omega)
    obtain ⟨h3, h4⟩ := tell_paid (S := S) (n := (j : Int)) (e := es[j]?.getD default) (bk_ok hS es (by omega : j ≤ es.length)) h2
    rw [(bk_succ S es (by omega : j < es.length)).1]
    refine ⟨?_, h4⟩
    rw [h3, h1]
    rfl
theorem tell_cancel {S : BSch} {b : Bks} {n : Int} {e : BEv} (hk : e.kind = 1) (h : (tellB S b n e).1 = 0) : hasB b e.booking 0 = true ∧ e.at_ < (lesAt b e.booking).start ∧ 0 ≤ e.at_ := by
  unfold tellB at h
  split at h
  · cases h
  split at h
  · cases h
  rename_i h2
  split at h
  · rename_i h3
    have hc : kindB S b n e = cancelB S b n e := by
      unfold kindB
      rw [if_neg (by omega), if_pos hk]
    rw [hc] at h3
    unfold cancelB at h3
    split at h3
    · cases h3
    rename_i h4
    split at h3
    · cases h3
    rename_i h5
    have h6 : inI 0 4800 e.at_ = true := by
      cases hq : inI 0 4800 e.at_ with
      | true => rfl
      | false => exact absurd (Or.inl hq) h2
    exact ⟨by simpa using h4, by omega, (inI_iff.1 h6).1⟩
  · rename_i h3
    exact absurd h h3
/-- The first hour: what it is the first of. -/
theorem firstH_ok {S : BSch} {b : Bks} {learner car hours : Int} : ∀ (n : Nat) (s : Int),
    ((firstH S b learner car hours n s).2 = 0 ∧ (s ≤ (firstH S b learner car hours n s).1 ∧ (firstH S b learner car hours n s).1 < s + n) ∧ lesErr S b ⟨learner, car, (firstH S b learner car hours n s).1, hours, 0⟩ b.time = 0 ∧ ∀ t, s ≤ t → t < (firstH S b learner car hours n s).1 → lesErr S b ⟨learner, car, t, hours, 0⟩ b.time ≠ 0)
    ∨ ((firstH S b learner car hours n s).2 = 9 ∧ (firstH S b learner car hours n s).1 = 0 ∧ ∀ t, s ≤ t → t < s + n → lesErr S b ⟨learner, car, t, hours, 0⟩ b.time ≠ 0)
  | 0, s => .inr ⟨rfl, rfl, fun t h1 h2 => by omega⟩
  | n + 1, s => by
    unfold firstH
    by_cases h : lesErr S b ⟨learner, car, s, hours, 0⟩ b.time = 0
    · rw [if_pos h]
      exact .inl ⟨rfl, by simp only; omega, h, fun t h1 h2 => by simp only at h2; omega⟩
    · rw [if_neg h]
      rcases firstH_ok (S := S) (b := b) (learner := learner) (car := car) (hours := hours) n (s + 1) with ⟨h1, h2, h3, h4⟩ | ⟨h1, h2, h3⟩
      · refine .inl ⟨h1, by omega, h3, fun t ht1 ht2 => ?_⟩
        by_cases hs : t = s
        · subst hs; exact h
        · exact h4 t (by omega) ht2
      · refine .inr ⟨h1, h2, fun t ht1 ht2 => ?_⟩
        by_cases hs : t = s
        · subst hs; exact h
        · exact h3 t (by omega) (by omega)
/-- The error of a booking that comes last. -/
theorem tell_book {S : BSch} {b : Bks} {n : Int} {e : BEv} (hk : e.kind = 0) (ht : e.at_ = b.time) (hb : 0 ≤ b.time ∧ b.time ≤ 4800) (hl : 0 ≤ e.learner ∧ e.learner < S.learners.length) (hc : 0 ≤ e.car ∧ e.car < S.cars.length) (hh : 1 ≤ e.hours ∧ e.hours ≤ 4) (hs : 0 ≤ e.start ∧ e.start ≤ 4800) :
    (tellB S b n e).1 = lesErr S b ⟨e.learner, e.car, e.start, e.hours, 0⟩ b.time := by
  have i1 : inI 0 6 e.kind = true := inI_iff.2 (by omega)
  have i2 : inI 0 4800 e.at_ = true := inI_iff.2 (by omega)
  have i3 : inI 0 ((S.learners.length : Int) - 1) e.learner = true := inI_iff.2 (by omega)
  have i4 : inI 0 ((S.cars.length : Int) - 1) e.car = true := inI_iff.2 (by omega)
  have i5 : inI 1 4 e.hours = true := inI_iff.2 (by omega)
  have i6 : inI 0 4800 e.start = true := inI_iff.2 (by omega)
  have hkb : kindB S b n e = bookB S b e := by unfold kindB; rw [if_pos hk]
  have hbk : (bookB S b e).1 = lesErr S b ⟨e.learner, e.car, e.start, e.hours, 0⟩ b.time := by
    unfold bookB
    rw [if_neg (by simp [i3, i4]), if_neg (by simp [i5, i6]), ← ht]
    split
    · rename_i h; exact h.symm
    · rfl
  unfold tellB
  rw [if_neg (by simp [i1]), if_neg (by rw [i2]; simp; omega), hkb]
  split
  · rename_i h; rw [← hbk]; exact h.symm
  · exact hbk
end Go.Proofs.Ytkmhldjebopljaa

/-
  append to a row of its own: what comes of it, and what is kept. Of no function.
-/
namespace Go.Proofs.Ytkmhldjebopljaa
open Go.RowKit RG

theorem row_cells {w : World} {A : Option Addr} {m k : Nat} {ys : List (List Value)} (h : RdRow w A m k ys) {a : Addr} (ha : A = some a) : ∀ j u, ys.flatten[j]? = some u → w.cell? (a.add j) = some u := by
  intro j u hj
  have hlen := (List.getElem?_eq_some_iff.1 hj).1
  rw [flat_len h.2.1, h.1] at hlen
  have hm : 0 < m := by
    rcases Nat.eq_zero_or_pos m with h0 | h0
    · subst h0; omega
    · exact h0
  have hk : 0 < k := by
    rcases Nat.eq_zero_or_pos k with h0 | h0
    · subst h0; omega
    · exact h0
  obtain ⟨b, off, e, _, hc⟩ := h.2.2 hm
  rw [ha] at e
  cases e
  have hdm : j / k * k + j % k = j := by rw [Nat.mul_comm]; exact Nat.div_add_mod j k
  have hj2 : j / k < m := Nat.div_lt_of_lt_mul (by rw [Nat.mul_comm]; exact hlen)
  have hi2 : j % k < k := Nat.mod_lt _ hk
  have hy : (ys[j / k]?.getD []).length = k := by
    rw [List.getElem?_eq_getElem (by rw [h.1]; exact hj2)]
    exact h.2.1 _ (List.getElem_mem _)
  obtain ⟨u', hu'⟩ : ∃ u', (ys[j / k]?.getD [])[j % k]? = some u' := ⟨_, List.getElem?_eq_getElem (by rw [hy]; exact hi2)⟩
  have h3 := (flat_get h.2.1 hu').2.2
  rw [hdm, hj] at h3
  cases h3
  have := hc _ _ _ hu'
  rw [Nat.add_assoc, hdm] at this
  rw [Addr.add_lit]
  exact this
/-- Whether two slices lie in one block. -/
def Disj (u v : Value) : Prop := ∀ g, u.ownBlock = some g → v.ownBlock ≠ some g
theorem Disj.symm {u v : Value} (h : Disj u v) : Disj v u := fun g h1 h2 => h g h2 h1
theorem disj_none {u : Value} {n c : Nat} : Disj u (.slice none n c) := fun g _ h2 => by simp [Value.ownBlock] at h2
/-- An append to a row of its own. -/
theorem app_row {W : World} {X : Nat → Prop} {t e ty : TypeId} {k bytes : Nat} {z : Value} (ht : Try.prog.underlying t = some (.slice e)) (hinfo : (Try.prog.info? e).map (fun i => (i.zero, i.size, i.bytes)) = some (some z, k, bytes)) (hzc : z.cells.size = k) (hk : 0 < k) (hb : bytes ≤ 1000)
    {v : Value} {xs : List (List Value)} (h : RowAt W X e k v xs) (ho : Old X W) {A : Option Addr} {m c : Nat} {ys : List (List Value)} (hy : RdRow W A m k ys) (hA : A = none → c = 0) (h1 : ∀ u ∈ ys.flatten, u.oneCell' = true) (hl : xs.length + m ≤ 1000) :
    ∃ v' w4, (Builtin.append_ #[t, t] ty #[v, .slice A m c]).run Try.prog W = .ok v' w4 ∧ RowAt w4 X e k v' (xs ++ ys) ∧ KeptX X W w4 ∧ (∀ {e' : TypeId} {k' : Nat} {u : Value} {us : List (List Value)}, RowAt W X e' k' u us → Disj u v → RowAt w4 X e' k' u us ∧ Disj u v') := by
  obtain ⟨i0, hi, hz0, hz1, hz2⟩ := info_parts hinfo
  cases A with
  | none =>
    have hm : m = 0 := by
      rcases Nat.eq_zero_or_pos m with h0 | h0
      · exact h0
      · obtain ⟨b, off, e, _⟩ := hy.2.2 h0
        cases e
    subst hm
    obtain rfl : ys = [] := List.eq_nil_of_length_eq_zero hy.1
    rw [hA rfl]
    refine ⟨v, W, run_append_owned_none (P := Try.prog) W 0 t ty e i0 k ht hi v xs.length xs.flatten h.own, by rw [List.append_nil]; exact h, KeptX.refl _ _, fun hu hd => ⟨hu, hd⟩⟩
  | some a =>
    have hfl : ys.flatten.length = m * k := by rw [flat_len hy.2.1, hy.1]
    obtain ⟨v', w4, hrun, hown, hgrow, -, hat⟩ := run_append_own_at (P := Try.prog) W 0 t ty e i0 z k bytes ht hi hz0 hz1 hz2 hzc hk
      v xs.length xs.flatten h.own a m c ys.flatten hfl (row_cells hy rfl) h1 (by unfold maxLen; omega)
      (Nat.le_trans (Nat.mul_le_mul hl hb) (by decide)) (Nat.zero_le _)
    have hG : Grew W w4 v v' := ⟨hgrow, by rcases hat with h' | h'; exact .inl h'; exact .inr ⟨_, h', Nat.le_refl _⟩⟩
    refine ⟨v', w4, hrun, ?_, hG.keptX ho h.not, fun hu hd => ⟨hG.row hu hd, hG.ne_ hu hd⟩⟩
    refine rowAt_of ?_ ?_ ?_
    · intro x hx
      rcases List.mem_append.1 hx with h' | h'
      · exact h.1 x h'
      · exact hy.2.1 x h'
    · rw [List.length_append, hy.1, List.flatten_append]; exact hown
    · intro g hg hX
      rcases hat with h' | h'
      · exact h.not g (by rw [← h']; exact hg) hX
      · rw [hg] at h'; cases h'; exact absurd (ho _ hX) (Nat.lt_irrefl _)
/-- An append of one number that was just built. -/
theorem app_int {W : World} {X : Nat → Prop} {v : Value} {xs : List Int} (h : RowAt W X 3 1 v (xs.map iCells)) (ho : Old X W) (hl : xs.length ≤ 999) (x : Int) :
    ∃ v' w4, (Builtin.append_ #[40, 40] 40 #[v, .slice (some ⟨W.heap.size, 0, none⟩) 1 1]).run Try.prog (W.alloc (.cells #[.int .i64 x] 3)) = .ok v' w4 ∧ RowAt w4 X 3 1 v' ((xs ++ [x]).map iCells) ∧ KeptX X W w4 ∧ (∀ {e' : TypeId} {k' : Nat} {u : Value} {us : List (List Value)}, RowAt W X e' k' u us → Disj u v → RowAt w4 X e' k' u us ∧ Disj u v') := by
  have hb := (Below.refl W.heap.size W).alloc (Nat.le_refl _) (.cells #[.int .i64 x] 3)
  have hk : Blk (W.alloc (.cells #[.int .i64 x] 3)) W.heap.size 3 #[.int .i64 x] := blkNew rfl
  obtain ⟨v', w4, h1, h2, h3, h4⟩ := app_row (W := W.alloc (.cells #[.int .i64 x] 3)) (X := X) (ty := 40) Try.underlying40 infoInt rfl (by decide) (by decide) (h.below hb) (ho.kept (KeptX.alloc W ho _)) (A := some ⟨W.heap.size, 0, none⟩) (m := 1) (c := 1) (ys := [iCells x])
    ⟨rfl, fun y hy => by rw [List.mem_singleton] at hy; subst hy; rfl, fun _ => ⟨_, 0, rfl, hk.lt, fun j i u hu => by
      obtain ⟨h5, h6, h7⟩ := flat_get (k := 1) (xs := [iCells x]) (fun y hy => by rw [List.mem_singleton] at hy; subst hy; rfl) hu
      have hj : j = 0 := by simpa using h5
      have hi : i = 0 := by omega
      subst hj; subst hi
      have hu' : u = .int .i64 x := by
        have : some (Value.int .i64 x) = some u := h7
        cases this; rfl
      subst hu'
      exact hk.cell 0⟩⟩ (fun h => by cases h) (fun u hu => by
      have : u = .int .i64 x := by simpa [iCells] using hu
      subst this; rfl) (by rw [List.length_map]; omega)
  refine ⟨v', w4, h1, by rw [List.map_append]; exact h2, (KeptX.alloc W ho _).trans h3, fun hu hd => h4 (hu.below hb) hd⟩
theorem rowAt_nil (w : World) (X : Nat → Prop) (e : TypeId) (k : Nat) : RowAt w X e k (.slice none 0 0) [] := ⟨(fun _ h => by cases h), .inl ⟨rfl, rfl⟩⟩
theorem rowAt_new {w : World} {X : Nat → Prop} {e : TypeId} (k : Nat) {g : Nat} (h : Blk w g e #[]) (hx : ¬ X g) : RowAt w X e k (.slice (some ⟨g, 0, none⟩) 0 0) [] :=
  ⟨(fun _ h => by cases h), .inr ⟨g, 0, #[], rfl, hx, h, Nat.le_refl _, by unfold maxLen; omega, by simp, by simp⟩⟩
theorem rowInt_set {w : World} {X : Nat → Prop} {g n cap : Nat} {xs : List Int} (h : RowAt w X 3 1 (.slice (some ⟨g, 0, none⟩) n cap) (xs.map iCells)) {j : Nat} (hj : j < xs.length) (x : Int) :
    RowAt (w.setCell ⟨g, j, none⟩ (.int .i64 x)) X 3 1 (.slice (some ⟨g, 0, none⟩) n cap) ((xs.set j x).map iCells) := by
  have h1 := h.set (j := j) (i := 0) (by rw [List.length_map]; exact hj) (by decide) (.int .i64 x)
  rw [Nat.mul_one, Nat.add_zero] at h1
  have h2 : (xs.map iCells)[j]?.getD [] = iCells (xs[j]'hj) := by rw [List.getElem?_map, List.getElem?_eq_getElem hj]; rfl
  rw [h2, show (iCells (xs[j]'hj)).set 0 (.int .i64 x) = iCells x from rfl, ← List.map_set] at h1
  exact h1
end Go.Proofs.Ytkmhldjebopljaa

/-
  What an event makes of kilometres, as the law BookKm counts them. Of no program.
-/
namespace Go.Proofs.Ytkmhldjebopljaa
open Go.RowKit RG

/-- What is true of an event that was done. -/
theorem tell_done {S : BSch} {b : Bks} {n : Int} {e : BEv} (h : (tellB S b n e).1 = 0) : inI 0 6 e.kind = true ∧ (0 ≤ e.at_ ∧ e.at_ ≤ 4800) ∧ b.time ≤ e.at_ ∧ (kindB S b n e).1 = 0 ∧ (tellB S b n e).2 = { (kindB S b n e).2 with time := e.at_ } := by
  unfold tellB at h ⊢
  split at h
  · cases h
  rename_i h1
  rw [if_neg h1]
  split at h
  · cases h
  rename_i h2
  rw [if_neg h2]
  split at h
  · rename_i h3
    rw [if_pos h3]
    have h6 : inI 0 4800 e.at_ = true := by
      cases hq : inI 0 4800 e.at_ with
      | true => rfl
      | false => exact absurd (Or.inl hq) h2
    exact ⟨by simpa using h1, inI_iff.1 h6, by have : ¬ e.at_ < b.time := fun h => h2 (Or.inr h); omega, h3, rfl⟩
  · rename_i h3
    exact absurd h h3
theorem drive_done {S : BSch} {b : Bks} {n : Int} {e : BEv} (hk : e.kind = 3) (h : (tellB S b n e).1 = 0) : hasB b e.booking 0 = true ∧ 0 ≤ e.km ∧ e.km ≤ 400 := by
  obtain ⟨-, -, -, h3, -⟩ := tell_done h
  have hc : kindB S b n e = driveB S b n e := by
    unfold kindB
    rw [if_neg (by omega), if_neg (by omega), if_neg (by omega), if_pos hk]
  rw [hc] at h3
  unfold driveB at h3
  split at h3
  · cases h3
  rename_i h4
  split at h3
  · cases h3
  split at h3
  · cases h3
  rename_i h5
  have := inI_iff.1 (show inI 0 400 e.km = true by simpa using h5)
  exact ⟨by simpa using h4, this⟩
theorem service_done {S : BSch} {b : Bks} {n : Int} {e : BEv} (hk : e.kind = 4) (h : (tellB S b n e).1 = 0) : 0 ≤ e.car ∧ e.car < S.cars.length := by
  obtain ⟨-, -, -, h3, -⟩ := tell_done h
  have hc : kindB S b n e = serviceB S b n e := by
    unfold kindB
    rw [if_neg (by omega), if_neg (by omega), if_neg (by omega), if_neg (by omega), if_pos hk]
  rw [hc] at h3
  unfold serviceB at h3
  split at h3
  · cases h3
  rename_i h4
  have := inI_iff.1 (show inI 0 ((S.cars.length : Int) - 1) e.car = true by simpa using h4)
  omega
/-- The lessons that there are stay, by learner, car and hours. -/
theorem keep_bk (S : BSch) (es : List BEv) (j : Nat) : Keep (bk S es j).les (bk S es es.length).les := by
  have h := run_append S (es.take j) (es.drop j) 0 (startB S)
  rw [List.take_append_drop] at h
  have h2 := keep_run S (es.drop j) (0 + ((es.take j).length : Int)) (runB S (es.take j) 0 (startB S)).2
  unfold bk
  rw [List.take_length]
  rw [h]
  exact h2
/-- One event, as the law counts it. -/
def KmStep (S : BSch) (fin : List Les) (e : BEv) (err : Int) (b b' : Bks) : Prop :=
  (err ≠ 0 ∧ b'.km = b.km ∧ b'.since = b.since) ∨
  (err = 0 ∧ e.kind = 3 ∧ (∃ jb jc : Nat, e.booking = jb ∧ jb < fin.length ∧ (fin[jb]?.getD default).car = jc ∧ jc < S.cars.length ∧ b'.km = b.km.set jc (b.km[jc]?.getD 0 + e.km) ∧ b'.since = b.since.set jc (b.since[jc]?.getD 0 + e.km)) ∧ 0 ≤ e.km ∧ e.km ≤ 400) ∨
  (err = 0 ∧ e.kind = 4 ∧ ∃ jc : Nat, e.car = jc ∧ jc < S.cars.length ∧ b'.km = b.km ∧ b'.since = b.since.set jc 0) ∨
  (err = 0 ∧ e.kind ≠ 3 ∧ e.kind ≠ 4 ∧ b'.km = b.km ∧ b'.since = b.since)
theorem km_step {S : BSch} (hS : SchOk S) (es : List BEv) {j : Nat} (hj : j < es.length) : KmStep S (bk S es es.length).les (es[j]?.getD default) (errAt S es j) (bk S es j) (bk S es (j + 1)) := by
  have hkp := keep_bk S es (j + 1)
  have hok := bk_ok hS es (show j ≤ es.length by omega)
  have hst := (bk_succ S es hj).1
  rw [hst] at hkp ⊢
  have hkm := tell_km hkp
  have hk0 := keep_tell S (bk S es j) j (es[j]?.getD default)
  unfold errAt
  generalize es[j]?.getD default = e at *
  generalize bk S es j = b at *
  unfold KmStep
  have e1 : (tellB S b j e).2.km = (kmStep (bk S es es.length).les (b.km, b.since) e (tellB S b j e).1).1 := by rw [← hkm]
  have e2 : (tellB S b j e).2.since = (kmStep (bk S es es.length).les (b.km, b.since) e (tellB S b j e).1).2 := by rw [← hkm]
  rw [e1, e2]
  by_cases h0 : (tellB S b j e).1 = 0
  · by_cases h3 : e.kind = 3
    · obtain ⟨hb, hkk⟩ := drive_done h3 h0
      obtain ⟨jb, hjb, hjl, -⟩ := hasB_nat hb
      have hcar := (hkp.2 jb (Nat.lt_of_lt_of_le hjl hk0.1)).2.1
      have hcar2 := (hk0.2 jb hjl).2.1
      have hlo := (les_at hok.les hjl).2.1
      obtain ⟨jc, hjc⟩ : ∃ jc : Nat, (atL b.les jb).car = (jc : Int) := ⟨(atL b.les jb).car.toNat, by have : 0 ≤ (atL b.les jb).car := hlo.1; omega⟩
      have hjn : jc < S.cars.length := by have : (atL b.les jb).car < S.cars.length := hlo.2; omega
      refine .inr (.inl ⟨h0, h3, ⟨jb, jc, hjb, Nat.lt_of_lt_of_le hjl (hk0.trans hkp).1, by show (atL _ jb).car = _; rw [hcar, hcar2, hjc], hjn, ?_, ?_⟩, hkk⟩)
      · unfold kmStep
        rw [if_neg (by omega), if_pos h3, hjb, Int.toNat_natCast, hcar, hcar2, hjc, addAt_nat]
      · unfold kmStep
        rw [if_neg (by omega), if_pos h3, hjb, Int.toNat_natCast, hcar, hcar2, hjc]
        exact addAt_nat _ _ _
    · by_cases h4 : e.kind = 4
      · obtain ⟨s1, s2⟩ := service_done h4 h0
        refine .inr (.inr (.inl ⟨h0, h4, e.car.toNat, by omega, by omega, ?_, ?_⟩))
        · unfold kmStep
          rw [if_neg (by omega), if_neg h3, if_pos h4]
        · unfold kmStep
          rw [if_neg (by omega), if_neg h3, if_pos h4]
      · refine .inr (.inr (.inr ⟨h0, h3, h4, ?_, ?_⟩))
        · unfold kmStep
          rw [if_neg (by omega), if_neg h3, if_neg h4]
        · unfold kmStep
          rw [if_neg (by omega), if_neg h3, if_neg h4]
  · refine .inl ⟨h0, ?_, ?_⟩
    · unfold kmStep; rw [if_pos h0]
    · unfold kmStep; rw [if_pos h0]
end Go.Proofs.Ytkmhldjebopljaa

/-
  What the law BookInsured sums. Of no program.
-/
namespace Go.Proofs.Ytkmhldjebopljaa
open Go.RowKit RG

theorem part_sum {f : Pst → Int} : ∀ (ps : List Pst) (k : Nat), (∀ p ∈ ps, 0 ≤ f p) → 0 ≤ ((ps.take k).map f).sum ∧ ((ps.take k).map f).sum ≤ (ps.map f).sum
  | [], k, _ => by simp
  | p :: ps, 0, h => by
    have := part_sum ps ps.length (fun q hq => h q (List.mem_cons_of_mem _ hq))
    rw [List.take_length] at this
    have := h p (List.mem_cons_self ..)
    simp only [List.take_zero, List.map_nil, List.sum_nil, List.map_cons, List.sum_cons]
    omega
  | p :: ps, k + 1, h => by
    have := part_sum ps k (fun q hq => h q (List.mem_cons_of_mem _ hq))
    have := h p (List.mem_cons_self ..)
    simp only [List.take_succ_cons, List.map_cons, List.sum_cons]
    omega
theorem sum_step (f : Pst → Int) {ps : List Pst} {k : Nat} {p : Pst} (h : ps[k]? = some p) : ((ps.take (k + 1)).map f).sum = ((ps.take k).map f).sum + f p := by
  obtain ⟨hk, e⟩ := List.getElem?_eq_some_iff.1 h
  rw [List.take_succ_eq_append_getElem hk, List.map_append, List.sum_append, e]
  simp
theorem own_step {ps : List Pst} {k : Nat} {p : Pst} (h : ps[k]? = some p) (nl i : Int) : ownP nl i (ps.take (k + 1)) = ownP nl i (ps.take k) + if p.event = i ∧ p.frm = nl then p.cents else 0 := sum_step _ h
theorem rest_step {ps : List Pst} {k : Nat} {p : Pst} (h : ps[k]? = some p) (nl i : Int) : restP nl i (ps.take (k + 1)) = restP nl i (ps.take k) + if p.event = i ∧ p.frm ≠ nl then p.cents else 0 := sum_step _ h
theorem own_part {ps : List Pst} (h : ∀ p ∈ ps, 0 < p.cents) (nl i : Int) (k : Nat) : 0 ≤ ownP nl i (ps.take k) ∧ ownP nl i (ps.take k) ≤ ownP nl i ps :=
  part_sum ps k fun p hp => by have := h p hp; split <;> omega
theorem rest_part {ps : List Pst} (h : ∀ p ∈ ps, 0 < p.cents) (nl i : Int) (k : Nat) : 0 ≤ restP nl i (ps.take k) ∧ restP nl i (ps.take k) ≤ restP nl i ps :=
  part_sum ps k fun p hp => by have := h p hp; split <;> omega
theorem crash_done {S : BSch} {b : Bks} {n : Int} {e : BEv} (hk : e.kind = 5) (h : (tellB S b n e).1 = 0) : 0 ≤ e.cents ∧ e.cents ≤ 10000000 := by
  obtain ⟨-, -, -, h3, -⟩ := tell_done h
  have hc : kindB S b n e = crashB S b n e := by
    unfold kindB
    rw [if_neg (by omega), if_neg (by omega), if_neg (by omega), if_neg (by omega), if_neg (by omega), if_pos hk]
  rw [hc] at h3
  unfold crashB at h3
  split at h3
  · cases h3
  split at h3
  · cases h3
  rename_i h5
  exact inI_iff.1 (by simpa using h5)
/-- All that the law needs of an event that is a crash and was done. -/
theorem ins_all {S : BSch} {es : List BEv} (h : runE S es = 0) {i : Nat} (hi : i < es.length) (h5 : (es[i]?.getD default).kind = 5) (h0 : errAt S es i = 0) :
    Insured S (runR S es).2.pst i (es[i]?.getD default).cents ∧ 0 ≤ (es[i]?.getD default).cents ∧ (es[i]?.getD default).cents ≤ 10000000 := by
  refine ⟨?_, crash_done h5 h0⟩
  have her := (runR_er h).1
  rw [runR_ok h]
  have := run_insured (S := S) es (n := 0) (b := startB S) (k := i) (fun p hp => by cases hp) hi h5 (by
    rw [runR_ok h] at her
    rw [her, er_at S es hi (Nat.le_refl _)]
    exact h0)
  simpa using this
end Go.Proofs.Ytkmhldjebopljaa

/-
  What the laws read: schools, states, events and numbers in memory. Of no function.
-/
namespace Go.Proofs.Ytkmhldjebopljaa
open Go.RowKit RG

theorem sch_cells {w : World} {p : Nat} {L C T : Option Addr} {cl cc ct : Nat} {S : BSch} (h : Blk w p 28 (schCells L C T cl cc ct S)) :
    w.cell? ⟨p, 0, none⟩ = some (.slice L S.learners.length cl) ∧ w.cell? ⟨p, 1, none⟩ = some (.slice C S.cars.length cc) ∧ w.cell? ⟨p, 2, none⟩ = some (.int .i64 S.price) ∧ w.cell? ⟨p, 3, none⟩ = some (.int .i64 S.excess) ∧ w.cell? ⟨p, 4, none⟩ = some (.int .i64 S.lo) ∧ w.cell? ⟨p, 5, none⟩ = some (.int .i64 S.hi) ∧ w.cell? ⟨p, 6, none⟩ = some (.slice T S.terms.length ct) :=
  ⟨h.cell 0, h.cell 1, h.cell 2, h.cell 3, h.cell 4, h.cell 5, h.cell 6⟩
theorem IsState.parts {b : Bks} {v : Value} {w : World} (h : IsState b v w) : ∃ A0 c0 A1 c1 A2 c2 A3 c3, v = .agg #[.slice A0 b.les.length c0, .slice A1 b.km.length c1, .slice A2 b.since.length c2, .slice A3 b.acc.length c3] ∧
    IsRow 5 (b.les.map lesCells) (.slice A0 b.les.length c0) w ∧ IsInts b.km (.slice A1 b.km.length c1) w ∧ IsInts b.since (.slice A2 b.since.length c2) w ∧ IsInts b.acc (.slice A3 b.acc.length c3) w := by
  obtain ⟨vl, vk, vs, va, rfl, ⟨A0, c0, rfl, h0⟩, ⟨A1, c1, rfl, h1⟩, ⟨A2, c2, rfl, h2⟩, ⟨A3, c3, rfl, h3⟩⟩ := h
  rw [List.length_map] at *
  exact ⟨A0, c0, A1, c1, A2, c2, A3, c3, rfl, ⟨A0, c0, by rw [List.length_map], by rw [List.length_map]; exact h0⟩, ⟨A1, c1, rfl, h1⟩, ⟨A2, c2, rfl, h2⟩, ⟨A3, c3, rfl, h3⟩⟩
theorem les_read {w : World} {A : Option Addr} {n c : Nat} {ls : List Les} (h : IsRow 5 (ls.map lesCells) (.slice A n c) w) {j : Nat} (hj : j < ls.length) : ∃ g o, A = some ⟨g, o, none⟩ ∧ g < w.heap.size ∧
    w.cell? ⟨g, o + j * 5, none⟩ = some (.int .i64 (ls[j]?.getD default).learner) ∧ w.cell? ⟨g, o + j * 5 + 1, none⟩ = some (.int .i64 (ls[j]?.getD default).car) ∧ w.cell? ⟨g, o + j * 5 + 2, none⟩ = some (.int .i64 (ls[j]?.getD default).start) ∧ w.cell? ⟨g, o + j * 5 + 3, none⟩ = some (.int .i64 (ls[j]?.getD default).hours) ∧ w.cell? ⟨g, o + j * 5 + 4, none⟩ = some (.int .i64 (ls[j]?.getD default).state) := by
  obtain ⟨A', c', e, hr, -⟩ := h
  cases e
  rw [List.length_map] at hr
  obtain ⟨g, o, e, hb, hc⟩ := hr.2.2 (by omega)
  have k : ∀ i u, (lesCells (ls[j]?.getD default))[i]? = some u → w.cell? ⟨g, o + j * 5 + i, none⟩ = some u := fun i u hu => hc j i u (by rw [map_at lesCells ls j hj]; exact hu)
  exact ⟨g, o, e, hb, k 0 _ rfl, k 1 _ rfl, k 2 _ rfl, k 3 _ rfl, k 4 _ rfl⟩
theorem pst_read {w : World} {A : Option Addr} {n c : Nat} {ls : List Pst} (h : IsRow 4 (ls.map pstCells) (.slice A n c) w) {j : Nat} (hj : j < ls.length) : ∃ g o p, A = some ⟨g, o, none⟩ ∧ g < w.heap.size ∧ ls[j]? = some p ∧
    w.cell? ⟨g, o + j * 4, none⟩ = some (.int .i64 p.event) ∧ w.cell? ⟨g, o + j * 4 + 1, none⟩ = some (.int .i64 p.frm) ∧ w.cell? ⟨g, o + j * 4 + 2, none⟩ = some (.int .i64 p.to) ∧ w.cell? ⟨g, o + j * 4 + 3, none⟩ = some (.int .i64 p.cents) := by
  obtain ⟨A', c', e, hr, -⟩ := h
  cases e
  rw [List.length_map] at hr
  obtain ⟨g, o, e, hb, hc⟩ := hr.2.2 (by omega)
  have hp : ls[j]? = some ls[j] := List.getElem?_eq_getElem hj
  have k : ∀ i u, (pstCells ls[j])[i]? = some u → w.cell? ⟨g, o + j * 4 + i, none⟩ = some u := fun i u hu => hc j i u (by rw [List.getElem?_map, hp]; exact hu)
  exact ⟨g, o, ls[j], e, hb, hp, k 0 _ rfl, k 1 _ rfl, k 2 _ rfl, k 3 _ rfl⟩
theorem int_read {w : World} {A : Option Addr} {n c : Nat} {xs : List Int} (h : IsInts xs (.slice A n c) w) {j : Nat} (hj : j < xs.length) : ∃ g o, A = some ⟨g, o, none⟩ ∧ g < w.heap.size ∧ w.cell? ⟨g, o + j, none⟩ = some (.int .i64 (xs[j]?.getD 0)) := by
  obtain ⟨A', c', e, hr, -⟩ := h
  cases e
  obtain ⟨g, o, e, hb, hc⟩ := hr.2 (by omega)
  exact ⟨g, o, e, hb, hc j hj⟩
theorem ev_read {w : World} {A : Option Addr} {n c : Nat} {es : List BEv} (h : IsRow 11 (es.map evCells) (.slice A n c) w) : RdRow w A es.length 11 (es.map evCells) := by
  obtain ⟨A', c', e, hr, -⟩ := h
  cases e
  rwa [List.length_map] at hr
theorem evRow_len {es : List BEv} {u : Value} {w : World} (h : IsRow 11 (es.map evCells) u w) : ∃ A c, u = .slice A es.length c ∧ es.length ≤ c ∧ c ≤ maxLen := by
  obtain ⟨A, c, rfl, -, h1, h2⟩ := h
  rw [List.length_map] at *
  exact ⟨A, c, rfl, h1, h2⟩
end Go.Proofs.Ytkmhldjebopljaa
