import Derived.Test.YtnmgnonbgihalaaPh
import Derived.Laws.CopyOwn
/-
  How many papers a stand can become (made by gen_behind.py, mkpa.py).
-/
namespace Go.Proofs.Ytnmgnonbgihalaa
open Go.RowKit RG

theorem zeroInt (w : World) : (zeroValue 3).run Try.prog w = .ok (.int .i64 0) w := by kernel_rfl
/-- How many entries a stand's count lays down, at most. -/
def capN : Nat → Nat
  | 0 => 0
  | r + 1 => 2 * capN r + 1
theorem capN_pow : ∀ r, capN r + 1 = 2 ^ r
  | 0 => rfl
  | r + 1 => by rw [capN, Nat.pow_succ, ← capN_pow r]; omega
/-- A number that can be needed. -/
def Ned (x : Int) : Prop := -1 ≤ x ∧ x ≤ 16
theorem Ned.small {x : Int} (h : Ned x) : Small x := by unfold Ned at h; unfold Small; omega
theorem small_nat {k : Nat} (h : k ≤ 1000000) : Small (k : Int) := by unfold Small; omega
/-- What the count of a stand says. -/
def BehindAt (Q Wd : Option Addr) (cq cw gw cg gl M : Nat) (B : Bank) (r k : Nat) : Prop := ∀ (a b c d l : Int) (m : Nat) (w : World), Ned a → Ned b → Ned c → Ned d → 0 ≤ l → l ≤ 1000 * k → VwR w Q Wd gw gl B → KnownM w M B m → m + capN r ≤ 2 ^ 60 →
  Calls Try.prog 73 #[vwV Q Wd cq cw gw cg gl M B, stV k a b c d l] w fun e w' => e = .returned (.int .i64 (countB B r k [a, b, c, d] l)) ∧ KeptM w.heap.size M w w' ∧ KnownM w' M B (m + capN r)
theorem dec_ned {B : Bank} {k : Nat} {a b c d : Int} (hc : canB B k [a, b, c, d] = true) (hl : B.qs.length ≤ 16) {p : Nat} (hp : p < 4) : ∃ a' b' c' d', dec [a, b, c, d] p = [a', b', c', d'] ∧ Ned a' ∧ Ned b' ∧ Ned c' ∧ Ned d' := by
  rw [canB_four] at hc
  simp only [Bool.and_eq_true, inB_iff] at hc
  have l0 := leftP_le B k 0
  have l1 := leftP_le B k 1
  have l2 := leftP_le B k 2
  have l3 := leftP_le B k 3
  unfold Ned
  match p, hp with
  | 0, _ => exact ⟨_, _, _, _, rfl, by simp; omega, by omega, by omega, by omega⟩
  | 1, _ => exact ⟨_, _, _, _, rfl, by omega, by simp; omega, by omega, by omega⟩
  | 2, _ => exact ⟨_, _, _, _, rfl, by omega, by omega, by simp; omega, by omega⟩
  | 3, _ => exact ⟨_, _, _, _, rfl, by omega, by omega, by omega, by simp; omega⟩
set_option maxRecDepth 100000 in
set_option maxHeartbeats 4000000 in
theorem behind_step (Q Wd : Option Addr) (cq cw gw cg gl M : Nat) (B : Bank) (hB : BankOk B) (r k : Nat) (hkr : k + r = B.qs.length) (hrec : ∀ r', r = r' + 1 → BehindAt Q Wd cq cw gw cg gl M B r' (k + 1)) : BehindAt Q Wd cq cw gw cg gl M B r k := by
  intro a b c d l m w ha hb hc hd hl0 hl1 hV hK hm
  have hk : k ≤ B.qs.length := by omega
  have hnq := hB.nq
  have hls : Small l := by unfold Small; omega
  have hD := hide (fun W => done_any Q Wd cq cw gw cg gl M B k a b c d l W ha.small hb.small hc.small hd.small)
  have hF := hide (fun W => isFull_any k a b c d l W ha.small hb.small hc.small hd.small)
  have hC := hide (fun W (h : Below w.heap.size w W) => can_any Q Wd cq cw gw cg gl M B k a b c d l W (hV.below h) hk)
  have hwf : Wf6 k a b c d l := ⟨(small_nat (by omega)).wf, ha.small.wf, hb.small.wf, hc.small.wf, hd.small.wf, hls.wf⟩
  obtain ⟨N, hN⟩ : ∃ z, countB B r k [a, b, c, d] l = z := ⟨_, rfl⟩
  rw [hN]
  unfold vwV stV at *
  obtain ⟨W, hW⟩ : ∃ y, (w.alloc (.cells #[.slice Q B.qs.length cq, .slice Wd B.wanted.length cw, .int .i64 B.lo, .int .i64 B.hi, .slice (some ⟨gw, 0, none⟩) B.qs.length cg, .slice (some ⟨gl, 0, none⟩) (B.qs.length + 1) (B.qs.length + 1), .map (some M)] 85)).alloc (.cells #[.int .i64 k, .int .i64 a, .int .i64 b, .int .i64 c, .int .i64 d, .int .i64 l] 113) = y := ⟨_, rfl⟩
  have bW0 := hide (show Blk W w.heap.size 85 #[.slice Q B.qs.length cq, .slice Wd B.wanted.length cw, .int .i64 B.lo, .int .i64 B.hi, .slice (some ⟨gw, 0, none⟩) B.qs.length cg, .slice (some ⟨gl, 0, none⟩) (B.qs.length + 1) (B.qs.length + 1), .map (some M)] by rw [← hW]; exact (blkNew rfl).alloc _)
  have bW1 := hide (show Blk W (w.heap.size + 1) 113 #[.int .i64 k, .int .i64 a, .int .i64 b, .int .i64 c, .int .i64 d, .int .i64 l] by rw [← hW]; exact blkNew (by simp))
  have hBW := hide (show Below w.heap.size w W by rw [← hW]; exact ((Below.refl _ _).alloc (Nat.le_refl _) _).alloc (by simp <;> omega) _)
  replace hW := hide hW
  have c0 : W.cell? ⟨w.heap.size, 0, none⟩ = some (.slice Q B.qs.length cq) := bW0.out.cell 0
  have c1 : W.cell? ⟨w.heap.size, 1, none⟩ = some (.slice Wd B.wanted.length cw) := bW0.out.cell 1
  have c2 : W.cell? ⟨w.heap.size, 2, none⟩ = some (.int .i64 B.lo) := bW0.out.cell 2
  have c3 : W.cell? ⟨w.heap.size, 3, none⟩ = some (.int .i64 B.hi) := bW0.out.cell 3
  have c4 : W.cell? ⟨w.heap.size, 4, none⟩ = some (.slice (some ⟨gw, 0, none⟩) B.qs.length cg) := bW0.out.cell 4
  have c5 : W.cell? ⟨w.heap.size, 5, none⟩ = some (.slice (some ⟨gl, 0, none⟩) (B.qs.length + 1) (B.qs.length + 1)) := bW0.out.cell 5
  have c6 : W.cell? ⟨w.heap.size, 6, none⟩ = some (.map (some M)) := bW0.out.cell 6
  have s0 : W.cell? ⟨w.heap.size + 1, 0, none⟩ = some (.int .i64 k) := bW1.out.cell 0
  have s1 : W.cell? ⟨w.heap.size + 1, 1, none⟩ = some (.int .i64 a) := bW1.out.cell 1
  have s2 : W.cell? ⟨w.heap.size + 1, 2, none⟩ = some (.int .i64 b) := bW1.out.cell 2
  have s3 : W.cell? ⟨w.heap.size + 1, 3, none⟩ = some (.int .i64 c) := bW1.out.cell 3
  have s4 : W.cell? ⟨w.heap.size + 1, 4, none⟩ = some (.int .i64 d) := bW1.out.cell 4
  have s5 : W.cell? ⟨w.heap.size + 1, 5, none⟩ = some (.int .i64 l) := bW1.out.cell 5
  go_enter Try.func73, Try.ntmps73
  go_upto_region 1 with fail
  rw [hW.out]
  by_cases hz : [a, b, c, d] = zero4
  · have hct := countB_full B r k l
    rw [← hz, hN] at hct
    rw [decide_eq_true hz] at hF
    unfold doneB at hD
    rw [decide_eq_true hz, Bool.true_and] at hD
    clear hN hz hrec hC
    cases hi : inLev B l with
    | true =>
      rw [hi] at hD hct
      obtain rfl := hct
      go_wp2_with fail
      refine (hD.out W).mono ?_
      rintro e w1 ⟨rfl, hb1⟩
      have hB1 := hide (hBW.out.trans (hb1.mono hBW.out.size))
      clear hb1 c0 c1 c2 c3 c4 c5 c6 s0 s1 s2 s3 s4 s5
      go_wp2
      go_ret
      exact ⟨by simp, KeptM.of_below hB1.out, (hK.below hB1.out).more (by omega)⟩
    | false =>
      rw [hi] at hD hct
      obtain rfl := hct
      go_wp2_with fail
      refine (hD.out W).mono ?_
      rintro e w1 ⟨rfl, hb1⟩
      have hB1 := hide (hBW.out.trans (hb1.mono hBW.out.size))
      have hbh := hide hb1
      replace bW0 := hide (bW0.out.below hbh.out bW0.out.lt)
      replace bW1 := hide (bW1.out.below hbh.out bW1.out.lt)
      clear hb1 c0 c1 c2 c3 c4 c5 c6 s0 s1 s2 s3 s4 s5
      have s0 : w1.cell? ⟨w.heap.size + 1, 0, none⟩ = some (.int .i64 k) := bW1.out.cell 0
      have s1 : w1.cell? ⟨w.heap.size + 1, 1, none⟩ = some (.int .i64 a) := bW1.out.cell 1
      have s2 : w1.cell? ⟨w.heap.size + 1, 2, none⟩ = some (.int .i64 b) := bW1.out.cell 2
      have s3 : w1.cell? ⟨w.heap.size + 1, 3, none⟩ = some (.int .i64 c) := bW1.out.cell 3
      have s4 : w1.cell? ⟨w.heap.size + 1, 4, none⟩ = some (.int .i64 d) := bW1.out.cell 4
      have s5 : w1.cell? ⟨w.heap.size + 1, 5, none⟩ = some (.int .i64 l) := bW1.out.cell 5
      go_wp2_with fail
      refine (hF.out w1).mono ?_
      rintro e w2 ⟨rfl, hb2⟩
      have hB2 := hide (hB1.out.trans (hb2.mono hB1.out.size))
      clear hb2 s0 s1 s2 s3 s4 s5
      go_wp2
      go_ret
      exact ⟨by simp, KeptM.of_below hB2.out, (hK.below hB2.out).more (by omega)⟩
  · rw [decide_eq_false hz] at hF
    unfold doneB at hD
    rw [decide_eq_false hz, Bool.false_and] at hD
    go_wp2_with fail
    refine (hD.out W).mono ?_
    rintro e w1 ⟨rfl, hb1⟩
    have hB1 := hide (hBW.out.trans (hb1.mono hBW.out.size))
    have hbh := hide hb1
    replace bW0 := hide (bW0.out.below hbh.out bW0.out.lt)
    replace bW1 := hide (bW1.out.below hbh.out bW1.out.lt)
    clear hb1 c0 c1 c2 c3 c4 c5 c6 s0 s1 s2 s3 s4 s5
    have s0 : w1.cell? ⟨w.heap.size + 1, 0, none⟩ = some (.int .i64 k) := bW1.out.cell 0
    have s1 : w1.cell? ⟨w.heap.size + 1, 1, none⟩ = some (.int .i64 a) := bW1.out.cell 1
    have s2 : w1.cell? ⟨w.heap.size + 1, 2, none⟩ = some (.int .i64 b) := bW1.out.cell 2
    have s3 : w1.cell? ⟨w.heap.size + 1, 3, none⟩ = some (.int .i64 c) := bW1.out.cell 3
    have s4 : w1.cell? ⟨w.heap.size + 1, 4, none⟩ = some (.int .i64 d) := bW1.out.cell 4
    have s5 : w1.cell? ⟨w.heap.size + 1, 5, none⟩ = some (.int .i64 l) := bW1.out.cell 5
    go_wp2_with fail
    refine (hF.out w1).mono ?_
    rintro e w2 ⟨rfl, hb2⟩
    have hB2 := hide (hB1.out.trans (hb2.mono hB1.out.size))
    have hbi := hide hb2
    replace bW0 := hide (bW0.out.below hbi.out bW0.out.lt)
    replace bW1 := hide (bW1.out.below hbi.out bW1.out.lt)
    clear hb2 s0 s1 s2 s3 s4 s5
    have c0 : w2.cell? ⟨w.heap.size, 0, none⟩ = some (.slice Q B.qs.length cq) := bW0.out.cell 0
    have c1 : w2.cell? ⟨w.heap.size, 1, none⟩ = some (.slice Wd B.wanted.length cw) := bW0.out.cell 1
    have c2 : w2.cell? ⟨w.heap.size, 2, none⟩ = some (.int .i64 B.lo) := bW0.out.cell 2
    have c3 : w2.cell? ⟨w.heap.size, 3, none⟩ = some (.int .i64 B.hi) := bW0.out.cell 3
    have c4 : w2.cell? ⟨w.heap.size, 4, none⟩ = some (.slice (some ⟨gw, 0, none⟩) B.qs.length cg) := bW0.out.cell 4
    have c5 : w2.cell? ⟨w.heap.size, 5, none⟩ = some (.slice (some ⟨gl, 0, none⟩) (B.qs.length + 1) (B.qs.length + 1)) := bW0.out.cell 5
    have c6 : w2.cell? ⟨w.heap.size, 6, none⟩ = some (.map (some M)) := bW0.out.cell 6
    have s0 : w2.cell? ⟨w.heap.size + 1, 0, none⟩ = some (.int .i64 k) := bW1.out.cell 0
    have s1 : w2.cell? ⟨w.heap.size + 1, 1, none⟩ = some (.int .i64 a) := bW1.out.cell 1
    have s2 : w2.cell? ⟨w.heap.size + 1, 2, none⟩ = some (.int .i64 b) := bW1.out.cell 2
    have s3 : w2.cell? ⟨w.heap.size + 1, 3, none⟩ = some (.int .i64 c) := bW1.out.cell 3
    have s4 : w2.cell? ⟨w.heap.size + 1, 4, none⟩ = some (.int .i64 d) := bW1.out.cell 4
    have s5 : w2.cell? ⟨w.heap.size + 1, 5, none⟩ = some (.int .i64 l) := bW1.out.cell 5
    have hC2 := hide (hC.out w2 hB2.out)
    cases hcan : canB B k [a, b, c, d] with
    | false =>
      rw [hcan] at hC2
      rw [countB_no hz hcan] at hN
      subst hN
      clear hrec hC
      replace hz := hide hz
      go_wp2_with fail
      refine hC2.out.mono ?_
      rintro e w3 ⟨rfl, hb3⟩
      have hB3 := hide (hB2.out.trans (hb3.mono hB2.out.size))
      clear hb3 c0 c1 c2 c3 c4 c5 c6 s0 s1 s2 s3 s4 s5
      go_wp2
      go_ret
      exact ⟨by simp, KeptM.of_below hB3.out, (hK.below hB3.out).more (by omega)⟩
    | true =>
      rw [hcan] at hC2
      cases r with
      | zero => exact absurd (can_end (by omega) rfl hcan) hz
      | succ r =>
      have hck := hN
      rw [countB_step hz hcan] at hN
      have hrk := hide (hrec r rfl)
      clear hrec hC hD hF
      obtain ⟨a', b', c', d', hdec, na, nb, nc, nd⟩ := dec_ned hcan hnq.2 (part4 hB k)
      rw [hdec] at hN
      have hwk := wAt_bd hB k
      have hWi := hide (fun W (h : VwR W Q Wd gw gl B) => with_any Q Wd cq cw gw cg gl M B k a b c d a' b' c' d' l W h hB (by omega) ha.small hb.small hc.small hd.small hls hdec)
      have hWo := hide (fun W => without_any k a b c d l W (small_nat (by omega)))
      generalize wAt B k = wk at *
      have hp1 := countB_pow B r (k + 1) [a', b', c', d'] (l + wk)
      have hp2 := countB_pow B r (k + 1) [a, b, c, d] l
      have hR1 := hide (fun W m' (h : VwR W Q Wd gw gl B) (h' : KnownM W M B m') (h'' : m' + capN r ≤ 2 ^ 60) => hrk.out a' b' c' d' (l + wk) m' W na nb nc nd (by omega) (by omega) h h' h'')
      have hR2 := hide (fun W m' (h : VwR W Q Wd gw gl B) (h' : KnownM W M B m') (h'' : m' + capN r ≤ 2 ^ 60) => hrk.out a b c d l m' W ha hb hc hd (by omega) (by omega) h h' h'')
      generalize countB B r (k + 1) [a', b', c', d'] (l + wk) = n1 at *
      generalize countB B r (k + 1) [a, b, c, d] l = n2 at *
      have hpw : 2 ^ r ≤ 2 ^ 16 := Nat.pow_le_pow_right (by decide) (by omega)
      have hcp := capN_pow r
      have e1 : ((k + 1 : Nat) : Int) = (k : Int) + 1 := by omega
      unfold vwV stV at hWi hWo hR1 hR2
      rw [e1] at hR1 hR2
      unfold capN at hm
      clear hrk hdec hcan
      replace hz := hide hz
      go_wp2_with fail
      refine hC2.out.mono ?_
      rintro e w3 ⟨rfl, hb3⟩
      have hB3 := hide (hB2.out.trans (hb3.mono hB2.out.size))
      have hbj := hide hb3
      replace bW0 := hide (bW0.out.below hbj.out bW0.out.lt)
      replace bW1 := hide (bW1.out.below hbj.out bW1.out.lt)
      have hK3 := hide (hK.below hB3.out)
      have hMm := hide hK3.out.map
      have hVk := hide (fun W' (h : KeptM w3.heap.size M w3 W') => (hV.below hB3.out).keptM (by omega) hMm.out h)
      have hx0 : w.heap.size < w3.heap.size ∧ w.heap.size ≠ M := ⟨bW0.out.lt, blk_nmap hMm.out bW0.out⟩
      have hx1 : w.heap.size + 1 < w3.heap.size ∧ w.heap.size + 1 ≠ M := ⟨bW1.out.lt, blk_nmap hMm.out bW1.out⟩
      clear hb3 c0 c1 c2 c3 c4 c5 c6 s0 s1 s2 s3 s4 s5 hC2 hV hK
      have c6 : w3.cell? ⟨w.heap.size, 6, none⟩ = some (.map (some M)) := bW0.out.cell 6
      have s0 : w3.cell? ⟨w.heap.size + 1, 0, none⟩ = some (.int .i64 k) := bW1.out.cell 0
      have s1 : w3.cell? ⟨w.heap.size + 1, 1, none⟩ = some (.int .i64 a) := bW1.out.cell 1
      have s2 : w3.cell? ⟨w.heap.size + 1, 2, none⟩ = some (.int .i64 b) := bW1.out.cell 2
      have s3 : w3.cell? ⟨w.heap.size + 1, 3, none⟩ = some (.int .i64 c) := bW1.out.cell 3
      have s4 : w3.cell? ⟨w.heap.size + 1, 4, none⟩ = some (.int .i64 d) := bW1.out.cell 4
      have s5 : w3.cell? ⟨w.heap.size + 1, 5, none⟩ = some (.int .i64 l) := bW1.out.cell 5
      obtain ⟨D, hown, hkn⟩ := id hK3.out
      replace hkn := hide (hkn k a b c d l hwf)
      cases hh : Maps.has D (litS k a b c d l) with
      | true =>
        obtain ⟨j, r2, ej, er, hat0⟩ := hkn.out hh
        obtain rfl : k = j := by omega
        obtain rfl : r + 1 = r2 := by omega
        rw [hck] at hat0
        replace hat0 := hide hat0
        clear ej er hR1 hR2 hWi hWo hVk hx0 hx1
        replace hwf := hide hwf
        go_wp2_with (at_lookup; refine wpList_lookup_own_ok_int _ rfl _ _ 83 rfl 113 3 .i64 stLaw Try.underlying83 Try.underlying3 (zeroInt _) M m D rfl hown _ _ rfl (keyOf_st hwf.out) ?_; intro cc hat hwc)
        obtain rfl : cc = (N : Int) := by rw [hat0.out] at hat; simpa using hat.symm
        clear hat hwc
        go_wp2
        go_ret
        exact ⟨rfl, KeptM.of_below hB3.out, hK3.out.more (by omega)⟩
      | false =>
        have hJr := hide (show ∀ i : Nat, i ≠ 4 → i ≠ 8 → ∀ (f : Nat → Bool) (W' : World), (fun (f : Nat → Bool) (W : World) => KeptM w3.heap.size M w3 W ∧ KnownM W M B (m + (if f 4 = true then capN r else 0) + (if f 8 = true then capN r else 0))) f W' → (fun (f : Nat → Bool) (W : World) => KeptM w3.heap.size M w3 W ∧ KnownM W M B (m + (if f 4 = true then capN r else 0) + (if f 8 = true then capN r else 0))) (fun k => decide (k = i) || f k) W' from fun i h4 h8 f W' h => ⟨h.1, by simpa [Ne.symm h4, Ne.symm h8] using h.2⟩)
        have hJb := hide (show ∀ i : Nat, i ≠ 4 → i ≠ 8 → ∀ (f : Nat → Bool) (W' W'' : World), (fun (f : Nat → Bool) (W : World) => KeptM w3.heap.size M w3 W ∧ KnownM W M B (m + (if f 4 = true then capN r else 0) + (if f 8 = true then capN r else 0))) f W' → Below W'.heap.size W' W'' → (fun (f : Nat → Bool) (W : World) => KeptM w3.heap.size M w3 W ∧ KnownM W M B (m + (if f 4 = true then capN r else 0) + (if f 8 = true then capN r else 0))) (fun k => decide (k = i) || f k) W'' from fun i h4 h8 f W' W'' h hb => ⟨KeptX.trans h.1 (KeptM.of_below (hb.mono h.1.size)), by simpa [Ne.symm h4, Ne.symm h8] using h.2.below hb⟩)
        have hJ0 := hide (show (fun (f : Nat → Bool) (W : World) => KeptM w3.heap.size M w3 W ∧ KnownM W M B (m + (if f 4 = true then capN r else 0) + (if f 8 = true then capN r else 0))) (fun _ => false) w3.drew from ⟨(KeptX.refl _ _).drew, by simpa using hK3.out.blk (w' := w3.drew) rfl⟩)
        have u9 := hide (show IntKind.i64.wrap ((n1 : Int) + (n2 : Int)) = (N : Int) by rw [IntKind.wrap_i64]; omega)
        have hwfN : (Lit.int .i64 (N : Int)).wf = true := WalkArith.wf_i64 (by omega)
        have hM2 : m + capN r + capN r ≤ 2 ^ 60 := by omega
        have hM3 : m + (2 * capN r + 1) ≤ 2 ^ 60 := hm
        replace hN := hide hN
        replace hwfN := hide hwfN
        replace hwf := hide hwf
        replace hck := hide hck
        clear hkn
        go_wp2_with (at_lookup; refine wpList_lookup_own_ok_int _ rfl _ _ 83 rfl 113 3 .i64 stLaw Try.underlying83 Try.underlying3 (zeroInt _) M m D rfl hown _ _ rfl (keyOf_st hwf.out) ?_; intro cc hat hwc)
        clear hat hwc c6 s0 s1 s2 s3 s4 s5
        refine region_cst [.agg #[.slice Q B.qs.length cq, .slice Wd B.wanted.length cw, .int .i64 B.lo, .int .i64 B.hi, .slice (some ⟨gw, 0, none⟩) B.qs.length cg, .slice (some ⟨gl, 0, none⟩) (B.qs.length + 1) (B.qs.length + 1), .map (some M)], .agg #[.slice Q B.qs.length cq, .slice Wd B.wanted.length cw, .int .i64 B.lo, .int .i64 B.hi, .slice (some ⟨gw, 0, none⟩) B.qs.length cg, .slice (some ⟨gl, 0, none⟩) (B.qs.length + 1) (B.qs.length + 1), .map (some M)], .agg #[.int .i64 k, .int .i64 a, .int .i64 b, .int .i64 c, .int .i64 d, .int .i64 l], .agg #[.int .i64 ((k : Int) + 1), .int .i64 a', .int .i64 b', .int .i64 c', .int .i64 d', .int .i64 (l + wk)], .int .i64 n1, .agg #[.slice Q B.qs.length cq, .slice Wd B.wanted.length cw, .int .i64 B.lo, .int .i64 B.hi, .slice (some ⟨gw, 0, none⟩) B.qs.length cg, .slice (some ⟨gl, 0, none⟩) (B.qs.length + 1) (B.qs.length + 1), .map (some M)], .agg #[.int .i64 k, .int .i64 a, .int .i64 b, .int .i64 c, .int .i64 d, .int .i64 l], .agg #[.int .i64 ((k : Int) + 1), .int .i64 a, .int .i64 b, .int .i64 c, .int .i64 d, .int .i64 l], .int .i64 n2, .int .i64 (N : Int), .int .i64 (N : Int)] (fun (f : Nat → Bool) (W : World) => KeptM w3.heap.size M w3 W ∧ KnownM W M B (m + (if f 4 = true then capN r else 0) + (if f 8 = true then capN r else 0))) (by kernel_rfl) (by kernel_rfl) (hJ0.out) ?_ ?_
        · refine ⟨?_, ?_, ?_, ?_, ?_, ?_, ?_, ?_, ?_, ?_, ?_, trivial⟩
          · refine ⟨by kernel_rfl, ?_⟩
            intro Tf f y W4 Kq Qq hF hJ4 hf hd hK
            have t2 := hF.old 2 (.pointer (some ⟨w.heap.size, 0, none⟩)) (by kernel_rfl) (by kernel_rfl)
            clear hF hd
            have bx := KeptX.blk hJ4.1 hx0 bW0.out
            have c0 : W4.cell? ⟨w.heap.size, 0, none⟩ = some (.slice Q B.qs.length cq) := bx.cell 0
            have c1 : W4.cell? ⟨w.heap.size, 1, none⟩ = some (.slice Wd B.wanted.length cw) := bx.cell 1
            have c2 : W4.cell? ⟨w.heap.size, 2, none⟩ = some (.int .i64 B.lo) := bx.cell 2
            have c3 : W4.cell? ⟨w.heap.size, 3, none⟩ = some (.int .i64 B.hi) := bx.cell 3
            have c4 : W4.cell? ⟨w.heap.size, 4, none⟩ = some (.slice (some ⟨gw, 0, none⟩) B.qs.length cg) := bx.cell 4
            have c5 : W4.cell? ⟨w.heap.size, 5, none⟩ = some (.slice (some ⟨gl, 0, none⟩) (B.qs.length + 1) (B.qs.length + 1)) := bx.cell 5
            have c6 : W4.cell? ⟨w.heap.size, 6, none⟩ = some (.map (some M)) := bx.cell 6
            clear bx
            go_simp
            exact hK _ (hJr.out 0 (by decide) (by decide) _ _ hJ4)
          · refine ⟨by kernel_rfl, ?_⟩
            intro Tf f y W4 Kq Qq hF hJ4 hf hd hK
            have t2 := hF.old 2 (.pointer (some ⟨w.heap.size, 0, none⟩)) (by kernel_rfl) (by kernel_rfl)
            clear hF hd
            have bx := KeptX.blk hJ4.1 hx0 bW0.out
            have c0 : W4.cell? ⟨w.heap.size, 0, none⟩ = some (.slice Q B.qs.length cq) := bx.cell 0
            have c1 : W4.cell? ⟨w.heap.size, 1, none⟩ = some (.slice Wd B.wanted.length cw) := bx.cell 1
            have c2 : W4.cell? ⟨w.heap.size, 2, none⟩ = some (.int .i64 B.lo) := bx.cell 2
            have c3 : W4.cell? ⟨w.heap.size, 3, none⟩ = some (.int .i64 B.hi) := bx.cell 3
            have c4 : W4.cell? ⟨w.heap.size, 4, none⟩ = some (.slice (some ⟨gw, 0, none⟩) B.qs.length cg) := bx.cell 4
            have c5 : W4.cell? ⟨w.heap.size, 5, none⟩ = some (.slice (some ⟨gl, 0, none⟩) (B.qs.length + 1) (B.qs.length + 1)) := bx.cell 5
            have c6 : W4.cell? ⟨w.heap.size, 6, none⟩ = some (.map (some M)) := bx.cell 6
            clear bx
            go_simp
            exact hK _ (hJr.out 1 (by decide) (by decide) _ _ hJ4)
          · refine ⟨by kernel_rfl, ?_⟩
            intro Tf f y W4 Kq Qq hF hJ4 hf hd hK
            have t3 := hF.old 3 (.pointer (some ⟨w.heap.size + 1, 0, none⟩)) (by kernel_rfl) (by kernel_rfl)
            clear hF hd
            have bx := KeptX.blk hJ4.1 hx1 bW1.out
            have s0 : W4.cell? ⟨w.heap.size + 1, 0, none⟩ = some (.int .i64 k) := bx.cell 0
            have s1 : W4.cell? ⟨w.heap.size + 1, 1, none⟩ = some (.int .i64 a) := bx.cell 1
            have s2 : W4.cell? ⟨w.heap.size + 1, 2, none⟩ = some (.int .i64 b) := bx.cell 2
            have s3 : W4.cell? ⟨w.heap.size + 1, 3, none⟩ = some (.int .i64 c) := bx.cell 3
            have s4 : W4.cell? ⟨w.heap.size + 1, 4, none⟩ = some (.int .i64 d) := bx.cell 4
            have s5 : W4.cell? ⟨w.heap.size + 1, 5, none⟩ = some (.int .i64 l) := bx.cell 5
            clear bx
            go_simp
            exact hK _ (hJr.out 2 (by decide) (by decide) _ _ hJ4)
          · refine ⟨by kernel_rfl, ?_⟩
            intro Tf f y W4 Kq Qq hF hJ4 hf hd hK
            have p1 : y 1 = .agg #[.slice Q B.qs.length cq, .slice Wd B.wanted.length cw, .int .i64 B.lo, .int .i64 B.hi, .slice (some ⟨gw, 0, none⟩) B.qs.length cg, .slice (some ⟨gl, 0, none⟩) (B.qs.length + 1) (B.qs.length + 1), .map (some M)] := (hd 1 (by kernel_rfl)).2 _ rfl
            have p2 : y 2 = .agg #[.int .i64 k, .int .i64 a, .int .i64 b, .int .i64 c, .int .i64 d, .int .i64 l] := (hd 2 (by kernel_rfl)).2 _ rfl
            have t30 := hF.get 1 30 (by kernel_rfl)
            rw [p1] at t30
            have t31 := hF.get 2 31 (by kernel_rfl)
            rw [p2] at t31
            have hs := hWi.out W4 (hVk.out W4 hJ4.1)
            clear hF hd
            go_simp
            refine hs.mono ?_
            rintro e w7 ⟨rfl, hb7⟩
            exact hK _ (hJb.out 3 (by decide) (by decide) _ _ _ hJ4 hb7)
          · refine ⟨by kernel_rfl, ?_⟩
            intro Tf f y W4 Kq Qq hF hJ4 hf hd hK
            have p0 : y 0 = .agg #[.slice Q B.qs.length cq, .slice Wd B.wanted.length cw, .int .i64 B.lo, .int .i64 B.hi, .slice (some ⟨gw, 0, none⟩) B.qs.length cg, .slice (some ⟨gl, 0, none⟩) (B.qs.length + 1) (B.qs.length + 1), .map (some M)] := (hd 0 (by kernel_rfl)).2 _ rfl
            have p3 : y 3 = .agg #[.int .i64 ((k : Int) + 1), .int .i64 a', .int .i64 b', .int .i64 c', .int .i64 d', .int .i64 (l + wk)] := (hd 3 (by kernel_rfl)).2 _ rfl
            have t29 := hF.get 0 29 (by kernel_rfl)
            rw [p0] at t29
            have t32 := hF.get 3 32 (by kernel_rfl)
            rw [p3] at t32
            have hs := hR1.out W4 _ (hVk.out W4 hJ4.1) hJ4.2 (by rw [hf]; cases f 8 <;> simp <;> omega)
            clear hF hd
            go_simp
            refine hs.mono ?_
            rintro e w7 ⟨rfl, h8, h9⟩
            refine hK _ ⟨KeptX.trans hJ4.1 (KeptM.mono h8 hJ4.1.size), h9.more ?_⟩
            simp [hf] <;> omega
          · refine ⟨by kernel_rfl, ?_⟩
            intro Tf f y W4 Kq Qq hF hJ4 hf hd hK
            have t2 := hF.old 2 (.pointer (some ⟨w.heap.size, 0, none⟩)) (by kernel_rfl) (by kernel_rfl)
            clear hF hd
            have bx := KeptX.blk hJ4.1 hx0 bW0.out
            have c0 : W4.cell? ⟨w.heap.size, 0, none⟩ = some (.slice Q B.qs.length cq) := bx.cell 0
            have c1 : W4.cell? ⟨w.heap.size, 1, none⟩ = some (.slice Wd B.wanted.length cw) := bx.cell 1
            have c2 : W4.cell? ⟨w.heap.size, 2, none⟩ = some (.int .i64 B.lo) := bx.cell 2
            have c3 : W4.cell? ⟨w.heap.size, 3, none⟩ = some (.int .i64 B.hi) := bx.cell 3
            have c4 : W4.cell? ⟨w.heap.size, 4, none⟩ = some (.slice (some ⟨gw, 0, none⟩) B.qs.length cg) := bx.cell 4
            have c5 : W4.cell? ⟨w.heap.size, 5, none⟩ = some (.slice (some ⟨gl, 0, none⟩) (B.qs.length + 1) (B.qs.length + 1)) := bx.cell 5
            have c6 : W4.cell? ⟨w.heap.size, 6, none⟩ = some (.map (some M)) := bx.cell 6
            clear bx
            go_simp
            exact hK _ (hJr.out 5 (by decide) (by decide) _ _ hJ4)
          · refine ⟨by kernel_rfl, ?_⟩
            intro Tf f y W4 Kq Qq hF hJ4 hf hd hK
            have t3 := hF.old 3 (.pointer (some ⟨w.heap.size + 1, 0, none⟩)) (by kernel_rfl) (by kernel_rfl)
            clear hF hd
            have bx := KeptX.blk hJ4.1 hx1 bW1.out
            have s0 : W4.cell? ⟨w.heap.size + 1, 0, none⟩ = some (.int .i64 k) := bx.cell 0
            have s1 : W4.cell? ⟨w.heap.size + 1, 1, none⟩ = some (.int .i64 a) := bx.cell 1
            have s2 : W4.cell? ⟨w.heap.size + 1, 2, none⟩ = some (.int .i64 b) := bx.cell 2
            have s3 : W4.cell? ⟨w.heap.size + 1, 3, none⟩ = some (.int .i64 c) := bx.cell 3
            have s4 : W4.cell? ⟨w.heap.size + 1, 4, none⟩ = some (.int .i64 d) := bx.cell 4
            have s5 : W4.cell? ⟨w.heap.size + 1, 5, none⟩ = some (.int .i64 l) := bx.cell 5
            clear bx
            go_simp
            exact hK _ (hJr.out 6 (by decide) (by decide) _ _ hJ4)
          · refine ⟨by kernel_rfl, ?_⟩
            intro Tf f y W4 Kq Qq hF hJ4 hf hd hK
            have p6 : y 6 = .agg #[.int .i64 k, .int .i64 a, .int .i64 b, .int .i64 c, .int .i64 d, .int .i64 l] := (hd 6 (by kernel_rfl)).2 _ rfl
            have t35 := hF.get 6 35 (by kernel_rfl)
            rw [p6] at t35
            have hs := hWo.out W4
            clear hF hd
            go_simp
            refine hs.mono ?_
            rintro e w7 ⟨rfl, hb7⟩
            exact hK _ (hJb.out 7 (by decide) (by decide) _ _ _ hJ4 hb7)
          · refine ⟨by kernel_rfl, ?_⟩
            intro Tf f y W4 Kq Qq hF hJ4 hf hd hK
            have p5 : y 5 = .agg #[.slice Q B.qs.length cq, .slice Wd B.wanted.length cw, .int .i64 B.lo, .int .i64 B.hi, .slice (some ⟨gw, 0, none⟩) B.qs.length cg, .slice (some ⟨gl, 0, none⟩) (B.qs.length + 1) (B.qs.length + 1), .map (some M)] := (hd 5 (by kernel_rfl)).2 _ rfl
            have p7 : y 7 = .agg #[.int .i64 ((k : Int) + 1), .int .i64 a, .int .i64 b, .int .i64 c, .int .i64 d, .int .i64 l] := (hd 7 (by kernel_rfl)).2 _ rfl
            have t34 := hF.get 5 34 (by kernel_rfl)
            rw [p5] at t34
            have t36 := hF.get 7 36 (by kernel_rfl)
            rw [p7] at t36
            have hs := hR2.out W4 _ (hVk.out W4 hJ4.1) hJ4.2 (by rw [hf]; cases f 4 <;> simp <;> omega)
            clear hF hd
            go_simp
            refine hs.mono ?_
            rintro e w7 ⟨rfl, h8, h9⟩
            refine hK _ ⟨KeptX.trans hJ4.1 (KeptM.mono h8 hJ4.1.size), h9.more ?_⟩
            simp [hf] <;> omega
          · refine ⟨by kernel_rfl, ?_⟩
            intro Tf f y W4 Kq Qq hF hJ4 hf hd hK
            have p4 : y 4 = .int .i64 n1 := (hd 4 (by kernel_rfl)).2 _ rfl
            have p8 : y 8 = .int .i64 n2 := (hd 8 (by kernel_rfl)).2 _ rfl
            have t33 := hF.get 4 33 (by kernel_rfl)
            rw [p4] at t33
            have t37 := hF.get 8 37 (by kernel_rfl)
            rw [p8] at t37
            clear hF hd
            have u9 := u9.out
            go_simp
            exact hK _ (hJr.out 9 (by decide) (by decide) _ _ hJ4)
          · refine ⟨by kernel_rfl, ?_⟩
            intro Tf f y W4 Kq Qq hF hJ4 hf hd hK
            have p9 : y 9 = .int .i64 (N : Int) := (hd 9 (by kernel_rfl)).2 _ rfl
            have t38 := hF.get 9 38 (by kernel_rfl)
            rw [p9] at t38
            clear hF hd
            go_simp
            exact hK _ (hJr.out 10 (by decide) (by decide) _ _ hJ4)
        intro f y W8 hf hJ hE
        have e10 : y 10 = .int .i64 (N : Int) := hE 10 _ (by decide) rfl
        clear hE
        simp only [putAll, Act.put]
        simp only [List.setIfInBounds_toArray, List.set_cons_succ, List.set_cons_zero]
        rw [e10]
        clear e10
        have hK8 : KnownM W8 M B (m + capN r + capN r) := by have := hJ.2; simpa [hf 4 (by decide), hf 8 (by decide)] using this
        obtain ⟨D8, hown8, hkn8⟩ := hK8
        have hk8 := hide hJ.1
        have bx := KeptX.blk hk8.out hx0 bW0.out
        have by_ := KeptX.blk hk8.out hx1 bW1.out
        have c6 : W8.cell? ⟨w.heap.size, 6, none⟩ = some (.map (some M)) := bx.cell 6
        have s0 : W8.cell? ⟨w.heap.size + 1, 0, none⟩ = some (.int .i64 k) := by_.cell 0
        have s1 : W8.cell? ⟨w.heap.size + 1, 1, none⟩ = some (.int .i64 a) := by_.cell 1
        have s2 : W8.cell? ⟨w.heap.size + 1, 2, none⟩ = some (.int .i64 b) := by_.cell 2
        have s3 : W8.cell? ⟨w.heap.size + 1, 3, none⟩ = some (.int .i64 c) := by_.cell 3
        have s4 : W8.cell? ⟨w.heap.size + 1, 4, none⟩ = some (.int .i64 d) := by_.cell 4
        have s5 : W8.cell? ⟨w.heap.size + 1, 5, none⟩ = some (.int .i64 l) := by_.cell 5
        replace hkn8 := hide hkn8
        clear bx by_ hJ hf hR1 hR2 hWi hWo hVk hJr hJb hJ0 hown
        go_wp2_with (at_mapUpdate; refine wpList_mapUpdate_own _ rfl _ _ _ 83 rfl 113 3 stLaw Try.underlying83 _ M _ D8 rfl hown8 (by unfold maxLen; omega) _ _ _ rfl rfl (keyOf_st hwf.out) _ [] (plainElem_int Try.underlying3 hwfN.out) ?_; intro w9 hown9 hgrow9)
        rw [← hck.out] at hown9
        have hK9 := hide (known_put hown8 hkn8.out hwf.out hkr hown9)
        have hkeep := hide (show KeptM w.heap.size M w w9 from ((KeptM.of_below hB3.out).trans (KeptM.mono hk8.out hB3.out.size)).trans (KeptX.grown hgrow9 (fun g hg => Nat.lt_of_lt_of_le hg.1 (Nat.le_trans hB3.out.size hk8.out.size)) (fun g e hg => hg.2 (by injection e with e; exact e.symm))))
        clear hown9 hgrow9 hown8 c6 s0 s1 s2 s3 s4 s5
        go_wp2
        go_ret
        exact ⟨rfl, hkeep.out, hK9.out.more (by rw [show capN (r + 1) = 2 * capN r + 1 from rfl]; omega)⟩
theorem behind_all (Q Wd : Option Addr) (cq cw gw cg gl M : Nat) (B : Bank) (hB : BankOk B) : ∀ (r k : Nat), k + r = B.qs.length → BehindAt Q Wd cq cw gw cg gl M B r k
  | 0, k, h => behind_step Q Wd cq cw gw cg gl M B hB 0 k h (fun r' e => by omega)
  | r + 1, k, h => behind_step Q Wd cq cw gw cg gl M B hB (r + 1) k h (fun r' e => by obtain rfl : r = r' := by omega
                                                                                      exact behind_all Q Wd cq cw gw cg gl M B hB r (k + 1) (by omega))
end Go.Proofs.Ytnmgnonbgihalaa

/-
  The stand of a paper without a question; how many papers there are (made by mkpa.py).
-/
namespace Go.Proofs.Ytnmgnonbgihalaa
open Go.RowKit RG

theorem infoInt1 : (Try.prog.info? 3).map (·.size) = some 1 := by kernel_rfl
theorem start4_len {B : Bank} (h : B.wanted.length ≤ 4) : (start4 B).length = 4 := by unfold start4; simp; omega
/-- What is needed at the start, as cells that were copied. -/
theorem start_cells {B : Bank} (h : B.wanted.length ≤ 4) {a b c d : Int} (hs : start4 B = [a, b, c, d]) :
    ((#[.int .i64 0, .int .i64 0, .int .i64 0, .int .i64 0, .int .i64 0, .int .i64 0] : Array Value).toList.take 1 ++ B.wanted.map (Value.int .i64) ++ (#[.int .i64 0, .int .i64 0, .int .i64 0, .int .i64 0, .int .i64 0, .int .i64 0] : Array Value).toList.drop (1 + (B.wanted.map (Value.int .i64)).length)).toArray = #[.int .i64 0, .int .i64 a, .int .i64 b, .int .i64 c, .int .i64 d, .int .i64 0] := by
  unfold start4 at hs
  generalize B.wanted = W at *
  match W, h with
  | [], _ => simp at hs; obtain ⟨rfl, rfl, rfl, rfl⟩ := hs; rfl
  | [x], _ => simp at hs; obtain ⟨rfl, rfl, rfl, rfl⟩ := hs; rfl
  | [x, y], _ => simp at hs; obtain ⟨rfl, rfl, rfl, rfl⟩ := hs; rfl
  | [x, y, z], _ => simp at hs; obtain ⟨rfl, rfl, rfl, rfl⟩ := hs; rfl
  | [x, y, z, u], _ => simp at hs; obtain ⟨rfl, rfl, rfl, rfl⟩ := hs; rfl
set_option maxRecDepth 100000 in
set_option maxHeartbeats 2000000 in
theorem start_any (Q Wd : Option Addr) (cq cw gw cg gl M : Nat) (B : Bank) (a b c d : Int) (w : World) (h : RdInts w Wd B.wanted.length B.wanted) (hB : BankOk B) (hs : start4 B = [a, b, c, d]) :
    Calls Try.prog 74 #[vwV Q Wd cq cw gw cg gl M B] w fun e w' => e = .returned (stV 0 a b c d 0) ∧ Below w.heap.size w w' := by
  have hnw := hB.nw
  obtain ⟨bw, ow, rfl, hbw, hcw⟩ := h.2 (by omega)
  have hcell := start_cells hnw.2 hs
  clear h
  unfold vwV stV
  obtain ⟨W, hW⟩ : ∃ y, ((w.alloc (.cells #[.slice Q B.qs.length cq, .slice (some ⟨bw, ow, none⟩) B.wanted.length cw, .int .i64 B.lo, .int .i64 B.hi, .slice (some ⟨gw, 0, none⟩) B.qs.length cg, .slice (some ⟨gl, 0, none⟩) (B.qs.length + 1) (B.qs.length + 1), .map (some M)] 85)).alloc (.cells #[.int .i64 0, .int .i64 0, .int .i64 0, .int .i64 0, .int .i64 0, .int .i64 0] 113)).alloc (.cells #[.int .i64 0, .int .i64 0, .int .i64 0, .int .i64 0, .int .i64 0, .int .i64 0] 113) = y := ⟨_, rfl⟩
  have bW0 := hide (show Blk W w.heap.size 85 #[.slice Q B.qs.length cq, .slice (some ⟨bw, ow, none⟩) B.wanted.length cw, .int .i64 B.lo, .int .i64 B.hi, .slice (some ⟨gw, 0, none⟩) B.qs.length cg, .slice (some ⟨gl, 0, none⟩) (B.qs.length + 1) (B.qs.length + 1), .map (some M)] by rw [← hW]; exact ((blkNew rfl).alloc _).alloc _)
  have bW1 := hide (show Blk W (w.heap.size + 1) 113 #[.int .i64 0, .int .i64 0, .int .i64 0, .int .i64 0, .int .i64 0, .int .i64 0] by rw [← hW]; exact (blkNew (by simp)).alloc _)
  have bW2 := hide (show Blk W (w.heap.size + 1 + 1) 113 #[.int .i64 0, .int .i64 0, .int .i64 0, .int .i64 0, .int .i64 0, .int .i64 0] by rw [← hW]; exact blkNew (by simp))
  have hBW := hide (show Below w.heap.size w W by rw [← hW]; exact (((Below.refl _ _).alloc (Nat.le_refl _) _).alloc (by simp <;> omega) _).alloc (by simp <;> omega) _)
  replace hW := hide hW
  have hrun := run_copy_row (P := Try.prog) W.drew 23 23 3 3 (w.heap.size + 1 + 1) 1 4 4 ⟨bw, ow, none⟩ B.wanted.length cw _ 113 (B.wanted.map (Value.int .i64)) Try.underlying23 infoInt1 bW2.out (by rw [List.length_map]; exact (Nat.min_eq_left hnw.2).symm) (fun j v hv => by
    rw [List.getElem?_map] at hv
    cases hj : B.wanted[j]? with
    | none => rw [hj] at hv; cases hv
    | some x =>
      rw [hj] at hv
      have hlt := (List.getElem?_eq_some_iff.1 hj).1
      have h1 := hcw j hlt
      rw [hj] at h1
      cases hv
      rw [Addr.add_lit]
      exact (cellB hBW.out hbw).trans h1) (by simp; omega) (fun v hv => by obtain ⟨x, _, rfl⟩ := List.mem_map.1 hv; rfl)
  rw [hcell, List.length_map] at hrun
  obtain ⟨W3, hW3⟩ : ∃ y, W.drew.setRow (w.heap.size + 1 + 1) #[.int .i64 0, .int .i64 a, .int .i64 b, .int .i64 c, .int .i64 d, .int .i64 0] = y := ⟨_, rfl⟩
  rw [hW3] at hrun
  have r2 := hide (show Blk W3 (w.heap.size + 1 + 1) 113 #[.int .i64 0, .int .i64 a, .int .i64 b, .int .i64 c, .int .i64 d, .int .i64 0] by rw [← hW3]; exact setRow_heap _ _ _ _ _ _ (show W.drew.heap[w.heap.size + 1 + 1]? = _ from bW2.out))
  have hB3 := hide (show Below (w.heap.size + 1 + 1) W W3 by rw [← hW3]; exact below_setRow (Below.refl _ _).drew (Nat.le_refl _) _)
  have r1 := hide (bW1.out.below hB3.out (by omega))
  have hBW3 := hide (hBW.out.trans (hB3.out.mono (by omega)))
  replace hW3 := hide hW3
  replace hcell := hide hcell
  have c1 : W.cell? ⟨w.heap.size, 1, none⟩ = some (.slice (some ⟨bw, ow, none⟩) B.wanted.length cw) := bW0.out.cell 1
  clear hcw
  go_enter Try.func74, Try.ntmps74
  go_upto_region 2 with fail
  rw [hW.out]
  refine region_tail 5 (by kernel_rfl) (by kernel_rfl) ?_
  simp only [List.take_succ_cons, List.take_zero, List.drop_succ_cons, List.drop_zero]
  iterate 5 still_step
  refine wpStill_nil ?_
  go_upto_region 3 with fail
  clear c1 hrun
  have s0 : W3.cell? ⟨w.heap.size + 1 + 1, 0, none⟩ = some (.int .i64 0) := r2.out.cell 0
  have s1 : W3.cell? ⟨w.heap.size + 1 + 1, 1, none⟩ = some (.int .i64 a) := r2.out.cell 1
  have s2 : W3.cell? ⟨w.heap.size + 1 + 1, 2, none⟩ = some (.int .i64 b) := r2.out.cell 2
  have s3 : W3.cell? ⟨w.heap.size + 1 + 1, 3, none⟩ = some (.int .i64 c) := r2.out.cell 3
  have s4 : W3.cell? ⟨w.heap.size + 1 + 1, 4, none⟩ = some (.int .i64 d) := r2.out.cell 4
  have s5 : W3.cell? ⟨w.heap.size + 1 + 1, 5, none⟩ = some (.int .i64 0) := r2.out.cell 5
  have q0 : W3.cell? ⟨w.heap.size + 1, 0, none⟩ = some (.int .i64 0) := r1.out.cell 0
  have z0 := r1.out.frozen 0
  have q1 : W3.cell? ⟨w.heap.size + 1, 1, none⟩ = some (.int .i64 0) := r1.out.cell 1
  have z1 := r1.out.frozen 1
  have q2 : W3.cell? ⟨w.heap.size + 1, 2, none⟩ = some (.int .i64 0) := r1.out.cell 2
  have z2 := r1.out.frozen 2
  have q3 : W3.cell? ⟨w.heap.size + 1, 3, none⟩ = some (.int .i64 0) := r1.out.cell 3
  have z3 := r1.out.frozen 3
  have q4 : W3.cell? ⟨w.heap.size + 1, 4, none⟩ = some (.int .i64 0) := r1.out.cell 4
  have z4 := r1.out.frozen 4
  have q5 : W3.cell? ⟨w.heap.size + 1, 5, none⟩ = some (.int .i64 0) := r1.out.cell 5
  have z5 := r1.out.frozen 5
  go_wp2
  refine bodyPost_ret (v := .agg #[.int .i64 0, .int .i64 a, .int .i64 b, .int .i64 c, .int .i64 d, .int .i64 0]) ?_ rfl ⟨rfl, ?_⟩
  · have hk := ((((((r1.out.set_ 0 (.int .i64 0)).set_ 1 (.int .i64 a)).set_ 2 (.int .i64 b)).set_ 3 (.int .i64 c)).set_ 4 (.int .i64 d)).set_ 5 (.int .i64 0))
    have k0 := hk.cell 0
    replace k0 : World.cell? _ ⟨w.heap.size + 1, 0, none⟩ = some (.int .i64 0) := k0
    have k1 := hk.cell 1
    replace k1 : World.cell? _ ⟨w.heap.size + 1, 1, none⟩ = some (.int .i64 a) := k1
    have k2 := hk.cell 2
    replace k2 : World.cell? _ ⟨w.heap.size + 1, 2, none⟩ = some (.int .i64 b) := k2
    have k3 := hk.cell 3
    replace k3 : World.cell? _ ⟨w.heap.size + 1, 3, none⟩ = some (.int .i64 c) := k3
    have k4 := hk.cell 4
    replace k4 : World.cell? _ ⟨w.heap.size + 1, 4, none⟩ = some (.int .i64 d) := k4
    have k5 := hk.cell 5
    replace k5 : World.cell? _ ⟨w.heap.size + 1, 5, none⟩ = some (.int .i64 0) := k5
    clear hk
    simp [results, Try.results74, go_sem, k0, k1, k2, k3, k4, k5]
  · iterate 6 (refine Below.setCell ?_ (by simp <;> omega) _)
    exact hBW3.out
end Go.Proofs.Ytnmgnonbgihalaa

/-
  How many papers there are (made by gen_count.py, mkpa.py).
-/
namespace Go.Proofs.Ytnmgnonbgihalaa
open Go.RowKit RG

theorem start_ned {B : Bank} (hB : BankOk B) {a b c d : Int} (hs : start4 B = [a, b, c, d]) : Ned a ∧ Ned b ∧ Ned c ∧ Ned d := by
  have key : ∀ x ∈ start4 B, Ned x := by
    intro x hx
    unfold start4 at hx
    rcases List.mem_append.1 hx with hx | hx
    · obtain ⟨p, hp, rfl⟩ := List.mem_iff_getElem.1 hx
      have h1 := hB.ws p hp
      rw [List.getElem?_eq_getElem hp, Option.getD_some] at h1
      have h2 := leftP_le B 0 p
      have h3 := hB.nq
      unfold Ned
      omega
    · rw [List.mem_replicate] at hx
      rw [hx.2]
      exact ⟨by decide, by decide⟩
  rw [hs] at key
  exact ⟨key a (by simp), key b (by simp), key c (by simp), key d (by simp)⟩
set_option maxRecDepth 100000 in
set_option maxHeartbeats 2000000 in
theorem count_any (Q Wd : Option Addr) (cq cw gw cg gl M : Nat) (B : Bank) (m : Nat) (w : World) (hB : BankOk B) (hV : VwR w Q Wd gw gl B) (hK : KnownM w M B m) (hm : m + capN B.qs.length ≤ 2 ^ 60) :
    Calls Try.prog 50 #[vwV Q Wd cq cw gw cg gl M B] w fun e w' => e = .returned (.int .i64 ((papers B).length : Nat)) ∧ KeptM w.heap.size M w w' ∧ KnownM w' M B (m + capN B.qs.length) := by
  obtain ⟨a, b, c, d, hs4⟩ := four (start4_len hB.nw.2)
  obtain ⟨na, nb, nc, nd⟩ := start_ned hB hs4
  have hnq := hB.nq
  obtain ⟨N, hN⟩ : ∃ z, countB B B.qs.length 0 [a, b, c, d] 0 = z := ⟨_, rfl⟩
  have hN' : (papers B).length = N := by rw [← hN, ← hs4]; rfl
  rw [hN']
  have hSt := hide (fun W (h : VwR W Q Wd gw gl B) => start_any Q Wd cq cw gw cg gl M B a b c d W h.ws hB hs4)
  have hR := hide (fun W m' (h : VwR W Q Wd gw gl B) (h' : KnownM W M B m') (h'' : m' + capN B.qs.length ≤ 2 ^ 60) => behind_all Q Wd cq cw gw cg gl M B hB B.qs.length 0 (Nat.zero_add _) a b c d 0 m' W na nb nc nd (by omega) (by omega) h h' h'')
  rw [hN] at hR
  replace hN := hide hN
  replace hN' := hide hN'
  replace hs4 := hide hs4
  unfold vwV stV at *
  rw [show (((0 : Nat) : Int)) = 0 from rfl] at hR
  obtain ⟨W, hW⟩ : ∃ y, w.alloc (.cells #[.slice Q B.qs.length cq, .slice Wd B.wanted.length cw, .int .i64 B.lo, .int .i64 B.hi, .slice (some ⟨gw, 0, none⟩) B.qs.length cg, .slice (some ⟨gl, 0, none⟩) (B.qs.length + 1) (B.qs.length + 1), .map (some M)] 85) = y := ⟨_, rfl⟩
  have bW0 := hide (show Blk W w.heap.size 85 #[.slice Q B.qs.length cq, .slice Wd B.wanted.length cw, .int .i64 B.lo, .int .i64 B.hi, .slice (some ⟨gw, 0, none⟩) B.qs.length cg, .slice (some ⟨gl, 0, none⟩) (B.qs.length + 1) (B.qs.length + 1), .map (some M)] by rw [← hW]; exact blkNew rfl)
  have hBW := hide (show Below w.heap.size w W by rw [← hW]; exact (Below.refl _ _).alloc (Nat.le_refl _) _)
  replace hW := hide hW
  have hMm := hide (hK.below hBW.out).map
  have hVk := hide (fun W' (h : KeptM W.heap.size M W W') => (hV.below hBW.out).keptM (by omega) hMm.out h)
  have hx0 : w.heap.size < W.heap.size ∧ w.heap.size ≠ M := ⟨bW0.out.lt, blk_nmap hMm.out bW0.out⟩
  have hJr := hide (show ∀ i : Nat, i ≠ 3 → ∀ (f : Nat → Bool) (W' : World), (fun (f : Nat → Bool) (W' : World) => KeptM W.heap.size M W W' ∧ KnownM W' M B (m + (if f 3 = true then capN B.qs.length else 0))) f W' → (fun (f : Nat → Bool) (W' : World) => KeptM W.heap.size M W W' ∧ KnownM W' M B (m + (if f 3 = true then capN B.qs.length else 0))) (fun k => decide (k = i) || f k) W' from fun i h4 f W' h => ⟨h.1, by simpa [Ne.symm h4] using h.2⟩)
  have hJb := hide (show ∀ i : Nat, i ≠ 3 → ∀ (f : Nat → Bool) (W' W'' : World), (fun (f : Nat → Bool) (W' : World) => KeptM W.heap.size M W W' ∧ KnownM W' M B (m + (if f 3 = true then capN B.qs.length else 0))) f W' → Below W'.heap.size W' W'' → (fun (f : Nat → Bool) (W' : World) => KeptM W.heap.size M W W' ∧ KnownM W' M B (m + (if f 3 = true then capN B.qs.length else 0))) (fun k => decide (k = i) || f k) W'' from fun i h4 f W' W'' h hb => ⟨KeptX.trans h.1 (KeptM.of_below (hb.mono h.1.size)), by simpa [Ne.symm h4] using h.2.below hb⟩)
  have hJ0 := hide (show (fun (f : Nat → Bool) (W' : World) => KeptM W.heap.size M W W' ∧ KnownM W' M B (m + (if f 3 = true then capN B.qs.length else 0))) (fun _ => false) W.drew from ⟨(KeptX.refl _ _).drew, by simpa using (hK.below hBW.out).blk (w' := W.drew) rfl⟩)
  clear hV hK
  go_enter Try.func50, Try.ntmps50
  go_upto_region 1 with fail
  rw [hW.out]
  refine region_cst [.agg #[.slice Q B.qs.length cq, .slice Wd B.wanted.length cw, .int .i64 B.lo, .int .i64 B.hi, .slice (some ⟨gw, 0, none⟩) B.qs.length cg, .slice (some ⟨gl, 0, none⟩) (B.qs.length + 1) (B.qs.length + 1), .map (some M)], .agg #[.slice Q B.qs.length cq, .slice Wd B.wanted.length cw, .int .i64 B.lo, .int .i64 B.hi, .slice (some ⟨gw, 0, none⟩) B.qs.length cg, .slice (some ⟨gl, 0, none⟩) (B.qs.length + 1) (B.qs.length + 1), .map (some M)], .agg #[.int .i64 0, .int .i64 a, .int .i64 b, .int .i64 c, .int .i64 d, .int .i64 0], .int .i64 (N : Int), .int .i64 (N : Int)] (fun (f : Nat → Bool) (W' : World) => KeptM W.heap.size M W W' ∧ KnownM W' M B (m + (if f 3 = true then capN B.qs.length else 0))) (by kernel_rfl) (by kernel_rfl) (hJ0.out) ?_ ?_
  · refine ⟨?_, ?_, ?_, ?_, ?_, trivial⟩
    · refine ⟨by kernel_rfl, ?_⟩
      intro Tf f y W4 Kq Qq hF hJ4 hf hd hK
      have t1 := hF.old 1 (.pointer (some ⟨w.heap.size, 0, none⟩)) (by kernel_rfl) (by kernel_rfl)
      clear hF hd
      have bx := KeptX.blk hJ4.1 hx0 bW0.out
      have c0 : W4.cell? ⟨w.heap.size, 0, none⟩ = some (.slice Q B.qs.length cq) := bx.cell 0
      have c1 : W4.cell? ⟨w.heap.size, 1, none⟩ = some (.slice Wd B.wanted.length cw) := bx.cell 1
      have c2 : W4.cell? ⟨w.heap.size, 2, none⟩ = some (.int .i64 B.lo) := bx.cell 2
      have c3 : W4.cell? ⟨w.heap.size, 3, none⟩ = some (.int .i64 B.hi) := bx.cell 3
      have c4 : W4.cell? ⟨w.heap.size, 4, none⟩ = some (.slice (some ⟨gw, 0, none⟩) B.qs.length cg) := bx.cell 4
      have c5 : W4.cell? ⟨w.heap.size, 5, none⟩ = some (.slice (some ⟨gl, 0, none⟩) (B.qs.length + 1) (B.qs.length + 1)) := bx.cell 5
      have c6 : W4.cell? ⟨w.heap.size, 6, none⟩ = some (.map (some M)) := bx.cell 6
      clear bx
      go_simp
      exact hK _ (hJr.out 0 (by decide) _ _ hJ4)
    · refine ⟨by kernel_rfl, ?_⟩
      intro Tf f y W4 Kq Qq hF hJ4 hf hd hK
      have t1 := hF.old 1 (.pointer (some ⟨w.heap.size, 0, none⟩)) (by kernel_rfl) (by kernel_rfl)
      clear hF hd
      have bx := KeptX.blk hJ4.1 hx0 bW0.out
      have c0 : W4.cell? ⟨w.heap.size, 0, none⟩ = some (.slice Q B.qs.length cq) := bx.cell 0
      have c1 : W4.cell? ⟨w.heap.size, 1, none⟩ = some (.slice Wd B.wanted.length cw) := bx.cell 1
      have c2 : W4.cell? ⟨w.heap.size, 2, none⟩ = some (.int .i64 B.lo) := bx.cell 2
      have c3 : W4.cell? ⟨w.heap.size, 3, none⟩ = some (.int .i64 B.hi) := bx.cell 3
      have c4 : W4.cell? ⟨w.heap.size, 4, none⟩ = some (.slice (some ⟨gw, 0, none⟩) B.qs.length cg) := bx.cell 4
      have c5 : W4.cell? ⟨w.heap.size, 5, none⟩ = some (.slice (some ⟨gl, 0, none⟩) (B.qs.length + 1) (B.qs.length + 1)) := bx.cell 5
      have c6 : W4.cell? ⟨w.heap.size, 6, none⟩ = some (.map (some M)) := bx.cell 6
      clear bx
      go_simp
      exact hK _ (hJr.out 1 (by decide) _ _ hJ4)
    · refine ⟨by kernel_rfl, ?_⟩
      intro Tf f y W4 Kq Qq hF hJ4 hf hd hK
      have p1 : y 1 = .agg #[.slice Q B.qs.length cq, .slice Wd B.wanted.length cw, .int .i64 B.lo, .int .i64 B.hi, .slice (some ⟨gw, 0, none⟩) B.qs.length cg, .slice (some ⟨gl, 0, none⟩) (B.qs.length + 1) (B.qs.length + 1), .map (some M)] := (hd 1 (by kernel_rfl)).2 _ rfl
      have t4 := hF.get 1 4 (by kernel_rfl)
      rw [p1] at t4
      have hs := hSt.out W4 (hVk.out W4 hJ4.1)
      clear hF hd
      go_simp
      refine hs.mono ?_
      rintro e w7 ⟨rfl, hb7⟩
      exact hK _ (hJb.out 2 (by decide) _ _ _ hJ4 hb7)
    · refine ⟨by kernel_rfl, ?_⟩
      intro Tf f y W4 Kq Qq hF hJ4 hf hd hK
      have p0 : y 0 = .agg #[.slice Q B.qs.length cq, .slice Wd B.wanted.length cw, .int .i64 B.lo, .int .i64 B.hi, .slice (some ⟨gw, 0, none⟩) B.qs.length cg, .slice (some ⟨gl, 0, none⟩) (B.qs.length + 1) (B.qs.length + 1), .map (some M)] := (hd 0 (by kernel_rfl)).2 _ rfl
      have p2 : y 2 = .agg #[.int .i64 0, .int .i64 a, .int .i64 b, .int .i64 c, .int .i64 d, .int .i64 0] := (hd 2 (by kernel_rfl)).2 _ rfl
      have t3 := hF.get 0 3 (by kernel_rfl)
      rw [p0] at t3
      have t5 := hF.get 2 5 (by kernel_rfl)
      rw [p2] at t5
      have hs := hR.out W4 _ (hVk.out W4 hJ4.1) hJ4.2 (by rw [hf]; simp <;> omega)
      clear hF hd
      go_simp
      refine hs.mono ?_
      rintro e w7 ⟨rfl, h8, h9⟩
      refine hK _ ⟨KeptX.trans hJ4.1 (KeptM.mono h8 hJ4.1.size), h9.more ?_⟩
      simp [hf] <;> omega
    · refine ⟨by kernel_rfl, ?_⟩
      intro Tf f y W4 Kq Qq hF hJ4 hf hd hK
      have p3 : y 3 = .int .i64 (N : Int) := (hd 3 (by kernel_rfl)).2 _ rfl
      have t6 := hF.get 3 6 (by kernel_rfl)
      rw [p3] at t6
      clear hF hd
      go_simp
      exact hK _ (hJr.out 4 (by decide) _ _ hJ4)
  intro f y W8 hf hJ hE
  have e4 : y 4 = .int .i64 (N : Int) := hE 4 _ (by decide) rfl
  clear hE
  simp only [putAll, Act.put]
  simp only [List.setIfInBounds_toArray, List.set_cons_succ, List.set_cons_zero]
  rw [e4]
  have hK8 : KnownM W8 M B (m + capN B.qs.length) := by have := hJ.2; simpa [hf 3 (by decide)] using this
  have hk8 := hide hJ.1
  go_wp2
  go_ret
  exact ⟨rfl, (KeptM.of_below hBW.out).trans (KeptM.mono hk8.out hBW.out.size), hK8⟩
end Go.Proofs.Ytnmgnonbgihalaa
