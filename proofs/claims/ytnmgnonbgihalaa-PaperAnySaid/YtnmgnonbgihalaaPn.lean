import Derived.Test.YtnmgnonbgihalaaPm
/-
  The number of a paper (made by gen_num.py, mkpa.py).
-/
namespace Go.Proofs.Ytnmgnonbgihalaa
open Go.RowKit RG

set_option maxRecDepth 100000 in
set_option maxHeartbeats 1000000 in
theorem number_any (Q Wd : Option Addr) (cq cw gw cg gl M : Nat) (B : Bank) (A : Option Addr) (cp m : Nat) (q0 : List Nat) (w : World) (hB : BankOk B) (hV : VwR w Q Wd gw gl B) (hK : KnownM w M B m) (hm : m + 2 ^ 22 ≤ 2 ^ 60) (hX : RdInts w A q0.length (ints q0)) (hq0 : q0 ∈ papers B) :
    Calls Try.prog 56 #[vwV Q Wd cq cw gw cg gl M B, .slice A q0.length cp] w fun e w' => e = .returned (.int .i64 (idxB B B.qs.length 0 (start4 B) 0 q0 : Nat)) ∧ KeptM w.heap.size M w w' ∧ KnownM w' M B (m + 2 ^ 22) := by
  obtain ⟨a, b, c, d, hs4⟩ := four (start4_len hB.nw.2)
  obtain ⟨na, nb, nc, nd⟩ := start_ned hB hs4
  have hnq := hB.nq
  have hql : q0.length ≤ 16 := by
    have h1 := (mem_papersB (part4 hB) (part0 hB) B.qs.length 0 (start4 B) 0 q0 (Nat.zero_add _) (start4_len hB.nw.2)).1 hq0
    have := sub_len h1
    omega
  unfold papers at hq0
  rw [hs4] at hq0 ⊢
  have htot := idx_lt (part4 hB) (part0 hB) (Nat.zero_add _) rfl hq0
  have hpw0 := countB_pow B B.qs.length 0 [a, b, c, d] 0
  have hpw1 : 2 ^ B.qs.length ≤ 2 ^ 16 := Nat.pow_le_pow_right (by decide) (by omega)
  obtain ⟨tot, htt⟩ : ∃ z, idxB B B.qs.length 0 [a, b, c, d] 0 q0 = z := ⟨_, rfl⟩
  rw [htt] at htot ⊢
  have htl : tot < 65536 := by omega
  clear htot hpw0 hpw1
  have hSt := hide (fun W (h : VwR W Q Wd gw gl B) => start_any Q Wd cq cw gw cg gl M B a b c d W h.ws hB hs4)
  have hWi := hide (fun (k : Nat) (a b c d a' b' c' d' l : Int) W (h : VwR W Q Wd gw gl B) (hk : k < B.qs.length) (ha : Small a) (hb : Small b) (hc : Small c) (hd : Small d) (hl : Small l) (hdec : dec [a, b, c, d] (partAt B k) = [a', b', c', d']) => with_any Q Wd cq cw gw cg gl M B k a b c d a' b' c' d' l W h hB hk ha hb hc hd hl hdec)
  have hWo := hide (fun (k a b c d l : Int) W (hk : Small k) => without_any k a b c d l W hk)
  have hBe := hide (fun (r k : Nat) (h : k + r = B.qs.length) (a b c d l : Int) (m' : Nat) (W : World) (ha : Ned a) (hb : Ned b) (hc : Ned c) (hd : Ned d) (h0 : 0 ≤ l) (h1 : l ≤ 1000 * k) (hv : VwR W Q Wd gw gl B) (hk : KnownM W M B m') (hm' : m' + capN r ≤ 2 ^ 60) => behind_all Q Wd cq cw gw cg gl M B hB r k h a b c d l m' W ha hb hc hd h0 h1 hv hk hm')
  unfold vwV stV at *
  obtain ⟨W, hW⟩ : ∃ y, w.alloc (.cells #[.slice Q B.qs.length cq, .slice Wd B.wanted.length cw, .int .i64 B.lo, .int .i64 B.hi, .slice (some ⟨gw, 0, none⟩) B.qs.length cg, .slice (some ⟨gl, 0, none⟩) (B.qs.length + 1) (B.qs.length + 1), .map (some M)] 85) = y := ⟨_, rfl⟩
  have bW0 := hide (show Blk W w.heap.size 85 #[.slice Q B.qs.length cq, .slice Wd B.wanted.length cw, .int .i64 B.lo, .int .i64 B.hi, .slice (some ⟨gw, 0, none⟩) B.qs.length cg, .slice (some ⟨gl, 0, none⟩) (B.qs.length + 1) (B.qs.length + 1), .map (some M)] by rw [← hW]; exact blkNew rfl)
  have hBW := hide (show Below w.heap.size w W by rw [← hW]; exact (Below.refl _ _).alloc (Nat.le_refl _) _)
  replace hW := hide hW
  have hMm := hide (hK.below hBW.out).map
  have hvm : w.heap.size ≠ M := blk_nmap hMm.out bW0.out
  have hWs : W.heap.size = w.heap.size + 1 := by rw [← hW.out]; simp
  have hVk := hide (fun W' (h : KeptM W.heap.size M W W') => (hV.below hBW.out).keptM (by omega) hMm.out h)
  have hXk := hide (fun W' (h : KeptM W.heap.size M W W') => RdInts.keptM (hX.below hBW.out) hMm.out h)
  have hK0 := hide (hK.below hBW.out)
  have hp22 : 2 ^ 22 = 65536 * 64 := by decide
  clear hV hK hX
  have c0 : W.cell? ⟨w.heap.size, 0, none⟩ = some (.slice Q B.qs.length cq) := bW0.out.cell 0
  have c1 : W.cell? ⟨w.heap.size, 1, none⟩ = some (.slice Wd B.wanted.length cw) := bW0.out.cell 1
  have c2 : W.cell? ⟨w.heap.size, 2, none⟩ = some (.int .i64 B.lo) := bW0.out.cell 2
  have c3 : W.cell? ⟨w.heap.size, 3, none⟩ = some (.int .i64 B.hi) := bW0.out.cell 3
  have c4 : W.cell? ⟨w.heap.size, 4, none⟩ = some (.slice (some ⟨gw, 0, none⟩) B.qs.length cg) := bW0.out.cell 4
  have c5 : W.cell? ⟨w.heap.size, 5, none⟩ = some (.slice (some ⟨gl, 0, none⟩) (B.qs.length + 1) (B.qs.length + 1)) := bW0.out.cell 5
  have c6 : W.cell? ⟨w.heap.size, 6, none⟩ = some (.map (some M)) := bW0.out.cell 6
  replace hs4 := hide hs4
  replace hWs := hide hWs
  replace hq0 := hide hq0
  replace htt := hide htt
  go_enter Try.func56, Try.ntmps56
  go_upto_region 1 with fail
  rw [hW.out]
  go_wp2_with fail
  refine (hSt.out W (hVk.out W (KeptX.refl _ _))).mono ?_
  rintro e w1 ⟨rfl, hb1⟩
  have hbh := hide hb1
  clear hb1 c0 c1 c2 c3 c4 c5 c6 hSt
  obtain ⟨W2, hW2⟩ : ∃ y, w1.alloc (.cells #[.int .i64 0, .int .i64 a, .int .i64 b, .int .i64 c, .int .i64 d, .int .i64 0] 113) = y := ⟨_, rfl⟩
  have bW20 := hide (show Blk W2 w1.heap.size 113 #[.int .i64 0, .int .i64 a, .int .i64 b, .int .i64 c, .int .i64 d, .int .i64 0] by rw [← hW2]; exact blkNew rfl)
  have hBW2 := hide (show Below w1.heap.size w1 W2 by rw [← hW2]; exact (Below.refl _ _).alloc (Nat.le_refl _) _)
  replace hW2 := hide hW2
  have hk2 := hide (show KeptM W.heap.size M W W2 from KeptM.of_below (hbh.out.trans (hBW2.out.mono hbh.out.size)))
  have hK2 := hide (hK0.out.below (hbh.out.trans (hBW2.out.mono hbh.out.size)))
  have hgs := hide (show W.heap.size ≤ w1.heap.size from hbh.out.size)
  have hgm := hide (show w1.heap.size ≠ M from blk_nmap hK2.out.map bW20.out)
  have hnn := hide (show Ned a ∧ Ned b ∧ Ned c ∧ Ned d from ⟨na, nb, nc, nd⟩)
  go_upto_region 3 with fail
  rw [hW2.out]
  go_wp2
  go_loopg [5, 8, 13] q0.length (fun g s5 _ s13 wr => ∃ j : Nat, j ≤ q0.length ∧ q0.length ≤ g + j ∧ s13 = .int .i64 (j : Int) ∧ ∃ r k num : Nat, ∃ a b c d l : Int, k + r = B.qs.length ∧ s5 = .int .i64 (num : Int) ∧ Hid (Ned a ∧ Ned b ∧ Ned c ∧ Ned d) ∧ 0 ≤ l ∧ l ≤ 1000 * k ∧ Hid (Blk wr w1.heap.size 113 #[.int .i64 k, .int .i64 a, .int .i64 b, .int .i64 c, .int .i64 d, .int .i64 l]) ∧ Hid (q0.drop j ∈ papersB B r k [a, b, c, d] l) ∧ Hid (num + idxB B r k [a, b, c, d] l (q0.drop j) = tot) ∧ Hid (KeptM W.heap.size M W wr) ∧ Hid (KnownM wr M B (m + 65536 * k)))
  case atStart => exact ⟨0, Nat.zero_le _, by omega, rfl, B.qs.length, 0, 0, a, b, c, d, 0, Nat.zero_add _, rfl, hnn.out, by omega, by omega, bW20.out, hq0.out, by unfold Hid; rw [Nat.zero_add]; exact htt.out, hk2.out, hK2.out⟩
  case round =>
    clear hnn hq0 htt na nb nc nd bW20 hBW2 hk2 hK2 hK0
    obtain ⟨j, hj, hg, rfl, r, k, num, a2, b2, c2, d2, l, hkr, rfl, hnd, hl0, hl1, hks, hmem, hsum, hkw, hKn⟩ := hrel
    by_cases hlt : j < q0.length
    · have hltz : (j : Int) < (q0.length : Int) := by omega
      have hj0 : (0 : Int) ≤ (j : Int) := by omega
      have hil : (ints q0).length = q0.length := by simp [ints]
      obtain ⟨bx, ox, rfl, hbx, hcx⟩ := (hXk.out wr hkw.out).2 (by omega)
      have x0 := hcx j hlt
      obtain ⟨x, tl, hdx, hgx⟩ : ∃ x tl, q0.drop j = x :: tl ∧ (ints q0)[j]?.getD 0 = (x : Int) ∧ q0.drop (j + 1) = tl := by
        refine ⟨q0[j], q0.drop (j + 1), List.drop_eq_getElem_cons hlt, ?_, rfl⟩
        simp [ints, List.getElem?_eq_getElem hlt]
      obtain ⟨hgx, htl2⟩ := hgx
      rw [hgx] at x0
      rw [hdx] at hmem hsum
      clear hcx hgx
      have hxr : k ≤ x ∧ x < B.qs.length := by
        have := ((mem_papersB (part4 hB) (part0 hB) r k _ l _ hkr rfl).1 hmem.out).rng x (List.mem_cons_self ..)
        omega
      generalize wr = wo at *
      have hkw0 := hide hkw.out
      go_wp2
      clear x0
      go_loopg [5] (x + 1) (fun g s5 wr => ∃ r k num : Nat, ∃ a b c d l : Int, k + r = B.qs.length ∧ s5 = .int .i64 (num : Int) ∧ Hid (Ned a ∧ Ned b ∧ Ned c ∧ Ned d) ∧ 0 ≤ l ∧ l ≤ 1000 * k ∧ Hid (Blk wr w1.heap.size 113 #[.int .i64 k, .int .i64 a, .int .i64 b, .int .i64 c, .int .i64 d, .int .i64 l]) ∧ Hid (x :: tl ∈ papersB B r k [a, b, c, d] l) ∧ Hid (num + idxB B r k [a, b, c, d] l (x :: tl) = tot) ∧ Hid (KeptM W.heap.size M W wr) ∧ Hid (KnownM wr M B (m + 65536 * k)) ∧ x + 1 ≤ g + k ∧ k ≤ x)
      case atStart => exact ⟨r, k, num, a2, b2, c2, d2, l, hkr, rfl, hnd.out, hl0, hl1, hks.out, hmem.out, hsum.out, hkw.out, hKn.out, by omega, by omega⟩
      case round =>
        clear hnd hks hmem hsum hkw hKn hkr hl0 hl1 hxr
        obtain ⟨r, k, num, a2, b2, c2, d2, l, hkr, rfl, hnd, hl0, hl1, hks, hmem, hsum, hkw, hKn, hgk, hkx⟩ := hrel
        generalize wr = wi at *
        have sm := hnd.out
        have sa : Small a2 := sm.1.small
        have sb : Small b2 := sm.2.1.small
        have sc : Small c2 := sm.2.2.1.small
        have sd : Small d2 := sm.2.2.2.small
        have sl : Small l := by unfold Small; omega
        have hxq : x < B.qs.length := by
          have := ((mem_papersB (part4 hB) (part0 hB) r k _ l _ hkr rfl).1 hmem.out).rng x (List.mem_cons_self ..)
          omega
        have skk : Small (k : Int) := small_nat (by omega)
        have hbv := hide (KeptX.blk hkw.out ⟨bW0.out.lt, hvm⟩ bW0.out)
        have s0 : wi.cell? ⟨w1.heap.size, 0, none⟩ = some (.int .i64 k) := hks.out.cell 0
        by_cases hkl : k < x
        · have hklz : decide ((k : Int) < (x : Int)) = true := decide_eq_true (by omega)
          have hkln : decide (k < x) = true := decide_eq_true hkl
          obtain ⟨-, r', rfl, hz, hcan, hmem2, hidx⟩ := idx_skip (part4 hB) (part0 hB) hkr rfl hmem.out (by omega)
          obtain ⟨a', b', c', d', hdec, n1, n2, n3, n4⟩ := dec_ned hcan hnq.2 (part4 hB k)
          have hwk := wAt_bd hB k
          rw [hdec] at hidx
          have hcw := hide (fun W (h : VwR W Q Wd gw gl B) => hWi.out k a2 b2 c2 d2 a' b' c' d' l W h (by omega) sa sb sc sd sl hdec)
          generalize wAt B k = wk at *
          have e1 : ((k + 1 : Nat) : Int) = (k : Int) + 1 := by omega
          have hcn := capN_pow r'
          have hpw : 2 ^ r' ≤ 2 ^ 16 := Nat.pow_le_pow_right (by decide) (by omega)
          have hbe := hide (fun W m' (hv : VwR W Q Wd gw gl B) (hk : KnownM W M B m') (hmm : m' + capN r' ≤ 2 ^ 60) => hBe.out r' (k + 1) (by omega) a' b' c' d' (l + wk) m' W n1 n2 n3 n4 (by omega) (by omega) hv hk hmm)
          rw [e1] at hbe
          obtain ⟨N, hN⟩ : ∃ z, countB B r' (k + 1) [a', b', c', d'] (l + wk) = z := ⟨_, rfl⟩
          rw [hN] at hbe hidx
          have hsum2 := hsum.out
          rw [hidx, ← Nat.add_assoc] at hsum2
          have hnb : num + N < 65536 := by omega
          have hMr := hide hKn.out.map
          have hx0 : w.heap.size < wi.heap.size ∧ w.heap.size ≠ M := ⟨hbv.out.lt, hvm⟩
          have hx1 : w1.heap.size < wi.heap.size ∧ w1.heap.size ≠ M := ⟨hks.out.lt, hgm.out⟩
          have hJr := hide (show ∀ i : Nat, i ≠ 5 → ∀ (f : Nat → Bool) (W' : World), (fun (f : Nat → Bool) (W' : World) => KeptM wi.heap.size M wi W' ∧ KnownM W' M B (m + 65536 * k + (if f 5 = true then capN r' else 0))) f W' → (fun (f : Nat → Bool) (W' : World) => KeptM wi.heap.size M wi W' ∧ KnownM W' M B (m + 65536 * k + (if f 5 = true then capN r' else 0))) (fun k => decide (k = i) || f k) W' from fun i h4 f W' h => ⟨h.1, by simpa [Ne.symm h4] using h.2⟩)
          have hJb := hide (show ∀ i : Nat, i ≠ 5 → ∀ (f : Nat → Bool) (W' W'' : World), (fun (f : Nat → Bool) (W' : World) => KeptM wi.heap.size M wi W' ∧ KnownM W' M B (m + 65536 * k + (if f 5 = true then capN r' else 0))) f W' → Below W'.heap.size W' W'' → (fun (f : Nat → Bool) (W' : World) => KeptM wi.heap.size M wi W' ∧ KnownM W' M B (m + 65536 * k + (if f 5 = true then capN r' else 0))) (fun k => decide (k = i) || f k) W'' from fun i h4 f W' W'' h hb => ⟨KeptX.trans h.1 (KeptM.of_below (hb.mono h.1.size)), by simpa [Ne.symm h4] using h.2.below hb⟩)
          have hJ0 := hide (show (fun (f : Nat → Bool) (W' : World) => KeptM wi.heap.size M wi W' ∧ KnownM W' M B (m + 65536 * k + (if f 5 = true then capN r' else 0))) (fun _ => false) wi.drew from ⟨(KeptX.refl _ _).drew, by simpa using hKn.out.blk (w' := wi.drew) rfl⟩)
          have u9 := hide (show IntKind.i64.wrap ((num : Int) + (N : Int)) = ((num + N : Nat) : Int) by rw [IntKind.wrap_i64]; omega)
          have hcap : m + 65536 * k + capN r' ≤ 2 ^ 60 := by omega
          have hcb : capN r' ≤ 65536 := by
            have h1 : capN r' + 1 ≤ 2 ^ 16 := by rw [hcn]; exact hpw
            exact Nat.le_trans (Nat.le_succ _) h1
          have hle := hide (show m + 65536 * k + capN r' ≤ m + 65536 * (k + 1) by rw [Nat.mul_succ, ← Nat.add_assoc]; exact Nat.add_le_add_left hcb _)
          clear hcb
          replace hz := hide hz
          replace hmem2 := hide hmem2
          replace hsum2 := hide hsum2
          replace hN := hide hN
          clear hidx hdec hcan hmem hsum n1 n2 n3 n4
          go_wp2
          clear s0
          refine region_cso [.int .i64 (num : Int), .agg #[.slice Q B.qs.length cq, .slice Wd B.wanted.length cw, .int .i64 B.lo, .int .i64 B.hi, .slice (some ⟨gw, 0, none⟩) B.qs.length cg, .slice (some ⟨gl, 0, none⟩) (B.qs.length + 1) (B.qs.length + 1), .map (some M)], .agg #[.slice Q B.qs.length cq, .slice Wd B.wanted.length cw, .int .i64 B.lo, .int .i64 B.hi, .slice (some ⟨gw, 0, none⟩) B.qs.length cg, .slice (some ⟨gl, 0, none⟩) (B.qs.length + 1) (B.qs.length + 1), .map (some M)], .agg #[.int .i64 k, .int .i64 a2, .int .i64 b2, .int .i64 c2, .int .i64 d2, .int .i64 l], .agg #[.int .i64 ((k : Int) + 1), .int .i64 a', .int .i64 b', .int .i64 c', .int .i64 d', .int .i64 (l + wk)], .int .i64 (N : Int), .int .i64 ((num + N : Nat) : Int), .int .i64 ((num + N : Nat) : Int)] (fun (f : Nat → Bool) (W' : World) => KeptM wi.heap.size M wi W' ∧ KnownM W' M B (m + 65536 * k + (if f 5 = true then capN r' else 0))) (by kernel_rfl) (by kernel_rfl) (hJ0.out) ?_ ?_
          · refine ⟨?_, ?_, ?_, ?_, ?_, ?_, ?_, ?_, trivial⟩
            · refine ⟨by kernel_rfl, ?_⟩
              intro Tf f y W4 Kq Qq hF hJ4 hf hst hcl hd hK
              have g7 : f 7 = false := by
                cases h7 : f 7 with
                | false => rfl
                | true =>
                  have h6 := hcl 7 _ h7 rfl 6 (by kernel_rfl)
                  have h0 := hcl 6 _ h6 rfl 0 (by kernel_rfl)
                  rw [hf] at h0
                  cases h0
              have o5 : y 7 = .int .i64 (num : Int) := (hst 7 g7).trans (by kernel_rfl)
              have t5 := hF.get 7 5 (by kernel_rfl)
              rw [o5] at t5
              clear hF hd
              clear hst hcl
              go_simp
              exact hK _ (hJr.out 0 (by decide) _ _ hJ4)
            · refine ⟨by kernel_rfl, ?_⟩
              intro Tf f y W4 Kq Qq hF hJ4 hf hst hcl hd hK
              have t2 := hF.old 2 (.pointer (some ⟨w.heap.size, 0, none⟩)) (by kernel_rfl) (by kernel_rfl)
              clear hF hd
              clear hst hcl
              have bx := KeptX.blk hJ4.1 hx0 hbv.out
              have vc0 : W4.cell? ⟨w.heap.size, 0, none⟩ = some (.slice Q B.qs.length cq) := bx.cell 0
              have vc1 : W4.cell? ⟨w.heap.size, 1, none⟩ = some (.slice Wd B.wanted.length cw) := bx.cell 1
              have vc2 : W4.cell? ⟨w.heap.size, 2, none⟩ = some (.int .i64 B.lo) := bx.cell 2
              have vc3 : W4.cell? ⟨w.heap.size, 3, none⟩ = some (.int .i64 B.hi) := bx.cell 3
              have vc4 : W4.cell? ⟨w.heap.size, 4, none⟩ = some (.slice (some ⟨gw, 0, none⟩) B.qs.length cg) := bx.cell 4
              have vc5 : W4.cell? ⟨w.heap.size, 5, none⟩ = some (.slice (some ⟨gl, 0, none⟩) (B.qs.length + 1) (B.qs.length + 1)) := bx.cell 5
              have vc6 : W4.cell? ⟨w.heap.size, 6, none⟩ = some (.map (some M)) := bx.cell 6
              clear bx
              go_simp
              exact hK _ (hJr.out 1 (by decide) _ _ hJ4)
            · refine ⟨by kernel_rfl, ?_⟩
              intro Tf f y W4 Kq Qq hF hJ4 hf hst hcl hd hK
              have t2 := hF.old 2 (.pointer (some ⟨w.heap.size, 0, none⟩)) (by kernel_rfl) (by kernel_rfl)
              clear hF hd
              clear hst hcl
              have bx := KeptX.blk hJ4.1 hx0 hbv.out
              have vc0 : W4.cell? ⟨w.heap.size, 0, none⟩ = some (.slice Q B.qs.length cq) := bx.cell 0
              have vc1 : W4.cell? ⟨w.heap.size, 1, none⟩ = some (.slice Wd B.wanted.length cw) := bx.cell 1
              have vc2 : W4.cell? ⟨w.heap.size, 2, none⟩ = some (.int .i64 B.lo) := bx.cell 2
              have vc3 : W4.cell? ⟨w.heap.size, 3, none⟩ = some (.int .i64 B.hi) := bx.cell 3
              have vc4 : W4.cell? ⟨w.heap.size, 4, none⟩ = some (.slice (some ⟨gw, 0, none⟩) B.qs.length cg) := bx.cell 4
              have vc5 : W4.cell? ⟨w.heap.size, 5, none⟩ = some (.slice (some ⟨gl, 0, none⟩) (B.qs.length + 1) (B.qs.length + 1)) := bx.cell 5
              have vc6 : W4.cell? ⟨w.heap.size, 6, none⟩ = some (.map (some M)) := bx.cell 6
              clear bx
              go_simp
              exact hK _ (hJr.out 2 (by decide) _ _ hJ4)
            · refine ⟨by kernel_rfl, ?_⟩
              intro Tf f y W4 Kq Qq hF hJ4 hf hst hcl hd hK
              have t6 := hF.old 6 (.pointer (some ⟨w1.heap.size, 0, none⟩)) (by kernel_rfl) (by kernel_rfl)
              clear hF hd
              clear hst hcl
              have bx := KeptX.blk hJ4.1 hx1 hks.out
              have s0 : W4.cell? ⟨w1.heap.size, 0, none⟩ = some (.int .i64 k) := bx.cell 0
              have s1 : W4.cell? ⟨w1.heap.size, 1, none⟩ = some (.int .i64 a2) := bx.cell 1
              have s2 : W4.cell? ⟨w1.heap.size, 2, none⟩ = some (.int .i64 b2) := bx.cell 2
              have s3 : W4.cell? ⟨w1.heap.size, 3, none⟩ = some (.int .i64 c2) := bx.cell 3
              have s4 : W4.cell? ⟨w1.heap.size, 4, none⟩ = some (.int .i64 d2) := bx.cell 4
              have s5 : W4.cell? ⟨w1.heap.size, 5, none⟩ = some (.int .i64 l) := bx.cell 5
              clear bx
              go_simp
              exact hK _ (hJr.out 3 (by decide) _ _ hJ4)
            · refine ⟨by kernel_rfl, ?_⟩
              intro Tf f y W4 Kq Qq hF hJ4 hf hst hcl hd hK
              have p2 : y 2 = .agg #[.slice Q B.qs.length cq, .slice Wd B.wanted.length cw, .int .i64 B.lo, .int .i64 B.hi, .slice (some ⟨gw, 0, none⟩) B.qs.length cg, .slice (some ⟨gl, 0, none⟩) (B.qs.length + 1) (B.qs.length + 1), .map (some M)] := (hd 2 (by kernel_rfl)).2 _ rfl
              have p3 : y 3 = .agg #[.int .i64 k, .int .i64 a2, .int .i64 b2, .int .i64 c2, .int .i64 d2, .int .i64 l] := (hd 3 (by kernel_rfl)).2 _ rfl
              have t23 := hF.get 2 23 (by kernel_rfl)
              rw [p2] at t23
              have t24 := hF.get 3 24 (by kernel_rfl)
              rw [p3] at t24
              have hs := hcw.out W4 (hVk.out W4 (hkw.out.trans (KeptM.mono hJ4.1 hkw.out.size)))
              clear hF hd
              clear hst hcl
              go_simp
              refine hs.mono ?_
              rintro e w7 ⟨rfl, hb7⟩
              exact hK _ (hJb.out 4 (by decide) _ _ _ hJ4 hb7)
            · refine ⟨by kernel_rfl, ?_⟩
              intro Tf f y W4 Kq Qq hF hJ4 hf hst hcl hd hK
              have p1 : y 1 = .agg #[.slice Q B.qs.length cq, .slice Wd B.wanted.length cw, .int .i64 B.lo, .int .i64 B.hi, .slice (some ⟨gw, 0, none⟩) B.qs.length cg, .slice (some ⟨gl, 0, none⟩) (B.qs.length + 1) (B.qs.length + 1), .map (some M)] := (hd 1 (by kernel_rfl)).2 _ rfl
              have p4 : y 4 = .agg #[.int .i64 ((k : Int) + 1), .int .i64 a', .int .i64 b', .int .i64 c', .int .i64 d', .int .i64 (l + wk)] := (hd 4 (by kernel_rfl)).2 _ rfl
              have t22 := hF.get 1 22 (by kernel_rfl)
              rw [p1] at t22
              have t25 := hF.get 4 25 (by kernel_rfl)
              rw [p4] at t25
              have hs := hbe.out W4 _ (hVk.out W4 (hkw.out.trans (KeptM.mono hJ4.1 hkw.out.size))) hJ4.2 (by rw [hf]; simp <;> omega)
              clear hF hd
              clear hst hcl
              go_simp
              refine hs.mono ?_
              rintro e w7 ⟨rfl, h8, h9⟩
              refine hK _ ⟨KeptX.trans hJ4.1 (KeptM.mono h8 hJ4.1.size), h9.more ?_⟩
              simp [hf] <;> omega
            · refine ⟨by kernel_rfl, ?_⟩
              intro Tf f y W4 Kq Qq hF hJ4 hf hst hcl hd hK
              have p0 : y 0 = .int .i64 (num : Int) := (hd 0 (by kernel_rfl)).2 _ rfl
              have p5 : y 5 = .int .i64 (N : Int) := (hd 5 (by kernel_rfl)).2 _ rfl
              have t21 := hF.get 0 21 (by kernel_rfl)
              rw [p0] at t21
              have t26 := hF.get 5 26 (by kernel_rfl)
              rw [p5] at t26
              clear hF hd
              clear hst hcl
              have u9 := u9.out
              go_simp
              exact hK _ (hJr.out 6 (by decide) _ _ hJ4)
            · refine ⟨by kernel_rfl, ?_⟩
              intro Tf f y W4 Kq Qq hF hJ4 hf hst hcl hd hK
              have p6 : y 6 = .int .i64 ((num + N : Nat) : Int) := (hd 6 (by kernel_rfl)).2 _ rfl
              have t27 := hF.get 6 27 (by kernel_rfl)
              rw [p6] at t27
              clear hF hd
              clear hst hcl
              go_simp
              exact hK _ (hJr.out 7 (by decide) _ _ hJ4)
          intro f y W8 hf hJ hE
          have e7 : y 7 = .int .i64 ((num + N : Nat) : Int) := hE 7 _ (by decide) rfl
          clear hE
          simp only [putAll, Act.put]
          simp only [List.setIfInBounds_toArray, List.set_cons_succ, List.set_cons_zero]
          rw [e7]
          clear e7
          have hK8 := hide (show KnownM W8 M B (m + 65536 * (k + 1)) from by
            have h6 := hf 5 (of_decide_eq_true (by kernel_rfl))
            have h5 := hJ.2
            rw [h6, if_pos rfl] at h5
            exact h5.more hle.out)
          have hk8 := hide hJ.1
          have hkw8 := hide (hkw.out.trans (KeptM.mono hk8.out hkw.out.size))
          have hks8 := hide (KeptX.blk hk8.out hx1 hks.out)
          have hwo := hide (hWo.out k a2 b2 c2 d2 l W8 skk)
          clear hJ hf hbe hcw hJr hJb hJ0
          have s0 : W8.cell? ⟨w1.heap.size, 0, none⟩ = some (.int .i64 k) := hks8.out.cell 0
          have s1 : W8.cell? ⟨w1.heap.size, 1, none⟩ = some (.int .i64 a2) := hks8.out.cell 1
          have s2 : W8.cell? ⟨w1.heap.size, 2, none⟩ = some (.int .i64 b2) := hks8.out.cell 2
          have s3 : W8.cell? ⟨w1.heap.size, 3, none⟩ = some (.int .i64 c2) := hks8.out.cell 3
          have s4 : W8.cell? ⟨w1.heap.size, 4, none⟩ = some (.int .i64 d2) := hks8.out.cell 4
          have s5 : W8.cell? ⟨w1.heap.size, 5, none⟩ = some (.int .i64 l) := hks8.out.cell 5
          go_wp2_with fail
          refine hwo.out.mono ?_
          rintro e w6 ⟨rfl, hb6⟩
          have hkw6 := hide (hkw8.out.trans (KeptM.of_below (hb6.mono hkw8.out.size)))
          have hKn6 := hide (hK8.out.below hb6)
          have hks6 := hide (hks8.out.below hb6 hks8.out.lt)
          clear hb6 s0 s1 s2 s3 s4 s5
          have s0 : w6.cell? ⟨w1.heap.size, 0, none⟩ = some (.int .i64 k) := hks6.out.cell 0
          have s1 : w6.cell? ⟨w1.heap.size, 1, none⟩ = some (.int .i64 a2) := hks6.out.cell 1
          have s2 : w6.cell? ⟨w1.heap.size, 2, none⟩ = some (.int .i64 b2) := hks6.out.cell 2
          have s3 : w6.cell? ⟨w1.heap.size, 3, none⟩ = some (.int .i64 c2) := hks6.out.cell 3
          have s4 : w6.cell? ⟨w1.heap.size, 4, none⟩ = some (.int .i64 d2) := hks6.out.cell 4
          have s5 : w6.cell? ⟨w1.heap.size, 5, none⟩ = some (.int .i64 l) := hks6.out.cell 5
          have z0 := hks6.out.frozen 0
          have z1 := hks6.out.frozen 1
          have z2 := hks6.out.frozen 2
          have z3 := hks6.out.frozen 3
          have z4 := hks6.out.frozen 4
          have z5 := hks6.out.frozen 5
          obtain ⟨w7, hw7⟩ : ∃ z, ((((((w6.setCell ⟨w1.heap.size, 0, none⟩ (.int .i64 ((k : Int) + 1))).setCell ⟨w1.heap.size, 1, none⟩ (.int .i64 a2)).setCell ⟨w1.heap.size, 2, none⟩ (.int .i64 b2)).setCell ⟨w1.heap.size, 3, none⟩ (.int .i64 c2)).setCell ⟨w1.heap.size, 4, none⟩ (.int .i64 d2)).setCell ⟨w1.heap.size, 5, none⟩ (.int .i64 l)) = z := ⟨_, rfl⟩
          have hst7 := hide (show Stored w1.heap.size w6 w7 by rw [← hw7]; exact (((((Stored.set1 _ _ _ _).trans (Stored.set1 _ _ _ _)).trans (Stored.set1 _ _ _ _)).trans (Stored.set1 _ _ _ _)).trans (Stored.set1 _ _ _ _)).trans (Stored.set1 _ _ _ _))
          have hks7 := hide (show Blk w7 w1.heap.size 113 #[.int .i64 ((k : Int) + 1), .int .i64 a2, .int .i64 b2, .int .i64 c2, .int .i64 d2, .int .i64 l] by rw [← hw7]; exact ((((((hks6.out.set_ 0 (.int .i64 ((k : Int) + 1))).set_ 1 (.int .i64 a2)).set_ 2 (.int .i64 b2)).set_ 3 (.int .i64 c2)).set_ 4 (.int .i64 d2)).set_ 5 (.int .i64 l)))
          have hkw7 := hide (hkw6.out.trans (show KeptM W.heap.size M w6 w7 from ⟨hst7.out.os, hst7.out.tape, hst7.out.output, by rw [hst7.out.size]; exact Nat.le_refl _, fun g hg => hst7.out.block g (by have h2 := hWs.out; have := hg.1; have := hgs.out; omega)⟩))
          have hKn7 := hide (hKn6.out.blk (hst7.out.block M (Ne.symm hgm.out)))
          rw [← hw7] at hks7 hkw7 hKn7
          clear hw7 hst7
          go_wp2
          clear s0 s1 s2 s3 s4 s5 z0 z1 z2 z3 z4 z5
          go_roundg (x - k)
          case measure => omega
          case rel => exact ⟨r', k + 1, num + N, a2, b2, c2, d2, l, by omega, rfl, hnd.out, by omega, by omega, by rw [e1]; exact hks7.out, hmem2.out, hsum2.out, hkw7.out, hKn7.out, by omega, by omega⟩
        · have hklz : decide ((k : Int) < (x : Int)) = false := decide_eq_false (by omega)
          have hkln : decide (k < x) = false := decide_eq_false hkl
          obtain rfl : k = x := by omega
          obtain ⟨r', rfl, hz, hcan, hmem2, hidx⟩ := idx_take (part4 hB) (part0 hB) hkr rfl hmem.out
          obtain ⟨a', b', c', d', hdec, n1, n2, n3, n4⟩ := dec_ned hcan hnq.2 (part4 hB k)
          have hwk := wAt_bd hB k
          rw [hdec] at hidx hmem2
          have hcw := hide (fun W (h : VwR W Q Wd gw gl B) => hWi.out k a2 b2 c2 d2 a' b' c' d' l W h (by omega) sa sb sc sd sl hdec)
          generalize wAt B k = wk at *
          have e1 : ((k + 1 : Nat) : Int) = (k : Int) + 1 := by omega
          have hsum2 := hsum.out
          rw [hidx] at hsum2
          replace hz := hide hz
          replace hmem2 := hide hmem2
          replace hsum2 := hide hsum2
          clear hidx hdec hcan hmem hsum
          go_upto_region 9 with fail
          clear s0
          have vc0 : wi.cell? ⟨w.heap.size, 0, none⟩ = some (.slice Q B.qs.length cq) := hbv.out.cell 0
          have vc1 : wi.cell? ⟨w.heap.size, 1, none⟩ = some (.slice Wd B.wanted.length cw) := hbv.out.cell 1
          have vc2 : wi.cell? ⟨w.heap.size, 2, none⟩ = some (.int .i64 B.lo) := hbv.out.cell 2
          have vc3 : wi.cell? ⟨w.heap.size, 3, none⟩ = some (.int .i64 B.hi) := hbv.out.cell 3
          have vc4 : wi.cell? ⟨w.heap.size, 4, none⟩ = some (.slice (some ⟨gw, 0, none⟩) B.qs.length cg) := hbv.out.cell 4
          have vc5 : wi.cell? ⟨w.heap.size, 5, none⟩ = some (.slice (some ⟨gl, 0, none⟩) (B.qs.length + 1) (B.qs.length + 1)) := hbv.out.cell 5
          have vc6 : wi.cell? ⟨w.heap.size, 6, none⟩ = some (.map (some M)) := hbv.out.cell 6
          have s0 : wi.cell? ⟨w1.heap.size, 0, none⟩ = some (.int .i64 k) := hks.out.cell 0
          have s1 : wi.cell? ⟨w1.heap.size, 1, none⟩ = some (.int .i64 a2) := hks.out.cell 1
          have s2 : wi.cell? ⟨w1.heap.size, 2, none⟩ = some (.int .i64 b2) := hks.out.cell 2
          have s3 : wi.cell? ⟨w1.heap.size, 3, none⟩ = some (.int .i64 c2) := hks.out.cell 3
          have s4 : wi.cell? ⟨w1.heap.size, 4, none⟩ = some (.int .i64 d2) := hks.out.cell 4
          have s5 : wi.cell? ⟨w1.heap.size, 5, none⟩ = some (.int .i64 l) := hks.out.cell 5
          go_wp2_with fail
          refine (hcw.out wi (hVk.out wi hkw.out)).mono ?_
          rintro e w6 ⟨rfl, hb6⟩
          have hkw6 := hide (hkw.out.trans (KeptM.of_below (hb6.mono hkw.out.size)))
          have hKn6 := hide ((hKn.out.below hb6).more (show m + 65536 * k ≤ m + 65536 * (k + 1) by omega))
          have hks6 := hide (hks.out.below hb6 hks.out.lt)
          clear hb6 vc0 vc1 vc2 vc3 vc4 vc5 vc6 s0 s1 s2 s3 s4 s5
          have s0 : w6.cell? ⟨w1.heap.size, 0, none⟩ = some (.int .i64 k) := hks6.out.cell 0
          have s1 : w6.cell? ⟨w1.heap.size, 1, none⟩ = some (.int .i64 a2) := hks6.out.cell 1
          have s2 : w6.cell? ⟨w1.heap.size, 2, none⟩ = some (.int .i64 b2) := hks6.out.cell 2
          have s3 : w6.cell? ⟨w1.heap.size, 3, none⟩ = some (.int .i64 c2) := hks6.out.cell 3
          have s4 : w6.cell? ⟨w1.heap.size, 4, none⟩ = some (.int .i64 d2) := hks6.out.cell 4
          have s5 : w6.cell? ⟨w1.heap.size, 5, none⟩ = some (.int .i64 l) := hks6.out.cell 5
          have z0 := hks6.out.frozen 0
          have z1 := hks6.out.frozen 1
          have z2 := hks6.out.frozen 2
          have z3 := hks6.out.frozen 3
          have z4 := hks6.out.frozen 4
          have z5 := hks6.out.frozen 5
          obtain ⟨w7, hw7⟩ : ∃ z, ((((((w6.setCell ⟨w1.heap.size, 0, none⟩ (.int .i64 ((k : Int) + 1))).setCell ⟨w1.heap.size, 1, none⟩ (.int .i64 a')).setCell ⟨w1.heap.size, 2, none⟩ (.int .i64 b')).setCell ⟨w1.heap.size, 3, none⟩ (.int .i64 c')).setCell ⟨w1.heap.size, 4, none⟩ (.int .i64 d')).setCell ⟨w1.heap.size, 5, none⟩ (.int .i64 (l + wk))) = z := ⟨_, rfl⟩
          have hst7 := hide (show Stored w1.heap.size w6 w7 by rw [← hw7]; exact (((((Stored.set1 _ _ _ _).trans (Stored.set1 _ _ _ _)).trans (Stored.set1 _ _ _ _)).trans (Stored.set1 _ _ _ _)).trans (Stored.set1 _ _ _ _)).trans (Stored.set1 _ _ _ _))
          have hks7 := hide (show Blk w7 w1.heap.size 113 #[.int .i64 ((k : Int) + 1), .int .i64 a', .int .i64 b', .int .i64 c', .int .i64 d', .int .i64 (l + wk)] by rw [← hw7]; exact ((((((hks6.out.set_ 0 (.int .i64 ((k : Int) + 1))).set_ 1 (.int .i64 a')).set_ 2 (.int .i64 b')).set_ 3 (.int .i64 c')).set_ 4 (.int .i64 d')).set_ 5 (.int .i64 (l + wk))))
          have hkw7 := hide (hkw6.out.trans (show KeptM W.heap.size M w6 w7 from ⟨hst7.out.os, hst7.out.tape, hst7.out.output, by rw [hst7.out.size]; exact Nat.le_refl _, fun g hg => hst7.out.block g (by have h2 := hWs.out; have := hg.1; have := hgs.out; omega)⟩))
          have hKn7 := hide (hKn6.out.blk (hst7.out.block M (Ne.symm hgm.out)))
          rw [← hw7] at hks7 hkw7 hKn7
          clear hw7 hst7
          go_wp2
          clear s0 s1 s2 s3 s4 s5 z0 z1 z2 z3 z4 z5
          go_roundg (q0.length - (j + 1))
          case measure => omega
          case rel => exact ⟨j + 1, by omega, by omega, by go_num, r', k + 1, num, a', b', c', d', l + wk, by omega, rfl, ⟨n1, n2, n3, n4⟩, by omega, by omega, by rw [e1]; exact hks7.out, by rw [htl2]; exact hmem2.out, by rw [htl2]; exact hsum2.out, hkw7.out, hKn7.out⟩
    · have hltz : ¬ (j : Int) < (q0.length : Int) := by omega
      have hsum2 := hsum.out
      have hmem2 := hmem.out
      rw [List.drop_of_length_le (by omega)] at hsum2 hmem2
      have hi0 : idxB B r k [a2, b2, c2, d2] l [] = 0 := by cases r <;> rfl
      rw [hi0, Nat.add_zero] at hsum2
      subst hsum2
      clear hmem2 hi0
      go_wp2
      go_ret
      exact ⟨rfl, (KeptM.of_below hBW.out).trans (KeptM.mono hkw.out hBW.out.size), hKn.out.more (by omega)⟩
end Go.Proofs.Ytnmgnonbgihalaa
