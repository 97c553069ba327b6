import Derived.Test.YtnmgnonbgihalaaPl
import Derived.Test.YtnmgnonbgihalaaPi
import Derived.Test.YtnmgnonbgihalaaPh
/-
  The paper with a number (made by gen_nth.py, mkpa.py).
-/
namespace Go.Proofs.Ytnmgnonbgihalaa
open Go.RowKit RG

theorem sub_len {B : Bank} {k r : Nat} {n : List Int} {l : Int} {q : List Nat} (h : Becomes B k r n l q) : q.length ≤ r := by
  have := (asc_sub r k q h.asc h.rng).length_le
  simpa using this
set_option maxRecDepth 100000 in
set_option maxHeartbeats 1000000 in
theorem nth_any (Q Wd : Option Addr) (cq cw gw cg gl M : Nat) (B : Bank) (i0 m : Nat) (q0 : List Nat) (w : World) (hB : BankOk B) (hV : VwR w Q Wd gw gl B) (hK : KnownM w M B m) (hm : m + 2 ^ 22 ≤ 2 ^ 60) (hi0 : (papers B)[i0]? = some q0) :
    Calls Try.prog 54 #[vwV Q Wd cq cw gw cg gl M B, .int .i64 i0] w fun e w' => (∃ v, e = .returned v ∧ RowAt w' (fun g => g < w.heap.size) 3 1 v ((ints q0).map iCells)) ∧ KeptM w.heap.size M w w' ∧ KnownM w' M B (m + 2 ^ 22) := by
  obtain ⟨a, b, c, d, hs4⟩ := four (start4_len hB.nw.2)
  obtain ⟨na, nb, nc, nd⟩ := start_ned hB hs4
  have hnq := hB.nq
  have hq0 : q0.length ≤ 16 := by
    have h1 := (mem_papersB (part4 hB) (part0 hB) B.qs.length 0 (start4 B) 0 q0 (Nat.zero_add _) (start4_len hB.nw.2)).1 (List.mem_of_getElem? hi0)
    have := sub_len h1
    omega
  unfold papers at hi0
  rw [hs4] at hi0
  have hSt := hide (fun W (h : VwR W Q Wd gw gl B) => start_any Q Wd cq cw gw cg gl M B a b c d W h.ws hB hs4)
  have hWi := hide (fun (k : Nat) (a b c d a' b' c' d' l : Int) W (h : VwR W Q Wd gw gl B) (hk : k < B.qs.length) (ha : Small a) (hb : Small b) (hc : Small c) (hd : Small d) (hl : Small l) (hdec : dec [a, b, c, d] (partAt B k) = [a', b', c', d']) => with_any Q Wd cq cw gw cg gl M B k a b c d a' b' c' d' l W h hB hk ha hb hc hd hl hdec)
  have hWo := hide (fun (k a b c d l : Int) W (hk : Small k) => without_any k a b c d l W hk)
  have hFu := hide (fun (k a b c d l : Int) W (ha : Small a) (hb : Small b) (hc : Small c) (hd : Small d) => isFull_any k a b c d l W ha hb hc hd)
  have hBe := hide (fun (r k : Nat) (h : k + r = B.qs.length) (a b c d l : Int) (m' : Nat) (W : World) (ha : Ned a) (hb : Ned b) (hc : Ned c) (hd : Ned d) (h0 : 0 ≤ l) (h1 : l ≤ 1000 * k) (hv : VwR W Q Wd gw gl B) (hk : KnownM W M B m') (hm' : m' + capN r ≤ 2 ^ 60) => behind_all Q Wd cq cw gw cg gl M B hB r k h a b c d l m' W ha hb hc hd h0 h1 hv hk hm')
  unfold vwV stV at *
  obtain ⟨W, hW⟩ : ∃ y, w.alloc (.cells #[.slice Q B.qs.length cq, .slice Wd B.wanted.length cw, .int .i64 B.lo, .int .i64 B.hi, .slice (some ⟨gw, 0, none⟩) B.qs.length cg, .slice (some ⟨gl, 0, none⟩) (B.qs.length + 1) (B.qs.length + 1), .map (some M)] 85) = y := ⟨_, rfl⟩
  have bW0 := hide (show Blk W w.heap.size 85 #[.slice Q B.qs.length cq, .slice Wd B.wanted.length cw, .int .i64 B.lo, .int .i64 B.hi, .slice (some ⟨gw, 0, none⟩) B.qs.length cg, .slice (some ⟨gl, 0, none⟩) (B.qs.length + 1) (B.qs.length + 1), .map (some M)] by rw [← hW]; exact blkNew rfl)
  have hBW := hide (show Below w.heap.size w W by rw [← hW]; exact (Below.refl _ _).alloc (Nat.le_refl _) _)
  replace hW := hide hW
  have hMm := hide (hK.below hBW.out).map
  have hvm : w.heap.size ≠ M := blk_nmap hMm.out bW0.out
  have hWs : W.heap.size = w.heap.size + 1 := by rw [← hW.out]; simp
  have hVk := hide (fun W' (h : KeptM W.heap.size M W W') => (hV.below hBW.out).keptM (by omega) hMm.out h)
  have hK0 := hide (hK.below hBW.out)
  clear hV hK
  have c0 : W.cell? ⟨w.heap.size, 0, none⟩ = some (.slice Q B.qs.length cq) := bW0.out.cell 0
  have c1 : W.cell? ⟨w.heap.size, 1, none⟩ = some (.slice Wd B.wanted.length cw) := bW0.out.cell 1
  have c2 : W.cell? ⟨w.heap.size, 2, none⟩ = some (.int .i64 B.lo) := bW0.out.cell 2
  have c3 : W.cell? ⟨w.heap.size, 3, none⟩ = some (.int .i64 B.hi) := bW0.out.cell 3
  have c4 : W.cell? ⟨w.heap.size, 4, none⟩ = some (.slice (some ⟨gw, 0, none⟩) B.qs.length cg) := bW0.out.cell 4
  have c5 : W.cell? ⟨w.heap.size, 5, none⟩ = some (.slice (some ⟨gl, 0, none⟩) (B.qs.length + 1) (B.qs.length + 1)) := bW0.out.cell 5
  have c6 : W.cell? ⟨w.heap.size, 6, none⟩ = some (.map (some M)) := bW0.out.cell 6
  replace hs4 := hide hs4
  replace hWs := hide hWs
  go_enter Try.func54, Try.ntmps54
  go_upto_region 1 with fail
  rw [hW.out]
  go_wp2_with fail
  refine (hSt.out W (hVk.out W (KeptX.refl _ _))).mono ?_
  rintro e w1 ⟨rfl, hb1⟩
  have hbh := hide hb1
  clear hb1 c0 c1 c2 c3 c4 c5 c6 hSt
  obtain ⟨W2, hW2⟩ : ∃ y, w1.alloc (.cells #[.int .i64 0, .int .i64 a, .int .i64 b, .int .i64 c, .int .i64 d, .int .i64 0] 113) = y := ⟨_, rfl⟩
  have bW20 := hide (show Blk W2 w1.heap.size 113 #[.int .i64 0, .int .i64 a, .int .i64 b, .int .i64 c, .int .i64 d, .int .i64 0] by rw [← hW2]; exact blkNew rfl)
  have hBW2 := hide (show Below w1.heap.size w1 W2 by rw [← hW2]; exact (Below.refl _ _).alloc (Nat.le_refl _) _)
  replace hW2 := hide hW2
  have hk2 := hide (show KeptM W.heap.size M W W2 from KeptM.of_below (hbh.out.trans (hBW2.out.mono hbh.out.size)))
  have hK2 := hide (hK0.out.below (hbh.out.trans (hBW2.out.mono hbh.out.size)))
  have hg1 := hide (show w.heap.size < w1.heap.size by have := hbh.out.size; have := hWs.out; omega)
  have hr0 := hide (show RowAt W2 (fun g => g < w.heap.size) 3 1 (.slice none 0 0) (((ints []).map iCells)) from ⟨fun _ h => (by cases h), .inl ⟨rfl, rfl⟩⟩)
  have hnn := hide (show Ned a ∧ Ned b ∧ Ned c ∧ Ned d from ⟨na, nb, nc, nd⟩)
  replace hi0 := hide hi0
  go_upto_region 3 with fail
  rw [hW2.out]
  go_loopg [1, 5, 6, 7, 8] (B.qs.length + 1) (fun g s1 s5 s6 _ _ wr => ∃ r k i gs : Nat, ∃ a b c d l : Int, ∃ pre q : List Nat, k + r = B.qs.length ∧ r + 1 ≤ g ∧ s1 = .int .i64 (i : Int) ∧ s6 = .pointer (some ⟨gs, 0, none⟩) ∧ w.heap.size < gs ∧ Hid (Ned a ∧ Ned b ∧ Ned c ∧ Ned d) ∧ 0 ≤ l ∧ l ≤ 1000 * k ∧ Hid (Blk wr gs 113 #[.int .i64 k, .int .i64 a, .int .i64 b, .int .i64 c, .int .i64 d, .int .i64 l]) ∧ Hid (RowAt wr (fun g => g < w.heap.size) 3 1 s5 ((ints pre).map iCells)) ∧ Hid ((papersB B r k [a, b, c, d] l)[i]? = some q) ∧ pre ++ q = q0 ∧ Hid (KeptM W.heap.size M W wr) ∧ Hid (KnownM wr M B (m + 65536 * k)))
  case atStart => exact ⟨B.qs.length, 0, i0, w1.heap.size, a, b, c, d, 0, [], q0, Nat.zero_add _, by omega, rfl, rfl, hg1.out, hnn.out, by omega, by omega, bW20.out, hr0.out, hi0.out, rfl, hk2.out, hK2.out⟩
  case round =>
    clear hnn hi0 na nb nc nd bW20 hBW2 hk2 hK2 hr0 hK0 hg1
    obtain ⟨r, k, i, gs, a2, b2, c2, d2, l, pre, q, hkr, hg, rfl, rfl, hgs, hnd, hl0, hl1, hks, hrow, hiq, hpre, hkw, hKn⟩ := hrel
    have hbv := hide (KeptX.blk hkw.out ⟨bW0.out.lt, hvm⟩ bW0.out)
    have hMr := hide hKn.out.map
    have sm := hnd.out
    have sa : Small a2 := sm.1.small
    have sb : Small b2 := sm.2.1.small
    have sc : Small c2 := sm.2.2.1.small
    have sd : Small d2 := sm.2.2.2.small
    have sl : Small l := by unfold Small; omega
    have skk : Small (k : Int) := small_nat (by omega)
    have hfu := hide (hFu.out k a2 b2 c2 d2 l wr sa sb sc sd)
    have hgm : gs ≠ M := blk_nmap hMr.out hks.out
    have hpl : pre.length ≤ 16 := by have := congrArg List.length hpre; rw [List.length_append] at this; omega
    have hp16 : 2 ^ 22 = 65536 * 64 := by decide
    have s0 : wr.cell? ⟨gs, 0, none⟩ = some (.int .i64 k) := hks.out.cell 0
    have s1 : wr.cell? ⟨gs, 1, none⟩ = some (.int .i64 a2) := hks.out.cell 1
    have s2 : wr.cell? ⟨gs, 2, none⟩ = some (.int .i64 b2) := hks.out.cell 2
    have s3 : wr.cell? ⟨gs, 3, none⟩ = some (.int .i64 c2) := hks.out.cell 3
    have s4 : wr.cell? ⟨gs, 4, none⟩ = some (.int .i64 d2) := hks.out.cell 4
    have s5 : wr.cell? ⟨gs, 5, none⟩ = some (.int .i64 l) := hks.out.cell 5
    by_cases hz : [a2, b2, c2, d2] = zero4
    · rw [decide_eq_true hz] at hfu
      have hiq2 := hiq.out
      rw [hz, papersB_full] at hiq2
      obtain rfl : q = [] := by
        split at hiq2
        · cases i with
          | zero => simpa using hiq2.symm
          | succ i => simp at hiq2
        · simp at hiq2
      obtain rfl : pre = q0 := by simpa using hpre
      replace hz := hide hz
      clear hiq2 hpre
      go_wp2_with fail
      refine hfu.out.mono ?_
      rintro e w2 ⟨rfl, hb2⟩
      have hrow2 := hide (hrow.out.below hb2)
      have hkw2 := hide (hkw.out.trans (KeptM.of_below (hb2.mono hkw.out.size)))
      have hKn2 := hide (hKn.out.below hb2)
      clear hb2 s0 s1 s2 s3 s4 s5
      go_wp2
      go_ret
      exact ⟨⟨_, rfl, hrow2.out⟩, (KeptM.of_below hBW.out).trans (KeptM.mono hkw2.out hBW.out.size), hKn2.out.more (by omega)⟩
    · rw [decide_eq_false hz] at hfu
      have hpos : 0 < countB B r k [a2, b2, c2, d2] l := by
        have := (List.getElem?_eq_some_iff.1 hiq.out).1
        unfold countB; omega
      obtain ⟨r', rfl, hcan⟩ := more_of hz hpos
      obtain ⟨a', b', c', d', hdec, n1, n2, n3, n4⟩ := dec_ned hcan hnq.2 (part4 hB k)
      have hwk := wAt_bd hB k
      have hcw := hide (fun W (h : VwR W Q Wd gw gl B) => hWi.out k a2 b2 c2 d2 a' b' c' d' l W h (by omega) sa sb sc sd sl hdec)
      have hnw := fun (h : i < countB B r' (k + 1) (dec [a2, b2, c2, d2] (partAt B k)) (l + wAt B k)) => nth_with hz hcan h
      have hno := fun (h : countB B r' (k + 1) (dec [a2, b2, c2, d2] (partAt B k)) (l + wAt B k) ≤ i) => nth_without hz hcan h
      have hcp := countB_pow B r' (k + 1) [a', b', c', d'] (l + wAt B k)
      rw [hdec] at hnw hno
      generalize wAt B k = wk at *
      have e1 : ((k + 1 : Nat) : Int) = (k : Int) + 1 := by omega
      have hib : i < 2 ^ 17 := by
        have h1 := (List.getElem?_eq_some_iff.1 hiq.out).1
        have h2 := countB_pow B (r' + 1) k [a2, b2, c2, d2] l
        have h3 : 2 ^ (r' + 1) ≤ 2 ^ 17 := Nat.pow_le_pow_right (by decide) (by omega)
        unfold countB at h2
        omega
      have hcn := capN_pow r'
      have hpw : 2 ^ r' ≤ 2 ^ 16 := Nat.pow_le_pow_right (by decide) (by omega)
      have hbe := hide (fun W (hv : VwR W Q Wd gw gl B) (hk : KnownM W M B (m + 65536 * k)) => hBe.out r' (k + 1) (by omega) a' b' c' d' (l + wk) (m + 65536 * k) W n1 n2 n3 n4 (by omega) (by omega) hv hk (by omega))
      rw [e1] at hbe
      obtain ⟨N, hN⟩ : ∃ z, countB B r' (k + 1) [a', b', c', d'] (l + wk) = z := ⟨_, rfl⟩
      rw [hN] at hbe hnw hno hcp
      rw [hiq.out] at hnw hno
      have hnn : Ned a' ∧ Ned b' ∧ Ned c' ∧ Ned d' := ⟨n1, n2, n3, n4⟩
      replace hnn := hide hnn
      replace hz := hide hz
      replace hN := hide hN
      replace hnw := hide hnw
      replace hno := hide hno
      clear hpos hdec hcan hiq n1 n2 n3 n4
      go_wp2_with fail
      refine hfu.out.mono ?_
      rintro e w2 ⟨rfl, hb2⟩
      have hrow2 := hide (hrow.out.below hb2)
      have hkw2 := hide (hkw.out.trans (KeptM.of_below (hb2.mono hkw.out.size)))
      have hKn2 := hide (hKn.out.below hb2)
      have hks2 := hide (hks.out.below hb2 hks.out.lt)
      have hbv2 := hide (hbv.out.below hb2 hbv.out.lt)
      clear hb2 hrow hkw hKn hks hbv s0 s1 s2 s3 s4 s5
      have vc0 : w2.cell? ⟨w.heap.size, 0, none⟩ = some (.slice Q B.qs.length cq) := hbv2.out.cell 0
      have vc1 : w2.cell? ⟨w.heap.size, 1, none⟩ = some (.slice Wd B.wanted.length cw) := hbv2.out.cell 1
      have vc2 : w2.cell? ⟨w.heap.size, 2, none⟩ = some (.int .i64 B.lo) := hbv2.out.cell 2
      have vc3 : w2.cell? ⟨w.heap.size, 3, none⟩ = some (.int .i64 B.hi) := hbv2.out.cell 3
      have vc4 : w2.cell? ⟨w.heap.size, 4, none⟩ = some (.slice (some ⟨gw, 0, none⟩) B.qs.length cg) := hbv2.out.cell 4
      have vc5 : w2.cell? ⟨w.heap.size, 5, none⟩ = some (.slice (some ⟨gl, 0, none⟩) (B.qs.length + 1) (B.qs.length + 1)) := hbv2.out.cell 5
      have vc6 : w2.cell? ⟨w.heap.size, 6, none⟩ = some (.map (some M)) := hbv2.out.cell 6
      have s0 : w2.cell? ⟨gs, 0, none⟩ = some (.int .i64 k) := hks2.out.cell 0
      have s1 : w2.cell? ⟨gs, 1, none⟩ = some (.int .i64 a2) := hks2.out.cell 1
      have s2 : w2.cell? ⟨gs, 2, none⟩ = some (.int .i64 b2) := hks2.out.cell 2
      have s3 : w2.cell? ⟨gs, 3, none⟩ = some (.int .i64 c2) := hks2.out.cell 3
      have s4 : w2.cell? ⟨gs, 4, none⟩ = some (.int .i64 d2) := hks2.out.cell 4
      have s5 : w2.cell? ⟨gs, 5, none⟩ = some (.int .i64 l) := hks2.out.cell 5
      go_wp2_with fail
      refine (hcw.out w2 (hVk.out w2 hkw2.out)).mono ?_
      rintro e w3 ⟨rfl, hb3⟩
      have hbj := hide hb3
      clear hb3 vc0 vc1 vc2 vc3 vc4 vc5 vc6 s0 s1 s2 s3 s4 s5
      obtain ⟨W4, hW4⟩ : ∃ y, w3.alloc (.cells #[.int .i64 ((k : Int) + 1), .int .i64 a', .int .i64 b', .int .i64 c', .int .i64 d', .int .i64 (l + wk)] 113) = y := ⟨_, rfl⟩
      have bW40 := hide (show Blk W4 w3.heap.size 113 #[.int .i64 ((k : Int) + 1), .int .i64 a', .int .i64 b', .int .i64 c', .int .i64 d', .int .i64 (l + wk)] by rw [← hW4]; exact blkNew rfl)
      have hBW4 := hide (show Below w3.heap.size w3 W4 by rw [← hW4]; exact (Below.refl _ _).alloc (Nat.le_refl _) _)
      replace hW4 := hide hW4
      have hb4 := hide (hbj.out.trans (hBW4.out.mono hbj.out.size))
      have hrow4 := hide (hrow2.out.below hb4.out)
      have hkw4 := hide (hkw2.out.trans (KeptM.of_below (hb4.out.mono hkw2.out.size)))
      have hKn4 := hide (hKn2.out.below hb4.out)
      have hks4 := hide (hks2.out.below hb4.out hks2.out.lt)
      have hbv4 := hide (hbv2.out.below hb4.out hbv2.out.lt)
      have hgt : w3.heap.size ≠ M := by have h1 := hKn2.out.lt; have h2 := hbj.out.size; omega
      have hgg : gs < w3.heap.size := Nat.lt_of_lt_of_le hks2.out.lt hbj.out.size
      clear hrow2 hkw2 hKn2 hks2 hbv2 hcw
      go_upto_region 5 with fail
      rw [hW4.out]
      have vc0 : W4.cell? ⟨w.heap.size, 0, none⟩ = some (.slice Q B.qs.length cq) := hbv4.out.cell 0
      have vc1 : W4.cell? ⟨w.heap.size, 1, none⟩ = some (.slice Wd B.wanted.length cw) := hbv4.out.cell 1
      have vc2 : W4.cell? ⟨w.heap.size, 2, none⟩ = some (.int .i64 B.lo) := hbv4.out.cell 2
      have vc3 : W4.cell? ⟨w.heap.size, 3, none⟩ = some (.int .i64 B.hi) := hbv4.out.cell 3
      have vc4 : W4.cell? ⟨w.heap.size, 4, none⟩ = some (.slice (some ⟨gw, 0, none⟩) B.qs.length cg) := hbv4.out.cell 4
      have vc5 : W4.cell? ⟨w.heap.size, 5, none⟩ = some (.slice (some ⟨gl, 0, none⟩) (B.qs.length + 1) (B.qs.length + 1)) := hbv4.out.cell 5
      have vc6 : W4.cell? ⟨w.heap.size, 6, none⟩ = some (.map (some M)) := hbv4.out.cell 6
      have s0 : W4.cell? ⟨w3.heap.size, 0, none⟩ = some (.int .i64 ((k : Int) + 1)) := bW40.out.cell 0
      have s1 : W4.cell? ⟨w3.heap.size, 1, none⟩ = some (.int .i64 a') := bW40.out.cell 1
      have s2 : W4.cell? ⟨w3.heap.size, 2, none⟩ = some (.int .i64 b') := bW40.out.cell 2
      have s3 : W4.cell? ⟨w3.heap.size, 3, none⟩ = some (.int .i64 c') := bW40.out.cell 3
      have s4 : W4.cell? ⟨w3.heap.size, 4, none⟩ = some (.int .i64 d') := bW40.out.cell 4
      have s5 : W4.cell? ⟨w3.heap.size, 5, none⟩ = some (.int .i64 (l + wk)) := bW40.out.cell 5
      go_wp2_with fail
      refine (hbe.out W4 (hVk.out W4 hkw4.out) hKn4.out).mono ?_
      rintro e w5 ⟨rfl, hk5, hKn5⟩
      replace hk5 := hide hk5
      have hrow5 := hide (hrow4.out.kept hk5.out (fun g hg => ⟨hrow4.out.lt hg, fun e => hrow4.out.nmap hKn4.out.map (by rw [← e]; exact hg)⟩))
      have hkw5 := hide (hkw4.out.trans (KeptM.mono hk5.out hkw4.out.size))
      have hks5 := hide (KeptX.blk hk5.out ⟨hks4.out.lt, hgm⟩ hks4.out)
      have hbv5 := hide (KeptX.blk hk5.out ⟨hbv4.out.lt, hvm⟩ hbv4.out)
      have hkt5 := hide (KeptX.blk hk5.out ⟨bW40.out.lt, hgt⟩ bW40.out)
      replace hKn5 := hide (hKn5.more (show m + 65536 * k + capN r' ≤ m + 65536 * (k + 1) by omega))
      clear hk5 hrow4 hkw4 hks4 hbv4 bW40 hKn4 hbe vc0 vc1 vc2 vc3 vc4 vc5 vc6 s0 s1 s2 s3 s4 s5
      by_cases hlt : i < N
      · have hltz : decide ((i : Int) < (N : Int)) = true := decide_eq_true (by omega)
        have hltn : decide (i < N) = true := decide_eq_true hlt
        obtain ⟨q', hq', rfl⟩ : ∃ q', (papersB B r' (k + 1) [a', b', c', d'] (l + wk))[i]? = some q' ∧ k :: q' = q := by
          have := hnw.out hlt
          cases hp : (papersB B r' (k + 1) [a', b', c', d'] (l + wk))[i]? with
          | none => rw [hp] at this; cases this
          | some q' => rw [hp] at this; injection this with this; exact ⟨q', rfl, this.symm⟩
        replace hq' := hide hq'
        have hpre2 : (pre ++ [k]) ++ q' = q0 := by rw [← hpre]; simp
        obtain ⟨v6, w6, hrun6, hrow6, hk6⟩ := app_one hrow5.out (by have h1 := hkw5.out.size; have h2 := hWs.out; omega) (by rw [ints, List.length_map]; omega) (k : Int)
        have hnb := fun (g : Nat) (cs : Array Value) (t : TypeId) (hb : Blk w5 g t cs) (hne : 3 ≠ t) => hrow5.out.nblk hb hne
        have hks6 := hide (KeptX.blk hk6 ⟨hks5.out.lt, hnb gs _ _ hks5.out (by decide)⟩ hks5.out)
        have hbv6 := hide (KeptX.blk hk6 ⟨hbv5.out.lt, hnb _ _ _ hbv5.out (by decide)⟩ hbv5.out)
        have hkt6 := hide (KeptX.blk hk6 ⟨hkt5.out.lt, hnb _ _ _ hkt5.out (by decide)⟩ hkt5.out)
        have hKn6 := hide (hKn5.out.blk (hk6.block M ⟨hKn5.out.lt, hrow5.out.nmap hKn5.out.map⟩))
        have hkw6 := hide (hkw5.out.trans (show KeptM W.heap.size M w5 w6 from KeptX.mono hk6 fun g hg => ⟨Nat.lt_of_lt_of_le hg.1 hkw5.out.size, fun e => by
          rcases Nat.lt_or_ge g w.heap.size with h | h
          · exact hrow5.out.not g e h
          · have h2 := hWs.out
            have h3 : g = w.heap.size := by omega
            subst h3
            exact hnb _ _ _ hbv5.out (by decide) e⟩))
        replace hrow6 : RowAt w6 (fun g => g < w.heap.size) 3 1 v6 ((ints (pre ++ [k])).map iCells) := by
          have : ints pre ++ [(k : Int)] = ints (pre ++ [k]) := by simp [ints]
          rw [← this]; exact hrow6
        replace hrow6 := hide hrow6
        replace hrun6 := hide hrun6
        clear hk6 hnb hnw hno
        have x0 : w5.cell? ⟨gs, 0, none⟩ = some (.int .i64 k) := hks5.out.cell 0
        have s0 : w6.cell? ⟨gs, 0, none⟩ = some (.int .i64 k) := hks6.out.cell 0
        have s1 : w6.cell? ⟨gs, 1, none⟩ = some (.int .i64 a2) := hks6.out.cell 1
        have s2 : w6.cell? ⟨gs, 2, none⟩ = some (.int .i64 b2) := hks6.out.cell 2
        have s3 : w6.cell? ⟨gs, 3, none⟩ = some (.int .i64 c2) := hks6.out.cell 3
        have s4 : w6.cell? ⟨gs, 4, none⟩ = some (.int .i64 d2) := hks6.out.cell 4
        have s5 : w6.cell? ⟨gs, 5, none⟩ = some (.int .i64 l) := hks6.out.cell 5
        have z0 := hks6.out.frozen 0
        have z1 := hks6.out.frozen 1
        have z2 := hks6.out.frozen 2
        have z3 := hks6.out.frozen 3
        have z4 := hks6.out.frozen 4
        have z5 := hks6.out.frozen 5
        have y0 : w6.cell? ⟨w3.heap.size, 0, none⟩ = some (.int .i64 ((k : Int) + 1)) := hkt6.out.cell 0
        have y1 : w6.cell? ⟨w3.heap.size, 1, none⟩ = some (.int .i64 a') := hkt6.out.cell 1
        have y2 : w6.cell? ⟨w3.heap.size, 2, none⟩ = some (.int .i64 b') := hkt6.out.cell 2
        have y3 : w6.cell? ⟨w3.heap.size, 3, none⟩ = some (.int .i64 c') := hkt6.out.cell 3
        have y4 : w6.cell? ⟨w3.heap.size, 4, none⟩ = some (.int .i64 d') := hkt6.out.cell 4
        have y5 : w6.cell? ⟨w3.heap.size, 5, none⟩ = some (.int .i64 (l + wk)) := hkt6.out.cell 5
        go_wp2_with (at_builtin; refine wpList_append_run rfl _ _ 23 rfl _ _ _ rfl rfl hrun6.out ?_)
        clear x0
        obtain ⟨w7, hw7⟩ : ∃ z, ((((((w6.setCell ⟨gs, 0, none⟩ (.int .i64 ((k : Int) + 1))).setCell ⟨gs, 1, none⟩ (.int .i64 a')).setCell ⟨gs, 2, none⟩ (.int .i64 b')).setCell ⟨gs, 3, none⟩ (.int .i64 c')).setCell ⟨gs, 4, none⟩ (.int .i64 d')).setCell ⟨gs, 5, none⟩ (.int .i64 (l + wk))) = z := ⟨_, rfl⟩
        have hst7 := hide (show Stored gs w6 w7 by rw [← hw7]; exact (((((Stored.set1 _ _ _ _).trans (Stored.set1 _ _ _ _)).trans (Stored.set1 _ _ _ _)).trans (Stored.set1 _ _ _ _)).trans (Stored.set1 _ _ _ _)).trans (Stored.set1 _ _ _ _))
        have hks7 := hide (show Blk w7 gs 113 #[.int .i64 ((k : Int) + 1), .int .i64 a', .int .i64 b', .int .i64 c', .int .i64 d', .int .i64 (l + wk)] by rw [← hw7]; exact ((((((hks6.out.set_ 0 (.int .i64 ((k : Int) + 1))).set_ 1 (.int .i64 a')).set_ 2 (.int .i64 b')).set_ 3 (.int .i64 c')).set_ 4 (.int .i64 d')).set_ 5 (.int .i64 (l + wk))))
        have hkw7 := hide (hkw6.out.trans (show KeptM W.heap.size M w6 w7 from ⟨hst7.out.os, hst7.out.tape, hst7.out.output, by rw [hst7.out.size]; exact Nat.le_refl _, fun g hg => hst7.out.block g (by have h2 := hWs.out; have := hg.1; omega)⟩))
        have hrow7 := hide (RowAt.blk hrow6.out fun g hg _ => hst7.out.block g (fun e => hrow6.out.nblk hks6.out (by decide) (by rw [← e]; exact hg)))
        have hKn7 := hide (hKn6.out.blk (hst7.out.block M (Ne.symm hgm)))
        replace hw7 := hide hw7
        go_upto_region 11 with fail
        rw [hw7.out]
        clear s0 s1 s2 s3 s4 s5 z0 z1 z2 z3 z4 z5 y0 y1 y2 y3 y4 y5
        have s0 : w7.cell? ⟨gs, 0, none⟩ = some (.int .i64 ((k : Int) + 1)) := hks7.out.cell 0
        have s1 : w7.cell? ⟨gs, 1, none⟩ = some (.int .i64 a') := hks7.out.cell 1
        have s2 : w7.cell? ⟨gs, 2, none⟩ = some (.int .i64 b') := hks7.out.cell 2
        have s3 : w7.cell? ⟨gs, 3, none⟩ = some (.int .i64 c') := hks7.out.cell 3
        have s4 : w7.cell? ⟨gs, 4, none⟩ = some (.int .i64 d') := hks7.out.cell 4
        have s5 : w7.cell? ⟨gs, 5, none⟩ = some (.int .i64 (l + wk)) := hks7.out.cell 5
        have hbz := hide (show Below w7.heap.size w7 (w7.alloc (.cells #[.int .i64 ((k : Int) + 1), .int .i64 a', .int .i64 b', .int .i64 c', .int .i64 d', .int .i64 (l + wk)] 113)) from (Below.refl _ _).alloc (Nat.le_refl _) _)
        have hksz := hide (show Blk (w7.alloc (.cells #[.int .i64 ((k : Int) + 1), .int .i64 a', .int .i64 b', .int .i64 c', .int .i64 d', .int .i64 (l + wk)] 113)) w6.heap.size 113 #[.int .i64 ((k : Int) + 1), .int .i64 a', .int .i64 b', .int .i64 c', .int .i64 d', .int .i64 (l + wk)] by rw [← hst7.out.size]; exact blkNew rfl)
        have hg7 := hide (show w.heap.size < w6.heap.size by have h1 := hkw7.out.size; have h2 := hWs.out; have h3 := hst7.out.size; omega)
        have hrowz := hide (hrow7.out.below hbz.out)
        have hkwz := hide (hkw7.out.trans (KeptM.of_below (hbz.out.mono hkw7.out.size)))
        have hKnz := hide (hKn7.out.below hbz.out)
        go_wp2
        clear s0 s1 s2 s3 s4 s5
        go_roundg (r' + 1)
        case measure => omega
        case rel => exact ⟨r', k + 1, i, w6.heap.size, a', b', c', d', l + wk, pre ++ [k], _, by omega, by omega, rfl, rfl, hg7.out, hnn.out, by omega, by omega, by rw [e1]; exact hksz.out, hrowz.out, hq'.out, hpre2, hkwz.out, hKnz.out⟩
      · have hltz : decide ((i : Int) < (N : Int)) = false := decide_eq_false (by omega)
        have hltn : decide (i < N) = false := decide_eq_false hlt
        have hio : ((i - N : Nat) : Int) = (i : Int) - (N : Int) := by omega
        have hiw : IntKind.i64.wrap ((i : Int) - (N : Int)) = (i : Int) - (N : Int) := by rw [IntKind.wrap_i64]; omega
        have hq' := hide ((hno.out (by omega)).symm)
        have hwo := hide (hWo.out k a2 b2 c2 d2 l w5 skk)
        clear hnw hno
        have s0 : w5.cell? ⟨gs, 0, none⟩ = some (.int .i64 k) := hks5.out.cell 0
        have s1 : w5.cell? ⟨gs, 1, none⟩ = some (.int .i64 a2) := hks5.out.cell 1
        have s2 : w5.cell? ⟨gs, 2, none⟩ = some (.int .i64 b2) := hks5.out.cell 2
        have s3 : w5.cell? ⟨gs, 3, none⟩ = some (.int .i64 c2) := hks5.out.cell 3
        have s4 : w5.cell? ⟨gs, 4, none⟩ = some (.int .i64 d2) := hks5.out.cell 4
        have s5 : w5.cell? ⟨gs, 5, none⟩ = some (.int .i64 l) := hks5.out.cell 5
        go_wp2_with fail
        refine hwo.out.mono ?_
        rintro e w6 ⟨rfl, hb6⟩
        have hrow6 := hide (hrow5.out.below hb6)
        have hkw6 := hide (hkw5.out.trans (KeptM.of_below (hb6.mono hkw5.out.size)))
        have hKn6 := hide (hKn5.out.below hb6)
        have hks6 := hide (hks5.out.below hb6 hks5.out.lt)
        clear hb6 s0 s1 s2 s3 s4 s5
        have s0 : w6.cell? ⟨gs, 0, none⟩ = some (.int .i64 k) := hks6.out.cell 0
        have s1 : w6.cell? ⟨gs, 1, none⟩ = some (.int .i64 a2) := hks6.out.cell 1
        have s2 : w6.cell? ⟨gs, 2, none⟩ = some (.int .i64 b2) := hks6.out.cell 2
        have s3 : w6.cell? ⟨gs, 3, none⟩ = some (.int .i64 c2) := hks6.out.cell 3
        have s4 : w6.cell? ⟨gs, 4, none⟩ = some (.int .i64 d2) := hks6.out.cell 4
        have s5 : w6.cell? ⟨gs, 5, none⟩ = some (.int .i64 l) := hks6.out.cell 5
        have z0 := hks6.out.frozen 0
        have z1 := hks6.out.frozen 1
        have z2 := hks6.out.frozen 2
        have z3 := hks6.out.frozen 3
        have z4 := hks6.out.frozen 4
        have z5 := hks6.out.frozen 5
        obtain ⟨w7, hw7⟩ : ∃ z, ((((((w6.setCell ⟨gs, 0, none⟩ (.int .i64 ((k : Int) + 1))).setCell ⟨gs, 1, none⟩ (.int .i64 a2)).setCell ⟨gs, 2, none⟩ (.int .i64 b2)).setCell ⟨gs, 3, none⟩ (.int .i64 c2)).setCell ⟨gs, 4, none⟩ (.int .i64 d2)).setCell ⟨gs, 5, none⟩ (.int .i64 l)) = z := ⟨_, rfl⟩
        have hst7 := hide (show Stored gs w6 w7 by rw [← hw7]; exact (((((Stored.set1 _ _ _ _).trans (Stored.set1 _ _ _ _)).trans (Stored.set1 _ _ _ _)).trans (Stored.set1 _ _ _ _)).trans (Stored.set1 _ _ _ _)).trans (Stored.set1 _ _ _ _))
        have hks7 := hide (show Blk w7 gs 113 #[.int .i64 ((k : Int) + 1), .int .i64 a2, .int .i64 b2, .int .i64 c2, .int .i64 d2, .int .i64 l] by rw [← hw7]; exact ((((((hks6.out.set_ 0 (.int .i64 ((k : Int) + 1))).set_ 1 (.int .i64 a2)).set_ 2 (.int .i64 b2)).set_ 3 (.int .i64 c2)).set_ 4 (.int .i64 d2)).set_ 5 (.int .i64 l)))
        have hkw7 := hide (hkw6.out.trans (show KeptM W.heap.size M w6 w7 from ⟨hst7.out.os, hst7.out.tape, hst7.out.output, by rw [hst7.out.size]; exact Nat.le_refl _, fun g hg => hst7.out.block g (by have h2 := hWs.out; have := hg.1; omega)⟩))
        have hrow7 := hide (RowAt.blk hrow6.out fun g hg _ => hst7.out.block g (fun e => hrow6.out.nblk hks6.out (by decide) (by rw [← e]; exact hg)))
        have hKn7 := hide (hKn6.out.blk (hst7.out.block M (Ne.symm hgm)))
        replace hw7 := hide hw7
        go_upto_region 11 with fail
        rw [hw7.out]
        clear s0 s1 s2 s3 s4 s5 z0 z1 z2 z3 z4 z5
        have s0 : w7.cell? ⟨gs, 0, none⟩ = some (.int .i64 ((k : Int) + 1)) := hks7.out.cell 0
        have s1 : w7.cell? ⟨gs, 1, none⟩ = some (.int .i64 a2) := hks7.out.cell 1
        have s2 : w7.cell? ⟨gs, 2, none⟩ = some (.int .i64 b2) := hks7.out.cell 2
        have s3 : w7.cell? ⟨gs, 3, none⟩ = some (.int .i64 c2) := hks7.out.cell 3
        have s4 : w7.cell? ⟨gs, 4, none⟩ = some (.int .i64 d2) := hks7.out.cell 4
        have s5 : w7.cell? ⟨gs, 5, none⟩ = some (.int .i64 l) := hks7.out.cell 5
        have hbz := hide (show Below w7.heap.size w7 (w7.alloc (.cells #[.int .i64 ((k : Int) + 1), .int .i64 a2, .int .i64 b2, .int .i64 c2, .int .i64 d2, .int .i64 l] 113)) from (Below.refl _ _).alloc (Nat.le_refl _) _)
        have hksz := hide (show Blk (w7.alloc (.cells #[.int .i64 ((k : Int) + 1), .int .i64 a2, .int .i64 b2, .int .i64 c2, .int .i64 d2, .int .i64 l] 113)) w7.heap.size 113 #[.int .i64 ((k : Int) + 1), .int .i64 a2, .int .i64 b2, .int .i64 c2, .int .i64 d2, .int .i64 l] from blkNew rfl)
        have hg7 := hide (show w.heap.size < w7.heap.size by have h1 := hkw7.out.size; have h2 := hWs.out; have h3 := hst7.out.size; omega)
        have hrowz := hide (hrow7.out.below hbz.out)
        have hkwz := hide (hkw7.out.trans (KeptM.of_below (hbz.out.mono hkw7.out.size)))
        have hKnz := hide (hKn7.out.below hbz.out)
        go_wp2
        clear s0 s1 s2 s3 s4 s5
        go_roundg (r' + 1)
        case measure => omega
        case rel => exact ⟨r', k + 1, i - N, w7.heap.size, a2, b2, c2, d2, l, pre, _, by omega, by omega, by rw [hio], rfl, hg7.out, hnd.out, by omega, by omega, by rw [e1]; exact hksz.out, hrowz.out, hq'.out, hpre, hkwz.out, hKnz.out⟩
end Go.Proofs.Ytnmgnonbgihalaa

/-
  The rule of XRegCst, for regions that read a variable which they assign at their end: what is not listed holds its old value.
-/
namespace Go.Proofs.Ytnmgnonbgihalaa.RG
open Go

section
variable {P : Program}
def OneCso (P : Program) (l : List Oper) (L : List Value) (J : (Nat → Bool) → World → Prop) (a0 : Act) (i : Nat) (o : Oper) : Prop :=
  decide (o.guard = none) = true ∧ ∀ (T : Act) (f : Nat → Bool) (y : Nat → Value) (W : World) (K : Act → World → Prop) (Q : Exit → Act → World → Prop), Fr l a0 y T → J f W → f i = false →
    (∀ j, f j = false → y j = start l a0 j) → (∀ k o', f k = true → l[k]? = some o' → ∀ j, depB o'.after.toList j = true → f j = true) →
    (∀ j, depB o.after.toList j = true → f j = true ∧ ∀ v, L[j]? = some v → y j = v) → (∀ W', J (fun k => decide (k = i) || f k) W' → K (T.put o.dst (L[i]?.getD undef)) W') → o.wp P T W K Q
def AllCso (P : Program) (l0 : List Oper) (L : List Value) (J : (Nat → Bool) → World → Prop) (a0 : Act) : List Oper → Nat → Prop
  | [], _ => True
  | o :: r, i => OneCso P l0 L J a0 i o ∧ AllCso P l0 L J a0 r (i + 1)
def InvCso (l : List Oper) (L : List Value) (J : (Nat → Bool) → World → Prop) (a0 : Act) (f : Nat → Bool) (y : Nat → Value) (W : World) : Prop :=
  (∀ i v, f i = true → L[i]? = some v → y i = v) ∧ J f W ∧ (∀ j, f j = false → y j = start l a0 j) ∧ ∀ k o', f k = true → l[k]? = some o' → ∀ j, depB o'.after.toList j = true → f j = true
theorem AllCso.all {l : List Oper} {L : List Value} {J : (Nat → Bool) → World → Prop} {a0 : Act} (hok : okB l 0 = true) : ∀ (r : List Oper) (i : Nat), (∀ k o, r[k]? = some o → l[i + k]? = some o) → AllCso P l L J a0 r i → AllI P l.toArray (InvCso l L J a0) a0 r i
  | [], _, _, _ => trivial
  | o :: r, i, hl, h => by
    refine ⟨oneI_fr hok h.1.1 ?_, AllCso.all hok r (i + 1) (fun k o' hk => by have := hl (k + 1) o' (by simpa using hk); rwa [show i + (k + 1) = i + 1 + k by omega] at this) h.2⟩
    have hlo := hl 0 o rfl
    rw [Nat.add_zero] at hlo
    intro T f y W K Q Cv hF hI hf hd hV hK
    obtain ⟨h1, h2, h3, h4⟩ := hI
    have hdep : ∀ j, depB o.after.toList j = true → f j = true := fun j hj => by
      unfold depB at hj
      rw [List.any_eq_true] at hj
      obtain ⟨e, he, hb⟩ := hj
      simp only [Bool.and_eq_true, beq_iff_eq] at hb
      have h5 := hd e he hb.1
      rw [hb.2] at h5
      exact h5
    refine h.1.2 T f y W K Q hF h2 hf h3 h4 (fun j hj => ⟨hdep j hj, fun v hv => h1 j v (hdep j hj) hv⟩) (fun W' hJ => ?_)
    refine hK _ _ (hV _ _ ⟨fun k v hk hv => ?_, hJ, fun j hj => ?_, fun k o' hk ho' j hj => ?_⟩)
    · unfold upd
      by_cases e : k = i
      · subst e; rw [if_pos rfl, hv]; rfl
      · rw [if_neg e]; exact h1 k v (by simpa [e] using hk) hv
    · have e : j ≠ i := by rintro rfl; simp at hj
      unfold upd
      rw [if_neg e]
      exact h3 j (by simpa [e] using hj)
    · rw [Bool.or_eq_true]
      right
      by_cases e : k = i
      · subst e
        rw [hlo] at ho'; cases ho'
        exact hdep j hj
      · exact h4 k o' (by simpa [e] using hk) ho' j hj
/-- THE RULE. -/
theorem region_cso {id : Nat} {Q : Exit → Act → World → Prop} {a : Act} {w : World} {l : List Oper} (L : List Value) (J : (Nat → Bool) → World → Prop)
    (hm : P.follows .mixedOrders = true) (hok : okB l 0 = true) (h0 : J (fun _ => false) w.drew) (hall : AllCso P l L J a l 0)
    (hend : ∀ f y W, (∀ k, k < l.length → f k = true) → J f W → (∀ k v, k < l.length → L[k]? = some v → y k = v) → Q .normal (putAll l 0 y a) W) :
    (Code.region id l.toArray true).wp P Q a w :=
  region_inv_at (InvCso l L J a) hm hok ⟨fun _ _ h => (by cases h), h0, fun _ _ => rfl, fun _ _ h => (by cases h)⟩ (AllCso.all hok l 0 (fun k o hk => by rwa [Nat.zero_add]) hall) fun f y W hf hI => hend f y W hf hI.2.1 fun k v hk hv => hI.1 k v (hf k hk) hv
end
end Go.Proofs.Ytnmgnonbgihalaa.RG
