import Derived.Test.YtnmgnonbgihalaaPs
import Derived.BigQuiet
/-
  The reference's in, Ints and Equal.
-/
namespace Go.Proofs.Ytnmgnonbgihalaa
open Go.RowKit RG

theorem take_ne {α : Type} {xs ys : List α} {k : Nat} (hx : k < xs.length) (hy : k < ys.length) (h : xs[k] ≠ ys[k]) : xs ≠ ys := by
  rintro rfl; exact h rfl
theorem take_next {α : Type} {xs ys : List α} {k : Nat} (hx : k < xs.length) (hy : k < ys.length) (hr : xs.take k = ys.take k) (h : xs[k] = ys[k]) : xs.take (k + 1) = ys.take (k + 1) := by
  rw [List.take_succ_eq_append_getElem hx, List.take_succ_eq_append_getElem hy, hr, h]
theorem RdInts.drewN {w : World} {A : Option Addr} {n : Nat} {xs : List Int} (h : RdInts w A n xs) (d : Nat) : RdInts (w.drewN d) A n xs := h
theorem RdPaps.drewN {w : World} {A : Option Addr} {n : Nat} {ps : List (List Int)} (h : RdPaps w A n ps) (d : Nat) : RdPaps (w.drewN d) A n ps := h
theorem in_any (n low high : Int) (w : World) : Calls Try.prog 48 #[.int .i64 n, .int .i64 low, .int .i64 high] w fun e w' => e = .returned (.bool (inB low high n)) ∧ w' = w := by
  by_cases h1 : low ≤ n
  · have a1 : decide (n ≥ low) = true := decide_eq_true (by omega)
    have a2 : decide (low ≤ n) = true := decide_eq_true h1
    by_cases h2 : n ≤ high
    · have a3 : decide (n ≤ high) = true := decide_eq_true h2
      have hfin : inB low high n = true := inB_iff.2 ⟨h1, h2⟩
      rw [hfin]
      clear hfin
      go_enter Try.func48, Try.ntmps48
      go_wp2
      go_ret
      exact ⟨rfl, rfl⟩
    · have a3 : decide (n ≤ high) = false := decide_eq_false h2
      have hfin : inB low high n = false := by rw [← Bool.not_eq_true]; intro h; exact h2 (inB_iff.1 h).2
      rw [hfin]
      clear hfin
      go_enter Try.func48, Try.ntmps48
      go_wp2
      go_ret
      exact ⟨rfl, rfl⟩
  · have a1 : decide (n ≥ low) = false := decide_eq_false (by omega)
    have a2 : decide (low ≤ n) = false := decide_eq_false h1
    have hfin : inB low high n = false := by rw [← Bool.not_eq_true]; intro h; exact h1 (inB_iff.1 h).1
    rw [hfin]
    clear hfin
    go_enter Try.func48, Try.ntmps48
    go_wp2
    go_ret
    exact ⟨rfl, rfl⟩

set_option maxHeartbeats 1000000 in
theorem Ints_any (A B : Option Addr) (n m c d : Nat) (xs ys : List Int) (w : World) (h : RdInts w A n xs) (h' : RdInts w B m ys) (hn : n ≤ maxLen) (hm : m ≤ maxLen) :
    Calls Try.prog 20 #[.slice A n c, .slice B m d] w fun e w' => e = .returned (.bool (decide (xs = ys))) ∧ ∃ q, w' = w.drewN q := by
  unfold maxLen at hn hm
  by_cases hl : n = m
  · subst hl
    have hE := hide (show decide (xs = ys) = decide (xs.take n = ys.take n) by rw [List.take_of_length_le (by rw [h.1]; exact Nat.le_refl _), List.take_of_length_le (by rw [h'.1]; exact Nat.le_refl _)])
    go_enter Try.func20, Try.ntmps20
    go_wp2
    go_loopg [5] n (fun g i wr => ∃ k q : Nat, k ≤ n ∧ n - k ≤ g ∧ i = .int .i64 k ∧ Hid (wr = w.drewN q) ∧ Hid (xs.take k = ys.take k))
    case atStart => exact ⟨0, 0, Nat.zero_le _, by omega, rfl, rfl, rfl⟩
    case round =>
      obtain ⟨k, q, hk, hg, rfl, hwq, hr⟩ := hrel
      by_cases hlt : k < n
      · have hltz : (k : Int) < (n : Int) := by omega
        have hk0 : (0 : Int) ≤ (k : Int) := by omega
        obtain ⟨b, off, rfl, hb, hc⟩ := h.2 (by omega)
        obtain ⟨b', off', rfl, hb', hc'⟩ := h'.2 (by omega)
        have hx : k < xs.length := by rw [h.1]; exact hlt
        have hy : k < ys.length := by rw [h'.1]; exact hlt
        have c1 : wr.cell? ⟨b, off + k, none⟩ = some (.int .i64 (xs[k]?.getD 0)) := by rw [hwq.out]; exact hc k hlt
        have c2 : wr.cell? ⟨b', off' + k, none⟩ = some (.int .i64 (ys[k]?.getD 0)) := by rw [hwq.out]; exact hc' k hlt
        rw [List.getElem?_eq_getElem hx] at c1
        rw [List.getElem?_eq_getElem hy] at c2
        simp only [Option.getD_some] at c1 c2
        have hne := hide (take_ne hx hy)
        have hnx := hide (take_next hx hy hr.out)
        generalize xs[k]'hx = x at *
        generalize ys[k]'hy = y at *
        replace h := hide h
        replace h' := hide h'
        clear hc hc' hx hy
        by_cases hxy : x = y
        · have hb1 : ((x : Int) != y) = false := by simp [hxy]
          replace hxy := hide hxy
          go_wp2
          go_quiet (fail)
          go_wp2
          go_roundg (n - (k + 1))
          case measure => omega
          case rel => exact ⟨k + 1, _, by omega, by omega, by go_num, hide (by rw [hwq.out]; exact World.drewN_drewN _ _ _), hnx.out hxy.out⟩
        · have hb1 : ((x : Int) != y) = true := by simp [hxy]
          have hfin := hide (show decide (xs = ys) = false by rw [decide_eq_false_iff_not]; exact hne.out hxy)
          replace hxy := hide hxy
          clear hE hne hnx
          go_wp2
          go_quiet (fail)
          go_wp2
          go_ret
          exact ⟨ret_bool hfin.out.symm, _, by rw [hwq.out]; exact World.drewN_drewN _ _ _⟩
      · have hltz : ¬ (k : Int) < (n : Int) := by omega
        obtain rfl : k = n := by omega
        have hfin := hide (show decide (xs = ys) = true by rw [hE.out, decide_eq_true_iff]; exact hr.out)
        clear hE
        replace h := hide h
        replace h' := hide h'
        go_wp2
        go_ret
        exact ⟨ret_bool hfin.out.symm, _, hwq.out⟩
  · have hne : xs ≠ ys := by
      rintro rfl; exact hl (h.1.symm.trans h'.1)
    have hb1 : ((n : Int) != (m : Int)) = true := by simp; omega
    have hfin := hide (show decide (xs = ys) = false by rw [decide_eq_false_iff_not]; exact hne)
    replace hne := hide hne
    replace h := hide h
    replace h' := hide h'
    go_enter Try.func20, Try.ntmps20
    go_wp2
    go_ret
    exact ⟨ret_bool hfin.out.symm, 0, rfl⟩

set_option maxHeartbeats 1000000 in
theorem Equal_any (A B : Option Addr) (n m c d : Nat) (xs ys : List (List Int)) (w : World) (h : RdPaps w A n xs) (h' : RdPaps w B m ys) (hn : n ≤ maxLen) (hm : m ≤ maxLen) :
    Calls Try.prog 32 #[.slice A n c, .slice B m d] w fun e w' => e = .returned (.bool (decide (xs = ys))) ∧ ∃ q, w' = w.drewN q := by
  unfold maxLen at hn hm
  by_cases hl : n = m
  · subst hl
    have hE := hide (show decide (xs = ys) = decide (xs.take n = ys.take n) by rw [List.take_of_length_le (by rw [h.1]; exact Nat.le_refl _), List.take_of_length_le (by rw [h'.1]; exact Nat.le_refl _)])
    go_enter Try.func32, Try.ntmps32
    go_wp2
    go_loopg [5] n (fun g i wr => ∃ k q : Nat, k ≤ n ∧ n - k ≤ g ∧ i = .int .i64 k ∧ Hid (wr = w.drewN q) ∧ Hid (xs.take k = ys.take k))
    case atStart => exact ⟨0, 0, Nat.zero_le _, by omega, rfl, rfl, rfl⟩
    case round =>
      obtain ⟨k, q, hk, hg, rfl, hwq, hr⟩ := hrel
      by_cases hlt : k < n
      · have hltz : (k : Int) < (n : Int) := by omega
        have hk0 : (0 : Int) ≤ (k : Int) := by omega
        obtain ⟨b, off, rfl, hb, hc⟩ := h.2 (by omega)
        obtain ⟨b', off', rfl, hb', hc'⟩ := h'.2 (by omega)
        have hx : k < xs.length := by rw [h.1]; exact hlt
        have hy : k < ys.length := by rw [h'.1]; exact hlt
        obtain ⟨Aj, cj, c1, r1, l1⟩ := hc k hlt
        obtain ⟨Aj', cj', c2, r2, l2⟩ := hc' k hlt
        replace c1 : wr.cell? ⟨b, off + k, none⟩ = some (.slice Aj (xs[k]?.getD []).length cj) := by rw [hwq.out]; exact c1
        replace c2 : wr.cell? ⟨b', off' + k, none⟩ = some (.slice Aj' (ys[k]?.getD []).length cj') := by rw [hwq.out]; exact c2
        have hcl : ∀ j, Calls Try.prog 20 #[.slice Aj (xs[k]?.getD []).length cj, .slice Aj' (ys[k]?.getD []).length cj'] (wr.drewN j) fun e w' => e = .returned (.bool (decide (xs[k]?.getD [] = ys[k]?.getD []))) ∧ ∃ m, w' = wr.drewN m := fun j => (Ints_any Aj Aj' _ _ cj cj' _ _ (wr.drewN j) (by rw [hwq.out]; exact r1) (by rw [hwq.out]; exact r2) l1 l2).mono fun e w' ⟨h1, m, h2⟩ => ⟨h1, j + m, by rw [h2]; exact World.drewN_drewN _ _ _⟩
        clear r1 r2 l1 l2
        rw [List.getElem?_eq_getElem hx] at c1 hcl
        rw [List.getElem?_eq_getElem hy] at c2 hcl
        simp only [Option.getD_some] at c1 c2 hcl
        have hne := hide (take_ne hx hy)
        have hnx := hide (take_next hx hy hr.out)
        generalize xs[k]'hx = x at *
        generalize ys[k]'hy = y at *
        replace h := hide h
        replace h' := hide h'
        clear hc hc' hx hy
        by_cases hxy : x = y
        · have hb1 : decide (x = y) = true := decide_eq_true hxy
          replace hxy := hide hxy
          rw [hb1] at hcl
          replace hcl := hide hcl
          clear hb1
          go_wp2
          go_quiet ((go_at_call 20; exact hcl.out _))
          go_wp2
          go_roundg (n - (k + 1))
          case measure => omega
          case rel => exact ⟨k + 1, _, by omega, by omega, by go_num, hide (by rw [hwq.out]; exact World.drewN_drewN _ _ _), hnx.out hxy.out⟩
        · have hb1 : decide (x = y) = false := decide_eq_false hxy
          have hfin := hide (show decide (xs = ys) = false by rw [decide_eq_false_iff_not]; exact hne.out hxy)
          replace hxy := hide hxy
          clear hE hne hnx
          rw [hb1] at hcl
          replace hcl := hide hcl
          clear hb1
          go_wp2
          go_quiet ((go_at_call 20; exact hcl.out _))
          go_wp2
          go_ret
          exact ⟨ret_bool hfin.out.symm, _, by rw [hwq.out]; exact World.drewN_drewN _ _ _⟩
      · have hltz : ¬ (k : Int) < (n : Int) := by omega
        obtain rfl : k = n := by omega
        have hfin := hide (show decide (xs = ys) = true by rw [hE.out, decide_eq_true_iff]; exact hr.out)
        clear hE
        replace h := hide h
        replace h' := hide h'
        go_wp2
        go_ret
        exact ⟨ret_bool hfin.out.symm, _, hwq.out⟩
  · have hne : xs ≠ ys := by
      rintro rfl; exact hl (h.1.symm.trans h'.1)
    have hb1 : ((n : Int) != (m : Int)) = true := by simp; omega
    have hfin := hide (show decide (xs = ys) = false by rw [decide_eq_false_iff_not]; exact hne)
    replace hne := hide hne
    replace h := hide h
    replace h' := hide h'
    go_enter Try.func32, Try.ntmps32
    go_wp2
    go_ret
    exact ⟨ret_bool hfin.out.symm, 0, rfl⟩
end Go.Proofs.Ytnmgnonbgihalaa

/-
  The laws' bank and hall; the package's answers as functions.
-/
namespace Go.Proofs.Ytnmgnonbgihalaa
open Go.RowKit RG

def B0 : Bank := ⟨[⟨0, 10, 2⟩, ⟨0, 0, 0⟩, ⟨1, 10, 3⟩, ⟨1, 5, 3⟩, ⟨1, 5, 2⟩], [1, 2], 1000, 1300⟩
theorem rdRow_blk {W : World} {g k : Nat} {t : TypeId} {xs : List (List Value)} (hk : ∀ x ∈ xs, x.length = k) (h : Blk W g t xs.flatten.toArray) : RdRow W (some ⟨g, 0, none⟩) xs.length k xs := by
  refine ⟨rfl, hk, fun hn => ⟨g, 0, rfl, h.lt, fun j i v hv => ?_⟩⟩
  rw [Nat.zero_add, h.cell, List.getElem?_toArray]
  exact (flat_get hk hv).2.2
theorem rdInts_blk {W : World} {g : Nat} {t : TypeId} {xs : List Int} (h : Blk W g t (xs.map (Value.int .i64)).toArray) : RdInts W (some ⟨g, 0, none⟩) xs.length xs := by
  refine ⟨rfl, fun hn => ⟨g, 0, rfl, h.lt, fun j hj => ?_⟩⟩
  rw [Nat.zero_add, h.cell, List.getElem?_toArray, List.getElem?_map, List.getElem?_eq_getElem hj]
  rfl
set_option maxRecDepth 100000 in
theorem Bank_any (w : World) : Calls Try.prog 35 #[] w fun e w' => (∃ Q Wd, e = .returned (bkV Q Wd 5 2 B0) ∧ BkR w' Q Wd B0) ∧ Below w.heap.size w w' := by
  go_enter Try.func35, Try.ntmps35
  go_wp2
  refine bodyPost_ret (v := bkV (some ⟨w.heap.size + 1, 0, none⟩) (some ⟨w.heap.size + 1 + 1, 0, none⟩) 5 2 B0) ?_ rfl ⟨⟨_, _, rfl, ?_, ?_, by decide, by decide⟩, ?_⟩
  · unfold bkV B0
    simp [results, Try.results35, go_sem]
  · exact rdRow_blk (xs := B0.qs.map qCells) (by decide) (Blk.alloc (blkNew (by simp)) _)
  · exact rdInts_blk (xs := B0.wanted) (blkNew (by simp))
  · exact (((Below.refl _ _).alloc (Nat.le_refl _) _).alloc (by simp <;> omega) _).alloc (by simp <;> omega) _
theorem Hall_any (c : Int) (w : World) : Calls Try.prog 52 #[.int .i64 c] w fun e w' => e = .returned (.agg #[.int .i64 1, .int .i64 3, .int .i64 c]) ∧ Below w.heap.size w w' := by
  go_enter Try.func52, Try.ntmps52
  go_wp2
  refine bodyPost_ret (v := .agg #[.int .i64 1, .int .i64 3, .int .i64 c]) ?_ rfl ⟨rfl, (Below.refl _ _).alloc (Nat.le_refl _) _⟩
  simp [results, Try.results52, go_sem]
/-- A list of numbers that can be read. -/
def LstV (xs : List Int) (v : Value) (w : World) : Prop := ∃ A c, v = .slice A xs.length c ∧ RdInts w A xs.length xs ∧ xs.length ≤ maxLen ∧ xs.length ≤ c
theorem LstV.below {xs : List Int} {v : Value} {w w' : World} (h : LstV xs v w) (hb : Below w.heap.size w w') : LstV xs v w' := by
  obtain ⟨A, c, e, h1, h2⟩ := h
  exact ⟨A, c, e, h1.below hb, h2⟩
theorem lstV_nil (w : World) : LstV [] (.slice none 0 0) w := ⟨none, 0, rfl, rdInts_nil _ _, by decide, by decide⟩
def nthE (B : Bank) (x : Int) : Int := if errP B ≠ 0 then errP B else if inB 0 (((papers B).length : Int) - 1) x = false then 4 else 0
def nthP (B : Bank) (x : Int) : List Int := if nthE B x = 0 then ppI B x.toNat else []
def numE (B : Bank) (xs : List Int) : Int := if errP B ≠ 0 then errP B else if isP B xs = false then 6 else 0
def numV (B : Bank) (xs : List Int) : Int := if numE B xs = 0 then (idxB B B.qs.length 0 (start4 B) 0 (xs.map Int.toNat) : Nat) else 0
def wtsP (B : Bank) : List Int := if errP B ≠ 0 then [] else weightsP B
theorem ints_back (q : List Nat) : (ints q).map Int.toNat = q := by unfold ints; rw [List.map_map]; exact (List.map_congr_left fun x _ => rfl).trans (List.map_id q)
theorem err_ok {B : Bank} (h : errP B = 0) : BankOk B := bank_ok h
theorem Weights_f (Q Wd : Option Addr) (cq cw : Nat) (B : Bank) (w : World) (h : BkR w Q Wd B) :
    Calls Try.prog 18 #[bkV Q Wd cq cw B] w fun e w' => (∃ v, e = .returned (.tuple #[v, .int .i64 (errP B)]) ∧ LstV (wtsP B) v w') ∧ Below w.heap.size w w' := by
  refine (Weights_any Q Wd cq cw B w h).mono ?_
  rintro e w' ⟨(⟨h1, rfl⟩ | ⟨h1, v, rfl, A, c, e2, h2, h3⟩), hb⟩
  · exact ⟨⟨_, rfl, by rw [wtsP, if_pos h1]; exact lstV_nil _⟩, hb⟩
  · have hk := (err_ok h1).nq
    refine ⟨⟨v, by rw [h1], ?_⟩, hb⟩
    rw [wtsP, if_neg (by simp [h1])]
    exact ⟨A, c, e2, h2, by unfold weightsP maxLen; rw [List.length_map, List.length_range]; omega, h3⟩
theorem Nth_f (Q Wd : Option Addr) (cq cw : Nat) (B : Bank) (x : Int) (w : World) (h : BkR w Q Wd B) :
    Calls Try.prog 24 #[bkV Q Wd cq cw B, .int .i64 x] w fun e w' => (∃ v, e = .returned (.tuple #[v, .int .i64 (nthE B x)]) ∧ LstV (nthP B x) v w') ∧ Below w.heap.size w w' := by
  refine (Nth_any Q Wd cq cw B x w h).mono ?_
  rintro e w' ⟨(⟨h1, rfl⟩ | ⟨h1, h2, rfl⟩ | ⟨h1, i, q, v, rfl, h2, rfl, hr⟩), hb⟩
  · have he : nthE B x = errP B := if_pos h1
    exact ⟨⟨_, by rw [he], by rw [nthP, he, if_neg h1]; exact lstV_nil _⟩, hb⟩
  · have he : nthE B x = 4 := by rw [nthE, if_neg (by simp [h1]), if_pos h2]
    exact ⟨⟨_, by rw [he], by rw [nthP, he, if_neg (by decide)]; exact lstV_nil _⟩, hb⟩
  · have hi := (List.getElem?_eq_some_iff.1 h2).1
    have he : nthE B i = 0 := by rw [nthE, if_neg (by simp [h1]), if_neg]; rw [Bool.not_eq_false, inB_iff]; omega
    refine ⟨⟨v, by rw [he], ?_⟩, hb⟩
    have hp : nthP B i = ints q := by rw [nthP, if_pos he, Int.toNat_natCast, ppI, h2, Option.getD_some]
    rw [hp]
    obtain ⟨A, c, e2, h3, h4, h5, -⟩ := hr.ints
    exact ⟨A, c, e2, h3, h4, h5⟩
theorem Number_f (Q Wd : Option Addr) (cq cw : Nat) (B : Bank) (A : Option Addr) (n cp : Nat) (xs : List Int) (w : World) (h : BkR w Q Wd B) (hX : RdInts w A n xs) (hn : n ≤ maxLen) :
    Calls Try.prog 26 #[bkV Q Wd cq cw B, .slice A n cp] w fun e w' => e = .returned (.tuple #[.int .i64 (numV B xs), .int .i64 (numE B xs)]) ∧ Below w.heap.size w w' := by
  refine (Number_any Q Wd cq cw B A n cp xs w h hX hn).mono ?_
  rintro e w' ⟨(⟨h1, rfl⟩ | ⟨h1, h2, rfl⟩ | ⟨h1, q, h2, h3, rfl⟩), hb⟩
  · have he : numE B xs = errP B := if_pos h1
    exact ⟨by rw [numV, he, if_neg h1], hb⟩
  · have he : numE B xs = 6 := by rw [numE, if_neg (by simp [h1]), if_pos h2]
    exact ⟨by rw [numV, he, if_neg (by decide)], hb⟩
  · have hp : isP B xs = true := (isP_mem (err_ok h1)).2 ⟨q, h2, h3⟩
    have he : numE B xs = 0 := by rw [numE, if_neg (by simp [h1]), if_neg (by rw [hp]; decide)]
    subst h2
    exact ⟨by rw [numV, he, if_pos rfl, ints_back], hb⟩
end Go.Proofs.Ytnmgnonbgihalaa

/-
  The laws' Awake.
-/
namespace Go.Proofs.Ytnmgnonbgihalaa
open Go.RowKit RG

theorem b0_err : errP B0 = 0 := by decide +kernel
theorem b0_wts : wtsP B0 = [200, 500, 300, 600, 400] := by decide +kernel
theorem b0_papers : papers B0 = [[0, 2, 3], [0, 3, 4], [1, 2, 4]] := by decide +kernel
theorem b0_count : countP B0 = 3 := by decide +kernel
theorem b0_nthE : nthE B0 2 = 0 := by decide +kernel
theorem b0_nth : nthP B0 2 = [1, 2, 4] := by decide +kernel
theorem b0_numE : numE B0 [0, 3, 4] = 0 := by decide +kernel
theorem b0_num : numV B0 [0, 3, 4] = 1 := by decide +kernel
theorem b0_drawE1 : drawE B0 1 3 1 [0, 0, 0] = 0 := by decide +kernel
theorem b0_drawR1 : drawR B0 1 3 1 [0, 0, 0] = [[0, 2, 3], [1, 2, 4], [0, 2, 3]] := by decide +kernel
theorem b0_drawE0 : drawE B0 1 3 0 [0, 0, 0] = 9 := by decide +kernel
theorem b0_acc : acceptP B0 1 3 0 [[0, 2, 3], [1, 2, 4], [0, 2, 3]] = (1, 5) := by decide +kernel
theorem b0_fairE : ∀ x ∈ [(1 : Int), 2, 3], fairE B0 x = 0 := by decide +kernel
theorem b0_levels : sortI (levelsP B0) = [1100, 1200, 1200] := by
  have h : levelsP B0 = [1100, 1200, 1200] := by decide +kernel
  rw [h]
  exact List.mergeSort_of_pairwise (by decide)
theorem b0_fair2 : fairV B0 2 = (1200, 1200) := by
  rw [fairV, if_pos (b0_fairE 2 (by decide)), b0_levels, b0_papers]
  decide +kernel
/-- AWAKE: the calls return what the document says of them. -/
theorem list3 {w W : World} {x y z : Int} (h : Blk W w.heap.size 3 #[.int .i64 x, .int .i64 y, .int .i64 z]) : RdInts W (some ⟨w.heap.size, 0, none⟩) 3 [x, y, z] := rdInts_blk (xs := [x, y, z]) h
set_option maxRecDepth 100000 in
set_option maxHeartbeats 4000000 in
theorem Awake_any (w : World) : Calls Try.prog 23 #[] w fun e w' => e = .returned (.bool true) ∧ Below w.heap.size w w' := by
  have hI := hide (fun (A B : Option Addr) (n m c d : Nat) (xs ys : List Int) (W : World) (h : RdInts W A n xs) (h' : RdInts W B m ys) (hn : n ≤ maxLen) (hm : m ≤ maxLen) => Ints_any A B n m c d xs ys W h h' hn hm)
  unfold bkV at *
  go_enter Try.func23, Try.ntmps23
  go_wp2_with fail
  refine (Bank_any _).mono ?_
  rintro e u1 ⟨⟨Q1, W1, rfl, hq1⟩, hb1⟩
  have hB1a := hide (hb1)
  unfold bkV
  have hc1 := hide (Weights_f Q1 W1 5 2 B0 u1 hq1)
  unfold bkV at hc1
  clear hq1 hb1
  go_wp2_with fail
  refine hc1.out.mono ?_
  rintro e v1 ⟨⟨lw, rfl, hlw⟩, hv1⟩
  rw [b0_err]
  rw [b0_wts] at hlw
  have lw_0 := hide hlw
  have hB1 := hide (hB1a.out.trans (hv1.mono hB1a.out.size))
  clear hc1 hlw hv1
  go_wp2_with fail
  refine (Bank_any _).mono ?_
  rintro e u2 ⟨⟨Q2, W2, rfl, hq2⟩, hb2⟩
  have hB2a := hide (hB1.out.trans (hb2.mono hB1.out.size))
  have lw_2a := hide (lw_0.out.below hb2)
  unfold bkV
  have hc2 := hide (Count_any Q2 W2 5 2 B0 u2 hq2)
  unfold bkV at hc2
  clear hq2 hb2
  go_wp2_with fail
  refine hc2.out.mono ?_
  rintro e v2 ⟨rfl, hv2⟩
  rw [b0_err, b0_count]
  have hB2 := hide (hB2a.out.trans (hv2.mono hB2a.out.size))
  have lw_2 := hide (lw_2a.out.below hv2)
  clear hc2 hv2
  go_wp2_with fail
  refine (Bank_any _).mono ?_
  rintro e u3 ⟨⟨Q3, W3, rfl, hq3⟩, hb3⟩
  have hB3a := hide (hB2.out.trans (hb3.mono hB2.out.size))
  have lw_3a := hide (lw_2.out.below hb3)
  unfold bkV
  have hc3 := hide (Nth_f Q3 W3 5 2 B0 2 u3 hq3)
  unfold bkV at hc3
  clear hq3 hb3
  go_wp2_with fail
  refine hc3.out.mono ?_
  rintro e v3 ⟨⟨ln, rfl, hln⟩, hv3⟩
  rw [b0_nthE]
  rw [b0_nth] at hln
  have ln_0 := hide hln
  have hB3 := hide (hB3a.out.trans (hv3.mono hB3a.out.size))
  have lw_3 := hide (lw_3a.out.below hv3)
  clear hc3 hln hv3
  go_wp2_with fail
  refine (Bank_any _).mono ?_
  rintro e u4 ⟨⟨Q4, W4, rfl, hq4⟩, hb4⟩
  have hB4a := hide (hB3.out.trans (hb4.mono hB3.out.size))
  have lw_4a := hide (lw_3.out.below hb4)
  have ln_4a := hide (ln_0.out.below hb4)
  unfold bkV
  obtain ⟨x4, hx4⟩ : ∃ y, u4.alloc (.cells #[.int .i64 0, .int .i64 3, .int .i64 4] 3) = y := ⟨_, rfl⟩
  have ha4 : Below u4.heap.size u4 x4 := by rw [← hx4]; exact (Below.refl _ _).alloc (Nat.le_refl _) _
  have hc4 := hide (Number_f Q4 W4 5 2 B0 (some ⟨u4.heap.size, 0, none⟩) 3 3 [0, 3, 4] x4 (hq4.below ha4) (list3 (by rw [← hx4]; exact blkNew rfl)) (by decide))
  unfold bkV at hc4
  have hB4b := hide (hB4a.out.trans (ha4.mono hB4a.out.size))
  have lw_4b := hide (lw_4a.out.below ha4)
  have ln_4b := hide (ln_4a.out.below ha4)
  replace hx4 := hide hx4
  clear hq4 hb4 ha4
  go_wp2_with fail
  rw [hx4.out]
  refine hc4.out.mono ?_
  rintro e v4 ⟨rfl, hv4⟩
  rw [b0_num, b0_numE]
  have hB4 := hide (hB4b.out.trans (hv4.mono hB4b.out.size))
  have lw_4 := hide (lw_4b.out.below hv4)
  have ln_4 := hide (ln_4b.out.below hv4)
  clear hc4 hv4
  go_wp2_with fail
  refine (Bank_any _).mono ?_
  rintro e u5 ⟨⟨Q5, W5, rfl, hq5⟩, hb5⟩
  have hB5a := hide (hB4.out.trans (hb5.mono hB4.out.size))
  have lw_5a := hide (lw_4.out.below hb5)
  have ln_5a := hide (ln_4.out.below hb5)
  unfold bkV
  clear hb5
  go_wp2_with fail
  refine (Hall_any _ _).mono ?_
  rintro e y5 ⟨rfl, hy5⟩
  have hB5h := hide (hB5a.out.trans (hy5.mono hB5a.out.size))
  have lw_5h := hide (lw_5a.out.below hy5)
  have ln_5h := hide (ln_5a.out.below hy5)
  obtain ⟨x5, hx5⟩ : ∃ y, y5.alloc (.cells #[.int .i64 0, .int .i64 0, .int .i64 0] 3) = y := ⟨_, rfl⟩
  have ha5 : Below y5.heap.size y5 x5 := by rw [← hx5]; exact (Below.refl _ _).alloc (Nat.le_refl _) _
  have hc5 := hide (Draw_any Q5 W5 5 2 B0 1 3 1 (some ⟨y5.heap.size, 0, none⟩) 3 3 [0, 0, 0] x5 ((hq5.below hy5).below ha5) (list3 (by rw [← hx5]; exact blkNew rfl)) (by decide))
  unfold bkV at hc5
  have hB5b := hide (hB5h.out.trans (ha5.mono hB5h.out.size))
  have lw_5b := hide (lw_5h.out.below ha5)
  have ln_5b := hide (ln_5h.out.below ha5)
  replace hx5 := hide hx5
  clear hq5 hy5 ha5
  go_wp2_with fail
  rw [hx5.out]
  refine hc5.out.mono ?_
  rintro e v5 ⟨⟨ld, rfl, hld⟩, hv5⟩
  rw [b0_drawE1]
  rw [b0_drawR1] at hld
  have hB5 := hide (hB5b.out.trans (hv5.mono hB5b.out.size))
  have ld_0 := hide hld
  have lw_5 := hide (lw_5b.out.below hv5)
  have ln_5 := hide (ln_5b.out.below hv5)
  clear hc5 hv5 hld
  go_wp2_with fail
  refine (Bank_any _).mono ?_
  rintro e u6 ⟨⟨Q6, W6, rfl, hq6⟩, hb6⟩
  have hB6a := hide (hB5.out.trans (hb6.mono hB5.out.size))
  have lw_6a := hide (lw_5.out.below hb6)
  have ln_6a := hide (ln_5.out.below hb6)
  have ld_6a := hide (ld_0.out.below hb6)
  unfold bkV
  clear hb6
  go_wp2_with fail
  refine (Hall_any _ _).mono ?_
  rintro e y6 ⟨rfl, hy6⟩
  have hB6h := hide (hB6a.out.trans (hy6.mono hB6a.out.size))
  have lw_6h := hide (lw_6a.out.below hy6)
  have ln_6h := hide (ln_6a.out.below hy6)
  have ld_6h := hide (ld_6a.out.below hy6)
  obtain ⟨Ad, cd, rfl, hps, -, -⟩ := ld_6h.out.paps
  have hc6 := hide (Accept_any Q6 W6 5 2 B0 1 3 0 Ad 3 cd _ y6 (hq6.below hy6) hps)
  rw [b0_acc] at hc6
  unfold bkV at hc6
  clear hq6 hy6 hps
  go_wp2_with fail
  refine hc6.out.mono ?_
  rintro e v6 ⟨rfl, hv6⟩
  have hB6 := hide (hB6h.out.trans (hv6.mono hB6h.out.size))
  have lw_6 := hide (lw_6h.out.below hv6)
  have ln_6 := hide (ln_6h.out.below hv6)
  have ld_6 := hide (ld_6h.out.below hv6)
  clear hc6 hv6
  go_wp2_with fail
  refine (Bank_any _).mono ?_
  rintro e u7 ⟨⟨Q7, W7, rfl, hq7⟩, hb7⟩
  have hB7a := hide (hB6.out.trans (hb7.mono hB6.out.size))
  have lw_7a := hide (lw_6.out.below hb7)
  have ln_7a := hide (ln_6.out.below hb7)
  have ld_7a := hide (ld_6.out.below hb7)
  unfold bkV
  have hc7 := hide (Fair_any Q7 W7 5 2 B0 2 u7 hq7)
  rw [b0_fair2, b0_fairE 2 (by decide)] at hc7
  unfold bkV at hc7
  clear hq7 hb7
  go_wp2_with fail
  refine hc7.out.mono ?_
  rintro e v7 ⟨rfl, hv7⟩
  have hB7 := hide (hB7a.out.trans (hv7.mono hB7a.out.size))
  have lw_7 := hide (lw_7a.out.below hv7)
  have ln_7 := hide (ln_7a.out.below hv7)
  have ld_7 := hide (ld_7a.out.below hv7)
  clear hc7 hv7
  obtain ⟨x7, hx7⟩ : ∃ y, v7.alloc (.cells #[.int .i64 1200, .int .i64 1200] 25) = y := ⟨_, rfl⟩
  have ha7 : Below v7.heap.size v7 x7 := by rw [← hx7]; exact (Below.refl _ _).alloc (Nat.le_refl _) _
  have sp_0 := hide (show Blk x7 v7.heap.size 25 #[.int .i64 1200, .int .i64 1200] by rw [← hx7]; exact blkNew rfl)
  have hB7b := hide (hB7.out.trans (ha7.mono hB7.out.size))
  have lw_7b := hide (lw_7.out.below ha7)
  have ln_7b := hide (ln_7.out.below ha7)
  have ld_7b := hide (ld_7.out.below ha7)
  replace hx7 := hide hx7
  clear ha7
  go_upto_region 8 with fail
  rw [hx7.out]
  go_wp2_with fail
  refine (Bank_any _).mono ?_
  rintro e u8 ⟨⟨Q8, W8, rfl, hq8⟩, hb8⟩
  have hB8a := hide (hB7b.out.trans (hb8.mono hB7b.out.size))
  have lw_8a := hide (lw_7b.out.below hb8)
  have ln_8a := hide (ln_7b.out.below hb8)
  have ld_8a := hide (ld_7b.out.below hb8)
  have sp_8a := hide (sp_0.out.below hb8 sp_0.out.lt)
  unfold bkV
  clear hb8
  go_wp2_with fail
  refine (Hall_any _ _).mono ?_
  rintro e y8 ⟨rfl, hy8⟩
  have hB8h := hide (hB8a.out.trans (hy8.mono hB8a.out.size))
  have lw_8h := hide (lw_8a.out.below hy8)
  have ln_8h := hide (ln_8a.out.below hy8)
  have ld_8h := hide (ld_8a.out.below hy8)
  have sp_8h := hide (sp_8a.out.below hy8 sp_8a.out.lt)
  obtain ⟨x8, hx8⟩ : ∃ y, y8.alloc (.cells #[.int .i64 0, .int .i64 0, .int .i64 0] 3) = y := ⟨_, rfl⟩
  have ha8 : Below y8.heap.size y8 x8 := by rw [← hx8]; exact (Below.refl _ _).alloc (Nat.le_refl _) _
  have hc8 := hide (Draw_any Q8 W8 5 2 B0 1 3 0 (some ⟨y8.heap.size, 0, none⟩) 3 3 [0, 0, 0] x8 ((hq8.below hy8).below ha8) (list3 (by rw [← hx8]; exact blkNew rfl)) (by decide))
  unfold bkV at hc8
  have hB8b := hide (hB8h.out.trans (ha8.mono hB8h.out.size))
  have lw_8b := hide (lw_8h.out.below ha8)
  have ln_8b := hide (ln_8h.out.below ha8)
  have ld_8b := hide (ld_8h.out.below ha8)
  have sp_8b := hide (sp_8h.out.below ha8 sp_8h.out.lt)
  replace hx8 := hide hx8
  clear hq8 hy8 ha8
  go_wp2_with fail
  rw [hx8.out]
  refine hc8.out.mono ?_
  rintro e v8 ⟨⟨l8, rfl, -⟩, hv8⟩
  rw [b0_drawE0]
  have hB8 := hide (hB8b.out.trans (hv8.mono hB8b.out.size))
  have lw_8 := hide (lw_8b.out.below hv8)
  have ln_8 := hide (ln_8b.out.below hv8)
  have ld_8 := hide (ld_8b.out.below hv8)
  have sp_8 := hide (sp_8b.out.below hv8 sp_8b.out.lt)
  clear hc8 hv8
  obtain ⟨x9, hx9⟩ : ∃ y, v8.alloc (.cells #[.int .i64 200, .int .i64 500, .int .i64 300, .int .i64 600, .int .i64 400] 3) = y := ⟨_, rfl⟩
  have ha9 : Below v8.heap.size v8 x9 := by rw [← hx9]; exact (Below.refl _ _).alloc (Nat.le_refl _) _
  have rd9 : RdInts x9 (some ⟨v8.heap.size, 0, none⟩) 5 [200, 500, 300, 600, 400] := rdInts_blk (xs := [200, 500, 300, 600, 400]) (by rw [← hx9]; exact blkNew rfl)
  have hB9a := hide (hB8.out.trans (ha9.mono hB8.out.size))
  have lw_9a := hide (lw_8.out.below ha9)
  have ln_9a := hide (ln_8.out.below ha9)
  have ld_9a := hide (ld_8.out.below ha9)
  have sp_9a := hide (sp_8.out.below ha9 sp_8.out.lt)
  obtain ⟨A9, c9, rfl, r9, m9, -⟩ := lw_9a.out
  have hc9 := hide (hI.out A9 _ _ _ c9 5 _ _ x9 r9 rd9 m9 (by decide))
  rw [show decide (([200, 500, 300, 600, 400] : List Int) = [200, 500, 300, 600, 400]) = true from decide_eq_true rfl] at hc9
  replace hx9 := hide hx9
  clear ha9 rd9 r9 m9
  go_wp2_with fail
  rw [hx9.out]
  refine hc9.out.mono ?_
  rintro e z9 ⟨rfl, q9, hz9⟩
  have hv9 : Below x9.heap.size x9 z9 := by rw [hz9]; exact below_drewN (Below.refl _ _) _
  have hB9 := hide (hB9a.out.trans (hv9.mono hB9a.out.size))
  have lw_9 := hide (lw_9a.out.below hv9)
  have ln_9 := hide (ln_9a.out.below hv9)
  have ld_9 := hide (ld_9a.out.below hv9)
  have sp_9 := hide (sp_9a.out.below hv9 sp_9a.out.lt)
  clear hc9 hv9 hz9
  obtain ⟨x10, hx10⟩ : ∃ y, z9.alloc (.cells #[.int .i64 1, .int .i64 2, .int .i64 4] 3) = y := ⟨_, rfl⟩
  have ha10 : Below z9.heap.size z9 x10 := by rw [← hx10]; exact (Below.refl _ _).alloc (Nat.le_refl _) _
  have rd10 : RdInts x10 (some ⟨z9.heap.size, 0, none⟩) 3 [1, 2, 4] := rdInts_blk (xs := [1, 2, 4]) (by rw [← hx10]; exact blkNew rfl)
  have hB10a := hide (hB9.out.trans (ha10.mono hB9.out.size))
  have lw_10a := hide (lw_9.out.below ha10)
  have ln_10a := hide (ln_9.out.below ha10)
  have ld_10a := hide (ld_9.out.below ha10)
  have sp_10a := hide (sp_9.out.below ha10 sp_9.out.lt)
  obtain ⟨A10, c10, rfl, r10, m10, -⟩ := ln_10a.out
  have hc10 := hide (hI.out A10 _ _ _ c10 3 _ _ x10 r10 rd10 m10 (by decide))
  rw [show decide (([1, 2, 4] : List Int) = [1, 2, 4]) = true from decide_eq_true rfl] at hc10
  replace hx10 := hide hx10
  clear ha10 rd10 r10 m10
  go_wp2_with fail
  rw [hx10.out]
  refine hc10.out.mono ?_
  rintro e z10 ⟨rfl, q10, hz10⟩
  have hv10 : Below x10.heap.size x10 z10 := by rw [hz10]; exact below_drewN (Below.refl _ _) _
  have hB10 := hide (hB10a.out.trans (hv10.mono hB10a.out.size))
  have lw_10 := hide (lw_10a.out.below hv10)
  have ln_10 := hide (ln_10a.out.below hv10)
  have ld_10 := hide (ld_10a.out.below hv10)
  have sp_10 := hide (sp_10a.out.below hv10 sp_10a.out.lt)
  clear hc10 hv10 hz10
  obtain ⟨y0, hy0⟩ : ∃ y, (((z10.alloc (.cells #[.int .i64 0, .int .i64 2, .int .i64 3] 3)).alloc (.cells #[.int .i64 1, .int .i64 2, .int .i64 4] 3)).alloc (.cells #[.int .i64 0, .int .i64 2, .int .i64 3] 3)).alloc (.cells #[.slice (some ⟨z10.heap.size, 0, none⟩) 3 3, .slice (some ⟨z10.heap.size + 1, 0, none⟩) 3 3, .slice (some ⟨z10.heap.size + 1 + 1, 0, none⟩) 3 3] 23) = y := ⟨_, rfl⟩
  have hay : Below z10.heap.size z10 y0 := by rw [← hy0]; exact ((((Below.refl _ _).alloc (Nat.le_refl _) _).alloc (by simp <;> omega) _).alloc (by simp <;> omega) _).alloc (by simp <;> omega) _
  have rr0 : RdInts y0 (some ⟨z10.heap.size, 0, none⟩) 3 [0, 2, 3] := rdInts_blk (xs := [0, 2, 3]) (by rw [← hy0]; exact (((blkNew rfl).alloc _).alloc _).alloc _)
  have rr1 : RdInts y0 (some ⟨z10.heap.size + 1, 0, none⟩) 3 [1, 2, 4] := rdInts_blk (xs := [1, 2, 4]) (by rw [← hy0]; exact ((blkNew (by simp)).alloc _).alloc _)
  have rr2 : RdInts y0 (some ⟨z10.heap.size + 1 + 1, 0, none⟩) 3 [0, 2, 3] := rdInts_blk (xs := [0, 2, 3]) (by rw [← hy0]; exact (blkNew (by simp)).alloc _)
  have bb : Blk y0 (z10.heap.size + 1 + 1 + 1) 23 #[.slice (some ⟨z10.heap.size, 0, none⟩) 3 3, .slice (some ⟨z10.heap.size + 1, 0, none⟩) 3 3, .slice (some ⟨z10.heap.size + 1 + 1, 0, none⟩) 3 3] := by rw [← hy0]; exact blkNew (by simp)
  have rp : RdPaps y0 (some ⟨z10.heap.size + 1 + 1 + 1, 0, none⟩) 3 [[0, 2, 3], [1, 2, 4], [0, 2, 3]] := ⟨rfl, fun _ => ⟨_, 0, rfl, bb.lt, fun j hj => by
    match j, hj with
    | 0, _ => exact ⟨_, _, bb.cell 0, rr0, by decide⟩
    | 1, _ => exact ⟨_, _, bb.cell 1, rr1, by decide⟩
    | 2, _ => exact ⟨_, _, bb.cell 2, rr2, by decide⟩⟩⟩
  have hBya := hide (hB10.out.trans (hay.mono hB10.out.size))
  have lw_11a := hide (lw_10.out.below hay)
  have ln_11a := hide (ln_10.out.below hay)
  have ld_11a := hide (ld_10.out.below hay)
  have sp_11a := hide (sp_10.out.below hay sp_10.out.lt)
  obtain ⟨Ae, ce, ee, re, -, -⟩ := ld_11a.out.paps
  cases ee
  have hce := hide (Equal_any Ad (some ⟨z10.heap.size + 1 + 1 + 1, 0, none⟩) 3 3 cd 3 _ _ y0 re rp (by decide) (by decide))
  rw [show decide (([[0, 2, 3], [1, 2, 4], [0, 2, 3]] : List (List Int)) = [[0, 2, 3], [1, 2, 4], [0, 2, 3]]) = true from decide_eq_true rfl] at hce
  replace hy0 := hide hy0
  clear hay rr0 rr1 rr2 bb rp re
  go_wp2_with fail
  rw [hy0.out]
  refine hce.out.mono ?_
  rintro e zz ⟨rfl, qq, hzz⟩
  have hvz : Below y0.heap.size y0 zz := by rw [hzz]; exact below_drewN (Below.refl _ _) _
  have hBz := hide (hBya.out.trans (hvz.mono hBya.out.size))
  have lw_12 := hide (lw_11a.out.below hvz)
  have ln_12 := hide (ln_11a.out.below hvz)
  have ld_12 := hide (ld_11a.out.below hvz)
  have sp_12 := hide (sp_11a.out.below hvz sp_11a.out.lt)
  have sp0 : zz.cell? ⟨v7.heap.size, 0, none⟩ = some (.int .i64 1200) := sp_12.out.cell 0
  have sp1 : zz.cell? ⟨v7.heap.size, 1, none⟩ = some (.int .i64 1200) := sp_12.out.cell 1
  clear hce hvz hzz
  go_wp2
  go_ret
  exact ⟨rfl, hBz.out⟩
end Go.Proofs.Ytnmgnonbgihalaa
