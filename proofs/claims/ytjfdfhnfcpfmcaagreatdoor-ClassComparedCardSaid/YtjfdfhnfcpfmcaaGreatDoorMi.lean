import Derived.Test.YtjfdfhnfcpfmcaaGreatDoorMd
import Derived.Test.YtjfdfhnfcpfmcaaGreatDoorMe
import Derived.Test.YtjfdfhnfcpfmcaaGreatDoorMc
import Derived.Test.YtjfdfhnfcpfmcaaGreatDoorMa
/-
  The examples' system and rights: what System and Rights return.
-/
namespace Go.Proofs.YtjfdfhnfcpfmcaaGreatDoor
open Go.RowKit RG

/-- The system of the examples. -/
def S0 : Sys := { cs := [⟨⟨#[97, 109]⟩, [], -1, 16, 0⟩, ⟨⟨#[98]⟩, [0], -1, 18, 15⟩, ⟨⟨#[98, 101]⟩, [1], 1, 18, 15⟩, ⟨⟨#[99]⟩, [1], 1, 21, 5⟩], codes := [⟨#[109, 97, 110, 117, 97, 108]⟩, ⟨#[110, 105, 103, 104, 116]⟩] }
/-- The rights of the examples. -/
def R0 : List (Int × Int) := [(1, 1), (2, 3), (0, 0)]

theorem rdRow_blk {w : World} {g n k : Nat} {t : TypeId} {cs : Array Value} {xs : List (List Value)} (h : Blk w g t cs) (hn : xs.length = n) (hk : ∀ x ∈ xs, x.length = k)
    (hc : ∀ j i, j < n → i < k → cs[j * k + i]? = (xs[j]?.getD [])[i]?) : RdRow w (some ⟨g, 0, none⟩) n k xs := by
  refine ⟨hn, hk, fun _ => ⟨g, 0, rfl, h.lt, fun j i v hv => ?_⟩⟩
  rcases Nat.lt_or_ge j n with hj | hj
  · have hl : (xs[j]?.getD []).length = k := by
      have hl : j < xs.length := by rw [hn]; exact hj
      rw [List.getElem?_eq_getElem hl]
      exact hk _ (List.getElem_mem hl)
    have hi : i < k := by
      rcases Nat.lt_or_ge i k with h' | h'
      · exact h'
      · rw [List.getElem?_eq_none (l := xs[j]?.getD []) (i := i) (by rw [hl]; exact h')] at hv; cases hv
    rw [Nat.zero_add, h.cell, hc j i hj hi, hv]
  · rw [List.getElem?_eq_none (l := xs) (i := j) (by rw [hn]; exact hj)] at hv
    simp at hv

/-- The value v is the system of the examples. -/
def IsS0 : Value → World → Prop := fun v w => ∃ A A2, v = .agg #[.slice A S0.cs.length 4, .slice A2 S0.codes.length 2] ∧ InMem w A A2 4 2 S0
theorem IsS0.stb : Stb IsS0 := fun _ _ _ hb ⟨A, A2, e, h⟩ => ⟨A, A2, e, h.below hb⟩
/-- The value v is a slice of the rights rs. -/
def IsRts (rs : List (Int × Int)) : Value → World → Prop := fun v w => ∃ A c, v = .slice A rs.length c ∧ RdRts w A rs.length rs
theorem IsRts.stb (rs : List (Int × Int)) : Stb (IsRts rs) := fun _ _ _ hb ⟨A, c, e, h⟩ => ⟨A, c, e, h.below hb⟩

theorem Blk.new_ {w : World} {g : Nat} {t : TypeId} {cs : Array Value} (h : g = w.heap.size) : Blk (w.alloc (.cells cs t)) g t cs := by subst h; exact Blk.new _ _ _
theorem rdInts_blk {w : World} {g : Nat} {t : TypeId} {x : Int} (h : Blk w g t #[.int .i64 x]) : RdInts w (some ⟨g, 0, none⟩) 1 [x] := by
  refine ⟨rfl, fun _ => ⟨g, 0, rfl, h.lt, fun j hj => ?_⟩⟩
  obtain rfl : j = 0 := by omega
  exact h.cell 0
def xs0 (g1 g2 g3 : Nat) : List (List Value) := [[.string ⟨#[97, 109]⟩, .slice none 0 0, .int .i64 (-1), .int .i64 16, .int .i64 0], [.string ⟨#[98]⟩, .slice (some ⟨g1, 0, none⟩) 1 1, .int .i64 (-1), .int .i64 18, .int .i64 15],
  [.string ⟨#[98, 101]⟩, .slice (some ⟨g2, 0, none⟩) 1 1, .int .i64 1, .int .i64 18, .int .i64 15], [.string ⟨#[99]⟩, .slice (some ⟨g3, 0, none⟩) 1 1, .int .i64 1, .int .i64 21, .int .i64 5]]
theorem inMem_S0 {W : World} {g1 g2 g3 gc gn : Nat} (b1 : Blk W g1 3 #[.int .i64 0]) (b2 : Blk W g2 3 #[.int .i64 1]) (b3 : Blk W g3 3 #[.int .i64 1])
    (bc : Blk W gc 93 (xs0 g1 g2 g3).flatten.toArray) (bn : Blk W gn 9 #[.string ⟨#[109, 97, 110, 117, 97, 108]⟩, .string ⟨#[110, 105, 103, 104, 116]⟩]) :
    InMem W (some ⟨gc, 0, none⟩) (some ⟨gn, 0, none⟩) 4 2 S0 := by
  refine ⟨⟨xs0 g1 g2 g3, rdRow_blk bc rfl (by simp [xs0]) ?_, rfl, by unfold maxLen; decide, ?_⟩, by decide, ⟨rfl, ?_, fun _ => ⟨gn, 0, rfl, bn.lt, ?_⟩⟩, by decide, by unfold maxLen; decide⟩
  · intro j i hj hi
    have hj' : j < 4 := hj
    rcases (show j = 0 ∨ j = 1 ∨ j = 2 ∨ j = 3 by omega) with rfl | rfl | rfl | rfl <;> rcases (show i = 0 ∨ i = 1 ∨ i = 2 ∨ i = 3 ∨ i = 4 by omega) with rfl | rfl | rfl | rfl | rfl <;> rfl
  · intro j hj
    have hj' : j < 4 := hj
    rcases (show j = 0 ∨ j = 1 ∨ j = 2 ∨ j = 3 by omega) with rfl | rfl | rfl | rfl
    · exact ⟨none, 0, rfl, rdInts_nil _ _, by decide, by decide⟩
    · exact ⟨_, 1, rfl, rdInts_blk b1, by decide, by decide⟩
    · exact ⟨_, 1, rfl, rdInts_blk b2, by decide, by decide⟩
    · exact ⟨_, 1, rfl, rdInts_blk b3, by decide, by decide⟩
  · intro x hx
    simp only [S0, List.mem_cons, List.not_mem_nil, or_false] at hx
    rcases hx with rfl | rfl <;> decide
  · intro j x hx
    match j, hx with
    | 0, hx => simp only [S0] at hx; cases hx; exact bn.cell 0
    | 1, hx => simp only [S0] at hx; cases hx; exact bn.cell 1
    | j + 2, hx => simp [S0] at hx

theorem System_any (w : World) : Calls Tryz.prog 47 #[] w fun e w' => (∃ v, e = .returned v ∧ IsS0 v w') ∧ Below w.heap.size w w' := by
  go_enter Tryz.func47, Tryz.ntmps47
  go_wp2
  refine bodyPost_ret (v := .agg #[.slice (some ⟨w.heap.size + 1 + 1 + 1 + 1, 0, none⟩) 4 4, .slice (some ⟨w.heap.size + 1 + 1 + 1 + 1 + 1, 0, none⟩) 2 2]) (by simp [results, Tryz.results47, go_sem]) rfl ⟨⟨_, rfl, ?_⟩, ?_⟩
  · refine ⟨_, _, rfl, ?_⟩
    exact inMem_S0 (g1 := w.heap.size + 1) (g2 := w.heap.size + 1 + 1) (g3 := w.heap.size + 1 + 1 + 1)
      (((((Blk.new_ (by simp)).alloc _).alloc _).alloc _).alloc _) ((((Blk.new_ (by simp)).alloc _).alloc _).alloc _) (((Blk.new_ (by simp)).alloc _).alloc _) ((Blk.new_ (by simp)).alloc _) (Blk.new_ (by simp))
  · exact ((((((Below.refl _ _).alloc (Nat.le_refl _) _).alloc (by simp) _).alloc (by simp +arith) _).alloc (by simp +arith) _).alloc (by simp +arith) _).alloc (by simp +arith) _
theorem Rights_any (w : World) : Calls Tryz.prog 48 #[] w fun e w' => (∃ v, e = .returned v ∧ IsRts R0 v w') ∧ Below w.heap.size w w' := by
  go_enter Tryz.func48, Tryz.ntmps48
  go_wp2
  go_ret
  refine ⟨⟨_, rfl, _, _, rfl, rdRow_blk (Blk.new _ _ _) rfl (by simp [R0, rtCells]) ?_, by unfold maxLen; decide⟩, (Below.refl _ _).alloc (Nat.le_refl _) _⟩
  intro j i hj hi
  have hj' : j < 3 := hj
  rcases (show j = 0 ∨ j = 1 ∨ j = 2 by omega) with rfl | rfl | rfl <;> rcases (show i = 0 ∨ i = 1 by omega) with rfl | rfl <;> rfl
end Go.Proofs.YtjfdfhnfcpfmcaaGreatDoor

/-
  The reference's in, Ints and Same.
-/
namespace Go.Proofs.YtjfdfhnfcpfmcaaGreatDoor
open Go.RowKit RG

theorem in_any (x lo hi : Int) (w : World) : Calls Tryz.prog 59 #[.int .i64 x, .int .i64 lo, .int .i64 hi] w fun e w' => e = .returned (.bool (inB lo hi x)) ∧ w = w' := by
  by_cases h1 : lo ≤ x
  · by_cases h2 : x ≤ hi
    · go_enter Tryz.func59, Tryz.ntmps59
      go_wp2
      go_ret
      exact ⟨ret_bool (by simp [inB, h1, h2]), rfl⟩
    · have h2' : hi < x := by omega
      go_enter Tryz.func59, Tryz.ntmps59
      go_wp2
      go_ret
      exact ⟨ret_bool (by simp [inB, h2]), rfl⟩
  · have h1' : x < lo := by omega
    go_enter Tryz.func59, Tryz.ntmps59
    go_wp2
    go_ret
    exact ⟨ret_bool (by simp [inB]; omega), rfl⟩

theorem take_ne {α : Type} {xs ys : List α} {k : Nat} (hx : k < xs.length) (hy : k < ys.length) (h : xs[k] ≠ ys[k]) : xs ≠ ys := by
  rintro rfl; exact h rfl
theorem take_next {α : Type} {xs ys : List α} {k : Nat} (hx : k < xs.length) (hy : k < ys.length) (hr : xs.take k = ys.take k) (h : xs[k] = ys[k]) : xs.take (k + 1) = ys.take (k + 1) := by
  rw [List.take_succ_eq_append_getElem hx, List.take_succ_eq_append_getElem hy, hr, h]

set_option maxHeartbeats 1000000 in
theorem Ints_any (A B : Option Addr) (n m c d : Nat) (xs ys : List Int) (w : World) (h : RdInts w A n xs) (h' : RdInts w B m ys) (hn : n ≤ maxLen) (hm : m ≤ maxLen) :
    Calls Tryz.prog 33 #[.slice A n c, .slice B m d] w fun e w' => e = .returned (.bool (decide (xs = ys))) ∧ Below w.heap.size w w' := by
  unfold maxLen at hn hm
  by_cases hl : n = m
  · subst hl
    have hE := hide (show decide (xs = ys) = decide (xs.take n = ys.take n) by rw [List.take_of_length_le (by rw [h.1]; exact Nat.le_refl _), List.take_of_length_le (by rw [h'.1]; exact Nat.le_refl _)])
    go_enter Tryz.func33, Tryz.ntmps33
    go_wp2
    go_loopg [5] n (fun g i wr => ∃ k : Nat, k ≤ n ∧ n - k ≤ g ∧ i = .int .i64 k ∧ Hid (Below w.heap.size w wr) ∧ Hid (xs.take k = ys.take k))
    case atStart => exact ⟨0, Nat.zero_le _, by omega, rfl, Below.refl _ _, rfl⟩
    case round =>
      obtain ⟨k, hk, hg, rfl, BW, hr⟩ := hrel
      by_cases hlt : k < n
      · have hltz : (k : Int) < (n : Int) := by omega
        have hk0 : (0 : Int) ≤ (k : Int) := by omega
        obtain ⟨b, off, rfl, hb, hc⟩ := h.2 (by omega)
        obtain ⟨b', off', rfl, hb', hc'⟩ := h'.2 (by omega)
        have hx : k < xs.length := by rw [h.1]; exact hlt
        have hy : k < ys.length := by rw [h'.1]; exact hlt
        have c1 := (cellB BW.out hb).trans (hc k hlt)
        have c2 := (cellB BW.out hb').trans (hc' k hlt)
        rw [List.getElem?_eq_getElem hx] at c1
        rw [List.getElem?_eq_getElem hy] at c2
        simp only [Option.getD_some] at c1 c2
        have hne := hide (take_ne hx hy)
        have hnx := hide (take_next hx hy hr.out)
        generalize xs[k]'hx = x at *
        generalize ys[k]'hy = y at *
        replace h := hide h
        replace h' := hide h'
        clear hc hc' hx hy
        by_cases hxy : x = y
        · have hb1 : ((x : Int) != y) = false := by simp [hxy]
          replace hxy := hide hxy
          go_wp2
          go_quiet (fail)
          go_wp2
          go_roundg (n - (k + 1))
          case measure => omega
          case rel => exact ⟨k + 1, by omega, by omega, by go_num, below_drewN BW.out _, hnx.out hxy.out⟩
        · have hb1 : ((x : Int) != y) = true := by simp [hxy]
          have hfin := hide (show decide (xs = ys) = false by rw [decide_eq_false_iff_not]; exact hne.out hxy)
          replace hxy := hide hxy
          clear hE hne hnx
          go_wp2
          go_quiet (fail)
          go_wp2
          go_ret
          exact ⟨ret_bool hfin.out.symm, below_drewN BW.out _⟩
      · have hltz : ¬ (k : Int) < (n : Int) := by omega
        obtain rfl : k = n := by omega
        have hfin := hide (show decide (xs = ys) = true by rw [hE.out, decide_eq_true_iff]; exact hr.out)
        clear hE
        replace h := hide h
        replace h' := hide h'
        go_wp2
        go_ret
        exact ⟨ret_bool hfin.out.symm, BW.out⟩
  · have hne : xs ≠ ys := by
      rintro rfl; exact hl (h.1.symm.trans h'.1)
    have hb1 : ((n : Int) != (m : Int)) = true := by simp; omega
    have hfin := hide (show decide (xs = ys) = false by rw [decide_eq_false_iff_not]; exact hne)
    replace hne := hide hne
    replace h := hide h
    replace h' := hide h'
    go_enter Tryz.func33, Tryz.ntmps33
    go_wp2
    go_ret
    exact ⟨ret_bool hfin.out.symm, Below.refl _ _⟩

theorem row_at (rs : List (Int × Int)) (j : Nat) (h : j < rs.length) : (rs.map rtCells)[j]?.getD [] = [.int .i64 (rs[j]?.getD (0, 0)).1, .int .i64 (rs[j]?.getD (0, 0)).2] := by
  rw [List.getElem?_eq_getElem (by simpa using h), List.getElem?_eq_getElem h]
  simp [rtCells]
set_option maxHeartbeats 1000000 in
theorem Same_any (A B : Option Addr) (n m c d : Nat) (xs ys : List (Int × Int)) (w : World) (h : RdRts w A n xs) (h' : RdRts w B m ys) :
    Calls Tryz.prog 38 #[.slice A n c, .slice B m d] w fun e w' => e = .returned (.bool (decide (xs = ys))) ∧ Below w.heap.size w w' := by
  have hn := h.2
  have hm := h'.2
  have hxn : xs.length = n := by simpa using h.1.1
  have hym : ys.length = m := by simpa using h'.1.1
  unfold maxLen at hn hm
  by_cases hl : n = m
  · subst hl
    have hE := hide (show decide (xs = ys) = decide (xs.take n = ys.take n) by rw [List.take_of_length_le (by rw [hxn]; exact Nat.le_refl _), List.take_of_length_le (by rw [hym]; exact Nat.le_refl _)])
    replace hxn := hide hxn
    replace hym := hide hym
    go_enter Tryz.func38, Tryz.ntmps38
    go_wp2
    go_loopg [5] n (fun g i wr => ∃ k : Nat, k ≤ n ∧ n - k ≤ g ∧ i = .int .i64 k ∧ Hid (Below w.heap.size w wr) ∧ Hid (xs.take k = ys.take k))
    case atStart => exact ⟨0, Nat.zero_le _, by omega, rfl, Below.refl _ _, rfl⟩
    case round =>
      obtain ⟨k, hk, hg, rfl, BW, hr⟩ := hrel
      by_cases hlt : k < n
      · have hltz : (k : Int) < (n : Int) := by omega
        have hk0 : (0 : Int) ≤ (k : Int) := by omega
        have hx : k < xs.length := by rw [hxn.out]; exact hlt
        have hy : k < ys.length := by rw [hym.out]; exact hlt
        obtain ⟨b, off, x0, x1, rfl, hb, e1, c1, c2⟩ := (h.1.below BW.out).cells2 hlt
        obtain ⟨b', off', y0, y1, rfl, hb', e2, c3, c4⟩ := (h'.1.below BW.out).cells2 hlt
        rw [row_at xs k hx, List.getElem?_eq_getElem hx] at e1
        rw [row_at ys k hy, List.getElem?_eq_getElem hy] at e2
        simp only [Option.getD_some, List.cons.injEq, and_true] at e1 e2
        obtain ⟨rfl, rfl⟩ := e1
        obtain ⟨rfl, rfl⟩ := e2
        have hne := hide (take_ne hx hy)
        have hnx := hide (take_next hx hy hr.out)
        generalize xs[k]'hx = x at *
        generalize ys[k]'hy = y at *
        obtain ⟨x0, x1⟩ := x
        obtain ⟨y0, y1⟩ := y
        simp only at c1 c2 c3 c4
        replace h := hide h
        replace h' := hide h'
        clear hx hy
        have hnb := fun W => neqRt x0 x1 y0 y1 W
        have hq2 := hide (show (x0 == y0 && x1 == y1) = decide (((x0, x1) : Int × Int) = (y0, y1)) by rw [Bool.eq_iff_iff]; simp [Prod.ext_iff])
        obtain ⟨q, hq⟩ : ∃ q, (x0 == y0 && x1 == y1) = q := ⟨_, rfl⟩
        rw [hq] at hq2 hnb
        clear hq
        cases q with
        | true =>
          simp only [Bool.not_true] at hnb
          have hxy := hide (of_decide_eq_true hq2.out.symm)
          clear hq2
          go_wp2
          go_quiet (fail)
          go_wp2
          go_roundg (n - (k + 1))
          case measure => omega
          case rel => exact ⟨k + 1, by omega, by omega, by go_num, below_drewN BW.out _, hnx.out hxy.out⟩
        | false =>
          simp only [Bool.not_false] at hnb
          have hfin := hide (show decide (xs = ys) = false by rw [decide_eq_false_iff_not]; exact hne.out (of_decide_eq_false hq2.out.symm))
          clear hE hne hnx hq2
          go_wp2
          go_quiet (fail)
          go_wp2
          go_ret
          exact ⟨ret_bool hfin.out.symm, below_drewN BW.out _⟩
      · have hltz : ¬ (k : Int) < (n : Int) := by omega
        obtain rfl : k = n := by omega
        have hfin := hide (show decide (xs = ys) = true by rw [hE.out, decide_eq_true_iff]; exact hr.out)
        clear hE
        replace h := hide h
        replace h' := hide h'
        go_wp2
        go_ret
        exact ⟨ret_bool hfin.out.symm, BW.out⟩
  · have hne : xs ≠ ys := by
      rintro rfl; exact hl (hxn.symm.trans hym)
    have hb1 : ((n : Int) != (m : Int)) = true := by simp; omega
    have hfin := hide (show decide (xs = ys) = false by rw [decide_eq_false_iff_not]; exact hne)
    replace hne := hide hne
    replace h := hide h
    replace h' := hide h'
    replace hxn := hide hxn
    replace hym := hide hym
    go_enter Tryz.func38, Tryz.ntmps38
    go_wp2
    go_ret
    exact ⟨ret_bool hfin.out.symm, Below.refl _ _⟩
end Go.Proofs.YtjfdfhnfcpfmcaaGreatDoor

/-
  What the calls of Awake return, but those of Least, Both, Write and Read.
-/
namespace Go.Proofs.YtjfdfhnfcpfmcaaGreatDoor
open Go.RowKit RG
theorem covers_S0 : coversF S0 3 = ([0, 1, 3], 0) := by decide +kernel
theorem may_S0 : mayF S0 R0 1 2 = (true, 0) := by decide +kernel
theorem allows_S0 : allowsF S0 [(3, 0)] [(1, 2)] = (true, 0) := by decide +kernel
theorem Day_k (w : World) (he : Env w) : Calls Tryz.prog 18 #[.agg #[.int .i64 2001, .int .i64 1, .int .i64 1]] w fun e w' => e = .returned (.tuple #[.int .i64 366, .int .i64 0]) ∧ Below w.heap.size w w' := by
  have h := Day_any 2001 1 1 w he (by omega)
  rw [show Cal.dayF 2001 1 1 = (366, 0) by decide +kernel] at h
  exact h
theorem Date_k (w : World) (he : Env w) : Calls Tryz.prog 22 #[.int .i64 424] w fun e w' => e = .returned (.tuple #[.agg #[.int .i64 2001, .int .i64 2, .int .i64 28], .int .i64 0]) ∧ Below w.heap.size w w' :=
  (Date_yes 424 w he (by decide)).mono fun e w' ⟨⟨y, m, d, he, hd⟩, hb⟩ => by
    obtain ⟨rfl, rfl, rfl⟩ := Cal.date_known hd
    exact ⟨he, hb⟩
theorem Plus_k (w : World) (he : Env w) : Calls Tryz.prog 24 #[.int .i64 59, .int .i64 1, .int .i64 0] w fun e w' => e = .returned (.tuple #[.int .i64 424, .int .i64 0]) ∧ Below w.heap.size w w' :=
  (Plus_any 59 1 0 w he).mono fun e w' ⟨⟨a, x, he, hp⟩, hb⟩ => by
    obtain ⟨rfl, rfl⟩ := Cal.plus_known hp
    exact ⟨he, hb⟩
theorem Age_k (w : World) (he : Env w) : Calls Tryz.prog 26 #[.int .i64 59, .int .i64 424] w fun e w' => e = .returned (.tuple #[.int .i64 1, .int .i64 0]) ∧ Below w.heap.size w w' :=
  (Age_any 59 424 w he).mono fun e w' ⟨⟨a, x, he, hp⟩, hb⟩ => by
    obtain ⟨rfl, rfl⟩ := Cal.age_known hp
    exact ⟨he, hb⟩
theorem Covers_k (v : Value) (w : World) (h : IsS0 v w) : Calls Tryz.prog 31 #[v, .int .i64 3] w fun e w' => (∃ u, e = .returned (.tuple #[u, .int .i64 0]) ∧ IsInts [0, 1, 3] u w') ∧ Below w.heap.size w w' := by
  obtain ⟨A, A2, rfl, h⟩ := h
  have := Covers_any A A2 4 2 S0 3 w h
  rw [covers_S0] at this
  exact this
theorem May_k (v r : Value) (w : World) (h : IsS0 v w) (hr : IsRts R0 r w) : Calls Tryz.prog 34 #[v, r, .int .i64 1, .int .i64 2] w fun e w' => e = .returned (.tuple #[.bool true, .int .i64 0]) ∧ Below w.heap.size w w' := by
  obtain ⟨A, A2, rfl, h⟩ := h
  obtain ⟨R, c, rfl, hr⟩ := hr
  have := May_any A A2 R 4 2 c S0 R0 1 2 w h hr
  rw [may_S0] at this
  exact this
theorem Allows_k (v r r' : Value) (w : World) (h : IsS0 v w) (hr : IsRts [(3, 0)] r w) (hr' : IsRts [(1, 2)] r' w) : Calls Tryz.prog 39 #[v, r, r'] w fun e w' => e = .returned (.tuple #[.bool true, .int .i64 0]) ∧ Below w.heap.size w w' := by
  obtain ⟨A, A2, rfl, h⟩ := h
  obtain ⟨R, c, rfl, hr⟩ := hr
  obtain ⟨R', c', rfl, hr'⟩ := hr'
  have := Allows_any A A2 R R' 4 2 c c' S0 [(3, 0)] [(1, 2)] w h hr hr'
  rw [allows_S0] at this
  exact this
theorem Name_c1 (w : World) : Calls Tryz.prog 20 #[.string ⟨#[99, 49]⟩] w fun e w' => e = .returned (.bool true) ∧ Below w.heap.size w w' := by
  have := Name_any ⟨#[99, 49]⟩ w (by unfold maxLen; decide)
  rw [show nameB ⟨#[99, 49]⟩ = true by decide +kernel] at this
  exact this
theorem Name_1c (w : World) : Calls Tryz.prog 20 #[.string ⟨#[49, 99]⟩] w fun e w' => e = .returned (.bool false) ∧ Below w.heap.size w w' := by
  have := Name_any ⟨#[49, 99]⟩ w (by unfold maxLen; decide)
  rw [show nameB ⟨#[49, 99]⟩ = false by decide +kernel] at this
  exact this
theorem Ints_k (u u' : Value) (w : World) (xs ys : List Int) (h : IsInts xs u w) (h' : IsInts ys u' w) (hx : xs.length ≤ maxLen) (hy : ys.length ≤ maxLen) : Calls Tryz.prog 33 #[u, u'] w fun e w' => e = .returned (.bool (decide (xs = ys))) ∧ Below w.heap.size w w' := by
  obtain ⟨A, c, rfl, h, _⟩ := h
  obtain ⟨A', c', rfl, h', _⟩ := h'
  exact Ints_any _ _ _ _ _ _ _ _ _ h h' hx hy
theorem Same_k (u u' : Value) (w : World) (xs ys : List (Int × Int)) (h : IsRts xs u w) (h' : IsRts ys u' w) : Calls Tryz.prog 38 #[u, u'] w fun e w' => e = .returned (.bool (decide (xs = ys))) ∧ Below w.heap.size w w' := by
  obtain ⟨A, c, rfl, h⟩ := h
  obtain ⟨A', c', rfl, h'⟩ := h'
  exact Same_any _ _ _ _ _ _ _ _ _ h h'
/-- A new row of rights. -/
def flatV (rs : List (Int × Int)) : List Value := rs.flatMap rtCells
theorem flatV_at (rs : List (Int × Int)) (j i : Nat) (hj : j < rs.length) (hi : i < 2) : (flatV rs)[j * 2 + i]? = ((rs.map rtCells)[j]?.getD [])[i]? := by
  induction rs generalizing j with
  | nil => simp at hj
  | cons x r ih =>
    show (rtCells x ++ flatV r)[j * 2 + i]? = _
    match j, hj with
    | 0, _ =>
      rw [List.getElem?_append_left (by simp [rtCells]; omega)]
      simp
    | j + 1, hj =>
      rw [List.getElem?_append_right (by simp [rtCells]; omega), show (j + 1) * 2 + i - (rtCells x).length = j * 2 + i by simp [rtCells]; omega, ih j (by simpa using hj)]
      simp
theorem isRts_blk {w : World} {g c : Nat} {t : TypeId} (rs : List (Int × Int)) {cs : Array Value} (h : Blk w g t cs) (hcs : cs = (flatV rs).toArray) (hm : rs.length ≤ maxLen) : IsRts rs (.slice (some ⟨g, 0, none⟩) rs.length c) w := by
  subst hcs
  refine ⟨_, c, rfl, rdRow_blk h (by simp) ?_ ?_, hm⟩
  · intro x hx
    obtain ⟨r, _, rfl⟩ := List.mem_map.1 hx
    rfl
  · intro j i hj hi
    rw [← flatV_at rs j i hj hi]
    simp
theorem isRts_pre {w : World} {g c : Nat} {t : TypeId} (rs : List (Int × Int)) {cs : Array Value} (h : Blk w g t cs) (hcs : ∃ Z, cs = (flatV rs).toArray ++ Z) (hm : rs.length ≤ maxLen) : IsRts rs (.slice (some ⟨g, 0, none⟩) rs.length c) w := by
  obtain ⟨Z, rfl⟩ := hcs
  refine ⟨_, c, rfl, rdRow_blk h (by simp) ?_ ?_, hm⟩
  · intro x hx
    obtain ⟨r, _, rfl⟩ := List.mem_map.1 hx
    rfl
  · intro j i hj hi
    rw [← flatV_at rs j i hj hi]
    have hl : (flatV rs).length = rs.length * 2 := by
      clear h hm hj
      induction rs with
      | nil => rfl
      | cons x r ih =>
        show (rtCells x ++ flatV r).length = _
        rw [List.length_append, ih]; simp [rtCells]; omega
    rw [Array.getElem?_append_left (by simp [hl]; omega)]
    simp
theorem eqDate (a b c d e f : Int) (w : World) : (binOp .eql 23 (.agg #[.int .i64 a, .int .i64 b, .int .i64 c]) (.agg #[.int .i64 d, .int .i64 e, .int .i64 f])).run Tryz.prog w = .ok (.bool (a == d && b == e && c == f)) w := by
  have u3 := Tryz.underlying3
  have a3 := Tryz.isAgg3
  have z3 := Tryz.sizeOf3
  have hS : Tryz.prog.underlying 23 = some (.struct (Tryz.prog.fieldsOf 23)) := by kernel_rfl
  have hp : Tryz.prog.stoodInHeld 23 = false := by kernel_rfl
  rw [run_eql_struct, show (10000 : Nat) = 9999 + 1 from rfl, run_equalIn_agg w 9999 23 _ _ hS hp]
  simp only [Program.fieldsOf, Tryz.underlying23]
  go_simp
  by_cases h1 : a = d <;> by_cases h2 : b = e <;> by_cases h3 : c = f <;> simp [h1, h2, h3]
theorem neDate (a b c d e f : Int) (w : World) : (binOp .neq 23 (.agg #[.int .i64 a, .int .i64 b, .int .i64 c]) (.agg #[.int .i64 d, .int .i64 e, .int .i64 f])).run Tryz.prog w = .ok (.bool (!(a == d && b == e && c == f))) w := by
  have u3 := Tryz.underlying3
  have a3 := Tryz.isAgg3
  have z3 := Tryz.sizeOf3
  have hS : Tryz.prog.underlying 23 = some (.struct (Tryz.prog.fieldsOf 23)) := by kernel_rfl
  have hp : Tryz.prog.stoodInHeld 23 = false := by kernel_rfl
  rw [run_neq_struct, show (10000 : Nat) = 9999 + 1 from rfl, run_equalIn_agg w 9999 23 _ _ hS hp]
  simp only [Program.fieldsOf, Tryz.underlying23]
  go_simp
  by_cases h1 : a = d <;> by_cases h2 : b = e <;> by_cases h3 : c = f <;> simp [h1, h2, h3]
theorem Rights_w (w : World) : Calls Tryz.prog 48 #[] w fun e w' => e = .returned (.slice (some ⟨w.heap.size, 0, none⟩) 3 3) ∧ w' = w.alloc (.cells #[.int .i64 1, .int .i64 1, .int .i64 2, .int .i64 3, .int .i64 0, .int .i64 0] 64) := by
  go_enter Tryz.func48, Tryz.ntmps48
  go_wp2
  go_ret
  exact ⟨rfl, rfl⟩
end Go.Proofs.YtjfdfhnfcpfmcaaGreatDoor

/-
  The law's Awake: all calls of the examples return what is said of them.
-/
namespace Go.Proofs.YtjfdfhnfcpfmcaaGreatDoor
open Go.RowKit RG

def L0 : List (Int × Int) := [(0, 0), (1, 1), (2, 3)]
def B0 : List (Int × Int) := [(0, 0), (1, 1)]
def R05 : List (Int × Int) := [(1, 1), (2, 3), (0, 0), (0, 2), (1, 3)]
def text0 : ByteArray := ⟨#[98, 46, 109, 97, 110, 117, 97, 108, 32, 98, 101, 46, 109, 97, 110, 117, 97, 108, 46, 110, 105, 103, 104, 116, 32, 97, 109]⟩
def LeastK : Prop := ∀ (v r : Value) (w : World), IsS0 v w → IsRts R05 r w → Calls Tryz.prog 36 #[v, r] w fun e w' => (∃ u, e = .returned (.tuple #[u, .int .i64 0]) ∧ IsRts L0 u w') ∧ Below w.heap.size w w'
def BothK : Prop := ∀ (v r r' : Value) (w : World), IsS0 v w → IsRts R0 r w → IsRts [(3, 0)] r' w → Calls Tryz.prog 41 #[v, r, r'] w fun e w' => (∃ u, e = .returned (.tuple #[u, .int .i64 0]) ∧ IsRts B0 u w') ∧ Below w.heap.size w w'
def WriteK : Prop := ∀ (v r : Value) (w : World), IsS0 v w → IsRts R0 r w → Calls Tryz.prog 43 #[v, r] w fun e w' => e = .returned (.tuple #[.string text0, .int .i64 0]) ∧ Below w.heap.size w w'
def ReadK : Prop := ∀ (v : Value) (w : World), IsS0 v w → Calls Tryz.prog 45 #[v, .string ⟨#[98, 46, 110, 105, 103, 104, 116, 46, 109, 97, 110, 117, 97, 108]⟩] w fun e w' => (∃ u, e = .returned (.tuple #[u, .int .i64 6])) ∧ Below w.heap.size w w'

theorem step12 (hL : LeastK) (w : World) (v : Value) (Z : Array Value) (c : Nat) (hv : IsS0 v w) :
    Calls Tryz.prog 36 #[v, .slice (some ⟨w.heap.size + 1 + 1, 0, none⟩) 5 c] (((w.alloc (.cells #[.int .i64 1, .int .i64 1, .int .i64 2, .int .i64 3, .int .i64 0, .int .i64 0] 64)).alloc (.cells #[.int .i64 0, .int .i64 2, .int .i64 1, .int .i64 3] 64)).alloc
      (.cells (#[.int .i64 1, .int .i64 1, .int .i64 2, .int .i64 3, .int .i64 0, .int .i64 0] ++ (#[.int .i64 0, .int .i64 2, .int .i64 1, .int .i64 3] ++ Z)) 64)).drew
      fun e w' => (∃ u, e = .returned (.tuple #[u, .int .i64 0]) ∧ IsRts L0 u w') ∧ Below w.heap.size w w' := by
  have hb : Below w.heap.size w (((w.alloc (.cells #[.int .i64 1, .int .i64 1, .int .i64 2, .int .i64 3, .int .i64 0, .int .i64 0] 64)).alloc (.cells #[.int .i64 0, .int .i64 2, .int .i64 1, .int .i64 3] 64)).alloc
      (.cells (#[.int .i64 1, .int .i64 1, .int .i64 2, .int .i64 3, .int .i64 0, .int .i64 0] ++ (#[.int .i64 0, .int .i64 2, .int .i64 1, .int .i64 3] ++ Z)) 64)).drew := ((((Below.refl _ _).alloc (Nat.le_refl _) _).alloc (by simp) _).alloc (by simp +arith) _).drew
  refine (hL v _ _ (IsS0.stb _ _ _ hb hv) (isRts_pre R05 (Blk.drew (Blk.new_ (by simp))) ⟨Z, by rw [← Array.append_assoc]; rfl⟩ (by unfold maxLen; decide))).mono ?_
  rintro e w' ⟨he, hb'⟩
  exact ⟨he, hb.trans (hb'.mono hb.size)⟩

theorem step14 (w : World) (v : Value) (hv : IsS0 v w) :
    Calls Tryz.prog 39 #[v, .slice (some ⟨w.heap.size, 0, none⟩) 1 1, .slice (some ⟨w.heap.size + 1, 0, none⟩) 1 1] ((w.alloc (.cells #[.int .i64 3, .int .i64 0] 64)).alloc (.cells #[.int .i64 1, .int .i64 2] 64))
      fun e w' => e = .returned (.tuple #[.bool true, .int .i64 0]) ∧ Below w.heap.size w w' := by
  have hb : Below w.heap.size w ((w.alloc (.cells #[.int .i64 3, .int .i64 0] 64)).alloc (.cells #[.int .i64 1, .int .i64 2] 64)) := (((Below.refl _ _).alloc (Nat.le_refl _) _).alloc (by simp) _)
  refine (Allows_k v _ _ _ (IsS0.stb _ _ _ hb hv) (isRts_blk [(3, 0)] ((Blk.new_ rfl).alloc _) rfl (by unfold maxLen; decide)) (isRts_blk [(1, 2)] (Blk.new_ (by simp)) rfl (by unfold maxLen; decide))).mono ?_
  rintro e w' ⟨he, hb'⟩
  exact ⟨he, hb.trans (hb'.mono hb.size)⟩
theorem step17 (hBo : BothK) (w : World) (v r : Value) (hv : IsS0 v w) (hr : IsRts R0 r w) :
    Calls Tryz.prog 41 #[v, r, .slice (some ⟨w.heap.size, 0, none⟩) 1 1] (w.alloc (.cells #[.int .i64 3, .int .i64 0] 64))
      fun e w' => (∃ u, e = .returned (.tuple #[u, .int .i64 0]) ∧ IsRts B0 u w') ∧ Below w.heap.size w w' := by
  have hb : Below w.heap.size w (w.alloc (.cells #[.int .i64 3, .int .i64 0] 64)) := ((Below.refl _ _).alloc (Nat.le_refl _) _)
  refine (hBo v _ _ _ (IsS0.stb _ _ _ hb hv) (IsRts.stb _ _ _ _ hb hr) (isRts_blk [(3, 0)] (Blk.new_ rfl) rfl (by unfold maxLen; decide))).mono ?_
  rintro e w' ⟨he, hb'⟩
  exact ⟨he, hb.trans (hb'.mono hb.size)⟩

theorem isInts3 {w : World} {g : Nat} {t : TypeId} (h : Blk w g t #[.int .i64 0, .int .i64 1, .int .i64 3]) : IsInts [0, 1, 3] (.slice (some ⟨g, 0, none⟩) 3 3) w := by
  refine ⟨_, 3, rfl, ⟨rfl, fun _ => ⟨g, 0, rfl, h.lt, fun j hj => ?_⟩⟩, by decide⟩
  have hj' : j < 3 := hj
  rw [Nat.zero_add, h.cell]
  rcases (show j = 0 ∨ j = 1 ∨ j = 2 by omega) with rfl | rfl | rfl <;> rfl
theorem step25 (w : World) (u : Value) (hu : IsInts [0, 1, 3] u w) :
    Calls Tryz.prog 33 #[u, .slice (some ⟨w.heap.size, 0, none⟩) 3 3] (w.alloc (.cells #[.int .i64 0, .int .i64 1, .int .i64 3] 3)) fun e w' => e = .returned (.bool true) ∧ Below w.heap.size w w' := by
  have hb : Below w.heap.size w (w.alloc (.cells #[.int .i64 0, .int .i64 1, .int .i64 3] 3)) := ((Below.refl _ _).alloc (Nat.le_refl _) _)
  refine (Ints_k _ _ _ _ _ (IsInts.stb _ _ _ _ hb hu) (isInts3 (Blk.new_ rfl)) (by unfold maxLen; decide) (by unfold maxLen; decide)).mono ?_
  rintro e w' ⟨he, hb'⟩
  exact ⟨he, hb.trans (hb'.mono hb.size)⟩
theorem step26 (w : World) (u : Value) (hu : IsRts L0 u w) :
    Calls Tryz.prog 38 #[u, .slice (some ⟨w.heap.size, 0, none⟩) 3 3] (w.alloc (.cells #[.int .i64 0, .int .i64 0, .int .i64 1, .int .i64 1, .int .i64 2, .int .i64 3] 64)) fun e w' => e = .returned (.bool true) ∧ Below w.heap.size w w' := by
  have hb : Below w.heap.size w (w.alloc (.cells #[.int .i64 0, .int .i64 0, .int .i64 1, .int .i64 1, .int .i64 2, .int .i64 3] 64)) := ((Below.refl _ _).alloc (Nat.le_refl _) _)
  refine (Same_k _ _ _ _ _ (IsRts.stb _ _ _ _ hb hu) (isRts_blk L0 (Blk.new_ rfl) rfl (by unfold maxLen; decide))).mono ?_
  rintro e w' ⟨he, hb'⟩
  exact ⟨he, hb.trans (hb'.mono hb.size)⟩
theorem step27 (w : World) (u : Value) (hu : IsRts B0 u w) :
    Calls Tryz.prog 38 #[u, .slice (some ⟨w.heap.size, 0, none⟩) 2 2] (w.alloc (.cells #[.int .i64 0, .int .i64 0, .int .i64 1, .int .i64 1] 64)) fun e w' => e = .returned (.bool true) ∧ Below w.heap.size w w' := by
  have hb : Below w.heap.size w (w.alloc (.cells #[.int .i64 0, .int .i64 0, .int .i64 1, .int .i64 1] 64)) := ((Below.refl _ _).alloc (Nat.le_refl _) _)
  refine (Same_k _ _ _ _ _ (IsRts.stb _ _ _ _ hb hu) (isRts_blk B0 (Blk.new_ rfl) rfl (by unfold maxLen; decide))).mono ?_
  rintro e w' ⟨he, hb'⟩
  exact ⟨he, hb.trans (hb'.mono hb.size)⟩

set_option maxRecDepth 100000 in
set_option maxHeartbeats 8000000 in
theorem Awake_of (hL : LeastK) (hBo : BothK) (hW : WriteK) (hRd : ReadK) (w : World) (he : Env w) : Calls Tryz.prog 28 #[] w fun e w' => e = .returned (.bool true) ∧ Below w.heap.size w w' := by
  replace he := hide he
  replace hL := hide hL
  replace hBo := hide hBo
  replace hW := hide hW
  replace hRd := hide hRd
  go_enter Tryz.func28, Tryz.ntmps28
  go_wp2_with fail
  refine (Day_k _ he.out).mono ?_
  rintro e w1 ⟨rfl, hb1⟩
  have he1 := hide (he.out.below hb1 he.out.size)
  replace hb1 := hide hb1
  go_wp2_with fail
  refine (Date_k _ he1.out).mono ?_
  rintro e w2 ⟨rfl, hb2⟩
  have he2 := hide (he1.out.below hb2 he1.out.size)
  have hB2 := hide (hb1.out.trans (hb2.mono hb1.out.size))
  clear hb1 hb2 he he1
  have hA2 : Below w2.heap.size w2 (w2.alloc (.cells #[.int .i64 2001, .int .i64 2, .int .i64 28] 23)) := (Below.refl _ _).alloc (Nat.le_refl _) _
  have he3 := hide (he2.out.below hA2 he2.out.size)
  have hB3 := hide (hB2.out.trans (hA2.mono hB2.out.size))
  have hD3 := hide (Blk.new w2 23 #[.int .i64 2001, .int .i64 2, .int .i64 28])
  clear hA2 he2 hB2
  go_wp2_with fail
  refine (Plus_k _ he3.out).mono ?_
  rintro e w4 ⟨rfl, hb4⟩
  have he4 := hide (he3.out.below hb4 he3.out.size)
  have hB4 := hide (hB3.out.trans (hb4.mono hB3.out.size))
  have hD4 := hide (hD3.out.below hb4 hD3.out.lt)
  clear hb4 he3 hB3 hD3
  go_wp2_with fail
  refine (Age_k _ he4.out).mono ?_
  rintro e w5 ⟨rfl, hb5⟩
  have hB5 := hide (hB4.out.trans (hb5.mono hB4.out.size))
  have hD5 := hide (hD4.out.below hb5 hD4.out.lt)
  clear hb5 he4 hB4 hD4
  go_wp2_with fail
  refine (System_any _).mono ?_
  rintro e w6 ⟨⟨v6, rfl, hv6⟩, hb6⟩
  have hB6 := hide (hB5.out.trans (hb6.mono hB5.out.size))
  have hD6 := hide (hD5.out.below hb6 hD5.out.lt)
  replace hv6 := hide hv6
  clear hb6 hB5 hD5
  go_wp2_with fail
  refine (Covers_k _ _ hv6.out).mono ?_
  rintro e w7 ⟨⟨u7, rfl, hu7⟩, hb7⟩
  have hB7 := hide (hB6.out.trans (hb7.mono hB6.out.size))
  have hD7 := hide (hD6.out.below hb7 hD6.out.lt)
  replace hu7 := hide hu7
  clear hb7 hB6 hD6 hv6
  go_wp2_with fail
  refine (System_any _).mono ?_
  rintro e w8 ⟨⟨v8, rfl, hv8⟩, hb8⟩
  have hB8 := hide (hB7.out.trans (hb8.mono hB7.out.size))
  have hD8 := hide (hD7.out.below hb8 hD7.out.lt)
  have hU8 := hide (IsInts.stb _ _ _ _ hb8 hu7.out)
  replace hv8 := hide hv8
  clear hb8 hB7 hD7 hu7
  go_wp2_with fail
  refine (Rights_any _).mono ?_
  rintro e w9 ⟨⟨r9, rfl, hr9⟩, hb9⟩
  have hB9 := hide (hB8.out.trans (hb9.mono hB8.out.size))
  have hD9 := hide (hD8.out.below hb9 hD8.out.lt)
  have hU9 := hide (IsInts.stb _ _ _ _ hb9 hU8.out)
  have hv9 := hide (IsS0.stb _ _ _ hb9 hv8.out)
  replace hr9 := hide hr9
  clear hb9 hB8 hD8 hU8 hv8
  go_wp2_with fail
  refine (May_k _ _ _ hv9.out hr9.out).mono ?_
  rintro e w10 ⟨rfl, hb10⟩
  have hB10 := hide (hB9.out.trans (hb10.mono hB9.out.size))
  have hD10 := hide (hD9.out.below hb10 hD9.out.lt)
  have hU10 := hide (IsInts.stb _ _ _ _ hb10 hU9.out)
  clear hb10 hB9 hD9 hU9 hv9 hr9
  go_wp2_with fail
  refine (System_any _).mono ?_
  rintro e w11 ⟨⟨v11, rfl, hv11⟩, hb11⟩
  have hB11 := hide (hB10.out.trans (hb11.mono hB10.out.size))
  have hD11 := hide (hD10.out.below hb11 hD10.out.lt)
  have hU11 := hide (IsInts.stb _ _ _ _ hb11 hU10.out)
  replace hv11 := hide hv11
  clear hb11 hB10 hD10 hU10
  go_wp2_with fail
  refine (Rights_w _).mono ?_
  rintro e w12 ⟨rfl, rfl⟩
  go_wp2_with fail
  refine (step12 hL.out _ _ _ _ hv11.out).mono ?_
  rintro e w13 ⟨⟨u13, rfl, hu13⟩, hb13⟩
  have hB13 := hide (hB11.out.trans (hb13.mono hB11.out.size))
  have hD13 := hide (hD11.out.below hb13 hD11.out.lt)
  have hU13 := hide (IsInts.stb _ _ _ _ hb13 hU11.out)
  replace hu13 := hide hu13
  clear hb13 hB11 hD11 hU11 hv11
  go_wp2_with fail
  refine (System_any _).mono ?_
  rintro e w14 ⟨⟨v14, rfl, hv14⟩, hb14⟩
  have hB14 := hide (hB13.out.trans (hb14.mono hB13.out.size))
  have hD14 := hide (hD13.out.below hb14 hD13.out.lt)
  have hU14 := hide (IsInts.stb _ _ _ _ hb14 hU13.out)
  have hL14 := hide (IsRts.stb _ _ _ _ hb14 hu13.out)
  replace hv14 := hide hv14
  clear hb14 hB13 hD13 hU13 hu13
  go_wp2_with fail
  refine (step14 _ _ hv14.out).mono ?_
  rintro e w15 ⟨rfl, hb15⟩
  have hB15 := hide (hB14.out.trans (hb15.mono hB14.out.size))
  have hD15 := hide (hD14.out.below hb15 hD14.out.lt)
  have hU15 := hide (IsInts.stb _ _ _ _ hb15 hU14.out)
  have hL15 := hide (IsRts.stb _ _ _ _ hb15 hL14.out)
  clear hb15 hB14 hD14 hU14 hL14 hv14
  go_wp2_with fail
  refine (System_any _).mono ?_
  rintro e w16 ⟨⟨v16, rfl, hv16⟩, hb16⟩
  have hB16 := hide (hB15.out.trans (hb16.mono hB15.out.size))
  have hD16 := hide (hD15.out.below hb16 hD15.out.lt)
  have hU16 := hide (IsInts.stb _ _ _ _ hb16 hU15.out)
  have hL16 := hide (IsRts.stb _ _ _ _ hb16 hL15.out)
  replace hv16 := hide hv16
  clear hb16 hB15 hD15 hU15 hL15
  go_wp2_with fail
  refine (Rights_any _).mono ?_
  rintro e w17 ⟨⟨r17, rfl, hr17⟩, hb17⟩
  have hB17 := hide (hB16.out.trans (hb17.mono hB16.out.size))
  have hD17 := hide (hD16.out.below hb17 hD16.out.lt)
  have hU17 := hide (IsInts.stb _ _ _ _ hb17 hU16.out)
  have hL17 := hide (IsRts.stb _ _ _ _ hb17 hL16.out)
  have hv17 := hide (IsS0.stb _ _ _ hb17 hv16.out)
  replace hr17 := hide hr17
  clear hb17 hB16 hD16 hU16 hL16 hv16
  go_wp2_with fail
  refine (step17 hBo.out _ _ _ hv17.out hr17.out).mono ?_
  rintro e w18 ⟨⟨u18, rfl, hu18⟩, hb18⟩
  have hB18 := hide (hB17.out.trans (hb18.mono hB17.out.size))
  have hD18 := hide (hD17.out.below hb18 hD17.out.lt)
  have hU18 := hide (IsInts.stb _ _ _ _ hb18 hU17.out)
  have hL18 := hide (IsRts.stb _ _ _ _ hb18 hL17.out)
  replace hu18 := hide hu18
  clear hb18 hB17 hD17 hU17 hL17 hv17 hr17
  go_wp2_with fail
  refine (System_any _).mono ?_
  rintro e w19 ⟨⟨v19, rfl, hv19⟩, hb19⟩
  have hB19 := hide (hB18.out.trans (hb19.mono hB18.out.size))
  have hD19 := hide (hD18.out.below hb19 hD18.out.lt)
  have hU19 := hide (IsInts.stb _ _ _ _ hb19 hU18.out)
  have hL19 := hide (IsRts.stb _ _ _ _ hb19 hL18.out)
  have hM19 := hide (IsRts.stb _ _ _ _ hb19 hu18.out)
  replace hv19 := hide hv19
  clear hb19 hB18 hD18 hU18 hL18 hu18
  go_wp2_with fail
  refine (Rights_any _).mono ?_
  rintro e w20 ⟨⟨r20, rfl, hr20⟩, hb20⟩
  have hB20 := hide (hB19.out.trans (hb20.mono hB19.out.size))
  have hD20 := hide (hD19.out.below hb20 hD19.out.lt)
  have hU20 := hide (IsInts.stb _ _ _ _ hb20 hU19.out)
  have hL20 := hide (IsRts.stb _ _ _ _ hb20 hL19.out)
  have hM20 := hide (IsRts.stb _ _ _ _ hb20 hM19.out)
  have hv20 := hide (IsS0.stb _ _ _ hb20 hv19.out)
  replace hr20 := hide hr20
  clear hb20 hB19 hD19 hU19 hL19 hM19 hv19
  go_wp2_with fail
  refine (hW.out _ _ _ hv20.out hr20.out).mono ?_
  rintro e w21 ⟨rfl, hb21⟩
  have hB21 := hide (hB20.out.trans (hb21.mono hB20.out.size))
  have hD21 := hide (hD20.out.below hb21 hD20.out.lt)
  have hU21 := hide (IsInts.stb _ _ _ _ hb21 hU20.out)
  have hL21 := hide (IsRts.stb _ _ _ _ hb21 hL20.out)
  have hM21 := hide (IsRts.stb _ _ _ _ hb21 hM20.out)
  clear hb21 hB20 hD20 hU20 hL20 hM20 hv20 hr20
  go_wp2_with fail
  refine (System_any _).mono ?_
  rintro e w22 ⟨⟨v22, rfl, hv22⟩, hb22⟩
  have hB22 := hide (hB21.out.trans (hb22.mono hB21.out.size))
  have hD22 := hide (hD21.out.below hb22 hD21.out.lt)
  have hU22 := hide (IsInts.stb _ _ _ _ hb22 hU21.out)
  have hL22 := hide (IsRts.stb _ _ _ _ hb22 hL21.out)
  have hM22 := hide (IsRts.stb _ _ _ _ hb22 hM21.out)
  replace hv22 := hide hv22
  clear hb22 hB21 hD21 hU21 hL21 hM21
  go_wp2_with fail
  refine (hRd.out _ _ hv22.out).mono ?_
  rintro e w23 ⟨⟨u23, rfl⟩, hb23⟩
  have hB23 := hide (hB22.out.trans (hb23.mono hB22.out.size))
  have hD23 := hide (hD22.out.below hb23 hD22.out.lt)
  have hU23 := hide (IsInts.stb _ _ _ _ hb23 hU22.out)
  have hL23 := hide (IsRts.stb _ _ _ _ hb23 hL22.out)
  have hM23 := hide (IsRts.stb _ _ _ _ hb23 hM22.out)
  clear hb23 hB22 hD22 hU22 hL22 hM22 hv22
  go_wp2_with fail
  refine (Name_c1 _).mono ?_
  rintro e w24 ⟨rfl, hb24⟩
  have hB24 := hide (hB23.out.trans (hb24.mono hB23.out.size))
  have hD24 := hide (hD23.out.below hb24 hD23.out.lt)
  have hU24 := hide (IsInts.stb _ _ _ _ hb24 hU23.out)
  have hL24 := hide (IsRts.stb _ _ _ _ hb24 hL23.out)
  have hM24 := hide (IsRts.stb _ _ _ _ hb24 hM23.out)
  clear hb24 hB23 hD23 hU23 hL23 hM23
  go_wp2_with fail
  refine (Name_1c _).mono ?_
  rintro e w25 ⟨rfl, hb25⟩
  have hB25 := hide (hB24.out.trans (hb25.mono hB24.out.size))
  have hD25 := hide (hD24.out.below hb25 hD24.out.lt)
  have hU25 := hide (IsInts.stb _ _ _ _ hb25 hU24.out)
  have hL25 := hide (IsRts.stb _ _ _ _ hb25 hL24.out)
  have hM25 := hide (IsRts.stb _ _ _ _ hb25 hM24.out)
  clear hb25 hB24 hD24 hU24 hL24 hM24
  have d0 := hD25.out.cell 0
  have d1 := hD25.out.cell 1
  have d2 := hD25.out.cell 2
  have hed := eqDate 2001 2 28 2001 2 28
  go_wp2_with fail
  refine (step25 _ _ hU25.out).mono ?_
  rintro e w26 ⟨rfl, hb26⟩
  have hB26 := hide (hB25.out.trans (hb26.mono hB25.out.size))
  have hL26 := hide (IsRts.stb _ _ _ _ hb26 hL25.out)
  have hM26 := hide (IsRts.stb _ _ _ _ hb26 hM25.out)
  clear hb26 hB25 hU25 hL25 hM25 hD25 d0 d1 d2 hed
  go_wp2_with fail
  refine (step26 _ _ hL26.out).mono ?_
  rintro e w27 ⟨rfl, hb27⟩
  have hB27 := hide (hB26.out.trans (hb27.mono hB26.out.size))
  have hM27 := hide (IsRts.stb _ _ _ _ hb27 hM26.out)
  clear hb27 hB26 hL26 hM26
  go_wp2_with fail
  refine (step27 _ _ hM27.out).mono ?_
  rintro e w28 ⟨rfl, hb28⟩
  have hB28 := hide (hB27.out.trans (hb28.mono hB27.out.size))
  clear hb28 hB27 hM27
  go_wp2
  go_ret
  exact ⟨ret_bool (by rw [ByteArray.toList_eq]; decide), hB28.out⟩
end Go.Proofs.YtjfdfhnfcpfmcaaGreatDoor
