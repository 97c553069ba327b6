import Derived.Test.YtkmhldjebopljaaOv
/-
  The reference's in; lists in memory; when two lessons, or two postings, are equal.
-/
namespace Go.Proofs.Ytkmhldjebopljaa
open Go.RowKit RG

theorem flat_of {α : Type} {k : Nat} {f : α → List Value} (hf : ∀ x, (f x).length = k) (xs : List α) (j i : Nat) (v : Value) (hv : ((xs.map f)[j]?.getD [])[i]? = some v) : j < xs.length ∧ i < k ∧ (xs.flatMap f)[j * k + i]? = some v := by
  induction xs generalizing j with
  | nil => simp at hv
  | cons x xs ih =>
    cases j with
    | zero =>
      simp only [List.map_cons, List.getElem?_cons_zero, Option.getD_some] at hv
      have hi : i < k := by have := (List.getElem?_eq_some_iff.1 hv).1; rwa [hf] at this
      refine ⟨by simp, hi, ?_⟩
      rw [List.flatMap_cons, Nat.zero_mul, Nat.zero_add, List.getElem?_append_left (by rw [hf]; exact hi)]
      exact hv
    | succ j =>
      simp only [List.map_cons, List.getElem?_cons_succ] at hv
      obtain ⟨h1, h2, h3⟩ := ih j hv
      refine ⟨by simpa using h1, h2, ?_⟩
      rw [List.flatMap_cons, List.getElem?_append_right (by rw [hf, Nat.succ_mul]; omega), hf, show (j + 1) * k + i - k = j * k + i by rw [Nat.succ_mul]; omega]
      exact h3
theorem row_of_blk {α : Type} {w : World} {g k : Nat} {t : TypeId} {cs : Array Value} {f : α → List Value} (hf : ∀ x, (f x).length = k) (xs : List α) (h : Blk w g t cs) (hc : cs.toList.take (xs.length * k) = xs.flatMap f) : RdRow w (some ⟨g, 0, none⟩) xs.length k (xs.map f) := by
  refine ⟨by simp, ?_, fun _ => ⟨g, 0, rfl, h.lt, fun j i v hv => ?_⟩⟩
  · intro x hx
    obtain ⟨s, _, rfl⟩ := List.mem_map.1 hx
    exact hf s
  · obtain ⟨hj, hi, hv2⟩ := flat_of hf xs j i v hv
    rw [Nat.zero_add, h.cell]
    rw [← hc] at hv2
    have hlt : j * k + i < xs.length * k := by
      have : (j + 1) * k ≤ xs.length * k := Nat.mul_le_mul_right _ hj
      rw [Nat.succ_mul] at this; omega
    rw [List.getElem?_take_of_lt hlt] at hv2
    simpa using hv2

theorem inRef_any (x lo hi : Int) (w : World) : Calls Try.prog 44 #[.int .i64 x, .int .i64 lo, .int .i64 hi] w fun e w' => e = .returned (.bool (inI lo hi x)) ∧ w = w' := by
  by_cases h1 : lo ≤ x
  · by_cases h2 : x ≤ hi
    · go_enter Try.func44, Try.ntmps44
      go_wp2
      go_ret
      exact ⟨ret_bool (by simp [inI, h1, h2]), rfl⟩
    · have h2' : hi < x := by omega
      go_enter Try.func44, Try.ntmps44
      go_wp2
      go_ret
      exact ⟨ret_bool (by simp [inI, h2]), rfl⟩
  · have h1' : x < lo := by omega
    go_enter Try.func44, Try.ntmps44
    go_wp2
    go_ret
    exact ⟨ret_bool (by simp [inI]; omega), rfl⟩
theorem eqLes (p0 p1 p2 p3 p4 q0 q1 q2 q3 q4 : Int) (w : World) : (binOp .eql 63 (.agg #[.int .i64 p0, .int .i64 p1, .int .i64 p2, .int .i64 p3, .int .i64 p4]) (.agg #[.int .i64 q0, .int .i64 q1, .int .i64 q2, .int .i64 q3, .int .i64 q4])).run Try.prog w = .ok (.bool ((p0 == q0 && p1 == q1 && p2 == q2 && p3 == q3 && p4 == q4))) w := by
  have u3 := Try.underlying3
  have a3 := Try.isAgg3
  have z3 := Try.sizeOf3
  have hS : Try.prog.underlying 63 = some (.struct (Try.prog.fieldsOf 63)) := by kernel_rfl
  have hp : Try.prog.stoodInHeld 63 = false := by kernel_rfl
  rw [run_eql_struct, show (10000 : Nat) = 9999 + 1 from rfl, run_equalIn_agg w 9999 63 _ _ hS hp]
  simp only [Program.fieldsOf, Try.underlying63]
  go_simp
  by_cases h0 : p0 = q0 <;> by_cases h1 : p1 = q1 <;> by_cases h2 : p2 = q2 <;> by_cases h3 : p3 = q3 <;> by_cases h4 : p4 = q4 <;> simp [h0, h1, h2, h3, h4]
theorem neLes (p0 p1 p2 p3 p4 q0 q1 q2 q3 q4 : Int) (w : World) : (binOp .neq 63 (.agg #[.int .i64 p0, .int .i64 p1, .int .i64 p2, .int .i64 p3, .int .i64 p4]) (.agg #[.int .i64 q0, .int .i64 q1, .int .i64 q2, .int .i64 q3, .int .i64 q4])).run Try.prog w = .ok (.bool (!(p0 == q0 && p1 == q1 && p2 == q2 && p3 == q3 && p4 == q4))) w := by
  have u3 := Try.underlying3
  have a3 := Try.isAgg3
  have z3 := Try.sizeOf3
  have hS : Try.prog.underlying 63 = some (.struct (Try.prog.fieldsOf 63)) := by kernel_rfl
  have hp : Try.prog.stoodInHeld 63 = false := by kernel_rfl
  rw [run_neq_struct, show (10000 : Nat) = 9999 + 1 from rfl, run_equalIn_agg w 9999 63 _ _ hS hp]
  simp only [Program.fieldsOf, Try.underlying63]
  go_simp
  by_cases h0 : p0 = q0 <;> by_cases h1 : p1 = q1 <;> by_cases h2 : p2 = q2 <;> by_cases h3 : p3 = q3 <;> by_cases h4 : p4 = q4 <;> simp [h0, h1, h2, h3, h4]
theorem eqPst (p0 p1 p2 p3 q0 q1 q2 q3 : Int) (w : World) : (binOp .eql 61 (.agg #[.int .i64 p0, .int .i64 p1, .int .i64 p2, .int .i64 p3]) (.agg #[.int .i64 q0, .int .i64 q1, .int .i64 q2, .int .i64 q3])).run Try.prog w = .ok (.bool ((p0 == q0 && p1 == q1 && p2 == q2 && p3 == q3))) w := by
  have u3 := Try.underlying3
  have a3 := Try.isAgg3
  have z3 := Try.sizeOf3
  have hS : Try.prog.underlying 61 = some (.struct (Try.prog.fieldsOf 61)) := by kernel_rfl
  have hp : Try.prog.stoodInHeld 61 = false := by kernel_rfl
  rw [run_eql_struct, show (10000 : Nat) = 9999 + 1 from rfl, run_equalIn_agg w 9999 61 _ _ hS hp]
  simp only [Program.fieldsOf, Try.underlying61]
  go_simp
  by_cases h0 : p0 = q0 <;> by_cases h1 : p1 = q1 <;> by_cases h2 : p2 = q2 <;> by_cases h3 : p3 = q3 <;> simp [h0, h1, h2, h3]
theorem nePst (p0 p1 p2 p3 q0 q1 q2 q3 : Int) (w : World) : (binOp .neq 61 (.agg #[.int .i64 p0, .int .i64 p1, .int .i64 p2, .int .i64 p3]) (.agg #[.int .i64 q0, .int .i64 q1, .int .i64 q2, .int .i64 q3])).run Try.prog w = .ok (.bool (!(p0 == q0 && p1 == q1 && p2 == q2 && p3 == q3))) w := by
  have u3 := Try.underlying3
  have a3 := Try.isAgg3
  have z3 := Try.sizeOf3
  have hS : Try.prog.underlying 61 = some (.struct (Try.prog.fieldsOf 61)) := by kernel_rfl
  have hp : Try.prog.stoodInHeld 61 = false := by kernel_rfl
  rw [run_neq_struct, show (10000 : Nat) = 9999 + 1 from rfl, run_equalIn_agg w 9999 61 _ _ hS hp]
  simp only [Program.fieldsOf, Try.underlying61]
  go_simp
  by_cases h0 : p0 = q0 <;> by_cases h1 : p1 = q1 <;> by_cases h2 : p2 = q2 <;> by_cases h3 : p3 = q3 <;> simp [h0, h1, h2, h3]
end Go.Proofs.Ytkmhldjebopljaa

/-
  The reference's Errors, Ints, Lessons and Equal.
-/
namespace Go.Proofs.Ytkmhldjebopljaa
open Go.RowKit RG

theorem take_ne {α : Type} {xs ys : List α} {k : Nat} (hx : k < xs.length) (hy : k < ys.length) (h : xs[k] ≠ ys[k]) : xs ≠ ys := by
  rintro rfl; exact h rfl
theorem take_next {α : Type} {xs ys : List α} {k : Nat} (hx : k < xs.length) (hy : k < ys.length) (hr : xs.take k = ys.take k) (h : xs[k] = ys[k]) : xs.take (k + 1) = ys.take (k + 1) := by
  rw [List.take_succ_eq_append_getElem hx, List.take_succ_eq_append_getElem hy, hr, h]

set_option maxHeartbeats 1000000 in
theorem Ints_any (A B : Option Addr) (n m c d : Nat) (xs ys : List Int) (w : World) (h : RdInts w A n xs) (h' : RdInts w B m ys) (hn : n ≤ maxLen) (hm : m ≤ maxLen) :
    Calls Try.prog 32 #[.slice A n c, .slice B m d] w fun e w' => e = .returned (.bool (decide (xs = ys))) ∧ Below w.heap.size w w' := by
  unfold maxLen at hn hm
  by_cases hl : n = m
  · subst hl
    have hE := hide (show decide (xs = ys) = decide (xs.take n = ys.take n) by rw [List.take_of_length_le (by rw [h.1]; exact Nat.le_refl _), List.take_of_length_le (by rw [h'.1]; exact Nat.le_refl _)])
    go_enter Try.func32, Try.ntmps32
    go_wp2
    go_loopg [5] n (fun g i wr => ∃ k : Nat, k ≤ n ∧ n - k ≤ g ∧ i = .int .i64 k ∧ Hid (Below w.heap.size w wr) ∧ Hid (xs.take k = ys.take k))
    case atStart => exact ⟨0, Nat.zero_le _, by omega, rfl, Below.refl _ _, rfl⟩
    case round =>
      obtain ⟨k, hk, hg, rfl, BW, hr⟩ := hrel
      by_cases hlt : k < n
      · have hltz : (k : Int) < (n : Int) := by omega
        have hk0 : (0 : Int) ≤ (k : Int) := by omega
        obtain ⟨b, off, rfl, hb, hc⟩ := h.2 (by omega)
        obtain ⟨b', off', rfl, hb', hc'⟩ := h'.2 (by omega)
        have hx : k < xs.length := by rw [h.1]; exact hlt
        have hy : k < ys.length := by rw [h'.1]; exact hlt
        have c1 := (cellB BW.out hb).trans (hc k hlt)
        have c2 := (cellB BW.out hb').trans (hc' k hlt)
        rw [List.getElem?_eq_getElem hx] at c1
        rw [List.getElem?_eq_getElem hy] at c2
        simp only [Option.getD_some] at c1 c2
        have hne := hide (take_ne hx hy)
        have hnx := hide (take_next hx hy hr.out)
        generalize xs[k]'hx = x at *
        generalize ys[k]'hy = y at *
        replace h := hide h
        replace h' := hide h'
        clear hc hc' hx hy
        by_cases hxy : x = y
        · have hb1 : ((x : Int) != y) = false := by simp [hxy]
          replace hxy := hide hxy
          go_wp2
          go_quiet (fail)
          go_wp2
          go_roundg (n - (k + 1))
          case measure => omega
          case rel => exact ⟨k + 1, by omega, by omega, by go_num, below_drewN BW.out _, hnx.out hxy.out⟩
        · have hb1 : ((x : Int) != y) = true := by simp [hxy]
          have hfin := hide (show decide (xs = ys) = false by rw [decide_eq_false_iff_not]; exact hne.out hxy)
          replace hxy := hide hxy
          clear hE hne hnx
          go_wp2
          go_quiet (fail)
          go_wp2
          go_ret
          exact ⟨ret_bool hfin.out.symm, below_drewN BW.out _⟩
      · have hltz : ¬ (k : Int) < (n : Int) := by omega
        obtain rfl : k = n := by omega
        have hfin := hide (show decide (xs = ys) = true by rw [hE.out, decide_eq_true_iff]; exact hr.out)
        clear hE
        replace h := hide h
        replace h' := hide h'
        go_wp2
        go_ret
        exact ⟨ret_bool hfin.out.symm, BW.out⟩
  · have hne : xs ≠ ys := by
      rintro rfl; exact hl (h.1.symm.trans h'.1)
    have hb1 : ((n : Int) != (m : Int)) = true := by simp; omega
    have hfin := hide (show decide (xs = ys) = false by rw [decide_eq_false_iff_not]; exact hne)
    replace hne := hide hne
    replace h := hide h
    replace h' := hide h'
    go_enter Try.func32, Try.ntmps32
    go_wp2
    go_ret
    exact ⟨ret_bool hfin.out.symm, Below.refl _ _⟩

set_option maxHeartbeats 1000000 in
theorem Errors_any (A B : Option Addr) (n m c d : Nat) (xs ys : List Int) (w : World) (h : RdInts w A n xs) (h' : RdInts w B m ys) (hn : n ≤ maxLen) (hm : m ≤ maxLen) :
    Calls Try.prog 23 #[.slice A n c, .slice B m d] w fun e w' => e = .returned (.bool (decide (xs = ys))) ∧ Below w.heap.size w w' := by
  unfold maxLen at hn hm
  by_cases hl : n = m
  · subst hl
    have hE := hide (show decide (xs = ys) = decide (xs.take n = ys.take n) by rw [List.take_of_length_le (by rw [h.1]; exact Nat.le_refl _), List.take_of_length_le (by rw [h'.1]; exact Nat.le_refl _)])
    go_enter Try.func23, Try.ntmps23
    go_wp2
    go_loopg [5] n (fun g i wr => ∃ k : Nat, k ≤ n ∧ n - k ≤ g ∧ i = .int .i64 k ∧ Hid (Below w.heap.size w wr) ∧ Hid (xs.take k = ys.take k))
    case atStart => exact ⟨0, Nat.zero_le _, by omega, rfl, Below.refl _ _, rfl⟩
    case round =>
      obtain ⟨k, hk, hg, rfl, BW, hr⟩ := hrel
      by_cases hlt : k < n
      · have hltz : (k : Int) < (n : Int) := by omega
        have hk0 : (0 : Int) ≤ (k : Int) := by omega
        obtain ⟨b, off, rfl, hb, hc⟩ := h.2 (by omega)
        obtain ⟨b', off', rfl, hb', hc'⟩ := h'.2 (by omega)
        have hx : k < xs.length := by rw [h.1]; exact hlt
        have hy : k < ys.length := by rw [h'.1]; exact hlt
        have c1 := (cellB BW.out hb).trans (hc k hlt)
        have c2 := (cellB BW.out hb').trans (hc' k hlt)
        rw [List.getElem?_eq_getElem hx] at c1
        rw [List.getElem?_eq_getElem hy] at c2
        simp only [Option.getD_some] at c1 c2
        have hne := hide (take_ne hx hy)
        have hnx := hide (take_next hx hy hr.out)
        generalize xs[k]'hx = x at *
        generalize ys[k]'hy = y at *
        replace h := hide h
        replace h' := hide h'
        clear hc hc' hx hy
        by_cases hxy : x = y
        · have hb1 : ((x : Int) != y) = false := by simp [hxy]
          replace hxy := hide hxy
          go_wp2
          go_quiet (fail)
          go_wp2
          go_roundg (n - (k + 1))
          case measure => omega
          case rel => exact ⟨k + 1, by omega, by omega, by go_num, below_drewN BW.out _, hnx.out hxy.out⟩
        · have hb1 : ((x : Int) != y) = true := by simp [hxy]
          have hfin := hide (show decide (xs = ys) = false by rw [decide_eq_false_iff_not]; exact hne.out hxy)
          replace hxy := hide hxy
          clear hE hne hnx
          go_wp2
          go_quiet (fail)
          go_wp2
          go_ret
          exact ⟨ret_bool hfin.out.symm, below_drewN BW.out _⟩
      · have hltz : ¬ (k : Int) < (n : Int) := by omega
        obtain rfl : k = n := by omega
        have hfin := hide (show decide (xs = ys) = true by rw [hE.out, decide_eq_true_iff]; exact hr.out)
        clear hE
        replace h := hide h
        replace h' := hide h'
        go_wp2
        go_ret
        exact ⟨ret_bool hfin.out.symm, BW.out⟩
  · have hne : xs ≠ ys := by
      rintro rfl; exact hl (h.1.symm.trans h'.1)
    have hb1 : ((n : Int) != (m : Int)) = true := by simp; omega
    have hfin := hide (show decide (xs = ys) = false by rw [decide_eq_false_iff_not]; exact hne)
    replace hne := hide hne
    replace h := hide h
    replace h' := hide h'
    go_enter Try.func23, Try.ntmps23
    go_wp2
    go_ret
    exact ⟨ret_bool hfin.out.symm, Below.refl _ _⟩

theorem lesRow_at (rs : List Les) (j : Nat) (h : j < rs.length) : (rs.map lesCells)[j]?.getD [] = lesCells (rs[j]'h) := by
  rw [List.getElem?_eq_getElem (by simpa using h)]
  simp
set_option maxHeartbeats 1000000 in
theorem Lessons_any (A B : Option Addr) (n m c d : Nat) (xs ys : List Les) (w : World) (h : RdRow w A n 5 (xs.map lesCells)) (h' : RdRow w B m 5 (ys.map lesCells)) (hn : n ≤ maxLen) (hm : m ≤ maxLen) :
    Calls Try.prog 55 #[.slice A n c, .slice B m d] w fun e w' => e = .returned (.bool (decide (xs = ys))) ∧ Below w.heap.size w w' := by
  have hxn : xs.length = n := by simpa using h.1
  have hym : ys.length = m := by simpa using h'.1
  unfold maxLen at hn hm
  by_cases hl : n = m
  · subst hl
    have hE := hide (show decide (xs = ys) = decide (xs.take n = ys.take n) by rw [List.take_of_length_le (by rw [hxn]; exact Nat.le_refl _), List.take_of_length_le (by rw [hym]; exact Nat.le_refl _)])
    replace hxn := hide hxn
    replace hym := hide hym
    go_enter Try.func55, Try.ntmps55
    go_wp2
    go_loopg [5] n (fun g i wr => ∃ k : Nat, k ≤ n ∧ n - k ≤ g ∧ i = .int .i64 k ∧ Hid (Below w.heap.size w wr) ∧ Hid (xs.take k = ys.take k))
    case atStart => exact ⟨0, Nat.zero_le _, by omega, rfl, Below.refl _ _, rfl⟩
    case round =>
      obtain ⟨k, hk, hg, rfl, BW, hr⟩ := hrel
      by_cases hlt : k < n
      · have hltz : (k : Int) < (n : Int) := by omega
        have hk0 : (0 : Int) ≤ (k : Int) := by omega
        have hx : k < xs.length := by rw [hxn.out]; exact hlt
        have hy : k < ys.length := by rw [hym.out]; exact hlt
        obtain ⟨b, off, x0, x1, x2, x3, x4, rfl, hb, e1, c0, c1, c2, c3, c4⟩ := (h.below BW.out).cells5 hlt
        obtain ⟨b', off', y0, y1, y2, y3, y4, rfl, hb', e2, d0, d1, d2, d3, d4⟩ := (h'.below BW.out).cells5 hlt
        rw [lesRow_at xs k hx] at e1
        rw [lesRow_at ys k hy] at e2
        simp only [lesCells, List.cons.injEq, and_true] at e1 e2
        obtain ⟨rfl, rfl, rfl, rfl, rfl⟩ := e1
        obtain ⟨rfl, rfl, rfl, rfl, rfl⟩ := e2
        have hne := hide (take_ne hx hy)
        have hnx := hide (take_next hx hy hr.out)
        generalize xs[k]'hx = x at *
        generalize ys[k]'hy = y at *
        obtain ⟨x0, x1, x2, x3, x4⟩ := x
        obtain ⟨y0, y1, y2, y3, y4⟩ := y
        simp only at c0 d0 c1 d1 c2 d2 c3 d3 c4 d4
        replace h := hide h
        replace h' := hide h'
        clear hx hy
        have hnb := fun W => neLes x0 x1 x2 x3 x4 y0 y1 y2 y3 y4 W
        have hq2 := hide (show (x0 == y0 && x1 == y1 && x2 == y2 && x3 == y3 && x4 == y4) = decide ((⟨x0, x1, x2, x3, x4⟩ : Les) = ⟨y0, y1, y2, y3, y4⟩) by rw [Bool.eq_iff_iff]; simp [Les.mk.injEq, and_assoc])
        obtain ⟨q, hq⟩ : ∃ q, (x0 == y0 && x1 == y1 && x2 == y2 && x3 == y3 && x4 == y4) = q := ⟨_, rfl⟩
        rw [hq] at hq2 hnb
        clear hq
        cases q with
        | true =>
          simp only [Bool.not_true] at hnb
          have hxy := hide (of_decide_eq_true hq2.out.symm)
          clear hq2
          go_wp2
          go_quiet (fail)
          go_wp2
          go_roundg (n - (k + 1))
          case measure => omega
          case rel => exact ⟨k + 1, by omega, by omega, by go_num, below_drewN BW.out _, hnx.out hxy.out⟩
        | false =>
          simp only [Bool.not_false] at hnb
          have hfin := hide (show decide (xs = ys) = false by rw [decide_eq_false_iff_not]; exact hne.out (of_decide_eq_false hq2.out.symm))
          clear hE hne hnx hq2
          go_wp2
          go_quiet (fail)
          go_wp2
          go_ret
          exact ⟨ret_bool hfin.out.symm, below_drewN BW.out _⟩
      · have hltz : ¬ (k : Int) < (n : Int) := by omega
        obtain rfl : k = n := by omega
        have hfin := hide (show decide (xs = ys) = true by rw [hE.out, decide_eq_true_iff]; exact hr.out)
        clear hE
        replace h := hide h
        replace h' := hide h'
        go_wp2
        go_ret
        exact ⟨ret_bool hfin.out.symm, BW.out⟩
  · have hne : xs ≠ ys := by
      rintro rfl; exact hl (hxn.symm.trans hym)
    have hb1 : ((n : Int) != (m : Int)) = true := by simp; omega
    have hfin := hide (show decide (xs = ys) = false by rw [decide_eq_false_iff_not]; exact hne)
    replace hne := hide hne
    replace h := hide h
    replace h' := hide h'
    replace hxn := hide hxn
    replace hym := hide hym
    go_enter Try.func55, Try.ntmps55
    go_wp2
    go_ret
    exact ⟨ret_bool hfin.out.symm, Below.refl _ _⟩
theorem pstRow_at (rs : List Pst) (j : Nat) (h : j < rs.length) : (rs.map pstCells)[j]?.getD [] = pstCells (rs[j]'h) := by
  rw [List.getElem?_eq_getElem (by simpa using h)]
  simp
set_option maxHeartbeats 1000000 in
theorem Equal_any (A B : Option Addr) (n m c d : Nat) (xs ys : List Pst) (w : World) (h : RdRow w A n 4 (xs.map pstCells)) (h' : RdRow w B m 4 (ys.map pstCells)) (hn : n ≤ maxLen) (hm : m ≤ maxLen) :
    Calls Try.prog 27 #[.slice A n c, .slice B m d] w fun e w' => e = .returned (.bool (decide (xs = ys))) ∧ Below w.heap.size w w' := by
  have hxn : xs.length = n := by simpa using h.1
  have hym : ys.length = m := by simpa using h'.1
  unfold maxLen at hn hm
  by_cases hl : n = m
  · subst hl
    have hE := hide (show decide (xs = ys) = decide (xs.take n = ys.take n) by rw [List.take_of_length_le (by rw [hxn]; exact Nat.le_refl _), List.take_of_length_le (by rw [hym]; exact Nat.le_refl _)])
    replace hxn := hide hxn
    replace hym := hide hym
    go_enter Try.func27, Try.ntmps27
    go_wp2
    go_loopg [5] n (fun g i wr => ∃ k : Nat, k ≤ n ∧ n - k ≤ g ∧ i = .int .i64 k ∧ Hid (Below w.heap.size w wr) ∧ Hid (xs.take k = ys.take k))
    case atStart => exact ⟨0, Nat.zero_le _, by omega, rfl, Below.refl _ _, rfl⟩
    case round =>
      obtain ⟨k, hk, hg, rfl, BW, hr⟩ := hrel
      by_cases hlt : k < n
      · have hltz : (k : Int) < (n : Int) := by omega
        have hk0 : (0 : Int) ≤ (k : Int) := by omega
        have hx : k < xs.length := by rw [hxn.out]; exact hlt
        have hy : k < ys.length := by rw [hym.out]; exact hlt
        obtain ⟨b, off, x0, x1, x2, x3, rfl, hb, e1, c0, c1, c2, c3⟩ := (h.below BW.out).cells4 hlt
        obtain ⟨b', off', y0, y1, y2, y3, rfl, hb', e2, d0, d1, d2, d3⟩ := (h'.below BW.out).cells4 hlt
        rw [pstRow_at xs k hx] at e1
        rw [pstRow_at ys k hy] at e2
        simp only [pstCells, List.cons.injEq, and_true] at e1 e2
        obtain ⟨rfl, rfl, rfl, rfl⟩ := e1
        obtain ⟨rfl, rfl, rfl, rfl⟩ := e2
        have hne := hide (take_ne hx hy)
        have hnx := hide (take_next hx hy hr.out)
        generalize xs[k]'hx = x at *
        generalize ys[k]'hy = y at *
        obtain ⟨x0, x1, x2, x3⟩ := x
        obtain ⟨y0, y1, y2, y3⟩ := y
        simp only at c0 d0 c1 d1 c2 d2 c3 d3
        replace h := hide h
        replace h' := hide h'
        clear hx hy
        have hnb := fun W => nePst x0 x1 x2 x3 y0 y1 y2 y3 W
        have hq2 := hide (show (x0 == y0 && x1 == y1 && x2 == y2 && x3 == y3) = decide ((⟨x0, x1, x2, x3⟩ : Pst) = ⟨y0, y1, y2, y3⟩) by rw [Bool.eq_iff_iff]; simp [Pst.mk.injEq, and_assoc])
        obtain ⟨q, hq⟩ : ∃ q, (x0 == y0 && x1 == y1 && x2 == y2 && x3 == y3) = q := ⟨_, rfl⟩
        rw [hq] at hq2 hnb
        clear hq
        cases q with
        | true =>
          simp only [Bool.not_true] at hnb
          have hxy := hide (of_decide_eq_true hq2.out.symm)
          clear hq2
          go_wp2
          go_quiet (fail)
          go_wp2
          go_roundg (n - (k + 1))
          case measure => omega
          case rel => exact ⟨k + 1, by omega, by omega, by go_num, below_drewN BW.out _, hnx.out hxy.out⟩
        | false =>
          simp only [Bool.not_false] at hnb
          have hfin := hide (show decide (xs = ys) = false by rw [decide_eq_false_iff_not]; exact hne.out (of_decide_eq_false hq2.out.symm))
          clear hE hne hnx hq2
          go_wp2
          go_quiet (fail)
          go_wp2
          go_ret
          exact ⟨ret_bool hfin.out.symm, below_drewN BW.out _⟩
      · have hltz : ¬ (k : Int) < (n : Int) := by omega
        obtain rfl : k = n := by omega
        have hfin := hide (show decide (xs = ys) = true by rw [hE.out, decide_eq_true_iff]; exact hr.out)
        clear hE
        replace h := hide h
        replace h' := hide h'
        go_wp2
        go_ret
        exact ⟨ret_bool hfin.out.symm, BW.out⟩
  · have hne : xs ≠ ys := by
      rintro rfl; exact hl (hxn.symm.trans hym)
    have hb1 : ((n : Int) != (m : Int)) = true := by simp; omega
    have hfin := hide (show decide (xs = ys) = false by rw [decide_eq_false_iff_not]; exact hne)
    replace hne := hide hne
    replace h := hide h
    replace h' := hide h'
    replace hxn := hide hxn
    replace hym := hide hym
    go_enter Try.func27, Try.ntmps27
    go_wp2
    go_ret
    exact ⟨ret_bool hfin.out.symm, Below.refl _ _⟩
end Go.Proofs.Ytkmhldjebopljaa

/-
  The reference's States; the lists' comparisons by what the values hold.
-/
namespace Go.Proofs.Ytkmhldjebopljaa
open Go.RowKit RG

theorem Ints_k {u u' : Value} {w : World} {xs ys : List Int} (h : IsInts xs u w) (h' : IsInts ys u' w) (hx : xs.length ≤ maxLen) (hy : ys.length ≤ maxLen) : Calls Try.prog 32 #[u, u'] w fun e w' => e = .returned (.bool (decide (xs = ys))) ∧ Below w.heap.size w w' := by
  obtain ⟨A, c, rfl, h, _⟩ := h
  obtain ⟨A', c', rfl, h', _⟩ := h'
  exact Ints_any _ _ _ _ _ _ _ _ _ h h' hx hy
theorem Errors_k {u u' : Value} {w : World} {xs ys : List Int} (h : IsInts xs u w) (h' : IsInts ys u' w) (hx : xs.length ≤ maxLen) (hy : ys.length ≤ maxLen) : Calls Try.prog 23 #[u, u'] w fun e w' => e = .returned (.bool (decide (xs = ys))) ∧ Below w.heap.size w w' := by
  obtain ⟨A, c, rfl, h, _⟩ := h
  obtain ⟨A', c', rfl, h', _⟩ := h'
  exact Errors_any _ _ _ _ _ _ _ _ _ h h' hx hy
theorem Lessons_k {u u' : Value} {w : World} {xs ys : List Les} (h : IsRow 5 (xs.map lesCells) u w) (h' : IsRow 5 (ys.map lesCells) u' w) : Calls Try.prog 55 #[u, u'] w fun e w' => e = .returned (.bool (decide (xs = ys))) ∧ Below w.heap.size w w' := by
  obtain ⟨A, c, rfl, h, h1, h2⟩ := h
  obtain ⟨A', c', rfl, h', h3, h4⟩ := h'
  exact Lessons_any _ _ _ _ _ _ _ _ _ h h' (by omega) (by omega)
theorem Equal_k {u u' : Value} {w : World} {xs ys : List Pst} (h : IsRow 4 (xs.map pstCells) u w) (h' : IsRow 4 (ys.map pstCells) u' w) : Calls Try.prog 27 #[u, u'] w fun e w' => e = .returned (.bool (decide (xs = ys))) ∧ Below w.heap.size w w' := by
  obtain ⟨A, c, rfl, h, h1, h2⟩ := h
  obtain ⟨A', c', rfl, h', h3, h4⟩ := h'
  exact Equal_any _ _ _ _ _ _ _ _ _ h h' (by omega) (by omega)
def LenOk (b : Bks) : Prop := b.km.length ≤ maxLen ∧ b.since.length ≤ maxLen ∧ b.acc.length ≤ maxLen
/-- Whether two states are equal. -/
def sameS (a b : Bks) : Bool := ((decide (a.les = b.les) && decide (a.km = b.km)) && decide (a.since = b.since)) && decide (a.acc = b.acc)
set_option maxRecDepth 100000 in
set_option maxHeartbeats 1000000 in
theorem States_any {a b : Bks} {u v : Value} {w : World} (h : IsState a u w) (h' : IsState b v w) (hl : LenOk a) (hl' : LenOk b) : Calls Try.prog 24 #[u, v] w fun e w' => e = .returned (.bool (sameS a b)) ∧ Below w.heap.size w w' := by
  obtain ⟨u0, u1, u2, u3, rfl, f0, f1, f2, f3⟩ := h
  obtain ⟨v0, v1, v2, v3, rfl, g0, g1, g2, g3⟩ := h'
  have q0 := hide (fun V (hb : Below w.heap.size w V) => Lessons_k (f0.below hb) (g0.below hb))
  have q1 := hide (fun V (hb : Below w.heap.size w V) => Ints_k (f1.below hb) (g1.below hb) hl.1 hl'.1)
  have q2 := hide (fun V (hb : Below w.heap.size w V) => Ints_k (f2.below hb) (g2.below hb) hl.2.1 hl'.2.1)
  have q3 := hide (fun V (hb : Below w.heap.size w V) => Ints_k (f3.below hb) (g3.below hb) hl.2.2 hl'.2.2)
  clear f0 f1 f2 f3 g0 g1 g2 g3
  unfold sameS
  generalize decide (a.les = b.les) = d0 at *
  generalize decide (a.km = b.km) = d1 at *
  generalize decide (a.since = b.since) = d2 at *
  generalize decide (a.acc = b.acc) = d3 at *
  replace hl := hide hl
  replace hl' := hide hl'
  obtain ⟨W, hW⟩ : ∃ y, (w.alloc (.cells #[u0, u1, u2, u3] 42)).alloc (.cells #[v0, v1, v2, v3] 42) = y := ⟨_, rfl⟩
  have k1 := hide (show Blk W w.heap.size 42 #[u0, u1, u2, u3] by rw [← hW]; exact (blkNew rfl).alloc _)
  have k2 := hide (show Blk W (w.heap.size + 1) 42 #[v0, v1, v2, v3] by rw [← hW]; exact blkNew (by simp))
  have hB := hide (show Below w.heap.size w W by rw [← hW]; exact ((Below.refl w.heap.size w).alloc (Nat.le_refl _) _).alloc (by simp) _)
  have c0 := k1.out.cell 0
  have c1 := k1.out.cell 1
  have c2 := k1.out.cell 2
  have c3 := k1.out.cell 3
  have e0 := k2.out.cell 0
  have e1 := k2.out.cell 1
  have e2 := k2.out.cell 2
  have e3 := k2.out.cell 3
  simp only [List.getElem?_toArray, List.getElem?_cons_zero, List.getElem?_cons_succ] at c0 c1 c2 c3 e0 e1 e2 e3
  replace hW := hide hW
  go_enter Try.func24, Try.ntmps24
  go_upto_region 1 with fail
  rw [hW.out]
  go_wp2_with fail
  refine (q0.out W hB.out).mono ?_
  rintro e w1 ⟨rfl, hb⟩
  replace k1 := hide (k1.out.below hb k1.out.lt)
  replace k2 := hide (k2.out.below hb k2.out.lt)
  replace hB := hide (hB.out.trans (hb.mono hB.out.size))
  clear hb q0 c0 c1 c2 c3 e0 e1 e2 e3
  cases d0 with
  | false =>
    clear k1 k2 q1 q2 q3
    go_wp2
    go_ret
    exact ⟨rfl, hB.out⟩
  | true =>
  have c1 := k1.out.cell 1
  have c2 := k1.out.cell 2
  have c3 := k1.out.cell 3
  have e1 := k2.out.cell 1
  have e2 := k2.out.cell 2
  have e3 := k2.out.cell 3
  simp only [List.getElem?_toArray, List.getElem?_cons_zero, List.getElem?_cons_succ] at c1 c2 c3 e1 e2 e3
  go_wp2_with fail
  refine (q1.out w1 hB.out).mono ?_
  rintro e w2 ⟨rfl, hb⟩
  replace k1 := hide (k1.out.below hb k1.out.lt)
  replace k2 := hide (k2.out.below hb k2.out.lt)
  replace hB := hide (hB.out.trans (hb.mono hB.out.size))
  clear hb q1 c1 c2 c3 e1 e2 e3
  cases d1 with
  | false =>
    clear k1 k2 q2 q3
    go_wp2
    go_ret
    exact ⟨rfl, hB.out⟩
  | true =>
  have c2 := k1.out.cell 2
  have c3 := k1.out.cell 3
  have e2 := k2.out.cell 2
  have e3 := k2.out.cell 3
  simp only [List.getElem?_toArray, List.getElem?_cons_zero, List.getElem?_cons_succ] at c2 c3 e2 e3
  go_wp2_with fail
  refine (q2.out w2 hB.out).mono ?_
  rintro e w3 ⟨rfl, hb⟩
  replace k1 := hide (k1.out.below hb k1.out.lt)
  replace k2 := hide (k2.out.below hb k2.out.lt)
  replace hB := hide (hB.out.trans (hb.mono hB.out.size))
  clear hb q2 c2 c3 e2 e3
  cases d2 with
  | false =>
    clear k1 k2 q3
    go_wp2
    go_ret
    exact ⟨rfl, hB.out⟩
  | true =>
  have c3 := k1.out.cell 3
  have e3 := k2.out.cell 3
  simp only [List.getElem?_toArray, List.getElem?_cons_zero, List.getElem?_cons_succ] at c3 e3
  go_wp2_with fail
  refine (q3.out w3 hB.out).mono ?_
  rintro e w4 ⟨rfl, hb⟩
  replace hB := hide (hB.out.trans (hb.mono hB.out.size))
  clear hb q3 c3 e3 k1 k2
  cases d3
  · go_wp2
    go_ret
    exact ⟨rfl, hB.out⟩
  · go_wp2
    go_ret
    exact ⟨rfl, hB.out⟩
end Go.Proofs.Ytkmhldjebopljaa

/-
  The school and the events of the examples.
-/
namespace Go.Proofs.Ytkmhldjebopljaa
open Go.RowKit RG

def S1 : BSch := ⟨[⟨#[97, 110, 110]⟩, ⟨#[98, 101, 110]⟩], [⟨⟨#[109, 105, 110, 105]⟩, 0, 100, 2⟩, ⟨⟨#[118, 97, 110]⟩, 500, 200, 0⟩], 4000, 30000, 8, 20, [⟨48, 0⟩, ⟨24, 500⟩]⟩
theorem rdStrs_blk {w : World} {g : Nat} {t : TypeId} {cs : Array Value} (xs : List ByteArray) (hx : ∀ x ∈ xs, x.size ≤ maxLen) (h : Blk w g t cs) (hc : cs = (xs.map Value.string).toArray) : RdStrs w (some ⟨g, 0, none⟩) xs.length xs := by
  subst hc
  refine ⟨rfl, hx, fun _ => ⟨g, 0, rfl, h.lt, fun j x hj => ?_⟩⟩
  rw [Nat.zero_add, h.cell, List.getElem?_toArray, List.getElem?_map, hj]
  rfl
theorem SchRows.stb {L C T : Option Addr} {cl cc ct : Nat} {S : BSch} {w w' : World} (h : SchRows w L C T cl cc ct S) (hb : Below w.heap.size w w') : SchRows w' L C T cl cc ct S := h.below hb
set_option maxRecDepth 100000 in
set_option maxHeartbeats 4000000 in
theorem School_w (w : World) : Calls Try.prog 30 #[] w fun e w' => (∃ v, e = .returned v ∧ RdBSch w' v S1) ∧ Below w.heap.size w w' := by
  have kS : Blk (w.alloc (.cells #[(.slice (some ⟨w.heap.size + 1, 0, none⟩) 2 2), (.slice (some ⟨w.heap.size + 1 + 1, 0, none⟩) 2 2), .int .i64 4000, .int .i64 30000, .int .i64 8, .int .i64 20, (.slice (some ⟨w.heap.size + 1 + 1 + 1, 0, none⟩) 2 2)] 28)) w.heap.size 28 #[(.slice (some ⟨w.heap.size + 1, 0, none⟩) 2 2), (.slice (some ⟨w.heap.size + 1 + 1, 0, none⟩) 2 2), .int .i64 4000, .int .i64 30000, .int .i64 8, .int .i64 20, (.slice (some ⟨w.heap.size + 1 + 1 + 1, 0, none⟩) 2 2)] := blkNew rfl
  obtain ⟨W1, hW1⟩ : ∃ y, w.alloc (.cells #[(.slice (some ⟨w.heap.size + 1, 0, none⟩) 2 2), (.slice (some ⟨w.heap.size + 1 + 1, 0, none⟩) 2 2), .int .i64 4000, .int .i64 30000, .int .i64 8, .int .i64 20, (.slice (some ⟨w.heap.size + 1 + 1 + 1, 0, none⟩) 2 2)] 28) = y := ⟨_, rfl⟩
  have hs1 : W1.heap.size = w.heap.size + 1 := by rw [← hW1]; simp
  rw [hW1] at kS
  have hB1 : Below w.heap.size w W1 := by rw [← hW1]; exact (Below.refl _ _).alloc (Nat.le_refl _) _
  obtain ⟨W2, hW2⟩ : ∃ y, W1.alloc (.cells #[.string ⟨#[97, 110, 110]⟩, .string ⟨#[98, 101, 110]⟩] 9) = y := ⟨_, rfl⟩
  have k2 : Blk W2 (w.heap.size + 1) 9 #[.string ⟨#[97, 110, 110]⟩, .string ⟨#[98, 101, 110]⟩] := by rw [← hW2]; exact blkNew hs1.symm
  have hs2 : W2.heap.size = w.heap.size + 1 + 1 := by rw [← hW2]; simp [hs1]
  have hb2 : Below W1.heap.size W1 W2 := by rw [← hW2]; exact (Below.refl _ _).alloc (Nat.le_refl _) _
  obtain ⟨W3, hW3⟩ : ∃ y, W2.alloc (.cells #[.string ⟨#[109, 105, 110, 105]⟩, .int .i64 0, .int .i64 100, .int .i64 2, .string ⟨#[118, 97, 110]⟩, .int .i64 500, .int .i64 200, .int .i64 0] 67) = y := ⟨_, rfl⟩
  have k3 : Blk W3 (w.heap.size + 1 + 1) 67 #[.string ⟨#[109, 105, 110, 105]⟩, .int .i64 0, .int .i64 100, .int .i64 2, .string ⟨#[118, 97, 110]⟩, .int .i64 500, .int .i64 200, .int .i64 0] := by rw [← hW3]; exact blkNew hs2.symm
  have hs3 : W3.heap.size = w.heap.size + 1 + 1 + 1 := by rw [← hW3]; simp [hs2]
  have hb3 : Below W2.heap.size W2 W3 := by rw [← hW3]; exact (Below.refl _ _).alloc (Nat.le_refl _) _
  obtain ⟨W4, hW4⟩ : ∃ y, W3.alloc (.cells #[.int .i64 48, .int .i64 0, .int .i64 24, .int .i64 500] 86) = y := ⟨_, rfl⟩
  have k4 : Blk W4 (w.heap.size + 1 + 1 + 1) 86 #[.int .i64 48, .int .i64 0, .int .i64 24, .int .i64 500] := by rw [← hW4]; exact blkNew hs3.symm
  have hb4 : Below W3.heap.size W3 W4 := by rw [← hW4]; exact (Below.refl _ _).alloc (Nat.le_refl _) _
  have hB := hide (((hB1.trans (hb2.mono hB1.size)).trans (hb3.mono (hB1.trans (hb2.mono hB1.size)).size)).trans (hb4.mono ((hB1.trans (hb2.mono hB1.size)).trans (hb3.mono (hB1.trans (hb2.mono hB1.size)).size)).size))
  have kS4 := (((kS.below hb2 kS.lt).below hb3 (kS.below hb2 kS.lt).lt).below hb4 ((kS.below hb2 kS.lt).below hb3 (kS.below hb2 kS.lt).lt).lt)
  have k24 := ((k2.below hb3 k2.lt).below hb4 (k2.below hb3 k2.lt).lt)
  have k34 := (k3.below hb4 k3.lt)
  have hfin := hide (show RdBSch W4 (.agg #[(.slice (some ⟨w.heap.size + 1, 0, none⟩) 2 2), (.slice (some ⟨w.heap.size + 1 + 1, 0, none⟩) 2 2), .int .i64 4000, .int .i64 30000, .int .i64 8, .int .i64 20, (.slice (some ⟨w.heap.size + 1 + 1 + 1, 0, none⟩) 2 2)]) S1 from
    ⟨some ⟨w.heap.size + 1, 0, none⟩, some ⟨w.heap.size + 1 + 1, 0, none⟩, some ⟨w.heap.size + 1 + 1 + 1, 0, none⟩, 2, 2, 2, rfl,
      rdStrs_blk S1.learners (by intro x hx; simp only [S1, List.mem_cons, List.not_mem_nil, or_false] at hx; rcases hx with rfl | rfl <;> (unfold maxLen; decide)) k24 rfl, ⟨by unfold maxLen; decide, by decide⟩,
      row_of_blk (k := 4) (f := carCells) (fun _ => rfl) S1.cars k34 rfl, ⟨by unfold maxLen; decide, by decide⟩,
      (by intro x hx; simp only [S1, List.mem_cons, List.not_mem_nil, or_false] at hx; rcases hx with rfl | rfl <;> (unfold maxLen; decide)),
      row_of_blk (k := 2) (f := termCells) (fun _ => rfl) S1.terms k4 rfl, ⟨by unfold maxLen; decide, by decide⟩⟩)
  have y0 := kS4.cell 0
  have y1 := kS4.cell 1
  have y2 := kS4.cell 2
  have y3 := kS4.cell 3
  have y4 := kS4.cell 4
  have y5 := kS4.cell 5
  have y6 := kS4.cell 6
  simp only [List.getElem?_toArray, List.getElem?_cons_zero, List.getElem?_cons_succ] at y0 y1 y2 y3 y4 y5 y6
  clear kS kS4 k2 k24 k3 k34 k4 hb2 hb3 hb4 hB1 hs1 hs2 hs3
  replace y0 := hide y0
  replace y1 := hide y1
  replace y2 := hide y2
  replace y3 := hide y3
  replace y4 := hide y4
  replace y5 := hide y5
  replace y6 := hide y6
  replace hW1 := hide hW1
  replace hW2 := hide hW2
  replace hW3 := hide hW3
  replace hW4 := hide hW4
  go_enter Try.func30, Try.ntmps30
  go_wp2
  rw [hW1.out, hW2.out, hW3.out, hW4.out]
  replace y0 := y0.out
  replace y1 := y1.out
  replace y2 := y2.out
  replace y3 := y3.out
  replace y4 := y4.out
  replace y5 := y5.out
  replace y6 := y6.out
  refine bodyPost_ret (v := .agg #[(.slice (some ⟨w.heap.size + 1, 0, none⟩) 2 2), (.slice (some ⟨w.heap.size + 1 + 1, 0, none⟩) 2 2), .int .i64 4000, .int .i64 30000, .int .i64 8, .int .i64 20, (.slice (some ⟨w.heap.size + 1 + 1 + 1, 0, none⟩) 2 2)]) ?_ rfl ⟨⟨_, rfl, hfin.out⟩, hB.out⟩
  simp [results, Try.results30, go_sem, y0, y1, y2, y3, y4, y5, y6]
end Go.Proofs.Ytkmhldjebopljaa

/-
  The events of the examples.
-/
namespace Go.Proofs.Ytkmhldjebopljaa
open Go.RowKit RG

def Ev1 : List BEv := [⟨0, 0, 0, 0, 0, 33, 2, 0, 0, 0, 0⟩, ⟨0, 0, 1, 0, 0, 34, 1, 0, 0, 0, 0⟩, ⟨0, 0, 1, 1, 0, 34, 1, 0, 0, 0, 0⟩, ⟨1, 5, 0, 0, 0, 0, 0, 0, 0, 0, 0⟩]
def EvC : List BEv := Ev1 ++ [⟨3, 35, 0, 0, 1, 0, 0, 0, 0, 150, 0⟩, ⟨5, 36, 0, 0, 1, 0, 0, 0, 0, 0, 50000⟩]
def EvW : List BEv := Ev1.take 3 ++ [⟨2, 4, 0, 0, 0, 0, 0, 1, 1, 0, 0⟩] ++ [⟨1, 5, 0, 0, 0, 0, 0, 0, 0, 0, 0⟩]
def ev1C : Array Value := #[.int .i64 0, .int .i64 0, .int .i64 0, .int .i64 0, .int .i64 0, .int .i64 33, .int .i64 2, .int .i64 0, .int .i64 0, .int .i64 0, .int .i64 0, .int .i64 0, .int .i64 0, .int .i64 1, .int .i64 0, .int .i64 0, .int .i64 34, .int .i64 1, .int .i64 0, .int .i64 0, .int .i64 0, .int .i64 0, .int .i64 0, .int .i64 0, .int .i64 1, .int .i64 1, .int .i64 0, .int .i64 34, .int .i64 1, .int .i64 0, .int .i64 0, .int .i64 0, .int .i64 0, .int .i64 1, .int .i64 5, .int .i64 0, .int .i64 0, .int .i64 0, .int .i64 0, .int .i64 0, .int .i64 0, .int .i64 0, .int .i64 0, .int .i64 0]
theorem own_below {w w' : World} {base : Nat} {e : TypeId} {size : Nat} {v : Value} {n : Nat} {xs : List Value} (h : w.ownsRow base e size v n xs) (hb : Below w.heap.size w w') : w'.ownsRow base e size v n xs :=
  h.kept (row := none) ⟨hb.os, hb.tape, hb.output, hb.size, fun i hi _ => hb.block i hi⟩ (by cases hv : v.ownBlock <;> simp)
theorem own_zero {w : World} {base : Nat} {e : TypeId} {size : Nat} {v : Value} {n : Nat} {xs : List Value} (h : w.ownsRow base e size v n xs) : w.ownsRow 0 e size v n xs :=
  ⟨h.1, h.2.imp (fun h => h) (fun ⟨g, cap, cur, e, _, h⟩ => ⟨g, cap, cur, e, Nat.zero_le _, h⟩)⟩
theorem below_of_grown {w w' : World} (h : w.grownBy w' none) : Below w.heap.size w w' := ⟨h.os, h.tape, h.output, h.size, fun k hk => h.block k hk (by simp)⟩
theorem row_of_own {w : World} {base k : Nat} {e : TypeId} {v : Value} {xs : List (List Value)} (hk : ∀ x ∈ xs, x.length = k) (h : w.ownsRow base e k v xs.length xs.flatten) : IsRow k xs v w :=
  (rowAt_of (X := fun _ => False) hk (own_zero h) (fun _ _ h => h)).isRow
theorem infoEv : (Try.prog.info? 65).map (fun i => (i.zero, i.size, i.bytes)) = some (some (.agg #[.int .i64 0, .int .i64 0, .int .i64 0, .int .i64 0, .int .i64 0, .int .i64 0, .int .i64 0, .int .i64 0, .int .i64 0, .int .i64 0, .int .i64 0]), 11, 88) := by kernel_rfl
section
variable {P : Program}
/-- An append whose run is known. -/
theorem wpList_append_run {ops : Array Oper} {rest : List Oper} {o : Oper} {a : Act} {w w' : World} {Q : Exit → Act → World → Prop} (hgd : o.guard = none) (s x : Operand) (t : TypeId)
    (ho : o.op = .call { callee := .builtin .append, args := #[s, x], argTypes := #[t, t] }) (v u v' : Value) (hs : a.eval s = v) (hx : a.eval x = u)
    (hr : (Builtin.append_ #[t, t] o.type #[v, u]).run P w = .ok v' w') (h : wpList P ops Q rest (a.put o.dst v') w') : wpList P ops Q (o :: rest) a w := by
  refine wpList_plain hgd fun K hK => ?_
  unfold Oper.wp execOp
  simp only [ho, resolve, invoke, builtin, Sem.run_bind, Sem.run_pure, Result.andThen_ok, List.map_toArray, List.map_cons, List.map_nil, hs, hx, hr]
  exact hK _ _ h
theorem wp_append_run {o : Oper} {a : Act} {w w' : World} {K : Act → World → Prop} {Q : Exit → Act → World → Prop} (s x : Operand) (t : TypeId)
    (ho : o.op = .call { callee := .builtin .append, args := #[s, x], argTypes := #[t, t] }) (v u v' : Value) (hs : a.eval s = v) (hx : a.eval x = u)
    (hr : (Builtin.append_ #[t, t] o.type #[v, u]).run P w = .ok v' w') (h : K (a.put o.dst v') w') : o.wp P a w K Q := by
  unfold Oper.wp execOp
  simp only [ho, resolve, invoke, builtin, Sem.run_bind, Sem.run_pure, Result.andThen_ok, List.map_toArray, List.map_cons, List.map_nil, hs, hx, hr]
  exact h
end
theorem blk_news {w : World} {g : Nat} {t : TypeId} {cs : Array Value} (h : Blk w g t cs) (o : Nat) : ∀ j u, (cs.toList.drop o)[j]? = some u → w.cell? ((⟨g, o, none⟩ : Addr).add j) = some u := by
  intro j u hj
  rw [Addr.add_lit, h.cell]
  rw [List.getElem?_drop] at hj
  simpa using hj
theorem blk_take {w : World} {g : Nat} {t : TypeId} {cs : Array Value} (h : Blk w g t cs) (n : Nat) : ∀ j u, (cs.toList.take n)[j]? = some u → w.cell? ((⟨g, 0, none⟩ : Addr).add j) = some u := by
  intro j u hj
  rw [Addr.add_lit, h.cell]
  have : j < n := by
    have h1 := (List.getElem?_eq_some_iff.1 hj).1
    rw [List.length_take] at h1; omega
  rw [List.getElem?_take_of_lt this] at hj
  simpa using hj
set_option maxRecDepth 100000 in
theorem Events_w (w : World) : Calls Try.prog 31 #[] w fun e w' => (∃ g, e = .returned (.slice (some ⟨g, 0, none⟩) 4 4) ∧ w.heap.size ≤ g ∧ Blk w' g 65 ev1C) ∧ Below w.heap.size w w' := by
  have bI := hide (show Blk (w.alloc (.cells ev1C 65)) w.heap.size 65 ev1C from blkNew rfl)
  go_enter Try.func31, Try.ntmps31
  go_wp2
  go_ret
  exact ⟨⟨_, rfl, Nat.le_refl _, bI.out⟩, (Below.refl _ _).alloc (Nat.le_refl _) _⟩
theorem ev_blk {w : World} {g : Nat} (h : Blk w g 65 ev1C) : IsRow 11 (Ev1.map evCells) (.slice (some ⟨g, 0, none⟩) 4 4) w :=
  ⟨some ⟨g, 0, none⟩, 4, rfl, row_of_blk (k := 11) (f := evCells) (fun _ => rfl) Ev1 h rfl, by decide, by unfold maxLen; decide⟩
set_option maxRecDepth 100000 in
set_option maxHeartbeats 1000000 in
theorem Crash_w (w : World) : Calls Try.prog 51 #[] w fun e w' => (∃ v, e = .returned v ∧ IsRow 11 (EvC.map evCells) v w') ∧ Below w.heap.size w w' := by
  go_enter Try.func51, Try.ntmps51
  go_wp2_with fail
  refine (Events_w _).mono ?_
  rintro e w1 ⟨⟨g, rfl, hg, hk⟩, hb⟩
  obtain ⟨W, hW⟩ : ∃ y, w1.alloc (.cells #[.int .i64 3, .int .i64 35, .int .i64 0, .int .i64 0, .int .i64 1, .int .i64 0, .int .i64 0, .int .i64 0, .int .i64 0, .int .i64 150, .int .i64 0, .int .i64 5, .int .i64 36, .int .i64 0, .int .i64 0, .int .i64 1, .int .i64 0, .int .i64 0, .int .i64 0, .int .i64 0, .int .i64 0, .int .i64 50000] 65) = y := ⟨_, rfl⟩
  have k1 : Blk W g 65 ev1C := by rw [← hW]; exact hk.alloc _
  have k2 : Blk W w1.heap.size 65 #[.int .i64 3, .int .i64 35, .int .i64 0, .int .i64 0, .int .i64 1, .int .i64 0, .int .i64 0, .int .i64 0, .int .i64 0, .int .i64 150, .int .i64 0, .int .i64 5, .int .i64 36, .int .i64 0, .int .i64 0, .int .i64 1, .int .i64 0, .int .i64 0, .int .i64 0, .int .i64 0, .int .i64 0, .int .i64 50000] := by rw [← hW]; exact blkNew rfl
  have hBW := hb.alloc hb.size (.cells #[.int .i64 3, .int .i64 35, .int .i64 0, .int .i64 0, .int .i64 1, .int .i64 0, .int .i64 0, .int .i64 0, .int .i64 0, .int .i64 150, .int .i64 0, .int .i64 5, .int .i64 36, .int .i64 0, .int .i64 0, .int .i64 1, .int .i64 0, .int .i64 0, .int .i64 0, .int .i64 0, .int .i64 0, .int .i64 50000] 65)
  rw [hW] at hBW
  obtain ⟨i0, hi, hz0, hz1, hz2⟩ := info_parts infoEv
  obtain ⟨v', w', hrun, hown, hgrow⟩ := run_append_arg_grows (P := Try.prog) (w := W) 37 37 65 i0 _ 11 88 Try.underlying37 hi hz0 hz1 hz2 rfl (by decide)
    ⟨g, 0, none⟩ 4 4 ev1C.toList rfl (blk_news k1 0) ⟨w1.heap.size, 0, none⟩ 2 2 (#[.int .i64 3, .int .i64 35, .int .i64 0, .int .i64 0, .int .i64 1, .int .i64 0, .int .i64 0, .int .i64 0, .int .i64 0, .int .i64 150, .int .i64 0, .int .i64 5, .int .i64 36, .int .i64 0, .int .i64 0, .int .i64 1, .int .i64 0, .int .i64 0, .int .i64 0, .int .i64 0, .int .i64 0, .int .i64 50000] : Array Value).toList rfl (blk_news k2 0) (by decide) (by unfold maxLen; decide) (by decide)
  have hfin := hide (show IsRow 11 (EvC.map evCells) v' w' from row_of_own (by intro x hx; obtain ⟨q, _, rfl⟩ := List.mem_map.1 hx; rfl) hown)
  have hBf := hide (hBW.trans ((below_of_grown hgrow).mono hBW.size))
  replace hrun := hide hrun
  replace hW := hide hW
  clear hown hgrow k1 k2 hBW hb hk hi hz0 hz1 hz2
  go_wp2_with (at_builtin; rw [hW.out]; refine wpList_append_run rfl _ _ 37 rfl _ _ _ rfl rfl hrun.out ?_)
  go_wp2
  go_ret
  exact ⟨⟨_, rfl, hfin.out⟩, hBf.out⟩
end Go.Proofs.Ytkmhldjebopljaa
