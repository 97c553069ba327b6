import Derived.Test.YtkhijdbigpaagaaNi
import Derived.Test.YtkhijdbigpaagaaNj
/-
  The reference's in, Ints and Spans; lists in memory.
-/
namespace Go.Proofs.Ytkhijdbigpaagaa
open Go.RowKit RG

theorem flat_get {α : Type} {k : Nat} {f : α → List Value} (hf : ∀ x, (f x).length = k) (xs : List α) (j i : Nat) (v : Value) (hv : ((xs.map f)[j]?.getD [])[i]? = some v) : j < xs.length ∧ i < k ∧ (xs.flatMap f)[j * k + i]? = some v := by
  induction xs generalizing j with
  | nil => simp at hv
  | cons x xs ih =>
    cases j with
    | zero =>
      simp only [List.map_cons, List.getElem?_cons_zero, Option.getD_some] at hv
      have hi : i < k := by have := (List.getElem?_eq_some_iff.1 hv).1; rwa [hf] at this
      refine ⟨by simp, hi, ?_⟩
      rw [List.flatMap_cons, Nat.zero_mul, Nat.zero_add, List.getElem?_append_left (by rw [hf]; exact hi)]
      exact hv
    | succ j =>
      simp only [List.map_cons, List.getElem?_cons_succ] at hv
      obtain ⟨h1, h2, h3⟩ := ih j hv
      refine ⟨by simpa using h1, h2, ?_⟩
      rw [List.flatMap_cons, List.getElem?_append_right (by rw [hf, Nat.succ_mul]; omega), hf, show (j + 1) * k + i - k = j * k + i by rw [Nat.succ_mul]; omega]
      exact h3
theorem row_of_blk {α : Type} {w : World} {g k : Nat} {t : TypeId} {cs : Array Value} {f : α → List Value} (hf : ∀ x, (f x).length = k) (xs : List α) (h : Blk w g t cs) (hc : cs.toList.take (xs.length * k) = xs.flatMap f) : RdRow w (some ⟨g, 0, none⟩) xs.length k (xs.map f) := by
  refine ⟨by simp, ?_, fun _ => ⟨g, 0, rfl, h.lt, fun j i v hv => ?_⟩⟩
  · intro x hx
    obtain ⟨s, _, rfl⟩ := List.mem_map.1 hx
    exact hf s
  · obtain ⟨hj, hi, hv2⟩ := flat_get hf xs j i v hv
    rw [Nat.zero_add, h.cell]
    rw [← hc] at hv2
    have hlt : j * k + i < xs.length * k := by
      have : (j + 1) * k ≤ xs.length * k := Nat.mul_le_mul_right _ hj
      rw [Nat.succ_mul] at this; omega
    rw [List.getElem?_take_of_lt hlt] at hv2
    simpa using hv2

theorem inRef_any (x lo hi : Int) (w : World) : Calls Try.prog 56 #[.int .i64 x, .int .i64 lo, .int .i64 hi] w fun e w' => e = .returned (.bool (inB lo hi x)) ∧ w = w' := by
  by_cases h1 : lo ≤ x
  · by_cases h2 : x ≤ hi
    · go_enter Try.func56, Try.ntmps56
      go_wp2
      go_ret
      exact ⟨ret_bool (by simp [inB, h1, h2]), rfl⟩
    · have h2' : hi < x := by omega
      go_enter Try.func56, Try.ntmps56
      go_wp2
      go_ret
      exact ⟨ret_bool (by simp [inB, h2]), rfl⟩
  · have h1' : x < lo := by omega
    go_enter Try.func56, Try.ntmps56
    go_wp2
    go_ret
    exact ⟨ret_bool (by simp [inB]; omega), rfl⟩
theorem eqSpan (a b c d : Int) (w : World) : (binOp .eql 32 (.agg #[.int .i64 a, .int .i64 b]) (.agg #[.int .i64 c, .int .i64 d])).run Try.prog w = .ok (.bool (a == c && b == d)) w := by
  have u3 := Try.underlying3
  have a3 := Try.isAgg3
  have z3 := Try.sizeOf3
  have hS : Try.prog.underlying 32 = some (.struct (Try.prog.fieldsOf 32)) := by kernel_rfl
  have hp : Try.prog.stoodInHeld 32 = false := by kernel_rfl
  rw [run_eql_struct, show (10000 : Nat) = 9999 + 1 from rfl, run_equalIn_agg w 9999 32 _ _ hS hp]
  simp only [Program.fieldsOf, Try.underlying32]
  go_simp
  by_cases h1 : a = c <;> by_cases h2 : b = d <;> simp [h1, h2]
theorem neSpan (a b c d : Int) (w : World) : (binOp .neq 32 (.agg #[.int .i64 a, .int .i64 b]) (.agg #[.int .i64 c, .int .i64 d])).run Try.prog w = .ok (.bool (!(a == c && b == d))) w := by
  have u3 := Try.underlying3
  have a3 := Try.isAgg3
  have z3 := Try.sizeOf3
  have hS : Try.prog.underlying 32 = some (.struct (Try.prog.fieldsOf 32)) := by kernel_rfl
  have hp : Try.prog.stoodInHeld 32 = false := by kernel_rfl
  rw [run_neq_struct, show (10000 : Nat) = 9999 + 1 from rfl, run_equalIn_agg w 9999 32 _ _ hS hp]
  simp only [Program.fieldsOf, Try.underlying32]
  go_simp
  by_cases h1 : a = c <;> by_cases h2 : b = d <;> simp [h1, h2]
end Go.Proofs.Ytkhijdbigpaagaa

/-
  The reference's Ints and Spans.
-/
namespace Go.Proofs.Ytkhijdbigpaagaa
open Go.RowKit RG

theorem take_ne {α : Type} {xs ys : List α} {k : Nat} (hx : k < xs.length) (hy : k < ys.length) (h : xs[k] ≠ ys[k]) : xs ≠ ys := by
  rintro rfl; exact h rfl
theorem take_next {α : Type} {xs ys : List α} {k : Nat} (hx : k < xs.length) (hy : k < ys.length) (hr : xs.take k = ys.take k) (h : xs[k] = ys[k]) : xs.take (k + 1) = ys.take (k + 1) := by
  rw [List.take_succ_eq_append_getElem hx, List.take_succ_eq_append_getElem hy, hr, h]

set_option maxHeartbeats 1000000 in
theorem Ints_any (A B : Option Addr) (n m c d : Nat) (xs ys : List Int) (w : World) (h : RdInts w A n xs) (h' : RdInts w B m ys) (hn : n ≤ maxLen) (hm : m ≤ maxLen) :
    Calls Try.prog 36 #[.slice A n c, .slice B m d] w fun e w' => e = .returned (.bool (decide (xs = ys))) ∧ Below w.heap.size w w' := by
  unfold maxLen at hn hm
  by_cases hl : n = m
  · subst hl
    have hE := hide (show decide (xs = ys) = decide (xs.take n = ys.take n) by rw [List.take_of_length_le (by rw [h.1]; exact Nat.le_refl _), List.take_of_length_le (by rw [h'.1]; exact Nat.le_refl _)])
    go_enter Try.func36, Try.ntmps36
    go_wp2
    go_loopg [5] n (fun g i wr => ∃ k : Nat, k ≤ n ∧ n - k ≤ g ∧ i = .int .i64 k ∧ Hid (Below w.heap.size w wr) ∧ Hid (xs.take k = ys.take k))
    case atStart => exact ⟨0, Nat.zero_le _, by omega, rfl, Below.refl _ _, rfl⟩
    case round =>
      obtain ⟨k, hk, hg, rfl, BW, hr⟩ := hrel
      by_cases hlt : k < n
      · have hltz : (k : Int) < (n : Int) := by omega
        have hk0 : (0 : Int) ≤ (k : Int) := by omega
        obtain ⟨b, off, rfl, hb, hc⟩ := h.2 (by omega)
        obtain ⟨b', off', rfl, hb', hc'⟩ := h'.2 (by omega)
        have hx : k < xs.length := by rw [h.1]; exact hlt
        have hy : k < ys.length := by rw [h'.1]; exact hlt
        have c1 := (cellB BW.out hb).trans (hc k hlt)
        have c2 := (cellB BW.out hb').trans (hc' k hlt)
        rw [List.getElem?_eq_getElem hx] at c1
        rw [List.getElem?_eq_getElem hy] at c2
        simp only [Option.getD_some] at c1 c2
        have hne := hide (take_ne hx hy)
        have hnx := hide (take_next hx hy hr.out)
        generalize xs[k]'hx = x at *
        generalize ys[k]'hy = y at *
        replace h := hide h
        replace h' := hide h'
        clear hc hc' hx hy
        by_cases hxy : x = y
        · have hb1 : ((x : Int) != y) = false := by simp [hxy]
          replace hxy := hide hxy
          go_wp2
          go_quiet (fail)
          go_wp2
          go_roundg (n - (k + 1))
          case measure => omega
          case rel => exact ⟨k + 1, by omega, by omega, by go_num, below_drewN BW.out _, hnx.out hxy.out⟩
        · have hb1 : ((x : Int) != y) = true := by simp [hxy]
          have hfin := hide (show decide (xs = ys) = false by rw [decide_eq_false_iff_not]; exact hne.out hxy)
          replace hxy := hide hxy
          clear hE hne hnx
          go_wp2
          go_quiet (fail)
          go_wp2
          go_ret
          exact ⟨ret_bool hfin.out.symm, below_drewN BW.out _⟩
      · have hltz : ¬ (k : Int) < (n : Int) := by omega
        obtain rfl : k = n := by omega
        have hfin := hide (show decide (xs = ys) = true by rw [hE.out, decide_eq_true_iff]; exact hr.out)
        clear hE
        replace h := hide h
        replace h' := hide h'
        go_wp2
        go_ret
        exact ⟨ret_bool hfin.out.symm, BW.out⟩
  · have hne : xs ≠ ys := by
      rintro rfl; exact hl (h.1.symm.trans h'.1)
    have hb1 : ((n : Int) != (m : Int)) = true := by simp; omega
    have hfin := hide (show decide (xs = ys) = false by rw [decide_eq_false_iff_not]; exact hne)
    replace hne := hide hne
    replace h := hide h
    replace h' := hide h'
    go_enter Try.func36, Try.ntmps36
    go_wp2
    go_ret
    exact ⟨ret_bool hfin.out.symm, Below.refl _ _⟩

theorem spRow_at (rs : List (Int × Int)) (j : Nat) (h : j < rs.length) : (rs.map tkCells)[j]?.getD [] = [.int .i64 (rs[j]?.getD (0, 0)).1, .int .i64 (rs[j]?.getD (0, 0)).2] := by
  rw [List.getElem?_eq_getElem (by simpa using h), List.getElem?_eq_getElem h]
  simp [tkCells]
set_option maxHeartbeats 1000000 in
theorem Spans_any (A B : Option Addr) (n m c d : Nat) (xs ys : List (Int × Int)) (w : World) (h : RdRow w A n 2 (xs.map tkCells)) (h' : RdRow w B m 2 (ys.map tkCells)) (hn : n ≤ maxLen) (hm : m ≤ maxLen) :
    Calls Try.prog 27 #[.slice A n c, .slice B m d] w fun e w' => e = .returned (.bool (decide (xs = ys))) ∧ Below w.heap.size w w' := by
  have hxn : xs.length = n := by simpa using h.1
  have hym : ys.length = m := by simpa using h'.1
  unfold maxLen at hn hm
  by_cases hl : n = m
  · subst hl
    have hE := hide (show decide (xs = ys) = decide (xs.take n = ys.take n) by rw [List.take_of_length_le (by rw [hxn]; exact Nat.le_refl _), List.take_of_length_le (by rw [hym]; exact Nat.le_refl _)])
    replace hxn := hide hxn
    replace hym := hide hym
    go_enter Try.func27, Try.ntmps27
    go_wp2
    go_loopg [5] n (fun g i wr => ∃ k : Nat, k ≤ n ∧ n - k ≤ g ∧ i = .int .i64 k ∧ Hid (Below w.heap.size w wr) ∧ Hid (xs.take k = ys.take k))
    case atStart => exact ⟨0, Nat.zero_le _, by omega, rfl, Below.refl _ _, rfl⟩
    case round =>
      obtain ⟨k, hk, hg, rfl, BW, hr⟩ := hrel
      by_cases hlt : k < n
      · have hltz : (k : Int) < (n : Int) := by omega
        have hk0 : (0 : Int) ≤ (k : Int) := by omega
        have hx : k < xs.length := by rw [hxn.out]; exact hlt
        have hy : k < ys.length := by rw [hym.out]; exact hlt
        obtain ⟨b, off, x0, x1, rfl, hb, e1, c1, c2⟩ := (h.below BW.out).cells2 hlt
        obtain ⟨b', off', y0, y1, rfl, hb', e2, c3, c4⟩ := (h'.below BW.out).cells2 hlt
        rw [spRow_at xs k hx, List.getElem?_eq_getElem hx] at e1
        rw [spRow_at ys k hy, List.getElem?_eq_getElem hy] at e2
        simp only [Option.getD_some, List.cons.injEq, and_true] at e1 e2
        obtain ⟨rfl, rfl⟩ := e1
        obtain ⟨rfl, rfl⟩ := e2
        have hne := hide (take_ne hx hy)
        have hnx := hide (take_next hx hy hr.out)
        generalize xs[k]'hx = x at *
        generalize ys[k]'hy = y at *
        obtain ⟨x0, x1⟩ := x
        obtain ⟨y0, y1⟩ := y
        simp only at c1 c2 c3 c4
        replace h := hide h
        replace h' := hide h'
        clear hx hy
        have hnb := fun W => neSpan x0 x1 y0 y1 W
        have hq2 := hide (show (x0 == y0 && x1 == y1) = decide (((x0, x1) : Int × Int) = (y0, y1)) by rw [Bool.eq_iff_iff]; simp [Prod.ext_iff])
        obtain ⟨q, hq⟩ : ∃ q, (x0 == y0 && x1 == y1) = q := ⟨_, rfl⟩
        rw [hq] at hq2 hnb
        clear hq
        cases q with
        | true =>
          simp only [Bool.not_true] at hnb
          have hxy := hide (of_decide_eq_true hq2.out.symm)
          clear hq2
          go_wp2
          go_quiet (fail)
          go_wp2
          go_roundg (n - (k + 1))
          case measure => omega
          case rel => exact ⟨k + 1, by omega, by omega, by go_num, below_drewN BW.out _, hnx.out hxy.out⟩
        | false =>
          simp only [Bool.not_false] at hnb
          have hfin := hide (show decide (xs = ys) = false by rw [decide_eq_false_iff_not]; exact hne.out (of_decide_eq_false hq2.out.symm))
          clear hE hne hnx hq2
          go_wp2
          go_quiet (fail)
          go_wp2
          go_ret
          exact ⟨ret_bool hfin.out.symm, below_drewN BW.out _⟩
      · have hltz : ¬ (k : Int) < (n : Int) := by omega
        obtain rfl : k = n := by omega
        have hfin := hide (show decide (xs = ys) = true by rw [hE.out, decide_eq_true_iff]; exact hr.out)
        clear hE
        replace h := hide h
        replace h' := hide h'
        go_wp2
        go_ret
        exact ⟨ret_bool hfin.out.symm, BW.out⟩
  · have hne : xs ≠ ys := by
      rintro rfl; exact hl (hxn.symm.trans hym)
    have hb1 : ((n : Int) != (m : Int)) = true := by simp; omega
    have hfin := hide (show decide (xs = ys) = false by rw [decide_eq_false_iff_not]; exact hne)
    replace hne := hide hne
    replace h := hide h
    replace h' := hide h'
    replace hxn := hide hxn
    replace hym := hide hym
    go_enter Try.func27, Try.ntmps27
    go_wp2
    go_ret
    exact ⟨ret_bool hfin.out.symm, Below.refl _ _⟩
end Go.Proofs.Ytkhijdbigpaagaa

/-
  The school, the ranges, the events and the test of the examples.
-/
namespace Go.Proofs.Ytkhijdbigpaagaa
open Go.RowKit RG

def S0 : Sch := ⟨[⟨⟨#[115, 116, 101, 101, 114]⟩, 20, 40, 5, 10⟩, ⟨⟨#[119, 97, 116, 99, 104]⟩, 10, 30, 0, 5⟩], [⟨⟨#[97, 100, 97]⟩, -20, 0⟩, ⟨⟨#[98, 111]⟩, 0, 30⟩]⟩
def St0 : List Sp := [(400, 500), (400, 500)]
def Ev0 (m : Int) : List Ev := [⟨0, 0, 0, 0, 0⟩, ⟨2, 1, 0, 0, m⟩]
def Ts0 : List (Int × Int) := [(0, 400), (1, 300)]
def IsEvs (es : List Ev) : Value → World → Prop := fun v w => ∃ A c, v = .slice A es.length c ∧ RdRow w A es.length 5 (es.map evCells) ∧ es.length ≤ c
def IsTst (ts : List (Int × Int)) (al : Int) : Value → World → Prop := fun v w => ∃ A c, v = .agg #[.slice A ts.length c, .int .i64 al] ∧ RdRow w A ts.length 2 (ts.map tkCells)

theorem RdRow.far_ {w : World} {b o n k : Nat} {xs : List (List Value)} (h : RdRow w (some ⟨b, o, none⟩) n k xs) {p : Addr} (hp : p.block ≠ b) (u : Value) : RdRow (w.setCell p u) (some ⟨b, o, none⟩) n k xs := by
  refine ⟨h.1, h.2.1, fun hn => ?_⟩
  obtain ⟨b', off, e, hlt, hc⟩ := h.2.2 hn
  injection e with e
  injection e with e1 e2
  subst e1
  refine ⟨b, off, by rw [e2], by simpa [World.setCell] using hlt, fun j i v hv => ?_⟩
  rw [World.cell?_of_block (Below.heap_setCell w p u b (fun e => hp e.symm))]
  exact hc j i v hv
theorem span_w (a b : Int) (w : World) : Calls Try.prog 41 #[.int .i64 a, .int .i64 b] w fun e w' => e = .returned (.agg #[.int .i64 a, .int .i64 b]) ∧ Below w.heap.size w w' := by
  go_enter Try.func41, Try.ntmps41
  have k0 : Blk (w.alloc (.cells #[.int .i64 a, .int .i64 b] 32)) w.heap.size 32 #[.int .i64 a, .int .i64 b] := blkNew rfl
  have c0 : (w.alloc (.cells #[.int .i64 a, .int .i64 b] 32)).cell? ⟨w.heap.size, 0, none⟩ = some (.int .i64 a) := k0.cell 0
  have c1 : (w.alloc (.cells #[.int .i64 a, .int .i64 b] 32)).cell? ⟨w.heap.size, 1, none⟩ = some (.int .i64 b) := k0.cell 1
  replace k0 := hide k0
  go_wp2
  refine bodyPost_ret (v := .agg #[.int .i64 a, .int .i64 b]) (by simp [results, Try.results41, go_sem, c0, c1]) rfl ⟨rfl, (Below.refl _ _).alloc (Nat.le_refl _) _⟩

set_option maxRecDepth 100000 in
set_option maxHeartbeats 4000000 in
theorem School_w (w : World) : Calls Try.prog 37 #[] w fun e w' => (∃ v, e = .returned v ∧ RdSch w' v S0) ∧ Below w.heap.size w w' := by
  go_enter Try.func37, Try.ntmps37
  have b0 := hide (show Blk (w.alloc (.cells #[.slice none 0 0, .slice none 0 0] 25)) w.heap.size 25 #[.slice none 0 0, .slice none 0 0] from blkNew rfl)
  have hB := hide (show Below w.heap.size w (w.alloc (.cells #[.slice none 0 0, .slice none 0 0] 25)) from (Below.refl _ _).alloc (Nat.le_refl _) _)
  go_wp2_with fail
  refine (span_w 20 40 _).mono ?_
  rintro e w1 ⟨rfl, hb⟩
  replace b0 := hide (b0.out.below hb b0.out.lt)
  replace hB := hide (hB.out.trans (hb.mono hB.out.size))
  clear hb
  go_wp2_with fail
  refine (span_w 5 10 _).mono ?_
  rintro e w2 ⟨rfl, hb⟩
  replace b0 := hide (b0.out.below hb b0.out.lt)
  replace hB := hide (hB.out.trans (hb.mono hB.out.size))
  clear hb
  go_wp2_with fail
  refine (span_w 10 30 _).mono ?_
  rintro e w3 ⟨rfl, hb⟩
  replace b0 := hide (b0.out.below hb b0.out.lt)
  replace hB := hide (hB.out.trans (hb.mono hB.out.size))
  clear hb
  go_wp2_with fail
  refine (span_w 0 5 _).mono ?_
  rintro e w4 ⟨rfl, hb⟩
  replace b0 := hide (b0.out.below hb b0.out.lt)
  replace hB := hide (hB.out.trans (hb.mono hB.out.size))
  clear hb
  go_wp2_with fail
  have hlt4 : w.heap.size < w4.heap.size := b0.out.lt
  have kS := blkNew (w := w4) (t := 76) (cs := #[.string ⟨#[115, 116, 101, 101, 114]⟩, .int .i64 20, .int .i64 40, .int .i64 5, .int .i64 10, .string ⟨#[119, 97, 116, 99, 104]⟩, .int .i64 10, .int .i64 30, .int .i64 0, .int .i64 5]) rfl
  have bS := hide (row_of_blk (k := 5) (f := skCells) (fun _ => rfl) S0.sks kS rfl)
  replace b0 := hide (b0.out.alloc (.cells #[.string ⟨#[115, 116, 101, 101, 114]⟩, .int .i64 20, .int .i64 40, .int .i64 5, .int .i64 10, .string ⟨#[119, 97, 116, 99, 104]⟩, .int .i64 10, .int .i64 30, .int .i64 0, .int .i64 5] 76))
  replace hB := hide (hB.out.alloc hB.out.size (.cells #[.string ⟨#[115, 116, 101, 101, 114]⟩, .int .i64 20, .int .i64 40, .int .i64 5, .int .i64 10, .string ⟨#[119, 97, 116, 99, 104]⟩, .int .i64 10, .int .i64 30, .int .i64 0, .int .i64 5] 76))
  clear kS
  refine (span_w (-20) 0 _).mono ?_
  rintro e w5 ⟨rfl, hb⟩
  replace bS := hide (bS.out.below hb)
  replace b0 := hide (b0.out.below hb b0.out.lt)
  replace hB := hide (hB.out.trans (hb.mono hB.out.size))
  clear hb
  go_wp2_with fail
  refine (span_w 0 30 _).mono ?_
  rintro e w6 ⟨rfl, hb⟩
  replace bS := hide (bS.out.below hb)
  replace b0 := hide (b0.out.below hb b0.out.lt)
  replace hB := hide (hB.out.trans (hb.mono hB.out.size))
  clear hb
  have hlt6 : w.heap.size < w6.heap.size := b0.out.lt
  have hne6 : w.heap.size ≠ w6.heap.size := by omega
  have x0 := b0.out.cell 0
  have x1 := b0.out.cell 1
  have f0 := b0.out.frozen 0
  have f1 := b0.out.frozen 1
  simp only [List.getElem?_toArray, List.getElem?_cons_zero, List.getElem?_cons_succ] at x0 x1
  obtain ⟨W, hW⟩ : ∃ W, (w6.setCell ⟨w.heap.size, 0, none⟩ (.slice (some ⟨w4.heap.size, 0, none⟩) 2 2)).setCell ⟨w.heap.size, 1, none⟩ (.slice (some ⟨w6.heap.size, 0, none⟩) 2 2) = W := ⟨_, rfl⟩
  have hWs : W.heap.size = w6.heap.size := by rw [← hW]; simp [World.setCell]
  have bS2 : RdRow W (some ⟨w4.heap.size, 0, none⟩) S0.sks.length 5 (S0.sks.map skCells) := by
    rw [← hW]; exact (bS.out.far_ (p := ⟨w.heap.size, 0, none⟩) (by show w.heap.size ≠ w4.heap.size; omega) _).far_ (p := ⟨w.heap.size, 1, none⟩) (by show w.heap.size ≠ w4.heap.size; omega) _
  have bI := hide (row_of_blk (k := 3) (f := inCells) (fun _ => rfl) S0.ins (blkNew (w := W) (t := 81) (cs := #[.string ⟨#[97, 100, 97]⟩, .int .i64 (-20), .int .i64 0, .string ⟨#[98, 111]⟩, .int .i64 0, .int .i64 30]) hWs.symm) rfl)
  have n2 : Blk W w.heap.size 25 #[.slice (some ⟨w4.heap.size, 0, none⟩) 2 2, .slice (some ⟨w6.heap.size, 0, none⟩) 2 2] := by
    rw [← hW]
    have := (b0.out.set_ 0 (.slice (some ⟨w4.heap.size, 0, none⟩) 2 2)).set_ 1 (.slice (some ⟨w6.heap.size, 0, none⟩) 2 2)
    simpa using this
  have hB2 := hide (show Below w.heap.size w W by rw [← hW]; exact (hB.out.setCell (p := ⟨w.heap.size, 0, none⟩) (Nat.le_refl _) _).setCell (p := ⟨w.heap.size, 1, none⟩) (Nat.le_refl _) _)
  replace bS2 := hide (bS2.alloc (.cells #[.string ⟨#[97, 100, 97]⟩, .int .i64 (-20), .int .i64 0, .string ⟨#[98, 111]⟩, .int .i64 0, .int .i64 30] 81))
  have n3 := n2.alloc (.cells #[.string ⟨#[97, 100, 97]⟩, .int .i64 (-20), .int .i64 0, .string ⟨#[98, 111]⟩, .int .i64 0, .int .i64 30] 81)
  replace n2 := hide n2
  replace n3 := hide n3
  replace hW := hide hW
  clear b0 bS hB
  go_wp2
  rw [hW.out]
  have y0 := n3.out.cell 0
  have y1 := n3.out.cell 1
  simp only [List.getElem?_toArray, List.getElem?_cons_zero, List.getElem?_cons_succ] at y0 y1
  refine bodyPost_ret (v := .agg #[.slice (some ⟨w4.heap.size, 0, none⟩) 2 2, .slice (some ⟨w6.heap.size, 0, none⟩) 2 2]) ?_ rfl ⟨⟨_, rfl, ?_⟩, hB2.out.alloc hB2.out.size _⟩
  · simp [results, Try.results37, go_sem, y0, y1]
  · exact ⟨_, 2, _, 2, rfl, bS2.out, by unfold maxLen; decide, by decide, by unfold maxLen; decide, bI.out, by unfold maxLen; decide, by decide, by unfold maxLen; decide⟩

set_option maxRecDepth 100000 in
set_option maxHeartbeats 4000000 in
theorem Start_w (w : World) : Calls Try.prog 38 #[] w fun e w' => (∃ v, e = .returned v ∧ IsSpans St0 v w') ∧ Below w.heap.size w w' := by
  go_enter Try.func38, Try.ntmps38
  go_wp2_with fail
  refine (span_w 400 500 _).mono ?_
  rintro e w1 ⟨rfl, hb1⟩
  replace hb1 := hide hb1
  go_wp2_with fail
  refine (span_w 400 500 _).mono ?_
  rintro e w2 ⟨rfl, hb2⟩
  have hB := hide (hb1.out.trans (hb2.mono hb1.out.size))
  clear hb1 hb2
  have bI := hide (row_of_blk (k := 2) (f := tkCells) (fun _ => rfl) St0 (blkNew (w := w2) (t := 32) (cs := #[.int .i64 400, .int .i64 500, .int .i64 400, .int .i64 500]) rfl) rfl)
  go_wp2
  go_ret
  exact ⟨⟨_, rfl, _, 2, rfl, bI.out, by decide⟩, hB.out.alloc hB.out.size _⟩
set_option maxRecDepth 100000 in
theorem Events_w (m : Int) (w : World) : Calls Try.prog 39 #[.int .i64 m] w fun e w' => (∃ v, e = .returned v ∧ IsEvs (Ev0 m) v w') ∧ Below w.heap.size w w' := by
  have bI := hide (row_of_blk (k := 5) (f := evCells) (fun _ => rfl) (Ev0 m) (blkNew (w := w) (t := 78) (cs := #[.int .i64 0, .int .i64 0, .int .i64 0, .int .i64 0, .int .i64 0, .int .i64 2, .int .i64 1, .int .i64 0, .int .i64 0, .int .i64 m]) rfl) rfl)
  go_enter Try.func39, Try.ntmps39
  go_wp2
  go_ret
  exact ⟨⟨_, rfl, _, 2, rfl, bI.out, by show 2 ≤ 2; omega⟩, (Below.refl _ _).alloc (Nat.le_refl _) _⟩
set_option maxRecDepth 100000 in
theorem Test_w (al : Int) (w : World) : Calls Try.prog 40 #[.int .i64 al] w fun e w' => (∃ v, e = .returned v ∧ IsTst Ts0 al v w') ∧ Below w.heap.size w w' := by
  have bI := hide (row_of_blk (k := 2) (f := tkCells) (fun _ => rfl) Ts0 (blkNew (w := w.alloc (.cells #[.slice (some ⟨w.heap.size + 1, 0, none⟩) 2 2, .int .i64 al] 48)) (t := 100) (cs := #[.int .i64 0, .int .i64 400, .int .i64 1, .int .i64 300]) rfl) rfl)
  rw [World.size_alloc] at bI
  go_enter Try.func40, Try.ntmps40
  go_wp2
  refine bodyPost_ret (v := .agg #[.slice (some ⟨w.heap.size + 1, 0, none⟩) 2 2, .int .i64 al]) (by simp [results, Try.results40, go_sem]) rfl ⟨⟨_, rfl, _, 2, rfl, bI.out⟩, ((Below.refl _ _).alloc (Nat.le_refl _) _).alloc (by simp) _⟩
end Go.Proofs.Ytkhijdbigpaagaa

/-
  What the calls of the examples return.
-/
namespace Go.Proofs.Ytkhijdbigpaagaa
open Go.RowKit RG

def L0 : List Sp := [(490, 515), (385, 500)]
theorem marks_0 : marksF S0 1 990 = ((990, 1000), 0) := by decide +kernel
theorem behind_0 : behindF S0 0 500 = ((500, 520), 0) := by decide +kernel
theorem after_0 : afterF S0 St0 (Ev0 500) 3 = (some L0, 0) := by decide +kernel
theorem sev_0 : sevF S0 St0 (Ev0 520) 0 = (-10, 0, 0) := by decide +kernel
theorem chance_0 : chanceF S0 Ts0 1 [490, 385] = (829850, 0) := by decide +kernel
theorem ready_0 : readyF S0 Ts0 1 L0 800 = (true, 829850, 884500, 0) := by decide +kernel
theorem few_0 : fewestF S0 Ts0 0 L0 400 = (some [5, 0], 0) := by decide +kernel
theorem after_1 : afterF S0 St0 (Ev0 560) 3 = (none, 9) := by decide +kernel

theorem RdSch.stb (S : Sch) : Stb (fun v w => RdSch w v S) := fun _ _ _ hb h => h.below hb
theorem IsEvs.stb (es : List Ev) : Stb (IsEvs es) := fun _ _ _ hb ⟨A, c, e, h, hc⟩ => ⟨A, c, e, h.below hb, hc⟩
theorem IsTst.stb (ts : List (Int × Int)) (al : Int) : Stb (IsTst ts al) := fun _ _ _ hb ⟨A, c, e, h⟩ => ⟨A, c, e, h.below hb⟩

theorem After_k (v r u : Value) (S : Sch) (rs : List Sp) (es : List Ev) (week : Int) (w : World) (h : RdSch w v S) (hr : IsSpans rs r w) (hu : IsEvs es u w) (h1 : rs.length ≤ maxLen) (h2 : es.length ≤ maxLen) :
    Calls Try.prog 25 #[v, r, u, .int .i64 week] w fun e w' => AfterR (afterF S rs es week) e w' ∧ Below w.heap.size w w' := by
  obtain ⟨L, cl, rfl, hL, _⟩ := hr
  obtain ⟨E, ce, rfl, hE, hc⟩ := hu
  exact After_any v S L E _ cl _ ce rs es week w h hL h1 hE h2 hc
theorem Severity_k (v r u : Value) (S : Sch) (rs : List Sp) (es : List Ev) (i : Int) (w : World) (h : RdSch w v S) (hr : IsSpans rs r w) (hu : IsEvs es u w) (h1 : rs.length ≤ maxLen) (h2 : es.length ≤ maxLen) :
    Calls Try.prog 28 #[v, r, u, .int .i64 i] w fun e w' => SevR (sevF S rs es i) e ∧ Below w.heap.size w w' := by
  obtain ⟨L, cl, rfl, hL, _⟩ := hr
  obtain ⟨E, ce, rfl, hE, hc⟩ := hu
  exact Severity_any v S L E _ cl _ ce rs es i w h hL h1 hE h2 hc
theorem Chance_k (v t l : Value) (S : Sch) (ts : List (Int × Int)) (al : Int) (ls : List Int) (w : World) (h : RdSch w v S) (ht : IsTst ts al t w) (hl : IsInts ls l w) (h1 : ts.length ≤ maxLen) (h2 : ls.length ≤ maxLen) :
    Calls Try.prog 30 #[v, t, l] w fun e w' => e = .returned (.tuple #[.int .i64 (chanceF S ts al ls).1, .int .i64 (chanceF S ts al ls).2]) ∧ Below w.heap.size w w' := by
  obtain ⟨B, cb, rfl, hB⟩ := ht
  obtain ⟨L, cl, rfl, hL, _⟩ := hl
  exact Chance_any v S B L _ cb _ cl ts al ls w h hB h1 hL h2
theorem Ready_k (v t r : Value) (S : Sch) (ts : List (Int × Int)) (al : Int) (rs : List Sp) (ch : Int) (w : World) (h : RdSch w v S) (ht : IsTst ts al t w) (hr : IsSpans rs r w) (h1 : ts.length ≤ maxLen) (h2 : rs.length ≤ maxLen) :
    Calls Try.prog 32 #[v, t, r, .int .i64 ch] w fun e w' => e = .returned (.tuple #[.bool (readyF S ts al rs ch).1, .int .i64 (readyF S ts al rs ch).2.1, .int .i64 (readyF S ts al rs ch).2.2.1, .int .i64 (readyF S ts al rs ch).2.2.2]) ∧ Below w.heap.size w w' := by
  obtain ⟨B, cb, rfl, hB⟩ := ht
  obtain ⟨L, cl, rfl, hL, _⟩ := hr
  exact Ready_any v S B L _ cb _ cl ts al rs ch w h hB h1 hL h2
theorem Fewest_k (v t r : Value) (S : Sch) (ts : List (Int × Int)) (al : Int) (rs : List Sp) (ch : Int) (w : World) (h : RdSch w v S) (ht : IsTst ts al t w) (hr : IsSpans rs r w) (h1 : ts.length ≤ maxLen) (h2 : rs.length ≤ maxLen) :
    Calls Try.prog 34 #[v, t, r, .int .i64 ch] w fun e w' => FewR (fewestF S ts al rs ch) e w' ∧ Below w.heap.size w w' := by
  obtain ⟨B, cb, rfl, hB⟩ := ht
  obtain ⟨L, cl, rfl, hL, _⟩ := hr
  exact Fewest_any v S B L _ cb _ cl ts al rs ch w h hB h1 hL h2
theorem Ints_k (u u' : Value) (w : World) (xs ys : List Int) (h : IsInts xs u w) (h' : IsInts ys u' w) (hx : xs.length ≤ maxLen) (hy : ys.length ≤ maxLen) : Calls Try.prog 36 #[u, u'] w fun e w' => e = .returned (.bool (decide (xs = ys))) ∧ Below w.heap.size w w' := by
  obtain ⟨A, c, rfl, h, _⟩ := h
  obtain ⟨A', c', rfl, h', _⟩ := h'
  exact Ints_any _ _ _ _ _ _ _ _ _ h h' hx hy
theorem Spans_k (u u' : Value) (w : World) (xs ys : List Sp) (h : IsSpans xs u w) (h' : IsSpans ys u' w) (hx : xs.length ≤ maxLen) (hy : ys.length ≤ maxLen) : Calls Try.prog 27 #[u, u'] w fun e w' => e = .returned (.bool (decide (xs = ys))) ∧ Below w.heap.size w w' := by
  obtain ⟨A, c, rfl, h, _⟩ := h
  obtain ⟨A', c', rfl, h', _⟩ := h'
  exact Spans_any _ _ _ _ _ _ _ _ _ h h' hx hy
theorem isInts_blk {w : World} {g c : Nat} {t : TypeId} (xs : List Int) {cs : Array Value} (h : Blk w g t cs) (hc : cs = (xs.map (Value.int .i64)).toArray) (hl : xs.length ≤ c) : IsInts xs (.slice (some ⟨g, 0, none⟩) xs.length c) w := by
  subst hc
  refine ⟨_, c, rfl, ⟨rfl, fun _ => ⟨g, 0, rfl, h.lt, fun j hj => ?_⟩⟩, hl⟩
  rw [Nat.zero_add, h.cell]
  simp [hj]
theorem isSpans_blk {w : World} {g c : Nat} {t : TypeId} (xs : List Sp) {cs : Array Value} (h : Blk w g t cs) (hc : cs.toList.take (xs.length * 2) = xs.flatMap tkCells) (hl : xs.length ≤ c) : IsSpans xs (.slice (some ⟨g, 0, none⟩) xs.length c) w :=
  ⟨_, c, rfl, row_of_blk (k := 2) (f := tkCells) (fun _ => rfl) xs h hc, hl⟩
end Go.Proofs.Ytkhijdbigpaagaa

/-
  A long region that draws its order: its frame is looked at slot by slot.
-/
namespace Go.Proofs.Ytkhijdbigpaagaa.RG
open Go

theorem putAll_old : ∀ (l : List Oper) (i : Nat) (y : Nat → Value) (a : Act) (d : Tmp), (l.all fun o => o.dst != some d) = true → (putAll l i y a).tmps.getD d undef = a.tmps.getD d undef
  | [], _, _, _, _, _ => rfl
  | o :: r, i, y, a, d, h => by
    simp only [List.all_cons, Bool.and_eq_true] at h
    simp only [putAll]
    rw [putAll_old r (i + 1) y _ d h.2]
    have h1 := h.1
    cases hd : o.dst with
    | none => rfl
    | some e =>
      rw [hd] at h1
      have hne : e ≠ d := by intro e'; subst e'; simp at h1
      simp [Act.put, Array.getD_eq_getD_getElem?, Array.getElem?_setIfInBounds_ne hne]
theorem putAll_size : ∀ (l : List Oper) (i : Nat) (y : Nat → Value) (a : Act), (putAll l i y a).tmps.size = a.tmps.size
  | [], _, _, _ => rfl
  | o :: r, i, y, a => by
    simp only [putAll]
    rw [putAll_size r]
    cases o.dst <;> simp [Act.put]
theorem putAll_get : ∀ (l : List Oper) (i : Nat) (y : Nat → Value) (a : Act) (j : Nat) (o : Oper) (d : Tmp), okB l i = true → l[j]? = some o → o.dst = some d → d < a.tmps.size → (putAll l i y a).tmps.getD d undef = y (i + j)
  | [], _, _, _, j, o, d, _, hj, _, _ => by simp at hj
  | o' :: r, i, y, a, 0, o, d, hok, hj, hd, hs => by
    simp only [List.getElem?_cons_zero, Option.some.injEq] at hj
    subst hj
    obtain ⟨_, h2, _⟩ := okB_cons hok
    simp only [putAll]
    rw [putAll_old r (i + 1) y _ d (List.all_eq_true.2 fun o2 ho2 => by simpa using h2 o2 ho2 d hd)]
    rw [hd]
    simp [Act.put, Array.getD_eq_getD_getElem?, Array.getElem?_setIfInBounds_self_of_lt hs]
  | o' :: r, i, y, a, j + 1, o, d, hok, hj, hd, hs => by
    obtain ⟨_, _, h3⟩ := okB_cons hok
    simp only [List.getElem?_cons_succ] at hj
    simp only [putAll]
    rw [putAll_get r (i + 1) y _ j o d h3 hj hd (by cases o'.dst <;> simpa [Act.put] using hs)]
    congr 1; omega

/-- The j-th operation writes slot d, which the frame has. -/
def atB (l : List Oper) (n j : Nat) (d : Tmp) : Bool := decide ((l[j]?).bind (·.dst) = some d) && decide (d < n)
theorem atB_of {l : List Oper} {n j : Nat} {d : Tmp} (h : atB l n j d = true) : (∃ o, l[j]? = some o ∧ o.dst = some d) ∧ d < n := by
  simp only [atB, Bool.and_eq_true, decide_eq_true_eq] at h
  obtain ⟨h1, h2⟩ := h
  cases hj : l[j]? with
  | none => rw [hj] at h1; cases h1
  | some o => rw [hj] at h1; exact ⟨⟨o, rfl, h1⟩, h2⟩
/-- Operation o is done if the k-th one, which writes slot d, yields true. -/
def guardB (l : List Oper) (n : Nat) (o : Oper) (k : Nat) (d : Tmp) : Bool := atB l n k d && decide (o.guard = some (k, true)) && o.after.toList.any fun e => decide (e.on = k) && Region.binds .any e
/-- What an operation's obligation may know of the frame. -/
structure Fr (l : List Oper) (a0 : Act) (y : Nat → Value) (T : Act) : Prop where
  get : ∀ j d, atB l a0.tmps.size j d = true → T.tmps.getD d undef = y j
  old : ∀ d v, (l.all fun o => o.dst != some d) = true → a0.tmps.getD d undef = v → T.tmps.getD d undef = v
theorem one_fr {P : Program} {l : List Oper} {C : World → Prop} {Rel : World → World → Prop} {V : Nat → Value → World → Prop} {a0 : Act} {i : Nat} {o : Oper} (hok : okB l 0 = true)
    (hg : decide (o.guard = none) = true ∨ ∃ k d, guardB l a0.tmps.size o k d = true ∧ ∀ v W, V k v W → v = .bool true)
    (h : ∀ (T : Act) (y : Nat → Value) (w : World) (K : Act → World → Prop) (Q : Exit → Act → World → Prop) (Cv : Value → World → Prop), Fr l a0 y T → C w → deps V y w o.after.toList →
      (∀ v w', C w' → Rel w w' → V i v w' → Cv v w') → (∀ v w', Cv v w' → K (T.put o.dst v) w') → o.wp P T w K Q) : One P l.toArray C Rel V a0 i o := by
  intro y w K Q Cv hC hd hV hK
  have hget : ∀ j d, atB l a0.tmps.size j d = true → (putAll l 0 y a0).tmps.getD d undef = y j := fun j d hb => by
    obtain ⟨⟨o, h1, h2⟩, h3⟩ := atB_of hb
    have := putAll_get l 0 y a0 j o d hok h1 h2 h3; rwa [Nat.zero_add] at this
  have hF : Fr l a0 y (putAll l.toArray.toList 0 y a0) := ⟨hget, fun d v h hv => (putAll_old l 0 y a0 d h).trans hv⟩
  have hw : Region.wanted o (yielded l.toArray (putAll l.toArray.toList 0 y a0).tmps) = true := by
    rcases hg with h | ⟨k, d, hb, hv⟩
    · simp [Region.wanted, of_decide_eq_true h]
    · simp only [guardB, Bool.and_eq_true, decide_eq_true_eq, List.any_eq_true] at hb
      obtain ⟨⟨h1, h2⟩, e, h5, h6, h7⟩ := hb
      have hde : ∀ (es : List Edge), deps V y w es → e ∈ es → V k (y k) w := by
        intro es hes
        induction es with
        | nil => intro h; cases h
        | cons e' r ih =>
          intro hm
          rcases List.mem_cons.1 hm with rfl | hm
          · have := hes.1 h7; rwa [h6] at this
          · exact ih hes.2 hm
      have h8 := hv _ _ (hde _ hd h5)
      obtain ⟨⟨o', h9, h10⟩, h11⟩ := atB_of h1
      have hgv := hget k d h1
      rw [h8] at hgv
      have hsz : d < (putAll l 0 y a0).tmps.size := by rw [putAll_size]; exact h11
      have hy : yielded l.toArray (putAll l 0 y a0).tmps k = some true := by
        unfold yielded
        rw [Array.getD_eq_getD_getElem?, Array.getElem?_eq_getElem hsz, Option.getD_some] at hgv
        simp only [List.getElem?_toArray, h9, Option.bind_some, h10, Array.getElem?_eq_getElem hsz, hgv]
      simp [Region.wanted, h2, hy]
  rw [if_pos hw]
  exact h _ y w K Q Cv hF hC hd hV hK
theorem putAll_defers : ∀ (l : List Oper) (i : Nat) (y : Nat → Value) (a : Act), (putAll l i y a).defers = a.defers
  | [], _, _, _ => rfl
  | o :: r, i, y, a => by
    simp only [putAll]
    rw [putAll_defers r]
    cases o.dst <;> rfl
theorem end_fr {l : List Oper} {a0 : Act} {y : Nat → Value} {Q : Act → World → Prop} {W : World} (hok : okB l 0 = true) (h : ∀ tm : Array Value, (∀ j d, atB l a0.tmps.size j d = true → tm.getD d undef = y j) → Q { tmps := tm, defers := a0.defers } W) : Q (putAll l 0 y a0) W := by
  have := h (putAll l 0 y a0).tmps (fun j d hb => by
    obtain ⟨⟨o, h1, h2⟩, h3⟩ := atB_of hb
    have := putAll_get l 0 y a0 j o d hok h1 h2 h3; rwa [Nat.zero_add] at this)
  rw [← putAll_defers l 0 y a0] at this
  exact this
end Go.Proofs.Ytkhijdbigpaagaa.RG
