import Derived.Test.YtkhijdbigpaagaaNa
import Derived.StillTail
/-
  FirstError at skills, instructors, ranges, tasks and events.
-/
namespace Go.Proofs.Ytkhijdbigpaagaa
open Go.RowKit RG

/-- The cells of one of SkSkill. -/
def IsSk (x : List Value) : Prop := ∃ (nm : ByteArray) (i1 i2 i3 i4 : Int), x = [.string nm, .int .i64 i1, .int .i64 i2, .int .i64 i3, .int .i64 i4]
set_option maxHeartbeats 1000000 in
theorem firstErrorSk (g : Nat) (bd lb : Array Value) (eg : ∀ args w, (callFunc g args).run Try.prog w = .ok (.enter g args) w) (err : Nat → Int) (A : Option Addr) (n c : Nat) (xs : List (List Value)) (w : World)
    (h : RdRow w A n 5 xs) (ht : ∀ x ∈ xs, IsSk x) (hm : n ≤ maxLen)
    (hp : ∀ j W, j < n → Below w.heap.size w W → Calls Try.prog g (bd ++ (#[.int .i64 j, .agg (xs[j]?.getD []).toArray] ++ lb)) W fun e w' => e = .returned (.int .i64 (err j)) ∧ Below W.heap.size W w') :
    Calls Try.prog 52 #[.slice A n c, .func (.func g) bd lb] w fun e w' => e = .returned (.tuple #[.int .i64 (firstErr err 0 n).1, .int .i64 (firstErr err 0 n).2]) ∧ Below w.heap.size w w' := by
  unfold maxLen at hm
  go_enter Try.func52, Try.ntmps52
  go_wp2
  go_loopg [6, 7, 8, 11] n (fun gg _ _ _ s11 wr => ∃ k : Nat, k ≤ n ∧ n - k ≤ gg ∧ s11 = .int .i64 k ∧ Hid (Below w.heap.size w wr) ∧ Hid (firstErr err 0 n = firstErr err k (n - k)))
  case atStart => exact ⟨0, Nat.zero_le _, by omega, rfl, Below.refl _ w, rfl⟩
  case round =>
    obtain ⟨k, hk, hg, rfl, BW, A1⟩ := hrel
    by_cases hlt : k < n
    · have hltz : (k : Int) < (n : Int) := by omega
      obtain ⟨b, off, x0, x1, x2, x3, x4, rfl, hb, hx, c0, c1, c2, c3, c4⟩ := (h.below BW.out).cells5 hlt
      have hB2 : Below w.heap.size w (wr.alloc (.cells #[x0, x1, x2, x3, x4] 76)) := BW.out.alloc BW.out.size _
      have hcall := hp k _ hlt hB2
      rw [hx] at hcall
      have hmem : xs[k]?.getD [] ∈ xs := by
        have hl : k < xs.length := by rw [h.1]; exact hlt
        rw [List.getElem?_eq_getElem hl]; exact List.getElem_mem hl
      obtain ⟨nm, i1, i2, i3, i4, he⟩ := ht _ hmem
      rw [hx] at he
      clear hx
      obtain ⟨rfl, rfl, rfl, rfl, rfl⟩ : x0 = .string nm ∧ x1 = .int .i64 i1 ∧ x2 = .int .i64 i2 ∧ x3 = .int .i64 i3 ∧ x4 = .int .i64 i4 := by simpa using he
      clear he hmem ht
      have HB2 := hide hB2
      clear hp hB2
      have h := hide h
      by_cases hq : err k = 0
      · have hfin : firstErr err 0 n = firstErr err (k + 1) (n - (k + 1)) := by rw [A1.out, show n - k = (n - (k + 1)) + 1 by omega]; simp [firstErr, hq]
        have HF := hide hfin
        rw [hq] at hcall
        clear hfin hq
        go_wp2_with (go_at_fn g; refine hcall.mono ?_; rintro e w' ⟨rfl, hb'⟩)
        go_roundg (n - (k + 1))
        case measure => omega
        case rel => exact ⟨k + 1, by omega, by omega, by go_num, HB2.out.trans (hb'.mono HB2.out.size), HF.out⟩
      · have hfin : firstErr err 0 n = ((k : Int), err k) := by rw [A1.out, show n - k = (n - k - 1) + 1 by omega]; simp [firstErr, hq]
        have HF := hide hfin
        have hq2 : (err k == 0) = false := by rw [beq_eq_false_iff_ne]; exact hq
        have hq3 : (err k != 0) = true := by rw [bne_iff_ne]; exact hq
        clear hfin
        generalize err k = ek at *
        go_wp2_with (go_at_fn g; refine hcall.mono ?_; rintro e w' ⟨rfl, hb'⟩)
        go_ret2
        exact ⟨by rw [HF.out]; rfl, HB2.out.trans (hb'.mono HB2.out.size)⟩
    · have hltz : ¬ (k : Int) < (n : Int) := by omega
      have hfin : firstErr err 0 n = (0, 0) := by rw [A1.out, show n - k = 0 by omega]; rfl
      have HF := hide hfin
      clear hfin
      go_wp2
      go_ret2
      exact ⟨by rw [HF.out]; rfl, BW.out⟩
/-- The cells of one of SkInstructor. -/
def IsIn (x : List Value) : Prop := ∃ (nm : ByteArray) (i1 i2 : Int), x = [.string nm, .int .i64 i1, .int .i64 i2]
set_option maxHeartbeats 1000000 in
theorem firstErrorIn (g : Nat) (bd lb : Array Value) (eg : ∀ args w, (callFunc g args).run Try.prog w = .ok (.enter g args) w) (err : Nat → Int) (A : Option Addr) (n c : Nat) (xs : List (List Value)) (w : World)
    (h : RdRow w A n 3 xs) (ht : ∀ x ∈ xs, IsIn x) (hm : n ≤ maxLen)
    (hp : ∀ j W, j < n → Below w.heap.size w W → Calls Try.prog g (bd ++ (#[.int .i64 j, .agg (xs[j]?.getD []).toArray] ++ lb)) W fun e w' => e = .returned (.int .i64 (err j)) ∧ Below W.heap.size W w') :
    Calls Try.prog 54 #[.slice A n c, .func (.func g) bd lb] w fun e w' => e = .returned (.tuple #[.int .i64 (firstErr err 0 n).1, .int .i64 (firstErr err 0 n).2]) ∧ Below w.heap.size w w' := by
  unfold maxLen at hm
  go_enter Try.func54, Try.ntmps54
  go_wp2
  go_loopg [6, 7, 8, 11] n (fun gg _ _ _ s11 wr => ∃ k : Nat, k ≤ n ∧ n - k ≤ gg ∧ s11 = .int .i64 k ∧ Hid (Below w.heap.size w wr) ∧ Hid (firstErr err 0 n = firstErr err k (n - k)))
  case atStart => exact ⟨0, Nat.zero_le _, by omega, rfl, Below.refl _ w, rfl⟩
  case round =>
    obtain ⟨k, hk, hg, rfl, BW, A1⟩ := hrel
    by_cases hlt : k < n
    · have hltz : (k : Int) < (n : Int) := by omega
      obtain ⟨b, off, x0, x1, x2, rfl, hb, hx, c0, c1, c2⟩ := (h.below BW.out).cells3 hlt
      have hB2 : Below w.heap.size w (wr.alloc (.cells #[x0, x1, x2] 81)) := BW.out.alloc BW.out.size _
      have hcall := hp k _ hlt hB2
      rw [hx] at hcall
      have hmem : xs[k]?.getD [] ∈ xs := by
        have hl : k < xs.length := by rw [h.1]; exact hlt
        rw [List.getElem?_eq_getElem hl]; exact List.getElem_mem hl
      obtain ⟨nm, i1, i2, he⟩ := ht _ hmem
      rw [hx] at he
      clear hx
      obtain ⟨rfl, rfl, rfl⟩ : x0 = .string nm ∧ x1 = .int .i64 i1 ∧ x2 = .int .i64 i2 := by simpa using he
      clear he hmem ht
      have HB2 := hide hB2
      clear hp hB2
      have h := hide h
      by_cases hq : err k = 0
      · have hfin : firstErr err 0 n = firstErr err (k + 1) (n - (k + 1)) := by rw [A1.out, show n - k = (n - (k + 1)) + 1 by omega]; simp [firstErr, hq]
        have HF := hide hfin
        rw [hq] at hcall
        clear hfin hq
        go_wp2_with (go_at_fn g; refine hcall.mono ?_; rintro e w' ⟨rfl, hb'⟩)
        go_roundg (n - (k + 1))
        case measure => omega
        case rel => exact ⟨k + 1, by omega, by omega, by go_num, HB2.out.trans (hb'.mono HB2.out.size), HF.out⟩
      · have hfin : firstErr err 0 n = ((k : Int), err k) := by rw [A1.out, show n - k = (n - k - 1) + 1 by omega]; simp [firstErr, hq]
        have HF := hide hfin
        have hq2 : (err k == 0) = false := by rw [beq_eq_false_iff_ne]; exact hq
        have hq3 : (err k != 0) = true := by rw [bne_iff_ne]; exact hq
        clear hfin
        generalize err k = ek at *
        go_wp2_with (go_at_fn g; refine hcall.mono ?_; rintro e w' ⟨rfl, hb'⟩)
        go_ret2
        exact ⟨by rw [HF.out]; rfl, HB2.out.trans (hb'.mono HB2.out.size)⟩
    · have hltz : ¬ (k : Int) < (n : Int) := by omega
      have hfin : firstErr err 0 n = (0, 0) := by rw [A1.out, show n - k = 0 by omega]; rfl
      have HF := hide hfin
      clear hfin
      go_wp2
      go_ret2
      exact ⟨by rw [HF.out]; rfl, BW.out⟩
/-- The cells of one of Span. -/
def IsSp (x : List Value) : Prop := ∃ (i0 i1 : Int), x = [.int .i64 i0, .int .i64 i1]
set_option maxHeartbeats 1000000 in
theorem firstErrorSp (g : Nat) (bd lb : Array Value) (eg : ∀ args w, (callFunc g args).run Try.prog w = .ok (.enter g args) w) (err : Nat → Int) (A : Option Addr) (n c : Nat) (xs : List (List Value)) (w : World)
    (h : RdRow w A n 2 xs) (ht : ∀ x ∈ xs, IsSp x) (hm : n ≤ maxLen)
    (hp : ∀ j W, j < n → Below w.heap.size w W → Calls Try.prog g (bd ++ (#[.int .i64 j, .agg (xs[j]?.getD []).toArray] ++ lb)) W fun e w' => e = .returned (.int .i64 (err j)) ∧ Below W.heap.size W w') :
    Calls Try.prog 119 #[.slice A n c, .func (.func g) bd lb] w fun e w' => e = .returned (.tuple #[.int .i64 (firstErr err 0 n).1, .int .i64 (firstErr err 0 n).2]) ∧ Below w.heap.size w w' := by
  unfold maxLen at hm
  go_enter Try.func119, Try.ntmps119
  go_wp2
  go_loopg [6, 7, 8, 11] n (fun gg _ _ _ s11 wr => ∃ k : Nat, k ≤ n ∧ n - k ≤ gg ∧ s11 = .int .i64 k ∧ Hid (Below w.heap.size w wr) ∧ Hid (firstErr err 0 n = firstErr err k (n - k)))
  case atStart => exact ⟨0, Nat.zero_le _, by omega, rfl, Below.refl _ w, rfl⟩
  case round =>
    obtain ⟨k, hk, hg, rfl, BW, A1⟩ := hrel
    by_cases hlt : k < n
    · have hltz : (k : Int) < (n : Int) := by omega
      obtain ⟨b, off, x0, x1, rfl, hb, hx, c0, c1⟩ := (h.below BW.out).cells2 hlt
      have hB2 : Below w.heap.size w (wr.alloc (.cells #[x0, x1] 32)) := BW.out.alloc BW.out.size _
      have hcall := hp k _ hlt hB2
      rw [hx] at hcall
      have hmem : xs[k]?.getD [] ∈ xs := by
        have hl : k < xs.length := by rw [h.1]; exact hlt
        rw [List.getElem?_eq_getElem hl]; exact List.getElem_mem hl
      obtain ⟨i0, i1, he⟩ := ht _ hmem
      rw [hx] at he
      clear hx
      obtain ⟨rfl, rfl⟩ : x0 = .int .i64 i0 ∧ x1 = .int .i64 i1 := by simpa using he
      clear he hmem ht
      have HB2 := hide hB2
      clear hp hB2
      have h := hide h
      by_cases hq : err k = 0
      · have hfin : firstErr err 0 n = firstErr err (k + 1) (n - (k + 1)) := by rw [A1.out, show n - k = (n - (k + 1)) + 1 by omega]; simp [firstErr, hq]
        have HF := hide hfin
        rw [hq] at hcall
        clear hfin hq
        go_wp2_with (go_at_fn g; refine hcall.mono ?_; rintro e w' ⟨rfl, hb'⟩)
        go_roundg (n - (k + 1))
        case measure => omega
        case rel => exact ⟨k + 1, by omega, by omega, by go_num, HB2.out.trans (hb'.mono HB2.out.size), HF.out⟩
      · have hfin : firstErr err 0 n = ((k : Int), err k) := by rw [A1.out, show n - k = (n - k - 1) + 1 by omega]; simp [firstErr, hq]
        have HF := hide hfin
        have hq2 : (err k == 0) = false := by rw [beq_eq_false_iff_ne]; exact hq
        have hq3 : (err k != 0) = true := by rw [bne_iff_ne]; exact hq
        clear hfin
        generalize err k = ek at *
        go_wp2_with (go_at_fn g; refine hcall.mono ?_; rintro e w' ⟨rfl, hb'⟩)
        go_ret2
        exact ⟨by rw [HF.out]; rfl, HB2.out.trans (hb'.mono HB2.out.size)⟩
    · have hltz : ¬ (k : Int) < (n : Int) := by omega
      have hfin : firstErr err 0 n = (0, 0) := by rw [A1.out, show n - k = 0 by omega]; rfl
      have HF := hide hfin
      clear hfin
      go_wp2
      go_ret2
      exact ⟨by rw [HF.out]; rfl, BW.out⟩
/-- The cells of one of SkTask. -/
def IsTk (x : List Value) : Prop := ∃ (i0 i1 : Int), x = [.int .i64 i0, .int .i64 i1]
set_option maxHeartbeats 1000000 in
theorem firstErrorTk (g : Nat) (bd lb : Array Value) (eg : ∀ args w, (callFunc g args).run Try.prog w = .ok (.enter g args) w) (err : Nat → Int) (A : Option Addr) (n c : Nat) (xs : List (List Value)) (w : World)
    (h : RdRow w A n 2 xs) (ht : ∀ x ∈ xs, IsTk x) (hm : n ≤ maxLen)
    (hp : ∀ j W, j < n → Below w.heap.size w W → Calls Try.prog g (bd ++ (#[.int .i64 j, .agg (xs[j]?.getD []).toArray] ++ lb)) W fun e w' => e = .returned (.int .i64 (err j)) ∧ Below W.heap.size W w') :
    Calls Try.prog 108 #[.slice A n c, .func (.func g) bd lb] w fun e w' => e = .returned (.tuple #[.int .i64 (firstErr err 0 n).1, .int .i64 (firstErr err 0 n).2]) ∧ Below w.heap.size w w' := by
  unfold maxLen at hm
  go_enter Try.func108, Try.ntmps108
  go_wp2
  go_loopg [6, 7, 8, 11] n (fun gg _ _ _ s11 wr => ∃ k : Nat, k ≤ n ∧ n - k ≤ gg ∧ s11 = .int .i64 k ∧ Hid (Below w.heap.size w wr) ∧ Hid (firstErr err 0 n = firstErr err k (n - k)))
  case atStart => exact ⟨0, Nat.zero_le _, by omega, rfl, Below.refl _ w, rfl⟩
  case round =>
    obtain ⟨k, hk, hg, rfl, BW, A1⟩ := hrel
    by_cases hlt : k < n
    · have hltz : (k : Int) < (n : Int) := by omega
      obtain ⟨b, off, x0, x1, rfl, hb, hx, c0, c1⟩ := (h.below BW.out).cells2 hlt
      have hB2 : Below w.heap.size w (wr.alloc (.cells #[x0, x1] 100)) := BW.out.alloc BW.out.size _
      have hcall := hp k _ hlt hB2
      rw [hx] at hcall
      have hmem : xs[k]?.getD [] ∈ xs := by
        have hl : k < xs.length := by rw [h.1]; exact hlt
        rw [List.getElem?_eq_getElem hl]; exact List.getElem_mem hl
      obtain ⟨i0, i1, he⟩ := ht _ hmem
      rw [hx] at he
      clear hx
      obtain ⟨rfl, rfl⟩ : x0 = .int .i64 i0 ∧ x1 = .int .i64 i1 := by simpa using he
      clear he hmem ht
      have HB2 := hide hB2
      clear hp hB2
      have h := hide h
      by_cases hq : err k = 0
      · have hfin : firstErr err 0 n = firstErr err (k + 1) (n - (k + 1)) := by rw [A1.out, show n - k = (n - (k + 1)) + 1 by omega]; simp [firstErr, hq]
        have HF := hide hfin
        rw [hq] at hcall
        clear hfin hq
        go_wp2_with (go_at_fn g; refine hcall.mono ?_; rintro e w' ⟨rfl, hb'⟩)
        go_roundg (n - (k + 1))
        case measure => omega
        case rel => exact ⟨k + 1, by omega, by omega, by go_num, HB2.out.trans (hb'.mono HB2.out.size), HF.out⟩
      · have hfin : firstErr err 0 n = ((k : Int), err k) := by rw [A1.out, show n - k = (n - k - 1) + 1 by omega]; simp [firstErr, hq]
        have HF := hide hfin
        have hq2 : (err k == 0) = false := by rw [beq_eq_false_iff_ne]; exact hq
        have hq3 : (err k != 0) = true := by rw [bne_iff_ne]; exact hq
        clear hfin
        generalize err k = ek at *
        go_wp2_with (go_at_fn g; refine hcall.mono ?_; rintro e w' ⟨rfl, hb'⟩)
        go_ret2
        exact ⟨by rw [HF.out]; rfl, HB2.out.trans (hb'.mono HB2.out.size)⟩
    · have hltz : ¬ (k : Int) < (n : Int) := by omega
      have hfin : firstErr err 0 n = (0, 0) := by rw [A1.out, show n - k = 0 by omega]; rfl
      have HF := hide hfin
      clear hfin
      go_wp2
      go_ret2
      exact ⟨by rw [HF.out]; rfl, BW.out⟩
/-- The cells of one of SkEvent. -/
def IsEv (x : List Value) : Prop := ∃ (i0 i1 i2 i3 i4 : Int), x = [.int .i64 i0, .int .i64 i1, .int .i64 i2, .int .i64 i3, .int .i64 i4]
set_option maxHeartbeats 1000000 in
theorem firstErrorEv (g : Nat) (bd lb : Array Value) (eg : ∀ args w, (callFunc g args).run Try.prog w = .ok (.enter g args) w) (err : Nat → Int) (A : Option Addr) (n c : Nat) (xs : List (List Value)) (w : World)
    (h : RdRow w A n 5 xs) (ht : ∀ x ∈ xs, IsEv x) (hm : n ≤ maxLen)
    (hp : ∀ j W, j < n → Below w.heap.size w W → Calls Try.prog g (bd ++ (#[.int .i64 j, .agg (xs[j]?.getD []).toArray] ++ lb)) W fun e w' => e = .returned (.int .i64 (err j)) ∧ Below W.heap.size W w') :
    Calls Try.prog 100 #[.slice A n c, .func (.func g) bd lb] w fun e w' => e = .returned (.tuple #[.int .i64 (firstErr err 0 n).1, .int .i64 (firstErr err 0 n).2]) ∧ Below w.heap.size w w' := by
  unfold maxLen at hm
  go_enter Try.func100, Try.ntmps100
  go_wp2
  go_loopg [6, 7, 8, 11] n (fun gg _ _ _ s11 wr => ∃ k : Nat, k ≤ n ∧ n - k ≤ gg ∧ s11 = .int .i64 k ∧ Hid (Below w.heap.size w wr) ∧ Hid (firstErr err 0 n = firstErr err k (n - k)))
  case atStart => exact ⟨0, Nat.zero_le _, by omega, rfl, Below.refl _ w, rfl⟩
  case round =>
    obtain ⟨k, hk, hg, rfl, BW, A1⟩ := hrel
    by_cases hlt : k < n
    · have hltz : (k : Int) < (n : Int) := by omega
      obtain ⟨b, off, x0, x1, x2, x3, x4, rfl, hb, hx, c0, c1, c2, c3, c4⟩ := (h.below BW.out).cells5 hlt
      have hB2 : Below w.heap.size w (wr.alloc (.cells #[x0, x1, x2, x3, x4] 78)) := BW.out.alloc BW.out.size _
      have hcall := hp k _ hlt hB2
      rw [hx] at hcall
      have hmem : xs[k]?.getD [] ∈ xs := by
        have hl : k < xs.length := by rw [h.1]; exact hlt
        rw [List.getElem?_eq_getElem hl]; exact List.getElem_mem hl
      obtain ⟨i0, i1, i2, i3, i4, he⟩ := ht _ hmem
      rw [hx] at he
      clear hx
      obtain ⟨rfl, rfl, rfl, rfl, rfl⟩ : x0 = .int .i64 i0 ∧ x1 = .int .i64 i1 ∧ x2 = .int .i64 i2 ∧ x3 = .int .i64 i3 ∧ x4 = .int .i64 i4 := by simpa using he
      clear he hmem ht
      have HB2 := hide hB2
      clear hp hB2
      have h := hide h
      by_cases hq : err k = 0
      · have hfin : firstErr err 0 n = firstErr err (k + 1) (n - (k + 1)) := by rw [A1.out, show n - k = (n - (k + 1)) + 1 by omega]; simp [firstErr, hq]
        have HF := hide hfin
        rw [hq] at hcall
        clear hfin hq
        go_wp2_with (go_at_fn g; refine hcall.mono ?_; rintro e w' ⟨rfl, hb'⟩)
        go_roundg (n - (k + 1))
        case measure => omega
        case rel => exact ⟨k + 1, by omega, by omega, by go_num, HB2.out.trans (hb'.mono HB2.out.size), HF.out⟩
      · have hfin : firstErr err 0 n = ((k : Int), err k) := by rw [A1.out, show n - k = (n - k - 1) + 1 by omega]; simp [firstErr, hq]
        have HF := hide hfin
        have hq2 : (err k == 0) = false := by rw [beq_eq_false_iff_ne]; exact hq
        have hq3 : (err k != 0) = true := by rw [bne_iff_ne]; exact hq
        clear hfin
        generalize err k = ek at *
        go_wp2_with (go_at_fn g; refine hcall.mono ?_; rintro e w' ⟨rfl, hb'⟩)
        go_ret2
        exact ⟨by rw [HF.out]; rfl, HB2.out.trans (hb'.mono HB2.out.size)⟩
    · have hltz : ¬ (k : Int) < (n : Int) := by omega
      have hfin : firstErr err 0 n = (0, 0) := by rw [A1.out, show n - k = 0 by omega]; rfl
      have HF := hide hfin
      clear hfin
      go_wp2
      go_ret2
      exact ⟨by rw [HF.out]; rfl, BW.out⟩
end Go.Proofs.Ytkhijdbigpaagaa

/-
  Chances to pass: of some tasks, by how likely each is done.
-/
namespace Go.Proofs.Ytkhijdbigpaagaa
/-- A number, kept from 0 to 1000. -/
def lim (n : Int) : Int := max 0 (min 1000 n)
theorem lim_le (n : Int) : 0 ≤ lim n ∧ lim n ≤ 1000 := by unfold lim; omega
theorem lim_mono {a b : Int} (h : a ≤ b) : lim a ≤ lim b := by unfold lim; omega
/-- The chance that just k of the tasks are not done. -/
def pk : List Int → Nat → Int
  | [], 0 => 1
  | [], _ + 1 => 0
  | p :: ps, 0 => p * pk ps 0
  | p :: ps, k + 1 => p * pk ps (k + 1) + (1000 - p) * pk ps k
/-- The chance that at most a of the tasks are not done. -/
def fk : List Int → Nat → Int
  | [], _ => 1
  | p :: ps, 0 => p * fk ps 0
  | p :: ps, a + 1 => p * fk ps (a + 1) + (1000 - p) * fk ps a
theorem fk_sum : ∀ (ps : List Int) (a : Nat), fk ps (a + 1) = fk ps a + pk ps (a + 1) ∧ fk ps 0 = pk ps 0
  | [], a => by simp [fk, pk]
  | p :: ps, 0 => by
    have h1 := fk_sum ps 0
    simp only [fk, pk]
    refine ⟨?_, by rw [h1.2]⟩
    rw [h1.1, h1.2]; grind
  | p :: ps, a + 1 => by
    have h1 := fk_sum ps (a + 1)
    have h2 := fk_sum ps a
    simp only [fk, pk]
    refine ⟨?_, by rw [h1.2]⟩
    rw [h1.1, h2.1]; grind
theorem fk_swap (p q : Int) (ps : List Int) : ∀ a, fk (p :: q :: ps) a = fk (q :: p :: ps) a
  | 0 => by simp only [fk]; grind
  | 1 => by simp only [fk]; grind
  | a + 2 => by simp only [fk]; grind
theorem fk_cons {ps qs : List Int} (p : Int) (h : ∀ a, fk ps a = fk qs a) : ∀ a, fk (p :: ps) a = fk (p :: qs) a
  | 0 => by simp only [fk]; rw [h]
  | a + 1 => by simp only [fk]; rw [h, h]
theorem fk_perm {ps qs : List Int} (h : ps.Perm qs) : ∀ a, fk ps a = fk qs a := by
  induction h with
  | nil => intro a; rfl
  | cons x _ ih => exact fk_cons x ih
  | swap x y l => exact fk_swap y x l
  | trans _ _ i1 i2 => intro a; rw [i1, i2]
theorem pk_of_fk {ps qs : List Int} (h : ∀ a, fk ps a = fk qs a) : ∀ k, pk ps k = pk qs k
  | 0 => by rw [← (fk_sum ps 0).2, ← (fk_sum qs 0).2, h]
  | k + 1 => by have h1 := (fk_sum ps k).1; have h2 := (fk_sum qs k).1; rw [h, h] at h1; omega
theorem pk_perm {ps qs : List Int} (h : ps.Perm qs) (k : Nat) : pk ps k = pk qs k := pk_of_fk (fk_perm h) k
/-- One task more at the end: as the program counts. -/
theorem pk_snoc0 (ps : List Int) (p : Int) : pk (ps ++ [p]) 0 = pk ps 0 * p := by
  rw [pk_perm (List.perm_append_comm : (ps ++ [p]).Perm ([p] ++ ps))]
  show p * pk ps 0 = _
  exact Int.mul_comm _ _
theorem pk_snoc (ps : List Int) (p : Int) (k : Nat) : pk (ps ++ [p]) (k + 1) = pk ps (k + 1) * p + pk ps k * (1000 - p) := by
  rw [pk_perm (List.perm_append_comm : (ps ++ [p]).Perm ([p] ++ ps))]
  show p * pk ps (k + 1) + (1000 - p) * pk ps k = _
  rw [Int.mul_comm p, Int.mul_comm (1000 - p)]
theorem pk_long : ∀ (ps : List Int) (k : Nat), ps.length < k → pk ps k = 0
  | [], k + 1, _ => rfl
  | p :: ps, k + 1, h => by
    simp only [List.length_cons] at h
    show p * pk ps (k + 1) + (1000 - p) * pk ps k = 0
    rw [pk_long ps (k + 1) (by omega), pk_long ps k (by omega)]; simp
def InL (ps : List Int) : Prop := ∀ p ∈ ps, 0 ≤ p ∧ p ≤ 1000
theorem InL.tail {p : Int} {ps : List Int} (h : InL (p :: ps)) : InL ps := fun x hx => h x (List.mem_cons_of_mem _ hx)
theorem pow_succ' (n : Nat) : (1000 : Int) ^ (n + 1) = 1000 * 1000 ^ n := by rw [Int.pow_succ, Int.mul_comm]
theorem pk_nn : ∀ (ps : List Int) (k : Nat), InL ps → 0 ≤ pk ps k
  | [], 0, _ => by decide
  | [], k + 1, _ => by show (0 : Int) ≤ 0; omega
  | p :: ps, 0, h => by
    have := h p (List.mem_cons_self ..)
    exact Int.mul_nonneg this.1 (pk_nn ps 0 h.tail)
  | p :: ps, k + 1, h => by
    have := h p (List.mem_cons_self ..)
    exact Int.add_nonneg (Int.mul_nonneg this.1 (pk_nn ps _ h.tail)) (Int.mul_nonneg (by omega) (pk_nn ps _ h.tail))
theorem fk_step {ps : List Int} (h : InL ps) (a : Nat) : fk ps a ≤ fk ps (a + 1) := by
  have h1 := (fk_sum ps a).1
  have h2 := pk_nn ps (a + 1) h
  omega
theorem fk_mono {ps : List Int} (h : InL ps) {a b : Nat} (hab : a ≤ b) : fk ps a ≤ fk ps b := by
  induction hab with
  | refl => exact Int.le_refl _
  | step _ ih => exact Int.le_trans ih (fk_step h _)
theorem fk_all : ∀ ps : List Int, fk ps ps.length = 1000 ^ ps.length
  | [] => rfl
  | p :: ps => by
    have h0 := fk_all ps
    have h1 := (fk_sum ps ps.length).1
    rw [pk_long ps (ps.length + 1) (by omega)] at h1
    show p * fk ps (ps.length + 1) + (1000 - p) * fk ps ps.length = 1000 ^ (ps.length + 1)
    rw [h1, h0, pow_succ']; grind
theorem fk_nn {ps : List Int} (h : InL ps) (a : Nat) : 0 ≤ fk ps a := by
  have h1 := (fk_sum ps 0).2
  have h2 := pk_nn ps 0 h
  have h3 := fk_mono h (Nat.zero_le a)
  omega
theorem fk_le {ps : List Int} (h : InL ps) (a : Nat) : fk ps a ≤ 1000 ^ ps.length := by
  by_cases ha : a ≤ ps.length
  · rw [← fk_all]; exact fk_mono h ha
  · have : ∀ d, fk ps (ps.length + d) = 1000 ^ ps.length := by
      intro d
      induction d with
      | zero => exact fk_all ps
      | succ d ih =>
        have h1 := (fk_sum ps (ps.length + d)).1
        rw [pk_long ps (ps.length + d + 1) (by omega), ih] at h1
        rw [← Nat.add_assoc, h1]; omega
    have h2 := this (a - ps.length)
    rw [show ps.length + (a - ps.length) = a by omega] at h2
    omega
/-- More likely tasks: a test is passed more likely. -/
theorem fk_up : ∀ (ps qs : List Int) (a : Nat), InL ps → InL qs → ps.length = qs.length → (∀ i (h : i < ps.length) (h' : i < qs.length), ps[i] ≤ qs[i]) → fk ps a ≤ fk qs a
  | [], [], _, _, _, _, _ => Int.le_refl _
  | [], _ :: _, _, _, _, h, _ => by simp at h
  | _ :: _, [], _, _, _, h, _ => by simp at h
  | p :: ps, q :: qs, a, h1, h2, hl, hp => by
    have hl' : ps.length = qs.length := by simpa using hl
    have ih := fun a => fk_up ps qs a h1.tail h2.tail hl' (fun i h h' => by
      have := hp (i + 1) (by simp; omega) (by simp; omega)
      simpa using this)
    have hpq : p ≤ q := hp 0 (by simp) (by simp)
    have b1 := h1 p (List.mem_cons_self ..)
    have b2 := h2 q (List.mem_cons_self ..)
    match a with
    | 0 =>
      show p * fk ps 0 ≤ q * fk qs 0
      exact Int.le_trans (Int.mul_le_mul_of_nonneg_left (ih 0) b1.1) (Int.mul_le_mul_of_nonneg_right hpq (fk_nn h2.tail 0))
    | a + 1 =>
      show p * fk ps (a + 1) + (1000 - p) * fk ps a ≤ q * fk qs (a + 1) + (1000 - q) * fk qs a
      have e1 := Int.mul_le_mul_of_nonneg_left (ih (a + 1)) b1.1
      have e2 := Int.mul_le_mul_of_nonneg_left (ih a) (show (0 : Int) ≤ 1000 - p by omega)
      have e3 := Int.mul_nonneg (show 0 ≤ q - p by omega) (show 0 ≤ fk qs (a + 1) - fk qs a by have := fk_step h2.tail a; omega)
      have e4 : (q - p) * (fk qs (a + 1) - fk qs a) = q * fk qs (a + 1) + (1000 - q) * fk qs a - (p * fk qs (a + 1) + (1000 - p) * fk qs a) := by grind
      omega
end Go.Proofs.Ytkhijdbigpaagaa

/-
  Ranges of levels: what lowers, raises and narrows them.
-/
namespace Go.Proofs.Ytkhijdbigpaagaa
abbrev Sp := Int × Int
def inS (r : Sp) (n : Int) : Prop := r.1 ≤ n ∧ n ≤ r.2
/-- Ranges as they come: within levels, none empty. -/
def okS (r : Sp) : Prop := 0 ≤ r.1 ∧ r.1 ≤ r.2 ∧ r.2 ≤ 1000
def lowerS (f r : Sp) : Sp := (lim (r.1 - f.2), lim (r.2 - f.1))
def raiseS (g r : Sp) : Sp := (lim (r.1 + g.1), lim (r.2 + g.2))
def narrowS (b r : Sp) : Sp := (max r.1 b.1, min r.2 b.2)
def behindS (b : Sp) (m : Int) : Sp := (max (if m = 0 then 0 else m - b.2) 0, min (if m = 1000 then 1000 else m - b.1) 1000)
theorem behind_iff {b : Sp} {m l : Int} (hm : 0 ≤ m ∧ m ≤ 1000) : inS (behindS b m) l ↔ (0 ≤ l ∧ l ≤ 1000) ∧ lim (l + b.1) ≤ m ∧ m ≤ lim (l + b.2) := by
  unfold inS behindS lim
  simp only
  constructor
  · rintro ⟨h1, h2⟩
    split at h1 <;> split at h2 <;> omega
  · rintro ⟨h0, h1, h2⟩
    constructor
    · split <;> omega
    · split <;> omega
theorem lower_ok {f r : Sp} (hf : f.1 ≤ f.2) (hr : okS r) : okS (lowerS f r) := by
  unfold okS lowerS lim at *; simp only; omega
theorem raise_ok {g r : Sp} (hg : g.1 ≤ g.2) (hr : okS r) : okS (raiseS g r) := by
  unfold okS raiseS lim at *; simp only; omega
theorem narrow_ok {b r : Sp} (hr : okS r) (h : ¬ (narrowS b r).1 > (narrowS b r).2) : okS (narrowS b r) := by
  unfold okS narrowS at *; simp only at *; omega
/-- What a number of a range makes of the numbers of another one: all between. -/
theorem lower_iff {f r : Sp} (hf : f.1 ≤ f.2) (hr : r.1 ≤ r.2) (n : Int) : inS (lowerS f r) n ↔ ∃ l d, inS r l ∧ inS f d ∧ n = lim (l - d) := by
  unfold inS lowerS
  simp only
  constructor
  · rintro ⟨h1, h2⟩
    -- the number x of [r.1 - f.2, r.2 - f.1] next to n
    have hx : ∃ x, r.1 - f.2 ≤ x ∧ x ≤ r.2 - f.1 ∧ n = lim x := by
      by_cases ha : n < r.1 - f.2
      · exact ⟨r.1 - f.2, by omega, by omega, by unfold lim at *; omega⟩
      · by_cases hb : r.2 - f.1 < n
        · exact ⟨r.2 - f.1, by omega, by omega, by unfold lim at *; omega⟩
        · exact ⟨n, by omega, by omega, by unfold lim at *; omega⟩
    obtain ⟨x, x1, x2, rfl⟩ := hx
    by_cases hc : x + f.1 ≤ r.2 ∧ r.1 ≤ x + f.1
    · exact ⟨x + f.1, f.1, ⟨hc.2, hc.1⟩, ⟨Int.le_refl _, hf⟩, by rw [Int.add_sub_cancel]⟩
    · exact ⟨r.1, r.1 - x, ⟨Int.le_refl _, hr⟩, ⟨by omega, by omega⟩, by congr 1; omega⟩
  · rintro ⟨l, d, ⟨l1, l2⟩, ⟨d1, d2⟩, rfl⟩
    exact ⟨lim_mono (by omega), lim_mono (by omega)⟩
theorem raise_iff {g r : Sp} (hg : g.1 ≤ g.2) (hr : r.1 ≤ r.2) (n : Int) : inS (raiseS g r) n ↔ ∃ l d, inS r l ∧ inS g d ∧ n = lim (l + d) := by
  have h := lower_iff (f := (-g.2, -g.1)) (r := r) (by simp only; omega) hr n
  have e : lowerS (-g.2, -g.1) r = raiseS g r := by
    unfold lowerS raiseS
    simp only [Int.sub_neg]
  rw [e] at h
  rw [h]
  constructor
  · rintro ⟨l, d, hl, ⟨d1, d2⟩, rfl⟩
    exact ⟨l, -d, hl, ⟨by simp only at d2; omega, by simp only at d1; omega⟩, by congr 1⟩
  · rintro ⟨l, d, hl, ⟨d1, d2⟩, rfl⟩
    exact ⟨l, -d, hl, ⟨by simp only; omega, by simp only; omega⟩, by congr 1; omega⟩
theorem narrow_iff {b r : Sp} (n : Int) : inS (narrowS b r) n ↔ inS r n ∧ inS b n := by
  unfold inS narrowS; simp only; omega
/-- What happens to a level: weeks, lessons, marks. -/
inductive Op where
  | low (f : Sp)
  | rise (g : Sp)
  | cut (b : Sp)
def okO : Op → Prop
  | .low f => f.1 ≤ f.2
  | .rise g => g.1 ≤ g.2
  | .cut _ => True
def opS : Op → Sp → Option Sp
  | .low f, r => some (lowerS f r)
  | .rise g, r => some (raiseS g r)
  | .cut b, r => if (narrowS b r).1 > (narrowS b r).2 then none else some (narrowS b r)
/-- A truth of a step. -/
def opT : Op → Int → Int → Prop
  | .low f, l, n => ∃ d, inS f d ∧ n = lim (l - d)
  | .rise g, l, n => ∃ d, inS g d ∧ n = lim (l + d)
  | .cut b, l, n => inS b l ∧ n = l
def opsS : List Op → Sp → Option Sp
  | [], r => some r
  | o :: os, r => (opS o r).bind (opsS os)
def opsT : List Op → Int → Int → Prop
  | [], l, n => n = l
  | o :: os, l, n => ∃ m, opT o l m ∧ opsT os m n
theorem opS_cut (b r : Sp) : opS (.cut b) r = if (narrowS b r).1 > (narrowS b r).2 then none else some (narrowS b r) := rfl
theorem op_ok {o : Op} {r q : Sp} (ho : okO o) (hr : okS r) (h : opS o r = some q) : okS q := by
  cases o with
  | low f => cases h; exact lower_ok ho hr
  | rise g => cases h; exact raise_ok ho hr
  | cut b =>
    rw [opS_cut] at h
    split at h
    · cases h
    · rename_i hn; cases h; exact narrow_ok hr hn
theorem op_iff {o : Op} {r : Sp} (ho : okO o) (hr : okS r) (n : Int) : (∃ q, opS o r = some q ∧ inS q n) ↔ ∃ l, inS r l ∧ opT o l n := by
  cases o with
  | low f =>
    have := lower_iff ho hr.2.1 n
    constructor
    · rintro ⟨q, hq, hn⟩
      cases hq
      obtain ⟨l, d, hl, hd, e⟩ := this.1 hn
      exact ⟨l, hl, d, hd, e⟩
    · rintro ⟨l, hl, d, hd, e⟩
      exact ⟨_, rfl, this.2 ⟨l, d, hl, hd, e⟩⟩
  | rise g =>
    have := raise_iff ho hr.2.1 n
    constructor
    · rintro ⟨q, hq, hn⟩
      cases hq
      obtain ⟨l, d, hl, hd, e⟩ := this.1 hn
      exact ⟨l, hl, d, hd, e⟩
    · rintro ⟨l, hl, d, hd, e⟩
      exact ⟨_, rfl, this.2 ⟨l, d, hl, hd, e⟩⟩
  | cut b =>
    constructor
    · rintro ⟨q, hq, hn⟩
      rw [opS_cut] at hq
      split at hq
      · cases hq
      · cases hq
        have := (narrow_iff n).1 hn
        exact ⟨n, this.1, this.2, rfl⟩
    · rintro ⟨l, hl, hb, rfl⟩
      have h := (narrow_iff n).2 ⟨hl, hb⟩
      refine ⟨narrowS b r, ?_, h⟩
      rw [opS_cut, if_neg (by unfold inS at h; omega)]
theorem ops_ok : ∀ {os : List Op} {r q : Sp}, (∀ o ∈ os, okO o) → okS r → opsS os r = some q → okS q
  | [], r, q, _, hr, h => by cases h; exact hr
  | o :: os, r, q, ho, hr, h => by
    unfold opsS at h
    cases e : opS o r with
    | none => rw [e] at h; cases h
    | some m =>
      rw [e] at h
      exact ops_ok (fun x hx => ho x (List.mem_cons_of_mem _ hx)) (op_ok (ho o (List.mem_cons_self ..)) hr e) h
/-- The range is just the levels of all truths. -/
theorem ops_iff : ∀ {os : List Op} {r : Sp}, (∀ o ∈ os, okO o) → okS r → ∀ n, (∃ q, opsS os r = some q ∧ inS q n) ↔ ∃ l, inS r l ∧ opsT os l n
  | [], r, _, _, n => by
    constructor
    · rintro ⟨q, hq, hn⟩; cases hq; exact ⟨n, hn, rfl⟩
    · rintro ⟨l, hl, h⟩; cases h; exact ⟨r, rfl, hl⟩
  | o :: os, r, ho, hr, n => by
    have h1 := fun x => op_iff (ho o (List.mem_cons_self ..)) hr x
    have ho' := fun x hx => ho x (List.mem_cons_of_mem o hx)
    constructor
    · rintro ⟨q, hq, hn⟩
      unfold opsS at hq
      cases e : opS o r with
      | none => rw [e] at hq; cases hq
      | some m =>
        rw [e] at hq
        obtain ⟨l, hl, ht⟩ := (ops_iff ho' (op_ok (ho o (List.mem_cons_self ..)) hr e) n).1 ⟨q, hq, hn⟩
        obtain ⟨k, hk, hk2⟩ := (h1 l).1 ⟨m, e, hl⟩
        exact ⟨k, hk, l, hk2, ht⟩
    · rintro ⟨l, hl, m, hm, ht⟩
      obtain ⟨q, hq, hqm⟩ := (h1 m).2 ⟨l, hl, hm⟩
      obtain ⟨p, hp, hpn⟩ := (ops_iff ho' (op_ok (ho o (List.mem_cons_self ..)) hr hq) n).2 ⟨m, hqm, ht⟩
      refine ⟨p, ?_, hpn⟩
      unfold opsS
      rw [hq]; exact hp
theorem ops_app : ∀ (os ps : List Op) (r : Sp), opsS (os ++ ps) r = (opsS os r).bind (opsS ps)
  | [], ps, r => rfl
  | o :: os, ps, r => by
    show (opS o r).bind (opsS (os ++ ps)) = ((opS o r).bind (opsS os)).bind (opsS ps)
    cases opS o r with
    | none => rfl
    | some m => exact ops_app os ps m
end Go.Proofs.Ytkhijdbigpaagaa

/-
  limit, limited, both, isEmpty, behind of package skill.
-/
namespace Go.Proofs.Ytkhijdbigpaagaa
open Go.RowKit RG

theorem blkNew {w : World} {g : Nat} {t : TypeId} {cs : Array Value} (h : g = w.heap.size) : Blk (w.alloc (.cells cs t)) g t cs := by subst h; exact Blk.new _ _ _
theorem limit_any (n : Int) (w : World) : Calls Try.prog 97 #[.int .i64 0, .int .i64 1000, .int .i64 n] w fun e w' => e = .returned (.int .i64 (lim n)) ∧ w = w' := by
  go_enter Try.func97, Try.ntmps97
  go_wp2
  go_ret
  exact ⟨rfl, rfl⟩
theorem isEmpty_any (a b : Int) (w : World) : Calls Try.prog 64 #[.agg #[.int .i64 a, .int .i64 b]] w fun e w' => e = .returned (.bool (decide (b < a))) ∧ Below w.heap.size w w' := by
  go_enter Try.func64, Try.ntmps64
  go_wp2
  go_ret
  exact ⟨rfl, (Below.refl _ _).alloc (Nat.le_refl _) _⟩
theorem limited_any (a b : Int) (w : World) : Calls Try.prog 60 #[.int .i64 a, .int .i64 b] w fun e w' => e = .returned (.agg #[.int .i64 (lim a), .int .i64 (lim b)]) ∧ Below w.heap.size w w' := by
  have h1 := hide (fun W => limit_any a W)
  have h2 := hide (fun W => limit_any b W)
  go_enter Try.func60, Try.ntmps60
  go_wp2_with fail
  refine (h1.out _).mono ?_
  rintro e w1 ⟨rfl, rfl⟩
  go_wp2_with fail
  refine (h2.out _).mono ?_
  rintro e w1 ⟨rfl, rfl⟩
  go_wp2
  refine bodyPost_ret (v := .agg #[.int .i64 (lim a), .int .i64 (lim b)]) (by simp [results, Try.results60, go_sem]) rfl ⟨rfl, ?_⟩
  exact (Below.refl _ _).alloc (Nat.le_refl _) _
theorem both_any (a b c d : Int) (w : World) : Calls Try.prog 98 #[.agg #[.int .i64 a, .int .i64 b], .agg #[.int .i64 c, .int .i64 d]] w fun e w' => e = .returned (.agg #[.int .i64 (max a c), .int .i64 (min b d)]) ∧ Below w.heap.size w w' := by
  go_enter Try.func98, Try.ntmps98
  go_wp2
  refine bodyPost_ret (v := .agg #[.int .i64 (max a c), .int .i64 (min b d)]) (by simp [results, Try.results98, go_sem]) rfl ⟨rfl, ?_⟩
  exact (((Below.refl _ _).alloc (Nat.le_refl _) _).alloc (by simp) _).alloc (by simp +arith) _
theorem behind_any (lo hi m : Int) (w : World) (hm : 0 ≤ m ∧ m ≤ 1000) (h1 : -300 ≤ lo ∧ lo ≤ 300) (h2 : -300 ≤ hi ∧ hi ≤ 300) :
    Calls Try.prog 63 #[.agg #[.int .i64 lo, .int .i64 hi], .int .i64 m] w fun e w' => e = .returned (.agg #[.int .i64 (behindS (lo, hi) m).1, .int .i64 (behindS (lo, hi) m).2]) ∧ Below w.heap.size w w' := by
  have hb := hide (fun a b W => both_any a b 0 1000 W)
  have hr : behindS (lo, hi) m = (max (if m = 0 then 0 else m - hi) 0, min (if m = 1000 then 1000 else m - lo) 1000) := rfl
  rw [hr]
  clear hr
  have w1 : IntKind.i64.wrap (m - hi) = m - hi := by rw [IntKind.wrap_i64]; omega
  have w2 : IntKind.i64.wrap (m - lo) = m - lo := by rw [IntKind.wrap_i64]; omega
  by_cases e0 : m = 0
  · subst e0
    simp only [if_true, show ¬ ((0 : Int) = 1000) by omega, if_false]
    rw [Int.zero_sub] at w1 w2
    go_enter Try.func63, Try.ntmps63
    have hR := hide (show Blk (((w.alloc (.cells #[.int .i64 lo, .int .i64 hi] 32)).alloc (.cells #[.int .i64 0, .int .i64 0] 32)).alloc (.cells #[.int .i64 (0), .int .i64 (-lo)] 32)) (w.heap.size + 1) 32 #[.int .i64 0, .int .i64 0] from (blkNew (by simp)).alloc _)
    have hB := hide (show Below w.heap.size w (((w.alloc (.cells #[.int .i64 lo, .int .i64 hi] 32)).alloc (.cells #[.int .i64 0, .int .i64 0] 32)).alloc (.cells #[.int .i64 (0), .int .i64 (-lo)] 32)) from (((Below.refl _ _).alloc (Nat.le_refl _) _).alloc (by simp) _).alloc (by simp +arith) _)
    go_wp2_with fail
    generalize ((w.alloc (.cells #[.int .i64 lo, .int .i64 hi] 32)).alloc (.cells #[.int .i64 0, .int .i64 0] 32)).alloc (.cells #[.int .i64 (0), .int .i64 (-lo)] 32) = wd at *
    refine (hb.out _ _ _).mono ?_
    rintro e w3 ⟨rfl, hW⟩
    have hR3 := hide (hR.out.below hW hR.out.lt)
    have hB3 := hide (hB.out.trans (hW.mono hB.out.size))
    clear hW hR hB hb
    have z0 : w3.cell? ⟨w.heap.size + 1, 0, none⟩ = some (.int .i64 0) := hR3.out.cell 0
    have z1 : w3.cell? ⟨w.heap.size + 1, 1, none⟩ = some (.int .i64 0) := hR3.out.cell 1
    have f0 : w3.frozen? ⟨w.heap.size + 1, 0, none⟩ = false := hR3.out.frozen 0
    have f1 : w3.frozen? ⟨w.heap.size + 1, 1, none⟩ = false := hR3.out.frozen 1
    have hRn := (hR3.out.set_ 0 (.int .i64 0)).set_ 1 (.int .i64 (min (-lo) 1000))
    have e0' := (hRn.cell 0).trans (show _ = some (Value.int .i64 0) by simp)
    have e1' := (hRn.cell 1).trans (show _ = some (Value.int .i64 (min (-lo) 1000)) by simp)
    clear hRn
    go_wp2
    refine bodyPost_ret (v := .agg #[.int .i64 0, .int .i64 (min (-lo) 1000)]) (by simp [results, Try.results63, go_sem, e0', e1']) rfl ⟨by simp, ?_⟩
    exact (hB3.out.setCell (by simp) _).setCell (by simp) _
  · have b0 : (m == 0) = false := by rw [beq_eq_false_iff_ne]; exact e0
    by_cases e1 : m = 1000
    · subst e1
      simp only [if_true, show ¬ ((1000 : Int) = 0) by omega, if_false]
      go_enter Try.func63, Try.ntmps63
      have hR := hide (show Blk (((w.alloc (.cells #[.int .i64 lo, .int .i64 hi] 32)).alloc (.cells #[.int .i64 0, .int .i64 0] 32)).alloc (.cells #[.int .i64 (1000 - hi), .int .i64 (1000)] 32)) (w.heap.size + 1) 32 #[.int .i64 0, .int .i64 0] from (blkNew (by simp)).alloc _)
      have hB := hide (show Below w.heap.size w (((w.alloc (.cells #[.int .i64 lo, .int .i64 hi] 32)).alloc (.cells #[.int .i64 0, .int .i64 0] 32)).alloc (.cells #[.int .i64 (1000 - hi), .int .i64 (1000)] 32)) from (((Below.refl _ _).alloc (Nat.le_refl _) _).alloc (by simp) _).alloc (by simp +arith) _)
      go_wp2_with fail
      generalize ((w.alloc (.cells #[.int .i64 lo, .int .i64 hi] 32)).alloc (.cells #[.int .i64 0, .int .i64 0] 32)).alloc (.cells #[.int .i64 (1000 - hi), .int .i64 (1000)] 32) = wd at *
      refine (hb.out _ _ _).mono ?_
      rintro e w3 ⟨rfl, hW⟩
      have hR3 := hide (hR.out.below hW hR.out.lt)
      have hB3 := hide (hB.out.trans (hW.mono hB.out.size))
      clear hW hR hB hb
      have z0 : w3.cell? ⟨w.heap.size + 1, 0, none⟩ = some (.int .i64 0) := hR3.out.cell 0
      have z1 : w3.cell? ⟨w.heap.size + 1, 1, none⟩ = some (.int .i64 0) := hR3.out.cell 1
      have f0 : w3.frozen? ⟨w.heap.size + 1, 0, none⟩ = false := hR3.out.frozen 0
      have f1 : w3.frozen? ⟨w.heap.size + 1, 1, none⟩ = false := hR3.out.frozen 1
      have hRn := (hR3.out.set_ 0 (.int .i64 (max (1000 - hi) 0))).set_ 1 (.int .i64 1000)
      have e0' := (hRn.cell 0).trans (show _ = some (Value.int .i64 (max (1000 - hi) 0)) by simp)
      have e1' := (hRn.cell 1).trans (show _ = some (Value.int .i64 1000) by simp)
      clear hRn
      go_wp2
      refine bodyPost_ret (v := .agg #[.int .i64 (max (1000 - hi) 0), .int .i64 1000]) (by simp [results, Try.results63, go_sem, e0', e1']) rfl ⟨by simp, ?_⟩
      exact (hB3.out.setCell (by simp) _).setCell (by simp) _
    · have b1 : (m == 1000) = false := by rw [beq_eq_false_iff_ne]; exact e1
      simp only [if_neg e0, if_neg e1]
      replace e0 := hide e0
      replace e1 := hide e1
      go_enter Try.func63, Try.ntmps63
      have hR := hide (show Blk (((w.alloc (.cells #[.int .i64 lo, .int .i64 hi] 32)).alloc (.cells #[.int .i64 0, .int .i64 0] 32)).alloc (.cells #[.int .i64 (m - hi), .int .i64 (m - lo)] 32)) (w.heap.size + 1) 32 #[.int .i64 0, .int .i64 0] from (blkNew (by simp)).alloc _)
      have hB := hide (show Below w.heap.size w (((w.alloc (.cells #[.int .i64 lo, .int .i64 hi] 32)).alloc (.cells #[.int .i64 0, .int .i64 0] 32)).alloc (.cells #[.int .i64 (m - hi), .int .i64 (m - lo)] 32)) from (((Below.refl _ _).alloc (Nat.le_refl _) _).alloc (by simp) _).alloc (by simp +arith) _)
      go_wp2_with fail
      generalize ((w.alloc (.cells #[.int .i64 lo, .int .i64 hi] 32)).alloc (.cells #[.int .i64 0, .int .i64 0] 32)).alloc (.cells #[.int .i64 (m - hi), .int .i64 (m - lo)] 32) = wd at *
      refine (hb.out _ _ _).mono ?_
      rintro e w3 ⟨rfl, hW⟩
      have hR3 := hide (hR.out.below hW hR.out.lt)
      have hB3 := hide (hB.out.trans (hW.mono hB.out.size))
      clear hW hR hB hb
      have z0 : w3.cell? ⟨w.heap.size + 1, 0, none⟩ = some (.int .i64 0) := hR3.out.cell 0
      have z1 : w3.cell? ⟨w.heap.size + 1, 1, none⟩ = some (.int .i64 0) := hR3.out.cell 1
      have f0 : w3.frozen? ⟨w.heap.size + 1, 0, none⟩ = false := hR3.out.frozen 0
      have f1 : w3.frozen? ⟨w.heap.size + 1, 1, none⟩ = false := hR3.out.frozen 1
      have hRn := (hR3.out.set_ 0 (.int .i64 (max (m - hi) 0))).set_ 1 (.int .i64 (min (m - lo) 1000))
      have e0' := (hRn.cell 0).trans (show _ = some (Value.int .i64 (max (m - hi) 0)) by simp)
      have e1' := (hRn.cell 1).trans (show _ = some (Value.int .i64 (min (m - lo) 1000)) by simp)
      clear hRn
      go_wp2
      refine bodyPost_ret (v := .agg #[.int .i64 (max (m - hi) 0), .int .i64 (min (m - lo) 1000)]) (by simp [results, Try.results63, go_sem, e0', e1']) rfl ⟨rfl, ?_⟩
      exact (hB3.out.setCell (by simp) _).setCell (by simp) _
end Go.Proofs.Ytkhijdbigpaagaa

/-
  parts and chanceAt of package skill.
-/
namespace Go.Proofs.Ytkhijdbigpaagaa
open Go.RowKit RG

theorem chance_pow {ch : Int} (h : 0 ≤ ch ∧ ch ≤ 1000) {k : Nat} (hk : k ≤ 5) : 0 ≤ ch * 1000 ^ k ∧ ch * 1000 ^ k ≤ 1000000000000000000 := by
  have : k = 0 ∨ k = 1 ∨ k = 2 ∨ k = 3 ∨ k = 4 ∨ k = 5 := by omega
  rcases this with rfl | rfl | rfl | rfl | rfl | rfl <;> simp only [Int.reducePow] <;> omega
theorem parts_any (A : Option Addr) (n c : Nat) (al ch : Int) (w : World) (hn : 1 ≤ n ∧ n ≤ 6) (hch : 0 ≤ ch ∧ ch ≤ 1000) :
    Calls Try.prog 80 #[.agg #[.slice A n c, .int .i64 al], .int .i64 ch] w fun e w' => e = .returned (.int .i64 (ch * 1000 ^ (n - 1))) ∧ Below w.heap.size w w' := by
  have hB := hide ((Below.refl w.heap.size w).alloc (Nat.le_refl _) (.cells #[.slice A n c, .int .i64 al] 48))
  have hs := hide (fun k => show ch * 1000 ^ (k + 1) = ch * 1000 ^ k * 1000 by rw [Int.pow_succ, Int.mul_assoc])
  have hp := hide (fun k (hk : k ≤ 5) => chance_pow hch hk)
  have h0 := hide (show ch * 1000 ^ 0 = ch by simp)
  have hn1 : (n : Int) - 1 = ((n - 1 : Nat) : Int) := by omega
  have hn2 : IntKind.i64.wrap ((n - 1 : Nat) : Int) = ((n - 1 : Nat) : Int) := by rw [IntKind.wrap_i64]; omega
  generalize hN : n - 1 = N at *
  have hN5 : N ≤ 5 := by omega
  replace hN := hide hN
  go_enter Try.func80, Try.ntmps80
  go_wp2
  generalize w.alloc (.cells #[.slice A n c, .int .i64 al] 48) = w0 at *
  go_loopg [1, 9] N (fun g cv iv wr => ∃ (k : Nat) (x : Int), k ≤ N ∧ N - k ≤ g ∧ iv = .int .i64 k ∧ cv = .int .i64 x ∧ wr = w0 ∧ Hid (ch * 1000 ^ k = x))
  case atStart => exact ⟨0, ch, Nat.zero_le _, by omega, rfl, rfl, rfl, h0⟩
  case round =>
    obtain ⟨k, x, hk, hg, rfl, rfl, rfl, hx⟩ := hrel
    by_cases hlt : k < N
    · have hltz : (k : Int) < (N : Int) := by omega
      have hb := hp.out (k + 1) (by omega)
      have hsk := hs.out k
      rw [hx.out] at hsk
      rw [hsk] at hb
      have hw : IntKind.i64.wrap (x * 1000) = x * 1000 := by rw [IntKind.wrap_i64]; omega
      replace hsk := hide hsk
      replace hb := hide hb
      go_wp2
      go_roundg (N - (k + 1))
      case measure => omega
      case rel => exact ⟨k + 1, x * 1000, by omega, by omega, by go_num, rfl, rfl, hsk⟩
    · obtain rfl : N = k := by omega
      have hltz : ¬ (N : Int) < (N : Int) := by omega
      go_wp2
      go_ret
      exact ⟨ret_int hx.out.symm, hB.out⟩
end Go.Proofs.Ytkhijdbigpaagaa

/-
  The rule for a region of which the last operations wait for all the others: those by the rule of XRegion, these one behind the other.
-/
namespace Go.Proofs.Ytkhijdbigpaagaa.RG
open Go

theorem cnt_one (p p' : Nat → Bool) (i : Nat) (h : ∀ j, j ≠ i → p j = p' j) (n : Nat) : cnt p n ≤ cnt p' n + 1 := by
  have hone : ∀ m, cnt p m ≤ cnt p' m + (if i < m then 1 else 0) := by
    intro m
    induction m with
    | zero => simp [cnt]
    | succ m ihm =>
      simp only [cnt]
      by_cases e : m = i
      · subst e
        have h1 : (if p m = true then 1 else 0) ≤ 1 := by split <;> omega
        rw [if_neg (Nat.lt_irrefl m)] at ihm
        rw [if_pos (show m < m + 1 by omega)]
        omega
      · have h1 : (if p m = true then 1 else 0) = (if p' m = true then 1 else 0) := by rw [h m e]
        have h2 : (if i < m then 1 else 0) ≤ (if i < m + 1 then 1 else 0) := by split <;> split <;> omega
        omega
  have := hone n
  split at this <;> omega
/-- The obligation of one operation of the head. -/
def OneT (P : Program) (ops : Array Oper) (hd : List Oper) (C : World → Prop) (Rel : World → World → Prop) (V : Nat → Value → World → Prop) (a0 : Act) (i : Nat) (o : Oper) : Prop :=
  ∀ (y : Nat → Value) (w : World) (K : Act → World → Prop) (Q : Exit → Act → World → Prop) (Cv : Value → World → Prop), C w → deps V y w o.after.toList →
    (∀ v w', C w' → Rel w w' → V i v w' → Cv v w') → (∀ v w', Cv v w' → K ((putAll hd 0 y a0).put o.dst v) w') →
    if Region.wanted o (yielded ops (putAll hd 0 y a0).tmps) then o.wp P (putAll hd 0 y a0) w K Q else K ((putAll hd 0 y a0).put o.dst undef) w
def AllT (P : Program) (ops : Array Oper) (hd : List Oper) (C : World → Prop) (Rel : World → World → Prop) (V : Nat → Value → World → Prop) (a0 : Act) : List Oper → Nat → Prop
  | [], _ => True
  | o :: r, i => OneT P ops hd C Rel V a0 i o ∧ AllT P ops hd C Rel V a0 r (i + 1)
theorem AllT.get {P : Program} {ops : Array Oper} {hd : List Oper} {C : World → Prop} {Rel : World → World → Prop} {V : Nat → Value → World → Prop} {a0 : Act} :
    ∀ {l : List Oper} {i j : Nat} {o : Oper}, AllT P ops hd C Rel V a0 l i → l[j]? = some o → OneT P ops hd C Rel V a0 (i + j) o
  | [], _, _, _, _, hj => by simp at hj
  | o' :: r, i, 0, o, h, hj => by
    simp only [List.getElem?_cons_zero, Option.some.injEq] at hj
    subst hj; exact h.1
  | o' :: r, i, j + 1, o, h, hj => by
    simp only [List.getElem?_cons_succ] at hj
    have := AllT.get h.2 hj
    rwa [show i + (j + 1) = i + 1 + j by omega]

/-- The first n are listed, the others are not. -/
def heads (n m : Nat) : Array Bool := ((List.range m).map fun j => decide (j < n)).toArray
def tailB (l : List Oper) (n : Nat) : Bool :=
  decide (n < l.length) && Region.sinkB .any l.toArray n && Region.chainB .any l.toArray n && Region.seqB .any l.toArray (l.length - n) n (heads n l.length) && okB (l.take n) 0

theorem wpAny_rgT {P : Program} {l : List Oper} {n : Nat} {C : World → Prop} {Rel : World → World → Prop} {V : Nat → Value → World → Prop} {a0 : Act} {Q : Exit → Act → World → Prop}
    (hB : tailB l n = true) (hst : ∀ k v w w', C w → C w' → Rel w w' → V k v w → V k v w')
    (hall : AllT P l.toArray (l.take n) C Rel V a0 (l.take n) 0)
    (hend : ∀ y w, C w → Ends V y w 0 n → wpList P l.toArray Q (l.drop n) (putAll (l.take n) 0 y a0) w) :
    ∀ (fuel : Nat) (listed : Array Bool) (y : Nat → Value) (w : World), HeadInv .any l.toArray n listed → cnt (fun j => !listed.getD j true) n = fuel → C w →
      (∀ k, k < n → listed.getD k false = true → V k (y k) w) → wpAny P .any l.toArray Q (fuel + (l.length - n)) listed (putAll (l.take n) 0 y a0) w := by
  simp only [tailB, Bool.and_eq_true, decide_eq_true_eq] at hB
  obtain ⟨⟨⟨⟨hn, hs⟩, hc⟩, hseq⟩, hok⟩ := hB
  have hn' : n < l.toArray.size := by simpa using hn
  intro fuel
  induction fuel with
  | zero =>
    intro listed y w inv h0 hC hV
    have hl : ∀ j, j < n → listed.getD j true = true := fun j hj => by
      have := cnt_zero _ _ h0 j hj
      simpa using this
    have hsz : listed.size = l.length := by simpa using inv.size
    have hl' : ∀ j, j < n → listed.getD j false = true := fun j hj => by
      have := hl j hj
      simpa [Array.getD, hsz, show j < l.length by omega] using this
    have heq : listed = heads n l.length := by
      apply Array.ext
      · simp [heads, hsz]
      · intro j h1 h2
        by_cases hj : j < n
        · have := hl j hj
          simp only [Array.getD, h1, dite_true] at this
          simp [heads, hj]
          exact this
        · have := inv.tail j (by omega) (by simp; omega)
          simp only [Array.getD, h1, dite_true] at this
          simp [heads, hj]
          exact this
    have := wpAny_of_seq (P := P) (md := .any) (Q' := Q) (ops := l.toArray) (l.drop n) n listed (putAll (l.take n) 0 y a0) w (fun j => by simp [List.getElem?_drop]) (by rw [heq]; simpa using hseq)
      (hend y w hC (Ends.of 0 _ fun k _ hk => hV k (by omega) (hl' k (by omega))))
    rw [List.length_drop] at this
    rw [Nat.zero_add]
    exact this
  | succ fuel ih =>
    intro listed y w inv hcnt hC hV
    have hex : ∃ i, i < n ∧ listed.getD i true = false := by
      rcases Nat.eq_zero_or_pos (cnt (fun j => !listed.getD j true) n) with h | h
      · omega
      · by_cases hx : ∃ i, i < n ∧ listed.getD i true = false
        · exact hx
        · exfalso
          have : ∀ m, m ≤ n → cnt (fun j => !listed.getD j true) m = 0 := by
            intro m
            induction m with
            | zero => intro _; rfl
            | succ m ihm =>
              intro hm
              simp only [cnt]
              rw [ihm (by omega)]
              have : listed.getD m true = true := by
                cases h' : listed.getD m true with
                | true => rfl
                | false => exact absurd ⟨m, by omega, h'⟩ hx
              simp [this]
          have := this n (Nat.le_refl _)
          omega
    obtain ⟨i0, hi0, hl0⟩ := hex
    have hhead : ∀ t ∈ Region.ready .any l.toArray listed, t < n := fun t ht => by
      rcases Nat.lt_or_ge t n with h | h
      · exact h
      · exact absurd ht (tail_waits hs hc hn' inv _ i0 rfl hi0 hl0 t h)
    rw [show fuel + 1 + (l.length - n) = (fuel + (l.length - n)) + 1 by omega]
    refine ⟨fun hr => ?_, fun i hi => ?_⟩
    · exfalso
      -- the first unlisted operation of the head is ready
      have hfirst : ∃ j, j < n ∧ listed.getD j true = false ∧ ∀ k, k < j → listed.getD k true = true := by
        have : ∀ m, (∀ k, k < m → listed.getD k true = true) ∨ ∃ j, j < m ∧ listed.getD j true = false ∧ ∀ k, k < j → listed.getD k true = true := by
          intro m
          induction m with
          | zero => exact .inl fun k hk => by omega
          | succ m ihm =>
            rcases ihm with h | ⟨j, h1, h2, h3⟩
            · cases h' : listed.getD m true with
              | true =>
                refine .inl fun k hk => ?_
                by_cases e : k = m
                · subst e; exact h'
                · exact h k (by omega)
              | false => exact .inr ⟨m, by omega, h', h⟩
            · exact .inr ⟨j, by omega, h2, h3⟩
        rcases this n with h | h
        · rw [h i0 hi0] at hl0; cases hl0
        · exact h
      obtain ⟨j, hj, hlj, hbef⟩ := hfirst
      have hjl : j < l.length := by omega
      have hm : j ∈ Region.ready .any l.toArray listed := by
        rw [mem_ready]
        refine ⟨hlj, l[j], by simp [hjl], fun e he hbb => ?_⟩
        have : e.on < j := by
          have hac : ∀ (q : List Oper) (s : Nat) (m : Nat) (o : Oper), okB q s = true → q[m]? = some o → ∀ e ∈ o.after, Region.binds .any e = true → e.on < s + m := by
            intro q
            induction q with
            | nil => intro s m o _ hm; simp at hm
            | cons o' r ihr =>
              intro s m o h hm e he hbb
              obtain ⟨h1, _, h3⟩ := okB_cons h
              cases m with
              | zero => simp only [List.getElem?_cons_zero, Option.some.injEq] at hm; subst hm; exact h1 e he hbb
              | succ m =>
                simp only [List.getElem?_cons_succ] at hm
                have := ihr (s + 1) m o h3 hm e he hbb
                omega
          have := hac (l.take n) 0 j l[j] hok (by rw [List.getElem?_take_of_lt hj]; simp [hjl]) e he hbb
          omega
        have h2 := hbef e.on this
        have hsz : listed.size = l.length := by simpa using inv.size
        simpa [Array.getD, hsz, show e.on < l.length by omega] using h2
      rw [hr] at hm
      cases hm
    · have hin := hhead i hi
      have hi' := hi
      rw [mem_ready] at hi
      obtain ⟨hl, o, ho, hdep⟩ := hi
      have hol : (l.take n)[i]? = some o := by rw [List.getElem?_take_of_lt hin]; simpa using ho
      have h1 := AllT.get hall hol
      rw [Nat.zero_add] at h1
      have hnext : ∀ v w', C w' → Rel w w' → V i v w' → wpAny P .any l.toArray Q (fuel + (l.length - n)) (listed.setIfInBounds i true) ((putAll (l.take n) 0 y a0).put o.dst v) w' := by
        intro v w' hC' hR hVi
        rw [putAll_upd (l.take n) 0 i y a0 o v hok hol, Nat.zero_add]
        have hsz : listed.size = l.length := by simpa using inv.size
        refine ih _ _ _ (inv.set hi' hin) ?_ hC' (fun k hk hlk => ?_)
        · have hlt := cnt_lt (fun j => !listed.getD j true) (fun j => !(listed.setIfInBounds i true).getD j true) (fun j hj => by
            by_cases e : i = j
            · subst e; simp [Array.getD, Array.setIfInBounds, hsz, show i < l.length by omega] at hj
            · rw [getD_set_ne true e] at hj; exact hj) i (by simp [hl]) (by simp [Array.getD, Array.setIfInBounds, hsz, show i < l.length by omega]) n hin
          have hge := cnt_one (fun j => !listed.getD j true) (fun j => !(listed.setIfInBounds i true).getD j true) i (fun j hj => by
            show (!listed.getD j true) = (!(listed.setIfInBounds i true).getD j true)
            rw [getD_set_ne true (fun h => hj h.symm)])
          have := hge n
          omega
        · by_cases e : k = i
          · subst e; simpa [upd] using hVi
          · have : upd y i v k = y k := by simp [upd, e]
            rw [this]
            rw [getD_set_ne false (fun h => e h.symm)] at hlk
            exact hst k _ w w' hC hC' hR (hV k hk hlk)
      have h2 := h1 y w (wpAny P .any l.toArray Q (fuel + (l.length - n)) (listed.setIfInBounds i true)) Q (fun v w' => C w' ∧ Rel w w' ∧ V i v w') hC (deps_of _ fun e he hb => by
        have he' : e ∈ o.after := by simpa using he
        have h3 := hdep e he' hb
        have hen : e.on < n := by
          rcases Nat.lt_or_ge e.on n with h | h
          · exact h
          · have := inv.tail e.on h
            have hb2 : e.on < l.toArray.size := by
              rcases Nat.lt_or_ge e.on listed.size with h' | h'
              · rw [← inv.size]; exact h'
              · simp [Array.getD, Nat.not_lt.2 h'] at h3
            have := this hb2
            have hsz := inv.size
            simp [Array.getD, show e.on < listed.size by omega] at this h3
            rw [this] at h3; cases h3
        exact hV e.on hen h3) (fun v w' a b c => ⟨a, b, c⟩) (fun v w' h => hnext v w' h.1 h.2.1 h.2.2)
      unfold wpOp
      simp only [ho]
      split
      · rename_i hw; simp only [hw, if_true] at h2; exact .inl h2
      · rename_i hw; simp only [hw] at h2; exact h2
/-- THE RULE with a tail: C, Rel, V as in region_rg, of the first n operations. -/
theorem region_rg_tail {P : Program} {id : Nat} {Q : Exit → Act → World → Prop} {a : Act} {w : World} {l : List Oper} (n : Nat) (C : World → Prop) (Rel : World → World → Prop) (V : Nat → Value → World → Prop)
    (hm : P.follows .mixedOrders = true) (hB : tailB l n = true) (hC : C w.drew) (hst : ∀ k v w w', C w → C w' → Rel w w' → V k v w → V k v w')
    (hall : AllT P l.toArray (l.take n) C Rel V a (l.take n) 0) (hend : ∀ y w, C w → Ends V y w 0 n → wpList P l.toArray Q (l.drop n) (putAll (l.take n) 0 y a) w) :
    (Code.region id l.toArray true).wp P Q a w := by
  have hn : n < l.length := by
    have := hB
    simp only [tailB, Bool.and_eq_true, decide_eq_true_eq] at this
    exact this.1.1.1.1
  refine wp_region_any hm ?_
  have h0 : cnt (fun j => !(Array.replicate l.toArray.size false).getD j true) n = n := by
    have : ∀ m, m ≤ n → cnt (fun j => !(Array.replicate l.toArray.size false).getD j true) m = m := by
      intro m
      induction m with
      | zero => intro _; rfl
      | succ m ih =>
        intro hmn
        simp only [cnt]
        rw [ih (by omega)]
        have : (Array.replicate l.toArray.size false).getD m true = false := getD_in (by simp; omega) (getD_replicate_false _ _)
        have hb : (!(Array.replicate l.toArray.size false).getD m true) = true := by rw [this]; rfl
        rw [if_pos hb]
    exact this n (Nat.le_refl _)
  have := wpAny_rgT (P := P) (l := l) (n := n) (C := C) (Rel := Rel) (V := V) (a0 := a) (Q := Q) hB hst hall hend n
    (Array.replicate l.toArray.size false) (start (l.take n) a) w.drew ⟨by simp, fun j oj _ hl => (by rw [getD_replicate_false] at hl; cases hl), fun t _ ht => getD_in (by simpa using ht) (getD_replicate_false _ _)⟩ h0 hC
    (fun k hk h => by rw [getD_replicate_false] at h; cases h)
  rw [putAll_start (l.take n) 0 (start (l.take n) a) a (fun j o hj e he => by simp [start, hj, he])] at this
  rw [show n + (l.length - n) = l.toArray.size by simp; omega] at this
  exact this

/-- The same where memory only grows in the head. -/
theorem region_grow_tail {P : Program} {id : Nat} {Q : Exit → Act → World → Prop} {a : Act} {w : World} {l : List Oper} (n : Nat) (L : List (Value → World → Prop))
    (hm : P.follows .mixedOrders = true) (hB : tailB l n = true) (hlen : L.length = n) (hL : AllStb L)
    (hall : AllT P l.toArray (l.take n) (Go.RowKit.Below w.heap.size w) (fun u u' => Go.RowKit.Below u.heap.size u u') (VL L) a (l.take n) 0)
    (hend : ∀ y w', Go.RowKit.Below w.heap.size w w' → EndsL L y w' 0 → wpList P l.toArray Q (l.drop n) (putAll (l.take n) 0 y a) w') :
    (Code.region id l.toArray true).wp P Q a w :=
  region_rg_tail n _ _ _ hm hB (Go.RowKit.Below.refl _ _).drew (fun k v u u' _ _ h hv => hL.at_ k v u u' h hv) hall
    (fun y w' hC hE => hend y w' hC (EndsL.of 0 fun k hk => by
      have := hE.get (k := k) (by omega)
      simpa using this))
end Go.Proofs.Ytkhijdbigpaagaa.RG
