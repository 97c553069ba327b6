import Derived.Test.YtkmhldjebopljaaOa
/-
  IndexFunc and ContainsFunc at cars.
-/
namespace Go.Proofs.Ytkmhldjebopljaa
open Go.RowKit RG

theorem RdRow.cells4 {w : World} {A : Option Addr} {n : Nat} {xs : List (List Value)} (h : RdRow w A n 4 xs) {j : Nat} (hj : j < n) :
    ∃ b off x0 x1 x2 x3, A = some ⟨b, off, none⟩ ∧ b < w.heap.size ∧ xs[j]?.getD [] = [x0, x1, x2, x3] ∧
      w.cell? ⟨b, off + j * 4, none⟩ = some x0 ∧ w.cell? ⟨b, off + j * 4 + 1, none⟩ = some x1 ∧ w.cell? ⟨b, off + j * 4 + 2, none⟩ = some x2 ∧ w.cell? ⟨b, off + j * 4 + 3, none⟩ = some x3 := by
  obtain ⟨b, off, e, hlt, hc⟩ := h.2.2 (by omega)
  obtain ⟨x0, x1, x2, x3, hx⟩ : ∃ x0 x1 x2 x3, xs[j]?.getD [] = [x0, x1, x2, x3] := by
    have hl := h.len hj
    match hq : xs[j]?.getD [], hl with
    | [x0, x1, x2, x3], _ => exact ⟨x0, x1, x2, x3, rfl⟩
  have hc := fun i v => hc j i v
  rw [hx] at hc
  exact ⟨b, off, x0, x1, x2, x3, e, hlt, hx, hc 0 x0 rfl, hc 1 x1 rfl, hc 2 x2 rfl, hc 3 x3 rfl⟩
set_option maxHeartbeats 1000000 in
theorem IndexFuncCar (g : Nat) (lb : Array Value) (eg : ∀ args w, (callFunc g args).run Try.prog w = .ok (.enter g args) w) (p : Nat → Bool) (A : Option Addr) (n c : Nat) (xs : List (List Value)) (w : World)
    (h : RdRow w A n 4 xs) (hm : n ≤ maxLen)
    (hp : ∀ j W, j < n → Below w.heap.size w W → Calls Try.prog g (#[.agg (xs[j]?.getD []).toArray] ++ lb) W fun e w' => e = .returned (.bool (p j)) ∧ Below W.heap.size W w') :
    Calls Try.prog 102 #[.slice A n c, .func (.func g) #[] lb] w fun e w' => e = .returned (.int .i64 (firstIdx p 0 n)) ∧ Below w.heap.size w w' := by
  unfold maxLen at hm
  go_enter Try.func102, Try.ntmps102
  go_wp2
  go_loopg [5, 8] n (fun gg _ s8 wr => ∃ k : Nat, k ≤ n ∧ n - k ≤ gg ∧ s8 = .int .i64 k ∧ Hid (Below w.heap.size w wr) ∧ Hid (firstIdx p 0 n = firstIdx p k (n - k)))
  case atStart => exact ⟨0, Nat.zero_le _, by omega, rfl, Below.refl _ w, rfl⟩
  case round =>
    obtain ⟨k, hk, hg, rfl, BW, A1⟩ := hrel
    by_cases hlt : k < n
    · have hltz : (k : Int) < (n : Int) := by omega
      obtain ⟨b, off, x0, x1, x2, x3, rfl, hb, hx, c0, c1, c2, c3⟩ := (h.below BW.out).cells4 hlt
      have hcall := hp k wr hlt BW.out
      rw [hx] at hcall
      clear hp hx
      have h := hide h
      cases hq : p k with
      | true =>
        rw [hq] at hcall
        have hfin : firstIdx p 0 n = k := by rw [A1.out, show n - k = (n - k - 1) + 1 by omega, firstIdx_hit hq]
        have HF := hide hfin
        clear hfin hq
        go_wp2_with (go_at_fn g; refine hcall.mono ?_; rintro e w' ⟨rfl, hb'⟩)
        go_ret
        exact ⟨ret_int HF.out.symm, BW.out.trans (hb'.mono BW.out.size)⟩
      | false =>
        rw [hq] at hcall
        have hfin : firstIdx p 0 n = firstIdx p (k + 1) (n - (k + 1)) := by rw [A1.out, show n - k = (n - (k + 1)) + 1 by omega, firstIdx_miss hq]
        have HF := hide hfin
        clear hfin hq
        go_wp2_with (go_at_fn g; refine hcall.mono ?_; rintro e w' ⟨rfl, hb'⟩)
        go_roundg (n - (k + 1))
        case measure => omega
        case rel => exact ⟨k + 1, by omega, by omega, by go_num, BW.out.trans (hb'.mono BW.out.size), HF.out⟩
    · have hltz : ¬ (k : Int) < (n : Int) := by omega
      have hfin : firstIdx p 0 n = -1 := by rw [A1.out, show n - k = 0 by omega]; rfl
      have HF := hide hfin
      clear hfin
      go_wp2
      go_ret
      exact ⟨ret_int HF.out.symm, BW.out⟩
theorem ContainsFuncCar (g : Nat) (lb : Array Value) (eg : ∀ args w, (callFunc g args).run Try.prog w = .ok (.enter g args) w) (p : Nat → Bool) (A : Option Addr) (n c : Nat) (xs : List (List Value)) (w : World)
    (h : RdRow w A n 4 xs) (hm : n ≤ maxLen)
    (hp : ∀ j W, j < n → Below w.heap.size w W → Calls Try.prog g (#[.agg (xs[j]?.getD []).toArray] ++ lb) W fun e w' => e = .returned (.bool (p j)) ∧ Below W.heap.size W w') :
    Calls Try.prog 82 #[.slice A n c, .func (.func g) #[] lb] w fun e w' => e = .returned (.bool (anyIdx p n)) ∧ Below w.heap.size w w' := by
  go_enter Try.func82, Try.ntmps82
  go_wp2_with fail
  refine (IndexFuncCar g lb eg p A n c xs w h hm hp).mono ?_
  rintro e w1 ⟨rfl, hb⟩
  go_wp2
  go_ret
  exact ⟨rfl, hb⟩
end Go.Proofs.Ytkmhldjebopljaa

/-
  FirstError at cars, terms and names.
-/
namespace Go.Proofs.Ytkmhldjebopljaa
open Go.RowKit RG

/-- The cells of one of BkCar. -/
def IsCar (x : List Value) : Prop := ∃ (nm : ByteArray) (i1 i2 i3 : Int), x = [.string nm, .int .i64 i1, .int .i64 i2, .int .i64 i3]
set_option maxHeartbeats 1000000 in
theorem firstErrorCar (g : Nat) (bd lb : Array Value) (eg : ∀ args w, (callFunc g args).run Try.prog w = .ok (.enter g args) w) (err : Nat → Int) (A : Option Addr) (n c : Nat) (xs : List (List Value)) (w : World)
    (h : RdRow w A n 4 xs) (ht : ∀ x ∈ xs, IsCar x) (hm : n ≤ maxLen)
    (hp : ∀ j W, j < n → Below w.heap.size w W → Calls Try.prog g (bd ++ (#[.int .i64 j, .agg (xs[j]?.getD []).toArray] ++ lb)) W fun e w' => e = .returned (.int .i64 (err j)) ∧ Below W.heap.size W w') :
    Calls Try.prog 40 #[.slice A n c, .func (.func g) bd lb] w fun e w' => e = .returned (.tuple #[.int .i64 (firstErr err 0 n).1, .int .i64 (firstErr err 0 n).2]) ∧ Below w.heap.size w w' := by
  unfold maxLen at hm
  go_enter Try.func40, Try.ntmps40
  go_wp2
  go_loopg [6, 7, 8, 11] n (fun gg _ _ _ s11 wr => ∃ k : Nat, k ≤ n ∧ n - k ≤ gg ∧ s11 = .int .i64 k ∧ Hid (Below w.heap.size w wr) ∧ Hid (firstErr err 0 n = firstErr err k (n - k)))
  case atStart => exact ⟨0, Nat.zero_le _, by omega, rfl, Below.refl _ w, rfl⟩
  case round =>
    obtain ⟨k, hk, hg, rfl, BW, A1⟩ := hrel
    by_cases hlt : k < n
    · have hltz : (k : Int) < (n : Int) := by omega
      obtain ⟨b, off, x0, x1, x2, x3, rfl, hb, hx, c0, c1, c2, c3⟩ := (h.below BW.out).cells4 hlt
      have hB2 : Below w.heap.size w (wr.alloc (.cells #[x0, x1, x2, x3] 67)) := BW.out.alloc BW.out.size _
      have hcall := hp k _ hlt hB2
      rw [hx] at hcall
      have hmem : xs[k]?.getD [] ∈ xs := by
        have hl : k < xs.length := by rw [h.1]; exact hlt
        rw [List.getElem?_eq_getElem hl]; exact List.getElem_mem hl
      obtain ⟨nm, i1, i2, i3, he⟩ := ht _ hmem
      rw [hx] at he
      clear hx
      obtain ⟨rfl, rfl, rfl, rfl⟩ : x0 = .string nm ∧ x1 = .int .i64 i1 ∧ x2 = .int .i64 i2 ∧ x3 = .int .i64 i3 := by simpa using he
      clear he hmem ht
      have HB2 := hide hB2
      clear hp hB2
      have h := hide h
      by_cases hq : err k = 0
      · have hfin : firstErr err 0 n = firstErr err (k + 1) (n - (k + 1)) := by rw [A1.out, show n - k = (n - (k + 1)) + 1 by omega]; simp [firstErr, hq]
        have HF := hide hfin
        rw [hq] at hcall
        clear hfin hq
        go_wp2_with (go_at_fn g; refine hcall.mono ?_; rintro e w' ⟨rfl, hb'⟩)
        go_roundg (n - (k + 1))
        case measure => omega
        case rel => exact ⟨k + 1, by omega, by omega, by go_num, HB2.out.trans (hb'.mono HB2.out.size), HF.out⟩
      · have hfin : firstErr err 0 n = ((k : Int), err k) := by rw [A1.out, show n - k = (n - k - 1) + 1 by omega]; simp [firstErr, hq]
        have HF := hide hfin
        have hq2 : (err k == 0) = false := by rw [beq_eq_false_iff_ne]; exact hq
        have hq3 : (err k != 0) = true := by rw [bne_iff_ne]; exact hq
        clear hfin
        generalize err k = ek at *
        go_wp2_with (go_at_fn g; refine hcall.mono ?_; rintro e w' ⟨rfl, hb'⟩)
        go_ret2
        exact ⟨by rw [HF.out]; rfl, HB2.out.trans (hb'.mono HB2.out.size)⟩
    · have hltz : ¬ (k : Int) < (n : Int) := by omega
      have hfin : firstErr err 0 n = (0, 0) := by rw [A1.out, show n - k = 0 by omega]; rfl
      have HF := hide hfin
      clear hfin
      go_wp2
      go_ret2
      exact ⟨by rw [HF.out]; rfl, BW.out⟩
/-- The cells of one of BkTerm. -/
def IsTerm (x : List Value) : Prop := ∃ (i0 i1 : Int), x = [.int .i64 i0, .int .i64 i1]
set_option maxHeartbeats 1000000 in
theorem firstErrorTerm (g : Nat) (bd lb : Array Value) (eg : ∀ args w, (callFunc g args).run Try.prog w = .ok (.enter g args) w) (err : Nat → Int) (A : Option Addr) (n c : Nat) (xs : List (List Value)) (w : World)
    (h : RdRow w A n 2 xs) (ht : ∀ x ∈ xs, IsTerm x) (hm : n ≤ maxLen)
    (hp : ∀ j W, j < n → Below w.heap.size w W → Calls Try.prog g (bd ++ (#[.int .i64 j, .agg (xs[j]?.getD []).toArray] ++ lb)) W fun e w' => e = .returned (.int .i64 (err j)) ∧ Below W.heap.size W w') :
    Calls Try.prog 42 #[.slice A n c, .func (.func g) bd lb] w fun e w' => e = .returned (.tuple #[.int .i64 (firstErr err 0 n).1, .int .i64 (firstErr err 0 n).2]) ∧ Below w.heap.size w w' := by
  unfold maxLen at hm
  go_enter Try.func42, Try.ntmps42
  go_wp2
  go_loopg [6, 7, 8, 11] n (fun gg _ _ _ s11 wr => ∃ k : Nat, k ≤ n ∧ n - k ≤ gg ∧ s11 = .int .i64 k ∧ Hid (Below w.heap.size w wr) ∧ Hid (firstErr err 0 n = firstErr err k (n - k)))
  case atStart => exact ⟨0, Nat.zero_le _, by omega, rfl, Below.refl _ w, rfl⟩
  case round =>
    obtain ⟨k, hk, hg, rfl, BW, A1⟩ := hrel
    by_cases hlt : k < n
    · have hltz : (k : Int) < (n : Int) := by omega
      obtain ⟨b, off, x0, x1, rfl, hb, hx, c0, c1⟩ := (h.below BW.out).cells2 hlt
      have hB2 : Below w.heap.size w (wr.alloc (.cells #[x0, x1] 86)) := BW.out.alloc BW.out.size _
      have hcall := hp k _ hlt hB2
      rw [hx] at hcall
      have hmem : xs[k]?.getD [] ∈ xs := by
        have hl : k < xs.length := by rw [h.1]; exact hlt
        rw [List.getElem?_eq_getElem hl]; exact List.getElem_mem hl
      obtain ⟨i0, i1, he⟩ := ht _ hmem
      rw [hx] at he
      clear hx
      obtain ⟨rfl, rfl⟩ : x0 = .int .i64 i0 ∧ x1 = .int .i64 i1 := by simpa using he
      clear he hmem ht
      have HB2 := hide hB2
      clear hp hB2
      have h := hide h
      by_cases hq : err k = 0
      · have hfin : firstErr err 0 n = firstErr err (k + 1) (n - (k + 1)) := by rw [A1.out, show n - k = (n - (k + 1)) + 1 by omega]; simp [firstErr, hq]
        have HF := hide hfin
        rw [hq] at hcall
        clear hfin hq
        go_wp2_with (go_at_fn g; refine hcall.mono ?_; rintro e w' ⟨rfl, hb'⟩)
        go_roundg (n - (k + 1))
        case measure => omega
        case rel => exact ⟨k + 1, by omega, by omega, by go_num, HB2.out.trans (hb'.mono HB2.out.size), HF.out⟩
      · have hfin : firstErr err 0 n = ((k : Int), err k) := by rw [A1.out, show n - k = (n - k - 1) + 1 by omega]; simp [firstErr, hq]
        have HF := hide hfin
        have hq2 : (err k == 0) = false := by rw [beq_eq_false_iff_ne]; exact hq
        have hq3 : (err k != 0) = true := by rw [bne_iff_ne]; exact hq
        clear hfin
        generalize err k = ek at *
        go_wp2_with (go_at_fn g; refine hcall.mono ?_; rintro e w' ⟨rfl, hb'⟩)
        go_ret2
        exact ⟨by rw [HF.out]; rfl, HB2.out.trans (hb'.mono HB2.out.size)⟩
    · have hltz : ¬ (k : Int) < (n : Int) := by omega
      have hfin : firstErr err 0 n = (0, 0) := by rw [A1.out, show n - k = 0 by omega]; rfl
      have HF := hide hfin
      clear hfin
      go_wp2
      go_ret2
      exact ⟨by rw [HF.out]; rfl, BW.out⟩
set_option maxHeartbeats 1000000 in
theorem firstErrorStr (g : Nat) (bd lb : Array Value) (eg : ∀ args w, (callFunc g args).run Try.prog w = .ok (.enter g args) w) (err : Nat → Int) (A : Option Addr) (n c : Nat) (xs : List ByteArray) (w : World)
    (h : RdStrs w A n xs) (hm : n ≤ maxLen)
    (hp : ∀ j W, j < n → Below w.heap.size w W → Calls Try.prog g (bd ++ (#[.int .i64 j, .string (xs[j]?.getD ⟨#[]⟩)] ++ lb)) W fun e w' => e = .returned (.int .i64 (err j)) ∧ Below W.heap.size W w') :
    Calls Try.prog 62 #[.slice A n c, .func (.func g) bd lb] w fun e w' => e = .returned (.tuple #[.int .i64 (firstErr err 0 n).1, .int .i64 (firstErr err 0 n).2]) ∧ Below w.heap.size w w' := by
  unfold maxLen at hm
  go_enter Try.func62, Try.ntmps62
  go_wp2
  go_loopg [6, 7, 8, 11] n (fun gg _ _ _ s11 wr => ∃ k : Nat, k ≤ n ∧ n - k ≤ gg ∧ s11 = .int .i64 k ∧ Hid (Below w.heap.size w wr) ∧ Hid (firstErr err 0 n = firstErr err k (n - k)))
  case atStart => exact ⟨0, Nat.zero_le _, by omega, rfl, Below.refl _ w, rfl⟩
  case round =>
    obtain ⟨k, hk, hg, rfl, BW, A1⟩ := hrel
    by_cases hlt : k < n
    · have hltz : (k : Int) < (n : Int) := by omega
      obtain ⟨b, off, rfl, hb, hc0⟩ := (h.below BW.out).2.2 (by omega)
      have hl : k < xs.length := by rw [h.1]; exact hlt
      have c0 := hc0 k xs[k] (List.getElem?_eq_getElem hl)
      clear hc0
      have hB2 := BW.out
      have hcall := hp k _ hlt hB2
      rw [show xs[k]?.getD ⟨#[]⟩ = xs[k] by rw [List.getElem?_eq_getElem hl]; rfl] at hcall
      generalize xs[k] = x at *
      have HB2 := hide hB2
      clear hp hB2
      have h := hide h
      by_cases hq : err k = 0
      · have hfin : firstErr err 0 n = firstErr err (k + 1) (n - (k + 1)) := by rw [A1.out, show n - k = (n - (k + 1)) + 1 by omega]; simp [firstErr, hq]
        have HF := hide hfin
        rw [hq] at hcall
        clear hfin hq
        go_wp2_with (go_at_fn g; refine hcall.mono ?_; rintro e w' ⟨rfl, hb'⟩)
        go_roundg (n - (k + 1))
        case measure => omega
        case rel => exact ⟨k + 1, by omega, by omega, by go_num, HB2.out.trans (hb'.mono HB2.out.size), HF.out⟩
      · have hfin : firstErr err 0 n = ((k : Int), err k) := by rw [A1.out, show n - k = (n - k - 1) + 1 by omega]; simp [firstErr, hq]
        have HF := hide hfin
        have hq2 : (err k == 0) = false := by rw [beq_eq_false_iff_ne]; exact hq
        have hq3 : (err k != 0) = true := by rw [bne_iff_ne]; exact hq
        clear hfin
        generalize err k = ek at *
        go_wp2_with (go_at_fn g; refine hcall.mono ?_; rintro e w' ⟨rfl, hb'⟩)
        go_ret2
        exact ⟨by rw [HF.out]; rfl, HB2.out.trans (hb'.mono HB2.out.size)⟩
    · have hltz : ¬ (k : Int) < (n : Int) := by omega
      have hfin : firstErr err 0 n = (0, 0) := by rw [A1.out, show n - k = 0 by omega]; rfl
      have HF := hide hfin
      clear hfin
      go_wp2
      go_ret2
      exact ⟨by rw [HF.out]; rfl, BW.out⟩
end Go.Proofs.Ytkmhldjebopljaa
