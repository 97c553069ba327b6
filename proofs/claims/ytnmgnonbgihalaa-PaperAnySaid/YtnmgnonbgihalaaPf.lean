import Derived.Test.YtnmgnonbgihalaaPe
import Derived.Laws.EntriesVeiled
/-
  Whether a stand can become full, or is a paper (made by gen_can.py, mkpa.py).
-/
namespace Go.Proofs.Ytnmgnonbgihalaa
open Go.RowKit RG

theorem idx4_0 (p0 p1 p2 p3 : Int) (W : World) : (Instr.index 107 (.agg #[.int .i64 p0, .int .i64 p1, .int .i64 p2, .int .i64 p3]) (.int .i64 0)).run Try.prog W = .ok (.int .i64 p0) W := by kernel_rfl
theorem idx4_1 (p0 p1 p2 p3 : Int) (W : World) : (Instr.index 107 (.agg #[.int .i64 p0, .int .i64 p1, .int .i64 p2, .int .i64 p3]) (.int .i64 1)).run Try.prog W = .ok (.int .i64 p1) W := by kernel_rfl
theorem idx4_2 (p0 p1 p2 p3 : Int) (W : World) : (Instr.index 107 (.agg #[.int .i64 p0, .int .i64 p1, .int .i64 p2, .int .i64 p3]) (.int .i64 2)).run Try.prog W = .ok (.int .i64 p2) W := by kernel_rfl
theorem idx4_3 (p0 p1 p2 p3 : Int) (W : World) : (Instr.index 107 (.agg #[.int .i64 p0, .int .i64 p1, .int .i64 p2, .int .i64 p3]) (.int .i64 3)).run Try.prog W = .ok (.int .i64 p3) W := by kernel_rfl
def At4 (s : Value) (g : Nat) (P : Nat → Prop) : Prop := (s = .int .i64 0 ∧ 4 ≤ g ∧ P 0) ∨ (s = .int .i64 1 ∧ 3 ≤ g ∧ P 1) ∨ (s = .int .i64 2 ∧ 2 ≤ g ∧ P 2) ∨ (s = .int .i64 3 ∧ 1 ≤ g ∧ P 3) ∨ (s = .int .i64 4 ∧ P 4)
theorem canB_four (B : Bank) (k : Nat) (a b c d : Int) : canB B k [a, b, c, d] = (inB 0 (leftP B k 0) a && inB 0 (leftP B k 1) b && inB 0 (leftP B k 2) c && inB 0 (leftP B k 3) d) := by
  unfold canB
  show (List.all [0, 1, 2, 3] _) = _
  simp [inI, inB, Bool.and_assoc]
set_option maxRecDepth 100000 in
set_option maxHeartbeats 2000000 in
theorem can_any (Q Wd : Option Addr) (cq cw gw cg gl M : Nat) (B : Bank) (k : Nat) (a b c d l : Int) (w : World) (h : VwR w Q Wd gw gl B) (hk : k ≤ B.qs.length) :
    Calls Try.prog 87 #[vwV Q Wd cq cw gw cg gl M B, stV k a b c d l] w fun e w' => e = .returned (.bool (canB B k [a, b, c, d])) ∧ Below w.heap.size w w' := by
  rw [canB_four]
  have hkz : (k : Int) < ((B.qs.length + 1 : Nat) : Int) := by omega
  have hk0 : (0 : Int) ≤ (k : Int) := by omega
  have hw1 := hide (fun (lo hi x : Int) (W : World) => within_one lo hi x W.heap.size 0 1 (W.alloc (.cells #[.int .i64 x] 3)) ((Blk.new W _ _).cell 0))
  have l0 : w.cell? ⟨gl, k * 4, none⟩ = some (.int .i64 (leftP B k 0)) := h.left k 0 hk (by decide)
  have l1 := h.left k 1 hk (by decide)
  have l2 := h.left k 2 hk (by decide)
  have l3 := h.left k 3 hk (by decide)
  have hgl := h.gl
  clear h
  obtain ⟨p0, hp0⟩ : ∃ z : Int, (leftP B k 0 : Int) = z := ⟨_, rfl⟩
  obtain ⟨p1, hp1⟩ : ∃ z : Int, (leftP B k 1 : Int) = z := ⟨_, rfl⟩
  obtain ⟨p2, hp2⟩ : ∃ z : Int, (leftP B k 2 : Int) = z := ⟨_, rfl⟩
  obtain ⟨p3, hp3⟩ : ∃ z : Int, (leftP B k 3 : Int) = z := ⟨_, rfl⟩
  rw [hp0, hp1, hp2, hp3]
  rw [hp0] at l0
  rw [hp1] at l1
  rw [hp2] at l2
  rw [hp3] at l3
  clear hp0 hp1 hp2 hp3
  obtain ⟨i0, hi0⟩ : ∃ q, inB 0 p0 a = q := ⟨_, rfl⟩
  obtain ⟨i1, hi1⟩ : ∃ q, inB 0 p1 b = q := ⟨_, rfl⟩
  obtain ⟨i2, hi2⟩ : ∃ q, inB 0 p2 c = q := ⟨_, rfl⟩
  obtain ⟨i3, hi3⟩ : ∃ q, inB 0 p3 d = q := ⟨_, rfl⟩
  rw [hi0, hi1, hi2, hi3]
  unfold vwV stV
  obtain ⟨W, hW⟩ : ∃ y, (w.alloc (.cells #[.slice Q B.qs.length cq, .slice Wd B.wanted.length cw, .int .i64 B.lo, .int .i64 B.hi, .slice (some ⟨gw, 0, none⟩) B.qs.length cg, .slice (some ⟨gl, 0, none⟩) (B.qs.length + 1) (B.qs.length + 1), .map (some M)] 85)).alloc (.cells #[.int .i64 k, .int .i64 a, .int .i64 b, .int .i64 c, .int .i64 d, .int .i64 l] 113) = y := ⟨_, rfl⟩
  have bW0 := hide (show Blk W w.heap.size 85 #[.slice Q B.qs.length cq, .slice Wd B.wanted.length cw, .int .i64 B.lo, .int .i64 B.hi, .slice (some ⟨gw, 0, none⟩) B.qs.length cg, .slice (some ⟨gl, 0, none⟩) (B.qs.length + 1) (B.qs.length + 1), .map (some M)] by rw [← hW]; exact (blkNew rfl).alloc _)
  have bW1 := hide (show Blk W (w.heap.size + 1) 113 #[.int .i64 k, .int .i64 a, .int .i64 b, .int .i64 c, .int .i64 d, .int .i64 l] by rw [← hW]; exact blkNew (by simp))
  have hBW := hide (show Below w.heap.size w W by rw [← hW]; exact ((Below.refl _ _).alloc (Nat.le_refl _) _).alloc (by simp <;> omega) _)
  replace hW := hide hW
  have m0 := (cellB hBW.out hgl).trans l0
  have m1 := (cellB hBW.out hgl).trans l1
  have m2 := (cellB hBW.out hgl).trans l2
  have m3 := (cellB hBW.out hgl).trans l3
  have c5 : W.cell? ⟨w.heap.size, 5, none⟩ = some (.slice (some ⟨gl, 0, none⟩) (B.qs.length + 1) (B.qs.length + 1)) := bW0.out.cell 5
  have s0 : W.cell? ⟨w.heap.size + 1, 0, none⟩ = some (.int .i64 k) := bW1.out.cell 0
  clear l0 l1 l2 l3
  go_enter Try.func87, Try.ntmps87
  go_upto_region 1 with fail
  rw [hW.out]
  have hBr := hide (show Below W.heap.size W W from Below.refl _ _)
  go_wp2
  go_loopg [5, 6, 13] 4 (fun g _ _ s13 wr => At4 s13 g (fun p => (1 ≤ p → i0 = true) ∧ (2 ≤ p → i1 = true) ∧ (3 ≤ p → i2 = true) ∧ (4 ≤ p → i3 = true)) ∧ Hid (Below W.heap.size W wr))
  case atStart => exact ⟨.inl ⟨rfl, by omega, by simp, by simp, by simp, by simp⟩, hBr.out⟩
  case round =>
    clear m0 m1 m2 m3 c5 s0 hBr
    obtain ⟨hat, hBr⟩ := hrel
    replace bW1 := hide (bW1.out.below hBr.out bW1.out.lt)
    unfold At4 at hat
    rcases hat with ⟨rfl, hg, hP⟩ | ⟨rfl, hg, hP⟩ | ⟨rfl, hg, hP⟩ | ⟨rfl, hg, hP⟩ | ⟨rfl, hP⟩
    · have s1 : wr.cell? ⟨w.heap.size + 1, 1, none⟩ = some (.int .i64 a) := bW1.out.cell 1
      have hc := hide (hw1.out 0 p0 a wr)
      have hix := fun W => idx4_0 p0 p1 p2 p3 W
      rw [hi0] at hc
      clear hw1
      replace hi0 := hide hi0
      replace hi1 := hide hi1
      replace hi2 := hide hi2
      replace hi3 := hide hi3
      replace hP := hide hP
      cases i0 with
      | true =>
        go_wp2_with fail
        refine hc.out.mono ?_
        rintro e w2 ⟨rfl, rfl⟩
        have hB2 := hide (hBr.out.alloc hBr.out.size (.cells #[.int .i64 a] 3))
        clear s1 hc
        go_wp2
        go_roundg 3
        case measure => omega
        case rel => exact ⟨.inr (.inl ⟨rfl, by omega, by have h := hP.out; simp_all⟩), hB2.out⟩
      | false =>
        go_wp2_with fail
        refine hc.out.mono ?_
        rintro e w2 ⟨rfl, rfl⟩
        have hB2 := hide (hBr.out.alloc hBr.out.size (.cells #[.int .i64 a] 3))
        clear s1 hc
        go_wp2
        go_ret
        exact ⟨by simp, hBW.out.trans (hB2.out.mono hBW.out.size)⟩
    · have s1 : wr.cell? ⟨w.heap.size + 1, 2, none⟩ = some (.int .i64 b) := bW1.out.cell 2
      have hc := hide (hw1.out 0 p1 b wr)
      have hix := fun W => idx4_1 p0 p1 p2 p3 W
      rw [hi1] at hc
      clear hw1
      replace hi0 := hide hi0
      replace hi1 := hide hi1
      replace hi2 := hide hi2
      replace hi3 := hide hi3
      replace hP := hide hP
      cases i1 with
      | true =>
        go_wp2_with fail
        refine hc.out.mono ?_
        rintro e w2 ⟨rfl, rfl⟩
        have hB2 := hide (hBr.out.alloc hBr.out.size (.cells #[.int .i64 b] 3))
        clear s1 hc
        go_wp2
        go_roundg 2
        case measure => omega
        case rel => exact ⟨.inr (.inr (.inl ⟨rfl, by omega, by have h := hP.out; simp_all⟩)), hB2.out⟩
      | false =>
        go_wp2_with fail
        refine hc.out.mono ?_
        rintro e w2 ⟨rfl, rfl⟩
        have hB2 := hide (hBr.out.alloc hBr.out.size (.cells #[.int .i64 b] 3))
        clear s1 hc
        go_wp2
        go_ret
        exact ⟨by simp, hBW.out.trans (hB2.out.mono hBW.out.size)⟩
    · have s1 : wr.cell? ⟨w.heap.size + 1, 3, none⟩ = some (.int .i64 c) := bW1.out.cell 3
      have hc := hide (hw1.out 0 p2 c wr)
      have hix := fun W => idx4_2 p0 p1 p2 p3 W
      rw [hi2] at hc
      clear hw1
      replace hi0 := hide hi0
      replace hi1 := hide hi1
      replace hi2 := hide hi2
      replace hi3 := hide hi3
      replace hP := hide hP
      cases i2 with
      | true =>
        go_wp2_with fail
        refine hc.out.mono ?_
        rintro e w2 ⟨rfl, rfl⟩
        have hB2 := hide (hBr.out.alloc hBr.out.size (.cells #[.int .i64 c] 3))
        clear s1 hc
        go_wp2
        go_roundg 1
        case measure => omega
        case rel => exact ⟨.inr (.inr (.inr (.inl ⟨rfl, by omega, by have h := hP.out; simp_all⟩))), hB2.out⟩
      | false =>
        go_wp2_with fail
        refine hc.out.mono ?_
        rintro e w2 ⟨rfl, rfl⟩
        have hB2 := hide (hBr.out.alloc hBr.out.size (.cells #[.int .i64 c] 3))
        clear s1 hc
        go_wp2
        go_ret
        exact ⟨by simp, hBW.out.trans (hB2.out.mono hBW.out.size)⟩
    · have s1 : wr.cell? ⟨w.heap.size + 1, 4, none⟩ = some (.int .i64 d) := bW1.out.cell 4
      have hc := hide (hw1.out 0 p3 d wr)
      have hix := fun W => idx4_3 p0 p1 p2 p3 W
      rw [hi3] at hc
      clear hw1
      replace hi0 := hide hi0
      replace hi1 := hide hi1
      replace hi2 := hide hi2
      replace hi3 := hide hi3
      replace hP := hide hP
      cases i3 with
      | true =>
        go_wp2_with fail
        refine hc.out.mono ?_
        rintro e w2 ⟨rfl, rfl⟩
        have hB2 := hide (hBr.out.alloc hBr.out.size (.cells #[.int .i64 d] 3))
        clear s1 hc
        go_wp2
        go_roundg 0
        case measure => omega
        case rel => exact ⟨.inr (.inr (.inr (.inr (⟨rfl, by have h := hP.out; simp_all⟩)))), hB2.out⟩
      | false =>
        go_wp2_with fail
        refine hc.out.mono ?_
        rintro e w2 ⟨rfl, rfl⟩
        have hB2 := hide (hBr.out.alloc hBr.out.size (.cells #[.int .i64 d] 3))
        clear s1 hc
        go_wp2
        go_ret
        exact ⟨by simp, hBW.out.trans (hB2.out.mono hBW.out.size)⟩
    · obtain ⟨h0, h1, h2, h3⟩ := hP
      obtain rfl := h0 (by decide)
      obtain rfl := h1 (by decide)
      obtain rfl := h2 (by decide)
      obtain rfl := h3 (by decide)
      go_wp2
      go_ret
      exact ⟨rfl, hBW.out.trans (hBr.out.mono hBW.out.size)⟩

set_option maxRecDepth 100000 in
set_option maxHeartbeats 2000000 in
theorem done_any (Q Wd : Option Addr) (cq cw gw cg gl M : Nat) (B : Bank) (k a b c d l : Int) (w : World) (ha : Small a) (hb : Small b) (hc : Small c) (hd : Small d) :
    Calls Try.prog 79 #[vwV Q Wd cq cw gw cg gl M B, stV k a b c d l] w fun e w' => e = .returned (.bool (doneB B [a, b, c, d] l)) ∧ Below w.heap.size w w' := by
  have hF := hide (fun W => isFull_any k a b c d l W ha hb hc hd)
  have hw1 := hide (fun (lo hi x : Int) (W : World) => within_one lo hi x W.heap.size 0 1 (W.alloc (.cells #[.int .i64 x] 3)) ((Blk.new W _ _).cell 0))
  unfold doneB inLev inI
  rw [show (decide (B.lo ≤ l) && decide (l ≤ B.hi)) = inB B.lo B.hi l from rfl]
  obtain ⟨q1, hq1⟩ : ∃ q, decide ([a, b, c, d] = zero4) = q := ⟨_, rfl⟩
  obtain ⟨q2, hq2⟩ : ∃ q, inB B.lo B.hi l = q := ⟨_, rfl⟩
  have hc := hide (fun W => hw1.out B.lo B.hi l W)
  rw [hq1] at hF
  rw [hq2] at hc
  rw [hq1, hq2]
  replace hq1 := hide hq1
  replace hq2 := hide hq2
  clear hw1
  unfold vwV stV
  unfold stV at hF
  obtain ⟨W, hW⟩ : ∃ y, (w.alloc (.cells #[.slice Q B.qs.length cq, .slice Wd B.wanted.length cw, .int .i64 B.lo, .int .i64 B.hi, .slice (some ⟨gw, 0, none⟩) B.qs.length cg, .slice (some ⟨gl, 0, none⟩) (B.qs.length + 1) (B.qs.length + 1), .map (some M)] 85)).alloc (.cells #[.int .i64 k, .int .i64 a, .int .i64 b, .int .i64 c, .int .i64 d, .int .i64 l] 113) = y := ⟨_, rfl⟩
  have bW0 := hide (show Blk W w.heap.size 85 #[.slice Q B.qs.length cq, .slice Wd B.wanted.length cw, .int .i64 B.lo, .int .i64 B.hi, .slice (some ⟨gw, 0, none⟩) B.qs.length cg, .slice (some ⟨gl, 0, none⟩) (B.qs.length + 1) (B.qs.length + 1), .map (some M)] by rw [← hW]; exact (blkNew rfl).alloc _)
  have bW1 := hide (show Blk W (w.heap.size + 1) 113 #[.int .i64 k, .int .i64 a, .int .i64 b, .int .i64 c, .int .i64 d, .int .i64 l] by rw [← hW]; exact blkNew (by simp))
  have hBW := hide (show Below w.heap.size w W by rw [← hW]; exact ((Below.refl _ _).alloc (Nat.le_refl _) _).alloc (by simp <;> omega) _)
  replace hW := hide hW
  have c2 : W.cell? ⟨w.heap.size, 2, none⟩ = some (.int .i64 B.lo) := bW0.out.cell 2
  have c3 : W.cell? ⟨w.heap.size, 3, none⟩ = some (.int .i64 B.hi) := bW0.out.cell 3
  have s0 : W.cell? ⟨w.heap.size + 1, 0, none⟩ = some (.int .i64 k) := bW1.out.cell 0
  have s1 : W.cell? ⟨w.heap.size + 1, 1, none⟩ = some (.int .i64 a) := bW1.out.cell 1
  have s2 : W.cell? ⟨w.heap.size + 1, 2, none⟩ = some (.int .i64 b) := bW1.out.cell 2
  have s3 : W.cell? ⟨w.heap.size + 1, 3, none⟩ = some (.int .i64 c) := bW1.out.cell 3
  have s4 : W.cell? ⟨w.heap.size + 1, 4, none⟩ = some (.int .i64 d) := bW1.out.cell 4
  have s5 : W.cell? ⟨w.heap.size + 1, 5, none⟩ = some (.int .i64 l) := bW1.out.cell 5
  go_enter Try.func79, Try.ntmps79
  go_upto_region 1 with fail
  rw [hW.out]
  cases q1 with
  | false =>
    go_wp2_with fail
    refine (hF.out W).mono ?_
    rintro e w2 ⟨rfl, hb2⟩
    have hB2 := hide (hBW.out.trans (hb2.mono hBW.out.size))
    clear hb2 c2 c3 s0 s1 s2 s3 s4 s5
    go_wp2
    go_ret
    exact ⟨rfl, hB2.out⟩
  | true =>
    go_wp2_with fail
    refine (hF.out W).mono ?_
    rintro e w2 ⟨rfl, hb2⟩
    have hB2 := hide (hBW.out.trans (hb2.mono hBW.out.size))
    have hbh := hide hb2
    replace bW0 := hide (bW0.out.below hbh.out bW0.out.lt)
    replace bW1 := hide (bW1.out.below hbh.out bW1.out.lt)
    clear hb2 c2 c3 s0 s1 s2 s3 s4 s5
    have c2 : w2.cell? ⟨w.heap.size, 2, none⟩ = some (.int .i64 B.lo) := bW0.out.cell 2
    have c3 : w2.cell? ⟨w.heap.size, 3, none⟩ = some (.int .i64 B.hi) := bW0.out.cell 3
    have s5 : w2.cell? ⟨w.heap.size + 1, 5, none⟩ = some (.int .i64 l) := bW1.out.cell 5
    go_wp2_with fail
    refine (hc.out w2).mono ?_
    rintro e w3 ⟨rfl, rfl⟩
    have hB3 := hide (hB2.out.alloc hB2.out.size (.cells #[.int .i64 l] 3))
    clear c2 c3 s5
    go_wp2
    go_ret
    exact ⟨by simp, hB3.out⟩
end Go.Proofs.Ytnmgnonbgihalaa

/-
  FirstError at questions and at numbers (made by gen_check.py).
-/
namespace Go.Proofs.Ytnmgnonbgihalaa
open Go.RowKit RG

theorem fErr_first (err : Nat → Int) : ∀ (n k : Nat), fErr err k n = firstErr err k n
  | 0, _ => rfl
  | n + 1, k => by unfold fErr firstErr; rw [fErr_first err n (k + 1)]
/-- The cells of one of PaQuestion. -/
def IsQn (x : List Value) : Prop := ∃ (i0 i1 i2 : Int), x = [.int .i64 i0, .int .i64 i1, .int .i64 i2]
set_option maxHeartbeats 1000000 in
theorem firstErrorQn (g : Nat) (bd lb : Array Value) (eg : ∀ args w, (callFunc g args).run Try.prog w = .ok (.enter g args) w) (err : Nat → Int) (A : Option Addr) (n c : Nat) (xs : List (List Value)) (w : World)
    (h : RdRow w A n 3 xs) (ht : ∀ x ∈ xs, IsQn x) (hm : n ≤ maxLen)
    (hp : ∀ j W, j < n → Below w.heap.size w W → Calls Try.prog g (bd ++ (#[.int .i64 j, .agg (xs[j]?.getD []).toArray] ++ lb)) W fun e w' => e = .returned (.int .i64 (err j)) ∧ Below W.heap.size W w') :
    Calls Try.prog 44 #[.slice A n c, .func (.func g) bd lb] w fun e w' => e = .returned (.tuple #[.int .i64 (firstErr err 0 n).1, .int .i64 (firstErr err 0 n).2]) ∧ Below w.heap.size w w' := by
  unfold maxLen at hm
  go_enter Try.func44, Try.ntmps44
  go_wp2
  go_loopg [6, 7, 8, 11] n (fun gg _ _ _ s11 wr => ∃ k : Nat, k ≤ n ∧ n - k ≤ gg ∧ s11 = .int .i64 k ∧ Hid (Below w.heap.size w wr) ∧ Hid (firstErr err 0 n = firstErr err k (n - k)))
  case atStart => exact ⟨0, Nat.zero_le _, by omega, rfl, Below.refl _ w, rfl⟩
  case round =>
    obtain ⟨k, hk, hg, rfl, BW, A1⟩ := hrel
    by_cases hlt : k < n
    · have hltz : (k : Int) < (n : Int) := by omega
      obtain ⟨b, off, x0, x1, x2, rfl, hb, hx, c0, c1, c2⟩ := (h.below BW.out).cells3 hlt
      have hB2 : Below w.heap.size w (wr.alloc (.cells #[x0, x1, x2] 61)) := BW.out.alloc BW.out.size _
      have hcall := hp k _ hlt hB2
      rw [hx] at hcall
      have hmem : xs[k]?.getD [] ∈ xs := by
        have hl : k < xs.length := by rw [h.1]; exact hlt
        rw [List.getElem?_eq_getElem hl]; exact List.getElem_mem hl
      obtain ⟨i0, i1, i2, he⟩ := ht _ hmem
      rw [hx] at he
      clear hx
      obtain ⟨rfl, rfl, rfl⟩ : x0 = .int .i64 i0 ∧ x1 = .int .i64 i1 ∧ x2 = .int .i64 i2 := by simpa using he
      clear he hmem ht
      have HB2 := hide hB2
      clear hp hB2
      have h := hide h
      by_cases hq : err k = 0
      · have hfin : firstErr err 0 n = firstErr err (k + 1) (n - (k + 1)) := by rw [A1.out, show n - k = (n - (k + 1)) + 1 by omega]; simp [firstErr, hq]
        have HF := hide hfin
        rw [hq] at hcall
        clear hfin hq
        go_wp2_with (go_at_fn g; refine hcall.mono ?_; rintro e w' ⟨rfl, hb'⟩)
        go_roundg (n - (k + 1))
        case measure => omega
        case rel => exact ⟨k + 1, by omega, by omega, by go_num, HB2.out.trans (hb'.mono HB2.out.size), HF.out⟩
      · have hfin : firstErr err 0 n = ((k : Int), err k) := by rw [A1.out, show n - k = (n - k - 1) + 1 by omega]; simp [firstErr, hq]
        have HF := hide hfin
        have hq2 : (err k == 0) = false := by rw [beq_eq_false_iff_ne]; exact hq
        have hq3 : (err k != 0) = true := by rw [bne_iff_ne]; exact hq
        clear hfin
        generalize err k = ek at *
        go_wp2_with (go_at_fn g; refine hcall.mono ?_; rintro e w' ⟨rfl, hb'⟩)
        go_ret2
        exact ⟨by rw [HF.out]; rfl, HB2.out.trans (hb'.mono HB2.out.size)⟩
    · have hltz : ¬ (k : Int) < (n : Int) := by omega
      have hfin : firstErr err 0 n = (0, 0) := by rw [A1.out, show n - k = 0 by omega]; rfl
      have HF := hide hfin
      clear hfin
      go_wp2
      go_ret2
      exact ⟨by rw [HF.out]; rfl, BW.out⟩
set_option maxHeartbeats 1000000 in
theorem firstErrorInt (g : Nat) (bd lb : Array Value) (eg : ∀ args w, (callFunc g args).run Try.prog w = .ok (.enter g args) w) (err : Nat → Int) (A : Option Addr) (n c : Nat) (xs : List Int) (w : World)
    (h : RdInts w A n xs) (hm : n ≤ maxLen)
    (hp : ∀ j W, j < n → Below w.heap.size w W → Calls Try.prog g (bd ++ (#[.int .i64 j, .int .i64 (xs[j]?.getD 0)] ++ lb)) W fun e w' => e = .returned (.int .i64 (err j)) ∧ Below W.heap.size W w') :
    Calls Try.prog 46 #[.slice A n c, .func (.func g) bd lb] w fun e w' => e = .returned (.tuple #[.int .i64 (firstErr err 0 n).1, .int .i64 (firstErr err 0 n).2]) ∧ Below w.heap.size w w' := by
  unfold maxLen at hm
  go_enter Try.func46, Try.ntmps46
  go_wp2
  go_loopg [6, 7, 8, 11] n (fun gg _ _ _ s11 wr => ∃ k : Nat, k ≤ n ∧ n - k ≤ gg ∧ s11 = .int .i64 k ∧ Hid (Below w.heap.size w wr) ∧ Hid (firstErr err 0 n = firstErr err k (n - k)))
  case atStart => exact ⟨0, Nat.zero_le _, by omega, rfl, Below.refl _ w, rfl⟩
  case round =>
    obtain ⟨k, hk, hg, rfl, BW, A1⟩ := hrel
    by_cases hlt : k < n
    · have hltz : (k : Int) < (n : Int) := by omega
      obtain ⟨b, off, rfl, hb, hcx⟩ := (h.below BW.out).2 (by omega)
      have c0 := hcx k hlt
      clear hcx
      have hB2 : Below w.heap.size w wr := BW.out
      have hcall := hp k _ hlt hB2
      generalize xs[k]?.getD 0 = x at *
      have HB2 := hide hB2
      clear hp hB2
      have h := hide h
      by_cases hq : err k = 0
      · have hfin : firstErr err 0 n = firstErr err (k + 1) (n - (k + 1)) := by rw [A1.out, show n - k = (n - (k + 1)) + 1 by omega]; simp [firstErr, hq]
        have HF := hide hfin
        rw [hq] at hcall
        clear hfin hq
        go_wp2_with (go_at_fn g; refine hcall.mono ?_; rintro e w' ⟨rfl, hb'⟩)
        go_roundg (n - (k + 1))
        case measure => omega
        case rel => exact ⟨k + 1, by omega, by omega, by go_num, HB2.out.trans (hb'.mono HB2.out.size), HF.out⟩
      · have hfin : firstErr err 0 n = ((k : Int), err k) := by rw [A1.out, show n - k = (n - k - 1) + 1 by omega]; simp [firstErr, hq]
        have HF := hide hfin
        have hq2 : (err k == 0) = false := by rw [beq_eq_false_iff_ne]; exact hq
        have hq3 : (err k != 0) = true := by rw [bne_iff_ne]; exact hq
        clear hfin
        generalize err k = ek at *
        go_wp2_with (go_at_fn g; refine hcall.mono ?_; rintro e w' ⟨rfl, hb'⟩)
        go_ret2
        exact ⟨by rw [HF.out]; rfl, HB2.out.trans (hb'.mono HB2.out.size)⟩
    · have hltz : ¬ (k : Int) < (n : Int) := by omega
      have hfin : firstErr err 0 n = (0, 0) := by rw [A1.out, show n - k = 0 by omega]; rfl
      have HF := hide hfin
      clear hfin
      go_wp2
      go_ret2
      exact ⟨by rw [HF.out]; rfl, BW.out⟩
end Go.Proofs.Ytnmgnonbgihalaa

/-
  The errors of a bank's numbers, of a question and of what is wanted (made by gen_check.py, mkpa.py).
-/
namespace Go.Proofs.Ytnmgnonbgihalaa
open Go.RowKit RG

set_option maxRecDepth 100000 in
set_option maxHeartbeats 1000000 in
theorem numErr_any (Q Wd : Option Addr) (cq cw : Nat) (B : Bank) (w : World) :
    Calls Try.prog 43 #[bkV Q Wd cq cw B] w fun e w' => e = .returned (.int .i64 (numErr B)) ∧ Below w.heap.size w w' := by
  have hw1 := hide (fun (lo hi x : Int) (W : World) => within_one lo hi x W.heap.size 0 1 (W.alloc (.cells #[.int .i64 x] 3)) ((Blk.new W _ _).cell 0))
  have hw2 := hide (fun (lo hi x y : Int) (W : World) => within_two lo hi x y W.heap.size 0 2 (W.alloc (.cells #[.int .i64 x, .int .i64 y] 3)) ((Blk.new W _ _).cell 0) ((Blk.new W _ _).cell 1))
  obtain ⟨r, hr⟩ : ∃ r, numErr B = r := ⟨_, rfl⟩
  rw [hr]
  unfold numErr at hr
  rw [show inI 1 16 (B.qs.length : Int) = inB 1 16 (B.qs.length : Int) from rfl, show inI 1 4 (B.wanted.length : Int) = inB 1 4 (B.wanted.length : Int) from rfl, show inI 0 16000 B.lo = inB 0 16000 B.lo from rfl, show inI 0 16000 B.hi = inB 0 16000 B.hi from rfl] at hr
  have hc1 := hide (fun W => hw1.out 1 16 (B.qs.length : Int) W)
  have hc2 := hide (fun W => hw1.out 1 4 (B.wanted.length : Int) W)
  have hc3 := hide (fun W => hw2.out 0 16000 B.lo B.hi W)
  generalize inB 1 16 (B.qs.length : Int) = i1 at *
  generalize inB 1 4 (B.wanted.length : Int) = i2 at *
  generalize inB 0 16000 B.lo = i3 at *
  generalize inB 0 16000 B.hi = i4 at *
  unfold bkV
  generalize B.lo = lo at *
  generalize B.hi = hi at *
  clear hw1 hw2
  obtain ⟨W, hW⟩ : ∃ y, w.alloc (.cells #[.slice Q B.qs.length cq, .slice Wd B.wanted.length cw, .int .i64 lo, .int .i64 hi] 27) = y := ⟨_, rfl⟩
  have bW0 := hide (show Blk W w.heap.size 27 #[.slice Q B.qs.length cq, .slice Wd B.wanted.length cw, .int .i64 lo, .int .i64 hi] by rw [← hW]; exact blkNew rfl)
  have hBW := hide (show Below w.heap.size w W by rw [← hW]; exact (Below.refl _ _).alloc (Nat.le_refl _) _)
  replace hW := hide hW
  have c0 : W.cell? ⟨w.heap.size, 0, none⟩ = some (.slice Q B.qs.length cq) := bW0.out.cell 0
  have c1 : W.cell? ⟨w.heap.size, 1, none⟩ = some (.slice Wd B.wanted.length cw) := bW0.out.cell 1
  have c2 : W.cell? ⟨w.heap.size, 2, none⟩ = some (.int .i64 lo) := bW0.out.cell 2
  have c3 : W.cell? ⟨w.heap.size, 3, none⟩ = some (.int .i64 hi) := bW0.out.cell 3
  go_enter Try.func43, Try.ntmps43
  go_upto_region 1 with fail
  rw [hW.out]
  go_wp2_with fail
  refine (hc1.out _).mono ?_
  rintro e w2 ⟨rfl, rfl⟩
  have kb1 := hide (bW0.out.alloc (.cells #[.int .i64 (B.qs.length : Int)] 3))
  have hB1 := hide (hBW.out.alloc hBW.out.size (.cells #[.int .i64 (B.qs.length : Int)] 3))
  clear c0 c1 c2 c3
  generalize W.alloc (.cells #[.int .i64 (B.qs.length : Int)] 3) = w2 at *
  cases i1 with
  | false =>
    rw [if_pos (by simp)] at hr
    subst hr
    go_wp2
    go_ret
    exact ⟨rfl, hB1.out⟩
  | true =>
    have c1 : w2.cell? ⟨w.heap.size, 1, none⟩ = some (.slice Wd B.wanted.length cw) := kb1.out.cell 1
    go_wp2_with fail
    refine (hc2.out _).mono ?_
    rintro e w3 ⟨rfl, rfl⟩
    have kb2 := hide (kb1.out.alloc (.cells #[.int .i64 (B.wanted.length : Int)] 3))
    have hB2 := hide (hB1.out.alloc hB1.out.size (.cells #[.int .i64 (B.wanted.length : Int)] 3))
    clear c1 kb1
    generalize w2.alloc (.cells #[.int .i64 (B.wanted.length : Int)] 3) = w3 at *
    cases i2 with
    | false =>
      rw [if_pos (by simp)] at hr
      subst hr
      go_wp2
      go_ret
      exact ⟨rfl, hB2.out⟩
    | true =>
      rw [if_neg (by simp)] at hr
      have c2 : w3.cell? ⟨w.heap.size, 2, none⟩ = some (.int .i64 lo) := kb2.out.cell 2
      have c3 : w3.cell? ⟨w.heap.size, 3, none⟩ = some (.int .i64 hi) := kb2.out.cell 3
      go_wp2_with fail
      refine (hc3.out _).mono ?_
      rintro e w4 ⟨rfl, rfl⟩
      have kb3 := hide (kb2.out.alloc (.cells #[.int .i64 lo, .int .i64 hi] 3))
      have hB3 := hide (hB2.out.alloc hB2.out.size (.cells #[.int .i64 lo, .int .i64 hi] 3))
      clear c2 c3 kb2
      generalize w3.alloc (.cells #[.int .i64 lo, .int .i64 hi] 3) = w4 at *
      cases hb : (i3 && i4) with
      | false =>
        rw [if_pos (by rw [Bool.and_eq_false_iff] at hb; exact hb)] at hr
        subst hr
        go_wp2
        go_ret
        exact ⟨rfl, hB3.out⟩
      | true =>
        rw [if_neg (by rw [Bool.and_eq_true] at hb; simp [hb.1, hb.2])] at hr
        have c2 : w4.cell? ⟨w.heap.size, 2, none⟩ = some (.int .i64 lo) := kb3.out.cell 2
        have c3 : w4.cell? ⟨w.heap.size, 3, none⟩ = some (.int .i64 hi) := kb3.out.cell 3
        replace hb := hide hb
        by_cases hlt : hi < lo
        · rw [if_pos hlt] at hr
          subst hr
          have t1 : decide (hi < lo) = true := decide_eq_true hlt
          replace hlt := hide hlt
          go_wp2
          go_ret
          exact ⟨rfl, hB3.out⟩
        · rw [if_neg hlt] at hr
          subst hr
          have t1 : decide (hi < lo) = false := decide_eq_false hlt
          replace hlt := hide hlt
          go_wp2
          go_ret
          exact ⟨rfl, hB3.out⟩
set_option maxRecDepth 100000 in
set_option maxHeartbeats 1000000 in
theorem qErr_any (Q Wd : Option Addr) (cq cw j p : Nat) (B : Bank) (q : Qn) (w : World) (hw : B.wanted.length ≤ maxLen) (hp : Blk w p 27 #[.slice Q B.qs.length cq, .slice Wd B.wanted.length cw, .int .i64 B.lo, .int .i64 B.hi]) :
    Calls Try.prog 69 #[.int .i64 j, .agg (qCells q).toArray, .pointer (some ⟨p, 0, none⟩)] w fun e w' => e = .returned (.int .i64 (qErr B q)) ∧ Below w.heap.size w w' := by
  unfold maxLen at hw
  have hw1 := hide (fun (lo hi x : Int) (W : World) => within_one lo hi x W.heap.size 0 1 (W.alloc (.cells #[.int .i64 x] 3)) ((Blk.new W _ _).cell 0))
  obtain ⟨r, hr⟩ : ∃ r, qErr B q = r := ⟨_, rfl⟩
  rw [hr]
  unfold qErr at hr
  obtain ⟨qp, qa, qw⟩ := q
  simp only at hr
  rw [show inI 0 ((B.wanted.length : Int) - 1) qp = inB 0 ((B.wanted.length : Int) - 1) qp from rfl, show inI 0 100000 qa = inB 0 100000 qa from rfl, show inI 0 qa qw = inB 0 qa qw from rfl] at hr
  have hc1 := hide (fun W => hw1.out 0 ((B.wanted.length : Int) - 1) qp W)
  have hc2 := hide (fun W => hw1.out 0 100000 qa W)
  have hc3 := hide (fun W => hw1.out 0 qa qw W)
  generalize inB 0 ((B.wanted.length : Int) - 1) qp = i1 at *
  generalize inB 0 100000 qa = i2 at *
  generalize inB 0 qa qw = i3 at *
  have u1 : IntKind.i64.wrap ((B.wanted.length : Int) - 1) = (B.wanted.length : Int) - 1 := by rw [IntKind.wrap_i64]; omega
  have hpl := hp.lt
  clear hw1
  unfold qCells
  obtain ⟨W, hW⟩ : ∃ y, w.alloc (.cells #[.int .i64 qp, .int .i64 qa, .int .i64 qw] 61) = y := ⟨_, rfl⟩
  have bW0 := hide (show Blk W w.heap.size 61 #[.int .i64 qp, .int .i64 qa, .int .i64 qw] by rw [← hW]; exact blkNew rfl)
  have hBW := hide (show Below w.heap.size w W by rw [← hW]; exact (Below.refl _ _).alloc (Nat.le_refl _) _)
  replace hW := hide hW
  have p1 : W.cell? ⟨p, 1, none⟩ = some (.slice Wd B.wanted.length cw) := (cellB hBW.out hpl).trans (hp.cell 1)
  have c0 : W.cell? ⟨w.heap.size, 0, none⟩ = some (.int .i64 qp) := bW0.out.cell 0
  clear hp
  go_enter Try.func69, Try.ntmps69
  go_upto_region 1 with fail
  rw [hW.out]
  go_wp2_with fail
  refine (hc1.out _).mono ?_
  rintro e w2 ⟨rfl, rfl⟩
  have kb1 := hide (bW0.out.alloc (.cells #[.int .i64 qp] 3))
  have hB1 := hide (hBW.out.alloc hBW.out.size (.cells #[.int .i64 qp] 3))
  clear c0 p1
  generalize W.alloc (.cells #[.int .i64 qp] 3) = w2 at *
  cases i1 with
  | false =>
    rw [if_pos rfl] at hr
    subst hr
    go_wp2
    go_ret
    exact ⟨rfl, hB1.out⟩
  | true =>
    rw [if_neg (by simp)] at hr
    have c1 : w2.cell? ⟨w.heap.size, 1, none⟩ = some (.int .i64 qa) := kb1.out.cell 1
    go_wp2_with fail
    refine (hc2.out _).mono ?_
    rintro e w3 ⟨rfl, rfl⟩
    have kb2 := hide (kb1.out.alloc (.cells #[.int .i64 qa] 3))
    have hB2 := hide (hB1.out.alloc hB1.out.size (.cells #[.int .i64 qa] 3))
    clear c1 kb1
    generalize w2.alloc (.cells #[.int .i64 qa] 3) = w3 at *
    cases i2 with
    | false =>
      rw [if_pos (by simp)] at hr
      subst hr
      go_wp2
      go_ret
      exact ⟨rfl, hB2.out⟩
    | true =>
      have c1 : w3.cell? ⟨w.heap.size, 1, none⟩ = some (.int .i64 qa) := kb2.out.cell 1
      have c2 : w3.cell? ⟨w.heap.size, 2, none⟩ = some (.int .i64 qw) := kb2.out.cell 2
      go_wp2_with fail
      refine (hc3.out _).mono ?_
      rintro e w4 ⟨rfl, rfl⟩
      have hB3 := hide (hB2.out.alloc hB2.out.size (.cells #[.int .i64 qw] 3))
      clear c1 c2 kb2
      cases i3 with
      | false =>
        rw [if_pos (by simp)] at hr
        subst hr
        go_wp2
        go_ret
        exact ⟨rfl, hB3.out⟩
      | true =>
        rw [if_neg (by simp)] at hr
        subst hr
        go_wp2
        go_ret
        exact ⟨rfl, hB3.out⟩
theorem enters_q : ∀ args w, (callFunc 69 args).run Try.prog w = .ok (.enter 69 args) w := fun _ _ => by kernel_rfl
theorem enters_w : ∀ args w, (callFunc 70 args).run Try.prog w = .ok (.enter 70 args) w := fun _ _ => by kernel_rfl
/-- A function over a value that lies in block p. -/
def PClos (f : Nat) (t : TypeId) (cs : Array Value) : Value → World → Prop := fun v w => ∃ p, v = .func (.func f) #[] #[.pointer (some ⟨p, 0, none⟩)] ∧ Blk w p t cs
theorem PClos.stb (f : Nat) (t : TypeId) (cs : Array Value) : Stb (PClos f t cs) := fun _ _ _ hb ⟨p, e, h⟩ => ⟨p, e, h.below hb h.lt⟩
theorem qErrors_any (Q Wd : Option Addr) (cq cw : Nat) (B : Bank) (w : World) :
    Calls Try.prog 45 #[bkV Q Wd cq cw B] w fun e w' => (∃ v, e = .returned v ∧ PClos 69 27 #[.slice Q B.qs.length cq, .slice Wd B.wanted.length cw, .int .i64 B.lo, .int .i64 B.hi] v w') ∧ Below w.heap.size w w' := by
  unfold bkV
  go_enter Try.func45, Try.ntmps45
  go_wp2
  go_ret
  exact ⟨⟨_, rfl, w.heap.size, rfl, blkNew rfl⟩, (Below.refl _ _).alloc (Nat.le_refl _) _⟩
theorem isQns (qs : List Qn) : ∀ x ∈ qs.map qCells, IsQn x := by
  intro x hx
  obtain ⟨s, _, rfl⟩ := List.mem_map.1 hx
  exact ⟨_, _, _, rfl⟩
theorem firstQ (Q Wd : Option Addr) (cq cw p : Nat) (B : Bank) (w : World) (h : RdRow w Q B.qs.length 3 (B.qs.map qCells)) (hq : B.qs.length ≤ maxLen) (hw : B.wanted.length ≤ maxLen) (hp : Blk w p 27 #[.slice Q B.qs.length cq, .slice Wd B.wanted.length cw, .int .i64 B.lo, .int .i64 B.hi]) :
    Calls Try.prog 44 #[.slice Q B.qs.length cq, .func (.func 69) #[] #[.pointer (some ⟨p, 0, none⟩)]] w fun e w' => e = .returned (.tuple #[.int .i64 (qsE B).1, .int .i64 (qsE B).2]) ∧ Below w.heap.size w w' := by
  unfold qsE
  rw [fErr_first]
  exact firstErrorQn 69 #[] #[.pointer (some ⟨p, 0, none⟩)] enters_q _ Q B.qs.length cq _ w h (isQns B.qs) hq fun j W hj hb => by
    have := qErr_any Q Wd cq cw j p B (B.qs[j]?.getD default) W hw (hp.below hb hp.lt)
    rw [map_at qCells B.qs j hj]
    simpa using this
theorem wErr_0 (a b c d x : Int) (p : Nat) (w : World) (hp : Blk w p 107 #[.int .i64 a, .int .i64 b, .int .i64 c, .int .i64 d]) :
    Calls Try.prog 70 #[.int .i64 0, .int .i64 x, .pointer (some ⟨p, 0, none⟩)] w fun e w' => e = .returned (.int .i64 (if inB 1 a x = false then 7 else 0)) ∧ Below w.heap.size w w' := by
  have hc1 := hide (within_one 1 a x w.heap.size 0 1 (w.alloc (.cells #[.int .i64 x] 3)) ((Blk.new w _ _).cell 0))
  obtain ⟨i1, hi⟩ : ∃ q, inB 1 a x = q := ⟨_, rfl⟩
  rw [hi] at hc1 ⊢
  replace hi := hide hi
  have c0 : w.cell? ⟨p, 0, none⟩ = some (.int .i64 a) := hp.cell 0
  have hB := hide ((Below.refl w.heap.size w).alloc (Nat.le_refl _) (.cells #[.int .i64 x] 3))
  go_enter Try.func70, Try.ntmps70
  go_wp2_with fail
  refine hc1.out.mono ?_
  rintro e w2 ⟨rfl, rfl⟩
  cases i1 with
  | false => go_wp2; go_ret; exact ⟨rfl, hB.out⟩
  | true => go_wp2; go_ret; exact ⟨rfl, hB.out⟩
theorem wErr_1 (a b c d x : Int) (p : Nat) (w : World) (hp : Blk w p 107 #[.int .i64 a, .int .i64 b, .int .i64 c, .int .i64 d]) :
    Calls Try.prog 70 #[.int .i64 1, .int .i64 x, .pointer (some ⟨p, 0, none⟩)] w fun e w' => e = .returned (.int .i64 (if inB 1 b x = false then 7 else 0)) ∧ Below w.heap.size w w' := by
  have hc1 := hide (within_one 1 b x w.heap.size 0 1 (w.alloc (.cells #[.int .i64 x] 3)) ((Blk.new w _ _).cell 0))
  obtain ⟨i1, hi⟩ : ∃ q, inB 1 b x = q := ⟨_, rfl⟩
  rw [hi] at hc1 ⊢
  replace hi := hide hi
  have c1 : w.cell? ⟨p, 1, none⟩ = some (.int .i64 b) := hp.cell 1
  have hB := hide ((Below.refl w.heap.size w).alloc (Nat.le_refl _) (.cells #[.int .i64 x] 3))
  go_enter Try.func70, Try.ntmps70
  go_wp2_with fail
  refine hc1.out.mono ?_
  rintro e w2 ⟨rfl, rfl⟩
  cases i1 with
  | false => go_wp2; go_ret; exact ⟨rfl, hB.out⟩
  | true => go_wp2; go_ret; exact ⟨rfl, hB.out⟩
theorem wErr_2 (a b c d x : Int) (p : Nat) (w : World) (hp : Blk w p 107 #[.int .i64 a, .int .i64 b, .int .i64 c, .int .i64 d]) :
    Calls Try.prog 70 #[.int .i64 2, .int .i64 x, .pointer (some ⟨p, 0, none⟩)] w fun e w' => e = .returned (.int .i64 (if inB 1 c x = false then 7 else 0)) ∧ Below w.heap.size w w' := by
  have hc1 := hide (within_one 1 c x w.heap.size 0 1 (w.alloc (.cells #[.int .i64 x] 3)) ((Blk.new w _ _).cell 0))
  obtain ⟨i1, hi⟩ : ∃ q, inB 1 c x = q := ⟨_, rfl⟩
  rw [hi] at hc1 ⊢
  replace hi := hide hi
  have c2 : w.cell? ⟨p, 2, none⟩ = some (.int .i64 c) := hp.cell 2
  have hB := hide ((Below.refl w.heap.size w).alloc (Nat.le_refl _) (.cells #[.int .i64 x] 3))
  go_enter Try.func70, Try.ntmps70
  go_wp2_with fail
  refine hc1.out.mono ?_
  rintro e w2 ⟨rfl, rfl⟩
  cases i1 with
  | false => go_wp2; go_ret; exact ⟨rfl, hB.out⟩
  | true => go_wp2; go_ret; exact ⟨rfl, hB.out⟩
theorem wErr_3 (a b c d x : Int) (p : Nat) (w : World) (hp : Blk w p 107 #[.int .i64 a, .int .i64 b, .int .i64 c, .int .i64 d]) :
    Calls Try.prog 70 #[.int .i64 3, .int .i64 x, .pointer (some ⟨p, 0, none⟩)] w fun e w' => e = .returned (.int .i64 (if inB 1 d x = false then 7 else 0)) ∧ Below w.heap.size w w' := by
  have hc1 := hide (within_one 1 d x w.heap.size 0 1 (w.alloc (.cells #[.int .i64 x] 3)) ((Blk.new w _ _).cell 0))
  obtain ⟨i1, hi⟩ : ∃ q, inB 1 d x = q := ⟨_, rfl⟩
  rw [hi] at hc1 ⊢
  replace hi := hide hi
  have c3 : w.cell? ⟨p, 3, none⟩ = some (.int .i64 d) := hp.cell 3
  have hB := hide ((Below.refl w.heap.size w).alloc (Nat.le_refl _) (.cells #[.int .i64 x] 3))
  go_enter Try.func70, Try.ntmps70
  go_wp2_with fail
  refine hc1.out.mono ?_
  rintro e w2 ⟨rfl, rfl⟩
  cases i1 with
  | false => go_wp2; go_ret; exact ⟨rfl, hB.out⟩
  | true => go_wp2; go_ret; exact ⟨rfl, hB.out⟩
theorem left_succ {B : Bank} (hp : ∀ q ∈ B.qs, 0 ≤ q.part) {k : Nat} (hk : k < B.qs.length) (p : Nat) : leftP B k p = leftP B (k + 1) p + if partAt B k = p then 1 else 0 := by
  unfold leftP
  rw [List.drop_eq_getElem_cons hk, List.countP_cons]
  congr 1
  unfold partAt
  rw [List.getElem?_eq_getElem hk, Option.getD_some]
  have := hp B.qs[k] (List.getElem_mem hk)
  by_cases e : B.qs[k].part = (p : Int)
  · rw [if_pos (by simpa using e), if_pos (by omega)]
  · rw [if_neg (by simpa using e), if_neg (by omega)]
theorem left_end (B : Bank) (p : Nat) : leftP B B.qs.length p = 0 := by unfold leftP; rw [List.drop_length]; rfl
set_option maxRecDepth 100000 in
set_option maxHeartbeats 1000000 in
theorem wErrors_any (Q Wd : Option Addr) (cq cw : Nat) (B : Bank) (w : World) (h : RdRow w Q B.qs.length 3 (B.qs.map qCells)) (hq : B.qs.length ≤ 16) (hp0 : ∀ q ∈ B.qs, 0 ≤ q.part) (h4 : ∀ x, partAt B x < 4) :
    Calls Try.prog 47 #[bkV Q Wd cq cw B] w fun e w' => (∃ v, e = .returned v ∧ PClos 70 107 #[.int .i64 (leftP B 0 0 : Nat), .int .i64 (leftP B 0 1 : Nat), .int .i64 (leftP B 0 2 : Nat), .int .i64 (leftP B 0 3 : Nat)] v w') ∧ Below w.heap.size w w' := by
  unfold bkV
  obtain ⟨W, hW⟩ : ∃ y, (w.alloc (.cells #[.slice Q B.qs.length cq, .slice Wd B.wanted.length cw, .int .i64 B.lo, .int .i64 B.hi] 27)).alloc (.cells #[.int .i64 0, .int .i64 0, .int .i64 0, .int .i64 0] 107) = y := ⟨_, rfl⟩
  have bW0 := hide (show Blk W w.heap.size 27 #[.slice Q B.qs.length cq, .slice Wd B.wanted.length cw, .int .i64 B.lo, .int .i64 B.hi] by rw [← hW]; exact (blkNew rfl).alloc _)
  have bW1 := hide (show Blk W (w.heap.size + 1) 107 #[.int .i64 0, .int .i64 0, .int .i64 0, .int .i64 0] by rw [← hW]; exact blkNew (by simp))
  have hBW := hide (show Below w.heap.size w W by rw [← hW]; exact ((Below.refl _ _).alloc (Nat.le_refl _) _).alloc (by simp <;> omega) _)
  replace hW := hide hW
  have hRk := hide (fun W' (hb : Below w.heap.size w W') => h.below hb)
  have c0 : W.cell? ⟨w.heap.size, 0, none⟩ = some (.slice Q B.qs.length cq) := bW0.out.cell 0
  clear h
  go_enter Try.func47, Try.ntmps47
  go_upto_region 2 with fail
  rw [hW.out]
  go_wp2
  go_loopg [5, 9] B.qs.length (fun g _ s9 wr => ∃ j a b c d : Nat, j ≤ B.qs.length ∧ B.qs.length ≤ g + j ∧ s9 = .int .i64 (j : Int) ∧ Hid (a + leftP B j 0 = leftP B 0 0 ∧ b + leftP B j 1 = leftP B 0 1 ∧ c + leftP B j 2 = leftP B 0 2 ∧ d + leftP B j 3 = leftP B 0 3) ∧ (a ≤ j ∧ b ≤ j ∧ c ≤ j ∧ d ≤ j) ∧ Hid (Blk wr (w.heap.size + 1) 107 #[.int .i64 (a : Int), .int .i64 (b : Int), .int .i64 (c : Int), .int .i64 (d : Int)]) ∧ Hid (Below (w.heap.size + 1) W wr))
  case atStart => exact ⟨0, 0, 0, 0, 0, Nat.zero_le _, by omega, rfl, ⟨by omega, by omega, by omega, by omega⟩, by omega, bW1.out, Below.refl _ _⟩
  case round =>
    clear c0 bW1
    obtain ⟨j, a, b, c, d, hj, hg, rfl, hcn, hle, hkb, hBr⟩ := hrel
    have hBw := hide (hBW.out.trans (hBr.out.mono (by omega)))
    by_cases hlt : j < B.qs.length
    · have hltz : (j : Int) < (B.qs.length : Int) := by omega
      have hj0 : (0 : Int) ≤ (j : Int) := by omega
      obtain ⟨gq, oq, q0, q1, q2, rfl, hgq, hqq, e0, e1, e2⟩ := (hRk.out wr hBw.out).cells3 hlt
      rw [map_at qCells B.qs j hlt] at hqq
      simp only [qCells, List.cons.injEq, and_true] at hqq
      obtain ⟨rfl, rfl, rfl⟩ := hqq
      have hpa : (B.qs[j]?.getD default).part = (partAt B j : Int) := by
        unfold partAt
        rw [List.getElem?_eq_getElem hlt, Option.getD_some]
        have := hp0 _ (List.getElem_mem hlt)
        omega
      have hls := fun p => left_succ hp0 hlt p
      have hp4 := h4 j
      rw [hpa] at e0
      generalize partAt B j = p at *
      generalize (B.qs[j]?.getD default).asked = qa at *
      generalize (B.qs[j]?.getD default).wrong = qw at *
      have hl0 := hls 0
      have hl1 := hls 1
      have hl2 := hls 2
      have hl3 := hls 3
      clear hls hpa
      by_cases hp0 : p = 0
      · subst hp0
        have ww : IntKind.i64.wrap ((a : Int) + 1) = (a : Int) + 1 := by rw [IntKind.wrap_i64]; omega
        have hcn2 : Hid ((a + 1) + leftP B (j + 1) 0 = leftP B 0 0 ∧ (b) + leftP B (j + 1) 1 = leftP B 0 1 ∧ (c) + leftP B (j + 1) 2 = leftP B 0 2 ∧ (d) + leftP B (j + 1) 3 = leftP B 0 3) := by
          have h := hcn.out
          simp at hl0 hl1 hl2 hl3
          unfold Hid
          omega
        replace hl0 := hide hl0
        replace hl1 := hide hl1
        replace hl2 := hide hl2
        replace hl3 := hide hl3
        have hkn := hide ((hkb.out.set_ 0 (.int .i64 ((a : Int) + 1))).alloc (.cells #[.int .i64 0, .int .i64 qa, .int .i64 qw] 61))
        have hBn := hide ((hBr.out.setCell (p := ⟨w.heap.size + 1, 0, none⟩) (Nat.le_refl _) (.int .i64 ((a : Int) + 1))).alloc (by simp <;> exact Nat.le_of_lt hkb.out.lt) (.cells #[.int .i64 0, .int .i64 qa, .int .i64 qw] 61))
        have hkl := hkb.out.lt
        have n0 : wr.cell? ⟨w.heap.size + 1, 0, none⟩ = some (.int .i64 (a : Int)) := hkb.out.cell 0
        have z0 := hkb.out.frozen 0
        have hne : w.heap.size + 1 ≠ wr.heap.size := by omega
        go_wp2
        go_roundg (B.qs.length - (j + 1))
        case measure => omega
        case rel => exact ⟨j + 1, a + 1, b, c, d, by omega, by omega, by go_num, hcn2, by omega, by rw [show ((a + 1 : Nat) : Int) = (a : Int) + 1 by omega]; exact hkn.out, hBn.out⟩
      by_cases hp1 : p = 1
      · subst hp1
        have ww : IntKind.i64.wrap ((b : Int) + 1) = (b : Int) + 1 := by rw [IntKind.wrap_i64]; omega
        have hcn2 : Hid ((a) + leftP B (j + 1) 0 = leftP B 0 0 ∧ (b + 1) + leftP B (j + 1) 1 = leftP B 0 1 ∧ (c) + leftP B (j + 1) 2 = leftP B 0 2 ∧ (d) + leftP B (j + 1) 3 = leftP B 0 3) := by
          have h := hcn.out
          simp at hl0 hl1 hl2 hl3
          unfold Hid
          omega
        replace hl0 := hide hl0
        replace hl1 := hide hl1
        replace hl2 := hide hl2
        replace hl3 := hide hl3
        have hkn := hide ((hkb.out.set_ 1 (.int .i64 ((b : Int) + 1))).alloc (.cells #[.int .i64 1, .int .i64 qa, .int .i64 qw] 61))
        have hBn := hide ((hBr.out.setCell (p := ⟨w.heap.size + 1, 1, none⟩) (Nat.le_refl _) (.int .i64 ((b : Int) + 1))).alloc (by simp <;> exact Nat.le_of_lt hkb.out.lt) (.cells #[.int .i64 1, .int .i64 qa, .int .i64 qw] 61))
        have hkl := hkb.out.lt
        have n1 : wr.cell? ⟨w.heap.size + 1, 1, none⟩ = some (.int .i64 (b : Int)) := hkb.out.cell 1
        have z1 := hkb.out.frozen 1
        have hne : w.heap.size + 1 ≠ wr.heap.size := by omega
        go_wp2
        go_roundg (B.qs.length - (j + 1))
        case measure => omega
        case rel => exact ⟨j + 1, a, b + 1, c, d, by omega, by omega, by go_num, hcn2, by omega, by rw [show ((b + 1 : Nat) : Int) = (b : Int) + 1 by omega]; exact hkn.out, hBn.out⟩
      by_cases hp2 : p = 2
      · subst hp2
        have ww : IntKind.i64.wrap ((c : Int) + 1) = (c : Int) + 1 := by rw [IntKind.wrap_i64]; omega
        have hcn2 : Hid ((a) + leftP B (j + 1) 0 = leftP B 0 0 ∧ (b) + leftP B (j + 1) 1 = leftP B 0 1 ∧ (c + 1) + leftP B (j + 1) 2 = leftP B 0 2 ∧ (d) + leftP B (j + 1) 3 = leftP B 0 3) := by
          have h := hcn.out
          simp at hl0 hl1 hl2 hl3
          unfold Hid
          omega
        replace hl0 := hide hl0
        replace hl1 := hide hl1
        replace hl2 := hide hl2
        replace hl3 := hide hl3
        have hkn := hide ((hkb.out.set_ 2 (.int .i64 ((c : Int) + 1))).alloc (.cells #[.int .i64 2, .int .i64 qa, .int .i64 qw] 61))
        have hBn := hide ((hBr.out.setCell (p := ⟨w.heap.size + 1, 2, none⟩) (Nat.le_refl _) (.int .i64 ((c : Int) + 1))).alloc (by simp <;> exact Nat.le_of_lt hkb.out.lt) (.cells #[.int .i64 2, .int .i64 qa, .int .i64 qw] 61))
        have hkl := hkb.out.lt
        have n2 : wr.cell? ⟨w.heap.size + 1, 2, none⟩ = some (.int .i64 (c : Int)) := hkb.out.cell 2
        have z2 := hkb.out.frozen 2
        have hne : w.heap.size + 1 ≠ wr.heap.size := by omega
        go_wp2
        go_roundg (B.qs.length - (j + 1))
        case measure => omega
        case rel => exact ⟨j + 1, a, b, c + 1, d, by omega, by omega, by go_num, hcn2, by omega, by rw [show ((c + 1 : Nat) : Int) = (c : Int) + 1 by omega]; exact hkn.out, hBn.out⟩
      by_cases hp3 : p = 3
      · subst hp3
        have ww : IntKind.i64.wrap ((d : Int) + 1) = (d : Int) + 1 := by rw [IntKind.wrap_i64]; omega
        have hcn2 : Hid ((a) + leftP B (j + 1) 0 = leftP B 0 0 ∧ (b) + leftP B (j + 1) 1 = leftP B 0 1 ∧ (c) + leftP B (j + 1) 2 = leftP B 0 2 ∧ (d + 1) + leftP B (j + 1) 3 = leftP B 0 3) := by
          have h := hcn.out
          simp at hl0 hl1 hl2 hl3
          unfold Hid
          omega
        replace hl0 := hide hl0
        replace hl1 := hide hl1
        replace hl2 := hide hl2
        replace hl3 := hide hl3
        have hkn := hide ((hkb.out.set_ 3 (.int .i64 ((d : Int) + 1))).alloc (.cells #[.int .i64 3, .int .i64 qa, .int .i64 qw] 61))
        have hBn := hide ((hBr.out.setCell (p := ⟨w.heap.size + 1, 3, none⟩) (Nat.le_refl _) (.int .i64 ((d : Int) + 1))).alloc (by simp <;> exact Nat.le_of_lt hkb.out.lt) (.cells #[.int .i64 3, .int .i64 qa, .int .i64 qw] 61))
        have hkl := hkb.out.lt
        have n3 : wr.cell? ⟨w.heap.size + 1, 3, none⟩ = some (.int .i64 (d : Int)) := hkb.out.cell 3
        have z3 := hkb.out.frozen 3
        have hne : w.heap.size + 1 ≠ wr.heap.size := by omega
        go_wp2
        go_roundg (B.qs.length - (j + 1))
        case measure => omega
        case rel => exact ⟨j + 1, a, b, c, d + 1, by omega, by omega, by go_num, hcn2, by omega, by rw [show ((d + 1 : Nat) : Int) = (d : Int) + 1 by omega]; exact hkn.out, hBn.out⟩
      omega
    · have hltz : ¬ (j : Int) < (B.qs.length : Int) := by omega
      obtain rfl : j = B.qs.length := by omega
      have h := hcn.out
      rw [left_end, left_end, left_end, left_end] at h
      simp only [Nat.add_zero] at h
      obtain ⟨rfl, rfl, rfl, rfl⟩ := h
      go_wp2
      go_ret
      exact ⟨⟨_, rfl, w.heap.size + 1, rfl, hkb.out⟩, hBw.out⟩
theorem firstW (Wd : Option Addr) (cw p : Nat) (B : Bank) (w : World) (h : RdInts w Wd B.wanted.length B.wanted) (hw : B.wanted.length ≤ 4) (hp : Blk w p 107 #[.int .i64 (leftP B 0 0 : Nat), .int .i64 (leftP B 0 1 : Nat), .int .i64 (leftP B 0 2 : Nat), .int .i64 (leftP B 0 3 : Nat)]) :
    Calls Try.prog 46 #[.slice Wd B.wanted.length cw, .func (.func 70) #[] #[.pointer (some ⟨p, 0, none⟩)]] w fun e w' => e = .returned (.tuple #[.int .i64 (wsE B).1, .int .i64 (wsE B).2]) ∧ Below w.heap.size w w' := by
  unfold wsE
  rw [fErr_first]
  exact firstErrorInt 70 #[] #[.pointer (some ⟨p, 0, none⟩)] enters_w _ Wd B.wanted.length cw B.wanted w h (by unfold maxLen; omega) fun j W hj hb => by
    have hp' := hp.below hb hp.lt
    unfold wErr
    match j, hj with
    | 0, _ => simpa [inI, inB] using wErr_0 _ _ _ _ (B.wanted[0]?.getD 0) p W hp'
    | 1, _ => simpa [inI, inB] using wErr_1 _ _ _ _ (B.wanted[1]?.getD 0) p W hp'
    | 2, _ => simpa [inI, inB] using wErr_2 _ _ _ _ (B.wanted[2]?.getD 0) p W hp'
    | 3, _ => simpa [inI, inB] using wErr_3 _ _ _ _ (B.wanted[3]?.getD 0) p W hp'
    | n + 4, hj => omega
end Go.Proofs.Ytnmgnonbgihalaa
