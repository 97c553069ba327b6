import Derived.Test.YtnmgnonbgihalaaPv
/-
  The reference's Weight, Common, Before, Apart (made by gen_refd.py).
-/
namespace Go.Proofs.Ytnmgnonbgihalaa
open Go.RowKit RG

set_option maxRecDepth 100000 in
theorem Weight_any (q : Qn) (h : (0 ≤ q.asked ∧ q.asked ≤ 100000) ∧ 0 ≤ q.wrong ∧ q.wrong ≤ q.asked) (w : World) : Calls Try.prog 39 #[.agg #[.int .i64 q.part, .int .i64 q.asked, .int .i64 q.wrong]] w fun e w' => e = .returned (.int .i64 (weight q)) ∧ Below w.heap.size w w' := by
  obtain ⟨p, a, b⟩ := q
  dsimp only at h ⊢
  have hw := weight_bd (q := ⟨p, a, b⟩) h.1.1 h.2.1 h.2.2
  unfold weight at hw ⊢
  dsimp only at hw ⊢
  by_cases ha : a = 0
  · subst ha
    rw [if_pos rfl]
    clear hw
    go_enter Try.func39, Try.ntmps39
    go_wp2
    go_ret
    exact ⟨rfl, (Below.refl _ _).alloc (Nat.le_refl _) _⟩
  · have ha2 : (a == 0) = false := by rw [beq_eq_false_iff_ne]; exact ha
    rw [if_neg ha] at hw ⊢
    have hm : IntKind.i64.wrap (b * 1000) = b * 1000 := by rw [IntKind.wrap_i64]; omega
    obtain ⟨r, hr0⟩ : ∃ r, (b * 1000).tdiv a = r := ⟨_, rfl⟩
    rw [hr0] at hw ⊢
    have hr2 : b * 1000 / a = r := by rw [← hr0, Int.tdiv_eq_ediv_of_nonneg (by omega)]
    have hr : IntKind.i64.wrap r = r := by rw [IntKind.wrap_i64]; omega
    go_enter Try.func39, Try.ntmps39
    go_wp2
    go_ret
    exact ⟨rfl, (Below.refl _ _).alloc (Nat.le_refl _) _⟩
/-- How many pairs of equal numbers two lists have. -/
def comR (xs ys : List Int) : Nat := (xs.map fun x => ys.count x).sum
theorem comR_nodup {xs ys : List Int} (h : ys.Nodup) : comR xs ys = commonP xs ys := by
  unfold comR commonP
  induction xs with
  | nil => rfl
  | cons x xs ih =>
    rw [List.map_cons, List.sum_cons, ih, List.countP_cons, h.count]
    by_cases e : x ∈ ys <;> simp [e, Nat.add_comm]
theorem comR_take {xs ys : List Int} {i : Nat} (hi : i < xs.length) : comR (xs.take (i + 1)) ys = comR (xs.take i) ys + ys.count (xs[i]?.getD 0) := by
  unfold comR
  rw [List.take_succ_eq_append_getElem hi, List.map_append, List.sum_append, List.getElem?_eq_getElem hi]
  simp
theorem count_take {ys : List Int} {x : Int} {k : Nat} (hk : k < ys.length) : (ys.take (k + 1)).count x = (ys.take k).count x + if x = ys[k]?.getD 0 then 1 else 0 := by
  rw [List.take_succ_eq_append_getElem hk, List.count_append, List.getElem?_eq_getElem hk, Option.getD_some, List.count_singleton]
  congr 1
  by_cases e : x = ys[k]
  · rw [if_pos e, if_pos (by simp [e])]
  · rw [if_neg e, if_neg (by simp; exact fun h => e h.symm)]
theorem comR_le (xs ys : List Int) : comR xs ys ≤ xs.length * ys.length := by
  unfold comR
  induction xs with
  | nil => simp
  | cons x xs ih =>
    rw [List.map_cons, List.sum_cons, List.length_cons, Nat.succ_mul]
    have := List.count_le_length (a := x) (l := ys)
    omega
set_option maxHeartbeats 2000000 in
theorem Common_any (A B : Option Addr) (n m c d : Nat) (xs ys : List Int) (w : World) (h : RdInts w A n xs) (h' : RdInts w B m ys) (hn : n ≤ 1000) (hm : m ≤ 1000) :
    Calls Try.prog 68 #[.slice A n c, .slice B m d] w fun e w' => e = .returned (.int .i64 (comR xs ys : Nat)) ∧ ∃ q, w' = w.drewN q := by
  have hxl := h.1
  have hyl := h'.1
  have hst := hide (fun i (hi : i < n) => comR_take (xs := xs) (ys := ys) (i := i) (by omega))
  have hsk := hide (fun x k (hk : k < m) => count_take (ys := ys) (x := x) (k := k) (by omega))
  have hle := hide (fun i => show comR (xs.take i) ys ≤ 1000000 from by
    have h1 := comR_le (xs.take i) ys
    have h2 : (xs.take i).length * ys.length ≤ 1000 * 1000 := Nat.mul_le_mul (by rw [List.length_take]; omega) (by omega)
    omega)
  have hlc := hide (fun x k => show (ys.take k).count x ≤ 1000 from by
    have := List.count_le_length (a := x) (l := ys.take k)
    rw [List.length_take] at this
    omega)
  have hend := hide (show comR xs ys = comR (xs.take n) ys by rw [List.take_of_length_le (by omega)])
  have hye := hide (fun x => show (ys.take m).count x = ys.count x by rw [List.take_of_length_le (by omega)])
  obtain ⟨R, hR⟩ : ∃ R, comR xs ys = R := ⟨_, rfl⟩
  rw [hR] at hend ⊢
  replace hR := hide hR
  go_enter Try.func68, Try.ntmps68
  go_wp2
  go_loopg [5, 6, 7] (n + 1) (fun g s5 s6 _ wr => ∃ i q : Nat, i ≤ n ∧ n < g + i ∧ s5 = .int .i64 (comR (xs.take i) ys : Nat) ∧ s6 = .int .i64 i ∧ Hid (wr = w.drewN q))
  case atStart => exact ⟨0, 0, by omega, by omega, rfl, rfl, rfl⟩
  case round =>
    obtain ⟨i, q, hi, hg, rfl, rfl, hwq⟩ := hrel
    generalize wr = wo at *
    by_cases hlt : i < n
    · have hltz : (i : Int) < (n : Int) := by omega
      have hi0 : (0 : Int) ≤ (i : Int) := by omega
      obtain ⟨b, off, rfl, hb, hc⟩ := h.2 (by omega)
      have c1 := hc i hlt
      have hs := hst.out i hlt
      have hl := hle.out i
      have hiw : IntKind.i64.wrap ((i : Int) + 1) = (i : Int) + 1 := by rw [IntKind.wrap_i64]; omega
      generalize xs[i]?.getD 0 = x at *
      generalize comR (xs.take i) ys = ci at *
      replace c1 := hide c1
      replace hs := hide hs
      clear hc
      replace h := hide h
      go_wp2
      go_loopg [5, 7] (m + 1) (fun g s5 s7 wr => ∃ k q2 : Nat, k ≤ m ∧ m < g + k ∧ s5 = .int .i64 ((ci + (ys.take k).count x : Nat) : Int) ∧ s7 = .int .i64 k ∧ Hid (wr = w.drewN q2))
      case atStart => exact ⟨0, q, by omega, by omega, rfl, rfl, hwq⟩
      case round =>
        obtain ⟨k, q2, hk, hgk, rfl, rfl, hwk⟩ := hrel
        by_cases hkm : k < m
        · have hkmz : (k : Int) < (m : Int) := by omega
          have hk0 : (0 : Int) ≤ (k : Int) := by omega
          obtain ⟨b', off', rfl, hb', hc'⟩ := h'.2 (by omega)
          have d1 : wr.cell? ⟨b, off + i, none⟩ = some (.int .i64 x) := by rw [hwk.out]; exact c1.out
          have d2 : wr.cell? ⟨b', off' + k, none⟩ = some (.int .i64 (ys[k]?.getD 0)) := by rw [hwk.out]; exact hc' k hkm
          have hq := hsk.out x k hkm
          have hll := hlc.out x k
          have hkw : IntKind.i64.wrap ((k : Int) + 1) = (k : Int) + 1 := by rw [IntKind.wrap_i64]; omega
          generalize ys[k]?.getD 0 = y at *
          generalize (ys.take k).count x = ck at *
          have hcw : IntKind.i64.wrap (((ci + ck : Nat) : Int) + 1) = ((ci + ck : Nat) : Int) + 1 := by rw [IntKind.wrap_i64]; omega
          have hsw : ((ci + ck : Nat) : Int) + 1 = ((ci + (ck + 1) : Nat) : Int) := by omega
          clear hc' hb'
          replace h' := hide h'
          by_cases hxy : x = y
          · have hb1 : ((x : Int) == y) = true := by simp [hxy]
            rw [if_pos hxy] at hq
            replace hq := hide hq
            replace hxy := hide hxy
            replace hsw := hide hsw
            go_wp2
            go_quiet (fail)
            go_wp2
            go_roundg (m - k)
            case measure => omega
            case rel => exact ⟨k + 1, _, by omega, by omega, by rw [hq.out]; exact congrArg (Value.int .i64) (by omega), by go_num, hide (by rw [hwk.out]; exact World.drewN_drewN _ _ _)⟩
          · have hb1 : ((x : Int) == y) = false := by simp [hxy]
            rw [if_neg hxy] at hq
            replace hq := hide hq
            replace hxy := hide hxy
            clear hsw hcw
            go_wp2
            go_quiet (fail)
            go_wp2
            go_roundg (m - k)
            case measure => omega
            case rel => exact ⟨k + 1, _, by omega, by omega, by rw [hq.out, Nat.add_zero], by go_num, hide (by rw [hwk.out]; exact World.drewN_drewN _ _ _)⟩
        · have hkmz : ¬ (k : Int) < (m : Int) := by omega
          obtain rfl : k = m := by omega
          have hyx := hye.out x
          rw [hyx, ← hs.out]
          go_wp2
          go_roundg (n - i)
          case measure => omega
          case rel => exact ⟨i + 1, q2, by omega, by omega, rfl, by go_num, hwk⟩
    · have hltz : ¬ (i : Int) < (n : Int) := by omega
      obtain rfl : i = n := by omega
      have he := hend.out
      rw [← he]
      go_wp2
      go_ret
      exact ⟨rfl, q, hwq.out⟩
set_option maxRecDepth 100000 in
set_option maxHeartbeats 2000000 in
/-- The neighbours before a seat, as a list that can be read. -/
theorem Before_any (hr hc : Int) (hs seat : Nat) (w : World) (h1 : 1 ≤ hs) (hs6 : hs ≤ 1000) (hse : seat ≤ 1000000) :
    Calls Try.prog 67 #[.agg #[.int .i64 hr, .int .i64 (hs : Int), .int .i64 hc], .int .i64 seat] w fun e w' => (∃ v, e = .returned v ∧ LstV (ints (nbF hs seat ++ nbS hs seat)) v w') ∧ Below w.heap.size w w' := by
  obtain ⟨W, hW⟩ : ∃ y, w.alloc (.cells #[.int .i64 hr, .int .i64 (hs : Int), .int .i64 hc] 44) = y := ⟨_, rfl⟩
  have bH := hide (show Blk W w.heap.size 44 #[.int .i64 hr, .int .i64 (hs : Int), .int .i64 hc] by rw [← hW]; exact blkNew rfl)
  have hBW := hide (show Below w.heap.size w W by rw [← hW]; exact (Below.refl _ _).alloc (Nat.le_refl _) _)
  replace hW := hide hW
  have c1 : W.cell? ⟨w.heap.size, 1, none⟩ = some (.int .i64 (hs : Int)) := bH.out.cell 1
  obtain ⟨r, hr'⟩ : ∃ r, seat % hs = r := ⟨_, rfl⟩
  have hm : (seat : Int).tmod (hs : Int) = (r : Int) := by rw [Int.tmod_eq_emod_of_nonneg (by omega), ← hr']; rfl
  have hrb : r < 1000 := by have h5 := Nat.mod_lt seat (show 0 < hs by omega); omega
  have hmw : IntKind.i64.wrap (r : Int) = (r : Int) := by rw [IntKind.wrap_i64]; omega
  have hz : ((hs : Int) == 0) = false := by rw [beq_eq_false_iff_ne]; omega
  have hz2 : (hs : Int) ≠ 0 := by omega
  have hz3 : hs ≠ 0 := by omega
  obtain ⟨T, hT⟩ : ∃ T, ints (nbF hs seat ++ nbS hs seat) = T := ⟨_, rfl⟩
  rw [hT]
  replace hT := hide hT
  by_cases hge : hs ≤ seat
  · have hd : decide ((seat : Int) ≥ (hs : Int)) = true := decide_eq_true (by omega)
    have hd1 : (hs : Int) ≤ (seat : Int) := by omega
    have hsw : IntKind.i64.wrap ((seat : Int) - (hs : Int)) = (seat : Int) - (hs : Int) := by rw [IntKind.wrap_i64]; omega
    have hF := hide (show nbF hs seat = [seat - hs] from if_pos hge)
    obtain ⟨v1, w3, hrun, hrow, hk3⟩ := app_one (W := W) (n := w.heap.size + 1) (xs := []) (rowAt_nil W _ _ _) bH.out.lt (by simp) ((seat : Int) - (hs : Int))
    rw [List.nil_append] at hrow
    have hB3 := hide (hBW.out.trans ((KeptX.below (hk3.mono fun g (hg : g < W.heap.size) => ⟨hg, fun e => by simp [Value.ownBlock] at e⟩)).mono hBW.out.size))
    have bH3 := hide (KeptX.blk hk3 ⟨bH.out.lt, fun e => by simp [Value.ownBlock] at e⟩ bH.out)
    have hn3 := hide (show w.heap.size + 1 ≤ w3.heap.size from Nat.le_trans bH.out.lt hk3.size)
    replace hrun := hide hrun
    obtain ⟨A1, n1, c1', rfl⟩ := hrow.shape
    replace hrow := hide hrow
    clear hk3
    have c3 : w3.cell? ⟨w.heap.size, 1, none⟩ = some (.int .i64 (hs : Int)) := bH3.out.cell 1
    by_cases hr0 : 0 < r
    · have hq : decide ((r : Int) > 0) = true := decide_eq_true (by omega)
      have hq1 : (0 : Int) < (r : Int) := by omega
      have hsp : 0 < seat := by
        rcases Nat.eq_zero_or_pos seat with h0 | h0
        · subst h0; simp at hr'; omega
        · exact h0
      have hpw : IntKind.i64.wrap ((seat : Int) - 1) = (seat : Int) - 1 := by rw [IntKind.wrap_i64]; omega
      have hS := hide (show nbS hs seat = [seat - 1] from if_pos (by omega))
      obtain ⟨v2, w4, hrun2, hrow2, hk4⟩ := app_one (W := w3) (n := w.heap.size + 1) (xs := [(seat : Int) - (hs : Int)]) hrow.out hn3.out (by simp) ((seat : Int) - 1)
      have hB4 := hide (hB3.out.trans (KeptX.below (hk4.mono fun g (hg : g < w.heap.size) => ⟨by have := hn3.out; omega, fun e => hrow.out.not g e (by show g < w.heap.size + 1; omega)⟩)))
      replace hrun2 := hide hrun2
      clear hk4
      go_enter Try.func67, Try.ntmps67
      go_upto_region 2 with fail
      rw [hW.out]
      go_wp2_with (at_builtin; first | (refine wpList_append_run rfl _ _ 23 rfl _ _ _ rfl rfl hrun2.out ?_) | (refine wpList_append_run rfl _ _ 23 rfl _ _ _ rfl rfl hrun.out ?_))
      try go_wp2
      go_ret
      refine ⟨⟨_, rfl, ?_⟩, hB4.out⟩
      rw [← hT.out, hF.out, hS.out]
      obtain ⟨A, c, e, h2, h3, h4, -⟩ := hrow2.ints
      have e9 : ints ([seat - hs] ++ [seat - 1]) = [(seat : Int) - (hs : Int)] ++ [(seat : Int) - 1] := by unfold ints; simp; omega
      rw [e9]
      exact ⟨A, c, e, h2, h3, h4⟩
    · have hq : decide ((r : Int) > 0) = false := decide_eq_false (by omega)
      have hq1 : ¬ (0 : Int) < (r : Int) := by omega
      have hS := hide (show nbS hs seat = [] from if_neg (by omega))
      clear hr'
      go_enter Try.func67, Try.ntmps67
      go_upto_region 2 with fail
      rw [hW.out]
      go_wp2_with (at_builtin; refine wpList_append_run rfl _ _ 23 rfl _ _ _ rfl rfl hrun.out ?_)
      try go_wp2
      go_ret
      refine ⟨⟨_, rfl, ?_⟩, hB3.out⟩
      rw [← hT.out, hF.out, hS.out]
      obtain ⟨A, c, e, h2, h3, h4, -⟩ := (hrow.out).ints (xs := [(seat : Int) - (hs : Int)])
      have e9 : ints ([seat - hs] ++ []) = [(seat : Int) - (hs : Int)] := by unfold ints; simp; omega
      rw [e9]
      exact ⟨A, c, e, h2, h3, h4⟩
  · have hd : decide ((seat : Int) ≥ (hs : Int)) = false := decide_eq_false (by omega)
    have hd1 : ¬ (hs : Int) ≤ (seat : Int) := by omega
    have hF := hide (show nbF hs seat = [] from if_neg hge)
    have hrow := hide (rowAt_nil W (fun g => g < w.heap.size + 1) 3 1)
    have hB3 := hBW
    have hn3 := hide (show w.heap.size + 1 ≤ W.heap.size from bH.out.lt)
    by_cases hr0 : 0 < r
    · have hq : decide ((r : Int) > 0) = true := decide_eq_true (by omega)
      have hq1 : (0 : Int) < (r : Int) := by omega
      have hsp : 0 < seat := by
        rcases Nat.eq_zero_or_pos seat with h0 | h0
        · subst h0; simp at hr'; omega
        · exact h0
      have hpw : IntKind.i64.wrap ((seat : Int) - 1) = (seat : Int) - 1 := by rw [IntKind.wrap_i64]; omega
      have hS := hide (show nbS hs seat = [seat - 1] from if_pos (by omega))
      obtain ⟨v2, w4, hrun2, hrow2, hk4⟩ := app_one (W := W) (n := w.heap.size + 1) (xs := ([] : List Int)) hrow.out hn3.out (by simp) ((seat : Int) - 1)
      have hB4 := hide (hB3.out.trans (KeptX.below (hk4.mono fun g (hg : g < w.heap.size) => ⟨by have := hn3.out; omega, fun e => hrow.out.not g e (by show g < w.heap.size + 1; omega)⟩)))
      replace hrun2 := hide hrun2
      clear hk4
      go_enter Try.func67, Try.ntmps67
      go_upto_region 2 with fail
      rw [hW.out]
      go_wp2_with (at_builtin; refine wpList_append_run rfl _ _ 23 rfl _ _ _ rfl rfl hrun2.out ?_)
      try go_wp2
      go_ret
      refine ⟨⟨_, rfl, ?_⟩, hB4.out⟩
      rw [← hT.out, hF.out, hS.out]
      obtain ⟨A, c, e, h2, h3, h4, -⟩ := hrow2.ints
      have e9 : ints ([] ++ [seat - 1]) = ([] : List Int) ++ [(seat : Int) - 1] := by unfold ints; simp; omega
      rw [e9]
      exact ⟨A, c, e, h2, h3, h4⟩
    · have hq : decide ((r : Int) > 0) = false := decide_eq_false (by omega)
      have hq1 : ¬ (0 : Int) < (r : Int) := by omega
      have hS := hide (show nbS hs seat = [] from if_neg (by omega))
      clear hr'
      go_enter Try.func67, Try.ntmps67
      go_upto_region 2 with fail
      rw [hW.out]
      go_wp2
      go_ret
      refine ⟨⟨_, rfl, ?_⟩, hB3.out⟩
      rw [← hT.out, hF.out, hS.out]
      obtain ⟨A, c, e, h2, h3, h4, -⟩ := (hrow.out).ints (xs := ([] : List Int))
      have e9 : ints ([] ++ []) = ([] : List Int) := by unfold ints; simp
      rw [e9]
      exact ⟨A, c, e, h2, h3, h4⟩
end Go.Proofs.Ytnmgnonbgihalaa

/-
  The reference's Apart and hall (made by gen_refe.py).
-/
namespace Go.Proofs.Ytnmgnonbgihalaa
open Go.RowKit RG

theorem nb_lt {hs seat y : Nat} (h1 : 1 ≤ hs) (h : y ∈ nbF hs seat ++ nbS hs seat) : y < seat := by
  unfold nbF nbS at h
  rcases List.mem_append.1 h with h | h
  · split at h
    · rename_i hge
      rw [List.mem_singleton] at h
      omega
    · cases h
  · split at h
    · rename_i hp
      rw [List.mem_singleton] at h
      have : seat ≠ 0 := fun e => by subst e; simp at hp
      omega
    · cases h
set_option maxRecDepth 100000 in
set_option maxHeartbeats 2000000 in
theorem Apart_any (hr hc : Int) (hs seat : Nat) (A Ap : Option Addr) (n c lp cp : Nat) (ps : List (List Int)) (xs : List Int) (w : World) (h1 : 1 ≤ hs) (hs6 : hs ≤ 1000) (hse : seat ≤ 1000000) (hn : seat ≤ n) (hP : RdPaps w A n ps) (hX : RdInts w Ap lp xs) (hlp : lp ≤ 1000) (hnd : xs.Nodup) (hpl : ∀ j, j < seat → (ps[j]?.getD []).length ≤ 1000) :
    Calls Try.prog 40 #[.agg #[.int .i64 hr, .int .i64 (hs : Int), .int .i64 hc], .slice A n c, .int .i64 seat, .slice Ap lp cp] w fun e w' => e = .returned (.bool (!alikeP hs hc ps seat xs)) ∧ Below w.heap.size w w' := by
  obtain ⟨f, hf⟩ : ∃ f : Nat → Bool, (fun j => decide (hc < (commonP (ps[j]?.getD []) xs : Nat))) = f := ⟨_, rfl⟩
  obtain ⟨T, hT⟩ : ∃ T, nbF hs seat ++ nbS hs seat = T := ⟨_, rfl⟩
  have hal : alikeP hs hc ps seat xs = T.any f := by rw [← hf, ← hT]; rfl
  rw [hal]
  have hTl := hide (show ∀ y ∈ T, y < seat from fun y hy => nb_lt h1 (by rw [hT]; exact hy))
  have hCm := hide (fun (W : World) (hb : Below w.heap.size w W) (j : Nat) (hj : j < seat) => show ∃ b off Aj lj cj, A = some ⟨b, off, none⟩ ∧ W.cell? ⟨b, off + j, none⟩ = some (.slice Aj lj cj) ∧ ∃ m : Nat, f j = decide (hc < (m : Int)) ∧ ∀ q, Calls Try.prog 68 #[.slice Aj lj cj, .slice Ap lp cp] (W.drewN q) fun e w' => e = .returned (.int .i64 (m : Int)) ∧ ∃ m2, w' = W.drewN m2 from by
    obtain ⟨b, off, e, _, hcl⟩ := (hP.below hb).2 (by omega)
    obtain ⟨Aj, cj, h2, h3, h4⟩ := hcl j (by omega)
    refine ⟨b, off, Aj, _, cj, e, h2, commonP (ps[j]?.getD []) xs, (congrFun hf j).symm, fun q => (Common_any Aj Ap _ lp cj cp _ xs (W.drewN q) (h3.drewN q) ((hX.below hb).drewN q) (hpl j hj) hlp).mono ?_⟩
    rintro e w' ⟨rfl, q2, rfl⟩
    exact ⟨by rw [comR_nodup hnd], _, World.drewN_drewN _ _ _⟩)
  have hBf := hide (fun W => Before_any hr hc hs seat W h1 hs6 hse)
  rw [hT] at hBf
  obtain ⟨R, hR⟩ : ∃ R, (!T.any f) = R := ⟨_, rfl⟩
  rw [hR]
  replace hR := hide hR
  obtain ⟨n2, hn2⟩ : ∃ n2, T.length = n2 := ⟨_, rfl⟩
  have hn3 : n2 ≤ 2 := by
    rw [← hn2, ← hT]
    unfold nbF nbS
    split <;> split <;> simp
  clear hP hX hf hal hT hnd hpl
  obtain ⟨W, hW⟩ : ∃ y, w.alloc (.cells #[.int .i64 hr, .int .i64 (hs : Int), .int .i64 hc] 44) = y := ⟨_, rfl⟩
  have bH := hide (show Blk W w.heap.size 44 #[.int .i64 hr, .int .i64 (hs : Int), .int .i64 hc] by rw [← hW]; exact blkNew rfl)
  have hBW := hide (show Below w.heap.size w W by rw [← hW]; exact (Below.refl _ _).alloc (Nat.le_refl _) _)
  replace hW := hide hW
  have d0 : W.cell? ⟨w.heap.size, 0, none⟩ = some (.int .i64 hr) := bH.out.cell 0
  have d1 : W.cell? ⟨w.heap.size, 1, none⟩ = some (.int .i64 (hs : Int)) := bH.out.cell 1
  have d2 : W.cell? ⟨w.heap.size, 2, none⟩ = some (.int .i64 hc) := bH.out.cell 2
  go_enter Try.func40, Try.ntmps40
  go_upto_region 1 with fail
  rw [hW.out]
  go_wp2_with fail
  refine (hBf.out W).mono ?_
  clear d0 d1 d2 hBf
  rintro e w2 ⟨⟨v, rfl, A2, c2, rfl, hrd, -, -⟩, hb⟩
  have hil : (ints T).length = n2 := by unfold ints; rw [List.length_map, hn2]
  rw [hil] at hrd ⊢
  have hB2 := hide (hBW.out.trans (hb.mono hBW.out.size))
  have bH2 := hide (bH.out.below hb bH.out.lt)
  have hrd' := hide hrd
  have hTat := hide (fun i (hi : i < n2) => show ∃ y, y ∈ T ∧ T[i]? = some y ∧ (ints T)[i]?.getD 0 = (y : Int) from by
    refine ⟨T[i], List.getElem_mem (by omega), List.getElem?_eq_getElem (by omega), ?_⟩
    unfold ints
    rw [List.getElem?_map, List.getElem?_eq_getElem (by omega)]
    rfl)
  replace hn2 := hide hn2
  clear hb hrd bH hil
  go_wp2
  go_loopg [10] (n2 + 1) (fun g s10 wr => ∃ i q : Nat, i ≤ n2 ∧ n2 < g + i ∧ s10 = .int .i64 i ∧ Hid (wr = w2.drewN q) ∧ Hid (∀ j, j < i → ∀ y, T[j]? = some y → f y = false))
  case atStart => exact ⟨0, 0, by omega, by omega, rfl, hide rfl, hide (fun j hj => absurd hj (by omega))⟩
  case round =>
    obtain ⟨i, q, hi, hg, rfl, hwq, hno⟩ := hrel
    have hBr := hide (show Below w.heap.size w wr by rw [hwq.out]; exact below_drewN hB2.out _)
    by_cases hlt : i < n2
    · have hltz : (i : Int) < (n2 : Int) := by omega
      have hi0 : (0 : Int) ≤ (i : Int) := by omega
      obtain ⟨y, hyT, hyi, hyv⟩ := hTat.out i hlt
      have hys := hTl.out y hyT
      obtain ⟨b2, off2, rfl, -, hc2⟩ := hrd'.out.2 (by omega)
      have x1 : wr.cell? ⟨b2, off2 + i, none⟩ = some (.int .i64 (y : Int)) := by rw [hwq.out, ← hyv]; exact hc2 i hlt
      obtain ⟨b, off, Aj, lj, cj, rfl, cx, m, hfm, hcall⟩ := hCm.out wr hBr.out y hys
      have hyn : (y : Int) < (n : Int) := by omega
      have hy0 : (0 : Int) ≤ (y : Int) := by omega
      have e2 : wr.cell? ⟨w.heap.size, 2, none⟩ = some (.int .i64 hc) := by rw [hwq.out]; exact bH2.out.cell 2
      have hiw : IntKind.i64.wrap ((i : Int) + 1) = (i : Int) + 1 := by rw [IntKind.wrap_i64]; omega
      replace hcall := hide hcall
      clear hc2 hyv hCm
      cases hq : f y with
      | true =>
        rw [hq] at hfm
        have h5 : decide ((m : Int) > hc) = true := by have := of_decide_eq_true hfm.symm; exact decide_eq_true (by omega)
        have h6 : decide (hc < (m : Int)) = true := hfm.symm
        have h7 : hc < (m : Int) := of_decide_eq_true hfm.symm
        have hany : T.any f = true := List.any_eq_true.2 ⟨y, hyT, hq⟩
        obtain rfl : R = false := by rw [← hR.out, hany]; rfl
        replace hfm := hide hfm
        replace hq := hide hq
        replace hany := hide hany
        replace hyT := hide hyT
        replace hyi := hide hyi
        go_wp2
        go_quiet ((go_at_call 68; exact hcall.out _))
        go_wp2
        go_ret
        exact ⟨rfl, below_drewN hBr.out _⟩
      | false =>
        rw [hq] at hfm
        have h5 : decide ((m : Int) > hc) = false := by have := of_decide_eq_false hfm.symm; exact decide_eq_false (by omega)
        have h6 : decide (hc < (m : Int)) = false := hfm.symm
        have h7 : ¬ hc < (m : Int) := of_decide_eq_false hfm.symm
        have hno2 := hide (show ∀ j, j < i + 1 → ∀ y, T[j]? = some y → f y = false from fun j hj y' hy' => by
          rcases Nat.lt_succ_iff_lt_or_eq.1 hj with h | rfl
          · exact hno.out j h y' hy'
          · rw [hyi] at hy'; cases hy'; exact hq)
        replace hfm := hide hfm
        replace hq := hide hq
        replace hyT := hide hyT
        replace hyi := hide hyi
        clear hno
        go_wp2
        go_quiet ((go_at_call 68; exact hcall.out _))
        go_wp2
        go_roundg (n2 - i)
        case measure => omega
        case rel => exact ⟨i + 1, _, by omega, by omega, by go_num, hide (by rw [hwq.out]; exact World.drewN_drewN _ _ _), hno2⟩
    · have hltz : ¬ (i : Int) < (n2 : Int) := by omega
      obtain rfl : i = n2 := by omega
      have hany : T.any f = false := by
        rw [List.any_eq_false]
        intro y hy
        obtain ⟨j, hj, e⟩ := List.mem_iff_getElem.1 hy
        rw [hno.out j (by have := hn2.out; omega) y (by rw [List.getElem?_eq_getElem hj, e])]
        exact Bool.false_ne_true
      obtain rfl : R = true := by rw [← hR.out, hany]; rfl
      replace hany := hide hany
      go_wp2
      go_ret
      exact ⟨rfl, hBr.out⟩
set_option maxRecDepth 100000 in
set_option maxHeartbeats 4000000 in
theorem hall_any (Q Wd : Option Addr) (cq cw : Nat) (B : Bank) (hr hs hc : Int) (n : Nat) (w : World) (h : BkR w Q Wd B) :
    Calls Try.prog 62 #[bkV Q Wd cq cw B, .agg #[.int .i64 hr, .int .i64 hs, .int .i64 hc], .int .i64 n] w fun e w' => e = .returned (.int .i64 (enterE B hr hs hc n)) ∧ Below w.heap.size w w' := by
  have hCk := hide (fun W (hb : Below w.heap.size w W) => CheckR_any Q Wd cq cw B W (h.below hb))
  have hIn := hide in_any
  obtain ⟨E, hE⟩ : ∃ E, enterE B hr hs hc n = E := ⟨_, rfl⟩
  rw [hE]
  unfold enterE errP hallB at hE
  obtain ⟨x, y, z, hxyz⟩ : ∃ x y z, checkP B = (x, y, z) := ⟨_, _, _, rfl⟩
  rw [hxyz] at hCk hE
  dsimp only at hCk hE
  have hI1 := hide (fun W => hIn.out hr 1 5 W)
  have hI2 := hide (fun W => hIn.out hs 1 6 W)
  have hI3 := hide (fun W => hIn.out hc 0 16 W)
  have hib1 := hide (show inB 1 5 hr = true → 1 ≤ hr ∧ hr ≤ 5 from inB_iff.1)
  have hib2 := hide (show inB 1 6 hs = true → 1 ≤ hs ∧ hs ≤ 6 from inB_iff.1)
  generalize inB 1 5 hr = i1 at *
  generalize inB 1 6 hs = i2 at *
  generalize inB 0 16 hc = i3 at *
  replace hE := hide hE
  clear hxyz hIn
  unfold bkV at *
  obtain ⟨W, hW⟩ : ∃ y, (w.alloc (.cells #[.slice Q B.qs.length cq, .slice Wd B.wanted.length cw, .int .i64 B.lo, .int .i64 B.hi] 27)).alloc (.cells #[.int .i64 hr, .int .i64 hs, .int .i64 hc] 44) = y := ⟨_, rfl⟩
  have bW := hide (show Blk W w.heap.size 27 #[.slice Q B.qs.length cq, .slice Wd B.wanted.length cw, .int .i64 B.lo, .int .i64 B.hi] by rw [← hW]; exact (blkNew rfl).alloc _)
  have bH := hide (show Blk W (w.heap.size + 1) 44 #[.int .i64 hr, .int .i64 hs, .int .i64 hc] by rw [← hW]; exact blkNew (by simp))
  have hBW := hide (show Below w.heap.size w W by rw [← hW]; exact ((Below.refl _ _).alloc (Nat.le_refl _) _).alloc (by simp <;> omega) _)
  replace hW := hide hW
  have bo := bW.out
  have b0 : W.cell? ⟨w.heap.size, 0, none⟩ = some (.slice Q B.qs.length cq) := bo.cell 0
  have b1 : W.cell? ⟨w.heap.size, 1, none⟩ = some (.slice Wd B.wanted.length cw) := bo.cell 1
  have b2 : W.cell? ⟨w.heap.size, 2, none⟩ = some (.int .i64 B.lo) := bo.cell 2
  have b3 : W.cell? ⟨w.heap.size, 3, none⟩ = some (.int .i64 B.hi) := bo.cell 3
  clear bo h
  go_enter Try.func62, Try.ntmps62
  go_upto_region 1 with fail
  rw [hW.out]
  go_wp2_with fail
  refine (hCk.out W hBW.out).mono ?_
  clear b0 b1 b2 b3 hCk
  rintro e w2 ⟨rfl, hb⟩
  have hB2 := hide (hBW.out.trans (hb.mono hBW.out.size))
  have bH2 := hide (bH.out.below hb bH.out.lt)
  clear hb bH bW hBW
  have bo := bH2.out
  have d0 : w2.cell? ⟨w.heap.size + 1, 0, none⟩ = some (.int .i64 hr) := bo.cell 0
  have d1 : w2.cell? ⟨w.heap.size + 1, 1, none⟩ = some (.int .i64 hs) := bo.cell 1
  have d2 : w2.cell? ⟨w.heap.size + 1, 2, none⟩ = some (.int .i64 hc) := bo.cell 2
  clear bo
  by_cases hz : z = 0
  · subst hz
    go_wp2_with fail
    refine (hI1.out w2).mono ?_
    rintro e w3 ⟨rfl, rfl⟩
    cases i1 with
    | false =>
      have hE' := hE.out
      rw [if_neg (by simp), if_pos (by simp)] at hE'
      subst hE'
      go_wp2
      go_ret
      exact ⟨rfl, hB2.out⟩
    | true =>
      have hr5 := hide (hib1.out rfl)
      go_wp2_with fail
      refine (hI2.out w3).mono ?_
      rintro e w4 ⟨rfl, rfl⟩
      cases i2 with
      | false =>
        have hE' := hE.out
        rw [if_neg (by simp), if_pos (by simp)] at hE'
        subst hE'
        go_wp2
        go_ret
        exact ⟨rfl, hB2.out⟩
      | true =>
        have hs6 := hide (hib2.out rfl)
        go_wp2_with fail
        refine (hI3.out w4).mono ?_
        rintro e w5 ⟨rfl, rfl⟩
        cases i3 with
        | false =>
          have hE' := hE.out
          rw [if_neg (by simp), if_pos (by simp)] at hE'
          subst hE'
          go_wp2
          go_ret
          exact ⟨rfl, hB2.out⟩
        | true =>
          have hE' := hE.out
          rw [if_neg (by simp), if_neg (by decide)] at hE'
          obtain ⟨p, hp⟩ : ∃ p, hr * hs = p := ⟨_, rfl⟩
          have hp30 := hall_n ⟨hr5.out, hs6.out⟩ hp.symm
          have hpw : IntKind.i64.wrap p = p := by rw [IntKind.wrap_i64]; omega
          rw [hp] at hE'
          by_cases hnp : (n : Int) = p
          · have hb1 : ((n : Int) != p) = false := by rw [hnp]; simp
            rw [if_neg (by simp [hnp])] at hE'
            subst hE'
            replace hnp := hide hnp
            go_wp2
            go_ret
            exact ⟨rfl, hB2.out⟩
          · have hb1 : ((n : Int) != p) = true := by rw [bne_iff_ne]; exact hnp
            rw [if_pos hnp] at hE'
            subst hE'
            replace hnp := hide hnp
            go_wp2
            go_ret
            exact ⟨rfl, hB2.out⟩
  · have hb1 : (z == 0) = false := by rw [beq_eq_false_iff_ne]; exact hz
    have hE' := hE.out
    rw [if_pos hz] at hE'
    subst hE'
    replace hz := hide hz
    clear d0 d1 d2
    go_wp2
    go_ret
    exact ⟨rfl, hB2.out⟩
end Go.Proofs.Ytnmgnonbgihalaa

/-
  Papers by their definition: ascending questions, as many of each part as wanted, a level in the range. Of no program.
-/
namespace Go.Proofs.Ytnmgnonbgihalaa

/-- How many of some questions are of a part; their level. -/
def cntX (B : Bank) (p : Nat) (xs : List Int) : Nat := xs.countP fun x => partAt B x.toNat == p
def levX (B : Bank) (xs : List Int) : Int := (xs.map fun x => wAt B x.toNat).sum
theorem cntX_ints (B : Bank) (p : Nat) (q : List Nat) : cntX B p (ints q) = cnt B p q := by
  unfold cntX cnt ints
  rw [List.countP_map]
  rfl
theorem levX_ints (B : Bank) (q : List Nat) : levX B (ints q) = lev B q := by
  unfold levX lev ints
  rw [List.map_map]
  rfl
structure IsX (B : Bank) (xs : List Int) : Prop where
  rng : ∀ x ∈ xs, 0 ≤ x ∧ x < B.qs.length
  asc : xs.Pairwise (· < ·)
  cnt : ∀ p, p < B.wanted.length → (cntX B p xs : Int) = B.wanted[p]?.getD 0
  lev : inLev B (levX B xs) = true
theorem partAt_lt {B : Bank} (hB : BankOk B) {x : Nat} (hx : x < B.qs.length) : partAt B x < B.wanted.length := by
  unfold partAt
  rw [List.getElem?_eq_getElem hx, Option.getD_some]
  have := (hB.qs _ (List.getElem_mem hx)).1
  omega
theorem start4_at {B : Bank} (_ : BankOk B) (p : Nat) : (start4 B)[p]?.getD 0 = if p < B.wanted.length then B.wanted[p]?.getD 0 else 0 := by
  unfold start4
  by_cases h : p < B.wanted.length
  · rw [if_pos h, List.getElem?_append_left h]
  · rw [if_neg h, List.getElem?_append_right (by omega), List.getElem?_replicate]
    split <;> rfl
theorem isX_iff {B : Bank} (hB : BankOk B) (xs : List Int) : isP B xs = true ↔ IsX B xs := by
  have hb : ∀ q, q ∈ papers B ↔ Becomes B 0 B.qs.length (start4 B) 0 q := fun q => mem_papersB (part4 hB) (part0 hB) B.qs.length 0 (start4 B) 0 q (Nat.zero_add _) (start4_len hB.nw.2)
  rw [isP_mem hB]
  constructor
  · rintro ⟨q, rfl, hq⟩
    have h := (hb q).1 hq
    refine ⟨fun x hx => ?_, ?_, fun p hp => ?_, ?_⟩
    · obtain ⟨y, hy, rfl⟩ := List.mem_map.1 hx
      have := h.rng y hy
      exact ⟨by omega, by omega⟩
    · unfold ints
      rw [List.pairwise_map]
      exact h.asc.imp fun {a b} hab => by omega
    · have := h.cnt p (by have := hB.nw; omega)
      rw [cntX_ints, this, start4_at hB, if_pos hp]
    · rw [levX_ints]
      have := h.lev
      rwa [Int.zero_add] at this
  · intro h
    have hq : xs = ints (xs.map Int.toNat) := by
      unfold ints
      rw [List.map_map]
      refine ((List.map_congr_left fun x hx => ?_).trans (List.map_id xs)).symm
      have := h.rng x hx
      show ((x.toNat : Nat) : Int) = x
      omega
    refine ⟨xs.map Int.toNat, hq, (hb _).2 ⟨?_, fun x hx => ?_, fun p hp => ?_, ?_⟩⟩
    · rw [List.pairwise_map]
      refine List.Pairwise.imp_of_mem (fun {a b} ha hb' hab => ?_) h.asc
      have h1 := h.rng a ha
      have h2 := h.rng b hb'
      omega
    · obtain ⟨y, hy, rfl⟩ := List.mem_map.1 hx
      have := h.rng y hy
      omega
    · rw [← cntX_ints, ← hq, start4_at hB]
      by_cases hpw : p < B.wanted.length
      · rw [if_pos hpw]; exact h.cnt p hpw
      · rw [if_neg hpw]
        have : cntX B p xs = 0 := by
          unfold cntX
          rw [List.countP_eq_zero]
          intro x hx
          have h1 := h.rng x hx
          have h2 := partAt_lt hB (x := x.toNat) (by omega)
          simp
          omega
        omega
    · rw [Int.zero_add, ← levX_ints, ← hq]
      exact h.lev
theorem pw_step {xs : List Int} {i : Nat} (h : (xs.take i).Pairwise (· < ·)) (hi : i < xs.length) (hl : i = 0 ∨ xs[i - 1]?.getD 0 < xs[i]?.getD 0) : (xs.take (i + 1)).Pairwise (· < ·) := by
  rw [List.take_succ_eq_append_getElem hi, List.pairwise_append]
  refine ⟨h, List.pairwise_singleton _ _, fun a ha b hb => ?_⟩
  rw [List.mem_singleton] at hb
  subst hb
  rcases hl with rfl | hl
  · simp at ha
  · rw [List.getElem?_eq_getElem (by omega), List.getElem?_eq_getElem hi, Option.getD_some, Option.getD_some] at hl
    obtain ⟨j, hj, rfl⟩ := List.mem_iff_getElem.1 ha
    rw [List.length_take] at hj
    rw [List.getElem_take]
    by_cases e : j = i - 1
    · subst e; exact hl
    · have := List.pairwise_iff_getElem.1 h j (i - 1) (by rw [List.length_take]; omega) (by rw [List.length_take]; omega) (by omega)
      rw [List.getElem_take, List.getElem_take] at this
      omega
theorem pw_not {xs : List Int} {i : Nat} (h : xs.Pairwise (· < ·)) (hi : i < xs.length) (h0 : 0 < i) : xs[i - 1]?.getD 0 < xs[i]?.getD 0 := by
  rw [List.getElem?_eq_getElem (by omega), List.getElem?_eq_getElem hi, Option.getD_some, Option.getD_some]
  exact List.pairwise_iff_getElem.1 h (i - 1) i (by omega) hi (by omega)
theorem asc_len {xs : List Int} {n : Nat} (h : xs.Pairwise (· < ·)) (hb : ∀ x ∈ xs, 0 ≤ x ∧ x < (n : Int)) : xs.length ≤ n := by
  have h1 : (xs.map Int.toNat).Pairwise (· < ·) := by
    rw [List.pairwise_map]
    refine List.Pairwise.imp_of_mem (fun {a b} ha hb' hab => ?_) h
    have h1 := hb a ha
    have h2 := hb b hb'
    omega
  have := (asc_sub n 0 (xs.map Int.toNat) h1 (fun x hx => by
    obtain ⟨y, hy, rfl⟩ := List.mem_map.1 hx
    have := hb y hy
    omega)).length_le
  simpa using this
theorem cntX_step {B : Bank} {xs : List Int} {i : Nat} (hi : i < xs.length) (p : Nat) : cntX B p (xs.take (i + 1)) = cntX B p (xs.take i) + if partAt B (xs[i]?.getD 0).toNat = p then 1 else 0 := by
  unfold cntX
  rw [List.take_succ_eq_append_getElem hi, List.countP_append, List.countP_singleton, List.getElem?_eq_getElem hi, Option.getD_some]
  simp
theorem cntX_le (B : Bank) (p : Nat) (xs : List Int) : cntX B p xs ≤ xs.length := List.countP_le_length
def cntXL (B : Bank) (xs : List Int) : List Int := (List.range B.wanted.length).map fun p => (cntX B p xs : Int)
theorem cntXL_len (B : Bank) (xs : List Int) : (cntXL B xs).length = B.wanted.length := by unfold cntXL; rw [List.length_map, List.length_range]
theorem cntXL_at (B : Bank) (xs : List Int) (p : Nat) (h : p < B.wanted.length) : (cntXL B xs)[p]?.getD 0 = cntX B p xs := by
  unfold cntXL
  rw [List.getElem?_map, List.getElem?_range h]
  rfl
theorem cntXL_zero (B : Bank) : List.replicate B.wanted.length (0 : Int) = cntXL B [] := by
  apply List.ext_getElem
  · rw [List.length_replicate, cntXL_len]
  · intro j h1 h2
    simp [cntXL, cntX]
theorem cntXL_step {B : Bank} {xs : List Int} {i p : Nat} (hi : i < xs.length) (hp : partAt B (xs[i]?.getD 0).toNat = p) : (cntXL B (xs.take i)).set p ((cntX B p (xs.take i) : Int) + 1) = cntXL B (xs.take (i + 1)) := by
  apply List.ext_getElem
  · rw [List.length_set, cntXL_len, cntXL_len]
  · intro j h1 h2
    rw [cntXL_len] at h2
    rw [List.getElem_set]
    simp only [cntXL, List.getElem_map, List.getElem_range]
    rw [cntX_step hi j, hp]
    by_cases e : p = j
    · subst e; simp
    · rw [if_neg e, if_neg e]; simp
theorem levX_step {B : Bank} {xs : List Int} {i : Nat} (hi : i < xs.length) : levX B (xs.take (i + 1)) = levX B (xs.take i) + wAt B (xs[i]?.getD 0).toNat := by
  unfold levX
  rw [List.take_succ_eq_append_getElem hi, List.map_append, List.sum_append, List.getElem?_eq_getElem hi, Option.getD_some]
  simp
theorem levX_bd {B : Bank} (hB : BankOk B) : ∀ (xs : List Int), 0 ≤ levX B xs ∧ levX B xs ≤ 1000 * xs.length
  | [] => by simp [levX]
  | x :: xs => by
    have h1 := wAt_bd hB x.toNat
    have h2 := levX_bd hB xs
    have : levX B (x :: xs) = wAt B x.toNat + levX B xs := by simp [levX]
    rw [this, List.length_cons]
    omega
end Go.Proofs.Ytnmgnonbgihalaa
