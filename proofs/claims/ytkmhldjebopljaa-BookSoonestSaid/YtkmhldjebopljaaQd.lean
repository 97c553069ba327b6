import Derived.Test.YtkmhldjebopljaaPb
import Derived.Test.YtkmhldjebopljaaQb
/-
  The reference's Fits, Apart and Drives.
-/
namespace Go.Proofs.Ytkmhldjebopljaa
open Go.RowKit RG

set_option maxRecDepth 100000 in
set_option maxHeartbeats 1000000 in
theorem FitsR_any (L C T : Option Addr) (cl cc ct : Nat) (S : BSch) (start hours : Int) (w : World) (hs : 0 ≤ start ∧ start ≤ 24000) (hh : 0 ≤ hours ∧ hours ≤ 1000) :
    Calls Try.prog 35 #[.agg (schCells L C T cl cc ct S), .int .i64 start, .int .i64 hours] w fun e w' => e = .returned (.bool (decide (S.lo ≤ start % 24) && decide (start % 24 + hours ≤ S.hi))) ∧ Below w.heap.size w w' := by
  obtain ⟨W, hW⟩ : ∃ y, w.alloc (.cells (schCells L C T cl cc ct S) 28) = y := ⟨_, rfl⟩
  have kb := hide (show Blk W w.heap.size 28 (schCells L C T cl cc ct S) by rw [← hW]; exact blkNew rfl)
  have hB := hide (show Below w.heap.size w W by rw [← hW]; exact (Below.refl _ _).alloc (Nat.le_refl _) _)
  have c4 : W.cell? ⟨w.heap.size, 4, none⟩ = some (.int .i64 S.lo) := kb.out.cell 4
  have c5 : W.cell? ⟨w.heap.size, 5, none⟩ = some (.int .i64 S.hi) := kb.out.cell 5
  unfold schCells at *
  replace hW := hide hW
  have hm : start.tmod 24 = start % 24 := Int.tmod_eq_emod_of_nonneg hs.1
  obtain ⟨m, hmm⟩ : ∃ m, start % 24 = m := ⟨_, rfl⟩
  rw [hmm] at hm ⊢
  have hm2 : 0 ≤ m ∧ m < 24 := by omega
  have u1 : IntKind.i64.wrap m = m := by rw [IntKind.wrap_i64]; omega
  have u2 : IntKind.i64.wrap (m + hours) = m + hours := by rw [IntKind.wrap_i64]; omega
  clear hmm
  generalize S.lo = lo at *
  generalize S.hi = hi at *
  by_cases h1 : lo ≤ m
  · have d1 : decide (lo ≤ m) = true := decide_eq_true h1
    rw [d1, Bool.true_and]
    go_enter Try.func35, Try.ntmps35
    go_upto_region 1 with fail
    rw [hW.out]
    go_wp2
    go_ret
    exact ⟨rfl, hB.out⟩
  · have d1 : decide (lo ≤ m) = false := decide_eq_false h1
    rw [d1, Bool.false_and]
    go_enter Try.func35, Try.ntmps35
    go_upto_region 1 with fail
    rw [hW.out]
    go_wp2
    go_ret
    exact ⟨rfl, hB.out⟩
set_option maxRecDepth 100000 in
set_option maxHeartbeats 1000000 in
theorem ApartR_any (a b : Les) (w : World) (ha : (0 ≤ a.start ∧ a.start ≤ 24000) ∧ 0 ≤ a.hours ∧ a.hours ≤ 1000) (hb : (0 ≤ b.start ∧ b.start ≤ 24000) ∧ 0 ≤ b.hours ∧ b.hours ≤ 1000) :
    Calls Try.prog 36 #[.agg (lesCells a).toArray, .agg (lesCells b).toArray] w fun e w' => e = .returned (.bool (decide (a.start + a.hours ≤ b.start) || decide (b.start + b.hours ≤ a.start))) ∧ Below w.heap.size w w' := by
  obtain ⟨W, hW⟩ : ∃ y, (w.alloc (.cells (lesCells a).toArray 63)).alloc (.cells (lesCells b).toArray 63) = y := ⟨_, rfl⟩
  have ka := hide (show Blk W w.heap.size 63 (lesCells a).toArray by rw [← hW]; exact (blkNew rfl).alloc _)
  have kb := hide (show Blk W (w.heap.size + 1) 63 (lesCells b).toArray by rw [← hW]; exact blkNew (by simp))
  have hB := hide (show Below w.heap.size w W by rw [← hW]; exact ((Below.refl _ _).alloc (Nat.le_refl _) _).alloc (by simp) _)
  have a2 : W.cell? ⟨w.heap.size, 2, none⟩ = some (.int .i64 a.start) := ka.out.cell 2
  have a3 : W.cell? ⟨w.heap.size, 3, none⟩ = some (.int .i64 a.hours) := ka.out.cell 3
  have b2 : W.cell? ⟨w.heap.size + 1, 2, none⟩ = some (.int .i64 b.start) := kb.out.cell 2
  have b3 : W.cell? ⟨w.heap.size + 1, 3, none⟩ = some (.int .i64 b.hours) := kb.out.cell 3
  have u1 : IntKind.i64.wrap (a.start + a.hours) = a.start + a.hours := by rw [IntKind.wrap_i64]; omega
  have u2 : IntKind.i64.wrap (b.start + b.hours) = b.start + b.hours := by rw [IntKind.wrap_i64]; omega
  unfold lesCells at *
  replace hW := hide hW
  replace ha := hide ha
  replace hb := hide hb
  generalize a.start = sa at *
  generalize a.hours = ah at *
  generalize b.start = bs at *
  generalize b.hours = bh at *
  by_cases h1 : sa + ah ≤ bs
  · have d1 : decide (sa + ah ≤ bs) = true := decide_eq_true h1
    rw [d1, Bool.true_or]
    go_enter Try.func36, Try.ntmps36
    go_upto_region 1 with fail
    rw [hW.out]
    go_wp2
    go_ret
    exact ⟨rfl, hB.out⟩
  · have d1 : decide (sa + ah ≤ bs) = false := decide_eq_false h1
    rw [d1, Bool.false_or]
    go_enter Try.func36, Try.ntmps36
    go_upto_region 1 with fail
    rw [hW.out]
    go_wp2
    go_ret
    exact ⟨rfl, hB.out⟩
set_option maxRecDepth 100000 in
set_option maxHeartbeats 1000000 in
theorem DrivesR_any (L C T : Option Addr) (cl cc ct i x : Nat) (S : BSch) (w : World) (h : RdRow w C S.cars.length 4 (S.cars.map carCells)) (hi : i < S.cars.length) (hn : 0 ≤ (S.cars[i]?.getD default).never ∧ (S.cars[i]?.getD default).never ≤ 255) (hx : x ≤ 7) :
    Calls Try.prog 37 #[.agg (schCells L C T cl cc ct S), .int .i64 i, .int .i64 x] w fun e w' => e = .returned (.bool (!((S.cars[i]?.getD default).never.toNat.testBit x))) ∧ Below w.heap.size w w' := by
  obtain ⟨b, off, y0, y1, y2, y3, rfl, hb, hy, d0, d1, d2, d3⟩ := h.cells4 hi
  rw [map_at carCells S.cars i hi] at hy
  unfold carCells at hy
  simp only [List.cons.injEq, and_true] at hy
  obtain ⟨rfl, rfl, rfl, rfl⟩ := hy
  obtain ⟨nv, hnv⟩ : ∃ n : Nat, (S.cars[i]?.getD default).never = n := ⟨(S.cars[i]?.getD default).never.toNat, by omega⟩
  simp only [hnv] at d3 hn ⊢
  rw [Int.toNat_natCast]
  have hn2 : nv ≤ 255 := by omega
  obtain ⟨r, hr⟩ : ∃ r, (!(nv.testBit x)) = r := ⟨_, rfl⟩
  rw [hr]
  replace hr := hide hr
  obtain ⟨W, hW⟩ : ∃ y, w.alloc (.cells (schCells L (some ⟨b, off, none⟩) T cl cc ct S) 28) = y := ⟨_, rfl⟩
  have kb := hide (show Blk W w.heap.size 28 (schCells L (some ⟨b, off, none⟩) T cl cc ct S) by rw [← hW]; exact blkNew rfl)
  have hB := hide (show Below w.heap.size w W by rw [← hW]; exact (Below.refl _ _).alloc (Nat.le_refl _) _)
  have c1 : W.cell? ⟨w.heap.size, 1, none⟩ = some (.slice (some ⟨b, off, none⟩) S.cars.length cc) := kb.out.cell 1
  replace d3 := (cellB hB.out hb).trans d3
  clear d0 d1 d2 hnv h
  unfold schCells at *
  generalize S.cars.length = n at *
  have hiz : (i : Int) < (n : Int) := by omega
  have hi0 : (0 : Int) ≤ (i : Int) := by omega
  replace hW := hide hW
  go_enter Try.func37, Try.ntmps37
  go_upto_region 1 with fail
  rw [hW.out]
  go_wp2
  clear c1 d3
  go_loopg [7, 8] x (fun gg s7 s8 wr => ∃ (k q : Nat), k ≤ x ∧ x ≤ gg + k ∧ s8 = .int .i64 k ∧ s7 = .int .i64 q ∧ Hid (nv / 2 ^ k = q) ∧ wr = W)
  case atStart => exact ⟨0, nv, Nat.zero_le _, by omega, rfl, rfl, by simp [Hid], rfl⟩
  case round =>
    obtain ⟨k, q, hk, hgg, rfl, rfl, hq, rfl⟩ := hrel
    have hqb : q ≤ 255 := by rw [← hq.out]; exact Nat.le_trans (Nat.div_le_self _ _) hn2
    by_cases hlt : k < x
    · have hltz : (k : Int) < (x : Int) := by omega
      have hd : (q : Int).tdiv 2 = ((q / 2 : Nat) : Int) := by rw [Int.tdiv_eq_ediv_of_nonneg (by omega)]; omega
      have hnx := hide (show nv / 2 ^ (k + 1) = q / 2 by rw [Nat.pow_succ, ← Nat.div_div_eq_div_mul, hq.out])
      obtain ⟨q2, hq2⟩ : ∃ q2 : Nat, q / 2 = q2 := ⟨_, rfl⟩
      rw [hq2] at hd hnx
      have hqw : IntKind.i64.wrap ((q2 : Nat) : Int) = (q2 : Int) := by rw [IntKind.wrap_i64]; omega
      replace hq2 := hide hq2
      go_wp2
      go_roundg (x - (k + 1))
      case measure => omega
      case rel => exact ⟨k + 1, q2, by omega, by omega, by go_num, rfl, hnx.out, rfl⟩
    · have hltz : ¬ (k : Int) < (x : Int) := by omega
      obtain rfl : k = x := by omega
      have ht : nv.testBit k = decide (q % 2 = 1) := by rw [Nat.testBit_eq_decide_div_mod_eq, hq.out]
      have hmd : (q : Int).tmod 2 = ((q % 2 : Nat) : Int) := by rw [Int.tmod_eq_emod_of_nonneg (by omega)]; omega
      have hr2 := hr.out
      rw [ht] at hr2
      rcases Nat.mod_two_eq_zero_or_one q with h0 | h0
      · rw [h0] at hmd
        have hw : IntKind.i64.wrap ((0 : Nat) : Int) = 0 := by rw [IntKind.wrap_i64]; omega
        have e0 : decide (q % 2 = 1) = false := by rw [h0]; rfl
        rw [e0] at hr2
        subst hr2
        clear ht hr
        replace h0 := hide h0
        go_wp2
        go_ret
        exact ⟨rfl, hB.out⟩
      · rw [h0] at hmd
        have hw : IntKind.i64.wrap ((1 : Nat) : Int) = 1 := by rw [IntKind.wrap_i64]; omega
        have e0 : decide (q % 2 = 1) = true := by rw [h0]; rfl
        rw [e0] at hr2
        subst hr2
        clear ht hr
        replace h0 := hide h0
        go_wp2
        go_ret
        exact ⟨rfl, hB.out⟩
end Go.Proofs.Ytkmhldjebopljaa

/-
  What the law BookOnce says of lessons and weathers, from what is true of all books. Of no program.
-/
namespace Go.Proofs.Ytkmhldjebopljaa
open Go.RowKit RG

theorem kind_wt (S : BSch) (b : Bks) (n : Int) (e : BEv) (h : (kindB S b n e).1 = 0) : (kindB S b n e).2.wt = if e.kind = 2 then b.wt ++ [(e.day, e.weather)] else b.wt := by
  unfold kindB at h ⊢
  by_cases k0 : e.kind = 0
  · rw [if_pos k0, if_neg (by omega)]
    unfold bookB
    repeat' split
    all_goals rfl
  rw [if_neg k0] at h ⊢
  by_cases k1 : e.kind = 1
  · rw [if_pos k1, if_neg (by omega)]
    unfold cancelB
    repeat' split
    all_goals first | rfl | (rw [post_wt]; rfl)
  rw [if_neg k1] at h ⊢
  by_cases k2 : e.kind = 2
  · rw [if_pos k2] at h ⊢
    rw [if_pos k2]
    unfold weatherB at h ⊢
    split at h
    · cases h
    · rename_i h1
      rw [if_neg h1]
      show (movesB S e _ _ _).wt = _
      rw [moves_wt]
  rw [if_neg k2] at h ⊢
  rw [if_neg k2]
  by_cases k3 : e.kind = 3
  · rw [if_pos k3]
    unfold driveB
    repeat' split
    all_goals first | rfl | (rw [post_wt]; rfl)
  rw [if_neg k3]
  by_cases k4 : e.kind = 4
  · rw [if_pos k4]
    unfold serviceB
    repeat' split
    all_goals first | rfl | (rw [post_wt])
  rw [if_neg k4]
  by_cases k5 : e.kind = 5
  · rw [if_pos k5]
    unfold crashB
    repeat' split
    all_goals first | rfl | (rw [post_wt, post_wt]; rfl)
  rw [if_neg k5]
  unfold payB
  repeat' split
  all_goals first | rfl | (rw [post_wt])
theorem tell_wt (S : BSch) (b : Bks) (n : Int) (e : BEv) : (tellB S b n e).2.wt = if e.kind = 2 ∧ (tellB S b n e).1 = 0 then b.wt ++ [(e.day, e.weather)] else b.wt := by
  by_cases h : (tellB S b n e).1 = 0
  · obtain ⟨-, -, -, h1, h2⟩ := tell_done h
    rw [h2]
    show (kindB S b n e).2.wt = _
    rw [kind_wt S b n e h1]
    by_cases k2 : e.kind = 2
    · rw [if_pos k2, if_pos ⟨k2, h⟩]
    · rw [if_neg k2, if_neg (fun h => k2 h.1)]
  · rw [if_neg (fun h' => h h'.2), tell_refused h]
theorem bk_wt (S : BSch) (es : List BEv) {j : Nat} (x : Int × Int) (hx : x ∈ (bk S es j).wt) : ∀ d, j + d ≤ es.length → x ∈ (bk S es (j + d)).wt
  | 0, _ => hx
  | d + 1, hd => by
    have h1 := bk_wt S es x hx d (by omega)
    rw [show j + (d + 1) = (j + d) + 1 by omega, (bk_succ S es (by omega : j + d < es.length)).1, tell_wt]
    split
    · exact List.mem_append_left _ h1
    · exact h1
/-- A weather that was told and done is among those of its day. -/
theorem wt_mem {S : BSch} (es : List BEv) {k : Nat} (hk : k < es.length) (h2 : (es[k]?.getD default).kind = 2) (h0 : errAt S es k = 0) : ((es[k]?.getD default).day, (es[k]?.getD default).weather) ∈ (bk S es es.length).wt := by
  have h1 : ((es[k]?.getD default).day, (es[k]?.getD default).weather) ∈ (bk S es (k + 1)).wt := by
    rw [(bk_succ S es hk).1, tell_wt, if_pos ⟨h2, h0⟩]
    exact List.mem_append_right _ (List.mem_singleton_self _)
  have := bk_wt S es _ h1 (es.length - (k + 1)) (by omega)
  rwa [show k + 1 + (es.length - (k + 1)) = es.length by omega] at this
theorem bk_time (S : BSch) (es : List BEv) {j : Nat} (hj : j < es.length) : (bk S es (j + 1)).time = if errAt S es j = 0 then (es[j]?.getD default).at_ else (bk S es j).time := by
  rw [(bk_succ S es hj).1, tell_time]
  rfl
/-- All that the law says of lessons. -/
structure OnceAll (S : BSch) (es : List BEv) (ls : List Les) (time : Int) : Prop where
  fits : ∀ i, i < ls.length → (atL ls i).state = 0 → fitsB S (atL ls i) = true
  apart : ∀ i k, i < ls.length → k < i → (atL ls i).state = 0 → (atL ls k).state = 0 → ((atL ls i).learner = (atL ls k).learner ∨ (atL ls i).car = (atL ls k).car) → (atL ls k).start + (atL ls k).hours ≤ (atL ls i).start ∨ (atL ls i).start + (atL ls i).hours ≤ (atL ls k).start
  dry : ∀ i k, i < ls.length → k < es.length → (atL ls i).state = 0 → errAt S es k = 0 → (es[k]?.getD default).kind = 2 → (es[k]?.getD default).day = (atL ls i).start / 24 → time < (atL ls i).start → (0 ≤ (es[k]?.getD default).weather ∧ (es[k]?.getD default).weather ≤ 7) ∧ (never S (atL ls i).car).testBit (es[k]?.getD default).weather.toNat = false
theorem once_all {S : BSch} {es : List BEv} (h : runE S es = 0) : OnceAll S es (runR S es).2.les (runR S es).2.time := by
  have ha := after_of h
  have her := runR_er h
  have ho : OnceL S (runR S es).2.les := by rw [runR_ok h]; exact run_once es (start_once S)
  have hd : DryL S (runR S es).2.wt (runR S es).2.time (runR S es).2.les := by
    rw [runR_ok h]
    exact run_dry es (fun i hi => by cases hi)
  refine ⟨ho.fits, fun i k hi hk h0 h1 hs => ?_, fun i k hi hk h0 he h2 hday ht => ?_⟩
  · have := ho.apart i k hi (by omega) (by omega) h0 h1
    unfold clash at this
    generalize atL (runR S es).2.les i = a at *
    generalize atL (runR S es).2.les k = b at *
    have h3 : (decide (a.learner = b.learner) || decide (a.car = b.car)) = true := by
      rcases hs with h | h
      · simp [h]
      · simp [h]
    rw [h3, Bool.true_and, Bool.and_eq_false_iff, decide_eq_false_iff_not, decide_eq_false_iff_not] at this
    omega
  · have hm := wt_mem es hk h2 he
    rw [← her.2] at hm
    have hw := ha.gd.lim.wts _ hm
    refine ⟨hw.2, ?_⟩
    have h3 := hd i hi h0 ht
    rw [← hday] at h3
    exact dry_mem h3 hm
end Go.Proofs.Ytkmhldjebopljaa
