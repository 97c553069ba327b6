import Derived.Test.YtkmhldjebopljaaOi
import Derived.Test.YtkmhldjebopljaaOj
import Derived.Test.YtkmhldjebopljaaOk
import Derived.Test.YtkmhldjebopljaaOh
/-
  Whether no open lesson is in the way of a lesson.
-/
namespace Go.Proofs.Ytkmhldjebopljaa
open Go.RowKit Go.Shelf RG
attribute [local go_sem] Oper.semAt_some

theorem way_any (o l : Les) {w : World} {gl : Nat} (hgl : Blk w gl 63 (lesCells l).toArray) (ho : (0 ≤ o.start ∧ o.start ≤ 24000) ∧ 0 ≤ o.hours ∧ o.hours ≤ 1000) (hl : (0 ≤ l.start ∧ l.start ≤ 24000) ∧ 0 ≤ l.hours ∧ l.hours ≤ 1000) :
    Calls Try.prog 99 #[.agg (lesCells o).toArray, .pointer (some ⟨gl, 0, none⟩)] w fun e w' => e = .returned (.bool (clash o l)) ∧ Below w.heap.size w w' := by
  obtain ⟨ol, oc, os, oh, ot⟩ := o
  obtain ⟨ll, lc, ls, lh, lt⟩ := l
  simp only at ho hl
  have hc : clash ⟨ol, oc, os, oh, ot⟩ ⟨ll, lc, ls, lh, lt⟩ = (((ol == ll) || (oc == lc)) && (decide (os < ls + lh) && decide (ls < os + oh))) := rfl
  rw [hc]
  cases h1 : (ol == ll) with
  | true =>
    cases h3 : decide (os < ls + lh) with
    | true =>
      have := way1 (q2 := decide (ls < os + oh)) ol oc os oh ot ll lc ls lh lt h1 h3 rfl hgl ho hl
      simpa [lesCells] using this
    | false =>
      have := way2 ol oc os oh ot ll lc ls lh lt h1 h3 hgl ho hl
      simpa [lesCells] using this
  | false =>
    cases h2 : (oc == lc) with
    | false =>
      have := way3 ol oc os oh ot ll lc ls lh lt h1 h2 hgl ho hl
      simpa [lesCells] using this
    | true =>
      cases h3 : decide (os < ls + lh) with
      | true =>
        have := way4 (q2 := decide (ls < os + oh)) ol oc os oh ot ll lc ls lh lt h1 h2 h3 rfl hgl ho hl
        simpa [lesCells] using this
      | false =>
        have := way5 ol oc os oh ot ll lc ls lh lt h1 h2 h3 hgl ho hl
        simpa [lesCells] using this
theorem opens_any (p : Nat) (w : World) : Calls Try.prog 100 #[.pointer (some ⟨p, 0, none⟩)] w fun e w' => e = .returned (.func (.func 109) #[] #[.pointer (some ⟨w.heap.size, 0, none⟩)]) ∧ w' = w.alloc (.cells #[.pointer (some ⟨p, 0, none⟩)] 94) := by
  go_enter Try.func100, Try.ntmps100
  go_wp2
  go_ret
  exact ⟨rfl, rfl⟩
theorem enters_opens : ∀ args w, (callFunc 109 args).run Try.prog w = .ok (.enter 109 args) w := fun _ _ => by kernel_rfl
theorem enters_way : ∀ args w, (callFunc 99 args).run Try.prog w = .ok (.enter 99 args) w := fun _ _ => by kernel_rfl
/-- The iterator as one that 'range_own' takes: Rd reads the row of the lessons. -/
theorem opens_seq (n kb p : Nat) (A : Option Addr) (g cap : Nat) (les : List Les) (w : World) (hn : les.length ≤ 1000) (hA : 0 < les.length → A = some ⟨g, 0, none⟩) (hk : w.cell? ⟨kb, 0, none⟩ = some (.pointer (some ⟨p, 0, none⟩))) (hp : w.cell? ⟨p, 7, none⟩ = some (.slice A les.length cap)) :
    SeqOwn n 109 #[.pointer (some ⟨kb, 0, none⟩)] encL (fun pre X => ∀ i, pre = opn les i → LesRd les g i X) (fun pre x => ∃ j, j < les.length ∧ (les[j]?.getD default).state = 0 ∧ pre = opn les j ∧ x = (j, les[j]?.getD default)) (fun xs => xs = opn les les.length) (fun pre => ∃ j, j ≤ les.length ∧ pre = opn les j) w := by
  intro l J Jx W hb hJ _ hsz hRd hY h0
  refine (opens_in n l kb p A g cap les hn hA J Jx W hJ hsz (fun i X h => hRd _ _ h i rfl) (fun j X hj hs hJ0 => ?_) ((cellB hb (lt_of_cell hk)).trans hk) ((cellB hb (lt_of_cell hp)).trans hp) h0).mono ?_
  · have := hY _ (j, les[j]?.getD default) X hJ0 ⟨j, hj, hs, rfl, rfl⟩
    rw [show opn les (j + 1) = opn les j ++ [(j, les[j]?.getD default)] from if_pos hs]
    exact this
  · rintro e W' ⟨h1, (h2 | ⟨j, h3, h4⟩)⟩
    · exact ⟨h1, .inl ⟨_, rfl, h2⟩⟩
    · exact ⟨h1, .inr ⟨_, ⟨j, h3, rfl⟩, h4⟩⟩
/-- How a round of isFree leaves the loop. -/
def FreeX (l : Les) (w : World) (q : Nat) (c : Code) (pre : List (Nat × Les)) (W : World) : Prop :=
  Below w.heap.size w W ∧ c = .ret ∧ (∃ y ∈ pre, clash y.2 l = true) ∧ Blk W q 4 #[.bool false]
theorem FreeX.own (l : Les) (w : World) (q : Nat) (c : Code) (B : Nat) (hB : w.heap.size ≤ B) (hq : q < B) : OwnFrom B (FreeX l w q c) := by
  rintro s X Y row ⟨h1, h2, h3, h4⟩ hg hr
  exact ⟨h1.grown hg h1.size (fun k e => by have := (hr k e).1; omega), h2, h3, h4.grown hg (fun e => by have := (hr q e.symm).1; omega)⟩
theorem free_opn {les : List Les} {l : Les} : freeB les l = true ↔ ∀ y ∈ opn les les.length, clash y.2 l = false := by
  have key : ∀ j, j ≤ les.length → ∀ y, y ∈ opn les j ↔ ∃ i, i < j ∧ (les[i]?.getD default).state = 0 ∧ y = (i, les[i]?.getD default) := by
    intro j
    induction j with
    | zero => intro _ y; simp [opn]
    | succ j ih =>
      intro hj y
      unfold opn
      split
      · rename_i h0
        rw [List.mem_append, List.mem_singleton, ih (by omega)]
        constructor
        · rintro (⟨i, h1, h2⟩ | rfl)
          · exact ⟨i, by omega, h2⟩
          · exact ⟨j, by omega, h0, rfl⟩
        · rintro ⟨i, h1, h2, h3⟩
          rcases Nat.lt_or_ge i j with h | h
          · exact .inl ⟨i, h, h2, h3⟩
          · obtain rfl : i = j := by omega
            exact .inr h3
      · rename_i h0
        rw [ih (by omega)]
        constructor
        · rintro ⟨i, h1, h2⟩; exact ⟨i, by omega, h2⟩
        · rintro ⟨i, h1, h2, h3⟩
          rcases Nat.lt_or_ge i j with h | h
          · exact ⟨i, h, h2, h3⟩
          · obtain rfl : i = j := by omega
            exact absurd h2 h0
  rw [free_iff]
  constructor
  · intro h y hy
    obtain ⟨i, h1, h2, rfl⟩ := (key _ (Nat.le_refl _) y).1 hy
    refine h _ ?_ h2
    rw [List.getElem?_eq_getElem h1]
    exact List.getElem_mem h1
  · intro h x hx h0
    obtain ⟨i, hi, rfl⟩ := List.getElem_of_mem hx
    have e : les[i]?.getD default = les[i] := by rw [List.getElem?_eq_getElem hi]; rfl
    have := h (i, les[i]?.getD default) ((key _ (Nat.le_refl _) _).2 ⟨i, hi, by rw [e]; exact h0, rfl⟩)
    rwa [e] at this
theorem opn_sub {les : List Les} : ∀ {j : Nat}, j ≤ les.length → ∀ y ∈ opn les j, y ∈ opn les les.length := by
  intro j hj y hy
  obtain ⟨m, hm⟩ := Nat.exists_eq_add_of_le hj
  rw [hm]
  clear hm hj
  induction m with
  | zero => exact hy
  | succ m ih =>
    rw [← Nat.add_assoc]
    show y ∈ opn les (j + m + 1)
    unfold opn
    split
    · exact List.mem_append_left _ ih
    · exact ih

theorem free_end (tm : Array Value) (wf : World) (R : Ending → World → Prop) (p : Nat) (v : Bool) (h4 : tm[4]? = some (.pointer (some ⟨p, 0, none⟩))) (hc4 : wf.cell? ⟨p, 0, none⟩ = some (.bool v)) (hR : R (.returned (.bool v)) wf) : LeavesInM Fence.wide 9 Try.prog Try.f76 tm R [] .returning wf := by
  have a1 := Try.isAgg4
  refine ⟨.bool v, ?_, hR⟩
  simp [results, Try.results76, go_sem, h4, hc4]

set_option maxRecDepth 100000 in
set_option maxHeartbeats 2000000 in
theorem isFree_any {w : World} {X : Nat → Prop} {p : Nat} {L C T : Option Addr} {cl cc ct : Nat} {S : BSch} {vl vk vs va : Value} {mb : Nat} {vp : Value} {tm ev : Int} {les : List Les}
    (h : Blk w p 99 (bkCells L C T cl cc ct S vl vk vs va mb vp tm ev)) (hr : RowAt w X 63 5 vl (les.map lesCells)) (hn : les.length ≤ 1000) (hles : ∀ o ∈ les, (0 ≤ o.start ∧ o.start ≤ 24000) ∧ 0 ≤ o.hours ∧ o.hours ≤ 1000) (l : Les) (hl : (0 ≤ l.start ∧ l.start ≤ 24000) ∧ 0 ≤ l.hours ∧ l.hours ≤ 1000) :
    Calls Try.prog 76 #[.pointer (some ⟨p, 0, none⟩), .agg (lesCells l).toArray] w fun e w' => e = .returned (.bool (freeB les l)) ∧ Below w.heap.size w w' := by
  have hmf : ∀ (fn : Fn) (first cap : Array Value) (w : World), (Instr.makeFunc fn first cap).run Try.prog w = .ok (.func fn first cap) w := fun _ _ _ _ => rfl
  have hway := hide (fun (o : Les) (W : World) (ho : (0 ≤ o.start ∧ o.start ≤ 24000) ∧ 0 ≤ o.hours ∧ o.hours ≤ 1000) (hb : Blk W w.heap.size 63 (lesCells l).toArray) => way_any o l hb ho hl)
  obtain ⟨g, cap, A, hvl, hA, hrd⟩ : ∃ g cap A, vl = .slice A les.length cap ∧ (0 < les.length → A = some ⟨g, 0, none⟩) ∧ ∀ W, Below w.heap.size w W → LesRd les g 0 W := by
    by_cases h0 : 0 < les.length
    · obtain ⟨g, cap, e, -⟩ := les_row hr h0
      refine ⟨g, cap, _, e, fun _ => rfl, fun W hb j _ hj => ?_⟩
      obtain ⟨g', cap', e', _, _, _, _, _, hc, _⟩ := les_row (hr.below hb) h0
      rw [e] at e'; cases e'
      exact hc j hj
    · obtain ⟨A, c, e, -⟩ := hr.row
      rw [List.length_map] at e
      exact ⟨0, c, A, e, fun hh => absurd hh h0, fun W hb j _ hj => absurd hj (by omega)⟩
  subst hvl
  have kp := hide (fun W (hb : Below w.heap.size w W) => h.below hb h.lt)
  have hpl := h.lt
  have hfree := hide (free_opn (les := les) (l := l))
  obtain ⟨q, hq⟩ : ∃ q, freeB les l = q := ⟨_, rfl⟩
  rw [hq] at hfree ⊢
  have kb : Blk (w.alloc (.cells (lesCells l).toArray 63)) w.heap.size 63 (lesCells l).toArray := blkNew rfl
  obtain ⟨w1, hw1⟩ : ∃ x, ((w.alloc (.cells (lesCells l).toArray 63)).alloc (.cells #[.bool false] 4)).alloc (.cells #[.func (.func 99) #[] #[.pointer (some ⟨w.heap.size, 0, none⟩)]] 120) = x := ⟨_, rfl⟩
  have hz1 : w1.heap.size = w.heap.size + 3 := by rw [← hw1]; simp
  have k0 : Blk w1 w.heap.size 63 (lesCells l).toArray := by rw [← hw1]; exact (kb.alloc _).alloc _
  have k1 : Blk w1 (w.heap.size + 1) 4 #[.bool false] := by rw [← hw1]; exact Blk.alloc (blkNew (by simp)) _
  have k2 : Blk w1 (w.heap.size + 2) 120 #[.func (.func 99) #[] #[.pointer (some ⟨w.heap.size, 0, none⟩)]] := by rw [← hw1]; exact blkNew (by simp)
  have hB1 : Below w.heap.size w w1 := by rw [← hw1]; exact (((Below.refl _ _).alloc (Nat.le_refl _) _).alloc (by simp) _).alloc (by simp +arith) _
  replace k0 := hide k0
  replace k1 := hide k1
  replace k2 := hide k2
  replace hB1 := hide hB1
  replace hw1 := hide hw1
  have hopen := hide (opens_any p w1)
  have hl' := hide hl
  have hles' := hide hles
  clear h hr kb hles hl hq
  obtain ⟨ll, lc, ls, lh, lt⟩ := l
  unfold lesCells at *
  refine (callsIn_wide (n := 9)).1 ?_
  refine callsIn_of_wp_marks Try.func76 rfl trivial ?_ rfl
  simp only [Try.ntmps76, List.size_toArray, List.length_cons, List.length_nil, Nat.reduceAdd, Nat.reduceSub, Array.replicate_succ, Array.replicate_zero, List.push_toArray, List.append_toArray, List.nil_append, List.cons_append]
  refine wpIn_wide.2 ?_
  go_wp2_with fail
  rw [hw1.out]
  refine hopen.out.mono ?_
  clear hopen
  rintro e w2 ⟨rfl, hw2⟩
  have hz2 : w2.heap.size = w.heap.size + 4 := by rw [hw2]; simp [hz1]
  have k0' := hide (show Blk w2 w.heap.size _ _ by rw [hw2]; exact k0.out.alloc _)
  have k1' := hide (show Blk w2 (w.heap.size + 1) _ _ by rw [hw2]; exact k1.out.alloc _)
  have k2' := hide (show Blk w2 (w.heap.size + 2) _ _ by rw [hw2]; exact k2.out.alloc _)
  have k3' := hide (show Blk w2 (w.heap.size + 3) 94 #[.pointer (some ⟨p, 0, none⟩)] by rw [hw2]; exact blkNew (by rw [hz1]))
  have hB2 := hide (show Below w.heap.size w w2 by rw [hw2]; exact hB1.out.alloc (by rw [hz1]; omega) _)
  rw [hz1]
  replace hw2 := hide hw2
  clear k0 k1 k2 hB1
  go_wp2
  refine (wpIn_wide (n := 9)).1 ?_
  refine range_own (gf := 109) (lb := #[.pointer (some ⟨w.heap.size + 3, 0, none⟩)]) (encs := encL) rfl enters_opens
    (opens_seq (9 - 1) (w.heap.size + 3) p A g cap les w2 hn hA (k3'.out.cell 0) ((kp.out _ hB2.out).cell 7)) (fun _ => rfl)
    (fun pre W => Below w2.heap.size w2 W ∧ ∀ y ∈ pre, clash y.2 ⟨ll, lc, ls, lh, lt⟩ = false) (FreeX ⟨ll, lc, ls, lh, lt⟩ w (w.heap.size + 1))
    (fun s X h => h.1.size) (fun s X h i _ j _ hj => hrd X (hB2.out.trans (h.1.mono hB2.out.size)) j (Nat.zero_le _) hj) (fun s X Y h hb => ⟨h.1.trans hb, h.2⟩) (fun c => FreeX.own _ _ _ c _ hB2.out.size (by omega)) ⟨Below.refl _ _, fun y hy => by cases hy⟩
    (fun x W => W.alloc (.cells (lesCells x.2).toArray 63)) (fun x W => (Below.refl _ _).alloc (Nat.le_refl _) _)
    (fun x W => { tmps := #[.pointer (some ⟨p, 0, none⟩), .agg #[.int .i64 ll, .int .i64 lc, .int .i64 ls, .int .i64 lh, .int .i64 lt], undef, .pointer (some ⟨w.heap.size, 0, none⟩), .pointer (some ⟨w.heap.size + 1, 0, none⟩), .pointer (some ⟨w.heap.size + 1 + 1, 0, none⟩), undef, .pointer (some ⟨W.heap.size, 0, none⟩),
      .func (.func 99) #[] #[.pointer (some ⟨w.heap.size, 0, none⟩)], .pointer (some ⟨p, 0, none⟩), .func (.func 109) #[] #[.pointer (some ⟨w.heap.size + 3, 0, none⟩)], .int .i64 x.1, .agg (lesCells x.2).toArray, undef, undef, undef], defers := [] }) ?assign ?body ?done ?stop
  case assign =>
    rintro l ⟨x1, ⟨xl, xc, xs, xh, xt⟩⟩ W K hK
    unfold lesCells at hK
    simp only [encL, lesCells]
    gi_wp2
    exact hK
  case body =>
    rintro l pre ⟨x1, ⟨xl, xc, xs, xh, xt⟩⟩ W0 W ⟨hB0, -⟩ ⟨hBW, hpre⟩ ⟨j, hj, hst, hpj, hxj⟩ hk
    have hxm : (⟨xl, xc, xs, xh, xt⟩ : Les) ∈ les := by
      have e := (Prod.ext_iff.1 hxj).2
      simp only at e
      rw [e, List.getElem?_eq_getElem hj]
      exact List.getElem_mem hj
    have hxr := hles'.out _ hxm
    simp only at hxr
    have c2 : W.cell? ⟨w.heap.size + 1 + 1, 0, none⟩ = some (.func (.func 99) #[] #[.pointer (some ⟨w.heap.size, 0, none⟩)]) := (k2'.out.below hBW k2'.out.lt).cell 0
    have kx : Blk W W0.heap.size 63 #[.int .i64 xl, .int .i64 xc, .int .i64 xs, .int .i64 xh, .int .i64 xt] := hk.blk (Blk.new W0 _ _)
    have x0 : W.cell? ⟨W0.heap.size, 0, none⟩ = some (.int .i64 xl) := kx.cell 0
    have x1' : W.cell? ⟨W0.heap.size, 1, none⟩ = some (.int .i64 xc) := kx.cell 1
    have x2 : W.cell? ⟨W0.heap.size, 2, none⟩ = some (.int .i64 xs) := kx.cell 2
    have x3 : W.cell? ⟨W0.heap.size, 3, none⟩ = some (.int .i64 xh) := kx.cell 3
    have x4 : W.cell? ⟨W0.heap.size, 4, none⟩ = some (.int .i64 xt) := kx.cell 4
    have hw := hide (hway.out ⟨xl, xc, xs, xh, xt⟩ W hxr (k0'.out.below hBW k0'.out.lt))
    have k1W := hide (k1'.out.below hBW k1'.out.lt)
    have hBw := hide (hB2.out.trans (hBW.mono hB2.out.size))
    have hsW := hide hBW.size
    replace hpre := hide hpre
    replace hBW := hide hBW
    have hl1 : w.heap.size + 1 < w2.heap.size := by omega
    clear hxm hxj hxr kx hk hst hles' hrd hway hfree hpj
    simp only [lesCells] at hw ⊢
    generalize hcl : clash ⟨xl, xc, xs, xh, xt⟩ ⟨ll, lc, ls, lh, lt⟩ = qc at *
    replace hcl := hide hcl
    gi_wp2
    refine ⟨trivial, ?_⟩
    refine (CallsIn.inRound l (callsIn_wide.2 hw.out)).mono ?_
    clear hw
    rintro e W4 ⟨rfl, hC4⟩
    have hko := hide ((KeepsOthers.of_grownBy (row := none) ⟨hC4.os, hC4.tape, hC4.output, hC4.size, fun k hk _ => hC4.block k hk⟩ (by simp)).from w2.heap.size)
    have q1 := hide (k1W.out.below hC4 k1W.out.lt)
    have hB4 := hide (hBW.out.trans (hC4.mono hBW.out.size))
    have hBw4 := hide (hBw.out.trans (hC4.mono hBw.out.size))
    clear x0 x1' x2 x3 x4 c2 hC4 k1W hBW hBw
    cases qc with
    | true =>
      have d1 : W4.cell? ⟨w.heap.size + 1, 0, none⟩ = some (.bool false) := q1.out.cell 0
      have f1 : W4.frozen? ⟨w.heap.size + 1, 0, none⟩ = false := q1.out.frozen 0
      gi_wp2
      exact ⟨hko.out.trans ((KeepsOthers.setCell _ _ _).from _), hBw4.out.setCell (by simp +arith) _, rfl, ⟨_, List.mem_append_right _ (List.mem_singleton.2 rfl), hcl.out⟩, q1.out.set_ 0 (.bool false)⟩
    | false =>
      gi_wp2
      refine ⟨hko.out, trivial, hB4.out, fun y hy => ?_⟩
      rcases List.mem_append.1 hy with hy | hy
      · exact hpre.out y hy
      · rw [List.mem_singleton] at hy; subst hy; exact hcl.out
  case done =>
    rintro xs W rfl ⟨hBW, hpre⟩ hD
    obtain rfl : q = true := hfree.out.2 hpre
    have n1 := k1'.out.below hBW k1'.out.lt
    have d1 : W.cell? ⟨w.heap.size + 1, 0, none⟩ = some (.bool false) := n1.cell 0
    have f1 : W.frozen? ⟨w.heap.size + 1, 0, none⟩ = false := n1.frozen 0
    have hBw := hide (hB2.out.trans (hBW.mono hB2.out.size))
    have hsW := hide hBW.size
    replace n1 := hide n1
    clear hpre hfree hway hles' hrd
    simp only [Exit.inBlock, Exit.then]
    go_wp2
    have hD2 : (W.setCell ⟨w.heap.size + 1, 0, none⟩ (.bool true)).heap[w2.heap.size]? = some (.deferred (some [])) := (Below.heap_setCell _ _ _ _ (by show w2.heap.size ≠ w.heap.size + 1; omega)).trans hD
    have m1 := n1.out.set_ 0 (.bool true)
    refine ⟨by simp, .inl ⟨_, _, rfl, run_takeDeferred hD2, ?_⟩⟩
    have hkp := KC.put (.deferred none) hD2 rfl
    refine free_end _ _ _ (w.heap.size + 1) true rfl ((hkp.blk m1).cell 0) ⟨rfl, ?_⟩
    have hb9 := hBw.out.setCell (p := ⟨w.heap.size + 1, 0, none⟩) (by simp +arith) (.bool true)
    exact hb9.trans (below_putObj _ _ hb9.size hB2.out.size)
  case stop =>
    rintro c pre W ⟨j, hj, rfl⟩ ⟨hBw, rfl, ⟨y, hy, hyc⟩, n1⟩ hD
    have hqf : q = false := by
      cases q with
      | false => rfl
      | true =>
        have := hfree.out.1 rfl y (opn_sub hj y hy)
        rw [this] at hyc; cases hyc
    subst hqf
    have d1 : W.cell? ⟨w.heap.size + 1, 0, none⟩ = some (.bool false) := n1.cell 0
    clear hfree hway hles' hrd
    gi_wp2
    refine ⟨by simp, .inl ⟨_, _, rfl, run_takeDeferred hD, ?_⟩⟩
    have hkp := KC.put (.deferred none) hD rfl
    refine free_end _ _ _ (w.heap.size + 1) false rfl ((hkp.blk n1).cell 0) ⟨rfl, ?_⟩
    exact hBw.trans (below_putObj _ _ hBw.size hB2.out.size)
end Go.Proofs.Ytkmhldjebopljaa

/-
  Whether a lesson fits.
-/
namespace Go.Proofs.Ytkmhldjebopljaa
open Go.RowKit RG

section
variable {w : World} {p : Nat} {L C T : Option Addr} {cl cc ct : Nat} {S : BSch} {vl vk vs va : Value} {mb : Nat} {vp : Value} {tm ev : Int}
set_option maxRecDepth 100000 in
set_option maxHeartbeats 1000000 in
theorem fits_any (h : Blk w p 99 (bkCells L C T cl cc ct S vl vk vs va mb vp tm ev)) (l : Les) (hs : 0 ≤ l.start ∧ l.start ≤ 24000) (hh : 0 ≤ l.hours ∧ l.hours ≤ 1000) :
    Calls Try.prog 74 #[.pointer (some ⟨p, 0, none⟩), .agg (lesCells l).toArray] w fun e w' => e = .returned (.bool (fitsB S l)) ∧ Below w.heap.size w w' := by
  have hend := hide (fun W => endOf_any l W (by omega))
  obtain ⟨learner, car, start, hours, state⟩ := l
  simp only at hs hh
  obtain ⟨m, hm⟩ : ∃ m, start % 24 = m := ⟨_, rfl⟩
  obtain ⟨mid, hmid⟩ : ∃ x, start / 24 * 24 = x := ⟨_, rfl⟩
  have hfit : fitsB S ⟨learner, car, start, hours, state⟩ = (decide (S.lo ≤ m) && decide (m + hours ≤ S.hi)) := by unfold fitsB; rw [hm]
  rw [hfit]
  have e1 : IntKind.i64.wrap (start / 24 * 24) = mid := by rw [hmid, IntKind.wrap_i64]; omega
  have e2 : IntKind.i64.wrap (start - mid) = m := by rw [IntKind.wrap_i64]; omega
  have e3 : IntKind.i64.wrap (start + hours - mid) = m + hours := by rw [IntKind.wrap_i64]; omega
  obtain ⟨q, hq⟩ : ∃ q, decide (m + hours ≤ S.hi) = q := ⟨_, rfl⟩
  have hday := hide (fun W => dayOf_any start W (by omega))
  have kb := hide (blkNew (w := w) (t := 63) (cs := #[.int .i64 learner, .int .i64 car, .int .i64 start, .int .i64 hours, .int .i64 state]) rfl)
  have hB := hide ((Below.refl w.heap.size w).alloc (Nat.le_refl _) (.cells #[.int .i64 learner, .int .i64 car, .int .i64 start, .int .i64 hours, .int .i64 state] 63))
  have hpl := h.lt
  unfold lesCells at *
  obtain ⟨W, hW⟩ : ∃ x, w.alloc (.cells #[.int .i64 learner, .int .i64 car, .int .i64 start, .int .i64 hours, .int .i64 state] 63) = x := ⟨_, rfl⟩
  rw [hW] at kb hB
  have k2 : W.cell? ⟨w.heap.size, 2, none⟩ = some (.int .i64 start) := kb.out.cell 2
  have hfac := hide (show ∀ W', Below W.heap.size W W' → W'.cell? ⟨w.heap.size, 0, none⟩ = some (.int .i64 learner) ∧ W'.cell? ⟨w.heap.size, 1, none⟩ = some (.int .i64 car) ∧ W'.cell? ⟨w.heap.size, 2, none⟩ = some (.int .i64 start) ∧ W'.cell? ⟨w.heap.size, 3, none⟩ = some (.int .i64 hours) ∧ W'.cell? ⟨w.heap.size, 4, none⟩ = some (.int .i64 state) ∧
      W'.cell? ⟨p, 4, none⟩ = some (.int .i64 S.lo) ∧ W'.cell? ⟨p, 5, none⟩ = some (.int .i64 S.hi) from fun W' hb => by
    have k := kb.out.below hb kb.out.lt
    have k' := (h.below hB.out hpl).below hb (Nat.lt_of_lt_of_le hpl hB.out.size)
    exact ⟨k.cell 0, k.cell 1, k.cell 2, k.cell 3, k.cell 4, k'.cell 4, k'.cell 5⟩)
  replace hW := hide hW
  clear h kb hm hmid hfit
  go_enter Try.func74, Try.ntmps74
  go_upto_region 1 with fail
  rw [hW.out]
  go_wp2_with fail
  refine (hday.out _).mono ?_
  rintro e w2 ⟨rfl, rfl⟩
  go_upto_region 2 with fail
  rcases hlo : decide (S.lo ≤ m) with _ | _
  rotate_left
  ·
    have hlo' := hide hlo
    clear e1 k2
    refine region_grow [IsV (.pointer (some ⟨w.heap.size, 2, none⟩)), IsV (.int .i64 start), IsV (.int .i64 mid), IsV (.int .i64 m), IsV (.pointer (some ⟨p, 0, none⟩)), IsV (.pointer (some ⟨p, 0, none⟩)), IsV (.pointer (some ⟨p, 0, none⟩)), IsV (.pointer (some ⟨p, 4, none⟩)), IsV (.pointer (some ⟨p, 4, none⟩)), IsV (.int .i64 S.lo), IsV (.bool true), IsV (.bool true), IsV (.agg #[.int .i64 learner, .int .i64 car, .int .i64 start, .int .i64 hours, .int .i64 state]), IsV (.int .i64 (start + hours)), IsV (.int .i64 mid), IsV (.int .i64 (m + hours)), IsV (.pointer (some ⟨p, 0, none⟩)), IsV (.pointer (some ⟨p, 0, none⟩)), IsV (.pointer (some ⟨p, 0, none⟩)), IsV (.pointer (some ⟨p, 4, none⟩)), IsV (.pointer (some ⟨p, 5, none⟩)), IsV (.int .i64 S.hi), IsV (.bool q), IsV (.bool q), IsV (.bool q)] (by kernel_rfl) (by kernel_rfl) rfl ?_ ?_ ?_
    · simp [AllStb, IsV.stb]
    · refine ⟨?_, ?_, ?_, ?_, ?_, ?_, ?_, ?_, ?_, ?_, ?_, ?_, ?_, ?_, ?_, ?_, ?_, ?_, ?_, ?_, ?_, ?_, ?_, ?_, ?_, trivial⟩
      · intro y w1 K Q Cv hC hd hV
        have f := hfac.out w1 hC
        have a0 := f.1
        have a1 := f.2.1
        have a2 := f.2.2.1
        have a3 := f.2.2.2.1
        have a4 := f.2.2.2.2.1
        have a5 := f.2.2.2.2.2.1
        have a6 := f.2.2.2.2.2.2
        clear f
        clear hd
        simp only [putAll, Act.put]
        go_simp
        intro hK; exact hK _ _ (hV _ _ hC (Below.refl _ _) rfl)
      · intro y w1 K Q Cv hC hd hV
        have f := hfac.out w1 hC
        have a0 := f.1
        have a1 := f.2.1
        have a2 := f.2.2.1
        have a3 := f.2.2.2.1
        have a4 := f.2.2.2.2.1
        have a5 := f.2.2.2.2.2.1
        have a6 := f.2.2.2.2.2.2
        clear f
        simp [deps, VL, IsV, Region.binds] at hd
        simp only [putAll, Act.put]
        go_simp
        intro hK; exact hK _ _ (hV _ _ hC (Below.refl _ _) rfl)
      · intro y w1 K Q Cv hC hd hV
        have f := hfac.out w1 hC
        have a0 := f.1
        have a1 := f.2.1
        have a2 := f.2.2.1
        have a3 := f.2.2.2.1
        have a4 := f.2.2.2.2.1
        have a5 := f.2.2.2.2.2.1
        have a6 := f.2.2.2.2.2.2
        clear f
        clear hd
        simp only [putAll, Act.put]
        go_simp
        intro hK; exact hK _ _ (hV _ _ hC (Below.refl _ _) rfl)
      · intro y w1 K Q Cv hC hd hV
        have f := hfac.out w1 hC
        have a0 := f.1
        have a1 := f.2.1
        have a2 := f.2.2.1
        have a3 := f.2.2.2.1
        have a4 := f.2.2.2.2.1
        have a5 := f.2.2.2.2.2.1
        have a6 := f.2.2.2.2.2.2
        clear f
        simp [deps, VL, IsV, Region.binds] at hd
        simp only [putAll, Act.put]
        go_simp
        intro hK; exact hK _ _ (hV _ _ hC (Below.refl _ _) rfl)
      · intro y w1 K Q Cv hC hd hV
        have f := hfac.out w1 hC
        have a0 := f.1
        have a1 := f.2.1
        have a2 := f.2.2.1
        have a3 := f.2.2.2.1
        have a4 := f.2.2.2.2.1
        have a5 := f.2.2.2.2.2.1
        have a6 := f.2.2.2.2.2.2
        clear f
        clear hd
        simp only [putAll, Act.put]
        go_simp
        intro hK; exact hK _ _ (hV _ _ hC (Below.refl _ _) rfl)
      · intro y w1 K Q Cv hC hd hV
        have f := hfac.out w1 hC
        have a0 := f.1
        have a1 := f.2.1
        have a2 := f.2.2.1
        have a3 := f.2.2.2.1
        have a4 := f.2.2.2.2.1
        have a5 := f.2.2.2.2.2.1
        have a6 := f.2.2.2.2.2.2
        clear f
        simp [deps, VL, IsV, Region.binds] at hd
        simp only [putAll, Act.put]
        go_simp
        intro hK; exact hK _ _ (hV _ _ hC (Below.refl _ _) rfl)
      · intro y w1 K Q Cv hC hd hV
        have f := hfac.out w1 hC
        have a0 := f.1
        have a1 := f.2.1
        have a2 := f.2.2.1
        have a3 := f.2.2.2.1
        have a4 := f.2.2.2.2.1
        have a5 := f.2.2.2.2.2.1
        have a6 := f.2.2.2.2.2.2
        clear f
        simp [deps, VL, IsV, Region.binds] at hd
        simp only [putAll, Act.put]
        go_simp
        intro hK; exact hK _ _ (hV _ _ hC (Below.refl _ _) rfl)
      · intro y w1 K Q Cv hC hd hV
        have f := hfac.out w1 hC
        have a0 := f.1
        have a1 := f.2.1
        have a2 := f.2.2.1
        have a3 := f.2.2.2.1
        have a4 := f.2.2.2.2.1
        have a5 := f.2.2.2.2.2.1
        have a6 := f.2.2.2.2.2.2
        clear f
        simp [deps, VL, IsV, Region.binds] at hd
        simp only [putAll, Act.put]
        go_simp
        intro hK; exact hK _ _ (hV _ _ hC (Below.refl _ _) rfl)
      · intro y w1 K Q Cv hC hd hV
        have f := hfac.out w1 hC
        have a0 := f.1
        have a1 := f.2.1
        have a2 := f.2.2.1
        have a3 := f.2.2.2.1
        have a4 := f.2.2.2.2.1
        have a5 := f.2.2.2.2.2.1
        have a6 := f.2.2.2.2.2.2
        clear f
        simp [deps, VL, IsV, Region.binds] at hd
        simp only [putAll, Act.put]
        go_simp
        intro hK; exact hK _ _ (hV _ _ hC (Below.refl _ _) rfl)
      · intro y w1 K Q Cv hC hd hV
        have f := hfac.out w1 hC
        have a0 := f.1
        have a1 := f.2.1
        have a2 := f.2.2.1
        have a3 := f.2.2.2.1
        have a4 := f.2.2.2.2.1
        have a5 := f.2.2.2.2.2.1
        have a6 := f.2.2.2.2.2.2
        clear f
        simp [deps, VL, IsV, Region.binds] at hd
        simp only [putAll, Act.put]
        go_simp
        intro hK; exact hK _ _ (hV _ _ hC (Below.refl _ _) rfl)
      · intro y w1 K Q Cv hC hd hV
        have f := hfac.out w1 hC
        have a0 := f.1
        have a1 := f.2.1
        have a2 := f.2.2.1
        have a3 := f.2.2.2.1
        have a4 := f.2.2.2.2.1
        have a5 := f.2.2.2.2.2.1
        have a6 := f.2.2.2.2.2.2
        clear f
        simp [deps, VL, IsV, Region.binds] at hd
        simp only [putAll, Act.put]
        go_simp
        intro hK; exact hK _ _ (hV _ _ hC (Below.refl _ _) rfl)
      · intro y w1 K Q Cv hC hd hV
        have f := hfac.out w1 hC
        have a0 := f.1
        have a1 := f.2.1
        have a2 := f.2.2.1
        have a3 := f.2.2.2.1
        have a4 := f.2.2.2.2.1
        have a5 := f.2.2.2.2.2.1
        have a6 := f.2.2.2.2.2.2
        clear f
        simp [deps, VL, IsV, Region.binds] at hd
        simp only [putAll, Act.put]
        go_simp
        intro hK; exact hK _ _ (hV _ _ hC (Below.refl _ _) rfl)
      · intro y w1 K Q Cv hC hd hV
        have f := hfac.out w1 hC
        have a0 := f.1
        have a1 := f.2.1
        have a2 := f.2.2.1
        have a3 := f.2.2.2.1
        have a4 := f.2.2.2.2.1
        have a5 := f.2.2.2.2.2.1
        have a6 := f.2.2.2.2.2.2
        clear f
        simp [deps, VL, IsV, Region.binds] at hd
        simp only [putAll, Act.put]
        go_simp
        intro hK; exact hK _ _ (hV _ _ hC (Below.refl _ _) rfl)
      · intro y w1 K Q Cv hC hd hV
        have f := hfac.out w1 hC
        have a0 := f.1
        have a1 := f.2.1
        have a2 := f.2.2.1
        have a3 := f.2.2.2.1
        have a4 := f.2.2.2.2.1
        have a5 := f.2.2.2.2.2.1
        have a6 := f.2.2.2.2.2.2
        clear f
        simp [deps, VL, IsV, Region.binds] at hd
        simp only [putAll, Act.put]
        go_simp
        intro hK; refine (hend.out _).mono ?_; rintro e w2 ⟨rfl, hb⟩; exact hK _ _ (hV _ _ (hC.trans (hb.mono hC.size)) hb rfl)
      · intro y w1 K Q Cv hC hd hV
        have f := hfac.out w1 hC
        have a0 := f.1
        have a1 := f.2.1
        have a2 := f.2.2.1
        have a3 := f.2.2.2.1
        have a4 := f.2.2.2.2.1
        have a5 := f.2.2.2.2.2.1
        have a6 := f.2.2.2.2.2.2
        clear f
        simp [deps, VL, IsV, Region.binds] at hd
        simp only [putAll, Act.put]
        go_simp
        intro hK; exact hK _ _ (hV _ _ hC (Below.refl _ _) rfl)
      · intro y w1 K Q Cv hC hd hV
        have f := hfac.out w1 hC
        have a0 := f.1
        have a1 := f.2.1
        have a2 := f.2.2.1
        have a3 := f.2.2.2.1
        have a4 := f.2.2.2.2.1
        have a5 := f.2.2.2.2.2.1
        have a6 := f.2.2.2.2.2.2
        clear f
        simp [deps, VL, IsV, Region.binds] at hd
        simp only [putAll, Act.put]
        go_simp
        intro hK; exact hK _ _ (hV _ _ hC (Below.refl _ _) rfl)
      · intro y w1 K Q Cv hC hd hV
        have f := hfac.out w1 hC
        have a0 := f.1
        have a1 := f.2.1
        have a2 := f.2.2.1
        have a3 := f.2.2.2.1
        have a4 := f.2.2.2.2.1
        have a5 := f.2.2.2.2.2.1
        have a6 := f.2.2.2.2.2.2
        clear f
        simp [deps, VL, IsV, Region.binds] at hd
        simp only [putAll, Act.put]
        go_simp
        intro hK; exact hK _ _ (hV _ _ hC (Below.refl _ _) rfl)
      · intro y w1 K Q Cv hC hd hV
        have f := hfac.out w1 hC
        have a0 := f.1
        have a1 := f.2.1
        have a2 := f.2.2.1
        have a3 := f.2.2.2.1
        have a4 := f.2.2.2.2.1
        have a5 := f.2.2.2.2.2.1
        have a6 := f.2.2.2.2.2.2
        clear f
        simp [deps, VL, IsV, Region.binds] at hd
        simp only [putAll, Act.put]
        go_simp
        intro hK; exact hK _ _ (hV _ _ hC (Below.refl _ _) rfl)
      · intro y w1 K Q Cv hC hd hV
        have f := hfac.out w1 hC
        have a0 := f.1
        have a1 := f.2.1
        have a2 := f.2.2.1
        have a3 := f.2.2.2.1
        have a4 := f.2.2.2.2.1
        have a5 := f.2.2.2.2.2.1
        have a6 := f.2.2.2.2.2.2
        clear f
        simp [deps, VL, IsV, Region.binds] at hd
        simp only [putAll, Act.put]
        go_simp
        intro hK; exact hK _ _ (hV _ _ hC (Below.refl _ _) rfl)
      · intro y w1 K Q Cv hC hd hV
        have f := hfac.out w1 hC
        have a0 := f.1
        have a1 := f.2.1
        have a2 := f.2.2.1
        have a3 := f.2.2.2.1
        have a4 := f.2.2.2.2.1
        have a5 := f.2.2.2.2.2.1
        have a6 := f.2.2.2.2.2.2
        clear f
        simp [deps, VL, IsV, Region.binds] at hd
        simp only [putAll, Act.put]
        go_simp
        intro hK; exact hK _ _ (hV _ _ hC (Below.refl _ _) rfl)
      · intro y w1 K Q Cv hC hd hV
        have f := hfac.out w1 hC
        have a0 := f.1
        have a1 := f.2.1
        have a2 := f.2.2.1
        have a3 := f.2.2.2.1
        have a4 := f.2.2.2.2.1
        have a5 := f.2.2.2.2.2.1
        have a6 := f.2.2.2.2.2.2
        clear f
        simp [deps, VL, IsV, Region.binds] at hd
        simp only [putAll, Act.put]
        go_simp
        intro hK; exact hK _ _ (hV _ _ hC (Below.refl _ _) rfl)
      · intro y w1 K Q Cv hC hd hV
        have f := hfac.out w1 hC
        have a0 := f.1
        have a1 := f.2.1
        have a2 := f.2.2.1
        have a3 := f.2.2.2.1
        have a4 := f.2.2.2.2.1
        have a5 := f.2.2.2.2.2.1
        have a6 := f.2.2.2.2.2.2
        clear f
        simp [deps, VL, IsV, Region.binds] at hd
        simp only [putAll, Act.put]
        go_simp
        intro hK; exact hK _ _ (hV _ _ hC (Below.refl _ _) rfl)
      · intro y w1 K Q Cv hC hd hV
        have f := hfac.out w1 hC
        have a0 := f.1
        have a1 := f.2.1
        have a2 := f.2.2.1
        have a3 := f.2.2.2.1
        have a4 := f.2.2.2.2.1
        have a5 := f.2.2.2.2.2.1
        have a6 := f.2.2.2.2.2.2
        clear f
        simp [deps, VL, IsV, Region.binds] at hd
        simp only [putAll, Act.put]
        go_simp
        intro hK; exact hK _ _ (hV _ _ hC (Below.refl _ _) rfl)
      · intro y w1 K Q Cv hC hd hV
        have f := hfac.out w1 hC
        have a0 := f.1
        have a1 := f.2.1
        have a2 := f.2.2.1
        have a3 := f.2.2.2.1
        have a4 := f.2.2.2.2.1
        have a5 := f.2.2.2.2.2.1
        have a6 := f.2.2.2.2.2.2
        clear f
        simp [deps, VL, IsV, Region.binds] at hd
        simp only [putAll, Act.put]
        go_simp
        intro hK; exact hK _ _ (hV _ _ hC (Below.refl _ _) rfl)
      · intro y w1 K Q Cv hC hd hV
        have f := hfac.out w1 hC
        have a0 := f.1
        have a1 := f.2.1
        have a2 := f.2.2.1
        have a3 := f.2.2.2.1
        have a4 := f.2.2.2.2.1
        have a5 := f.2.2.2.2.2.1
        have a6 := f.2.2.2.2.2.2
        clear f
        simp [deps, VL, IsV, Region.binds] at hd
        simp only [putAll, Act.put]
        go_simp
        intro hK; exact hK _ _ (hV _ _ hC (Below.refl _ _) rfl)
    intro y w1 hC hd
    simp [EndsL, IsV] at hd
    obtain ⟨d0, d1, d2, d3, d4, d5, d6, d7, d8, d9, d10, d11, d12, d13, d14, d15, d16, d17, d18, d19, d20, d21, d22, d23, d24⟩ := hd
    simp only [putAll, Act.put]
    rw [d0, d1, d2, d3, d4, d5, d6, d7, d8, d9, d10, d11, d12, d13, d14, d15, d16, d17, d18, d19, d20, d21, d22, d23, d24]
    clear d0 d1 d2 d3 d4 d5 d6 d7 d8 d9 d10 d11 d12 d13 d14 d15 d16 d17 d18 d19 d20 d21 d22 d23 d24 hfac hend
    simp only [List.setIfInBounds_toArray, List.set_cons_succ, List.set_cons_zero]
    have hB1 := hide (hB.out.trans (hC.mono hB.out.size))
    go_wp2
    go_ret
    exact ⟨by rw [hq, hlo'.out, Bool.true_and]; rfl, hB1.out⟩
  ·
    have hlo' := hide hlo
    clear e1 k2 e3
    refine region_grow [IsV (.pointer (some ⟨w.heap.size, 2, none⟩)), IsV (.int .i64 start), IsV (.int .i64 mid), IsV (.int .i64 m), IsV (.pointer (some ⟨p, 0, none⟩)), IsV (.pointer (some ⟨p, 0, none⟩)), IsV (.pointer (some ⟨p, 0, none⟩)), IsV (.pointer (some ⟨p, 4, none⟩)), IsV (.pointer (some ⟨p, 4, none⟩)), IsV (.int .i64 S.lo), IsV (.bool false), IsV (.bool false), IsV (undef), IsV (undef), IsV (undef), IsV (undef), IsV (undef), IsV (undef), IsV (undef), IsV (undef), IsV (undef), IsV (undef), IsV (undef), IsV (.bool false), IsV (.bool false)] (by kernel_rfl) (by kernel_rfl) rfl ?_ ?_ ?_
    · simp [AllStb, IsV.stb]
    · refine ⟨?_, ?_, ?_, ?_, ?_, ?_, ?_, ?_, ?_, ?_, ?_, ?_, ?_, ?_, ?_, ?_, ?_, ?_, ?_, ?_, ?_, ?_, ?_, ?_, ?_, trivial⟩
      · intro y w1 K Q Cv hC hd hV
        have f := hfac.out w1 hC
        have a0 := f.1
        have a1 := f.2.1
        have a2 := f.2.2.1
        have a3 := f.2.2.2.1
        have a4 := f.2.2.2.2.1
        have a5 := f.2.2.2.2.2.1
        have a6 := f.2.2.2.2.2.2
        clear f
        clear hd
        simp only [putAll, Act.put]
        go_simp
        intro hK; exact hK _ _ (hV _ _ hC (Below.refl _ _) rfl)
      · intro y w1 K Q Cv hC hd hV
        have f := hfac.out w1 hC
        have a0 := f.1
        have a1 := f.2.1
        have a2 := f.2.2.1
        have a3 := f.2.2.2.1
        have a4 := f.2.2.2.2.1
        have a5 := f.2.2.2.2.2.1
        have a6 := f.2.2.2.2.2.2
        clear f
        simp [deps, VL, IsV, Region.binds] at hd
        simp only [putAll, Act.put]
        go_simp
        intro hK; exact hK _ _ (hV _ _ hC (Below.refl _ _) rfl)
      · intro y w1 K Q Cv hC hd hV
        have f := hfac.out w1 hC
        have a0 := f.1
        have a1 := f.2.1
        have a2 := f.2.2.1
        have a3 := f.2.2.2.1
        have a4 := f.2.2.2.2.1
        have a5 := f.2.2.2.2.2.1
        have a6 := f.2.2.2.2.2.2
        clear f
        clear hd
        simp only [putAll, Act.put]
        go_simp
        intro hK; exact hK _ _ (hV _ _ hC (Below.refl _ _) rfl)
      · intro y w1 K Q Cv hC hd hV
        have f := hfac.out w1 hC
        have a0 := f.1
        have a1 := f.2.1
        have a2 := f.2.2.1
        have a3 := f.2.2.2.1
        have a4 := f.2.2.2.2.1
        have a5 := f.2.2.2.2.2.1
        have a6 := f.2.2.2.2.2.2
        clear f
        simp [deps, VL, IsV, Region.binds] at hd
        simp only [putAll, Act.put]
        go_simp
        intro hK; exact hK _ _ (hV _ _ hC (Below.refl _ _) rfl)
      · intro y w1 K Q Cv hC hd hV
        have f := hfac.out w1 hC
        have a0 := f.1
        have a1 := f.2.1
        have a2 := f.2.2.1
        have a3 := f.2.2.2.1
        have a4 := f.2.2.2.2.1
        have a5 := f.2.2.2.2.2.1
        have a6 := f.2.2.2.2.2.2
        clear f
        clear hd
        simp only [putAll, Act.put]
        go_simp
        intro hK; exact hK _ _ (hV _ _ hC (Below.refl _ _) rfl)
      · intro y w1 K Q Cv hC hd hV
        have f := hfac.out w1 hC
        have a0 := f.1
        have a1 := f.2.1
        have a2 := f.2.2.1
        have a3 := f.2.2.2.1
        have a4 := f.2.2.2.2.1
        have a5 := f.2.2.2.2.2.1
        have a6 := f.2.2.2.2.2.2
        clear f
        simp [deps, VL, IsV, Region.binds] at hd
        simp only [putAll, Act.put]
        go_simp
        intro hK; exact hK _ _ (hV _ _ hC (Below.refl _ _) rfl)
      · intro y w1 K Q Cv hC hd hV
        have f := hfac.out w1 hC
        have a0 := f.1
        have a1 := f.2.1
        have a2 := f.2.2.1
        have a3 := f.2.2.2.1
        have a4 := f.2.2.2.2.1
        have a5 := f.2.2.2.2.2.1
        have a6 := f.2.2.2.2.2.2
        clear f
        simp [deps, VL, IsV, Region.binds] at hd
        simp only [putAll, Act.put]
        go_simp
        intro hK; exact hK _ _ (hV _ _ hC (Below.refl _ _) rfl)
      · intro y w1 K Q Cv hC hd hV
        have f := hfac.out w1 hC
        have a0 := f.1
        have a1 := f.2.1
        have a2 := f.2.2.1
        have a3 := f.2.2.2.1
        have a4 := f.2.2.2.2.1
        have a5 := f.2.2.2.2.2.1
        have a6 := f.2.2.2.2.2.2
        clear f
        simp [deps, VL, IsV, Region.binds] at hd
        simp only [putAll, Act.put]
        go_simp
        intro hK; exact hK _ _ (hV _ _ hC (Below.refl _ _) rfl)
      · intro y w1 K Q Cv hC hd hV
        have f := hfac.out w1 hC
        have a0 := f.1
        have a1 := f.2.1
        have a2 := f.2.2.1
        have a3 := f.2.2.2.1
        have a4 := f.2.2.2.2.1
        have a5 := f.2.2.2.2.2.1
        have a6 := f.2.2.2.2.2.2
        clear f
        simp [deps, VL, IsV, Region.binds] at hd
        simp only [putAll, Act.put]
        go_simp
        intro hK; exact hK _ _ (hV _ _ hC (Below.refl _ _) rfl)
      · intro y w1 K Q Cv hC hd hV
        have f := hfac.out w1 hC
        have a0 := f.1
        have a1 := f.2.1
        have a2 := f.2.2.1
        have a3 := f.2.2.2.1
        have a4 := f.2.2.2.2.1
        have a5 := f.2.2.2.2.2.1
        have a6 := f.2.2.2.2.2.2
        clear f
        simp [deps, VL, IsV, Region.binds] at hd
        simp only [putAll, Act.put]
        go_simp
        intro hK; exact hK _ _ (hV _ _ hC (Below.refl _ _) rfl)
      · intro y w1 K Q Cv hC hd hV
        have f := hfac.out w1 hC
        have a0 := f.1
        have a1 := f.2.1
        have a2 := f.2.2.1
        have a3 := f.2.2.2.1
        have a4 := f.2.2.2.2.1
        have a5 := f.2.2.2.2.2.1
        have a6 := f.2.2.2.2.2.2
        clear f
        simp [deps, VL, IsV, Region.binds] at hd
        simp only [putAll, Act.put]
        go_simp
        intro hK; exact hK _ _ (hV _ _ hC (Below.refl _ _) rfl)
      · intro y w1 K Q Cv hC hd hV
        have f := hfac.out w1 hC
        have a0 := f.1
        have a1 := f.2.1
        have a2 := f.2.2.1
        have a3 := f.2.2.2.1
        have a4 := f.2.2.2.2.1
        have a5 := f.2.2.2.2.2.1
        have a6 := f.2.2.2.2.2.2
        clear f
        simp [deps, VL, IsV, Region.binds] at hd
        simp only [putAll, Act.put]
        go_simp
        intro hK; exact hK _ _ (hV _ _ hC (Below.refl _ _) rfl)
      · intro y w1 K Q Cv hC hd hV
        have f := hfac.out w1 hC
        have a0 := f.1
        have a1 := f.2.1
        have a2 := f.2.2.1
        have a3 := f.2.2.2.1
        have a4 := f.2.2.2.2.1
        have a5 := f.2.2.2.2.2.1
        have a6 := f.2.2.2.2.2.2
        clear f
        simp [deps, VL, IsV, Region.binds] at hd
        simp only [putAll, Act.put]
        go_simp
        intro hK; exact hK _ _ (hV _ _ hC (Below.refl _ _) rfl)
      · intro y w1 K Q Cv hC hd hV
        have f := hfac.out w1 hC
        have a0 := f.1
        have a1 := f.2.1
        have a2 := f.2.2.1
        have a3 := f.2.2.2.1
        have a4 := f.2.2.2.2.1
        have a5 := f.2.2.2.2.2.1
        have a6 := f.2.2.2.2.2.2
        clear f
        simp [deps, VL, IsV, Region.binds] at hd
        simp only [putAll, Act.put]
        go_simp
        intro hK; exact hK _ _ (hV _ _ hC (Below.refl _ _) rfl)
      · intro y w1 K Q Cv hC hd hV
        have f := hfac.out w1 hC
        have a0 := f.1
        have a1 := f.2.1
        have a2 := f.2.2.1
        have a3 := f.2.2.2.1
        have a4 := f.2.2.2.2.1
        have a5 := f.2.2.2.2.2.1
        have a6 := f.2.2.2.2.2.2
        clear f
        simp [deps, VL, IsV, Region.binds] at hd
        simp only [putAll, Act.put]
        go_simp
        intro hK; exact hK _ _ (hV _ _ hC (Below.refl _ _) rfl)
      · intro y w1 K Q Cv hC hd hV
        have f := hfac.out w1 hC
        have a0 := f.1
        have a1 := f.2.1
        have a2 := f.2.2.1
        have a3 := f.2.2.2.1
        have a4 := f.2.2.2.2.1
        have a5 := f.2.2.2.2.2.1
        have a6 := f.2.2.2.2.2.2
        clear f
        simp [deps, VL, IsV, Region.binds] at hd
        simp only [putAll, Act.put]
        go_simp
        intro hK; exact hK _ _ (hV _ _ hC (Below.refl _ _) rfl)
      · intro y w1 K Q Cv hC hd hV
        have f := hfac.out w1 hC
        have a0 := f.1
        have a1 := f.2.1
        have a2 := f.2.2.1
        have a3 := f.2.2.2.1
        have a4 := f.2.2.2.2.1
        have a5 := f.2.2.2.2.2.1
        have a6 := f.2.2.2.2.2.2
        clear f
        simp [deps, VL, IsV, Region.binds] at hd
        simp only [putAll, Act.put]
        go_simp
        intro hK; exact hK _ _ (hV _ _ hC (Below.refl _ _) rfl)
      · intro y w1 K Q Cv hC hd hV
        have f := hfac.out w1 hC
        have a0 := f.1
        have a1 := f.2.1
        have a2 := f.2.2.1
        have a3 := f.2.2.2.1
        have a4 := f.2.2.2.2.1
        have a5 := f.2.2.2.2.2.1
        have a6 := f.2.2.2.2.2.2
        clear f
        simp [deps, VL, IsV, Region.binds] at hd
        simp only [putAll, Act.put]
        go_simp
        intro hK; exact hK _ _ (hV _ _ hC (Below.refl _ _) rfl)
      · intro y w1 K Q Cv hC hd hV
        have f := hfac.out w1 hC
        have a0 := f.1
        have a1 := f.2.1
        have a2 := f.2.2.1
        have a3 := f.2.2.2.1
        have a4 := f.2.2.2.2.1
        have a5 := f.2.2.2.2.2.1
        have a6 := f.2.2.2.2.2.2
        clear f
        simp [deps, VL, IsV, Region.binds] at hd
        simp only [putAll, Act.put]
        go_simp
        intro hK; exact hK _ _ (hV _ _ hC (Below.refl _ _) rfl)
      · intro y w1 K Q Cv hC hd hV
        have f := hfac.out w1 hC
        have a0 := f.1
        have a1 := f.2.1
        have a2 := f.2.2.1
        have a3 := f.2.2.2.1
        have a4 := f.2.2.2.2.1
        have a5 := f.2.2.2.2.2.1
        have a6 := f.2.2.2.2.2.2
        clear f
        simp [deps, VL, IsV, Region.binds] at hd
        simp only [putAll, Act.put]
        go_simp
        intro hK; exact hK _ _ (hV _ _ hC (Below.refl _ _) rfl)
      · intro y w1 K Q Cv hC hd hV
        have f := hfac.out w1 hC
        have a0 := f.1
        have a1 := f.2.1
        have a2 := f.2.2.1
        have a3 := f.2.2.2.1
        have a4 := f.2.2.2.2.1
        have a5 := f.2.2.2.2.2.1
        have a6 := f.2.2.2.2.2.2
        clear f
        simp [deps, VL, IsV, Region.binds] at hd
        simp only [putAll, Act.put]
        go_simp
        intro hK; exact hK _ _ (hV _ _ hC (Below.refl _ _) rfl)
      · intro y w1 K Q Cv hC hd hV
        have f := hfac.out w1 hC
        have a0 := f.1
        have a1 := f.2.1
        have a2 := f.2.2.1
        have a3 := f.2.2.2.1
        have a4 := f.2.2.2.2.1
        have a5 := f.2.2.2.2.2.1
        have a6 := f.2.2.2.2.2.2
        clear f
        simp [deps, VL, IsV, Region.binds] at hd
        simp only [putAll, Act.put]
        go_simp
        intro hK; exact hK _ _ (hV _ _ hC (Below.refl _ _) rfl)
      · intro y w1 K Q Cv hC hd hV
        have f := hfac.out w1 hC
        have a0 := f.1
        have a1 := f.2.1
        have a2 := f.2.2.1
        have a3 := f.2.2.2.1
        have a4 := f.2.2.2.2.1
        have a5 := f.2.2.2.2.2.1
        have a6 := f.2.2.2.2.2.2
        clear f
        simp [deps, VL, IsV, Region.binds] at hd
        simp only [putAll, Act.put]
        go_simp
        intro hK; exact hK _ _ (hV _ _ hC (Below.refl _ _) rfl)
      · intro y w1 K Q Cv hC hd hV
        have f := hfac.out w1 hC
        have a0 := f.1
        have a1 := f.2.1
        have a2 := f.2.2.1
        have a3 := f.2.2.2.1
        have a4 := f.2.2.2.2.1
        have a5 := f.2.2.2.2.2.1
        have a6 := f.2.2.2.2.2.2
        clear f
        simp [deps, VL, IsV, Region.binds] at hd
        simp only [putAll, Act.put]
        go_simp
        intro hK; exact hK _ _ (hV _ _ hC (Below.refl _ _) rfl)
      · intro y w1 K Q Cv hC hd hV
        have f := hfac.out w1 hC
        have a0 := f.1
        have a1 := f.2.1
        have a2 := f.2.2.1
        have a3 := f.2.2.2.1
        have a4 := f.2.2.2.2.1
        have a5 := f.2.2.2.2.2.1
        have a6 := f.2.2.2.2.2.2
        clear f
        simp [deps, VL, IsV, Region.binds] at hd
        simp only [putAll, Act.put]
        go_simp
        intro hK; exact hK _ _ (hV _ _ hC (Below.refl _ _) rfl)
    intro y w1 hC hd
    simp [EndsL, IsV] at hd
    obtain ⟨d0, d1, d2, d3, d4, d5, d6, d7, d8, d9, d10, d11, d12, d13, d14, d15, d16, d17, d18, d19, d20, d21, d22, d23, d24⟩ := hd
    simp only [putAll, Act.put]
    rw [d0, d1, d2, d3, d4, d5, d6, d7, d8, d9, d10, d11, d12, d13, d14, d15, d16, d17, d18, d19, d20, d21, d22, d23, d24]
    clear d0 d1 d2 d3 d4 d5 d6 d7 d8 d9 d10 d11 d12 d13 d14 d15 d16 d17 d18 d19 d20 d21 d22 d23 d24 hfac hend
    simp only [List.setIfInBounds_toArray, List.set_cons_succ, List.set_cons_zero]
    have hB1 := hide (hB.out.trans (hC.mono hB.out.size))
    go_wp2
    go_ret
    exact ⟨by rw [hlo'.out, Bool.false_and]; rfl, hB1.out⟩
end
end Go.Proofs.Ytkmhldjebopljaa
