import Derived.Test.YtkhijdbigpaagaaNe
import Derived.WalkSmall
import Derived.Laws.EntriesVeiled
import Derived.Test.YtkhijdbigpaagaaNa
import Derived.StillTail
/-
  eventErrors of package skill.
-/
namespace Go.Proofs.Ytkhijdbigpaagaa
open Go.RowKit RG

/-- The error of an event behind the week lw, in a school of n skills and n2 instructors. -/
def evErr (n n2 : Nat) (lw : Int) (e : Ev) : Int :=
  if inB 0 200 e.a = true then
    (if e.a < lw then 2 else if e.b = 1 then
      (if inB 0 ((n : Int) - 1) e.c = true then (if inB 0 ((n2 : Int) - 1) e.d = true then (if inB 0 1000 e.e = true then 0 else 7) else 4) else 4)
     else if e.b = 0 then (if inB 0 ((n : Int) - 1) e.c = true then 0 else 4) else 2)
  else 7

set_option maxRecDepth 100000 in
set_option maxHeartbeats 4000000 in
theorem evErr1_any (A A2 B : Option Addr) (n c n2 c2 m cb i : Nat) (es : List Ev) (e : Ev) (pe ps : Nat) (w : World) (hn : n ≤ maxLen) (hn2 : n2 ≤ maxLen) (h : RdRow w B m 5 (es.map evCells)) (hm : m ≤ maxLen) (hcap : m ≤ cb) (hi : i < m)
    (he : w.cell? ⟨pe, 0, none⟩ = some (.slice B m cb)) (hs0 : w.cell? ⟨ps, 0, none⟩ = some (.slice A n c)) (hs1 : w.cell? ⟨ps, 1, none⟩ = some (.slice A2 n2 c2)) :
    Calls Try.prog 121 #[.int .i64 i, .agg (evCells e).toArray, .pointer (some ⟨pe, 0, none⟩), .pointer (some ⟨ps, 0, none⟩)] w fun en w' => en = .returned (.int .i64 (evErr n n2 (lastW (es.take i)) e)) ∧ Below w.heap.size w w' := by
  have hpe := lt_of_cell he
  have hps := lt_of_cell hs0
  have hLW := hide (fun W (hb : Below w.heap.size w W) => lastWeek_any B i cb (es.take i) W (by rw [List.map_take]; exact (h.below hb).take (by omega)) (by unfold maxLen at *; omega))
  have hSk := hide (fun x W => isSkill_any A A2 n c n2 c2 x W hn)
  have hIn := hide (fun x W => isInstructor_any A A2 n c n2 c2 x W hn2)
  obtain ⟨z, hz⟩ : ∃ z, evErr n n2 (lastW (es.take i)) e = z := ⟨_, rfl⟩
  rw [hz]
  unfold evErr at hz
  generalize lastW (es.take i) = lw at *
  unfold evCells
  obtain ⟨ea, eb, ec, ed, ee⟩ := e
  simp only at hz ⊢
  obtain ⟨b, off, rfl⟩ : ∃ b off, B = some ⟨b, off, none⟩ := by
    obtain ⟨b, off, e, _⟩ := h.2.2 (by omega)
    exact ⟨b, off, e⟩
  clear h
  unfold maxLen at hm hn hn2
  have hi0 : (0 : Int) ≤ (i : Int) := by omega
  have hic : (i : Int) ≤ (cb : Int) := by omega
  have hB0 := hide (show Below w.heap.size w (w.alloc (.cells #[.int .i64 ea, .int .i64 eb, .int .i64 ec, .int .i64 ed, .int .i64 ee] 78)) from (Below.refl _ _).alloc (Nat.le_refl _) _)
  have k0 := hide (show Blk (w.alloc (.cells #[.int .i64 ea, .int .i64 eb, .int .i64 ec, .int .i64 ed, .int .i64 ee] 78)) w.heap.size 78 #[.int .i64 ea, .int .i64 eb, .int .i64 ec, .int .i64 ed, .int .i64 ee] from blkNew rfl)
  have hee := hide he
  have hs00 := hide hs0
  have hs11 := hide hs1
  clear he hs0 hs1
  cases h0 : inB 0 200 ea with
  | false =>
    rw [h0, if_neg (by simp)] at hz
    subst hz
    by_cases e1 : eb = 1
    · subst e1
      go_enter Try.func121, Try.ntmps121
      go_wp2_with fail
      refine (within_one _ _ ea _ _ _ _ (by go_simp)).mono ?_
      rintro e w2 ⟨rfl, rfl⟩
      rw [h0]
      go_wp2
      go_ret
      exact ⟨rfl, hB0.out.alloc (by simp) _⟩
    · have b1 : (eb == 1) = false := by rw [beq_eq_false_iff_ne]; exact e1
      replace e1 := hide e1
      go_enter Try.func121, Try.ntmps121
      go_wp2_with fail
      refine (within_one _ _ ea _ _ _ _ (by go_simp)).mono ?_
      rintro e w2 ⟨rfl, rfl⟩
      rw [h0]
      go_wp2
      go_ret
      exact ⟨rfl, hB0.out.alloc (by simp) _⟩
  | true =>
    rw [h0, if_pos rfl] at hz
    have h00 := hide h0
    clear h0
    have hB1 := hide (hB0.out.alloc (by simp) (.cells #[.int .i64 ea] 3))
    have k1 := hide (k0.out.alloc (.cells #[.int .i64 ea] 3))
    by_cases hl : ea < lw
    · rw [if_pos hl] at hz
      subst hz
      have hlb : decide (ea < lw) = true := decide_eq_true hl
      by_cases e1 : eb = 1
      · subst e1
        replace hl := hide hl
        go_enter Try.func121, Try.ntmps121
        go_wp2_with fail
        refine (within_one _ _ ea _ _ _ _ (by go_simp)).mono ?_
        rintro e w2 ⟨rfl, rfl⟩
        rw [h00.out]
        generalize ((w.alloc (.cells #[.int .i64 ea, .int .i64 1, .int .i64 ec, .int .i64 ed, .int .i64 ee] 78)).alloc (.cells #[.int .i64 ea] 3)) = w1 at *
        have g0 : w1.cell? ⟨w.heap.size, 0, none⟩ = some (.int .i64 ea) := k1.out.cell 0
        have g1 : w1.cell? ⟨w.heap.size, 1, none⟩ = some (.int .i64 1) := k1.out.cell 1
        have q0 := (cellB (o := 0) hB1.out hpe).trans hee.out
        have hzs := k1.out.lt
        go_wp2
        go_quiet ((go_at_call 67; exact quiet_left (hLW.out _ (below_drewN hB1.out _))))
        have hB2 := hide (below_drewN hB1.out nq)
        have k2 := hide (Blk.drewN k1.out nq)
        clear hB1 k1 g0 g1 q0
        generalize w1.drewN nq = w2 at *
        go_wp2
        go_ret
        exact ⟨rfl, hB2.out⟩
      · by_cases e0 : eb = 0
        · subst e0
          clear e1
          replace hl := hide hl
          go_enter Try.func121, Try.ntmps121
          go_wp2_with fail
          refine (within_one _ _ ea _ _ _ _ (by go_simp)).mono ?_
          rintro e w2 ⟨rfl, rfl⟩
          rw [h00.out]
          generalize ((w.alloc (.cells #[.int .i64 ea, .int .i64 0, .int .i64 ec, .int .i64 ed, .int .i64 ee] 78)).alloc (.cells #[.int .i64 ea] 3)) = w1 at *
          have g0 : w1.cell? ⟨w.heap.size, 0, none⟩ = some (.int .i64 ea) := k1.out.cell 0
          have g1 : w1.cell? ⟨w.heap.size, 1, none⟩ = some (.int .i64 0) := k1.out.cell 1
          have q0 := (cellB (o := 0) hB1.out hpe).trans hee.out
          have hzs := k1.out.lt
          go_wp2
          go_quiet ((go_at_call 67; exact quiet_left (hLW.out _ (below_drewN hB1.out _))))
          have hB2 := hide (below_drewN hB1.out nq)
          have k2 := hide (Blk.drewN k1.out nq)
          clear hB1 k1 g0 g1 q0
          generalize w1.drewN nq = w2 at *
          go_wp2
          go_ret
          exact ⟨rfl, hB2.out⟩
        · have b1 : (eb == 1) = false := by rw [beq_eq_false_iff_ne]; exact e1
          have b0 : (eb == 0) = false := by rw [beq_eq_false_iff_ne]; exact e0
          have b2 : (eb != 0) = true := by rw [bne_iff_ne]; exact e0
          replace e1 := hide e1
          replace e0 := hide e0
          replace hl := hide hl
          go_enter Try.func121, Try.ntmps121
          go_wp2_with fail
          refine (within_one _ _ ea _ _ _ _ (by go_simp)).mono ?_
          rintro e w2 ⟨rfl, rfl⟩
          rw [h00.out]
          generalize ((w.alloc (.cells #[.int .i64 ea, .int .i64 eb, .int .i64 ec, .int .i64 ed, .int .i64 ee] 78)).alloc (.cells #[.int .i64 ea] 3)) = w1 at *
          have g0 : w1.cell? ⟨w.heap.size, 0, none⟩ = some (.int .i64 ea) := k1.out.cell 0
          have g1 : w1.cell? ⟨w.heap.size, 1, none⟩ = some (.int .i64 eb) := k1.out.cell 1
          have q0 := (cellB (o := 0) hB1.out hpe).trans hee.out
          have hzs := k1.out.lt
          go_wp2
          go_quiet ((go_at_call 67; exact quiet_left (hLW.out _ (below_drewN hB1.out _))))
          have hB2 := hide (below_drewN hB1.out nq)
          have k2 := hide (Blk.drewN k1.out nq)
          clear hB1 k1 g0 g1 q0
          generalize w1.drewN nq = w2 at *
          go_wp2
          go_ret
          exact ⟨rfl, hB2.out⟩
    · rw [if_neg hl] at hz
      have hlb : decide (ea < lw) = false := decide_eq_false hl
      by_cases e1 : eb = 1
      · subst e1
        rw [if_pos rfl] at hz
        replace hz := hide hz
        replace hl := hide hl
        go_enter Try.func121, Try.ntmps121
        go_wp2_with fail
        refine (within_one _ _ ea _ _ _ _ (by go_simp)).mono ?_
        rintro e w2 ⟨rfl, rfl⟩
        rw [h00.out]
        generalize ((w.alloc (.cells #[.int .i64 ea, .int .i64 1, .int .i64 ec, .int .i64 ed, .int .i64 ee] 78)).alloc (.cells #[.int .i64 ea] 3)) = w1 at *
        have g0 : w1.cell? ⟨w.heap.size, 0, none⟩ = some (.int .i64 ea) := k1.out.cell 0
        have g1 : w1.cell? ⟨w.heap.size, 1, none⟩ = some (.int .i64 1) := k1.out.cell 1
        have q0 := (cellB (o := 0) hB1.out hpe).trans hee.out
        have hzs := k1.out.lt
        go_wp2
        go_quiet ((go_at_call 67; exact quiet_left (hLW.out _ (below_drewN hB1.out _))))
        have hB2 := hide (below_drewN hB1.out nq)
        have k2 := hide (Blk.drewN k1.out nq)
        clear hB1 k1 g0 g1 q0
        generalize w1.drewN nq = w2 at *
        have g2 : w2.cell? ⟨w.heap.size, 2, none⟩ = some (.int .i64 ec) := k2.out.cell 2
        have r0 := (cellB (o := 0) hB2.out hps).trans hs00.out
        have r1 := (cellB (o := 1) hB2.out hps).trans hs11.out
        go_wp2_with fail
        refine (hSk.out ec _).mono ?_
        rintro e w3 ⟨rfl, hb3⟩
        have hB3 := hide (hB2.out.trans (hb3.mono hB2.out.size))
        have k3 := hide (k2.out.below hb3 k2.out.lt)
        clear hb3 g2 r0 r1
        cases hs : inB 0 ((n : Int) - 1) ec with
        | false =>
          have hz := hz.out
          rw [hs, if_neg (by simp)] at hz
          subst hz
          clear hs
          go_wp2
          go_ret
          exact ⟨rfl, hB3.out⟩
        | true =>
          have hz := hz.out
          rw [hs, if_pos rfl] at hz
          replace hz := hide hz
          clear hs
          have g3 : w3.cell? ⟨w.heap.size, 3, none⟩ = some (.int .i64 ed) := k3.out.cell 3
          have r0 := (cellB (o := 0) hB3.out hps).trans hs00.out
          have r1 := (cellB (o := 1) hB3.out hps).trans hs11.out
          go_wp2_with fail
          refine (hIn.out ed _).mono ?_
          rintro e w4 ⟨rfl, hb4⟩
          have hB4 := hide (hB3.out.trans (hb4.mono hB3.out.size))
          have k4 := hide (k3.out.below hb4 k3.out.lt)
          clear hb4 g3 r0 r1
          cases hs : inB 0 ((n2 : Int) - 1) ed with
          | false =>
            have hz := hz.out
            rw [hs, if_neg (by simp)] at hz
            subst hz
            clear hs
            go_wp2
            go_ret
            exact ⟨rfl, hB4.out⟩
          | true =>
            have hz := hz.out
            rw [hs, if_pos rfl] at hz
            replace hz := hide hz
            clear hs
            have g4 : w4.cell? ⟨w.heap.size, 4, none⟩ = some (.int .i64 ee) := k4.out.cell 4
            have hB5 := hide (hB4.out.alloc hB4.out.size (.cells #[.int .i64 ee] 3))
            go_wp2_with fail
            refine (within_one _ _ ee _ _ _ _ (by go_simp)).mono ?_
            rintro e w5 ⟨rfl, rfl⟩
            clear g4
            cases hs : inB 0 1000 ee with
            | false =>
              have hz := hz.out
              rw [hs, if_neg (by simp)] at hz
              subst hz
              clear hs
              go_wp2
              go_ret
              exact ⟨rfl, hB5.out⟩
            | true =>
              have hz := hz.out
              rw [hs, if_pos rfl] at hz
              subst hz
              clear hs
              go_wp2
              go_ret
              exact ⟨rfl, hB5.out⟩
      · by_cases e0 : eb = 0
        · subst e0
          rw [if_neg (by omega), if_pos rfl] at hz
          clear e1
          replace hz := hide hz
          replace hl := hide hl
          go_enter Try.func121, Try.ntmps121
          go_wp2_with fail
          refine (within_one _ _ ea _ _ _ _ (by go_simp)).mono ?_
          rintro e w2 ⟨rfl, rfl⟩
          rw [h00.out]
          generalize ((w.alloc (.cells #[.int .i64 ea, .int .i64 0, .int .i64 ec, .int .i64 ed, .int .i64 ee] 78)).alloc (.cells #[.int .i64 ea] 3)) = w1 at *
          have g0 : w1.cell? ⟨w.heap.size, 0, none⟩ = some (.int .i64 ea) := k1.out.cell 0
          have g1 : w1.cell? ⟨w.heap.size, 1, none⟩ = some (.int .i64 0) := k1.out.cell 1
          have q0 := (cellB (o := 0) hB1.out hpe).trans hee.out
          have hzs := k1.out.lt
          go_wp2
          go_quiet ((go_at_call 67; exact quiet_left (hLW.out _ (below_drewN hB1.out _))))
          have hB2 := hide (below_drewN hB1.out nq)
          have k2 := hide (Blk.drewN k1.out nq)
          clear hB1 k1 g0 g1 q0
          generalize w1.drewN nq = w2 at *
          have g2 : w2.cell? ⟨w.heap.size, 2, none⟩ = some (.int .i64 ec) := k2.out.cell 2
          have r0 := (cellB (o := 0) hB2.out hps).trans hs00.out
          have r1 := (cellB (o := 1) hB2.out hps).trans hs11.out
          go_wp2_with fail
          refine (hSk.out ec _).mono ?_
          rintro e w3 ⟨rfl, hb3⟩
          have hB3 := hide (hB2.out.trans (hb3.mono hB2.out.size))
          have k3 := hide (k2.out.below hb3 k2.out.lt)
          clear hb3 g2 r0 r1
          cases hs : inB 0 ((n : Int) - 1) ec with
          | false =>
            have hz := hz.out
            rw [hs, if_neg (by simp)] at hz
            subst hz
            clear hs
            go_wp2
            go_ret
            exact ⟨rfl, hB3.out⟩
          | true =>
            have hz := hz.out
            rw [hs, if_pos rfl] at hz
            subst hz
            clear hs
            go_wp2
            go_ret
            exact ⟨rfl, hB3.out⟩
        · have b1 : (eb == 1) = false := by rw [beq_eq_false_iff_ne]; exact e1
          have b0 : (eb == 0) = false := by rw [beq_eq_false_iff_ne]; exact e0
          have b2 : (eb != 0) = true := by rw [bne_iff_ne]; exact e0
          rw [if_neg e1, if_neg e0] at hz
          subst hz
          replace e1 := hide e1
          replace e0 := hide e0
          replace hl := hide hl
          go_enter Try.func121, Try.ntmps121
          go_wp2_with fail
          refine (within_one _ _ ea _ _ _ _ (by go_simp)).mono ?_
          rintro e w2 ⟨rfl, rfl⟩
          rw [h00.out]
          generalize ((w.alloc (.cells #[.int .i64 ea, .int .i64 eb, .int .i64 ec, .int .i64 ed, .int .i64 ee] 78)).alloc (.cells #[.int .i64 ea] 3)) = w1 at *
          have g0 : w1.cell? ⟨w.heap.size, 0, none⟩ = some (.int .i64 ea) := k1.out.cell 0
          have g1 : w1.cell? ⟨w.heap.size, 1, none⟩ = some (.int .i64 eb) := k1.out.cell 1
          have q0 := (cellB (o := 0) hB1.out hpe).trans hee.out
          have hzs := k1.out.lt
          go_wp2
          go_quiet ((go_at_call 67; exact quiet_left (hLW.out _ (below_drewN hB1.out _))))
          have hB2 := hide (below_drewN hB1.out nq)
          have k2 := hide (Blk.drewN k1.out nq)
          clear hB1 k1 g0 g1 q0
          generalize w1.drewN nq = w2 at *
          go_wp2
          go_ret
          exact ⟨rfl, hB2.out⟩
end Go.Proofs.Ytkhijdbigpaagaa

/-
  historyError of package skill.
-/
namespace Go.Proofs.Ytkhijdbigpaagaa
open Go.RowKit RG

/-- The error of the first of events that has one. -/
def evsErr (n n2 : Nat) (es : List Ev) : Nat → Int := fun i => evErr n n2 (lastW (es.take i)) (es[i]?.getD default)
def evsE (n n2 : Nat) (es : List Ev) : Int := if 60 < es.length then 3 else (firstErr (evsErr n n2 es) 0 es.length).2
/-- What historyError answers. -/
def histE (S : Sch) (rs : List Sp) (es : List Ev) : Int :=
  if (checkS S).2.2 = 0 then (if rangesE S.sks.length rs = 0 then evsE S.sks.length S.ins.length es else rangesE S.sks.length rs) else (checkS S).2.2

theorem enters_ev : ∀ args w, (callFunc 121 args).run Try.prog w = .ok (.enter 121 args) w := fun _ _ => by kernel_rfl
theorem isEv (es : List Ev) : ∀ x ∈ es.map evCells, IsEv x := by
  intro x hx
  obtain ⟨s, _, rfl⟩ := List.mem_map.1 hx
  exact ⟨_, _, _, _, _, rfl⟩
theorem firstEv (A A2 B : Option Addr) (n c n2 c2 m cb : Nat) (es : List Ev) (pe ps : Nat) (w : World) (hn : n ≤ maxLen) (hn2 : n2 ≤ maxLen) (h : RdRow w B m 5 (es.map evCells)) (hm : m ≤ maxLen) (hcap : m ≤ cb)
    (he : w.cell? ⟨pe, 0, none⟩ = some (.slice B m cb)) (hs0 : w.cell? ⟨ps, 0, none⟩ = some (.slice A n c)) (hs1 : w.cell? ⟨ps, 1, none⟩ = some (.slice A2 n2 c2)) :
    Calls Try.prog 100 #[.slice B m cb, .func (.func 121) #[] #[.pointer (some ⟨pe, 0, none⟩), .pointer (some ⟨ps, 0, none⟩)]] w fun e w' =>
      e = .returned (.tuple #[.int .i64 (firstErr (evsErr n n2 es) 0 m).1, .int .i64 (firstErr (evsErr n n2 es) 0 m).2]) ∧ Below w.heap.size w w' :=
  firstErrorEv 121 #[] #[.pointer (some ⟨pe, 0, none⟩), .pointer (some ⟨ps, 0, none⟩)] enters_ev _ B m cb _ w h (isEv es) hm fun j W hj hb => by
    have hl : es.length = m := by have := h.1; simpa using this
    rw [map_at evCells es j (by omega)]
    have := evErr1_any A A2 B n c n2 c2 m cb j es (es[j]?.getD default) pe ps W hn hn2 (h.below hb) hm hcap hj ((cellB hb (lt_of_cell he)).trans he) ((cellB hb (lt_of_cell hs0)).trans hs0) ((cellB hb (lt_of_cell hs1)).trans hs1)
    simpa [evsErr] using this
/-- The closure that tells the errors of events. -/
def EvClos (x0 x1 z : Value) : Value → World → Prop := fun v w => ∃ p q, v = .func (.func 121) #[] #[.pointer (some ⟨q, 0, none⟩), .pointer (some ⟨p, 0, none⟩)] ∧ w.cell? ⟨p, 0, none⟩ = some x0 ∧ w.cell? ⟨p, 1, none⟩ = some x1 ∧ w.cell? ⟨q, 0, none⟩ = some z
theorem eventErrors_any (A A2 B : Option Addr) (n c n2 c2 m cb : Nat) (w : World) :
    Calls Try.prog 101 #[.agg #[.slice A n c, .slice A2 n2 c2], .slice B m cb] w fun e w' => (∃ v, e = .returned v ∧ EvClos (.slice A n c) (.slice A2 n2 c2) (.slice B m cb) v w') ∧ Below w.heap.size w w' := by
  go_enter Try.func101, Try.ntmps101
  go_wp2
  go_ret
  exact ⟨⟨_, rfl, w.heap.size, w.heap.size + 1, rfl, by go_simp, by go_simp, by go_simp⟩, ((Below.refl _ _).alloc (Nat.le_refl _) _).alloc (by simp) _⟩

set_option maxRecDepth 100000 in
set_option maxHeartbeats 2000000 in
theorem historyError_any (v : Value) (S : Sch) (L B : Option Addr) (k cl m cb : Nat) (rs : List Sp) (es : List Ev) (w : World) (h : RdSch w v S) (hls : RdRow w L k 2 (rs.map tkCells)) (hk : k ≤ maxLen)
    (hes : RdRow w B m 5 (es.map evCells)) (hm : m ≤ maxLen) (hcap : m ≤ cb) :
    Calls Try.prog 66 #[v, .slice L k cl, .slice B m cb] w fun e w' => e = .returned (.int .i64 (histE S rs es)) ∧ Below w.heap.size w w' := by
  have hel : es.length = m := by have := hes.1; simpa using this
  have hT := hide (fun W (hb : Below w.heap.size w W) => CheckS_any v S W (h.below hb))
  obtain ⟨A, c, A2, c2, rfl, -, h3, -, -, -, h4, -⟩ := h
  have hG := hide (fun W (hb : Below w.heap.size w W) => rangesError_any A A2 L S.sks.length c S.ins.length c2 k cl rs W h3 (hls.below hb) hk)
  have hF := hide (fun pe ps W (hb : Below w.heap.size w W) => firstEv A A2 B S.sks.length c S.ins.length c2 m cb es pe ps W h3 h4 (hes.below hb) hm hcap)
  have hE := hide (fun W => eventErrors_any A A2 B S.sks.length c S.ins.length c2 m cb W)
  obtain ⟨r, hr⟩ : ∃ r, histE S rs es = r := ⟨_, rfl⟩
  rw [hr]
  unfold histE evsE at hr
  rw [hel] at hr
  unfold Ret3 at hT
  generalize checkS S = q at *
  generalize rangesE S.sks.length rs = g at *
  generalize firstErr (evsErr S.sks.length S.ins.length es) 0 m = f at *
  generalize S.sks.length = n at *
  generalize S.ins.length = n2 at *
  obtain ⟨q0, q1, q2⟩ := q
  obtain ⟨f0, f1⟩ := f
  simp only at hr hT hF
  clear hls hes hk hcap h3 h4
  unfold maxLen at hm
  replace hel := hide hel
  have hB0 := hide (show Below w.heap.size w (w.alloc (.cells #[.slice A n c, .slice A2 n2 c2] 25)) from (Below.refl _ _).alloc (Nat.le_refl _) _)
  have k0 := hide (show Blk (w.alloc (.cells #[.slice A n c, .slice A2 n2 c2] 25)) w.heap.size 25 #[.slice A n c, .slice A2 n2 c2] from (blkNew rfl))
  by_cases h2 : q2 = 0
  · subst h2
    rw [if_pos rfl] at hr
    by_cases hg : g = 0
    · subst hg
      rw [if_pos rfl] at hr
      by_cases h60 : 60 < m
      · rw [if_pos h60] at hr
        subst hr
        have h60z : (60 : Int) < (m : Int) := by omega
        go_enter Try.func66, Try.ntmps66
        go_wp2_with fail
        refine (hT.out _ hB0.out).mono ?_
        rintro e w1 ⟨rfl, hb1⟩
        have hB1 := hide (hB0.out.trans (hb1.mono (by simp +arith)))
        have k2 := hide (k0.out.below hb1 k0.out.lt)
        have x0 : w1.cell? ⟨w.heap.size, 0, none⟩ = some (.slice A n c) := k2.out.cell 0
        have x1 : w1.cell? ⟨w.heap.size, 1, none⟩ = some (.slice A2 n2 c2) := k2.out.cell 1
        clear hb1 hB0 k0 hT
        go_wp2_with fail
        refine (hG.out _ hB1.out).mono ?_
        rintro e w3 ⟨rfl, hb3⟩
        have hB3 := hide (hB1.out.trans (hb3.mono hB1.out.size))
        clear hb3 hG x0 x1 hB1
        go_wp2
        go_ret
        exact ⟨rfl, hB3.out⟩
      · rw [if_neg h60] at hr
        subst hr
        have h60z : ¬ (60 : Int) < (m : Int) := by omega
        go_enter Try.func66, Try.ntmps66
        go_wp2_with fail
        refine (hT.out _ hB0.out).mono ?_
        rintro e w1 ⟨rfl, hb1⟩
        have hB1 := hide (hB0.out.trans (hb1.mono (by simp +arith)))
        have k2 := hide (k0.out.below hb1 k0.out.lt)
        have x0 : w1.cell? ⟨w.heap.size, 0, none⟩ = some (.slice A n c) := k2.out.cell 0
        have x1 : w1.cell? ⟨w.heap.size, 1, none⟩ = some (.slice A2 n2 c2) := k2.out.cell 1
        clear hb1 hB0 k0 hT
        go_wp2_with fail
        refine (hG.out _ hB1.out).mono ?_
        rintro e w3 ⟨rfl, hb3⟩
        have hB3 := hide (hB1.out.trans (hb3.mono hB1.out.size))
        have k3 := hide (k2.out.below hb3 k2.out.lt)
        clear hb3 hG x0 x1 hB1
        have x0 : w3.cell? ⟨w.heap.size, 0, none⟩ = some (.slice A n c) := k3.out.cell 0
        have x1 : w3.cell? ⟨w.heap.size, 1, none⟩ = some (.slice A2 n2 c2) := k3.out.cell 1
        go_wp2_with fail
        refine (hE.out _).mono ?_
        rintro e w4 ⟨⟨v, rfl, p, s, rfl, y0, y1, y2⟩, hb4⟩
        have hB4 := hide (hB3.out.trans (hb4.mono hB3.out.size))
        have hF2 := hide (hF.out s p w4 hB4.out y2 y0 y1)
        clear hb4 hE hF x0 x1 hB3 y0 y1 y2
        go_wp2_with fail
        refine hF2.out.mono ?_
        rintro e w5 ⟨rfl, hb5⟩
        have hB5 := hide (hB4.out.trans (hb5.mono hB4.out.size))
        clear hb5 hF2 hB4
        go_wp2
        go_ret
        exact ⟨rfl, hB5.out⟩
    · rw [if_neg hg] at hr
      subst hr
      have hb1 : (g == 0) = false := by rw [beq_eq_false_iff_ne]; exact hg
      have hb2 : (g != 0) = true := by rw [bne_iff_ne]; exact hg
      replace hg := hide hg
      go_enter Try.func66, Try.ntmps66
      go_wp2_with fail
      refine (hT.out _ hB0.out).mono ?_
      rintro e w1 ⟨rfl, hb1'⟩
      have hB1 := hide (hB0.out.trans (hb1'.mono (by simp +arith)))
      have k2 := hide (k0.out.below hb1' k0.out.lt)
      have x0 : w1.cell? ⟨w.heap.size, 0, none⟩ = some (.slice A n c) := k2.out.cell 0
      have x1 : w1.cell? ⟨w.heap.size, 1, none⟩ = some (.slice A2 n2 c2) := k2.out.cell 1
      clear hb1' hB0 k0 hT
      go_wp2_with fail
      refine (hG.out _ hB1.out).mono ?_
      rintro e w3 ⟨rfl, hb3⟩
      have hB3 := hide (hB1.out.trans (hb3.mono hB1.out.size))
      clear hb3 hG x0 x1 hB1
      go_wp2
      go_ret
      exact ⟨rfl, hB3.out⟩
  · rw [if_neg h2] at hr
    subst hr
    have hb1 : (q2 == 0) = false := by rw [beq_eq_false_iff_ne]; exact h2
    have hb2 : (q2 != 0) = true := by rw [bne_iff_ne]; exact h2
    replace h2 := hide h2
    clear hG
    go_enter Try.func66, Try.ntmps66
    go_wp2_with fail
    refine (hT.out _ hB0.out).mono ?_
    rintro e w1 ⟨rfl, hb1'⟩
    have hB1 := hide (hB0.out.trans (hb1'.mono (by simp +arith)))
    clear hb1' hB0 k0 hT
    go_wp2
    go_ret
    exact ⟨rfl, hB1.out⟩
end Go.Proofs.Ytkhijdbigpaagaa

/-
  The closures of a level of package skill.
-/
namespace Go.Proofs.Ytkhijdbigpaagaa
open Go.RowKit RG

theorem only_drewN {a w : World} {row : Option Nat} (h : a.grownBy w row) (n : Nat) : a.grownBy (w.drewN n) row := ⟨h.os, h.tape, h.output, h.size, h.block⟩
theorem only_drew {a w : World} {row : Option Nat} (h : a.grownBy w row) : a.grownBy w.drew row := ⟨h.os, h.tape, h.output, h.size, h.block⟩
theorem only_trans {a b c : World} {row : Option Nat} (h : a.grownBy b row) (k : b.grownBy c row) : a.grownBy c row :=
  ⟨k.os.trans h.os, k.tape.trans h.tape, k.output.trans h.output, Nat.le_trans h.size k.size, fun i hi hn => (k.block i (Nat.lt_of_lt_of_le hi h.size) hn).trans (h.block i hi hn)⟩
theorem only_setCell {a w : World} {g : Nat} (h : a.grownBy w (some g)) {p : Addr} (hp : p.block = g ∨ a.heap.size ≤ p.block) (u : Value) : a.grownBy (w.setCell p u) (some g) :=
  ⟨h.os, h.tape, h.output, by simpa [World.setCell] using h.size, fun i hi hne => (Below.heap_setCell w p u i (by
    rintro rfl
    rcases hp with hp | hp
    · exact hne (by rw [hp])
    · omega)).trans (h.block i hi hne)⟩
theorem only_of_below {a w : World} {row : Option Nat} (h : Below a.heap.size a w) : a.grownBy w row := ⟨h.os, h.tape, h.output, h.size, fun i hi _ => h.block i hi⟩
theorem only_below {a w : World} {g B : Nat} (h : a.grownBy w (some g)) (hB : B ≤ g) (hs : B ≤ a.heap.size) : Below B a w :=
  ⟨h.os, h.tape, h.output, h.size, fun k hk => h.block k (by omega) (by simp; omega)⟩
theorem only_cell {a w : World} {g b o : Nat} (h : a.grownBy w (some g)) (hb : b < a.heap.size) (hne : b ≠ g) : w.cell? ⟨b, o, none⟩ = a.cell? ⟨b, o, none⟩ :=
  World.cell?_of_block (h.block b hb (by simpa using hne))

def ptr (g : Nat) : Value := .pointer (some ⟨g, 0, none⟩)
/-- The cells of a level whose range lies in block g. -/
def lvCells (g : Nat) : List Value := [.func (.func 129) #[] #[ptr g], .func (.func 130) #[] #[ptr g], .func (.func 131) #[] #[ptr g], .func (.func 132) #[] #[ptr g]]
def spC (lo hi : Int) : Array Value := #[.int .i64 lo, .int .i64 hi]

theorem set2 {w : World} {g : Nat} {lo hi a b : Int} (h : Blk w g 32 (spC lo hi)) : Blk ((w.setCell ⟨g, 0, none⟩ (.int .i64 a)).setCell ⟨g, 1, none⟩ (.int .i64 b)) g 32 (spC a b) := by
  have := (h.set_ 0 (.int .i64 a)).set_ 1 (.int .i64 b)
  simpa [spC] using this

set_option maxRecDepth 100000 in
set_option maxHeartbeats 2000000 in
theorem newLevel_any (lo hi : Int) (w : World) : Calls Try.prog 122 #[.agg #[.int .i64 lo, .int .i64 hi]] w fun e w' => e = .returned (.agg (lvCells w.heap.size).toArray) ∧ Below w.heap.size w w' ∧ Blk w' w.heap.size 32 (spC lo hi) := by
  unfold lvCells ptr spC
  go_enter Try.func122, Try.ntmps122
  go_wp2
  refine bodyPost_ret (v := .agg #[.func (.func 129) #[] #[.pointer (some ⟨w.heap.size, 0, none⟩)], .func (.func 130) #[] #[.pointer (some ⟨w.heap.size, 0, none⟩)], .func (.func 131) #[] #[.pointer (some ⟨w.heap.size, 0, none⟩)], .func (.func 132) #[] #[.pointer (some ⟨w.heap.size, 0, none⟩)]]) (by simp [results, Try.results122, go_sem]) rfl ⟨rfl, ?_, ?_⟩
  · exact ((Below.refl _ _).alloc (Nat.le_refl _) _).alloc (by simp) _
  · exact (blkNew rfl).alloc _

set_option maxHeartbeats 1000000 in
theorem raise_any (lo hi a b : Int) (g : Nat) (w : World) (hb : Blk w g 32 (spC lo hi)) (h : 0 ≤ lo ∧ lo ≤ 1000 ∧ 0 ≤ hi ∧ hi ≤ 1000) (h' : 0 ≤ a ∧ a ≤ 1000 ∧ 0 ≤ b ∧ b ≤ 1000) :
    Calls Try.prog 129 #[.agg #[.int .i64 a, .int .i64 b], ptr g] w fun e w' => e = .returned (.tuple #[]) ∧ w.grownBy w' (some g) ∧ Blk w' g 32 (spC (lim (lo + a)) (lim (hi + b))) := by
  unfold ptr
  have e1 : IntKind.i64.wrap (lo + a) = lo + a := by rw [IntKind.wrap_i64]; omega
  have e2 : IntKind.i64.wrap (hi + b) = hi + b := by rw [IntKind.wrap_i64]; omega
  have hL := hide (fun W => limited_any (lo + a) (hi + b) W)
  have hB0 := hide (show Below w.heap.size w (w.alloc (.cells #[.int .i64 a, .int .i64 b] 32)) from (Below.refl _ _).alloc (Nat.le_refl _) _)
  have hlt := hb.lt
  have k0 := hide (hb.alloc (.cells #[.int .i64 a, .int .i64 b] 32))
  have k1 := hide (show Blk (w.alloc (.cells #[.int .i64 a, .int .i64 b] 32)) w.heap.size 32 (spC a b) from blkNew rfl)
  clear hb
  go_enter Try.func129, Try.ntmps129
  have z0 : (w.alloc (.cells #[.int .i64 a, .int .i64 b] 32)).cell? ⟨g, 0, none⟩ = some (.int .i64 lo) := k0.out.cell 0
  have z1 : (w.alloc (.cells #[.int .i64 a, .int .i64 b] 32)).cell? ⟨g, 1, none⟩ = some (.int .i64 hi) := k0.out.cell 1
  have y0 : (w.alloc (.cells #[.int .i64 a, .int .i64 b] 32)).cell? ⟨w.heap.size, 0, none⟩ = some (.int .i64 a) := k1.out.cell 0
  have y1 : (w.alloc (.cells #[.int .i64 a, .int .i64 b] 32)).cell? ⟨w.heap.size, 1, none⟩ = some (.int .i64 b) := k1.out.cell 1
  go_wp2_with fail
  generalize (w.alloc (.cells #[.int .i64 a, .int .i64 b] 32)) = w1 at *
  refine (hL.out _).mono ?_
  rintro e w2 ⟨rfl, hb2⟩
  have k2 := hide (k0.out.below hb2 k0.out.lt)
  have hG2 := hide (only_of_below (row := some g) (hB0.out.trans (hb2.mono hB0.out.size)))
  clear z0 z1 y0 y1 hb2 hL
  have z0 : w2.cell? ⟨g, 0, none⟩ = some (.int .i64 lo) := k2.out.cell 0
  have z1 : w2.cell? ⟨g, 1, none⟩ = some (.int .i64 hi) := k2.out.cell 1
  have f0 : w2.frozen? ⟨g, 0, none⟩ = false := k2.out.frozen 0
  have f1 : w2.frozen? ⟨g, 1, none⟩ = false := k2.out.frozen 1
  go_wp2
  go_end0
  exact ⟨rfl, only_setCell (only_setCell hG2.out (.inl rfl) _) (.inl rfl) _, set2 k2.out⟩
set_option maxHeartbeats 1000000 in
theorem lower_any (lo hi a b : Int) (g : Nat) (w : World) (hb : Blk w g 32 (spC lo hi)) (h : 0 ≤ lo ∧ lo ≤ 1000 ∧ 0 ≤ hi ∧ hi ≤ 1000) (h' : 0 ≤ a ∧ a ≤ 1000 ∧ 0 ≤ b ∧ b ≤ 1000) :
    Calls Try.prog 130 #[.agg #[.int .i64 a, .int .i64 b], ptr g] w fun e w' => e = .returned (.tuple #[]) ∧ w.grownBy w' (some g) ∧ Blk w' g 32 (spC (lim (lo - b)) (lim (hi - a))) := by
  unfold ptr
  have e1 : IntKind.i64.wrap (lo - b) = lo - b := by rw [IntKind.wrap_i64]; omega
  have e2 : IntKind.i64.wrap (hi - a) = hi - a := by rw [IntKind.wrap_i64]; omega
  have hL := hide (fun W => limited_any (lo - b) (hi - a) W)
  have hB0 := hide (show Below w.heap.size w (w.alloc (.cells #[.int .i64 a, .int .i64 b] 32)) from (Below.refl _ _).alloc (Nat.le_refl _) _)
  have hlt := hb.lt
  have k0 := hide (hb.alloc (.cells #[.int .i64 a, .int .i64 b] 32))
  have k1 := hide (show Blk (w.alloc (.cells #[.int .i64 a, .int .i64 b] 32)) w.heap.size 32 (spC a b) from blkNew rfl)
  clear hb
  go_enter Try.func130, Try.ntmps130
  have z0 : (w.alloc (.cells #[.int .i64 a, .int .i64 b] 32)).cell? ⟨g, 0, none⟩ = some (.int .i64 lo) := k0.out.cell 0
  have z1 : (w.alloc (.cells #[.int .i64 a, .int .i64 b] 32)).cell? ⟨g, 1, none⟩ = some (.int .i64 hi) := k0.out.cell 1
  have y0 : (w.alloc (.cells #[.int .i64 a, .int .i64 b] 32)).cell? ⟨w.heap.size, 0, none⟩ = some (.int .i64 a) := k1.out.cell 0
  have y1 : (w.alloc (.cells #[.int .i64 a, .int .i64 b] 32)).cell? ⟨w.heap.size, 1, none⟩ = some (.int .i64 b) := k1.out.cell 1
  go_wp2_with fail
  generalize (w.alloc (.cells #[.int .i64 a, .int .i64 b] 32)) = w1 at *
  refine (hL.out _).mono ?_
  rintro e w2 ⟨rfl, hb2⟩
  have k2 := hide (k0.out.below hb2 k0.out.lt)
  have hG2 := hide (only_of_below (row := some g) (hB0.out.trans (hb2.mono hB0.out.size)))
  clear z0 z1 y0 y1 hb2 hL
  have z0 : w2.cell? ⟨g, 0, none⟩ = some (.int .i64 lo) := k2.out.cell 0
  have z1 : w2.cell? ⟨g, 1, none⟩ = some (.int .i64 hi) := k2.out.cell 1
  have f0 : w2.frozen? ⟨g, 0, none⟩ = false := k2.out.frozen 0
  have f1 : w2.frozen? ⟨g, 1, none⟩ = false := k2.out.frozen 1
  go_wp2
  go_end0
  exact ⟨rfl, only_setCell (only_setCell hG2.out (.inl rfl) _) (.inl rfl) _, set2 k2.out⟩
set_option maxHeartbeats 1000000 in
theorem now_any (lo hi : Int) (g : Nat) (w : World) (hb : Blk w g 32 (spC lo hi)) :
    Calls Try.prog 132 #[ptr g] w fun e w' => e = .returned (.agg #[.int .i64 lo, .int .i64 hi]) ∧ Below w.heap.size w w' := by
  unfold ptr
  have k0 := hide (hb.alloc (.cells #[.int .i64 0, .int .i64 0] 32))
  clear hb
  have z0 : (w.alloc (.cells #[.int .i64 0, .int .i64 0] 32)).cell? ⟨g, 0, none⟩ = some (.int .i64 lo) := k0.out.cell 0
  have z1 : (w.alloc (.cells #[.int .i64 0, .int .i64 0] 32)).cell? ⟨g, 1, none⟩ = some (.int .i64 hi) := k0.out.cell 1
  go_enter Try.func132, Try.ntmps132
  go_wp2
  refine bodyPost_ret (v := .agg #[.int .i64 lo, .int .i64 hi]) (by simp [results, Try.results132, go_sem]) rfl ⟨rfl, (Below.refl _ _).alloc (Nat.le_refl _) _⟩

/-- How a call that narrows a level ends: it panics if the range becomes empty. -/
def Narrowed (q : Bool) (e : Ending) : Prop := match q with
  | true => ∃ u, e = .panicked [{ v := u, recovered := false }] ∧ u = .iface 28 (.int .i64 9)
  | false => e = .returned (.tuple #[])
set_option maxHeartbeats 2000000 in
theorem narrow_any (lo hi a b : Int) (g : Nat) (w : World) (hb : Blk w g 32 (spC lo hi)) :
    Calls Try.prog 131 #[.agg #[.int .i64 a, .int .i64 b], ptr g] w fun e w' =>
      Narrowed (decide (min hi b < max lo a)) e ∧ w.grownBy w' (some g) ∧ Blk w' g 32 (spC (max lo a) (min hi b)) := by
  unfold ptr
  have hL := hide (fun W => both_any lo hi a b W)
  have hE := hide (fun W => isEmpty_any (max lo a) (min hi b) W)
  have hB0 := hide (show Below w.heap.size w (w.alloc (.cells #[.int .i64 a, .int .i64 b] 32)) from (Below.refl _ _).alloc (Nat.le_refl _) _)
  have hlt := hb.lt
  have k0 := hide (hb.alloc (.cells #[.int .i64 a, .int .i64 b] 32))
  have k1 := hide (show Blk (w.alloc (.cells #[.int .i64 a, .int .i64 b] 32)) w.heap.size 32 (spC a b) from blkNew rfl)
  clear hb
  generalize max lo a = x at *
  generalize min hi b = y at *
  have z0 : (w.alloc (.cells #[.int .i64 a, .int .i64 b] 32)).cell? ⟨g, 0, none⟩ = some (.int .i64 lo) := k0.out.cell 0
  have z1 : (w.alloc (.cells #[.int .i64 a, .int .i64 b] 32)).cell? ⟨g, 1, none⟩ = some (.int .i64 hi) := k0.out.cell 1
  generalize hd : decide (y < x) = q at *
  cases q with
  | true =>
    clear hd
    go_enter Try.func131, Try.ntmps131
    go_wp2_with fail
    refine (hL.out _).mono ?_
    rintro e w2 ⟨rfl, hb2⟩
    have k2 := hide (k0.out.below hb2 k0.out.lt)
    have hG2 := hide (only_of_below (row := some g) (hB0.out.trans (hb2.mono hB0.out.size)))
    clear z0 z1 hb2 hL k0 k1 hB0
    have z0 : w2.cell? ⟨g, 0, none⟩ = some (.int .i64 lo) := k2.out.cell 0
    have z1 : w2.cell? ⟨g, 1, none⟩ = some (.int .i64 hi) := k2.out.cell 1
    have f0 : w2.frozen? ⟨g, 0, none⟩ = false := k2.out.frozen 0
    have f1 : w2.frozen? ⟨g, 1, none⟩ = false := k2.out.frozen 1
    have k3 := hide (set2 (a := x) (b := y) k2.out)
    have hG3 := hide (only_setCell (only_setCell hG2.out (p := ⟨g, 0, none⟩) (.inl rfl) (.int .i64 x)) (p := ⟨g, 1, none⟩) (.inl rfl) (.int .i64 y))
    have x0 : ((w2.setCell ⟨g, 0, none⟩ (.int .i64 x)).setCell ⟨g, 1, none⟩ (.int .i64 y)).cell? ⟨g, 0, none⟩ = some (.int .i64 x) := k3.out.cell 0
    have x1 : ((w2.setCell ⟨g, 0, none⟩ (.int .i64 x)).setCell ⟨g, 1, none⟩ (.int .i64 y)).cell? ⟨g, 1, none⟩ = some (.int .i64 y) := k3.out.cell 1
    go_wp2_with fail
    refine (hE.out _).mono ?_
    rintro e w4 ⟨rfl, hb4⟩
    have k4 := hide (k3.out.below hb4 k3.out.lt)
    have hG4 := hide (only_trans hG3.out (only_of_below hb4))
    clear x0 x1 z0 z1 f0 f1 hb4 hE k2 k3 hG2 hG3
    go_wp2
    exact ⟨rfl, ⟨_, rfl, rfl⟩, hG4.out, k4.out⟩
  | false =>
    clear hd
    go_enter Try.func131, Try.ntmps131
    go_wp2_with fail
    refine (hL.out _).mono ?_
    rintro e w2 ⟨rfl, hb2⟩
    have k2 := hide (k0.out.below hb2 k0.out.lt)
    have hG2 := hide (only_of_below (row := some g) (hB0.out.trans (hb2.mono hB0.out.size)))
    clear z0 z1 hb2 hL k0 k1 hB0
    have z0 : w2.cell? ⟨g, 0, none⟩ = some (.int .i64 lo) := k2.out.cell 0
    have z1 : w2.cell? ⟨g, 1, none⟩ = some (.int .i64 hi) := k2.out.cell 1
    have f0 : w2.frozen? ⟨g, 0, none⟩ = false := k2.out.frozen 0
    have f1 : w2.frozen? ⟨g, 1, none⟩ = false := k2.out.frozen 1
    have k3 := hide (set2 (a := x) (b := y) k2.out)
    have hG3 := hide (only_setCell (only_setCell hG2.out (p := ⟨g, 0, none⟩) (.inl rfl) (.int .i64 x)) (p := ⟨g, 1, none⟩) (.inl rfl) (.int .i64 y))
    have x0 : ((w2.setCell ⟨g, 0, none⟩ (.int .i64 x)).setCell ⟨g, 1, none⟩ (.int .i64 y)).cell? ⟨g, 0, none⟩ = some (.int .i64 x) := k3.out.cell 0
    have x1 : ((w2.setCell ⟨g, 0, none⟩ (.int .i64 x)).setCell ⟨g, 1, none⟩ (.int .i64 y)).cell? ⟨g, 1, none⟩ = some (.int .i64 y) := k3.out.cell 1
    go_wp2_with fail
    refine (hE.out _).mono ?_
    rintro e w4 ⟨rfl, hb4⟩
    have k4 := hide (k3.out.below hb4 k3.out.lt)
    have hG4 := hide (only_trans hG3.out (only_of_below hb4))
    clear x0 x1 z0 z1 f0 f1 hb4 hE k2 k3 hG2 hG3
    go_wp2
    go_end0
    exact ⟨rfl, hG4.out, k4.out⟩
end Go.Proofs.Ytkhijdbigpaagaa

/-
  The rule for a region whose order Go leaves open, by one invariant of what is listed, of the values and of the world.
-/
namespace Go.Proofs.Ytkhijdbigpaagaa.RG
open Go

section
variable {P : Program}
/-- The obligation of one operation. -/
def OneI (P : Program) (ops : Array Oper) (I : (Nat → Bool) → (Nat → Value) → World → Prop) (a0 : Act) (i : Nat) (o : Oper) : Prop :=
  ∀ (f : Nat → Bool) (y : Nat → Value) (w : World) (K : Act → World → Prop) (Q : Exit → Act → World → Prop) (Cv : Value → World → Prop), I f y w → f i = false → (∀ e ∈ o.after.toList, Region.binds .any e = true → f e.on = true) →
    (∀ v w', I (fun k => decide (k = i) || f k) (upd y i v) w' → Cv v w') → (∀ v w', Cv v w' → K ((putAll ops.toList 0 y a0).put o.dst v) w') →
    if Region.wanted o (yielded ops (putAll ops.toList 0 y a0).tmps) then o.wp P (putAll ops.toList 0 y a0) w K Q else K ((putAll ops.toList 0 y a0).put o.dst undef) w
def AllI (P : Program) (ops : Array Oper) (I : (Nat → Bool) → (Nat → Value) → World → Prop) (a0 : Act) : List Oper → Nat → Prop
  | [], _ => True
  | o :: r, i => OneI P ops I a0 i o ∧ AllI P ops I a0 r (i + 1)
theorem AllI.get {ops : Array Oper} {I : (Nat → Bool) → (Nat → Value) → World → Prop} {a0 : Act} :
    ∀ {l : List Oper} {i j : Nat} {o : Oper}, AllI P ops I a0 l i → l[j]? = some o → OneI P ops I a0 (i + j) o
  | [], _, _, _, _, hj => by simp at hj
  | o' :: r, i, 0, o, h, hj => by
    simp only [List.getElem?_cons_zero, Option.some.injEq] at hj
    subst hj; exact h.1
  | o' :: r, i, j + 1, o, h, hj => by
    simp only [List.getElem?_cons_succ] at hj
    have := AllI.get h.2 hj
    rwa [show i + (j + 1) = i + 1 + j by omega]
theorem wpAny_inv {ops : Array Oper} {I : (Nat → Bool) → (Nat → Value) → World → Prop} {a0 : Act} {Q : Exit → Act → World → Prop}
    (hok : okB ops.toList 0 = true) (hall : AllI P ops I a0 ops.toList 0)
    (hend : ∀ f y w, (∀ k, k < ops.size → f k = true) → I f y w → Q .normal (putAll ops.toList 0 y a0) w) :
    ∀ (fuel : Nat) (listed : Array Bool) (y : Nat → Value) (w : World), listed.size = ops.size → cnt (fun j => !listed.getD j true) ops.size ≤ fuel →
      I (fun k => listed.getD k false) y w → wpAny P .any ops Q fuel listed (putAll ops.toList 0 y a0) w := by
  have hdone : ∀ (listed : Array Bool) (y : Nat → Value) (w : World), listed.size = ops.size → I (fun k => listed.getD k false) y w →
      (∀ j, j < ops.size → listed.getD j true = true) → Q .normal (putAll ops.toList 0 y a0) w := by
    intro listed y w hs hI hl
    refine hend _ y w (fun k hk => ?_) hI
    have := hl k hk
    simpa [Array.getD, hs, hk] using this
  have hacyc : ∀ (l : List Oper) (i j : Nat) (o : Oper), okB l i = true → l[j]? = some o → ∀ e ∈ o.after, Region.binds .any e = true → e.on < i + j := by
    intro l
    induction l with
    | nil => intro i j o _ hj; simp at hj
    | cons o' r ih =>
      intro i j o h hj e he hbb
      obtain ⟨h1, _, h3⟩ := okB_cons h
      cases j with
      | zero => simp only [List.getElem?_cons_zero, Option.some.injEq] at hj; subst hj; exact h1 e he hbb
      | succ j =>
        simp only [List.getElem?_cons_succ] at hj
        have := ih (i + 1) j o h3 hj e he hbb
        omega
  have hready : ∀ (listed : Array Bool), listed.size = ops.size → Region.ready .any ops listed = [] → ∀ j, j < ops.size → listed.getD j true = true := by
    intro listed hs hr j
    induction j using Nat.strongRecOn with
    | ind j ih =>
      intro hj
      cases hl : listed.getD j true with
      | true => rfl
      | false =>
        have hm : j ∈ Region.ready .any ops listed := by
          rw [mem_ready]
          refine ⟨hl, ops[j], Array.getElem?_eq_getElem hj, fun e he hbb => ?_⟩
          have := hacyc ops.toList 0 j ops[j] hok (by simp [hj]) e he hbb
          have h2 := ih e.on (by omega) (by omega)
          simpa [Array.getD, hs, show e.on < ops.size by omega] using h2
        rw [hr] at hm
        cases hm
  intro fuel
  induction fuel with
  | zero =>
    intro listed y w hs hc hI
    have hall' : ∀ j, j < ops.size → listed.getD j true = true := fun j hj => by
      have := cnt_zero _ _ (Nat.le_zero.1 hc) j hj
      simpa using this
    refine ⟨?_, hdone listed y w hs hI hall'⟩
    rw [List.eq_nil_iff_forall_not_mem]
    intro j hj
    rw [mem_ready] at hj
    obtain ⟨h1, o, ho, _⟩ := hj
    have := hall' j (Array.getElem?_eq_some_iff.1 ho).1
    rw [h1] at this
    cases this
  | succ fuel ih =>
    intro listed y w hs hc hI
    refine ⟨fun hr => hdone listed y w hs hI (hready listed hs hr), fun i hi => ?_⟩
    rw [mem_ready] at hi
    obtain ⟨hl, o, ho, hdep⟩ := hi
    have hlt : i < ops.size := (Array.getElem?_eq_some_iff.1 ho).1
    have hol : ops.toList[i]? = some o := by simpa using ho
    have h1 := AllI.get hall hol
    rw [Nat.zero_add] at h1
    have hset : (fun k => (listed.setIfInBounds i true).getD k false) = fun k => decide (k = i) || listed.getD k false := by
      funext k
      by_cases e : i = k
      · subst e; simp [Array.getD, Array.setIfInBounds, hs, hlt]
      · rw [getD_set_ne false e]
        simp [Ne.symm e]
    have hnext : ∀ v w', I (fun k => decide (k = i) || listed.getD k false) (upd y i v) w' → wpAny P .any ops Q fuel (listed.setIfInBounds i true) ((putAll ops.toList 0 y a0).put o.dst v) w' := by
      intro v w' hI'
      rw [putAll_upd ops.toList 0 i y a0 o v hok hol, Nat.zero_add]
      refine ih _ _ _ (by simpa using hs) ?_ ?_
      · have := cnt_lt (fun j => !listed.getD j true) (fun j => !(listed.setIfInBounds i true).getD j true) (fun j hj => by
          by_cases e : i = j
          · subst e; simp [Array.getD, Array.setIfInBounds, hs, hlt] at hj
          · rw [getD_set_ne true e] at hj; exact hj) i (by simp [hl]) (by simp [Array.getD, Array.setIfInBounds, hs, hlt]) ops.size hlt
        omega
      · rw [hset]; exact hI'
    have hfi : listed.getD i false = false := by
      simpa [Array.getD, hs, hlt] using hl
    have h2 := h1 (fun k => listed.getD k false) y w (wpAny P .any ops Q fuel (listed.setIfInBounds i true)) Q (fun v w' => I (fun k => decide (k = i) || listed.getD k false) (upd y i v) w') hI hfi (fun e he hb => hdep e (by simpa using he) hb)
      (fun v w' h => h) (fun v w' h => hnext _ _ h)
    unfold wpOp
    simp only [ho]
    split
    · rename_i hw; simp only [hw, if_true] at h2; exact .inl h2
    · rename_i hw; simp only [hw] at h2; exact h2

/-- THE RULE by an invariant. -/
theorem region_inv {id : Nat} {Q : Exit → Act → World → Prop} {a : Act} {w : World} {l : List Oper} (I : (Nat → Bool) → (Nat → Value) → World → Prop)
    (hm : P.follows .mixedOrders = true) (hok : okB l 0 = true) (h0 : ∀ y, I (fun _ => false) y w.drew)
    (hall : AllI P l.toArray I a l 0) (hend : ∀ f y w, (∀ k, k < l.length → f k = true) → I f y w → Q .normal (putAll l 0 y a) w) :
    (Code.region id l.toArray true).wp P Q a w := by
  refine wp_region_any hm ?_
  have := wpAny_inv (P := P) (ops := l.toArray) (I := I) (a0 := a) (Q := Q) (by simpa using hok) (by simpa using hall) (by simpa using hend) l.toArray.size
    (Array.replicate l.toArray.size false) (start l a) w.drew (by simp) (cnt_le _ _) (by
      have h := h0 (start l a)
      have e : (fun _ => false : Nat → Bool) = fun k => (Array.replicate l.toArray.size false).getD k false := by
        funext k; rw [getD_replicate_false]
      rw [e] at h
      exact h)
  rw [show (l.toArray).toList = l by simp, putAll_start l 0 (start l a) a (fun j o hj e he => by simp [start, hj, he])] at this
  exact this
/-- The same, with what the slots hold at the start. -/
theorem region_inv_at {id : Nat} {Q : Exit → Act → World → Prop} {a : Act} {w : World} {l : List Oper} (I : (Nat → Bool) → (Nat → Value) → World → Prop)
    (hm : P.follows .mixedOrders = true) (hok : okB l 0 = true) (h0 : I (fun _ => false) (start l a) w.drew)
    (hall : AllI P l.toArray I a l 0) (hend : ∀ f y w, (∀ k, k < l.length → f k = true) → I f y w → Q .normal (putAll l 0 y a) w) :
    (Code.region id l.toArray true).wp P Q a w := by
  refine wp_region_any hm ?_
  have := wpAny_inv (P := P) (ops := l.toArray) (I := I) (a0 := a) (Q := Q) (by simpa using hok) (by simpa using hall) (by simpa using hend) l.toArray.size
    (Array.replicate l.toArray.size false) (start l a) w.drew (by simp) (cnt_le _ _) (by
      have e : (fun _ => false : Nat → Bool) = fun k => (Array.replicate l.toArray.size false).getD k false := by
        funext k; rw [getD_replicate_false]
      rw [e] at h0
      exact h0)
  rw [show (l.toArray).toList = l by simp, putAll_start l 0 (start l a) a (fun j o hj e he => by simp [start, hj, he])] at this
  exact this
end
end Go.Proofs.Ytkhijdbigpaagaa.RG

/-
  Levels in memory; the region in which one of them is appended.
-/
namespace Go.Proofs.Ytkhijdbigpaagaa
open Go.RowKit RG

/-- The value v is the slice of the levels whose ranges rs lie in the blocks gs, all from B on. -/
structure Lvs (w : World) (B : Nat) (v : Value) (gs : List Nat) (rs : List Sp) : Prop where
  own : w.ownsRow B 171 4 v gs.length (gs.flatMap lvCells)
  len : gs.length = rs.length
  blk : ∀ i, i < gs.length → Blk w (gs[i]?.getD 0) 32 (spC (rs[i]?.getD (0, 0)).1 (rs[i]?.getD (0, 0)).2)
  ge : ∀ g ∈ gs, B ≤ g
  nd : gs.Nodup
theorem Lvs.nil (w : World) (B : Nat) : Lvs w B (.slice none 0 0) [] [] := ⟨World.ownsRow_nil _ _ _ _, rfl, fun i hi => by simp at hi, fun g hg => by simp at hg, List.nodup_nil⟩
theorem Lvs.slice {w : World} {B : Nat} {v : Value} {gs : List Nat} {rs : List Sp} (h : Lvs w B v gs rs) : ∃ A c, v = .slice A gs.length c := by
  rcases h.own.2 with ⟨rfl, h0⟩ | ⟨g, cap, cur, rfl, _⟩
  · exact ⟨none, 0, by rw [h0]⟩
  · exact ⟨_, _, rfl⟩
theorem Lvs.at_lt {w : World} {B : Nat} {v : Value} {gs : List Nat} {rs : List Sp} (h : Lvs w B v gs rs) {g : Nat} (hg : g ∈ gs) : g < w.heap.size := by
  obtain ⟨i, hi, rfl⟩ := List.getElem_of_mem hg
  have := (h.blk i hi).lt
  rwa [List.getElem?_eq_getElem hi] at this
theorem flatLv_len (gs : List Nat) : (gs.flatMap lvCells).length = gs.length * 4 := by
  induction gs with
  | nil => rfl
  | cons g gs ih => simp only [List.flatMap_cons, List.length_append, ih, List.length_cons]; simp [lvCells]; omega
theorem own_ne {w : World} {base : Nat} {e t : TypeId} {size : Nat} {v : Value} {n : Nat} {xs : List Value} {g : Nat} {cs : Array Value} (h : w.ownsRow base e size v n xs) (hb : Blk w g t cs) (hne : e ≠ t) : v.ownBlock ≠ some g := by
  rcases h.2 with ⟨rfl, h0⟩ | ⟨g', cap, cur, rfl, _, hg, _⟩
  · simp [Value.ownBlock]
  · intro e1
    have : g' = g := by simpa [Value.ownBlock] using e1
    subst this
    unfold Blk at hb
    rw [hg] at hb
    injection hb with hb
    injection hb with _ hb
    exact hne hb

theorem infoLv : (Try.prog.info? 171).map (fun i => (i.zero, i.size, i.bytes)) = some (some (.agg #[.nilFunc, .nilFunc, .nilFunc, .nilFunc]), 4, 32) := by kernel_rfl

theorem wp_append_lv {w : World} {o : Oper} {a : Act} {K : Act → World → Prop} {Q : Exit → Act → World → Prop} (s x : Operand)
    (ho : o.op = .call { callee := .builtin .append, args := #[s, x], argTypes := #[150, 150] })
    (base : Nat) (i : TypeInfo) (hi : Try.prog.info? 171 = some i) (hz : i.zero = some (.agg #[.nilFunc, .nilFunc, .nilFunc, .nilFunc])) (hsize : i.size = 4) (hby : i.bytes = 32)
    (v : Value) (n : Nat) (xs : List Value) (hs : a.eval s = v) (hown : w.ownsRow base 171 4 v n xs)
    (q g : Nat) (hx : a.eval x = .slice (some ⟨q, 0, none⟩) 1 1) (hq : Blk w q 171 (lvCells g).toArray)
    (h63 : n + 1 ≤ maxLen) (hbytes : (n + 1) * 32 ≤ 140737488355328) (hbase : base ≤ w.heap.size)
    (h : ∀ v' w', w'.ownsRow base 171 4 v' (n + 1) (xs ++ lvCells g) → w.grownBy w' v.ownBlock → (v'.ownBlock = v.ownBlock ∨ v'.ownBlock = some w.heap.size) → K (a.put o.dst v') w') : o.wp Try.prog a w K Q := by
  obtain ⟨v', w', hrun, h2, h3, _, h5⟩ := run_append_own_at (P := Try.prog) w base 150 o.type _ i _ 4 32 Try.underlying150 hi hz hsize hby rfl (by decide) v n xs hown ⟨q, 0, none⟩ 1 1 (lvCells g) rfl (by
    intro j u hj
    have := hq.cell j
    simp only [List.getElem?_toArray] at this
    rw [hj] at this
    by_cases e : j = 0
    · subst e; simpa [Addr.add] using this
    · simpa [Addr.add, e] using this) (by
    intro u hu
    simp only [lvCells, List.mem_cons, List.not_mem_nil, or_false] at hu
    rcases hu with rfl | rfl | rfl | rfl <;> rfl) h63 hbytes hbase
  unfold Oper.wp execOp
  simp only [ho, resolve, invoke, builtin, Sem.run_bind, Sem.run_pure, Result.andThen_ok, List.map_toArray, List.map_cons, List.map_nil, hs, hx, hrun]
  exact h v' w' h2 h3 h5

theorem wanted_if {o : Oper} {ys : Nat → Option Bool} {A B : Prop} (hg : o.guard = none) (h : A) : if Region.wanted o ys = true then A else B := by
  rw [if_pos (by simp [Region.wanted, hg])]
  exact h

/-- A level more is in the slice v. -/
def LvDone (w0 : World) (base : Nat) (v0 : Value) (gs : List Nat) (lo hi : Int) (v : Value) (W : World) : Prop :=
  ∃ g, w0.heap.size ≤ g ∧ w0.grownBy W v0.ownBlock ∧ Blk W g 32 (spC lo hi) ∧ W.ownsRow base 171 4 v (gs.length + 1) (gs.flatMap lvCells ++ lvCells g)
/-- The region in which a level is appended. -/
def LvI (w0 : World) (base p : Nat) (v0 : Value) (gs : List Nat) (lo hi : Int) (f : Nat → Bool) (y : Nat → Value) (W : World) : Prop :=
  (f 5 = false → Below w0.heap.size w0 W) ∧ (f 0 = true → y 0 = .pointer (some ⟨p, 2, none⟩)) ∧ (f 1 = true → y 1 = v0) ∧ (f 2 = true → y 2 = .agg #[.int .i64 lo, .int .i64 hi]) ∧ (f 6 = true → y 6 = .pointer (some ⟨p, 2, none⟩)) ∧
  (f 3 = true → f 5 = false → ∃ g, y 3 = .agg (lvCells g).toArray ∧ w0.heap.size ≤ g ∧ Blk W g 32 (spC lo hi)) ∧
  (f 4 = true → f 5 = false → ∃ g q, y 4 = .slice (some ⟨q, 0, none⟩) 1 1 ∧ w0.heap.size ≤ g ∧ Blk W g 32 (spC lo hi) ∧ Blk W q 171 (lvCells g).toArray ∧ w0.heap.size ≤ q) ∧
  (f 5 = true → f 7 = false → LvDone w0 base v0 gs lo hi (y 5) W) ∧ (f 7 = true → ∃ W', LvDone w0 base v0 gs lo hi (y 5) W' ∧ W = W'.setCell ⟨p, 2, none⟩ (y 5)) ∧
  (f 5 = true → f 1 = true ∧ f 4 = true) ∧ (f 4 = true → f 3 = true) ∧ (f 3 = true → f 2 = true) ∧ (f 7 = true → f 5 = true)
section
variable {w0 W W' : World} {base p : Nat} {v0 : Value} {gs : List Nat} {lo hi : Int} {f : Nat → Bool} {y : Nat → Value} {v : Value}
theorem LvI.start : LvI w0 base p v0 gs lo hi (fun _ => false) y w0.drew := by
  unfold LvI; simp; exact (Below.refl _ _).drew
theorem LvI.f5 (h : LvI w0 base p v0 gs lo hi f y W) {k : Nat} (hk : k = 1 ∨ k = 2 ∨ k = 3 ∨ k = 4) (hf : f k = false) : f 5 = false := by
  unfold LvI at h; rcases hk with rfl | rfl | rfl | rfl <;> grind
theorem LvI.o0 (h : LvI w0 base p v0 gs lo hi f y W) (hv : v = .pointer (some ⟨p, 2, none⟩)) : LvI w0 base p v0 gs lo hi (fun k => decide (k = 0) || f k) (upd y 0 v) W := by
  unfold LvI at *; simp [upd] at *; grind
theorem LvI.o1 (h : LvI w0 base p v0 gs lo hi f y W) (hv : v = v0) : LvI w0 base p v0 gs lo hi (fun k => decide (k = 1) || f k) (upd y 1 v) W := by
  unfold LvI at *; simp [upd] at *; grind
theorem LvI.o2 (h : LvI w0 base p v0 gs lo hi f y W) (hv : v = .agg #[.int .i64 lo, .int .i64 hi]) : LvI w0 base p v0 gs lo hi (fun k => decide (k = 2) || f k) (upd y 2 v) W := by
  unfold LvI at *; simp [upd] at *; grind
theorem LvI.o6 (h : LvI w0 base p v0 gs lo hi f y W) (hv : v = .pointer (some ⟨p, 2, none⟩)) : LvI w0 base p v0 gs lo hi (fun k => decide (k = 6) || f k) (upd y 6 v) W := by
  unfold LvI at *; simp [upd] at *; grind
theorem LvI.o3 (h : LvI w0 base p v0 gs lo hi f y W) (hf : f 3 = false) (h2 : f 2 = true) {g : Nat} (hv : v = .agg (lvCells g).toArray) (hg : W.heap.size ≤ g) (hb : Blk W' g 32 (spC lo hi)) (hB : Below W.heap.size W W') :
    LvI w0 base p v0 gs lo hi (fun k => decide (k = 3) || f k) (upd y 3 v) W' := by
  have h5 := h.f5 (.inr (.inr (.inl rfl))) hf
  obtain ⟨c0, c1, c2, c3, c6, c33, c4, c5, c7, d5, d4, d3, d7⟩ := h
  have hC := c0 h5
  have h4 : f 4 = false := by cases e : f 4 with | false => rfl | true => rw [d4 e] at hf; cases hf
  have h7 : f 7 = false := by cases e : f 7 with | false => rfl | true => rw [d7 e] at h5; cases h5
  have hC' := hC.trans (hB.mono hC.size)
  have hgg : w0.heap.size ≤ g := Nat.le_trans hC.size hg
  unfold LvI; simp [upd]
  exact ⟨fun _ => hC', c1, c2, c3, c6, fun _ => ⟨g, hv, hgg, hb⟩, by simp [h4], by simp [h5], by simp [h7], by simp [h5], h2, by simp [h7]⟩
theorem LvI.o4 (h : LvI w0 base p v0 gs lo hi f y W) (hf : f 4 = false) (h3 : f 3 = true) {g : Nat} (hg : w0.heap.size ≤ g) (hb : Blk W g 32 (spC lo hi)) (hv : v = .slice (some ⟨W.heap.size, 0, none⟩) 1 1) :
    LvI w0 base p v0 gs lo hi (fun k => decide (k = 4) || f k) (upd y 4 v) (W.alloc (.cells (lvCells g).toArray 171)) := by
  have h5 := h.f5 (.inr (.inr (.inr rfl))) hf
  obtain ⟨c0, c1, c2, c3, c6, c33, c4, c5, c7, d5, d4, d3, d7⟩ := h
  have hC := c0 h5
  have h7 : f 7 = false := by cases e : f 7 with | false => rfl | true => rw [d7 e] at h5; cases h5
  unfold LvI; simp [upd]
  refine ⟨fun _ => hC.alloc hC.size _, c1, c2, c3, c6, fun h3 h5 => ?_, fun _ => ⟨g, W.heap.size, hv, hg, hb.alloc _, blkNew rfl, hC.size⟩, by simp [h5], by simp [h7], by simp [h5], h3, d3, by simp [h7]⟩
  obtain ⟨g', e1, e2, e3⟩ := c33 h3 h5
  exact ⟨g', e1, e2, e3.alloc _⟩
theorem LvI.o5 (h : LvI w0 base p v0 gs lo hi f y W) (hf : f 5 = false) (h1 : f 1 = true) (h4 : f 4 = true) (hd : LvDone w0 base v0 gs lo hi v W') : LvI w0 base p v0 gs lo hi (fun k => decide (k = 5) || f k) (upd y 5 v) W' := by
  obtain ⟨c0, c1, c2, c3, c6, c33, c4, c5, c7, d5, d4, d3, d7⟩ := h
  have h7 : f 7 = false := by cases e : f 7 with | false => rfl | true => rw [d7 e] at hf; cases hf
  unfold LvI; simp [upd]
  exact ⟨c1, c2, c3, c6, fun _ => hd, by simp [h7], ⟨h1, h4⟩, d4, d3⟩
theorem LvI.o7 (h : LvI w0 base p v0 gs lo hi f y W) (hf : f 7 = false) (h5 : f 5 = true) : LvI w0 base p v0 gs lo hi (fun k => decide (k = 7) || f k) (upd y 7 v) (W.setCell ⟨p, 2, none⟩ (y 5)) := by
  obtain ⟨c0, c1, c2, c3, c6, c33, c4, c5, c7, d5, d4, d3, d7⟩ := h
  unfold LvI; simp [upd]
  exact ⟨by simp [h5], c1, c2, c3, c6, by simp [h5], by simp [h5], ⟨W, c5 h5 hf, rfl⟩, d5, d4, d3, h5⟩
end
end Go.Proofs.Ytkhijdbigpaagaa
