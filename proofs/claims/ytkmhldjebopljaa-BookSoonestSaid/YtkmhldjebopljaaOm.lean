import Derived.Test.YtkmhldjebopljaaOl
/-
  The error with which a lesson is refused.
-/
namespace Go.Proofs.Ytkmhldjebopljaa
open Go.RowKit RG

/-- What is asked of the books of a school. -/
structure Gd (S : BSch) (b : Bks) : Prop where
  les : ∀ l ∈ b.les, LesOk S.learners.length S.cars.length l
  km : b.km.length = S.cars.length
  since : b.since.length = S.cars.length
  acc : b.acc.length = S.learners.length + 4
  lim : BksLim 100 b
  time : 0 ≤ b.time ∧ b.time ≤ 4800
theorem BksLim.mono {n m : Nat} {b : Bks} (h : BksLim n b) (hm : n ≤ m) : BksLim m b :=
  ⟨fun a ha => by have := h.acc a ha; omega, fun a ha => by have := h.km a ha; omega, fun a ha => by have := h.since a ha; omega, by have := h.pst; omega, by have := h.les; omega, by have := h.wt; omega, h.wts⟩
theorem gd_of {S : BSch} {n : Int} {k : Nat} {b : Bks} (h : BksOk S n b) (hl : BksLim k b) (hk : k ≤ 100) : Gd S b := ⟨h.les, h.km, h.since, h.accLen, hl.mono hk, h.time⟩
theorem Gd.rng {S : BSch} {b : Bks} (h : Gd S b) : ∀ o ∈ b.les, (0 ≤ o.start ∧ o.start ≤ 24000) ∧ 0 ≤ o.hours ∧ o.hours ≤ 1000 := fun o ho => by
  have := h.les o ho
  obtain ⟨h1, h2, h3, h4, h5⟩ := this
  omega
set_option maxRecDepth 100000 in
set_option maxHeartbeats 1000000 in
theorem lessonError_any {w : World} {X : Nat → Prop} {p : Nat} {L C T : Option Addr} {cl cc ct : Nat} {S : BSch} {vl vk vs va : Value} {mb : Nat} {vp : Value} {b : Bks} {ev : Int} (h : RawB w X p L C T cl cc ct S vl vk vs va mb vp b ev) (hS : SchGd S) (hg : Gd S b)
    (l : Les) (hc : 0 ≤ l.car ∧ l.car < S.cars.length) (hs : 0 ≤ l.start ∧ l.start ≤ 24000) (hh : 0 ≤ l.hours ∧ l.hours ≤ 1000) (time : Int) :
    Calls Try.prog 58 #[.pointer (some ⟨p, 0, none⟩), .agg (lesCells l).toArray, .int .i64 time] w fun e w' => e = .returned (.int .i64 (lesErr S b l time)) ∧ Below w.heap.size w w' := by
  have hF := hide (fun W (hb : Below w.heap.size w W) => fits_any (h.blk.below hb h.blk.lt) l hs hh)
  have hD := hide (fun W (hb : Below w.heap.size w W) => canBeDriven_any (h.blk.below hb h.blk.lt) (h.below hb).sch.rows (h.below hb).map hS (fun s hs => (hg.lim.wts s hs).2) l hc hs)
  have hR := hide (fun W (hb : Below w.heap.size w W) => isFree_any (h.blk.below hb h.blk.lt) (h.les.below hb) (by have := hg.lim.les; omega) hg.rng l ⟨hs, hh⟩)
  obtain ⟨r, hr⟩ : ∃ r, lesErr S b l time = r := ⟨_, rfl⟩
  rw [hr]
  unfold lesErr at hr
  generalize fitsB S l = qf at *
  generalize dryB S b.wt l.car (l.start / 24) = qd at *
  generalize freeB b.les l = qr at *
  clear h hS hg hc
  obtain ⟨ll, lc, ls, lh, lt⟩ := l
  unfold lesCells at *
  simp only at hs hh hr
  have kb := hide (blkNew (w := w) (t := 63) (cs := #[.int .i64 ll, .int .i64 lc, .int .i64 ls, .int .i64 lh, .int .i64 lt]) rfl)
  have hB := hide ((Below.refl w.heap.size w).alloc (Nat.le_refl _) (.cells #[.int .i64 ll, .int .i64 lc, .int .i64 ls, .int .i64 lh, .int .i64 lt] 63))
  obtain ⟨W, hW⟩ : ∃ x, w.alloc (.cells #[.int .i64 ll, .int .i64 lc, .int .i64 ls, .int .i64 lh, .int .i64 lt] 63) = x := ⟨_, rfl⟩
  rw [hW] at kb hB
  have k0 : W.cell? ⟨w.heap.size, 0, none⟩ = some (.int .i64 ll) := kb.out.cell 0
  have k1 : W.cell? ⟨w.heap.size, 1, none⟩ = some (.int .i64 lc) := kb.out.cell 1
  have k2 : W.cell? ⟨w.heap.size, 2, none⟩ = some (.int .i64 ls) := kb.out.cell 2
  have k3 : W.cell? ⟨w.heap.size, 3, none⟩ = some (.int .i64 lh) := kb.out.cell 3
  have k4 : W.cell? ⟨w.heap.size, 4, none⟩ = some (.int .i64 lt) := kb.out.cell 4
  replace hW := hide hW
  go_enter Try.func58, Try.ntmps58
  go_upto_region 1 with fail
  rw [hW.out]
  cases h1 : decide (ls ≤ time) with
  | true =>
    have h1' := of_decide_eq_true h1
    rw [if_pos (.inl h1')] at hr
    subst hr
    clear h1'
    go_wp2_with fail
    go_wp2
    go_ret
    exact ⟨rfl, hB.out⟩
  | false =>
    have h1' := of_decide_eq_false h1
    clear h1'
    go_wp2_with fail
    refine (hF.out _ hB.out).mono ?_
    rintro e w2 ⟨rfl, hb⟩
    have hB2 := hide (hB.out.trans (hb.mono hB.out.size))
    have kb2 := hide (kb.out.below hb kb.out.lt)
    clear hb k0 k1 k2 k3 k4 hF
    have hn : ¬ ls ≤ time := of_decide_eq_false h1
    replace h1 := hide h1
    have k0 : w2.cell? ⟨w.heap.size, 0, none⟩ = some (.int .i64 ll) := kb2.out.cell 0
    have k1 : w2.cell? ⟨w.heap.size, 1, none⟩ = some (.int .i64 lc) := kb2.out.cell 1
    have k2 : w2.cell? ⟨w.heap.size, 2, none⟩ = some (.int .i64 ls) := kb2.out.cell 2
    have k3 : w2.cell? ⟨w.heap.size, 3, none⟩ = some (.int .i64 lh) := kb2.out.cell 3
    have k4 : w2.cell? ⟨w.heap.size, 4, none⟩ = some (.int .i64 lt) := kb2.out.cell 4
    cases qf with
    | false =>
      rw [if_pos (.inr rfl)] at hr
      subst hr
      clear hn
      go_wp2
      go_ret
      exact ⟨rfl, hB2.out⟩
    | true =>
      rw [if_neg (by simp; omega)] at hr
      clear hn
      go_wp2_with fail
      refine (hD.out _ hB2.out).mono ?_
      rintro e w3 ⟨rfl, hb⟩
      have hB3 := hide (hB2.out.trans (hb.mono hB2.out.size))
      have kb3 := hide (kb2.out.below hb kb2.out.lt)
      clear hb k0 k1 k2 k3 k4 hD
      have k0 : w3.cell? ⟨w.heap.size, 0, none⟩ = some (.int .i64 ll) := kb3.out.cell 0
      have k1 : w3.cell? ⟨w.heap.size, 1, none⟩ = some (.int .i64 lc) := kb3.out.cell 1
      have k2 : w3.cell? ⟨w.heap.size, 2, none⟩ = some (.int .i64 ls) := kb3.out.cell 2
      have k3 : w3.cell? ⟨w.heap.size, 3, none⟩ = some (.int .i64 lh) := kb3.out.cell 3
      have k4 : w3.cell? ⟨w.heap.size, 4, none⟩ = some (.int .i64 lt) := kb3.out.cell 4
      cases qd with
      | false =>
        rw [if_pos rfl] at hr
        subst hr
        go_wp2
        go_ret
        exact ⟨rfl, hB3.out⟩
      | true =>
        rw [if_neg (by simp)] at hr
        go_wp2_with fail
        refine (hR.out _ hB3.out).mono ?_
        rintro e w4 ⟨rfl, hb⟩
        have hB4 := hide (hB3.out.trans (hb.mono hB3.out.size))
        clear hb k0 k1 k2 k3 k4 hR
        cases qr with
        | false =>
          rw [if_pos rfl] at hr
          subst hr
          go_wp2
          go_ret
          exact ⟨rfl, hB4.out⟩
        | true =>
          rw [if_neg (by simp)] at hr
          subst hr
          go_wp2
          go_ret
          exact ⟨rfl, hB4.out⟩
end Go.Proofs.Ytkmhldjebopljaa
