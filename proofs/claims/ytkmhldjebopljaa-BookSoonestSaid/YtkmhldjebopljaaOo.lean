import Derived.Test.YtkmhldjebopljaaOn
/-
  The event pay.
-/
namespace Go.Proofs.Ytkmhldjebopljaa
open Go.RowKit RG

/-- The cells of an event. -/
def evCells (e : BEv) : List Value := [.int .i64 e.kind, .int .i64 e.at_, .int .i64 e.learner, .int .i64 e.car, .int .i64 e.booking, .int .i64 e.start, .int .i64 e.hours, .int .i64 e.day, .int .i64 e.weather, .int .i64 e.km, .int .i64 e.cents]
/-- What an event makes of the books: done, or left by a panic with its error before anything was done. -/
def EvR (w : World) (X : Nat → Prop) (p : Nat) (L C T : Option Addr) (cl cc ct : Nat) (S : BSch) (b : Bks) (ev : Int) (q : Int × Bks) (e : Ending) (w' : World) : Prop :=
  (q.1 = 0 ∧ e = .returned (.tuple #[]) ∧ Books w' X p L C T cl cc ct S q.2 ev ∨ q.1 ≠ 0 ∧ e = .panicked [{ v := .iface 30 (.int .i64 q.1), recovered := false }] ∧ Books w' X p L C T cl cc ct S b ev) ∧ KeptX X w w'
theorem ev_cells {w : World} {g : Nat} {e : BEv} (h : Blk w g 65 (evCells e).toArray) : w.cell? ⟨g, 0, none⟩ = some (.int .i64 e.kind) ∧ w.cell? ⟨g, 1, none⟩ = some (.int .i64 e.at_) ∧ w.cell? ⟨g, 2, none⟩ = some (.int .i64 e.learner) ∧ w.cell? ⟨g, 3, none⟩ = some (.int .i64 e.car) ∧ w.cell? ⟨g, 4, none⟩ = some (.int .i64 e.booking) ∧
    w.cell? ⟨g, 5, none⟩ = some (.int .i64 e.start) ∧ w.cell? ⟨g, 6, none⟩ = some (.int .i64 e.hours) ∧ w.cell? ⟨g, 7, none⟩ = some (.int .i64 e.day) ∧ w.cell? ⟨g, 8, none⟩ = some (.int .i64 e.weather) ∧ w.cell? ⟨g, 9, none⟩ = some (.int .i64 e.km) ∧ w.cell? ⟨g, 10, none⟩ = some (.int .i64 e.cents) :=
  ⟨h.cell 0, h.cell 1, h.cell 2, h.cell 3, h.cell 4, h.cell 5, h.cell 6, h.cell 7, h.cell 8, h.cell 9, h.cell 10⟩
theorem Gd.acc_lim {S : BSch} {b : Bks} (h : Gd S b) : ∀ a ∈ b.acc, -1000000000000 ≤ a ∧ a ≤ 1000000000000 := fun a ha => by have := h.lim.acc a ha; omega

set_option maxRecDepth 100000 in
set_option maxHeartbeats 2000000 in
theorem pay_any {w : World} {X : Nat → Prop} {p : Nat} {L C T : Option Addr} {cl cc ct : Nat} {S : BSch} {vl vk vs va : Value} {mb : Nat} {vp : Value} {b : Bks} {ev : Int} (h : RawB w X p L C T cl cc ct S vl vk vs va mb vp b ev) (hS : SchGd S) (hg : Gd S b) (x : BEv) :
    Calls Try.prog 91 #[.pointer (some ⟨p, 0, none⟩), .agg (evCells x).toArray] w fun e w' => EvR w X p L C T cl cc ct S b ev (payB S b ev x) e w' := by
  obtain ⟨W, hW⟩ : ∃ y, w.alloc (.cells (evCells x).toArray 65) = y := ⟨_, rfl⟩
  have kb := hide (show Blk W w.heap.size 65 (evCells x).toArray by rw [← hW]; exact blkNew rfl)
  have hB := hide (show Below w.heap.size w W by rw [← hW]; exact (Below.refl w.heap.size w).alloc (Nat.le_refl _) _)
  have hraw := hide (fun V (hb : Below w.heap.size w V) => (show RawB V X p L C T cl cc ct S vl vk vs va mb vp b ev from Raw.below h hb))
  have hold := h.old
  have hk := hide (fun V (hb : Below w.heap.size w V) => KeptX.of_below hb hold)
  have hL := hide (fun V (hb : Below w.heap.size w V) y => isLearner_any (h.blk.below hb h.blk.lt) hS.nl.2 y)
  have hA := hide (fun V (hb : Below w.heap.size w V) => account_any (h.blk.below hb h.blk.lt) hS.nl.2 3 (by omega))
  have hM := hide (fun V => isAmount_any x.cents V)
  have hP := hide (fun V (hb : Below w.heap.size w V) (j : Nat) (hj : j < S.learners.length) (hc : 0 ≤ x.cents ∧ x.cents ≤ 10000000) => post_any (Raw.below h hb) (jf := S.learners.length + 3) (jt := j) (c := x.cents) (by rw [hg.acc]; omega) (by rw [hg.acc]; omega) (by rw [hg.acc]; have := hS.nl; omega) (by omega) hg.acc_lim (by have := hg.lim.pst; omega))
  obtain ⟨q, hq⟩ : ∃ q, payB S b ev x = q := ⟨_, rfl⟩
  rw [hq]
  unfold payB at hq
  clear h hS hg hold
  obtain ⟨k0, k1, k2, k3, k4, k5, k6, k7, k8, k9, k10⟩ := ev_cells kb.out
  replace hW := hide hW
  obtain ⟨xkind, xat, xlearner, xcar, xbooking, xstart, xhours, xday, xweather, xkm, xcents⟩ := x
  unfold evCells at *
  simp only at *
  clear k0 k1 k3 k4 k5 k6 k7 k8 k9
  go_enter Try.func91, Try.ntmps91
  go_upto_region 1 with fail
  rw [hW.out]
  go_wp2_with fail
  refine (hL.out _ hB.out xlearner).mono ?_
  rintro e w2 ⟨rfl, hb⟩
  have hB2 := hide (hB.out.trans (hb.mono hB.out.size))
  have kb2 := hide (kb.out.below hb kb.out.lt)
  clear hb k2 k10 kb hB hL
  cases h1 : inI 0 ((S.learners.length : Int) - 1) xlearner with
  | false =>
    rw [if_pos h1] at hq
    subst hq
    go_wp2_with fail
    refine (need_no 4 _).mono ?_
    rintro e w3 ⟨rfl, rfl⟩
    go_wp2
    exact ⟨rfl, .inr ⟨by simp, rfl, _, _, _, _, _, _, hraw.out _ hB2.out⟩, hk.out _ hB2.out⟩
  | true =>
    rw [if_neg (by simp [h1])] at hq
    obtain ⟨j, rfl⟩ : ∃ j : Nat, xlearner = (j : Int) := ⟨xlearner.toNat, by have := inI_iff.1 h1; omega⟩
    have hj := hide (show j < S.learners.length by have := inI_iff.1 h1; omega)
    replace h1 := hide h1
    have k2 : w2.cell? ⟨w.heap.size, 2, none⟩ = some (.int .i64 j) := kb2.out.cell 2
    have k10 : w2.cell? ⟨w.heap.size, 10, none⟩ = some (.int .i64 xcents) := kb2.out.cell 10
    go_wp2_with fail
    refine (need_yes 4 _).mono ?_
    rintro e w3 ⟨rfl, rfl⟩
    go_wp2_with fail
    refine (hM.out _).mono ?_
    rintro e w3 ⟨rfl, hb⟩
    have hB3 := hide (hB2.out.trans (hb.mono hB2.out.size))
    have kb3 := hide (kb2.out.below hb kb2.out.lt)
    clear hb k2 k10 kb2 hB2 hM
    cases h2 : inI 0 10000000 xcents with
    | false =>
      rw [if_pos h2] at hq
      subst hq
      go_wp2_with fail
      refine (need_no 7 _).mono ?_
      rintro e w4 ⟨rfl, rfl⟩
      go_wp2
      exact ⟨rfl, .inr ⟨by simp, rfl, _, _, _, _, _, _, hraw.out _ hB3.out⟩, hk.out _ hB3.out⟩
    | true =>
      rw [if_neg (by simp [h2])] at hq
      have h2' := inI_iff.1 h2
      replace h2 := hide h2
      have k2 : w3.cell? ⟨w.heap.size, 2, none⟩ = some (.int .i64 j) := kb3.out.cell 2
      have k10 : w3.cell? ⟨w.heap.size, 10, none⟩ = some (.int .i64 xcents) := kb3.out.cell 10
      go_wp2_with fail
      refine (need_yes 7 _).mono ?_
      rintro e w4 ⟨rfl, rfl⟩
      have hac := hide (hA.out w3.drew hB3.out.drew)
      have hpo := hide (hP.out w3.drew hB3.out.drew j hj.out h2')
      replace h2' := hide h2'
      replace hq := hide hq
      go_wp2
      refine region_tailB 7 (by kernel_rfl) (by kernel_rfl) ?_
      simp only [List.take_succ_cons, List.take_zero, List.drop_succ_cons, List.drop_zero]
      iterate 2 (refine still_bx (fun K hK => ?_); go_simp; refine hK.out _ ?_; clear hK K)
      refine still_bx (fun K hK => ?_)
      go_simp
      refine ⟨_, hac.out.mono fun _ _ h => ⟨h.1, h.2.symm⟩, hK.out _ ?_⟩
      clear hK K
      iterate 4 (refine still_bx (fun K hK => ?_); go_simp; refine hK.out _ ?_; clear hK K)
      refine still_bx_nil ?_
      clear k2 k10
      rw [show ((S.learners.length + 3 : Nat) : Int) = (S.learners.length : Int) + 3 by omega] at hpo
      go_wp2_with fail
      refine hpo.out.mono ?_
      rintro e w5 ⟨rfl, hbk, hkx⟩
      replace hbk := hide hbk
      replace hkx := hide hkx
      go_wp2
      go_end0
      have hq' := hq.out
      subst hq'
      exact ⟨.inl ⟨rfl, rfl, hbk.out⟩, (hk.out _ hB3.out.drew).trans hkx.out⟩
end Go.Proofs.Ytkmhldjebopljaa

/-
  The event service.
-/
namespace Go.Proofs.Ytkmhldjebopljaa
open Go.RowKit RG

set_option maxRecDepth 100000 in
set_option maxHeartbeats 2000000 in
theorem service_any {w : World} {X : Nat → Prop} {p : Nat} {L C T : Option Addr} {cl cc ct : Nat} {S : BSch} {vl vk vs va : Value} {mb : Nat} {vp : Value} {b : Bks} {ev : Int} (h : RawB w X p L C T cl cc ct S vl vk vs va mb vp b ev) (hS : SchGd S) (hg : Gd S b) (x : BEv) :
    Calls Try.prog 89 #[.pointer (some ⟨p, 0, none⟩), .agg (evCells x).toArray] w fun e w' => EvR w X p L C T cl cc ct S b ev (serviceB S b ev x) e w' := by
  obtain ⟨W, hW⟩ : ∃ y, w.alloc (.cells (evCells x).toArray 65) = y := ⟨_, rfl⟩
  have kb := hide (show Blk W w.heap.size 65 (evCells x).toArray by rw [← hW]; exact blkNew rfl)
  have hB := hide (show Below w.heap.size w W by rw [← hW]; exact (Below.refl w.heap.size w).alloc (Nat.le_refl _) _)
  have hraw := hide (fun V (hb : Below w.heap.size w V) => (show RawB V X p L C T cl cc ct S vl vk vs va mb vp b ev from Raw.below h hb))
  have hold := h.old
  have hk := hide (fun V (hb : Below w.heap.size w V) => KeptX.of_below hb hold)
  have hL := hide (fun V (hb : Below w.heap.size w V) y => isCar_any (h.blk.below hb h.blk.lt) (by have := hS.nc; omega) y)
  have hM := hide (fun V => isAmount_any x.cents V)
  have hnl := hide hS.nl
  have hpz := h.blk.lt
  have hg' := hide hg
  obtain ⟨gs, cap, rfl, hgx, hgl, -, -, hfz, hcel, cur, hcur⟩ := int_row h.since (by rw [hg.since]; have := hS.nc; omega)
  rw [hg.since] at *
  have hne : gs ≠ p := hcur.ne_ h.blk (by decide)
  obtain ⟨q, hq⟩ : ∃ q, serviceB S b ev x = q := ⟨_, rfl⟩
  rw [hq]
  unfold serviceB at hq
  have hfz' := hide (fun V (hb : Below w.heap.size w V) (k : Nat) => show V.frozen? ⟨gs, k, none⟩ = false from (hb.frozen (p := ⟨gs, k, none⟩) hgl).trans (hfz k))
  have hcel' := hide (fun V (hb : Below w.heap.size w V) (k : Nat) (hk : k < S.cars.length) => show V.cell? ⟨gs, k, none⟩ = some (.int .i64 (b.since[k]?.getD 0)) from (cellB hb hgl).trans (hcel k hk))
  clear h hS hg hold hcur hfz hcel
  obtain ⟨k0, k1, k2, k3, k4, k5, k6, k7, k8, k9, k10⟩ := ev_cells kb.out
  replace hW := hide hW
  obtain ⟨xkind, xat, xlearner, xcar, xbooking, xstart, xhours, xday, xweather, xkm, xcents⟩ := x
  unfold evCells at *
  simp only at *
  clear k0 k1 k2 k4 k5 k6 k7 k8 k9
  go_enter Try.func89, Try.ntmps89
  go_upto_region 1 with fail
  rw [hW.out]
  go_wp2_with fail
  refine (hL.out _ hB.out xcar).mono ?_
  rintro e w2 ⟨rfl, hb⟩
  have hB2 := hide (hB.out.trans (hb.mono hB.out.size))
  have kb2 := hide (kb.out.below hb kb.out.lt)
  clear hb k3 k10 kb hB hL
  cases h1 : inI 0 ((S.cars.length : Int) - 1) xcar with
  | false =>
    rw [if_pos h1] at hq
    subst hq
    go_wp2_with fail
    refine (need_no 4 _).mono ?_
    rintro e w3 ⟨rfl, rfl⟩
    go_wp2
    exact ⟨rfl, .inr ⟨by simp, rfl, _, _, _, _, _, _, hraw.out _ hB2.out⟩, hk.out _ hB2.out⟩
  | true =>
    rw [if_neg (by simp [h1])] at hq
    obtain ⟨j, rfl⟩ : ∃ j : Nat, xcar = (j : Int) := ⟨xcar.toNat, by have := inI_iff.1 h1; omega⟩
    have hj := hide (show j < S.cars.length by have := inI_iff.1 h1; omega)
    replace h1 := hide h1
    have k3 : w2.cell? ⟨w.heap.size, 3, none⟩ = some (.int .i64 j) := kb2.out.cell 3
    have k10 : w2.cell? ⟨w.heap.size, 10, none⟩ = some (.int .i64 xcents) := kb2.out.cell 10
    go_wp2_with fail
    refine (need_yes 4 _).mono ?_
    rintro e w3 ⟨rfl, rfl⟩
    go_wp2_with fail
    refine (hM.out _).mono ?_
    rintro e w3 ⟨rfl, hb⟩
    have hB3 := hide (hB2.out.trans (hb.mono hB2.out.size))
    have kb3 := hide (kb2.out.below hb kb2.out.lt)
    clear hb k3 k10 kb2 hB2 hM
    cases h2 : inI 0 10000000 xcents with
    | false =>
      rw [if_pos h2] at hq
      subst hq
      go_wp2_with fail
      refine (need_no 7 _).mono ?_
      rintro e w4 ⟨rfl, rfl⟩
      go_wp2
      exact ⟨rfl, .inr ⟨by simp, rfl, _, _, _, _, _, _, hraw.out _ hB3.out⟩, hk.out _ hB3.out⟩
    | true =>
      rw [if_neg (by simp [h2])] at hq
      have h2' := inI_iff.1 h2
      replace h2 := hide h2
      have k3 : w3.cell? ⟨w.heap.size, 3, none⟩ = some (.int .i64 j) := kb3.out.cell 3
      have k10 : w3.cell? ⟨w.heap.size, 10, none⟩ = some (.int .i64 xcents) := kb3.out.cell 10
      have q9 : w3.cell? ⟨p, 9, none⟩ = some (.slice (some ⟨gs, 0, none⟩) S.cars.length cap) := by have := (hraw.out w3 hB3.out).blk.cell 9; exact this
      have z3 := hfz'.out w3 hB3.out j
      have z4 := hcel'.out w3 hB3.out j hj.out
      have hjz : (j : Int) < (S.cars.length : Int) := by have := hj.out; omega
      go_wp2_with fail
      refine (need_yes 7 _).mono ?_
      rintro e w4 ⟨rfl, rfl⟩
      obtain ⟨W5, hW5⟩ : ∃ y, (w3.setCell ⟨gs, j, none⟩ (.int .i64 0)).drew = y := ⟨_, rfl⟩
      have hraw5 : RawB W5 X p L C T cl cc ct S vl vk (.slice (some ⟨gs, 0, none⟩) S.cars.length cap) va mb vp { b with since := b.since.set j 0 } ev := by
        have := Raw.setSince (hraw.out w3 hB3.out) (j := j) (by rw [List.length_map, hg'.out.since]; exact hj.out) (.int .i64 0)
        rw [map_set_i] at this
        rw [← hW5]
        exact Raw.below this (Below.refl _ _).drew
      have hk5 := hide ((hk.out w3 hB3.out).trans (show KeptX X w3 W5 by rw [← hW5]; exact (KeptX.setCell w3 (p := ⟨gs, j, none⟩) hgx _).drew))
      have kb5 := hide (show Blk W5 w.heap.size 65 _ by rw [← hW5]; exact Blk.far kb3.out (p := ⟨gs, j, none⟩) (by show w.heap.size ≠ gs; omega) _)
      have k10' : W5.cell? ⟨w.heap.size, 10, none⟩ = some (.int .i64 xcents) := kb5.out.cell 10
      have hac0 := hide (fun V (hb : Below W5.heap.size W5 V) => account_any (hraw5.blk.below hb hraw5.blk.lt) hnl.out.2 0 (by omega))
      have hac1 := hide (fun V (hb : Below W5.heap.size W5 V) => account_any (hraw5.blk.below hb hraw5.blk.lt) hnl.out.2 1 (by omega))
      have hpo := hide (post_any (Raw.below hraw5 (Below.refl _ _).drew) (b := { b with since := b.since.set j 0 }) (jf := S.learners.length) (jt := S.learners.length + 1) (c := xcents) (by show _ < b.acc.length; rw [hg'.out.acc]; omega) (by show _ < b.acc.length; rw [hg'.out.acc]; omega) (by show b.acc.length ≤ _; rw [hg'.out.acc]; have := hnl.out; omega) (by omega) hg'.out.acc_lim (by have := hg'.out.lim.pst; show b.pst.length ≤ _; omega))
      replace h2' := hide h2'
      replace hq := hide hq
      replace hW5 := hide hW5
      replace hraw5 := hide hraw5
      rw [show ((S.learners.length + 1 : Nat) : Int) = (S.learners.length : Int) + 1 by omega] at hpo
      go_wp2
      refine region_tailB 8 (by kernel_rfl) (by kernel_rfl) ?_
      simp only [List.take_succ_cons, List.take_zero, List.drop_succ_cons, List.drop_zero]
      iterate 8 (refine still_bx (fun K hK => ?_); go_simp; refine hK.out _ ?_; clear hK K)
      refine still_bx_nil ?_
      go_upto_region 4 with fail
      rw [hW5.out]
      clear k3 k10 q9 z3 z4
      refine region_tailB 7 (by kernel_rfl) (by kernel_rfl) ?_
      simp only [List.take_succ_cons, List.take_zero, List.drop_succ_cons, List.drop_zero]
      iterate 2 (refine still_bx (fun K hK => ?_); go_simp; refine hK.out _ ?_; clear hK K)
      refine still_bx (fun K hK => ?_)
      go_simp
      refine ⟨_, (hac0.out W5.drew (Below.refl _ _).drew).mono fun _ _ h => ⟨h.1, h.2.symm⟩, hK.out _ ?_⟩
      clear hK K
      iterate 1 (refine still_bx (fun K hK => ?_); go_simp; refine hK.out _ ?_; clear hK K)
      refine still_bx (fun K hK => ?_)
      go_simp
      refine ⟨_, (hac1.out W5.drew (Below.refl _ _).drew).mono fun _ _ h => ⟨h.1, h.2.symm⟩, hK.out _ ?_⟩
      clear hK K
      iterate 2 (refine still_bx (fun K hK => ?_); go_simp; refine hK.out _ ?_; clear hK K)
      refine still_bx_nil ?_
      clear k10'
      go_wp2_with fail
      refine hpo.out.mono ?_
      rintro e w5 ⟨rfl, hbk, hkx⟩
      replace hbk := hide hbk
      replace hkx := hide hkx
      go_wp2
      go_end0
      have hq' := hq.out
      subst hq'
      exact ⟨.inl ⟨rfl, rfl, hbk.out⟩, hk5.out.trans ((KeptX.refl X W5).drew.trans hkx.out)⟩
end Go.Proofs.Ytkmhldjebopljaa

/-
  The event crash.
-/
namespace Go.Proofs.Ytkmhldjebopljaa
open Go.RowKit RG

theorem Books.less {w : World} {X Y : Nat → Prop} {p : Nat} {L C T : Option Addr} {cl cc ct : Nat} {S : BSch} {b : Bks} {ev : Int} (h : Books w Y p L C T cl cc ct S b ev) (hY : ∀ g, X g → Y g) (hs : SchX X w L C T cl cc ct S) : Books w X p L C T cl cc ct S b ev := by
  obtain ⟨vl, vk, vs, va, mb, vp, hr⟩ := h
  exact ⟨vl, vk, vs, va, mb, vp, Raw.less hr hY hs⟩
theorem RawB.setState {w : World} {X : Nat → Prop} {p : Nat} {L C T : Option Addr} {cl cc ct : Nat} {S : BSch} {g n cap : Nat} {vk vs va : Value} {mb : Nat} {vp : Value} {b : Bks} {ev : Int} (h : RawB w X p L C T cl cc ct S (.slice (some ⟨g, 0, none⟩) n cap) vk vs va mb vp b ev) {j : Nat} (hj : j < b.les.length) (s : Int) :
    RawB (w.setCell ⟨g, j * 5 + 4, none⟩ (.int .i64 s)) X p L C T cl cc ct S (.slice (some ⟨g, 0, none⟩) n cap) vk vs va mb vp (setLes b j fun l => { l with state := s }) ev := by
  have h9 := Raw.setLes h (j := j) (i := 4) (by rw [List.length_map]; exact hj) (by omega) (.int .i64 s)
  rw [map_at lesCells b.les j hj] at h9
  unfold RawB setLes
  simp only [List.map_set, Int.toNat_natCast]
  exact h9
theorem hasB_nat {b : Bks} {i : Int} {s : Int} (h : hasB b i s = true) : ∃ j : Nat, i = (j : Int) ∧ j < b.les.length ∧ (b.les[j]?.getD default).state = s := by
  obtain ⟨⟨h1, h2⟩, h3⟩ := hasB_iff h
  exact ⟨i.toNat, by omega, h2, h3⟩

set_option maxRecDepth 100000 in
set_option maxHeartbeats 2000000 in
theorem crash_any {w : World} {X : Nat → Prop} {p : Nat} {L C T : Option Addr} {cl cc ct : Nat} {S : BSch} {vl vk vs va : Value} {mb : Nat} {vp : Value} {b : Bks} {ev : Int} (h0 : RawB w X p L C T cl cc ct S vl vk vs va mb vp b ev) (hS : SchGd S) (hg : Gd S b) (x : BEv) :
    Calls Try.prog 90 #[.pointer (some ⟨p, 0, none⟩), .agg (evCells x).toArray] w fun e w' => EvR w X p L C T cl cc ct S b ev (crashB S b ev x) e w' := by
  obtain ⟨W, hW⟩ : ∃ y, w.alloc (.cells (evCells x).toArray 65) = y := ⟨_, rfl⟩
  have kb := hide (show Blk W w.heap.size 65 (evCells x).toArray by rw [← hW]; exact blkNew rfl)
  have hB := hide (show Below w.heap.size w W by rw [← hW]; exact (Below.refl w.heap.size w).alloc (Nat.le_refl _) _)
  obtain ⟨Y, hY⟩ : ∃ Y : Nat → Prop, (fun k => X k ∨ k = w.heap.size) = Y := ⟨_, rfl⟩
  have hXY : ∀ k, X k → Y k := fun k hk => by rw [← hY]; exact .inl hk
  have hYg : Y w.heap.size := by rw [← hY]; exact .inr rfl
  have hrawX := hide (fun V (hb : Below w.heap.size w V) => (show RawB V X p L C T cl cc ct S vl vk vs va mb vp b ev from Raw.below h0 hb))
  have hraw := hide (fun V (hb : Below w.heap.size w V) (hz : w.heap.size < V.heap.size) => (show RawB V Y p L C T cl cc ct S vl vk vs va mb vp b ev from Raw.more h0 hb hXY (fun k hk => by rw [← hY] at hk; exact hk.imp id (fun e => by omega)) (fun k hk => by
    rw [← hY] at hk
    rcases hk with hk | hk
    · exact Nat.lt_trans (h0.old k hk) hz
    · rw [hk]; exact hz)))
  have hold := h0.old
  have hsch := h0.sch
  have hk := hide (fun V (hb : Below w.heap.size w V) => KeptX.of_below hb hold)
  have hlen := hg.lim.les
  have hL := hide (fun V (hb : Below w.heap.size w V) y => show Calls Try.prog 103 #[.pointer (some ⟨p, 0, none⟩), .int .i64 y, .int .i64 2] V fun e w' => e = .returned (.bool (hasB b y 2)) ∧ Below V.heap.size V w' from isLesson_any (h0.blk.below hb h0.blk.lt) (h0.les.below hb) (by omega) y 2)
  have hM := hide (fun V => isAmount_any x.cents V)
  have hnl := hide hS.nl
  have hex := hS.ok.excess
  have hg' := hide hg
  have hrow := hide h0.les
  obtain ⟨q, hq⟩ : ∃ q, crashB S b ev x = q := ⟨_, rfl⟩
  rw [hq]
  unfold crashB at hq
  clear h0 hS hg hold hY hlen
  obtain ⟨k0, k1, k2, k3, k4, k5, k6, k7, k8, k9, k10⟩ := ev_cells kb.out
  replace hW := hide hW
  replace hsch := hide hsch
  obtain ⟨xkind, xat, xlearner, xcar, xbooking, xstart, xhours, xday, xweather, xkm, xcents⟩ := x
  unfold evCells at *
  simp only at *
  clear k0 k1 k2 k3 k5 k6 k7 k8 k9
  go_enter Try.func90, Try.ntmps90
  go_upto_region 1 with fail
  rw [hW.out]
  go_wp2_with fail
  refine (hL.out _ hB.out xbooking).mono ?_
  rintro e w2 ⟨rfl, hb⟩
  have hB2 := hide (hB.out.trans (hb.mono hB.out.size))
  have kb2 := hide (kb.out.below hb kb.out.lt)
  clear hb k4 k10 kb hB hL
  cases h1 : hasB b xbooking 2 with
  | false =>
    rw [if_pos h1] at hq
    subst hq
    go_wp2_with fail
    refine (need_no 4 _).mono ?_
    rintro e w3 ⟨rfl, rfl⟩
    go_wp2
    exact ⟨rfl, .inr ⟨by simp, rfl, _, _, _, _, _, _, hrawX.out _ hB2.out⟩, hk.out _ hB2.out⟩
  | true =>
    rw [if_neg (by simp [h1])] at hq
    obtain ⟨j, rfl, hj0, -⟩ := hasB_nat h1
    have hj := hide hj0
    replace h1 := hide h1
    have k4 : w2.cell? ⟨w.heap.size, 4, none⟩ = some (.int .i64 j) := kb2.out.cell 4
    have k10 : w2.cell? ⟨w.heap.size, 10, none⟩ = some (.int .i64 xcents) := kb2.out.cell 10
    go_wp2_with fail
    refine (need_yes 4 _).mono ?_
    rintro e w3 ⟨rfl, rfl⟩
    go_wp2_with fail
    refine (hM.out _).mono ?_
    rintro e w3 ⟨rfl, hb⟩
    have hB3 := hide (hB2.out.trans (hb.mono hB2.out.size))
    have kb3 := hide (kb2.out.below hb kb2.out.lt)
    clear hb k4 k10 kb2 hB2 hM
    cases h2 : inI 0 10000000 xcents with
    | false =>
      rw [if_pos h2] at hq
      subst hq
      go_wp2_with fail
      refine (need_no 7 _).mono ?_
      rintro e w4 ⟨rfl, rfl⟩
      go_wp2
      exact ⟨rfl, .inr ⟨by simp, rfl, _, _, _, _, _, _, hrawX.out _ hB3.out⟩, hk.out _ hB3.out⟩
    | true =>
      rw [if_neg (by simp [h2])] at hq
      have h2' := inI_iff.1 h2
      replace h2 := hide h2
      obtain ⟨gl, cap, rfl, hgx, -, -, -, hfz, hcel, cur, hcur⟩ := les_row ((hraw.out w3 hB3.out kb3.out.lt).les) (by omega)
      have hne : w.heap.size ≠ gl := fun e => hgx (e ▸ hYg)
      have k4 : w3.cell? ⟨w.heap.size, 4, none⟩ = some (.int .i64 j) := kb3.out.cell 4
      have k10 : w3.cell? ⟨w.heap.size, 10, none⟩ = some (.int .i64 xcents) := kb3.out.cell 10
      have q7 : w3.cell? ⟨p, 7, none⟩ = some (.slice (some ⟨gl, 0, none⟩) b.les.length cap) := by have := (hraw.out w3 hB3.out kb3.out.lt).blk.cell 7; exact this
      have z3 := hfz (j * 5 + 4)
      have z4 := (hcel j hj.out).2.2.2.2
      have hjz : (j : Int) < (b.les.length : Int) := by have := hj.out; omega
      go_wp2_with fail
      refine (need_yes 7 _).mono ?_
      rintro e w4 ⟨rfl, rfl⟩
      obtain ⟨W5, hW5⟩ : ∃ y, (w3.setCell ⟨gl, j * 5 + 4, none⟩ (.int .i64 3)).drew = y := ⟨_, rfl⟩
      have hraw5 : RawB W5 Y p L C T cl cc ct S (.slice (some ⟨gl, 0, none⟩) b.les.length cap) vk vs va mb vp (setLes b j fun l => { l with state := 3 }) ev := by
        have := RawB.setState (hraw.out w3 hB3.out kb3.out.lt) (j := j) hj.out 3
        rw [← hW5]
        exact Raw.below this (Below.refl _ _).drew
      have hk5 := hide ((hk.out w3 hB3.out).trans (show KeptX X w3 W5 by rw [← hW5]; exact (KeptX.setCell w3 (p := ⟨gl, j * 5 + 4, none⟩) (fun hh => hgx (hXY _ hh)) _).drew))
      have kb5 := hide (show Blk W5 w.heap.size 65 _ by rw [← hW5]; exact Blk.far kb3.out (p := ⟨gl, j * 5 + 4, none⟩) hne _)
      obtain ⟨b5, hb5⟩ : ∃ b5, (setLes b j fun l => { l with state := 3 }) = b5 := ⟨_, rfl⟩
      have g5 := hide (show b5.acc = b.acc ∧ b5.pst = b.pst by rw [← hb5]; exact ⟨rfl, rfl⟩)
      rw [hb5] at hraw5 hq
      clear hcel hcur hfz
      obtain ⟨own, hown⟩ : ∃ z, min xcents S.excess = z := ⟨_, rfl⟩
      have hownr : 0 ≤ own ∧ own ≤ xcents ∧ own ≤ 10000000 := by omega
      rw [hown] at hq
      have c3 : W5.drew.cell? ⟨p, 3, none⟩ = some (.int .i64 S.excess) := by have := hraw5.blk.cell 3; exact this
      have k10' : W5.drew.cell? ⟨w.heap.size, 10, none⟩ = some (.int .i64 xcents) := kb5.out.cell 10
      have hac := hide (fun V (hb : Below W5.heap.size W5 V) z (hz : 0 ≤ z ∧ z ≤ 3) => account_any (hraw5.blk.below hb hraw5.blk.lt) hnl.out.2 z hz)
      have hpo := hide (post_any (Raw.below hraw5 (Below.refl _ _).drew) (jf := S.learners.length) (jt := S.learners.length + 1) (c := own) (by rw [g5.out.1, hg'.out.acc]; omega) (by rw [g5.out.1, hg'.out.acc]; omega) (by rw [g5.out.1, hg'.out.acc]; have := hnl.out; omega) (by omega) (by rw [g5.out.1]; exact hg'.out.acc_lim) (by rw [g5.out.2]; have := hg'.out.lim.pst; omega))
      have hp2 := hide (fun V (hbk : Books V Y p L C T cl cc ct S (postB b5 ev S.learners.length ((S.learners.length : Int) + 1) own) ev) => show Calls Try.prog 104 #[.pointer (some ⟨p, 0, none⟩), .int .i64 ((S.learners.length : Int) + 2), .int .i64 ((S.learners.length : Int) + 1), .int .i64 (xcents - own)] V fun e w' => e = .returned (.tuple #[]) ∧ Books w' Y p L C T cl cc ct S (postB (postB b5 ev S.learners.length ((S.learners.length : Int) + 1) own) ev ((S.learners.length : Int) + 2) ((S.learners.length : Int) + 1) (xcents - own)) ev ∧ KeptX Y V w' from by
        obtain ⟨vl', vk', vs', va', mb', vp', hr⟩ := hbk
        have e1 : (postB b5 ev S.learners.length ((S.learners.length : Int) + 1) own).acc.length = S.learners.length + 4 := by
          unfold postB
          split
          · rw [g5.out.1, hg'.out.acc]
          · show (addAt (addAt b5.acc _ _) _ _).length = _
            rw [addAt_len, addAt_len, g5.out.1, hg'.out.acc]
        have := post_any hr (jf := S.learners.length + 2) (jt := S.learners.length + 1) (c := xcents - own) (by rw [e1]; omega) (by rw [e1]; omega) (by rw [e1]; have := hnl.out; omega) (by omega) (fun a ha => by
          have := post_lim_ ha (K := 100 * 40000000) (D := 10000000) (by rw [g5.out.1]; exact hg'.out.lim.acc) (by omega)
          omega) (by have := post_pst b5 ev S.learners.length ((S.learners.length : Int) + 1) own; rw [g5.out.2] at this; have := hg'.out.lim.pst; omega)
        rw [show ((S.learners.length + 2 : Nat) : Int) = (S.learners.length : Int) + 2 by omega, show ((S.learners.length + 1 : Nat) : Int) = (S.learners.length : Int) + 1 by omega] at this
        exact this)
      replace h2' := hide h2'
      replace hq := hide hq
      replace hW5 := hide hW5
      replace hraw5 := hide hraw5
      replace hb5 := hide hb5
      have wsub : IntKind.i64.wrap (xcents - own) = xcents - own := by have := h2'.out; rw [IntKind.wrap_i64]; omega
      replace hownr := hide hownr
      rw [show ((S.learners.length + 1 : Nat) : Int) = (S.learners.length : Int) + 1 by omega] at hpo
      go_wp2
      refine region_tailB 9 (by kernel_rfl) (by kernel_rfl) ?_
      simp only [List.take_succ_cons, List.take_zero, List.drop_succ_cons, List.drop_zero]
      iterate 9 (refine still_bx (fun K hK => ?_); go_simp; refine hK.out _ ?_; clear hK K)
      refine still_bx_nil ?_
      go_upto_region 4 with fail
      rw [hW5.out]
      clear k4 k10 q7 z3 z4
      refine region_tailB 8 (by kernel_rfl) (by kernel_rfl) ?_
      simp only [List.take_succ_cons, List.take_zero, List.drop_succ_cons, List.drop_zero]
      iterate 8 (refine still_bx (fun K hK => ?_); go_simp; refine hK.out _ ?_; clear hK K)
      refine still_bx_nil ?_
      clear c3 k10'
      go_wp2_with fail
      refine (hac.out _ (Below.refl _ _).drew 0 (by omega)).mono ?_
      rintro e w5 ⟨rfl, rfl⟩
      go_wp2_with fail
      refine (hac.out _ (Below.refl _ _).drew 1 (by omega)).mono ?_
      rintro e w5 ⟨rfl, rfl⟩
      go_wp2_with fail
      refine hpo.out.mono ?_
      rintro e w6 ⟨rfl, hbk, hkx⟩
      have k10 : w6.cell? ⟨w.heap.size, 10, none⟩ = some (.int .i64 xcents) := (hkx.blk hYg kb5.out).cell 10
      have hac2 := hide (fun V (hb : Below w6.heap.size w6 V) z (hz : 0 ≤ z ∧ z ≤ 3) => show Calls Try.prog 105 #[.pointer (some ⟨p, 0, none⟩), .int .i64 z] V fun e w' => e = .returned (.int .i64 ((S.learners.length : Int) + z)) ∧ V = w' from by
        obtain ⟨vl', vk', vs', va', mb', vp', hr⟩ := hbk
        exact account_any (hr.blk.below hb hr.blk.lt) hnl.out.2 z hz)
      have hp3 := hide (hp2.out w6.drew (by
        obtain ⟨vl', vk', vs', va', mb', vp', hr⟩ := hbk
        exact ⟨vl', vk', vs', va', mb', vp', Raw.below hr (Below.refl _ _).drew⟩))
      replace hkx := hide hkx
      clear hp2 hpo hac hbk
      go_wp2
      refine region_tailB 9 (by kernel_rfl) (by kernel_rfl) ?_
      simp only [List.take_succ_cons, List.take_zero, List.drop_succ_cons, List.drop_zero]
      iterate 2 (refine still_bx (fun K hK => ?_); go_simp; refine hK.out _ ?_; clear hK K)
      refine still_bx (fun K hK => ?_)
      go_simp
      refine ⟨_, (hac2.out w6.drew (Below.refl _ _).drew 2 (by omega)).mono fun _ _ h => ⟨h.1, h.2.symm⟩, hK.out _ ?_⟩
      clear hK K
      iterate 1 (refine still_bx (fun K hK => ?_); go_simp; refine hK.out _ ?_; clear hK K)
      refine still_bx (fun K hK => ?_)
      go_simp
      refine ⟨_, (hac2.out w6.drew (Below.refl _ _).drew 1 (by omega)).mono fun _ _ h => ⟨h.1, h.2.symm⟩, hK.out _ ?_⟩
      clear hK K
      iterate 4 (refine still_bx (fun K hK => ?_); go_simp; refine hK.out _ ?_; clear hK K)
      refine still_bx_nil ?_
      clear k10 wsub
      go_wp2_with fail
      refine hp3.out.mono ?_
      rintro e w7 ⟨rfl, hbk, hky⟩
      replace hbk := hide hbk
      replace hky := hide hky
      go_wp2
      go_end0
      have hq' := hq.out
      subst hq'
      have hkall := hk5.out.trans ((((KeptX.refl Y W5).drew.trans hkx.out).trans ((KeptX.refl Y w6).drew.trans hky.out)).mono hXY)
      exact ⟨.inl ⟨rfl, rfl, hbk.out.less hXY (hsch.out.kept hkall)⟩, hkall⟩
end Go.Proofs.Ytkmhldjebopljaa
