import Derived.Test.YtkmhldjebopljaaOm
/-
  A lesson is moved to a later day, or cancelled.
-/
namespace Go.Proofs.Ytkmhldjebopljaa
open Go.RowKit RG

section
variable {w w' : World} {X Y : Nat → Prop} {p : Nat} {L C T : Option Addr} {cl cc ct : Nat} {S : BSch} {vl vk vs va : Value} {mb : Nat} {vp : Value} {les km since acc pst : List (List Value)} {wt : List (Int × Int)} {tm ev : Int}
/-- A whole lesson is written. -/
theorem Raw.putLes {g n cap : Nat} {ls : List Les} (h : Raw w X p L C T cl cc ct S (.slice (some ⟨g, 0, none⟩) n cap) vk vs va mb vp (ls.map lesCells) km since acc pst wt tm ev) {j : Nat} (hj : j < ls.length) (x : Les) :
    Raw (((((w.setCell ⟨g, j * 5, none⟩ (.int .i64 x.learner)).setCell ⟨g, j * 5 + 1, none⟩ (.int .i64 x.car)).setCell ⟨g, j * 5 + 2, none⟩ (.int .i64 x.start)).setCell ⟨g, j * 5 + 3, none⟩ (.int .i64 x.hours)).setCell ⟨g, j * 5 + 4, none⟩ (.int .i64 x.state)) X p L C T cl cc ct S
      (.slice (some ⟨g, 0, none⟩) n cap) vk vs va mb vp ((ls.set j x).map lesCells) km since acc pst wt tm ev := by
  have e : ∀ (xs : List (List Value)) (y : List Value) (i : Nat) (u : Value), j < xs.length → (xs.set j y).set j ((((xs.set j y)[j]?.getD [])).set i u) = xs.set j (y.set i u) := by
    intro xs y i u hx
    rw [List.set_set]
    simp [hx]
  have h0 := h.setLes (j := j) (i := 0) (by simpa using hj) (by omega) (.int .i64 x.learner)
  have h1 := h0.setLes (j := j) (i := 1) (by simpa using hj) (by omega) (.int .i64 x.car)
  rw [e _ _ _ _ (by simpa using hj)] at h1
  have h2 := h1.setLes (j := j) (i := 2) (by simpa using hj) (by omega) (.int .i64 x.start)
  rw [e _ _ _ _ (by simpa using hj)] at h2
  have h3 := h2.setLes (j := j) (i := 3) (by simpa using hj) (by omega) (.int .i64 x.hours)
  rw [e _ _ _ _ (by simpa using hj)] at h3
  have h4 := h3.setLes (j := j) (i := 4) (by simpa using hj) (by omega) (.int .i64 x.state)
  rw [e _ _ _ _ (by simpa using hj), map_at lesCells ls j hj] at h4
  rw [List.map_set]
  exact h4
end
theorem grown_set {w w' : World} {g : Nat} {p : Addr} (h : w.grownBy w' (some g)) (hp : p.block = g) (u : Value) : w.grownBy (w'.setCell p u) (some g) :=
  ⟨h.os, h.tape, h.output, by simpa using h.size, fun k hk hne => (Below.heap_setCell w' p u k (fun e => hne (by rw [← hp, ← e]))).trans (h.block k hk hne)⟩
theorem grown_of_below {w w' : World} {row : Option Nat} (h : Below w.heap.size w w') : w.grownBy w' row := ⟨h.os, h.tape, h.output, h.size, fun k hk _ => h.block k hk⟩

set_option maxRecDepth 100000 in
set_option maxHeartbeats 2000000 in
theorem move_any {w : World} {X : Nat → Prop} {p : Nat} {L C T : Option Addr} {cl cc ct : Nat} {S : BSch} {vl vk vs va : Value} {mb : Nat} {vp : Value} {b : Bks} {ev : Int} (h : RawB w X p L C T cl cc ct S vl vk vs va mb vp b ev) (hS : SchGd S) (hg : Gd S b) {i : Nat} (hi : i < b.les.length) :
    Calls Try.prog 107 #[.pointer (some ⟨p, 0, none⟩), .int .i64 i] w fun e w' => e = .returned (.tuple #[]) ∧ RawB w' X p L C T cl cc ct S vl vk vs va mb vp (moveB S b i) ev ∧ w.grownBy w' vl.ownBlock := by
  have hlen := hg.lim.les
  obtain ⟨gr, cap, rfl, -, hgl, -, -, hfz, hcell, -⟩ := les_row h.les (by omega)
  have hme : moveB S b i = { b with les := b.les.set i (match laterB S b (b.les[i]?.getD default) 201 ((b.les[i]?.getD default).start + 24) with | some l => l | none => { (b.les[i]?.getD default) with state := 1 }) } := rfl
  rw [hme]
  have hlo := les_at hg.les hi
  obtain ⟨c0, c1, c2, c3, c4⟩ := hcell i hi
  generalize hl : b.les[i]?.getD default = l at *
  have hl' := hide hl
  obtain ⟨ll, lc, ls, lh, lt⟩ := l
  obtain ⟨o1, o2, o3, o4, o5⟩ := hlo
  simp only at o1 o2 o3 o4 o5 c0 c1 c2 c3 c4
  obtain ⟨R, hR⟩ : ∃ R, laterB S b ⟨ll, lc, ls, lh, lt⟩ 201 (ls + 24) = R := ⟨_, rfl⟩
  simp only [hR]
  have hE := hide (fun s W (hs : 0 ≤ s ∧ s ≤ 10000) => show Calls Try.prog 98 #[.agg #[.int .i64 ll, .int .i64 lc, .int .i64 s, .int .i64 lh, .int .i64 lt]] W fun e w' => e = .returned (.int .i64 (s + lh)) ∧ Below W.heap.size W w' from endOf_any ⟨ll, lc, s, lh, lt⟩ W (by show -1000000 ≤ s ∧ s ≤ 1000000 ∧ -1000000 ≤ lh ∧ lh ≤ 1000000; omega))
  have hD := hide (fun s W (hs : 0 ≤ s ∧ s ≤ 10000) (hb : Below w.heap.size w W) => show Calls Try.prog 75 #[.pointer (some ⟨p, 0, none⟩), .agg #[.int .i64 ll, .int .i64 lc, .int .i64 s, .int .i64 lh, .int .i64 lt]] W fun e w' => e = .returned (.bool (dryB S b.wt lc (s / 24))) ∧ Below W.heap.size W w' from
    canBeDriven_any (h.blk.below hb h.blk.lt) (h.below hb).sch.rows (h.below hb).map hS (fun s hs => (hg.lim.wts s hs).2) ⟨ll, lc, s, lh, lt⟩ (by show 0 ≤ lc ∧ lc < _; omega) (by show 0 ≤ s ∧ s ≤ 24000; omega))
  have hF := hide (fun s W (hs : 0 ≤ s ∧ s ≤ 10000) (hb : Below w.heap.size w W) => show Calls Try.prog 76 #[.pointer (some ⟨p, 0, none⟩), .agg #[.int .i64 ll, .int .i64 lc, .int .i64 s, .int .i64 lh, .int .i64 lt]] W fun e w' => e = .returned (.bool (freeB b.les ⟨ll, lc, s, lh, lt⟩)) ∧ Below W.heap.size W w' from
    isFree_any (h.blk.below hb h.blk.lt) (h.les.below hb) (by omega) hg.rng ⟨ll, lc, s, lh, lt⟩ (by show (0 ≤ s ∧ s ≤ 24000) ∧ 0 ≤ lh ∧ lh ≤ 1000; omega))
  have hraw := hide (fun W (hb : Below w.heap.size w W) => (show Raw W X p L C T cl cc ct S _ vk vs va mb vp (b.les.map lesCells) _ _ _ _ _ _ _ from h.below hb))
  have hstep := hide (show ∀ k s, laterB S b ⟨ll, lc, ls, lh, lt⟩ (k + 1) s = if s + lh ≤ 4800 then (if dryB S b.wt lc (s / 24) && freeB b.les ⟨ll, lc, s, lh, lt⟩ then some ⟨ll, lc, s, lh, lt⟩ else laterB S b ⟨ll, lc, ls, lh, lt⟩ k (s + 24)) else none from fun _ _ => rfl)
  have h00 := hide (show ∀ s, laterB S b ⟨ll, lc, ls, lh, lt⟩ 0 s = none from fun _ => rfl)
  have q7 : ∀ W, Below w.heap.size w W → W.cell? ⟨p, 7, none⟩ = some (.slice (some ⟨gr, 0, none⟩) b.les.length cap) := fun W hb => (h.blk.below hb h.blk.lt).cell 7
  have c7 := q7 w (Below.refl _ _)
  replace q7 := hide q7
  have hfz' := hide (fun W (hb : Below w.heap.size w W) (k : Nat) => show W.frozen? ⟨gr, k, none⟩ = false from (hb.frozen (p := ⟨gr, k, none⟩) hgl).trans (hfz k))
  have hci := hide (fun W (hb : Below w.heap.size w W) => show W.cell? ⟨gr, i * 5, none⟩ = some (.int .i64 ll) ∧ W.cell? ⟨gr, i * 5 + 1, none⟩ = some (.int .i64 lc) ∧ W.cell? ⟨gr, i * 5 + 2, none⟩ = some (.int .i64 ls) ∧ W.cell? ⟨gr, i * 5 + 3, none⟩ = some (.int .i64 lh) ∧ W.cell? ⟨gr, i * 5 + 4, none⟩ = some (.int .i64 lt) from
    ⟨(cellB hb hgl).trans c0, (cellB hb hgl).trans c1, (cellB hb hgl).trans c2, (cellB hb hgl).trans c3, (cellB hb hgl).trans c4⟩)
  have hpl := h.blk.lt
  have hiz : (i : Int) < (b.les.length : Int) := by omega
  have hi' := hide hi
  obtain ⟨W1, hW1⟩ : ∃ x, w.alloc (.cells #[.int .i64 ll, .int .i64 lc, .int .i64 ls, .int .i64 lh, .int .i64 lt] 63) = x := ⟨_, rfl⟩
  have kb := hide (show Blk W1 w.heap.size 63 #[.int .i64 ll, .int .i64 lc, .int .i64 ls, .int .i64 lh, .int .i64 lt] by rw [← hW1]; exact blkNew rfl)
  have hB := hide (show Below w.heap.size w W1 by rw [← hW1]; exact (Below.refl w.heap.size w).alloc (Nat.le_refl _) _)
  replace hW1 := hide hW1
  have k2 : W1.cell? ⟨w.heap.size, 2, none⟩ = some (.int .i64 ls) := kb.out.cell 2
  have f2 : W1.frozen? ⟨w.heap.size, 2, none⟩ = false := kb.out.frozen 2
  have wr0 : IntKind.i64.wrap (ls + 24) = ls + 24 := by rw [IntKind.wrap_i64]; omega
  generalize hnn : b.les.length = nn at *
  replace hnn := hide hnn
  clear h hS hg hcell hfz hl hme hlen hi
  go_enter Try.func107, Try.ntmps107
  go_upto_region 1 with fail
  rw [hW1.out]
  clear c0 c1 c2 c3 c4 c7
  go_wp2
  go_loopg [17] 202 (fun gg s17 wr => ∃ (k : Nat) (s : Int), k ≤ 201 ∧ k < gg ∧ s = ls + 24 * (202 - k) ∧ Hid (laterB S b ⟨ll, lc, ls, lh, lt⟩ k s = R) ∧ Hid (Below w.heap.size w wr) ∧ Hid (Blk wr w.heap.size 63 #[.int .i64 ll, .int .i64 lc, .int .i64 s, .int .i64 lh, .int .i64 lt]))
  case atStart =>
    exact ⟨201, ls + 24, by omega, by omega, by omega, hR, hB.out.setCell (Nat.le_refl _) _, by have := kb.out.set_ 2 (.int .i64 (ls + 24)); unfold Hid; simpa using this⟩
  case round =>
    clear k2 f2 wr0 kb hB hR
    obtain ⟨k, s, hk, hkg, hs, hRk, hBr, kr⟩ := hrel
    have hsr : 0 ≤ s ∧ s ≤ 10000 := by omega
    replace hs := hide hs
    have k0 : wr.cell? ⟨w.heap.size, 0, none⟩ = some (.int .i64 ll) := kr.out.cell 0
    have k1 : wr.cell? ⟨w.heap.size, 1, none⟩ = some (.int .i64 lc) := kr.out.cell 1
    have k2 : wr.cell? ⟨w.heap.size, 2, none⟩ = some (.int .i64 s) := kr.out.cell 2
    have k3 : wr.cell? ⟨w.heap.size, 3, none⟩ = some (.int .i64 lh) := kr.out.cell 3
    have k4 : wr.cell? ⟨w.heap.size, 4, none⟩ = some (.int .i64 lt) := kr.out.cell 4
    go_wp2_with fail
    refine (hE.out s _ hsr).mono ?_
    rintro e w2 ⟨rfl, hb⟩
    have hB2 := hide (hBr.out.trans (hb.mono hBr.out.size))
    have kr2 := hide (kr.out.below hb kr.out.lt)
    clear hb k0 k1 k2 k3 k4 kr hBr
    by_cases hle : s + lh ≤ 4800
    · obtain ⟨k, rfl⟩ : ∃ k', k = k' + 1 := ⟨k - 1, by have := hs.out; omega⟩
      have hR2 := hRk.out
      rw [hstep.out, if_pos hle] at hR2
      clear hRk
      have k0 : w2.cell? ⟨w.heap.size, 0, none⟩ = some (.int .i64 ll) := kr2.out.cell 0
      have k1 : w2.cell? ⟨w.heap.size, 1, none⟩ = some (.int .i64 lc) := kr2.out.cell 1
      have k2 : w2.cell? ⟨w.heap.size, 2, none⟩ = some (.int .i64 s) := kr2.out.cell 2
      have k3 : w2.cell? ⟨w.heap.size, 3, none⟩ = some (.int .i64 lh) := kr2.out.cell 3
      have k4 : w2.cell? ⟨w.heap.size, 4, none⟩ = some (.int .i64 lt) := kr2.out.cell 4
      replace hR2 := hide hR2
      go_wp2_with fail
      refine (hD.out s _ hsr hB2.out).mono ?_
      rintro e w3 ⟨rfl, hb⟩
      have hB3 := hide (hB2.out.trans (hb.mono hB2.out.size))
      have kr3 := hide (kr2.out.below hb kr2.out.lt)
      clear hb k0 k1 k2 k3 k4 kr2 hB2
      have k0 : w3.cell? ⟨w.heap.size, 0, none⟩ = some (.int .i64 ll) := kr3.out.cell 0
      have k1 : w3.cell? ⟨w.heap.size, 1, none⟩ = some (.int .i64 lc) := kr3.out.cell 1
      have k2 : w3.cell? ⟨w.heap.size, 2, none⟩ = some (.int .i64 s) := kr3.out.cell 2
      have k3 : w3.cell? ⟨w.heap.size, 3, none⟩ = some (.int .i64 lh) := kr3.out.cell 3
      have k4 : w3.cell? ⟨w.heap.size, 4, none⟩ = some (.int .i64 lt) := kr3.out.cell 4
      have f2 : w3.frozen? ⟨w.heap.size, 2, none⟩ = false := kr3.out.frozen 2
      have wr1 : IntKind.i64.wrap (s + 24) = s + 24 := by rw [IntKind.wrap_i64]; omega
      generalize hqd : dryB S b.wt lc (s / 24) = qd at *
      have hnx := hide (show ∀ W, W = w3.setCell ⟨w.heap.size, 2, none⟩ (.int .i64 (s + 24)) → Below w.heap.size w W ∧ Blk W w.heap.size 63 #[.int .i64 ll, .int .i64 lc, .int .i64 (s + 24), .int .i64 lh, .int .i64 lt] from fun W hW => by
        subst hW
        exact ⟨hB3.out.setCell (Nat.le_refl _) _, by have := kr3.out.set_ 2 (.int .i64 (s + 24)); simpa using this⟩)
      cases qd with
      | false =>
        have hR3 := hR2.out
        simp only [Bool.false_and, Bool.false_eq_true, if_false] at hR3
        replace hR3 := hide hR3
        clear hR2
        go_wp2_with fail
        go_wp2
        go_roundg (k + 1)
        case measure => omega
        case rel => exact ⟨k, s + 24, by omega, by omega, by have := hs.out; omega, hR3.out, (hnx.out _ rfl).1, (hnx.out _ rfl).2⟩
      | true =>
        go_wp2_with fail
        refine (hF.out s _ hsr hB3.out).mono ?_
        rintro e w4 ⟨rfl, hb⟩
        have hB4 := hide (hB3.out.trans (hb.mono hB3.out.size))
        have kr4 := hide (kr3.out.below hb kr3.out.lt)
        clear hb k0 k1 k2 k3 k4 f2 kr3 hB3 hnx
        have k0 : w4.cell? ⟨w.heap.size, 0, none⟩ = some (.int .i64 ll) := kr4.out.cell 0
        have k1 : w4.cell? ⟨w.heap.size, 1, none⟩ = some (.int .i64 lc) := kr4.out.cell 1
        have k2 : w4.cell? ⟨w.heap.size, 2, none⟩ = some (.int .i64 s) := kr4.out.cell 2
        have k3 : w4.cell? ⟨w.heap.size, 3, none⟩ = some (.int .i64 lh) := kr4.out.cell 3
        have k4 : w4.cell? ⟨w.heap.size, 4, none⟩ = some (.int .i64 lt) := kr4.out.cell 4
        have f2 : w4.frozen? ⟨w.heap.size, 2, none⟩ = false := kr4.out.frozen 2
        have hnx := hide (show ∀ W, W = w4.setCell ⟨w.heap.size, 2, none⟩ (.int .i64 (s + 24)) → Below w.heap.size w W ∧ Blk W w.heap.size 63 #[.int .i64 ll, .int .i64 lc, .int .i64 (s + 24), .int .i64 lh, .int .i64 lt] from fun W hW => by
          subst hW
          exact ⟨hB4.out.setCell (Nat.le_refl _) _, by have := kr4.out.set_ 2 (.int .i64 (s + 24)); simpa using this⟩)
        generalize hqf : freeB b.les ⟨ll, lc, s, lh, lt⟩ = qf at *
        cases qf with
        | false =>
          have hR3 := hR2.out
          simp only [Bool.and_false, Bool.false_eq_true, if_false] at hR3
          replace hR3 := hide hR3
          clear hR2
          go_wp2
          go_roundg (k + 1)
          case measure => omega
          case rel => exact ⟨k, s + 24, by omega, by omega, by have := hs.out; omega, hR3.out, (hnx.out _ rfl).1, (hnx.out _ rfl).2⟩
        | true =>
          have hR3 := hR2.out
          simp only [Bool.and_self, if_true] at hR3
          subst hR3
          have d7 : w4.cell? ⟨p, 7, none⟩ = some (.slice (some ⟨gr, 0, none⟩) nn cap) := q7.out w4 hB4.out
          obtain ⟨y0, y1, y2, y3, y4⟩ := hci.out w4 hB4.out
          have z0 := hfz'.out w4 hB4.out (i * 5)
          have z1 := hfz'.out w4 hB4.out (i * 5 + 1)
          have z2 := hfz'.out w4 hB4.out (i * 5 + 2)
          have z3 := hfz'.out w4 hB4.out (i * 5 + 3)
          have z4 := hfz'.out w4 hB4.out (i * 5 + 4)
          have hfin := hide ((hraw.out w4.drew hB4.out.drew).putLes (by rw [hnn.out]; exact hi'.out) ⟨ll, lc, s, lh, lt⟩)
          have hgw := hide (grown_of_below (row := some gr) hB4.out.drew)
          clear hnx f2
          simp only at hfin
          go_wp2
          refine region_tailB 8 (by kernel_rfl) (by kernel_rfl) ?_
          simp only [List.take_succ_cons, List.take_zero, List.drop_succ_cons, List.drop_zero]
          iterate 8 (refine still_bx (fun K hK => ?_); go_simp; refine hK.out _ ?_; clear hK K)
          refine still_bx_nil ?_
          clear k0 k1 k2 k3 k4
          go_wp2
          refine bodyPost_ret (results_none rfl _ _ _) rfl ?_
          exact ⟨rfl, hfin.out, grown_set (grown_set (grown_set (grown_set (grown_set hgw.out rfl _) rfl _) rfl _) rfl _) rfl _⟩
    · have hRn : R = none := by
        have hR2 := hRk.out
        cases k with
        | zero => rw [h00.out] at hR2; exact hR2.symm
        | succ k => rw [hstep.out, if_neg hle] at hR2; exact hR2.symm
      subst hRn
      clear hRk hs
      have d7 : w2.cell? ⟨p, 7, none⟩ = some (.slice (some ⟨gr, 0, none⟩) nn cap) := q7.out w2 hB2.out
      obtain ⟨y0, y1, y2, y3, y4⟩ := hci.out w2 hB2.out
      have z4 := hfz'.out w2 hB2.out (i * 5 + 4)
      have hfin := hide ((hraw.out w2 hB2.out).setLes (j := i) (i := 4) (by rw [List.length_map, hnn.out]; exact hi'.out) (by omega) (.int .i64 1))
      have hgw := hide (grown_of_below (row := some gr) hB2.out)
      go_wp2
      go_end0
      refine ⟨rfl, ?_, grown_set hgw.out rfl _⟩
      have h9 := hfin.out
      rw [map_at lesCells b.les i (by rw [hnn.out]; exact hi'.out), hl'.out] at h9
      unfold RawB
      simp only [List.map_set]
      exact h9
end Go.Proofs.Ytkmhldjebopljaa
