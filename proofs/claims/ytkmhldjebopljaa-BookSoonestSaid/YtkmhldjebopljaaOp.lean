import Derived.Test.YtkmhldjebopljaaOo
/-
  The event cancel (made by mkbkcancel.py).
-/
namespace Go.Proofs.Ytkmhldjebopljaa
open Go.RowKit RG

set_option maxRecDepth 100000 in
set_option maxHeartbeats 700000 in
theorem cancel_any {w : World} {X : Nat → Prop} {p : Nat} {L C T : Option Addr} {cl cc ct : Nat} {S : BSch} {vl vk vs va : Value} {mb : Nat} {vp : Value} {b : Bks} {ev : Int} (h0 : RawB w X p L C T cl cc ct S vl vk vs va mb vp b ev) (hS : SchGd S) (hg : Gd S b) (x : BEv) (hx : 0 ≤ x.at_ ∧ x.at_ ≤ 4800) :
    Calls Try.prog 86 #[.pointer (some ⟨p, 0, none⟩), .agg (evCells x).toArray] w fun e w' => EvR w X p L C T cl cc ct S b ev (cancelB S b ev x) e w' := by
  obtain ⟨W, hW⟩ : ∃ y, w.alloc (.cells (evCells x).toArray 65) = y := ⟨_, rfl⟩
  have kb := hide (show Blk W w.heap.size 65 (evCells x).toArray by rw [← hW]; exact blkNew rfl)
  have hB := hide (show Below w.heap.size w W by rw [← hW]; exact (Below.refl w.heap.size w).alloc (Nat.le_refl _) _)
  obtain ⟨Y, hY⟩ : ∃ Y : Nat → Prop, (fun k => X k ∨ k = w.heap.size) = Y := ⟨_, rfl⟩
  have hXY : ∀ k, X k → Y k := fun k hk => by rw [← hY]; exact .inl hk
  have hYg : Y w.heap.size := by rw [← hY]; exact .inr rfl
  have hrawX := hide (fun V (hb : Below w.heap.size w V) => (show RawB V X p L C T cl cc ct S vl vk vs va mb vp b ev from Raw.below h0 hb))
  have hraw := hide (fun V (hb : Below w.heap.size w V) (hz : w.heap.size < V.heap.size) => (show RawB V Y p L C T cl cc ct S vl vk vs va mb vp b ev from Raw.more h0 hb hXY (fun k hk => by rw [← hY] at hk; exact hk.imp id (fun e => by omega)) (fun k hk => by
    rw [← hY] at hk
    rcases hk with hk | hk
    · exact Nat.lt_trans (h0.old k hk) hz
    · rw [hk]; exact hz)))
  have hold := h0.old
  have hsch := h0.sch
  have hk := hide (fun V (hb : Below w.heap.size w V) => KeptX.of_below hb hold)
  have hlen := hg.lim.les
  have hL := hide (fun V (hb : Below w.heap.size w V) y => show Calls Try.prog 103 #[.pointer (some ⟨p, 0, none⟩), .int .i64 y, .int .i64 0] V fun e w' => e = .returned (.bool (hasB b y 0)) ∧ Below V.heap.size V w' from isLesson_any (h0.blk.below hb h0.blk.lt) (h0.les.below hb) (by omega) y 0)
  have hnl := hide hS.nl
  have hg' := hide hg
  have hrow := hide h0.les
  have hS' := hide hS
  obtain ⟨q, hq⟩ : ∃ q, cancelB S b ev x = q := ⟨_, rfl⟩
  rw [hq]
  unfold cancelB lesAt at hq
  clear h0 hS hg hold hY hlen
  obtain ⟨k0, k1, k2, k3, k4, k5, k6, k7, k8, k9, k10⟩ := ev_cells kb.out
  replace hW := hide hW
  replace hsch := hide hsch
  obtain ⟨xkind, xat, xlearner, xcar, xbooking, xstart, xhours, xday, xweather, xkm, xcents⟩ := x
  unfold evCells at *
  simp only at *
  clear k0 k1 k2 k3 k5 k6 k7 k8 k9 k10
  go_enter Try.func86, Try.ntmps86
  go_upto_region 1 with fail
  rw [hW.out]
  go_wp2_with fail
  refine (hL.out _ hB.out xbooking).mono ?_
  rintro e w2 ⟨rfl, hb⟩
  have hB2 := hide (hB.out.trans (hb.mono hB.out.size))
  have kb2 := hide (kb.out.below hb kb.out.lt)
  clear hb k4 kb hB hL
  cases h1 : hasB b xbooking 0 with
  | false =>
    rw [if_pos h1] at hq
    subst hq
    go_wp2_with fail
    refine (need_no 4 _).mono ?_
    rintro e w3 ⟨rfl, rfl⟩
    go_wp2
    exact ⟨rfl, .inr ⟨by simp, rfl, _, _, _, _, _, _, hrawX.out _ hB2.out⟩, hk.out _ hB2.out⟩
  | true =>
    rw [if_neg (by simp [h1])] at hq
    obtain ⟨j, rfl, hj0, -⟩ := hasB_nat h1
    rw [Int.toNat_natCast] at hq
    have hj := hide hj0
    replace h1 := hide h1
    have k4 : w2.drew.cell? ⟨w.heap.size, 4, none⟩ = some (.int .i64 j) := kb2.out.cell 4
    have k1 : w2.drew.drew.cell? ⟨w.heap.size, 1, none⟩ = some (.int .i64 xat) := kb2.out.cell 1
    obtain ⟨gl, cap, rfl, hgx, -, -, -, hfz, hcel, cur, hcur⟩ := les_row ((hraw.out w2 hB2.out kb2.out.lt).les) (by omega)
    have hne : w.heap.size ≠ gl := fun e => hgx (e ▸ hYg)
    have q7 : w2.drew.cell? ⟨p, 7, none⟩ = some (.slice (some ⟨gl, 0, none⟩) b.les.length cap) := by have := (hraw.out w2 hB2.out kb2.out.lt).blk.cell 7; exact this
    have hlo := les_at hg'.out.les hj0
    have hcj := hcel j hj0
    clear hj0
    generalize hle : b.les[j]?.getD default = l at *
    replace hle := hide hle
    obtain ⟨ln, lc, ls, lh, lt⟩ := l
    obtain ⟨o1, o2, o3, o4, o5⟩ := hlo
    simp only at o1 o2 o3 o4 o5 hcj hq
    obtain ⟨y0, y1, y2, y3, y4⟩ := hcj
    replace y0 : w2.drew.drew.cell? ⟨gl, j * 5, none⟩ = some (.int .i64 ln) := y0
    replace y2 : w2.drew.drew.cell? ⟨gl, j * 5 + 2, none⟩ = some (.int .i64 ls) := y2
    replace y3 : w2.drew.drew.cell? ⟨gl, j * 5 + 3, none⟩ = some (.int .i64 lh) := y3
    replace y4 : w2.drew.drew.cell? ⟨gl, j * 5 + 4, none⟩ = some (.int .i64 lt) := y4
    have z4 : w2.drew.drew.frozen? ⟨gl, j * 5 + 4, none⟩ = false := hfz (j * 5 + 4)
    have hjz : (j : Int) < (b.les.length : Int) := by have := hj.out; omega
    clear hcel hcur hfz
    go_wp2_with fail
    refine (need_yes 4 _).mono ?_
    rintro e w3 ⟨rfl, rfl⟩
    go_wp2
    refine region_tailB 8 (by kernel_rfl) (by kernel_rfl) ?_
    simp only [List.take_succ_cons, List.take_zero, List.drop_succ_cons, List.drop_zero]
    iterate 8 (refine still_bx (fun K hK => ?_); go_simp; refine hK.out _ ?_; clear hK K)
    refine still_bx_nil ?_
    go_wp2
    refine region_tailB 7 (by kernel_rfl) (by kernel_rfl) ?_
    simp only [List.take_succ_cons, List.take_zero, List.drop_succ_cons, List.drop_zero]
    iterate 7 (refine still_bx (fun K hK => ?_); go_simp; refine hK.out _ ?_; clear hK K)
    refine still_bx_nil ?_
    clear k4 k1 q7
    cases h2 : decide (xat < ls) with
    | false =>
      rw [if_pos (by have := of_decide_eq_false h2; omega)] at hq
      subst hq
      go_wp2_with fail
      refine (need_no 2 _).mono ?_
      rintro e w4 ⟨rfl, rfl⟩
      go_wp2
      exact ⟨rfl, .inr ⟨by simp, rfl, _, _, _, _, _, _, hrawX.out _ hB2.out.drew.drew⟩, hk.out _ hB2.out.drew.drew⟩
    | true =>
      have h2' := of_decide_eq_true h2
      rw [if_neg (by omega)] at hq
      have h2h := hide h2'
      clear h2'
      go_wp2_with fail
      refine (need_yes 2 _).mono ?_
      rintro e w4 ⟨rfl, rfl⟩
      obtain ⟨W5, hW5⟩ : ∃ y, (w2.setCell ⟨gl, j * 5 + 4, none⟩ (.int .i64 1)).drew.drew = y := ⟨_, rfl⟩
      have hraw5 : RawB W5 Y p L C T cl cc ct S (.slice (some ⟨gl, 0, none⟩) b.les.length cap) vk vs va mb vp (setLes b j fun l => { l with state := 1 }) ev := by
        have := RawB.setState (hraw.out w2 hB2.out kb2.out.lt) (j := j) hj.out 1
        rw [← hW5]
        exact Raw.below this (Below.refl _ _).drew.drew
      have hk5 := hide ((hk.out w2 hB2.out).trans (show KeptX X w2 W5 by rw [← hW5]; exact (KeptX.setCell w2 (p := ⟨gl, j * 5 + 4, none⟩) (fun hh => hgx (hXY _ hh)) _).drew.drew))
      have kb5 := hide (show Blk W5 w.heap.size 65 _ by rw [← hW5]; exact Blk.far kb2.out (p := ⟨gl, j * 5 + 4, none⟩) hne _)
      have hc5 := hide (show W5.cell? ⟨gl, j * 5, none⟩ = some (.int .i64 ln) ∧ W5.cell? ⟨gl, j * 5 + 2, none⟩ = some (.int .i64 ls) ∧ W5.cell? ⟨gl, j * 5 + 3, none⟩ = some (.int .i64 lh) ∧ gl < W5.heap.size from by
        obtain ⟨gl', cap', e', _, hlt, _, _, _, hcel, _⟩ := les_row hraw5.les (by show 0 < (b.les.set _ _).length; rw [List.length_set]; have := hj.out; omega)
        have e2 : gl = gl' := by injection e' with e'; injection e' with e'; injection e'
        subst e2
        have := hcel j (by show j < (b.les.set _ _).length; rw [List.length_set]; exact hj.out)
        have e3 : (setLes b j fun l => { l with state := 1 }).les[j]?.getD default = ⟨ln, lc, ls, lh, 1⟩ := by
          show (b.les.set (Int.toNat j) _)[j]?.getD default = _
          rw [Int.toNat_natCast, List.getElem?_set_self hj.out, hle.out]; rfl
        rw [e3] at this
        exact ⟨this.1, this.2.2.1, this.2.2.2.1, hlt⟩)
      obtain ⟨b5, hb5⟩ : ∃ b5, (setLes b j fun l => { l with state := 1 }) = b5 := ⟨_, rfl⟩
      have g5 := hide (show b5.acc = b.acc ∧ b5.pst = b.pst by rw [← hb5]; exact ⟨rfl, rfl⟩)
      rw [hb5] at hraw5 hq
      obtain ⟨jl, rfl⟩ : ∃ jl : Nat, ln = (jl : Int) := ⟨ln.toNat, by omega⟩
      have hfr := feeB_in hS'.out.ok (hours := lh) (before := ls - xat) (by omega)
      have hpr := hS'.out.ok.price
      have hhp : lh * S.price ≤ 4 * S.price := Int.mul_le_mul_of_nonneg_right o3.2 (by omega)
      have hfee := hide (fun V (hb : Below W5.heap.size W5 V) => fee_any (.agg (schCells L C T cl cc ct S)) S lh (ls - xat) V ⟨L, C, T, cl, cc, ct, rfl, (Raw.below hraw5 hb).sch.rows⟩ hS'.out.ok o3)
      generalize hfe : feeB S lh (ls - xat) = fe at *
      replace hfe := hide hfe
      have hac := hide (fun V (hb : Below W5.heap.size W5 V) => account_any (hraw5.blk.below hb hraw5.blk.lt) hnl.out.2 0 (by omega))
      have hpo := hide (fun V (hb : Below W5.heap.size W5 V) => post_any (Raw.below hraw5 hb) (jf := jl) (jt := S.learners.length) (c := fe) (by rw [g5.out.1, hg'.out.acc]; omega) (by rw [g5.out.1, hg'.out.acc]; omega) (by rw [g5.out.1, hg'.out.acc]; have := hnl.out; omega) (by omega) (by rw [g5.out.1]; exact hg'.out.acc_lim) (by rw [g5.out.2]; have := hg'.out.lim.pst; omega))
      have hkB := hide (fun V (hb : Below W5.heap.size W5 V) => KeptX.of_below hb hraw5.old)
      have hfac := hide (show ∀ V, Below W5.heap.size W5 V → V.cell? ⟨w.heap.size, 1, none⟩ = some (.int .i64 xat) ∧ V.cell? ⟨gl, j * 5, none⟩ = some (.int .i64 jl) ∧ V.cell? ⟨gl, j * 5 + 2, none⟩ = some (.int .i64 ls) ∧ V.cell? ⟨gl, j * 5 + 3, none⟩ = some (.int .i64 lh) ∧
        V.cell? ⟨p, 0, none⟩ = some (.slice L S.learners.length cl) ∧ V.cell? ⟨p, 1, none⟩ = some (.slice C S.cars.length cc) ∧ V.cell? ⟨p, 2, none⟩ = some (.int .i64 S.price) ∧ V.cell? ⟨p, 3, none⟩ = some (.int .i64 S.excess) ∧ V.cell? ⟨p, 4, none⟩ = some (.int .i64 S.lo) ∧ V.cell? ⟨p, 5, none⟩ = some (.int .i64 S.hi) ∧ V.cell? ⟨p, 6, none⟩ = some (.slice T S.terms.length ct) from fun V hb => by
        have k := kb5.out.below hb kb5.out.lt
        have k' := hraw5.blk.below hb hraw5.blk.lt
        exact ⟨k.cell 1, (cellB hb hc5.out.2.2.2).trans hc5.out.1, (cellB hb hc5.out.2.2.2).trans hc5.out.2.1, (cellB hb hc5.out.2.2.2).trans hc5.out.2.2.1, k'.cell 0, k'.cell 1, k'.cell 2, k'.cell 3, k'.cell 4, k'.cell 5, k'.cell 6⟩)
      have wsub : IntKind.i64.wrap (ls - xat) = ls - xat := by rw [IntKind.wrap_i64]; omega
      replace hq := hide hq
      replace hW5 := hide hW5
      replace hraw5 := hide hraw5
      replace hb5 := hide hb5
      clear o1 o2 o4 o5 hfr hpr hhp hx
      unfold schCells at *
      go_upto_region 5 with fail
      rw [hW5.out]
      clear y0 y2 y3 y4 z4
      refine region_grow_tail 23 [IsV (.pointer (some ⟨p, 0, none⟩)), IsV (.pointer (some ⟨gl, j * 5, none⟩)), IsV (.pointer (some ⟨gl, j * 5, none⟩)), IsV (.pointer (some ⟨gl, j * 5, none⟩)), IsV (.int .i64 jl), IsV (.pointer (some ⟨p, 0, none⟩)), IsV (.int .i64 (S.learners.length : Int)), IsV (.pointer (some ⟨p, 0, none⟩)), IsV (.pointer (some ⟨p, 0, none⟩)), IsV (.pointer (some ⟨p, 0, none⟩)), IsV (.agg (schCells L C T cl cc ct S)), IsV (.pointer (some ⟨gl, j * 5, none⟩)), IsV (.pointer (some ⟨gl, j * 5, none⟩)), IsV (.pointer (some ⟨gl, j * 5 + 3, none⟩)), IsV (.int .i64 lh), IsV (.pointer (some ⟨gl, j * 5, none⟩)), IsV (.pointer (some ⟨gl, j * 5, none⟩)), IsV (.pointer (some ⟨gl, j * 5 + 2, none⟩)), IsV (.int .i64 ls), IsV (.pointer (some ⟨w.heap.size, 1, none⟩)), IsV (.int .i64 xat), IsV (.int .i64 (ls - xat)), IsV (.int .i64 fe)] (by kernel_rfl) (by kernel_rfl) rfl ?_ ?_ ?_
      · simp [AllStb, IsV.stb]
      · refine ⟨?_, ?_, ?_, ?_, ?_, ?_, ?_, ?_, ?_, ?_, ?_, ?_, ?_, ?_, ?_, ?_, ?_, ?_, ?_, ?_, ?_, ?_, ?_, trivial⟩
        · intro y w1 K Q Cv hC hd hV
          have f := hfac.out w1 hC
          have a0 := f.1
          have a1 := f.2.1
          have a2 := f.2.2.1
          have a3 := f.2.2.2.1
          have a4 := f.2.2.2.2.1
          have a5 := f.2.2.2.2.2.1
          have a6 := f.2.2.2.2.2.2.1
          have a7 := f.2.2.2.2.2.2.2.1
          have a8 := f.2.2.2.2.2.2.2.2.1
          have a9 := f.2.2.2.2.2.2.2.2.2.1
          have a10 := f.2.2.2.2.2.2.2.2.2.2
          clear f
          clear hd
          simp only [List.take_succ_cons, List.take_zero, putAll, Act.put]
          go_simp
          intro hK; exact hK _ _ (hV _ _ hC (Below.refl _ _) rfl)
        · intro y w1 K Q Cv hC hd hV
          have f := hfac.out w1 hC
          have a0 := f.1
          have a1 := f.2.1
          have a2 := f.2.2.1
          have a3 := f.2.2.2.1
          have a4 := f.2.2.2.2.1
          have a5 := f.2.2.2.2.2.1
          have a6 := f.2.2.2.2.2.2.1
          have a7 := f.2.2.2.2.2.2.2.1
          have a8 := f.2.2.2.2.2.2.2.2.1
          have a9 := f.2.2.2.2.2.2.2.2.2.1
          have a10 := f.2.2.2.2.2.2.2.2.2.2
          clear f
          clear hd
          simp only [List.take_succ_cons, List.take_zero, putAll, Act.put]
          go_simp
          intro hK; exact hK _ _ (hV _ _ hC (Below.refl _ _) rfl)
        · intro y w1 K Q Cv hC hd hV
          have f := hfac.out w1 hC
          have a0 := f.1
          have a1 := f.2.1
          have a2 := f.2.2.1
          have a3 := f.2.2.2.1
          have a4 := f.2.2.2.2.1
          have a5 := f.2.2.2.2.2.1
          have a6 := f.2.2.2.2.2.2.1
          have a7 := f.2.2.2.2.2.2.2.1
          have a8 := f.2.2.2.2.2.2.2.2.1
          have a9 := f.2.2.2.2.2.2.2.2.2.1
          have a10 := f.2.2.2.2.2.2.2.2.2.2
          clear f
          simp [deps, VL, IsV, Region.binds] at hd
          simp only [List.take_succ_cons, List.take_zero, putAll, Act.put]
          go_simp
          intro hK; exact hK _ _ (hV _ _ hC (Below.refl _ _) rfl)
        · intro y w1 K Q Cv hC hd hV
          have f := hfac.out w1 hC
          have a0 := f.1
          have a1 := f.2.1
          have a2 := f.2.2.1
          have a3 := f.2.2.2.1
          have a4 := f.2.2.2.2.1
          have a5 := f.2.2.2.2.2.1
          have a6 := f.2.2.2.2.2.2.1
          have a7 := f.2.2.2.2.2.2.2.1
          have a8 := f.2.2.2.2.2.2.2.2.1
          have a9 := f.2.2.2.2.2.2.2.2.2.1
          have a10 := f.2.2.2.2.2.2.2.2.2.2
          clear f
          simp [deps, VL, IsV, Region.binds] at hd
          simp only [List.take_succ_cons, List.take_zero, putAll, Act.put]
          go_simp
          intro hK; exact hK _ _ (hV _ _ hC (Below.refl _ _) rfl)
        · intro y w1 K Q Cv hC hd hV
          have f := hfac.out w1 hC
          have a0 := f.1
          have a1 := f.2.1
          have a2 := f.2.2.1
          have a3 := f.2.2.2.1
          have a4 := f.2.2.2.2.1
          have a5 := f.2.2.2.2.2.1
          have a6 := f.2.2.2.2.2.2.1
          have a7 := f.2.2.2.2.2.2.2.1
          have a8 := f.2.2.2.2.2.2.2.2.1
          have a9 := f.2.2.2.2.2.2.2.2.2.1
          have a10 := f.2.2.2.2.2.2.2.2.2.2
          clear f
          simp [deps, VL, IsV, Region.binds] at hd
          simp only [List.take_succ_cons, List.take_zero, putAll, Act.put]
          go_simp
          intro hK; exact hK _ _ (hV _ _ hC (Below.refl _ _) rfl)
        · intro y w1 K Q Cv hC hd hV
          have f := hfac.out w1 hC
          have a0 := f.1
          have a1 := f.2.1
          have a2 := f.2.2.1
          have a3 := f.2.2.2.1
          have a4 := f.2.2.2.2.1
          have a5 := f.2.2.2.2.2.1
          have a6 := f.2.2.2.2.2.2.1
          have a7 := f.2.2.2.2.2.2.2.1
          have a8 := f.2.2.2.2.2.2.2.2.1
          have a9 := f.2.2.2.2.2.2.2.2.2.1
          have a10 := f.2.2.2.2.2.2.2.2.2.2
          clear f
          clear hd
          simp only [List.take_succ_cons, List.take_zero, putAll, Act.put]
          go_simp
          intro hK; exact hK _ _ (hV _ _ hC (Below.refl _ _) rfl)
        · intro y w1 K Q Cv hC hd hV
          have f := hfac.out w1 hC
          have a0 := f.1
          have a1 := f.2.1
          have a2 := f.2.2.1
          have a3 := f.2.2.2.1
          have a4 := f.2.2.2.2.1
          have a5 := f.2.2.2.2.2.1
          have a6 := f.2.2.2.2.2.2.1
          have a7 := f.2.2.2.2.2.2.2.1
          have a8 := f.2.2.2.2.2.2.2.2.1
          have a9 := f.2.2.2.2.2.2.2.2.2.1
          have a10 := f.2.2.2.2.2.2.2.2.2.2
          clear f
          simp [deps, VL, IsV, Region.binds] at hd
          simp only [List.take_succ_cons, List.take_zero, putAll, Act.put]
          go_simp
          intro hK; refine (hac.out _ hC).mono ?_; rintro e w4 ⟨rfl, rfl⟩; exact hK _ _ (hV _ _ hC (Below.refl _ _) rfl)
        · intro y w1 K Q Cv hC hd hV
          have f := hfac.out w1 hC
          have a0 := f.1
          have a1 := f.2.1
          have a2 := f.2.2.1
          have a3 := f.2.2.2.1
          have a4 := f.2.2.2.2.1
          have a5 := f.2.2.2.2.2.1
          have a6 := f.2.2.2.2.2.2.1
          have a7 := f.2.2.2.2.2.2.2.1
          have a8 := f.2.2.2.2.2.2.2.2.1
          have a9 := f.2.2.2.2.2.2.2.2.2.1
          have a10 := f.2.2.2.2.2.2.2.2.2.2
          clear f
          clear hd
          simp only [List.take_succ_cons, List.take_zero, putAll, Act.put]
          go_simp
          intro hK; exact hK _ _ (hV _ _ hC (Below.refl _ _) rfl)
        · intro y w1 K Q Cv hC hd hV
          have f := hfac.out w1 hC
          have a0 := f.1
          have a1 := f.2.1
          have a2 := f.2.2.1
          have a3 := f.2.2.2.1
          have a4 := f.2.2.2.2.1
          have a5 := f.2.2.2.2.2.1
          have a6 := f.2.2.2.2.2.2.1
          have a7 := f.2.2.2.2.2.2.2.1
          have a8 := f.2.2.2.2.2.2.2.2.1
          have a9 := f.2.2.2.2.2.2.2.2.2.1
          have a10 := f.2.2.2.2.2.2.2.2.2.2
          clear f
          simp [deps, VL, IsV, Region.binds] at hd
          simp only [List.take_succ_cons, List.take_zero, putAll, Act.put]
          go_simp
          intro hK; exact hK _ _ (hV _ _ hC (Below.refl _ _) rfl)
        · intro y w1 K Q Cv hC hd hV
          have f := hfac.out w1 hC
          have a0 := f.1
          have a1 := f.2.1
          have a2 := f.2.2.1
          have a3 := f.2.2.2.1
          have a4 := f.2.2.2.2.1
          have a5 := f.2.2.2.2.2.1
          have a6 := f.2.2.2.2.2.2.1
          have a7 := f.2.2.2.2.2.2.2.1
          have a8 := f.2.2.2.2.2.2.2.2.1
          have a9 := f.2.2.2.2.2.2.2.2.2.1
          have a10 := f.2.2.2.2.2.2.2.2.2.2
          clear f
          simp [deps, VL, IsV, Region.binds] at hd
          simp only [List.take_succ_cons, List.take_zero, putAll, Act.put]
          go_simp
          intro hK; exact hK _ _ (hV _ _ hC (Below.refl _ _) rfl)
        · intro y w1 K Q Cv hC hd hV
          have f := hfac.out w1 hC
          have a0 := f.1
          have a1 := f.2.1
          have a2 := f.2.2.1
          have a3 := f.2.2.2.1
          have a4 := f.2.2.2.2.1
          have a5 := f.2.2.2.2.2.1
          have a6 := f.2.2.2.2.2.2.1
          have a7 := f.2.2.2.2.2.2.2.1
          have a8 := f.2.2.2.2.2.2.2.2.1
          have a9 := f.2.2.2.2.2.2.2.2.2.1
          have a10 := f.2.2.2.2.2.2.2.2.2.2
          clear f
          simp [deps, VL, IsV, Region.binds] at hd
          simp only [List.take_succ_cons, List.take_zero, putAll, Act.put]
          go_simp
          intro hK; exact hK _ _ (hV _ _ hC (Below.refl _ _) rfl)
        · intro y w1 K Q Cv hC hd hV
          have f := hfac.out w1 hC
          have a0 := f.1
          have a1 := f.2.1
          have a2 := f.2.2.1
          have a3 := f.2.2.2.1
          have a4 := f.2.2.2.2.1
          have a5 := f.2.2.2.2.2.1
          have a6 := f.2.2.2.2.2.2.1
          have a7 := f.2.2.2.2.2.2.2.1
          have a8 := f.2.2.2.2.2.2.2.2.1
          have a9 := f.2.2.2.2.2.2.2.2.2.1
          have a10 := f.2.2.2.2.2.2.2.2.2.2
          clear f
          clear hd
          simp only [List.take_succ_cons, List.take_zero, putAll, Act.put]
          go_simp
          intro hK; exact hK _ _ (hV _ _ hC (Below.refl _ _) rfl)
        · intro y w1 K Q Cv hC hd hV
          have f := hfac.out w1 hC
          have a0 := f.1
          have a1 := f.2.1
          have a2 := f.2.2.1
          have a3 := f.2.2.2.1
          have a4 := f.2.2.2.2.1
          have a5 := f.2.2.2.2.2.1
          have a6 := f.2.2.2.2.2.2.1
          have a7 := f.2.2.2.2.2.2.2.1
          have a8 := f.2.2.2.2.2.2.2.2.1
          have a9 := f.2.2.2.2.2.2.2.2.2.1
          have a10 := f.2.2.2.2.2.2.2.2.2.2
          clear f
          simp [deps, VL, IsV, Region.binds] at hd
          simp only [List.take_succ_cons, List.take_zero, putAll, Act.put]
          go_simp
          intro hK; exact hK _ _ (hV _ _ hC (Below.refl _ _) rfl)
        · intro y w1 K Q Cv hC hd hV
          have f := hfac.out w1 hC
          have a0 := f.1
          have a1 := f.2.1
          have a2 := f.2.2.1
          have a3 := f.2.2.2.1
          have a4 := f.2.2.2.2.1
          have a5 := f.2.2.2.2.2.1
          have a6 := f.2.2.2.2.2.2.1
          have a7 := f.2.2.2.2.2.2.2.1
          have a8 := f.2.2.2.2.2.2.2.2.1
          have a9 := f.2.2.2.2.2.2.2.2.2.1
          have a10 := f.2.2.2.2.2.2.2.2.2.2
          clear f
          simp [deps, VL, IsV, Region.binds] at hd
          simp only [List.take_succ_cons, List.take_zero, putAll, Act.put]
          go_simp
          intro hK; exact hK _ _ (hV _ _ hC (Below.refl _ _) rfl)
        · intro y w1 K Q Cv hC hd hV
          have f := hfac.out w1 hC
          have a0 := f.1
          have a1 := f.2.1
          have a2 := f.2.2.1
          have a3 := f.2.2.2.1
          have a4 := f.2.2.2.2.1
          have a5 := f.2.2.2.2.2.1
          have a6 := f.2.2.2.2.2.2.1
          have a7 := f.2.2.2.2.2.2.2.1
          have a8 := f.2.2.2.2.2.2.2.2.1
          have a9 := f.2.2.2.2.2.2.2.2.2.1
          have a10 := f.2.2.2.2.2.2.2.2.2.2
          clear f
          simp [deps, VL, IsV, Region.binds] at hd
          simp only [List.take_succ_cons, List.take_zero, putAll, Act.put]
          go_simp
          intro hK; exact hK _ _ (hV _ _ hC (Below.refl _ _) rfl)
        · intro y w1 K Q Cv hC hd hV
          have f := hfac.out w1 hC
          have a0 := f.1
          have a1 := f.2.1
          have a2 := f.2.2.1
          have a3 := f.2.2.2.1
          have a4 := f.2.2.2.2.1
          have a5 := f.2.2.2.2.2.1
          have a6 := f.2.2.2.2.2.2.1
          have a7 := f.2.2.2.2.2.2.2.1
          have a8 := f.2.2.2.2.2.2.2.2.1
          have a9 := f.2.2.2.2.2.2.2.2.2.1
          have a10 := f.2.2.2.2.2.2.2.2.2.2
          clear f
          clear hd
          simp only [List.take_succ_cons, List.take_zero, putAll, Act.put]
          go_simp
          intro hK; exact hK _ _ (hV _ _ hC (Below.refl _ _) rfl)
        · intro y w1 K Q Cv hC hd hV
          have f := hfac.out w1 hC
          have a0 := f.1
          have a1 := f.2.1
          have a2 := f.2.2.1
          have a3 := f.2.2.2.1
          have a4 := f.2.2.2.2.1
          have a5 := f.2.2.2.2.2.1
          have a6 := f.2.2.2.2.2.2.1
          have a7 := f.2.2.2.2.2.2.2.1
          have a8 := f.2.2.2.2.2.2.2.2.1
          have a9 := f.2.2.2.2.2.2.2.2.2.1
          have a10 := f.2.2.2.2.2.2.2.2.2.2
          clear f
          simp [deps, VL, IsV, Region.binds] at hd
          simp only [List.take_succ_cons, List.take_zero, putAll, Act.put]
          go_simp
          intro hK; exact hK _ _ (hV _ _ hC (Below.refl _ _) rfl)
        · intro y w1 K Q Cv hC hd hV
          have f := hfac.out w1 hC
          have a0 := f.1
          have a1 := f.2.1
          have a2 := f.2.2.1
          have a3 := f.2.2.2.1
          have a4 := f.2.2.2.2.1
          have a5 := f.2.2.2.2.2.1
          have a6 := f.2.2.2.2.2.2.1
          have a7 := f.2.2.2.2.2.2.2.1
          have a8 := f.2.2.2.2.2.2.2.2.1
          have a9 := f.2.2.2.2.2.2.2.2.2.1
          have a10 := f.2.2.2.2.2.2.2.2.2.2
          clear f
          simp [deps, VL, IsV, Region.binds] at hd
          simp only [List.take_succ_cons, List.take_zero, putAll, Act.put]
          go_simp
          intro hK; exact hK _ _ (hV _ _ hC (Below.refl _ _) rfl)
        · intro y w1 K Q Cv hC hd hV
          have f := hfac.out w1 hC
          have a0 := f.1
          have a1 := f.2.1
          have a2 := f.2.2.1
          have a3 := f.2.2.2.1
          have a4 := f.2.2.2.2.1
          have a5 := f.2.2.2.2.2.1
          have a6 := f.2.2.2.2.2.2.1
          have a7 := f.2.2.2.2.2.2.2.1
          have a8 := f.2.2.2.2.2.2.2.2.1
          have a9 := f.2.2.2.2.2.2.2.2.2.1
          have a10 := f.2.2.2.2.2.2.2.2.2.2
          clear f
          simp [deps, VL, IsV, Region.binds] at hd
          simp only [List.take_succ_cons, List.take_zero, putAll, Act.put]
          go_simp
          intro hK; exact hK _ _ (hV _ _ hC (Below.refl _ _) rfl)
        · intro y w1 K Q Cv hC hd hV
          have f := hfac.out w1 hC
          have a0 := f.1
          have a1 := f.2.1
          have a2 := f.2.2.1
          have a3 := f.2.2.2.1
          have a4 := f.2.2.2.2.1
          have a5 := f.2.2.2.2.2.1
          have a6 := f.2.2.2.2.2.2.1
          have a7 := f.2.2.2.2.2.2.2.1
          have a8 := f.2.2.2.2.2.2.2.2.1
          have a9 := f.2.2.2.2.2.2.2.2.2.1
          have a10 := f.2.2.2.2.2.2.2.2.2.2
          clear f
          clear hd
          simp only [List.take_succ_cons, List.take_zero, putAll, Act.put]
          go_simp
          intro hK; exact hK _ _ (hV _ _ hC (Below.refl _ _) rfl)
        · intro y w1 K Q Cv hC hd hV
          have f := hfac.out w1 hC
          have a0 := f.1
          have a1 := f.2.1
          have a2 := f.2.2.1
          have a3 := f.2.2.2.1
          have a4 := f.2.2.2.2.1
          have a5 := f.2.2.2.2.2.1
          have a6 := f.2.2.2.2.2.2.1
          have a7 := f.2.2.2.2.2.2.2.1
          have a8 := f.2.2.2.2.2.2.2.2.1
          have a9 := f.2.2.2.2.2.2.2.2.2.1
          have a10 := f.2.2.2.2.2.2.2.2.2.2
          clear f
          simp [deps, VL, IsV, Region.binds] at hd
          simp only [List.take_succ_cons, List.take_zero, putAll, Act.put]
          go_simp
          intro hK; exact hK _ _ (hV _ _ hC (Below.refl _ _) rfl)
        · intro y w1 K Q Cv hC hd hV
          have f := hfac.out w1 hC
          have a0 := f.1
          have a1 := f.2.1
          have a2 := f.2.2.1
          have a3 := f.2.2.2.1
          have a4 := f.2.2.2.2.1
          have a5 := f.2.2.2.2.2.1
          have a6 := f.2.2.2.2.2.2.1
          have a7 := f.2.2.2.2.2.2.2.1
          have a8 := f.2.2.2.2.2.2.2.2.1
          have a9 := f.2.2.2.2.2.2.2.2.2.1
          have a10 := f.2.2.2.2.2.2.2.2.2.2
          clear f
          simp [deps, VL, IsV, Region.binds] at hd
          simp only [List.take_succ_cons, List.take_zero, putAll, Act.put]
          go_simp
          intro hK; exact hK _ _ (hV _ _ hC (Below.refl _ _) rfl)
        · intro y w1 K Q Cv hC hd hV
          have f := hfac.out w1 hC
          have a0 := f.1
          have a1 := f.2.1
          have a2 := f.2.2.1
          have a3 := f.2.2.2.1
          have a4 := f.2.2.2.2.1
          have a5 := f.2.2.2.2.2.1
          have a6 := f.2.2.2.2.2.2.1
          have a7 := f.2.2.2.2.2.2.2.1
          have a8 := f.2.2.2.2.2.2.2.2.1
          have a9 := f.2.2.2.2.2.2.2.2.2.1
          have a10 := f.2.2.2.2.2.2.2.2.2.2
          clear f
          simp [deps, VL, IsV, Region.binds] at hd
          simp only [List.take_succ_cons, List.take_zero, putAll, Act.put]
          go_simp
          intro hK; refine (hfee.out _ hC).mono ?_; rintro e w4 ⟨rfl, hb⟩; exact hK _ _ (hV _ _ (hC.trans (hb.mono hC.size)) hb rfl)
      intro y w1 hC hd
      simp [EndsL, IsV] at hd
      obtain ⟨d0, d1, d2, d3, d4, d5, d6, d7, d8, d9, d10, d11, d12, d13, d14, d15, d16, d17, d18, d19, d20, d21, d22⟩ := hd
      simp only [List.take_succ_cons, List.take_zero, List.drop_succ_cons, List.drop_zero, putAll, Act.put]
      rw [d0, d1, d2, d3, d4, d5, d6, d7, d8, d9, d10, d11, d12, d13, d14, d15, d16, d17, d18, d19, d20, d21, d22]
      clear d0 d1 d2 d3 d4 d5 d6 d7 d8 d9 d10 d11 d12 d13 d14 d15 d16 d17 d18 d19 d20 d21 d22 hfac hfee hac wsub
      simp only [List.setIfInBounds_toArray, List.set_cons_succ, List.set_cons_zero]
      have hpo2 := hide (hpo.out w1 hC)
      have hkB2 := hide (hkB.out w1 hC)
      clear hpo hkB hC
      go_wp2_with fail
      refine hpo2.out.mono ?_
      rintro e w7 ⟨rfl, hbk, hky⟩
      replace hbk := hide hbk
      replace hky := hide hky
      go_wp2
      go_end0
      have hq' := hq.out
      rw [← hq']
      have hkall := hk5.out.trans ((hkB2.out.trans hky.out).mono hXY)
      exact ⟨.inl ⟨rfl, rfl, hbk.out.less hXY (hsch.out.kept hkall)⟩, hkall⟩
end Go.Proofs.Ytkmhldjebopljaa
