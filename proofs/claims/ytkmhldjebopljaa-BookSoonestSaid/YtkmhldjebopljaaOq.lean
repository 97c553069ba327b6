import Derived.Test.YtkmhldjebopljaaOo
/-
  The event drive (made by mkbkdrive.py).
-/
namespace Go.Proofs.Ytkmhldjebopljaa
open Go.RowKit RG

section
variable {w : World} {X : Nat → Prop} {p : Nat} {L C T : Option Addr} {cl cc ct : Nat} {S : BSch} {vl vk vs va : Value} {mb : Nat} {vp : Value} {b : Bks} {ev : Int}
theorem RawB.addKm {g n cap : Nat} (h : RawB w X p L C T cl cc ct S vl (.slice (some ⟨g, 0, none⟩) n cap) vs va mb vp b ev) {j : Nat} (hj : j < b.km.length) (x : Int) :
    RawB (w.setCell ⟨g, j, none⟩ (.int .i64 (b.km[j]?.getD 0 + x))) X p L C T cl cc ct S vl (.slice (some ⟨g, 0, none⟩) n cap) vs va mb vp { b with km := addAt b.km j x } ev := by
  have h9 := Raw.setKm h (j := j) (by rw [List.length_map]; exact hj) (.int .i64 (b.km[j]?.getD 0 + x))
  rw [map_set_i] at h9
  unfold RawB
  rw [addAt_nat]
  exact h9
theorem RawB.addSince {g n cap : Nat} (h : RawB w X p L C T cl cc ct S vl vk (.slice (some ⟨g, 0, none⟩) n cap) va mb vp b ev) {j : Nat} (hj : j < b.since.length) (x : Int) :
    RawB (w.setCell ⟨g, j, none⟩ (.int .i64 (b.since[j]?.getD 0 + x))) X p L C T cl cc ct S vl vk (.slice (some ⟨g, 0, none⟩) n cap) va mb vp { b with since := addAt b.since j x } ev := by
  have h9 := Raw.setSince h (j := j) (by rw [List.length_map]; exact hj) (.int .i64 (b.since[j]?.getD 0 + x))
  rw [map_set_i] at h9
  unfold RawB
  rw [addAt_nat]
  exact h9
end
theorem every_at {S : BSch} {j : Nat} (hj : j < S.cars.length) : everyB S j = (S.cars[j]?.getD default).every := by
  unfold everyB
  rw [Int.toNat_natCast, List.getElem?_eq_getElem hj]; rfl
theorem getI_lim {xs : List Int} {lo hi : Int} (h : ∀ a ∈ xs, lo ≤ a ∧ a ≤ hi) {j : Nat} (hj : j < xs.length) : lo ≤ xs[j]?.getD 0 ∧ xs[j]?.getD 0 ≤ hi := by
  rw [List.getElem?_eq_getElem hj]; exact h _ (List.getElem_mem hj)

set_option maxRecDepth 100000 in
set_option maxHeartbeats 1000000 in
theorem drive_any {w : World} {X : Nat → Prop} {p : Nat} {L C T : Option Addr} {cl cc ct : Nat} {S : BSch} {vl vk vs va : Value} {mb : Nat} {vp : Value} {b : Bks} {ev : Int} (h0 : RawB w X p L C T cl cc ct S vl vk vs va mb vp b ev) (hS : SchGd S) (hg : Gd S b) (x : BEv) :
    Calls Try.prog 88 #[.pointer (some ⟨p, 0, none⟩), .agg (evCells x).toArray] w fun e w' => EvR w X p L C T cl cc ct S b ev (driveB S b ev x) e w' := by
  obtain ⟨W, hW⟩ : ∃ y, w.alloc (.cells (evCells x).toArray 65) = y := ⟨_, rfl⟩
  have kb := hide (show Blk W w.heap.size 65 (evCells x).toArray by rw [← hW]; exact blkNew rfl)
  have hB := hide (show Below w.heap.size w W by rw [← hW]; exact (Below.refl w.heap.size w).alloc (Nat.le_refl _) _)
  obtain ⟨Y, hY⟩ : ∃ Y : Nat → Prop, (fun k => X k ∨ k = w.heap.size) = Y := ⟨_, rfl⟩
  have hXY : ∀ k, X k → Y k := fun k hk => by rw [← hY]; exact .inl hk
  have hYg : Y w.heap.size := by rw [← hY]; exact .inr rfl
  have hrawX := hide (fun V (hb : Below w.heap.size w V) => (show RawB V X p L C T cl cc ct S vl vk vs va mb vp b ev from Raw.below h0 hb))
  have hraw := hide (fun V (hb : Below w.heap.size w V) (hz : w.heap.size < V.heap.size) => (show RawB V Y p L C T cl cc ct S vl vk vs va mb vp b ev from Raw.more h0 hb hXY (fun k hk => by rw [← hY] at hk; exact hk.imp id (fun e => by omega)) (fun k hk => by
    rw [← hY] at hk
    rcases hk with hk | hk
    · exact Nat.lt_trans (h0.old k hk) hz
    · rw [hk]; exact hz)))
  have hold := h0.old
  have hsch := h0.sch
  have hk := hide (fun V (hb : Below w.heap.size w V) => KeptX.of_below hb hold)
  have hlen := hg.lim.les
  have hL := hide (fun V (hb : Below w.heap.size w V) y => show Calls Try.prog 103 #[.pointer (some ⟨p, 0, none⟩), .int .i64 y, .int .i64 0] V fun e w' => e = .returned (.bool (hasB b y 0)) ∧ Below V.heap.size V w' from isLesson_any (h0.blk.below hb h0.blk.lt) (h0.les.below hb) (by omega) y 0)
  have hnl := hide hS.nl
  have hg' := hide hg
  have hrow := hide h0.les
  have hS' := hide hS
  obtain ⟨gk, kcap, rfl, hgk, -, -, -, -, -, ku, hku⟩ := int_row h0.km (by rw [hg.km]; have := hS.nc; omega)
  obtain ⟨gs, scap, rfl, hgs, -, -, -, -, -, su, hsu⟩ := int_row h0.since (by rw [hg.since]; have := hS.nc; omega)
  rw [hg.km, hg.since] at *
  have hpz := h0.blk.lt
  have hkz := hku.lt
  have hsz := hsu.lt
  have hsk : gk ≠ gs := fun e => h0.ks gk rfl (by rw [e]; rfl)
  obtain ⟨q, hq⟩ : ∃ q, driveB S b ev x = q := ⟨_, rfl⟩
  rw [hq]
  unfold driveB lesAt at hq
  clear h0 hS hg hold hlen hku hsu ku su
  obtain ⟨k0, k1, k2, k3, k4, k5, k6, k7, k8, k9, k10⟩ := ev_cells kb.out
  replace hW := hide hW
  replace hsch := hide hsch
  have hYn : ∀ k, k < w.heap.size → ¬ X k → ¬ Y k := fun k h1 h2 h3 => by rw [← hY] at h3; rcases h3 with h3 | h3; exact h2 h3; omega
  obtain ⟨xkind, xat, xlearner, xcar, xbooking, xstart, xhours, xday, xweather, xkm, xcents⟩ := x
  unfold evCells at *
  simp only at *
  clear k0 k1 k2 k3 k5 k6 k7 k8 k9 k10 hY
  go_enter Try.func88, Try.ntmps88
  go_upto_region 1 with fail
  rw [hW.out]
  go_wp2_with fail
  refine (hL.out _ hB.out xbooking).mono ?_
  rintro e w2 ⟨rfl, hb⟩
  have hB2 := hide (hB.out.trans (hb.mono hB.out.size))
  have kb2 := hide (kb.out.below hb kb.out.lt)
  clear hb k4 kb hB hL
  cases h1 : hasB b xbooking 0 with
  | false =>
    rw [if_pos h1] at hq
    subst hq
    go_wp2_with fail
    refine (need_no 4 _).mono ?_
    rintro e w3 ⟨rfl, rfl⟩
    go_wp2
    exact ⟨rfl, .inr ⟨by simp, rfl, _, _, _, _, _, _, hrawX.out _ hB2.out⟩, hk.out _ hB2.out⟩
  | true =>
    rw [if_neg (by simp [h1])] at hq
    obtain ⟨j, rfl, hj0, -⟩ := hasB_nat h1
    rw [Int.toNat_natCast] at hq
    have hj := hide hj0
    replace h1 := hide h1
    have k4 : w2.drew.cell? ⟨w.heap.size, 4, none⟩ = some (.int .i64 j) := kb2.out.cell 4
    obtain ⟨gl, cap, rfl, hgx, hglw, -, -, -, hcel, cur, hcur⟩ := les_row ((hraw.out w2 hB2.out kb2.out.lt).les) (by omega)
    have hne : w.heap.size ≠ gl := fun e => hgx (e ▸ hYg)
    have q7 : w2.drew.cell? ⟨p, 7, none⟩ = some (.slice (some ⟨gl, 0, none⟩) b.les.length cap) := by have := (hraw.out w2 hB2.out kb2.out.lt).blk.cell 7; exact this
    have hlo := les_at hg'.out.les hj0
    have hcj := hcel j hj0
    have hrowA := hide (fun V bb (hr : RawB V Y p L C T cl cc ct S (.slice (some ⟨gl, 0, none⟩) b.les.length cap) (.slice (some ⟨gk, 0, none⟩) S.cars.length kcap) (.slice (some ⟨gs, 0, none⟩) S.cars.length scap) va mb vp bb ev) (hlen : bb.les.length = b.les.length) => show (V.cell? ⟨gl, j * 5, none⟩ = some (.int .i64 (bb.les[j]?.getD default).learner) ∧ V.cell? ⟨gl, j * 5 + 1, none⟩ = some (.int .i64 (bb.les[j]?.getD default).car) ∧ V.cell? ⟨gl, j * 5 + 2, none⟩ = some (.int .i64 (bb.les[j]?.getD default).start) ∧ V.cell? ⟨gl, j * 5 + 3, none⟩ = some (.int .i64 (bb.les[j]?.getD default).hours) ∧ V.cell? ⟨gl, j * 5 + 4, none⟩ = some (.int .i64 (bb.les[j]?.getD default).state)) ∧ V.frozen? ⟨gl, j * 5 + 4, none⟩ = false from by
      obtain ⟨gl', cap', e', _, hlt, _, _, hf, hcel, _⟩ := les_row hr.les (by rw [hlen]; have := hj.out; omega)
      have e2 : gl = gl' := by injection e' with e'; injection e' with e'; injection e'
      subst e2
      exact ⟨hcel j (by rw [hlen]; exact hj.out), hf _⟩)
    clear hj0
    generalize hle : b.les[j]?.getD default = l at *
    replace hle := hide hle
    obtain ⟨ln, lc, ls, lh, lt⟩ := l
    obtain ⟨o1, o2, o3, o4, o5⟩ := hlo
    simp only at o1 o2 o3 o4 o5 hcj hq
    have hend := hide (fun V => show Calls Try.prog 98 #[.agg #[.int .i64 ln, .int .i64 lc, .int .i64 ls, .int .i64 lh, .int .i64 lt]] V fun e w' => e = .returned (.int .i64 (ls + lh)) ∧ Below V.heap.size V w' from endOf_any ⟨ln, lc, ls, lh, lt⟩ V (by show -1000000 ≤ ls ∧ ls ≤ 1000000 ∧ -1000000 ≤ lh ∧ lh ≤ 1000000; omega))
    have hjz : (j : Int) < (b.les.length : Int) := by have := hj.out; omega
    have hfac := hide (show ∀ V, Below w2.drew.heap.size w2.drew V → V.cell? ⟨w.heap.size, 1, none⟩ = some (.int .i64 xat) ∧ V.cell? ⟨gl, j * 5, none⟩ = some (.int .i64 ln) ∧ V.cell? ⟨gl, j * 5 + 1, none⟩ = some (.int .i64 lc) ∧ V.cell? ⟨gl, j * 5 + 2, none⟩ = some (.int .i64 ls) ∧ V.cell? ⟨gl, j * 5 + 3, none⟩ = some (.int .i64 lh) ∧ V.cell? ⟨gl, j * 5 + 4, none⟩ = some (.int .i64 lt) from fun V hb => by
      have k : Blk V w.heap.size _ _ := Blk.below (w := w2.drew) kb2.out hb kb2.out.lt
      exact ⟨k.cell 1, (cellB hb hglw).trans hcj.1, (cellB hb hglw).trans hcj.2.1, (cellB hb hglw).trans hcj.2.2.1, (cellB hb hglw).trans hcj.2.2.2.1, (cellB hb hglw).trans hcj.2.2.2.2⟩)
    clear hcel hcur hcj
    go_wp2_with fail
    refine (need_yes 4 _).mono ?_
    rintro e w3 ⟨rfl, rfl⟩
    go_wp2
    refine region_tailB 8 (by kernel_rfl) (by kernel_rfl) ?_
    simp only [List.take_succ_cons, List.take_zero, List.drop_succ_cons, List.drop_zero]
    iterate 8 (refine still_bx (fun K hK => ?_); go_simp; refine hK.out _ ?_; clear hK K)
    refine still_bx_nil ?_
    clear k4 q7
    go_wp2
    refine region_grow_tail 7 [IsV (.pointer (some ⟨w.heap.size, 1, none⟩)), IsV (.int .i64 xat), IsV (.pointer (some ⟨gl, j * 5, none⟩)), IsV (.pointer (some ⟨gl, j * 5, none⟩)), IsV (.agg #[.int .i64 ln, .int .i64 lc, .int .i64 ls, .int .i64 lh, .int .i64 lt]), IsV (.int .i64 (ls + lh)), IsV (.bool (decide (ls + lh ≤ xat)))] (by kernel_rfl) (by kernel_rfl) rfl ?_ ?_ ?_
    · simp [AllStb, IsV.stb]
    · refine ⟨?_, ?_, ?_, ?_, ?_, ?_, ?_, trivial⟩
      · intro y w1 K Q Cv hC hd hV
        have f := hfac.out w1 hC
        have a0 := f.1
        have a1 := f.2.1
        have a2 := f.2.2.1
        have a3 := f.2.2.2.1
        have a4 := f.2.2.2.2.1
        have a5 := f.2.2.2.2.2
        clear f
        clear hd
        simp only [List.take_succ_cons, List.take_zero, putAll, Act.put]
        go_simp
        intro hK; exact hK _ _ (hV _ _ hC (Below.refl _ _) rfl)
      · intro y w1 K Q Cv hC hd hV
        have f := hfac.out w1 hC
        have a0 := f.1
        have a1 := f.2.1
        have a2 := f.2.2.1
        have a3 := f.2.2.2.1
        have a4 := f.2.2.2.2.1
        have a5 := f.2.2.2.2.2
        clear f
        simp [deps, VL, IsV, Region.binds] at hd
        simp only [List.take_succ_cons, List.take_zero, putAll, Act.put]
        go_simp
        intro hK; exact hK _ _ (hV _ _ hC (Below.refl _ _) rfl)
      · intro y w1 K Q Cv hC hd hV
        have f := hfac.out w1 hC
        have a0 := f.1
        have a1 := f.2.1
        have a2 := f.2.2.1
        have a3 := f.2.2.2.1
        have a4 := f.2.2.2.2.1
        have a5 := f.2.2.2.2.2
        clear f
        clear hd
        simp only [List.take_succ_cons, List.take_zero, putAll, Act.put]
        go_simp
        intro hK; exact hK _ _ (hV _ _ hC (Below.refl _ _) rfl)
      · intro y w1 K Q Cv hC hd hV
        have f := hfac.out w1 hC
        have a0 := f.1
        have a1 := f.2.1
        have a2 := f.2.2.1
        have a3 := f.2.2.2.1
        have a4 := f.2.2.2.2.1
        have a5 := f.2.2.2.2.2
        clear f
        simp [deps, VL, IsV, Region.binds] at hd
        simp only [List.take_succ_cons, List.take_zero, putAll, Act.put]
        go_simp
        intro hK; exact hK _ _ (hV _ _ hC (Below.refl _ _) rfl)
      · intro y w1 K Q Cv hC hd hV
        have f := hfac.out w1 hC
        have a0 := f.1
        have a1 := f.2.1
        have a2 := f.2.2.1
        have a3 := f.2.2.2.1
        have a4 := f.2.2.2.2.1
        have a5 := f.2.2.2.2.2
        clear f
        simp [deps, VL, IsV, Region.binds] at hd
        simp only [List.take_succ_cons, List.take_zero, putAll, Act.put]
        go_simp
        intro hK; exact hK _ _ (hV _ _ hC (Below.refl _ _) rfl)
      · intro y w1 K Q Cv hC hd hV
        have f := hfac.out w1 hC
        have a0 := f.1
        have a1 := f.2.1
        have a2 := f.2.2.1
        have a3 := f.2.2.2.1
        have a4 := f.2.2.2.2.1
        have a5 := f.2.2.2.2.2
        clear f
        simp [deps, VL, IsV, Region.binds] at hd
        simp only [List.take_succ_cons, List.take_zero, putAll, Act.put]
        go_simp
        intro hK; refine (hend.out _).mono ?_; rintro e w4 ⟨rfl, hb⟩; exact hK _ _ (hV _ _ (hC.trans (hb.mono hC.size)) hb rfl)
      · intro y w1 K Q Cv hC hd hV
        have f := hfac.out w1 hC
        have a0 := f.1
        have a1 := f.2.1
        have a2 := f.2.2.1
        have a3 := f.2.2.2.1
        have a4 := f.2.2.2.2.1
        have a5 := f.2.2.2.2.2
        clear f
        simp [deps, VL, IsV, Region.binds] at hd
        simp only [List.take_succ_cons, List.take_zero, putAll, Act.put]
        go_simp
        intro hK; exact hK _ _ (hV _ _ hC (Below.refl _ _) rfl)
    intro y w3 hC hd
    simp [EndsL, IsV] at hd
    obtain ⟨d0, d1, d2, d3, d4, d5, d6⟩ := hd
    simp only [List.take_succ_cons, List.take_zero, List.drop_succ_cons, List.drop_zero, putAll, Act.put]
    rw [d0, d1, d2, d3, d4, d5, d6]
    clear d0 d1 d2 d3 d4 d5 d6 hfac hend
    simp only [List.setIfInBounds_toArray, List.set_cons_succ, List.set_cons_zero]
    have hB3 := hide (hB2.out.drew.trans (hC.mono (show w.heap.size ≤ w2.drew.heap.size from hB2.out.size)))
    have kb3 := hide (Blk.below (w := w2.drew) kb2.out hC kb2.out.lt)
    clear hC kb2 hB2
    cases h2 : decide (ls + lh ≤ xat) with
    | false =>
      rw [if_pos (by have := of_decide_eq_false h2; omega)] at hq
      subst hq
      go_wp2_with fail
      refine (need_no 2 _).mono ?_
      rintro e w4 ⟨rfl, rfl⟩
      go_wp2
      exact ⟨rfl, .inr ⟨by simp, rfl, _, _, _, _, _, _, hrawX.out _ hB3.out⟩, hk.out _ hB3.out⟩
    | true =>
      have h2' := of_decide_eq_true h2
      rw [if_neg (by omega)] at hq
      clear h2'
      have k9 : w3.cell? ⟨w.heap.size, 9, none⟩ = some (.int .i64 xkm) := kb3.out.cell 9
      have hwi := hide (within_one 0 400 xkm w3.heap.size 0 1 (w3.alloc (.cells #[.int .i64 xkm] 3)) ((Blk.new w3 _ _).cell 0))
      have hB4 := hide (hB3.out.alloc hB3.out.size (.cells #[.int .i64 xkm] 3))
      have kb4 := hide (kb3.out.alloc (.cells #[.int .i64 xkm] 3))
      go_wp2_with fail
      refine (need_yes 2 _).mono ?_
      rintro e w4 ⟨rfl, rfl⟩
      go_wp2_with fail
      refine hwi.out.mono ?_
      rintro e w4 ⟨rfl, hw4⟩
      rw [hw4] at hB4 kb4
      clear hw4 k9 hwi kb3
      have hinB : inI 0 400 xkm = inB 0 400 xkm := rfl
      rw [hinB] at hq
      cases h3 : inB 0 400 xkm with
      | false =>
        rw [h3, if_pos rfl] at hq
        subst hq
        go_wp2_with fail
        refine (need_no 7 _).mono ?_
        rintro e w5 ⟨rfl, rfl⟩
        go_wp2
        exact ⟨rfl, .inr ⟨by simp, rfl, _, _, _, _, _, _, hrawX.out _ hB4.out⟩, hk.out _ hB4.out⟩
      | true =>
        rw [h3, if_neg (by simp)] at hq
        have hkm := inB_iff.1 h3
        replace h3 := hide h3
        obtain ⟨jc, rfl⟩ : ∃ jc : Nat, lc = (jc : Int) := ⟨lc.toNat, by omega⟩
        have hjc : jc < S.cars.length := by omega
        have hr4 := hraw.out w4.drew hB4.out.drew kb4.out.lt
        obtain ⟨bc, oc, rfl, hbc, -, ce, -⟩ := car_cells hr4.sch.rows hjc
        have hevr := (hS'.out.cars _ (List.getElem_mem hjc)).2.1
        have hee := every_at hjc
        rw [show (S.cars[jc]?.getD default) = S.cars[jc] by rw [List.getElem?_eq_getElem hjc]; rfl] at ce hee
        rw [hee, Int.toNat_natCast] at hq
        obtain ⟨gs', scap', e', -, -, -, -, fzs, sce, -⟩ := int_row hr4.since (by rw [hg'.out.since]; omega)
        have e2 : gs = gs' := by injection e' with e'; injection e' with e'; injection e'
        subst e2
        have sc := sce jc (by rw [hg'.out.since]; exact hjc)
        have hsl := getI_lim hg'.out.lim.since (j := jc) (by rw [hg'.out.since]; exact hjc)
        have hkl := getI_lim hg'.out.lim.km (j := jc) (by rw [hg'.out.km]; exact hjc)
        obtain ⟨sv, hsv⟩ : ∃ z, b.since[jc]?.getD 0 = z := ⟨_, rfl⟩
        obtain ⟨kv, hkv⟩ : ∃ z, b.km[jc]?.getD 0 = z := ⟨_, rfl⟩
        rw [hsv] at sc hq hsl
        rw [hkv] at hkl
        generalize S.cars[jc].every = evr at *
        have hra := hrowA.out w4.drew b hr4 rfl
        rw [hle.out] at hra
        have l1 := hra.1.2.1
        have q9 : w4.drew.cell? ⟨p, 9, none⟩ = some (.slice (some ⟨gs, 0, none⟩) S.cars.length scap) := hr4.blk.cell 9
        have q1 : w4.drew.cell? ⟨p, 1, none⟩ = some (.slice (some ⟨bc, oc, none⟩) S.cars.length cc) := hr4.blk.cell 1
        have hjcz : (jc : Int) < (S.cars.length : Int) := by omega
        clear hra hr4 sce fzs hee e'
        go_wp2_with fail
        refine (need_yes 7 _).mono ?_
        rintro e w5 ⟨rfl, rfl⟩
        go_wp2
        refine region_tailB 24 (by kernel_rfl) (by kernel_rfl) ?_
        simp only [List.take_succ_cons, List.take_zero, List.drop_succ_cons, List.drop_zero]
        iterate 24 (refine still_bx (fun K hK => ?_); go_simp; refine hK.out _ ?_; clear hK K)
        refine still_bx_nil ?_
        clear l1 q9 q1 ce sc
        cases h4 : decide (sv ≤ evr) with
        | false =>
          rw [if_pos (by have := of_decide_eq_false h4; omega)] at hq
          subst hq
          go_wp2_with fail
          refine (need_no 9 _).mono ?_
          rintro e w6 ⟨rfl, rfl⟩
          go_wp2
          exact ⟨rfl, .inr ⟨by simp, rfl, _, _, _, _, _, _, hrawX.out _ hB4.out.drew⟩, hk.out _ hB4.out.drew⟩
        | true =>
          rw [if_neg (by have := of_decide_eq_true h4; omega)] at hq
          replace h4 := hide h4
          have hgly : ¬ Y gl := hgx
          have hgky : ¬ Y gk := hYn gk hkz hgk
          have hgsy : ¬ Y gs := hYn gs hsz hgs
          -- the state
          obtain ⟨W6, hW6⟩ : ∃ y, (w4.setCell ⟨gl, j * 5 + 4, none⟩ (.int .i64 2)).drew = y := ⟨_, rfl⟩
          have hr4 := hraw.out w4 hB4.out kb4.out.lt
          have hra4 := hrowA.out w4 b hr4 rfl
          have y4 := hra4.1.2.2.2.2
          have z4 := hra4.2
          have hr6 : RawB W6 Y p L (some ⟨bc, oc, none⟩) T cl cc ct S (.slice (some ⟨gl, 0, none⟩) b.les.length cap) (.slice (some ⟨gk, 0, none⟩) S.cars.length kcap) (.slice (some ⟨gs, 0, none⟩) S.cars.length scap) va mb vp (setLes b j fun l => { l with state := 2 }) ev := by
            have := RawB.setState hr4 (j := j) hj.out 2
            rw [← hW6]
            exact Raw.below this (Below.refl _ _).drew
          have kb6 := hide (show Blk W6 w.heap.size 65 _ by rw [← hW6]; exact Blk.far kb4.out (p := ⟨gl, j * 5 + 4, none⟩) hne _)
          have hk6 := hide (show KeptX Y w4 W6 by rw [← hW6]; exact (KeptX.setCell w4 (p := ⟨gl, j * 5 + 4, none⟩) hgly _).drew)
          obtain ⟨b6, hb6⟩ : ∃ b6, (setLes b j fun l => { l with state := 2 }) = b6 := ⟨_, rfl⟩
          have g6 := hide (show b6.acc = b.acc ∧ b6.pst = b.pst ∧ b6.km = b.km ∧ b6.since = b.since ∧ b6.les.length = b.les.length ∧ b6.les[j]?.getD default = ⟨ln, jc, ls, lh, 2⟩ by
            rw [← hb6]
            refine ⟨rfl, rfl, rfl, rfl, List.length_set, ?_⟩
            show (b.les.set (Int.toNat j) _)[j]?.getD default = _
            rw [Int.toNat_natCast, List.getElem?_set_self hj.out, hle.out]; rfl)
          rw [hb6] at hr6
          -- kilometres
          obtain ⟨gk', kcap', e'', -, -, -, -, fzk, kce, -⟩ := int_row hr6.km (by rw [g6.out.2.2.1, hg'.out.km]; omega)
          have e2 : gk = gk' := by injection e'' with e''; injection e'' with e''; injection e''
          clear e''
          subst e2
          have kc6 := kce jc (by rw [g6.out.2.2.1, hg'.out.km]; exact hjc)
          rw [g6.out.2.2.1, hkv] at kc6
          have fk6 := fzk jc
          have hra6 := hrowA.out W6 b6 hr6 g6.out.2.2.2.2.1
          rw [g6.out.2.2.2.2.2] at hra6
          have l6 := hra6.1.2.1
          have q8 : W6.cell? ⟨p, 8, none⟩ = some (.slice (some ⟨gk, 0, none⟩) S.cars.length kcap) := hr6.blk.cell 8
          have ek6 : W6.cell? ⟨w.heap.size, 9, none⟩ = some (.int .i64 xkm) := kb6.out.cell 9
          obtain ⟨W7, hW7⟩ : ∃ y, (W6.setCell ⟨gk, jc, none⟩ (.int .i64 (kv + xkm))).drew = y := ⟨_, rfl⟩
          have hr7 : RawB W7 Y p L (some ⟨bc, oc, none⟩) T cl cc ct S (.slice (some ⟨gl, 0, none⟩) b.les.length cap) (.slice (some ⟨gk, 0, none⟩) S.cars.length kcap) (.slice (some ⟨gs, 0, none⟩) S.cars.length scap) va mb vp { b6 with km := addAt b6.km jc xkm } ev := by
            have := RawB.addKm hr6 (j := jc) (by rw [g6.out.2.2.1, hg'.out.km]; exact hjc) xkm
            rw [g6.out.2.2.1, hkv] at this
            rw [← hW7, g6.out.2.2.1]
            exact Raw.below this (Below.refl _ _).drew
          have hnk : w.heap.size ≠ gk := fun e => hgky (e ▸ hYg)
          have kb7 := hide (show Blk W7 w.heap.size 65 _ by rw [← hW7]; exact Blk.far kb6.out (p := ⟨gk, jc, none⟩) hnk _)
          have hk7 := hide (show KeptX Y W6 W7 by rw [← hW7]; exact (KeptX.setCell W6 (p := ⟨gk, jc, none⟩) hgky _).drew)
          -- those since the last service
          obtain ⟨gs', scap', e', -, -, -, -, fzs, sce, -⟩ := int_row hr7.since (by show 0 < b6.since.length; rw [g6.out.2.2.2.1, hg'.out.since]; omega)
          have e2 : gs = gs' := by injection e' with e'; injection e' with e'; injection e'
          subst e2
          have sc7 := sce jc (by show jc < b6.since.length; rw [g6.out.2.2.2.1, hg'.out.since]; exact hjc)
          replace sc7 : W7.cell? ⟨gs, jc, none⟩ = some (.int .i64 (b6.since[jc]?.getD 0)) := sc7
          rw [g6.out.2.2.2.1, hsv] at sc7
          have fs7 := fzs jc
          have hra7 := hrowA.out W7 _ hr7 g6.out.2.2.2.2.1
          have l7 := hra7.1.2.1
          replace l7 : W7.cell? ⟨gl, j * 5 + 1, none⟩ = some (.int .i64 (b6.les[j]?.getD default).car) := l7
          rw [g6.out.2.2.2.2.2] at l7
          have q9 : W7.cell? ⟨p, 9, none⟩ = some (.slice (some ⟨gs, 0, none⟩) S.cars.length scap) := hr7.blk.cell 9
          have ek7 : W7.cell? ⟨w.heap.size, 9, none⟩ = some (.int .i64 xkm) := kb7.out.cell 9
          obtain ⟨W8, hW8⟩ : ∃ y, (W7.setCell ⟨gs, jc, none⟩ (.int .i64 (sv + xkm))).drew = y := ⟨_, rfl⟩
          have hr8 : RawB W8 Y p L (some ⟨bc, oc, none⟩) T cl cc ct S (.slice (some ⟨gl, 0, none⟩) b.les.length cap) (.slice (some ⟨gk, 0, none⟩) S.cars.length kcap) (.slice (some ⟨gs, 0, none⟩) S.cars.length scap) va mb vp { b6 with km := addAt b6.km jc xkm, since := addAt b6.since jc xkm } ev := by
            have := RawB.addSince hr7 (j := jc) (by show jc < b6.since.length; rw [g6.out.2.2.2.1, hg'.out.since]; exact hjc) xkm
            replace this : RawB (W7.setCell ⟨gs, jc, none⟩ (.int .i64 (b6.since[jc]?.getD 0 + xkm))) Y p L (some ⟨bc, oc, none⟩) T cl cc ct S (.slice (some ⟨gl, 0, none⟩) b.les.length cap) (.slice (some ⟨gk, 0, none⟩) S.cars.length kcap) (.slice (some ⟨gs, 0, none⟩) S.cars.length scap) va mb vp { b6 with km := addAt b6.km jc xkm, since := addAt b6.since jc xkm } ev := this
            rw [g6.out.2.2.2.1, hsv] at this
            rw [← hW8, g6.out.2.2.2.1]
            exact Raw.below this (Below.refl _ _).drew
          have hns : w.heap.size ≠ gs := fun e => hgsy (e ▸ hYg)
          have hk8 := hide (show KeptX Y W7 W8 by rw [← hW8]; exact (KeptX.setCell W7 (p := ⟨gs, jc, none⟩) hgsy _).drew)
          -- the price
          have hra8 := hrowA.out W8 _ hr8 g6.out.2.2.2.2.1
          have l80 := hra8.1.1
          replace l80 : W8.drew.cell? ⟨gl, j * 5, none⟩ = some (.int .i64 (b6.les[j]?.getD default).learner) := l80
          rw [g6.out.2.2.2.2.2] at l80
          have l83 := hra8.1.2.2.2.1
          replace l83 : W8.drew.cell? ⟨gl, j * 5 + 3, none⟩ = some (.int .i64 (b6.les[j]?.getD default).hours) := l83
          rw [g6.out.2.2.2.2.2] at l83
          simp only at l6 l7 l80 l83
          have p2 : W8.drew.cell? ⟨p, 2, none⟩ = some (.int .i64 S.price) := hr8.blk.cell 2
          obtain ⟨jl, rfl⟩ : ∃ jl : Nat, ln = (jl : Int) := ⟨ln.toNat, by omega⟩
          have hpr := hS'.out.ok.price
          have hhp : lh * S.price ≤ 4 * S.price := Int.mul_le_mul_of_nonneg_right o3.2 (by omega)
          have hhp0 : 0 ≤ lh * S.price := Int.mul_nonneg (by omega) (by omega)
          obtain ⟨pay, hpay⟩ : ∃ z, lh * S.price = z := ⟨_, rfl⟩
          rw [hpay] at hhp hhp0 hq
          have wpay : IntKind.i64.wrap (lh * S.price) = pay := by rw [hpay, IntKind.wrap_i64]; omega
          have wk : IntKind.i64.wrap (kv + xkm) = kv + xkm := by rw [IntKind.wrap_i64]; omega
          have ws : IntKind.i64.wrap (sv + xkm) = sv + xkm := by rw [IntKind.wrap_i64]; omega
          have hac := hide (account_any (hr8.blk.below (Below.refl _ _).drew hr8.blk.lt) hnl.out.2 0 (by omega))
          have hpo := hide (post_any (Raw.below hr8 (Below.refl _ _).drew) (jf := jl) (jt := S.learners.length) (c := pay) (b := { b6 with km := addAt b6.km jc xkm, since := addAt b6.since jc xkm }) (by show _ < b6.acc.length; rw [g6.out.1, hg'.out.acc]; omega) (by show _ < b6.acc.length; rw [g6.out.1, hg'.out.acc]; omega) (by show b6.acc.length ≤ _; rw [g6.out.1, hg'.out.acc]; have := hnl.out; omega) (by omega) (by show ∀ a ∈ b6.acc, _; rw [g6.out.1]; exact hg'.out.acc_lim) (by show b6.pst.length ≤ _; rw [g6.out.2.1]; have := hg'.out.lim.pst; omega))
          have hbe : ({ (setLes b j fun l => { l with state := 2 }) with km := addAt b.km jc xkm, since := addAt b.since jc xkm } : Bks) = { b6 with km := addAt b6.km jc xkm, since := addAt b6.since jc xkm } := by rw [g6.out.2.2.1, g6.out.2.2.2.1, hb6]
          rw [hbe] at hq
          have hkall := hide ((hk.out w4 hB4.out).trans (((hk6.out.trans (hk7.out.trans hk8.out)).trans (KeptX.refl Y W8).drew).mono hXY))
          replace hq := hide hq
          replace hW6 := hide hW6
          replace hW7 := hide hW7
          replace hW8 := hide hW8
          clear hr4 hra4 hr6 hra6 hr7 hra7 hr8 hra8 kce sce fzk fzs e' hhp hhp0 hpr hpay o1 o2 o3 o4 o5 hkm hkl hsl hevr hbe hb6 hkv hsv
          go_wp2_with fail
          refine (need_yes 9 _).mono ?_
          rintro e w6 ⟨rfl, rfl⟩
          go_upto_region 7 with fail
          rw [hW6.out]
          clear y4 z4
          refine region_tailB 15 (by kernel_rfl) (by kernel_rfl) ?_
          simp only [List.take_succ_cons, List.take_zero, List.drop_succ_cons, List.drop_zero]
          iterate 15 (refine still_bx (fun K hK => ?_); go_simp; refine hK.out _ ?_; clear hK K)
          refine still_bx_nil ?_
          go_upto_region 8 with fail
          rw [hW7.out]
          clear kc6 fk6 l6 q8 ek6 wk
          refine region_tailB 15 (by kernel_rfl) (by kernel_rfl) ?_
          simp only [List.take_succ_cons, List.take_zero, List.drop_succ_cons, List.drop_zero]
          iterate 15 (refine still_bx (fun K hK => ?_); go_simp; refine hK.out _ ?_; clear hK K)
          refine still_bx_nil ?_
          go_upto_region 9 with fail
          rw [hW8.out]
          clear sc7 fs7 l7 q9 ek7 ws
          refine region_tailB 17 (by kernel_rfl) (by kernel_rfl) ?_
          simp only [List.take_succ_cons, List.take_zero, List.drop_succ_cons, List.drop_zero]
          iterate 6 (refine still_bx (fun K hK => ?_); go_simp; refine hK.out _ ?_; clear hK K)
          refine still_bx (fun K hK => ?_)
          go_simp
          refine ⟨_, hac.out.mono fun _ _ h => ⟨h.1, h.2.symm⟩, hK.out _ ?_⟩
          clear hK K
          iterate 10 (refine still_bx (fun K hK => ?_); go_simp; refine hK.out _ ?_; clear hK K)
          refine still_bx_nil ?_
          clear l80 l83 p2 wpay
          go_wp2_with fail
          refine hpo.out.mono ?_
          rintro e w9 ⟨rfl, hbk, hky⟩
          replace hbk := hide hbk
          replace hky := hide hky
          go_wp2
          go_end0
          have hq' := hq.out
          rw [← hq']
          have hka := hkall.out.trans (hky.out.mono hXY)
          exact ⟨.inl ⟨rfl, rfl, hbk.out.less hXY (hsch.out.kept hka)⟩, hka⟩
end Go.Proofs.Ytkmhldjebopljaa
