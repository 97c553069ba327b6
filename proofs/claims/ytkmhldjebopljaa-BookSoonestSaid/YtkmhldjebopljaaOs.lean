import Derived.Test.YtkmhldjebopljaaOr
/-
  The event weather.
-/
namespace Go.Proofs.Ytkmhldjebopljaa
open Go.RowKit Go.Shelf RG
attribute [local go_sem] Oper.semAt_some

theorem MapW.put {w : World} {mb : Nat} {wt : List (Int × Int)} (h : MapW w mb wt) {d x : Int} (hd : 0 ≤ d ∧ d ≤ 1000) (hx : 0 ≤ x ∧ x ≤ 7) (hw : ∀ s ∈ wt, 0 ≤ s.2 ∧ s.2 ≤ 7) (hl : wt.length ≤ 1000) :
    ∃ w', (Instr.mapUpdate 97 (.map (some mb)) (.int .i64 d) (.int .i64 ((wbits wt d ||| (1 <<< x.toNat) : Nat) : Int))).run Try.prog w = .ok () w' ∧ MapW w' mb (wt ++ [(d, x)]) ∧ w.grownBy w' (some mb) := by
  obtain ⟨n, D, hn, ho, hr⟩ := h
  have hwf : (Lit.int .i64 d).wf = true := by simp [Lit.wf, IntKind.min, IntKind.max, IntKind.signed, IntKind.bits]; omega
  have hlt : (wbits wt d ||| (1 <<< x.toNat) : Nat) < 256 := by
    have := wbits_lt d (wt ++ [(d, x)]) (by
      intro s hs
      rcases List.mem_append.1 hs with hs | hs
      · exact hw s hs
      · rw [List.mem_singleton] at hs; subst hs; exact hx)
    rw [wbits_append, if_pos rfl] at this
    exact this
  generalize hv : (wbits wt d ||| (1 <<< x.toNat) : Nat) = v at *
  have hwv : (Lit.int .i64 (v : Int)).wf = true := by simp [Lit.wf, IntKind.min, IntKind.max, IntKind.signed, IntKind.bits]; omega
  obtain ⟨w', h1, h2, h3⟩ := ho.update (t := 97) (Go.Maps.int_keyed Try.underlying3) Try.underlying97 (by unfold maxLen; omega) (Go.Maps.keyOf_int_mk Try.underlying3 hwf) (plainElem_int Try.underlying3 hwv)
  refine ⟨w', h1, ⟨n + 1, _, by simp; omega, h2, fun day hd2 => ?_⟩, h3⟩
  rw [wbits_append]
  by_cases e : d = day
  · subst e
    rw [if_pos rfl, hv]
    exact Go.Maps.atKey_put_same ho.isMap (by exact trivial) _ _
  · rw [if_neg e, Go.Maps.atKey_put_other (by intro h; cases h; exact e rfl)]
    exact hr day hd2
theorem shl_wrap {x : Int} (h : 0 ≤ x ∧ x ≤ 7) : IntKind.i64.wrap (2 ^ x.toNat) = ((1 <<< x.toNat : Nat) : Int) := by
  rcases (show x = 0 ∨ x = 1 ∨ x = 2 ∨ x = 3 ∨ x = 4 ∨ x = 5 ∨ x = 6 ∨ x = 7 by omega) with rfl | rfl | rfl | rfl | rfl | rfl | rfl | rfl <;> decide
section
variable {w w' : World} {X Y : Nat → Prop} {p : Nat} {L C T : Option Addr} {cl cc ct : Nat} {S : BSch} {vl vk vs va : Value} {mb : Nat} {vp : Value} {les km since acc pst : List (List Value)} {wt wt' : List (Int × Int)} {tm ev : Int}
theorem Raw.newMap (h : Raw w X p L C T cl cc ct S vl vk vs va mb vp les km since acc pst wt tm ev) (hm : MapW w' mb wt') (hg : w.grownBy w' (some mb)) : Raw w' X p L C T cl cc ct S vl vk vs va mb vp les km since acc pst wt' tm ev := by
  have hk : KeptX X w w' := KeptX.grown hg h.old (fun g e => by cases e; exact h.mx)
  have row : ∀ {e : TypeId} {k : Nat} {v : Value} {xs : List (List Value)}, RowAt w X e k v xs → RowAt w' X e k v xs := fun {e k v xs} hr => hr.blk fun g h1 h2 => hg.block g h2 fun e => by cases e; exact hr.nmap h.map h1
  exact ⟨h.old.kept hk, h.sch.kept hk, h.px, h.mx, h.blk.grown hg (fun e => by cases e; exact h.map.nblk h.blk rfl), row h.les, row h.km, row h.since, row h.acc, hm, row h.pst, h.ks, h.ka, h.sa⟩
end

theorem wth_end (tm : Array Value) (wf : World) (R : Ending → World → Prop) (hR : R (.returned (.tuple #[])) wf) : LeavesInM Fence.wide 9 Try.prog Try.f87 tm R [] .returning wf := by
  refine ⟨.tuple #[], ?_, hR⟩
  simp [results, Try.results87, go_sem]

set_option maxRecDepth 100000 in
set_option maxHeartbeats 1500000 in
theorem weather_any {w : World} {X : Nat → Prop} {p : Nat} {L C T : Option Addr} {cl cc ct : Nat} {S : BSch} {vl vk vs va : Value} {mb : Nat} {vp : Value} {b : Bks} {ev : Int} (h0 : RawB w X p L C T cl cc ct S vl vk vs va mb vp b ev) (hS : SchGd S) (hg : Gd S b) (hw9 : b.wt.length ≤ 60) (x : BEv) :
    Calls Try.prog 87 #[.pointer (some ⟨p, 0, none⟩), .agg (evCells x).toArray] w fun e w' => EvR w X p L C T cl cc ct S b ev (weatherB S b x) e w' := by
  obtain ⟨W, hW⟩ : ∃ y, (w.alloc (.cells #[.pointer (some ⟨p, 0, none⟩)] 94)).alloc (.cells (evCells x).toArray 65) = y := ⟨_, rfl⟩
  have kp := hide (show Blk W w.heap.size 94 #[.pointer (some ⟨p, 0, none⟩)] by rw [← hW]; exact (blkNew rfl).alloc _)
  have kb := hide (show Blk W (w.heap.size + 1) 65 (evCells x).toArray by rw [← hW]; exact blkNew (by simp))
  have hB := hide (show Below w.heap.size w W by rw [← hW]; exact ((Below.refl w.heap.size w).alloc (Nat.le_refl _) _).alloc (by simp) _)
  have hrawX := hide (fun V (hb : Below w.heap.size w V) => (show RawB V X p L C T cl cc ct S vl vk vs va mb vp b ev from Raw.below h0 hb))
  have hold := h0.old
  have hk := hide (fun V (hb : Below w.heap.size w V) => KeptX.of_below hb hold)
  obtain ⟨q, hq⟩ : ∃ q, weatherB S b x = q := ⟨_, rfl⟩
  rw [hq]
  unfold weatherB at hq
  clear hold
  obtain ⟨k0, k1, k2, k3, k4, k5, k6, k7, k8, k9, k10⟩ := ev_cells kb.out
  replace hW := hide hW
  obtain ⟨xkind, xat, xlearner, xcar, xbooking, xstart, xhours, xday, xweather, xkm, xcents⟩ := x
  unfold evCells at *
  simp only at *
  clear k0 k1 k2 k3 k4 k5 k6 k8 k9 k10
  have hwi := hide (within_one 0 200 xday W.heap.size 0 1 (W.alloc (.cells #[.int .i64 xday] 3)) ((Blk.new W _ _).cell 0))
  have hB2 := hide (hB.out.alloc hB.out.size (.cells #[.int .i64 xday] 3))
  have kb2 := hide (kb.out.alloc (.cells #[.int .i64 xday] 3))
  have kp2 := hide (kp.out.alloc (.cells #[.int .i64 xday] 3))
  replace h0 := hide h0
  replace hS := hide hS
  replace hg := hide hg
  refine (callsIn_wide (n := 9)).1 ?_
  refine callsIn_of_wp_marks Try.func87 rfl trivial ?_ rfl
  simp only [Try.ntmps87, List.size_toArray, List.length_cons, List.length_nil, Nat.reduceAdd, Nat.reduceSub, Array.replicate_succ, Array.replicate_zero, List.push_toArray, List.append_toArray, List.nil_append, List.cons_append]
  refine wpIn_wide.2 ?_
  go_upto_region 1 with fail
  rw [hW.out]
  go_wp2_with fail
  refine hwi.out.mono ?_
  rintro e w2 ⟨rfl, hw2⟩
  rw [hw2] at hB2 kb2 kp2
  clear hw2 k7 hwi kb kp hB
  have hin1 : inI 0 200 xday = inB 0 200 xday := rfl
  have hin2 : inI 0 7 xweather = inB 0 7 xweather := rfl
  rw [hin1, hin2] at hq
  clear hin1 hin2
  cases h1 : inB 0 200 xday with
  | false =>
    rw [if_pos (.inl h1)] at hq
    subst hq
    go_wp2_with fail
    refine (need_no 7 _).mono ?_
    rintro e w3 ⟨rfl, rfl⟩
    go_wp2
    exact ⟨.inr ⟨by simp, rfl, _, _, _, _, _, _, hrawX.out _ hB2.out⟩, hk.out _ hB2.out⟩
  | true =>
    have h1h := hide h1
    clear h1
    have k8 : w2.cell? ⟨w.heap.size + 1, 8, none⟩ = some (.int .i64 xweather) := kb2.out.cell 8
    have hwi := hide (within_one 0 7 xweather w2.heap.size 0 1 (w2.alloc (.cells #[.int .i64 xweather] 3)) ((Blk.new w2 _ _).cell 0))
    have hB3 := hide (hB2.out.alloc hB2.out.size (.cells #[.int .i64 xweather] 3))
    have kb3 := hide (kb2.out.alloc (.cells #[.int .i64 xweather] 3))
    have kp3 := hide (kp2.out.alloc (.cells #[.int .i64 xweather] 3))
    go_wp2_with fail
    refine hwi.out.mono ?_
    rintro e w3 ⟨rfl, hw3⟩
    rw [hw3] at hB3 kb3 kp3
    clear hw3 k8 hwi kb2 kp2 hB2
    cases h2 : inB 0 7 xweather with
    | false =>
      rw [if_pos (.inr h2)] at hq
      subst hq
      go_wp2_with fail
      refine (need_no 7 _).mono ?_
      rintro e w4 ⟨rfl, rfl⟩
      go_wp2
      exact ⟨.inr ⟨by simp, rfl, _, _, _, _, _, _, hrawX.out _ hB3.out⟩, hk.out _ hB3.out⟩
    | true =>
      rw [if_neg (by simp [h1h.out, h2])] at hq
      have h1' := inB_iff.1 h1h.out
      have h2' := inB_iff.1 h2
      replace h2 := hide h2
      -- the map
      have hraw3 := hrawX.out w3 hB3.out
      have hmd : MapW w3.drew mb b.wt := hraw3.map
      have hlook := hmd.look (day := xday) (by omega)
      have hlims := hg.out.lim.wts
      obtain ⟨w4, hput, hm4, hg4⟩ := hmd.put (d := xday) (x := xweather) (by omega) h2' (fun s hs => (hlims s hs).2) (by omega)
      have hb1 : wbits b.wt xday < 256 := wbits_lt xday b.wt (fun s hs => (hlims s hs).2)
      have hsh : 1 <<< xweather.toNat < 256 := by
        rw [Nat.one_shiftLeft]
        exact Nat.lt_of_lt_of_le (Nat.pow_lt_pow_right (m := xweather.toNat) (n := 8) (by omega) (by omega)) (by decide)
      have hshw := shl_wrap h2'
      have hor := Bits.or_nat (wbits b.wt xday) (1 <<< xweather.toNat) (by omega) (by omega)
      generalize wbits b.wt xday = wb at *
      generalize 1 <<< xweather.toNat = sv at *
      have q11 : w3.drew.cell? ⟨p, 11, none⟩ = some (.map (some mb)) := hraw3.blk.cell 11
      have kp0 : w3.drew.cell? ⟨w.heap.size, 0, none⟩ = some (.pointer (some ⟨p, 0, none⟩)) := kp3.out.cell 0
      have k7 : w3.drew.cell? ⟨w.heap.size + 1, 7, none⟩ = some (.int .i64 xday) := kb3.out.cell 7
      have k8 : w3.drew.cell? ⟨w.heap.size + 1, 8, none⟩ = some (.int .i64 xweather) := kb3.out.cell 8
      replace hraw3 := hide hraw3
      replace hm4 := hide hm4
      replace hg4 := hide hg4
      clear hmd hlims
      go_wp2_with fail
      refine (need_yes 7 _).mono ?_
      rintro e w5 ⟨rfl, rfl⟩
      go_wp2
      refine region_tailB 11 (by kernel_rfl) (by kernel_rfl) ?_
      simp only [List.take_succ_cons, List.take_zero, List.drop_succ_cons, List.drop_zero]
      iterate 11 (refine still_bx (fun K hK => ?_); go_simp; refine hK.out _ ?_; clear hK K)
      refine still_bx_nil ?_
      clear kp0 k7 k8 q11 hlook hor hshw
      have g4 := hg4.out
      have hm0 := hraw3.out.map
      have kp4 := hide (Blk.grown (w := w3.drew) kp3.out g4 (fun e => by injection e with e; exact hm0.nblk kp3.out e.symm))
      have kb4 := hide (Blk.grown (w := w3.drew) kb3.out g4 (fun e => by injection e with e; exact hm0.nblk kb3.out e.symm))
      clear hm0
      have kpc : w4.cell? ⟨w.heap.size, 0, none⟩ = some (.pointer (some ⟨p, 0, none⟩)) := kp4.out.cell 0
      have hopen := hide (opens_any p w4)
      have hkb3z := hide kb3.out.lt
      clear g4 kp3 kb3
      go_wp2_with fail
      refine hopen.out.mono ?_
      clear hopen
      rintro e w5 ⟨rfl, hw5⟩
      obtain ⟨e0, he0⟩ : ∃ e0 : BEv, (⟨xkind, xat, xlearner, xcar, xbooking, xstart, xhours, xday, xweather, xkm, xcents⟩ : BEv) = e0 := ⟨_, rfl⟩
      obtain ⟨b1, hb1e⟩ : ∃ b1, ({ b with wt := b.wt ++ [(xday, xweather)] } : Bks) = b1 := ⟨_, rfl⟩
      have hb1l := hide (show b1.les = b.les by rw [← hb1e])
      have hgd1 := hide (show Gd S b1 by
        rw [← hb1e]
        refine ⟨hg.out.les, hg.out.km, hg.out.since, hg.out.acc, ⟨hg.out.lim.acc, hg.out.lim.km, hg.out.lim.since, hg.out.lim.pst, hg.out.lim.les, by simp; omega, fun s hs => ?_⟩, hg.out.time⟩
        rcases List.mem_append.1 hs with hs | hs
        · exact hg.out.lim.wts s hs
        · rw [List.mem_singleton] at hs; subst hs; exact ⟨h1', h2'⟩)
      -- blocks that stay
      have hwz4 := hg4.out.size
      have hwzz : w.heap.size + 1 < w4.heap.size := kb4.out.lt
      obtain ⟨Y1, hY1⟩ : ∃ Y1 : Nat → Prop, (fun k => X k ∨ k = w.heap.size ∨ k = w.heap.size + 1) = Y1 := ⟨_, rfl⟩
      obtain ⟨Y, hY⟩ : ∃ Y : Nat → Prop, (fun k => Y1 k ∨ k = w4.heap.size) = Y := ⟨_, rfl⟩
      have hXY : ∀ k, X k → Y k := fun k hk => by rw [← hY, ← hY1]; exact .inl (.inl hk)
      have hYg2 : Y w.heap.size := by rw [← hY, ← hY1]; exact .inl (.inr (.inl rfl))
      have hYg3 : Y (w.heap.size + 1) := by rw [← hY, ← hY1]; exact .inl (.inr (.inr rfl))
      have hold1 : Old Y1 w3 := fun k hk => by
        rw [← hY1] at hk
        have hz3 : w.heap.size + 1 < w3.heap.size := by have := hkb3z.out; omega
        rcases hk with hk | hk | hk
        · exact hraw3.out.old k hk
        · omega
        · omega
      have hr3 : RawB w3 Y1 p L C T cl cc ct S vl vk vs va mb vp b ev := Raw.more h0.out hB3.out (fun k hk => by rw [← hY1]; exact .inl hk) (fun k hk => by rw [← hY1] at hk; rcases hk with hk | hk | hk; exact .inl hk; exact .inr (by omega); exact .inr (by omega)) hold1
      have hr4 : RawB w4 Y1 p L C T cl cc ct S vl vk vs va mb vp b1 ev := by rw [← hb1e]; exact Raw.newMap (w := w3.drew) (Raw.below hr3 (Below.refl _ _).drew) hm4.out hg4.out
      have hk34 : KeptX X w w4 := (hk.out w3 hB3.out).trans ((KeptX.refl X w3).drew.trans (KeptX.grown hg4.out (show Old X w3.drew from hraw3.out.old) (fun g e => by cases e; exact hraw3.out.mx)))
      have hB45 : Below w4.heap.size w4 w5 := by rw [hw5]; exact (Below.refl _ _).alloc (Nat.le_refl _) _
      have hz5 : w5.heap.size = w4.heap.size + 1 := by rw [hw5]; simp
      have hr5 : RawB w5 Y p L C T cl cc ct S vl vk vs va mb vp b1 ev := Raw.more hr4 hB45 (fun k hk => by rw [← hY]; exact .inl hk) (fun k hk => by rw [← hY] at hk; exact hk.imp id (fun e => by omega)) (fun k hk => by
        rw [← hY] at hk
        rcases hk with hk | hk
        · have := hr4.old k hk; omega
        · omega)
      have hk5 := hide (hk34.trans (KeptX.of_below hB45 (show Old X w4 from fun k hk => Nat.lt_of_lt_of_le (hraw3.out.old k hk) hwz4)))
      have kb5 := hide (kb4.out.below hB45 kb4.out.lt)
      have kp5 := hide (kp4.out.below hB45 kp4.out.lt)
      have kx5 := hide (show Blk w5 w4.heap.size 94 #[.pointer (some ⟨p, 0, none⟩)] by rw [hw5]; exact blkNew rfl)
      have hLt := hr5.lt
      have hYB := hr5.old
      obtain ⟨g, cap, A, hvl, hA⟩ : ∃ g cap A, vl = .slice A b.les.length cap ∧ (0 < b.les.length → A = some ⟨g, 0, none⟩) := by
        by_cases h0' : 0 < b.les.length
        · obtain ⟨g, cap, e, -⟩ := les_row hraw3.out.les h0'
          exact ⟨g, cap, _, e, fun _ => rfl⟩
        · obtain ⟨A, c, e, -⟩ := hraw3.out.les.row
          rw [List.length_map] at e
          exact ⟨0, c, A, e, fun hh => absurd hh h0'⟩
      subst hvl
      have hlen := hg.out.lim.les
      have hrd : ∀ s V, RawB V Y p L C T cl cc ct S (.slice A b.les.length cap) vk vs va mb vp (mvs S e0 b1 s) ev → ∀ i, s = opn b.les i → LesRd b.les g i V := by
        rintro s V hr i rfl j hij hj
        have hl2 : (mvs S e0 b1 (opn b.les i)).les.length = b.les.length := by rw [mvs_len, hb1l.out]
        obtain ⟨g', cap', e', _, _, _, _, _, hc, _⟩ := les_row hr.les (by omega)
        obtain rfl := hA (by omega)
        have : g = g' := by injection e' with e'; injection e' with e'; injection e'
        subst this
        have h1 := hc j (by omega)
        have h2 : (mvs S e0 b1 (opn b.les i)).les[j]?.getD default = b.les[j]?.getD default := by
          have := mvs_at S e0 b1 i j hij
          rw [hb1l.out] at this
          exact this
        rw [h2] at h1
        exact h1
      obtain ⟨bc, oc, hCe, hbc0⟩ : ∃ bc oc, C = some ⟨bc, oc, none⟩ ∧ True := by
        obtain ⟨b', o', e', -⟩ := car_cells h0.out.sch.rows (j := 0) (by have := hS.out.nc; omega)
        exact ⟨b', o', e', trivial⟩
      subst hCe
      have hcars := hide (fun V bb (hr : RawB V Y p L (some ⟨bc, oc, none⟩) T cl cc ct S (.slice A b.les.length cap) vk vs va mb vp bb ev) (j : Nat) (hj : j < S.cars.length) => show V.cell? ⟨bc, oc + j * 4 + 3, none⟩ = some (.int .i64 (never S j : Int)) ∧ bc < V.heap.size from by
        obtain ⟨b', o', e', hlt, -, -, h3⟩ := car_cells hr.sch.rows hj
        have e2 : bc = b' ∧ oc = o' := by injection e' with e'; injection e' with e1 e2; exact ⟨e1, e2⟩
        obtain ⟨rfl, rfl⟩ := e2
        rw [(never_at hS.out hj).1] at h3
        exact ⟨h3, hlt⟩)
      have hall := hide (mvs_all S e0 b1)
      have hend2 := hide hraw3.out.sch
      clear hrawX hraw3 hm4 hg4 hold1 hr3 hr4 hk34 hB45 kb4 kp4 kpc hB3 hkb3z hY hY1 hw5
      replace hz5 := hide hz5
      replace hrd := hide hrd
      go_wp2
      refine (wpIn_wide (n := 9)).1 ?_
      refine range_own (gf := 109) (lb := #[.pointer (some ⟨w4.heap.size, 0, none⟩)]) (encs := encL) rfl enters_opens
        (opens_seq (9 - 1) w4.heap.size p A g cap b.les w5 (by omega) hA (kx5.out.cell 0) (hr5.blk.cell 7)) (fun _ => rfl)
        (fun pre V => RawB V Y p L (some ⟨bc, oc, none⟩) T cl cc ct S (.slice A b.les.length cap) vk vs va mb vp (mvs S e0 b1 pre) ev ∧ KeptX Y w5 V) (fun _ _ _ => False)
        (fun s V h => h.2.size) (fun s V h i hi => hrd.out s V h.1 i hi) (fun s V V' h hb => ⟨Raw.stay h.1 hLt hYB hb, h.2.trans ⟨hb.os, hb.tape, hb.output, hb.size, fun g hg => hb.block g (hYB g hg)⟩⟩) (fun c => fun _ _ _ _ h => h.elim) ⟨hr5, KeptX.refl _ _⟩
        (fun x V => V.alloc (.cells (lesCells x.2).toArray 63)) (fun x V => (Below.refl _ _).alloc (Nat.le_refl _) _)
        (fun x V => { tmps := #[.pointer (some ⟨p, 0, none⟩), .agg #[.int .i64 xkind, .int .i64 xat, .int .i64 xlearner, .int .i64 xcar, .int .i64 xbooking, .int .i64 xstart, .int .i64 xhours, .int .i64 xday, .int .i64 xweather, .int .i64 xkm, .int .i64 xcents], .pointer (some ⟨w.heap.size, 0, none⟩), .pointer (some ⟨w.heap.size + 1, 0, none⟩), .int .i64 x.1, .pointer (some ⟨V.heap.size, 0, none⟩), .pointer (some ⟨w.heap.size + 1, 7, none⟩), .int .i64 xday, .slice (some ⟨W.heap.size, 0, none⟩) 1 1, .bool true, .bool true, .pointer (some ⟨w.heap.size + 1, 8, none⟩), .int .i64 xweather, .slice (some ⟨w2.heap.size, 0, none⟩) 1 1, .bool true, .bool true, .tuple #[], .pointer (some ⟨p, 0, none⟩), .pointer (some ⟨p, 0, none⟩), .pointer (some ⟨p, 11, none⟩), .map (some mb), .pointer (some ⟨w.heap.size + 1, 7, none⟩), .int .i64 xday, .int .i64 (wb : Int), .pointer (some ⟨w.heap.size + 1, 8, none⟩), .int .i64 xweather, .int .i64 (sv : Int), .int .i64 ((wb ||| sv : Nat) : Int), .pointer (some ⟨p, 0, none⟩), .func (.func 109) #[] #[.pointer (some ⟨w4.heap.size, 0, none⟩)], .int .i64 x.1, .agg (lesCells x.2).toArray, undef, undef, undef, undef, undef, undef, undef, undef, undef, undef, undef, undef, undef, undef, undef, undef, undef, undef, undef, undef, undef, undef, undef, undef, undef, undef, undef, undef, undef, undef, undef], defers := [] }) ?assign ?body ?done ?stop
      case assign =>
        rintro l ⟨x1, ⟨xl, xc, xs, xh, xt⟩⟩ V K hK
        unfold lesCells at hK
        simp only [encL, lesCells]
        gi_wp2
        exact hK
      case body =>
        rintro l pre ⟨x1, ⟨xl, xc, xs, xh, xt⟩⟩ V0 V ⟨-, hk0⟩ ⟨hIr, hIk⟩ ⟨jx0, hj, hst, hpre, hxj⟩ hk
        have hx1 := (Prod.ext_iff.1 hxj).1
        have hx2 := (Prod.ext_iff.1 hxj).2
        simp only at hx1 hx2
        subst hx1
        have hlo := les_at hg.out.les hj
        rw [← hx2] at hlo hst
        obtain ⟨o1, o2, o3, o4, o5⟩ := hlo
        simp only at o1 o2 o3 o4 o5 hst
        subst hst
        obtain ⟨jx, rfl⟩ : ∃ jx : Nat, xc = (jx : Int) := ⟨xc.toNat, by omega⟩
        obtain ⟨iw, hiw⟩ : ∃ iw : Nat, xweather = (iw : Int) := ⟨xweather.toNat, by omega⟩
        have hcar := hcars.out V _ hIr jx (by omega)
        have kx : Blk V V0.heap.size 63 #[.int .i64 xl, .int .i64 jx, .int .i64 xs, .int .i64 xh, .int .i64 0] := hk.blk (Blk.new V0 _ _)
        have kbV := hIk.blk hYg3 kb5.out
        have kpV := hIk.blk hYg2 kp5.out
        obtain ⟨nv, hnv⟩ : ∃ nv, never S jx = nv := ⟨_, rfl⟩
        have hnv2 : nv ≤ 255 := by rw [← hnv]; exact (never_at hS.out (by omega)).2
        rw [hnv] at hcar
        have hfac := hide (show ∀ V', Below V.heap.size V V' → V'.cell? ⟨w.heap.size + 1, 1, none⟩ = some (.int .i64 xat) ∧ V'.cell? ⟨w.heap.size + 1, 7, none⟩ = some (.int .i64 xday) ∧ V'.cell? ⟨w.heap.size + 1, 8, none⟩ = some (.int .i64 (iw : Int)) ∧ V'.cell? ⟨w.heap.size, 0, none⟩ = some (.pointer (some ⟨p, 0, none⟩)) ∧ V'.cell? ⟨V0.heap.size, 1, none⟩ = some (.int .i64 jx) ∧ V'.cell? ⟨V0.heap.size, 2, none⟩ = some (.int .i64 xs) ∧
            V'.cell? ⟨p, 1, none⟩ = some (.slice (some ⟨bc, oc, none⟩) S.cars.length cc) ∧ V'.cell? ⟨bc, oc + jx * 4 + 3, none⟩ = some (.int .i64 (nv : Int)) from fun V' hb => by
          have k1 := kbV.below hb kbV.lt
          have k2 := kpV.below hb kpV.lt
          have k3 := kx.below hb kx.lt
          have k4 := hIr.blk.below hb hIr.blk.lt
          exact ⟨k1.cell 1, k1.cell 7, by rw [← hiw]; exact k1.cell 8, k2.cell 0, k3.cell 1, k3.cell 2, k4.cell 1, (cellB hb hcar.2).trans hcar.1⟩)
        have kpv2 := hide (fun V' (hb : Below V.heap.size V V') => (show V'.cell? ⟨w.heap.size, 0, none⟩ = some (.pointer (some ⟨p, 0, none⟩)) from (kpV.below hb kpV.lt).cell 0))
        have hday := hide (fun V' => dayOf_any xs V' (by omega))
        have hhas := hide (fun V' => Has_any nv iw hnv2 (by omega) V')
        obtain ⟨q3, hq3⟩ : ∃ q3, nv.testBit iw = q3 := ⟨_, rfl⟩
        rw [hq3] at hhas
        have hjcz : (jx : Int) < (S.cars.length : Int) := by omega
        replace hIr := hide hIr
        replace hIk := hide hIk
        replace hpre := hide hpre
        replace hiw := hide hiw
        replace hnv := hide hnv
        replace hq3 := hide hq3
        replace hj := hide hj
        replace hx2 := hide hx2
        clear hcar kx kbV kpV hk hk0 hxj hrd hcars o1 o2 o3 o4 o5
        simp only [lesCells]
        gi_wp2
        cases hc1 : (xs / 24 == xday) with
        | false =>
          have hc1h := hide hc1
          refine region_grow_rd [IsV (.pointer (some ⟨V0.heap.size, 2, none⟩)), IsV (.int .i64 xs), IsV (.int .i64 (xs / 24)), IsV (.pointer (some ⟨w.heap.size + 1, 7, none⟩)), IsV (.int .i64 xday), IsV (.bool false), IsV (.bool false), IsV (undef), IsV (undef), IsV (undef), IsV (undef), IsV (undef), IsV (.bool false), IsV (.bool false), IsV (undef), IsV (undef), IsV (undef), IsV (undef), IsV (undef), IsV (undef), IsV (undef), IsV (undef), IsV (undef), IsV (undef), IsV (undef), IsV (undef), IsV (undef), IsV (.bool false)] (by kernel_rfl) (by kernel_rfl) (by kernel_rfl) rfl ?_ ?_ ?_
          · simp [AllStb, IsV.stb]
          · refine ⟨?_, ?_, ?_, ?_, ?_, ?_, ?_, ?_, ?_, ?_, ?_, ?_, ?_, ?_, ?_, ?_, ?_, ?_, ?_, ?_, ?_, ?_, ?_, ?_, ?_, ?_, ?_, ?_, trivial⟩
            · intro y w1 K Q Cv hC hd hV
              have f := hfac.out w1 hC
              have a0 := f.1
              have a1 := f.2.1
              have a2 := f.2.2.1
              have a3 := f.2.2.2.1
              have a4 := f.2.2.2.2.1
              have a5 := f.2.2.2.2.2.1
              have a6 := f.2.2.2.2.2.2.1
              have a7 := f.2.2.2.2.2.2.2
              clear f
              clear hd
              simp only [putAll, Act.put]
              go_simp
              intro hK; exact hK _ _ (hV _ _ hC (Below.refl _ _) rfl)
            · intro y w1 K Q Cv hC hd hV
              have f := hfac.out w1 hC
              have a0 := f.1
              have a1 := f.2.1
              have a2 := f.2.2.1
              have a3 := f.2.2.2.1
              have a4 := f.2.2.2.2.1
              have a5 := f.2.2.2.2.2.1
              have a6 := f.2.2.2.2.2.2.1
              have a7 := f.2.2.2.2.2.2.2
              clear f
              simp [deps, VL, IsV, Region.binds] at hd
              simp only [putAll, Act.put]
              go_simp
              intro hK; exact hK _ _ (hV _ _ hC (Below.refl _ _) rfl)
            · intro y w1 K Q Cv hC hd hV
              have f := hfac.out w1 hC
              have a0 := f.1
              have a1 := f.2.1
              have a2 := f.2.2.1
              have a3 := f.2.2.2.1
              have a4 := f.2.2.2.2.1
              have a5 := f.2.2.2.2.2.1
              have a6 := f.2.2.2.2.2.2.1
              have a7 := f.2.2.2.2.2.2.2
              clear f
              simp [deps, VL, IsV, Region.binds] at hd
              simp only [putAll, Act.put]
              go_simp
              intro hK; refine (hday.out _).mono ?_; rintro e w7 ⟨rfl, rfl⟩; exact hK _ _ (hV _ _ hC (Below.refl _ _) rfl)
            · intro y w1 K Q Cv hC hd hV
              have f := hfac.out w1 hC
              have a0 := f.1
              have a1 := f.2.1
              have a2 := f.2.2.1
              have a3 := f.2.2.2.1
              have a4 := f.2.2.2.2.1
              have a5 := f.2.2.2.2.2.1
              have a6 := f.2.2.2.2.2.2.1
              have a7 := f.2.2.2.2.2.2.2
              clear f
              clear hd
              simp only [putAll, Act.put]
              go_simp
              intro hK; exact hK _ _ (hV _ _ hC (Below.refl _ _) rfl)
            · intro y w1 K Q Cv hC hd hV
              have f := hfac.out w1 hC
              have a0 := f.1
              have a1 := f.2.1
              have a2 := f.2.2.1
              have a3 := f.2.2.2.1
              have a4 := f.2.2.2.2.1
              have a5 := f.2.2.2.2.2.1
              have a6 := f.2.2.2.2.2.2.1
              have a7 := f.2.2.2.2.2.2.2
              clear f
              simp [deps, VL, IsV, Region.binds] at hd
              simp only [putAll, Act.put]
              go_simp
              intro hK; exact hK _ _ (hV _ _ hC (Below.refl _ _) rfl)
            · intro y w1 K Q Cv hC hd hV
              have f := hfac.out w1 hC
              have a0 := f.1
              have a1 := f.2.1
              have a2 := f.2.2.1
              have a3 := f.2.2.2.1
              have a4 := f.2.2.2.2.1
              have a5 := f.2.2.2.2.2.1
              have a6 := f.2.2.2.2.2.2.1
              have a7 := f.2.2.2.2.2.2.2
              clear f
              simp [deps, VL, IsV, Region.binds] at hd
              simp only [putAll, Act.put]
              go_simp
              intro hK; exact hK _ _ (hV _ _ hC (Below.refl _ _) rfl)
            · intro y w1 K Q Cv hC hd hV
              have f := hfac.out w1 hC
              have a0 := f.1
              have a1 := f.2.1
              have a2 := f.2.2.1
              have a3 := f.2.2.2.1
              have a4 := f.2.2.2.2.1
              have a5 := f.2.2.2.2.2.1
              have a6 := f.2.2.2.2.2.2.1
              have a7 := f.2.2.2.2.2.2.2
              clear f
              simp [deps, VL, IsV, Region.binds] at hd
              simp only [putAll, Act.put]
              go_simp
              intro hK; exact hK _ _ (hV _ _ hC (Below.refl _ _) rfl)
            · intro y w1 K Q Cv hC hd hV
              have f := hfac.out w1 hC
              have a0 := f.1
              have a1 := f.2.1
              have a2 := f.2.2.1
              have a3 := f.2.2.2.1
              have a4 := f.2.2.2.2.1
              have a5 := f.2.2.2.2.2.1
              have a6 := f.2.2.2.2.2.2.1
              have a7 := f.2.2.2.2.2.2.2
              clear f
              simp [deps, VL, IsV, Region.binds] at hd
              simp only [putAll, Act.put]
              go_simp
              intro hK; exact hK _ _ (hV _ _ hC (Below.refl _ _) rfl)
            · intro y w1 K Q Cv hC hd hV
              have f := hfac.out w1 hC
              have a0 := f.1
              have a1 := f.2.1
              have a2 := f.2.2.1
              have a3 := f.2.2.2.1
              have a4 := f.2.2.2.2.1
              have a5 := f.2.2.2.2.2.1
              have a6 := f.2.2.2.2.2.2.1
              have a7 := f.2.2.2.2.2.2.2
              clear f
              simp [deps, VL, IsV, Region.binds] at hd
              simp only [putAll, Act.put]
              go_simp
              intro hK; exact hK _ _ (hV _ _ hC (Below.refl _ _) rfl)
            · intro y w1 K Q Cv hC hd hV
              have f := hfac.out w1 hC
              have a0 := f.1
              have a1 := f.2.1
              have a2 := f.2.2.1
              have a3 := f.2.2.2.1
              have a4 := f.2.2.2.2.1
              have a5 := f.2.2.2.2.2.1
              have a6 := f.2.2.2.2.2.2.1
              have a7 := f.2.2.2.2.2.2.2
              clear f
              simp [deps, VL, IsV, Region.binds] at hd
              simp only [putAll, Act.put]
              go_simp
              intro hK; exact hK _ _ (hV _ _ hC (Below.refl _ _) rfl)
            · intro y w1 K Q Cv hC hd hV
              have f := hfac.out w1 hC
              have a0 := f.1
              have a1 := f.2.1
              have a2 := f.2.2.1
              have a3 := f.2.2.2.1
              have a4 := f.2.2.2.2.1
              have a5 := f.2.2.2.2.2.1
              have a6 := f.2.2.2.2.2.2.1
              have a7 := f.2.2.2.2.2.2.2
              clear f
              simp [deps, VL, IsV, Region.binds] at hd
              simp only [putAll, Act.put]
              go_simp
              intro hK; exact hK _ _ (hV _ _ hC (Below.refl _ _) rfl)
            · intro y w1 K Q Cv hC hd hV
              have f := hfac.out w1 hC
              have a0 := f.1
              have a1 := f.2.1
              have a2 := f.2.2.1
              have a3 := f.2.2.2.1
              have a4 := f.2.2.2.2.1
              have a5 := f.2.2.2.2.2.1
              have a6 := f.2.2.2.2.2.2.1
              have a7 := f.2.2.2.2.2.2.2
              clear f
              simp [deps, VL, IsV, Region.binds] at hd
              simp only [putAll, Act.put]
              go_simp
              intro hK; exact hK _ _ (hV _ _ hC (Below.refl _ _) rfl)
            · intro y w1 K Q Cv hC hd hV
              have f := hfac.out w1 hC
              have a0 := f.1
              have a1 := f.2.1
              have a2 := f.2.2.1
              have a3 := f.2.2.2.1
              have a4 := f.2.2.2.2.1
              have a5 := f.2.2.2.2.2.1
              have a6 := f.2.2.2.2.2.2.1
              have a7 := f.2.2.2.2.2.2.2
              clear f
              simp [deps, VL, IsV, Region.binds] at hd
              simp only [putAll, Act.put]
              go_simp
              intro hK; exact hK _ _ (hV _ _ hC (Below.refl _ _) rfl)
            · intro y w1 K Q Cv hC hd hV
              have f := hfac.out w1 hC
              have a0 := f.1
              have a1 := f.2.1
              have a2 := f.2.2.1
              have a3 := f.2.2.2.1
              have a4 := f.2.2.2.2.1
              have a5 := f.2.2.2.2.2.1
              have a6 := f.2.2.2.2.2.2.1
              have a7 := f.2.2.2.2.2.2.2
              clear f
              simp [deps, VL, IsV, Region.binds] at hd
              simp only [putAll, Act.put]
              go_simp
              intro hK; exact hK _ _ (hV _ _ hC (Below.refl _ _) rfl)
            · intro y w1 K Q Cv hC hd hV
              have f := hfac.out w1 hC
              have a0 := f.1
              have a1 := f.2.1
              have a2 := f.2.2.1
              have a3 := f.2.2.2.1
              have a4 := f.2.2.2.2.1
              have a5 := f.2.2.2.2.2.1
              have a6 := f.2.2.2.2.2.2.1
              have a7 := f.2.2.2.2.2.2.2
              clear f
              simp [deps, VL, IsV, Region.binds] at hd
              simp only [putAll, Act.put]
              go_simp
              intro hK; exact hK _ _ (hV _ _ hC (Below.refl _ _) rfl)
            · intro y w1 K Q Cv hC hd hV
              have f := hfac.out w1 hC
              have a0 := f.1
              have a1 := f.2.1
              have a2 := f.2.2.1
              have a3 := f.2.2.2.1
              have a4 := f.2.2.2.2.1
              have a5 := f.2.2.2.2.2.1
              have a6 := f.2.2.2.2.2.2.1
              have a7 := f.2.2.2.2.2.2.2
              clear f
              simp [deps, VL, IsV, Region.binds] at hd
              simp only [putAll, Act.put]
              go_simp
              intro hK; exact hK _ _ (hV _ _ hC (Below.refl _ _) rfl)
            · intro y w1 K Q Cv hC hd hV
              have f := hfac.out w1 hC
              have a0 := f.1
              have a1 := f.2.1
              have a2 := f.2.2.1
              have a3 := f.2.2.2.1
              have a4 := f.2.2.2.2.1
              have a5 := f.2.2.2.2.2.1
              have a6 := f.2.2.2.2.2.2.1
              have a7 := f.2.2.2.2.2.2.2
              clear f
              simp [deps, VL, IsV, Region.binds] at hd
              simp only [putAll, Act.put]
              go_simp
              intro hK; exact hK _ _ (hV _ _ hC (Below.refl _ _) rfl)
            · intro y w1 K Q Cv hC hd hV
              have f := hfac.out w1 hC
              have a0 := f.1
              have a1 := f.2.1
              have a2 := f.2.2.1
              have a3 := f.2.2.2.1
              have a4 := f.2.2.2.2.1
              have a5 := f.2.2.2.2.2.1
              have a6 := f.2.2.2.2.2.2.1
              have a7 := f.2.2.2.2.2.2.2
              clear f
              simp [deps, VL, IsV, Region.binds] at hd
              simp only [putAll, Act.put]
              go_simp
              intro hK; exact hK _ _ (hV _ _ hC (Below.refl _ _) rfl)
            · intro y w1 K Q Cv hC hd hV
              have f := hfac.out w1 hC
              have a0 := f.1
              have a1 := f.2.1
              have a2 := f.2.2.1
              have a3 := f.2.2.2.1
              have a4 := f.2.2.2.2.1
              have a5 := f.2.2.2.2.2.1
              have a6 := f.2.2.2.2.2.2.1
              have a7 := f.2.2.2.2.2.2.2
              clear f
              simp [deps, VL, IsV, Region.binds] at hd
              simp only [putAll, Act.put]
              go_simp
              intro hK; exact hK _ _ (hV _ _ hC (Below.refl _ _) rfl)
            · intro y w1 K Q Cv hC hd hV
              have f := hfac.out w1 hC
              have a0 := f.1
              have a1 := f.2.1
              have a2 := f.2.2.1
              have a3 := f.2.2.2.1
              have a4 := f.2.2.2.2.1
              have a5 := f.2.2.2.2.2.1
              have a6 := f.2.2.2.2.2.2.1
              have a7 := f.2.2.2.2.2.2.2
              clear f
              simp [deps, VL, IsV, Region.binds] at hd
              simp only [putAll, Act.put]
              go_simp
              intro hK; exact hK _ _ (hV _ _ hC (Below.refl _ _) rfl)
            · intro y w1 K Q Cv hC hd hV
              have f := hfac.out w1 hC
              have a0 := f.1
              have a1 := f.2.1
              have a2 := f.2.2.1
              have a3 := f.2.2.2.1
              have a4 := f.2.2.2.2.1
              have a5 := f.2.2.2.2.2.1
              have a6 := f.2.2.2.2.2.2.1
              have a7 := f.2.2.2.2.2.2.2
              clear f
              simp [deps, VL, IsV, Region.binds] at hd
              simp only [putAll, Act.put]
              go_simp
              intro hK; exact hK _ _ (hV _ _ hC (Below.refl _ _) rfl)
            · intro y w1 K Q Cv hC hd hV
              have f := hfac.out w1 hC
              have a0 := f.1
              have a1 := f.2.1
              have a2 := f.2.2.1
              have a3 := f.2.2.2.1
              have a4 := f.2.2.2.2.1
              have a5 := f.2.2.2.2.2.1
              have a6 := f.2.2.2.2.2.2.1
              have a7 := f.2.2.2.2.2.2.2
              clear f
              simp [deps, VL, IsV, Region.binds] at hd
              simp only [putAll, Act.put]
              go_simp
              intro hK; exact hK _ _ (hV _ _ hC (Below.refl _ _) rfl)
            · intro y w1 K Q Cv hC hd hV
              have f := hfac.out w1 hC
              have a0 := f.1
              have a1 := f.2.1
              have a2 := f.2.2.1
              have a3 := f.2.2.2.1
              have a4 := f.2.2.2.2.1
              have a5 := f.2.2.2.2.2.1
              have a6 := f.2.2.2.2.2.2.1
              have a7 := f.2.2.2.2.2.2.2
              clear f
              simp [deps, VL, IsV, Region.binds] at hd
              simp only [putAll, Act.put]
              go_simp
              intro hK; exact hK _ _ (hV _ _ hC (Below.refl _ _) rfl)
            · intro y w1 K Q Cv hC hd hV
              have f := hfac.out w1 hC
              have a0 := f.1
              have a1 := f.2.1
              have a2 := f.2.2.1
              have a3 := f.2.2.2.1
              have a4 := f.2.2.2.2.1
              have a5 := f.2.2.2.2.2.1
              have a6 := f.2.2.2.2.2.2.1
              have a7 := f.2.2.2.2.2.2.2
              clear f
              simp [deps, VL, IsV, Region.binds] at hd
              simp only [putAll, Act.put]
              go_simp
              intro hK; exact hK _ _ (hV _ _ hC (Below.refl _ _) rfl)
            · intro y w1 K Q Cv hC hd hV
              have f := hfac.out w1 hC
              have a0 := f.1
              have a1 := f.2.1
              have a2 := f.2.2.1
              have a3 := f.2.2.2.1
              have a4 := f.2.2.2.2.1
              have a5 := f.2.2.2.2.2.1
              have a6 := f.2.2.2.2.2.2.1
              have a7 := f.2.2.2.2.2.2.2
              clear f
              simp [deps, VL, IsV, Region.binds] at hd
              simp only [putAll, Act.put]
              go_simp
              intro hK; exact hK _ _ (hV _ _ hC (Below.refl _ _) rfl)
            · intro y w1 K Q Cv hC hd hV
              have f := hfac.out w1 hC
              have a0 := f.1
              have a1 := f.2.1
              have a2 := f.2.2.1
              have a3 := f.2.2.2.1
              have a4 := f.2.2.2.2.1
              have a5 := f.2.2.2.2.2.1
              have a6 := f.2.2.2.2.2.2.1
              have a7 := f.2.2.2.2.2.2.2
              clear f
              simp [deps, VL, IsV, Region.binds] at hd
              simp only [putAll, Act.put]
              go_simp
              intro hK; exact hK _ _ (hV _ _ hC (Below.refl _ _) rfl)
            · intro y w1 K Q Cv hC hd hV
              have f := hfac.out w1 hC
              have a0 := f.1
              have a1 := f.2.1
              have a2 := f.2.2.1
              have a3 := f.2.2.2.1
              have a4 := f.2.2.2.2.1
              have a5 := f.2.2.2.2.2.1
              have a6 := f.2.2.2.2.2.2.1
              have a7 := f.2.2.2.2.2.2.2
              clear f
              simp [deps, VL, IsV, Region.binds] at hd
              simp only [putAll, Act.put]
              go_simp
              intro hK; exact hK _ _ (hV _ _ hC (Below.refl _ _) rfl)
            · intro y w1 K Q Cv hC hd hV
              have f := hfac.out w1 hC
              have a0 := f.1
              have a1 := f.2.1
              have a2 := f.2.2.1
              have a3 := f.2.2.2.1
              have a4 := f.2.2.2.2.1
              have a5 := f.2.2.2.2.2.1
              have a6 := f.2.2.2.2.2.2.1
              have a7 := f.2.2.2.2.2.2.2
              clear f
              simp [deps, VL, IsV, Region.binds] at hd
              simp only [putAll, Act.put]
              go_simp
              intro hK; exact hK _ _ (hV _ _ hC (Below.refl _ _) rfl)
          intro y V1 hC hd
          simp [EndsL, IsV] at hd
          obtain ⟨d0, d1, d2, d3, d4, d5, d6, d7, d8, d9, d10, d11, d12, d13, d14, d15, d16, d17, d18, d19, d20, d21, d22, d23, d24, d25, d26, d27⟩ := hd
          simp only [putAll, Act.put]
          rw [d0, d1, d2, d3, d4, d5, d6, d7, d8, d9, d10, d11, d12, d13, d14, d15, d16, d17, d18, d19, d20, d21, d22, d23, d24, d25, d26, d27]
          clear d0 d1 d2 d3 d4 d5 d6 d7 d8 d9 d10 d11 d12 d13 d14 d15 d16 d17 d18 d19 d20 d21 d22 d23 d24 d25 d26 d27 hfac hday hhas
          simp only [List.setIfInBounds_toArray, List.set_cons_succ, List.set_cons_zero]
          have hn0 := hide (show stp S e0 (mvs S e0 b1 pre) (x1, ⟨xl, (jx : Int), xs, xh, 0⟩) = mvs S e0 b1 pre from if_neg (by rw [← he0]; simp only; intro hh; have := hc1h.out; rw [beq_eq_false_iff_ne] at this; exact this hh.1))
          have hko := hide ((KeepsOthers.of_grownBy (row := none) ⟨hC.os, hC.tape, hC.output, hC.size, fun k hk _ => hC.block k hk⟩ (by simp)).from w5.heap.size)
          have hI1 := hide (show RawB V1 Y p L (some ⟨bc, oc, none⟩) T cl cc ct S (.slice A b.les.length cap) vk vs va mb vp (mvs S e0 b1 (pre ++ [(x1, ⟨xl, (jx : Int), xs, xh, 0⟩)])) ev ∧ KeptX Y w5 V1 from ⟨by rw [mvs_snoc, hn0.out]; exact Raw.below hIr.out hC, hIk.out.trans (KeptX.of_below hC hIr.out.old)⟩)
          clear hC
          gi_wp2
          exact ⟨hko.out, trivial, hI1.out⟩
        | true =>
          cases hc2 : decide (xat < xs) with
          | false =>
            have hc2h := hide hc2
            refine region_grow_rd [IsV (.pointer (some ⟨V0.heap.size, 2, none⟩)), IsV (.int .i64 xs), IsV (.int .i64 (xs / 24)), IsV (.pointer (some ⟨w.heap.size + 1, 7, none⟩)), IsV (.int .i64 xday), IsV (.bool true), IsV (.bool true), IsV (.pointer (some ⟨V0.heap.size, 2, none⟩)), IsV (.int .i64 xs), IsV (.pointer (some ⟨w.heap.size + 1, 1, none⟩)), IsV (.int .i64 xat), IsV (.bool false), IsV (.bool false), IsV (.bool false), IsV (undef), IsV (undef), IsV (undef), IsV (undef), IsV (undef), IsV (undef), IsV (undef), IsV (undef), IsV (undef), IsV (undef), IsV (undef), IsV (undef), IsV (undef), IsV (.bool false)] (by kernel_rfl) (by kernel_rfl) (by kernel_rfl) rfl ?_ ?_ ?_
            · simp [AllStb, IsV.stb]
            · refine ⟨?_, ?_, ?_, ?_, ?_, ?_, ?_, ?_, ?_, ?_, ?_, ?_, ?_, ?_, ?_, ?_, ?_, ?_, ?_, ?_, ?_, ?_, ?_, ?_, ?_, ?_, ?_, ?_, trivial⟩
              · intro y w1 K Q Cv hC hd hV
                have f := hfac.out w1 hC
                have a0 := f.1
                have a1 := f.2.1
                have a2 := f.2.2.1
                have a3 := f.2.2.2.1
                have a4 := f.2.2.2.2.1
                have a5 := f.2.2.2.2.2.1
                have a6 := f.2.2.2.2.2.2.1
                have a7 := f.2.2.2.2.2.2.2
                clear f
                clear hd
                simp only [putAll, Act.put]
                go_simp
                intro hK; exact hK _ _ (hV _ _ hC (Below.refl _ _) rfl)
              · intro y w1 K Q Cv hC hd hV
                have f := hfac.out w1 hC
                have a0 := f.1
                have a1 := f.2.1
                have a2 := f.2.2.1
                have a3 := f.2.2.2.1
                have a4 := f.2.2.2.2.1
                have a5 := f.2.2.2.2.2.1
                have a6 := f.2.2.2.2.2.2.1
                have a7 := f.2.2.2.2.2.2.2
                clear f
                simp [deps, VL, IsV, Region.binds] at hd
                simp only [putAll, Act.put]
                go_simp
                intro hK; exact hK _ _ (hV _ _ hC (Below.refl _ _) rfl)
              · intro y w1 K Q Cv hC hd hV
                have f := hfac.out w1 hC
                have a0 := f.1
                have a1 := f.2.1
                have a2 := f.2.2.1
                have a3 := f.2.2.2.1
                have a4 := f.2.2.2.2.1
                have a5 := f.2.2.2.2.2.1
                have a6 := f.2.2.2.2.2.2.1
                have a7 := f.2.2.2.2.2.2.2
                clear f
                simp [deps, VL, IsV, Region.binds] at hd
                simp only [putAll, Act.put]
                go_simp
                intro hK; refine (hday.out _).mono ?_; rintro e w7 ⟨rfl, rfl⟩; exact hK _ _ (hV _ _ hC (Below.refl _ _) rfl)
              · intro y w1 K Q Cv hC hd hV
                have f := hfac.out w1 hC
                have a0 := f.1
                have a1 := f.2.1
                have a2 := f.2.2.1
                have a3 := f.2.2.2.1
                have a4 := f.2.2.2.2.1
                have a5 := f.2.2.2.2.2.1
                have a6 := f.2.2.2.2.2.2.1
                have a7 := f.2.2.2.2.2.2.2
                clear f
                clear hd
                simp only [putAll, Act.put]
                go_simp
                intro hK; exact hK _ _ (hV _ _ hC (Below.refl _ _) rfl)
              · intro y w1 K Q Cv hC hd hV
                have f := hfac.out w1 hC
                have a0 := f.1
                have a1 := f.2.1
                have a2 := f.2.2.1
                have a3 := f.2.2.2.1
                have a4 := f.2.2.2.2.1
                have a5 := f.2.2.2.2.2.1
                have a6 := f.2.2.2.2.2.2.1
                have a7 := f.2.2.2.2.2.2.2
                clear f
                simp [deps, VL, IsV, Region.binds] at hd
                simp only [putAll, Act.put]
                go_simp
                intro hK; exact hK _ _ (hV _ _ hC (Below.refl _ _) rfl)
              · intro y w1 K Q Cv hC hd hV
                have f := hfac.out w1 hC
                have a0 := f.1
                have a1 := f.2.1
                have a2 := f.2.2.1
                have a3 := f.2.2.2.1
                have a4 := f.2.2.2.2.1
                have a5 := f.2.2.2.2.2.1
                have a6 := f.2.2.2.2.2.2.1
                have a7 := f.2.2.2.2.2.2.2
                clear f
                simp [deps, VL, IsV, Region.binds] at hd
                simp only [putAll, Act.put]
                go_simp
                intro hK; exact hK _ _ (hV _ _ hC (Below.refl _ _) rfl)
              · intro y w1 K Q Cv hC hd hV
                have f := hfac.out w1 hC
                have a0 := f.1
                have a1 := f.2.1
                have a2 := f.2.2.1
                have a3 := f.2.2.2.1
                have a4 := f.2.2.2.2.1
                have a5 := f.2.2.2.2.2.1
                have a6 := f.2.2.2.2.2.2.1
                have a7 := f.2.2.2.2.2.2.2
                clear f
                simp [deps, VL, IsV, Region.binds] at hd
                simp only [putAll, Act.put]
                go_simp
                intro hK; exact hK _ _ (hV _ _ hC (Below.refl _ _) rfl)
              · intro y w1 K Q Cv hC hd hV
                have f := hfac.out w1 hC
                have a0 := f.1
                have a1 := f.2.1
                have a2 := f.2.2.1
                have a3 := f.2.2.2.1
                have a4 := f.2.2.2.2.1
                have a5 := f.2.2.2.2.2.1
                have a6 := f.2.2.2.2.2.2.1
                have a7 := f.2.2.2.2.2.2.2
                clear f
                simp [deps, VL, IsV, Region.binds] at hd
                simp only [putAll, Act.put]
                go_simp
                intro hK; exact hK _ _ (hV _ _ hC (Below.refl _ _) rfl)
              · intro y w1 K Q Cv hC hd hV
                have f := hfac.out w1 hC
                have a0 := f.1
                have a1 := f.2.1
                have a2 := f.2.2.1
                have a3 := f.2.2.2.1
                have a4 := f.2.2.2.2.1
                have a5 := f.2.2.2.2.2.1
                have a6 := f.2.2.2.2.2.2.1
                have a7 := f.2.2.2.2.2.2.2
                clear f
                simp [deps, VL, IsV, Region.binds] at hd
                simp only [putAll, Act.put]
                go_simp
                intro hK; exact hK _ _ (hV _ _ hC (Below.refl _ _) rfl)
              · intro y w1 K Q Cv hC hd hV
                have f := hfac.out w1 hC
                have a0 := f.1
                have a1 := f.2.1
                have a2 := f.2.2.1
                have a3 := f.2.2.2.1
                have a4 := f.2.2.2.2.1
                have a5 := f.2.2.2.2.2.1
                have a6 := f.2.2.2.2.2.2.1
                have a7 := f.2.2.2.2.2.2.2
                clear f
                simp [deps, VL, IsV, Region.binds] at hd
                simp only [putAll, Act.put]
                go_simp
                intro hK; exact hK _ _ (hV _ _ hC (Below.refl _ _) rfl)
              · intro y w1 K Q Cv hC hd hV
                have f := hfac.out w1 hC
                have a0 := f.1
                have a1 := f.2.1
                have a2 := f.2.2.1
                have a3 := f.2.2.2.1
                have a4 := f.2.2.2.2.1
                have a5 := f.2.2.2.2.2.1
                have a6 := f.2.2.2.2.2.2.1
                have a7 := f.2.2.2.2.2.2.2
                clear f
                simp [deps, VL, IsV, Region.binds] at hd
                simp only [putAll, Act.put]
                go_simp
                intro hK; exact hK _ _ (hV _ _ hC (Below.refl _ _) rfl)
              · intro y w1 K Q Cv hC hd hV
                have f := hfac.out w1 hC
                have a0 := f.1
                have a1 := f.2.1
                have a2 := f.2.2.1
                have a3 := f.2.2.2.1
                have a4 := f.2.2.2.2.1
                have a5 := f.2.2.2.2.2.1
                have a6 := f.2.2.2.2.2.2.1
                have a7 := f.2.2.2.2.2.2.2
                clear f
                simp [deps, VL, IsV, Region.binds] at hd
                simp only [putAll, Act.put]
                go_simp
                intro hK; exact hK _ _ (hV _ _ hC (Below.refl _ _) rfl)
              · intro y w1 K Q Cv hC hd hV
                have f := hfac.out w1 hC
                have a0 := f.1
                have a1 := f.2.1
                have a2 := f.2.2.1
                have a3 := f.2.2.2.1
                have a4 := f.2.2.2.2.1
                have a5 := f.2.2.2.2.2.1
                have a6 := f.2.2.2.2.2.2.1
                have a7 := f.2.2.2.2.2.2.2
                clear f
                simp [deps, VL, IsV, Region.binds] at hd
                simp only [putAll, Act.put]
                go_simp
                intro hK; exact hK _ _ (hV _ _ hC (Below.refl _ _) rfl)
              · intro y w1 K Q Cv hC hd hV
                have f := hfac.out w1 hC
                have a0 := f.1
                have a1 := f.2.1
                have a2 := f.2.2.1
                have a3 := f.2.2.2.1
                have a4 := f.2.2.2.2.1
                have a5 := f.2.2.2.2.2.1
                have a6 := f.2.2.2.2.2.2.1
                have a7 := f.2.2.2.2.2.2.2
                clear f
                simp [deps, VL, IsV, Region.binds] at hd
                simp only [putAll, Act.put]
                go_simp
                intro hK; exact hK _ _ (hV _ _ hC (Below.refl _ _) rfl)
              · intro y w1 K Q Cv hC hd hV
                have f := hfac.out w1 hC
                have a0 := f.1
                have a1 := f.2.1
                have a2 := f.2.2.1
                have a3 := f.2.2.2.1
                have a4 := f.2.2.2.2.1
                have a5 := f.2.2.2.2.2.1
                have a6 := f.2.2.2.2.2.2.1
                have a7 := f.2.2.2.2.2.2.2
                clear f
                simp [deps, VL, IsV, Region.binds] at hd
                simp only [putAll, Act.put]
                go_simp
                intro hK; exact hK _ _ (hV _ _ hC (Below.refl _ _) rfl)
              · intro y w1 K Q Cv hC hd hV
                have f := hfac.out w1 hC
                have a0 := f.1
                have a1 := f.2.1
                have a2 := f.2.2.1
                have a3 := f.2.2.2.1
                have a4 := f.2.2.2.2.1
                have a5 := f.2.2.2.2.2.1
                have a6 := f.2.2.2.2.2.2.1
                have a7 := f.2.2.2.2.2.2.2
                clear f
                simp [deps, VL, IsV, Region.binds] at hd
                simp only [putAll, Act.put]
                go_simp
                intro hK; exact hK _ _ (hV _ _ hC (Below.refl _ _) rfl)
              · intro y w1 K Q Cv hC hd hV
                have f := hfac.out w1 hC
                have a0 := f.1
                have a1 := f.2.1
                have a2 := f.2.2.1
                have a3 := f.2.2.2.1
                have a4 := f.2.2.2.2.1
                have a5 := f.2.2.2.2.2.1
                have a6 := f.2.2.2.2.2.2.1
                have a7 := f.2.2.2.2.2.2.2
                clear f
                simp [deps, VL, IsV, Region.binds] at hd
                simp only [putAll, Act.put]
                go_simp
                intro hK; exact hK _ _ (hV _ _ hC (Below.refl _ _) rfl)
              · intro y w1 K Q Cv hC hd hV
                have f := hfac.out w1 hC
                have a0 := f.1
                have a1 := f.2.1
                have a2 := f.2.2.1
                have a3 := f.2.2.2.1
                have a4 := f.2.2.2.2.1
                have a5 := f.2.2.2.2.2.1
                have a6 := f.2.2.2.2.2.2.1
                have a7 := f.2.2.2.2.2.2.2
                clear f
                simp [deps, VL, IsV, Region.binds] at hd
                simp only [putAll, Act.put]
                go_simp
                intro hK; exact hK _ _ (hV _ _ hC (Below.refl _ _) rfl)
              · intro y w1 K Q Cv hC hd hV
                have f := hfac.out w1 hC
                have a0 := f.1
                have a1 := f.2.1
                have a2 := f.2.2.1
                have a3 := f.2.2.2.1
                have a4 := f.2.2.2.2.1
                have a5 := f.2.2.2.2.2.1
                have a6 := f.2.2.2.2.2.2.1
                have a7 := f.2.2.2.2.2.2.2
                clear f
                simp [deps, VL, IsV, Region.binds] at hd
                simp only [putAll, Act.put]
                go_simp
                intro hK; exact hK _ _ (hV _ _ hC (Below.refl _ _) rfl)
              · intro y w1 K Q Cv hC hd hV
                have f := hfac.out w1 hC
                have a0 := f.1
                have a1 := f.2.1
                have a2 := f.2.2.1
                have a3 := f.2.2.2.1
                have a4 := f.2.2.2.2.1
                have a5 := f.2.2.2.2.2.1
                have a6 := f.2.2.2.2.2.2.1
                have a7 := f.2.2.2.2.2.2.2
                clear f
                simp [deps, VL, IsV, Region.binds] at hd
                simp only [putAll, Act.put]
                go_simp
                intro hK; exact hK _ _ (hV _ _ hC (Below.refl _ _) rfl)
              · intro y w1 K Q Cv hC hd hV
                have f := hfac.out w1 hC
                have a0 := f.1
                have a1 := f.2.1
                have a2 := f.2.2.1
                have a3 := f.2.2.2.1
                have a4 := f.2.2.2.2.1
                have a5 := f.2.2.2.2.2.1
                have a6 := f.2.2.2.2.2.2.1
                have a7 := f.2.2.2.2.2.2.2
                clear f
                simp [deps, VL, IsV, Region.binds] at hd
                simp only [putAll, Act.put]
                go_simp
                intro hK; exact hK _ _ (hV _ _ hC (Below.refl _ _) rfl)
              · intro y w1 K Q Cv hC hd hV
                have f := hfac.out w1 hC
                have a0 := f.1
                have a1 := f.2.1
                have a2 := f.2.2.1
                have a3 := f.2.2.2.1
                have a4 := f.2.2.2.2.1
                have a5 := f.2.2.2.2.2.1
                have a6 := f.2.2.2.2.2.2.1
                have a7 := f.2.2.2.2.2.2.2
                clear f
                simp [deps, VL, IsV, Region.binds] at hd
                simp only [putAll, Act.put]
                go_simp
                intro hK; exact hK _ _ (hV _ _ hC (Below.refl _ _) rfl)
              · intro y w1 K Q Cv hC hd hV
                have f := hfac.out w1 hC
                have a0 := f.1
                have a1 := f.2.1
                have a2 := f.2.2.1
                have a3 := f.2.2.2.1
                have a4 := f.2.2.2.2.1
                have a5 := f.2.2.2.2.2.1
                have a6 := f.2.2.2.2.2.2.1
                have a7 := f.2.2.2.2.2.2.2
                clear f
                simp [deps, VL, IsV, Region.binds] at hd
                simp only [putAll, Act.put]
                go_simp
                intro hK; exact hK _ _ (hV _ _ hC (Below.refl _ _) rfl)
              · intro y w1 K Q Cv hC hd hV
                have f := hfac.out w1 hC
                have a0 := f.1
                have a1 := f.2.1
                have a2 := f.2.2.1
                have a3 := f.2.2.2.1
                have a4 := f.2.2.2.2.1
                have a5 := f.2.2.2.2.2.1
                have a6 := f.2.2.2.2.2.2.1
                have a7 := f.2.2.2.2.2.2.2
                clear f
                simp [deps, VL, IsV, Region.binds] at hd
                simp only [putAll, Act.put]
                go_simp
                intro hK; exact hK _ _ (hV _ _ hC (Below.refl _ _) rfl)
              · intro y w1 K Q Cv hC hd hV
                have f := hfac.out w1 hC
                have a0 := f.1
                have a1 := f.2.1
                have a2 := f.2.2.1
                have a3 := f.2.2.2.1
                have a4 := f.2.2.2.2.1
                have a5 := f.2.2.2.2.2.1
                have a6 := f.2.2.2.2.2.2.1
                have a7 := f.2.2.2.2.2.2.2
                clear f
                simp [deps, VL, IsV, Region.binds] at hd
                simp only [putAll, Act.put]
                go_simp
                intro hK; exact hK _ _ (hV _ _ hC (Below.refl _ _) rfl)
              · intro y w1 K Q Cv hC hd hV
                have f := hfac.out w1 hC
                have a0 := f.1
                have a1 := f.2.1
                have a2 := f.2.2.1
                have a3 := f.2.2.2.1
                have a4 := f.2.2.2.2.1
                have a5 := f.2.2.2.2.2.1
                have a6 := f.2.2.2.2.2.2.1
                have a7 := f.2.2.2.2.2.2.2
                clear f
                simp [deps, VL, IsV, Region.binds] at hd
                simp only [putAll, Act.put]
                go_simp
                intro hK; exact hK _ _ (hV _ _ hC (Below.refl _ _) rfl)
              · intro y w1 K Q Cv hC hd hV
                have f := hfac.out w1 hC
                have a0 := f.1
                have a1 := f.2.1
                have a2 := f.2.2.1
                have a3 := f.2.2.2.1
                have a4 := f.2.2.2.2.1
                have a5 := f.2.2.2.2.2.1
                have a6 := f.2.2.2.2.2.2.1
                have a7 := f.2.2.2.2.2.2.2
                clear f
                simp [deps, VL, IsV, Region.binds] at hd
                simp only [putAll, Act.put]
                go_simp
                intro hK; exact hK _ _ (hV _ _ hC (Below.refl _ _) rfl)
              · intro y w1 K Q Cv hC hd hV
                have f := hfac.out w1 hC
                have a0 := f.1
                have a1 := f.2.1
                have a2 := f.2.2.1
                have a3 := f.2.2.2.1
                have a4 := f.2.2.2.2.1
                have a5 := f.2.2.2.2.2.1
                have a6 := f.2.2.2.2.2.2.1
                have a7 := f.2.2.2.2.2.2.2
                clear f
                simp [deps, VL, IsV, Region.binds] at hd
                simp only [putAll, Act.put]
                go_simp
                intro hK; exact hK _ _ (hV _ _ hC (Below.refl _ _) rfl)
            intro y V1 hC hd
            simp [EndsL, IsV] at hd
            obtain ⟨d0, d1, d2, d3, d4, d5, d6, d7, d8, d9, d10, d11, d12, d13, d14, d15, d16, d17, d18, d19, d20, d21, d22, d23, d24, d25, d26, d27⟩ := hd
            simp only [putAll, Act.put]
            rw [d0, d1, d2, d3, d4, d5, d6, d7, d8, d9, d10, d11, d12, d13, d14, d15, d16, d17, d18, d19, d20, d21, d22, d23, d24, d25, d26, d27]
            clear d0 d1 d2 d3 d4 d5 d6 d7 d8 d9 d10 d11 d12 d13 d14 d15 d16 d17 d18 d19 d20 d21 d22 d23 d24 d25 d26 d27 hfac hday hhas
            simp only [List.setIfInBounds_toArray, List.set_cons_succ, List.set_cons_zero]
            have hn0 := hide (show stp S e0 (mvs S e0 b1 pre) (x1, ⟨xl, (jx : Int), xs, xh, 0⟩) = mvs S e0 b1 pre from if_neg (by rw [← he0]; simp only; intro hh; exact of_decide_eq_false hc2h.out hh.2.1))
            have hko := hide ((KeepsOthers.of_grownBy (row := none) ⟨hC.os, hC.tape, hC.output, hC.size, fun k hk _ => hC.block k hk⟩ (by simp)).from w5.heap.size)
            have hI1 := hide (show RawB V1 Y p L (some ⟨bc, oc, none⟩) T cl cc ct S (.slice A b.les.length cap) vk vs va mb vp (mvs S e0 b1 (pre ++ [(x1, ⟨xl, (jx : Int), xs, xh, 0⟩)])) ev ∧ KeptX Y w5 V1 from ⟨by rw [mvs_snoc, hn0.out]; exact Raw.below hIr.out hC, hIk.out.trans (KeptX.of_below hC hIr.out.old)⟩)
            clear hC
            gi_wp2
            exact ⟨hko.out, trivial, hI1.out⟩
          | true =>
            have hc12 := hide (And.intro hc1 hc2)
            refine region_grow_rd [IsV (.pointer (some ⟨V0.heap.size, 2, none⟩)), IsV (.int .i64 xs), IsV (.int .i64 (xs / 24)), IsV (.pointer (some ⟨w.heap.size + 1, 7, none⟩)), IsV (.int .i64 xday), IsV (.bool true), IsV (.bool true), IsV (.pointer (some ⟨V0.heap.size, 2, none⟩)), IsV (.int .i64 xs), IsV (.pointer (some ⟨w.heap.size + 1, 1, none⟩)), IsV (.int .i64 xat), IsV (.bool true), IsV (.bool true), IsV (.bool true), IsV (.pointer (some ⟨p, 0, none⟩)), IsV (.pointer (some ⟨p, 0, none⟩)), IsV (.pointer (some ⟨p, 0, none⟩)), IsV (.pointer (some ⟨p, 1, none⟩)), IsV (.slice (some ⟨bc, oc, none⟩) S.cars.length cc), IsV (.pointer (some ⟨V0.heap.size, 1, none⟩)), IsV (.int .i64 (jx : Int)), IsV (.pointer (some ⟨bc, oc + jx * 4, none⟩)), IsV (.pointer (some ⟨bc, oc + jx * 4 + 3, none⟩)), IsV (.int .i64 (nv : Int)), IsV (.pointer (some ⟨w.heap.size + 1, 8, none⟩)), IsV (.int .i64 (iw : Int)), IsV (.bool q3), IsV (.bool q3)] (by kernel_rfl) (by kernel_rfl) (by kernel_rfl) rfl ?_ ?_ ?_
            · simp [AllStb, IsV.stb]
            · refine ⟨?_, ?_, ?_, ?_, ?_, ?_, ?_, ?_, ?_, ?_, ?_, ?_, ?_, ?_, ?_, ?_, ?_, ?_, ?_, ?_, ?_, ?_, ?_, ?_, ?_, ?_, ?_, ?_, trivial⟩
              · intro y w1 K Q Cv hC hd hV
                have f := hfac.out w1 hC
                have a0 := f.1
                have a1 := f.2.1
                have a2 := f.2.2.1
                have a3 := f.2.2.2.1
                have a4 := f.2.2.2.2.1
                have a5 := f.2.2.2.2.2.1
                have a6 := f.2.2.2.2.2.2.1
                have a7 := f.2.2.2.2.2.2.2
                clear f
                clear hd
                simp only [putAll, Act.put]
                go_simp
                intro hK; exact hK _ _ (hV _ _ hC (Below.refl _ _) rfl)
              · intro y w1 K Q Cv hC hd hV
                have f := hfac.out w1 hC
                have a0 := f.1
                have a1 := f.2.1
                have a2 := f.2.2.1
                have a3 := f.2.2.2.1
                have a4 := f.2.2.2.2.1
                have a5 := f.2.2.2.2.2.1
                have a6 := f.2.2.2.2.2.2.1
                have a7 := f.2.2.2.2.2.2.2
                clear f
                simp [deps, VL, IsV, Region.binds] at hd
                simp only [putAll, Act.put]
                go_simp
                intro hK; exact hK _ _ (hV _ _ hC (Below.refl _ _) rfl)
              · intro y w1 K Q Cv hC hd hV
                have f := hfac.out w1 hC
                have a0 := f.1
                have a1 := f.2.1
                have a2 := f.2.2.1
                have a3 := f.2.2.2.1
                have a4 := f.2.2.2.2.1
                have a5 := f.2.2.2.2.2.1
                have a6 := f.2.2.2.2.2.2.1
                have a7 := f.2.2.2.2.2.2.2
                clear f
                simp [deps, VL, IsV, Region.binds] at hd
                simp only [putAll, Act.put]
                go_simp
                intro hK; refine (hday.out _).mono ?_; rintro e w7 ⟨rfl, rfl⟩; exact hK _ _ (hV _ _ hC (Below.refl _ _) rfl)
              · intro y w1 K Q Cv hC hd hV
                have f := hfac.out w1 hC
                have a0 := f.1
                have a1 := f.2.1
                have a2 := f.2.2.1
                have a3 := f.2.2.2.1
                have a4 := f.2.2.2.2.1
                have a5 := f.2.2.2.2.2.1
                have a6 := f.2.2.2.2.2.2.1
                have a7 := f.2.2.2.2.2.2.2
                clear f
                clear hd
                simp only [putAll, Act.put]
                go_simp
                intro hK; exact hK _ _ (hV _ _ hC (Below.refl _ _) rfl)
              · intro y w1 K Q Cv hC hd hV
                have f := hfac.out w1 hC
                have a0 := f.1
                have a1 := f.2.1
                have a2 := f.2.2.1
                have a3 := f.2.2.2.1
                have a4 := f.2.2.2.2.1
                have a5 := f.2.2.2.2.2.1
                have a6 := f.2.2.2.2.2.2.1
                have a7 := f.2.2.2.2.2.2.2
                clear f
                simp [deps, VL, IsV, Region.binds] at hd
                simp only [putAll, Act.put]
                go_simp
                intro hK; exact hK _ _ (hV _ _ hC (Below.refl _ _) rfl)
              · intro y w1 K Q Cv hC hd hV
                have f := hfac.out w1 hC
                have a0 := f.1
                have a1 := f.2.1
                have a2 := f.2.2.1
                have a3 := f.2.2.2.1
                have a4 := f.2.2.2.2.1
                have a5 := f.2.2.2.2.2.1
                have a6 := f.2.2.2.2.2.2.1
                have a7 := f.2.2.2.2.2.2.2
                clear f
                simp [deps, VL, IsV, Region.binds] at hd
                simp only [putAll, Act.put]
                go_simp
                intro hK; exact hK _ _ (hV _ _ hC (Below.refl _ _) rfl)
              · intro y w1 K Q Cv hC hd hV
                have f := hfac.out w1 hC
                have a0 := f.1
                have a1 := f.2.1
                have a2 := f.2.2.1
                have a3 := f.2.2.2.1
                have a4 := f.2.2.2.2.1
                have a5 := f.2.2.2.2.2.1
                have a6 := f.2.2.2.2.2.2.1
                have a7 := f.2.2.2.2.2.2.2
                clear f
                simp [deps, VL, IsV, Region.binds] at hd
                simp only [putAll, Act.put]
                go_simp
                intro hK; exact hK _ _ (hV _ _ hC (Below.refl _ _) rfl)
              · intro y w1 K Q Cv hC hd hV
                have f := hfac.out w1 hC
                have a0 := f.1
                have a1 := f.2.1
                have a2 := f.2.2.1
                have a3 := f.2.2.2.1
                have a4 := f.2.2.2.2.1
                have a5 := f.2.2.2.2.2.1
                have a6 := f.2.2.2.2.2.2.1
                have a7 := f.2.2.2.2.2.2.2
                clear f
                simp [deps, VL, IsV, Region.binds] at hd
                simp only [putAll, Act.put]
                go_simp
                intro hK; exact hK _ _ (hV _ _ hC (Below.refl _ _) rfl)
              · intro y w1 K Q Cv hC hd hV
                have f := hfac.out w1 hC
                have a0 := f.1
                have a1 := f.2.1
                have a2 := f.2.2.1
                have a3 := f.2.2.2.1
                have a4 := f.2.2.2.2.1
                have a5 := f.2.2.2.2.2.1
                have a6 := f.2.2.2.2.2.2.1
                have a7 := f.2.2.2.2.2.2.2
                clear f
                simp [deps, VL, IsV, Region.binds] at hd
                simp only [putAll, Act.put]
                go_simp
                intro hK; exact hK _ _ (hV _ _ hC (Below.refl _ _) rfl)
              · intro y w1 K Q Cv hC hd hV
                have f := hfac.out w1 hC
                have a0 := f.1
                have a1 := f.2.1
                have a2 := f.2.2.1
                have a3 := f.2.2.2.1
                have a4 := f.2.2.2.2.1
                have a5 := f.2.2.2.2.2.1
                have a6 := f.2.2.2.2.2.2.1
                have a7 := f.2.2.2.2.2.2.2
                clear f
                simp [deps, VL, IsV, Region.binds] at hd
                simp only [putAll, Act.put]
                go_simp
                intro hK; exact hK _ _ (hV _ _ hC (Below.refl _ _) rfl)
              · intro y w1 K Q Cv hC hd hV
                have f := hfac.out w1 hC
                have a0 := f.1
                have a1 := f.2.1
                have a2 := f.2.2.1
                have a3 := f.2.2.2.1
                have a4 := f.2.2.2.2.1
                have a5 := f.2.2.2.2.2.1
                have a6 := f.2.2.2.2.2.2.1
                have a7 := f.2.2.2.2.2.2.2
                clear f
                simp [deps, VL, IsV, Region.binds] at hd
                simp only [putAll, Act.put]
                go_simp
                intro hK; exact hK _ _ (hV _ _ hC (Below.refl _ _) rfl)
              · intro y w1 K Q Cv hC hd hV
                have f := hfac.out w1 hC
                have a0 := f.1
                have a1 := f.2.1
                have a2 := f.2.2.1
                have a3 := f.2.2.2.1
                have a4 := f.2.2.2.2.1
                have a5 := f.2.2.2.2.2.1
                have a6 := f.2.2.2.2.2.2.1
                have a7 := f.2.2.2.2.2.2.2
                clear f
                simp [deps, VL, IsV, Region.binds] at hd
                simp only [putAll, Act.put]
                go_simp
                intro hK; exact hK _ _ (hV _ _ hC (Below.refl _ _) rfl)
              · intro y w1 K Q Cv hC hd hV
                have f := hfac.out w1 hC
                have a0 := f.1
                have a1 := f.2.1
                have a2 := f.2.2.1
                have a3 := f.2.2.2.1
                have a4 := f.2.2.2.2.1
                have a5 := f.2.2.2.2.2.1
                have a6 := f.2.2.2.2.2.2.1
                have a7 := f.2.2.2.2.2.2.2
                clear f
                simp [deps, VL, IsV, Region.binds] at hd
                simp only [putAll, Act.put]
                go_simp
                intro hK; exact hK _ _ (hV _ _ hC (Below.refl _ _) rfl)
              · intro y w1 K Q Cv hC hd hV
                have f := hfac.out w1 hC
                have a0 := f.1
                have a1 := f.2.1
                have a2 := f.2.2.1
                have a3 := f.2.2.2.1
                have a4 := f.2.2.2.2.1
                have a5 := f.2.2.2.2.2.1
                have a6 := f.2.2.2.2.2.2.1
                have a7 := f.2.2.2.2.2.2.2
                clear f
                simp [deps, VL, IsV, Region.binds] at hd
                simp only [putAll, Act.put]
                go_simp
                intro hK; exact hK _ _ (hV _ _ hC (Below.refl _ _) rfl)
              · intro y w1 K Q Cv hC hd hV
                have f := hfac.out w1 hC
                have a0 := f.1
                have a1 := f.2.1
                have a2 := f.2.2.1
                have a3 := f.2.2.2.1
                have a4 := f.2.2.2.2.1
                have a5 := f.2.2.2.2.2.1
                have a6 := f.2.2.2.2.2.2.1
                have a7 := f.2.2.2.2.2.2.2
                clear f
                simp [deps, VL, IsV, Region.binds] at hd
                simp only [putAll, Act.put]
                go_simp
                intro hK; exact hK _ _ (hV _ _ hC (Below.refl _ _) rfl)
              · intro y w1 K Q Cv hC hd hV
                have f := hfac.out w1 hC
                have a0 := f.1
                have a1 := f.2.1
                have a2 := f.2.2.1
                have a3 := f.2.2.2.1
                have a4 := f.2.2.2.2.1
                have a5 := f.2.2.2.2.2.1
                have a6 := f.2.2.2.2.2.2.1
                have a7 := f.2.2.2.2.2.2.2
                clear f
                simp [deps, VL, IsV, Region.binds] at hd
                simp only [putAll, Act.put]
                go_simp
                intro hK; exact hK _ _ (hV _ _ hC (Below.refl _ _) rfl)
              · intro y w1 K Q Cv hC hd hV
                have f := hfac.out w1 hC
                have a0 := f.1
                have a1 := f.2.1
                have a2 := f.2.2.1
                have a3 := f.2.2.2.1
                have a4 := f.2.2.2.2.1
                have a5 := f.2.2.2.2.2.1
                have a6 := f.2.2.2.2.2.2.1
                have a7 := f.2.2.2.2.2.2.2
                clear f
                simp [deps, VL, IsV, Region.binds] at hd
                simp only [putAll, Act.put]
                go_simp
                intro hK; exact hK _ _ (hV _ _ hC (Below.refl _ _) rfl)
              · intro y w1 K Q Cv hC hd hV
                have f := hfac.out w1 hC
                have a0 := f.1
                have a1 := f.2.1
                have a2 := f.2.2.1
                have a3 := f.2.2.2.1
                have a4 := f.2.2.2.2.1
                have a5 := f.2.2.2.2.2.1
                have a6 := f.2.2.2.2.2.2.1
                have a7 := f.2.2.2.2.2.2.2
                clear f
                simp [deps, VL, IsV, Region.binds] at hd
                simp only [putAll, Act.put]
                go_simp
                intro hK; exact hK _ _ (hV _ _ hC (Below.refl _ _) rfl)
              · intro y w1 K Q Cv hC hd hV
                have f := hfac.out w1 hC
                have a0 := f.1
                have a1 := f.2.1
                have a2 := f.2.2.1
                have a3 := f.2.2.2.1
                have a4 := f.2.2.2.2.1
                have a5 := f.2.2.2.2.2.1
                have a6 := f.2.2.2.2.2.2.1
                have a7 := f.2.2.2.2.2.2.2
                clear f
                simp [deps, VL, IsV, Region.binds] at hd
                simp only [putAll, Act.put]
                go_simp
                intro hK; exact hK _ _ (hV _ _ hC (Below.refl _ _) rfl)
              · intro y w1 K Q Cv hC hd hV
                have f := hfac.out w1 hC
                have a0 := f.1
                have a1 := f.2.1
                have a2 := f.2.2.1
                have a3 := f.2.2.2.1
                have a4 := f.2.2.2.2.1
                have a5 := f.2.2.2.2.2.1
                have a6 := f.2.2.2.2.2.2.1
                have a7 := f.2.2.2.2.2.2.2
                clear f
                simp [deps, VL, IsV, Region.binds] at hd
                simp only [putAll, Act.put]
                go_simp
                intro hK; exact hK _ _ (hV _ _ hC (Below.refl _ _) rfl)
              · intro y w1 K Q Cv hC hd hV
                have f := hfac.out w1 hC
                have a0 := f.1
                have a1 := f.2.1
                have a2 := f.2.2.1
                have a3 := f.2.2.2.1
                have a4 := f.2.2.2.2.1
                have a5 := f.2.2.2.2.2.1
                have a6 := f.2.2.2.2.2.2.1
                have a7 := f.2.2.2.2.2.2.2
                clear f
                simp [deps, VL, IsV, Region.binds] at hd
                simp only [putAll, Act.put]
                go_simp
                intro hK; exact hK _ _ (hV _ _ hC (Below.refl _ _) rfl)
              · intro y w1 K Q Cv hC hd hV
                have f := hfac.out w1 hC
                have a0 := f.1
                have a1 := f.2.1
                have a2 := f.2.2.1
                have a3 := f.2.2.2.1
                have a4 := f.2.2.2.2.1
                have a5 := f.2.2.2.2.2.1
                have a6 := f.2.2.2.2.2.2.1
                have a7 := f.2.2.2.2.2.2.2
                clear f
                simp [deps, VL, IsV, Region.binds] at hd
                simp only [putAll, Act.put]
                go_simp
                intro hK; exact hK _ _ (hV _ _ hC (Below.refl _ _) rfl)
              · intro y w1 K Q Cv hC hd hV
                have f := hfac.out w1 hC
                have a0 := f.1
                have a1 := f.2.1
                have a2 := f.2.2.1
                have a3 := f.2.2.2.1
                have a4 := f.2.2.2.2.1
                have a5 := f.2.2.2.2.2.1
                have a6 := f.2.2.2.2.2.2.1
                have a7 := f.2.2.2.2.2.2.2
                clear f
                simp [deps, VL, IsV, Region.binds] at hd
                simp only [putAll, Act.put]
                go_simp
                intro hK; exact hK _ _ (hV _ _ hC (Below.refl _ _) rfl)
              · intro y w1 K Q Cv hC hd hV
                have f := hfac.out w1 hC
                have a0 := f.1
                have a1 := f.2.1
                have a2 := f.2.2.1
                have a3 := f.2.2.2.1
                have a4 := f.2.2.2.2.1
                have a5 := f.2.2.2.2.2.1
                have a6 := f.2.2.2.2.2.2.1
                have a7 := f.2.2.2.2.2.2.2
                clear f
                simp [deps, VL, IsV, Region.binds] at hd
                simp only [putAll, Act.put]
                go_simp
                intro hK; exact hK _ _ (hV _ _ hC (Below.refl _ _) rfl)
              · intro y w1 K Q Cv hC hd hV
                have f := hfac.out w1 hC
                have a0 := f.1
                have a1 := f.2.1
                have a2 := f.2.2.1
                have a3 := f.2.2.2.1
                have a4 := f.2.2.2.2.1
                have a5 := f.2.2.2.2.2.1
                have a6 := f.2.2.2.2.2.2.1
                have a7 := f.2.2.2.2.2.2.2
                clear f
                simp [deps, VL, IsV, Region.binds] at hd
                simp only [putAll, Act.put]
                go_simp
                intro hK; exact hK _ _ (hV _ _ hC (Below.refl _ _) rfl)
              · intro y w1 K Q Cv hC hd hV
                have f := hfac.out w1 hC
                have a0 := f.1
                have a1 := f.2.1
                have a2 := f.2.2.1
                have a3 := f.2.2.2.1
                have a4 := f.2.2.2.2.1
                have a5 := f.2.2.2.2.2.1
                have a6 := f.2.2.2.2.2.2.1
                have a7 := f.2.2.2.2.2.2.2
                clear f
                simp [deps, VL, IsV, Region.binds] at hd
                simp only [putAll, Act.put]
                go_simp
                intro hK; exact hK _ _ (hV _ _ hC (Below.refl _ _) rfl)
              · intro y w1 K Q Cv hC hd hV
                have f := hfac.out w1 hC
                have a0 := f.1
                have a1 := f.2.1
                have a2 := f.2.2.1
                have a3 := f.2.2.2.1
                have a4 := f.2.2.2.2.1
                have a5 := f.2.2.2.2.2.1
                have a6 := f.2.2.2.2.2.2.1
                have a7 := f.2.2.2.2.2.2.2
                clear f
                simp [deps, VL, IsV, Region.binds] at hd
                simp only [putAll, Act.put]
                go_simp
                intro hK; refine (hhas.out _).mono ?_; rintro e w7 ⟨rfl, rfl⟩; exact hK _ _ (hV _ _ hC (Below.refl _ _) rfl)
              · intro y w1 K Q Cv hC hd hV
                have f := hfac.out w1 hC
                have a0 := f.1
                have a1 := f.2.1
                have a2 := f.2.2.1
                have a3 := f.2.2.2.1
                have a4 := f.2.2.2.2.1
                have a5 := f.2.2.2.2.2.1
                have a6 := f.2.2.2.2.2.2.1
                have a7 := f.2.2.2.2.2.2.2
                clear f
                simp [deps, VL, IsV, Region.binds] at hd
                simp only [putAll, Act.put]
                go_simp
                intro hK; exact hK _ _ (hV _ _ hC (Below.refl _ _) rfl)
            intro y V1 hC hd
            simp [EndsL, IsV] at hd
            obtain ⟨d0, d1, d2, d3, d4, d5, d6, d7, d8, d9, d10, d11, d12, d13, d14, d15, d16, d17, d18, d19, d20, d21, d22, d23, d24, d25, d26, d27⟩ := hd
            simp only [putAll, Act.put]
            rw [d0, d1, d2, d3, d4, d5, d6, d7, d8, d9, d10, d11, d12, d13, d14, d15, d16, d17, d18, d19, d20, d21, d22, d23, d24, d25, d26, d27]
            clear d0 d1 d2 d3 d4 d5 d6 d7 d8 d9 d10 d11 d12 d13 d14 d15 d16 d17 d18 d19 d20 d21 d22 d23 d24 d25 d26 d27 hfac hday hhas
            simp only [List.setIfInBounds_toArray, List.set_cons_succ, List.set_cons_zero]
            cases q3 with
            | false =>
              have hn0 := hide (show stp S e0 (mvs S e0 b1 pre) (x1, ⟨xl, (jx : Int), xs, xh, 0⟩) = mvs S e0 b1 pre from if_neg (by rw [← he0]; simp only; rintro ⟨_, _, hh⟩; rw [hiw.out, Int.toNat_natCast, hnv.out, hq3.out] at hh; cases hh))
              have hko := hide ((KeepsOthers.of_grownBy (row := none) ⟨hC.os, hC.tape, hC.output, hC.size, fun k hk _ => hC.block k hk⟩ (by simp)).from w5.heap.size)
              have hI1 := hide (show RawB V1 Y p L (some ⟨bc, oc, none⟩) T cl cc ct S (.slice A b.les.length cap) vk vs va mb vp (mvs S e0 b1 (pre ++ [(x1, ⟨xl, (jx : Int), xs, xh, 0⟩)])) ev ∧ KeptX Y w5 V1 from ⟨by rw [mvs_snoc, hn0.out]; exact Raw.below hIr.out hC, hIk.out.trans (KeptX.of_below hC hIr.out.old)⟩)
              clear hC
              gi_wp2
              exact ⟨hko.out, trivial, hI1.out⟩
            | true =>
              have hn1 := hide (show stp S e0 (mvs S e0 b1 pre) (x1, ⟨xl, (jx : Int), xs, xh, 0⟩) = moveB S (mvs S e0 b1 pre) x1 from if_pos (by
                rw [← he0]
                simp only
                refine ⟨by simpa using hc12.out.1, by simpa using hc12.out.2, ?_⟩
                rw [hiw.out, Int.toNat_natCast, hnv.out]
                exact hq3.out))
              have hkp := kpv2.out V1 hC
              have hrV := Raw.below hIr.out hC
              have hmv := hide (move_any hrV hS.out (mvs_gd _ hgd1.out) (i := x1) (by rw [mvs_len, hb1l.out]; exact hj.out))
              have hrV2 := hide hrV
              have hkC := hide (KeptX.of_below hC hIr.out.old)
              have hko := hide ((KeepsOthers.of_grownBy (row := none) ⟨hC.os, hC.tape, hC.output, hC.size, fun k hk _ => hC.block k hk⟩ (by simp)).from w5.heap.size)
              clear hC hrV
              gi_wp2
              refine ⟨trivial, ?_⟩
              refine (CallsIn.inRound l (callsIn_wide.2 hmv.out)).mono ?_
              clear hmv
              rintro e V2 ⟨rfl, hr2, hg2⟩
              have hko2 := hide ((KeepsOthers.of_grownBy hg2 (fun k o h1 h2 => by
                obtain ⟨cur, hcur⟩ := hrV2.out.les.typed h1
                unfold Blk at hcur
                rw [hcur] at h2
                cases h2; rfl)).from w5.heap.size)
              have hkk := hide (KeptX.grown hg2 hrV2.out.old (fun g hg => hrV2.out.les.not g hg))
              replace hr2 := hide hr2
              clear hg2 hkp
              gi_wp2
              exact ⟨hko.out.trans hko2.out, trivial, by rw [mvs_snoc, hn1.out]; exact hr2.out, hIk.out.trans (hkC.out.trans hkk.out)⟩
      case done =>
        rintro xs V rfl ⟨hr, hkV⟩ hD
        simp only [Exit.inBlock]
        go_wp2
        refine ⟨by simp, .inl ⟨_, _, rfl, run_takeDeferred hD, ?_⟩⟩
        have hz := hkV.size
        have hbp := below_putObj (B := w5.heap.size) V (l := w5.heap.size) (.deferred none) hz (Nat.le_refl _)
        refine wth_end _ _ _ ?_
        have hka := (hk5.out.trans (hkV.mono hXY)).trans (show KeptX X V _ from ⟨hbp.os, hbp.tape, hbp.output, hbp.size, fun g hg => hbp.block g (hYB g (hXY g hg))⟩)
        have hq' := hq
        rw [hb1e, he0] at hq'
        rw [← hq']
        have ha := hall.out
        rw [hb1l.out] at ha
        have hr9 : RawB (V.putObj w5.heap.size (.deferred none)) X p L (some ⟨bc, oc, none⟩) T cl cc ct S (.slice A b.les.length cap) vk vs va mb vp (movesB S e0 b.les.length 0 b1) ev := by
          rw [ha]
          exact Raw.less (Raw.stay hr hLt hYB hbp) hXY (h0.out.sch.kept hka)
        exact ⟨.inl ⟨rfl, rfl, _, _, _, _, _, _, hr9⟩, hka⟩
      case stop =>
        rintro c pre V _ hf
        exact hf.elim
end Go.Proofs.Ytkmhldjebopljaa
