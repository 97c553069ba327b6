import Derived.Test.YtkmhldjebopljaaOo
import Derived.Test.YtkmhldjebopljaaOp
import Derived.Test.YtkmhldjebopljaaOq
import Derived.Test.YtkmhldjebopljaaOr
import Derived.Test.YtkmhldjebopljaaOs
import Derived.Defers
import Derived.Recover
/-
  An event is told (made by mkbktell.py).
-/
namespace Go.Proofs.Ytkmhldjebopljaa
open Go.RowKit RG

/-- The functions of the kinds of events. -/
def kf : Nat → Nat
  | 0 => 85
  | 1 => 86
  | 2 => 87
  | 3 => 88
  | 4 => 89
  | 5 => 90
  | _ => 91
theorem kf_enters {k : Nat} (hk : k ≤ 6) : ∀ args w, (callFunc (kf k) args).run Try.prog w = .ok (.enter (kf k) args) w := by
  intro args w
  rcases (show k = 0 ∨ k = 1 ∨ k = 2 ∨ k = 3 ∨ k = 4 ∨ k = 5 ∨ k = 6 by omega) with rfl | rfl | rfl | rfl | rfl | rfl | rfl
  · show (callFunc 85 args).run Try.prog w = _; kernel_rfl
  · show (callFunc 86 args).run Try.prog w = _; kernel_rfl
  · show (callFunc 87 args).run Try.prog w = _; kernel_rfl
  · show (callFunc 88 args).run Try.prog w = _; kernel_rfl
  · show (callFunc 89 args).run Try.prog w = _; kernel_rfl
  · show (callFunc 90 args).run Try.prog w = _; kernel_rfl
  · show (callFunc 91 args).run Try.prog w = _; kernel_rfl
theorem kinds_any {w : World} {X : Nat → Prop} {p : Nat} {L C T : Option Addr} {cl cc ct : Nat} {S : BSch} {vl vk vs va : Value} {mb : Nat} {vp : Value} {b : Bks} {ev : Int} (h : RawB w X p L C T cl cc ct S vl vk vs va mb vp b ev) (hS : SchGd S) (hg : Gd S b) (hw9 : b.wt.length ≤ 60) (x : BEv) {k : Nat} (hk : k ≤ 6) (hx : x.kind = k) (hat : 0 ≤ x.at_ ∧ x.at_ ≤ 4800) :
    Calls Try.prog (kf k) #[.pointer (some ⟨p, 0, none⟩), .agg (evCells x).toArray] w fun e w' => EvR w X p L C T cl cc ct S b ev (kindB S b ev x) e w' := by
  unfold kindB
  rcases (show k = 0 ∨ k = 1 ∨ k = 2 ∨ k = 3 ∨ k = 4 ∨ k = 5 ∨ k = 6 by omega) with rfl | rfl | rfl | rfl | rfl | rfl | rfl <;> rw [hx]
  · exact book_any h hS hg x
  · exact cancel_any h hS hg x hat
  · exact weather_any h hS hg hw9 x
  · exact drive_any h hS hg x
  · exact service_any h hS hg x
  · exact crash_any h hS hg x
  · exact pay_any h hS hg x
theorem ta_yes (x : Int) (w : World) : (Instr.typeAssert (.iface 30 (.int .i64 x)) 20 30 true).run Try.prog w = .ok (.tuple #[.int .i64 x, .bool true]) w := by kernel_rfl
theorem ta_no (w : World) : (Instr.typeAssert .nilIface 20 30 true).run Try.prog w = .ok (.tuple #[.int .i64 0, .bool false]) w := by kernel_rfl
set_option maxRecDepth 100000 in
theorem tell_catch (p : Nat) (x y : Int) (older : List PanicEntry) (w : World) (hc : w.cell? ⟨p, 0, none⟩ = some (.int .i64 y)) (hz : w.frozen? ⟨p, 0, none⟩ = false) :
    CallsD Try.prog 84 #[.pointer (some ⟨p, 0, none⟩)] (.panicking ({ v := .iface 30 (.int .i64 x), recovered := false } :: older)) w fun e u' w' =>
      e = .returned (.tuple #[]) ∧ u' = .panicking ({ v := .iface 30 (.int .i64 x), recovered := true } :: older) ∧ w' = w.setCell ⟨p, 0, none⟩ (.int .i64 x) := by
  refine callsD_of_wpS Try.func84 rfl fun c₀ cs hu => ?_
  apply wpS_seq
  apply wpS_region
  simp [wpOpsS, go_sem, recoverD, hu, Try.ntmps84, Exit.thenS, ta_yes]
  apply wpS_seq
  apply wpS_region
  simp [wpOpsS, go_sem, Exit.thenS]
  refine wpS_cond (t := true) (by simp [Act.eval, Array.replicate]) ?_
  simp only [if_true]
  apply wpS_region
  simp [wpOpsS, go_sem, hc, hz, bodyPostS, results, Try.results84]
set_option maxRecDepth 100000 in
theorem tell_idle (p : Nat) (w : World) :
    CallsD Try.prog 84 #[.pointer (some ⟨p, 0, none⟩)] .returning w fun e u' w' => e = .returned (.tuple #[]) ∧ u' = .returning ∧ w' = w := by
  refine callsD_of_wpS Try.func84 rfl fun c₀ cs hu => ?_
  apply wpS_seq
  apply wpS_region
  simp [wpOpsS, go_sem, recoverD, hu, Try.ntmps84, Exit.thenS, ta_no]
  apply wpS_seq
  apply wpS_region
  simp [wpOpsS, go_sem, Exit.thenS]
  refine wpS_cond (t := false) (by simp [Act.eval, Array.replicate]) ?_
  simp only [Bool.false_eq_true, if_false]
  refine wpS_of_wp (wp_skip ?_)
  cases c₀
  simp_all [bodyPostS, results, Try.results84]
theorem tell_end (tm : Array Value) (u : FrameMode) (wf : World) (R : Ending → World → Prop) (p : Nat) (v : Int) (hs : settle u = .returning) (h4 : tm[4]? = some (.pointer (some ⟨p, 0, none⟩))) (hc4 : wf.cell? ⟨p, 0, none⟩ = some (.int .i64 v)) (hR : R (.returned (.int .i64 v)) wf) : Leaves Try.prog Try.f71 tm R [] (settle u) wf := by
  have a2 := Try.isAgg30
  rw [hs]
  simp [Leaves, results, Try.results71, go_sem, h4, hc4, hR]
end Go.Proofs.Ytkmhldjebopljaa

/-
  An event is told: the method (made by mkbktell.py).
-/
namespace Go.Proofs.Ytkmhldjebopljaa
open Go.RowKit RG

section
variable {w w' : World} {X Y : Nat → Prop} {p : Nat} {L C T : Option Addr} {cl cc ct : Nat} {S : BSch} {vl vk vs va : Value} {mb : Nat} {vp : Value} {les km since acc pst : List (List Value)} {wt : List (Int × Int)} {tm ev : Int}
/-- A cell is written in a block that is none of the books'. -/
theorem Raw.farY (h : Raw w Y p L C T cl cc ct S vl vk vs va mb vp les km since acc pst wt tm ev) (hXY : ∀ g, X g → Y g) (hs : SchX X w L C T cl cc ct S) {g : Nat} (hY : Y g) (hX : ¬ X g) (o : Nat) (u : Value) : Raw (w.setCell ⟨g, o, none⟩ u) X p L C T cl cc ct S vl vk vs va mb vp les km since acc pst wt tm ev := by
  have h1 := h.less hXY hs
  have hk : KeptX X w (w.setCell ⟨g, o, none⟩ u) := KeptX.setCell w (p := ⟨g, o, none⟩) hX u
  exact ⟨h1.old.kept hk, h1.sch.kept hk, h1.px, h1.mx, h1.blk.far (p := ⟨g, o, none⟩) (fun e => h.px (e ▸ hY)) u, h1.les.far (p := ⟨g, o, none⟩) (fun e => h.les.not _ e hY) u, h1.km.far (p := ⟨g, o, none⟩) (fun e => h.km.not _ e hY) u, h1.since.far (p := ⟨g, o, none⟩) (fun e => h.since.not _ e hY) u, h1.acc.far (p := ⟨g, o, none⟩) (fun e => h.acc.not _ e hY) u,
    h1.map.blk (Below.heap_setCell w ⟨g, o, none⟩ u mb (fun e => h.mx (e ▸ hY))), h1.pst.far (p := ⟨g, o, none⟩) (fun e => h.pst.not _ e hY) u, h1.ks, h1.ka, h1.sa⟩
end

set_option maxRecDepth 100000 in
set_option maxHeartbeats 1000000 in
theorem tell_any {w : World} {X : Nat → Prop} {p : Nat} {L C T : Option Addr} {cl cc ct : Nat} {S : BSch} {b : Bks} {ev : Int} (h00 : Books w X p L C T cl cc ct S b ev) (hS : SchGd S) (hg : Gd S b) (hw9 : b.wt.length ≤ 60) (x : BEv) :
    Calls Try.prog 71 #[.pointer (some ⟨p, 0, none⟩), .agg (evCells x).toArray] w fun e w' => e = .returned (.int .i64 (tellB S b ev x).1) ∧ Books w' X p L C T cl cc ct S (tellB S b ev x).2 ev ∧ KeptX X w w' := by
  obtain ⟨vl, vk, vs, va, mb, vp, h0⟩ := h00
  have hmf : ∀ (fn : Fn) (first cap : Array Value) (w : World), (Instr.makeFunc fn first cap).run Try.prog w = .ok (.func fn first cap) w := fun _ _ _ _ => rfl
  obtain ⟨W, hW⟩ : ∃ y, ((w.alloc (.cells (evCells x).toArray 65)).alloc (.cells #[.int .i64 0] 30)).alloc (.cells #[.func (.func 85) #[] #[], .func (.func 86) #[] #[], .func (.func 87) #[] #[], .func (.func 88) #[] #[], .func (.func 89) #[] #[], .func (.func 90) #[] #[], .func (.func 91) #[] #[]] 129) = y := ⟨_, rfl⟩
  have hWz : W.heap.size = w.heap.size + 3 := by rw [← hW]; simp
  have kb := hide (show Blk W w.heap.size 65 (evCells x).toArray by rw [← hW]; exact ((blkNew rfl).alloc _).alloc _)
  have kr := hide (show Blk W (w.heap.size + 1) 30 #[.int .i64 0] by rw [← hW]; exact Blk.alloc (blkNew (by simp)) _)
  have ka := hide (show Blk W (w.heap.size + 1 + 1) 129 #[.func (.func 85) #[] #[], .func (.func 86) #[] #[], .func (.func 87) #[] #[], .func (.func 88) #[] #[], .func (.func 89) #[] #[], .func (.func 90) #[] #[], .func (.func 91) #[] #[]] by rw [← hW]; exact blkNew (by simp))
  have hB := hide (show Below w.heap.size w W by rw [← hW]; exact (((Below.refl w.heap.size w).alloc (Nat.le_refl _) _).alloc (by simp) _).alloc (by simp +arith) _)
  obtain ⟨Y, hY⟩ : ∃ Y : Nat → Prop, (fun k => X k ∨ (w.heap.size ≤ k ∧ k < w.heap.size + 3)) = Y := ⟨_, rfl⟩
  have hXY : ∀ k, X k → Y k := fun k hk => by rw [← hY]; exact .inl hk
  have hYg : ∀ i, i < 3 → Y (w.heap.size + i) := fun i hi => by rw [← hY]; exact .inr (by omega)
  have hrawX := hide (fun V (hb : Below w.heap.size w V) => (show RawB V X p L C T cl cc ct S vl vk vs va mb vp b ev from Raw.below h0 hb))
  have hraw := hide (fun V (hb : Below w.heap.size w V) (hz : w.heap.size + 3 ≤ V.heap.size) => (show RawB V Y p L C T cl cc ct S vl vk vs va mb vp b ev from Raw.more h0 hb hXY (fun k hk => by rw [← hY] at hk; exact hk.imp id (fun e => e.1)) (fun k hk => by
    rw [← hY] at hk
    rcases hk with hk | hk
    · have := h0.old k hk; omega
    · omega)))
  have hold := h0.old
  have hsch := hide h0.sch
  have hk := hide (fun V (hb : Below w.heap.size w V) => KeptX.of_below hb hold)
  have hhour := hide (fun V => isHour_any x.at_ V)
  have htm := hide (fun V (hb : Below w.heap.size w V) => (show V.cell? ⟨p, 13, none⟩ = some (.int .i64 b.time) from (h0.blk.below hb h0.blk.lt).cell 13))
  have hpz := h0.blk.lt
  have hpx := h0.px
  have hkd := hide (fun V (hb : Below w.heap.size w V) (hz : w.heap.size + 3 ≤ V.heap.size) (k : Nat) (hk : k ≤ 6) (hx : x.kind = k) (hat : 0 ≤ x.at_ ∧ x.at_ ≤ 4800) => kinds_any (hraw.out V hb hz) hS hg hw9 x hk hx hat)
  have hst := hide (fun V bb (hbk : Books V Y p L C T cl cc ct S bb ev) => show (∃ u, V.cell? ⟨p, 13, none⟩ = some (.int .i64 u)) ∧ V.frozen? ⟨p, 13, none⟩ = false ∧ ¬ Y p ∧ Books (V.setCell ⟨p, 13, none⟩ (.int .i64 x.at_)) Y p L C T cl cc ct S { bb with time := x.at_ } ev from by
    obtain ⟨vl', vk', vs', va', mb', vp', hr⟩ := hbk
    exact ⟨⟨bb.time, hr.blk.cell 13⟩, hr.blk.frozen 13, hr.px, vl', vk', vs', va', mb', vp', Raw.setTm hr x.at_⟩)
  obtain ⟨q, hq⟩ : ∃ q, tellB S b ev x = q := ⟨_, rfl⟩
  rw [hq]
  unfold tellB at hq
  replace h0 := hide h0
  replace hold := hide hold
  clear hS hg hw9 hY
  obtain ⟨k0, k1, k2, k3, k4, k5, k6, k7, k8, k9, k10⟩ := ev_cells kb.out
  replace hW := hide hW
  replace hq := hide hq
  obtain ⟨xkind, xat, xlearner, xcar, xbooking, xstart, xhours, xday, xweather, xkm, xcents⟩ := x
  unfold evCells at *
  simp only at *
  clear k1 k2 k3 k4 k5 k6 k7 k8 k9 k10
  have hwi := hide (within_one 0 6 xkind W.heap.size 0 1 (W.alloc (.cells #[.int .i64 xkind] 3)) ((Blk.new W _ _).cell 0))
  have hB2 := hide (hB.out.alloc hB.out.size (.cells #[.int .i64 xkind] 3))
  have kb2 := hide (kb.out.alloc (.cells #[.int .i64 xkind] 3))
  have kr2 := hide (kr.out.alloc (.cells #[.int .i64 xkind] 3))
  have ka2 := hide (ka.out.alloc (.cells #[.int .i64 xkind] 3))
  have hz2 := hide (show w.heap.size + 3 ≤ (W.alloc (.cells #[.int .i64 xkind] 3)).heap.size by rw [World.size_alloc]; omega)
  replace hWz := hide hWz
  go_enter_defers Try.func71, Try.ntmps71
  go_upto_region 3 with fail
  rw [hW.out]
  go_wp2_with fail
  refine hwi.out.mono ?_
  rintro e w2 ⟨rfl, hw2⟩
  rw [hw2] at hB2 kb2 kr2 ka2 hz2
  clear hw2 k0 hwi kb kr ka hB
  have hin1 : inI 0 6 xkind = inB 0 6 xkind := rfl
  rw [hin1] at hq
  clear hin1
  -- how a panic ends
  have hnx : ¬ X (w.heap.size + 1) := fun hx => by have := hold.out _ hx; omega
  have hpan := hide (fun (V : World) (y : Int) bb (hBV : KeptX X w V) (hbk : Books V Y p L C T cl cc ct S bb ev) => show Books (V.setCell ⟨w.heap.size + 1, 0, none⟩ (.int .i64 y)) X p L C T cl cc ct S bb ev ∧ KeptX X w (V.setCell ⟨w.heap.size + 1, 0, none⟩ (.int .i64 y)) from by
    obtain ⟨vl', vk', vs', va', mb', vp', hr⟩ := hbk
    exact ⟨⟨vl', vk', vs', va', mb', vp', Raw.farY hr hXY (hsch.out.kept hBV) (hYg 1 (by omega)) hnx 0 _⟩, hBV.trans (KeptX.setCell V (p := ⟨w.heap.size + 1, 0, none⟩) hnx _)⟩)
  cases h1 : inB 0 6 xkind with
  | false =>
    have hq1 := hq.out
    rw [if_pos h1] at hq1
    subst hq1
    go_wp2_with fail
    refine (need_no 2 _).mono ?_
    rintro e w3 ⟨rfl, rfl⟩
    have s1 : w2.cell? ⟨w.heap.size + 1, 0, none⟩ = some (.int .i64 0) := kr2.out.cell 0
    have t1 : w2.frozen? ⟨w.heap.size + 1, 0, none⟩ = false := kr2.out.frozen 0
    have hfin := hide (hpan.out w2 2 b (hk.out w2 hB2.out) ⟨_, _, _, _, _, _, hraw.out w2 hB2.out hz2.out⟩)
    have m1 := hide (kr2.out.set_ 0 (.int .i64 2))
    go_wp2
    refine leaves_cons (f := 84) (args := #[.pointer (some ⟨w.heap.size + 1, 0, none⟩)]) (by simp) (by simp [go_sem]) ?_
    refine (tell_catch (w.heap.size + 1) 2 0 [] _ s1 t1).mono ?_
    rintro e u' w'' ⟨rfl, rfl, rfl⟩
    exact tell_end _ _ _ _ (w.heap.size + 1) 2 rfl rfl (m1.out.cell 0) ⟨rfl, hfin.out.1, hfin.out.2⟩
  | true =>
    have hq1 := hq.out
    rw [if_neg (by rw [h1]; simp)] at hq1
    have h1' := inB_iff.1 h1
    obtain ⟨k, rfl⟩ : ∃ k : Nat, xkind = (k : Int) := ⟨xkind.toNat, by omega⟩
    have hk6 := hide (show k ≤ 6 by omega)
    replace h1 := hide h1
    clear h1'
    replace hq1 := hide hq1
    clear hq
    have hfac := hide (show ∀ V, Below w2.heap.size w2 V → V.cell? ⟨w.heap.size, 1, none⟩ = some (.int .i64 xat) ∧ V.cell? ⟨p, 13, none⟩ = some (.int .i64 b.time) from fun V hb => ⟨(kb2.out.below hb kb2.out.lt).cell 1, htm.out V (hB2.out.trans (hb.mono hB2.out.size))⟩)
    go_wp2_with fail
    refine (need_yes 2 _).mono ?_
    rintro e w3 ⟨rfl, rfl⟩
    cases hh : inI 0 4800 xat with
    | false =>
      rw [hh] at hhour
      go_wp2
      refine region_grow_tail 12 [IsV (.pointer (some ⟨w.heap.size, 1, none⟩)), IsV (.int .i64 xat), IsV (.bool false), IsV (.bool false), IsV (undef), IsV (undef), IsV (undef), IsV (undef), IsV (undef), IsV (undef), IsV (undef), IsV (.bool false)] (by kernel_rfl) (by kernel_rfl) rfl ?_ ?_ ?_
      · simp [AllStb, IsV.stb]
      · refine ⟨?_, ?_, ?_, ?_, ?_, ?_, ?_, ?_, ?_, ?_, ?_, ?_, trivial⟩
        · intro y w1 K Q Cv hC hd hV
          have f := hfac.out w1 hC
          have a0 := f.1
          have a1 := f.2
          clear f
          clear hd
          simp only [List.take_succ_cons, List.take_zero, putAll, Act.put]
          go_simp
          intro hK; exact hK _ _ (hV _ _ hC (Below.refl _ _) rfl)
        · intro y w1 K Q Cv hC hd hV
          have f := hfac.out w1 hC
          have a0 := f.1
          have a1 := f.2
          clear f
          simp [deps, VL, IsV, Region.binds] at hd
          simp only [List.take_succ_cons, List.take_zero, putAll, Act.put]
          go_simp
          intro hK; exact hK _ _ (hV _ _ hC (Below.refl _ _) rfl)
        · intro y w1 K Q Cv hC hd hV
          have f := hfac.out w1 hC
          have a0 := f.1
          have a1 := f.2
          clear f
          simp [deps, VL, IsV, Region.binds] at hd
          simp only [List.take_succ_cons, List.take_zero, putAll, Act.put]
          go_simp
          intro hK; refine (hhour.out _).mono ?_; rintro e w7 ⟨rfl, hb⟩; exact hK _ _ (hV _ _ (hC.trans (hb.mono hC.size)) hb rfl)
        · intro y w1 K Q Cv hC hd hV
          have f := hfac.out w1 hC
          have a0 := f.1
          have a1 := f.2
          clear f
          simp [deps, VL, IsV, Region.binds] at hd
          simp only [List.take_succ_cons, List.take_zero, putAll, Act.put]
          go_simp
          intro hK; exact hK _ _ (hV _ _ hC (Below.refl _ _) rfl)
        · intro y w1 K Q Cv hC hd hV
          have f := hfac.out w1 hC
          have a0 := f.1
          have a1 := f.2
          clear f
          simp [deps, VL, IsV, Region.binds] at hd
          simp only [List.take_succ_cons, List.take_zero, putAll, Act.put]
          go_simp
          intro hK; exact hK _ _ (hV _ _ hC (Below.refl _ _) rfl)
        · intro y w1 K Q Cv hC hd hV
          have f := hfac.out w1 hC
          have a0 := f.1
          have a1 := f.2
          clear f
          simp [deps, VL, IsV, Region.binds] at hd
          simp only [List.take_succ_cons, List.take_zero, putAll, Act.put]
          go_simp
          intro hK; exact hK _ _ (hV _ _ hC (Below.refl _ _) rfl)
        · intro y w1 K Q Cv hC hd hV
          have f := hfac.out w1 hC
          have a0 := f.1
          have a1 := f.2
          clear f
          simp [deps, VL, IsV, Region.binds] at hd
          simp only [List.take_succ_cons, List.take_zero, putAll, Act.put]
          go_simp
          intro hK; exact hK _ _ (hV _ _ hC (Below.refl _ _) rfl)
        · intro y w1 K Q Cv hC hd hV
          have f := hfac.out w1 hC
          have a0 := f.1
          have a1 := f.2
          clear f
          simp [deps, VL, IsV, Region.binds] at hd
          simp only [List.take_succ_cons, List.take_zero, putAll, Act.put]
          go_simp
          intro hK; exact hK _ _ (hV _ _ hC (Below.refl _ _) rfl)
        · intro y w1 K Q Cv hC hd hV
          have f := hfac.out w1 hC
          have a0 := f.1
          have a1 := f.2
          clear f
          simp [deps, VL, IsV, Region.binds] at hd
          simp only [List.take_succ_cons, List.take_zero, putAll, Act.put]
          go_simp
          intro hK; exact hK _ _ (hV _ _ hC (Below.refl _ _) rfl)
        · intro y w1 K Q Cv hC hd hV
          have f := hfac.out w1 hC
          have a0 := f.1
          have a1 := f.2
          clear f
          simp [deps, VL, IsV, Region.binds] at hd
          simp only [List.take_succ_cons, List.take_zero, putAll, Act.put]
          go_simp
          intro hK; exact hK _ _ (hV _ _ hC (Below.refl _ _) rfl)
        · intro y w1 K Q Cv hC hd hV
          have f := hfac.out w1 hC
          have a0 := f.1
          have a1 := f.2
          clear f
          simp [deps, VL, IsV, Region.binds] at hd
          simp only [List.take_succ_cons, List.take_zero, putAll, Act.put]
          go_simp
          intro hK; exact hK _ _ (hV _ _ hC (Below.refl _ _) rfl)
        · intro y w1 K Q Cv hC hd hV
          have f := hfac.out w1 hC
          have a0 := f.1
          have a1 := f.2
          clear f
          simp [deps, VL, IsV, Region.binds] at hd
          simp only [List.take_succ_cons, List.take_zero, putAll, Act.put]
          go_simp
          intro hK; exact hK _ _ (hV _ _ hC (Below.refl _ _) rfl)
      intro y V1 hC hd
      simp [EndsL, IsV] at hd
      obtain ⟨d0, d1, d2, d3, d4, d5, d6, d7, d8, d9, d10, d11⟩ := hd
      simp only [List.take_succ_cons, List.take_zero, List.drop_succ_cons, List.drop_zero, putAll, Act.put]
      rw [d0, d1, d2, d3, d4, d5, d6, d7, d8, d9, d10, d11]
      clear d0 d1 d2 d3 d4 d5 d6 d7 d8 d9 d10 d11 hfac hhour
      simp only [List.setIfInBounds_toArray, List.set_cons_succ, List.set_cons_zero]
      have hB3 := hide (hB2.out.trans (hC.mono hB2.out.size))
      have kr3 := hide (kr2.out.below hC kr2.out.lt)
      have hz3 := hide (Nat.le_trans hz2.out hC.size)
      clear hC
      have hq2 := hq1.out
      rw [if_pos (.inl hh)] at hq2
      subst hq2
      go_wp2_with fail
      refine (need_no 7 _).mono ?_
      rintro e w4 ⟨rfl, rfl⟩
      have s1 : V1.cell? ⟨w.heap.size + 1, 0, none⟩ = some (.int .i64 0) := kr3.out.cell 0
      have t1 : V1.frozen? ⟨w.heap.size + 1, 0, none⟩ = false := kr3.out.frozen 0
      have hfin := hide (hpan.out V1 7 b (hk.out V1 hB3.out) ⟨_, _, _, _, _, _, hraw.out V1 hB3.out hz3.out⟩)
      have m1 := hide (kr3.out.set_ 0 (.int .i64 7))
      go_wp2
      refine leaves_cons (f := 84) (args := #[.pointer (some ⟨w.heap.size + 1, 0, none⟩)]) (by simp) (by simp [go_sem]) ?_
      refine (tell_catch (w.heap.size + 1) 7 0 [] _ s1 t1).mono ?_
      rintro e u' w'' ⟨rfl, rfl, rfl⟩
      exact tell_end _ _ _ _ (w.heap.size + 1) 7 rfl rfl (m1.out.cell 0) ⟨rfl, hfin.out.1, hfin.out.2⟩
    | true =>
      rw [hh] at hhour
      go_wp2
      refine region_grow_tail 12 [IsV (.pointer (some ⟨w.heap.size, 1, none⟩)), IsV (.int .i64 xat), IsV (.bool true), IsV (.bool true), IsV (.pointer (some ⟨w.heap.size, 1, none⟩)), IsV (.int .i64 xat), IsV (.pointer (some ⟨p, 0, none⟩)), IsV (.pointer (some ⟨p, 0, none⟩)), IsV (.pointer (some ⟨p, 13, none⟩)), IsV (.int .i64 b.time), IsV (.bool (decide (b.time ≤ xat))), IsV (.bool (decide (b.time ≤ xat)))] (by kernel_rfl) (by kernel_rfl) rfl ?_ ?_ ?_
      · simp [AllStb, IsV.stb]
      · refine ⟨?_, ?_, ?_, ?_, ?_, ?_, ?_, ?_, ?_, ?_, ?_, ?_, trivial⟩
        · intro y w1 K Q Cv hC hd hV
          have f := hfac.out w1 hC
          have a0 := f.1
          have a1 := f.2
          clear f
          clear hd
          simp only [List.take_succ_cons, List.take_zero, putAll, Act.put]
          go_simp
          intro hK; exact hK _ _ (hV _ _ hC (Below.refl _ _) rfl)
        · intro y w1 K Q Cv hC hd hV
          have f := hfac.out w1 hC
          have a0 := f.1
          have a1 := f.2
          clear f
          simp [deps, VL, IsV, Region.binds] at hd
          simp only [List.take_succ_cons, List.take_zero, putAll, Act.put]
          go_simp
          intro hK; exact hK _ _ (hV _ _ hC (Below.refl _ _) rfl)
        · intro y w1 K Q Cv hC hd hV
          have f := hfac.out w1 hC
          have a0 := f.1
          have a1 := f.2
          clear f
          simp [deps, VL, IsV, Region.binds] at hd
          simp only [List.take_succ_cons, List.take_zero, putAll, Act.put]
          go_simp
          intro hK; refine (hhour.out _).mono ?_; rintro e w7 ⟨rfl, hb⟩; exact hK _ _ (hV _ _ (hC.trans (hb.mono hC.size)) hb rfl)
        · intro y w1 K Q Cv hC hd hV
          have f := hfac.out w1 hC
          have a0 := f.1
          have a1 := f.2
          clear f
          simp [deps, VL, IsV, Region.binds] at hd
          simp only [List.take_succ_cons, List.take_zero, putAll, Act.put]
          go_simp
          intro hK; exact hK _ _ (hV _ _ hC (Below.refl _ _) rfl)
        · intro y w1 K Q Cv hC hd hV
          have f := hfac.out w1 hC
          have a0 := f.1
          have a1 := f.2
          clear f
          simp [deps, VL, IsV, Region.binds] at hd
          simp only [List.take_succ_cons, List.take_zero, putAll, Act.put]
          go_simp
          intro hK; exact hK _ _ (hV _ _ hC (Below.refl _ _) rfl)
        · intro y w1 K Q Cv hC hd hV
          have f := hfac.out w1 hC
          have a0 := f.1
          have a1 := f.2
          clear f
          simp [deps, VL, IsV, Region.binds] at hd
          simp only [List.take_succ_cons, List.take_zero, putAll, Act.put]
          go_simp
          intro hK; exact hK _ _ (hV _ _ hC (Below.refl _ _) rfl)
        · intro y w1 K Q Cv hC hd hV
          have f := hfac.out w1 hC
          have a0 := f.1
          have a1 := f.2
          clear f
          simp [deps, VL, IsV, Region.binds] at hd
          simp only [List.take_succ_cons, List.take_zero, putAll, Act.put]
          go_simp
          intro hK; exact hK _ _ (hV _ _ hC (Below.refl _ _) rfl)
        · intro y w1 K Q Cv hC hd hV
          have f := hfac.out w1 hC
          have a0 := f.1
          have a1 := f.2
          clear f
          simp [deps, VL, IsV, Region.binds] at hd
          simp only [List.take_succ_cons, List.take_zero, putAll, Act.put]
          go_simp
          intro hK; exact hK _ _ (hV _ _ hC (Below.refl _ _) rfl)
        · intro y w1 K Q Cv hC hd hV
          have f := hfac.out w1 hC
          have a0 := f.1
          have a1 := f.2
          clear f
          simp [deps, VL, IsV, Region.binds] at hd
          simp only [List.take_succ_cons, List.take_zero, putAll, Act.put]
          go_simp
          intro hK; exact hK _ _ (hV _ _ hC (Below.refl _ _) rfl)
        · intro y w1 K Q Cv hC hd hV
          have f := hfac.out w1 hC
          have a0 := f.1
          have a1 := f.2
          clear f
          simp [deps, VL, IsV, Region.binds] at hd
          simp only [List.take_succ_cons, List.take_zero, putAll, Act.put]
          go_simp
          intro hK; exact hK _ _ (hV _ _ hC (Below.refl _ _) rfl)
        · intro y w1 K Q Cv hC hd hV
          have f := hfac.out w1 hC
          have a0 := f.1
          have a1 := f.2
          clear f
          simp [deps, VL, IsV, Region.binds] at hd
          simp only [List.take_succ_cons, List.take_zero, putAll, Act.put]
          go_simp
          intro hK; exact hK _ _ (hV _ _ hC (Below.refl _ _) rfl)
        · intro y w1 K Q Cv hC hd hV
          have f := hfac.out w1 hC
          have a0 := f.1
          have a1 := f.2
          clear f
          simp [deps, VL, IsV, Region.binds] at hd
          simp only [List.take_succ_cons, List.take_zero, putAll, Act.put]
          go_simp
          intro hK; exact hK _ _ (hV _ _ hC (Below.refl _ _) rfl)
      intro y V1 hC hd
      simp [EndsL, IsV] at hd
      obtain ⟨d0, d1, d2, d3, d4, d5, d6, d7, d8, d9, d10, d11⟩ := hd
      simp only [List.take_succ_cons, List.take_zero, List.drop_succ_cons, List.drop_zero, putAll, Act.put]
      rw [d0, d1, d2, d3, d4, d5, d6, d7, d8, d9, d10, d11]
      clear d0 d1 d2 d3 d4 d5 d6 d7 d8 d9 d10 d11 hfac hhour
      simp only [List.setIfInBounds_toArray, List.set_cons_succ, List.set_cons_zero]
      have hB3 := hide (hB2.out.trans (hC.mono hB2.out.size))
      have kr3 := hide (kr2.out.below hC kr2.out.lt)
      have ka3 := hide (ka2.out.below hC ka2.out.lt)
      have kb3 := hide (kb2.out.below hC kb2.out.lt)
      have hz3 := hide (Nat.le_trans hz2.out hC.size)
      clear hC kr2 ka2 kb2 hz2 hB2
      cases ht : decide (b.time ≤ xat) with
      | false =>
        have hq2 := hq1.out
        rw [if_pos (.inr (by have := of_decide_eq_false ht; omega))] at hq2
        subst hq2
        go_wp2_with fail
        refine (need_no 7 _).mono ?_
        rintro e w4 ⟨rfl, rfl⟩
        have s1 : V1.cell? ⟨w.heap.size + 1, 0, none⟩ = some (.int .i64 0) := kr3.out.cell 0
        have t1 : V1.frozen? ⟨w.heap.size + 1, 0, none⟩ = false := kr3.out.frozen 0
        have hfin := hide (hpan.out V1 7 b (hk.out V1 hB3.out) ⟨_, _, _, _, _, _, hraw.out V1 hB3.out hz3.out⟩)
        have m1 := hide (kr3.out.set_ 0 (.int .i64 7))
        go_wp2
        refine leaves_cons (f := 84) (args := #[.pointer (some ⟨w.heap.size + 1, 0, none⟩)]) (by simp) (by simp [go_sem]) ?_
        refine (tell_catch (w.heap.size + 1) 7 0 [] _ s1 t1).mono ?_
        rintro e u' w'' ⟨rfl, rfl, rfl⟩
        exact tell_end _ _ _ _ (w.heap.size + 1) 7 rfl rfl (m1.out.cell 0) ⟨rfl, hfin.out.1, hfin.out.2⟩
      | true =>
        have hq2 := hq1.out
        rw [if_neg (by rintro (h | h); rw [hh] at h; cases h; have := of_decide_eq_true ht; omega)] at hq2
        replace hq2 := hide hq2
        clear hq1
        have hkc := hide (hkd.out V1.drew hB3.out.drew hz3.out k hk6.out rfl (inI_iff.1 hh))
        have hent := kf_enters hk6.out
        have e0 : V1.drew.cell? ⟨w.heap.size, 0, none⟩ = some (.int .i64 (k : Int)) := kb3.out.cell 0
        have e1 : V1.drew.cell? ⟨w.heap.size, 1, none⟩ = some (.int .i64 xat) := kb3.out.cell 1
        have e2 : V1.drew.cell? ⟨w.heap.size, 2, none⟩ = some (.int .i64 xlearner) := kb3.out.cell 2
        have e3 : V1.drew.cell? ⟨w.heap.size, 3, none⟩ = some (.int .i64 xcar) := kb3.out.cell 3
        have e4 : V1.drew.cell? ⟨w.heap.size, 4, none⟩ = some (.int .i64 xbooking) := kb3.out.cell 4
        have e5 : V1.drew.cell? ⟨w.heap.size, 5, none⟩ = some (.int .i64 xstart) := kb3.out.cell 5
        have e6 : V1.drew.cell? ⟨w.heap.size, 6, none⟩ = some (.int .i64 xhours) := kb3.out.cell 6
        have e7 : V1.drew.cell? ⟨w.heap.size, 7, none⟩ = some (.int .i64 xday) := kb3.out.cell 7
        have e8 : V1.drew.cell? ⟨w.heap.size, 8, none⟩ = some (.int .i64 xweather) := kb3.out.cell 8
        have e9 : V1.drew.cell? ⟨w.heap.size, 9, none⟩ = some (.int .i64 xkm) := kb3.out.cell 9
        have e10 : V1.drew.cell? ⟨w.heap.size, 10, none⟩ = some (.int .i64 xcents) := kb3.out.cell 10
        have ek : V1.drew.cell? ⟨w.heap.size + 1 + 1, k, none⟩ = some (.func (.func (kf k)) #[] #[]) := by
          have := ka3.out.cell k
          rw [show V1.drew.cell? ⟨w.heap.size + 1 + 1, k, none⟩ = V1.cell? ⟨w.heap.size + 1 + 1, k, none⟩ from rfl, this]
          have := hk6.out
          rcases (show k = 0 ∨ k = 1 ∨ k = 2 ∨ k = 3 ∨ k = 4 ∨ k = 5 ∨ k = 6 by omega) with rfl | rfl | rfl | rfl | rfl | rfl | rfl <;> rfl
        have hkz : (k : Int) < 7 := by have := hk6.out; omega
        generalize kf k = fk at *
        obtain ⟨q0, hq0⟩ : ∃ q0, kindB S b ev ⟨(k : Int), xat, xlearner, xcar, xbooking, xstart, xhours, xday, xweather, xkm, xcents⟩ = q0 := ⟨_, rfl⟩
        rw [hq0] at hkc hq2
        replace hq0 := hide hq0
        clear hkd
        replace hkc := hide hkc.out
        replace hh := hide hh
        go_wp2_with fail
        refine (need_yes 7 _).mono ?_
        rintro e w4 ⟨rfl, rfl⟩
        go_wp2
        refine region_tailB 6 (by kernel_rfl) (by kernel_rfl) ?_
        simp only [List.take_succ_cons, List.take_zero, List.drop_succ_cons, List.drop_zero]
        iterate 6 (refine still_bx (fun K hK => ?_); go_simp; refine hK.out _ ?_; clear hK K)
        refine still_bx_nil ?_
        clear e0 e1 e2 e3 e4 e5 e6 e7 e8 e9 e10 ek
        go_wp2_with fail
        go_at_fn fk
        refine hkc.out.mono ?_
        clear hent hkc
        rintro e V2 ⟨(⟨hz0, rfl, hbk⟩ | ⟨hz0, rfl, hbk⟩), hkx⟩
        · have hq3 := hq2.out
          rw [if_pos hz0] at hq3
          subst hq3
          have kb4 := hide (hkx.blk (hYg 0 (by omega)) kb3.out)
          have kr4 := hide (hkx.blk (hYg 1 (by omega)) kr3.out)
          obtain ⟨⟨u13, c13⟩, f13, hpy, hbk3⟩ := hst.out V2 q0.2 hbk
          have e1 : V2.cell? ⟨w.heap.size, 1, none⟩ = some (.int .i64 xat) := kb4.out.cell 1
          have hpg : w.heap.size + 1 ≠ p := fun e => hpy (e ▸ hYg 1 (by omega))
          obtain ⟨V3, hV3⟩ : ∃ y, V2.setCell ⟨p, 13, none⟩ (.int .i64 xat) = y := ⟨_, rfl⟩
          rw [hV3] at hbk3
          have kr5 := hide (show Blk V3 (w.heap.size + 1) 30 #[.int .i64 0] by rw [← hV3]; exact kr4.out.far (p := ⟨p, 13, none⟩) hpg _)
          have hk3 := hide (show KeptX X w V3 by rw [← hV3]; exact ((hk.out V1.drew hB3.out.drew).trans (hkx.mono hXY)).trans (KeptX.setCell V2 (p := ⟨p, 13, none⟩) hpx _))
          have s1 : V3.cell? ⟨w.heap.size + 1, 0, none⟩ = some (.int .i64 0) := kr5.out.cell 0
          have t1 : V3.frozen? ⟨w.heap.size + 1, 0, none⟩ = false := kr5.out.frozen 0
          have hfin := hide (hpan.out V3 0 _ hk3.out hbk3)
          have m1 := hide (kr5.out.set_ 0 (.int .i64 0))
          replace hV3 := hide hV3
          replace hz0 := hide hz0
          clear hbk hbk3 hkx hpg
          go_upto_region 7 with fail
          rw [hV3.out]
          clear c13 f13 e1
          go_wp2
          refine leaves_cons (f := 84) (args := #[.pointer (some ⟨w.heap.size + 1, 0, none⟩)]) (by simp) (by simp [go_sem]) ?_
          refine (tell_idle (w.heap.size + 1) _).mono ?_
          rintro e u' w'' ⟨rfl, rfl, rfl⟩
          exact tell_end _ .returning _ _ (w.heap.size + 1) 0 rfl rfl (m1.out.cell 0) ⟨rfl, hfin.out.1, hfin.out.2⟩
        · have hq3 := hq2.out
          rw [if_neg hz0] at hq3
          subst hq3
          have kr4 := hide (hkx.blk (hYg 1 (by omega)) kr3.out)
          have hk3 := (hk.out V1.drew hB3.out.drew).trans (hkx.mono hXY)
          have s1 : V2.cell? ⟨w.heap.size + 1, 0, none⟩ = some (.int .i64 0) := kr4.out.cell 0
          have t1 : V2.frozen? ⟨w.heap.size + 1, 0, none⟩ = false := kr4.out.frozen 0
          have hfin := hide (hpan.out V2 q0.1 b hk3 hbk)
          have m1 := hide (kr4.out.set_ 0 (.int .i64 q0.1))
          replace hz0 := hide hz0
          clear hbk hkx hk3
          go_wp2
          refine leaves_cons (f := 84) (args := #[.pointer (some ⟨w.heap.size + 1, 0, none⟩)]) (by simp) (by simp [go_sem]) ?_
          refine (tell_catch (w.heap.size + 1) q0.1 0 [] _ s1 t1).mono ?_
          rintro e u' w'' ⟨rfl, rfl, rfl⟩
          exact tell_end _ _ _ _ (w.heap.size + 1) q0.1 rfl rfl (m1.out.cell 0) ⟨rfl, hfin.out.1, hfin.out.2⟩
end Go.Proofs.Ytkmhldjebopljaa
