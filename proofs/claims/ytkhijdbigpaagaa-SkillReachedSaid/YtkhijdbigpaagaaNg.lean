import Derived.Test.YtkhijdbigpaagaaNf
/-
  newLearner of package skill.
-/
namespace Go.Proofs.Ytkhijdbigpaagaa
open Go.RowKit RG

theorem Lvs.more {w0 W : World} {B : Nat} {v0 v : Value} {gs : List Nat} {rs : List Sp} {lo hi : Int} (h : Lvs w0 B v0 gs rs) (hd : LvDone w0 B v0 gs lo hi v W) (hB : B ≤ w0.heap.size) : ∃ g, Lvs W B v (gs ++ [g]) (rs ++ [(lo, hi)]) := by
  obtain ⟨g, h1, h2, h3, h4⟩ := hd
  have hl := h.len
  refine ⟨g, by simpa using h4, by simp [hl], fun i hi' => ?_, fun g' hg => ?_, ?_⟩
  · rcases Nat.lt_or_ge i gs.length with hlt | hge
    · rw [List.getElem?_append_left hlt, List.getElem?_append_left (by omega)]
      have hb := h.blk i hlt
      exact hb.grown h2 (fun e => own_ne h.own hb (by decide) e.symm)
    · obtain rfl : i = gs.length := by simp at hi'; omega
      rw [List.getElem?_append_right (Nat.le_refl _), List.getElem?_append_right (by omega), hl]
      simpa using h3
  · rcases List.mem_append.1 hg with hg | hg
    · exact h.ge g' hg
    · simp at hg; omega
  · rw [List.nodup_append]
    refine ⟨h.nd, by simp, fun a ha b hb => ?_⟩
    simp at hb
    have := h.at_lt ha
    omega
theorem Lvs.below {w W : World} {B : Nat} {v : Value} {gs : List Nat} {rs : List Sp} (h : Lvs w B v gs rs) (hb : Below w.heap.size w W) : Lvs W B v gs rs :=
  ⟨own_below h.own hb, h.len, fun i hi => (h.blk i hi).below hb (h.blk i hi).lt, h.ge, h.nd⟩
theorem Lvs.far {w : World} {B : Nat} {v : Value} {gs : List Nat} {rs : List Sp} (h : Lvs w B v gs rs) {p : Nat} {t : TypeId} {cs : Array Value} (hp : Blk w p t cs) (h1 : t ≠ 171) (h2 : t ≠ 32) (o : Nat) (u : Value) : Lvs (w.setCell ⟨p, o, none⟩ u) B v gs rs := by
  have hg : w.grownBy (w.setCell ⟨p, o, none⟩ u) (some p) := ⟨rfl, rfl, rfl, by simp [World.setCell], fun k hk hne => Below.heap_setCell w _ u k (fun e => hne (by rw [e]))⟩
  exact ⟨h.own.kept hg (.inr (own_ne h.own hp (fun e => h1 e.symm))), h.len, fun i hi => (h.blk i hi).far (fun e => by
    have hb := h.blk i hi
    have := Blk.ne_ hb hp (fun e => h2 e.symm)
    exact this e) u, h.ge, h.nd⟩

theorem own_slice {w : World} {base : Nat} {e : TypeId} {size : Nat} {v : Value} {n : Nat} {xs : List Value} (h : w.ownsRow base e size v (n + 1) xs) : ∃ g cap, v = .slice (some ⟨g, 0, none⟩) (n + 1) cap := by
  rcases h.2 with ⟨_, h0⟩ | ⟨g, cap, _, e, _⟩
  · omega
  · exact ⟨g, cap, e⟩

set_option maxRecDepth 100000 in
set_option maxHeartbeats 4000000 in
theorem newLearner_any (A A2 L : Option Addr) (n c n2 c2 k cl : Nat) (rs : List Sp) (w : World) (hls : RdRow w L k 2 (rs.map tkCells)) (hk : k ≤ 5) :
    Calls Try.prog 103 #[.agg #[.slice A n c, .slice A2 n2 c2], .slice L k cl] w fun e w' => (∃ v, e = .returned (.agg #[.slice A n c, .slice A2 n2 c2, v]) ∧ ∃ gs, Lvs w' w.heap.size v gs rs) ∧ Below w.heap.size w w' := by
  have hkl : rs.length = k := by have := hls.1; simpa using this
  have hlsB := hide (fun W (hb : Below w.heap.size w W) => hls.below hb)
  have hcells := hide (fun j (hj : j < k) => sp_at rs j (by omega))
  obtain ⟨i0, hi, hz0, hz1, hz2⟩ := info_parts infoLv
  replace hi := hide hi
  replace hz0 := hide hz0
  replace hz1 := hide hz1
  replace hz2 := hide hz2
  clear hls
  replace hkl := hide hkl
  go_enter Try.func103, Try.ntmps103
  go_wp2
  have hB1 := hide (show Below w.heap.size w (((w.alloc (.cells #[.slice A n c, .slice A2 n2 c2] 25)).alloc (.cells #[.slice none 0 0, .slice none 0 0, .slice none 0 0] 152)).alloc (.cells #[.slice A n c, .slice A2 n2 c2, .slice none 0 0] 152)) from (((Below.refl _ _).alloc (Nat.le_refl _) _).alloc (by simp) _).alloc (by simp +arith) _)
  have hR1 := hide (show Blk (((w.alloc (.cells #[.slice A n c, .slice A2 n2 c2] 25)).alloc (.cells #[.slice none 0 0, .slice none 0 0, .slice none 0 0] 152)).alloc (.cells #[.slice A n c, .slice A2 n2 c2, .slice none 0 0] 152)) (w.heap.size + 1) 152 #[.slice none 0 0, .slice none 0 0, .slice none 0 0] from (blkNew (by simp)).alloc _)
  have hP1 := hide (show Blk (((w.alloc (.cells #[.slice A n c, .slice A2 n2 c2] 25)).alloc (.cells #[.slice none 0 0, .slice none 0 0, .slice none 0 0] 152)).alloc (.cells #[.slice A n c, .slice A2 n2 c2, .slice none 0 0] 152)) (w.heap.size + 2) 152 #[.slice A n c, .slice A2 n2 c2, .slice none 0 0] from blkNew (by simp))
  generalize (((w.alloc (.cells #[.slice A n c, .slice A2 n2 c2] 25)).alloc (.cells #[.slice none 0 0, .slice none 0 0, .slice none 0 0] 152)).alloc (.cells #[.slice A n c, .slice A2 n2 c2, .slice none 0 0] 152)) = w1 at *
  go_loopg [7, 12] k (fun gg _ s12 wr => ∃ (j : Nat) (v : Value) (gs : List Nat), j ≤ k ∧ k ≤ gg + j ∧ s12 = .int .i64 j ∧ Hid (Below w.heap.size w wr) ∧ Hid (Blk wr (w.heap.size + 1) 152 #[.slice none 0 0, .slice none 0 0, .slice none 0 0]) ∧ Hid (Blk wr (w.heap.size + 2) 152 #[.slice A n c, .slice A2 n2 c2, v]) ∧ Hid (Lvs wr w.heap.size v gs (rs.take j)))
  case atStart => exact ⟨0, _, [], Nat.zero_le _, by omega, rfl, hB1.out, hR1.out, hP1.out, Lvs.nil _ _⟩
  case round =>
    clear hB1 hR1 hP1
    obtain ⟨j, v, gs, hj, hgg, rfl, hB, hR, hP, hV⟩ := hrel
    by_cases hlt : j < k
    · have hltz : (j : Int) < (k : Int) := by omega
      obtain ⟨b, off, x0, x1, rfl, hb, hx, c0, c1⟩ := (hlsB.out wr hB.out).cells2 hlt
      rw [hcells.out j hlt] at hx
      unfold tkCells at hx
      simp only [List.cons.injEq, and_true] at hx
      obtain ⟨rfl, rfl⟩ := hx
      have htk := hide (show rs.take (j + 1) = rs.take j ++ [((rs[j]?.getD (0, 0)).1, (rs[j]?.getD (0, 0)).2)] by
        rw [List.take_succ_eq_append_getElem (by rw [hkl.out]; exact hlt), List.getElem?_eq_getElem (by rw [hkl.out]; exact hlt)]; rfl)
      generalize (rs[j]?.getD (0, 0)).1 = lo at *
      generalize (rs[j]?.getD (0, 0)).2 = hi' at *
      have hgl := hide (show gs.length = j by have := hV.out.len; rw [List.length_take, hkl.out] at this; omega)
      have kb := hide (blkNew (w := wr) (t := 32) (cs := #[.int .i64 lo, .int .i64 hi']) rfl)
      have hB0 := hide (hB.out.alloc hB.out.size (.cells #[.int .i64 lo, .int .i64 hi'] 32))
      have hR0 := hide (hR.out.alloc (.cells #[.int .i64 lo, .int .i64 hi'] 32))
      have hP0 := hide (hP.out.alloc (.cells #[.int .i64 lo, .int .i64 hi'] 32))
      have hV0 := hide (hV.out.below (W := wr.alloc (.cells #[.int .i64 lo, .int .i64 hi'] 32)) ((Below.refl _ _).alloc (Nat.le_refl _) _))
      go_wp2
      clear hB hR hP hV c0 c1
      generalize (wr.alloc (.cells #[.int .i64 lo, .int .i64 hi'] 32)) = W0 at *
      have hzb := kb.out.lt
      have hzp := hP0.out.lt
      refine region_inv (LvI W0 w.heap.size (w.heap.size + 2) v gs lo hi') (by kernel_rfl) (by kernel_rfl) ?_ ?_ ?_
      · intro y; exact LvI.start
      · refine ⟨?_, ?_, ?_, ?_, ?_, ?_, ?_, ?_, trivial⟩
        all_goals
          intro f y W K Q Cv hI hfi hdep hCv
          simp [Region.binds] at hdep
        · simp only [putAll, Act.put]; go_simp; intro hK; exact hK _ _ (hCv _ _ (hI.o0 rfl))
        · have hC := hI.1 (hI.f5 (.inl rfl) hfi)
          have y0 := hI.2.1 hdep
          have q0 : W.cell? ⟨w.heap.size + 2, 2, none⟩ = some v := (hP0.out.below hC hzp).cell 2
          simp only [putAll, Act.put]; go_simp; intro hK; exact hK _ _ (hCv _ _ (hI.o1 rfl))
        · have hC := hI.1 (hI.f5 (.inr (.inl rfl)) hfi)
          have q0 : W.cell? ⟨wr.heap.size, 0, none⟩ = some (.int .i64 lo) := (kb.out.below hC hzb).cell 0
          have q1 : W.cell? ⟨wr.heap.size, 1, none⟩ = some (.int .i64 hi') := (kb.out.below hC hzb).cell 1
          simp only [putAll, Act.put]; go_simp; intro hK; exact hK _ _ (hCv _ _ (hI.o2 rfl))
        · have hC := hI.1 (hI.f5 (.inr (.inr (.inl rfl))) hfi)
          have y2 := hI.2.2.2.1 hdep
          simp only [putAll, Act.put]; go_simp; intro hK
          refine (newLevel_any lo hi' W).mono ?_
          rintro e W2 ⟨rfl, hb2, hk2⟩
          exact hK _ _ (hCv _ _ (hI.o3 hfi hdep rfl (Nat.le_refl _) hk2 hb2))
        · have h5 := hI.f5 (.inr (.inr (.inr rfl))) hfi
          obtain ⟨g, y3, e2, e3⟩ := hI.2.2.2.2.2.1 hdep h5
          simp only [putAll, Act.put]; go_simp; intro hK; exact hK _ _ (hCv _ _ (hI.o4 hfi hdep e2 e3 rfl))
        · have hC := hI.1 hfi
          have y1 := hI.2.2.1 hdep.1
          obtain ⟨g, q, y4, e2, e3, e4, e5⟩ := hI.2.2.2.2.2.2.1 hdep.2.1 hfi
          intro hK
          refine wanted_if rfl ?_
          refine wp_append_lv (.tmp 17) (.tmp 20) rfl w.heap.size i0 hi.out hz0.out hz1.out hz2.out v gs.length (gs.flatMap lvCells) (by simp only [putAll, Act.put]; go_simp; try exact y1) (own_below hV0.out.own hC) q g (by simp only [putAll, Act.put]; go_simp; try exact y4) e4 (by rw [hgl.out]; unfold maxLen; omega) (by rw [hgl.out]; omega) (by have := hB0.out.size; have := hC.size; omega) ?_
          intro v' w' h1 h2 h3
          exact hK _ _ (hCv _ _ (hI.o5 hfi hdep.1 hdep.2.1 ⟨g, e2, only_trans (only_of_below hC) h2, e3.grown h2 (fun e => own_ne (own_below hV0.out.own hC) e3 (by decide) e.symm), h1⟩))
        · simp only [putAll, Act.put]; go_simp; intro hK; exact hK _ _ (hCv _ _ (hI.o6 rfl))
        · have h6 := hI.2.2.2.2.1 hdep.1
          have h5 : f 5 = true := hdep.2.1
          have hd := hI.2.2.2.2.2.2.2.1 h5 hfi
          have ho7 := hI.o7 (v := undef) hfi h5
          obtain ⟨g, e1, e2, e3, e4⟩ := hd
          have hPW := hP0.out.grown e2 (fun e => own_ne hV0.out.own hP0.out (by decide) e.symm)
          have q0 : W.cell? ⟨w.heap.size + 2, 2, none⟩ = some v := hPW.cell 2
          have f0 : W.frozen? ⟨w.heap.size + 2, 2, none⟩ = false := hPW.frozen 2
          obtain ⟨g', cap, hy5⟩ := own_slice e4
          rw [hy5] at ho7
          have hCv7 := hCv _ _ ho7
          replace hCv7 := hide hCv7
          clear hI ho7 hCv e1 e2 e3 e4 hPW hdep hfi h5 hV0 hP0 hR0 hB0 kb htk
          simp only [putAll, Act.put]
          go_simp
          intro hK
          exact hK _ _ hCv7.out
      · intro f y w6 hf hI
        have h7 := hf 7 (by simp)
        obtain ⟨W, hd, rfl⟩ := hI.2.2.2.2.2.2.2.2.1 h7
        obtain ⟨g, e1, e2, e3, e4⟩ := id hd
        have hPW := hP0.out.grown e2 (fun e => own_ne hV0.out.own hP0.out (by decide) e.symm)
        have hRW := hR0.out.grown e2 (fun e => own_ne hV0.out.own hR0.out (by decide) e.symm)
        have hBW := hB0.out.grown e2 hB0.out.size (fun k hk => (hV0.out.own.lt k hk).1)
        obtain ⟨g2, hL⟩ := hV0.out.more hd hB0.out.size
        rw [← htk.out] at hL
        have hL2 := hide (hL.far hPW (by decide) (by decide) 2 (y 5))
        have hP2 := hide (show Blk (W.setCell ⟨w.heap.size + 2, 2, none⟩ (y 5)) (w.heap.size + 2) 152 #[.slice A n c, .slice A2 n2 c2, y 5] by simpa using hPW.set_ 2 (y 5))
        have hR2 := hide (hRW.far (p := ⟨w.heap.size + 2, 2, none⟩) (by simp) (y 5))
        have hB2 := hide (hBW.setCell (p := ⟨w.heap.size + 2, 2, none⟩) (by simp) (y 5))
        clear hd e1 e2 e3 e4 hPW hRW hBW hL hI hf h7 hB0 hR0 hP0 hV0 kb
        simp only [putAll, Act.put]
        simp only [List.setIfInBounds_toArray, List.set_cons_succ, List.set_cons_zero]
        generalize W.setCell ⟨w.heap.size + 2, 2, none⟩ (y 5) = W2 at *
        generalize y 0 = y0 at *
        generalize y 1 = y1 at *
        generalize y 2 = y2 at *
        generalize y 3 = y3 at *
        generalize y 4 = y4 at *
        generalize y 5 = y5 at *
        generalize y 6 = y6 at *
        go_wp2
        go_roundg (k - (j + 1))
        case measure => omega
        case rel => exact ⟨j + 1, y5, gs ++ [g2], by omega, by omega, by go_num, hB2.out, hR2.out, hP2.out, hL2.out⟩
    · have hltz : ¬ (j : Int) < (k : Int) := by omega
      obtain rfl : j = k := by omega
      rw [List.take_of_length_le (by rw [hkl.out]; exact Nat.le_refl _)] at hV
      obtain ⟨LA, lc, hv⟩ := hV.out.slice
      have z0 : wr.cell? ⟨w.heap.size + 2, 0, none⟩ = some (.slice A n c) := hP.out.cell 0
      have z1 : wr.cell? ⟨w.heap.size + 2, 1, none⟩ = some (.slice A2 n2 c2) := hP.out.cell 1
      have z2 : wr.cell? ⟨w.heap.size + 2, 2, none⟩ = some v := hP.out.cell 2
      have z3 : wr.cell? ⟨w.heap.size + 1, 0, none⟩ = some (.slice none 0 0) := hR.out.cell 0
      have z4 : wr.cell? ⟨w.heap.size + 1, 1, none⟩ = some (.slice none 0 0) := hR.out.cell 1
      have z5 : wr.cell? ⟨w.heap.size + 1, 2, none⟩ = some (.slice none 0 0) := hR.out.cell 2
      have f3 : wr.frozen? ⟨w.heap.size + 1, 0, none⟩ = false := hR.out.frozen 0
      have f4 : wr.frozen? ⟨w.heap.size + 1, 1, none⟩ = false := hR.out.frozen 1
      have f5 : wr.frozen? ⟨w.heap.size + 1, 2, none⟩ = false := hR.out.frozen 2
      have hR1 := hR.out.set_ 0 (.slice A n c)
      have hL1 := hV.out.far hR.out (by decide) (by decide) 0 (.slice A n c)
      have hR2 := hR1.set_ 1 (.slice A2 n2 c2)
      have hL2 := hL1.far hR1 (by decide) (by decide) 1 (.slice A2 n2 c2)
      have hL3 := hide (hL2.far hR2 (by decide) (by decide) 2 v)
      have hR3 := hide (show Blk _ (w.heap.size + 1) 152 #[.slice A n c, .slice A2 n2 c2, v] by simpa using hR2.set_ 2 v)
      have hB3 := hide (((hB.out.setCell (p := ⟨w.heap.size + 1, 0, none⟩) (by simp) (.slice A n c)).setCell (p := ⟨w.heap.size + 1, 1, none⟩) (by simp) (.slice A2 n2 c2)).setCell (p := ⟨w.heap.size + 1, 2, none⟩) (by simp) v)
      clear hB hR hP hV hR1 hR2 hL1 hL2
      subst hv
      go_wp2
      generalize (((wr.setCell ⟨w.heap.size + 1, 0, none⟩ (.slice A n c)).setCell ⟨w.heap.size + 1, 1, none⟩ (.slice A2 n2 c2)).setCell ⟨w.heap.size + 1, 2, none⟩ (.slice LA gs.length lc)) = W3 at *
      have y0 := hR3.out.cell 0
      have y1 := hR3.out.cell 1
      have y2 := hR3.out.cell 2
      simp only [List.getElem?_toArray, List.getElem?_cons_zero, List.getElem?_cons_succ] at y0 y1 y2
      refine bodyPost_ret (v := .agg #[.slice A n c, .slice A2 n2 c2, .slice LA gs.length lc]) (by simp [results, Try.results103, go_sem, y0, y1, y2]) rfl ⟨⟨_, rfl, gs, hL3.out⟩, hB3.out⟩
end Go.Proofs.Ytkhijdbigpaagaa

/-
  Worlds in which nothing but some blocks has changed; levels whose ranges change.
-/
namespace Go.Proofs.Ytkhijdbigpaagaa
open Go.RowKit RG

/-- Of the old blocks none but those of gs has changed. -/
structure Only (w w' : World) (gs : List Nat) : Prop where
  os : w'.os = w.os
  tape : w'.tape = w.tape
  output : w'.output = w.output
  size : w.heap.size ≤ w'.heap.size
  block : ∀ k, k < w.heap.size → k ∉ gs → w'.heap[k]? = w.heap[k]?
section
variable {w w' w2 : World} {gs : List Nat}
theorem Only.refl (w : World) (gs : List Nat) : Only w w gs := ⟨rfl, rfl, rfl, Nat.le_refl _, fun _ _ _ => rfl⟩
theorem Only.trans (h : Only w w' gs) (k : Only w' w2 gs) : Only w w2 gs :=
  ⟨k.os.trans h.os, k.tape.trans h.tape, k.output.trans h.output, Nat.le_trans h.size k.size, fun i hi hn => (k.block i (Nat.lt_of_lt_of_le hi h.size) hn).trans (h.block i hi hn)⟩
theorem Only.of_grown {g : Nat} (h : w.grownBy w' (some g)) (hg : g ∈ gs) : Only w w' gs :=
  ⟨h.os, h.tape, h.output, h.size, fun k hk hn => h.block k hk (fun e => by injection e with e; subst e; exact hn hg)⟩
theorem Only.of_below (h : Below w.heap.size w w') : Only w w' gs := ⟨h.os, h.tape, h.output, h.size, fun i hi _ => h.block i hi⟩
theorem Only.below (h : Only w w' gs) {B : Nat} (hB : B ≤ w.heap.size) (hg : ∀ g ∈ gs, B ≤ g) : Below B w w' :=
  ⟨h.os, h.tape, h.output, h.size, fun k hk => h.block k (by omega) (fun e => by have := hg k e; omega)⟩
theorem Only.drew (h : Only w w' gs) : Only w w'.drew gs := ⟨h.os, h.tape, h.output, h.size, h.block⟩
theorem Only.blk (h : Only w w' gs) {p : Nat} {t : TypeId} {cs : Array Value} (hp : Blk w p t cs) (hn : p ∉ gs) : Blk w' p t cs := (h.block p hp.lt hn).trans hp
theorem Lvs.nin {B : Nat} {v : Value} {rs : List Sp} (h : Lvs w B v gs rs) {p : Nat} {t : TypeId} {cs : Array Value} (hp : Blk w p t cs) (ht : t ≠ 32) : p ∉ gs := by
  intro hg
  obtain ⟨i, hi, rfl⟩ := List.getElem_of_mem hg
  have hb := h.blk i hi
  rw [List.getElem?_eq_getElem hi] at hb
  exact Blk.ne_ hp hb ht rfl
/-- The range of one level changes. -/
theorem Lvs.upd {B : Nat} {v : Value} {rs : List Sp} (h : Lvs w B v gs rs) {i : Nat} (hi : i < gs.length) {a b : Int} (hg : w.grownBy w' (some (gs[i]?.getD 0))) (hb : Blk w' (gs[i]?.getD 0) 32 (spC a b)) : Lvs w' B v gs (rs.set i (a, b)) := by
  have hl := h.len
  have hbi := h.blk i hi
  refine ⟨h.own.kept hg (.inr (own_ne h.own hbi (by decide))), by simpa using hl, fun j hj => ?_, h.ge, h.nd⟩
  by_cases e : i = j
  · subst e
    rw [List.getElem?_set_self (by omega)]
    exact hb
  · rw [List.getElem?_set_ne e]
    have hbj := h.blk j hj
    refine hbj.grown hg (fun e2 => e ?_)
    injection e2 with e2
    rw [List.getElem?_eq_getElem hi, List.getElem?_eq_getElem hj] at e2
    rcases Nat.lt_or_gt_of_ne e with hlt | hlt
    · exact absurd e2.symm (List.pairwise_iff_getElem.1 h.nd i j hi hj hlt)
    · exact absurd e2 (List.pairwise_iff_getElem.1 h.nd j i hj hi hlt)
theorem Lvs.cells {B : Nat} {A : Option Addr} {k c : Nat} {rs : List Sp} (h : Lvs w B (.slice A k c) gs rs) {j : Nat} (hj : j < gs.length) : ∃ b, A = some ⟨b, 0, none⟩ ∧ b < w.heap.size ∧ b ∉ gs ∧ w.cell? ⟨b, j * 4, none⟩ = some (.func (.func 129) #[] #[ptr (gs[j]?.getD 0)]) ∧
    w.cell? ⟨b, j * 4 + 1, none⟩ = some (.func (.func 130) #[] #[ptr (gs[j]?.getD 0)]) ∧ w.cell? ⟨b, j * 4 + 2, none⟩ = some (.func (.func 131) #[] #[ptr (gs[j]?.getD 0)]) ∧ w.cell? ⟨b, j * 4 + 3, none⟩ = some (.func (.func 132) #[] #[ptr (gs[j]?.getD 0)]) := by
  rcases h.own.2 with ⟨e, h0⟩ | ⟨b, cap, cur, e, _, hb, h1, _, h3, h4⟩
  · omega
  · injection e with e1 e2 e3
    have hbl : b < w.heap.size := (Array.getElem?_eq_some_iff.1 hb).1
    have hat : ∀ i, i < 4 → cur[j * 4 + i]? = (lvCells (gs[j]?.getD 0))[i]? := by
      intro i hi
      have h5 : (cur.toList.take (gs.length * 4))[j * 4 + i]? = cur[j * 4 + i]? := by
        rw [List.getElem?_take_of_lt (by omega)]; simp
      rw [← h5, h4]
      clear h4 h5 hb
      have key : ∀ (l : List Nat) (j : Nat), j < l.length → (l.flatMap lvCells)[j * 4 + i]? = (lvCells (l[j]?.getD 0))[i]? := by
        intro l
        induction l with
        | nil => intro j hj; simp at hj
        | cons g l ih =>
          intro j hj
          rw [List.flatMap_cons]
          cases j with
          | zero => rw [List.getElem?_append_left (by simp [lvCells]; omega)]; simp
          | succ j =>
            rw [List.getElem?_append_right (by simp [lvCells]; omega)]
            have := ih j (by simpa using hj)
            simp only [lvCells, List.length_cons, List.length_nil]
            rw [show (j + 1) * 4 + i - (0 + 1 + 1 + 1 + 1) = j * 4 + i by omega]
            simpa [lvCells] using this
      exact key gs j hj
    have hc : ∀ i, w.cell? ⟨b, i, none⟩ = cur[i]? := fun i => cell_of_row w b i cur _ (0, 0) hb
    have hbk : Blk w b 171 cur := hb
    refine ⟨b, e1, hbl, h.nin hbk (by decide), ?_, ?_, ?_, ?_⟩
    · rw [hc]; exact hat 0 (by omega)
    · rw [hc]; exact hat 1 (by omega)
    · rw [hc]; exact hat 2 (by omega)
    · rw [hc]; exact hat 3 (by omega)
end
/-- The ranges in which a skill fades, and rises. -/
def fadeOf (s : Skl) : Sp := (s.fl, s.fh)
def gainOf (s : Skl) : Sp := (s.gl, s.gh)
/-- All ranges of a learner a week later. -/
def wait1 (S : Sch) (rs : List Sp) : List Sp := (List.range rs.length).map fun i => lowerS (fadeOf (S.sks[i]?.getD default)) (rs[i]?.getD (0, 0))
def waitN (S : Sch) : Nat → List Sp → List Sp
  | 0, rs => rs
  | m + 1, rs => wait1 S (waitN S m rs)
/-- All ends are levels. -/
def InRs (rs : List Sp) : Prop := ∀ i, i < rs.length → 0 ≤ (rs[i]?.getD (0, 0)).1 ∧ (rs[i]?.getD (0, 0)).1 ≤ 1000 ∧ 0 ≤ (rs[i]?.getD (0, 0)).2 ∧ (rs[i]?.getD (0, 0)).2 ≤ 1000
theorem wait1_len (S : Sch) (rs : List Sp) : (wait1 S rs).length = rs.length := by simp [wait1]
theorem waitN_len (S : Sch) (m : Nat) (rs : List Sp) : (waitN S m rs).length = rs.length := by
  induction m with
  | zero => rfl
  | succ m ih => simp [waitN, wait1_len, ih]
theorem wait1_at (S : Sch) (rs : List Sp) {i : Nat} (hi : i < rs.length) : (wait1 S rs)[i]?.getD (0, 0) = lowerS (fadeOf (S.sks[i]?.getD default)) (rs[i]?.getD (0, 0)) := by
  simp [wait1, hi]
theorem wait1_in {S : Sch} {rs : List Sp} : InRs (wait1 S rs) := by
  intro i hi
  rw [wait1_at S rs (by simpa [wait1_len] using hi)]
  have h1 := lim_le ((rs[i]?.getD (0, 0)).1 - (S.sks[i]?.getD default).fh)
  have h2 := lim_le ((rs[i]?.getD (0, 0)).2 - (S.sks[i]?.getD default).fl)
  exact ⟨h1.1, h1.2, h2.1, h2.2⟩
theorem waitN_in {S : Sch} {rs : List Sp} (h : InRs rs) : ∀ m, InRs (waitN S m rs)
  | 0 => h
  | _ + 1 => wait1_in
end Go.Proofs.Ytkhijdbigpaagaa

/-
  learner.wait of package skill.
-/
namespace Go.Proofs.Ytkhijdbigpaagaa
open Go.RowKit RG

set_option maxRecDepth 100000 in
set_option maxHeartbeats 4000000 in
theorem wait_any (A A2 LA : Option Addr) (n c n2 c2 lc m B : Nat) (S : Sch) (gs : List Nat) (rs : List Sp) (w : World) (hrd : ∀ W, Below B w W → RdRow W A n 5 (S.sks.map skCells)) (hnS : S.sks.length = n) (hV : Lvs w B (.slice LA n lc) gs rs) (hn : rs.length = n)
    (hBw : B ≤ w.heap.size) (hin : InRs rs) (hsk : ∀ i, i < n → 0 ≤ (S.sks[i]?.getD default).fl ∧ (S.sks[i]?.getD default).fl ≤ (S.sks[i]?.getD default).fh ∧ (S.sks[i]?.getD default).fh ≤ 1000) (hm : m ≤ 1000) (hn5 : n ≤ 5) :
    Calls Try.prog 125 #[.agg #[.slice A n c, .slice A2 n2 c2, .slice LA n lc], .int .i64 m] w fun e w' => e = .returned (.tuple #[]) ∧ Only w w' gs ∧ Lvs w' B (.slice LA n lc) gs (waitN S m rs) := by
  have hgl : gs.length = n := hV.len.trans hn
  have hcel2 := hide (fun j (hj : j < n) => sk_at S.sks j (by omega))
  have hge := hide hV.ge
  have hO1 := hide (show Only w (w.alloc (.cells #[.slice A n c, .slice A2 n2 c2, .slice LA n lc] 152)) gs from .of_below ((Below.refl _ _).alloc (Nat.le_refl _) _))
  have k1 := hide (show Blk (w.alloc (.cells #[.slice A n c, .slice A2 n2 c2, .slice LA n lc] 152)) w.heap.size 152 #[.slice A n c, .slice A2 n2 c2, .slice LA n lc] from blkNew rfl)
  have hV1 := hide (hV.below (W := w.alloc (.cells #[.slice A n c, .slice A2 n2 c2, .slice LA n lc] 152)) ((Below.refl _ _).alloc (Nat.le_refl _) _))
  have hnin := hide (hV1.out.nin k1.out (by decide))
  have hN := hide (fun q => waitN_len S q rs)
  have hI := hide (fun q => waitN_in (S := S) hin q)
  have hw1 := hide (fun q i => wait1_at S (waitN S q rs) (i := i))
  have hw2 := hide (fun q => wait1_len S (waitN S q rs))
  clear hV hin
  replace hrd := hide hrd
  replace hnS := hide hnS
  replace hsk := hide hsk
  replace hn := hide hn
  go_enter Try.func125, Try.ntmps125
  go_wp2
  generalize (w.alloc (.cells #[.slice A n c, .slice A2 n2 c2, .slice LA n lc] 152)) = w1 at *
  have hzl := k1.out.lt
  go_loopg [4, 5, 7] m (fun gg _ _ s7 wr => ∃ q : Nat, q ≤ m ∧ m ≤ gg + q ∧ s7 = .int .i64 q ∧ Hid (Only w1 wr gs) ∧ Hid (Lvs wr B (.slice LA n lc) gs (waitN S q rs)))
  case atStart => exact ⟨0, Nat.zero_le _, by omega, rfl, Only.refl _ _, hV1.out⟩
  case round =>
    clear hV1
    obtain ⟨q, hq, hgg, rfl, hO, hV⟩ := hrel
    by_cases hlt : q < m
    · have hltz : (q : Int) < (m : Int) := by omega
      have kr := hide (hO.out.blk k1.out hnin.out)
      have z2 : wr.cell? ⟨w.heap.size, 2, none⟩ = some (.slice LA n lc) := kr.out.cell 2
      go_wp2
      clear z2 kr
      obtain ⟨R, hR⟩ : ∃ R, waitN S q rs = R := ⟨_, rfl⟩
      have hRl := hide (show R.length = n by rw [← hR, hN.out]; exact hn.out)
      have hRi := hI.out q
      have hRw := hide (show waitN S (q + 1) rs = wait1 S R by rw [← hR]; rfl)
      rw [hR] at hV hRi
      clear hR
      replace hRi := hide hRi
      go_loopg [4, 5, 12] n (fun gg2 _ _ s12 wx => ∃ (j : Nat) (T : List Sp), j ≤ n ∧ n ≤ gg2 + j ∧ s12 = .int .i64 j ∧ Hid (Only w1 wx gs) ∧ Hid (Lvs wx B (.slice LA n lc) gs T) ∧ Hid (T.length = n ∧ ∀ i, i < n → T[i]?.getD (0, 0) = if i < j then lowerS (fadeOf (S.sks[i]?.getD default)) (R[i]?.getD (0, 0)) else R[i]?.getD (0, 0)))
      case atStart => exact ⟨0, R, Nat.zero_le _, by omega, rfl, hO.out, hV.out, hRl.out, fun i hi => by rw [if_neg (by omega)]⟩
      case round =>
        clear hV hO
        obtain ⟨j, T, hj, hgg2, rfl, hO, hV, hT⟩ := hrel
        by_cases hlt2 : j < n
        · have hltz2 : (j : Int) < (n : Int) := by omega
          have kr := hide (hO.out.blk k1.out hnin.out)
          obtain ⟨lb, rfl, hlb, hlbn, c0, c1, c2', c3⟩ := hV.out.cells (j := j) (by omega)
          have hTj : T[j]?.getD (0, 0) = R[j]?.getD (0, 0) := by have := hT.out.2 j hlt2; rwa [if_neg (by omega)] at this
          have hbk := hV.out.blk j (by omega)
          rw [hTj] at hbk
          have hRj := hRi.out j (by rw [hRl.out]; exact hlt2)
          have hskj := hsk.out j hlt2
          have hBx := (hO1.out.trans hO.out).below hBw hge.out
          have hrow := hrd.out wr hBx
          obtain ⟨b3, off3, y0, y1, y2, y3, y4, rfl, hb3', hy, d0, d1, d2, d3, d4⟩ := hrow.cells5 hlt2
          rw [hcel2.out j hlt2] at hy
          unfold skCells at hy
          simp only [List.cons.injEq, and_true] at hy
          obtain ⟨rfl, rfl, rfl, rfl, rfl⟩ := hy
          have hT2 := hide (show (T.set j (lowerS (fadeOf (S.sks[j]?.getD default)) (R[j]?.getD (0, 0)))).length = n ∧ ∀ i, i < n → (T.set j (lowerS (fadeOf (S.sks[j]?.getD default)) (R[j]?.getD (0, 0))))[i]?.getD (0, 0) = if i < j + 1 then lowerS (fadeOf (S.sks[i]?.getD default)) (R[i]?.getD (0, 0)) else R[i]?.getD (0, 0) by
            refine ⟨by rw [List.length_set]; exact hT.out.1, fun i hi => ?_⟩
            by_cases e : j = i
            · subst e
              rw [List.getElem?_set_self (by rw [hT.out.1]; exact hi), if_pos (by omega)]; rfl
            · rw [List.getElem?_set_ne e, hT.out.2 i hi]
              by_cases h : i < j
              · rw [if_pos h, if_pos (by omega)]
              · rw [if_neg h, if_neg (by omega)])
          have hlw := hide (fun W (h : Blk W (gs[j]?.getD 0) 32 (spC (R[j]?.getD (0, 0)).1 (R[j]?.getD (0, 0)).2)) => lower_any (R[j]?.getD (0, 0)).1 (R[j]?.getD (0, 0)).2 (S.sks[j]?.getD default).fl (S.sks[j]?.getD default).fh (gs[j]?.getD 0) W h hRj (by omega))
          have hlwS := hide (show lowerS (fadeOf (S.sks[j]?.getD default)) (R[j]?.getD (0, 0)) = (lim ((R[j]?.getD (0, 0)).1 - (S.sks[j]?.getD default).fh), lim ((R[j]?.getD (0, 0)).2 - (S.sks[j]?.getD default).fl)) from rfl)
          have hmem : gs[j]?.getD 0 ∈ gs := by rw [List.getElem?_eq_getElem (by omega)]; exact List.getElem_mem _
          have hgj : gs[j]?.getD 0 = gs[j]?.getD 0 := rfl
          generalize lowerS (fadeOf (S.sks[j]?.getD default)) (R[j]?.getD (0, 0)) = nr at *
          generalize (S.sks[j]?.getD default).fl = fl at *
          generalize (S.sks[j]?.getD default).fh = fh at *
          obtain ⟨g, hg⟩ : ∃ g, gs[j]?.getD 0 = g := ⟨_, rfl⟩
          rw [hg] at c0 c1 c2' c3 hbk hlw hmem
          unfold ptr at c0 c1 c2' c3
          clear hTj hrow hgj
          replace hg := hide hg
          replace hmem := hide hmem
          have q1 : (wr.alloc (.cells #[.func (.func 129) #[] #[.pointer (some ⟨g, 0, none⟩)], .func (.func 130) #[] #[.pointer (some ⟨g, 0, none⟩)], .func (.func 131) #[] #[.pointer (some ⟨g, 0, none⟩)], .func (.func 132) #[] #[.pointer (some ⟨g, 0, none⟩)]] 171)).cell? ⟨wr.heap.size, 1, none⟩ = some (.func (.func 130) #[] #[.pointer (some ⟨g, 0, none⟩)]) := (blkNew rfl).cell 1
          have hO0 := hide (hO.out.trans (.of_below ((Below.refl wr.heap.size wr).alloc (Nat.le_refl _) (.cells #[.func (.func 129) #[] #[.pointer (some ⟨g, 0, none⟩)], .func (.func 130) #[] #[.pointer (some ⟨g, 0, none⟩)], .func (.func 131) #[] #[.pointer (some ⟨g, 0, none⟩)], .func (.func 132) #[] #[.pointer (some ⟨g, 0, none⟩)]] 171))))
          have hV0 := hide (hV.out.below ((Below.refl wr.heap.size wr).alloc (Nat.le_refl _) (.cells #[.func (.func 129) #[] #[.pointer (some ⟨g, 0, none⟩)], .func (.func 130) #[] #[.pointer (some ⟨g, 0, none⟩)], .func (.func 131) #[] #[.pointer (some ⟨g, 0, none⟩)], .func (.func 132) #[] #[.pointer (some ⟨g, 0, none⟩)]] 171)))
          have hbk0 := hide (hbk.alloc (.cells #[.func (.func 129) #[] #[.pointer (some ⟨g, 0, none⟩)], .func (.func 130) #[] #[.pointer (some ⟨g, 0, none⟩)], .func (.func 131) #[] #[.pointer (some ⟨g, 0, none⟩)], .func (.func 132) #[] #[.pointer (some ⟨g, 0, none⟩)]] 171))
          have q3 : (wr.alloc (.cells #[.func (.func 129) #[] #[.pointer (some ⟨g, 0, none⟩)], .func (.func 130) #[] #[.pointer (some ⟨g, 0, none⟩)], .func (.func 131) #[] #[.pointer (some ⟨g, 0, none⟩)], .func (.func 132) #[] #[.pointer (some ⟨g, 0, none⟩)]] 171)).cell? ⟨b3, off3 + j * 5 + 3, none⟩ = some (.int .i64 fl) := (cellB ((Below.refl wr.heap.size wr).alloc (Nat.le_refl _) _) hb3').trans d3
          have q4 : (wr.alloc (.cells #[.func (.func 129) #[] #[.pointer (some ⟨g, 0, none⟩)], .func (.func 130) #[] #[.pointer (some ⟨g, 0, none⟩)], .func (.func 131) #[] #[.pointer (some ⟨g, 0, none⟩)], .func (.func 132) #[] #[.pointer (some ⟨g, 0, none⟩)]] 171)).cell? ⟨b3, off3 + j * 5 + 4, none⟩ = some (.int .i64 fh) := (cellB ((Below.refl wr.heap.size wr).alloc (Nat.le_refl _) _) hb3').trans d4
          clear hbk hO hV d0 d1 d2 hcel2 hrd
          go_wp2
          clear c0 c1 c2' c3 d3 d4
          generalize (wr.alloc (.cells #[.func (.func 129) #[] #[.pointer (some ⟨g, 0, none⟩)], .func (.func 130) #[] #[.pointer (some ⟨g, 0, none⟩)], .func (.func 131) #[] #[.pointer (some ⟨g, 0, none⟩)], .func (.func 132) #[] #[.pointer (some ⟨g, 0, none⟩)]] 171)) = W0 at *
          have kr0 := hO0.out.blk k1.out hnin.out
          have z0 : W0.cell? ⟨w.heap.size, 0, none⟩ = some (.slice (some ⟨b3, off3, none⟩) n c) := kr0.cell 0
          clear kr0
          refine region_tail 9 (by kernel_rfl) (by kernel_rfl) ?_
          simp only [List.take_succ_cons, List.take_zero, List.drop_succ_cons, List.drop_zero]
          iterate 9 still_step
          refine wpStill_nil ?_
          go_wp2_with fail
          refine (hlw.out _ hbk0.out.drew).mono ?_
          rintro e W1 ⟨rfl, hG, hbk1⟩
          have hO2 := hide ((hO0.out.drew).trans (.of_grown hG hmem.out))
          have hV2 := hide (show Lvs W1 B (.slice (some ⟨lb, 0, none⟩) n lc) gs (T.set j nr) by
            have := (hV0.out.below (W := W0.drew) (Below.refl _ _).drew).upd (i := j) (show j < gs.length by rw [hgl]; exact hlt2) (by rw [hg.out]; exact hG) (by rw [hg.out]; exact hbk1)
            rw [hlwS.out]; exact this)
          clear hG hbk1 z0 q1 q3 q4 hlw hV0 hO0 hbk0
          go_wp2
          go_roundg (n - (j + 1))
          case measure => omega
          case rel => exact ⟨j + 1, T.set j nr, by omega, by omega, by go_num, hO2.out, hV2.out, hT2.out⟩
        · have hltz2 : ¬ (j : Int) < (n : Int) := by omega
          obtain rfl : j = n := by omega
          have hTw : T = wait1 S R := by
            apply List.ext_getElem?
            intro i
            rcases Nat.lt_or_ge i T.length with hi | hi
            · have h1 := hT.out.2 i (by rw [← hT.out.1]; exact hi)
              rw [if_pos (by rw [← hT.out.1]; exact hi), ← wait1_at S R (by rw [hRl.out, ← hT.out.1]; exact hi)] at h1
              rw [List.getElem?_eq_getElem hi, List.getElem?_eq_getElem (by rw [wait1_len, hRl.out, ← hT.out.1]; exact hi)] at h1 ⊢
              simpa using h1
            · rw [List.getElem?_eq_none hi, List.getElem?_eq_none (by rw [wait1_len, hRl.out, ← hT.out.1]; exact hi)]
          subst hTw
          rw [← hRw.out] at hV
          clear hT hRi hRw
          go_wp2
          go_roundg (m - (q + 1))
          case measure => omega
          case rel => exact ⟨q + 1, by omega, by omega, by go_num, hO.out, hV.out⟩
    · have hltz : ¬ (q : Int) < (m : Int) := by omega
      obtain rfl : q = m := by omega
      go_wp2
      go_end0
      exact ⟨rfl, hO1.out.trans hO.out, hV.out⟩
end Go.Proofs.Ytkhijdbigpaagaa

/-
  learner.taught and learner.marked of package skill.
-/
namespace Go.Proofs.Ytkhijdbigpaagaa
open Go.RowKit RG

def biasOf (s : Ins) : Sp := (s.lo, s.hi)
theorem gs_mem {gs : List Nat} {j : Nat} (hj : j < gs.length) : gs[j]?.getD 0 ∈ gs := by rw [List.getElem?_eq_getElem hj]; exact List.getElem_mem _
theorem in_at (ss : List Ins) (k : Nat) (h : k < ss.length) : ((ss.map inCells)[k]?.getD []) = inCells (ss[k]?.getD default) := by
  rw [List.getElem?_map, List.getElem?_eq_getElem h]; rfl

set_option maxRecDepth 100000 in
set_option maxHeartbeats 4000000 in
theorem taught_any (A A2 LA : Option Addr) (n c n2 c2 lc B j : Nat) (ea eb ed ee : Int) (S : Sch) (gs : List Nat) (rs : List Sp) (w : World) (hrd : RdRow w A n 5 (S.sks.map skCells)) (hnS : S.sks.length = n) (hV : Lvs w B (.slice LA n lc) gs rs) (hn : rs.length = n)
    (hr : 0 ≤ (rs[j]?.getD (0, 0)).1 ∧ (rs[j]?.getD (0, 0)).1 ≤ 1000 ∧ 0 ≤ (rs[j]?.getD (0, 0)).2 ∧ (rs[j]?.getD (0, 0)).2 ≤ 1000)
    (hsk : 0 ≤ (S.sks[j]?.getD default).gl ∧ (S.sks[j]?.getD default).gl ≤ (S.sks[j]?.getD default).gh ∧ (S.sks[j]?.getD default).gh ≤ 1000) (hj : j < n) :
    Calls Try.prog 123 #[.agg #[.slice A n c, .slice A2 n2 c2, .slice LA n lc], .agg #[.int .i64 ea, .int .i64 eb, .int .i64 j, .int .i64 ed, .int .i64 ee]] w fun e w' =>
      e = .returned (.tuple #[]) ∧ Only w w' gs ∧ Lvs w' B (.slice LA n lc) gs (rs.set j (raiseS (gainOf (S.sks[j]?.getD default)) (rs[j]?.getD (0, 0)))) := by
  have hgl : gs.length = n := hV.len.trans hn
  have hjl : j < gs.length := by rw [hgl]; exact hj
  obtain ⟨lb, rfl, hlb, hlbn, c0, c1, c2', c3⟩ := hV.cells (j := j) hjl
  obtain ⟨b3, off3, y0, y1, y2, y3, y4, rfl, hb3', hy, d0, d1, d2, d3, d4⟩ := hrd.cells5 hj
  rw [sk_at S.sks j (by omega)] at hy
  unfold skCells at hy
  simp only [List.cons.injEq, and_true] at hy
  obtain ⟨rfl, rfl, rfl, rfl, rfl⟩ := hy
  have hbk := hV.blk j hjl
  have hlw := hide (fun W (h : Blk W (gs[j]?.getD 0) 32 (spC (rs[j]?.getD (0, 0)).1 (rs[j]?.getD (0, 0)).2)) => raise_any (rs[j]?.getD (0, 0)).1 (rs[j]?.getD (0, 0)).2 (S.sks[j]?.getD default).gl (S.sks[j]?.getD default).gh (gs[j]?.getD 0) W h hr (by omega))
  have hlwS := hide (show raiseS (gainOf (S.sks[j]?.getD default)) (rs[j]?.getD (0, 0)) = (lim ((rs[j]?.getD (0, 0)).1 + (S.sks[j]?.getD default).gl), lim ((rs[j]?.getD (0, 0)).2 + (S.sks[j]?.getD default).gh)) from rfl)
  have hmem := gs_mem hjl
  generalize raiseS (gainOf (S.sks[j]?.getD default)) (rs[j]?.getD (0, 0)) = nr at *
  generalize (S.sks[j]?.getD default).gl = gl at *
  generalize (S.sks[j]?.getD default).gh = gh at *
  generalize (rs[j]?.getD (0, 0)).1 = lo at *
  generalize (rs[j]?.getD (0, 0)).2 = hi at *
  have hup := hide (fun W W1 (a b : Int) (h : Lvs W B (.slice (some ⟨lb, 0, none⟩) n lc) gs rs) (hg : W.grownBy W1 (some (gs[j]?.getD 0))) (hb : Blk W1 (gs[j]?.getD 0) 32 (spC a b)) => h.upd (i := j) hjl hg hb)
  generalize gs[j]?.getD 0 = g at *
  unfold ptr at c0 c1 c2' c3
  clear hrd hgl hjl d0 d3 d4 c1 c2' c3
  replace hmem := hide hmem
  replace hnS := hide hnS
  have hBa := hide (show Below w.heap.size w ((w.alloc (.cells #[.slice (some ⟨b3, off3, none⟩) n c, .slice A2 n2 c2, .slice (some ⟨lb, 0, none⟩) n lc] 152)).alloc (.cells #[.int .i64 ea, .int .i64 eb, .int .i64 j, .int .i64 ed, .int .i64 ee] 78)) from ((Below.refl _ _).alloc (Nat.le_refl _) _).alloc (by simp) _)
  have hV0 := hide (hV.below hBa.out)
  have hbk0 := hide (hbk.below hBa.out hbk.lt)
  have hO0 := hide (Only.of_below (gs := gs) hBa.out)
  have e0 := (cellB (o := j * 4) hBa.out hlb).trans c0
  have e1 := (cellB (o := off3 + j * 5 + 1) hBa.out hb3').trans d1
  have e2 := (cellB (o := off3 + j * 5 + 2) hBa.out hb3').trans d2
  have k1 := hide (show Blk ((w.alloc (.cells #[.slice (some ⟨b3, off3, none⟩) n c, .slice A2 n2 c2, .slice (some ⟨lb, 0, none⟩) n lc] 152)).alloc (.cells #[.int .i64 ea, .int .i64 eb, .int .i64 j, .int .i64 ed, .int .i64 ee] 78)) w.heap.size 152 #[.slice (some ⟨b3, off3, none⟩) n c, .slice A2 n2 c2, .slice (some ⟨lb, 0, none⟩) n lc] from (blkNew rfl).alloc _)
  have k2 := hide (show Blk ((w.alloc (.cells #[.slice (some ⟨b3, off3, none⟩) n c, .slice A2 n2 c2, .slice (some ⟨lb, 0, none⟩) n lc] 152)).alloc (.cells #[.int .i64 ea, .int .i64 eb, .int .i64 j, .int .i64 ed, .int .i64 ee] 78)) (w.heap.size + 1) 78 #[.int .i64 ea, .int .i64 eb, .int .i64 j, .int .i64 ed, .int .i64 ee] from blkNew (by simp))
  clear hV hbk c0 d1 d2
  have hjz : (j : Int) < (n : Int) := by omega
  go_enter Try.func123, Try.ntmps123
  go_wp2
  generalize ((w.alloc (.cells #[.slice (some ⟨b3, off3, none⟩) n c, .slice A2 n2 c2, .slice (some ⟨lb, 0, none⟩) n lc] 152)).alloc (.cells #[.int .i64 ea, .int .i64 eb, .int .i64 j, .int .i64 ed, .int .i64 ee] 78)) = W0 at *
  have z0 : W0.cell? ⟨w.heap.size, 0, none⟩ = some (.slice (some ⟨b3, off3, none⟩) n c) := k1.out.cell 0
  have z2 : W0.cell? ⟨w.heap.size, 2, none⟩ = some (.slice (some ⟨lb, 0, none⟩) n lc) := k1.out.cell 2
  have z3 : W0.cell? ⟨w.heap.size + 1, 2, none⟩ = some (.int .i64 j) := k2.out.cell 2
  refine region_tail 15 (by kernel_rfl) (by kernel_rfl) ?_
  simp only [List.take_succ_cons, List.take_zero, List.drop_succ_cons, List.drop_zero]
  iterate 15 still_step
  refine wpStill_nil ?_
  go_wp2_with fail
  refine (hlw.out _ hbk0.out.drew).mono ?_
  rintro e W1 ⟨rfl, hG, hbk1⟩
  have hO2 := hide ((hO0.out.drew).trans (.of_grown hG hmem.out))
  have hV2 := hide (hup.out _ _ _ _ (hV0.out.below (W := W0.drew) (Below.refl _ _).drew) hG hbk1)
  rw [← hlwS.out] at hV2
  clear hG hbk1 z0 z2 z3 e0 e1 e2 hlw hV0 hO0 hbk0
  go_wp2
  go_end0
  exact ⟨rfl, hO2.out, hV2.out⟩

set_option maxRecDepth 100000 in
set_option maxHeartbeats 8000000 in
theorem marked_any (A A2 LA : Option Addr) (n c n2 c2 lc B j i : Nat) (ea eb m : Int) (S : Sch) (gs : List Nat) (rs : List Sp) (w : World) (hrd : RdRow w A2 n2 3 (S.ins.map inCells)) (hnS : S.ins.length = n2) (hV : Lvs w B (.slice LA n lc) gs rs) (hn : rs.length = n)
    (hin : -300 ≤ (S.ins[i]?.getD default).lo ∧ (S.ins[i]?.getD default).lo ≤ (S.ins[i]?.getD default).hi ∧ (S.ins[i]?.getD default).hi ≤ 300) (hm : 0 ≤ m ∧ m ≤ 1000) (hj : j < n) (hi : i < n2) :
    Calls Try.prog 124 #[.agg #[.slice A n c, .slice A2 n2 c2, .slice LA n lc], .agg #[.int .i64 ea, .int .i64 eb, .int .i64 j, .int .i64 i, .int .i64 m]] w fun e w' =>
      Narrowed (decide ((narrowS (behindS (biasOf (S.ins[i]?.getD default)) m) (rs[j]?.getD (0, 0))).2 < (narrowS (behindS (biasOf (S.ins[i]?.getD default)) m) (rs[j]?.getD (0, 0))).1)) e ∧ Only w w' gs ∧
      Lvs w' B (.slice LA n lc) gs (rs.set j (narrowS (behindS (biasOf (S.ins[i]?.getD default)) m) (rs[j]?.getD (0, 0)))) := by
  have hgl : gs.length = n := hV.len.trans hn
  have hjl : j < gs.length := by rw [hgl]; exact hj
  obtain ⟨lb, rfl, hlb, hlbn, c0, c1, c2', c3⟩ := hV.cells (j := j) hjl
  obtain ⟨b3, off3, y0, y1, y2, rfl, hb3', hy, d0, d1, d2⟩ := hrd.cells3 hi
  rw [in_at S.ins i (by omega)] at hy
  unfold inCells at hy
  simp only [List.cons.injEq, and_true] at hy
  obtain ⟨rfl, rfl, rfl⟩ := hy
  have hbk := hV.blk j hjl
  have hbh := hide (fun W => behind_any (S.ins[i]?.getD default).lo (S.ins[i]?.getD default).hi m W hm (by omega) (by omega))
  have hlw := hide (fun W (h : Blk W (gs[j]?.getD 0) 32 (spC (rs[j]?.getD (0, 0)).1 (rs[j]?.getD (0, 0)).2)) => narrow_any (rs[j]?.getD (0, 0)).1 (rs[j]?.getD (0, 0)).2 (behindS (biasOf (S.ins[i]?.getD default)) m).1 (behindS (biasOf (S.ins[i]?.getD default)) m).2 (gs[j]?.getD 0) W h)
  have hlwS := hide (show narrowS (behindS (biasOf (S.ins[i]?.getD default)) m) (rs[j]?.getD (0, 0)) = (max (rs[j]?.getD (0, 0)).1 (behindS (biasOf (S.ins[i]?.getD default)) m).1, min (rs[j]?.getD (0, 0)).2 (behindS (biasOf (S.ins[i]?.getD default)) m).2) from rfl)
  have hbb : behindS ((S.ins[i]?.getD default).lo, (S.ins[i]?.getD default).hi) m = behindS (biasOf (S.ins[i]?.getD default)) m := rfl
  rw [hbb] at hbh
  clear hbb
  have hmem := gs_mem hjl
  generalize narrowS (behindS (biasOf (S.ins[i]?.getD default)) m) (rs[j]?.getD (0, 0)) = nr at *
  generalize (behindS (biasOf (S.ins[i]?.getD default)) m).1 = a at *
  generalize (behindS (biasOf (S.ins[i]?.getD default)) m).2 = b at *
  generalize (S.ins[i]?.getD default).lo = gl at *
  generalize (S.ins[i]?.getD default).hi = gh at *
  generalize (rs[j]?.getD (0, 0)).1 = lo at *
  generalize (rs[j]?.getD (0, 0)).2 = hi' at *
  obtain ⟨nr1, nr2⟩ := nr
  have hnr := hlwS.out
  injection hnr with hnr1 hnr2
  subst hnr1
  subst hnr2
  clear hlwS
  have hup := hide (fun W W1 (a b : Int) (h : Lvs W B (.slice (some ⟨lb, 0, none⟩) n lc) gs rs) (hg : W.grownBy W1 (some (gs[j]?.getD 0))) (hb : Blk W1 (gs[j]?.getD 0) 32 (spC a b)) => h.upd (i := j) hjl hg hb)
  generalize gs[j]?.getD 0 = g at *
  unfold ptr at c0 c1 c2' c3
  clear hrd hgl hjl d0 c0 c1 c3
  replace hmem := hide hmem
  replace hnS := hide hnS
  have hBa := hide (show Below w.heap.size w ((w.alloc (.cells #[.slice A n c, .slice (some ⟨b3, off3, none⟩) n2 c2, .slice (some ⟨lb, 0, none⟩) n lc] 152)).alloc (.cells #[.int .i64 ea, .int .i64 eb, .int .i64 j, .int .i64 i, .int .i64 m] 78)) from ((Below.refl _ _).alloc (Nat.le_refl _) _).alloc (by simp) _)
  have hV0 := hide (hV.below hBa.out)
  have hbk0 := hide (hbk.below hBa.out hbk.lt)
  have hO0 := hide (Only.of_below (gs := gs) hBa.out)
  have e0 := (cellB (o := j * 4 + 2) hBa.out hlb).trans c2'
  have e1 := (cellB (o := off3 + i * 3 + 1) hBa.out hb3').trans d1
  have e2 := (cellB (o := off3 + i * 3 + 2) hBa.out hb3').trans d2
  have k1 := hide (show Blk ((w.alloc (.cells #[.slice A n c, .slice (some ⟨b3, off3, none⟩) n2 c2, .slice (some ⟨lb, 0, none⟩) n lc] 152)).alloc (.cells #[.int .i64 ea, .int .i64 eb, .int .i64 j, .int .i64 i, .int .i64 m] 78)) w.heap.size 152 #[.slice A n c, .slice (some ⟨b3, off3, none⟩) n2 c2, .slice (some ⟨lb, 0, none⟩) n lc] from (blkNew rfl).alloc _)
  have k2 := hide (show Blk ((w.alloc (.cells #[.slice A n c, .slice (some ⟨b3, off3, none⟩) n2 c2, .slice (some ⟨lb, 0, none⟩) n lc] 152)).alloc (.cells #[.int .i64 ea, .int .i64 eb, .int .i64 j, .int .i64 i, .int .i64 m] 78)) (w.heap.size + 1) 78 #[.int .i64 ea, .int .i64 eb, .int .i64 j, .int .i64 i, .int .i64 m] from blkNew (by simp))
  have hz0 : lb < ((w.alloc (.cells #[.slice A n c, .slice (some ⟨b3, off3, none⟩) n2 c2, .slice (some ⟨lb, 0, none⟩) n lc] 152)).alloc (.cells #[.int .i64 ea, .int .i64 eb, .int .i64 j, .int .i64 i, .int .i64 m] 78)).heap.size := by simp; omega
  have hz3 : b3 < ((w.alloc (.cells #[.slice A n c, .slice (some ⟨b3, off3, none⟩) n2 c2, .slice (some ⟨lb, 0, none⟩) n lc] 152)).alloc (.cells #[.int .i64 ea, .int .i64 eb, .int .i64 j, .int .i64 i, .int .i64 m] 78)).heap.size := by simp; omega
  clear hV hbk c2' d1 d2
  have hjz : (j : Int) < (n : Int) := by omega
  have hiz : (i : Int) < (n2 : Int) := by omega
  go_enter Try.func124, Try.ntmps124
  go_wp2
  generalize ((w.alloc (.cells #[.slice A n c, .slice (some ⟨b3, off3, none⟩) n2 c2, .slice (some ⟨lb, 0, none⟩) n lc] 152)).alloc (.cells #[.int .i64 ea, .int .i64 eb, .int .i64 j, .int .i64 i, .int .i64 m] 78)) = W0 at *
  have hzk1 := k1.out.lt
  have hzk2 := k2.out.lt
  refine region_grow_tail 18 [IsV (.pointer (some ⟨w.heap.size, 2, none⟩)), IsV (.slice (some ⟨lb, 0, none⟩) n lc), IsV (.pointer (some ⟨w.heap.size + 1, 2, none⟩)), IsV (.int .i64 j), IsV (.pointer (some ⟨lb, j * 4, none⟩)), IsV (.pointer (some ⟨lb, j * 4 + 2, none⟩)),
    IsV (.func (.func 131) #[] #[.pointer (some ⟨g, 0, none⟩)]), IsV (.pointer (some ⟨w.heap.size, 0, none⟩)), IsV (.pointer (some ⟨w.heap.size, 1, none⟩)), IsV (.slice (some ⟨b3, off3, none⟩) n2 c2), IsV (.pointer (some ⟨w.heap.size + 1, 3, none⟩)), IsV (.int .i64 i), IsV (.pointer (some ⟨b3, off3 + i * 3, none⟩)), IsV (.pointer (some ⟨b3, off3 + i * 3 + 1, none⟩)),
    IsV (.agg #[.int .i64 gl, .int .i64 gh]), IsV (.pointer (some ⟨w.heap.size + 1, 4, none⟩)), IsV (.int .i64 m), IsV (.agg #[.int .i64 a, .int .i64 b])] (by kernel_rfl) (by kernel_rfl) rfl ?_ ?_ ?_
  · simp [AllStb, IsV.stb]
  · refine ⟨?_, ?_, ?_, ?_, ?_, ?_, ?_, ?_, ?_, ?_, ?_, ?_, ?_, ?_, ?_, ?_, ?_, ?_, trivial⟩
    all_goals
      intro y W K Qq Cv hC hd hV'
      have z1 : W.cell? ⟨w.heap.size, 1, none⟩ = some (.slice (some ⟨b3, off3, none⟩) n2 c2) := (k1.out.below hC hzk1).cell 1
      have z2 : W.cell? ⟨w.heap.size, 2, none⟩ = some (.slice (some ⟨lb, 0, none⟩) n lc) := (k1.out.below hC hzk1).cell 2
      have z3 : W.cell? ⟨w.heap.size + 1, 2, none⟩ = some (.int .i64 j) := (k2.out.below hC hzk2).cell 2
      have z4 : W.cell? ⟨w.heap.size + 1, 3, none⟩ = some (.int .i64 i) := (k2.out.below hC hzk2).cell 3
      have z5 : W.cell? ⟨w.heap.size + 1, 4, none⟩ = some (.int .i64 m) := (k2.out.below hC hzk2).cell 4
      have q0 := (cellB (o := j * 4 + 2) hC hz0).trans e0
      have q1 := (cellB (o := off3 + i * 3 + 1) hC hz3).trans e1
      have q2 := (cellB (o := off3 + i * 3 + 2) hC hz3).trans e2
      simp [deps, VL, IsV, Region.binds] at hd
      simp only [List.take_succ_cons, List.take_zero, putAll, Act.put]
      go_simp; intro hK
    all_goals first
      | exact hK _ _ (hV' _ _ hC (Below.refl _ _) rfl)
      | (refine (hbh.out _).mono ?_; rintro e W7 ⟨rfl, hb7⟩; exact hK _ _ (hV' _ _ (hC.trans (hb7.mono hC.size)) hb7 rfl))
  · intro y W hC hd
    simp [EndsL, IsV] at hd
    obtain ⟨x0, x1, x2, x3, x4, x5, x6, x7, x8, x9, x10, x11, x12, x13, x14, x15, x16, x17⟩ := hd
    simp only [List.take_succ_cons, List.take_zero, List.drop_succ_cons, List.drop_zero, putAll, Act.put]
    rw [x0, x1, x2, x3, x4, x5, x6, x7, x8, x9, x10, x11, x12, x13, x14, x15, x16, x17]
    clear x0 x1 x2 x3 x4 x5 x6 x7 x8 x9 x10 x11 x12 x13 x14 x15 x16 x17
    simp only [List.setIfInBounds_toArray, List.set_cons_succ, List.set_cons_zero]
    have hbk1 := hide (hbk0.out.below hC hbk0.out.lt)
    have hV1 := hide (hV0.out.below hC)
    have hO1 := hide (hO0.out.trans (.of_below hC))
    clear hC e0 e1 e2
    generalize hq : decide (min hi' b < max lo a) = q at *
    have hnar := hlw.out W hbk1.out
    clear hlw
    replace hq := hide hq
    cases q with
    | true =>
      replace hnar := hide hnar
      go_wp2_with fail
      refine hnar.out.mono ?_
      rintro e W1 ⟨⟨u, rfl, hu⟩, hG, hbk2⟩
      have hO2 := hide (hO1.out.trans (.of_grown hG hmem.out))
      have hV2 := hide (hup.out _ _ _ _ hV1.out hG hbk2)
      replace hu := hide hu
      clear hG hbk2 hnar
      go_wp2
      refine ⟨rfl, ?_, hO2.out, hV2.out⟩
      show Narrowed (decide (min hi' b < max lo a)) _
      rw [hq.out]
      exact ⟨_, rfl, hu.out⟩
    | false =>
      replace hnar := hide hnar
      go_wp2_with fail
      refine hnar.out.mono ?_
      rintro e W1 ⟨hret, hG, hbk2⟩
      have hret : e = .returned (.tuple #[]) := hret
      subst hret
      have hO2 := hide (hO1.out.trans (.of_grown hG hmem.out))
      have hV2 := hide (hup.out _ _ _ _ hV1.out hG hbk2)
      clear hG hbk2 hnar
      go_wp2
      go_end0
      refine ⟨?_, hO2.out, hV2.out⟩
      show Narrowed (decide (min hi' b < max lo a)) _
      rw [hq.out]
      rfl
end Go.Proofs.Ytkhijdbigpaagaa

/-
  learner.ranges of package skill.
-/
namespace Go.Proofs.Ytkhijdbigpaagaa
open Go.RowKit RG

/-- A slice value that holds the ranges rs. -/
def IsSpans (rs : List Sp) : Value → World → Prop := fun v w => ∃ A c, v = .slice A rs.length c ∧ RdRow w A rs.length 2 (rs.map tkCells) ∧ rs.length ≤ c
theorem IsSpans.stb (rs : List Sp) : Stb (IsSpans rs) := fun _ _ _ hb ⟨A, c, e, h, hc⟩ => ⟨A, c, e, h.below hb, hc⟩
theorem flatTk_at (l : List Sp) (j : Nat) (x : Value) (i : Nat) (h : (((l.map tkCells)[j]?.getD [])[i]?) = some x) : (l.flatMap tkCells)[j * 2 + i]? = some x := by
  induction l generalizing j with
  | nil => simp at h
  | cons r l ih =>
    rw [List.flatMap_cons]
    cases j with
    | zero =>
      simp only [List.map_cons, List.getElem?_cons_zero, Option.getD_some] at h
      have hi : i < (tkCells r).length := (List.getElem?_eq_some_iff.1 h).1
      rw [List.getElem?_append_left (by omega), show 0 * 2 + i = i by omega]; exact h
    | succ j =>
      simp only [List.map_cons, List.getElem?_cons_succ] at h
      rw [List.getElem?_append_right (by simp [tkCells]; omega)]
      have := ih j h
      simp only [tkCells, List.length_cons, List.length_nil]
      rw [show (j + 1) * 2 + i - (0 + 1 + 1) = j * 2 + i by omega]
      exact this
theorem isSpans_of_own {w : World} {base : Nat} {v : Value} {rs : List Sp} (h : w.ownsRow base 32 2 v rs.length (rs.flatMap tkCells)) : IsSpans rs v w := by
  rcases h.2 with ⟨rfl, h0⟩ | ⟨g, cap, cur, rfl, _, hg, hc, _, hs, ht⟩
  · obtain rfl : rs = [] := List.eq_nil_of_length_eq_zero h0
    exact ⟨none, 0, rfl, RdRow.nil _ _ _, Nat.le_refl _⟩
  · refine ⟨_, cap, rfl, ⟨by simp, fun x hx => ?_, fun hn => ⟨g, 0, rfl, ?_, fun j i v hv => ?_⟩⟩, hc⟩
    · obtain ⟨r, _, rfl⟩ := List.mem_map.1 hx; rfl
    · exact (Array.getElem?_eq_some_iff.1 hg).1
    · have h1 : w.cell? ⟨g, 0 + j * 2 + i, none⟩ = cur[j * 2 + i]? := by rw [Nat.zero_add]; exact cell_of_row w g (j * 2 + i) cur _ (0, 0) hg
      rw [h1]
      have h2 := flatTk_at rs j v i hv
      rw [← ht] at h2
      have hlt : j * 2 + i < (cur.toList.take (rs.length * 2)).length := (List.getElem?_eq_some_iff.1 h2).1
      rw [List.getElem?_take_of_lt (by rw [List.length_take] at hlt; omega)] at h2
      simpa using h2
/-- The same, in a block from B on. -/
def IsSpansB (B : Nat) (rs : List Sp) : Value → World → Prop := fun v w => ∃ A c, v = .slice A rs.length c ∧ RdRow w A rs.length 2 (rs.map tkCells) ∧ rs.length ≤ c ∧ ∀ b off, A = some ⟨b, off, none⟩ → B ≤ b
theorem IsSpansB.spans {B : Nat} {rs : List Sp} {v : Value} {w : World} (h : IsSpansB B rs v w) : IsSpans rs v w := by
  obtain ⟨A, c, h1, h2, h3, _⟩ := h
  exact ⟨A, c, h1, h2, h3⟩
theorem isSpansB_of_own {w : World} {base B : Nat} {v : Value} {rs : List Sp} (h : w.ownsRow base 32 2 v rs.length (rs.flatMap tkCells)) (hB : B ≤ base) : IsSpansB B rs v w := by
  obtain ⟨A, c, rfl, h2, h3⟩ := isSpans_of_own h
  refine ⟨A, c, rfl, h2, h3, fun b off e => ?_⟩
  subst e
  have := (h.lt b rfl).1
  omega
theorem IsSpansB.far {B : Nat} {rs : List Sp} {v : Value} {w : World} (h : IsSpansB B rs v w) {p : Addr} (hp : p.block < B) (u : Value) : IsSpansB B rs v (w.setCell p u) := by
  obtain ⟨A, c, h1, h2, h3, h4⟩ := h
  refine ⟨A, c, h1, ⟨h2.1, h2.2.1, fun hn => ?_⟩, h3, h4⟩
  obtain ⟨b, off, e, hlt, hc⟩ := h2.2.2 hn
  refine ⟨b, off, e, by simpa [World.setCell] using hlt, fun j i x hx => ?_⟩
  have hb := h4 b off e
  rw [← hc j i x hx]
  exact World.cell?_of_block (Below.heap_setCell w p u b (by omega))
theorem infoSp : (Try.prog.info? 32).map (fun i => (i.zero, i.size, i.bytes)) = some (some (.agg #[.int .i64 0, .int .i64 0]), 2, 16) := by kernel_rfl
theorem takeTk (rs : List Sp) (j : Nat) (hj : j < rs.length) : (rs.take (j + 1)).flatMap tkCells = (rs.take j).flatMap tkCells ++ [.int .i64 (rs[j]?.getD (0, 0)).1, .int .i64 (rs[j]?.getD (0, 0)).2] := by
  rw [List.take_succ_eq_append_getElem hj, List.getElem?_eq_getElem hj, List.flatMap_append]
  rfl
theorem cell_two_new {g : Nat} {w : World} (hg : g = w.heap.size) (x y : Value) (t : TypeId) : ∀ j u, [x, y][j]? = some u → (w.alloc (.cells #[x, y] t)).cell? ((⟨g, 0, none⟩ : Addr).add j) = some u := by
  subst hg
  intro j u hj
  match j, hj with
  | 0, hj => simp at hj; subst hj; simp [Addr.add]
  | 1, hj => simp at hj; subst hj; simp [Addr.add]

set_option maxRecDepth 100000 in
set_option maxHeartbeats 4000000 in
theorem ranges_any (A A2 LA : Option Addr) (n c n2 c2 lc B : Nat) (gs : List Nat) (rs : List Sp) (w : World) (hV : Lvs w B (.slice LA n lc) gs rs) (hn : rs.length = n) (hn5 : n ≤ 5) :
    Calls Try.prog 105 #[.agg #[.slice A n c, .slice A2 n2 c2, .slice LA n lc]] w fun e w' => (∃ x, e = .returned x ∧ IsSpansB w.heap.size rs x w') ∧ Below w.heap.size w w' := by
  have hgl : gs.length = n := hV.len.trans hn
  have hVB := hide (fun W (hb : Below w.heap.size w W) => hV.below hb)
  have htk := hide (fun j (hj : j < n) => takeTk rs j (by omega))
  clear hV
  obtain ⟨i0, hi, hz0, hz1, hz2⟩ := info_parts infoSp
  replace hi := hide hi
  replace hz0 := hide hz0
  replace hz1 := hide hz1
  replace hz2 := hide hz2
  replace hn := hide hn
  replace hgl := hide hgl
  have hB1 := hide (show Below w.heap.size w (w.alloc (.cells #[.slice A n c, .slice A2 n2 c2, .slice LA n lc] 152)) from (Below.refl _ _).alloc (Nat.le_refl _) _)
  go_enter Try.func105, Try.ntmps105
  go_wp2
  generalize (w.alloc (.cells #[.slice A n c, .slice A2 n2 c2, .slice LA n lc] 152)) = w1 at *
  go_loopg [3, 5, 9] n (fun gg s3 _ s9 wr => ∃ j : Nat, j ≤ n ∧ n ≤ gg + j ∧ s9 = .int .i64 j ∧ Hid (Below w1.heap.size w1 wr) ∧ Hid (wr.ownsRow w1.heap.size 32 2 s3 j ((rs.take j).flatMap tkCells)))
  case atStart => exact ⟨0, Nat.zero_le _, by omega, rfl, Below.refl _ _, World.ownsRow_nil _ _ _ _⟩
  case round =>
    obtain ⟨j, hj, hgg, rfl, hBr, ho1⟩ := hrel
    by_cases hlt : j < n
    · have hltz : (j : Int) < (n : Int) := by omega
      have hBw := hide (hB1.out.trans (hBr.out.mono hB1.out.size))
      have hVr := hVB.out wr hBw.out
      obtain ⟨lb, rfl, hlb, hlbn, c0, c1, c2', c3⟩ := hVr.cells (j := j) (by rw [hgl.out]; exact hlt)
      have hbk := hVr.blk j (by rw [hgl.out]; exact hlt)
      have htj := htk.out j hlt
      clear hVr
      generalize gs[j]?.getD 0 = g at *
      generalize (rs[j]?.getD (0, 0)).1 = lo at *
      generalize (rs[j]?.getD (0, 0)).2 = hi' at *
      unfold ptr at c0 c1 c2' c3
      replace htj := hide htj
      have hsr := hBr.out.size
      have hB0 := hide (hBr.out.alloc hsr (.cells #[.func (.func 129) #[] #[.pointer (some ⟨g, 0, none⟩)], .func (.func 130) #[] #[.pointer (some ⟨g, 0, none⟩)], .func (.func 131) #[] #[.pointer (some ⟨g, 0, none⟩)], .func (.func 132) #[] #[.pointer (some ⟨g, 0, none⟩)]] 171))
      have hbk0 := hide (hbk.alloc (.cells #[.func (.func 129) #[] #[.pointer (some ⟨g, 0, none⟩)], .func (.func 130) #[] #[.pointer (some ⟨g, 0, none⟩)], .func (.func 131) #[] #[.pointer (some ⟨g, 0, none⟩)], .func (.func 132) #[] #[.pointer (some ⟨g, 0, none⟩)]] 171))
      have ho0 := hide (ho1.out.alloc (.cells #[.func (.func 129) #[] #[.pointer (some ⟨g, 0, none⟩)], .func (.func 130) #[] #[.pointer (some ⟨g, 0, none⟩)], .func (.func 131) #[] #[.pointer (some ⟨g, 0, none⟩)], .func (.func 132) #[] #[.pointer (some ⟨g, 0, none⟩)]] 171))
      have q3 : (wr.alloc (.cells #[.func (.func 129) #[] #[.pointer (some ⟨g, 0, none⟩)], .func (.func 130) #[] #[.pointer (some ⟨g, 0, none⟩)], .func (.func 131) #[] #[.pointer (some ⟨g, 0, none⟩)], .func (.func 132) #[] #[.pointer (some ⟨g, 0, none⟩)]] 171)).cell? ⟨wr.heap.size, 3, none⟩ = some (.func (.func 132) #[] #[.pointer (some ⟨g, 0, none⟩)]) := (blkNew rfl).cell 3
      clear hbk hBr ho1
      go_wp2_with fail
      refine (now_any lo hi' g _ hbk0.out).mono ?_
      rintro e W1 ⟨rfl, hb1⟩
      have hB2 := hide (hB0.out.trans (hb1.mono (by simp; omega)))
      have ho2 := hide (own_below ho0.out hb1)
      clear hb1 q3 c0 c1 c2' c3 hB0 hbk0 ho0
      have hs2 := hB2.out.size
      go_wp2_with (at_builtin; refine wpList_append_own _ rfl _ _ 37 rfl w1.heap.size 32 i0 (.agg #[.int .i64 0, .int .i64 0]) 2 16 Try.underlying37 hi.out hz0.out hz1.out hz2.out rfl (by decide) _ _ _ rfl (ho2.out.alloc _) ⟨W1.heap.size, 0, none⟩ 1 1 [.int .i64 lo, .int .i64 hi'] rfl rfl (cell_two_new rfl _ _ _) (by simp [Value.oneCell']) (by unfold maxLen; omega) (by omega) (by simp; omega) ?_; intro v' w7 hown7 hgrow7 _)
      have hB7 := hide ((hB2.out.alloc hs2 (.cells #[.int .i64 lo, .int .i64 hi'] 32)).grown hgrow7 (by simp; omega) (fun k hk => (ho2.out.lt k hk).1))
      replace hown7 := hide hown7
      clear hgrow7 ho2
      go_wp2
      go_roundg (n - (j + 1))
      case measure => omega
      case rel =>
        refine ⟨j + 1, by omega, by omega, by go_num, hB7.out, ?_⟩
        unfold Hid
        rw [htj.out]
        exact hown7.out
    · have hltz : ¬ (j : Int) < (n : Int) := by omega
      obtain rfl : j = n := by omega
      have hres : IsSpansB w.heap.size rs u3 wr := isSpansB_of_own (base := w1.heap.size) (hB := hB1.out.size) (h := by
        have h := ho1.out
        rw [List.take_of_length_le (by rw [hn.out]; exact Nat.le_refl _)] at h
        rw [hn.out]; exact h)
      have hBw := hide (hB1.out.trans (hBr.out.mono hB1.out.size))
      replace hres := hide hres
      clear ho1
      go_wp2
      go_ret
      exact ⟨⟨_, rfl, hres.out⟩, hBw.out⟩
end Go.Proofs.Ytkhijdbigpaagaa
