/-
  The law SkillReady.
-/
import Derived.Test.YtkhijdbigpaagaaNre
import Derived.Test.YtkhijdbigpaagaaNmo
import Derived.Test.YtkhijdbigpaagaaNl
import Derived.Test.YtkhijdbigpaagaaNda
namespace Go.Proofs.Ytkhijdbigpaagaa
open Go.RowKit RG

set_option maxRecDepth 100000 in
set_option maxHeartbeats 1000000 in
theorem SkillReady_any (v : Value) (S : Sch) (B L N : Option Addr) (m cb k cl nn nc : Nat) (ts : List (Int × Int)) (al : Int) (rs : List Sp) (ch : Int) (w : World) (h : RdSch w v S) (ht : RdRow w B m 2 (ts.map tkCells)) (hm : m ≤ maxLen)
    (hls : RdRow w L k 2 (rs.map tkCells)) (hk : k ≤ maxLen) (hnu : RdU16 w N nn) (hnn : nn ≤ maxLen) :
    Calls Try.prog 12 #[v, .agg #[.slice B m cb, .int .i64 al], .agg #[.slice L k cl, .int .i64 ch, .slice N nn nc]] w fun e w' => e = .returned (.bool true) ∧ Below w.heap.size w w' := by
  have hrsl : rs.length = k := by have := hls.1; simpa using this
  have htsl : ts.length = m := by have := ht.1; simpa using this
  have hR := hide (fun W (hb : Below w.heap.size w W) => Ready_any v S B L m cb k cl ts al rs ch W (h.below hb) (ht.below hb) hm (hls.below hb) hk)
  have hV := hide (fun W (hb : Below w.heap.size w W) => valid_any v S W (h.below hb))
  have hCh := hide (fun W (L' : Option Addr) (k' cl' : Nat) (ls : List Int) (hb : Below w.heap.size w W) (hr : RdInts W L' k' ls) (hk' : k' ≤ maxLen) => Chance_any v S B L' m cb k' cl' ts al ls W (h.below hb) (ht.below hb) hm hr hk')
  have hTu := hide (fun W (i : Int) (hb : Below w.heap.size w W) (hi : 0 ≤ i ∧ i ≤ 9223372036854775807) => turn_any N nn nc i W (hnu.below hb) hnn hi)
  have hlsB := hide (fun W (hb : Below w.heap.size w W) => hls.below hb)
  have hmath := fun h => ready_math (S := S) (ts := ts) (al := al) (rs := rs) (ch := ch) h
  have hbad : (readyF S ts al rs ch).2.2.2 ≠ 0 → readyF S ts al rs ch = (false, 0, 0, (readyF S ts al rs ch).2.2.2) := fun h => by
    unfold readyF at h ⊢
    split at h
    · exact absurd rfl h
    · rename_i h0; rw [if_neg h0]
  have hchk : (readyF S ts al rs ch).2.2.2 = 0 → (checkS S).2.2 = 0 ∧ InRs rs := fun h => by
    have h0 := readyE_not _ _ _ _ _ h
    exact ⟨(test_ok (ready_ok h0).1).1, fun i hi => by have := (ranges_ok (ready_ok h0).2.1).2 i hi; omega⟩
  have hrr : (readyF S ts al rs ch).2.2.2 = 0 → ∀ i, i < rs.length → 0 ≤ (rs[i]?.getD (0, 0)).1 ∧ (rs[i]?.getD (0, 0)).1 ≤ (rs[i]?.getD (0, 0)).2 ∧ (rs[i]?.getD (0, 0)).2 ≤ 1000 := fun h => (ranges_ok (ready_ok (readyE_not _ _ _ _ _ h)).2.1).2
  obtain ⟨A, c, A2, c2, rfl, hsk, -⟩ := h
  obtain ⟨q, hq⟩ : ∃ q, readyF S ts al rs ch = q := ⟨_, rfl⟩
  rw [hq] at hR hmath hbad hchk hrr
  obtain ⟨rd, lo, hi, er⟩ := q
  simp only at hR hmath hbad hchk hrr
  replace hmath := hide hmath
  replace hbad := hide hbad
  replace hchk := hide hchk
  replace hrr := hide hrr
  replace hq := hide hq
  clear ht hls hm hk hsk hnu hnn
  obtain ⟨n1, hn1⟩ : ∃ n, S.sks.length = n := ⟨_, rfl⟩
  rw [hn1] at hR hV hCh hmath ⊢
  generalize S.ins.length = n2 at *
  replace hn1 := hide hn1
  replace hrsl := hide hrsl
  replace htsl := hide htsl
  obtain ⟨W0, hW0⟩ : ∃ W0, ((w.alloc (.cells #[.slice A n1 c, .slice A2 n2 c2] 25)).alloc (.cells #[.slice B m cb, .int .i64 al] 48)).alloc (.cells #[.slice L k cl, .int .i64 ch, .slice N nn nc] 89) = W0 := ⟨_, rfl⟩
  have kS := hide (show Blk W0 w.heap.size 25 #[.slice A n1 c, .slice A2 n2 c2] by rw [← hW0]; exact ((blkNew rfl).alloc _).alloc _)
  have kT := hide (show Blk W0 (w.heap.size + 1) 48 #[.slice B m cb, .int .i64 al] by rw [← hW0]; exact (blkNew (by simp)).alloc _)
  have kX := hide (show Blk W0 (w.heap.size + 2) 89 #[.slice L k cl, .int .i64 ch, .slice N nn nc] by rw [← hW0]; exact blkNew (by simp +arith))
  have hB := hide (show Below w.heap.size w W0 by rw [← hW0]; exact (((Below.refl _ _).alloc (Nat.le_refl _) _).alloc (by simp) _).alloc (by simp +arith) _)
  have s0 : W0.cell? ⟨w.heap.size, 0, none⟩ = some (.slice A n1 c) := kS.out.cell 0
  have s1 : W0.cell? ⟨w.heap.size, 1, none⟩ = some (.slice A2 n2 c2) := kS.out.cell 1
  have t0 : W0.cell? ⟨w.heap.size + 1, 0, none⟩ = some (.slice B m cb) := kT.out.cell 0
  have t1 : W0.cell? ⟨w.heap.size + 1, 1, none⟩ = some (.int .i64 al) := kT.out.cell 1
  have x0 : W0.cell? ⟨w.heap.size + 2, 0, none⟩ = some (.slice L k cl) := kX.out.cell 0
  have x1 : W0.cell? ⟨w.heap.size + 2, 1, none⟩ = some (.int .i64 ch) := kX.out.cell 1
  rw [← hW0] at s0 s1 t0 t1 x0 x1
  replace hW0 := hide hW0
  go_enter Try.func12, Try.ntmps12
  go_wp2_with fail
  rw [hW0.out]
  refine (hR.out _ hB.out).mono ?_
  rintro e w1 ⟨rfl, hb⟩
  replace kS := hide (kS.out.below hb kS.out.lt)
  replace kT := hide (kT.out.below hb kT.out.lt)
  replace kX := hide (kX.out.below hb kX.out.lt)
  replace hB := hide (hB.out.trans (hb.mono hB.out.size))
  clear hb s0 s1 t0 t1 x0 x1 hR hW0
  have s0 : w1.cell? ⟨w.heap.size, 0, none⟩ = some (.slice A n1 c) := kS.out.cell 0
  have s1 : w1.cell? ⟨w.heap.size, 1, none⟩ = some (.slice A2 n2 c2) := kS.out.cell 1
  by_cases hbd : er ≠ 0
  · have hT0 := hbad.out hbd
    simp only [Prod.mk.injEq] at hT0
    obtain ⟨rfl, rfl, rfl, -⟩ := hT0
    have b1 : (er != 0) = true := by rw [bne_iff_ne]; exact hbd
    replace hbd := hide hbd
    go_wp2_with fail
    refine (AwakeS _).mono ?_
    rintro e w5 ⟨rfl, hb⟩
    replace hB := hide (hB.out.trans (hb.mono hB.out.size))
    clear hb s0 s1
    go_wp2
    go_ret
    exact ⟨rfl, hB.out⟩
  · have her : er = 0 := by omega
    clear hbd
    subst her
    obtain ⟨lo', hi', hqe, hm6, hkn, hch, hlo, hhi, hins⟩ := hmath.out rfl
    simp only [Prod.mk.injEq, and_true] at hqe
    obtain ⟨hrd, rfl, rfl⟩ := hqe
    obtain ⟨hck, hin⟩ := hchk.out rfl
    have hrb := hide (hrr.out rfl)
    rw [hrsl.out] at hkn
    subst hkn
    have hk15 : 1 ≤ k ∧ k ≤ 5 := by have h1 := (check_ok hck).1; have h2 := (check_ok hck).2.1; rw [hn1.out] at h1 h2; exact ⟨h1, h2⟩
    have hck1 : ((checkS S).2.2 == 0) = true := by rw [beq_iff_eq]; exact hck
    rw [hck1] at hV
    have bk : ((k : Int) != (k : Int)) = false := by simp
    replace hrd := hide hrd
    replace hlo := hide hlo
    replace hhi := hide hhi
    replace hins := hide hins
    clear hck hck1 hin hbad hchk hrr hmath hq
    have x0 : w1.cell? ⟨w.heap.size + 2, 0, none⟩ = some (.slice L k cl) := kX.out.cell 0
    go_wp2_with fail
    refine (hV.out _ hB.out).mono ?_
    rintro e w2 ⟨rfl, hb⟩
    replace kS := hide (kS.out.below hb kS.out.lt)
    replace kT := hide (kT.out.below hb kT.out.lt)
    replace kX := hide (kX.out.below hb kX.out.lt)
    replace hB := hide (hB.out.trans (hb.mono hB.out.size))
    clear hb s0 s1 x0 hV
    have s0 : w2.cell? ⟨w.heap.size, 0, none⟩ = some (.slice A k c) := kS.out.cell 0
    have x0 : w2.cell? ⟨w.heap.size + 2, 0, none⟩ = some (.slice L k cl) := kX.out.cell 0
    go_wp2
    have hs2 := hB.out.size
    have hzX := kX.out.lt
    obtain ⟨i0, hi0, hz0, hz1, hz2⟩ := info_parts infoInt
    replace hi0 := hide hi0
    replace hz0 := hide hz0
    replace hz1 := hide hz1
    replace hz2 := hide hz2
    obtain ⟨b, off, rfl, hb0, -⟩ := (hlsB.out w2 hB.out).2.2 (by omega)
    go_loopg [11, 12, 13, 14, 15] k (fun gg s11 s12 s13 s14 _ wr => ∃ (j : Nat) (M : List Int), j ≤ k ∧ k ≤ gg + j ∧ s14 = .int .i64 j ∧ M.length = j ∧ Hid (∀ i, i < j → (rs[i]?.getD (0, 0)).1 ≤ M[i]?.getD 0 ∧ M[i]?.getD 0 ≤ (rs[i]?.getD (0, 0)).2) ∧ Hid (Below w2.heap.size w2 wr) ∧ Hid (OwnT wr w2.heap.size s11 s12 s13 j j j (M.map (Value.int .i64)) (((rs.take j).map (·.1)).map (Value.int .i64)) (((rs.take j).map (·.2)).map (Value.int .i64))))
    case atStart => exact ⟨0, [], Nat.zero_le _, by omega, rfl, rfl, hide (fun i h => absurd h (by omega)), hide (Below.refl _ _), hide (OwnT.nil _ _)⟩
    case round =>
      clear s0 x0
      obtain ⟨j, M, hj, hgg, rfl, hMl, hMb, hBr, hown⟩ := hrel
      have hBw := hide (hB.out.trans (hBr.out.mono hB.out.size))
      have kXr := kX.out.below hBr.out kX.out.lt
      have x0 : wr.cell? ⟨w.heap.size + 2, 0, none⟩ = some (.slice (some ⟨b, off, none⟩) k cl) := kXr.cell 0
      by_cases hlt : j < k
      · have hltz : (j : Int) < (k : Int) := by omega
        obtain ⟨b', off', z0, z1, hA, hbb, hz, d0, d1⟩ := (hlsB.out wr hBw.out).cells2 hlt
        obtain ⟨rfl, rfl⟩ : b = b' ∧ off = off' := by simpa using hA
        clear hA
        have hcell : ((rs.map tkCells)[j]?.getD []) = tkCells (rs[j]?.getD (0, 0)) := by
          rw [map_at tkCells rs j (by rw [hrsl.out]; exact hlt), show rs[j]?.getD default = rs[j]?.getD (0, 0) by rw [List.getElem?_eq_getElem (by rw [hrsl.out]; exact hlt)]; rfl]
        rw [hcell] at hz
        unfold tkCells at hz
        simp only [List.cons.injEq, and_true] at hz
        obtain ⟨rfl, rfl⟩ := hz
        have hrbj := hrb.out j (by rw [hrsl.out]; exact hlt)
        obtain ⟨tl, htl⟩ : ∃ x, (rs[j]?.getD (0, 0)).1 = x := ⟨_, rfl⟩
        obtain ⟨th, hth⟩ : ∃ x, (rs[j]?.getD (0, 0)).2 = x := ⟨_, rfl⟩
        rw [htl] at d0 hrbj
        rw [hth] at d1 hrbj
        have hd0 : decide (th < tl) = false := decide_eq_false (by omega)
        have kb := hide (show Blk (wr.alloc (.cells #[.int .i64 tl, .int .i64 th] 32)) wr.heap.size 32 #[.int .i64 tl, .int .i64 th] from blkNew rfl)
        have kX1 := hide (kXr.alloc (.cells #[.int .i64 tl, .int .i64 th] 32))
        have hBr1 := hide (hBr.out.alloc hBr.out.size (.cells #[.int .i64 tl, .int .i64 th] 32))
        have hBw1 := hide (hBw.out.alloc hBw.out.size (.cells #[.int .i64 tl, .int .i64 th] 32))
        have hfre := hide (FreeT.fresh hown.out (.cells #[.int .i64 tl, .int .i64 th] 32))
        have hown1 := hide (hown.out.below ((Below.refl wr.heap.size wr).alloc (Nat.le_refl _) (.cells #[.int .i64 tl, .int .i64 th] 32)))
        have hsr := hBr.out.size
        replace htl := hide htl
        replace hth := hide hth
        replace hMl := hide hMl
        clear hcell
        go_wp2
        clear d0 d1 x0 hd0
        have hs1 := hBr1.out.size
        generalize hg0 : wr.heap.size = gb at *
        generalize (wr.alloc (.cells #[.int .i64 tl, .int .i64 th] 32)) = w3 at *
        clear hg0
        refine region_inv_at (RdyI w3 w2.heap.size u11 u12 u13 j (M.map (Value.int .i64)) (((rs.take j).map (·.1)).map (Value.int .i64)) (((rs.take j).map (·.2)).map (Value.int .i64)) gb tl th (.pointer (some ⟨w.heap.size + 2, 2, none⟩)) (.slice N nn nc) j) (by kernel_rfl) (by kernel_rfl) ?_ ?_ ?_
        · exact (RdyI.init hs1 hown1.out hfre.out kb.out rfl rfl rfl).below (Below.refl _ _).drew
        · refine ⟨?_, ?_, ?_, ?_, ?_, ?_, ?_, ?_, ?_, ?_, ?_, ?_, ?_, ?_, ?_, ?_, ?_, ?_, ?_, ?_, ?_, ?_, trivial⟩
          all_goals
            intro f y w6 K Q Cv hI hfi hdep hCv
            have hC := hI.1
            have q0 := hI.box.1
            have q1 := hI.box.2
            have q2 : w6.cell? ⟨w.heap.size + 2, 2, none⟩ = some (.slice N nn nc) := (kX1.out.below hC hzX).cell 2
            simp [Region.binds] at hdep
          · have y19 := hI.v0 hfi
            simp only [putAll, Act.put]; go_simp; intro hK; exact hK _ _ (hCv _ _ (hI.o0 rfl))
          · simp only [putAll, Act.put]; go_simp; intro hK; exact hK _ _ (hCv _ _ (hI.o1 rfl))
          · simp only [putAll, Act.put]; go_simp; intro hK; exact hK _ _ (hCv _ _ (hI.o2 rfl))
          · have e2 := hI.u2 (by simp [hdep])
            simp only [putAll, Act.put]; go_simp; intro hK; exact hK _ _ (hCv _ _ (hI.o3 rfl))
          · simp only [putAll, Act.put]; go_simp; intro hK; exact hK _ _ (hCv _ _ (hI.o4 rfl))
          · have e3 := hI.u3 (by simp [hdep])
            have e4 := hI.u4 (by simp [hdep])
            simp only [putAll, Act.put]; go_simp; intro hK
            refine (hTu.out w6 (j : Int) (hBw1.out.trans (hC.mono (Nat.le_trans hs2 (Nat.le_refl _)))) (by omega)).mono ?_
            rintro e w7 ⟨⟨x, rfl, hx0, hx1⟩, rfl⟩
            exact hK _ _ (hCv _ _ (hI.o5 ⟨x, rfl, hx0, hx1⟩))
          · have e1 := hI.u1 (by simp [hdep])
            obtain ⟨x, e5, hx⟩ := hI.u5 (by simp [hdep])
            have hAm := hide (among_any tl th x w6 (by omega) hx)
            simp only [putAll, Act.put]; go_simp; intro hK
            refine hAm.out.mono ?_
            rintro e w7 ⟨⟨z, rfl, hz0, hz1⟩, hb7⟩
            exact hK _ _ (hCv _ _ ((hI.below hb7).o6 hfi ⟨z, rfl, hz0, hz1⟩))
          · obtain ⟨z, e6, hz⟩ := hI.u6 (by simp [hdep])
            have h7 := hide (fun v hv => hI.o7 (v := v) hfi (by simp [hdep]) hv)
            rw [e6] at h7
            simp only [putAll, Act.put]; go_simp; intro hK; exact hK _ _ (hCv _ _ (h7.out _ rfl))
          · have e0 := hI.u0 (by simp [hdep])
            obtain ⟨g, z, e7, e6, hc, ho⟩ := hI.g8 hfi (by simp [hdep])
            intro hK
            refine wanted_if rfl ?_
            refine wp_append_int (.tmp 84) (.tmp 91) rfl w2.heap.size i0 hi0.out hz0.out hz1.out hz2.out u11 j _ (by simp only [putAll, Act.put]; go_simp; try exact e0) ho g 1 z (by simp only [putAll, Act.put]; go_simp; try exact e7) hc (by unfold maxLen; omega) (by omega) (Nat.le_trans (Nat.le_refl _) hI.2.1) ?_
            intro v' w' h1 h2 h3
            exact hK _ _ (hCv _ _ (hI.o8 hfi (by simp [hdep]) (by simp [hdep]) (by rw [e6]; exact h1) h2 h3))
          · have y20 := hI.v9 hfi
            simp only [putAll, Act.put]; go_simp; intro hK; exact hK _ _ (hCv _ _ (hI.o9 rfl))
          · simp only [putAll, Act.put]; go_simp; intro hK; exact hK _ _ (hCv _ _ (hI.o10 rfl))
          · have e10 := hI.u10 (by simp [hdep])
            simp only [putAll, Act.put]; go_simp; intro hK; exact hK _ _ (hCv _ _ (hI.o11 rfl))
          · have e11 := hI.u11 (by simp [hdep])
            simp only [putAll, Act.put]; go_simp; intro hK; exact hK _ _ (hCv _ _ (hI.o12 hfi rfl))
          · have e0 := hI.u9 (by simp [hdep])
            obtain ⟨g, e7, hc, ho⟩ := hI.g13 hfi (by simp [hdep])
            intro hK
            refine wanted_if rfl ?_
            refine wp_append_int (.tmp 93) (.tmp 96) rfl w2.heap.size i0 hi0.out hz0.out hz1.out hz2.out u12 j _ (by simp only [putAll, Act.put]; go_simp; try exact e0) ho g 1 tl (by simp only [putAll, Act.put]; go_simp; try exact e7) hc (by unfold maxLen; omega) (by omega) (Nat.le_trans (Nat.le_refl _) hI.2.1) ?_
            intro v' w' h1 h2 h3
            exact hK _ _ (hCv _ _ (hI.o13 hfi (by simp [hdep]) (by simp [hdep]) h1 h2 h3))
          · have y21 := hI.v14 hfi
            simp only [putAll, Act.put]; go_simp; intro hK; exact hK _ _ (hCv _ _ (hI.o14 rfl))
          · simp only [putAll, Act.put]; go_simp; intro hK; exact hK _ _ (hCv _ _ (hI.o15 rfl))
          · have e15 := hI.u15 (by simp [hdep])
            simp only [putAll, Act.put]; go_simp; intro hK; exact hK _ _ (hCv _ _ (hI.o16 rfl))
          · have e16 := hI.u16 (by simp [hdep])
            simp only [putAll, Act.put]; go_simp; intro hK; exact hK _ _ (hCv _ _ (hI.o17 hfi rfl))
          · have e0 := hI.u14 (by simp [hdep])
            obtain ⟨g, e7, hc, ho⟩ := hI.g18 hfi (by simp [hdep])
            intro hK
            refine wanted_if rfl ?_
            refine wp_append_int (.tmp 98) (.tmp 101) rfl w2.heap.size i0 hi0.out hz0.out hz1.out hz2.out u13 j _ (by simp only [putAll, Act.put]; go_simp; try exact e0) ho g 1 th (by simp only [putAll, Act.put]; go_simp; try exact e7) hc (by unfold maxLen; omega) (by omega) (Nat.le_trans (Nat.le_refl _) hI.2.1) ?_
            intro v' w' h1 h2 h3
            exact hK _ _ (hCv _ _ (hI.o18 hfi (by simp [hdep]) (by simp [hdep]) h1 h2 h3))
          · simp only [putAll, Act.put]; go_simp; intro hK; exact hK _ _ (hCv _ _ (hI.o19 (by simp [hdep]) rfl))
          · simp only [putAll, Act.put]; go_simp; intro hK; exact hK _ _ (hCv _ _ (hI.o20 (by simp [hdep]) rfl))
          · simp only [putAll, Act.put]; go_simp; intro hK; exact hK _ _ (hCv _ _ (hI.o21 (by simp [hdep]) rfl))
        intro f y w4 hf hI
        obtain ⟨hC, hs4, z, hz, hown4⟩ := hI.done hf
        have hB4 := hide (hBr1.out.trans hC)
        clear hI hC hf hown1 hfre kb kX1 hBr1 hBw1
        replace hown4 := hide hown4
        simp only [putAll, Act.put]
        simp only [List.setIfInBounds_toArray, List.set_cons_succ, List.set_cons_zero]
        go_wp2
        go_roundg (k - (j + 1))
        case measure => omega
        case rel =>
          refine ⟨j + 1, M ++ [z], by omega, by omega, by go_num, by rw [List.length_append, hMl.out]; rfl, hide fun i hi' => ?_, hB4, ?_⟩
          · by_cases e : i = j
            · subst e
              rw [List.getElem?_append_right (by rw [hMl.out]; exact Nat.le_refl _), hMl.out, Nat.sub_self]
              simp only [List.getElem?_cons_zero, Option.getD_some]
              rw [htl.out, hth.out]
              omega
            · rw [List.getElem?_append_left (by rw [hMl.out]; omega)]
              exact hMb.out i (by omega)
          · have ht1 : rs.take (j + 1) = rs.take j ++ [rs[j]?.getD (0, 0)] := by
              rw [List.take_add_one, List.getElem?_eq_getElem (by rw [hrsl.out]; exact hlt)]; rfl
            rw [ht1]
            simp only [List.map_append, List.map_cons, List.map_nil, htl.out, hth.out]
            exact hown4
      · have hltz : ¬ (j : Int) < (k : Int) := by omega
        obtain rfl : j = k := by omega
        have htk : rs.take j = rs := List.take_of_length_le (by rw [hrsl.out]; exact Nat.le_refl _)
        obtain ⟨ho1, ho2, ho3, -⟩ := hown.out
        rw [htk] at ho2 ho3
        obtain ⟨g1, e1, rfl, -, -, hI1⟩ := inAt_own ho1 hMl hk15.1
        obtain ⟨g2, e2, rfl, -, -, hI2⟩ := inAt_own ho2 (by rw [List.length_map]; exact hrsl.out) hk15.1
        obtain ⟨g3, e3, rfl, -, -, hI3⟩ := inAt_own ho3 (by rw [List.length_map]; exact hrsl.out) hk15.1
        have hr1 := hI1.row
        rw [hMl] at hr1
        have hr2 := hI2.row
        rw [List.length_map, hrsl.out] at hr2
        have hr3 := hI3.row
        rw [List.length_map, hrsl.out] at hr3
        obtain ⟨cM, hcM, hcl, hcu⟩ := hins.out M (by rw [hMl, hrsl.out]) (fun i hi => hMb.out i (by rw [hrsl.out] at hi; exact hi))
        have hE1 := hide (fun W (hb : Below wr.heap.size wr W) => hCh.out W (some ⟨g1, 0, none⟩) j e1 M (hBw.out.trans (hb.mono hBw.out.size)) (hr1.below hb) (by unfold maxLen; omega))
        have hE2 := hide (fun W (hb : Below wr.heap.size wr W) => hCh.out W (some ⟨g2, 0, none⟩) j e2 (rs.map (·.1)) (hBw.out.trans (hb.mono hBw.out.size)) (hr2.below hb) (by unfold maxLen; omega))
        have hE3 := hide (fun W (hb : Below wr.heap.size wr W) => hCh.out W (some ⟨g3, 0, none⟩) j e3 (rs.map (·.2)) (hBw.out.trans (hb.mono hBw.out.size)) (hr3.below hb) (by unfold maxLen; omega))
        rw [hcM] at hE1
        rw [hlo.out] at hE2
        rw [hhi.out] at hE3
        have kTr := kT.out.below hBr.out kT.out.lt
        replace kS := hide (kS.out.below hBr.out kS.out.lt)
        replace kT := hide kTr
        replace kX := hide kXr
        have d1 : decide (cM < lo) = false := decide_eq_false (by omega)
        have d2 : decide (hi < cM) = false := decide_eq_false (by omega)
        have hmt := hm6
        rw [htsl.out] at hmt hrd
        have d3 : decide ((m : Int) < 1) = false := decide_eq_false (by omega)
        have d4 : decide ((6 : Int) < (m : Int)) = false := decide_eq_false (by omega)
        have b1 : (lo != lo) = false := by simp
        have b2 : (hi != hi) = false := by simp
        obtain ⟨M1, hM1⟩ : ∃ M1 : Nat, m - 1 = M1 := ⟨_, rfl⟩
        have hm1 : m = M1 + 1 := by omega
        have hPw := hide (fun W => Power_any M1 W (by omega))
        have hpb := chance_pow hch (k := M1) (by omega)
        rw [hM1] at hrd
        obtain ⟨P, hP⟩ : ∃ P : Int, (1000 : Int) ^ M1 = P := ⟨_, rfl⟩
        rw [hP] at hrd hPw hpb
        have hwP : IntKind.i64.wrap (ch * P) = ch * P := by rw [IntKind.wrap_i64]; omega
        have hw1 : IntKind.i64.wrap ((m : Int) - 1) = (M1 : Int) := by rw [IntKind.wrap_i64]; omega
        have hwN := hide (show 0 ≤ ch * P ∧ ch * P ≤ 1000000000000000000 from hpb)
        have hB3 := hBw
        have hBx := hide (Below.refl wr.heap.size wr)
        have s0 : wr.cell? ⟨w.heap.size, 0, none⟩ = some (.slice A j c) := kS.out.cell 0
        have s1 : wr.cell? ⟨w.heap.size, 1, none⟩ = some (.slice A2 n2 c2) := kS.out.cell 1
        have t0 : wr.cell? ⟨w.heap.size + 1, 0, none⟩ = some (.slice B m cb) := kT.out.cell 0
        have t1 : wr.cell? ⟨w.heap.size + 1, 1, none⟩ = some (.int .i64 al) := kT.out.cell 1
        replace hcl := hide hcl
        replace hcu := hide hcu
        replace hm1 := hide hm1
        clear hown ho1 ho2 ho3 hI1 hI2 hI3 hr1 hr2 hr3 hins hlo hhi hMb hMl hcM kTr kXr htk hTu hCh hBr hBw hP hM1 hpb hm6 hmt hrb
        go_wp2_with fail
        refine (hE1.out _ hBx.out).mono ?_
        rintro e w3 ⟨rfl, hb⟩
        replace kS := hide (kS.out.below hb kS.out.lt)
        replace kT := hide (kT.out.below hb kT.out.lt)
        replace kX := hide (kX.out.below hb kX.out.lt)
        replace hB3 := hide (hB3.out.trans (hb.mono hB3.out.size))
        replace hBx := hide (hBx.out.trans (hb.mono hBx.out.size))
        clear hb s0 s1 t0 t1 x0 hE1
        have s0 : w3.cell? ⟨w.heap.size, 0, none⟩ = some (.slice A j c) := kS.out.cell 0
        have s1 : w3.cell? ⟨w.heap.size, 1, none⟩ = some (.slice A2 n2 c2) := kS.out.cell 1
        have t0 : w3.cell? ⟨w.heap.size + 1, 0, none⟩ = some (.slice B m cb) := kT.out.cell 0
        have t1 : w3.cell? ⟨w.heap.size + 1, 1, none⟩ = some (.int .i64 al) := kT.out.cell 1
        go_wp2_with fail
        refine (hE2.out _ hBx.out).mono ?_
        rintro e w4 ⟨rfl, hb⟩
        replace kS := hide (kS.out.below hb kS.out.lt)
        replace kT := hide (kT.out.below hb kT.out.lt)
        replace kX := hide (kX.out.below hb kX.out.lt)
        replace hB3 := hide (hB3.out.trans (hb.mono hB3.out.size))
        replace hBx := hide (hBx.out.trans (hb.mono hBx.out.size))
        clear hb s0 s1 t0 t1 hE2
        have s0 : w4.cell? ⟨w.heap.size, 0, none⟩ = some (.slice A j c) := kS.out.cell 0
        have s1 : w4.cell? ⟨w.heap.size, 1, none⟩ = some (.slice A2 n2 c2) := kS.out.cell 1
        have t0 : w4.cell? ⟨w.heap.size + 1, 0, none⟩ = some (.slice B m cb) := kT.out.cell 0
        have t1 : w4.cell? ⟨w.heap.size + 1, 1, none⟩ = some (.int .i64 al) := kT.out.cell 1
        go_wp2_with fail
        refine (hE3.out _ hBx.out).mono ?_
        rintro e w5 ⟨rfl, hb⟩
        replace kT := hide (kT.out.below hb kT.out.lt)
        replace kX := hide (kX.out.below hb kX.out.lt)
        replace hB3 := hide (hB3.out.trans (hb.mono hB3.out.size))
        clear hb s0 s1 t0 t1 hE3 kS
        have t0 : w5.cell? ⟨w.heap.size + 1, 0, none⟩ = some (.slice B m cb) := kT.out.cell 0
        clear hBx
        go_wp2
        clear t0
        refine region_grow [IsV (.pointer (some ⟨w.heap.size + 2, 1, none⟩)), IsV (.int .i64 ch), IsV (.pointer (some ⟨w.heap.size + 1, 0, none⟩)), IsV (.slice B m cb), IsV (.int .i64 m), IsV (.int .i64 M1), IsV (.int .i64 P), IsV (.int .i64 (ch * P)), IsV (.int .i64 (ch * P))] (by kernel_rfl) (by kernel_rfl) rfl ?_ ?_ ?_
        · simp [AllStb, IsV.stb]
        · refine ⟨?_, ?_, ?_, ?_, ?_, ?_, ?_, ?_, ?_, trivial⟩
          all_goals
            intro y w6 K Qq Cv hC hd hV
            have q3 : w6.cell? ⟨w.heap.size + 1, 0, none⟩ = some (.slice B m cb) := (kT.out.below hC kT.out.lt).cell 0
            have q5 : w6.cell? ⟨w.heap.size + 2, 1, none⟩ = some (.int .i64 ch) := (kX.out.below hC kX.out.lt).cell 1
          all_goals try (simp [deps, VL, IsV, Region.binds] at hd)
          · simp only [putAll, Act.put]; go_simp; intro hK; exact hK _ _ (hV _ _ hC (Below.refl _ _) rfl)
          · simp only [putAll, Act.put]; go_simp; intro hK; exact hK _ _ (hV _ _ hC (Below.refl _ _) rfl)
          · simp only [putAll, Act.put]; go_simp; intro hK; exact hK _ _ (hV _ _ hC (Below.refl _ _) rfl)
          · simp only [putAll, Act.put]; go_simp; intro hK; exact hK _ _ (hV _ _ hC (Below.refl _ _) rfl)
          · simp only [putAll, Act.put]; go_simp; intro hK; exact hK _ _ (hV _ _ hC (Below.refl _ _) rfl)
          · simp only [putAll, Act.put]; go_simp; intro hK; exact hK _ _ (hV _ _ hC (Below.refl _ _) rfl)
          · simp only [putAll, Act.put]; go_simp; intro hK
            refine (hPw.out w6).mono ?_
            rintro e w7 ⟨rfl, rfl⟩
            exact hK _ _ (hV _ _ hC (Below.refl _ _) rfl)
          · simp only [putAll, Act.put]; go_simp; intro hK; exact hK _ _ (hV _ _ hC (Below.refl _ _) rfl)
          · simp only [putAll, Act.put]; go_simp; intro hK; exact hK _ _ (hV _ _ hC (Below.refl _ _) rfl)
        intro y w6 hC hd
        simp [EndsL, IsV] at hd
        obtain ⟨-, -, -, -, -, -, -, -, d8⟩ := hd
        simp only [putAll, Act.put]
        rw [d8]
        clear d8
        simp only [List.setIfInBounds_toArray, List.set_cons_succ, List.set_cons_zero]
        replace hB3 := hide (hB3.out.trans (hC.mono hB3.out.size))
        clear hC kT kX hwP
        obtain ⟨Wt, hWt⟩ : ∃ x, ch * P = x := ⟨_, rfl⟩
        rw [hWt] at hrd ⊢
        replace hWt := hide hWt
        by_cases hle : Wt ≤ lo
        · have hrt : rd = true := by have := hrd.out; rw [this]; exact decide_eq_true hle
          subst hrt
          have q1 : decide (Wt ≤ lo) = true := decide_eq_true hle
          have q2 : decide (Wt ≤ cM) = true := decide_eq_true (by have := hcl.out; omega)
          replace hle := hide hle
          go_wp2_with fail
          refine (AwakeS _).mono ?_
          rintro e w9 ⟨rfl, hb⟩
          replace hB3 := hide (hB3.out.trans (hb.mono hB3.out.size))
          clear hb
          go_wp2
          go_ret
          exact ⟨rfl, hB3.out⟩
        · have hrt : rd = false := by have := hrd.out; rw [this]; exact decide_eq_false hle
          subst hrt
          have q1 : decide (Wt ≤ lo) = false := decide_eq_false hle
          replace hle := hide hle
          go_wp2_with fail
          refine (AwakeS _).mono ?_
          rintro e w9 ⟨rfl, hb⟩
          replace hB3 := hide (hB3.out.trans (hb.mono hB3.out.size))
          clear hb
          go_wp2
          go_ret
          exact ⟨rfl, hB3.out⟩
end Go.Proofs.Ytkhijdbigpaagaa
