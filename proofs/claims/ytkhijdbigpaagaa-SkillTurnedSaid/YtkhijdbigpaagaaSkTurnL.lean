/-
  The law SkillTurned.
-/
import Derived.Test.YtkhijdbigpaagaaNtu
import Derived.Test.YtkhijdbigpaagaaNl
import Derived.Test.YtkhijdbigpaagaaNda
namespace Go.Proofs.Ytkhijdbigpaagaa
open Go.RowKit RG

set_option maxRecDepth 100000 in
set_option maxHeartbeats 2000000 in
theorem SkillTurned_any (v : Value) (S : Sch) (B L : Option Addr) (m cb k cl : Nat) (ts : List (Int × Int)) (al : Int) (ls : List Int) (wh d : Int) (w : World) (h : RdSch w v S) (ht : RdRow w B m 2 (ts.map tkCells)) (hm : m ≤ maxLen) (hin : RdInts w L k ls) (hk : k ≤ maxLen) (hwh : 0 ≤ wh ∧ wh ≤ 255) (hd : 0 ≤ d ∧ d ≤ 65535) :
    Calls Try.prog 16 #[v, .agg #[.slice B m cb, .int .i64 al], .agg #[.slice L k cl, .int .u8 wh, .int .u16 d]] w fun e w' => e = .returned (.bool true) ∧ Below w.heap.size w w' := by
  clear hwh
  have hCk := hide (fun W (B' L' : Option Addr) (m' cb' k' cl' : Nat) (ts' : List (Int × Int)) (al' : Int) (ls' : List Int) (hb : Below w.heap.size w W) (h2 : RdRow W B' m' 2 (ts'.map tkCells)) (h3 : m' ≤ maxLen) (h4 : RdInts W L' k' ls') (h5 : k' ≤ maxLen) => Chance_any v S B' L' m' cb' k' cl' ts' al' ls' W (h.below hb) h2 h3 h4 h5)
  have htl : ts.length = m := by have := ht.1; simpa using this
  have hll : ls.length = k := hin.1
  have htB := hide (fun W (hb : Below w.heap.size w W) => ht.below hb)
  have hlB := hide (fun W (hb : Below w.heap.size w W) => hin.below hb)
  have hC1 := hide (fun W (hb : Below w.heap.size w W) => hCk.out W B L m cb k cl ts al ls hb (ht.below hb) hm (hin.below hb) hk)
  obtain ⟨A, c, A2, c2, rfl, -⟩ := h
  have hbad := fun h => chance_bad (S := S) (ts := ts) (al := al) (ls := ls) h
  have hpar := fun h => chance_parts (S := S) (ts := ts) (al := al) (ls := ls) h
  obtain ⟨q, hq⟩ : ∃ q, chanceF S ts al ls = q := ⟨_, rfl⟩
  rw [hq] at hC1 hbad hpar
  obtain ⟨q0, q1⟩ := q
  simp only at hC1 hbad hpar
  clear ht hin
  replace hq := hide hq
  replace hbad := hide hbad
  replace hpar := hide hpar
  obtain ⟨n1, hn1⟩ : ∃ n, S.sks.length = n := ⟨_, rfl⟩
  rw [hn1] at hC1 hCk ⊢
  generalize S.ins.length = n2 at *
  replace hn1 := hide hn1
  replace htl := hide htl
  replace hll := hide hll
  obtain ⟨W0, hW0⟩ : ∃ W0, ((w.alloc (.cells #[.slice A n1 c, .slice A2 n2 c2] 25)).alloc (.cells #[.slice B m cb, .int .i64 al] 48)).alloc (.cells #[.slice L k cl, .int .u8 wh, .int .u16 d] 98) = W0 := ⟨_, rfl⟩
  have kS := hide (show Blk W0 w.heap.size 25 #[.slice A n1 c, .slice A2 n2 c2] by rw [← hW0]; exact ((blkNew rfl).alloc _).alloc _)
  have kT := hide (show Blk W0 (w.heap.size + 1) 48 #[.slice B m cb, .int .i64 al] by rw [← hW0]; exact (blkNew (by simp)).alloc _)
  have kX := hide (show Blk W0 (w.heap.size + 2) 98 #[.slice L k cl, .int .u8 wh, .int .u16 d] by rw [← hW0]; exact blkNew (by simp +arith))
  have hB := hide (show Below w.heap.size w W0 by rw [← hW0]; exact (((Below.refl _ _).alloc (Nat.le_refl _) _).alloc (by simp) _).alloc (by simp +arith) _)
  have s0 : W0.cell? ⟨w.heap.size, 0, none⟩ = some (.slice A n1 c) := kS.out.cell 0
  have s1 : W0.cell? ⟨w.heap.size, 1, none⟩ = some (.slice A2 n2 c2) := kS.out.cell 1
  have t0 : W0.cell? ⟨w.heap.size + 1, 0, none⟩ = some (.slice B m cb) := kT.out.cell 0
  have t1 : W0.cell? ⟨w.heap.size + 1, 1, none⟩ = some (.int .i64 al) := kT.out.cell 1
  have x0 : W0.cell? ⟨w.heap.size + 2, 0, none⟩ = some (.slice L k cl) := kX.out.cell 0
  rw [← hW0] at s0 s1 t0 t1 x0
  replace hW0 := hide hW0
  go_enter Try.func16, Try.ntmps16
  go_wp2_with fail
  rw [hW0.out]
  refine (hC1.out _ hB.out).mono ?_
  rintro e w1 ⟨rfl, hb⟩
  replace kS := hide (kS.out.below hb kS.out.lt)
  replace kT := hide (kT.out.below hb kT.out.lt)
  replace kX := hide (kX.out.below hb kX.out.lt)
  replace hB := hide (hB.out.trans (hb.mono hB.out.size))
  clear hb s0 s1 t0 t1 x0 hC1 hW0
  have s0 : w1.cell? ⟨w.heap.size, 0, none⟩ = some (.slice A n1 c) := kS.out.cell 0
  have s1 : w1.cell? ⟨w.heap.size, 1, none⟩ = some (.slice A2 n2 c2) := kS.out.cell 1
  by_cases h0 : q1 = 0
  · subst h0
    obtain ⟨hte, hlen, hall⟩ := hpar.out rfl
    obtain ⟨hckz, hm16, -, -⟩ := test_parts hte
    have hk1 : 1 ≤ k := by have h1 := (check_ok hckz).1; rw [← hlen] at h1; rw [hll.out] at h1; exact h1
    have hm1 : 1 ≤ m ∧ m ≤ 6 := by rw [← htl.out]; exact hm16
    have hqz := hide (show chanceF S ts al ls = (q0, 0) from hq.out)
    clear hte hckz hm16 hlen hall hpar hbad hq hn1
    have b1 : ((0 : Int) != 0) = false := rfl
    have t1 : w1.cell? ⟨w.heap.size + 1, 1, none⟩ = some (.int .i64 al) := kT.out.cell 1
    have hsz1 := hB.out.size
    have zS := kS.out.lt
    have zT := kT.out.lt
    have zX := kX.out.lt
    obtain ⟨i0, hi0, hz0, hz1, hz2⟩ := info_parts infoTk
    replace hi0 := hide hi0
    replace hz0 := hide hz0
    replace hz1 := hide hz1
    replace hz2 := hide hz2
    have kG0 := hide (show Blk (w1.alloc (.cells #[.slice none 0 0, .int .i64 al] 48)) w1.heap.size 48 #[.slice none 0 0, .int .i64 al] from blkNew rfl)
    have hBa := hide ((Below.refl w1.heap.size w1).alloc (Nat.le_refl _) (.cells #[.slice none 0 0, .int .i64 al] 48))
    go_wp2
    clear s0 s1 t1
    go_loopg [10, 11] m (fun gg s10 _ wr => ∃ (i : Nat) (T : List Sp) (vo : Value), i ≤ m ∧ m ≤ gg + i ∧ s10 = .int .i64 i ∧ Hid (Below w1.heap.size w1 wr) ∧ Hid (T.Perm (ts.take i)) ∧ Hid (Blk wr w1.heap.size 48 #[vo, .int .i64 al]) ∧ Hid (OwnK wr (w1.heap.size + 1) vo i T) ∧ (i = 0 → vo = .slice none 0 0))
    case atStart => exact ⟨0, [], _, Nat.zero_le _, by omega, rfl, hBa, hide (List.Perm.refl _), kG0, hide (World.ownsRow_nil _ _ _ _), fun _ => rfl⟩
    case round =>
      clear kG0 hBa
      obtain ⟨i, T, vo, hi, hgg, rfl, hBr, hT, kG, hown, hv0⟩ := hrel
      have hBw := hide (hB.out.trans (hBr.out.mono hsz1))
      have kSr := hide (kS.out.below hBr.out zS)
      have kTr := hide (kT.out.below hBr.out zT)
      have kXr := hide (kX.out.below hBr.out zX)
      have t0 : wr.cell? ⟨w.heap.size + 1, 0, none⟩ = some (.slice B m cb) := kTr.out.cell 0
      have hTl : T.length = i := by rw [hT.out.length_eq, List.length_take, htl.out]; omega
      by_cases hlt : i < m
      · have hltz : (i : Int) < (m : Int) := by omega
        obtain ⟨b, off, z0, z1, rfl, hbl, e1, r0, r1⟩ := (htB.out _ hBw.out).cells2 hlt
        rw [map_at tkCells ts i (by rw [htl.out]; exact hlt), show ts[i]?.getD default = ts[i]?.getD (0, 0) by rw [List.getElem?_eq_getElem (by rw [htl.out]; exact hlt)]; rfl] at e1
        unfold tkCells at e1
        simp only [List.cons.injEq, and_true] at e1
        obtain ⟨rfl, rfl⟩ := e1
        obtain ⟨xc, hx0⟩ : ∃ x, (ts[i]?.getD (0, 0)).1 = x := ⟨_, rfl⟩
        obtain ⟨xk, hx1⟩ : ∃ x, (ts[i]?.getD (0, 0)).2 = x := ⟨_, rfl⟩
        rw [hx0] at r0
        rw [hx1] at r1
        replace r0 := hide r0
        replace r1 := hide r1
        replace hx0 := hide hx0
        replace hx1 := hide hx1
        obtain ⟨Av, cap, hvo⟩ : ∃ Av cap, vo = .slice Av i cap := by
          rcases hown.out.2 with ⟨e, e0⟩ | ⟨g, cap, cur, e, -⟩
          · exact ⟨none, 0, by rw [e, e0]⟩
          · exact ⟨_, _, e⟩
        subst hvo
        obtain ⟨q, hq⟩ : ∃ q, d.tdiv ((i : Int) + 1) = q := ⟨_, rfl⟩
        have hq0 : 0 ≤ q ∧ q ≤ 65535 := by
          rw [← hq, Int.tdiv_eq_ediv_of_nonneg hd.1]
          exact ⟨Int.ediv_nonneg hd.1 (by omega), Int.le_trans (Int.ediv_le_self _ hd.1) hd.2⟩
        obtain ⟨a, ha⟩ : ∃ a : Nat, q.tmod ((i : Int) + 1) = (a : Int) := ⟨(q.tmod ((i : Int) + 1)).toNat, by rw [Int.toNat_of_nonneg (Int.tmod_nonneg _ hq0.1)]⟩
        have hai : a ≤ i := by
          have := Int.tmod_lt_of_pos q (show (0 : Int) < (i : Int) + 1 by omega)
          rw [ha] at this; omega
        have w1' : IntKind.i64.wrap ((i : Int) + 1) = (i : Int) + 1 := by rw [IntKind.wrap_i64]; omega
        have w2' : IntKind.i64.wrap d = d := by rw [IntKind.wrap_i64]; omega
        have w3' : IntKind.i64.wrap q = q := by rw [IntKind.wrap_i64]; omega
        have w4' : IntKind.i64.wrap (a : Int) = (a : Int) := by rw [IntKind.wrap_i64]; omega
        have i1b : (((i : Int) + 1) == 0) = false := by rw [beq_eq_false_iff_ne]; omega
        have i1n : ¬ (i : Int) + 1 = 0 := by omega
        replace hTl := hide hTl
        replace hv0 := hide hv0
        go_wp2
        clear t0
        refine region_grow [IsV (.pointer (some ⟨w.heap.size + 2, 2, none⟩)), IsV (.int .u16 d), IsV (.int .i64 d), IsV (.int .i64 i), IsV (.int .i64 ((i : Int) + 1)), IsV (.int .i64 q), IsV (.pointer (some ⟨w1.heap.size, 0, none⟩)), IsV (.slice Av i cap), IsV (.int .i64 i), IsV (.int .i64 ((i : Int) + 1)), IsV (.int .i64 a), IsV (.int .i64 a)] (by kernel_rfl) (by kernel_rfl) rfl ?_ ?_ ?_
        · simp [AllStb, IsV.stb]
        · refine ⟨?_, ?_, ?_, ?_, ?_, ?_, ?_, ?_, ?_, ?_, ?_, ?_, trivial⟩
          all_goals
            intro y w6 K Qq Cv hC hd2 hV
            have q1 : w6.cell? ⟨w.heap.size + 2, 2, none⟩ = some (.int .u16 d) := (kXr.out.below hC kXr.out.lt).cell 2
            have q2 : w6.cell? ⟨w1.heap.size, 0, none⟩ = some (.slice Av i cap) := (kG.out.below hC kG.out.lt).cell 0
          all_goals try (simp [deps, VL, IsV, Region.binds] at hd2)
          · simp only [putAll, Act.put]; go_simp; intro hK; exact hK _ _ (hV _ _ hC (Below.refl _ _) rfl)
          · simp only [putAll, Act.put]; go_simp; intro hK; exact hK _ _ (hV _ _ hC (Below.refl _ _) rfl)
          · simp only [putAll, Act.put]; go_simp; intro hK; exact hK _ _ (hV _ _ hC (Below.refl _ _) rfl)
          · simp only [putAll, Act.put]; go_simp; intro hK; exact hK _ _ (hV _ _ hC (Below.refl _ _) rfl)
          · simp only [putAll, Act.put]; go_simp; intro hK; exact hK _ _ (hV _ _ hC (Below.refl _ _) rfl)
          · simp only [putAll, Act.put]; go_simp; intro hK; exact hK _ _ (hV _ _ hC (Below.refl _ _) rfl)
          · simp only [putAll, Act.put]; go_simp; intro hK; exact hK _ _ (hV _ _ hC (Below.refl _ _) rfl)
          · simp only [putAll, Act.put]; go_simp; intro hK; exact hK _ _ (hV _ _ hC (Below.refl _ _) rfl)
          · simp only [putAll, Act.put]; go_simp; intro hK; exact hK _ _ (hV _ _ hC (Below.refl _ _) rfl)
          · simp only [putAll, Act.put]; go_simp; intro hK; exact hK _ _ (hV _ _ hC (Below.refl _ _) rfl)
          · simp only [putAll, Act.put]; go_simp; intro hK; exact hK _ _ (hV _ _ hC (Below.refl _ _) rfl)
          · simp only [putAll, Act.put]; go_simp; intro hK; exact hK _ _ (hV _ _ hC (Below.refl _ _) rfl)
        intro y w5 hC hd2
        simp [EndsL, IsV] at hd2
        obtain ⟨-, -, -, -, -, -, -, -, -, -, -, d11⟩ := hd2
        simp only [putAll, Act.put]
        rw [d11]
        clear d11 hq ha hq0 w1' w2' w3' w4' i1b i1n
        simp only [List.setIfInBounds_toArray, List.set_cons_succ, List.set_cons_zero]
        have hs5 := hC.size
        replace kG := hide (kG.out.below hC kG.out.lt)
        replace kTr := hide (kTr.out.below hC kTr.out.lt)
        replace hown := hide (own_below hown.out hC)
        replace hBr := hide (hBr.out.trans (hC.mono hBr.out.size))
        have hs6 := hBr.out.size
        have r0' : w5.cell? ⟨b, off + i * 2, none⟩ = some (.int .i64 xc) := (cellB (o := off + i * 2) hC hbl).trans r0.out
        have r1' : w5.cell? ⟨b, off + i * 2 + 1, none⟩ = some (.int .i64 xk) := (cellB (o := off + i * 2 + 1) hC hbl).trans r1.out
        replace r0 := hide r0'
        replace r1 := hide r1'
        replace hbl : b < w5.heap.size := by omega
        clear hC r0' r1' hBw kSr kXr
        by_cases hi0' : i = 0
        · subst hi0'
          have hvv := hv0.out rfl
          injection hvv with hA _ hcp
          subst hA hcp
          obtain rfl : a = 0 := by omega
          have hT0 : T = [] := List.eq_nil_of_length_eq_zero hTl.out
          have hR1 := hide (show RdRow w5 none 0 2 ((T.take 0).map tkCells) ∧ (none = (none : Option Addr) → 0 = 0) from ⟨RdRow.nil _ _ _, fun _ => rfl⟩)
          have hR2 := hide (show RdRow w5 none (0 - 0) 2 ((T.drop 0).map tkCells) ∧ (none = (none : Option Addr) → 0 = 0) from ⟨by rw [hT0]; exact RdRow.nil _ _ _, fun _ => rfl⟩)
          clear hT0
          go_wp2
          refine region_inv_at (TrnI w5 w1.heap.size (.slice none 0 0) (.slice none 0 0) (.slice none (0 - 0) 0) (.slice (some ⟨b, off, none⟩) m cb) (.pointer (some ⟨b, off + 0 * 2, none⟩)) (w.heap.size + 1) 0 0 (T.take 0) (T.drop 0) xc xk) (by kernel_rfl) (by kernel_rfl) ?_ ?_ ?_
          · exact .inl ⟨rfl, TrnC.below (TrnC.init trivial) (Below.refl _ _).drew⟩
          · refine ⟨?_, ?_, ?_, ?_, ?_, ?_, ?_, ?_, ?_, ?_, ?_, ?_, ?_, ?_, ?_, ?_, ?_, ?_, ?_, ?_, trivial⟩
            all_goals
              intro f y w6 K Q Cv hI0 hfi hdep hCv
              obtain ⟨h19, hI⟩ := hI0.core (by decide) hfi
              have hC := hI.1
              have q0 : w6.cell? ⟨w1.heap.size, 0, none⟩ = some (.slice none 0 0) := (kG.out.below hC kG.out.lt).cell 0
              have q1 : w6.cell? ⟨w.heap.size + 1, 0, none⟩ = some (.slice (some ⟨b, off, none⟩) m cb) := (kTr.out.below hC kTr.out.lt).cell 0
              have q2 : w6.cell? ⟨b, off, none⟩ = some (.int .i64 xc) := by simpa using (cellB (o := off + 0 * 2) hC hbl).trans r0.out
              have q3 : w6.cell? ⟨b, off + 1, none⟩ = some (.int .i64 xk) := by simpa using (cellB (o := off + 0 * 2 + 1) hC hbl).trans r1.out
              simp [Region.binds] at hdep
            · simp only [putAll, Act.put]; go_simp; intro hK; exact hK _ _ (hCv _ _ ((hI.o0 hfi rfl).all (by decide) h19))
            · simp only [putAll, Act.put]; go_simp; intro hK; exact hK _ _ (hCv _ _ ((hI.o1 rfl).all (by decide) h19))
            · have e1 := hI.u1 (by simp [hdep]); simp only [putAll, Act.put]; go_simp; intro hK; exact hK _ _ (hCv _ _ ((hI.o2 rfl).all (by decide) h19))
            · simp only [putAll, Act.put]; go_simp; intro hK; exact hK _ _ (hCv _ _ ((hI.o3 rfl).all (by decide) h19))
            · have e2 := hI.u2 (by simp [hdep]); have e3 := hI.u3 (by simp [hdep]); simp only [putAll, Act.put]; go_simp; intro hK; exact hK _ _ (hCv _ _ ((hI.o4 rfl).all (by decide) h19))
            · have e4 := hI.u4 (by simp [hdep])
              have f0 : f 0 = true := by simp [hdep]
              have f4 : f 4 = true := by simp [hdep]
              intro hK
              refine wanted_if rfl ?_
              refine wp_append_tks (.tmp 49) (.tmp 53) rfl w5.heap.size i0 hi0.out hz0.out hz1.out hz2.out (y 0) 0 [] (by simp only [putAll, Act.put]; go_simp) (by simpa [OwnK] using hI.own0 f0 hfi) none 0 0 (T.take 0) (by simp only [putAll, Act.put]; go_simp; try exact e4) (hR1.out.1.below hC) (fun _ => rfl) (by unfold maxLen; omega) (by omega) hC.size ?_
              intro v' w' g1 g2 g3
              exact hK _ _ (hCv _ _ ((hI.o5 hfi f0 f4 (by simpa [OwnK] using g1) g2 g3).all (by decide) h19))
            · simp only [putAll, Act.put]; go_simp; intro hK; exact hK _ _ (hCv _ _ ((hI.o6 rfl).all (by decide) h19))
            · have e6 := hI.u6 (by simp [hdep]); simp only [putAll, Act.put]; go_simp; intro hK; exact hK _ _ (hCv _ _ ((hI.o7 rfl).all (by decide) h19))
            · simp only [putAll, Act.put]; go_simp; intro hK; exact hK _ _ (hCv _ _ ((hI.o8 rfl).all (by decide) h19))
            · have e7 := hI.u7 (by simp [hdep]); have e8 := hI.u8 (by simp [hdep]); simp only [putAll, Act.put]; go_simp; intro hK; exact hK _ _ (hCv _ _ ((hI.o9 rfl).all (by decide) h19))
            · have e9 := hI.u9 (by simp [hdep]); simp only [putAll, Act.put]; go_simp; intro hK; exact hK _ _ (hCv _ _ ((hI.o10 rfl).all (by decide) h19))
            · have e10 := hI.u10 (by simp [hdep]); simp only [putAll, Act.put]; go_simp; intro hK; exact hK _ _ (hCv _ _ ((hI.o11 hfi rfl).all (by decide) h19))
            · have f5 : f 5 = true := by simp [hdep]
              have f11 : f 11 = true := by simp [hdep]
              obtain ⟨o5, g, e11, hg⟩ := hI.own5 f5 hfi f11
              intro hK
              refine wanted_if rfl ?_
              refine wp_append_tks (.tmp 54) (.tmp 60) rfl w5.heap.size i0 hi0.out hz0.out hz1.out hz2.out (y 5) 0 _ (by simp only [putAll, Act.put]; go_simp) o5 (some ⟨g, 0, none⟩) 1 1 [(xc, xk)] (by simp only [putAll, Act.put]; go_simp; try exact e11) (row1_blk hg) (fun e => by cases e) (by unfold maxLen; omega) (by omega) hC.size ?_
              intro v' w' g1 g2 g3
              exact hK _ _ (hCv _ _ ((hI.o12 hfi f5 f11 (by unfold OwnK; rw [List.flatMap_append]; exact g1) g2).all (by decide) h19))
            · simp only [putAll, Act.put]; go_simp; intro hK; exact hK _ _ (hCv _ _ ((hI.o13 rfl).all (by decide) h19))
            · have e13 := hI.u13 (by simp [hdep]); simp only [putAll, Act.put]; go_simp; intro hK; exact hK _ _ (hCv _ _ ((hI.o14 rfl).all (by decide) h19))
            · simp only [putAll, Act.put]; go_simp; intro hK; exact hK _ _ (hCv _ _ ((hI.o15 rfl).all (by decide) h19))
            · have e14 := hI.u14 (by simp [hdep]); have e15 := hI.u15 (by simp [hdep]); simp only [putAll, Act.put]; go_simp; intro hK; exact hK _ _ (hCv _ _ ((hI.o16 rfl).all (by decide) h19))
            · have e16 := hI.u16 (by simp [hdep])
              have f12 : f 12 = true := by simp [hdep]
              have f16 : f 16 = true := by simp [hdep]
              have o12 := hI.own12 f12 hfi
              intro hK
              refine wanted_if rfl ?_
              refine wp_append_tks (.tmp 61) (.tmp 65) rfl w5.heap.size i0 hi0.out hz0.out hz1.out hz2.out (y 12) (0 + 1) _ (by simp only [putAll, Act.put]; go_simp) o12 none (0 - 0) 0 (T.drop 0) (by simp only [putAll, Act.put]; go_simp; try exact e16) (hR2.out.1.below hC) (fun _ => rfl) (by unfold maxLen; omega) (by omega) hC.size ?_
              intro v' w' g1 g2 g3
              exact hK _ _ (hCv _ _ ((hI.o17 hfi f12 f16 (by unfold OwnK; rw [List.flatMap_append]; rw [show 0 + 1 + (0 - 0) = 0 + 1 by omega] at g1; exact g1) g2).all (by decide) h19))
            · simp only [putAll, Act.put]; go_simp; intro hK; exact hK _ _ (hCv _ _ ((hI.o18 rfl).all (by decide) h19))
            · have e18 := hI.u18 (by simp [hdep])
              have o17 := hI.own17 (by simp [hdep])
              obtain ⟨g17, k17, e17⟩ := own_slice o17
              have fz : w6.frozen? ⟨w1.heap.size, 0, none⟩ = false := (kG.out.below hC kG.out.lt).frozen 0
              have hall : ∀ k, k < 19 → f k = true := by
                have hd := hdep
                intro k hk
                have hk : k = 0 ∨ k = 1 ∨ k = 2 ∨ k = 3 ∨ k = 4 ∨ k = 5 ∨ k = 6 ∨ k = 7 ∨ k = 8 ∨ k = 9 ∨ k = 10 ∨ k = 11 ∨ k = 12 ∨ k = 13 ∨ k = 14 ∨ k = 15 ∨ k = 16 ∨ k = 17 ∨ k = 18 := by omega
                rcases hk with rfl | rfl | rfl | rfl | rfl | rfl | rfl | rfl | rfl | rfl | rfl | rfl | rfl | rfl | rfl | rfl | rfl | rfl | rfl <;> simp [hd]
              simp only [putAll, Act.put]; go_simp; intro hK
              exact hK (.bool true) _ (hCv (.bool true) _ (.inr ⟨by simp, fun k hk => by simp [hall k hk], w6, y 17, hC, o17, by rw [e17]⟩))
          intro f y w6 hf hI
          rcases hI with ⟨h19, -⟩ | ⟨-, -, w7, v', hC, hown7, rfl⟩
          · rw [hf 19 (by decide)] at h19; cases h19
          simp only [putAll, Act.put]
          simp only [List.setIfInBounds_toArray, List.set_cons_succ, List.set_cons_zero]
          have zG := kG.out.lt
          have hown8 := hide (ownsRow_setCell_below (a := ⟨w1.heap.size, 0, none⟩) (own_lower hown7 (base' := w1.heap.size + 1) (by omega)) (by simp) v')
          have kG8 := hide (show Blk (w7.setCell ⟨w1.heap.size, 0, none⟩ v') w1.heap.size 48 #[v', .int .i64 al] by
            have := (kG.out.below hC kG.out.lt).set_ 0 v'
            simpa using this)
          have hBr8 := hide ((hBr.out.trans (hC.mono hBr.out.size)).setCell (p := ⟨w1.heap.size, 0, none⟩) (Nat.le_refl _) v')
          have hpm := hide (put_perm (a := 0) (by rw [htl.out]; exact hlt) hT.out)
          rw [hx0.out, hx1.out] at hpm
          clear hC hown7 hf
          go_wp2
          go_roundg (m - (0 + 1))
          case measure => omega
          case rel => exact ⟨0 + 1, _, v', by omega, by omega, by go_num, hBr8, hpm, kG8, hown8, fun h => absurd h (by omega)⟩
        · obtain ⟨gv, cap', hvv, hgv, hic, hTk⟩ := tkAt_own hown.out hTl.out (by omega)
          injection hvv with hA _ hcp
          subst hA hcp
          have hrow := hTk.row
          rw [hTl.out] at hrow
          have hR1 := hide (show RdRow w5 (some ⟨gv, 0, none⟩) a 2 ((T.take a).map tkCells) ∧ (some ⟨gv, 0, none⟩ = (none : Option Addr) → cap = 0) from ⟨by rw [List.map_take]; exact hrow.take hai, fun e => by cases e⟩)
          have hR2 := hide (show RdRow w5 (if cap = a then some ⟨gv, 0, none⟩ else some ⟨gv, a * 2, none⟩) (i - a) 2 ((T.drop a).map tkCells) ∧ ((if cap = a then some ⟨gv, 0, none⟩ else some ⟨gv, a * 2, none⟩) = (none : Option Addr) → cap - a = 0) from ⟨row_drop hrow hai hic, fun e => by split at e <;> cases e⟩)
          have haz : (a : Int) ≤ (i : Int) := by omega
          have ha0 : (0 : Int) ≤ (a : Int) := by omega
          have hac : a ≤ cap := by omega
          clear hrow hTk
          replace hi0' := hide hi0'
          go_wp2
          refine region_inv_at (TrnI w5 w1.heap.size (.slice (some ⟨gv, 0, none⟩) i cap) (.slice (some ⟨gv, 0, none⟩) a cap) (.slice (if cap = a then some ⟨gv, 0, none⟩ else some ⟨gv, a * 2, none⟩) (i - a) (cap - a)) (.slice (some ⟨b, off, none⟩) m cb) (.pointer (some ⟨b, off + i * 2, none⟩)) (w.heap.size + 1) a i (T.take a) (T.drop a) xc xk) (by kernel_rfl) (by kernel_rfl) ?_ ?_ ?_
          · exact .inl ⟨rfl, TrnC.below (TrnC.init trivial) (Below.refl _ _).drew⟩
          · refine ⟨?_, ?_, ?_, ?_, ?_, ?_, ?_, ?_, ?_, ?_, ?_, ?_, ?_, ?_, ?_, ?_, ?_, ?_, ?_, ?_, trivial⟩
            all_goals
              intro f y w6 K Q Cv hI0 hfi hdep hCv
              obtain ⟨h19, hI⟩ := hI0.core (by decide) hfi
              have hC := hI.1
              have q0 : w6.cell? ⟨w1.heap.size, 0, none⟩ = some (.slice (some ⟨gv, 0, none⟩) i cap) := (kG.out.below hC kG.out.lt).cell 0
              have q1 : w6.cell? ⟨w.heap.size + 1, 0, none⟩ = some (.slice (some ⟨b, off, none⟩) m cb) := (kTr.out.below hC kTr.out.lt).cell 0
              have q2 : w6.cell? ⟨b, off + i * 2, none⟩ = some (.int .i64 xc) := by simpa using (cellB (o := off + i * 2) hC hbl).trans r0.out
              have q3 : w6.cell? ⟨b, off + i * 2 + 1, none⟩ = some (.int .i64 xk) := by simpa using (cellB (o := off + i * 2 + 1) hC hbl).trans r1.out
              simp [Region.binds] at hdep
            · simp only [putAll, Act.put]; go_simp; intro hK; exact hK _ _ (hCv _ _ ((hI.o0 hfi rfl).all (by decide) h19))
            · simp only [putAll, Act.put]; go_simp; intro hK; exact hK _ _ (hCv _ _ ((hI.o1 rfl).all (by decide) h19))
            · have e1 := hI.u1 (by simp [hdep]); simp only [putAll, Act.put]; go_simp; intro hK; exact hK _ _ (hCv _ _ ((hI.o2 rfl).all (by decide) h19))
            · simp only [putAll, Act.put]; go_simp; intro hK; exact hK _ _ (hCv _ _ ((hI.o3 rfl).all (by decide) h19))
            · have e2 := hI.u2 (by simp [hdep]); have e3 := hI.u3 (by simp [hdep]); simp only [putAll, Act.put]; go_simp; intro hK; exact hK _ _ (hCv _ _ ((hI.o4 rfl).all (by decide) h19))
            · have e4 := hI.u4 (by simp [hdep])
              have f0 : f 0 = true := by simp [hdep]
              have f4 : f 4 = true := by simp [hdep]
              intro hK
              refine wanted_if rfl ?_
              refine wp_append_tks (.tmp 49) (.tmp 53) rfl w5.heap.size i0 hi0.out hz0.out hz1.out hz2.out (y 0) 0 [] (by simp only [putAll, Act.put]; go_simp) (by simpa [OwnK] using hI.own0 f0 hfi) (some ⟨gv, 0, none⟩) a cap (T.take a) (by simp only [putAll, Act.put]; go_simp; try exact e4) (hR1.out.1.below hC) (fun e => by cases e) (by unfold maxLen; omega) (by omega) hC.size ?_
              intro v' w' g1 g2 g3
              exact hK _ _ (hCv _ _ ((hI.o5 hfi f0 f4 (by simpa [OwnK] using g1) g2 g3).all (by decide) h19))
            · simp only [putAll, Act.put]; go_simp; intro hK; exact hK _ _ (hCv _ _ ((hI.o6 rfl).all (by decide) h19))
            · have e6 := hI.u6 (by simp [hdep]); simp only [putAll, Act.put]; go_simp; intro hK; exact hK _ _ (hCv _ _ ((hI.o7 rfl).all (by decide) h19))
            · simp only [putAll, Act.put]; go_simp; intro hK; exact hK _ _ (hCv _ _ ((hI.o8 rfl).all (by decide) h19))
            · have e7 := hI.u7 (by simp [hdep]); have e8 := hI.u8 (by simp [hdep]); simp only [putAll, Act.put]; go_simp; intro hK; exact hK _ _ (hCv _ _ ((hI.o9 rfl).all (by decide) h19))
            · have e9 := hI.u9 (by simp [hdep]); simp only [putAll, Act.put]; go_simp; intro hK; exact hK _ _ (hCv _ _ ((hI.o10 rfl).all (by decide) h19))
            · have e10 := hI.u10 (by simp [hdep]); simp only [putAll, Act.put]; go_simp; intro hK; exact hK _ _ (hCv _ _ ((hI.o11 hfi rfl).all (by decide) h19))
            · have f5 : f 5 = true := by simp [hdep]
              have f11 : f 11 = true := by simp [hdep]
              obtain ⟨o5, g, e11, hg⟩ := hI.own5 f5 hfi f11
              intro hK
              refine wanted_if rfl ?_
              refine wp_append_tks (.tmp 54) (.tmp 60) rfl w5.heap.size i0 hi0.out hz0.out hz1.out hz2.out (y 5) a _ (by simp only [putAll, Act.put]; go_simp) o5 (some ⟨g, 0, none⟩) 1 1 [(xc, xk)] (by simp only [putAll, Act.put]; go_simp; try exact e11) (row1_blk hg) (fun e => by cases e) (by unfold maxLen; omega) (by omega) hC.size ?_
              intro v' w' g1 g2 g3
              exact hK _ _ (hCv _ _ ((hI.o12 hfi f5 f11 (by unfold OwnK; rw [List.flatMap_append]; exact g1) g2).all (by decide) h19))
            · simp only [putAll, Act.put]; go_simp; intro hK; exact hK _ _ (hCv _ _ ((hI.o13 rfl).all (by decide) h19))
            · have e13 := hI.u13 (by simp [hdep]); simp only [putAll, Act.put]; go_simp; intro hK; exact hK _ _ (hCv _ _ ((hI.o14 rfl).all (by decide) h19))
            · simp only [putAll, Act.put]; go_simp; intro hK; exact hK _ _ (hCv _ _ ((hI.o15 rfl).all (by decide) h19))
            · have e14 := hI.u14 (by simp [hdep]); have e15 := hI.u15 (by simp [hdep]); simp only [putAll, Act.put]; go_simp; intro hK; exact hK _ _ (hCv _ _ ((hI.o16 rfl).all (by decide) h19))
            · have e16 := hI.u16 (by simp [hdep])
              have f12 : f 12 = true := by simp [hdep]
              have f16 : f 16 = true := by simp [hdep]
              have o12 := hI.own12 f12 hfi
              intro hK
              refine wanted_if rfl ?_
              refine wp_append_tks (.tmp 61) (.tmp 65) rfl w5.heap.size i0 hi0.out hz0.out hz1.out hz2.out (y 12) (a + 1) _ (by simp only [putAll, Act.put]; go_simp) o12 (if cap = a then some ⟨gv, 0, none⟩ else some ⟨gv, a * 2, none⟩) (i - a) (cap - a) (T.drop a) (by simp only [putAll, Act.put]; go_simp; try exact e16) (hR2.out.1.below hC) (fun e => by split at e <;> cases e) (by unfold maxLen; omega) (by omega) hC.size ?_
              intro v' w' g1 g2 g3
              exact hK _ _ (hCv _ _ ((hI.o17 hfi f12 f16 (by unfold OwnK; rw [List.flatMap_append]; rw [show a + 1 + (i - a) = i + 1 by omega] at g1; exact g1) g2).all (by decide) h19))
            · simp only [putAll, Act.put]; go_simp; intro hK; exact hK _ _ (hCv _ _ ((hI.o18 rfl).all (by decide) h19))
            · have e18 := hI.u18 (by simp [hdep])
              have o17 := hI.own17 (by simp [hdep])
              obtain ⟨g17, k17, e17⟩ := own_slice o17
              have fz : w6.frozen? ⟨w1.heap.size, 0, none⟩ = false := (kG.out.below hC kG.out.lt).frozen 0
              have hall : ∀ k, k < 19 → f k = true := by
                have hd := hdep
                intro k hk
                have hk : k = 0 ∨ k = 1 ∨ k = 2 ∨ k = 3 ∨ k = 4 ∨ k = 5 ∨ k = 6 ∨ k = 7 ∨ k = 8 ∨ k = 9 ∨ k = 10 ∨ k = 11 ∨ k = 12 ∨ k = 13 ∨ k = 14 ∨ k = 15 ∨ k = 16 ∨ k = 17 ∨ k = 18 := by omega
                rcases hk with rfl | rfl | rfl | rfl | rfl | rfl | rfl | rfl | rfl | rfl | rfl | rfl | rfl | rfl | rfl | rfl | rfl | rfl | rfl <;> simp [hd]
              simp only [putAll, Act.put]; go_simp; intro hK
              exact hK (.bool true) _ (hCv (.bool true) _ (.inr ⟨by simp, fun k hk => by simp [hall k hk], w6, y 17, hC, o17, by rw [e17]⟩))
          intro f y w6 hf hI
          rcases hI with ⟨h19, -⟩ | ⟨-, -, w7, v', hC, hown7, rfl⟩
          · rw [hf 19 (by decide)] at h19; cases h19
          simp only [putAll, Act.put]
          simp only [List.setIfInBounds_toArray, List.set_cons_succ, List.set_cons_zero]
          have zG := kG.out.lt
          have hown8 := hide (ownsRow_setCell_below (a := ⟨w1.heap.size, 0, none⟩) (own_lower hown7 (base' := w1.heap.size + 1) (by omega)) (by simp) v')
          have kG8 := hide (show Blk (w7.setCell ⟨w1.heap.size, 0, none⟩ v') w1.heap.size 48 #[v', .int .i64 al] by
            have := (kG.out.below hC kG.out.lt).set_ 0 v'
            simpa using this)
          have hBr8 := hide ((hBr.out.trans (hC.mono hBr.out.size)).setCell (p := ⟨w1.heap.size, 0, none⟩) (Nat.le_refl _) v')
          have hpm := hide (put_perm (a := a) (by rw [htl.out]; exact hlt) hT.out)
          rw [hx0.out, hx1.out] at hpm
          clear hC hown7 hf
          go_wp2
          go_roundg (m - (i + 1))
          case measure => omega
          case rel => exact ⟨i + 1, _, v', by omega, by omega, by go_num, hBr8, hpm, kG8, hown8, fun h => absurd h (by omega)⟩
      · have hltz : ¬ (i : Int) < (m : Int) := by omega
        obtain rfl : i = m := by omega
        have hTp : T.Perm ts := by
          have h := hT.out
          rw [List.take_of_length_le (by rw [htl.out]; exact Nat.le_refl _)] at h
          exact h
        obtain ⟨g, cg, rfl, hgb, hgc, hTk⟩ := tkAt_own hown.out hTl hm1.1
        have hrow := hTk.row
        rw [hTl] at hrow
        have hC2 := hCk.out wr (some ⟨g, 0, none⟩) L i cg k cl T al ls hBw.out hrow hm (hlB.out _ hBw.out) hk
        rw [turn_math hTp hqz.out] at hC2
        simp only at hC2
        replace hC2 := hide hC2
        have hsure := hide (fun h6 h5 => sure_math (S := S) (us := T) (al := al) (ls := ls) (turn_math hTp hqz.out) h6 h5)
        have hrowB := hide (fun W (hb : Below wr.heap.size wr W) => hrow.below hb)
        have s0 : wr.cell? ⟨w.heap.size, 0, none⟩ = some (.slice A n1 c) := kSr.out.cell 0
        have s1 : wr.cell? ⟨w.heap.size, 1, none⟩ = some (.slice A2 n2 c2) := kSr.out.cell 1
        have p0 : wr.cell? ⟨w1.heap.size, 0, none⟩ = some (.slice (some ⟨g, 0, none⟩) i cg) := kG.out.cell 0
        have p1 : wr.cell? ⟨w1.heap.size, 1, none⟩ = some (.int .i64 al) := kG.out.cell 1
        have x0 : wr.cell? ⟨w.heap.size + 2, 0, none⟩ = some (.slice L k cl) := kXr.out.cell 0
        replace hTl := hide hTl
        clear hT hTp hTk hrow hv0 hgg hi kTr
        go_wp2_with fail
        refine hC2.out.mono ?_
        rintro e w3 ⟨rfl, hb⟩
        replace hown := hide (own_below hown.out hb)
        replace kG := hide (kG.out.below hb kG.out.lt)
        replace kSr := hide (kSr.out.below hb kSr.out.lt)
        replace kXr := hide (kXr.out.below hb kXr.out.lt)
        replace hBw := hide (hBw.out.trans (hb.mono hBw.out.size))
        replace hBr := hide (hBr.out.trans (hb.mono hBr.out.size))
        have hBx := hide hb
        clear hb s0 s1 t0 p0 p1 x0 hC2
        have hs3 := hBr.out.size
        have p0 : w3.cell? ⟨w1.heap.size, 0, none⟩ = some (.slice (some ⟨g, 0, none⟩) i cg) := kG.out.cell 0
        have x0 : w3.cell? ⟨w.heap.size + 2, 0, none⟩ = some (.slice L k cl) := kXr.out.cell 0
        have b2 : (q0 != q0) = false := by simp
        have b3 : ((k : Int) == 0) = false := by rw [beq_eq_false_iff_ne]; omega
        by_cases h6 : 6 ≤ i
        · have d6 : decide ((6 : Int) ≤ (i : Int)) = true := decide_eq_true (by omega)
          replace h6 := hide h6
          go_wp2_with fail
          refine (AwakeS _).mono ?_
          rintro e w9 ⟨rfl, hb⟩
          replace hBw := hide (hBw.out.trans (hb.mono hBw.out.size))
          clear hb p0 x0
          go_wp2
          go_ret
          exact ⟨rfl, hBw.out⟩
        · have d6 : decide ((6 : Int) ≤ (i : Int)) = false := decide_eq_false (by omega)
          obtain ⟨lb, lo, rfl, hlb, hlc⟩ := (hlB.out _ hBw.out).2 (by omega)
          obtain ⟨l0, hl0⟩ : ∃ x, ls[0]?.getD 0 = x := ⟨_, rfl⟩
          have y0 : w3.cell? ⟨lb, lo, none⟩ = some (.int .i64 l0) := by
            have := hlc 0 (by omega)
            rw [hl0] at this
            simpa using this
          have hk0 : (0 : Int) < (k : Int) := by omega
          replace hlc := hide hlc
          by_cases h5 : l0 < 500
          · have d5 : decide (l0 < 500) = true := decide_eq_true h5
            replace h5 := hide h5
            replace h6 := hide h6
            go_wp2_with fail
            refine (AwakeS _).mono ?_
            rintro e w9 ⟨rfl, hb⟩
            replace hBw := hide (hBw.out.trans (hb.mono hBw.out.size))
            clear hb p0 x0 y0
            go_wp2
            go_ret
            exact ⟨rfl, hBw.out⟩
          · have d5 : decide (l0 < 500) = false := decide_eq_false h5
            obtain ⟨hmth, hq0, hq1⟩ := hsure.out (by rw [hTl.out]; omega) (by rw [hl0]; omega)
            have hwq : IntKind.i64.wrap (1000 * q0) = 1000 * q0 := by rw [IntKind.wrap_i64]; omega
            have bq : ((1000 * q0 : Int) == 1000 * q0) = true := by simp
            replace hmth := hide hmth
            have kGa := hide (kG.out.alloc (.cells #[.int .i64 0, .int .i64 0] 100))
            replace hl0 := hide hl0
            have hnb : ¬ g = w1.heap.size := by omega
            go_wp2_with (at_builtin; refine wpList_append_own _ rfl _ _ 46 rfl (w1.heap.size + 1) 100 i0 (.agg #[.int .i64 0, .int .i64 0]) 2 16 Try.underlying46 hi0.out hz0.out hz1.out hz2.out rfl (by decide) _ _ _ rfl (hown.out.alloc _) ⟨w3.heap.size, 0, none⟩ 1 1 [.int .i64 0, .int .i64 0] rfl rfl (cell_two_new rfl _ _ _) (by simp [Value.oneCell']) (by unfold maxLen; omega) (by omega) (by simp; omega) ?_; intro v' w7 hown7 hgrow7 _; have kG7 := kGa.out.grown hgrow7 (fun e => by have := (hown.out.lt _ e.symm).1; omega); have fz := kG7.frozen 0; have cz := kG7.cell 0; obtain ⟨g7, c7, ev⟩ := own_slice hown7; subst ev; refine Hid.out ?_)
            refine hide ?_
            have hb7 := hide (((Below.refl w1.heap.size w3).alloc hs3 (.cells #[.int .i64 0, .int .i64 0] 100)).grown hgrow7 (by simp; omega) (fun k hk => by have := (hown.out.lt k hk).1; omega))
            have hgv : (Value.slice (some ⟨g7, 0, none⟩) (i + 1) c7) = .slice (some ⟨g7, 0, none⟩) (i + 1) c7 := rfl
            obtain ⟨W, hW⟩ : ∃ W, w7.setCell ⟨w1.heap.size, 0, none⟩ (.slice (some ⟨g7, 0, none⟩) (i + 1) c7) = W := ⟨_, rfl⟩
            have kG8 := hide (show Blk W w1.heap.size 48 #[.slice (some ⟨g7, 0, none⟩) (i + 1) c7, .int .i64 al] by
              rw [← hW]
              have := kG7.set_ 0 (.slice (some ⟨g7, 0, none⟩) (i + 1) c7)
              simpa using this)
            have hown8 := hide (show OwnK W (w1.heap.size + 1) (.slice (some ⟨g7, 0, none⟩) (i + 1) c7) (i + 1) (T ++ [(0, 0)]) by
              rw [← hW]
              refine ownsRow_setCell_below ?_ (by simp) _
              rw [List.flatMap_append]
              exact hown7)
            have hB7 := hBw.out.trans (hb7.out.mono hsz1)
            have hBw8 := hide (show Below w.heap.size w W by rw [← hW]; exact hB7.setCell (p := ⟨w1.heap.size, 0, none⟩) hsz1 _)
            have kS8 := hide (show Blk W w.heap.size 25 #[.slice A n1 c, .slice A2 n2 c2] by rw [← hW]; exact (kSr.out.below hb7.out zS).far (p := ⟨w1.heap.size, 0, none⟩) (by simp; omega) _)
            have kX8 := hide (show Blk W (w.heap.size + 2) 98 #[.slice (some ⟨lb, lo, none⟩) k cl, .int .u8 wh, .int .u16 d] by rw [← hW]; exact (kXr.out.below hb7.out zX).far (p := ⟨w1.heap.size, 0, none⟩) (by simp; omega) _)
            obtain ⟨g8, c8, hv8, -, -, hTk⟩ := tkAt_own hown8.out (by rw [List.length_append, hTl.out]; rfl) (by omega)
            simp only [Value.slice.injEq, Option.some.injEq, Addr.mk.injEq, and_true, true_and] at hv8
            obtain ⟨rfl, rfl⟩ := hv8
            have hrow := hTk.row
            rw [List.length_append, hTl.out] at hrow
            have hC4 := hCk.out W (some ⟨g7, 0, none⟩) (some ⟨lb, lo, none⟩) (i + 1) c7 k cl (T ++ [(0, 0)]) al ls hBw8.out hrow (by unfold maxLen; omega) (hlB.out _ hBw8.out) hk
            rw [hmth.out] at hC4
            simp only at hC4
            replace hC4 := hide hC4
            have s0 : W.cell? ⟨w.heap.size, 0, none⟩ = some (.slice A n1 c) := kS8.out.cell 0
            have s1 : W.cell? ⟨w.heap.size, 1, none⟩ = some (.slice A2 n2 c2) := kS8.out.cell 1
            have p2 : W.cell? ⟨w1.heap.size, 0, none⟩ = some (.slice (some ⟨g7, 0, none⟩) (i + 1) c7) := kG8.out.cell 0
            have p3 : W.cell? ⟨w1.heap.size, 1, none⟩ = some (.int .i64 al) := kG8.out.cell 1
            have x2 : W.cell? ⟨w.heap.size + 2, 0, none⟩ = some (.slice (some ⟨lb, lo, none⟩) k cl) := kX8.out.cell 0
            rw [← hW] at s0 s1 p2 p3 x2
            clear hB7 hTk hrow hown7 hgrow7 kG7 hown8 hb7 hgv hown p0 x0 y0 kSr kXr kGa kG
            replace hW := hide hW
            go_wp2_with fail
            rw [hW.out]
            refine hC4.out.mono ?_
            rintro e w8 ⟨rfl, hb⟩
            replace hBw8 := hide (hBw8.out.trans (hb.mono hBw8.out.size))
            clear hb s0 s1 p2 p3 x2 hC4 cz fz hW
            go_wp2_with fail
            refine (AwakeS _).mono ?_
            rintro e w9 ⟨rfl, hb⟩
            replace hBw8 := hide (hBw8.out.trans (hb.mono hBw8.out.size))
            clear hb
            go_wp2
            go_ret
            exact ⟨rfl, hBw8.out⟩
  · have b1 : (q1 != 0) = true := by rw [bne_iff_ne]; exact h0
    have hz : q0 = 0 := hbad.out h0
    subst hz
    clear hpar hbad
    replace h0 := hide h0
    go_wp2_with fail
    refine (AwakeS _).mono ?_
    rintro e w9 ⟨rfl, hb⟩
    replace hB := hide (hB.out.trans (hb.mono hB.out.size))
    clear hb s0 s1
    go_wp2
    go_ret
    exact ⟨rfl, hB.out⟩
end Go.Proofs.Ytkhijdbigpaagaa
