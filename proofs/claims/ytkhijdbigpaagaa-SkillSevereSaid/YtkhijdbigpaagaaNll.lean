import Derived.Test.YtkhijdbigpaagaaNli
import Derived.Test.YtkhijdbigpaagaaNlf
import Derived.Test.YtkhijdbigpaagaaNk
import Derived.BigQuiet
import Derived.Deep.CutBlock
/-
  The contract of the laws' 'lived': it gives a truth.
-/
namespace Go.Proofs.Ytkhijdbigpaagaa
open Go.RowKit RG

/-- A number of a range, and a slice of such a number alone. -/
def NumL (lo hi : Int) : Value → World → Prop := fun v _ => ∃ z, v = .int .i64 z ∧ lo ≤ z ∧ z ≤ hi
theorem NumL.stb (lo hi : Int) : Stb (NumL lo hi) := fun _ _ _ _ h => h
def OneNum (lo hi : Int) : Value → World → Prop := fun v w => ∃ z g, v = .slice (some ⟨g, 0, none⟩) 1 1 ∧ lo ≤ z ∧ z ≤ hi ∧ Blk w g 3 #[.int .i64 z]
theorem OneNum.stb (lo hi : Int) : Stb (OneNum lo hi) := fun _ _ _ hb ⟨z, g, e, h1, h2, h⟩ => ⟨z, g, e, h1, h2, h.below hb h.lt⟩
theorem cell_one {w : World} {g : Nat} {x : Value} {t : TypeId} (h : Blk w g t #[x]) : ∀ j u, [x][j]? = some u → w.cell? ((⟨g, 0, none⟩ : Addr).add j) = some u := by
  intro j u hj
  match j, hj with
  | 0, hj => simp at hj; subst hj; simpa [Addr.add] using h.cell 0
  | j + 1, hj => simp at hj
def SubIn (u lo hi : Int) : Value → World → Prop := fun v _ => ∃ d, lo ≤ d ∧ d ≤ hi ∧ v = .int .i64 (u - d)
theorem SubIn.stb (u lo hi : Int) : Stb (SubIn u lo hi) := fun _ _ _ _ h => h
def MaxIn (u lo hi : Int) : Value → World → Prop := fun v _ => ∃ d, lo ≤ d ∧ d ≤ hi ∧ v = .int .i64 (max 0 (u - d))
theorem MaxIn.stb (u lo hi : Int) : Stb (MaxIn u lo hi) := fun _ _ _ _ h => h
def AddIn (u lo hi : Int) : Value → World → Prop := fun v _ => ∃ d, lo ≤ d ∧ d ≤ hi ∧ v = .int .i64 (u + d)
theorem AddIn.stb (u lo hi : Int) : Stb (AddIn u lo hi) := fun _ _ _ _ h => h
def LimIn (u lo hi : Int) : Value → World → Prop := fun v _ => ∃ d, lo ≤ d ∧ d ≤ hi ∧ v = .int .i64 (lim (u + d))
theorem LimIn.stb (u lo hi : Int) : Stb (LimIn u lo hi) := fun _ _ _ _ h => h
theorem results_tmp5 {fn : Func} {a b c d e : Tmp} (h : fn.results = #[.tmp a, .tmp b, .tmp c, .tmp d, .tmp e]) (tmps : Array Value) (P : Program) (w : World) :
    (results fn tmps).run P w = .ok (.tuple #[tmps.getD a undef, tmps.getD b undef, tmps.getD c undef, tmps.getD d undef, tmps.getD e undef]) w := by
  simp [results, h]
/-- What 'lived' answers. -/
def LivedR (S : Sch) (same : Bool) (e : Ending) (w : World) : Prop :=
  ∃ (rs : List Sp) (es : List Ev) (wk : Int) (U al : List Int) (gS cS gL cL : Nat) (vE : Value) (AL : Option Addr) (cA : Nat),
    e = .returned (.tuple #[.slice (some ⟨gS, 0, none⟩) S.sks.length cS, vE, .int .i64 wk, .slice (some ⟨gL, 0, none⟩) S.sks.length cL, .slice AL S.ins.length cA]) ∧
    Truth S same al rs es wk U ∧ AllOk rs ∧ rs.length = S.sks.length ∧ (∀ i, i < S.ins.length → inS (biasOf (S.ins[i]?.getD default)) (al[i]?.getD 0)) ∧
    RdRow w (some ⟨gS, 0, none⟩) S.sks.length 2 (rs.map tkCells) ∧ IsEvs es vE w ∧ RdInts w (some ⟨gL, 0, none⟩) S.sks.length U ∧ RdInts w AL S.ins.length al

set_option linter.unusedSimpArgs false in
set_option maxRecDepth 100000 in
set_option maxHeartbeats 4000000 in
theorem lived_any (v : Value) (S : Sch) (Wh N : Option Addr) (nw cw nn nc : Nat) (d0 d1 : Int) (same : Bool) (w : World) (h : RdSch w v S) (hck : (checkS S).2.2 = 0) (hwh : RdU16 w Wh nw) (hwn : nw ≤ maxLen) (hnu : RdU16 w N nn) (hnn : nn ≤ maxLen) (hd0 : 0 ≤ d0 ∧ d0 ≤ 255) (hd1 : 0 ≤ d1 ∧ d1 ≤ 255) :
    Calls Try.prog 43 #[v, .agg #[.slice Wh nw cw, .slice N nn nc, .int .u8 d0, .int .u8 d1, .bool same]] w fun e w' => LivedR S same e w' ∧ Below w.heap.size w w' := by
  have hTu := hide (fun W (i : Int) (hb : Below w.heap.size w W) (hi : 0 ≤ i ∧ i ≤ 9223372036854775807) => turn_any N nn nc i W (hnu.below hb) hnn hi)
  clear hwn
  have hwB := hide (fun W (hb : Below w.heap.size w W) => hwh.below hb)
  obtain ⟨A, c, A2, c2, rfl, hsk, -, -, -, hins, -⟩ := h
  have hskB := hide (fun W (hb : Below w.heap.size w W) => hsk.below hb)
  have hinB := hide (fun W (hb : Below w.heap.size w W) => hins.below hb)
  have hsok := hide (fun i hi => sk_ok hck (i := i) hi)
  have hiok := hide (fun i hi => in_ok hck (i := i) hi)
  have hsks := sks_ok hck
  have hn15 : 1 ≤ S.sks.length ∧ S.sks.length ≤ 5 := ⟨(check_ok hck).1, (check_ok hck).2.1⟩
  have hn26 : S.ins.length ≤ 6 := by have := (check_ok hck).2.2.1; omega
  clear hsk hins hwh hnu hck
  unfold LivedR
  obtain ⟨n, hn⟩ : ∃ n, S.sks.length = n := ⟨_, rfl⟩
  obtain ⟨n2, hn2⟩ : ∃ n, S.ins.length = n := ⟨_, rfl⟩
  rw [hn] at hskB hsok hn15 ⊢
  rw [hn2] at hinB hiok hn26 ⊢
  replace hn := hide hn
  replace hn2 := hide hn2
  have kS := hide (show Blk ((w.alloc (.cells #[.slice A n c, .slice A2 n2 c2] 25)).alloc (.cells #[.slice Wh nw cw, .slice N nn nc, .int .u8 d0, .int .u8 d1, .bool same] 68)) w.heap.size 25 #[.slice A n c, .slice A2 n2 c2] from (blkNew rfl).alloc _)
  have kX := hide (show Blk ((w.alloc (.cells #[.slice A n c, .slice A2 n2 c2] 25)).alloc (.cells #[.slice Wh nw cw, .slice N nn nc, .int .u8 d0, .int .u8 d1, .bool same] 68)) (w.heap.size + 1) 68 #[.slice Wh nw cw, .slice N nn nc, .int .u8 d0, .int .u8 d1, .bool same] from blkNew (by simp))
  have hB := hide (show Below w.heap.size w ((w.alloc (.cells #[.slice A n c, .slice A2 n2 c2] 25)).alloc (.cells #[.slice Wh nw cw, .slice N nn nc, .int .u8 d0, .int .u8 d1, .bool same] 68)) from ((Below.refl _ _).alloc (Nat.le_refl _) _).alloc (by simp) _)
  obtain ⟨i0, hi0, hz0, hz1, hz2⟩ := info_parts infoInt
  obtain ⟨i1, hj0, hj1, hj2, hj3⟩ := info_parts infoSp
  replace hi0 := hide hi0
  replace hz0 := hide hz0
  replace hz1 := hide hz1
  replace hz2 := hide hz2
  replace hj0 := hide hj0
  replace hj1 := hide hj1
  replace hj2 := hide hj2
  replace hj3 := hide hj3
  have s0 : ((w.alloc (.cells #[.slice A n c, .slice A2 n2 c2] 25)).alloc (.cells #[.slice Wh nw cw, .slice N nn nc, .int .u8 d0, .int .u8 d1, .bool same] 68)).cell? ⟨w.heap.size, 0, none⟩ = some (.slice A n c) := kS.out.cell 0
  have hwd0 : IntKind.i64.wrap d0 = d0 := by rw [IntKind.wrap_i64]; omega
  have hwd1 : IntKind.i64.wrap d1 = d1 := by rw [IntKind.wrap_i64]; omega
  go_enter Try.func43, Try.ntmps43
  go_wp2
  generalize (w.alloc (.cells #[.slice A n c, .slice A2 n2 c2] 25)).alloc (.cells #[.slice Wh nw cw, .slice N nn nc, .int .u8 d0, .int .u8 d1, .bool same] 68) = W0 at *
  have zS := kS.out.lt
  have zX := kX.out.lt
  have hsz := hB.out.size
  obtain ⟨B0, hB0⟩ : ∃ B0, W0.heap.size = B0 := ⟨_, rfl⟩
  have hBr0 := hide (show Below B0 W0 W0 from Below.refl _ _)
  clear s0
  rw [hB0] at zS zX hsz
  go_loopg [9, 10, 12, 14, 15] n (fun gg s9 s10 s12 s14 _ wr => ∃ (j : Nat) (U : List Int) (rs : List Sp), j ≤ n ∧ n ≤ gg + j ∧ s14 = .int .i64 j ∧ s12 = .int .i64 j ∧ U.length = j ∧ rs.length = j ∧ Hid (∀ i, i < j → inS (rs[i]?.getD (0, 0)) (U[i]?.getD 0)) ∧ Hid (AllOk rs) ∧ Hid (Below B0 W0 wr) ∧ Hid (OwnI wr B0 s10 j (U.map (Value.int .i64))) ∧ Hid (OwnS wr B0 s9 j (rs.flatMap tkCells)))
  case atStart => exact ⟨0, [], [], Nat.zero_le _, by omega, rfl, rfl, rfl, rfl, hide (fun i h => absurd h (by omega)), hide (fun i h => absurd h (by simp)), hBr0, hide (World.ownsRow_nil _ _ _ _), hide (World.ownsRow_nil _ _ _ _)⟩
  case round =>
    clear hBr0
    obtain ⟨j, U, rs, hj, hgg, rfl, rfl, hUl, hrl, hin, hok, hBr, ho1, ho2⟩ := hrel
    have hBw := hide (hB.out.trans (hBr.out.mono hsz))
    have kSr := hide (kS.out.below hBr.out zS)
    have kXr := hide (kX.out.below hBr.out zX)
    have s0 : wr.cell? ⟨w.heap.size, 0, none⟩ = some (.slice A n c) := kSr.out.cell 0
    have x1 : wr.cell? ⟨w.heap.size + 1, 1, none⟩ = some (.slice N nn nc) := kXr.out.cell 1
    have hs0 : B0 ≤ wr.heap.size := by rw [← hB0]; exact hBr.out.size
    by_cases hlt : j < n
    · have hltz : (j : Int) < (n : Int) := by omega
      have hTj := hide (hTu.out wr (j : Int) hBw.out (by omega))
      replace hUl := hide hUl
      replace hrl := hide hrl
      go_wp2_with fail
      refine hTj.out.mono ?_
      rintro e w7 ⟨⟨x, rfl, hx0, hx1⟩, rfl⟩
      obtain ⟨zn, hzn⟩ : ∃ z, x.tmod 1001 = z := ⟨_, rfl⟩
      have hzn0 : 0 ≤ zn ∧ zn ≤ 1000 := by rw [← hzn]; exact ⟨Int.tmod_nonneg _ hx0, by have := Int.tmod_lt_of_pos x (show (0 : Int) < 1001 by decide); omega⟩
      obtain ⟨a, ha⟩ : ∃ a, max 0 (zn - d0) = a := ⟨_, rfl⟩
      obtain ⟨b, hb⟩ : ∃ b, min 1000 (zn + d1) = b := ⟨_, rfl⟩
      have hab : 0 ≤ a ∧ a ≤ zn ∧ zn ≤ b ∧ b ≤ 1000 := by omega
      have hw1 : IntKind.i64.wrap (zn - d0) = zn - d0 := by rw [IntKind.wrap_i64]; omega
      have hw2 : IntKind.i64.wrap (zn + d1) = zn + d1 := by rw [IntKind.wrap_i64]; omega
      have hw3 : IntKind.i64.wrap zn = zn := by rw [IntKind.wrap_i64]; omega
      clear hTj s0 x1
      go_wp2
      refine region_inv_at (LfI wr B0 u10 u9 j (U.map (Value.int .i64)) (rs.flatMap tkCells) (w.heap.size + 1) zn d0 d1 a b) (by kernel_rfl) (by kernel_rfl) ?_ ?_ ?_
      · exact (LfI.init hs0 ho1.out ho2.out rfl rfl).below (Below.refl _ _).drew
      · refine ⟨?_, ?_, ?_, ?_, ?_, ?_, ?_, ?_, ?_, ?_, ?_, ?_, ?_, ?_, ?_, ?_, ?_, ?_, ?_, ?_, ?_, ?_, ?_, ?_, trivial⟩
        all_goals
          intro f y w6 K Q Cv hI hfi hdep hCv
          have hC := hI.1
          have q1 : w6.cell? ⟨w.heap.size + 1, 2, none⟩ = some (.int .u8 d0) := (kX.out.below (hBr.out.trans hC) zX).cell 2
          have q2 : w6.cell? ⟨w.heap.size + 1, 3, none⟩ = some (.int .u8 d1) := (kX.out.below (hBr.out.trans hC) zX).cell 3
          simp [Region.binds] at hdep
        · have z0 := hI.z0 hfi; simp only [putAll, Act.put]; go_simp; intro hK; exact hK _ _ (hCv _ _ (hI.o0 rfl))
        · simp only [putAll, Act.put]; go_simp; intro hK; exact hK _ _ (hCv _ _ (hI.o1 rfl))
        · have e1 := hI.u1 (by simp [hdep]); simp only [putAll, Act.put]; go_simp; intro hK; exact hK _ _ (hCv _ _ (hI.o2 hfi rfl))
        · have e0 := hI.u0 (by simp [hdep])
          obtain ⟨ho, g, e2, hg⟩ := hI.g3 hfi (by simp [hdep])
          intro hK
          refine wanted_if rfl ?_
          refine wp_append_int (.tmp 39) (.tmp 41) rfl B0 i0 hi0.out hz0.out hz1.out hz2.out u10 j _ (by simp only [putAll, Act.put]; go_simp; try exact e0) ho g 1 zn (by simp only [putAll, Act.put]; go_simp; try exact e2) (hg.cell 0) (by unfold maxLen; omega) (by omega) (Nat.le_trans (Nat.le_refl _) hI.2.1) ?_
          intro v' w' h1 h2 h3
          exact hK _ _ (hCv _ _ (hI.o3 hfi (by simp [hdep]) (by simp [hdep]) h1 h2))
        · have z4 := hI.z4 hfi; simp only [putAll, Act.put]; go_simp; intro hK; exact hK _ _ (hCv _ _ (hI.o4 rfl))
        · simp only [putAll, Act.put]; go_simp; intro hK; exact hK _ _ (hCv _ _ (hI.o5 rfl))
        · simp only [putAll, Act.put]; go_simp; intro hK; exact hK _ _ (hCv _ _ (hI.o6 rfl))
        · have e6 := hI.u6 (by simp [hdep]); simp only [putAll, Act.put]; go_simp; intro hK; exact hK _ _ (hCv _ _ (hI.o7 rfl))
        · have e7 := hI.u7 (by simp [hdep]); simp only [putAll, Act.put]; go_simp; intro hK; exact hK _ _ (hCv _ _ (hI.o8 rfl))
        · have e8 := hI.u8 (by simp [hdep]); simp only [putAll, Act.put]; go_simp; intro hK; exact hK _ _ (hCv _ _ (hI.o9 rfl))
        · have e5 := hI.u5 (by simp [hdep]); have e9 := hI.u9 (by simp [hdep]); simp only [putAll, Act.put]; go_simp; intro hK; exact hK _ _ (hCv _ _ (hI.o10 rfl))
        · have e10 := hI.u10 (by simp [hdep]); simp only [putAll, Act.put]; go_simp; intro hK; exact hK _ _ (hCv _ _ (hI.o11 rfl))
        · simp only [putAll, Act.put]; go_simp; intro hK; exact hK _ _ (hCv _ _ (hI.o12 rfl))
        · simp only [putAll, Act.put]; go_simp; intro hK; exact hK _ _ (hCv _ _ (hI.o13 rfl))
        · have e13 := hI.u13 (by simp [hdep]); simp only [putAll, Act.put]; go_simp; intro hK; exact hK _ _ (hCv _ _ (hI.o14 rfl))
        · have e14 := hI.u14 (by simp [hdep]); simp only [putAll, Act.put]; go_simp; intro hK; exact hK _ _ (hCv _ _ (hI.o15 rfl))
        · have e15 := hI.u15 (by simp [hdep]); simp only [putAll, Act.put]; go_simp; intro hK; exact hK _ _ (hCv _ _ (hI.o16 rfl))
        · have e12 := hI.u12 (by simp [hdep]); have e16 := hI.u16 (by simp [hdep]); simp only [putAll, Act.put]; go_simp; intro hK; exact hK _ _ (hCv _ _ (hI.o17 rfl))
        · have e17 := hI.u17 (by simp [hdep]); simp only [putAll, Act.put]; go_simp; intro hK; exact hK _ _ (hCv _ _ (hI.o18 rfl))
        · have e11 := hI.u11 (by simp [hdep])
          have e18 := hI.u18 (by simp [hdep])
          have hSw := hide (span_w a b w6)
          simp only [putAll, Act.put]; go_simp; intro hK
          refine hSw.out.mono ?_
          rintro e w7 ⟨rfl, hb7⟩
          exact hK _ _ (hCv _ _ ((hI.below hb7).o19 rfl))
        · have e19 := hI.u19 (by simp [hdep]); simp only [putAll, Act.put]; go_simp; intro hK; exact hK _ _ (hCv _ _ (hI.o20 hfi rfl))
        · have e4 := hI.u4 (by simp [hdep])
          obtain ⟨ho, g, e20, hg⟩ := hI.g21 hfi (by simp [hdep])
          intro hK
          refine wanted_if rfl ?_
          refine wp_append_sp (.tmp 43) (.tmp 59) rfl B0 i1 hj0.out hj1.out hj2.out hj3.out u9 j _ (by simp only [putAll, Act.put]; go_simp; try exact e4) ho g a b (by simp only [putAll, Act.put]; go_simp; try exact e20) hg (by unfold maxLen; omega) (by omega) (Nat.le_trans (Nat.le_refl _) hI.2.1) ?_
          intro v' w' h1 h2 h3
          exact hK _ _ (hCv _ _ (hI.o21 hfi (by simp [hdep]) (by simp [hdep]) h1 h2))
        · simp only [putAll, Act.put]; go_simp; intro hK; exact hK _ _ (hCv _ _ (hI.o22 (by simp [hdep]) rfl))
        · simp only [putAll, Act.put]; go_simp; intro hK; exact hK _ _ (hCv _ _ (hI.o23 (by simp [hdep]) rfl))
      intro f y w4 hf hI
      obtain ⟨hC, hs4, ho3, ho4⟩ := hI.done hf
      have hB4 := hide (hBr.out.trans hC)
      simp only [putAll, Act.put]
      simp only [List.setIfInBounds_toArray, List.set_cons_succ, List.set_cons_zero]
      replace ho3 := hide (show OwnI w4 B0 (y 22) (j + 1) ((U ++ [zn]).map (Value.int .i64)) by rw [List.map_append]; exact ho3)
      replace ho4 := hide (show OwnS w4 B0 (y 23) (j + 1) ((rs ++ [(a, b)]).flatMap tkCells) by rw [List.flatMap_append]; exact ho4)
      clear hI hC hf hzn ha hb hw1 hw2 hw3
      go_wp2
      go_roundg (n - (j + 1))
      case measure => omega
      case rel =>
        refine ⟨j + 1, U ++ [zn], rs ++ [(a, b)], by omega, by omega, by go_num, by go_num, by rw [List.length_append, hUl.out]; rfl, by rw [List.length_append, hrl.out]; rfl, hide fun i hi' => ?_, hide fun i hi' => ?_, hB4, ho3, ho4⟩
        · by_cases e : i = j
          · subst e
            rw [List.getElem?_append_right (by rw [hrl.out]; exact Nat.le_refl _), List.getElem?_append_right (by rw [hUl.out]; exact Nat.le_refl _), hUl.out, hrl.out, Nat.sub_self]
            simp only [List.getElem?_cons_zero, Option.getD_some]
            unfold inS
            omega
          · rw [List.getElem?_append_left (by rw [hrl.out]; omega), List.getElem?_append_left (by rw [hUl.out]; omega)]
            exact hin.out i (by omega)
        · rw [List.length_append, hrl.out] at hi'
          by_cases e : i = j
          · subst e
            rw [List.getElem?_append_right (by rw [hrl.out]; exact Nat.le_refl _), hrl.out, Nat.sub_self]
            simp only [List.getElem?_cons_zero, Option.getD_some]
            unfold okS
            simp only
            omega
          · have hi2 : i < j := by simp at hi'; omega
            rw [List.getElem?_append_left (by rw [hrl.out]; omega)]
            exact hok.out i (by rw [hrl.out]; exact hi2)
    · have hltz : ¬ (j : Int) < (n : Int) := by omega
      obtain rfl : j = n := by omega
      obtain ⟨w1, hw1⟩ : ∃ w1, w1 = wr := ⟨_, rfl⟩
      subst hw1
      obtain ⟨gL, cL, rfl, hgL, hcL, hIL⟩ := inAt_own ho1.out hUl hn15.1
      obtain ⟨gS, cS, rfl, hgS, hcS, hAS⟩ := spAt_own ho2.out hrl hn15.1
      have hrow := hAS.row
      rw [hrl] at hrow
      have hgne : gS ≠ gL := by
        have := own_types ho2.out ho1.out (by decide)
        simp [Value.ownBlock] at this
        exact this
      have hLw := hide (show ∀ W, Below w1.heap.size w1 W → InAt W gL U ∧ RdRow W (some ⟨gS, 0, none⟩) j 2 (rs.map tkCells) from fun W hb => ⟨hIL.below hb, hrow.below hb⟩)
      have zL := hIL.lt
      have zSS : gS < w1.heap.size := (ho2.out.lt gS rfl).2
      have hBx := hide (Below.refl w1.heap.size w1)
      replace hUl := hide hUl
      replace hrl := hide hrl
      clear ho1 ho2 hIL hAS hrow x1 hgg hj
      have zSr : w.heap.size < w1.heap.size := by omega
      have zXr : w.heap.size + 1 < w1.heap.size := by omega
      have x9 : w1.cell? ⟨w.heap.size, 1, none⟩ = some (.slice A2 n2 c2) := kSr.out.cell 1
      go_wp2
      clear s0 x9
      go_loopg [11, 16] n2 (fun gg s11 s16 wr => ∃ (i : Nat) (al : List Int), i ≤ n2 ∧ n2 ≤ gg + i ∧ s16 = .int .i64 i ∧ al.length = i ∧ Hid (∀ k, k < i → inS (biasOf (S.ins[k]?.getD default)) (al[k]?.getD 0)) ∧ Hid (Below w1.heap.size w1 wr) ∧ Hid (OwnI wr w1.heap.size s11 i (al.map (Value.int .i64))))
      case atStart => exact ⟨0, [], Nat.zero_le _, by omega, rfl, rfl, hide (fun k h => absurd h (by omega)), hBx, hide (World.ownsRow_nil _ _ _ _)⟩
      case round =>
        clear hBx
        obtain ⟨i, al, hi, hgg, rfl, hal, hbi, hB2, ho⟩ := hrel
        have hBw2 := hide (hBw.out.trans (hB2.out.mono hBw.out.size))
        have kS2 := hide (kSr.out.below hB2.out zSr)
        have kX2 := hide (kXr.out.below hB2.out zXr)
        have x9 : wr.cell? ⟨w.heap.size, 1, none⟩ = some (.slice A2 n2 c2) := kS2.out.cell 1
        have hs2 := hB2.out.size
        have z2 := kS2.out.lt
        have z3 := kX2.out.lt
        by_cases hlt : i < n2
        · have hltz : (i : Int) < (n2 : Int) := by omega
          have hi0z : (0 : Int) ≤ (i : Int) := by omega
          obtain ⟨b3, off3, y0, y1, y2, rfl, hb3, hy, e0, e1, e2⟩ := (hinB.out wr hBw2.out).cells3 hlt
          rw [in_at S.ins i (by rw [hn2.out]; exact hlt)] at hy
          unfold inCells at hy
          simp only [List.cons.injEq, and_true] at hy
          obtain ⟨rfl, rfl, rfl⟩ := hy
          have hbz := hiok.out i hlt
          obtain ⟨lo, hlo⟩ : ∃ x, (S.ins[i]?.getD default).lo = x := ⟨_, rfl⟩
          obtain ⟨hi', hhi⟩ : ∃ x, (S.ins[i]?.getD default).hi = x := ⟨_, rfl⟩
          rw [hlo] at e1 hbz
          rw [hhi] at e2 hbz
          have hw3 : IntKind.i64.wrap (3 * (i : Int)) = 3 * (i : Int) := by rw [IntKind.wrap_i64]; omega
          have hw4 : IntKind.i64.wrap (3 * (i : Int) + 1) = 3 * (i : Int) + 1 := by rw [IntKind.wrap_i64]; omega
          replace hal := hide hal
          replace hlo := hide hlo
          replace hhi := hide hhi
          replace e1 := hide e1
          replace e2 := hide e2
          clear e0
          go_wp2
          clear x9
          refine region_grow_tail 15 [IsV u11, IsV (.pointer (some ⟨w.heap.size, 1, none⟩)), IsV (.slice (some ⟨b3, off3, none⟩) n2 c2), IsV (.int .i64 i), IsV (.pointer (some ⟨b3, off3 + i * 3, none⟩)), IsV (.pointer (some ⟨b3, off3 + i * 3 + 1, none⟩)), IsV (.agg #[.int .i64 lo, .int .i64 hi']), IsV (.pointer (some ⟨w.heap.size + 1, 1, none⟩)), IsV (.slice N nn nc), IsV (.int .i64 i), IsV (.int .i64 (3 * (i : Int))), IsV (.int .i64 (3 * (i : Int) + 1)), NumL 0 65535, NumL lo hi', OneNum lo hi'] (by kernel_rfl) (by kernel_rfl) rfl ?_ ?_ ?_
          · simp [AllStb, IsV.stb, NumL.stb, OneNum.stb]
          · refine ⟨?_, ?_, ?_, ?_, ?_, ?_, ?_, ?_, ?_, ?_, ?_, ?_, ?_, ?_, ?_, trivial⟩
            · refine oneT_fr ?_ ?_ ?_
              · kernel_rfl
              · kernel_rfl
              intro T y w6 K Qq Cv hF hC hd hV hK
              try (simp [deps, VL, IsV, Region.binds] at hd)
              have t11 := hF.old 11 (u11) (by kernel_rfl) rfl
              clear hF
              go_simp
              exact hK _ _ (hV _ _ hC (Below.refl _ _) rfl)
            · refine oneT_fr ?_ ?_ ?_
              · kernel_rfl
              · kernel_rfl
              intro T y w6 K Qq Cv hF hC hd hV hK
              try (simp [deps, VL, IsV, Region.binds] at hd)
              have t2 := hF.old 2 (.pointer (some ⟨w.heap.size, 0, none⟩)) (by kernel_rfl) rfl
              clear hF
              go_simp
              exact hK _ _ (hV _ _ hC (Below.refl _ _) rfl)
            · refine oneT_fr ?_ ?_ ?_
              · kernel_rfl
              · kernel_rfl
              intro T y w6 K Qq Cv hF hC hd hV hK
              try (simp [deps, VL, IsV, Region.binds] at hd)
              have t69 := hF.get 1 69 (by kernel_rfl)
              simp only [hd] at t69
              clear hF
              have q1 : w6.cell? ⟨w.heap.size, 1, none⟩ = some (.slice (some ⟨b3, off3, none⟩) n2 c2) := (kS2.out.below hC z2).cell 1
              have q2 : w6.cell? ⟨w.heap.size + 1, 1, none⟩ = some (.slice N nn nc) := (kX2.out.below hC z3).cell 1
              have q3 := (cellB (o := off3 + i * 3 + 1) hC hb3).trans e1.out
              have q4 := (cellB (o := off3 + i * 3 + 1 + 1) hC hb3).trans e2.out
              go_simp
              exact hK _ _ (hV _ _ hC (Below.refl _ _) rfl)
            · refine oneT_fr ?_ ?_ ?_
              · kernel_rfl
              · kernel_rfl
              intro T y w6 K Qq Cv hF hC hd hV hK
              try (simp [deps, VL, IsV, Region.binds] at hd)
              have t16 := hF.old 16 (.int .i64 i) (by kernel_rfl) rfl
              clear hF
              go_simp
              exact hK _ _ (hV _ _ hC (Below.refl _ _) rfl)
            · refine oneT_fr ?_ ?_ ?_
              · kernel_rfl
              · kernel_rfl
              intro T y w6 K Qq Cv hF hC hd hV hK
              try (simp [deps, VL, IsV, Region.binds] at hd)
              have t70 := hF.get 2 70 (by kernel_rfl)
              simp only [hd] at t70
              have t71 := hF.get 3 71 (by kernel_rfl)
              simp only [hd] at t71
              clear hF
              have q1 : w6.cell? ⟨w.heap.size, 1, none⟩ = some (.slice (some ⟨b3, off3, none⟩) n2 c2) := (kS2.out.below hC z2).cell 1
              have q2 : w6.cell? ⟨w.heap.size + 1, 1, none⟩ = some (.slice N nn nc) := (kX2.out.below hC z3).cell 1
              have q3 := (cellB (o := off3 + i * 3 + 1) hC hb3).trans e1.out
              have q4 := (cellB (o := off3 + i * 3 + 1 + 1) hC hb3).trans e2.out
              go_simp
              exact hK _ _ (hV _ _ hC (Below.refl _ _) rfl)
            · refine oneT_fr ?_ ?_ ?_
              · kernel_rfl
              · kernel_rfl
              intro T y w6 K Qq Cv hF hC hd hV hK
              try (simp [deps, VL, IsV, Region.binds] at hd)
              have t72 := hF.get 4 72 (by kernel_rfl)
              simp only [hd] at t72
              clear hF
              go_simp
              exact hK _ _ (hV _ _ hC (Below.refl _ _) rfl)
            · refine oneT_fr ?_ ?_ ?_
              · kernel_rfl
              · kernel_rfl
              intro T y w6 K Qq Cv hF hC hd hV hK
              try (simp [deps, VL, IsV, Region.binds] at hd)
              have t73 := hF.get 5 73 (by kernel_rfl)
              simp only [hd] at t73
              clear hF
              have q1 : w6.cell? ⟨w.heap.size, 1, none⟩ = some (.slice (some ⟨b3, off3, none⟩) n2 c2) := (kS2.out.below hC z2).cell 1
              have q2 : w6.cell? ⟨w.heap.size + 1, 1, none⟩ = some (.slice N nn nc) := (kX2.out.below hC z3).cell 1
              have q3 := (cellB (o := off3 + i * 3 + 1) hC hb3).trans e1.out
              have q4 := (cellB (o := off3 + i * 3 + 1 + 1) hC hb3).trans e2.out
              go_simp
              exact hK _ _ (hV _ _ hC (Below.refl _ _) rfl)
            · refine oneT_fr ?_ ?_ ?_
              · kernel_rfl
              · kernel_rfl
              intro T y w6 K Qq Cv hF hC hd hV hK
              try (simp [deps, VL, IsV, Region.binds] at hd)
              have t3 := hF.old 3 (.pointer (some ⟨w.heap.size + 1, 0, none⟩)) (by kernel_rfl) rfl
              clear hF
              go_simp
              exact hK _ _ (hV _ _ hC (Below.refl _ _) rfl)
            · refine oneT_fr ?_ ?_ ?_
              · kernel_rfl
              · kernel_rfl
              intro T y w6 K Qq Cv hF hC hd hV hK
              try (simp [deps, VL, IsV, Region.binds] at hd)
              have t75 := hF.get 7 75 (by kernel_rfl)
              simp only [hd] at t75
              clear hF
              have q1 : w6.cell? ⟨w.heap.size, 1, none⟩ = some (.slice (some ⟨b3, off3, none⟩) n2 c2) := (kS2.out.below hC z2).cell 1
              have q2 : w6.cell? ⟨w.heap.size + 1, 1, none⟩ = some (.slice N nn nc) := (kX2.out.below hC z3).cell 1
              have q3 := (cellB (o := off3 + i * 3 + 1) hC hb3).trans e1.out
              have q4 := (cellB (o := off3 + i * 3 + 1 + 1) hC hb3).trans e2.out
              go_simp
              exact hK _ _ (hV _ _ hC (Below.refl _ _) rfl)
            · refine oneT_fr ?_ ?_ ?_
              · kernel_rfl
              · kernel_rfl
              intro T y w6 K Qq Cv hF hC hd hV hK
              try (simp [deps, VL, IsV, Region.binds] at hd)
              have t16 := hF.old 16 (.int .i64 i) (by kernel_rfl) rfl
              clear hF
              go_simp
              exact hK _ _ (hV _ _ hC (Below.refl _ _) rfl)
            · refine oneT_fr ?_ ?_ ?_
              · kernel_rfl
              · kernel_rfl
              intro T y w6 K Qq Cv hF hC hd hV hK
              try (simp [deps, VL, IsV, Region.binds] at hd)
              have t77 := hF.get 9 77 (by kernel_rfl)
              simp only [hd] at t77
              clear hF
              go_simp
              exact hK _ _ (hV _ _ hC (Below.refl _ _) rfl)
            · refine oneT_fr ?_ ?_ ?_
              · kernel_rfl
              · kernel_rfl
              intro T y w6 K Qq Cv hF hC hd hV hK
              try (simp [deps, VL, IsV, Region.binds] at hd)
              have t78 := hF.get 10 78 (by kernel_rfl)
              simp only [hd] at t78
              clear hF
              go_simp
              exact hK _ _ (hV _ _ hC (Below.refl _ _) rfl)
            · refine oneT_fr ?_ ?_ ?_
              · kernel_rfl
              · kernel_rfl
              intro T y w6 K Qq Cv hF hC hd hV hK
              try (simp [deps, VL, IsV, Region.binds] at hd)
              have t76 := hF.get 8 76 (by kernel_rfl)
              simp only [hd] at t76
              have t79 := hF.get 11 79 (by kernel_rfl)
              simp only [hd] at t79
              clear hF
              go_simp
              refine (hTu.out w6 (3 * (i : Int) + 1) (hBw2.out.trans (hC.mono hBw2.out.size)) (by omega)).mono ?_
              rintro e w7 ⟨⟨x, rfl, hx0, hx1⟩, rfl⟩
              exact hK _ _ (hV _ _ hC (Below.refl _ _) ⟨x, rfl, hx0, hx1⟩)
            · refine oneT_fr ?_ ?_ ?_
              · kernel_rfl
              · kernel_rfl
              intro T y w6 K Qq Cv hF hC hd hV hK
              try (simp [deps, VL, IsV, Region.binds] at hd)
              obtain ⟨e0, x, e1, hx0, hx1⟩ := hd
              have t74 := hF.get 6 74 (by kernel_rfl)
              simp only [e0, e1] at t74
              have t80 := hF.get 12 80 (by kernel_rfl)
              simp only [e0, e1] at t80
              clear hF
              have hAm := hide (amongB_any lo hi' x w6 (by omega) ⟨hx0, hx1⟩)
              go_simp
              refine hAm.out.mono ?_
              rintro e w7 ⟨⟨z, rfl, hz0, hz1⟩, hb7⟩
              exact hK _ _ (hV _ _ (hC.trans (hb7.mono hC.size)) hb7 ⟨z, rfl, hz0, hz1⟩)
            · refine oneT_fr ?_ ?_ ?_
              · kernel_rfl
              · kernel_rfl
              intro T y w6 K Qq Cv hF hC hd hV hK
              try (simp [deps, VL, IsV, Region.binds] at hd)
              obtain ⟨x, e1, hx0, hx1⟩ := hd
              have t81 := hF.get 13 81 (by kernel_rfl)
              simp only [e1] at t81
              clear hF
              have tb := t81
              rw [Array.getD_eq_getD_getElem?] at tb
              go_simp
              exact hK _ _ (hV _ _ (hC.alloc hC.size _) ((Below.refl _ _).alloc (Nat.le_refl _) _) ⟨x, _, rfl, hx0, hx1, blkNew rfl⟩)
          intro y w6 hC hd
          simp [EndsL, IsV] at hd
          obtain ⟨d0', d1', d2', d3', d4', d5', d6', d7', d8', d9', d10', d11', d12', d13', ⟨z, g, d14', hz0', hz1', hg⟩⟩ := hd
          simp only [List.take_succ_cons, List.take_zero, List.drop_succ_cons, List.drop_zero, putAll, Act.put]
          rw [d0', d14']
          clear d0' d1' d2' d3' d4' d5' d6' d7' d8' d9' d10' d11' d12' d13' d14'
          simp only [List.setIfInBounds_toArray, List.set_cons_succ, List.set_cons_zero]
          have hB6 := hide (hB2.out.trans (hC.mono hs2))
          have hs6 := hB6.out.size
          have ho6 := own_below ho.out hC
          clear hC
          go_wp2_with (at_builtin; refine wpList_append_own _ rfl _ _ 49 rfl w1.heap.size 3 i0 (.int .i64 0) 1 8 Try.underlying49 hi0.out hz0.out hz1.out hz2.out rfl (by decide) _ _ _ rfl ho6 ⟨g, 0, none⟩ 1 1 [.int .i64 z] rfl rfl (cell_one hg) (by simp [Value.oneCell']) (by unfold maxLen; omega) (by omega) (by omega) ?_; intro v' w7 hown7 hgrow7 _)
          have hB7 := hide (hB6.out.grown hgrow7 (by omega) (fun k hk => (ho6.lt k hk).1))
          have ho8 := hide (show OwnI w7 w1.heap.size v' (i + 1) ((al ++ [z]).map (Value.int .i64)) by rw [List.map_append]; exact hown7)
          clear hgrow7 ho6 hown7 hg
          go_wp2
          go_roundg (n2 - (i + 1))
          case measure => omega
          case rel =>
            refine ⟨i + 1, al ++ [z], by omega, by omega, by go_num, by rw [List.length_append, hal.out]; rfl, hide fun k hk' => ?_, hB7, ho8⟩
            by_cases e : k = i
            · subst e
              rw [List.getElem?_append_right (by rw [hal.out]; exact Nat.le_refl _), hal.out, Nat.sub_self]
              simp only [List.getElem?_cons_zero, Option.getD_some]
              unfold inS biasOf
              simp only
              rw [hlo.out, hhi.out]
              omega
            · rw [List.getElem?_append_left (by rw [hal.out]; omega)]
              exact hbi.out k (by omega)
        · have hltz : ¬ (i : Int) < (n2 : Int) := by omega
          obtain rfl : i = n2 := by omega
          obtain ⟨w3, hw3⟩ : ∃ w3, w3 = wr := ⟨_, rfl⟩
          subst hw3
          obtain ⟨AL, cA, rfl, hrA, hgA⟩ := rdInts_own ho.out hal
          obtain ⟨B3, hB3⟩ : ∃ B3, w3.heap.size = B3 := ⟨_, rfl⟩
          have hLf := hide (show LfW B3 w3 gL gS AL j i U rs al from ⟨(hLw.out w3 hB2.out).1, hUl.out, (hLw.out w3 hB2.out).2, hrA, by omega, ⟨by omega, hgne⟩, fun b o e => by have := hgA b o e; rw [hB3] at this; omega⟩)
          have hBr3 := hide (show Below B0 W0 w3 from hBr.out.trans (hB2.out.mono hs0))
          have hTr0 := hide (show Truth S same al rs [] 0 U from .start U (by rw [hUl.out, hrl.out]) (fun k hk => hin.out k (by rw [hrl.out] at hk; exact hk)))
          have hTA := hide (fun es wk V (h : Truth S same al rs es wk V) => truth_all hsks (by exact hok.out) (by rw [hrl.out, hn.out]) h)
          have hB3s : B3 ≤ w3.heap.size := by omega
          obtain ⟨i2, hk0, hk1, hk2, hk3⟩ := info_parts infoEv
          replace hk0 := hide hk0
          replace hk1 := hide hk1
          replace hk2 := hide hk2
          replace hk3 := hide hk3
          have zB : B0 ≤ B3 := by omega
          have x0 : w3.cell? ⟨w.heap.size + 1, 0, none⟩ = some (.slice Wh nw cw) := kX2.out.cell 0
          have zLB : gL < B3 := hLf.out.gl
          have zGL : B0 ≤ gL := hgL
          clear ho hgA hrA hB2 hBw2 kS2 kX2 hLw kSr kXr hBw hBr zL zSS hgg hi
          clear zSr zXr z2 z3 hs2 hgL hgS
          go_wp2
          clear x0 x9
          go_loopg [12, 13, 17, 18, 19, 20, 21, 22, 23, 24] nw (fun gg s12 s13 s17 s18 _ _ _ _ _ _ wr => ∃ (p us wk : Nat) (es : List Ev) (U : List Int), p ≤ nw ∧ p ≤ 60 ∧ nw ≤ gg + p ∧ s18 = .int .i64 p ∧ s12 = .int .i64 us ∧ us ≤ 5 + 11 * p ∧ s13 = .int .i64 wk ∧ wk ≤ 2 * p ∧ es.length = p ∧ B3 ≤ wr.heap.size ∧ Hid (Truth S same al rs es wk U) ∧ Hid (LfW B3 wr gL gS AL j i U rs al) ∧ Hid (Below B0 W0 wr) ∧ Hid (wr.ownsRow B3 78 5 s17 p (es.flatMap evCells)))
          case atStart => exact ⟨0, j, 0, [], U, Nat.zero_le _, by omega, by omega, rfl, rfl, by omega, rfl, by omega, rfl, hB3s, hTr0, hLf, hBr3, hide (World.ownsRow_nil _ _ _ _)⟩
          case round =>
            clear hTr0 hLf hBr3 hUl hin
            obtain ⟨p, us, wk, es, U, hp, hp6, hgg, rfl, rfl, hus, rfl, hwk, hel, hs3, hTr, hLf, hBr, hev⟩ := hrel
            have hBw := hide (hB.out.trans (hBr.out.mono hsz))
            have kSr := hide (kS.out.below hBr.out zS)
            have kXr := hide (kX.out.below hBr.out zX)
            have x0 : wr.cell? ⟨w.heap.size + 1, 0, none⟩ = some (.slice Wh nw cw) := kXr.out.cell 0
            by_cases hlt : p < nw ∧ p < 60
            · have d1' : decide ((p : Int) < (nw : Int)) = true := decide_eq_true (by omega)
              have d2' : decide ((p : Int) < 60) = true := decide_eq_true (by omega)
              obtain ⟨bW, oW, rfl, hbW, hcW⟩ := hwB.out wr hBw.out (by omega)
              obtain ⟨nv, hcv, hnv⟩ := hcW p hlt.1
              have hpz : (0 : Int) ≤ (p : Int) := by omega
              have hpz2 : (p : Int) < (nw : Int) := by omega
              have hwv : IntKind.i64.wrap nv = nv := by rw [IntKind.wrap_i64]; omega
              obtain ⟨m, rfl⟩ : ∃ m : Nat, nv = m := ⟨nv.toNat, by omega⟩
              have hm3 : (m : Int).tmod 3 = ((m % 3 : Nat) : Int) := by rw [Int.tmod_eq_emod_of_nonneg (by omega)]; norm_cast
              obtain ⟨m3, hm3'⟩ : ∃ m3, m % 3 = m3 := ⟨_, rfl⟩
              have hm32 : m3 ≤ 2 := by omega
              rw [hm3'] at hm3
              have hw3' : IntKind.i64.wrap (m3 : Int) = (m3 : Int) := by rw [IntKind.wrap_i64]; omega
              replace hel := hide hel
              replace hm3' := hide hm3'
              obtain ⟨w4, hw4⟩ : ∃ w4, w4 = wr := ⟨_, rfl⟩
              subst hw4
              have hs34 := hs3
              go_wp2
              clear x0 hcv d1' d2'
              -- the weeks
              go_loopg [12, 13, 20, 21] m3 (fun gg s12 s13 s20 _ wr => ∃ (v us wk : Nat) (U : List Int), v ≤ m3 ∧ m3 ≤ gg + v ∧ s20 = .int .i64 v ∧ s12 = .int .i64 us ∧ us ≤ 5 + 11 * p + 5 * v ∧ s13 = .int .i64 wk ∧ wk ≤ 2 * p + v ∧ B3 ≤ wr.heap.size ∧ Hid (Truth S same al rs es wk U) ∧ Hid (LfW B3 wr gL gS AL j i U rs al) ∧ Hid (Below B0 W0 wr) ∧ Hid (wr.ownsRow B3 78 5 u17 p (es.flatMap evCells)))
              case atStart => exact ⟨0, us, wk, U, Nat.zero_le _, by omega, rfl, rfl, by omega, rfl, hwk, hs34, hTr, hLf, hBr, hev⟩
              case round =>
                clear hTr hLf hBr hev hBw kSr kXr hwk hus hs3 hs34
                obtain ⟨v, us, wk, U, hv, hgv, rfl, rfl, hus, rfl, hwk, hs3, hTr, hLf, hBr, hev⟩ := hrel
                by_cases hlv : v < m3
                · have d1' : decide ((v : Int) < (m3 : Int)) = true := decide_eq_true (by omega)
                  have d2' : decide ((wk : Int) < 200) = true := decide_eq_true (by omega)
                  obtain ⟨w5, hw5⟩ : ∃ w5, w5 = wr := ⟨_, rfl⟩
                  subst hw5
                  have hU0 := hide (show ∀ k, j ≤ k → U[k]?.getD 0 = U[k]?.getD 0 from fun _ _ => rfl)
                  have hUb := hide (hTA.out es wk U hTr.out).2.2.2.2.2.1
                  have hULn := hLf.out.len
                  go_wp2
                  clear d1' d2'
                  go_loopg [12, 21] j (fun gg s12 s21 wr => ∃ (q us : Nat) (V : List Int), q ≤ j ∧ j ≤ gg + q ∧ s21 = .int .i64 q ∧ s12 = .int .i64 us ∧ us ≤ 5 + 11 * p + 5 * v + q ∧ B3 ≤ wr.heap.size ∧ Hid (∀ k, k < q → ∃ d, inS (fadeOf (S.sks[k]?.getD default)) d ∧ V[k]?.getD 0 = lim (U[k]?.getD 0 - d)) ∧ Hid (∀ k, q ≤ k → V[k]?.getD 0 = U[k]?.getD 0) ∧ Hid (LfW B3 wr gL gS AL j i V rs al) ∧ Hid (Below B0 W0 wr) ∧ Hid (wr.ownsRow B3 78 5 u17 p (es.flatMap evCells)))
                  case atStart => exact ⟨0, us, U, Nat.zero_le _, by omega, rfl, rfl, by omega, hs3, hide (fun k h => absurd h (by omega)), hide (fun k _ => rfl), hLf, hBr, hev⟩
                  case round =>
                    clear hLf hBr hev hus hs3
                    obtain ⟨q, us, V, hq, hgq, rfl, rfl, hus, hs3, hVl, hVg, hLf, hBr, hev⟩ := hrel
                    have hBw := hide (hB.out.trans (hBr.out.mono hsz))
                    have kSr := hide (kS.out.below hBr.out zS)
                    have kXr := hide (kX.out.below hBr.out zX)
                    by_cases hlq : q < j
                    · have hlqz : (q : Int) < (j : Int) := by omega
                      have hqz : (0 : Int) ≤ (q : Int) := by omega
                      have hVq := hVg.out q (Nat.le_refl _)
                      have hUq := hUb.out q (by rw [hULn]; exact hlq)
                      obtain ⟨c0, c0f⟩ := hLf.out.lev.cell (i := q) (by rw [hLf.out.len]; exact hlq)
                      rw [hVq] at c0
                      obtain ⟨u, hu⟩ : ∃ u, U[q]?.getD 0 = u := ⟨_, rfl⟩
                      rw [hu] at c0 hVq hUq
                      obtain ⟨bA, oA, y0, y1, y2, y3, y4, rfl, hbA, hy, e0, e1, e2, e3, e4⟩ := (hskB.out wr hBw.out).cells5 hlq
                      rw [sk_at S.sks q (by rw [hn.out]; exact hlq)] at hy
                      unfold skCells at hy
                      simp only [List.cons.injEq, and_true] at hy
                      obtain ⟨rfl, rfl, rfl, rfl, rfl⟩ := hy
                      have hsq := hsok.out q hlq
                      obtain ⟨fl, hfl⟩ : ∃ x, (S.sks[q]?.getD default).fl = x := ⟨_, rfl⟩
                      obtain ⟨fh, hfh⟩ : ∃ x, (S.sks[q]?.getD default).fh = x := ⟨_, rfl⟩
                      rw [hfl] at e3 hsq
                      rw [hfh] at e4 hsq
                      have hf5 : 0 ≤ fl ∧ fl ≤ fh ∧ fh ≤ 1000 := ⟨hsq.2.2.2.1, hsq.2.2.2.2.1, hsq.2.2.2.2.2⟩
                      replace c0 := hide c0
                      replace c0f := hide c0f
                      replace e3 := hide e3
                      replace e4 := hide e4
                      replace hfl := hide hfl
                      replace hfh := hide hfh
                      replace hu := hide hu
                      replace hVq := hide hVq
                      clear e0 e1 e2 hsq
                      have zS2 := kSr.out.lt
                      have zX2 := kXr.out.lt
                      have zl2 : gL < wr.heap.size := by omega
                      go_wp2
                      refine region_grow_tail 20 [IsV (.slice (some ⟨gL, 0, none⟩) j cL), IsV (.int .i64 q), IsV (.slice (some ⟨gL, 0, none⟩) j cL), IsV (.int .i64 q), IsV (.pointer (some ⟨gL, q, none⟩)), IsV (.int .i64 u), IsV (.pointer (some ⟨w.heap.size, 0, none⟩)), IsV (.slice (some ⟨bA, oA, none⟩) j c), IsV (.int .i64 q), IsV (.pointer (some ⟨bA, oA + q * 5, none⟩)), IsV (.pointer (some ⟨bA, oA + q * 5 + 3, none⟩)), IsV (.agg #[.int .i64 fl, .int .i64 fh]), IsV (.pointer (some ⟨w.heap.size + 1, 1, none⟩)), IsV (.slice N nn nc), IsV (.int .i64 us), NumL 0 65535, NumL fl fh, SubIn u fl fh, MaxIn u fl fh, IsV (.pointer (some ⟨gL, q, none⟩))] (by kernel_rfl) (by kernel_rfl) rfl ?_ ?_ ?_
                      · simp [AllStb, IsV.stb, NumL.stb, SubIn.stb, MaxIn.stb]
                      · refine ⟨?_, ?_, ?_, ?_, ?_, ?_, ?_, ?_, ?_, ?_, ?_, ?_, ?_, ?_, ?_, ?_, ?_, ?_, ?_, ?_, trivial⟩
                        · refine oneT_fr ?_ ?_ ?_
                          · kernel_rfl
                          · kernel_rfl
                          intro T y w6 K Qq Cv hF hC hd hV hK
                          try (simp [deps, VL, IsV, Region.binds] at hd)
                          have t10 := hF.old 10 (.slice (some ⟨gL, 0, none⟩) j cL) (by kernel_rfl) rfl
                          clear hF
                          go_simp
                          exact hK _ _ (hV _ _ hC (Below.refl _ _) rfl)
                        · refine oneT_fr ?_ ?_ ?_
                          · kernel_rfl
                          · kernel_rfl
                          intro T y w6 K Qq Cv hF hC hd hV hK
                          try (simp [deps, VL, IsV, Region.binds] at hd)
                          have t21 := hF.old 21 (.int .i64 q) (by kernel_rfl) rfl
                          clear hF
                          go_simp
                          exact hK _ _ (hV _ _ hC (Below.refl _ _) rfl)
                        · refine oneT_fr ?_ ?_ ?_
                          · kernel_rfl
                          · kernel_rfl
                          intro T y w6 K Qq Cv hF hC hd hV hK
                          try (simp [deps, VL, IsV, Region.binds] at hd)
                          have t10 := hF.old 10 (.slice (some ⟨gL, 0, none⟩) j cL) (by kernel_rfl) rfl
                          clear hF
                          go_simp
                          exact hK _ _ (hV _ _ hC (Below.refl _ _) rfl)
                        · refine oneT_fr ?_ ?_ ?_
                          · kernel_rfl
                          · kernel_rfl
                          intro T y w6 K Qq Cv hF hC hd hV hK
                          try (simp [deps, VL, IsV, Region.binds] at hd)
                          have t21 := hF.old 21 (.int .i64 q) (by kernel_rfl) rfl
                          clear hF
                          go_simp
                          exact hK _ _ (hV _ _ hC (Below.refl _ _) rfl)
                        · refine oneT_fr ?_ ?_ ?_
                          · kernel_rfl
                          · kernel_rfl
                          intro T y w6 K Qq Cv hF hC hd hV hK
                          try (simp [deps, VL, IsV, Region.binds] at hd)
                          have t121 := hF.get 2 121 (by kernel_rfl)
                          simp only [hd] at t121
                          have t122 := hF.get 3 122 (by kernel_rfl)
                          simp only [hd] at t122
                          clear hF
                          have q0 : w6.cell? ⟨w.heap.size, 0, none⟩ = some (.slice (some ⟨bA, oA, none⟩) j c) := (kSr.out.below hC zS2).cell 0
                          have q1 : w6.cell? ⟨w.heap.size + 1, 1, none⟩ = some (.slice N nn nc) := (kXr.out.below hC zX2).cell 1
                          have q2 := (cellB (o := q) hC zl2).trans c0.out
                          have q3 := (cellB (o := oA + q * 5 + 3) hC hbA).trans e3.out
                          have q4 := (cellB (o := oA + q * 5 + 4) hC hbA).trans e4.out
                          go_simp
                          exact hK _ _ (hV _ _ hC (Below.refl _ _) rfl)
                        · refine oneT_fr ?_ ?_ ?_
                          · kernel_rfl
                          · kernel_rfl
                          intro T y w6 K Qq Cv hF hC hd hV hK
                          try (simp [deps, VL, IsV, Region.binds] at hd)
                          have t123 := hF.get 4 123 (by kernel_rfl)
                          simp only [hd] at t123
                          clear hF
                          have q0 : w6.cell? ⟨w.heap.size, 0, none⟩ = some (.slice (some ⟨bA, oA, none⟩) j c) := (kSr.out.below hC zS2).cell 0
                          have q1 : w6.cell? ⟨w.heap.size + 1, 1, none⟩ = some (.slice N nn nc) := (kXr.out.below hC zX2).cell 1
                          have q2 := (cellB (o := q) hC zl2).trans c0.out
                          have q3 := (cellB (o := oA + q * 5 + 3) hC hbA).trans e3.out
                          have q4 := (cellB (o := oA + q * 5 + 4) hC hbA).trans e4.out
                          go_simp
                          exact hK _ _ (hV _ _ hC (Below.refl _ _) rfl)
                        · refine oneT_fr ?_ ?_ ?_
                          · kernel_rfl
                          · kernel_rfl
                          intro T y w6 K Qq Cv hF hC hd hV hK
                          try (simp [deps, VL, IsV, Region.binds] at hd)
                          have t2 := hF.old 2 (.pointer (some ⟨w.heap.size, 0, none⟩)) (by kernel_rfl) rfl
                          clear hF
                          go_simp
                          exact hK _ _ (hV _ _ hC (Below.refl _ _) rfl)
                        · refine oneT_fr ?_ ?_ ?_
                          · kernel_rfl
                          · kernel_rfl
                          intro T y w6 K Qq Cv hF hC hd hV hK
                          try (simp [deps, VL, IsV, Region.binds] at hd)
                          have t125 := hF.get 6 125 (by kernel_rfl)
                          simp only [hd] at t125
                          clear hF
                          have q0 : w6.cell? ⟨w.heap.size, 0, none⟩ = some (.slice (some ⟨bA, oA, none⟩) j c) := (kSr.out.below hC zS2).cell 0
                          have q1 : w6.cell? ⟨w.heap.size + 1, 1, none⟩ = some (.slice N nn nc) := (kXr.out.below hC zX2).cell 1
                          have q2 := (cellB (o := q) hC zl2).trans c0.out
                          have q3 := (cellB (o := oA + q * 5 + 3) hC hbA).trans e3.out
                          have q4 := (cellB (o := oA + q * 5 + 4) hC hbA).trans e4.out
                          go_simp
                          exact hK _ _ (hV _ _ hC (Below.refl _ _) rfl)
                        · refine oneT_fr ?_ ?_ ?_
                          · kernel_rfl
                          · kernel_rfl
                          intro T y w6 K Qq Cv hF hC hd hV hK
                          try (simp [deps, VL, IsV, Region.binds] at hd)
                          have t21 := hF.old 21 (.int .i64 q) (by kernel_rfl) rfl
                          clear hF
                          go_simp
                          exact hK _ _ (hV _ _ hC (Below.refl _ _) rfl)
                        · refine oneT_fr ?_ ?_ ?_
                          · kernel_rfl
                          · kernel_rfl
                          intro T y w6 K Qq Cv hF hC hd hV hK
                          try (simp [deps, VL, IsV, Region.binds] at hd)
                          have t126 := hF.get 7 126 (by kernel_rfl)
                          simp only [hd] at t126
                          have t127 := hF.get 8 127 (by kernel_rfl)
                          simp only [hd] at t127
                          clear hF
                          have q0 : w6.cell? ⟨w.heap.size, 0, none⟩ = some (.slice (some ⟨bA, oA, none⟩) j c) := (kSr.out.below hC zS2).cell 0
                          have q1 : w6.cell? ⟨w.heap.size + 1, 1, none⟩ = some (.slice N nn nc) := (kXr.out.below hC zX2).cell 1
                          have q2 := (cellB (o := q) hC zl2).trans c0.out
                          have q3 := (cellB (o := oA + q * 5 + 3) hC hbA).trans e3.out
                          have q4 := (cellB (o := oA + q * 5 + 4) hC hbA).trans e4.out
                          go_simp
                          exact hK _ _ (hV _ _ hC (Below.refl _ _) rfl)
                        · refine oneT_fr ?_ ?_ ?_
                          · kernel_rfl
                          · kernel_rfl
                          intro T y w6 K Qq Cv hF hC hd hV hK
                          try (simp [deps, VL, IsV, Region.binds] at hd)
                          have t128 := hF.get 9 128 (by kernel_rfl)
                          simp only [hd] at t128
                          clear hF
                          go_simp
                          exact hK _ _ (hV _ _ hC (Below.refl _ _) rfl)
                        · refine oneT_fr ?_ ?_ ?_
                          · kernel_rfl
                          · kernel_rfl
                          intro T y w6 K Qq Cv hF hC hd hV hK
                          try (simp [deps, VL, IsV, Region.binds] at hd)
                          have t129 := hF.get 10 129 (by kernel_rfl)
                          simp only [hd] at t129
                          clear hF
                          have q0 : w6.cell? ⟨w.heap.size, 0, none⟩ = some (.slice (some ⟨bA, oA, none⟩) j c) := (kSr.out.below hC zS2).cell 0
                          have q1 : w6.cell? ⟨w.heap.size + 1, 1, none⟩ = some (.slice N nn nc) := (kXr.out.below hC zX2).cell 1
                          have q2 := (cellB (o := q) hC zl2).trans c0.out
                          have q3 := (cellB (o := oA + q * 5 + 3) hC hbA).trans e3.out
                          have q4 := (cellB (o := oA + q * 5 + 4) hC hbA).trans e4.out
                          go_simp
                          exact hK _ _ (hV _ _ hC (Below.refl _ _) rfl)
                        · refine oneT_fr ?_ ?_ ?_
                          · kernel_rfl
                          · kernel_rfl
                          intro T y w6 K Qq Cv hF hC hd hV hK
                          try (simp [deps, VL, IsV, Region.binds] at hd)
                          have t3 := hF.old 3 (.pointer (some ⟨w.heap.size + 1, 0, none⟩)) (by kernel_rfl) rfl
                          clear hF
                          go_simp
                          exact hK _ _ (hV _ _ hC (Below.refl _ _) rfl)
                        · refine oneT_fr ?_ ?_ ?_
                          · kernel_rfl
                          · kernel_rfl
                          intro T y w6 K Qq Cv hF hC hd hV hK
                          try (simp [deps, VL, IsV, Region.binds] at hd)
                          have t131 := hF.get 12 131 (by kernel_rfl)
                          simp only [hd] at t131
                          clear hF
                          have q0 : w6.cell? ⟨w.heap.size, 0, none⟩ = some (.slice (some ⟨bA, oA, none⟩) j c) := (kSr.out.below hC zS2).cell 0
                          have q1 : w6.cell? ⟨w.heap.size + 1, 1, none⟩ = some (.slice N nn nc) := (kXr.out.below hC zX2).cell 1
                          have q2 := (cellB (o := q) hC zl2).trans c0.out
                          have q3 := (cellB (o := oA + q * 5 + 3) hC hbA).trans e3.out
                          have q4 := (cellB (o := oA + q * 5 + 4) hC hbA).trans e4.out
                          go_simp
                          exact hK _ _ (hV _ _ hC (Below.refl _ _) rfl)
                        · refine oneT_fr ?_ ?_ ?_
                          · kernel_rfl
                          · kernel_rfl
                          intro T y w6 K Qq Cv hF hC hd hV hK
                          try (simp [deps, VL, IsV, Region.binds] at hd)
                          have t12 := hF.old 12 (.int .i64 us) (by kernel_rfl) rfl
                          clear hF
                          go_simp
                          exact hK _ _ (hV _ _ hC (Below.refl _ _) rfl)
                        · refine oneT_fr ?_ ?_ ?_
                          · kernel_rfl
                          · kernel_rfl
                          intro T y w6 K Qq Cv hF hC hd hV hK
                          try (simp [deps, VL, IsV, Region.binds] at hd)
                          have t132 := hF.get 13 132 (by kernel_rfl)
                          simp only [hd] at t132
                          have t133 := hF.get 14 133 (by kernel_rfl)
                          simp only [hd] at t133
                          clear hF
                          go_simp
                          refine (hTu.out w6 ((us : Int)) (hBw.out.trans (hC.mono hBw.out.size)) (by omega)).mono ?_
                          rintro e w7 ⟨⟨x, rfl, hx0, hx1⟩, rfl⟩
                          exact hK _ _ (hV _ _ hC (Below.refl _ _) ⟨x, rfl, hx0, hx1⟩)
                        · refine oneT_fr ?_ ?_ ?_
                          · kernel_rfl
                          · kernel_rfl
                          intro T y w6 K Qq Cv hF hC hd hV hK
                          try (simp [deps, VL, IsV, Region.binds] at hd)
                          obtain ⟨e0, x, e1, hx0, hx1⟩ := hd
                          have t130 := hF.get 11 130 (by kernel_rfl)
                          simp only [e0, e1] at t130
                          have t134 := hF.get 15 134 (by kernel_rfl)
                          simp only [e0, e1] at t134
                          clear hF
                          have hAm := hide (amongB_any fl fh x w6 (by omega) ⟨hx0, hx1⟩)
                          go_simp
                          refine hAm.out.mono ?_
                          rintro e w7 ⟨⟨z, rfl, hz0, hz1⟩, hb7⟩
                          exact hK _ _ (hV _ _ (hC.trans (hb7.mono hC.size)) hb7 ⟨z, rfl, hz0, hz1⟩)
                        · refine oneT_fr ?_ ?_ ?_
                          · kernel_rfl
                          · kernel_rfl
                          intro T y w6 K Qq Cv hF hC hd hV hK
                          try (simp [deps, VL, IsV, Region.binds] at hd)
                          obtain ⟨e0, d, e1, hx0, hx1⟩ := hd
                          have t124 := hF.get 5 124 (by kernel_rfl)
                          simp only [e0, e1] at t124
                          have t135 := hF.get 16 135 (by kernel_rfl)
                          simp only [e0, e1] at t135
                          clear hF
                          have hw1 : IntKind.i64.wrap (u - d) = u - d := by rw [IntKind.wrap_i64]; omega
                          go_simp
                          exact hK _ _ (hV _ _ hC (Below.refl _ _) ⟨d, hx0, hx1, rfl⟩)
                        · refine oneT_fr ?_ ?_ ?_
                          · kernel_rfl
                          · kernel_rfl
                          intro T y w6 K Qq Cv hF hC hd hV hK
                          try (simp [deps, VL, IsV, Region.binds] at hd)
                          obtain ⟨d, hx0, hx1, e1⟩ := hd
                          have t136 := hF.get 17 136 (by kernel_rfl)
                          simp only [e1] at t136
                          clear hF
                          go_simp
                          exact hK _ _ (hV _ _ hC (Below.refl _ _) ⟨d, hx0, hx1, rfl⟩)
                        · refine oneT_fr ?_ ?_ ?_
                          · kernel_rfl
                          · kernel_rfl
                          intro T y w6 K Qq Cv hF hC hd hV hK
                          try (simp [deps, VL, IsV, Region.binds] at hd)
                          have t119 := hF.get 0 119 (by kernel_rfl)
                          simp only [hd] at t119
                          have t120 := hF.get 1 120 (by kernel_rfl)
                          simp only [hd] at t120
                          clear hF
                          have q0 : w6.cell? ⟨w.heap.size, 0, none⟩ = some (.slice (some ⟨bA, oA, none⟩) j c) := (kSr.out.below hC zS2).cell 0
                          have q1 : w6.cell? ⟨w.heap.size + 1, 1, none⟩ = some (.slice N nn nc) := (kXr.out.below hC zX2).cell 1
                          have q2 := (cellB (o := q) hC zl2).trans c0.out
                          have q3 := (cellB (o := oA + q * 5 + 3) hC hbA).trans e3.out
                          have q4 := (cellB (o := oA + q * 5 + 4) hC hbA).trans e4.out
                          go_simp
                          exact hK _ _ (hV _ _ hC (Below.refl _ _) rfl)
                      intro y w6 hC hd
                      simp [EndsL, IsV] at hd
                      obtain ⟨-, -, -, -, -, -, -, -, -, -, -, -, -, -, -, -, -, -, ⟨d, hd1', hd2', d18⟩, d19⟩ := hd
                      simp only [List.take_succ_cons, List.take_zero, List.drop_succ_cons, List.drop_zero, putAll, Act.put]
                      rw [d18, d19]
                      clear d18 d19
                      simp only [List.setIfInBounds_toArray, List.set_cons_succ, List.set_cons_zero]
                      have hL6 := hLf.out.below (hC.mono hs3)
                      have hs6 := hC.size
                      obtain ⟨c6, c6f⟩ := hL6.lev.cell (i := q) (by rw [hL6.len]; exact hlq)
                      have hL7 := hide (hL6.store q (max 0 (u - d)))
                      have hev7 := hide (ownsRow_setCell_below (a := ⟨gL, q, none⟩) (own_below hev.out hC) zLB (.int .i64 (max 0 (u - d))))
                      have hB7 := hide ((hBr.out.trans (hC.mono (by omega))).setCell (p := ⟨gL, q, none⟩) zGL (.int .i64 (max 0 (u - d))))
                      have hs7 : B3 ≤ (w6.setCell ⟨gL, q, none⟩ (.int .i64 (max 0 (u - d)))).heap.size := by simp; omega
                      have hlim : max 0 (u - d) = lim (u - d) := by unfold lim; omega
                      have hwu : IntKind.i64.wrap ((us : Int) + 1) = (us : Int) + 1 := by rw [IntKind.wrap_i64]; omega
                      obtain ⟨mx, hmx⟩ : ∃ x, max 0 (u - d) = x := ⟨_, rfl⟩
                      rw [hmx] at hL7 hev7 hB7 hs7 hlim ⊢
                      have hVl2 := hide (show ∀ k, k < q + 1 → ∃ d, inS (fadeOf (S.sks[k]?.getD default)) d ∧ (V.set q mx)[k]?.getD 0 = lim (U[k]?.getD 0 - d) from fun k hk => by
                        by_cases e : k = q
                        · subst e
                          refine ⟨d, ⟨?_, ?_⟩, ?_⟩
                          · show (S.sks[k]?.getD default).fl ≤ d
                            rw [hfl.out]; exact hd1'
                          · show d ≤ (S.sks[k]?.getD default).fh
                            rw [hfh.out]; exact hd2'
                          · rw [List.getElem?_set_self (by rw [hLf.out.len]; exact hlq), hu.out]; exact hlim
                        · rw [List.getElem?_set_ne (Ne.symm e)]; exact hVl.out k (by omega))
                      have hVg2 := hide (show ∀ k, q + 1 ≤ k → (V.set q mx)[k]?.getD 0 = U[k]?.getD 0 from fun k hk => by
                        rw [List.getElem?_set_ne (by omega)]; exact hVg.out k (by omega))
                      clear hL6 hC hlim hmx hVl hVg hLf hBr hev c0 c0f
                      go_wp2
                      go_roundg (j - (q + 1))
                      case measure => omega
                      case rel => exact ⟨q + 1, us + 1, V.set q mx, by omega, by omega, by go_num, by go_num, by omega, hs7, hVl2, hVg2, hL7, hB7, hev7⟩
                    · have hlqz : ¬ (q : Int) < (j : Int) := by omega
                      obtain rfl : q = j := by omega
                      have hTr2 := hide (show Truth S same al rs es (wk + 1) V from .week es wk U V hTr.out (by omega) (by rw [hLf.out.len, hULn]) (fun k hk => hVl.out k (by rw [hULn] at hk; exact hk)))
                      clear hVl hVg hUb hU0 hTr
                      go_wp2
                      go_roundg (m3 - (v + 1))
                      case measure => omega
                      case rel => exact ⟨v + 1, us, wk + 1, V, by omega, by omega, by go_num, rfl, by omega, by go_num, by omega, hs3, by push_cast; exact hTr2, hLf, hBr, hev⟩
                · have d1' : decide ((v : Int) < (m3 : Int)) = false := decide_eq_false (by omega)
                  obtain rfl : v = m3 := by omega
                  have hBw := hide (hB.out.trans (hBr.out.mono hsz))
                  have kSr := hide (kS.out.below hBr.out zS)
                  have kXr := hide (kX.out.below hBr.out zX)
                  have s0 : wr.cell? ⟨w.heap.size, 0, none⟩ = some (.slice A j c) := kSr.out.cell 0
                  have h28a : (m : Int).tdiv 3 = ((m / 3 : Nat) : Int) := by rw [Int.tdiv_eq_ediv_of_nonneg (by omega)]; norm_cast
                  have h28b : ((m / 3 : Nat) : Int).tmod (j : Int) = ((m / 3 % j : Nat) : Int) := by rw [Int.tmod_eq_emod_of_nonneg (by omega)]; norm_cast
                  have h30a : (m : Int).tdiv 16 = ((m / 16 : Nat) : Int) := by rw [Int.tdiv_eq_ediv_of_nonneg (by omega)]; norm_cast
                  have h30b : ((m / 16 : Nat) : Int).tmod 2 = ((m / 16 % 2 : Nat) : Int) := by rw [Int.tmod_eq_emod_of_nonneg (by omega)]; norm_cast
                  obtain ⟨kk, hkk⟩ : ∃ kk, m / 3 % j = kk := ⟨_, rfl⟩
                  have hkj : kk < j := by rw [← hkk]; exact Nat.mod_lt _ (by omega)
                  obtain ⟨m16, hm16⟩ : ∃ x, m / 16 % 2 = x := ⟨_, rfl⟩
                  rw [hkk] at h28b
                  rw [hm16] at h30b
                  have hm16b : m16 = 0 ∨ m16 = 1 := by omega
                  obtain ⟨md3, hmd3⟩ : ∃ x, m / 3 = x := ⟨_, rfl⟩
                  obtain ⟨md16, hmd16⟩ : ∃ x, m / 16 = x := ⟨_, rfl⟩
                  have hmb : md3 ≤ 65535 ∧ md16 ≤ 65535 := by omega
                  rw [hmd3] at h28a h28b
                  rw [hmd16] at h30a h30b
                  have hq1 : IntKind.i64.wrap (md3 : Int) = (md3 : Int) := by rw [IntKind.wrap_i64]; omega
                  have hq2 : IntKind.i64.wrap (kk : Int) = (kk : Int) := by rw [IntKind.wrap_i64]; omega
                  have hq3 : IntKind.i64.wrap (md16 : Int) = (md16 : Int) := by rw [IntKind.wrap_i64]; omega
                  have hq4 : IntKind.i64.wrap (m16 : Int) = (m16 : Int) := by rw [IntKind.wrap_i64]; omega
                  have bj : ((j : Int) == 0) = false := by rw [beq_eq_false_iff_ne]; omega
                  have bjn : (j == 0) = false := by rw [beq_eq_false_iff_ne]; omega
                  have hjn : ¬ j = 0 := by omega
                  have hUb := (hTA.out es wk U hTr.out).2.2.2.2.2.1 kk (by rw [hLf.out.len]; exact hkj)
                  have s1' : (wr.alloc (.cells #[.int .i64 wk, .int .i64 0, .int .i64 kk, .int .i64 0, .int .i64 0] 78)).cell? ⟨w.heap.size, 1, none⟩ = some (.slice A2 i c2) := (kSr.out.alloc _).cell 1
                  replace hkk := hide hkk
                  replace hm16 := hide hm16
                  replace hmd3 := hide hmd3
                  replace hmd16 := hide hmd16
                  have kY0 := hide (show Blk (wr.alloc (.cells #[.int .i64 wk, .int .i64 0, .int .i64 kk, .int .i64 0, .int .i64 0] 78)) wr.heap.size 78 #[.int .i64 wk, .int .i64 0, .int .i64 kk, .int .i64 0, .int .i64 0] from blkNew rfl)
                  have hA' := (Below.refl wr.heap.size wr).alloc (Nat.le_refl _) (.cells #[.int .i64 wk, .int .i64 0, .int .i64 kk, .int .i64 0, .int .i64 0] 78)
                  have hLf0 := hide (hLf.out.below (hA'.mono hs3))
                  have hBr0 := hide (hBr.out.trans (hA'.mono (by omega)))
                  have hBw0 := hide (hBw.out.trans (hA'.mono hBw.out.size))
                  have hev0 := hide (own_below hev.out hA')
                  have kS0 := hide (kSr.out.alloc (.cells #[.int .i64 wk, .int .i64 0, .int .i64 kk, .int .i64 0, .int .i64 0] 78))
                  have kX0 := hide (kXr.out.alloc (.cells #[.int .i64 wk, .int .i64 0, .int .i64 kk, .int .i64 0, .int .i64 0] 78))
                  have hGS : w.heap.size < wr.heap.size := kSr.out.lt
                  have hGX : w.heap.size + 1 < wr.heap.size := kXr.out.lt
                  have hGL : gL < wr.heap.size := by omega
                  have hA := hide hA'
                  clear hLf hBr hBw kSr kXr hgv hA'
                  obtain ⟨bq, hbq⟩ : ∃ b : Bool, b = decide (m16 = 1 ∧ 0 < i) := ⟨_, rfl⟩
                  replace hbq := hide hbq
                  go_upto_region 30 with fail
                  go_cut [159] from 84 to 222 (fun cc wx => cc = .bool bq ∧ wx = wr.alloc (.cells #[.int .i64 wk, .int .i64 0, .int .i64 kk, .int .i64 0, .int .i64 0] 78))
                  case first =>
                    by_cases h16 : m16 = 1
                    · have d3' : ((m16 : Int) == 1) = true := by rw [beq_iff_eq]; omega
                      by_cases hi0 : 0 < i
                      · have d4' : decide ((0 : Int) < (i : Int)) = true := decide_eq_true (by omega)
                        have d5' : decide (0 < i) = true := decide_eq_true hi0
                        have hfin : decide (m16 = 1 ∧ 0 < i) = true := decide_eq_true ⟨h16, hi0⟩
                        replace hfin := hide hfin
                        replace h16 := hide h16
                        replace hi0 := hide hi0
                        go_wp2
                        go_meet
                        case rel => exact ⟨by rw [hbq.out, hfin.out], rfl⟩
                      · have d4' : decide ((0 : Int) < (i : Int)) = false := decide_eq_false (by omega)
                        have d5' : decide (0 < i) = false := decide_eq_false hi0
                        have hfin : decide (m16 = 1 ∧ 0 < i) = false := decide_eq_false (fun h => hi0 h.2)
                        replace hfin := hide hfin
                        replace h16 := hide h16
                        replace hi0 := hide hi0
                        go_wp2
                        go_meet
                        case rel => exact ⟨by rw [hbq.out, hfin.out], rfl⟩
                    · have d3' : ((m16 : Int) == 1) = false := by rw [beq_eq_false_iff_ne]; omega
                      have hfin : decide (m16 = 1 ∧ 0 < i) = false := decide_eq_false (fun h => h16 h.1)
                      replace hfin := hide hfin
                      replace h16 := hide h16
                      go_wp2
                      go_meet
                      case rel => exact ⟨by rw [hbq.out, hfin.out], rfl⟩
                  case rest =>
                    obtain ⟨rfl, rfl⟩ := hcut
                    clear s0 s1' h28a h28b h30a h30b hq1 hq2 hq3 hq4 bj bjn hjn hw3' hm3 hwv
                    by_cases hmk : m16 = 1 ∧ 0 < i
                    · have hfin : bq = true := by rw [hbq.out]; exact decide_eq_true hmk
                      subst hfin
                      obtain ⟨c0', c0f'⟩ := hLf0.out.lev.cell (i := kk) (by rw [hLf0.out.len]; exact hkj)
                      obtain ⟨u, hu⟩ : ∃ u, U[kk]?.getD 0 = u := ⟨_, rfl⟩
                      rw [hu] at c0' hUb
                      clear c0' c0f'
                      obtain ⟨md32, hmd32⟩ : ∃ x, m / 32 = x := ⟨_, rfl⟩
                      have h31a : (m : Int).tdiv 32 = (md32 : Int) := by rw [Int.tdiv_eq_ediv_of_nonneg (by omega), ← hmd32]; norm_cast
                      obtain ⟨ii, hii'⟩ : ∃ x, md32 % i = x := ⟨_, rfl⟩
                      have hii : ii < i := by rw [← hii']; exact Nat.mod_lt _ (by omega)
                      have h31b : (md32 : Int).tmod (i : Int) = (ii : Int) := by rw [Int.tmod_eq_emod_of_nonneg (by omega), ← hii']; norm_cast
                      have hmb2 : md32 ≤ 65535 := by omega
                      have hq5 : IntKind.i64.wrap (md32 : Int) = (md32 : Int) := by rw [IntKind.wrap_i64]; omega
                      have hq6 : IntKind.i64.wrap (ii : Int) = (ii : Int) := by rw [IntKind.wrap_i64]; omega
                      have bi : ((i : Int) == 0) = false := by rw [beq_eq_false_iff_ne]; omega
                      have bin : (i == 0) = false := by rw [beq_eq_false_iff_ne]; omega
                      have hinn : ¬ i = 0 := by omega
                      obtain ⟨bI, oI, y0, y1, y2, rfl, hbI, hy, e0, e1, e2⟩ := (hinB.out _ hBw0.out).cells3 hii
                      rw [in_at S.ins ii (by rw [hn2.out]; exact hii)] at hy
                      unfold inCells at hy
                      simp only [List.cons.injEq, and_true] at hy
                      obtain ⟨rfl, rfl, rfl⟩ := hy
                      have hbz := hiok.out ii hii
                      obtain ⟨lo, hlo⟩ : ∃ x, (S.ins[ii]?.getD default).lo = x := ⟨_, rfl⟩
                      obtain ⟨hi', hhi⟩ : ∃ x, (S.ins[ii]?.getD default).hi = x := ⟨_, rfl⟩
                      rw [hlo] at e1 hbz
                      rw [hhi] at e2 hbz
                      obtain ⟨ba, oa, rfl, hba, hca⟩ := hLf0.out.alw.2 (by omega)
                      have hnz : (0 : Int) ≤ (kk : Int) := by omega
                      have hnz2 : (kk : Int) < (j : Int) := by omega
                      have hiz : (0 : Int) ≤ (ii : Int) := by omega
                      have hiz2 : (ii : Int) < (i : Int) := by omega
                      replace e1 := hide e1
                      replace e2 := hide e2
                      replace hlo := hide hlo
                      replace hhi := hide hhi
                      replace hu := hide hu
                      replace hmd32 := hide hmd32
                      replace hii' := hide hii'
                      replace hca := hide hca
                      have hLf1 := hLf0
                      have hBr1 := hBr0
                      have hBw1 := hBw0
                      have kS1 := kS0
                      have kX1 := kX0
                      have kY1 := kY0
                      clear e0 hBw0 hLf0 hBr0 hev0 kS0 kX0 kY0
                      go_wp2
                      obtain ⟨w5, hw5⟩ : ∃ w5, w5 = wr.alloc (.cells #[.int .i64 wk, .int .i64 0, .int .i64 kk, .int .i64 0, .int .i64 0] 78) := ⟨_, rfl⟩
                      rw [← hw5] at e1 e2 kY1 hLf1 hBr1 hBw1 kS1 kX1 hbI hba hca hA ⊢
                      replace hw5 := hide hw5
                      refine region_inv_at (YI w5 wr.heap.size wk kk m md32 i ii (.pointer (some ⟨w.heap.size, 1, none⟩)) (.slice (some ⟨bI, oI, none⟩) i c2)) (by kernel_rfl) (by kernel_rfl) ?_ ?_ ?_
                      · exact ⟨(Below.refl _ _).drew, kY1.out.lt, by simpa using kY1.out.drew, by simp⟩
                      · refine ⟨?_, ?_, ?_, ?_, ?_, ?_, ?_, ?_, ?_, ?_, trivial⟩
                        all_goals
                          intro f y w6 K Q Cv hI hfi hdep hCv
                          have hC := hI.1
                          have q1 : w6.cell? ⟨w.heap.size, 1, none⟩ = some (.slice (some ⟨bI, oI, none⟩) i c2) := (kS1.out.below hC hGS).cell 1
                          simp [Region.binds] at hdep
                        · simp only [putAll, Act.put]; go_simp; intro hK; exact hK _ _ (hCv _ _ (hI.o0 rfl))
                        · have e0 := hI.u0 (by simp [hdep]); simp only [putAll, Act.put]; go_simp; intro hK; exact hK _ _ (hCv _ _ (hI.o1 rfl))
                        · simp only [putAll, Act.put]; go_simp; intro hK; exact hK _ _ (hCv _ _ (hI.o2 rfl))
                        · have e2 := hI.u2 (by simp [hdep]); simp only [putAll, Act.put]; go_simp; intro hK; exact hK _ _ (hCv _ _ (hI.o3 rfl))
                        · have e3 := hI.u3 (by simp [hdep]); simp only [putAll, Act.put]; go_simp; intro hK; exact hK _ _ (hCv _ _ (hI.o4 rfl))
                        · have e1 := hI.u1 (by simp [hdep]); have e4 := hI.u4 (by simp [hdep]); simp only [putAll, Act.put]; go_simp; intro hK; exact hK _ _ (hCv _ _ (hI.o5 rfl))
                        · simp only [putAll, Act.put]; go_simp; intro hK; exact hK _ _ (hCv _ _ (hI.o6 rfl))
                        · have e6 := hI.u6 (by simp [hdep])
                          have hfz := hI.2.2.1.frozen 1
                          have hcz : w6.cell? ⟨wr.heap.size, 1, none⟩ = some (.int .i64 (bif f 7 then 1 else 0)) := hI.2.2.1.cell 1
                          simp only [putAll, Act.put]; go_simp; intro hK; exact hK (.bool true) _ (hCv (.bool true) _ hI.o7)
                        · simp only [putAll, Act.put]; go_simp; intro hK; exact hK _ _ (hCv _ _ (hI.o8 rfl))
                        · have e8 := hI.u8 (by simp [hdep])
                          have e5 := hI.u5 (by simp [hdep])
                          have hfz := hI.2.2.1.frozen 3
                          have hcz : w6.cell? ⟨wr.heap.size, 3, none⟩ = some (.int .i64 (bif f 9 then ii else 0)) := hI.2.2.1.cell 3
                          simp only [putAll, Act.put]; go_simp; intro hK; exact hK (.bool true) _ (hCv (.bool true) _ hI.o9)
                      intro f y w6 hf hI
                      have hC := hI.1
                      have hY6 := hI.2.2.1
                      rw [hf 7 (by decide), hf 9 (by decide)] at hY6
                      simp only [cond_true] at hY6
                      simp only [putAll, Act.put]
                      simp only [List.setIfInBounds_toArray, List.set_cons_succ, List.set_cons_zero]
                      have kY3 := hide hY6
                      have hA3 := hide (hA.out.trans hC)
                      have hLf3 := hide (hLf1.out.below (hC.mono hs3))
                      have hBr3' := hide (hBr1.out.trans (hC.mono (by omega)))
                      have hBw3 := hide (hBw1.out.trans (hC.mono (by omega)))
                      have kS3 := hide (kS1.out.below hC hGS)
                      have kX3 := hide (kX1.out.below hC hGX)
                      have e1' := (hinB.out _ hBw3.out).2.2 (by omega)
                      have hsz6 := hI.2.1
                      clear hI hf hC hY6 hLf1 hBr1 hBw1 kS1 kX1 kY1 hA h31a h31b hq5 hq6 bi bin hinn e1 e2 hbI e1'
                      obtain ⟨bI', oI', y0, y1, y2, hbe, hbI, hy, e0, e1, e2⟩ := (hinB.out _ hBw3.out).cells3 hii
                      simp only [Option.some.injEq, Addr.mk.injEq, and_true] at hbe
                      obtain ⟨rfl, rfl⟩ := hbe
                      rw [in_at S.ins ii (by rw [hn2.out]; exact hii)] at hy
                      unfold inCells at hy
                      simp only [List.cons.injEq, and_true] at hy
                      obtain ⟨rfl, rfl, rfl⟩ := hy
                      rw [hlo.out] at e1
                      rw [hhi.out] at e2
                      replace e1 := hide e1
                      replace e2 := hide e2
                      have kY1 := kY3
                      have hBw1 := hBw3
                      have kS1 := kS3
                      have kX1 := kX3
                      clear e0 kY3 hBw3 kS3 kX3
                      have zS2 := kS1.out.lt
                      have zX2 := kX1.out.lt
                      have zY := kY1.out.lt
                      go_wp2
                      refine region_grow [IsV (.pointer (some ⟨w.heap.size, 1, none⟩)), IsV (.slice (some ⟨bI, oI, none⟩) i c2), IsV (.pointer (some ⟨wr.heap.size, 3, none⟩)), IsV (.int .i64 ii), IsV (.pointer (some ⟨bI, oI + ii * 3, none⟩)), IsV (.pointer (some ⟨bI, oI + ii * 3 + 1, none⟩)), IsV (.agg #[.int .i64 lo, .int .i64 hi']), IsV (.pointer (some ⟨w.heap.size + 1, 1, none⟩)), IsV (.slice N nn nc), IsV (.int .i64 us), NumL 0 65535, NumL lo hi', NumL lo hi'] (by kernel_rfl) (by kernel_rfl) rfl ?_ ?_ ?_
                      · simp [AllStb, IsV.stb, NumL.stb]
                      · refine ⟨?_, ?_, ?_, ?_, ?_, ?_, ?_, ?_, ?_, ?_, ?_, ?_, ?_, trivial⟩
                        · refine one_fr ?_ ?_ ?_
                          · kernel_rfl
                          · left; kernel_rfl
                          intro T y w6 K Qq Cv hF hC hd hV hK
                          try (simp [deps, VL, IsV, Region.binds] at hd)
                          have t2 := hF.old 2 (.pointer (some ⟨w.heap.size, 0, none⟩)) (by kernel_rfl) rfl
                          clear hF
                          go_simp
                          exact hK _ _ (hV _ _ hC (Below.refl _ _) rfl)
                        · refine one_fr ?_ ?_ ?_
                          · kernel_rfl
                          · left; kernel_rfl
                          intro T y w6 K Qq Cv hF hC hd hV hK
                          try (simp [deps, VL, IsV, Region.binds] at hd)
                          have t168 := hF.get 0 168 (by kernel_rfl)
                          simp only [hd] at t168
                          clear hF
                          have q0 : w6.cell? ⟨w.heap.size, 1, none⟩ = some (.slice (some ⟨bI, oI, none⟩) i c2) := (kS1.out.below hC zS2).cell 1
                          have q1 : w6.cell? ⟨w.heap.size + 1, 1, none⟩ = some (.slice N nn nc) := (kX1.out.below hC zX2).cell 1
                          have q2 : w6.cell? ⟨wr.heap.size, 3, none⟩ = some (.int .i64 ii) := (kY1.out.below hC zY).cell 3
                          have q3 := (cellB (o := oI + ii * 3 + 1) hC hbI).trans e1.out
                          have q4 := (cellB (o := oI + ii * 3 + 1 + 1) hC hbI).trans e2.out
                          go_simp
                          exact hK _ _ (hV _ _ hC (Below.refl _ _) rfl)
                        · refine one_fr ?_ ?_ ?_
                          · kernel_rfl
                          · left; kernel_rfl
                          intro T y w6 K Qq Cv hF hC hd hV hK
                          try (simp [deps, VL, IsV, Region.binds] at hd)
                          have t23 := hF.old 23 (.pointer (some ⟨wr.heap.size, 0, none⟩)) (by kernel_rfl) rfl
                          clear hF
                          go_simp
                          exact hK _ _ (hV _ _ hC (Below.refl _ _) rfl)
                        · refine one_fr ?_ ?_ ?_
                          · kernel_rfl
                          · left; kernel_rfl
                          intro T y w6 K Qq Cv hF hC hd hV hK
                          try (simp [deps, VL, IsV, Region.binds] at hd)
                          have t170 := hF.get 2 170 (by kernel_rfl)
                          simp only [hd] at t170
                          clear hF
                          have q0 : w6.cell? ⟨w.heap.size, 1, none⟩ = some (.slice (some ⟨bI, oI, none⟩) i c2) := (kS1.out.below hC zS2).cell 1
                          have q1 : w6.cell? ⟨w.heap.size + 1, 1, none⟩ = some (.slice N nn nc) := (kX1.out.below hC zX2).cell 1
                          have q2 : w6.cell? ⟨wr.heap.size, 3, none⟩ = some (.int .i64 ii) := (kY1.out.below hC zY).cell 3
                          have q3 := (cellB (o := oI + ii * 3 + 1) hC hbI).trans e1.out
                          have q4 := (cellB (o := oI + ii * 3 + 1 + 1) hC hbI).trans e2.out
                          go_simp
                          exact hK _ _ (hV _ _ hC (Below.refl _ _) rfl)
                        · refine one_fr ?_ ?_ ?_
                          · kernel_rfl
                          · left; kernel_rfl
                          intro T y w6 K Qq Cv hF hC hd hV hK
                          try (simp [deps, VL, IsV, Region.binds] at hd)
                          have t169 := hF.get 1 169 (by kernel_rfl)
                          simp only [hd] at t169
                          have t171 := hF.get 3 171 (by kernel_rfl)
                          simp only [hd] at t171
                          clear hF
                          have q0 : w6.cell? ⟨w.heap.size, 1, none⟩ = some (.slice (some ⟨bI, oI, none⟩) i c2) := (kS1.out.below hC zS2).cell 1
                          have q1 : w6.cell? ⟨w.heap.size + 1, 1, none⟩ = some (.slice N nn nc) := (kX1.out.below hC zX2).cell 1
                          have q2 : w6.cell? ⟨wr.heap.size, 3, none⟩ = some (.int .i64 ii) := (kY1.out.below hC zY).cell 3
                          have q3 := (cellB (o := oI + ii * 3 + 1) hC hbI).trans e1.out
                          have q4 := (cellB (o := oI + ii * 3 + 1 + 1) hC hbI).trans e2.out
                          go_simp
                          exact hK _ _ (hV _ _ hC (Below.refl _ _) rfl)
                        · refine one_fr ?_ ?_ ?_
                          · kernel_rfl
                          · left; kernel_rfl
                          intro T y w6 K Qq Cv hF hC hd hV hK
                          try (simp [deps, VL, IsV, Region.binds] at hd)
                          have t172 := hF.get 4 172 (by kernel_rfl)
                          simp only [hd] at t172
                          clear hF
                          go_simp
                          exact hK _ _ (hV _ _ hC (Below.refl _ _) rfl)
                        · refine one_fr ?_ ?_ ?_
                          · kernel_rfl
                          · left; kernel_rfl
                          intro T y w6 K Qq Cv hF hC hd hV hK
                          try (simp [deps, VL, IsV, Region.binds] at hd)
                          have t173 := hF.get 5 173 (by kernel_rfl)
                          simp only [hd] at t173
                          clear hF
                          have q0 : w6.cell? ⟨w.heap.size, 1, none⟩ = some (.slice (some ⟨bI, oI, none⟩) i c2) := (kS1.out.below hC zS2).cell 1
                          have q1 : w6.cell? ⟨w.heap.size + 1, 1, none⟩ = some (.slice N nn nc) := (kX1.out.below hC zX2).cell 1
                          have q2 : w6.cell? ⟨wr.heap.size, 3, none⟩ = some (.int .i64 ii) := (kY1.out.below hC zY).cell 3
                          have q3 := (cellB (o := oI + ii * 3 + 1) hC hbI).trans e1.out
                          have q4 := (cellB (o := oI + ii * 3 + 1 + 1) hC hbI).trans e2.out
                          go_simp
                          exact hK _ _ (hV _ _ hC (Below.refl _ _) rfl)
                        · refine one_fr ?_ ?_ ?_
                          · kernel_rfl
                          · left; kernel_rfl
                          intro T y w6 K Qq Cv hF hC hd hV hK
                          try (simp [deps, VL, IsV, Region.binds] at hd)
                          have t3 := hF.old 3 (.pointer (some ⟨w.heap.size + 1, 0, none⟩)) (by kernel_rfl) rfl
                          clear hF
                          go_simp
                          exact hK _ _ (hV _ _ hC (Below.refl _ _) rfl)
                        · refine one_fr ?_ ?_ ?_
                          · kernel_rfl
                          · left; kernel_rfl
                          intro T y w6 K Qq Cv hF hC hd hV hK
                          try (simp [deps, VL, IsV, Region.binds] at hd)
                          have t175 := hF.get 7 175 (by kernel_rfl)
                          simp only [hd] at t175
                          clear hF
                          have q0 : w6.cell? ⟨w.heap.size, 1, none⟩ = some (.slice (some ⟨bI, oI, none⟩) i c2) := (kS1.out.below hC zS2).cell 1
                          have q1 : w6.cell? ⟨w.heap.size + 1, 1, none⟩ = some (.slice N nn nc) := (kX1.out.below hC zX2).cell 1
                          have q2 : w6.cell? ⟨wr.heap.size, 3, none⟩ = some (.int .i64 ii) := (kY1.out.below hC zY).cell 3
                          have q3 := (cellB (o := oI + ii * 3 + 1) hC hbI).trans e1.out
                          have q4 := (cellB (o := oI + ii * 3 + 1 + 1) hC hbI).trans e2.out
                          go_simp
                          exact hK _ _ (hV _ _ hC (Below.refl _ _) rfl)
                        · refine one_fr ?_ ?_ ?_
                          · kernel_rfl
                          · left; kernel_rfl
                          intro T y w6 K Qq Cv hF hC hd hV hK
                          try (simp [deps, VL, IsV, Region.binds] at hd)
                          have t12 := hF.old 12 (.int .i64 us) (by kernel_rfl) rfl
                          clear hF
                          go_simp
                          exact hK _ _ (hV _ _ hC (Below.refl _ _) rfl)
                        · refine one_fr ?_ ?_ ?_
                          · kernel_rfl
                          · left; kernel_rfl
                          intro T y w6 K Qq Cv hF hC hd hV hK
                          try (simp [deps, VL, IsV, Region.binds] at hd)
                          have t176 := hF.get 8 176 (by kernel_rfl)
                          simp only [hd] at t176
                          have t177 := hF.get 9 177 (by kernel_rfl)
                          simp only [hd] at t177
                          clear hF
                          go_simp
                          refine (hTu.out w6 ((us : Int)) (hBw1.out.trans (hC.mono hBw1.out.size)) (by omega)).mono ?_
                          rintro e w7 ⟨⟨x, rfl, hx0, hx1⟩, rfl⟩
                          exact hK _ _ (hV _ _ hC (Below.refl _ _) ⟨x, rfl, hx0, hx1⟩)
                        · refine one_fr ?_ ?_ ?_
                          · kernel_rfl
                          · left; kernel_rfl
                          intro T y w6 K Qq Cv hF hC hd hV hK
                          try (simp [deps, VL, IsV, Region.binds] at hd)
                          obtain ⟨e0, x, e1, hx0, hx1⟩ := hd
                          have t174 := hF.get 6 174 (by kernel_rfl)
                          simp only [e0, e1] at t174
                          have t178 := hF.get 10 178 (by kernel_rfl)
                          simp only [e0, e1] at t178
                          clear hF
                          have hAm := hide (amongB_any lo hi' x w6 (by omega) ⟨hx0, hx1⟩)
                          go_simp
                          refine hAm.out.mono ?_
                          rintro e w7 ⟨⟨z, rfl, hz0, hz1⟩, hb7⟩
                          exact hK _ _ (hV _ _ (hC.trans (hb7.mono hC.size)) hb7 ⟨z, rfl, hz0, hz1⟩)
                        · refine one_fr ?_ ?_ ?_
                          · kernel_rfl
                          · left; kernel_rfl
                          intro T y w6 K Qq Cv hF hC hd hV hK
                          try (simp [deps, VL, IsV, Region.binds] at hd)
                          have t179 := hF.get 11 179 (by kernel_rfl)
                          clear hF
                          obtain ⟨z, e1, hx0, hx1⟩ := (by first | exact hd | exact hd.1 : NumL lo hi' (y 11) w6)
                          rw [e1] at t179
                          go_simp
                          exact hK _ _ (hV _ _ hC (Below.refl _ _) ⟨z, rfl, hx0, hx1⟩)
                      intro y w7 hC hd
                      simp [EndsL, IsV] at hd
                      obtain ⟨-, -, -, -, -, -, -, -, -, -, -, -, ⟨z, d12, hz1', hz2'⟩⟩ := hd
                      simp only [putAll, Act.put]
                      rw [d12]
                      clear d12
                      simp only [List.setIfInBounds_toArray, List.set_cons_succ, List.set_cons_zero]
                      have hC3 := hC.mono (show wr.heap.size ≤ w6.heap.size by omega)
                      have hLf1 := hide (hLf3.out.below (hC3.mono hs3))
                      have hBr1 := hide (hBr3'.out.trans (hC3.mono (by omega)))
                      have hA2 := hide (hA3.out.trans hC3)
                      replace kX1 := hide (kX1.out.below hC zX2)
                      replace kY1 := hide (kY1.out.below hC zY)
                      have hs1 : B3 ≤ w7.heap.size := by have := hC.size; omega
                      obtain ⟨c0, c0f⟩ := hLf1.out.lev.cell (i := kk) (by rw [hLf1.out.len]; exact hkj)
                      rw [hu.out] at c0
                      have hwu : IntKind.i64.wrap ((us : Int) + 1) = (us : Int) + 1 := by rw [IntKind.wrap_i64]; omega
                      have z1 : w7.cell? ⟨w.heap.size + 1, 4, none⟩ = some (.bool same) := kX1.out.cell 4
                      have z3 : w7.cell? ⟨wr.heap.size, 3, none⟩ = some (.int .i64 ii) := kY1.out.cell 3
                      have z2 : w7.cell? ⟨ba, oa + ii, none⟩ = some (.int .i64 (al[ii]?.getD 0)) := by
                        obtain ⟨ba', oa', hbe, hba', hca'⟩ := hLf1.out.alw.2 (by omega)
                        simp only [Option.some.injEq, Addr.mk.injEq, and_true] at hbe
                        obtain ⟨rfl, rfl⟩ := hbe
                        exact hca' ii hii
                      clear hC hC3 hLf3 hBr3' hA3 e1 e2 hbI hBw1 kS1 zS2 zX2 zY hba hca kX1
                      cases hsm : same
                      · clear z2
                        obtain ⟨bb, hbbz⟩ : ∃ b, z = b := ⟨_, rfl⟩
                        subst hbbz
                        have hbb : inS (biasOf (S.ins[ii]?.getD default)) z := ⟨by show (S.ins[ii]?.getD default).lo ≤ z; rw [hlo.out]; exact hz1', by show z ≤ (S.ins[ii]?.getD default).hi; rw [hhi.out]; exact hz2'⟩
                        have hbr : -300 ≤ z ∧ z ≤ 300 := by omega
                        subst hsm
                        have hwb : IntKind.i64.wrap (u + z) = u + z := by rw [IntKind.wrap_i64]; omega
                        have hWi := hide (fun W => Within_any (u + z) W)
                        obtain ⟨mx, hmx⟩ : ∃ x, lim (u + z) = x := ⟨_, rfl⟩
                        rw [hmx] at hWi
                        have hTr2 := hide (show Truth S false al rs (es ++ [(⟨wk, 1, kk, ii, mx⟩ : Ev)]) wk U by
                          have := Truth.marked es wk U kk ii z hTr.out (by rw [hel.out]; omega) (by rw [hLf1.out.len]; exact hkj) (by rw [hn2.out]; exact hii) hbb (fun h => nomatch h)
                          rw [hu.out, hmx] at this
                          exact this)
                        obtain ⟨W2, hW2⟩ : ∃ W2, w7.setCell ⟨wr.heap.size, 4, none⟩ (.int .i64 mx) = W2 := ⟨_, rfl⟩
                        have kY2 := hide (show Blk W2 wr.heap.size 78 #[.int .i64 wk, .int .i64 1, .int .i64 kk, .int .i64 ii, .int .i64 mx] by
                          rw [← hW2]
                          have := kY1.out.set_ 4 (.int .i64 mx)
                          simpa using this)
                        have hb2 := hide (show Below wr.heap.size w7 W2 by rw [← hW2]; exact (Below.refl _ _).setCell (p := ⟨wr.heap.size, 4, none⟩) (Nat.le_refl _) _)
                        have hLf2 := hide (hLf1.out.below (hb2.out.mono hs3))
                        have hBr2 := hide (hBr1.out.trans (hb2.out.mono (by omega)))
                        have hev2 := hide (own_below hev.out (hA2.out.trans hb2.out))
                        have hs2 : B3 ≤ W2.heap.size := Nat.le_trans hs1 hb2.out.size
                        have fz := kY1.out.frozen 4
                        have cz := kY1.out.cell 4
                        simp only [List.getElem?_toArray, List.getElem?_cons_zero, List.getElem?_cons_succ] at cz
                        clear hb2 hmx hTr hev hA2 hbb
                        go_wp2_with fail
                        refine (hWi.out _).mono ?_
                        rintro e w8 ⟨rfl, rfl⟩
                        clear hLf1 hBr1 kY1 hWi hwb c0 c0f z1 z3
                        have y0 := kY2.out.cell 0
                        have y1 := kY2.out.cell 1
                        have y2 := kY2.out.cell 2
                        have y3 := kY2.out.cell 3
                        have y4 := kY2.out.cell 4
                        simp only [List.getElem?_toArray, List.getElem?_cons_zero, List.getElem?_cons_succ] at y0 y1 y2 y3 y4
                        go_wp2_with (at_builtin; refine wpList_append_own _ rfl _ _ 38 rfl B3 78 i2 (.agg #[.int .i64 0, .int .i64 0, .int .i64 0, .int .i64 0, .int .i64 0]) 5 40 Try.underlying38 hk0.out hk1.out hk2.out hk3.out rfl (by decide) _ _ _ rfl (hev2.out.alloc _) ⟨W2.heap.size, 0, none⟩ 1 1 [.int .i64 wk, .int .i64 1, .int .i64 kk, .int .i64 ii, .int .i64 mx] rfl rfl (cell_five_new (by simp) _ _ _ _ _ _) (by simp [Value.oneCell']) (by unfold maxLen; omega) (by omega) (by simp; omega) ?_; intro v' w7 hown7 hgrow7 _)
                        have hb7 := hide (((Below.refl B3 (W2)).alloc hs2 (.cells #[.int .i64 wk, .int .i64 1, .int .i64 kk, .int .i64 ii, .int .i64 mx] 78)).grown hgrow7 (by simp; omega) (fun k hk => (hev2.out.lt k hk).1))
                        have hL7 := hide (hLf2.out.below hb7.out)
                        have hB7 := hide (hBr2.out.trans (hb7.out.mono zB))
                        have hev7 := hide (show w7.ownsRow B3 78 5 v' (p + 1) ((es ++ [(⟨wk, 1, kk, ii, mx⟩ : Ev)]).flatMap evCells) by rw [flatEv_snoc]; exact hown7)
                        have hs7 : B3 ≤ w7.heap.size := Nat.le_trans hs2 hb7.out.size
                        clear hown7 hgrow7 hb7 y0 y1 y2 y3 y4 hLf2 hBr2 hev2
                        go_wp2
                        go_roundg (nw - (p + 1))
                        case measure => omega
                        case rel => exact ⟨p + 1, us + 1, wk, es ++ [(⟨wk, 1, kk, ii, mx⟩ : Ev)], U, by omega, by omega, by omega, by go_num, by go_num, by omega, rfl, by omega, by rw [List.length_append, hel.out]; rfl, hs7, hTr2, hL7, hB7, hev7⟩
                      · have hbb := hbi.out ii hii
                        obtain ⟨bb, halb'⟩ : ∃ b, al[ii]?.getD 0 = b := ⟨_, rfl⟩
                        have halb := halb'.symm
                        rw [halb'] at hbb z2
                        have hbr : -300 ≤ bb ∧ bb ≤ 300 := by
                          have h1 : (S.ins[ii]?.getD default).lo ≤ bb := hbb.1
                          have h2 : bb ≤ (S.ins[ii]?.getD default).hi := hbb.2
                          rw [hlo.out] at h1
                          rw [hhi.out] at h2
                          omega
                        clear halb'
                        replace halb := hide halb
                        subst hsm
                        have hwb : IntKind.i64.wrap (u + bb) = u + bb := by rw [IntKind.wrap_i64]; omega
                        have hWi := hide (fun W => Within_any (u + bb) W)
                        obtain ⟨mx, hmx⟩ : ∃ x, lim (u + bb) = x := ⟨_, rfl⟩
                        rw [hmx] at hWi
                        have hTr2 := hide (show Truth S true al rs (es ++ [(⟨wk, 1, kk, ii, mx⟩ : Ev)]) wk U by
                          have := Truth.marked es wk U kk ii bb hTr.out (by rw [hel.out]; omega) (by rw [hLf1.out.len]; exact hkj) (by rw [hn2.out]; exact hii) hbb (fun _ => halb.out)
                          rw [hu.out, hmx] at this
                          exact this)
                        obtain ⟨W2, hW2⟩ : ∃ W2, w7.setCell ⟨wr.heap.size, 4, none⟩ (.int .i64 mx) = W2 := ⟨_, rfl⟩
                        have kY2 := hide (show Blk W2 wr.heap.size 78 #[.int .i64 wk, .int .i64 1, .int .i64 kk, .int .i64 ii, .int .i64 mx] by
                          rw [← hW2]
                          have := kY1.out.set_ 4 (.int .i64 mx)
                          simpa using this)
                        have hb2 := hide (show Below wr.heap.size w7 W2 by rw [← hW2]; exact (Below.refl _ _).setCell (p := ⟨wr.heap.size, 4, none⟩) (Nat.le_refl _) _)
                        have hLf2 := hide (hLf1.out.below (hb2.out.mono hs3))
                        have hBr2 := hide (hBr1.out.trans (hb2.out.mono (by omega)))
                        have hev2 := hide (own_below hev.out (hA2.out.trans hb2.out))
                        have hs2 : B3 ≤ W2.heap.size := Nat.le_trans hs1 hb2.out.size
                        have fz := kY1.out.frozen 4
                        have cz := kY1.out.cell 4
                        simp only [List.getElem?_toArray, List.getElem?_cons_zero, List.getElem?_cons_succ] at cz
                        clear hb2 hmx hTr hev hA2 hbb
                        go_wp2_with fail
                        refine (hWi.out _).mono ?_
                        rintro e w8 ⟨rfl, rfl⟩
                        clear hLf1 hBr1 kY1 hWi hwb c0 c0f z1 z2 z3
                        have y0 := kY2.out.cell 0
                        have y1 := kY2.out.cell 1
                        have y2 := kY2.out.cell 2
                        have y3 := kY2.out.cell 3
                        have y4 := kY2.out.cell 4
                        simp only [List.getElem?_toArray, List.getElem?_cons_zero, List.getElem?_cons_succ] at y0 y1 y2 y3 y4
                        go_wp2_with (at_builtin; refine wpList_append_own _ rfl _ _ 38 rfl B3 78 i2 (.agg #[.int .i64 0, .int .i64 0, .int .i64 0, .int .i64 0, .int .i64 0]) 5 40 Try.underlying38 hk0.out hk1.out hk2.out hk3.out rfl (by decide) _ _ _ rfl (hev2.out.alloc _) ⟨W2.heap.size, 0, none⟩ 1 1 [.int .i64 wk, .int .i64 1, .int .i64 kk, .int .i64 ii, .int .i64 mx] rfl rfl (cell_five_new (by simp) _ _ _ _ _ _) (by simp [Value.oneCell']) (by unfold maxLen; omega) (by omega) (by simp; omega) ?_; intro v' w7 hown7 hgrow7 _)
                        have hb7 := hide (((Below.refl B3 (W2)).alloc hs2 (.cells #[.int .i64 wk, .int .i64 1, .int .i64 kk, .int .i64 ii, .int .i64 mx] 78)).grown hgrow7 (by simp; omega) (fun k hk => (hev2.out.lt k hk).1))
                        have hL7 := hide (hLf2.out.below hb7.out)
                        have hB7 := hide (hBr2.out.trans (hb7.out.mono zB))
                        have hev7 := hide (show w7.ownsRow B3 78 5 v' (p + 1) ((es ++ [(⟨wk, 1, kk, ii, mx⟩ : Ev)]).flatMap evCells) by rw [flatEv_snoc]; exact hown7)
                        have hs7 : B3 ≤ w7.heap.size := Nat.le_trans hs2 hb7.out.size
                        clear hown7 hgrow7 hb7 y0 y1 y2 y3 y4 hLf2 hBr2 hev2
                        go_wp2
                        go_roundg (nw - (p + 1))
                        case measure => omega
                        case rel => exact ⟨p + 1, us + 1, wk, es ++ [(⟨wk, 1, kk, ii, mx⟩ : Ev)], U, by omega, by omega, by omega, by go_num, by go_num, by omega, rfl, by omega, by rw [List.length_append, hel.out]; rfl, hs7, hTr2, hL7, hB7, hev7⟩
                    · have hfin : bq = false := by rw [hbq.out]; exact decide_eq_false hmk
                      subst hfin
                      obtain ⟨c0, c0f⟩ := hLf0.out.lev.cell (i := kk) (by rw [hLf0.out.len]; exact hkj)
                      obtain ⟨u, hu⟩ : ∃ u, U[kk]?.getD 0 = u := ⟨_, rfl⟩
                      rw [hu] at c0 hUb
                      obtain ⟨bA, oA, y0, y1, y2, y3, y4, rfl, hbA, hy, e0, e1, e2, e3, e4⟩ := (hskB.out _ hBw0.out).cells5 hkj
                      rw [sk_at S.sks kk (by rw [hn.out]; exact hkj)] at hy
                      unfold skCells at hy
                      simp only [List.cons.injEq, and_true] at hy
                      obtain ⟨rfl, rfl, rfl, rfl, rfl⟩ := hy
                      have hsq := hsok.out kk hkj
                      obtain ⟨gl, hgl⟩ : ∃ x, (S.sks[kk]?.getD default).gl = x := ⟨_, rfl⟩
                      obtain ⟨gh, hgh⟩ : ∃ x, (S.sks[kk]?.getD default).gh = x := ⟨_, rfl⟩
                      rw [hgl] at e1 hsq
                      rw [hgh] at e2 hsq
                      have hf5 : 0 ≤ gl ∧ gl ≤ gh ∧ gh ≤ 1000 := ⟨hsq.1, hsq.2.1, hsq.2.2.1⟩
                      have hnz : (0 : Int) ≤ (kk : Int) := by omega
                      have hnz2 : (kk : Int) < (j : Int) := by omega
                      replace c0 := hide c0
                      replace c0f := hide c0f
                      replace e1 := hide e1
                      replace e2 := hide e2
                      replace hgl := hide hgl
                      replace hgh := hide hgh
                      replace hu := hide hu
                      have kY1 := kY0
                      have hLf1 := hLf0
                      have hBr1 := hBr0
                      have hBw1 := hBw0
                      have hev1 := hev0
                      have kS1 := kS0
                      have kX1 := kX0
                      have zS2 := kS1.out.lt
                      have zX2 := kX1.out.lt
                      have zl2 := hLf1.out.lev.lt
                      have zY := kY1.out.lt
                      have hs1 : B3 ≤ (wr.alloc (.cells #[.int .i64 wk, .int .i64 0, .int .i64 kk, .int .i64 0, .int .i64 0] 78)).heap.size := by simp; omega
                      clear e0 e3 e4 hsq hBw0 hLf0 hBr0 hev0 kS0 kX0 kY0
                      go_wp2
                      obtain ⟨w5, hw5⟩ : ∃ w5, w5 = wr.alloc (.cells #[.int .i64 wk, .int .i64 0, .int .i64 kk, .int .i64 0, .int .i64 0] 78) := ⟨_, rfl⟩
                      rw [← hw5] at c0 c0f e1 e2 kY1 hLf1 hBr1 hBw1 hev1 kS1 kX1 zS2 zX2 zl2 hbA hs1 zY ⊢
                      replace hw5 := hide hw5
                      refine region_grow_tail 20 [IsV (.slice (some ⟨gL, 0, none⟩) j cL), IsV (.int .i64 kk), IsV (.slice (some ⟨gL, 0, none⟩) j cL), IsV (.int .i64 kk), IsV (.pointer (some ⟨gL, kk, none⟩)), IsV (.int .i64 u), IsV (.pointer (some ⟨w.heap.size, 0, none⟩)), IsV (.slice (some ⟨bA, oA, none⟩) j c), IsV (.int .i64 kk), IsV (.pointer (some ⟨bA, oA + kk * 5, none⟩)), IsV (.pointer (some ⟨bA, oA + kk * 5 + 1, none⟩)), IsV (.agg #[.int .i64 gl, .int .i64 gh]), IsV (.pointer (some ⟨w.heap.size + 1, 1, none⟩)), IsV (.slice N nn nc), IsV (.int .i64 us), NumL 0 65535, NumL gl gh, AddIn u gl gh, LimIn u gl gh, IsV (.pointer (some ⟨gL, kk, none⟩))] (by kernel_rfl) (by kernel_rfl) rfl ?_ ?_ ?_
                      · simp [AllStb, IsV.stb, NumL.stb, AddIn.stb, LimIn.stb]
                      · refine ⟨?_, ?_, ?_, ?_, ?_, ?_, ?_, ?_, ?_, ?_, ?_, ?_, ?_, ?_, ?_, ?_, ?_, ?_, ?_, ?_, trivial⟩
                        · refine oneT_fr ?_ ?_ ?_
                          · kernel_rfl
                          · kernel_rfl
                          intro T y w6 K Qq Cv hF hC hd hV hK
                          try (simp [deps, VL, IsV, Region.binds] at hd)
                          have t10 := hF.old 10 (.slice (some ⟨gL, 0, none⟩) j cL) (by kernel_rfl) rfl
                          clear hF
                          go_simp
                          exact hK _ _ (hV _ _ hC (Below.refl _ _) rfl)
                        · refine oneT_fr ?_ ?_ ?_
                          · kernel_rfl
                          · kernel_rfl
                          intro T y w6 K Qq Cv hF hC hd hV hK
                          try (simp [deps, VL, IsV, Region.binds] at hd)
                          have t22 := hF.old 22 (.int .i64 kk) (by kernel_rfl) rfl
                          clear hF
                          go_simp
                          exact hK _ _ (hV _ _ hC (Below.refl _ _) rfl)
                        · refine oneT_fr ?_ ?_ ?_
                          · kernel_rfl
                          · kernel_rfl
                          intro T y w6 K Qq Cv hF hC hd hV hK
                          try (simp [deps, VL, IsV, Region.binds] at hd)
                          have t10 := hF.old 10 (.slice (some ⟨gL, 0, none⟩) j cL) (by kernel_rfl) rfl
                          clear hF
                          go_simp
                          exact hK _ _ (hV _ _ hC (Below.refl _ _) rfl)
                        · refine oneT_fr ?_ ?_ ?_
                          · kernel_rfl
                          · kernel_rfl
                          intro T y w6 K Qq Cv hF hC hd hV hK
                          try (simp [deps, VL, IsV, Region.binds] at hd)
                          have t22 := hF.old 22 (.int .i64 kk) (by kernel_rfl) rfl
                          clear hF
                          go_simp
                          exact hK _ _ (hV _ _ hC (Below.refl _ _) rfl)
                        · refine oneT_fr ?_ ?_ ?_
                          · kernel_rfl
                          · kernel_rfl
                          intro T y w6 K Qq Cv hF hC hd hV hK
                          try (simp [deps, VL, IsV, Region.binds] at hd)
                          have t199 := hF.get 2 199 (by kernel_rfl)
                          simp only [hd] at t199
                          have t200 := hF.get 3 200 (by kernel_rfl)
                          simp only [hd] at t200
                          clear hF
                          have q0 : w6.cell? ⟨w.heap.size, 0, none⟩ = some (.slice (some ⟨bA, oA, none⟩) j c) := (kS1.out.below hC zS2).cell 0
                          have q1 : w6.cell? ⟨w.heap.size + 1, 1, none⟩ = some (.slice N nn nc) := (kX1.out.below hC zX2).cell 1
                          have q2 := (cellB (o := kk) hC zl2).trans c0.out
                          have q3 := (cellB (o := oA + kk * 5 + 1) hC hbA).trans e1.out
                          have q4 := (cellB (o := oA + kk * 5 + 2) hC hbA).trans e2.out
                          go_simp
                          exact hK _ _ (hV _ _ hC (Below.refl _ _) rfl)
                        · refine oneT_fr ?_ ?_ ?_
                          · kernel_rfl
                          · kernel_rfl
                          intro T y w6 K Qq Cv hF hC hd hV hK
                          try (simp [deps, VL, IsV, Region.binds] at hd)
                          have t201 := hF.get 4 201 (by kernel_rfl)
                          simp only [hd] at t201
                          clear hF
                          have q0 : w6.cell? ⟨w.heap.size, 0, none⟩ = some (.slice (some ⟨bA, oA, none⟩) j c) := (kS1.out.below hC zS2).cell 0
                          have q1 : w6.cell? ⟨w.heap.size + 1, 1, none⟩ = some (.slice N nn nc) := (kX1.out.below hC zX2).cell 1
                          have q2 := (cellB (o := kk) hC zl2).trans c0.out
                          have q3 := (cellB (o := oA + kk * 5 + 1) hC hbA).trans e1.out
                          have q4 := (cellB (o := oA + kk * 5 + 2) hC hbA).trans e2.out
                          go_simp
                          exact hK _ _ (hV _ _ hC (Below.refl _ _) rfl)
                        · refine oneT_fr ?_ ?_ ?_
                          · kernel_rfl
                          · kernel_rfl
                          intro T y w6 K Qq Cv hF hC hd hV hK
                          try (simp [deps, VL, IsV, Region.binds] at hd)
                          have t2 := hF.old 2 (.pointer (some ⟨w.heap.size, 0, none⟩)) (by kernel_rfl) rfl
                          clear hF
                          go_simp
                          exact hK _ _ (hV _ _ hC (Below.refl _ _) rfl)
                        · refine oneT_fr ?_ ?_ ?_
                          · kernel_rfl
                          · kernel_rfl
                          intro T y w6 K Qq Cv hF hC hd hV hK
                          try (simp [deps, VL, IsV, Region.binds] at hd)
                          have t203 := hF.get 6 203 (by kernel_rfl)
                          simp only [hd] at t203
                          clear hF
                          have q0 : w6.cell? ⟨w.heap.size, 0, none⟩ = some (.slice (some ⟨bA, oA, none⟩) j c) := (kS1.out.below hC zS2).cell 0
                          have q1 : w6.cell? ⟨w.heap.size + 1, 1, none⟩ = some (.slice N nn nc) := (kX1.out.below hC zX2).cell 1
                          have q2 := (cellB (o := kk) hC zl2).trans c0.out
                          have q3 := (cellB (o := oA + kk * 5 + 1) hC hbA).trans e1.out
                          have q4 := (cellB (o := oA + kk * 5 + 2) hC hbA).trans e2.out
                          go_simp
                          exact hK _ _ (hV _ _ hC (Below.refl _ _) rfl)
                        · refine oneT_fr ?_ ?_ ?_
                          · kernel_rfl
                          · kernel_rfl
                          intro T y w6 K Qq Cv hF hC hd hV hK
                          try (simp [deps, VL, IsV, Region.binds] at hd)
                          have t22 := hF.old 22 (.int .i64 kk) (by kernel_rfl) rfl
                          clear hF
                          go_simp
                          exact hK _ _ (hV _ _ hC (Below.refl _ _) rfl)
                        · refine oneT_fr ?_ ?_ ?_
                          · kernel_rfl
                          · kernel_rfl
                          intro T y w6 K Qq Cv hF hC hd hV hK
                          try (simp [deps, VL, IsV, Region.binds] at hd)
                          have t204 := hF.get 7 204 (by kernel_rfl)
                          simp only [hd] at t204
                          have t205 := hF.get 8 205 (by kernel_rfl)
                          simp only [hd] at t205
                          clear hF
                          have q0 : w6.cell? ⟨w.heap.size, 0, none⟩ = some (.slice (some ⟨bA, oA, none⟩) j c) := (kS1.out.below hC zS2).cell 0
                          have q1 : w6.cell? ⟨w.heap.size + 1, 1, none⟩ = some (.slice N nn nc) := (kX1.out.below hC zX2).cell 1
                          have q2 := (cellB (o := kk) hC zl2).trans c0.out
                          have q3 := (cellB (o := oA + kk * 5 + 1) hC hbA).trans e1.out
                          have q4 := (cellB (o := oA + kk * 5 + 2) hC hbA).trans e2.out
                          go_simp
                          exact hK _ _ (hV _ _ hC (Below.refl _ _) rfl)
                        · refine oneT_fr ?_ ?_ ?_
                          · kernel_rfl
                          · kernel_rfl
                          intro T y w6 K Qq Cv hF hC hd hV hK
                          try (simp [deps, VL, IsV, Region.binds] at hd)
                          have t206 := hF.get 9 206 (by kernel_rfl)
                          simp only [hd] at t206
                          clear hF
                          go_simp
                          exact hK _ _ (hV _ _ hC (Below.refl _ _) rfl)
                        · refine oneT_fr ?_ ?_ ?_
                          · kernel_rfl
                          · kernel_rfl
                          intro T y w6 K Qq Cv hF hC hd hV hK
                          try (simp [deps, VL, IsV, Region.binds] at hd)
                          have t207 := hF.get 10 207 (by kernel_rfl)
                          simp only [hd] at t207
                          clear hF
                          have q0 : w6.cell? ⟨w.heap.size, 0, none⟩ = some (.slice (some ⟨bA, oA, none⟩) j c) := (kS1.out.below hC zS2).cell 0
                          have q1 : w6.cell? ⟨w.heap.size + 1, 1, none⟩ = some (.slice N nn nc) := (kX1.out.below hC zX2).cell 1
                          have q2 := (cellB (o := kk) hC zl2).trans c0.out
                          have q3 := (cellB (o := oA + kk * 5 + 1) hC hbA).trans e1.out
                          have q4 := (cellB (o := oA + kk * 5 + 2) hC hbA).trans e2.out
                          go_simp
                          exact hK _ _ (hV _ _ hC (Below.refl _ _) rfl)
                        · refine oneT_fr ?_ ?_ ?_
                          · kernel_rfl
                          · kernel_rfl
                          intro T y w6 K Qq Cv hF hC hd hV hK
                          try (simp [deps, VL, IsV, Region.binds] at hd)
                          have t3 := hF.old 3 (.pointer (some ⟨w.heap.size + 1, 0, none⟩)) (by kernel_rfl) rfl
                          clear hF
                          go_simp
                          exact hK _ _ (hV _ _ hC (Below.refl _ _) rfl)
                        · refine oneT_fr ?_ ?_ ?_
                          · kernel_rfl
                          · kernel_rfl
                          intro T y w6 K Qq Cv hF hC hd hV hK
                          try (simp [deps, VL, IsV, Region.binds] at hd)
                          have t209 := hF.get 12 209 (by kernel_rfl)
                          simp only [hd] at t209
                          clear hF
                          have q0 : w6.cell? ⟨w.heap.size, 0, none⟩ = some (.slice (some ⟨bA, oA, none⟩) j c) := (kS1.out.below hC zS2).cell 0
                          have q1 : w6.cell? ⟨w.heap.size + 1, 1, none⟩ = some (.slice N nn nc) := (kX1.out.below hC zX2).cell 1
                          have q2 := (cellB (o := kk) hC zl2).trans c0.out
                          have q3 := (cellB (o := oA + kk * 5 + 1) hC hbA).trans e1.out
                          have q4 := (cellB (o := oA + kk * 5 + 2) hC hbA).trans e2.out
                          go_simp
                          exact hK _ _ (hV _ _ hC (Below.refl _ _) rfl)
                        · refine oneT_fr ?_ ?_ ?_
                          · kernel_rfl
                          · kernel_rfl
                          intro T y w6 K Qq Cv hF hC hd hV hK
                          try (simp [deps, VL, IsV, Region.binds] at hd)
                          have t12 := hF.old 12 (.int .i64 us) (by kernel_rfl) rfl
                          clear hF
                          go_simp
                          exact hK _ _ (hV _ _ hC (Below.refl _ _) rfl)
                        · refine oneT_fr ?_ ?_ ?_
                          · kernel_rfl
                          · kernel_rfl
                          intro T y w6 K Qq Cv hF hC hd hV hK
                          try (simp [deps, VL, IsV, Region.binds] at hd)
                          have t210 := hF.get 13 210 (by kernel_rfl)
                          simp only [hd] at t210
                          have t211 := hF.get 14 211 (by kernel_rfl)
                          simp only [hd] at t211
                          clear hF
                          go_simp
                          refine (hTu.out w6 ((us : Int)) (hBw1.out.trans (hC.mono hBw1.out.size)) (by omega)).mono ?_
                          rintro e w7 ⟨⟨x, rfl, hx0, hx1⟩, rfl⟩
                          exact hK _ _ (hV _ _ hC (Below.refl _ _) ⟨x, rfl, hx0, hx1⟩)
                        · refine oneT_fr ?_ ?_ ?_
                          · kernel_rfl
                          · kernel_rfl
                          intro T y w6 K Qq Cv hF hC hd hV hK
                          try (simp [deps, VL, IsV, Region.binds] at hd)
                          obtain ⟨e0, x, e1, hx0, hx1⟩ := hd
                          have t208 := hF.get 11 208 (by kernel_rfl)
                          simp only [e0, e1] at t208
                          have t212 := hF.get 15 212 (by kernel_rfl)
                          simp only [e0, e1] at t212
                          clear hF
                          have hAm := hide (amongB_any gl gh x w6 (by omega) ⟨hx0, hx1⟩)
                          go_simp
                          refine hAm.out.mono ?_
                          rintro e w7 ⟨⟨z, rfl, hz0, hz1⟩, hb7⟩
                          exact hK _ _ (hV _ _ (hC.trans (hb7.mono hC.size)) hb7 ⟨z, rfl, hz0, hz1⟩)
                        · refine oneT_fr ?_ ?_ ?_
                          · kernel_rfl
                          · kernel_rfl
                          intro T y w6 K Qq Cv hF hC hd hV hK
                          try (simp [deps, VL, IsV, Region.binds] at hd)
                          obtain ⟨e0, d, e1, hx0, hx1⟩ := hd
                          have t202 := hF.get 5 202 (by kernel_rfl)
                          simp only [e0, e1] at t202
                          have t213 := hF.get 16 213 (by kernel_rfl)
                          simp only [e0, e1] at t213
                          clear hF
                          have hw1 : IntKind.i64.wrap (u + d) = u + d := by rw [IntKind.wrap_i64]; omega
                          go_simp
                          exact hK _ _ (hV _ _ hC (Below.refl _ _) ⟨d, hx0, hx1, rfl⟩)
                        · refine oneT_fr ?_ ?_ ?_
                          · kernel_rfl
                          · kernel_rfl
                          intro T y w6 K Qq Cv hF hC hd hV hK
                          try (simp [deps, VL, IsV, Region.binds] at hd)
                          obtain ⟨⟨d, hx0, hx1, e1⟩, -⟩ := hd
                          have t214 := hF.get 17 214 (by kernel_rfl)
                          simp only [e1] at t214
                          clear hF
                          have hWi := hide (Within_any (u + d) w6)
                          go_simp
                          refine hWi.out.mono ?_
                          rintro e w7 ⟨rfl, rfl⟩
                          exact hK _ _ (hV _ _ hC (Below.refl _ _) ⟨d, hx0, hx1, rfl⟩)
                        · refine oneT_fr ?_ ?_ ?_
                          · kernel_rfl
                          · kernel_rfl
                          intro T y w6 K Qq Cv hF hC hd hV hK
                          try (simp [deps, VL, IsV, Region.binds] at hd)
                          have t197 := hF.get 0 197 (by kernel_rfl)
                          simp only [hd] at t197
                          have t198 := hF.get 1 198 (by kernel_rfl)
                          simp only [hd] at t198
                          clear hF
                          have q0 : w6.cell? ⟨w.heap.size, 0, none⟩ = some (.slice (some ⟨bA, oA, none⟩) j c) := (kS1.out.below hC zS2).cell 0
                          have q1 : w6.cell? ⟨w.heap.size + 1, 1, none⟩ = some (.slice N nn nc) := (kX1.out.below hC zX2).cell 1
                          have q2 := (cellB (o := kk) hC zl2).trans c0.out
                          have q3 := (cellB (o := oA + kk * 5 + 1) hC hbA).trans e1.out
                          have q4 := (cellB (o := oA + kk * 5 + 2) hC hbA).trans e2.out
                          go_simp
                          exact hK _ _ (hV _ _ hC (Below.refl _ _) rfl)
                      intro y w6 hC hd
                      simp [EndsL, IsV] at hd
                      obtain ⟨-, -, -, -, -, -, -, -, -, -, -, -, -, -, -, -, -, -, ⟨d, hd1', hd2', d18⟩, d19⟩ := hd
                      simp only [List.take_succ_cons, List.take_zero, List.drop_succ_cons, List.drop_zero, putAll, Act.put]
                      rw [d18, d19]
                      clear d18 d19
                      simp only [List.setIfInBounds_toArray, List.set_cons_succ, List.set_cons_zero]
                      have hL6 := hLf1.out.below (hC.mono hs1)
                      have hs6 := hC.size
                      obtain ⟨c6, c6f⟩ := hL6.lev.cell (i := kk) (by rw [hL6.len]; exact hkj)
                      obtain ⟨mx, hmx⟩ : ∃ x, lim (u + d) = x := ⟨_, rfl⟩
                      rw [hmx]
                      have hLf2 := hide (hL6.store kk mx)
                      have hev2 := hide (ownsRow_setCell_below (a := ⟨gL, kk, none⟩) (own_below hev1.out hC) zLB (.int .i64 mx))
                      have hBr2 := hide ((hBr1.out.trans (hC.mono (by omega))).setCell (p := ⟨gL, kk, none⟩) zGL (.int .i64 mx))
                      have kY2 := hide ((kY1.out.below hC zY).far (p := ⟨gL, kk, none⟩) (by simp; omega) (.int .i64 mx))
                      have hs2 : B3 ≤ (w6.setCell ⟨gL, kk, none⟩ (.int .i64 mx)).heap.size := by simp; omega
                      obtain ⟨W2, hW2⟩ : ∃ W2, w6.setCell ⟨gL, kk, none⟩ (.int .i64 mx) = W2 := ⟨_, rfl⟩
                      rw [hW2] at hLf2 hev2 hBr2 kY2 hs2
                      have hwu : IntKind.i64.wrap ((us : Int) + 1) = (us : Int) + 1 := by rw [IntKind.wrap_i64]; omega
                      have hTr2 := hide (show Truth S same al rs (es ++ [(⟨wk, 0, kk, 0, 0⟩ : Ev)]) wk (U.set kk mx) by
                        have := Truth.taught es wk U kk d 0 0 hTr.out (by rw [hel.out]; omega) (by rw [hLf1.out.len]; exact hkj) (show inS (gainOf (S.sks[kk]?.getD default)) d from ⟨by show (S.sks[kk]?.getD default).gl ≤ d; rw [hgl.out]; exact hd1', by show d ≤ (S.sks[kk]?.getD default).gh; rw [hgh.out]; exact hd2'⟩)
                        rw [hu.out, hmx] at this
                        exact this)
                      clear hL6 hC hmx hLf1 hBr1 hev1 kY1 hTr c0 c0f e1 e2 hw5
                      have y0 := kY2.out.cell 0
                      have y1 := kY2.out.cell 1
                      have y2 := kY2.out.cell 2
                      have y3 := kY2.out.cell 3
                      have y4 := kY2.out.cell 4
                      simp only [List.getElem?_toArray, List.getElem?_cons_zero, List.getElem?_cons_succ] at y0 y1 y2 y3 y4
                      go_wp2_with (at_builtin; refine wpList_append_own _ rfl _ _ 38 rfl B3 78 i2 (.agg #[.int .i64 0, .int .i64 0, .int .i64 0, .int .i64 0, .int .i64 0]) 5 40 Try.underlying38 hk0.out hk1.out hk2.out hk3.out rfl (by decide) _ _ _ rfl (hev2.out.alloc _) ⟨W2.heap.size, 0, none⟩ 1 1 [.int .i64 wk, .int .i64 0, .int .i64 kk, .int .i64 0, .int .i64 0] rfl rfl (cell_five_new (by simp) _ _ _ _ _ _) (by simp [Value.oneCell']) (by unfold maxLen; omega) (by omega) (by simp; omega) ?_; intro v' w7 hown7 hgrow7 _)
                      have hb7 := hide (((Below.refl B3 (W2)).alloc hs2 (.cells #[.int .i64 wk, .int .i64 0, .int .i64 kk, .int .i64 0, .int .i64 0] 78)).grown hgrow7 (by simp; omega) (fun k hk => (hev2.out.lt k hk).1))
                      have hL7 := hide (hLf2.out.below hb7.out)
                      have hB7 := hide (hBr2.out.trans (hb7.out.mono zB))
                      have hev7 := hide (show w7.ownsRow B3 78 5 v' (p + 1) ((es ++ [(⟨wk, 0, kk, 0, 0⟩ : Ev)]).flatMap evCells) by rw [flatEv_snoc]; exact hown7)
                      have hs7 : B3 ≤ w7.heap.size := Nat.le_trans hs2 hb7.out.size
                      clear hown7 hgrow7 hb7 y0 y1 y2 y3 y4 hLf2 hBr2 hev2
                      go_wp2
                      go_roundg (nw - (p + 1))
                      case measure => omega
                      case rel => exact ⟨p + 1, us + 1, wk, es ++ [(⟨wk, 0, kk, 0, 0⟩ : Ev)], U.set kk mx, by omega, by omega, by omega, by go_num, by go_num, by omega, rfl, by omega, by rw [List.length_append, hel.out]; rfl, hs7, hTr2, hL7, hB7, hev7⟩
            · rcases Nat.lt_or_ge p nw with hpn | hpn
              · have d1' : decide ((p : Int) < (nw : Int)) = true := decide_eq_true (by omega)
                have d2' : decide ((p : Int) < 60) = false := decide_eq_false (by omega)
                go_wp2
                (try simp only [Exit.inBlock, Exit.then])
                refine bodyPost_ret (results_tmp5 rfl _ _ _) rfl ?_
                have hee := hev.out
                rw [← hel] at hee
                refine ⟨⟨rs, es, wk, U, al, gS, cS, gL, cL, u17, AL, cA, rfl, hTr.out, hok.out, by rw [hrl.out], fun k hk => hbi.out k hk, hLf.out.sta, isEvs_own hee, ?_, hLf.out.alw⟩, hBw.out⟩
                have hr := hLf.out.lev.row
                rw [hLf.out.len] at hr
                exact hr
              · have d1' : decide ((p : Int) < (nw : Int)) = false := decide_eq_false (by omega)
                go_wp2
                (try simp only [Exit.inBlock, Exit.then])
                refine bodyPost_ret (results_tmp5 rfl _ _ _) rfl ?_
                have hee := hev.out
                rw [← hel] at hee
                refine ⟨⟨rs, es, wk, U, al, gS, cS, gL, cL, u17, AL, cA, rfl, hTr.out, hok.out, by rw [hrl.out], fun k hk => hbi.out k hk, hLf.out.sta, isEvs_own hee, ?_, hLf.out.alw⟩, hBw.out⟩
                have hr := hLf.out.lev.row
                rw [hLf.out.len] at hr
                exact hr
end Go.Proofs.Ytkhijdbigpaagaa
