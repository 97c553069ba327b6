/-
  The law SkillMore.
-/
import Derived.Test.YtkhijdbigpaagaaNmo
import Derived.Test.YtkhijdbigpaagaaNwa
import Derived.Test.YtkhijdbigpaagaaNl
import Derived.Test.YtkhijdbigpaagaaNda
namespace Go.Proofs.Ytkhijdbigpaagaa
open Go.RowKit RG

/-- A number of a range. -/
def NumIn (lo hi : Int) : Value → World → Prop := fun v _ => ∃ z, v = .int .i64 z ∧ lo ≤ z ∧ z ≤ hi
theorem NumIn.stb (lo hi : Int) : Stb (NumIn lo hi) := fun _ _ _ _ h => h
def AggIn (z hi : Int) : Value → World → Prop := fun v _ => ∃ y, v = .agg #[.int .i64 z, .int .i64 y] ∧ z ≤ y ∧ y ≤ hi
theorem AggIn.stb (z hi : Int) : Stb (AggIn z hi) := fun _ _ _ _ h => h
def OneIn (z hi : Int) : Value → World → Prop := fun v w => ∃ y, (z ≤ y ∧ y ≤ hi) ∧ IsOneSp z y v w
theorem OneIn.stb (z hi : Int) : Stb (OneIn z hi) := fun _ _ _ hb ⟨y, h, h2⟩ => ⟨y, h, IsOneSp.stb _ _ _ _ _ hb h2⟩
def OneEv (e : Ev) : Value → World → Prop := fun v w => ∃ g c, v = .slice (some ⟨g, 0, none⟩) 1 c ∧ Blk w g 78 #[.int .i64 e.a, .int .i64 e.b, .int .i64 e.c, .int .i64 e.d, .int .i64 e.e]
theorem OneEv.stb (e : Ev) : Stb (OneEv e) := fun _ _ _ hb ⟨g, c, e1, h⟩ => ⟨g, c, e1, h.below hb h.lt⟩
theorem cells_ev {w : World} {g : Nat} {a b c d e : Value} {t : TypeId} (h : Blk w g t #[a, b, c, d, e]) : ∀ j u, [a, b, c, d, e][j]? = some u → w.cell? ((⟨g, 0, none⟩ : Addr).add j) = some u := by
  intro j u hj
  match j, hj with
  | 0, hj => simp at hj; subst hj; simpa [Addr.add] using h.cell 0
  | 1, hj => simp at hj; subst hj; simpa [Addr.add] using h.cell 1
  | 2, hj => simp at hj; subst hj; simpa [Addr.add] using h.cell 2
  | 3, hj => simp at hj; subst hj; simpa [Addr.add] using h.cell 3
  | 4, hj => simp at hj; subst hj; simpa [Addr.add] using h.cell 4

set_option maxRecDepth 100000 in
set_option maxHeartbeats 2000000 in
theorem SkillMore_any (v : Value) (S : Sch) (L E N : Option Addr) (k cl m ce nn nc : Nat) (rs : List Sp) (es : List Ev) (wk ix sk ii mk : Int) (w : World) (h : RdSch w v S) (hls : RdRow w L k 2 (rs.map tkCells)) (hk : k ≤ maxLen) (hes : RdRow w E m 5 (es.map evCells)) (hm : m ≤ maxLen) (hcap : m ≤ ce) (hE0 : E = none → ce = 0)
    (hnu : RdU16 w N nn) (hnn : nn ≤ maxLen) (hsk : 0 ≤ sk ∧ sk ≤ 255) (hii : 0 ≤ ii ∧ ii ≤ 255) (hmk : 0 ≤ mk ∧ mk ≤ 65535) :
    Calls Try.prog 14 #[v, .agg #[.slice L k cl, .slice E m ce, .int .i64 wk, .int .i64 ix], .agg #[.slice N nn nc, .int .u8 sk, .int .u8 ii, .int .u16 mk]] w fun e w' => e = .returned (.bool true) ∧ Below w.heap.size w w' := by
  have hAk := hide (fun W (L' E' : Option Addr) (k' c' m' ce' : Nat) (rs' : List Sp) (es' : List Ev) (wk' : Int) (hb : Below w.heap.size w W) (h1 : RdRow W L' k' 2 (rs'.map tkCells)) (h2 : k' ≤ maxLen) (h3 : RdRow W E' m' 5 (es'.map evCells)) (h4 : m' ≤ maxLen) (h5 : m' ≤ ce') => After_any v S L' E' k' c' m' ce' rs' es' wk' W (h.below hb) h1 h2 h3 h4 h5)
  have hAW := hide (fun W (hb : Below w.heap.size w W) => hAk.out W L E k cl m ce rs es wk hb (hls.below hb) hk (hes.below hb) hm hcap)
  have hV := hide (fun W (hb : Below w.heap.size w W) => valid_any v S W (h.below hb))
  have hTu := hide (fun W (i : Int) (hb : Below w.heap.size w W) (hi : 0 ≤ i ∧ i ≤ 9223372036854775807) => turn_any N nn nc i W (hnu.below hb) hnn hi)
  have hrl : rs.length = k := by have := hls.1; simpa using this
  have hel : es.length = m := by have := hes.1; simpa using this
  have hlsB := hide (fun W (hb : Below w.heap.size w W) => hls.below hb)
  have hesB := hide (fun W (hb : Below w.heap.size w W) => hes.below hb)
  have hbad := fun h => after_bad (S := S) (rs := rs) (es := es) (wk := wk) h
  have hokk := fun h => after_ok (S := S) (rs := rs) (es := es) (wk := wk) h
  have hmath := hide (fun T rs' es' h1 h2 h3 h4 => more_math (S := S) (rs := rs) (rs' := rs') (T := T) (es := es) (es' := es') (wk := wk) h1 h2 h3 h4)
  obtain ⟨A, c, A2, c2, rfl, -⟩ := h
  unfold AfterR at hAW
  obtain ⟨q, hq⟩ : ∃ q, afterF S rs es wk = q := ⟨_, rfl⟩
  rw [hq] at hAW hbad hokk hmath
  obtain ⟨q1, q2⟩ := q
  simp only at hAW hbad hokk
  clear hls hes hk hnu
  replace hq := hide hq
  replace hbad := hide hbad
  replace hokk := hide hokk
  replace hrl := hide hrl
  replace hel := hide hel
  replace hE0 := hide hE0
  obtain ⟨n1, hn1⟩ : ∃ n, S.sks.length = n := ⟨_, rfl⟩
  obtain ⟨n2, hn2⟩ : ∃ n, S.ins.length = n := ⟨_, rfl⟩
  rw [hn1, hn2] at hAW hV hAk hmath ⊢
  replace hn1 := hide hn1
  replace hn2 := hide hn2
  obtain ⟨W0, hW0⟩ : ∃ W0, ((w.alloc (.cells #[.slice A n1 c, .slice A2 n2 c2] 25)).alloc (.cells #[.slice L k cl, .slice E m ce, .int .i64 wk, .int .i64 ix] 40)).alloc (.cells #[.slice N nn nc, .int .u8 sk, .int .u8 ii, .int .u16 mk] 95) = W0 := ⟨_, rfl⟩
  have kS := hide (show Blk W0 w.heap.size 25 #[.slice A n1 c, .slice A2 n2 c2] by rw [← hW0]; exact ((blkNew rfl).alloc _).alloc _)
  have kX := hide (show Blk W0 (w.heap.size + 1) 40 #[.slice L k cl, .slice E m ce, .int .i64 wk, .int .i64 ix] by rw [← hW0]; exact (blkNew (by simp)).alloc _)
  have kY := hide (show Blk W0 (w.heap.size + 2) 95 #[.slice N nn nc, .int .u8 sk, .int .u8 ii, .int .u16 mk] by rw [← hW0]; exact blkNew (by simp +arith))
  have hB := hide (show Below w.heap.size w W0 by rw [← hW0]; exact (((Below.refl _ _).alloc (Nat.le_refl _) _).alloc (by simp) _).alloc (by simp +arith) _)
  have s0 : W0.cell? ⟨w.heap.size, 0, none⟩ = some (.slice A n1 c) := kS.out.cell 0
  have s1 : W0.cell? ⟨w.heap.size, 1, none⟩ = some (.slice A2 n2 c2) := kS.out.cell 1
  have x0 : W0.cell? ⟨w.heap.size + 1, 0, none⟩ = some (.slice L k cl) := kX.out.cell 0
  have x1 : W0.cell? ⟨w.heap.size + 1, 1, none⟩ = some (.slice E m ce) := kX.out.cell 1
  have x2 : W0.cell? ⟨w.heap.size + 1, 2, none⟩ = some (.int .i64 wk) := kX.out.cell 2
  rw [← hW0] at s0 s1 x0 x1 x2
  replace hW0 := hide hW0
  go_enter Try.func14, Try.ntmps14
  go_wp2_with fail
  rw [hW0.out]
  refine (hAW.out _ hB.out).mono ?_
  rintro e w1 ⟨⟨v1, rfl, hT1⟩, hb⟩
  replace kS := hide (kS.out.below hb kS.out.lt)
  replace kX := hide (kX.out.below hb kX.out.lt)
  replace kY := hide (kY.out.below hb kY.out.lt)
  replace hB := hide (hB.out.trans (hb.mono hB.out.size))
  clear hb s0 s1 x0 x1 x2 hAW hW0
  have s0 : w1.cell? ⟨w.heap.size, 0, none⟩ = some (.slice A n1 c) := kS.out.cell 0
  have s1 : w1.cell? ⟨w.heap.size, 1, none⟩ = some (.slice A2 n2 c2) := kS.out.cell 1
  obtain ⟨A3, c3, rfl, hr3, -⟩ := hT1
  by_cases hbd : q2 ≠ 0
  · have hT0 : q1 = none := hbad.out hbd
    subst hT0
    have b1 : (q2 != 0) = true := by rw [bne_iff_ne]; exact hbd
    replace hbd := hide hbd
    simp only [Option.getD_none, List.length_nil]
    clear hr3 hokk hmath
    go_wp2_with fail
    refine (AwakeS _).mono ?_
    rintro e w5 ⟨rfl, hb⟩
    replace hB := hide (hB.out.trans (hb.mono hB.out.size))
    clear hb s0 s1
    go_wp2
    go_ret
    exact ⟨rfl, hB.out⟩
  · obtain rfl : q2 = 0 := by omega
    obtain ⟨hh, hw, hl, hqe⟩ := hokk.out (.inl rfl)
    obtain ⟨T, hT⟩ : ∃ T, q1 = some T := by
      cases q1 with
      | none =>
        have h1 := congrArg Prod.fst hqe
        have h2 := congrArg Prod.snd hqe
        simp only at h1 h2
        rw [← h1] at h2
        exact absurd h2 (by decide)
      | some T => exact ⟨T, rfl⟩
    subst hT
    have hTl : T.length = k := by
      have h1 := congrArg Prod.fst hqe
      simp only at h1
      rw [liveS_len h1.symm, hrl.out]
    obtain ⟨hck, hrk, hek⟩ := hist_ok hh
    have hkn : k = n1 := by rw [← hrl.out, ← hn1.out]; exact (ranges_ok hrk).1
    subst hkn
    have hk15 : 1 ≤ k ∧ k ≤ 5 := by have h1 := (check_ok hck).1; have h2 := (check_ok hck).2.1; rw [hn1.out] at h1 h2; exact ⟨h1, h2⟩
    have hn6 : n2 ≤ 6 := by have := (check_ok hck).2.2.1; rw [hn2.out] at this; exact this
    have hm60 : m ≤ 60 := by have := (evs_ok hek).1; rw [hel.out] at this; exact this
    have hrr := hide (fun j (hj : j < k) => (ranges_ok hrk).2 j (by rw [hrl.out]; exact hj))
    have hck1 : ((checkS S).2.2 == 0) = true := by rw [beq_iff_eq]; exact hck
    rw [hck1] at hV
    simp only [Option.getD_some] at hr3 ⊢
    rw [hTl] at hr3 ⊢
    have bk : ((k : Int) != (k : Int)) = false := by simp
    replace hTl := hide hTl
    replace hmath := hide (fun rs' es' h2 h3 h4 => hmath.out T rs' es' rfl h2 h3 h4)
    clear hck hck1 hrk hek hh hqe hbad hokk hbd hq
    go_wp2_with fail
    refine (hV.out _ hB.out).mono ?_
    rintro e w2 ⟨rfl, hb⟩
    replace kS := hide (kS.out.below hb kS.out.lt)
    replace kX := hide (kX.out.below hb kX.out.lt)
    replace kY := hide (kY.out.below hb kY.out.lt)
    replace hB := hide (hB.out.trans (hb.mono hB.out.size))
    have hr32 := hide (hr3.below hb)
    clear hb s0 s1 hV hr3
    have s0 : w2.cell? ⟨w.heap.size, 0, none⟩ = some (.slice A k c) := kS.out.cell 0
    have x0 : w2.cell? ⟨w.heap.size + 1, 0, none⟩ = some (.slice L k cl) := kX.out.cell 0
    have hs2 := hB.out.size
    obtain ⟨i0, hi0, hz0, hz1, hz2⟩ := info_parts infoSp
    replace hi0 := hide hi0
    replace hz0 := hide hz0
    replace hz1 := hide hz1
    replace hz2 := hide hz2
    have hzY := kY.out.lt
    obtain ⟨b, off, rfl, hb0, -⟩ := (hlsB.out w2 hB.out).2.2 (by omega)
    go_wp2
    go_loopg [9, 10, 11, 12] k (fun gg s9 s10 _ _ wr => ∃ (j : Nat) (R : List Sp), j ≤ k ∧ k ≤ gg + j ∧ s10 = .int .i64 j ∧ R.length = j ∧ Hid (∀ i, i < j → (rs[i]?.getD (0, 0)).1 ≤ (R[i]?.getD (0, 0)).1 ∧ (R[i]?.getD (0, 0)).1 ≤ (R[i]?.getD (0, 0)).2 ∧ (R[i]?.getD (0, 0)).2 ≤ (rs[i]?.getD (0, 0)).2) ∧ Hid (Below w2.heap.size w2 wr) ∧ Hid (wr.ownsRow w2.heap.size 32 2 s9 j (R.flatMap tkCells)))
    case atStart => exact ⟨0, [], Nat.zero_le _, by omega, rfl, rfl, hide (fun i h => absurd h (by omega)), hide (Below.refl _ _), hide (World.ownsRow_nil _ _ _ _)⟩
    case round =>
      clear s0 x0
      obtain ⟨j, R, hj, hgg, rfl, hRl, hRb, hBr, hown⟩ := hrel
      have hBw := hide (hB.out.trans (hBr.out.mono hB.out.size))
      have kXr := kX.out.below hBr.out kX.out.lt
      have kYr := kY.out.below hBr.out kY.out.lt
      have x0 : wr.cell? ⟨w.heap.size + 1, 0, none⟩ = some (.slice (some ⟨b, off, none⟩) k cl) := kXr.cell 0
      by_cases hlt : j < k
      · have hltz : (j : Int) < (k : Int) := by omega
        obtain ⟨b', off', z0, z1, hA, hbb, hz, d0, d1⟩ := (hlsB.out wr hBw.out).cells2 hlt
        obtain ⟨rfl, rfl⟩ : b = b' ∧ off = off' := by simpa using hA
        clear hA
        have hcell : ((rs.map tkCells)[j]?.getD []) = tkCells (rs[j]?.getD (0, 0)) := by
          rw [map_at tkCells rs j (by rw [hrl.out]; exact hlt), show rs[j]?.getD default = rs[j]?.getD (0, 0) by rw [List.getElem?_eq_getElem (by rw [hrl.out]; exact hlt)]; rfl]
        rw [hcell] at hz
        unfold tkCells at hz
        simp only [List.cons.injEq, and_true] at hz
        obtain ⟨rfl, rfl⟩ := hz
        have hrb := hrr.out j hlt
        obtain ⟨lo, hlo⟩ : ∃ x, (rs[j]?.getD (0, 0)).1 = x := ⟨_, rfl⟩
        obtain ⟨hi, hhi⟩ : ∃ x, (rs[j]?.getD (0, 0)).2 = x := ⟨_, rfl⟩
        rw [hlo] at d0 hrb
        rw [hhi] at d1 hrb
        have hd0 : decide (hi < lo) = false := decide_eq_false (by omega)
        have kb := hide (show Blk (wr.alloc (.cells #[.int .i64 lo, .int .i64 hi] 32)) wr.heap.size 32 #[.int .i64 lo, .int .i64 hi] from blkNew rfl)
        have kY1 := hide (kYr.alloc (.cells #[.int .i64 lo, .int .i64 hi] 32))
        have hBr1 := hide (hBr.out.alloc hBr.out.size (.cells #[.int .i64 lo, .int .i64 hi] 32))
        have hBw1 := hide (hBw.out.alloc hBw.out.size (.cells #[.int .i64 lo, .int .i64 hi] 32))
        have hown1 := hide (hown.out.alloc (.cells #[.int .i64 lo, .int .i64 hi] 32))
        have hw1 : IntKind.i64.wrap (2 * (j : Int)) = 2 * (j : Int) := by rw [IntKind.wrap_i64]; omega
        have hw2 : IntKind.i64.wrap (2 * (j : Int) + 1) = 2 * (j : Int) + 1 := by rw [IntKind.wrap_i64]; omega
        have hsr := hBr.out.size
        replace hlo := hide hlo
        replace hhi := hide hhi
        replace hRl := hide hRl
        clear hcell
        go_wp2
        clear d0 d1 x0 hd0
        have zb := kb.out.lt
        have zY := kY1.out.lt
        have hlt2 : wr.heap.size < (wr.alloc (.cells #[.int .i64 lo, .int .i64 hi] 32)).heap.size := zb
        generalize (wr.alloc (.cells #[.int .i64 lo, .int .i64 hi] 32)) = w3 at *
        refine region_grow [IsV (.agg #[.int .i64 lo, .int .i64 hi]), IsV (.pointer (some ⟨w.heap.size + 2, 0, none⟩)), IsV (.slice N nn nc), IsV (.int .i64 j), IsV (.int .i64 (2 * (j : Int))), NumIn 0 65535, NumIn lo hi, NumIn lo hi] (by kernel_rfl) (by kernel_rfl) rfl ?_ ?_ ?_
        · simp [AllStb, IsV.stb, NumIn.stb]
        · refine ⟨?_, ?_, ?_, ?_, ?_, ?_, ?_, ?_, trivial⟩
          all_goals
            intro y w6 K Qq Cv hC hd hV
            have q0 : w6.cell? ⟨wr.heap.size, 0, none⟩ = some (.int .i64 lo) := (kb.out.below hC zb).cell 0
            have q1 : w6.cell? ⟨wr.heap.size, 1, none⟩ = some (.int .i64 hi) := (kb.out.below hC zb).cell 1
            have q2 : w6.cell? ⟨w.heap.size + 2, 0, none⟩ = some (.slice N nn nc) := (kY1.out.below hC zY).cell 0
            simp [deps, VL, IsV, Region.binds] at hd
          · simp only [putAll, Act.put]; go_simp; intro hK; exact hK _ _ (hV _ _ hC (Below.refl _ _) rfl)
          · simp only [putAll, Act.put]; go_simp; intro hK; exact hK _ _ (hV _ _ hC (Below.refl _ _) rfl)
          · simp only [putAll, Act.put]; go_simp; intro hK; exact hK _ _ (hV _ _ hC (Below.refl _ _) rfl)
          · simp only [putAll, Act.put]; go_simp; intro hK; exact hK _ _ (hV _ _ hC (Below.refl _ _) rfl)
          · simp only [putAll, Act.put]; go_simp; intro hK; exact hK _ _ (hV _ _ hC (Below.refl _ _) rfl)
          · simp only [putAll, Act.put]; go_simp; intro hK
            refine (hTu.out w6 (2 * (j : Int)) (hBw1.out.trans (hC.mono hBw1.out.size)) (by omega)).mono ?_
            rintro e w7 ⟨⟨x, rfl, hx0, hx1⟩, rfl⟩
            exact hK _ _ (hV _ _ hC (Below.refl _ _) ⟨x, rfl, hx0, hx1⟩)
          · obtain ⟨e0, x, e1, hx0, hx1⟩ := hd
            have hAm := hide (among_any lo hi x w6 (by omega) ⟨hx0, hx1⟩)
            simp only [putAll, Act.put]; go_simp; intro hK
            refine hAm.out.mono ?_
            rintro e w7 ⟨⟨z, rfl, hz0, hz1⟩, hb7⟩
            exact hK _ _ (hV _ _ (hC.trans (hb7.mono hC.size)) hb7 ⟨z, rfl, hz0, hz1⟩)
          · have hd0 := hd
            first
            | (simp only [putAll, Act.put]; go_simp; intro hK; exact hK _ _ (hV _ _ hC (Below.refl _ _) hd0))
            | (simp only [putAll, Act.put]; go_simp; intro hK; exact hK _ _ (hV _ _ hC (Below.refl _ _) hd0.1))
        intro y w4 hC hd
        simp [EndsL, IsV] at hd
        obtain ⟨d0, d1, d2, d3, d4, d5, d6, ⟨z, d7, hzl, hzh⟩⟩ := hd
        simp only [putAll, Act.put]
        rw [d7]
        clear d0 d1 d2 d3 d4 d5 d6 d7
        simp only [List.setIfInBounds_toArray, List.set_cons_succ, List.set_cons_zero]
        have kb2 := hide (kb.out.below hC zb)
        have kY2 := hide (kY1.out.below hC zY)
        have hBr2 := hide (hBr1.out.trans (hC.mono hBr1.out.size))
        have hBw2 := hide (hBw1.out.trans (hC.mono hBw1.out.size))
        have hown2 := hide (own_below hown1.out hC)
        have hs4 := hBr2.out.size
        clear hC kb kY1 hBr1 hBw1 hown1 zb zY
        have zb := kb2.out.lt
        have zY := kY2.out.lt
        go_wp2
        refine region_grow_tail 15 [IsV u9, IsV (.int .i64 z), IsV (.int .i64 z), IsV (.pointer (some ⟨wr.heap.size, 1, none⟩)), IsV (.int .i64 hi), IsV (.agg #[.int .i64 z, .int .i64 hi]), IsV (.pointer (some ⟨w.heap.size + 2, 0, none⟩)), IsV (.slice N nn nc), IsV (.int .i64 j), IsV (.int .i64 (2 * (j : Int))), IsV (.int .i64 (2 * (j : Int) + 1)), NumIn 0 65535, NumIn z hi, AggIn z hi, OneIn z hi] (by kernel_rfl) (by kernel_rfl) rfl ?_ ?_ ?_
        · simp [AllStb, IsV.stb, NumIn.stb, AggIn.stb, OneIn.stb]
        · refine ⟨?_, ?_, ?_, ?_, ?_, ?_, ?_, ?_, ?_, ?_, ?_, ?_, ?_, ?_, ?_, trivial⟩
          all_goals
            intro y w6 K Qq Cv hC hd hV
            have q1 : w6.cell? ⟨wr.heap.size, 1, none⟩ = some (.int .i64 hi) := (kb2.out.below hC zb).cell 1
            have q2 : w6.cell? ⟨w.heap.size + 2, 0, none⟩ = some (.slice N nn nc) := (kY2.out.below hC zY).cell 0
            simp [deps, VL, IsV, Region.binds] at hd
          · simp only [List.take_succ_cons, List.take_zero, putAll, Act.put]; go_simp; intro hK; exact hK _ _ (hV _ _ hC (Below.refl _ _) rfl)
          · simp only [List.take_succ_cons, List.take_zero, putAll, Act.put]; go_simp; intro hK; exact hK _ _ (hV _ _ hC (Below.refl _ _) rfl)
          · simp only [List.take_succ_cons, List.take_zero, putAll, Act.put]; go_simp; intro hK; exact hK _ _ (hV _ _ hC (Below.refl _ _) rfl)
          · simp only [List.take_succ_cons, List.take_zero, putAll, Act.put]; go_simp; intro hK; exact hK _ _ (hV _ _ hC (Below.refl _ _) rfl)
          · simp only [List.take_succ_cons, List.take_zero, putAll, Act.put]; go_simp; intro hK; exact hK _ _ (hV _ _ hC (Below.refl _ _) rfl)
          · have hSw := hide (span_w z hi w6)
            simp only [List.take_succ_cons, List.take_zero, putAll, Act.put]; go_simp; intro hK
            refine hSw.out.mono ?_
            rintro e w7 ⟨rfl, hb7⟩
            exact hK _ _ (hV _ _ (hC.trans (hb7.mono hC.size)) hb7 rfl)
          · simp only [List.take_succ_cons, List.take_zero, putAll, Act.put]; go_simp; intro hK; exact hK _ _ (hV _ _ hC (Below.refl _ _) rfl)
          · simp only [List.take_succ_cons, List.take_zero, putAll, Act.put]; go_simp; intro hK; exact hK _ _ (hV _ _ hC (Below.refl _ _) rfl)
          · simp only [List.take_succ_cons, List.take_zero, putAll, Act.put]; go_simp; intro hK; exact hK _ _ (hV _ _ hC (Below.refl _ _) rfl)
          · simp only [List.take_succ_cons, List.take_zero, putAll, Act.put]; go_simp; intro hK; exact hK _ _ (hV _ _ hC (Below.refl _ _) rfl)
          · simp only [List.take_succ_cons, List.take_zero, putAll, Act.put]; go_simp; intro hK; exact hK _ _ (hV _ _ hC (Below.refl _ _) rfl)
          · simp only [List.take_succ_cons, List.take_zero, putAll, Act.put]; go_simp; intro hK
            refine (hTu.out w6 (2 * (j : Int) + 1) (hBw2.out.trans (hC.mono hBw2.out.size)) (by omega)).mono ?_
            rintro e w7 ⟨⟨x, rfl, hx0, hx1⟩, rfl⟩
            exact hK _ _ (hV _ _ hC (Below.refl _ _) ⟨x, rfl, hx0, hx1⟩)
          · obtain ⟨e0, x, e1, hx0, hx1⟩ := hd
            have hAm := hide (among_any z hi x w6 (by omega) ⟨hx0, hx1⟩)
            simp only [List.take_succ_cons, List.take_zero, putAll, Act.put]; go_simp; intro hK
            refine hAm.out.mono ?_
            rintro e w7 ⟨⟨z', rfl, hz0, hz1⟩, hb7⟩
            exact hK _ _ (hV _ _ (hC.trans (hb7.mono hC.size)) hb7 ⟨z', rfl, hz0, hz1⟩)
          · obtain ⟨e0, x, e1, hx0, hx1⟩ := hd
            have hSw := hide (span_w z x w6)
            simp only [List.take_succ_cons, List.take_zero, putAll, Act.put]; go_simp; intro hK
            refine hSw.out.mono ?_
            rintro e w7 ⟨rfl, hb7⟩
            exact hK _ _ (hV _ _ (hC.trans (hb7.mono hC.size)) hb7 ⟨x, rfl, hx0, hx1⟩)
          · obtain ⟨x, e1, hx0, hx1⟩ := hd
            simp only [List.take_succ_cons, List.take_zero, putAll, Act.put]; go_simp; intro hK
            exact hK _ _ (hV _ _ (hC.alloc hC.size _) ((Below.refl _ _).alloc (Nat.le_refl _) _) ⟨x, ⟨hx0, hx1⟩, _, _, rfl, by simp, by simp⟩)
        intro y w6 hC hd
        simp [EndsL, IsV] at hd
        obtain ⟨d0, d1, d2, d3, d4, d5, d6, d7, d8, d9, d10, d11, d12, d13, ⟨z2, ⟨hz2l, hz2h⟩, g2, cc2, d14, hc2, hc3⟩⟩ := hd
        simp only [List.take_succ_cons, List.take_zero, List.drop_succ_cons, List.drop_zero, putAll, Act.put]
        rw [d0, d14]
        clear d0 d1 d2 d3 d4 d5 d6 d7 d8 d9 d10 d11 d12 d13 d14
        simp only [List.setIfInBounds_toArray, List.set_cons_succ, List.set_cons_zero]
        have hB6 := hide (hBr2.out.trans (hC.mono hBr2.out.size))
        have hs6 := hB6.out.size
        have ho6 := own_below hown2.out hC
        clear hC
        go_wp2_with (at_builtin; refine wpList_append_own _ rfl _ _ 37 rfl w2.heap.size 32 i0 (.agg #[.int .i64 0, .int .i64 0]) 2 16 Try.underlying37 hi0.out hz0.out hz1.out hz2.out rfl (by decide) _ _ _ rfl ho6 ⟨g2, 0, none⟩ 1 cc2 [.int .i64 z, .int .i64 z2] rfl rfl (cells_two hc2 hc3) (by simp [Value.oneCell']) (by unfold maxLen; omega) (by omega) (by omega) ?_; intro v' w7 hown7 hgrow7 _)
        have hB7 := hide (hB6.out.grown hgrow7 (by omega) (fun k hk => (ho6.lt k hk).1))
        have hown8 := hide (show w7.ownsRow w2.heap.size 32 2 v' (j + 1) ((R ++ [(z, z2)]).flatMap tkCells) by
          rw [List.flatMap_append]; exact hown7)
        clear hgrow7 ho6 hown7 hc2 hc3
        go_wp2
        go_roundg (k - (j + 1))
        case measure => omega
        case rel =>
          refine ⟨j + 1, R ++ [(z, z2)], by omega, by omega, by go_num, by rw [List.length_append, hRl.out]; rfl, hide fun i hi' => ?_, hB7, hown8⟩
          by_cases e : i = j
          · subst e
            rw [List.getElem?_append_right (by rw [hRl.out]; exact Nat.le_refl _), hRl.out, Nat.sub_self]
            simp only [List.getElem?_cons_zero, Option.getD_some]
            rw [hlo.out, hhi.out]
            omega
          · rw [List.getElem?_append_left (by rw [hRl.out]; omega)]
            exact hRb.out i (by omega)
      · have hltz : ¬ (j : Int) < (k : Int) := by omega
        obtain rfl : j = k := by omega
        obtain ⟨gR, cR, rfl, -, hcR, hAR⟩ := spAt_own hown.out hRl hk15.1
        have hsub := hide (show SubL R rs from SubL.of (by rw [hRl, hrl.out]) fun i hi => by
          have := hRb.out i (by rw [hRl] at hi; exact hi)
          exact ⟨this.1, this.2.2⟩)
        have hall := hide (show AllOk R from fun i hi => by
          have h1 := hRb.out i (by rw [hRl] at hi; exact hi)
          have h2 := hrr.out i (by rw [hRl] at hi; exact hi)
          unfold okS; omega)
        replace kS := hide (kS.out.below hBr.out kS.out.lt)
        replace kX := hide kXr
        replace kY := hide kYr
        have hr3r := hide (hr32.out.below hBr.out)
        replace hB := hBw
        have hRr := hAR.row
        rw [hRl] at hRr
        replace hRr := hide hRr
        clear hown hAR kXr kYr hBw hr32 hRb hrr hTu
        replace hRl := hide hRl
        have hs9 := hB.out.size
        obtain ⟨i1, hj0, hj1, hj2, hj3⟩ := info_parts infoEv
        replace hj0 := hide hj0
        replace hj1 := hide hj1
        replace hj2 := hide hj2
        replace hj3 := hide hj3
        have x1 : wr.cell? ⟨w.heap.size + 1, 1, none⟩ = some (.slice E m ce) := kX.out.cell 1
        have x1' : (wr.alloc (.cells #[] 78)).cell? ⟨w.heap.size + 1, 1, none⟩ = some (.slice E m ce) := (kX.out.alloc _).cell 1
        have heA := hide ((hesB.out wr hB.out).below ((Below.refl wr.heap.size wr).alloc (Nat.le_refl _) (.cells #[] 78)))
        go_wp2_with (at_builtin; refine wpList_append_evs rfl _ _ rfl wr.heap.size i1 hj0.out hj1.out hj2.out hj3.out (.slice (some ⟨wr.heap.size, 0, none⟩) 0 0) 0 [] rfl (World.ownsRow_made wr #[] 0 (Nat.le_refl _) (Nat.zero_le _) rfl) E m ce es rfl heA.out hE0.out (by unfold maxLen; omega) (by omega) (by simp) ?_; intro v' w4 hown4 hgrow4; refine Hid.out ?_)
        refine hide ?_
        have hown5 := hide (show w4.ownsRow wr.heap.size 78 5 v' m (es.flatMap evCells) by simpa using hown4)
        have hb4 := hide (((Below.refl wr.heap.size wr).alloc (Nat.le_refl _) (.cells #[] 78)).grown hgrow4 (by simp) (by intro k hk; simp [Value.ownBlock] at hk; omega))
        have zSr := kS.out.lt
        have zXr := kX.out.lt
        have zYr := kY.out.lt
        have hr3w := hr3r
        have hRw := hRr
        replace kS := hide (kS.out.below hb4.out kS.out.lt)
        replace kX := hide (kX.out.below hb4.out kX.out.lt)
        replace kY := hide (kY.out.below hb4.out kY.out.lt)
        replace hB := hide (hB.out.trans (hb4.out.mono hB.out.size))
        replace hr3r := hide (hr3r.out.below hb4.out)
        replace hRr := hide (hRr.out.below hb4.out)
        have hwr4 := hb4.out.size
        clear hown4 hgrow4 x1 x1' heA
        have s0 : w4.cell? ⟨w.heap.size, 0, none⟩ = some (.slice A j c) := kS.out.cell 0
        have s1 : w4.cell? ⟨w.heap.size, 1, none⟩ = some (.slice A2 n2 c2) := kS.out.cell 1
        have x2 : w4.cell? ⟨w.heap.size + 1, 2, none⟩ = some (.int .i64 wk) := kX.out.cell 2
        -- the value of the events
        obtain ⟨Le, le, rfl, hre, hce2⟩ : IsEvs es v' w4 := isEvs_own (base := wr.heap.size) (by rw [hel.out]; exact hown5.out)
        rw [hel.out] at hre hce2 hown5 ⊢
        by_cases hmark : 0 < n2 ∧ m < 60
        · have hg1 : decide ((0 : Int) < (n2 : Int)) = true := decide_eq_true (by omega)
          have hg2 : decide ((m : Int) < 60) = true := decide_eq_true (by omega)
          clear hre hce2
          have hjz : (0 : Int) < (j : Int) := by omega
          have hnz : (0 : Int) < (n2 : Int) := by omega
          obtain ⟨c', hc'⟩ : ∃ x, sk.tmod (j : Int) = x := ⟨_, rfl⟩
          have hcb : 0 ≤ c' ∧ c' < (j : Int) := by rw [← hc']; exact ⟨Int.tmod_nonneg _ hsk.1, Int.tmod_lt_of_pos _ hjz⟩
          obtain ⟨d', hd'⟩ : ∃ x, ii.tmod (n2 : Int) = x := ⟨_, rfl⟩
          have hdb : 0 ≤ d' ∧ d' < (n2 : Int) := by rw [← hd']; exact ⟨Int.tmod_nonneg _ hii.1, Int.tmod_lt_of_pos _ hnz⟩
          obtain ⟨e', he'⟩ : ∃ x, mk.tmod 1001 = x := ⟨_, rfl⟩
          have heb : 0 ≤ e' ∧ e' ≤ 1000 := by rw [← he']; exact ⟨Int.tmod_nonneg _ hmk.1, by have := Int.tmod_lt_of_pos mk (show (0 : Int) < 1001 by decide); omega⟩
          have hmm := hmath.out R (es ++ [⟨wk, 1, c', d', e'⟩]) hsub.out hall.out (.inr ⟨by rw [hel.out]; exact hmark.2, ⟨wk, 1, c', d', e'⟩, rfl, rfl, rfl, hcb, hdb, heb⟩)
          have hw1 : IntKind.i64.wrap sk = sk := by rw [IntKind.wrap_i64]; omega
          have hw2 : IntKind.i64.wrap ii = ii := by rw [IntKind.wrap_i64]; omega
          have hw3 : IntKind.i64.wrap mk = mk := by rw [IntKind.wrap_i64]; omega
          have hw4 : IntKind.i64.wrap c' = c' := by rw [IntKind.wrap_i64]; omega
          have hw5 : IntKind.i64.wrap d' = d' := by rw [IntKind.wrap_i64]; omega
          have hw6 : IntKind.i64.wrap e' = e' := by rw [IntKind.wrap_i64]; omega
          have bj : ((j : Int) == 0) = false := by rw [beq_eq_false_iff_ne]; omega
          have bn : ((n2 : Int) == 0) = false := by rw [beq_eq_false_iff_ne]; omega
          have bj2 : (j == 0) = false := by rw [beq_eq_false_iff_ne]; omega
          have bn2 : (n2 == 0) = false := by rw [beq_eq_false_iff_ne]; omega
          have bj3 : ¬ j = 0 := by omega
          have bn3 : ¬ n2 = 0 := by omega
          go_wp2
          clear s0 s1 x2 hg1 hg2
          have zS := kS.out.lt
          have zX := kX.out.lt
          have zY := kY.out.lt
          refine region_grow_tail 23 [IsV (.slice Le m le), IsV (.pointer (some ⟨w.heap.size + 1, 2, none⟩)), IsV (.int .i64 wk), IsV (.pointer (some ⟨w.heap.size + 2, 1, none⟩)), IsV (.int .u8 sk), IsV (.int .i64 sk), IsV (.pointer (some ⟨w.heap.size, 0, none⟩)), IsV (.slice A j c), IsV (.int .i64 j), IsV (.int .i64 c'), IsV (.pointer (some ⟨w.heap.size + 2, 2, none⟩)), IsV (.int .u8 ii), IsV (.int .i64 ii), IsV (.pointer (some ⟨w.heap.size, 1, none⟩)), IsV (.slice A2 n2 c2), IsV (.int .i64 n2), IsV (.int .i64 d'), IsV (.pointer (some ⟨w.heap.size + 2, 3, none⟩)), IsV (.int .u16 mk), IsV (.int .i64 mk), IsV (.int .i64 e'), IsV (.agg #[.int .i64 wk, .int .i64 1, .int .i64 c', .int .i64 d', .int .i64 e']), OneEv ⟨wk, 1, c', d', e'⟩] (by kernel_rfl) (by kernel_rfl) rfl ?_ ?_ ?_
          · simp [AllStb, IsV.stb, OneEv.stb]
          · refine ⟨?_, ?_, ?_, ?_, ?_, ?_, ?_, ?_, ?_, ?_, ?_, ?_, ?_, ?_, ?_, ?_, ?_, ?_, ?_, ?_, ?_, ?_, ?_, trivial⟩
            all_goals
              intro y w6 K Qq Cv hC hd hV
              have q0 : w6.cell? ⟨w.heap.size, 0, none⟩ = some (.slice A j c) := (kS.out.below hC zS).cell 0
              have q1 : w6.cell? ⟨w.heap.size, 1, none⟩ = some (.slice A2 n2 c2) := (kS.out.below hC zS).cell 1
              have q2 : w6.cell? ⟨w.heap.size + 1, 2, none⟩ = some (.int .i64 wk) := (kX.out.below hC zX).cell 2
              have q3 : w6.cell? ⟨w.heap.size + 2, 1, none⟩ = some (.int .u8 sk) := (kY.out.below hC zY).cell 1
              have q4 : w6.cell? ⟨w.heap.size + 2, 2, none⟩ = some (.int .u8 ii) := (kY.out.below hC zY).cell 2
              have q5 : w6.cell? ⟨w.heap.size + 2, 3, none⟩ = some (.int .u16 mk) := (kY.out.below hC zY).cell 3
              have hz6 := hC.size
              simp [deps, VL, IsV, Region.binds] at hd
              simp only [List.take_succ_cons, List.take_zero, putAll, Act.put]
              go_simp; intro hK
            iterate 22 (first | exact hK _ _ (hV _ _ hC (Below.refl _ _) rfl) | skip)
            all_goals first
              | exact hK _ _ (hV _ _ hC (Below.refl _ _) rfl)
              | exact hK _ _ (hV _ _ (hC.alloc hz6 _) ((Below.refl _ _).alloc (Nat.le_refl _) _) ⟨_, _, rfl, blkNew rfl⟩)
          intro y w6 hC hd
          simp [EndsL, IsV] at hd
          obtain ⟨d0, d1, d2, d3, d4, d5, d6, d7, d8, d9, d10, d11, d12, d13, d14, d15, d16, d17, d18, d19, d20, d21, ⟨ge, gec, d22, hge⟩⟩ := hd
          simp only [List.take_succ_cons, List.take_zero, List.drop_succ_cons, List.drop_zero, putAll, Act.put]
          rw [d0, d22]
          clear d0 d1 d2 d3 d4 d5 d6 d7 d8 d9 d10 d11 d12 d13 d14 d15 d16 d17 d18 d19 d20 d21 d22
          simp only [List.setIfInBounds_toArray, List.set_cons_succ, List.set_cons_zero]
          have ho6 := own_below hown5.out hC
          have hs6 := hC.size
          have hb46 := hide hC
          clear hC hown5 hw1 hw2 hw3 hw4 hw5 hw6 bj bn bj2 bn2 bj3 bn3 hc' hd' he'
          go_wp2_with (at_builtin; refine wpList_append_own _ rfl _ _ 38 rfl wr.heap.size 78 i1 (.agg #[.int .i64 0, .int .i64 0, .int .i64 0, .int .i64 0, .int .i64 0]) 5 40 Try.underlying38 hj0.out hj1.out hj2.out hj3.out rfl (by decide) _ _ _ rfl ho6 ⟨ge, 0, none⟩ 1 gec [.int .i64 wk, .int .i64 1, .int .i64 c', .int .i64 d', .int .i64 e'] rfl rfl (cells_ev hge) (by simp [Value.oneCell']) (by unfold maxLen; omega) (by omega) (by omega) ?_; intro v5 w7 hown7 hgrow7 _; refine Hid.out ?_)
          refine hide ?_
          have hb7 := hide ((Below.refl wr.heap.size w6).grown hgrow7 (by omega) (fun k hk => (ho6.lt k hk).1))
          clear hgrow7
          have hown8 := hide (show w7.ownsRow wr.heap.size 78 5 v5 (es ++ [(⟨wk, 1, c', d', e'⟩ : Ev)]).length ((es ++ [(⟨wk, 1, c', d', e'⟩ : Ev)]).flatMap evCells) by
            rw [List.flatMap_append, List.length_append, hel.out]; exact hown7)
          obtain ⟨Lf, lf, rfl, hre, hce2⟩ := isEvs_own (base := wr.heap.size) hown8.out
          clear ho6 hown7 hge
          have hl1 : (es ++ [(⟨wk, 1, c', d', e'⟩ : Ev)]).length = m + 1 := by rw [List.length_append, hel.out]; rfl
          rw [hl1] at hre hce2 ⊢
          have hb47 := hide (show Below wr.heap.size w4 w7 from (hb46.out.mono hwr4).trans hb7.out)
          replace kS := hide (kS.out.below hb47.out zSr)
          replace kX := hide (kX.out.below hb47.out zXr)
          replace hB := hide (hB.out.trans (hb47.out.mono hs9))
          replace hr3r := hide (hr3w.out.below (hb4.out.trans hb47.out))
          replace hRr := hide (hRw.out.below (hb4.out.trans hb47.out))
          clear hb7 hb46 hb47 hown8 hb4 hr3w hRw
          have s0 : w7.cell? ⟨w.heap.size, 0, none⟩ = some (.slice A j c) := kS.out.cell 0
          have s1 : w7.cell? ⟨w.heap.size, 1, none⟩ = some (.slice A2 n2 c2) := kS.out.cell 1
          have x2 : w7.cell? ⟨w.heap.size + 1, 2, none⟩ = some (.int .i64 wk) := kX.out.cell 2
          have hA2 := hAk.out w7 (some ⟨gR, 0, none⟩) Lf j cR (m + 1) lf R (es ++ [(⟨wk, 1, c', d', e'⟩ : Ev)]) wk hB.out hRr.out (by unfold maxLen; omega) hre (by unfold maxLen; omega) hce2
          rcases hmm with hmm | ⟨T', hmm, hTT⟩
          · rw [hmm] at hA2
            unfold AfterR at hA2
            replace hA2 := hide hA2
            clear hmm hre hce2
            go_wp2_with fail
            refine hA2.out.mono ?_
            rintro e w8 ⟨⟨v8, rfl, hT8⟩, hb8⟩
            replace hB := hide (hB.out.trans (hb8.mono hB.out.size))
            obtain ⟨A8, c8, rfl, -, -⟩ := hT8
            simp only [Option.getD_none, List.length_nil]
            clear hb8 hA2 s0 s1 x2
            go_wp2_with fail
            refine (AwakeS _).mono ?_
            rintro e w9 ⟨rfl, hb⟩
            replace hB := hide (hB.out.trans (hb.mono hB.out.size))
            clear hb
            go_wp2
            go_ret
            exact ⟨rfl, hB.out⟩
          · rw [hmm] at hA2
            unfold AfterR at hA2
            replace hA2 := hide hA2
            have hTl2 : T'.length = j := by rw [hTT.1, hTl.out]
            replace hTT := hide hTT
            clear hmm hre hce2
            go_wp2_with fail
            refine hA2.out.mono ?_
            rintro e w8 ⟨⟨v8, rfl, hT8⟩, hb8⟩
            replace hB := hide (hB.out.trans (hb8.mono hB.out.size))
            have hr8 := hr3r.out.below hb8
            obtain ⟨A8, c8, rfl, hm8, -⟩ := hT8
            simp only [Option.getD_some] at hm8 ⊢
            rw [hTl2] at hm8 ⊢
            replace hm8 := hide hm8
            replace hr8 := hide hr8
            replace hTl2 := hide hTl2
            clear hb8 hA2 s0 s1 x2
            go_wp2
            go_loopg [15] j (fun gg s15 wq => ∃ i : Nat, i ≤ j ∧ j ≤ gg + i ∧ s15 = .int .i64 i ∧ Hid (Below w8.heap.size w8 wq))
            case atStart => exact ⟨0, Nat.zero_le _, by omega, rfl, hide (Below.refl _ _)⟩
            case round =>
              obtain ⟨i, hi, hgg, rfl, hBq⟩ := hrel
              by_cases hlt : i < j
              · have hltz : (i : Int) < (j : Int) := by omega
                have hc1 : ∀ (U : List Sp) (hU : U.length = j), ((U.map tkCells)[i]?.getD []) = tkCells (U[i]?.getD (0, 0)) := fun U hU => by
                  rw [map_at tkCells U i (by rw [hU]; exact hlt), show U[i]?.getD default = U[i]?.getD (0, 0) by rw [List.getElem?_eq_getElem (by rw [hU]; exact hlt)]; rfl]
                obtain ⟨b3, off3, y0, y1, rfl, hb3, hy, e0, e1⟩ := (hr8.out.below hBq.out).cells2 hlt
                rw [hc1 T hTl.out] at hy
                unfold tkCells at hy
                simp only [List.cons.injEq, and_true] at hy
                obtain ⟨rfl, rfl⟩ := hy
                obtain ⟨b4, off4, y0, y1, rfl, hb4, hy, e2, e3⟩ := (hm8.out.below hBq.out).cells2 hlt
                rw [hc1 T' hTl2.out] at hy
                unfold tkCells at hy
                simp only [List.cons.injEq, and_true] at hy
                obtain ⟨rfl, rfl⟩ := hy
                have hs := hTT.out.2 i
                unfold subS at hs
                generalize (T[i]?.getD (0, 0)).1 = l0 at *
                generalize (T[i]?.getD (0, 0)).2 = l1 at *
                generalize (T'[i]?.getD (0, 0)).1 = m0 at *
                generalize (T'[i]?.getD (0, 0)).2 = m1 at *
                have g1 : decide ((j : Int) ≤ (i : Int)) = false := decide_eq_false (by omega)
                have g2 : decide (m0 < l0) = false := decide_eq_false (by omega)
                have g3 : decide (l1 < m1) = false := decide_eq_false (by omega)
                replace hs := hide hs
                clear hc1
                go_wp2
                go_quiet (fail)
                have hB2 := hide (below_drewN hBq.out nq)
                clear e0 e1 e2 e3 g1 g2 g3
                go_wp2
                go_roundg (j - (i + 1))
                case measure => omega
                case rel => exact ⟨i + 1, by omega, by omega, by go_num, hB2⟩
              · have hltz : ¬ (i : Int) < (j : Int) := by omega
                obtain rfl : i = j := by omega
                have hBe := hide (hB.out.trans (hBq.out.mono hB.out.size))
                go_wp2_with fail
                refine (AwakeS _).mono ?_
                rintro e w9 ⟨rfl, hb⟩
                replace hBe := hide (hBe.out.trans (hb.mono hBe.out.size))
                clear hb
                go_wp2
                go_ret
                exact ⟨rfl, hBe.out⟩
        · have hmm := hmath.out R es hsub.out hall.out (.inl rfl)
          by_cases hn0 : 0 < n2
          · have hg1 : decide ((0 : Int) < (n2 : Int)) = true := decide_eq_true (by omega)
            have hg2 : decide ((m : Int) < 60) = false := decide_eq_false (by omega)
            clear hown5
            have hA2 := hAk.out w4 (some ⟨gR, 0, none⟩) Le j cR m le R es wk hB.out hRr.out (by unfold maxLen; omega) hre (by unfold maxLen; omega) hce2
            rcases hmm with hmm | ⟨T', hmm, hTT⟩
            · rw [hmm] at hA2
              unfold AfterR at hA2
              replace hA2 := hide hA2
              clear hmm hre hce2
              go_wp2_with fail
              refine hA2.out.mono ?_
              rintro e w8 ⟨⟨v8, rfl, hT8⟩, hb8⟩
              replace hB := hide (hB.out.trans (hb8.mono hB.out.size))
              obtain ⟨A8, c8, rfl, -, -⟩ := hT8
              simp only [Option.getD_none, List.length_nil]
              clear hb8 hA2 s0 s1 x2
              go_wp2_with fail
              refine (AwakeS _).mono ?_
              rintro e w9 ⟨rfl, hb⟩
              replace hB := hide (hB.out.trans (hb.mono hB.out.size))
              clear hb
              go_wp2
              go_ret
              exact ⟨rfl, hB.out⟩
            · rw [hmm] at hA2
              unfold AfterR at hA2
              replace hA2 := hide hA2
              have hTl2 : T'.length = j := by rw [hTT.1, hTl.out]
              replace hTT := hide hTT
              clear hmm hre hce2
              go_wp2_with fail
              refine hA2.out.mono ?_
              rintro e w8 ⟨⟨v8, rfl, hT8⟩, hb8⟩
              replace hB := hide (hB.out.trans (hb8.mono hB.out.size))
              have hr8 := hr3r.out.below hb8
              obtain ⟨A8, c8, rfl, hm8, -⟩ := hT8
              simp only [Option.getD_some] at hm8 ⊢
              rw [hTl2] at hm8 ⊢
              replace hm8 := hide hm8
              replace hr8 := hide hr8
              replace hTl2 := hide hTl2
              clear hb8 hA2 s0 s1 x2
              go_wp2
              go_loopg [15] j (fun gg s15 wq => ∃ i : Nat, i ≤ j ∧ j ≤ gg + i ∧ s15 = .int .i64 i ∧ Hid (Below w8.heap.size w8 wq))
              case atStart => exact ⟨0, Nat.zero_le _, by omega, rfl, hide (Below.refl _ _)⟩
              case round =>
                obtain ⟨i, hi, hgg, rfl, hBq⟩ := hrel
                by_cases hlt : i < j
                · have hltz : (i : Int) < (j : Int) := by omega
                  have hc1 : ∀ (U : List Sp) (hU : U.length = j), ((U.map tkCells)[i]?.getD []) = tkCells (U[i]?.getD (0, 0)) := fun U hU => by
                    rw [map_at tkCells U i (by rw [hU]; exact hlt), show U[i]?.getD default = U[i]?.getD (0, 0) by rw [List.getElem?_eq_getElem (by rw [hU]; exact hlt)]; rfl]
                  obtain ⟨b3, off3, y0, y1, rfl, hb3, hy, e0, e1⟩ := (hr8.out.below hBq.out).cells2 hlt
                  rw [hc1 T hTl.out] at hy
                  unfold tkCells at hy
                  simp only [List.cons.injEq, and_true] at hy
                  obtain ⟨rfl, rfl⟩ := hy
                  obtain ⟨b4, off4, y0, y1, rfl, hb4, hy, e2, e3⟩ := (hm8.out.below hBq.out).cells2 hlt
                  rw [hc1 T' hTl2.out] at hy
                  unfold tkCells at hy
                  simp only [List.cons.injEq, and_true] at hy
                  obtain ⟨rfl, rfl⟩ := hy
                  have hs := hTT.out.2 i
                  unfold subS at hs
                  generalize (T[i]?.getD (0, 0)).1 = l0 at *
                  generalize (T[i]?.getD (0, 0)).2 = l1 at *
                  generalize (T'[i]?.getD (0, 0)).1 = m0 at *
                  generalize (T'[i]?.getD (0, 0)).2 = m1 at *
                  have g1 : decide ((j : Int) ≤ (i : Int)) = false := decide_eq_false (by omega)
                  have g2 : decide (m0 < l0) = false := decide_eq_false (by omega)
                  have g3 : decide (l1 < m1) = false := decide_eq_false (by omega)
                  replace hs := hide hs
                  clear hc1
                  go_wp2
                  go_quiet (fail)
                  have hB2 := hide (below_drewN hBq.out nq)
                  clear e0 e1 e2 e3 g1 g2 g3
                  go_wp2
                  go_roundg (j - (i + 1))
                  case measure => omega
                  case rel => exact ⟨i + 1, by omega, by omega, by go_num, hB2⟩
                · have hltz : ¬ (i : Int) < (j : Int) := by omega
                  obtain rfl : i = j := by omega
                  have hBe := hide (hB.out.trans (hBq.out.mono hB.out.size))
                  go_wp2_with fail
                  refine (AwakeS _).mono ?_
                  rintro e w9 ⟨rfl, hb⟩
                  replace hBe := hide (hBe.out.trans (hb.mono hBe.out.size))
                  clear hb
                  go_wp2
                  go_ret
                  exact ⟨rfl, hBe.out⟩
          · obtain rfl : n2 = 0 := by omega
            clear hown5
            have hA2 := hAk.out w4 (some ⟨gR, 0, none⟩) Le j cR m le R es wk hB.out hRr.out (by unfold maxLen; omega) hre (by unfold maxLen; omega) hce2
            rcases hmm with hmm | ⟨T', hmm, hTT⟩
            · rw [hmm] at hA2
              unfold AfterR at hA2
              replace hA2 := hide hA2
              clear hmm hre hce2
              go_wp2_with fail
              refine hA2.out.mono ?_
              rintro e w8 ⟨⟨v8, rfl, hT8⟩, hb8⟩
              replace hB := hide (hB.out.trans (hb8.mono hB.out.size))
              obtain ⟨A8, c8, rfl, -, -⟩ := hT8
              simp only [Option.getD_none, List.length_nil]
              clear hb8 hA2 s0 s1 x2
              go_wp2_with fail
              refine (AwakeS _).mono ?_
              rintro e w9 ⟨rfl, hb⟩
              replace hB := hide (hB.out.trans (hb.mono hB.out.size))
              clear hb
              go_wp2
              go_ret
              exact ⟨rfl, hB.out⟩
            · rw [hmm] at hA2
              unfold AfterR at hA2
              replace hA2 := hide hA2
              have hTl2 : T'.length = j := by rw [hTT.1, hTl.out]
              replace hTT := hide hTT
              clear hmm hre hce2
              go_wp2_with fail
              refine hA2.out.mono ?_
              rintro e w8 ⟨⟨v8, rfl, hT8⟩, hb8⟩
              replace hB := hide (hB.out.trans (hb8.mono hB.out.size))
              have hr8 := hr3r.out.below hb8
              obtain ⟨A8, c8, rfl, hm8, -⟩ := hT8
              simp only [Option.getD_some] at hm8 ⊢
              rw [hTl2] at hm8 ⊢
              replace hm8 := hide hm8
              replace hr8 := hide hr8
              replace hTl2 := hide hTl2
              clear hb8 hA2 s0 s1 x2
              go_wp2
              go_loopg [15] j (fun gg s15 wq => ∃ i : Nat, i ≤ j ∧ j ≤ gg + i ∧ s15 = .int .i64 i ∧ Hid (Below w8.heap.size w8 wq))
              case atStart => exact ⟨0, Nat.zero_le _, by omega, rfl, hide (Below.refl _ _)⟩
              case round =>
                obtain ⟨i, hi, hgg, rfl, hBq⟩ := hrel
                by_cases hlt : i < j
                · have hltz : (i : Int) < (j : Int) := by omega
                  have hc1 : ∀ (U : List Sp) (hU : U.length = j), ((U.map tkCells)[i]?.getD []) = tkCells (U[i]?.getD (0, 0)) := fun U hU => by
                    rw [map_at tkCells U i (by rw [hU]; exact hlt), show U[i]?.getD default = U[i]?.getD (0, 0) by rw [List.getElem?_eq_getElem (by rw [hU]; exact hlt)]; rfl]
                  obtain ⟨b3, off3, y0, y1, rfl, hb3, hy, e0, e1⟩ := (hr8.out.below hBq.out).cells2 hlt
                  rw [hc1 T hTl.out] at hy
                  unfold tkCells at hy
                  simp only [List.cons.injEq, and_true] at hy
                  obtain ⟨rfl, rfl⟩ := hy
                  obtain ⟨b4, off4, y0, y1, rfl, hb4, hy, e2, e3⟩ := (hm8.out.below hBq.out).cells2 hlt
                  rw [hc1 T' hTl2.out] at hy
                  unfold tkCells at hy
                  simp only [List.cons.injEq, and_true] at hy
                  obtain ⟨rfl, rfl⟩ := hy
                  have hs := hTT.out.2 i
                  unfold subS at hs
                  generalize (T[i]?.getD (0, 0)).1 = l0 at *
                  generalize (T[i]?.getD (0, 0)).2 = l1 at *
                  generalize (T'[i]?.getD (0, 0)).1 = m0 at *
                  generalize (T'[i]?.getD (0, 0)).2 = m1 at *
                  have g1 : decide ((j : Int) ≤ (i : Int)) = false := decide_eq_false (by omega)
                  have g2 : decide (m0 < l0) = false := decide_eq_false (by omega)
                  have g3 : decide (l1 < m1) = false := decide_eq_false (by omega)
                  replace hs := hide hs
                  clear hc1
                  go_wp2
                  go_quiet (fail)
                  have hB2 := hide (below_drewN hBq.out nq)
                  clear e0 e1 e2 e3 g1 g2 g3
                  go_wp2
                  go_roundg (j - (i + 1))
                  case measure => omega
                  case rel => exact ⟨i + 1, by omega, by omega, by go_num, hB2⟩
                · have hltz : ¬ (i : Int) < (j : Int) := by omega
                  obtain rfl : i = j := by omega
                  have hBe := hide (hB.out.trans (hBq.out.mono hB.out.size))
                  go_wp2_with fail
                  refine (AwakeS _).mono ?_
                  rintro e w9 ⟨rfl, hb⟩
                  replace hBe := hide (hBe.out.trans (hb.mono hBe.out.size))
                  clear hb
                  go_wp2
                  go_ret
                  exact ⟨rfl, hBe.out⟩
end Go.Proofs.Ytkhijdbigpaagaa
