/-
  The law SkillEasier.
-/
import Derived.Test.YtkhijdbigpaagaaNea
import Derived.Test.YtkhijdbigpaagaaNl
import Derived.Test.YtkhijdbigpaagaaNda
import Derived.BigQuiet
import Derived.Deep.RegionLawGrows
namespace Go.Proofs.Ytkhijdbigpaagaa
open Go.RowKit RG

def OwnTk (base n : Nat) (T : List Sp) : Value → World → Prop := fun v w => ∃ g c, v = .slice (some ⟨g, 0, none⟩) n c ∧ base ≤ g ∧ n ≤ c ∧ TkAt w g T
theorem OwnTk.stb (base n : Nat) (T : List Sp) : Stb (OwnTk base n T) := fun _ _ _ hb ⟨g, c, e, h1, h2, h3⟩ => ⟨g, c, e, h1, h2, h3.below hb⟩
def AggTk (base n : Nat) (T : List Sp) (al : Int) : Value → World → Prop := fun v w => ∃ g c, v = .agg #[.slice (some ⟨g, 0, none⟩) n c, .int .i64 al] ∧ base ≤ g ∧ n ≤ c ∧ TkAt w g T
theorem AggTk.stb (base n : Nat) (T : List Sp) (al : Int) : Stb (AggTk base n T al) := fun _ _ _ hb ⟨g, c, e, h1, h2, h3⟩ => ⟨g, c, e, h1, h2, h3.below hb⟩
def NewTst (B : Nat) : Value → World → Prop := fun v u => ∃ p, v = .pointer (some ⟨p, 0, none⟩) ∧ B ≤ p ∧ Blk u p 48 #[.slice none 0 0, .int .i64 0]
theorem NewTst.stb (B : Nat) : Stb (NewTst B) := fun _ _ _ hb ⟨p, e, h1, h2⟩ => ⟨p, e, h1, h2.below hb h2.lt⟩

set_option maxRecDepth 100000 in
set_option maxHeartbeats 4000000 in
theorem SkillEasier_any (v : Value) (S : Sch) (B L : Option Addr) (m cb k cl : Nat) (ts : List (Int × Int)) (al : Int) (ls : List Int) (wh d : Int) (w : World) (h : RdSch w v S) (ht : RdRow w B m 2 (ts.map tkCells)) (hm : m ≤ maxLen) (hin : RdInts w L k ls) (hk : k ≤ maxLen) (hwh : 0 ≤ wh ∧ wh ≤ 255) (hd : 0 ≤ d ∧ d ≤ 65535) :
    Calls Try.prog 15 #[v, .agg #[.slice B m cb, .int .i64 al], .agg #[.slice L k cl, .int .u8 wh, .int .u16 d]] w fun e w' => e = .returned (.bool true) ∧ Below w.heap.size w w' := by
  have hCk := hide (fun W (B' L' : Option Addr) (m' cb' k' cl' : Nat) (ts' : List (Int × Int)) (al' : Int) (ls' : List Int) (hb : Below w.heap.size w W) (h2 : RdRow W B' m' 2 (ts'.map tkCells)) (h3 : m' ≤ maxLen) (h4 : RdInts W L' k' ls') (h5 : k' ≤ maxLen) => Chance_any v S B' L' m' cb' k' cl' ts' al' ls' W (h.below hb) h2 h3 h4 h5)
  have hV := hide (fun W (hb : Below w.heap.size w W) => valid_any v S W (h.below hb))
  have htl : ts.length = m := by have := ht.1; simpa using this
  have hll : ls.length = k := hin.1
  have htB := hide (fun W (hb : Below w.heap.size w W) => ht.below hb)
  have hlB := hide (fun W (hb : Below w.heap.size w W) => hin.below hb)
  have hC1 := hide (fun W (hb : Below w.heap.size w W) => hCk.out W B L m cb k cl ts al ls hb (ht.below hb) hm (hin.below hb) hk)
  obtain ⟨A, c, A2, c2, rfl, -⟩ := h
  have hbad := fun h => chance_bad (S := S) (ts := ts) (al := al) (ls := ls) h
  have hpar := fun h => chance_parts (S := S) (ts := ts) (al := al) (ls := ls) h
  have hmath := fun (a b : Nat) (e : Int) (h : (chanceF S ts al ls).2 = 0) h1 h2 h3 h4 => easy_math (S := S) (ts := ts) (al := al) (ls := ls) (k := a) (i := b) (d := d) (e := e) h h1 h2 h3 h4
  obtain ⟨q, hq⟩ : ∃ q, chanceF S ts al ls = q := ⟨_, rfl⟩
  rw [hq] at hC1 hbad hpar hmath
  obtain ⟨q0, q1⟩ := q
  simp only at hC1 hbad hpar hmath
  clear ht hin
  replace hq := hide hq
  replace hbad := hide hbad
  replace hpar := hide hpar
  replace hmath := hide hmath
  obtain ⟨n1, hn1⟩ : ∃ n, S.sks.length = n := ⟨_, rfl⟩
  rw [hn1] at hC1 hCk hV ⊢
  generalize S.ins.length = n2 at *
  replace hn1 := hide hn1
  replace htl := hide htl
  replace hll := hide hll
  obtain ⟨W0, hW0⟩ : ∃ W0, ((w.alloc (.cells #[.slice A n1 c, .slice A2 n2 c2] 25)).alloc (.cells #[.slice B m cb, .int .i64 al] 48)).alloc (.cells #[.slice L k cl, .int .u8 wh, .int .u16 d] 98) = W0 := ⟨_, rfl⟩
  have kS := hide (show Blk W0 w.heap.size 25 #[.slice A n1 c, .slice A2 n2 c2] by rw [← hW0]; exact ((blkNew rfl).alloc _).alloc _)
  have kT := hide (show Blk W0 (w.heap.size + 1) 48 #[.slice B m cb, .int .i64 al] by rw [← hW0]; exact (blkNew (by simp)).alloc _)
  have kX := hide (show Blk W0 (w.heap.size + 2) 98 #[.slice L k cl, .int .u8 wh, .int .u16 d] by rw [← hW0]; exact blkNew (by simp +arith))
  have hB := hide (show Below w.heap.size w W0 by rw [← hW0]; exact (((Below.refl _ _).alloc (Nat.le_refl _) _).alloc (by simp) _).alloc (by simp +arith) _)
  have s0 : W0.cell? ⟨w.heap.size, 0, none⟩ = some (.slice A n1 c) := kS.out.cell 0
  have s1 : W0.cell? ⟨w.heap.size, 1, none⟩ = some (.slice A2 n2 c2) := kS.out.cell 1
  have t0 : W0.cell? ⟨w.heap.size + 1, 0, none⟩ = some (.slice B m cb) := kT.out.cell 0
  have t1 : W0.cell? ⟨w.heap.size + 1, 1, none⟩ = some (.int .i64 al) := kT.out.cell 1
  have x0 : W0.cell? ⟨w.heap.size + 2, 0, none⟩ = some (.slice L k cl) := kX.out.cell 0
  rw [← hW0] at s0 s1 t0 t1 x0
  replace hW0 := hide hW0
  go_enter Try.func15, Try.ntmps15
  go_wp2_with fail
  rw [hW0.out]
  refine (hC1.out _ hB.out).mono ?_
  rintro e w1 ⟨rfl, hb⟩
  replace kS := hide (kS.out.below hb kS.out.lt)
  replace kT := hide (kT.out.below hb kT.out.lt)
  replace kX := hide (kX.out.below hb kX.out.lt)
  replace hB := hide (hB.out.trans (hb.mono hB.out.size))
  clear hb s0 s1 t0 t1 x0 hC1 hW0
  have s0 : w1.cell? ⟨w.heap.size, 0, none⟩ = some (.slice A n1 c) := kS.out.cell 0
  have s1 : w1.cell? ⟨w.heap.size, 1, none⟩ = some (.slice A2 n2 c2) := kS.out.cell 1
  by_cases h0 : q1 = 0
  · subst h0
    obtain ⟨hte, hlen, hall⟩ := hpar.out rfl
    have hpall : ∀ j, j < k → 0 ≤ ls[j]?.getD 0 ∧ ls[j]?.getD 0 ≤ 1000 := fun j hj => by
      rw [List.getElem?_eq_getElem (show j < ls.length by rw [hll.out]; exact hj)]
      exact inB_iff.1 (List.all_eq_true.1 hall _ (List.getElem_mem _))
    have htall : ∀ j, j < m → 0 ≤ (ts[j]?.getD (0, 0)).2 ∧ (ts[j]?.getD (0, 0)).2 ≤ 1000 := fun j hj => by
      have h2 := (test_parts hte).2.2.2 j (by rw [htl.out]; exact hj)
      unfold taskE at h2
      split at h2
      · split at h2
        · rename_i h3; exact inB_iff.1 h3
        · simp at h2
      · simp at h2
    have hal := (test_parts hte).2.2.1
    rw [htl.out] at hal
    replace hpall := hide hpall
    replace htall := hide htall
    obtain ⟨hck, hm16, -, -⟩ := test_parts hte
    rw [htl.out] at hm16
    rw [hll.out, hn1.out] at hlen
    obtain rfl : k = n1 := hlen
    have hck1 : ((checkS S).2.2 == 0) = true := by rw [beq_iff_eq]; exact hck
    have hk15 : 1 ≤ k ∧ k ≤ 5 := by have h1 := (check_ok hck).1; have h2 := (check_ok hck).2.1; rw [hn1.out] at h1 h2; exact ⟨h1, h2⟩
    rw [hck1] at hV
    have bm : ((m : Int) == 0) = false := by rw [beq_eq_false_iff_ne]; omega
    have bk : ((k : Int) != (k : Int)) = false := by simp
    clear hte hck hck1 hbad hpar hall
    go_wp2_with fail
    refine (hV.out _ hB.out).mono ?_
    rintro e w2 ⟨rfl, hb⟩
    replace kS := hide (kS.out.below hb kS.out.lt)
    replace kT := hide (kT.out.below hb kT.out.lt)
    replace kX := hide (kX.out.below hb kX.out.lt)
    replace hB := hide (hB.out.trans (hb.mono hB.out.size))
    clear hb s0 s1 hV
    have hzw2 : w.heap.size + 2 < w2.heap.size := kX.out.lt
    have s0 : w2.cell? ⟨w.heap.size, 0, none⟩ = some (.slice A k c) := kS.out.cell 0
    have t0 : w2.cell? ⟨w.heap.size + 1, 0, none⟩ = some (.slice B m cb) := kT.out.cell 0
    have x0 : w2.cell? ⟨w.heap.size + 2, 0, none⟩ = some (.slice L k cl) := kX.out.cell 0
    have x0' : (w2.alloc (.cells #[] 3)).cell? ⟨w.heap.size + 2, 0, none⟩ = some (.slice L k cl) := (kX.out.alloc _).cell 0
    obtain ⟨i0, hi0, hz0, hz1, hz2⟩ := info_parts infoInt
    replace hi0 := hide hi0
    replace hz0 := hide hz0
    replace hz1 := hide hz1
    replace hz2 := hide hz2
    obtain ⟨b, off, rfl, hb0, hc0⟩ := (hlB.out w2 hB.out).2 (by omega)
    replace hc0 := hide hc0
    go_wp2_with (at_builtin; refine wpList_append_own _ rfl _ _ 49 rfl w2.heap.size 3 i0 (.int .i64 0) 1 8 Try.underlying49 hi0.out hz0.out hz1.out hz2.out rfl (by decide) _ _ _ rfl (World.ownsRow_made w2 #[] 0 (Nat.le_refl _) (Nat.zero_le _) rfl) ⟨b, off, none⟩ k cl (ls.map (Value.int .i64)) rfl ?qc1 ?qc2 ?qc3 ?qc4 ?qc5 ?qc6 ?_)
    case qc1 => rw [List.length_map, hll.out]; omega
    case qc2 =>
      intro j u hj
      have hjk : j < k := by have := (List.getElem?_eq_some_iff.1 hj).1; rw [List.length_map, hll.out] at this; exact this
      rw [Addr.add_lit]
      refine Lib.cell?_alloc_some _ ?_
      rw [hc0.out j hjk]
      rw [List.getElem?_map, List.getElem?_eq_getElem (by rw [hll.out]; exact hjk)] at hj
      rw [List.getElem?_eq_getElem (by rw [hll.out]; exact hjk)]
      simpa using hj
    case qc3 => intro u hu; obtain ⟨x, _, rfl⟩ := List.mem_map.1 hu; rfl
    case qc4 => unfold maxLen; omega
    case qc5 => omega
    case qc6 => simp
    intro v' w3 hown hgrow _
    have hown2 : w3.ownsRow w2.heap.size 3 1 v' k (ls.map (Value.int .i64)) := by simpa using hown
    have hb3 := hide (((Below.refl w2.heap.size w2).alloc (Nat.le_refl _) (.cells #[] 3)).grown hgrow (by simp) (by intro k hk; simp [Value.ownBlock] at hk; omega))
    obtain ⟨g, cg, rfl, hg1, hg2, hI⟩ := inAt_own hown2 hll.out hk15.1
    replace kS := hide (kS.out.below hb3.out kS.out.lt)
    replace kT := hide (kT.out.below hb3.out kT.out.lt)
    replace kX := hide (kX.out.below hb3.out kX.out.lt)
    have hs2 := hB.out.size
    replace hB := hide (hB.out.trans (hb3.out.mono hB.out.size))
    clear hown hown2 hgrow s0 t0 x0 x0' hb3 hc0 hb0
    have hkz : (0 : Int) < (k : Int) := by omega
    have hmz : (0 : Int) < (m : Int) := by omega
    obtain ⟨kk, hkk⟩ : ∃ i : Nat, wh.tmod (k : Int) = i := ⟨(wh.tmod k).toNat, by rw [Int.toNat_of_nonneg (Int.tmod_nonneg _ hwh.1)]⟩
    have hkb : (kk : Int) < (k : Int) := by rw [← hkk]; exact Int.tmod_lt_of_pos _ hkz
    obtain ⟨i, hi⟩ : ∃ i : Nat, wh.tmod (m : Int) = i := ⟨(wh.tmod m).toNat, by rw [Int.toNat_of_nonneg (Int.tmod_nonneg _ hwh.1)]⟩
    have hib : (i : Int) < (m : Int) := by rw [← hi]; exact Int.tmod_lt_of_pos _ hmz
    have he0 : 0 ≤ d.tmod 3 := Int.tmod_nonneg _ hd.1
    have he3 : d.tmod 3 < 3 := Int.tmod_lt_of_pos _ (by decide)
    obtain ⟨n0, a, bb, cc, hn0, ha, hbb, hcc, hna, hbn, hnc⟩ := hmath.out kk i (d.tmod 3) (by first | rfl | trivial) (by rw [hll.out]; omega) (by rw [htl.out]; omega) hd.1 he0
    have hn0' : q0 = n0 := congrArg Prod.fst hn0
    subst hn0'
    rw [htl.out] at hcc
    have hIc := hI.cell (i := kk) (by rw [hll.out]; omega)
    have hkm : -9223372036854775808 ≤ ls[kk]?.getD 0 ∧ ls[kk]?.getD 0 ≤ 1000 := by
      have := hpall.out kk (by omega)
      omega
    have hw1 : IntKind.i64.wrap wh = wh := by rw [IntKind.wrap_i64]; omega
    have x1 : w3.cell? ⟨w.heap.size + 2, 1, none⟩ = some (.int .u8 wh) := kX.out.cell 1
    have t0 : w3.cell? ⟨w.heap.size + 1, 0, none⟩ = some (.slice B m cb) := kT.out.cell 0
    replace hmath := hide True.intro
    go_wp2
    go_quiet (fail)
    have hB4 := hide (below_drewN hB.out nq)
    replace kS := hide (Blk.drewN kS.out nq)
    replace kT := hide (Blk.drewN kT.out nq)
    replace kX := hide (Blk.drewN kX.out nq)
    replace hI := hide (hI.below (show Below w3.heap.size w3 (w3.drewN nq) from below_drewN (Below.refl _ _) nq))
    have hs4 := hB4.out.size
    have hbase := hide (show w2.heap.size ≤ (w3.drewN nq).heap.size from by have := hI.out.lt; omega)
    clear x1 t0 hB hkz hmz
    replace hkk := hide hkk
    replace hi := hide hi
    generalize w3.drewN nq = w4 at *
    clear hIc
    have hIc := (hI.out.cell (i := kk) (by rw [hll.out]; omega)).1
    have hIf := (hI.out.cell (i := kk) (by rw [hll.out]; omega)).2
    obtain ⟨lk, hlk⟩ : ∃ x, ls[kk]?.getD 0 = x := ⟨_, rfl⟩
    obtain ⟨ti, hti⟩ : ∃ x, (ts[i]?.getD (0, 0)).2 = x := ⟨_, rfl⟩
    have hti2 := htall.out i (by omega)
    rw [hlk] at hIc hkm ha
    rw [hti] at hbb hti2
    obtain ⟨X, hX⟩ : ∃ x, min 1000 (lk + d) = x := ⟨_, rfl⟩
    obtain ⟨Y, hY⟩ : ∃ x, min 1000 (ti + d) = x := ⟨_, rfl⟩
    rw [hX] at ha
    rw [hY] at hbb
    have hkm2 := hpall.out kk (by omega)
    rw [hlk] at hkm2
    have hw2 : IntKind.i64.wrap d = d := by rw [IntKind.wrap_i64]; omega
    have hw3 : IntKind.i64.wrap (lk + d) = lk + d := by rw [IntKind.wrap_i64]; omega
    have hw4 : IntKind.i64.wrap (ti + d) = ti + d := by rw [IntKind.wrap_i64]; omega
    have hI2 := hide (hI.out.set (i := kk) (x := X))
    replace hlk := hide hlk
    replace hti := hide hti
    replace hn0 := hide hn0
    replace ha := hide ha
    replace hbb := hide hbb
    replace hcc := hide hcc
    replace hY := hide hY
    have hgw : w.heap.size ≤ g := by omega
    have hgl := hI.out.lt
    have hzS := kS.out.lt
    have hzT := kT.out.lt
    have hzX := kX.out.lt
    go_wp2
    refine region_grow_tail 12 [IsV (.slice (some ⟨g, 0, none⟩) k cg), IsV (.int .i64 kk), IsV (.slice (some ⟨g, 0, none⟩) k cg), IsV (.int .i64 kk), IsV (.pointer (some ⟨g, kk, none⟩)), IsV (.int .i64 lk), IsV (.pointer (some ⟨w.heap.size + 2, 2, none⟩)), IsV (.int .u16 d), IsV (.int .i64 d), IsV (.int .i64 (lk + d)), IsV (.int .i64 X), IsV (.pointer (some ⟨g, kk, none⟩))] (by kernel_rfl) (by kernel_rfl) rfl ?_ ?_ ?_
    · simp [AllStb, IsV.stb]
    · refine ⟨?_, ?_, ?_, ?_, ?_, ?_, ?_, ?_, ?_, ?_, ?_, ?_, trivial⟩
      all_goals
        intro y w6 K Qq Cv hC hd hV
        have q0 := (cellB (o := kk) hC hgl).trans hIc
        have q1 : w6.cell? ⟨w.heap.size + 2, 2, none⟩ = some (.int .u16 d) := (kX.out.below hC hzX).cell 2
      all_goals try (simp [deps, VL, IsV, Region.binds] at hd)
      all_goals simp only [List.take_succ_cons, List.take_zero, putAll, Act.put]
      all_goals (go_simp; intro hK)
      all_goals exact hK _ _ (hV _ _ hC (Below.refl _ _) rfl)
    intro y w5 hC hd
    simp [EndsL, IsV] at hd
    obtain ⟨d0, d1, d2, d3, d4, d5, d6, d7, d8, d9, d10, d11⟩ := hd
    simp only [List.take_succ_cons, List.take_zero, List.drop_succ_cons, List.drop_zero, putAll, Act.put]
    rw [d10, d11]
    clear d0 d1 d2 d3 d4 d5 d6 d7 d8 d9 d10 d11
    simp only [List.setIfInBounds_toArray, List.set_cons_succ, List.set_cons_zero]
    have hI5 := hI.out.below hC
    have hIc5 := (hI5.cell (i := kk) (by rw [hll.out]; omega)).1
    have hIf5 := (hI5.cell (i := kk) (by rw [hll.out]; omega)).2
    have uS : w.heap.size ≠ g := by omega
    have uT : w.heap.size + 1 ≠ g := by omega
    have uX : w.heap.size + 2 ≠ g := by omega
    have kS6 := hide ((kS.out.below hC hzS).far (p := ⟨g, kk, none⟩) uS (.int .i64 X))
    have kT6 := hide ((kT.out.below hC hzT).far (p := ⟨g, kk, none⟩) uT (.int .i64 X))
    have kX6 := hide ((kX.out.below hC hzX).far (p := ⟨g, kk, none⟩) uX (.int .i64 X))
    have hI6 := hide (hI5.set (i := kk) (x := X))
    have hB6 := hide ((hB4.out.trans (hC.mono hB4.out.size)).setCell (p := ⟨g, kk, none⟩) hgw (.int .i64 X))
    have s0 : (w5.setCell ⟨g, kk, none⟩ (.int .i64 X)).cell? ⟨w.heap.size, 0, none⟩ = some (.slice A k c) := kS6.out.cell 0
    have s1 : (w5.setCell ⟨g, kk, none⟩ (.int .i64 X)).cell? ⟨w.heap.size, 1, none⟩ = some (.slice A2 n2 c2) := kS6.out.cell 1
    have t0 : (w5.setCell ⟨g, kk, none⟩ (.int .i64 X)).cell? ⟨w.heap.size + 1, 0, none⟩ = some (.slice B m cb) := kT6.out.cell 0
    have t1 : (w5.setCell ⟨g, kk, none⟩ (.int .i64 X)).cell? ⟨w.heap.size + 1, 1, none⟩ = some (.int .i64 al) := kT6.out.cell 1
    have hrow := hI6.out.row
    rw [List.length_set, hll.out] at hrow
    have hC2 := hCk.out _ B (some ⟨g, 0, none⟩) m cb k cg ts al (ls.set kk X) hB6.out (htB.out _ hB6.out) hm hrow hk
    rw [ha.out] at hC2
    simp only at hC2
    replace hC2 := hide hC2
    clear hC hI hI2 hI5 kS kT kX hB4 hIc hIf hrow uS uT uX
    go_wp2_with fail
    refine hC2.out.mono ?_
    rintro e w7 ⟨rfl, hb⟩
    replace kS6 := hide (kS6.out.below hb kS6.out.lt)
    replace kT6 := hide (kT6.out.below hb kT6.out.lt)
    replace kX6 := hide (kX6.out.below hb kX6.out.lt)
    replace hB6 := hide (hB6.out.trans (hb.mono hB6.out.size))
    clear hb s0 s1 t0 t1 hC2 hIc5 hIf5 hI6
    have hs7 := hB6.out.size
    obtain ⟨tb, toff, rfl, htb, htc⟩ := (htB.out w7 hB6.out).2.2 (by omega)
    have htb7 := hide htb
    replace htc := hide htc
    have hfl := hide (flatTk_len ts)
    have hfa := hide (flatTk_back ts)
    have hone := hide (tkOne ts)
    obtain ⟨xs, hxs⟩ : ∃ xs, ts.flatMap tkCells = xs := ⟨_, rfl⟩
    rw [hxs] at hfl hfa hone
    replace hxs := hide hxs
    obtain ⟨i1, hj0, hj1, hj2, hj3⟩ := info_parts infoTk
    replace hj0 := hide hj0
    replace hj1 := hide hj1
    replace hj2 := hide hj2
    replace hj3 := hide hj3
    have hzS := kS6.out.lt
    have hzT := kT6.out.lt
    have hzX := kX6.out.lt
    go_wp2
    refine region_grow_tail 8 [(fun v _ => ∃ a, v = .slice (some a) 0 0), IsV (.pointer (some ⟨w.heap.size + 1, 0, none⟩)), IsV (.slice (some ⟨tb, toff, none⟩) m cb), OwnTk w7.heap.size m ts, IsV (.pointer (some ⟨w.heap.size + 1, 1, none⟩)), IsV (.int .i64 al), AggTk w7.heap.size m ts al, NewTst w7.heap.size] (by kernel_rfl) (by kernel_rfl) rfl ?_ ?_ ?_
    · simp only [AllStb, IsV.stb, OwnTk.stb, AggTk.stb, NewTst.stb, and_true]
      exact fun _ _ _ _ h => h
    · refine ⟨?_, ?_, ?_, ?_, ?_, ?_, ?_, ?_, trivial⟩
      all_goals
        intro y w8 K Qq Cv hC hd hV
        have q0 : w8.cell? ⟨w.heap.size + 1, 0, none⟩ = some (.slice (some ⟨tb, toff, none⟩) m cb) := (kT6.out.below hC hzT).cell 0
        have q1 : w8.cell? ⟨w.heap.size + 1, 1, none⟩ = some (.int .i64 al) := (kT6.out.below hC hzT).cell 1
      all_goals try (simp [deps, VL, IsV, Region.binds] at hd)
      · simp only [List.take_succ_cons, List.take_zero, putAll, Act.put]; go_simp; intro hK; exact hK _ _ (hV _ _ (hC.alloc hC.size _) ((Below.refl _ _).alloc (Nat.le_refl _) _) ⟨_, rfl⟩)
      · simp only [List.take_succ_cons, List.take_zero, putAll, Act.put]; go_simp; intro hK; exact hK _ _ (hV _ _ hC (Below.refl _ _) rfl)
      · simp only [List.take_succ_cons, List.take_zero, putAll, Act.put]; go_simp; intro hK; exact hK _ _ (hV _ _ hC (Below.refl _ _) rfl)
      · obtain ⟨⟨a, e2⟩, e4⟩ := hd
        intro hK
        refine step_append_grows rfl (.tmp 95) (.tmp 97) 46 rfl 100 i1 _ 2 16 Try.underlying46 hj0.out hj1.out hj2.out hj3.out rfl (by decide) (some a) 0 0 [] (by simp only [List.take_succ_cons, List.take_zero, putAll, Act.put]; go_simp; try exact e2) (by simp) rfl (by simp) ⟨tb, toff, none⟩ m cb xs (by simp only [List.take_succ_cons, List.take_zero, putAll, Act.put]; go_simp; try exact e4) ?n1 ?n2 hone.out (by omega) ?n3 ?n4 ?_
        case n1 => rw [hfl.out, htl.out]
        case n2 =>
          intro j u hj
          have hx := hfa.out j u hj
          rw [Addr.add_lit]
          have := htc.out (j / 2) (j % 2) u hx
          rw [show toff + j / 2 * 2 + j % 2 = toff + j by omega] at this
          exact (cellB hC htb7.out).trans this
        case n3 => unfold maxLen; omega
        case n4 => omega
        intro v' w' hown hgrow
        rw [Nat.zero_add, List.nil_append, ← hxs.out] at hown
        have hb7 : Below w8.heap.size w8 w' := (Below.refl _ w8).grown hgrow (Nat.le_refl _) (by intro k hk; cases hk)
        obtain ⟨g2, gc, e5, h5, h6, h7⟩ := tkAt_own hown htl.out (by omega)
        exact hK _ _ (hV _ _ (hC.trans (hb7.mono hC.size)) hb7 ⟨g2, gc, e5, by have := hC.size; omega, h6, h7⟩)
      · simp only [List.take_succ_cons, List.take_zero, putAll, Act.put]; go_simp; intro hK; exact hK _ _ (hV _ _ hC (Below.refl _ _) rfl)
      · simp only [List.take_succ_cons, List.take_zero, putAll, Act.put]; go_simp; intro hK; exact hK _ _ (hV _ _ hC (Below.refl _ _) rfl)
      · obtain ⟨⟨g2, gc, e5, h5, h6, h7⟩, e6⟩ := hd
        simp only [List.take_succ_cons, List.take_zero, putAll, Act.put]; go_simp; intro hK; exact hK _ _ (hV _ _ hC (Below.refl _ _) ⟨g2, gc, rfl, h5, h6, h7⟩)
      · simp only [List.take_succ_cons, List.take_zero, putAll, Act.put]; go_simp; intro hK; exact hK _ _ (hV _ _ (hC.alloc hC.size _) ((Below.refl _ _).alloc (Nat.le_refl _) _) ⟨_, rfl, hC.size, blkNew rfl⟩)
    intro y w8 hC hd
    simp [EndsL, IsV] at hd
    obtain ⟨d0, d1, d2, d3, d4, d5, ⟨g2, gc, d6, hg3, hg4, hTk⟩, ⟨pT, d7, hp1, hpk⟩⟩ := hd
    simp only [List.take_succ_cons, List.take_zero, List.drop_succ_cons, List.drop_zero, putAll, Act.put]
    rw [d6, d7]
    clear d0 d1 d2 d3 d4 d5 d6 d7
    simp only [List.setIfInBounds_toArray, List.set_cons_succ, List.set_cons_zero]
    obtain ⟨cur, hgb, _⟩ := id hTk
    have npg : pT ≠ g2 := hpk.ne_ hgb (by decide)
    clear hgb
    have v0 : w8.cell? ⟨pT, 0, none⟩ = some (.slice none 0 0) := hpk.cell 0
    have v1 : w8.cell? ⟨pT, 1, none⟩ = some (.int .i64 0) := hpk.cell 1
    have v2 : w8.frozen? ⟨pT, 0, none⟩ = false := hpk.frozen 0
    have v3 : w8.frozen? ⟨pT, 1, none⟩ = false := hpk.frozen 1
    have uS : w.heap.size ≠ pT := by omega
    have uT : w.heap.size + 1 ≠ pT := by omega
    have uX : w.heap.size + 2 ≠ pT := by omega
    have hpw : w.heap.size ≤ pT := by omega
    have hgw2 : w.heap.size ≤ g2 := by omega
    obtain ⟨W, hW⟩ : ∃ W, (w8.setCell ⟨pT, 0, none⟩ (.slice (some ⟨g2, 0, none⟩) m gc)).setCell ⟨pT, 0 + 1, none⟩ (.int .i64 al) = W := ⟨_, rfl⟩
    have kP := hide (show Blk W pT 48 #[.slice (some ⟨g2, 0, none⟩) m gc, .int .i64 al] by
      rw [← hW]
      have := (hpk.set_ 0 (.slice (some ⟨g2, 0, none⟩) m gc)).set_ 1 (.int .i64 al)
      simpa using this)
    have hTk1 := hide (show TkAt W g2 ts by rw [← hW]; exact (hTk.far (p := ⟨pT, 0, none⟩) (Ne.symm npg) _).far (p := ⟨pT, 0 + 1, none⟩) (Ne.symm npg) _)
    have kS7 := hide (show Blk W w.heap.size 25 #[.slice A k c, .slice A2 n2 c2] by rw [← hW]; exact ((kS6.out.below hC hzS).far (p := ⟨pT, 0, none⟩) uS _).far (p := ⟨pT, 0 + 1, none⟩) uS _)
    have kT7 := hide (show Blk W (w.heap.size + 1) 48 #[.slice (some ⟨tb, toff, none⟩) m cb, .int .i64 al] by rw [← hW]; exact ((kT6.out.below hC hzT).far (p := ⟨pT, 0, none⟩) uT _).far (p := ⟨pT, 0 + 1, none⟩) uT _)
    have kX7 := hide (show Blk W (w.heap.size + 2) 98 #[.slice (some ⟨b, off, none⟩) k cl, .int .u8 wh, .int .u16 d] by rw [← hW]; exact ((kX6.out.below hC hzX).far (p := ⟨pT, 0, none⟩) uX _).far (p := ⟨pT, 0 + 1, none⟩) uX _)
    have hB7 := hide (show Below w.heap.size w W by rw [← hW]; exact ((hB6.out.trans (hC.mono hB6.out.size)).setCell (p := ⟨pT, 0, none⟩) hpw _).setCell (p := ⟨pT, 0 + 1, none⟩) hpw _)
    replace hW := hide hW
    clear hC hpk hTk kS6 kT6 kX6 hB6 htc hfl hfa hone hxs htb htb7
    go_wp2
    rw [show (w8.setCell ⟨pT, 0, none⟩ (.slice (some ⟨g2, 0, none⟩) m gc)).setCell ⟨pT, 1, none⟩ (.int .i64 al) = W from hW.out]
    clear v0 v1 v2 v3 hW
    have hzP := kP.out.lt
    have hzg := hTk1.out.lt
    have hzX7 := kX7.out.lt
    have htc1 := (hTk1.out.cells (i := i) (by rw [htl.out]; omega)).2.1
    rw [hti.out] at htc1
    have hY' := hY.out
    refine region_grow_tail 16 [IsV (.pointer (some ⟨pT, 0, none⟩)), IsV (.slice (some ⟨g2, 0, none⟩) m gc), IsV (.int .i64 i), IsV (.pointer (some ⟨pT, 0, none⟩)), IsV (.slice (some ⟨g2, 0, none⟩) m gc), IsV (.int .i64 i), IsV (.pointer (some ⟨g2, i * 2, none⟩)), IsV (.pointer (some ⟨g2, i * 2 + 1, none⟩)), IsV (.int .i64 ti), IsV (.pointer (some ⟨w.heap.size + 2, 2, none⟩)), IsV (.int .u16 d), IsV (.int .i64 d), IsV (.int .i64 (ti + d)), IsV (.int .i64 Y), IsV (.pointer (some ⟨g2, i * 2, none⟩)), IsV (.pointer (some ⟨g2, i * 2 + 1, none⟩))] (by kernel_rfl) (by kernel_rfl) rfl ?_ ?_ ?_
    · simp [AllStb, IsV.stb]
    · refine ⟨?_, ?_, ?_, ?_, ?_, ?_, ?_, ?_, ?_, ?_, ?_, ?_, ?_, ?_, ?_, ?_, trivial⟩
      all_goals
        intro y w9 K Qq Cv hC hd hV
        have q0 := (cellB (o := i * 2 + 1) hC hzg).trans htc1
        have q1 : w9.cell? ⟨w.heap.size + 2, 2, none⟩ = some (.int .u16 d) := (kX7.out.below hC hzX7).cell 2
        have q2 : w9.cell? ⟨pT, 0, none⟩ = some (.slice (some ⟨g2, 0, none⟩) m gc) := (kP.out.below hC hzP).cell 0
      all_goals try (simp [deps, VL, IsV, Region.binds] at hd)
      all_goals simp only [List.take_succ_cons, List.take_zero, putAll, Act.put]
      all_goals (go_simp; intro hK)
      all_goals exact hK _ _ (hV _ _ hC (Below.refl _ _) rfl)
    intro y w9 hC hd
    simp [EndsL, IsV] at hd
    obtain ⟨d0, d1, d2, d3, d4, d5, d6, d7, d8, d9, d10, d11, d12, d13, d14, d15⟩ := hd
    simp only [List.take_succ_cons, List.take_zero, List.drop_succ_cons, List.drop_zero, putAll, Act.put]
    rw [d13, d15]
    clear d0 d1 d2 d3 d4 d5 d6 d7 d8 d9 d10 d11 d12 d13 d14 d15
    simp only [List.setIfInBounds_toArray, List.set_cons_succ, List.set_cons_zero]
    have hTk9 := hTk1.out.below hC
    obtain ⟨z0, z1, z2, z3⟩ := hTk9.cells (i := i) (by rw [htl.out]; omega)
    have uS2 : w.heap.size ≠ g2 := by omega
    have uT2 : w.heap.size + 1 ≠ g2 := by omega
    have uX2 : w.heap.size + 2 ≠ g2 := by omega
    have kS8 := hide ((kS7.out.below hC kS7.out.lt).far (p := ⟨g2, i * 2 + 1, none⟩) uS2 (.int .i64 Y))
    have kT8 := hide ((kT7.out.below hC kT7.out.lt).far (p := ⟨g2, i * 2 + 1, none⟩) uT2 (.int .i64 Y))
    have kX8 := hide ((kX7.out.below hC hzX7).far (p := ⟨g2, i * 2 + 1, none⟩) uX2 (.int .i64 Y))
    have kP8 := hide ((kP.out.below hC hzP).far (p := ⟨g2, i * 2 + 1, none⟩) npg (.int .i64 Y))
    have hTk2 := hide (hTk9.set1 (i := i) (y := Y) (by rw [htl.out]; omega))
    have hB8 := hide ((hB7.out.trans (hC.mono hB7.out.size)).setCell (p := ⟨g2, i * 2 + 1, none⟩) hgw2 (.int .i64 Y))
    clear hC hTk9 z0 z2 hTk1 kS7 kT7 kX7 kP hB7 htc1
    have s0 : (w9.setCell ⟨g2, i * 2 + 1, none⟩ (.int .i64 Y)).cell? ⟨w.heap.size, 0, none⟩ = some (.slice A k c) := kS8.out.cell 0
    have s1 : (w9.setCell ⟨g2, i * 2 + 1, none⟩ (.int .i64 Y)).cell? ⟨w.heap.size, 1, none⟩ = some (.slice A2 n2 c2) := kS8.out.cell 1
    have p0 : (w9.setCell ⟨g2, i * 2 + 1, none⟩ (.int .i64 Y)).cell? ⟨pT, 0, none⟩ = some (.slice (some ⟨g2, 0, none⟩) m gc) := kP8.out.cell 0
    have p1 : (w9.setCell ⟨g2, i * 2 + 1, none⟩ (.int .i64 Y)).cell? ⟨pT, 1, none⟩ = some (.int .i64 al) := kP8.out.cell 1
    have x0 : (w9.setCell ⟨g2, i * 2 + 1, none⟩ (.int .i64 Y)).cell? ⟨w.heap.size + 2, 0, none⟩ = some (.slice (some ⟨b, off, none⟩) k cl) := kX8.out.cell 0
    have hrow := hTk2.out.row
    rw [List.length_set, htl.out] at hrow
    have hC3 := hCk.out _ (some ⟨g2, 0, none⟩) (some ⟨b, off, none⟩) m gc k cl (ts.set i ((ts[i]?.getD (0, 0)).1, Y)) al ls hB8.out hrow hm (hlB.out _ hB8.out) hk
    rw [hbb.out] at hC3
    simp only at hC3
    replace hC3 := hide hC3
    clear hrow
    go_wp2_with fail
    refine hC3.out.mono ?_
    rintro e w10 ⟨rfl, hb⟩
    replace kS8 := hide (kS8.out.below hb kS8.out.lt)
    replace kT8 := hide (kT8.out.below hb kT8.out.lt)
    replace kX8 := hide (kX8.out.below hb kX8.out.lt)
    replace hB8 := hide (hB8.out.trans (hb.mono hB8.out.size))
    clear hb s0 s1 p0 p1 x0 hC3 z1 z3 kP8 hTk2
    have t0 : w10.cell? ⟨w.heap.size + 1, 0, none⟩ = some (.slice (some ⟨tb, toff, none⟩) m cb) := kT8.out.cell 0
    have t1 : w10.cell? ⟨w.heap.size + 1, 1, none⟩ = some (.int .i64 al) := kT8.out.cell 1
    have x2 : w10.cell? ⟨w.heap.size + 2, 2, none⟩ = some (.int .u16 d) := kX8.out.cell 2
    obtain ⟨f, hf⟩ : ∃ x, d.tmod 3 = x := ⟨_, rfl⟩
    rw [hf] at he0 he3
    have hf2 := hcc.out
    rw [hf] at hf2
    have hw5 : IntKind.i64.wrap ((m : Int) - 1) = (m : Int) - 1 := by rw [IntKind.wrap_i64]; omega
    have hw6 : IntKind.i64.wrap (al + f) = al + f := by rw [IntKind.wrap_i64]; omega
    have hw7 : IntKind.i64.wrap f = f := by rw [IntKind.wrap_i64]; omega
    obtain ⟨al2, hal2⟩ : ∃ x, min ((m : Int) - 1) (al + f) = x := ⟨_, rfl⟩
    rw [hal2] at hf2
    replace hf2 := hide hf2
    have kS9 := hide (kS8.out.alloc (.cells #[.slice (some ⟨tb, toff, none⟩) m cb, .int .i64 al2] 48))
    have kX9 := hide (kX8.out.alloc (.cells #[.slice (some ⟨tb, toff, none⟩) m cb, .int .i64 al2] 48))
    have kP9 := hide (show Blk (w10.alloc (.cells #[.slice (some ⟨tb, toff, none⟩) m cb, .int .i64 al2] 48)) w10.heap.size 48 #[.slice (some ⟨tb, toff, none⟩) m cb, .int .i64 al2] from blkNew rfl)
    have hB9 := hide (hB8.out.alloc hB8.out.size (.cells #[.slice (some ⟨tb, toff, none⟩) m cb, .int .i64 al2] 48))
    have s0 : (w10.alloc (.cells #[.slice (some ⟨tb, toff, none⟩) m cb, .int .i64 al2] 48)).cell? ⟨w.heap.size, 0, none⟩ = some (.slice A k c) := kS9.out.cell 0
    have s1 : (w10.alloc (.cells #[.slice (some ⟨tb, toff, none⟩) m cb, .int .i64 al2] 48)).cell? ⟨w.heap.size, 1, none⟩ = some (.slice A2 n2 c2) := kS9.out.cell 1
    have p0 : (w10.alloc (.cells #[.slice (some ⟨tb, toff, none⟩) m cb, .int .i64 al2] 48)).cell? ⟨w10.heap.size, 0, none⟩ = some (.slice (some ⟨tb, toff, none⟩) m cb) := kP9.out.cell 0
    have p1 : (w10.alloc (.cells #[.slice (some ⟨tb, toff, none⟩) m cb, .int .i64 al2] 48)).cell? ⟨w10.heap.size, 1, none⟩ = some (.int .i64 al2) := kP9.out.cell 1
    have x0 : (w10.alloc (.cells #[.slice (some ⟨tb, toff, none⟩) m cb, .int .i64 al2] 48)).cell? ⟨w.heap.size + 2, 0, none⟩ = some (.slice (some ⟨b, off, none⟩) k cl) := kX9.out.cell 0
    have hC4 := hCk.out _ (some ⟨tb, toff, none⟩) (some ⟨b, off, none⟩) m cb k cl ts al2 ls hB9.out (htB.out _ hB9.out) hm (hlB.out _ hB9.out) hk
    rw [hf2.out] at hC4
    simp only at hC4
    replace hC4 := hide hC4
    clear kS8 kX8 kT8 hB8
    go_wp2_with fail
    refine hC4.out.mono ?_
    rintro e w11 ⟨rfl, hb⟩
    replace hB9 := hide (hB9.out.trans (hb.mono hB9.out.size))
    clear hb s0 s1 p0 p1 x0 hC4 t0 t1 x2 hf hal2
    have g1 : decide (q0 ≤ a) = true := decide_eq_true hna
    have g2' : decide (bb ≤ q0) = true := decide_eq_true hbn
    have g3 : decide (q0 ≤ cc) = true := decide_eq_true hnc
    replace hna := hide hna
    replace hbn := hide hbn
    replace hnc := hide hnc
    go_wp2_with fail
    refine (AwakeS _).mono ?_
    rintro e w12 ⟨rfl, hb⟩
    replace hB9 := hide (hB9.out.trans (hb.mono hB9.out.size))
    clear hb
    go_wp2
    go_ret
    exact ⟨rfl, hB9.out⟩
  · have hz : q0 = 0 := hbad.out h0
    subst hz
    have b1 : (q1 != 0) = true := by rw [bne_iff_ne]; exact h0
    replace h0 := hide h0
    go_wp2_with fail
    refine (AwakeS _).mono ?_
    rintro e w5 ⟨rfl, hb⟩
    replace hB := hide (hB.out.trans (hb.mono hB.out.size))
    clear hb s0 s1
    go_wp2
    go_ret
    exact ⟨rfl, hB.out⟩
end Go.Proofs.Ytkhijdbigpaagaa
