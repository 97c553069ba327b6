import Derived.Test.YtkmhldjebopljaaOe
import Derived.Maps.AppendAt
/-
  Check of package book.
-/
namespace Go.Proofs.Ytkmhldjebopljaa
open Go.RowKit RG

def carsE (S : BSch) : Int × Int := firstErr (fun i => carE S.cars i (S.cars[i]?.getD default)) 0 S.cars.length
def termsE (S : BSch) : Int × Int := firstErr (fun i => termE S.terms i (S.terms[i]?.getD default)) 0 S.terms.length
/-- The part, the index in it and the error of a school. -/
def checkB (S : BSch) : Int × Int × Int :=
  if numE S ≠ 0 then (1, 0, numE S) else if (nmsE S.learners).2 ≠ 0 then (2, (nmsE S.learners).1, (nmsE S.learners).2)
  else if (carsE S).2 ≠ 0 then (3, (carsE S).1, (carsE S).2) else if (termsE S).2 ≠ 0 then (4, (termsE S).1, (termsE S).2) else (0, 0, 0)

set_option maxRecDepth 100000 in
set_option maxHeartbeats 2000000 in
theorem Check_any (v : Value) (S : BSch) (w : World) (h : RdBSch w v S) :
    Calls Try.prog 16 #[v] w fun e w' => e = .returned (.tuple #[.int .i64 (checkB S).1, .int .i64 (checkB S).2.1, .int .i64 (checkB S).2.2]) ∧ Below w.heap.size w w' := by
  obtain ⟨L, C, T, cl, cc, ct, rfl, hR⟩ := h
  obtain ⟨r, hr⟩ : ∃ r, checkB S = r := ⟨_, rfl⟩
  rw [hr]
  unfold checkB at hr
  obtain ⟨r1, r2, r3⟩ := r
  have hNu := hide (fun W => numbersError_any L C T cl cc ct S W ⟨hR.lm.1, hR.cm.1, hR.tm.1⟩)
  have hNm := hide (fun W (hb : Below w.heap.size w W) => FirstError_any L S.learners.length cl S.learners W (hR.ln.below hb) hR.lm.1 hR.lm.2)
  have hCe := hide (fun W => carErrors_any L C T cl cc ct S W)
  have hTe := hide (fun W => termErrors_any L C T cl cc ct S W)
  have hFc := hide (fun p W (hb : Below w.heap.size w W) (hp : Blk W p 28 (schCells L C T cl cc ct S)) => firstCar C S.cars.length cc S.cars p W (hR.cn.below hb) hR.cm.1 hR.cs hR.cm.2 (hp.cell 1))
  have hFt := hide (fun p W (hb : Below w.heap.size w W) (hp : Blk W p 28 (schCells L C T cl cc ct S)) => firstTerm T S.terms.length ct S.terms p W (hR.tn.below hb) hR.tm.1 (hp.cell 6))
  have ec : firstErr (fun i => carE S.cars i (S.cars[i]?.getD default)) 0 S.cars.length = carsE S := rfl
  have et : firstErr (fun i => termE S.terms i (S.terms[i]?.getD default)) 0 S.terms.length = termsE S := rfl
  rw [ec] at hFc
  rw [et] at hFt
  clear ec et hR
  generalize numE S = nu at *
  generalize nmsE S.learners = nm at *
  generalize carsE S = ce at *
  generalize termsE S = te at *
  obtain ⟨nm1, nm2⟩ := nm
  obtain ⟨ce1, ce2⟩ := ce
  obtain ⟨te1, te2⟩ := te
  simp only at hr hNm hFc hFt
  unfold schCells at *
  generalize S.learners.length = nl at *
  generalize S.cars.length = nc at *
  generalize S.terms.length = nt at *
  generalize S.price = pr at *
  generalize S.excess = ex at *
  generalize S.lo = lo at *
  generalize S.hi = hi at *
  obtain ⟨W, hW⟩ : ∃ x, w.alloc (.cells #[.slice L nl cl, .slice C nc cc, .int .i64 pr, .int .i64 ex, .int .i64 lo, .int .i64 hi, .slice T nt ct] 28) = x := ⟨_, rfl⟩
  have kb := hide (show Blk W w.heap.size 28 #[.slice L nl cl, .slice C nc cc, .int .i64 pr, .int .i64 ex, .int .i64 lo, .int .i64 hi, .slice T nt ct] by rw [← hW]; exact blkNew rfl)
  have hB := hide (show Below w.heap.size w W by rw [← hW]; exact (Below.refl _ _).alloc (Nat.le_refl _) _)
  replace hW := hide hW
  go_enter Try.func16, Try.ntmps16
  go_upto_region 1 with fail
  rw [hW.out]
  clear hW
  have r0 : W.cell? ⟨w.heap.size, 0, none⟩ = some (.slice L nl cl) := kb.out.cell 0
  have q1 : W.cell? ⟨w.heap.size, 1, none⟩ = some (.slice C nc cc) := kb.out.cell 1
  have q2 : W.cell? ⟨w.heap.size, 2, none⟩ = some (.int .i64 pr) := kb.out.cell 2
  have q3 : W.cell? ⟨w.heap.size, 3, none⟩ = some (.int .i64 ex) := kb.out.cell 3
  have q4 : W.cell? ⟨w.heap.size, 4, none⟩ = some (.int .i64 lo) := kb.out.cell 4
  have q5 : W.cell? ⟨w.heap.size, 5, none⟩ = some (.int .i64 hi) := kb.out.cell 5
  have q6 : W.cell? ⟨w.heap.size, 6, none⟩ = some (.slice T nt ct) := kb.out.cell 6
  go_wp2_with fail
  refine (hNu.out _).mono ?_
  rintro e w2 ⟨rfl, hb⟩
  replace kb := hide (kb.out.below hb kb.out.lt)
  replace hB := hide (hB.out.trans (hb.mono hB.out.size))
  clear hb r0 q1 q2 q3 q4 q5 q6 hNu
  by_cases h1 : nu ≠ 0
  · have b1 : (nu != 0) = true := by rw [bne_iff_ne]; exact h1
    rw [if_pos h1] at hr
    cases hr
    replace h1 := hide h1
    go_wp2
    go_ret3
    exact ⟨rfl, hB.out⟩
  · rw [if_neg h1] at hr
    obtain rfl : nu = 0 := by simpa using h1
    clear h1
    have r0 : w2.cell? ⟨w.heap.size, 0, none⟩ = some (.slice L nl cl) := kb.out.cell 0
    go_wp2_with fail
    refine (hNm.out _ hB.out).mono ?_
    rintro e w3 ⟨rfl, hb⟩
    replace kb := hide (kb.out.below hb kb.out.lt)
    replace hB := hide (hB.out.trans (hb.mono hB.out.size))
    clear hb r0 hNm
    by_cases h2 : nm2 ≠ 0
    · have b1 : (nm2 != 0) = true := by rw [bne_iff_ne]; exact h2
      rw [if_pos h2] at hr
      cases hr
      replace h2 := hide h2
      go_wp2
      go_ret3
      exact ⟨rfl, hB.out⟩
    · rw [if_neg h2] at hr
      obtain rfl : nm2 = 0 := by simpa using h2
      clear h2
      go_wp2
      refine region_grow [IsV (.pointer (some ⟨w.heap.size, 1, none⟩)), IsV (.slice C nc cc), IsV (.agg #[.slice L nl cl, .slice C nc cc, .int .i64 pr, .int .i64 ex, .int .i64 lo, .int .i64 hi, .slice T nt ct]), BClos 65 #[.slice L nl cl, .slice C nc cc, .int .i64 pr, .int .i64 ex, .int .i64 lo, .int .i64 hi, .slice T nt ct], IsV (.tuple #[.int .i64 ce1, .int .i64 ce2]), IsV (.tuple #[.int .i64 ce1, .int .i64 ce2]), IsV (.int .i64 ce1), IsV (.int .i64 ce2), IsV (.int .i64 ce1), IsV (.int .i64 ce2)] (by kernel_rfl) (by kernel_rfl) rfl ?_ ?_ ?_
      · simp [AllStb, IsV.stb, BClos.stb]
      · refine ⟨?_, ?_, ?_, ?_, ?_, ?_, ?_, ?_, ?_, ?_, trivial⟩
        all_goals
          intro y w6 K Q Cv hC hd hV
          have k6 := kb.out.below hC kb.out.lt
          have r0 : w6.cell? ⟨w.heap.size, 0, none⟩ = some (.slice L nl cl) := k6.cell 0
          have r1 : w6.cell? ⟨w.heap.size, 1, none⟩ = some (.slice C nc cc) := k6.cell 1
          have r2 : w6.cell? ⟨w.heap.size, 2, none⟩ = some (.int .i64 pr) := k6.cell 2
          have r3 : w6.cell? ⟨w.heap.size, 3, none⟩ = some (.int .i64 ex) := k6.cell 3
          have r4 : w6.cell? ⟨w.heap.size, 4, none⟩ = some (.int .i64 lo) := k6.cell 4
          have r5 : w6.cell? ⟨w.heap.size, 5, none⟩ = some (.int .i64 hi) := k6.cell 5
          have r6 : w6.cell? ⟨w.heap.size, 6, none⟩ = some (.slice T nt ct) := k6.cell 6
          have hBw := hB.out.trans (hC.mono hB.out.size)
          simp [deps, VL, IsV, Region.binds] at hd
        · simp only [putAll, Act.put]; go_simp; intro hK; exact hK _ _ (hV _ _ hC (Below.refl _ _) rfl)
        · simp only [putAll, Act.put]; go_simp; intro hK; exact hK _ _ (hV _ _ hC (Below.refl _ _) rfl)
        · simp only [putAll, Act.put]; go_simp; intro hK; exact hK _ _ (hV _ _ hC (Below.refl _ _) rfl)
        · simp only [putAll, Act.put]; go_simp; intro hK; refine (hCe.out w6).mono ?_; rintro e w7 ⟨⟨x, rfl, hx⟩, hb7⟩; exact hK _ _ (hV _ _ (hC.trans (hb7.mono hC.size)) hb7 hx)
        · obtain ⟨e1, p, e2, hp⟩ := hd
          have hcall := hide (hFc.out p w6 hBw hp)
          simp only [putAll, Act.put]; go_simp; intro hK; refine hcall.out.mono ?_; rintro e w7 ⟨rfl, hb7⟩; exact hK _ _ (hV _ _ (hC.trans (hb7.mono hC.size)) hb7 rfl)
        · simp only [putAll, Act.put]; go_simp; intro hK; exact hK _ _ (hV _ _ hC (Below.refl _ _) rfl)
        · simp only [putAll, Act.put]; go_simp; intro hK; exact hK _ _ (hV _ _ hC (Below.refl _ _) rfl)
        · simp only [putAll, Act.put]; go_simp; intro hK; exact hK _ _ (hV _ _ hC (Below.refl _ _) rfl)
        · simp only [putAll, Act.put]; go_simp; intro hK; exact hK _ _ (hV _ _ hC (Below.refl _ _) rfl)
        · simp only [putAll, Act.put]; go_simp; intro hK; exact hK _ _ (hV _ _ hC (Below.refl _ _) rfl)
      intro y w6 hC hd
      simp [EndsL, IsV] at hd
      obtain ⟨-, -, -, -, d4, d5, d6, d7, d8, d9⟩ := hd
      simp only [putAll, Act.put]
      rw [d4, d5, d6, d7, d8, d9]
      clear d4 d5 d6 d7 d8 d9
      simp only [List.setIfInBounds_toArray, List.set_cons_succ, List.set_cons_zero]
      replace kb := hide (kb.out.below hC kb.out.lt)
      replace hB := hide (hB.out.trans (hC.mono hB.out.size))
      clear hC
      by_cases h3 : ce2 ≠ 0
      · have b1 : (ce2 != 0) = true := by rw [bne_iff_ne]; exact h3
        rw [if_pos h3] at hr
        cases hr
        replace h3 := hide h3
        go_wp2
        go_ret3
        exact ⟨rfl, hB.out⟩
      · rw [if_neg h3] at hr
        obtain rfl : ce2 = 0 := by simpa using h3
        clear h3 hFc hCe
        go_wp2
        refine region_grow [IsV (.pointer (some ⟨w.heap.size, 6, none⟩)), IsV (.slice T nt ct), IsV (.agg #[.slice L nl cl, .slice C nc cc, .int .i64 pr, .int .i64 ex, .int .i64 lo, .int .i64 hi, .slice T nt ct]), BClos 68 #[.slice L nl cl, .slice C nc cc, .int .i64 pr, .int .i64 ex, .int .i64 lo, .int .i64 hi, .slice T nt ct], IsV (.tuple #[.int .i64 te1, .int .i64 te2]), IsV (.tuple #[.int .i64 te1, .int .i64 te2]), IsV (.int .i64 te1), IsV (.int .i64 te2), IsV (.int .i64 te1), IsV (.int .i64 te2)] (by kernel_rfl) (by kernel_rfl) rfl ?_ ?_ ?_
        · simp [AllStb, IsV.stb, BClos.stb]
        · refine ⟨?_, ?_, ?_, ?_, ?_, ?_, ?_, ?_, ?_, ?_, trivial⟩
          all_goals
            intro y w6 K Q Cv hC hd hV
            have k6 := kb.out.below hC kb.out.lt
            have r0 : w6.cell? ⟨w.heap.size, 0, none⟩ = some (.slice L nl cl) := k6.cell 0
            have r1 : w6.cell? ⟨w.heap.size, 1, none⟩ = some (.slice C nc cc) := k6.cell 1
            have r2 : w6.cell? ⟨w.heap.size, 2, none⟩ = some (.int .i64 pr) := k6.cell 2
            have r3 : w6.cell? ⟨w.heap.size, 3, none⟩ = some (.int .i64 ex) := k6.cell 3
            have r4 : w6.cell? ⟨w.heap.size, 4, none⟩ = some (.int .i64 lo) := k6.cell 4
            have r5 : w6.cell? ⟨w.heap.size, 5, none⟩ = some (.int .i64 hi) := k6.cell 5
            have r6 : w6.cell? ⟨w.heap.size, 6, none⟩ = some (.slice T nt ct) := k6.cell 6
            have hBw := hB.out.trans (hC.mono hB.out.size)
            simp [deps, VL, IsV, Region.binds] at hd
          · simp only [putAll, Act.put]; go_simp; intro hK; exact hK _ _ (hV _ _ hC (Below.refl _ _) rfl)
          · simp only [putAll, Act.put]; go_simp; intro hK; exact hK _ _ (hV _ _ hC (Below.refl _ _) rfl)
          · simp only [putAll, Act.put]; go_simp; intro hK; exact hK _ _ (hV _ _ hC (Below.refl _ _) rfl)
          · simp only [putAll, Act.put]; go_simp; intro hK; refine (hTe.out w6).mono ?_; rintro e w7 ⟨⟨x, rfl, hx⟩, hb7⟩; exact hK _ _ (hV _ _ (hC.trans (hb7.mono hC.size)) hb7 hx)
          · obtain ⟨e1, p, e2, hp⟩ := hd
            have hcall := hide (hFt.out p w6 hBw hp)
            simp only [putAll, Act.put]; go_simp; intro hK; refine hcall.out.mono ?_; rintro e w7 ⟨rfl, hb7⟩; exact hK _ _ (hV _ _ (hC.trans (hb7.mono hC.size)) hb7 rfl)
          · simp only [putAll, Act.put]; go_simp; intro hK; exact hK _ _ (hV _ _ hC (Below.refl _ _) rfl)
          · simp only [putAll, Act.put]; go_simp; intro hK; exact hK _ _ (hV _ _ hC (Below.refl _ _) rfl)
          · simp only [putAll, Act.put]; go_simp; intro hK; exact hK _ _ (hV _ _ hC (Below.refl _ _) rfl)
          · simp only [putAll, Act.put]; go_simp; intro hK; exact hK _ _ (hV _ _ hC (Below.refl _ _) rfl)
          · simp only [putAll, Act.put]; go_simp; intro hK; exact hK _ _ (hV _ _ hC (Below.refl _ _) rfl)
        intro y w6 hC hd
        simp [EndsL, IsV] at hd
        obtain ⟨-, -, -, -, d4, d5, d6, d7, d8, d9⟩ := hd
        simp only [putAll, Act.put]
        rw [d4, d5, d6, d7, d8, d9]
        clear d4 d5 d6 d7 d8 d9
        simp only [List.setIfInBounds_toArray, List.set_cons_succ, List.set_cons_zero]
        replace kb := hide (kb.out.below hC kb.out.lt)
        replace hB := hide (hB.out.trans (hC.mono hB.out.size))
        clear hC
        by_cases h4 : te2 ≠ 0
        · have b1 : (te2 != 0) = true := by rw [bne_iff_ne]; exact h4
          rw [if_pos h4] at hr
          cases hr
          replace h4 := hide h4
          go_wp2
          go_ret3
          exact ⟨rfl, hB.out⟩
        · rw [if_neg h4] at hr
          obtain rfl : te2 = 0 := by simpa using h4
          cases hr
          clear h4
          go_wp2
          go_ret3
          exact ⟨rfl, hB.out⟩
end Go.Proofs.Ytkmhldjebopljaa

/-
  Schools without an error; Fee of package book.
-/
namespace Go.Proofs.Ytkmhldjebopljaa
open Go.RowKit RG

theorem firstErr_zero {err : Nat → Int} : ∀ {k m : Nat}, (firstErr err k m).2 = 0 → ∀ j, k ≤ j → j < k + m → err j = 0
  | k, 0, _, j, h1, h2 => by omega
  | k, m + 1, h, j, h1, h2 => by
    unfold firstErr at h
    split at h
    · rename_i h0
      by_cases e : j = k
      · subst e; exact h0
      · exact firstErr_zero h j (by omega) (by omega)
    · rename_i h0; exact absurd h h0
theorem check_parts {S : BSch} (h : (checkB S).2.2 = 0) : numE S = 0 ∧ (nmsE S.learners).2 = 0 ∧ (carsE S).2 = 0 ∧ (termsE S).2 = 0 := by
  unfold checkB at h
  split at h
  · rename_i h0; exact absurd h h0
  · rename_i h1
    split at h
    · rename_i h0; exact absurd h h0
    · rename_i h2
      split at h
      · rename_i h0; exact absurd h h0
      · rename_i h3
        split at h
        · rename_i h0; exact absurd h h0
        · rename_i h4
          exact ⟨by simpa using h1, by simpa using h2, by simpa using h3, by simpa using h4⟩
theorem num_ok {S : BSch} (h : numE S = 0) : (1 ≤ S.learners.length ∧ S.learners.length ≤ 8) ∧ (1 ≤ S.cars.length ∧ S.cars.length ≤ 5) ∧ S.terms.length ≤ 4 ∧ (1 ≤ S.price ∧ S.price ≤ 10000) ∧ (0 ≤ S.excess ∧ S.excess ≤ 10000000) ∧ 0 ≤ S.lo ∧ S.lo < S.hi ∧ S.hi ≤ 24 := by
  unfold numE at h
  split at h
  · rename_i h1
    simp only [inB_iff] at h1
    split at h
    · rename_i h2
      simp only [inB_iff] at h2
      split at h
      · cases h
      · omega
    · cases h
  · cases h
/-- A school without an error. -/
theorem sch_ok {S : BSch} (h : (checkB S).2.2 = 0) : SchOk S := by
  obtain ⟨h1, _, _, h4⟩ := check_parts h
  have hn := num_ok h1
  refine ⟨hn.2.2.2.1, hn.2.2.2.2.1, fun t ht => ?_⟩
  obtain ⟨i, hi, rfl⟩ := List.getElem_of_mem ht
  have := firstErr_zero h4 i (Nat.zero_le _) (by omega)
  rw [List.getElem?_eq_getElem hi, Option.getD_some] at this
  unfold termE at this
  split at this
  · rename_i h2
    exact inB_iff.1 h2.2
  · cases this
/-- What Fee answers. -/
def feeF (S : BSch) (hours before : Int) : Int × Int :=
  if (checkB S).2.2 ≠ 0 then (0, (checkB S).2.2) else if inI 1 4 hours = true ∧ inI 0 4800 before = true then (feeB S hours before, 0) else (0, 7)

set_option maxRecDepth 100000 in
set_option maxHeartbeats 2000000 in
theorem Fee_any (v : Value) (S : BSch) (hours before : Int) (w : World) (h : RdBSch w v S) :
    Calls Try.prog 18 #[v, .int .i64 hours, .int .i64 before] w fun e w' => e = .returned (.tuple #[.int .i64 (feeF S hours before).1, .int .i64 (feeF S hours before).2]) ∧ Below w.heap.size w w' := by
  have hC := hide (fun W (hb : Below w.heap.size w W) => Check_any v S W (h.below hb))
  have hF := hide (fun (hk : (checkB S).2.2 = 0) (hh : 1 ≤ hours ∧ hours ≤ 4) W (hb : Below w.heap.size w W) => fee_any v S hours before W (h.below hb) (sch_ok hk) hh)
  have hL := hide (fun W => isLength_any hours W)
  have hH := hide (fun W => isHour_any before W)
  obtain ⟨r, hr⟩ : ∃ r, feeF S hours before = r := ⟨_, rfl⟩
  rw [hr]
  unfold feeF at hr
  obtain ⟨r1, r2⟩ := r
  generalize checkB S = q at *
  obtain ⟨qa, qb, qc⟩ := q
  simp only at hr hC hF
  generalize feeB S hours before = fb at *
  obtain ⟨L, C, T, cl, cc, ct, rfl, -⟩ := h
  unfold schCells at *
  generalize S.learners.length = nl at *
  generalize S.cars.length = nc at *
  generalize S.terms.length = nt at *
  generalize S.price = pr at *
  generalize S.excess = ex at *
  generalize S.lo = lo at *
  generalize S.hi = hi at *
  obtain ⟨W, hW⟩ : ∃ x, w.alloc (.cells #[.slice L nl cl, .slice C nc cc, .int .i64 pr, .int .i64 ex, .int .i64 lo, .int .i64 hi, .slice T nt ct] 28) = x := ⟨_, rfl⟩
  have kb := hide (show Blk W w.heap.size 28 #[.slice L nl cl, .slice C nc cc, .int .i64 pr, .int .i64 ex, .int .i64 lo, .int .i64 hi, .slice T nt ct] by rw [← hW]; exact blkNew rfl)
  have hB := hide (show Below w.heap.size w W by rw [← hW]; exact (Below.refl _ _).alloc (Nat.le_refl _) _)
  replace hW := hide hW
  go_enter Try.func18, Try.ntmps18
  go_upto_region 1 with fail
  rw [hW.out]
  clear hW
  have r0 : W.cell? ⟨w.heap.size, 0, none⟩ = some (.slice L nl cl) := kb.out.cell 0
  have q1 : W.cell? ⟨w.heap.size, 1, none⟩ = some (.slice C nc cc) := kb.out.cell 1
  have q2 : W.cell? ⟨w.heap.size, 2, none⟩ = some (.int .i64 pr) := kb.out.cell 2
  have q3 : W.cell? ⟨w.heap.size, 3, none⟩ = some (.int .i64 ex) := kb.out.cell 3
  have q4 : W.cell? ⟨w.heap.size, 4, none⟩ = some (.int .i64 lo) := kb.out.cell 4
  have q5 : W.cell? ⟨w.heap.size, 5, none⟩ = some (.int .i64 hi) := kb.out.cell 5
  have q6 : W.cell? ⟨w.heap.size, 6, none⟩ = some (.slice T nt ct) := kb.out.cell 6
  go_wp2_with fail
  refine (hC.out _ hB.out).mono ?_
  rintro e w2 ⟨rfl, hb⟩
  replace kb := hide (kb.out.below hb kb.out.lt)
  replace hB := hide (hB.out.trans (hb.mono hB.out.size))
  clear hb r0 q1 q2 q3 q4 q5 q6 hC
  by_cases h1 : qc ≠ 0
  · have b1 : (qc != 0) = true := by rw [bne_iff_ne]; exact h1
    rw [if_pos h1] at hr
    cases hr
    replace h1 := hide h1
    go_wp2
    go_ret2
    exact ⟨rfl, hB.out⟩
  · rw [if_neg h1] at hr
    obtain rfl : qc = 0 := by simpa using h1
    clear h1
    go_wp2_with fail
    refine (hL.out _).mono ?_
    rintro e w3 ⟨rfl, hb⟩
    replace kb := hide (kb.out.below hb kb.out.lt)
    replace hB := hide (hB.out.trans (hb.mono hB.out.size))
    clear hb hL
    cases h2 : inI 1 4 hours with
    | false =>
      rw [h2, if_neg (by simp)] at hr
      cases hr
      go_wp2
      go_ret2
      exact ⟨rfl, hB.out⟩
    | true =>
      rw [h2] at hr
      go_wp2_with fail
      refine (hH.out _).mono ?_
      rintro e w4 ⟨rfl, hb⟩
      replace kb := hide (kb.out.below hb kb.out.lt)
      replace hB := hide (hB.out.trans (hb.mono hB.out.size))
      clear hb hH
      cases h3 : inI 0 4800 before with
      | false =>
        rw [h3, if_neg (by simp)] at hr
        cases hr
        go_wp2
        go_ret2
        exact ⟨rfl, hB.out⟩
      | true =>
        rw [h3, if_pos (by simp)] at hr
        cases hr
        have r0 : w4.cell? ⟨w.heap.size, 0, none⟩ = some (.slice L nl cl) := kb.out.cell 0
        have q1 : w4.cell? ⟨w.heap.size, 1, none⟩ = some (.slice C nc cc) := kb.out.cell 1
        have q2 : w4.cell? ⟨w.heap.size, 2, none⟩ = some (.int .i64 pr) := kb.out.cell 2
        have q3 : w4.cell? ⟨w.heap.size, 3, none⟩ = some (.int .i64 ex) := kb.out.cell 3
        have q4 : w4.cell? ⟨w.heap.size, 4, none⟩ = some (.int .i64 lo) := kb.out.cell 4
        have q5 : w4.cell? ⟨w.heap.size, 5, none⟩ = some (.int .i64 hi) := kb.out.cell 5
        have q6 : w4.cell? ⟨w.heap.size, 6, none⟩ = some (.slice T nt ct) := kb.out.cell 6
        have hF2 := hide (hF.out (by trivial) (inI_iff.1 h2) _ hB.out)
        clear h2 h3 hF
        go_wp2_with fail
        refine hF2.out.mono ?_
        rintro e w5 ⟨rfl, hb⟩
        have hB2 := hide (hB.out.trans (hb.mono hB.out.size))
        clear hb r0 q1 q2 q3 q4 q5 q6
        go_wp2
        go_ret2
        exact ⟨rfl, hB2.out⟩
end Go.Proofs.Ytkmhldjebopljaa

/-
  A row of elements of k cells each, at the head of a block of its own that is none of some blocks; what is kept of some blocks. Of no function.
-/
namespace Go.Proofs.Ytkmhldjebopljaa
open Go.RowKit RG

theorem flat_get {k : Nat} : ∀ {xs : List (List Value)} (_ : ∀ x ∈ xs, x.length = k) {j i : Nat} {v : Value}, (xs[j]?.getD [])[i]? = some v → j < xs.length ∧ i < k ∧ xs.flatten[j * k + i]? = some v
  | [], _, j, i, v, hv => by simp at hv
  | x :: xs, h, 0, i, v, hv => by
    have hx : x.length = k := h x List.mem_cons_self
    have hv' : x[i]? = some v := by simpa using hv
    have hi := (List.getElem?_eq_some_iff.1 hv').1
    refine ⟨by simp, by omega, ?_⟩
    rw [List.flatten_cons, List.getElem?_append_left (by omega), Nat.zero_mul, Nat.zero_add]
    exact hv'
  | x :: xs, h, j + 1, i, v, hv => by
    have hx : x.length = k := h x List.mem_cons_self
    obtain ⟨h1, h2, h3⟩ := flat_get (fun y hy => h y (List.mem_cons_of_mem _ hy)) (j := j) (i := i) (v := v) (by simpa using hv)
    refine ⟨by simpa using h1, h2, ?_⟩
    rw [List.flatten_cons, List.getElem?_append_right (by rw [hx, Nat.succ_mul]; omega), hx, show (j + 1) * k + i - k = j * k + i by rw [Nat.succ_mul]; omega]
    exact h3
theorem flat_set {k : Nat} (u : Value) : ∀ {xs : List (List Value)} (_ : ∀ x ∈ xs, x.length = k) {j i : Nat}, j < xs.length → i < k → xs.flatten.set (j * k + i) u = (xs.set j ((xs[j]?.getD []).set i u)).flatten
  | [], _, j, i, hj, _ => by simp at hj
  | x :: xs, h, 0, i, _, hi => by
    have hx : x.length = k := h x List.mem_cons_self
    rw [List.flatten_cons, Nat.zero_mul, Nat.zero_add, List.set_append_left _ _ (by omega)]
    simp
  | x :: xs, h, j + 1, i, hj, hi => by
    have hx : x.length = k := h x List.mem_cons_self
    have := flat_set u (fun y hy => h y (List.mem_cons_of_mem _ hy)) (j := j) (i := i) (by simpa using hj) hi
    rw [List.flatten_cons, List.set_append_right _ _ (by rw [hx, Nat.succ_mul]; omega), hx, show (j + 1) * k + i - k = j * k + i by rw [Nat.succ_mul]; omega, this]
    simp
theorem flat_len {k : Nat} : ∀ {xs : List (List Value)} (_ : ∀ x ∈ xs, x.length = k), xs.flatten.length = xs.length * k
  | [], _ => by simp
  | x :: xs, h => by
    rw [List.flatten_cons, List.length_append, flat_len (fun y hy => h y (List.mem_cons_of_mem _ hy)), h x List.mem_cons_self, List.length_cons, Nat.succ_mul]
    omega

/-- Of the blocks X none has changed. -/
structure KeptX (X : Nat → Prop) (w w' : World) : Prop where
  os : w'.os = w.os
  tape : w'.tape = w.tape
  output : w'.output = w.output
  size : w.heap.size ≤ w'.heap.size
  block : ∀ g, X g → w'.heap[g]? = w.heap[g]?
section
variable {X Y : Nat → Prop} {w w' w'' : World}
theorem KeptX.refl (X : Nat → Prop) (w : World) : KeptX X w w := ⟨rfl, rfl, rfl, Nat.le_refl _, fun _ _ => rfl⟩
theorem KeptX.trans (h : KeptX X w w') (k : KeptX X w' w'') : KeptX X w w'' :=
  ⟨k.os.trans h.os, k.tape.trans h.tape, k.output.trans h.output, Nat.le_trans h.size k.size, fun i hi => (k.block i hi).trans (h.block i hi)⟩
theorem KeptX.mono (h : KeptX X w w') (hy : ∀ g, Y g → X g) : KeptX Y w w' := ⟨h.os, h.tape, h.output, h.size, fun g hg => h.block g (hy g hg)⟩
/-- The blocks X are there. -/
def Old (X : Nat → Prop) (w : World) : Prop := ∀ g, X g → g < w.heap.size
theorem Old.kept (h : Old X w) (k : KeptX X w w') : Old X w' := fun g hg => Nat.lt_of_lt_of_le (h g hg) k.size
theorem Old.fresh (h : Old X w) : ¬ X w.heap.size := fun hx => Nat.lt_irrefl _ (h _ hx)
theorem KeptX.of_below (h : Below w.heap.size w w') (ho : Old X w) : KeptX X w w' := ⟨h.os, h.tape, h.output, h.size, fun g hg => h.block g (ho g hg)⟩
theorem KeptX.below {B : Nat} (h : KeptX (fun g => g < B) w w') : Below B w w' := ⟨h.os, h.tape, h.output, h.size, h.block⟩
theorem KeptX.setCell (w : World) {p : Addr} (hp : ¬ X p.block) (u : Value) : KeptX X w (w.setCell p u) :=
  ⟨rfl, rfl, rfl, by simp, fun g hg => Below.heap_setCell w p u g (fun e => hp (e ▸ hg))⟩
theorem KeptX.alloc (w : World) (ho : Old X w) (o : Obj) : KeptX X w (w.alloc o) := KeptX.of_below ((Below.refl _ _).alloc (Nat.le_refl _) o) ho
theorem KeptX.drew (h : KeptX X w w') : KeptX X w w'.drew := ⟨h.os, h.tape, h.output, h.size, h.block⟩
theorem KeptX.drewN (h : KeptX X w w') (n : Nat) : KeptX X w (w'.drewN n) := ⟨h.os, h.tape, h.output, h.size, h.block⟩
theorem KeptX.grown {row : Option Nat} (h : w.grownBy w' row) (ho : Old X w) (hr : ∀ g, row = some g → ¬ X g) : KeptX X w w' :=
  ⟨h.os, h.tape, h.output, h.size, fun g hg => h.block g (ho g hg) (fun e => hr g e.symm hg)⟩
theorem KeptX.blk {g : Nat} {t : TypeId} {cs : Array Value} (h : KeptX X w w') (hg : X g) (hb : Blk w g t cs) : Blk w' g t cs := (h.block g hg).trans hb
theorem KeptX.cell (h : KeptX X w w') {b o : Nat} (hg : X b) : w'.cell? ⟨b, o, none⟩ = w.cell? ⟨b, o, none⟩ := World.cell?_of_block (a := ⟨b, o, none⟩) (h.block b hg)
theorem KeptX.frozen (h : KeptX X w w') {b o : Nat} (hg : X b) : w'.frozen? ⟨b, o, none⟩ = w.frozen? ⟨b, o, none⟩ := World.frozen?_of_block (a := ⟨b, o, none⟩) (h.block b hg)
end

/-- The slice v holds the elements xs, of k cells each, in a block of its own that is none of X (or it is nil). -/
def RowAt (w : World) (X : Nat → Prop) (e : TypeId) (k : Nat) (v : Value) (xs : List (List Value)) : Prop :=
  (∀ x ∈ xs, x.length = k) ∧ ((v = .slice none 0 0 ∧ xs = []) ∨ ∃ g cap cur, v = .slice (some ⟨g, 0, none⟩) xs.length cap ∧ ¬ X g ∧ Blk w g e cur ∧ xs.length ≤ cap ∧ cap ≤ maxLen ∧ cur.size = cap * k ∧ cur.toList.take (xs.length * k) = xs.flatten)
section
variable {w w' : World} {X Y : Nat → Prop} {e : TypeId} {k : Nat} {v : Value} {xs : List (List Value)}
theorem RowAt.len (h : RowAt w X e k v xs) {j : Nat} (hj : j < xs.length) : (xs[j]?.getD []).length = k := by
  rw [List.getElem?_eq_getElem hj]
  exact h.1 _ (List.getElem_mem hj)
theorem RowAt.mono (h : RowAt w X e k v xs) (hy : ∀ g, v.ownBlock = some g → ¬ Y g) : RowAt w Y e k v xs := by
  refine ⟨h.1, ?_⟩
  rcases h.2 with hn | ⟨g, cap, cur, rfl, _, hb⟩
  · exact .inl hn
  · exact .inr ⟨g, cap, cur, rfl, hy g rfl, hb⟩
theorem RowAt.not (h : RowAt w X e k v xs) : ∀ g, v.ownBlock = some g → ¬ X g := by
  rcases h.2 with ⟨rfl, _⟩ | ⟨g, cap, cur, rfl, hx, _⟩
  · intro g hg; simp [Value.ownBlock] at hg
  · intro g' hg
    have : g = g' := by simpa [Value.ownBlock] using hg
    subst this; exact hx
theorem RowAt.blk (h : RowAt w X e k v xs) (hb : ∀ g, v.ownBlock = some g → g < w.heap.size → w'.heap[g]? = w.heap[g]?) : RowAt w' X e k v xs := by
  refine ⟨h.1, ?_⟩
  rcases h.2 with hn | ⟨g, cap, cur, rfl, hx, hk, hr⟩
  · exact .inl hn
  · exact .inr ⟨g, cap, cur, rfl, hx, (hb g rfl hk.lt).trans hk, hr⟩
theorem RowAt.below (h : RowAt w X e k v xs) (hb : Below w.heap.size w w') : RowAt w' X e k v xs := h.blk fun g _ hg => hb.block g hg
theorem RowAt.far (h : RowAt w X e k v xs) {p : Addr} (hp : v.ownBlock ≠ some p.block) (u : Value) : RowAt (w.setCell p u) X e k v xs :=
  h.blk fun g hg _ => Below.heap_setCell w p u g fun e => hp (by rw [hg, e])
theorem RowAt.own (h : RowAt w X e k v xs) : w.ownsRow 0 e k v xs.length xs.flatten := by
  refine ⟨flat_len h.1, ?_⟩
  rcases h.2 with ⟨rfl, rfl⟩ | ⟨g, cap, cur, rfl, _, hk, h1, h2, h3, h4⟩
  · exact .inl ⟨rfl, rfl⟩
  · exact .inr ⟨g, cap, cur, rfl, Nat.zero_le _, hk, h1, h2, h3, h4⟩
theorem rowAt_of (hk : ∀ x ∈ xs, x.length = k) (h : w.ownsRow 0 e k v xs.length xs.flatten) (hx : ∀ g, v.ownBlock = some g → ¬ X g) : RowAt w X e k v xs := by
  refine ⟨hk, ?_⟩
  rcases h.2 with ⟨rfl, h0⟩ | ⟨g, cap, cur, rfl, _, hb, h1, h2, h3, h4⟩
  · exact .inl ⟨rfl, List.eq_nil_of_length_eq_zero h0⟩
  · exact .inr ⟨g, cap, cur, rfl, hx g rfl, hb, h1, h2, h3, h4⟩
/-- The row's block, where there are elements. -/
theorem RowAt.at (h : RowAt w X e k v xs) (hn : 0 < xs.length) : ∃ g cap, v = .slice (some ⟨g, 0, none⟩) xs.length cap ∧ ¬ X g ∧ g < w.heap.size ∧ xs.length ≤ cap ∧ cap ≤ maxLen ∧ w.frozen? ⟨g, 0, none⟩ = false ∧
    (∀ j i u, (xs[j]?.getD [])[i]? = some u → w.cell? ⟨g, j * k + i, none⟩ = some u) ∧ (∀ i, w.frozen? ⟨g, i, none⟩ = false) ∧ ∃ cur, Blk w g e cur := by
  rcases h.2 with ⟨rfl, h0⟩ | ⟨g, cap, cur, rfl, hx, hk, h1, h2, h3, h4⟩
  · subst h0; simp at hn
  · refine ⟨g, cap, rfl, hx, hk.lt, h1, h2, hk.frozen 0, fun j i u hu => ?_, fun i => hk.frozen i, cur, hk⟩
    obtain ⟨hj, hi, hf⟩ := flat_get h.1 hu
    have hlt : j * k + i < xs.length * k := Nat.lt_of_lt_of_le (by omega : j * k + i < j * k + k) (by rw [← Nat.succ_mul]; exact Nat.mul_le_mul_right _ hj)
    rw [hk.cell]
    rw [← h4, List.getElem?_take_of_lt hlt] at hf
    simpa using hf
theorem RowAt.row (h : RowAt w X e k v xs) : ∃ A c, v = .slice A xs.length c ∧ RdRow w A xs.length k xs ∧ xs.length ≤ c ∧ c ≤ maxLen ∧ (∀ b off, A = some ⟨b, off, none⟩ → off = 0 ∧ ¬ X b ∧ b < w.heap.size ∧ ∃ cur, Blk w b e cur) := by
  rcases h.2 with ⟨rfl, rfl⟩ | ⟨g, cap, cur, rfl, hx, hk, h1, h2, h3, h4⟩
  · exact ⟨none, 0, rfl, RdRow.nil _ _ _, Nat.le_refl _, by unfold maxLen; omega, fun b off e => by cases e⟩
  · refine ⟨_, cap, rfl, ⟨rfl, h.1, fun _ => ⟨g, 0, rfl, hk.lt, fun j i u hu => ?_⟩⟩, h1, h2, fun b off e => by cases e; exact ⟨rfl, hx, hk.lt, cur, hk⟩⟩
    have hn : 0 < xs.length := by have := (flat_get h.1 hu).1; omega
    obtain ⟨g', cap', e', _, _, _, _, _, hc, _⟩ := RowAt.at h hn
    have : g = g' := by injection e' with e'; injection e' with e'; injection e'
    subst this
    rw [Nat.zero_add]
    exact hc j i u hu
/-- A cell of the row is written. -/
theorem RowAt.set {g : Nat} {n cap : Nat} (h : RowAt w X e k (.slice (some ⟨g, 0, none⟩) n cap) xs) {j i : Nat} (hj : j < xs.length) (hi : i < k) (u : Value) :
    RowAt (w.setCell ⟨g, j * k + i, none⟩ u) X e k (.slice (some ⟨g, 0, none⟩) n cap) (xs.set j ((xs[j]?.getD []).set i u)) := by
  refine ⟨?_, ?_⟩
  · intro x hx
    rcases List.mem_or_eq_of_mem_set hx with hx | rfl
    · exact h.1 x hx
    · rw [List.length_set]; exact h.len hj
  · rcases h.2 with ⟨h0, _⟩ | ⟨g', cap', cur, e', hx, hk, h1, h2, h3, h4⟩
    · cases h0
    · cases e'
      refine .inr ⟨g, cap, _, by rw [List.length_set], hx, hk.set_ _ u, by rw [List.length_set]; exact h1, h2, by simpa using h3, ?_⟩
      rw [List.length_set, Array.toList_setIfInBounds, List.take_set, h4]
      exact flat_set u h.1 hj hi
end
end Go.Proofs.Ytkmhldjebopljaa
