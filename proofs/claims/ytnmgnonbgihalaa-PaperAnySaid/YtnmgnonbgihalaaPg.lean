import Derived.Test.YtnmgnonbgihalaaPf
import Derived.Test.YtnmgnonbgihalaaPc
import Derived.Test.YtnmgnonbgihalaaPa
import Derived.StillTail
import Derived.Test.YtnmgnonbgihalaaPb
/-
  Check of package paper (made by gen_check2.py, mkpa.py).
-/
namespace Go.Proofs.Ytnmgnonbgihalaa
open Go.RowKit RG

/-- What a bank leads to. -/
structure BkR (w : World) (Q Wd : Option Addr) (B : Bank) : Prop where
  qs : RdRow w Q B.qs.length 3 (B.qs.map qCells)
  ws : RdInts w Wd B.wanted.length B.wanted
  nq : B.qs.length ≤ maxLen
  nw : B.wanted.length ≤ maxLen
theorem BkR.below {w w' : World} {Q Wd : Option Addr} {B : Bank} (h : BkR w Q Wd B) (hb : Below w.heap.size w w') : BkR w' Q Wd B := ⟨h.qs.below hb, h.ws.below hb, h.nq, h.nw⟩
theorem part_of {B : Bank} (h1 : numErr B = 0) (h2 : (qsE B).2 = 0) : B.qs.length ≤ 16 ∧ B.wanted.length ≤ 4 ∧ ∀ q ∈ B.qs, 0 ≤ q.part ∧ q.part < B.wanted.length := by
  unfold numErr at h1
  split at h1
  · cases h1
  rename_i a1
  simp only [not_or, Bool.not_eq_false] at a1
  have b1 := inI_iff.1 a1.1
  have b2 := inI_iff.1 a1.2
  refine ⟨by omega, by omega, fun q hq => ?_⟩
  obtain ⟨i, hi, rfl⟩ := List.mem_iff_getElem.1 hq
  have := fErr_zero h2 i (Nat.zero_le _) (by omega)
  rw [List.getElem?_eq_getElem hi, Option.getD_some] at this
  unfold qErr at this
  split at this
  · cases this
  rename_i c1
  simp only [Bool.not_eq_false] at c1
  have d1 := inI_iff.1 c1
  omega
set_option maxRecDepth 100000 in
set_option maxHeartbeats 2000000 in
theorem Check_any (Q Wd : Option Addr) (cq cw : Nat) (B : Bank) (w : World) (h : BkR w Q Wd B) :
    Calls Try.prog 16 #[bkV Q Wd cq cw B] w fun e w' => e = .returned (.tuple #[.int .i64 (checkP B).1, .int .i64 (checkP B).2.1, .int .i64 (checkP B).2.2]) ∧ Below w.heap.size w w' := by
  obtain ⟨r, hr⟩ : ∃ r, checkP B = r := ⟨_, rfl⟩
  rw [hr]
  unfold checkP at hr
  obtain ⟨r1, r2, r3⟩ := r
  have hNu := hide (fun W => numErr_any Q Wd cq cw B W)
  have hQe := hide (fun W => qErrors_any Q Wd cq cw B W)
  have hFq := hide (fun p W (hb : Below w.heap.size w W) (hp : Blk W p 27 #[.slice Q B.qs.length cq, .slice Wd B.wanted.length cw, .int .i64 B.lo, .int .i64 B.hi]) => firstQ Q Wd cq cw p B W (h.qs.below hb) h.nq h.nw hp)
  have hWe0 := hide (fun (h1 : numErr B = 0) (h2 : (qsE B).2 = 0) W (hb : Below w.heap.size w W) => wErrors_any Q Wd cq cw B W (h.qs.below hb) (part_of h1 h2).1 (fun q hq => ((part_of h1 h2).2.2 q hq).1) (fun x => by
    have h3 := part_of h1 h2
    unfold partAt
    by_cases hx : x < B.qs.length
    · rw [List.getElem?_eq_getElem hx, Option.getD_some]
      have := h3.2.2 _ (List.getElem_mem hx)
      omega
    · rw [List.getElem?_eq_none (by omega)]
      decide))
  have hFw0 := hide (fun (h1 : numErr B = 0) (h2 : (qsE B).2 = 0) p W (hb : Below w.heap.size w W) (hp : Blk W p 107 #[.int .i64 (leftP B 0 0 : Nat), .int .i64 (leftP B 0 1 : Nat), .int .i64 (leftP B 0 2 : Nat), .int .i64 (leftP B 0 3 : Nat)]) => firstW Wd cw p B W (h.ws.below hb) (part_of h1 h2).2.1 hp)
  clear h
  generalize numErr B = nu at *
  generalize qsE B = qe at *
  generalize wsE B = we at *
  obtain ⟨qe1, qe2⟩ := qe
  obtain ⟨we1, we2⟩ := we
  simp only at hr hFq hWe0 hFw0
  unfold bkV at *
  obtain ⟨W, hW⟩ : ∃ x, w.alloc (.cells #[.slice Q B.qs.length cq, .slice Wd B.wanted.length cw, .int .i64 B.lo, .int .i64 B.hi] 27) = x := ⟨_, rfl⟩
  have kb := hide (show Blk W w.heap.size 27 #[.slice Q B.qs.length cq, .slice Wd B.wanted.length cw, .int .i64 B.lo, .int .i64 B.hi] by rw [← hW]; exact blkNew rfl)
  have hB := hide (show Below w.heap.size w W by rw [← hW]; exact (Below.refl _ _).alloc (Nat.le_refl _) _)
  replace hW := hide hW
  go_enter Try.func16, Try.ntmps16
  go_upto_region 1 with fail
  rw [hW.out]
  clear hW
  have r0' : W.cell? ⟨w.heap.size, 0, none⟩ = some (.slice Q B.qs.length cq) := kb.out.cell 0
  have r1' : W.cell? ⟨w.heap.size, 1, none⟩ = some (.slice Wd B.wanted.length cw) := kb.out.cell 1
  have r2' : W.cell? ⟨w.heap.size, 2, none⟩ = some (.int .i64 B.lo) := kb.out.cell 2
  have r3' : W.cell? ⟨w.heap.size, 3, none⟩ = some (.int .i64 B.hi) := kb.out.cell 3
  go_wp2_with fail
  refine (hNu.out _).mono ?_
  rintro e w2 ⟨rfl, hb⟩
  replace kb := hide (kb.out.below hb kb.out.lt)
  replace hB := hide (hB.out.trans (hb.mono hB.out.size))
  clear hb r0' r1' r2' r3' hNu
  by_cases h1 : nu ≠ 0
  · have b1 : (nu != 0) = true := by rw [bne_iff_ne]; exact h1
    rw [if_pos h1] at hr
    cases hr
    replace h1 := hide h1
    go_wp2
    go_ret3
    exact ⟨rfl, hB.out⟩
  · rw [if_neg h1] at hr
    obtain rfl : nu = 0 := by simpa using h1
    clear h1
    go_wp2
    refine region_grow [IsV (.pointer (some ⟨w.heap.size, 0, none⟩)), IsV (.slice Q B.qs.length cq), IsV (.agg #[.slice Q B.qs.length cq, .slice Wd B.wanted.length cw, .int .i64 B.lo, .int .i64 B.hi]), PClos 69 27 #[.slice Q B.qs.length cq, .slice Wd B.wanted.length cw, .int .i64 B.lo, .int .i64 B.hi], IsV (.tuple #[.int .i64 qe1, .int .i64 qe2]), IsV (.tuple #[.int .i64 qe1, .int .i64 qe2]), IsV (.int .i64 qe1), IsV (.int .i64 qe2), IsV (.int .i64 qe1), IsV (.int .i64 qe2)] (by kernel_rfl) (by kernel_rfl) rfl ?_ ?_ ?_
    · simp [AllStb, IsV.stb, PClos.stb]
    · refine ⟨?_, ?_, ?_, ?_, ?_, ?_, ?_, ?_, ?_, ?_, trivial⟩
      all_goals
        intro y w6 K Qq Cv hC hd hV
        have k6 := kb.out.below hC kb.out.lt
        have r0 : w6.cell? ⟨w.heap.size, 0, none⟩ = some (.slice Q B.qs.length cq) := k6.cell 0
        have r1 : w6.cell? ⟨w.heap.size, 1, none⟩ = some (.slice Wd B.wanted.length cw) := k6.cell 1
        have r2 : w6.cell? ⟨w.heap.size, 2, none⟩ = some (.int .i64 B.lo) := k6.cell 2
        have r3 : w6.cell? ⟨w.heap.size, 3, none⟩ = some (.int .i64 B.hi) := k6.cell 3
        have hBw := hB.out.trans (hC.mono hB.out.size)
        simp [deps, VL, IsV, Region.binds] at hd
      · simp only [putAll, Act.put]; go_simp; intro hK; exact hK _ _ (hV _ _ hC (Below.refl _ _) rfl)
      · simp only [putAll, Act.put]; go_simp; intro hK; exact hK _ _ (hV _ _ hC (Below.refl _ _) rfl)
      · simp only [putAll, Act.put]; go_simp; intro hK; exact hK _ _ (hV _ _ hC (Below.refl _ _) rfl)
      · simp only [putAll, Act.put]; go_simp; intro hK; refine (hQe.out w6).mono ?_; rintro e w7 ⟨⟨x, rfl, hx⟩, hb7⟩; exact hK _ _ (hV _ _ (hC.trans (hb7.mono hC.size)) hb7 hx)
      · obtain ⟨e1, p, e2, hp⟩ := hd
        have hcall := hide (hFq.out p w6 hBw hp)
        simp only [putAll, Act.put]; go_simp; intro hK; refine hcall.out.mono ?_; rintro e w7 ⟨rfl, hb7⟩; exact hK _ _ (hV _ _ (hC.trans (hb7.mono hC.size)) hb7 rfl)
      · simp only [putAll, Act.put]; go_simp; intro hK; exact hK _ _ (hV _ _ hC (Below.refl _ _) rfl)
      · simp only [putAll, Act.put]; go_simp; intro hK; exact hK _ _ (hV _ _ hC (Below.refl _ _) rfl)
      · simp only [putAll, Act.put]; go_simp; intro hK; exact hK _ _ (hV _ _ hC (Below.refl _ _) rfl)
      · simp only [putAll, Act.put]; go_simp; intro hK; exact hK _ _ (hV _ _ hC (Below.refl _ _) rfl)
      · simp only [putAll, Act.put]; go_simp; intro hK; exact hK _ _ (hV _ _ hC (Below.refl _ _) rfl)
    intro y w6 hC hd
    simp [EndsL, IsV] at hd
    obtain ⟨-, -, -, -, d4, d5, d6, d7, d8, d9⟩ := hd
    simp only [putAll, Act.put]
    rw [d4, d5, d6, d7, d8, d9]
    clear d4 d5 d6 d7 d8 d9
    simp only [List.setIfInBounds_toArray, List.set_cons_succ, List.set_cons_zero]
    replace kb := hide (kb.out.below hC kb.out.lt)
    replace hB := hide (hB.out.trans (hC.mono hB.out.size))
    clear hC
    by_cases h3 : qe2 ≠ 0
    · have b1 : (qe2 != 0) = true := by rw [bne_iff_ne]; exact h3
      rw [if_pos h3] at hr
      cases hr
      replace h3 := hide h3
      go_wp2
      go_ret3
      exact ⟨rfl, hB.out⟩
    · rw [if_neg h3] at hr
      obtain rfl : qe2 = 0 := by simpa using h3
      have hWe := hide (fun W hb => hWe0.out (by trivial) (by trivial) W hb)
      have hFw := hide (fun p W hb hp => hFw0.out (by trivial) (by trivial) p W hb hp)
      clear h3 hFq hQe hWe0 hFw0
      go_wp2
      refine region_grow [IsV (.pointer (some ⟨w.heap.size, 1, none⟩)), IsV (.slice Wd B.wanted.length cw), IsV (.agg #[.slice Q B.qs.length cq, .slice Wd B.wanted.length cw, .int .i64 B.lo, .int .i64 B.hi]), PClos 70 107 #[.int .i64 (leftP B 0 0 : Nat), .int .i64 (leftP B 0 1 : Nat), .int .i64 (leftP B 0 2 : Nat), .int .i64 (leftP B 0 3 : Nat)], IsV (.tuple #[.int .i64 we1, .int .i64 we2]), IsV (.tuple #[.int .i64 we1, .int .i64 we2]), IsV (.int .i64 we1), IsV (.int .i64 we2), IsV (.int .i64 we1), IsV (.int .i64 we2)] (by kernel_rfl) (by kernel_rfl) rfl ?_ ?_ ?_
      · simp [AllStb, IsV.stb, PClos.stb]
      · refine ⟨?_, ?_, ?_, ?_, ?_, ?_, ?_, ?_, ?_, ?_, trivial⟩
        all_goals
          intro y w6 K Qq Cv hC hd hV
          have k6 := kb.out.below hC kb.out.lt
          have r0 : w6.cell? ⟨w.heap.size, 0, none⟩ = some (.slice Q B.qs.length cq) := k6.cell 0
          have r1 : w6.cell? ⟨w.heap.size, 1, none⟩ = some (.slice Wd B.wanted.length cw) := k6.cell 1
          have r2 : w6.cell? ⟨w.heap.size, 2, none⟩ = some (.int .i64 B.lo) := k6.cell 2
          have r3 : w6.cell? ⟨w.heap.size, 3, none⟩ = some (.int .i64 B.hi) := k6.cell 3
          have hBw := hB.out.trans (hC.mono hB.out.size)
          simp [deps, VL, IsV, Region.binds] at hd
        · simp only [putAll, Act.put]; go_simp; intro hK; exact hK _ _ (hV _ _ hC (Below.refl _ _) rfl)
        · simp only [putAll, Act.put]; go_simp; intro hK; exact hK _ _ (hV _ _ hC (Below.refl _ _) rfl)
        · simp only [putAll, Act.put]; go_simp; intro hK; exact hK _ _ (hV _ _ hC (Below.refl _ _) rfl)
        · simp only [putAll, Act.put]; go_simp; intro hK; refine (hWe.out w6 hBw).mono ?_; rintro e w7 ⟨⟨x, rfl, hx⟩, hb7⟩; exact hK _ _ (hV _ _ (hC.trans (hb7.mono hC.size)) hb7 hx)
        · obtain ⟨e1, p, e2, hp⟩ := hd
          have hcall := hide (hFw.out p w6 hBw hp)
          simp only [putAll, Act.put]; go_simp; intro hK; refine hcall.out.mono ?_; rintro e w7 ⟨rfl, hb7⟩; exact hK _ _ (hV _ _ (hC.trans (hb7.mono hC.size)) hb7 rfl)
        · simp only [putAll, Act.put]; go_simp; intro hK; exact hK _ _ (hV _ _ hC (Below.refl _ _) rfl)
        · simp only [putAll, Act.put]; go_simp; intro hK; exact hK _ _ (hV _ _ hC (Below.refl _ _) rfl)
        · simp only [putAll, Act.put]; go_simp; intro hK; exact hK _ _ (hV _ _ hC (Below.refl _ _) rfl)
        · simp only [putAll, Act.put]; go_simp; intro hK; exact hK _ _ (hV _ _ hC (Below.refl _ _) rfl)
        · simp only [putAll, Act.put]; go_simp; intro hK; exact hK _ _ (hV _ _ hC (Below.refl _ _) rfl)
      intro y w6 hC hd
      simp [EndsL, IsV] at hd
      obtain ⟨-, -, -, -, d4, d5, d6, d7, d8, d9⟩ := hd
      simp only [putAll, Act.put]
      rw [d4, d5, d6, d7, d8, d9]
      clear d4 d5 d6 d7 d8 d9
      simp only [List.setIfInBounds_toArray, List.set_cons_succ, List.set_cons_zero]
      replace kb := hide (kb.out.below hC kb.out.lt)
      replace hB := hide (hB.out.trans (hC.mono hB.out.size))
      clear hC
      by_cases h4 : we2 ≠ 0
      · have b1 : (we2 != 0) = true := by rw [bne_iff_ne]; exact h4
        rw [if_pos h4] at hr
        cases hr
        replace h4 := hide h4
        go_wp2
        go_ret3
        exact ⟨rfl, hB.out⟩
      · rw [if_neg h4] at hr
        obtain rfl : we2 = 0 := by simpa using h4
        cases hr
        clear h4
        go_wp2
        go_ret3
        exact ⟨rfl, hB.out⟩
end Go.Proofs.Ytnmgnonbgihalaa

/-
  How hard a question is.
-/
namespace Go.Proofs.Ytnmgnonbgihalaa
open Go.RowKit RG

theorem weight_eq (q : Qn) (h : q.asked ≠ 0) : weight q = (q.wrong * 1000).tdiv q.asked := by unfold weight; rw [if_neg h]
set_option maxHeartbeats 1000000 in
theorem weight_any (q : Qn) (w : World) (ha : 0 ≤ q.asked ∧ q.asked ≤ 100000) (hw : 0 ≤ q.wrong ∧ q.wrong ≤ q.asked) :
    Calls Try.prog 71 #[.agg (qCells q).toArray] w fun e w' => e = .returned (.int .i64 (weight q)) ∧ w' = w.alloc (.cells (qCells q).toArray 61) := by
  obtain ⟨p, a, x⟩ := q
  simp only at ha hw
  have hbd : 0 ≤ weight ⟨p, a, x⟩ ∧ weight ⟨p, a, x⟩ ≤ 1000 := weight_bd ha.1 hw.1 hw.2
  have he := weight_eq ⟨p, a, x⟩
  simp only at he
  unfold qCells
  simp only
  have kb := hide (blkNew (w := w) (t := 61) (cs := #[.int .i64 p, .int .i64 a, .int .i64 x]) rfl)
  have c1 := kb.out.cell 1
  have c2 := kb.out.cell 2
  replace c1 : World.cell? _ ⟨w.heap.size, 1, none⟩ = some (.int .i64 a) := c1
  replace c2 : World.cell? _ ⟨w.heap.size, 2, none⟩ = some (.int .i64 x) := c2
  by_cases h0 : a = 0
  · subst h0
    have hz : weight ⟨p, 0, x⟩ = 500 := rfl
    rw [hz]
    clear he hz hbd
    go_enter Try.func71, Try.ntmps71
    go_wp2
    go_ret
    exact ⟨rfl, rfl⟩
  · have h1 : (a == 0) = false := by rw [beq_eq_false_iff_ne]; exact h0
    have hq := he h0
    generalize weight ⟨p, a, x⟩ = r at *
    have hm : IntKind.i64.wrap (x * 1000) = x * 1000 := by rw [IntKind.wrap_i64]; omega
    have hd : IntKind.i64.wrap ((x * 1000).tdiv a) = r := by rw [← hq, IntKind.wrap_i64]; omega
    clear he
    replace hq := hide hq
    go_enter Try.func71, Try.ntmps71
    go_wp2
    go_ret
    exact ⟨rfl, rfl⟩
end Go.Proofs.Ytnmgnonbgihalaa

/-
  The rule for a region whose order Go leaves open, by one invariant of what is listed, of the values and of the world.
-/
namespace Go.Proofs.Ytnmgnonbgihalaa.RG
open Go

section
variable {P : Program}
/-- The obligation of one operation. -/
def OneI (P : Program) (ops : Array Oper) (I : (Nat → Bool) → (Nat → Value) → World → Prop) (a0 : Act) (i : Nat) (o : Oper) : Prop :=
  ∀ (f : Nat → Bool) (y : Nat → Value) (w : World) (K : Act → World → Prop) (Q : Exit → Act → World → Prop) (Cv : Value → World → Prop), I f y w → f i = false → (∀ e ∈ o.after.toList, Region.binds .any e = true → f e.on = true) →
    (∀ v w', I (fun k => decide (k = i) || f k) (upd y i v) w' → Cv v w') → (∀ v w', Cv v w' → K ((putAll ops.toList 0 y a0).put o.dst v) w') →
    if Region.wanted o (yielded ops (putAll ops.toList 0 y a0).tmps) then o.wp P (putAll ops.toList 0 y a0) w K Q else K ((putAll ops.toList 0 y a0).put o.dst undef) w
def AllI (P : Program) (ops : Array Oper) (I : (Nat → Bool) → (Nat → Value) → World → Prop) (a0 : Act) : List Oper → Nat → Prop
  | [], _ => True
  | o :: r, i => OneI P ops I a0 i o ∧ AllI P ops I a0 r (i + 1)
theorem AllI.get {ops : Array Oper} {I : (Nat → Bool) → (Nat → Value) → World → Prop} {a0 : Act} :
    ∀ {l : List Oper} {i j : Nat} {o : Oper}, AllI P ops I a0 l i → l[j]? = some o → OneI P ops I a0 (i + j) o
  | [], _, _, _, _, hj => by simp at hj
  | o' :: r, i, 0, o, h, hj => by
    simp only [List.getElem?_cons_zero, Option.some.injEq] at hj
    subst hj; exact h.1
  | o' :: r, i, j + 1, o, h, hj => by
    simp only [List.getElem?_cons_succ] at hj
    have := AllI.get h.2 hj
    rwa [show i + (j + 1) = i + 1 + j by omega]
theorem wpAny_inv {ops : Array Oper} {I : (Nat → Bool) → (Nat → Value) → World → Prop} {a0 : Act} {Q : Exit → Act → World → Prop}
    (hok : okB ops.toList 0 = true) (hall : AllI P ops I a0 ops.toList 0)
    (hend : ∀ f y w, (∀ k, k < ops.size → f k = true) → I f y w → Q .normal (putAll ops.toList 0 y a0) w) :
    ∀ (fuel : Nat) (listed : Array Bool) (y : Nat → Value) (w : World), listed.size = ops.size → cnt (fun j => !listed.getD j true) ops.size ≤ fuel →
      I (fun k => listed.getD k false) y w → wpAny P .any ops Q fuel listed (putAll ops.toList 0 y a0) w := by
  have hdone : ∀ (listed : Array Bool) (y : Nat → Value) (w : World), listed.size = ops.size → I (fun k => listed.getD k false) y w →
      (∀ j, j < ops.size → listed.getD j true = true) → Q .normal (putAll ops.toList 0 y a0) w := by
    intro listed y w hs hI hl
    refine hend _ y w (fun k hk => ?_) hI
    have := hl k hk
    simpa [Array.getD, hs, hk] using this
  have hacyc : ∀ (l : List Oper) (i j : Nat) (o : Oper), okB l i = true → l[j]? = some o → ∀ e ∈ o.after, Region.binds .any e = true → e.on < i + j := by
    intro l
    induction l with
    | nil => intro i j o _ hj; simp at hj
    | cons o' r ih =>
      intro i j o h hj e he hbb
      obtain ⟨h1, _, h3⟩ := okB_cons h
      cases j with
      | zero => simp only [List.getElem?_cons_zero, Option.some.injEq] at hj; subst hj; exact h1 e he hbb
      | succ j =>
        simp only [List.getElem?_cons_succ] at hj
        have := ih (i + 1) j o h3 hj e he hbb
        omega
  have hready : ∀ (listed : Array Bool), listed.size = ops.size → Region.ready .any ops listed = [] → ∀ j, j < ops.size → listed.getD j true = true := by
    intro listed hs hr j
    induction j using Nat.strongRecOn with
    | ind j ih =>
      intro hj
      cases hl : listed.getD j true with
      | true => rfl
      | false =>
        have hm : j ∈ Region.ready .any ops listed := by
          rw [mem_ready]
          refine ⟨hl, ops[j], Array.getElem?_eq_getElem hj, fun e he hbb => ?_⟩
          have := hacyc ops.toList 0 j ops[j] hok (by simp [hj]) e he hbb
          have h2 := ih e.on (by omega) (by omega)
          simpa [Array.getD, hs, show e.on < ops.size by omega] using h2
        rw [hr] at hm
        cases hm
  intro fuel
  induction fuel with
  | zero =>
    intro listed y w hs hc hI
    have hall' : ∀ j, j < ops.size → listed.getD j true = true := fun j hj => by
      have := cnt_zero _ _ (Nat.le_zero.1 hc) j hj
      simpa using this
    refine ⟨?_, hdone listed y w hs hI hall'⟩
    rw [List.eq_nil_iff_forall_not_mem]
    intro j hj
    rw [mem_ready] at hj
    obtain ⟨h1, o, ho, _⟩ := hj
    have := hall' j (Array.getElem?_eq_some_iff.1 ho).1
    rw [h1] at this
    cases this
  | succ fuel ih =>
    intro listed y w hs hc hI
    refine ⟨fun hr => hdone listed y w hs hI (hready listed hs hr), fun i hi => ?_⟩
    rw [mem_ready] at hi
    obtain ⟨hl, o, ho, hdep⟩ := hi
    have hlt : i < ops.size := (Array.getElem?_eq_some_iff.1 ho).1
    have hol : ops.toList[i]? = some o := by simpa using ho
    have h1 := AllI.get hall hol
    rw [Nat.zero_add] at h1
    have hset : (fun k => (listed.setIfInBounds i true).getD k false) = fun k => decide (k = i) || listed.getD k false := by
      funext k
      by_cases e : i = k
      · subst e; simp [Array.getD, Array.setIfInBounds, hs, hlt]
      · rw [getD_set_ne false e]
        simp [Ne.symm e]
    have hnext : ∀ v w', I (fun k => decide (k = i) || listed.getD k false) (upd y i v) w' → wpAny P .any ops Q fuel (listed.setIfInBounds i true) ((putAll ops.toList 0 y a0).put o.dst v) w' := by
      intro v w' hI'
      rw [putAll_upd ops.toList 0 i y a0 o v hok hol, Nat.zero_add]
      refine ih _ _ _ (by simpa using hs) ?_ ?_
      · have := cnt_lt (fun j => !listed.getD j true) (fun j => !(listed.setIfInBounds i true).getD j true) (fun j hj => by
          by_cases e : i = j
          · subst e; simp [Array.getD, Array.setIfInBounds, hs, hlt] at hj
          · rw [getD_set_ne true e] at hj; exact hj) i (by simp [hl]) (by simp [Array.getD, Array.setIfInBounds, hs, hlt]) ops.size hlt
        omega
      · rw [hset]; exact hI'
    have hfi : listed.getD i false = false := by
      simpa [Array.getD, hs, hlt] using hl
    have h2 := h1 (fun k => listed.getD k false) y w (wpAny P .any ops Q fuel (listed.setIfInBounds i true)) Q (fun v w' => I (fun k => decide (k = i) || listed.getD k false) (upd y i v) w') hI hfi (fun e he hb => hdep e (by simpa using he) hb)
      (fun v w' h => h) (fun v w' h => hnext _ _ h)
    unfold wpOp
    simp only [ho]
    split
    · rename_i hw; simp only [hw, if_true] at h2; exact .inl h2
    · rename_i hw; simp only [hw] at h2; exact h2

/-- THE RULE by an invariant. -/
theorem region_inv {id : Nat} {Q : Exit → Act → World → Prop} {a : Act} {w : World} {l : List Oper} (I : (Nat → Bool) → (Nat → Value) → World → Prop)
    (hm : P.follows .mixedOrders = true) (hok : okB l 0 = true) (h0 : ∀ y, I (fun _ => false) y w.drew)
    (hall : AllI P l.toArray I a l 0) (hend : ∀ f y w, (∀ k, k < l.length → f k = true) → I f y w → Q .normal (putAll l 0 y a) w) :
    (Code.region id l.toArray true).wp P Q a w := by
  refine wp_region_any hm ?_
  have := wpAny_inv (P := P) (ops := l.toArray) (I := I) (a0 := a) (Q := Q) (by simpa using hok) (by simpa using hall) (by simpa using hend) l.toArray.size
    (Array.replicate l.toArray.size false) (start l a) w.drew (by simp) (cnt_le _ _) (by
      have h := h0 (start l a)
      have e : (fun _ => false : Nat → Bool) = fun k => (Array.replicate l.toArray.size false).getD k false := by
        funext k; rw [getD_replicate_false]
      rw [e] at h
      exact h)
  rw [show (l.toArray).toList = l by simp, putAll_start l 0 (start l a) a (fun j o hj e he => by simp [start, hj, he])] at this
  exact this
/-- The same, with what the slots hold at the start. -/
theorem region_inv_at {id : Nat} {Q : Exit → Act → World → Prop} {a : Act} {w : World} {l : List Oper} (I : (Nat → Bool) → (Nat → Value) → World → Prop)
    (hm : P.follows .mixedOrders = true) (hok : okB l 0 = true) (h0 : I (fun _ => false) (start l a) w.drew)
    (hall : AllI P l.toArray I a l 0) (hend : ∀ f y w, (∀ k, k < l.length → f k = true) → I f y w → Q .normal (putAll l 0 y a) w) :
    (Code.region id l.toArray true).wp P Q a w := by
  refine wp_region_any hm ?_
  have := wpAny_inv (P := P) (ops := l.toArray) (I := I) (a0 := a) (Q := Q) (by simpa using hok) (by simpa using hall) (by simpa using hend) l.toArray.size
    (Array.replicate l.toArray.size false) (start l a) w.drew (by simp) (cnt_le _ _) (by
      have e : (fun _ => false : Nat → Bool) = fun k => (Array.replicate l.toArray.size false).getD k false := by
        funext k; rw [getD_replicate_false]
      rw [e] at h0
      exact h0)
  rw [show (l.toArray).toList = l by simp, putAll_start l 0 (start l a) a (fun j o hj e he => by simp [start, hj, he])] at this
  exact this
end
end Go.Proofs.Ytnmgnonbgihalaa.RG

/-
  A long region that draws its order: its frame is looked at slot by slot.
-/
namespace Go.Proofs.Ytnmgnonbgihalaa.RG
open Go

theorem putAll_old : ∀ (l : List Oper) (i : Nat) (y : Nat → Value) (a : Act) (d : Tmp), (l.all fun o => o.dst != some d) = true → (putAll l i y a).tmps.getD d undef = a.tmps.getD d undef
  | [], _, _, _, _, _ => rfl
  | o :: r, i, y, a, d, h => by
    simp only [List.all_cons, Bool.and_eq_true] at h
    simp only [putAll]
    rw [putAll_old r (i + 1) y _ d h.2]
    have h1 := h.1
    cases hd : o.dst with
    | none => rfl
    | some e =>
      rw [hd] at h1
      have hne : e ≠ d := by intro e'; subst e'; simp at h1
      simp [Act.put, Array.getD_eq_getD_getElem?, Array.getElem?_setIfInBounds_ne hne]
theorem putAll_size : ∀ (l : List Oper) (i : Nat) (y : Nat → Value) (a : Act), (putAll l i y a).tmps.size = a.tmps.size
  | [], _, _, _ => rfl
  | o :: r, i, y, a => by
    simp only [putAll]
    rw [putAll_size r]
    cases o.dst <;> simp [Act.put]
theorem putAll_get : ∀ (l : List Oper) (i : Nat) (y : Nat → Value) (a : Act) (j : Nat) (o : Oper) (d : Tmp), okB l i = true → l[j]? = some o → o.dst = some d → d < a.tmps.size → (putAll l i y a).tmps.getD d undef = y (i + j)
  | [], _, _, _, j, o, d, _, hj, _, _ => by simp at hj
  | o' :: r, i, y, a, 0, o, d, hok, hj, hd, hs => by
    simp only [List.getElem?_cons_zero, Option.some.injEq] at hj
    subst hj
    obtain ⟨_, h2, _⟩ := okB_cons hok
    simp only [putAll]
    rw [putAll_old r (i + 1) y _ d (List.all_eq_true.2 fun o2 ho2 => by simpa using h2 o2 ho2 d hd)]
    rw [hd]
    simp [Act.put, Array.getD_eq_getD_getElem?, Array.getElem?_setIfInBounds_self_of_lt hs]
  | o' :: r, i, y, a, j + 1, o, d, hok, hj, hd, hs => by
    obtain ⟨_, _, h3⟩ := okB_cons hok
    simp only [List.getElem?_cons_succ] at hj
    simp only [putAll]
    rw [putAll_get r (i + 1) y _ j o d h3 hj hd (by cases o'.dst <;> simpa [Act.put] using hs)]
    congr 1; omega

/-- The j-th operation writes slot d, which the frame has. -/
def atB (l : List Oper) (n j : Nat) (d : Tmp) : Bool := decide ((l[j]?).bind (·.dst) = some d) && decide (d < n)
theorem atB_of {l : List Oper} {n j : Nat} {d : Tmp} (h : atB l n j d = true) : (∃ o, l[j]? = some o ∧ o.dst = some d) ∧ d < n := by
  simp only [atB, Bool.and_eq_true, decide_eq_true_eq] at h
  obtain ⟨h1, h2⟩ := h
  cases hj : l[j]? with
  | none => rw [hj] at h1; cases h1
  | some o => rw [hj] at h1; exact ⟨⟨o, rfl, h1⟩, h2⟩
/-- Operation o is done if the k-th one, which writes slot d, yields true. -/
def guardB (l : List Oper) (n : Nat) (o : Oper) (k : Nat) (d : Tmp) : Bool := atB l n k d && decide (o.guard = some (k, true)) && o.after.toList.any fun e => decide (e.on = k) && Region.binds .any e
/-- What an operation's obligation may know of the frame. -/
structure Fr (l : List Oper) (a0 : Act) (y : Nat → Value) (T : Act) : Prop where
  get : ∀ j d, atB l a0.tmps.size j d = true → T.tmps.getD d undef = y j
  old : ∀ d v, (l.all fun o => o.dst != some d) = true → a0.tmps.getD d undef = v → T.tmps.getD d undef = v
theorem one_fr {P : Program} {l : List Oper} {C : World → Prop} {Rel : World → World → Prop} {V : Nat → Value → World → Prop} {a0 : Act} {i : Nat} {o : Oper} (hok : okB l 0 = true)
    (hg : decide (o.guard = none) = true ∨ ∃ k d, guardB l a0.tmps.size o k d = true ∧ ∀ v W, V k v W → v = .bool true)
    (h : ∀ (T : Act) (y : Nat → Value) (w : World) (K : Act → World → Prop) (Q : Exit → Act → World → Prop) (Cv : Value → World → Prop), Fr l a0 y T → C w → deps V y w o.after.toList →
      (∀ v w', C w' → Rel w w' → V i v w' → Cv v w') → (∀ v w', Cv v w' → K (T.put o.dst v) w') → o.wp P T w K Q) : One P l.toArray C Rel V a0 i o := by
  intro y w K Q Cv hC hd hV hK
  have hget : ∀ j d, atB l a0.tmps.size j d = true → (putAll l 0 y a0).tmps.getD d undef = y j := fun j d hb => by
    obtain ⟨⟨o, h1, h2⟩, h3⟩ := atB_of hb
    have := putAll_get l 0 y a0 j o d hok h1 h2 h3; rwa [Nat.zero_add] at this
  have hF : Fr l a0 y (putAll l.toArray.toList 0 y a0) := ⟨hget, fun d v h hv => (putAll_old l 0 y a0 d h).trans hv⟩
  have hw : Region.wanted o (yielded l.toArray (putAll l.toArray.toList 0 y a0).tmps) = true := by
    rcases hg with h | ⟨k, d, hb, hv⟩
    · simp [Region.wanted, of_decide_eq_true h]
    · simp only [guardB, Bool.and_eq_true, decide_eq_true_eq, List.any_eq_true] at hb
      obtain ⟨⟨h1, h2⟩, e, h5, h6, h7⟩ := hb
      have hde : ∀ (es : List Edge), deps V y w es → e ∈ es → V k (y k) w := by
        intro es hes
        induction es with
        | nil => intro h; cases h
        | cons e' r ih =>
          intro hm
          rcases List.mem_cons.1 hm with rfl | hm
          · have := hes.1 h7; rwa [h6] at this
          · exact ih hes.2 hm
      have h8 := hv _ _ (hde _ hd h5)
      obtain ⟨⟨o', h9, h10⟩, h11⟩ := atB_of h1
      have hgv := hget k d h1
      rw [h8] at hgv
      have hsz : d < (putAll l 0 y a0).tmps.size := by rw [putAll_size]; exact h11
      have hy : yielded l.toArray (putAll l 0 y a0).tmps k = some true := by
        unfold yielded
        rw [Array.getD_eq_getD_getElem?, Array.getElem?_eq_getElem hsz, Option.getD_some] at hgv
        simp only [List.getElem?_toArray, h9, Option.bind_some, h10, Array.getElem?_eq_getElem hsz, hgv]
      simp [Region.wanted, h2, hy]
  rw [if_pos hw]
  exact h _ y w K Q Cv hF hC hd hV hK
theorem putAll_defers : ∀ (l : List Oper) (i : Nat) (y : Nat → Value) (a : Act), (putAll l i y a).defers = a.defers
  | [], _, _, _ => rfl
  | o :: r, i, y, a => by
    simp only [putAll]
    rw [putAll_defers r]
    cases o.dst <;> rfl
theorem end_fr {l : List Oper} {a0 : Act} {y : Nat → Value} {Q : Act → World → Prop} {W : World} (hok : okB l 0 = true) (h : ∀ tm : Array Value, (∀ j d, atB l a0.tmps.size j d = true → tm.getD d undef = y j) → Q { tmps := tm, defers := a0.defers } W) : Q (putAll l 0 y a0) W := by
  have := h (putAll l 0 y a0).tmps (fun j d hb => by
    obtain ⟨⟨o, h1, h2⟩, h3⟩ := atB_of hb
    have := putAll_get l 0 y a0 j o d hok h1 h2 h3; rwa [Nat.zero_add] at this)
  rw [← putAll_defers l 0 y a0] at this
  exact this
end Go.Proofs.Ytnmgnonbgihalaa.RG

/-
  An operation of a drawn region is looked at with the frame's slots named one by one (not written out): for regions with a tail, and for regions by an invariant.
-/
namespace Go.Proofs.Ytnmgnonbgihalaa.RG
open Go

theorem fr_of {l : List Oper} {a0 : Act} {y : Nat → Value} (hok : okB l 0 = true) : Fr l a0 y (putAll l 0 y a0) :=
  ⟨fun j d hb => by
    obtain ⟨⟨o, h1, h2⟩, h3⟩ := atB_of hb
    have := putAll_get l 0 y a0 j o d hok h1 h2 h3; rwa [Nat.zero_add] at this, fun d v h hv => (putAll_old l 0 y a0 d h).trans hv⟩
theorem oneT_fr {P : Program} {ops : Array Oper} {l : List Oper} {C : World → Prop} {Rel : World → World → Prop} {V : Nat → Value → World → Prop} {a0 : Act} {i : Nat} {o : Oper} (hok : okB l 0 = true) (hg : decide (o.guard = none) = true)
    (h : ∀ (T : Act) (y : Nat → Value) (w : World) (K : Act → World → Prop) (Q : Exit → Act → World → Prop) (Cv : Value → World → Prop), Fr l a0 y T → C w → deps V y w o.after.toList →
      (∀ v w', C w' → Rel w w' → V i v w' → Cv v w') → (∀ v w', Cv v w' → K (T.put o.dst v) w') → o.wp P T w K Q) : OneT P ops l C Rel V a0 i o := by
  intro y w K Q Cv hC hd hV hK
  rw [if_pos (by simp [Region.wanted, of_decide_eq_true hg])]
  exact h _ y w K Q Cv (fr_of hok) hC hd hV hK
theorem oneI_fr {P : Program} {l : List Oper} {I : (Nat → Bool) → (Nat → Value) → World → Prop} {a0 : Act} {i : Nat} {o : Oper} (hok : okB l 0 = true) (hg : decide (o.guard = none) = true)
    (h : ∀ (T : Act) (f : Nat → Bool) (y : Nat → Value) (w : World) (K : Act → World → Prop) (Q : Exit → Act → World → Prop) (Cv : Value → World → Prop), Fr l a0 y T → I f y w → f i = false → (∀ e ∈ o.after.toList, Region.binds .any e = true → f e.on = true) →
      (∀ v w', I (fun k => decide (k = i) || f k) (upd y i v) w' → Cv v w') → (∀ v w', Cv v w' → K (T.put o.dst v) w') → o.wp P T w K Q) : OneI P l.toArray I a0 i o := by
  intro f y w K Q Cv hI hf hd hV hK
  rw [if_pos (by simp [Region.wanted, of_decide_eq_true hg])]
  exact h _ f y w K Q Cv (fr_of hok) hI hf hd hV hK
end Go.Proofs.Ytnmgnonbgihalaa.RG

/-
  The rule for a region whose order Go leaves open, of which some operations change the world, one behind the other (each waits for the one before), and each operation gives one value, in whichever of these worlds.
-/
namespace Go.Proofs.Ytnmgnonbgihalaa.RG
open Go

section
variable {P : Program}
def depsC (L : List Value) (y : Nat → Value) : List Edge → Prop
  | [] => True
  | e :: r => (Region.binds .any e = true → y e.on = L.getD e.on undef) ∧ depsC L y r
theorem depsC_of {L : List Value} {y : Nat → Value} : ∀ (l : List Edge), (∀ e ∈ l, Region.binds .any e = true → y e.on = L.getD e.on undef) → depsC L y l
  | [], _ => trivial
  | e :: r, h => ⟨h e (List.mem_cons_self ..), depsC_of r fun e' he' => h e' (List.mem_cons_of_mem _ he')⟩
/-- How many effects can come before the operation i at most: up to the first that waits for it. -/
def depE (l : List Oper) (i e : Nat) : Bool := match l[e]? with | some o => o.after.toList.any fun d => Region.binds .any d && d.on == i | none => false
def mxE (l : List Oper) (i : Nat) : List Nat → Nat
  | [] => 0
  | e :: r => if depE l i e = true then 0 else mxE l i r + 1
/-- The obligation of an operation that leaves the world as it is. -/
def StillC (P : Program) (ops : Array Oper) (L : List Value) (Ws : Nat → World) (E : List Nat) (a0 : Act) (i : Nat) (o : Oper) : Prop :=
  ∀ (y : Nat → Value) (j : Nat) (K : Act → World → Prop) (Q : Exit → Act → World → Prop), depsC L y o.after.toList → j ≤ mxE ops.toList i E →
    K ((putAll ops.toList 0 y a0).put o.dst (L.getD i undef)) (Ws j) →
    if Region.wanted o (yielded ops (putAll ops.toList 0 y a0).tmps) then o.wp P (putAll ops.toList 0 y a0) (Ws j) K Q else K ((putAll ops.toList 0 y a0).put o.dst undef) (Ws j)
/-- That of the b-th effect. -/
def EffC (P : Program) (ops : Array Oper) (L : List Value) (Ws : Nat → World) (a0 : Act) (i : Nat) (o : Oper) (b : Nat) : Prop :=
  ∀ (y : Nat → Value) (K : Act → World → Prop) (Q : Exit → Act → World → Prop), depsC L y o.after.toList →
    K ((putAll ops.toList 0 y a0).put o.dst (L.getD i undef)) (Ws (b + 1)) →
    if Region.wanted o (yielded ops (putAll ops.toList 0 y a0).tmps) then o.wp P (putAll ops.toList 0 y a0) (Ws b) K Q else K ((putAll ops.toList 0 y a0).put o.dst undef) (Ws b)
def OneC (P : Program) (ops : Array Oper) (L : List Value) (Ws : Nat → World) (E : List Nat) (a0 : Act) (i : Nat) (o : Oper) : Prop :=
  (i ∉ E ∧ StillC P ops L Ws E a0 i o) ∨ ∃ b, E[b]? = some i ∧ EffC P ops L Ws a0 i o b
def AllC (P : Program) (ops : Array Oper) (L : List Value) (Ws : Nat → World) (E : List Nat) (a0 : Act) : List Oper → Nat → Prop
  | [], _ => True
  | o :: r, i => OneC P ops L Ws E a0 i o ∧ AllC P ops L Ws E a0 r (i + 1)
/-- Each effect waits for the one before. -/
def chE (l : List Oper) : List Nat → Bool
  | a :: b :: r => (match l[b]? with | some o => o.after.toList.any fun e => Region.binds .any e && e.on == a | none => false) && decide (a < b) && chE l (b :: r)
  | _ => true
theorem chE_step {l : List Oper} : ∀ {E : List Nat}, chE l E = true → ∀ {b i i' : Nat}, E[b]? = some i → E[b + 1]? = some i' → i < i' ∧ ∃ o, l[i']? = some o ∧ ∃ e ∈ o.after.toList, Region.binds .any e = true ∧ e.on = i
  | [], _, b, i, i', h1, _ => by simp at h1
  | [a], _, b, i, i', _, h2 => by simp at h2
  | a :: c :: r, h, 0, i, i', h1, h2 => by
    simp only [List.getElem?_cons_zero, Option.some.injEq, List.getElem?_cons_succ] at h1 h2
    subst h1; subst h2
    simp only [chE, Bool.and_eq_true, decide_eq_true_eq] at h
    refine ⟨h.1.2, ?_⟩
    have h3 := h.1.1
    split at h3
    · rename_i o ho
      rw [List.any_eq_true] at h3
      obtain ⟨e, he, hb⟩ := h3
      simp only [Bool.and_eq_true, beq_iff_eq] at hb
      exact ⟨o, ho, e, he, hb.1, hb.2⟩
    · cases h3
  | a :: c :: r, h, b + 1, i, i', h1, h2 => by
    simp only [chE, Bool.and_eq_true] at h
    exact chE_step h.2 (by simpa using h1) (by simpa using h2)
theorem chE_lt {l : List Oper} {E : List Nat} (h : chE l E = true) : ∀ (d b : Nat) {i i' : Nat}, E[b]? = some i → E[b + d + 1]? = some i' → i < i'
  | 0, b, i, i', h1, h2 => (chE_step h h1 h2).1
  | d + 1, b, i, i', h1, h2 => by
    have hlt : b + d + 1 < E.length := by have := (List.getElem?_eq_some_iff.1 h2).1; omega
    have h3 : E[b + d + 1]? = some E[b + d + 1] := List.getElem?_eq_getElem hlt
    have := chE_lt h d b h1 h3
    have := (chE_step h h3 (show E[b + d + 1 + 1]? = some i' from h2)).1
    omega
theorem chE_inj {l : List Oper} {E : List Nat} (h : chE l E = true) {b c i : Nat} (h1 : E[b]? = some i) (h2 : E[c]? = some i) : b = c := by
  rcases Nat.lt_trichotomy b c with hl | he | hl
  · have := chE_lt h (c - b - 1) b h1 (by rw [show b + (c - b - 1) + 1 = c by omega]; exact h2); omega
  · exact he
  · have := chE_lt h (b - c - 1) c h2 (by rw [show c + (b - c - 1) + 1 = b by omega]; exact h1); omega
theorem mxE_ge {l : List Oper} {i j : Nat} : ∀ (E : List Nat) (c : Nat), j ≤ c + E.length → (∀ b e o, E[b]? = some e → l[e]? = some o → (∃ d ∈ o.after.toList, Region.binds .any d = true ∧ d.on = i) → j ≤ c + b) → j ≤ c + mxE l i E
  | [], c, h, _ => h
  | e :: r, c, h, hb => by
    unfold mxE
    split
    · rename_i h1
      unfold depE at h1
      split at h1
      · rename_i o ho
        rw [List.any_eq_true] at h1
        obtain ⟨d, hd, hd2⟩ := h1
        simp only [Bool.and_eq_true, beq_iff_eq] at hd2
        exact hb 0 e o rfl ho ⟨d, hd, hd2.1, hd2.2⟩
      · cases h1
    · have := mxE_ge (l := l) (i := i) (j := j) r (c + 1) (by simp only [List.length_cons] at h; omega) (fun b e' o h1 h2 h3 => by have := hb (b + 1) e' o (by simpa using h1) h2 h3; omega)
      omega
def InvC (l : List Oper) (L : List Value) (Ws : Nat → World) (E : List Nat) (f : Nat → Bool) (y : Nat → Value) (w : World) : Prop :=
  (∀ k, f k = true → y k = L.getD k undef) ∧ (∀ k o, f k = true → l[k]? = some o → ∀ e ∈ o.after.toList, Region.binds .any e = true → f e.on = true) ∧ ∃ j, j ≤ E.length ∧ w = Ws j ∧ ∀ b i, E[b]? = some i → f i = decide (b < j)
theorem invC_one {l : List Oper} {L : List Value} {Ws : Nat → World} {E : List Nat} {a0 : Act} (hE : chE l E = true) {i : Nat} {o : Oper} (ho : l[i]? = some o) (h : OneC P l.toArray L Ws E a0 i o) : OneI P l.toArray (InvC l L Ws E) a0 i o := by
  intro f y w K Q Cv hI hf hdep hCv hK
  obtain ⟨hv, hcl, j, hj, rfl, hl⟩ := hI
  have hd : depsC L y o.after.toList := depsC_of _ fun e he hb => hv _ (hdep e he hb)
  have hval : ∀ k, (decide (k = i) || f k) = true → upd y i (L.getD i undef) k = L.getD k undef := by
    intro k hk
    unfold upd
    by_cases e : k = i
    · subst e; rw [if_pos rfl]
    · rw [if_neg e]
      exact hv k (by simpa [e] using hk)
  have hcl2 : ∀ k o', (decide (k = i) || f k) = true → l[k]? = some o' → ∀ e ∈ o'.after.toList, Region.binds .any e = true → (decide (e.on = i) || f e.on) = true := by
    intro k o' hk ho' e he hb
    rw [Bool.or_eq_true]
    right
    by_cases e' : k = i
    · subst e'
      rw [ho] at ho'; cases ho'
      exact hdep e he hb
    · exact hcl k o' (by simpa [e'] using hk) ho' e he hb
  rcases h with ⟨hn, hs⟩ | ⟨b, hb, he⟩
  · have hjm : j ≤ mxE l.toArray.toList i E := by
      have := mxE_ge (l := l) (i := i) (j := j) E 0 (by omega) (fun b e o' h1 h2 h3 => by
        obtain ⟨d, hd, hbb, hon⟩ := h3
        rcases Nat.lt_or_ge b j with hlt | hge
        · exfalso
          have h4 := hl b e h1
          rw [decide_eq_true hlt] at h4
          have h5 := hcl e o' h4 h2 d hd hbb
          rw [hon, hf] at h5
          cases h5
        · omega)
      simpa using this
    refine hs y j K Q hd hjm (hK _ _ (hCv _ _ ⟨hval, hcl2, j, hj, rfl, fun b i' hi' => ?_⟩))
    have : i' ≠ i := fun e => hn (e ▸ List.mem_of_getElem? hi')
    simp only [this, decide_false, Bool.false_or]
    exact hl b i' hi'
  · have h1 := hl b i hb
    rw [hf] at h1
    have hjb : j ≤ b := by simpa using h1.symm
    have hbl := (List.getElem?_eq_some_iff.1 hb).1
    have hjb2 : j = b := by
      rcases Nat.lt_or_ge j b with hlt | hge
      · exfalso
        have hb1 : E[b - 1]? = some E[b - 1] := List.getElem?_eq_getElem (by omega)
        obtain ⟨_, o', ho', e, he', hbb, hon⟩ := chE_step hE hb1 (by rw [show b - 1 + 1 = b by omega]; exact hb)
        rw [ho] at ho'
        cases ho'
        have h2 := hdep e he' hbb
        rw [hon] at h2
        have h3 := hl (b - 1) _ hb1
        rw [h2] at h3
        have : b - 1 < j := by simpa using h3.symm
        omega
      · omega
    subst hjb2
    refine he y K Q hd (hK _ _ (hCv _ _ ⟨hval, hcl2, j + 1, by omega, rfl, fun c i' hi' => ?_⟩))
    by_cases e : i' = i
    · subst e
      have := chE_inj hE hi' hb
      subst this
      simp
    · simp only [e, decide_false, Bool.false_or]
      rw [hl c i' hi']
      have : c ≠ j := fun e' => e (by subst e'; rw [hi'] at hb; exact Option.some.inj hb)
      rw [decide_eq_decide]
      omega
theorem AllC.all {l : List Oper} {L : List Value} {Ws : Nat → World} {E : List Nat} {a0 : Act} (hE : chE l E = true) : ∀ (r : List Oper) (i : Nat), (∀ k o, r[k]? = some o → l[i + k]? = some o) → AllC P l.toArray L Ws E a0 r i → AllI P l.toArray (InvC l L Ws E) a0 r i
  | [], _, _, _ => trivial
  | o :: r, i, hl, h => ⟨invC_one hE (hl 0 o rfl) h.1, AllC.all hE r (i + 1) (fun k o' hk => by have := hl (k + 1) o' (by simpa using hk); rwa [show i + (k + 1) = i + 1 + k by omega] at this) h.2⟩
/-- THE RULE. -/
theorem region_chain {id : Nat} {Q : Exit → Act → World → Prop} {a : Act} {w : World} {l : List Oper} (E : List Nat) (L : List Value) (Ws : Nat → World)
    (hm : P.follows .mixedOrders = true) (hok : okB l 0 = true) (hE : chE l E = true) (hlt : E.all (fun i => decide (i < l.length)) = true) (h0 : Ws 0 = w.drew)
    (hall : AllC P l.toArray L Ws E a l 0) (hend : Q .normal (putAll l 0 (fun k => L.getD k undef) a) (Ws E.length)) :
    (Code.region id l.toArray true).wp P Q a w := by
  refine region_inv (InvC l L Ws E) hm hok (fun y => ⟨fun k hk => (by cases hk), fun k o hk => (by cases hk), 0, Nat.zero_le _, h0.symm, fun b i hb => by simp⟩) (AllC.all hE l 0 (fun k o hk => by rwa [Nat.zero_add]) hall) ?_
  rintro f y w' hf ⟨hv, -, j, hj, rfl, hl⟩
  have hjE : j = E.length := by
    rcases Nat.lt_or_ge j E.length with h | h
    · exfalso
      have h1 := hl j E[j] (List.getElem?_eq_getElem h)
      rw [hf _ (by simpa using List.all_eq_true.1 hlt E[j] (List.getElem_mem h))] at h1
      simp at h1
    · omega
  subst hjE
  rw [putAll_congr l 0 y (fun k => L.getD k undef) a fun k _ hk => hv k (hf k (by omega))]
  exact hend
theorem oneC_still {ops : Array Oper} {L : List Value} {Ws : Nat → World} {E : List Nat} {a0 : Act} {i : Nat} {o : Oper} (m : Nat) (hi : E.contains i = false) (hm : decide (mxE ops.toList i E ≤ m) = true)
    (h : ∀ (y : Nat → Value) (j : Nat) (K : Act → World → Prop) (Q : Exit → Act → World → Prop), depsC L y o.after.toList → j ≤ m → K ((putAll ops.toList 0 y a0).put o.dst (L.getD i undef)) (Ws j) →
      if Region.wanted o (yielded ops (putAll ops.toList 0 y a0).tmps) then o.wp P (putAll ops.toList 0 y a0) (Ws j) K Q else K ((putAll ops.toList 0 y a0).put o.dst undef) (Ws j)) : OneC P ops L Ws E a0 i o :=
  .inl ⟨fun hm => by (rw [← List.contains_iff_mem] at hm; rw [hm] at hi; exact absurd hi (by simp)), fun y j K Q hd hj hK => h y j K Q hd (Nat.le_trans hj (of_decide_eq_true hm)) hK⟩
/-- Worlds one behind the other. -/
def wsC (w0 : World) : List World → Nat → World
  | _, 0 => w0
  | [], _ + 1 => w0
  | w :: r, k + 1 => wsC w r k
theorem oneC_eff {ops : Array Oper} {L : List Value} {Ws : Nat → World} {E : List Nat} {a0 : Act} {i : Nat} {o : Oper} (b : Nat) (hi : E[b]? = some i) (h : EffC P ops L Ws a0 i o b) : OneC P ops L Ws E a0 i o := .inr ⟨b, hi, h⟩
/-- The effect of an append whose run is known. -/
theorem eff_append {ops : Array Oper} {L : List Value} {Ws : Nat → World} {a0 : Act} {i b : Nat} {o : Oper} (hgd : o.guard = none) (s x : Operand) (t : TypeId)
    (ho : o.op = .call { callee := .builtin .append, args := #[s, x], argTypes := #[t, t] }) (v u : Value)
    (hs : ∀ y, depsC L y o.after.toList → (putAll ops.toList 0 y a0).eval s = v) (hx : ∀ y, depsC L y o.after.toList → (putAll ops.toList 0 y a0).eval x = u)
    (hr : (Builtin.append_ #[t, t] o.type #[v, u]).run P (Ws b) = .ok (L.getD i undef) (Ws (b + 1))) : EffC P ops L Ws a0 i o b := by
  intro y K Q hd hK
  have hw : Region.wanted o (yielded ops (putAll ops.toList 0 y a0).tmps) = true := by simp [Region.wanted, hgd]
  rw [if_pos hw]
  unfold Oper.wp execOp
  simp only [ho, resolve, invoke, builtin, Sem.run_bind, Sem.run_pure, Result.andThen_ok, List.map_toArray, List.map_cons, List.map_nil, hs y hd, hx y hd, hr]
  exact hK
end
end Go.Proofs.Ytnmgnonbgihalaa.RG
