import Derived.Test.YtebahhfmpdfdkaaGreatDoorMj
import Derived.Test.YtebahhfmpdfdkaaGreatDoorMm
import Derived.Test.YtebahhfmpdfdkaaGreatDoorMn
/-
  What rights allow, and which of them the form keeps: the mathematics of it.
-/
namespace Go.Proofs.YtebahhfmpdfdkaaGreatDoor
open Go.RowKit RG

theorem Good.circ {S : Sys} (h : Good S) : ∀ i, i < S.cs.length → ∀ x ∈ incOf S.cs i, (cover S.cs S.cs.length x.toNat).testBit i = false := by
  unfold Good checkF at h
  split at h
  · cases h
  · split at h
    · rename_i h2; exact absurd h h2
    · split at h
      · rename_i h2; exact absurd h h2
      · split at h
        · rename_i h2; exact absurd h h2
        · rename_i h2
          intro i hi x hx
          have h3 := firstErr_zero (k := 0) (Classical.not_not.1 h2) i (by omega) (by omega)
          unfold circErr at h3
          split at h3
          · cases h3
          · rename_i h4
            cases hb : (cover S.cs S.cs.length x.toNat).testBit i with
            | false => rfl
            | true => exact absurd (List.any_eq_true.2 ⟨x, hx, hb⟩) h4
theorem Good.cov_refl {S : Sys} (h : Good S) {a : Nat} (ha : a < S.cs.length) : (cover S.cs S.cs.length a).testBit a = true :=
  (cover_iff _ _ _ _ h.inc ha).2 (Reach.refl _ _)
theorem Good.cov_trans {S : Sys} (h : Good S) {a b c : Nat} (ha : a < S.cs.length) (hb : b < S.cs.length) (h1 : (cover S.cs S.cs.length a).testBit b = true) (h2 : (cover S.cs S.cs.length b).testBit c = true) : (cover S.cs S.cs.length a).testBit c = true :=
  (cover_iff _ _ _ _ h.inc ha).2 (((cover_iff _ _ _ _ h.inc ha).1 h1).trans ((cover_iff _ _ _ _ h.inc hb).1 h2))
theorem Good.cov_anti {S : Sys} (h : Good S) {a b : Nat} (ha : a < S.cs.length) (hb : b < S.cs.length) (h1 : (cover S.cs S.cs.length a).testBit b = true) (h2 : (cover S.cs S.cs.length b).testBit a = true) : a = b := by
  have r1 := (cover_iff _ _ _ _ h.inc ha).1 h1
  have r2 := (cover_iff _ _ _ _ h.inc hb).1 h2
  have key := r1 (fun j => j = a ∨ (∃ x ∈ incOf S.cs a, Reach (incOf S.cs) x.toNat j)) (.inl rfl) (fun i hi x hx => by
    rcases hi with rfl | ⟨y, hy, hr⟩
    · exact .inr ⟨x, hx, Reach.refl _ _⟩
    · exact .inr ⟨y, hy, hr.step hx⟩)
  rcases key with rfl | ⟨x, hx, hr⟩
  · rfl
  · exfalso
    have hxl := h.inc a x hx
    have hxn : x.toNat < S.cs.length := by omega
    have := (cover_iff _ _ _ _ h.inc hxn).2 (hr.trans r2)
    rw [h.circ a ha x hx] at this
    cases this

/-- o allows all that r allows. -/
def Ge (S : Sys) (o r : Nat × Nat) : Prop := (cover S.cs S.cs.length o.1).testBit r.1 = true ∧ ∀ j, o.2.testBit j = true → r.2.testBit j = true
/-- A right of the system. -/
def OkR (S : Sys) (r : Nat × Nat) : Prop := r.1 < S.cs.length ∧ r.2 < 2 ^ S.codes.length
theorem Ge.refl {S : Sys} (h : Good S) {r : Nat × Nat} (hr : OkR S r) : Ge S r r := ⟨h.cov_refl hr.1, fun _ h => h⟩
theorem Ge.trans {S : Sys} (h : Good S) {a b c : Nat × Nat} (ha : OkR S a) (hb : OkR S b) (h1 : Ge S a b) (h2 : Ge S b c) : Ge S a c :=
  ⟨h.cov_trans ha.1 hb.1 h1.1 h2.1, fun j hj => h2.2 j (h1.2 j hj)⟩
theorem Ge.anti {S : Sys} (h : Good S) {a b : Nat × Nat} (ha : OkR S a) (hb : OkR S b) (h1 : Ge S a b) (h2 : Ge S b a) : a = b := by
  apply Prod.ext
  · exact h.cov_anti ha.1 hb.1 h1.1 h2.1
  · apply Nat.eq_of_testBit_eq
    intro j
    have h3 := h1.2 j
    have h4 := h2.2 j
    cases h5 : a.2.testBit j <;> cases h6 : b.2.testBit j <;> simp_all
theorem andNot_zero (a b : Nat) : (Bits.andNot a b == 0) = true ↔ ∀ j, a.testBit j = true → b.testBit j = true := by
  rw [beq_iff_eq]
  constructor
  · intro h j hj
    have := congrArg (fun z => z.testBit j) h
    simp only [Nat.zero_testBit] at this
    rw [Bits.testBit_andNot] at this
    cases hb : b.testBit j <;> simp_all
  · intro h
    apply Nat.eq_of_testBit_eq
    intro j
    rw [Bits.testBit_andNot, Nat.zero_testBit]
    have := h j
    cases ha : a.testBit j <;> cases hb : b.testBit j <;> simp_all
theorem allB_iff {S : Sys} {o r : Nat × Nat} : allB S.cs S.cs.length o r = true ↔ Ge S o r := by
  unfold allB Ge
  rw [Bool.and_eq_true, andNot_zero]
theorem weakB_iff {S : Sys} {r o : Nat × Nat} : weakB S.cs S.cs.length r o = true ↔ r ≠ o ∧ Ge S o r := by
  unfold weakB
  rw [Bool.and_eq_true, allB_iff]
  simp
theorem mayB_iff {S : Sys} {c f : Nat} {r : Nat × Nat} : mayB S.cs S.cs.length c f r = true ↔ (cover S.cs S.cs.length r.1).testBit c = true ∧ ∀ j, r.2.testBit j = true → f.testBit j = false := by
  unfold mayB
  rw [Bool.and_eq_true, beq_iff_eq]
  constructor
  · rintro ⟨h1, h2⟩
    refine ⟨h1, fun j hj => ?_⟩
    have := congrArg (fun z => z.testBit j) h2
    simp only [Nat.testBit_and, Nat.zero_testBit] at this
    cases hb : f.testBit j <;> simp_all
  · rintro ⟨h1, h2⟩
    refine ⟨h1, ?_⟩
    apply Nat.eq_of_testBit_eq
    intro j
    rw [Nat.testBit_and, Nat.zero_testBit]
    have := h2 j
    cases ha : r.2.testBit j <;> simp_all
theorem mayB_ge {S : Sys} (h : Good S) {c f : Nat} {r o : Nat × Nat} (ho : OkR S o) (hr : OkR S r) (hg : Ge S o r) (hm : mayB S.cs S.cs.length c f r = true) : mayB S.cs S.cs.length c f o = true := by
  rw [mayB_iff] at *
  exact ⟨h.cov_trans ho.1 hr.1 hg.1 hm.1, fun j hj => hm.2 j (hg.2 j hj)⟩
/-- The conditions of the person to whom just r and its like say yes. -/
def rest (S : Sys) (r : Nat × Nat) : Nat := (2 ^ S.codes.length - 1) ^^^ r.2
theorem rest_lt (S : Sys) {r : Nat × Nat} (hr : OkR S r) : rest S r < 2 ^ S.codes.length := Nat.xor_lt_two_pow (by have := Nat.one_le_two_pow (n := S.codes.length); omega) hr.2
theorem rest_bit (S : Sys) {r : Nat × Nat} (j : Nat) : (rest S r).testBit j = ((decide (j < S.codes.length)) ^^ r.2.testBit j) := by
  unfold rest
  rw [Nat.testBit_xor, Nat.testBit_two_pow_sub_one]
theorem may_rest {S : Sys} {r o : Nat × Nat} (ho : OkR S o) : mayB S.cs S.cs.length r.1 (rest S r) o = true ↔ Ge S o r := by
  rw [mayB_iff]
  unfold Ge
  constructor
  · rintro ⟨h1, h2⟩
    refine ⟨h1, fun j hj => ?_⟩
    have h3 := h2 j hj
    rw [rest_bit] at h3
    have hj2 : j < S.codes.length := by
      rcases Nat.lt_or_ge j S.codes.length with h | h
      · exact h
      · rw [Nat.testBit_lt_two_pow (Nat.lt_of_lt_of_le ho.2 (Nat.pow_le_pow_right (by omega) h))] at hj; cases hj
    rw [decide_eq_true hj2] at h3
    simpa using h3
  · rintro ⟨h1, h2⟩
    refine ⟨h1, fun j hj => ?_⟩
    rw [rest_bit, h2 j hj]
    have hj2 : j < S.codes.length := by
      rcases Nat.lt_or_ge j S.codes.length with h | h
      · exact h
      · rw [Nat.testBit_lt_two_pow (Nat.lt_of_lt_of_le ho.2 (Nat.pow_le_pow_right (by omega) h))] at hj; cases hj
    rw [decide_eq_true hj2]
    rfl

/-- Whether the list allows. -/
def mayL (S : Sys) (rs : List (Int × Int)) (c f : Nat) : Bool := anyIdx (fun j => mayB S.cs S.cs.length c f (natR (rs[j]?.getD (0, 0)))) rs.length
theorem mayL_iff {S : Sys} {rs : List (Int × Int)} {c f : Nat} : mayL S rs c f = true ↔ ∃ r ∈ rs, mayB S.cs S.cs.length c f (natR r) = true := by
  unfold mayL
  rw [anyIdx_iff]
  constructor
  · rintro ⟨j, hj, h⟩
    rw [List.getElem?_eq_getElem hj] at h
    exact ⟨rs[j], List.getElem_mem hj, h⟩
  · rintro ⟨r, hr, h⟩
    obtain ⟨j, hj, rfl⟩ := List.mem_iff_getElem.1 hr
    exact ⟨j, hj, by rw [List.getElem?_eq_getElem hj]; exact h⟩
theorem okR_of {S : Sys} (gd : Good S) {rs : List (Int × Int)} (gr : GoodR S rs) {r : Int × Int} (hr : r ∈ rs) : OkR S (natR r) := ⟨(natR_lt gd gr hr).1, (natR_lt gd gr hr).2.1⟩
theorem natR_inj {S : Sys} (gd : Good S) {rs rs' : List (Int × Int)} (gr : GoodR S rs) (gr' : GoodR S rs') {r o : Int × Int} (hr : r ∈ rs) (ho : o ∈ rs') (h : natR r = natR o) : r = o := by
  rw [(natR_lt gd gr hr).2.2.2, (natR_lt gd gr' ho).2.2.2, h]
/-- Above every right is one that none is above. -/
theorem top_of {S : Sys} (gd : Good S) {rs : List (Int × Int)} (gr : GoodR S rs) : ∀ r ∈ rs, ∃ o ∈ rs, Ge S (natR o) (natR r) ∧ ∀ y ∈ rs, wkI S.cs S.cs.length o y = false := by
  have key : ∀ (k : Nat) (r : Int × Int), r ∈ rs → cnt (fun j => allB S.cs S.cs.length (natR (rs[j]?.getD (0, 0))) (natR r)) rs.length ≤ k → ∃ o ∈ rs, Ge S (natR o) (natR r) ∧ ∀ y ∈ rs, wkI S.cs S.cs.length o y = false := by
    intro k
    induction k with
    | zero =>
      intro r hr hk
      obtain ⟨j, hj, rfl⟩ := List.mem_iff_getElem.1 hr
      have := cnt_zero _ _ (Nat.le_zero.1 hk) j hj
      simp only [List.getElem?_eq_getElem hj, Option.getD_some] at this
      rw [allB_iff.2 (Ge.refl gd (okR_of gd gr hr))] at this
      cases this
    | succ k ih =>
      intro r hr hk
      by_cases hmax : ∀ y ∈ rs, wkI S.cs S.cs.length r y = false
      · exact ⟨r, hr, Ge.refl gd (okR_of gd gr hr), hmax⟩
      · obtain ⟨y, hy⟩ := Classical.not_forall.1 hmax
        obtain ⟨hy, hw⟩ := Classical.not_imp.1 hy
        obtain ⟨hne, hge⟩ := weakB_iff.1 ((Bool.not_eq_false _).mp hw)
        have oy := okR_of gd gr hy
        have orr := okR_of gd gr hr
        obtain ⟨i, hi, hri⟩ := List.mem_iff_getElem.1 hr
        have hlt : cnt (fun j => allB S.cs S.cs.length (natR (rs[j]?.getD (0, 0))) (natR y)) rs.length < cnt (fun j => allB S.cs S.cs.length (natR (rs[j]?.getD (0, 0))) (natR r)) rs.length := by
          have hcut : ∀ l : Nat, l ≤ rs.length → cnt (fun j => allB S.cs S.cs.length (natR (rs[j]?.getD (0, 0))) (natR y)) l = cnt (fun j => decide (j < rs.length) && allB S.cs S.cs.length (natR (rs[j]?.getD (0, 0))) (natR y)) l ∧ cnt (fun j => allB S.cs S.cs.length (natR (rs[j]?.getD (0, 0))) (natR r)) l = cnt (fun j => decide (j < rs.length) && allB S.cs S.cs.length (natR (rs[j]?.getD (0, 0))) (natR r)) l := by
            intro l
            induction l with
            | zero => intro _; exact ⟨rfl, rfl⟩
            | succ l ih2 =>
              intro hl
              have hd : decide (l < rs.length) = true := decide_eq_true (by omega)
              simp only [cnt, hd, Bool.true_and]
              rw [(ih2 (by omega)).1, (ih2 (by omega)).2]
              exact ⟨rfl, rfl⟩
          rw [(hcut _ (Nat.le_refl _)).1, (hcut _ (Nat.le_refl _)).2]
          refine cnt_lt _ _ ?_ i ?_ ?_ _ hi
          · intro j hj
            rw [Bool.and_eq_true, decide_eq_true_eq] at hj ⊢
            obtain ⟨hj, hg⟩ := hj
            rw [List.getElem?_eq_getElem hj] at hg ⊢
            exact ⟨hj, allB_iff.2 ((allB_iff.1 hg).trans gd (okR_of gd gr (List.getElem_mem hj)) oy hge)⟩
          · rw [Bool.and_eq_true, decide_eq_true_eq, List.getElem?_eq_getElem hi]
            exact ⟨hi, by simp only [Option.getD_some, hri]; exact allB_iff.2 (Ge.refl gd orr)⟩
          · rw [List.getElem?_eq_getElem hi, decide_eq_true hi, Bool.true_and]
            simp only [Option.getD_some, hri]
            cases hb : allB S.cs S.cs.length (natR r) (natR y) with
            | false => rfl
            | true => exact absurd ((allB_iff.1 hb).anti gd orr oy hge) hne
        obtain ⟨o, ho, hg, hm⟩ := ih y hy (by omega)
        exact ⟨o, ho, hg.trans gd (okR_of gd gr ho) oy hge, hm⟩
  exact fun r hr => key _ r hr (Nat.le_refl _)
/-- The form allows what the list allows. -/
theorem form_may {S : Sys} (gd : Good S) {rs L : List (Int × Int)} (gr : GoodR S rs) (hL : FormP S.cs S.cs.length (· ∈ rs) L) {c f : Nat} : mayL S rs c f = true ↔ ∃ r ∈ L, mayB S.cs S.cs.length c f (natR r) = true := by
  rw [mayL_iff]
  constructor
  · rintro ⟨r, hr, h⟩
    obtain ⟨o, ho, hg, hm⟩ := top_of gd gr r hr
    exact ⟨o, (hL.2 o).2 ⟨ho, hm⟩, mayB_ge gd (okR_of gd gr ho) (okR_of gd gr hr) hg h⟩
  · rintro ⟨r, hr, h⟩
    exact ⟨r, ((hL.2 r).1 hr).1, h⟩
theorem form_sub {S : Sys} (gd : Good S) {r1 r2 L1 L2 : List (Int × Int)} (g1 : GoodR S r1) (g2 : GoodR S r2) (h1 : FormP S.cs S.cs.length (· ∈ r1) L1) (h2 : FormP S.cs S.cs.length (· ∈ r2) L2)
    (h : ∀ c f, c < S.cs.length → f < 2 ^ S.codes.length → mayL S r1 c f = mayL S r2 c f) : ∀ x, x ∈ L1 → x ∈ L2 := by
  intro x hx
  obtain ⟨hx1, hmax⟩ := (h1.2 x).1 hx
  have ox := okR_of gd g1 hx1
  have e1 : mayL S r1 (natR x).1 (rest S (natR x)) = true := mayL_iff.2 ⟨x, hx1, (may_rest ox).2 (Ge.refl gd ox)⟩
  rw [h _ _ ox.1 (rest_lt S ox), form_may gd g2 h2] at e1
  obtain ⟨s, hs, hm⟩ := e1
  have hs2 := ((h2.2 s).1 hs).1
  have os := okR_of gd g2 hs2
  have hsx := (may_rest os).1 hm
  have e2 : mayL S r2 (natR s).1 (rest S (natR s)) = true := mayL_iff.2 ⟨s, hs2, (may_rest os).2 (Ge.refl gd os)⟩
  rw [← h _ _ os.1 (rest_lt S os), mayL_iff] at e2
  obtain ⟨t, ht, hm2⟩ := e2
  have ot := okR_of gd g1 ht
  have hts := (may_rest ot).1 hm2
  have htx := hts.trans gd ot os hsx
  have hxt : natR x = natR t := Classical.byContradiction fun hne => by
    have hw := hmax t ht
    rw [show wkI S.cs S.cs.length x t = true from weakB_iff.2 ⟨hne, htx⟩] at hw
    cases hw
  have hxs : natR x = natR s := by
    rw [← hxt] at hts
    exact hts.anti gd ox os hsx
  rw [natR_inj gd g1 g2 hx1 hs2 hxs]
  exact hs
theorem form_same {S : Sys} (gd : Good S) {r1 r2 L1 L2 : List (Int × Int)} (g1 : GoodR S r1) (g2 : GoodR S r2) (h1 : FormP S.cs S.cs.length (· ∈ r1) L1) (h2 : FormP S.cs S.cs.length (· ∈ r2) L2) :
    L1 = L2 ↔ ∀ c f, c < S.cs.length → f < 2 ^ S.codes.length → mayL S r1 c f = mayL S r2 c f := by
  constructor
  · rintro rfl c f _ _
    rw [Bool.eq_iff_iff, form_may gd g1 h1, form_may gd g2 h2]
  · intro h
    exact sorted_uniq ltI ltI_asym L1 L2 h1.1 h2.1 fun x => ⟨form_sub gd g1 g2 h1 h2 h x, form_sub gd g2 g1 h2 h1 (fun c f hc hf => (h c f hc hf).symm) x⟩
end Go.Proofs.YtebahhfmpdfdkaaGreatDoor

/-
  What the outright laws share.
-/
namespace Go.Proofs.YtebahhfmpdfdkaaGreatDoor
open Go.RowKit RG

theorem openF_two (S : Sys) (ra rb : List (Int × Int)) : openF S [ra, rb] = 0 ↔ openF S [ra] = 0 ∧ openF S [rb] = 0 := by
  unfold openF
  by_cases h : (checkF S).2.2 = 0
  · simp only [if_pos h, listsF]
    by_cases h1 : rightsF S.cs.length S.codes.length ra = 0 <;> by_cases h2 : rightsF S.cs.length S.codes.length rb = 0 <;> simp [h1, h2]
  · simp only [if_neg h]
    exact ⟨fun h' => ⟨h', h'⟩, fun h' => h'.1⟩
theorem mayF_val {S : Sys} {rs : List (Int × Int)} (h0 : openF S [rs] = 0) {c f : Nat} (hc : c < S.cs.length) (hf : f < 2 ^ S.codes.length) : mayF S rs (c : Int) (f : Int) = (mayL S rs c f, 0) := by
  unfold mayF
  rw [if_neg (by rw [h0]; simp), if_neg (by rw [inB_iff.2 (by omega)]; simp), if_neg (by rw [inB_iff.2 (by generalize 2 ^ S.codes.length = M at *; omega)]; simp)]
  rfl
theorem Least_U (A A2 R : Option Addr) (cc c2 cr : Nat) (S : Sys) (rs : List (Int × Int)) (w : World) (h : InMem w A A2 cc c2 S) (hr : RdRts w R rs.length rs) :
    Calls Tryz.prog 36 #[.agg #[.slice A S.cs.length cc, .slice A2 S.codes.length c2], .slice R rs.length cr] w fun e w' =>
      (∃ v L, e = .returned (.tuple #[v, .int .i64 (openF S [rs])]) ∧ IsRts L v w' ∧ (openF S [rs] = 0 → FormP S.cs S.cs.length (· ∈ rs) L)) ∧ Below w.heap.size w w' := by
  refine (Least_E A A2 R cc c2 cr S rs w h hr).mono ?_
  rintro e w' ⟨h1 | ⟨h1, v, L, rfl, hf, hv⟩, hb⟩
  · exact ⟨⟨_, [], h1.2, ⟨none, 0, rfl, ⟨⟨rfl, by simp, by simp⟩, by unfold maxLen; simp⟩⟩, fun h => absurd h h1.1⟩, hb⟩
  · exact ⟨⟨v, L, by rw [h1], hv, fun _ => hf⟩, hb⟩
end Go.Proofs.YtebahhfmpdfdkaaGreatDoor
