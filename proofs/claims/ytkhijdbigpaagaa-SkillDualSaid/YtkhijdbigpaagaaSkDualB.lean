/-
  SkillDual: the seven cases, and what the wider school answers.
-/
import Derived.Test.YtkhijdbigpaagaaNda
import Derived.Test.YtkhijdbigpaagaaNh
namespace Go.Proofs.Ytkhijdbigpaagaa
open Go.RowKit RG

theorem InsAt.alloc {W : World} {g : Nat} {is : List Ins} (h : InsAt W g is) (o : Obj) : InsAt (W.alloc o) g is := h.blk (((Below.refl W.heap.size W).alloc (Nat.le_refl _) o).block g h.lt)
/-- A slice of the instructors is, in a block of its own. -/
def InsV (is : List Ins) (k B : Nat) : Value → World → Prop := fun v u => ∃ g cc, v = .slice (some ⟨g, 0, none⟩) k cc ∧ B ≤ g ∧ k ≤ cc ∧ InsAt u g is
theorem InsV.stb (is : List Ins) (k B : Nat) : Stb (InsV is k B) := fun _ _ _ hb ⟨g, cc, e, h1, h2, h3⟩ => ⟨g, cc, e, h1, h2, h3.blk (hb.block g h3.lt)⟩
def SchV (A : Option Addr) (k1 c : Nat) (is : List Ins) (k B : Nat) : Value → World → Prop := fun v u => ∃ g cc, v = .agg #[.slice A k1 c, .slice (some ⟨g, 0, none⟩) k cc] ∧ B ≤ g ∧ k ≤ cc ∧ InsAt u g is
theorem SchV.stb (A : Option Addr) (k1 c : Nat) (is : List Ins) (k B : Nat) : Stb (SchV A k1 c is k B) := fun _ _ _ hb ⟨g, cc, e, h1, h2, h3⟩ => ⟨g, cc, e, h1, h2, h3.blk (hb.block g h3.lt)⟩
def NewV (B : Nat) : Value → World → Prop := fun v u => ∃ p, v = .pointer (some ⟨p, 0, none⟩) ∧ B ≤ p ∧ Blk u p 25 #[.slice none 0 0, .slice none 0 0]
theorem NewV.stb (B : Nat) : Stb (NewV B) := fun _ _ _ hb ⟨p, e, h1, h2⟩ => ⟨p, e, h1, h2.below hb h2.lt⟩

theorem setW_sch {W W' : World} {A A2 : Option Addr} {k1 c k2 c2 g cc i : Nat} {S : Sch} {x y : Int} (hS : RdSch W (.agg #[.slice A k1 c, .slice A2 k2 c2]) S) (hb : Below W.heap.size W W') (hI : InsAt W' g (setW S i x y).ins) (hk : S.ins.length = k2) (hc : k2 ≤ cc) (hi : i < k2) :
    RdSch W' (.agg #[.slice A k1 c, .slice (some ⟨g, 0, none⟩) k2 cc]) (setW S i x y) := by
  obtain ⟨A', c', A2', c2', e, h1, h2, h3, h4, h5, h6, h7, h8⟩ := hS
  simp only [Value.agg.injEq, Array.mk.injEq, List.cons.injEq, Value.slice.injEq, and_true] at e
  obtain ⟨⟨rfl, rfl, rfl⟩, -⟩ := e
  have hl : (setW S i x y).ins.length = k2 := by simp [setW, hk]
  refine ⟨A, c, some ⟨g, 0, none⟩, cc, by rw [hl]; rfl, h1.below hb, h2, h3, h4, hI.row, by omega, by omega, ?_⟩
  intro s hs
  rcases List.mem_or_eq_of_mem_set hs with h | h
  · exact h8 s h
  · subst h
    show (S.ins[i]?.getD default).name.size ≤ maxLen
    rw [List.getElem?_eq_getElem (by omega)]
    exact h8 _ (List.getElem_mem _)

/-- What is so of the marks a0..a1, the levels b0..b1 with the error f, the level l and the mark m. -/
def DualC (S : Sch) (x0 x1 x2 : Int) (P : Int → Int → Int → Int → Int → Int → Int → Prop) : Prop :=
  (checkS S).2.2 = 0 → S.ins.length ≠ 0 → ∀ (i : Nat) (l m lo hj : Int), x0.tmod S.ins.length = i → x1.tmod 1001 = l → x2.tmod 1001 = m → (S.ins[i]?.getD default).lo = lo → (S.ins[i]?.getD default).hi = hj →
    P (lim (l + lo)) (lim (l + hj)) (behindF S i m).1.1 (behindF S i m).1.2 (behindF S i m).2 l m
def DC1 (a0 _a1 _b0 _b1 f _l m : Int) : Prop := f = 9 ∧ m < a0
def DC2 (a0 a1 _b0 _b1 f _l m : Int) : Prop := f = 9 ∧ a0 ≤ m ∧ a1 < m
def DC3 (a0 a1 b0 b1 f l m : Int) : Prop := f = 0 ∧ a0 ≤ m ∧ m ≤ a1 ∧ b0 ≤ l ∧ l ≤ b1
def DC4 (a0 _a1 b0 _b1 f l m : Int) : Prop := f = 0 ∧ m < a0 ∧ l < b0
def DC5 (a0 _a1 b0 b1 f l m : Int) : Prop := f = 0 ∧ m < a0 ∧ b0 ≤ l ∧ b1 < l
def DC6 (a0 a1 b0 _b1 f l m : Int) : Prop := f = 0 ∧ a0 ≤ m ∧ a1 < m ∧ l < b0
def DC7 (a0 a1 b0 b1 f l m : Int) : Prop := f = 0 ∧ a0 ≤ m ∧ a1 < m ∧ b0 ≤ l ∧ b1 < l

theorem dual_cases (S : Sch) (x0 x1 x2 : Int) (hx0 : 0 ≤ x0) (hx1 : 0 ≤ x1) (hx2 : 0 ≤ x2) : DualC S x0 x1 x2 DC1 ∨ DualC S x0 x1 x2 DC2 ∨ DualC S x0 x1 x2 DC3 ∨ DualC S x0 x1 x2 DC4 ∨ DualC S x0 x1 x2 DC5 ∨ DualC S x0 x1 x2 DC6 ∨ DualC S x0 x1 x2 DC7 := by
  by_cases hck : (checkS S).2.2 = 0
  · by_cases hn : S.ins.length = 0
    · exact .inl fun _ h => absurd hn h
    · have hkz : (0 : Int) < (S.ins.length : Int) := by omega
      obtain ⟨i, hi⟩ : ∃ i : Nat, x0.tmod (S.ins.length : Int) = i := ⟨(x0.tmod S.ins.length).toNat, by rw [Int.toNat_of_nonneg (Int.tmod_nonneg _ hx0)]⟩
      have hib : (i : Int) < (S.ins.length : Int) := by rw [← hi]; exact Int.tmod_lt_of_pos _ hkz
      have hi2 : i < S.ins.length := by omega
      have hlb : 0 ≤ x1.tmod 1001 ∧ x1.tmod 1001 ≤ 1000 := ⟨Int.tmod_nonneg _ hx1, by have := Int.tmod_lt_of_pos x1 (show (0 : Int) < 1001 by decide); omega⟩
      have hmb : 0 ≤ x2.tmod 1001 ∧ x2.tmod 1001 ≤ 1000 := ⟨Int.tmod_nonneg _ hx2, by have := Int.tmod_lt_of_pos x2 (show (0 : Int) < 1001 by decide); omega⟩
      have hBa := behind_at hck hi2 hmb
      have key : ∀ P : Int → Int → Int → Int → Int → Int → Int → Prop, P (lim (x1.tmod 1001 + (S.ins[i]?.getD default).lo)) (lim (x1.tmod 1001 + (S.ins[i]?.getD default).hi)) (behindF S i (x2.tmod 1001)).1.1 (behindF S i (x2.tmod 1001)).1.2 (behindF S i (x2.tmod 1001)).2 (x1.tmod 1001) (x2.tmod 1001) → DualC S x0 x1 x2 P := by
        intro P hP _ _ i' l m lo hj e1 e2 e3 e4 e5
        have : i' = i := by rw [hi] at e1; omega
        subst this e2 e3 e4 e5
        exact hP
      obtain ⟨p, q, hpq⟩ : ∃ p q, behindS ((S.ins[i]?.getD default).lo, (S.ins[i]?.getD default).hi) (x2.tmod 1001) = (p, q) := ⟨_, _, rfl⟩
      have hcan := dual_can hlb hmb hpq
      rw [hpq] at hBa
      generalize lim (x1.tmod 1001 + (S.ins[i]?.getD default).lo) = a0 at *
      generalize lim (x1.tmod 1001 + (S.ins[i]?.getD default).hi) = a1 at *
      generalize x1.tmod 1001 = l at *
      generalize x2.tmod 1001 = m at *
      simp only at hBa
      have hd : DC1 a0 a1 (behindF S i m).1.1 (behindF S i m).1.2 (behindF S i m).2 l m ∨ DC2 a0 a1 (behindF S i m).1.1 (behindF S i m).1.2 (behindF S i m).2 l m ∨ DC3 a0 a1 (behindF S i m).1.1 (behindF S i m).1.2 (behindF S i m).2 l m ∨ DC4 a0 a1 (behindF S i m).1.1 (behindF S i m).1.2 (behindF S i m).2 l m ∨ DC5 a0 a1 (behindF S i m).1.1 (behindF S i m).1.2 (behindF S i m).2 l m ∨ DC6 a0 a1 (behindF S i m).1.1 (behindF S i m).1.2 (behindF S i m).2 l m ∨ DC7 a0 a1 (behindF S i m).1.1 (behindF S i m).1.2 (behindF S i m).2 l m := by
        unfold DC1 DC2 DC3 DC4 DC5 DC6 DC7
        by_cases hqp : q < p
        · rw [if_pos hqp] at hBa
          rw [hBa]
          simp only [true_and]
          omega
        · rw [if_neg hqp] at hBa
          rw [hBa]
          simp only [true_and, reduceCtorEq, false_and, false_or]
          omega
      rcases hd with h | h | h | h | h | h | h
      · exact .inl (key _ h)
      · exact .inr (.inl (key _ h))
      · exact .inr (.inr (.inl (key _ h)))
      · exact .inr (.inr (.inr (.inl (key _ h))))
      · exact .inr (.inr (.inr (.inr (.inl (key _ h)))))
      · exact .inr (.inr (.inr (.inr (.inr (.inl (key _ h))))))
      · exact .inr (.inr (.inr (.inr (.inr (.inr (key _ h))))))
  · exact .inl fun h => absurd h hck

/-- What the wider school answers. -/
theorem dual_all {S : Sch} {i : Nat} {l m lo hj lo2 hj2 : Int} (hck : (checkS S).2.2 = 0) (hi : i < S.ins.length) (hl : 0 ≤ l ∧ l ≤ 1000) (hm : 0 ≤ m ∧ m ≤ 1000) (hlo : (S.ins[i]?.getD default).lo = lo) (hhj : (S.ins[i]?.getD default).hi = hj)
    (h : -300 ≤ lo2 ∧ lo2 ≤ lo ∧ hj ≤ hj2 ∧ hj2 ≤ 300) : ∃ c0 c1 e0 e1 g, marksF (setW S i lo2 hj2) i l = ((c0, c1), 0) ∧ behindF (setW S i lo2 hj2) i m = ((e0, e1), g) ∧ c0 ≤ lim (l + lo) ∧ lim (l + hj) ≤ c1 ∧
      ((behindF S i m).2 = 0 → g = 0 ∧ e0 ≤ (behindF S i m).1.1 ∧ (behindF S i m).1.2 ≤ e1) := by
  obtain ⟨-, hloh, -⟩ := ins_ok hck hi
  rw [hlo, hhj] at hloh
  have hc2 := check_setW hck i (x := lo2) (y := hj2) (by omega)
  have hi2 : i < (setW S i lo2 hj2).ins.length := by simpa [setW] using hi
  have e1 := marks_at hc2 hi2 hl
  have e2 := behind_at hc2 hi2 hm
  have e3 := behind_at hck hi hm
  rw [setW_at S lo2 hj2 hi] at e1 e2
  rw [hlo, hhj] at e3
  simp only at e1 e2
  obtain ⟨p, q, hpq⟩ : ∃ p q, behindS (lo, hj) m = (p, q) := ⟨_, _, rfl⟩
  obtain ⟨p', q', hpq'⟩ : ∃ p q, behindS (lo2, hj2) m = (p, q) := ⟨_, _, rfl⟩
  rw [hpq] at e3
  rw [hpq'] at e2
  have hw := dual_wide h.2.1 h.2.2.1 hpq hpq'
  simp only at e2 e3
  refine ⟨_, _, _, _, _, e1, (Prod.eta _).symm.trans (by rw [Prod.eta]), lim_mono (by omega), lim_mono (by omega), fun hz => ?_⟩
  rw [e3] at hz ⊢
  rw [e2]
  by_cases hqp : q < p
  · rw [if_pos hqp] at hz
    exact absurd hz (by decide)
  · rw [if_neg hqp]
    rw [if_neg (show ¬ q' < p' by omega)]
    exact ⟨rfl, hw.1, hw.2⟩
end Go.Proofs.Ytkhijdbigpaagaa
