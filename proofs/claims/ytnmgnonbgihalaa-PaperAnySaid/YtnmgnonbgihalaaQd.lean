import Derived.Test.YtnmgnonbgihalaaQc
import Derived.Test.YtnmgnonbgihalaaPt
import Derived.Test.YtnmgnonbgihalaaPg
/-
  Wider banks; draws where nothing is too much alike. Of no program.
-/
namespace Go.Proofs.Ytnmgnonbgihalaa

theorem ok_err {B : Bank} (h : BankOk B) : errP B = 0 := by
  have h1 : numErr B = 0 := by
    unfold numErr
    rw [if_neg (by rw [Bool.eq_false_iff, Bool.eq_false_iff]; simp only [ne_eq, inI_iff, not_or, Classical.not_not]; have := h.nq; have := h.nw; omega), if_neg (by rw [Bool.eq_false_iff, Bool.eq_false_iff]; simp only [ne_eq, inI_iff, not_or, Classical.not_not]; exact ⟨h.lo, h.hi⟩), if_neg (by have := h.le; omega)]
  have h2 : qsE B = (0, 0) := fErr_all fun j _ hj => by
    rw [List.getElem?_eq_getElem (by omega), Option.getD_some]
    have := h.qs _ (List.getElem_mem (show j < B.qs.length by omega))
    unfold qErr
    rw [if_neg (by rw [Bool.eq_false_iff]; simp only [ne_eq, inI_iff, Classical.not_not]; omega), if_neg (by rw [Bool.eq_false_iff, Bool.eq_false_iff]; simp only [ne_eq, inI_iff, not_or, Classical.not_not]; omega)]
  have h3 : wsE B = (0, 0) := fErr_all fun p _ hp => by
    have := h.ws p (by omega)
    unfold wErr
    rw [if_neg (by rw [Bool.eq_false_iff]; simp only [ne_eq, inI_iff, Classical.not_not]; omega)]
  unfold errP checkP
  rw [h1, h2, h3]
  rfl
/-- A bank with another range of levels. -/
def wideB (B : Bank) (lo hi : Int) : Bank := ⟨B.qs, B.wanted, lo, hi⟩
theorem wide_err {B : Bank} {lo hi : Int} (h : errP B = 0) (h1 : 0 ≤ lo) (h2 : lo ≤ B.lo) (h3 : B.hi ≤ hi) (h4 : hi ≤ 16000) : errP (wideB B lo hi) = 0 := by
  have hb := err_ok h
  have hl := hb.le
  have a1 := hb.lo
  have a2 := hb.hi
  exact ok_err ⟨hb.nq, hb.nw, by show 0 ≤ lo ∧ lo ≤ 16000; omega, by show 0 ≤ hi ∧ hi ≤ 16000; omega, by show lo ≤ hi; omega, hb.qs, hb.ws⟩
theorem wide_sub {B : Bank} {lo hi : Int} (h2 : lo ≤ B.lo) (h3 : B.hi ≤ hi) : ∀ (r k : Nat) (n : List Int) (l : Int), (papersB B r k n l).Sublist (papersB (wideB B lo hi) r k n l) := by
  have hin : ∀ l, inLev B l = true → inLev (wideB B lo hi) l = true := fun l hl => by
    unfold inLev at hl ⊢
    rw [inI_iff] at hl ⊢
    show lo ≤ l ∧ l ≤ hi
    omega
  intro r
  induction r with
  | zero =>
    intro k n l
    unfold papersB
    by_cases hz : n = zero4 ∧ inLev B l = true
    · rw [if_pos hz, if_pos ⟨hz.1, hin l hz.2⟩]; exact List.Sublist.refl _
    · rw [if_neg hz]; exact List.nil_sublist _
  | succ r ih =>
    intro k n l
    unfold papersB
    by_cases hz : n = zero4
    · rw [if_pos hz, if_pos hz]
      by_cases hl : inLev B l = true
      · rw [if_pos hl, if_pos (hin l hl)]; exact List.Sublist.refl _
      · rw [if_neg hl]; exact List.nil_sublist _
    · rw [if_neg hz, if_neg hz]
      by_cases hc : canB B k n = true
      · rw [if_pos hc, if_pos (show canB (wideB B lo hi) k n = true from hc)]
        exact ((ih (k + 1) (dec n (partAt B k)) (l + wAt B k)).map _).append (ih (k + 1) n l)
      · rw [if_neg hc]; exact List.nil_sublist _
theorem wide_papers {B : Bank} {lo hi : Int} (h2 : lo ≤ B.lo) (h3 : B.hi ≤ hi) : (papers B).Sublist (papers (wideB B lo hi)) := wide_sub h2 h3 B.qs.length 0 (start4 B) 0
theorem wide_num {B : Bank} {lo hi : Int} (h : errP B = 0) (h1 : 0 ≤ lo) (h2 : lo ≤ B.lo) (h3 : B.hi ≤ hi) (h4 : hi ≤ 16000) {i : Nat} (hi' : i < (papers B).length) : numE (wideB B lo hi) (ppI B i) = 0 := by
  have hw := wide_err h h1 h2 h3 h4
  have hp : isP (wideB B lo hi) (ppI B i) = true := by
    refine (isP_mem (err_ok hw)).2 ⟨(papers B)[i], ?_, (wide_papers h2 h3).subset (List.getElem_mem hi')⟩
    unfold ppI
    rw [List.getElem?_eq_getElem hi']
    rfl
  rw [numE, if_neg (by simp [hw]), if_neg (by rw [hp]; decide)]
theorem alike16 {hs seat : Nat} {dr : List (List Int)} {x : List Int} (h : ∀ y ∈ dr, y.length ≤ 16) : alikeP hs 16 dr seat x = false := by
  unfold alikeP
  rw [List.any_eq_false]
  intro j _
  simp only [decide_eq_true_eq]
  have h1 : commonP (dr[j]?.getD []) x ≤ (dr[j]?.getD []).length := List.countP_le_length
  have h2 : (dr[j]?.getD []).length ≤ 16 := by
    by_cases hj : j < dr.length
    · rw [List.getElem?_eq_getElem hj]; exact h _ (List.getElem_mem hj)
    · rw [List.getElem?_eq_none (by omega)]; decide
  omega
theorem draw16 {B : Bank} (hB : BankOk B) (hp : 0 < (papers B).length) (hs : Nat) : ∀ (ms : List Nat) (dr : List (List Int)), (∀ y ∈ dr, y.length ≤ 16) → drawP (papersI B) hs 16 ms dr = some (dr ++ ms.map fun m => ppI B (m % (papers B).length))
  | [], dr, _ => by simp [drawP]
  | m :: ms, dr, h => by
    have hl := papersI_len B
    have hf : findP (papersI B) (fun x => !alikeP hs 16 dr dr.length x) m (papersI B).length 0 = some (ppI B (m % (papers B).length)) := by
      obtain ⟨n, hn⟩ : ∃ n, (papersI B).length = n + 1 := ⟨(papersI B).length - 1, by omega⟩
      rw [hn, findP, if_pos (by rw [alike16 h]; rfl), Nat.add_zero, hl, papersI_at B _ (Nat.mod_lt _ hp)]
    rw [drawP_some hf, draw16 hB hp hs ms _ fun y hy => ?_]
    · rw [List.append_assoc]; rfl
    · rcases List.mem_append.1 hy with hy | hy
      · exact h y hy
      · rw [List.mem_singleton] at hy; subst hy; exact ppI_len hB _
theorem more_at {B : Bank} {hr hs : Int} {ms : List Int} (hB : errP B = 0) (h : drawE B hr hs 16 ms = 0) (k : Nat) (hk : k < ms.length) : 0 < (papers B).length ∧ 0 ≤ ms[k]?.getD 0 ∧ (drawR B hr hs 16 ms)[k]?.getD [] = ppI B ((ms[k]?.getD 0).toNat % (papers B).length) := by
  obtain ⟨-, h2, h3, ds, h4, h5⟩ := draw_ok h
  rw [draw16 (err_ok hB) h3 _ _ [] (fun y hy => by cases hy)] at h4
  refine ⟨h3, ?_, ?_⟩
  · rw [List.getElem?_eq_getElem hk]; exact (h2 _ (List.getElem_mem hk)).1
  · rw [h5, ← Option.some.inj h4, List.nil_append, List.getElem?_map, List.getElem?_map, List.getElem?_eq_getElem hk]
    rfl
theorem more_err {B : Bank} {hr hs : Int} {ms : List Int} (hB : errP B = 0) (h : drawE B hr hs 16 ms ≠ 0) (hn : (papers B).length ≠ 0) : drawE B hr hs 16 ms ≠ 4 ∧ drawE B hr hs 16 ms ≠ 9 := by
  unfold drawE at h ⊢
  by_cases h1 : enterE B hr hs 16 ms.length ≠ 0
  · rw [if_pos h1]
    unfold enterE at h1 ⊢
    rw [if_neg (by simp [hB])] at h1 ⊢
    split
    · exact ⟨by decide, by decide⟩
    · split
      · exact ⟨by decide, by decide⟩
      · rename_i h2 h3; rw [if_neg h2, if_neg h3] at h1; exact absurd rfl h1
  · rw [if_neg h1] at h ⊢
    by_cases h2 : (ms.all fun m => inB 0 1000000000 m) = false
    · rw [if_pos h2]; exact ⟨by decide, by decide⟩
    · rw [if_neg h2, if_neg hn, draw16 (err_ok hB) (by omega) _ _ [] (fun y hy => by cases hy), if_neg (by simp)] at h
      exact absurd rfl h
end Go.Proofs.Ytnmgnonbgihalaa

/-
  A tuple of a list that can be read and an error, as a word on values.
-/
namespace Go.Proofs.Ytnmgnonbgihalaa
open Go.RowKit RG

def TupL (xs : List Int) (e : Int) : Value → World → Prop := fun v w => ∃ u, v = .tuple #[u, .int .i64 e] ∧ LstV xs u w
theorem TupL.stb (xs : List Int) (e : Int) : Stb (TupL xs e) := fun _ _ _ hb ⟨u, h1, h2⟩ => ⟨u, h1, h2.below hb⟩
theorem LstV.stb (xs : List Int) : Stb (LstV xs) := fun _ _ _ hb h => LstV.below h hb
end Go.Proofs.Ytnmgnonbgihalaa
