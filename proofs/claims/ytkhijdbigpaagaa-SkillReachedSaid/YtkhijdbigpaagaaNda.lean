import Derived.Test.YtkhijdbigpaagaaNm
import Derived.Test.YtkhijdbigpaagaaNl
import Derived.Test.YtkhijdbigpaagaaNi
import Derived.Test.YtkhijdbigpaagaaNy
/-
  Schools with a wider instructor; whether a school is valid; arrays as arguments.
-/
namespace Go.Proofs.Ytkhijdbigpaagaa
open Go.RowKit RG

/-- The school in which the instructor i adds from x to y. -/
def setW (S : Sch) (i : Nat) (x y : Int) : Sch := ⟨S.sks, S.ins.set i ⟨(S.ins[i]?.getD default).name, x, y⟩⟩
theorem setW_name (S : Sch) (i : Nat) (x y : Int) : (fun j : Nat => ((setW S i x y).ins[j]?.getD default).name) = fun j : Nat => (S.ins[j]?.getD default).name := by
  funext j
  show (((S.ins.set i (⟨(S.ins[i]?.getD default).name, x, y⟩ : Ins))[j]?.getD default : Ins)).name = _
  by_cases e : i = j
  · subst e
    rcases Nat.lt_or_ge i S.ins.length with h | h
    · rw [List.getElem?_set_self h]; rfl
    · rw [List.set_eq_of_length_le h]
  · rw [List.getElem?_set_ne e]
theorem setW_at (S : Sch) {i : Nat} (x y : Int) (h : i < S.ins.length) : (setW S i x y).ins[i]?.getD default = ⟨(S.ins[i]?.getD default).name, x, y⟩ := by
  show (S.ins.set i _)[i]?.getD default = _
  rw [List.getElem?_set_self h]; rfl
theorem check_setW {S : Sch} (h : (checkS S).2.2 = 0) (i : Nat) {x y : Int} (hx : -300 ≤ x ∧ x ≤ y ∧ y ≤ 300) : (checkS (setW S i x y)).2.2 = 0 := by
  obtain ⟨h1, h2, h3, h4, h5⟩ := check_ok h
  have hl : (setW S i x y).ins.length = S.ins.length := by simp [setW]
  have e1 : firstErr (fun j => skErr (setW S i x y).sks j ((setW S i x y).sks[j]?.getD default)) 0 (setW S i x y).sks.length = (0, 0) := firstErr_none fun j _ hj => h4 j (by simpa [setW] using hj)
  have e2 : firstErr (fun j => inErr (setW S i x y).ins j ((setW S i x y).ins[j]?.getD default)) 0 (setW S i x y).ins.length = (0, 0) := firstErr_none fun j _ hj => by
    have hj' : j < S.ins.length := by rw [hl] at hj; omega
    have h6 := h5 j hj'
    unfold inErr at h6 ⊢
    rw [setW_name]
    by_cases hn : nmErr (fun j => (S.ins[j]?.getD default).name) j = 0
    · rw [if_pos hn] at h6 ⊢
      by_cases e : i = j
      · subst e
        rw [setW_at S x y hj']
        have b1 : inB (-300) 300 x = true := inB_iff.2 ⟨by omega, by omega⟩
        have b2 : inB (-300) 300 y = true := inB_iff.2 ⟨by omega, by omega⟩
        simp [spanE, b1, b2]
        omega
      · have : (setW S i x y).ins[j]?.getD default = S.ins[j]?.getD default := by
          show (S.ins.set i _)[j]?.getD default = _
          rw [List.getElem?_set_ne e]
        rw [this]; exact h6
    · rw [if_neg hn] at h6; exact absurd h6 hn
  unfold checkS
  rw [if_neg (by rw [hl]; show ¬ (¬ (1 ≤ S.sks.length ∧ S.sks.length ≤ 5) ∨ 6 < S.ins.length); omega), if_neg (by rw [e1]; simp), if_neg (by rw [e2]; simp)]
theorem ins_ok {S : Sch} (h : (checkS S).2.2 = 0) {i : Nat} (hi : i < S.ins.length) : -300 ≤ (S.ins[i]?.getD default).lo ∧ (S.ins[i]?.getD default).lo ≤ (S.ins[i]?.getD default).hi ∧ (S.ins[i]?.getD default).hi ≤ 300 := by
  have hm : markE S (i : Int) 0 = 0 := by
    unfold markE
    rw [if_pos h, if_pos (inB_iff.2 ⟨by omega, by omega⟩), if_pos (inB_iff.2 ⟨by omega, by omega⟩)]
  obtain ⟨_, _, j, e, _, h1, h2, h3⟩ := mark_ok hm
  have : i = j := by omega
  subst this
  exact ⟨h1, h2, h3⟩
theorem marks_at {S : Sch} (h : (checkS S).2.2 = 0) {i : Nat} (hi : i < S.ins.length) {l : Int} (hl : 0 ≤ l ∧ l ≤ 1000) :
    marksF S i l = ((lim (l + (S.ins[i]?.getD default).lo), lim (l + (S.ins[i]?.getD default).hi)), 0) := by
  have hm : markE S (i : Int) l = 0 := by
    unfold markE
    rw [if_pos h, if_pos (inB_iff.2 ⟨by omega, by omega⟩), if_pos (inB_iff.2 hl)]
  unfold marksF
  rw [if_pos hm, Int.toNat_natCast]
theorem behind_at {S : Sch} (h : (checkS S).2.2 = 0) {i : Nat} (hi : i < S.ins.length) {x : Int} (hx : 0 ≤ x ∧ x ≤ 1000) :
    behindF S i x = if (behindS ((S.ins[i]?.getD default).lo, (S.ins[i]?.getD default).hi) x).2 < (behindS ((S.ins[i]?.getD default).lo, (S.ins[i]?.getD default).hi) x).1 then ((0, 0), 9) else (behindS ((S.ins[i]?.getD default).lo, (S.ins[i]?.getD default).hi) x, 0) := by
  have hm : markE S (i : Int) x = 0 := by
    unfold markE
    rw [if_pos h, if_pos (inB_iff.2 ⟨by omega, by omega⟩), if_pos (inB_iff.2 hx)]
  unfold behindF
  rw [if_pos hm, Int.toNat_natCast]
/-- P2.8: what the law SkillDual asks. -/
theorem dual_can {lo hi l x p q : Int} (hl : 0 ≤ l ∧ l ≤ 1000) (hx : 0 ≤ x ∧ x ≤ 1000) (h : behindS (lo, hi) x = (p, q)) : (lim (l + lo) ≤ x ∧ x ≤ lim (l + hi)) ↔ (p ≤ l ∧ l ≤ q) := by
  have := behind_iff (b := (lo, hi)) (m := x) (l := l) hx
  rw [h] at this
  unfold inS at this
  simp only at this
  constructor
  · intro h; exact this.2 ⟨hl, h⟩
  · intro h; exact (this.1 h).2
theorem dual_wide {lo hi lo' hi' x p q p' q' : Int} (h1 : lo' ≤ lo) (h2 : hi ≤ hi') (h : behindS (lo, hi) x = (p, q)) (h' : behindS (lo', hi') x = (p', q')) : p' ≤ p ∧ q ≤ q' := by
  unfold behindS at h h'
  simp only [Prod.mk.injEq] at h h'
  obtain ⟨rfl, rfl⟩ := h
  obtain ⟨rfl, rfl⟩ := h'
  constructor
  · split <;> omega
  · split <;> omega

set_option maxRecDepth 100000 in
theorem valid_any (v : Value) (S : Sch) (w : World) (h : RdSch w v S) : Calls Try.prog 42 #[v] w fun e w' => e = .returned (.bool ((checkS S).2.2 == 0)) ∧ Below w.heap.size w w' := by
  have hC := hide (fun W (hb : Below w.heap.size w W) => CheckR_any v S W (h.below hb))
  unfold Ret3 at hC
  obtain ⟨A, c, A2, c2, rfl, -⟩ := h
  generalize checkS S = q at *
  obtain ⟨q0, q1, q2⟩ := q
  simp only at hC ⊢
  generalize S.sks.length = n1 at *
  generalize S.ins.length = n2 at *
  have kS := hide (show Blk (w.alloc (.cells #[.slice A n1 c, .slice A2 n2 c2] 25)) w.heap.size 25 #[.slice A n1 c, .slice A2 n2 c2] from blkNew rfl)
  have hB := hide (show Below w.heap.size w (w.alloc (.cells #[.slice A n1 c, .slice A2 n2 c2] 25)) from (Below.refl _ _).alloc (Nat.le_refl _) _)
  have s0 : (w.alloc (.cells #[.slice A n1 c, .slice A2 n2 c2] 25)).cell? ⟨w.heap.size, 0, none⟩ = some (.slice A n1 c) := kS.out.cell 0
  have s1 : (w.alloc (.cells #[.slice A n1 c, .slice A2 n2 c2] 25)).cell? ⟨w.heap.size, 1, none⟩ = some (.slice A2 n2 c2) := kS.out.cell 1
  go_enter Try.func42, Try.ntmps42
  go_wp2_with fail
  refine (hC.out _ hB.out).mono ?_
  rintro e w1 ⟨rfl, hb⟩
  replace hB := hide (hB.out.trans (hb.mono hB.out.size))
  clear hb s0 s1 hC
  go_wp2
  go_ret
  exact ⟨rfl, hB.out⟩
end Go.Proofs.Ytkhijdbigpaagaa
