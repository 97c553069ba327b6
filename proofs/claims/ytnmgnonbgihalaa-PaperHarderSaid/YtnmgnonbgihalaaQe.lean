import Derived.Test.YtnmgnonbgihalaaQd
import Derived.Test.YtnmgnonbgihalaaPr
/-
  A bank of which one question was answered wrong more often. The first part is of no program.
-/
namespace Go.Proofs.Ytnmgnonbgihalaa
open Go.RowKit RG

/-- Question k answered wrong by x more. -/
def hardQ (q : Qn) (x : Int) : Qn := ⟨q.part, q.asked, min q.asked (q.wrong + x)⟩
def hardB (B : Bank) (k : Nat) (x : Int) : Bank := ⟨B.qs.set k (hardQ (B.qs[k]?.getD default) x), B.wanted, B.lo, B.hi⟩
theorem hard_len (B : Bank) (k : Nat) (x : Int) : (hardB B k x).qs.length = B.qs.length := List.length_set
theorem weight_mono {q : Qn} {x : Int} (h1 : 0 ≤ q.asked) (h2 : 0 ≤ q.wrong) (h3 : q.wrong ≤ q.asked) (hx : 0 ≤ x) : weight q ≤ weight (hardQ q x) := by
  unfold weight hardQ
  dsimp only
  split
  · omega
  · rename_i h
    rw [Int.tdiv_eq_ediv_of_nonneg (by omega), Int.tdiv_eq_ediv_of_nonneg (by omega)]
    exact Int.ediv_le_ediv (by omega) (by omega)
theorem hard_err {B : Bank} {k : Nat} {x : Int} (h : errP B = 0) (hk : k < B.qs.length) (hx : 0 ≤ x) : errP (hardB B k x) = 0 := by
  have hb := err_ok h
  have hq := hb.qs _ (List.getElem_mem hk)
  have hset : B.qs.set k (hardQ (B.qs[k]?.getD default) x) = B.qs.set k (hardQ B.qs[k] x) := by rw [List.getElem?_eq_getElem hk]; rfl
  refine ok_err ⟨by rw [hard_len]; exact hb.nq, hb.nw, hb.lo, hb.hi, hb.le, ?_, ?_⟩
  · intro q hq'
    have hq' : q ∈ B.qs.set k (hardQ B.qs[k] x) := by rw [← hset]; exact hq'
    rcases List.mem_or_eq_of_mem_set hq' with h | rfl
    · exact hb.qs q h
    · unfold hardQ
      dsimp only
      refine ⟨hq.1, hq.2.1, ?_, ?_⟩ <;> omega
  · intro p hp
    have := hb.ws p hp
    have he : leftP (hardB B k x) 0 p = leftP B 0 p := by
      have h1 : ∀ (l : List Qn) (k : Nat) (hk : k < l.length) (q : Qn), q.part = l[k].part → (l.set k q).countP (fun q => decide (q.part = (p : Int))) = l.countP fun q => decide (q.part = (p : Int)) := by
        intro l
        induction l with
        | nil => intro k hk; exact absurd hk (by simp)
        | cons a l ih =>
          intro k hk q hq
          cases k with
          | zero => rw [List.set_cons_zero, List.countP_cons, List.countP_cons, hq]; rfl
          | succ k => rw [List.set_cons_succ, List.countP_cons, List.countP_cons, ih k (by simpa using hk) q (by simpa using hq)]
      unfold leftP hardB
      dsimp only
      rw [hset, List.drop_zero, List.drop_zero]
      exact h1 B.qs k hk _ rfl
    rw [he]
    exact this
theorem hard_wAt {B : Bank} {k : Nat} {x : Int} (h : errP B = 0) (hk : k < B.qs.length) (hx : 0 ≤ x) (i : Nat) (hi : i < B.qs.length) :
    (i ≠ k → wAt (hardB B k x) i = wAt B i) ∧ wAt B i ≤ wAt (hardB B k x) i := by
  have hb := err_ok h
  have hq := hb.qs _ (List.getElem_mem hk)
  have hne : i ≠ k → wAt (hardB B k x) i = wAt B i := fun e => by
    unfold wAt hardB
    dsimp only
    rw [List.getElem?_set_ne (fun h => e h.symm)]
  refine ⟨hne, ?_⟩
  by_cases e : i = k
  · subst e
    unfold wAt hardB
    dsimp only
    rw [List.getElem?_set_self hk, List.getElem?_eq_getElem hk]
    exact weight_mono hq.2.1.1 hq.2.2.1 hq.2.2.2 hx
  · rw [hne e]; exact Int.le_refl _
theorem wts_at {B : Bank} (h : errP B = 0) {i : Nat} (hi : i < B.qs.length) : (wtsP B)[i]? = some (wAt B i) := by
  rw [wtsP, if_neg (by simp [h])]
  unfold weightsP
  rw [List.getElem?_map, List.getElem?_range hi]
  rfl
theorem wts_len {B : Bank} (h : errP B = 0) : (wtsP B).length = B.qs.length := by
  rw [wtsP, if_neg (by simp [h])]
  unfold weightsP
  rw [List.length_map, List.length_range]
theorem wts_nil {B : Bank} (h : errP B ≠ 0) : wtsP B = [] := by rw [wtsP, if_pos h]
/-- Weights before and after. -/
theorem hard_at {B : Bank} {k : Nat} {x : Int} (h : errP B = 0) (hk : k < B.qs.length) (hx : 0 ≤ x) (i : Nat) (hi : i < B.qs.length) :
    ∃ a b, (wtsP B)[i]? = some a ∧ (wtsP (hardB B k x))[i]? = some b ∧ (i ≠ k → a = b) ∧ a ≤ b ∧ 0 ≤ a ∧ b ≤ 1000 := by
  have h2 := hard_err h hk hx
  have h3 := hard_wAt h hk hx i hi
  exact ⟨_, _, wts_at h hi, wts_at h2 (by rw [hard_len]; exact hi), fun e => (h3.1 e).symm, h3.2, (wAt_bd (err_ok h) i).1, (wAt_bd (err_ok h2) i).2⟩
theorem qCells_set (q : Qn) (x : Int) : (qCells q).set 2 (.int .i64 (min q.asked (q.wrong + x))) = qCells (hardQ q x) := rfl
theorem infoQ : (Try.prog.info? 61).map (fun i => (i.zero, i.size, i.bytes)) = some (some (.agg #[.int .i64 0, .int .i64 0, .int .i64 0]), 3, 24) := by kernel_rfl
/-- A copy of a bank's questions by append. -/
theorem copyQ {W : World} {Q Wd : Option Addr} {B : Bank} (h : BkR W Q Wd B) (hB : BankOk B) (cq : Nat) (hcq : Q = none → cq = 0) :
    ∃ g cap w4, (Builtin.append_ #[22, 22] 22 #[.slice (some ⟨W.heap.size, 0, none⟩) 0 0, .slice Q B.qs.length cq]).run Try.prog (W.alloc (.cells #[] 61)) = .ok (.slice (some ⟨g, 0, none⟩) B.qs.length cap) w4 ∧
      RowAt w4 (fun i => i < W.heap.size) 61 3 (.slice (some ⟨g, 0, none⟩) B.qs.length cap) (B.qs.map qCells) ∧ Below W.heap.size W w4 ∧ W.heap.size ≤ g ∧ g < w4.heap.size ∧ B.qs.length ≤ cap := by
  have hn := hB.nq
  have bW : Blk (W.alloc (.cells #[] 61)) W.heap.size 61 #[] := blkNew rfl
  have hBW : Below W.heap.size W (W.alloc (.cells #[] 61)) := (Below.refl _ _).alloc (Nat.le_refl _) _
  obtain ⟨v', w4, hrun, hrow, hk, -⟩ := app_row (t := 22) (ty := 22) Try.underlying22 infoQ rfl (by decide) (by decide) (rowAt_new (X := fun g => g < W.heap.size) 3 bW (Nat.lt_irrefl _)) (fun g hg => Nat.lt_of_lt_of_le hg hBW.size) (h.qs.below hBW) (A := Q) (c := cq) hcq (by
    intro u hu
    obtain ⟨l, hl, hul⟩ := List.mem_flatten.1 hu
    obtain ⟨q, -, rfl⟩ := List.mem_map.1 hl
    unfold qCells at hul
    simp only [List.mem_cons, List.not_mem_nil, or_false] at hul
    rcases hul with rfl | rfl | rfl <;> rfl) (by simp; omega)
  rw [List.nil_append] at hrow
  obtain ⟨g, cap, rfl, h1, h2, h3, -⟩ := hrow.at (by rw [List.length_map]; omega)
  rw [List.length_map] at hrun hrow h3
  exact ⟨g, cap, w4, hrun, hrow, hBW.trans (KeptX.below hk), by omega, h2, h3⟩
end Go.Proofs.Ytnmgnonbgihalaa
