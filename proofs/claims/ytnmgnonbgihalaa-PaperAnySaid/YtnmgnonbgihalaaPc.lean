import Derived.Test.YtnmgnonbgihalaaPb
import Derived.RangeFuncNested
import Derived.RangeFuncBound
import Derived.RangeFuncCalls
import Derived.RangeFuncLeaves
import Derived.RangeFuncBox
import Derived.Shelf.Abstract
import Derived.Shelf.AbstractIn
import Derived.Shelf.RegionOpen
import Derived.OwnWalkIn
import Derived.TacticsInMore
import Derived.LoopNIn
import Derived.LoopIn
import Derived.OrdersIn
import Derived.StillTail
/-
  What package paper does, as a function on data: banks, papers and their numbers. Of no program.
-/
namespace Go.Proofs.Ytnmgnonbgihalaa

structure Qn where
  part : Int
  asked : Int
  wrong : Int
deriving Inhabited, DecidableEq
structure Bank where
  qs : List Qn
  wanted : List Int
  lo : Int
  hi : Int
def inI (lo hi x : Int) : Bool := decide (lo ≤ x) && decide (x ≤ hi)
theorem inI_iff {lo hi x : Int} : inI lo hi x = true ↔ lo ≤ x ∧ x ≤ hi := by simp [inI]
theorem inI_not {lo hi x : Int} : inI lo hi x = false ↔ ¬ (lo ≤ x ∧ x ≤ hi) := by rw [← inI_iff]; simp
/-- The first of n indices from i on with an error. -/
def fErr (err : Nat → Int) (i : Nat) : Nat → Int × Int
  | 0 => (0, 0)
  | n + 1 => if err i = 0 then fErr err (i + 1) n else ((i : Int), err i)
theorem fErr_zero {err : Nat → Int} : ∀ {n i : Nat}, (fErr err i n).2 = 0 → ∀ j, i ≤ j → j < i + n → err j = 0
  | 0, i, _, j, h1, h2 => by omega
  | n + 1, i, h, j, h1, h2 => by
    unfold fErr at h
    split at h
    · rename_i h0
      by_cases e : j = i
      · subst e; exact h0
      · exact fErr_zero h j (by omega) (by omega)
    · rename_i h0; exact absurd h h0
theorem fErr_all {err : Nat → Int} : ∀ {n i : Nat}, (∀ j, i ≤ j → j < i + n → err j = 0) → fErr err i n = (0, 0)
  | 0, _, _ => rfl
  | n + 1, i, h => by
    unfold fErr
    rw [if_pos (h i (Nat.le_refl _) (by omega))]
    exact fErr_all fun j h1 h2 => h j (by omega) (by omega)
/-- How hard a question is. -/
def weight (q : Qn) : Int := if q.asked = 0 then 500 else (q.wrong * 1000).tdiv q.asked
def qErr (B : Bank) (q : Qn) : Int :=
  if inI 0 ((B.wanted.length : Int) - 1) q.part = false then 4
  else if inI 0 100000 q.asked = false ∨ inI 0 q.asked q.wrong = false then 7 else 0
/-- How many questions of a part there are from the k-th one on. -/
def leftP (B : Bank) (k p : Nat) : Nat := (B.qs.drop k).countP fun q => decide (q.part = (p : Int))
def wErr (B : Bank) (p : Nat) : Int := if inI 1 (leftP B 0 p) (B.wanted[p]?.getD 0) = false then 7 else 0
def numErr (B : Bank) : Int :=
  if inI 1 16 B.qs.length = false ∨ inI 1 4 B.wanted.length = false then 3
  else if inI 0 16000 B.lo = false ∨ inI 0 16000 B.hi = false then 7
  else if B.hi < B.lo then 2 else 0
def qsE (B : Bank) : Int × Int := fErr (fun i => qErr B (B.qs[i]?.getD default)) 0 B.qs.length
def wsE (B : Bank) : Int × Int := fErr (wErr B) 0 B.wanted.length
def checkP (B : Bank) : Int × Int × Int :=
  if numErr B ≠ 0 then (1, 0, numErr B) else if (qsE B).2 ≠ 0 then (2, (qsE B).1, (qsE B).2) else if (wsE B).2 ≠ 0 then (3, (wsE B).1, (wsE B).2) else (0, 0, 0)
/-- A bank that is one. -/
structure BankOk (B : Bank) : Prop where
  nq : 1 ≤ B.qs.length ∧ B.qs.length ≤ 16
  nw : 1 ≤ B.wanted.length ∧ B.wanted.length ≤ 4
  lo : 0 ≤ B.lo ∧ B.lo ≤ 16000
  hi : 0 ≤ B.hi ∧ B.hi ≤ 16000
  le : B.lo ≤ B.hi
  qs : ∀ q ∈ B.qs, (0 ≤ q.part ∧ q.part < B.wanted.length) ∧ (0 ≤ q.asked ∧ q.asked ≤ 100000) ∧ 0 ≤ q.wrong ∧ q.wrong ≤ q.asked
  ws : ∀ p, p < B.wanted.length → 1 ≤ B.wanted[p]?.getD 0 ∧ B.wanted[p]?.getD 0 ≤ leftP B 0 p
theorem bank_ok {B : Bank} (h : (checkP B).2.2 = 0) : BankOk B := by
  unfold checkP at h
  split at h
  · rename_i h1; exact absurd h h1
  rename_i h1
  split at h
  · rename_i h2; exact absurd h h2
  rename_i h2
  split at h
  · rename_i h3; exact absurd h h3
  rename_i h3
  have h1 : numErr B = 0 := Classical.byContradiction h1
  have h2 : (qsE B).2 = 0 := Classical.byContradiction h2
  have h3 : (wsE B).2 = 0 := Classical.byContradiction h3
  unfold numErr at h1
  split at h1
  · cases h1
  rename_i a1
  split at h1
  · cases h1
  rename_i a2
  split at h1
  · cases h1
  rename_i a3
  simp only [not_or, Bool.not_eq_false] at a1 a2
  have b1 := inI_iff.1 a1.1
  have b2 := inI_iff.1 a1.2
  have b3 := inI_iff.1 a2.1
  have b4 := inI_iff.1 a2.2
  refine ⟨by omega, by omega, b3, b4, by omega, fun q hq => ?_, fun p hp => ?_⟩
  · obtain ⟨i, hi, rfl⟩ := List.mem_iff_getElem.1 hq
    have := fErr_zero h2 i (Nat.zero_le _) (by omega)
    rw [List.getElem?_eq_getElem hi, Option.getD_some] at this
    unfold qErr at this
    split at this
    · cases this
    rename_i c1
    split at this
    · cases this
    rename_i c2
    simp only [not_or, Bool.not_eq_false] at c1 c2
    have d1 := inI_iff.1 c1
    have d2 := inI_iff.1 c2.1
    have d3 := inI_iff.1 c2.2
    exact ⟨by omega, d2, d3⟩
  · have := fErr_zero h3 p (Nat.zero_le _) (by omega)
    unfold wErr at this
    split at this
    · cases this
    rename_i c1
    simp only [Bool.not_eq_false] at c1
    exact inI_iff.1 c1
def partAt (B : Bank) (k : Nat) : Nat := (B.qs[k]?.getD default).part.toNat
def wAt (B : Bank) (k : Nat) : Int := weight (B.qs[k]?.getD default)
/-- What is needed when a question of a part is taken. -/
def dec (n : List Int) (p : Nat) : List Int := n.set p (n[p]?.getD 0 - 1)
def zero4 : List Int := [0, 0, 0, 0]
/-- Whether a paper can still become full. -/
def canB (B : Bank) (k : Nat) (n : List Int) : Bool := (List.range 4).all fun p => inI 0 (leftP B k p) (n[p]?.getD 0)
def inLev (B : Bank) (l : Int) : Bool := inI B.lo B.hi l
/-- The papers that a stand can become: the questions from the k-th on that they have. -/
def papersB (B : Bank) : Nat → Nat → List Int → Int → List (List Nat)
  | 0, _, n, l => if n = zero4 ∧ inLev B l = true then [[]] else []
  | r + 1, k, n, l =>
    if n = zero4 then (if inLev B l = true then [[]] else [])
    else if canB B k n = true then (papersB B r (k + 1) (dec n (partAt B k)) (l + wAt B k)).map (k :: ·) ++ papersB B r (k + 1) n l
    else []
def start4 (B : Bank) : List Int := B.wanted ++ List.replicate (4 - B.wanted.length) 0
/-- All papers, by their numbers. -/
def papers (B : Bank) : List (List Nat) := papersB B B.qs.length 0 (start4 B) 0
/-- How many questions of a part a list has. -/
def cnt (B : Bank) (p : Nat) (l : List Nat) : Nat := l.countP fun x => partAt B x == p
def lev (B : Bank) (l : List Nat) : Int := (l.map (wAt B)).sum
theorem cnt_nil (B : Bank) (p : Nat) : cnt B p [] = 0 := rfl
theorem cnt_cons (B : Bank) (p x : Nat) (l : List Nat) : cnt B p (x :: l) = cnt B p l + if partAt B x = p then 1 else 0 := by
  unfold cnt
  rw [List.countP_cons]
  simp
theorem lev_cons (B : Bank) (x : Nat) (l : List Nat) : lev B (x :: l) = wAt B x + lev B l := by simp [lev]
/-- Ascending numbers from k on, below k + r, are some of these. -/
theorem asc_sub : ∀ (r k : Nat) (l : List Nat), l.Pairwise (· < ·) → (∀ x ∈ l, k ≤ x ∧ x < k + r) → List.Sublist l (List.range' k r)
  | 0, k, l, _, hb => by
    cases l with
    | nil => exact List.Sublist.slnil
    | cons x l => have := hb x (List.mem_cons_self ..); omega
  | r + 1, k, l, hp, hb => by
    rw [List.range'_succ]
    cases l with
    | nil => exact List.nil_sublist _
    | cons x l =>
      rw [List.pairwise_cons] at hp
      by_cases e : x = k
      · subst e
        exact List.Sublist.cons_cons _ (asc_sub r (x + 1) l hp.2 fun y hy => ⟨hp.1 y hy, by have := hb y (List.mem_cons_of_mem _ hy); omega⟩)
      · refine List.Sublist.cons _ (asc_sub r (k + 1) (x :: l) (List.pairwise_cons.2 hp) fun y hy => ?_)
        have h1 := hb x (List.mem_cons_self ..)
        have h2 := hb y hy
        rcases List.mem_cons.1 hy with rfl | hy
        · omega
        · have := hp.1 y hy; omega
theorem cnt_range (B : Bank) (hp : ∀ q ∈ B.qs, 0 ≤ q.part) (p : Nat) : ∀ (r k : Nat), k + r = B.qs.length → cnt B p (List.range' k r) = leftP B k p
  | 0, k, h => by
    unfold leftP
    rw [List.drop_of_length_le (by omega)]
    rfl
  | r + 1, k, h => by
    have hk : k < B.qs.length := by omega
    rw [List.range'_succ, cnt_cons, cnt_range B hp p r (k + 1) (by omega)]
    unfold leftP
    rw [List.drop_eq_getElem_cons hk, List.countP_cons]
    congr 1
    unfold partAt
    rw [List.getElem?_eq_getElem hk, Option.getD_some]
    have := hp B.qs[k] (List.getElem_mem hk)
    by_cases e : B.qs[k].part = (p : Int)
    · rw [if_pos (by omega), if_pos (by simpa using e)]
    · rw [if_neg (by omega), if_neg (by simpa using e)]
theorem cnt_le (B : Bank) (hp : ∀ q ∈ B.qs, 0 ≤ q.part) {r k : Nat} (h : k + r = B.qs.length) {l : List Nat} (hl : l.Pairwise (· < ·)) (hb : ∀ x ∈ l, k ≤ x ∧ x < k + r) (p : Nat) : cnt B p l ≤ leftP B k p := by
  rw [← cnt_range B hp p r k h]
  exact (asc_sub r k l hl hb).countP_le
theorem four {n : List Int} (h : n.length = 4) : ∃ a b c d, n = [a, b, c, d] := by
  match n, h with
  | [a, b, c, d], _ => exact ⟨a, b, c, d, rfl⟩
theorem zero_iff {n : List Int} (h : n.length = 4) : n = zero4 ↔ ∀ p, p < 4 → n[p]?.getD 0 = 0 := by
  obtain ⟨a, b, c, d, rfl⟩ := four h
  constructor
  · intro e p hp
    rw [e]
    match p, hp with
    | 0, _ => rfl
    | 1, _ => rfl
    | 2, _ => rfl
    | 3, _ => rfl
  · intro e
    have h0 := e 0 (by omega)
    have h1 := e 1 (by omega)
    have h2 := e 2 (by omega)
    have h3 := e 3 (by omega)
    simp at h0 h1 h2 h3
    subst h0 h1 h2 h3
    rfl
theorem dec_len (n : List Int) (p : Nat) : (dec n p).length = n.length := by simp [dec]
theorem dec_at {n : List Int} (h : n.length = 4) {p : Nat} (hp : p < 4) (i : Nat) : (dec n p)[i]?.getD 0 = n[i]?.getD 0 - if i = p then 1 else 0 := by
  unfold dec
  rw [List.getElem?_set]
  by_cases e : p = i
  · subst e
    rw [if_pos rfl, if_pos (by omega), if_pos rfl]
    rfl
  · rw [if_neg e, if_neg (fun h => e h.symm)]
    omega
/-- What a stand can become. -/
structure Becomes (B : Bank) (k r : Nat) (n : List Int) (l : Int) (q : List Nat) : Prop where
  asc : q.Pairwise (· < ·)
  rng : ∀ x ∈ q, k ≤ x ∧ x < k + r
  cnt : ∀ p, p < 4 → (cnt B p q : Int) = n[p]?.getD 0
  lev : inLev B (l + lev B q) = true
theorem nil_of_zero {B : Bank} (h4 : ∀ x, partAt B x < 4) {q : List Nat} (h : ∀ p, p < 4 → cnt B p q = 0) : q = [] := by
  cases q with
  | nil => rfl
  | cons x l =>
    have := h (partAt B x) (h4 x)
    rw [cnt_cons, if_pos rfl] at this
    omega
theorem mem_papersB {B : Bank} (h4 : ∀ x, partAt B x < 4) (hp : ∀ q ∈ B.qs, 0 ≤ q.part) : ∀ (r k : Nat) (n : List Int) (l : Int) (q : List Nat), k + r = B.qs.length → n.length = 4 → (q ∈ papersB B r k n l ↔ Becomes B k r n l q)
  | 0, k, n, l, q, hk, hn => by
    unfold papersB
    constructor
    · intro h
      split at h
      · rename_i h1
        obtain rfl : q = [] := by simpa using h
        exact ⟨List.Pairwise.nil, fun x hx => (by cases hx), fun p hp => by rw [(zero_iff hn).1 h1.1 p hp]; rfl, by simpa [lev] using h1.2⟩
      · cases h
    · intro h
      have hq : q = [] := by
        cases q with
        | nil => rfl
        | cons x t => have := h.rng x (List.mem_cons_self ..); omega
      subst hq
      rw [if_pos ⟨(zero_iff hn).2 fun p hp => (h.cnt p hp).symm, by simpa [lev] using h.lev⟩]
      exact List.mem_singleton.2 rfl
  | r + 1, k, n, l, q, hk, hn => by
    unfold papersB
    by_cases hz : n = zero4
    · rw [if_pos hz]
      constructor
      · intro h
        split at h
        · rename_i h1
          obtain rfl : q = [] := by simpa using h
          exact ⟨List.Pairwise.nil, fun x hx => (by cases hx), fun p hp => by rw [(zero_iff hn).1 hz p hp]; rfl, by simpa [lev] using h1⟩
        · cases h
      · intro h
        obtain rfl : q = [] := nil_of_zero h4 fun p hp => by have := h.cnt p hp; rw [(zero_iff hn).1 hz p hp] at this; omega
        rw [if_pos (by simpa [lev] using h.lev)]
        exact List.mem_singleton.2 rfl
    · rw [if_neg hz]
      by_cases hc : canB B k n = true
      · rw [if_pos hc, List.mem_append, List.mem_map]
        constructor
        · rintro (⟨t, ht, rfl⟩ | ht)
          · have := (mem_papersB h4 hp r (k + 1) (dec n (partAt B k)) (l + wAt B k) t (by omega) (by rw [dec_len]; exact hn)).1 ht
            refine ⟨List.pairwise_cons.2 ⟨fun y hy => by have := this.rng y hy; omega, this.asc⟩, fun x hx => ?_, fun p hp4 => ?_, ?_⟩
            · rcases List.mem_cons.1 hx with rfl | hx
              · omega
              · have := this.rng x hx; omega
            · have h5 := this.cnt p hp4
              rw [dec_at hn (h4 k)] at h5
              rw [cnt_cons]
              by_cases e : partAt B k = p
              · rw [if_pos e]; rw [if_pos e.symm] at h5; omega
              · rw [if_neg e]; rw [if_neg (fun h => e h.symm)] at h5; omega
            · rw [lev_cons, ← Int.add_assoc]; exact this.lev
          · have := (mem_papersB h4 hp r (k + 1) n l q (by omega) hn).1 ht
            exact ⟨this.asc, fun x hx => by have := this.rng x hx; omega, this.cnt, this.lev⟩
        · intro h
          cases q with
          | nil =>
            exact absurd ((zero_iff hn).2 fun p hp => by have := h.cnt p hp; rw [cnt_nil] at this; omega) hz
          | cons x t =>
            have ha := List.pairwise_cons.1 h.asc
            by_cases e : x = k
            · subst e
              refine .inl ⟨t, (mem_papersB h4 hp r (x + 1) (dec n (partAt B x)) (l + wAt B x) t (by omega) (by rw [dec_len]; exact hn)).2 ⟨ha.2, fun y hy => ⟨ha.1 y hy, by have := h.rng y (List.mem_cons_of_mem _ hy); omega⟩, fun p hp4 => ?_, ?_⟩, rfl⟩
              · have h5 := h.cnt p hp4
                rw [cnt_cons] at h5
                rw [dec_at hn (h4 x)]
                by_cases e : partAt B x = p
                · rw [if_pos e] at h5; rw [if_pos e.symm]; omega
                · rw [if_neg e] at h5; rw [if_neg (fun h => e h.symm)]; omega
              · rw [Int.add_assoc, ← lev_cons]; exact h.lev
            · refine .inr ((mem_papersB h4 hp r (k + 1) n l (x :: t) (by omega) hn).2 ⟨h.asc, fun y hy => ?_, h.cnt, h.lev⟩)
              have h1 := h.rng x (List.mem_cons_self ..)
              have h2 := h.rng y hy
              rcases List.mem_cons.1 hy with rfl | hy
              · omega
              · have := ha.1 y hy; omega
      · rw [if_neg hc]
        constructor
        · intro h; cases h
        · intro h
          exfalso
          apply hc
          unfold canB
          rw [List.all_eq_true]
          intro p hp4
          have hp4 := List.mem_range.1 hp4
          rw [inI_iff, ← h.cnt p hp4]
          have := cnt_le B hp hk h.asc h.rng p
          omega
/-- The first question at which two lists differ decides. -/
def befB : List Nat → List Nat → Bool
  | x :: a, y :: b => if x = y then befB a b else decide (x < y)
  | _, _ => false
theorem bef_irrefl : ∀ a, befB a a = false
  | [] => rfl
  | x :: a => by simp [befB, bef_irrefl a]
theorem bef_asymm : ∀ {a b}, befB a b = true → befB b a = false
  | [], _, h => by simp [befB] at h
  | _ :: _, [], h => by simp [befB] at h
  | x :: a, y :: b, h => by
    unfold befB at h ⊢
    by_cases e : x = y
    · rw [if_pos e] at h
      rw [if_pos e.symm]
      exact bef_asymm h
    · rw [if_neg e] at h
      rw [if_neg (fun h => e h.symm)]
      have : x < y := by simpa using h
      simp
      omega
theorem papers_asc {B : Bank} (h4 : ∀ x, partAt B x < 4) (hp : ∀ q ∈ B.qs, 0 ≤ q.part) : ∀ (r k : Nat) (n : List Int) (l : Int), k + r = B.qs.length → n.length = 4 → (papersB B r k n l).Pairwise fun a b => befB a b = true
  | 0, k, n, l, _, _ => by
    unfold papersB
    split <;> simp
  | r + 1, k, n, l, hk, hn => by
    unfold papersB
    by_cases hz : n = zero4
    · rw [if_pos hz]; split <;> simp
    · rw [if_neg hz]
      split
      · rw [List.pairwise_append]
        refine ⟨?_, papers_asc h4 hp r (k + 1) n l (by omega) hn, ?_⟩
        · rw [List.pairwise_map]
          refine (papers_asc h4 hp r (k + 1) (dec n (partAt B k)) (l + wAt B k) (by omega) (by rw [dec_len]; exact hn)).imp fun {a b} h => ?_
          show befB (k :: a) (k :: b) = true
          simp [befB, h]
        · intro a ha b hb
          obtain ⟨t, _, rfl⟩ := List.mem_map.1 ha
          have := (mem_papersB h4 hp r (k + 1) n l b (by omega) hn).1 hb
          cases b with
          | nil => exact absurd ((zero_iff hn).2 fun p hp => by have := this.cnt p hp; rw [cnt_nil] at this; omega) hz
          | cons y u =>
            have h1 := this.rng y (List.mem_cons_self ..)
            unfold befB
            rw [if_neg (by omega)]
            simp
            omega
      · exact List.Pairwise.nil
end Go.Proofs.Ytnmgnonbgihalaa

/-
  Papers by their numbers, step by step. Of no program.
-/
namespace Go.Proofs.Ytnmgnonbgihalaa

def countB (B : Bank) (r k : Nat) (n : List Int) (l : Int) : Nat := (papersB B r k n l).length
theorem papersB_full (B : Bank) (r k : Nat) (l : Int) : papersB B r k zero4 l = if inLev B l = true then [[]] else [] := by
  cases r with
  | zero => unfold papersB; simp
  | succ r => unfold papersB; simp
theorem papersB_end {B : Bank} {k : Nat} {n : List Int} {l : Int} (hz : n ≠ zero4) : papersB B 0 k n l = [] := by
  unfold papersB; rw [if_neg (fun h => hz h.1)]
theorem papersB_no {B : Bank} {r k : Nat} {n : List Int} {l : Int} (hz : n ≠ zero4) (hc : canB B k n = false) : papersB B r k n l = [] := by
  cases r with
  | zero => exact papersB_end hz
  | succ r => unfold papersB; rw [if_neg hz, if_neg (by rw [hc]; decide)]
theorem papersB_step {B : Bank} {r k : Nat} {n : List Int} {l : Int} (hz : n ≠ zero4) (hc : canB B k n = true) :
    papersB B (r + 1) k n l = (papersB B r (k + 1) (dec n (partAt B k)) (l + wAt B k)).map (k :: ·) ++ papersB B r (k + 1) n l := by
  rw [papersB, if_neg hz, if_pos hc]
/-- At the end just those stands can become full that are. -/
theorem can_end {B : Bank} {k : Nat} (hk : B.qs.length ≤ k) {n : List Int} (hn : n.length = 4) (hc : canB B k n = true) : n = zero4 := by
  rw [zero_iff hn]
  intro p hp
  unfold canB at hc
  rw [List.all_eq_true] at hc
  have := inI_iff.1 (hc p (List.mem_range.2 hp))
  have e : leftP B k p = 0 := by unfold leftP; rw [List.drop_of_length_le hk]; rfl
  omega
theorem countB_full (B : Bank) (r k : Nat) (l : Int) : countB B r k zero4 l = if inLev B l = true then 1 else 0 := by
  unfold countB; rw [papersB_full]; split <;> rfl
theorem countB_no {B : Bank} {r k : Nat} {n : List Int} {l : Int} (hz : n ≠ zero4) (hc : canB B k n = false) : countB B r k n l = 0 := by
  unfold countB; rw [papersB_no hz hc]; rfl
theorem countB_step {B : Bank} {r k : Nat} {n : List Int} {l : Int} (hz : n ≠ zero4) (hc : canB B k n = true) :
    countB B (r + 1) k n l = countB B r (k + 1) (dec n (partAt B k)) (l + wAt B k) + countB B r (k + 1) n l := by
  unfold countB; rw [papersB_step hz hc]; simp
theorem countB_pow (B : Bank) : ∀ (r k : Nat) (n : List Int) (l : Int), countB B r k n l ≤ 2 ^ r
  | 0, k, n, l => by unfold countB papersB; split <;> simp
  | r + 1, k, n, l => by
    by_cases hz : n = zero4
    · subst hz
      rw [countB_full]
      have := Nat.one_le_two_pow (n := r + 1)
      split <;> omega
    · by_cases hc : canB B k n = true
      · rw [countB_step hz hc]
        have h1 := countB_pow B r (k + 1) (dec n (partAt B k)) (l + wAt B k)
        have h2 := countB_pow B r (k + 1) n l
        rw [Nat.pow_succ]
        omega
      · rw [countB_no hz (by simpa using hc)]
        exact Nat.zero_le _
/-- A stand that is not full and becomes a paper. -/
theorem more_of {B : Bank} {r k : Nat} {n : List Int} {l : Int} (hz : n ≠ zero4) (h : 0 < countB B r k n l) : ∃ r', r = r' + 1 ∧ canB B k n = true := by
  cases r with
  | zero => unfold countB at h; rw [papersB_end hz] at h; simp at h
  | succ r =>
    refine ⟨r, rfl, ?_⟩
    cases hc : canB B k n with
    | true => rfl
    | false => rw [countB_no hz hc] at h; omega
theorem nth_with {B : Bank} {r k : Nat} {n : List Int} {l : Int} {i : Nat} (hz : n ≠ zero4) (hc : canB B k n = true) (hi : i < countB B r (k + 1) (dec n (partAt B k)) (l + wAt B k)) :
    (papersB B (r + 1) k n l)[i]? = ((papersB B r (k + 1) (dec n (partAt B k)) (l + wAt B k))[i]?).map (k :: ·) := by
  rw [papersB_step hz hc, List.getElem?_append_left (by rw [List.length_map]; exact hi), List.getElem?_map]
theorem nth_without {B : Bank} {r k : Nat} {n : List Int} {l : Int} {i : Nat} (hz : n ≠ zero4) (hc : canB B k n = true) (hi : countB B r (k + 1) (dec n (partAt B k)) (l + wAt B k) ≤ i) :
    (papersB B (r + 1) k n l)[i]? = (papersB B r (k + 1) n l)[i - countB B r (k + 1) (dec n (partAt B k)) (l + wAt B k)]? := by
  rw [papersB_step hz hc, List.getElem?_append_right (by rw [List.length_map]; exact hi)]
  simp [countB]
/-- The number of a paper. -/
def idxB (B : Bank) : Nat → Nat → List Int → Int → List Nat → Nat
  | 0, _, _, _, _ => 0
  | _ + 1, _, _, _, [] => 0
  | r + 1, k, n, l, x :: t => if x = k then idxB B r (k + 1) (dec n (partAt B k)) (l + wAt B k) t else countB B r (k + 1) (dec n (partAt B k)) (l + wAt B k) + idxB B r (k + 1) n l (x :: t)
theorem idx_at {B : Bank} (h4 : ∀ x, partAt B x < 4) (hp : ∀ q ∈ B.qs, 0 ≤ q.part) : ∀ (r k : Nat) (n : List Int) (l : Int) (q : List Nat), k + r = B.qs.length → n.length = 4 → q ∈ papersB B r k n l → (papersB B r k n l)[idxB B r k n l q]? = some q
  | 0, k, n, l, q, _, _, h => by
    unfold papersB at h ⊢
    split at h
    · rename_i h1
      obtain rfl : q = [] := by simpa using h
      rw [if_pos h1]
      rfl
    · cases h
  | r + 1, k, n, l, q, hk, hn, h => by
    by_cases hz : n = zero4
    · subst hz
      rw [papersB_full] at h ⊢
      split at h
      · rename_i h1
        obtain rfl : q = [] := by simpa using h
        rw [if_pos h1]
        rfl
      · cases h
    · by_cases hc : canB B k n = true
      · have hm := (mem_papersB h4 hp (r + 1) k n l q hk hn).1 h
        cases q with
        | nil => exact absurd ((zero_iff hn).2 fun p hp => by have := hm.cnt p hp; rw [cnt_nil] at this; omega) hz
        | cons x t =>
          unfold idxB
          rw [papersB_step hz hc, List.mem_append, List.mem_map] at h
          by_cases e : x = k
          · subst e
            rw [if_pos rfl]
            have ht : t ∈ papersB B r (x + 1) (dec n (partAt B x)) (l + wAt B x) := by
              rcases h with ⟨t', h1, h2⟩ | h1
              · cases h2; exact h1
              · have := ((mem_papersB h4 hp r (x + 1) n l (x :: t) (by omega) hn).1 h1).rng x (List.mem_cons_self ..); omega
            have := idx_at h4 hp r (x + 1) (dec n (partAt B x)) (l + wAt B x) t (by omega) (by rw [dec_len]; exact hn) ht
            have hlt : idxB B r (x + 1) (dec n (partAt B x)) (l + wAt B x) t < countB B r (x + 1) (dec n (partAt B x)) (l + wAt B x) := by
              rcases List.getElem?_eq_some_iff.1 this with ⟨h1, _⟩
              exact h1
            rw [nth_with hz hc hlt, this]
            rfl
          · rw [if_neg e]
            have ht : x :: t ∈ papersB B r (k + 1) n l := by
              rcases h with ⟨t', h1, h2⟩ | h1
              · cases h2; exact absurd rfl e
              · exact h1
            have := idx_at h4 hp r (k + 1) n l (x :: t) (by omega) hn ht
            rw [nth_without hz hc (by omega), Nat.add_sub_cancel_left]
            exact this
      · rw [papersB_no hz (by simpa using hc)] at h
        cases h
/-- In a list that ascends each element has one place. -/
theorem one_place {l : List (List Nat)} (h : l.Pairwise fun a b => befB a b = true) {i j : Nat} {q : List Nat} (hi : l[i]? = some q) (hj : l[j]? = some q) : i = j := by
  obtain ⟨h1, e1⟩ := List.getElem?_eq_some_iff.1 hi
  obtain ⟨h2, e2⟩ := List.getElem?_eq_some_iff.1 hj
  rcases Nat.lt_trichotomy i j with h3 | h3 | h3
  · have := List.pairwise_iff_getElem.1 h i j h1 h2 h3
    rw [e1, e2, bef_irrefl] at this; cases this
  · exact h3
  · have := List.pairwise_iff_getElem.1 h j i h2 h1 h3
    rw [e1, e2, bef_irrefl] at this; cases this
/-- The levels of what a stand becomes. -/
def levB (B : Bank) (r k : Nat) (n : List Int) (l : Int) : List Int := (papersB B r k n l).map fun q => l + lev B q
theorem levB_full (B : Bank) (r k : Nat) (l : Int) : levB B r k zero4 l = if inLev B l = true then [l] else [] := by
  unfold levB; rw [papersB_full]; split <;> simp [lev]
theorem levB_step {B : Bank} {r k : Nat} {n : List Int} {l : Int} (hz : n ≠ zero4) (hc : canB B k n = true) : levB B (r + 1) k n l = levB B r (k + 1) (dec n (partAt B k)) (l + wAt B k) ++ levB B r (k + 1) n l := by
  unfold levB
  rw [papersB_step hz hc, List.map_append, List.map_map]
  congr 1
  apply List.map_congr_left
  intro q _
  show l + lev B (k :: q) = _
  rw [lev_cons]; omega
theorem levB_none {B : Bank} {r k : Nat} {n : List Int} {l : Int} (h : countB B r k n l = 0) : levB B r k n l = [] := by
  unfold countB at h
  unfold levB
  rw [List.length_eq_zero_iff.1 h]
  rfl
/-- What a list of questions makes of a stand: its next question, what it needs, its level. -/
def stepsB (B : Bank) (n : List Int) (l : Int) : List Nat → List Int × Int
  | [] => (n, l)
  | x :: t => stepsB B (dec n (partAt B x)) (l + wAt B x) t
theorem steps_len (B : Bank) : ∀ (q : List Nat) (n : List Int) (l : Int), (stepsB B n l q).1.length = n.length
  | [], _, _ => rfl
  | x :: t, n, l => by unfold stepsB; rw [steps_len B t, dec_len]
theorem steps_at {B : Bank} (h4 : ∀ x, partAt B x < 4) : ∀ (q : List Nat) {n : List Int} (l : Int), n.length = 4 → ∀ p, (stepsB B n l q).1[p]?.getD 0 = n[p]?.getD 0 - cnt B p q
  | [], n, l, _, p => by rw [cnt_nil]; simp [stepsB]
  | x :: t, n, l, hn, p => by
    unfold stepsB
    rw [steps_at h4 t _ (by rw [dec_len]; exact hn), dec_at hn (h4 x), cnt_cons]
    by_cases e : partAt B x = p
    · rw [if_pos e, if_pos e.symm]; omega
    · rw [if_neg e, if_neg (fun h => e h.symm)]; omega
theorem steps_lev (B : Bank) : ∀ (q : List Nat) (n : List Int) (l : Int), (stepsB B n l q).2 = l + lev B q
  | [], n, l => by simp [stepsB, lev]
  | x :: t, n, l => by unfold stepsB; rw [steps_lev B t, lev_cons]; omega
/-- Whether ascending questions make a stand a paper. -/
def doneB (B : Bank) (n : List Int) (l : Int) : Bool := decide (n = zero4) && inLev B l
theorem steps_done {B : Bank} (h4 : ∀ x, partAt B x < 4) {n : List Int} {l : Int} (hn : n.length = 4) {k r : Nat} {q : List Nat} (ha : q.Pairwise (· < ·)) (hb : ∀ x ∈ q, k ≤ x ∧ x < k + r) :
    doneB B (stepsB B n l q).1 (stepsB B n l q).2 = true ↔ Becomes B k r n l q := by
  unfold doneB
  rw [Bool.and_eq_true, decide_eq_true_iff, zero_iff (by rw [steps_len]; exact hn), steps_lev]
  constructor
  · rintro ⟨h1, h2⟩
    exact ⟨ha, hb, fun p hp => by have := h1 p hp; rw [steps_at h4 q l hn] at this; omega, h2⟩
  · intro h
    exact ⟨fun p hp => by rw [steps_at h4 q l hn]; have := h.cnt p hp; omega, h.lev⟩
end Go.Proofs.Ytnmgnonbgihalaa

/-
  Stands: full, without the next question, with it; whether they can become full, or are a paper.
-/
namespace Go.Proofs.Ytnmgnonbgihalaa
open Go.RowKit RG

/-- A number that is not great. -/
def Small (x : Int) : Prop := -1000000000 ≤ x ∧ x ≤ 1000000000
theorem Small.wf {x : Int} (h : Small x) : (Lit.int .i64 x).wf = true := WalkArith.wf_i64 (by unfold Small at h; omega)
theorem small_dec {x : Int} (h : Small x) : IntKind.i64.wrap x = x := by unfold Small at h; rw [IntKind.wrap_i64]; omega
def qCells (q : Qn) : List Value := [.int .i64 q.part, .int .i64 q.asked, .int .i64 q.wrong]
/-- A bank, and a view of it, as values. -/
def bkV (Q Wd : Option Addr) (cq cw : Nat) (B : Bank) : Value := .agg #[.slice Q B.qs.length cq, .slice Wd B.wanted.length cw, .int .i64 B.lo, .int .i64 B.hi]
def vwV (Q Wd : Option Addr) (cq cw gw cg gl M : Nat) (B : Bank) : Value := .agg #[.slice Q B.qs.length cq, .slice Wd B.wanted.length cw, .int .i64 B.lo, .int .i64 B.hi, .slice (some ⟨gw, 0, none⟩) B.qs.length cg, .slice (some ⟨gl, 0, none⟩) (B.qs.length + 1) (B.qs.length + 1), .map (some M)]
/-- What a view leads to, but for its map. -/
structure VwR (w : World) (Q Wd : Option Addr) (gw gl : Nat) (B : Bank) : Prop where
  qs : RdRow w Q B.qs.length 3 (B.qs.map qCells)
  ws : RdInts w Wd B.wanted.length B.wanted
  wts : ∀ k, k < B.qs.length → w.cell? ⟨gw, k, none⟩ = some (.int .i64 (wAt B k))
  left : ∀ k p, k ≤ B.qs.length → p < 4 → w.cell? ⟨gl, k * 4 + p, none⟩ = some (.int .i64 (leftP B k p))
  gw : gw < w.heap.size
  gl : gl < w.heap.size
theorem VwR.below {w w' : World} {Q Wd : Option Addr} {gw gl : Nat} {B : Bank} (h : VwR w Q Wd gw gl B) (hb : Below w.heap.size w w') : VwR w' Q Wd gw gl B :=
  ⟨h.qs.below hb, h.ws.below hb, fun k hk => (cellB hb h.gw).trans (h.wts k hk), fun k p hk hp => (cellB hb h.gl).trans (h.left k p hk hp), Nat.lt_of_lt_of_le h.gw hb.size, Nat.lt_of_lt_of_le h.gl hb.size⟩
theorem part4 {B : Bank} (h : BankOk B) (x : Nat) : partAt B x < 4 := by
  unfold partAt
  by_cases hx : x < B.qs.length
  · rw [List.getElem?_eq_getElem hx, Option.getD_some]
    have h1 := (h.qs _ (List.getElem_mem hx)).1
    have h2 := h.nw
    omega
  · rw [List.getElem?_eq_none (by omega)]
    decide
theorem part0 {B : Bank} (h : BankOk B) : ∀ q ∈ B.qs, 0 ≤ q.part := fun q hq => (h.qs q hq).1.1
theorem part_at {B : Bank} (h : BankOk B) {k : Nat} (hk : k < B.qs.length) : (B.qs[k]?.getD default).part = (partAt B k : Int) := by
  unfold partAt
  rw [List.getElem?_eq_getElem hk, Option.getD_some]
  have := part0 h _ (List.getElem_mem hk)
  omega
theorem weight_bd {q : Qn} (h1 : 0 ≤ q.asked) (h2 : 0 ≤ q.wrong) (h3 : q.wrong ≤ q.asked) : 0 ≤ weight q ∧ weight q ≤ 1000 := by
  unfold weight
  split
  · omega
  · rename_i h
    rw [Int.tdiv_eq_ediv_of_nonneg (by omega)]
    refine ⟨Int.ediv_nonneg (by omega) h1, ?_⟩
    have h4 : 0 < q.asked := by omega
    have : q.wrong * 1000 / q.asked ≤ q.asked * 1000 / q.asked := Int.ediv_le_ediv h4 (by omega)
    rw [Int.mul_ediv_cancel_left _ (by omega)] at this
    exact this
theorem wAt_bd {B : Bank} (h : BankOk B) (k : Nat) : 0 ≤ wAt B k ∧ wAt B k ≤ 1000 := by
  unfold wAt
  by_cases hk : k < B.qs.length
  · rw [List.getElem?_eq_getElem hk, Option.getD_some]
    have := h.qs _ (List.getElem_mem hk)
    exact weight_bd this.2.1.1 this.2.2.1 this.2.2.2
  · rw [List.getElem?_eq_none (by omega)]
    exact weight_bd (by decide) (by decide) (by decide)
theorem leftP_le (B : Bank) (k p : Nat) : leftP B k p ≤ B.qs.length := by
  unfold leftP
  exact Nat.le_trans List.countP_le_length (by rw [List.length_drop]; omega)

theorem isFull_any (k a b c d l : Int) (w : World) (ha : Small a) (hb : Small b) (hc : Small c) (hd : Small d) :
    Calls Try.prog 76 #[stV k a b c d l] w fun e w' => e = .returned (.bool (decide ([a, b, c, d] = zero4))) ∧ Below w.heap.size w w' := by
  have hE := fun W => eqNeeds a b c d W ha.wf hb.wf hc.wf hd.wf
  obtain ⟨q, hq⟩ : ∃ q, decide ([a, b, c, d] = [(0 : Int), 0, 0, 0]) = q := ⟨_, rfl⟩
  unfold zero4
  rw [hq] at hE ⊢
  clear hq
  unfold stV
  have kb := hide (blkNew (w := w) (t := 113) (cs := #[.int .i64 k, .int .i64 a, .int .i64 b, .int .i64 c, .int .i64 d, .int .i64 l]) rfl)
  have c1 := kb.out.cell 1
  have c2 := kb.out.cell 2
  have c3 := kb.out.cell 3
  have c4 := kb.out.cell 4
  replace c1 : World.cell? _ ⟨w.heap.size, 1, none⟩ = some (.int .i64 a) := c1
  replace c2 : World.cell? _ ⟨w.heap.size, 2, none⟩ = some (.int .i64 b) := c2
  replace c3 : World.cell? _ ⟨w.heap.size, 3, none⟩ = some (.int .i64 c) := c3
  replace c4 : World.cell? _ ⟨w.heap.size, 4, none⟩ = some (.int .i64 d) := c4
  go_enter Try.func76, Try.ntmps76
  go_wp2
  go_ret
  exact ⟨rfl, (Below.refl _ _).alloc (Nat.le_refl _) _⟩
theorem without_any (k a b c d l : Int) (w : World) (hk : Small k) :
    Calls Try.prog 78 #[stV k a b c d l] w fun e w' => e = .returned (stV (k + 1) a b c d l) ∧ Below w.heap.size w w' := by
  have h2 : IntKind.i64.wrap (k + 1) = k + 1 := by unfold Small at hk; rw [IntKind.wrap_i64]; omega
  unfold stV
  go_enter Try.func78, Try.ntmps78
  go_wp2
  refine bodyPost_ret (v := .agg #[.int .i64 (k + 1), .int .i64 a, .int .i64 b, .int .i64 c, .int .i64 d, .int .i64 l]) (by simp [results, Try.results78, go_sem]) rfl ⟨rfl, ?_⟩
  exact ((Below.refl _ _).alloc (Nat.le_refl _) _).alloc (by simp) _
end Go.Proofs.Ytnmgnonbgihalaa

/-
  A range over a function whose iterator keeps cells of its own.
-/
namespace Go.Proofs.Ytnmgnonbgihalaa
open Go.RowKit Go.Shelf RG

/-- Whatever is cells lies as it lay. -/
def KC (W W' : World) : Prop := W.heap.size ≤ W'.heap.size ∧ ∀ (k : Nat) (cs : Array Value) (t : TypeId) (f : Nat × Nat), W.heap[k]? = some (Obj.cells cs t f) → W'.heap[k]? = some (Obj.cells cs t f)
theorem KC.refl (W : World) : KC W W := ⟨Nat.le_refl _, fun _ _ _ _ h => h⟩
theorem KC.trans {X Y Z : World} (h : KC X Y) (k : KC Y Z) : KC X Z := ⟨Nat.le_trans h.1 k.1, fun i cs t f hi => k.2 i cs t f (h.2 i cs t f hi)⟩
theorem KC.grown {W W' : World} (h : W.grownBy W' none) : KC W W' := ⟨h.size, fun k cs t f hk => (h.block k (Array.getElem?_eq_some_iff.1 hk).1 (by simp)).trans hk⟩
theorem KC.below {W W' : World} (h : Below W.heap.size W W') : KC W W' := KC.grown ⟨h.os, h.tape, h.output, h.size, fun k hk _ => h.block k hk⟩
theorem KC.put {W : World} {l : Nat} {o : Obj} (o' : Obj) (hl : W.heap[l]? = some o) (ho : o.isCells = false) : KC W (W.putObj l o') := by
  have hg := grownBy_putObj' W l o'
  refine ⟨hg.size, fun k cs t f hk => ?_⟩
  by_cases e : k = l
  · subst e; rw [hl] at hk; cases hk; cases ho
  · exact (hg.block k (Array.getElem?_eq_some_iff.1 hk).1 (fun h => e (by cases h; rfl))).trans hk
theorem KC.blk {W W' : World} (h : KC W W') {b : Nat} {t : TypeId} {cs : Array Value} (hb : Blk W b t cs) : Blk W' b t cs := h.2 _ _ _ _ hb

/-- An iterator: J abides whatever happens to blocks that are laid later; Rd: what is read in between; Nx: what may be yielded behind what was. -/
def SeqOwn {α : Type} (n gf : Nat) (lb : Array Value) (encs : α → Array Value) (Rd : List α → World → Prop) (Nx : List α → α → Prop) (S Sp : List α → Prop) (w0 : World) : Prop :=
  ∀ (l : Nat) (J Jx : List α → World → Prop) (W : World), Below w0.heap.size w0 W → (∀ s X Y, J s X → Below W.heap.size X Y → J s Y) → (∀ s X Y, Jx s X → X.grownBy Y none → Jx s Y) →
    (∀ s X, J s X → W.heap.size ≤ X.heap.size) → (∀ s X, J s X → Rd s X) →
    (∀ pre x W1, J pre W1 → Nx pre x → YieldAt Fence.wide (n - 1) Try.prog l (encs x) W1 fun e W' => (e = .returned (.bool true) ∧ J (pre ++ [x]) W') ∨ (e = .returned (.bool false) ∧ Jx (pre ++ [x]) W')) →
    J [] W →
    CallsIn Fence.wide n Try.prog gf (#[.func (.yield l) #[] #[]] ++ lb) W fun e W' => (∃ v, e = .returned v) ∧ ((∃ xs, S xs ∧ J xs W') ∨ ∃ pre, Sp pre ∧ Jx pre W')

theorem below_putObj {B l : Nat} (W : World) (o : Obj) (hs : B ≤ W.heap.size) (h : B ≤ l) : Below B W (W.putObj l o) := by
  have hg := grownBy_putObj' W l o
  exact ⟨hg.os, hg.tape, hg.output, hg.size, fun k hk => hg.block k (by omega) (by simp; omega)⟩

section
variable {α : Type} {n : Nat} {g : Operand} {ps : Array Tmp} {assign body : Code} {Q : Exit → Act → World → Prop} {a : Act} {w : World} {gf : Nat} {lb : Array Value} {encs : α → Array Value} {S Sp : List α → Prop} {Rd : List α → World → Prop} {Nx : List α → α → Prop}
/-- A loop over such an iterator. What holds between two rounds speaks of what lay before the loop alone. -/
theorem range_own (hg : a.eval g = .func (.func gf) #[] lb) (eg : ∀ args w, (callFunc gf args).run Try.prog w = .ok (.enter gf args) w)
    (hseq : SeqOwn (n - 1) gf lb encs Rd Nx S Sp w) (hps : ∀ x, (encs x).size = ps.size)
    (I : List α → World → Prop) (Ix : Code → List α → World → Prop) (hsz : ∀ s X, I s X → w.heap.size ≤ X.heap.size) (hRd : ∀ s X, I s X → Rd s X) (hI : ∀ s X Y, I s X → Below w.heap.size X Y → I s Y) (hIx : ∀ c, OwnFrom w.heap.size (Ix c)) (h0 : I [] w) (Wa : α → World → World) (hWa : ∀ x W, Below W.heap.size W (Wa x W)) (a₁ : α → World → Act)
    (hassign : ∀ (l : Nat) (x : α) (W : World) (K : Act → World → Prop), K (a₁ x W) (Wa x W) →
      assign.wpIn (Fence.wide.inRound l) (n - 1 - 1) Try.prog (Exit.then K (fun _ _ _ => False)) { tmps := (ps.zip (encs x)).foldl (fun t (p, v) => t.setIfInBounds p v) a.tmps, defers := [] } W)
    (hbody : ∀ (l : Nat) (pre : List α) (x : α) (W0 W : World), I pre W0 → I pre W → Nx pre x → KC (Wa x W0) W → body.wpIn (Fence.wide.inRound l) (n - 1 - 1) Try.prog (ownPostG w.heap.size (fun _ _ => True) I Ix (pre ++ [x]) W) (a₁ x W0) W)
    (hdone : ∀ (xs : List α) (W : World), S xs → I xs W → W.heap[w.heap.size]? = some (.deferred (some [])) → Q .normal { a with defers := { target := .collected w.heap.size, args := #[] } :: a.defers } W)
    (hstop : ∀ (c : Code) (pre : List α) (W : World), Sp pre → Ix c pre W → W.heap[w.heap.size]? = some (.deferred (some [])) → c.wpIn Fence.wide n Try.prog Q { a with defers := { target := .collected w.heap.size, args := #[] } :: a.defers } W) :
    (Code.rangeFunc g ps assign body).wpIn Fence.wide n Try.prog Q a w := by
  refine wpIn_rangeFunc fun fn hfn => ?_
  obtain ⟨mk, hmk⟩ : ∃ mk : LoopState → Option Code → Loop, mk = fun st pe => { state := st, pending := pe, fn, tmps := a.tmps, params := ps, assign, body, defers := w.heap.size } := ⟨_, rfl⟩
  obtain ⟨W1, hW1⟩ : ∃ W1, (w.alloc (.deferred (some []))).alloc (.loop (mk .ready none)) = W1 := ⟨_, rfl⟩
  have hs1 : W1.heap.size = w.heap.size + 2 := by rw [← hW1]; simp
  have hb1 : Below w.heap.size w W1 := by rw [← hW1]; exact ((Below.refl _ w).alloc (Nat.le_refl _) _).alloc (by simp) _
  have hl1 : W1.heap[w.heap.size + 1]? = some (.loop (mk .ready none)) := by
    rw [← hW1]; have := World.alloc_heap_new (w.alloc (.deferred (some []))) (.loop (mk .ready none)); rwa [World.size_alloc] at this
  have hd1 : W1.heap[w.heap.size]? = some (.deferred (some [])) := by
    rw [← hW1]; exact (Below.heap_alloc _ _ _ (by simp)).trans (World.alloc_heap_new w _)
  refine ⟨w.heap.size + 1, [{ target := .collected w.heap.size, args := #[] }], W1, { target := .fn (.func gf) lb, args := #[.func (.yield (w.heap.size + 1)) #[] #[]] }, W1, gf,
    #[.func (.yield (w.heap.size + 1)) #[] #[]] ++ lb, W1, ?_, ?_, ?_, ?_, (fun h => absurd h (by decide)), ?_⟩
  · rw [← hW1, hmk]; exact run_enterLoop_outer _ _ _ _ _
  · simp only [resolve, hg]
    simp [go_sem]
  · intro f' _; trivial
  · simp [invoke, go_sem, eg]
  · refine (hseq (w.heap.size + 1)
      (fun pre W => I pre W ∧ W.heap[w.heap.size + 1]? = some (.loop (mk .ready none)) ∧ W.heap[w.heap.size]? = some (.deferred (some [])))
      (fun pre W => ∃ c, Ix c pre W ∧ W.heap[w.heap.size + 1]? = some (.loop (mk .done (some c))) ∧ W.heap[w.heap.size]? = some (.deferred (some []))) W1 hb1 ?_ ?_ ?_ (fun s X h => hRd _ _ h.1) ?_ ⟨hI _ _ _ h0 hb1, hl1, hd1⟩).mono ?_
    · rintro s X Y ⟨h1, h2, h3⟩ hb
      exact ⟨hI _ _ _ h1 (hb.mono (by omega)), (hb.block _ (by omega)).trans h2, (hb.block _ (by omega)).trans h3⟩
    · rintro s X Y ⟨c, h1, h2, h3⟩ hb
      exact ⟨c, hIx c s X Y none h1 hb (fun r e => by cases e), (hb.block _ (Array.getElem?_eq_some_iff.1 h2).1 (by simp)).trans h2, (hb.block _ (Array.getElem?_eq_some_iff.1 h3).1 (by simp)).trans h3⟩
    · rintro s X ⟨h1, h2, h3⟩
      have := (Array.getElem?_eq_some_iff.1 h2).1
      omega
    · rintro pre x W ⟨hi, hl, hd⟩ hpx
      have hlt : w.heap.size + 1 < W.heap.size := (Array.getElem?_eq_some_iff.1 hl).1
      have hy := run_yield (P := Try.prog) (args := encs x) hl (by rw [hmk]; exact hps x)
      rw [hmk] at hy
      refine ⟨fn, _, assign, body, hy, roundIn_of_wpIn hfn (hassign _ x W _ ?_)⟩
      clear hy
      have hi0 := hi
      have hbx := hWa x W
      have hsx : w.heap.size ≤ W.heap.size := by omega
      replace hi := hI _ _ _ hi (hbx.mono hsx)
      replace hl := (hbx.block _ hlt).trans hl
      replace hd := (hbx.block _ (by omega)).trans hd
      replace hlt := Nat.lt_of_lt_of_le hlt hbx.size
      obtain ⟨W0, hW0⟩ : ∃ W0, W = W0 := ⟨_, rfl⟩
      rw [hW0] at hi hl hd hlt hi0 ⊢
      clear hbx hsx hW0 W
      obtain ⟨W, hWx⟩ : ∃ W, Wa x W0 = W := ⟨_, rfl⟩
      rw [hWx] at hi hl hd hlt ⊢
      refine ⟨_, run_beginRound hl (by rw [hmk]), ?_⟩
      obtain ⟨W2, hW2⟩ : ∃ W2, W.putObj (w.heap.size + 1) (.loop { mk .ready none with state := .busy }) = W2 := ⟨_, rfl⟩
      have hl2 : W2.heap[w.heap.size + 1]? = some (.loop { mk .ready none with state := .busy }) := by rw [← hW2]; exact World.putObj_heap_same hlt
      have hd2 : W2.heap[w.heap.size]? = some (.deferred (some [])) := by rw [← hW2]; exact (World.putObj_heap_other (by omega)).trans hd
      have hk2 : KC W W2 := by rw [← hW2]; exact KC.put _ hl rfl
      have hi2 : I pre W2 := by rw [← hW2]; exact hI _ _ _ hi (below_putObj _ _ (by omega) (by omega))
      rw [hW2]
      refine wpIn_mono (hbody _ pre x W0 W2 hi0 hi2 hpx (hWx ▸ hk2)) ?_
      have fin : ∀ (jump : Option Code) (W3 : World), KeepsFrom w.heap.size W2 W3 →
          (Instr.endRound (w.heap.size + 1) jump).run Try.prog W3 = .ok (.bool jump.isNone) (W3.putObj (w.heap.size + 1) (.loop (mk (if jump.isNone then .ready else .done) jump))) ∧
          W3.heap[w.heap.size + 1]? = some (.loop { mk .ready none with state := .busy }) ∧
          (W3.putObj (w.heap.size + 1) (.loop (mk (if jump.isNone then .ready else .done) jump))).heap[w.heap.size + 1]? = some (.loop (mk (if jump.isNone then .ready else .done) jump)) ∧
          (W3.putObj (w.heap.size + 1) (.loop (mk (if jump.isNone then .ready else .done) jump))).heap[w.heap.size]? = some (.deferred (some [])) := fun jump W3 hk3 => by
        have hl3 := hk3.same _ _ (by omega) hl2 rfl
        have hr := run_endRound (P := Try.prog) jump hl3
        have h3 := (Array.getElem?_eq_some_iff.1 hl3).1
        refine ⟨?_, hl3, World.putObj_heap_same h3, (World.putObj_heap_other (by omega)).trans (hk3.same _ _ (Nat.le_refl _) hd2 rfl)⟩
        rw [hmk] at hr ⊢
        exact hr
      rintro e a3 W3 hp
      cases e with
      | normal =>
        obtain ⟨hk3, -, hi3⟩ := hp
        obtain ⟨hr, hl3, hl4, hd4⟩ := fin none W3 hk3
        have := hsz _ _ hi3
        exact ⟨_, _, hr, .inl ⟨rfl, ⟨hI _ _ _ hi3 (below_putObj _ _ this (by omega)), hl4, hd4⟩⟩⟩
      | ret =>
        obtain ⟨hk3, hi3⟩ := hp
        obtain ⟨hr, hl3, hl4, hd4⟩ := fin (some .ret) W3 hk3
        exact ⟨_, _, hr, .inr ⟨rfl, .ret, (hIx _).putObj _ hi3 (by omega) hl3 rfl, hl4, hd4⟩⟩
      | exit id =>
        obtain ⟨hk3, hi3⟩ := hp
        obtain ⟨hr, hl3, hl4, hd4⟩ := fin (some (.exit id)) W3 hk3
        exact ⟨_, _, hr, .inr ⟨rfl, .exit id, (hIx _).putObj _ hi3 (by omega) hl3 rfl, hl4, hd4⟩⟩
      | goto t =>
        obtain ⟨hk3, hi3⟩ := hp
        obtain ⟨hr, hl3, hl4, hd4⟩ := fin (some (.goto t)) W3 hk3
        exact ⟨_, _, hr, .inr ⟨rfl, .goto t, (hIx _).putObj _ hi3 (by omega) hl3 rfl, hl4, hd4⟩⟩
      | panic ch => exact hp.elim
      | outgrown => exact hp.elim
    · rintro e W2 ⟨⟨v, rfl⟩, (⟨xs, hS, hi, hl, hd⟩ | ⟨pre, hSp, c, hi, hl, hd⟩)⟩
      · have hr := run_endLoop (P := Try.prog) hl (by rw [hmk]; simp)
        rw [hmk] at hr
        exact ⟨none, _, hr, hdone xs _ hS (hI _ _ _ hi (below_putObj _ _ (hsz _ _ hi) (by omega))) ((World.putObj_heap_other (by omega)).trans hd)⟩
      · have hr := run_endLoop (P := Try.prog) hl (by rw [hmk]; simp)
        rw [hmk] at hr
        exact ⟨some c, _, hr, hstop c pre _ hSp ((hIx c).putObj _ hi (by omega) hl rfl) ((World.putObj_heap_other (by omega)).trans hd)⟩
end
end Go.Proofs.Ytnmgnonbgihalaa

/-
  A region that reads and ends in operations that wait for all, in a round of a loop over an iterator.
-/
namespace Go.Proofs.Ytnmgnonbgihalaa.RG
open Go.RowKit

def noDefer (l : List Oper) : Bool := l.all fun o => match o.op with
  | .defer _ => false
  | _ => true
theorem noDefer_at {l : List Oper} (h : noDefer l = true) {i : Nat} {o : Oper} (ho : l[i]? = some o) : ∀ c, o.op ≠ .defer c := by
  intro c hc
  have := List.all_eq_true.1 h o (List.mem_of_getElem? ho)
  rw [hc] at this
  cases this
theorem wp_round {P : Program} {lp nn : Nat} {o : Oper} {a : Act} {w : World} {K : Act → World → Prop} {Q : Exit → Act → World → Prop} (hd : ∀ c, o.op ≠ .defer c) (h : o.wp P a w K Q) : o.wpIn (Fence.wide.inRound lp) nn P a w K Q := by
  refine ⟨fun _ _ => trivial, ?_⟩
  rw [Oper.semAt_eq _ _ _ hd]
  unfold Oper.wp at h
  generalize (execOp a.eval o).run P w = r at *
  cases r with
  | ok x w' =>
    cases x <;> first
      | exact h
      | exact ⟨fun h => absurd (show false = true from h) (by decide), CallsIn.inRound lp (callsIn_wide.2 h)⟩
      | exact ⟨fun h => absurd (show false = true from h) (by decide), fun c cs _ => let ⟨v, w', r, s⟩ := h c cs; ⟨v, w', r, stepsIn_wide.2 s⟩⟩
      | exact absurd h id
  | halt x w' => cases x <;> exact h

section
variable {P : Program} {lp nn : Nat} {ops : Array Oper} {md : Region.Mode} {w : World}
theorem wpOpIn_of_stOp (hnd : noDefer ops.toList = true) {i : Nat} {a : Act} {K : Act → Prop} {K' : Act → World → Prop} {Q' : Exit → Act → World → Prop} (h : ∀ a, K a → K' a w) (hh : stOp P ops w i K a) : wpOpIn (Fence.wide.inRound lp) nn P ops Q' i K' a w := by
  unfold stOp at hh
  unfold wpOpIn
  split
  · rename_i ho; simp only [ho] at hh; exact h _ hh
  · rename_i o ho
    simp only [ho] at hh
    split
    · rename_i hw; simp only [hw, if_true] at hh; exact wp_round (noDefer_at hnd (i := i) (by simpa using ho)) (Oper.wp_of_still h hh)
    · rename_i hw; simp only [hw] at hh; exact ⟨fun _ _ => trivial, h _ hh⟩
theorem wpAnyIn_of_head (hnd : noDefer ops.toList = true) {n g : Nat} {L : Array Bool → Act → Prop} {Q' : Exit → Act → World → Prop} (hL : ∀ listed a, L listed a → wpAnyIn (Fence.wide.inRound lp) nn P md ops Q' g listed a w) :
    ∀ (f : Nat) (listed : Array Bool) (a : Act), wpAnyL P md ops w n L f listed a → wpAnyIn (Fence.wide.inRound lp) nn P md ops Q' (f + g) listed a w
  | 0, listed, a, h => by rw [Nat.zero_add]; exact hL _ _ h
  | f + 1, listed, a, h => by
    rw [show f + 1 + g = (f + g) + 1 by omega]
    exact ⟨fun h0 => absurd h0 h.1, fun i hi => wpOpIn_of_stOp hnd (fun a' h' => wpAnyIn_of_head hnd hL f _ a' h') (h.2 i hi).2⟩
theorem wpAnyIn_of_seq {Q' : Exit → Act → World → Prop} : ∀ (l : List Oper) (k : Nat) (listed : Array Bool) (a : Act) (w : World), (∀ j, l[j]? = ops[k + j]?) →
    Region.seqB md ops l.length k listed = true → wpListIn (Fence.wide.inRound lp) nn P ops Q' l a w → wpAnyIn (Fence.wide.inRound lp) nn P md ops Q' l.length listed a w
  | [], _, _, _, _, _, hB, h => ⟨by simpa [Region.seqB] using hB, h⟩
  | o :: l, k, listed, a, w, hl, hB, h => by
    have h0 : ops[k]? = some o := by simpa using (hl 0).symm
    simp only [List.length_cons, Region.seqB, Bool.and_eq_true, decide_eq_true_eq] at hB
    refine ⟨fun h1 => (by rw [hB.1] at h1; cases h1), fun i hi => ?_⟩
    rw [hB.1] at hi
    have hik : i = k := by simpa using hi
    subst hik
    have hw : wpOpIn (Fence.wide.inRound lp) nn P ops Q' i (wpListIn (Fence.wide.inRound lp) nn P ops Q' l) a w := by unfold wpOpIn; simp only [h0]; exact h
    exact wpOpIn_mono (fun a' w' h' => wpAnyIn_of_seq l (i + 1) _ a' w' (fun j => by have := hl (j + 1); simpa [Nat.add_assoc, Nat.add_comm 1 j] using this) hB.2 h') hw
/-- THE RULE. -/
theorem region_still_rd {id : Nat} {Q : Exit → Act → World → Prop} {a : Act} {w : World} {l : List Oper} (n : Nat) (hm : P.follows .mixedOrders = true) (hB : Region.lexTailB .any l.toArray n = true) (hnd : noDefer l = true)
    (h : wpStill P l.toArray w.drew (fun a' => wpListIn (Fence.wide.inRound lp) nn P l.toArray Q (l.drop n) a' w.drew) (l.take n) a) : (Code.region id l.toArray true).wpIn (Fence.wide.inRound lp) nn P Q a w := by
  simp only [Region.lexTailB, Bool.and_eq_true, decide_eq_true_eq] at hB
  obtain ⟨⟨⟨⟨hsel, hn⟩, hs⟩, hc⟩, hlex⟩ := hB
  have hn' : n < l.length := by simpa using hn
  have htl : (l.take n).length = n := by simp; omega
  have hdl : (l.drop n).length = l.toArray.size - n := by simp
  have inv0 : HeadInv .any l.toArray n (Array.replicate l.toArray.size false) :=
    ⟨by simp, fun j oj _ hl => (by rw [getD_replicate_false] at hl; cases hl), fun t _ ht => getD_in (by simpa using ht) (getD_replicate_false _ _)⟩
  have H := wpAnyL_lex (md := .any) (g := l.toArray.size - n) hsel hs hc hn (l.take n) 0 _ a (fun j hj => by
    have hj' : j < n := by rw [htl] at hj; exact hj
    simp [hj']) (by simpa using htl) inv0 (by rw [htl]; exact hlex) h
  refine wpIn_region_any hm ?_
  have := wpAnyIn_of_head (lp := lp) (nn := nn) (by simpa using hnd) (Q' := Q) (g := l.toArray.size - n) (fun listed a' hL => by
    have := wpAnyIn_of_seq (lp := lp) (nn := nn) (md := .any) (Q' := Q) (l.drop n) n listed a' w.drew (fun j => by simp [List.getElem?_drop]) (by rw [hdl]; exact hL.1) hL.2
    rwa [hdl] at this) _ _ _ H
  rw [htl, show n + (l.toArray.size - n) = l.toArray.size by omega] at this
  exact this
end
end Go.Proofs.Ytnmgnonbgihalaa.RG
