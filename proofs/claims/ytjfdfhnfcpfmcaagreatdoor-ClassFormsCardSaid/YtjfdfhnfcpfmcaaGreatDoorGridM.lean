/-
  A grid of bools, a row for each class: which rights are there.
-/
import Derived.Test.YtjfdfhnfcpfmcaaGreatDoorFormRM
import Derived.Test.YtjfdfhnfcpfmcaaGreatDoorRefR
import Derived.Test.YtjfdfhnfcpfmcaaGreatDoorMo
namespace Go.Proofs.YtjfdfhnfcpfmcaaGreatDoor
open Go.RowKit RG

/-- The sets of codes of a class that are in the list, as bits. -/
def maskOf (rs : List (Int × Int)) (c : Nat) : Nat := rs.foldl (fun F r => if r.1 = (c : Int) then F ||| 2 ^ r.2.toNat else F) 0
theorem maskOf_snoc (rs : List (Int × Int)) (d k c : Nat) : maskOf (rs ++ [((d : Int), (k : Int))]) c = if c = d then maskOf rs c ||| 2 ^ k else maskOf rs c := by
  unfold maskOf
  rw [List.foldl_append]
  simp only [List.foldl_cons, List.foldl_nil, Int.toNat_natCast]
  by_cases h : c = d
  · subst h; rw [if_pos rfl, if_pos rfl]
  · rw [if_neg h, if_neg (by omega)]
theorem maskOf_bit : ∀ (rs : List (Int × Int)) (F c k : Nat), (rs.foldl (fun F r => if r.1 = (c : Int) then F ||| 2 ^ r.2.toNat else F) F).testBit k = true ↔ F.testBit k = true ∨ ∃ r ∈ rs, r.1 = (c : Int) ∧ r.2.toNat = k
  | [], F, c, k => by simp
  | r :: rs, F, c, k => by
    rw [List.foldl_cons, maskOf_bit rs]
    by_cases h : r.1 = (c : Int)
    · rw [if_pos h, testBit_or_pow]
      simp only [Bool.or_eq_true, decide_eq_true_eq, List.mem_cons, exists_eq_or_imp]
      constructor
      · rintro ((h1 | h1) | h1)
        · exact .inl h1
        · exact .inr (.inl ⟨h, h1⟩)
        · exact .inr (.inr h1)
      · rintro (h1 | ⟨_, h1⟩ | h1)
        · exact .inl (.inl h1)
        · exact .inl (.inr h1)
        · exact .inr h1
    · rw [if_neg h]
      simp only [List.mem_cons, exists_eq_or_imp]
      constructor
      · rintro (h1 | h1)
        · exact .inl h1
        · exact .inr (.inr h1)
      · rintro (h1 | ⟨h1, _⟩ | h1)
        · exact .inl h1
        · exact absurd h1 h
        · exact .inr h1
theorem mem_gridOf {S : Sys} {rs : List (Int × Int)} (h : AllR S rs) (x : Int × Int) : x ∈ gridL (2 ^ S.codes.length) (fun c k => (maskOf rs c).testBit k) S.cs.length ↔ x ∈ rs := by
  rw [mem_gridL]
  constructor
  · rintro ⟨c, j, _, _, h3, rfl⟩
    rcases (maskOf_bit rs 0 c j).1 h3 with h4 | ⟨r, hr, h4, h5⟩
    · simp at h4
    · obtain ⟨c', k', rfl, _, _⟩ := h r hr
      simp only [Int.toNat_natCast] at h4 h5
      rw [← h4, ← h5]; exact hr
  · intro hx
    obtain ⟨c, k, rfl, h1, h2⟩ := h x hx
    exact ⟨c, k, h1, h2, (maskOf_bit rs 0 c k).2 (.inr ⟨_, hx, rfl, by simp⟩), rfl⟩

def gridCells (n p k : Nat) (g : Nat → Nat) : Array Value := ((List.range n).map fun c => if c < k then Value.slice (some ⟨g c, 0, none⟩) p p else .slice none 0 0).toArray
theorem gridCells_at {n p k c : Nat} {g : Nat → Nat} (hc : c < n) : (gridCells n p k g)[c]? = some (if c < k then Value.slice (some ⟨g c, 0, none⟩) p p else .slice none 0 0) := by simp [gridCells, hc]
theorem gridCells_set {n p k x : Nat} {g : Nat → Nat} (hk : k < n) : (gridCells n p k g).setIfInBounds k (.slice (some ⟨x, 0, none⟩) p p) = gridCells n p (k + 1) (fun c => if c = k then x else g c) := by
  apply Array.ext_getElem?
  intro j
  rcases Nat.lt_or_ge j n with hj | hj
  · rw [gridCells_at hj]
    by_cases e : k = j
    · subst e
      rw [Array.getElem?_setIfInBounds_self_of_lt (by simpa [gridCells] using hk), if_pos (by omega), if_pos rfl]
    · rw [Array.getElem?_setIfInBounds_ne e, gridCells_at hj]
      by_cases h : j < k
      · rw [if_pos h, if_pos (by omega), if_neg (by omega)]
      · rw [if_neg h, if_neg (by omega)]
  · rw [Array.getElem?_eq_none (by simpa [gridCells] using hj), Array.getElem?_eq_none (by simpa [gridCells] using hj)]
/-- The first k rows of the grid are made, with the bits of G. -/
def Grid (wr : World) (gB n p k : Nat) (G : Nat → Nat) : Prop := ∃ g : Nat → Nat, Blk wr gB 65 (gridCells n p k g) ∧ (∀ c, c < k → gB < g c ∧ Blk wr (g c) 4 (boolCells p (G c))) ∧ ∀ c d, c < k → d < k → g c = g d → c = d
theorem infoBools : (Tryz.prog.info? 65).map (fun i => (i.zero, i.size, i.bytes)) = some (some (.slice none 0 0), 1, 24) := by kernel_rfl
theorem mkRows (n p : Nat) (g : Nat → Nat) (w : World) (hn : n ≤ 1000000) :
    (Instr.makeSlice 135 (.int .i64 (n : Int)) (.int .i64 (n : Int))).run Tryz.prog w = .ok (.slice (some ⟨w.heap.size, 0, none⟩) n n) (w.alloc (.cells (gridCells n p 0 g) 65)) := by
  obtain ⟨i, hi, hz, hs, hb⟩ := info_parts infoBools
  have hr := run_make (P := Tryz.prog) w 135 65 i (.slice none 0 0) Tryz.underlying135 hi hz .i64 .i64 n n (by omega) (by omega) (by rw [hb]; omega) (by omega)
  simp only [Int.toNat_natCast] at hr
  rw [hr, hs]
  have hm : madeCells (Value.slice none 0 0).cells (n * 1) = gridCells n p 0 g := by
    apply Array.ext
    · simp [madeCells, gridCells]
    · intro j h1 h2
      simp [madeCells, gridCells, Value.cells, Nat.mod_one]
  rw [hm]
theorem Grid.start {wr : World} {gB n p : Nat} {g G : Nat → Nat} (h : Blk wr gB 65 (gridCells n p 0 g)) : Grid wr gB n p 0 G := ⟨g, h, fun c hc => by omega, fun c _ hc => by omega⟩
theorem Grid.lt {wr : World} {gB n p k : Nat} {G : Nat → Nat} (h : Grid wr gB n p k G) : gB < wr.heap.size := by
  obtain ⟨g, h1, _⟩ := h
  exact h1.lt
theorem Grid.below {wr w' : World} {gB n p k : Nat} {G : Nat → Nat} (h : Grid wr gB n p k G) (hb : Below wr.heap.size wr w') : Grid w' gB n p k G := by
  obtain ⟨g, h1, h2, h3⟩ := h
  exact ⟨g, h1.below hb h1.lt, fun c hc => ⟨(h2 c hc).1, (h2 c hc).2.below hb (h2 c hc).2.lt⟩, h3⟩
/-- A row is made. -/
theorem Grid.step {wr : World} {gB n p k : Nat} {G : Nat → Nat} (h : Grid wr gB n p k G) (hk : k < n) (hz : G k = 0) : Grid ((wr.setCell ⟨gB, k, none⟩ (.slice (some ⟨wr.heap.size, 0, none⟩) p p)).alloc (.cells (boolCells p 0) 4)) gB n p (k + 1) G := by
  obtain ⟨g, h1, h2, h3⟩ := h
  have hlt := h1.lt
  refine ⟨fun c => if c = k then wr.heap.size else g c, ?_, fun c hc => ?_, fun c d hc hd => ?_⟩
  · have := (h1.set_ k (.slice (some ⟨wr.heap.size, 0, none⟩) p p)).alloc (.cells (boolCells p 0) 4)
    rwa [gridCells_set hk] at this
  · by_cases e : c = k
    · subst e
      simp only [if_true]
      refine ⟨hlt, ?_⟩
      rw [hz]
      exact Blk.new_ (by simp)
    · simp only [if_neg e]
      have h4 := h2 c (by omega)
      exact ⟨h4.1, (h4.2.far (by simp; omega) _).alloc _⟩
  · simp only
    by_cases e : c = k <;> by_cases e' : d = k
    · intro _; omega
    · rw [if_pos e, if_neg e']
      have h4 := (h2 d (by omega)).2.lt
      intro h5; omega
    · rw [if_neg e, if_pos e']
      have h4 := (h2 c (by omega)).2.lt
      intro h5; omega
    · rw [if_neg e, if_neg e']
      exact h3 c d (by omega) (by omega)
/-- A row's place, read and written. -/
theorem Grid.at_ {wr : World} {gB n p : Nat} {G : Nat → Nat} (h : Grid wr gB n p n G) {c k : Nat} (hc : c < n) (hk : k < p) :
    ∃ gc, wr.cell? ⟨gB, c, none⟩ = some (.slice (some ⟨gc, 0, none⟩) p p) ∧ gB < gc ∧ gc < wr.heap.size ∧ wr.cell? ⟨gc, k, none⟩ = some (.bool ((G c).testBit k)) ∧ wr.frozen? ⟨gc, k, none⟩ = false ∧
      Grid (wr.setCell ⟨gc, k, none⟩ (.bool true)) gB n p n (fun d => if d = c then G d ||| 2 ^ k else G d) := by
  obtain ⟨g, h1, h2, h3⟩ := h
  have h4 := h2 c hc
  refine ⟨g c, ?_, h4.1, h4.2.lt, ?_, h4.2.frozen k, g, h1.far (by simp; omega) _, fun d hd => ?_, h3⟩
  · rw [h1.cell, gridCells_at hc, if_pos hc]
  · rw [h4.2.cell, boolCells_at hk]
  · have h5 := h2 d hd
    refine ⟨h5.1, ?_⟩
    by_cases e : d = c
    · subst e
      simp only [if_true]
      have := h5.2.set_ k (.bool true)
      rwa [boolCells_set hk] at this
    · simp only [if_neg e]
      exact h5.2.far (fun e' => e (h3 d c hd hc e')) _
theorem Grid.at2 {wr : World} {gB n p : Nat} {G : Nat → Nat} (h : Grid wr gB n p n G) {c k : Nat} (hc : c < n) (hk : k < p) :
    ∃ gc, gB < gc ∧ gc < wr.heap.size ∧ ∀ w', Below wr.heap.size wr w' → w'.cell? ⟨gB, c, none⟩ = some (.slice (some ⟨gc, 0, none⟩) p p) ∧ w'.cell? ⟨gc, k, none⟩ = some (.bool ((G c).testBit k)) ∧ w'.frozen? ⟨gc, k, none⟩ = false ∧
      Grid (w'.setCell ⟨gc, k, none⟩ (.bool true)) gB n p n (fun d => if d = c then G d ||| 2 ^ k else G d) := by
  obtain ⟨gc, h1, h2, h3, _⟩ := h.at_ hc hk
  refine ⟨gc, h2, h3, fun w' hb => ?_⟩
  obtain ⟨gc', g1, g2, g3, g4, g5, g6⟩ := (h.below hb).at_ hc hk
  have h5 := (cellB hb h.lt).trans h1
  rw [g1] at h5
  simp only [Option.some.injEq, Value.slice.injEq, Addr.mk.injEq, and_true] at h5
  subst h5
  exact ⟨g1, g4, g5, g6⟩
theorem Grid.spot {wr : World} {gB n p k : Nat} {G : Nat → Nat} (h : Grid wr gB n p k G) {c : Nat} (hc : c < n) : ∃ x, wr.cell? ⟨gB, c, none⟩ = some x ∧ wr.frozen? ⟨gB, c, none⟩ = false := by
  obtain ⟨g, h1, _⟩ := h
  exact ⟨_, (h1.cell c).trans (gridCells_at hc), h1.frozen c⟩
theorem rdRts_one (W : World) (c k : Int) : RdRts (W.alloc (.cells #[.int .i64 c, .int .i64 k] 64)) (some ⟨W.heap.size, 0, none⟩) 1 [(c, k)] := by
  obtain ⟨A, cc, e, h⟩ := isRts_blk (c := 1) [(c, k)] (Blk.new_ (w := W) (t := 64) (cs := #[.int .i64 c, .int .i64 k]) rfl) rfl (by unfold maxLen; simp)
  simp only [Value.slice.injEq] at e
  obtain ⟨rfl, _, _⟩ := e
  exact h
theorem Grid.row {wr : World} {gB n p : Nat} {G : Nat → Nat} (h : Grid wr gB n p n G) {c : Nat} (hc : c < n) :
    ∃ gc, wr.cell? ⟨gB, c, none⟩ = some (.slice (some ⟨gc, 0, none⟩) p p) ∧ gc < wr.heap.size ∧ ∀ k, k < p → wr.cell? ⟨gc, k, none⟩ = some (.bool ((G c).testBit k)) := by
  obtain ⟨g, h1, h2, _⟩ := h
  have h4 := h2 c hc
  exact ⟨g c, by rw [h1.cell, gridCells_at hc, if_pos hc], h4.2.lt, fun k hk => by rw [h4.2.cell, boolCells_at hk]⟩
end Go.Proofs.YtjfdfhnfcpfmcaaGreatDoor
