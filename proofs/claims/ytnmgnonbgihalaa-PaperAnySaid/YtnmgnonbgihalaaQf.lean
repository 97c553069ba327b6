import Derived.Test.YtnmgnonbgihalaaQd
import Derived.Test.YtnmgnonbgihalaaPr
/-
  What is drawn is accepted; a greater number of the same paper draws the same. The first part is of no program.
-/
namespace Go.Proofs.Ytnmgnonbgihalaa
open Go.RowKit RG

theorem nb_below {hs seat j : Nat} (h1 : 1 ≤ hs) (h : j ∈ nbF hs seat ++ nbS hs seat) : j < seat := by
  rcases List.mem_append.1 h with h | h
  · unfold nbF at h
    split at h
    · rw [List.mem_singleton] at h; omega
    · cases h
  · unfold nbS at h
    split at h
    · rename_i h2
      rw [List.mem_singleton] at h
      have := Nat.mod_le seat hs
      omega
    · cases h
theorem alikeP_congr {hs : Nat} {hc : Int} {ps qs : List (List Int)} {seat : Nat} {x : List Int} (h1 : 1 ≤ hs) (h : ∀ j, j < seat → ps[j]? = qs[j]?) : alikeP hs hc ps seat x = alikeP hs hc qs seat x := by
  unfold alikeP
  rw [Bool.eq_iff_iff, List.any_eq_true, List.any_eq_true]
  refine ⟨fun ⟨j, hj, e⟩ => ⟨j, hj, ?_⟩, fun ⟨j, hj, e⟩ => ⟨j, hj, ?_⟩⟩
  · rw [← h j (nb_below h1 hj)]; exact e
  · rw [h j (nb_below h1 hj)]; exact e
theorem drawP_pre {all : List (List Int)} {hs : Nat} {hc : Int} : ∀ (ms : List Nat) (dr ds : List (List Int)), drawP all hs hc ms dr = some ds → ∀ j, j < dr.length → ds[j]? = dr[j]?
  | [], dr, ds, e, j, _ => by cases e; rfl
  | m :: ms, dr, ds, e, j, hj => by
    unfold drawP at e
    split at e
    · cases e
    · rename_i x hx
      rw [drawP_pre ms (dr ++ [x]) ds e j (by simp; omega), List.getElem?_append_left hj]
theorem drawP_fits {all : List (List Int)} {hs : Nat} {hc : Int} (hl : 0 < all.length) (h1 : 1 ≤ hs) : ∀ (ms : List Nat) (dr ds : List (List Int)), drawP all hs hc ms dr = some ds → ∀ s, dr.length ≤ s → s < ds.length → alikeP hs hc ds s (ds[s]?.getD []) = false
  | [], dr, ds, e, s, a, b => by cases e; omega
  | m :: ms, dr, ds, e, s, a, b => by
    unfold drawP at e
    split at e
    · cases e
    · rename_i x hx
      by_cases hs0 : s = dr.length
      · subst hs0
        have hp := drawP_pre ms (dr ++ [x]) ds e
        have hx2 := (findP_mem hl hx).2
        rw [hp dr.length (by simp), List.getElem?_append_right (Nat.le_refl _), Nat.sub_self]
        simp only [List.getElem?_cons_zero, Option.getD_some]
        rw [alikeP_congr (qs := dr) h1 fun j hj => by rw [hp j (by simp; omega), List.getElem?_append_left hj]]
        simpa using hx2
      · exact drawP_fits hl h1 ms (dr ++ [x]) ds e s (by simp; omega) b
theorem draw_acc {B : Bank} {hr hs hc : Int} {ms : List Int} (h : drawE B hr hs hc ms = 0) : acceptP B hr hs hc (drawR B hr hs hc ms) = (0, 0) := by
  have hlen := draw_len h
  obtain ⟨h1, -, h3, ds, h4, h5⟩ := draw_ok h
  obtain ⟨hB, hh, -⟩ := enter_ok h1
  have he := ok_err hB
  unfold acceptP
  rw [hlen, if_neg (by simp [h1])]
  refine fErr_all fun j _ hj => ?_
  unfold accF
  rw [draw_all he j (by omega), if_neg (by decide), if_neg]
  rw [h5]
  rw [Bool.not_eq_true]
  exact drawP_fits (by rw [papersI_len]; exact h3) (by omega) _ [] ds h4 j (Nat.zero_le _) (by rw [← h5]; omega)
theorem findP_shift {all : List (List Int)} {f : List Int → Bool} (m : Nat) : ∀ r i, findP all f (m + all.length) r i = findP all f m r i
  | 0, i => rfl
  | r + 1, i => by
    unfold findP
    rw [show m + all.length + i = (m + i) + all.length by omega, Nat.add_mod_right, findP_shift m r]
theorem drawP_shift {all : List (List Int)} {hs : Nat} {hc : Int} : ∀ (ms : List Nat) (k : Nat) (y : Nat) (dr : List (List Int)), ms[k]? = some y → drawP all hs hc (ms.set k (y + all.length)) dr = drawP all hs hc ms dr
  | [], k, y, dr, h => by cases h
  | m :: ms, 0, y, dr, h => by
    obtain rfl : m = y := by simpa using h
    rw [List.set_cons_zero]
    unfold drawP
    rw [findP_shift]
  | m :: ms, k + 1, y, dr, h => by
    rw [List.set_cons_succ]
    unfold drawP
    split
    · rfl
    · exact drawP_shift ms k y _ (by simpa using h)
theorem draw_shift {B : Bank} {hr hs hc : Int} {ms : List Int} (h : drawE B hr hs hc ms = 0) {k : Nat} (hk : k < ms.length) (hy : ms[k]?.getD 0 + (papers B).length ≤ 1000000000) :
    drawE B hr hs hc (ms.set k (ms[k]?.getD 0 + (papers B).length)) = 0 ∧ drawR B hr hs hc (ms.set k (ms[k]?.getD 0 + (papers B).length)) = drawR B hr hs hc ms := by
  obtain ⟨h1, h2, h3, ds, h4, h5⟩ := draw_ok h
  have hg : ms[k]?.getD 0 = ms[k] := by rw [List.getElem?_eq_getElem hk]; rfl
  have hm := h2 _ (List.getElem_mem hk)
  rw [hg] at hy ⊢
  have hmap : (ms.set k (ms[k] + (papers B).length)).map Int.toNat = (ms.map Int.toNat).set k (ms[k].toNat + (papersI B).length) := by
    rw [List.map_set, papersI_len]
    congr 1
    omega
  have hd : drawP (papersI B) hs.toNat hc ((ms.set k (ms[k] + (papers B).length)).map Int.toNat) [] = some ds := by
    rw [hmap, drawP_shift _ _ _ _ (by rw [List.getElem?_map, List.getElem?_eq_getElem hk]; rfl)]
    exact h4
  have he : drawE B hr hs hc (ms.set k (ms[k] + (papers B).length)) = 0 := by
    unfold drawE
    rw [List.length_set, if_neg (by simp [h1]), if_neg, if_neg (by omega), if_neg (by rw [hd]; simp)]
    rw [Bool.not_eq_false, List.all_eq_true]
    intro m hm'
    rw [inB_iff]
    rcases List.mem_or_eq_of_mem_set hm' with h9 | rfl
    · exact h2 m h9
    · omega
  exact ⟨he, by rw [h5, drawR, if_pos he, hd]; rfl⟩
/-- A copy of numbers by append. -/
theorem copyN {W : World} {A : Option Addr} {n : Nat} {xs : List Int} (h : RdInts W A n xs) (h1 : 1 ≤ n) (hn : n ≤ 900000) (c : Nat) (hA : A = none → c = 0) :
    ∃ g cap w4, (Builtin.append_ #[23, 23] 23 #[.slice (some ⟨W.heap.size, 0, none⟩) 0 0, .slice A n c]).run Try.prog (W.alloc (.cells #[] 3)) = .ok (.slice (some ⟨g, 0, none⟩) n cap) w4 ∧
      RowAt w4 (fun i => i < W.heap.size) 3 1 (.slice (some ⟨g, 0, none⟩) n cap) (xs.map iCells) ∧ Below W.heap.size W w4 ∧ W.heap.size ≤ g ∧ g < w4.heap.size ∧ n ≤ cap := by
  have bW : Blk (W.alloc (.cells #[] 3)) W.heap.size 3 #[] := blkNew rfl
  have hBW : Below W.heap.size W (W.alloc (.cells #[] 3)) := (Below.refl _ _).alloc (Nat.le_refl _) _
  obtain ⟨v', w4, hrun, hrow, hk, -⟩ := app_row (ty := 23) Try.underlying23 infoInt rfl (by decide) (by decide) (rowAt_new (X := fun g => g < W.heap.size) 1 bW (Nat.lt_irrefl _)) (fun g hg => Nat.lt_of_lt_of_le hg hBW.size) (rdRow_ints (h.below hBW)) (A := A) (c := c) hA one_int (by simp; omega)
  rw [List.nil_append] at hrow
  have hl := h.1
  obtain ⟨g, cap, rfl, h2, h3, h4, -⟩ := hrow.at (by rw [List.length_map]; omega)
  rw [List.length_map, hl] at hrun hrow h4
  exact ⟨g, cap, w4, hrun, hrow, hBW.trans (KeptX.below hk), by omega, h3, h4⟩
end Go.Proofs.Ytnmgnonbgihalaa
