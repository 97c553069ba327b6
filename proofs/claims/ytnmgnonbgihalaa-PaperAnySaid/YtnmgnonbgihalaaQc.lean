import Derived.Test.YtnmgnonbgihalaaPv
import Derived.Test.YtnmgnonbgihalaaPs
/-
  What a draw is: papers of the bank; its errors. Of no program.
-/
namespace Go.Proofs.Ytnmgnonbgihalaa

theorem findP_mem {all : List (List Int)} {f : List Int → Bool} {m : Nat} (hl : 0 < all.length) : ∀ {r i : Nat} {x : List Int}, findP all f m r i = some x → x ∈ all ∧ f x = true
  | 0, i, x, h => by cases h
  | r + 1, i, x, h => by
    unfold findP at h
    split at h
    · rename_i hf
      cases h
      refine ⟨?_, hf⟩
      rw [List.getElem?_eq_getElem (Nat.mod_lt _ hl)]
      exact List.getElem_mem _
    · exact findP_mem hl h
theorem drawP_mem {all : List (List Int)} {hs : Nat} {hc : Int} (hl : 0 < all.length) : ∀ (ms : List Nat) (dr ds : List (List Int)), (∀ y ∈ dr, y ∈ all) → drawP all hs hc ms dr = some ds → ∀ y ∈ ds, y ∈ all
  | [], dr, ds, h, e => by cases e; exact h
  | m :: ms, dr, ds, h, e => by
    unfold drawP at e
    split at e
    · cases e
    · rename_i x hx
      refine drawP_mem hl ms (dr ++ [x]) ds (fun y hy => ?_) e
      rcases List.mem_append.1 hy with hy | hy
      · exact h y hy
      · rw [List.mem_singleton] at hy; subst hy; exact (findP_mem hl hx).1
theorem drawP_len {all : List (List Int)} {hs : Nat} {hc : Int} : ∀ (ms : List Nat) (dr ds : List (List Int)), drawP all hs hc ms dr = some ds → ds.length = dr.length + ms.length
  | [], dr, ds, e => by cases e; rfl
  | m :: ms, dr, ds, e => by
    unfold drawP at e
    split at e
    · cases e
    · rename_i x hx
      have := drawP_len ms (dr ++ [x]) ds e
      rw [this, List.length_append, List.length_singleton, List.length_cons]
      omega
theorem papersI_isP {B : Bank} (h : errP B = 0) {x : List Int} (hx : x ∈ papersI B) : isP B x = true := by
  obtain ⟨q, hq, rfl⟩ := List.mem_map.1 hx
  exact (isP_mem (err_ok h)).2 ⟨q, rfl, hq⟩
theorem draw_err {B : Bank} {hr hs hc : Int} {ms : List Int} (h : errP B ≠ 0) : drawE B hr hs hc ms = errP B := by
  have he : enterE B hr hs hc ms.length = errP B := if_pos h
  unfold drawE
  rw [he, if_pos h]
theorem draw_nil {B : Bank} {hr hs hc : Int} {ms : List Int} (h : drawE B hr hs hc ms ≠ 0) : drawR B hr hs hc ms = [] := if_neg h
/-- What holds of a draw that is one. -/
theorem draw_ok {B : Bank} {hr hs hc : Int} {ms : List Int} (h : drawE B hr hs hc ms = 0) : enterE B hr hs hc ms.length = 0 ∧ (∀ m ∈ ms, 0 ≤ m ∧ m ≤ 1000000000) ∧ 0 < (papers B).length ∧ ∃ ds, drawP (papersI B) hs.toNat hc (ms.map Int.toNat) [] = some ds ∧ drawR B hr hs hc ms = ds := by
  have h' := h
  unfold drawE at h'
  split at h'
  · rename_i h1; exact absurd h' h1
  rename_i h1
  split at h'
  · cases h'
  rename_i h2
  split at h'
  · cases h'
  rename_i h3
  split at h'
  · cases h'
  rename_i h4
  refine ⟨Classical.byContradiction h1, fun m hm => ?_, by omega, ?_⟩
  · have h5 : ms.all (fun m => inB 0 1000000000 m) = true := by simpa using h2
    exact inB_iff.1 (List.all_eq_true.1 h5 m hm)
  · obtain ⟨ds, hds⟩ := Option.ne_none_iff_exists'.1 h4
    exact ⟨ds, hds, by rw [drawR, if_pos h, hds, Option.getD_some]⟩
theorem draw_all {B : Bank} {hr hs hc : Int} {ms : List Int} (h : errP B = 0) (j : Nat) (hj : j < (drawR B hr hs hc ms).length) : isP B ((drawR B hr hs hc ms)[j]?.getD []) = true := by
  by_cases he : drawE B hr hs hc ms = 0
  · obtain ⟨-, -, h3, ds, h4, h5⟩ := draw_ok he
    rw [h5] at hj ⊢
    have hl : 0 < (papersI B).length := by rw [papersI_len]; exact h3
    refine papersI_isP h (drawP_mem hl _ [] ds (fun y hy => by cases hy) h4 _ ?_)
    rw [List.getElem?_eq_getElem hj]
    exact List.getElem_mem hj
  · rw [draw_nil he] at hj
    cases hj
theorem draw_len {B : Bank} {hr hs hc : Int} {ms : List Int} (h : drawE B hr hs hc ms = 0) : (drawR B hr hs hc ms).length = ms.length := by
  obtain ⟨-, -, -, ds, h4, h5⟩ := draw_ok h
  rw [h5, drawP_len _ _ _ h4, List.length_map, List.length_nil, Nat.zero_add]
theorem nthP_nil {B : Bank} {x : Int} (h : nthE B x ≠ 0) : nthP B x = [] := if_neg h
theorem nthE_zero {B : Bank} {x : Int} (h : nthE B x = 0) : errP B = 0 ∧ 0 ≤ x ∧ x < (papers B).length := by
  unfold nthE at h
  split at h
  · rename_i h1; exact absurd h h1
  rename_i h1
  split at h
  · cases h
  rename_i h2
  rw [Bool.not_eq_false, inB_iff] at h2
  exact ⟨Classical.byContradiction h1, h2.1, by omega⟩
theorem nthP_isP {B : Bank} {x : Int} (h : nthE B x = 0) : isP B (nthP B x) = true := by
  obtain ⟨h1, h2, h3⟩ := nthE_zero h
  obtain ⟨i, rfl⟩ : ∃ i : Nat, x = (i : Int) := ⟨x.toNat, by omega⟩
  rw [nthP_lt h1 (by omega)]
  exact ppI_isP h1 (by omega)
end Go.Proofs.Ytnmgnonbgihalaa
