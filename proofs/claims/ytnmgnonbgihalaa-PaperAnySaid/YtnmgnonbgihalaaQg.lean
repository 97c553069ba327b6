import Derived.Test.YtnmgnonbgihalaaQf
import Derived.Test.YtnmgnonbgihalaaPv
import Derived.Test.YtnmgnonbgihalaaPx
/-
  The first paper that fits. Of no program.
-/
namespace Go.Proofs.Ytnmgnonbgihalaa

theorem findP_first {all : List (List Int)} {f : List Int → Bool} {m : Nat} : ∀ {r i : Nat} {x : List Int}, findP all f m r i = some x → ∃ d, d < r ∧ x = all[(m + (i + d)) % all.length]?.getD [] ∧ f x = true ∧ ∀ e, e < d → f (all[(m + (i + e)) % all.length]?.getD []) = false
  | 0, i, x, h => by cases h
  | r + 1, i, x, h => by
    unfold findP at h
    split at h
    · rename_i hf
      cases h
      exact ⟨0, by omega, rfl, hf, fun e he => absurd he (by omega)⟩
    · rename_i hf
      obtain ⟨d, h1, h2, h3, h4⟩ := findP_first h
      refine ⟨d + 1, by omega, by rw [h2, show i + (d + 1) = i + 1 + d by omega], h3, fun e he => ?_⟩
      cases e with
      | zero => exact Bool.not_eq_true _ ▸ hf
      | succ e => rw [show i + (e + 1) = i + 1 + e by omega]; exact h4 e (by omega)
theorem drawP_first {all : List (List Int)} {hs : Nat} {hc : Int} (h1 : 1 ≤ hs) : ∀ (ms : List Nat) (dr ds : List (List Int)), drawP all hs hc ms dr = some ds → ∀ s, s < ms.length →
    ∃ d, d < all.length ∧ ds[dr.length + s]?.getD [] = all[(ms[s]?.getD 0 + d) % all.length]?.getD [] ∧ alikeP hs hc ds (dr.length + s) (ds[dr.length + s]?.getD []) = false ∧ ∀ e, e < d → alikeP hs hc ds (dr.length + s) (all[(ms[s]?.getD 0 + e) % all.length]?.getD []) = true
  | [], dr, ds, e, s, a => by cases a
  | m :: ms, dr, ds, e, s, a => by
    unfold drawP at e
    split at e
    · cases e
    · rename_i x hx
      have hp := drawP_pre ms (dr ++ [x]) ds e
      cases s with
      | zero =>
        obtain ⟨d, q1, q2, q3, q4⟩ := findP_first hx
        have hcg : ∀ y, alikeP hs hc ds dr.length y = alikeP hs hc dr dr.length y := fun y => alikeP_congr h1 fun j hj => by rw [hp j (by simp; omega), List.getElem?_append_left hj]
        have hd : ds[dr.length]?.getD [] = x := by rw [hp dr.length (by simp), List.getElem?_append_right (Nat.le_refl _), Nat.sub_self]; rfl
        refine ⟨d, q1, ?_, ?_, fun e he => ?_⟩
        · rw [Nat.add_zero, hd, q2, Nat.zero_add]; rfl
        · rw [Nat.add_zero, hd, hcg]; simpa using q3
        · rw [Nat.add_zero, hcg]
          have := q4 e he
          rw [Nat.zero_add] at this
          simpa using this
      | succ s =>
        have h9 := drawP_first h1 ms (dr ++ [x]) ds e s (by simpa using a)
        rw [List.length_append, List.length_singleton, show dr.length + 1 + s = dr.length + (s + 1) by omega] at h9
        simpa using h9
/-- Each seat's paper is the first, from its number on, that fits. -/
theorem draw_first {B : Bank} {hr hc : Int} {hs : Nat} {ms : List Int} (h : drawE B hr hs hc ms = 0) {s : Nat} (hk : s < ms.length) :
    ∃ d, d < (papers B).length ∧ (drawR B hr hs hc ms)[s]?.getD [] = ppI B (((ms[s]?.getD 0).toNat + d) % (papers B).length) ∧ alikeP hs hc (drawR B hr hs hc ms) s ((drawR B hr hs hc ms)[s]?.getD []) = false ∧
      ∀ e, e < d → alikeP hs hc (drawR B hr hs hc ms) s (ppI B (((ms[s]?.getD 0).toNat + e) % (papers B).length)) = true := by
  obtain ⟨h1, h2, h3, ds, h4, h5⟩ := draw_ok h
  obtain ⟨hB, hh, -⟩ := enter_ok h1
  rw [Int.toNat_natCast] at h4
  obtain ⟨d, q1, q2, q3, q4⟩ := drawP_first (by omega) _ [] ds h4 s (by rw [List.length_map]; exact hk)
  rw [List.length_nil, Nat.zero_add] at q2 q3 q4
  rw [papersI_len] at q1 q2 q4
  have hm : (ms.map Int.toNat)[s]?.getD 0 = (ms[s]?.getD 0).toNat := by rw [List.getElem?_map, List.getElem?_eq_getElem hk]; rfl
  rw [hm] at q2 q4
  refine ⟨d, q1, ?_, by rw [h5]; exact q3, fun e he => ?_⟩
  · rw [h5, q2, papersI_at B _ (Nat.mod_lt _ h3)]
  · have := q4 e he
    rw [papersI_at B _ (Nat.mod_lt _ h3)] at this
    rw [h5]; exact this
theorem ppI_nodup {B : Bank} (h : errP B = 0) {i : Nat} (hi : i < (papers B).length) : (ppI B i).Nodup := ((isX_iff (err_ok h) _).1 (ppI_isP h hi)).asc.imp fun h => by omega
end Go.Proofs.Ytnmgnonbgihalaa
