import Derived.Test.YtnmgnonbgihalaaPu
import Derived.Test.YtnmgnonbgihalaaPt
/-
  The laws' valid and later; numbers and their papers.
-/
namespace Go.Proofs.Ytnmgnonbgihalaa
open Go.RowKit RG

set_option maxRecDepth 100000 in
theorem valid_any (Q Wd : Option Addr) (cq cw : Nat) (B : Bank) (w : World) (h : BkR w Q Wd B) :
    Calls Try.prog 36 #[bkV Q Wd cq cw B] w fun e w' => e = .returned (.bool (decide (errP B = 0))) ∧ Below w.heap.size w w' := by
  have hCk := hide (fun W (hb : Below w.heap.size w W) => CheckR_any Q Wd cq cw B W (h.below hb))
  unfold errP
  obtain ⟨x, y, z, hxyz⟩ : ∃ x y z, checkP B = (x, y, z) := ⟨_, _, _, rfl⟩
  rw [hxyz] at hCk ⊢
  dsimp only at hCk ⊢
  obtain ⟨q, hq⟩ : ∃ q, decide (z = 0) = q := ⟨_, rfl⟩
  rw [hq]
  have hz : (z == 0) = q := by rw [← hq]; by_cases e : z = 0 <;> simp [e]
  clear hxyz
  unfold bkV at *
  obtain ⟨W, hW⟩ : ∃ y, w.alloc (.cells #[.slice Q B.qs.length cq, .slice Wd B.wanted.length cw, .int .i64 B.lo, .int .i64 B.hi] 27) = y := ⟨_, rfl⟩
  have bW := hide (show Blk W w.heap.size 27 #[.slice Q B.qs.length cq, .slice Wd B.wanted.length cw, .int .i64 B.lo, .int .i64 B.hi] by rw [← hW]; exact blkNew rfl)
  have hBW := hide (show Below w.heap.size w W by rw [← hW]; exact (Below.refl _ _).alloc (Nat.le_refl _) _)
  replace hW := hide hW
  have bo := bW.out
  have c0 : W.cell? ⟨w.heap.size, 0, none⟩ = some (.slice Q B.qs.length cq) := bo.cell 0
  have c1 : W.cell? ⟨w.heap.size, 1, none⟩ = some (.slice Wd B.wanted.length cw) := bo.cell 1
  have c2 : W.cell? ⟨w.heap.size, 2, none⟩ = some (.int .i64 B.lo) := bo.cell 2
  have c3 : W.cell? ⟨w.heap.size, 3, none⟩ = some (.int .i64 B.hi) := bo.cell 3
  clear bo h
  replace hq := hide hq
  go_enter Try.func36, Try.ntmps36
  go_upto_region 1 with fail
  rw [hW.out]
  go_wp2_with fail
  refine (hCk.out W hBW.out).mono ?_
  rintro e w2 ⟨rfl, hb⟩
  have hB2 := hide (hBW.out.trans (hb.mono hBW.out.size))
  clear hb c0 c1 c2 c3 hCk
  go_wp2
  go_ret
  exact ⟨rfl, hB2.out⟩
/-- The first number at which two lists differ decides. -/
def laterB : List Int → List Int → Bool
  | x :: a, y :: b => if x = y then laterB a b else decide (x < y)
  | _, _ => false
theorem later_ints : ∀ (a b : List Nat), laterB (ints a) (ints b) = befB a b
  | [], [] => rfl
  | [], _ :: _ => rfl
  | _ :: _, [] => rfl
  | x :: a, y :: b => by
    show (if (x : Int) = (y : Int) then laterB (ints a) (ints b) else decide ((x : Int) < y)) = if x = y then befB a b else decide (x < y)
    rw [later_ints a b]
    by_cases e : x = y
    · rw [if_pos (by omega), if_pos e]
    · rw [if_neg (by omega), if_neg e]
      exact decide_eq_decide.2 (by omega)
theorem later_step {xs ys : List Int} {k : Nat} (hx : k < xs.length) (hy : k < ys.length) : laterB (xs.drop k) (ys.drop k) = if xs[k]?.getD 0 = ys[k]?.getD 0 then laterB (xs.drop (k + 1)) (ys.drop (k + 1)) else decide (xs[k]?.getD 0 < ys[k]?.getD 0) := by
  rw [List.drop_eq_getElem_cons hx, List.drop_eq_getElem_cons hy, List.getElem?_eq_getElem hx, List.getElem?_eq_getElem hy, laterB]
  rfl
theorem later_end {xs ys : List Int} {k : Nat} (h : xs.length ≤ k ∨ ys.length ≤ k) : laterB (xs.drop k) (ys.drop k) = false := by
  rcases h with h | h
  · rw [List.drop_of_length_le h, laterB]
    intro x a y b h1 h2; cases h1
  · rw [List.drop_of_length_le h]
    cases xs.drop k <;> rfl
set_option maxHeartbeats 2000000 in
theorem later_any (A B : Option Addr) (n m c d : Nat) (xs ys : List Int) (w : World) (h : RdInts w A n xs) (h' : RdInts w B m ys) (hn : n ≤ maxLen) (hm : m ≤ maxLen) :
    Calls Try.prog 38 #[.slice A n c, .slice B m d] w fun e w' => e = .returned (.bool (laterB xs ys)) ∧ ∃ q, w' = w.drewN q := by
  unfold maxLen at hn hm
  have hxl := h.1
  have hyl := h'.1
  obtain ⟨R, hR⟩ : ∃ R, laterB xs ys = R := ⟨_, rfl⟩
  rw [hR]
  have hst := hide (fun k (hx : k < n) (hy : k < m) => later_step (xs := xs) (ys := ys) (k := k) (by omega) (by omega))
  have hen := hide (fun k (hx : n ≤ k ∨ m ≤ k) => later_end (xs := xs) (ys := ys) (k := k) (by omega))
  have hR0 := hide (show laterB (xs.drop 0) (ys.drop 0) = R from hR)
  replace hR := hide hR
  go_enter Try.func38, Try.ntmps38
  go_wp2
  go_loopg [5] n (fun g i wr => ∃ k q : Nat, k ≤ n ∧ k ≤ m ∧ n - k ≤ g ∧ i = .int .i64 k ∧ Hid (wr = w.drewN q) ∧ Hid (laterB (xs.drop k) (ys.drop k) = R))
  case atStart => exact ⟨0, 0, Nat.zero_le _, Nat.zero_le _, by omega, rfl, rfl, hR0⟩
  case round =>
    obtain ⟨k, q, hk, hkm, hg, rfl, hwq, hr⟩ := hrel
    by_cases hlt : k < n
    · have hltz : (k : Int) < (n : Int) := by omega
      have hk0 : (0 : Int) ≤ (k : Int) := by omega
      by_cases hlm : k < m
      · have hlmz : (k : Int) < (m : Int) := by omega
        obtain ⟨b, off, rfl, hb, hc⟩ := h.2 (by omega)
        obtain ⟨b', off', rfl, hb', hc'⟩ := h'.2 (by omega)
        have c1 : wr.cell? ⟨b, off + k, none⟩ = some (.int .i64 (xs[k]?.getD 0)) := by rw [hwq.out]; exact hc k hlt
        have c2 : wr.cell? ⟨b', off' + k, none⟩ = some (.int .i64 (ys[k]?.getD 0)) := by rw [hwq.out]; exact hc' k hlm
        have hs := hst.out k hlt hlm
        rw [hr.out] at hs
        have hkw : IntKind.i64.wrap ((k : Int) + 1) = (k : Int) + 1 := by rw [IntKind.wrap_i64]; omega
        generalize xs[k]?.getD 0 = x at *
        generalize ys[k]?.getD 0 = y at *
        replace h := hide h
        replace h' := hide h'
        clear hc hc' hb hb' hR0
        by_cases hxy : x = y
        · have hb1 : ((x : Int) != y) = false := by simp [hxy]
          rw [if_pos hxy] at hs
          replace hs := hide hs.symm
          replace hxy := hide hxy
          go_wp2
          go_quiet (fail)
          go_wp2
          go_roundg (n - (k + 1))
          case measure => omega
          case rel => exact ⟨k + 1, _, by omega, by omega, by omega, by go_num, hide (by rw [hwq.out]; exact World.drewN_drewN _ _ _), hs⟩
        · have hb1 : ((x : Int) != y) = true := by simp [hxy]
          rw [if_neg hxy] at hs
          replace hxy := hide hxy
          obtain ⟨dd, hdd⟩ : ∃ dd, decide (x < y) = dd := ⟨_, rfl⟩
          rw [hdd] at hs
          subst hs
          go_wp2
          go_quiet (fail)
          go_wp2
          go_quiet (fail)
          go_wp2
          go_ret
          exact ⟨rfl, _, by rw [hwq.out]; first | exact World.drewN_drewN _ _ _ | (rw [World.drewN_drewN, World.drewN_drewN])⟩
      · have hlmz : ¬ (k : Int) < (m : Int) := by omega
        have he := hen.out k (.inr (by omega))
        rw [hr.out] at he
        subst he
        replace h := hide h
        replace h' := hide h'
        clear hR0
        go_wp2
        go_ret
        exact ⟨rfl, _, hwq.out⟩
    · have hltz : ¬ (k : Int) < (n : Int) := by omega
      have he := hen.out k (.inl (by omega))
      rw [hr.out] at he
      subst he
      replace h := hide h
      replace h' := hide h'
      clear hR0
      go_wp2
      go_ret
      exact ⟨rfl, _, hwq.out⟩
theorem nthE_lt {B : Bank} (h : errP B = 0) {i : Nat} (hi : i < (papers B).length) : nthE B i = 0 := by
  rw [nthE, if_neg (by simp [h]), if_neg]
  rw [Bool.not_eq_false, inB_iff]
  omega
theorem nthE_ge {B : Bank} (h : errP B = 0) {x : Int} (hx : ((papers B).length : Int) ≤ x) : nthE B x = 4 := by
  rw [nthE, if_neg (by simp [h]), if_pos]
  rw [← Bool.not_eq_true, inB_iff]
  omega
theorem nthE_err {B : Bank} (h : errP B ≠ 0) (x : Int) : nthE B x = errP B := if_pos h
theorem nthP_lt {B : Bank} (h : errP B = 0) {i : Nat} (hi : i < (papers B).length) : nthP B i = ppI B i := by rw [nthP, if_pos (nthE_lt h hi), Int.toNat_natCast]
theorem ppI_isP {B : Bank} (h : errP B = 0) {i : Nat} (hi : i < (papers B).length) : isP B (ppI B i) = true := by
  refine (isP_mem (err_ok h)).2 ⟨(papers B)[i], ?_, List.getElem_mem hi⟩
  unfold ppI
  rw [List.getElem?_eq_getElem hi]
  rfl
theorem numE_ppI {B : Bank} (h : errP B = 0) {i : Nat} (hi : i < (papers B).length) : numE B (ppI B i) = 0 := by rw [numE, if_neg (by simp [h]), if_neg (by rw [ppI_isP h hi]; decide)]
theorem papers_bef {B : Bank} (h : errP B = 0) : (papers B).Pairwise fun a b => befB a b = true := papers_asc (part4 (err_ok h)) (part0 (err_ok h)) B.qs.length 0 (start4 B) 0 (Nat.zero_add _) (start4_len (err_ok h).nw.2)
theorem numV_ppI {B : Bank} (h : errP B = 0) {i : Nat} (hi : i < (papers B).length) : numV B (ppI B i) = i := by
  rw [numV, if_pos (numE_ppI h hi)]
  have hp : ppI B i = ints (papers B)[i] := by unfold ppI; rw [List.getElem?_eq_getElem hi]; rfl
  rw [hp, ints_back]
  have h1 := idx_at (part4 (err_ok h)) (part0 (err_ok h)) B.qs.length 0 (start4 B) 0 (papers B)[i] (Nat.zero_add _) (start4_len (err_ok h).nw.2) (List.getElem_mem hi)
  have h2 := one_place (papers_bef h) (i := idxB B B.qs.length 0 (start4 B) 0 (papers B)[i]) (j := i) h1 (List.getElem?_eq_getElem hi)
  rw [h2]
theorem later_ppI {B : Bank} (h : errP B = 0) {i k : Nat} (hik : i < k) (hk : k < (papers B).length) : laterB (ppI B i) (ppI B k) = true := by
  have h1 := List.pairwise_iff_getElem.1 (papers_bef h) i k (by omega) hk hik
  unfold ppI
  rw [List.getElem?_eq_getElem (by omega), List.getElem?_eq_getElem hk, Option.getD_some, Option.getD_some, later_ints]
  exact h1
theorem lstV_mk {xs : List Int} {A : Option Addr} {c : Nat} {w : World} (h : RdInts w A xs.length xs) (h1 : xs.length ≤ maxLen) (h2 : xs.length ≤ c) : LstV xs (.slice A xs.length c) w := ⟨A, c, rfl, h, h1, h2⟩
end Go.Proofs.Ytnmgnonbgihalaa
