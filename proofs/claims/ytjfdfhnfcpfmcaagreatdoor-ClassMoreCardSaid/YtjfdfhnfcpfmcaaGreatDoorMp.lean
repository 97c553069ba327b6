import Derived.Lib.SplitLaws
import Derived.Lib.IndexBytes
import Derived.Lib.Join
import Derived.Test.YtjfdfhnfcpfmcaaGreatDoorMh
import Derived.Test.YtjfdfhnfcpfmcaaGreatDoorMo
import Derived.Laws.OwnMore
/-
  Texts that are cut at a byte and joined again. Of no program.
-/
namespace Go.Proofs.YtjfdfhnfcpfmcaaGreatDoor.Tx
open Go

/-- The parts of a list between the bytes c. -/
def splitC (c : UInt8) : List UInt8 → List (List UInt8)
  | [] => [[]]
  | b :: l => if b = c then [] :: splitC c l else match splitC c l with
    | [] => [[b]]
    | x :: r => (b :: x) :: r
theorem splitC_ne (c : UInt8) (s : List UInt8) : splitC c s ≠ [] := by
  cases s with
  | nil => simp [splitC]
  | cons b l =>
    unfold splitC
    split
    · simp
    · split <;> simp
theorem splitC_hit (c : UInt8) (l : List UInt8) : splitC c (c :: l) = [] :: splitC c l := by
  rw [splitC, if_pos rfl]
theorem splitC_miss {b c : UInt8} (h : b ≠ c) {l x : List UInt8} {r : List (List UInt8)} (e : splitC c l = x :: r) : splitC c (b :: l) = (b :: x) :: r := by
  rw [splitC, if_neg h, e]
theorem splitK_splitC (c : UInt8) : ∀ (s : List UInt8) (k : Nat), s.count c = k → Lib.splitK [c] 0 k s = splitC c s := by
  intro s
  induction s with
  | nil =>
    intro k hk
    subst hk
    rfl
  | cons b l ih =>
    intro k hk
    by_cases h : b = c
    · subst h
      rw [List.count_cons_self] at hk
      subst hk
      rw [splitC_hit, Lib.splitK]
      have hi : Lib.index (b :: l) [b] = 0 := by rw [Lib.index]; simp [List.isPrefixOf]
      rw [hi, if_neg (by decide)]
      simp [ih _ rfl]
    · rw [List.count_cons_of_ne h] at hk
      have hs := ih k hk
      cases k with
      | zero =>
        rw [Lib.splitK] at hs ⊢
        rw [splitC_miss h hs.symm]
      | succ k =>
        rw [Lib.splitK] at hs ⊢
        have hp : ([c] : List UInt8).isPrefixOf (b :: l) = false := by simp [List.isPrefixOf, Ne.symm h]
        have hix : Lib.index (b :: l) [c] = if Lib.index l [c] == -1 then -1 else Lib.index l [c] + 1 := by rw [Lib.index, hp]; simp
        by_cases hm : Lib.index l [c] = -1
        · exfalso
          have := Lib.count_miss hm
          rw [Lib.count_one] at this
          omega
        · have hge := Lib.index_ge l [c]
          obtain ⟨j, hj⟩ : ∃ j : Nat, Lib.index l [c] = j := ⟨(Lib.index l [c]).toNat, by omega⟩
          have hb : (Lib.index l [c] == -1) = false := by rw [beq_eq_false_iff_ne]; exact hm
          rw [hb] at hix hs
          simp only [Bool.false_eq_true, if_false] at hix hs
          have hb2 : (Lib.index (b :: l) [c] == -1) = false := by rw [beq_eq_false_iff_ne]; omega
          rw [hb2]
          simp only [Bool.false_eq_true, if_false]
          rw [splitC_miss h hs.symm, hix, hj]
          have e1 : ((j : Int) + 1).toNat = j + 1 := by omega
          have e2 : (j : Int).toNat = j := by omega
          rw [e1, e2]
          simp only [Nat.add_zero, List.length_cons, List.length_nil, Nat.zero_add, List.take_succ_cons, List.drop_succ_cons]
theorem splitB_splitC (c : UInt8) (s : ByteArray) : (Lib.splitB ⟨#[c]⟩ 0 (Lib.countB s ⟨#[c]⟩) s).map (·.data.toList) = splitC c s.data.toList := by
  rw [Lib.splitB_data]
  refine splitK_splitC c _ _ ?_
  show _ = Lib.count s.data.toList [c]
  rw [Lib.count_one]

theorem join_cons2 (x y : List UInt8) (r : List (List UInt8)) (sep : List UInt8) : Lib.join (x :: y :: r) sep = x ++ sep ++ Lib.join (y :: r) sep := by
  rw [Lib.join_cons, Lib.join_cons]
  simp [Lib.joinTail, List.append_assoc]
theorem join_splitC (c : UInt8) : ∀ s : List UInt8, Lib.join (splitC c s) [c] = s := by
  intro s
  induction s with
  | nil => rfl
  | cons b l ih =>
    obtain ⟨x, r, e⟩ := List.exists_cons_of_ne_nil (splitC_ne c l)
    rw [e] at ih
    by_cases h : b = c
    · subst h
      rw [splitC_hit, e, join_cons2, ih]
      rfl
    · rw [splitC_miss h e]
      rw [Lib.join_cons] at ih ⊢
      rw [List.cons_append, ih]
theorem splitC_free (c : UInt8) : ∀ s : List UInt8, ∀ x ∈ splitC c s, c ∉ x := by
  intro s
  induction s with
  | nil => intro x hx; simp [splitC] at hx; subst hx; simp
  | cons b l ih =>
    obtain ⟨x, r, e⟩ := List.exists_cons_of_ne_nil (splitC_ne c l)
    rw [e] at ih
    intro y hy
    by_cases h : b = c
    · subst h
      rw [splitC_hit, e] at hy
      rcases List.mem_cons.1 hy with rfl | hy
      · simp
      · exact ih y hy
    · rw [splitC_miss h e] at hy
      rcases List.mem_cons.1 hy with rfl | hy
      · have := ih x (List.mem_cons_self ..)
        simp [this, Ne.symm h]
      · exact ih y (List.mem_cons_of_mem _ hy)
theorem splitC_word (c : UInt8) : ∀ x : List UInt8, c ∉ x → splitC c x = [x] := by
  intro x
  induction x with
  | nil => intro _; rfl
  | cons b l ih =>
    intro h
    simp only [List.mem_cons, not_or] at h
    exact splitC_miss (Ne.symm h.1) (ih h.2)
theorem splitC_app (c : UInt8) (l : List UInt8) : ∀ x : List UInt8, c ∉ x → splitC c (x ++ c :: l) = x :: splitC c l := by
  intro x
  induction x with
  | nil => intro _; exact splitC_hit c l
  | cons b x ih =>
    intro h
    simp only [List.mem_cons, not_or] at h
    exact splitC_miss (Ne.symm h.1) (ih h.2)
theorem splitC_join (c : UInt8) : ∀ ws : List (List UInt8), ws ≠ [] → (∀ x ∈ ws, c ∉ x) → splitC c (Lib.join ws [c]) = ws := by
  intro ws
  induction ws with
  | nil => intro h; exact absurd rfl h
  | cons x r ih =>
    intro _ h
    cases r with
    | nil =>
      rw [Lib.join_one]
      exact splitC_word c x (h x (List.mem_cons_self ..))
    | cons y r =>
      rw [join_cons2, List.append_assoc]
      have := ih (by simp) (fun z hz => h z (List.mem_cons_of_mem _ hz))
      rw [List.singleton_append, splitC_app c _ x (h x (List.mem_cons_self ..)), this]
end Go.Proofs.YtjfdfhnfcpfmcaaGreatDoor.Tx

/-
  Write and Read are each other's inverse: the mathematics of it.
-/
namespace Go.Proofs.YtjfdfhnfcpfmcaaGreatDoor
open Go.RowKit RG

theorem ba_ext {a b : ByteArray} (h : a.data.toList = b.data.toList) : a = b := by
  cases a; cases b
  congr
  exact Array.ext' h
theorem map_data_inj {a b : List ByteArray} (h : a.map (·.data.toList) = b.map (·.data.toList)) : a = b := by
  induction a generalizing b with
  | nil => cases b with
    | nil => rfl
    | cons y b => simp at h
  | cons x a ih => cases b with
    | nil => simp at h
    | cons y b =>
      simp only [List.map_cons, List.cons.injEq] at h
      rw [ba_ext h.1, ih h.2]
/-- A text that parts are joined to is cut to these parts. -/
theorem splitL_join (c : UInt8) (ps : List ByteArray) (hne : ps ≠ []) (h : ∀ x ∈ ps, c ∉ x.data.toList) : splitL c ⟨(Lib.join (ps.map (·.data.toList)) [c]).toArray⟩ = ps := by
  apply map_data_inj
  unfold splitL
  rw [Tx.splitB_splitC]
  refine Tx.splitC_join c _ (by simpa using hne) ?_
  intro x hx
  obtain ⟨y, hy, rfl⟩ := List.mem_map.1 hx
  exact h y hy
/-- The parts of a text, joined. -/
theorem join_splitL (c : UInt8) (s : ByteArray) : (⟨(Lib.join ((splitL c s).map (·.data.toList)) [c]).toArray⟩ : ByteArray) = s := by
  apply ba_ext
  unfold splitL
  rw [Tx.splitB_splitC]
  exact Tx.join_splitC c _
theorem splitL_ne (c : UInt8) (s : ByteArray) : splitL c s ≠ [] := by
  intro h
  have := Tx.splitB_splitC c s
  unfold splitL at h
  rw [h] at this
  exact Tx.splitC_ne c _ this.symm

/-- A name has no byte that is not a letter or a digit. -/
theorem name_free {s : ByteArray} (h : nameB s = true) {c : UInt8} (hc : ¬ isLet c) (hd : ¬ isDig c) : c ∉ s.data.toList := by
  intro hm
  unfold nameB at h
  obtain ⟨_, h2⟩ := decide_eq_true_iff.1 h
  obtain ⟨j, hj, e⟩ := List.mem_iff_getElem.1 hm
  have := h2 j hj
  rw [List.getElem?_eq_getElem hj] at this
  simp only [Option.getD_some, e] at this
  rcases this with h3 | h3
  · exact hc h3
  · exact hd h3.1
theorem Good.classTwice {S : Sys} (h : Good S) {i j : Nat} (hi : i < S.cs.length) (hj : j < i) : (S.cs[j]?.getD default).name ≠ (S.cs[i]?.getD default).name := by
  have := h.clsErr i hi
  unfold Go.Proofs.YtjfdfhnfcpfmcaaGreatDoor.clsErr at this
  split at this
  · cases this
  · split at this
    · cases this
    · rename_i h2
      intro e
      exact h2 (anyIdx_iff.2 ⟨j, hj, eqS_iff.2 e⟩)
theorem Good.codeTwice {S : Sys} (h : Good S) {i j : Nat} (hi : i < S.codes.length) (hj : j < i) : S.codes[j]?.getD ⟨#[]⟩ ≠ S.codes[i]?.getD ⟨#[]⟩ := by
  have := h.codeErr i hi
  unfold Go.Proofs.YtjfdfhnfcpfmcaaGreatDoor.codeErr at this
  split at this
  · cases this
  · split at this
    · cases this
    · rename_i h2
      intro e
      exact h2 (anyIdx_iff.2 ⟨j, hj, eqS_iff.2 e.symm⟩)
theorem firstIdx_is {p : Nat → Bool} {n i : Nat} (hi : i < n) (hp : p i = true) (hno : ∀ j, j < i → p j = false) : firstIdx p 0 n = (i : Int) := by
  have hne : firstIdx p 0 n ≠ -1 := by
    intro h
    have := firstIdx_neg.1 h i (by omega) (by omega)
    rw [hp] at this
    cases this
  obtain ⟨k, hk, _, hkn, hpk, hnk⟩ := firstIdx_at hne
  rw [hk]
  rcases Nat.lt_trichotomy k i with h | h | h
  · rw [hno k h] at hpk; cases hpk
  · rw [h]
  · rw [hnk i (by omega) h] at hp; cases hp
theorem idxN_at {S : Sys} (gd : Good S) {i : Nat} (hi : i < S.cs.length) : idxN S.cs (S.cs[i]?.getD default).name = (i : Int) := by
  unfold idxN
  refine firstIdx_is hi (eqS_iff.2 rfl) fun j hj => ?_
  rw [Bool.eq_false_iff]
  exact fun h => gd.classTwice hi hj (eqS_iff.1 h)
theorem idxC_at {S : Sys} (gd : Good S) {i : Nat} (hi : i < S.codes.length) : idxC S.codes (S.codes[i]?.getD ⟨#[]⟩) = (i : Int) := by
  unfold idxC
  refine firstIdx_is hi (eqS_iff.2 rfl) fun j hj => ?_
  rw [Bool.eq_false_iff]
  exact fun h => gd.codeTwice hi hj (eqS_iff.1 h).symm

/-- The set of a list of codes. -/
def setOf (os : List Nat) (c : Nat) : Nat := os.foldl (fun c o => c ||| 2 ^ o) c
theorem setOf_bit : ∀ (os : List Nat) (c j : Nat), (setOf os c).testBit j = (c.testBit j || decide (j ∈ os))
  | [], c, j => by simp [setOf]
  | o :: os, c, j => by
    have := setOf_bit os (c ||| 2 ^ o) j
    unfold setOf at this ⊢
    rw [List.foldl_cons, this, Nat.testBit_or, Nat.testBit_two_pow]
    by_cases h : o = j
    · subst h; simp
    · have h' : ¬ j = o := fun e => h e.symm
      simp [h, h', List.mem_cons]
/-- Codes that ascend are read. -/
theorem codesF_up {S : Sys} (gd : Good S) : ∀ (os : List Nat) (c : Nat) (l : Int), (∀ o ∈ os, o < S.codes.length ∧ l < (o : Int)) → os.Pairwise (· < ·) → codesF S.codes (os.map fun o => S.codes[o]?.getD ⟨#[]⟩) c l = some (setOf os c)
  | [], _, _, _, _ => rfl
  | o :: os, c, l, h, hp => by
    have ho := h o (List.mem_cons_self ..)
    rw [List.map_cons, codesF, idxC_at gd ho.1, if_pos ho.2]
    rw [List.pairwise_cons] at hp
    have e : ((o : Int)).toNat = o := by omega
    rw [e]
    exact codesF_up gd os _ _ (fun x hx => ⟨(h x (List.mem_cons_of_mem _ hx)).1, by have := hp.1 x hx; omega⟩) hp.2
theorem codesF_down {S : Sys} : ∀ (ps : List ByteArray) (c : Nat) (l : Int) (k : Nat), -1 ≤ l → codesF S.codes ps c l = some k →
    ∃ os : List Nat, ps = (os.map fun o => S.codes[o]?.getD ⟨#[]⟩) ∧ (∀ o ∈ os, o < S.codes.length ∧ l < (o : Int)) ∧ os.Pairwise (· < ·) ∧ k = setOf os c
  | [], c, l, k, _, h => ⟨[], rfl, by simp, List.Pairwise.nil, by simp only [codesF, Option.some.injEq] at h; exact h.symm⟩
  | p :: r, c, l, k, hl, h => by
    rw [codesF] at h
    split at h
    · rename_i hlt
      have hne : idxC S.codes p ≠ -1 := by omega
      unfold idxC at hne
      obtain ⟨i, h1, _, h3, h4, _⟩ := firstIdx_at hne
      have hi : idxC S.codes p = (i : Int) := h1
      rw [hi] at h hlt
      obtain ⟨os, e1, e2, e3, e4⟩ := codesF_down r _ _ _ (by omega) h
      refine ⟨i :: os, ?_, ?_, ?_, ?_⟩
      · rw [List.map_cons, ← e1, eqS_iff.1 h4]
      · intro o ho
        rcases List.mem_cons.1 ho with rfl | ho
        · exact ⟨by omega, hlt⟩
        · exact ⟨(e2 o ho).1, by have := (e2 o ho).2; omega⟩
      · rw [List.pairwise_cons]
        exact ⟨fun o ho => by have := (e2 o ho).2; omega, e3⟩
      · rw [e4]
        have e : ((i : Int)).toNat = i := by omega
        rw [e]
        rfl
    · cases h
/-- The codes of a set, ascending. -/
def codesOf (S : Sys) (k : Nat) : List Nat := (List.range S.codes.length).filter fun o => k.testBit o
theorem codesOf_up (S : Sys) (k : Nat) : (codesOf S k).Pairwise (· < ·) := List.Pairwise.filter _ List.pairwise_lt_range
theorem mem_codesOf {S : Sys} {k o : Nat} : o ∈ codesOf S k ↔ o < S.codes.length ∧ k.testBit o = true := by
  unfold codesOf
  rw [List.mem_filter, List.mem_range]
theorem setOf_codesOf {S : Sys} {k : Nat} (hk : k < 2 ^ S.codes.length) : setOf (codesOf S k) 0 = k := by
  apply Nat.eq_of_testBit_eq
  intro j
  rw [setOf_bit, Nat.zero_testBit, Bool.false_or]
  by_cases hj : k.testBit j = true
  · have : j < S.codes.length := by
      rcases Nat.lt_or_ge j S.codes.length with h | h
      · exact h
      · rw [Nat.testBit_lt_two_pow (Nat.lt_of_lt_of_le hk (Nat.pow_le_pow_right (by omega) h))] at hj; cases hj
    rw [hj, decide_eq_true_iff]
    exact mem_codesOf.2 ⟨this, hj⟩
  · rw [Bool.not_eq_true] at hj
    rw [hj, decide_eq_false_iff_not]
    intro h
    rw [(mem_codesOf.1 h).2] at hj
    cases hj
theorem up_uniq : ∀ (a b : List Nat), a.Pairwise (· < ·) → b.Pairwise (· < ·) → (∀ x, x ∈ a ↔ x ∈ b) → a = b
  | [], [], _, _, _ => rfl
  | [], y :: b, _, _, h => by have := (h y).2 (List.mem_cons_self ..); simp at this
  | x :: a, [], _, _, h => by have := (h x).1 (List.mem_cons_self ..); simp at this
  | x :: a, y :: b, ha, hb, h => by
    rw [List.pairwise_cons] at ha hb
    have hxy : x = y := by
      rcases List.mem_cons.1 ((h x).1 (List.mem_cons_self ..)) with e | e
      · exact e
      · rcases List.mem_cons.1 ((h y).2 (List.mem_cons_self ..)) with e2 | e2
        · exact e2.symm
        · have h1 := hb.1 x e
          have h2 := ha.1 y e2
          omega
    subst hxy
    rw [up_uniq a b ha.2 hb.2 fun z => ?_]
    constructor
    · intro hz
      rcases List.mem_cons.1 ((h z).1 (List.mem_cons_of_mem _ hz)) with e | e
      · have := ha.1 z hz; omega
      · exact e
    · intro hz
      rcases List.mem_cons.1 ((h z).2 (List.mem_cons_of_mem _ hz)) with e | e
      · have := hb.1 z hz; omega
      · exact e
theorem setOf_lt (n : Nat) : ∀ (os : List Nat) (c : Nat), c < 2 ^ n → (∀ o ∈ os, o < n) → setOf os c < 2 ^ n
  | [], c, h, _ => h
  | o :: os, c, h, ho => by
    unfold setOf
    rw [List.foldl_cons]
    exact setOf_lt n os _ (Nat.or_lt_two_pow h (Nat.pow_lt_pow_right (by omega) (ho o (List.mem_cons_self ..)))) fun x hx => ho x (List.mem_cons_of_mem _ hx)
theorem codesOf_setOf {S : Sys} {os : List Nat} (h : ∀ o ∈ os, o < S.codes.length) (hp : os.Pairwise (· < ·)) : codesOf S (setOf os 0) = os := by
  refine up_uniq _ _ (codesOf_up S _) hp fun x => ?_
  rw [mem_codesOf, setOf_bit, Nat.zero_testBit, Bool.false_or, decide_eq_true_iff]
  exact ⟨fun h => h.2, fun hx => ⟨h x hx, hx⟩⟩

/-- No part of a word has a point or a space. -/
theorem parts_free {S : Sys} (gd : Good S) {r : Nat × Nat} (hr : r.1 < S.cs.length) {c : UInt8} (hc : ¬ isLet c) (hd : ¬ isDig c) : ∀ x ∈ partsL S r S.codes.length, c ∉ x.data.toList := by
  intro x hx
  rcases List.mem_cons.1 hx with rfl | hx
  · exact name_free (gd.className hr) hc hd
  · obtain ⟨o, ho, rfl⟩ := List.mem_map.1 hx
    exact name_free (gd.codeName (List.mem_range.1 (List.mem_filter.1 ho).1)) hc hd
theorem split_word {S : Sys} (gd : Good S) {r : Nat × Nat} (hr : r.1 < S.cs.length) : splitL 46 (wordB S r) = partsL S r S.codes.length :=
  splitL_join 46 _ (by simp [partsL]) (parts_free gd hr (by decide) (by decide))
theorem right_word {S : Sys} (gd : Good S) {r : Nat × Nat} (hr : r.1 < S.cs.length) (hk : r.2 < 2 ^ S.codes.length) : rightF S (splitL 46 (wordB S r)) = some ((r.1 : Int), r.2) := by
  rw [split_word gd hr]
  have h0 : (partsL S r S.codes.length)[0]?.getD ⟨#[]⟩ = (S.cs[r.1]?.getD default).name := rfl
  have h1 : (partsL S r S.codes.length).drop 1 = (codesOf S r.2).map fun o => S.codes[o]?.getD ⟨#[]⟩ := rfl
  unfold rightF
  rw [h0, h1, idxN_at gd hr, if_neg (by omega), codesF_up gd _ _ _ (fun o ho => ⟨(mem_codesOf.1 ho).1, by omega⟩) (codesOf_up S _), setOf_codesOf hk]
  rfl
theorem word_right {S : Sys} {s : ByteArray} {x : Int × Nat} (h : rightF S (splitL 46 s) = some x) : ∃ i : Nat, x.1 = (i : Int) ∧ i < S.cs.length ∧ x.2 < 2 ^ S.codes.length ∧ wordB S (i, x.2) = s := by
  obtain ⟨p, r, e⟩ := List.exists_cons_of_ne_nil (splitL_ne 46 s)
  have hj := join_splitL 46 s
  rw [e] at h hj
  unfold rightF at h
  have h0 : (p :: r)[0]?.getD ⟨#[]⟩ = p := rfl
  have h1 : (p :: r).drop 1 = r := rfl
  rw [h0, h1] at h
  split at h
  · cases h
  · rename_i hge
    obtain ⟨k, hk, rfl⟩ := Option.map_eq_some_iff.1 h
    have hne : idxN S.cs p ≠ -1 := by omega
    unfold idxN at hne
    obtain ⟨i, hi, _, hin, hp, _⟩ := firstIdx_at hne
    have hi' : idxN S.cs p = (i : Int) := hi
    obtain ⟨os, e1, e2, e3, e4⟩ := codesF_down r 0 (-1) k (by omega) hk
    refine ⟨i, hi', by omega, ?_, ?_⟩
    · show k < _
      rw [e4]
      exact setOf_lt _ os 0 (Nat.two_pow_pos _) fun o ho => (e2 o ho).1
    · rw [← hj]
      unfold wordB
      have : partsL S (i, k) S.codes.length = p :: r := by
        show (S.cs[i]?.getD default).name :: (codesOf S k).map (fun o => S.codes[o]?.getD ⟨#[]⟩) = p :: r
        rw [eqS_iff.1 hp, e4, codesOf_setOf (fun o ho => (e2 o ho).1) e3, e1]
      rw [this]

/-- The words of rights. -/
def wordsL (S : Sys) (rs : List (Int × Int)) : List ByteArray := rs.map fun r => wordB S (natR r)
theorem wordsL_eq (S : Sys) (rs : List (Int × Int)) : ((List.range rs.length).map fun i => wordB S (natR (rs[i]?.getD (0, 0)))) = wordsL S rs := by
  apply List.ext_getElem
  · simp [wordsL]
  · intro i h1 h2
    have : i < rs.length := by simpa using h1
    simp [wordsL, List.getElem?_eq_getElem this]
theorem textB_ne {S : Sys} {rs : List (Int × Int)} (h : rs ≠ []) : textB S rs = ⟨(Lib.join ((wordsL S rs).map (·.data.toList)) [32]).toArray⟩ := by
  unfold textB
  rw [if_neg (by simpa using h), wordsL_eq]
/-- No word has a space. -/
theorem word_free {S : Sys} (gd : Good S) {r : Nat × Nat} (hr : r.1 < S.cs.length) : (32 : UInt8) ∉ (wordB S r).data.toList := by
  have key : ∀ ps : List (List UInt8), (∀ x ∈ ps, (32 : UInt8) ∉ x) → (32 : UInt8) ∉ Lib.join ps [46] := by
    intro ps
    induction ps with
    | nil => intro _; simp [Lib.join, List.intercalate]
    | cons x r ih =>
      intro h
      cases r with
      | nil => rw [Lib.join_one]; exact h x (List.mem_cons_self ..)
      | cons y r =>
        rw [Tx.join_cons2]
        have h1 := h x (List.mem_cons_self ..)
        have h2 := ih fun z hz => h z (List.mem_cons_of_mem _ hz)
        simp only [List.mem_append, List.mem_singleton, not_or]
        exact ⟨⟨h1, by decide⟩, h2⟩
  refine key _ fun x hx => ?_
  obtain ⟨y, hy, rfl⟩ := List.mem_map.1 hx
  exact parts_free gd hr (by decide) (by decide) y hy
theorem split_text {S : Sys} (gd : Good S) {rs : List (Int × Int)} (gr : GoodR S rs) (hne : rs ≠ []) : splitL 32 (textB S rs) = wordsL S rs := by
  rw [textB_ne hne]
  refine splitL_join 32 _ (by simpa [wordsL] using hne) fun x hx => ?_
  obtain ⟨r, hr, rfl⟩ := List.mem_map.1 hx
  exact word_free gd (natR_lt gd gr hr).1
theorem readL_words {S : Sys} (gd : Good S) : ∀ rs : List (Int × Int), (∀ r ∈ rs, (natR r).1 < S.cs.length ∧ (natR r).2 < 2 ^ S.codes.length) → readL S (wordsL S rs) = some (rs.map fun r => (((natR r).1 : Int), (natR r).2))
  | [], _ => rfl
  | r :: rs, h => by
    have h0 := h r (List.mem_cons_self ..)
    show (match rightF S (splitL 46 (wordB S (natR r))) with
      | none => none
      | some x => (readL S (wordsL S rs)).map (x :: ·)) = _
    rw [right_word gd h0.1 h0.2, readL_words gd rs fun x hx => h x (List.mem_cons_of_mem _ hx)]
    rfl
/-- What is written is read back. -/
theorem textF_textB {S : Sys} (gd : Good S) {rs : List (Int × Int)} (gr : GoodR S rs) : ∃ L, textF S (textB S rs) = some L ∧ L.map rI = rs := by
  by_cases hne : rs = []
  · subst hne
    refine ⟨[], ?_, rfl⟩
    unfold textF
    rw [if_pos (eqS_iff.2 (show textB S [] = ⟨#[45]⟩ from rfl))]
  · have hno : ¬ eqS (textB S rs) ⟨#[45]⟩ = true := by
      rw [eqS_iff]
      intro e
      have h1 := split_text gd gr hne
      rw [e] at h1
      have h2 : splitL 32 ⟨#[45]⟩ = [⟨#[45]⟩] := by
        apply map_data_inj
        unfold splitL
        rw [Tx.splitB_splitC]
        exact Tx.splitC_word _ _ (by decide)
      rw [h2] at h1
      obtain ⟨r, rs', rfl⟩ := List.exists_cons_of_ne_nil hne
      have h3 : (⟨#[45]⟩ : ByteArray) = wordB S (natR r) := by
        simp only [wordsL, List.map_cons, List.cons.injEq] at h1
        exact h1.1
      have hr := (natR_lt gd gr (List.mem_cons_self ..)).1
      have h4 := split_word gd hr
      rw [← h3] at h4
      have h5 : splitL 46 ⟨#[45]⟩ = [⟨#[45]⟩] := by
        apply map_data_inj
        unfold splitL
        rw [Tx.splitB_splitC]
        exact Tx.splitC_word _ _ (by decide)
      rw [h5] at h4
      have h6 := gd.className hr
      have h7 : (S.cs[(natR r).1]?.getD default).name = ⟨#[45]⟩ := by
        simp only [partsL, List.cons.injEq] at h4
        exact h4.1.symm
      rw [h7] at h6
      exact absurd h6 (by decide)
    refine ⟨rs.map fun r => (((natR r).1 : Int), (natR r).2), ?_, ?_⟩
    · unfold textF
      rw [if_neg hno, split_text gd gr hne, if_neg (by have := gr.1; simp only [wordsL, List.length_map]; omega)]
      exact readL_words gd rs fun r hr => ⟨(natR_lt gd gr hr).1, (natR_lt gd gr hr).2.1⟩
    · rw [List.map_map]
      refine (List.map_congr_left fun r hr => ?_).trans (List.map_id rs)
      exact (natR_lt gd gr hr).2.2.2.symm
theorem textB_size {S : Sys} (gd : Good S) {rs : List (Int × Int)} (gr : GoodR S rs) : (textB S rs).size ≤ 7000 := by
  by_cases hne : rs = []
  · subst hne
    rw [show textB S [] = ⟨#[45]⟩ from rfl]
    decide
  · rw [textB_ne hne]
    have h2 := join_le [32] 153 rfl ((wordsL S rs).map (·.data.toList)) (fun x hx => by
      obtain ⟨y, hy, rfl⟩ := List.mem_map.1 hx
      obtain ⟨r, hr, rfl⟩ := List.mem_map.1 hy
      rw [Array.length_toList]
      exact wordB_size gd (natR_lt gd gr hr).1)
    have h3 := gr.1
    simp only [wordsL, List.length_map] at h2
    have h4 : (ByteArray.mk (Lib.join ((wordsL S rs).map (·.data.toList)) [32]).toArray).size = (Lib.join ((wordsL S rs).map (·.data.toList)) [32]).length := by simp [ByteArray.size]
    rw [h4]
    have : rs.length * (153 + 1) ≤ 40 * 154 := Nat.mul_le_mul_right 154 h3
    unfold wordsL
    rw [List.map_map] at h2 ⊢
    omega
theorem words_readL {S : Sys} : ∀ (ws : List ByteArray) (L : List (Int × Nat)), readL S ws = some L → wordsL S (L.map rI) = ws ∧ ∀ x ∈ L.map rI, ∃ c k : Nat, x = ((c : Int), (k : Int)) ∧ c < S.cs.length ∧ k < 2 ^ S.codes.length
  | [], L, h => by
    simp only [readL, Option.some.injEq] at h
    subst h
    exact ⟨rfl, by simp⟩
  | w :: r, L, h => by
    rw [readL] at h
    split at h
    · cases h
    · rename_i x hx
      obtain ⟨L', hL, rfl⟩ := Option.map_eq_some_iff.1 h
      obtain ⟨h1, h2⟩ := words_readL r L' hL
      obtain ⟨i, e1, e2, e3, e4⟩ := word_right hx
      have e5 : natR (rI x) = (i, x.2) := by
        unfold natR rI
        rw [e1]
        simp
      constructor
      · simp only [wordsL, List.map_cons] at h1 ⊢
        rw [h1, e5, e4]
      · intro y hy
        rw [List.map_cons] at hy
        rcases List.mem_cons.1 hy with rfl | hy
        · exact ⟨i, x.2, by unfold rI; rw [e1], e2, e3⟩
        · exact h2 y hy
/-- What is read is written back. -/
theorem textB_textF {S : Sys} {s : ByteArray} {L : List (Int × Nat)} (h : textF S s = some L) : textB S (L.map rI) = s ∧ GoodR S (L.map rI) := by
  unfold textF at h
  split at h
  · rename_i h1
    simp only [Option.some.injEq] at h
    subst h
    exact ⟨(eqS_iff.1 h1).symm, goodR_mem (by simp) (by simp)⟩
  · split at h
    · cases h
    · rename_i h2
      obtain ⟨h3, h4⟩ := words_readL _ _ h
      have hne : L.map rI ≠ [] := by
        intro e
        rw [e] at h3
        exact splitL_ne 32 s h3.symm
      constructor
      · rw [textB_ne hne, h3]
        exact join_splitL 32 s
      · refine goodR_mem ?_ h4
        have := congrArg List.length h3
        simp only [wordsL, List.length_map] at this ⊢
        omega
/-- Read of what Write returns. -/
theorem readF_writeF {S : Sys} {rs : List (Int × Int)} (h : openF S [rs] = 0) : ∃ L, readF S (textB S rs) = (L, 0) ∧ L.map rI = rs := by
  have gd := (openF_good h).1
  have gr := (openF_good h).2 rs (List.mem_singleton.2 rfl)
  obtain ⟨L, h1, h2⟩ := textF_textB gd gr
  refine ⟨L, ?_, h2⟩
  have h0 : openF S [] = 0 := by unfold openF; rw [if_pos (show (checkF S).2.2 = 0 from gd)]; rfl
  unfold readF
  rw [h0, if_neg (by simp), if_neg (by have := textB_size gd gr; omega), h1]
theorem readF_fail {S : Sys} {s : ByteArray} (h : (readF S s).2 ≠ 0) : (readF S s).1 = [] := by
  unfold readF at h ⊢
  split at h
  · rename_i h1; rw [if_pos h1]
  · rename_i h1
    rw [if_neg h1]
    split at h
    · rename_i h2; rw [if_pos h2]
    · rename_i h2
      rw [if_neg h2]
      cases h3 : textF S s with
      | none => rfl
      | some L => rw [h3] at h; exact absurd rfl h
/-- Write of what Read returns. -/
theorem writeF_readF {S : Sys} {s : ByteArray} (h : (readF S s).2 = 0) : writeF S ((readF S s).1.map rI) = (s, 0) := by
  unfold readF at h ⊢
  split at h
  · rename_i h1; exact absurd h h1
  · rename_i h1
    rw [if_neg h1]
    split at h
    · cases h
    · rename_i h2
      rw [if_neg h2]
      cases h3 : textF S s with
      | none => rw [h3] at h; cases h
      | some L =>
        obtain ⟨h4, h5⟩ := textB_textF h3
        have gd : Good S := by
          have := Classical.not_not.1 h1
          exact (openF_good this).1
        show writeF S (L.map rI) = (s, 0)
        unfold writeF
        rw [openF_good_of gd h5, if_neg (by simp), h4]
end Go.Proofs.YtjfdfhnfcpfmcaaGreatDoor

/-
  Rights with fewer codes and vehicles with fewer features; rights with weaker ones added: the mathematics of it, and rows of rights that are written.
-/
namespace Go.Proofs.YtjfdfhnfcpfmcaaGreatDoor
open Go.RowKit RG

theorem bit_split (k i : Nat) : k = 2 ^ i * (k / 2 ^ i) + k % 2 ^ i := (Nat.div_add_mod k (2 ^ i)).symm
theorem bit_at (a b i j : Nat) (hb : b < 2 ^ i) : (2 ^ i * a + b).testBit j = if j < i then b.testBit j else a.testBit (j - i) := Nat.testBit_two_pow_mul_add a hb j
theorem bit_odd {k i : Nat} (h : k.testBit i = true) : k / 2 ^ i = 2 * (k / 2 ^ i / 2) + 1 := by
  rw [Nat.testBit_eq_decide_div_mod_eq, decide_eq_true_iff] at h
  omega
theorem bit_even {k i : Nat} (h : k.testBit i = false) : k / 2 ^ i = 2 * (k / 2 ^ i / 2) := by
  rw [Nat.testBit_eq_decide_div_mod_eq, decide_eq_false_iff_not] at h
  omega
theorem dbl_bit (a t : Nat) : (2 * a).testBit t = true → (2 * a + 1).testBit t = true := by
  cases t with
  | zero => simp
  | succ t => 
    rw [Nat.testBit_succ, Nat.testBit_succ]
    rw [show (2 * a) / 2 = a by omega, show (2 * a + 1) / 2 = a by omega]
    exact id
/-- A set without one of its codes. -/
theorem sub_bits {k i : Nat} (h : k.testBit i = true) : ∀ j, (k - 2 ^ i).testBit j = true → k.testBit j = true := by
  intro j
  have hb : k % 2 ^ i < 2 ^ i := Nat.mod_lt _ (Nat.two_pow_pos i)
  have h1 := bit_odd h
  have h2 := bit_split k i
  generalize k / 2 ^ i / 2 = a at *
  generalize k % 2 ^ i = b at *
  rw [h1] at h2
  have h3 : k - 2 ^ i = 2 ^ i * (2 * a) + b := by rw [h2, Nat.mul_add]; omega
  rw [h3, h2, bit_at _ _ _ _ hb, bit_at _ _ _ _ hb]
  split
  · exact id
  · exact dbl_bit a _
/-- A set with a code more. -/
theorem add_bits {k i : Nat} (h : k.testBit i = false) : ∀ j, (k + 2 ^ i).testBit j = (k.testBit j || decide (i = j)) := by
  intro j
  have hb : k % 2 ^ i < 2 ^ i := Nat.mod_lt _ (Nat.two_pow_pos i)
  have h1 := bit_even h
  have h2 := bit_split k i
  generalize k / 2 ^ i / 2 = a at *
  generalize k % 2 ^ i = b at *
  rw [h1] at h2
  have h3 : k + 2 ^ i = 2 ^ i * (2 * a + 1) + b := by rw [h2, Nat.mul_add]; omega
  rw [h3, h2, bit_at _ _ _ _ hb, bit_at _ _ _ _ hb]
  by_cases hj : j < i
  · rw [if_pos hj, if_pos hj, decide_eq_false (by omega), Bool.or_false]
  · rw [if_neg hj, if_neg hj]
    obtain ⟨t, rfl⟩ : ∃ t, j = i + t := ⟨j - i, by omega⟩
    rw [show i + t - i = t by omega]
    cases t with
    | zero => simp
    | succ t =>
      rw [Nat.testBit_succ, Nat.testBit_succ, show (2 * a) / 2 = a by omega, show (2 * a + 1) / 2 = a by omega, decide_eq_false (by omega), Bool.or_false]
theorem add_lt {k i n : Nat} (h : k.testBit i = false) (hk : k < 2 ^ n) (hi : i < n) : k + 2 ^ i < 2 ^ n := by
  have : k + 2 ^ i = k ||| 2 ^ i := by
    apply Nat.eq_of_testBit_eq
    intro j
    rw [add_bits h, Nat.testBit_or, Nat.testBit_two_pow]
  rw [this]
  exact Nat.or_lt_two_pow hk (Nat.pow_lt_pow_right (by omega) hi)

/-- The rights M are rs, some of them with fewer codes. -/
def Less (S : Sys) (rs M : List (Int × Int)) : Prop := M.length = rs.length ∧ ∀ j, j < rs.length → ∃ c k k' : Nat, rs[j]?.getD (0, 0) = ((c : Int), (k : Int)) ∧ M[j]?.getD (0, 0) = ((c : Int), (k' : Int)) ∧ c < S.cs.length ∧ k < 2 ^ S.codes.length ∧ k' < 2 ^ S.codes.length ∧ ∀ b, k'.testBit b = true → k.testBit b = true
theorem Less.refl {S : Sys} {rs : List (Int × Int)} (g : GoodR S rs) : Less S rs rs := ⟨rfl, fun j hj => by
  obtain ⟨c, k, e, h1, h2⟩ := g.2 j hj
  exact ⟨c, k, k, e, e, h1, h2, h2, fun _ h => h⟩⟩
theorem Less.good {S : Sys} {rs M : List (Int × Int)} (g : GoodR S rs) (h : Less S rs M) : GoodR S M :=
  ⟨by rw [h.1]; exact g.1, fun j hj => by
    obtain ⟨c, k, k', _, e, h1, _, h3, _⟩ := h.2 j (by rw [← h.1]; exact hj)
    exact ⟨c, k', e, h1, h3⟩⟩
theorem Less.set {S : Sys} {rs M : List (Int × Int)} (h : Less S rs M) {j : Nat} (hj : j < rs.length) {c k' i : Nat} (e : M[j]?.getD (0, 0) = ((c : Int), (k' : Int))) (hi : k'.testBit i = true) : Less S rs (M.set j ((c : Int), ((k' - 2 ^ i : Nat) : Int))) := by
  refine ⟨by rw [List.length_set]; exact h.1, fun t ht => ?_⟩
  obtain ⟨c1, k1, k2, h1, h2, h3, h4, h5, h6⟩ := h.2 t ht
  by_cases htj : t = j
  · subst htj
    rw [e] at h2
    simp only [Prod.mk.injEq, Int.natCast_inj] at h2
    obtain ⟨rfl, rfl⟩ := h2
    refine ⟨c, k1, k' - 2 ^ i, h1, ?_, h3, h4, Nat.lt_of_le_of_lt (Nat.sub_le _ _) h5, fun b hb => h6 b (sub_bits hi b hb)⟩
    rw [List.getElem?_set_self (by rw [h.1]; exact ht)]
    rfl
  · refine ⟨c1, k1, k2, h1, ?_, h3, h4, h5, h6⟩
    rw [List.getElem?_set_ne (fun e => htj e.symm)]
    exact h2
theorem Less.may {S : Sys} {rs M : List (Int × Int)} (h : Less S rs M) {c f f' : Nat} (hf : ∀ b, f'.testBit b = true → f.testBit b = true) (hm : mayL S rs c f = true) : mayL S M c f' = true := by
  rw [mayL_iff] at hm ⊢
  obtain ⟨r, hr, hm⟩ := hm
  obtain ⟨j, hj, rfl⟩ := List.mem_iff_getElem.1 hr
  obtain ⟨c1, k1, k2, h1, h2, h3, h4, h5, h6⟩ := h.2 j hj
  have hj' : j < M.length := by rw [h.1]; exact hj
  refine ⟨M[j], List.getElem_mem hj', ?_⟩
  rw [List.getElem?_eq_getElem hj] at h1
  rw [List.getElem?_eq_getElem hj'] at h2
  simp only [Option.getD_some] at h1 h2
  rw [h1, mayB_iff] at hm
  rw [h2, mayB_iff]
  simp only [natR, Int.toNat_natCast] at hm ⊢
  refine ⟨hm.1, fun b hb => ?_⟩
  have := hm.2 b (h6 b hb)
  cases hx : f'.testBit b with
  | false => rfl
  | true => rw [hf b hx] at this; cases this
theorem mayL_more {S : Sys} {M : List (Int × Int)} {c f : Nat} (x : Int × Int) (h : mayL S M c f = true) : mayL S (M ++ [x]) c f = true := by
  rw [mayL_append, h]; rfl
theorem goodR_snoc {S : Sys} {M : List (Int × Int)} (g : GoodR S M) (h : M.length < 40) {c k : Nat} (hc : c < S.cs.length) (hk : k < 2 ^ S.codes.length) : GoodR S (M ++ [((c : Int), (k : Int))]) :=
  goodR_append g (goodR_mem (by simp) (by intro x hx; rw [List.mem_singleton] at hx; exact ⟨c, k, hx, hc, hk⟩)) (by simp; omega)

theorem flat_get2 : ∀ (M : List (Int × Int)) (j : Nat) (h : j < M.length), (M.flatMap rtCells)[j * 2]? = some (.int .i64 M[j].1) ∧ (M.flatMap rtCells)[j * 2 + 1]? = some (.int .i64 M[j].2)
  | [], _, h => by simp at h
  | r :: M, 0, _ => by simp [rtCells]
  | r :: M, j + 1, h => by
    obtain ⟨h1, h2⟩ := flat_get2 M j (by simpa using h)
    rw [show (j + 1) * 2 = (j * 2) + 2 by omega, show j * 2 + 2 + 1 = (j * 2 + 1) + 2 by omega]
    simpa [rtCells] using ⟨h1, h2⟩
theorem flat_set2 : ∀ (M : List (Int × Int)) (j : Nat) (_ : j < M.length) (c y : Int), M[j]?.getD (0, 0) = (c, (M[j]?.getD (0, 0)).2) → (M.flatMap rtCells).set (j * 2 + 1) (.int .i64 y) = (M.set j (c, y)).flatMap rtCells
  | [], _, h, _, _, _ => by simp at h
  | r :: M, 0, _, c, y, e => by
    simp at e
    obtain ⟨r1, r2⟩ := r
    simp only [Prod.mk.injEq, and_true] at e
    subst e
    simp [rtCells]
  | r :: M, j + 1, h, c, y, e => by
    have := flat_set2 M j (by simpa using h) c y (by simpa using e)
    rw [show (j + 1) * 2 + 1 = (j * 2 + 1) + 2 by omega]
    simp only [List.flatMap_cons, List.set_cons_succ, rtCells, List.cons_append, List.nil_append]
    rw [← this]
/-- A right of an own row, read and written. -/
theorem own_right {w : World} {base : Nat} {v : Value} {m : Nat} {M : List (Int × Int)} (h : w.ownsRow base 64 2 v m (M.flatMap rtCells)) (hm : M.length = m) {j : Nat} (hj : j < m) {c k : Int} (e : M[j]?.getD (0, 0) = (c, k)) :
    ∃ g cap, v = .slice (some ⟨g, 0, none⟩) m cap ∧ base ≤ g ∧ g < w.heap.size ∧ w.cell? ⟨g, j * 2, none⟩ = some (.int .i64 c) ∧ w.cell? ⟨g, j * 2 + 1, none⟩ = some (.int .i64 k) ∧ w.frozen? ⟨g, j * 2 + 1, none⟩ = false ∧
      ∀ y : Int, (w.setCell ⟨g, j * 2 + 1, none⟩ (.int .i64 y)).ownsRow base 64 2 v m ((M.set j (c, y)).flatMap rtCells) := by
  have hjm : j < M.length := by rw [hm]; exact hj
  rcases h.2 with ⟨rfl, h0⟩ | ⟨g, cap, cur, rfl, hb, hg, _, _, hs, ht⟩
  · omega
  · have e' : M[j] = (c, k) := by rw [List.getElem?_eq_getElem hjm] at e; exact e
    obtain ⟨f1, f2⟩ := flat_get2 M j hjm
    rw [e'] at f1 f2
    have hlt : g < w.heap.size := by
      rcases Nat.lt_or_ge g w.heap.size with h' | h'
      · exact h'
      · rw [Array.getElem?_eq_none h'] at hg; cases hg
    refine ⟨g, cap, rfl, hb, hlt, ?_, ?_, h.frozenAt _, fun y => ?_⟩
    · rw [h.cellAt _ (by omega)]; exact f1
    · rw [h.cellAt _ (by omega)]; exact f2
    · have := h.stored (j * 2 + 1) (.int .i64 y)
      rw [flat_set2 M j hjm c y (by rw [e])] at this
      exact this.1
end Go.Proofs.YtjfdfhnfcpfmcaaGreatDoor

/-
  Rights in another order, with weaker ones added: the mathematics of it.
-/
namespace Go.Proofs.YtjfdfhnfcpfmcaaGreatDoor
open Go.RowKit RG

theorem mayL_mem {S : Sys} {ra rb : List (Int × Int)} (h : ∀ x, x ∈ ra ↔ x ∈ rb) (c f : Nat) : mayL S ra c f = mayL S rb c f := by
  rw [Bool.eq_iff_iff, mayL_iff, mayL_iff]
  exact ⟨fun ⟨r, hr, hm⟩ => ⟨r, (h r).1 hr, hm⟩, fun ⟨r, hr, hm⟩ => ⟨r, (h r).2 hr, hm⟩⟩
theorem mayL_weaker {S : Sys} (gd : Good S) {M : List (Int × Int)} (gM : GoodR S M) {k : Int × Int} (hk : k ∈ M) {c n : Nat} (hc : c < S.cs.length) (hn : n < 2 ^ S.codes.length) (hg : Ge S (natR k) (c, n)) (a b : Nat) :
    mayL S (M ++ [k, ((c : Int), (n : Int))]) a b = mayL S M a b := by
  rw [Bool.eq_iff_iff, mayL_iff, mayL_iff]
  constructor
  · rintro ⟨r, hr, hm⟩
    rcases List.mem_append.1 hr with hr | hr
    · exact ⟨r, hr, hm⟩
    · simp only [List.mem_cons, List.not_mem_nil, or_false] at hr
      rcases hr with rfl | rfl
      · exact ⟨r, hk, hm⟩
      · exact ⟨k, hk, mayB_ge gd (okR_of gd gM hk) ⟨hc, hn⟩ hg (by simpa [natR] using hm)⟩
  · rintro ⟨r, hr, hm⟩
    exact ⟨r, List.mem_append.2 (.inl hr), hm⟩
/-- Lists that allow the same have one form. -/
theorem form_order {S : Sys} (gd : Good S) {rs M : List (Int × Int)} (g1 : GoodR S rs) (g2 : GoodR S M) (h : ∀ c f, mayL S M c f = mayL S rs c f) {L1 L2 : List (Int × Int)} (h1 : FormP S.cs S.cs.length (· ∈ rs) L1) (h2 : FormP S.cs S.cs.length (· ∈ M) L2) : L1 = L2 :=
  (form_same gd g1 g2 h1 h2).2 fun c f _ _ => (h c f).symm
/-- The list with a right put in at a place. -/
def putAt (M : List (Int × Int)) (a : Nat) (x : Int × Int) : List (Int × Int) := M.take a ++ [x] ++ M.drop a
theorem putAt_len {M : List (Int × Int)} {a : Nat} (x : Int × Int) : (putAt M a x).length = M.length + 1 := by
  unfold putAt
  simp only [List.length_append, List.length_take, List.length_drop, List.length_cons, List.length_nil]
  omega
theorem putAt_mem {M : List (Int × Int)} {a : Nat} {x y : Int × Int} : y ∈ putAt M a x ↔ y ∈ M ∨ y = x := by
  unfold putAt
  rw [List.mem_append, List.mem_append, List.mem_singleton]
  have : y ∈ M ↔ y ∈ M.take a ∨ y ∈ M.drop a := by
    conv => lhs; rw [← List.take_append_drop a M]
    rw [List.mem_append]
  rw [this]
  constructor
  · rintro ((h | h) | h)
    · exact .inl (.inl h)
    · exact .inr h
    · exact .inl (.inr h)
  · rintro ((h | h) | h)
    · exact .inl (.inl h)
    · exact .inr h
    · exact .inl (.inr h)
theorem goodR_put {S : Sys} {rs M : List (Int × Int)} (g : GoodR S rs) {i : Nat} (hi : i ≤ rs.length) (hl : M.length = i) (h : ∀ y, y ∈ M ↔ y ∈ rs.take i) : GoodR S M :=
  goodR_sub g (by have := g.1; omega) fun x hx => List.mem_of_mem_take ((h x).1 hx)
theorem putAt_step {rs M : List (Int × Int)} {i a : Nat} (hi : i < rs.length) (h : ∀ y, y ∈ M ↔ y ∈ rs.take i) : ∀ y, y ∈ putAt M a (rs[i]?.getD (0, 0)) ↔ y ∈ rs.take (i + 1) := by
  intro y
  rw [putAt_mem, h, List.getElem?_eq_getElem hi, List.take_succ_eq_append_getElem hi, List.mem_append, List.mem_singleton]
  rfl
end Go.Proofs.YtjfdfhnfcpfmcaaGreatDoor

/-
  What the reference reads is what the program reads: the mathematics of it.
-/
namespace Go.Proofs.YtjfdfhnfcpfmcaaGreatDoor
open Go.RowKit RG

/-- The codes of parts, in any order, none of them twice. -/
def codesQ (codes : List ByteArray) : List ByteArray → Nat → Option Nat
  | [], c => some c
  | p :: r, c => if idxC codes p < 0 ∨ c.testBit (idxC codes p).toNat = true then none else codesQ codes r (c + 2 ^ (idxC codes p).toNat)
/-- The right that parts look like. -/
def rightQ (S : Sys) (ps : List ByteArray) : Option (Int × Nat) := match codesQ S.codes (ps.drop 1) 0 with
  | none => none
  | some k => if idxN S.cs (ps[0]?.getD ⟨#[]⟩) < 0 then none else some (idxN S.cs (ps[0]?.getD ⟨#[]⟩), k)
def readQ (S : Sys) : List ByteArray → Option (List (Int × Nat))
  | [] => some []
  | w :: r => match rightQ S (splitL 46 w) with
    | none => none
    | some x => (readQ S r).map (x :: ·)
/-- What the reference reads. -/
def readG (S : Sys) (s : ByteArray) : List (Int × Nat) × Int :=
  if openF S [] ≠ 0 then ([], openF S []) else if 7000 < s.size then ([], 3) else if eqS s ⟨#[45]⟩ = true then ([], 0) else match readQ S (splitL 32 s) with
    | none => ([], 6)
    | some L => if 40 < L.length then ([], 6) else if eqS (textB S (L.map rI)) s = true then (L, 0) else ([], 6)
theorem add_or {k i : Nat} (h : k.testBit i = false) : k + 2 ^ i = k ||| 2 ^ i := by
  apply Nat.eq_of_testBit_eq
  intro j
  rw [add_bits h, Nat.testBit_or, Nat.testBit_two_pow]
theorem codesQ_up {S : Sys} (gd : Good S) : ∀ (os : List Nat) (c : Nat), (∀ o ∈ os, o < S.codes.length ∧ c.testBit o = false) → os.Pairwise (· < ·) → codesQ S.codes (os.map fun o => S.codes[o]?.getD ⟨#[]⟩) c = some (setOf os c)
  | [], _, _, _ => rfl
  | o :: os, c, h, hp => by
    have ho := h o (List.mem_cons_self ..)
    rw [List.pairwise_cons] at hp
    have e : ((o : Int)).toNat = o := by omega
    rw [List.map_cons, codesQ, idxC_at gd ho.1, e, ho.2, if_neg (by rintro (h | h); omega; cases h), add_or ho.2]
    refine codesQ_up gd os _ (fun x hx => ⟨(h x (List.mem_cons_of_mem _ hx)).1, ?_⟩) hp.2
    rw [Nat.testBit_or, Nat.testBit_two_pow, (h x (List.mem_cons_of_mem _ hx)).2, Bool.false_or, decide_eq_false_iff_not]
    have := hp.1 x hx
    omega
theorem codesQ_lt {S : Sys} : ∀ (ps : List ByteArray) (c k : Nat), c < 2 ^ S.codes.length → codesQ S.codes ps c = some k → k < 2 ^ S.codes.length
  | [], c, k, h, e => by simp only [codesQ, Option.some.injEq] at e; omega
  | p :: r, c, k, h, e => by
    rw [codesQ] at e
    split at e
    · cases e
    · rename_i hn
      have hn1 : ¬ idxC S.codes p < 0 := fun h => hn (.inl h)
      have hn2 : c.testBit (idxC S.codes p).toNat = false := by
        cases hb : c.testBit (idxC S.codes p).toNat with
        | false => rfl
        | true => exact absurd (.inr hb) hn
      have hlt : (idxC S.codes p).toNat < S.codes.length := by
        rcases firstIdx_rng (fun j => eqS p (S.codes[j]?.getD ⟨#[]⟩)) S.codes.length with h1 | ⟨i, hi, h1⟩
        · have : idxC S.codes p = -1 := h1
          omega
        · have : idxC S.codes p = (i : Int) := h1
          omega
      exact codesQ_lt r _ k (add_lt hn2 h hlt) e
theorem rightQ_word {S : Sys} (gd : Good S) {r : Nat × Nat} (hr : r.1 < S.cs.length) (hk : r.2 < 2 ^ S.codes.length) : rightQ S (splitL 46 (wordB S r)) = some ((r.1 : Int), r.2) := by
  rw [split_word gd hr]
  have h0 : (partsL S r S.codes.length)[0]?.getD ⟨#[]⟩ = (S.cs[r.1]?.getD default).name := rfl
  have h1 : (partsL S r S.codes.length).drop 1 = (codesOf S r.2).map fun o => S.codes[o]?.getD ⟨#[]⟩ := rfl
  unfold rightQ
  rw [h0, h1, idxN_at gd hr, codesQ_up gd _ _ (fun o ho => ⟨(mem_codesOf.1 ho).1, by simp⟩) (codesOf_up S _), setOf_codesOf hk]
  exact if_neg (by omega)
theorem rightQ_good {S : Sys} {ps : List ByteArray} {x : Int × Nat} (h : rightQ S ps = some x) : ∃ i : Nat, x.1 = (i : Int) ∧ i < S.cs.length ∧ x.2 < 2 ^ S.codes.length := by
  unfold rightQ at h
  split at h
  · cases h
  · rename_i k hk
    split at h
    · cases h
    · rename_i hn
      simp only [Option.some.injEq] at h
      subst h
      rcases firstIdx_rng (fun j => eqS (S.cs[j]?.getD default).name (ps[0]?.getD ⟨#[]⟩)) S.cs.length with h1 | ⟨i, hi, h1⟩
      · have : idxN S.cs (ps[0]?.getD ⟨#[]⟩) = -1 := h1
        omega
      · exact ⟨i, h1, hi, codesQ_lt _ _ _ (Nat.two_pow_pos _) hk⟩
theorem readQ_good {S : Sys} : ∀ (ws : List ByteArray) (L : List (Int × Nat)), readQ S ws = some L → ∀ x ∈ L.map rI, ∃ c k : Nat, x = ((c : Int), (k : Int)) ∧ c < S.cs.length ∧ k < 2 ^ S.codes.length
  | [], L, h => by
    simp only [readQ, Option.some.injEq] at h
    subst h
    simp
  | w :: r, L, h => by
    rw [readQ] at h
    split at h
    · cases h
    · rename_i x hx
      obtain ⟨L', hL, rfl⟩ := Option.map_eq_some_iff.1 h
      obtain ⟨i, e1, e2, e3⟩ := rightQ_good hx
      intro y hy
      rw [List.map_cons] at hy
      rcases List.mem_cons.1 hy with rfl | hy
      · exact ⟨i, x.2, by unfold rI; rw [e1], e2, e3⟩
      · exact readQ_good r L' hL y hy
theorem readQ_words {S : Sys} (gd : Good S) : ∀ L : List (Int × Nat), (∀ x ∈ L, ∃ i : Nat, x.1 = (i : Int) ∧ i < S.cs.length ∧ x.2 < 2 ^ S.codes.length) → readQ S (wordsL S (L.map rI)) = some L
  | [], _ => rfl
  | x :: L, h => by
    obtain ⟨i, e1, e2, e3⟩ := h x (List.mem_cons_self ..)
    have e5 : natR (rI x) = (i, x.2) := by
      unfold natR rI
      rw [e1]
      simp
    show (match rightQ S (splitL 46 (wordB S (natR (rI x)))) with
      | none => none
      | some x => (readQ S (wordsL S (L.map rI))).map (x :: ·)) = _
    rw [e5, rightQ_word gd e2 e3, readQ_words gd L fun y hy => h y (List.mem_cons_of_mem _ hy), ← e1]
    rfl
theorem readG_readF (S : Sys) (s : ByteArray) : readG S s = readF S s := by
  unfold readG readF
  by_cases h1 : openF S [] ≠ 0
  · rw [if_pos h1, if_pos h1]
  · rw [if_neg h1, if_neg h1]
    have gd : Good S := (openF_good (Classical.not_not.1 h1)).1
    by_cases h2 : 7000 < s.size
    · rw [if_pos h2, if_pos h2]
    · rw [if_neg h2, if_neg h2]
      by_cases h3 : eqS s ⟨#[45]⟩ = true
      · rw [if_pos h3]
        unfold textF
        rw [if_pos h3]
      · rw [if_neg h3]
        cases h4 : textF S s with
        | some L =>
          obtain ⟨h5, h6⟩ := textB_textF h4
          unfold textF at h4
          rw [if_neg h3] at h4
          split at h4
          · cases h4
          · obtain ⟨h7, h8⟩ := words_readL _ _ h4
            have h9 : readQ S (splitL 32 s) = some L := by
              rw [← h7]
              refine readQ_words gd L fun x hx => ?_
              obtain ⟨c, k, e, hc, hk⟩ := h8 (rI x) (List.mem_map_of_mem hx)
              unfold rI at e
              simp only [Prod.mk.injEq, Int.natCast_inj] at e
              exact ⟨c, e.1, hc, by omega⟩
            have h10 := h6.1
            rw [List.length_map] at h10
            rw [h9]
            simp only
            rw [if_neg (by omega), if_pos (eqS_iff.2 h5)]
        | none =>
          cases h9 : readQ S (splitL 32 s) with
          | none => rfl
          | some L =>
            simp only
            by_cases h10 : 40 < L.length
            · rw [if_pos h10]
            · rw [if_neg h10]
              by_cases h11 : eqS (textB S (L.map rI)) s = true
              · exfalso
                have gr : GoodR S (L.map rI) := goodR_mem (by rw [List.length_map]; omega) (readQ_good _ _ h9)
                obtain ⟨M, hM, _⟩ := textF_textB gd gr
                rw [eqS_iff.1 h11, h4] at hM
                cases hM
              · rw [if_neg h11]
end Go.Proofs.YtjfdfhnfcpfmcaaGreatDoor
