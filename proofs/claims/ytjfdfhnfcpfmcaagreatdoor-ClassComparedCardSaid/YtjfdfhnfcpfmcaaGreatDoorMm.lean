import Derived.Test.YtjfdfhnfcpfmcaaGreatDoorMd
import Derived.Test.YtjfdfhnfcpfmcaaGreatDoorMl
import Derived.Test.YtjfdfhnfcpfmcaaGreatDoorMi
/-
  What a class covers, as plain mathematics: what visit finds, and what rounds over all classes find, is what can be reached.
-/
namespace Go.Proofs.YtjfdfhnfcpfmcaaGreatDoor
open Go.RowKit RG

/-- j can be reached from k. -/
def Reach (inc : Nat → List Int) (k j : Nat) : Prop := ∀ S : Nat → Prop, S k → (∀ i, S i → ∀ x ∈ inc i, S x.toNat) → S j
theorem Reach.refl (inc : Nat → List Int) (k : Nat) : Reach inc k k := fun _ h _ => h
theorem Reach.step {inc : Nat → List Int} {k i : Nat} (h : Reach inc k i) {x : Int} (hx : x ∈ inc i) : Reach inc k x.toNat := fun S h1 h2 => h2 i (h S h1 h2) x hx
theorem Reach.trans {inc : Nat → List Int} {k i j : Nat} (h : Reach inc k i) (h' : Reach inc i j) : Reach inc k j := fun S h1 h2 => h' S (h S h1 h2) h2

theorem testBit_or_pow (F k j : Nat) : (F ||| 2 ^ k).testBit j = (F.testBit j || decide (k = j)) := by
  rw [Nat.testBit_or, Nat.testBit_two_pow]
theorem foldl_inv {α β : Type} (P : β → Prop) (f : β → α → β) : ∀ (l : List α) (b : β), P b → (∀ b x, x ∈ l → P b → P (f b x)) → P (l.foldl f b) := by
  intro l
  induction l with
  | nil => intro b h _; exact h
  | cons x r ih =>
    intro b h hs
    exact ih (f b x) (hs b x (List.mem_cons_self ..) h) (fun b y hy hb => hs b y (List.mem_cons_of_mem _ hy) hb)
/-- visit finds only what can be reached. -/
theorem visit_sound (inc : Nat → List Int) : ∀ (fuel F k j : Nat), (visit inc fuel F k).testBit j = true → F.testBit j = true ∨ Reach inc k j := by
  intro fuel
  induction fuel with
  | zero => intro F k j h; exact .inl h
  | succ fuel ih =>
    intro F k j h
    unfold visit at h
    split at h
    · exact .inl h
    · have key : ∀ (l : List Int) (G : Nat), (∀ x ∈ l, x ∈ inc k) → (∀ i, G.testBit i = true → F.testBit i = true ∨ Reach inc k i) →
          ∀ i, (l.foldl (fun G x => visit inc fuel G x.toNat) G).testBit i = true → F.testBit i = true ∨ Reach inc k i := by
        intro l
        induction l with
        | nil => intro G _ hG i hi; exact hG i hi
        | cons x r ihl =>
          intro G hm hG i hi
          refine ihl _ (fun y hy => hm y (List.mem_cons_of_mem _ hy)) (fun i hi => ?_) i hi
          rcases ih G x.toNat i hi with h1 | h1
          · exact hG i h1
          · exact .inr (((Reach.refl inc k).step (hm x (List.mem_cons_self ..))).trans h1)
      refine key (inc k) _ (fun x hx => hx) (fun i hi => ?_) j h
      rw [testBit_or_pow] at hi
      simp only [Bool.or_eq_true, decide_eq_true_eq] at hi
      rcases hi with h1 | rfl
      · exact .inl h1
      · exact .inr (Reach.refl _ _)
/-- visit finds all that can be reached from what is new. -/
theorem visit_closed (inc : Nat → List Int) (n : Nat) (hinc : ∀ k, ∀ x ∈ inc k, 0 ≤ x ∧ x < (n : Int)) : ∀ (fuel F k : Nat), k < n → unset n F + 1 ≤ fuel →
    (visit inc fuel F k).testBit k = true ∧ ∀ j, (visit inc fuel F k).testBit j = true → F.testBit j = false → ∀ x ∈ inc j, (visit inc fuel F k).testBit x.toNat = true := by
  intro fuel
  induction fuel with
  | zero => intro F k _ h; omega
  | succ fuel ih =>
    intro F k hk hf
    unfold visit
    split
    · rename_i h
      exact ⟨h, fun j h1 h2 => by rw [h1] at h2; cases h2⟩
    · rename_i h
      have h : F.testBit k = false := by simpa using h
      have hlt := unset_lt hk h
      have key : ∀ (l : List Int) (G : Nat), (∀ x ∈ l, x ∈ inc k) → (∀ i, (F ||| 2 ^ k).testBit i = true → G.testBit i = true) →
          (∀ j, G.testBit j = true → F.testBit j = false → j ≠ k → ∀ x ∈ inc j, G.testBit x.toNat = true) →
          (∀ i, G.testBit i = true → (l.foldl (fun G x => visit inc fuel G x.toNat) G).testBit i = true) ∧ (∀ x ∈ l, (l.foldl (fun G x => visit inc fuel G x.toNat) G).testBit x.toNat = true) ∧
          (∀ j, (l.foldl (fun G x => visit inc fuel G x.toNat) G).testBit j = true → F.testBit j = false → j ≠ k → ∀ x ∈ inc j, (l.foldl (fun G x => visit inc fuel G x.toNat) G).testBit x.toNat = true) := by
        intro l
        induction l with
        | nil => intro G _ _ h3; exact ⟨fun _ h => h, ⟨fun x hx => (List.not_mem_nil hx).elim, h3⟩⟩
        | cons x r ihl =>
          intro G hm hs hc
          have hx := hinc k x (hm x (List.mem_cons_self ..))
          have hu : unset n G ≤ unset n (F ||| 2 ^ k) := unset_mono hs
          obtain ⟨v1, v2⟩ := ih G x.toNat (by omega) (by omega)
          have vs := visit_sup inc fuel G x.toNat
          obtain ⟨a, b, c⟩ := ihl (visit inc fuel G x.toNat) (fun y hy => hm y (List.mem_cons_of_mem _ hy)) (fun i hi => vs i (hs i hi)) (fun j h1 h2 h3 y hy => by
            by_cases hg : G.testBit j = true
            · exact vs _ (hc j hg h2 h3 y hy)
            · exact v2 j h1 (by simpa using hg) y hy)
          exact ⟨fun i hi => a i (vs i hi), fun y hy => by
            rcases List.mem_cons.1 hy with rfl | hy
            · exact a _ v1
            · exact b y hy, c⟩
      obtain ⟨a, b, c⟩ := key (inc k) (F ||| 2 ^ k) (fun x hx => hx) (fun _ h => h) (fun j h1 h2 h3 => by
        rw [testBit_or_pow, h2] at h1
        simp only [Bool.false_or, decide_eq_true_eq] at h1
        exact absurd h1.symm h3)
      refine ⟨a k (by rw [testBit_or_pow]; simp), fun j h1 h2 x hx => ?_⟩
      by_cases e : j = k
      · subst e; exact b x hx
      · exact c j h1 h2 e x hx
theorem cover_iff (cs : List Cls) (n k j : Nat) (hinc : ∀ k, ∀ x ∈ incOf cs k, 0 ≤ x ∧ x < (n : Int)) (hk : k < n) : (cover cs n k).testBit j = true ↔ Reach (incOf cs) k j := by
  unfold cover
  have hu := unset_le n 0
  obtain ⟨h1, h2⟩ := visit_closed (incOf cs) n hinc (n + 1) 0 k hk (by omega)
  constructor
  · intro h
    rcases visit_sound (incOf cs) (n + 1) 0 k j h with h' | h'
    · simp at h'
    · exact h'
  · intro h
    exact h (fun i => (visit (incOf cs) (n + 1) 0 k).testBit i = true) h1 (fun i hi x hx => h2 i hi (by simp) x hx)

/-! Rounds over all classes. -/
def addAll (l : List Int) (F : Nat) : Nat := l.foldl (fun G x => G ||| 2 ^ x.toNat) F
theorem addAll_bit (l : List Int) : ∀ (F j : Nat), (addAll l F).testBit j = true ↔ F.testBit j = true ∨ ∃ x ∈ l, x.toNat = j := by
  induction l with
  | nil => intro F j; simp [addAll]
  | cons x r ih =>
    intro F j
    show (addAll r (F ||| 2 ^ x.toNat)).testBit j = true ↔ _
    rw [ih, testBit_or_pow]
    simp only [Bool.or_eq_true, decide_eq_true_eq, List.mem_cons, exists_eq_or_imp]
    exact or_assoc
theorem addAll_lt {n : Nat} (l : List Int) (hl : ∀ x ∈ l, 0 ≤ x ∧ x < (n : Int)) : ∀ F, F < 2 ^ n → addAll l F < 2 ^ n := by
  induction l with
  | nil => intro F h; exact h
  | cons x r ih =>
    intro F h
    have hx := hl x (List.mem_cons_self ..)
    exact ih (fun y hy => hl y (List.mem_cons_of_mem _ hy)) _ (Nat.or_lt_two_pow h (Nat.pow_lt_pow_right (by omega) (by omega)))
def stepC (inc : Nat → List Int) (i F : Nat) : Nat := if F.testBit i = true then addAll (inc i) F else F
theorem stepC_sup (inc : Nat → List Int) (i F j : Nat) (h : F.testBit j = true) : (stepC inc i F).testBit j = true := by
  unfold stepC
  split
  · exact (addAll_bit _ _ _).2 (.inl h)
  · exact h
def roundC (inc : Nat → List Int) : Nat → Nat → Nat
  | 0, F => F
  | m + 1, F => stepC inc m (roundC inc m F)
theorem roundC_sup (inc : Nat → List Int) : ∀ (m F j : Nat), F.testBit j = true → (roundC inc m F).testBit j = true := by
  intro m
  induction m with
  | zero => intro F j h; exact h
  | succ m ih => intro F j h; exact stepC_sup inc m _ j (ih F j h)
theorem roundC_lt (inc : Nat → List Int) (n : Nat) (hinc : ∀ k, ∀ x ∈ inc k, 0 ≤ x ∧ x < (n : Int)) : ∀ (m F : Nat), F < 2 ^ n → roundC inc m F < 2 ^ n := by
  intro m
  induction m with
  | zero => intro F h; exact h
  | succ m ih =>
    intro F h
    show stepC inc m (roundC inc m F) < 2 ^ n
    unfold stepC
    split
    · exact addAll_lt _ (hinc m) _ (ih F h)
    · exact ih F h
theorem roundC_inc (inc : Nat → List Int) : ∀ (m F i : Nat), i < m → F.testBit i = true → ∀ x ∈ inc i, (roundC inc m F).testBit x.toNat = true := by
  intro m
  induction m with
  | zero => intro F i h; omega
  | succ m ih =>
    intro F i hi hb x hx
    show (stepC inc m (roundC inc m F)).testBit x.toNat = true
    by_cases e : i = m
    · subst e
      unfold stepC
      rw [if_pos (roundC_sup inc i F i hb)]
      exact (addAll_bit _ _ _).2 (.inr ⟨x, hx, rfl⟩)
    · exact stepC_sup inc m _ _ (ih F i (by omega) hb x hx)
theorem roundC_sound (inc : Nat → List Int) (k : Nat) : ∀ (m F : Nat), (∀ j, F.testBit j = true → Reach inc k j) → ∀ j, (roundC inc m F).testBit j = true → Reach inc k j := by
  intro m
  induction m with
  | zero => intro F h; exact h
  | succ m ih =>
    intro F h j hj
    have hj : (stepC inc m (roundC inc m F)).testBit j = true := hj
    unfold stepC at hj
    split at hj
    · rename_i hm
      rcases (addAll_bit _ _ _).1 hj with h' | ⟨x, hx, rfl⟩
      · exact ih F h j h'
      · exact (ih F h m hm).step hx
    · exact ih F h j hj
def iterC (inc : Nat → List Int) (n : Nat) : Nat → Nat → Nat
  | 0, F => F
  | r + 1, F => roundC inc n (iterC inc n r F)
theorem iterC_lt (inc : Nat → List Int) (n : Nat) (hinc : ∀ k, ∀ x ∈ inc k, 0 ≤ x ∧ x < (n : Int)) (F : Nat) (hF : F < 2 ^ n) : ∀ r, iterC inc n r F < 2 ^ n := by
  intro r
  induction r with
  | zero => exact hF
  | succ r ih => exact roundC_lt inc n hinc n _ ih
theorem iterC_sup (inc : Nat → List Int) (n F j : Nat) (h : F.testBit j = true) : ∀ r, (iterC inc n r F).testBit j = true := by
  intro r
  induction r with
  | zero => exact h
  | succ r ih => exact roundC_sup inc n _ j ih
theorem iterC_sound (inc : Nat → List Int) (n k F : Nat) (h : ∀ j, F.testBit j = true → Reach inc k j) : ∀ r j, (iterC inc n r F).testBit j = true → Reach inc k j := by
  intro r
  induction r with
  | zero => exact h
  | succ r ih => exact roundC_sound inc k n _ ih
/-- A round adds nothing, or fewer are missing behind it. -/
theorem round_grows (inc : Nat → List Int) (n : Nat) (hinc : ∀ k, ∀ x ∈ inc k, 0 ≤ x ∧ x < (n : Int)) (F : Nat) (hF : F < 2 ^ n) : roundC inc n F = F ∨ unset n (roundC inc n F) < unset n F := by
  by_cases h : ∃ j, j < n ∧ (roundC inc n F).testBit j = true ∧ F.testBit j = false
  · obtain ⟨j, hj, h1, h2⟩ := h
    right
    refine Nat.lt_of_le_of_lt (unset_mono (F := F ||| 2 ^ j) fun i hi => ?_) (unset_lt hj h2)
    rw [testBit_or_pow] at hi
    simp only [Bool.or_eq_true, decide_eq_true_eq] at hi
    rcases hi with hi | rfl
    · exact roundC_sup inc n F i hi
    · exact h1
  · left
    apply Nat.eq_of_testBit_eq
    intro i
    rw [Bool.eq_iff_iff]
    refine ⟨fun hi => ?_, fun hi => roundC_sup inc n F i hi⟩
    rcases Nat.lt_or_ge i n with hlt | hge
    · rcases hb : F.testBit i with _ | _
      · exact absurd ⟨i, hlt, hi, hb⟩ h
      · rfl
    · rw [Nat.testBit_lt_two_pow (Nat.lt_of_lt_of_le (roundC_lt inc n hinc n F hF) (Nat.pow_le_pow_right (by omega) hge))] at hi
      cases hi
theorem iterC_fix (inc : Nat → List Int) (n : Nat) (hinc : ∀ k, ∀ x ∈ inc k, 0 ≤ x ∧ x < (n : Int)) (F : Nat) (hF : F < 2 ^ n) : ∀ r, roundC inc n (iterC inc n r F) = iterC inc n r F ∨ unset n (iterC inc n r F) + r ≤ unset n F := by
  intro r
  induction r with
  | zero => right; exact Nat.le_refl _
  | succ r ih =>
    rcases ih with h | h
    · left
      show roundC inc n (roundC inc n (iterC inc n r F)) = roundC inc n (iterC inc n r F)
      rw [h, h]
    · rcases round_grows inc n hinc (iterC inc n r F) (iterC_lt inc n hinc F hF r) with h' | h'
      · left
        show roundC inc n (roundC inc n (iterC inc n r F)) = roundC inc n (iterC inc n r F)
        rw [h', h']
      · right
        show unset n (roundC inc n (iterC inc n r F)) + (r + 1) ≤ unset n F
        omega
/-- What the rounds find. -/
def covR (inc : Nat → List Int) (n k : Nat) : Nat := iterC inc n n (2 ^ k)
theorem covR_iff (inc : Nat → List Int) (n k j : Nat) (hinc : ∀ k, ∀ x ∈ inc k, 0 ≤ x ∧ x < (n : Int)) (hk : k < n) : (covR inc n k).testBit j = true ↔ Reach inc k j := by
  have hF : (2 : Nat) ^ k < 2 ^ n := Nat.pow_lt_pow_right (by omega) hk
  have hu : unset n (2 ^ k) < n := by
    have h1 := unset_lt (F := 0) hk (by simp)
    have h2 := unset_le n 0
    rw [Nat.zero_or] at h1
    omega
  have hfix : roundC inc n (covR inc n k) = covR inc n k := by
    rcases iterC_fix inc n hinc (2 ^ k) hF n with h | h
    · exact h
    · omega
  constructor
  · intro h
    refine iterC_sound inc n k (2 ^ k) (fun i hi => ?_) n j h
    rw [Nat.testBit_two_pow] at hi
    obtain rfl : k = i := by simpa using hi
    exact Reach.refl _ _
  · intro h
    have hin : ∀ i, (covR inc n k).testBit i = true → i < n := fun i hi => by
      rcases Nat.lt_or_ge i n with hlt | hge
      · exact hlt
      · have hlt : covR inc n k < 2 ^ i := Nat.lt_of_lt_of_le (iterC_lt inc n hinc _ hF n) (Nat.pow_le_pow_right (by omega) hge)
        rw [Nat.testBit_lt_two_pow hlt] at hi
        cases hi
    refine h (fun i => (covR inc n k).testBit i = true) (iterC_sup inc n _ k (by simp) n) (fun i hi x hx => ?_)
    rw [← hfix]
    exact roundC_inc inc n _ i (hin i hi) hi x hx
theorem covR_cover (cs : List Cls) (n k : Nat) (hinc : ∀ k, ∀ x ∈ incOf cs k, 0 ≤ x ∧ x < (n : Int)) (hk : k < n) : covR (incOf cs) n k = cover cs n k := by
  apply Nat.eq_of_testBit_eq
  intro j
  rw [Bool.eq_iff_iff, covR_iff _ _ _ _ hinc hk, cover_iff _ _ _ _ hinc hk]
end Go.Proofs.YtjfdfhnfcpfmcaaGreatDoor

/-
  The reference's Index and Cover.
-/
namespace Go.Proofs.YtjfdfhnfcpfmcaaGreatDoor
open Go.RowKit RG

theorem cls_at {w : World} {A : Option Addr} {n : Nat} {xs : List (List Value)} {cs : List Cls} (h : RdClss w A n xs cs) {j : Nat} (hj : j < n) :
    ∃ b off ia ic, A = some ⟨b, off, none⟩ ∧ b < w.heap.size ∧ w.cell? ⟨b, off + j * 5, none⟩ = some (.string (cs[j]?.getD default).name) ∧ w.cell? ⟨b, off + j * 5 + 1, none⟩ = some (.slice ia (incOf cs j).length ic) ∧
      w.cell? ⟨b, off + j * 5 + 2, none⟩ = some (.int .i64 (cs[j]?.getD default).needs) ∧ w.cell? ⟨b, off + j * 5 + 3, none⟩ = some (.int .i64 (cs[j]?.getD default).age) ∧ w.cell? ⟨b, off + j * 5 + 4, none⟩ = some (.int .i64 (cs[j]?.getD default).term) ∧
      RdInts w ia (incOf cs j).length (incOf cs j) ∧ (incOf cs j).length ≤ maxLen ∧ (cs[j]?.getD default).name.size ≤ maxLen := by
  obtain ⟨b, off, x0, x1, x2, x3, x4, rfl, hb, hx, c0, c1, c2, c3, c4⟩ := h.1.cells5 hj
  obtain ⟨ia, ic, e, hr, hm, hn⟩ := h.2.2.2 j hj
  rw [hx] at e
  simp only [List.cons.injEq, and_true] at e
  obtain ⟨rfl, rfl, rfl, rfl, rfl⟩ := e
  exact ⟨b, off, ia, ic, rfl, hb, c0, c1, c2, c3, c4, hr, hm, hn⟩

set_option maxHeartbeats 1000000 in
theorem IndexR_any (A : Option Addr) (n c : Nat) (xs : List ByteArray) (x : ByteArray) (w : World) (h : RdStrs w A n xs) (hm : n ≤ maxLen) :
    Calls Tryz.prog 72 #[.slice A n c, .string x] w fun e w' => e = .returned (.int .i64 (firstIdx (fun j => eqS (xs[j]?.getD ⟨#[]⟩) x) 0 n)) ∧ w = w' := by
  unfold maxLen at hm
  obtain ⟨p, hp⟩ : ∃ p : Nat → Bool, p = fun j => eqS (xs[j]?.getD ⟨#[]⟩) x := ⟨_, rfl⟩
  rw [← hp]
  have hpk : ∀ k, p k = eqS (xs[k]?.getD ⟨#[]⟩) x := fun k => by rw [hp]
  clear hp
  have HP := hide hpk
  clear hpk
  go_enter Tryz.func72, Tryz.ntmps72
  go_wp2
  go_loop [5] (fun s8 => ∃ k : Nat, k ≤ n ∧ s8 = .int .i64 k ∧ Hid (firstIdx p 0 n = firstIdx p k (n - k))) (fun i => n - (intOf i).toNat)
  case atStart => exact ⟨0, Nat.zero_le _, rfl, rfl⟩
  case round =>
    obtain ⟨k, hk, rfl, A1⟩ := hrel
    by_cases hlt : k < n
    · have hltz : (k : Int) < (n : Int) := by omega
      obtain ⟨b, off, rfl, hb, hc0⟩ := h.2.2 (by omega)
      have hl : k < xs.length := by rw [h.1]; exact hlt
      have c0 := hc0 k xs[k] (List.getElem?_eq_getElem hl)
      clear hc0
      have hpk := HP.out k
      rw [show xs[k]?.getD ⟨#[]⟩ = xs[k] by rw [List.getElem?_eq_getElem hl]; rfl] at hpk
      generalize xs[k] = s at *
      unfold eqS at hpk
      replace h := hide h
      cases hq : p k with
      | true =>
        rw [hq] at hpk
        have hfin : firstIdx p 0 n = k := by rw [A1.out, show n - k = (n - k - 1) + 1 by omega, firstIdx_hit hq]
        have HF := hide hfin
        have hpk' : (s.toList == x.toList) = true := hpk.symm
        clear hfin hq hpk
        go_wp2
        go_ret
        exact ⟨ret_int HF.out.symm, rfl⟩
      | false =>
        rw [hq] at hpk
        have hfin : firstIdx p 0 n = firstIdx p (k + 1) (n - (k + 1)) := by rw [A1.out, show n - k = (n - (k + 1)) + 1 by omega, firstIdx_miss hq]
        have HF := hide hfin
        have hpk' : (s.toList == x.toList) = false := hpk.symm
        clear hfin hq hpk
        go_wp2
        go_round
        case measure => simp [intOf]; omega
        case rel => exact ⟨k + 1, by omega, by go_num, HF.out⟩
    · have hltz : ¬ (k : Int) < (n : Int) := by omega
      have hfin : firstIdx p 0 n = -1 := by rw [A1.out, show n - k = 0 by omega]; rfl
      have HF := hide hfin
      clear hfin
      replace h := hide h
      go_wp2
      go_ret
      exact ⟨ret_int HF.out.symm, rfl⟩

/-- The cells of a row of bools. -/
def boolCells (n F : Nat) : Array Value := ((List.range n).map fun j => Value.bool (F.testBit j)).toArray
theorem boolCells_at {n F j : Nat} (hj : j < n) : (boolCells n F)[j]? = some (.bool (F.testBit j)) := by simp [boolCells, hj]
theorem boolCells_set {n F k : Nat} (hk : k < n) : (boolCells n F).setIfInBounds k (.bool true) = boolCells n (F ||| 2 ^ k) := by
  apply Array.ext_getElem?
  intro j
  rcases Nat.lt_or_ge j n with hj | hj
  · rw [boolCells_at hj, testBit_or_pow]
    by_cases e : k = j
    · subst e
      rw [Array.getElem?_setIfInBounds_self_of_lt (by simpa [boolCells] using hk)]; simp
    · rw [Array.getElem?_setIfInBounds_ne e, boolCells_at hj]; simp [e]
  · rw [Array.getElem?_eq_none (by simpa [boolCells] using hj), Array.getElem?_eq_none (by simpa [boolCells] using hj)]
theorem infoBool : (Tryz.prog.info? 4).map (fun i => (i.zero, i.size, i.bytes)) = some (some (.bool false), 1, 1) := by kernel_rfl
theorem mkBools (n : Nat) (w : World) (hn : n ≤ 1000000) :
    (Instr.makeSlice 65 (.int .i64 (n : Int)) (.int .i64 (n : Int))).run Tryz.prog w = .ok (.slice (some ⟨w.heap.size, 0, none⟩) n n) (w.alloc (.cells (boolCells n 0) 4)) := by
  obtain ⟨i, hi, hz, hs, hb⟩ := info_parts infoBool
  have hr := run_make (P := Tryz.prog) w 65 4 i (.bool false) Tryz.underlying65 hi hz .i64 .i64 n n (by omega) (by omega) (by rw [hb]; omega) (by omega)
  simp only [Int.toNat_natCast] at hr
  rw [hr, hs]
  have hm : madeCells (Value.bool false).cells (n * 1) = boolCells n 0 := by
    apply Array.ext
    · simp [madeCells, boolCells]
    · intro j h1 h2
      simp [madeCells, boolCells, Value.cells, Nat.mod_one]
  rw [hm]
/-- The slice v of bools has the bits of F. -/
def IsBools (n F : Nat) : Value → World → Prop := fun v w => ∃ g, v = .slice (some ⟨g, 0, none⟩) n n ∧ Blk w g 4 (boolCells n F)
theorem IsBools.stb (n F : Nat) : Stb (IsBools n F) := fun _ _ _ hb ⟨g, e, h⟩ => ⟨g, e, h.below hb h.lt⟩

theorem addAll_snoc (l : List Int) (x : Int) (F : Nat) : addAll (l ++ [x]) F = addAll l F ||| 2 ^ x.toNat := by simp [addAll]
set_option maxRecDepth 100000 in
set_option maxHeartbeats 8000000 in
theorem CoverR_any (A A2 : Option Addr) (cc c2 : Nat) (S : Sys) (k : Nat) (w : World) (h : InMem w A A2 cc c2 S) (hn : S.cs.length ≤ 12) (hinc : ∀ k, ∀ x ∈ incOf S.cs k, 0 ≤ x ∧ x < (S.cs.length : Int)) (hk : k < S.cs.length) :
    Calls Tryz.prog 54 #[.agg #[.slice A S.cs.length cc, .slice A2 S.codes.length c2], .int .i64 k] w fun e w' => (∃ v, e = .returned v ∧ IsBools S.cs.length (cover S.cs S.cs.length k) v w') ∧ Below w.heap.size w w' := by
  rw [← covR_cover S.cs S.cs.length k hinc hk]
  unfold covR
  obtain ⟨xs, hcl⟩ := h.cls
  clear h
  replace hinc := hide hinc
  generalize hcs : S.cs = cs at *
  generalize S.codes.length = n2 at *
  generalize hN : cs.length = n at *
  replace hcl := hide hcl
  have hmk := fun W => mkBools n W (by omega)
  have hkz : (k : Int) < (n : Int) := by omega
  have hk0 : (0 : Int) ≤ (k : Int) := by omega
  clear hcs hN
  have hck : (boolCells n 0)[k]? = some (.bool ((0 : Nat).testBit k)) := boolCells_at hk
  go_enter Tryz.func54, Tryz.ntmps54
  go_upto_region 3 with (fail)
  rw [boolCells_set hk, Nat.zero_or]
  have hB : Below w.heap.size w ((w.alloc (.cells #[.slice A n cc, .slice A2 n2 c2] 38)).alloc (.cells (boolCells n (2 ^ k)) 4)) := ((Below.refl _ _).alloc (Nat.le_refl _) _).alloc (by simp) _
  have hS : Blk ((w.alloc (.cells #[.slice A n cc, .slice A2 n2 c2] 38)).alloc (.cells (boolCells n (2 ^ k)) 4)) w.heap.size 38 #[.slice A n cc, .slice A2 n2 c2] := (Blk.new_ rfl).alloc _
  have hO : Blk ((w.alloc (.cells #[.slice A n cc, .slice A2 n2 c2] 38)).alloc (.cells (boolCells n (2 ^ k)) 4)) (w.heap.size + 1) 4 (boolCells n (2 ^ k)) := Blk.new_ (by simp)
  generalize ((w.alloc (.cells #[.slice A n cc, .slice A2 n2 c2] 38)).alloc (.cells (boolCells n (2 ^ k)) 4)) = w0 at *
  replace hB := hide hB
  replace hS := hide hS
  replace hO := hide hO
  clear hmk hck hkz hk0
  go_wp2
  go_loopg [6] n (fun g i wr => ∃ r : Nat, r ≤ n ∧ n - r ≤ g ∧ i = .int .i64 r ∧ Hid (Below w.heap.size w wr) ∧ Hid (Blk wr w.heap.size 38 #[.slice A n cc, .slice A2 n2 c2]) ∧ Hid (Blk wr (w.heap.size + 1) 4 (boolCells n (iterC (incOf cs) n r (2 ^ k)))))
  case atStart => exact ⟨0, Nat.zero_le _, by omega, rfl, hB, hS, hO⟩
  case round =>
    clear hB hS hO
    obtain ⟨r, hr, hg, rfl, BW, SW, OW⟩ := hrel
    have s0 : wr.cell? ⟨w.heap.size, 0, none⟩ = some (.slice A n cc) := SW.out.cell 0
    by_cases hlt : r < n
    · have hltz : (r : Int) < (n : Int) := by omega
      obtain ⟨wo, rfl⟩ : ∃ wo : World, wo = wr := ⟨_, rfl⟩
      go_wp2
      clear s0
      generalize hF : iterC (incOf cs) n r (2 ^ k) = F at *
      have hnext := hide (show iterC (incOf cs) n (r + 1) (2 ^ k) = roundC (incOf cs) n F by rw [← hF]; rfl)
      clear hF
      go_loopg [7] n (fun g2 i wr => ∃ m : Nat, m ≤ n ∧ n - m ≤ g2 ∧ i = .int .i64 m ∧ Hid (Below w.heap.size w wr) ∧ Hid (Blk wr w.heap.size 38 #[.slice A n cc, .slice A2 n2 c2]) ∧ Hid (Blk wr (w.heap.size + 1) 4 (boolCells n (roundC (incOf cs) m F))))
      case atStart => exact ⟨0, Nat.zero_le _, by omega, rfl, BW, SW, OW⟩
      case round =>
        clear BW SW OW
        obtain ⟨m, hm, hg2, rfl, BW, SW, OW⟩ := hrel
        have s0 : wr.cell? ⟨w.heap.size, 0, none⟩ = some (.slice A n cc) := SW.out.cell 0
        by_cases hlt2 : m < n
        · have hltz2 : (m : Int) < (n : Int) := by omega
          obtain ⟨wo2, rfl⟩ : ∃ wo2 : World, wo2 = wr := ⟨_, rfl⟩
          go_wp2
          clear s0
          generalize hF2 : roundC (incOf cs) m F = F2 at *
          have hnext2 := hide (show roundC (incOf cs) (m + 1) F = stepC (incOf cs) m F2 by rw [← hF2]; rfl)
          clear hF2
          obtain ⟨b, off, ia, ic, rfl, hb, _, d1, _, _, _, hri, him, _⟩ := cls_at hcl.out hlt2
          have hinm := hinc.out m
          unfold maxLen at him
          obtain ⟨L, hL⟩ : ∃ L, incOf cs m = L := ⟨_, rfl⟩
          unfold stepC at hnext2
          rw [hL] at hri him hinm d1 hnext2
          clear hL
          replace hri := hide hri
          replace hinm := hide hinm
          replace d1 := hide d1
          have hm0 : (0 : Int) ≤ (m : Int) := by omega
          go_loopg [8] L.length (fun g3 i wr => ∃ q : Nat, q ≤ L.length ∧ L.length - q ≤ g3 ∧ i = .int .i64 q ∧ Hid (Below w.heap.size w wr) ∧ Hid (Blk wr w.heap.size 38 #[.slice (some ⟨b, off, none⟩) n cc, .slice A2 n2 c2]) ∧ Hid (Blk wr (w.heap.size + 1) 4 (boolCells n (addAll (L.take q) F2))) ∧ (F2.testBit m = true ∨ q = 0))
          case atStart => exact ⟨0, Nat.zero_le _, by omega, rfl, BW, SW, OW, .inr rfl⟩
          case round =>
            clear BW SW OW
            obtain ⟨q, hq, hg3, rfl, BW, SW, OW, hq0⟩ := hrel
            have s0 : wr.cell? ⟨w.heap.size, 0, none⟩ = some (.slice (some ⟨b, off, none⟩) n cc) := SW.out.cell 0
            have e1 : wr.cell? ⟨b, off + m * 5 + 1, none⟩ = some (.slice ia L.length ic) := (cellB BW.out hb).trans d1.out
            have o1 : wr.cell? ⟨w.heap.size + 1, m, none⟩ = some (.bool ((addAll (L.take q) F2).testBit m)) := by rw [OW.out.cell]; exact boolCells_at hlt2
            by_cases hlt3 : q < L.length
            · have hltz3 : (q : Int) < (L.length : Int) := by omega
              cases hbit : (addAll (L.take q) F2).testBit m with
              | true =>
                rw [hbit] at o1
                have hbF : F2.testBit m = true := by
                  rcases hq0 with h | rfl
                  · exact h
                  · simpa [addAll] using hbit
                obtain ⟨bi, offi, rfl, hbi, hci⟩ := hri.out.2 (by omega)
                have hx := hinm.out L[q] (List.getElem_mem hlt3)
                obtain ⟨x, hxe⟩ : ∃ x : Nat, L[q] = (x : Int) := ⟨L[q].toNat, by omega⟩
                have hxn : x < n := by omega
                have e2 : wr.cell? ⟨bi, offi + q, none⟩ = some (.int .i64 (x : Int)) := by
                  have := (cellB BW.out hbi).trans (hci q hlt3)
                  rw [List.getElem?_eq_getElem hlt3, hxe] at this
                  exact this
                have hxz : (x : Int) < (n : Int) := by omega
                have hx0 : (0 : Int) ≤ (x : Int) := by omega
                have hq1 : (0 : Int) ≤ (q : Int) := by omega
                have o2 : wr.cell? ⟨w.heap.size + 1, x, none⟩ = some (.bool ((addAll (L.take q) F2).testBit x)) := by rw [OW.out.cell]; exact boolCells_at hxn
                have fo := OW.out.frozen x
                have hnx : addAll (L.take (q + 1)) F2 = addAll (L.take q) F2 ||| 2 ^ x := by
                  rw [List.take_succ_eq_append_getElem hlt3, addAll_snoc, hxe]; rfl
                have OW2 := OW.out.set_ x (.bool true)
                rw [boolCells_set hxn, ← hnx] at OW2
                have SW2 := hide (SW.out.far (p := ⟨w.heap.size + 1, x, none⟩) (by simp) (.bool true))
                have BW2 := hide (BW.out.setCell (p := ⟨w.heap.size + 1, x, none⟩) (by simp) (.bool true))
                replace OW2 := hide OW2
                generalize (addAll (L.take q) F2).testBit x = ob at *
                clear hx hxe hci hnx hbit hq0 BW SW OW
                go_wp2
                go_roundg (L.length - (q + 1))
                case measure => omega
                case rel => exact ⟨q + 1, by omega, by omega, by go_num, BW2, SW2, OW2, .inl hbF⟩
              | false =>
                rw [hbit] at o1
                have hbF : F2.testBit m = false := by
                  rcases hb2 : F2.testBit m with _ | _
                  · rfl
                  · rw [(addAll_bit _ _ _).2 (.inl hb2)] at hbit; cases hbit
                have hq00 : q = 0 := by
                  rcases hq0 with h | h
                  · rw [hbF] at h; cases h
                  · exact h
                subst hq00
                have OW2 := OW.out
                rw [show addAll (L.take 0) F2 = F2 from rfl] at OW2
                have hst := hnext2.out
                rw [if_neg (by rw [hbF]; simp)] at hst
                rw [← hst] at OW2
                replace OW2 := hide OW2
                clear hst hq0 hbit OW
                go_wp2
                go_roundg (n - (m + 1))
                case measure => omega
                case rel => exact ⟨m + 1, by omega, by omega, by go_num, BW, SW, OW2⟩
            · obtain rfl : q = L.length := by omega
              have hst : roundC (incOf cs) (m + 1) F = addAll (L.take L.length) F2 := by
                rw [hnext2.out, List.take_length]
                rcases hq0 with h | h
                · rw [if_pos h]
                · have : L = [] := List.eq_nil_of_length_eq_zero h
                  subst this
                  split <;> rfl
              have OW2 := OW.out
              rw [← hst] at OW2
              replace OW2 := hide OW2
              clear hst hq0 OW
              go_wp2
              go_roundg (n - (m + 1))
              case measure => omega
              case rel => exact ⟨m + 1, by omega, by omega, by go_num, BW, SW, OW2⟩
        · obtain rfl : m = n := by omega
          rw [← hnext.out] at OW
          go_wp2
          go_roundg (m - (r + 1))
          case measure => omega
          case rel => exact ⟨r + 1, by omega, by omega, by go_num, BW, SW, OW⟩
    · obtain rfl : r = n := by omega
      go_wp2
      go_ret
      exact ⟨⟨_, rfl, _, rfl, OW.out⟩, BW.out⟩
end Go.Proofs.YtjfdfhnfcpfmcaaGreatDoor

/-
  The reference's one.
-/
namespace Go.Proofs.YtjfdfhnfcpfmcaaGreatDoor
open Go.RowKit RG

set_option maxRecDepth 100000 in
set_option maxHeartbeats 4000000 in
theorem oneR_any (A A2 : Option Addr) (cc c2 : Nat) (S : Sys) (i : Nat) (w : World) (h : InMem w A A2 cc c2 S) (hi : i < S.cs.length) :
    Calls Tryz.prog 71 #[.agg #[.slice A S.cs.length cc, .slice A2 S.codes.length c2], .int .i64 i] w fun e w' => e = .returned (.int .i64 (clsErr S.cs i (S.cs[i]?.getD default))) ∧ Below w.heap.size w w' := by
  obtain ⟨xs, hcl⟩ := h.cls
  clear h
  generalize hcs : S.cs = cs at *
  generalize S.codes.length = n2 at *
  have hlen : cs.length = cs.length := rfl
  obtain ⟨n, hN⟩ : ∃ n, cs.length = n := ⟨_, rfl⟩
  rw [hN] at hcl hi ⊢
  have hnm := hcl.2.2.1
  unfold maxLen at hnm
  obtain ⟨b, off, ia, ic, rfl, hb, d0, d1, d2, d3, d4, hri, him, hns⟩ := cls_at hcl hi
  obtain ⟨c, hc⟩ : ∃ c, cs[i]?.getD default = c := ⟨_, rfl⟩
  have hinc : incOf cs i = c.inc := by unfold incOf; rw [hc]
  rw [hinc] at d1 hri him
  rw [hc] at d0 d2 d3 d4 hns ⊢
  clear hinc hc hcs hlen
  obtain ⟨q, hq⟩ : ∃ q, clsErr cs i c = q := ⟨_, rfl⟩
  rw [hq]
  unfold clsErr at hq
  rw [hN] at hq
  replace hq := hide hq
  replace hN := hide hN
  replace hri := hide hri
  replace hcl := hide hcl
  unfold maxLen at him
  have hiz : (i : Int) < (n : Int) := by omega
  have hi0 : (0 : Int) ≤ (i : Int) := by omega
  have hbne : b ≠ w.heap.size := Nat.ne_of_lt hb
  go_enter Tryz.func71, Tryz.ntmps71
  go_upto_region 2 with (fail)
  have hB : Below w.heap.size w ((w.alloc (.cells #[.slice (some ⟨b, off, none⟩) n cc, .slice A2 n2 c2] 38)).alloc (.cells #[.string c.name, .slice ia c.inc.length ic, .int .i64 c.needs, .int .i64 c.age, .int .i64 c.term] 93)) := ((Below.refl _ _).alloc (Nat.le_refl _) _).alloc (by simp) _
  have hS : Blk ((w.alloc (.cells #[.slice (some ⟨b, off, none⟩) n cc, .slice A2 n2 c2] 38)).alloc (.cells #[.string c.name, .slice ia c.inc.length ic, .int .i64 c.needs, .int .i64 c.age, .int .i64 c.term] 93)) w.heap.size 38 #[.slice (some ⟨b, off, none⟩) n cc, .slice A2 n2 c2] := (Blk.new_ rfl).alloc _
  have hC : Blk ((w.alloc (.cells #[.slice (some ⟨b, off, none⟩) n cc, .slice A2 n2 c2] 38)).alloc (.cells #[.string c.name, .slice ia c.inc.length ic, .int .i64 c.needs, .int .i64 c.age, .int .i64 c.term] 93)) (w.heap.size + 1) 93 #[.string c.name, .slice ia c.inc.length ic, .int .i64 c.needs, .int .i64 c.age, .int .i64 c.term] := Blk.new_ (by simp)
  generalize ((w.alloc (.cells #[.slice (some ⟨b, off, none⟩) n cc, .slice A2 n2 c2] 38)).alloc (.cells #[.string c.name, .slice ia c.inc.length ic, .int .i64 c.needs, .int .i64 c.age, .int .i64 c.term] 93)) = w0 at *
  clear d0 d1 d2 d3 d4 hbne
  have c0 : w0.cell? ⟨w.heap.size + 1, 0, none⟩ = some (.string c.name) := hC.cell 0
  replace hB := hide hB
  replace hS := hide hS
  replace hC := hide hC
  go_wp2_with fail
  refine (NameR_any c.name _ hns).mono ?_
  rintro e w' ⟨rfl, rfl⟩
  clear c0
  cases hq1 : nameB c.name with
  | false =>
    have hr := hq.out
    rw [if_pos hq1] at hr
    subst hr
    clear hq hq1
    go_wp2
    go_ret
    exact ⟨rfl, hB.out⟩
  | true =>
    have hr := hq.out
    rw [if_neg (by rw [hq1]; simp)] at hr
    replace hq := hide hr
    clear hr hq1 hns
    obtain ⟨p, hp⟩ : ∃ p : Nat → Bool, p = fun j => eqS (cs[j]?.getD default).name c.name := ⟨_, rfl⟩
    have hpk : ∀ k, p k = eqS (cs[k]?.getD default).name c.name := fun k => by rw [hp]
    have hq2 := hq.out
    rw [← hp] at hq2
    replace hq := hide hq2
    replace hpk := hide hpk
    clear hq2 hp
    go_wp2
    go_loopg [6] i (fun g kv wr => ∃ k : Nat, k ≤ i ∧ i - k ≤ g ∧ kv = .int .i64 k ∧ Hid (Below w.heap.size w wr) ∧ Hid (Blk wr w.heap.size 38 #[.slice (some ⟨b, off, none⟩) n cc, .slice A2 n2 c2]) ∧
      Hid (Blk wr (w.heap.size + 1) 93 #[.string c.name, .slice ia c.inc.length ic, .int .i64 c.needs, .int .i64 c.age, .int .i64 c.term]) ∧ Hid (firstIdx p 0 i = firstIdx p k (i - k)))
    case atStart => exact ⟨0, Nat.zero_le _, by omega, rfl, hB, hS, hC, rfl⟩
    case round =>
      clear hB hS hC
      obtain ⟨k, hk, hg, rfl, BW, SW, CW, A1⟩ := hrel
      have s0 : wr.cell? ⟨w.heap.size, 0, none⟩ = some (.slice (some ⟨b, off, none⟩) n cc) := SW.out.cell 0
      by_cases hlt : k < i
      · have hltz : (k : Int) < (i : Int) := by omega
        have hk0 : (0 : Int) ≤ (k : Int) := by omega
        have hkn : (k : Int) < (n : Int) := by omega
        obtain ⟨b', off', _, _, e', _, n0, _⟩ := cls_at hcl.out (show k < n by omega)
        obtain ⟨rfl, rfl⟩ : b = b' ∧ off = off' := by
          injection e' with e'; injection e' with e1 e2; exact ⟨e1, e2⟩
        have n1 := (cellB BW.out hb).trans n0
        have n2' : wr.cell? ⟨w.heap.size + 1, 0, none⟩ = some (.string c.name) := CW.out.cell 0
        clear n0 e'
        have hpk' := hpk.out k
        generalize (cs[k]?.getD default).name = nm at *
        unfold eqS at hpk'
        cases hq2 : p k with
        | true =>
          rw [hq2] at hpk'
          have hr := hq.out
          rw [if_pos (by unfold anyIdx; rw [A1.out, show i - k = (i - k - 1) + 1 by omega, firstIdx_hit hq2]; simp)] at hr
          subst hr
          have hpk2 : (nm.toList == c.name.toList) = true := hpk'.symm
          clear hq hq2 hpk'
          go_wp2
          go_quiet (fail)
          go_wp2
          go_ret
          exact ⟨rfl, below_drewN BW.out _⟩
        | false =>
          rw [hq2] at hpk'
          have hfin : firstIdx p 0 i = firstIdx p (k + 1) (i - (k + 1)) := by rw [A1.out, show i - k = (i - (k + 1)) + 1 by omega, firstIdx_miss hq2]
          have HF := hide hfin
          have hpk2 : (nm.toList == c.name.toList) = false := hpk'.symm
          clear hfin hq2 hpk'
          go_wp2
          go_quiet (fail)
          go_wp2
          go_roundg (i - (k + 1))
          case measure => omega
          case rel => exact ⟨k + 1, by omega, by omega, by go_num, below_drewN BW.out _, Blk.drewN SW.out _, Blk.drewN CW.out _, HF.out⟩
      · obtain rfl : k = i := by omega
        have hany : anyIdx p k = false := by
          unfold anyIdx; rw [A1.out, show k - k = 0 by omega]; rfl
        have hr := hq.out
        rw [if_neg (by rw [hany]; simp)] at hr
        replace hq := hide hr
        have n1 : wr.cell? ⟨w.heap.size + 1, 1, none⟩ = some (.slice ia c.inc.length ic) := CW.out.cell 1
        have n2' : wr.cell? ⟨w.heap.size + 1, 2, none⟩ = some (.int .i64 c.needs) := CW.out.cell 2
        have n3 : wr.cell? ⟨w.heap.size + 1, 3, none⟩ = some (.int .i64 c.age) := CW.out.cell 3
        have n4 : wr.cell? ⟨w.heap.size + 1, 4, none⟩ = some (.int .i64 c.term) := CW.out.cell 4
        clear hany A1 hr hcl hpk hN SW CW
        by_cases h3 : n < c.inc.length
        · have hr := hq.out
          rw [if_pos h3] at hr
          subst hr
          have h3' : (n : Int) < (c.inc.length : Int) := by omega
          clear hq
          go_wp2
          go_ret
          exact ⟨rfl, BW.out⟩
        · have hr := hq.out
          rw [if_neg h3] at hr
          replace hq := hide hr
          have h3' : ¬ (n : Int) < (c.inc.length : Int) := by omega
          clear hr
          have hri2 := hri.out.below (show Below w.heap.size w wr from BW.out)
          replace hri2 := hide hri2
          obtain ⟨L, hL⟩ : ∃ L, c.inc = L := ⟨_, rfl⟩
          rw [hL] at hri2 him n1 hq h3 h3' ⊢
          clear hL hri
          go_wp2
          go_loop [8] (fun kv => ∃ m : Nat, m ≤ L.length ∧ kv = .int .i64 m ∧ (L.take m).all (inB 0 ((n : Int) - 1)) = true) (fun kv => L.length - (intOf kv).toNat)
          case atStart => exact ⟨0, Nat.zero_le _, rfl, rfl⟩
          case round =>
            obtain ⟨m, hm, rfl, hall⟩ := hrel
            by_cases hlt2 : m < L.length
            · have hltz : (m : Int) < (L.length : Int) := by omega
              have hm0 : (0 : Int) ≤ (m : Int) := by omega
              obtain ⟨bi, offi, rfl, hbi, hci⟩ := hri2.out.2 (by omega)
              have e2 := hci m hlt2
              clear hci
              rw [List.getElem?_eq_getElem hlt2] at e2
              simp only [Option.getD_some] at e2
              have hts := hide (all_take_succ (inB 0 ((n : Int) - 1)) L m hlt2 hall)
              have hfs := hide (all_false_at (inB 0 ((n : Int) - 1)) L m hlt2)
              clear hall
              generalize L[m] = x at *
              cases hb1 : inB 0 ((n : Int) - 1) x with
              | true =>
                have hn := hide (hts.out hb1)
                go_wp2_with fail
                refine (in_any x 0 ((n : Int) - 1) _).mono ?_
                rintro e w' ⟨rfl, rfl⟩
                rw [hb1]
                clear hts hfs hb1
                go_wp2
                go_round
                case rel => exact ⟨m + 1, by omega, by go_num, hn.out⟩
                case measure => simp [intOf]; omega
              | false =>
                have hr := hq.out
                rw [if_pos (by rw [hfs.out hb1]; simp)] at hr
                subst hr
                go_wp2_with fail
                refine (in_any x 0 ((n : Int) - 1) _).mono ?_
                rintro e w' ⟨rfl, rfl⟩
                rw [hb1]
                clear hts hfs hb1 hq
                go_wp2
                go_ret
                exact ⟨rfl, BW.out⟩
            · obtain rfl : m = L.length := by omega
              rw [List.take_length] at hall
              have hr := hq.out
              cases hb1 : inB (-1) ((n : Int) - 1) c.needs with
              | false =>
                rw [if_pos (by rw [hb1]; simp)] at hr
                subst hr
                clear hq hall
                go_wp2_with fail
                refine (in_any c.needs (-1) ((n : Int) - 1) _).mono ?_
                rintro e w' ⟨rfl, rfl⟩
                rw [hb1]
                go_wp2
                go_ret
                exact ⟨rfl, BW.out⟩
              | true =>
                rw [if_neg (by rw [hb1, hall]; simp)] at hr
                clear hq hall
                by_cases h5 : c.needs = k
                · rw [if_pos h5] at hr
                  subst hr
                  have h5' : (c.needs == (k : Int)) = true := by rw [beq_iff_eq]; exact h5
                  replace h5 := hide h5
                  go_wp2_with fail
                  refine (in_any c.needs (-1) ((n : Int) - 1) _).mono ?_
                  rintro e w' ⟨rfl, rfl⟩
                  rw [hb1]
                  clear hb1
                  go_wp2
                  go_ret
                  exact ⟨rfl, BW.out⟩
                · rw [if_neg h5] at hr
                  have h5' : (c.needs == (k : Int)) = false := by rw [beq_eq_false_iff_ne]; exact h5
                  replace h5 := hide h5
                  replace hr := hide hr
                  go_wp2_with fail
                  refine (in_any c.needs (-1) ((n : Int) - 1) _).mono ?_
                  rintro e w' ⟨rfl, rfl⟩
                  rw [hb1]
                  clear hb1
                  go_wp2_with fail
                  refine (in_any c.age 0 100 _).mono ?_
                  rintro e w' ⟨rfl, rfl⟩
                  have hr := hr.out
                  cases hb2 : inB 0 100 c.age with
                  | false =>
                    rw [if_pos (by rw [hb2]; simp)] at hr
                    subst hr
                    clear hb2
                    go_wp2
                    go_ret
                    exact ⟨rfl, BW.out⟩
                  | true =>
                    replace hr := hide hr
                    go_wp2_with fail
                    refine (in_any c.term 0 100 _).mono ?_
                    rintro e w' ⟨rfl, rfl⟩
                    have hr := hr.out
                    cases hb3 : inB 0 100 c.term with
                    | false =>
                      rw [if_pos (by rw [hb3]; simp)] at hr
                      subst hr
                      clear hb2 hb3
                      go_wp2
                      go_ret
                      exact ⟨rfl, BW.out⟩
                    | true =>
                      rw [if_neg (by rw [hb2, hb3]; simp)] at hr
                      subst hr
                      clear hb2 hb3
                      go_wp2
                      go_ret
                      exact ⟨rfl, BW.out⟩
end Go.Proofs.YtjfdfhnfcpfmcaaGreatDoor

/-
  The reference's Check.
-/
namespace Go.Proofs.YtjfdfhnfcpfmcaaGreatDoor
open Go.RowKit RG

theorem firstErr_hit {err : Nat → Int} {k m : Nat} (h : err k ≠ 0) : firstErr err k (m + 1) = ((k : Int), err k) := by simp [firstErr, h]
theorem firstErr_miss {err : Nat → Int} {k m : Nat} (h : err k = 0) : firstErr err k (m + 1) = firstErr err (k + 1) m := by simp [firstErr, h]
theorem firstErr_on {err : Nat → Int} {k n : Nat} (hk : k < n) (h : err k = 0) (h' : firstErr err 0 n = firstErr err k (n - k)) : firstErr err 0 n = firstErr err (k + 1) (n - (k + 1)) := by
  rw [h', show n - k = (n - (k + 1)) + 1 by omega, firstErr_miss h]
theorem firstErr_at {err : Nat → Int} {k n : Nat} (hk : k < n) (h : err k ≠ 0) (h' : firstErr err 0 n = firstErr err k (n - k)) : firstErr err 0 n = ((k : Int), err k) := by
  rw [h', show n - k = (n - (k + 1)) + 1 by omega, firstErr_hit h]
theorem firstErr_end {err : Nat → Int} {n : Nat} (h' : firstErr err 0 n = firstErr err n (n - n)) : firstErr err 0 n = (0, 0) := by
  rw [h', show n - n = 0 by omega]; rfl
theorem eqS_comm (a b : ByteArray) : eqS a b = eqS b a := by
  rw [Bool.eq_iff_iff, eqS_iff, eqS_iff]; exact eq_comm
theorem firstIdx_congr {p p' : Nat → Bool} : ∀ {k m : Nat}, (∀ j, k ≤ j → j < k + m → p j = p' j) → firstIdx p k m = firstIdx p' k m
  | _, 0, _ => rfl
  | k, m + 1, h => by
    unfold firstIdx
    rw [h k (by omega) (by omega), firstIdx_congr fun j h1 h2 => h j (by omega) (by omega)]
/-- The pointer to the element i of a row of bools. -/
def BoolAt (n F i : Nat) : Value → World → Prop := fun v w => ∃ g, v = .pointer (some ⟨g, i, none⟩) ∧ Blk w g 4 (boolCells n F)
theorem BoolAt.stb (n F i : Nat) : Stb (BoolAt n F i) := fun _ _ _ hb ⟨g, e, h⟩ => ⟨g, e, h.below hb h.lt⟩
/-- The box of the system. -/
abbrev SBox (wr : World) (p : Nat) (A A2 : Option Addr) (n cc n2 c2 : Nat) : Prop := Blk wr p 38 #[.slice A n cc, .slice A2 n2 c2]

set_option maxRecDepth 100000 in
set_option maxHeartbeats 8000000 in
theorem CheckR_any (A A2 : Option Addr) (cc c2 : Nat) (S : Sys) (w : World) (h : InMem w A A2 cc c2 S) :
    Calls Tryz.prog 30 #[.agg #[.slice A S.cs.length cc, .slice A2 S.codes.length c2]] w fun e w' => Ret3 (checkF S) e ∧ Below w.heap.size w w' := by
  have hlm := h.len2
  obtain ⟨xs0, hcl0⟩ := h.cls
  have hlm1 := hcl0.2.2.1
  clear hcl0
  have hB0 := hide ((Below.refl w.heap.size w).alloc (Nat.le_refl _) (.cells #[.slice A S.cs.length cc, .slice A2 S.codes.length c2] 38))
  unfold maxLen at hlm hlm1
  unfold Ret3
  by_cases h1 : 1 ≤ S.cs.length ∧ S.cs.length ≤ 12
  · have i1 : inB 1 12 (S.cs.length : Int) = true := inB_iff.2 (by omega)
    by_cases h2 : 8 < S.codes.length
    · have hF : checkF S = (1, 0, 3) := by unfold checkF; rw [if_pos (.inr h2)]
      rw [hF]
      have h2z : (8 : Int) < (S.codes.length : Int) := by omega
      clear hF
      replace h := hide h
      go_enter Tryz.func30, Tryz.ntmps30
      go_wp2_with fail
      refine (in_any (S.cs.length : Int) 1 12 _).mono ?_
      rintro e w' ⟨rfl, rfl⟩
      rw [i1]
      go_wp2
      go_ret3
      exact ⟨rfl, hB0.out⟩
    · have hF : checkF S = if (firstErr (fun i => clsErr S.cs i (S.cs[i]?.getD default)) 0 S.cs.length).2 ≠ 0 then (2, firstErr (fun i => clsErr S.cs i (S.cs[i]?.getD default)) 0 S.cs.length)
          else if (firstErr (fun i => codeErr S.codes i (S.codes[i]?.getD ⟨#[]⟩)) 0 S.codes.length).2 ≠ 0 then (3, firstErr (fun i => codeErr S.codes i (S.codes[i]?.getD ⟨#[]⟩)) 0 S.codes.length)
          else if (firstErr (fun i => circErr S.cs S.cs.length i (S.cs[i]?.getD default)) 0 S.cs.length).2 ≠ 0 then (4, firstErr (fun i => circErr S.cs S.cs.length i (S.cs[i]?.getD default)) 0 S.cs.length) else (0, 0, 0) := by
        unfold checkF; rw [if_neg (by omega)]
      obtain ⟨q, hq⟩ : ∃ q, checkF S = q := ⟨_, rfl⟩
      rw [hq] at hF ⊢
      have hcov : (firstErr (fun i => clsErr S.cs i (S.cs[i]?.getD default)) 0 S.cs.length) = (0, 0) → ∀ k, ∀ x ∈ incOf S.cs k, 0 ≤ x ∧ x < (S.cs.length : Int) := by
        intro h0
        exact inc_of_check (cs := S.cs) (fun i hi => firstErr_zero (k := 0) (m := S.cs.length) (by rw [h0]) i (by omega) (by omega))
      obtain ⟨err1, he1⟩ : ∃ err1 : Nat → Int, err1 = fun i => clsErr S.cs i (S.cs[i]?.getD default) := ⟨_, rfl⟩
      obtain ⟨err2, he2⟩ : ∃ err2 : Nat → Int, err2 = fun i => codeErr S.codes i (S.codes[i]?.getD ⟨#[]⟩) := ⟨_, rfl⟩
      obtain ⟨err3, he3⟩ : ∃ err3 : Nat → Int, err3 = fun i => circErr S.cs S.cs.length i (S.cs[i]?.getD default) := ⟨_, rfl⟩
      rw [← he1] at hF hcov
      rw [← he2, ← he3] at hF
      have he1' : ∀ i, clsErr S.cs i (S.cs[i]?.getD default) = err1 i := fun i => by rw [he1]
      have he2' : ∀ i, codeErr S.codes i (S.codes[i]?.getD ⟨#[]⟩) = err2 i := fun i => by rw [he2]
      have he3' : ∀ i, circErr S.cs S.cs.length i (S.cs[i]?.getD default) = err3 i := fun i => by rw [he3]
      clear he1 he2 he3 hq
      have hone := fun i W (hb : Below w.heap.size w W) hi => oneR_any A A2 cc c2 S i W (h.below hb) hi
      have hcovr := fun k W (hb : Below w.heap.size w W) hinc hk => CoverR_any A A2 cc c2 S k W (h.below hb) h1.2 hinc hk
      have hstrs := h.strs
      have hcap2 := h.cap2
      obtain ⟨xs, hcl⟩ := h.cls
      have h12 := h1.2
      have h28 : S.codes.length ≤ 8 := by omega
      clear h h1 h2
      generalize hcs : S.cs = cs at *
      generalize hcd : S.codes = codes at *
      clear hcs hcd
      have hlencs : Hid (cs.length = cs.length) := rfl
      generalize hnn : cs.length = n at *
      generalize hmm : codes.length = n2 at *
      replace hnn := hide hnn
      replace hmm := hide hmm
      replace hF := hide hF
      replace hcov := hide hcov
      replace he1' := hide he1'
      replace he2' := hide he2'
      replace he3' := hide he3'
      replace hone := hide hone
      replace hcovr := hide hcovr
      replace hstrs := hide hstrs
      replace hcl := hide hcl
      have hSb := hide (Blk.new_ (w := w) (g := w.heap.size) (t := 38) (cs := #[.slice A n cc, .slice A2 n2 c2]) rfl)
      clear hlencs
      have h2z : ¬ (8 : Int) < (n2 : Int) := by omega
      go_enter Tryz.func30, Tryz.ntmps30
      go_wp2_with fail
      refine (in_any (n : Int) 1 12 _).mono ?_
      rintro e w' ⟨rfl, rfl⟩
      rw [i1]
      go_wp2
      clear i1
      generalize w.alloc (.cells #[.slice A n cc, .slice A2 n2 c2] 38) = w0 at *
      go_loopg [5] n (fun g iv wr => ∃ i : Nat, i ≤ n ∧ n - i ≤ g ∧ iv = .int .i64 i ∧ Hid (Below w.heap.size w wr) ∧ Hid (SBox wr w.heap.size A A2 n cc n2 c2) ∧ Hid (firstErr err1 0 n = firstErr err1 i (n - i)))
      case atStart => exact ⟨0, Nat.zero_le _, by omega, rfl, hB0, hSb, rfl⟩
      case round =>
        clear hB0 hSb
        obtain ⟨i, hi, hg, rfl, BW, SW, E1⟩ := hrel
        have s0 : wr.cell? ⟨w.heap.size, 0, none⟩ = some (.slice A n cc) := SW.out.cell 0
        have s1 : wr.cell? ⟨w.heap.size, 1, none⟩ = some (.slice A2 n2 c2) := SW.out.cell 1
        by_cases hlt : i < n
        · have hltz : (i : Int) < (n : Int) := by omega
          have hc1 := hone.out i wr BW.out hlt
          rw [he1'.out i] at hc1
          replace hc1 := hide hc1
          go_wp2_with fail
          refine hc1.out.mono ?_
          rintro e w1 ⟨rfl, hb1⟩
          have BW1 := hide (BW.out.trans (hb1.mono BW.out.size))
          have SW1 := hide (SW.out.below hb1 SW.out.lt)
          clear hb1 BW SW hc1 s0 s1
          by_cases hz : err1 i = 0
          · have hE := hide (firstErr_on hlt hz E1.out)
            have hzb : (err1 i != 0) = false := by simp [hz]
            clear hz E1
            generalize err1 i = x at *
            go_wp2
            go_roundg (n - (i + 1))
            case measure => omega
            case rel => exact ⟨i + 1, by omega, by omega, by go_num, BW1, SW1, hE⟩
          · have hfe := firstErr_at hlt hz E1.out
            have hr := hF.out
            rw [hfe, if_pos hz] at hr
            have hzb : (err1 i != 0) = true := by simp [hz]
            clear hz E1 hfe hF hcov
            generalize err1 i = x at *
            subst hr
            go_wp2
            go_ret3
            exact ⟨rfl, BW1.out⟩
        · obtain rfl : i = n := by omega
          have hfe := firstErr_end E1.out
          have hinc := hide (hcov.out hfe)
          have hr := hF.out
          rw [hfe, if_neg (by simp)] at hr
          replace hF := hide hr
          clear hr hfe E1 hcov hone he1'
          go_wp2
          go_loopg [7] n2 (fun g iv wr => ∃ j : Nat, j ≤ n2 ∧ n2 - j ≤ g ∧ iv = .int .i64 j ∧ Hid (Below w.heap.size w wr) ∧ Hid (SBox wr w.heap.size A A2 i cc n2 c2) ∧ Hid (firstErr err2 0 n2 = firstErr err2 j (n2 - j)))
          case atStart => exact ⟨0, Nat.zero_le _, by omega, rfl, BW, SW, rfl⟩
          case round =>
            clear BW SW s0 s1
            obtain ⟨j, hj, hg2, rfl, BW, SW, E2⟩ := hrel
            have s0 : wr.cell? ⟨w.heap.size, 0, none⟩ = some (.slice A i cc) := SW.out.cell 0
            have s1 : wr.cell? ⟨w.heap.size, 1, none⟩ = some (.slice A2 n2 c2) := SW.out.cell 1
            by_cases hlt2 : j < n2
            · have hltz2 : (j : Int) < (n2 : Int) := by omega
              have hj0 : (0 : Int) ≤ (j : Int) := by omega
              have hjc : (j : Int) ≤ (c2 : Int) := by omega
              have hst := hstrs.out.below BW.out
              have hst2 := hst.take (m := j) (by omega)
              obtain ⟨bs, ofs, rfl, hbs, hcs⟩ := hst.2.2 (by omega)
              have hjl : j < codes.length := by rw [hmm.out]; exact hlt2
              have k0 := hcs j codes[j] (List.getElem?_eq_getElem hjl)
              have hns := hst.2.1 codes[j] (List.getElem_mem hjl)
              have hce := he2'.out j
              rw [List.getElem?_eq_getElem hjl] at hce
              simp only [Option.getD_some] at hce
              clear hcs hst
              have hany : anyIdx (fun k => eqS codes[j] (codes[k]?.getD ⟨#[]⟩)) j = decide (0 ≤ firstIdx (fun k => eqS ((codes.take j)[k]?.getD ⟨#[]⟩) codes[j]) 0 j) := by
                unfold anyIdx
                congr 2
                refine firstIdx_congr fun k hk1 hk2 => ?_
                rw [List.getElem?_take_of_lt (by omega), eqS_comm]
              unfold codeErr at hce
              rw [hany] at hce
              clear hany
              generalize codes[j] = s at *
              replace hst2 := hide hst2
              replace hce := hide hce
              cases hnb : nameB s with
              | false =>
                have hx : err2 j = 6 := by rw [← hce.out, if_pos hnb]
                have hfe := firstErr_at hlt2 (by rw [hx]; decide) E2.out
                have hr := hF.out
                rw [hfe, hx, if_pos (by simp)] at hr
                subst hr
                clear hfe hx hF E2 hce
                go_wp2_with fail
                refine (NameR_any s _ hns).mono ?_
                rintro e w' ⟨rfl, rfl⟩
                rw [hnb]
                clear hnb
                go_wp2
                go_ret3
                exact ⟨rfl, BW.out⟩
              | true =>
                have hce2 := hce.out
                rw [if_neg (by rw [hnb]; simp)] at hce2
                replace hce := hide hce2
                clear hce2
                have hidx := hide (fun a => IndexR_any (some ⟨bs, ofs, none⟩) j c2 (codes.take j) s (wr.drewN a) hst2.out (by unfold maxLen; omega))
                generalize firstIdx (fun k => eqS ((codes.take j)[k]?.getD ⟨#[]⟩) s) 0 j = fi at *
                go_wp2_with fail
                refine (NameR_any s _ hns).mono ?_
                rintro e w' ⟨rfl, rfl⟩
                rw [hnb]
                clear hnb hst2
                by_cases hfi : 0 ≤ fi
                · have hx : err2 j = 5 := by rw [← hce.out, if_pos (by simpa using hfi)]
                  have hfe := firstErr_at hlt2 (by rw [hx]; decide) E2.out
                  have hr := hF.out
                  rw [hfe, hx, if_pos (by simp)] at hr
                  subst hr
                  clear hfe hx hF E2 hce
                  go_wp2
                  go_quiet ((go_at_call 72; exact quiet_left (hidx.out _)))
                  go_wp2
                  go_ret3
                  exact ⟨rfl, below_drewN BW.out _⟩
                · have hx : err2 j = 0 := by rw [← hce.out, if_neg (by simpa using hfi)]
                  have hE := hide (firstErr_on hlt2 hx E2.out)
                  clear hx hce E2
                  go_wp2
                  go_quiet ((go_at_call 72; exact quiet_left (hidx.out _)))
                  go_wp2
                  go_roundg (n2 - (j + 1))
                  case measure => omega
                  case rel => exact ⟨j + 1, by omega, by omega, by go_num, below_drewN BW.out _, Blk.drewN SW.out _, hE⟩
            · obtain rfl : j = n2 := by omega
              have hfe := firstErr_end E2.out
              have hr := hF.out
              rw [hfe, if_neg (by simp)] at hr
              replace hF := hide hr
              clear hr hfe E2 he2' hstrs hmm
              generalize hii : i = n at *
              clear hii
              go_wp2
              go_loopg [8] n (fun g iv wr => ∃ i : Nat, i ≤ n ∧ n - i ≤ g ∧ iv = .int .i64 i ∧ Hid (Below w.heap.size w wr) ∧ Hid (SBox wr w.heap.size A A2 n cc j c2) ∧ Hid (firstErr err3 0 n = firstErr err3 i (n - i)))
              case atStart => exact ⟨0, Nat.zero_le _, by omega, rfl, BW, SW, rfl⟩
              case round =>
                clear BW SW s0 s1
                obtain ⟨i, hi, hg3, rfl, BW, SW, E3⟩ := hrel
                have s0 : wr.cell? ⟨w.heap.size, 0, none⟩ = some (.slice A n cc) := SW.out.cell 0
                by_cases hlt3 : i < n
                · have hltz3 : (i : Int) < (n : Int) := by omega
                  have hi0 : (0 : Int) ≤ (i : Int) := by omega
                  obtain ⟨wo, rfl⟩ : ∃ wo : World, wo = wr := ⟨_, rfl⟩
                  go_wp2
                  clear s0
                  obtain ⟨b, off, ia, ic, rfl, hb, _, d1, _, _, _, hri, him, _⟩ := cls_at hcl.out hlt3
                  have hinm := hinc.out i
                  have hce := he3'.out i
                  unfold circErr at hce
                  have hinc2 : (cs[i]?.getD default).inc = incOf cs i := rfl
                  rw [hinc2] at hce
                  clear hinc2
                  unfold maxLen at him
                  obtain ⟨L, hL⟩ : ∃ L, incOf cs i = L := ⟨_, rfl⟩
                  rw [hL] at hri him hinm d1 hce
                  clear hL
                  replace hri := hide hri
                  replace hinm := hide hinm
                  replace hce := hide hce
                  replace d1 := hide d1
                  go_loopg [9] L.length (fun g4 kv wr => ∃ q : Nat, q ≤ L.length ∧ L.length - q ≤ g4 ∧ kv = .int .i64 q ∧ Hid (Below w.heap.size w wr) ∧ Hid (SBox wr w.heap.size (some ⟨b, off, none⟩) A2 n cc j c2) ∧ Hid ((L.take q).any (fun x => (cover cs n x.toNat).testBit i) = false))
                  case atStart => exact ⟨0, Nat.zero_le _, by omega, rfl, BW, SW, rfl⟩
                  case round =>
                    clear BW SW
                    obtain ⟨m, hm, hg4, rfl, BW, SW, HA⟩ := hrel
                    have s0 : wr.cell? ⟨w.heap.size, 0, none⟩ = some (.slice (some ⟨b, off, none⟩) n cc) := SW.out.cell 0
                    have s1 : wr.cell? ⟨w.heap.size, 1, none⟩ = some (.slice A2 j c2) := SW.out.cell 1
                    have e1 : wr.cell? ⟨b, off + i * 5 + 1, none⟩ = some (.slice ia L.length ic) := (cellB BW.out hb).trans d1.out
                    by_cases hlt4 : m < L.length
                    · have hltz4 : (m : Int) < (L.length : Int) := by omega
                      have hm0 : (0 : Int) ≤ (m : Int) := by omega
                      obtain ⟨bi, offi, rfl, hbi, hci⟩ := hri.out.2 (by omega)
                      have hx := hinm.out L[m] (List.getElem_mem hlt4)
                      obtain ⟨x, hxe⟩ : ∃ x : Nat, L[m] = (x : Int) := ⟨L[m].toNat, by omega⟩
                      have hxn : x < n := by omega
                      have e2 : wr.cell? ⟨bi, offi + m, none⟩ = some (.int .i64 (x : Int)) := by
                        have := (cellB BW.out hbi).trans (hci m hlt4)
                        rw [List.getElem?_eq_getElem hlt4, hxe] at this
                        exact this
                      have hcall := hide (fun W (hb : Below wr.heap.size wr W) => hcovr.out x W (BW.out.trans (hb.mono BW.out.size)) hinc.out hxn)
                      have hnext := hide (show (L.take (m + 1)).any (fun x => (cover cs n x.toNat).testBit i) = (cover cs n x).testBit i by
                        rw [List.take_succ_eq_append_getElem hlt4, List.any_append, HA.out, hxe]; simp)
                      have hhit := hide (show (cover cs n x).testBit i = true → L.any (fun x => (cover cs n x.toNat).testBit i) = true from fun hb => by
                        rw [List.any_eq_true]; exact ⟨L[m], List.getElem_mem hlt4, by rw [hxe]; exact hb⟩)
                      replace e2 := hide e2
                      clear hci hx hxe s1 HA
                      go_wp2
                      replace e1 := hide e1
                      clear s0
                      refine region_grow [IsV (.agg #[.slice (some ⟨b, off, none⟩) n cc, .slice A2 j c2]), IsV (.pointer (some ⟨w.heap.size, 0, none⟩)), IsV (.slice (some ⟨b, off, none⟩) n cc), IsV (.int .i64 i), IsV (.pointer (some ⟨b, off + i * 5, none⟩)), IsV (.pointer (some ⟨b, off + i * 5 + 1, none⟩)), IsV (.slice (some ⟨bi, offi, none⟩) L.length ic),
                        IsV (.int .i64 m), IsV (.pointer (some ⟨bi, offi + m, none⟩)), IsV (.int .i64 (x : Int)), IsBools n (cover cs n x), IsV (.int .i64 i), BoolAt n (cover cs n x) i, IsV (.bool ((cover cs n x).testBit i))] (by kernel_rfl) (by kernel_rfl) rfl ?_ ?_ ?_
                      · simp [AllStb, IsV.stb, IsBools.stb, BoolAt.stb]
                      · refine ⟨?_, ?_, ?_, ?_, ?_, ?_, ?_, ?_, ?_, ?_, ?_, ?_, ?_, ?_, trivial⟩
                        all_goals
                          intro y w1 K Q Cv hC hd hV
                          have hz := hC.size
                          have c0 : w1.cell? ⟨w.heap.size, 0, none⟩ = some (.slice (some ⟨b, off, none⟩) n cc) := (cellB hC SW.out.lt).trans (SW.out.cell 0)
                          have c1 : w1.cell? ⟨w.heap.size, 1, none⟩ = some (.slice A2 j c2) := (cellB hC SW.out.lt).trans (SW.out.cell 1)
                          have c2' : w1.cell? ⟨b, off + i * 5 + 1, none⟩ = some (.slice (some ⟨bi, offi, none⟩) L.length ic) := (cellB hC (Nat.lt_of_lt_of_le hb BW.out.size)).trans e1.out
                          have c3 : w1.cell? ⟨bi, offi + m, none⟩ = some (.int .i64 (x : Int)) := (cellB hC (Nat.lt_of_lt_of_le hbi BW.out.size)).trans e2.out
                          simp [deps, VL, IsV, Region.binds] at hd
                        · simp only [putAll, Act.put]; go_simp; intro hK; exact hK _ _ (hV _ _ hC (Below.refl _ _) rfl)
                        · simp only [putAll, Act.put]; go_simp; intro hK; exact hK _ _ (hV _ _ hC (Below.refl _ _) rfl)
                        · simp only [putAll, Act.put]; go_simp; intro hK; exact hK _ _ (hV _ _ hC (Below.refl _ _) rfl)
                        · simp only [putAll, Act.put]; go_simp; intro hK; exact hK _ _ (hV _ _ hC (Below.refl _ _) rfl)
                        · simp only [putAll, Act.put]; go_simp; intro hK; exact hK _ _ (hV _ _ hC (Below.refl _ _) rfl)
                        · simp only [putAll, Act.put]; go_simp; intro hK; exact hK _ _ (hV _ _ hC (Below.refl _ _) rfl)
                        · simp only [putAll, Act.put]; go_simp; intro hK; exact hK _ _ (hV _ _ hC (Below.refl _ _) rfl)
                        · simp only [putAll, Act.put]; go_simp; intro hK; exact hK _ _ (hV _ _ hC (Below.refl _ _) rfl)
                        · simp only [putAll, Act.put]; go_simp; intro hK; exact hK _ _ (hV _ _ hC (Below.refl _ _) rfl)
                        · simp only [putAll, Act.put]; go_simp; intro hK; exact hK _ _ (hV _ _ hC (Below.refl _ _) rfl)
                        · clear c0 c1 c2' c3
                          simp only [putAll, Act.put]; go_simp; intro hK
                          refine (hcall.out w1 hC).mono ?_
                          rintro e w2 ⟨⟨v, rfl, hv⟩, hb2⟩
                          exact hK _ _ (hV _ _ (hC.trans (hb2.mono hz)) hb2 hv)
                        · simp only [putAll, Act.put]; go_simp; intro hK; exact hK _ _ (hV _ _ hC (Below.refl _ _) rfl)
                        · obtain ⟨gb, hgb, hBl⟩ := hd.1
                          simp only [putAll, Act.put]; go_simp; intro hK; exact hK _ _ (hV _ _ hC (Below.refl _ _) ⟨gb, rfl, hBl⟩)
                        · obtain ⟨gb, hgb, hBl⟩ := hd
                          have cb : w1.cell? ⟨gb, i, none⟩ = some (.bool ((cover cs n x).testBit i)) := by rw [hBl.cell]; exact boolCells_at hlt3
                          simp only [putAll, Act.put]; go_simp; intro hK; exact hK _ _ (hV _ _ hC (Below.refl _ _) rfl)
                      · intro y w1 hC hd
                        have BW1 := hide (BW.out.trans (hC.mono BW.out.size))
                        have SW1 := hide (SW.out.below hC SW.out.lt)
                        simp [EndsL, IsV] at hd
                        obtain ⟨d0, d1', d2, d3, d4, d5, d6, d7, d8, d9, d10, d11, d12, d13⟩ := hd
                        simp only [putAll, Act.put]
                        rw [d13]
                        clear d0 d1' d2 d3 d4 d5 d6 d7 d8 d9 d10 d11 d12 d13 hC BW SW hcall e1 e2
                        simp only [List.setIfInBounds_toArray, List.set_cons_succ, List.set_cons_zero]
                        cases hbit : (cover cs n x).testBit i with
                        | true =>
                          have hx9 : err3 i = 9 := by rw [← hce.out, if_pos (hhit.out hbit)]
                          have hfe := firstErr_at hlt3 (by rw [hx9]; decide) E3.out
                          have hr := hF.out
                          rw [hfe, hx9, if_pos (by simp)] at hr
                          subst hr
                          clear hfe hx9 hF E3 hce hhit hnext hbit
                          go_wp2
                          go_ret3
                          exact ⟨rfl, BW1.out⟩
                        | false =>
                          have HA2 := hnext.out
                          rw [hbit] at HA2
                          replace HA2 := hide HA2
                          clear hhit hnext hbit
                          go_wp2
                          go_roundg (L.length - (m + 1))
                          case measure => omega
                          case rel => exact ⟨m + 1, by omega, by omega, by go_num, BW1, SW1, HA2⟩
                    · obtain rfl : m = L.length := by omega
                      have hall := HA.out
                      rw [List.take_length] at hall
                      have hx0 : err3 i = 0 := by rw [← hce.out, if_neg (by rw [hall]; simp)]
                      have hE := hide (firstErr_on hlt3 hx0 E3.out)
                      clear hall hx0 hce HA E3
                      go_wp2
                      go_roundg (n - (i + 1))
                      case measure => omega
                      case rel => exact ⟨i + 1, by omega, by omega, by go_num, BW, SW, hE⟩
                · obtain rfl : i = n := by omega
                  have hfe := firstErr_end E3.out
                  have hr := hF.out
                  rw [hfe, if_neg (by simp)] at hr
                  subst hr
                  clear hfe hF E3
                  go_wp2
                  go_ret3
                  exact ⟨rfl, BW.out⟩
  · have i1 : inB 1 12 (S.cs.length : Int) = false := inB_no (by omega)
    have hF : checkF S = (1, 0, 3) := by unfold checkF; rw [if_pos (.inl h1)]
    rw [hF]
    clear hF
    replace h := hide h
    go_enter Tryz.func30, Tryz.ntmps30
    go_wp2_with fail
    refine (in_any (S.cs.length : Int) 1 12 _).mono ?_
    rintro e w' ⟨rfl, rfl⟩
    rw [i1]
    go_wp2
    go_ret3
    exact ⟨rfl, hB0.out⟩
end Go.Proofs.YtjfdfhnfcpfmcaaGreatDoor

/-
  The reference's Covers.
-/
namespace Go.Proofs.YtjfdfhnfcpfmcaaGreatDoor
open Go.RowKit RG

theorem openF_nil (S : Sys) : openF S [] = (checkF S).2.2 := by
  unfold openF listsF
  split
  · rename_i h; exact h.symm
  · rfl
set_option maxRecDepth 100000 in
set_option maxHeartbeats 4000000 in
theorem CoversR_any (A A2 : Option Addr) (cc c2 : Nat) (S : Sys) (k : Int) (w : World) (h : InMem w A A2 cc c2 S) :
    Calls Tryz.prog 32 #[.agg #[.slice A S.cs.length cc, .slice A2 S.codes.length c2], .int .i64 k] w fun e w' => IntsErr (coversF S k) e w' ∧ Below w.heap.size w w' := by
  obtain ⟨q, hq⟩ : ∃ q, coversF S k = q := ⟨_, rfl⟩
  rw [hq]
  unfold coversF at hq
  rw [openF_nil] at hq
  have hB0 := hide ((Below.refl w.heap.size w).alloc (Nat.le_refl _) (.cells #[.slice A S.cs.length cc, .slice A2 S.codes.length c2] 38))
  have hSb := hide (Blk.new_ (w := w) (g := w.heap.size) (t := 38) (cs := #[.slice A S.cs.length cc, .slice A2 S.codes.length c2]) rfl)
  have hchk := hide (CheckR_any A A2 cc c2 S _ (h.below hB0.out))
  have hcv := hide (fun (W : World) (hb : Below w.heap.size w W) (gd : Good S) (kn : Nat) (hk : kn < S.cs.length) => CoverR_any A A2 cc c2 S kn W (h.below hb) gd.bd.1.2 gd.inc hk)
  have gb := fun (gd : Good S) => gd.bd.1
  obtain ⟨i0, hi, hz0, hz1, hz2⟩ := info_parts infoInt
  replace hi := hide hi
  replace hz0 := hide hz0
  replace hz1 := hide hz1
  replace hz2 := hide hz2
  replace gb := hide gb
  replace hq := hide hq
  clear h
  go_enter Tryz.func32, Tryz.ntmps32
  go_wp2_with fail
  refine hchk.out.mono ?_
  rintro e w1 ⟨rfl, hb1⟩
  have hB1 := hide (hB0.out.trans (hb1.mono (by simp)))
  have hS1 := hide (hSb.out.below hb1 (by simp))
  clear hb1 hSb hchk hB0
  generalize hx : checkF S = x at *
  obtain ⟨x1, x2, x3⟩ := x
  simp only at hq ⊢
  have hgd : x3 = 0 → Good S := fun h => by unfold Good; rw [hx]; exact h
  clear hx
  have s0 : w1.cell? ⟨w.heap.size, 0, none⟩ = some (.slice A S.cs.length cc) := hS1.out.cell 0
  have s1 : w1.cell? ⟨w.heap.size, 1, none⟩ = some (.slice A2 S.codes.length c2) := hS1.out.cell 1
  by_cases hx0 : x3 = 0
  · subst hx0
    have gd := hgd rfl
    have hn12 := gb.out gd
    have hcv := hide (fun W hb kn hk => hcv.out W hb gd kn hk)
    clear hgd gb
    replace gd := hide gd
    have hq := hq.out
    rw [if_neg (by simp)] at hq
    replace hq := hide hq
    generalize hn : S.cs.length = n at *
    generalize hn2 : S.codes.length = n2 at *
    replace hn := hide hn
    replace hn2 := hide hn2
    go_wp2_with fail
    refine (in_any k 0 ((n : Int) - 1) _).mono ?_
    rintro e w2 ⟨rfl, rfl⟩
    cases h1 : inB 0 ((n : Int) - 1) k with
    | false =>
      have hq := hq.out
      rw [h1, if_pos rfl] at hq
      subst hq
      clear h1
      go_wp2
      go_ret2
      exact ⟨⟨_, rfl, none, 0, rfl, rdInts_nil _ _, Nat.le_refl _⟩, hB1.out⟩
    | true =>
      have hq := hq.out
      rw [h1, if_neg (by simp)] at hq
      replace hq := hide hq
      have hk := inB_iff.1 h1
      clear h1
      obtain ⟨kn, rfl⟩ := Int.eq_ofNat_of_zero_le hk.1
      go_wp2_with fail
      refine (hcv.out _ hB1.out kn (by omega)).mono ?_
      rintro e w2 ⟨⟨v, rfl, gb, rfl, hBl⟩, hb2⟩
      have hB2 := hide (hB1.out.trans (hb2.mono hB1.out.size))
      have hbl := hBl.lt
      replace hBl := hide hBl
      clear hb2 hcv s0 s1 hS1
      go_wp2
      go_loopg [10, 11] n (fun gg s10 s11 wr => ∃ (j : Nat) (l : List Nat), j ≤ n ∧ n ≤ gg + j ∧ s11 = .int .i64 j ∧ l.length ≤ j ∧ Hid (l = (List.range j).filter fun o => (cover S.cs n kn).testBit o) ∧ Hid (Below w2.heap.size w2 wr) ∧ wr.ownsRow w2.heap.size 3 1 s10 l.length (l.map fun o => Value.int .i64 (o : Nat)))
      case atStart => exact ⟨0, [], Nat.zero_le _, by omega, rfl, Nat.le_refl _, rfl, Below.refl _ _, World.ownsRow_nil _ _ _ _⟩
      case round =>
        obtain ⟨j, l, hj, hgg, rfl, hlj, hl, hBr, hown⟩ := hrel
        by_cases hlt : j < n
        · have hltz : (j : Int) < (n : Int) := by omega
          have hj0 : (0 : Int) ≤ (j : Int) := by omega
          have u0 : wr.cell? ⟨gb, j, none⟩ = some (.bool ((cover S.cs n kn).testBit j)) := by rw [(hBl.out.below hBr.out hbl).cell]; exact boolCells_at hlt
          have hrs : (List.range (j + 1)) = List.range j ++ [j] := List.range_succ
          replace hrs := hide hrs
          replace hown := hide hown
          cases h1 : (cover S.cs n kn).testBit j with
          | true =>
            rw [h1] at u0
            have hl2 : l ++ [j] = (List.range (j + 1)).filter fun o => (cover S.cs n kn).testBit o := by rw [hrs.out, List.filter_append, ← hl.out]; simp [h1]
            replace hl2 := hide hl2
            clear h1
            have hsz := hBr.out.size
            go_wp2_with (at_builtin; refine wpList_append_own _ rfl _ _ 41 rfl w2.heap.size 3 i0 (.int .i64 0) 1 8 Tryz.underlying41 hi.out hz0.out hz1.out hz2.out rfl (by decide) _ _ _ rfl (hown.out.alloc _) ⟨wr.heap.size, 0, none⟩ 1 1 [.int .i64 (j : Nat)] rfl rfl (cell_one_new _ _ _) (by simp [Value.oneCell']) (by unfold maxLen; omega) (by omega) (by simp; omega) ?_; intro v' w4 hown4 hgrow4 _)
            have hBr4 := hide ((hBr.out.alloc hsz (.cells #[.int .i64 (j : Nat)] 3)).grown hgrow4 (by simp; omega) (fun k hk => (hown.out.lt k hk).1))
            replace hown4 := hide hown4
            clear hown hgrow4 u0
            go_wp2
            go_roundg (n - (j + 1))
            case measure => omega
            case rel =>
              refine ⟨j + 1, l ++ [j], by omega, by omega, by go_num, by simp; omega, hl2.out, hBr4.out, ?_⟩
              have := hown4.out
              simpa using this
          | false =>
            rw [h1] at u0
            have hl2 : l = (List.range (j + 1)).filter fun o => (cover S.cs n kn).testBit o := by rw [hrs.out, List.filter_append, ← hl.out]; simp [h1]
            replace hl2 := hide hl2
            clear h1
            go_wp2
            go_roundg (n - (j + 1))
            case measure => omega
            case rel => exact ⟨j + 1, l, by omega, by omega, by go_num, by omega, hl2.out, hBr.out, hown.out⟩
        · have hltz : ¬ (j : Int) < (n : Int) := by omega
          obtain rfl : j = n := by omega
          have hq := hq.out
          have hres : IsInts q.1 u10 wr := by
            rw [← hq]
            simp only [Int.toNat_natCast, coverL]
            rw [← hl.out]
            exact isInts_of_own (by rw [List.length_map, List.map_map]; exact hown)
          have hq2 : q.2 = 0 := by rw [← hq]
          replace hres := hide hres
          replace hq2 := hide hq2
          clear hq hown
          go_wp2
          go_ret2
          exact ⟨⟨_, by rw [hq2.out]; rfl, hres.out⟩, hB2.out.trans (hBr.out.mono hB2.out.size)⟩
  · have hq := hq.out
    rw [if_pos hx0] at hq
    subst hq
    have hb1 : (x3 == 0) = false := by rw [beq_eq_false_iff_ne]; exact hx0
    have hb2 : (x3 != 0) = true := by rw [bne_iff_ne]; exact hx0
    clear hgd gb hcv
    replace hx0 := hide hx0
    go_wp2
    go_ret2
    exact ⟨⟨_, rfl, none, 0, rfl, rdInts_nil _ _, Nat.le_refl _⟩, hB1.out⟩
end Go.Proofs.YtjfdfhnfcpfmcaaGreatDoor
