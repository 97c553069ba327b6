import Derived.Test.YtjfdfhnfcpfmcaaGreatDoorMb
import Derived.Shelf.SlicesQ.Load
import Derived.Laws.BitsLemmas
import Derived.Laws.Wrap64
import Derived.WalkKit
import Derived.Test.YtjfdfhnfcpfmcaaGreatDoorMa
import Derived.StillTail
/-
  Words on memory: rows of elements of k cells, rows of strings; what the first element is that has something. Of no function.
-/
namespace Go.Proofs.YtjfdfhnfcpfmcaaGreatDoor
open Go.RowKit

/-- A slice value '.slice A n c' whose elements are the lists of k cells xs. -/
def RdRow (w : World) (A : Option Addr) (n k : Nat) (xs : List (List Value)) : Prop :=
  xs.length = n ∧ (∀ x ∈ xs, x.length = k) ∧ (0 < n → ∃ b off, A = some ⟨b, off, none⟩ ∧ b < w.heap.size ∧
    ∀ j i v, (xs[j]?.getD [])[i]? = some v → w.cell? ⟨b, off + j * k + i, none⟩ = some v)
section
variable {w w' : World} {A : Option Addr} {n k : Nat} {xs : List (List Value)}
theorem RdRow.below (h : RdRow w A n k xs) (hb : Below w.heap.size w w') : RdRow w' A n k xs :=
  ⟨h.1, h.2.1, fun hn => by
    obtain ⟨b, off, e, hlt, hc⟩ := h.2.2 hn
    exact ⟨b, off, e, Nat.lt_of_lt_of_le hlt hb.size, fun j i v hv => (hb.cell (p := ⟨b, off + j * k + i, none⟩) hlt).trans (hc j i v hv)⟩⟩
theorem RdRow.alloc (h : RdRow w A n k xs) (o : Obj) : RdRow (w.alloc o) A n k xs := h.below ((Below.refl _ _).alloc (Nat.le_refl _) o)
theorem RdRow.drewN (h : RdRow w A n k xs) (m : Nat) : RdRow (w.drewN m) A n k xs := h
theorem RdRow.drew (h : RdRow w A n k xs) : RdRow w.drew A n k xs := h
theorem RdRow.nil (w : World) (A : Option Addr) (k : Nat) : RdRow w A 0 k [] := ⟨rfl, (fun _ h => nomatch h), fun h => absurd h (by omega)⟩
theorem RdRow.take (h : RdRow w A n k xs) {m : Nat} (hm : m ≤ n) : RdRow w A m k (xs.take m) := by
  refine ⟨by simp [h.1, hm], fun x hx => h.2.1 x (List.mem_of_mem_take hx), fun hn => ?_⟩
  obtain ⟨b, off, e, hlt, hc⟩ := h.2.2 (by omega)
  refine ⟨b, off, e, hlt, fun j i v hv => hc j i v ?_⟩
  by_cases hj : j < m
  · rwa [List.getElem?_take_of_lt hj] at hv
  · rw [List.getElem?_take_eq_none (by omega)] at hv
    simp at hv
theorem RdRow.len (h : RdRow w A n k xs) {j : Nat} (hj : j < n) : (xs[j]?.getD []).length = k := by
  have hl : j < xs.length := by rw [h.1]; exact hj
  rw [List.getElem?_eq_getElem hl]
  exact h.2.1 _ (List.getElem_mem hl)
/-- The load of a whole element. -/
theorem RdRow.row {P : Program} (h : RdRow w A n k xs) {j : Nat} (hj : j < n) : ∃ b off, A = some ⟨b, off, none⟩ ∧ b < w.heap.size ∧
    Sem.run P (loadCellsFrom ⟨b, off + j * k, none⟩ 0 k #[]) w = .ok (xs[j]?.getD []).toArray w := by
  obtain ⟨b, off, e, hlt, hc⟩ := h.2.2 (by omega)
  exact ⟨b, off, e, hlt, run_loadCellsFrom_list P _ _ _ k (h.len hj) fun i v hv => by
    rw [Addr.add_lit]
    exact hc j i v hv⟩
end

theorem len5 {l : List Value} (h : l.length = 5) : ∃ x0 x1 x2 x3 x4, l = [x0, x1, x2, x3, x4] := by
  match l, h with
  | [x0, x1, x2, x3, x4], _ => exact ⟨x0, x1, x2, x3, x4, rfl⟩
theorem len2 {l : List Value} (h : l.length = 2) : ∃ x0 x1, l = [x0, x1] := by
  match l, h with
  | [x0, x1], _ => exact ⟨x0, x1, rfl⟩
theorem RdRow.cells5 {w : World} {A : Option Addr} {n : Nat} {xs : List (List Value)} (h : RdRow w A n 5 xs) {j : Nat} (hj : j < n) :
    ∃ b off x0 x1 x2 x3 x4, A = some ⟨b, off, none⟩ ∧ b < w.heap.size ∧ xs[j]?.getD [] = [x0, x1, x2, x3, x4] ∧ w.cell? ⟨b, off + j * 5, none⟩ = some x0 ∧ w.cell? ⟨b, off + j * 5 + 1, none⟩ = some x1 ∧
      w.cell? ⟨b, off + j * 5 + 2, none⟩ = some x2 ∧ w.cell? ⟨b, off + j * 5 + 3, none⟩ = some x3 ∧ w.cell? ⟨b, off + j * 5 + 4, none⟩ = some x4 := by
  obtain ⟨b, off, e, hlt, hc⟩ := h.2.2 (by omega)
  obtain ⟨x0, x1, x2, x3, x4, hx⟩ := len5 (h.len hj)
  have hc := fun i v => hc j i v
  rw [hx] at hc
  exact ⟨b, off, x0, x1, x2, x3, x4, e, hlt, hx, hc 0 x0 rfl, hc 1 x1 rfl, hc 2 x2 rfl, hc 3 x3 rfl, hc 4 x4 rfl⟩
theorem RdRow.cells2 {w : World} {A : Option Addr} {n : Nat} {xs : List (List Value)} (h : RdRow w A n 2 xs) {j : Nat} (hj : j < n) :
    ∃ b off x0 x1, A = some ⟨b, off, none⟩ ∧ b < w.heap.size ∧ xs[j]?.getD [] = [x0, x1] ∧ w.cell? ⟨b, off + j * 2, none⟩ = some x0 ∧ w.cell? ⟨b, off + j * 2 + 1, none⟩ = some x1 := by
  obtain ⟨b, off, e, hlt, hc⟩ := h.2.2 (by omega)
  obtain ⟨x0, x1, hx⟩ := len2 (h.len hj)
  have hc := fun i v => hc j i v
  rw [hx] at hc
  exact ⟨b, off, x0, x1, e, hlt, hx, hc 0 x0 rfl, hc 1 x1 rfl⟩

/-- A slice value '.slice A n c' of strings. -/
def RdStrs (w : World) (A : Option Addr) (n : Nat) (xs : List ByteArray) : Prop :=
  xs.length = n ∧ (∀ x ∈ xs, x.size ≤ maxLen) ∧ (0 < n → ∃ b off, A = some ⟨b, off, none⟩ ∧ b < w.heap.size ∧ ∀ j x, xs[j]? = some x → w.cell? ⟨b, off + j, none⟩ = some (.string x))
section
variable {w w' : World} {A : Option Addr} {n : Nat} {xs : List ByteArray}
theorem RdStrs.below (h : RdStrs w A n xs) (hb : Below w.heap.size w w') : RdStrs w' A n xs :=
  ⟨h.1, h.2.1, fun hn => by
    obtain ⟨b, off, e, hlt, hc⟩ := h.2.2 hn
    exact ⟨b, off, e, Nat.lt_of_lt_of_le hlt hb.size, fun j x hv => (hb.cell (p := ⟨b, off + j, none⟩) hlt).trans (hc j x hv)⟩⟩
theorem RdStrs.alloc (h : RdStrs w A n xs) (o : Obj) : RdStrs (w.alloc o) A n xs := h.below ((Below.refl _ _).alloc (Nat.le_refl _) o)
theorem RdStrs.take (h : RdStrs w A n xs) {m : Nat} (hm : m ≤ n) : RdStrs w A m (xs.take m) := by
  refine ⟨by simp [h.1, hm], fun x hx => h.2.1 x (List.mem_of_mem_take hx), fun hn => ?_⟩
  obtain ⟨b, off, e, hlt, hc⟩ := h.2.2 (by omega)
  refine ⟨b, off, e, hlt, fun j x hv => hc j x ?_⟩
  by_cases hj : j < m
  · rwa [List.getElem?_take_of_lt hj] at hv
  · rw [List.getElem?_take_eq_none (by omega)] at hv
    cases hv
theorem RdStrs.nil (w : World) (A : Option Addr) : RdStrs w A 0 [] := ⟨rfl, (fun _ h => nomatch h), fun h => absurd h (by omega)⟩
end

/-- The first of n places from k on that has p; -1 if there is none. -/
def firstIdx (p : Nat → Bool) : Nat → Nat → Int
  | _, 0 => -1
  | k, m + 1 => if p k = true then (k : Int) else firstIdx p (k + 1) m
theorem firstIdx_hit {p : Nat → Bool} {k m : Nat} (h : p k = true) : firstIdx p k (m + 1) = k := by simp [firstIdx, h]
theorem firstIdx_miss {p : Nat → Bool} {k m : Nat} (h : p k = false) : firstIdx p k (m + 1) = firstIdx p (k + 1) m := by simp [firstIdx, h]
theorem firstIdx_neg {p : Nat → Bool} : ∀ {k m : Nat}, firstIdx p k m = -1 ↔ ∀ j, k ≤ j → j < k + m → p j = false
  | k, 0 => by simp [firstIdx]; intros; omega
  | k, m + 1 => by
    by_cases h : p k = true
    · rw [firstIdx_hit h]
      constructor
      · intro h'; omega
      · intro h'; have := h' k (by omega) (by omega); rw [h] at this; cases this
    · have h' : p k = false := by simpa using h
      rw [firstIdx_miss h', firstIdx_neg]
      constructor
      · intro g j h1 h2
        by_cases e : j = k
        · subst e; exact h'
        · exact g j (by omega) (by omega)
      · intro g j h1 h2; exact g j (by omega) (by omega)
theorem firstIdx_at {p : Nat → Bool} : ∀ {k m : Nat}, firstIdx p k m ≠ -1 → ∃ i : Nat, firstIdx p k m = (i : Int) ∧ k ≤ i ∧ i < k + m ∧ p i = true ∧ ∀ j, k ≤ j → j < i → p j = false
  | k, 0 => by simp [firstIdx]
  | k, m + 1 => by
    by_cases h : p k = true
    · intro _; exact ⟨k, firstIdx_hit h, by omega, by omega, h, fun j h1 h2 => by omega⟩
    · have h' : p k = false := by simpa using h
      rw [firstIdx_miss h']
      intro g
      obtain ⟨i, h1, h2, h3, h4, h5⟩ := firstIdx_at g
      refine ⟨i, h1, by omega, by omega, h4, fun j h6 h7 => ?_⟩
      by_cases e : j = k
      · subst e; exact h'
      · exact h5 j (by omega) h7
/-- Whether one of n places has p. -/
def anyIdx (p : Nat → Bool) (n : Nat) : Bool := decide (0 ≤ firstIdx p 0 n)
theorem anyIdx_iff {p : Nat → Bool} {n : Nat} : anyIdx p n = true ↔ ∃ j, j < n ∧ p j = true := by
  unfold anyIdx
  rw [decide_eq_true_iff]
  constructor
  · intro h
    obtain ⟨i, _, _, h3, h4, _⟩ := firstIdx_at (p := p) (k := 0) (m := n) (by omega)
    exact ⟨i, by omega, h4⟩
  · rintro ⟨j, hj, hp⟩
    by_cases h : firstIdx p 0 n = -1
    · rw [firstIdx_neg] at h
      rw [h j (by omega) (by omega)] at hp
      cases hp
    · obtain ⟨i, h1, _⟩ := firstIdx_at h
      omega

/-- The first of n places from k on with an error, and the error; 0 and 0 if there is none. -/
def firstErr (err : Nat → Int) : Nat → Nat → Int × Int
  | _, 0 => (0, 0)
  | k, m + 1 => if err k = 0 then firstErr err (k + 1) m else ((k : Int), err k)
end Go.Proofs.YtjfdfhnfcpfmcaaGreatDoor

namespace Go.Proofs.YtjfdfhnfcpfmcaaGreatDoor
open Go.RowKit RG

def isLet (b : UInt8) : Prop := 97 ≤ b.toNat ∧ b.toNat ≤ 122
def isDig (b : UInt8) : Prop := 48 ≤ b.toNat ∧ b.toNat ≤ 57
instance (b : UInt8) : Decidable (isLet b) := by unfold isLet; exact inferInstance
instance (b : UInt8) : Decidable (isDig b) := by unfold isDig; exact inferInstance
def okAt (i : Nat) (b : UInt8) : Prop := isLet b ∨ isDig b ∧ i ≠ 0
instance (i : Nat) (b : UInt8) : Decidable (okAt i b) := by unfold okAt; exact inferInstance
/-- The bytes of a name. -/
def nameP (l : List UInt8) : Prop := (1 ≤ l.length ∧ l.length ≤ 16) ∧ ∀ j, j < l.length → okAt j (l[j]?.getD 0)
instance (l : List UInt8) : Decidable (nameP l) := by unfold nameP; exact inferInstance
def nameB (s : ByteArray) : Bool := decide (nameP s.data.toList)

theorem byte_at (s : ByteArray) (k : Nat) (h : k < s.size) : s.data.toList[k]?.getD 0 = s[k] := by
  have : k < s.data.toList.length := by simpa using h
  rw [List.getElem?_eq_getElem this]; rfl

theorem name_no (s : ByteArray) (k : Nat) (h : k < s.size) (hb : ¬ okAt k s[k]) : nameB s = false := by
  unfold nameB
  rw [decide_eq_false_iff_not]
  rintro ⟨_, h2⟩
  have := h2 k (by simpa using h)
  rw [byte_at s k h] at this
  exact hb this

set_option maxRecDepth 100000 in
theorem Name_any (s : ByteArray) (w : World) (hs : s.size ≤ maxLen) :
    Calls Tryz.prog 20 #[.string s] w fun e w' => e = .returned (.bool (nameB s)) ∧ Below w.heap.size w w' := by
  unfold maxLen at hs
  by_cases h1 : 1 ≤ (s.size : Int) ∧ (s.size : Int) ≤ 16
  · go_enter Tryz.func20, Tryz.ntmps20
    go_wp2_with fail
    refine (within_one_yes _ _ (s.size : Int) _ _ _ _ (by go_simp) h1).mono ?_
    rintro e w1 ⟨rfl, rfl⟩
    go_wp2
    go_loopg [3] (s.size + 1) (fun g _ wr => ∃ k : Nat, k ≤ s.size ∧ wr = (w.alloc (.cells #[.int .i64 (s.size : Int)] 3)).iter s k ∧ Hid (∀ j, j < k → okAt j (s.data.toList[j]?.getD 0)) ∧ s.size + 1 ≤ g + k)
    case atStart => exact ⟨0, Nat.zero_le _, rfl, fun j hj => absurd hj (by omega), by omega⟩
    case round =>
      obtain ⟨k, hk, rfl, hok, hg⟩ := hrel
      have hBel : ∀ p, Below w.heap.size w ((w.alloc (.cells #[.int .i64 (s.size : Int)] 3)).iter s p) := fun p => ((Below.refl _ _).alloc (Nat.le_refl _) _).alloc (by simp) _
      have HBel := hide hBel
      clear hBel
      by_cases hlt : k < s.size
      · have hno := name_no s k hlt
        have hst : okAt k s[k] → ∀ j, j < k + 1 → okAt j (s.data.toList[j]?.getD 0) := fun hb j hj => by
          by_cases e : j = k
          · subst e; rw [byte_at s j hlt]; exact hb
          · exact hok.out j (by omega)
        have hb256 : s[k].toNat < 256 := UInt8.toNat_lt _
        by_cases ha : s[k].toNat < 128
        · have hn := run_next_ascii (P := Tryz.prog) (w.alloc (.cells #[.int .i64 (s.size : Int)] 3)) s k 0 hlt ha
          rw [World.size_alloc] at hn
          generalize s[k] = b at *
          have HN := hide hno
          have HS := hide hst
          clear hno hst
          have hk0 : k = 0 ∨ ((k : Int) == 0) = false ∧ 0 < k := by
            rcases Nat.eq_zero_or_pos k with h | h
            · exact .inl h
            · exact .inr ⟨by rw [beq_eq_false_iff_ne]; omega, h⟩
          rcases hk0 with rfl | ⟨hk0, hk1⟩
          all_goals go_wp2
          all_goals first
            | (exfalso; omega)
            | (go_ret
               exact ⟨ret_bool (HN.out (by unfold okAt isLet isDig; omega)).symm, HBel.out _⟩)
            | (go_roundg (gk - 1)
               case measure => omega
               case rel => exact ⟨_, by omega, rfl, HS.out (by unfold okAt isLet isDig; omega), by omega⟩)
        · have hn := run_next_any (P := Tryz.prog) (w.alloc (.cells #[.int .i64 (s.size : Int)] 3)) s k 0 hlt
          rw [World.size_alloc] at hn
          have hd := decode_high s k hlt (by omega)
          have hd2 := decode_le s k
          have HN := hide hno
          clear hno hst
          generalize (Utf8.decode s k).1 = r at *
          go_wp2
          all_goals first
            | (exfalso; omega)
            | (go_ret
               exact ⟨ret_bool (HN.out (by unfold okAt isLet isDig; omega)).symm, HBel.out _⟩)
      · have hn := run_next_end (P := Tryz.prog) (w.alloc (.cells #[.int .i64 (s.size : Int)] 3)) s k 0 hlt
        rw [World.size_alloc] at hn
        go_wp2
        go_ret
        refine ⟨ret_bool ?_, HBel.out _⟩
        symm
        unfold nameB
        rw [decide_eq_true_iff]
        refine ⟨by simpa using (show 1 ≤ s.size ∧ s.size ≤ 16 by omega), fun j hj => hok.out j ?_⟩
        have hj' : j < s.size := by simpa using hj
        omega
  · have hno : nameB s = false := by
      unfold nameB
      rw [decide_eq_false_iff_not]
      rintro ⟨h2, _⟩
      have h3 : s.data.toList.length = s.size := by simp
      omega
    have HN := hide hno
    clear hno
    go_enter Tryz.func20, Tryz.ntmps20
    go_wp2_with fail
    refine (within_one_no _ _ (s.size : Int) _ _ _ _ (by go_simp) h1).mono ?_
    rintro e w1 ⟨rfl, rfl⟩
    go_wp2
    go_ret
    exact ⟨ret_bool HN.out.symm, (Below.refl _ _).alloc (Nat.le_refl _) _⟩
end Go.Proofs.YtjfdfhnfcpfmcaaGreatDoor

/-
  Bits of int64 numbers that are not negative, as bits of natural numbers. Of no program.
-/
namespace Go.Proofs.YtjfdfhnfcpfmcaaGreatDoor.Bits
open Go

theorem wrap_nat (n : Nat) (h : n < 2 ^ 63) : IntKind.i64.wrap (n : Int) = (n : Int) := by
  rw [IntKind.wrap_i64]; omega
theorem ofInt_nat (a : Nat) : BitVec.ofInt 64 (a : Int) = BitVec.ofNat 64 a := by
  apply BitVec.eq_of_toNat_eq; simp
theorem and_nat (a b : Nat) (ha : a < 2 ^ 63) (hb : b < 2 ^ 63) : bits .and .i64 (a : Int) (b : Int) = ((a &&& b : Nat) : Int) := by
  show IntKind.i64.wrap ((BitVec.ofInt 64 a &&& BitVec.ofInt 64 b).toNat : Nat) = _
  rw [ofInt_nat, ofInt_nat, BitVec.toNat_and, BitVec.toNat_ofNat, BitVec.toNat_ofNat, Nat.mod_eq_of_lt (by omega), Nat.mod_eq_of_lt (by omega)]
  exact wrap_nat _ (Nat.lt_of_le_of_lt Nat.and_le_left ha)
theorem or_nat (a b : Nat) (ha : a < 2 ^ 63) (hb : b < 2 ^ 63) : bits .or .i64 (a : Int) (b : Int) = ((a ||| b : Nat) : Int) := by
  show IntKind.i64.wrap ((BitVec.ofInt 64 a ||| BitVec.ofInt 64 b).toNat : Nat) = _
  rw [ofInt_nat, ofInt_nat, BitVec.toNat_or, BitVec.toNat_ofNat, BitVec.toNat_ofNat, Nat.mod_eq_of_lt (by omega), Nat.mod_eq_of_lt (by omega)]
  exact wrap_nat _ (Nat.or_lt_two_pow ha hb)
/-- The bits of a that b has not. -/
def andNot (a b : Nat) : Nat := a ^^^ (a &&& b)
theorem testBit_andNot (a b i : Nat) : (andNot a b).testBit i = (a.testBit i && !b.testBit i) := by
  unfold andNot
  rw [Nat.testBit_xor, Nat.testBit_and]
  cases a.testBit i <;> cases b.testBit i <;> rfl
theorem andNot_le (a b : Nat) (ha : a < 2 ^ 63) : andNot a b < 2 ^ 63 := by
  unfold andNot
  exact Nat.xor_lt_two_pow ha (Nat.lt_of_le_of_lt Nat.and_le_left ha)
theorem andNot_nat (a b : Nat) (ha : a < 2 ^ 63) : bits .andNot .i64 (a : Int) (b : Int) = ((andNot a b : Nat) : Int) := by
  have key : (BitVec.ofNat 64 a &&& ~~~ BitVec.ofNat 64 b).toNat = andNot a b := by
    apply Nat.eq_of_testBit_eq
    intro i
    rw [testBit_andNot, ← BitVec.getLsbD, BitVec.getLsbD_and, BitVec.getLsbD_not, BitVec.getLsbD_ofNat, BitVec.getLsbD_ofNat]
    by_cases hi : i < 64
    · simp [hi]
    · have : a.testBit i = false := Nat.testBit_lt_two_pow (Nat.lt_of_lt_of_le ha (Nat.pow_le_pow_right (by omega) (by omega)))
      simp [hi, this]
  show IntKind.i64.wrap ((BitVec.ofInt 64 a &&& ~~~ BitVec.ofInt 64 b).toNat : Nat) = _
  rw [ofInt_nat, ofInt_nat, key]
  exact wrap_nat _ (andNot_le a b ha)
theorem or_pow (F k : Nat) (hF : F < 2 ^ 63) (hk : k < 63) : bits .or .i64 (F : Int) (Go.RowKit.wrap64 (2 ^ k)) = ((F ||| 2 ^ k : Nat) : Int) := by
  have h2 : 2 ^ k < 2 ^ 63 := Nat.pow_lt_pow_right (by omega) hk
  have h1 : Go.RowKit.wrap64 (2 ^ k) = ((2 ^ k : Nat) : Int) := by
    have := wrap_nat (2 ^ k) h2
    rw [IntKind.wrap_i64] at this
    unfold Go.RowKit.wrap64
    rw [← this]; simp
  rw [h1]
  exact or_nat F (2 ^ k) hF h2
/-- Bit b of s, as the program asks for it. -/
theorem and_one (s b : Nat) (hs : s < 2 ^ 63) : (bits .and .i64 ((s : Int) / 2 ^ b) 1 == 1) = s.testBit b := by
  have e : ((s : Int) / 2 ^ b) = ((s / 2 ^ b : Nat) : Int) := by simp
  have h : s / 2 ^ b < 2 ^ 63 := Nat.lt_of_le_of_lt (Nat.div_le_self _ _) hs
  have h2 := and_nat (s / 2 ^ b) 1 h (by omega)
  rw [e]
  rw [show ((1 : Nat) : Int) = 1 from rfl] at h2
  rw [h2, Nat.and_one_is_mod, Nat.testBit_eq_decide_div_mod_eq, Bool.eq_iff_iff, beq_iff_eq, decide_eq_true_iff]
  omega
end Go.Proofs.YtjfdfhnfcpfmcaaGreatDoor.Bits

namespace Go.Proofs.YtjfdfhnfcpfmcaaGreatDoor
open Go.RowKit RG

theorem has_any (s b : Nat) (w : World) (hs : s < 2 ^ 40) (hb : b < 40) :
    Calls Tryz.prog 103 #[.int .i64 (s : Int), .int .i64 (b : Int)] w fun e w' => e = .returned (.bool (s.testBit b)) ∧ w = w' := by
  go_enter Tryz.func103, Tryz.ntmps103
  go_wp2
  go_ret
  exact ⟨ret_bool (Bits.and_one s b (by omega)), rfl⟩

set_option maxHeartbeats 1000000 in
theorem IndexFuncCls (g : Nat) (lb : Array Value) (eg : ∀ args w, (callFunc g args).run Tryz.prog w = .ok (.enter g args) w) (p : Nat → Bool) (A : Option Addr) (n c : Nat) (xs : List (List Value)) (w : World)
    (h : RdRow w A n 5 xs) (hm : n ≤ maxLen)
    (hp : ∀ j W, j < n → Below w.heap.size w W → Calls Tryz.prog g (#[.agg (xs[j]?.getD []).toArray] ++ lb) W fun e w' => e = .returned (.bool (p j)) ∧ Below W.heap.size W w') :
    Calls Tryz.prog 120 #[.slice A n c, .func (.func g) #[] lb] w fun e w' => e = .returned (.int .i64 (firstIdx p 0 n)) ∧ Below w.heap.size w w' := by
  unfold maxLen at hm
  go_enter Tryz.func120, Tryz.ntmps120
  go_wp2
  go_loopg [5, 8] n (fun gg _ s8 wr => ∃ k : Nat, k ≤ n ∧ n - k ≤ gg ∧ s8 = .int .i64 k ∧ Hid (Below w.heap.size w wr) ∧ Hid (firstIdx p 0 n = firstIdx p k (n - k)))
  case atStart => exact ⟨0, Nat.zero_le _, by omega, rfl, Below.refl _ w, rfl⟩
  case round =>
    obtain ⟨k, hk, hg, rfl, BW, A1⟩ := hrel
    by_cases hlt : k < n
    · have hltz : (k : Int) < (n : Int) := by omega
      obtain ⟨b, off, x0, x1, x2, x3, x4, rfl, hb, hx, c0, c1, c2, c3, c4⟩ := (h.below BW.out).cells5 hlt
      have hcall := hp k wr hlt BW.out
      rw [hx] at hcall
      clear hp hx
      have h := hide h
      cases hq : p k with
      | true =>
        rw [hq] at hcall
        have hfin : firstIdx p 0 n = k := by rw [A1.out, show n - k = (n - k - 1) + 1 by omega, firstIdx_hit hq]
        have HF := hide hfin
        clear hfin hq
        go_wp2_with (go_at_fn g; refine hcall.mono ?_; rintro e w' ⟨rfl, hb'⟩)
        go_ret
        exact ⟨ret_int HF.out.symm, BW.out.trans (hb'.mono BW.out.size)⟩
      | false =>
        rw [hq] at hcall
        have hfin : firstIdx p 0 n = firstIdx p (k + 1) (n - (k + 1)) := by rw [A1.out, show n - k = (n - (k + 1)) + 1 by omega, firstIdx_miss hq]
        have HF := hide hfin
        clear hfin hq
        go_wp2_with (go_at_fn g; refine hcall.mono ?_; rintro e w' ⟨rfl, hb'⟩)
        go_roundg (n - (k + 1))
        case measure => omega
        case rel => exact ⟨k + 1, by omega, by omega, by go_num, BW.out.trans (hb'.mono BW.out.size), HF.out⟩
    · have hltz : ¬ (k : Int) < (n : Int) := by omega
      have hfin : firstIdx p 0 n = -1 := by rw [A1.out, show n - k = 0 by omega]; rfl
      have HF := hide hfin
      clear hfin
      go_wp2
      go_ret
      exact ⟨ret_int HF.out.symm, BW.out⟩
set_option maxHeartbeats 1000000 in
theorem IndexFuncRts (g : Nat) (lb : Array Value) (eg : ∀ args w, (callFunc g args).run Tryz.prog w = .ok (.enter g args) w) (p : Nat → Bool) (A : Option Addr) (n c : Nat) (xs : List (List Value)) (w : World)
    (h : RdRow w A n 2 xs) (hm : n ≤ maxLen)
    (hp : ∀ j W, j < n → Below w.heap.size w W → Calls Tryz.prog g (#[.agg (xs[j]?.getD []).toArray] ++ lb) W fun e w' => e = .returned (.bool (p j)) ∧ Below W.heap.size W w') :
    Calls Tryz.prog 104 #[.slice A n c, .func (.func g) #[] lb] w fun e w' => e = .returned (.int .i64 (firstIdx p 0 n)) ∧ Below w.heap.size w w' := by
  unfold maxLen at hm
  go_enter Tryz.func104, Tryz.ntmps104
  go_wp2
  go_loopg [5, 8] n (fun gg _ s8 wr => ∃ k : Nat, k ≤ n ∧ n - k ≤ gg ∧ s8 = .int .i64 k ∧ Hid (Below w.heap.size w wr) ∧ Hid (firstIdx p 0 n = firstIdx p k (n - k)))
  case atStart => exact ⟨0, Nat.zero_le _, by omega, rfl, Below.refl _ w, rfl⟩
  case round =>
    obtain ⟨k, hk, hg, rfl, BW, A1⟩ := hrel
    by_cases hlt : k < n
    · have hltz : (k : Int) < (n : Int) := by omega
      obtain ⟨b, off, x0, x1, rfl, hb, hx, c0, c1⟩ := (h.below BW.out).cells2 hlt
      have hcall := hp k wr hlt BW.out
      rw [hx] at hcall
      clear hp hx
      have h := hide h
      cases hq : p k with
      | true =>
        rw [hq] at hcall
        have hfin : firstIdx p 0 n = k := by rw [A1.out, show n - k = (n - k - 1) + 1 by omega, firstIdx_hit hq]
        have HF := hide hfin
        clear hfin hq
        go_wp2_with (go_at_fn g; refine hcall.mono ?_; rintro e w' ⟨rfl, hb'⟩)
        go_ret
        exact ⟨ret_int HF.out.symm, BW.out.trans (hb'.mono BW.out.size)⟩
      | false =>
        rw [hq] at hcall
        have hfin : firstIdx p 0 n = firstIdx p (k + 1) (n - (k + 1)) := by rw [A1.out, show n - k = (n - (k + 1)) + 1 by omega, firstIdx_miss hq]
        have HF := hide hfin
        clear hfin hq
        go_wp2_with (go_at_fn g; refine hcall.mono ?_; rintro e w' ⟨rfl, hb'⟩)
        go_roundg (n - (k + 1))
        case measure => omega
        case rel => exact ⟨k + 1, by omega, by omega, by go_num, BW.out.trans (hb'.mono BW.out.size), HF.out⟩
    · have hltz : ¬ (k : Int) < (n : Int) := by omega
      have hfin : firstIdx p 0 n = -1 := by rw [A1.out, show n - k = 0 by omega]; rfl
      have HF := hide hfin
      clear hfin
      go_wp2
      go_ret
      exact ⟨ret_int HF.out.symm, BW.out⟩
theorem ContainsFuncCls (g : Nat) (lb : Array Value) (eg : ∀ args w, (callFunc g args).run Tryz.prog w = .ok (.enter g args) w) (p : Nat → Bool) (A : Option Addr) (n c : Nat) (xs : List (List Value)) (w : World)
    (h : RdRow w A n 5 xs) (hm : n ≤ maxLen)
    (hp : ∀ j W, j < n → Below w.heap.size w W → Calls Tryz.prog g (#[.agg (xs[j]?.getD []).toArray] ++ lb) W fun e w' => e = .returned (.bool (p j)) ∧ Below W.heap.size W w') :
    Calls Tryz.prog 98 #[.slice A n c, .func (.func g) #[] lb] w fun e w' => e = .returned (.bool (anyIdx p n)) ∧ Below w.heap.size w w' := by
  go_enter Tryz.func98, Tryz.ntmps98
  go_wp2_with fail
  refine (IndexFuncCls g lb eg p A n c xs w h hm hp).mono ?_
  rintro e w1 ⟨rfl, hb⟩
  go_wp2
  go_ret
  exact ⟨rfl, hb⟩
theorem ContainsFuncRts (g : Nat) (lb : Array Value) (eg : ∀ args w, (callFunc g args).run Tryz.prog w = .ok (.enter g args) w) (p : Nat → Bool) (A : Option Addr) (n c : Nat) (xs : List (List Value)) (w : World)
    (h : RdRow w A n 2 xs) (hm : n ≤ maxLen)
    (hp : ∀ j W, j < n → Below w.heap.size w W → Calls Tryz.prog g (#[.agg (xs[j]?.getD []).toArray] ++ lb) W fun e w' => e = .returned (.bool (p j)) ∧ Below W.heap.size W w') :
    Calls Tryz.prog 78 #[.slice A n c, .func (.func g) #[] lb] w fun e w' => e = .returned (.bool (anyIdx p n)) ∧ Below w.heap.size w w' := by
  go_enter Tryz.func78, Tryz.ntmps78
  go_wp2_with fail
  refine (IndexFuncRts g lb eg p A n c xs w h hm hp).mono ?_
  rintro e w1 ⟨rfl, hb⟩
  go_wp2
  go_ret
  exact ⟨rfl, hb⟩
end Go.Proofs.YtjfdfhnfcpfmcaaGreatDoor

namespace Go.Proofs.YtjfdfhnfcpfmcaaGreatDoor
open Go.RowKit RG
/-- The cells of a class. -/
def IsCls (x : List Value) : Prop := ∃ (nm : ByteArray) (ia : Option Addr) (il ic : Nat) (i2 i3 i4 : Int), x = [.string nm, .slice ia il ic, .int .i64 i2, .int .i64 i3, .int .i64 i4]

/-- The cells of a right. -/
def IsRt (x : List Value) : Prop := ∃ i0 i1 : Int, x = [.int .i64 i0, .int .i64 i1]
set_option maxHeartbeats 1000000 in
theorem firstErrorCls (g : Nat) (bd lb : Array Value) (eg : ∀ args w, (callFunc g args).run Tryz.prog w = .ok (.enter g args) w) (err : Nat → Int) (A : Option Addr) (n c : Nat) (xs : List (List Value)) (w : World)
    (h : RdRow w A n 5 xs) (ht : ∀ x ∈ xs, IsCls x) (hm : n ≤ maxLen)
    (hp : ∀ j W, j < n → Below w.heap.size w W → Calls Tryz.prog g (bd ++ (#[.int .i64 j, .agg (xs[j]?.getD []).toArray] ++ lb)) W fun e w' => e = .returned (.int .i64 (err j)) ∧ Below W.heap.size W w') :
    Calls Tryz.prog 65 #[.slice A n c, .func (.func g) bd lb] w fun e w' => e = .returned (.tuple #[.int .i64 (firstErr err 0 n).1, .int .i64 (firstErr err 0 n).2]) ∧ Below w.heap.size w w' := by
  unfold maxLen at hm
  go_enter Tryz.func65, Tryz.ntmps65
  go_wp2
  go_loopg [6, 7, 8, 11] n (fun gg _ _ _ s11 wr => ∃ k : Nat, k ≤ n ∧ n - k ≤ gg ∧ s11 = .int .i64 k ∧ Hid (Below w.heap.size w wr) ∧ Hid (firstErr err 0 n = firstErr err k (n - k)))
  case atStart => exact ⟨0, Nat.zero_le _, by omega, rfl, Below.refl _ w, rfl⟩
  case round =>
    obtain ⟨k, hk, hg, rfl, BW, A1⟩ := hrel
    by_cases hlt : k < n
    · have hltz : (k : Int) < (n : Int) := by omega
      obtain ⟨b, off, x0, x1, x2, x3, x4, rfl, hb, hx, c0, c1, c2, c3, c4⟩ := (h.below BW.out).cells5 hlt
      have hB2 : Below w.heap.size w (wr.alloc (.cells #[x0, x1, x2, x3, x4] 93)) := BW.out.alloc BW.out.size _
      have hcall := hp k _ hlt hB2
      rw [hx] at hcall
      have hmem : xs[k]?.getD [] ∈ xs := by
        have hl : k < xs.length := by rw [h.1]; exact hlt
        rw [List.getElem?_eq_getElem hl]; exact List.getElem_mem hl
      obtain ⟨nm, ia, il, ic, i2, i3, i4, he⟩ := ht _ hmem
      rw [hx] at he
      clear hx
      obtain ⟨rfl, rfl, rfl, rfl, rfl⟩ : x0 = .string nm ∧ x1 = .slice ia il ic ∧ x2 = .int .i64 i2 ∧ x3 = .int .i64 i3 ∧ x4 = .int .i64 i4 := by simpa using he
      clear he hmem ht
      have HB2 := hide hB2
      clear hp hB2
      have h := hide h
      by_cases hq : err k = 0
      · have hfin : firstErr err 0 n = firstErr err (k + 1) (n - (k + 1)) := by rw [A1.out, show n - k = (n - (k + 1)) + 1 by omega]; simp [firstErr, hq]
        have HF := hide hfin
        rw [hq] at hcall
        clear hfin hq
        go_wp2_with (go_at_fn g; refine hcall.mono ?_; rintro e w' ⟨rfl, hb'⟩)
        go_roundg (n - (k + 1))
        case measure => omega
        case rel => exact ⟨k + 1, by omega, by omega, by go_num, HB2.out.trans (hb'.mono HB2.out.size), HF.out⟩
      · have hfin : firstErr err 0 n = ((k : Int), err k) := by rw [A1.out, show n - k = (n - k - 1) + 1 by omega]; simp [firstErr, hq]
        have HF := hide hfin
        have hq2 : (err k == 0) = false := by rw [beq_eq_false_iff_ne]; exact hq
        have hq3 : (err k != 0) = true := by rw [bne_iff_ne]; exact hq
        clear hfin
        generalize err k = ek at *
        go_wp2_with (go_at_fn g; refine hcall.mono ?_; rintro e w' ⟨rfl, hb'⟩)
        go_ret2
        exact ⟨by rw [HF.out]; rfl, HB2.out.trans (hb'.mono HB2.out.size)⟩
    · have hltz : ¬ (k : Int) < (n : Int) := by omega
      have hfin : firstErr err 0 n = (0, 0) := by rw [A1.out, show n - k = 0 by omega]; rfl
      have HF := hide hfin
      clear hfin
      go_wp2
      go_ret2
      exact ⟨by rw [HF.out]; rfl, BW.out⟩
set_option maxHeartbeats 1000000 in
theorem firstErrorRts (g : Nat) (bd lb : Array Value) (eg : ∀ args w, (callFunc g args).run Tryz.prog w = .ok (.enter g args) w) (err : Nat → Int) (A : Option Addr) (n c : Nat) (xs : List (List Value)) (w : World)
    (h : RdRow w A n 2 xs) (ht : ∀ x ∈ xs, IsRt x) (hm : n ≤ maxLen)
    (hp : ∀ j W, j < n → Below w.heap.size w W → Calls Tryz.prog g (bd ++ (#[.int .i64 j, .agg (xs[j]?.getD []).toArray] ++ lb)) W fun e w' => e = .returned (.int .i64 (err j)) ∧ Below W.heap.size W w') :
    Calls Tryz.prog 123 #[.slice A n c, .func (.func g) bd lb] w fun e w' => e = .returned (.tuple #[.int .i64 (firstErr err 0 n).1, .int .i64 (firstErr err 0 n).2]) ∧ Below w.heap.size w w' := by
  unfold maxLen at hm
  go_enter Tryz.func123, Tryz.ntmps123
  go_wp2
  go_loopg [6, 7, 8, 11] n (fun gg _ _ _ s11 wr => ∃ k : Nat, k ≤ n ∧ n - k ≤ gg ∧ s11 = .int .i64 k ∧ Hid (Below w.heap.size w wr) ∧ Hid (firstErr err 0 n = firstErr err k (n - k)))
  case atStart => exact ⟨0, Nat.zero_le _, by omega, rfl, Below.refl _ w, rfl⟩
  case round =>
    obtain ⟨k, hk, hg, rfl, BW, A1⟩ := hrel
    by_cases hlt : k < n
    · have hltz : (k : Int) < (n : Int) := by omega
      obtain ⟨b, off, x0, x1, rfl, hb, hx, c0, c1⟩ := (h.below BW.out).cells2 hlt
      have hB2 : Below w.heap.size w (wr.alloc (.cells #[x0, x1] 64)) := BW.out.alloc BW.out.size _
      have hcall := hp k _ hlt hB2
      rw [hx] at hcall
      have hmem : xs[k]?.getD [] ∈ xs := by
        have hl : k < xs.length := by rw [h.1]; exact hlt
        rw [List.getElem?_eq_getElem hl]; exact List.getElem_mem hl
      obtain ⟨i0, i1, he⟩ := ht _ hmem
      rw [hx] at he
      clear hx
      obtain ⟨rfl, rfl⟩ : x0 = .int .i64 i0 ∧ x1 = .int .i64 i1 := by simpa using he
      clear he hmem ht
      have HB2 := hide hB2
      clear hp hB2
      have h := hide h
      by_cases hq : err k = 0
      · have hfin : firstErr err 0 n = firstErr err (k + 1) (n - (k + 1)) := by rw [A1.out, show n - k = (n - (k + 1)) + 1 by omega]; simp [firstErr, hq]
        have HF := hide hfin
        rw [hq] at hcall
        clear hfin hq
        go_wp2_with (go_at_fn g; refine hcall.mono ?_; rintro e w' ⟨rfl, hb'⟩)
        go_roundg (n - (k + 1))
        case measure => omega
        case rel => exact ⟨k + 1, by omega, by omega, by go_num, HB2.out.trans (hb'.mono HB2.out.size), HF.out⟩
      · have hfin : firstErr err 0 n = ((k : Int), err k) := by rw [A1.out, show n - k = (n - k - 1) + 1 by omega]; simp [firstErr, hq]
        have HF := hide hfin
        have hq2 : (err k == 0) = false := by rw [beq_eq_false_iff_ne]; exact hq
        have hq3 : (err k != 0) = true := by rw [bne_iff_ne]; exact hq
        clear hfin
        generalize err k = ek at *
        go_wp2_with (go_at_fn g; refine hcall.mono ?_; rintro e w' ⟨rfl, hb'⟩)
        go_ret2
        exact ⟨by rw [HF.out]; rfl, HB2.out.trans (hb'.mono HB2.out.size)⟩
    · have hltz : ¬ (k : Int) < (n : Int) := by omega
      have hfin : firstErr err 0 n = (0, 0) := by rw [A1.out, show n - k = 0 by omega]; rfl
      have HF := hide hfin
      clear hfin
      go_wp2
      go_ret2
      exact ⟨by rw [HF.out]; rfl, BW.out⟩
set_option maxHeartbeats 1000000 in
theorem firstErrorStr (g : Nat) (bd lb : Array Value) (eg : ∀ args w, (callFunc g args).run Tryz.prog w = .ok (.enter g args) w) (err : Nat → Int) (A : Option Addr) (n c : Nat) (xs : List ByteArray) (w : World)
    (h : RdStrs w A n xs) (hm : n ≤ maxLen)
    (hp : ∀ j W, j < n → Below w.heap.size w W → Calls Tryz.prog g (bd ++ (#[.int .i64 j, .string (xs[j]?.getD ⟨#[]⟩)] ++ lb)) W fun e w' => e = .returned (.int .i64 (err j)) ∧ Below W.heap.size W w') :
    Calls Tryz.prog 67 #[.slice A n c, .func (.func g) bd lb] w fun e w' => e = .returned (.tuple #[.int .i64 (firstErr err 0 n).1, .int .i64 (firstErr err 0 n).2]) ∧ Below w.heap.size w w' := by
  unfold maxLen at hm
  go_enter Tryz.func67, Tryz.ntmps67
  go_wp2
  go_loopg [6, 7, 8, 11] n (fun gg _ _ _ s11 wr => ∃ k : Nat, k ≤ n ∧ n - k ≤ gg ∧ s11 = .int .i64 k ∧ Hid (Below w.heap.size w wr) ∧ Hid (firstErr err 0 n = firstErr err k (n - k)))
  case atStart => exact ⟨0, Nat.zero_le _, by omega, rfl, Below.refl _ w, rfl⟩
  case round =>
    obtain ⟨k, hk, hg, rfl, BW, A1⟩ := hrel
    by_cases hlt : k < n
    · have hltz : (k : Int) < (n : Int) := by omega
      obtain ⟨b, off, rfl, hb, hc0⟩ := (h.below BW.out).2.2 (by omega)
      have hl : k < xs.length := by rw [h.1]; exact hlt
      have c0 := hc0 k xs[k] (List.getElem?_eq_getElem hl)
      clear hc0
      have hB2 := BW.out
      have hcall := hp k _ hlt hB2
      rw [show xs[k]?.getD ⟨#[]⟩ = xs[k] by rw [List.getElem?_eq_getElem hl]; rfl] at hcall
      generalize xs[k] = x at *
      have HB2 := hide hB2
      clear hp hB2
      have h := hide h
      by_cases hq : err k = 0
      · have hfin : firstErr err 0 n = firstErr err (k + 1) (n - (k + 1)) := by rw [A1.out, show n - k = (n - (k + 1)) + 1 by omega]; simp [firstErr, hq]
        have HF := hide hfin
        rw [hq] at hcall
        clear hfin hq
        go_wp2_with (go_at_fn g; refine hcall.mono ?_; rintro e w' ⟨rfl, hb'⟩)
        go_roundg (n - (k + 1))
        case measure => omega
        case rel => exact ⟨k + 1, by omega, by omega, by go_num, HB2.out.trans (hb'.mono HB2.out.size), HF.out⟩
      · have hfin : firstErr err 0 n = ((k : Int), err k) := by rw [A1.out, show n - k = (n - k - 1) + 1 by omega]; simp [firstErr, hq]
        have HF := hide hfin
        have hq2 : (err k == 0) = false := by rw [beq_eq_false_iff_ne]; exact hq
        have hq3 : (err k != 0) = true := by rw [bne_iff_ne]; exact hq
        clear hfin
        generalize err k = ek at *
        go_wp2_with (go_at_fn g; refine hcall.mono ?_; rintro e w' ⟨rfl, hb'⟩)
        go_ret2
        exact ⟨by rw [HF.out]; rfl, HB2.out.trans (hb'.mono HB2.out.size)⟩
    · have hltz : ¬ (k : Int) < (n : Int) := by omega
      have hfin : firstErr err 0 n = (0, 0) := by rw [A1.out, show n - k = 0 by omega]; rfl
      have HF := hide hfin
      clear hfin
      go_wp2
      go_ret2
      exact ⟨by rw [HF.out]; rfl, BW.out⟩
end Go.Proofs.YtjfdfhnfcpfmcaaGreatDoor

namespace Go.Proofs.YtjfdfhnfcpfmcaaGreatDoor
open Go.RowKit RG

/-- Two strings are the same. -/
def eqS (a b : ByteArray) : Bool := a.toList == b.toList
theorem eqS_iff {a b : ByteArray} : eqS a b = true ↔ a = b := by
  unfold eqS
  rw [beq_iff_eq, ByteArray.toList_eq, ByteArray.toList_eq]
  constructor
  · intro h
    cases a; cases b
    congr
    exact Array.ext' h
  · rintro rfl; rfl

set_option maxHeartbeats 1000000 in
theorem IndexStr (A : Option Addr) (n c : Nat) (xs : List ByteArray) (x : ByteArray) (w : World) (h : RdStrs w A n xs) (hm : n ≤ maxLen) :
    Calls Tryz.prog 121 #[.slice A n c, .string x] w fun e w' => e = .returned (.int .i64 (firstIdx (fun j => eqS x (xs[j]?.getD ⟨#[]⟩)) 0 n)) ∧ w = w' := by
  unfold maxLen at hm
  obtain ⟨p, hp⟩ : ∃ p : Nat → Bool, p = fun j => eqS x (xs[j]?.getD ⟨#[]⟩) := ⟨_, rfl⟩
  rw [← hp]
  have hpk : ∀ k, p k = eqS x (xs[k]?.getD ⟨#[]⟩) := fun k => by rw [hp]
  clear hp
  have HP := hide hpk
  clear hpk
  go_enter Tryz.func121, Tryz.ntmps121
  go_wp2
  go_loop [5, 8] (fun _ s8 => ∃ k : Nat, k ≤ n ∧ s8 = .int .i64 k ∧ Hid (firstIdx p 0 n = firstIdx p k (n - k))) (fun _ i => n - (intOf i).toNat)
  case atStart => exact ⟨0, Nat.zero_le _, rfl, rfl⟩
  case round =>
    obtain ⟨k, hk, rfl, A1⟩ := hrel
    by_cases hlt : k < n
    · have hltz : (k : Int) < (n : Int) := by omega
      obtain ⟨b, off, rfl, hb, hc0⟩ := h.2.2 (by omega)
      have hl : k < xs.length := by rw [h.1]; exact hlt
      have c0 := hc0 k xs[k] (List.getElem?_eq_getElem hl)
      clear hc0
      have hpk := HP.out k
      rw [show xs[k]?.getD ⟨#[]⟩ = xs[k] by rw [List.getElem?_eq_getElem hl]; rfl] at hpk
      generalize xs[k] = z at *
      unfold eqS at hpk
      have h := hide h
      cases hq : p k with
      | true =>
        have hfin : firstIdx p 0 n = k := by rw [A1.out, show n - k = (n - k - 1) + 1 by omega, firstIdx_hit hq]
        have HF := hide hfin
        have heq : (x.toList == z.toList) = true := by rw [← hpk, hq]
        clear hfin hq hpk
        go_wp2
        go_ret
        exact ⟨ret_int HF.out.symm, rfl⟩
      | false =>
        have hfin : firstIdx p 0 n = firstIdx p (k + 1) (n - (k + 1)) := by rw [A1.out, show n - k = (n - (k + 1)) + 1 by omega, firstIdx_miss hq]
        have HF := hide hfin
        have heq : (x.toList == z.toList) = false := by rw [← hpk, hq]
        clear hfin hq hpk
        go_wp2
        go_round
        case rel => exact ⟨k + 1, by omega, by go_num, HF.out⟩
        case measure => simp [intOf]; omega
    · have hltz : ¬ (k : Int) < (n : Int) := by omega
      have hfin : firstIdx p 0 n = -1 := by rw [A1.out, show n - k = 0 by omega]; rfl
      have HF := hide hfin
      clear hfin
      go_wp2
      go_ret
      exact ⟨ret_int HF.out.symm, rfl⟩
theorem ContainsStr (A : Option Addr) (n c : Nat) (xs : List ByteArray) (x : ByteArray) (w : World) (h : RdStrs w A n xs) (hm : n ≤ maxLen) :
    Calls Tryz.prog 100 #[.slice A n c, .string x] w fun e w' => e = .returned (.bool (anyIdx (fun j => eqS x (xs[j]?.getD ⟨#[]⟩)) n)) ∧ w = w' := by
  go_enter Tryz.func100, Tryz.ntmps100
  go_wp2_with fail
  refine (IndexStr A n c xs x w h hm).mono ?_
  rintro e w1 ⟨rfl, rfl⟩
  generalize hp : (fun j : Nat => eqS x (xs[j]?.getD ⟨#[]⟩)) = p
  have HP := hide hp
  clear hp
  go_wp2
  go_ret
  exact ⟨ret_bool (by unfold anyIdx; rw [HP.out]), rfl⟩
end Go.Proofs.YtjfdfhnfcpfmcaaGreatDoor

/-
  Systems of classes as they lie in memory, and the closures that tell their errors.
-/
namespace Go.Proofs.YtjfdfhnfcpfmcaaGreatDoor
open Go.RowKit RG

structure Cls where
  name : ByteArray
  inc : List Int
  needs : Int
  age : Int
  term : Int
instance : Inhabited Cls := ⟨⟨⟨#[]⟩, [], 0, 0, 0⟩⟩

/-- The five cells x are the class c. -/
def RdCls (w : World) (x : List Value) (c : Cls) : Prop := ∃ ia ic, x = [.string c.name, .slice ia c.inc.length ic, .int .i64 c.needs, .int .i64 c.age, .int .i64 c.term] ∧
  RdInts w ia c.inc.length c.inc ∧ c.inc.length ≤ maxLen ∧ c.name.size ≤ maxLen
theorem RdCls.below {w w' : World} {x : List Value} {c : Cls} (h : RdCls w x c) (hb : Below w.heap.size w w') : RdCls w' x c := by
  obtain ⟨ia, ic, h1, h2, h3⟩ := h
  exact ⟨ia, ic, h1, h2.below hb, h3⟩
theorem RdCls.isCls {w : World} {x : List Value} {c : Cls} (h : RdCls w x c) : IsCls x := by
  obtain ⟨ia, ic, h1, _⟩ := h
  exact ⟨_, _, _, _, _, _, _, h1⟩
/-- The slice '.slice A n _' holds the classes cs. -/
def RdClss (w : World) (A : Option Addr) (n : Nat) (xs : List (List Value)) (cs : List Cls) : Prop :=
  RdRow w A n 5 xs ∧ cs.length = n ∧ n ≤ maxLen ∧ ∀ j, j < n → RdCls w (xs[j]?.getD []) (cs[j]?.getD default)
section
variable {w w' : World} {A : Option Addr} {n : Nat} {xs : List (List Value)} {cs : List Cls}
theorem RdClss.below (h : RdClss w A n xs cs) (hb : Below w.heap.size w w') : RdClss w' A n xs cs := ⟨h.1.below hb, h.2.1, h.2.2.1, fun j hj => (h.2.2.2 j hj).below hb⟩
theorem RdClss.isCls (h : RdClss w A n xs cs) : ∀ x ∈ xs, IsCls x := by
  intro x hx
  obtain ⟨j, hj, rfl⟩ := List.mem_iff_getElem.1 hx
  have := (h.2.2.2 j (by rw [← h.1.1]; exact hj)).isCls
  rwa [List.getElem?_eq_getElem hj] at this
end

/-- The error of the class c at the place i of cs. -/
def clsErr (cs : List Cls) (i : Nat) (c : Cls) : Int :=
  if nameB c.name = false then 6
  else if anyIdx (fun j => eqS (cs[j]?.getD default).name c.name) i = true then 5
  else if cs.length < c.inc.length then 3
  else if ¬ (c.inc.all (inB 0 ((cs.length : Int) - 1)) = true ∧ inB (-1) ((cs.length : Int) - 1) c.needs = true) then 4
  else if c.needs = i then 2
  else if ¬ (inB 0 100 c.age = true ∧ inB 0 100 c.term = true) then 7
  else 0

theorem sameName (w : World) (x : List Value) (c d : Cls) (p : Nat) (h : RdCls w x d) (hc : w.cell? ⟨p, 0, none⟩ = some (.string c.name)) :
    Calls Tryz.prog 97 #[.agg x.toArray, .pointer (some ⟨p, 0, none⟩)] w fun e w' => e = .returned (.bool (eqS d.name c.name)) ∧ Below w.heap.size w w' := by
  obtain ⟨ia, ic, rfl, _⟩ := h
  have hp := lt_of_cell hc
  have hp' : p ≠ w.heap.size := Nat.ne_of_lt hp
  go_enter Tryz.func97, Tryz.ntmps97
  go_wp2
  go_ret
  exact ⟨rfl, (Below.refl _ _).alloc (Nat.le_refl _) _⟩

theorem enters_sameName : ∀ args w, (callFunc 97 args).run Tryz.prog w = .ok (.enter 97 args) w := fun _ _ => by kernel_rfl

set_option maxRecDepth 100000 in
set_option maxHeartbeats 2000000 in
theorem clsErr_any (A : Option Addr) (n cc : Nat) (xs : List (List Value)) (cs : List Cls) (i : Nat) (x : List Value) (c : Cls) (ps pl : Nat) (w : World)
    (h : RdClss w A n xs cs) (hcap : n ≤ cc) (hx : RdCls w x c) (hi : i < n) (hs : w.cell? ⟨ps, 0, none⟩ = some (.slice A n cc)) (hl : w.cell? ⟨pl, 0, none⟩ = some (.int .i64 ((n : Int) - 1))) :
    Calls Tryz.prog 96 #[.int .i64 i, .agg x.toArray, .pointer (some ⟨ps, 0, none⟩), .pointer (some ⟨pl, 0, none⟩)] w fun e w' => e = .returned (.int .i64 (clsErr cs i c)) ∧ Below w.heap.size w w' := by
  have hmax := h.2.2.1
  have hcn : cs.length = n := h.2.1
  unfold maxLen at hmax
  obtain ⟨ia, ic, rfl, hinc, him, hnm⟩ := hx
  have him' := him
  unfold maxLen at him'
  have hps := lt_of_cell hs
  have hpl := lt_of_cell hl
  have hps' : ps ≠ w.heap.size := Nat.ne_of_lt hps
  have hpl' : pl ≠ w.heap.size := Nat.ne_of_lt hpl
  have HB0 : Below w.heap.size w (w.alloc (.cells #[.string c.name, .slice ia c.inc.length ic, .int .i64 c.needs, .int .i64 c.age, .int .i64 c.term] 93)) := (Below.refl _ _).alloc (Nat.le_refl _) _
  obtain ⟨r, hr⟩ : ∃ r, clsErr cs i c = r := ⟨_, rfl⟩
  rw [hr]
  unfold clsErr at hr
  rw [hcn] at hr
  have hcn := hide hcn
  go_enter Tryz.func96, Tryz.ntmps96
  go_wp2_with fail
  refine (Name_any _ _ hnm).mono ?_
  rintro e w1 ⟨rfl, hb1⟩
  have hz1 := hb1.size
  rw [World.size_alloc] at hz1
  have HB1 : Below w.heap.size w w1 := HB0.trans (hb1.mono (by simp))
  have b0 : w1.cell? ⟨w.heap.size, 0, none⟩ = some (.string c.name) := (hb1.cell (by simp)).trans (by go_simp)
  have b1 : w1.cell? ⟨w.heap.size, 1, none⟩ = some (.slice ia c.inc.length ic) := (hb1.cell (by simp)).trans (by go_simp)
  have b2 : w1.cell? ⟨w.heap.size, 2, none⟩ = some (.int .i64 c.needs) := (hb1.cell (by simp)).trans (by go_simp)
  have b3 : w1.cell? ⟨w.heap.size, 3, none⟩ = some (.int .i64 c.age) := (hb1.cell (by simp)).trans (by go_simp)
  have b4 : w1.cell? ⟨w.heap.size, 4, none⟩ = some (.int .i64 c.term) := (hb1.cell (by simp)).trans (by go_simp)
  have s1 := (HB1.cell (p := ⟨ps, 0, none⟩) hps).trans hs
  have l1 := (HB1.cell (p := ⟨pl, 0, none⟩) hpl).trans hl
  clear hs hl
  cases hq : nameB c.name with
  | false =>
    rw [hq] at hr
    obtain rfl : 6 = r := by simpa using hr
    clear hr
    go_wp2
    go_ret
    exact ⟨rfl, HB1⟩
  | true =>
    rw [hq] at hr
    simp only [Bool.true_eq_false, if_false] at hr
    have HR := hide hr
    clear hr hq
    go_wp2_with fail
    refine (ContainsFuncCls 97 #[.pointer (some ⟨w.heap.size, 0, none⟩)] enters_sameName (fun j => eqS (cs[j]?.getD default).name c.name) A i cc (xs.take i) _ ((h.1.below HB1).take (by omega)) (by unfold maxLen; omega)
      (fun j W hj hb => by
        have hx := (((h.2.2.2 j (by omega)).below HB1).below hb)
        rw [show (xs.take i)[j]?.getD [] = xs[j]?.getD [] by rw [List.getElem?_take_of_lt hj]]
        have := sameName W _ c _ w.heap.size hx ((cellB hb (by omega)).trans b0)
        simpa using this)).mono ?_
    rintro e w2 ⟨rfl, hb2⟩
    have hz2 := hb2.size
    have hz3 : w.heap.size < w2.heap.size := by omega
    have hz4 : w.heap.size < w2.heap.size + 1 := by omega
    have HB2 : Below w.heap.size w w2 := HB1.trans (hb2.mono (by omega))
    replace b1 := (cellB hb2 (by omega)).trans b1
    replace b2 := (cellB hb2 (by omega)).trans b2
    replace b3 := (cellB hb2 (by omega)).trans b3
    replace b4 := (cellB hb2 (by omega)).trans b4
    replace s1 := (cellB hb2 (by omega)).trans s1
    replace l1 := (cellB hb2 (by omega)).trans l1
    clear b0
    cases hq : anyIdx (fun j => eqS (cs[j]?.getD default).name c.name) i with
    | true =>
      have hr := HR.out
      rw [hq] at hr
      obtain rfl : 5 = r := by simpa using hr
      clear hr HR
      go_wp2
      go_ret
      exact ⟨rfl, HB2⟩
    | false =>
      have hr := HR.out
      rw [hq] at hr
      simp only [Bool.false_eq_true, if_false] at hr
      clear HR hq
      by_cases h3 : n < c.inc.length
      · rw [if_pos h3] at hr
        subst hr
        have h3' : (n : Int) < (c.inc.length : Int) := by omega
        go_wp2
        go_ret
        exact ⟨rfl, HB2⟩
      · rw [if_neg h3] at hr
        have HR := hide hr
        clear hr
        have h3' : ¬ (n : Int) < (c.inc.length : Int) := by omega
        have hinc2 := hinc.below HB2
        have hinc := hide hinc
        go_wp2_with fail
        refine (within_any 0 ((n : Int) - 1) ia c.inc.length ic c.inc _ hinc2 him).mono ?_
        rintro e w3 ⟨rfl, rfl⟩
        cases hq : c.inc.all (inB 0 ((n : Int) - 1)) with
        | false =>
          have hr := HR.out
          rw [hq, if_pos (by simp)] at hr
          subst hr
          clear HR hq
          go_wp2
          go_ret
          exact ⟨rfl, HB2⟩
        | true =>
          have hr := HR.out
          rw [hq] at hr
          clear HR hq
          by_cases h4 : -1 ≤ c.needs ∧ c.needs ≤ (n : Int) - 1
          · rw [if_neg (by simp [inB_iff, h4])] at hr
            have HR := hide hr
            clear hr
            go_wp2_with fail
            refine (within_one_yes (-1) ((n : Int) - 1) c.needs _ _ _ _ (by go_simp) h4).mono ?_
            rintro e w3 ⟨rfl, rfl⟩
            by_cases h5 : c.needs = i
            · have hr := HR.out
              rw [if_pos h5] at hr
              subst hr
              clear HR
              have h5' : (c.needs == (i : Int)) = true := by rw [beq_iff_eq]; exact h5
              have h5 := hide h5
              go_wp2
              go_ret
              exact ⟨rfl, HB2.alloc HB2.size _⟩
            · have hr := HR.out
              rw [if_neg h5] at hr
              clear HR
              have h5' : (c.needs == (i : Int)) = false := by rw [beq_eq_false_iff_ne]; exact h5
              have HR := hide hr
              clear hr
              have h5 := hide h5
              go_wp2_with fail
              refine (within_two 0 100 c.age c.term _ _ _ _ (by go_simp) (by go_simp)).mono ?_
              rintro e w3 ⟨rfl, rfl⟩
              have hr := HR.out
              clear HR
              cases hq : (inB 0 100 c.age && inB 0 100 c.term) with
              | false =>
                rw [if_pos (by rw [← Bool.and_eq_true, hq]; simp)] at hr
                subst hr
                clear hq
                go_wp2
                go_ret
                exact ⟨rfl, (HB2.alloc HB2.size _).alloc (by have := HB2.size; simp; omega) _⟩
              | true =>
                rw [if_neg (by rw [← Bool.and_eq_true, hq]; simp)] at hr
                subst hr
                clear hq
                go_wp2
                go_ret
                exact ⟨rfl, (HB2.alloc HB2.size _).alloc (by have := HB2.size; simp; omega) _⟩
          · rw [if_pos (by simp [inB_iff, h4])] at hr
            subst hr
            go_wp2_with fail
            refine (within_one_no (-1) ((n : Int) - 1) c.needs _ _ _ _ (by go_simp) h4).mono ?_
            rintro e w3 ⟨rfl, rfl⟩
            go_wp2
            go_ret
            exact ⟨rfl, HB2.alloc HB2.size _⟩
end Go.Proofs.YtjfdfhnfcpfmcaaGreatDoor

/-
  The error of a code; which classes a class covers: the search that calls itself.
-/
namespace Go.Proofs.YtjfdfhnfcpfmcaaGreatDoor
open Go.RowKit RG

/-- The error of the code s at the place i of codes. -/
def codeErr (codes : List ByteArray) (i : Nat) (s : ByteArray) : Int :=
  if nameB s = false then 6 else if anyIdx (fun j => eqS s (codes[j]?.getD ⟨#[]⟩)) i = true then 5 else 0

set_option maxHeartbeats 1000000 in
theorem codeErr_any (A : Option Addr) (n cc : Nat) (codes : List ByteArray) (i : Nat) (s : ByteArray) (ps : Nat) (w : World)
    (h : RdStrs w A n codes) (hm : n ≤ maxLen) (hcap : n ≤ cc) (hs : s.size ≤ maxLen) (hi : i < n) (hp : w.cell? ⟨ps, 1, none⟩ = some (.slice A n cc)) :
    Calls Tryz.prog 99 #[.int .i64 i, .string s, .pointer (some ⟨ps, 0, none⟩)] w fun e w' => e = .returned (.int .i64 (codeErr codes i s)) ∧ Below w.heap.size w w' := by
  have hm' := hm
  unfold maxLen at hm'
  have hps := lt_of_cell hp
  obtain ⟨r, hr⟩ : ∃ r, codeErr codes i s = r := ⟨_, rfl⟩
  rw [hr]
  unfold codeErr at hr
  go_enter Tryz.func99, Tryz.ntmps99
  go_wp2_with fail
  refine (Name_any _ _ hs).mono ?_
  rintro e w1 ⟨rfl, hb1⟩
  have p1 := (cellB hb1 hps).trans hp
  clear hp
  cases hq : nameB s with
  | false =>
    rw [hq] at hr
    obtain rfl : 6 = r := by simpa using hr
    clear hr hq
    go_wp2
    go_ret
    exact ⟨rfl, hb1⟩
  | true =>
    rw [hq] at hr
    simp only [Bool.true_eq_false, if_false] at hr
    have HR := hide hr
    clear hr hq
    go_wp2_with fail
    refine (ContainsStr A i cc (codes.take i) s _ ((h.below hb1).take (by omega)) (by unfold maxLen; omega)).mono ?_
    rintro e w2 ⟨rfl, rfl⟩
    have hany : anyIdx (fun j => eqS s ((codes.take i)[j]?.getD ⟨#[]⟩)) i = anyIdx (fun j => eqS s (codes[j]?.getD ⟨#[]⟩)) i := by
      rw [Bool.eq_iff_iff, anyIdx_iff, anyIdx_iff]
      constructor
      · rintro ⟨j, hj, hh⟩; rw [List.getElem?_take_of_lt hj] at hh; exact ⟨j, hj, hh⟩
      · rintro ⟨j, hj, hh⟩; exact ⟨j, hj, by rw [List.getElem?_take_of_lt hj]; exact hh⟩
    rw [hany]
    clear hany
    have hr := HR.out
    clear HR
    cases hq : anyIdx (fun j => eqS s (codes[j]?.getD ⟨#[]⟩)) i with
    | true =>
      rw [hq] at hr
      obtain rfl : 5 = r := by simpa using hr
      clear hr hq
      go_wp2
      go_ret
      exact ⟨rfl, hb1⟩
    | false =>
      rw [hq] at hr
      obtain rfl : 0 = r := by simpa using hr
      clear hr hq
      go_wp2
      go_ret
      exact ⟨rfl, hb1⟩

/-! ### The search -/
/-- What is found behind the class k, where F is found already; 'fuel' bounds the depth. -/
def visit (inc : Nat → List Int) : Nat → Nat → Nat → Nat
  | 0, F, _ => F
  | fuel + 1, F, k => if F.testBit k then F else (inc k).foldl (fun G x => visit inc fuel G x.toNat) (F ||| 2 ^ k)

/-- How many of the first n bits are 0. -/
def unset (n F : Nat) : Nat := cnt (fun j => !F.testBit j) n
theorem unset_le (n F : Nat) : unset n F ≤ n := cnt_le _ _
theorem unset_mono {n F G : Nat} (h : ∀ j, F.testBit j = true → G.testBit j = true) : unset n G ≤ unset n F :=
  cnt_mono _ _ (fun j hj => by
    cases hF : F.testBit j with
    | false => rfl
    | true => simp [h j hF] at hj) n
theorem unset_lt {n F k : Nat} (hk : k < n) (h : F.testBit k = false) : unset n (F ||| 2 ^ k) < unset n F :=
  cnt_lt _ _ (fun j hj => by
    cases hF : F.testBit j with
    | false => rfl
    | true => simp [Nat.testBit_or, hF] at hj) k (by simp [h]) (by simp [Nat.testBit_or, Nat.testBit_two_pow_self]) n hk
theorem visit_sup (inc : Nat → List Int) : ∀ (fuel F k j : Nat), F.testBit j = true → (visit inc fuel F k).testBit j = true
  | 0, F, k, j, h => h
  | fuel + 1, F, k, j, h => by
    unfold visit
    split
    · exact h
    · have : ∀ (l : List Int) (G : Nat), G.testBit j = true → (l.foldl (fun G x => visit inc fuel G x.toNat) G).testBit j = true := by
        intro l
        induction l with
        | nil => intro G hG; exact hG
        | cons x r ih => intro G hG; exact ih _ (visit_sup inc fuel G x.toNat j hG)
      exact this _ _ (by simp [Nat.testBit_or, h])
theorem visit_lt (inc : Nat → List Int) (n : Nat) (hinc : ∀ k, ∀ x ∈ inc k, 0 ≤ x ∧ x < (n : Int)) : ∀ (fuel F k : Nat), k < n → F < 2 ^ n → visit inc fuel F k < 2 ^ n
  | 0, F, k, _, h => h
  | fuel + 1, F, k, hk, h => by
    unfold visit
    split
    · exact h
    · have : ∀ (l : List Int) (G : Nat), (∀ x ∈ l, 0 ≤ x ∧ x < (n : Int)) → G < 2 ^ n → l.foldl (fun G x => visit inc fuel G x.toNat) G < 2 ^ n := by
        intro l
        induction l with
        | nil => intro G _ hG; exact hG
        | cons x r ih =>
          intro G hx hG
          have := hx x (List.mem_cons_self ..)
          exact ih _ (fun y hy => hx y (List.mem_cons_of_mem _ hy)) (visit_lt inc n hinc fuel G x.toNat (by omega) hG)
      exact this _ _ (hinc k) (Nat.or_lt_two_pow h (Nat.pow_lt_pow_right (by omega) hk))
end Go.Proofs.YtjfdfhnfcpfmcaaGreatDoor

namespace Go.Proofs.YtjfdfhnfcpfmcaaGreatDoor
open Go.RowKit RG

theorem only_drewN {a w : World} {row : Option Nat} (h : a.grownBy w row) (n : Nat) : a.grownBy (w.drewN n) row := ⟨h.os, h.tape, h.output, h.size, h.block⟩
theorem only_drew {a w : World} {row : Option Nat} (h : a.grownBy w row) : a.grownBy w.drew row := ⟨h.os, h.tape, h.output, h.size, h.block⟩
theorem only_trans {a b c : World} {row : Option Nat} (h : a.grownBy b row) (k : b.grownBy c row) : a.grownBy c row :=
  ⟨k.os.trans h.os, k.tape.trans h.tape, k.output.trans h.output, Nat.le_trans h.size k.size, fun i hi hn => (k.block i (Nat.lt_of_lt_of_le hi h.size) hn).trans (h.block i hi hn)⟩
theorem only_setCell {a w : World} {g : Nat} (h : a.grownBy w (some g)) {p : Addr} (hp : p.block = g ∨ a.heap.size ≤ p.block) (u : Value) : a.grownBy (w.setCell p u) (some g) :=
  ⟨h.os, h.tape, h.output, by simpa [World.setCell] using h.size, fun i hi hne => (Below.heap_setCell w p u i (by
    rintro rfl
    rcases hp with hp | hp
    · exact hne (by rw [hp])
    · omega)).trans (h.block i hi hne)⟩
theorem only_below {a w : World} {g B : Nat} (h : a.grownBy w (some g)) (hB : B ≤ g) (hs : B ≤ a.heap.size) : Below B a w :=
  ⟨h.os, h.tape, h.output, h.size, fun k hk => h.block k (by omega) (by simp; omega)⟩
theorem only_cell {a w : World} {g b o : Nat} (h : a.grownBy w (some g)) (hb : b < a.heap.size) (hne : b ≠ g) : w.cell? ⟨b, o, none⟩ = a.cell? ⟨b, o, none⟩ :=
  World.cell?_of_block (h.block b hb (by simpa using hne))

def incOf (cs : List Cls) (k : Nat) : List Int := (cs[k]?.getD default).inc

set_option maxRecDepth 100000 in
set_option maxHeartbeats 1000000 in
theorem visit_any (w0 : World) (A : Option Addr) (n cc : Nat) (xs : List (List Value)) (cs : List Cls) (f v t : Nat)
    (h : RdClss w0 A n xs cs) (hn : n ≤ 12) (hinc : ∀ k, ∀ x ∈ incOf cs k, 0 ≤ x ∧ x < (n : Int)) (hf : w0.heap.size ≤ f) (hv : w0.heap.size ≤ v) (hfv : v ≠ f) (hft : t ≠ f) :
    ∀ (fuel F k : Nat) (w : World), unset n F < fuel → k < n → F < 2 ^ n → Below w0.heap.size w0 w → Blk w f 3 #[.int .i64 (F : Int)] → w.cell? ⟨v, 0, none⟩ = some (.slice A n cc) →
      w.cell? ⟨t, 0, none⟩ = some (.func (.func 122) #[] #[.pointer (some ⟨f, 0, none⟩), .pointer (some ⟨v, 0, none⟩), .pointer (some ⟨t, 0, none⟩)]) →
      Calls Tryz.prog 122 #[.int .i64 k, .pointer (some ⟨f, 0, none⟩), .pointer (some ⟨v, 0, none⟩), .pointer (some ⟨t, 0, none⟩)] w fun e w' =>
        e = .returned (.tuple #[]) ∧ w.grownBy w' (some f) ∧ Blk w' f 3 #[.int .i64 ((visit (incOf cs) fuel F k : Nat) : Int)] := by
  intro fuel
  induction fuel with
  | zero => intro F k w hu; omega
  | succ fuel ih =>
    intro F k w hu hk hF hb hB hcv hct
    have ih := hide ih
    have hF40 : F < 2 ^ 40 := Nat.lt_of_lt_of_le hF (Nat.pow_le_pow_right (by omega) (by omega))
    have hbf : w.cell? ⟨f, 0, none⟩ = some (.int .i64 (F : Int)) := hB.cell 0
    have hff : w.frozen? ⟨f, 0, none⟩ = false := hB.frozen 0
    have HB := hide hB
    clear hB
    have hvis : visit (incOf cs) (fuel + 1) F k = if F.testBit k then F else (incOf cs k).foldl (fun G x => visit (incOf cs) fuel G x.toNat) (F ||| 2 ^ k) := rfl
    cases hq : F.testBit k with
    | true =>
      rw [hq, if_pos rfl] at hvis
      have HV := hide hvis
      clear hvis
      go_enter Tryz.func122, Tryz.ntmps122
      go_wp2_with fail
      refine (has_any F k _ hF40 (by omega)).mono ?_
      rintro e w1 ⟨rfl, rfl⟩
      rw [hq]
      clear hq
      go_wp2
      refine bodyPost_ret (results_none rfl _ _ _) rfl ?_
      exact ⟨rfl, World.grownBy.refl w _, by rw [HV.out]; exact HB.out⟩
    | false =>
      have hul := unset_lt hk hq
      rw [hq, if_neg (by simp)] at hvis
      have HV := hide hvis
      clear hvis
      obtain ⟨b, off, x0, x1, x2, x3, x4, rfl, hbz, hx, c0, c1, c2, c3, c4⟩ := h.1.cells5 hk
      obtain ⟨ia, ic, hxe, hri, him, _⟩ := h.2.2.2 k hk
      rw [hx] at hxe
      obtain ⟨_, rfl, _⟩ : _ ∧ x1 = .slice ia (cs[k]?.getD default).inc.length ic ∧ _ := by simpa using hxe
      obtain ⟨l, hl⟩ : ∃ l, l = incOf cs k := ⟨_, rfl⟩
      have hlin : ∀ x ∈ l, 0 ≤ x ∧ x < (n : Int) := by rw [hl]; exact hinc k
      rw [show (cs[k]?.getD default).inc = l from hl.symm] at hri him c1
      
      have h := hide h
      have hinc := hide hinc
      have hor := Bits.or_pow F k (by omega) (by omega)
      have hF1 : F ||| 2 ^ k < 2 ^ n := Nat.or_lt_two_pow hF (Nat.pow_lt_pow_right (by omega) hk)
      have hbne : b ≠ f := by omega
      have hc1 : w.cell? ⟨b, off + k * 5 + 1, none⟩ = some (.slice ia l.length ic) := (cellB hb hbz).trans c1
      unfold maxLen at him
      have HL := hide hl
      clear hx hxe c0 c1 c2 c3 c4 hl
      obtain ⟨F1, hF1e⟩ : ∃ F1, F1 = F ||| 2 ^ k := ⟨_, rfl⟩
      rw [← hF1e] at hor hul hF1
      have HV2 : Hid (visit (incOf cs) (fuel + 1) F k = l.foldl (fun G x => visit (incOf cs) fuel G x.toNat) F1) := hide (by rw [HV.out, HL.out, hF1e])
      clear hF1e
      have hb := hide hb
      go_enter Tryz.func122, Tryz.ntmps122
      go_wp2_with fail
      refine (has_any F k _ hF40 (by omega)).mono ?_
      rintro e w1 ⟨rfl, rfl⟩
      rw [hq]
      have hq := hide hq
      go_wp2
      refine region_tail 4 (by kernel_rfl) (by kernel_rfl) ?_
      simp only [List.take_succ_cons, List.take_zero, List.drop_succ_cons, List.drop_zero]
      iterate 4 still_step
      refine wpStill_nil ?_
      go_wp2
      have HB1 : Blk (World.drew (w.setCell ⟨f, 0, none⟩ (.int .i64 (F1 : Int)))) f 3 #[.int .i64 (F1 : Int)] := (HB.out.set_ 0 (.int .i64 (F1 : Int))).drew
      have HG1 : w.grownBy (World.drew (w.setCell ⟨f, 0, none⟩ (.int .i64 (F1 : Int)))) (some f) := only_drew (only_setCell (World.grownBy.refl w _) (.inl rfl) _)
      have HB1 := hide HB1
      have HG1 := hide HG1
      go_loopg [6, 22] l.length (fun g _ s22 wr => ∃ j : Nat, j ≤ l.length ∧ l.length ≤ g + j ∧ s22 = .int .i64 j ∧ Hid (w.grownBy wr (some f) ∧ Blk wr f 3 #[.int .i64 (((l.take j).foldl (fun G x => visit (incOf cs) fuel G x.toNat) F1 : Nat) : Int)] ∧
        unset n ((l.take j).foldl (fun G x => visit (incOf cs) fuel G x.toNat) F1) ≤ unset n F1 ∧ (l.take j).foldl (fun G x => visit (incOf cs) fuel G x.toNat) F1 < 2 ^ n))
      case atStart => exact ⟨0, Nat.zero_le _, by omega, rfl, HG1.out, HB1.out, Nat.le_refl _, hF1⟩
      case round =>
        obtain ⟨j, hj, hg, rfl, hH⟩ := hrel
        by_cases hlt : j < l.length
        · obtain ⟨hG, hBk, hun, hlt2⟩ := hH.out
          have hwr : Below w0.heap.size w0 wr := hb.out.trans (only_below hG hf hb.out.size)
          obtain ⟨b2, off2, rfl, hb2, hc2⟩ := hri.2 (by omega)
          have hc2 := (cellB hwr hb2).trans (hc2 j hlt)
          have hx := hlin l[j] (List.getElem_mem hlt)
          have htk : l.take (j + 1) = l.take j ++ [l[j]] := List.take_succ_eq_append_getElem hlt
          rw [show l[j]?.getD 0 = l[j] by rw [List.getElem?_eq_getElem hlt]; rfl] at hc2
          generalize l[j] = x at *
          obtain ⟨m, rfl⟩ := Int.eq_ofNat_of_zero_le hx.1
          have hct2 := (only_cell (o := 0) hG (lt_of_cell hct) hft).trans hct
          have hcv2 := (only_cell (o := 0) hG (lt_of_cell hcv) hfv).trans hcv
          generalize hGj : (l.take j).foldl (fun G x => visit (incOf cs) fuel G x.toNat) F1 = Gj at *
          have hcall := ih.out Gj m wr (by omega) (by omega) hlt2 hwr hBk hcv2 hct2
          have hnew : (l.take (j + 1)).foldl (fun G x => visit (incOf cs) fuel G x.toNat) F1 = visit (incOf cs) fuel Gj m := by
            rw [htk, List.foldl_append, hGj]; rfl
          have HN := hide hnew
          have hG := hide hG
          have hun := hide hun
          have hlt2 := hide hlt2
          clear hnew htk hGj hBk hwr hcv2 hcv hct
          go_wp2_with (go_at_call 122; refine hcall.mono ?_; rintro e w2 ⟨rfl, hg2, hB2⟩)
          go_roundg (l.length - (j + 1))
          case measure => omega
          case rel =>
            refine ⟨j + 1, by omega, by omega, by go_num, only_trans hG.out hg2, by rw [HN.out]; exact hB2, ?_, ?_⟩
            · rw [HN.out]
              exact Nat.le_trans (unset_mono fun q hq => visit_sup _ _ _ _ _ hq) hun.out
            · rw [HN.out]
              exact visit_lt _ n hinc.out _ _ _ (by omega) hlt2.out
        · obtain ⟨hG, hBk, hun, hlt2⟩ := hH.out
          have hj' : j = l.length := by omega
          subst hj'
          rw [List.take_of_length_le (Nat.le_refl _)] at hBk
          have hBk := hide hBk
          have hG := hide hG
          clear hun hlt2
          go_wp2
          go_end0
          refine ⟨rfl, hG.out, ?_⟩
          rw [HV2.out]
          exact hBk.out
end Go.Proofs.YtjfdfhnfcpfmcaaGreatDoor

/-
  The rule for a region of which the last operations wait for all the others: those by the rule of XRegion, these one behind the other.
-/
namespace Go.Proofs.YtjfdfhnfcpfmcaaGreatDoor.RG
open Go

theorem cnt_one (p p' : Nat → Bool) (i : Nat) (h : ∀ j, j ≠ i → p j = p' j) (n : Nat) : cnt p n ≤ cnt p' n + 1 := by
  have hone : ∀ m, cnt p m ≤ cnt p' m + (if i < m then 1 else 0) := by
    intro m
    induction m with
    | zero => simp [cnt]
    | succ m ihm =>
      simp only [cnt]
      by_cases e : m = i
      · subst e
        have h1 : (if p m = true then 1 else 0) ≤ 1 := by split <;> omega
        rw [if_neg (Nat.lt_irrefl m)] at ihm
        rw [if_pos (show m < m + 1 by omega)]
        omega
      · have h1 : (if p m = true then 1 else 0) = (if p' m = true then 1 else 0) := by rw [h m e]
        have h2 : (if i < m then 1 else 0) ≤ (if i < m + 1 then 1 else 0) := by split <;> split <;> omega
        omega
  have := hone n
  split at this <;> omega
/-- The obligation of one operation of the head. -/
def OneT (P : Program) (ops : Array Oper) (hd : List Oper) (C : World → Prop) (Rel : World → World → Prop) (V : Nat → Value → World → Prop) (a0 : Act) (i : Nat) (o : Oper) : Prop :=
  ∀ (y : Nat → Value) (w : World) (K : Act → World → Prop) (Q : Exit → Act → World → Prop) (Cv : Value → World → Prop), C w → deps V y w o.after.toList →
    (∀ v w', C w' → Rel w w' → V i v w' → Cv v w') → (∀ v w', Cv v w' → K ((putAll hd 0 y a0).put o.dst v) w') →
    if Region.wanted o (yielded ops (putAll hd 0 y a0).tmps) then o.wp P (putAll hd 0 y a0) w K Q else K ((putAll hd 0 y a0).put o.dst undef) w
def AllT (P : Program) (ops : Array Oper) (hd : List Oper) (C : World → Prop) (Rel : World → World → Prop) (V : Nat → Value → World → Prop) (a0 : Act) : List Oper → Nat → Prop
  | [], _ => True
  | o :: r, i => OneT P ops hd C Rel V a0 i o ∧ AllT P ops hd C Rel V a0 r (i + 1)
theorem AllT.get {P : Program} {ops : Array Oper} {hd : List Oper} {C : World → Prop} {Rel : World → World → Prop} {V : Nat → Value → World → Prop} {a0 : Act} :
    ∀ {l : List Oper} {i j : Nat} {o : Oper}, AllT P ops hd C Rel V a0 l i → l[j]? = some o → OneT P ops hd C Rel V a0 (i + j) o
  | [], _, _, _, _, hj => by simp at hj
  | o' :: r, i, 0, o, h, hj => by
    simp only [List.getElem?_cons_zero, Option.some.injEq] at hj
    subst hj; exact h.1
  | o' :: r, i, j + 1, o, h, hj => by
    simp only [List.getElem?_cons_succ] at hj
    have := AllT.get h.2 hj
    rwa [show i + (j + 1) = i + 1 + j by omega]

/-- The first n are listed, the others are not. -/
def heads (n m : Nat) : Array Bool := ((List.range m).map fun j => decide (j < n)).toArray
def tailB (l : List Oper) (n : Nat) : Bool :=
  decide (n < l.length) && Region.sinkB .any l.toArray n && Region.chainB .any l.toArray n && Region.seqB .any l.toArray (l.length - n) n (heads n l.length) && okB (l.take n) 0

theorem wpAny_rgT {P : Program} {l : List Oper} {n : Nat} {C : World → Prop} {Rel : World → World → Prop} {V : Nat → Value → World → Prop} {a0 : Act} {Q : Exit → Act → World → Prop}
    (hB : tailB l n = true) (hst : ∀ k v w w', C w → C w' → Rel w w' → V k v w → V k v w')
    (hall : AllT P l.toArray (l.take n) C Rel V a0 (l.take n) 0)
    (hend : ∀ y w, C w → Ends V y w 0 n → wpList P l.toArray Q (l.drop n) (putAll (l.take n) 0 y a0) w) :
    ∀ (fuel : Nat) (listed : Array Bool) (y : Nat → Value) (w : World), HeadInv .any l.toArray n listed → cnt (fun j => !listed.getD j true) n = fuel → C w →
      (∀ k, k < n → listed.getD k false = true → V k (y k) w) → wpAny P .any l.toArray Q (fuel + (l.length - n)) listed (putAll (l.take n) 0 y a0) w := by
  simp only [tailB, Bool.and_eq_true, decide_eq_true_eq] at hB
  obtain ⟨⟨⟨⟨hn, hs⟩, hc⟩, hseq⟩, hok⟩ := hB
  have hn' : n < l.toArray.size := by simpa using hn
  intro fuel
  induction fuel with
  | zero =>
    intro listed y w inv h0 hC hV
    have hl : ∀ j, j < n → listed.getD j true = true := fun j hj => by
      have := cnt_zero _ _ h0 j hj
      simpa using this
    have hsz : listed.size = l.length := by simpa using inv.size
    have hl' : ∀ j, j < n → listed.getD j false = true := fun j hj => by
      have := hl j hj
      simpa [Array.getD, hsz, show j < l.length by omega] using this
    have heq : listed = heads n l.length := by
      apply Array.ext
      · simp [heads, hsz]
      · intro j h1 h2
        by_cases hj : j < n
        · have := hl j hj
          simp only [Array.getD, h1, dite_true] at this
          simp [heads, hj]
          exact this
        · have := inv.tail j (by omega) (by simp; omega)
          simp only [Array.getD, h1, dite_true] at this
          simp [heads, hj]
          exact this
    have := wpAny_of_seq (P := P) (md := .any) (Q' := Q) (ops := l.toArray) (l.drop n) n listed (putAll (l.take n) 0 y a0) w (fun j => by simp [List.getElem?_drop]) (by rw [heq]; simpa using hseq)
      (hend y w hC (Ends.of 0 _ fun k _ hk => hV k (by omega) (hl' k (by omega))))
    rw [List.length_drop] at this
    rw [Nat.zero_add]
    exact this
  | succ fuel ih =>
    intro listed y w inv hcnt hC hV
    have hex : ∃ i, i < n ∧ listed.getD i true = false := by
      rcases Nat.eq_zero_or_pos (cnt (fun j => !listed.getD j true) n) with h | h
      · omega
      · by_cases hx : ∃ i, i < n ∧ listed.getD i true = false
        · exact hx
        · exfalso
          have : ∀ m, m ≤ n → cnt (fun j => !listed.getD j true) m = 0 := by
            intro m
            induction m with
            | zero => intro _; rfl
            | succ m ihm =>
              intro hm
              simp only [cnt]
              rw [ihm (by omega)]
              have : listed.getD m true = true := by
                cases h' : listed.getD m true with
                | true => rfl
                | false => exact absurd ⟨m, by omega, h'⟩ hx
              simp [this]
          have := this n (Nat.le_refl _)
          omega
    obtain ⟨i0, hi0, hl0⟩ := hex
    have hhead : ∀ t ∈ Region.ready .any l.toArray listed, t < n := fun t ht => by
      rcases Nat.lt_or_ge t n with h | h
      · exact h
      · exact absurd ht (tail_waits hs hc hn' inv _ i0 rfl hi0 hl0 t h)
    rw [show fuel + 1 + (l.length - n) = (fuel + (l.length - n)) + 1 by omega]
    refine ⟨fun hr => ?_, fun i hi => ?_⟩
    · exfalso
      -- the first unlisted operation of the head is ready
      have hfirst : ∃ j, j < n ∧ listed.getD j true = false ∧ ∀ k, k < j → listed.getD k true = true := by
        have : ∀ m, (∀ k, k < m → listed.getD k true = true) ∨ ∃ j, j < m ∧ listed.getD j true = false ∧ ∀ k, k < j → listed.getD k true = true := by
          intro m
          induction m with
          | zero => exact .inl fun k hk => by omega
          | succ m ihm =>
            rcases ihm with h | ⟨j, h1, h2, h3⟩
            · cases h' : listed.getD m true with
              | true =>
                refine .inl fun k hk => ?_
                by_cases e : k = m
                · subst e; exact h'
                · exact h k (by omega)
              | false => exact .inr ⟨m, by omega, h', h⟩
            · exact .inr ⟨j, by omega, h2, h3⟩
        rcases this n with h | h
        · rw [h i0 hi0] at hl0; cases hl0
        · exact h
      obtain ⟨j, hj, hlj, hbef⟩ := hfirst
      have hjl : j < l.length := by omega
      have hm : j ∈ Region.ready .any l.toArray listed := by
        rw [mem_ready]
        refine ⟨hlj, l[j], by simp [hjl], fun e he hbb => ?_⟩
        have : e.on < j := by
          have hac : ∀ (q : List Oper) (s : Nat) (m : Nat) (o : Oper), okB q s = true → q[m]? = some o → ∀ e ∈ o.after, Region.binds .any e = true → e.on < s + m := by
            intro q
            induction q with
            | nil => intro s m o _ hm; simp at hm
            | cons o' r ihr =>
              intro s m o h hm e he hbb
              obtain ⟨h1, _, h3⟩ := okB_cons h
              cases m with
              | zero => simp only [List.getElem?_cons_zero, Option.some.injEq] at hm; subst hm; exact h1 e he hbb
              | succ m =>
                simp only [List.getElem?_cons_succ] at hm
                have := ihr (s + 1) m o h3 hm e he hbb
                omega
          have := hac (l.take n) 0 j l[j] hok (by rw [List.getElem?_take_of_lt hj]; simp [hjl]) e he hbb
          omega
        have h2 := hbef e.on this
        have hsz : listed.size = l.length := by simpa using inv.size
        simpa [Array.getD, hsz, show e.on < l.length by omega] using h2
      rw [hr] at hm
      cases hm
    · have hin := hhead i hi
      have hi' := hi
      rw [mem_ready] at hi
      obtain ⟨hl, o, ho, hdep⟩ := hi
      have hol : (l.take n)[i]? = some o := by rw [List.getElem?_take_of_lt hin]; simpa using ho
      have h1 := AllT.get hall hol
      rw [Nat.zero_add] at h1
      have hnext : ∀ v w', C w' → Rel w w' → V i v w' → wpAny P .any l.toArray Q (fuel + (l.length - n)) (listed.setIfInBounds i true) ((putAll (l.take n) 0 y a0).put o.dst v) w' := by
        intro v w' hC' hR hVi
        rw [putAll_upd (l.take n) 0 i y a0 o v hok hol, Nat.zero_add]
        have hsz : listed.size = l.length := by simpa using inv.size
        refine ih _ _ _ (inv.set hi' hin) ?_ hC' (fun k hk hlk => ?_)
        · have hlt := cnt_lt (fun j => !listed.getD j true) (fun j => !(listed.setIfInBounds i true).getD j true) (fun j hj => by
            by_cases e : i = j
            · subst e; simp [Array.getD, Array.setIfInBounds, hsz, show i < l.length by omega] at hj
            · rw [getD_set_ne true e] at hj; exact hj) i (by simp [hl]) (by simp [Array.getD, Array.setIfInBounds, hsz, show i < l.length by omega]) n hin
          have hge := cnt_one (fun j => !listed.getD j true) (fun j => !(listed.setIfInBounds i true).getD j true) i (fun j hj => by
            show (!listed.getD j true) = (!(listed.setIfInBounds i true).getD j true)
            rw [getD_set_ne true (fun h => hj h.symm)])
          have := hge n
          omega
        · by_cases e : k = i
          · subst e; simpa [upd] using hVi
          · have : upd y i v k = y k := by simp [upd, e]
            rw [this]
            rw [getD_set_ne false (fun h => e h.symm)] at hlk
            exact hst k _ w w' hC hC' hR (hV k hk hlk)
      have h2 := h1 y w (wpAny P .any l.toArray Q (fuel + (l.length - n)) (listed.setIfInBounds i true)) Q (fun v w' => C w' ∧ Rel w w' ∧ V i v w') hC (deps_of _ fun e he hb => by
        have he' : e ∈ o.after := by simpa using he
        have h3 := hdep e he' hb
        have hen : e.on < n := by
          rcases Nat.lt_or_ge e.on n with h | h
          · exact h
          · have := inv.tail e.on h
            have hb2 : e.on < l.toArray.size := by
              rcases Nat.lt_or_ge e.on listed.size with h' | h'
              · rw [← inv.size]; exact h'
              · simp [Array.getD, Nat.not_lt.2 h'] at h3
            have := this hb2
            have hsz := inv.size
            simp [Array.getD, show e.on < listed.size by omega] at this h3
            rw [this] at h3; cases h3
        exact hV e.on hen h3) (fun v w' a b c => ⟨a, b, c⟩) (fun v w' h => hnext v w' h.1 h.2.1 h.2.2)
      unfold wpOp
      simp only [ho]
      split
      · rename_i hw; simp only [hw, if_true] at h2; exact .inl h2
      · rename_i hw; simp only [hw] at h2; exact h2
/-- THE RULE with a tail: C, Rel, V as in region_rg, of the first n operations. -/
theorem region_rg_tail {P : Program} {id : Nat} {Q : Exit → Act → World → Prop} {a : Act} {w : World} {l : List Oper} (n : Nat) (C : World → Prop) (Rel : World → World → Prop) (V : Nat → Value → World → Prop)
    (hm : P.follows .mixedOrders = true) (hB : tailB l n = true) (hC : C w.drew) (hst : ∀ k v w w', C w → C w' → Rel w w' → V k v w → V k v w')
    (hall : AllT P l.toArray (l.take n) C Rel V a (l.take n) 0) (hend : ∀ y w, C w → Ends V y w 0 n → wpList P l.toArray Q (l.drop n) (putAll (l.take n) 0 y a) w) :
    (Code.region id l.toArray true).wp P Q a w := by
  have hn : n < l.length := by
    have := hB
    simp only [tailB, Bool.and_eq_true, decide_eq_true_eq] at this
    exact this.1.1.1.1
  refine wp_region_any hm ?_
  have h0 : cnt (fun j => !(Array.replicate l.toArray.size false).getD j true) n = n := by
    have : ∀ m, m ≤ n → cnt (fun j => !(Array.replicate l.toArray.size false).getD j true) m = m := by
      intro m
      induction m with
      | zero => intro _; rfl
      | succ m ih =>
        intro hmn
        simp only [cnt]
        rw [ih (by omega)]
        have : (Array.replicate l.toArray.size false).getD m true = false := getD_in (by simp; omega) (getD_replicate_false _ _)
        have hb : (!(Array.replicate l.toArray.size false).getD m true) = true := by rw [this]; rfl
        rw [if_pos hb]
    exact this n (Nat.le_refl _)
  have := wpAny_rgT (P := P) (l := l) (n := n) (C := C) (Rel := Rel) (V := V) (a0 := a) (Q := Q) hB hst hall hend n
    (Array.replicate l.toArray.size false) (start (l.take n) a) w.drew ⟨by simp, fun j oj _ hl => (by rw [getD_replicate_false] at hl; cases hl), fun t _ ht => getD_in (by simpa using ht) (getD_replicate_false _ _)⟩ h0 hC
    (fun k hk h => by rw [getD_replicate_false] at h; cases h)
  rw [putAll_start (l.take n) 0 (start (l.take n) a) a (fun j o hj e he => by simp [start, hj, he])] at this
  rw [show n + (l.length - n) = l.toArray.size by simp; omega] at this
  exact this

/-- The same where memory only grows in the head. -/
theorem region_grow_tail {P : Program} {id : Nat} {Q : Exit → Act → World → Prop} {a : Act} {w : World} {l : List Oper} (n : Nat) (L : List (Value → World → Prop))
    (hm : P.follows .mixedOrders = true) (hB : tailB l n = true) (hlen : L.length = n) (hL : AllStb L)
    (hall : AllT P l.toArray (l.take n) (Go.RowKit.Below w.heap.size w) (fun u u' => Go.RowKit.Below u.heap.size u u') (VL L) a (l.take n) 0)
    (hend : ∀ y w', Go.RowKit.Below w.heap.size w w' → EndsL L y w' 0 → wpList P l.toArray Q (l.drop n) (putAll (l.take n) 0 y a) w') :
    (Code.region id l.toArray true).wp P Q a w :=
  region_rg_tail n _ _ _ hm hB (Go.RowKit.Below.refl _ _).drew (fun k v u u' _ _ h hv => hL.at_ k v u u' h hv) hall
    (fun y w' hC hE => hend y w' hC (EndsL.of 0 fun k hk => by
      have := hE.get (k := k) (by omega)
      simpa using this))
end Go.Proofs.YtjfdfhnfcpfmcaaGreatDoor.RG
