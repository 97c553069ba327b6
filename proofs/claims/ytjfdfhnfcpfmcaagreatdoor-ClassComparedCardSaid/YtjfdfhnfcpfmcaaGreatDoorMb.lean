import Derived.Test.YtjfdfhnfcpfmcaaGreatDoorProg
import Derived.Test.YtjfdfhnfcpfmcaaGreatDoorMa
import Derived.WalkKit
import Derived.IntWalk
import Derived.Lib.Hide
import Derived.Deep.QuietTactic
import Derived.BigQuiet
import Derived.BigGuardPart
import Derived.StillTailTactics
import Derived.Deep.RegionWith
import Derived.Deep.RegionHeld3
import Derived.Deep.DeepFit
import Derived.WalkSpells
import Derived.Deep.LoopGhost
import Derived.Deep.CutRange
import Derived.Deep.DeepCutAuto
/-
  Words that all walks of this project use: memory that reads as a list of ints, old memory that stays. Nothing of the program is in it but its name.
-/
namespace Go.Proofs.YtjfdfhnfcpfmcaaGreatDoor
open Go.RowKit

theorem hide {p : Prop} (h : p) : Hid p := h
theorem bcell {W w1 : World} (hb : Below W.heap.size W w1) : (∀ b o, b < W.heap.size → w1.cell? ⟨b, o, none⟩ = W.cell? ⟨b, o, none⟩) ∧ (∀ b o, b < W.heap.size → w1.frozen? ⟨b, o, none⟩ = W.frozen? ⟨b, o, none⟩) :=
  ⟨fun b o h => hb.cell (p := ⟨b, o, none⟩) h, fun b o h => hb.frozen (p := ⟨b, o, none⟩) h⟩
theorem cellB {B : Nat} {W w1 : World} {b o : Nat} (hb : Below B W w1) (h : b < B) : w1.cell? ⟨b, o, none⟩ = W.cell? ⟨b, o, none⟩ := hb.cell (p := ⟨b, o, none⟩) h
theorem ret_int {k : IntKind} {a b : Int} (h : a = b) : Ending.returned (.int k a) = .returned (.int k b) := by rw [h]
theorem ret_bool {a b : Bool} (h : a = b) : Ending.returned (.bool a) = .returned (.bool b) := by rw [h]

theorem quiet_add_left {P : Program} {f : FuncId} {args : Array Value} {w : World} {a n : Nat} {v : Value}
    (h : Calls P f args (w.drewN (a + n)) fun e w' => e = .returned v ∧ w.drewN (a + n) = w') :
    Calls P f args (w.drewN (a + n)) fun e w'' => e = .returned v ∧ ∃ m, w'' = w.drewN (a + m) :=
  h.mono fun _ _ ⟨he, hm⟩ => ⟨he, n, hm.symm⟩
theorem quiet_left {P : Program} {f : FuncId} {args : Array Value} {w : World} {n : Nat} {v : Value}
    (h : Calls P f args (w.drewN n) fun e w' => e = .returned v ∧ w.drewN n = w') : Calls P f args (w.drewN n) fun e w'' => e = .returned v ∧ ∃ m, w'' = w.drewN m :=
  h.mono fun _ _ ⟨he, hm⟩ => ⟨he, n, hm.symm⟩
theorem below_drewN {B : Nat} {a w : World} (h : Below B a w) (n : Nat) : Below B a (w.drewN n) := ⟨h.os, h.tape, h.output, h.size, h.block⟩

/-- A region that draws its order, of which all but the last operations read or call quietly. -/
theorem region_tail {P : Program} {id : Nat} {Q : Exit → Act → World → Prop} {a : Act} {w : World} {l : List Oper} (n : Nat) (hm : P.follows .mixedOrders = true) (hB : Region.lexTailB .any l.toArray n = true)
    (h : wpStill P l.toArray w.drew (fun a' => wpList P l.toArray Q (l.drop n) a' w.drew) (l.take n) a) : (Code.region id l.toArray true).wp P Q a w :=
  wp_region_still_tail n hm hB h

/-- Block g is just the cells cs, of element type t, none frozen. -/
def Blk (w : World) (g : Nat) (t : TypeId) (cs : Array Value) : Prop := w.heap[g]? = some (.cells cs t (0, 0))
section
variable {w w' : World} {g : Nat} {t : TypeId} {cs : Array Value}
theorem Blk.lt (h : Blk w g t cs) : g < w.heap.size := by
  rcases Nat.lt_or_ge g w.heap.size with hlt | hge
  · exact hlt
  · unfold Blk at h; rw [Array.getElem?_eq_none hge] at h; cases h
theorem Blk.cell (h : Blk w g t cs) (i : Nat) : w.cell? ⟨g, i, none⟩ = cs[i]? := cell_of_row w g i cs t (0, 0) h
theorem Blk.frozen (h : Blk w g t cs) (i : Nat) : w.frozen? ⟨g, i, none⟩ = false := by
  unfold Blk at h
  simp [World.frozen?, h]
theorem Blk.new (w : World) (t : TypeId) (cs : Array Value) : Blk (w.alloc (.cells cs t)) w.heap.size t cs := heap_alloc_new w _
theorem Blk.drew (h : Blk w g t cs) : Blk w.drew g t cs := h
theorem Blk.drewN (h : Blk w g t cs) (n : Nat) : Blk (w.drewN n) g t cs := h
theorem Blk.alloc (h : Blk w g t cs) (o : Obj) : Blk (w.alloc o) g t cs := (Below.heap_alloc w o g h.lt).trans h
theorem Blk.set_ (h : Blk w g t cs) (i : Nat) (u : Value) : Blk (w.setCell ⟨g, i, none⟩ u) g t (cs.setIfInBounds i u) := by
  unfold Blk at h ⊢
  simp [World.setCell, Array.getElem?_modify, h]
theorem Blk.far (h : Blk w g t cs) {p : Addr} (hp : g ≠ p.block) (u : Value) : Blk (w.setCell p u) g t cs := (Below.heap_setCell w p u g hp).trans h
theorem Blk.below {B : Nat} (h : Blk w g t cs) (hb : Below B w w') (hg : g < B) : Blk w' g t cs := (hb.block g hg).trans h
theorem Blk.ne_ {g' : Nat} {t' : TypeId} {cs' : Array Value} (h : Blk w g t cs) (h' : Blk w g' t' cs') (hne : t ≠ t') : g ≠ g' := by
  rintro rfl
  unfold Blk at h h'
  rw [h] at h'
  injection h' with h'
  injection h' with _ ht
  exact hne ht
theorem Blk.grown {row : Option Nat} (h : Blk w g t cs) (hb : w.grownBy w' row) (hg : some g ≠ row) : Blk w' g t cs := (hb.block g h.lt hg).trans h
end

/-- A slice value '.slice A n c' that holds the ints xs. -/
def RdInts (w : World) (A : Option Addr) (n : Nat) (xs : List Int) : Prop :=
  xs.length = n ∧ (0 < n → ∃ b off, A = some ⟨b, off, none⟩ ∧ b < w.heap.size ∧ ∀ j, j < n → w.cell? ⟨b, off + j, none⟩ = some (.int .i64 (xs[j]?.getD 0)))

theorem RdInts.below {w w' : World} {A : Option Addr} {n : Nat} {xs : List Int} (h : RdInts w A n xs) (hb : Below w.heap.size w w') : RdInts w' A n xs :=
  ⟨h.1, fun hn => by
    obtain ⟨b, off, e, hlt, hc⟩ := h.2 hn
    exact ⟨b, off, e, Nat.lt_of_lt_of_le hlt hb.size, fun j hj => (hb.cell (p := ⟨b, off + j, none⟩) hlt).trans (hc j hj)⟩⟩
theorem RdInts.alloc {w : World} {A : Option Addr} {n : Nat} {xs : List Int} (h : RdInts w A n xs) (o : Obj) : RdInts (w.alloc o) A n xs :=
  h.below ((Below.refl _ _).alloc (Nat.le_refl _) o)
theorem rdInts_nil (w : World) (A : Option Addr) : RdInts w A 0 [] := ⟨rfl, fun h => absurd h (by omega)⟩
theorem rdInts_one (w : World) (x : Int) (t : TypeId) : RdInts (w.alloc (.cells #[.int .i64 x] t)) (some ⟨w.heap.size, 0, none⟩) 1 [x] := by
  refine ⟨rfl, fun _ => ⟨w.heap.size, 0, rfl, by simp, fun j hj => ?_⟩⟩
  obtain rfl : j = 0 := by omega
  exact World.cell?_alloc_new w _ t 0
theorem rdInts_two (w : World) (x y : Int) (t : TypeId) : RdInts (w.alloc (.cells #[.int .i64 x, .int .i64 y] t)) (some ⟨w.heap.size, 0, none⟩) 2 [x, y] := by
  refine ⟨rfl, fun _ => ⟨w.heap.size, 0, rfl, by simp, fun j hj => ?_⟩⟩
  rcases (show j = 0 ∨ j = 1 by omega) with rfl | rfl <;> exact World.cell?_alloc_new w _ t _

/-- All of a list lie from lo to hi. -/
def inB (lo hi x : Int) : Bool := decide (lo ≤ x) && decide (x ≤ hi)
theorem inB_iff {lo hi x : Int} : inB lo hi x = true ↔ lo ≤ x ∧ x ≤ hi := by simp [inB]

theorem lt_of_cell {w : World} {a : Addr} {v : Value} (h : w.cell? a = some v) : a.block < w.heap.size := by
  rcases Nat.lt_or_ge a.block w.heap.size with hlt | hge
  · exact hlt
  · unfold World.cell? at h
    rw [Array.getElem?_eq_none hge] at h
    simp at h
/-- A slice of the one int x. -/
def IsOne (x : Int) : Value → World → Prop := fun v w => ∃ b c, v = .slice (some ⟨b, 0, none⟩) 1 c ∧ w.cell? ⟨b, 0, none⟩ = some (.int .i64 x)
theorem IsOne.stb (x : Int) : RG.Stb (IsOne x) := fun _ _ _ hb ⟨b, c, e, h⟩ => ⟨b, c, e, (hb.cell (lt_of_cell h)).trans h⟩

/-- What the package variables hold: the table of the months. -/
structure Env (w : World) : Prop where
  size : 4 ≤ w.heap.size
  months : ∀ i, i < 12 → w.cell? ⟨0, i, none⟩ = some (.int .i64 (Cal.monthTab i))
theorem Env.below {B : Nat} {w w' : World} (h : Env w) (hb : Below B w w') (hB : 4 ≤ B) : Env w' :=
  ⟨Nat.le_trans h.size hb.size, fun i hi => (hb.cell (p := ⟨0, i, none⟩) (Nat.lt_of_lt_of_le (show (0 : Nat) < 4 by omega) hB)).trans (h.months i hi)⟩
theorem Env.alloc {w : World} (h : Env w) (o : Obj) : Env (w.alloc o) := h.below ((Below.refl _ _).alloc (Nat.le_refl _) o) h.size
theorem Env.drewN {w : World} (h : Env w) (n : Nat) : Env (w.drewN n) := h.below (below_drewN (Below.refl _ _) n) h.size
theorem Env.drew {w : World} (h : Env w) : Env w.drew := h.below (Below.refl _ _).drew h.size
end Go.Proofs.YtjfdfhnfcpfmcaaGreatDoor

namespace Go.Proofs.YtjfdfhnfcpfmcaaGreatDoor
open Go.RowKit

theorem inB_no {lo hi x : Int} (h : ¬ (lo ≤ x ∧ x ≤ hi)) : inB lo hi x = false := by
  rw [Bool.eq_false_iff, Ne, inB_iff]; exact h
theorem all_take_succ {α : Type} (p : α → Bool) (xs : List α) (k : Nat) (h : k < xs.length) (hr : (xs.take k).all p = true) (hp : p xs[k] = true) : (xs.take (k + 1)).all p = true := by
  rw [List.take_succ_eq_append_getElem h, List.all_append, hr]; simp [hp]
theorem all_false_at {α : Type} (p : α → Bool) (xs : List α) (k : Nat) (h : k < xs.length) (hp : p xs[k] = false) : xs.all p = false := by
  rw [List.all_eq_false]; exact ⟨xs[k], List.getElem_mem h, by simp [hp]⟩

theorem within_any (lo hi : Int) (A : Option Addr) (n c : Nat) (xs : List Int) (w : World) (h : RdInts w A n xs) (hm : n ≤ maxLen) :
    Calls Tryz.prog 56 #[.int .i64 lo, .int .i64 hi, .slice A n c] w fun e w' => e = .returned (.bool (xs.all (inB lo hi))) ∧ w = w' := by
  unfold maxLen at hm
  obtain ⟨hl, hc⟩ := h
  go_enter Tryz.func56, Tryz.ntmps56
  go_wp2
  go_loop [11] (fun i => ∃ k : Nat, k ≤ n ∧ i = .int .i64 k ∧ (xs.take k).all (inB lo hi) = true) (fun i => n - (intOf i).toNat)
  case atStart => exact ⟨0, Nat.zero_le _, rfl, rfl⟩
  case round =>
    obtain ⟨k, hk, rfl, hr⟩ := hrel
    by_cases hlt : k < n
    · obtain ⟨b, off, rfl, hlt2, hcell0⟩ := hc (by omega)
      have hcell := hcell0 k hlt
      clear hcell0 hc
      have hx : xs[k]? = some (xs[k]'(by omega)) := List.getElem?_eq_getElem (by omega)
      have hts := all_take_succ (inB lo hi) xs k (by omega) hr
      have hfs := all_false_at (inB lo hi) xs k (by omega)
      rw [hx] at hcell
      simp only [Option.getD_some] at hcell
      generalize xs[k]'(by omega) = x at *
      have HT := hide hts
      have HF := hide hfs
      clear hts hfs hx
      go_wp2
      · go_ret
        exact ⟨ret_bool (HF.out (inB_no (by omega))).symm, rfl⟩
      · go_ret
        exact ⟨ret_bool (HF.out (inB_no (by omega))).symm, rfl⟩
      · go_round
        case rel => exact ⟨k + 1, by omega, by go_num, HT.out (inB_iff.2 (by omega))⟩
        case measure => simp [intOf]; omega
    · go_wp2
      go_ret
      exact ⟨ret_bool (by rw [← hr, List.take_of_length_le (by omega)]), rfl⟩

theorem isLeap_any (y : Int) (w : World) : Calls Tryz.prog 93 #[.int .i64 y] w fun e w' => e = .returned (.bool (Cal.leapB y)) ∧ w = w' := by
  go_enter Tryz.func93, Tryz.ntmps93
  go_wp2
  all_goals go_ret
  all_goals refine ⟨ret_bool ?_, rfl⟩
  · exact (Cal.leapB_yes (y := y) (.inl (by simp [*]))).symm
  · exact (Cal.leapB_mid (y := y) (by simp [*])).symm
  · exact (Cal.leapB_mid (y := y) (by simp [*])).symm

theorem daysOfYear_any (y : Int) (w : World) : Calls Tryz.prog 94 #[.int .i64 y] w fun e w' => e = .returned (.int .i64 (Cal.diy y)) ∧ w = w' := by
  go_enter Tryz.func94, Tryz.ntmps94
  go_wp2_with (go_at_call 93; refine (isLeap_any _ _).mono ?_; rintro e w' ⟨rfl, rfl⟩)
  · go_ret
    exact ⟨ret_int (by simp [Cal.diy, *]), rfl⟩
  · go_ret
    exact ⟨ret_int (by simp [Cal.diy, *]), rfl⟩

theorem daysOfMonth_any (y m : Int) (w : World) (he : Env w) (h1 : 1 ≤ m) (h2 : m ≤ 12) : Calls Tryz.prog 57 #[.int .i64 y, .int .i64 m] w fun e w' => e = .returned (.int .i64 (Cal.dim y m)) ∧ w = w' := by
  by_cases h : m = 2
  · subst h
    have hc := he.months 1 (by omega)
    simp only [Cal.monthTab] at hc
    clear he
    go_enter Tryz.func57, Tryz.ntmps57
    go_wp2_with (go_at_call 93; refine (isLeap_any _ _).mono ?_; rintro e w' ⟨rfl, rfl⟩)
    · go_ret
      exact ⟨ret_int (by simp [Cal.dim, *]), rfl⟩
    · go_ret
      exact ⟨ret_int (by simp [Cal.dim, Cal.monthTab, *]), rfl⟩
  · have hc := he.months (m.toNat - 1) (by omega)
    clear he
    go_enter Tryz.func57, Tryz.ntmps57
    go_wp2
    go_ret
    exact ⟨ret_int (by simp [Cal.dim, Cal.monthTab, *]), rfl⟩

def DayRes (y m d : Int) (e : Ending) : Prop := ∃ r, e = .returned (.int .i64 r) ∧ Cal.DayIs y m d r
theorem dayOf_any (Y M D : Int) (w : World) (he : Env w) (hY : 2000 ≤ Y) (hY2 : Y ≤ 9223372036854775807) (hM : 1 ≤ M) (hM2 : M ≤ 12) (hD : 1 ≤ D) (hD2 : D ≤ 31) :
    Calls Tryz.prog 58 #[.agg #[.int .i64 Y, .int .i64 M, .int .i64 D]] w fun e w' => DayRes Y M D e ∧ Below w.heap.size w w' := by
  go_enter Tryz.func58, Tryz.ntmps58
  go_wp2
  go_loop [3, 4] (fun s i => ∃ n : Nat, 2000 + (n : Int) ≤ Y ∧ i = .int .i64 (2000 + n) ∧ D - 1 + Cal.sumY n ≤ 40400 ∧ s = .int .i64 (D - 1 + Cal.sumY n)) (fun _ i => (Y - intOf i).toNat)
  case atStart => exact ⟨0, by omega, rfl, by simp [Cal.sumY]; omega, by simp [Cal.sumY]⟩
  case round =>
    obtain ⟨n, hn, rfl, hb, rfl⟩ := hrel
    have g0 := (Cal.sumY_ge n).1
    by_cases hc : 2000 + (n : Int) < Y ∧ D - 1 + Cal.sumY n ≤ 40000
    · obtain ⟨hc1, hc2⟩ := hc
      have g1 := Cal.diy_bd (2000 + n)
      go_wp2_with (go_at_call 94; refine (daysOfYear_any _ _).mono ?_; rintro e w' ⟨rfl, rfl⟩)
      go_round
      case rel => exact ⟨n + 1, by omega, by go_num, by simp only [Cal.sumY]; omega, by simp only [Cal.sumY]; go_num⟩
      case measure => simp [intOf]; omega
    · have hend : 2000 + (n : Int) = Y ∨ 40000 < D - 1 + Cal.sumY n := by omega
      have HE := hide hend
      have hfin : ∀ k : Nat, k = M.toNat - 1 → DayRes Y M D (.returned (.int .i64 (D - 1 + Cal.sumY n + Cal.cumM Y k))) :=
        fun k hk => ⟨_, rfl, by rw [hk]; exact Cal.dayIs_of Y M D n hY hM hM2 hD hD2 hn (by omega) hend⟩
      have HF := hide hfin
      clear hend hfin
      have he1 := he.alloc (.cells #[.int .i64 Y, .int .i64 M, .int .i64 D] 23)
      by_cases hc1 : 2000 + (n : Int) < Y
      all_goals
        go_wp2
        go_loop [3, 5] (fun s j => ∃ k : Nat, (k : Int) + 1 ≤ M ∧ j = .int .i64 (k + 1) ∧ s = .int .i64 (D - 1 + Cal.sumY n + Cal.cumM Y k)) (fun _ j => (M - intOf j).toNat)
        case atStart => exact ⟨0, by omega, rfl, by simp [Cal.cumM]⟩
        case round =>
          obtain ⟨k, hk, rfl, rfl⟩ := hrel
          have g2 := Cal.cumM_ge Y k (by omega)
          by_cases hm : (k : Int) + 1 < M
          · have g3 := Cal.dim_bd Y ((k : Int) + 1) (by omega) (by omega)
            go_wp2_with (go_at_call 57; refine (daysOfMonth_any _ _ _ he1 (by omega) (by omega)).mono ?_; rintro e w' ⟨rfl, rfl⟩)
            go_round
            case rel => exact ⟨k + 1, by omega, by go_num, by simp only [Cal.cumM]; go_num⟩
            case measure => simp [intOf]; omega
          · go_wp2
            go_ret
            exact ⟨HF.out k (by omega), (Below.refl _ _).alloc (Nat.le_refl _) _⟩


end Go.Proofs.YtjfdfhnfcpfmcaaGreatDoor

namespace Go.Proofs.YtjfdfhnfcpfmcaaGreatDoor
open Go.RowKit

def DateRes (n : Int) (e : Ending) : Prop := ∃ y m d, e = .returned (.agg #[.int .i64 y, .int .i64 m, .int .i64 d]) ∧ Cal.DateIs n y m d
def DateW (w wr : World) (y m d : Int) : Prop :=
  Below w.heap.size w wr ∧ Blk wr w.heap.size 23 #[.int .i64 0, .int .i64 0, .int .i64 0] ∧ Blk wr (w.heap.size + 1) 23 #[.int .i64 y, .int .i64 m, .int .i64 d]
theorem DateW.cells {w wr : World} {y m d : Int} (h : DateW w wr y m d) :
    w.heap.size + 1 < wr.heap.size ∧ (wr.cell? ⟨w.heap.size + 1, 0, none⟩ = some (.int .i64 y) ∧ wr.cell? ⟨w.heap.size + 1, 1, none⟩ = some (.int .i64 m) ∧ wr.cell? ⟨w.heap.size + 1, 2, none⟩ = some (.int .i64 d)) ∧
    (wr.frozen? ⟨w.heap.size + 1, 0, none⟩ = false ∧ wr.frozen? ⟨w.heap.size + 1, 1, none⟩ = false ∧ wr.frozen? ⟨w.heap.size + 1, 2, none⟩ = false) ∧
    (wr.cell? ⟨w.heap.size, 0, none⟩ = some (.int .i64 0) ∧ wr.cell? ⟨w.heap.size, 1, none⟩ = some (.int .i64 0) ∧ wr.cell? ⟨w.heap.size, 2, none⟩ = some (.int .i64 0)) ∧
    (wr.frozen? ⟨w.heap.size, 0, none⟩ = false ∧ wr.frozen? ⟨w.heap.size, 1, none⟩ = false ∧ wr.frozen? ⟨w.heap.size, 2, none⟩ = false) :=
  ⟨h.2.2.lt, ⟨h.2.2.cell 0, h.2.2.cell 1, h.2.2.cell 2⟩, ⟨h.2.2.frozen 0, h.2.2.frozen 1, h.2.2.frozen 2⟩, ⟨h.2.1.cell 0, h.2.1.cell 1, h.2.1.cell 2⟩, ⟨h.2.1.frozen 0, h.2.1.frozen 1, h.2.1.frozen 2⟩⟩
theorem DateW.drewN {w wr : World} {y m d : Int} (h : DateW w wr y m d) (n : Nat) : DateW w (wr.drewN n) y m d := ⟨below_drewN h.1 n, h.2.1, h.2.2⟩
theorem DateW.set {w wr : World} {y m d y' m' d' : Int} (h : DateW w wr y m d) (i : Nat) (u : Value) (hu : #[Value.int .i64 y, .int .i64 m, .int .i64 d].setIfInBounds i u = #[.int .i64 y', .int .i64 m', .int .i64 d']) :
    DateW w (wr.setCell ⟨w.heap.size + 1, i, none⟩ u) y' m' d' :=
  ⟨h.1.setCell (by simp) u, h.2.1.far (by simp) u, by have := h.2.2.set_ i u; rw [hu] at this; exact this⟩
theorem DateW.cast {w wr : World} {y m d y' m' d' : Int} (h : DateW w wr y m d) (e1 : y = y') (e2 : m = m') (e3 : d = d') : DateW w wr y' m' d' := by
  subst e1; subst e2; subst e3; exact h
set_option maxRecDepth 100000 in
theorem dateOf_any (n : Int) (w : World) (he : Env w) (h0 : 0 ≤ n) (h1 : n ≤ 40000) :
    Calls Tryz.prog 62 #[.int .i64 n] w fun e w' => DateRes n e ∧ Below w.heap.size w w' := by
  go_enter Tryz.func62, Tryz.ntmps62
  go_wp2
  go_loopg [7] 40001 (fun k _ wr => ∃ j : Nat, DateW w wr (2000 + j) 1 (n + 1 - Cal.sumY j) ∧ Cal.sumY j ≤ n ∧ 40001 ≤ k + 365 * j)
  case atStart =>
    refine ⟨0, ⟨((Below.refl _ _).alloc (Nat.le_refl _) _).alloc (by simp) _, (Blk.new _ _ _).alloc _, ?_⟩, by simp [Cal.sumY]; omega, by omega⟩
    have := Blk.new (w.alloc (.cells #[.int .i64 0, .int .i64 0, .int .i64 0] 23)) 23 #[.int .i64 2000, .int .i64 1, .int .i64 (n + 1)]
    simpa [Cal.sumY] using this
  case round =>
    obtain ⟨j, hW, hs, hk⟩ := hrel
    obtain ⟨hz, ⟨c0, c1, c2⟩, ⟨f0, f1, f2⟩, ⟨r0, r1, r2⟩, ⟨rf0, rf1, rf2⟩⟩ := hW.cells
    have HW := hide hW
    clear hW
    have g := Cal.diy_bd (2000 + j)
    have g2 := Cal.sumY_ge j
    by_cases hc : Cal.diy (2000 + j) < n + 1 - Cal.sumY j
    · go_wp2
      go_quiet ((go_at_call 94; exact quiet_left (daysOfYear_any _ _)))
      go_wp2
      refine region_tail 7 (by kernel_rfl) (by kernel_rfl) ?_
      simp only [List.take_succ_cons, List.take_zero, List.drop_succ_cons, List.drop_zero]
      iterate 4 still_step
      still_call ((daysOfYear_any _ _).mono fun _ _ h => ⟨h.1, h.2.symm⟩)
      iterate 2 still_step
      refine wpStill_nil ?_
      go_wp2
      go_roundg (gk - 365)
      case measure => omega
      case rel =>
        exact ⟨j + 1, (((HW.out.drewN (nq + 1)).set (y' := 2000 + j) (m' := 1) (d' := n + 1 - Cal.sumY j - Cal.diy (2000 + j)) 2 _ rfl).set (y' := 2000 + j + 1) (m' := 1) (d' := n + 1 - Cal.sumY j - Cal.diy (2000 + j)) 0 _ rfl).cast (by omega) rfl (by simp only [Cal.sumY]; omega), by simp only [Cal.sumY]; omega, by omega⟩
    · go_wp2
      go_quiet ((go_at_call 94; exact quiet_left (daysOfYear_any _ _)))
      go_wp2
      clear c0 c1 c2 f0 f1 f2 r0 r1 r2 rf0 rf1 rf2
      go_loopg [24] 12 (fun k _ W2 => ∃ m : Nat, DateW w W2 (2000 + j) (m + 1) (n + 1 - Cal.sumY j - Cal.cumM (2000 + j) m) ∧ m ≤ 11 ∧ 1 ≤ n + 1 - Cal.sumY j - Cal.cumM (2000 + j) m ∧ 12 ≤ k + m)
      case atStart => exact ⟨0, by simpa [Cal.cumM] using HW.out.drewN nq, by omega, by simp [Cal.cumM]; omega, by omega⟩
      case round =>
        obtain ⟨m, hW, hm, hd, hk2⟩ := hrel
        obtain ⟨hz, ⟨c0, c1, c2⟩, ⟨f0, f1, f2⟩, ⟨r0, r1, r2⟩, ⟨rf0, rf1, rf2⟩⟩ := hW.cells
        have he2 := he.below hW.1 he.size
        have HW := hide hW
        clear hW
        have g := Cal.dim_bd (2000 + j) (m + 1) (by omega) (by omega)
        have g2 := Cal.cumM_ge (2000 + j) m (by omega)
        by_cases hc : Cal.dim (2000 + j) (m + 1) < n + 1 - Cal.sumY j - Cal.cumM (2000 + j) m
        · go_wp2
          go_quiet ((go_at_call 57; exact quiet_left (daysOfMonth_any _ _ _ (he2.below (below_drewN (Below.refl _ _) _) he2.size) (by omega) (by omega))))
          go_wp2
          refine region_tail 9 (by kernel_rfl) (by kernel_rfl) ?_
          simp only [List.take_succ_cons, List.take_zero, List.drop_succ_cons, List.drop_zero]
          iterate 6 still_step
          still_call ((daysOfMonth_any _ _ _ (he2.below (below_drewN (Below.refl _ _) _) he2.size) (by omega) (by omega)).mono fun _ _ h => ⟨h.1, h.2.symm⟩)
          iterate 2 still_step
          refine wpStill_nil ?_
          go_wp2
          have hm2 := Cal.month_more n j m hm (by omega) hc
          go_roundg (gk - 1)
          case measure => omega
          case rel =>
            exact ⟨m + 1, (((HW.out.drewN (nq + 1)).set (y' := 2000 + j) (m' := m + 1) (d' := n + 1 - Cal.sumY j - Cal.cumM (2000 + j) m - Cal.dim (2000 + j) (m + 1)) 2 _ rfl).set (y' := 2000 + j) (m' := m + 1 + 1) (d' := n + 1 - Cal.sumY j - Cal.cumM (2000 + j) m - Cal.dim (2000 + j) (m + 1)) 1 _ rfl).cast rfl (by omega) (by simp only [Cal.cumM]; omega), by omega, by simp only [Cal.cumM]; omega, by omega⟩
        · go_wp2
          go_quiet ((go_at_call 57; exact quiet_left (daysOfMonth_any _ _ _ (he2.below (below_drewN (Below.refl _ _) _) he2.size) (by omega) (by omega))))
          go_wp2
          refine bodyPost_ret (v := .agg #[.int .i64 (2000 + j), .int .i64 (m + 1), .int .i64 (n + 1 - Cal.sumY j - Cal.cumM (2000 + j) m)]) (by simp [results, Tryz.results62, go_sem, r0, r1, r2]) rfl ⟨⟨_, _, _, rfl, Cal.dateIs_of n j m hm hd (by omega)⟩, ?_⟩
          exact ((((below_drewN HW.out.1 _).setCell (by simp) _).setCell (by simp) _).setCell (by simp) _)
end Go.Proofs.YtjfdfhnfcpfmcaaGreatDoor

namespace Go.Proofs.YtjfdfhnfcpfmcaaGreatDoor
open Go.RowKit

theorem within_one (lo hi x : Int) (b off c : Nat) (w : World) (h : w.cell? ⟨b, off, none⟩ = some (.int .i64 x)) :
    Calls Tryz.prog 56 #[.int .i64 lo, .int .i64 hi, .slice (some ⟨b, off, none⟩) 1 c] w fun e w' => e = .returned (.bool (inB lo hi x)) ∧ w = w' := by
  have h' : RdInts w (some ⟨b, off, none⟩) 1 [x] := ⟨rfl, fun _ => ⟨b, off, rfl, lt_of_cell h, fun j hj => by
    obtain rfl : j = 0 := by omega
    exact h⟩⟩
  refine (within_any lo hi _ 1 c [x] w h' (by unfold maxLen; omega)).mono fun e w' he => ?_
  simpa using he
theorem within_two (lo hi x y : Int) (b off c : Nat) (w : World) (h : w.cell? ⟨b, off, none⟩ = some (.int .i64 x)) (h2 : w.cell? ⟨b, off + 1, none⟩ = some (.int .i64 y)) :
    Calls Tryz.prog 56 #[.int .i64 lo, .int .i64 hi, .slice (some ⟨b, off, none⟩) 2 c] w fun e w' => e = .returned (.bool (inB lo hi x && inB lo hi y)) ∧ w = w' := by
  have h' : RdInts w (some ⟨b, off, none⟩) 2 [x, y] := ⟨rfl, fun _ => ⟨b, off, rfl, lt_of_cell h, fun j hj => by
    rcases (show j = 0 ∨ j = 1 by omega) with rfl | rfl
    · exact h
    · exact h2⟩⟩
  refine (within_any lo hi _ 2 c [x, y] w h' (by unfold maxLen; omega)).mono fun e w' he => ?_
  simpa using he

theorem within_one_no (lo hi x : Int) (b off c : Nat) (w : World) (h : w.cell? ⟨b, off, none⟩ = some (.int .i64 x)) (hx : ¬ (lo ≤ x ∧ x ≤ hi)) :
    Calls Tryz.prog 56 #[.int .i64 lo, .int .i64 hi, .slice (some ⟨b, off, none⟩) 1 c] w fun e w' => e = .returned (.bool false) ∧ w = w' := by
  have := within_one lo hi x b off c w h
  rwa [inB_no hx] at this
theorem within_one_yes (lo hi x : Int) (b off c : Nat) (w : World) (h : w.cell? ⟨b, off, none⟩ = some (.int .i64 x)) (hx : lo ≤ x ∧ x ≤ hi) :
    Calls Tryz.prog 56 #[.int .i64 lo, .int .i64 hi, .slice (some ⟨b, off, none⟩) 1 c] w fun e w' => e = .returned (.bool true) ∧ w = w' := by
  have := within_one lo hi x b off c w h
  rwa [inB_iff.2 hx] at this

set_option maxRecDepth 100000 in
theorem Date_no (n : Int) (w : World) (h : inB 0 40000 n = false) :
    Calls Tryz.prog 22 #[.int .i64 n] w fun e w' => e = .returned (.tuple #[.agg #[.int .i64 0, .int .i64 0, .int .i64 0], .int .i64 7]) ∧ Below w.heap.size w w' := by
  go_enter Tryz.func22, Tryz.ntmps22
  go_wp2_with (go_at_call 56; refine (within_one _ _ n _ _ _ _ (by go_simp)).mono ?_; rintro e w' ⟨rfl, rfl⟩)
  refine bodyPost_ret (v := .tuple #[.agg #[.int .i64 0, .int .i64 0, .int .i64 0], .int .i64 7]) (by simp [results, Tryz.results22, go_sem]) rfl ⟨rfl, ?_⟩
  exact ((Below.refl _ _).alloc (by simp) _).alloc (by simp) _
set_option maxRecDepth 100000 in
theorem Date_yes (n : Int) (w : World) (he : Env w) (h : inB 0 40000 n = true) :
    Calls Tryz.prog 22 #[.int .i64 n] w fun e w' => (∃ y m d, e = .returned (.tuple #[.agg #[.int .i64 y, .int .i64 m, .int .i64 d], .int .i64 0]) ∧ Cal.DateIs n y m d) ∧ Below w.heap.size w w' := by
  have hb := inB_iff.1 h
  have he2 := (he.alloc (.cells #[.int .i64 0, .int .i64 0, .int .i64 0] 23)).alloc (.cells #[.int .i64 n] 3)
  have HB : Below w.heap.size w ((w.alloc (.cells #[.int .i64 0, .int .i64 0, .int .i64 0] 23)).alloc (.cells #[.int .i64 n] 3)) := ((Below.refl _ _).alloc (by simp) _).alloc (by simp) _
  go_enter Tryz.func22, Tryz.ntmps22
  go_wp2_with (go_at_call 56; refine (within_one _ _ n _ _ _ _ (by go_simp)).mono ?_; rintro e w' ⟨rfl, rfl⟩)
  refine (dateOf_any _ _ he2 hb.1 hb.2).mono ?_
  rintro e w1 ⟨⟨y, m, d, rfl, hd⟩, hb1⟩
  obtain ⟨hc, hf⟩ := bcell hb1
  have hz : w.heap.size + 1 < w1.heap.size := by have := hb1.size; simp at this; omega
  have c0 : w1.cell? ⟨w.heap.size, 0, none⟩ = some (.int .i64 0) := (hc _ _ (by simp; omega)).trans (by go_simp)
  have c1 : w1.cell? ⟨w.heap.size, 1, none⟩ = some (.int .i64 0) := (hc _ _ (by simp; omega)).trans (by go_simp)
  have c2 : w1.cell? ⟨w.heap.size, 2, none⟩ = some (.int .i64 0) := (hc _ _ (by simp; omega)).trans (by go_simp)
  clear hc
  go_wp2
  refine bodyPost_ret (v := .tuple #[.agg #[.int .i64 y, .int .i64 m, .int .i64 d], .int .i64 0]) (by simp [results, Tryz.results22, go_sem, c0, c1, c2]) rfl ⟨⟨_, _, _, rfl, hd⟩, ?_⟩
  exact (((HB.trans (hb1.mono (by simp; omega))).setCell (by simp) _).setCell (by simp) _).setCell (by simp) _

set_option maxRecDepth 100000 in
theorem plus_any (n years months : Int) (w : World) (he : Env w) (h0 : 0 ≤ n) (h1 : n ≤ 40000) (hy : 0 ≤ years) (hy2 : years ≤ 200) (hm : 0 ≤ months) (hm2 : months ≤ 1200) :
    Calls Tryz.prog 64 #[.int .i64 n, .int .i64 years, .int .i64 months] w fun e w' => (∃ r, e = .returned (.int .i64 r) ∧ Cal.PlusIs n years months r) ∧ Below w.heap.size w w' := by
  go_enter Tryz.func64, Tryz.ntmps64
  go_wp2_with fail
  refine (dateOf_any _ _ he h0 h1).mono ?_
  rintro e w1 ⟨⟨y, m, d, rfl, hd⟩, hb1⟩
  have ⟨bd1, bd2⟩ := Cal.dateIs_bd hd h1
  have ⟨bd3, bd4, bd5, bd6, _, _⟩ := hd
  obtain ⟨hc, hf⟩ := bcell hb1
  have hz : w.heap.size ≤ w1.heap.size := hb1.size
  have he1 := (he.below hb1 he.size).alloc (.cells #[.int .i64 (y + (years + (m - 1 + months) / 12)), .int .i64 ((m - 1 + months) % 12 + 1), .int .i64 d] 23)
  have g := Cal.dim_bd (y + (years + (m - 1 + months) / 12)) ((m - 1 + months) % 12 + 1) (by omega) (by omega)
  go_wp2
  refine region_tail 9 (by kernel_rfl) (by kernel_rfl) ?_
  simp only [List.take_succ_cons, List.take_zero, List.drop_succ_cons, List.drop_zero]
  iterate 6 still_step
  still_call ((daysOfMonth_any _ _ _ he1.drew (by omega) (by omega)).mono fun _ _ h => ⟨h.1, h.2.symm⟩)
  iterate 2 still_step
  refine wpStill_nil ?_
  go_wp2_with fail
  all_goals
    refine (dayOf_any _ _ _ _ ((he.below hb1 he.size).alloc _).drew (by omega) (by omega) (by omega) (by omega) (by omega) (by omega)).mono ?_
    rintro e w2 ⟨⟨r, rfl, hr⟩, hb2⟩
    have HR := hide hr
    clear hr
    go_wp2
    go_ret
    refine ⟨⟨r, rfl, y, m, d, hd, ?_⟩, ((hb1.alloc hz _).drew).trans (hb2.mono (by simp; omega))⟩
    have hr := HR.out
  · rw [show min d (Cal.dim (y + (years + (m - 1 + months) / 12)) ((m - 1 + months) % 12 + 1)) = Cal.dim (y + (years + (m - 1 + months) / 12)) ((m - 1 + months) % 12 + 1) by omega]
    exact hr
  · rw [show min d (Cal.dim (y + (years + (m - 1 + months) / 12)) ((m - 1 + months) % 12 + 1)) = d by omega]
    exact hr
end Go.Proofs.YtjfdfhnfcpfmcaaGreatDoor

namespace Go.Proofs.YtjfdfhnfcpfmcaaGreatDoor
open Go.RowKit RG

set_option maxRecDepth 100000 in
set_option maxHeartbeats 2000000 in
theorem Day_month (Y M D : Int) (w : World) (h : ¬ (1 ≤ M ∧ M ≤ 12)) :
    Calls Tryz.prog 18 #[.agg #[.int .i64 Y, .int .i64 M, .int .i64 D]] w fun e w' => e = .returned (.tuple #[.int .i64 0, .int .i64 6]) ∧ Below w.heap.size w w' := by
  go_enter Tryz.func18, Tryz.ntmps18
  go_wp2
  refine region_grow [IsV (.pointer (some ⟨w.heap.size, 1, none⟩)), IsV (.int .i64 M), IsOne M, IsV (.bool false), IsV (.bool true), IsV (.bool true),
    IsV undef, IsV undef, IsV undef, IsV undef, IsV undef, IsV undef, IsV undef, IsV undef, IsV undef, IsV undef, IsV (.bool true)] (by kernel_rfl) (by kernel_rfl) rfl ?_ ?_ ?_
  · simp [AllStb, IsV.stb, IsOne.stb]
  · refine ⟨?_, ?_, ?_, ?_, ?_, ?_, ?_, ?_, ?_, ?_, ?_, ?_, ?_, ?_, ?_, ?_, ?_, trivial⟩
    all_goals
      intro y w1 K Q Cv hC hd hV
      have c1 : w1.cell? ⟨w.heap.size, 1, none⟩ = some (.int .i64 M) := (hC.cell (by simp)).trans (by go_simp)
      have hz := hC.size
      simp [deps, VL, IsV, Region.binds] at hd
      try obtain ⟨b2, cc2, h2, hc2⟩ := hd
      simp only [putAll, Act.put]
      go_simp
      intro hK
    · exact hK _ _ (hV _ _ hC (Below.refl _ _) rfl)
    · exact hK _ _ (hV _ _ hC (Below.refl _ _) rfl)
    · exact hK _ _ (hV _ _ (hC.alloc hz _) ((Below.refl _ _).alloc (Nat.le_refl _) _) ⟨_, _, rfl, by simp⟩)
    · refine (within_one_no _ _ M _ _ _ _ hc2 h).mono ?_
      rintro e w2 ⟨rfl, rfl⟩
      exact hK _ _ (hV _ _ hC (Below.refl _ _) rfl)
    all_goals exact hK _ _ (hV _ _ hC (Below.refl _ _) rfl)
  · intro y w1 hC hd
    simp [EndsL, IsV] at hd
    obtain ⟨d0, d1, ⟨b2, cc2, d2, hc2⟩, d3, d4, d5, d6, d7, d8, d9, d10, d11, d12, d13, d14, d15, d16⟩ := hd
    simp only [putAll, Act.put]
    rw [d0, d1, d2, d3, d4, d5, d6, d7, d8, d9, d10, d11, d12, d13, d14, d15, d16]
    clear d0 d1 d2 d3 d4 d5 d6 d7 d8 d9 d10 d11 d12 d13 d14 d15 d16
    simp only [List.setIfInBounds_toArray, List.set_cons_succ, List.set_cons_zero]
    go_wp2
    go_ret2
    exact ⟨rfl, ((Below.refl _ _).alloc (by simp) _).trans (hC.mono (by simp))⟩

set_option maxRecDepth 100000 in
set_option maxHeartbeats 2000000 in
theorem Day_ok (Y M D : Int) (w : World) (he : Env w) (h : 1 ≤ M ∧ M ≤ 12) (hY : -9223372036854775808 ≤ Y ∧ Y ≤ 9223372036854775807) :
    Calls Tryz.prog 18 #[.agg #[.int .i64 Y, .int .i64 M, .int .i64 D]] w fun e w' => e = .returned (.tuple #[.int .i64 (Cal.dayF Y M D).1, .int .i64 (Cal.dayF Y M D).2]) ∧ Below w.heap.size w w' := by
  have he0 := he.alloc (.cells #[.int .i64 Y, .int .i64 M, .int .i64 D] 23)
  obtain ⟨b, hb⟩ : ∃ b, inB 1 (Cal.dim Y M) D = b := ⟨_, rfl⟩
  have HB := hide hb
  clear hb
  go_enter Tryz.func18, Tryz.ntmps18
  go_wp2
  refine region_grow [IsV (.pointer (some ⟨w.heap.size, 1, none⟩)), IsV (.int .i64 M), IsOne M, IsV (.bool true), IsV (.bool false), IsV (.bool false),
    IsV (.pointer (some ⟨w.heap.size, 0, none⟩)), IsV (.int .i64 Y), IsV (.pointer (some ⟨w.heap.size, 1, none⟩)), IsV (.int .i64 M), IsV (.int .i64 (Cal.dim Y M)), IsV (.pointer (some ⟨w.heap.size, 2, none⟩)), IsV (.int .i64 D), IsOne D, IsV (.bool b), IsV (.bool !b), IsV (.bool !b)] (by kernel_rfl) (by kernel_rfl) rfl ?_ ?_ ?_
  · simp [AllStb, IsV.stb, IsOne.stb]
  · refine ⟨?_, ?_, ?_, ?_, ?_, ?_, ?_, ?_, ?_, ?_, ?_, ?_, ?_, ?_, ?_, ?_, ?_, trivial⟩
    all_goals
      intro y w1 K Q Cv hC hd hV
      have c0 : w1.cell? ⟨w.heap.size, 0, none⟩ = some (.int .i64 Y) := (hC.cell (by simp)).trans (by go_simp)
      have c1 : w1.cell? ⟨w.heap.size, 1, none⟩ = some (.int .i64 M) := (hC.cell (by simp)).trans (by go_simp)
      have c2 : w1.cell? ⟨w.heap.size, 2, none⟩ = some (.int .i64 D) := (hC.cell (by simp)).trans (by go_simp)
      have hz := hC.size
      simp [deps, VL, IsV, Region.binds] at hd
    · simp only [putAll, Act.put]; go_simp; intro hK; exact hK _ _ (hV _ _ hC (Below.refl _ _) rfl)
    · simp only [putAll, Act.put]; go_simp; intro hK; exact hK _ _ (hV _ _ hC (Below.refl _ _) rfl)
    · simp only [putAll, Act.put]; go_simp; intro hK; exact hK _ _ (hV _ _ (hC.alloc hz _) ((Below.refl _ _).alloc (Nat.le_refl _) _) ⟨_, _, rfl, by simp⟩)
    · obtain ⟨b2, cc2, h2, hc2⟩ := hd
      simp only [putAll, Act.put]; go_simp; intro hK
      refine (within_one_yes _ _ M _ _ _ _ hc2 h).mono ?_
      rintro e w2 ⟨rfl, rfl⟩
      exact hK _ _ (hV _ _ hC (Below.refl _ _) rfl)
    · simp only [putAll, Act.put]; go_simp; intro hK; exact hK _ _ (hV _ _ hC (Below.refl _ _) rfl)
    · simp only [putAll, Act.put]; go_simp; intro hK; exact hK _ _ (hV _ _ hC (Below.refl _ _) rfl)
    · simp only [putAll, Act.put]; go_simp; intro hK; exact hK _ _ (hV _ _ hC (Below.refl _ _) rfl)
    · simp only [putAll, Act.put]; go_simp; intro hK; exact hK _ _ (hV _ _ hC (Below.refl _ _) rfl)
    · simp only [putAll, Act.put]; go_simp; intro hK; exact hK _ _ (hV _ _ hC (Below.refl _ _) rfl)
    · simp only [putAll, Act.put]; go_simp; intro hK; exact hK _ _ (hV _ _ hC (Below.refl _ _) rfl)
    · simp only [putAll, Act.put]; go_simp; intro hK
      refine (daysOfMonth_any _ _ _ (he0.below hC he0.size) h.1 h.2).mono ?_
      rintro e w2 ⟨rfl, rfl⟩
      exact hK _ _ (hV _ _ hC (Below.refl _ _) rfl)
    · simp only [putAll, Act.put]; go_simp; intro hK; exact hK _ _ (hV _ _ hC (Below.refl _ _) rfl)
    · simp only [putAll, Act.put]; go_simp; intro hK; exact hK _ _ (hV _ _ hC (Below.refl _ _) rfl)
    · simp only [putAll, Act.put]; go_simp; intro hK; exact hK _ _ (hV _ _ (hC.alloc hz _) ((Below.refl _ _).alloc (Nat.le_refl _) _) ⟨_, _, rfl, by simp⟩)
    · have hI : IsOne D (y 13) w1 := by first | exact hd.2.1 | exact hd.1
      obtain ⟨b2, cc2, h2, hc2⟩ := hI
      simp only [putAll, Act.put]; go_simp; intro hK
      refine (within_one _ _ D _ _ _ _ hc2).mono ?_
      rintro e w2 ⟨rfl, rfl⟩
      rw [HB.out]
      exact hK _ _ (hV _ _ hC (Below.refl _ _) rfl)
    · simp only [putAll, Act.put]; go_simp; intro hK; exact hK _ _ (hV _ _ hC (Below.refl _ _) rfl)
    · simp only [putAll, Act.put]; go_simp; intro hK; exact hK _ _ (hV _ _ hC (Below.refl _ _) rfl)
  · intro y w1 hC hd
    have c0 : w1.cell? ⟨w.heap.size, 0, none⟩ = some (.int .i64 Y) := (hC.cell (by simp)).trans (by go_simp)
    have c1 : w1.cell? ⟨w.heap.size, 1, none⟩ = some (.int .i64 M) := (hC.cell (by simp)).trans (by go_simp)
    have c2 : w1.cell? ⟨w.heap.size, 2, none⟩ = some (.int .i64 D) := (hC.cell (by simp)).trans (by go_simp)
    have he1 := he0.below hC he0.size
    have hB : Below w.heap.size w w1 := ((Below.refl _ _).alloc (by simp) _).trans (hC.mono (by simp))
    simp [EndsL, IsV] at hd
    obtain ⟨d0, d1, ⟨b2, cc2, d2, hc2⟩, d3, d4, d5, d6, d7, d8, d9, d10, d11, d12, ⟨b3, cc3, d13, hc3⟩, d14, d15, d16⟩ := hd
    simp only [putAll, Act.put]
    rw [d0, d1, d2, d3, d4, d5, d6, d7, d8, d9, d10, d11, d12, d13, d14, d15, d16]
    clear d0 d1 d2 d3 d4 d5 d6 d7 d8 d9 d10 d11 d12 d13 d14 d15 d16 hC he0 hc2 hc3
    simp only [List.setIfInBounds_toArray, List.set_cons_succ, List.set_cons_zero]
    cases b
    · have hno : Cal.dayF Y M D = (0, 6) := by
        have := HB.out
        unfold Cal.dayF
        rw [if_neg]
        rintro ⟨_, _, h3, h4⟩
        rw [inB_iff.2 ⟨h3, h4⟩] at this
        cases this
      have HN := hide hno
      clear hno
      go_wp2
      go_ret2
      exact ⟨by rw [HN.out]; rfl, hB⟩
    · have hD := inB_iff.1 HB.out
      have his : Cal.isDate Y M D := ⟨h.1, h.2, hD⟩
      have bd := Cal.dim_bd Y M h.1 h.2
      by_cases hy : Y < 2000
      · have hno : Cal.dayF Y M D = (0, 7) := by unfold Cal.dayF; rw [if_pos his, if_pos (.inl hy)]
        have HN := hide hno
        clear hno his
        go_wp2
        go_ret2
        exact ⟨by rw [HN.out]; rfl, hB⟩
      · have HI := hide his
        clear his
        go_wp2_with fail
        refine (dayOf_any _ _ _ _ he1 (by omega) (by omega) (by omega) (by omega) (by omega) (by omega)).mono ?_
        rintro e w2 ⟨⟨r, rfl, hr⟩, hb2⟩
        have ⟨r0, r1, r2⟩ := hr
        have HR := hide r2
        clear r2 hr
        by_cases hr4 : 40000 < r
        · go_wp2
          go_ret2
          refine ⟨?_, hB.trans (hb2.mono hB.size)⟩
          have hno : Cal.dayF Y M D = (0, 7) := by
            unfold Cal.dayF; rw [if_pos HI.out, if_pos (.inr (by have := HR.out; omega))]
          rw [hno]; rfl
        · go_wp2
          go_ret2
          refine ⟨?_, hB.trans (hb2.mono hB.size)⟩
          have hno : Cal.dayF Y M D = (r, 0) := by
            have := HR.out
            have hn : r = Cal.num Y M D := by omega
            unfold Cal.dayF; rw [if_pos HI.out, if_neg (by omega), hn]
          rw [hno]; rfl
theorem Day_any (Y M D : Int) (w : World) (he : Env w) (hY : -9223372036854775808 ≤ Y ∧ Y ≤ 9223372036854775807) :
    Calls Tryz.prog 18 #[.agg #[.int .i64 Y, .int .i64 M, .int .i64 D]] w fun e w' => e = .returned (.tuple #[.int .i64 (Cal.dayF Y M D).1, .int .i64 (Cal.dayF Y M D).2]) ∧ Below w.heap.size w w' := by
  by_cases h : 1 ≤ M ∧ M ≤ 12
  · exact Day_ok Y M D w he h hY
  · have hno : Cal.dayF Y M D = (0, 6) := by
      unfold Cal.dayF; rw [if_neg]; rintro ⟨h1, h2, _⟩; exact h ⟨h1, h2⟩
    rw [hno]
    exact Day_month Y M D w h
end Go.Proofs.YtjfdfhnfcpfmcaaGreatDoor

namespace Go.Proofs.YtjfdfhnfcpfmcaaGreatDoor
open Go.RowKit RG

def PlusE (n years months : Int) (e : Ending) : Prop := ∃ a x, e = .returned (.tuple #[.int .i64 a, .int .i64 x]) ∧ Cal.PlusR n years months a x
def AgeE (born day : Int) (e : Ending) : Prop := ∃ a x, e = .returned (.tuple #[.int .i64 a, .int .i64 x]) ∧ Cal.AgeR born day a x

set_option maxRecDepth 100000 in
set_option maxHeartbeats 1000000 in
theorem Plus_any (n years months : Int) (w : World) (he : Env w) :
    Calls Tryz.prog 24 #[.int .i64 n, .int .i64 years, .int .i64 months] w fun e w' => PlusE n years months e ∧ Below w.heap.size w w' := by
  by_cases h1 : 0 ≤ n ∧ n ≤ 40000
  · by_cases h2 : 0 ≤ years ∧ years ≤ 100
    · by_cases h3 : 0 ≤ months ∧ months ≤ 1200
      · go_enter Tryz.func24, Tryz.ntmps24
        go_wp2_with fail
        refine (within_one_yes _ _ n _ _ _ _ (by go_simp) h1).mono ?_
        rintro e w1 ⟨rfl, rfl⟩
        go_wp2_with fail
        refine (within_one_yes _ _ years _ _ _ _ (by go_simp) h2).mono ?_
        rintro e w1 ⟨rfl, rfl⟩
        go_wp2_with fail
        refine (within_one_yes _ _ months _ _ _ _ (by go_simp) h3).mono ?_
        rintro e w1 ⟨rfl, rfl⟩
        go_wp2_with fail
        refine (plus_any _ _ _ _ (((he.alloc _).alloc _).alloc _) h1.1 h1.2 h2.1 (by omega) h3.1 h3.2).mono ?_
        rintro e w1 ⟨⟨r, rfl, hr⟩, hb⟩
        have HR := hide hr
        have HB : Below w.heap.size w w1 := ((((Below.refl _ _).alloc (by simp) _).alloc (by simp) _).alloc (by simp +arith) _).trans (hb.mono (by simp +arith))
        clear hr
        by_cases h4 : 40000 < r
        · go_wp2
          go_ret2
          exact ⟨⟨_, _, rfl, .inr ⟨⟨h1, h2, h3⟩, r, HR.out, .inl ⟨h4, rfl, rfl⟩⟩⟩, HB⟩
        · go_wp2
          go_ret2
          exact ⟨⟨_, _, rfl, .inr ⟨⟨h1, h2, h3⟩, r, HR.out, .inr ⟨by omega, rfl, rfl⟩⟩⟩, HB⟩
      · go_enter Tryz.func24, Tryz.ntmps24
        go_wp2_with fail
        refine (within_one_yes _ _ n _ _ _ _ (by go_simp) h1).mono ?_
        rintro e w1 ⟨rfl, rfl⟩
        go_wp2_with fail
        refine (within_one_yes _ _ years _ _ _ _ (by go_simp) h2).mono ?_
        rintro e w1 ⟨rfl, rfl⟩
        go_wp2_with fail
        refine (within_one_no _ _ months _ _ _ _ (by go_simp) h3).mono ?_
        rintro e w1 ⟨rfl, rfl⟩
        go_wp2
        go_ret2
        exact ⟨⟨_, _, rfl, .inl ⟨fun h => h3 h.2.2, rfl, rfl⟩⟩, (((Below.refl _ _).alloc (by simp) _).alloc (by simp) _).alloc (by simp +arith) _⟩
    · go_enter Tryz.func24, Tryz.ntmps24
      go_wp2_with fail
      refine (within_one_yes _ _ n _ _ _ _ (by go_simp) h1).mono ?_
      rintro e w1 ⟨rfl, rfl⟩
      go_wp2_with fail
      refine (within_one_no _ _ years _ _ _ _ (by go_simp) h2).mono ?_
      rintro e w1 ⟨rfl, rfl⟩
      go_wp2
      go_ret2
      exact ⟨⟨_, _, rfl, .inl ⟨fun h => h2 h.2.1, rfl, rfl⟩⟩, ((Below.refl _ _).alloc (by simp) _).alloc (by simp) _⟩
  · go_enter Tryz.func24, Tryz.ntmps24
    go_wp2_with fail
    refine (within_one_no _ _ n _ _ _ _ (by go_simp) h1).mono ?_
    rintro e w1 ⟨rfl, rfl⟩
    go_wp2
    go_ret2
    exact ⟨⟨_, _, rfl, .inl ⟨fun h => h1 h.1, rfl, rfl⟩⟩, (Below.refl _ _).alloc (by simp) _⟩

theorem field_year (y m d : Int) (w : World) : (Instr.field 23 (.agg #[.int .i64 y, .int .i64 m, .int .i64 d]) 0).run Tryz.prog w = .ok (.int .i64 y) w := by kernel_rfl

set_option maxRecDepth 100000 in
set_option maxHeartbeats 1000000 in
theorem Age_any (born day : Int) (w : World) (he : Env w) :
    Calls Tryz.prog 26 #[.int .i64 born, .int .i64 day] w fun e w' => AgeE born day e ∧ Below w.heap.size w w' := by
  obtain ⟨b, hb⟩ : ∃ b, (inB 0 40000 born && inB 0 40000 day) = b := ⟨_, rfl⟩
  have HB := hide hb
  clear hb
  go_enter Tryz.func26, Tryz.ntmps26
  go_wp2_with fail
  refine (within_two _ _ born day _ _ _ _ (by go_simp) (by go_simp)).mono ?_
  rintro e w1 ⟨rfl, rfl⟩
  rw [HB.out]
  cases b
  · go_wp2
    go_ret2
    refine ⟨⟨_, _, rfl, .inl ⟨fun h => ?_, rfl, rfl⟩⟩, (Below.refl _ _).alloc (by simp) _⟩
    have := HB.out
    rw [inB_iff.2 h.1, inB_iff.2 h.2] at this
    cases this
  · have hh := HB.out
    rw [Bool.and_eq_true, inB_iff, inB_iff] at hh
    obtain ⟨h1, h2⟩ := hh
    by_cases h3 : day < born
    · go_wp2
      go_ret2
      exact ⟨⟨_, _, rfl, .inr (.inl ⟨⟨h1, h2⟩, h3, rfl, rfl⟩)⟩, (Below.refl _ _).alloc (by simp) _⟩
    · go_wp2_with fail
      refine (dateOf_any _ _ (he.alloc _) h2.1 h2.2).mono ?_
      rintro e w1 ⟨⟨y, m, d, rfl, hd⟩, hb1⟩
      have HB1 : Below w.heap.size w w1 := ((Below.refl _ _).alloc (by simp) _).trans (hb1.mono (by simp))
      have HD := hide hd
      clear hd
      have fy := field_year y m d
      go_wp2_with fail
      refine (dateOf_any _ _ (he.below HB1 he.size) h1.1 h1.2).mono ?_
      rintro e w2 ⟨⟨y', m', d', rfl, hd'⟩, hb2⟩
      have HB2 : Below w.heap.size w w2 := HB1.trans (hb2.mono HB1.size)
      have q1 := Cal.dateIs_years hd' HD.out (by omega)
      have ⟨q2, _⟩ := Cal.dateIs_bd HD.out h2.2
      have q3 := hd'.1
      have HD' := hide hd'
      clear hd'
      have fy' := field_year y' m' d'
      go_wp2_with fail
      refine (plus_any _ _ _ _ (he.below HB2 he.size) h1.1 h1.2 (by omega) (by omega) (by omega) (by omega)).mono ?_
      rintro e w3 ⟨⟨r, rfl, hr⟩, hb3⟩
      have HB3 : Below w.heap.size w w3 := HB2.trans (hb3.mono HB2.size)
      have HR := hide hr
      clear hr
      by_cases h4 : day < r
      · go_wp2
        go_ret2
        exact ⟨⟨_, _, rfl, .inr (.inr ⟨⟨h1, h2⟩, by omega, rfl, y, m, d, y', m', d', r, HD.out, HD'.out, HR.out, .inl ⟨h4, rfl⟩⟩)⟩, HB3⟩
      · go_wp2
        go_ret2
        exact ⟨⟨_, _, rfl, .inr (.inr ⟨⟨h1, h2⟩, by omega, rfl, y, m, d, y', m', d', r, HD.out, HD'.out, HR.out, .inr ⟨by omega, rfl⟩⟩)⟩, HB3⟩
end Go.Proofs.YtjfdfhnfcpfmcaaGreatDoor
