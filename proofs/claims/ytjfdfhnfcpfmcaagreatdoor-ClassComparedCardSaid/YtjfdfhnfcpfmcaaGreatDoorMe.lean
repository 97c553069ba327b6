import Derived.Test.YtjfdfhnfcpfmcaaGreatDoorMd
import Derived.Maps.AppendAt
import Derived.Laws.StructEq
import Derived.Sort.Grow
import Derived.DeepKeys4
import Derived.Maps.Keyed
import Derived.Maps.Views
import Derived.RangeFuncNested
import Derived.RangeFuncBound
import Derived.RangeFuncCalls
import Derived.RangeFuncLeaves
import Derived.RangeFuncBox
import Derived.Shelf.Abstract
import Derived.Shelf.AbstractIn
import Derived.Shelf.RegionOpen
import Derived.OwnWalkIn
import Derived.TacticsInMore
import Derived.LoopNIn
import Derived.LoopIn
import Derived.Maps.OwnIn
import Derived.Sort.MapsRangeIn
import Derived.Sort.KeysCollected
import Derived.RangeFuncSeq
import Derived.RegionIn
import Derived.Shelf.GgSortFunc.RowK
/-
  class.Covers.
-/
namespace Go.Proofs.YtjfdfhnfcpfmcaaGreatDoor
open Go.RowKit RG

theorem own_below {w w' : World} {base : Nat} {e : TypeId} {size : Nat} {v : Value} {n : Nat} {xs : List Value} (h : w.ownsRow base e size v n xs) (hb : Below w.heap.size w w') : w'.ownsRow base e size v n xs :=
  h.kept (row := none) ⟨hb.os, hb.tape, hb.output, hb.size, fun i hi _ => hb.block i hi⟩ (by cases hv : v.ownBlock <;> simp)
/-- A slice value that holds the ints xs. -/
def IsInts (xs : List Int) : Value → World → Prop := fun v w => ∃ A c, v = .slice A xs.length c ∧ RdInts w A xs.length xs ∧ xs.length ≤ c
theorem isInts_of_own {w : World} {base : Nat} {v : Value} {xs : List Int} (h : w.ownsRow base 3 1 v xs.length (xs.map (Value.int .i64))) : IsInts xs v w := by
  rcases h.2 with ⟨rfl, h0⟩ | ⟨g, cap, cur, rfl, _, hg, hc, _, hs, ht⟩
  · obtain rfl : xs = [] := List.eq_nil_of_length_eq_zero h0
    exact ⟨none, 0, rfl, rdInts_nil _ _, Nat.le_refl _⟩
  · refine ⟨_, cap, rfl, ⟨rfl, fun hn => ⟨g, 0, rfl, ?_, fun j hj => ?_⟩⟩, hc⟩
    · rcases Nat.lt_or_ge g w.heap.size with h' | h'
      · exact h'
      · rw [Array.getElem?_eq_none h'] at hg; cases hg
    · have h1 : w.cell? ⟨g, 0 + j, none⟩ = cur[j]? := by rw [Nat.zero_add]; exact cell_of_row w g j cur _ (0, 0) hg
      rw [h1]
      have h2 : (cur.toList.take (xs.length * 1))[j]? = some (.int .i64 (xs[j]?.getD 0)) := by rw [ht]; simp [hj]
      rw [List.getElem?_take_of_lt (by omega)] at h2
      simpa using h2
theorem IsInts.stb (xs : List Int) : Stb (IsInts xs) := fun _ _ _ hb ⟨A, c, e, h, hc⟩ => ⟨A, c, e, h.below hb, hc⟩

/-- The classes that k covers, in order. -/
def coverL (cs : List Cls) (n k : Nat) : List Int := ((List.range n).filter fun o : Nat => (cover cs n k).testBit o).map fun o : Nat => (o : Int)
/-- What Covers returns. -/
def coversF (S : Sys) (k : Int) : List Int × Int :=
  if openF S [] ≠ 0 then ([], openF S []) else if inB 0 ((S.cs.length : Int) - 1) k = false then ([], 4) else (coverL S.cs S.cs.length k.toNat, 0)
def IntsErr (r : List Int × Int) (e : Ending) (w : World) : Prop := ∃ v, e = .returned (.tuple #[v, .int .i64 r.2]) ∧ IsInts r.1 v w

set_option maxRecDepth 100000 in
set_option maxHeartbeats 2000000 in
theorem Covers_any (A A2 : Option Addr) (cc c2 : Nat) (S : Sys) (k : Int) (w : World) (h : InMem w A A2 cc c2 S) :
    Calls Tryz.prog 31 #[.agg #[.slice A S.cs.length cc, .slice A2 S.codes.length c2], .int .i64 k] w fun e w' => IntsErr (coversF S k) e w' ∧ Below w.heap.size w w' := by
  obtain ⟨q, hq⟩ : ∃ q, coversF S k = q := ⟨_, rfl⟩
  rw [hq]
  unfold coversF at hq
  replace hq := hide hq
  have hB0 := hide ((Below.refl w.heap.size w).alloc (Nat.le_refl _) (.cells #[.slice A S.cs.length cc, .slice A2 S.codes.length c2] 38))
  have hopen := hide (open_mem A A2 none cc c2 0 0 S [] _ (h.below hB0.out) (RdLists.nil _ _))
  replace h := hide h
  obtain ⟨i0, hi, hz0, hz1, hz2⟩ := info_parts infoInt
  replace hi := hide hi
  replace hz0 := hide hz0
  replace hz1 := hide hz1
  replace hz2 := hide hz2
  go_enter Tryz.func31, Tryz.ntmps31
  go_wp2_with fail
  refine hopen.out.mono ?_
  rintro e w1 ⟨hO, hb1⟩
  have hB2 := hide (hB0.out.trans (hb1.mono (by simp)))
  clear hb1
  generalize hx : openF S [] = x at *
  replace hx := hide hx
  rcases hO with ⟨hx0, rfl⟩ | ⟨rfl, v, rfl, g, rfl, hg⟩
  · have hq := hq.out
    rw [if_pos hx0] at hq
    subst hq
    have hb1 : (x == 0) = false := by rw [beq_eq_false_iff_ne]; exact hx0
    have hb2 : (x != 0) = true := by rw [bne_iff_ne]; exact hx0
    unfold nilView
    replace hx0 := hide hx0
    go_wp2
    go_ret2
    exact ⟨⟨_, rfl, none, 0, rfl, rdInts_nil _ _, Nat.le_refl _⟩, hB2.out.alloc hB2.out.size _⟩
  · have hq := hq.out
    rw [if_neg (by simp)] at hq
    replace hq := hide hq
    obtain ⟨gd, _⟩ := openF_good hx.out
    have hcov := gd.cov hg
    have ⟨bd1, bd2⟩ := gd.bd
    clear hg
    generalize hn : S.cs.length = n at *
    generalize hn2 : S.codes.length = n2 at *
    replace hn := hide hn
    replace hn2 := hide hn2
    go_wp2_with fail
    refine (isClass_any A A2 (some ⟨g, 0, none⟩) n cc n2 c2 n n k _ (by unfold maxLen; omega)).mono ?_
    rintro e w2 ⟨rfl, hb2⟩
    have hBv : Below w1.heap.size w1 (w1.alloc (.cells #[.slice A n cc, .slice A2 n2 c2, .slice (some ⟨g, 0, none⟩) n n] 100)) := (Below.refl _ _).alloc (Nat.le_refl _) _
    have hB3 := hide (hB2.out.trans ((hBv.trans (hb2.mono (by simp))).mono hB2.out.size))
    have hVb := (Blk.new w1 100 #[.slice A n cc, .slice A2 n2 c2, .slice (some ⟨g, 0, none⟩) n n]).below hb2 (by simp)
    have hcov2 := hcov.below (hBv.trans (hb2.mono (by simp)))
    have v0 : w2.cell? ⟨w1.heap.size, 0, none⟩ = some (.slice A n cc) := hVb.cell 0
    have v1 : w2.cell? ⟨w1.heap.size, 1, none⟩ = some (.slice A2 n2 c2) := hVb.cell 1
    have v2 : w2.cell? ⟨w1.heap.size, 2, none⟩ = some (.slice (some ⟨g, 0, none⟩) n n) := hVb.cell 2
    clear hb2 hcov
    replace hBv := hide hBv
    replace hVb := hide hVb
    replace hcov2 := hide hcov2
    cases h1 : inB 0 ((n : Int) - 1) k with
    | false =>
      have hq := hq.out
      rw [h1, if_pos rfl] at hq
      subst hq
      clear h1
      go_wp2
      go_ret2
      exact ⟨⟨_, rfl, none, 0, rfl, rdInts_nil _ _, Nat.le_refl _⟩, hB3.out⟩
    | true =>
      have hq := hq.out
      rw [h1, if_neg (by simp)] at hq
      replace hq := hide hq
      have hk := inB_iff.1 h1
      clear h1
      obtain ⟨kn, rfl⟩ := Int.eq_ofNat_of_zero_le hk.1
      go_wp2
      go_loopg [8, 9, 26] n (fun gg s8 _ s26 wr => ∃ (j : Nat) (l : List Nat), j ≤ n ∧ n ≤ gg + j ∧ s26 = .int .i64 j ∧ l.length ≤ j ∧ Hid (l = (List.range j).filter fun o => (cover S.cs n kn).testBit o) ∧ Hid (Below w2.heap.size w2 wr) ∧ wr.ownsRow w2.heap.size 3 1 s8 l.length (l.map fun o => Value.int .i64 (o : Nat)))
      case atStart => exact ⟨0, [], Nat.zero_le _, by omega, rfl, Nat.le_refl _, rfl, Below.refl _ _, World.ownsRow_nil _ _ _ _⟩
      case round =>
        obtain ⟨j, l, hj, hgg, rfl, hlj, hl, hBr, hown⟩ := hrel
        have hzv := hVb.out.lt
        have u0 := (cellB (o := 0) hBr.out hzv).trans v0
        have u1 := (cellB (o := 1) hBr.out hzv).trans v1
        have u2 := (cellB (o := 2) hBr.out hzv).trans v2
        by_cases hlt : j < n
        · have hltz : (j : Int) < (n : Int) := by omega
          replace hown := hide hown
          go_wp2_with fail
          refine (covers_ok A A2 (some ⟨g, 0, none⟩) n cc n2 c2 n S.cs kn j _ (hcov2.out.below hBr.out) (by omega) (by omega)).mono ?_
          rintro e w3 ⟨rfl, hb3⟩
          have hBr3 := hide (hBr.out.trans (hb3.mono hBr.out.size))
          have hown := own_below hown.out hb3
          have hrs : (List.range (j + 1)) = List.range j ++ [j] := List.range_succ
          replace hrs := hide hrs
          clear hb3 u0 u1 u2
          cases h1 : (cover S.cs n kn).testBit j with
          | true =>
            have hl2 : l ++ [j] = (List.range (j + 1)).filter fun o => (cover S.cs n kn).testBit o := by rw [hrs.out, List.filter_append, ← hl.out]; simp [h1]
            replace hl2 := hide hl2
            clear h1
            have hsz3 := hBr3.out.size
            go_wp2_with (at_builtin; refine wpList_append_own _ rfl _ _ 41 rfl w2.heap.size 3 i0 (.int .i64 0) 1 8 Tryz.underlying41 hi.out hz0.out hz1.out hz2.out rfl (by decide) _ _ _ rfl (hown.alloc _) ⟨w3.heap.size, 0, none⟩ 1 1 [.int .i64 (j : Nat)] rfl rfl (cell_one_new _ _ _) (by simp [Value.oneCell']) (by unfold maxLen; omega) (by omega) (by simp; omega) ?_; intro v' w4 hown4 hgrow4 _)
            have hBr4 := hide ((hBr3.out.alloc hsz3 (.cells #[.int .i64 (j : Nat)] 3)).grown hgrow4 (by simp; omega) (fun k hk => (hown.lt k hk).1))
            replace hown4 := hide hown4
            clear hown hgrow4
            go_wp2
            go_roundg (n - (j + 1))
            case measure => omega
            case rel =>
              refine ⟨j + 1, l ++ [j], by omega, by omega, by go_num, by simp; omega, hl2.out, hBr4.out, ?_⟩
              have := hown4.out
              simpa using this
          | false =>
            have hl2 : l = (List.range (j + 1)).filter fun o => (cover S.cs n kn).testBit o := by rw [hrs.out, List.filter_append, ← hl.out]; simp [h1]
            replace hl2 := hide hl2
            clear h1
            replace hown := hide hown
            go_wp2
            go_roundg (n - (j + 1))
            case measure => omega
            case rel => exact ⟨j + 1, l, by omega, by omega, by go_num, by omega, hl2.out, hBr3.out, hown.out⟩
        · have hltz : ¬ (j : Int) < (n : Int) := by omega
          obtain rfl : j = n := by omega
          have hq := hq.out
          have hres : IsInts q.1 u8 wr := by
            rw [← hq]
            simp only [Int.toNat_natCast, coverL]
            rw [← hl.out]
            exact isInts_of_own (by rw [List.length_map, List.map_map]; exact hown)
          have hq2 : q.2 = 0 := by rw [← hq]
          replace hres := hide hres
          replace hq2 := hide hq2
          clear hq hown u0 u1 u2
          go_wp2
          go_ret2
          exact ⟨⟨_, by rw [hq2.out]; rfl, hres.out⟩, hB3.out.trans (hBr.out.mono hB3.out.size)⟩
end Go.Proofs.YtjfdfhnfcpfmcaaGreatDoor

/-
  class.Allows.
-/
namespace Go.Proofs.YtjfdfhnfcpfmcaaGreatDoor
open Go.RowKit RG

set_option maxHeartbeats 1000000 in
theorem allowsRt_any (A A2 G : Option Addr) (n cc n2 c2 c3 : Nat) (cs : List Cls) (r1 r2 o1 o2 : Nat) (pv pr : Nat) (w : World) (h : CovOK cs n G w) (hr : r1 < n) (ho : o1 < n) (hr2 : r2 < 2 ^ 40)
    (v0 : w.cell? ⟨pv, 0, none⟩ = some (.slice A n cc)) (v1 : w.cell? ⟨pv, 1, none⟩ = some (.slice A2 n2 c2)) (v2 : w.cell? ⟨pv, 2, none⟩ = some (.slice G n c3)) (p0 : w.cell? ⟨pr, 0, none⟩ = some (.int .i64 o1)) (p1 : w.cell? ⟨pr, 1, none⟩ = some (.int .i64 o2)) :
    Calls Tryz.prog 83 #[.agg #[.int .i64 r1, .int .i64 r2], .pointer (some ⟨pv, 0, none⟩), .pointer (some ⟨pr, 0, none⟩)] w fun e w' =>
      e = .returned (.bool (allB cs n (r1, r2) (o1, o2))) ∧ Below w.heap.size w w' := by
  have hB0 := hide ((Below.refl w.heap.size w).alloc (Nat.le_refl _) (.cells #[.int .i64 r1, .int .i64 r2] 64))
  have l0 := lt_of_cell v0
  have l1 := lt_of_cell p0
  have l0' : pv ≠ w.heap.size := Nat.ne_of_lt l0
  have l1' : pr ≠ w.heap.size := Nat.ne_of_lt l1
  go_enter Tryz.func83, Tryz.ntmps83
  go_wp2_with fail
  refine (allowsAll_any A A2 G n cc n2 c2 c3 cs r1 r2 o1 o2 _ (h.below hB0.out) hr ho hr2).mono ?_
  rintro e w1 ⟨rfl, hb1⟩
  have hB1 := hide (hB0.out.trans (hb1.mono (by simp)))
  clear hb1 v0 v1 v2 p0 p1
  go_wp2
  go_ret
  exact ⟨rfl, hB1.out⟩

/-- Whether the rights ra allow all that rb allow. -/
def allowsB (S : Sys) (ra rb : List (Int × Int)) : Bool :=
  decide (∀ i, i < rb.length → anyIdx (fun j => allB S.cs S.cs.length (natR (ra[j]?.getD (0, 0))) (natR (rb[i]?.getD (0, 0)))) ra.length = true)
/-- What Allows returns. -/
def allowsF (S : Sys) (ra rb : List (Int × Int)) : Bool × Int :=
  if openF S [ra, rb] ≠ 0 then (false, openF S [ra, rb]) else (allowsB S ra rb, 0)

theorem enters_allows : ∀ args w, (callFunc 83 args).run Tryz.prog w = .ok (.enter 83 args) w := fun _ _ => by kernel_rfl

set_option maxRecDepth 100000 in
set_option maxHeartbeats 2000000 in
theorem Allows_any (A A2 R R' : Option Addr) (cc c2 cr cr' : Nat) (S : Sys) (ra rb : List (Int × Int)) (w : World) (h : InMem w A A2 cc c2 S) (hr : RdRts w R ra.length ra) (hr' : RdRts w R' rb.length rb) :
    Calls Tryz.prog 39 #[.agg #[.slice A S.cs.length cc, .slice A2 S.codes.length c2], .slice R ra.length cr, .slice R' rb.length cr'] w fun e w' =>
      e = .returned (.tuple #[.bool (allowsF S ra rb).1, .int .i64 (allowsF S ra rb).2]) ∧ Below w.heap.size w w' := by
  obtain ⟨q, hq⟩ : ∃ q, allowsF S ra rb = q := ⟨_, rfl⟩
  rw [hq]
  unfold allowsF at hq
  replace hq := hide hq
  have hB0 := hide ((Below.refl w.heap.size w).alloc (Nat.le_refl _) (.cells #[.slice A S.cs.length cc, .slice A2 S.codes.length c2] 38))
  have hB1 := hide (hB0.out.alloc (by simp +arith) (.cells #[.slice R ra.length cr, .slice R' rb.length cr'] 46))
  have hopen := hide (open_mem A A2 (some ⟨w.heap.size + 1, 0, none⟩) cc c2 2 2 S [ra, rb] _ (h.below hB1.out) (by
    have := RdLists.two (hr.below hB0.out) (hr'.below hB0.out) (c := cr) (c' := cr') 46
    simpa using this))
  replace h := hide h
  replace hr := hide hr
  replace hr' := hide hr'
  go_enter Tryz.func39, Tryz.ntmps39
  go_wp2_with fail
  refine hopen.out.mono ?_
  rintro e w1 ⟨hO, hb1⟩
  have hB2 := hide (hB1.out.trans (hb1.mono (by simp +arith)))
  replace hB1 := hide hb1
  clear hb1
  generalize hx : openF S [ra, rb] = x at *
  replace hx := hide hx
  rcases hO with ⟨hx0, rfl⟩ | ⟨rfl, v, rfl, g, rfl, hg⟩
  · have hq := hq.out
    rw [if_pos hx0] at hq
    subst hq
    have hb1 : (x == 0) = false := by rw [beq_eq_false_iff_ne]; exact hx0
    have hb2 : (x != 0) = true := by rw [bne_iff_ne]; exact hx0
    unfold nilView
    replace hx0 := hide hx0
    go_wp2
    go_ret2
    exact ⟨rfl, hB2.out.alloc hB2.out.size _⟩
  · have hq := hq.out
    rw [if_neg (by simp)] at hq
    subst hq
    obtain ⟨gd, gr⟩ := openF_good hx.out
    have gra := gr ra (by simp)
    have grb := gr rb (by simp)
    have hcov := gd.cov hg
    have ⟨bd1, bd2⟩ := gd.bd
    have hp8 := fun k hk => pow8 gd (k := k) hk
    replace hp8 := hide hp8
    have hm := grb.1
    clear hg gr
    obtain ⟨P, hP⟩ : ∃ P : Nat → Bool, (fun i => anyIdx (fun j => allB S.cs S.cs.length (natR (ra[j]?.getD (0, 0))) (natR (rb[i]?.getD (0, 0)))) ra.length) = P := ⟨_, rfl⟩
    have hPi : ∀ i, anyIdx (fun j => allB S.cs S.cs.length (natR (ra[j]?.getD (0, 0))) (natR (rb[i]?.getD (0, 0)))) ra.length = P i := fun i => by rw [← hP]
    have hAB : allowsB S ra rb = decide (∀ i, i < rb.length → P i = true) := by unfold allowsB; rw [← hP]
    clear hP
    replace hAB := hide hAB
    generalize hn : S.cs.length = n at *
    generalize hn2 : S.codes.length = n2 at *
    generalize hmb : rb.length = m at *
    replace hmb := hide hmb
    replace hn := hide hn
    replace hn2 := hide hn2
    replace hPi := hide hPi
    replace gra := hide gra
    replace grb := hide grb
    have hVb := Blk.new w1 100 #[.slice A n cc, .slice A2 n2 c2, .slice (some ⟨g, 0, none⟩) n n]
    have hBv : Below w1.heap.size w1 (w1.alloc (.cells #[.slice A n cc, .slice A2 n2 c2, .slice (some ⟨g, 0, none⟩) n n] 100)) := (Below.refl _ _).alloc (Nat.le_refl _) _
    have hBw2 := hide (hB2.out.trans (hBv.mono hB2.out.size))
    have hcov2 := hcov.below hBv
    generalize hw2 : w1.alloc (.cells #[.slice A n cc, .slice A2 n2 c2, .slice (some ⟨g, 0, none⟩) n n] 100) = w2 at *
    have hs2 : w2.heap.size = w1.heap.size + 1 := by rw [← hw2]; simp
    clear hBv hcov
    replace hVb := hide hVb
    replace hcov2 := hide hcov2
    replace hw2 := hide hw2
    go_wp2
    rw [hw2.out]
    go_loopg [11, 25, 30] m (fun gg _ s25 _ wr => ∃ j : Nat, j ≤ m ∧ m ≤ gg + j ∧ s25 = .int .i64 j ∧ Hid (Below w2.heap.size w2 wr) ∧ Hid (∀ i, i < j → P i = true))
    case atStart => exact ⟨0, Nat.zero_le _, by omega, rfl, Below.refl _ _, fun i hi => absurd hi (by omega)⟩
    case round =>
      obtain ⟨j, hj, hgg, rfl, hBr, hA⟩ := hrel
      have hBw := hide (hBw2.out.trans (hBr.out.mono hBw2.out.size))
      by_cases hlt : j < m
      · have hltz : (j : Int) < (m : Int) := by omega
        have hrow := (hr'.out.below hBw.out).1
        obtain ⟨b, off, x0, x1, rfl, hb, hx, c0, c1⟩ := hrow.cells2 hlt
        rw [rtCells_at rb j (by rw [hmb.out]; exact hlt)] at hx
        obtain ⟨ci, ki, hri, hci, hki⟩ := grb.out.2 j (by rw [hmb.out]; exact hlt)
        rw [hn.out] at hci
        rw [hn2.out] at hki
        rw [hri] at hx
        simp only [rtCells, List.cons.injEq, and_true] at hx
        obtain ⟨rfl, rfl⟩ := hx
        have hPj := hPi.out j
        rw [hri] at hPj
        replace hri := hide hri
        clear hrow
        have hVr := hVb.out.below hBr.out (by rw [hs2]; omega)
        have v0 : wr.cell? ⟨w1.heap.size, 0, none⟩ = some (.slice A n cc) := hVr.cell 0
        have v1 : wr.cell? ⟨w1.heap.size, 1, none⟩ = some (.slice A2 n2 c2) := hVr.cell 1
        have v2 : wr.cell? ⟨w1.heap.size, 2, none⟩ = some (.slice (some ⟨g, 0, none⟩) n n) := hVr.cell 2
        have hBo : Below wr.heap.size wr (wr.alloc (.cells #[.int .i64 ci, .int .i64 ki] 64)) := (Below.refl _ _).alloc (Nat.le_refl _) _
        have hO := Blk.new wr 64 #[.int .i64 ci, .int .i64 ki]
        have hma := hr.out.2
        replace hO := hide hO
        replace hBo := hide hBo
        replace hVr := hide hVr
        replace hPj := hide hPj
        have hBr2 := hide (hBr.out.trans (hBo.out.mono hBr.out.size))
        have hcall := ContainsFuncRts 83 #[.pointer (some ⟨w1.heap.size, 0, none⟩), .pointer (some ⟨wr.heap.size, 0, none⟩)] enters_allows (fun j : Nat => allB S.cs n (natR (ra[j]?.getD (0, 0))) (ci, ki)) R ra.length cr (ra.map rtCells) (wr.alloc (.cells #[.int .i64 ci, .int .i64 ki] 64)) (hr.out.below (hBw.out.trans (hBo.out.mono hBw.out.size))).1 hma
          (fun j W hj hb => by
            obtain ⟨ca, ka, hra, hca, hka⟩ := gra.out.2 j hj
            rw [hn.out] at hca
            rw [hn2.out] at hka
            have hb' := hb
            have hVW := (hVr.out.below hBo.out hVr.out.lt).below hb (by have := hVr.out.lt; simp; omega)
            have hOW := hO.out.below hb (by simp)
            have := allowsRt_any A A2 (some ⟨g, 0, none⟩) n cc n2 c2 n S.cs ca ka ci ki w1.heap.size wr.heap.size W ((hcov2.out.below hBr2.out).below hb) hca hci (hp8.out _ hka)
              (hVW.cell 0) (hVW.cell 1) (hVW.cell 2) (hOW.cell 0) (hOW.cell 1)
            rw [rtCells_at ra j hj, hra]
            simpa [rtCells, natR] using this)
        have hnat : (fun j : Nat => allB S.cs n (natR (ra[j]?.getD (0, 0))) (natR ((ci : Int), (ki : Int)))) = fun j : Nat => allB S.cs n (natR (ra[j]?.getD (0, 0))) (ci, ki) := by simp [natR]
        have hPj2 := hPj.out
        rw [hnat] at hPj2
        rw [hPj2] at hcall
        clear hnat hPj2
        replace hcall := hide hcall
        go_wp2_with fail
        refine hcall.out.mono ?_
        rintro e w3 ⟨rfl, hb3⟩
        have hB3 := hide (hBr2.out.trans (hb3.mono hBr2.out.size))
        clear hb3
        cases hpj : P j with
        | true =>
          have hA2 : ∀ i, i < j + 1 → P i = true := fun i hi => by
            rcases Nat.lt_or_ge i j with h' | h'
            · exact hA.out i h'
            · rw [show i = j by omega]; exact hpj
          replace hA2 := hide hA2
          clear hpj
          go_wp2
          go_roundg (m - (j + 1))
          case measure => omega
          case rel => exact ⟨j + 1, by omega, by omega, by go_num, hB3.out, hA2.out⟩
        | false =>
          have hAF : allowsB S ra rb = false := by
            rw [hAB.out]
            exact decide_eq_false fun h' => by rw [h' j hlt] at hpj; cases hpj
          replace hAF := hide hAF
          clear hpj
          go_wp2
          go_ret2
          exact ⟨by rw [hAF.out]; rfl, hBw2.out.trans (hB3.out.mono hBw2.out.size)⟩
      · have hltz : ¬ (j : Int) < (m : Int) := by omega
        obtain rfl : j = m := by omega
        have hAT : allowsB S ra rb = true := by
          rw [hAB.out]
          exact decide_eq_true hA.out
        replace hAT := hide hAT
        go_wp2
        go_ret2
        exact ⟨by rw [hAT.out]; rfl, hBw.out⟩
end Go.Proofs.YtjfdfhnfcpfmcaaGreatDoor

/-
  view.weaker, least$1, cmp.
-/
namespace Go.Proofs.YtjfdfhnfcpfmcaaGreatDoor
open Go.RowKit RG

theorem neqRt (a b c d : Int) (w : World) : (binOp .neq 64 (.agg #[.int .i64 a, .int .i64 b]) (.agg #[.int .i64 c, .int .i64 d])).run Tryz.prog w = .ok (.bool (!(a == c && b == d))) w := by
  have u3 := Tryz.underlying3
  have a3 := Tryz.isAgg3
  have z3 := Tryz.sizeOf3
  have hS : Tryz.prog.underlying 64 = some (.struct (Tryz.prog.fieldsOf 64)) := by kernel_rfl
  have hp : Tryz.prog.stoodInHeld 64 = false := by kernel_rfl
  rw [run_neq_struct, show (10000 : Nat) = 9999 + 1 from rfl, run_equalIn_agg w 9999 64 _ _ hS hp]
  simp only [Program.fieldsOf, Tryz.underlying64]
  go_simp
  by_cases h1 : a = c <;> by_cases h2 : b = d <;> simp [h1, h2]

/-- r is weaker than o. -/
def weakB (cs : List Cls) (n : Nat) (r o : Nat × Nat) : Bool := (!(r == o)) && allB cs n o r

set_option maxHeartbeats 1000000 in
theorem weaker_any (A A2 G : Option Addr) (n cc n2 c2 c3 : Nat) (cs : List Cls) (r1 r2 o1 o2 : Nat) (w : World) (h : CovOK cs n G w) (hr : r1 < n) (ho : o1 < n) (ho2 : o2 < 2 ^ 40) :
    Calls Tryz.prog 108 #[.agg #[.slice A n cc, .slice A2 n2 c2, .slice G n c3], .agg #[.int .i64 r1, .int .i64 r2], .agg #[.int .i64 o1, .int .i64 o2]] w fun e w' =>
      e = .returned (.bool (weakB cs n (r1, r2) (o1, o2))) ∧ Below w.heap.size w w' := by
  have hB0 := hide ((((Below.refl w.heap.size w).alloc (Nat.le_refl _) (.cells #[.slice A n cc, .slice A2 n2 c2, .slice G n c3] 100)).alloc (by simp) (.cells #[.int .i64 r1, .int .i64 r2] 64)).alloc (by simp +arith) (.cells #[.int .i64 o1, .int .i64 o2] 64))
  have hne := fun W => neqRt r1 r2 o1 o2 W
  have hE := hide (show weakB cs n (r1, r2) (o1, o2) = ((!((r1 : Int) == o1 && (r2 : Int) == o2)) && allB cs n (o1, o2) (r1, r2)) by
    unfold weakB; congr 2
    rw [Bool.eq_iff_iff]; simp [Prod.ext_iff]; omega)
  generalize ((r1 : Int) == o1 && (r2 : Int) == o2) = q at *
  cases q with
  | true =>
    replace hE := hE.out
    simp only [Bool.not_true, Bool.false_and] at hE hne
    replace hE := hide hE
    go_enter Tryz.func108, Tryz.ntmps108
    go_wp2
    go_ret
    exact ⟨ret_bool hE.out.symm, hB0.out⟩
  | false =>
    replace hE := hE.out
    simp only [Bool.not_false, Bool.true_and] at hE hne
    replace hE := hide hE
    go_enter Tryz.func108, Tryz.ntmps108
    go_wp2_with fail
    refine (allowsAll_any A A2 G n cc n2 c2 c3 cs o1 o2 r1 r2 _ (h.below hB0.out) ho hr ho2).mono ?_
    rintro e w1 ⟨rfl, hb1⟩
    have hB1 := hide (hB0.out.trans (hb1.mono (by simp +arith)))
    clear hb1
    go_wp2
    go_ret
    exact ⟨ret_bool hE.out.symm, hB1.out⟩

set_option maxHeartbeats 1000000 in
theorem leastRt_any (A A2 G : Option Addr) (n cc n2 c2 c3 : Nat) (cs : List Cls) (r1 r2 o1 o2 : Nat) (pv pr : Nat) (w : World) (h : CovOK cs n G w) (hr : r1 < n) (ho : o1 < n) (hr2 : r2 < 2 ^ 40)
    (v0 : w.cell? ⟨pv, 0, none⟩ = some (.slice A n cc)) (v1 : w.cell? ⟨pv, 1, none⟩ = some (.slice A2 n2 c2)) (v2 : w.cell? ⟨pv, 2, none⟩ = some (.slice G n c3)) (p0 : w.cell? ⟨pr, 0, none⟩ = some (.int .i64 o1)) (p1 : w.cell? ⟨pr, 1, none⟩ = some (.int .i64 o2)) :
    Calls Tryz.prog 107 #[.agg #[.int .i64 r1, .int .i64 r2], .pointer (some ⟨pv, 0, none⟩), .pointer (some ⟨pr, 0, none⟩)] w fun e w' =>
      e = .returned (.bool (weakB cs n (o1, o2) (r1, r2))) ∧ Below w.heap.size w w' := by
  have hB0 := hide ((Below.refl w.heap.size w).alloc (Nat.le_refl _) (.cells #[.int .i64 r1, .int .i64 r2] 64))
  have l0 := lt_of_cell v0
  have l1 := lt_of_cell p0
  have l0' : pv ≠ w.heap.size := Nat.ne_of_lt l0
  have l1' : pr ≠ w.heap.size := Nat.ne_of_lt l1
  go_enter Tryz.func107, Tryz.ntmps107
  go_wp2_with fail
  refine (weaker_any A A2 G n cc n2 c2 c3 cs o1 o2 r1 r2 _ (h.below hB0.out) ho hr hr2).mono ?_
  rintro e w1 ⟨rfl, hb1⟩
  have hB1 := hide (hB0.out.trans (hb1.mono (by simp)))
  clear hb1 v0 v1 v2 p0 p1
  go_wp2
  go_ret
  exact ⟨rfl, hB1.out⟩

theorem isNaN_any (x : Int) (w : World) : Calls Tryz.prog 137 #[.int .i64 x] w fun e w' => e = .returned (.bool false) ∧ w = w' := by
  go_enter Tryz.func137, Tryz.ntmps137
  go_wp2
  go_ret
  exact ⟨ret_bool (by simp), rfl⟩

/-- cmp.Compare of two ints. -/
def cmpI (x y : Int) : Int := if x < y then -1 else if y < x then 1 else 0
theorem Compare_any (x y : Int) (w : World) : Calls Tryz.prog 129 #[.int .i64 x, .int .i64 y] w fun e w' => e = .returned (.int .i64 (cmpI x y)) ∧ w = w' := by
  obtain ⟨q, hq⟩ : ∃ q, cmpI x y = q := ⟨_, rfl⟩
  rw [hq]
  unfold cmpI at hq
  by_cases h1 : x < y
  · rw [if_pos h1] at hq
    subst hq
    go_enter Tryz.func129, Tryz.ntmps129
    go_wp2_with (first | (go_at_call 137; refine (isNaN_any _ _).mono ?_; rintro e w' ⟨rfl, rfl⟩))
    go_ret
    exact ⟨rfl, rfl⟩
  · rw [if_neg h1] at hq
    by_cases h2 : y < x
    · rw [if_pos h2] at hq
      subst hq
      go_enter Tryz.func129, Tryz.ntmps129
      go_wp2_with (first | (go_at_call 137; refine (isNaN_any _ _).mono ?_; rintro e w' ⟨rfl, rfl⟩))
      go_ret
      exact ⟨rfl, rfl⟩
    · rw [if_neg h2] at hq
      subst hq
      go_enter Tryz.func129, Tryz.ntmps129
      go_wp2_with (first | (go_at_call 137; refine (isNaN_any _ _).mono ?_; rintro e w' ⟨rfl, rfl⟩))
      go_ret
      exact ⟨rfl, rfl⟩
end Go.Proofs.YtjfdfhnfcpfmcaaGreatDoor

/-
  class.compareRights.
-/
namespace Go.Proofs.YtjfdfhnfcpfmcaaGreatDoor
open Go.RowKit RG Go.Sort

set_option maxHeartbeats 1000000 in
theorem Or_any (g : Nat) (x y : Int) (w : World) (h0 : w.cell? ⟨g, 0, none⟩ = some (.int .i64 x)) (h1 : w.cell? ⟨g, 1, none⟩ = some (.int .i64 y)) :
    Calls Tryz.prog 128 #[.slice (some ⟨g, 0, none⟩) 2 2] w fun e w' => e = .returned (.int .i64 (if x = 0 then y else x)) ∧ w = w' := by
  obtain ⟨q, hq⟩ : ∃ q, (if x = 0 then y else x) = q := ⟨_, rfl⟩
  rw [hq]
  replace hq := hide hq
  go_enter Tryz.func128, Tryz.ntmps128
  go_wp2
  go_loopg [5, 8] 2 (fun gg _ s8 wr => wr = w ∧ ((s8 = .int .i64 0 ∧ 2 ≤ gg) ∨ (s8 = .int .i64 1 ∧ 1 ≤ gg ∧ Hid (x = 0)) ∨ (s8 = .int .i64 2 ∧ Hid (x = 0 ∧ y = 0))))
  case atStart => exact ⟨rfl, .inl ⟨rfl, Nat.le_refl _⟩⟩
  case round =>
    obtain ⟨rfl, ⟨rfl, hg⟩ | ⟨rfl, hg, hx⟩ | ⟨rfl, hx⟩⟩ := hrel
    · by_cases hx0 : x = 0
      · have hb : ((x : Int) != 0) = false := by simp [hx0]
        have hx := hide hx0
        clear hx0
        go_wp2
        go_roundg 1
        case measure => omega
        case rel => exact ⟨rfl, .inr (.inl ⟨by go_num, Nat.le_refl _, hx.out⟩)⟩
      · have hb : ((x : Int) != 0) = true := by simp [hx0]
        have hqx : x = q := by rw [← hq.out, if_neg hx0]
        replace hqx := hide hqx
        replace hx0 := hide hx0
        go_wp2
        go_ret
        exact ⟨ret_int hqx.out, rfl⟩
    · have hqy : y = q := by rw [← hq.out, if_pos hx.out]
      by_cases hy0 : y = 0
      · have hb : ((y : Int) != 0) = false := by simp [hy0]
        have hy := hide hy0
        clear hy0 hqy
        go_wp2
        go_roundg 0
        case measure => omega
        case rel => exact ⟨rfl, .inr (.inr ⟨by go_num, hx.out, hy.out⟩)⟩
      · have hb : ((y : Int) != 0) = true := by simp [hy0]
        replace hqy := hide hqy
        replace hy0 := hide hy0
        go_wp2
        go_ret
        exact ⟨ret_int hqy.out, rfl⟩
    · have hq0 : q = 0 := by rw [← hq.out, if_pos hx.out.1]; exact hx.out.2
      subst hq0
      go_wp2
      go_ret
      exact ⟨rfl, rfl⟩

/-- w' is w after some draws, with some blocks laid behind it. -/
def Laid (w w' : World) : Prop := ∃ (n : Nat) (os : Array Obj), w' = grow (w.drewN n) os
theorem Laid.refl (w : World) : Laid w w := ⟨0, #[], by rw [grow_empty]; rfl⟩
theorem Laid.drew {w w' : World} (h : Laid w w') : Laid w w'.drew := by
  obtain ⟨n, os, rfl⟩ := h
  exact ⟨n + 1, os, rfl⟩
theorem Laid.alloc {w w' : World} (h : Laid w w') (o : Obj) : Laid w (w'.alloc o) := by
  obtain ⟨n, os, rfl⟩ := h
  exact ⟨n, os ++ #[o], by rw [alloc_eq_grow, grow_grow]⟩
theorem Laid.below {w w' : World} (h : Laid w w') : Below w.heap.size w w' := by
  obtain ⟨n, os, rfl⟩ := h
  exact ⟨rfl, rfl, rfl, by simp, fun k hk => heap_grow_old (w.drewN n) os hk⟩

theorem region_laid {P : Program} {id : Nat} {Q : Exit → Act → World → Prop} {a : Act} {w : World} {l : List Oper} (L : List (Value → World → Prop))
    (hm : P.follows .mixedOrders = true) (hok : okB l 0 = true) (hlen : L.length = l.length) (hL : AllStb L)
    (hall : All P l.toArray (Laid w) (fun u u' => Below u.heap.size u u') (VL L) a l 0)
    (hend : ∀ y w', Laid w w' → EndsL L y w' 0 → Q .normal (putAll l 0 y a) w') :
    (Code.region id l.toArray true).wp P Q a w :=
  region_rg (Laid w) _ _ hm hok (Laid.refl _).drew (fun k v u u' _ _ h hv => hL.at_ k v u u' h hv) hall
    (fun y w' hC hE => hend y w' hC (EndsL.of 0 fun k hk => by
      have := hE.get (k := k) (by omega)
      simpa using this))
/-- A slice of two ints. -/
def SlTwo (x y : Int) : Value → World → Prop := fun v w => ∃ g, v = .slice (some ⟨g, 0, none⟩) 2 2 ∧ w.cell? ⟨g, 0, none⟩ = some (.int .i64 x) ∧ w.cell? ⟨g, 1, none⟩ = some (.int .i64 y)
theorem SlTwo.stb (x y : Int) : Stb (SlTwo x y) := fun _ _ _ hb ⟨g, e, h0, h1⟩ => ⟨g, e, (cellB hb (lt_of_cell h0)).trans h0, (cellB hb (lt_of_cell h1)).trans h1⟩

/-- compareRights of two rights. -/
def cmpR (r o : Int × Int) : Int := if cmpI r.1 o.1 = 0 then cmpI r.2 o.2 else cmpI r.1 o.1

set_option maxRecDepth 100000 in
set_option maxHeartbeats 2000000 in
theorem compareRights_any (r1 r2 o1 o2 : Int) (w : World) :
    Calls Tryz.prog 110 #[.agg #[.int .i64 r1, .int .i64 r2], .agg #[.int .i64 o1, .int .i64 o2]] w fun e w' => e = .returned (.int .i64 (cmpR (r1, r2) (o1, o2))) ∧ Laid w w' := by
  have hc1 := fun W => Compare_any r1 o1 W
  have hc2 := fun W => Compare_any r2 o2 W
  have hor := fun g W h0 h1 => Or_any g (cmpI r1 o1) (cmpI r2 o2) W h0 h1
  have hE : (if cmpI r1 o1 = 0 then cmpI r2 o2 else cmpI r1 o1) = cmpR (r1, r2) (o1, o2) := rfl
  rw [hE] at hor
  clear hE
  generalize cmpR (r1, r2) (o1, o2) = q at *
  generalize cmpI r1 o1 = u1 at *
  generalize cmpI r2 o2 = u2 at *
  have hB0 := hide (((Laid.refl w).alloc (.cells #[.int .i64 r1, .int .i64 r2] 64)).alloc (.cells #[.int .i64 o1, .int .i64 o2] 64))
  replace hc1 := hide hc1
  replace hc2 := hide hc2
  replace hor := hide hor
  go_enter Tryz.func110, Tryz.ntmps110
  go_upto_region 1 with (fail)
  refine region_laid [IsV (.pointer (some ⟨w.heap.size, 0, none⟩)), IsV (.int .i64 r1), IsV (.pointer (some ⟨w.heap.size + 1, 0, none⟩)), IsV (.int .i64 o1), IsV (.int .i64 u1), IsV (.pointer (some ⟨w.heap.size, 1, none⟩)), IsV (.int .i64 r2), IsV (.pointer (some ⟨w.heap.size + 1, 1, none⟩)), IsV (.int .i64 o2), IsV (.int .i64 u2), SlTwo u1 u2, IsV (.int .i64 q), IsV (.int .i64 q)] (by kernel_rfl) (by kernel_rfl) rfl ?_ ?_ ?_
  · simp [AllStb, IsV.stb, SlTwo.stb]
  · refine ⟨?_, ?_, ?_, ?_, ?_, ?_, ?_, ?_, ?_, ?_, ?_, ?_, ?_, trivial⟩
    all_goals
      intro y w1 K Q Cv hC hd hV
      have p0 : w1.cell? ⟨w.heap.size, 0, none⟩ = some (.int .i64 r1) := (cellB hC.below (by simp +arith)).trans (by go_simp)
      have p1 : w1.cell? ⟨w.heap.size, 1, none⟩ = some (.int .i64 r2) := (cellB hC.below (by simp +arith)).trans (by go_simp)
      have p2 : w1.cell? ⟨w.heap.size + 1, 0, none⟩ = some (.int .i64 o1) := (cellB hC.below (by simp +arith)).trans (by go_simp)
      have p3 : w1.cell? ⟨w.heap.size + 1, 1, none⟩ = some (.int .i64 o2) := (cellB hC.below (by simp +arith)).trans (by go_simp)
      simp [deps, VL, IsV, Region.binds] at hd
    · simp only [putAll, Act.put]; go_simp; intro hK; exact hK _ _ (hV _ _ hC (Below.refl _ _) rfl)
    · simp only [putAll, Act.put]; go_simp; intro hK; exact hK _ _ (hV _ _ hC (Below.refl _ _) rfl)
    · simp only [putAll, Act.put]; go_simp; intro hK; exact hK _ _ (hV _ _ hC (Below.refl _ _) rfl)
    · simp only [putAll, Act.put]; go_simp; intro hK; exact hK _ _ (hV _ _ hC (Below.refl _ _) rfl)
    · simp only [putAll, Act.put]; go_simp; intro hK
      refine (hc1.out _).mono ?_
      rintro e w2 ⟨rfl, rfl⟩
      exact hK _ _ (hV _ _ hC (Below.refl _ _) rfl)
    · simp only [putAll, Act.put]; go_simp; intro hK; exact hK _ _ (hV _ _ hC (Below.refl _ _) rfl)
    · simp only [putAll, Act.put]; go_simp; intro hK; exact hK _ _ (hV _ _ hC (Below.refl _ _) rfl)
    · simp only [putAll, Act.put]; go_simp; intro hK; exact hK _ _ (hV _ _ hC (Below.refl _ _) rfl)
    · simp only [putAll, Act.put]; go_simp; intro hK; exact hK _ _ (hV _ _ hC (Below.refl _ _) rfl)
    · simp only [putAll, Act.put]; go_simp; intro hK
      refine (hc2.out _).mono ?_
      rintro e w2 ⟨rfl, rfl⟩
      exact hK _ _ (hV _ _ hC (Below.refl _ _) rfl)
    · simp only [putAll, Act.put]; go_simp; intro hK
      exact hK _ _ (hV _ _ (hC.alloc _) ((Below.refl _ _).alloc (Nat.le_refl _) _) ⟨w1.heap.size, rfl, World.cell?_alloc_new w1 _ _ 0, World.cell?_alloc_new w1 _ _ 1⟩)
    · obtain ⟨⟨g, h3, hg0, hg1⟩, _⟩ : SlTwo u1 u2 (y 10) w1 ∧ _ := hd
      simp only [putAll, Act.put]; go_simp; intro hK
      refine (hor.out g _ hg0 hg1).mono ?_
      rintro e w2 ⟨rfl, rfl⟩
      exact hK _ _ (hV _ _ hC (Below.refl _ _) rfl)
    · simp only [putAll, Act.put]; go_simp; intro hK; exact hK _ _ (hV _ _ hC (Below.refl _ _) rfl)
  intro y w1 hC hd
  simp [EndsL, IsV] at hd
  obtain ⟨d0, d1, d2, d3, d4, d5, d6, d7, d8, d9, ⟨g, d10, _⟩, d11, d12⟩ := hd
  simp only [putAll, Act.put]
  rw [d0, d1, d2, d3, d4, d5, d6, d7, d8, d9, d10, d11, d12]
  clear d0 d1 d2 d3 d4 d5 d6 d7 d8 d9 d10 d11 d12
  simp only [List.setIfInBounds_toArray, List.set_cons_succ, List.set_cons_zero]
  go_wp2
  go_ret
  obtain ⟨n1, os1, rfl⟩ := hC
  obtain ⟨n0, os0, h0⟩ := hB0.out
  exact ⟨rfl, n0 + n1, os0 ++ os1, by rw [h0]; show grow (grow ((w.drewN n0).drewN n1) os0) os1 = _; rw [grow_grow, World.drewN_drewN]⟩
end Go.Proofs.YtjfdfhnfcpfmcaaGreatDoor

/-
  Rights as keys of a map.
-/
namespace Go.Proofs.YtjfdfhnfcpfmcaaGreatDoor
open Go.RowKit Go.Maps

theorem laidOut : laidOutB Tryz.prog = true := by kernel_rfl
theorem rtLaw : Keyed Tryz.prog 64 := Keyed.of_law (deep_law_laid laidOut (m := 2) (by omega) (of_decide_eq_true (by kernel_rfl)) (by kernel_rfl) (by rw [Tryz.underlying64]))

/-- Rights as data. -/
abbrev Rt := { x : Int × Int // (Lit.int .i64 x.1).wf = true ∧ (Lit.int .i64 x.2).wf = true }
def encK (x : Rt) : Value := .agg #[.int .i64 x.1.1, .int .i64 x.1.2]
theorem encK_inj {x y : Rt} (h : encK x = encK y) : x = y := by
  simp only [encK, Value.agg.injEq] at h
  have h := congrArg Array.toList h
  simp only [List.cons.injEq, Value.int.injEq, true_and, and_true] at h
  exact Subtype.ext (Prod.ext h.1 h.2)
def litK (x : Rt) : Lit := .string (keyBytes [.int .i64 x.1.1, .int .i64 x.1.2])

theorem rtSize : ∃ m, Tryz.prog.types.size = m + 1 := by
  have : (64 : TypeId) < Tryz.prog.types.size := of_decide_eq_true (by kernel_rfl)
  exact Nat.exists_eq_succ_of_ne_zero (Nat.ne_of_gt (Nat.lt_of_le_of_lt (Nat.zero_le _) this))
theorem rtCells2 : Tryz.prog.cellsOf 64 = 2 := by kernel_rfl
theorem intCells1 : Tryz.prog.cellsOf 3 = 1 := by kernel_rfl
theorem rtKeyT : Tryz.prog.keyType 64 = true := by kernel_rfl

theorem keyOf_rt (x : Rt) : keyOf Tryz.prog 64 (encK x) = some (litK x) := by
  obtain ⟨⟨a, b⟩, h1, h2⟩ := x
  obtain ⟨m, hm⟩ := rtSize
  simp only at h1 h2
  have hf : (encK ⟨(a, b), h1, h2⟩).formed Tryz.prog 64 = true := by simp [Value.formed, encK, Tryz.underlying64, rtCells2]
  have hl : Tryz.prog.keyLits (Tryz.prog.types.size + 1) 64 (encK ⟨(a, b), h1, h2⟩).cells.toList = some [.int .i64 a, .int .i64 b] := by
    rw [hm]
    simp [Program.keyLits, encK, Value.cells, Tryz.underlying64, Tryz.underlying3, rtCells2, intCells1, h1, h2]
  simp only [keyOf, Tryz.underlying64, rtKeyT, hf, hl, litK]
  rfl

theorem keyInt_inv {m : Nat} {c : Value} {l : List Lit} (h : Tryz.prog.keyLits (m + 1) 3 [c] = some l) : ∃ a, c = .int .i64 a ∧ l = [.int .i64 a] ∧ (Lit.int .i64 a).wf = true := by
  obtain ⟨a, e, rfl⟩ := keyLits_int' Tryz.underlying3 h
  simp only [List.cons.injEq, and_true] at e
  subst e
  refine ⟨a, rfl, rfl, ?_⟩
  unfold Program.keyLits at h
  simp [Tryz.underlying3] at h
  exact h

theorem keyOf_rt_inv {v : Value} {l : Lit} (h : keyOf Tryz.prog 64 v = some l) : ∃ x : Rt, v = encK x ∧ l = litK x := by
  obtain ⟨m, hm⟩ := rtSize
  simp only [keyOf, Tryz.underlying64, rtKeyT, Bool.true_and] at h
  split at h
  · rename_i hf
    cases hl : Tryz.prog.keyLits (Tryz.prog.types.size + 1) 64 v.cells.toList with
    | none => rw [hl] at h; cases h
    | some ls =>
      rw [hl] at h
      simp only [Option.map_some, Option.some.injEq] at h
      subst h
      cases v with
      | agg cs =>
        have hs : cs.size = 2 := by simpa [Value.formed, Tryz.underlying64, rtCells2] using hf
        obtain ⟨c0, c1, rfl⟩ : ∃ c0 c1, cs = #[c0, c1] := ⟨cs[0], cs[1], by
          apply Array.ext
          · simp [hs]
          · intro i h1 h2
            rcases (show i = 0 ∨ i = 1 by omega) with rfl | rfl <;> rfl⟩
        rw [hm] at hl
        unfold Program.keyLits at hl
        simp [Value.cells, Tryz.underlying64, rtCells2, intCells1] at hl
        generalize h1 : Tryz.prog.keyLits (m + 1) 3 [c0] = o1 at hl
        generalize h2 : Tryz.prog.keyLits (m + 1) 3 [c1] = o2 at hl
        cases o1 with
        | none => simp at hl
        | some l1 =>
          cases o2 with
          | none => simp at hl
          | some l2 =>
            obtain ⟨a, rfl, rfl, wa⟩ := keyInt_inv h1
            obtain ⟨b, rfl, rfl, wb⟩ := keyInt_inv h2
            simp at hl
            subst hl
            exact ⟨⟨(a, b), wa, wb⟩, rfl, rfl⟩
      | _ => simp [Value.formed, Tryz.underlying64] at hf
  · cases h
end Go.Proofs.YtjfdfhnfcpfmcaaGreatDoor

/-
  slices.Values of rights.
-/
namespace Go.Proofs.YtjfdfhnfcpfmcaaGreatDoor
open Go.RowKit Go.Maps Go.Shelf
attribute [local go_sem] Oper.semAt_some

def encA (x : Rt) : Array Value := #[encK x]
def rtRow (zs : List Rt) : List (List Value) := zs.map fun x => [.int .i64 x.1.1, .int .i64 x.1.2]
theorem rtRow_at (zs : List Rt) (j : Nat) (h : j < zs.length) : (rtRow zs)[j]?.getD [] = [.int .i64 zs[j].1.1, .int .i64 zs[j].1.2] := by
  simp [rtRow, h]

set_option maxRecDepth 100000 in
set_option maxHeartbeats 2000000 in
/-- slices.Values's closure, for every loop body that keeps what lay below n₀. -/
theorem values1_in (F : Fence) (n : Nat) (hF : F.fn 111) (hro : F.round = none) (hn : 1 ≤ n) (l Bs cap : Nat) (A : Option Addr) (zs : List Rt) (hreach : zs.length ≤ maxLen) (w0 : World) (h : RdRow w0 A zs.length 2 (rtRow zs)) (J Jx : List Rt → World → Prop)
    (hJ : ∀ pre W o, J pre W → Below w0.heap.size w0 W → J pre (W.alloc o))
    (hY : ∀ pre x W, J pre W → pre.length < zs.length → YieldAt F (n - 1) Tryz.prog l (encA x) W fun e W' =>
      (e = .returned (.bool true) ∧ J (pre ++ [x]) W' ∧ Below w0.heap.size W W') ∨ (e = .returned (.bool false) ∧ Jx (pre ++ [x]) W'))
    (W : World) (hW : Below w0.heap.size w0 W) (hBs : W.cell? ⟨Bs, 0, none⟩ = some (.slice A zs.length cap)) (h0 : J [] W) :
    CallsIn F n Tryz.prog 111 #[.func (.yield l) #[] #[], .pointer (some ⟨Bs, 0, none⟩)] W fun e W' => (∃ v, e = .returned v) ∧
      (J zs W' ∨ (∃ pre, pre <+: zs ∧ Jx pre W')) := by
  have hm := hreach
  unfold maxLen at hm
  refine callsIn_of_wp Tryz.func111 rfl hF ?_ hro
  simp only [Tryz.ntmps111, List.size_toArray, List.length_cons, List.length_nil, Nat.reduceAdd, Nat.reduceSub, Array.replicate_succ, Array.replicate_zero, List.push_toArray, List.append_toArray, List.nil_append, List.cons_append]
  gi_wp2
  gi_loopw [7] (fun i wr => ∃ k : Nat, k ≤ zs.length ∧ i = .int .i64 k ∧ Hid (J (zs.take k) wr) ∧ Hid (Below w0.heap.size w0 wr))
    (fun i _ => zs.length - (intOf i).toNat)
  case atStart => exact ⟨0, Nat.zero_le _, rfl, h0, hW⟩
  case round =>
    obtain ⟨k, hk, rfl, hJs, hnx⟩ := hrel
    by_cases hlt : k < zs.length
    · have hltz : (k : Int) < (zs.length : Int) := by omega
      obtain ⟨b, off, x0, x1, rfl, hb, hx, c0, c1⟩ := (h.below hnx.out).cells2 hlt
      rw [rtRow_at zs k hlt] at hx
      simp only [List.cons.injEq, and_true] at hx
      obtain ⟨rfl, rfl⟩ := hx
      obtain ⟨fn, tmps, assign, body, hy, hR⟩ := hY _ zs[k] (wr.alloc (.cells #[.int .i64 zs[k].1.1, .int .i64 zs[k].1.2] 64)) (hJ _ _ _ hJs.out hnx.out) (by simp; omega)
      have htk : zs.take k ++ [zs[k]] = zs.take (k + 1) := by rw [List.take_succ_eq_append_getElem hlt]
      rw [htk] at hR
      replace htk := hide htk
      simp only [encA, encK] at hy
      clear hY
      have hpre : zs.take (k + 1) <+: zs := List.take_prefix _ _
      gi_wp2
      refine hR.mono ?_
      rintro e W3 (⟨rfl, hJ3, hk3⟩ | ⟨rfl, hJx3⟩)
      · have hnx3 := hnx.out.trans (((Below.refl _ wr).alloc hnx.out.size _).trans hk3)
        gi_wp2
        go_roundw
        case rel => exact ⟨k + 1, by omega, by simp, hJ3, hnx3⟩
        case measure => simp [intOf]; omega
      · gi_wp2
        refine bodyPost_ret (results_none rfl _ _ _) rfl ?_
        exact ⟨⟨_, rfl⟩, .inr ⟨_, hpre, hJx3⟩⟩
    · obtain rfl : k = zs.length := by omega
      have hJe := hJs.out
      rw [List.take_length] at hJe
      gi_wp2
      go_end0
      exact ⟨⟨_, rfl⟩, .inl hJe⟩

theorem values_in (F : Fence) (n : Nat) (hF : F.fn 81) (hro : F.round = none) (a : Option Addr) (len cap : Nat) (w : World) :
    CallsIn F n Tryz.prog 81 #[.slice a len cap] w fun e w' => e = .returned (.func (.func 111) #[] #[.pointer (some ⟨w.heap.size, 0, none⟩)]) ∧ w' = w.alloc (.cells #[.slice a len cap] 46) := by
  refine callsIn_of_wp Tryz.func81 rfl hF ?_ hro
  simp only [Tryz.ntmps81, List.size_toArray, List.length_cons, List.length_nil, Nat.reduceAdd, Nat.reduceSub, Array.replicate_succ, Array.replicate_zero, List.push_toArray, List.append_toArray, List.nil_append, List.cons_append]
  gi_wp2
  go_ret
  exact ⟨rfl, rfl⟩

/-- slices.Values of rights hands back a value that stops. -/
theorem values_stops (F : Fence) (n : Nat) (hF : F.fn 111) (hro : F.round = none) (hn : 1 ≤ n) (Bs cap : Nat) (A : Option Addr) (zs : List Rt) (hreach : zs.length ≤ maxLen) (w0 w : World) (h : RdRow w0 A zs.length 2 (rtRow zs)) (hb : Below w0.heap.size w0 w)
    (hBs : Bs < w.heap.size) (hc : w.cell? ⟨Bs, 0, none⟩ = some (.slice A zs.length cap)) :
    SeqStopsK F n Tryz.prog 111 #[.pointer (some ⟨Bs, 0, none⟩)] encA (Below w0.heap.size) (fun ys => ys = zs) (fun pre => pre <+: zs) zs.length w := fun l J Jx W hW hJ _ hY h0 =>
  (values1_in F n hF hro hn l Bs cap A zs hreach w0 h J Jx (fun pre W o hs _ => hJ pre W _ none hs (World.grownBy_alloc W o none) (fun r e => by cases e)) hY W (hb.trans (hW.mono hb.size)) ((hW.cell (p := ⟨Bs, 0, none⟩) hBs).trans hc) h0).mono fun e W' ⟨he, h⟩ => ⟨he, h.imp (fun h => ⟨_, rfl, h⟩) (fun ⟨pre, h1, h2⟩ => ⟨pre, h1, h2⟩)⟩
end Go.Proofs.YtjfdfhnfcpfmcaaGreatDoor

/-
  maps.Keys of a map of rights.
-/
namespace Go.Proofs.YtjfdfhnfcpfmcaaGreatDoor
open Go.RowKit Go.Maps Go.Shelf Go.Sort
attribute [local go_sem] Oper.semAt_some

theorem litK_inj {x y : Rt} (h : litK x = litK y) : x = y := encK_inj (rtLaw.inj (keyOf_rt x) (by rw [h]; exact keyOf_rt y))
theorem sameKey_litK (x y : Rt) : (litK y).sameKey (litK x) = decide (y = x) := by
  rw [Bool.eq_iff_iff, decide_eq_true_iff]
  constructor
  · intro h
    refine litK_inj ?_
    unfold litK at h ⊢
    simpa [Lit.sameKey] using h
  · rintro rfl
    unfold litK
    simp [Lit.sameKey]

/-- No right twice; a right is on the list just where the map has it and it is no longer to come. -/
def Coll {H : Type} (D0 : DataW H) (left : Lit → Bool) (ss : List Rt) : Prop := ss.Nodup ∧ ∀ x, x ∈ ss ↔ (has D0 (litK x) = true ∧ left (litK x) = false)
section
variable {H : Type} {D0 : DataW H} {left : Lit → Bool} {ss : List Rt}
theorem Coll.start (D0 : DataW H) : Coll D0 (has D0) [] := ⟨List.nodup_nil, fun x => by cases has D0 (litK x) <;> simp⟩
theorem Coll.step (h : Coll D0 left ss) {x : Rt} {y : DataW H} (hlk : left (litK x) = true) (hat : ∀ zd, D0.atKey (litK x) zd = y) : Coll D0 (fun z => left z && !z.sameKey (litK x)) (ss ++ [x]) := by
  have hhas : has D0 (litK x) = true := has_true_of_atKey hat
  have hnew : x ∉ ss := fun hx => by have := ((h.2 x).1 hx).2; rw [hlk] at this; cases this
  refine ⟨List.nodup_append.2 ⟨h.1, by simp, fun a ha b hb => by simp at hb; subst hb; exact fun e => hnew (e ▸ ha)⟩, fun y => ?_⟩
  by_cases hy : y = x
  · subst hy; simp [hhas, sameKey_litK]
  · simp [h.2 y, hy, sameKey_litK]
end

set_option maxRecDepth 100000 in
set_option maxHeartbeats 2000000 in
theorem keys1_in {H : Type} (F : Fence) (n : Nat) (hF : F.fn 126) (hro : F.round = none) (hn : 1 ≤ n) (l Bm b nn : Nat) (D0 : DataW H) {R : Value → Option (DataW H × List MemPlace)} (J Jx : List Rt → World → Prop)
    (W : World) (hJ : AbidesFrom W.heap.size J)
    (hY : ∀ pre x W, J pre W → pre.length < Maps.size D0 → YieldAt F (n - 1) Tryz.prog l (encA x) W fun e W' =>
      (e = .returned (.bool true) ∧ J (pre ++ [x]) W' ∧ KeepsWalks W W') ∨ (e = .returned (.bool false) ∧ Jx (pre ++ [x]) W'))
    (hm : W.cell? ⟨Bm, 0, none⟩ = some (.map (some b))) (hown : W.ownsMap Tryz.prog 64 R b nn D0) (h0 : J [] W) :
    CallsIn F n Tryz.prog 126 #[.func (.yield l) #[] #[], .pointer (some ⟨Bm, 0, none⟩)] W fun e W' => (∃ v, e = .returned v) ∧
      ((∃ ss : List Rt, (ss.Nodup ∧ ∀ x, x ∈ ss ↔ has D0 (litK x) = true) ∧ J ss W') ∨ (∃ pre : List Rt, True ∧ Jx pre W')) := by
  refine callsIn_of_wp Tryz.func126 rfl hF ?_ hro
  simp only [Tryz.ntmps126, List.size_toArray, List.length_cons, List.length_nil, Nat.reduceAdd, Nat.reduceSub, Array.replicate_succ, Array.replicate_zero, List.push_toArray, List.append_toArray, List.nil_append, List.cons_append]
  gi_wp2_with (first
    | (gi_at_range; refine wpListIn_range_own _ rfl _ 131 rfl 64 4 rtLaw Tryz.underlying131 _ b nn _ rfl hown ?_; intro w0 hrg0 hg0 hs0)
    | gi_in)
  go_frame
  gi_loopw [3] (fun _ wr => ∃ (left : Lit → Bool) (cnt : Nat) (ss : List Rt), wr.ranges Tryz.prog 64 R b W.heap.size nn D0 left cnt ∧ ss.length + cnt ≤ Maps.size D0 ∧ Coll D0 left ss ∧ J ss wr)
    (fun _ wr => wr.rangeLeft b W.heap.size)
  case atStart =>
    exact ⟨_, _, [], hrg0, by simp, Coll.start D0, hJ [] W w0 none h0 hg0 (fun r e => by cases e)⟩
  case round =>
    obtain ⟨left, cnt, ss, hrg, hcs, hC, hJs⟩ := hrel
    gi_wp2_with (first
      | (gi_at_next; refine wpListIn_next_ranges _ rfl _ rfl 64 rtLaw R encK id (fun key kl hk => by obtain ⟨x, hx, _⟩ := keyOf_rt_inv hk; exact ⟨x, hx⟩) (fun v _ _ => ⟨v, rfl⟩) b W.heap.size nn _ _ _ rfl hrg ?_ ?_)
      | gi_in)
    · intro hc0 hl0
      gi_wp2
      go_end0
      exact ⟨⟨_, rfl⟩, .inl ⟨ss, ⟨hC.1, fun x => by rw [hC.2 x, hl0]; simp⟩, hJs⟩⟩
    · intro x1 x2 xw c kl yd yp w2 cnt2 hkey hlk hv hat hrg2 hlt hg2 hs2 hen
      obtain ⟨x, rfl, rfl⟩ : ∃ x : Rt, x.1.1 = x1 ∧ x.1.2 = x2 := ⟨⟨(x1, x2), xw⟩, rfl, rfl⟩
      have hkey : keyOf Tryz.prog 64 (encK x) = some kl := hkey
      obtain rfl : litK x = kl := by rw [keyOf_rt x] at hkey; injection hkey
      have hJ2 : J ss w2 := hJ ss wr w2 (some W.heap.size) hJs hg2 (fun r e => by cases e; exact ⟨Nat.le_refl _, hrg.iter_walk⟩)
      have hJ3 : J ss (w2.alloc (.cells #[.int .i64 x.1.1, .int .i64 x.1.2] 64)) := hJ ss w2 _ none hJ2 (World.grownBy_alloc w2 _ none) (fun r e => by cases e)
      obtain ⟨fn, tmps, assign, body, hy, hR⟩ := hY ss x _ hJ3 (by omega)
      have hC2 := hC.step hlk hat
      have hrg3 := hrg2.of_walks (KeepsWalks.alloc w2 (.cells #[.int .i64 x.1.1, .int .i64 x.1.2] 64))
      simp only [encA, encK] at hy hen
      simp only [encK]
      replace hC2 := hide hC2
      replace hrg3 := hide hrg3
      replace hrg2 := hide hrg2
      replace hrg := hide hrg
      replace hC := hide hC
      replace hown := hide hown
      replace hat := hide hat
      replace hY := hide hY
      replace hJ := hide hJ
      replace hlk := hide hlk
      clear hs2 hkey
      gi_wp2
      refine hR.mono ?_
      rintro e W3 (⟨rfl, hJ3, hk3⟩ | ⟨rfl, hJx3⟩)
      · gi_wp2
        have hrg4 := hrg3.out.of_walks hk3
        go_roundw
        case rel => exact ⟨_, cnt2, ss ++ [x], hrg4, by simp; omega, hC2.out, hJ3⟩
        case measure => rw [hrg4.left_eq, hrg.out.left_eq]; exact hlt
      · gi_wp2
        refine bodyPost_ret (results_none rfl _ _ _) rfl ?_
        exact ⟨⟨_, rfl⟩, .inr ⟨_, trivial, hJx3⟩⟩

theorem keys_in (F : Fence) (n : Nat) (hF : F.fn 106) (hro : F.round = none) (mb : Option Nat) (w : World) :
    CallsIn F n Tryz.prog 106 #[.map mb] w fun e w' => e = .returned (.func (.func 126) #[] #[.pointer (some ⟨w.heap.size, 0, none⟩)]) ∧ w' = w.alloc (.cells #[.map mb] 131) := by
  refine callsIn_of_wp Tryz.func106 rfl hF ?_ hro
  simp only [Tryz.ntmps106, List.size_toArray, List.length_cons, List.length_nil, Nat.reduceAdd, Nat.reduceSub, Array.replicate_succ, Array.replicate_zero, List.push_toArray, List.append_toArray, List.nil_append, List.cons_append]
  gi_wp2
  go_ret
  exact ⟨rfl, rfl⟩

theorem keys_stops {H : Type} (F : Fence) (n : Nat) (hF : F.fn 126) (hro : F.round = none) (hn : 1 ≤ n) (Bm b nn : Nat) (D0 : DataW H) {R : Value → Option (DataW H × List MemPlace)} (w : World) (hBm : Bm < w.heap.size)
    (hm : w.cell? ⟨Bm, 0, none⟩ = some (.map (some b))) (hown : w.ownsMap Tryz.prog 64 R b nn D0) :
    SeqStopsK F n Tryz.prog 126 #[.pointer (some ⟨Bm, 0, none⟩)] encA KeepsWalks (fun ss => ss.Nodup ∧ ∀ x, x ∈ ss ↔ has D0 (litK x) = true) (fun _ => True) (Maps.size D0) w := fun l J Jx W hW hJ _ hY h0 => by
  have hown' : W.ownsMap Tryz.prog 64 R b nn D0 := by
    have hbl := hown.lt
    obtain ⟨es, clock, hb, Ft, hs, hD⟩ := hown
    exact ⟨es, clock, (hW.block b hbl).trans hb, Ft, hs, hD⟩
  exact keys1_in F n hF hro hn l Bm b nn D0 J Jx W hJ hY ((hW.cell (p := ⟨Bm, 0, none⟩) hBm).trans hm) hown' h0
end Go.Proofs.YtjfdfhnfcpfmcaaGreatDoor

/-
  slices.AppendSeq, slices.Collect of rights.
-/
namespace Go.Proofs.YtjfdfhnfcpfmcaaGreatDoor
open Go.RowKit Go.Maps Go.Shelf Go.Sort
attribute [local go_sem] Oper.semAt_some

theorem infoRt : (Tryz.prog.info? 64).map (fun i => (i.zero, i.size, i.bytes)) = some (some (.agg #[.int .i64 0, .int .i64 0]), 2, 16) := by kernel_rfl
/-- The cells of rights, one behind another. -/
def rtFlat (zs : List Rt) : List Value := zs.flatMap fun x => [.int .i64 x.1.1, .int .i64 x.1.2]
theorem rtFlat_snoc (zs : List Rt) (x : Rt) : rtFlat (zs ++ [x]) = rtFlat zs ++ [.int .i64 x.1.1, .int .i64 x.1.2] := by simp [rtFlat]
/-- Block B holds the right x. -/
def BoxR (W : World) (B : Nat) (x : Rt) : Prop := W.heap[B]? = some (.cells #[.int .i64 x.1.1, .int .i64 x.1.2] 64 (0, 0))
theorem BoxR.lt {W : World} {B : Nat} {x : Rt} (h : BoxR W B x) : B < W.heap.size := (Array.getElem?_eq_some_iff.1 h).1
theorem BoxR.new (W : World) (x : Rt) : BoxR (W.alloc (.cells #[.int .i64 x.1.1, .int .i64 x.1.2] 64)) W.heap.size x := World.alloc_heap_new W _
theorem BoxR.c0 {W : World} {B : Nat} {x : Rt} (h : BoxR W B x) : W.cell? ⟨B, 0, none⟩ = some (.int .i64 x.1.1) := by simp [World.cell?, show W.heap[B]? = _ from h]
theorem BoxR.c1 {W : World} {B : Nat} {x : Rt} (h : BoxR W B x) : W.cell? ⟨B, 1, none⟩ = some (.int .i64 x.1.2) := by simp [World.cell?, show W.heap[B]? = _ from h]
theorem BoxR.kept {W W' : World} {row : Option Nat} {B : Nat} {x : Rt} (h : BoxR W B x) (hg : W.grownBy W' row) (hne : some B ≠ row) : BoxR W' B x := (hg.block B h.lt hne).trans h
theorem BoxR.own {W W' : World} {row : Option Nat} {B : Nat} {x : Rt} (h : BoxR W B x) (hg : W.grownBy W' row) (hr : ∀ r, row = some r → ∃ o : Obj, W.heap[r]? = some o ∧ o.isCells = false) : BoxR W' B x :=
  h.kept hg fun e => by
    obtain ⟨o, ho, hc⟩ := hr B e.symm
    rw [show W.heap[B]? = _ from h] at ho; cases ho; cases hc

theorem cell_two_new (w : World) (x y : Value) (t : TypeId) : ∀ j u, [x, y][j]? = some u → (w.alloc (.cells #[x, y] t)).cell? ((⟨w.heap.size, 0, none⟩ : Addr).add j) = some u := by
  intro j u hj
  match j, hj with
  | 0, hj => simp at hj; subst hj; exact World.cell?_alloc_new w _ t 0
  | 1, hj => simp at hj; subst hj; exact World.cell?_alloc_new w _ t 1

set_option maxRecDepth 100000 in
set_option maxHeartbeats 2000000 in
theorem AppendSeq_in (F : Fence) (n : Nat) (hF : F.fn 125) (hro : F.round = none) (hn : 2 ≤ n) (g : Nat) (lb : Array Value) (hFg : F.fn g) (eg : ∀ args w, (callFunc g args).run Tryz.prog w = .ok (.enter g args) w) (S Sp : List Rt → Prop) (N : Nat) (hN : N ≤ maxLen) (hN2 : N * 16 ≤ 140737488355328) (w0 w : World)
    (hseq : SeqStopsK F (n - 1) Tryz.prog g lb encA KeepsWalks S Sp N w0) (hb0 : Below w0.heap.size w0 w) :
    CallsIn F n Tryz.prog 125 #[.slice none 0 0, .func (.func g) #[] lb] w fun e W' => ∃ v ss, e = .returned v ∧ S ss ∧ W'.ownsRow w.heap.size 64 2 v ss.length (rtFlat ss) ∧ Below w.heap.size w W' := by
  have h1 : 1 ≤ n := by omega
  obtain ⟨i0, hi, hz0, hz1, hz2⟩ := info_parts infoRt
  replace hi := hide hi
  replace hz0 := hide hz0
  replace hz1 := hide hz1
  replace hz2 := hide hz2
  refine callsIn_of_wp_marks Tryz.func125 rfl hF ?_ hro
  simp only [Tryz.ntmps125, List.size_toArray, List.length_cons, List.length_nil, Nat.reduceAdd, Nat.reduceSub, Array.replicate_succ, Array.replicate_zero, List.push_toArray, List.append_toArray, List.nil_append, List.cons_append]
  gi_wp2
  have bO := Boxed.new w 46 (.slice none 0 0)
  have hB0 : Below w.heap.size w (w.alloc (.cells #[.slice none 0 0] 46)) := (Below.refl _ w).alloc (Nat.le_refl _) _
  have hsz : (w.alloc (.cells #[.slice none 0 0] 46)).heap.size = w.heap.size + 1 := by simp
  obtain ⟨W0, hW0⟩ : ∃ W0, w.alloc (.cells #[.slice none 0 0] 46) = W0 := ⟨_, rfl⟩
  rw [hW0] at bO hB0 hsz ⊢
  clear hW0
  refine wpIn_rangeFunc_ownH hro h1 (gf := g) (lb := lb) rfl hFg eg hseq walksK_t walksK_b (hb0.trans (hB0.mono hb0.size)) (fun _ => rfl)
    (fun pre W => (∃ v, Boxed W w.heap.size 46 v ∧ W.ownsRow w.heap.size 64 2 v pre.length (rtFlat pre) ∧ True) ∧ Below w.heap.size w W)
    (fun _ _ _ => False)
    (OwnFrom.and (Own.from (holdsRow_own w.heap.size w.heap.size 46 64 2 (fun pre => pre.length) rtFlat (fun _ _ => True)) _) (ownFrom_below (Nat.le_refl _) (by omega)))
    (fun _ _ _ _ _ hs _ _ => hs)
    ⟨⟨_, bO, World.ownsRow_nil _ _ _ _, trivial⟩, hB0⟩
    (fun x a' W => ∃ Bx, w.heap.size < Bx ∧ BoxR W Bx x ∧ a' = { tmps := #[.slice none 0 0, .func (.func g) #[] lb, .pointer (some ⟨w.heap.size, 0, none⟩), undef, .slice none 0 0, .pointer (some ⟨Bx, 0, none⟩), .func (.func g) #[] lb, encK x, undef, undef, undef, undef, undef], defers := [] })
    (fun x a' _ X Y row hs hg hr => by obtain ⟨Bx, h1, h2, h3⟩ := hs; exact ⟨Bx, h1, h2.own hg (fun r e => (hr r e).2), h3⟩)
    ?assign ?body ?done ?stop
  case assign =>
    rintro l pre x W K ⟨⟨v, hv, hrow, _⟩, hB⟩ hK
    simp only [encA, encK]
    gi_wp2
    exact hK _ _ ((KeepsOthers.alloc _ _).from _) (KeepsWalks.alloc _ _) ⟨⟨v, hv.alloc _, hrow.alloc _, trivial⟩, hB.alloc hB.size _⟩ ⟨W.heap.size, hv.lt, BoxR.new W x, rfl⟩
  case body =>
    rintro l pre x a' W hl ⟨r, hr⟩ ⟨⟨v, hv, hrow, _⟩, hB⟩ ⟨Bx, hBx, bX, rfl⟩ hlt
    have hc := hv.cell
    have c0 := bX.c0
    have c1 := bX.c1
    have hmN : pre.length + 1 ≤ N := hlt
    have hml : pre.length + 1 ≤ maxLen := by omega
    have hmb : (pre.length + 1) * 16 ≤ 140737488355328 := by omega
    have hsW := hB.size
    have hts : 46 ≠ 64 := by decide
    have hs1 : w.heap.size ≤ (W.alloc (.cells #[.int .i64 x.1.1, .int .i64 x.1.2] 64)).heap.size := by simp; omega
    simp only [encK]
    gi_wp2_with (gi_at_builtin; refine wpListIn_append_own _ rfl _ _ 46 rfl w.heap.size 64 i0 (.agg #[.int .i64 0, .int .i64 0]) 2 16 Tryz.underlying46 hi.out hz0.out hz1.out hz2.out rfl (by decide) _ _ _ rfl (hrow.alloc _) ⟨W.heap.size, 0, none⟩ 1 1 [.int .i64 x.1.1, .int .i64 x.1.2] rfl rfl (cell_two_new _ _ _ _) (by simp [Value.oneCell']) hml hmb hs1 ?_; intro v' w1 hown' hgrow _; obtain ⟨g', cap', rfl⟩ := ownsRow_succ hown'; obtain ⟨hv1, hv2, hr2, hk2, hb2⟩ := hv.appended hts hrow hB.size (Nat.le_refl _) hown' hgrow; have hc1 := hv1.cell; have hf1 := hv1.frozen)
    exact ⟨hk2.from _, hk2.walks, ⟨_, hv2, by rw [rtFlat_snoc]; simpa using hr2, trivial⟩, hB.trans hb2⟩
  case done =>
    rintro D ys W hD hS ⟨⟨v, hv, hrow, _⟩, hB⟩ hK
    have hc := hv.cell
    gi_wp2
    refine ⟨by simp, .inl ⟨_, _, rfl, run_takeDeferred hK, ?_⟩⟩
    exact ⟨_, results_tmp rfl _ _ _, v, ys, rfl, hS, ownsRow_putObj hrow _ hK rfl, hB.trans (belowK_b (w := w) (Nat.le_refl _) W D _ _ (by omega) hK rfl rfl)⟩
  case stop =>
    rintro D c pre W _ _ h _
    exact h.elim

theorem Collect_in (F : Fence) (n : Nat) (hF : F.fn 105) (hF2 : F.fn 125) (hro : F.round = none) (hn : 3 ≤ n) (g : Nat) (lb : Array Value) (hFg : F.fn g) (eg : ∀ args w, (callFunc g args).run Tryz.prog w = .ok (.enter g args) w) (S Sp : List Rt → Prop) (N : Nat) (hN : N ≤ maxLen) (hN2 : N * 16 ≤ 140737488355328) (w0 w : World)
    (hseq : SeqStopsK F (n - 1 - 1) Tryz.prog g lb encA KeepsWalks S Sp N w0) (hb0 : Below w0.heap.size w0 w) :
    CallsIn F n Tryz.prog 105 #[.func (.func g) #[] lb] w fun e W' => ∃ v ss, e = .returned v ∧ S ss ∧ W'.ownsRow w.heap.size 64 2 v ss.length (rtFlat ss) ∧ Below w.heap.size w W' := by
  have h1 : 1 ≤ n := by omega
  have hcall := AppendSeq_in F (n - 1) hF2 hro (by omega) g lb hFg eg S Sp N hN hN2 w0 w hseq hb0
  refine callsIn_of_wp Tryz.func105 rfl hF ?_ hro
  simp only [Tryz.ntmps105, List.size_toArray, List.length_cons, List.length_nil, Nat.reduceAdd, Nat.reduceSub, Array.replicate_succ, Array.replicate_zero, List.push_toArray, List.append_toArray, List.nil_append, List.cons_append]
  gi_wp2_with (gi_at_call 125; refine hcall.mono ?_; rintro e w' ⟨v, ss, rfl, hS, hrow, hb⟩)
  go_ret
  exact ⟨v, ss, rfl, hS, hrow, hb⟩
end Go.Proofs.YtjfdfhnfcpfmcaaGreatDoor

/-
  Rights in a row that is sorted: words alone.
-/
namespace Go.Proofs.YtjfdfhnfcpfmcaaGreatDoor
open Go.RowKit Go.Sort

def encR (x : Rt) : List Value := [.int .i64 x.1.1, .int .i64 x.1.2]
instance : Inhabited Rt := ⟨⟨(0, 0), by decide, by decide⟩⟩

theorem rtFlat_len (ss : List Rt) : (rtFlat ss).length = ss.length * 2 := by
  induction ss with
  | nil => rfl
  | cons x r ih => simp only [rtFlat, List.flatMap_cons, List.length_append] at *; rw [ih]; simp; omega
theorem rtFlat_at (ss : List Rt) (t : Nat) (h : t < ss.length * 2) : (rtFlat ss)[t]? = some (encR ss[t / 2]!)[t % 2]! := by
  induction ss generalizing t with
  | nil => simp at h
  | cons x r ih =>
    show (([.int .i64 x.1.1, .int .i64 x.1.2] : List Value) ++ rtFlat r)[t]? = _
    match t, h with
    | 0, _ => rfl
    | 1, _ => rfl
    | t + 2, h =>
      rw [List.getElem?_append_right (by simp)]
      have h' : t < r.length * 2 := by simp at h; omega
      have h1 : (t + 2) / 2 = t / 2 + 1 := by omega
      have h2 : (t + 2) % 2 = t % 2 := by omega
      simp only [List.length_cons, List.length_nil, Nat.add_sub_cancel]
      rw [ih t h', h1, h2]
      simp
theorem flatK_eq (ss : List Rt) : flatK encR 2 ss.toArray = (rtFlat ss).toArray := by
  apply Array.ext_getElem?
  intro t
  by_cases h : t < ss.length * 2
  · have h1 := get_flatK encR 2 ss.toArray t (by simpa using h)
    rw [show (rtFlat ss).toArray[t]? = (rtFlat ss)[t]? by simp, rtFlat_at ss t h, Array.getElem?_eq_getElem (by simpa using h)]
    rw [getElem!_pos _ t (by simpa using h)] at h1
    rw [h1]
    simp
  · rw [Array.getElem?_eq_none (by simp; omega), Array.getElem?_eq_none (by simp [rtFlat_len]; omega)]

theorem holdsK_of_block {w : World} {g : Nat} {cur : Array Value} {e : TypeId} {ss : List Rt} (hb : w.heap[g]? = some (.cells cur e (0, 0))) (ht : cur.toList.take (ss.length * 2) = rtFlat ss) : HoldsK encR 2 w g 0 ss.toArray := by
  unfold HoldsK
  rw [flatK_eq]
  intro j hj
  have hj' : j < ss.length * 2 := by simpa [rtFlat_len] using hj
  refine ⟨?_, by simp [World.frozen?, hb]⟩
  have h1 : (cur.toList.take (ss.length * 2))[j]? = (rtFlat ss)[j]? := by rw [ht]
  rw [List.getElem?_take_of_lt hj'] at h1
  simp only [World.cell?, hb, Nat.zero_add]
  simp only [Option.isSome_none, Bool.false_eq_true, if_false]
  rw [← Array.getElem?_toList, h1]
  have hjl : j < (rtFlat ss).length := by rw [rtFlat_len]; exact hj'
  rw [List.getElem?_eq_getElem hjl]
  simp [hjl]

theorem heap_sortedR {w : World} {g n : Nat} {os : Array Obj} {cur : Array Value} {e : TypeId} {fr : Nat × Nat} (d : Array Value) (hb : w.heap[g]? = some (.cells cur e fr)) :
    (grow (putRow id (Sort.ahead w n) g 0 d) os).heap[g]? = some (.cells (putCells id 0 d cur) e fr) := by
  have hg : g < w.heap.size := (Array.getElem?_eq_some_iff.1 hb).1
  rw [heap_grow_old _ _ (by simpa using hg)]
  simp [putRow, mapBlock, Sort.ahead, Array.getElem?_modify, hb, onCells]
theorem grownBy_sortedR {w : World} {g n : Nat} {os : Array Obj} (d : Array Value) : w.grownBy (grow (putRow id (Sort.ahead w n) g 0 d) os) (some g) := by
  refine ⟨rfl, rfl, rfl, by simp, fun k hk hne => ?_⟩
  rw [heap_grow_old _ _ (by simpa using hk)]
  have : g ≠ k := fun e => hne (by rw [e])
  simp [putRow, mapBlock, Sort.ahead, Array.getElem?_modify, this]
theorem take_putCellsR (cur : Array Value) (ts : List Value) (h : ts.length ≤ cur.size) : (putCells id 0 ts.toArray cur).toList.take ts.length = ts := by
  apply List.ext_getElem?
  intro j
  by_cases hj : j < ts.length
  · rw [List.getElem?_take_of_lt hj, Array.getElem?_toList]
    simp [putCells, hj, show j < cur.size by omega]
  · rw [List.getElem?_take_eq_none (by omega), List.getElem?_eq_none (by omega)]
theorem ownsRow_sortedR {w : World} {base g cap n : Nat} {e : TypeId} {os : Array Obj} {cur : Array Value} {ss ts : List Rt} (hl : ts.length = ss.length) (hbase : base ≤ g) (hb : w.heap[g]? = some (.cells cur e (0, 0)))
    (h1 : ss.length ≤ cap) (h2 : cap ≤ maxLen) (h3 : cur.size = cap * 2) :
    (grow (putRowK encR 2 (Sort.ahead w n) g 0 ts.toArray) os).ownsRow base e 2 (.slice (some ⟨g, 0, none⟩) ss.length cap) ss.length (rtFlat ts) := by
  unfold putRowK
  rw [flatK_eq]
  refine ⟨by rw [rtFlat_len, hl], .inr ⟨g, cap, _, rfl, hbase, heap_sortedR _ hb, h1, h2, by simp [putCells, h3], ?_⟩⟩
  have := take_putCellsR cur (rtFlat ts) (by rw [rtFlat_len, hl, h3]; omega)
  rwa [rtFlat_len, hl] at this
end Go.Proofs.YtjfdfhnfcpfmcaaGreatDoor
