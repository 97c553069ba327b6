import Derived.Test.YtnmgnonbgihalaaPc
import Derived.Test.YtnmgnonbgihalaaPa
import Derived.Test.YtnmgnonbgihalaaPj
import Derived.Test.YtnmgnonbgihalaaPo
import Derived.Test.YtnmgnonbgihalaaSh
import Derived.Test.YtnmgnonbgihalaaPi
import Derived.Sort.EveryDepth
import Derived.Sort.OwnSortedInts
/-
  The neighbours of a seat that have their papers before it.
-/
namespace Go.Proofs.Ytnmgnonbgihalaa
open Go.RowKit Go.Shelf RG
attribute [local go_sem] Oper.semAt_some

/-- The seat in front, and the one beside. -/
def nbF (hs seat : Nat) : List Nat := if hs ≤ seat then [seat - hs] else []
def nbS (hs seat : Nat) : List Nat := if 0 < seat % hs then [seat - 1] else []
def encN (x : Nat) : Array Value := #[.int .i64 x]
theorem neighbours_any (hr hs hc seat : Int) (w : World) : Calls Try.prog 84 #[.agg #[.int .i64 hr, .int .i64 hs, .int .i64 hc], .int .i64 seat] w fun e w' => e = .returned (.func (.func 92) #[] #[.pointer (some ⟨w.heap.size + 1, 0, none⟩), .pointer (some ⟨w.heap.size, 0, none⟩)]) ∧ w' = (w.alloc (.cells #[.int .i64 hr, .int .i64 hs, .int .i64 hc] 44)).alloc (.cells #[.int .i64 seat] 3) := by
  go_enter Try.func84, Try.ntmps84
  go_wp2
  go_ret
  exact ⟨rfl, rfl⟩
theorem enters_nbr : ∀ args w, (callFunc 92 args).run Try.prog w = .ok (.enter 92 args) w := fun _ _ => by kernel_rfl

set_option maxRecDepth 100000 in
set_option maxHeartbeats 2000000 in
/-- Beside, behind whatever was yielded before. -/
theorem nbr_in (n l sp hp : Nat) (hs seat : Nat) (h1 : 1 ≤ hs) (hs6 : hs ≤ 1000) (hse : seat ≤ 1000000) (J Jx : List Nat → World → Prop) (W : World)
    (hRd : ∀ s X, J s X → X.cell? ⟨sp, 0, none⟩ = some (.int .i64 seat) ∧ X.cell? ⟨hp, 1, none⟩ = some (.int .i64 hs))
    (hY1 : hs ≤ seat → ∀ X, J [] X → YieldAt Fence.wide (n - 1) Try.prog l (encN (seat - hs)) X fun e W' => (e = .returned (.bool true) ∧ J [seat - hs] W') ∨ (e = .returned (.bool false) ∧ Jx [seat - hs] W'))
    (hY2 : 0 < seat % hs → ∀ X, J (nbF hs seat) X → YieldAt Fence.wide (n - 1) Try.prog l (encN (seat - 1)) X fun e W' => (e = .returned (.bool true) ∧ J (nbF hs seat ++ [seat - 1]) W') ∨ (e = .returned (.bool false) ∧ Jx (nbF hs seat ++ [seat - 1]) W'))
    (h0 : J [] W) :
    CallsIn Fence.wide n Try.prog 92 #[.func (.yield l) #[] #[], .pointer (some ⟨sp, 0, none⟩), .pointer (some ⟨hp, 0, none⟩)] W fun e W' => (∃ v, e = .returned v) ∧ (J (nbF hs seat ++ nbS hs seat) W' ∨ (hs ≤ seat ∧ Jx [seat - hs] W') ∨ Jx (nbF hs seat ++ nbS hs seat) W') := by
  obtain ⟨c0, c1⟩ := hRd _ _ h0
  obtain ⟨r, hrr⟩ : ∃ r, seat % hs = r := ⟨_, rfl⟩
  have hm : (seat : Int).tmod (hs : Int) = (r : Int) := by rw [Int.tmod_eq_emod_of_nonneg (by omega), ← hrr]; rfl
  have hrb : r < 1000 := by have h5 := Nat.mod_lt seat (show 0 < hs by omega); omega
  have hmw : IntKind.i64.wrap (r : Int) = (r : Int) := by rw [IntKind.wrap_i64]; omega
  have hz : ((hs : Int) == 0) = false := by rw [beq_eq_false_iff_ne]; omega
  have hz2 : (hs : Int) ≠ 0 := by omega
  have hz3 : hs ≠ 0 := by omega
  replace hRd := hide hRd
  replace hY1 := hide hY1
  rw [hrr] at hY2
  replace hY2 := hide hY2
  replace hrr := hide hrr
  refine callsIn_of_wp Try.func92 rfl trivial ?_ rfl
  simp only [Try.ntmps92, List.size_toArray, List.length_cons, List.length_nil, Nat.reduceAdd, Nat.reduceSub, Array.replicate_succ, Array.replicate_zero, List.push_toArray, List.append_toArray, List.nil_append, List.cons_append]
  by_cases hge : hs ≤ seat
  · have hgez : (hs : Int) ≤ (seat : Int) := by omega
    obtain ⟨s0, hs0⟩ : ∃ z, seat - hs = z := ⟨_, rfl⟩
    have hw0 : IntKind.i64.wrap ((seat : Int) - (hs : Int)) = (s0 : Int) := by rw [IntKind.wrap_i64]; omega
    obtain ⟨fn, tmps, assign, body, hy, hR⟩ := hY1.out hge _ h0
    rw [hs0] at hy hR ⊢
    simp only [encN] at hy
    have hF := hide (show nbF hs seat = [s0] by unfold nbF; rw [if_pos hge, hs0])
    rw [hF.out] at hY2 ⊢
    replace hs0 := hide hs0
    clear hY1
    gi_wp2
    refine ⟨fun h => absurd h (by decide), ?_⟩
    refine hR.mono ?_
    clear hR hy c0 c1
    rintro e W3 (⟨rfl, hJ3⟩ | ⟨rfl, hJx3⟩)
    · replace hJ3 := hide hJ3
      obtain ⟨d0, d1⟩ := hRd.out _ _ hJ3.out
      by_cases hp : 0 < r
      · have hpz : (0 : Int) < (r : Int) := by omega
        obtain ⟨s1, hs1⟩ : ∃ z, seat - 1 = z := ⟨_, rfl⟩
        have hpos : 1 ≤ seat := by
          rcases Nat.eq_zero_or_pos seat with h5 | h5
          · have h6 := hrr.out
            rw [h5, Nat.zero_mod] at h6
            omega
          · exact h5
        have hw1 : IntKind.i64.wrap ((seat : Int) - 1) = (s1 : Int) := by rw [IntKind.wrap_i64]; omega
        obtain ⟨fn, tmps, assign, body, hy, hR⟩ := hY2.out hp _ hJ3.out
        rw [hs1] at hy hR
        simp only [encN] at hy
        have hS := hide (show nbS hs seat = [s1] by unfold nbS; rw [hrr.out, if_pos hp, hs1])
        replace hs1 := hide hs1
        clear hpos
        gi_wp2
        refine ⟨fun h => absurd h (by decide), ?_⟩
        refine hR.mono ?_
        clear hR hy d0 d1
        rintro e W3 (⟨rfl, hJ3⟩ | ⟨rfl, hJx3⟩)
        · replace hJ3 := hide hJ3
          gi_wp2
          go_end0
          exact ⟨⟨_, rfl⟩, .inl (by rw [hS.out]; exact hJ3.out)⟩
        · replace hJx3 := hide hJx3
          gi_wp2
          go_end0
          exact ⟨⟨_, rfl⟩, .inr (.inr (by rw [hS.out]; exact hJx3.out))⟩
      · have hpz : (r : Int) ≤ 0 := by omega
        have hS := hide (show nbS hs seat = [] by unfold nbS; rw [hrr.out, if_neg hp])
        gi_wp2
        go_end0
        exact ⟨⟨_, rfl⟩, .inl (by rw [hS.out, List.append_nil]; exact hJ3.out)⟩
    · replace hJx3 := hide hJx3
      gi_wp2
      refine bodyPost_ret (results_none rfl _ _ _) rfl ?_
      exact ⟨⟨_, rfl⟩, .inr (.inl ⟨hge, hJx3.out⟩)⟩
  · have hgez : (seat : Int) < (hs : Int) := by omega
    have hF := hide (show nbF hs seat = [] by unfold nbF; rw [if_neg hge])
    rw [hF.out] at hY2 ⊢
    simp only [List.nil_append] at hY2 ⊢
    replace h0 := hide h0
    clear hY1
    gi_wp2
    refine ⟨fun _ _ => trivial, ?_⟩
    by_cases hp : 0 < r
    · have hpz : (0 : Int) < (r : Int) := by omega
      obtain ⟨s1, hs1⟩ : ∃ z, seat - 1 = z := ⟨_, rfl⟩
      have hpos : 1 ≤ seat := by
        rcases Nat.eq_zero_or_pos seat with h5 | h5
        · have h6 := hrr.out
          rw [h5, Nat.zero_mod] at h6
          omega
        · exact h5
      have hw1 : IntKind.i64.wrap ((seat : Int) - 1) = (s1 : Int) := by rw [IntKind.wrap_i64]; omega
      obtain ⟨fn, tmps, assign, body, hy, hR⟩ := hY2.out hp _ h0.out
      rw [hs1] at hy hR
      simp only [encN] at hy
      have hS := hide (show nbS hs seat = [s1] by unfold nbS; rw [hrr.out, if_pos hp, hs1])
      replace hs1 := hide hs1
      clear hpos
      gi_wp2
      refine ⟨fun h => absurd h (by decide), ?_⟩
      refine hR.mono ?_
      clear hR hy c0 c1
      rintro e W3 (⟨rfl, hJ3⟩ | ⟨rfl, hJx3⟩)
      · replace hJ3 := hide hJ3
        gi_wp2
        go_end0
        exact ⟨⟨_, rfl⟩, .inl (by rw [hS.out]; exact hJ3.out)⟩
      · replace hJx3 := hide hJx3
        gi_wp2
        go_end0
        exact ⟨⟨_, rfl⟩, .inr (.inr (by rw [hS.out]; exact hJx3.out))⟩
    · have hpz : (r : Int) ≤ 0 := by omega
      have hS := hide (show nbS hs seat = [] by unfold nbS; rw [hrr.out, if_neg hp])
      gi_wp2
      go_end0
      exact ⟨⟨_, rfl⟩, .inl (by rw [hS.out]; exact h0.out)⟩
/-- The iterator as one that 'range_own' takes. -/
theorem nbr_seq (n sp hp : Nat) (hs seat : Nat) (h1 : 1 ≤ hs) (hs6 : hs ≤ 1000) (hse : seat ≤ 1000000) (w : World) :
    SeqOwn n 92 #[.pointer (some ⟨sp, 0, none⟩), .pointer (some ⟨hp, 0, none⟩)] encN (fun _ X => X.cell? ⟨sp, 0, none⟩ = some (.int .i64 seat) ∧ X.cell? ⟨hp, 1, none⟩ = some (.int .i64 hs)) (fun pre x => (pre = [] ∧ hs ≤ seat ∧ x = seat - hs) ∨ (pre = nbF hs seat ∧ 0 < seat % hs ∧ x = seat - 1)) (fun xs => xs = nbF hs seat ++ nbS hs seat) (fun pre => (hs ≤ seat ∧ pre = [seat - hs]) ∨ pre = nbF hs seat ++ nbS hs seat) w := by
  intro l J Jx W hb hJ _ hsz hRd hY h0
  refine (nbr_in n l sp hp hs seat h1 hs6 hse J Jx W (fun s X h => hRd _ _ h) (fun hge X hJ0 => hY [] _ X hJ0 (.inl ⟨rfl, hge, rfl⟩)) (fun hp X hJ0 => hY _ _ X hJ0 (.inr ⟨rfl, hp, rfl⟩)) h0).mono ?_
  rintro e W' ⟨h2, (h3 | ⟨hge, h3⟩ | h3)⟩
  · exact ⟨h2, .inl ⟨_, rfl, h3⟩⟩
  · exact ⟨h2, .inr ⟨_, .inl ⟨hge, rfl⟩, h3⟩⟩
  · exact ⟨h2, .inr ⟨_, .inr rfl, h3⟩⟩
end Go.Proofs.Ytnmgnonbgihalaa

/-
  Slicing: the first m. Of no function.
-/
namespace Go.Proofs.Ytnmgnonbgihalaa
open Go.RowKit RG

theorem slice_hi {t e : TypeId} {z : Option Value} {k b : Nat} (ht : Try.prog.underlying t = some (.slice e)) (hi : (Try.prog.info? e).map (fun i => (i.zero, i.size, i.bytes)) = some (z, k, b)) (A : Option Addr) (n c m : Nat) (hm : m ≤ c) (W : World) :
    (Instr.sliceAt t (.slice A n c) none (some (.int .i64 (m : Int))) none).run Try.prog W = .ok (.slice A m c) W := by
  obtain ⟨i, h1, h2⟩ : ∃ i, Try.prog.info? e = some i ∧ i.size = k := by
    cases h : Try.prog.info? e with
    | none => rw [h] at hi; cases hi
    | some i =>
      rw [h] at hi
      simp only [Option.map_some, Option.some.injEq, Prod.mk.injEq] at hi
      exact ⟨i, rfl, hi.2.1⟩
  have ha : A.map (fun x => x.add 0) = A := by
    cases A with
    | none => rfl
    | some a => simp [Addr.add]
  simp [Instr.sliceAt, Instr.slice, Instr.sliceBounds, Instr.sliceBound, run_underlying ht, sizeOf, typeInfo, h1, asIntOf, hm, ha]
end Go.Proofs.Ytnmgnonbgihalaa

/-
  The narrowest range (made by gen_narrow.py).
-/
namespace Go.Proofs.Ytnmgnonbgihalaa
open Go.RowKit RG

/-- The narrowest range after j looks. -/
def bestN (ls : List Int) (k : Nat) : Nat → Int × Int
  | 0 => (ls[0]?.getD 0, ls[k]?.getD 0)
  | j + 1 => if ls[j + k]?.getD 0 - ls[j]?.getD 0 < (bestN ls k j).2 - (bestN ls k j).1 then (ls[j]?.getD 0, ls[j + k]?.getD 0) else bestN ls k j
theorem bestN_bd {ls : List Int} (h : ∀ j : Nat, 0 ≤ ls[j]?.getD 0 ∧ ls[j]?.getD 0 ≤ 16000) (k : Nat) : ∀ j, (0 ≤ (bestN ls k j).1 ∧ (bestN ls k j).1 ≤ 16000) ∧ 0 ≤ (bestN ls k j).2 ∧ (bestN ls k j).2 ≤ 16000
  | 0 => ⟨h 0, h k⟩
  | j + 1 => by
    unfold bestN
    split
    · exact ⟨h j, h (j + k)⟩
    · exact bestN_bd h k j
theorem infoInt' : (Try.prog.info? 3).map (fun i => (i.zero, i.size, i.bytes)) = some (some (.int .i64 0), 1, 8) := by kernel_rfl
set_option maxRecDepth 100000 in
set_option maxHeartbeats 2000000 in
theorem narrowest_any (A : Option Addr) (n c k d : Nat) (ls : List Int) (w : World) (h : RdInts w A n ls) (hnk : n = k + 1 + d) (hn : n ≤ 100000) (hc : n ≤ c) (hls : ∀ j : Nat, 0 ≤ ls[j]?.getD 0 ∧ ls[j]?.getD 0 ≤ 16000) :
    Calls Try.prog 57 #[.slice A n c, .int .i64 ((k : Int) + 1)] w fun e w' => e = .returned (.agg #[.int .i64 (bestN ls k (d + 1)).1, .int .i64 (bestN ls k (d + 1)).2]) ∧ Below w.heap.size w w' := by
  obtain ⟨b, off, rfl, hlb, hcl⟩ := h.2 (by omega)
  have hcell := hide (fun W (hb : Below w.heap.size w W) (j : Nat) (hj : j < n) => show W.cell? ⟨b, off + j, none⟩ = some (.int .i64 (ls[j]?.getD 0)) from (cellB hb hlb).trans (hcl j hj))
  clear h hcl
  have hbd := hide (bestN_bd hls k)
  have hls' := hide hls
  have hst := hide (fun (j : Nat) => show bestN ls k (j + 1) = if ls[j + k]?.getD 0 - ls[j]?.getD 0 < (bestN ls k j).2 - (bestN ls k j).1 then (ls[j]?.getD 0, ls[j + k]?.getD 0) else bestN ls k j from rfl)
  have hb0 := hide (show bestN ls k 0 = (ls[0]?.getD 0, ls[k]?.getD 0) from rfl)
  obtain ⟨a0, ha0⟩ : ∃ z, ls[0]?.getD 0 = z := ⟨_, rfl⟩
  obtain ⟨b0, hb0'⟩ : ∃ z, ls[k]?.getD 0 = z := ⟨_, rfl⟩
  rw [ha0, hb0'] at hb0
  have hc0 := hide (fun W (hb : Below w.heap.size w W) => show W.cell? ⟨b, off, none⟩ = some (.int .i64 a0) from by have := hcell.out W hb 0 (by omega); rw [ha0] at this; exact this)
  have hck := hide (fun W (hb : Below w.heap.size w W) => show W.cell? ⟨b, off + k, none⟩ = some (.int .i64 b0) from by have := hcell.out W hb k (by omega); rw [hb0'] at this; exact this)
  clear ha0 hb0' hls
  obtain ⟨W, hW⟩ : ∃ y, w.alloc (.cells #[.int .i64 0, .int .i64 0] 25) = y := ⟨_, rfl⟩
  have bW := hide (show Blk W w.heap.size 25 #[.int .i64 0, .int .i64 0] by rw [← hW]; exact blkNew rfl)
  have hBW := hide (show Below w.heap.size w W by rw [← hW]; exact (Below.refl _ _).alloc (Nat.le_refl _) _)
  have hWs := hide (show W.heap.size = w.heap.size + 1 by rw [← hW]; simp)
  replace hW := hide hW
  have hw1 : IntKind.i64.wrap (k : Int) = (k : Int) := by rw [IntKind.wrap_i64]; omega
  have hk0 : 0 ≤ (k : Int) := by omega
  have hkn : (k : Int) < (n : Int) := by omega
  have hkn2 : k < n := by omega
  have hn0 : 0 < n := by omega
  have hn0z : (0 : Int) < (n : Int) := by omega
  have hwa : IntKind.i64.wrap ((n : Int) - ((k : Int) + 1)) = (d : Int) := by rw [IntKind.wrap_i64]; omega
  have hdc : d + 1 ≤ c := by omega
  replace hnk := hide hnk
  go_enter Try.func57, Try.ntmps57
  go_upto_region 1 with fail
  rw [hW.out]
  refine region_grow_tail 10 [IsV (.slice (some ⟨b, off, none⟩) n c), IsV (.pointer (some ⟨b, off, none⟩)), IsV (.int .i64 a0), IsV (.slice (some ⟨b, off, none⟩) n c), IsV (.int .i64 ((k : Int) + 1)), IsV (.int .i64 (k : Int)), IsV (.pointer (some ⟨b, off + k, none⟩)), IsV (.int .i64 b0), IsV (.agg #[.int .i64 a0, .int .i64 b0]), PtrB (w.heap.size + 1) 25 #[.int .i64 0, .int .i64 0]] (by kernel_rfl) (by kernel_rfl) rfl ?_ ?_ ?_
  · simp [AllStb, IsV.stb, PtrB.stb]
  · refine ⟨?_, ?_, ?_, ?_, ?_, ?_, ?_, ?_, ?_, ?_, trivial⟩
    all_goals
      intro y w6 K Qq Cv hC hd hV
      have hz6 := Nat.le_trans (Nat.le_of_eq hWs.out.symm) hC.size
      have q0 : w6.cell? ⟨b, off, none⟩ = some (.int .i64 a0) := hc0.out w6 (hBW.out.trans (hC.mono hBW.out.size))
      have q1 : w6.cell? ⟨b, off + k, none⟩ = some (.int .i64 b0) := hck.out w6 (hBW.out.trans (hC.mono hBW.out.size))
    · clear hd; simp only [List.take_succ_cons, List.take_zero, putAll, Act.put]; go_simp; intro hK; exact hK _ _ (hV _ _ hC (Below.refl _ _) rfl)
    · simp [deps, VL, IsV, Region.binds] at hd; simp only [List.take_succ_cons, List.take_zero, putAll, Act.put]; go_simp; intro hK; exact hK _ _ (hV _ _ hC (Below.refl _ _) rfl)
    · simp [deps, VL, IsV, Region.binds] at hd; simp only [List.take_succ_cons, List.take_zero, putAll, Act.put]; go_simp; intro hK; exact hK _ _ (hV _ _ hC (Below.refl _ _) rfl)
    · clear hd; simp only [List.take_succ_cons, List.take_zero, putAll, Act.put]; go_simp; intro hK; exact hK _ _ (hV _ _ hC (Below.refl _ _) rfl)
    · clear hd; simp only [List.take_succ_cons, List.take_zero, putAll, Act.put]; go_simp; intro hK; exact hK _ _ (hV _ _ hC (Below.refl _ _) rfl)
    · simp [deps, VL, IsV, Region.binds] at hd; simp only [List.take_succ_cons, List.take_zero, putAll, Act.put]; go_simp; intro hK; exact hK _ _ (hV _ _ hC (Below.refl _ _) rfl)
    · simp [deps, VL, IsV, Region.binds] at hd; simp only [List.take_succ_cons, List.take_zero, putAll, Act.put]; go_simp; intro hK; exact hK _ _ (hV _ _ hC (Below.refl _ _) rfl)
    · simp [deps, VL, IsV, Region.binds] at hd; simp only [List.take_succ_cons, List.take_zero, putAll, Act.put]; go_simp; intro hK; exact hK _ _ (hV _ _ hC (Below.refl _ _) rfl)
    · simp [deps, VL, IsV, Region.binds] at hd; simp only [List.take_succ_cons, List.take_zero, putAll, Act.put]; go_simp; intro hK; exact hK _ _ (hV _ _ hC (Below.refl _ _) rfl)
    · clear hd; simp only [List.take_succ_cons, List.take_zero, putAll, Act.put]; go_simp; intro hK; exact hK _ _ (hV _ _ (hC.alloc hC.size _) ((Below.refl _ _).alloc (Nat.le_refl _) _) ⟨_, rfl, hz6, blkNew rfl⟩)
  intro y w6 hC hd
  simp [EndsL, IsV] at hd
  obtain ⟨d0, d1, d2, d3, d4, d5, d6, d7, d8, ⟨p, d9, hp, kp⟩⟩ := hd
  have kr := hide (bW.out.below hC bW.out.lt)
  have hB6 := hide (hBW.out.trans (hC.mono hBW.out.size))
  simp only [List.take_succ_cons, List.take_zero, List.drop_succ_cons, List.drop_zero, putAll, Act.put]
  rw [d0, d1, d2, d3, d4, d5, d6, d7, d8, d9]
  clear d0 d1 d2 d3 d4 d5 d6 d7 d8 d9 hC
  simp only [List.setIfInBounds_toArray, List.set_cons_succ, List.set_cons_zero]
  have e0 : w6.cell? ⟨p, 0, none⟩ = some (.int .i64 0) := kp.cell 0
  have e1 : w6.cell? ⟨p, 1, none⟩ = some (.int .i64 0) := kp.cell 1
  have f0 := kp.frozen 0
  have f1 := kp.frozen 1
  obtain ⟨w7, hw7⟩ : ∃ x, (w6.setCell ⟨p, 0, none⟩ (.int .i64 a0)).setCell ⟨p, 1, none⟩ (.int .i64 b0) = x := ⟨_, rfl⟩
  have kp7 := hide (show Blk w7 p 25 #[.int .i64 a0, .int .i64 b0] by rw [← hw7]; exact (kp.set_ 0 _).set_ 1 _)
  have hrp : w.heap.size ≠ p := by omega
  have kr7 := hide (show Blk w7 w.heap.size 25 #[.int .i64 0, .int .i64 0] by rw [← hw7]; exact (kr.out.far (p := ⟨p, 0, none⟩) hrp _).far (p := ⟨p, 1, none⟩) hrp _)
  have hB7 := hide (show Below w.heap.size w w7 by rw [← hw7]; exact (hB6.out.setCell (p := ⟨p, 0, none⟩) (by show w.heap.size ≤ p; omega) _).setCell (p := ⟨p, 1, none⟩) (by show w.heap.size ≤ p; omega) _)
  replace hw7 := hide hw7
  replace hrp := hide hrp
  have hpl : w.heap.size ≤ p := by omega
  have hsl : (Instr.sliceAt 23 (.slice (some ⟨b, off, none⟩) n c) none (some (.int .i64 ((d : Int) + 1))) none).run Try.prog w7 = .ok (.slice (some ⟨b, off, none⟩) (d + 1) c) w7 := slice_hi Try.underlying23 infoInt' _ n c (d + 1) hdc w7
  have hwb : IntKind.i64.wrap ((d : Int) + 1) = (d : Int) + 1 := by have := hnk.out; rw [IntKind.wrap_i64]; omega
  clear kp kr hB6 hp
  go_upto_region 2 with fail
  rw [hw7.out]
  clear e0 e1 f0 f1 hw7
  go_wp2
  have hdb : d ≤ 100000 := by have := hnk.out; omega
  clear hsl hwa hwb hw1 hk0 hkn hkn2 hn0 hn0z hdc
  go_loopg [6, 7, 8, 26] (d + 2) (fun gg s6 s7 s8 s26 wr => ∃ j : Nat, j ≤ d + 1 ∧ d + 1 < gg + j ∧ s26 = .int .i64 j ∧ Hid (Blk wr p 25 #[.int .i64 (bestN ls k j).1, .int .i64 (bestN ls k j).2]) ∧ Hid (Blk wr w.heap.size 25 #[.int .i64 0, .int .i64 0]) ∧ Hid (Below w.heap.size w wr))
  case atStart => exact ⟨0, Nat.zero_le _, by omega, rfl, by rw [hb0.out]; exact kp7.out, kr7.out, hB7.out⟩
  case round =>
    clear kp7 kr7 hB7 hc0 hck hb0
    obtain ⟨j, hj, hgg, rfl, kp, kr, hBr⟩ := hrel
    by_cases hlt : j < d + 1
    · have hltz : (j : Int) < (d : Int) + 1 := by omega
      obtain ⟨jk, hjk⟩ : ∃ z, j + k = z := ⟨_, rfl⟩
      have hn2 := hnk.out
      have hjn : jk < n := by omega
      have hjnz : (jk : Int) < (n : Int) := by omega
      have hj0 : 0 ≤ (jk : Int) := by omega
      have c0 := hcell.out wr hBr.out j (by omega)
      have c1 := hcell.out wr hBr.out jk hjn
      have l0 := hls'.out j
      have l1 := hls'.out jk
      have hs := hst.out j
      rw [hjk] at hs
      have hbj := hbd.out j
      generalize ls[j]?.getD 0 = lo at *
      generalize ls[jk]?.getD 0 = hi at *
      obtain ⟨⟨b1, b2⟩, hbe⟩ : ∃ z, bestN ls k j = z := ⟨_, rfl⟩
      rw [hbe] at hs kp hbj
      simp only at hs kp hbj
      have hwj : IntKind.i64.wrap ((j : Int) + ((k : Int) + 1)) = (j : Int) + ((k : Int) + 1) := by rw [IntKind.wrap_i64]; omega
      have hwk : IntKind.i64.wrap ((j : Int) + ((k : Int) + 1) - 1) = (jk : Int) := by rw [IntKind.wrap_i64]; omega
      have hwd : IntKind.i64.wrap (hi - lo) = hi - lo := by rw [IntKind.wrap_i64]; omega
      have hwe : IntKind.i64.wrap (b2 - b1) = b2 - b1 := by rw [IntKind.wrap_i64]; omega
      have e0 : wr.cell? ⟨p, 0, none⟩ = some (.int .i64 b1) := kp.out.cell 0
      have e1 : wr.cell? ⟨p, 1, none⟩ = some (.int .i64 b2) := kp.out.cell 1
      have f0 := kp.out.frozen 0
      have f1 := kp.out.frozen 1
      replace hjk := hide hjk
      clear hn2 l0 l1 hbj
      by_cases hcmp : hi - lo < b2 - b1
      · rw [if_pos hcmp] at hs
        have m1 := (kp.out.set_ 0 (.int .i64 lo)).set_ 1 (.int .i64 hi)
        have hm1 := hide (show Blk ((wr.setCell ⟨p, 0, none⟩ (.int .i64 lo)).setCell ⟨p, 1, none⟩ (.int .i64 hi)) p 25 #[.int .i64 (bestN ls k (j + 1)).1, .int .i64 (bestN ls k (j + 1)).2] by rw [hs]; exact m1)
        have hm2 := hide ((kr.out.far (p := ⟨p, 0, none⟩) hrp.out (.int .i64 lo)).far (p := ⟨p, 1, none⟩) hrp.out (.int .i64 hi))
        have hm3 := hide ((hBr.out.setCell (p := ⟨p, 0, none⟩) hpl (.int .i64 lo)).setCell (p := ⟨p, 1, none⟩) hpl (.int .i64 hi))
        clear m1 hs
        go_wp2
        clear c0 c1 e0 e1 f0 f1
        go_roundg (d + 1 - j)
        case measure => omega
        case rel => exact ⟨j + 1, by omega, by omega, by go_num, hm1.out, hm2.out, hm3.out⟩
      · rw [if_neg hcmp] at hs
        have hm1 := hide (show Blk wr p 25 #[.int .i64 (bestN ls k (j + 1)).1, .int .i64 (bestN ls k (j + 1)).2] by rw [hs]; exact kp.out)
        clear hs
        go_wp2
        clear c0 c1 e0 e1 f0 f1
        go_roundg (d + 1 - j)
        case measure => omega
        case rel => exact ⟨j + 1, by omega, by omega, by go_num, hm1.out, kr.out, hBr.out⟩
    · obtain rfl : j = d + 1 := by omega
      have hltz : ¬ ((d : Int) + 1) < (d : Int) + 1 := by omega
      obtain ⟨⟨b1, b2⟩, hbe⟩ : ∃ z, bestN ls k (d + 1) = z := ⟨_, rfl⟩
      rw [hbe] at kp
      simp only at kp
      replace hbe := hide hbe
      have e0 : wr.cell? ⟨p, 0, none⟩ = some (.int .i64 b1) := kp.out.cell 0
      have e1 : wr.cell? ⟨p, 1, none⟩ = some (.int .i64 b2) := kp.out.cell 1
      have g0 : wr.cell? ⟨w.heap.size, 0, none⟩ = some (.int .i64 0) := kr.out.cell 0
      have g1 : wr.cell? ⟨w.heap.size, 1, none⟩ = some (.int .i64 0) := kr.out.cell 1
      have f0 := kr.out.frozen 0
      have f1 := kr.out.frozen 1
      have kR := (kr.out.set_ 0 (.int .i64 b1)).set_ 1 (.int .i64 b2)
      have q0 : World.cell? _ ⟨w.heap.size, 0, none⟩ = some (.int .i64 b1) := kR.cell 0
      have q1 : World.cell? _ ⟨w.heap.size, 1, none⟩ = some (.int .i64 b2) := kR.cell 1
      replace q0 := hide q0
      replace q1 := hide q1
      clear kR
      go_wp2
      refine bodyPost_ret (v := .agg #[.int .i64 b1, .int .i64 b2]) ?_ rfl ⟨by rw [hbe.out], ?_⟩
      · have q2 := q0.out
        have q3 := q1.out
        simp [results, Try.results57, go_sem, q2, q3]
      · exact (hBr.out.setCell (p := ⟨w.heap.size, 0, none⟩) (Nat.le_refl _) _).setCell (p := ⟨w.heap.size, 1, none⟩) (Nat.le_refl _) _
end Go.Proofs.Ytnmgnonbgihalaa

/-
  slices.Index, slices.Contains, how many questions two papers have in common.
-/
namespace Go.Proofs.Ytnmgnonbgihalaa
open Go.RowKit RG

theorem mem_at {xs : List Int} {x : Int} : x ∈ xs ↔ ∃ j, j < xs.length ∧ xs[j]?.getD 0 = x := by
  rw [List.mem_iff_getElem]
  constructor
  · rintro ⟨j, hj, rfl⟩; exact ⟨j, hj, by rw [List.getElem?_eq_getElem hj]; rfl⟩
  · rintro ⟨j, hj, h⟩; rw [List.getElem?_eq_getElem hj] at h; exact ⟨j, hj, h⟩
set_option maxHeartbeats 1000000 in
theorem Index_any (A : Option Addr) (n c : Nat) (xs : List Int) (x : Int) (w : World) (h : RdInts w A n xs) (hn : n ≤ maxLen) :
    Calls Try.prog 105 #[.slice A n c, .int .i64 x] w fun e w' => (∃ r : Int, e = .returned (.int .i64 r) ∧ (0 ≤ r ↔ x ∈ xs)) ∧ w' = w := by
  have hl := h.1
  unfold maxLen at hn
  have hcell := hide (fun j (hj : j < n) => show ∃ b off, A = some ⟨b, off, none⟩ ∧ w.cell? ⟨b, off + j, none⟩ = some (.int .i64 (xs[j]?.getD 0)) from by
    obtain ⟨b, off, e, _, hc⟩ := h.2 (by omega)
    exact ⟨b, off, e, hc j hj⟩)
  clear h
  go_enter Try.func105, Try.ntmps105
  go_wp2
  go_loopg [5, 8] (n + 1) (fun gg s5 s8 wr => ∃ k : Nat, k ≤ n ∧ n < gg + k ∧ s8 = .int .i64 k ∧ Hid (∀ j, j < k → xs[j]?.getD 0 ≠ x) ∧ wr = w)
  case atStart => exact ⟨0, Nat.zero_le _, by omega, rfl, fun j hj => by omega, rfl⟩
  case round =>
    obtain ⟨k, hk, hgg, rfl, hno, rfl⟩ := hrel
    by_cases hlt : k < n
    · have hltz : (k : Int) < (n : Int) := by omega
      obtain ⟨b, off, rfl, c0⟩ := hcell.out k hlt
      generalize hy : xs[k]?.getD 0 = y at *
      by_cases e : x = y
      · have e1 : (x == y) = true := by rw [beq_iff_eq]; exact e
        have hin : x ∈ xs := mem_at.2 ⟨k, by omega, by rw [hy, e]⟩
        replace hin := hide hin
        clear e hy
        go_wp2
        go_ret
        exact ⟨⟨k, rfl, fun _ => hin.out, fun _ => by omega⟩, rfl⟩
      · have e1 : (x == y) = false := by rw [beq_eq_false_iff_ne]; exact e
        have hno2 := hide (show ∀ j, j < k + 1 → xs[j]?.getD 0 ≠ x from fun j hj => by
          rcases Nat.lt_or_ge j k with h1 | h1
          · exact hno.out j h1
          · obtain rfl : j = k := by omega
            rw [hy]; exact fun h2 => e h2.symm)
        clear e hy
        go_wp2
        go_roundg (n - k)
        case measure => omega
        case rel => exact ⟨k + 1, by omega, by omega, by go_num, hno2.out, rfl⟩
    · obtain rfl : k = n := by omega
      have hltz : ¬ (k : Int) < (k : Int) := by omega
      have hni : ¬ x ∈ xs := fun hin => by
        obtain ⟨j, hj, e⟩ := mem_at.1 hin
        exact hno.out j (by omega) e
      replace hni := hide hni
      go_wp2
      go_ret
      exact ⟨⟨-1, rfl, fun h0 => by omega, fun hin => absurd hin hni.out⟩, rfl⟩
theorem Contains_any (A : Option Addr) (n c : Nat) (xs : List Int) (x : Int) (w : World) (h : RdInts w A n xs) (hn : n ≤ maxLen) :
    Calls Try.prog 93 #[.slice A n c, .int .i64 x] w fun e w' => e = .returned (.bool (decide (x ∈ xs))) ∧ w' = w := by
  have hi := hide (Index_any A n c xs x w h hn)
  clear h
  obtain ⟨q, hq⟩ : ∃ q, decide (x ∈ xs) = q := ⟨_, rfl⟩
  rw [hq]
  go_enter Try.func93, Try.ntmps93
  go_wp2_with fail
  refine hi.out.mono ?_
  rintro e w1 ⟨⟨r, rfl, hr⟩, rfl⟩
  have hq2 : decide (0 ≤ r) = q := by rw [← hq]; exact decide_eq_decide.2 hr
  clear hr hi
  cases q with
  | true =>
    have h2 : 0 ≤ r := of_decide_eq_true hq2
    clear hq hq2
    go_wp2
    go_ret
    exact ⟨rfl, rfl⟩
  | false =>
    have h2 : ¬ 0 ≤ r := of_decide_eq_false hq2
    clear hq hq2
    go_wp2
    go_ret
    exact ⟨congrArg (fun b => Ending.returned (.bool b)) (decide_eq_false (by omega)), rfl⟩
/-- How many of a list are in another one. -/
def commonP (xs ys : List Int) : Nat := xs.countP fun x => decide (x ∈ ys)
theorem common_step {xs ys : List Int} {k : Nat} (hk : k < xs.length) : commonP (xs.take (k + 1)) ys = commonP (xs.take k) ys + if decide (xs[k]?.getD 0 ∈ ys) = true then 1 else 0 := by
  unfold commonP
  rw [List.take_succ_eq_append_getElem hk, List.countP_append, List.getElem?_eq_getElem hk]
  simp
set_option maxHeartbeats 1000000 in
theorem common_any (A A2 : Option Addr) (n c n2 c2 : Nat) (xs ys : List Int) (w : World) (h : RdInts w A n xs) (hn : n ≤ maxLen) (h2 : RdInts w A2 n2 ys) (hn2 : n2 ≤ maxLen) :
    Calls Try.prog 85 #[.slice A n c, .slice A2 n2 c2] w fun e w' => e = .returned (.int .i64 (commonP xs ys : Nat)) ∧ w' = w := by
  have hl := h.1
  have hC := hide (fun x => Contains_any A2 n2 c2 ys x w h2 hn2)
  unfold maxLen at hn
  have hcell := hide (fun j (hj : j < n) => show ∃ b off, A = some ⟨b, off, none⟩ ∧ w.cell? ⟨b, off + j, none⟩ = some (.int .i64 (xs[j]?.getD 0)) from by
    obtain ⟨b, off, e, _, hc⟩ := h.2 (by omega)
    exact ⟨b, off, e, hc j hj⟩)
  have hend : commonP xs ys = commonP (xs.take n) ys := by rw [← hl, List.take_length]
  have hstep := hide (fun k (hk : k < n) => common_step (xs := xs) (ys := ys) (k := k) (by omega))
  have hle := hide (fun k => show commonP (xs.take k) ys ≤ k from by
    have h5 : commonP (xs.take k) ys ≤ (xs.take k).length := List.countP_le_length
    rw [List.length_take] at h5
    omega)
  rw [hend]
  clear h h2 hend hn2
  go_enter Try.func85, Try.ntmps85
  go_wp2
  go_loopg [5, 7, 10] (n + 1) (fun gg s5 s7 s10 wr => ∃ k m : Nat, k ≤ n ∧ n < gg + k ∧ s10 = .int .i64 k ∧ s5 = .int .i64 m ∧ Hid (commonP (xs.take k) ys = m) ∧ wr = w)
  case atStart => exact ⟨0, 0, Nat.zero_le _, by omega, rfl, rfl, rfl, rfl⟩
  case round =>
    obtain ⟨k, m, hk, hgg, rfl, rfl, hm, rfl⟩ := hrel
    by_cases hlt : k < n
    · have hltz : (k : Int) < (n : Int) := by omega
      obtain ⟨b, off, rfl, c0⟩ := hcell.out k hlt
      have hs := hstep.out k hlt
      rw [hm.out] at hs
      have hb := hle.out k
      rw [hm.out] at hb
      generalize xs[k]?.getD 0 = y at *
      have hCy := hide (hC.out y)
      generalize decide (y ∈ ys) = q at *
      have hmw : IntKind.i64.wrap ((m : Int) + 1) = (m : Int) + 1 := by rw [IntKind.wrap_i64]; omega
      replace hs := hide hs
      go_wp2_with fail
      refine hCy.out.mono ?_
      rintro e w1 ⟨rfl, rfl⟩
      clear hCy c0
      cases q with
      | true =>
        go_wp2
        go_roundg (n - k)
        case measure => omega
        case rel => exact ⟨k + 1, m + 1, by omega, by omega, by go_num, by go_num, by have h6 := hs.out; simp at h6; exact h6, rfl⟩
      | false =>
        go_wp2
        go_roundg (n - k)
        case measure => omega
        case rel => exact ⟨k + 1, m, by omega, by omega, by go_num, rfl, by have h6 := hs.out; simp at h6; exact h6, rfl⟩
    · obtain rfl : k = n := by omega
      have hltz : ¬ (k : Int) < (k : Int) := by omega
      go_wp2
      go_ret
      exact ⟨by rw [hm.out]; rfl, rfl⟩
end Go.Proofs.Ytnmgnonbgihalaa

/-
  Who gets which paper in a hall, as functions; the levels in order. Of no program.
-/
namespace Go.Proofs.Ytnmgnonbgihalaa

/-- Whether a paper is too much alike with that of a neighbour before a seat. -/
def alikeP (hs : Nat) (hc : Int) (ps : List (List Int)) (seat : Nat) (x : List Int) : Bool := (nbF hs seat ++ nbS hs seat).any fun j => decide (hc < (commonP (ps[j]?.getD []) x : Nat))
/-- The first paper from a number on that fits. -/
def findP (all : List (List Int)) (f : List Int → Bool) (m : Nat) : Nat → Nat → Option (List Int)
  | 0, _ => none
  | r + 1, i => if f (all[(m + i) % all.length]?.getD []) = true then some (all[(m + i) % all.length]?.getD []) else findP all f m r (i + 1)
/-- The papers of the seats, one by one. -/
def drawP (all : List (List Int)) (hs : Nat) (hc : Int) : List Nat → List (List Int) → Option (List (List Int))
  | [], dr => some dr
  | m :: ms, dr => match findP all (fun x => !alikeP hs hc dr dr.length x) m all.length 0 with
    | none => none
    | some x => drawP all hs hc ms (dr ++ [x])
def papersI (B : Bank) : List (List Int) := (papers B).map ints
def drawE (B : Bank) (hr hs hc : Int) (ms : List Int) : Int :=
  if enterE B hr hs hc ms.length ≠ 0 then enterE B hr hs hc ms.length
  else if ms.all (fun m => inB 0 1000000000 m) = false then 7
  else if (papers B).length = 0 then 4
  else if drawP (papersI B) hs.toNat hc (ms.map Int.toNat) [] = none then 9 else 0
def drawR (B : Bank) (hr hs hc : Int) (ms : List Int) : List (List Int) :=
  if drawE B hr hs hc ms = 0 then (drawP (papersI B) hs.toNat hc (ms.map Int.toNat) []).getD [] else []
/-- The first seat with an error. -/
def accF (B : Bank) (hs : Nat) (hc : Int) (ps : List (List Int)) (seat : Nat) : Int :=
  if isP B (ps[seat]?.getD []) = false then 6 else if alikeP hs hc ps seat (ps[seat]?.getD []) = true then 5 else 0
def acceptP (B : Bank) (hr hs hc : Int) (ps : List (List Int)) : Int × Int :=
  if enterE B hr hs hc ps.length ≠ 0 then (0, enterE B hr hs hc ps.length) else fErr (accF B hs.toNat hc ps) 0 ps.length
/-- Numbers in order. -/
def sortI (l : List Int) : List Int := l.mergeSort fun x y => decide (x ≤ y)
theorem sortI_len (l : List Int) : (sortI l).length = l.length := List.length_mergeSort l
def levelsP (B : Bank) : List Int := levB B B.qs.length 0 (start4 B) 0
theorem levelsP_len (B : Bank) : (levelsP B).length = (papers B).length := by unfold levelsP levB papers; rw [List.length_map]
def fairE (B : Bank) (many : Int) : Int := if errP B ≠ 0 then errP B else if many < 1 then 7 else if ((papers B).length : Int) < many then 9 else 0
def fairV (B : Bank) (many : Int) : Int × Int := if fairE B many = 0 then bestN (sortI (levelsP B)) (many.toNat - 1) ((papers B).length - many.toNat + 1) else (0, 0)
theorem lev_bd {B : Bank} (hB : BankOk B) : ∀ (q : List Nat), 0 ≤ lev B q ∧ lev B q ≤ 1000 * q.length
  | [] => by simp [lev]
  | x :: q => by
    have h1 := wAt_bd hB x
    have h2 := lev_bd hB q
    rw [lev_cons, List.length_cons]
    omega
theorem levelsP_bd {B : Bank} (hB : BankOk B) : ∀ x ∈ levelsP B, 0 ≤ x ∧ x ≤ 16000 := by
  intro x hx
  obtain ⟨q, hq, rfl⟩ := List.mem_map.1 hx
  have h1 := lev_bd hB q
  have h2 := (mem_papersB (part4 hB) (part0 hB) B.qs.length 0 (start4 B) 0 q (Nat.zero_add _) (start4_len hB.nw.2)).1 hq
  have h3 : q.length ≤ B.qs.length := sub_len h2
  have h4 := hB.nq
  omega
theorem sortI_bd {B : Bank} (hB : BankOk B) (j : Nat) : 0 ≤ (sortI (levelsP B))[j]?.getD 0 ∧ (sortI (levelsP B))[j]?.getD 0 ≤ 16000 := by
  by_cases h : j < (sortI (levelsP B)).length
  · rw [List.getElem?_eq_getElem h, Option.getD_some]
    exact levelsP_bd hB _ (List.mem_mergeSort.1 (List.getElem_mem h))
  · rw [List.getElem?_eq_none (by omega)]
    decide
end Go.Proofs.Ytnmgnonbgihalaa

/-
  slices.Sort over a row of numbers of one's own.
-/
namespace Go.Proofs.Ytnmgnonbgihalaa
open Go.RowKit Go.Sort RG

theorem iCells_flat (xs : List Int) : (xs.map iCells).flatten = xs.map (Value.int .i64) := by
  induction xs with
  | nil => rfl
  | cons x xs ih => rw [List.map_cons, List.flatten_cons, ih]; rfl
theorem iCells_len (xs : List Int) : ∀ x ∈ xs.map iCells, x.length = 1 := by
  intro x hx
  obtain ⟨y, _, rfl⟩ := List.mem_map.1 hx
  rfl
theorem Sort_own {W : World} {X : Nat → Prop} {v : Value} {xs : List Int} (h : RowAt W X 3 1 v (xs.map iCells)) (hn : 0 < xs.length) (hl : xs.length ≤ 100000) :
    Calls Try.prog 81 #[v] W fun e w' => e = .returned (.tuple #[]) ∧ RowAt w' X 3 1 v ((sortI xs).map iCells) ∧ KeptX (fun g => g < W.heap.size ∧ v.ownBlock ≠ some g) W w' := by
  rcases h.2 with ⟨_, h0⟩ | ⟨g, cap, cur, rfl, hX, hk, h1, h2, h3, h4⟩
  · have := congrArg List.length h0; simp at this; subst this; simp at hn
  · rw [iCells_flat, List.length_map, Nat.mul_one] at h4
    rw [List.length_map] at h1 ⊢
    have hH : Holds (Value.int .i64) W g 0 xs.toArray := holds_of_blockI hk h4
    refine (show Calls Try.prog 81 _ W _ from calls_of_every_depth fun D => AnyS.slices_Sort_int_in Try.lays189 D g 0 cap xs W hH hk.lt (by omega)).mono ?_
    rintro e w' ⟨rfl, n, os, rfl⟩
    refine ⟨rfl, ⟨iCells_len _, .inr ⟨g, cap, _, by rw [List.length_map, sortI_len], hX, heap_sortedI _ hk, by rw [List.length_map, sortI_len]; exact h1, h2, by simp [Sort.putCells, h3], ?_⟩⟩, ?_⟩
    · rw [iCells_flat, List.length_map, Nat.mul_one]
      exact take_putCellsI cur (sortI xs) (by rw [sortI_len, h3]; omega)
    · have hg := grownBy_sortedI (w := W) (g := g) (n := n) (os := os) (xs.mergeSort fun x y => decide (x ≤ y)).toArray
      exact ⟨hg.os, hg.tape, hg.output, hg.size, fun k hk' => hg.block k hk'.1 (fun e => hk'.2 (by rw [e]; rfl))⟩
end Go.Proofs.Ytnmgnonbgihalaa

/-
  What the search for the levels keeps.
-/
namespace Go.Proofs.Ytnmgnonbgihalaa
open Go.RowKit RG

/-- How many stands a search gets to know, at most. -/
def capF : Nat → Nat
  | 0 => 0
  | r + 1 => capN (r + 1) + 2 * capF r
theorem capF_pow : ∀ r, capF r ≤ 4 ^ r
  | 0 => by decide
  | r + 1 => by
    have h1 := capF_pow r
    have h2 := capN_pow (r + 1)
    have h3 : 2 ^ r ≤ 4 ^ r := Nat.pow_le_pow_left (by decide) r
    rw [capF, Nat.pow_succ]
    rw [Nat.pow_succ] at h2
    omega
theorem capF_le {r : Nat} (h : r ≤ 16) : capF r ≤ 2 ^ 32 := Nat.le_trans (capF_pow r) (Nat.le_trans (Nat.pow_le_pow_right (n := 4) (by decide) h) (by decide))
def vwA (Q Wd : Option Addr) (cq cw gw cg gl M : Nat) (B : Bank) : Array Value := #[.slice Q B.qs.length cq, .slice Wd B.wanted.length cw, .int .i64 B.lo, .int .i64 B.hi, .slice (some ⟨gw, 0, none⟩) B.qs.length cg, .slice (some ⟨gl, 0, none⟩) (B.qs.length + 1) (B.qs.length + 1), .map (some M)]
def findV (n0 : Nat) : Value := .func (.func 80) #[] #[.pointer (some ⟨n0, 0, none⟩), .pointer (some ⟨n0 + 1, 0, none⟩), .pointer (some ⟨n0 + 2, 0, none⟩)]
/-- The memory of the search: the view, the levels so far, the search itself. -/
structure Fnd (w0 w : World) (n0 M : Nat) (B : Bank) (V : Array Value) (m : Nat) (pre : List Int) (sv : Value) : Prop where
  e0 : w0.heap.size = n0
  kw : KeptM n0 M w0 w
  sz : n0 + 3 ≤ w.heap.size
  bv : Blk w n0 85 V
  bl : Blk w (n0 + 1) 23 #[sv]
  bf : Blk w (n0 + 2) 118 #[findV n0]
  row : RowAt w (fun g => g < n0 + 3) 3 1 sv (pre.map iCells)
  kn : KnownM w M B m
  hM : M < n0
/-- What a step of it keeps. -/
structure Stp (M n0 : Nat) (w : World) (sv : Value) (w' : World) (sv' : Value) : Prop where
  kx : KeptX (fun g => g < w.heap.size ∧ g ≠ M ∧ g ≠ n0 + 1 ∧ sv.ownBlock ≠ some g) w w'
  ow : ∀ g, sv'.ownBlock = some g → sv.ownBlock = some g ∨ w.heap.size ≤ g
section
variable {w0 w w' w'' : World} {n0 M m m' : Nat} {B : Bank} {V : Array Value} {pre : List Int} {sv sv' sv'' : Value}
theorem Stp.below (h : Below w.heap.size w w') : Stp M n0 w sv w' sv := ⟨⟨h.os, h.tape, h.output, h.size, fun _ hg => h.block _ hg.1⟩, fun _ hg => .inl hg⟩
theorem Stp.keptM (h : KeptM w.heap.size M w w') : Stp M n0 w sv w' sv := ⟨KeptX.mono h fun _ hg => ⟨hg.1, hg.2.1⟩, fun _ hg => .inl hg⟩
theorem Stp.trans (h : Stp M n0 w sv w' sv') (k : Stp M n0 w' sv' w'' sv'') : Stp M n0 w sv w'' sv'' := by
  refine ⟨h.kx.trans (k.kx.mono fun g hg => ⟨Nat.lt_of_lt_of_le hg.1 h.kx.size, hg.2.1, hg.2.2.1, fun e => ?_⟩), fun g hg => ?_⟩
  · rcases h.ow g e with e | e
    · exact hg.2.2.2 e
    · exact absurd hg.1 (by omega)
  · rcases k.ow g hg with e | e
    · exact h.ow g e
    · exact .inr (Nat.le_trans h.kx.size e)
theorem Stp.blk {g : Nat} {t : TypeId} {cs : Array Value} (h : Stp M n0 w sv w' sv') (hb : Blk w g t cs) (h1 : g ≠ M) (h2 : g ≠ n0 + 1) (h3 : sv.ownBlock ≠ some g) : Blk w' g t cs := KeptX.blk h.kx ⟨hb.lt, h1, h2, h3⟩ hb
theorem Fnd.below (h : Fnd w0 w n0 M B V m pre sv) (hb : Below w.heap.size w w') : Fnd w0 w' n0 M B V m pre sv :=
  ⟨h.e0, h.kw.trans (KeptM.of_below (hb.mono (by have := h.sz; omega))), Nat.le_trans h.sz hb.size, h.bv.below hb h.bv.lt, h.bl.below hb h.bl.lt, h.bf.below hb h.bf.lt, h.row.below hb, h.kn.below hb, h.hM⟩
theorem Fnd.keptM (h : Fnd w0 w n0 M B V m pre sv) (hb : KeptM w.heap.size M w w') (hk : KnownM w' M B m') : Fnd w0 w' n0 M B V m' pre sv := by
  have hM := h.hM
  have hs := h.sz
  refine ⟨h.e0, h.kw.trans (KeptM.mono hb (by omega)), Nat.le_trans h.sz hb.size, hb.blk ⟨h.bv.lt, by omega⟩ h.bv, hb.blk ⟨h.bl.lt, by omega⟩ h.bl, hb.blk ⟨h.bf.lt, by omega⟩ h.bf, h.row.kept hb fun g hg => ⟨h.row.lt hg, fun e => ?_⟩, hk, h.hM⟩
  subst e
  exact h.row.not _ hg (by omega)
theorem Fnd.more (h : Fnd w0 w n0 M B V m pre sv) (hm : m ≤ m') : Fnd w0 w n0 M B V m' pre sv := ⟨h.e0, h.kw, h.sz, h.bv, h.bl, h.bf, h.row, h.kn.more hm, h.hM⟩
/-- A level more. -/
theorem Fnd.push (h : Fnd w0 w n0 M B V m pre sv) (x : Int) (hl : pre.length ≤ 900000) : ∃ v' w4, (Builtin.append_ #[23, 23] 23 #[sv, .slice (some ⟨w.heap.size, 0, none⟩) 1 1]).run Try.prog (w.alloc (.cells #[.int .i64 x] 3)) = .ok v' w4 ∧
    w4.frozen? ⟨n0 + 1, 0, none⟩ = false ∧ (w4.cell? ⟨n0 + 1, 0, none⟩ = some sv) ∧ Fnd w0 (w4.setCell ⟨n0 + 1, 0, none⟩ v') n0 M B V m (pre ++ [x]) v' ∧ Stp M n0 w sv (w4.setCell ⟨n0 + 1, 0, none⟩ v') v' := by
  have hs := h.sz
  have hM := h.hM
  have hX : RowAt w (fun g => g < w.heap.size ∧ sv.ownBlock ≠ some g) 3 1 sv (pre.map iCells) := h.row.mono fun g hg hx => hx.2 hg
  obtain ⟨v', w4, h1, h2, h3, -⟩ := app_int hX (fun g hg => hg.1) (by omega) x
  have ho : ∀ g, g < n0 + 3 → sv.ownBlock ≠ some g := fun g hg e => h.row.not g e hg
  have hv' : ∀ g, g < n0 + 3 → v'.ownBlock ≠ some g := fun g hg e => h2.not g e ⟨by omega, ho g hg⟩
  have hk : KeptX (fun g => g < w.heap.size ∧ g ≠ M ∧ g ≠ n0 + 1 ∧ sv.ownBlock ≠ some g) w (w4.setCell ⟨n0 + 1, 0, none⟩ v') := (h3.mono fun g hg => ⟨hg.1, hg.2.2.2⟩).trans (KeptX.setCell _ (fun hx => hx.2.2.1 rfl) _)
  have hl4 : Blk w4 (n0 + 1) 23 #[sv] := h3.blk ⟨h.bl.lt, ho _ (by omega)⟩ h.bl
  refine ⟨v', w4, h1, hl4.frozen 0, hl4.cell 0, ⟨h.e0, ?_, ?_, ?_, ?_, ?_, ?_, ?_, hM⟩, hk, fun g hg => ?_⟩
  · exact h.kw.trans (hk.mono fun g hg => ⟨by omega, hg.2, by omega, ho g (by omega)⟩)
  · exact Nat.le_trans hs hk.size
  · exact hk.blk ⟨h.bv.lt, by omega, by omega, ho _ (by omega)⟩ h.bv
  · exact hl4.set_ 0 v'
  · exact hk.blk ⟨h.bf.lt, by omega, by omega, ho _ (by omega)⟩ h.bf
  · refine (h2.far (p := ⟨n0 + 1, 0, none⟩) (hv' (n0 + 1) (by omega)) v').mono fun g hg hlt => hv' g hlt hg
  · refine (h.kn.blk (h3.block M ⟨by omega, ho _ (by omega)⟩)).blk (Below.heap_setCell w4 ⟨n0 + 1, 0, none⟩ v' M (by show M ≠ n0 + 1; omega))
  · by_cases e : sv.ownBlock = some g
    · exact .inl e
    · exact .inr (by
        have := h2.not g hg
        by_cases hlt : g < w.heap.size
        · exact absurd ⟨hlt, e⟩ this
        · omega)
end
end Go.Proofs.Ytnmgnonbgihalaa
