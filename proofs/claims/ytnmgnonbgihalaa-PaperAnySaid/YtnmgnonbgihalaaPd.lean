import Derived.Test.YtnmgnonbgihalaaPc
/-
  slices.Backward over the questions of a bank.
-/
namespace Go.Proofs.Ytnmgnonbgihalaa
open Go.RowKit Go.Shelf RG
attribute [local go_sem] Oper.semAt_some

/-- The first k questions from behind, with their indices. -/
def bk (B : Bank) : Nat → List (Nat × Qn)
  | 0 => []
  | k + 1 => bk B k ++ [(B.qs.length - 1 - k, B.qs[B.qs.length - 1 - k]?.getD default)]
def encQ (x : Nat × Qn) : Array Value := #[.int .i64 x.1, .agg (qCells x.2).toArray]
theorem bk_len (B : Bank) : ∀ k, (bk B k).length = k
  | 0 => rfl
  | k + 1 => by rw [bk, List.length_append, bk_len B k]; rfl
theorem bk_inj {B : Bank} {i j : Nat} (h : bk B i = bk B j) : i = j := by have := congrArg List.length h; rwa [bk_len, bk_len] at this

set_option maxRecDepth 100000 in
set_option maxHeartbeats 2000000 in
theorem back_in (n l cp cap : Nat) (A : Option Addr) (B : Bank) (hn : B.qs.length ≤ 16) (J Jx : List (Nat × Qn) → World → Prop) (W : World)
    (hRd : ∀ i X, J (bk B i) X → X.cell? ⟨cp, 0, none⟩ = some (.slice A B.qs.length cap) ∧ RdRow X A B.qs.length 3 (B.qs.map qCells))
    (hY : ∀ j X, j < B.qs.length → J (bk B j) X → YieldAt Fence.wide (n - 1) Try.prog l (encQ (B.qs.length - 1 - j, B.qs[B.qs.length - 1 - j]?.getD default)) X fun e W' => (e = .returned (.bool true) ∧ J (bk B (j + 1)) W') ∨ (e = .returned (.bool false) ∧ Jx (bk B (j + 1)) W'))
    (h0 : J [] W) :
    CallsIn Fence.wide n Try.prog 86 #[.func (.yield l) #[] #[], .pointer (some ⟨cp, 0, none⟩)] W fun e W' => (∃ v, e = .returned v) ∧ (J (bk B B.qs.length) W' ∨ ∃ j, j ≤ B.qs.length ∧ Jx (bk B j) W') := by
  have hc0 := (hRd 0 W h0).1
  replace hRd := hide hRd
  replace hY := hide hY
  obtain ⟨m, hm⟩ : ∃ m, B.qs.length = m := ⟨_, rfl⟩
  rw [hm] at hn hc0 ⊢
  refine callsIn_of_wp Try.func86 rfl trivial ?_ rfl
  simp only [Try.ntmps86, List.size_toArray, List.length_cons, List.length_nil, Nat.reduceAdd, Nat.reduceSub, Array.replicate_succ, Array.replicate_zero, List.push_toArray, List.append_toArray, List.nil_append, List.cons_append]
  gi_wp2
  clear hc0
  gi_loopw [3] (fun i wr => ∃ k : Nat, k ≤ m ∧ i = .int .i64 ((m : Int) - 1 - k) ∧ Hid (J (bk B k) wr))
    (fun i _ => (intOf i + 1).toNat)
  case atStart => exact ⟨0, Nat.zero_le _, by go_num, h0⟩
  case round =>
    obtain ⟨k, hkm, rfl, hJs⟩ := hrel
    by_cases hlt : k < m
    · have hltz : 0 ≤ (m : Int) - 1 - (k : Int) := by omega
      obtain ⟨c0, hrow⟩ := hRd.out k wr hJs.out
      rw [hm] at c0 hrow
      obtain ⟨i, hi⟩ : ∃ i : Nat, m - 1 - k = i := ⟨_, rfl⟩
      have hie : (m : Int) - 1 - (k : Int) = (i : Int) := by omega
      rw [hie] at hltz ⊢
      obtain ⟨b, off, x0, x1, x2, rfl, hbl, hx, y0, y1, y2⟩ := hrow.cells3 (j := i) (by omega)
      have hy0 := hY.out k wr (by omega) hJs.out
      rw [hm, hi] at hy0
      rw [map_at qCells _ _ (by omega)] at hx
      have henc : encQ (i, B.qs[i]?.getD default) = #[.int .i64 i, .agg #[x0, x1, x2]] := by unfold encQ; rw [hx]
      rw [henc] at hy0
      obtain ⟨fn, tmps, assign, body, hy, hR⟩ := hy0
      have him : i < m := by omega
      have himz : (i : Int) < (m : Int) := by omega
      clear hrow hx henc
      replace hi := hide hi
      gi_wp2
      refine ⟨fun h => absurd h (by decide), ?_⟩
      refine hR.mono ?_
      clear hR hy
      rintro e W3 (⟨rfl, hJ3⟩ | ⟨rfl, hJx3⟩)
      · replace hJ3 := hide hJ3
        clear c0 y0 y1 y2
        gi_wp2
        go_roundw
        case rel => exact ⟨k + 1, by omega, by have := hi.out; go_num, hJ3.out⟩
        case measure => simp [intOf]
      · replace hJx3 := hide hJx3
        clear c0 y0 y1 y2
        gi_wp2
        refine bodyPost_ret (results_none rfl _ _ _) rfl ?_
        exact ⟨⟨_, rfl⟩, .inr ⟨k + 1, by omega, hJx3.out⟩⟩
    · obtain rfl : k = m := by omega
      have hltz : ¬ (0 : Int) ≤ (k : Int) - 1 - (k : Int) := by omega
      gi_wp2
      go_end0
      exact ⟨⟨_, rfl⟩, .inl hJs.out⟩
end Go.Proofs.Ytnmgnonbgihalaa
