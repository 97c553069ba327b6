/-
  The reference's Least.
-/
import Derived.Test.YtjfdfhnfcpfmcaaGreatDoorRefT
namespace Go.Proofs.YtjfdfhnfcpfmcaaGreatDoor
open Go.RowKit RG

theorem openF_pair (S : Sys) (ra rb : List (Int × Int)) : openF S [ra, rb] = if openF S [ra] = 0 then openF S [rb] else openF S [ra] := by
  unfold openF
  by_cases h : (checkF S).2.2 = 0
  · simp only [if_pos h, listsF]
    by_cases h1 : rightsF S.cs.length S.codes.length ra = 0 <;> by_cases h2 : rightsF S.cs.length S.codes.length rb = 0 <;> simp [h1, h2]
  · simp only [if_neg h]
theorem isRts_nil_ (w : World) : IsRts [] (.slice none 0 0) w := ⟨none, 0, rfl, ⟨RdRow.nil _ _ _, by unfold maxLen; simp⟩⟩
theorem Least_W (A A2 R : Option Addr) (cc c2 cr : Nat) (S : Sys) (rs : List (Int × Int)) (w : World) (h : InMem w A A2 cc c2 S) (hr : RdRts w R rs.length rs) :
    Calls Tryz.prog 36 #[.agg #[.slice A S.cs.length cc, .slice A2 S.codes.length c2], .slice R rs.length cr] w fun e w' =>
      (∃ v L, e = .returned (.tuple #[v, .int .i64 (openF S [rs])]) ∧ IsRts L v w' ∧ (openF S [rs] = 0 → FormP S.cs S.cs.length (· ∈ rs) L) ∧ (openF S [rs] ≠ 0 → L = [])) ∧ Below w.heap.size w w' := by
  refine (Least_E A A2 R cc c2 cr S rs w h hr).mono ?_
  rintro e w' ⟨h1 | ⟨h1, v, L, rfl, hf, hv⟩, hb⟩
  · exact ⟨⟨_, [], h1.2, isRts_nil_ _, fun h => absurd h h1.1, fun _ => rfl⟩, hb⟩
  · exact ⟨⟨v, L, by rw [h1], hv, fun _ => hf, fun h => absurd h1 h⟩, hb⟩
set_option maxRecDepth 100000 in
set_option maxHeartbeats 2000000 in
theorem RLeast_any (A A2 R : Option Addr) (cc c2 cr : Nat) (S : Sys) (rs : List (Int × Int)) (w : World) (h : InMem w A A2 cc c2 S) (hr : RdRts w R rs.length rs) :
    Calls Tryz.prog 37 #[.agg #[.slice A S.cs.length cc, .slice A2 S.codes.length c2], .slice R rs.length cr] w fun e w' =>
      (∃ v, e = .returned (.tuple #[v, .int .i64 (openF S [rs])]) ∧ ∃ L, IsRts L v w' ∧ (openF S [rs] = 0 → FormP S.cs S.cs.length (· ∈ rs) L) ∧ (openF S [rs] ≠ 0 → L = [])) ∧ Below w.heap.size w w' := by
  have hB := hide ((Below.refl w.heap.size w).alloc (Nat.le_refl _) (.cells #[.slice A S.cs.length cc, .slice A2 S.codes.length c2] 38))
  have hS := hide (Blk.new_ (w := w) (g := w.heap.size) (t := 38) (cs := #[.slice A S.cs.length cc, .slice A2 S.codes.length c2]) rfl)
  have hask := hide (fun W (hb : Below w.heap.size w W) => askedR_any A A2 R cc c2 cr S rs W (h.below hb) (hr.below hb))
  have hform := hide (fun (h0 : openF S [rs] = 0) W (hb : Below w.heap.size w W) => FormR_any A A2 R cc c2 cr S rs W (openF_good h0).1 (h.below hb) (hr.below hb) ((openF_good h0).2 rs (List.mem_singleton.2 rfl)).all (by have := ((openF_good h0).2 rs (List.mem_singleton.2 rfl)).1; omega))
  clear h hr
  generalize hq : openF S [rs] = q at *
  clear hq
  generalize FormP S.cs S.cs.length (· ∈ rs) = FP at *
  generalize S.cs.length = n at *
  generalize S.codes.length = n2 at *
  generalize rs.length = m at *
  go_enter Tryz.func37, Tryz.ntmps37
  go_wp2_with fail
  generalize w.alloc (.cells #[.slice A n cc, .slice A2 n2 c2] 38) = w0 at *
  refine (hask.out _ hB.out).mono ?_
  rintro e w1 ⟨rfl, hb⟩
  replace hS := hide (hS.out.below hb hS.out.lt)
  replace hB := hide (hB.out.trans (hb.mono hB.out.size))
  clear hb hask
  by_cases h0 : q = 0
  · subst h0
    have s0 : w1.cell? ⟨w.heap.size, 0, none⟩ = some (.slice A n cc) := hS.out.cell 0
    have s1 : w1.cell? ⟨w.heap.size, 1, none⟩ = some (.slice A2 n2 c2) := hS.out.cell 1
    go_wp2_with fail
    refine (hform.out trivial _ hB.out).mono ?_
    rintro e w2 ⟨⟨v, rfl, L, hL, hv, _⟩, hb⟩
    replace hB := hide (hB.out.trans (hb.mono hB.out.size))
    replace hL := hide hL
    replace hv := hide hv
    clear hb hS s0 s1
    go_wp2
    go_ret2
    exact ⟨⟨v, rfl, L, hv.out, hL.out⟩, hB.out⟩
  · have hb2 : (q != 0) = true := by rw [bne_iff_ne]; exact h0
    replace h0 := hide h0
    clear hform hS
    go_wp2
    go_ret2
    exact ⟨⟨_, rfl, [], isRts_nil_ _, fun h => absurd h h0.out, fun _ => rfl⟩, hB.out⟩
end Go.Proofs.YtjfdfhnfcpfmcaaGreatDoor
