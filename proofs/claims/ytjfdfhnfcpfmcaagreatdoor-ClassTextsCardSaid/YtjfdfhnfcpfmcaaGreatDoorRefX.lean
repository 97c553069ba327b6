/-
  The reference's Write; how Read goes on, word by word.
-/
import Derived.Test.YtjfdfhnfcpfmcaaGreatDoorRefQ
namespace Go.Proofs.YtjfdfhnfcpfmcaaGreatDoor
open Go.RowKit RG

theorem readQ_snoc {S : Sys} : ∀ {ws : List ByteArray} {L : List (Int × Nat)} {x : Int × Nat} {v : ByteArray}, readQ S ws = some L → rightQ S (splitL 46 v) = some x → readQ S (ws ++ [v]) = some (L ++ [x])
  | [], L, x, v, h1, h2 => by
    simp only [readQ] at h1
    cases h1
    simp only [List.nil_append, readQ, h2, Option.map]
  | u :: ws, L, x, v, h1, h2 => by
    simp only [readQ] at h1
    simp only [List.cons_append, readQ]
    cases e : rightQ S (splitL 46 u) with
    | none => rw [e] at h1; cases h1
    | some y =>
      rw [e] at h1
      simp only at h1 ⊢
      cases e2 : readQ S ws with
      | none => rw [e2] at h1; cases h1
      | some M =>
        rw [e2] at h1
        simp only [Option.map] at h1
        cases h1
        rw [readQ_snoc e2 h2]
        rfl
theorem readQ_bad {S : Sys} : ∀ {ws : List ByteArray} {i : Nat} (h : i < ws.length), rightQ S (splitL 46 ws[i]) = none → readQ S ws = none
  | u :: ws, 0, h, h2 => by
    simp only [List.getElem_cons_zero] at h2
    simp only [readQ, h2]
  | u :: ws, i + 1, h, h2 => by
    simp only [List.getElem_cons_succ] at h2
    simp only [readQ]
    cases e : rightQ S (splitL 46 u) with
    | none => rfl
    | some y =>
      simp only
      rw [readQ_bad (by simpa using h) h2]
      rfl
theorem readQ_len {S : Sys} : ∀ {ws : List ByteArray} {L : List (Int × Nat)}, readQ S ws = some L → L.length = ws.length
  | [], L, h => by simp only [readQ] at h; cases h; rfl
  | u :: ws, L, h => by
    simp only [readQ] at h
    cases e : rightQ S (splitL 46 u) with
    | none => rw [e] at h; cases h
    | some y =>
      rw [e] at h
      simp only at h
      cases e2 : readQ S ws with
      | none => rw [e2] at h; cases h
      | some M =>
        rw [e2] at h
        simp only [Option.map] at h
        cases h
        rw [List.length_cons, List.length_cons, readQ_len e2]
theorem openF_nil_ (S : Sys) : openF S [] = (checkF S).2.2 := by
  unfold openF
  split
  · rename_i h; rw [h]; rfl
  · rfl

set_option maxRecDepth 100000 in
set_option maxHeartbeats 2000000 in
theorem RWrite_any (A A2 R : Option Addr) (cc c2 cr : Nat) (S : Sys) (rs : List (Int × Int)) (w : World) (h : InMem w A A2 cc c2 S) (hr : RdRts w R rs.length rs) :
    Calls Tryz.prog 44 #[.agg #[.slice A S.cs.length cc, .slice A2 S.codes.length c2], .slice R rs.length cr] w fun e w' =>
      e = .returned (.tuple #[.string (writeF S rs).1, .int .i64 (writeF S rs).2]) ∧ Below w.heap.size w w' := by
  have hB := hide ((Below.refl w.heap.size w).alloc (Nat.le_refl _) (.cells #[.slice A S.cs.length cc, .slice A2 S.codes.length c2] 38))
  have hS := hide (Blk.new_ (w := w) (g := w.heap.size) (t := 38) (cs := #[.slice A S.cs.length cc, .slice A2 S.codes.length c2]) rfl)
  have hask := hide (fun W (hb : Below w.heap.size w W) => askedR_any A A2 R cc c2 cr S rs W (h.below hb) (hr.below hb))
  by_cases h0 : openF S [rs] = 0
  · have htx := hide (fun W (hb : Below w.heap.size w W) => TextR_any A A2 R cc c2 cr S rs W (openF_good h0).1 ((openF_good h0).2 rs (List.mem_singleton.2 rfl)) (h.below hb) (hr.below hb))
    have hq : writeF S rs = (textB S rs, 0) := by unfold writeF; rw [if_neg (by rw [h0]; simp)]
    rw [hq]
    rw [h0] at hask
    clear h hr hq h0
    generalize textB S rs = tx at *
    generalize S.cs.length = n at *
    generalize S.codes.length = n2 at *
    generalize rs.length = m at *
    go_enter Tryz.func44, Tryz.ntmps44
    go_wp2_with fail
    generalize w.alloc (.cells #[.slice A n cc, .slice A2 n2 c2] 38) = w0 at *
    refine (hask.out _ hB.out).mono ?_
    rintro e w1 ⟨rfl, hb⟩
    replace hS := hide (hS.out.below hb hS.out.lt)
    replace hB := hide (hB.out.trans (hb.mono hB.out.size))
    clear hb hask
    have s0 : w1.cell? ⟨w.heap.size, 0, none⟩ = some (.slice A n cc) := hS.out.cell 0
    have s1 : w1.cell? ⟨w.heap.size, 1, none⟩ = some (.slice A2 n2 c2) := hS.out.cell 1
    go_wp2_with fail
    refine (htx.out _ hB.out).mono ?_
    rintro e w2 ⟨rfl, hb⟩
    replace hB := hide (hB.out.trans (hb.mono hB.out.size))
    clear hb hS s0 s1
    go_wp2
    go_ret2
    exact ⟨rfl, hB.out⟩
  · have hq : writeF S rs = (⟨#[]⟩, openF S [rs]) := by unfold writeF; rw [if_pos h0]
    rw [hq]
    clear h hr hq
    generalize openF S [rs] = q at *
    generalize S.cs.length = n at *
    generalize S.codes.length = n2 at *
    generalize rs.length = m at *
    have hb2 : (q != 0) = true := by rw [bne_iff_ne]; exact h0
    replace h0 := hide h0
    go_enter Tryz.func44, Tryz.ntmps44
    go_wp2_with fail
    generalize w.alloc (.cells #[.slice A n cc, .slice A2 n2 c2] 38) = w0 at *
    refine (hask.out _ hB.out).mono ?_
    rintro e w1 ⟨rfl, hb⟩
    replace hB := hide (hB.out.trans (hb.mono hB.out.size))
    clear hb hask hS
    go_wp2
    go_ret2
    exact ⟨rfl, hB.out⟩
end Go.Proofs.YtjfdfhnfcpfmcaaGreatDoor
