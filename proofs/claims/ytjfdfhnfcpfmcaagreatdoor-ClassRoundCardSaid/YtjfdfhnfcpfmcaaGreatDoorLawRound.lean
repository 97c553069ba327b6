/-
  The law ClassRound returns true.
-/
import Derived.Test.YtjfdfhnfcpfmcaaGreatDoorMp
import Derived.Test.YtjfdfhnfcpfmcaaGreatDoorMo
namespace Go.Proofs.YtjfdfhnfcpfmcaaGreatDoor
open Go.RowKit RG

theorem rtsI_of {w : World} {A : Option Addr} {L : List (Int × Nat)} (h : RdRow w A L.length 2 ((L.map rI).map rtCells)) (hl : L.length ≤ maxLen) : RdRts w A (L.map rI).length (L.map rI) :=
  ⟨by rw [List.length_map]; exact h, by rw [List.length_map]; exact hl⟩
theorem readF_len {S : Sys} {s : ByteArray} : (readF S s).1.length ≤ 40 := by
  by_cases h : (readF S s).2 = 0
  · have h1 := writeF_readF h
    have h2 : openF S [(readF S s).1.map rI] = 0 := by
      unfold writeF at h1
      split at h1
      · rename_i h3
        have := congrArg Prod.snd h1
        exact absurd this h3
      · rename_i h3; exact Classical.not_not.1 h3
    have := ((openF_good h2).2 _ (List.mem_singleton.2 rfl)).1
    rw [List.length_map] at this
    exact this
  · rw [readF_fail h]; simp

set_option maxRecDepth 100000 in
set_option maxHeartbeats 8000000 in
theorem LawRound_any (A A2 R : Option Addr) (cc c2 cr : Nat) (S : Sys) (rs : List (Int × Int)) (s : ByteArray) (w : World) (he : Env w) (h : InMem w A A2 cc c2 S) (hr : RdRts w R rs.length rs) :
    Calls Tryz.prog 17 #[.agg #[.slice A S.cs.length cc, .slice A2 S.codes.length c2], .slice R rs.length cr, .string s] w fun e w' => e = .returned (.bool true) ∧ Below w.heap.size w w' := by
  have hB := hide ((Below.refl w.heap.size w).alloc (Nat.le_refl _) (.cells #[.slice A S.cs.length cc, .slice A2 S.codes.length c2] 38))
  have hS := hide (Blk.new_ (w := w) (g := w.heap.size) (t := 38) (cs := #[.slice A S.cs.length cc, .slice A2 S.codes.length c2]) rfl)
  replace he := hide (he.below hB.out he.size)
  have hrA := hide (fun W (hb : Below w.heap.size w W) => hr.below hb)
  have hw1 := hide (fun W (hb : Below w.heap.size w W) => Write_any A A2 R cc c2 cr S rs W (h.below hb) (hr.below hb))
  have hr2 := hide (fun W (hb : Below w.heap.size w W) => Read_any A A2 cc c2 S s W (h.below hb))
  have hw2 := hide (fun (h0 : (readF S s).2 = 0) (D : Option Addr) (c : Nat) W (hb : Below w.heap.size w W) (hl : RdRow W D (readF S s).1.length 2 (((readF S s).1.map rI).map rtCells)) =>
    show Calls Tryz.prog 43 #[.agg #[.slice A S.cs.length cc, .slice A2 S.codes.length c2], .slice D (readF S s).1.length c] W fun e w' => e = .returned (.tuple #[.string s, .int .i64 0]) ∧ Below W.heap.size W w' by
      have := Write_any A A2 D cc c2 c S ((readF S s).1.map rI) W (h.below hb) (rtsI_of hl (Nat.le_trans readF_len (by unfold maxLen; omega)))
      rw [writeF_readF h0, List.length_map] at this
      exact this)
  have hfail := hide (fun (h0 : (readF S s).2 ≠ 0) => readF_fail h0)
  have heq : (s.toList == s.toList) = true := by simp
  by_cases h0 : openF S [rs] = 0
  · obtain ⟨L, hL1, hL2⟩ := readF_writeF h0
    have hsz := textB_size (openF_good h0).1 ((openF_good h0).2 rs (List.mem_singleton.2 rfl))
    have hr1 := hide (fun W (hb : Below w.heap.size w W) => Read_any A A2 cc c2 S (textB S rs) W (h.below hb))
    rw [hL1] at hr1
    rw [show writeF S rs = (textB S rs, 0) by unfold writeF; rw [if_neg (by rw [h0]; simp)]] at hw1
    have hlen : L.length = rs.length := by rw [← hL2, List.length_map]
    have hm := hr.2
    clear h hr h0 hL1
    generalize textB S rs = t at *
    replace hsz := hide hsz
    have hszz : ¬ (7000 : Int) < (t.size : Int) := by have := hsz.out; omega
    generalize readF S s = q at *
    obtain ⟨M, x⟩ := q
    simp only at hr2 hw2 hfail
    generalize S.cs.length = n at *
    generalize S.codes.length = n2 at *
    replace hL2 := hide hL2
    replace hlen := hide hlen
    replace hm := hide hm
    go_enter Tryz.func17, Tryz.ntmps17
    go_wp2_with fail
    generalize w.alloc (.cells #[.slice A n cc, .slice A2 n2 c2] 38) = w0 at *
    refine (hw1.out _ hB.out).mono ?_
    rintro e w1 ⟨rfl, hb⟩
    replace he := hide (he.out.below hb he.out.size)
    replace hS := hide (hS.out.below hb hS.out.lt)
    replace hB := hide (hB.out.trans (hb.mono hB.out.size))
    clear hb hw1
    have s0 : w1.cell? ⟨w.heap.size, 0, none⟩ = some (.slice A n cc) := hS.out.cell 0
    have s1 : w1.cell? ⟨w.heap.size, 1, none⟩ = some (.slice A2 n2 c2) := hS.out.cell 1
    go_wp2_with fail
    clear s0 s1
    refine (hr1.out _ hB.out).mono ?_
    rintro e w2 ⟨⟨D, dc, rfl, hD, hdc⟩, hb⟩
    replace he := hide (he.out.below hb he.out.size)
    replace hS := hide (hS.out.below hb hS.out.lt)
    replace hB := hide (hB.out.trans (hb.mono hB.out.size))
    clear hb hr1 hdc
    have hE : RdRts w2 D rs.length rs := by
      have := rtsI_of hD (by rw [hlen.out]; exact hm.out)
      rw [hL2.out] at this
      exact this
    simp only at hD
    rw [hlen.out]
    replace hE := hide hE
    clear hD
    go_wp2_with fail
    refine (Same_any R D rs.length rs.length cr dc rs rs _ (hrA.out _ hB.out) hE.out).mono ?_
    rintro e w3 ⟨rfl, hb⟩
    rw [decide_eq_true (rfl : rs = rs)]
    replace he := hide (he.out.below hb he.out.size)
    replace hS := hide (hS.out.below hb hS.out.lt)
    replace hB := hide (hB.out.trans (hb.mono hB.out.size))
    clear hb hE hL2 hlen hm hrA
    have s0 : w3.cell? ⟨w.heap.size, 0, none⟩ = some (.slice A n cc) := hS.out.cell 0
    have s1 : w3.cell? ⟨w.heap.size, 1, none⟩ = some (.slice A2 n2 c2) := hS.out.cell 1
    go_wp2_with fail
    clear s0 s1
    refine (hr2.out _ hB.out).mono ?_
    rintro e w4 ⟨⟨D2, dc2, rfl, hD2, hdc2⟩, hb⟩
    replace he := hide (he.out.below hb he.out.size)
    replace hS := hide (hS.out.below hb hS.out.lt)
    replace hB := hide (hB.out.trans (hb.mono hB.out.size))
    clear hb hr2 hdc2
    replace hD2 := hide hD2
    by_cases hx : x = 0
    · subst hx
      replace hw2 := hide (hw2.out rfl)
      clear hfail
      have s0 : w4.cell? ⟨w.heap.size, 0, none⟩ = some (.slice A n cc) := hS.out.cell 0
      have s1 : w4.cell? ⟨w.heap.size, 1, none⟩ = some (.slice A2 n2 c2) := hS.out.cell 1
      go_wp2_with fail
      clear s0 s1
      refine (hw2.out D2 dc2 _ hB.out hD2.out).mono ?_
      rintro e w5 ⟨rfl, hb⟩
      replace he := hide (he.out.below hb he.out.size)
      replace hB := hide (hB.out.trans (hb.mono hB.out.size))
      clear hb hD2 hw2
      go_wp2_with fail
      refine (Awake_any _ he.out).mono ?_
      rintro e wu ⟨rfl, hb⟩
      replace hB := hide (hB.out.trans (hb.mono hB.out.size))
      clear hb
      go_wp2
      go_ret
      exact ⟨rfl, hB.out⟩
    · have hM : M = [] := hfail.out hx
      subst hM
      have hb1 : (x == 0) = false := by rw [beq_eq_false_iff_ne]; exact hx
      have hb2 : (x != 0) = true := by rw [bne_iff_ne]; exact hx
      replace hx := hide hx
      clear hD2 hw2 hfail
      go_wp2_with fail
      refine (Awake_any _ he.out).mono ?_
      rintro e wu ⟨rfl, hb⟩
      replace hB := hide (hB.out.trans (hb.mono hB.out.size))
      clear hb
      go_wp2
      go_ret
      exact ⟨rfl, hB.out⟩
  · obtain ⟨z, hz⟩ : ∃ z, openF S [rs] = z := ⟨_, rfl⟩
    rw [show writeF S rs = (⟨#[]⟩, z) by unfold writeF; rw [if_pos h0, hz]] at hw1
    rw [hz] at h0
    have hz1 : (z == 0) = false := by rw [beq_eq_false_iff_ne]; exact h0
    replace h0 := hide h0
    clear h hr hz hrA
    generalize readF S s = q at *
    obtain ⟨M, x⟩ := q
    simp only at hr2 hw2 hfail
    generalize S.cs.length = n at *
    generalize S.codes.length = n2 at *
    go_enter Tryz.func17, Tryz.ntmps17
    go_wp2_with fail
    generalize w.alloc (.cells #[.slice A n cc, .slice A2 n2 c2] 38) = w0 at *
    refine (hw1.out _ hB.out).mono ?_
    rintro e w1 ⟨rfl, hb⟩
    replace he := hide (he.out.below hb he.out.size)
    replace hS := hide (hS.out.below hb hS.out.lt)
    replace hB := hide (hB.out.trans (hb.mono hB.out.size))
    clear hb hw1
    have s0 : w1.cell? ⟨w.heap.size, 0, none⟩ = some (.slice A n cc) := hS.out.cell 0
    have s1 : w1.cell? ⟨w.heap.size, 1, none⟩ = some (.slice A2 n2 c2) := hS.out.cell 1
    go_wp2_with fail
    clear s0 s1
    refine (hr2.out _ hB.out).mono ?_
    rintro e w4 ⟨⟨D2, dc2, rfl, hD2, hdc2⟩, hb⟩
    replace he := hide (he.out.below hb he.out.size)
    replace hS := hide (hS.out.below hb hS.out.lt)
    replace hB := hide (hB.out.trans (hb.mono hB.out.size))
    clear hb hr2 hdc2
    replace hD2 := hide hD2
    by_cases hx : x = 0
    · subst hx
      replace hw2 := hide (hw2.out rfl)
      clear hfail
      have s0 : w4.cell? ⟨w.heap.size, 0, none⟩ = some (.slice A n cc) := hS.out.cell 0
      have s1 : w4.cell? ⟨w.heap.size, 1, none⟩ = some (.slice A2 n2 c2) := hS.out.cell 1
      go_wp2_with fail
      clear s0 s1
      refine (hw2.out D2 dc2 _ hB.out hD2.out).mono ?_
      rintro e w5 ⟨rfl, hb⟩
      replace he := hide (he.out.below hb he.out.size)
      replace hB := hide (hB.out.trans (hb.mono hB.out.size))
      clear hb hD2 hw2
      go_wp2_with fail
      refine (Awake_any _ he.out).mono ?_
      rintro e wu ⟨rfl, hb⟩
      replace hB := hide (hB.out.trans (hb.mono hB.out.size))
      clear hb
      go_wp2
      go_ret
      exact ⟨rfl, hB.out⟩
    · have hM : M = [] := hfail.out hx
      subst hM
      have hb1 : (x == 0) = false := by rw [beq_eq_false_iff_ne]; exact hx
      have hb2 : (x != 0) = true := by rw [bne_iff_ne]; exact hx
      replace hx := hide hx
      clear hD2 hw2 hfail
      go_wp2_with fail
      refine (Awake_any _ he.out).mono ?_
      rintro e wu ⟨rfl, hb⟩
      replace hB := hide (hB.out.trans (hb.mono hB.out.size))
      clear hb
      go_wp2
      go_ret
      exact ⟨rfl, hB.out⟩
end Go.Proofs.YtjfdfhnfcpfmcaaGreatDoor
