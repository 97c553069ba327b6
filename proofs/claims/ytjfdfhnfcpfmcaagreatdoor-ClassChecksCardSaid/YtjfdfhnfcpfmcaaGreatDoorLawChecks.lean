/-
  The law ClassChecks returns true.
-/
import Derived.Test.YtjfdfhnfcpfmcaaGreatDoorMj
import Derived.Test.YtjfdfhnfcpfmcaaGreatDoorMm
namespace Go.Proofs.YtjfdfhnfcpfmcaaGreatDoor
open Go.RowKit RG

theorem InMem.rdSys {w : World} {A A2 : Option Addr} {cc c2 : Nat} {S : Sys} (h : InMem w A A2 cc c2 S) : RdSys w (.agg #[.slice A S.cs.length cc, .slice A2 S.codes.length c2]) S := by
  obtain ⟨xs, hx⟩ := h.cls
  exact ⟨A, cc, xs, A2, c2, rfl, hx, h.cap, h.strs, h.cap2, h.len2⟩
theorem coversF_len {S : Sys} {k : Int} (h : S.cs.length ≤ maxLen) : (coversF S k).1.length ≤ maxLen := by
  unfold coversF
  split
  · exact Nat.zero_le _
  · split
    · exact Nat.zero_le _
    · simp only [coverL, List.length_map]
      exact Nat.le_trans (List.length_filter_le _ _) (by rw [List.length_range]; exact h)
set_option maxRecDepth 100000 in
set_option maxHeartbeats 4000000 in
theorem Checks_any (A A2 : Option Addr) (cc c2 : Nat) (S : Sys) (k : Int) (w : World) (he : Env w) (h : InMem w A A2 cc c2 S) :
    Calls Tryz.prog 4 #[.agg #[.slice A S.cs.length cc, .slice A2 S.codes.length c2], .int .i64 k] w fun e w' => e = .returned (.bool true) ∧ Below w.heap.size w w' := by
  have hlm : S.cs.length ≤ maxLen := by obtain ⟨xs, hx⟩ := h.cls; exact hx.2.2.1
  have hlen := hide (coversF_len (S := S) (k := k) hlm)
  clear hlm
  have hc1 := hide (fun W (hb : Below w.heap.size w W) => Check_any _ S W (h.below hb).rdSys)
  have hc2 := hide (fun W (hb : Below w.heap.size w W) => CheckR_any A A2 cc c2 S W (h.below hb))
  have hc3 := hide (fun W (hb : Below w.heap.size w W) => Covers_any A A2 cc c2 S k W (h.below hb))
  have hc4 := hide (fun W (hb : Below w.heap.size w W) => CoversR_any A A2 cc c2 S k W (h.below hb))
  have hB0 := hide ((Below.refl w.heap.size w).alloc (Nat.le_refl _) (.cells #[.slice A S.cs.length cc, .slice A2 S.codes.length c2] 38))
  have hS0 := Blk.new_ (w := w) (g := w.heap.size) (t := 38) (cs := #[.slice A S.cs.length cc, .slice A2 S.codes.length c2]) rfl
  have he0 := hide (he.below hB0.out he.size)
  have hsz : w.heap.size ≤ w.heap.size := Nat.le_refl _
  clear h he
  generalize coversF S k = r at *
  obtain ⟨l, re⟩ := r
  simp only at hlen
  generalize checkF S = x at *
  obtain ⟨x1, x2, x3⟩ := x
  have e1 : (x1 != x1) = false := by simp
  have e2 : (x2 != x2) = false := by simp
  have e3 : (x3 != x3) = false := by simp
  have e4 : (re == re) = true := by simp
  generalize S.cs.length = n at *
  generalize S.codes.length = n2 at *
  replace hS0 := hide hS0
  go_enter Tryz.func4, Tryz.ntmps4
  go_wp2_with fail
  generalize w.alloc (.cells #[.slice A n cc, .slice A2 n2 c2] 38) = w0 at *
  refine (hc1.out _ hB0.out).mono ?_
  rintro e w1 ⟨rfl, hb1⟩
  have he1 := hide (he0.out.below hb1 he0.out.size)
  have hB1 := hide (hB0.out.trans (hb1.mono hB0.out.size))
  have hS1 := hS0.out.below hb1 hS0.out.lt
  clear hb1 he0 hB0 hS0 hc1
  have s0 : w1.cell? ⟨w.heap.size, 0, none⟩ = some (.slice A n cc) := hS1.cell 0
  have s1 : w1.cell? ⟨w.heap.size, 1, none⟩ = some (.slice A2 n2 c2) := hS1.cell 1
  replace hS1 := hide hS1
  go_wp2_with fail
  clear s0 s1
  refine (hc2.out _ hB1.out).mono ?_
  rintro e w2 ⟨rfl, hb2⟩
  have he2 := hide (he1.out.below hb2 he1.out.size)
  have hB2 := hide (hB1.out.trans (hb2.mono hB1.out.size))
  have hS2 := hS1.out.below hb2 hS1.out.lt
  clear hb2 he1 hB1 hS1 hc2
  have s0 : w2.cell? ⟨w.heap.size, 0, none⟩ = some (.slice A n cc) := hS2.cell 0
  have s1 : w2.cell? ⟨w.heap.size, 1, none⟩ = some (.slice A2 n2 c2) := hS2.cell 1
  replace hS2 := hide hS2
  go_wp2_with fail
  clear s0 s1
  refine (hc3.out _ hB2.out).mono ?_
  rintro e w3 ⟨⟨v, rfl, D, dc, rfl, hD, hDc⟩, hb3⟩
  have he3 := hide (he2.out.below hb3 he2.out.size)
  have hB3 := hide (hB2.out.trans (hb3.mono hB2.out.size))
  have hS3 := hS2.out.below hb3 hS2.out.lt
  clear hb3 he2 hB2 hS2 hc3
  have s0 : w3.cell? ⟨w.heap.size, 0, none⟩ = some (.slice A n cc) := hS3.cell 0
  have s1 : w3.cell? ⟨w.heap.size, 1, none⟩ = some (.slice A2 n2 c2) := hS3.cell 1
  replace hS3 := hide hS3
  replace hD := hide hD
  go_wp2_with fail
  clear s0 s1
  refine (hc4.out _ hB3.out).mono ?_
  rintro e w4 ⟨⟨v, rfl, E, ec, rfl, hE, hEc⟩, hb4⟩
  have he4 := hide (he3.out.below hb4 he3.out.size)
  have hB4 := hide (hB3.out.trans (hb4.mono hB3.out.size))
  have hD4 := hide (hD.out.below hb4)
  clear hb4 he3 hB3 hS3 hc4 hD
  replace hE := hide hE
  go_wp2_with fail
  refine (Ints_any D E l.length l.length dc ec l l _ hD4.out hE.out hlen.out hlen.out).mono ?_
  rintro e w5 ⟨rfl, hb5⟩
  have he5 := hide (he4.out.below hb5 he4.out.size)
  have hB5 := hide (hB4.out.trans (hb5.mono hB4.out.size))
  clear hb5 he4 hB4 hD4 hE
  rw [decide_eq_true (rfl : l = l)]
  go_wp2_with fail
  refine (Awake_any _ he5.out).mono ?_
  rintro e w6 ⟨rfl, hb6⟩
  have hB6 := hide (hB5.out.trans (hb6.mono hB5.out.size))
  clear hb6
  go_wp2
  go_ret
  exact ⟨rfl, hB6.out⟩
end Go.Proofs.YtjfdfhnfcpfmcaaGreatDoor
