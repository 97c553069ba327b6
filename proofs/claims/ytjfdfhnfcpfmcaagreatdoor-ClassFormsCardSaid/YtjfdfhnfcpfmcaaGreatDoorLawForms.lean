/-
  The law ClassForms returns true.
-/
import Derived.Test.YtjfdfhnfcpfmcaaGreatDoorRefW
namespace Go.Proofs.YtjfdfhnfcpfmcaaGreatDoor
open Go.RowKit RG

set_option maxRecDepth 100000 in
set_option maxHeartbeats 8000000 in
theorem LawForms_any (A A2 R R' : Option Addr) (cc c2 cr cr' : Nat) (S : Sys) (ra rb : List (Int × Int)) (w : World) (he : Env w) (h : InMem w A A2 cc c2 S) (hra : RdRts w R ra.length ra) (hrb : RdRts w R' rb.length rb) :
    Calls Tryz.prog 6 #[.agg #[.slice A S.cs.length cc, .slice A2 S.codes.length c2], .slice R ra.length cr, .slice R' rb.length cr'] w fun e w' => e = .returned (.bool true) ∧ Below w.heap.size w w' := by
  have hB := hide ((Below.refl w.heap.size w).alloc (Nat.le_refl _) (.cells #[.slice A S.cs.length cc, .slice A2 S.codes.length c2] 38))
  have hS := hide (Blk.new_ (w := w) (g := w.heap.size) (t := 38) (cs := #[.slice A S.cs.length cc, .slice A2 S.codes.length c2]) rfl)
  replace he := hide (he.below hB.out he.size)
  have hc1 := hide (fun W (hb : Below w.heap.size w W) => Least_W A A2 R cc c2 cr S ra W (h.below hb) (hra.below hb))
  have hc2 := hide (fun W (hb : Below w.heap.size w W) => RLeast_any A A2 R cc c2 cr S ra W (h.below hb) (hra.below hb))
  have hc3 := hide (fun W (hb : Below w.heap.size w W) => Allows_any A A2 R R' cc c2 cr cr' S ra rb W (h.below hb) (hra.below hb) (hrb.below hb))
  have hc4 := hide (fun W (hb : Below w.heap.size w W) => RAllows_any A A2 R R' cc c2 cr cr' S ra rb W (h.below hb) (hra.below hb) (hrb.below hb))
  have hc5 := hide (fun W (hb : Below w.heap.size w W) => Both_W A A2 R R' cc c2 cr cr' S ra rb W (h.below hb) (hra.below hb) (hrb.below hb))
  have hc6 := hide (fun W (hb : Below w.heap.size w W) => RBoth_any A A2 R R' cc c2 cr cr' S ra rb W (h.below hb) (hra.below hb) (hrb.below hb))
  have hu := hide (fun (L L' : List (Int × Int)) (h1 : FormP S.cs S.cs.length (· ∈ ra) L) (h2 : FormP S.cs S.cs.length (· ∈ ra) L') => h1.uniq h2 (fun _ => Iff.rfl))
  have hsame := hide (fun (v v' : Value) (W : World) (K : List (Int × Int)) (h1 : IsRts K v W) (h2 : IsRts K v' W) => (Same_k v v' W K K h1 h2).mono (R' := fun e w' => e = .returned (.bool true) ∧ Below W.heap.size W w') (fun e w' hh => ⟨by rw [hh.1]; simp, hh.2⟩))
  clear h hra hrb
  generalize allowsF S ra rb = AF at *
  obtain ⟨a1, a2⟩ := AF
  simp only at hc3 hc4
  generalize FormP S.cs S.cs.length = FP at *
  generalize (fun x => x ∈ ra) = MP at *
  generalize bothP S ra rb = BP at *
  generalize openF S [ra, rb] = q2 at *
  generalize openF S [ra] = q at *
  generalize S.cs.length = n at *
  generalize S.codes.length = n2 at *
  generalize ra.length = m at *
  generalize rb.length = m' at *
  go_enter Tryz.func6, Tryz.ntmps6
  go_wp2_with fail
  generalize w.alloc (.cells #[.slice A n cc, .slice A2 n2 c2] 38) = w0 at *
  refine (hc1.out _ hB.out).mono ?_
  rintro e w1 ⟨⟨v1, L1, rfl, h1, h2, h3⟩, hb⟩
  replace he := hide (he.out.below hb he.out.size)
  replace hS := hide (hS.out.below hb hS.out.lt)
  replace hB := hide (hB.out.trans (hb.mono hB.out.size))
  replace h1 := hide h1
  replace h2 := hide h2
  replace h3 := hide h3
  clear hb hc1
  have s0 : w1.cell? ⟨w.heap.size, 0, none⟩ = some (.slice A n cc) := hS.out.cell 0
  have s1 : w1.cell? ⟨w.heap.size, 1, none⟩ = some (.slice A2 n2 c2) := hS.out.cell 1
  go_wp2_with fail
  refine (hc2.out _ hB.out).mono ?_
  rintro e w2 ⟨⟨v2, rfl, L2, g1, g2, g3⟩, hb⟩
  have hL : L1 = L2 := by
    by_cases h0 : q = 0
    · exact hu.out _ _ (h2.out h0) (g2 h0)
    · rw [h3.out h0, g3 h0]
  subst hL
  replace h1 := hide (IsRts.stb _ _ _ _ hb h1.out)
  replace g1 := hide g1
  replace he := hide (he.out.below hb he.out.size)
  replace hS := hide (hS.out.below hb hS.out.lt)
  replace hB := hide (hB.out.trans (hb.mono hB.out.size))
  clear hb hc2 h2 h3 g2 g3 s0 s1 hu
  have hqq : (q != q) = false := by simp
  go_wp2_with fail
  refine (hsame.out v1 v2 _ _ h1.out g1.out).mono ?_
  rintro e w3 ⟨rfl, hb⟩
  replace he := hide (he.out.below hb he.out.size)
  replace hS := hide (hS.out.below hb hS.out.lt)
  replace hB := hide (hB.out.trans (hb.mono hB.out.size))
  clear hb h1 g1
  have s0 : w3.cell? ⟨w.heap.size, 0, none⟩ = some (.slice A n cc) := hS.out.cell 0
  have s1 : w3.cell? ⟨w.heap.size, 1, none⟩ = some (.slice A2 n2 c2) := hS.out.cell 1
  go_wp2_with fail
  refine (hc3.out _ hB.out).mono ?_
  rintro e w4 ⟨rfl, hb⟩
  replace he := hide (he.out.below hb he.out.size)
  replace hS := hide (hS.out.below hb hS.out.lt)
  replace hB := hide (hB.out.trans (hb.mono hB.out.size))
  clear hb hc3 s0 s1
  have s0 : w4.cell? ⟨w.heap.size, 0, none⟩ = some (.slice A n cc) := hS.out.cell 0
  have s1 : w4.cell? ⟨w.heap.size, 1, none⟩ = some (.slice A2 n2 c2) := hS.out.cell 1
  go_wp2_with fail
  refine (hc4.out _ hB.out).mono ?_
  rintro e w5 ⟨rfl, hb⟩
  replace he := hide (he.out.below hb he.out.size)
  replace hS := hide (hS.out.below hb hS.out.lt)
  replace hB := hide (hB.out.trans (hb.mono hB.out.size))
  clear hb hc4 s0 s1
  have haa : (a1 != a1) = false := by simp
  have haa2 : (a2 != a2) = false := by simp
  have s0 : w5.cell? ⟨w.heap.size, 0, none⟩ = some (.slice A n cc) := hS.out.cell 0
  have s1 : w5.cell? ⟨w.heap.size, 1, none⟩ = some (.slice A2 n2 c2) := hS.out.cell 1
  go_wp2_with fail
  refine (hc5.out _ hB.out).mono ?_
  rintro e w6 ⟨⟨v3, x, rfl, L3, h1⟩, hb⟩
  replace he := hide (he.out.below hb he.out.size)
  replace hS := hide (hS.out.below hb hS.out.lt)
  replace hB := hide (hB.out.trans (hb.mono hB.out.size))
  replace h1 := hide h1
  clear hb hc5 s0 s1
  have s0 : w6.cell? ⟨w.heap.size, 0, none⟩ = some (.slice A n cc) := hS.out.cell 0
  have s1 : w6.cell? ⟨w.heap.size, 1, none⟩ = some (.slice A2 n2 c2) := hS.out.cell 1
  go_wp2_with fail
  refine (hc6.out _ hB.out).mono ?_
  rintro e w7 ⟨⟨v4, x', rfl, M, g1⟩, hb⟩
  have hK : ∃ K, x = x' ∧ IsRts K v3 w7 ∧ IsRts K v4 w7 := by
    rcases h1.out with ⟨h2, h3, h4⟩ | ⟨h2, h3, h4, h5⟩
    · rcases g1 with ⟨g2, g3, g4⟩ | ⟨g2, g3, g4, g5⟩
      · exact ⟨[], by rw [h3, g3], IsRts.stb _ _ _ _ hb h4, g4⟩
      · exact absurd g2 h2
    · rcases g1 with ⟨g2, g3, g4⟩ | ⟨g2, g3, g4, g5⟩
      · exact absurd h2 g2
      · have := g4 L3 h4
        subst this
        exact ⟨bV L3, by rw [h3, g3], IsRts.stb _ _ _ _ hb h5, g5⟩
  obtain ⟨K, rfl, h5, h6⟩ := hK
  replace he := hide (he.out.below hb he.out.size)
  replace hB := hide (hB.out.trans (hb.mono hB.out.size))
  replace h5 := hide h5
  replace h6 := hide h6
  clear hb hc6 h1 g1 s0 s1 hS hqq haa haa2
  have hxx : (x == x) = true := by simp
  go_wp2_with fail
  refine (hsame.out v3 v4 _ _ h5.out h6.out).mono ?_
  rintro e w8 ⟨rfl, hb⟩
  replace he := hide (he.out.below hb he.out.size)
  replace hB := hide (hB.out.trans (hb.mono hB.out.size))
  clear hb h5 h6
  go_wp2_with fail
  refine (Awake_any _ he.out).mono ?_
  rintro e wu ⟨rfl, hb⟩
  replace hB := hide (hB.out.trans (hb.mono hB.out.size))
  clear hb
  go_wp2
  go_ret
  exact ⟨rfl, hB.out⟩
end Go.Proofs.YtjfdfhnfcpfmcaaGreatDoor
