/-
  The law BookKnown: the examples of the document.
-/
import Derived.Test.YtkmhldjebopljaaOy
import Derived.Test.YtkmhldjebopljaaOv
namespace Go.Proofs.Ytkmhldjebopljaa
open Go.RowKit RG

set_option maxRecDepth 100000 in
set_option maxHeartbeats 16000000 in
theorem Known_any (w : World) : Calls Try.prog 6 #[] w fun e w' => e = .returned (.bool true) ∧ Below w.heap.size w w' := by
  go_enter Try.func6, Try.ntmps6
  go_wp2_with fail
  refine (School_w _).mono ?_
  rintro e w1 ⟨⟨v1, rfl, h1⟩, hb⟩
  have hB := hide hb
  replace h1 := hide h1
  clear hb
  go_wp2_with fail
  refine (Fee_any v1 S1 2 48 _ h1.out).mono ?_
  rintro e w2 ⟨rfl, hb⟩
  clear h1
  replace hB := hide (hB.out.trans (hb.mono hB.out.size))
  clear hb
  rw [fee_2]
  go_wp2_with fail
  refine (School_w _).mono ?_
  rintro e w3 ⟨⟨v2, rfl, h2⟩, hb⟩
  replace hB := hide (hB.out.trans (hb.mono hB.out.size))
  replace h2 := hide h2
  clear hb
  go_wp2_with fail
  refine (Fee_any v2 S1 2 23 _ h2.out).mono ?_
  rintro e w4 ⟨rfl, hb⟩
  clear h2
  replace hB := hide (hB.out.trans (hb.mono hB.out.size))
  clear hb
  rw [fee_3]
  go_wp2_with fail
  refine (School_w _).mono ?_
  rintro e w5 ⟨⟨v3, rfl, h3⟩, hb⟩
  replace hB := hide (hB.out.trans (hb.mono hB.out.size))
  replace h3 := hide h3
  clear hb
  go_wp2_with fail
  refine (Events_k _).mono ?_
  rintro e w6 ⟨⟨u3, rfl, e3⟩, hb⟩
  replace h3 := hide (h3.out.below hb)
  replace hB := hide (hB.out.trans (hb.mono hB.out.size))
  replace e3 := hide e3
  clear hb
  go_wp2_with fail
  refine (Run_k v3 u3 S1 Ev1 _ h3.out e3.out).mono ?_
  rintro e w7 ⟨⟨pl, px, rfl, ph, ps⟩, hb⟩
  clear h3
  clear e3
  replace hB := hide (hB.out.trans (hb.mono hB.out.size))
  replace ph := hide ph
  replace ps := hide ps
  clear hb
  rw [runE_1]
  obtain ⟨pA0, pn0, pc0, pA1, pn1, pc1, pA2, pn2, pc2, pA3, pn3, pc3, rfl, pr0, pr1, pr2, pr3, pnn⟩ := ps.out.shape
  clear pnn
  replace pr0 := hide pr0
  replace pr1 := hide pr1
  replace pr2 := hide pr2
  replace pr3 := hide pr3
  have hb := (Below.refl w7.heap.size w7).alloc (Nat.le_refl _) (.cells #[.slice pA0 pn0 pc0, .slice pA1 pn1 pc1, .slice pA2 pn2 pc2, .slice pA3 pn3 pc3] 42)
  replace ph := hide (ph.out.below hb)
  replace ps := hide (ps.out.below hb)
  replace pr0 := hide (pr0.out.below hb)
  replace pr1 := hide (pr1.out.below hb)
  replace pr2 := hide (pr2.out.below hb)
  replace pr3 := hide (pr3.out.below hb)
  have ka := hide ((blkNew (w := w7) (t := 42) (cs := #[.slice pA0 pn0 pc0, .slice pA1 pn1 pc1, .slice pA2 pn2 pc2, .slice pA3 pn3 pc3]) rfl))
  replace hB := hide (hB.out.alloc hB.out.size (.cells #[.slice pA0 pn0 pc0, .slice pA1 pn1 pc1, .slice pA2 pn2 pc2, .slice pA3 pn3 pc3] 42))
  clear hb
  clear ps
  clear pr0
  clear pr1
  clear pr2
  go_wp2_with fail
  refine (School_w _).mono ?_
  rintro e w8 ⟨⟨v4, rfl, h4⟩, hb⟩
  replace ph := hide (ph.out.below hb)
  replace pr3 := hide (pr3.out.below hb)
  replace ka := hide (ka.out.below hb ka.out.lt)
  replace hB := hide (hB.out.trans (hb.mono hB.out.size))
  replace h4 := hide h4
  clear hb
  go_wp2_with fail
  refine (Events_k _).mono ?_
  rintro e w9 ⟨⟨u4, rfl, e4⟩, hb⟩
  replace ph := hide (ph.out.below hb)
  replace pr3 := hide (pr3.out.below hb)
  replace ka := hide (ka.out.below hb ka.out.lt)
  replace h4 := hide (h4.out.below hb)
  replace hB := hide (hB.out.trans (hb.mono hB.out.size))
  replace e4 := hide e4
  clear hb
  go_wp2_with fail
  refine (First_k v4 u4 S1 Ev1 1 0 34 1 _ h4.out e4.out).mono ?_
  rintro e w10 ⟨rfl, hb⟩
  clear h4
  clear e4
  replace ph := hide (ph.out.below hb)
  replace pr3 := hide (pr3.out.below hb)
  replace ka := hide (ka.out.below hb ka.out.lt)
  replace hB := hide (hB.out.trans (hb.mono hB.out.size))
  clear hb
  rw [first_1]
  have hb := (Below.refl w10.heap.size w10).alloc (Nat.le_refl _) (.cells #[.int .i64 0, .int .i64 5, .int .i64 0, .int .i64 0] 30)
  replace ph := hide (ph.out.below hb)
  replace pr3 := hide (pr3.out.below hb)
  replace ka := hide (ka.out.below hb ka.out.lt)
  have f1 := hide (isInts_blk (c := 4) [0, 5, 0, 0] (blkNew (w := w10) (t := 30) (cs := #[.int .i64 0, .int .i64 5, .int .i64 0, .int .i64 0]) rfl) rfl (by decide))
  replace hB := hide (hB.out.alloc hB.out.size (.cells #[.int .i64 0, .int .i64 5, .int .i64 0, .int .i64 0] 30))
  clear hb
  go_wp2_with fail
  refine (Errors_t ph.out f1.out run_1 (by rw [run_1]; unfold maxLen; decide)).mono ?_
  rintro e w11 ⟨rfl, hb⟩
  clear ph
  clear f1
  replace pr3 := hide (pr3.out.below hb)
  replace ka := hide (ka.out.below hb ka.out.lt)
  replace hB := hide (hB.out.trans (hb.mono hB.out.size))
  clear hb
  have ka0 := ka
  have hb := (Below.refl w11.heap.size w11).alloc (Nat.le_refl _) (.cells #[.int .i64 (-4000), .int .i64 0, .int .i64 4000, .int .i64 0, .int .i64 0, .int .i64 0] 3)
  replace pr3 := hide (pr3.out.below hb)
  replace ka := hide (ka.out.below hb ka.out.lt)
  have f2 := hide (isInts_blk (c := 6) [-4000, 0, 4000, 0, 0, 0] (blkNew (w := w11) (t := 3) (cs := #[.int .i64 (-4000), .int .i64 0, .int .i64 4000, .int .i64 0, .int .i64 0, .int .i64 0]) rfl) rfl (by decide))
  replace hB := hide (hB.out.alloc hB.out.size (.cells #[.int .i64 (-4000), .int .i64 0, .int .i64 4000, .int .i64 0, .int .i64 0, .int .i64 0] 3))
  clear hb
  have c3 := ka0.out.cell 3
  simp only [List.getElem?_toArray, List.getElem?_cons_zero, List.getElem?_cons_succ] at c3
  clear ka0
  clear ka
  go_wp2_with fail
  refine (Ints_t pr3.out f2.out run_12 (by rw [run_12]; unfold maxLen; decide)).mono ?_
  rintro e w12 ⟨rfl, hb⟩
  clear pr3
  clear f2
  replace hB := hide (hB.out.trans (hb.mono hB.out.size))
  clear hb
  clear c3
  go_wp2_with fail
  refine (AwakeB _).mono ?_
  rintro e w13 ⟨rfl, hb⟩
  replace hB := hide (hB.out.trans (hb.mono hB.out.size))
  clear hb
  go_wp2
  go_ret
  exact ⟨rfl, hB.out⟩
end Go.Proofs.Ytkmhldjebopljaa
