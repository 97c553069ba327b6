import Derived.Test.YtkmhldjebopljaaOo
import Derived.Test.YtkmhldjebopljaaOh
import Derived.Test.YtkmhldjebopljaaOi
import Derived.OrdersIn
/-
  The event book (made by mkbkbook.py).
-/
namespace Go.Proofs.Ytkmhldjebopljaa
open Go.RowKit RG

set_option maxRecDepth 100000 in
set_option maxHeartbeats 2000000 in
theorem book_any {w : World} {X : Nat → Prop} {p : Nat} {L C T : Option Addr} {cl cc ct : Nat} {S : BSch} {vl vk vs va : Value} {mb : Nat} {vp : Value} {b : Bks} {ev : Int} (h0 : RawB w X p L C T cl cc ct S vl vk vs va mb vp b ev) (hS : SchGd S) (hg : Gd S b) (x : BEv) :
    Calls Try.prog 85 #[.pointer (some ⟨p, 0, none⟩), .agg (evCells x).toArray] w fun e w' => EvR w X p L C T cl cc ct S b ev (bookB S b x) e w' := by
  obtain ⟨W, hW⟩ : ∃ y, w.alloc (.cells (evCells x).toArray 65) = y := ⟨_, rfl⟩
  have kb := hide (show Blk W w.heap.size 65 (evCells x).toArray by rw [← hW]; exact blkNew rfl)
  have hB := hide (show Below w.heap.size w W by rw [← hW]; exact (Below.refl w.heap.size w).alloc (Nat.le_refl _) _)
  have hraw := hide (fun V (hb : Below w.heap.size w V) => (show RawB V X p L C T cl cc ct S vl vk vs va mb vp b ev from Raw.below h0 hb))
  have hold := h0.old
  have hk := hide (fun V (hb : Below w.heap.size w V) => KeptX.of_below hb hold)
  have hL := hide (fun V (hb : Below w.heap.size w V) y => isLearner_any (h0.blk.below hb h0.blk.lt) hS.nl.2 y)
  have hC := hide (fun V (hb : Below w.heap.size w V) y => isCar_any (h0.blk.below hb h0.blk.lt) (by have := hS.nc; omega) y)
  have hH := hide (fun V => isLength_any x.hours V)
  have hT := hide (fun V => isHour_any x.start V)
  have hE := hide (fun V (hb : Below w.heap.size w V) (l : Les) (hc : 0 ≤ l.car ∧ l.car < S.cars.length) (hs : 0 ≤ l.start ∧ l.start ≤ 24000) (hh : 0 ≤ l.hours ∧ l.hours ≤ 1000) => lessonError_any (Raw.below h0 hb) hS hg l hc hs hh x.at_)
  have hlen := hide hg.lim.les
  have hnl := hS.nl
  have hnc := hS.nc
  obtain ⟨q, hq⟩ : ∃ q, bookB S b x = q := ⟨_, rfl⟩
  rw [hq]
  unfold bookB at hq
  clear h0 hS hg hold
  obtain ⟨k0, k1, k2, k3, k4, k5, k6, k7, k8, k9, k10⟩ := ev_cells kb.out
  replace hW := hide hW
  obtain ⟨xkind, xat, xlearner, xcar, xbooking, xstart, xhours, xday, xweather, xkm, xcents⟩ := x
  unfold evCells at *
  simp only at *
  clear k0 k1 k4 k5 k6 k7 k8 k9 k10
  go_enter Try.func85, Try.ntmps85
  go_upto_region 1 with fail
  rw [hW.out]
  go_wp2_with fail
  refine (hL.out _ hB.out xlearner).mono ?_
  rintro e w2 ⟨rfl, hb⟩
  have hB2 := hide (hB.out.trans (hb.mono hB.out.size))
  have kb2 := hide (kb.out.below hb kb.out.lt)
  clear hb k2 k3 kb hB hL
  cases h1 : inI 0 ((S.learners.length : Int) - 1) xlearner with
  | false =>
    rw [if_pos (.inl h1)] at hq
    subst hq
    go_wp2_with fail
    refine (need_no 4 _).mono ?_
    rintro e w3 ⟨rfl, rfl⟩
    go_wp2
    exact ⟨rfl, .inr ⟨by simp, rfl, _, _, _, _, _, _, hraw.out _ hB2.out⟩, hk.out _ hB2.out⟩
  | true =>
    obtain ⟨jl, rfl⟩ : ∃ j : Nat, xlearner = (j : Int) := ⟨xlearner.toNat, by have := inI_iff.1 h1; omega⟩
    have k3 : w2.cell? ⟨w.heap.size, 3, none⟩ = some (.int .i64 xcar) := kb2.out.cell 3
    replace h1 := hide h1
    go_wp2_with fail
    refine (hC.out _ hB2.out xcar).mono ?_
    rintro e w3 ⟨rfl, hb⟩
    have hB3 := hide (hB2.out.trans (hb.mono hB2.out.size))
    have kb3 := hide (kb2.out.below hb kb2.out.lt)
    clear hb k3 kb2 hB2 hC
    cases h2 : inI 0 ((S.cars.length : Int) - 1) xcar with
    | false =>
      rw [if_pos (.inr h2)] at hq
      subst hq
      go_wp2_with fail
      refine (need_no 4 _).mono ?_
      rintro e w4 ⟨rfl, rfl⟩
      go_wp2
      exact ⟨rfl, .inr ⟨by simp, rfl, _, _, _, _, _, _, hraw.out _ hB3.out⟩, hk.out _ hB3.out⟩
    | true =>
      rw [if_neg (by simp [h1.out, h2])] at hq
      obtain ⟨jc, rfl⟩ : ∃ j : Nat, xcar = (j : Int) := ⟨xcar.toNat, by have := inI_iff.1 h2; omega⟩
      have hjc := hide (show (0 : Int) ≤ (jc : Int) ∧ (jc : Int) < S.cars.length by have := inI_iff.1 h2; omega)
      replace h2 := hide h2
      have k6 : w3.cell? ⟨w.heap.size, 6, none⟩ = some (.int .i64 xhours) := kb3.out.cell 6
      go_wp2_with fail
      refine (need_yes 4 _).mono ?_
      rintro e w4 ⟨rfl, rfl⟩
      go_wp2_with fail
      refine (hH.out _).mono ?_
      rintro e w4 ⟨rfl, hb⟩
      have hB4 := hide (hB3.out.trans (hb.mono hB3.out.size))
      have kb4 := hide (kb3.out.below hb kb3.out.lt)
      clear hb k6 kb3 hB3 hH
      cases h3 : inI 1 4 xhours with
      | false =>
        rw [if_pos (.inl h3)] at hq
        subst hq
        go_wp2_with fail
        refine (need_no 7 _).mono ?_
        rintro e w5 ⟨rfl, rfl⟩
        go_wp2
        exact ⟨rfl, .inr ⟨by simp, rfl, _, _, _, _, _, _, hraw.out _ hB4.out⟩, hk.out _ hB4.out⟩
      | true =>
        have h3' := inI_iff.1 h3
        replace h3 := hide h3
        have k5 : w4.cell? ⟨w.heap.size, 5, none⟩ = some (.int .i64 xstart) := kb4.out.cell 5
        go_wp2_with fail
        refine (hT.out _).mono ?_
        rintro e w5 ⟨rfl, hb⟩
        have hB5 := hide (hB4.out.trans (hb.mono hB4.out.size))
        have kb5 := hide (kb4.out.below hb kb4.out.lt)
        clear hb k5 kb4 hB4 hT
        cases h4 : inI 0 4800 xstart with
        | false =>
          rw [if_pos (.inr h4)] at hq
          subst hq
          go_wp2_with fail
          refine (need_no 7 _).mono ?_
          rintro e w6 ⟨rfl, rfl⟩
          go_wp2
          exact ⟨rfl, .inr ⟨by simp, rfl, _, _, _, _, _, _, hraw.out _ hB5.out⟩, hk.out _ hB5.out⟩
        | true =>
          rw [if_neg (by simp [h3.out, h4])] at hq
          have h4' := inI_iff.1 h4
          replace h4 := hide h4
          have k2 : w5.cell? ⟨w.heap.size, 2, none⟩ = some (.int .i64 jl) := kb5.out.cell 2
          have k3 : w5.cell? ⟨w.heap.size, 3, none⟩ = some (.int .i64 jc) := kb5.out.cell 3
          have k5 : w5.cell? ⟨w.heap.size, 5, none⟩ = some (.int .i64 xstart) := kb5.out.cell 5
          have k6 : w5.cell? ⟨w.heap.size, 6, none⟩ = some (.int .i64 xhours) := kb5.out.cell 6
          obtain ⟨V5, hV5⟩ : ∃ y, w5.alloc (.cells #[.int .i64 jl, .int .i64 jc, .int .i64 xstart, .int .i64 xhours, .int .i64 0] 63) = y := ⟨_, rfl⟩
          have kl := hide (show Blk V5 w5.heap.size 63 #[.int .i64 jl, .int .i64 jc, .int .i64 xstart, .int .i64 xhours, .int .i64 0] by rw [← hV5]; exact blkNew rfl)
          have hBV := hide (show Below w.heap.size w V5 by rw [← hV5]; exact hB5.out.alloc hB5.out.size _)
          have kbV := hide (show Blk V5 w.heap.size 65 _ by rw [← hV5]; exact kb5.out.alloc _)
          have l0 : V5.cell? ⟨w5.heap.size, 0, none⟩ = some (.int .i64 jl) := kl.out.cell 0
          have l1 : V5.cell? ⟨w5.heap.size, 1, none⟩ = some (.int .i64 jc) := kl.out.cell 1
          have l2 : V5.cell? ⟨w5.heap.size, 2, none⟩ = some (.int .i64 xstart) := kl.out.cell 2
          have l3 : V5.cell? ⟨w5.heap.size, 3, none⟩ = some (.int .i64 xhours) := kl.out.cell 3
          have l4 : V5.cell? ⟨w5.heap.size, 4, none⟩ = some (.int .i64 0) := kl.out.cell 4
          have kat : V5.cell? ⟨w.heap.size, 1, none⟩ = some (.int .i64 xat) := kbV.out.cell 1
          have hle := hide (show Calls Try.prog 58 #[.pointer (some ⟨p, 0, none⟩), .agg #[.int .i64 jl, .int .i64 jc, .int .i64 xstart, .int .i64 xhours, .int .i64 0], .int .i64 xat] V5 fun e w' => e = .returned (.int .i64 (lesErr S b ⟨jl, jc, xstart, xhours, 0⟩ xat)) ∧ Below V5.heap.size V5 w' from
            hE.out V5 hBV.out ⟨jl, jc, xstart, xhours, 0⟩ hjc.out (by show 0 ≤ xstart ∧ xstart ≤ 24000; omega) (by show 0 ≤ xhours ∧ xhours ≤ 1000; omega))
          clear hE
          generalize lesErr S b ⟨jl, jc, xstart, xhours, 0⟩ xat = er at *
          replace hV5 := hide hV5
          go_wp2_with fail
          refine (need_yes 7 _).mono ?_
          rintro e w6 ⟨rfl, rfl⟩
          go_upto_region 4 with fail
          rw [hV5.out]
          clear k2 k3 k5 k6
          go_wp2_with fail
          refine hle.out.mono ?_
          rintro e w6 ⟨rfl, hb⟩
          have hB6 := hide (hBV.out.trans (hb.mono hBV.out.size))
          have kl6 := hide (kl.out.below hb kl.out.lt)
          clear hb l0 l1 l2 l3 l4 kat kl hle
          by_cases her : er = 0
          · subst her
            rw [if_pos rfl] at hq
            subst hq
            have hr6 := hraw.out w6 hB6.out
            obtain ⟨i0, hi, hz0, hz1, hz2⟩ := info_parts infoLes
            have hrow := hr6.les.own
            rw [List.length_map] at hrow
            obtain ⟨v', w8, hrun, hown, hgrow, -, hat⟩ := run_append_own_at (P := Try.prog) (w6.drew.alloc (.cells #[.int .i64 jl, .int .i64 jc, .int .i64 xstart, .int .i64 xhours, .int .i64 0] 63)) 0 39 39 63 i0 _ 5 40 Try.underlying39 hi hz0 hz1 hz2 rfl (by decide)
              vl b.les.length (b.les.map lesCells).flatten (World.ownsRow.alloc hrow _) ⟨w6.heap.size, 0, none⟩ 1 1 [.int .i64 jl, .int .i64 jc, .int .i64 xstart, .int .i64 xhours, .int .i64 0] rfl
              (by
                intro j u hj
                match j, hj with
                | 0, hj => cases hj; exact World.cell?_alloc_new _ _ _ 0
                | 1, hj => cases hj; exact World.cell?_alloc_new _ _ _ 1
                | 2, hj => cases hj; exact World.cell?_alloc_new _ _ _ 2
                | 3, hj => cases hj; exact World.cell?_alloc_new _ _ _ 3
                | 4, hj => cases hj; exact World.cell?_alloc_new _ _ _ 4)
              (by intro u hu; simp only [List.mem_cons, List.not_mem_nil, or_false] at hu; rcases hu with rfl | rfl | rfl | rfl | rfl <;> rfl) (by have := hlen.out; unfold maxLen; omega) (by have := hlen.out; omega) (Nat.zero_le _)
            obtain ⟨gn, capn, rfl⟩ : ∃ g c, v' = .slice (some ⟨g, 0, none⟩) (b.les.length + 1) c := by
              rcases hown.2 with ⟨_, h'⟩ | ⟨g, cp, cur, e, _⟩
              · omega
              · exact ⟨g, cp, e⟩
            have hra : RawB (w6.drew.alloc (.cells #[.int .i64 jl, .int .i64 jc, .int .i64 xstart, .int .i64 xhours, .int .i64 0] 63)) X p L C T cl cc ct S vl vk vs va mb vp b ev := Raw.alloc (Raw.below hr6 (Below.refl _ _).drew) _
            have hkA := KeptX.alloc w6.drew (show Old X w6.drew from hr6.old) (.cells #[.int .i64 jl, .int .i64 jc, .int .i64 xstart, .int .i64 xhours, .int .i64 0] 63)
            obtain ⟨wa, hwa⟩ : ∃ x, w6.drew.alloc (.cells #[.int .i64 jl, .int .i64 jc, .int .i64 xstart, .int .i64 xhours, .int .i64 0] 63) = x := ⟨_, rfl⟩
            rw [hwa] at hra hrun hgrow hat hkA
            have hG : Grew wa w8 vl (.slice (some ⟨gn, 0, none⟩) (b.les.length + 1) capn) := ⟨hgrow, by rcases hat with h' | h'; exact .inl h'; exact .inr ⟨_, h', Nat.le_refl _⟩⟩
            have hrow4 : RowAt w8 X 63 5 (.slice (some ⟨gn, 0, none⟩) (b.les.length + 1) capn) ((b.les ++ [(⟨jl, jc, xstart, xhours, 0⟩ : Les)]).map lesCells) := by
              refine rowAt_of ?_ ?_ ?_
              · intro x hx
                obtain ⟨q, _, rfl⟩ := List.mem_map.1 hx
                rfl
              · simpa [lesCells] using hown
              · intro g hg hX
                rcases hat with h' | h'
                · exact hra.les.not g (by rw [← h']; exact hg) hX
                · rw [hg] at h'; cases h'; exact absurd (hra.old _ hX) (Nat.lt_irrefl _)
            have hfin := hide (Raw.newLes hra hG hrow4)
            have hkF := hide ((hk.out w6 hB6.out).trans (((KeptX.refl X w6).drew.trans hkA).trans ((hG.keptX hra.old hra.les.not).trans (KeptX.setCell w8 (p := ⟨p, 7, none⟩) hra.px (.slice (some ⟨gn, 0, none⟩) (b.les.length + 1) capn)))))
            have hp0 : w6.cell? ⟨p, 7, none⟩ = some vl := hr6.blk.cell 7
            have hb8 : Blk w8 p 99 _ := hG.blk hra.blk (hra.les.nblk hra.blk (by decide))
            have hpa : wa.cell? ⟨p, 7, none⟩ = some vl := hra.blk.cell 7
            have hz8 : w8.frozen? ⟨p, 7, none⟩ = false := hb8.frozen 7
            have hc8 : w8.cell? ⟨p, 7, none⟩ = some vl := hb8.cell 7
            generalize hnn : b.les.length = nn at *
            have hpc := hide (show ∀ j, j ≤ 1 → (wsC w6.drew [wa, w8, w8.setCell ⟨p, 7, none⟩ (.slice (some ⟨gn, 0, none⟩) (nn + 1) capn)] j).cell? ⟨p, 7, none⟩ = some vl from by
              intro j hj
              rcases (show j = 0 ∨ j = 1 by omega) with rfl | rfl
              · exact hp0
              · exact hpa)
            have hpl := hide (show ∀ j, j ≤ 0 → (wsC w6.drew [wa, w8, w8.setCell ⟨p, 7, none⟩ (.slice (some ⟨gn, 0, none⟩) (nn + 1) capn)] j).cell? ⟨w5.heap.size, 0, none⟩ = some (.int .i64 jl) ∧ (wsC w6.drew [wa, w8, w8.setCell ⟨p, 7, none⟩ (.slice (some ⟨gn, 0, none⟩) (nn + 1) capn)] j).cell? ⟨w5.heap.size, 1, none⟩ = some (.int .i64 jc) ∧ (wsC w6.drew [wa, w8, w8.setCell ⟨p, 7, none⟩ (.slice (some ⟨gn, 0, none⟩) (nn + 1) capn)] j).cell? ⟨w5.heap.size, 2, none⟩ = some (.int .i64 xstart) ∧
                (wsC w6.drew [wa, w8, w8.setCell ⟨p, 7, none⟩ (.slice (some ⟨gn, 0, none⟩) (nn + 1) capn)] j).cell? ⟨w5.heap.size, 3, none⟩ = some (.int .i64 xhours) ∧ (wsC w6.drew [wa, w8, w8.setCell ⟨p, 7, none⟩ (.slice (some ⟨gn, 0, none⟩) (nn + 1) capn)] j).cell? ⟨w5.heap.size, 4, none⟩ = some (.int .i64 0) from by
              intro j hj
              obtain rfl : j = 0 := by omega
              exact ⟨kl6.out.cell 0, kl6.out.cell 1, kl6.out.cell 2, kl6.out.cell 3, kl6.out.cell 4⟩)
            replace hrun := hide hrun
            replace hwa := hide hwa
            clear hG hrow4 hgrow hat hown hrow hi hz0 hz1 hz2 hra hkA hr6 hb8 hpa
            go_wp2_with fail
            refine (need_yes 0 _).mono ?_
            rintro e w9 ⟨rfl, rfl⟩
            go_wp2
            refine region_chain [7, 8, 12] [.pointer (some ⟨p, 0, none⟩), .pointer (some ⟨p, 0, none⟩), .pointer (some ⟨p, 0, none⟩), .pointer (some ⟨p, 7, none⟩), .pointer (some ⟨p, 7, none⟩), vl, .agg #[.int .i64 jl, .int .i64 jc, .int .i64 xstart, .int .i64 xhours, .int .i64 0], .slice (some ⟨w6.heap.size, 0, none⟩) 1 1, (.slice (some ⟨gn, 0, none⟩) (nn + 1) capn), .pointer (some ⟨p, 0, none⟩), .pointer (some ⟨p, 7, none⟩), .pointer (some ⟨p, 7, none⟩), undef] (wsC w6.drew [wa, w8, (w8.setCell ⟨p, 7, none⟩ (.slice (some ⟨gn, 0, none⟩) (nn + 1) capn))]) (by kernel_rfl) (by kernel_rfl) (by kernel_rfl) (by kernel_rfl) rfl ?_ ?_
            · refine ⟨?_, ?_, ?_, ?_, ?_, ?_, ?_, ?_, ?_, ?_, ?_, ?_, ?_, trivial⟩
              · refine oneC_still 3 (by kernel_rfl) (by kernel_rfl) ?_
                intro y j K Q hd hj hK
                generalize wsC w6.drew [wa, w8, (w8.setCell ⟨p, 7, none⟩ (.slice (some ⟨gn, 0, none⟩) (nn + 1) capn))] j = W at *
                clear hd
                revert hK
                simp only [putAll, Act.put]
                go_simp
              · refine oneC_still 3 (by kernel_rfl) (by kernel_rfl) ?_
                intro y j K Q hd hj hK
                generalize wsC w6.drew [wa, w8, (w8.setCell ⟨p, 7, none⟩ (.slice (some ⟨gn, 0, none⟩) (nn + 1) capn))] j = W at *
                clear hd
                revert hK
                simp only [putAll, Act.put]
                go_simp
              · refine oneC_still 3 (by kernel_rfl) (by kernel_rfl) ?_
                intro y j K Q hd hj hK
                generalize wsC w6.drew [wa, w8, (w8.setCell ⟨p, 7, none⟩ (.slice (some ⟨gn, 0, none⟩) (nn + 1) capn))] j = W at *
                simp [depsC, Region.binds] at hd
                revert hK
                simp only [putAll, Act.put]
                go_simp
              · refine oneC_still 3 (by kernel_rfl) (by kernel_rfl) ?_
                intro y j K Q hd hj hK
                generalize wsC w6.drew [wa, w8, (w8.setCell ⟨p, 7, none⟩ (.slice (some ⟨gn, 0, none⟩) (nn + 1) capn))] j = W at *
                simp [depsC, Region.binds] at hd
                revert hK
                simp only [putAll, Act.put]
                go_simp
              · refine oneC_still 3 (by kernel_rfl) (by kernel_rfl) ?_
                intro y j K Q hd hj hK
                generalize wsC w6.drew [wa, w8, (w8.setCell ⟨p, 7, none⟩ (.slice (some ⟨gn, 0, none⟩) (nn + 1) capn))] j = W at *
                simp [depsC, Region.binds] at hd
                revert hK
                simp only [putAll, Act.put]
                go_simp
              · refine oneC_still 1 (by kernel_rfl) (by kernel_rfl) ?_
                intro y j K Q hd hj hK
                have a2 := hpc.out j (Nat.le_trans hj (by decide))
                generalize wsC w6.drew [wa, w8, (w8.setCell ⟨p, 7, none⟩ (.slice (some ⟨gn, 0, none⟩) (nn + 1) capn))] j = W at *
                simp [depsC, Region.binds] at hd
                revert hK
                simp only [putAll, Act.put]
                go_simp
              · refine oneC_still 0 (by kernel_rfl) (by kernel_rfl) ?_
                intro y j K Q hd hj hK
                have b0 := (hpl.out j hj).1
                have b1 := (hpl.out j hj).2.1
                have b2 := (hpl.out j hj).2.2.1
                have b3 := (hpl.out j hj).2.2.2.1
                have b4 := (hpl.out j hj).2.2.2.2
                generalize wsC w6.drew [wa, w8, (w8.setCell ⟨p, 7, none⟩ (.slice (some ⟨gn, 0, none⟩) (nn + 1) capn))] j = W at *
                clear hd
                revert hK
                simp only [putAll, Act.put]
                go_simp
              · refine oneC_eff 0 rfl ?_
                intro y K Q hd hK
                simp [depsC, Region.binds] at hd
                revert hK
                simp only [wsC, ← hwa.out]
                simp only [putAll, Act.put]
                go_simp
              · refine oneC_eff 1 rfl (eff_append rfl (.tmp 49) (.tmp 51) 39 rfl (vl) (.slice (some ⟨w6.heap.size, 0, none⟩) 1 1) ?_ ?_ hrun.out)
                · intro y hd
                  simp [depsC, Region.binds] at hd
                  simp only [putAll, Act.put]
                  go_simp
                  try exact hd.1
                · intro y hd
                  simp [depsC, Region.binds] at hd
                  simp only [putAll, Act.put]
                  go_simp
                  try exact hd.2
              · refine oneC_still 3 (by kernel_rfl) (by kernel_rfl) ?_
                intro y j K Q hd hj hK
                generalize wsC w6.drew [wa, w8, (w8.setCell ⟨p, 7, none⟩ (.slice (some ⟨gn, 0, none⟩) (nn + 1) capn))] j = W at *
                simp [depsC, Region.binds] at hd
                revert hK
                simp only [putAll, Act.put]
                go_simp
              · refine oneC_still 3 (by kernel_rfl) (by kernel_rfl) ?_
                intro y j K Q hd hj hK
                generalize wsC w6.drew [wa, w8, (w8.setCell ⟨p, 7, none⟩ (.slice (some ⟨gn, 0, none⟩) (nn + 1) capn))] j = W at *
                simp [depsC, Region.binds] at hd
                revert hK
                simp only [putAll, Act.put]
                go_simp
              · refine oneC_still 3 (by kernel_rfl) (by kernel_rfl) ?_
                intro y j K Q hd hj hK
                generalize wsC w6.drew [wa, w8, (w8.setCell ⟨p, 7, none⟩ (.slice (some ⟨gn, 0, none⟩) (nn + 1) capn))] j = W at *
                simp [depsC, Region.binds] at hd
                revert hK
                simp only [putAll, Act.put]
                go_simp
              · refine oneC_eff 2 rfl ?_
                intro y K Q hd hK
                simp [depsC, Region.binds] at hd
                revert hK
                simp only [wsC]
                simp only [putAll, Act.put]
                go_simp
            · simp only [putAll, Act.put, wsC, List.length_cons, List.length_nil]
              simp only [List.setIfInBounds_toArray, List.set_cons_succ, List.set_cons_zero, List.getD_cons_zero, List.getD_cons_succ]
              clear hrun hwa hpc hpl hc8 hz8 hp0
              go_wp2
              go_end0
              exact ⟨.inl ⟨rfl, rfl, _, _, _, _, _, _, hfin.out⟩, hkF.out⟩
          · rw [if_neg her] at hq
            subst hq
            have her2 : (er == 0) = false := by rw [beq_eq_false_iff_ne]; exact her
            replace her := hide her
            go_wp2_with fail
            refine (need_no er _).mono ?_
            rintro e w9 ⟨rfl, rfl⟩
            go_wp2
            exact ⟨rfl, .inr ⟨her.out, rfl, _, _, _, _, _, _, hraw.out _ hB6.out⟩, hk.out _ hB6.out⟩
end Go.Proofs.Ytkmhldjebopljaa

/-
  The lessons that a weather moves, one behind the other; books that stay while blocks behind them change.
-/
namespace Go.Proofs.Ytkmhldjebopljaa
open Go.RowKit RG

/-- What a weather makes of an open lesson. -/
def stp (S : BSch) (e : BEv) (b : Bks) (y : Nat × Les) : Bks := if y.2.start / 24 = e.day ∧ e.at_ < y.2.start ∧ (never S y.2.car).testBit e.weather.toNat = true then moveB S b y.1 else b
def mvs (S : BSch) (e : BEv) (b : Bks) (ys : List (Nat × Les)) : Bks := ys.foldl (stp S e) b
theorem mvs_snoc (S : BSch) (e : BEv) (b : Bks) (ys : List (Nat × Les)) (y : Nat × Les) : mvs S e b (ys ++ [y]) = stp S e (mvs S e b ys) y := by simp [mvs, List.foldl_append]
theorem stp_len (S : BSch) (e : BEv) (b : Bks) (y : Nat × Les) : (stp S e b y).les.length = b.les.length := by
  unfold stp
  split
  · exact move_len S b y.1
  · rfl
theorem mvs_len (S : BSch) (e : BEv) (ys : List (Nat × Les)) : ∀ (b : Bks), (mvs S e b ys).les.length = b.les.length := by
  induction ys with
  | nil => intro b; rfl
  | cons y ys ih => intro b; show (mvs S e (stp S e b y) ys).les.length = _; rw [ih, stp_len]
theorem mvs_at (S : BSch) (e : BEv) (b : Bks) (i : Nat) : ∀ j, i ≤ j → atL (mvs S e b (opn b.les i)).les j = atL b.les j := by
  induction i with
  | zero => intro j _; rfl
  | succ i ih =>
    intro j hj
    unfold opn
    split
    · rw [mvs_snoc]
      unfold stp
      split
      · rw [move_ne (by simp only; omega)]; exact ih j (by omega)
      · exact ih j (by omega)
    · exact ih j (by omega)
theorem moves_mvs (S : BSch) (e : BEv) (b : Bks) : ∀ (k i : Nat), i + k = b.les.length → movesB S e k i (mvs S e b (opn b.les i)) = mvs S e b (opn b.les b.les.length)
  | 0, i, h => by
    obtain rfl : i = b.les.length := by omega
    rfl
  | k + 1, i, h => by
    have hat := mvs_at S e b i i (Nat.le_refl _)
    unfold movesB
    have e1 : ((mvs S e b (opn b.les i)).les[i]?.getD default) = (b.les[i]?.getD default) := hat
    rw [e1]
    have e2 : (if (b.les[i]?.getD default).state = 0 ∧ (b.les[i]?.getD default).start / 24 = e.day ∧ e.at_ < (b.les[i]?.getD default).start ∧ (never S (b.les[i]?.getD default).car).testBit e.weather.toNat = true then moveB S (mvs S e b (opn b.les i)) i else mvs S e b (opn b.les i)) = mvs S e b (opn b.les (i + 1)) := by
      have e3 : opn b.les (i + 1) = if (b.les[i]?.getD default).state = 0 then opn b.les i ++ [(i, b.les[i]?.getD default)] else opn b.les i := rfl
      rw [e3]
      by_cases h0 : (b.les[i]?.getD default).state = 0
      · rw [if_pos h0, mvs_snoc]
        unfold stp
        simp only [h0, true_and]
      · rw [if_neg h0, if_neg (fun hh => h0 hh.1)]
    rw [e2]
    exact moves_mvs S e b k (i + 1) (by omega)
theorem mvs_all (S : BSch) (e : BEv) (b : Bks) : movesB S e b.les.length 0 b = mvs S e b (opn b.les b.les.length) := moves_mvs S e b b.les.length 0 (by omega)
theorem move_gd {S : BSch} {b : Bks} (h : Gd S b) (i : Nat) : Gd S (moveB S b i) := by
  have hok : ∀ l ∈ (moveB S b i).les, LesOk S.learners.length S.cars.length l := by
    unfold moveB
    refine les_set h.les fun hi => ?_
    have hl := les_at h.les hi
    have := fun x => later_ok (S := S) (b := b) hl (n := 201) (start := (b.les[i]?.getD default).start + 24) (x := x)
    split
    · rename_i l hl2
      exact this l (by have := hl.2.2.2.1; omega) hl2
    · obtain ⟨a, b', c, d, _⟩ := hl
      exact ⟨a, b', c, d, by show (0 : Int) ≤ 1 ∧ (1 : Int) ≤ 3; omega⟩
  exact ⟨hok, h.km, h.since, h.acc, ⟨h.lim.acc, h.lim.km, h.lim.since, h.lim.pst, by rw [move_len]; exact h.lim.les, h.lim.wt, h.lim.wts⟩, h.time⟩
theorem stp_gd {S : BSch} {e : BEv} {b : Bks} (h : Gd S b) (y : Nat × Les) : Gd S (stp S e b y) := by
  unfold stp
  split
  · exact move_gd h y.1
  · exact h
theorem mvs_gd {S : BSch} {e : BEv} (ys : List (Nat × Les)) : ∀ {b : Bks}, Gd S b → Gd S (mvs S e b ys) := by
  induction ys with
  | nil => intro b h; exact h
  | cons y ys ih => intro b h; exact ih (stp_gd h y)

section
variable {w w' : World} {X Y : Nat → Prop} {p : Nat} {L C T : Option Addr} {cl cc ct : Nat} {S : BSch} {vl vk vs va : Value} {mb : Nat} {vp : Value} {les km since acc pst : List (List Value)} {wt : List (Int × Int)} {tm ev : Int}
/-- The books' blocks lie below B. -/
structure RawLt (B p : Nat) (vl vk vs va : Value) (mb : Nat) (vp : Value) : Prop where
  p : p < B
  m : mb < B
  l : ∀ g, vl.ownBlock = some g → g < B
  k : ∀ g, vk.ownBlock = some g → g < B
  s : ∀ g, vs.ownBlock = some g → g < B
  a : ∀ g, va.ownBlock = some g → g < B
  t : ∀ g, vp.ownBlock = some g → g < B
theorem Raw.lt (h : Raw w X p L C T cl cc ct S vl vk vs va mb vp les km since acc pst wt tm ev) : RawLt w.heap.size p vl vk vs va mb vp :=
  ⟨h.blk.lt, h.map.lt, fun _ hg => h.les.lt hg, fun _ hg => h.km.lt hg, fun _ hg => h.since.lt hg, fun _ hg => h.acc.lt hg, fun _ hg => h.pst.lt hg⟩
theorem Raw.stay {B : Nat} (h : Raw w X p L C T cl cc ct S vl vk vs va mb vp les km since acc pst wt tm ev) (hB : RawLt B p vl vk vs va mb vp) (hX : ∀ g, X g → g < B) (hb : Below B w w') : Raw w' X p L C T cl cc ct S vl vk vs va mb vp les km since acc pst wt tm ev := by
  have hkx : KeptX X w w' := ⟨hb.os, hb.tape, hb.output, hb.size, fun g hg => hb.block g (hX g hg)⟩
  exact ⟨h.old.kept hkx, h.sch.kept hkx, h.px, h.mx, h.blk.below hb hB.p, h.les.blk fun g h1 _ => hb.block g (hB.l g h1), h.km.blk fun g h1 _ => hb.block g (hB.k g h1), h.since.blk fun g h1 _ => hb.block g (hB.s g h1), h.acc.blk fun g h1 _ => hb.block g (hB.a g h1),
    h.map.blk (hb.block mb hB.m), h.pst.blk fun g h1 _ => hb.block g (hB.t g h1), h.ks, h.ka, h.sa⟩
end
end Go.Proofs.Ytkmhldjebopljaa

/-
  Whether an index is in a set.
-/
namespace Go.Proofs.Ytkmhldjebopljaa
open Go.RowKit RG

theorem Has_any (n i : Nat) (hn : n ≤ 255) (hi : i ≤ 7) (w : World) : Calls Try.prog 106 #[.int .i64 n, .int .i64 i] w fun e w' => e = .returned (.bool (n.testBit i)) ∧ w = w' := by
  go_enter Try.func106, Try.ntmps106
  go_wp2
  have h1 : ((n : Int) / 2 ^ i) = ((n / 2 ^ i : Nat) : Int) := by
    rw [Int.natCast_ediv, Int.natCast_pow]; rfl
  have hlt : n / 2 ^ i ≤ 255 := Nat.le_trans (Nat.div_le_self _ _) hn
  have h2 : (bits .and .i64 ((n : Int) / 2 ^ i) 1 == 1) = n.testBit i := by
    rw [h1, show (1 : Int) = ((1 : Nat) : Int) from rfl, Bits.and_nat _ 1 (by omega) (by omega), Nat.and_one_is_mod, Nat.testBit_eq_decide_div_mod_eq, Bool.eq_iff_iff]
    simp
    omega
  rw [h2]
  go_ret
  exact ⟨rfl, rfl⟩
end Go.Proofs.Ytkmhldjebopljaa

/-
  A region that draws its order, in a round of a loop over an iterator.
-/
namespace Go.Proofs.Ytkmhldjebopljaa.RG
open Go.RowKit

def noDefer (l : List Oper) : Bool := l.all fun o => match o.op with
  | .defer _ => false
  | _ => true
theorem noDefer_at {l : List Oper} (h : noDefer l = true) {i : Nat} {o : Oper} (ho : l[i]? = some o) : ∀ c, o.op ≠ .defer c := by
  intro c hc
  have := List.all_eq_true.1 h o (List.mem_of_getElem? ho)
  rw [hc] at this
  cases this
theorem wp_round {P : Program} {lp nn : Nat} {o : Oper} {a : Act} {w : World} {K : Act → World → Prop} {Q : Exit → Act → World → Prop} (hd : ∀ c, o.op ≠ .defer c) (h : o.wp P a w K Q) : o.wpIn (Fence.wide.inRound lp) nn P a w K Q := by
  refine ⟨fun _ _ => trivial, ?_⟩
  rw [Oper.semAt_eq _ _ _ hd]
  unfold Oper.wp at h
  generalize (execOp a.eval o).run P w = r at *
  cases r with
  | ok x w' =>
    cases x <;> first
      | exact h
      | exact ⟨fun h => absurd (show false = true from h) (by decide), CallsIn.inRound lp (callsIn_wide.2 h)⟩
      | exact ⟨fun h => absurd (show false = true from h) (by decide), fun c cs _ => let ⟨v, w', r, s⟩ := h c cs; ⟨v, w', r, stepsIn_wide.2 s⟩⟩
      | exact absurd h id
  | halt x w' => cases x <;> exact h

section
variable {P : Program} {lp nn : Nat}
theorem wpAny_rd {ops : Array Oper} {C : World → Prop} {Rel : World → World → Prop} {V : Nat → Value → World → Prop} {a0 : Act} {Q : Exit → Act → World → Prop}
    (hok : okB ops.toList 0 = true) (hnd : noDefer ops.toList = true) (hst : ∀ k v w w', C w → C w' → Rel w w' → V k v w → V k v w')
    (hall : All P ops C Rel V a0 ops.toList 0)
    (hend : ∀ y w, C w → Ends V y w 0 ops.size → Q .normal (putAll ops.toList 0 y a0) w) :
    ∀ (fuel : Nat) (listed : Array Bool) (y : Nat → Value) (w : World), listed.size = ops.size → cnt (fun j => !listed.getD j true) ops.size ≤ fuel → C w →
      (∀ k, k < ops.size → listed.getD k false = true → V k (y k) w) → wpAnyIn (Fence.wide.inRound lp) nn P .any ops Q fuel listed (putAll ops.toList 0 y a0) w := by
  have hdone : ∀ (listed : Array Bool) (y : Nat → Value) (w : World), listed.size = ops.size → C w → (∀ k, k < ops.size → listed.getD k false = true → V k (y k) w) →
      (∀ j, j < ops.size → listed.getD j true = true) → Q .normal (putAll ops.toList 0 y a0) w := by
    intro listed y w hs hC hV hl
    refine hend y w hC (Ends.of 0 _ fun k _ hk => hV k (by omega) ?_)
    have := hl k (by omega)
    simpa [Array.getD, hs, show k < ops.size by omega] using this
  have hacyc : ∀ (l : List Oper) (i j : Nat) (o : Oper), okB l i = true → l[j]? = some o → ∀ e ∈ o.after, Region.binds .any e = true → e.on < i + j := by
    intro l
    induction l with
    | nil => intro i j o _ hj; simp at hj
    | cons o' r ih =>
      intro i j o h hj e he hbb
      obtain ⟨h1, _, h3⟩ := okB_cons h
      cases j with
      | zero => simp only [List.getElem?_cons_zero, Option.some.injEq] at hj; subst hj; exact h1 e he hbb
      | succ j =>
        simp only [List.getElem?_cons_succ] at hj
        have := ih (i + 1) j o h3 hj e he hbb
        omega
  have hready : ∀ (listed : Array Bool), listed.size = ops.size → Region.ready .any ops listed = [] → ∀ j, j < ops.size → listed.getD j true = true := by
    intro listed hs hr j
    induction j using Nat.strongRecOn with
    | ind j ih =>
      intro hj
      cases hl : listed.getD j true with
      | true => rfl
      | false =>
        have hm : j ∈ Region.ready .any ops listed := by
          rw [mem_ready]
          refine ⟨hl, ops[j], Array.getElem?_eq_getElem hj, fun e he hbb => ?_⟩
          have := hacyc ops.toList 0 j ops[j] hok (by simp [hj]) e he hbb
          have h2 := ih e.on (by omega) (by omega)
          simpa [Array.getD, hs, show e.on < ops.size by omega] using h2
        rw [hr] at hm
        cases hm
  intro fuel
  induction fuel with
  | zero =>
    intro listed y w hs hc hC hV
    have hall' : ∀ j, j < ops.size → listed.getD j true = true := fun j hj => by
      have := cnt_zero _ _ (Nat.le_zero.1 hc) j hj
      simpa using this
    refine ⟨?_, hdone listed y w hs hC hV hall'⟩
    rw [List.eq_nil_iff_forall_not_mem]
    intro j hj
    rw [mem_ready] at hj
    obtain ⟨h1, o, ho, _⟩ := hj
    have := hall' j (Array.getElem?_eq_some_iff.1 ho).1
    rw [h1] at this
    cases this
  | succ fuel ih =>
    intro listed y w hs hc hC hV
    refine ⟨fun hr => hdone listed y w hs hC hV (hready listed hs hr), fun i hi => ?_⟩
    rw [mem_ready] at hi
    obtain ⟨hl, o, ho, hdep⟩ := hi
    have hlt : i < ops.size := (Array.getElem?_eq_some_iff.1 ho).1
    have hol : ops.toList[i]? = some o := by simpa using ho
    have h1 := All.get hall hol
    rw [Nat.zero_add] at h1
    have hnext : ∀ a' w', Out C Rel (V i) (putAll ops.toList 0 y a0) o.dst w a' w' → wpAnyIn (Fence.wide.inRound lp) nn P .any ops Q fuel (listed.setIfInBounds i true) a' w' := by
      rintro a' w' ⟨v, rfl, hC', hR, hVi⟩
      rw [putAll_upd ops.toList 0 i y a0 o v hok hol, Nat.zero_add]
      refine ih _ _ _ (by simpa using hs) ?_ hC' (fun k hk hlk => ?_)
      · have := cnt_lt (fun j => !listed.getD j true) (fun j => !(listed.setIfInBounds i true).getD j true) (fun j hj => by
          by_cases e : i = j
          · subst e; simp [Array.getD, Array.setIfInBounds, hs, hlt] at hj
          · rw [getD_set_ne true e] at hj; exact hj) i (by simp [hl]) (by simp [Array.getD, Array.setIfInBounds, hs, hlt]) ops.size hlt
        omega
      · by_cases e : k = i
        · subst e; simpa [upd] using hVi
        · have : upd y i v k = y k := by simp [upd, e]
          rw [this]
          rw [getD_set_ne false (fun h => e h.symm)] at hlk
          exact hst k _ w w' hC hC' hR (hV k hk hlk)
    have h2 := h1 y w (wpAnyIn (Fence.wide.inRound lp) nn P .any ops Q fuel (listed.setIfInBounds i true)) Q (fun v w' => C w' ∧ Rel w w' ∧ V i v w') hC (deps_of _ fun e he hb => by
      have he' : e ∈ o.after := by simpa using he
      have h3 := hdep e he' hb
      have hlt2 := hacyc ops.toList 0 i o hok hol e he' hb
      exact hV e.on (by omega) h3) (fun v w' a b c => ⟨a, b, c⟩) (fun v w' h => hnext _ _ ⟨v, rfl, h⟩)
    unfold wpOpIn
    simp only [ho]
    split
    · rename_i hw; simp only [hw, if_true] at h2; exact wp_round (noDefer_at hnd hol) h2
    · rename_i hw; simp only [hw] at h2; exact ⟨fun _ _ => trivial, h2⟩


theorem region_rd {id : Nat} {Q : Exit → Act → World → Prop} {a : Act} {w : World} {l : List Oper} (C : World → Prop) (Rel : World → World → Prop) (V : Nat → Value → World → Prop)
    (hm : P.follows .mixedOrders = true) (hok : okB l 0 = true) (hnd : noDefer l = true) (hC : C w.drew) (hst : ∀ k v w w', C w → C w' → Rel w w' → V k v w → V k v w')
    (hall : All P l.toArray C Rel V a l 0) (hend : ∀ y w, C w → Ends V y w 0 l.length → Q .normal (putAll l 0 y a) w) :
    (Code.region id l.toArray true).wpIn (Fence.wide.inRound lp) nn P Q a w := by
  refine wpIn_region_any hm ?_
  have := wpAny_rd (P := P) (lp := lp) (nn := nn) (ops := l.toArray) (C := C) (Rel := Rel) (V := V) (a0 := a) (Q := Q) (by simpa using hok) (by simpa using hnd) hst (by simpa using hall) (by simpa using hend) l.toArray.size
    (Array.replicate l.toArray.size false) (start l a) w.drew (by simp) (cnt_le _ _) hC (fun k hk h => by
      simp [Array.getD] at h)
  rw [show (l.toArray).toList = l by simp, putAll_start l 0 (start l a) a (fun j o hj e he => by simp [start, hj, he])] at this
  exact this
/-- THE RULE in a round, where memory only grows. -/
theorem region_grow_rd {id : Nat} {Q : Exit → Act → World → Prop} {a : Act} {w : World} {l : List Oper} (L : List (Value → World → Prop))
    (hm : P.follows .mixedOrders = true) (hok : okB l 0 = true) (hnd : noDefer l = true) (hlen : L.length = l.length) (hL : AllStb L)
    (hall : All P l.toArray (Go.RowKit.Below w.heap.size w) (fun u u' => Go.RowKit.Below u.heap.size u u') (VL L) a l 0)
    (hend : ∀ y w', Go.RowKit.Below w.heap.size w w' → EndsL L y w' 0 → Q .normal (putAll l 0 y a) w') :
    (Code.region id l.toArray true).wpIn (Fence.wide.inRound lp) nn P Q a w :=
  region_rd _ _ _ hm hok hnd (Go.RowKit.Below.refl _ _).drew (fun k v u u' _ _ h hv => hL.at_ k v u u' h hv) hall
    (fun y w' hC hE => hend y w' hC (EndsL.of 0 fun k hk => by
      have := hE.get (k := k) (by omega)
      simpa using this))
end
end Go.Proofs.Ytkmhldjebopljaa.RG
