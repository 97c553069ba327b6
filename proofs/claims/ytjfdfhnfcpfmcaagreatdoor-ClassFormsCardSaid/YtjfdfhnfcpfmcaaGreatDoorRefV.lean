/-
  The reference's Allows.
-/
import Derived.Test.YtjfdfhnfcpfmcaaGreatDoorRefU
namespace Go.Proofs.YtjfdfhnfcpfmcaaGreatDoor
open Go.RowKit RG

set_option maxRecDepth 100000 in
set_option maxHeartbeats 4000000 in
theorem RAllows_any (A A2 R R' : Option Addr) (cc c2 cr cr' : Nat) (S : Sys) (ra rb : List (Int × Int)) (w : World) (h : InMem w A A2 cc c2 S) (hr : RdRts w R ra.length ra) (hr' : RdRts w R' rb.length rb) :
    Calls Tryz.prog 40 #[.agg #[.slice A S.cs.length cc, .slice A2 S.codes.length c2], .slice R ra.length cr, .slice R' rb.length cr'] w fun e w' =>
      e = .returned (.tuple #[.bool (allowsF S ra rb).1, .int .i64 (allowsF S ra rb).2]) ∧ Below w.heap.size w w' := by
  have hB := hide ((Below.refl w.heap.size w).alloc (Nat.le_refl _) (.cells #[.slice A S.cs.length cc, .slice A2 S.codes.length c2] 38))
  have hS := hide (Blk.new_ (w := w) (g := w.heap.size) (t := 38) (cs := #[.slice A S.cs.length cc, .slice A2 S.codes.length c2]) rfl)
  have hask := hide (fun W (hb : Below w.heap.size w W) => askedR_any A A2 R cc c2 cr S ra W (h.below hb) (hr.below hb))
  have hask2 := hide (fun W (hb : Below w.heap.size w W) => askedR_any A A2 R' cc c2 cr' S rb W (h.below hb) (hr'.below hb))
  by_cases ha : openF S [ra] = 0
  · rw [ha] at hask
    by_cases hb0 : openF S [rb] = 0
    · rw [hb0] at hask2
      have gd := (openF_good ha).1
      have ga := (openF_good ha).2 ra (List.mem_singleton.2 rfl)
      have gb := (openF_good hb0).2 rb (List.mem_singleton.2 rfl)
      have h0 : openF S [ra, rb] = 0 := by rw [openF_pair, if_pos ha]; exact hb0
      have hall := hide (fun (c f : Nat) (hc : c < S.cs.length) (hf : f < 2 ^ S.codes.length) (W : World) (hb : Below w.heap.size w W) =>
        show Calls Tryz.prog 53 #[.agg #[.slice A S.cs.length cc, .slice A2 S.codes.length c2], .slice R ra.length cr, .int .i64 c, .int .i64 f] W fun e w' => e = .returned (.bool (mayL S ra c f)) ∧ Below W.heap.size W w' from AllowedR_any A A2 R cc c2 cr S ra c f W (h.below hb) gd (hr.below hb) ga hc hf)
      have hall2 := hide (fun (c f : Nat) (hc : c < S.cs.length) (hf : f < 2 ^ S.codes.length) (W : World) (hb : Below w.heap.size w W) =>
        show Calls Tryz.prog 53 #[.agg #[.slice A S.cs.length cc, .slice A2 S.codes.length c2], .slice R' rb.length cr', .int .i64 c, .int .i64 f] W fun e w' => e = .returned (.bool (mayL S rb c f)) ∧ Below W.heap.size W w' from AllowedR_any A A2 R' cc c2 cr' S rb c f W (h.below hb) gd (hr'.below hb) gb hc hf)
      have hT := hide (fun (hq : ∀ c f, c < S.cs.length → f < 2 ^ S.codes.length → mayL S rb c f = true → mayL S ra c f = true) => show allowsF S ra rb = (true, 0) by
        unfold allowsF; rw [if_neg (by rw [h0]; simp), (allowsB_may gd ga gb).2 hq])
      have hF := hide (fun c f (hc : c < S.cs.length) (hf : f < 2 ^ S.codes.length) (h1 : mayL S rb c f = true) (h2 : mayL S ra c f = false) => show allowsF S ra rb = (false, 0) by
        unfold allowsF; rw [if_neg (by rw [h0]; simp)]
        congr 1
        rw [Bool.eq_false_iff]
        intro hq
        have := (allowsB_may gd ga gb).1 hq c f hc hf h1
        rw [h2] at this; cases this)
      have hn12 := gd.bd.1.2
      have hn28 := gd.bd.2
      have hpb : 2 ^ S.codes.length ≤ 2 ^ 8 := Nat.pow_le_pow_right (by omega) hn28
      have hpb : 2 ^ S.codes.length ≤ 256 := hpb
      have hsets := hide (fun W => SetsR_any S.codes.length W (by omega))
      clear h hr hr' h0 gd ga gb ha hb0
      generalize allowsF S ra rb = AF at *
      obtain ⟨a1, a2⟩ := AF
      simp only [Prod.mk.injEq] at hT hF
      generalize S.cs.length = n at *
      generalize S.codes.length = n2 at *
      generalize mayL S ra = ma at *
      generalize mayL S rb = mb at *
      generalize 2 ^ n2 = p at *
      generalize ra.length = m at *
      generalize rb.length = m' at *
      go_enter Tryz.func40, Tryz.ntmps40
      go_wp2_with fail
      generalize w.alloc (.cells #[.slice A n cc, .slice A2 n2 c2] 38) = w0 at *
      refine (hask.out _ hB.out).mono ?_
      rintro e w1 ⟨rfl, hb⟩
      replace hS := hide (hS.out.below hb hS.out.lt)
      replace hB := hide (hB.out.trans (hb.mono hB.out.size))
      clear hb hask
      have s0 : w1.cell? ⟨w.heap.size, 0, none⟩ = some (.slice A n cc) := hS.out.cell 0
      have s1 : w1.cell? ⟨w.heap.size, 1, none⟩ = some (.slice A2 n2 c2) := hS.out.cell 1
      go_wp2_with fail
      refine (hask2.out _ hB.out).mono ?_
      rintro e w2 ⟨rfl, hb⟩
      replace hS := hide (hS.out.below hb hS.out.lt)
      replace hB := hide (hB.out.trans (hb.mono hB.out.size))
      clear hb hask2 s0 s1
      go_wp2
      go_loopg [9] n (fun g cv wr => ∃ c : Nat, c ≤ n ∧ n - c ≤ g ∧ cv = .int .i64 c ∧ Hid (Below w.heap.size w wr) ∧ Hid (Blk wr w.heap.size 38 #[.slice A n cc, .slice A2 n2 c2]) ∧ Hid (∀ c', c' < c → ∀ f, f < p → mb c' f = true → ma c' f = true))
      case atStart => exact ⟨0, Nat.zero_le _, by omega, rfl, hB, hS, fun c' h => by omega⟩
      case round =>
        clear hB hS
        obtain ⟨c, hc, hg, rfl, hB, hS, hP⟩ := hrel
        have s0 : wr.cell? ⟨w.heap.size, 0, none⟩ = some (.slice A n cc) := hS.out.cell 0
        by_cases hlt : c < n
        · have hltz : (c : Int) < (n : Int) := by omega
          go_wp2
          clear s0
          go_loopg [10] p (fun g fv wr => ∃ f : Nat, f ≤ p ∧ p - f ≤ g ∧ fv = .int .i64 f ∧ Hid (Below w.heap.size w wr) ∧ Hid (Blk wr w.heap.size 38 #[.slice A n cc, .slice A2 n2 c2]) ∧ Hid (∀ f', f' < f → mb c f' = true → ma c f' = true))
          case atStart => exact ⟨0, Nat.zero_le _, by omega, rfl, hB, hS, fun f' h => by omega⟩
          case round =>
            clear hB hS
            obtain ⟨f, hf, hg2, rfl, hB, hS, hQ⟩ := hrel
            have s0 : wr.cell? ⟨w.heap.size, 0, none⟩ = some (.slice A n cc) := hS.out.cell 0
            have s1 : wr.cell? ⟨w.heap.size, 1, none⟩ = some (.slice A2 n2 c2) := hS.out.cell 1
            go_wp2_with fail
            refine (hsets.out wr).mono ?_
            rintro e w5 ⟨rfl, rfl⟩
            by_cases hlt2 : f < p
            · have hltz2 : (f : Int) < (p : Int) := by omega
              go_wp2_with fail
              refine (hall2.out c f hlt hlt2 _ hB.out).mono ?_
              rintro e w6 ⟨rfl, hb⟩
              replace hS := hide (hS.out.below hb hS.out.lt)
              replace hB := hide (hB.out.trans (hb.mono hB.out.size))
              clear hb s0 s1
              cases h1 : mb c f with
              | false =>
                have hQ2 := hide (show ∀ f', f' < f + 1 → mb c f' = true → ma c f' = true from fun f' hf' hm => by
                  by_cases e : f' = f
                  · subst e; rw [h1] at hm; cases hm
                  · exact hQ.out f' (by omega) hm)
                clear h1
                go_wp2
                go_roundg (p - (f + 1))
                case measure => omega
                case rel => exact ⟨f + 1, by omega, by omega, by go_num, hB, hS, hQ2⟩
              | true =>
                have s0 : w6.cell? ⟨w.heap.size, 0, none⟩ = some (.slice A n cc) := hS.out.cell 0
                have s1 : w6.cell? ⟨w.heap.size, 1, none⟩ = some (.slice A2 n2 c2) := hS.out.cell 1
                go_wp2_with fail
                refine (hall.out c f hlt hlt2 _ hB.out).mono ?_
                rintro e w7 ⟨rfl, hb⟩
                replace hS := hide (hS.out.below hb hS.out.lt)
                replace hB := hide (hB.out.trans (hb.mono hB.out.size))
                clear hb s0 s1
                cases h2 : ma c f with
                | true =>
                  have hQ2 := hide (show ∀ f', f' < f + 1 → mb c f' = true → ma c f' = true from fun f' hf' hm => by
                    by_cases e : f' = f
                    · subst e; exact h2
                    · exact hQ.out f' (by omega) hm)
                  clear h1 h2
                  go_wp2
                  go_roundg (p - (f + 1))
                  case measure => omega
                  case rel => exact ⟨f + 1, by omega, by omega, by go_num, hB, hS, hQ2⟩
                | false =>
                  obtain ⟨rfl, rfl⟩ := hF.out c f hlt hlt2 h1 h2
                  clear h1 h2 hT
                  go_wp2
                  go_ret2
                  exact ⟨rfl, hB.out⟩
            · obtain rfl : p = f := by omega
              have hltz2 : ¬ (p : Int) < (p : Int) := by omega
              have hP2 := hide (show ∀ c', c' < c + 1 → ∀ f, f < p → mb c' f = true → ma c' f = true from fun c' hc' f hf => by
                by_cases e : c' = c
                · subst e; exact hQ.out f hf
                · exact hP.out c' (by omega) f hf)
              clear s0 s1
              go_wp2
              go_roundg (n - (c + 1))
              case measure => omega
              case rel => exact ⟨c + 1, by omega, by omega, by go_num, hB, hS, hP2⟩
        · obtain rfl : n = c := by omega
          have hltz : ¬ (n : Int) < (n : Int) := by omega
          obtain ⟨rfl, rfl⟩ := hT.out (fun c f hc hf => hP.out c hc f hf)
          go_wp2
          go_ret2
          exact ⟨rfl, hB.out⟩
    · have hAF : allowsF S ra rb = (false, openF S [rb]) := by
        unfold allowsF
        rw [openF_pair, if_pos ha, if_pos hb0]
      rw [hAF]
      clear h hr hr' hAF ha
      generalize openF S [rb] = q at *
      generalize S.cs.length = n at *
      generalize S.codes.length = n2 at *
      generalize ra.length = m at *
      generalize rb.length = m' at *
      have hb2 : (q != 0) = true := by rw [bne_iff_ne]; exact hb0
      replace hb0 := hide hb0
      go_enter Tryz.func40, Tryz.ntmps40
      go_wp2_with fail
      generalize w.alloc (.cells #[.slice A n cc, .slice A2 n2 c2] 38) = w0 at *
      refine (hask.out _ hB.out).mono ?_
      rintro e w1 ⟨rfl, hb⟩
      replace hS := hide (hS.out.below hb hS.out.lt)
      replace hB := hide (hB.out.trans (hb.mono hB.out.size))
      clear hb hask
      have s0 : w1.cell? ⟨w.heap.size, 0, none⟩ = some (.slice A n cc) := hS.out.cell 0
      have s1 : w1.cell? ⟨w.heap.size, 1, none⟩ = some (.slice A2 n2 c2) := hS.out.cell 1
      go_wp2_with fail
      refine (hask2.out _ hB.out).mono ?_
      rintro e w2 ⟨rfl, hb⟩
      replace hB := hide (hB.out.trans (hb.mono hB.out.size))
      clear hb hask2 s0 s1 hS
      go_wp2
      go_ret2
      exact ⟨rfl, hB.out⟩
  · have hAF : allowsF S ra rb = (false, openF S [ra]) := by
      unfold allowsF
      rw [openF_pair, if_neg ha, if_pos ha]
    rw [hAF]
    clear h hr hr' hAF hask2
    generalize openF S [ra] = q at *
    generalize S.cs.length = n at *
    generalize S.codes.length = n2 at *
    generalize ra.length = m at *
    generalize rb.length = m' at *
    have hb2 : (q != 0) = true := by rw [bne_iff_ne]; exact ha
    have hb3 : (q == 0) = false := by rw [beq_eq_false_iff_ne]; exact ha
    replace ha := hide ha
    go_enter Tryz.func40, Tryz.ntmps40
    go_wp2_with fail
    generalize w.alloc (.cells #[.slice A n cc, .slice A2 n2 c2] 38) = w0 at *
    refine (hask.out _ hB.out).mono ?_
    rintro e w1 ⟨rfl, hb⟩
    replace hB := hide (hB.out.trans (hb.mono hB.out.size))
    clear hb hask hS
    go_wp2
    go_ret2
    exact ⟨rfl, hB.out⟩
end Go.Proofs.YtjfdfhnfcpfmcaaGreatDoor
