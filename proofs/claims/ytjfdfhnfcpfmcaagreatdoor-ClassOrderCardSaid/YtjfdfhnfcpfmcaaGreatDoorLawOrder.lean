/-
  The law ClassOrder returns true.
-/
import Derived.Test.YtjfdfhnfcpfmcaaGreatDoorRegOr
import Derived.Test.YtjfdfhnfcpfmcaaGreatDoorArgs5
import Derived.Deep.CutRange
namespace Go.Proofs.YtjfdfhnfcpfmcaaGreatDoor
open Go.RowKit RG

/-- A row of rights, cut. -/
theorem RdRts.cut {w : World} {b off m : Nat} {M : List (Int × Int)} (h : RdRts w (some ⟨b, off, none⟩) m M) {a : Nat} (ha : a ≤ m) :
    RdRts w (some ⟨b, off, none⟩) a (M.take a) ∧ RdRts w (some ⟨b, off + a * 2, none⟩) (m - a) (M.drop a) := by
  have hl := h.len
  refine ⟨⟨⟨by simp; omega, fun x hx => ?_, fun hn => ?_⟩, by have := h.2; omega⟩, ⟨⟨by simp; omega, fun x hx => ?_, fun hn => ?_⟩, by have := h.2; omega⟩⟩
  · obtain ⟨r, _, rfl⟩ := List.mem_map.1 hx
    rfl
  · obtain ⟨b', off', e, hlt, hc⟩ := h.1.2.2 (by omega)
    injection e with e
    injection e with e1 e2
    subst e1 e2
    refine ⟨_, _, rfl, hlt, fun j i u hu => hc j i u ?_⟩
    rw [List.map_take, List.getElem?_take] at hu
    split at hu
    · exact hu
    · simp at hu
  · obtain ⟨r, _, rfl⟩ := List.mem_map.1 hx
    rfl
  · obtain ⟨b', off', e, hlt, hc⟩ := h.1.2.2 (by omega)
    injection e with e
    injection e with e1 e2
    subst e1 e2
    refine ⟨_, _, rfl, hlt, fun j i u hu => ?_⟩
    rw [List.map_drop, List.getElem?_drop] at hu
    have := hc (a + j) i u hu
    rw [show off + (a + j) * 2 + i = off + a * 2 + j * 2 + i by omega] at this
    exact this
theorem own_slice {w : World} {base : Nat} {v : Value} {n : Nat} {l : List (Int × Int)} (h : OwnR w base v n l) (hl : l.length = n) (hm : n ≤ maxLen) :
    (v = .slice none 0 0 ∧ n = 0) ∨ ∃ g cap, v = .slice (some ⟨g, 0, none⟩) n cap ∧ g < w.heap.size ∧ n ≤ cap ∧ cap ≤ maxLen ∧ RdRts w (some ⟨g, 0, none⟩) n l := by
  subst hl
  obtain ⟨A, c, e, hr⟩ := isRts_flat h rfl hm
  rcases h.2 with h0 | ⟨g, cap, cur, rfl, _, hg, hnc, hcm, _⟩
  · exact .inl h0
  · right
    simp only [Value.slice.injEq, true_and] at e
    obtain ⟨rfl, rfl⟩ := e
    refine ⟨g, cap, rfl, ?_, hnc, hcm, hr⟩
    rcases Nat.lt_or_ge g w.heap.size with h' | h'
    · exact h'
    · rw [Array.getElem?_eq_none h'] at hg; cases hg
theorem rdRts_none (w : World) : RdRts w none 0 [] := ⟨RdRow.nil _ _ _, by unfold maxLen; simp⟩

set_option maxRecDepth 100000 in
set_option maxHeartbeats 8000000 in
theorem LawOrder_any (A A2 R X : Option Addr) (cc c2 cr cx : Nat) (S : Sys) (rs : List (Int × Int)) (bs : List Int) (w : World) (he : Env w) (h : InMem w A A2 cc c2 S) (hr : RdRts w R rs.length rs) (hx : RdU8s w X bs.length bs) :
    Calls Tryz.prog 13 #[.agg #[.slice A S.cs.length cc, .slice A2 S.codes.length c2], .slice R rs.length cr, .slice X bs.length cx] w fun e w' => e = .returned (.bool true) ∧ Below w.heap.size w w' := by
  have hB := hide ((Below.refl w.heap.size w).alloc (Nat.le_refl _) (.cells #[.slice A S.cs.length cc, .slice A2 S.codes.length c2] 38))
  have hS := hide (Blk.new_ (w := w) (g := w.heap.size) (t := 38) (cs := #[.slice A S.cs.length cc, .slice A2 S.codes.length c2]) rfl)
  have heW := hide he
  replace he := hide (he.below hB.out he.size)
  have hc1 := hide (fun W (hb : Below w.heap.size w W) => Least_E A A2 R cc c2 cr S rs W (h.below hb) (hr.below hb))
  by_cases h0 : openF S [rs] = 0
  · have gd := (openF_good h0).1
    have gr := (openF_good h0).2 rs (List.mem_singleton.2 rfl)
    have hval := hide (fun (L : Option Addr) (W : World) (hb : Below w.heap.size w W) (hl : RdLists W L 1 [rs]) => (valid_any A A2 L cc c2 1 1 S [rs] W (h.below hb) hl).mono (R' := fun e w' => e = .returned (.bool true) ∧ Below W.heap.size W w') (fun e w' hh => ⟨by rw [hh.1, h0]; rfl, hh.2⟩))
    have hcz := hide (fun W (hb : Below w.heap.size w W) => (hc1.out W hb).mono (R' := fun e w' => (∃ v, e = .returned (.tuple #[v, .int .i64 0]) ∧ ∃ L, FormP S.cs S.cs.length (· ∈ rs) L ∧ IsRts L v w') ∧ Below W.heap.size W w') (fun e w' hh => ⟨by
      rcases hh.1 with h1 | ⟨_, v, L, e1, h2, h3⟩
      · exact absurd h0 h1.1
      · exact ⟨v, e1, L, h2, h3⟩, hh.2⟩))
    have hcM := hide (fun (M : List (Int × Int)) (gM : GoodR S M) (D : Option Addr) (dc : Nat) W (hb : Below w.heap.size w W) (hD : RdRts W D M.length M) => (Least_E A A2 D cc c2 dc S M W (h.below hb) hD).mono (R' := fun e w' => (∃ v, e = .returned (.tuple #[v, .int .i64 0]) ∧ ∃ L, FormP S.cs S.cs.length (· ∈ M) L ∧ IsRts L v w') ∧ Below W.heap.size W w') (fun e w' hh => ⟨by
      rcases hh.1 with h1 | ⟨_, v, L, e1, h2, h3⟩
      · exact absurd (openF_good_of gd gM) h1.1
      · exact ⟨v, e1, L, h2, h3⟩, hh.2⟩))
    have hord := hide (fun (M : List (Int × Int)) (gM : GoodR S M) (hq : ∀ c f, mayL S M c f = mayL S rs c f) (L1 L2 : List (Int × Int)) (h1 : FormP S.cs S.cs.length (· ∈ rs) L1) (h2 : FormP S.cs S.cs.length (· ∈ M) L2) => form_order gd gr gM hq h1 h2)
    have hsame := hide (fun (v v' : Value) (W : World) (K : List (Int × Int)) (h1 : IsRts K v W) (h2 : IsRts K v' W) => (Same_k v v' W K K h1 h2).mono (R' := fun e w' => e = .returned (.bool true) ∧ Below W.heap.size W w') (fun e w' hh => ⟨by rw [hh.1]; simp, hh.2⟩))
    have hrA := hide (fun W (hb : Below w.heap.size w W) => hr.below hb)
    have hxA := hide (fun W (hb : Below w.heap.size w W) => hx.below hb)
    have hcov := hide (fun (k : Nat) (hk : k < S.cs.length) (W : World) (hb : Below w.heap.size w W) => CoverR_any A A2 cc c2 S k W (h.below hb) gd.bd.1.2 gd.inc hk)
    have hmm := hr.2
    have hxm := hx.2.1
    have hm40 := gr.1
    have hn12 := gd.bd.1.2
    have hn28 := gd.bd.2
    unfold maxLen at hmm hxm
    have hgr2 := hide gr.2
    clear h hr hx hc1 h0
    replace gd := hide gd
    replace gr := hide gr
    generalize hFP : FormP S.cs S.cs.length = FP at *
    replace hFP := hide hFP
    generalize hmr : rs.length = m at *
    generalize hbl : bs.length = N at *
    generalize hn : S.cs.length = n at *
    generalize hn2 : S.codes.length = n2 at *
    replace hmr := hide hmr
    replace hbl := hide hbl
    replace hn := hide hn
    replace hn2 := hide hn2
    go_enter Tryz.func13, Tryz.ntmps13
    go_wp2_with fail
    generalize w.alloc (.cells #[.slice A n cc, .slice A2 n2 c2] 38) = w0 at *
    refine (hcz.out _ hB.out).mono ?_
    rintro e w1 ⟨⟨v1, rfl, L1, hL1, hv1⟩, hb⟩
    replace he := hide (he.out.below hb he.out.size)
    replace hS := hide (hS.out.below hb hS.out.lt)
    replace hB := hide (hB.out.trans (hb.mono hB.out.size))
    replace hL1 := hide hL1
    replace hv1 := hide hv1
    clear hb hcz
    have s0 : w1.cell? ⟨w.heap.size, 0, none⟩ = some (.slice A n cc) := hS.out.cell 0
    have s1 : w1.cell? ⟨w.heap.size, 1, none⟩ = some (.slice A2 n2 c2) := hS.out.cell 1
    have hA : Below w1.heap.size w1 (w1.alloc (.cells #[.slice R m cr] 46)) := (Below.refl _ _).alloc (Nat.le_refl _) _
    have hl2 := hide (show RdLists (w1.alloc (.cells #[.slice R m cr] 46)) (some ⟨w1.heap.size, 0, none⟩) 1 [rs] by
      have h1 := hrA.out _ hB.out
      have := RdLists.one (w := w1) (R := R) (c := cr) (rs := rs) (by rw [hmr.out]; exact h1) 46
      rw [hmr.out] at this
      exact this)
    replace he := hide (he.out.below hA he.out.size)
    replace hB := hide (hB.out.trans (hA.mono hB.out.size))
    replace hS := hide (hS.out.below hA hS.out.lt)
    replace hv1 := hide (IsRts.stb _ _ _ _ hA hv1.out)
    clear hA
    go_wp2_with fail
    clear s0 s1
    generalize w1.heap.size = g1 at *
    generalize w1.alloc (.cells #[.slice R m cr] 46) = w2 at *
    refine (hval.out _ _ hB.out hl2.out).mono ?_
    rintro e w8 ⟨rfl, hb⟩
    replace he := hide (he.out.below hb he.out.size)
    replace hS := hide (hS.out.below hb hS.out.lt)
    replace hB := hide (hB.out.trans (hb.mono hB.out.size))
    replace hv1 := hide (IsRts.stb _ _ _ _ hb hv1.out)
    clear hb hval hl2
    by_cases hm0 : m = 0
    · have hmb : ((m : Int) == 0) = true := by rw [hm0]; rfl
      replace hm0 := hide hm0
      clear hS hv1 hL1
      go_wp2_with fail
      refine (Awake_any _ he.out).mono ?_
      rintro e wu ⟨rfl, hb⟩
      replace hB := hide (hB.out.trans (hb.mono hB.out.size))
      clear hb
      go_wp2
      go_ret
      exact ⟨rfl, hB.out⟩
    · have hmb : ((m : Int) == 0) = false := by rw [beq_eq_false_iff_ne]; omega
      obtain ⟨i0, hi, hz0, hz1, hz2⟩ := info_parts infoRt
      replace hi := hide hi
      replace hz0 := hide hz0
      replace hz1 := hide hz1
      replace hz2 := hide hz2
      generalize hB8 : w8.heap.size = B8 at *
      have hsz8 : w.heap.size ≤ B8 := by rw [← hB8]; exact hB.out.size
      have hSl := hS.out.lt
      rw [hB8] at hSl
      replace hB8 := hide hB8
      have hE := hide (fun W (hb : Below w.heap.size w W) => heW.out.below hb heW.out.size)
      clear he heW
      have hstep := hide (fun (M : List (Int × Int)) (i a : Nat) (hi : i < rs.length) (hq : ∀ y, y ∈ M ↔ y ∈ rs.take i) => putAt_step (rs := rs) (M := M) (a := a) hi hq)
      go_wp2
      go_loopg [9, 10] m (fun g av iv wr => ∃ (i : Nat) (M : List (Int × Int)) (vo : Value), i ≤ m ∧ m - i ≤ g ∧ iv = .int .i64 i ∧ vo = av ∧ Hid (Below B8 w8 wr) ∧ Hid (M.length = i) ∧ Hid (∀ y, y ∈ M ↔ y ∈ rs.take i) ∧ Hid (OwnR wr B8 vo i M))
      case atStart => exact ⟨0, [], _, Nat.zero_le _, by omega, rfl, rfl, by rw [← hB8.out]; exact Below.refl _ _, rfl, fun y => by simp, ⟨rfl, .inl ⟨rfl, rfl⟩⟩⟩
      case round =>
        obtain ⟨i, M, vo, him, hg, rfl, rfl, hW, hM, hMy, hown⟩ := hrel
        by_cases hlt : i < m
        · have hltz : (i : Int) < (m : Int) := by omega
          have hi0 : (0 : Int) ≤ (i : Int) := by omega
          have hBW := hide (hB.out.trans (hW.out.mono hsz8))
          obtain ⟨xc, xk, hxck, hxc, hxk⟩ := hgr2.out i hlt
          obtain ⟨b, off, z0, z1, rfl, hb, e1, r0, r1⟩ := (hrA.out _ hBW.out).1.cells2 hlt
          rw [row_at rs i (by rw [hmr.out]; exact hlt), hxck] at e1
          simp only [List.cons.injEq, and_true] at e1
          obtain ⟨rfl, rfl⟩ := e1
          have hvo := own_slice hown.out hM.out (by unfold maxLen; omega)
          obtain ⟨Aw, cap, rfl, hvo2⟩ : ∃ Aw cap, vo = .slice Aw i cap ∧ ((Aw = none ∧ cap = 0 ∧ i = 0) ∨ ∃ g, Aw = some ⟨g, 0, none⟩ ∧ g < wr.heap.size ∧ i ≤ cap ∧ cap ≤ maxLen ∧ RdRts wr (some ⟨g, 0, none⟩) i M) := by
            rcases hvo with ⟨rfl, h0⟩ | ⟨g, cap, rfl, h1, h2, h3, h4⟩
            · exact ⟨none, 0, by rw [h0], .inl ⟨rfl, rfl, h0⟩⟩
            · exact ⟨_, cap, rfl, .inr ⟨g, rfl, h1, h2, h3, h4⟩⟩
          clear hvo
          replace hvo2 := hide hvo2
          replace r0 := hide r0
          replace r1 := hide r1
          replace hxck := hide hxck
          go_upto_if 55 with (fail)
          go_cut [11] from 47 to 82 (fun v wx => ∃ a : Nat, a ≤ i ∧ v = .int .i64 a ∧ wx = wr)
          case first =>
            by_cases hN : 0 < N
            · have hNz : (0 : Int) < (N : Int) := by omega
              have hN0 : ¬ N = 0 := by omega
              have hmod : (i : Int).tmod (N : Int) = ((i % N : Nat) : Int) := by rw [Int.tmod_eq_emod_of_nonneg (by omega)]; norm_cast
              have hq : i % N < N := Nat.mod_lt _ hN
              obtain ⟨xb, xo, rfl, hxb, hxc2⟩ := (hxA.out _ hBW.out).2.2.2 hN
              have c0 := hxc2 (i % N) hq
              have hbr := (hxA.out _ hBW.out).2.2.1 (i % N) hq
              generalize bs[i % N]?.getD 0 = bv at *
              generalize i % N = q at *
              obtain ⟨bn, rfl⟩ : ∃ bn : Nat, bv = bn := ⟨bv.toNat, by omega⟩
              have hmod2 : (bn : Int).tmod ((i : Int) + 1) = ((bn % (i + 1) : Nat) : Int) := by rw [Int.tmod_eq_emod_of_nonneg (by omega)]; norm_cast
              have hq2 : bn % (i + 1) < i + 1 := Nat.mod_lt _ (by omega)
              generalize bn % (i + 1) = a at *
              replace hxc2 := hide hxc2
              have hqz : (q : Int) < (N : Int) := by omega
              have hq0 : (0 : Int) ≤ (q : Int) := by omega
              have hi1 : ¬ (i : Int) + 1 = 0 := by omega
              go_wp2
              go_meet
              case rel => exact ⟨a, by omega, rfl, rfl⟩
            · have hNz : ¬ (0 : Int) < (N : Int) := by omega
              go_wp2
              go_meet
              case rel => exact ⟨0, by omega, rfl, rfl⟩
          case rest =>
            obtain ⟨a, ha, rfl, rfl⟩ := hcut
            have haz : (a : Int) ≤ (i : Int) := by omega
            have ha0 : (0 : Int) ≤ (a : Int) := by omega
            have hbw : b < wc.heap.size := by have := (hrA.out _ hBW.out).1; exact hb
            have hput := hide (show ∀ y, y ∈ putAt M a ((xc : Int), (xk : Int)) ↔ y ∈ rs.take (i + 1) by
              have := hstep.out M i a (by rw [hmr.out]; exact hlt) hMy.out
              rw [hxck.out] at this
              exact this)
            rcases hvo2.out with ⟨rfl, rfl, rfl⟩ | ⟨gv, rfl, hgv, hic, hcm, hMr⟩
            · obtain rfl : a = 0 := by omega
              have hM0 : M = [] := List.eq_nil_of_length_eq_zero (by rw [hM.out])
              have hR1 := hide (show RdRts wc none 0 (M.take 0) ∧ (none = (none : Option Addr) → 0 = 0) from ⟨rdRts_none _, fun _ => rfl⟩)
              have hR2 := hide (show RdRts wc none (0 - 0) (M.drop 0) ∧ (none = (none : Option Addr) → 0 = 0) from ⟨by rw [hM0]; exact rdRts_none _, fun _ => rfl⟩)
              go_wp2
              refine region_inv_at (OrdI wc (.slice none 0 0) (.slice none 0 0) (.slice none (0 - 0) 0) (.slice (some ⟨b, off, none⟩) m cr) (.pointer (some ⟨b, off + 0 * 2, none⟩)) 0 0 (M.take 0) (M.drop 0) xc xk) (by kernel_rfl) (by kernel_rfl) ?_ ?_ ?_
              · refine ⟨(Below.refl _ _).drew, ?_⟩
                simp
                rfl
              · refine ⟨?_, ?_, ?_, ?_, ?_, ?_, ?_, ?_, ?_, ?_, ?_, ?_, ?_, ?_, ?_, ?_, trivial⟩
                all_goals
                  intro f y w6 K Q Cv hI hfi hdep hCv
                  have hC := hI.1
                  simp [Region.binds] at hdep
                · simp only [putAll, Act.put]; go_simp; intro hK; exact hK _ _ (hCv _ _ (hI.o0 hfi rfl))
                · have hf15 : f 15 = false := by
                    cases e : f 15 with
                    | false => rfl
                    | true => have := (hI.2.2.2.2.2.2.2.2.2.2.2.2.2.2.2.2.2.2.2.2.2.2 e).1; rw [hfi] at this; cases this
                  have y15 := hI.2.2.2.2.2.2.2.2.2.2.2.2.2.2.2.2.2.2.2.2.2.1 hf15
                  simp only [putAll, Act.put]; go_simp; intro hK; exact hK _ _ (hCv _ _ (hI.o1 rfl))
                · simp only [putAll, Act.put]; go_simp; intro hK; exact hK _ _ (hCv _ _ (hI.o2 rfl))
                · have y1 := hI.2.1 hdep.1
                  have y2 := hI.2.2.1 hdep.2
                  simp only [putAll, Act.put]; go_simp; intro hK; exact hK _ _ (hCv _ _ (hI.o3 rfl))
                · have y3 := hI.2.2.2.1 hdep.2
                  have o0 := hI.2.2.2.2.2.2.2.2.2.2.2.1 hdep.1 hfi
                  intro hK
                  refine wanted_if rfl ?_
                  refine wp_append_rtsL (.tmp 68) (.tmp 71) rfl wc.heap.size i0 hi.out hz0.out hz1.out hz2.out (y 0) 0 [] (by simp only [putAll, Act.put]; go_simp) o0 none 0 0 (M.take 0) (by simp only [putAll, Act.put]; go_simp; try exact y3) (hR1.out.1.below hC) (fun _ => rfl) (by unfold maxLen; omega) (by omega) hC.size ?_
                  intro v' w' h1 h2 h3
                  exact hK _ _ (hCv _ _ (hI.o4 hfi hdep.1 (by simpa [OwnR] using h1) h2 h3))
                · simp only [putAll, Act.put]; go_simp; intro hK; exact hK _ _ (hCv _ _ (hI.o5 rfl))
                · simp only [putAll, Act.put]; go_simp; intro hK; exact hK _ _ (hCv _ _ (hI.o6 rfl))
                · have y5 := hI.2.2.2.2.1 hdep.1
                  have y6 := hI.2.2.2.2.2.1 hdep.2
                  simp only [putAll, Act.put]; go_simp; intro hK; exact hK _ _ (hCv _ _ (hI.o7 rfl))
                · have y7 := hI.2.2.2.2.2.2.1 hdep
                  have q0 : w6.cell? ⟨b, off, none⟩ = some (.int .i64 xc) := by simpa using (cellB (o := off + 0 * 2) hC hbw).trans r0.out
                  have q1 : w6.cell? ⟨b, off + 1, none⟩ = some (.int .i64 xk) := by simpa using (cellB (o := off + 0 * 2 + 1) hC hbw).trans r1.out
                  simp only [putAll, Act.put]; go_simp; intro hK; exact hK _ _ (hCv _ _ (hI.o8 rfl))
                · have y8 := hI.2.2.2.2.2.2.2.1 hdep
                  simp only [putAll, Act.put]; go_simp; intro hK; exact hK _ _ (hCv _ _ (hI.o9 hfi rfl))
                · have o4 := hI.2.2.2.2.2.2.2.2.2.2.2.2.1 hdep.1 hfi
                  obtain ⟨g, y9, x2⟩ := hI.2.2.2.2.2.2.2.2.2.2.2.2.2.2.2.1 hdep.2.1
                  obtain ⟨_, x4, _, _⟩ := x2 hfi
                  obtain ⟨A9, c9, e9, hr9⟩ := isRts_blk (c := 1) [(xc, xk)] x4 rfl (by unfold maxLen; simp)
                  simp only [Value.slice.injEq] at e9
                  obtain ⟨rfl, _, rfl⟩ := e9
                  intro hK
                  refine wanted_if rfl ?_
                  refine wp_append_rtsL (.tmp 72) (.tmp 77) rfl wc.heap.size i0 hi.out hz0.out hz1.out hz2.out (y 4) 0 _ (by simp only [putAll, Act.put]; go_simp) o4 (some ⟨g, 0, none⟩) 1 1 [(xc, xk)] (by simp only [putAll, Act.put]; go_simp; try exact y9) hr9 (fun e => by cases e) (by unfold maxLen; omega) (by omega) hC.size ?_
                  intro v' w' h1 h2 h3
                  exact hK _ _ (hCv _ _ (hI.o10 hfi hdep.1 hdep.2.1 (by unfold OwnR; rw [List.flatMap_append]; exact h1) h2))
                · have hf15 : f 15 = false := by
                    cases e : f 15 with
                    | false => rfl
                    | true => have := (hI.2.2.2.2.2.2.2.2.2.2.2.2.2.2.2.2.2.2.2.2.2.2 e).2; rw [hfi] at this; cases this
                  have y15 := hI.2.2.2.2.2.2.2.2.2.2.2.2.2.2.2.2.2.2.2.2.2.1 hf15
                  simp only [putAll, Act.put]; go_simp; intro hK; exact hK _ _ (hCv _ _ (hI.o11 rfl))
                · simp only [putAll, Act.put]; go_simp; intro hK; exact hK _ _ (hCv _ _ (hI.o12 rfl))
                · have y11 := hI.2.2.2.2.2.2.2.2.1 hdep.1
                  have y12 := hI.2.2.2.2.2.2.2.2.2.1 hdep.2
                  simp only [putAll, Act.put]; go_simp; intro hK; exact hK _ _ (hCv _ _ (hI.o13 rfl))
                · have y13 := hI.2.2.2.2.2.2.2.2.2.2.1 hdep.2.1
                  have o10 := hI.2.2.2.2.2.2.2.2.2.2.2.2.2.1 hdep.1 hfi
                  intro hK
                  refine wanted_if rfl ?_
                  refine wp_append_rtsL (.tmp 78) (.tmp 81) rfl wc.heap.size i0 hi.out hz0.out hz1.out hz2.out (y 10) (0 + 1) _ (by simp only [putAll, Act.put]; go_simp) o10 none (0 - 0) 0 (M.drop 0) (by simp only [putAll, Act.put]; go_simp; try exact y13) (hR2.out.1.below hC) (fun _ => rfl) (by unfold maxLen; omega) (by omega) hC.size ?_
                  intro v' w' h1 h2 h3
                  rw [show 0 + 1 + (0 - 0) = 0 + 1 by omega] at h1
                  exact hK _ _ (hCv _ _ (hI.o14 hfi hdep.1 (by unfold OwnR; rw [List.flatMap_append]; exact h1) h2))
                · have hf14 : f 14 = true := hdep.1
                  simp only [putAll, Act.put]; go_simp; intro hK
                  exact hK _ _ (hCv _ _ (hI.o15 hf14 hdep.2.2.1 hdep.2.2.2.2.2.2.2.2.2.2.2.2.1 rfl))
              · intro f y w6 hf hI
                obtain ⟨hC, h1, h2, h3, h5, h6, h7, h8, h11, h12, h13, c0, c4, c10, c14, h9, h15, _⟩ := hI
                have ff : ∀ k, k < 16 → f k = true := fun k hk => hf k hk
                have o14 := c14 (ff 14 (by omega))
                have y15 := h15 (ff 15 (by omega))
                simp only [putAll, Act.put]
                simp only [List.setIfInBounds_toArray, List.set_cons_succ, List.set_cons_zero]
                rw [y15]
                have hWW := hide (hW.out.trans (hC.mono (by have := hW.out.size; have := hB8.out; omega)))
                have hown2 := hide (own_base (b' := B8) o14 (by have := hW.out.size; have := hB8.out; omega))
                clear hC h1 h2 h3 h5 h6 h7 h8 h11 h12 h13 c0 c4 c10 c14 h9 h15 ff hf o14 y15
                generalize y 0 = y0 at *
                generalize y 1 = y1 at *
                generalize y 2 = y2 at *
                generalize y 3 = y3 at *
                generalize y 4 = y4 at *
                generalize y 5 = y5 at *
                generalize y 6 = y6 at *
                generalize y 7 = y7 at *
                generalize y 8 = y8 at *
                generalize y 9 = y9 at *
                generalize y 10 = y10 at *
                generalize y 11 = y11 at *
                generalize y 12 = y12 at *
                generalize y 13 = y13 at *
                generalize y 14 = y14 at *
                go_wp2
                go_roundg (m - (0 + 1))
                case measure => omega
                case rel => exact ⟨0 + 1, putAt M 0 (xc, xk), y14, by omega, by omega, by go_num, rfl, hWW, by unfold Hid; rw [putAt_len, hM.out], hput, hown2⟩
            · have hac : a ≤ cap := by omega
              have hR1 := hide (show RdRts wc (some ⟨gv, 0, none⟩) a (M.take a) ∧ (some ⟨gv, 0, none⟩ = (none : Option Addr) → cap = 0) from ⟨(hMr.cut ha).1, fun e => by cases e⟩)
              have hR2 := hide (show RdRts wc (if cap = a then some ⟨gv, 0, none⟩ else some ⟨gv, a * 2, none⟩) (i - a) (M.drop a) ∧ ((if cap = a then some ⟨gv, 0, none⟩ else some ⟨gv, a * 2, none⟩) = (none : Option Addr) → cap - a = 0) from ⟨by
                have h2 := (hMr.cut ha).2
                rw [Nat.zero_add] at h2
                split
                · have e0 : i - a = 0 := by omega
                  have e1 : M.drop a = [] := List.drop_eq_nil_of_le (by rw [hM.out]; omega)
                  rw [e0, e1]
                  exact ⟨⟨rfl, by simp, by simp⟩, by unfold maxLen; simp⟩
                · exact h2, fun e => by split at e <;> cases e⟩)
              replace hMr := hide hMr
              go_wp2
              refine region_inv_at (OrdI wc (.slice (some ⟨gv, 0, none⟩) i cap) (.slice (some ⟨gv, 0, none⟩) a cap) (.slice (if cap = a then some ⟨gv, 0, none⟩ else some ⟨gv, a * 2, none⟩) (i - a) (cap - a)) (.slice (some ⟨b, off, none⟩) m cr) (.pointer (some ⟨b, off + i * 2, none⟩)) a i (M.take a) (M.drop a) xc xk) (by kernel_rfl) (by kernel_rfl) ?_ ?_ ?_
              · refine ⟨(Below.refl _ _).drew, ?_⟩
                simp
                rfl
              · refine ⟨?_, ?_, ?_, ?_, ?_, ?_, ?_, ?_, ?_, ?_, ?_, ?_, ?_, ?_, ?_, ?_, trivial⟩
                all_goals
                  intro f y w6 K Q Cv hI hfi hdep hCv
                  have hC := hI.1
                  simp [Region.binds] at hdep
                · simp only [putAll, Act.put]; go_simp; intro hK; exact hK _ _ (hCv _ _ (hI.o0 hfi rfl))
                · have hf15 : f 15 = false := by
                    cases e : f 15 with
                    | false => rfl
                    | true => have := (hI.2.2.2.2.2.2.2.2.2.2.2.2.2.2.2.2.2.2.2.2.2.2 e).1; rw [hfi] at this; cases this
                  have y15 := hI.2.2.2.2.2.2.2.2.2.2.2.2.2.2.2.2.2.2.2.2.2.1 hf15
                  simp only [putAll, Act.put]; go_simp; intro hK; exact hK _ _ (hCv _ _ (hI.o1 rfl))
                · simp only [putAll, Act.put]; go_simp; intro hK; exact hK _ _ (hCv _ _ (hI.o2 rfl))
                · have y1 := hI.2.1 hdep.1
                  have y2 := hI.2.2.1 hdep.2
                  simp only [putAll, Act.put]; go_simp; intro hK; exact hK _ _ (hCv _ _ (hI.o3 rfl))
                · have y3 := hI.2.2.2.1 hdep.2
                  have o0 := hI.2.2.2.2.2.2.2.2.2.2.2.1 hdep.1 hfi
                  intro hK
                  refine wanted_if rfl ?_
                  refine wp_append_rtsL (.tmp 68) (.tmp 71) rfl wc.heap.size i0 hi.out hz0.out hz1.out hz2.out (y 0) 0 [] (by simp only [putAll, Act.put]; go_simp) o0 (some ⟨gv, 0, none⟩) a cap (M.take a) (by simp only [putAll, Act.put]; go_simp; try exact y3) (hR1.out.1.below hC) hR1.out.2 (by unfold maxLen; omega) (by omega) hC.size ?_
                  intro v' w' h1 h2 h3
                  exact hK _ _ (hCv _ _ (hI.o4 hfi hdep.1 (by simpa using h1) h2 h3))
                · simp only [putAll, Act.put]; go_simp; intro hK; exact hK _ _ (hCv _ _ (hI.o5 rfl))
                · simp only [putAll, Act.put]; go_simp; intro hK; exact hK _ _ (hCv _ _ (hI.o6 rfl))
                · have y5 := hI.2.2.2.2.1 hdep.1
                  have y6 := hI.2.2.2.2.2.1 hdep.2
                  simp only [putAll, Act.put]; go_simp; intro hK; exact hK _ _ (hCv _ _ (hI.o7 rfl))
                · have y7 := hI.2.2.2.2.2.2.1 hdep
                  have q0 := (cellB (o := off + i * 2) hC hbw).trans r0.out
                  have q1 := (cellB (o := off + i * 2 + 1) hC hbw).trans r1.out
                  simp only [putAll, Act.put]; go_simp; intro hK; exact hK _ _ (hCv _ _ (hI.o8 rfl))
                · have y8 := hI.2.2.2.2.2.2.2.1 hdep
                  simp only [putAll, Act.put]; go_simp; intro hK; exact hK _ _ (hCv _ _ (hI.o9 hfi rfl))
                · have o4 := hI.2.2.2.2.2.2.2.2.2.2.2.2.1 hdep.1 hfi
                  obtain ⟨g, y9, x2⟩ := hI.2.2.2.2.2.2.2.2.2.2.2.2.2.2.2.1 hdep.2.1
                  obtain ⟨_, x4, _, _⟩ := x2 hfi
                  obtain ⟨A9, c9, e9, hr9⟩ := isRts_blk (c := 1) [(xc, xk)] x4 rfl (by unfold maxLen; simp)
                  simp only [Value.slice.injEq] at e9
                  obtain ⟨rfl, _, rfl⟩ := e9
                  intro hK
                  refine wanted_if rfl ?_
                  refine wp_append_rtsL (.tmp 72) (.tmp 77) rfl wc.heap.size i0 hi.out hz0.out hz1.out hz2.out (y 4) a _ (by simp only [putAll, Act.put]; go_simp) o4 (some ⟨g, 0, none⟩) 1 1 [(xc, xk)] (by simp only [putAll, Act.put]; go_simp; try exact y9) hr9 (fun e => by cases e) (by unfold maxLen; omega) (by omega) hC.size ?_
                  intro v' w' h1 h2 h3
                  exact hK _ _ (hCv _ _ (hI.o10 hfi hdep.1 hdep.2.1 (by unfold OwnR; rw [List.flatMap_append]; exact h1) h2))
                · have hf15 : f 15 = false := by
                    cases e : f 15 with
                    | false => rfl
                    | true => have := (hI.2.2.2.2.2.2.2.2.2.2.2.2.2.2.2.2.2.2.2.2.2.2 e).2; rw [hfi] at this; cases this
                  have y15 := hI.2.2.2.2.2.2.2.2.2.2.2.2.2.2.2.2.2.2.2.2.2.1 hf15
                  simp only [putAll, Act.put]; go_simp; intro hK; exact hK _ _ (hCv _ _ (hI.o11 rfl))
                · simp only [putAll, Act.put]; go_simp; intro hK; exact hK _ _ (hCv _ _ (hI.o12 rfl))
                · have y11 := hI.2.2.2.2.2.2.2.2.1 hdep.1
                  have y12 := hI.2.2.2.2.2.2.2.2.2.1 hdep.2
                  simp only [putAll, Act.put]; go_simp; intro hK; exact hK _ _ (hCv _ _ (hI.o13 rfl))
                · have y13 := hI.2.2.2.2.2.2.2.2.2.2.1 hdep.2.1
                  have o10 := hI.2.2.2.2.2.2.2.2.2.2.2.2.2.1 hdep.1 hfi
                  intro hK
                  refine wanted_if rfl ?_
                  refine wp_append_rtsL (.tmp 78) (.tmp 81) rfl wc.heap.size i0 hi.out hz0.out hz1.out hz2.out (y 10) (a + 1) _ (by simp only [putAll, Act.put]; go_simp) o10 (if cap = a then some ⟨gv, 0, none⟩ else some ⟨gv, a * 2, none⟩) (i - a) (cap - a) (M.drop a) (by simp only [putAll, Act.put]; go_simp; try exact y13) (hR2.out.1.below hC) hR2.out.2 (by unfold maxLen; omega) (by omega) hC.size ?_
                  intro v' w' h1 h2 h3
                  rw [show a + 1 + (i - a) = i + 1 by omega] at h1
                  exact hK _ _ (hCv _ _ (hI.o14 hfi hdep.1 (by unfold OwnR; rw [List.flatMap_append]; exact h1) h2))
                · have hf14 : f 14 = true := hdep.1
                  simp only [putAll, Act.put]; go_simp; intro hK
                  exact hK _ _ (hCv _ _ (hI.o15 hf14 hdep.2.2.1 hdep.2.2.2.2.2.2.2.2.2.2.2.2.1 rfl))
              · intro f y w6 hf hI
                obtain ⟨hC, h1, h2, h3, h5, h6, h7, h8, h11, h12, h13, c0, c4, c10, c14, h9, h15, _⟩ := hI
                have ff : ∀ k, k < 16 → f k = true := fun k hk => hf k hk
                have o14 := c14 (ff 14 (by omega))
                have y15 := h15 (ff 15 (by omega))
                simp only [putAll, Act.put]
                simp only [List.setIfInBounds_toArray, List.set_cons_succ, List.set_cons_zero]
                rw [y15]
                have hWW := hide (hW.out.trans (hC.mono (by have := hW.out.size; have := hB8.out; omega)))
                have hown2 := hide (own_base (b' := B8) o14 (by have := hW.out.size; have := hB8.out; omega))
                clear hC h1 h2 h3 h5 h6 h7 h8 h11 h12 h13 c0 c4 c10 c14 h9 h15 ff hf o14 y15
                generalize y 0 = y0 at *
                generalize y 1 = y1 at *
                generalize y 2 = y2 at *
                generalize y 3 = y3 at *
                generalize y 4 = y4 at *
                generalize y 5 = y5 at *
                generalize y 6 = y6 at *
                generalize y 7 = y7 at *
                generalize y 8 = y8 at *
                generalize y 9 = y9 at *
                generalize y 10 = y10 at *
                generalize y 11 = y11 at *
                generalize y 12 = y12 at *
                generalize y 13 = y13 at *
                generalize y 14 = y14 at *
                go_wp2
                go_roundg (m - (i + 1))
                case measure => omega
                case rel => exact ⟨i + 1, putAt M a (xc, xk), y14, by omega, by omega, by go_num, rfl, hWW, by unfold Hid; rw [putAt_len, hM.out], hput, hown2⟩
        · obtain rfl : m = i := by omega
          have hltz : ¬ (m : Int) < (m : Int) := by omega
          have hMr := hide (show ∀ y, y ∈ M ↔ y ∈ rs by
            have := hMy.out
            rwa [show rs.take m = rs by rw [← hmr.out]; exact List.take_length] at this)
          obtain ⟨gv, cap, rfl, hgv, hic, hcm, hMrd⟩ : ∃ g cap, vo = .slice (some ⟨g, 0, none⟩) m cap ∧ g < wr.heap.size ∧ m ≤ cap ∧ cap ≤ maxLen ∧ RdRts wr (some ⟨g, 0, none⟩) m M := by
            rcases own_slice hown.out hM.out (by unfold maxLen; omega) with ⟨_, h0⟩ | h0
            · exact absurd h0 hm0
            · exact h0
          replace hMrd := hide hMrd
          clear hstep hgr2
          by_cases hN : 0 < N
          · have hNz : (0 : Int) < (N : Int) := by omega
            by_cases h40 : m + 1 < 40
            · have h40z : (m : Int) + 1 < 40 := by omega
              obtain ⟨wA, rfl⟩ : ∃ wA, wA = wr := ⟨_, rfl⟩
              obtain ⟨xb, xo, rfl, hxb, hxc⟩ := (hxA.out _ (hB.out.trans (hW.out.mono hsz8))).2.2.2 hN
              have c0 := hxc 0 hN
              have cl := hxc (N - 1) (by omega)
              have hb0 := (hxA.out _ (hB.out.trans (hW.out.mono hsz8))).2.2.1 0 hN
              have hbl := (hxA.out _ (hB.out.trans (hW.out.mono hsz8))).2.2.1 (N - 1) (by omega)
              rw [Nat.add_zero] at c0
              clear hxc
              generalize bs[0]?.getD 0 = bv at *
              generalize bs[N - 1]?.getD 0 = bw at *
              obtain ⟨b0, rfl⟩ : ∃ b0 : Nat, bv = b0 := ⟨bv.toNat, by omega⟩
              obtain ⟨bl, rfl⟩ : ∃ bl : Nat, bw = bl := ⟨bw.toNat, by omega⟩
              have hmod : (b0 : Int).tmod (m : Int) = ((b0 % m : Nat) : Int) := by rw [Int.tmod_eq_emod_of_nonneg (by omega)]; norm_cast
              have hq : b0 % m < m := Nat.mod_lt _ (by omega)
              generalize b0 % m = q at *
              have gM := goodR_sub gr.out (by rw [hM.out]; exact hm40) (fun x hx => (hMr.out x).1 hx)
              obtain ⟨kc, kk, hMq, hkc, hkk⟩ := gM.2 q (by rw [hM.out]; exact hq)
              have hMqm : ((kc : Int), (kk : Int)) ∈ M := by
                rw [← hMq, List.getElem?_eq_getElem (by rw [hM.out]; exact hq)]
                exact List.getElem_mem _
              obtain ⟨b', off', z0, z1, heq, hb', e1, t0, t1⟩ := hMrd.out.1.cells2 hq
              simp only [Option.some.injEq, Addr.mk.injEq, and_true] at heq
              obtain ⟨rfl, rfl⟩ := heq
              rw [row_at M q (by rw [hM.out]; exact hq), hMq] at e1
              simp only [List.cons.injEq, and_true] at e1
              obtain ⟨rfl, rfl⟩ := e1
              rw [hn.out] at hkc
              rw [hn2.out] at hkk
              have hpb : 2 ^ n2 ≤ 2 ^ 8 := Nat.pow_le_pow_right (by omega) hn28
              have hpb : 2 ^ n2 ≤ 256 := hpb
              have hqz : (q : Int) < (m : Int) := by omega
              have hq0 : (0 : Int) ≤ (q : Int) := by omega
              have hm0' : ¬ m = 0 := hm0
              replace gM := hide gM
              replace hMq := hide hMq
              replace hMqm := hide hMqm
              have hBW := hide (hB.out.trans (hW.out.mono hsz8))
              have hszw := hW.out.size
              have hB88 := hB8.out
              have hK0 := hide (show Blk ((wA.alloc (.cells #[.int .i64 kc, .int .i64 kk] 64)).alloc (.cells #[.int .i64 kc, .int .i64 kk] 64)) wA.heap.size 64 #[.int .i64 kc, .int .i64 kk] from (Blk.new_ rfl).alloc _)
              have hG0 := hide (show Blk ((wA.alloc (.cells #[.int .i64 kc, .int .i64 kk] 64)).alloc (.cells #[.int .i64 kc, .int .i64 kk] 64)) (wA.heap.size + 1) 64 #[.int .i64 kc, .int .i64 kk] from Blk.new_ (by simp))
              have hW0 := hide (show Below wA.heap.size wA ((wA.alloc (.cells #[.int .i64 kc, .int .i64 kk] 64)).alloc (.cells #[.int .i64 kc, .int .i64 kk] 64)) from ((Below.refl _ _).alloc (Nat.le_refl _) _).alloc (by simp) _)
              have hSw := hide (hS.out.below hW.out hSl)
              have hSwl := hSw.out.lt
              have hcr := hide (show (cover S.cs n kc).testBit kc = true by
                have := gd.out.cov_refl (by rw [hn.out]; exact hkc)
                rwa [hn.out] at this)
              have hxbw : xb < wA.heap.size := hxb
              generalize hB9 : wA.heap.size = B9 at *
              replace hB9 := hide hB9
              replace c0 := hide c0
              replace cl := hide cl
              have c0' := c0.out
              have hblt : bl < 256 := by omega
              rw [Nat.zero_add] at t0 t1
              go_wp2
              rw [hB9.out]
              clear c0' t0 t1
              generalize ((wA.alloc (.cells #[.int .i64 kc, .int .i64 kk] 64)).alloc (.cells #[.int .i64 kc, .int .i64 kk] 64)) = w13 at *
              go_loopg [14] n (fun g cv wx => ∃ (c wc : Nat), c ≤ n ∧ n - c ≤ g ∧ cv = .int .i64 c ∧ wc < n ∧ Hid ((cover S.cs n kc).testBit wc = true) ∧ Hid (Below B9 wA wx) ∧ Hid (Blk wx B9 64 #[.int .i64 kc, .int .i64 kk]) ∧ Hid (Blk wx (B9 + 1) 64 #[.int .i64 wc, .int .i64 kk]))
              case atStart => exact ⟨0, kc, Nat.zero_le _, by omega, rfl, hkc, hcr, hW0, hK0, hG0⟩
              case round =>
                clear hW0 hK0 hG0 hcr
                obtain ⟨c, wc, hcn, hg2, rfl, hwc, hcv, hWx, hK, hG⟩ := hrel
                have hBx := hide (hBW.out.trans (hWx.out.mono (by omega)))
                have hSx := hide (hSw.out.below hWx.out hSwl)
                by_cases hlt2 : c < n
                · have hltz2 : (c : Int) < (n : Int) := by omega
                  have hc0 : (0 : Int) ≤ (c : Int) := by omega
                  have s0 : wr.cell? ⟨w.heap.size, 0, none⟩ = some (.slice A n cc) := hSx.out.cell 0
                  have s1 : wr.cell? ⟨w.heap.size, 1, none⟩ = some (.slice A2 n2 c2) := hSx.out.cell 1
                  have k0 : wr.cell? ⟨B9, 0, none⟩ = some (.int .i64 kc) := hK.out.cell 0
                  have hcc := hide (hcov.out kc hkc)
                  go_wp2_with fail
                  refine (hcc.out _ hBx.out).mono ?_
                  rintro e w5 ⟨⟨v, rfl, gb, rfl, hBl⟩, hb⟩
                  have hWx5 := hide (hWx.out.trans (hb.mono (by have := hWx.out.size; have := hB9.out; omega)))
                  have hKl := hK.out.lt
                  have hGl := hG.out.lt
                  have hK5 := hide (hK.out.below hb hKl)
                  have hG5 := hide (hG.out.below hb hGl)
                  clear hb s0 s1 k0 hcc
                  have cb : w5.cell? ⟨gb, c, none⟩ = some (.bool ((cover S.cs n kc).testBit c)) := by rw [hBl.cell]; exact boolCells_at hlt2
                  clear hBl hK hG hWx hBx hSx
                  cases hbit : (cover S.cs n kc).testBit c with
                  | false =>
                    rw [hbit] at cb
                    clear hbit
                    go_wp2
                    go_roundg (n - (c + 1))
                    case measure => omega
                    case rel => exact ⟨c + 1, wc, by omega, by omega, by go_num, hwc, hcv, hWx5, hK5, hG5⟩
                  | true =>
                    rw [hbit] at cb
                    replace hbit := hide hbit
                    have hmod2 : (bl : Int).tmod ((c : Int) + 1) = ((bl % (c + 1) : Nat) : Int) := by rw [Int.tmod_eq_emod_of_nonneg (by omega)]; norm_cast
                    have c1' : w5.cell? ⟨xb, xo + (N - 1), none⟩ = some (.int .u8 bl) := (cellB hWx5.out hxbw).trans cl.out
                    have hN1 : ((N : Int) - 1) = ((N - 1 : Nat) : Int) := by omega
                    have hN2 : IntKind.i64.wrap ((N - 1 : Nat) : Int) = ((N - 1 : Nat) : Int) := Bits.wrap_nat _ (by omega)
                    have hN3 : N - 1 < N := by omega
                    have hc1z : ¬ (c : Int) + 1 = 0 := by omega
                    generalize bl % (c + 1) = r at *
                    generalize N - 1 = N1 at *
                    by_cases hr0 : r = 0
                    · have hrb : ((r : Int) == 0) = true := by rw [hr0]; rfl
                      have g0 := hG5.out.cell 0
                      have gf := hG5.out.frozen 0
                      replace hr0 := hide hr0
                      go_wp2
                      go_roundg (n - (c + 1))
                      case measure => omega
                      case rel => exact ⟨c + 1, c, by omega, by omega, by go_num, hlt2, hbit, hWx5.out.setCell (by simp) _, hK5.out.far (by simp) _, by unfold Hid; simpa using hG5.out.set_ 0 (.int .i64 c)⟩
                    · have hrb : ((r : Int) == 0) = false := by rw [beq_eq_false_iff_ne]; omega
                      replace hr0 := hide hr0
                      go_wp2
                      go_roundg (n - (c + 1))
                      case measure => omega
                      case rel => exact ⟨c + 1, wc, by omega, by omega, by go_num, hwc, hcv, hWx5, hK5, hG5⟩
                · obtain rfl : n = c := by omega
                  have hltz2 : ¬ (n : Int) < (n : Int) := by omega
                  have s0 : wr.cell? ⟨w.heap.size, 0, none⟩ = some (.slice A n cc) := hSx.out.cell 0
                  go_wp2
                  clear s0
                  have s1q : wr.cell? ⟨w.heap.size, 1, none⟩ = some (.slice A2 n2 c2) := hSx.out.cell 1
                  clear hcov
                  go_loopg [15] n2 (fun g iv wx => ∃ (i wk : Nat), i ≤ n2 ∧ n2 - i ≤ g ∧ iv = .int .i64 i ∧ wk < 2 ^ n2 ∧ Hid (∀ b, kk.testBit b = true → wk.testBit b = true) ∧ Hid (Below B9 wA wx) ∧ Hid (Blk wx B9 64 #[.int .i64 kc, .int .i64 kk]) ∧ Hid (Blk wx (B9 + 1) 64 #[.int .i64 wc, .int .i64 wk]))
                  case atStart => exact ⟨0, kk, Nat.zero_le _, by omega, rfl, hkk, fun b h => h, hWx, hK, hG⟩
                  case round =>
                    clear hWx hK hG s1q hSx hBx
                    obtain ⟨i, wk, hin, hg3, rfl, hwk, hkb, hWx, hK, hG⟩ := hrel
                    have hSx := hide (hSw.out.below hWx.out hSwl)
                    have s1 : wr.cell? ⟨w.heap.size, 1, none⟩ = some (.slice A2 n2 c2) := hSx.out.cell 1
                    have hwkb : wk < 256 := by omega
                    have hwk40 : wk < 2 ^ 40 := Nat.lt_trans hwkb (by decide)
                    by_cases hlt3 : i < n2
                    · have hltz3 : (i : Int) < (n2 : Int) := by omega
                      have hi0 : (0 : Int) ≤ (i : Int) := by omega
                      have g1 : wr.cell? ⟨B9 + 1, 1, none⟩ = some (.int .i64 wk) := hG.out.cell 1
                      go_wp2_with fail
                      refine (HasR_any wk i _ (by omega) hwk40).mono ?_
                      rintro e w5 ⟨rfl, rfl⟩
                      cases hbit : wk.testBit i with
                      | true =>
                        clear hbit
                        go_wp2
                        go_roundg (n2 - (i + 1))
                        case measure => omega
                        case rel => exact ⟨i + 1, wk, by omega, by omega, by go_num, hwk, hkb, hWx, hK, hG⟩
                      | false =>
                        have c0' : wr.cell? ⟨xb, xo, none⟩ = some (.int .u8 b0) := (cellB hWx.out hxbw).trans c0.out
                        obtain ⟨sb, hsb⟩ : ∃ sb, (((b0 : Int) / 2 ^ i).tmod 2 == 1) = sb := ⟨_, rfl⟩
                        cases sb with
                        | false =>
                          clear hbit
                          go_wp2
                          go_roundg (n2 - (i + 1))
                          case measure => omega
                          case rel => exact ⟨i + 1, wk, by omega, by omega, by go_num, hwk, hkb, hWx, hK, hG⟩
                        | true =>
                          have hwk2 := add_lt hbit hwk hlt3
                          have hkb2 := hide (fun b (h : kk.testBit b = true) => show (wk + 2 ^ i).testBit b = true by rw [add_bits hbit, hkb.out b h]; rfl)
                          have hsi := hide (fun W => SetsR_any i W (by omega))
                          have hGl := hG.out.lt
                          have hKl := hK.out.lt
                          go_wp2
                          clear hsb hbit c0' s1
                          generalize hpq : 2 ^ i = pq at *
                          replace hpq := hide hpq
                          have hwkb2 : wk + pq < 256 := by omega
                          have hcast : (wk : Int) + (pq : Int) = ((wk + pq : Nat) : Int) := by omega
                          have hwr : IntKind.i64.wrap ((wk + pq : Nat) : Int) = ((wk + pq : Nat) : Int) := Bits.wrap_nat _ (by omega)
                          generalize hcq : wk + pq = wq at *
                          replace hcq := hide hcq
                          refine region_grow_tail 6 [IsV (.pointer (some ⟨B9 + 1, 1, none⟩)), IsV (.int .i64 wk), IsV (.int .i64 i), IsV (.int .i64 (pq : Nat)), IsV (.int .i64 (wq : Nat)), IsV (.pointer (some ⟨B9 + 1, 1, none⟩))] (by kernel_rfl) (by kernel_rfl) rfl ?_ ?_ ?_
                          · simp [AllStb, IsV.stb]
                          · refine ⟨?_, ?_, ?_, ?_, ?_, ?_, trivial⟩
                            all_goals
                              intro y w6 K Q Cv hC hd hV
                              have r1 := (cellB (o := 1) hC hGl).trans g1
                              simp [deps, VL, IsV, Region.binds] at hd
                              simp only [List.take_succ_cons, List.take_zero, putAll, Act.put]
                              go_simp; intro hK
                            · exact hK _ _ (hV _ _ hC (Below.refl _ _) rfl)
                            · exact hK _ _ (hV _ _ hC (Below.refl _ _) rfl)
                            · exact hK _ _ (hV _ _ hC (Below.refl _ _) rfl)
                            · refine (hsi.out w6).mono ?_
                              rintro e w7 ⟨rfl, rfl⟩
                              exact hK _ _ (hV _ _ hC (Below.refl _ _) rfl)
                            · exact hK _ _ (hV _ _ hC (Below.refl _ _) rfl)
                            · exact hK _ _ (hV _ _ hC (Below.refl _ _) rfl)
                          · intro y w6 hC hd
                            simp [EndsL, IsV] at hd
                            obtain ⟨d0, d1, d2, d3, d4, d5⟩ := hd
                            simp only [List.take_succ_cons, List.take_zero, List.drop_succ_cons, List.drop_zero, putAll, Act.put]
                            rw [d0, d1, d2, d3, d4, d5]
                            clear d0 d1 d2 d3 d4 d5
                            simp only [List.setIfInBounds_toArray, List.set_cons_succ, List.set_cons_zero]
                            have hG6 := hide (hG.out.below hC hGl)
                            have hK6 := hide (hK.out.below hC hKl)
                            have hWx6 := hide (hWx.out.trans (hC.mono (by have := hWx.out.size; have := hB9.out; omega)))
                            have g1' : w6.cell? ⟨B9 + 1, 1, none⟩ = some (.int .i64 wk) := hG6.out.cell 1
                            have f1' : w6.frozen? ⟨B9 + 1, 1, none⟩ = false := hG6.out.frozen 1
                            clear hC g1
                            go_wp2
                            go_roundg (n2 - (i + 1))
                            case measure => omega
                            case rel => exact ⟨i + 1, wq, by omega, by omega, by go_num, hwk2, hkb2, hWx6.out.setCell (by simp) _, hK6.out.far (by simp) _, by unfold Hid; simpa using hG6.out.set_ 1 (.int .i64 wq)⟩
                    · obtain rfl : n2 = i := by omega
                      have hltz3 : ¬ (n2 : Int) < (n2 : Int) := by omega
                      have k0 : wr.cell? ⟨B9, 0, none⟩ = some (.int .i64 kc) := hK.out.cell 0
                      have k1 : wr.cell? ⟨B9, 1, none⟩ = some (.int .i64 kk) := hK.out.cell 1
                      have g0 : wr.cell? ⟨B9 + 1, 0, none⟩ = some (.int .i64 wc) := hG.out.cell 0
                      have g1 : wr.cell? ⟨B9 + 1, 1, none⟩ = some (.int .i64 wk) := hG.out.cell 1
                      have hKl := hK.out.lt
                      have hGl := hG.out.lt
                      have hszx := hWx.out.size
                      have hB99 := hB9.out
                      have hown0 := own_below hown.out (show Below wA.heap.size wA wr by rw [hB99]; exact hWx.out)
                      have hA1 : Below wr.heap.size wr (wr.alloc (.cells #[.int .i64 kc, .int .i64 kk, .int .i64 wc, .int .i64 wk] 64)) := (Below.refl _ _).alloc (Nat.le_refl _) _
                      have hown1 := hide (own_below hown0 hA1)
                      have hone := hide (show RdRts (wr.alloc (.cells #[.int .i64 kc, .int .i64 kk, .int .i64 wc, .int .i64 wk] 64)) (some ⟨wr.heap.size, 0, none⟩) 2 [((kc : Int), (kk : Int)), ((wc : Int), (wk : Int))] by
                        obtain ⟨Az, cz, ez, hz⟩ := isRts_blk (c := 2) [((kc : Int), (kk : Int)), ((wc : Int), (wk : Int))] (Blk.new_ (w := wr) (t := 64) (cs := #[.int .i64 kc, .int .i64 kk, .int .i64 wc, .int .i64 wk]) rfl) rfl (by unfold maxLen; simp)
                        simp only [Value.slice.injEq] at ez
                        obtain ⟨rfl, _, _⟩ := ez
                        exact hz)
                      have hsz1 : B8 ≤ (wr.alloc (.cells #[.int .i64 kc, .int .i64 kk, .int .i64 wc, .int .i64 wk] 64)).heap.size := by have := hA1.size; omega
                      have hW1 := hide (hW.out.trans ((hWx.out.mono (by omega)).trans (hA1.mono (by omega))))
                      clear hA1 hown0 hSx
                      go_wp2_with (at_builtin; (refine wpList_append_rts rfl _ _ rfl B8 i0 hi.out hz0.out hz1.out hz2.out _ _ _ rfl hown1.out (some ⟨wr.heap.size, 0, none⟩) 2 2 [((kc : Int), (kk : Int)), ((wc : Int), (wk : Int))] rfl hone.out (fun e => by cases e) (by unfold maxLen; omega) (by omega) hsz1 ?_); intro va wa howna hgrowa; (have hWa := hide (hW1.out.grown hgrowa hsz1 (fun k hk => (hown1.out.lt k hk).1))); (have hSF := hide (hS.out.below hWa.out hSl)); (have s0 : wa.cell? ⟨w.heap.size, 0, none⟩ = some (.slice A n cc) := hSF.out.cell 0); (have s1w : wa.cell? ⟨w.heap.size, 1, none⟩ = some (.slice A2 n2 c2) := hSF.out.cell 1))
                      have hlen : (M ++ [((kc : Int), (kk : Int)), ((wc : Int), (wk : Int))]).length = m + 2 := by rw [List.length_append, hM.out]; rfl
                      have hrts := isRts_flat (l := M ++ [((kc : Int), (kk : Int)), ((wc : Int), (wk : Int))]) (by rw [List.flatMap_append]; exact howna) hlen.symm (by rw [hlen]; unfold maxLen; omega)
                      obtain ⟨D, dc, rfl, hD⟩ := hrts
                      have hgM := hide (goodR_append gM.out (goodR_mem (L := [((kc : Int), (kk : Int)), ((wc : Int), (wk : Int))]) (by simp) (by
                        intro x hx
                        simp only [List.mem_cons, List.not_mem_nil, or_false] at hx
                        rcases hx with rfl | rfl
                        · exact ⟨kc, kk, rfl, by rw [hn.out]; exact hkc, by rw [hn2.out]; exact hkk⟩
                        · exact ⟨wc, wk, rfl, by rw [hn.out]; exact hwc, by rw [hn2.out]; exact hwk⟩)) (by rw [hM.out]; simp; omega))
                      have hqM := hide (fun c f => (mayL_weaker gd.out gM.out hMqm.out (by rw [hn.out]; exact hwc) (by rw [hn2.out]; exact hwk) (show Ge S (natR ((kc : Int), (kk : Int))) (wc, wk) from ⟨by rw [hn.out]; simpa [natR] using hcv.out, fun j hj => hkb.out j (by simpa [natR] using hj)⟩) c f).trans (mayL_mem (S := S) hMr.out c f))
                      have hBF := hide (hB.out.trans (hWa.out.mono hsz8))
                      have hvF := hide (IsRts.stb _ _ _ _ (show Below w8.heap.size w8 wa by rw [hB8.out]; exact hWa.out) hv1.out)
                      clear howna hgrowa hown1 hone k0 k1 g0 g1 s1 hW1 hWa hown hW hWx hK hG hMy hMrd
                      rw [hlen]
                      have hcall0 := hcM.out (M ++ [((kc : Int), (kk : Int)), ((wc : Int), (wk : Int))]) hgM.out D dc wa hBF.out hD
                      rw [hlen] at hcall0
                      have hcall := hide hcall0
                      clear hcall0
                      replace hlen := hide hlen
                      have hord1 := hide (hord.out (M ++ [((kc : Int), (kk : Int)), ((wc : Int), (wk : Int))]) hgM.out hqM.out L1)
                      clear hD hgM hqM hord hcM
                      refine hcall.out.mono ?_
                      rintro e w5 ⟨⟨v2, rfl, L2, hL2, hv2⟩, hb⟩
                      have hLL : L1 = L2 := hord1.out L2 hL1.out hL2
                      subst hLL
                      have hv1' := hide (IsRts.stb _ _ _ _ hb hvF.out)
                      replace hv2 := hide hv2
                      have hB5 := hide (hBF.out.trans (hb.mono hBF.out.size))
                      clear hb hcall hL2 hord1 s0 s1w
                      go_wp2_with fail
                      refine (hsame.out v1 v2 _ _ hv1'.out hv2.out).mono ?_
                      rintro e w6 ⟨rfl, hb⟩
                      have hB6 := hide (hB5.out.trans (hb.mono hB5.out.size))
                      clear hb hv1' hv2
                      go_wp2_with fail
                      refine (Awake_any _ (hE.out _ hB6.out)).mono ?_
                      rintro e wu ⟨rfl, hb⟩
                      have hBz := hide (hB6.out.trans (hb.mono hB6.out.size))
                      clear hb
                      go_wp2
                      go_ret
                      exact ⟨rfl, hBz.out⟩
            · have h40z : ¬ (m : Int) + 1 < 40 := by omega
              have hgM := hide (goodR_sub gr.out (by rw [hM.out]; exact hm40) (fun x hx => (hMr.out x).1 hx))
              have hqM := hide (fun c f => mayL_mem (S := S) hMr.out c f)
              have hBF := hide (hB.out.trans (hW.out.mono hsz8))
              have hSF := hide (hS.out.below hW.out hSl)
              have hvF := hide (IsRts.stb _ _ _ _ (show Below w8.heap.size w8 wr by rw [hB8.out]; exact hW.out) hv1.out)
              obtain ⟨D, dc, e0, hD⟩ := isRts_flat hown.out hM.out.symm (by rw [hM.out]; unfold maxLen; omega)
              rw [hM.out] at e0
              simp only [Value.slice.injEq] at e0
              obtain ⟨rfl, e2, rfl⟩ := e0
              clear e2 hown hW hMy
              have hMl := hide hM.out
              have s0 : wr.cell? ⟨w.heap.size, 0, none⟩ = some (.slice A n cc) := hSF.out.cell 0
              have s1 : wr.cell? ⟨w.heap.size, 1, none⟩ = some (.slice A2 n2 c2) := hSF.out.cell 1
              have hcall0 := hcM.out M hgM.out (some ⟨gv, 0, none⟩) cap wr hBF.out hD
              rw [hM.out] at hcall0
              have hcall := hide hcall0
              clear hcall0
              have hord1 := hide (hord.out M hgM.out hqM.out L1)
              clear hD hgM hqM hord hcM
              skip
              go_wp2_with fail
              refine hcall.out.mono ?_
              rintro e w5 ⟨⟨v2, rfl, L2, hL2, hv2⟩, hb⟩
              have hLL : L1 = L2 := hord1.out L2 hL1.out hL2
              subst hLL
              have hv1' := hide (IsRts.stb _ _ _ _ hb hvF.out)
              replace hv2 := hide hv2
              have hB5 := hide (hBF.out.trans (hb.mono hBF.out.size))
              clear hb hcall hL2 hord1 s0 s1
              go_wp2_with fail
              refine (hsame.out v1 v2 _ _ hv1'.out hv2.out).mono ?_
              rintro e w6 ⟨rfl, hb⟩
              have hB6 := hide (hB5.out.trans (hb.mono hB5.out.size))
              clear hb hv1' hv2
              go_wp2_with fail
              refine (Awake_any _ (hE.out _ hB6.out)).mono ?_
              rintro e wu ⟨rfl, hb⟩
              have hBz := hide (hB6.out.trans (hb.mono hB6.out.size))
              clear hb
              go_wp2
              go_ret
              exact ⟨rfl, hBz.out⟩
          · have hNz : ¬ (0 : Int) < (N : Int) := by omega
            have hgM := hide (goodR_sub gr.out (by rw [hM.out]; exact hm40) (fun x hx => (hMr.out x).1 hx))
            have hqM := hide (fun c f => mayL_mem (S := S) hMr.out c f)
            have hBF := hide (hB.out.trans (hW.out.mono hsz8))
            have hSF := hide (hS.out.below hW.out hSl)
            have hvF := hide (IsRts.stb _ _ _ _ (show Below w8.heap.size w8 wr by rw [hB8.out]; exact hW.out) hv1.out)
            obtain ⟨D, dc, e0, hD⟩ := isRts_flat hown.out hM.out.symm (by rw [hM.out]; unfold maxLen; omega)
            rw [hM.out] at e0
            simp only [Value.slice.injEq] at e0
            obtain ⟨rfl, e2, rfl⟩ := e0
            clear e2 hown hW hMy
            have hMl := hide hM.out
            have s0 : wr.cell? ⟨w.heap.size, 0, none⟩ = some (.slice A n cc) := hSF.out.cell 0
            have s1 : wr.cell? ⟨w.heap.size, 1, none⟩ = some (.slice A2 n2 c2) := hSF.out.cell 1
            have hcall0 := hcM.out M hgM.out (some ⟨gv, 0, none⟩) cap wr hBF.out hD
            rw [hM.out] at hcall0
            have hcall := hide hcall0
            clear hcall0
            have hord1 := hide (hord.out M hgM.out hqM.out L1)
            clear hD hgM hqM hord hcM
            skip
            go_wp2_with fail
            refine hcall.out.mono ?_
            rintro e w5 ⟨⟨v2, rfl, L2, hL2, hv2⟩, hb⟩
            have hLL : L1 = L2 := hord1.out L2 hL1.out hL2
            subst hLL
            have hv1' := hide (IsRts.stb _ _ _ _ hb hvF.out)
            replace hv2 := hide hv2
            have hB5 := hide (hBF.out.trans (hb.mono hBF.out.size))
            clear hb hcall hL2 hord1 s0 s1
            go_wp2_with fail
            refine (hsame.out v1 v2 _ _ hv1'.out hv2.out).mono ?_
            rintro e w6 ⟨rfl, hb⟩
            have hB6 := hide (hB5.out.trans (hb.mono hB5.out.size))
            clear hb hv1' hv2
            go_wp2_with fail
            refine (Awake_any _ (hE.out _ hB6.out)).mono ?_
            rintro e wu ⟨rfl, hb⟩
            have hBz := hide (hB6.out.trans (hb.mono hB6.out.size))
            clear hb
            go_wp2
            go_ret
            exact ⟨rfl, hBz.out⟩
  · have hc1' := hide (fun W (hb : Below w.heap.size w W) => (hc1.out W hb).mono (R' := fun e w' => e = .returned (.tuple #[.slice none 0 0, .int .i64 (openF S [rs])]) ∧ Below W.heap.size W w') (fun e w' hh => ⟨by
      rcases hh.1 with h1 | h1
      · exact h1.2
      · exact absurd h1.1 h0, hh.2⟩))
    clear hc1 h hr hx
    generalize openF S [rs] = q at *
    have hb1 : (q == 0) = false := by rw [beq_eq_false_iff_ne]; exact h0
    have hb2 : (q != 0) = true := by rw [bne_iff_ne]; exact h0
    replace h0 := hide h0
    generalize rs.length = m at *
    generalize bs.length = N at *
    generalize S.cs.length = n at *
    generalize S.codes.length = n2 at *
    go_enter Tryz.func13, Tryz.ntmps13
    go_wp2_with fail
    generalize w.alloc (.cells #[.slice A n cc, .slice A2 n2 c2] 38) = w0 at *
    refine (hc1'.out _ hB.out).mono ?_
    rintro e w1 ⟨rfl, hb⟩
    replace he := hide (he.out.below hb he.out.size)
    replace hB := hide (hB.out.trans (hb.mono hB.out.size))
    clear hb hc1' hS
    go_wp2_with fail
    refine (Awake_any _ he.out).mono ?_
    rintro e wu ⟨rfl, hb⟩
    replace hB := hide (hB.out.trans (hb.mono hB.out.size))
    clear hb
    go_wp2
    go_ret
    exact ⟨rfl, hB.out⟩
end Go.Proofs.YtjfdfhnfcpfmcaaGreatDoor
