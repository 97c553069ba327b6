/-
  The law ClassMore returns true.
-/
import Derived.Test.YtjfdfhnfcpfmcaaGreatDoorMp
import Derived.Test.YtjfdfhnfcpfmcaaGreatDoorArgs4
import Derived.Deep.CutRange
namespace Go.Proofs.YtjfdfhnfcpfmcaaGreatDoor
open Go.RowKit RG

theorem mayF_cases (S : Sys) (rs : List (Int × Int)) (c f : Int) : ((mayF S rs c f).2 ≠ 0 ∧ (mayF S rs c f).1 = false) ∨
    (openF S [rs] = 0 ∧ ∃ c' f' : Nat, c = (c' : Int) ∧ f = (f' : Int) ∧ c' < S.cs.length ∧ f' < 2 ^ S.codes.length ∧ mayF S rs c f = (mayL S rs c' f', 0)) := by
  by_cases h0 : openF S [rs] = 0
  · by_cases h1 : inB 0 ((S.cs.length : Int) - 1) c = true
    · by_cases h2 : inB 0 (((2 ^ S.codes.length : Nat) : Int) - 1) f = true
      · have h1' := inB_iff.1 h1
        have h2' := inB_iff.1 h2
        obtain ⟨c', rfl⟩ : ∃ c' : Nat, c = c' := ⟨c.toNat, by omega⟩
        obtain ⟨f', rfl⟩ : ∃ f' : Nat, f = f' := ⟨f.toNat, by generalize 2 ^ S.codes.length = M at *; omega⟩
        have hc : c' < S.cs.length := by omega
        have hf : f' < 2 ^ S.codes.length := by generalize 2 ^ S.codes.length = M at *; omega
        exact .inr ⟨h0, c', f', rfl, rfl, hc, hf, mayF_val h0 hc hf⟩
      · refine .inl ?_
        unfold mayF
        rw [if_neg (by rw [h0]; simp), if_neg (by rw [h1]; simp), if_pos (by simpa using h2)]
        exact ⟨by simp, rfl⟩
    · refine .inl ?_
      unfold mayF
      rw [if_neg (by rw [h0]; simp), if_pos (by simpa using h1)]
      exact ⟨by simp, rfl⟩
  · refine .inl ?_
    unfold mayF
    rw [if_pos h0]
    exact ⟨h0, rfl⟩
theorem tmod_nat {x : Int} (h : 0 ≤ x) {n : Nat} (hn : 0 < n) : ∃ k : Nat, x.tmod (n : Int) = (k : Int) ∧ k < n := by
  obtain ⟨d, rfl⟩ : ∃ d : Nat, x = d := ⟨x.toNat, by omega⟩
  exact ⟨d % n, by rw [Int.tmod_eq_emod_of_nonneg (Int.natCast_nonneg d)]; norm_cast, Nat.mod_lt _ hn⟩

set_option maxRecDepth 100000 in
set_option maxHeartbeats 8000000 in
theorem LawMore_any (A A2 R : Option Addr) (cc c2 cr : Nat) (S : Sys) (rs : List (Int × Int)) (c f x2 x3 x4 : Int) (w : World) (he : Env w) (h : InMem w A A2 cc c2 S) (hr : RdRts w R rs.length rs) (hna : R = none → cr = 0) :
    Calls Tryz.prog 14 #[.agg #[.slice A S.cs.length cc, .slice A2 S.codes.length c2], .slice R rs.length cr, .agg #[.int .i64 c, .int .i64 f, .int .i64 x2, .int .i64 x3, .int .i64 x4]] w fun e w' => e = .returned (.bool true) ∧ Below w.heap.size w w' := by
  have hB := hide (((Below.refl w.heap.size w).alloc (Nat.le_refl _) (.cells #[.slice A S.cs.length cc, .slice A2 S.codes.length c2] 38)).alloc (by simp) (.cells #[.int .i64 c, .int .i64 f, .int .i64 x2, .int .i64 x3, .int .i64 x4] 81))
  have hS := hide (show Blk ((w.alloc (.cells #[.slice A S.cs.length cc, .slice A2 S.codes.length c2] 38)).alloc (.cells #[.int .i64 c, .int .i64 f, .int .i64 x2, .int .i64 x3, .int .i64 x4] 81)) w.heap.size 38 #[.slice A S.cs.length cc, .slice A2 S.codes.length c2] from (Blk.new_ rfl).alloc _)
  have hX := hide (show Blk ((w.alloc (.cells #[.slice A S.cs.length cc, .slice A2 S.codes.length c2] 38)).alloc (.cells #[.int .i64 c, .int .i64 f, .int .i64 x2, .int .i64 x3, .int .i64 x4] 81)) (w.heap.size + 1) 81 #[.int .i64 c, .int .i64 f, .int .i64 x2, .int .i64 x3, .int .i64 x4] from Blk.new_ (by simp))
  have hZ : w.heap.size + 2 ≤ ((w.alloc (.cells #[.slice A S.cs.length cc, .slice A2 S.codes.length c2] 38)).alloc (.cells #[.int .i64 c, .int .i64 f, .int .i64 x2, .int .i64 x3, .int .i64 x4] 81)).heap.size := by simp +arith
  have heW := hide he
  replace he := hide (he.below hB.out he.size)
  have hrA := hide (fun W (hb : Below w.heap.size w W) => hr.below hb)
  have hc1 := hide (fun W (hb : Below w.heap.size w W) => May_any A A2 R cc c2 cr S rs c f W (h.below hb) (hr.below hb))
  rcases mayF_cases S rs c f with ⟨h1, h2⟩ | ⟨h0, c', f', rfl, rfl, hc, hf, hm⟩
  · clear h hr hna hrA hZ
    generalize mayF S rs c f = q at *
    obtain ⟨q1, q2⟩ := q
    simp only at h1 h2 hc1
    subst h2
    have hb1 : (q2 == 0) = false := by rw [beq_eq_false_iff_ne]; exact h1
    have hb2 : (q2 != 0) = true := by rw [bne_iff_ne]; exact h1
    replace h1 := hide h1
    generalize rs.length = m at *
    generalize S.cs.length = n at *
    generalize S.codes.length = n2 at *
    go_enter Tryz.func14, Tryz.ntmps14
    go_wp2_with fail
    generalize ((w.alloc (.cells #[.slice A n cc, .slice A2 n2 c2] 38)).alloc (.cells #[.int .i64 c, .int .i64 f, .int .i64 x2, .int .i64 x3, .int .i64 x4] 81)) = w0 at *
    refine (hc1.out _ hB.out).mono ?_
    rintro e w1 ⟨rfl, hb⟩
    replace he := hide (he.out.below hb he.out.size)
    replace hB := hide (hB.out.trans (hb.mono hB.out.size))
    clear hb hc1 hS hX
    go_wp2_with fail
    refine (Awake_any _ he.out).mono ?_
    rintro e wu ⟨rfl, hb⟩
    replace hB := hide (hB.out.trans (hb.mono hB.out.size))
    clear hb
    go_wp2
    go_ret
    exact ⟨rfl, hB.out⟩
  · have gd := (openF_good h0).1
    have gr := (openF_good h0).2 rs (List.mem_singleton.2 rfl)
    have hval := hide (fun (L : Option Addr) (W : World) (hb : Below w.heap.size w W) (hl : RdLists W L 1 [rs]) => (valid_any A A2 L cc c2 1 1 S [rs] W (h.below hb) hl).mono (R' := fun e w' => e = .returned (.bool true) ∧ Below W.heap.size W w') (fun e w' hh => ⟨by rw [hh.1, h0]; rfl, hh.2⟩))
    have hc2 := hide (fun (M : List (Int × Int)) (gM : GoodR S M) (D : Option Addr) (dc c f : Nat) (hc : c < S.cs.length) (hf : f < 2 ^ S.codes.length) W (hb : Below w.heap.size w W) (hl : RdRts W D M.length M) => by
      have := May_any A A2 D cc c2 dc S M c f W (h.below hb) hl; rw [mayF_val (openF_good_of gd gM) hc hf] at this; exact this)
    rw [hm] at hc1
    simp only at hc1
    have hn1 := gd.bd.1.1
    have hn12 := gd.bd.1.2
    have hn28 := gd.bd.2
    have hmm := hr.2
    have hm40 := gr.1
    unfold maxLen at hmm
    have hpb : 2 ^ S.codes.length ≤ 2 ^ 8 := Nat.pow_le_pow_right (by omega) hn28
    have hpb : 2 ^ S.codes.length ≤ 256 := hpb
    have hp0 : 0 < 2 ^ S.codes.length := Nat.two_pow_pos _
    obtain ⟨i0, hi, hz0, hz1, hz2⟩ := info_parts infoRt
    replace hi := hide hi
    replace hz0 := hide hz0
    replace hz1 := hide hz1
    replace hz2 := hide hz2
    clear h hr h0 hm
    replace gd := hide gd
    replace gr := hide gr
    generalize hmr : rs.length = m at *
    generalize hn : S.cs.length = n at *
    generalize hn2 : S.codes.length = n2 at *
    replace hmr := hide hmr
    replace hn := hide hn
    replace hn2 := hide hn2
    generalize hml : mayL S rs c' f' = ml at *
    replace hml := hide hml
    have hs := hide (fun k W (hk : k ≤ 40) => SetsR_any k W hk)
    go_enter Tryz.func14, Tryz.ntmps14
    go_wp2_with fail
    generalize ((w.alloc (.cells #[.slice A n cc, .slice A2 n2 c2] 38)).alloc (.cells #[.int .i64 c', .int .i64 f', .int .i64 x2, .int .i64 x3, .int .i64 x4] 81)) = w0 at *
    refine (hc1.out _ hB.out).mono ?_
    rintro e w1 ⟨rfl, hb⟩
    replace he := hide (he.out.below hb he.out.size)
    replace hS := hide (hS.out.below hb hS.out.lt)
    replace hX := hide (hX.out.below hb hX.out.lt)
    replace hB := hide (hB.out.trans (hb.mono hB.out.size))
    replace hZ := Nat.le_trans hZ hb.size
    clear hb hc1
    have s0 : w1.cell? ⟨w.heap.size, 0, none⟩ = some (.slice A n cc) := hS.out.cell 0
    have s1 : w1.cell? ⟨w.heap.size, 1, none⟩ = some (.slice A2 n2 c2) := hS.out.cell 1
    have hA : Below w1.heap.size w1 (w1.alloc (.cells #[.slice R m cr] 46)) := (Below.refl _ _).alloc (Nat.le_refl _) _
    have hl2 := hide (show RdLists (w1.alloc (.cells #[.slice R m cr] 46)) (some ⟨w1.heap.size, 0, none⟩) 1 [rs] by
      have h1 := hrA.out _ hB.out
      have := RdLists.one (w := w1) (R := R) (c := cr) (rs := rs) (by rw [hmr.out]; exact h1) 46
      rw [hmr.out] at this
      exact this)
    replace he := hide (he.out.below hA he.out.size)
    replace hB := hide (hB.out.trans (hA.mono hB.out.size))
    replace hS := hide (hS.out.below hA hS.out.lt)
    replace hX := hide (hX.out.below hA hX.out.lt)
    replace hZ := Nat.le_trans hZ hA.size
    clear hA
    go_wp2_with fail
    clear s0 s1
    generalize w1.heap.size = g1 at *
    generalize w1.alloc (.cells #[.slice R m cr] 46) = w2 at *
    refine (hval.out _ _ hB.out hl2.out).mono ?_
    rintro e w3 ⟨rfl, hb⟩
    replace he := hide (he.out.below hb he.out.size)
    replace hS := hide (hS.out.below hb hS.out.lt)
    replace hX := hide (hX.out.below hb hX.out.lt)
    replace hB := hide (hB.out.trans (hb.mono hB.out.size))
    replace hZ := Nat.le_trans hZ hb.size
    clear hb hval hl2
    cases ml with
    | false =>
      clear hS hX
      go_wp2_with fail
      refine (Awake_any _ he.out).mono ?_
      rintro e wu ⟨rfl, hb⟩
      replace hB := hide (hB.out.trans (hb.mono hB.out.size))
      clear hb
      go_wp2
      go_ret
      exact ⟨rfl, hB.out⟩
    | true =>
      have s2 : w3.cell? ⟨w.heap.size + 1, 2, none⟩ = some (.int .i64 x2) := hX.out.cell 2
      have s3 : w3.cell? ⟨w.heap.size + 1, 3, none⟩ = some (.int .i64 x3) := hX.out.cell 3
      have s4 : w3.cell? ⟨w.heap.size + 1, 4, none⟩ = some (.int .i64 x4) := hX.out.cell 4
      by_cases hneg : x2 < 0 ∨ x3 < 0 ∨ x4 < 0
      · have aw : ∀ W, Env W → Below w.heap.size w W → True := fun _ _ _ => trivial
        clear aw
        by_cases h2 : x2 < 0
        · go_wp2_with fail
          refine (Awake_any _ he.out).mono ?_
          rintro e wu ⟨rfl, hb⟩
          replace hB := hide (hB.out.trans (hb.mono hB.out.size))
          clear hb
          go_wp2
          go_ret
          exact ⟨rfl, hB.out⟩
        · by_cases h3 : x3 < 0
          · go_wp2_with fail
            refine (Awake_any _ he.out).mono ?_
            rintro e wu ⟨rfl, hb⟩
            replace hB := hide (hB.out.trans (hb.mono hB.out.size))
            clear hb
            go_wp2
            go_ret
            exact ⟨rfl, hB.out⟩
          · have h4 : x4 < 0 := by omega
            go_wp2_with fail
            refine (Awake_any _ he.out).mono ?_
            rintro e wu ⟨rfl, hb⟩
            replace hB := hide (hB.out.trans (hb.mono hB.out.size))
            clear hb
            go_wp2
            go_ret
            exact ⟨rfl, hB.out⟩
      · have h2 : ¬ x2 < 0 := by omega
        have h3 : ¬ x3 < 0 := by omega
        have h4 : ¬ x4 < 0 := by omega
        clear hneg
        have hE := hide (fun W (hb : Below w.heap.size w W) => heW.out.below hb heW.out.size)
        obtain ⟨k2, hk2, hk2l⟩ := tmod_nat (x := x2) (by omega) (n := n) (by omega)
        obtain ⟨k3, hk3, hk3l⟩ := tmod_nat (x := x3) (by omega) (n := 2 ^ n2) hp0
        have hk4 : 0 < n2 → ∃ k4 : Nat, x4.tmod (n2 : Int) = (k4 : Int) ∧ k4 < n2 := fun h0 => tmod_nat (by omega) h0
        replace hk4 := hide hk4
        replace hk3l := hide hk3l
        replace hk2l := hide hk2l
        have hown0 := hide (show (w3.alloc (.cells #[] 64)).ownsRow w3.heap.size 64 2 (.slice (some ⟨w3.heap.size, 0, none⟩) 0 0) 0 [] from ⟨rfl, .inr ⟨w3.heap.size, 0, #[], rfl, Nat.le_refl _, World.alloc_heap_new w3 _, Nat.le_refl _, by unfold maxLen; omega, rfl, rfl⟩⟩)
        have hA : Below w3.heap.size w3 (w3.alloc (.cells #[] 64)) := (Below.refl _ _).alloc (Nat.le_refl _) _
        have hB8 := hide (hB.out.trans (hA.mono hB.out.size))
        have hsz8 : w3.heap.size ≤ (w3.alloc (.cells #[] 64)).heap.size := hA.size
        go_wp2_with (at_builtin; go_loud (refine wpList_append_rts rfl _ _ rfl w3.heap.size i0 hi.out hz0.out hz1.out hz2.out _ _ _ rfl hown0.out R m cr rs rfl (hrA.out _ hB8.out) hna (by unfold maxLen; omega) (by omega) hsz8 ?_); intro va wa howna hgrowa)
        clear s2 s3 s4
        have hAa := hA.grown hgrowa hsz8 (fun k hk => (hown0.out.lt k hk).1)
        replace hS := hide (hS.out.below hAa hS.out.lt)
        replace hX := hide (hX.out.below hAa hX.out.lt)
        replace hB := hide (hB.out.trans (hAa.mono hB.out.size))
        have hza := hAa.size
        have hown : wa.ownsRow w3.heap.size 64 2 va m (rs.flatMap rtCells) := by simpa using howna
        obtain ⟨Aw, cap, rfl⟩ : ∃ Aw cap, va = .slice Aw m cap := by
          rcases hown.2 with ⟨rfl, h0⟩ | ⟨g, cap, cur, rfl, _⟩
          · exact ⟨none, 0, by rw [h0]⟩
          · exact ⟨_, cap, rfl⟩
        replace hown := hide hown
        have hls0 := hide (Less.refl (S := S) gr.out)
        generalize w3.heap.size = B3 at *
        clear howna hgrowa hAa hA hB8 hsz8 hown0 hrA he
        go_loopg [10] n2 (fun g iv wr => ∃ (i : Nat) (M : List (Int × Int)) (fq : Nat), i ≤ n2 ∧ n2 - i ≤ g ∧ iv = .int .i64 i ∧ fq ≤ f' ∧ B3 ≤ wr.heap.size ∧ Hid (Below w.heap.size w wr) ∧ Hid (Blk wr w.heap.size 38 #[.slice A n cc, .slice A2 n2 c2]) ∧
          Hid (Blk wr (w.heap.size + 1) 81 #[.int .i64 c', .int .i64 fq, .int .i64 x2, .int .i64 x3, .int .i64 x4]) ∧ Hid (wr.ownsRow B3 64 2 (.slice Aw m cap) m (M.flatMap rtCells)) ∧ Hid (Less S rs M) ∧ Hid (∀ b, fq.testBit b = true → f'.testBit b = true))
        case atStart => exact ⟨0, rs, f', Nat.zero_le _, by omega, rfl, Nat.le_refl _, hza, hB, hS, hX, hown, hls0, fun _ h => h⟩
        case round =>
          clear hB hS hX hown hls0 hza
          obtain ⟨i, M, fq, hil, hg, rfl, hfq, hza, hB, hS, hX, hown, hls, hfb⟩ := hrel
          have s1 : wr.cell? ⟨w.heap.size, 1, none⟩ = some (.slice A2 n2 c2) := hS.out.cell 1
          have y1 : wr.cell? ⟨w.heap.size + 1, 1, none⟩ = some (.int .i64 fq) := hX.out.cell 1
          have y4 : wr.cell? ⟨w.heap.size + 1, 4, none⟩ = some (.int .i64 x4) := hX.out.cell 4
          by_cases hlt : i < n2
          · have hltz : (i : Int) < (n2 : Int) := by omega
            have hn2z : (n2 : Int) ≠ 0 := by omega
            obtain ⟨k4, hk4e, hk4l⟩ := hk4.out (by omega)
            by_cases hik : i = k4
            · have heq : ((i : Int) == (k4 : Int)) = true := by rw [hik]; simp
              replace hik := hide hik
              have hfq40 : fq < 2 ^ 40 := Nat.lt_of_le_of_lt (show fq ≤ 256 by omega) (by decide)
              have hi40 : i ≤ 40 := by omega
              go_wp2_with fail
              refine (HasR_any fq i _ hi40 hfq40).mono ?_
              rintro e w5 ⟨rfl, rfl⟩
              go_upto_if 80 with (fail)
              go_cut [10] from 62 to 116 (fun iv wx => ∃ fq2 : Nat, iv = .int .i64 i ∧ fq2 ≤ f' ∧ B3 ≤ wx.heap.size ∧ Hid (Below w.heap.size w wx) ∧ Hid (Blk wx w.heap.size 38 #[.slice A n cc, .slice A2 n2 c2]) ∧
                Hid (Blk wx (w.heap.size + 1) 81 #[.int .i64 c', .int .i64 fq2, .int .i64 x2, .int .i64 x3, .int .i64 x4]) ∧ Hid (wx.ownsRow B3 64 2 (.slice Aw m cap) m (M.flatMap rtCells)) ∧ Hid (∀ b, fq2.testBit b = true → f'.testBit b = true))
              case first =>
                cases hbit : fq.testBit i with
                | true =>
                  have hple : 2 ^ i ≤ fq := Nat.ge_two_pow_of_testBit hbit
                  have hfb2 := hide (fun b hb => hfb.out b (sub_bits hbit b hb))
                  have hsi := hide (fun W => hs.out i W hi40)
                  have hzx := hX.out.lt
                  generalize 2 ^ i = p at *
                  have hcast : (fq : Int) - (p : Int) = ((fq - p : Nat) : Int) := by omega
                  have hcr : ((fq - p : Nat) : Int) ≤ 256 := by omega
                  have hcr0 : (0 : Int) ≤ ((fq - p : Nat) : Int) := by omega
                  generalize hq : fq - p = fq2 at *
                  have hfq2 : fq2 ≤ f' := by omega
                  have hwr : IntKind.i64.wrap ((fq2 : Nat) : Int) = ((fq2 : Nat) : Int) := Bits.wrap_nat _ (by omega)
                  clear hbit
                  go_wp2
                  refine region_grow_tail 6 [IsV (.pointer (some ⟨w.heap.size + 1, 1, none⟩)), IsV (.int .i64 fq), IsV (.int .i64 i), IsV (.int .i64 (p : Nat)), IsV (.int .i64 (fq2 : Nat)), IsV (.pointer (some ⟨w.heap.size + 1, 1, none⟩))] (by kernel_rfl) (by kernel_rfl) rfl ?_ ?_ ?_
                  · simp [AllStb, IsV.stb]
                  · refine ⟨?_, ?_, ?_, ?_, ?_, ?_, trivial⟩
                    all_goals
                      intro y w6 K Q Cv hC hd hV
                      have r1 := (cellB (o := 1) hC hzx).trans y1
                      simp [deps, VL, IsV, Region.binds] at hd
                      simp only [List.take_succ_cons, List.take_zero, putAll, Act.put]
                      go_simp; intro hK
                    · exact hK _ _ (hV _ _ hC (Below.refl _ _) rfl)
                    · exact hK _ _ (hV _ _ hC (Below.refl _ _) rfl)
                    · exact hK _ _ (hV _ _ hC (Below.refl _ _) rfl)
                    · refine (hsi.out w6).mono ?_
                      rintro e w7 ⟨rfl, rfl⟩
                      exact hK _ _ (hV _ _ hC (Below.refl _ _) rfl)
                    · exact hK _ _ (hV _ _ hC (Below.refl _ _) rfl)
                    · exact hK _ _ (hV _ _ hC (Below.refl _ _) rfl)
                  · intro y w6 hC hd
                    simp [EndsL, IsV] at hd
                    obtain ⟨d0, d1, d2, d3, d4, d5⟩ := hd
                    simp only [List.take_succ_cons, List.take_zero, List.drop_succ_cons, List.drop_zero, putAll, Act.put]
                    rw [d0, d1, d2, d3, d4, d5]
                    clear d0 d1 d2 d3 d4 d5
                    simp only [List.setIfInBounds_toArray, List.set_cons_succ, List.set_cons_zero]
                    have hX6 := hX.out.below hC hX.out.lt
                    have hS6 := hide (hS.out.below hC hS.out.lt)
                    have hO6 := hide (own_below hown.out hC)
                    have g0 : w6.cell? ⟨w.heap.size + 1, 1, none⟩ = some (.int .i64 fq) := hX6.cell 1
                    have f0 : w6.frozen? ⟨w.heap.size + 1, 1, none⟩ = false := hX6.frozen 1
                    have hza6 : B3 ≤ w6.heap.size := Nat.le_trans hza hC.size
                    have hB6 := hide (hB.out.trans (hC.mono hB.out.size))
                    have hX6 := hide hX6
                    clear hC y1 s1 y4
                    go_wp2
                    go_meet
                    case rel => exact ⟨fq2, rfl, hfq2, by simpa using hza6, hB6.out.setCell (by simp) _, hS6.out.far (by simp) _, by unfold Hid; simpa using hX6.out.set_ 1 (.int .i64 fq2), ownsRow_setCell_below hO6.out (by simp; omega) _, hfb2.out⟩
                | false =>
                  go_wp2
                  go_meet
                  case rel => exact ⟨fq, rfl, hfq, hza, hB, hS, hX, hown, hfb⟩
              case rest =>
                clear hB hS hX hown hza hfb y1 y4 s1
                obtain ⟨fq2, rfl, hfq2, hza, hB, hS, hX, hown, hfb⟩ := hcut
                go_wp2
                go_loopg [11] m (fun g kv wr => ∃ (k : Nat) (M2 : List (Int × Int)), k ≤ m ∧ m - k ≤ g ∧ kv = .int .i64 k ∧ B3 ≤ wr.heap.size ∧ Hid (Below w.heap.size w wr) ∧ Hid (Blk wr w.heap.size 38 #[.slice A n cc, .slice A2 n2 c2]) ∧
                  Hid (Blk wr (w.heap.size + 1) 81 #[.int .i64 c', .int .i64 fq2, .int .i64 x2, .int .i64 x3, .int .i64 x4]) ∧ Hid (wr.ownsRow B3 64 2 (.slice Aw m cap) m (M2.flatMap rtCells)) ∧ Hid (Less S rs M2))
                case atStart => exact ⟨0, M, Nat.zero_le _, by omega, rfl, hza, hB, hS, hX, hown, hls⟩
                case round =>
                  clear hB hS hX hown hls hza
                  obtain ⟨k, M2, hkl, hg2, rfl, hza, hB, hS, hX, hown, hls⟩ := hrel
                  by_cases hlt2 : k < m
                  · have hkz : (k : Int) < (m : Int) := by omega
                    have hLl : M2.length = m := hls.out.1.trans hmr.out
                    obtain ⟨c1, k1, kq, e1, e2, hc1, hk1, hkq, hbits⟩ := hls.out.2 k (by rw [hmr.out]; exact hlt2)
                    obtain ⟨gq, cap', heqv, hbg, hglt, q0, q1, qf, qset⟩ := own_right hown.out hLl hlt2 e2
                    simp only [Value.slice.injEq] at heqv
                    obtain ⟨rfl, _, rfl⟩ := heqv
                    rw [hn2.out] at hkq
                    clear e1 hc1 hk1 hbits q0 hLl
                    have hkq40 : kq < 2 ^ 40 := Nat.lt_of_le_of_lt (show kq ≤ 256 by omega) (by decide)
                    have hm2 : m < 2 ^ 40 := Nat.lt_of_le_of_lt hm40 (by decide)
                    replace e2 := hide e2
                    replace qset := hide qset
                    by_cases hev : (k : Int).tmod 2 = 0
                    · have hevb : ((k : Int).tmod 2 == 0) = true := by simpa using hev
                      go_wp2_with fail
                      refine (HasR_any kq i _ hi40 hkq40).mono ?_
                      rintro e w5 ⟨rfl, rfl⟩
                      cases hbit : kq.testBit i with
                      | true =>
                        have hple : 2 ^ i ≤ kq := Nat.ge_two_pow_of_testBit hbit
                        have hls2 := hide (hls.out.set (by rw [hmr.out]; exact hlt2) e2.out hbit)
                        have hsi := hide (fun W => hs.out i W hi40)
                        generalize 2 ^ i = p at *
                        have hcast : (kq : Int) - (p : Int) = ((kq - p : Nat) : Int) := by omega
                        have hcr : ((kq - p : Nat) : Int) ≤ 256 := by omega
                        have hcr0 : (0 : Int) ≤ ((kq - p : Nat) : Int) := by omega
                        generalize hq : kq - p = kr at *
                        have hwr : IntKind.i64.wrap ((kr : Nat) : Int) = ((kr : Nat) : Int) := Bits.wrap_nat _ (by omega)
                        clear hbit hev hevb
                        go_wp2
                        refine region_grow_tail 12 [IsV (.slice (some ⟨gq, 0, none⟩) m cap), IsV (.int .i64 k), IsV (.slice (some ⟨gq, 0, none⟩) m cap), IsV (.int .i64 k), IsV (.pointer (some ⟨gq, k * 2, none⟩)), IsV (.pointer (some ⟨gq, k * 2 + 1, none⟩)), IsV (.int .i64 kq), IsV (.int .i64 i), IsV (.int .i64 (p : Nat)), IsV (.int .i64 (kr : Nat)), IsV (.pointer (some ⟨gq, k * 2, none⟩)), IsV (.pointer (some ⟨gq, k * 2 + 1, none⟩))] (by kernel_rfl) (by kernel_rfl) rfl ?_ ?_ ?_
                        · simp [AllStb, IsV.stb]
                        · refine ⟨?_, ?_, ?_, ?_, ?_, ?_, ?_, ?_, ?_, ?_, ?_, ?_, trivial⟩
                          all_goals
                            intro y w6 K Q Cv hC hd hV
                            have r1 := (cellB (o := k * 2 + 1) hC hglt).trans q1
                            simp [deps, VL, IsV, Region.binds] at hd
                            simp only [List.take_succ_cons, List.take_zero, putAll, Act.put]
                            go_simp; intro hK
                          · exact hK _ _ (hV _ _ hC (Below.refl _ _) rfl)
                          · exact hK _ _ (hV _ _ hC (Below.refl _ _) rfl)
                          · exact hK _ _ (hV _ _ hC (Below.refl _ _) rfl)
                          · exact hK _ _ (hV _ _ hC (Below.refl _ _) rfl)
                          · exact hK _ _ (hV _ _ hC (Below.refl _ _) rfl)
                          · exact hK _ _ (hV _ _ hC (Below.refl _ _) rfl)
                          · exact hK _ _ (hV _ _ hC (Below.refl _ _) rfl)
                          · exact hK _ _ (hV _ _ hC (Below.refl _ _) rfl)
                          · refine (hsi.out w6).mono ?_
                            rintro e w7 ⟨rfl, rfl⟩
                            exact hK _ _ (hV _ _ hC (Below.refl _ _) rfl)
                          · exact hK _ _ (hV _ _ hC (Below.refl _ _) rfl)
                          · exact hK _ _ (hV _ _ hC (Below.refl _ _) rfl)
                          · exact hK _ _ (hV _ _ hC (Below.refl _ _) rfl)
                        · intro y w6 hC hd
                          simp [EndsL, IsV] at hd
                          obtain ⟨d0, d1, d2, d3, d4, d5, d6, d7, d8, d9, d10, d11⟩ := hd
                          simp only [List.take_succ_cons, List.take_zero, List.drop_succ_cons, List.drop_zero, putAll, Act.put]
                          rw [d0, d1, d2, d3, d4, d5, d6, d7, d8, d9, d10, d11]
                          clear d0 d1 d2 d3 d4 d5 d6 d7 d8 d9 d10 d11
                          simp only [List.setIfInBounds_toArray, List.set_cons_succ, List.set_cons_zero]
                          have hO6 := own_below hown.out hC
                          have hLl : M2.length = m := hls.out.1.trans hmr.out
                          obtain ⟨g9, cap9, heqv, _, _, _, g0, f0, hset⟩ := own_right hO6 hLl hlt2 e2.out
                          simp only [Value.slice.injEq, Option.some.injEq, Addr.mk.injEq] at heqv
                          obtain ⟨⟨rfl, _, _⟩, _, rfl⟩ := heqv
                          have hX6 := hide (hX.out.below hC hX.out.lt)
                          have hS6 := hide (hS.out.below hC hS.out.lt)
                          have hO6 := hide (hset kr)
                          clear hset hLl
                          have hza6 : B3 ≤ w6.heap.size := Nat.le_trans hza hC.size
                          have hB6 := hide (hB.out.trans (hC.mono hB.out.size))
                          clear hC q1 qf
                          go_wp2
                          go_roundg (m - (k + 1))
                          case measure => omega
                          case rel => exact ⟨k + 1, _, by omega, by omega, by go_num, by simpa using hza6, hB6.out.setCell (by simp; omega) _, hS6.out.far (by simp; omega) _, hX6.out.far (by simp; omega) _, hO6, hls2⟩
                      | false =>
                        go_wp2
                        go_roundg (m - (k + 1))
                        case measure => omega
                        case rel => exact ⟨k + 1, M2, by omega, by omega, by go_num, hza, hB, hS, hX, hown, hls⟩
                    · have hevb : ((k : Int).tmod 2 == 0) = false := by simpa using hev
                      go_wp2
                      go_roundg (m - (k + 1))
                      case measure => omega
                      case rel => exact ⟨k + 1, M2, by omega, by omega, by go_num, hza, hB, hS, hX, hown, hls⟩
                  · obtain rfl : k = m := by omega
                    have hkz : ¬ (k : Int) < (k : Int) := by omega
                    go_wp2
                    go_roundg (n2 - (i + 1))
                    case measure => omega
                    case rel => exact ⟨i + 1, M2, fq2, by omega, by omega, by go_num, hfq2, hza, hB, hS, hX, hown, hls, hfb⟩
            · have heq : ((i : Int) == (k4 : Int)) = false := by rw [beq_eq_false_iff_ne]; omega
              go_wp2
              go_roundg (n2 - (i + 1))
              case measure => omega
              case rel => exact ⟨i + 1, M, fq, by omega, by omega, by go_num, hfq, hza, hB, hS, hX, hown, hls, hfb⟩
          · obtain rfl : i = n2 := by omega
            have hltz : ¬ (i : Int) < (i : Int) := by omega
            clear hk4 hs
            have hmay := hide (hls.out.may hfb.out hml.out)
            have hgm := hide (hls.out.good gr.out)
            have hLl : M.length = m := hls.out.1.trans hmr.out
            go_upto_if 119 with (fail)
            go_cut [9] from 117 to 136 (fun v wx => ∃ M' : List (Int × Int), Hid (GoodR S M') ∧ Hid (mayL S M' c' fq = true) ∧ Hid (IsRts M' v wx) ∧ Hid (Env wx) ∧ Hid (Below w.heap.size w wx) ∧ Hid (Blk wx w.heap.size 38 #[.slice A n cc, .slice A2 i c2]) ∧ Hid (Blk wx (w.heap.size + 1) 81 #[.int .i64 c', .int .i64 fq, .int .i64 x2, .int .i64 x3, .int .i64 x4]))
            case first =>
              by_cases hm : m < 40
              · have hmz : (m : Int) < 40 := by omega
                have hzx := hX.out.lt
                have hzs := hS.out.lt
                have s0 : wr.cell? ⟨w.heap.size, 0, none⟩ = some (.slice A n cc) := hS.out.cell 0
                have s1 : wr.cell? ⟨w.heap.size, 1, none⟩ = some (.slice A2 i c2) := hS.out.cell 1
                have y2 : wr.cell? ⟨w.heap.size + 1, 2, none⟩ = some (.int .i64 x2) := hX.out.cell 2
                have y3 : wr.cell? ⟨w.heap.size + 1, 3, none⟩ = some (.int .i64 x3) := hX.out.cell 3
                have hnz : ¬ n = 0 := by omega
                have hx := hide (goodR_snoc hgm.out (by omega) (c := k2) (k := k3) (by rw [hn.out]; exact hk2l.out) (by rw [hn2.out]; exact hk3l.out))
                have hsi := hide (fun W => SetsR_any i W (by omega))
                replace hLl := hide hLl
                generalize 2 ^ i = p at *
                have hpz : ¬ p = 0 := by omega
                go_wp2
                refine region_grow_tail 16 [IsV (.slice Aw m cap), IsV (.pointer (some ⟨w.heap.size + 1, 2, none⟩)), IsV (.int .i64 x2), IsV (.pointer (some ⟨w.heap.size, 0, none⟩)), IsV (.slice A n cc), IsV (.int .i64 (n : Nat)), IsV (.int .i64 (k2 : Nat)), IsV (.pointer (some ⟨w.heap.size + 1, 3, none⟩)), IsV (.int .i64 x3), IsV (.pointer (some ⟨w.heap.size, 1, none⟩)), IsV (.slice A2 i c2), IsV (.int .i64 (i : Nat)), IsV (.int .i64 (p : Nat)), IsV (.int .i64 (k3 : Nat)), IsV (.agg #[.int .i64 (k2 : Nat), .int .i64 (k3 : Nat)]), IsRts [((k2 : Int), (k3 : Int))]] (by kernel_rfl) (by kernel_rfl) rfl ?_ ?_ ?_
                · simp [AllStb, IsV.stb, IsRts.stb]
                · refine ⟨?_, ?_, ?_, ?_, ?_, ?_, ?_, ?_, ?_, ?_, ?_, ?_, ?_, ?_, ?_, ?_, trivial⟩
                  all_goals
                    intro y w6 K Q Cv hC hd hV
                    have r0 := (cellB (o := 0) hC hzs).trans s0
                    have r1 := (cellB (o := 1) hC hzs).trans s1
                    have r2 := (cellB (o := 2) hC hzx).trans y2
                    have r3 := (cellB (o := 3) hC hzx).trans y3
                    simp [deps, VL, IsV, Region.binds] at hd
                    simp only [List.take_succ_cons, List.take_zero, putAll, Act.put]
                    go_simp; intro hK
                  · exact hK _ _ (hV _ _ hC (Below.refl _ _) rfl)
                  · exact hK _ _ (hV _ _ hC (Below.refl _ _) rfl)
                  · exact hK _ _ (hV _ _ hC (Below.refl _ _) rfl)
                  · exact hK _ _ (hV _ _ hC (Below.refl _ _) rfl)
                  · exact hK _ _ (hV _ _ hC (Below.refl _ _) rfl)
                  · exact hK _ _ (hV _ _ hC (Below.refl _ _) rfl)
                  · exact hK _ _ (hV _ _ hC (Below.refl _ _) rfl)
                  · exact hK _ _ (hV _ _ hC (Below.refl _ _) rfl)
                  · exact hK _ _ (hV _ _ hC (Below.refl _ _) rfl)
                  · exact hK _ _ (hV _ _ hC (Below.refl _ _) rfl)
                  · exact hK _ _ (hV _ _ hC (Below.refl _ _) rfl)
                  · exact hK _ _ (hV _ _ hC (Below.refl _ _) rfl)
                  · refine (hsi.out w6).mono ?_
                    rintro e w7 ⟨rfl, rfl⟩
                    exact hK _ _ (hV _ _ hC (Below.refl _ _) rfl)
                  · exact hK _ _ (hV _ _ hC (Below.refl _ _) rfl)
                  · exact hK _ _ (hV _ _ hC (Below.refl _ _) rfl)
                  · exact hK _ _ (hV _ _ (hC.alloc hC.size _) ((Below.refl _ _).alloc (Nat.le_refl _) _) (isRts_blk [((k2 : Int), (k3 : Int))] (Blk.new_ rfl) rfl (by unfold maxLen; simp)))
                · intro y w6 hC hd
                  simp [EndsL, IsV] at hd
                  obtain ⟨d0, d1, d2, d3, d4, d5, d6, d7, d8, d9, d10, d11, d12, d13, d14, d15⟩ := hd
                  obtain ⟨J, jc, d15, hJ⟩ := d15
                  simp only [List.take_succ_cons, List.take_zero, List.drop_succ_cons, List.drop_zero, putAll, Act.put]
                  rw [d0, d1, d2, d3, d4, d5, d6, d7, d8, d9, d10, d11, d12, d13, d14, d15]
                  clear d0 d1 d2 d3 d4 d5 d6 d7 d8 d9 d10 d11 d12 d13 d14 d15
                  simp only [List.setIfInBounds_toArray, List.set_cons_succ, List.set_cons_zero]
                  have hX6 := hide (hX.out.below hC hX.out.lt)
                  have hS6 := hide (hS.out.below hC hS.out.lt)
                  have hO6 := hide (own_below hown.out hC)
                  have hza6 : B3 ≤ w6.heap.size := Nat.le_trans hza hC.size
                  have hB6 := hide (hB.out.trans (hC.mono hB.out.size))
                  have hJn : J = none → jc = 0 := by
                    rintro rfl
                    obtain ⟨b, off, e, _⟩ := hJ.1.2.2 (by simp)
                    cases e
                  replace hJ := hide hJ
                  clear hC s0 s1 y2 y3
                  go_wp2_with (at_builtin; (refine wpList_append_rts rfl _ _ rfl B3 i0 hi.out hz0.out hz1.out hz2.out _ _ _ rfl hO6.out J 1 jc [((k2 : Int), (k3 : Int))] rfl hJ.out hJn (by unfold maxLen; omega) (by omega) hza6 ?_); intro vb wb hownb hgrowb)
                  have hAb := (Below.refl B3 w6).grown hgrowb hza6 (fun k hk => (hO6.out.lt k hk).1)
                  have hBb := hide (hB6.out.trans (hAb.mono (by omega)))
                  have hSb := hide (hS6.out.below hAb (by omega))
                  have hXb := hide (hX6.out.below hAb (by omega))
                  have hrb := hide (isRts_flat (l := M ++ [((k2 : Int), (k3 : Int))]) (by rw [List.flatMap_append]; exact hownb) (by simp; exact hLl.out.symm) (by simp; rw [hLl.out]; unfold maxLen; omega))
                  clear hownb hgrowb hAb hJ hJn
                  go_wp2
                  go_meet
                  case rel => exact ⟨_, hx, hide (mayL_more _ hmay.out), hrb, hide (hE.out _ hBb.out), hBb, hSb, hXb⟩
              · have hmz : ¬ (m : Int) < 40 := by omega
                have hrb := hide (isRts_flat hown.out hLl.symm (by rw [hLl]; unfold maxLen; omega))
                replace hLl := hide hLl
                go_wp2
                go_meet
                case rel => exact ⟨_, hgm, hmay, hrb, hide (hE.out _ hB.out), hB, hS, hX⟩
            case rest =>
              clear hB hS hX hown hza hgm hmay hls hLl
              obtain ⟨M', hgm, hmay, hrts, he, hB, hS, hX⟩ := hcut
              obtain ⟨D, dc, rfl, hD⟩ := hrts.out
              have s0 : wc.cell? ⟨w.heap.size, 0, none⟩ = some (.slice A n cc) := hS.out.cell 0
              have s1 : wc.cell? ⟨w.heap.size, 1, none⟩ = some (.slice A2 i c2) := hS.out.cell 1
              have y0 : wc.cell? ⟨w.heap.size + 1, 0, none⟩ = some (.int .i64 c') := hX.out.cell 0
              have y1 : wc.cell? ⟨w.heap.size + 1, 1, none⟩ = some (.int .i64 fq) := hX.out.cell 1
              have hfin := hide (hc2.out M' hgm.out D dc c' fq hc (by omega) wc hB.out hD)
              rw [hmay.out] at hfin
              clear hD hrts hmay hgm hc2 hS hX
              generalize M'.length = ml2 at *
              go_wp2_with fail
              clear s0 s1 y0 y1
              refine hfin.out.mono ?_
              rintro e w5 ⟨rfl, hb⟩
              replace he := hide (he.out.below hb he.out.size)
              replace hB := hide (hB.out.trans (hb.mono hB.out.size))
              clear hb hfin
              go_wp2_with fail
              refine (Awake_any _ he.out).mono ?_
              rintro e wu ⟨rfl, hb⟩
              replace hB := hide (hB.out.trans (hb.mono hB.out.size))
              clear hb
              go_wp2
              go_ret
              exact ⟨rfl, hB.out⟩
end Go.Proofs.YtjfdfhnfcpfmcaaGreatDoor
