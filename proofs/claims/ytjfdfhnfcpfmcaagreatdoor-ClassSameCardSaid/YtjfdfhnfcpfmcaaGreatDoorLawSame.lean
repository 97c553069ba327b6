/-
  The law ClassSame returns true.
-/
import Derived.Test.YtjfdfhnfcpfmcaaGreatDoorMo
namespace Go.Proofs.YtjfdfhnfcpfmcaaGreatDoor
open Go.RowKit RG

set_option maxRecDepth 100000 in
set_option maxHeartbeats 8000000 in
theorem LawSame_any (A A2 R R' : Option Addr) (cc c2 cr cr' : Nat) (S : Sys) (ra rb : List (Int × Int)) (w : World) (he : Env w) (h : InMem w A A2 cc c2 S) (hr : RdRts w R ra.length ra) (hr' : RdRts w R' rb.length rb) :
    Calls Tryz.prog 12 #[.agg #[.slice A S.cs.length cc, .slice A2 S.codes.length c2], .slice R ra.length cr, .slice R' rb.length cr'] w fun e w' => e = .returned (.bool true) ∧ Below w.heap.size w w' := by
  have hc1 := hide (fun W (hb : Below w.heap.size w W) => Least_U A A2 R cc c2 cr S ra W (h.below hb) (hr.below hb))
  have hc2 := hide (fun W (hb : Below w.heap.size w W) => Least_U A A2 R' cc c2 cr' S rb W (h.below hb) (hr'.below hb))
  have hval := hide (fun (L : Option Addr) (W : World) (hb : Below w.heap.size w W) (hl : RdLists W L 2 [ra, rb]) => valid_any A A2 L cc c2 2 2 S [ra, rb] W (h.below hb) hl)
  have hm1 := hide (fun (h0 : openF S [ra] = 0) (c f : Nat) (hc : c < S.cs.length) (hf : f < 2 ^ S.codes.length) W (hb : Below w.heap.size w W) => by have := May_any A A2 R cc c2 cr S ra c f W (h.below hb) (hr.below hb); rw [mayF_val h0 hc hf] at this; exact this)
  have hm2 := hide (fun (h0 : openF S [rb] = 0) (c f : Nat) (hc : c < S.cs.length) (hf : f < 2 ^ S.codes.length) W (hb : Below w.heap.size w W) => by have := May_any A A2 R' cc c2 cr' S rb c f W (h.below hb) (hr'.below hb); rw [mayF_val h0 hc hf] at this; exact this)
  have hB0 := hide ((Below.refl w.heap.size w).alloc (Nat.le_refl _) (.cells #[.slice A S.cs.length cc, .slice A2 S.codes.length c2] 38))
  have hS0 := hide (Blk.new_ (w := w) (g := w.heap.size) (t := 38) (cs := #[.slice A S.cs.length cc, .slice A2 S.codes.length c2]) rfl)
  have he0 := hide (he.below hB0.out he.size)
  have htwo := hide (openF_two S ra rb)
  have hrA := hide (fun W (hb : Below w.heap.size w W) => hr.below hb)
  have hrB := hide (fun W (hb : Below w.heap.size w W) => hr'.below hb)
  have hfs := hide (fun (h0 : openF S [ra, rb] = 0) (L1 L2 : List (Int × Int)) (h1 : FormP S.cs S.cs.length (· ∈ ra) L1) (h2 : FormP S.cs S.cs.length (· ∈ rb) L2) =>
    And.intro (form_same (openF_good h0).1 ((openF_good h0).2 ra (by simp)) ((openF_good h0).2 rb (by simp)) h1 h2) (And.intro (And.intro h1.len h2.len) (And.intro (openF_good h0).1.bd.1.2 (openF_good h0).1.bd.2)))
  clear he h hr hr'
  generalize openF S [ra] = x at *
  generalize openF S [rb] = y at *
  generalize openF S [ra, rb] = z at *
  generalize hn : S.cs.length = n at *
  generalize hn2 : S.codes.length = n2 at *
  generalize mayL S ra = ma at *
  generalize mayL S rb = mb at *
  replace hn := hide hn
  replace hn2 := hide hn2
  go_enter Tryz.func12, Tryz.ntmps12
  go_wp2_with fail
  generalize w.alloc (.cells #[.slice A n cc, .slice A2 n2 c2] 38) = w0 at *
  refine (hc1.out _ hB0.out).mono ?_
  rintro e w1 ⟨⟨v, L1, rfl, hV1, hf1⟩, hb1⟩
  have he1 := hide (he0.out.below hb1 he0.out.size)
  have hB1 := hide (hB0.out.trans (hb1.mono hB0.out.size))
  have hS1 := hS0.out.below hb1 hS0.out.lt
  clear hb1 he0 hB0 hS0 hc1
  have s0 : w1.cell? ⟨w.heap.size, 0, none⟩ = some (.slice A n cc) := hS1.cell 0
  have s1 : w1.cell? ⟨w.heap.size, 1, none⟩ = some (.slice A2 n2 c2) := hS1.cell 1
  replace hS1 := hide hS1
  replace hf1 := hide hf1
  replace hV1 := hide hV1
  go_wp2_with fail
  clear s0 s1
  refine (hc2.out _ hB1.out).mono ?_
  rintro e w2 ⟨⟨v2, L2, rfl, hV2, hf2⟩, hb2⟩
  have he2 := hide (he1.out.below hb2 he1.out.size)
  have hB2 := hide (hB1.out.trans (hb2.mono hB1.out.size))
  have hS2 := hS1.out.below hb2 hS1.out.lt
  have hV1' := hide (IsRts.stb _ _ _ _ hb2 hV1.out)
  clear hb2 he1 hB1 hS1 hc2 hV1
  have s0 : w2.cell? ⟨w.heap.size, 0, none⟩ = some (.slice A n cc) := hS2.cell 0
  have s1 : w2.cell? ⟨w.heap.size, 1, none⟩ = some (.slice A2 n2 c2) := hS2.cell 1
  replace hS2 := hide hS2
  replace hf2 := hide hf2
  replace hV2 := hide hV2
  have hB3 := hide (hB2.out.alloc hB2.out.size (.cells #[.slice R ra.length cr, .slice R' rb.length cr'] 46))
  have hL3 := hide (RdLists.two (hrA.out _ hB2.out) (hrB.out _ hB2.out) (c := cr) (c' := cr') 46)
  have hA : Below w2.heap.size w2 (w2.alloc (.cells #[.slice R ra.length cr, .slice R' rb.length cr'] 46)) := (Below.refl _ _).alloc (Nat.le_refl _) _
  have he3 := hide (he2.out.below hA he2.out.size)
  have hS3 := hide (hS2.out.below hA hS2.out.lt)
  have hV3 := hide (IsRts.stb _ _ _ _ hA hV1'.out)
  have hU3 := hide (IsRts.stb _ _ _ _ hA hV2.out)
  clear hA
  go_wp2_with fail
  clear s0 s1 hV1' hV2 he2 hS2 hB2
  generalize w2.heap.size = g3 at *
  generalize w2.alloc (.cells #[.slice R ra.length cr, .slice R' rb.length cr'] 46) = w3 at *
  refine (hval.out _ _ hB3.out hL3.out).mono ?_
  rintro e w4 ⟨rfl, hb4⟩
  have he4 := hide (he3.out.below hb4 he3.out.size)
  have hB4 := hide (hB3.out.trans (hb4.mono hB3.out.size))
  have hS4 := hide (hS3.out.below hb4 hS3.out.lt)
  obtain ⟨D, dc, rfl, hD⟩ := IsRts.stb _ _ _ _ hb4 hV3.out
  obtain ⟨E, ec, rfl, hE⟩ := IsRts.stb _ _ _ _ hb4 hU3.out
  clear hb4 he3 hB3 hS3 hV3 hU3 hval hL3
  replace hD := hide hD
  replace hE := hide hE
  by_cases hz : z = 0
  · have hxy := htwo.out.1 hz
    obtain ⟨hsame, ⟨hl1, hl2⟩, hn12, hn28⟩ := hfs.out hz L1 L2 (hf1.out hxy.1) (hf2.out hxy.2)
    replace hm1 := hide (hm1.out hxy.1)
    replace hm2 := hide (hm2.out hxy.2)
    obtain ⟨rfl, rfl⟩ := hxy
    subst hz
    clear hf1 hf2 htwo hfs
    have hs := hide (fun W => SetsR_any n2 W (by omega))
    have hpb : 2 ^ n2 ≤ 2 ^ 8 := Nat.pow_le_pow_right (by omega) hn28
    have hpb : 2 ^ n2 ≤ 256 := hpb
    generalize 2 ^ n2 = p at *
    replace hsame := hide hsame
    go_wp2
    go_loopg [11, 12] n (fun g sv cv wr => ∃ (i : Nat) (bb : Bool), i ≤ n ∧ n - i ≤ g ∧ cv = .int .i64 i ∧ sv = .bool bb ∧ Hid (Below w4.heap.size w4 wr) ∧ Hid (bb = true ↔ ∀ c f, c < i → f < p → ma c f = mb c f))
    case atStart => exact ⟨0, true, Nat.zero_le _, by omega, rfl, rfl, Below.refl _ _, ⟨fun _ c f hc _ => absurd hc (by omega), fun _ => rfl⟩⟩
    case round =>
      obtain ⟨i, bb, hi, hg, rfl, rfl, BW, HI⟩ := hrel
      have SW := hS4.out.below BW.out hS4.out.lt
      have s0 : wr.cell? ⟨w.heap.size, 0, none⟩ = some (.slice A n cc) := SW.cell 0
      replace SW := hide SW
      by_cases hlt : i < n
      · have hltz : (i : Int) < (n : Int) := by omega
        go_wp2
        clear s0
        go_loopg [11, 13] p (fun g2 sv fv wr' => ∃ (q : Nat) (bb : Bool), q ≤ p ∧ p - q ≤ g2 ∧ fv = .int .i64 q ∧ sv = .bool bb ∧ Hid (Below w4.heap.size w4 wr') ∧ Hid (bb = true ↔ (∀ c f, c < i → f < p → ma c f = mb c f) ∧ ∀ f, f < q → ma i f = mb i f))
        case atStart => exact ⟨0, bb, Nat.zero_le _, by omega, rfl, rfl, BW, ⟨fun h => ⟨HI.out.1 h, fun f hf => absurd hf (by omega)⟩, fun h => HI.out.2 h.1⟩⟩
        case round =>
          clear BW SW HI
          obtain ⟨q, bb, hq, hg2, rfl, rfl, BW, HI⟩ := hrel
          have SW := hS4.out.below BW.out hS4.out.lt
          have s0 : wr.cell? ⟨w.heap.size, 0, none⟩ = some (.slice A n cc) := SW.cell 0
          have s1 : wr.cell? ⟨w.heap.size, 1, none⟩ = some (.slice A2 n2 c2) := SW.cell 1
          replace SW := hide SW
          go_wp2_with fail
          refine (hs.out _).mono ?_
          rintro e w' ⟨rfl, rfl⟩
          by_cases hltq : q < p
          · have hltz2 : (q : Int) < (p : Int) := by omega
            have hB5 := hide (hB4.out.trans (BW.out.mono hB4.out.size))
            go_wp2_with fail
            clear s0 s1
            refine (hm1.out i q hlt hltq _ hB5.out).mono ?_
            rintro e w6 ⟨rfl, hb6⟩
            have BW6 := hide (BW.out.trans (hb6.mono BW.out.size))
            have hB6 := hide (hB5.out.trans (hb6.mono hB5.out.size))
            have SW6 := SW.out.below hb6 SW.out.lt
            clear hb6 hB5 SW BW
            have s0 : w6.cell? ⟨w.heap.size, 0, none⟩ = some (.slice A n cc) := SW6.cell 0
            have s1 : w6.cell? ⟨w.heap.size, 1, none⟩ = some (.slice A2 n2 c2) := SW6.cell 1
            clear SW6
            go_wp2_with fail
            clear s0 s1
            refine (hm2.out i q hlt hltq _ hB6.out).mono ?_
            rintro e w7 ⟨rfl, hb7⟩
            have BW7 := hide (BW6.out.trans (hb7.mono BW6.out.size))
            clear hb7 hB6 BW6
            have hnew : Hid ((bb && (ma i q == mb i q)) = true ↔ (∀ c f, c < i → f < p → ma c f = mb c f) ∧ ∀ f, f < q + 1 → ma i f = mb i f) := by
              have h0 := HI.out
              rw [Bool.and_eq_true, h0, beq_iff_eq]
              constructor
              · rintro ⟨⟨h1, h2⟩, h3⟩
                refine ⟨h1, fun f hf => ?_⟩
                rcases Nat.lt_or_ge f q with h | h
                · exact h2 f h
                · obtain rfl : f = q := by omega
                  exact h3
              · rintro ⟨h1, h2⟩
                exact ⟨⟨h1, fun f hf => h2 f (by omega)⟩, h2 q (by omega)⟩
            clear HI
            generalize ma i q = am at *
            generalize mb i q = bm at *
            cases bb with
            | true =>
              go_wp2
              go_roundg (p - (q + 1))
              case measure => omega
              case rel => exact ⟨q + 1, (am == bm), by omega, by omega, by go_num, rfl, BW7, hnew⟩
            | false =>
              go_wp2
              go_roundg (p - (q + 1))
              case measure => omega
              case rel => exact ⟨q + 1, false, by omega, by omega, by go_num, rfl, BW7, hnew⟩
          · obtain rfl : q = p := by omega
            have hltz2 : ¬ (q : Int) < (q : Int) := by omega
            have hnew : Hid (bb = true ↔ ∀ c f, c < i + 1 → f < q → ma c f = mb c f) := by
              have h0 := HI.out
              unfold Hid
              rw [h0]
              constructor
              · rintro ⟨h1, h2⟩ c f hc hf
                rcases Nat.lt_or_ge c i with h | h
                · exact h1 c f h hf
                · obtain rfl : c = i := by omega
                  exact h2 f hf
              · intro h1
                exact ⟨fun c f hc hf => h1 c f (by omega) hf, fun f hf => h1 i f (by omega) hf⟩
            clear HI s0 s1
            go_wp2
            go_roundg (n - (i + 1))
            case measure => omega
            case rel => exact ⟨i + 1, bb, by omega, by omega, by go_num, rfl, BW, hnew⟩
      · obtain rfl : i = n := by omega
        have hltz : ¬ (i : Int) < (i : Int) := by omega
        have he5 := hide (he4.out.below BW.out he4.out.size)
        have hB5 := hide (hB4.out.trans (BW.out.mono hB4.out.size))
        have hD5 := hide (hD.out.below BW.out)
        have hE5 := hide (hE.out.below BW.out)
        have hdec : Hid (decide (L1 = L2) = bb) := by
          unfold Hid
          rw [Bool.eq_iff_iff, decide_eq_true_iff, hsame.out]
          exact HI.out.symm
        clear HI BW SW he4 hB4 hD hE hsame
        go_wp2_with fail
        clear s0
        refine (Same_any D E L1.length L2.length dc ec L1 L2 _ hD5.out hE5.out).mono ?_
        rintro e w6 ⟨rfl, hb6⟩
        have he6 := hide (he5.out.below hb6 he5.out.size)
        have hB6 := hide (hB5.out.trans (hb6.mono hB5.out.size))
        have hle : bb = true → ((L1.length : Int) ≤ (rb.length : Int) ∧ (L2.length : Int) ≤ (ra.length : Int)) := by
          intro hb
          have hdec := hdec.out
          rw [hb, decide_eq_true_iff] at hdec
          subst hdec
          omega
        rw [hdec.out]
        clear hb6 he5 hB5 hD5 hE5 hdec hm1 hm2
        cases bb with
        | true =>
          obtain ⟨hle1, hle2⟩ := hle rfl
          clear hle
          go_wp2_with fail
          refine (Awake_any _ he6.out).mono ?_
          rintro e w7 ⟨rfl, hb7⟩
          have hB7 := hide (hB6.out.trans (hb7.mono hB6.out.size))
          clear hb7
          go_wp2
          go_ret
          exact ⟨rfl, hB7.out⟩
        | false =>
          clear hle
          go_wp2_with fail
          refine (Awake_any _ he6.out).mono ?_
          rintro e w7 ⟨rfl, hb7⟩
          have hB7 := hide (hB6.out.trans (hb7.mono hB6.out.size))
          clear hb7
          go_wp2
          go_ret
          exact ⟨rfl, hB7.out⟩
  · have hb1 : (z == 0) = false := by rw [beq_eq_false_iff_ne]; exact hz
    clear hm1 hm2 hf1 hf2 hfs
    by_cases hx : x = 0
    · have hy : y ≠ 0 := fun hy => hz (htwo.out.2 ⟨hx, hy⟩)
      subst hx
      have hb2 : (y != 0) = true := by rw [bne_iff_ne]; exact hy
      replace hz := hide hz
      replace hy := hide hy
      clear htwo
      go_wp2_with fail
      refine (Awake_any _ he4.out).mono ?_
      rintro e w6 ⟨rfl, hb6⟩
      have hB6 := hide (hB4.out.trans (hb6.mono hB4.out.size))
      clear hb6
      go_wp2
      go_ret
      exact ⟨rfl, hB6.out⟩
    · have hb2 : (x != 0) = true := by rw [bne_iff_ne]; exact hx
      replace hz := hide hz
      replace hx := hide hx
      clear htwo
      go_wp2_with fail
      refine (Awake_any _ he4.out).mono ?_
      rintro e w6 ⟨rfl, hb6⟩
      have hB6 := hide (hB4.out.trans (hb6.mono hB4.out.size))
      clear hb6
      go_wp2
      go_ret
      exact ⟨rfl, hB6.out⟩
end Go.Proofs.YtjfdfhnfcpfmcaaGreatDoor
