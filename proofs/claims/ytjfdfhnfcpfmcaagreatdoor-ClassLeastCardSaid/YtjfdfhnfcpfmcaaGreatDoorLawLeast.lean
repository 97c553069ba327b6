/-
  The law ClassLeast returns true.
-/
import Derived.Test.YtjfdfhnfcpfmcaaGreatDoorMo
namespace Go.Proofs.YtjfdfhnfcpfmcaaGreatDoor
open Go.RowKit RG

set_option maxRecDepth 100000 in
set_option maxHeartbeats 8000000 in
theorem LawLeast_any (A A2 R : Option Addr) (cc c2 cr : Nat) (S : Sys) (rs : List (Int × Int)) (d : Nat) (w : World) (he : Env w) (h : InMem w A A2 cc c2 S) (hr : RdRts w R rs.length rs) (hd : d ≤ 255) :
    Calls Tryz.prog 11 #[.agg #[.slice A S.cs.length cc, .slice A2 S.codes.length c2], .slice R rs.length cr, .int .u8 d] w fun e w' => e = .returned (.bool true) ∧ Below w.heap.size w w' := by
  have hB0 := hide ((Below.refl w.heap.size w).alloc (Nat.le_refl _) (.cells #[.slice A S.cs.length cc, .slice A2 S.codes.length c2] 38))
  have hS0 := hide (Blk.new_ (w := w) (g := w.heap.size) (t := 38) (cs := #[.slice A S.cs.length cc, .slice A2 S.codes.length c2]) rfl)
  have he0 := hide (he.below hB0.out he.size)
  by_cases h0 : openF S [rs] = 0
  · have gd := (openF_good h0).1
    have gr := (openF_good h0).2 rs (List.mem_singleton.2 rfl)
    have hc1 := hide (fun W (hb : Below w.heap.size w W) => (Least_E A A2 R cc c2 cr S rs W (h.below hb) (hr.below hb)).mono (R' := fun e w' => (∃ v L, e = .returned (.tuple #[v, .int .i64 0]) ∧ FormP S.cs S.cs.length (· ∈ rs) L ∧ IsRts L v w') ∧ Below W.heap.size W w') (fun e w' hh => ⟨by
      rcases hh.1 with h1 | h1
      · exact absurd h0 h1.1
      · exact h1.2, hh.2⟩))
    have hval := hide (fun (L : Option Addr) (W : World) (hb : Below w.heap.size w W) (hl : RdLists W L 1 [rs]) => (valid_any A A2 L cc c2 1 1 S [rs] W (h.below hb) hl).mono (R' := fun e w' => e = .returned (.bool true) ∧ Below W.heap.size W w') (fun e w' hh => ⟨by rw [hh.1, h0]; rfl, hh.2⟩))
    have hrt := hide (fun (L : List (Int × Int)) (gL : GoodR S L) (D : Option Addr) (dc : Nat) (W : World) (hb : Below w.heap.size w W) (hl : RdRts W D L.length L) => (RightsR_any A A2 D S.cs.length cc S.codes.length c2 L.length dc L W h.len1 (by have := gd.bd.2; omega) hl).mono (R' := fun e w' => e = .returned (.int .i64 0) ∧ Below W.heap.size W w') (fun e w' hh => ⟨by rw [hh.1, rightsF_good gL], hh.2⟩))
    have hall := hide (fun (L : List (Int × Int)) (gL : GoodR S L) (D : Option Addr) (dc : Nat) (c f : Nat) (hc : c < S.cs.length) (hf : f < 2 ^ S.codes.length) (W : World) (hb : Below w.heap.size w W) (hl : RdRts W D L.length L) =>
      show Calls Tryz.prog 53 #[.agg #[.slice A S.cs.length cc, .slice A2 S.codes.length c2], .slice D L.length dc, .int .i64 c, .int .i64 f] W fun e w' => e = .returned (.bool (mayL S L c f)) ∧ Below W.heap.size W w' from AllowedR_any A A2 D cc c2 dc S L c f W (h.below hb) gd hl gL hc hf)
    have hrA := hide (fun W (hb : Below w.heap.size w W) => hr.below hb)
    have hbd := gd.bd
    have hm := hr.2
    unfold maxLen at hm
    have hr40 := gr.1
    clear he h hr
    replace gd := hide gd
    replace gr := hide gr
    obtain ⟨i0, hi, hz0, hz1, hz2⟩ := info_parts infoRt
    replace hi := hide hi
    replace hz0 := hide hz0
    replace hz1 := hide hz1
    replace hz2 := hide hz2
    have hn12 := hbd.1.2
    have hn28 := hbd.2
    clear hbd h0
    generalize hmr : rs.length = m at *
    generalize hn : S.cs.length = n at *
    generalize hn2 : S.codes.length = n2 at *
    replace hmr := hide hmr
    replace hn := hide hn
    replace hn2 := hide hn2
    go_enter Tryz.func11, Tryz.ntmps11
    go_wp2_with fail
    generalize w.alloc (.cells #[.slice A n cc, .slice A2 n2 c2] 38) = w0 at *
    refine (hc1.out _ hB0.out).mono ?_
    rintro e w1 ⟨⟨v, L, rfl, hL, hV⟩, hb1⟩
    have he1 := hide (he0.out.below hb1 he0.out.size)
    have hB1 := hide (hB0.out.trans (hb1.mono hB0.out.size))
    have hS1 := hide (hS0.out.below hb1 hS0.out.lt)
    clear hb1 he0 hB0 hS0 hc1
    have s0 : w1.cell? ⟨w.heap.size, 0, none⟩ = some (.slice A n cc) := hS1.out.cell 0
    have s1 : w1.cell? ⟨w.heap.size, 1, none⟩ = some (.slice A2 n2 c2) := hS1.out.cell 1
    replace hL := hide hL
    obtain ⟨D, dc, rfl, hD⟩ := hV
    replace hD := hide hD
    have hA : Below w1.heap.size w1 (w1.alloc (.cells #[.slice R m cr] 46)) := (Below.refl _ _).alloc (Nat.le_refl _) _
    have hl2 := hide (show RdLists (w1.alloc (.cells #[.slice R m cr] 46)) (some ⟨w1.heap.size, 0, none⟩) 1 [rs] by
      have h1 := hrA.out _ hB1.out
      have := RdLists.one (w := w1) (R := R) (c := cr) (rs := rs) (by rw [hmr.out]; exact h1) 46
      rw [hmr.out] at this
      exact this)
    have he2 := hide (he1.out.below hA he1.out.size)
    have hB2 := hide (hB1.out.trans (hA.mono hB1.out.size))
    have hS2 := hide (hS1.out.below hA hS1.out.lt)
    have hD2 := hide (hD.out.below hA)
    clear hA
    go_wp2_with fail
    clear s0 s1 he1 hB1 hS1 hD
    generalize w1.heap.size = g1 at *
    generalize w1.alloc (.cells #[.slice R m cr] 46) = w2 at *
    refine (hval.out _ _ hB2.out hl2.out).mono ?_
    rintro e w3 ⟨rfl, hb3⟩
    have he3 := hide (he2.out.below hb3 he2.out.size)
    have hB3 := hide (hB2.out.trans (hb3.mono hB2.out.size))
    have hS3 := hide (hS2.out.below hb3 hS2.out.lt)
    have hD3 := hide (hD2.out.below hb3)
    clear hb3 he2 hB2 hS2 hD2 hval hl2
    have s0 : w3.cell? ⟨w.heap.size, 0, none⟩ = some (.slice A n cc) := hS3.out.cell 0
    have s1 : w3.cell? ⟨w.heap.size, 1, none⟩ = some (.slice A2 n2 c2) := hS3.out.cell 1
    go_wp2_with fail
    clear s0 s1
    have gL := form_good gr.out (by rw [hn.out]; exact hL.out)
    have hLm := hL.out.len
    rw [hmr.out] at hLm
    obtain ⟨ml, hml⟩ : ∃ ml, L.length = ml := ⟨_, rfl⟩
    refine (hrt.out L gL D dc _ hB3.out hD3.out).mono ?_
    rintro e w4 ⟨rfl, hb4⟩
    have he4 := hide (he3.out.below hb4 he3.out.size)
    have hB4 := hide (hB3.out.trans (hb4.mono hB3.out.size))
    have hS4 := hide (hS3.out.below hb4 hS3.out.lt)
    have hD4 := hide (hD3.out.below hb4)
    clear hb4 he3 hB3 hS3 hD3 hrt
    rw [hml] at hLm ⊢
    have hDm := hD4.out
    rw [hml] at hDm
    replace hDm := hide hDm
    replace gL := hide gL
    replace hml := hide hml
    have hLz : ¬ (m : Int) < (ml : Int) := by omega
    have hml40 : ml ≤ 40 := by omega
    obtain ⟨kd, hkd⟩ : ∃ kd : Nat, ((d : Int).tmod (ml : Int)) = (kd : Int) ∧ (0 < ml → kd < ml) := ⟨d % ml, by rw [Int.tmod_eq_emod_of_nonneg (Int.natCast_nonneg d)]; norm_cast, fun h => Nat.mod_lt _ h⟩
    have hkd2 := hkd.2
    have hkd1 := hkd.1
    clear hkd
    go_wp2
    rw [show decide (m < ml) = false from decide_eq_false (by omega)]
    go_loopg [9, 10] ml (fun g rv iv wr => ∃ (i : Nat) (l : List Rt), i ≤ ml ∧ ml - i ≤ g ∧ iv = .int .i64 i ∧ l.length ≤ i ∧ Hid (vals l = restL L kd i) ∧ Hid (Below w4.heap.size w4 wr) ∧ wr.ownsRow w4.heap.size 64 2 rv l.length (rtFlat l))
    case atStart => exact ⟨0, [], Nat.zero_le _, by omega, rfl, Nat.le_refl _, rfl, Below.refl _ _, World.ownsRow_nil _ _ _ _⟩
    case round =>
      obtain ⟨i, l, hi', hg, rfl, hli, hl, BW, hown⟩ := hrel
      by_cases hlt : i < ml
      · have hltz : (i : Int) < (ml : Int) := by omega
        have hi0 : (0 : Int) ≤ (i : Int) := by omega
        have hmlz : (ml : Int) ≠ 0 := by omega
        have hmlz2 : (0 : Int) < (ml : Int) := by omega
        by_cases hik : i = kd
        · have hne : ((i : Int) != (kd : Int)) = false := by rw [hik]; simp
          have hl2 := hide (show vals l = restL L kd (i + 1) by rw [hik, restL_hit, hl.out, hik])
          clear hik hl
          replace hown := hide hown
          go_wp2
          go_roundg (ml - (i + 1))
          case measure => omega
          case rel => exact ⟨i + 1, l, by omega, by omega, by go_num, by omega, hl2, BW, hown.out⟩
        · have hne : ((i : Int) != (kd : Int)) = true := by rw [bne_iff_ne]; omega
          obtain ⟨ci, ki, hri, hci, hki⟩ := gL.out.2 i (by rw [hml.out]; exact hlt)
          obtain ⟨b, off, x0, x1, rfl, hb, e1, r0, r1⟩ := (hDm.out.below BW.out).1.cells2 hlt
          rw [row_at L i (by rw [hml.out]; exact hlt), hri] at e1
          simp only [List.cons.injEq, and_true] at e1
          obtain ⟨rfl, rfl⟩ := e1
          have hx := mkRt_val (show ci < 2 ^ 40 by rw [hn.out] at hci; omega) (pow8 gd.out hki)
          have hl2 := hide (show vals (l ++ [mkRt ((ci : Int), (ki : Int))]) = restL L kd (i + 1) by
            rw [restL_next L hik, ← hl.out, hri]; simp only [vals, List.map_append, List.map_cons, List.map_nil, hx])
          generalize mkRt ((ci : Int), (ki : Int)) = x at *
          have hx1 : x.1.1 = (ci : Int) := by rw [hx]
          have hx2 : x.1.2 = (ki : Int) := by rw [hx]
          replace hx := hide hx
          clear hik hl hri
          have hsz := BW.out.size
          replace hx1 := hide hx1
          replace hx2 := hide hx2
          replace hown := hide hown
          go_wp2_with (at_builtin; (refine wpList_append_own _ rfl _ _ 46 rfl w4.heap.size 64 i0 (.agg #[.int .i64 0, .int .i64 0]) 2 16 Tryz.underlying46 hi.out hz0.out hz1.out hz2.out rfl (by decide) _ _ _ rfl (hown.out.alloc _) ⟨wr.heap.size, 0, none⟩ 1 1 [.int .i64 ci, .int .i64 ki] rfl rfl (cell_two_new _ _ _ _) (by simp [Value.oneCell']) (by unfold maxLen; omega) (by omega) (by simp; omega) ?_; intro v' w5 hown5 hgrow5 _))
          have BW5 := hide ((BW.out.alloc hsz (.cells #[.int .i64 ci, .int .i64 ki] 64)).grown hgrow5 (by simp; omega) (fun k hk => (hown.out.lt k hk).1))
          have hown6 := hide (show w5.ownsRow w4.heap.size 64 2 v' (l ++ [x]).length (rtFlat (l ++ [x])) by
            rw [rtFlat_snoc, hx1.out, hx2.out]; simpa using hown5)
          clear hown hown5 hgrow5
          go_roundg (ml - (i + 1))
          case measure => omega
          case rel => exact ⟨i + 1, l ++ [x], by omega, by omega, by go_num, by simp; omega, hl2, BW5, hown6.out⟩
      · obtain rfl : i = ml := by omega
        have hltz : ¬ (i : Int) < (i : Int) := by omega
        obtain ⟨E, ec, rfl, hE⟩ := isRts_own hown (by unfold maxLen; omega)
        rw [hl.out] at hE ⊢
        have gM : GoodR S (restL L kd i) := goodR_sub gL.out (by have := restL_len L kd i; omega) fun x hx => by
          rw [← hml.out] at hx
          obtain ⟨j, hj, _, rfl⟩ := restL_mem.1 hx
          exact List.getElem_mem hj
        have hneed : 0 < i → ∃ c f, c < n ∧ f < 2 ^ n2 ∧ mayL S L c f = true ∧ mayL S (restL L kd i) c f = false := by
          intro h0
          have := form_need gd.out gr.out (by rw [hn.out]; exact hL.out) (k := kd) (by rw [hml.out]; exact hkd2 h0)
          rw [hml.out, hn.out, hn2.out] at this
          exact this
        have hM := hide (fun c f hc hf W (hb : Below wr.heap.size wr W) => hall.out (restL L kd i) gM E ec c f hc hf W (hB4.out.trans ((BW.out.trans (hb.mono BW.out.size)).mono hB4.out.size)) (hE.below hb))
        have hLc := hide (fun c f hc hf W (hb : Below wr.heap.size wr W) => hall.out L gL.out D dc c f hc hf W (hB4.out.trans ((BW.out.trans (hb.mono BW.out.size)).mono hB4.out.size)) ((hD4.out.below BW.out).below hb))
        have hRc := hide (fun c f hc hf W (hb : Below wr.heap.size wr W) => by
          have := hall.out rs gr.out R cr c f hc hf W (hB4.out.trans ((BW.out.trans (hb.mono BW.out.size)).mono hB4.out.size)) (by rw [hmr.out]; exact hrA.out W (hB4.out.trans ((BW.out.trans (hb.mono BW.out.size)).mono hB4.out.size)))
          rw [form_mayL gd.out gr.out (by rw [hn.out]; exact hL.out), hmr.out] at this
          exact this)
        rw [hml.out] at hLc
        have BS := hide (hS4.out.below BW.out hS4.out.lt)
        have hB5 := hide (hB4.out.trans (BW.out.mono hB4.out.size))
        have he5 := hide (he4.out.below BW.out he4.out.size)
        generalize (restL L kd i).length = mlr at *
        generalize mayL S (restL L kd i) = fm at *
        generalize mayL S L = fl at *
        clear hl hown hE gM hall BW hD4 hDm hS4 hB4 he4 hkd1 hkd2 hrA
        have hs := hide (fun W => SetsR_any n2 W (by omega))
        have hpb : 2 ^ n2 ≤ 2 ^ 8 := Nat.pow_le_pow_right (by omega) hn28
        have hpb : 2 ^ n2 ≤ 256 := hpb
        generalize 2 ^ n2 = p at *
        replace hneed := hide hneed
        obtain ⟨wb, rfl⟩ : ∃ wb : World, wb = wr := ⟨_, rfl⟩
        go_wp2
        go_loopg [11, 12] n (fun g sv cv wr => ∃ (ic : Nat) (bb : Bool), ic ≤ n ∧ n - ic ≤ g ∧ cv = .int .i64 ic ∧ sv = .bool bb ∧ Hid (Below wb.heap.size wb wr) ∧ Hid (bb = true ↔ ∃ c f, c < ic ∧ f < p ∧ fl c f = true ∧ fm c f = false))
        case atStart => exact ⟨0, false, Nat.zero_le _, by omega, rfl, rfl, Below.refl _ _, ⟨fun h => (by cases h), fun ⟨c, f, hc, _⟩ => absurd hc (by omega)⟩⟩
        case round =>
          obtain ⟨ic, bb, hic, hg, rfl, rfl, BW, HI⟩ := hrel
          have SW := hide (BS.out.below BW.out BS.out.lt)
          have s0 : wr.cell? ⟨w.heap.size, 0, none⟩ = some (.slice A n cc) := SW.out.cell 0
          by_cases hltc : ic < n
          · have hltcz : (ic : Int) < (n : Int) := by omega
            go_wp2
            clear s0
            go_loopg [11, 13] p (fun g2 sv fv wr' => ∃ (q : Nat) (bb : Bool), q ≤ p ∧ p - q ≤ g2 ∧ fv = .int .i64 q ∧ sv = .bool bb ∧ Hid (Below wb.heap.size wb wr') ∧ Hid (bb = true ↔ ∃ c f, (c < ic ∧ f < p ∨ c = ic ∧ f < q) ∧ fl c f = true ∧ fm c f = false))
            case atStart => exact ⟨0, bb, Nat.zero_le _, by omega, rfl, rfl, BW, by
              have h0 := HI.out
              unfold Hid
              rw [h0]
              exact ⟨fun ⟨c, f, h1, h2, h3⟩ => ⟨c, f, .inl ⟨h1, h2⟩, h3⟩, fun ⟨c, f, h1, h3⟩ => by
                rcases h1 with h1 | h1
                · exact ⟨c, f, h1.1, h1.2, h3⟩
                · exact absurd h1.2 (by omega)⟩⟩
            case round =>
              clear BW SW HI
              obtain ⟨q, bb, hq, hg2, rfl, rfl, BW, HI⟩ := hrel
              have SW := hide (BS.out.below BW.out BS.out.lt)
              have s0 : wr.cell? ⟨w.heap.size, 0, none⟩ = some (.slice A n cc) := SW.out.cell 0
              have s1 : wr.cell? ⟨w.heap.size, 1, none⟩ = some (.slice A2 n2 c2) := SW.out.cell 1
              go_wp2_with fail
              refine (hs.out _).mono ?_
              rintro e w' ⟨rfl, rfl⟩
              by_cases hltq : q < p
              · have hltz2 : (q : Int) < (p : Int) := by omega
                have k1 := hide (fun W (hb : Below wr.heap.size wr W) => hRc.out ic q hltc hltq W (BW.out.trans (hb.mono BW.out.size)))
                have k2 := hide (fun W (hb : Below wr.heap.size wr W) => hLc.out ic q hltc hltq W (BW.out.trans (hb.mono BW.out.size)))
                have k3 := hide (fun W (hb : Below wr.heap.size wr W) => hM.out ic q hltc hltq W (BW.out.trans (hb.mono BW.out.size)))
                have hnew : Hid ((bb || (fl ic q && !fm ic q)) = true ↔ ∃ c f, (c < ic ∧ f < p ∨ c = ic ∧ f < q + 1) ∧ fl c f = true ∧ fm c f = false) := by
                  have h0 := HI.out
                  unfold Hid
                  rw [Bool.or_eq_true, h0, Bool.and_eq_true, Bool.not_eq_true']
                  constructor
                  · rintro (⟨c, f, h1, h2⟩ | ⟨h1, h2⟩)
                    · exact ⟨c, f, by omega, h2⟩
                    · exact ⟨ic, q, .inr ⟨rfl, by omega⟩, h1, h2⟩
                  · rintro ⟨c, f, h1, h2⟩
                    by_cases hcq : c = ic ∧ f = q
                    · obtain ⟨rfl, rfl⟩ := hcq
                      exact .inr h2
                    · exact .inl ⟨c, f, by omega, h2⟩
                clear HI
                generalize fl ic q = a at *
                generalize fm ic q = b at *
                go_wp2
                clear s0 s1
                refine region_grow [IsV (.agg #[.slice A n cc, .slice A2 n2 c2]), IsV (.slice R m cr), IsV (.int .i64 ic), IsV (.int .i64 q), IsV (.bool a), IsV (.agg #[.slice A n cc, .slice A2 n2 c2]), IsV (.slice D i dc), IsV (.int .i64 ic), IsV (.int .i64 q), IsV (.bool a), IsV (.bool a), IsV (.bool a)] (by kernel_rfl) (by kernel_rfl) rfl ?_ ?_ ?_
                · simp [AllStb, IsV.stb]
                · refine ⟨?_, ?_, ?_, ?_, ?_, ?_, ?_, ?_, ?_, ?_, ?_, ?_, trivial⟩
                  all_goals
                    intro y w1 K Q Cv hC hd hV
                    have hz := hC.size
                    have c0 : w1.cell? ⟨w.heap.size, 0, none⟩ = some (.slice A n cc) := (cellB hC SW.out.lt).trans (SW.out.cell 0)
                    have c1 : w1.cell? ⟨w.heap.size, 1, none⟩ = some (.slice A2 n2 c2) := (cellB hC SW.out.lt).trans (SW.out.cell 1)
                    simp [deps, VL, IsV, Region.binds] at hd
                  · simp only [putAll, Act.put]; go_simp; intro hK; exact hK _ _ (hV _ _ hC (Below.refl _ _) rfl)
                  · simp only [putAll, Act.put]; go_simp; intro hK; exact hK _ _ (hV _ _ hC (Below.refl _ _) rfl)
                  · simp only [putAll, Act.put]; go_simp; intro hK; exact hK _ _ (hV _ _ hC (Below.refl _ _) rfl)
                  · simp only [putAll, Act.put]; go_simp; intro hK; exact hK _ _ (hV _ _ hC (Below.refl _ _) rfl)
                  · clear c0 c1
                    simp only [putAll, Act.put]; go_simp; intro hK
                    refine (k1.out w1 hC).mono ?_
                    rintro e w2 ⟨rfl, hb2⟩
                    exact hK _ _ (hV _ _ (hC.trans (hb2.mono hz)) hb2 rfl)
                  · simp only [putAll, Act.put]; go_simp; intro hK; exact hK _ _ (hV _ _ hC (Below.refl _ _) rfl)
                  · simp only [putAll, Act.put]; go_simp; intro hK; exact hK _ _ (hV _ _ hC (Below.refl _ _) rfl)
                  · simp only [putAll, Act.put]; go_simp; intro hK; exact hK _ _ (hV _ _ hC (Below.refl _ _) rfl)
                  · simp only [putAll, Act.put]; go_simp; intro hK; exact hK _ _ (hV _ _ hC (Below.refl _ _) rfl)
                  · clear c0 c1
                    simp only [putAll, Act.put]; go_simp; intro hK
                    refine (k2.out w1 hC).mono ?_
                    rintro e w2 ⟨rfl, hb2⟩
                    exact hK _ _ (hV _ _ (hC.trans (hb2.mono hz)) hb2 rfl)
                  · simp only [putAll, Act.put]; go_simp; intro hK; exact hK _ _ (hV _ _ hC (Below.refl _ _) rfl)
                  · simp only [putAll, Act.put]; go_simp; intro hK; exact hK _ _ (hV _ _ hC (Below.refl _ _) rfl)
                · intro y w1 hC hd
                  have BW1 := hide (BW.out.trans (hC.mono BW.out.size))
                  have SW1 := SW.out.below hC SW.out.lt
                  simp [EndsL, IsV] at hd
                  obtain ⟨d0, d1, d2, d3, d4, d5, d6, d7, d8, d9, d10, d11⟩ := hd
                  simp only [putAll, Act.put]
                  rw [d10, d11]
                  have k3 := hide (k3.out w1 hC)
                  have hC := hide hC
                  clear d0 d1 d2 d3 d4 d5 d6 d7 d8 d9 d10 d11 BW SW k1 k2
                  simp only [List.setIfInBounds_toArray, List.set_cons_succ, List.set_cons_zero]
                  have s0 : w1.cell? ⟨w.heap.size, 0, none⟩ = some (.slice A n cc) := SW1.cell 0
                  have s1 : w1.cell? ⟨w.heap.size, 1, none⟩ = some (.slice A2 n2 c2) := SW1.cell 1
                  have haa : (a != a) = false := by simp
                  replace SW1 := hide SW1
                  cases bb with
                  | true =>
                    clear k3
                    go_wp2
                    go_roundg (p - (q + 1))
                    case measure => omega
                    case rel => exact ⟨q + 1, true, by omega, by omega, by go_num, rfl, BW1, hnew⟩
                  | false =>
                    cases a with
                    | false =>
                      clear k3
                      go_wp2
                      go_roundg (p - (q + 1))
                      case measure => omega
                      case rel => exact ⟨q + 1, false, by omega, by omega, by go_num, rfl, BW1, hnew⟩
                    | true =>
                      go_wp2_with fail
                      clear s0 s1
                      refine k3.out.mono ?_
                      rintro e w2 ⟨rfl, hb2⟩
                      have BW2 := hide (BW1.out.trans (hb2.mono BW1.out.size))
                      clear hb2 BW1 k3
                      go_wp2
                      go_roundg (p - (q + 1))
                      case measure => omega
                      case rel => exact ⟨q + 1, !b, by omega, by omega, by go_num, rfl, BW2, by simpa using hnew⟩
              · obtain rfl : q = p := by omega
                have hltz2 : ¬ (q : Int) < (q : Int) := by omega
                have hnew : Hid (bb = true ↔ ∃ c f, c < ic + 1 ∧ f < q ∧ fl c f = true ∧ fm c f = false) := by
                  have h0 := HI.out
                  unfold Hid
                  rw [h0]
                  exact ⟨fun ⟨c, f, h1, h2⟩ => ⟨c, f, by omega, by omega, h2⟩, fun ⟨c, f, h1, h2, h3⟩ => ⟨c, f, by omega, h3⟩⟩
                clear HI s0 s1
                go_wp2
                go_roundg (n - (ic + 1))
                case measure => omega
                case rel => exact ⟨ic + 1, bb, by omega, by omega, by go_num, rfl, BW, hnew⟩
          · obtain rfl : ic = n := by omega
            have hltcz : ¬ (ic : Int) < (ic : Int) := by omega
            have he6 := hide (he5.out.below BW.out he5.out.size)
            have hB6 := hide (hB5.out.trans (BW.out.mono hB5.out.size))
            have hfin : bb = true ∨ i = 0 := by
              rcases Nat.eq_zero_or_pos i with h | h
              · exact .inr h
              · obtain ⟨c, f, h1⟩ := hneed.out h
                exact .inl (HI.out.2 ⟨c, f, h1⟩)
            clear HI hneed SW BW
            rcases hfin with rfl | rfl
            · go_wp2_with fail
              refine (Awake_any _ he6.out).mono ?_
              rintro e w7 ⟨rfl, hb7⟩
              have hB7 := hide (hB6.out.trans (hb7.mono hB6.out.size))
              clear hb7
              go_wp2
              go_ret
              exact ⟨rfl, hB7.out⟩
            · cases bb with
              | true =>
                go_wp2_with fail
                refine (Awake_any _ he6.out).mono ?_
                rintro e w7 ⟨rfl, hb7⟩
                have hB7 := hide (hB6.out.trans (hb7.mono hB6.out.size))
                clear hb7
                go_wp2
                go_ret
                exact ⟨rfl, hB7.out⟩
              | false =>
                go_wp2_with fail
                refine (Awake_any _ he6.out).mono ?_
                rintro e w7 ⟨rfl, hb7⟩
                have hB7 := hide (hB6.out.trans (hb7.mono hB6.out.size))
                clear hb7
                go_wp2
                go_ret
                exact ⟨rfl, hB7.out⟩
  · have hc1 := hide (fun W (hb : Below w.heap.size w W) => (Least_E A A2 R cc c2 cr S rs W (h.below hb) (hr.below hb)).mono (R' := fun e w' => e = .returned (.tuple #[.slice none 0 0, .int .i64 (openF S [rs])]) ∧ Below W.heap.size W w') (fun e w' hh => ⟨by
      rcases hh.1 with h1 | h1
      · exact h1.2
      · exact absurd h1.1 h0, hh.2⟩))
    generalize openF S [rs] = x at *
    have hb1 : (x != 0) = true := by rw [bne_iff_ne]; exact h0
    clear he h hr
    generalize rs.length = m at *
    generalize S.cs.length = n at *
    generalize S.codes.length = n2 at *
    replace h0 := hide h0
    go_enter Tryz.func11, Tryz.ntmps11
    go_wp2_with fail
    generalize w.alloc (.cells #[.slice A n cc, .slice A2 n2 c2] 38) = w0 at *
    refine (hc1.out _ hB0.out).mono ?_
    rintro e w1 ⟨rfl, hb1'⟩
    have he1 := hide (he0.out.below hb1' he0.out.size)
    have hB1 := hide (hB0.out.trans (hb1'.mono hB0.out.size))
    clear hb1' he0 hB0 hS0 hc1
    go_wp2_with fail
    refine (Awake_any _ he1.out).mono ?_
    rintro e w7 ⟨rfl, hb7⟩
    have hB7 := hide (hB1.out.trans (hb7.mono hB1.out.size))
    clear hb7
    go_wp2
    go_ret
    exact ⟨rfl, hB7.out⟩
theorem LawLeast_u8 (A A2 R : Option Addr) (cc c2 cr : Nat) (S : Sys) (rs : List (Int × Int)) (d : Int) (w : World) (he : Env w) (h : InMem w A A2 cc c2 S) (hr : RdRts w R rs.length rs) (hd : 0 ≤ d ∧ d ≤ 255) :
    Calls Tryz.prog 11 #[.agg #[.slice A S.cs.length cc, .slice A2 S.codes.length c2], .slice R rs.length cr, .int .u8 d] w fun e w' => e = .returned (.bool true) ∧ Below w.heap.size w w' := by
  obtain ⟨n, rfl⟩ := Int.eq_ofNat_of_zero_le hd.1
  exact LawLeast_any A A2 R cc c2 cr S rs n w he h hr (by omega)
end Go.Proofs.YtjfdfhnfcpfmcaaGreatDoor
