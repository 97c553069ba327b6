/-
  The reference's Read.
-/
import Derived.Test.YtjfdfhnfcpfmcaaGreatDoorRefX
import Derived.Test.YtjfdfhnfcpfmcaaGreatDoorRegRd
import Derived.Test.YtjfdfhnfcpfmcaaGreatDoorMo
namespace Go.Proofs.YtjfdfhnfcpfmcaaGreatDoor
open Go.RowKit RG

theorem rdRts_one_ (W : World) (c k : Int) : RdRts (W.alloc (.cells #[.int .i64 c, .int .i64 k] 64)) (some ⟨W.heap.size, 0, none⟩) 1 [(c, k)] := by
  obtain ⟨A, cc, e, h⟩ := isRts_blk (c := 1) [(c, k)] (Blk.new_ (w := W) (t := 64) (cs := #[.int .i64 c, .int .i64 k]) rfl) rfl (by unfold maxLen; simp)
  simp only [Value.slice.injEq] at e
  obtain ⟨rfl, _, _⟩ := e
  exact h
theorem rightR_TR {q : Option (Int × Nat)} {e : Ending} (h : RightR q e) : ∃ a b ok, TR q a b ok ∧ e = .returned (tupR a b ok) := by
  cases q with
  | some x => exact ⟨_, _, _, ⟨rfl, rfl, rfl⟩, h⟩
  | none =>
    obtain ⟨a, b, h⟩ := h
    exact ⟨a, b, false, rfl, h⟩
set_option maxRecDepth 100000 in
set_option maxHeartbeats 8000000 in
theorem RRead_any (A A2 : Option Addr) (cc c2 : Nat) (S : Sys) (s : ByteArray) (w : World) (h : InMem w A A2 cc c2 S) :
    Calls Tryz.prog 46 #[.agg #[.slice A S.cs.length cc, .slice A2 S.codes.length c2], .string s] w fun e w' =>
      (∃ v, e = .returned (.tuple #[v, .int .i64 (readF S s).2]) ∧ IsRts ((readF S s).1.map rI) v w') ∧ Below w.heap.size w w' := by
  have hB := hide ((Below.refl w.heap.size w).alloc (Nat.le_refl _) (.cells #[.slice A S.cs.length cc, .slice A2 S.codes.length c2] 38))
  have hS := hide (Blk.new_ (w := w) (g := w.heap.size) (t := 38) (cs := #[.slice A S.cs.length cc, .slice A2 S.codes.length c2]) rfl)
  have hchk := hide (fun W (hb : Below w.heap.size w W) => CheckR_any A A2 cc c2 S W (h.below hb))
  rw [← readG_readF]
  have hop := openF_nil_ S
  by_cases h0 : openF S [] = 0
  · have gd : Good S := (openF_good h0).1
    rw [h0] at hop
    generalize hck : checkF S = ck at *
    obtain ⟨k1, k2, k3⟩ := ck
    simp only at hop
    subst hop
    by_cases hlong : 7000 < s.size
    · have hRG : readG S s = ([], 3) := by unfold readG; rw [if_neg (by rw [h0]; simp), if_pos hlong]
      rw [hRG]
      have hlz : (7000 : Int) < (s.size : Int) := by omega
      clear h gd h0 hck hRG
      generalize S.cs.length = n at *
      generalize S.codes.length = n2 at *
      go_enter Tryz.func46, Tryz.ntmps46
      go_wp2_with fail
      generalize w.alloc (.cells #[.slice A n cc, .slice A2 n2 c2] 38) = w0 at *
      refine (hchk.out _ hB.out).mono ?_
      rintro e w1 ⟨rfl, hb⟩
      replace hB := hide (hB.out.trans (hb.mono hB.out.size))
      clear hb hchk hS
      go_wp2
      go_ret2
      exact ⟨⟨_, rfl, ⟨none, 0, rfl, ⟨RdRow.nil _ _ _, by unfold maxLen; simp⟩⟩⟩, hB.out⟩
    · by_cases hdash : eqS s ⟨#[45]⟩ = true
      · have hRG : readG S s = ([], 0) := by unfold readG; rw [if_neg (by rw [h0]; simp), if_neg hlong, if_pos hdash]
        rw [hRG]
        have hlz : ¬ (7000 : Int) < (s.size : Int) := by omega
        unfold eqS at hdash
        rw [show (ByteArray.mk #[45]).toList = [45] by rw [ByteArray.toList_eq]] at hdash
        clear h gd h0 hck hRG
        generalize S.cs.length = n at *
        generalize S.codes.length = n2 at *
        go_enter Tryz.func46, Tryz.ntmps46
        go_wp2_with fail
        generalize w.alloc (.cells #[.slice A n cc, .slice A2 n2 c2] 38) = w0 at *
        refine (hchk.out _ hB.out).mono ?_
        rintro e w1 ⟨rfl, hb⟩
        replace hB := hide (hB.out.trans (hb.mono hB.out.size))
        clear hb hchk hS
        go_wp2
        go_ret2
        exact ⟨⟨_, rfl, ⟨none, 0, rfl, ⟨RdRow.nil _ _ _, by unfold maxLen; simp⟩⟩⟩, hB.out⟩
      · obtain ⟨i0, hi, hz0, hz1, hz2⟩ := info_parts infoRt
        replace hi := hide hi
        replace hz0 := hide hz0
        replace hz1 := hide hz1
        replace hz2 := hide hz2
        have hpn : (splitL 32 s).length ≤ s.size + 1 := by
          have := Lib.countB_le ⟨#[32]⟩ (Nat.le_refl 1) s.size s (Nat.le_refl _)
          unfold splitL
          rw [Lib.splitB_all ⟨#[32]⟩ (Nat.le_refl 1) 0 _ s rfl]
          omega
        have hpz : ∀ x ∈ splitL 32 s, x.size ≤ s.size := fun x hx => splitB_sz _ _ _ _ hx
        have hsp := hide (fun W => SplitR_any s 32 W (by omega))
        have hrt := hide (fun (v : ByteArray) (hv : v.size ≤ 7000) W (hb : Below w.heap.size w W) => (rightR_any A A2 cc c2 S v W gd (h.below hb) hv).mono (R' := fun e w' => (∃ a b ok, TR (rightQ S (splitL 46 v)) a b ok ∧ e = .returned (tupR a b ok)) ∧ Below W.heap.size W w') (fun e w' hh => ⟨rightR_TR hh.1, hh.2⟩))
        have htx := hide (fun (L : List (Int × Nat)) (hL : readQ S (splitL 32 s) = some L) (h40 : L.length ≤ 40) (D : Option Addr) (dc : Nat) W (hb : Below w.heap.size w W) (hd : RdRts W D (L.map rI).length (L.map rI)) => TextR_any A A2 D cc c2 dc S (L.map rI) W gd (goodR_mem (by rw [List.length_map]; exact h40) (readQ_good _ L hL)) (h.below hb) hd)
        have hRG : ∀ z, readQ S (splitL 32 s) = z → readG S s = match z with
            | none => ([], 6)
            | some L => if 40 < L.length then ([], 6) else if eqS (textB S (L.map rI)) s = true then (L, 0) else ([], 6) := fun z hz => by
          unfold readG; rw [if_neg (by rw [h0]; simp), if_neg hlong, if_neg hdash, hz]; cases z <;> rfl
        have hf1 := hide (fun (hz : readQ S (splitL 32 s) = none) => show readG S s = ([], 6) from hRG _ hz)
        have hf2 := hide (fun (hz : 40 < (splitL 32 s).length) => show readG S s = ([], 6) by
          cases e : readQ S (splitL 32 s) with
          | none => exact hRG _ e
          | some L => rw [hRG _ e]; simp only; rw [if_pos (by rw [readQ_len e]; exact hz)])
        have hf3 := hide (fun L (hz : readQ S (splitL 32 s) = some L) (h40 : L.length ≤ 40) (he : eqS (textB S (L.map rI)) s = true) => show readG S s = (L, 0) by
          rw [hRG _ hz]; simp only; rw [if_neg (by omega), if_pos he])
        have hf4 := hide (fun L (hz : readQ S (splitL 32 s) = some L) (h40 : L.length ≤ 40) (he : eqS (textB S (L.map rI)) s = false) => show readG S s = ([], 6) by
          rw [hRG _ hz]; simp only; rw [if_neg (by omega), if_neg (by rw [he]; simp)])
        have hsn := hide (fun i (hi : i < (splitL 32 s).length) L x (h1 : readQ S ((splitL 32 s).take i) = some L) (h2 : rightQ S (splitL 46 ((splitL 32 s)[i]?.getD ⟨#[]⟩)) = some x) => show readQ S ((splitL 32 s).take (i + 1)) = some (L ++ [x]) by
          rw [List.take_succ_eq_append_getElem hi]
          exact readQ_snoc h1 (by rw [List.getElem?_eq_getElem hi] at h2; exact h2))
        have hbd := hide (fun i (hi : i < (splitL 32 s).length) (h2 : rightQ S (splitL 46 ((splitL 32 s)[i]?.getD ⟨#[]⟩)) = none) => readQ_bad hi (by rw [List.getElem?_eq_getElem hi] at h2; exact h2))
        have hlz : ¬ (7000 : Int) < (s.size : Int) := by omega
        have hdz : eqS s ⟨#[45]⟩ = false := by simpa using hdash
        unfold eqS at hdz
        rw [show (ByteArray.mk #[45]).toList = [45] by rw [ByteArray.toList_eq]] at hdz
        clear h gd h0 hck hRG hdash
        generalize readG S s = RG at *
        generalize hws : splitL 32 s = ws at *
        have hpzi := hide (fun i (hi : i < ws.length) => show (ws[i]?.getD ⟨#[]⟩).size ≤ 7000 by
          have := hpz ws[i] (List.getElem_mem hi)
          rw [List.getElem?_eq_getElem hi]
          show (ws[i]).size ≤ 7000
          omega)
        clear hpz hws
        generalize S.cs.length = n at *
        generalize S.codes.length = n2 at *
        generalize hN : ws.length = N at *
        replace hN := hide hN
        go_enter Tryz.func46, Tryz.ntmps46
        go_wp2_with fail
        generalize w.alloc (.cells #[.slice A n cc, .slice A2 n2 c2] 38) = w0 at *
        refine (hchk.out _ hB.out).mono ?_
        rintro e w1 ⟨rfl, hb⟩
        replace hS := hide (hS.out.below hb hS.out.lt)
        replace hB := hide (hB.out.trans (hb.mono hB.out.size))
        clear hb hchk
        go_wp2_with fail
        refine (hsp.out _).mono ?_
        rintro e w8 ⟨⟨v, rfl, PA, pc, rfl, hP, _⟩, hb⟩
        replace hS := hide (hS.out.below hb hS.out.lt)
        replace hB := hide (hB.out.trans (hb.mono hB.out.size))
        clear hb hsp
        rw [hN.out] at hP ⊢
        replace hP := hide hP
        generalize hB8 : w8.heap.size = B8 at *
        have hsz8 : w.heap.size ≤ B8 := by rw [← hB8]; exact hB.out.size
        have hSl := hS.out.lt
        rw [hB8] at hSl
        replace hB8 := hide hB8
        go_wp2
        go_loopg [10, 11] N (fun g av iv wr => ∃ (i : Nat) (L : List (Int × Nat)) (vo : Value), i ≤ N ∧ i ≤ 40 ∧ N - i ≤ g ∧ iv = .int .i64 i ∧ vo = av ∧ Hid (Below B8 w8 wr) ∧ Hid (readQ S (ws.take i) = some L) ∧ Hid (L.length = i) ∧ Hid (wr.ownsRow B8 64 2 vo i ((L.map rI).flatMap rtCells)))
        case atStart => exact ⟨0, [], _, Nat.zero_le _, by omega, by omega, rfl, rfl, by rw [← hB8.out]; exact Below.refl _ _, rfl, rfl, ⟨rfl, .inl ⟨rfl, rfl⟩⟩⟩
        case round =>
          obtain ⟨i, L, vo, hiN, hi40, hg, rfl, rfl, hW, hL, hLl, hown⟩ := hrel
          obtain ⟨Aw, cap, rfl⟩ : ∃ Aw cap, vo = .slice Aw i cap := by
            rcases hown.out.2 with ⟨rfl, h0⟩ | ⟨g, cap, cur, rfl, _⟩
            · exact ⟨none, 0, by rw [h0]⟩
            · exact ⟨_, cap, rfl⟩
          have hSW := hide (hS.out.below hW.out hSl)
          have hBW := hide (hB.out.trans (hW.out.mono hsz8))
          by_cases hlt : i < N
          · have hltz : (i : Int) < (N : Int) := by omega
            have hi0 : (0 : Int) ≤ (i : Int) := by omega
            obtain ⟨pb, poff, rfl, hpb, hpc⟩ := hP.out.2.2 (by omega)
            rw [hB8.out] at hpb
            have hpb2 : pb < wr.heap.size := by have := hW.out.size; have := hB8.out; omega
            have q0 : wr.cell? ⟨pb, poff + i, none⟩ = some (.string (ws[i]?.getD ⟨#[]⟩)) := (cellB hW.out hpb).trans (hpc i _ (by rw [List.getElem?_eq_getElem (by rw [hN.out]; exact hlt)]; rfl))
            have hsz := hpzi.out i hlt
            have hsni := hide (hsn.out i hlt L)
            have hbdi := hide (hbd.out i hlt)
            have hpc := hide hpc
            generalize ws[i]?.getD ⟨#[]⟩ = wd at *
            have hcall := hide (fun W hb => hrt.out wd hsz W hb)
            have s0 : wr.cell? ⟨w.heap.size, 0, none⟩ = some (.slice A n cc) := hSW.out.cell 0
            have s1 : wr.cell? ⟨w.heap.size, 1, none⟩ = some (.slice A2 n2 c2) := hSW.out.cell 1
            have hSw := hSW.out.lt
            generalize hqq : rightQ S (splitL 46 wd) = q at *
            replace hqq := hide hqq
            go_wp2
            replace s0 := hide s0
            replace s1 := hide s1
            replace q0 := hide q0
            refine region_inv (ReadI wr (.agg #[.slice A n cc, .slice A2 n2 c2]) (.slice (some ⟨pb, poff, none⟩) N pc) i (.pointer (some ⟨pb, poff + i, none⟩)) wd q) (by kernel_rfl) (by kernel_rfl) ?_ ?_ ?_
            · intro y
              refine ⟨(Below.refl _ _).drew, ?_⟩
              simp
            · refine ⟨?_, ?_, ?_, ?_, ?_, ?_, ?_, ?_, ?_, ?_, ?_, ?_, trivial⟩
              all_goals
                intro f y w6 K Q Cv hI hfi hdep hCv
                have hC := hI.1
                simp [Region.binds] at hdep
              · have r0 := (cellB (o := 0) hC hSw).trans s0.out
                have r1 := (cellB (o := 1) hC hSw).trans s1.out
                simp only [putAll, Act.put]; go_simp; intro hK; exact hK _ _ (hCv _ _ (hI.o0 rfl))
              · simp only [putAll, Act.put]; go_simp; intro hK; exact hK _ _ (hCv _ _ (hI.o1 rfl))
              · simp only [putAll, Act.put]; go_simp; intro hK; exact hK _ _ (hCv _ _ (hI.o2 rfl))
              · have y1 := hI.2.2.1 hdep.1
                have y2 := hI.2.2.2.1 hdep.2
                simp only [putAll, Act.put]; go_simp; intro hK; exact hK _ _ (hCv _ _ (hI.o3 rfl))
              · have y3 := hI.2.2.2.2.1 hdep
                have r2 := (cellB (o := poff + i) hC hpb2).trans q0.out
                simp only [putAll, Act.put]; go_simp; intro hK; exact hK _ _ (hCv _ _ (hI.o4 rfl))
              · have y0 := hI.2.1 hdep.1
                have y4 := hI.2.2.2.2.2.1 hdep.2
                simp only [putAll, Act.put]; go_simp; intro hK
                refine (hcall.out w6 (hBW.out.trans (hC.mono hBW.out.size))).mono ?_
                rintro e w7 ⟨⟨a, b, ok, hT, rfl⟩, hb2⟩
                exact hK _ _ (hCv _ _ (hI.o5 hb2 hfi hT rfl))
              · simp only [putAll, Act.put]; go_simp; intro hK; exact hK _ _ (hCv _ _ (hI.o6 hdep rfl))
              · obtain ⟨a, b, ok, hT, y5⟩ := hI.2.2.2.2.2.2.1 (hI.2.2.2.2.2.2.2.2.2.2.2.2.1 hdep)
                have y6 := (hI.2.2.2.2.2.2.2.1 hdep).trans y5
                unfold tupR at y6
                simp only [putAll, Act.put]; go_simp; intro hK; exact hK _ _ (hCv _ _ (hI.o7 hfi hdep y5 rfl))
              · obtain ⟨a, b, ok, hT, y5⟩ := hI.2.2.2.2.2.2.1 (hI.2.2.2.2.2.2.2.2.2.2.2.2.1 hdep)
                have y6 := (hI.2.2.2.2.2.2.2.1 hdep).trans y5
                unfold tupR at y6
                simp only [putAll, Act.put]; go_simp; intro hK; exact hK _ _ (hCv _ _ (hI.o8 hfi hdep y5 rfl))
              · simp only [putAll, Act.put]; go_simp; intro hK; exact hK _ _ (hCv _ _ (hI.o9 hfi rfl))
              · have hf7 : f 7 = true := by simp_all
                have hf9 : f 9 = true := by simp_all
                obtain ⟨a, b, ok, y5, y7⟩ := hI.2.2.2.2.2.2.2.2.1 hf7
                obtain ⟨g, c, d, y9, hg, hBg, _⟩ := hI.2.2.2.2.2.2.2.2.2.2.1 hf9
                have g0 : w6.cell? ⟨g, 0, none⟩ = some (.int .i64 c) := hBg.cell 0
                have g1 : w6.cell? ⟨g, 1, none⟩ = some (.int .i64 d) := hBg.cell 1
                have f0 : w6.frozen? ⟨g, 0, none⟩ = false := hBg.frozen 0
                have f1 : w6.frozen? ⟨g, 1, none⟩ = false := hBg.frozen 1
                clear hBg y5
                simp only [putAll, Act.put]; go_simp; intro hK; exact hK undef _ (hCv _ _ (hI.o10 (v := undef) y7 hf7 hf9 y9))
              · simp only [putAll, Act.put]; go_simp; intro hK; exact hK _ _ (hCv _ _ (hI.o11 hdep.1 rfl))
            · intro f y w6 hf hI
              obtain ⟨hC, h0, h1, h2, h3, h4, h5, h6, h7, h8, h9, h11, _⟩ := hI
              have ff : ∀ k, k < 12 → f k = true := fun k hk => hf k hk
              obtain ⟨a, b, ok, hT, y5⟩ := h5 (ff 5 (by omega))
              have y6 := (h6 (ff 6 (by omega))).trans y5
              obtain ⟨a', b', ok', e7, y7⟩ := h7 (ff 7 (by omega))
              obtain ⟨a2, b2, ok2, e8, y8⟩ := h8 (ff 8 (by omega))
              obtain ⟨g, c, d, y9, hg, hBg, e9⟩ := h9 (ff 9 (by omega))
              have y11 := (h11 (ff 11 (by omega))).trans y8
              have e9 := e9 (ff 10 (by omega))
              rw [y5] at e7 e8
              simp only [tupR, Value.tuple.injEq, Array.mk.injEq, List.cons.injEq, Value.agg.injEq, Value.int.injEq, Value.bool.injEq, and_true, true_and] at e7 e8
              obtain ⟨⟨rfl, rfl⟩, rfl⟩ := e7
              obtain ⟨⟨rfl, rfl⟩, rfl⟩ := e8
              rw [y7] at e9
              simp only [Value.agg.injEq, Array.mk.injEq, List.cons.injEq, Value.int.injEq, and_true, true_and] at e9
              obtain ⟨rfl, rfl⟩ := e9
              have y0 := h0 (ff 0 (by omega))
              have y1 := h1 (ff 1 (by omega))
              have y2 := h2 (ff 2 (by omega))
              have y3 := h3 (ff 3 (by omega))
              have y4 := h4 (ff 4 (by omega))
              simp only [putAll, Act.put]
              unfold tupR at y5 y6
              rw [y0, y1, y2, y3, y4, y5, y6, y7, y8, y9, y11]
              simp only [List.setIfInBounds_toArray, List.set_cons_succ, List.set_cons_zero]
              clear y0 y1 y2 y3 y4 y5 y6 y7 y8 y9 y11 h0 h1 h2 h3 h4 h5 h6 h7 h8 h9 h11 ff hf
              have hW6 := hide (hW.out.trans (hC.mono (by have := hW.out.size; have := hB8.out; omega)))
              have hO6 := hide (own_below hown.out hC)
              have hBW6 := hide (hBW.out.trans (hC.mono hBW.out.size))
              replace hBg := hide hBg
              clear hC hW hown hBW hSW s0 s1 q0
              cases ok with
              | false =>
                have hq0 : q = none := by
                  cases q with
                  | none => rfl
                  | some x => exact absurd hT.2.2 (by simp)
                obtain rfl := hq0
                have hr := hide (hf1.out (hbdi.out rfl))
                replace hT := hide hT
                clear hsni hbdi hL hBg
                go_wp2
                go_ret2
                rw [hr.out]
                exact ⟨⟨_, rfl, ⟨none, 0, rfl, ⟨RdRow.nil _ _ _, by unfold maxLen; simp⟩⟩⟩, hBW6.out⟩
              | true =>
                obtain ⟨x, rfl⟩ : ∃ x, q = some x := by
                  cases q with
                  | none => exact absurd hT (by simp [TR])
                  | some x => exact ⟨x, rfl⟩
                obtain ⟨rfl, rfl, _⟩ := hT
                obtain ⟨xa, xb⟩ := x
                simp only at hBg
                by_cases h41 : i = 40
                · have hr := hide (hf2.out (by omega))
                  have h4b : ((i : Int) == 40) = true := by rw [h41]; rfl
                  replace h41 := hide h41
                  clear hsni hbdi hL hBg
                  go_wp2
                  go_ret2
                  rw [hr.out]
                  exact ⟨⟨_, rfl, ⟨none, 0, rfl, ⟨RdRow.nil _ _ _, by unfold maxLen; simp⟩⟩⟩, hBW6.out⟩
                · have h4b : ((i : Int) == 40) = false := by rw [beq_eq_false_iff_ne]; omega
                  have hL2 := hide (hsni.out (xa, xb) hL.out rfl)
                  have hLl2 := hide (show (L ++ [(xa, xb)]).length = i + 1 by rw [List.length_append, hLl.out]; rfl)
                  have g0 : w6.cell? ⟨g, 0, none⟩ = some (.int .i64 xa) := hBg.out.cell 0
                  have g1 : w6.cell? ⟨g, 1, none⟩ = some (.int .i64 (xb : Nat)) := hBg.out.cell 1
                  have hgl := hBg.out.lt
                  have hszw : B8 ≤ w6.heap.size := by have := hW6.out.size; have := hB8.out; omega
                  have hA1 : Below w6.heap.size w6 (w6.alloc (.cells #[.int .i64 xa, .int .i64 (xb : Nat)] 64)) := (Below.refl _ _).alloc (Nat.le_refl _) _
                  have hown1 := hide (own_below hO6.out hA1)
                  have hone := hide (rdRts_one_ w6 xa (xb : Nat))
                  have hsz1 : B8 ≤ (w6.alloc (.cells #[.int .i64 xa, .int .i64 (xb : Nat)] 64)).heap.size := by have := hA1.size; omega
                  have hW1 := hide (hW6.out.trans (hA1.mono (by omega)))
                  clear hA1 hsni hbdi hBg hO6
                  go_wp2_with (at_builtin; (refine wpList_append_rts rfl _ _ rfl B8 i0 hi.out hz0.out hz1.out hz2.out _ _ _ rfl hown1.out (some ⟨w6.heap.size, 0, none⟩) 1 1 [(xa, ((xb : Nat) : Int))] rfl hone.out (fun e => by cases e) (by unfold maxLen; omega) (by omega) hsz1 ?_); intro va wa howna hgrowa)
                  have hWa := hide (hW1.out.grown hgrowa hsz1 (fun k hk => (hown1.out.lt k hk).1))
                  have howna := hide (show wa.ownsRow B8 64 2 va (i + 1) (((L ++ [(xa, xb)]).map rI).flatMap rtCells) by rw [List.map_append, List.flatMap_append]; exact howna)
                  clear hgrowa hown1 hone g0 g1
                  go_wp2
                  go_roundg (N - (i + 1))
                  case measure => omega
                  case rel => exact ⟨i + 1, _, va, by omega, by omega, by omega, by go_num, rfl, hWa, hL2, hLl2, howna⟩
          · obtain rfl : N = i := by omega
            have hltz : ¬ (N : Int) < (N : Int) := by omega
            have hz : readQ S ws = some L := by
              have := hL.out
              rw [← hN.out, List.take_length] at this
              exact this
            have hLm : (L.map rI).length = N := by rw [List.length_map]; exact hLl.out
            have hh3 := hf3.out L hz (by rw [hLl.out]; exact hi40)
            have hh4 := hf4.out L hz (by rw [hLl.out]; exact hi40)
            obtain ⟨D, dc, e, hD⟩ := isRts_flat (l := L.map rI) hown.out hLm.symm (by rw [hLm]; unfold maxLen; omega)
            simp only [Value.slice.injEq] at e
            obtain ⟨rfl, e2, rfl⟩ := e
            clear e2
            have hcall := hide (htx.out L hz (by rw [hLl.out]; exact hi40) Aw cap wr hBW.out hD)
            rw [hLm] at hcall
            have hrts := hide (fun W (hb : Below wr.heap.size wr W) => show IsRts (L.map rI) (.slice Aw N cap) W from ⟨Aw, cap, by rw [hLm], hD.below hb⟩)
            have s0 : wr.cell? ⟨w.heap.size, 0, none⟩ = some (.slice A n cc) := hSW.out.cell 0
            have s1 : wr.cell? ⟨w.heap.size, 1, none⟩ = some (.slice A2 n2 c2) := hSW.out.cell 1
            have hmxl := hD.2
            unfold maxLen at hmxl
            rw [hLm] at hmxl
            generalize textB S (L.map rI) = tx at *
            replace hLm := hide hLm
            replace hz := hide hz
            replace hD := hide hD
            replace hh3 := hide hh3
            replace hh4 := hide hh4
            clear hown hW hf1 hf2 hf3 hf4 htx hrt hsn hbd
            go_wp2_with fail
            refine hcall.out.mono ?_
            rintro e w9 ⟨rfl, hb⟩
            have hB9 := hide (hBW.out.trans (hb.mono hBW.out.size))
            have hr9 := hide (hrts.out w9 hb)
            clear hb hcall hrts s0 s1 hSW hBW
            cases hq : eqS tx s with
            | true =>
              have hr := hide (hh3.out hq)
              unfold eqS at hq
              clear hh3 hh4
              go_wp2
              go_ret2
              rw [hr.out]
              exact ⟨⟨_, rfl, hr9.out⟩, hB9.out⟩
            | false =>
              have hr := hide (hh4.out hq)
              unfold eqS at hq
              clear hh3 hh4
              go_wp2
              go_ret2
              rw [hr.out]
              exact ⟨⟨_, rfl, ⟨none, 0, rfl, ⟨RdRow.nil _ _ _, by unfold maxLen; simp⟩⟩⟩, hB9.out⟩
  · have hRG : readG S s = ([], openF S []) := by unfold readG; rw [if_pos h0]
    rw [hRG]
    rw [hop] at h0 ⊢
    clear h hop hRG
    generalize checkF S = ck at *
    obtain ⟨k1, k2, k3⟩ := ck
    simp only at h0 ⊢
    have hb2 : (k3 != 0) = true := by rw [bne_iff_ne]; exact h0
    have hb3 : (k3 == 0) = false := by rw [beq_eq_false_iff_ne]; exact h0
    replace h0 := hide h0
    generalize S.cs.length = n at *
    generalize S.codes.length = n2 at *
    go_enter Tryz.func46, Tryz.ntmps46
    go_wp2_with fail
    generalize w.alloc (.cells #[.slice A n cc, .slice A2 n2 c2] 38) = w0 at *
    refine (hchk.out _ hB.out).mono ?_
    rintro e w1 ⟨rfl, hb⟩
    replace hB := hide (hB.out.trans (hb.mono hB.out.size))
    clear hb hchk hS
    go_wp2
    go_ret2
    exact ⟨⟨_, rfl, ⟨none, 0, rfl, ⟨RdRow.nil _ _ _, by unfold maxLen; simp⟩⟩⟩, hB.out⟩
end Go.Proofs.YtjfdfhnfcpfmcaaGreatDoor
