/-
  The reference's Text.
-/
import Derived.Test.YtjfdfhnfcpfmcaaGreatDoorRefO
namespace Go.Proofs.YtjfdfhnfcpfmcaaGreatDoor
open Go.RowKit RG

theorem join_snoc (ps : List (List UInt8)) (x sep : List UInt8) (h : ps ≠ []) : Lib.join (ps ++ [x]) sep = Lib.join ps sep ++ sep ++ x := by
  obtain ⟨y, r, rfl⟩ := List.exists_cons_of_ne_nil h
  rw [List.cons_append, Lib.join_cons, Lib.join_cons]
  simp [Lib.joinTail, List.append_assoc]
theorem ba_app (a b : ByteArray) : (a ++ b).data.toList = a.data.toList ++ b.data.toList := by
  rw [ByteArray.data_append, Array.toList_append]
/-- The text of the first i rights. -/
def textT (S : Sys) (rs : List (Int × Int)) (i : Nat) : List UInt8 := Lib.join ((wordsL S (rs.take i)).map (·.data.toList)) [32]
/-- The first part of a word. -/
def wordT (S : Sys) (r : Nat × Nat) (k : Nat) : List UInt8 := Lib.join ((partsL S r k).map (·.data.toList)) [46]
theorem wordT_zero (S : Sys) (r : Nat × Nat) : wordT S r 0 = (S.cs[r.1]?.getD default).name.data.toList := by
  unfold wordT partsL
  simp [Lib.join_one]
theorem wordT_succ (S : Sys) (r : Nat × Nat) (k : Nat) : wordT S r (k + 1) = if r.2.testBit k = true then wordT S r k ++ [46] ++ (S.codes[k]?.getD ⟨#[]⟩).data.toList else wordT S r k := by
  unfold wordT
  rw [partsL_succ]
  split
  · rw [List.map_append, List.map_cons, List.map_nil, join_snoc _ _ _ (by simp [partsL])]
  · rfl
theorem wordT_len {S : Sys} (gd : Good S) {r : Nat × Nat} (hr : r.1 < S.cs.length) {k : Nat} (hk : k ≤ S.codes.length) : (wordT S r k).length ≤ 153 := by
  have h1 := (partsL_len S r k).2
  have h2 := join_le [46] 16 rfl ((partsL S r k).map (·.data.toList)) (fun x hx => by
    obtain ⟨y, hy, rfl⟩ := List.mem_map.1 hx
    have := partsL_size gd hr hk y hy
    rw [Array.length_toList]; exact this.2)
  have h3 := gd.bd.2
  rw [List.length_map] at h2
  have : (partsL S r k).length * (16 + 1) ≤ 9 * 17 := Nat.mul_le_mul_right 17 (by omega)
  unfold wordT
  omega
theorem ba_len (o : ByteArray) : o.size = o.data.toList.length := by simp
theorem textT_zero (S : Sys) (rs : List (Int × Int)) : textT S rs 0 = [] := rfl
theorem textT_succ (S : Sys) (rs : List (Int × Int)) {i : Nat} (hi : i < rs.length) : textT S rs (i + 1) = (if i = 0 then [] else textT S rs i ++ [32]) ++ wordT S (natR (rs[i]?.getD (0, 0))) S.codes.length := by
  unfold textT
  rw [List.take_succ_eq_append_getElem hi, List.getElem?_eq_getElem hi]
  have hw : (wordB S (natR rs[i])).data.toList = wordT S (natR rs[i]) S.codes.length := rfl
  simp only [wordsL, List.map_append, List.map_cons, List.map_nil, hw, Option.getD_some]
  by_cases h0 : i = 0
  · subst h0
    rw [if_pos rfl, List.take_zero, List.map_nil, List.map_nil, List.nil_append, Lib.join_one, List.nil_append]
  · rw [if_neg h0, join_snoc]
    intro h
    have := congrArg List.length h
    simp only [List.length_map, List.length_take, List.length_nil] at this
    omega
theorem textT_end (S : Sys) {rs : List (Int × Int)} (h : rs ≠ []) : textT S rs rs.length = (textB S rs).data.toList := by
  rw [textB_ne h]
  unfold textT
  rw [List.take_length]
theorem textT_len {S : Sys} (gd : Good S) {rs : List (Int × Int)} (gr : GoodR S rs) (i : Nat) : (textT S rs i).length ≤ 7000 := by
  have g : GoodR S (rs.take i) := goodR_sub gr (by have := gr.1; rw [List.length_take]; omega) fun x hx => List.mem_of_mem_take hx
  by_cases h : rs.take i = []
  · unfold textT
    rw [h]
    simp [wordsL, Lib.join, List.intercalate]
  · have h1 := textB_size gd g
    have h2 := textB_ne (S := S) h
    rw [h2] at h1
    unfold textT
    simpa [ByteArray.size] using h1

set_option maxRecDepth 100000 in
set_option maxHeartbeats 4000000 in
theorem TextR_any (A A2 R : Option Addr) (cc c2 cr : Nat) (S : Sys) (rs : List (Int × Int)) (w : World) (gd : Good S) (gr : GoodR S rs) (h : InMem w A A2 cc c2 S) (hr : RdRts w R rs.length rs) :
    Calls Tryz.prog 88 #[.agg #[.slice A S.cs.length cc, .slice A2 S.codes.length c2], .slice R rs.length cr] w fun e w' => e = .returned (.string (textB S rs)) ∧ Below w.heap.size w w' := by
  have hB := hide ((Below.refl w.heap.size w).alloc (Nat.le_refl _) (.cells #[.slice A S.cs.length cc, .slice A2 S.codes.length c2] 38))
  have hS := hide (Blk.new_ (w := w) (g := w.heap.size) (t := 38) (cs := #[.slice A S.cs.length cc, .slice A2 S.codes.length c2]) rfl)
  have hz : w.heap.size < (w.alloc (.cells #[.slice A S.cs.length cc, .slice A2 S.codes.length c2] 38)).heap.size := by simp
  by_cases h0 : rs = []
  · subst h0
    have ht : textB S [] = ⟨#[45]⟩ := rfl
    rw [ht]
    clear h hr hz hS gd gr
    generalize S.cs.length = n at *
    generalize S.codes.length = n2 at *
    go_enter Tryz.func88, Tryz.ntmps88
    go_wp2
    go_ret
    exact ⟨rfl, hB.out⟩
  · have hl0 : 0 < rs.length := by
      rcases Nat.eq_zero_or_pos rs.length with h1 | h1
      · exact absurd (List.eq_nil_of_length_eq_zero h1) h0
      · exact h1
    have hT0 := hide (textT_zero S rs)
    have hTs := hide (fun i (hi : i < rs.length) => textT_succ S rs hi)
    have hTe := hide (textT_end S h0)
    have hTl := hide (textT_len gd gr)
    have hW0 := hide (wordT_zero S)
    have hWl := hide (fun c k j (hc : c < S.cs.length) (hj : j ≤ S.codes.length) => wordT_len gd (r := (c, k)) hc hj)
    have hnml := hide (fun c (hc : c < S.cs.length) => (nameB_size (gd.className hc)).2)
    have hcdl := hide (fun c (hc : c < S.codes.length) => (nameB_size (gd.codeName hc)).2)
    have hWs := hide (wordT_succ S)
    have hrt := hide (goodR_at gr)
    have hg2 := hide gr.2
    have hbd := gd.bd
    have hn28 := hbd.2
    have hn12 := hbd.1.2
    have hm40 := gr.1
    obtain ⟨xs, hx⟩ := h.cls
    have hx := hide hx
    have hstr := hide h.strs
    replace hr := hide hr
    have hhas := hide (fun x k W (hk : k ≤ 40) (hx : x < 2 ^ 40) => HasR_any x k W hk hx)
    clear h h0 hbd
    generalize textB S rs = tb at *
    generalize textT S rs = T at *
    generalize wordT S = U at *
    have hp8 := hide (fun (k : Nat) hk => pow8 gd (k := k) hk)
    clear gd gr
    generalize hn : S.cs.length = n at *
    generalize hn2 : S.codes.length = n2 at *
    generalize hm : rs.length = m at *
    replace hn := hide hn
    replace hn2 := hide hn2
    replace hm := hide hm
    have hmz : ((m : Int) == 0) = false := by rw [beq_eq_false_iff_ne]; omega
    go_enter Tryz.func88, Tryz.ntmps88
    go_wp2
    generalize w.alloc (.cells #[.slice A n cc, .slice A2 n2 c2] 38) = w0 at *
    go_loopg [5, 6] m (fun g ov iv wr => ∃ (i : Nat) (o : ByteArray), i ≤ m ∧ m - i ≤ g ∧ iv = .int .i64 i ∧ ov = .string o ∧ Hid (o.data.toList = T i) ∧ Hid (Below w0.heap.size w0 wr))
    case atStart => exact ⟨0, ⟨#[]⟩, Nat.zero_le _, by omega, rfl, rfl, by unfold Hid; rw [hT0.out], Below.refl _ _⟩
    case round =>
      obtain ⟨i, o, hi, hg, rfl, rfl, ho, BW⟩ := hrel
      have SW := hide (hS.out.below BW.out hS.out.lt)
      have s0 : wr.cell? ⟨w.heap.size, 0, none⟩ = some (.slice A n cc) := SW.out.cell 0
      have s1 : wr.cell? ⟨w.heap.size, 1, none⟩ = some (.slice A2 n2 c2) := SW.out.cell 1
      by_cases hlt : i < m
      · have hltz : (i : Int) < (m : Int) := by omega
        have hi0 : (0 : Int) ≤ (i : Int) := by omega
        have hTi := hTs.out i hlt
        obtain ⟨ci, ki, hri, hci, hki⟩ := hg2.out i hlt
        rw [hri] at hTi
        have hnat : natR ((ci : Int), (ki : Int)) = (ci, ki) := by simp [natR]
        rw [hnat] at hTi
        have BW0 := hide (hB.out.trans (BW.out.mono hB.out.size))
        obtain ⟨rb, roff, y0, y1, rfl, hrb, e1, r0, r1⟩ := (hr.out.below BW0.out).1.cells2 hlt
        rw [row_at rs i (by rw [hm.out]; exact hlt), hri] at e1
        simp only [List.cons.injEq, and_true] at e1
        obtain ⟨rfl, rfl⟩ := e1
        obtain ⟨b, off, x0, x1, x2, x3, x4, rfl, hb, hxj, c0, c1, c2', c3', c4⟩ := (hx.out.below BW0.out).1.cells5 hci
        have hcls := hx.out.2.2.2 ci hci
        rw [hxj] at hcls
        obtain ⟨ia, ic, hcell, _⟩ := hcls
        simp only [List.cons.injEq, and_true] at hcell
        obtain ⟨rfl, _⟩ := hcell
        clear c1 c2' c3' c4 hxj
        have hciz : (ci : Int) < (n : Int) := by omega
        have hci0 : (0 : Int) ≤ (ci : Int) := by omega
        have hU0 := hW0.out (ci, ki)
        have hUs := hide (hWs.out (ci, ki))
        have hul := hide (fun j (hj : j ≤ n2) => hWl.out ci ki j hci hj)
        have hnm := hnml.out ci hci
        simp only at hU0
        have hos : o.size ≤ 7000 := by rw [ba_len, ho.out]; exact hTl.out i
        generalize (S.cs[ci]?.getD default).name = nm at *
        generalize U (ci, ki) = u at *
        have hk40 := hp8.out _ hki
        replace hTi := hide hTi
        replace hU0 := hide hU0
        have hpre : ∃ o2 : ByteArray, o2.data.toList = (if i = 0 then [] else T i ++ [32]) ++ u 0 ∧ o2 = (if i = 0 then o else o ++ ⟨#[32]⟩) ++ nm := by
          refine ⟨_, ?_, rfl⟩
          rw [ba_app, hU0.out]
          by_cases h0 : i = 0
          · rw [if_pos h0, if_pos h0, ho.out, h0, hT0.out]
          · rw [if_neg h0, if_neg h0, ba_app, ho.out]
        obtain ⟨o2, ho2, ho2e⟩ := hpre
        replace ho2 := hide ho2
        by_cases h0 : i = 0
        · rw [if_pos h0] at ho2e
          have h0z : ¬ (0 : Int) < (i : Int) := by omega
          replace ho2e := hide ho2e
          replace h0 := hide h0
          go_wp2
          go_quiet (fail)
          have BQ := hide (below_drewN BW.out nq)
          have SQ := hide (Blk.drewN SW.out nq)
          have q1 : (wr.drewN nq).cell? ⟨rb, roff + i * 2 + 1, none⟩ = some (.int .i64 ki) := r1
          clear s0 s1 r0 r1 c0 BW SW
          rw [← ho2e.out]
          clear ho2e ho
          obtain ⟨wq, hwq⟩ : ∃ wq, wr.drewN nq = wq := ⟨_, rfl⟩
          have hsz : wq.heap.size = wr.heap.size := by rw [← hwq]; rfl
          rw [hwq] at BQ SQ q1 ⊢
          have hrbq : rb < wq.heap.size := by omega
          clear hwq
          go_wp2
          go_loopg [5, 7] n2 (fun g ov kv wr' => ∃ (k : Nat) (o : ByteArray), k ≤ n2 ∧ n2 - k ≤ g ∧ kv = .int .i64 k ∧ ov = .string o ∧ Hid (o.data.toList = (if i = 0 then [] else T i ++ [32]) ++ u k) ∧ Hid (Below wq.heap.size wq wr'))
          case atStart => exact ⟨0, o2, Nat.zero_le _, by omega, rfl, rfl, ho2, Below.refl _ _⟩
          case round =>
            obtain ⟨k, o, hk, hg2, rfl, rfl, ho, BI⟩ := hrel
            have SI := hide (SQ.out.below BI.out SQ.out.lt)
            have hos : o.size ≤ 7160 := by
              have h1 := hTl.out i
              have h2 := hul.out k hk
              rw [ba_len, ho.out, List.length_append]
              split
              · simp only [List.length_nil]; omega
              · simp only [List.length_append, List.length_cons, List.length_nil]; omega
            have s1 : wr.cell? ⟨w.heap.size, 1, none⟩ = some (.slice A2 n2 c2) := SI.out.cell 1
            have r1 : wr.cell? ⟨rb, roff + i * 2 + 1, none⟩ = some (.int .i64 ki) := (cellB BI.out hrbq).trans q1
            by_cases hltk : k < n2
            · have hltkz : (k : Int) < (n2 : Int) := by omega
              have hk0 : (0 : Int) ≤ (k : Int) := by omega
              have BI0 := hide (hB.out.trans (BQ.out.trans (BI.out.mono BQ.out.size) |>.mono hB.out.size))
              obtain ⟨b2, off2, rfl, hb2, hcs⟩ := (hstr.out.below BI0.out).2.2 (by omega)
              have hcj := hcs k _ (List.getElem?_eq_getElem (by rw [hn2.out]; exact hltk))
              clear hcs
              have hcd : S.codes[k]?.getD ⟨#[]⟩ = S.codes[k]'(by rw [hn2.out]; exact hltk) := by rw [List.getElem?_eq_getElem (by rw [hn2.out]; exact hltk)]; rfl
              have hUk := hUs.out k
              have hcdn := hcdl.out k hltk
              rw [hcd] at hUk hcdn
              generalize S.codes[k]'(by rw [hn2.out]; exact hltk) = cd at *
              replace hUk := hide hUk
              clear hcd
              go_wp2_with fail
              refine (hhas.out ki k _ (by omega) hk40).mono ?_
              rintro e w3 ⟨rfl, rfl⟩
              cases hbit : ki.testBit k with
              | true =>
                have ho3 := hide (show (o ++ ⟨#[46]⟩ ++ cd).data.toList = (if i = 0 then [] else T i ++ [32]) ++ u (k + 1) by
                  have h1 := hUk.out
                  rw [if_pos hbit] at h1
                  rw [h1, ba_app, ba_app, ho.out]
                  simp [List.append_assoc])
                clear hbit hUk ho
                go_wp2
                go_roundg (n2 - (k + 1))
                case measure => omega
                case rel => exact ⟨k + 1, _, by omega, by omega, by go_num, rfl, ho3, BI⟩
              | false =>
                have ho3 := hide (show o.data.toList = (if i = 0 then [] else T i ++ [32]) ++ u (k + 1) by
                  have h1 := hUk.out
                  rw [if_neg (by rw [hbit]; simp)] at h1
                  rw [h1, ho.out])
                clear hbit hUk ho
                go_wp2
                go_roundg (n2 - (k + 1))
                case measure => omega
                case rel => exact ⟨k + 1, o, by omega, by omega, by go_num, rfl, ho3, BI⟩
            · obtain rfl : k = n2 := by omega
              have hltkz : ¬ (k : Int) < (k : Int) := by omega
              have ho3 := hide (show o.data.toList = T (i + 1) by rw [ho.out, hTi.out])
              clear ho
              go_wp2
              go_roundg (m - (i + 1))
              case measure => omega
              case rel => exact ⟨i + 1, o, by omega, by omega, by go_num, rfl, ho3, BQ.out.trans (BI.out.mono BQ.out.size)⟩
        · rw [if_neg h0] at ho2e
          have h0z : (0 : Int) < (i : Int) := by omega
          replace ho2e := hide ho2e
          replace h0 := hide h0
          go_wp2
          go_quiet (fail)
          have BQ := hide (below_drewN BW.out nq)
          have SQ := hide (Blk.drewN SW.out nq)
          have q1 : (wr.drewN nq).cell? ⟨rb, roff + i * 2 + 1, none⟩ = some (.int .i64 ki) := r1
          clear s0 s1 r0 r1 c0 BW SW
          rw [← ho2e.out]
          clear ho2e ho
          obtain ⟨wq, hwq⟩ : ∃ wq, wr.drewN nq = wq := ⟨_, rfl⟩
          have hsz : wq.heap.size = wr.heap.size := by rw [← hwq]; rfl
          rw [hwq] at BQ SQ q1 ⊢
          have hrbq : rb < wq.heap.size := by omega
          clear hwq
          go_wp2
          go_loopg [5, 7] n2 (fun g ov kv wr' => ∃ (k : Nat) (o : ByteArray), k ≤ n2 ∧ n2 - k ≤ g ∧ kv = .int .i64 k ∧ ov = .string o ∧ Hid (o.data.toList = (if i = 0 then [] else T i ++ [32]) ++ u k) ∧ Hid (Below wq.heap.size wq wr'))
          case atStart => exact ⟨0, o2, Nat.zero_le _, by omega, rfl, rfl, ho2, Below.refl _ _⟩
          case round =>
            obtain ⟨k, o, hk, hg2, rfl, rfl, ho, BI⟩ := hrel
            have SI := hide (SQ.out.below BI.out SQ.out.lt)
            have hos : o.size ≤ 7160 := by
              have h1 := hTl.out i
              have h2 := hul.out k hk
              rw [ba_len, ho.out, List.length_append]
              split
              · simp only [List.length_nil]; omega
              · simp only [List.length_append, List.length_cons, List.length_nil]; omega
            have s1 : wr.cell? ⟨w.heap.size, 1, none⟩ = some (.slice A2 n2 c2) := SI.out.cell 1
            have r1 : wr.cell? ⟨rb, roff + i * 2 + 1, none⟩ = some (.int .i64 ki) := (cellB BI.out hrbq).trans q1
            by_cases hltk : k < n2
            · have hltkz : (k : Int) < (n2 : Int) := by omega
              have hk0 : (0 : Int) ≤ (k : Int) := by omega
              have BI0 := hide (hB.out.trans (BQ.out.trans (BI.out.mono BQ.out.size) |>.mono hB.out.size))
              obtain ⟨b2, off2, rfl, hb2, hcs⟩ := (hstr.out.below BI0.out).2.2 (by omega)
              have hcj := hcs k _ (List.getElem?_eq_getElem (by rw [hn2.out]; exact hltk))
              clear hcs
              have hcd : S.codes[k]?.getD ⟨#[]⟩ = S.codes[k]'(by rw [hn2.out]; exact hltk) := by rw [List.getElem?_eq_getElem (by rw [hn2.out]; exact hltk)]; rfl
              have hUk := hUs.out k
              have hcdn := hcdl.out k hltk
              rw [hcd] at hUk hcdn
              generalize S.codes[k]'(by rw [hn2.out]; exact hltk) = cd at *
              replace hUk := hide hUk
              clear hcd
              go_wp2_with fail
              refine (hhas.out ki k _ (by omega) hk40).mono ?_
              rintro e w3 ⟨rfl, rfl⟩
              cases hbit : ki.testBit k with
              | true =>
                have ho3 := hide (show (o ++ ⟨#[46]⟩ ++ cd).data.toList = (if i = 0 then [] else T i ++ [32]) ++ u (k + 1) by
                  have h1 := hUk.out
                  rw [if_pos hbit] at h1
                  rw [h1, ba_app, ba_app, ho.out]
                  simp [List.append_assoc])
                clear hbit hUk ho
                go_wp2
                go_roundg (n2 - (k + 1))
                case measure => omega
                case rel => exact ⟨k + 1, _, by omega, by omega, by go_num, rfl, ho3, BI⟩
              | false =>
                have ho3 := hide (show o.data.toList = (if i = 0 then [] else T i ++ [32]) ++ u (k + 1) by
                  have h1 := hUk.out
                  rw [if_neg (by rw [hbit]; simp)] at h1
                  rw [h1, ho.out])
                clear hbit hUk ho
                go_wp2
                go_roundg (n2 - (k + 1))
                case measure => omega
                case rel => exact ⟨k + 1, o, by omega, by omega, by go_num, rfl, ho3, BI⟩
            · obtain rfl : k = n2 := by omega
              have hltkz : ¬ (k : Int) < (k : Int) := by omega
              have ho3 := hide (show o.data.toList = T (i + 1) by rw [ho.out, hTi.out])
              clear ho
              go_wp2
              go_roundg (m - (i + 1))
              case measure => omega
              case rel => exact ⟨i + 1, o, by omega, by omega, by go_num, rfl, ho3, BQ.out.trans (BI.out.mono BQ.out.size)⟩
      · obtain rfl : i = m := by omega
        have hltz : ¬ (i : Int) < (i : Int) := by omega
        have hfin : o = tb := ba_ext (by rw [ho.out, hTe.out])
        subst hfin
        clear s0 s1
        go_wp2
        go_ret
        exact ⟨rfl, hB.out.trans (BW.out.mono hB.out.size)⟩
end Go.Proofs.YtjfdfhnfcpfmcaaGreatDoor
