import Derived.Test.YtkmhldjebopljaaPa
/-
  The reference's Check.
-/
namespace Go.Proofs.Ytkmhldjebopljaa
open Go.RowKit RG

set_option maxRecDepth 100000 in
set_option maxHeartbeats 8000000 in
theorem CheckR_any (v : Value) (S : BSch) (w : World) (h : RdBSch w v S) :
    Calls Try.prog 17 #[v] w fun e w' => e = .returned (.tuple #[.int .i64 (checkB S).1, .int .i64 (checkB S).2.1, .int .i64 (checkB S).2.2]) ∧ Below w.heap.size w w' := by
  obtain ⟨L, C, T, cl, cc, ct, rfl, hR⟩ := h
  obtain ⟨r, hr⟩ : ∃ r, checkB S = r := ⟨_, rfl⟩
  rw [hr]
  have hnum := hide (fun q (hq : numE S = q) (hne : q ≠ 0) => show r = (1, 0, q) from by subst hq; exact hr.symm.trans (chk_1 hne))
  have hlea := hide (fun (h0 : numE S = 0) (j : Nat) (hj : j < S.learners.length) hb (er : Int) he hne => hr.symm.trans (chk_2 (S := S) h0 hj hb (er := er) he hne))
  have hcar := hide (fun (h0 : numE S = 0) h1 (j : Nat) (hj : j < S.cars.length) hb (er : Int) he hne => hr.symm.trans (chk_3 (S := S) h0 h1 hj hb (er := er) he hne))
  have hter := hide (fun (h0 : numE S = 0) h1 h2 (j : Nat) (hj : j < S.terms.length) hb (er : Int) he hne => hr.symm.trans (chk_4 (S := S) h0 h1 h2 hj hb (er := er) he hne))
  have hzer := hide (fun (h0 : numE S = 0) h1 h2 h3 => hr.symm.trans (chk_0 (S := S) h0 h1 h2 h3))
  clear hr
  have hlB := hide (fun W (hb : Below w.heap.size w W) => hR.ln.below hb)
  have hcB := hide (fun W (hb : Below w.heap.size w W) (i : Nat) (hi : i < S.cars.length) => carR_any L C T cl cc ct i S W (hR.cn.below hb) hR.cm.1 hR.cs hi)
  have htB := hide (fun W (hb : Below w.heap.size w W) => hR.tn.below hb)
  have hmx := hide (show S.learners.length ≤ maxLen ∧ S.cars.length ≤ maxLen ∧ S.terms.length ≤ maxLen from ⟨hR.lm.1, hR.cm.1, hR.tm.1⟩)
  have hls := hide (fun (j : Nat) (hj : j < S.learners.length) => show (S.learners[j]?.getD ⟨#[]⟩).size ≤ maxLen by rw [List.getElem?_eq_getElem hj]; exact hR.ln.2.1 _ (List.getElem_mem _))
  have hla := hide (fun (j : Nat) (hj : j < S.learners.length) => show S.learners[j]? = some (S.learners[j]?.getD ⟨#[]⟩) by rw [List.getElem?_eq_getElem hj]; rfl)
  have hta := hide (fun (j : Nat) (hj : j < S.terms.length) => map_at termCells S.terms j hj)
  have htE := hide (fun (j : Nat) => show tE S j = termE S.terms j (S.terms[j]?.getD default) from rfl)
  have hcE := hide (fun (j : Nat) => show carE S.cars j (S.cars[j]?.getD default) = cE S j from rfl)
  have hl0 := hide (fun (j : Nat) (hq : nameB (S.learners[j]?.getD ⟨#[]⟩) = false) => show lE S j = 6 from nmErr_no hq)
  have hl1 := hide (fun (j k : Nat) (hq : nameB (S.learners[j]?.getD ⟨#[]⟩) = true) (hk : k < j) (he : eqS (S.learners[k]?.getD ⟨#[]⟩) (S.learners[j]?.getD ⟨#[]⟩) = true) => show lE S j = 5 from nmErr_hit hq hk he)
  have hl2 := hide (fun (j : Nat) (hq : nameB (S.learners[j]?.getD ⟨#[]⟩) = true) (he : ∀ k, k < j → eqS (S.learners[k]?.getD ⟨#[]⟩) (S.learners[j]?.getD ⟨#[]⟩) = false) => show lE S j = 0 from nmErr_ok hq he)
  clear hR
  obtain ⟨q, hq⟩ : ∃ q, numE S = q := ⟨_, rfl⟩
  rw [hq] at hlea hcar hter hzer hnum
  unfold numE at hq
  obtain ⟨W0, hW0⟩ : ∃ x, w.alloc (.cells (schCells L C T cl cc ct S) 28) = x := ⟨_, rfl⟩
  have hB0 := hide (show Below w.heap.size w W0 by rw [← hW0]; exact (Below.refl _ _).alloc (Nat.le_refl _) _)
  have k0 := hide (show Blk W0 w.heap.size 28 (schCells L C T cl cc ct S) by rw [← hW0]; exact blkNew rfl)
  have c0 : W0.cell? ⟨w.heap.size, 0, none⟩ = some (.slice L S.learners.length cl) := k0.out.cell 0
  have c1 : W0.cell? ⟨w.heap.size, 1, none⟩ = some (.slice C S.cars.length cc) := k0.out.cell 1
  have c2 : W0.cell? ⟨w.heap.size, 2, none⟩ = some (.int .i64 S.price) := k0.out.cell 2
  have c3 : W0.cell? ⟨w.heap.size, 3, none⟩ = some (.int .i64 S.excess) := k0.out.cell 3
  have c4 : W0.cell? ⟨w.heap.size, 4, none⟩ = some (.int .i64 S.lo) := k0.out.cell 4
  have c5 : W0.cell? ⟨w.heap.size, 5, none⟩ = some (.int .i64 S.hi) := k0.out.cell 5
  have c6 : W0.cell? ⟨w.heap.size, 6, none⟩ = some (.slice T S.terms.length ct) := k0.out.cell 6
  unfold schCells at *
  replace hW0 := hide hW0
  generalize S.learners.length = nl at *
  generalize S.cars.length = nc at *
  generalize S.terms.length = nt at *
  generalize S.price = pr at *
  generalize S.excess = ex at *
  generalize S.lo = lo at *
  generalize S.hi = hi at *
  have hm1 := hmx.out.1
  have hm2 := hmx.out.2.1
  have hm3 := hmx.out.2.2
  unfold maxLen at hm1 hm2 hm3
  go_enter Try.func17, Try.ntmps17
  go_upto_region 1 with fail
  rw [hW0.out]
  go_wp2_with fail
  refine (inRB nl 1 8 _).mono ?_
  rintro e w1 ⟨rfl, rfl⟩
  cases h1 : inB 1 8 nl with
  | false =>
    have hq2 : 3 = q := by rw [← hq]; rw [if_neg (by simp [h1])]
    have hrr := hnum.out q rfl (by rw [← hq2]; decide)
    rw [← hq2] at hrr
    subst hrr
    clear hq hq2 hlea hcar hter hzer hnum
    go_wp2
    go_ret3
    exact ⟨rfl, hB0.out⟩
  | true =>
  go_wp2_with fail
  refine (inRB nc 1 5 _).mono ?_
  rintro e w1 ⟨rfl, rfl⟩
  cases h2 : inB 1 5 nc with
  | false =>
    have hq2 : 3 = q := by rw [← hq]; rw [if_neg (by simp [h2])]
    have hrr := hnum.out q rfl (by rw [← hq2]; decide)
    rw [← hq2] at hrr
    subst hrr
    clear hq hq2 hlea hcar hter hzer hnum
    go_wp2
    go_ret3
    exact ⟨rfl, hB0.out⟩
  | true =>
  by_cases h3 : 4 < nt
  · have h3z : (4 : Int) < (nt : Int) := by omega
    have hq2 : 3 = q := by rw [← hq, if_neg (by omega)]
    have hrr := hnum.out q rfl (by rw [← hq2]; decide)
    rw [← hq2] at hrr
    subst hrr
    clear hq hq2 hlea hcar hter hzer hnum
    go_wp2
    go_ret3
    exact ⟨rfl, hB0.out⟩
  have h3z : ¬ (4 : Int) < (nt : Int) := by omega
  rw [if_pos ⟨h1, h2, by omega⟩] at hq
  go_wp2_with fail
  refine (inRB pr 1 10000 _).mono ?_
  rintro e w1 ⟨rfl, rfl⟩
  cases h4 : inB 1 10000 pr with
  | false =>
    have hq2 : 7 = q := by rw [← hq]; rw [if_neg (by simp [h4])]
    have hrr := hnum.out q rfl (by rw [← hq2]; decide)
    rw [← hq2] at hrr
    subst hrr
    clear hq hq2 hlea hcar hter hzer hnum
    go_wp2
    go_ret3
    exact ⟨rfl, hB0.out⟩
  | true =>
  clear h3z
  go_wp2_with fail
  refine (inRB ex 0 10000000 _).mono ?_
  rintro e w1 ⟨rfl, rfl⟩
  cases h5 : inB 0 10000000 ex with
  | false =>
    have hq2 : 7 = q := by rw [← hq]; rw [if_neg (by simp [h5])]
    have hrr := hnum.out q rfl (by rw [← hq2]; decide)
    rw [← hq2] at hrr
    subst hrr
    clear hq hq2 hlea hcar hter hzer hnum
    go_wp2
    go_ret3
    exact ⟨rfl, hB0.out⟩
  | true =>
  go_wp2_with fail
  refine (inRB lo 0 24 _).mono ?_
  rintro e w1 ⟨rfl, rfl⟩
  cases h6 : inB 0 24 lo with
  | false =>
    have hq2 : 7 = q := by rw [← hq]; rw [if_neg (by simp [h6])]
    have hrr := hnum.out q rfl (by rw [← hq2]; decide)
    rw [← hq2] at hrr
    subst hrr
    clear hq hq2 hlea hcar hter hzer hnum
    go_wp2
    go_ret3
    exact ⟨rfl, hB0.out⟩
  | true =>
  go_wp2_with fail
  refine (inRB hi 0 24 _).mono ?_
  rintro e w1 ⟨rfl, rfl⟩
  cases h7 : inB 0 24 hi with
  | false =>
    have hq2 : 7 = q := by rw [← hq]; rw [if_neg (by simp [h7])]
    have hrr := hnum.out q rfl (by rw [← hq2]; decide)
    rw [← hq2] at hrr
    subst hrr
    clear hq hq2 hlea hcar hter hzer hnum
    go_wp2
    go_ret3
    exact ⟨rfl, hB0.out⟩
  | true =>
  rw [if_pos ⟨h4, h5, h6, h7⟩] at hq
  by_cases h8 : hi ≤ lo
  · have hq2 : 2 = q := by rw [← hq, if_pos h8]
    have hrr := hnum.out q rfl (by rw [← hq2]; decide)
    rw [← hq2] at hrr
    subst hrr
    clear hq hq2 hlea hcar hter hzer hnum
    go_wp2
    go_ret3
    exact ⟨rfl, hB0.out⟩
  rw [if_neg h8] at hq
  have hnl := inB_iff.1 h1
  subst hq
  clear h1 h2 h4 h5 h6 h7 hnum
  replace hlea := hide (hlea.out rfl)
  replace hcar := hide (hcar.out rfl)
  replace hter := hide (hter.out rfl)
  replace hzer := hide (hzer.out rfl)
  clear h3
  go_wp2
  clear h8
  go_loopg [5, 6] nl (fun gg s5 _ wr => ∃ j : Nat, j ≤ nl ∧ nl ≤ gg + j ∧ s5 = .int .i64 j ∧ Hid (Below W0.heap.size W0 wr) ∧ Hid (∀ i, i < j → lE S i = 0))
  case atStart => exact ⟨0, Nat.zero_le _, by omega, rfl, Below.refl _ _, fun i hi => absurd hi (by omega)⟩
  case round =>
  clear c0 c1 c2 c3 c4 c5 c6
  obtain ⟨j, hj, hgg, rfl, hBr, hok⟩ := hrel
  have hBw := hide (hB0.out.trans (hBr.out.mono hB0.out.size))
  have kr := hide (k0.out.below hBr.out k0.out.lt)
  have x0 : wr.cell? ⟨w.heap.size, 0, none⟩ = some (.slice L nl cl) := kr.out.cell 0
  by_cases hlt : j < nl
  · have hltz : (j : Int) < (nl : Int) := by omega
    obtain ⟨b, off, rfl, hb, hc⟩ := (hlB.out wr hBw.out).2.2 (by omega)
    have cj := hc j _ (hla.out j hlt)
    have hsz := hls.out j hlt
    have hno := hide (hl0.out j)
    have hht := hide (fun k => hl1.out j k)
    have hgo := hide (hl2.out j)
    have hbad := hide (fun er he hne => hlea.out j hlt hok.out er he hne)
    obtain ⟨nm, hnm⟩ : ∃ x, S.learners[j]?.getD ⟨#[]⟩ = x := ⟨_, rfl⟩
    simp only [hnm] at cj hsz hno hht hgo
    have hcj := hide (show S.learners[j]?.getD ⟨#[]⟩ = nm from hnm)
    clear hnm
    replace hc := hide hc
    go_wp2_with fail
    refine (NameR_any nm _ hsz).mono ?_
    rintro e w2 ⟨rfl, rfl⟩
    clear hsz
    cases hq : nameB nm with
    | false =>
      have hrr := hbad.out 6 (hno.out hq) (by decide)
      subst hrr
      clear hbad hno hht hgo cj hq x0
      go_wp2
      go_ret3
      exact ⟨rfl, hBw.out⟩
    | true =>
      replace hht := hide (fun k => hht.out k hq)
      replace hgo := hide (hgo.out hq)
      clear hno hq cj x0
      go_wp2
      generalize wr = wo at *
      go_loopg [6] j (fun g2 s6 wx => ∃ k : Nat, k ≤ j ∧ j ≤ g2 + k ∧ s6 = .int .i64 k ∧ Hid (Below wo.heap.size wo wx) ∧ Hid (∀ i, i < k → eqS (S.learners[i]?.getD ⟨#[]⟩) nm = false))
      case atStart => exact ⟨0, Nat.zero_le _, by omega, rfl, Below.refl _ _, fun i hi => absurd hi (by omega)⟩
      case round =>
      obtain ⟨k, hk, hg2, rfl, hBq, hna⟩ := hrel
      have hBf := hide (hBw.out.trans (hBq.out.mono hBw.out.size))
      have hBrq := hide (hBr.out.trans (hBq.out.mono hBr.out.size))
      by_cases hlk : k < j
      · have hlkz : (k : Int) < (j : Int) := by omega
        have hk0 : (0 : Int) ≤ (k : Int) := by omega
        have hj0 : (0 : Int) ≤ (j : Int) := by omega
        have hkl : (k : Int) < (nl : Int) := by omega
        have x0 : wr.cell? ⟨w.heap.size, 0, none⟩ = some (.slice (some ⟨b, off, none⟩) nl cl) := (kr.out.below hBq.out kr.out.lt).cell 0
        have ck := (cellB hBq.out hb).trans (hc.out k _ (hla.out k (by omega)))
        have cj := (cellB hBq.out hb).trans (hc.out j _ (hla.out j hlt))
        have hh := hide (hht.out k hlk)
        have hst := hide (show eqS (S.learners[k]?.getD ⟨#[]⟩) nm = false → ∀ i, i < k + 1 → eqS (S.learners[i]?.getD ⟨#[]⟩) nm = false from fun h0 i hi => by
          rcases Nat.lt_succ_iff_lt_or_eq.1 hi with h' | rfl
          · exact hna.out i h'
          · exact h0)
        rw [hcj.out] at cj
        obtain ⟨x, hx⟩ : ∃ x, S.learners[k]?.getD ⟨#[]⟩ = x := ⟨_, rfl⟩
        simp only [hx] at ck hh hst
        clear hx
        have hqe : eqS x nm = (x.toList == nm.toList) := rfl
        cases he : eqS x nm with
        | true =>
          have hrr := hbad.out 5 (hh.out he) (by decide)
          subst hrr
          have hbe : (x.toList == nm.toList) = true := hqe.symm.trans he
          clear hh hst hna hqe he hbad
          go_wp2
          go_quiet (fail)
          go_wp2
          go_ret3
          exact ⟨rfl, below_drewN hBf.out _⟩
        | false =>
          have hbe : (x.toList == nm.toList) = false := hqe.symm.trans he
          have hna2 := hide (hst.out he)
          clear hh hst hqe he hbad
          go_wp2
          go_quiet (fail)
          go_wp2
          go_roundg (j - (k + 1))
          case measure => omega
          case rel => exact ⟨k + 1, by omega, by omega, by go_num, below_drewN hBq.out _, hna2.out⟩
      · have hlkz : ¬ (k : Int) < (j : Int) := by omega
        obtain rfl : k = j := by omega
        have hok2 := hide (show ∀ i, i < k + 1 → lE S i = 0 from fun i hi => by
          rcases Nat.lt_succ_iff_lt_or_eq.1 hi with h' | rfl
          · exact hok.out i h'
          · exact hgo.out hna.out)
        clear hna hht hgo hbad
        go_wp2
        go_roundg (nl - (k + 1))
        case measure => omega
        case rel => exact ⟨k + 1, by omega, by omega, by go_num, hBrq.out, hok2.out⟩
  · have hltz : ¬ (j : Int) < (nl : Int) := by omega
    obtain rfl : j = nl := by omega
    replace hcar := hide (hcar.out hok.out)
    replace hter := hide (hter.out hok.out)
    replace hzer := hide (hzer.out hok.out)
    clear hlea hok hlB hls hla hl0 hl1 hl2
    go_wp2
    clear x0
    have hB1 := hide hBw.out
    have k1 := hide kr.out
    generalize j = nl at *
    clear hBr hBw kr hgg hltz hlt hj
    generalize wr = W1 at *
    go_loopg [7, 8] nc (fun gg s7 _ wr => ∃ j : Nat, j ≤ nc ∧ nc ≤ gg + j ∧ s7 = .int .i64 j ∧ Hid (Below W1.heap.size W1 wr) ∧ Hid (∀ i, i < j → cE S i = 0))
    case atStart => exact ⟨0, Nat.zero_le _, by omega, rfl, Below.refl _ _, fun i hi => absurd hi (by omega)⟩
    case round =>
    obtain ⟨j, hj, hgg, rfl, hBr, hok⟩ := hrel
    have hBw := hide (hB1.out.trans (hBr.out.mono hB1.out.size))
    have kr := hide (k1.out.below hBr.out k1.out.lt)
    have x1 : wr.cell? ⟨w.heap.size, 1, none⟩ = some (.slice C nc cc) := kr.out.cell 1
    by_cases hlt : j < nc
    · have hltz : (j : Int) < (nc : Int) := by omega
      have x0 : wr.cell? ⟨w.heap.size, 0, none⟩ = some (.slice L nl cl) := kr.out.cell 0
      have x2 : wr.cell? ⟨w.heap.size, 2, none⟩ = some (.int .i64 pr) := kr.out.cell 2
      have x3 : wr.cell? ⟨w.heap.size, 3, none⟩ = some (.int .i64 ex) := kr.out.cell 3
      have x4 : wr.cell? ⟨w.heap.size, 4, none⟩ = some (.int .i64 lo) := kr.out.cell 4
      have x5 : wr.cell? ⟨w.heap.size, 5, none⟩ = some (.int .i64 hi) := kr.out.cell 5
      have x6 : wr.cell? ⟨w.heap.size, 6, none⟩ = some (.slice T nt ct) := kr.out.cell 6
      have hcc := hide (hcB.out wr hBw.out j hlt)
      have hbad := hide (fun er he hne => hcar.out j hlt hok.out er he hne)
      have hce := hide (hcE.out j)
      obtain ⟨er, her⟩ : ∃ x, carE S.cars j (S.cars[j]?.getD default) = x := ⟨_, rfl⟩
      rw [her] at hcc hce
      clear her
      go_wp2_with fail
      refine hcc.out.mono ?_
      rintro e w2 ⟨rfl, hb⟩
      have hBr2 := hide (hBr.out.trans (hb.mono hBr.out.size))
      have hBw2 := hide (hB1.out.trans (hBr2.out.mono hB1.out.size))
      clear hb hcc x0 x1 x2 x3 x4 x5 x6
      by_cases h0 : er = 0
      · have hok2 := hide (show ∀ i, i < j + 1 → cE S i = 0 from fun i hi => by
          rcases Nat.lt_succ_iff_lt_or_eq.1 hi with h' | rfl
          · exact hok.out i h'
          · exact hce.out.symm.trans h0)
        have b0 : (er != 0) = false := by simp [h0]
        clear h0 hbad hce
        go_wp2
        go_roundg (nc - (j + 1))
        case measure => omega
        case rel => exact ⟨j + 1, by omega, by omega, by go_num, hBr2.out, hok2.out⟩
      · have b0 : (er != 0) = true := by rw [bne_iff_ne]; exact h0
        have hrr := hbad.out er hce.out.symm h0
        subst hrr
        replace h0 := hide h0
        clear hbad hce
        go_wp2
        go_ret3
        exact ⟨rfl, hBw2.out⟩
    · have hltz : ¬ (j : Int) < (nc : Int) := by omega
      obtain rfl : j = nc := by omega
      replace hter := hide (hter.out hok.out)
      replace hzer := hide (hzer.out hok.out)
      clear hcar hok hcB hcE
      go_wp2
      clear x1
      have hB2 := hide hBw.out
      have k2 := hide kr.out
      generalize j = nc at *
      clear hBr hBw kr hgg hltz hlt hj hB1 k1
      generalize wr = W2 at *
      go_loopg [9] nt (fun gg s9 wr => ∃ j : Nat, j ≤ nt ∧ nt ≤ gg + j ∧ s9 = .int .i64 j ∧ Hid (Below W2.heap.size W2 wr) ∧ Hid (∀ i, i < j → tE S i = 0))
      case atStart => exact ⟨0, Nat.zero_le _, by omega, rfl, Below.refl _ _, fun i hi => absurd hi (by omega)⟩
      case round =>
      obtain ⟨j, hj, hgg, rfl, hBr, hok⟩ := hrel
      have hBw := hide (hB2.out.trans (hBr.out.mono hB2.out.size))
      have kr := hide (k2.out.below hBr.out k2.out.lt)
      have x6 : wr.cell? ⟨w.heap.size, 6, none⟩ = some (.slice T nt ct) := kr.out.cell 6
      by_cases hlt : j < nt
      · have hltz : (j : Int) < (nt : Int) := by omega
        obtain ⟨b, off, y0, y1, rfl, hbl, hy, d0, d1⟩ := (htB.out wr hBw.out).cells2 hlt
        rw [hta.out j hlt] at hy
        unfold termCells at hy
        simp only [List.cons.injEq, and_true] at hy
        obtain ⟨rfl, rfl⟩ := hy
        have hbad := hide (fun er he hne => hter.out j hlt hok.out er he hne)
        have hte := htE.out j
        unfold termE at hte
        obtain ⟨tb, h1⟩ : ∃ x, (S.terms[j]?.getD default).before = x := ⟨_, rfl⟩
        obtain ⟨tf, h2⟩ : ∃ x, (S.terms[j]?.getD default).fee = x := ⟨_, rfl⟩
        simp only [h1, h2] at hte d0 d1
        clear h1 h2
        have hj0 : (0 : Int) ≤ (j : Int) := by omega
        go_wp2_with fail
        refine (inRB tb 0 240 _).mono ?_
        rintro e w2 ⟨rfl, rfl⟩
        cases ha : inB 0 240 tb with
        | false =>
          rw [ha, if_neg (by simp)] at hte
          have hrr := hbad.out 7 hte (by decide)
          subst hrr
          clear hbad hte
          go_wp2
          go_ret3
          exact ⟨rfl, hBw.out⟩
        | true =>
          go_wp2_with fail
          refine (inRB tf 0 1000 _).mono ?_
          rintro e w2 ⟨rfl, rfl⟩
          cases hb : inB 0 1000 tf with
          | false =>
            rw [hb, if_neg (by simp)] at hte
            have hrr := hbad.out 7 hte (by decide)
            subst hrr
            clear hbad hte
            go_wp2
            go_ret3
            exact ⟨rfl, hBw.out⟩
          | true =>
            rw [ha, hb, if_pos (by simp)] at hte
            clear ha hb
            by_cases h0 : j = 0
            · subst h0
              rw [if_neg (by simp)] at hte
              have hok2 := hide (show ∀ i, i < 0 + 1 → tE S i = 0 from fun i hi => by
                obtain rfl : i = 0 := by omega
                exact hte)
              clear hte hbad
              go_wp2
              go_quiet (fail)
              go_wp2
              go_roundg (nt - (0 + 1))
              case measure => omega
              case rel => exact ⟨0 + 1, by omega, by omega, by go_num, below_drewN hBr.out _, hok2.out⟩
            · obtain ⟨i, rfl⟩ : ∃ i, j = i + 1 := ⟨j - 1, by omega⟩
              have hil : i < nt := by omega
              obtain ⟨b', off', y0, y1, hbo, hbl', hy, f0, f1⟩ := (htB.out wr hBw.out).cells2 hil
              cases hbo
              rw [hta.out i hil] at hy
              unfold termCells at hy
              simp only [List.cons.injEq, and_true] at hy
              obtain ⟨rfl, rfl⟩ := hy
              rw [show i + 1 - 1 = i by omega] at hte
              obtain ⟨ub, h1⟩ : ∃ x, (S.terms[i]?.getD default).before = x := ⟨_, rfl⟩
              obtain ⟨uf, h2⟩ : ∃ x, (S.terms[i]?.getD default).fee = x := ⟨_, rfl⟩
              simp only [h1, h2] at hte f0 f1
              clear h1 h2
              obtain ⟨k, hk⟩ : ∃ k : Nat, i + 1 = k := ⟨_, rfl⟩
              have hk0 : decide ((0 : Int) < (k : Int)) = true := decide_eq_true (by omega)
              have hk2 : 0 < k := by omega
              have hki : IntKind.i64.wrap ((k : Int) - 1) = (i : Int) := by rw [IntKind.wrap_i64]; omega
              have hiz : (i : Int) < (nt : Int) := by omega
              have hi0 : (0 : Int) ≤ (i : Int) := by omega
              rw [hk] at hte hok hbad hj hgg hlt hltz hj0 d0 d1 ⊢
              have hkk := hide hk
              clear hk
              have hst := hide (show tE S k = 0 → ∀ i, i < k + 1 → tE S i = 0 from fun h0 i hi => by
                rcases Nat.lt_succ_iff_lt_or_eq.1 hi with h' | rfl
                · exact hok.out i h'
                · exact h0)
              by_cases h1 : ub ≤ tb
              · have e1 : decide (ub ≤ tb) = true := decide_eq_true h1
                rw [if_pos ⟨hk2, .inl h1⟩] at hte
                have hrr := hbad.out 2 hte (by decide)
                subst hrr
                clear hbad hte hst
                go_wp2
                go_quiet (fail)
                go_wp2
                go_ret3
                exact ⟨rfl, below_drewN hBw.out _⟩
              · have e1 : decide (ub ≤ tb) = false := decide_eq_false h1
                by_cases h2 : tf < uf
                · have e2 : decide (tf < uf) = true := decide_eq_true h2
                  rw [if_pos ⟨hk2, .inr h2⟩] at hte
                  have hrr := hbad.out 2 hte (by decide)
                  subst hrr
                  clear hbad hte hst
                  go_wp2
                  go_quiet (fail)
                  go_wp2
                  go_ret3
                  exact ⟨rfl, below_drewN hBw.out _⟩
                · have e2 : decide (tf < uf) = false := decide_eq_false h2
                  rw [if_neg (by rintro ⟨_, h | h⟩; exact h1 h; exact h2 h)] at hte
                  have hok2 := hide (hst.out hte)
                  clear hbad hte hst
                  go_wp2
                  go_quiet (fail)
                  go_wp2
                  go_roundg (nt - (k + 1))
                  case measure => omega
                  case rel => exact ⟨k + 1, by omega, by omega, by go_num, below_drewN hBr.out _, hok2.out⟩
      · have hltz : ¬ (j : Int) < (nt : Int) := by omega
        obtain rfl : j = nt := by omega
        have hrr := hzer.out hok.out
        subst hrr
        clear hter hok hzer
        go_wp2
        go_ret3
        exact ⟨rfl, hBw.out⟩
end Go.Proofs.Ytkmhldjebopljaa

/-
  The reference's fee and Fee.
-/
namespace Go.Proofs.Ytkmhldjebopljaa
open Go.RowKit RG

set_option maxRecDepth 100000 in
set_option maxHeartbeats 2000000 in
theorem feeR_any (v : Value) (S : BSch) (hours before : Int) (w : World) (h : RdBSch w v S) (hS : SchOk S) (hh : 1 ≤ hours ∧ hours ≤ 4) :
    Calls Try.prog 50 #[v, .int .i64 hours, .int .i64 before] w fun e w' => e = .returned (.int .i64 (feeB S hours before)) ∧ Below w.heap.size w w' := by
  obtain ⟨L, C, T, cl, cc, ct, rfl, hR⟩ := h
  have htn := hide (fun W (hb : Below w.heap.size w W) => hR.tn.below hb)
  have htl := hR.tm.1
  have hp := hS.price
  have hx : 1 ≤ hours * S.price ∧ hours * S.price ≤ 40000 := by
    have h1 : hours * 1 ≤ hours * S.price := Int.mul_le_mul_of_nonneg_left hp.1 (by omega)
    have h2 : hours * S.price ≤ hours * 10000 := Int.mul_le_mul_of_nonneg_left hp.2 (by omega)
    omega
  obtain ⟨xp, hxp⟩ : ∃ x, hours * S.price = x := ⟨_, rfl⟩
  have hfin := hide (show ∀ q, partT S.terms before = q → 0 ≤ q ∧ q ≤ 1000 ∧ feeB S hours before = (xp * q + 999) / 1000 from fun q hq => by
    have := partT_in S.terms before hS.terms
    unfold feeB
    rw [hxp, hq] at *
    exact ⟨this.1, this.2, rfl⟩)
  rw [hxp] at hx
  have hw0 : IntKind.i64.wrap (hours * S.price) = xp := by rw [hxp, IntKind.wrap_i64]; omega
  have hdrop := hide (fun j (hj : j < S.terms.length) => partT_drop (before := before) hj)
  have hta := hide (fun (j : Nat) (hj : j < S.terms.length) => map_at termCells S.terms j hj)
  have hend := hide (show partT (S.terms.drop S.terms.length) before = 1000 by rw [List.drop_eq_nil_of_le (Nat.le_refl _)]; rfl)
  unfold schCells
  unfold maxLen at htl
  generalize S.learners.length = nl at *
  generalize S.cars.length = nc at *
  generalize S.terms.length = nt at *
  obtain ⟨w1, hw1⟩ : ∃ x, w.alloc (.cells #[.slice L nl cl, .slice C nc cc, .int .i64 S.price, .int .i64 S.excess, .int .i64 S.lo, .int .i64 S.hi, .slice T nt ct] 28) = x := ⟨_, rfl⟩
  have kb := hide (show Blk w1 w.heap.size 28 #[.slice L nl cl, .slice C nc cc, .int .i64 S.price, .int .i64 S.excess, .int .i64 S.lo, .int .i64 S.hi, .slice T nt ct] by rw [← hw1]; exact blkNew rfl)
  have hB1 := hide (show Below w.heap.size w w1 by rw [← hw1]; exact (Below.refl _ _).alloc (Nat.le_refl _) _)
  have c6 : w1.cell? ⟨w.heap.size, 6, none⟩ = some (.slice T nt ct) := kb.out.cell 6
  have c2 : w1.cell? ⟨w.heap.size, 2, none⟩ = some (.int .i64 S.price) := kb.out.cell 2
  have hwn : IntKind.i64.wrap ((nt : Int) - 1) = (nt : Int) - 1 := by rw [IntKind.wrap_i64]; omega
  replace hw1 := hide hw1
  clear hR hxp
  go_enter Try.func50, Try.ntmps50
  go_upto_region 1 with fail
  rw [hw1.out]
  go_wp2
  go_loopg [7, 8] nt (fun gg s7 s8 wr => ∃ (i : Nat) (z q : Int), z + 1 = i ∧ i ≤ nt ∧ i ≤ gg ∧ s8 = .int .i64 z ∧ s7 = .int .i64 q ∧ Hid (partT (S.terms.drop i) before = q) ∧ wr = w1)
  case atStart => exact ⟨nt, _, 1000, by omega, Nat.le_refl _, by omega, rfl, rfl, hend.out, rfl⟩
  case round =>
    clear hwn hend
    obtain ⟨i, z, q, hz, hi, hgg, rfl, rfl, hpt, rfl⟩ := hrel
    by_cases h0 : i = 0
    · subst h0
      obtain rfl : z = -1 := by omega
      obtain ⟨q0, q1, hfe⟩ := hfin.out q hpt.out
      have hm0 : 0 ≤ xp * q := Int.mul_nonneg (by omega) q0
      have hm1 : xp * q ≤ xp * 1000 := Int.mul_le_mul_of_nonneg_left q1 (by omega)
      obtain ⟨xq, hxq⟩ : ∃ x, xp * q = x := ⟨_, rfl⟩
      rw [hxq] at hm0 hm1 hfe
      replace hfe := hide hfe
      have hv1 : IntKind.i64.wrap (xp * q) = xq := by rw [hxq, IntKind.wrap_i64]; omega
      have hv2 : IntKind.i64.wrap (xq + 999) = xq + 999 := by rw [IntKind.wrap_i64]; omega
      have hv4 : (xq + 999).tdiv 1000 = (xq + 999) / 1000 := Int.tdiv_eq_ediv_of_nonneg (by omega)
      have hv5 : IntKind.i64.wrap ((xq + 999) / 1000) = (xq + 999) / 1000 := by rw [IntKind.wrap_i64]; omega
      clear hxq hm0 hm1 hpt
      go_wp2
      go_ret
      exact ⟨by rw [hfe.out]; rfl, hB1.out⟩
    · obtain ⟨k, rfl⟩ : ∃ k, i = k + 1 := ⟨i - 1, by omega⟩
      obtain rfl : z = (k : Int) := by omega
      have hkn : k < nt := by omega
      have hkz : (k : Int) < (nt : Int) := by omega
      have hk0 : (0 : Int) ≤ (k : Int) := by omega
      obtain ⟨b, off, y0, y1, rfl, hb, hy, d0, d1⟩ := (htn.out wr hB1.out).cells2 hkn
      rw [hta.out k hkn] at hy
      unfold termCells at hy
      simp only [List.cons.injEq, and_true] at hy
      obtain ⟨rfl, rfl⟩ := hy
      have hstep := hdrop.out k hkn
      obtain ⟨tb, h1⟩ : ∃ x, (S.terms[k]?.getD default).before = x := ⟨_, rfl⟩
      obtain ⟨tf, h2⟩ : ∃ x, (S.terms[k]?.getD default).fee = x := ⟨_, rfl⟩
      simp only [h1, h2] at hstep d0 d1
      clear h1 h2
      have hwk : IntKind.i64.wrap ((k : Int) - 1) = (k : Int) - 1 := by rw [IntKind.wrap_i64]; omega
      by_cases hle : tb ≤ before
      · have hnx := hide (show partT (S.terms.drop k) before = tf by rw [hstep, if_pos hle])
        clear hstep hpt c2
        go_wp2
        clear d0 d1
        go_roundg k
        case measure => omega
        case rel => exact ⟨k, _, tf, by omega, by omega, Nat.le_refl _, rfl, rfl, hnx.out, rfl⟩
      · have hnx := hide (show partT (S.terms.drop k) before = q by rw [hstep, if_neg hle]; exact hpt.out)
        clear hstep hpt c2
        go_wp2
        clear d0 d1
        go_roundg k
        case measure => omega
        case rel => exact ⟨k, _, q, by omega, by omega, Nat.le_refl _, rfl, rfl, hnx.out, rfl⟩
set_option maxRecDepth 100000 in
set_option maxHeartbeats 2000000 in
theorem FeeR_any (v : Value) (S : BSch) (hours before : Int) (w : World) (h : RdBSch w v S) :
    Calls Try.prog 19 #[v, .int .i64 hours, .int .i64 before] w fun e w' => e = .returned (.tuple #[.int .i64 (feeF S hours before).1, .int .i64 (feeF S hours before).2]) ∧ Below w.heap.size w w' := by
  have hC := hide (fun W (hb : Below w.heap.size w W) => CheckR_any v S W (h.below hb))
  have hF := hide (fun (hk : (checkB S).2.2 = 0) (hh : 1 ≤ hours ∧ hours ≤ 4) W (hb : Below w.heap.size w W) => feeR_any v S hours before W (h.below hb) (sch_ok hk) hh)
  obtain ⟨r, hr⟩ : ∃ r, feeF S hours before = r := ⟨_, rfl⟩
  rw [hr]
  unfold feeF at hr
  rw [inI_eq, inI_eq] at hr
  obtain ⟨r1, r2⟩ := r
  generalize checkB S = q at *
  obtain ⟨qa, qb, qc⟩ := q
  simp only at hr hC hF
  generalize feeB S hours before = fb at *
  obtain ⟨L, C, T, cl, cc, ct, rfl, -⟩ := h
  unfold schCells at *
  generalize S.learners.length = nl at *
  generalize S.cars.length = nc at *
  generalize S.terms.length = nt at *
  generalize S.price = pr at *
  generalize S.excess = ex at *
  generalize S.lo = lo at *
  generalize S.hi = hi at *
  obtain ⟨W, hW⟩ : ∃ y, w.alloc (.cells #[.slice L nl cl, .slice C nc cc, .int .i64 pr, .int .i64 ex, .int .i64 lo, .int .i64 hi, .slice T nt ct] 28) = y := ⟨_, rfl⟩
  have kb := hide (show Blk W w.heap.size 28 #[.slice L nl cl, .slice C nc cc, .int .i64 pr, .int .i64 ex, .int .i64 lo, .int .i64 hi, .slice T nt ct] by rw [← hW]; exact blkNew rfl)
  have hB := hide (show Below w.heap.size w W by rw [← hW]; exact (Below.refl _ _).alloc (Nat.le_refl _) _)
  have c0 : W.cell? ⟨w.heap.size, 0, none⟩ = some (.slice L nl cl) := kb.out.cell 0
  have c1 : W.cell? ⟨w.heap.size, 1, none⟩ = some (.slice C nc cc) := kb.out.cell 1
  have c2 : W.cell? ⟨w.heap.size, 2, none⟩ = some (.int .i64 pr) := kb.out.cell 2
  have c3 : W.cell? ⟨w.heap.size, 3, none⟩ = some (.int .i64 ex) := kb.out.cell 3
  have c4 : W.cell? ⟨w.heap.size, 4, none⟩ = some (.int .i64 lo) := kb.out.cell 4
  have c5 : W.cell? ⟨w.heap.size, 5, none⟩ = some (.int .i64 hi) := kb.out.cell 5
  have c6 : W.cell? ⟨w.heap.size, 6, none⟩ = some (.slice T nt ct) := kb.out.cell 6
  replace hW := hide hW
  have hC2 := hide (hC.out W hB.out)
  go_enter Try.func19, Try.ntmps19
  go_upto_region 1 with fail
  rw [hW.out]
  go_wp2_with fail
  refine hC2.out.mono ?_
  rintro e w2 ⟨rfl, hb⟩
  replace kb := hide (kb.out.below hb kb.out.lt)
  replace hB := hide (hB.out.trans (hb.mono hB.out.size))
  clear hb hC hC2 c0 c1 c2 c3 c4 c5 c6
  by_cases h1 : qc = 0
  · subst h1
    rw [if_neg (by simp)] at hr
    go_wp2_with fail
    refine (inRB hours 1 4 _).mono ?_
    rintro e w3 ⟨rfl, rfl⟩
    cases h2 : inB 1 4 hours with
    | false =>
      rw [h2, if_neg (by simp)] at hr
      cases hr
      go_wp2
      go_ret2
      exact ⟨rfl, hB.out⟩
    | true =>
      rw [h2] at hr
      have hh := hide (inB_iff.1 h2)
      go_wp2_with fail
      refine (inRB before 0 4800 _).mono ?_
      rintro e w3 ⟨rfl, rfl⟩
      cases h3 : inB 0 4800 before with
      | false =>
        rw [h3, if_neg (by simp)] at hr
        cases hr
        go_wp2
        go_ret2
        exact ⟨rfl, hB.out⟩
      | true =>
        rw [h3, if_pos (by simp)] at hr
        cases hr
        have c0 : w2.cell? ⟨w.heap.size, 0, none⟩ = some (.slice L nl cl) := kb.out.cell 0
        have c1 : w2.cell? ⟨w.heap.size, 1, none⟩ = some (.slice C nc cc) := kb.out.cell 1
        have c2 : w2.cell? ⟨w.heap.size, 2, none⟩ = some (.int .i64 pr) := kb.out.cell 2
        have c3 : w2.cell? ⟨w.heap.size, 3, none⟩ = some (.int .i64 ex) := kb.out.cell 3
        have c4 : w2.cell? ⟨w.heap.size, 4, none⟩ = some (.int .i64 lo) := kb.out.cell 4
        have c5 : w2.cell? ⟨w.heap.size, 5, none⟩ = some (.int .i64 hi) := kb.out.cell 5
        have c6 : w2.cell? ⟨w.heap.size, 6, none⟩ = some (.slice T nt ct) := kb.out.cell 6
        have hF2 := hide (hF.out trivial hh.out w2 hB.out)
        clear h2 h3 hF
        go_wp2_with fail
        refine hF2.out.mono ?_
        rintro e w5 ⟨rfl, hb⟩
        have hB2 := hide (hB.out.trans (hb.mono hB.out.size))
        clear hb c0 c1 c2 c3 c4 c5 c6
        go_wp2
        go_ret2
        exact ⟨rfl, hB2.out⟩
  · obtain ⟨rfl, rfl⟩ : 0 = r1 ∧ qc = r2 := by rw [if_pos h1] at hr; cases hr; exact ⟨rfl, rfl⟩
    clear hr
    have b0 : (qc == 0) = false := by rw [beq_eq_false_iff_ne]; exact h1
    have b1 : (qc != 0) = true := by rw [bne_iff_ne]; exact h1
    replace h1 := hide h1
    go_wp2
    go_ret2
    exact ⟨rfl, hB.out⟩
end Go.Proofs.Ytkmhldjebopljaa
