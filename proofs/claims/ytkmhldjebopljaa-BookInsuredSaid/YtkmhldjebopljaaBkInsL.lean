/-
  The law BookInsured: who pays a crash (made by mklaw.py).
-/
import Derived.Test.YtkmhldjebopljaaQb
namespace Go.Proofs.Ytkmhldjebopljaa
open Go.RowKit RG

theorem errs_at2 {S : BSch} {es : List BEv} (h : runE S es = 0) {j : Nat} (hj : j < es.length) : (runR S es).1[j]?.getD 0 = errAt S es j := by
  rw [(runR_er h).1, er_at S es hj (Nat.le_refl _)]; rfl
set_option maxRecDepth 100000 in
set_option maxHeartbeats 8000000 in
theorem BookInsured_any (v u : Value) (S : BSch) (es : List BEv) (w : World) (h : RdBSch w v S) (hu : IsRow 11 (es.map evCells) u w) :
    Calls Try.prog 13 #[v, u] w fun e w' => e = .returned (.bool true) ∧ Below w.heap.size w w' := by
  have hRun := hide (fun W (hb : Below w.heap.size w W) => Run_k v u S es W (h.below hb) (hu.below hb))
  have hPst := hide (fun W (hb : Below w.heap.size w W) => Postings_k v u S es W (h.below hb) (hu.below hb))
  have hV := hide (fun W (hb : Below w.heap.size w W) => valid_any v S W (h.below hb))
  have hSc := hide (fun W (hb : Below w.heap.size w W) => h.below hb)
  have huW := hide (fun W (hb : Below w.heap.size w W) => hu.below hb)
  obtain ⟨L, C, T, cl, cc, ct, rfl, hR⟩ := h
  have hRW := hide (fun W (hb : Below w.heap.size w W) => hR.below hb)
  clear hR
  obtain ⟨A, ce, rfl, hce, hcm⟩ := evRow_len hu
  have hEW := hide (fun W (hb : Below w.heap.size w W) => (ev_read hu).below hb)
  clear hu
  obtain ⟨W, hW⟩ : ∃ y, w.alloc (.cells (schCells L C T cl cc ct S) 28) = y := ⟨_, rfl⟩
  have kb := hide (show Blk W w.heap.size 28 (schCells L C T cl cc ct S) by rw [← hW]; exact blkNew rfl)
  have hB := hide (show Below w.heap.size w W by rw [← hW]; exact (Below.refl _ _).alloc (Nat.le_refl _) _)
  replace hW := hide hW
  unfold schCells at *
  unfold maxLen at hcm
  obtain ⟨c0, c1, c2, c3, c4, c5, c6⟩ := sch_cells (w := W) (p := w.heap.size) (S := S) kb.out
  go_enter Try.func13, Try.ntmps13
  go_upto_region 1 with fail
  rw [hW.out]
  go_wp2_with fail
  refine (hRun.out _ hB.out).mono ?_
  rintro e w1 ⟨⟨v1, v2, rfl, he, hx⟩, hb⟩
  have heW := hide (fun W' (hb : Below w1.heap.size w1 W') => he.below hb)
  have hxW := hide (fun W' (hb : Below w1.heap.size w1 W') => hx.below hb)
  obtain ⟨Ae, ca, rfl, -, hca⟩ := he
  obtain ⟨A0, q0, A1, q1, A2, q2, A3, q3, rfl, hl, hk, hs, ha⟩ := hx.parts
  have hlW := hide (fun W' (hb : Below w1.heap.size w1 W') => hl.below hb)
  have hkW := hide (fun W' (hb : Below w1.heap.size w1 W') => hk.below hb)
  have hsW := hide (fun W' (hb : Below w1.heap.size w1 W') => hs.below hb)
  have haW := hide (fun W' (hb : Below w1.heap.size w1 W') => ha.below hb)
  clear hl hk hs ha hx
  clear c0 c1 c2 c3 c4 c5 c6
  replace kb := hide (kb.out.below hb kb.out.lt)
  replace hB := hide (hB.out.trans (hb.mono hB.out.size))
  clear hb hRun
  obtain ⟨W2, hW2⟩ : ∃ y, w1.alloc (.cells #[.slice A0 (runR S es).2.les.length q0, .slice A1 (runR S es).2.km.length q1, .slice A2 (runR S es).2.since.length q2, .slice A3 (runR S es).2.acc.length q3] 42) = y := ⟨_, rfl⟩
  have hb12 := hide (show Below w1.heap.size w1 W2 by rw [← hW2]; exact (Below.refl _ _).alloc (Nat.le_refl _) _)
  have kx := hide (show Blk W2 w1.heap.size 42 #[.slice A0 (runR S es).2.les.length q0, .slice A1 (runR S es).2.km.length q1, .slice A2 (runR S es).2.since.length q2, .slice A3 (runR S es).2.acc.length q3] by rw [← hW2]; exact blkNew rfl)
  replace kb := hide (kb.out.below hb12.out kb.out.lt)
  replace hB := hide (hB.out.trans (hb12.out.mono hB.out.size))
  replace hW2 := hide hW2
  obtain ⟨c0, c1, c2, c3, c4, c5, c6⟩ := sch_cells (w := W2) (p := w.heap.size) (S := S) kb.out
  go_upto_region 2 with fail
  rw [hW2.out]
  go_wp2_with fail
  refine (hPst.out W2 hB.out).mono ?_
  rintro e w3 ⟨⟨v3, rfl, hp⟩, hb⟩
  have hpW := hide (fun W' (hb : Below w3.heap.size w3 W') => hp.below hb)
  obtain ⟨Ap, cp, rfl, -, -, -⟩ := hp
  rw [List.length_map] at hpW ⊢
  replace kb := hide (kb.out.below hb kb.out.lt)
  replace kx := hide (kx.out.below hb kx.out.lt)
  replace hB := hide (hB.out.trans (hb.mono hB.out.size))
  have hb13 := hide (hb12.out.trans (hb.mono hb12.out.size))
  clear hb hPst hb12 c0 c1 c2 c3 c4 c5 c6
  by_cases hq : runE S es = 0
  · have ha := after_of hq
    have hea := hide (fun (j : Nat) (hj : j < es.length) => errs_at2 hq hj)
    have hins := hide (fun (i : Nat) (hi : i < es.length) => ins_all hq hi)
    have hpos := hide (fun p (hp : p ∈ (runR S es).2.pst) => (ha.ok.pst p hp).1.2.2.2)
    have hpl := ha.gd.lim.pst
    have hex := (sch_ok ha.sch).excess
    have hnl := ha.nl
    have hfew := ha.few
    rw [hq]
    have hvt := hide (fun W (hb : Below w.heap.size w W) => show Calls Try.prog 33 #[.agg #[.slice L S.learners.length cl, .slice C S.cars.length cc, .int .i64 S.price, .int .i64 S.excess, .int .i64 S.lo, .int .i64 S.hi, .slice T S.terms.length ct]] W fun e w' => e = .returned (.bool true) ∧ Below W.heap.size W w' from by
      have := hV.out W hb
      rwa [ha.sch, show decide ((0 : Int) = 0) = true from rfl] at this)
    have hlen := hide ha.len
    replace ha := hide ha
    rw [hlen.out] at heW ⊢
    clear hV
    obtain ⟨c0, c1, c2, c3, c4, c5, c6⟩ := sch_cells (w := w3) (p := w.heap.size) (S := S) kb.out
    go_wp2_with fail
    refine (hvt.out w3 hB.out).mono ?_
    rintro e w4 ⟨rfl, hb⟩
    have hb4 := hide hb
    replace kb := hide (kb.out.below hb kb.out.lt)
    replace kx := hide (kx.out.below hb kx.out.lt)
    replace hB := hide (hB.out.trans (hb.mono hB.out.size))
    clear hb hvt
    have hb14 := hide (hb13.out.trans (hb4.out.mono hb13.out.size))
    clear c0 c1 c2 c3 c4 c5 c6 hb13
    obtain ⟨c0, c1, c2, c3, c4, c5, c6⟩ := sch_cells (w := w4) (p := w.heap.size) (S := S) kb.out
    clear c1 c2 c4 c5 c6
    generalize hps : (runR S es).2.pst = ps at *
    have hn1 : IntKind.i64.wrap ((S.learners.length : Int) + 1) = (S.learners.length : Int) + 1 := by rw [IntKind.wrap_i64]; omega
    have hn2 : IntKind.i64.wrap ((S.learners.length : Int) + 2) = (S.learners.length : Int) + 2 := by rw [IntKind.wrap_i64]; omega
    go_upto_region 9 with fail
    go_loopg [11, 12, 13, 14] es.length (fun gg s11 _ _ _ wr => ∃ i : Nat, i ≤ es.length ∧ es.length ≤ gg + i ∧ s11 = .int .i64 i ∧ wr = w4)
    case atStart => exact ⟨0, Nat.zero_le _, by omega, rfl, rfl⟩
    case round =>
      obtain ⟨i, hi, hgg, rfl, rfl⟩ := hrel
      by_cases hlt : i < es.length
      · have hltz : (i : Int) < (es.length : Int) := by omega
        have hi0 : (0 : Int) ≤ (i : Int) := by omega
        obtain ⟨be, oe, rfl, hbe, d0, -, -, -, -, -, -, -, -, -, d10⟩ := ev_row (hEW.out _ hB.out) hlt
        obtain ⟨ge, oe2, rfl, hge, m0⟩ := int_read (heW.out _ hb14.out) (by rw [hlen.out]; exact hlt)
        rw [hea.out i hlt] at m0
        have hin := hide (hins.out i hlt)
        generalize hxe : es[i]?.getD default = x at *
        replace hxe := hide hxe
        obtain ⟨xkind, xat, xlearner, xcar, xbooking, xstart, xhours, xday, xweather, xkm, xcents⟩ := x
        simp only at *
        generalize errAt S es i = er at *
        by_cases h5 : xkind = 5
        · subst h5
          by_cases h0 : er = 0
          · subst h0
            obtain ⟨⟨hwho, hown, hall⟩, hc0, hc1⟩ := hin.out rfl rfl
            replace hwho := hide hwho
            have hop := hide (fun k => own_part (ps := ps) hpos.out S.learners.length i k)
            have hrp := hide (fun k => rest_part (ps := ps) hpos.out S.learners.length i k)
            obtain ⟨om, hom⟩ : ∃ z, ownP S.learners.length i ps = z := ⟨_, rfl⟩
            obtain ⟨rm, hrm⟩ : ∃ z, restP S.learners.length i ps = z := ⟨_, rfl⟩
            have hr0 := (hrp.out 0)
            rw [hom] at hown hall hop
            rw [hrm] at hall hrp hr0
            clear hin
            go_upto_region 14 with fail
            go_loopg [12, 13, 14] ps.length (fun gg s12 s13 s14 wv => ∃ k : Nat, k ≤ ps.length ∧ ps.length ≤ gg + k ∧ s12 = .int .i64 (ownP S.learners.length i (ps.take k)) ∧ s13 = .int .i64 (restP S.learners.length i (ps.take k)) ∧ s14 = .int .i64 k ∧ wv = wr)
            case atStart => exact ⟨0, Nat.zero_le _, by omega, rfl, rfl, rfl, rfl⟩
            case round =>
              obtain ⟨k, hk, hgk, rfl, rfl, rfl, rfl⟩ := hrel
              by_cases hkl : k < ps.length
              · have hklz : (k : Int) < (ps.length : Int) := by omega
                have hk0 : (0 : Int) ≤ (k : Int) := by omega
                obtain ⟨gp, op, p, rfl, hgp, hpk, p0, p1, p2, p3⟩ := pst_read (hpW.out _ hb4.out) hkl
                have hmem : p ∈ ps := List.mem_of_getElem? hpk
                have ho1 := own_step hpk S.learners.length i
                have hr1 := rest_step hpk S.learners.length i
                have hob := hop.out k
                have hob1 := hop.out (k + 1)
                have hrb := hrp.out k
                have hrb1 := hrp.out (k + 1)
                have hwh := hwho.out p hmem
                generalize ownP S.learners.length i (ps.take k) = ok at *
                obtain ⟨ok1, hok1⟩ : ∃ z, ownP S.learners.length i (ps.take (k + 1)) = z := ⟨_, rfl⟩
                obtain ⟨rk1, hrk1⟩ : ∃ z, restP S.learners.length i (ps.take (k + 1)) = z := ⟨_, rfl⟩
                rw [hok1] at ho1 hob1
                rw [hrk1] at hr1 hrb1
                replace hok1 := hide hok1
                replace hrk1 := hide hrk1
                generalize restP S.learners.length i (ps.take k) = rk at *
                obtain ⟨pe, pf, pt, pc⟩ := p
                simp only at *
                have hro : 0 ≤ rm := by omega
                by_cases he : pe = (i : Int)
                · subst he
                  obtain ⟨rfl, hfr⟩ := hwh rfl
                  by_cases hf : pf = (S.learners.length : Int)
                  · subst hf
                    rw [if_pos ⟨rfl, rfl⟩] at ho1
                    rw [if_neg (fun h => h.2 rfl), Int.add_zero] at hr1
                    subst ho1
                    subst hr1
                    have hw1 : IntKind.i64.wrap (ok + pc) = ok + pc := by rw [IntKind.wrap_i64]; omega
                    have hne2 : ((S.learners.length : Int) != (S.learners.length : Int) + 2) = true := bne_iff_ne.2 (by omega)
                    clear hwh hfr hob hob1 hrb hrb1
                    go_wp2
                    go_roundg (ps.length - (k + 1))
                    case measure => omega
                    case rel => exact ⟨k + 1, by omega, by omega, by rw [hok1.out], by rw [hrk1.out], by go_num, rfl⟩
                  · obtain rfl : pf = (S.learners.length : Int) + 2 := by rcases hfr with h | h; exact absurd h hf; exact h
                    rw [if_neg (fun h => hf h.2), Int.add_zero] at ho1
                    rw [if_pos ⟨rfl, hf⟩] at hr1
                    subst ho1
                    subst hr1
                    have hw1 : IntKind.i64.wrap (rk + pc) = rk + pc := by rw [IntKind.wrap_i64]; omega
                    have hne1 : ((S.learners.length : Int) + 2 != (S.learners.length : Int)) = true := bne_iff_ne.2 hf
                    have hne2 : ((S.learners.length : Int) + 2 == (S.learners.length : Int)) = false := beq_eq_false_iff_ne.2 hf
                    clear hwh hfr hob hob1 hrb hrb1
                    replace hf := hide hf
                    go_wp2
                    go_roundg (ps.length - (k + 1))
                    case measure => omega
                    case rel => exact ⟨k + 1, by omega, by omega, by rw [hok1.out], by rw [hrk1.out], by go_num, rfl⟩
                · have b1 : (pe != (i : Int)) = true := bne_iff_ne.2 he
                  rw [if_neg (fun h => he h.1), Int.add_zero] at ho1 hr1
                  subst ho1
                  subst hr1
                  replace he := hide he
                  clear hwh hob hob1 hrb hrb1
                  go_wp2
                  go_roundg (ps.length - (k + 1))
                  case measure => omega
                  case rel => exact ⟨k + 1, by omega, by omega, by rw [hok1.out], by rw [hrk1.out], by go_num, rfl⟩
              · have hklz : ¬ (k : Int) < (ps.length : Int) := by omega
                obtain rfl : k = ps.length := by omega
                have e1 := hop.out ps.length
                rw [List.take_length] at *
                rw [hom, hrm]
                have b1 : decide (S.excess < om) = false := decide_eq_false (by omega)
                have hw1 : IntKind.i64.wrap (om + rm) = om + rm := by rw [IntKind.wrap_i64]; omega
                have b2 : (om + rm != xcents) = false := by rw [hall]; simp
                clear hall hown e1
                go_wp2
                go_roundg (es.length - (i + 1))
                case measure => omega
                case rel => exact ⟨i + 1, by omega, by omega, by go_num, rfl⟩
          · have b0 : (er != 0) = true := bne_iff_ne.2 h0
            replace h0 := hide h0
            clear hin
            go_wp2
            go_roundg (es.length - (i + 1))
            case measure => omega
            case rel => exact ⟨i + 1, by omega, by omega, by go_num, rfl⟩
        · have b0 : (xkind != 5) = true := bne_iff_ne.2 h5
          replace h5 := hide h5
          clear hin
          go_wp2
          go_roundg (es.length - (i + 1))
          case measure => omega
          case rel => exact ⟨i + 1, by omega, by omega, by go_num, rfl⟩
      · have hltz : ¬ (i : Int) < (es.length : Int) := by omega
        go_wp2_with fail
        refine (AwakeB _).mono ?_
        rintro e w5 ⟨rfl, hb⟩
        replace hB := hide (hB.out.trans (hb.mono hB.out.size))
        clear hb
        go_wp2
        go_ret
        exact ⟨rfl, hB.out⟩
  · have b0 : (runE S es != 0) = true := bne_iff_ne.2 hq
    generalize runE S es = qe at *
    generalize runR S es = qr at *
    replace hq := hide hq
    clear hV hSc huW heW hxW hlW hkW hsW haW hpW
    go_wp2_with fail
    refine (AwakeB _).mono ?_
    rintro e w5 ⟨rfl, hb⟩
    replace hB := hide (hB.out.trans (hb.mono hB.out.size))
    clear hb
    go_wp2
    go_ret
    exact ⟨rfl, hB.out⟩
end Go.Proofs.Ytkmhldjebopljaa
