import Derived.Test.YtkmhldjebopljaaOw
import Derived.Test.YtkmhldjebopljaaOa
/-
  The reference's Name.
-/
namespace Go.Proofs.Ytkmhldjebopljaa
open Go.RowKit RG
theorem in_any (x lo hi : Int) (w : World) : Calls Try.prog 69 #[.int .i64 x, .int .i64 lo, .int .i64 hi] w fun e w' => e = .returned (.bool (inB lo hi x)) ∧ w = w' := by
  by_cases h1 : lo ≤ x
  · by_cases h2 : x ≤ hi
    · go_enter Try.func69, Try.ntmps69
      go_wp2
      go_ret
      exact ⟨ret_bool (by simp [inB, h1, h2]), rfl⟩
    · have h2' : hi < x := by omega
      go_enter Try.func69, Try.ntmps69
      go_wp2
      go_ret
      exact ⟨ret_bool (by simp [inB, h2]), rfl⟩
  · have h1' : x < lo := by omega
    go_enter Try.func69, Try.ntmps69
    go_wp2
    go_ret
    exact ⟨ret_bool (by simp [inB]; omega), rfl⟩

set_option maxRecDepth 100000 in
set_option maxHeartbeats 4000000 in
theorem NameR_any (s : ByteArray) (w : World) (hs : s.size ≤ maxLen) :
    Calls Try.prog 45 #[.string s] w fun e w' => e = .returned (.bool (nameB s)) ∧ w = w' := by
  unfold maxLen at hs
  by_cases h1 : 1 ≤ s.size ∧ s.size ≤ 16
  · have hin : inB 1 16 (s.size : Int) = true := inB_iff.2 (by omega)
    obtain ⟨h10, h11⟩ := h1
    have hno := fun k h hb => name_no s k h hb
    have hb0 : s[0].toNat < 256 := UInt8.toNat_lt _
    have hx : ∀ k (hk : k < s.size), inB 97 122 (s[k].toNat : Int) = decide (isLet s[k]) := by
      intro k hk; rw [Bool.eq_iff_iff, inB_iff, decide_eq_true_iff]; unfold isLet; omega
    have hy : ∀ k (hk : k < s.size), inB 48 57 (s[k].toNat : Int) = decide (isDig s[k]) := by
      intro k hk; rw [Bool.eq_iff_iff, inB_iff, decide_eq_true_iff]; unfold isDig; omega
    replace hno := hide hno
    replace hx := hide hx
    replace hy := hide hy
    go_enter Try.func45, Try.ntmps45
    go_wp2_with fail
    refine (in_any (s.size : Int) 1 16 _).mono ?_
    rintro e w' ⟨rfl, rfl⟩
    rw [hin]
    go_wp2_with fail
    refine (in_any (s[0].toNat : Int) 97 122 _).mono ?_
    rintro e w' ⟨rfl, rfl⟩
    rw [hx.out 0 h10]
    by_cases hl : isLet s[0]
    · have hl' : decide (isLet s[0]) = true := by simpa using hl
      rw [hl']
      have h00 : okAt 0 (s.data.toList[0]?.getD 0) := by rw [byte_at s 0 h10]; exact .inl hl
      replace h00 := hide h00
      clear hl hl' hb0
      go_wp2
      go_loop [3] (fun i => ∃ k : Nat, k ≤ s.size ∧ i = .int .i64 k ∧ Hid (∀ j, j < k → okAt j (s.data.toList[j]?.getD 0))) (fun i => s.size - (intOf i).toNat)
      case atStart => exact ⟨0, Nat.zero_le _, rfl, fun j hj => absurd hj (by omega)⟩
      case round =>
        obtain ⟨k, hk, rfl, hok⟩ := hrel
        by_cases hlt : k < s.size
        · have hb256 : s[k].toNat < 256 := UInt8.toNat_lt _
          have hbk := byte_at s k hlt
          have hst : okAt k s[k] → ∀ j, j < k + 1 → okAt j (s.data.toList[j]?.getD 0) := fun hb j hj => by
            by_cases e : j = k
            · subst e; rw [hbk]; exact hb
            · exact hok.out j (by omega)
          have hk0 : k = 0 → isLet s[k] ∨ ¬ isDig s[k] := by
            rintro rfl
            have := h00.out
            rw [hbk] at this
            rcases this with h | h
            · exact .inl h
            · exact absurd rfl h.2
          replace hbk := hide hbk
          replace hst := hide hst
          replace hk0 := hide hk0
          have hx' := hx.out k hlt
          have hy' := hy.out k hlt
          have hno' := hno.out k hlt
          by_cases c1 : isLet s[k]
          · have d1 : inB 97 122 (s[k].toNat : Int) = true := by rw [hx']; simpa using c1
            have hn := hide (hst.out (.inl c1))
            clear hx' hy' hno' c1
            go_wp2_with fail
            refine (in_any (s[k].toNat : Int) 97 122 _).mono ?_
            rintro e w' ⟨rfl, rfl⟩
            rw [d1]
            go_wp2
            go_round
            case rel => exact ⟨k + 1, by omega, by go_num, hn⟩
            case measure => simp [intOf]; omega
          · have d1 : inB 97 122 (s[k].toNat : Int) = false := by rw [hx']; simpa using c1
            by_cases c2 : isDig s[k]
            · have d2 : inB 48 57 (s[k].toNat : Int) = true := by rw [hy']; simpa using c2
              have hn := hide (hst.out (.inr ⟨c2, fun e => by rcases hk0.out e with h | h; exact c1 h; exact h c2⟩))
              clear hx' hy' hno' c1 c2
              go_wp2_with fail
              refine (in_any (s[k].toNat : Int) 97 122 _).mono ?_
              rintro e w' ⟨rfl, rfl⟩
              rw [d1]
              go_wp2_with fail
              refine (in_any (s[k].toNat : Int) 48 57 _).mono ?_
              rintro e w' ⟨rfl, rfl⟩
              rw [d2]
              go_wp2
              go_round
              case rel => exact ⟨k + 1, by omega, by go_num, hn⟩
              case measure => simp [intOf]; omega
            · have d2 : inB 48 57 (s[k].toNat : Int) = false := by rw [hy']; simpa using c2
              have hf := hide (hno' (by rintro (h | h); exact c1 h; exact c2 h.1))
              clear hx' hy' hno' c1 c2
              go_wp2_with fail
              refine (in_any (s[k].toNat : Int) 97 122 _).mono ?_
              rintro e w' ⟨rfl, rfl⟩
              rw [d1]
              go_wp2_with fail
              refine (in_any (s[k].toNat : Int) 48 57 _).mono ?_
              rintro e w' ⟨rfl, rfl⟩
              rw [d2]
              go_wp2
              go_ret
              exact ⟨ret_bool hf.out.symm, rfl⟩
        · obtain rfl : k = s.size := by omega
          have hf : nameB s = true := by
            unfold nameB
            rw [decide_eq_true_iff]
            refine ⟨by simpa using (show 1 ≤ s.size ∧ s.size ≤ 16 by omega), fun j hj => hok.out j (by simpa using hj)⟩
          replace hf := hide hf
          go_wp2
          go_ret
          exact ⟨ret_bool hf.out.symm, rfl⟩
    · have hl' : decide (isLet s[0]) = false := by simpa using hl
      rw [hl']
      have hf := hide (hno.out 0 h10 (by rintro (h | h); exact hl h; exact h.2 rfl))
      clear hl hl' hb0
      go_wp2
      go_ret
      exact ⟨ret_bool hf.out.symm, rfl⟩
  · have hin : inB 1 16 (s.size : Int) = false := inB_no (by omega)
    have hno : nameB s = false := by
      unfold nameB
      rw [decide_eq_false_iff_not]
      rintro ⟨h2, _⟩
      have h3 : s.data.toList.length = s.size := by simp
      omega
    replace hno := hide hno
    go_enter Try.func45, Try.ntmps45
    go_wp2_with fail
    refine (in_any (s.size : Int) 1 16 _).mono ?_
    rintro e w' ⟨rfl, rfl⟩
    rw [hin]
    go_wp2
    go_ret
    exact ⟨ret_bool hno.out.symm, rfl⟩
end Go.Proofs.Ytkmhldjebopljaa

/-
  The reference's car.
-/
namespace Go.Proofs.Ytkmhldjebopljaa
open Go.RowKit RG

theorem inI_eq (lo hi x : Int) : inI lo hi x = inB lo hi x := by rw [Bool.eq_iff_iff, inI_iff, inB_iff]
theorem inRB (x lo hi : Int) (w : World) : Calls Try.prog 44 #[.int .i64 x, .int .i64 lo, .int .i64 hi] w fun e w' => e = .returned (.bool (inB lo hi x)) ∧ w = w' := by
  rw [← inI_eq]; exact inRef_any x lo hi w
set_option maxRecDepth 100000 in
set_option maxHeartbeats 2000000 in
theorem carR_any (L C T : Option Addr) (cl cc ct i : Nat) (S : BSch) (w : World) (h : RdRow w C S.cars.length 4 (S.cars.map carCells)) (hm : S.cars.length ≤ maxLen) (hnm : ∀ s ∈ S.cars, s.name.size ≤ maxLen) (hi : i < S.cars.length) :
    Calls Try.prog 46 #[.agg (schCells L C T cl cc ct S), .int .i64 i] w fun e w' => e = .returned (.int .i64 (carE S.cars i (S.cars[i]?.getD default))) ∧ Below w.heap.size w w' := by
  obtain ⟨r, hr⟩ : ∃ r, carE S.cars i (S.cars[i]?.getD default) = r := ⟨_, rfl⟩
  rw [hr]
  unfold carE at hr
  unfold maxLen at hm
  have hAB := hide (fun W (hb : Below w.heap.size w W) => h.below hb)
  have hat := hide (fun j (hj : j < S.cars.length) => map_at carCells S.cars j hj)
  have hsz : (S.cars[i]?.getD default).name.size ≤ maxLen := by rw [List.getElem?_eq_getElem hi]; exact hnm _ (List.getElem_mem _)
  obtain ⟨b, off, y0, y1, y2, y3, rfl, hb, hy, d0, d1, d2, d3⟩ := h.cells4 hi
  rw [hat.out i hi] at hy
  unfold carCells at hy
  simp only [List.cons.injEq, and_true] at hy
  obtain ⟨rfl, rfl, rfl, rfl⟩ := hy
  obtain ⟨nm, hps⟩ : ∃ x, (S.cars[i]?.getD default).name = x := ⟨_, rfl⟩
  simp only [hps] at hsz d0
  have hnF : ∀ q, (if nameB nm = false then (6 : Int) else if anyIdx (fun j => eqS (S.cars[j]?.getD default).name nm) i = true then 5 else 0) = q → nmErr (fun j => (S.cars[j]?.getD default).name) i = q := by
    intro q hq
    unfold nmErr
    simp only [hps]
    exact hq
  obtain ⟨km, hp1⟩ : ∃ x, (S.cars[i]?.getD default).km = x := ⟨_, rfl⟩
  obtain ⟨ev, hp2⟩ : ∃ x, (S.cars[i]?.getD default).every = x := ⟨_, rfl⟩
  obtain ⟨nv, hp3⟩ : ∃ x, (S.cars[i]?.getD default).never = x := ⟨_, rfl⟩
  simp only [hp1, hp2, hp3] at hr d1 d2 d3
  have hN := hide (fun W => NameR_any nm W hsz)
  clear hps hsz hp1 hp2 hp3
  obtain ⟨W0, hW0⟩ : ∃ x, w.alloc (.cells (schCells L (some ⟨b, off, none⟩) T cl cc ct S) 28) = x := ⟨_, rfl⟩
  have hB0 := hide (show Below w.heap.size w W0 by rw [← hW0]; exact (Below.refl _ _).alloc (Nat.le_refl _) _)
  have hs0 : W0.heap.size = w.heap.size + 1 := by rw [← hW0]; simp
  have k0 := hide (show Blk W0 w.heap.size 28 (schCells L (some ⟨b, off, none⟩) T cl cc ct S) by rw [← hW0]; exact blkNew rfl)
  have c1 : W0.cell? ⟨w.heap.size, 1, none⟩ = some (.slice (some ⟨b, off, none⟩) S.cars.length cc) := k0.out.cell 1
  replace d0 := (cellB hB0.out hb).trans d0
  replace d1 := (cellB hB0.out hb).trans d1
  replace d2 := (cellB hB0.out hb).trans d2
  replace d3 := (cellB hB0.out hb).trans d3
  obtain ⟨W1, hW1⟩ : ∃ x, W0.alloc (.cells #[.string nm, .int .i64 km, .int .i64 ev, .int .i64 nv] 67) = x := ⟨_, rfl⟩
  have hB1 := hide (show Below w.heap.size w W1 by rw [← hW1]; exact hB0.out.alloc hB0.out.size _)
  have k01 := hide (show Blk W1 w.heap.size 28 (schCells L (some ⟨b, off, none⟩) T cl cc ct S) by rw [← hW1]; exact k0.out.alloc _)
  have kc := hide (show Blk W1 W0.heap.size 67 #[.string nm, .int .i64 km, .int .i64 ev, .int .i64 nv] by rw [← hW1]; exact blkNew rfl)
  have hEnd := hide (show nameB nm = true → (∀ j, j < i → eqS (S.cars[j]?.getD default).name nm = false) → (if inB 0 1000000 km = true ∧ inB 1 1000000 ev = true ∧ inB 0 255 nv = true then (0 : Int) else 7) = r from by
    intro h1 h2
    have h3 := hnF 0 (by
      rw [if_neg (by rw [h1]; simp), if_neg (fun hq => by
        obtain ⟨j, hj, hq⟩ := anyIdx_iff.1 hq
        rw [h2 j hj] at hq
        cases hq)])
    rw [h3, if_pos rfl] at hr
    exact hr)
  have hHit := hide (show nameB nm = true → ∀ j, j < i → eqS (S.cars[j]?.getD default).name nm = true → 5 = r from by
    intro h1 j hj hq
    have h3 := hnF 5 (by rw [if_neg (by rw [h1]; simp), if_pos (anyIdx_iff.2 ⟨j, hj, hq⟩)])
    rw [h3, if_neg (by decide)] at hr
    exact hr)
  have hNo := hide (show nameB nm = false → 6 = r from by
    intro h1
    have h3 := hnF 6 (by rw [if_pos h1])
    rw [h3, if_neg (by decide)] at hr
    exact hr)
  clear hnF
  clear hr
  unfold schCells at *
  generalize hnn : S.cars.length = n at *
  replace hW0 := hide hW0
  replace hW1 := hide hW1
  replace hs0 := hide hs0
  replace hnm := hide hnm
  replace hnn := hide hnn
  clear h
  have hiz : (i : Int) < (n : Int) := by omega
  go_enter Try.func46, Try.ntmps46
  go_upto_region 1 with fail
  rw [hW0.out]
  go_upto_region 2 with fail
  rw [hW1.out]
  clear c1 d0 d1 d2 d3
  have e0 : W1.cell? ⟨W0.heap.size, 0, none⟩ = some (.string nm) := kc.out.cell 0
  go_wp2_with fail
  refine (hN.out _).mono ?_
  rintro e w2 ⟨rfl, rfl⟩
  cases h1 : nameB nm with
  | false =>
    have hrr := hNo.out h1
    subst hrr
    go_wp2
    go_ret
    exact ⟨rfl, hB1.out⟩
  | true =>
    replace hEnd := hide (hEnd.out h1)
    replace hHit := hide (hHit.out h1)
    clear h1 hNo e0
    go_wp2
    go_loopg [6] i (fun gg s6 wr => ∃ k : Nat, k ≤ i ∧ i ≤ gg + k ∧ s6 = .int .i64 k ∧ Hid (Below W1.heap.size W1 wr) ∧ Hid (∀ j, j < k → eqS (S.cars[j]?.getD default).name nm = false))
    case atStart => exact ⟨0, Nat.zero_le _, by omega, rfl, Below.refl _ _, fun j hj => absurd hj (by omega)⟩
    case round =>
      obtain ⟨k, hk, hgg, rfl, hBr, hna⟩ := hrel
      have hBw := hide (hB1.out.trans (hBr.out.mono hB1.out.size))
      have f1 : wr.cell? ⟨w.heap.size, 1, none⟩ = some (.slice (some ⟨b, off, none⟩) n cc) := (k01.out.below hBr.out k01.out.lt).cell 1
      have kcr := hide (kc.out.below hBr.out kc.out.lt)
      by_cases hlt : k < i
      · have hltz : (k : Int) < (i : Int) := by omega
        have hkn : k < n := by omega
        have hknz : (k : Int) < (n : Int) := by omega
        have hk0 : (0 : Int) ≤ (k : Int) := by omega
        obtain ⟨b', off', y0, y1, y2, y3, hbo, hb', hy, d0, d1, d2, d3⟩ := (hAB.out wr hBw.out).cells4 hkn
        cases hbo
        rw [hat.out k hkn] at hy
        unfold carCells at hy
        simp only [List.cons.injEq, and_true] at hy
        obtain ⟨rfl, -, -, -⟩ := hy
        have e0 : wr.cell? ⟨W0.heap.size, 0, none⟩ = some (.string nm) := kcr.out.cell 0
        have hh := hide (hHit.out k hlt)
        have hst := hide (show eqS (S.cars[k]?.getD default).name nm = false → ∀ j, j < k + 1 → eqS (S.cars[j]?.getD default).name nm = false from fun h0 j hj => by
          rcases Nat.lt_succ_iff_lt_or_eq.1 hj with h' | rfl
          · exact hna.out j h'
          · exact h0)
        clear d1 d2 d3
        obtain ⟨x, hx⟩ : ∃ x, (S.cars[k]?.getD default).name = x := ⟨_, rfl⟩
        rw [hx] at hh hst
        simp only [hx] at d0
        clear hx
        have hq : eqS x nm = (x.toList == nm.toList) := rfl
        cases he : eqS x nm with
        | true =>
          have hr1 := hh.out he
          subst hr1
          have hbe : (x.toList == nm.toList) = true := hq.symm.trans he
          clear hh hst hna hq he hEnd hHit
          go_wp2
          go_quiet (fail)
          go_wp2
          go_ret
          exact ⟨rfl, below_drewN hBw.out _⟩
        | false =>
          have hbe : (x.toList == nm.toList) = false := hq.symm.trans he
          have hna2 := hide (hst.out he)
          clear hh hst hq he
          go_wp2
          go_quiet (fail)
          go_wp2
          go_roundg (i - (k + 1))
          case measure => omega
          case rel => exact ⟨k + 1, by omega, by omega, by go_num, below_drewN hBr.out _, hna2.out⟩
      · have hltz : ¬ (k : Int) < (i : Int) := by omega
        obtain rfl : k = i := by omega
        replace hEnd := hide (hEnd.out hna.out)
        have e1 : wr.cell? ⟨W0.heap.size, 1, none⟩ = some (.int .i64 km) := kcr.out.cell 1
        have e2 : wr.cell? ⟨W0.heap.size, 2, none⟩ = some (.int .i64 ev) := kcr.out.cell 2
        have e3 : wr.cell? ⟨W0.heap.size, 3, none⟩ = some (.int .i64 nv) := kcr.out.cell 3
        clear hHit hna hAB hat f1
        go_wp2_with fail
        refine (inRB km 0 1000000 _).mono ?_
        rintro e w3 ⟨rfl, rfl⟩
        cases h2 : inB 0 1000000 km with
        | false =>
          have hr1 := hEnd.out
          rw [h2, if_neg (by simp)] at hr1
          subst hr1
          clear hEnd e1 e2 e3
          go_wp2
          go_ret
          exact ⟨rfl, hBw.out⟩
        | true =>
          go_wp2_with fail
          refine (inRB ev 1 1000000 _).mono ?_
          rintro e w3 ⟨rfl, rfl⟩
          cases h3 : inB 1 1000000 ev with
          | false =>
            have hr1 := hEnd.out
            rw [h3, if_neg (by simp)] at hr1
            subst hr1
            clear hEnd e1 e2 e3
            go_wp2
            go_ret
            exact ⟨rfl, hBw.out⟩
          | true =>
            go_wp2_with fail
            refine (inRB nv 0 255 _).mono ?_
            rintro e w3 ⟨rfl, rfl⟩
            cases h4 : inB 0 255 nv with
            | false =>
              have hr1 := hEnd.out
              rw [h4, if_neg (by simp)] at hr1
              subst hr1
              clear hEnd e1 e2 e3
              go_wp2
              go_ret
              exact ⟨rfl, hBw.out⟩
            | true =>
              have hr1 := hEnd.out
              rw [h2, h3, h4, if_pos (by simp)] at hr1
              subst hr1
              clear hEnd e1 e2 e3
              go_wp2
              go_ret
              exact ⟨rfl, hBw.out⟩
end Go.Proofs.Ytkmhldjebopljaa

/-
  The parts of a school's check, by what the walk finds.
-/
namespace Go.Proofs.Ytkmhldjebopljaa
open Go.RowKit RG

theorem nmErr_no {F : Nat → ByteArray} {i : Nat} (h : nameB (F i) = false) : nmErr F i = 6 := by unfold nmErr; rw [if_pos h]
theorem nmErr_hit {F : Nat → ByteArray} {i j : Nat} (h : nameB (F i) = true) (hj : j < i) (hq : eqS (F j) (F i) = true) : nmErr F i = 5 := by
  unfold nmErr; rw [if_neg (by rw [h]; simp), if_pos (anyIdx_iff.2 ⟨j, hj, hq⟩)]
theorem nmErr_ok {F : Nat → ByteArray} {i : Nat} (h : nameB (F i) = true) (h2 : ∀ j, j < i → eqS (F j) (F i) = false) : nmErr F i = 0 := by
  unfold nmErr
  rw [if_neg (by rw [h]; simp), if_neg (fun hq => by
    obtain ⟨j, hj, hq⟩ := anyIdx_iff.1 hq
    rw [h2 j hj] at hq
    cases hq)]
def lE (S : BSch) (i : Nat) : Int := nmErr (fun j => S.learners[j]?.getD ⟨#[]⟩) i
def cE (S : BSch) (i : Nat) : Int := carE S.cars i (S.cars[i]?.getD default)
def tE (S : BSch) (i : Nat) : Int := termE S.terms i (S.terms[i]?.getD default)
theorem firstErr_none {err : Nat → Int} : ∀ {k m : Nat}, (∀ j, k ≤ j → j < k + m → err j = 0) → firstErr err k m = (0, 0)
  | k, 0, _ => rfl
  | k, m + 1, h => by
    unfold firstErr
    rw [if_pos (h k (Nat.le_refl _) (by omega))]
    exact firstErr_none fun j h1 h2 => h j (by omega) (by omega)
theorem firstErr_hit {err : Nat → Int} : ∀ {k m j : Nat}, (∀ i, k ≤ i → i < j → err i = 0) → k ≤ j → j < k + m → err j ≠ 0 → firstErr err k m = ((j : Int), err j)
  | k, 0, j, _, h1, h2, _ => by omega
  | k, m + 1, j, h, h1, h2, h3 => by
    unfold firstErr
    by_cases e : k = j
    · subst e; rw [if_neg h3]
    · rw [if_pos (h k (Nat.le_refl _) (by omega))]
      exact firstErr_hit (fun i a b => h i (by omega) b) (by omega) (by omega) h3
theorem hitE {f : Nat → Int} {n j : Nat} (hj : j < n) (h0 : ∀ i, i < j → f i = 0) (hne : f j ≠ 0) : firstErr f 0 n = ((j : Int), f j) :=
  firstErr_hit (err := f) (k := 0) (m := n) (j := j) (fun i _ hi => h0 i hi) (Nat.zero_le _) (by omega) hne
theorem noneE {f : Nat → Int} {n : Nat} (h0 : ∀ i, i < n → f i = 0) : (firstErr f 0 n).2 = 0 := by
  rw [firstErr_none (err := f) (k := 0) (m := n) (fun i _ hi => h0 i (by omega))]
theorem chk_1 {S : BSch} (h : numE S ≠ 0) : checkB S = (1, 0, numE S) := by unfold checkB; rw [if_pos h]
theorem chk_2 {S : BSch} (h : numE S = 0) {j : Nat} (hj : j < S.learners.length) (h0 : ∀ i, i < j → lE S i = 0) {er : Int} (he : lE S j = er) (hne : er ≠ 0) : checkB S = (2, (j : Int), er) := by
  subst he
  have : nmsE S.learners = ((j : Int), lE S j) := hitE hj h0 hne
  unfold checkB
  rw [if_neg (by simp [h]), this, if_pos hne]
theorem chk_3 {S : BSch} (h : numE S = 0) (h2 : ∀ i, i < S.learners.length → lE S i = 0) {j : Nat} (hj : j < S.cars.length) (h0 : ∀ i, i < j → cE S i = 0) {er : Int} (he : cE S j = er) (hne : er ≠ 0) : checkB S = (3, (j : Int), er) := by
  subst he
  have : carsE S = ((j : Int), cE S j) := hitE hj h0 hne
  have h5 : (nmsE S.learners).2 = 0 := noneE h2
  unfold checkB
  rw [if_neg (by simp [h]), if_neg (by simp [h5]), this, if_pos hne]
theorem chk_4 {S : BSch} (h : numE S = 0) (h2 : ∀ i, i < S.learners.length → lE S i = 0) (h3 : ∀ i, i < S.cars.length → cE S i = 0) {j : Nat} (hj : j < S.terms.length) (h0 : ∀ i, i < j → tE S i = 0) {er : Int} (he : tE S j = er) (hne : er ≠ 0) : checkB S = (4, (j : Int), er) := by
  subst he
  have : termsE S = ((j : Int), tE S j) := hitE hj h0 hne
  have h5 : (nmsE S.learners).2 = 0 := noneE h2
  have h6 : (carsE S).2 = 0 := noneE h3
  unfold checkB
  rw [if_neg (by simp [h]), if_neg (by simp [h5]), if_neg (by simp [h6]), this, if_pos hne]
theorem chk_0 {S : BSch} (h : numE S = 0) (h2 : ∀ i, i < S.learners.length → lE S i = 0) (h3 : ∀ i, i < S.cars.length → cE S i = 0) (h4 : ∀ i, i < S.terms.length → tE S i = 0) : checkB S = (0, 0, 0) := by
  have h5 : (nmsE S.learners).2 = 0 := noneE h2
  have h6 : (carsE S).2 = 0 := noneE h3
  have h7 : (termsE S).2 = 0 := noneE h4
  unfold checkB
  rw [if_neg (by simp [h]), if_neg (by simp [h5]), if_neg (by simp [h6]), if_neg (by simp [h7])]
end Go.Proofs.Ytkmhldjebopljaa
