import Derived.Test.YtkhijdbigpaagaaNk
import Derived.Test.YtkhijdbigpaagaaNa
import Derived.Maps.AppendAt
import Derived.Test.YtkhijdbigpaagaaNd
import Derived.Test.YtkhijdbigpaagaaNb
/-
  The reference's Name.
-/
namespace Go.Proofs.Ytkhijdbigpaagaa
open Go.RowKit RG
theorem in_any (x lo hi : Int) (w : World) : Calls Try.prog 118 #[.int .i64 x, .int .i64 lo, .int .i64 hi] w fun e w' => e = .returned (.bool (inB lo hi x)) ∧ w = w' := by
  by_cases h1 : lo ≤ x
  · by_cases h2 : x ≤ hi
    · go_enter Try.func118, Try.ntmps118
      go_wp2
      go_ret
      exact ⟨ret_bool (by simp [inB, h1, h2]), rfl⟩
    · have h2' : hi < x := by omega
      go_enter Try.func118, Try.ntmps118
      go_wp2
      go_ret
      exact ⟨ret_bool (by simp [inB, h2]), rfl⟩
  · have h1' : x < lo := by omega
    go_enter Try.func118, Try.ntmps118
    go_wp2
    go_ret
    exact ⟨ret_bool (by simp [inB]; omega), rfl⟩

set_option maxRecDepth 100000 in
set_option maxHeartbeats 4000000 in
theorem NameR_any (s : ByteArray) (w : World) (hs : s.size ≤ maxLen) :
    Calls Try.prog 96 #[.string s] w fun e w' => e = .returned (.bool (nameB s)) ∧ w = w' := by
  unfold maxLen at hs
  by_cases h1 : 1 ≤ s.size ∧ s.size ≤ 16
  · have hin : inB 1 16 (s.size : Int) = true := inB_iff.2 (by omega)
    obtain ⟨h10, h11⟩ := h1
    have hno := fun k h hb => name_no s k h hb
    have hb0 : s[0].toNat < 256 := UInt8.toNat_lt _
    have hx : ∀ k (hk : k < s.size), inB 97 122 (s[k].toNat : Int) = decide (isLet s[k]) := by
      intro k hk; rw [Bool.eq_iff_iff, inB_iff, decide_eq_true_iff]; unfold isLet; omega
    have hy : ∀ k (hk : k < s.size), inB 48 57 (s[k].toNat : Int) = decide (isDig s[k]) := by
      intro k hk; rw [Bool.eq_iff_iff, inB_iff, decide_eq_true_iff]; unfold isDig; omega
    replace hno := hide hno
    replace hx := hide hx
    replace hy := hide hy
    go_enter Try.func96, Try.ntmps96
    go_wp2_with fail
    refine (in_any (s.size : Int) 1 16 _).mono ?_
    rintro e w' ⟨rfl, rfl⟩
    rw [hin]
    go_wp2_with fail
    refine (in_any (s[0].toNat : Int) 97 122 _).mono ?_
    rintro e w' ⟨rfl, rfl⟩
    rw [hx.out 0 h10]
    by_cases hl : isLet s[0]
    · have hl' : decide (isLet s[0]) = true := by simpa using hl
      rw [hl']
      have h00 : okAt 0 (s.data.toList[0]?.getD 0) := by rw [byte_at s 0 h10]; exact .inl hl
      replace h00 := hide h00
      clear hl hl' hb0
      go_wp2
      go_loop [3] (fun i => ∃ k : Nat, k ≤ s.size ∧ i = .int .i64 k ∧ Hid (∀ j, j < k → okAt j (s.data.toList[j]?.getD 0))) (fun i => s.size - (intOf i).toNat)
      case atStart => exact ⟨0, Nat.zero_le _, rfl, fun j hj => absurd hj (by omega)⟩
      case round =>
        obtain ⟨k, hk, rfl, hok⟩ := hrel
        by_cases hlt : k < s.size
        · have hb256 : s[k].toNat < 256 := UInt8.toNat_lt _
          have hbk := byte_at s k hlt
          have hst : okAt k s[k] → ∀ j, j < k + 1 → okAt j (s.data.toList[j]?.getD 0) := fun hb j hj => by
            by_cases e : j = k
            · subst e; rw [hbk]; exact hb
            · exact hok.out j (by omega)
          have hk0 : k = 0 → isLet s[k] ∨ ¬ isDig s[k] := by
            rintro rfl
            have := h00.out
            rw [hbk] at this
            rcases this with h | h
            · exact .inl h
            · exact absurd rfl h.2
          replace hbk := hide hbk
          replace hst := hide hst
          replace hk0 := hide hk0
          have hx' := hx.out k hlt
          have hy' := hy.out k hlt
          have hno' := hno.out k hlt
          by_cases c1 : isLet s[k]
          · have d1 : inB 97 122 (s[k].toNat : Int) = true := by rw [hx']; simpa using c1
            have hn := hide (hst.out (.inl c1))
            clear hx' hy' hno' c1
            go_wp2_with fail
            refine (in_any (s[k].toNat : Int) 97 122 _).mono ?_
            rintro e w' ⟨rfl, rfl⟩
            rw [d1]
            go_wp2
            go_round
            case rel => exact ⟨k + 1, by omega, by go_num, hn⟩
            case measure => simp [intOf]; omega
          · have d1 : inB 97 122 (s[k].toNat : Int) = false := by rw [hx']; simpa using c1
            by_cases c2 : isDig s[k]
            · have d2 : inB 48 57 (s[k].toNat : Int) = true := by rw [hy']; simpa using c2
              have hn := hide (hst.out (.inr ⟨c2, fun e => by rcases hk0.out e with h | h; exact c1 h; exact h c2⟩))
              clear hx' hy' hno' c1 c2
              go_wp2_with fail
              refine (in_any (s[k].toNat : Int) 97 122 _).mono ?_
              rintro e w' ⟨rfl, rfl⟩
              rw [d1]
              go_wp2_with fail
              refine (in_any (s[k].toNat : Int) 48 57 _).mono ?_
              rintro e w' ⟨rfl, rfl⟩
              rw [d2]
              go_wp2
              go_round
              case rel => exact ⟨k + 1, by omega, by go_num, hn⟩
              case measure => simp [intOf]; omega
            · have d2 : inB 48 57 (s[k].toNat : Int) = false := by rw [hy']; simpa using c2
              have hf := hide (hno' (by rintro (h | h); exact c1 h; exact c2 h.1))
              clear hx' hy' hno' c1 c2
              go_wp2_with fail
              refine (in_any (s[k].toNat : Int) 97 122 _).mono ?_
              rintro e w' ⟨rfl, rfl⟩
              rw [d1]
              go_wp2_with fail
              refine (in_any (s[k].toNat : Int) 48 57 _).mono ?_
              rintro e w' ⟨rfl, rfl⟩
              rw [d2]
              go_wp2
              go_ret
              exact ⟨ret_bool hf.out.symm, rfl⟩
        · obtain rfl : k = s.size := by omega
          have hf : nameB s = true := by
            unfold nameB
            rw [decide_eq_true_iff]
            refine ⟨by simpa using (show 1 ≤ s.size ∧ s.size ≤ 16 by omega), fun j hj => hok.out j (by simpa using hj)⟩
          replace hf := hide hf
          go_wp2
          go_ret
          exact ⟨ret_bool hf.out.symm, rfl⟩
    · have hl' : decide (isLet s[0]) = false := by simpa using hl
      rw [hl']
      have hf := hide (hno.out 0 h10 (by rintro (h | h); exact hl h; exact h.2 rfl))
      clear hl hl' hb0
      go_wp2
      go_ret
      exact ⟨ret_bool hf.out.symm, rfl⟩
  · have hin : inB 1 16 (s.size : Int) = false := inB_no (by omega)
    have hno : nameB s = false := by
      unfold nameB
      rw [decide_eq_false_iff_not]
      rintro ⟨h2, _⟩
      have h3 : s.data.toList.length = s.size := by simp
      omega
    replace hno := hide hno
    go_enter Try.func96, Try.ntmps96
    go_wp2_with fail
    refine (in_any (s.size : Int) 1 16 _).mono ?_
    rintro e w' ⟨rfl, rfl⟩
    rw [hin]
    go_wp2
    go_ret
    exact ⟨ret_bool hno.out.symm, rfl⟩
end Go.Proofs.Ytkhijdbigpaagaa

/-
  The reference's span and named.
-/
namespace Go.Proofs.Ytkhijdbigpaagaa
open Go.RowKit RG

set_option maxHeartbeats 1000000 in
theorem spanR_any (a b lo hi : Int) (w : World) : Calls Try.prog 58 #[.agg #[.int .i64 a, .int .i64 b], .int .i64 lo, .int .i64 hi] w fun e w' => e = .returned (.int .i64 (spanE lo hi [(a, b)])) ∧ Below w.heap.size w w' := by
  obtain ⟨r, hr⟩ : ∃ r, spanE lo hi [(a, b)] = r := ⟨_, rfl⟩
  rw [hr]
  unfold spanE at hr
  simp only [List.all_cons, List.all_nil, Bool.and_true] at hr
  have hB := hide ((Below.refl w.heap.size w).alloc (Nat.le_refl _) (.cells #[.int .i64 a, .int .i64 b] 32))
  have ha := fun W => inRef_any a lo hi W
  have hb := fun W => inRef_any b lo hi W
  replace ha := hide ha
  replace hb := hide hb
  cases h1 : inB lo hi a with
  | false =>
    rw [h1] at ha hr
    simp at hr
    subst hr
    go_enter Try.func58, Try.ntmps58
    go_wp2_with fail
    refine (ha.out _).mono ?_
    rintro e w1 ⟨rfl, rfl⟩
    go_wp2
    go_ret
    exact ⟨rfl, hB.out⟩
  | true =>
    rw [h1] at ha hr
    cases h2 : inB lo hi b with
    | false =>
      rw [h2] at hb hr
      simp at hr
      subst hr
      go_enter Try.func58, Try.ntmps58
      go_wp2_with fail
      refine (ha.out _).mono ?_
      rintro e w1 ⟨rfl, rfl⟩
      go_wp2_with fail
      refine (hb.out _).mono ?_
      rintro e w1 ⟨rfl, rfl⟩
      go_wp2
      go_ret
      exact ⟨rfl, hB.out⟩
    | true =>
      rw [h2] at hb hr
      clear h1 h2
      by_cases h3 : a ≤ b
      · simp [h3] at hr
        subst hr
        go_enter Try.func58, Try.ntmps58
        go_wp2_with fail
        refine (ha.out _).mono ?_
        rintro e w1 ⟨rfl, rfl⟩
        go_wp2_with fail
        refine (hb.out _).mono ?_
        rintro e w1 ⟨rfl, rfl⟩
        have h4 : ¬ b < a := by omega
        go_wp2
        go_ret
        exact ⟨rfl, hB.out⟩
      · simp [h3] at hr
        subst hr
        go_enter Try.func58, Try.ntmps58
        go_wp2_with fail
        refine (ha.out _).mono ?_
        rintro e w1 ⟨rfl, rfl⟩
        go_wp2_with fail
        refine (hb.out _).mono ?_
        rintro e w1 ⟨rfl, rfl⟩
        have h4 : b < a := by omega
        go_wp2
        go_ret
        exact ⟨rfl, hB.out⟩

/-- The error of a name among those before it. -/
def namedE (s : ByteArray) (bs : List ByteArray) : Int := if nameB s = false then 6 else if bs.any (fun b => eqS b s) = true then 5 else 0
theorem any_take_succ (bs : List ByteArray) (s : ByteArray) {k : Nat} (h : k < bs.length) : (bs.take (k + 1)).any (fun b => eqS b s) = ((bs.take k).any (fun b => eqS b s) || eqS bs[k] s) := by
  rw [List.take_succ_eq_append_getElem h, List.any_append]; simp
theorem any_hit (bs : List ByteArray) (s : ByteArray) {k : Nat} (h : k < bs.length) (he : eqS bs[k] s = true) : bs.any (fun b => eqS b s) = true := List.any_eq_true.2 ⟨bs[k], List.getElem_mem h, he⟩

set_option maxHeartbeats 2000000 in
theorem named_any (s : ByteArray) (A : Option Addr) (n c : Nat) (bs : List ByteArray) (w : World) (h : RdStrs w A n bs) (hs : s.size ≤ maxLen) (hn : n ≤ maxLen) :
    Calls Try.prog 57 #[.string s, .slice A n c] w fun e w' => e = .returned (.int .i64 (namedE s bs)) ∧ w = w' := by
  obtain ⟨r, hr⟩ : ∃ r, namedE s bs = r := ⟨_, rfl⟩
  rw [hr]
  unfold namedE at hr
  have hN := hide (fun W => NameR_any s W hs)
  have hl := hide h.1
  unfold maxLen at hn hs
  cases h1 : nameB s with
  | false =>
    rw [h1] at hN
    rw [h1, if_pos rfl] at hr
    subst hr
    clear h
    go_enter Try.func57, Try.ntmps57
    go_wp2_with fail
    refine (hN.out _).mono ?_
    rintro e w1 ⟨rfl, rfl⟩
    go_wp2
    go_ret
    exact ⟨rfl, rfl⟩
  | true =>
    rw [h1] at hN
    rw [h1, if_neg (by simp)] at hr
    clear h1
    replace hr := hide hr
    go_enter Try.func57, Try.ntmps57
    go_wp2_with fail
    refine (hN.out _).mono ?_
    rintro e w1 ⟨rfl, rfl⟩
    go_wp2
    go_loopg [5] n (fun gg i wr => ∃ k : Nat, k ≤ n ∧ n ≤ gg + k ∧ i = .int .i64 k ∧ wr = w ∧ Hid ((bs.take k).any (fun b => eqS b s) = false))
    case atStart => exact ⟨0, Nat.zero_le _, by omega, rfl, rfl, rfl⟩
    case round =>
      obtain ⟨k, hk, hg, rfl, rfl, hna⟩ := hrel
      by_cases hlt : k < n
      · have hltz : (k : Int) < (n : Int) := by omega
        have hk0 : (0 : Int) ≤ (k : Int) := by omega
        have hkb : k < bs.length := by rw [hl.out]; exact hlt
        obtain ⟨b, off, rfl, hb, hc⟩ := h.2.2 (by omega)
        have c0 := hc k bs[k] (List.getElem?_eq_getElem hkb)
        have hst := hide (any_take_succ bs s hkb)
        have hht := hide (any_hit bs s hkb)
        generalize bs[k]'hkb = x at *
        replace h := hide h
        clear hc hkb
        have hq : eqS x s = (x.toList == s.toList) := rfl
        cases he : eqS x s with
        | true =>
          have hr1 := hr.out
          rw [hht.out he, if_pos rfl] at hr1
          subst hr1
          have hbe : (x.toList == s.toList) = true := hq.symm.trans he
          clear hr hst hht hna hq he
          go_wp2
          go_ret
          exact ⟨rfl, rfl⟩
        | false =>
          have hbe : (x.toList == s.toList) = false := hq.symm.trans he
          have hna2 := hide (show (bs.take (k + 1)).any (fun b => eqS b s) = false by rw [hst.out, hna.out, he]; rfl)
          clear hst hht hq he
          go_wp2
          go_roundg (n - (k + 1))
          case measure => omega
          case rel => exact ⟨k + 1, by omega, by omega, by go_num, rfl, hna2.out⟩
      · have hltz : ¬ (k : Int) < (n : Int) := by omega
        obtain rfl : k = n := by omega
        have hr1 := hr.out
        have hna1 := hna.out
        rw [List.take_of_length_le (by rw [hl.out]; exact Nat.le_refl _)] at hna1
        rw [hna1, if_neg (by simp)] at hr1
        subst hr1
        replace h := hide h
        clear hr hna hna1
        go_wp2
        go_ret
        exact ⟨rfl, rfl⟩
end Go.Proofs.Ytkhijdbigpaagaa

/-
  The reference's Check: what its two loops look at.
-/
namespace Go.Proofs.Ytkhijdbigpaagaa
open Go.RowKit RG

theorem infoStr : (Try.prog.info? 9).map (fun i => (i.zero, i.size, i.bytes)) = some (some (.string ByteArray.empty), 1, 16) := by kernel_rfl
theorem strs_of_own {w : World} {base : Nat} {v : Value} {xs : List ByteArray} (h : w.ownsRow base 9 1 v xs.length (xs.map Value.string)) (hs : ∀ x ∈ xs, x.size ≤ maxLen) : ∃ A c, v = .slice A xs.length c ∧ RdStrs w A xs.length xs ∧ xs.length ≤ c := by
  rcases h.2 with ⟨rfl, h0⟩ | ⟨g, cap, cur, rfl, _, hg, hc, _, hs', ht⟩
  · obtain rfl : xs = [] := List.eq_nil_of_length_eq_zero h0
    exact ⟨none, 0, rfl, RdStrs.nil w none, Nat.le_refl _⟩
  · refine ⟨_, cap, rfl, ⟨rfl, hs, fun hn => ⟨g, 0, rfl, ?_, fun j x hj => ?_⟩⟩, hc⟩
    · rcases Nat.lt_or_ge g w.heap.size with h' | h'
      · exact h'
      · rw [Array.getElem?_eq_none h'] at hg; cases hg
    · have hj' : j < xs.length := (List.getElem?_eq_some_iff.1 hj).1
      have h1 : w.cell? ⟨g, 0 + j, none⟩ = cur[j]? := by rw [Nat.zero_add]; exact cell_of_row w g j cur _ (0, 0) hg
      rw [h1]
      have h2 : (cur.toList.take (xs.length * 1))[j]? = (xs.map Value.string)[j]? := by rw [ht]
      rw [List.getElem?_take_of_lt (by omega), List.getElem?_map, hj] at h2
      simpa using h2

/-- The error of a name among those before it, as the program looks it up. -/
theorem named_nm {α : Type} [Inhabited α] (f : α → ByteArray) (ss : List α) (j : Nat) (hj : j < ss.length) : namedE (f (ss[j]?.getD default)) ((ss.take j).map f) = nmErr (fun k => f (ss[k]?.getD default)) j := by
  unfold namedE nmErr
  have h : ((ss.take j).map f).any (fun b => eqS b (f (ss[j]?.getD default))) = anyIdx (fun k => eqS (f (ss[k]?.getD default)) (f (ss[j]?.getD default))) j := by
    rw [Bool.eq_iff_iff, List.any_eq_true, anyIdx_iff]
    constructor
    · rintro ⟨x, hx, he⟩
      obtain ⟨y, hy, rfl⟩ := List.mem_map.1 hx
      obtain ⟨k, hk, hy2⟩ := List.mem_iff_getElem.1 hy
      have hkj : k < j := by rw [List.length_take] at hk; omega
      refine ⟨k, hkj, ?_⟩
      rw [List.getElem?_eq_getElem (by omega : k < ss.length)]
      rw [List.getElem_take] at hy2
      rw [Option.getD_some, hy2]; exact he
    · rintro ⟨k, hk, he⟩
      refine ⟨f (ss[k]?.getD default), List.mem_map.2 ⟨ss[k]?.getD default, ?_, rfl⟩, he⟩
      rw [List.getElem?_eq_getElem (by omega : k < ss.length), Option.getD_some]
      exact List.mem_iff_getElem.2 ⟨k, by rw [List.length_take]; omega, by rw [List.getElem_take]⟩
  rw [h]
theorem take_map_succ {α : Type} [Inhabited α] (f : α → ByteArray) (ss : List α) {j : Nat} (hj : j < ss.length) : (ss.take (j + 1)).map f = (ss.take j).map f ++ [f (ss[j]?.getD default)] := by
  rw [List.take_succ_eq_append_getElem hj, List.map_append, List.getElem?_eq_getElem hj]; rfl
/-- The error of two ranges out of that of each one. -/
theorem span_two (lo hi : Int) (a b : Sp) : spanE lo hi [a, b] = if spanE lo hi [a] = 7 ∨ spanE lo hi [b] = 7 then 7 else if spanE lo hi [a] ≠ 0 ∨ spanE lo hi [b] ≠ 0 then 2 else 0 := by
  unfold spanE
  simp only [List.all_cons, List.all_nil, Bool.and_true]
  cases (inB lo hi a.1 && inB lo hi a.2) <;> cases (inB lo hi b.1 && inB lo hi b.2) <;> cases decide (a.1 ≤ a.2) <;> cases decide (b.1 ≤ b.2) <;> simp
/-- The error of a skill in the words of the reference. -/
theorem skErr_cases (ss : List Skl) (j : Nat) (hj : j < ss.length) {e g f : Int} (he : namedE (ss[j]?.getD default).name ((ss.take j).map (·.name)) = e) (hg : spanE 0 1000 [((ss[j]?.getD default).gl, (ss[j]?.getD default).gh)] = g) (hf : spanE 0 1000 [((ss[j]?.getD default).fl, (ss[j]?.getD default).fh)] = f) :
    skErr ss j (ss[j]?.getD default) = if e = 0 then (if g = 7 ∨ f = 7 then 7 else if g ≠ 0 ∨ f ≠ 0 then 2 else 0) else e := by
  rw [named_nm (·.name) ss j hj] at he
  unfold skErr
  rw [span_two, hg, hf, ← he]
theorem inErr_cases (ss : List Ins) (j : Nat) (hj : j < ss.length) {e g : Int} (he : namedE (ss[j]?.getD default).name ((ss.take j).map (·.name)) = e) (hg : spanE (-300) 300 [((ss[j]?.getD default).lo, (ss[j]?.getD default).hi)] = g) :
    inErr ss j (ss[j]?.getD default) = if e = 0 then g else e := by
  rw [named_nm (·.name) ss j hj] at he
  unfold inErr
  rw [hg, ← he]
theorem firstErr_hit {err : Nat → Int} : ∀ {k m j : Nat}, (∀ i, k ≤ i → i < j → err i = 0) → k ≤ j → j < k + m → err j ≠ 0 → firstErr err k m = ((j : Int), err j)
  | k, 0, j, _, h1, h2, _ => by omega
  | k, m + 1, j, h, h1, h2, h3 => by
    unfold firstErr
    by_cases e : k = j
    · subst e; rw [if_neg h3]
    · rw [if_pos (h k (Nat.le_refl _) (by omega))]
      exact firstErr_hit (fun i a b => h i (by omega) b) (by omega) (by omega) h3
end Go.Proofs.Ytkhijdbigpaagaa

/-
  The reference's Check.
-/
namespace Go.Proofs.Ytkhijdbigpaagaa
open Go.RowKit RG

theorem check_one {S : Sch} (h : ¬ (1 ≤ S.sks.length ∧ S.sks.length ≤ 5) ∨ 6 < S.ins.length) : checkS S = (1, 0, 3) := by unfold checkS; rw [if_pos h]
theorem check_two {S : Sch} (h : 1 ≤ S.sks.length ∧ S.sks.length ≤ 5) (h2 : S.ins.length ≤ 6) {j : Nat} (hj : j < S.sks.length) (h0 : ∀ i, i < j → skErr S.sks i (S.sks[i]?.getD default) = 0) {er : Int} (he : skErr S.sks j (S.sks[j]?.getD default) = er) (hne : er ≠ 0) : checkS S = (2, (j : Int), er) := by
  unfold checkS
  have := firstErr_hit (err := fun i => skErr S.sks i (S.sks[i]?.getD default)) (k := 0) (m := S.sks.length) (j := j) (fun i _ hi => h0 i hi) (Nat.zero_le _) (by omega) (by show skErr S.sks j (S.sks[j]?.getD default) ≠ 0; rw [he]; exact hne)
  rw [if_neg (by omega), if_pos (by rw [this]; show skErr S.sks j (S.sks[j]?.getD default) ≠ 0; rw [he]; exact hne), this]
  show (2, (j : Int), skErr S.sks j (S.sks[j]?.getD default)) = _
  rw [he]
theorem check_three {S : Sch} (h : 1 ≤ S.sks.length ∧ S.sks.length ≤ 5) (h2 : S.ins.length ≤ 6) (ha : ∀ i, i < S.sks.length → skErr S.sks i (S.sks[i]?.getD default) = 0) {j : Nat} (hj : j < S.ins.length) (h0 : ∀ i, i < j → inErr S.ins i (S.ins[i]?.getD default) = 0) {er : Int} (he : inErr S.ins j (S.ins[j]?.getD default) = er) (hne : er ≠ 0) : checkS S = (3, (j : Int), er) := by
  unfold checkS
  have h1 := firstErr_none (err := fun i => skErr S.sks i (S.sks[i]?.getD default)) (k := 0) (m := S.sks.length) (fun i _ hi => ha i (by omega))
  have := firstErr_hit (err := fun i => inErr S.ins i (S.ins[i]?.getD default)) (k := 0) (m := S.ins.length) (j := j) (fun i _ hi => h0 i hi) (Nat.zero_le _) (by omega) (by show inErr S.ins j (S.ins[j]?.getD default) ≠ 0; rw [he]; exact hne)
  rw [if_neg (by omega), if_neg (by rw [h1]; simp), if_pos (by rw [this]; show inErr S.ins j (S.ins[j]?.getD default) ≠ 0; rw [he]; exact hne), this]
  show (3, (j : Int), inErr S.ins j (S.ins[j]?.getD default)) = _
  rw [he]
theorem check_zero {S : Sch} (h : 1 ≤ S.sks.length ∧ S.sks.length ≤ 5) (h2 : S.ins.length ≤ 6) (ha : ∀ i, i < S.sks.length → skErr S.sks i (S.sks[i]?.getD default) = 0) (hb : ∀ i, i < S.ins.length → inErr S.ins i (S.ins[i]?.getD default) = 0) : checkS S = (0, 0, 0) := by
  unfold checkS
  have h1 := firstErr_none (err := fun i => skErr S.sks i (S.sks[i]?.getD default)) (k := 0) (m := S.sks.length) (fun i _ hi => ha i (by omega))
  have h3 := firstErr_none (err := fun i => inErr S.ins i (S.ins[i]?.getD default)) (k := 0) (m := S.ins.length) (fun i _ hi => hb i (by omega))
  rw [if_neg (by omega), if_neg (by rw [h1]; simp), if_neg (by rw [h3]; simp)]

set_option maxRecDepth 100000 in
set_option maxHeartbeats 8000000 in
theorem CheckR_any (v : Value) (S : Sch) (w : World) (h : RdSch w v S) : Calls Try.prog 19 #[v] w fun e w' => Ret3 (checkS S) e ∧ Below w.heap.size w w' := by
  obtain ⟨A, c, A2, c2, rfl, hA, hn, -, hnm, hA2, hn2, -, him⟩ := h
  obtain ⟨r, hr⟩ : ∃ r, checkS S = r := ⟨_, rfl⟩
  rw [hr]
  have hR1 := hide (fun hh => hr.symm.trans (check_one (S := S) hh))
  have hR2 := hide (fun h1 h2 (j : Nat) (hj : j < S.sks.length) h0 (er : Int) he hne => hr.symm.trans (check_two (S := S) h1 h2 hj h0 (er := er) he hne))
  have hR3 := hide (fun h1 h2 ha (j : Nat) (hj : j < S.ins.length) h0 (er : Int) he hne => hr.symm.trans (check_three (S := S) h1 h2 ha hj h0 (er := er) he hne))
  have hR4 := hide (fun h1 h2 ha hb => hr.symm.trans (check_zero (S := S) h1 h2 ha hb))
  clear hr
  have hsat := hide (fun j (hj : j < S.sks.length) => sk_at S.sks j hj)
  have hiat := hide (fun j (hj : j < S.ins.length) => in_at S.ins j hj)
  have hsc := hide (fun j (hj : j < S.sks.length) => skErr_cases S.sks j hj rfl rfl rfl)
  have hic := hide (fun j (hj : j < S.ins.length) => inErr_cases S.ins j hj rfl rfl)
  have hsn := hide (fun j (hj : j < S.sks.length) => show (S.sks[j]?.getD default).name.size ≤ maxLen by rw [List.getElem?_eq_getElem hj]; exact hnm _ (List.getElem_mem _))
  have hin := hide (fun j (hj : j < S.ins.length) => show (S.ins[j]?.getD default).name.size ≤ maxLen by rw [List.getElem?_eq_getElem hj]; exact him _ (List.getElem_mem _))
  have hst := hide (fun j (hj : j < S.sks.length) => take_map_succ (·.name) S.sks hj)
  have hit := hide (fun j (hj : j < S.ins.length) => take_map_succ (·.name) S.ins hj)
  have hsm := hide (fun (j : Nat) (x : ByteArray) (hx : x ∈ (S.sks.take j).map (·.name)) => show x.size ≤ maxLen by obtain ⟨s, hs, rfl⟩ := List.mem_map.1 hx; exact hnm s (List.mem_of_mem_take hs))
  have him2 := hide (fun (j : Nat) (x : ByteArray) (hx : x ∈ (S.ins.take j).map (·.name)) => show x.size ≤ maxLen by obtain ⟨s, hs, rfl⟩ := List.mem_map.1 hx; exact him s (List.mem_of_mem_take hs))
  have hslen := hide (fun (j : Nat) (hj : j ≤ S.sks.length) => show ((S.sks.take j).map (·.name)).length = j by simp; omega)
  have hilen := hide (fun (j : Nat) (hj : j ≤ S.ins.length) => show ((S.ins.take j).map (·.name)).length = j by simp; omega)
  have hAB := hide (fun W (hb : Below w.heap.size w W) => hA.below hb)
  have hA2B := hide (fun W (hb : Below w.heap.size w W) => hA2.below hb)
  generalize S.sks.length = n at *
  generalize S.ins.length = n2 at *
  clear hA hA2 hnm him
  obtain ⟨i0, hi, hz0, hz1, hz2⟩ := info_parts infoStr
  replace hi := hide hi
  replace hz0 := hide hz0
  replace hz1 := hide hz1
  replace hz2 := hide hz2
  unfold maxLen at hn hn2
  have hB0 := hide (show Below w.heap.size w (w.alloc (.cells #[.slice A n c, .slice A2 n2 c2] 25)) from (Below.refl _ _).alloc (Nat.le_refl _) _)
  have k0 := hide (show Blk (w.alloc (.cells #[.slice A n c, .slice A2 n2 c2] 25)) w.heap.size 25 #[.slice A n c, .slice A2 n2 c2] from blkNew rfl)
  have hs0 : (w.alloc (.cells #[.slice A n c, .slice A2 n2 c2] 25)).heap.size = w.heap.size + 1 := by simp
  have x0 : (w.alloc (.cells #[.slice A n c, .slice A2 n2 c2] 25)).cell? ⟨w.heap.size, 0, none⟩ = some (.slice A n c) := k0.out.cell 0
  have x1 : (w.alloc (.cells #[.slice A n c, .slice A2 n2 c2] 25)).cell? ⟨w.heap.size, 1, none⟩ = some (.slice A2 n2 c2) := k0.out.cell 1
  go_enter Try.func19, Try.ntmps19
  go_wp2_with fail
  generalize (w.alloc (.cells #[.slice A n c, .slice A2 n2 c2] 25)) = W0 at *
  refine (inRef_any (n : Int) 1 5 _).mono ?_
  rintro e w1 ⟨rfl, rfl⟩
  cases hq : inB 1 5 (n : Int) with
  | false =>
    have hrr := hR1.out (.inl (fun hh => by rw [inB_iff.2 (by omega)] at hq; cases hq))
    subst hrr
    go_wp2
    go_ret3
    exact ⟨rfl, hB0.out⟩
  | true =>
    have hn15 : 1 ≤ n ∧ n ≤ 5 := by have := inB_iff.1 hq; omega
    by_cases h6 : 6 < n2
    · have hrr := hR1.out (.inr h6)
      subst hrr
      have h6z : (6 : Int) < (n2 : Int) := by omega
      go_wp2
      go_ret3
      exact ⟨rfl, hB0.out⟩
    · have h6z : ¬ (6 : Int) < (n2 : Int) := by omega
      clear hR1
      replace hR2 := hide (hR2.out hn15 (by omega))
      replace hR3 := hide (hR3.out hn15 (by omega))
      replace hR4 := hide (hR4.out hn15 (by omega))
      go_wp2
      clear x0 x1
      go_loopg [5, 6, 7, 8, 9, 10] n (fun gg s5 s6 _ _ _ _ wr => ∃ j : Nat, j ≤ n ∧ n ≤ gg + j ∧ s6 = .int .i64 j ∧ Hid (Below w.heap.size w wr) ∧ Hid (Blk wr w.heap.size 25 #[.slice A n c, .slice A2 n2 c2]) ∧ Hid (wr.ownsRow (w.heap.size + 1) 9 1 s5 j (((S.sks.take j).map (·.name)).map Value.string)) ∧ Hid (∀ i, i < j → skErr S.sks i (S.sks[i]?.getD default) = 0))
      case atStart => exact ⟨0, Nat.zero_le _, by omega, rfl, hB0.out, k0.out, World.ownsRow_nil _ _ _ _, fun i hi => absurd hi (by omega)⟩
      case round =>
        obtain ⟨j, hj, hgg, rfl, hBr, kr, hown, hok⟩ := hrel
        clear hB0 k0
        have x0 : wr.cell? ⟨w.heap.size, 0, none⟩ = some (.slice A n c) := kr.out.cell 0
        have x1 : wr.cell? ⟨w.heap.size, 1, none⟩ = some (.slice A2 n2 c2) := kr.out.cell 1
        by_cases hlt : j < n
        · have hltz : (j : Int) < (n : Int) := by omega
          have hse := hide (hsc.out j hlt)
          obtain ⟨b, off, y0, y1, y2, y3, y4, rfl, hb, hy, d0, d1, d2, d3, d4⟩ := (hAB.out wr hBr.out).cells5 hlt
          rw [hsat.out j hlt] at hy
          unfold skCells at hy
          simp only [List.cons.injEq, and_true] at hy
          obtain ⟨rfl, rfl, rfl, rfl, rfl⟩ := hy
          have hsnj := hsn.out j hlt
          have hstj := hide (hst.out j hlt)
          have hsmj := hide (hsm.out (j + 1))
          obtain ⟨LA, LC, rfl, hrd, hlc⟩ := strs_of_own (xs := (S.sks.take j).map (·.name)) (by rw [hslen.out j hj]; exact hown.out) (hsm.out j)
          rw [hslen.out j hj] at hrd hlc hown ⊢
          have hslj := hide (hslen.out j hj)
          generalize hps : (S.sks[j]?.getD default).name = nm at *
          generalize (S.sks[j]?.getD default).gl = gl at *
          generalize (S.sks[j]?.getD default).gh = gh at *
          generalize (S.sks[j]?.getD default).fl = fl at *
          generalize (S.sks[j]?.getD default).fh = fh at *
          generalize hpp : (S.sks.take j).map (·.name) = ns at *
          replace hps := hide hps
          replace hpp := hide hpp
          obtain ⟨e, he⟩ : ∃ e, namedE nm ns = e := ⟨_, rfl⟩
          obtain ⟨g, hg⟩ : ∃ g, spanE 0 1000 [(gl, gh)] = g := ⟨_, rfl⟩
          obtain ⟨f, hf⟩ : ∃ f, spanE 0 1000 [(fl, fh)] = f := ⟨_, rfl⟩
          rw [he, hg, hf] at hse
          have hsr := hBr.out.size
          have kb := hide (blkNew (w := wr) (t := 76) (cs := #[.string nm, .int .i64 gl, .int .i64 gh, .int .i64 fl, .int .i64 fh]) rfl)
          have hBa := hide (hBr.out.alloc hBr.out.size (.cells #[.string nm, .int .i64 gl, .int .i64 gh, .int .i64 fl, .int .i64 fh] 76))
          have kr2 := hide (kr.out.alloc (.cells #[.string nm, .int .i64 gl, .int .i64 gh, .int .i64 fl, .int .i64 fh] 76))
          have hown2 := hide (hown.out.alloc (.cells #[.string nm, .int .i64 gl, .int .i64 gh, .int .i64 fl, .int .i64 fh] 76))
          have hcn := hide (named_any nm LA j LC ns _ (hrd.below ((Below.refl wr.heap.size wr).alloc (Nat.le_refl _) (.cells #[.string nm, .int .i64 gl, .int .i64 gh, .int .i64 fl, .int .i64 fh] 76))) hsnj (by unfold maxLen; omega))
          rw [he] at hcn
          have m0 := kb.out.cell 0
          simp only [List.getElem?_toArray, List.getElem?_cons_zero] at m0
          clear hown hrd kr
          replace he := hide he
          replace hg := hide hg
          replace hf := hide hf
          go_wp2_with fail
          clear d0 d1 d2 d3 d4 x0 x1
          have hws := hide (show (wr.alloc (.cells #[.string nm, .int .i64 gl, .int .i64 gh, .int .i64 fl, .int .i64 fh] 76)).heap.size = wr.heap.size + 1 by simp)
          generalize (wr.alloc (.cells #[.string nm, .int .i64 gl, .int .i64 gh, .int .i64 fl, .int .i64 fh] 76)) = w2 at *
          refine hcn.out.mono ?_
          rintro e' w2' ⟨rfl, rfl⟩
          clear hcn
          go_wp2_with (at_builtin; refine wpList_append_own _ rfl _ _ 110 rfl (w.heap.size + 1) 9 i0 (.string ByteArray.empty) 1 16 Try.underlying110 hi.out hz0.out hz1.out hz2.out rfl (by decide) _ _ _ rfl (hown2.out.alloc _) ⟨w2.heap.size, 0, none⟩ 1 1 [.string nm] rfl rfl (cell_one_new _ _ _) (by simp [Value.oneCell']) (by unfold maxLen; omega) (by omega) (by have := hws.out; simp; omega) ?_; intro v' w3 hown3 hgrow3 _)
          have kb3 := hide ((kb.out.alloc (.cells #[.string nm] 9)).grown hgrow3 (fun ee => own_ne (hown2.out.alloc _) (kb.out.alloc (.cells #[.string nm] 9)) (by decide) ee.symm))
          have kr3 := hide ((kr2.out.alloc (.cells #[.string nm] 9)).grown hgrow3 (fun ee => own_ne (hown2.out.alloc _) (kr2.out.alloc (.cells #[.string nm] 9)) (by decide) ee.symm))
          have hB3 := hide ((hBa.out.alloc hBa.out.size (.cells #[.string nm] 9)).grown hgrow3 (by have := hBa.out.size; simp; omega) (fun k hk => by have := ((hown2.out.alloc (.cells #[.string nm] 9)).lt k hk).1; omega))
          have hown4 := hide (show w3.ownsRow (w.heap.size + 1) 9 1 v' (j + 1) (((S.sks.take (j + 1)).map (·.name)).map Value.string) by rw [hstj.out]; simpa using hown3)
          clear hown3 hgrow3 hown2 kb kr2 hBa m0
          obtain ⟨LA', LC', rfl, -, -⟩ := strs_of_own (xs := (S.sks.take (j + 1)).map (·.name)) (by rw [hslen.out (j + 1) hlt]; exact hown4.out) hsmj.out
          rw [hslen.out (j + 1) hlt] at hown4 ⊢
          have hsg := fun W => spanR_any gl gh 0 1000 W
          have hsf := fun W => spanR_any fl fh 0 1000 W
          rw [hg.out] at hsg
          rw [hf.out] at hsf
          replace hsg := hide hsg
          replace hsf := hide hsf
          refine region_grow [IsV (.pointer (some ⟨wr.heap.size, 1, none⟩)), IsV (.agg #[.int .i64 gl, .int .i64 gh]), IsV (.int .i64 g), IsV (.pointer (some ⟨wr.heap.size, 3, none⟩)), IsV (.agg #[.int .i64 fl, .int .i64 fh]), IsV (.int .i64 f), IsV (.int .i64 g), IsV (.int .i64 f)] (by kernel_rfl) (by kernel_rfl) rfl ?_ ?_ ?_
          · simp [AllStb, IsV.stb]
          · refine ⟨?_, ?_, ?_, ?_, ?_, ?_, ?_, ?_, trivial⟩
            all_goals
              intro y W K Q Cv hC hd hV
              have z1 : W.cell? ⟨wr.heap.size, 1, none⟩ = some (.int .i64 gl) := (kb3.out.below hC kb3.out.lt).cell 1
              have z2 : W.cell? ⟨wr.heap.size, 2, none⟩ = some (.int .i64 gh) := (kb3.out.below hC kb3.out.lt).cell 2
              have z3 : W.cell? ⟨wr.heap.size, 3, none⟩ = some (.int .i64 fl) := (kb3.out.below hC kb3.out.lt).cell 3
              have z4 : W.cell? ⟨wr.heap.size, 4, none⟩ = some (.int .i64 fh) := (kb3.out.below hC kb3.out.lt).cell 4
              simp [deps, VL, IsV, Region.binds] at hd
            · simp only [putAll, Act.put]; go_simp; intro hK; exact hK _ _ (hV _ _ hC (Below.refl _ _) rfl)
            · simp only [putAll, Act.put]; go_simp; intro hK; exact hK _ _ (hV _ _ hC (Below.refl _ _) rfl)
            · simp only [putAll, Act.put]; go_simp; intro hK; refine (hsg.out _).mono ?_; rintro e w7 ⟨rfl, hb7⟩; exact hK _ _ (hV _ _ (hC.trans (hb7.mono hC.size)) hb7 rfl)
            · simp only [putAll, Act.put]; go_simp; intro hK; exact hK _ _ (hV _ _ hC (Below.refl _ _) rfl)
            · simp only [putAll, Act.put]; go_simp; intro hK; exact hK _ _ (hV _ _ hC (Below.refl _ _) rfl)
            · simp only [putAll, Act.put]; go_simp; intro hK; refine (hsf.out _).mono ?_; rintro e w7 ⟨rfl, hb7⟩; exact hK _ _ (hV _ _ (hC.trans (hb7.mono hC.size)) hb7 rfl)
            · simp only [putAll, Act.put]; go_simp; intro hK; exact hK _ _ (hV _ _ hC (Below.refl _ _) rfl)
            · simp only [putAll, Act.put]; go_simp; intro hK; exact hK _ _ (hV _ _ hC (Below.refl _ _) rfl)
          intro y w4 hC4 hd
          simp [EndsL, IsV] at hd
          obtain ⟨q0, q1, q2, q3, q4, q5, q6, q7⟩ := hd
          simp only [putAll, Act.put]
          rw [q0, q1, q2, q3, q4, q5, q6, q7]
          clear q0 q1 q2 q3 q4 q5 q6 q7
          simp only [List.setIfInBounds_toArray, List.set_cons_succ, List.set_cons_zero]
          have hB4 := hide (hB3.out.trans (hC4.mono hB3.out.size))
          have kr4 := hide (kr3.out.below hC4 kr3.out.lt)
          have hown5 := hide (own_below hown4.out hC4)
          clear hB3 kr3 kb3 hown4 hC4 hsg hsf
          by_cases he0 : e = 0
          · subst he0
            rw [if_pos rfl] at hse
            by_cases hg7 : g = 7
            · subst hg7
              have hrr := hR2.out j hlt hok.out 7 (by rw [hse.out, if_pos (.inl rfl)]) (by decide)
              subst hrr
              go_wp2
              go_ret3
              exact ⟨rfl, hB4.out⟩
            · have hg7b : ((g : Int) == 7) = false := by rw [beq_eq_false_iff_ne]; exact hg7
              by_cases hf7 : f = 7
              · subst hf7
                have hrr := hR2.out j hlt hok.out 7 (by rw [hse.out, if_pos (.inr rfl)]) (by decide)
                subst hrr
                replace hg7 := hide hg7
                go_wp2
                go_ret3
                exact ⟨rfl, hB4.out⟩
              · have hf7b : ((f : Int) == 7) = false := by rw [beq_eq_false_iff_ne]; exact hf7
                rw [if_neg (by omega)] at hse
                replace hg7 := hide hg7
                replace hf7 := hide hf7
                by_cases hg0 : g = 0
                · subst hg0
                  by_cases hf0 : f = 0
                  · subst hf0
                    have hok2 := hide (show ∀ i, i < j + 1 → skErr S.sks i (S.sks[i]?.getD default) = 0 by
                      intro i hi
                      rcases Nat.lt_succ_iff_lt_or_eq.1 hi with h | h
                      · exact hok.out i h
                      · subst h; rw [hse.out]; simp)
                    clear hse hok
                    go_wp2
                    go_roundg (n - (j + 1))
                    case measure => omega
                    case rel => exact ⟨j + 1, by omega, by omega, by go_num, hB4.out, kr4.out, hown5.out, hok2.out⟩
                  · have hf0b : ((f : Int) == 0) = false := by rw [beq_eq_false_iff_ne]; exact hf0
                    have hf0c : ((f : Int) != 0) = true := by rw [bne_iff_ne]; exact hf0
                    have hrr := hR2.out j hlt hok.out 2 (by rw [hse.out, if_pos (.inr hf0)]) (by decide)
                    subst hrr
                    replace hf0 := hide hf0
                    go_wp2
                    go_ret3
                    exact ⟨rfl, hB4.out⟩
                · have hg0b : ((g : Int) == 0) = false := by rw [beq_eq_false_iff_ne]; exact hg0
                  have hg0c : ((g : Int) != 0) = true := by rw [bne_iff_ne]; exact hg0
                  have hrr := hR2.out j hlt hok.out 2 (by rw [hse.out, if_pos (.inl hg0)]) (by decide)
                  subst hrr
                  replace hg0 := hide hg0
                  go_wp2
                  go_ret3
                  exact ⟨rfl, hB4.out⟩
          · have hrr := hR2.out j hlt hok.out e (by rw [hse.out, if_neg he0]) he0
            subst hrr
            have heb : ((e : Int) == 0) = false := by rw [beq_eq_false_iff_ne]; exact he0
            have hec : ((e : Int) != 0) = true := by rw [bne_iff_ne]; exact he0
            replace he0 := hide he0
            clear hse
            go_wp2
            go_ret3
            exact ⟨rfl, hB4.out⟩
        · obtain rfl : j = n := by omega
          have hltz : ¬ (j : Int) < (j : Int) := by omega
          replace hR3 := hide (hR3.out hok.out)
          replace hR4 := hide (hR4.out hok.out)
          clear hsc hst hsm hslen hsat hsn hAB hR2 hown
          go_wp2
          clear x0 x1
          go_loopg [5, 11, 12, 13] n2 (fun gg s5 s11 _ _ wq => ∃ jj : Nat, jj ≤ n2 ∧ n2 ≤ gg + jj ∧ s11 = .int .i64 jj ∧ Hid (Below w.heap.size w wq) ∧ Hid (Blk wq w.heap.size 25 #[.slice A j c, .slice A2 n2 c2]) ∧ Hid (wq.ownsRow (w.heap.size + 1) 9 1 s5 jj (((S.ins.take jj).map (·.name)).map Value.string)) ∧ Hid (∀ i, i < jj → inErr S.ins i (S.ins[i]?.getD default) = 0))
          case atStart => exact ⟨0, Nat.zero_le _, by omega, rfl, hBr.out, kr.out, World.ownsRow_nil _ _ _ _, fun i hi => absurd hi (by omega)⟩
          case round =>
            obtain ⟨jj, hjj, hgg2, rfl, hBq, kq, hown, hok2⟩ := hrel
            clear hBr kr
            have x0 : wr.cell? ⟨w.heap.size, 0, none⟩ = some (.slice A j c) := kq.out.cell 0
            have x1 : wr.cell? ⟨w.heap.size, 1, none⟩ = some (.slice A2 n2 c2) := kq.out.cell 1
            by_cases hlt : jj < n2
            · have hltz2 : (jj : Int) < (n2 : Int) := by omega
              have hse := hide (hic.out jj hlt)
              obtain ⟨b, off, y0, y1, y2, rfl, hb, hy, d0, d1, d2⟩ := (hA2B.out wr hBq.out).cells3 hlt
              rw [hiat.out jj hlt] at hy
              unfold inCells at hy
              simp only [List.cons.injEq, and_true] at hy
              obtain ⟨rfl, rfl, rfl⟩ := hy
              have hsnj := hin.out jj hlt
              have hstj := hide (hit.out jj hlt)
              have hsmj := hide (him2.out (jj + 1))
              obtain ⟨LA, LC, rfl, hrd, hlc⟩ := strs_of_own (xs := (S.ins.take jj).map (·.name)) (by rw [hilen.out jj hjj]; exact hown.out) (him2.out jj)
              rw [hilen.out jj hjj] at hrd hlc hown ⊢
              generalize hps : (S.ins[jj]?.getD default).name = nm at *
              generalize (S.ins[jj]?.getD default).lo = gl at *
              generalize (S.ins[jj]?.getD default).hi = gh at *
              generalize hpp : (S.ins.take jj).map (·.name) = ns at *
              replace hps := hide hps
              replace hpp := hide hpp
              obtain ⟨e, he⟩ : ∃ e, namedE nm ns = e := ⟨_, rfl⟩
              obtain ⟨g, hg⟩ : ∃ g, spanE (-300) 300 [(gl, gh)] = g := ⟨_, rfl⟩
              rw [he, hg] at hse
              have hsr := hBq.out.size
              have kb := hide (blkNew (w := wr) (t := 81) (cs := #[.string nm, .int .i64 gl, .int .i64 gh]) rfl)
              have hBa := hide (hBq.out.alloc hBq.out.size (.cells #[.string nm, .int .i64 gl, .int .i64 gh] 81))
              have kr2 := hide (kq.out.alloc (.cells #[.string nm, .int .i64 gl, .int .i64 gh] 81))
              have hown2 := hide (hown.out.alloc (.cells #[.string nm, .int .i64 gl, .int .i64 gh] 81))
              have hcn := hide (named_any nm LA jj LC ns _ (hrd.below ((Below.refl wr.heap.size wr).alloc (Nat.le_refl _) (.cells #[.string nm, .int .i64 gl, .int .i64 gh] 81))) hsnj (by unfold maxLen; omega))
              rw [he] at hcn
              have m0 := kb.out.cell 0
              simp only [List.getElem?_toArray, List.getElem?_cons_zero] at m0
              clear hown hrd kq
              replace he := hide he
              replace hg := hide hg
              go_wp2_with fail
              clear d0 d1 d2 x0 x1
              have hws := hide (show (wr.alloc (.cells #[.string nm, .int .i64 gl, .int .i64 gh] 81)).heap.size = wr.heap.size + 1 by simp)
              generalize (wr.alloc (.cells #[.string nm, .int .i64 gl, .int .i64 gh] 81)) = w2 at *
              refine hcn.out.mono ?_
              rintro e' w2' ⟨rfl, rfl⟩
              clear hcn
              have hsg := fun W => spanR_any gl gh (-300) 300 W
              rw [hg.out] at hsg
              replace hsg := hide hsg
              by_cases he0 : e = 0
              · subst he0
                rw [if_pos rfl] at hse
                go_wp2_with (at_builtin; refine wpList_append_own _ rfl _ _ 110 rfl (w.heap.size + 1) 9 i0 (.string ByteArray.empty) 1 16 Try.underlying110 hi.out hz0.out hz1.out hz2.out rfl (by decide) _ _ _ rfl (hown2.out.alloc _) ⟨w2.heap.size, 0, none⟩ 1 1 [.string nm] rfl rfl (cell_one_new _ _ _) (by simp [Value.oneCell']) (by unfold maxLen; omega) (by omega) (by have := hws.out; simp; omega) ?_; intro v' w3 hown3 hgrow3 _; obtain ⟨m1, m2⟩ : w3.cell? ⟨wr.heap.size, 1, none⟩ = some (.int .i64 gl) ∧ w3.cell? ⟨wr.heap.size, 2, none⟩ = some (.int .i64 gh) := ⟨((kb.out.alloc (.cells #[.string nm] 9)).grown hgrow3 (fun ee => own_ne (hown2.out.alloc _) (kb.out.alloc (.cells #[.string nm] 9)) (by decide) ee.symm)).cell 1, ((kb.out.alloc (.cells #[.string nm] 9)).grown hgrow3 (fun ee => own_ne (hown2.out.alloc _) (kb.out.alloc (.cells #[.string nm] 9)) (by decide) ee.symm)).cell 2⟩)
                have kr3 := hide ((kr2.out.alloc (.cells #[.string nm] 9)).grown hgrow3 (fun ee => own_ne (hown2.out.alloc _) (kr2.out.alloc (.cells #[.string nm] 9)) (by decide) ee.symm))
                have hB3 := hide ((hBa.out.alloc hBa.out.size (.cells #[.string nm] 9)).grown hgrow3 (by have := hBa.out.size; simp; omega) (fun k hk => by have := ((hown2.out.alloc (.cells #[.string nm] 9)).lt k hk).1; omega))
                have hown4 := hide (show w3.ownsRow (w.heap.size + 1) 9 1 v' (jj + 1) (((S.ins.take (jj + 1)).map (·.name)).map Value.string) by rw [hstj.out]; simpa using hown3)
                clear hown3 hgrow3 hown2 kb kr2 hBa m0 m1 m2
                refine (hsg.out _).mono ?_
                rintro e' w4 ⟨rfl, hC4⟩
                have hB4 := hide (hB3.out.trans (hC4.mono hB3.out.size))
                have kr4 := hide (kr3.out.below hC4 kr3.out.lt)
                have hown5 := hide (own_below hown4.out hC4)
                clear hB3 kr3 hown4 hC4 hsg
                by_cases hg0 : g = 0
                · subst hg0
                  have hok3 := hide (show ∀ i, i < jj + 1 → inErr S.ins i (S.ins[i]?.getD default) = 0 by
                    intro i hi
                    rcases Nat.lt_succ_iff_lt_or_eq.1 hi with h | h
                    · exact hok2.out i h
                    · subst h; rw [hse.out])
                  clear hse hok2
                  go_wp2
                  go_roundg (n2 - (jj + 1))
                  case measure => omega
                  case rel => exact ⟨jj + 1, by omega, by omega, by go_num, hB4.out, kr4.out, hown5.out, hok3.out⟩
                · have hrr := hR3.out jj hlt hok2.out g hse.out hg0
                  subst hrr
                  have hg0b : ((g : Int) == 0) = false := by rw [beq_eq_false_iff_ne]; exact hg0
                  have hg0c : ((g : Int) != 0) = true := by rw [bne_iff_ne]; exact hg0
                  replace hg0 := hide hg0
                  go_wp2
                  go_ret3
                  exact ⟨rfl, hB4.out⟩
              · have hrr := hR3.out jj hlt hok2.out e (by rw [hse.out, if_neg he0]) he0
                subst hrr
                have heb : ((e : Int) == 0) = false := by rw [beq_eq_false_iff_ne]; exact he0
                have hec : ((e : Int) != 0) = true := by rw [bne_iff_ne]; exact he0
                replace he0 := hide he0
                clear hse hsg
                go_wp2_with (at_builtin; refine wpList_append_own _ rfl _ _ 110 rfl (w.heap.size + 1) 9 i0 (.string ByteArray.empty) 1 16 Try.underlying110 hi.out hz0.out hz1.out hz2.out rfl (by decide) _ _ _ rfl (hown2.out.alloc _) ⟨w2.heap.size, 0, none⟩ 1 1 [.string nm] rfl rfl (cell_one_new _ _ _) (by simp [Value.oneCell']) (by unfold maxLen; omega) (by omega) (by have := hws.out; simp; omega) ?_; intro v' w3 hown3 hgrow3 _)
                have hB3 := hide ((hBa.out.alloc hBa.out.size (.cells #[.string nm] 9)).grown hgrow3 (by have := hBa.out.size; simp; omega) (fun k hk => by have := ((hown2.out.alloc (.cells #[.string nm] 9)).lt k hk).1; omega))
                go_ret3
                exact ⟨rfl, hB3.out⟩
            · obtain rfl : jj = n2 := by omega
              have hltz2 : ¬ (jj : Int) < (jj : Int) := by omega
              have hrr := hR4.out hok2.out
              subst hrr
              clear hic hit him2 hilen hiat hin hA2B hR3 hown
              go_wp2
              go_ret3
              exact ⟨rfl, hBq.out⟩
end Go.Proofs.Ytkhijdbigpaagaa

/-
  The reference's Within, marked, behind, asked, Marks and Behind.
-/
namespace Go.Proofs.Ytkhijdbigpaagaa
open Go.RowKit RG

theorem Within_any (n : Int) (w : World) : Calls Try.prog 46 #[.int .i64 n] w fun e w' => e = .returned (.int .i64 (lim n)) ∧ w = w' := by
  by_cases h1 : n < 1000
  · by_cases h2 : 0 < n
    · have h3 : min 1000 n = n := by omega
      have h4 : max 0 n = n := by omega
      have h5 : lim n = n := by unfold lim; omega
      rw [h5]
      go_enter Try.func46, Try.ntmps46
      go_wp2
      go_ret
      exact ⟨by first | rfl | (simp only [h3, h4]), rfl⟩
    · have h5 : lim n = 0 := by unfold lim; omega
      have h3 : min 1000 n = n := by omega
      have h4 : max 0 n = 0 := by omega
      rw [h5]
      go_enter Try.func46, Try.ntmps46
      go_wp2
      go_ret
      exact ⟨by first | rfl | (simp only [h3, h4]), rfl⟩
  · have h5 : lim n = 1000 := by unfold lim; omega
    have h3 : min 1000 n = 1000 := by omega
    rw [h5]
    go_enter Try.func46, Try.ntmps46
    go_wp2
    go_ret
    exact ⟨by first | rfl | (simp only [h3]; rfl) | (simp [h3]), rfl⟩

set_option maxRecDepth 100000 in
set_option maxHeartbeats 2000000 in
theorem markedR_any (lo hj l : Int) (w : World) (hl : 0 ≤ l ∧ l ≤ 1000) (h1 : -300 ≤ lo ∧ lo ≤ 300) (h2 : -300 ≤ hj ∧ hj ≤ 300) :
    Calls Try.prog 62 #[.agg #[.int .i64 lo, .int .i64 hj], .int .i64 l] w fun e w' => e = .returned (.agg #[.int .i64 (lim (l + lo)), .int .i64 (lim (l + hj))]) ∧ Below w.heap.size w w' := by
  obtain ⟨hl0, hl1⟩ := hl
  obtain ⟨h10, h11⟩ := h1
  obtain ⟨h20, h21⟩ := h2
  have hw1 : IntKind.i64.wrap (l + lo) = l + lo := by rw [IntKind.wrap_i64]; omega
  have hw2 : IntKind.i64.wrap (l + hj) = l + hj := by rw [IntKind.wrap_i64]; omega
  have hL := hide (fun W => Within_any (l + lo) W)
  have hR := hide (fun W => Within_any (l + hj) W)
  obtain ⟨ma, hma⟩ : ∃ ma, lim (l + lo) = ma := ⟨_, rfl⟩
  obtain ⟨mb, hmb⟩ : ∃ mb, lim (l + hj) = mb := ⟨_, rfl⟩
  rw [hma] at hL ⊢
  rw [hmb] at hR ⊢
  replace hma := hide hma
  replace hmb := hide hmb
  obtain ⟨W0, hW0⟩ : ∃ W0, (w.alloc (.cells #[.int .i64 lo, .int .i64 hj] 32)).alloc (.cells #[.int .i64 0, .int .i64 0] 32) = W0 := ⟨_, rfl⟩
  have kb := hide (show Blk W0 w.heap.size 32 #[.int .i64 lo, .int .i64 hj] by rw [← hW0]; exact (blkNew rfl).alloc _)
  have kr := hide (show Blk W0 (w.heap.size + 1) 32 #[.int .i64 0, .int .i64 0] by rw [← hW0]; exact blkNew (by simp))
  have hB0 := hide (show Below w.heap.size w W0 by rw [← hW0]; exact ((Below.refl _ _).alloc (Nat.le_refl _) _).alloc (by simp) _)
  replace hW0 := hide hW0
  go_enter Try.func62, Try.ntmps62
  go_wp2_with fail
  rw [hW0.out]
  have zb := kb.out.lt
  refine region_grow_tail 11 [IsV (.int .i64 l), IsV (.pointer (some ⟨w.heap.size, 0, none⟩)), IsV (.int .i64 lo), IsV (.int .i64 (l + lo)), IsV (.int .i64 ma),
    IsV (.int .i64 l), IsV (.pointer (some ⟨w.heap.size, 1, none⟩)), IsV (.int .i64 hj), IsV (.int .i64 (l + hj)), IsV (.int .i64 mb), IsV (.agg #[.int .i64 ma, .int .i64 mb])] (by kernel_rfl) (by kernel_rfl) rfl ?_ ?_ ?_
  · simp [AllStb, IsV.stb]
  · refine ⟨?_, ?_, ?_, ?_, ?_, ?_, ?_, ?_, ?_, ?_, ?_, trivial⟩
    all_goals
      intro y w6 K Qq Cv hC hd hV
      have q0 : w6.cell? ⟨w.heap.size, 0, none⟩ = some (.int .i64 lo) := (kb.out.below hC zb).cell 0
      have q1 : w6.cell? ⟨w.heap.size, 1, none⟩ = some (.int .i64 hj) := (kb.out.below hC zb).cell 1
      simp [deps, VL, IsV, Region.binds] at hd
      simp only [List.take_succ_cons, List.take_zero, putAll, Act.put]
      go_simp; intro hK
    all_goals first
      | exact hK _ _ (hV _ _ hC (Below.refl _ _) rfl)
      | exact hK _ _ (hV _ _ hC (Below.refl _ _) (by simp only [IsV]; rw [hw1]))
      | exact hK _ _ (hV _ _ hC (Below.refl _ _) (by simp only [IsV]; rw [hw2]))
      | (refine (hL.out _).mono ?_; rintro e w7 ⟨rfl, rfl⟩; exact hK _ _ (hV _ _ hC (Below.refl _ _) rfl))
      | (refine (hR.out _).mono ?_; rintro e w7 ⟨rfl, rfl⟩; exact hK _ _ (hV _ _ hC (Below.refl _ _) rfl))
  · intro y w6 hC hd
    simp [EndsL, IsV] at hd
    obtain ⟨d0, d1, d2, d3, d4, d5, d6, d7, d8, d9, d10⟩ := hd
    simp only [List.take_succ_cons, List.take_zero, List.drop_succ_cons, List.drop_zero, putAll, Act.put]
    rw [d0, d1, d2, d3, d4, d5, d6, d7, d8, d9, d10]
    clear d0 d1 d2 d3 d4 d5 d6 d7 d8 d9 d10
    simp only [List.setIfInBounds_toArray, List.set_cons_succ, List.set_cons_zero]
    have hz0 : w.heap.size < W0.heap.size := zb
    have hB6 := hide (hB0.out.trans (hC.mono (by omega)))
    have k6 := kr.out.below hC kr.out.lt
    have z0 : w6.cell? ⟨w.heap.size + 1, 0, none⟩ = some (.int .i64 0) := k6.cell 0
    have z1 : w6.cell? ⟨w.heap.size + 1, 1, none⟩ = some (.int .i64 0) := k6.cell 1
    have f0 : w6.frozen? ⟨w.heap.size + 1, 0, none⟩ = false := k6.frozen 0
    have f1 : w6.frozen? ⟨w.heap.size + 1, 1, none⟩ = false := k6.frozen 1
    have hRn := (k6.set_ 0 (.int .i64 ma)).set_ 1 (.int .i64 mb)
    have e0' := (hRn.cell 0).trans (show _ = some (Value.int .i64 ma) by simp)
    have e1' := (hRn.cell 1).trans (show _ = some (Value.int .i64 mb) by simp)
    replace k6 := hide k6
    clear hRn hC kr kb hL hR
    go_wp2
    refine bodyPost_ret (v := .agg #[.int .i64 ma, .int .i64 mb]) (by simp [results, Try.results62, go_sem, e0', e1']) rfl ⟨rfl, ?_⟩
    exact (hB6.out.setCell (by simp) _).setCell (by simp) _
end Go.Proofs.Ytkhijdbigpaagaa

/-
  The reference's behind, asked, Marks and Behind.
-/
namespace Go.Proofs.Ytkhijdbigpaagaa
open Go.RowKit RG

/-- What the reference's behind answers. -/
def behR (b : Sp) (m : Int) : Sp := if (behindS b m).2 < (behindS b m).1 then (1, 0) else behindS b m
/-- What is found among the levels above l. -/
def InvB (lo hj m l a b : Int) : Prop :=
  (a = 1 ∧ b = 0 ∧ ∀ n, l < n → n ≤ 1000 → ¬ (lim (n + lo) ≤ m ∧ m ≤ lim (n + hj))) ∨
  (l < a ∧ 0 ≤ a ∧ a ≤ b ∧ b ≤ 1000 ∧ (lim (a + lo) ≤ m ∧ m ≤ lim (a + hj)) ∧ (lim (b + lo) ≤ m ∧ m ≤ lim (b + hj)) ∧ ∀ n, l < n → n ≤ 1000 → lim (n + lo) ≤ m ∧ m ≤ lim (n + hj) → a ≤ n ∧ n ≤ b)
theorem invB_end {lo hj m a b : Int} (hm : 0 ≤ m ∧ m ≤ 1000) (h : InvB lo hj m (-1) a b) : behR (lo, hj) m = (a, b) := by
  have hi := fun l => behind_iff (b := (lo, hj)) (m := m) (l := l) hm
  unfold inS at hi
  simp only at hi
  unfold behR
  generalize behindS (lo, hj) m = pq at *
  obtain ⟨p, q⟩ := pq
  simp only at hi ⊢
  rcases h with ⟨rfl, rfl, h⟩ | ⟨h1, h2, h3, h4, h5, h6, h7⟩
  · rw [if_pos]
    by_cases hpq : q < p
    · exact hpq
    · obtain ⟨⟨x1, x2⟩, x3, x4⟩ := (hi p).1 ⟨Int.le_refl _, by omega⟩
      exact absurd ⟨x3, x4⟩ (h p (by omega) x2)
  · have ha := (hi a).2 ⟨⟨h2, by omega⟩, h5⟩
    have hb := (hi b).2 ⟨⟨by omega, h4⟩, h6⟩
    obtain ⟨⟨x1, x2⟩, x3⟩ := (hi p).1 ⟨Int.le_refl _, by omega⟩
    obtain ⟨⟨y1, y2⟩, y3⟩ := (hi q).1 ⟨by omega, Int.le_refl _⟩
    have := h7 p (by omega) x2 x3
    have := h7 q (by omega) y2 y3
    rw [if_neg (by omega)]
    rw [Prod.mk.injEq]
    omega
theorem invB_no {lo hj m l a b : Int} (h : InvB lo hj m l a b) (hn : ¬ (lim (l + lo) ≤ m ∧ m ≤ lim (l + hj))) : InvB lo hj m (l - 1) a b := by
  rcases h with ⟨h1, h2, h3⟩ | ⟨h1, h2, h3, h4, h5, h6, h7⟩
  · refine .inl ⟨h1, h2, fun n h4 h5 => ?_⟩
    by_cases e : n = l
    · subst e; exact hn
    · exact h3 n (by omega) h5
  · refine .inr ⟨by omega, h2, h3, h4, h5, h6, fun n x1 x2 x3 => ?_⟩
    by_cases e : n = l
    · subst e; exact absurd x3 hn
    · exact h7 n (by omega) x2 x3
theorem invB_new {lo hj m l a b : Int} (h : InvB lo hj m l a b) (hl : 0 ≤ l ∧ l ≤ 1000) (hab : b < a) (hy : lim (l + lo) ≤ m ∧ m ≤ lim (l + hj)) : InvB lo hj m (l - 1) l l := by
  rcases h with ⟨h1, h2, h3⟩ | ⟨h1, h2, h3, h4, h5, h6, h7⟩
  · refine .inr ⟨by omega, hl.1, Int.le_refl _, hl.2, hy, hy, fun n x1 x2 x3 => ?_⟩
    by_cases e : n = l
    · omega
    · exact absurd x3 (h3 n (by omega) x2)
  · omega
theorem invB_more {lo hj m l a b : Int} (h : InvB lo hj m l a b) (hl : 0 ≤ l ∧ l ≤ 1000) (hab : ¬ b < a) (hy : lim (l + lo) ≤ m ∧ m ≤ lim (l + hj)) : InvB lo hj m (l - 1) l b := by
  rcases h with ⟨h1, h2, h3⟩ | ⟨h1, h2, h3, h4, h5, h6, h7⟩
  · omega
  · refine .inr ⟨by omega, hl.1, by omega, h4, hy, h6, fun n x1 x2 x3 => ?_⟩
    by_cases e : n = l
    · omega
    · have := h7 n (by omega) x2 x3
      omega

set_option maxRecDepth 100000 in
set_option maxHeartbeats 4000000 in
theorem behindR_any (lo hj m : Int) (w : World) (hm : 0 ≤ m ∧ m ≤ 1000) (h1 : -300 ≤ lo ∧ lo ≤ 300) (h2 : -300 ≤ hj ∧ hj ≤ 300) :
    Calls Try.prog 65 #[.agg #[.int .i64 lo, .int .i64 hj], .int .i64 m] w fun e w' => e = .returned (.agg #[.int .i64 (behR (lo, hj) m).1, .int .i64 (behR (lo, hj) m).2]) ∧ Below w.heap.size w w' := by
  obtain ⟨ra, hra⟩ : ∃ ra, (behR (lo, hj) m).1 = ra := ⟨_, rfl⟩
  obtain ⟨rb, hrb⟩ : ∃ rb, (behR (lo, hj) m).2 = rb := ⟨_, rfl⟩
  rw [hra, hrb]
  replace hra := hide hra
  replace hrb := hide hrb
  obtain ⟨W0, hW0⟩ : ∃ W0, ((w.alloc (.cells #[.int .i64 lo, .int .i64 hj] 32)).alloc (.cells #[.int .i64 0, .int .i64 0] 32)).alloc (.cells #[.int .i64 1, .int .i64 0] 32) = W0 := ⟨_, rfl⟩
  have kb := hide (show Blk W0 w.heap.size 32 #[.int .i64 lo, .int .i64 hj] by rw [← hW0]; exact ((blkNew rfl).alloc _).alloc _)
  have kr := hide (show Blk W0 (w.heap.size + 1) 32 #[.int .i64 0, .int .i64 0] by rw [← hW0]; exact (blkNew (by simp)).alloc _)
  have ko := hide (show Blk W0 (w.heap.size + 2) 32 #[.int .i64 1, .int .i64 0] by rw [← hW0]; exact blkNew (by simp +arith))
  have hB0 := hide (show Below w.heap.size w W0 by rw [← hW0]; exact (((Below.refl _ _).alloc (Nat.le_refl _) _).alloc (by simp) _).alloc (by simp +arith) _)
  replace hW0 := hide hW0
  have hmk := hide (fun (l : Int) (hl : 0 ≤ l ∧ l ≤ 1000) W => markedR_any lo hj l W hl h1 h2)
  replace hm := hide hm
  clear h1 h2
  have h00 := hide (show InvB lo hj m 1000 1 0 from .inl ⟨rfl, rfl, fun n h1 h2 => absurd h1 (by omega)⟩)
  go_enter Try.func65, Try.ntmps65
  go_wp2
  rw [hW0.out]
  go_loopg [6, 7] 1001 (fun gg s6 _ wr => ∃ (l a b : Int), -1 ≤ l ∧ l ≤ 1000 ∧ l + 1 ≤ (gg : Int) ∧ s6 = .int .i64 l ∧ Hid (Below w.heap.size w wr) ∧ Hid (Blk wr w.heap.size 32 #[.int .i64 lo, .int .i64 hj]) ∧ Hid (Blk wr (w.heap.size + 1) 32 #[.int .i64 0, .int .i64 0]) ∧ Hid (Blk wr (w.heap.size + 2) 32 #[.int .i64 a, .int .i64 b]) ∧ Hid (InvB lo hj m l a b))
  case atStart => exact ⟨1000, 1, 0, by decide, by decide, by decide, rfl, hB0, kb, kr, ko, h00⟩
  case round =>
    clear hB0 kb kr ko h00
    obtain ⟨l, a, b, hl1, hl2, hgg, rfl, hB1, kb, kr, ko, hI⟩ := hrel
    by_cases hl : 0 ≤ l
    · have c0 : wr.cell? ⟨w.heap.size, 0, none⟩ = some (.int .i64 lo) := kb.out.cell 0
      have c1 : wr.cell? ⟨w.heap.size, 1, none⟩ = some (.int .i64 hj) := kb.out.cell 1
      have hK := hide (hmk.out l ⟨hl, hl2⟩)
      obtain ⟨ma, hma⟩ : ∃ ma, lim (l + lo) = ma := ⟨_, rfl⟩
      obtain ⟨mb, hmb⟩ : ∃ mb, lim (l + hj) = mb := ⟨_, rfl⟩
      have hK2 := hK.out
      rw [hma, hmb] at hK2
      replace hK2 := hide hK2
      clear hK
      replace hma := hide hma
      replace hmb := hide hmb
      go_wp2_with fail
      refine (hK2.out _).mono ?_
      rintro e w2 ⟨rfl, hb2⟩
      replace kb := hide (kb.out.below hb2 kb.out.lt)
      replace kr := hide (kr.out.below hb2 kr.out.lt)
      replace ko := hide (ko.out.below hb2 ko.out.lt)
      replace hB1 := hide (hB1.out.trans (hb2.mono hB1.out.size))
      clear c0 c1 hb2 hK2
      have km := hide (show Blk (w2.alloc (.cells #[.int .i64 ma, .int .i64 mb] 32)) w2.heap.size 32 #[.int .i64 ma, .int .i64 mb] from blkNew rfl)
      have m0 : (w2.alloc (.cells #[.int .i64 ma, .int .i64 mb] 32)).cell? ⟨w2.heap.size, 0, none⟩ = some (.int .i64 ma) := km.out.cell 0
      have m1 : (w2.alloc (.cells #[.int .i64 ma, .int .i64 mb] 32)).cell? ⟨w2.heap.size, 1, none⟩ = some (.int .i64 mb) := km.out.cell 1
      replace kb := hide (kb.out.alloc (.cells #[.int .i64 ma, .int .i64 mb] 32))
      replace kr := hide (kr.out.alloc (.cells #[.int .i64 ma, .int .i64 mb] 32))
      replace ko := hide (ko.out.alloc (.cells #[.int .i64 ma, .int .i64 mb] 32))
      replace hB1 := hide (hB1.out.alloc hB1.out.size (.cells #[.int .i64 ma, .int .i64 mb] 32))
      go_wp2_with fail
      refine (inRef_any m ma mb _).mono ?_
      rintro e w3 ⟨rfl, rfl⟩
      generalize (w2.alloc (.cells #[.int .i64 ma, .int .i64 mb] 32)) = w4 at *
      clear km m0 m1
      cases hq : inB ma mb m with
      | false =>
        have hno := hide (invB_no hI.out (fun h => by rw [hma.out, hmb.out] at h; rw [inB_iff.2 h] at hq; cases hq))
        clear hq
        go_wp2
        go_roundg (gk - 1)
        case measure => omega
        case rel => exact ⟨l - 1, a, b, by omega, by omega, by omega, by go_num, hB1, kb, kr, ko, hno⟩
      | true =>
        have hy := hide (show lim (l + lo) ≤ m ∧ m ≤ lim (l + hj) by rw [hma.out, hmb.out]; exact inB_iff.1 hq)
        clear hq
        have c0 : w4.cell? ⟨w.heap.size + 2, 0, none⟩ = some (.int .i64 a) := ko.out.cell 0
        have c1 : w4.cell? ⟨w.heap.size + 2, 1, none⟩ = some (.int .i64 b) := ko.out.cell 1
        have f0 : w4.frozen? ⟨w.heap.size + 2, 0, none⟩ = false := ko.out.frozen 0
        have f1 : w4.frozen? ⟨w.heap.size + 2, 1, none⟩ = false := ko.out.frozen 1
        by_cases hab : b < a
        · have hnew := hide (invB_new hI.out ⟨hl, hl2⟩ hab hy.out)
          go_wp2
          go_roundg (gk - 1)
          case measure => omega
          case rel =>
            have k1 := (ko.out.set_ 1 (.int .i64 l)).set_ 0 (.int .i64 l)
            refine ⟨l - 1, l, l, by omega, by omega, by omega, by go_num, hide ((hB1.out.setCell (by simp +arith) _).setCell (by simp +arith) _), hide ((kb.out.far (by simp +arith) _).far (by simp +arith) _), hide ((kr.out.far (by simp +arith) _).far (by simp +arith) _), hide (by simpa using k1), hnew⟩
        · have hmore := hide (invB_more hI.out ⟨hl, hl2⟩ hab hy.out)
          go_wp2
          go_roundg (gk - 1)
          case measure => omega
          case rel =>
            have k1 := ko.out.set_ 0 (.int .i64 l)
            refine ⟨l - 1, l, b, by omega, by omega, by omega, by go_num, hide (hB1.out.setCell (by simp +arith) _), hide (kb.out.far (by simp +arith) _), hide (kr.out.far (by simp +arith) _), hide (by simpa using k1), hmore⟩
    · have hlm : l = -1 := by omega
      subst hlm
      have hR := invB_end hm.out hI.out
      have hra1 := hra.out
      have hrb1 := hrb.out
      rw [hR] at hra1 hrb1
      simp only at hra1 hrb1
      subst hra1 hrb1
      clear hR hra hrb
      have c0 : wr.cell? ⟨w.heap.size + 2, 0, none⟩ = some (.int .i64 a) := ko.out.cell 0
      have c1 : wr.cell? ⟨w.heap.size + 2, 1, none⟩ = some (.int .i64 b) := ko.out.cell 1
      have z0 : wr.cell? ⟨w.heap.size + 1, 0, none⟩ = some (.int .i64 0) := kr.out.cell 0
      have z1 : wr.cell? ⟨w.heap.size + 1, 1, none⟩ = some (.int .i64 0) := kr.out.cell 1
      have f0 : wr.frozen? ⟨w.heap.size + 1, 0, none⟩ = false := kr.out.frozen 0
      have f1 : wr.frozen? ⟨w.heap.size + 1, 1, none⟩ = false := kr.out.frozen 1
      have hRn := (kr.out.set_ 0 (.int .i64 a)).set_ 1 (.int .i64 b)
      have e0' := (hRn.cell 0).trans (show _ = some (Value.int .i64 a) by simp)
      have e1' := (hRn.cell 1).trans (show _ = some (Value.int .i64 b) by simp)
      clear hRn
      go_wp2
      refine bodyPost_ret (v := .agg #[.int .i64 a, .int .i64 b]) (by simp [results, Try.results65, go_sem, e0', e1']) rfl ⟨rfl, ?_⟩
      exact (hB1.out.setCell (by simp +arith) _).setCell (by simp +arith) _
end Go.Proofs.Ytkhijdbigpaagaa

/-
  The reference's asked, Marks and Behind.
-/
namespace Go.Proofs.Ytkhijdbigpaagaa
open Go.RowKit RG

set_option maxRecDepth 100000 in
set_option maxHeartbeats 2000000 in
theorem asked_any (v : Value) (S : Sch) (k x : Int) (w : World) (h : RdSch w v S) :
    Calls Try.prog 61 #[v, .int .i64 k, .int .i64 x] w fun e w' => e = .returned (.int .i64 (markE S k x)) ∧ Below w.heap.size w w' := by
  obtain ⟨r, hr⟩ : ∃ r, markE S k x = r := ⟨_, rfl⟩
  rw [hr]
  unfold markE at hr
  have hC := hide (fun W (hb : Below w.heap.size w W) => CheckR_any v S W (h.below hb))
  unfold Ret3 at hC
  generalize checkS S = q at *
  obtain ⟨q0, q1, q2⟩ := q
  simp only at hr hC
  obtain ⟨A, c, A2, c2, rfl, -, -, -, -, -, h7, -, -⟩ := h
  unfold maxLen at h7
  generalize S.sks.length = n at *
  generalize S.ins.length = n2 at *
  have hB0 := hide (show Below w.heap.size w (w.alloc (.cells #[.slice A n c, .slice A2 n2 c2] 25)) from (Below.refl _ _).alloc (Nat.le_refl _) _)
  have k0 := hide (show Blk (w.alloc (.cells #[.slice A n c, .slice A2 n2 c2] 25)) w.heap.size 25 #[.slice A n c, .slice A2 n2 c2] from blkNew rfl)
  replace hr := hide hr
  go_enter Try.func61, Try.ntmps61
  go_wp2_with fail
  refine (hC.out _ hB0.out).mono ?_
  rintro e w1 ⟨rfl, hb1⟩
  have hz1 : w.heap.size < w1.heap.size := Nat.lt_of_lt_of_le (by simp) hb1.size
  have hB1 := hide (hB0.out.trans (hb1.mono (by simp)))
  have k1 := k0.out.below hb1 k0.out.lt
  have c0 : w1.cell? ⟨w.heap.size, 0, none⟩ = some (.slice A n c) := k1.cell 0
  have c1 : w1.cell? ⟨w.heap.size, 1, none⟩ = some (.slice A2 n2 c2) := k1.cell 1
  clear hb1 hB0 k0 k1 hC
  by_cases h2 : q2 = 0
  · subst h2
    have hr1 := hr.out
    rw [if_pos rfl] at hr1
    replace hr1 := hide hr1
    clear hr
    go_wp2_with fail
    refine (inRef_any k 0 ((n2 : Int) - 1) _).mono ?_
    rintro e w2 ⟨rfl, rfl⟩
    clear c0 c1
    cases hq : inB 0 ((n2 : Int) - 1) k with
    | false =>
      have hr := hr1.out
      rw [hq, if_neg (by simp)] at hr
      subst hr
      clear hq
      go_wp2
      go_ret
      exact ⟨rfl, hB1.out⟩
    | true =>
      have hr := hr1.out
      rw [hq, if_pos rfl] at hr
      replace hr := hide hr
      clear hq hr1
      go_wp2_with fail
      refine (inRef_any x 0 1000 _).mono ?_
      rintro e w3 ⟨rfl, rfl⟩
      cases hq : inB 0 1000 x with
      | false =>
        have hr2 := hr.out
        rw [hq, if_neg (by simp)] at hr2
        subst hr2
        clear hq
        go_wp2
        go_ret
        exact ⟨rfl, hB1.out⟩
      | true =>
        have hr2 := hr.out
        rw [hq, if_pos rfl] at hr2
        subst hr2
        clear hq
        go_wp2
        go_ret
        exact ⟨rfl, hB1.out⟩
  · have hr1 := hr.out
    rw [if_neg h2] at hr1
    subst hr1
    have hb1 : (q2 == 0) = false := by rw [beq_eq_false_iff_ne]; exact h2
    have hb2 : (q2 != 0) = true := by rw [bne_iff_ne]; exact h2
    replace h2 := hide h2
    clear hr c0 c1
    go_wp2
    go_ret
    exact ⟨rfl, hB1.out⟩

set_option maxRecDepth 100000 in
set_option maxHeartbeats 2000000 in
theorem MarksR_any (v : Value) (S : Sch) (k x : Int) (w : World) (h : RdSch w v S) :
    Calls Try.prog 21 #[v, .int .i64 k, .int .i64 x] w fun e w' => e = .returned (.tuple #[.agg #[.int .i64 (marksF S k x).1.1, .int .i64 (marksF S k x).1.2], .int .i64 (marksF S k x).2]) ∧ Below w.heap.size w w' := by
  have hM := hide (fun W (hb : Below w.heap.size w W) => asked_any v S k x W (h.below hb))
  obtain ⟨r, hr⟩ : ∃ r, marksF S k x = r := ⟨_, rfl⟩
  rw [hr]
  unfold marksF at hr
  by_cases h0 : markE S k x = 0
  · obtain ⟨hx0, hx1, i, rfl, hi, hlo, hlh, hhi⟩ := mark_ok h0
    rw [if_pos h0] at hr
    rw [h0] at hM
    rw [Int.toNat_natCast] at hr
    obtain ⟨A, c, A2, c2, rfl, -, -, -, -, h6, h7, h8, -⟩ := h
    have hat := map_at inCells S.ins i hi
    obtain ⟨b, off, x0, x1, x2, rfl, hb, hxs, c0, c1, c2'⟩ := h6.cells3 hi
    rw [hat] at hxs
    unfold inCells at hxs
    simp only [List.cons.injEq, and_true] at hxs
    obtain ⟨rfl, rfl, rfl⟩ := hxs
    clear h6 hat h0
    generalize (S.ins[i]?.getD default).lo = lo at *
    generalize (S.ins[i]?.getD default).hi = hj at *
    generalize S.sks.length = n at *
    generalize S.ins.length = n2 at *
    subst hr
    unfold maxLen at h7
    have hiz : (i : Int) < (n2 : Int) := by omega
    have hi0 : (0 : Int) ≤ (i : Int) := by omega
    have w1' : IntKind.i64.wrap (x + lo) = x + lo := by rw [IntKind.wrap_i64]; omega
    have w2' : IntKind.i64.wrap (x + hj) = x + hj := by rw [IntKind.wrap_i64]; omega
    have hL := hide (fun W => markedR_any lo hj x W ⟨hx0, hx1⟩ ⟨by omega, by omega⟩ ⟨by omega, by omega⟩)
    simp only
    generalize lim (x + lo) = ma at *
    generalize lim (x + hj) = mb at *
    have hB0 := hide (show Below w.heap.size w ((w.alloc (.cells #[.slice A n c, .slice (some ⟨b, off, none⟩) n2 c2] 25)).alloc (.cells #[.int .i64 0, .int .i64 0] 32)) from ((Below.refl _ _).alloc (Nat.le_refl _) _).alloc (by simp) _)
    have k0 := hide (show Blk ((w.alloc (.cells #[.slice A n c, .slice (some ⟨b, off, none⟩) n2 c2] 25)).alloc (.cells #[.int .i64 0, .int .i64 0] 32)) w.heap.size 25 #[.slice A n c, .slice (some ⟨b, off, none⟩) n2 c2] from (blkNew rfl).alloc _)
    have k1 := hide (show Blk ((w.alloc (.cells #[.slice A n c, .slice (some ⟨b, off, none⟩) n2 c2] 25)).alloc (.cells #[.int .i64 0, .int .i64 0] 32)) (w.heap.size + 1) 32 #[.int .i64 0, .int .i64 0] from blkNew (by simp))
    go_enter Try.func21, Try.ntmps21
    go_wp2_with fail
    refine (hM.out _ hB0.out).mono ?_
    rintro e w1 ⟨rfl, hb1⟩
    have hB1 := hide (hB0.out.trans (hb1.mono (by simp +arith)))
    have hz1 : w.heap.size + 1 < w1.heap.size := Nat.lt_of_lt_of_le (by simp +arith) hb1.size
    have k3 := k0.out.below hb1 k0.out.lt
    have s0 : w1.cell? ⟨w.heap.size, 0, none⟩ = some (.slice A n c) := k3.cell 0
    have s1 : w1.cell? ⟨w.heap.size, 1, none⟩ = some (.slice (some ⟨b, off, none⟩) n2 c2) := k3.cell 1
    have k2 := hide (k1.out.below hb1 k1.out.lt)
    replace c0 := (cellB hB1.out hb).trans c0
    replace c1 := (cellB hB1.out hb).trans c1
    replace c2' := (cellB hB1.out hb).trans c2'
    clear hb1 hB0 k0 k1 k3 hM
    go_wp2_with fail
    refine (hL.out _).mono ?_
    rintro e w2 ⟨rfl, hb2⟩
    have hB2 := hide (hB1.out.trans (hb2.mono (by omega)))
    have k3 := hide (k2.out.below hb2 k2.out.lt)
    clear hb2 hL c0 c1 c2' s0 s1 k2 hB1
    have z0 : w2.cell? ⟨w.heap.size + 1, 0, none⟩ = some (.int .i64 0) := k3.out.cell 0
    have z1 : w2.cell? ⟨w.heap.size + 1, 1, none⟩ = some (.int .i64 0) := k3.out.cell 1
    have f0 : w2.frozen? ⟨w.heap.size + 1, 0, none⟩ = false := k3.out.frozen 0
    have f1 : w2.frozen? ⟨w.heap.size + 1, 1, none⟩ = false := k3.out.frozen 1
    have hRn := (k3.out.set_ 0 (.int .i64 ma)).set_ 1 (.int .i64 mb)
    have e0' := (hRn.cell 0).trans (show _ = some (Value.int .i64 ma) by simp)
    have e1' := (hRn.cell 1).trans (show _ = some (Value.int .i64 mb) by simp)
    clear hRn
    go_wp2
    refine bodyPost_ret (v := .tuple #[.agg #[.int .i64 ma, .int .i64 mb], .int .i64 0]) (by simp [results, Try.results21, go_sem, e0', e1']) rfl ⟨rfl, ?_⟩
    exact (hB2.out.setCell (by simp) _).setCell (by simp) _
  · rw [if_neg h0] at hr
    subst hr
    generalize markE S k x = r at *
    obtain ⟨A, c, A2, c2, rfl, -⟩ := h
    generalize S.sks.length = n at *
    generalize S.ins.length = n2 at *
    have hb1 : (r == 0) = false := by rw [beq_eq_false_iff_ne]; exact h0
    have hb2 : (r != 0) = true := by rw [bne_iff_ne]; exact h0
    replace h0 := hide h0
    have hB0 := hide (show Below w.heap.size w ((w.alloc (.cells #[.slice A n c, .slice A2 n2 c2] 25)).alloc (.cells #[.int .i64 0, .int .i64 0] 32)) from ((Below.refl _ _).alloc (Nat.le_refl _) _).alloc (by simp) _)
    have k1 := hide (show Blk ((w.alloc (.cells #[.slice A n c, .slice A2 n2 c2] 25)).alloc (.cells #[.int .i64 0, .int .i64 0] 32)) (w.heap.size + 1) 32 #[.int .i64 0, .int .i64 0] from blkNew (by simp))
    simp only
    go_enter Try.func21, Try.ntmps21
    go_wp2_with fail
    refine (hM.out _ hB0.out).mono ?_
    rintro e w2 ⟨rfl, hb2'⟩
    have hB2 := hide (hB0.out.trans (hb2'.mono (by simp +arith)))
    have k3 := hide (k1.out.below hb2' k1.out.lt)
    clear hb2' hB0 k1 hM
    have z0 : w2.cell? ⟨w.heap.size + 1, 0, none⟩ = some (.int .i64 0) := k3.out.cell 0
    have z1 : w2.cell? ⟨w.heap.size + 1, 1, none⟩ = some (.int .i64 0) := k3.out.cell 1
    have f0 : w2.frozen? ⟨w.heap.size + 1, 0, none⟩ = false := k3.out.frozen 0
    have f1 : w2.frozen? ⟨w.heap.size + 1, 1, none⟩ = false := k3.out.frozen 1
    have hRn := (k3.out.set_ 0 (.int .i64 0)).set_ 1 (.int .i64 0)
    have e0' := (hRn.cell 0).trans (show _ = some (Value.int .i64 0) by simp)
    have e1' := (hRn.cell 1).trans (show _ = some (Value.int .i64 0) by simp)
    clear hRn
    go_wp2
    refine bodyPost_ret (v := .tuple #[.agg #[.int .i64 0, .int .i64 0], .int .i64 r]) (by simp [results, Try.results21, go_sem, e0', e1']) rfl ⟨rfl, ?_⟩
    exact (hB2.out.setCell (by simp) _).setCell (by simp) _

set_option maxRecDepth 100000 in
set_option maxHeartbeats 2000000 in
theorem BehindR_any (v : Value) (S : Sch) (k x : Int) (w : World) (h : RdSch w v S) :
    Calls Try.prog 23 #[v, .int .i64 k, .int .i64 x] w fun e w' => e = .returned (.tuple #[.agg #[.int .i64 (behindF S k x).1.1, .int .i64 (behindF S k x).1.2], .int .i64 (behindF S k x).2]) ∧ Below w.heap.size w w' := by
  have hM := hide (fun W (hb : Below w.heap.size w W) => asked_any v S k x W (h.below hb))
  obtain ⟨r, hr⟩ : ∃ r, behindF S k x = r := ⟨_, rfl⟩
  rw [hr]
  unfold behindF at hr
  by_cases h0 : markE S k x = 0
  · obtain ⟨hx0, hx1, i, rfl, hi, hlo, hlh, hhi⟩ := mark_ok h0
    rw [if_pos h0] at hr
    rw [h0] at hM
    rw [Int.toNat_natCast] at hr
    obtain ⟨A, c, A2, c2, rfl, -, -, -, -, h6, h7, h8, -⟩ := h
    have hat := map_at inCells S.ins i hi
    obtain ⟨b, off, x0, x1, x2, rfl, hb, hxs, c0, c1, c2'⟩ := h6.cells3 hi
    rw [hat] at hxs
    unfold inCells at hxs
    simp only [List.cons.injEq, and_true] at hxs
    obtain ⟨rfl, rfl, rfl⟩ := hxs
    clear h6 hat h0
    generalize (S.ins[i]?.getD default).lo = lo at *
    generalize (S.ins[i]?.getD default).hi = hj at *
    generalize S.sks.length = n at *
    generalize S.ins.length = n2 at *
    unfold maxLen at h7
    have hiz : (i : Int) < (n2 : Int) := by omega
    have hi0 : (0 : Int) ≤ (i : Int) := by omega
    have hL := hide (fun W => behindR_any lo hj x W ⟨hx0, hx1⟩ ⟨by omega, by omega⟩ ⟨by omega, by omega⟩)
    obtain ⟨ma, mb, hbe, hcs⟩ : ∃ ma mb, behR (lo, hj) x = (ma, mb) ∧ ((mb < ma ∧ r = ((0, 0), 9)) ∨ (¬ mb < ma ∧ r = ((ma, mb), 0))) := by
      refine ⟨(behR (lo, hj) x).1, (behR (lo, hj) x).2, rfl, ?_⟩
      unfold behR
      split
      · rename_i hc
        rw [if_pos hc] at hr
        exact .inl ⟨by decide, hr.symm⟩
      · rename_i hc
        rw [if_neg hc] at hr
        exact .inr ⟨hc, hr.symm⟩
    rw [hbe] at hL
    simp only at hL
    clear hbe hr
    replace hcs := hide hcs
    have hB0 := hide (show Below w.heap.size w ((w.alloc (.cells #[.slice A n c, .slice (some ⟨b, off, none⟩) n2 c2] 25)).alloc (.cells #[.int .i64 0, .int .i64 0] 32)) from ((Below.refl _ _).alloc (Nat.le_refl _) _).alloc (by simp) _)
    have k0 := hide (show Blk ((w.alloc (.cells #[.slice A n c, .slice (some ⟨b, off, none⟩) n2 c2] 25)).alloc (.cells #[.int .i64 0, .int .i64 0] 32)) w.heap.size 25 #[.slice A n c, .slice (some ⟨b, off, none⟩) n2 c2] from (blkNew rfl).alloc _)
    have k1 := hide (show Blk ((w.alloc (.cells #[.slice A n c, .slice (some ⟨b, off, none⟩) n2 c2] 25)).alloc (.cells #[.int .i64 0, .int .i64 0] 32)) (w.heap.size + 1) 32 #[.int .i64 0, .int .i64 0] from blkNew (by simp))
    go_enter Try.func23, Try.ntmps23
    go_wp2_with fail
    refine (hM.out _ hB0.out).mono ?_
    rintro e w1 ⟨rfl, hb1⟩
    have hB1 := hide (hB0.out.trans (hb1.mono (by simp +arith)))
    have hz1 : w.heap.size + 1 < w1.heap.size := Nat.lt_of_lt_of_le (by simp +arith) hb1.size
    have k3 := k0.out.below hb1 k0.out.lt
    have s0 : w1.cell? ⟨w.heap.size, 0, none⟩ = some (.slice A n c) := k3.cell 0
    have s1 : w1.cell? ⟨w.heap.size, 1, none⟩ = some (.slice (some ⟨b, off, none⟩) n2 c2) := k3.cell 1
    have k2 := hide (k1.out.below hb1 k1.out.lt)
    replace c0 := (cellB hB1.out hb).trans c0
    replace c1 := (cellB hB1.out hb).trans c1
    replace c2' := (cellB hB1.out hb).trans c2'
    clear hb1 hB0 k0 k1 k3 hM
    go_wp2_with fail
    refine (hL.out _).mono ?_
    rintro e w2 ⟨rfl, hb2⟩
    have hz2 : w.heap.size + 1 < w2.heap.size := Nat.lt_of_lt_of_le hz1 hb2.size
    have hz4 : w.heap.size + 1 ≠ w2.heap.size := by omega
    have hB3 := hide (hB1.out.trans (hb2.mono (by omega)))
    have k4 := hide (k2.out.below hb2 k2.out.lt)
    have k5 := hide (show Blk (w2.alloc (.cells #[.int .i64 ma, .int .i64 mb] 32)) w2.heap.size 32 #[.int .i64 ma, .int .i64 mb] from blkNew rfl)
    clear hb2 hL c0 c1 c2' s0 s1 k2 hB1
    have z0 : w2.cell? ⟨w.heap.size + 1, 0, none⟩ = some (.int .i64 0) := k4.out.cell 0
    have z1 : w2.cell? ⟨w.heap.size + 1, 1, none⟩ = some (.int .i64 0) := k4.out.cell 1
    have y0 : (w2.alloc (.cells #[.int .i64 ma, .int .i64 mb] 32)).cell? ⟨w2.heap.size, 0, none⟩ = some (.int .i64 ma) := k5.out.cell 0
    have y1 : (w2.alloc (.cells #[.int .i64 ma, .int .i64 mb] 32)).cell? ⟨w2.heap.size, 1, none⟩ = some (.int .i64 mb) := k5.out.cell 1
    have f0 : w2.frozen? ⟨w.heap.size + 1, 0, none⟩ = false := k4.out.frozen 0
    have f1 : w2.frozen? ⟨w.heap.size + 1, 1, none⟩ = false := k4.out.frozen 1
    rcases hcs.out with ⟨hq, rfl⟩ | ⟨hq, rfl⟩
    · clear hcs
      have hRn := ((k4.out.set_ 0 (.int .i64 0)).set_ 1 (.int .i64 0)).alloc (.cells #[.int .i64 ma, .int .i64 mb] 32)
      have e0' := (hRn.cell 0).trans (show _ = some (Value.int .i64 0) by simp)
      have e1' := (hRn.cell 1).trans (show _ = some (Value.int .i64 0) by simp)
      clear hRn
      go_wp2
      refine bodyPost_ret (v := .tuple #[.agg #[.int .i64 0, .int .i64 0], .int .i64 9]) (by simp [results, Try.results23, go_sem, e0', e1']) rfl ⟨rfl, ?_⟩
      exact ((hB3.out.setCell (by simp) _).setCell (by simp) _).alloc (by simp [World.setCell]; omega) _
    · clear hcs
      have hRn := ((k4.out.set_ 0 (.int .i64 ma)).set_ 1 (.int .i64 mb)).alloc (.cells #[.int .i64 ma, .int .i64 mb] 32)
      have e0' := (hRn.cell 0).trans (show _ = some (Value.int .i64 ma) by simp)
      have e1' := (hRn.cell 1).trans (show _ = some (Value.int .i64 mb) by simp)
      clear hRn
      go_wp2
      refine bodyPost_ret (v := .tuple #[.agg #[.int .i64 ma, .int .i64 mb], .int .i64 0]) (by simp [results, Try.results23, go_sem, e0', e1']) rfl ⟨rfl, ?_⟩
      exact ((hB3.out.setCell (by simp) _).setCell (by simp) _).alloc (by simp [World.setCell]; omega) _
  · rw [if_neg h0] at hr
    subst hr
    generalize markE S k x = r at *
    obtain ⟨A, c, A2, c2, rfl, -⟩ := h
    generalize S.sks.length = n at *
    generalize S.ins.length = n2 at *
    have hb1 : (r == 0) = false := by rw [beq_eq_false_iff_ne]; exact h0
    have hb2 : (r != 0) = true := by rw [bne_iff_ne]; exact h0
    replace h0 := hide h0
    have hB0 := hide (show Below w.heap.size w ((w.alloc (.cells #[.slice A n c, .slice A2 n2 c2] 25)).alloc (.cells #[.int .i64 0, .int .i64 0] 32)) from ((Below.refl _ _).alloc (Nat.le_refl _) _).alloc (by simp) _)
    have k1 := hide (show Blk ((w.alloc (.cells #[.slice A n c, .slice A2 n2 c2] 25)).alloc (.cells #[.int .i64 0, .int .i64 0] 32)) (w.heap.size + 1) 32 #[.int .i64 0, .int .i64 0] from blkNew (by simp))
    simp only
    go_enter Try.func23, Try.ntmps23
    go_wp2_with fail
    refine (hM.out _ hB0.out).mono ?_
    rintro e w2 ⟨rfl, hb2'⟩
    have hB2 := hide (hB0.out.trans (hb2'.mono (by simp +arith)))
    have k3 := hide (k1.out.below hb2' k1.out.lt)
    clear hb2' hB0 k1 hM
    have z0 : w2.cell? ⟨w.heap.size + 1, 0, none⟩ = some (.int .i64 0) := k3.out.cell 0
    have z1 : w2.cell? ⟨w.heap.size + 1, 1, none⟩ = some (.int .i64 0) := k3.out.cell 1
    have f0 : w2.frozen? ⟨w.heap.size + 1, 0, none⟩ = false := k3.out.frozen 0
    have f1 : w2.frozen? ⟨w.heap.size + 1, 1, none⟩ = false := k3.out.frozen 1
    have hRn := (k3.out.set_ 0 (.int .i64 0)).set_ 1 (.int .i64 0)
    have e0' := (hRn.cell 0).trans (show _ = some (Value.int .i64 0) by simp)
    have e1' := (hRn.cell 1).trans (show _ = some (Value.int .i64 0) by simp)
    clear hRn
    go_wp2
    refine bodyPost_ret (v := .tuple #[.agg #[.int .i64 0, .int .i64 0], .int .i64 r]) (by simp [results, Try.results23, go_sem, e0', e1']) rfl ⟨rfl, ?_⟩
    exact (hB2.out.setCell (by simp) _).setCell (by simp) _
end Go.Proofs.Ytkhijdbigpaagaa
