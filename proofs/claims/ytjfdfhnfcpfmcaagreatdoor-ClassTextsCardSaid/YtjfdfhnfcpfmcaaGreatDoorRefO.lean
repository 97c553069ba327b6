/-
  The reference's Split.
-/
import Derived.Test.YtjfdfhnfcpfmcaaGreatDoorMp
import Derived.Test.YtjfdfhnfcpfmcaaGreatDoorMn
namespace Go.Proofs.YtjfdfhnfcpfmcaaGreatDoor
open Go.RowKit RG

theorem drop_at {c : UInt8} {l : List UInt8} {b i : Nat} (hb : b ≤ i) (hc : l[i]? = some c) : l.drop b = (l.drop b).take (i - b) ++ c :: l.drop (i + 1) := by
  have hi : i < l.length := by
    rcases Nat.lt_or_ge i l.length with h | h
    · exact h
    · rw [List.getElem?_eq_none h] at hc; cases hc
  have h1 : l.drop i = c :: l.drop (i + 1) := by
    rw [List.drop_eq_getElem_cons hi]
    rw [List.getElem?_eq_getElem hi] at hc
    injection hc with hc
    rw [hc]
  have h2 := (List.take_append_drop (i - b) (l.drop b)).symm
  rw [List.drop_drop, show b + (i - b) = i by omega, h1] at h2
  exact h2
theorem split_hit {c : UInt8} {l : List UInt8} {b i : Nat} (hb : b ≤ i) (hc : l[i]? = some c) (hno : c ∉ (l.drop b).take (i - b)) : Tx.splitC c (l.drop b) = (l.drop b).take (i - b) :: Tx.splitC c (l.drop (i + 1)) := by
  have := Tx.splitC_app c (l.drop (i + 1)) _ hno
  rw [← drop_at hb hc] at this
  exact this
theorem free_next {c x : UInt8} {l : List UInt8} {b i : Nat} (hb : b ≤ i) (hx : l[i]? = some x) (hne : x ≠ c) (hno : c ∉ (l.drop b).take (i - b)) : c ∉ (l.drop b).take (i + 1 - b) := by
  rw [show i + 1 - b = (i - b) + 1 by omega, List.take_add_one, List.getElem?_drop, show b + (i - b) = i by omega, hx, List.mem_append]
  rintro (h | h)
  · exact hno h
  · simp at h; exact hne h.symm
theorem byte_get (s : ByteArray) (k : Nat) (h : k < s.size) : s.data.toList[k]? = some s[k] := by
  have h' : k < s.data.toList.length := by simpa using h
  rw [List.getElem?_eq_getElem h']
  rfl
theorem rdStrs_own {w : World} {base : Nat} {v : Value} {xs : List ByteArray} (h : w.ownsRow base 9 1 v xs.length (xs.map Value.string)) (hs : ∀ x ∈ xs, x.size ≤ maxLen) : ∃ A c, v = .slice A xs.length c ∧ RdStrs w A xs.length xs := by
  obtain ⟨A, c, e, h1, _⟩ := strs_of_own h hs
  exact ⟨A, c, e, h1⟩
/-- The value is a slice of the parts. -/
def IsStrs (xs : List ByteArray) : Value → World → Prop := fun v w => ∃ A c, v = .slice A xs.length c ∧ RdStrs w A xs.length xs ∧ xs.length ≤ c
theorem IsStrs.stb (xs : List ByteArray) : Stb (IsStrs xs) := fun _ _ _ hb ⟨A, c, e, h, h2⟩ => ⟨A, c, e, h.below hb, h2⟩

set_option maxRecDepth 100000 in
set_option maxHeartbeats 4000000 in
theorem SplitR_any (s : ByteArray) (c : UInt8) (w : World) (hs : s.size ≤ 1000000) :
    Calls Tryz.prog 91 #[.string s, .int .u8 (c.toNat : Int)] w fun e w' => (∃ v, e = .returned v ∧ IsStrs (splitL c s) v w') ∧ Below w.heap.size w w' := by
  obtain ⟨i0, hi, hz0, hz1, hz2⟩ := info_parts infoStr
  replace hi := hide hi
  replace hz0 := hide hz0
  replace hz1 := hide hz1
  replace hz2 := hide hz2
  have hby := hide (byte_get s)
  have hsp := hide (Tx.splitB_splitC c s)
  have hxe := hide (fun a b => Lib.extract_data s a b)
  have hln : s.data.toList.length = s.size := by simp
  obtain ⟨l, hl⟩ : ∃ l, s.data.toList = l := ⟨_, rfl⟩
  rw [hl] at hby hsp hxe hln
  replace hl := hide hl
  go_enter Tryz.func91, Tryz.ntmps91
  go_wp2
  go_loopg [5, 6, 7] s.size (fun g ov bv iv wr => ∃ (i b : Nat) (done : List ByteArray), i ≤ s.size ∧ s.size - i ≤ g ∧ b ≤ i ∧ done.length ≤ i ∧ iv = .int .i64 i ∧ bv = .int .i64 b ∧ Hid (Below w.heap.size w wr) ∧ Hid (wr.ownsRow w.heap.size 9 1 ov done.length (done.map Value.string)) ∧
    Hid (done.map (·.data.toList) ++ Tx.splitC c (l.drop b) = Tx.splitC c l) ∧ Hid (c ∉ (l.drop b).take (i - b)) ∧ Hid (∀ x ∈ done, x.size ≤ s.size))
  case atStart => exact ⟨0, 0, [], Nat.zero_le _, by omega, Nat.le_refl _, Nat.le_refl _, rfl, rfl, Below.refl _ _, World.ownsRow_nil _ _ _ _, by unfold Hid; simp, by unfold Hid; simp, by unfold Hid; simp⟩
  case round =>
    obtain ⟨i, b, done, hik, hg, hbi, hdl, rfl, rfl, BW, hown, hd, hno, hsz⟩ := hrel
    by_cases hlt : i < s.size
    · have hltz : (i : Int) < (s.size : Int) := by omega
      have hi0 : (0 : Int) ≤ (i : Int) := by omega
      by_cases hc : s[i] = c
      · have heq : (((s[i]).toNat : Int) == (c.toNat : Int)) = true := by rw [hc]; simp
        have hd2 := hide (show (done ++ [s.extract b i]).map (·.data.toList) ++ Tx.splitC c (l.drop (i + 1)) = Tx.splitC c l by
          have h1 := hby.out i hlt
          rw [hc] at h1
          rw [← hd.out, split_hit hbi h1 hno.out, List.map_append, List.map_cons, List.map_nil, hxe.out, List.append_assoc, List.singleton_append])
        have hsz2 := hide (show ∀ x ∈ done ++ [s.extract b i], x.size ≤ s.size by
          intro x hx
          rcases List.mem_append.1 hx with hx | hx
          · exact hsz.out x hx
          · rw [List.mem_singleton] at hx
            subst hx
            rw [ByteArray.size_extract]
            omega)
        clear hc hd hno hsz
        have hbiz : (b : Int) ≤ (i : Int) := by omega
        have hbz : (0 : Int) ≤ (b : Int) := by omega
        have hilez : (i : Int) ≤ (s.size : Int) := by omega
        have hszw := BW.out.size
        go_wp2_with (at_builtin; refine wpList_append_own _ rfl _ _ 36 rfl w.heap.size 9 i0 (.string ByteArray.empty) 1 16 Tryz.underlying36 hi.out hz0.out hz1.out hz2.out rfl (by decide) _ _ _ rfl (hown.out.alloc _) ⟨wr.heap.size, 0, none⟩ 1 1 [.string (s.extract b i)] rfl rfl (cell_one_new _ _ _) (by simp [Value.oneCell']) (by unfold maxLen; omega) (by omega) (by simp; omega) ?_; intro v' w4 hown4 hgrow4 _)
        have BW4 := hide ((BW.out.alloc hszw (.cells #[.string (s.extract b i)] 9)).grown hgrow4 (by simp; omega) (fun k hk => (hown.out.lt k hk).1))
        replace hown4 := hide hown4
        clear hown hgrow4 BW
        go_wp2
        go_roundg (s.size - (i + 1))
        case measure => omega
        case rel =>
          refine ⟨i + 1, i + 1, done ++ [s.extract b i], by omega, by omega, Nat.le_refl _, by simp; omega, by go_num, by go_num, BW4, ?_, hd2, ?_, hsz2⟩
          · have := hown4.out
            refine hide ?_
            simpa using this
          · unfold Hid; simp
      · have heq : (((s[i]).toNat : Int) == (c.toNat : Int)) = false := by
          rw [beq_eq_false_iff_ne]
          intro h
          apply hc
          have : (s[i]).toNat = c.toNat := by omega
          exact UInt8.toNat_inj.1 this
        have hno2 := hide (free_next hbi (hby.out i hlt) hc hno.out)
        clear hc hno
        go_wp2
        go_roundg (s.size - (i + 1))
        case measure => omega
        case rel => exact ⟨i + 1, b, done, by omega, by omega, by omega, by omega, by go_num, rfl, BW, hown, hd, hno2, hsz⟩
    · obtain rfl : i = s.size := by omega
      have hltz : ¬ (s.size : Int) < (s.size : Int) := by omega
      have hlast : Tx.splitC c (l.drop b) = [l.drop b] := by
        have h1 := hno.out
        rw [List.take_of_length_le (by rw [List.length_drop, hln]; exact Nat.le_refl _)] at h1
        exact Tx.splitC_word c _ h1
      have hfin := hide (show done ++ [s.extract b s.size] = splitL c s by
        apply map_data_inj
        unfold splitL
        rw [hsp.out, ← hd.out, hlast, List.map_append, List.map_cons, List.map_nil, hxe.out, List.take_of_length_le (by rw [List.length_drop, hln]; exact Nat.le_refl _)])
      have hsz2 := hide (show ∀ x ∈ done ++ [s.extract b s.size], x.size ≤ maxLen by
        intro x hx
        unfold maxLen
        rcases List.mem_append.1 hx with hx | hx
        · have := hsz.out x hx; omega
        · rw [List.mem_singleton] at hx
          subst hx
          rw [ByteArray.size_extract]
          omega)
      clear hlast hd hno hsz
      have hbz : (0 : Int) ≤ (b : Int) := by omega
      have hbiz : (b : Int) ≤ (s.size : Int) := by omega
      have hszw := BW.out.size
      go_wp2_with (at_builtin; refine wpList_append_own _ rfl _ _ 36 rfl w.heap.size 9 i0 (.string ByteArray.empty) 1 16 Tryz.underlying36 hi.out hz0.out hz1.out hz2.out rfl (by decide) _ _ _ rfl (hown.out.alloc _) ⟨wr.heap.size, 0, none⟩ 1 1 [.string (s.extract b s.size)] rfl rfl (cell_one_new _ _ _) (by simp [Value.oneCell']) (by unfold maxLen; omega) (by omega) (by simp; omega) ?_; intro v' w4 hown4 hgrow4 _)
      have BW4 := hide ((BW.out.alloc hszw (.cells #[.string (s.extract b s.size)] 9)).grown hgrow4 (by simp; omega) (fun k hk => (hown.out.lt k hk).1))
      have hown5 : w4.ownsRow w.heap.size 9 1 v' (done ++ [s.extract b s.size]).length ((done ++ [s.extract b s.size]).map Value.string) := by simpa using hown4
      obtain ⟨LA, LC, rfl, hrd, hlc⟩ := strs_of_own hown5 hsz2.out
      rw [hfin.out] at hrd hlc ⊢
      replace hrd := hide hrd
      clear hown hgrow4 BW hown4 hown5 hsz2 hfin
      go_wp2
      go_ret
      exact ⟨⟨_, rfl, LA, LC, rfl, hrd.out, hlc⟩, BW4.out⟩
end Go.Proofs.YtjfdfhnfcpfmcaaGreatDoor
