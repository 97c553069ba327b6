import Derived.Test.YtjfdfhnfcpfmcaaGreatDoorMe
import Derived.Lib.Join
import Derived.Test.YtjfdfhnfcpfmcaaGreatDoorSh
/-
  The words of rights: what a valid system's names are; view.word.
-/
namespace Go.Proofs.YtjfdfhnfcpfmcaaGreatDoor
open Go.RowKit RG

theorem nameB_size {s : ByteArray} (h : nameB s = true) : 1 ≤ s.size ∧ s.size ≤ 16 := by
  unfold nameB nameP at h
  have := (decide_eq_true_iff.1 h).1
  simpa using this
theorem Good.codeErr {S : Sys} (h : Good S) : ∀ i, i < S.codes.length → codeErr S.codes i (S.codes[i]?.getD ⟨#[]⟩) = 0 := by
  unfold Good checkF at h
  split at h
  · cases h
  · split at h
    · rename_i h2; exact absurd h h2
    · split at h
      · rename_i h3; exact absurd h h3
      · rename_i h3
        exact fun i hi => firstErr_zero (k := 0) (Classical.not_not.1 h3) i (by omega) (by omega)
theorem Good.clsErr {S : Sys} (h : Good S) : ∀ i, i < S.cs.length → clsErr S.cs i (S.cs[i]?.getD default) = 0 := (checkF_ok h).2.2
theorem Good.className {S : Sys} (h : Good S) {i : Nat} (hi : i < S.cs.length) : nameB (S.cs[i]?.getD default).name = true := by
  have := h.clsErr i hi
  unfold Go.Proofs.YtjfdfhnfcpfmcaaGreatDoor.clsErr at this
  split at this
  · cases this
  · rename_i h1; simpa using h1
theorem Good.codeName {S : Sys} (h : Good S) {i : Nat} (hi : i < S.codes.length) : nameB (S.codes[i]?.getD ⟨#[]⟩) = true := by
  have := h.codeErr i hi
  unfold Go.Proofs.YtjfdfhnfcpfmcaaGreatDoor.codeErr at this
  split at this
  · cases this
  · rename_i h1; simpa using h1

/-- The parts of the word of a right. -/
def partsL (S : Sys) (r : Nat × Nat) (k : Nat) : List ByteArray := (S.cs[r.1]?.getD default).name :: ((List.range k).filter fun o => r.2.testBit o).map fun o => S.codes[o]?.getD ⟨#[]⟩
/-- The word of a right. -/
def wordB (S : Sys) (r : Nat × Nat) : ByteArray := ⟨(Lib.join ((partsL S r S.codes.length).map (·.data.toList)) [46]).toArray⟩
theorem partsL_len (S : Sys) (r : Nat × Nat) (k : Nat) : 1 ≤ (partsL S r k).length ∧ (partsL S r k).length ≤ k + 1 := by
  have := List.length_filter_le (fun o => r.2.testBit o) (List.range k)
  simp [partsL] at *
  omega
theorem partsL_size {S : Sys} (h : Good S) {r : Nat × Nat} {k : Nat} (hr : r.1 < S.cs.length) (hk : k ≤ S.codes.length) : ∀ x ∈ partsL S r k, 1 ≤ x.size ∧ x.size ≤ 16 := by
  intro x hx
  rcases List.mem_cons.1 hx with rfl | hx
  · exact nameB_size (h.className hr)
  · obtain ⟨o, ho, rfl⟩ := List.mem_map.1 hx
    have := List.mem_range.1 (List.mem_filter.1 ho).1
    exact nameB_size (h.codeName (by omega))

theorem lens_le (m : Nat) : ∀ xs : List (List UInt8), (∀ x ∈ xs, x.length ≤ m) → Lib.lens xs ≤ xs.length * m := by
  intro xs
  induction xs with
  | nil => intro _; simp [Lib.lens]
  | cons x r ih =>
    intro h
    have h1 := h x (List.mem_cons_self ..)
    have h2 := ih fun y hy => h y (List.mem_cons_of_mem _ hy)
    simp only [Lib.lens, List.map_cons, List.sum_cons, List.length_cons, Nat.add_mul, Nat.one_mul] at *
    omega
theorem join_le (sep : List UInt8) (m : Nat) (hs : sep.length = 1) (xs : List (List UInt8)) (h : ∀ x ∈ xs, x.length ≤ m) : (Lib.join xs sep).length ≤ xs.length * (m + 1) := by
  cases xs with
  | nil => simp [Lib.join, List.intercalate]
  | cons x r =>
    have := lens_le m (x :: r) h
    rw [Lib.join_length, hs]
    simp only [List.length_cons] at *
    rw [Nat.mul_add]
    omega
theorem wordB_size {S : Sys} (h : Good S) {r : Nat × Nat} (hr : r.1 < S.cs.length) : (wordB S r).size ≤ 153 := by
  have h1 := (partsL_len S r S.codes.length).2
  have h2 := join_le [46] 16 rfl ((partsL S r S.codes.length).map (·.data.toList)) (fun x hx => by
    obtain ⟨y, hy, rfl⟩ := List.mem_map.1 hx
    have := partsL_size h hr (Nat.le_refl _) y hy
    rw [Array.length_toList]; exact this.2)
  have h3 := h.bd.2
  rw [List.length_map] at h2
  have h4 : (wordB S r).size = (Lib.join ((partsL S r S.codes.length).map (·.data.toList)) [46]).length := by unfold wordB; simp [ByteArray.size]
  rw [h4]
  have : (partsL S r S.codes.length).length * (16 + 1) ≤ 9 * 17 := Nat.mul_le_mul_right 17 (by omega)
  omega
end Go.Proofs.YtjfdfhnfcpfmcaaGreatDoor

namespace Go.Proofs
open Go.Shelf
theorem Tryz.Builder_Extra_156 : Builder.Extra Tryz.prog Tryz.lays156_ren := {
  sizeBuilder := by kernel_rfl
  liesBuilder := by kernel_rfl
  t5 := Tryz.underlying5
  a5 := Tryz.isAgg5
  z5 := Tryz.sizeOf5
  v5 := Tryz.zeroValue5
  infoByte := by kernel_rfl
  cellsByte := by kernel_rfl
  sizeByte := by kernel_rfl
  neB5 := by decide }
end Go.Proofs
namespace Go.Proofs.YtjfdfhnfcpfmcaaGreatDoor
open Go.RowKit RG

theorem infoStr : (Tryz.prog.info? 9).map (fun i => (i.zero, i.size, i.bytes)) = some (some (.string ByteArray.empty), 1, 16) := by kernel_rfl

theorem Join_any (A : Option Addr) (c : Nat) (xs : List ByteArray) (sep : ByteArray) (w : World) (h : RdStrs w A xs.length xs) (hc : xs.length ≤ c) (hN : xs.length ≤ 140737488355328) (hlen : (Lib.join (xs.map (·.data.toList)) sep.data.toList).length ≤ 140737488355328) :
    Calls Tryz.prog 87 #[.slice A xs.length c, .string sep] w fun e w' => e = .returned (.string ⟨(Lib.join (xs.map (·.data.toList)) sep.data.toList).toArray⟩) ∧ Below w.heap.size w w' := by
  rcases Nat.eq_zero_or_pos xs.length with h0 | h0
  · obtain rfl : xs = [] := List.eq_nil_of_length_eq_zero h0
    refine (Any.strings_Join_none Tryz.lays156 Tryz.Builder_Extra_156 A c sep w).mono ?_
    rintro e w' ⟨rfl, rfl⟩
    exact ⟨rfl, Below.refl _ _⟩
  · obtain ⟨b, off, rfl, hb, hcs⟩ := h.2.2 h0
    exact Any.strings_Join Tryz.lays156 Tryz.Builder_Extra_156 b off c xs sep w hcs hb hN hc hlen

theorem strs_of_own {w : World} {base : Nat} {v : Value} {xs : List ByteArray} (h : w.ownsRow base 9 1 v xs.length (xs.map Value.string)) (hs : ∀ x ∈ xs, x.size ≤ maxLen) : ∃ A c, v = .slice A xs.length c ∧ RdStrs w A xs.length xs ∧ xs.length ≤ c := by
  rcases h.2 with ⟨rfl, h0⟩ | ⟨g, cap, cur, rfl, _, hg, hc, _, hs', ht⟩
  · obtain rfl : xs = [] := List.eq_nil_of_length_eq_zero h0
    exact ⟨none, 0, rfl, RdStrs.nil w none, Nat.le_refl _⟩
  · refine ⟨_, cap, rfl, ⟨rfl, hs, fun hn => ⟨g, 0, rfl, ?_, fun j x hj => ?_⟩⟩, hc⟩
    · rcases Nat.lt_or_ge g w.heap.size with h' | h'
      · exact h'
      · rw [Array.getElem?_eq_none h'] at hg; cases hg
    · have hj' : j < xs.length := (List.getElem?_eq_some_iff.1 hj).1
      have h1 : w.cell? ⟨g, 0 + j, none⟩ = cur[j]? := by rw [Nat.zero_add]; exact cell_of_row w g j cur _ (0, 0) hg
      rw [h1]
      have h2 : (cur.toList.take (xs.length * 1))[j]? = (xs.map Value.string)[j]? := by rw [ht]
      rw [List.getElem?_take_of_lt (by omega), List.getElem?_map, hj] at h2
      simpa using h2

theorem partsL_succ (S : Sys) (r : Nat × Nat) (k : Nat) : partsL S r (k + 1) = if r.2.testBit k then partsL S r k ++ [S.codes[k]?.getD ⟨#[]⟩] else partsL S r k := by
  unfold partsL
  rw [List.range_succ, List.filter_append]
  cases h : r.2.testBit k <;> simp [h]

set_option maxRecDepth 100000 in
set_option maxHeartbeats 2000000 in
theorem word_any (A A2 G : Option Addr) (cc c2 c3 : Nat) (S : Sys) (r1 r2 : Nat) (w : World) (hgd : Good S) (h : InMem w A A2 cc c2 S) (hr : r1 < S.cs.length) (hr2 : r2 < 2 ^ 40) :
    Calls Tryz.prog 86 #[.agg #[.slice A S.cs.length cc, .slice A2 S.codes.length c2, .slice G S.cs.length c3], .agg #[.int .i64 r1, .int .i64 r2]] w fun e w' =>
      e = .returned (.string (wordB S (r1, r2))) ∧ Below w.heap.size w w' := by
  have hB0 := hide (((Below.refl w.heap.size w).alloc (Nat.le_refl _) (.cells #[.slice A S.cs.length cc, .slice A2 S.codes.length c2, .slice G S.cs.length c3] 100)).alloc (by simp) (.cells #[.int .i64 r1, .int .i64 r2] 64))
  obtain ⟨i0, hi, hz0, hz1, hz2⟩ := info_parts infoStr
  replace hi := hide hi
  replace hz0 := hide hz0
  replace hz1 := hide hz1
  replace hz2 := hide hz2
  have ⟨bd1, bd2⟩ := hgd.bd
  obtain ⟨xs, hx⟩ := h.cls
  have hstr := h.strs
  have hcapc := h.cap
  have hcapc2 := h.cap2
  clear h
  obtain ⟨b, off, x0, x1, x2, x3, x4, rfl, hb, hxj, c0, c1, c2', c3', c4⟩ := hx.1.cells5 hr
  have hcls := hx.2.2.2 r1 hr
  rw [hxj] at hcls
  obtain ⟨ia, ic, hcell, _⟩ := hcls
  simp only [List.cons.injEq, and_true] at hcell
  obtain ⟨rfl, _⟩ := hcell
  clear c1 c2' c3' c4 hxj hx
  have hrz : (r1 : Int) < (S.cs.length : Int) := by omega
  obtain ⟨P, hP⟩ : ∃ P : Nat → List ByteArray, partsL S (r1, r2) = P := ⟨_, rfl⟩
  have hW : wordB S (r1, r2) = ⟨(Lib.join ((P S.codes.length).map (·.data.toList)) [46]).toArray⟩ := by rw [← hP]; rfl
  have hP0 : P 0 = [(S.cs[r1]?.getD default).name] := by rw [← hP]; rfl
  have hPs : ∀ k, P (k + 1) = if r2.testBit k then P k ++ [S.codes[k]?.getD ⟨#[]⟩] else P k := fun k => by rw [← hP]; exact partsL_succ S (r1, r2) k
  have hPl : ∀ k, (P k).length ≤ k + 1 := fun k => by rw [← hP]; exact (partsL_len S (r1, r2) k).2
  have hPz : ∀ k, k ≤ S.codes.length → ∀ x ∈ P k, x.size ≤ 16 := fun k hk x hx => by rw [← hP] at hx; exact (partsL_size hgd (r := (r1, r2)) hr hk x hx).2
  clear hP
  generalize (S.cs[r1]?.getD default).name = nm at *
  generalize wordB S (r1, r2) = wb at *
  generalize S.cs.length = n at *
  generalize hn2 : S.codes.length = n2 at *
  replace hn2 := hide hn2
  replace hW := hide hW
  replace hP0 := hide hP0
  replace hPs := hide hPs
  replace hPl := hide hPl
  replace hPz := hide hPz
  replace hstr := hide hstr
  have hbne : b ≠ w.heap.size := Nat.ne_of_lt hb
  have hbne1 : b ≠ w.heap.size + 1 := by omega
  go_enter Tryz.func86, Tryz.ntmps86
  go_wp2
  have hB1 := hide (hB0.out.alloc (by simp +arith) (.cells #[.string nm] 9))
  have hown0 : ((((w.alloc (.cells #[.slice (some ⟨b, off, none⟩) n cc, .slice A2 n2 c2, .slice G n c3] 100)).alloc (.cells #[.int .i64 r1, .int .i64 r2] 64)).alloc (.cells #[.string nm] 9))).ownsRow (w.heap.size + 1 + 1) 9 1 (.slice (some ⟨w.heap.size + 1 + 1, 0, none⟩) 1 1) 1 [.string nm] := by
    refine ⟨rfl, .inr ⟨_, 1, #[.string nm], rfl, Nat.le_refl _, ?_, Nat.le_refl _, by decide, rfl, rfl⟩⟩
    have := World.alloc_heap_new ((w.alloc (.cells #[.slice (some ⟨b, off, none⟩) n cc, .slice A2 n2 c2, .slice G n c3] 100)).alloc (.cells #[.int .i64 r1, .int .i64 r2] 64)) (.cells #[.string nm] 9)
    simpa using this
  obtain ⟨W0, hW0⟩ : ∃ W0, (((w.alloc (.cells #[.slice (some ⟨b, off, none⟩) n cc, .slice A2 n2 c2, .slice G n c3] 100)).alloc (.cells #[.int .i64 r1, .int .i64 r2] 64)).alloc (.cells #[.string nm] 9)) = W0 := ⟨_, rfl⟩
  have p0 : W0.cell? ⟨w.heap.size + 1, 0, none⟩ = some (.int .i64 r1) := by rw [← hW0]; clear hW0 hown0; go_simp
  have p1 : W0.cell? ⟨w.heap.size + 1, 1, none⟩ = some (.int .i64 r2) := by rw [← hW0]; clear hW0 hown0; go_simp
  have hs0 : W0.heap.size = w.heap.size + 1 + 1 + 1 := by rw [← hW0]; simp
  rw [hW0] at hown0 hB1 ⊢
  clear c0 hB0 hW0
  replace hown0 := hide hown0
  go_loopg [5, 21] n2 (fun gg s5 s21 wr => ∃ (j : Nat) (l : List ByteArray), j ≤ n2 ∧ n2 ≤ gg + j ∧ s21 = .int .i64 j ∧ l.length ≤ j + 1 ∧ Hid (l = P j) ∧ Hid (Below (w.heap.size + 1 + 1) W0 wr) ∧ Hid (wr.ownsRow (w.heap.size + 1 + 1) 9 1 s5 l.length (l.map Value.string)))
  case atStart => exact ⟨0, [nm], Nat.zero_le _, by omega, rfl, Nat.le_refl _, hP0.out.symm, Below.refl _ _, hown0.out⟩
  case round =>
    obtain ⟨j, l, hj, hgg, rfl, hlj, hl, hBr, hown⟩ := hrel
    have q0 := (cellB (o := 0) hBr.out (by omega)).trans p0
    have q1 := (cellB (o := 1) hBr.out (by omega)).trans p1
    have hBw := hide (hB1.out.trans (hBr.out.mono (by omega)))
    by_cases hlt : j < n2
    · have hltz : (j : Int) < (n2 : Int) := by omega
      obtain ⟨b2, off2, rfl, hb2, hcs⟩ := (hstr.out.below hBw.out).2.2 (by omega)
      have hcj := hcs j _ (List.getElem?_eq_getElem (by rw [hn2.out]; exact hlt))
      clear hcs
      have hcd : S.codes[j]?.getD ⟨#[]⟩ = S.codes[j]'(by rw [hn2.out]; exact hlt) := by rw [List.getElem?_eq_getElem (by rw [hn2.out]; exact hlt)]; rfl
      generalize S.codes[j]'(by rw [hn2.out]; exact hlt) = cd at *
      have hPj := hPs.out j
      rw [hcd] at hPj
      replace hPj := hide hPj
      clear hcd
      go_wp2_with fail
      refine (has_any r2 j wr hr2 (by omega)).mono ?_
      rintro e w3 ⟨rfl, rfl⟩
      cases h1 : r2.testBit j with
      | true =>
        have hl2 : l ++ [cd] = P (j + 1) := by rw [hPj.out, if_pos h1, hl.out]
        replace hl2 := hide hl2
        clear h1
        have hszr := hBr.out.size
        replace hown := hown.out
        go_wp2_with (at_builtin; refine wpList_append_own _ rfl _ _ 36 rfl (w.heap.size + 1 + 1) 9 i0 (.string ByteArray.empty) 1 16 Tryz.underlying36 hi.out hz0.out hz1.out hz2.out rfl (by decide) _ _ _ rfl (hown.alloc _) ⟨wr.heap.size, 0, none⟩ 1 1 [.string cd] rfl rfl (cell_one_new _ _ _) (by simp [Value.oneCell']) (by unfold maxLen; omega) (by omega) (by simp; omega) ?_; intro v' w4 hown4 hgrow4 _)
        have hBr4 := hide ((hBr.out.alloc (by omega) (.cells #[.string cd] 9)).grown hgrow4 (by simp; omega) (fun k hk => (hown.lt k hk).1))
        replace hown4 := hide hown4
        clear hown hgrow4
        go_wp2
        go_roundg (n2 - (j + 1))
        case measure => omega
        case rel =>
          refine ⟨j + 1, l ++ [cd], by omega, by omega, by go_num, by simp; omega, hl2.out, hBr4.out, ?_⟩
          have := hown4.out
          refine hide ?_
          simpa using this
      | false =>
        have hl2 : l = P (j + 1) := by rw [hPj.out, if_neg (by rw [h1]; simp), hl.out]
        replace hl2 := hide hl2
        clear h1
        go_wp2
        go_roundg (n2 - (j + 1))
        case measure => omega
        case rel => exact ⟨j + 1, l, by omega, by omega, by go_num, by omega, hl2.out, hBr.out, hown.out⟩
    · have hltz : ¬ (j : Int) < (n2 : Int) := by omega
      obtain rfl : j = n2 := by omega
      have hsz : ∀ x ∈ l, x.size ≤ 16 := by rw [hl.out]; exact hPz.out j (Nat.le_refl _)
      obtain ⟨LA, LC, rfl, hrd, hlc⟩ := strs_of_own hown.out (fun x hx => by have := hsz x hx; unfold maxLen; omega)
      have hjl : (Lib.join (l.map (·.data.toList)) [46]).length ≤ 140737488355328 := by
        have := join_le [46] 16 rfl (l.map (·.data.toList)) (fun x hx => by
          obtain ⟨y, hy, rfl⟩ := List.mem_map.1 hx
          have := hsz y hy
          rw [Array.length_toList]; exact this)
        rw [List.length_map] at this
        have h2 : l.length * (16 + 1) ≤ 9 * 17 := Nat.mul_le_mul_right 17 (by omega)
        omega
      have hcall := Join_any LA LC l ⟨#[46]⟩ wr hrd hlc (by omega) hjl
      have hE : (Ending.returned (.string ⟨(Lib.join (l.map (·.data.toList)) (ByteArray.mk #[46]).data.toList).toArray⟩)) = .returned (.string wb) := by rw [hW.out, hl.out]
      rw [hE] at hcall
      clear hE hjl hsz
      replace hcall := hide hcall
      replace hrd := hide hrd
      clear hown
      go_wp2_with fail
      refine hcall.out.mono ?_
      rintro e w3 ⟨rfl, hb3⟩
      have hB3 := hide (hBw.out.trans (hb3.mono hBw.out.size))
      go_wp2
      go_ret
      exact ⟨rfl, hB3.out⟩
end Go.Proofs.YtjfdfhnfcpfmcaaGreatDoor

namespace Go.Proofs.YtjfdfhnfcpfmcaaGreatDoor
open Go.RowKit RG

/-- n empty strings. -/
def empties (n : Nat) : Array Value := Array.replicate n (.string ByteArray.empty)
theorem make_strs (n : Nat) (hn : n ≤ 1000000) (w : World) :
    (Instr.makeSlice 36 (.int .i64 (n : Int)) (.int .i64 (n : Int))).run Tryz.prog w = .ok (.slice (some ⟨w.heap.size, 0, none⟩) n n) (w.alloc (.cells (empties n) 9)) := by
  obtain ⟨i, hi, hz, hs, hb⟩ := info_parts infoStr
  have hr := run_make (P := Tryz.prog) w 36 9 i (.string ByteArray.empty) Tryz.underlying36 hi hz .i64 .i64 n n (by omega) (by omega) (by rw [hb]; omega) (by omega)
  simp only [Int.toNat_natCast] at hr
  rw [hr, hs]
  have hm : madeCells (Value.string ByteArray.empty).cells (n * 1) = empties n := by
    apply Array.ext
    · simp [madeCells, empties]
    · intro j h1 h2
      simp [madeCells, empties, Value.cells, Nat.mod_one]
  rw [hm]

/-- The row of words, filled for the first j rights. -/
def WordRow (W : Nat → ByteArray) (n j : Nat) (a : Array Value) : Prop := a.size = n ∧ ∀ i, i < n → ∃ x : ByteArray, a[i]? = some (.string x) ∧ (i < j → x = W i)
theorem WordRow.start (W : Nat → ByteArray) (n : Nat) : WordRow W n 0 (empties n) :=
  ⟨by simp [empties], fun i hi => ⟨ByteArray.empty, by simp [empties, hi], fun h => absurd h (by omega)⟩⟩
theorem WordRow.step {W : Nat → ByteArray} {n j : Nat} {a : Array Value} (h : WordRow W n j a) (hj : j < n) : WordRow W n (j + 1) (a.setIfInBounds j (.string (W j))) := by
  refine ⟨by simp [h.1], fun i hi => ?_⟩
  by_cases e : i = j
  · subst e
    exact ⟨W i, by simp [h.1, hi], fun _ => rfl⟩
  · obtain ⟨x, hx, h2⟩ := h.2 i hi
    exact ⟨x, by rw [Array.getElem?_setIfInBounds_ne (Ne.symm e)]; exact hx, fun h3 => h2 (by omega)⟩
theorem WordRow.done {W : Nat → ByteArray} {n : Nat} {a : Array Value} (h : WordRow W n n a) {w : World} {g : Nat} (hb : Blk w g 9 a) (hs : ∀ i, i < n → (W i).size ≤ maxLen) :
    RdStrs w (some ⟨g, 0, none⟩) n ((List.range n).map W) := by
  refine ⟨by simp, fun x hx => ?_, fun hn => ⟨g, 0, rfl, hb.lt, fun j x hj => ?_⟩⟩
  · obtain ⟨i, hi, rfl⟩ := List.mem_map.1 hx
    exact hs i (List.mem_range.1 hi)
  · have hj' : j < n := by have := (List.getElem?_eq_some_iff.1 hj).1; simpa using this
    obtain ⟨y, hy, h2⟩ := h.2 j hj'
    rw [Nat.zero_add, hb.cell j, hy, h2 hj']
    simp [hj'] at hj
    rw [hj]

/-- The text of rights. -/
def textB (S : Sys) (rs : List (Int × Int)) : ByteArray :=
  if rs.length = 0 then ⟨#[45]⟩ else ⟨(Lib.join (((List.range rs.length).map fun i => wordB S (natR (rs[i]?.getD (0, 0)))).map (·.data.toList)) [32]).toArray⟩
/-- What Write returns. -/
def writeF (S : Sys) (rs : List (Int × Int)) : ByteArray × Int := if openF S [rs] ≠ 0 then (⟨#[]⟩, openF S [rs]) else (textB S rs, 0)

set_option maxRecDepth 100000 in
set_option maxHeartbeats 2000000 in
theorem Write_any (A A2 R : Option Addr) (cc c2 cr : Nat) (S : Sys) (rs : List (Int × Int)) (w : World) (h : InMem w A A2 cc c2 S) (hr : RdRts w R rs.length rs) :
    Calls Tryz.prog 43 #[.agg #[.slice A S.cs.length cc, .slice A2 S.codes.length c2], .slice R rs.length cr] w fun e w' =>
      e = .returned (.tuple #[.string (writeF S rs).1, .int .i64 (writeF S rs).2]) ∧ Below w.heap.size w w' := by
  obtain ⟨q, hq⟩ : ∃ q, writeF S rs = q := ⟨_, rfl⟩
  rw [hq]
  unfold writeF at hq
  replace hq := hide hq
  have hB0 := hide ((Below.refl w.heap.size w).alloc (Nat.le_refl _) (.cells #[.slice A S.cs.length cc, .slice A2 S.codes.length c2] 38))
  have hB1 := hide (hB0.out.alloc (by simp +arith) (.cells #[.slice R rs.length cr] 46))
  have hopen := hide (open_mem A A2 (some ⟨w.heap.size + 1, 0, none⟩) cc c2 1 1 S [rs] _ (h.below hB1.out) (by
    have := RdLists.one (hr.below hB0.out) (c := cr) 46
    simpa using this))
  replace h := hide h
  replace hr := hide hr
  go_enter Tryz.func43, Tryz.ntmps43
  go_wp2_with fail
  refine hopen.out.mono ?_
  rintro e w1 ⟨hO, hb1⟩
  have hB2 := hide (hB1.out.trans (hb1.mono (by simp +arith)))
  replace hB1 := hide hb1
  clear hb1
  generalize hx : openF S [rs] = x at *
  replace hx := hide hx
  rcases hO with ⟨hx0, rfl⟩ | ⟨rfl, v, rfl, g, rfl, hg⟩
  · have hq := hq.out
    rw [if_pos hx0] at hq
    subst hq
    have hb1 : (x == 0) = false := by rw [beq_eq_false_iff_ne]; exact hx0
    have hb2 : (x != 0) = true := by rw [bne_iff_ne]; exact hx0
    unfold nilView
    replace hx0 := hide hx0
    go_wp2
    go_ret2
    exact ⟨rfl, hB2.out.alloc hB2.out.size _⟩
  · have hq := hq.out
    rw [if_neg (by simp)] at hq
    subst hq
    obtain ⟨gd, gr⟩ := openF_good hx.out
    have gr := gr rs (by simp)
    have ⟨bd1, bd2⟩ := gd.bd
    have hp8 := fun k hk => pow8 gd (k := k) hk
    replace hp8 := hide hp8
    have hm := gr.1
    clear hg
    obtain ⟨W, hW⟩ : ∃ W : Nat → ByteArray, (fun i => wordB S (natR (rs[i]?.getD (0, 0)))) = W := ⟨_, rfl⟩
    have hWi : ∀ i, wordB S (natR (rs[i]?.getD (0, 0))) = W i := fun i => by rw [← hW]
    have hWz : ∀ i, i < rs.length → (W i).size ≤ 153 := fun i hi => by
      obtain ⟨ca, ka, hra, hca, hka⟩ := gr.2 i hi
      rw [← hWi, hra]
      exact wordB_size gd (by simpa [natR] using hca)
    have hT : textB S rs = if rs.length = 0 then ⟨#[45]⟩ else ⟨(Lib.join (((List.range rs.length).map W).map (·.data.toList)) [32]).toArray⟩ := by unfold textB; rw [hW]
    clear hW
    replace hWi := hide hWi
    replace hWz := hide hWz
    replace hT := hide hT
    replace gr := hide gr
    generalize hmr : rs.length = m at *
    replace hmr := hide hmr
    have hmk := fun W' => make_strs m (by omega) W'
    have hVb := Blk.new w1 100 #[.slice A S.cs.length cc, .slice A2 S.codes.length c2, .slice (some ⟨g, 0, none⟩) S.cs.length S.cs.length]
    have hBv : Below w1.heap.size w1 (w1.alloc (.cells #[.slice A S.cs.length cc, .slice A2 S.codes.length c2, .slice (some ⟨g, 0, none⟩) S.cs.length S.cs.length] 100)) := (Below.refl _ _).alloc (Nat.le_refl _) _
    have hBw2 := hide (hB2.out.trans (hBv.mono hB2.out.size))
    replace hBv := hide hBv
    replace hVb := hide hVb
    by_cases hm0 : m = 0
    · subst hm0
      have hT0 := hT.out
      rw [if_pos rfl] at hT0
      replace hT0 := hide hT0
      clear hmk
      go_wp2
      go_ret2
      exact ⟨by rw [hT0.out]; rfl, hBw2.out⟩
    · have hT0 := hT.out
      rw [if_neg hm0] at hT0
      replace hT0 := hide hT0
      have hb0 : ((m : Int) == 0) = false := by rw [beq_eq_false_iff_ne]; omega
      replace hm0 := hide hm0
      go_wp2
      obtain ⟨w2, hw2⟩ : ∃ w2, w1.alloc (.cells #[.slice A S.cs.length cc, .slice A2 S.codes.length c2, .slice (some ⟨g, 0, none⟩) S.cs.length S.cs.length] 100) = w2 := ⟨_, rfl⟩
      have hs2 : w2.heap.size = w1.heap.size + 1 := by rw [← hw2]; simp
      have hrow0 := Blk.new w2 9 (empties m)
      rw [hs2] at hrow0
      have hBm : Below (w1.heap.size + 1) w2 (w2.alloc (.cells (empties m) 9)) := (Below.refl _ _).alloc (by omega) _
      rw [hw2] at hBw2 hVb hBv ⊢
      replace hrow0 := hide hrow0
      replace hBm := hide hBm
      clear hw2
      generalize hcn : S.cs.length = n at *
      generalize hcn2 : S.codes.length = n2 at *
      replace hcn := hide hcn
      replace hcn2 := hide hcn2
      go_loopg [29] m (fun gg s29 wr => ∃ j : Nat, j ≤ m ∧ m ≤ gg + j ∧ s29 = .int .i64 j ∧ Hid (Below (w1.heap.size + 1) w2 wr) ∧ Hid (∃ a, Blk wr (w1.heap.size + 1) 9 a ∧ WordRow W m j a))
      case atStart => exact ⟨0, Nat.zero_le _, by omega, rfl, hBm.out, _, hrow0.out, WordRow.start W m⟩
      case round =>
        obtain ⟨j, hj, hgg, rfl, hBr, hA⟩ := hrel
        have hBrr := hide (hBr.out.mono (show w.heap.size ≤ w1.heap.size + 1 by have := hB2.out.size; omega))
        have hBw := hide (hBw2.out.trans hBrr.out)
        obtain ⟨a, hbk, hwr⟩ := hA.out
        clear hA
        by_cases hlt : j < m
        · have hltz : (j : Int) < (m : Int) := by omega
          have hrow := (hr.out.below hBw.out).1
          obtain ⟨b, off, x0, x1, rfl, hb, hx, c0, c1⟩ := hrow.cells2 hlt
          rw [rtCells_at rs j (by rw [hmr.out]; exact hlt)] at hx
          obtain ⟨ci, ki, hri, hci, hki⟩ := gr.out.2 j (by rw [hmr.out]; exact hlt)
          have hci' := hci
          rw [hcn.out] at hci'
          rw [hcn2.out] at hki
          rw [hri] at hx
          simp only [rtCells, List.cons.injEq, and_true] at hx
          obtain ⟨rfl, rfl⟩ := hx
          have hWj := hWi.out j
          rw [hri] at hWj
          have hWj2 : wordB S (ci, ki) = W j := by rw [← hWj]; simp [natR]
          clear hrow hWj hri
          have hVr := hVb.out.below hBr.out (by omega)
          have v0 : wr.cell? ⟨w1.heap.size, 0, none⟩ = some (.slice A n cc) := hVr.cell 0
          have v1 : wr.cell? ⟨w1.heap.size, 1, none⟩ = some (.slice A2 n2 c2) := hVr.cell 1
          have v2 : wr.cell? ⟨w1.heap.size, 2, none⟩ = some (.slice (some ⟨g, 0, none⟩) n n) := hVr.cell 2
          have hBo : Below wr.heap.size wr (wr.alloc (.cells #[.int .i64 ci, .int .i64 ki] 64)) := (Below.refl _ _).alloc (Nat.le_refl _) _
          have hcall := word_any A A2 (some ⟨g, 0, none⟩) cc c2 n S ci ki (wr.alloc (.cells #[.int .i64 ci, .int .i64 ki] 64)) gd (h.out.below (hBw.out.trans (hBo.mono hBw.out.size))) hci (hp8.out _ hki)
          rw [hWj2, hcn.out, hcn2.out] at hcall
          have hzs := hbk.lt
          have hzv : w1.heap.size < wr.heap.size := by omega
          have hzn : w1.heap.size ≠ wr.heap.size := Nat.ne_of_lt hzv
          replace hbk := hide hbk
          replace hwr := hide hwr
          replace hcall := hide hcall
          replace hVr := hide hVr
          replace hBo := hide hBo
          clear hWj2
          go_wp2_with fail
          refine hcall.out.mono ?_
          rintro e w3 ⟨rfl, hb3⟩
          have hbk3 := (hbk.out.below hBo.out (by omega)).below hb3 (by simp; omega)
          have k0 : w3.cell? ⟨w1.heap.size + 1, j, none⟩ = a[j]? := hbk3.cell j
          have kf : w3.frozen? ⟨w1.heap.size + 1, j, none⟩ = false := hbk3.frozen j
          obtain ⟨sx, hsx, _⟩ := hwr.out.2 j hlt
          rw [hsx] at k0
          have hB3 := hide ((hBr.out.alloc (by omega) (.cells #[.int .i64 ci, .int .i64 ki] 64)).trans (hb3.mono (by simp; omega)))
          replace hbk3 := hide hbk3
          clear hb3 hsx hbk hcall v0 v1 v2
          go_wp2
          go_roundg (m - (j + 1))
          case measure => omega
          case rel => exact ⟨j + 1, by omega, by omega, by go_num, hB3.out.setCell (by simp) _, _, hbk3.out.set_ j _, hwr.out.step hlt⟩
        · have hltz : ¬ (j : Int) < (m : Int) := by omega
          obtain rfl : j = m := by omega
          have hrd := hwr.done hbk (fun i hi => by have := hWz.out i hi; unfold maxLen; omega)
          have hjl : (Lib.join (((List.range j).map W).map (·.data.toList)) [32]).length ≤ 140737488355328 := by
            have := join_le [32] 153 rfl (((List.range j).map W).map (·.data.toList)) (fun x hx => by
              obtain ⟨y, hy, rfl⟩ := List.mem_map.1 hx
              obtain ⟨i, hi, rfl⟩ := List.mem_map.1 hy
              have := hWz.out i (List.mem_range.1 hi)
              rw [Array.length_toList]; exact this)
            rw [List.length_map, List.length_map, List.length_range] at this
            have h2 : j * (153 + 1) ≤ 40 * 154 := Nat.mul_le_mul_right 154 hm
            omega
          have hcall := Join_any (some ⟨w1.heap.size + 1, 0, none⟩) j ((List.range j).map W) ⟨#[32]⟩ wr (by simpa using hrd) (by simp) (by simp; omega) hjl
          rw [List.length_map, List.length_range] at hcall
          have hE : (Ending.returned (.string ⟨(Lib.join (((List.range j).map W).map (·.data.toList)) (ByteArray.mk #[32]).data.toList).toArray⟩)) = .returned (.string (textB S rs)) := by rw [hT0.out]
          rw [hE] at hcall
          clear hE hjl hrd
          replace hcall := hide hcall
          replace hwr := hide hwr
          replace hbk := hide hbk
          go_wp2_with fail
          refine hcall.out.mono ?_
          rintro e w3 ⟨rfl, hb3⟩
          have hB3 := hide (hBw.out.trans (hb3.mono hBw.out.size))
          go_wp2
          go_ret2
          exact ⟨rfl, hB3.out⟩
end Go.Proofs.YtjfdfhnfcpfmcaaGreatDoor

/-
  strings.Split at a separator of one byte.
-/
namespace Go.Proofs
open Go.Shelf Go.RowKit Go.Lib
variable {P : Program} {ρ : Ren}

set_option maxHeartbeats 1000000 in
theorem YtjfdfhnfcpfmcaaGreatDoor.split_one (L : Lays.n146 P ρ) (hi9 : (P.info? (ρ.t 9)).map (fun i => (i.zero, i.size, i.bytes)) = some (some (.string ByteArray.empty), 1, 16)) (s : ByteArray) (c : UInt8) (w : World)
    (hs : s.size < 4294967281) :
    Calls P (ρ.f 146) #[.string s, .string ⟨#[c]⟩] w fun e w' =>
      e = .returned (.slice (some ⟨w.heap.size, 0, none⟩) (Lib.countB s ⟨#[c]⟩ + 1) (Lib.countB s ⟨#[c]⟩ + 1)) ∧ w' = w.alloc (.cells ((Lib.splitB ⟨#[c]⟩ 0 (Lib.countB s ⟨#[c]⟩) s).map Value.string).toArray (ρ.t 9)) := by
  have h1 : 1 ≤ (ByteArray.mk #[c]).size := Nat.le_refl 1
  have hle := Lib.countB_le ⟨#[c]⟩ h1 s.size s (Nat.le_refl _)
  have hlen := Lib.splitB_all ⟨#[c]⟩ h1 0 _ s rfl
  have hC : Calls P (ρ.f 138) #[.string s, .string ⟨#[c]⟩] w fun e w' => e = .returned (.int .i64 (Lib.countB s ⟨#[c]⟩)) ∧ w' = w := by
    refine (Any.strings_Count_one { L with } s c w).mono fun e w' ⟨he, hw⟩ => ⟨?_, hw⟩
    rw [he]
    show _ = Ending.returned (Value.int .i64 ((Lib.count s.data.toList [c] : Nat) : Int))
    rw [Lib.count_one]
    rfl
  have hc := Any.strings_genSplit_core { L with } hi9 s ⟨#[c]⟩ 0 (-1) (Lib.countB s ⟨#[c]⟩ + 1) w hs h1 (Nat.zero_le _)
    (fun x cs _ => (Any.strings_Index_one { L with } x c _).mono fun e w' ⟨he, hw⟩ => ⟨by
      rw [he]
      show _ = Ending.returned (Value.int .i64 (Lib.index x.data.toList [c]))
      rw [Lib.index_one], hw⟩) hC (by decide) (by decide) (by rw [if_pos (by decide)]; omega)
  rw [Nat.add_sub_cancel, hlen] at hc
  have e2 : Lib.cellsOf (Lib.splitB ⟨#[c]⟩ 0 (Lib.countB s ⟨#[c]⟩) s) (Lib.countB s ⟨#[c]⟩ + 1) = ((Lib.splitB ⟨#[c]⟩ 0 (Lib.countB s ⟨#[c]⟩) s).map Value.string).toArray := by rw [← hlen]; exact Lib.cellsOf_full _
  rw [e2] at hc
  have t3 := L.t3; have t9 := L.t9; have t31 := L.t31
  have a3 := L.a3; have a9 := L.a9; have a31 := L.a31
  have z3 := L.z3; have v3 := L.v3; have z9 := L.z9; have v9 := L.v9; have z31 := L.z31; have v31 := L.v31
  have e221 : ∀ args w, (callFunc (ρ.f 221) args).run P w = .ok (.enter (ρ.f 221) args) w := enters_of L.f221 (by kernel_rfl) rfl
  go_enter L.f146, Body.n146_ntmps ρ
  go_wp2_with (go_at_fn (ρ.f 221); refine hc.mono ?_; rintro e w' ⟨rfl, hw⟩; rw [hw])
  go_ret
  exact ⟨rfl, rfl⟩

/-- The parts of a text between separators. -/
def YtjfdfhnfcpfmcaaGreatDoor.splitL (c : UInt8) (s : ByteArray) : List ByteArray := Lib.splitB ⟨#[c]⟩ 0 (Lib.countB s ⟨#[c]⟩) s
theorem YtjfdfhnfcpfmcaaGreatDoor.Split_any (s : ByteArray) (c : UInt8) (w : World) (hs : s.size < 4294967281) :
    Calls Tryz.prog 117 #[.string s, .string ⟨#[c]⟩] w fun e w' =>
      e = .returned (.slice (some ⟨w.heap.size, 0, none⟩) (YtjfdfhnfcpfmcaaGreatDoor.splitL c s).length (YtjfdfhnfcpfmcaaGreatDoor.splitL c s).length) ∧ w' = w.alloc (.cells ((YtjfdfhnfcpfmcaaGreatDoor.splitL c s).map Value.string).toArray 9) := by
  have h1 : 1 ≤ (ByteArray.mk #[c]).size := Nat.le_refl 1
  have hlen := Lib.splitB_all ⟨#[c]⟩ h1 0 _ s rfl
  have hc := YtjfdfhnfcpfmcaaGreatDoor.split_one Tryz.laysSplit (by kernel_rfl) s c w hs
  unfold YtjfdfhnfcpfmcaaGreatDoor.splitL
  rw [hlen]
  exact hc
end Go.Proofs
