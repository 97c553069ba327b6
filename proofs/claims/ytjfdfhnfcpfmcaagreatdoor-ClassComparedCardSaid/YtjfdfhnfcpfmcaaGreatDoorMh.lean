import Derived.Test.YtjfdfhnfcpfmcaaGreatDoorMf
import Derived.Test.YtjfdfhnfcpfmcaaGreatDoorMg
import Derived.WalkSmall
import Derived.Defers
import Derived.Recover
/-
  demand, and the parts of readRight.
-/
namespace Go.Proofs.YtjfdfhnfcpfmcaaGreatDoor
open Go.RowKit RG

theorem demand_yes (w : World) : Calls Tryz.prog 118 #[.bool true] w fun e w' => e = .returned (.tuple #[]) ∧ w = w' := by
  go_enter Tryz.func118, Tryz.ntmps118
  go_wp2
  go_end0
  exact ⟨rfl, rfl⟩
theorem demand_no (w : World) : Calls Tryz.prog 118 #[.bool false] w fun e w' => (∃ v, e = .panicked [{ v := v, recovered := false }] ∧ v = .iface 25 (.int .i64 6)) ∧ w = w' := by
  go_enter Tryz.func118, Tryz.ntmps118
  go_wp2
  exact ⟨rfl, ⟨_, rfl, rfl⟩, rfl⟩

set_option maxHeartbeats 1000000 in
theorem readRight1_any (p b off : Nat) (x : List Value) (c : Cls) (s : ByteArray) (m cp : Nat) (w : World) (h : RdCls w x c) (hp : w.cell? ⟨p, 0, none⟩ = some (.slice (some ⟨b, off, none⟩) m cp)) (hm : 1 ≤ m) (hs : w.cell? ⟨b, off, none⟩ = some (.string s)) :
    Calls Tryz.prog 134 #[.agg x.toArray, .pointer (some ⟨p, 0, none⟩)] w fun e w' => e = .returned (.bool (eqS c.name s)) ∧ Below w.heap.size w w' := by
  obtain ⟨ia, ic, rfl, _⟩ := h
  have hpl := lt_of_cell hp
  have hbl := lt_of_cell hs
  have hpn : p ≠ w.heap.size := Nat.ne_of_lt hpl
  have hbn : b ≠ w.heap.size := Nat.ne_of_lt hbl
  have hmz : (0 : Int) < (m : Int) := by omega
  go_enter Tryz.func134, Tryz.ntmps134
  go_upto_region 1 with (fail)
  go_quiet (fail)
  go_wp2
  go_ret
  exact ⟨rfl, ⟨rfl, rfl, rfl, by show w.heap.size ≤ (w.alloc _).heap.size; simp, fun k hk => Below.heap_alloc w _ k hk⟩⟩
end Go.Proofs.YtjfdfhnfcpfmcaaGreatDoor

/-
  view.readRight.
-/
namespace Go.Proofs.YtjfdfhnfcpfmcaaGreatDoor
open Go.RowKit RG

/-- The place of a name among codes, or -1. -/
def idxC (codes : List ByteArray) (s : ByteArray) : Int := firstIdx (fun j => eqS s (codes[j]?.getD ⟨#[]⟩)) 0 codes.length
/-- The codes of the parts ps, behind the codes c of which the last one is l. -/
def codesF (codes : List ByteArray) : List ByteArray → Nat → Int → Option Nat
  | [], c, _ => some c
  | p :: r, c, l => if l < idxC codes p then codesF codes r (c ||| 2 ^ (idxC codes p).toNat) (idxC codes p) else none
/-- The place of a class by its name, or -1. -/
def idxN (cs : List Cls) (s : ByteArray) : Int := firstIdx (fun j => eqS (cs[j]?.getD default).name s) 0 cs.length
/-- The right of a word, if it is one. -/
def rightF (S : Sys) (ps : List ByteArray) : Option (Int × Nat) := if idxN S.cs (ps[0]?.getD ⟨#[]⟩) < 0 then none else (codesF S.codes (ps.drop 1) 0 (-1)).map fun k => (idxN S.cs (ps[0]?.getD ⟨#[]⟩), k)
theorem firstIdx_rng (p : Nat → Bool) (n : Nat) : firstIdx p 0 n = -1 ∨ ∃ i : Nat, i < n ∧ firstIdx p 0 n = (i : Int) := by
  by_cases h : firstIdx p 0 n = -1
  · exact .inl h
  · obtain ⟨i, h1, _, h3, _⟩ := firstIdx_at h
    exact .inr ⟨i, by omega, h1⟩
/-- How a reader ends that may panic. -/
def Reads (v : Option Value) (e : Ending) : Prop := match v with
  | some x => e = .returned x
  | none => ∃ u, e = .panicked [{ v := u, recovered := false }] ∧ u = .iface 25 (.int .i64 6)

theorem enters_rr1 : ∀ args w, (callFunc 134 args).run Tryz.prog w = .ok (.enter 134 args) w := fun _ _ => by kernel_rfl

set_option maxRecDepth 100000 in
set_option maxHeartbeats 4000000 in
theorem readRight_any (A A2 G : Option Addr) (cc c2 c3 : Nat) (S : Sys) (s : ByteArray) (w : World) (gd : Good S) (h : InMem w A A2 cc c2 S) (hs : s.size < 4294967281) :
    Calls Tryz.prog 119 #[.agg #[.slice A S.cs.length cc, .slice A2 S.codes.length c2, .slice G S.cs.length c3], .string s] w fun e w' =>
      Reads ((rightF S (splitL 46 s)).map fun x => .agg #[.int .i64 x.1, .int .i64 (x.2 : Nat)]) e ∧ Below w.heap.size w w' := by
  obtain ⟨q, hq⟩ : ∃ q, rightF S (splitL 46 s) = q := ⟨_, rfl⟩
  rw [hq]
  unfold rightF at hq
  have hsp := fun W => Split_any s 46 W hs
  have hpl : 1 ≤ (splitL 46 s).length := by
    unfold splitL
    rw [Lib.splitB_all ⟨#[46]⟩ (Nat.le_refl 1) 0 _ s rfl]
    omega
  have hpn : (splitL 46 s).length ≤ s.size + 1 := by
    have := Lib.countB_le ⟨#[46]⟩ (Nat.le_refl 1) s.size s (Nat.le_refl _)
    unfold splitL
    rw [Lib.splitB_all ⟨#[46]⟩ (Nat.le_refl 1) 0 _ s rfl]
    omega
  generalize splitL 46 s = ps at *
  replace hq := hide hq
  replace hsp := hide hsp
  have ⟨bd1, bd2⟩ := gd.bd
  obtain ⟨xs, hx⟩ := h.cls
  replace h := hide h
  replace hx := hide hx
  have hB0 := hide (((Below.refl w.heap.size w).alloc (Nat.le_refl _) (.cells #[.slice A S.cs.length cc, .slice A2 S.codes.length c2, .slice G S.cs.length c3] 100)).alloc (by simp) (.cells #[.int .i64 0, .int .i64 0] 64))
  go_enter Tryz.func119, Tryz.ntmps119
  go_wp2_with fail
  refine (hsp.out _).mono ?_
  rintro e w1 ⟨rfl, hw1⟩
  simp only [World.size_alloc] at hw1 ⊢
  have hB1 : Below w.heap.size w w1 := by rw [hw1]; exact hB0.out.alloc (by simp +arith) _
  have hs1 : w1.heap.size = w.heap.size + 1 + 1 + 1 := by rw [hw1]; simp
  have hVb : Blk w1 w.heap.size 100 #[.slice A S.cs.length cc, .slice A2 S.codes.length c2, .slice G S.cs.length c3] := by rw [hw1]; exact ((Blk.new w 100 _).alloc _).alloc _
  have hRb : Blk w1 (w.heap.size + 1) 64 #[.int .i64 0, .int .i64 0] := by
    rw [hw1]
    have := Blk.new (w.alloc (.cells #[.slice A S.cs.length cc, .slice A2 S.codes.length c2, .slice G S.cs.length c3] 100)) 64 #[.int .i64 0, .int .i64 0]
    rw [World.size_alloc] at this
    exact this.alloc _
  have hPb : Blk w1 (w.heap.size + 1 + 1) 9 (ps.map Value.string).toArray := by
    rw [hw1]
    have := Blk.new ((w.alloc (.cells #[.slice A S.cs.length cc, .slice A2 S.codes.length c2, .slice G S.cs.length c3] 100)).alloc (.cells #[.int .i64 0, .int .i64 0] 64)) 9 (ps.map Value.string).toArray
    simpa using this
  have v0 : w1.cell? ⟨w.heap.size, 0, none⟩ = some (.slice A S.cs.length cc) := hVb.cell 0
  obtain ⟨w2, hw2⟩ : ∃ w2, w1.alloc (.cells #[.slice (some ⟨w.heap.size + 1 + 1, 0, none⟩) ps.length ps.length] 36) = w2 := ⟨_, rfl⟩
  have hBx : Below w1.heap.size w1 w2 := by rw [← hw2]; exact (Below.refl _ _).alloc (Nat.le_refl _) _
  have hXb := Blk.new w1 36 #[.slice (some ⟨w.heap.size + 1 + 1, 0, none⟩) ps.length ps.length]
  rw [hw2, hs1] at hXb
  have hs2 : w2.heap.size = w.heap.size + 1 + 1 + 1 + 1 := by rw [← hw2]; simp; omega
  replace hVb := hVb.below hBx (by omega)
  replace hRb := hRb.below hBx (by omega)
  replace hPb := hPb.below hBx (by omega)
  have hB2 := hide (hB1.trans (hBx.mono hB1.size))
  have hpc : ∀ j x, ps[j]? = some x → w2.cell? ⟨w.heap.size + 1 + 1, j, none⟩ = some (.string x) := fun j x hj => by rw [hPb.cell j]; simp [hj]
  obtain ⟨nm, hnm⟩ : ∃ nm, ps[0]? = some nm := ⟨ps[0], List.getElem?_eq_getElem (by omega)⟩
  have hcall := IndexFuncCls 134 #[.pointer (some ⟨w.heap.size + 1 + 1 + 1, 0, none⟩)] enters_rr1 (fun j : Nat => eqS (S.cs[j]?.getD default).name nm) A S.cs.length cc xs w2 (hx.out.below hB2.out).1 (by unfold maxLen; omega)
    (fun j W hj hb => by
      have hXW := hXb.below hb (by omega)
      exact readRight1_any (w.heap.size + 1 + 1 + 1) (w.heap.size + 1 + 1) 0 _ _ nm ps.length ps.length W (((hx.out.below hB2.out).below hb).2.2.2 j hj) (hXW.cell 0) hpl ((cellB hb (by omega)).trans (hpc 0 nm hnm)))
  have hqn : idxN S.cs (ps[0]?.getD ⟨#[]⟩) = firstIdx (fun j : Nat => eqS (S.cs[j]?.getD default).name nm) 0 S.cs.length := by rw [hnm]; rfl
  have hq := hq.out
  rw [hqn] at hq
  have hid1 := firstIdx_rng (fun j : Nat => eqS (S.cs[j]?.getD default).name nm) S.cs.length
  generalize firstIdx (fun j : Nat => eqS (S.cs[j]?.getD default).name nm) 0 S.cs.length = ix at *
  replace hq := hide hq
  clear hqn hw1 hB1 hBx
  replace hcall := hide hcall
  replace hVb := hide hVb
  replace hRb := hide hRb
  replace hPb := hide hPb
  replace hXb := hide hXb
  replace hpc := hide hpc
  replace hnm := hide hnm
  generalize S.cs.length = n at *
  generalize hn2 : S.codes.length = n2 at *
  replace hn2 := hide hn2
  replace hw2 := hide hw2
  go_wp2_with fail
  rw [hw2.out]
  refine hcall.out.mono ?_
  rintro e w3 ⟨rfl, hb3⟩
  have hB3 := hide (hB2.out.trans (hb3.mono (by omega)))
  have hs3 := hb3.size
  replace hVb := hide (hVb.out.below hb3 (by omega))
  replace hRb := hide (hRb.out.below hb3 (by omega))
  replace hXb := hide (hXb.out.below hb3 (by omega))
  have hpc3 := hide (fun (j : Nat) (x : ByteArray) (hj : ps[j]? = some x) => (cellB (o := j) hb3 (by omega)).trans (hpc.out j x hj))
  clear hb3 hpc hPb
  rcases hid1 with rfl | ⟨ci, hci, rfl⟩
  · have hqn : q = none := by rw [← hq.out]; rfl
    subst hqn
    go_wp2_with fail
    refine (demand_no _).mono ?_
    rintro e w4 ⟨⟨u, rfl, hu⟩, rfl⟩
    replace hu := hide hu
    go_wp2
    exact ⟨rfl, ⟨_, rfl, hu.out⟩, hB3.out⟩
  · have hq := hq.out
    rw [if_neg (by omega)] at hq
    replace hq := hide hq
    go_wp2_with fail
    refine (demand_yes _).mono ?_
    rintro e w4 ⟨rfl, rfl⟩
    have x0 : w3.cell? ⟨w.heap.size + 1 + 1 + 1, 0, none⟩ = some (.slice (some ⟨w.heap.size + 1 + 1, 0, none⟩) ps.length ps.length) := hXb.out.cell 0
    have hplz : (1 : Int) ≤ (ps.length : Int) := by omega
    have hstr := hide h.out.strs
    have r0 : w3.cell? ⟨w.heap.size + 1, 0, none⟩ = some (.int .i64 0) := hRb.out.cell 0
    have r1 : w3.cell? ⟨w.heap.size + 1, 1, none⟩ = some (.int .i64 0) := hRb.out.cell 1
    have f0 : w3.frozen? ⟨w.heap.size + 1, 0, none⟩ = false := hRb.out.frozen 0
    have f1 : w3.frozen? ⟨w.heap.size + 1, 1, none⟩ = false := hRb.out.frozen 1
    by_cases hL : ps.length = 1
    · have hqv : q = some ((ci : Int), 0) := by
        rw [← hq.out, List.drop_of_length_le (by omega)]; rfl
      subst hqv
      go_wp2
      go_loopg [7, 8, 25] 0 (fun _ s7 _ s25 wr => s7 = .int .i64 0 ∧ s25 = .int .i64 0 ∧ wr = w3)
      case atStart => exact ⟨rfl, rfl, rfl⟩
      case round =>
        obtain ⟨rfl, rfl, rfl⟩ := hrel
        go_wp2
        refine bodyPost_ret (v := .agg #[.int .i64 ci, .int .i64 0]) (by simp [results, Tryz.results119, go_sem, r0, r1]) rfl ⟨rfl, ?_⟩
        exact (hB3.out.setCell (by simp) _).setCell (by simp) _
    · obtain ⟨d, hd⟩ : ∃ d, ps.length - 1 = d := ⟨_, rfl⟩
      have v1 : w3.cell? ⟨w.heap.size, 1, none⟩ = some (.slice A2 n2 c2) := hVb.out.cell 1
      have hdl := hide (show ps.length = d + 1 by omega)
      have hdm : d < 4294967281 := by omega
      go_wp2
      go_loopg [7, 8, 25] d (fun gg s7 s8 s25 wr => wr = w3 ∧ ∃ (j c : Nat) (l : Int), j ≤ d ∧ d ≤ gg + j ∧ s7 = .int .i64 c ∧ s8 = .int .i64 l ∧ s25 = .int .i64 j ∧ c < 2 ^ 40 ∧ (-1 ≤ l ∧ l < 40) ∧ Hid (codesF S.codes (ps.drop 1) 0 (-1) = codesF S.codes (ps.drop (j + 1)) c l))
      case atStart => exact ⟨rfl, 0, 0, -1, Nat.zero_le _, by omega, rfl, rfl, rfl, by omega, by omega, rfl⟩
      case round =>
        obtain ⟨rfl, j, c, l, hj, hgg, rfl, rfl, rfl, hc, hl, hcf⟩ := hrel
        by_cases hlt : j < d
        · have hltz : (j : Int) < (d : Int) := by omega
          obtain ⟨p, hp⟩ : ∃ p, ps[j + 1]? = some p := ⟨ps[j + 1]'(by have := hdl.out; omega), List.getElem?_eq_getElem (by have := hdl.out; omega)⟩
          have c0 : wr.cell? ⟨w.heap.size + 1 + 1, 1 + j, none⟩ = some (.string p) := by rw [Nat.add_comm 1 j]; exact hpc3.out (j + 1) p hp
          have hcf2 : codesF S.codes (ps.drop 1) 0 (-1) = if l < idxC S.codes p then codesF S.codes (ps.drop (j + 1 + 1)) (c ||| 2 ^ (idxC S.codes p).toNat) (idxC S.codes p) else none := by
            rw [hcf.out, List.drop_eq_getElem_cons (show j + 1 < ps.length by have := hdl.out; omega)]
            rw [List.getElem?_eq_getElem (show j + 1 < ps.length by have := hdl.out; omega)] at hp
            injection hp with hp
            rw [hp]; rfl
          have hix := IndexStr A2 n2 c2 S.codes p wr (by have := hstr.out.below hB3.out; rw [hn2.out] at this; exact this) (by unfold maxLen; omega)
          have hixr := firstIdx_rng (fun j : Nat => eqS p (S.codes[j]?.getD ⟨#[]⟩)) n2
          have hid : idxC S.codes p = firstIdx (fun j : Nat => eqS p (S.codes[j]?.getD ⟨#[]⟩)) 0 n2 := by unfold idxC; rw [hn2.out]
          rw [hid] at hcf2
          generalize firstIdx (fun j : Nat => eqS p (S.codes[j]?.getD ⟨#[]⟩)) 0 n2 = ix at *
          replace hcf2 := hide hcf2
          replace hix := hide hix
          replace hp := hide hp
          clear hid
          go_wp2_with fail
          refine hix.out.mono ?_
          rintro e w4 ⟨rfl, rfl⟩
          by_cases hlx : l < ix
          · have hix0 : ∃ i : Nat, i < n2 ∧ ix = (i : Int) := hixr.resolve_left (by omega)
            obtain ⟨i, hi, rfl⟩ := hix0
            have hcf3 := hcf2.out
            rw [if_pos hlx] at hcf3
            replace hcf3 := hide hcf3
            have hor := Bits.or_pow c i (Nat.lt_of_lt_of_le hc (Nat.pow_le_pow_right (by omega) (by omega))) (by omega)
            have hco : c ||| 2 ^ i < 2 ^ 40 := Nat.or_lt_two_pow hc (Nat.pow_lt_pow_right (by omega) (by omega))
            go_wp2_with fail
            refine (demand_yes _).mono ?_
            rintro e w5 ⟨rfl, rfl⟩
            go_wp2
            go_roundg (d - (j + 1))
            case measure => omega
            case rel =>
              refine ⟨rfl, j + 1, c ||| 2 ^ i, i, by omega, ?_, rfl, rfl, by go_num, hco, ?_, hcf3.out⟩
              · omega
              · have hi40 : i < 40 := by omega
                exact ⟨by omega, by omega⟩
          · have hqn : q = none := by rw [← hq.out, hcf2.out, if_neg hlx]; rfl
            subst hqn
            have hdz : decide (l < ix) = false := decide_eq_false hlx
            go_wp2_with fail
            refine (demand_no _).mono ?_
            rintro e w5 ⟨⟨u, rfl, hu⟩, rfl⟩
            replace hu := hide hu
            go_wp2
            exact ⟨rfl, ⟨_, rfl, hu.out⟩, hB3.out⟩
        · have hltz : ¬ (j : Int) < (d : Int) := by omega
          obtain rfl : j = d := by omega
          have hqv : q = some ((ci : Int), c) := by
            rw [← hq.out, hcf.out, List.drop_of_length_le (by have := hdl.out; omega)]; rfl
          subst hqv
          go_wp2
          refine bodyPost_ret (v := .agg #[.int .i64 ci, .int .i64 c]) (by simp [results, Tryz.results119, go_sem, r0, r1]) rfl ⟨rfl, ?_⟩
          exact (hB3.out.setCell (by simp) _).setCell (by simp) _
end Go.Proofs.YtjfdfhnfcpfmcaaGreatDoor

/-
  view.readRights.
-/
namespace Go.Proofs.YtjfdfhnfcpfmcaaGreatDoor
open Go.RowKit RG

/-- The rights of words, if each is one. -/
def readL (S : Sys) : List ByteArray → Option (List (Int × Nat))
  | [] => some []
  | w :: r => match rightF S (splitL 46 w) with
    | none => none
    | some x => (readL S r).map (x :: ·)
/-- The rights of a text, if it is one. -/
def textF (S : Sys) (s : ByteArray) : Option (List (Int × Nat)) := if eqS s ⟨#[45]⟩ = true then some [] else if 40 < (splitL 32 s).length then none else readL S (splitL 32 s)

theorem splitB_sz (sep : ByteArray) : ∀ (k : Nat) (s x : ByteArray), x ∈ Lib.splitB sep 0 k s → x.size ≤ s.size := by
  intro k
  induction k with
  | zero =>
    intro s x hx
    rw [Lib.splitB_zero, List.mem_singleton] at hx
    rw [hx]; exact Nat.le_refl _
  | succ k ih =>
    intro s x hx
    unfold Lib.splitB at hx
    split at hx
    · rw [List.mem_singleton] at hx; rw [hx]; exact Nat.le_refl _
    · rcases List.mem_cons.1 hx with rfl | hx
      · rw [ByteArray.size_extract]; omega
      · have := ih _ _ hx
        rw [ByteArray.size_extract] at this
        omega
/-- 2 n zeros. -/
def zeros2 (n : Nat) : Array Value := Array.replicate (n * 2) (.int .i64 0)
theorem make_rts (n : Nat) (hn : n ≤ 1000000) (w : World) :
    (Instr.makeSlice 46 (.int .i64 (n : Int)) (.int .i64 (n : Int))).run Tryz.prog w = .ok (.slice (some ⟨w.heap.size, 0, none⟩) n n) (w.alloc (.cells (zeros2 n) 64)) := by
  obtain ⟨i, hi, hz, hs, hb⟩ := info_parts infoRt
  have hr := run_make (P := Tryz.prog) w 46 64 i (.agg #[.int .i64 0, .int .i64 0]) Tryz.underlying46 hi hz .i64 .i64 n n (by omega) (by omega) (by rw [hb]; omega) (by omega)
  simp only [Int.toNat_natCast] at hr
  rw [hr, hs]
  have hm : madeCells (Value.agg #[.int .i64 0, .int .i64 0]).cells (n * 2) = zeros2 n := by
    apply Array.ext
    · simp [madeCells, zeros2]
    · intro j h1 h2
      rcases (show j % 2 = 0 ∨ j % 2 = 1 by omega) with h | h <;> simp [madeCells, zeros2, Value.cells, h]
  rw [hm]
/-- The row of rights, filled with acc. -/
def RtRow (n : Nat) (acc : List (Int × Nat)) (a : Array Value) : Prop := a.size = n * 2 ∧ ∀ i, i < n → ∃ x y : Int, a[i * 2]? = some (.int .i64 x) ∧ a[i * 2 + 1]? = some (.int .i64 y) ∧ (∀ r, acc[i]? = some r → x = r.1 ∧ y = (r.2 : Int))
theorem RtRow.start (n : Nat) : RtRow n [] (zeros2 n) := ⟨by simp [zeros2], fun i hi => ⟨0, 0, by rw [zeros2, Array.getElem?_replicate, if_pos (by omega)], by rw [zeros2, Array.getElem?_replicate, if_pos (by omega)], fun r h => by simp at h⟩⟩
theorem RtRow.step {n : Nat} {acc : List (Int × Nat)} {a : Array Value} (h : RtRow n acc a) (hj : acc.length < n) (r : Int × Nat) : RtRow n (acc ++ [r]) ((a.setIfInBounds (acc.length * 2) (.int .i64 r.1)).setIfInBounds (acc.length * 2 + 1) (.int .i64 (r.2 : Nat))) := by
  refine ⟨by simp [h.1], fun i hi => ?_⟩
  obtain ⟨x, y, h1, h2, h3⟩ := h.2 i hi
  by_cases e : i = acc.length
  · subst e
    refine ⟨r.1, r.2, ?_, ?_, fun r' hr => ?_⟩
    · rw [Array.getElem?_setIfInBounds_ne (by omega), Array.getElem?_setIfInBounds_self_of_lt (by rw [h.1]; omega)]
    · rw [Array.getElem?_setIfInBounds_self_of_lt (by simp [h.1]; omega)]
    · rw [List.getElem?_append_right (Nat.le_refl _)] at hr
      simp at hr
      subst hr
      exact ⟨rfl, rfl⟩
  · refine ⟨x, y, ?_, ?_, fun r' hr => h3 r' ?_⟩
    · rw [Array.getElem?_setIfInBounds_ne (by omega), Array.getElem?_setIfInBounds_ne (by omega)]; exact h1
    · rw [Array.getElem?_setIfInBounds_ne (by omega), Array.getElem?_setIfInBounds_ne (by omega)]; exact h2
    · rcases Nat.lt_or_ge i acc.length with h' | h'
      · rwa [List.getElem?_append_left h'] at hr
      · rw [List.getElem?_append_right h', List.getElem?_eq_none (by simp; omega)] at hr; cases hr
/-- The right x as a pair of ints. -/
def rI (x : Int × Nat) : Int × Int := (x.1, (x.2 : Int))
theorem RtRow.done {acc : List (Int × Nat)} {a : Array Value} {w : World} {g : Nat} (h : RtRow acc.length acc a) (hb : Blk w g 64 a) : RdRow w (some ⟨g, 0, none⟩) acc.length 2 ((acc.map rI).map rtCells) := by
  refine ⟨by simp, fun x hx => ?_, fun hn => ⟨g, 0, rfl, hb.lt, fun j i v hv => ?_⟩⟩
  · obtain ⟨y, _, rfl⟩ := List.mem_map.1 hx
    rfl
  · have hj : j < acc.length := by
      rcases Nat.lt_or_ge j acc.length with h' | h'
      · exact h'
      · rw [List.getElem?_eq_none (l := (acc.map rI).map rtCells) (i := j) (by simpa using h')] at hv
        simp at hv
    obtain ⟨x, y, h1, h2, h3⟩ := h.2 j hj
    obtain ⟨rfl, rfl⟩ := h3 _ (List.getElem?_eq_getElem hj)
    rw [show ((acc.map rI).map rtCells)[j]? = some [.int .i64 acc[j].1, .int .i64 (acc[j].2 : Nat)] by simp [hj, rI, rtCells]] at hv
    rw [hb.cell, Nat.zero_add]
    match i, hv with
    | 0, hv => simp at hv; subst hv; exact h1
    | 1, hv => simp at hv; subst hv; exact h2

/-- How readRights ends. -/
def ReadsL (q : Option (List (Int × Nat))) (e : Ending) (w : World) (base : Nat) : Prop := match q with
  | some L => ∃ A c, e = .returned (.slice A L.length c) ∧ RdRow w A L.length 2 ((L.map rI).map rtCells) ∧ L.length ≤ c ∧ ∀ b off, A = some ⟨b, off, none⟩ → base ≤ b
  | none => ∃ u, e = .panicked [{ v := u, recovered := false }] ∧ u = .iface 25 (.int .i64 6)

set_option maxRecDepth 100000 in
set_option maxHeartbeats 4000000 in
theorem readRights_any (A A2 G : Option Addr) (cc c2 c3 : Nat) (S : Sys) (s : ByteArray) (w : World) (gd : Good S) (h : InMem w A A2 cc c2 S) (hs : s.size ≤ 7000) :
    Calls Tryz.prog 90 #[.agg #[.slice A S.cs.length cc, .slice A2 S.codes.length c2, .slice G S.cs.length c3], .string s] w fun e w' =>
      ReadsL (textF S s) e w' w.heap.size ∧ Below w.heap.size w w' := by
  obtain ⟨q, hq⟩ : ∃ q, textF S s = q := ⟨_, rfl⟩
  rw [hq]
  unfold textF at hq
  have hsp := fun W => Split_any s 32 W (by omega)
  have hpn : (splitL 32 s).length ≤ s.size + 1 := by
    have := Lib.countB_le ⟨#[32]⟩ (Nat.le_refl 1) s.size s (Nat.le_refl _)
    unfold splitL
    rw [Lib.splitB_all ⟨#[32]⟩ (Nat.le_refl 1) 0 _ s rfl]
    omega
  have hpz : ∀ x ∈ splitL 32 s, x.size ≤ s.size := fun x hx => splitB_sz _ _ _ _ hx
  generalize splitL 32 s = ps at *
  replace hpz := hide hpz
  generalize hm : ps.length = m at *
  replace hm := hide hm
  replace hq := hide hq
  replace hsp := hide hsp
  replace h := hide h
  have hB0 := hide ((Below.refl w.heap.size w).alloc (Nat.le_refl _) (.cells #[.slice A S.cs.length cc, .slice A2 S.codes.length c2, .slice G S.cs.length c3] 100))
  cases he : eqS s ⟨#[45]⟩ with
  | true =>
    have hqv : q = some [] := by rw [← hq.out, if_pos he]
    subst hqv
    unfold eqS at he
    rw [show (ByteArray.mk #[45]).toList = [45] by rw [ByteArray.toList_eq]] at he
    go_enter Tryz.func90, Tryz.ntmps90
    go_wp2
    go_ret
    exact ⟨⟨none, 0, rfl, RdRow.nil _ _ _, Nat.le_refl _, fun _ _ e => by cases e⟩, hB0.out⟩
  | false =>
    have hq := hq.out
    rw [if_neg (by rw [he]; simp)] at hq
    replace hq := hide hq
    unfold eqS at he
    rw [show (ByteArray.mk #[45]).toList = [45] by rw [ByteArray.toList_eq]] at he
    go_enter Tryz.func90, Tryz.ntmps90
    go_wp2_with fail
    refine (hsp.out _).mono ?_
    rintro e w1 ⟨rfl, hw1⟩
    simp only [World.size_alloc] at hw1 ⊢
    have hB1 : Below w.heap.size w w1 := by rw [hw1]; exact hB0.out.alloc (by simp) _
    have hs1 : w1.heap.size = w.heap.size + 1 + 1 := by rw [hw1]; simp
    have hVb : Blk w1 w.heap.size 100 #[.slice A S.cs.length cc, .slice A2 S.codes.length c2, .slice G S.cs.length c3] := by rw [hw1]; exact (Blk.new w 100 _).alloc _
    have hPb : Blk w1 (w.heap.size + 1) 9 (ps.map Value.string).toArray := by
      rw [hw1]
      have := Blk.new (w.alloc (.cells #[.slice A S.cs.length cc, .slice A2 S.codes.length c2, .slice G S.cs.length c3] 100)) 9 (ps.map Value.string).toArray
      simpa using this
    clear hw1 he
    replace hB1 := hide hB1
    replace hVb := hide hVb
    replace hPb := hide hPb
    by_cases hm40 : 40 < m
    · have hqv : q = none := by rw [← hq.out, if_pos hm40]
      subst hqv
      have hmz : ¬ (m : Int) ≤ (40 : Int) := by omega
      have hdz : decide ((m : Int) ≤ 40) = false := decide_eq_false hmz
      go_wp2_with fail
      refine (demand_no _).mono ?_
      rintro e w2 ⟨⟨u, rfl, hu⟩, rfl⟩
      replace hu := hide hu
      go_wp2
      exact ⟨rfl, ⟨_, rfl, hu.out⟩, hB1.out⟩
    · have hq := hq.out
      rw [if_neg hm40] at hq
      replace hq := hide hq
      have hmz : (m : Int) ≤ (40 : Int) := by omega
      have hmk := make_rts m (by omega) w1
      go_wp2_with fail
      refine (demand_yes _).mono ?_
      rintro e w2 ⟨rfl, rfl⟩
      go_wp2
      have hBm : Below (w.heap.size + 1 + 1) w1 (w1.alloc (.cells (zeros2 m) 64)) := (Below.refl _ _).alloc (by omega) _
      have hrow0 := Blk.new w1 64 (zeros2 m)
      rw [hs1] at hrow0
      replace hBm := hide hBm
      replace hrow0 := hide hrow0
      generalize hcn : S.cs.length = n at *
      generalize hcn2 : S.codes.length = n2 at *
      replace hcn := hide hcn
      replace hcn2 := hide hcn2
      go_loopg [22] m (fun gg s22 wr => ∃ (j : Nat) (acc : List (Int × Nat)), j ≤ m ∧ m ≤ gg + j ∧ s22 = .int .i64 j ∧ acc.length = j ∧ Hid (Below (w.heap.size + 1 + 1) w1 wr) ∧ Hid (∃ a, Blk wr (w.heap.size + 1 + 1) 64 a ∧ RtRow m acc a) ∧ Hid (readL S ps = (readL S (ps.drop j)).map (acc ++ ·)))
      case atStart => exact ⟨0, [], Nat.zero_le _, by omega, rfl, rfl, hBm.out, ⟨_, hrow0.out, RtRow.start m⟩, by refine hide ?_; simp⟩
      case round =>
        obtain ⟨j, acc, hj, hgg, rfl, hal, hBr, hA, hrl⟩ := hrel
        obtain ⟨a, hbk, hrr⟩ := hA.out
        clear hA
        have hBrr := hide (hBr.out.mono (show w.heap.size ≤ w.heap.size + 1 + 1 by omega))
        have hBw := hide (hB1.out.trans hBrr.out)
        replace hal := hide hal
        by_cases hlt : j < m
        · have hltz : (j : Int) < (m : Int) := by omega
          have hjl : j < ps.length := by rw [hm.out]; exact hlt
          obtain ⟨p, hp⟩ : ∃ p, ps[j]? = some p := ⟨ps[j], List.getElem?_eq_getElem hjl⟩
          have c0 : wr.cell? ⟨w.heap.size + 1, j, none⟩ = some (.string p) := by
            rw [cellB hBr.out (by omega), hPb.out.cell j]; simp [hp]
          have hVr := hVb.out.below hBr.out (by omega)
          have v0 : wr.cell? ⟨w.heap.size, 0, none⟩ = some (.slice A n cc) := hVr.cell 0
          have v1 : wr.cell? ⟨w.heap.size, 1, none⟩ = some (.slice A2 n2 c2) := hVr.cell 1
          have v2 : wr.cell? ⟨w.heap.size, 2, none⟩ = some (.slice G n c3) := hVr.cell 2
          have hzs : p.size < 4294967281 := by
            have := hpz.out p (List.mem_of_getElem? hp)
            omega
          have hcall := readRight_any A A2 G cc c2 c3 S p wr gd (h.out.below hBw.out) hzs
          rw [hcn.out, hcn2.out] at hcall
          have hrl2 : readL S ps = match rightF S (splitL 46 p) with | none => none | some x => (readL S (ps.drop (j + 1))).map ((acc ++ [x]) ++ ·) := by
            rw [hrl.out, List.drop_eq_getElem_cons hjl]
            rw [List.getElem?_eq_getElem hjl] at hp
            injection hp with hp
            rw [hp]
            simp only [readL]
            cases rightF S (splitL 46 p) with
            | none => rfl
            | some x =>
              simp only [Option.map_map]
              congr 1
              funext l
              simp
          generalize rightF S (splitL 46 p) = rf at *
          replace hVr := hide hVr
          replace hbk := hide hbk
          replace hrr := hide hrr
          have hlb := hbk.out.lt
          cases rf with
          | none =>
            have hqn : q = none := by rw [← hq.out]; exact hrl2
            subst hqn
            replace hcall := hide hcall
            replace hrl2 := hide hrl2
            go_wp2_with fail
            refine hcall.out.mono ?_
            rintro e w3 ⟨⟨u, rfl, hu⟩, hb3⟩
            have hB3 := hide (hBw.out.trans (hb3.mono hBw.out.size))
            replace hu := hide hu
            clear hb3
            go_wp2
            exact ⟨rfl, ⟨_, rfl, hu.out⟩, hB3.out⟩
          | some x =>
            replace hcall := hide hcall
            replace hrl2 := hide (show readL S ps = (readL S (ps.drop (j + 1))).map ((acc ++ [x]) ++ ·) from hrl2)
            go_wp2_with fail
            refine hcall.out.mono ?_
            rintro e w3 ⟨rfl, hb3⟩
            have hbk3 := hbk.out.below hb3 hlb
            obtain ⟨y0, y1, hy0, hy1, _⟩ := hrr.out.2 j hlt
            have k0 : w3.cell? ⟨w.heap.size + 1 + 1, j * 2, none⟩ = some (.int .i64 y0) := (hbk3.cell (j * 2)).trans hy0
            have k1 : w3.cell? ⟨w.heap.size + 1 + 1, j * 2 + 1, none⟩ = some (.int .i64 y1) := (hbk3.cell (j * 2 + 1)).trans hy1
            have kf0 : w3.frozen? ⟨w.heap.size + 1 + 1, j * 2, none⟩ = false := hbk3.frozen _
            have kf1 : w3.frozen? ⟨w.heap.size + 1 + 1, j * 2 + 1, none⟩ = false := hbk3.frozen _
            have hst := hide (hrr.out.step (by rw [hal.out]; exact hlt) x)
            have hB3 := hide (hBr.out.trans (hb3.mono (by have := hBr.out.size; omega)))
            have hbs := hide ((hbk3.set_ (j * 2) (.int .i64 x.1)).set_ (j * 2 + 1) (.int .i64 (x.2 : Nat)))
            clear hb3 hbk3 hy0 hy1
            obtain ⟨xa, xb⟩ := x
            go_wp2
            go_roundg (m - (j + 1))
            case measure => omega
            case rel =>
              refine ⟨j + 1, acc ++ [(xa, xb)], by omega, by omega, by go_num, by rw [List.length_append, hal.out]; rfl, ?_, ⟨_, hbs.out, by have := hst.out; rw [hal.out] at this; exact this⟩, hrl2.out⟩
              exact (hB3.out.setCell (by simp) _).setCell (by simp) _
        · have hltz : ¬ (j : Int) < (m : Int) := by omega
          obtain rfl : j = m := by omega
          have hqv : q = some acc := by
            rw [← hq.out, hrl.out, List.drop_of_length_le (by rw [hm.out]; exact Nat.le_refl _)]
            simp [readL]; omega
          subst hqv
          have hdone := hide (RtRow.done (by rw [hal.out]; exact hrr) hbk)
          go_wp2
          go_ret
          refine ⟨⟨_, j, by rw [hal.out]; rfl, hdone.out, by rw [hal.out]; exact Nat.le_refl _, fun _ _ e => by cases e; omega⟩, hBw.out⟩
end Go.Proofs.YtjfdfhnfcpfmcaaGreatDoor

/-
  class.Read.
-/
namespace Go.Proofs.YtjfdfhnfcpfmcaaGreatDoor
open Go.RowKit RG

theorem catch_panicking (p q : Nat) (a : Option Addr) (l k : Nat) (x : Int) (older : List PanicEntry) (w : World) (hc : w.cell? ⟨p, 0, none⟩ = some (.slice a l k)) (hz : w.frozen? ⟨p, 0, none⟩ = false) (hpq : p ≠ q) (hc2 : w.cell? ⟨q, 0, none⟩ = some (.int .i64 x)) (hz2 : w.frozen? ⟨q, 0, none⟩ = false) :
    CallsD Tryz.prog 89 #[.pointer (some ⟨p, 0, none⟩), .pointer (some ⟨q, 0, none⟩)] (.panicking ({ v := .iface 25 (.int .i64 6), recovered := false } :: older)) w fun e u' w' =>
      e = .returned (.tuple #[]) ∧ u' = .panicking ({ v := .iface 25 (.int .i64 6), recovered := true } :: older) ∧ w' = (w.setCell ⟨p, 0, none⟩ (.slice none 0 0)).setCell ⟨q, 0, none⟩ (.int .i64 6) := by
  refine callsD_of_wpS Tryz.func89 rfl fun c₀ cs hu => ?_
  apply wpS_seq
  apply wpS_region
  simp [wpOpsS, go_sem, recoverD, hu, Tryz.ntmps89, Exit.thenS]
  refine wpS_cond (t := true) (by simp [Act.eval, Array.replicate]) ?_
  simp only [if_true]
  apply wpS_region
  simp [wpOpsS, go_sem, hc, hz, hc2, hz2, bodyPostS, results, Tryz.results89]

theorem catch_idle (p q : Nat) (w : World) :
    CallsD Tryz.prog 89 #[.pointer (some ⟨p, 0, none⟩), .pointer (some ⟨q, 0, none⟩)] .returning w fun e u' w' => e = .returned (.tuple #[]) ∧ u' = .returning ∧ w' = w := by
  refine callsD_of_wpS Tryz.func89 rfl fun c₀ cs hu => ?_
  apply wpS_seq
  apply wpS_region
  simp [wpOpsS, go_sem, recoverD, hu, Tryz.ntmps89, Exit.thenS]
  refine wpS_cond (t := false) (by simp [Act.eval, Array.replicate]) ?_
  simp only [Bool.false_eq_true, if_false]
  refine wpS_of_wp (wp_skip ?_)
  cases c₀
  simp_all [bodyPostS, results, Tryz.results89]

theorem rdRow_far {w : World} {A : Option Addr} {n k : Nat} {xs : List (List Value)} (h : RdRow w A n k xs) {p : Addr} (hne : ∀ b off, A = some ⟨b, off, none⟩ → b ≠ p.block) (u : Value) : RdRow (w.setCell p u) A n k xs :=
  ⟨h.1, h.2.1, fun hn => by
    obtain ⟨b, off, e, hlt, hc⟩ := h.2.2 hn
    exact ⟨b, off, e, by simpa [World.setCell] using hlt, fun j i v hv => (World.cell?_of_block (Below.heap_setCell w p u b (hne b off e))).trans (hc j i v hv)⟩⟩
/-- What Read returns. -/
def readF (S : Sys) (s : ByteArray) : List (Int × Nat) × Int :=
  if openF S [] ≠ 0 then ([], openF S []) else if 7000 < s.size then ([], 3) else match textF S s with
    | some L => (L, 0)
    | none => ([], 6)
def ReadR (q : List (Int × Nat) × Int) (e : Ending) (w : World) : Prop := ∃ A c, e = .returned (.tuple #[.slice A q.1.length c, .int .i64 q.2]) ∧ RdRow w A q.1.length 2 ((q.1.map rI).map rtCells) ∧ q.1.length ≤ c

theorem read_end (tm : Array Value) (wf : World) (R : Ending → World → Prop) (p q : Nat) (v4 v5 : Value) (h4 : tm[4]? = some (.pointer (some ⟨p, 0, none⟩))) (h5 : tm[5]? = some (.pointer (some ⟨q, 0, none⟩)))
    (hc4 : wf.cell? ⟨p, 0, none⟩ = some v4) (hc5 : wf.cell? ⟨q, 0, none⟩ = some v5) (hR : R (.returned (.tuple #[v4, v5])) wf) : bodyPostD Tryz.prog Tryz.f45 R Exit.ret { tmps := tm, defers := [] } wf := by
  have a1 := Tryz.isAgg46
  have a2 := Tryz.isAgg25
  simp [bodyPostD, Leaves, results, Tryz.results45, go_sem, h4, h5, hc4, hc5, hR]

theorem leaves_end (tm : Array Value) (u : FrameMode) (wf : World) (R : Ending → World → Prop) (p q : Nat) (v4 v5 : Value) (hs : settle u = .returning) (h4 : tm[4]? = some (.pointer (some ⟨p, 0, none⟩))) (h5 : tm[5]? = some (.pointer (some ⟨q, 0, none⟩)))
    (hc4 : wf.cell? ⟨p, 0, none⟩ = some v4) (hc5 : wf.cell? ⟨q, 0, none⟩ = some v5) (hR : R (.returned (.tuple #[v4, v5])) wf) : Leaves Tryz.prog Tryz.f45 tm R [] (settle u) wf := by
  have a1 := Tryz.isAgg46
  have a2 := Tryz.isAgg25
  rw [hs]
  simp [Leaves, results, Tryz.results45, go_sem, h4, h5, hc4, hc5, hR]

set_option maxRecDepth 100000 in
set_option maxHeartbeats 4000000 in
theorem Read_any (A A2 : Option Addr) (cc c2 : Nat) (S : Sys) (s : ByteArray) (w : World) (h : InMem w A A2 cc c2 S) :
    Calls Tryz.prog 45 #[.agg #[.slice A S.cs.length cc, .slice A2 S.codes.length c2], .string s] w fun e w' => ReadR (readF S s) e w' ∧ Below w.heap.size w w' := by
  obtain ⟨q, hq⟩ : ∃ q, readF S s = q := ⟨_, rfl⟩
  rw [hq]
  unfold readF at hq
  replace hq := hide hq
  have hmf : ∀ (fn : Fn) (first cap : Array Value) (w : World), (Instr.makeFunc fn first cap).run Tryz.prog w = .ok (.func fn first cap) w := fun _ _ _ _ => rfl
  have hB0 := hide ((((Below.refl w.heap.size w).alloc (Nat.le_refl _) (.cells #[.slice A S.cs.length cc, .slice A2 S.codes.length c2] 38)).alloc (by simp) (.cells #[.slice none 0 0] 46)).alloc (by simp +arith) (.cells #[.int .i64 0] 25))
  have hopen := hide (open_mem A A2 none cc c2 0 0 S [] _ (h.below hB0.out) (RdLists.nil _ _))
  replace h := hide h
  go_enter_defers Tryz.func45, Tryz.ntmps45
  go_wp2_with fail
  refine hopen.out.mono ?_
  rintro e w1 ⟨hO, hb1⟩
  have hB1 := hide (hB0.out.trans (hb1.mono (by simp +arith)))
  have hz1 : w.heap.size + 1 + 1 < w1.heap.size := by have := hb1.size; simp at this; omega
  have hR1 : Blk w1 (w.heap.size + 1) 46 #[.slice none 0 0] := by
    have := (Blk.new (w.alloc (.cells #[.slice A S.cs.length cc, .slice A2 S.codes.length c2] 38)) 46 #[.slice none 0 0]).alloc (.cells #[.int .i64 0] 25)
    rw [World.size_alloc] at this
    exact this.below hb1 (by simp +arith)
  have hR2 : Blk w1 (w.heap.size + 1 + 1) 25 #[.int .i64 0] := by
    have := Blk.new ((w.alloc (.cells #[.slice A S.cs.length cc, .slice A2 S.codes.length c2] 38)).alloc (.cells #[.slice none 0 0] 46)) 25 #[.int .i64 0]
    simp only [World.size_alloc] at this
    exact this.below hb1 (by simp +arith)
  have r1 : w1.cell? ⟨w.heap.size + 1, 0, none⟩ = some (.slice none 0 0) := hR1.cell 0
  have r2 : w1.cell? ⟨w.heap.size + 1 + 1, 0, none⟩ = some (.int .i64 0) := hR2.cell 0
  have f1 : w1.frozen? ⟨w.heap.size + 1, 0, none⟩ = false := hR1.frozen 0
  have f2 : w1.frozen? ⟨w.heap.size + 1 + 1, 0, none⟩ = false := hR2.frozen 0
  have hz0 : w.heap.size + 1 < w1.heap.size := by omega
  clear hb1
  replace hR1 := hide hR1
  replace hR2 := hide hR2
  generalize hx : openF S [] = x at *
  replace hx := hide hx
  rcases hO with ⟨hx0, rfl⟩ | ⟨rfl, v, rfl, g, rfl, hg⟩
  · have hq := hq.out
    rw [if_pos hx0] at hq
    subst hq
    have hb1 : (x == 0) = false := by rw [beq_eq_false_iff_ne]; exact hx0
    have hb2 : (x != 0) = true := by rw [bne_iff_ne]; exact hx0
    unfold nilView
    replace hx0 := hide hx0
    go_wp2_with fail
    go_region
    go_wp2
    refine read_end _ _ _ (w.heap.size + 1) (w.heap.size + 1 + 1) (.slice none 0 0) (.int .i64 x) rfl rfl (by go_simp) (by go_simp) ⟨⟨none, 0, rfl, RdRow.nil _ _ _, Nat.le_refl _⟩, ?_⟩
    exact ((((hB1.out.setCell (by simp +arith) _).setCell (by simp +arith) _).setCell (by simp +arith) _).alloc (by simp; have := hB1.out.size; omega) _).drew
  · have hq := hq.out
    rw [if_neg (by simp)] at hq
    obtain ⟨gd, _⟩ := openF_good hx.out
    by_cases hsz : 7000 < s.size
    · have hszz : (7000 : Int) < (s.size : Int) := by omega
      rw [if_pos hsz] at hq
      subst hq
      go_wp2
      refine read_end _ _ _ (w.heap.size + 1) (w.heap.size + 1 + 1) (.slice none 0 0) (.int .i64 3) rfl rfl (by go_simp) (by go_simp) ⟨⟨none, 0, rfl, RdRow.nil _ _ _, Nat.le_refl _⟩, ?_⟩
      exact (((hB1.out.setCell (by simp +arith) _).setCell (by simp +arith) _).setCell (by simp +arith) _).alloc (by simp; have := hB1.out.size; omega) _
    · have hszz : ¬ (7000 : Int) < (s.size : Int) := by omega
      rw [if_neg hsz] at hq
      replace hq := hide hq
      have hVc : Below w1.heap.size w1 w1 := Below.refl _ _
      have hBc := hide ((hB1.out.setCell (p := ⟨w.heap.size + 1 + 1, 0, none⟩) (by simp +arith) (.int .i64 0)).alloc (by simp; have := hB1.out.size; omega) (.cells #[.slice A S.cs.length cc, .slice A2 S.codes.length c2, .slice (some ⟨g, 0, none⟩) S.cs.length S.cs.length] 100))
      have hcall := readRights_any A A2 (some ⟨g, 0, none⟩) cc c2 S.cs.length S s _ gd (h.out.below hBc.out) (by omega)
      replace hcall := hide hcall
      go_wp2_with fail
      refine hcall.out.mono ?_
      rintro e w3 ⟨hR, hb3⟩
      have hB3 := hide (hBc.out.trans (hb3.mono hBc.out.size))
      have s1 : w3.cell? ⟨w.heap.size + 1, 0, none⟩ = some (.slice none 0 0) := (cellB hb3 (by simp; omega)).trans (by go_simp)
      have s2 : w3.cell? ⟨w.heap.size + 1 + 1, 0, none⟩ = some (.int .i64 0) := (cellB hb3 (by simp; omega)).trans (by go_simp)
      have t1 : w3.frozen? ⟨w.heap.size + 1, 0, none⟩ = false := (hb3.frozen (p := ⟨w.heap.size + 1, 0, none⟩) (by simp; omega)).trans (by go_simp)
      have t2 : w3.frozen? ⟨w.heap.size + 1 + 1, 0, none⟩ = false := (hb3.frozen (p := ⟨w.heap.size + 1 + 1, 0, none⟩) (by simp; omega)).trans (by go_simp)
      clear hb3 r1 r2 f1 f2
      cases htf : textF S s with
      | none =>
        rw [htf] at hR
        obtain ⟨u, rfl, rfl⟩ := hR
        have hq := hq.out
        rw [htf] at hq
        subst hq
        clear htf
        go_wp2
        refine leaves_cons (f := 89) (args := #[.pointer (some ⟨w.heap.size + 1, 0, none⟩), .pointer (some ⟨w.heap.size + 1 + 1, 0, none⟩)]) (by simp) (by simp [go_sem]) ?_
        refine (catch_panicking (w.heap.size + 1) (w.heap.size + 1 + 1) none 0 0 0 [] _ s1 t1 (by omega) s2 t2).mono ?_
        rintro e u' w'' ⟨rfl, rfl, rfl⟩
        refine leaves_end _ _ _ _ (w.heap.size + 1) (w.heap.size + 1 + 1) (.slice none 0 0) (.int .i64 6) rfl rfl rfl (by go_simp) (by go_simp) ⟨⟨none, 0, rfl, RdRow.nil _ _ _, Nat.le_refl _⟩, ?_⟩
        exact (hB3.out.setCell (by simp +arith) _).setCell (by simp +arith) _
      | some L =>
        rw [htf] at hR
        obtain ⟨A1, C1, rfl, hrd, hlc, hbs⟩ := hR
        have hq := hq.out
        rw [htf] at hq
        subst hq
        clear htf
        have hrd2 := hide (rdRow_far (rdRow_far hrd (p := ⟨w.heap.size + 1, 0, none⟩) (fun b off e => by have := hbs b off e; simp at this; simp; omega) (.slice A1 L.length C1)) (p := ⟨w.heap.size + 1 + 1, 0, none⟩) (fun b off e => by have := hbs b off e; simp at this; simp; omega) (.int .i64 0))
        clear hbs
        replace hrd := hide hrd
        go_wp2
        refine leaves_cons (f := 89) (args := #[.pointer (some ⟨w.heap.size + 1, 0, none⟩), .pointer (some ⟨w.heap.size + 1 + 1, 0, none⟩)]) (by simp) (by simp [go_sem]) ?_
        refine (catch_idle (w.heap.size + 1) (w.heap.size + 1 + 1) _).mono ?_
        rintro e u' w'' ⟨rfl, rfl, rfl⟩
        refine leaves_end _ _ _ _ (w.heap.size + 1) (w.heap.size + 1 + 1) (.slice A1 L.length C1) (.int .i64 0) rfl rfl rfl (by go_simp) (by go_simp) ⟨⟨A1, C1, rfl, ?_, hlc⟩, ?_⟩
        · exact hrd2.out
        · exact (hB3.out.setCell (by simp +arith) _).setCell (by simp +arith) _
end Go.Proofs.YtjfdfhnfcpfmcaaGreatDoor
