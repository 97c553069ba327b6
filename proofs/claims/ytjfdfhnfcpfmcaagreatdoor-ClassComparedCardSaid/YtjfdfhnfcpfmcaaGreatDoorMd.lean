import Derived.Test.YtjfdfhnfcpfmcaaGreatDoorMc
import Derived.Laws.EntriesVeiled
namespace Go.Proofs.YtjfdfhnfcpfmcaaGreatDoor
open Go.RowKit RG

/-- n zeros. -/
def zeros (n : Nat) : Array Value := Array.replicate n (.int .i64 0)
theorem infoInt : (Tryz.prog.info? 3).map (fun i => (i.zero, i.size, i.bytes)) = some (some (.int .i64 0), 1, 8) := by kernel_rfl
theorem make_ints (n : Nat) (hn : n ≤ 1000000) (w : World) :
    (Instr.makeSlice 41 (.int .i64 (n : Int)) (.int .i64 (n : Int))).run Tryz.prog w = .ok (.slice (some ⟨w.heap.size, 0, none⟩) n n) (w.alloc (.cells (zeros n) 3)) := by
  obtain ⟨i, hi, hz, hs, hb⟩ := info_parts infoInt
  have hr := run_make (P := Tryz.prog) w 41 3 i (.int .i64 0) Tryz.underlying41 hi hz .i64 .i64 n n (by omega) (by omega) (by rw [hb]; omega) (by omega)
  simp only [Int.toNat_natCast] at hr
  rw [hr, hs]
  have hm : madeCells (Value.int .i64 0).cells (n * 1) = zeros n := by
    apply Array.ext
    · simp [madeCells, zeros]
    · intro j h1 h2
      simp [madeCells, zeros, Value.cells, Nat.mod_one]
  rw [hm]
/-- The classes that k covers, as bits. -/
def cover (cs : List Cls) (n k : Nat) : Nat := visit (incOf cs) (n + 1) 0 k
theorem cover_lt (cs : List Cls) (n k : Nat) (hinc : ∀ k, ∀ x ∈ incOf cs k, 0 ≤ x ∧ x < (n : Int)) (hk : k < n) : cover cs n k < 2 ^ n :=
  visit_lt _ n hinc _ _ _ hk (Nat.pow_pos (by omega))

set_option maxRecDepth 100000 in
set_option maxHeartbeats 1000000 in
theorem reach_any (A A2 A3 : Option Addr) (n cc n2 c2 n3 c3 : Nat) (xs : List (List Value)) (cs : List Cls) (k : Nat) (w : World)
    (h : RdClss w A n xs cs) (hn : n ≤ 12) (hinc : ∀ k, ∀ x ∈ incOf cs k, 0 ≤ x ∧ x < (n : Int)) (hk : k < n) :
    Calls Tryz.prog 101 #[.agg #[.slice A n cc, .slice A2 n2 c2, .slice A3 n3 c3], .int .i64 k] w fun e w' => e = .returned (.int .i64 (cover cs n k : Nat)) ∧ Below w.heap.size w w' := by
  have hcl := cover_lt cs n k hinc hk
  have hinc := hide hinc
  have H := hide h
  clear h
  go_enter Tryz.func101, Tryz.ntmps101
  go_wp2_with fail
  refine (visit_any w A n cc xs cs (w.heap.size + 1) w.heap.size (w.heap.size + 1 + 1) H.out hn hinc.out (by omega) (by omega) (by omega) (by omega) (n + 1) 0 k _ (by have := unset_le n 0; omega) hk (Nat.pow_pos (by omega)) ?b1 ?b2 ?b3 ?b4).mono ?_
  case b1 => exact ((((Below.refl _ _).alloc (by simp) _).alloc (by simp) _).alloc (by simp +arith) _)
  case b2 =>
    have h1 := (Blk.new (w.alloc (.cells #[.slice A n cc, .slice A2 n2 c2, .slice A3 n3 c3] 100)) 3 #[.int .i64 0])
    rw [World.size_alloc] at h1
    exact h1.alloc _
  case b3 => go_simp
  case b4 => go_simp
  rintro e w1 ⟨rfl, hg, hb⟩
  have hbf : w1.cell? ⟨w.heap.size + 1, 0, none⟩ = some (.int .i64 (cover cs n k : Nat)) := hb.cell 0
  go_wp2
  go_ret
  exact ⟨rfl, ((((Below.refl _ _).alloc (by simp) _).alloc (by simp) _).alloc (by simp +arith) _).trans (only_below hg (by omega) (by simp +arith))⟩

/-- A new row of n zeros, in a block from B on. -/
def NewRow (B n : Nat) : Value → World → Prop := fun v w => ∃ g, v = .slice (some ⟨g, 0, none⟩) n n ∧ Blk w g 3 (zeros n) ∧ B ≤ g
theorem NewRow.stb (B n : Nat) : Stb (NewRow B n) := fun _ _ _ hb ⟨g, e, h, hB⟩ => ⟨g, e, h.below hb h.lt, hB⟩
/-- A view over a new row. -/
def NewView (B n : Nat) (x0 x1 : Value) : Value → World → Prop := fun v w => ∃ g, v = .agg #[x0, x1, .slice (some ⟨g, 0, none⟩) n n] ∧ Blk w g 3 (zeros n) ∧ B ≤ g
theorem NewView.stb (B n : Nat) (x0 x1 : Value) : Stb (NewView B n x0 x1) := fun _ _ _ hb ⟨g, e, h, hB⟩ => ⟨g, e, h.below hb h.lt, hB⟩
/-- A new cell for a view. -/
def NewBox (B : Nat) : Value → World → Prop := fun v w => ∃ p, v = .pointer (some ⟨p, 0, none⟩) ∧ Blk w p 100 #[.slice none 0 0, .slice none 0 0, .slice none 0 0] ∧ B ≤ p
theorem NewBox.stb (B : Nat) : Stb (NewBox B) := fun _ _ _ hb ⟨g, e, h, hB⟩ => ⟨g, e, h.below hb h.lt, hB⟩

/-- The row of what is covered, filled for the first j classes. -/
def CovRow (cs : List Cls) (n j : Nat) (a : Array Value) : Prop := a.size = n ∧ ∀ i, i < n → ∃ x : Int, a[i]? = some (.int .i64 x) ∧ (i < j → x = (cover cs n i : Nat))

/-- Where look is when the first j classes are done. -/
def LookInv (w wr : World) (cs : List Cls) (n p g : Nat) (x0 x1 : Value) (j : Nat) : Prop :=
  Below w.heap.size w wr ∧ Blk wr p 100 #[x0, x1, .slice (some ⟨g, 0, none⟩) n n] ∧ Blk wr (w.heap.size + 1) 100 #[.slice none 0 0, .slice none 0 0, .slice none 0 0] ∧
    ∃ a, Blk wr g 3 a ∧ CovRow cs n j a
theorem CovRow.start (cs : List Cls) (n : Nat) : CovRow cs n 0 (zeros n) :=
  ⟨by simp [zeros], fun i hi => ⟨0, by simp [zeros, hi], fun h => absurd h (by omega)⟩⟩
theorem CovRow.step {cs : List Cls} {n j : Nat} {a : Array Value} (h : CovRow cs n j a) (hj : j < n) : CovRow cs n (j + 1) (a.setIfInBounds j (.int .i64 (cover cs n j : Nat))) := by
  refine ⟨by simp [h.1], fun i hi => ?_⟩
  by_cases e : i = j
  · subst e
    exact ⟨(cover cs n i : Nat), by simp [h.1, hi], fun _ => rfl⟩
  · obtain ⟨x, hx, h2⟩ := h.2 i hi
    exact ⟨x, by rw [Array.getElem?_setIfInBounds_ne (Ne.symm e)]; exact hx, fun h3 => h2 (by omega)⟩
theorem CovRow.done {cs : List Cls} {n : Nat} {a : Array Value} (h : CovRow cs n n a) {w : World} {g : Nat} (hb : Blk w g 3 a) :
    RdInts w (some ⟨g, 0, none⟩) n ((List.range n).map fun k => ((cover cs n k : Nat) : Int)) := by
  refine ⟨by simp, fun hn => ⟨g, 0, rfl, hb.lt, fun j hj => ?_⟩⟩
  obtain ⟨x, hx, h2⟩ := h.2 j hj
  rw [Nat.zero_add, hb.cell j, hx, h2 hj]
  simp [hj]

set_option maxRecDepth 100000 in
set_option maxHeartbeats 2000000 in
theorem look_any (A A2 : Option Addr) (n cc n2 c2 : Nat) (xs : List (List Value)) (cs : List Cls) (w : World)
    (h : RdClss w A n xs cs) (hn : n ≤ 12) (hinc : ∀ k, ∀ x ∈ incOf cs k, 0 ≤ x ∧ x < (n : Int)) :
    Calls Tryz.prog 69 #[.agg #[.slice A n cc, .slice A2 n2 c2]] w fun e w' => (∃ g, e = .returned (.agg #[.slice A n cc, .slice A2 n2 c2, .slice (some ⟨g, 0, none⟩) n n]) ∧ w.heap.size ≤ g ∧
      RdInts w' (some ⟨g, 0, none⟩) n ((List.range n).map fun k => ((cover cs n k : Nat) : Int))) ∧ Below w.heap.size w w' := by
  have H := hide h
  clear h
  have hinc := hide hinc
  have hmk := make_ints n (by omega)
  go_enter Tryz.func69, Tryz.ntmps69
  go_wp2
  refine region_grow_tail 7 [IsV (.agg #[.slice A n cc, .slice A2 n2 c2]), IsV (.pointer (some ⟨w.heap.size, 0, none⟩)), IsV (.slice A n cc), IsV (.int .i64 (n : Int)), NewRow (w.heap.size + 2) n, NewView (w.heap.size + 2) n (.slice A n cc) (.slice A2 n2 c2), NewBox (w.heap.size + 2)]
    (by kernel_rfl) (by kernel_rfl) rfl ?_ ?_ ?_
  · simp [AllStb, IsV.stb, NewRow.stb, NewView.stb, NewBox.stb]
  · refine ⟨?_, ?_, ?_, ?_, ?_, ?_, ?_, trivial⟩
    all_goals
      intro y w1 K Q Cv hC hd hV
      have c0 : w1.cell? ⟨w.heap.size, 0, none⟩ = some (.slice A n cc) := (cellB hC (by simp +arith)).trans (by go_simp)
      have c1 : w1.cell? ⟨w.heap.size, 1, none⟩ = some (.slice A2 n2 c2) := (cellB hC (by simp +arith)).trans (by go_simp)
      have hz := hC.size
      have hz2 : w.heap.size + 2 ≤ w1.heap.size := by simpa using hz
      simp [deps, VL, IsV, Region.binds] at hd
    · simp only [List.take_succ_cons, List.take_zero, putAll, Act.put]
      go_simp; intro hK; exact hK _ _ (hV _ _ hC (Below.refl _ _) rfl)
    · simp only [List.take_succ_cons, List.take_zero, putAll, Act.put]
      go_simp; intro hK; exact hK _ _ (hV _ _ hC (Below.refl _ _) rfl)
    · simp only [List.take_succ_cons, List.take_zero, putAll, Act.put]
      go_simp; intro hK; exact hK _ _ (hV _ _ hC (Below.refl _ _) rfl)
    · simp only [List.take_succ_cons, List.take_zero, putAll, Act.put]
      go_simp; intro hK; exact hK _ _ (hV _ _ hC (Below.refl _ _) rfl)
    · simp only [List.take_succ_cons, List.take_zero, putAll, Act.put]
      go_simp; intro hK; exact hK _ _ (hV _ _ (hC.alloc hz _) ((Below.refl _ _).alloc (Nat.le_refl _) _) ⟨_, rfl, Blk.new _ _ _, hz2⟩)
    · obtain ⟨h0, g, h4, hbk, hB⟩ : y 0 = _ ∧ NewRow (w.heap.size + 2) n (y 4) w1 := hd
      simp only [List.take_succ_cons, List.take_zero, putAll, Act.put]
      go_simp; intro hK; exact hK _ _ (hV _ _ hC (Below.refl _ _) ⟨g, rfl, hbk, hB⟩)
    · simp only [List.take_succ_cons, List.take_zero, putAll, Act.put]
      go_simp; intro hK; exact hK _ _ (hV _ _ (hC.alloc hz _) ((Below.refl _ _).alloc (Nat.le_refl _) _) ⟨_, rfl, Blk.new _ _ _, hz2⟩)
  · intro y w1 hC hd
    simp [EndsL, IsV] at hd
    obtain ⟨d0, d1, d2, d3, ⟨g0, d4, _, _⟩, ⟨g, d5, hg, hgB⟩, p, d6, hp, hpB⟩ := hd
    simp only [List.take_succ_cons, List.take_zero, List.drop_succ_cons, List.drop_zero, putAll, Act.put]
    rw [d0, d1, d2, d3, d4, d5, d6]
    clear d0 d1 d2 d3 d4 d5 d6
    simp only [List.setIfInBounds_toArray, List.set_cons_succ, List.set_cons_zero]
    have hB1 : Below w.heap.size w w1 := (((Below.refl _ _).alloc (by simp) _).alloc (by simp) _).trans (hC.mono (by simp +arith))
    have hgp : g ≠ p := hg.ne_ hp (by decide)
    have p0 : w1.cell? ⟨p, 0, none⟩ = some (.slice none 0 0) := hp.cell 0
    have p1 : w1.cell? ⟨p, 1, none⟩ = some (.slice none 0 0) := hp.cell 1
    have p2 : w1.cell? ⟨p, 2, none⟩ = some (.slice none 0 0) := hp.cell 2
    have q0 : w1.frozen? ⟨p, 0, none⟩ = false := hp.frozen 0
    have q1 : w1.frozen? ⟨p, 1, none⟩ = false := hp.frozen 1
    have q2 : w1.frozen? ⟨p, 2, none⟩ = false := hp.frozen 2
    have HC := hide hC
    clear hC hmk
    have hg := hide hg
    have hp := hide hp
    have hB1 := hide hB1
    go_wp2
    have HI : Hid (LookInv w (((w1.setCell ⟨p, 0, none⟩ (.slice A n cc)).setCell ⟨p, 1, none⟩ (.slice A2 n2 c2)).setCell ⟨p, 2, none⟩ (.slice (some ⟨g, 0, none⟩) n n)) cs n p g (.slice A n cc) (.slice A2 n2 c2) 0) := by
      refine ⟨((hB1.out.setCell (by simp; omega) _).setCell (by simp; omega) _).setCell (by simp; omega) _, ((hp.out.set_ 0 _).set_ 1 _).set_ 2 _, ?_, zeros n, ?_, CovRow.start cs n⟩
      · have h1 := Blk.new (w.alloc (.cells #[.slice A n cc, .slice A2 n2 c2] 38)) 100 #[.slice none 0 0, .slice none 0 0, .slice none 0 0]
        rw [World.size_alloc] at h1
        exact (((h1.below HC.out (by simp +arith)).far (by simp; omega) _).far (by simp; omega) _).far (by simp; omega) _
      · exact ((hg.out.far (by simpa using hgp) _).far (by simpa using hgp) _).far (by simpa using hgp) _
    clear p0 p1 p2 q0 q1 q2 HC hg hp hB1
    go_loopg [4, 15] n (fun gg _ s15 wr => ∃ j : Nat, j ≤ n ∧ n ≤ gg + j ∧ s15 = .int .i64 j ∧ Hid (LookInv w wr cs n p g (.slice A n cc) (.slice A2 n2 c2) j))
    case atStart => exact ⟨0, Nat.zero_le _, by omega, rfl, HI.out⟩
    case round =>
      obtain ⟨j, hj, hgg, rfl, hI⟩ := hrel
      clear HI
      obtain ⟨hB, hP, hR, a, hA, hcov⟩ := hI.out
      clear hI
      have p0 : wr.cell? ⟨p, 0, none⟩ = some (.slice A n cc) := hP.cell 0
      have p1 : wr.cell? ⟨p, 1, none⟩ = some (.slice A2 n2 c2) := hP.cell 1
      have p2 : wr.cell? ⟨p, 2, none⟩ = some (.slice (some ⟨g, 0, none⟩) n n) := hP.cell 2
      have hzp := hP.lt
      by_cases hlt : j < n
      · have hltz : (j : Int) < (n : Int) := by omega
        have hB := hide hB
        have hP := hide hP
        have hR := hide hR
        have hA := hide hA
        have hcov := hide hcov
        go_wp2
        refine region_grow_tail 7 [IsV (.pointer (some ⟨p, 2, none⟩)), IsV (.slice (some ⟨g, 0, none⟩) n n), IsV (.int .i64 (j : Int)), IsV (.agg #[.slice A n cc, .slice A2 n2 c2, .slice (some ⟨g, 0, none⟩) n n]), IsV (.int .i64 (j : Int)), IsV (.int .i64 (cover cs n j : Nat)), IsV (.pointer (some ⟨g, j, none⟩))]
          (by kernel_rfl) (by kernel_rfl) rfl ?_ ?_ ?_
        · simp [AllStb, IsV.stb]
        · refine ⟨?_, ?_, ?_, ?_, ?_, ?_, ?_, trivial⟩
          all_goals
            intro y w2 K Q Cv hC hd hV
            have r0 := (cellB (o := 0) hC hzp).trans p0
            have r1 := (cellB (o := 1) hC hzp).trans p1
            have r2 := (cellB (o := 2) hC hzp).trans p2
            simp [deps, VL, IsV, Region.binds] at hd
            simp only [List.take_succ_cons, List.take_zero, putAll, Act.put]
            go_simp; intro hK
          · exact hK _ _ (hV _ _ hC (Below.refl _ _) rfl)
          · exact hK _ _ (hV _ _ hC (Below.refl _ _) rfl)
          · exact hK _ _ (hV _ _ hC (Below.refl _ _) rfl)
          · exact hK _ _ (hV _ _ hC (Below.refl _ _) rfl)
          · exact hK _ _ (hV _ _ hC (Below.refl _ _) rfl)
          · refine (reach_any A A2 (some ⟨g, 0, none⟩) n cc n2 c2 n n xs cs j _ ((H.out.below hB.out).below (hC.mono (Nat.le_refl _))) hn hinc.out hlt).mono ?_
            rintro e w3 ⟨rfl, hb3⟩
            exact hK _ _ (hV _ _ (hC.trans (hb3.mono hC.size)) hb3 rfl)
          · exact hK _ _ (hV _ _ hC (Below.refl _ _) rfl)
        · intro y w2 hC hd
          simp [EndsL, IsV] at hd
          obtain ⟨d0, d1, d2, d3, d4, d5, d6⟩ := hd
          simp only [List.take_succ_cons, List.take_zero, List.drop_succ_cons, List.drop_zero, putAll, Act.put]
          rw [d0, d1, d2, d3, d4, d5, d6]
          clear d0 d1 d2 d3 d4 d5 d6
          simp only [List.setIfInBounds_toArray, List.set_cons_succ, List.set_cons_zero]
          obtain ⟨x, hx, _⟩ := hcov.out.2 j hlt
          have ga := hA.out.below hC hA.out.lt
          have g0 : w2.cell? ⟨g, j, none⟩ = some (.int .i64 x) := (ga.cell j).trans hx
          have f0 : w2.frozen? ⟨g, j, none⟩ = false := ga.frozen j
          have hC := hide hC
          have ga := hide ga
          clear hx p0 p1 p2
          go_wp2
          go_roundg (n - (j + 1))
          case measure => omega
          case rel =>
            refine ⟨j + 1, by omega, by omega, by go_num, ?_, ?_, ?_, _, ga.out.set_ j _, hcov.out.step hlt⟩
            · exact (hB.out.trans (hC.out.mono hB.out.size)).setCell (by simp; omega) _
            · exact (hP.out.below hC.out hP.out.lt).far (by simp; omega) _
            · exact (hR.out.below hC.out hR.out.lt).far (by simp; omega) _
      · have hltz : ¬ (j : Int) < (n : Int) := by omega
        obtain rfl : j = n := by omega
        have hB := hide hB
        have r0 : wr.cell? ⟨w.heap.size + 1, 0, none⟩ = some (.slice none 0 0) := hR.cell 0
        have r1 : wr.cell? ⟨w.heap.size + 1, 1, none⟩ = some (.slice none 0 0) := hR.cell 1
        have r2 : wr.cell? ⟨w.heap.size + 1, 2, none⟩ = some (.slice none 0 0) := hR.cell 2
        have q0 : wr.frozen? ⟨w.heap.size + 1, 0, none⟩ = false := hR.frozen 0
        have q1 : wr.frozen? ⟨w.heap.size + 1, 1, none⟩ = false := hR.frozen 1
        have q2 : wr.frozen? ⟨w.heap.size + 1, 2, none⟩ = false := hR.frozen 2
        have hdone := hide (hcov.done (((hA.far (p := ⟨w.heap.size + 1, 0, none⟩) (by simp; omega) (.slice A j cc)).far (p := ⟨w.heap.size + 1, 1, none⟩) (by simp; omega) (.slice A2 n2 c2)).far (p := ⟨w.heap.size + 1, 2, none⟩) (by simp; omega) (.slice (some ⟨g, 0, none⟩) j j)))
        clear hR hP hA hcov hzp
        go_wp2
        refine bodyPost_ret (v := .agg #[.slice A j cc, .slice A2 n2 c2, .slice (some ⟨g, 0, none⟩) j j]) (by simp [results, Tryz.results69, go_sem, r0, r1, r2]) rfl ⟨⟨g, rfl, by omega, hdone.out⟩, ?_⟩
        exact ((hB.out.setCell (by simp) _).setCell (by simp) _).setCell (by simp) _
end Go.Proofs.YtjfdfhnfcpfmcaaGreatDoor

/-
  What a view of a system answers: classes, sets, covers, circles.
-/
namespace Go.Proofs.YtjfdfhnfcpfmcaaGreatDoor
open Go.RowKit RG

theorem isClass_any (A A2 A3 : Option Addr) (n cc n2 c2 n3 c3 : Nat) (k : Int) (w : World) (hn : n ≤ maxLen) :
    Calls Tryz.prog 74 #[.agg #[.slice A n cc, .slice A2 n2 c2, .slice A3 n3 c3], .int .i64 k] w fun e w' => e = .returned (.bool (inB 0 ((n : Int) - 1) k)) ∧ Below w.heap.size w w' := by
  unfold maxLen at hn
  go_enter Tryz.func74, Tryz.ntmps74
  go_wp2_with fail
  refine (within_one _ _ k _ _ _ _ (by go_simp)).mono ?_
  rintro e w1 ⟨rfl, rfl⟩
  go_wp2
  go_ret
  exact ⟨rfl, ((Below.refl _ _).alloc (by simp) _).alloc (by simp) _⟩

theorem isSet_any (A A2 A3 : Option Addr) (n cc n2 c2 n3 c3 : Nat) (k : Int) (w : World) (hn : n2 ≤ 8) :
    Calls Tryz.prog 76 #[.agg #[.slice A n cc, .slice A2 n2 c2, .slice A3 n3 c3], .int .i64 k] w fun e w' => e = .returned (.bool (inB 0 (((2 ^ n2 : Nat) : Int) - 1) k)) ∧ Below w.heap.size w w' := by
  have h1 : 2 ^ n2 ≤ 2 ^ 8 := Nat.pow_le_pow_right (by omega) hn
  have h0 : 0 < 2 ^ n2 := Nat.pow_pos (by omega)
  have hw : wrap64 (2 ^ n2) = ((2 ^ n2 : Nat) : Int) := by
    unfold wrap64
    have : ((2 : Int) ^ n2) = ((2 ^ n2 : Nat) : Int) := by simp
    rw [this]; omega
  generalize 2 ^ n2 = m at *
  go_enter Tryz.func76, Tryz.ntmps76
  go_wp2_with fail
  refine (within_one _ _ k _ _ _ _ (by go_simp)).mono ?_
  rintro e w1 ⟨rfl, rfl⟩
  go_wp2
  go_ret
  exact ⟨rfl, ((Below.refl _ _).alloc (by simp) _).alloc (by simp) _⟩

theorem covers_any (A A2 G : Option Addr) (n cc n2 c2 c3 : Nat) (cs : List Cls) (k o : Nat) (w : World) (h : RdInts w G n ((List.range n).map fun k => ((cover cs n k : Nat) : Int))) (hn : n ≤ 12)
    (hcl : cover cs n k < 2 ^ 12) (hk : k < n) (ho : o < 40) :
    Calls Tryz.prog 75 #[.agg #[.slice A n cc, .slice A2 n2 c2, .slice G n c3], .int .i64 k, .int .i64 o] w fun e w' => e = .returned (.bool ((cover cs n k).testBit o)) ∧ Below w.heap.size w w' := by
  obtain ⟨b, off, rfl, hb, hc0⟩ := h.2 (by omega)
  have hc := hc0 k hk
  clear hc0
  rw [show ((List.range n).map fun k => ((cover cs n k : Nat) : Int))[k]?.getD 0 = (cover cs n k : Nat) by simp [hk]] at hc
  generalize cover cs n k = F at *
  replace h := hide h
  have hF : F < 2 ^ 40 := Nat.lt_of_lt_of_le hcl (Nat.pow_le_pow_right (by omega) (by omega))
  clear hcl
  go_enter Tryz.func75, Tryz.ntmps75
  go_wp2_with fail
  refine (has_any F o _ hF ho).mono ?_
  rintro e w1 ⟨rfl, rfl⟩
  go_wp2
  go_ret
  exact ⟨rfl, (Below.refl _ _).alloc (by simp) _⟩

/-- The error of a class that includes one that covers it. -/
def circErr (cs : List Cls) (n i : Nat) (c : Cls) : Int := if c.inc.any (fun x => (cover cs n x.toNat).testBit i) = true then 9 else 0

set_option maxRecDepth 100000 in
set_option maxHeartbeats 1000000 in
theorem circleError_any (A A2 G : Option Addr) (n cc n2 c2 c3 : Nat) (cs : List Cls) (i : Nat) (x : List Value) (c : Cls) (w : World)
    (h : RdInts w G n ((List.range n).map fun k => ((cover cs n k : Nat) : Int))) (hn : n ≤ 12) (hcl : ∀ k, k < n → cover cs n k < 2 ^ 12) (hi : i < n) (hx : RdCls w x c) (hinc : ∀ y ∈ c.inc, 0 ≤ y ∧ y < (n : Int)) :
    Calls Tryz.prog 70 #[.agg #[.slice A n cc, .slice A2 n2 c2, .slice G n c3], .int .i64 i, .agg x.toArray] w fun e w' => e = .returned (.int .i64 (circErr cs n i c)) ∧ Below w.heap.size w w' := by
  obtain ⟨ia, ic, rfl, hri, him, _⟩ := hx
  unfold maxLen at him
  have hB0 : Below w.heap.size w ((w.alloc (.cells #[.slice A n cc, .slice A2 n2 c2, .slice G n c3] 100)).alloc (.cells #[.string c.name, .slice ia c.inc.length ic, .int .i64 c.needs, .int .i64 c.age, .int .i64 c.term] 93)) := ((Below.refl _ _).alloc (by simp) _).alloc (by simp) _
  replace hB0 := hide hB0
  replace h := hide h
  replace hcl := hide hcl
  obtain ⟨l, hl⟩ : ∃ l, l = c.inc := ⟨_, rfl⟩
  have hE : circErr cs n i c = if l.any (fun x => (cover cs n x.toNat).testBit i) = true then 9 else 0 := by rw [hl]; rfl
  have HE := hide hE
  rw [← hl] at hinc hri him ⊢
  clear hE
  go_enter Tryz.func70, Tryz.ntmps70
  go_wp2
  rw [← hl]
  clear hl
  go_loopg [8, 12] l.length (fun gg _ s12 wr => ∃ j : Nat, j ≤ l.length ∧ l.length ≤ gg + j ∧ s12 = .int .i64 j ∧ Hid (Below w.heap.size w wr ∧ wr.cell? ⟨w.heap.size, 0, none⟩ = some (.slice A n cc) ∧ wr.cell? ⟨w.heap.size, 1, none⟩ = some (.slice A2 n2 c2) ∧ wr.cell? ⟨w.heap.size, 2, none⟩ = some (.slice G n c3) ∧ w.heap.size < wr.heap.size) ∧
    Hid ((l.take j).any (fun x => (cover cs n x.toNat).testBit i) = false))
  case atStart => exact ⟨0, Nat.zero_le _, by omega, rfl, ⟨((Below.refl _ _).alloc (by simp) _).alloc (by simp) _, by go_simp, by go_simp, by go_simp, by simp +arith⟩, rfl⟩
  case round =>
    obtain ⟨j, hj, hgg, rfl, hH, hA⟩ := hrel
    obtain ⟨hB, p0, p1, p2, hz⟩ := hH.out
    by_cases hlt : j < l.length
    · have hltz : (j : Int) < (l.length : Int) := by omega
      obtain ⟨b, off, rfl, hb, hc0⟩ := hri.2 (by omega)
      have hc := (cellB hB hb).trans (hc0 j hlt)
      clear hc0
      have hx := hinc l[j] (List.getElem_mem hlt)
      have htk : l.take (j + 1) = l.take j ++ [l[j]] := List.take_succ_eq_append_getElem hlt
      have hdk : l = l.take j ++ l[j] :: l.drop (j + 1) := by rw [← List.drop_eq_getElem_cons hlt, List.take_append_drop]
      rw [show l[j]?.getD 0 = l[j] by rw [List.getElem?_eq_getElem hlt]; rfl] at hc
      generalize l[j] = x at *
      obtain ⟨m, rfl⟩ := Int.eq_ofNat_of_zero_le hx.1
      replace htk := hide htk
      replace hdk := hide hdk
      replace hB := hide hB
      go_wp2_with fail
      refine (covers_any A A2 G n cc n2 c2 c3 cs m i _ (h.out.below hB.out) hn (hcl.out m (by omega)) (by omega) (by omega)).mono ?_
      rintro e w1 ⟨rfl, hb1⟩
      cases hq : (cover cs n m).testBit i with
      | true =>
        have hfin : l.any (fun x => (cover cs n x.toNat).testBit i) = true := by
          rw [hdk.out, List.any_append, List.any_cons]; simp [hq]
        have HF := hide hfin
        clear hfin hq
        go_wp2
        go_ret
        exact ⟨ret_int (by rw [HE.out, HF.out]; rfl), hB.out.trans (hb1.mono hB.out.size)⟩
      | false =>
        have hfin : (l.take (j + 1)).any (fun x => (cover cs n x.toNat).testBit i) = false := by
          rw [htk.out, List.any_append, hA.out]; simp [hq]
        have HF := hide hfin
        clear hfin hq
        go_wp2
        go_roundg (l.length - (j + 1))
        case measure => omega
        case rel =>
          exact ⟨j + 1, by omega, by omega, by go_num, ⟨hB.out.trans (hb1.mono hB.out.size), (cellB hb1 hz).trans p0, (cellB hb1 hz).trans p1, (cellB hb1 hz).trans p2, Nat.lt_of_lt_of_le hz hb1.size⟩, HF.out⟩
    · have hltz : ¬ (j : Int) < (l.length : Int) := by omega
      have hfin : l.any (fun x => (cover cs n x.toNat).testBit i) = false := by rw [← hA.out, List.take_of_length_le (by omega)]
      have HF := hide hfin
      clear hfin
      replace hB := hide hB
      go_wp2
      go_ret
      exact ⟨ret_int (by rw [HE.out, HF.out]; rfl), hB.out⟩
end Go.Proofs.YtjfdfhnfcpfmcaaGreatDoor

/-
  class.Check: the first error of a system.
-/
namespace Go.Proofs.YtjfdfhnfcpfmcaaGreatDoor
open Go.RowKit RG

structure Sys where
  cs : List Cls
  codes : List ByteArray

/-- The value v is the system S. -/
def RdSys (w : World) (v : Value) (S : Sys) : Prop := ∃ (A : Option Addr) (cc : Nat) (xs : List (List Value)) (A2 : Option Addr) (c2 : Nat),
  v = .agg #[.slice A S.cs.length cc, .slice A2 S.codes.length c2] ∧ RdClss w A S.cs.length xs S.cs ∧ S.cs.length ≤ cc ∧ RdStrs w A2 S.codes.length S.codes ∧ S.codes.length ≤ c2 ∧ S.codes.length ≤ maxLen
theorem RdSys.below {w w' : World} {v : Value} {S : Sys} (h : RdSys w v S) (hb : Below w.heap.size w w') : RdSys w' v S := by
  obtain ⟨A, cc, xs, A2, c2, h1, h2, h3, h4, h5⟩ := h
  exact ⟨A, cc, xs, A2, c2, h1, h2.below hb, h3, h4.below hb, h5⟩

/-- What Check returns: the part, the index and the error. -/
def checkF (S : Sys) : Int × Int × Int :=
  if ¬ (1 ≤ S.cs.length ∧ S.cs.length ≤ 12) ∨ 8 < S.codes.length then (1, 0, 3)
  else if (firstErr (fun i => clsErr S.cs i (S.cs[i]?.getD default)) 0 S.cs.length).2 ≠ 0 then (2, firstErr (fun i => clsErr S.cs i (S.cs[i]?.getD default)) 0 S.cs.length)
  else if (firstErr (fun i => codeErr S.codes i (S.codes[i]?.getD ⟨#[]⟩)) 0 S.codes.length).2 ≠ 0 then (3, firstErr (fun i => codeErr S.codes i (S.codes[i]?.getD ⟨#[]⟩)) 0 S.codes.length)
  else if (firstErr (fun i => circErr S.cs S.cs.length i (S.cs[i]?.getD default)) 0 S.cs.length).2 ≠ 0 then (4, firstErr (fun i => circErr S.cs S.cs.length i (S.cs[i]?.getD default)) 0 S.cs.length)
  else (0, 0, 0)

/-- What tells the error of a class: a function that holds the system and the last index. -/
def ClsClos (A : Option Addr) (n cc : Nat) : Value → World → Prop := fun v w => ∃ ps pl, v = .func (.func 96) #[] #[.pointer (some ⟨ps, 0, none⟩), .pointer (some ⟨pl, 0, none⟩)] ∧
  w.cell? ⟨ps, 0, none⟩ = some (.slice A n cc) ∧ w.cell? ⟨pl, 0, none⟩ = some (.int .i64 ((n : Int) - 1))
theorem ClsClos.stb (A : Option Addr) (n cc : Nat) : Stb (ClsClos A n cc) := fun _ _ _ hb ⟨ps, pl, e, h1, h2⟩ => ⟨ps, pl, e, (cellB hb (lt_of_cell h1)).trans h1, (cellB hb (lt_of_cell h2)).trans h2⟩
def CodeClos (A2 : Option Addr) (n2 c2 : Nat) : Value → World → Prop := fun v w => ∃ ps, v = .func (.func 99) #[] #[.pointer (some ⟨ps, 0, none⟩)] ∧ w.cell? ⟨ps, 1, none⟩ = some (.slice A2 n2 c2)
theorem CodeClos.stb (A2 : Option Addr) (n2 c2 : Nat) : Stb (CodeClos A2 n2 c2) := fun _ _ _ hb ⟨ps, e, h1⟩ => ⟨ps, e, (cellB hb (lt_of_cell h1)).trans h1⟩
def RetV (p : Value → World → Prop) (e : Ending) (w : World) : Prop := ∃ v, e = .returned v ∧ p v w

theorem classErrors_any (A A2 : Option Addr) (n cc n2 c2 : Nat) (w : World) (hn : n ≤ 12) :
    Calls Tryz.prog 66 #[.agg #[.slice A n cc, .slice A2 n2 c2]] w fun e w' => RetV (ClsClos A n cc) e w' ∧ Below w.heap.size w w' := by
  go_enter Tryz.func66, Tryz.ntmps66
  go_wp2
  go_ret
  exact ⟨⟨_, rfl, _, _, rfl, by go_simp, by go_simp⟩, ((Below.refl _ _).alloc (by simp) _).alloc (by simp) _⟩
theorem codeErrors_any (A A2 : Option Addr) (n cc n2 c2 : Nat) (w : World) :
    Calls Tryz.prog 68 #[.agg #[.slice A n cc, .slice A2 n2 c2]] w fun e w' => RetV (CodeClos A2 n2 c2) e w' ∧ Below w.heap.size w w' := by
  go_enter Tryz.func68, Tryz.ntmps68
  go_wp2
  go_ret
  exact ⟨⟨_, rfl, _, rfl, by go_simp⟩, (Below.refl _ _).alloc (by simp) _⟩

theorem firstErr_zero {err : Nat → Int} : ∀ {k m : Nat}, (firstErr err k m).2 = 0 → ∀ j, k ≤ j → j < k + m → err j = 0
  | k, 0, _, j, h1, h2 => by omega
  | k, m + 1, h, j, h1, h2 => by
    unfold firstErr at h
    split at h
    · rename_i h0
      by_cases e : j = k
      · subst e; exact h0
      · exact firstErr_zero h j (by omega) (by omega)
    · rename_i h0; exact absurd h h0
theorem firstErr_snd {err : Nat → Int} : ∀ {k m : Nat}, (firstErr err k m).2 = 0 → firstErr err k m = (0, 0)
  | k, 0, _ => rfl
  | k, m + 1, h => by
    unfold firstErr at h ⊢
    split at h
    · rw [if_pos (by assumption)]; exact firstErr_snd h
    · rename_i h0; exact absurd h h0
/-- A class without an error includes only classes. -/
theorem clsErr_inc {cs : List Cls} {i : Nat} {c : Cls} (h : clsErr cs i c = 0) : ∀ x ∈ c.inc, 0 ≤ x ∧ x < (cs.length : Int) := by
  unfold clsErr at h
  repeat' (split at h)
  all_goals first | (exfalso; omega) | skip
  rename_i h1 _ _ 
  intro x hx
  have h2 := (Classical.not_not.1 ‹¬¬(c.inc.all (inB 0 ((cs.length : Int) - 1)) = true ∧ _)›).1
  have := inB_iff.1 (List.all_eq_true.1 h2 x hx)
  omega
theorem inc_of_check {cs : List Cls} (h : ∀ i, i < cs.length → clsErr cs i (cs[i]?.getD default) = 0) : ∀ k, ∀ x ∈ incOf cs k, 0 ≤ x ∧ x < (cs.length : Int) := by
  intro k x hx
  by_cases hk : k < cs.length
  · exact clsErr_inc (h k hk) x hx
  · unfold incOf at hx
    rw [List.getElem?_eq_none (by omega)] at hx
    cases hx

theorem enters_cls : ∀ args w, (callFunc 96 args).run Tryz.prog w = .ok (.enter 96 args) w := fun _ _ => by kernel_rfl
theorem enters_code : ∀ args w, (callFunc 99 args).run Tryz.prog w = .ok (.enter 99 args) w := fun _ _ => by kernel_rfl
theorem enters_circ : ∀ args w, (callFunc 70 args).run Tryz.prog w = .ok (.enter 70 args) w := fun _ _ => by kernel_rfl

/-- firstError over the classes, with the closure of classErrors. -/
theorem firstCls (A : Option Addr) (n cc : Nat) (xs : List (List Value)) (cs : List Cls) (ps pl : Nat) (w : World) (h : RdClss w A n xs cs) (hcap : n ≤ cc)
    (h1 : w.cell? ⟨ps, 0, none⟩ = some (.slice A n cc)) (h2 : w.cell? ⟨pl, 0, none⟩ = some (.int .i64 ((n : Int) - 1))) :
    Calls Tryz.prog 65 #[.slice A n cc, .func (.func 96) #[] #[.pointer (some ⟨ps, 0, none⟩), .pointer (some ⟨pl, 0, none⟩)]] w fun e w' =>
      e = .returned (.tuple #[.int .i64 (firstErr (fun i => clsErr cs i (cs[i]?.getD default)) 0 n).1, .int .i64 (firstErr (fun i => clsErr cs i (cs[i]?.getD default)) 0 n).2]) ∧ Below w.heap.size w w' :=
  firstErrorCls 96 #[] #[.pointer (some ⟨ps, 0, none⟩), .pointer (some ⟨pl, 0, none⟩)] enters_cls _ A n cc xs w h.1 h.isCls h.2.2.1 fun j W hj hb => by
    have := clsErr_any A n cc xs cs j (xs[j]?.getD []) (cs[j]?.getD default) ps pl W (h.below hb) hcap ((h.below hb).2.2.2 j hj) hj ((cellB hb (lt_of_cell h1)).trans h1) ((cellB hb (lt_of_cell h2)).trans h2)
    simpa using this
theorem firstCode (A : Option Addr) (n cc : Nat) (codes : List ByteArray) (ps : Nat) (w : World) (h : RdStrs w A n codes) (hm : n ≤ maxLen) (hcap : n ≤ cc)
    (h1 : w.cell? ⟨ps, 1, none⟩ = some (.slice A n cc)) :
    Calls Tryz.prog 67 #[.slice A n cc, .func (.func 99) #[] #[.pointer (some ⟨ps, 0, none⟩)]] w fun e w' =>
      e = .returned (.tuple #[.int .i64 (firstErr (fun i => codeErr codes i (codes[i]?.getD ⟨#[]⟩)) 0 n).1, .int .i64 (firstErr (fun i => codeErr codes i (codes[i]?.getD ⟨#[]⟩)) 0 n).2]) ∧ Below w.heap.size w w' :=
  firstErrorStr 99 #[] #[.pointer (some ⟨ps, 0, none⟩)] enters_code _ A n cc codes w h hm fun j W hj hb => by
    have hsz : (codes[j]?.getD ⟨#[]⟩).size ≤ maxLen := by
      have hl : j < codes.length := by rw [h.1]; exact hj
      rw [List.getElem?_eq_getElem hl]; exact h.2.1 _ (List.getElem_mem hl)
    have := codeErr_any A n cc codes j (codes[j]?.getD ⟨#[]⟩) ps W (h.below hb) hm hcap hsz hj ((cellB hb (lt_of_cell h1)).trans h1)
    simpa using this
theorem firstCirc (A A2 G : Option Addr) (n cc n2 c2 c3 : Nat) (xs : List (List Value)) (cs : List Cls) (w : World) (h : RdClss w A n xs cs) (hn : n ≤ 12)
    (hinc : ∀ k, ∀ x ∈ incOf cs k, 0 ≤ x ∧ x < (n : Int)) (hG : RdInts w G n ((List.range n).map fun k => ((cover cs n k : Nat) : Int))) :
    Calls Tryz.prog 65 #[.slice A n cc, .func (.func 70) #[.agg #[.slice A n cc, .slice A2 n2 c2, .slice G n c3]] #[]] w fun e w' =>
      e = .returned (.tuple #[.int .i64 (firstErr (fun i => circErr cs n i (cs[i]?.getD default)) 0 n).1, .int .i64 (firstErr (fun i => circErr cs n i (cs[i]?.getD default)) 0 n).2]) ∧ Below w.heap.size w w' :=
  firstErrorCls 70 #[.agg #[.slice A n cc, .slice A2 n2 c2, .slice G n c3]] #[] enters_circ _ A n cc xs w h.1 h.isCls h.2.2.1 fun j W hj hb => by
    have := circleError_any A A2 G n cc n2 c2 c3 cs j (xs[j]?.getD []) (cs[j]?.getD default) W (hG.below hb) hn (fun k hk => Nat.lt_of_lt_of_le (cover_lt cs n k hinc hk) (Nat.pow_le_pow_right (by omega) hn)) hj ((h.below hb).2.2.2 j hj) (hinc j)
    simpa using this
end Go.Proofs.YtjfdfhnfcpfmcaaGreatDoor

namespace Go.Proofs.YtjfdfhnfcpfmcaaGreatDoor
open Go.RowKit RG

def Ret3 (r : Int × Int × Int) (e : Ending) : Prop := e = .returned (.tuple #[.int .i64 r.1, .int .i64 r.2.1, .int .i64 r.2.2])

/-- Too many or too few classes, or too many codes. -/
theorem Check_long (A A2 : Option Addr) (n cc n2 c2 : Nat) (w : World) (h : ¬ (1 ≤ n ∧ n ≤ 12) ∨ 8 < n2) (hn : n ≤ maxLen) (hn2 : n2 ≤ maxLen) :
    Calls Tryz.prog 29 #[.agg #[.slice A n cc, .slice A2 n2 c2]] w fun e w' => e = .returned (.tuple #[.int .i64 1, .int .i64 0, .int .i64 3]) ∧ Below w.heap.size w w' := by
  unfold maxLen at hn hn2
  by_cases h1 : 1 ≤ (n : Int) ∧ (n : Int) ≤ 12
  · have h2 : (8 : Int) < n2 := by omega
    go_enter Tryz.func29, Tryz.ntmps29
    go_wp2_with fail
    refine (within_one_yes _ _ (n : Int) _ _ _ _ (by go_simp) h1).mono ?_
    rintro e w1 ⟨rfl, rfl⟩
    go_wp2
    go_ret3
    exact ⟨rfl, ((Below.refl _ _).alloc (by simp) _).alloc (by simp) _⟩
  · go_enter Tryz.func29, Tryz.ntmps29
    go_wp2_with fail
    refine (within_one_no _ _ (n : Int) _ _ _ _ (by go_simp) h1).mono ?_
    rintro e w1 ⟨rfl, rfl⟩
    go_wp2
    go_ret3
    exact ⟨rfl, ((Below.refl _ _).alloc (by simp) _).alloc (by simp) _⟩

/-- What look returns; and its method circleError. -/
def LookV (A A2 : Option Addr) (n cc n2 c2 : Nat) (cs : List Cls) : Value → World → Prop := fun v w => ∃ g, v = .agg #[.slice A n cc, .slice A2 n2 c2, .slice (some ⟨g, 0, none⟩) n n] ∧ RdInts w (some ⟨g, 0, none⟩) n ((List.range n).map fun k => ((cover cs n k : Nat) : Int))
theorem LookV.stb (A A2 : Option Addr) (n cc n2 c2 : Nat) (cs : List Cls) : Stb (LookV A A2 n cc n2 c2 cs) := fun _ _ _ hb ⟨g, e, h⟩ => ⟨g, e, h.below hb⟩
def LookF (A A2 : Option Addr) (n cc n2 c2 : Nat) (cs : List Cls) : Value → World → Prop := fun v w => ∃ g, v = .func (.func 70) #[.agg #[.slice A n cc, .slice A2 n2 c2, .slice (some ⟨g, 0, none⟩) n n]] #[] ∧ RdInts w (some ⟨g, 0, none⟩) n ((List.range n).map fun k => ((cover cs n k : Nat) : Int))
theorem LookF.stb (A A2 : Option Addr) (n cc n2 c2 : Nat) (cs : List Cls) : Stb (LookF A A2 n cc n2 c2 cs) := fun _ _ _ hb ⟨g, e, h⟩ => ⟨g, e, h.below hb⟩

set_option maxRecDepth 100000 in
set_option maxHeartbeats 4000000 in
theorem Check_sys (A A2 : Option Addr) (cc c2 : Nat) (xs : List (List Value)) (S : Sys) (n n2 : Nat) (w : World) (hn1 : 1 ≤ n ∧ n ≤ 12) (hn2 : n2 ≤ 8) (en : n = S.cs.length) (en2 : n2 = S.codes.length)
    (h : RdClss w A n xs S.cs) (hcap : n ≤ cc) (hs : RdStrs w A2 n2 S.codes) (hcap2 : n2 ≤ c2) :
    Calls Tryz.prog 29 #[.agg #[.slice A n cc, .slice A2 n2 c2]] w fun e w' => Ret3 (checkF S) e ∧ Below w.heap.size w w' := by
  have hF : checkF S = if (firstErr (fun i => clsErr S.cs i (S.cs[i]?.getD default)) 0 n).2 ≠ 0 then (2, firstErr (fun i => clsErr S.cs i (S.cs[i]?.getD default)) 0 n)
      else if (firstErr (fun i => codeErr S.codes i (S.codes[i]?.getD ⟨#[]⟩)) 0 n2).2 ≠ 0 then (3, firstErr (fun i => codeErr S.codes i (S.codes[i]?.getD ⟨#[]⟩)) 0 n2)
      else if (firstErr (fun i => circErr S.cs n i (S.cs[i]?.getD default)) 0 n).2 ≠ 0 then (4, firstErr (fun i => circErr S.cs n i (S.cs[i]?.getD default)) 0 n) else (0, 0, 0) := by
    unfold checkF; rw [← en, ← en2, if_neg (by omega)]
  have hcov : (firstErr (fun i => clsErr S.cs i (S.cs[i]?.getD default)) 0 n).2 = 0 → ∀ k, ∀ x ∈ incOf S.cs k, 0 ≤ x ∧ x < (n : Int) := by
    intro h0
    have := inc_of_check (cs := S.cs) (fun i hi => firstErr_zero (k := 0) (m := n) h0 i (by omega) (by omega))
    rw [← en] at this; exact this
  replace hcov := hide hcov
  replace hF := hide hF
  have hfirst := hide (fun ps pl w' (hb : Below w.heap.size w w') => firstCls A n cc xs S.cs ps pl w' (h.below hb) hcap)
  have hcode := hide (fun ps w' (hb : Below w.heap.size w w') => firstCode A2 n2 c2 S.codes ps w' (hs.below hb) (by unfold maxLen; omega) hcap2)
  have hcirc := hide (fun G c3 w' (hb : Below w.heap.size w w') hinc => firstCirc A A2 G n cc n2 c2 c3 xs S.cs w' (h.below hb) hn1.2 hinc)
  generalize firstErr (fun i => clsErr S.cs i (S.cs[i]?.getD default)) 0 n = r1 at *
  generalize firstErr (fun i => codeErr S.codes i (S.codes[i]?.getD ⟨#[]⟩)) 0 n2 = r2 at *
  generalize firstErr (fun i => circErr S.cs n i (S.cs[i]?.getD default)) 0 n = r3 at *
  obtain ⟨a1, e1⟩ := r1
  obtain ⟨a2, e2⟩ := r2
  obtain ⟨a3, e3⟩ := r3
  simp only at hF hcov hfirst hcode hcirc
  have H := hide h
  have Hs := hide hs
  clear h hs
  replace en := hide en
  replace en2 := hide en2
  have h8 : ¬ (8 : Int) < n2 := by omega
  have h12 : 1 ≤ (n : Int) ∧ (n : Int) ≤ 12 := by omega
  go_enter Tryz.func29, Tryz.ntmps29
  go_wp2_with fail
  refine (within_one_yes _ _ (n : Int) _ _ _ _ (by go_simp) h12).mono ?_
  rintro e w1 ⟨rfl, rfl⟩
  go_wp2
  have hB0 : Below w.heap.size w ((w.alloc (.cells #[.slice A n cc, .slice A2 n2 c2] 38)).alloc (.cells #[.int .i64 (n : Int)] 3)) := ((Below.refl _ _).alloc (by simp) _).alloc (by simp) _
  refine region_grow [IsV (.pointer (some ⟨w.heap.size, 0, none⟩)), IsV (.slice A n cc), IsV (.agg #[.slice A n cc, .slice A2 n2 c2]), ClsClos A n cc, IsV (.tuple #[.int .i64 a1, .int .i64 e1]), IsV (.tuple #[.int .i64 a1, .int .i64 e1]), IsV (.int .i64 a1), IsV (.int .i64 e1), IsV (.int .i64 a1), IsV (.int .i64 e1)] (by kernel_rfl) (by kernel_rfl) rfl ?_ ?_ ?_
  · simp [AllStb, IsV.stb, ClsClos.stb]
  · refine ⟨?_, ?_, ?_, ?_, ?_, ?_, ?_, ?_, ?_, ?_, trivial⟩
    all_goals
      intro y w1 K Q Cv hC hd hV
      have s0 : w1.cell? ⟨w.heap.size, 0, none⟩ = some (.slice A n cc) := (cellB hC (by simp +arith)).trans (by go_simp)
      have s1 : w1.cell? ⟨w.heap.size, 1, none⟩ = some (.slice A2 n2 c2) := (cellB hC (by simp +arith)).trans (by go_simp)
      simp [deps, VL, IsV, Region.binds] at hd
    · simp only [putAll, Act.put]; go_simp; intro hK; exact hK _ _ (hV _ _ hC (Below.refl _ _) rfl)
    · simp only [putAll, Act.put]; go_simp; intro hK; exact hK _ _ (hV _ _ hC (Below.refl _ _) rfl)
    · simp only [putAll, Act.put]; go_simp; intro hK; exact hK _ _ (hV _ _ hC (Below.refl _ _) rfl)
    · simp only [putAll, Act.put]; go_simp; intro hK
      refine (classErrors_any A A2 n cc n2 c2 _ hn1.2).mono ?_
      rintro e w2 ⟨⟨v, rfl, hv⟩, hb⟩
      exact hK _ _ (hV _ _ (hC.trans (hb.mono hC.size)) hb hv)
    · obtain ⟨h1, ps, pl, h3, hp1, hp2⟩ : y 1 = _ ∧ ClsClos A n cc (y 3) w1 := hd
      simp only [putAll, Act.put]; go_simp; intro hK
      refine (hfirst.out ps pl _ (hB0.trans (hC.mono (by simp +arith))) hp1 hp2).mono ?_
      rintro e w2 ⟨rfl, hb⟩
      exact hK _ _ (hV _ _ (hC.trans (hb.mono hC.size)) hb rfl)
    · simp only [putAll, Act.put]; go_simp; intro hK; exact hK _ _ (hV _ _ hC (Below.refl _ _) rfl)
    · simp only [putAll, Act.put]; go_simp; intro hK; exact hK _ _ (hV _ _ hC (Below.refl _ _) rfl)
    · simp only [putAll, Act.put]; go_simp; intro hK; exact hK _ _ (hV _ _ hC (Below.refl _ _) rfl)
    · simp only [putAll, Act.put]; go_simp; intro hK; exact hK _ _ (hV _ _ hC (Below.refl _ _) rfl)
    · simp only [putAll, Act.put]; go_simp; intro hK; exact hK _ _ (hV _ _ hC (Below.refl _ _) rfl)
  intro y w1 hC hd
  simp [EndsL, IsV] at hd
  obtain ⟨d0, d1, d2, ⟨ps, pl, d3, _, _⟩, d4, d5, d6, d7, d8, d9⟩ := hd
  simp only [putAll, Act.put]
  rw [d0, d1, d2, d3, d4, d5, d6, d7, d8, d9]
  clear d0 d1 d2 d3 d4 d5 d6 d7 d8 d9
  simp only [List.setIfInBounds_toArray, List.set_cons_succ, List.set_cons_zero]
  have hB1 : Below w.heap.size w w1 := hB0.trans (hC.mono (by simp +arith))
  have hz1 : w.heap.size < w1.heap.size := by have := hC.size; simp at this; omega
  have s0 : w1.cell? ⟨w.heap.size, 0, none⟩ = some (.slice A n cc) := (cellB hC (by simp +arith)).trans (by go_simp)
  have s1 : w1.cell? ⟨w.heap.size, 1, none⟩ = some (.slice A2 n2 c2) := (cellB hC (by simp +arith)).trans (by go_simp)
  clear hC
  replace hB0 := hide hB0
  replace hB1 := hide hB1
  by_cases he1 : e1 = 0
  · subst he1
    rw [if_neg (by simp)] at hF
    have hcov := hcov.out rfl
    replace hcov := hide hcov
    go_wp2
    refine region_grow [IsV (.pointer (some ⟨w.heap.size, 1, none⟩)), IsV (.slice A2 n2 c2), IsV (.agg #[.slice A n cc, .slice A2 n2 c2]), CodeClos A2 n2 c2, IsV (.tuple #[.int .i64 a2, .int .i64 e2]), IsV (.tuple #[.int .i64 a2, .int .i64 e2]), IsV (.int .i64 a2), IsV (.int .i64 e2), IsV (.int .i64 a2), IsV (.int .i64 e2)] (by kernel_rfl) (by kernel_rfl) rfl ?_ ?_ ?_
    · simp [AllStb, IsV.stb, CodeClos.stb]
    · refine ⟨?_, ?_, ?_, ?_, ?_, ?_, ?_, ?_, ?_, ?_, trivial⟩
      all_goals
        intro y w2 K Q Cv hC hd hV
        have q0 := (cellB (o := 0) hC hz1).trans s0
        have q1 := (cellB (o := 1) hC hz1).trans s1
        simp [deps, VL, IsV, Region.binds] at hd
      · simp only [putAll, Act.put]; go_simp; intro hK; exact hK _ _ (hV _ _ hC (Below.refl _ _) rfl)
      · simp only [putAll, Act.put]; go_simp; intro hK; exact hK _ _ (hV _ _ hC (Below.refl _ _) rfl)
      · simp only [putAll, Act.put]; go_simp; intro hK; exact hK _ _ (hV _ _ hC (Below.refl _ _) rfl)
      · simp only [putAll, Act.put]; go_simp; intro hK
        refine (codeErrors_any A A2 n cc n2 c2 _).mono ?_
        rintro e w3 ⟨⟨v, rfl, hv⟩, hb⟩
        exact hK _ _ (hV _ _ (hC.trans (hb.mono hC.size)) hb hv)
      · obtain ⟨h1, ps, h3, hp1⟩ : y 1 = _ ∧ CodeClos A2 n2 c2 (y 3) w2 := hd
        simp only [putAll, Act.put]; go_simp; intro hK
        refine (hcode.out ps _ (hB1.out.trans (hC.mono hB1.out.size)) hp1).mono ?_
        rintro e w3 ⟨rfl, hb⟩
        exact hK _ _ (hV _ _ (hC.trans (hb.mono hC.size)) hb rfl)
      · simp only [putAll, Act.put]; go_simp; intro hK; exact hK _ _ (hV _ _ hC (Below.refl _ _) rfl)
      · simp only [putAll, Act.put]; go_simp; intro hK; exact hK _ _ (hV _ _ hC (Below.refl _ _) rfl)
      · simp only [putAll, Act.put]; go_simp; intro hK; exact hK _ _ (hV _ _ hC (Below.refl _ _) rfl)
      · simp only [putAll, Act.put]; go_simp; intro hK; exact hK _ _ (hV _ _ hC (Below.refl _ _) rfl)
      · simp only [putAll, Act.put]; go_simp; intro hK; exact hK _ _ (hV _ _ hC (Below.refl _ _) rfl)
    intro y w2 hC hd
    simp [EndsL, IsV] at hd
    obtain ⟨d0, d1, d2, ⟨ps2, d3, _⟩, d4, d5, d6, d7, d8, d9⟩ := hd
    simp only [putAll, Act.put]
    rw [d0, d1, d2, d3, d4, d5, d6, d7, d8, d9]
    clear d0 d1 d2 d3 d4 d5 d6 d7 d8 d9
    simp only [List.setIfInBounds_toArray, List.set_cons_succ, List.set_cons_zero]
    have hB2 : Below w.heap.size w w2 := hB1.out.trans (hC.mono hB1.out.size)
    have hz2 : w.heap.size < w2.heap.size := Nat.lt_of_lt_of_le hz1 hC.size
    have q0 := (cellB (o := 0) hC hz1).trans s0
    have q1 := (cellB (o := 1) hC hz1).trans s1
    clear hC s0 s1
    replace hB2 := hide hB2
    by_cases he2 : e2 = 0
    · subst he2
      rw [if_neg (by simp)] at hF
      go_wp2
      refine region_grow [IsV (.pointer (some ⟨w.heap.size, 0, none⟩)), IsV (.slice A n cc), IsV (.agg #[.slice A n cc, .slice A2 n2 c2]), LookV A A2 n cc n2 c2 S.cs, LookF A A2 n cc n2 c2 S.cs, IsV (.tuple #[.int .i64 a3, .int .i64 e3]), IsV (.tuple #[.int .i64 a3, .int .i64 e3]), IsV (.int .i64 a3), IsV (.int .i64 e3), IsV (.int .i64 a3), IsV (.int .i64 e3)] (by kernel_rfl) (by kernel_rfl) rfl ?_ ?_ ?_
      · simp [AllStb, IsV.stb, LookV.stb, LookF.stb]
      · refine ⟨?_, ?_, ?_, ?_, ?_, ?_, ?_, ?_, ?_, ?_, ?_, trivial⟩
        all_goals
          intro y w3 K Q Cv hC hd hV
          have z0 := (cellB (o := 0) hC hz2).trans q0
          have z1 := (cellB (o := 1) hC hz2).trans q1
          simp [deps, VL, IsV, Region.binds] at hd
        · simp only [putAll, Act.put]; go_simp; intro hK; exact hK _ _ (hV _ _ hC (Below.refl _ _) rfl)
        · simp only [putAll, Act.put]; go_simp; intro hK; exact hK _ _ (hV _ _ hC (Below.refl _ _) rfl)
        · simp only [putAll, Act.put]; go_simp; intro hK; exact hK _ _ (hV _ _ hC (Below.refl _ _) rfl)
        · simp only [putAll, Act.put]; go_simp; intro hK
          refine (look_any A A2 n cc n2 c2 xs S.cs _ (H.out.below (hB2.out.trans (hC.mono hB2.out.size))) hn1.2 (hcov.out trivial)).mono ?_
          rintro e w4 ⟨⟨g, rfl, _, hv⟩, hb⟩
          exact hK _ _ (hV _ _ (hC.trans (hb.mono hC.size)) hb ⟨g, rfl, hv⟩)
        · obtain ⟨g, h3, hg⟩ : LookV A A2 n cc n2 c2 S.cs (y 3) w3 := hd
          simp only [putAll, Act.put]; go_simp; intro hK
          exact hK _ _ (hV _ _ hC (Below.refl _ _) ⟨g, rfl, hg⟩)
        · obtain ⟨h1, ⟨g, h4, hg⟩, _⟩ : y 1 = _ ∧ LookF A A2 n cc n2 c2 S.cs (y 4) w3 ∧ _ := hd
          simp only [putAll, Act.put]; go_simp; intro hK
          refine (hcirc.out (some ⟨g, 0, none⟩) n _ (hB2.out.trans (hC.mono hB2.out.size)) (hcov.out trivial) hg).mono ?_
          rintro e w4 ⟨rfl, hb⟩
          exact hK _ _ (hV _ _ (hC.trans (hb.mono hC.size)) hb rfl)
        · simp only [putAll, Act.put]; go_simp; intro hK; exact hK _ _ (hV _ _ hC (Below.refl _ _) rfl)
        · simp only [putAll, Act.put]; go_simp; intro hK; exact hK _ _ (hV _ _ hC (Below.refl _ _) rfl)
        · simp only [putAll, Act.put]; go_simp; intro hK; exact hK _ _ (hV _ _ hC (Below.refl _ _) rfl)
        · simp only [putAll, Act.put]; go_simp; intro hK; exact hK _ _ (hV _ _ hC (Below.refl _ _) rfl)
        · simp only [putAll, Act.put]; go_simp; intro hK; exact hK _ _ (hV _ _ hC (Below.refl _ _) rfl)
      intro y w3 hC hd
      simp [EndsL, IsV] at hd
      obtain ⟨d0, d1, d2, ⟨g, d3, _⟩, ⟨g', d4, _⟩, d5, d6, d7, d8, d9, d10⟩ := hd
      simp only [putAll, Act.put]
      rw [d0, d1, d2, d3, d4, d5, d6, d7, d8, d9, d10]
      clear d0 d1 d2 d3 d4 d5 d6 d7 d8 d9 d10
      simp only [List.setIfInBounds_toArray, List.set_cons_succ, List.set_cons_zero]
      have hB3 := hide (hB2.out.trans (hC.mono hB2.out.size))
      clear hC q0 q1
      by_cases he3 : e3 = 0
      · subst he3
        rw [if_neg (by simp)] at hF
        go_wp2
        go_ret3
        exact ⟨by rw [hF.out]; rfl, hB3.out⟩
      · rw [if_pos (by simpa using he3)] at hF
        have hb1 : (e3 == 0) = false := by rw [beq_eq_false_iff_ne]; exact he3
        have hb2 : (e3 != 0) = true := by rw [bne_iff_ne]; exact he3
        replace he3 := hide he3
        go_wp2
        go_ret3
        exact ⟨by rw [hF.out]; rfl, hB3.out⟩
    · rw [if_pos (by simpa using he2)] at hF
      have hb1 : (e2 == 0) = false := by rw [beq_eq_false_iff_ne]; exact he2
      have hb2 : (e2 != 0) = true := by rw [bne_iff_ne]; exact he2
      replace he2 := hide he2
      go_wp2
      go_ret3
      exact ⟨by rw [hF.out]; rfl, hB2.out⟩
  · rw [if_pos (by simpa using he1)] at hF
    have hb1 : (e1 == 0) = false := by rw [beq_eq_false_iff_ne]; exact he1
    have hb2 : (e1 != 0) = true := by rw [bne_iff_ne]; exact he1
    replace he1 := hide he1
    go_wp2
    go_ret3
    exact ⟨by rw [hF.out]; rfl, hB1.out⟩

theorem Check_any (v : Value) (S : Sys) (w : World) (h : RdSys w v S) :
    Calls Tryz.prog 29 #[v] w fun e w' => Ret3 (checkF S) e ∧ Below w.heap.size w w' := by
  obtain ⟨A, cc, xs, A2, c2, rfl, h2, h3, h4, h5, h6⟩ := h
  by_cases hl : ¬ (1 ≤ S.cs.length ∧ S.cs.length ≤ 12) ∨ 8 < S.codes.length
  · have : checkF S = (1, 0, 3) := by unfold checkF; rw [if_pos hl]
    rw [this]
    exact Check_long A A2 _ cc _ c2 w hl h2.2.2.1 h6
  · exact Check_sys A A2 cc c2 xs S _ _ w (by omega) (by omega) rfl rfl h2 h3 h4 h5
end Go.Proofs.YtjfdfhnfcpfmcaaGreatDoor

/-
  Rights in memory, and their errors.
-/
namespace Go.Proofs.YtjfdfhnfcpfmcaaGreatDoor
open Go.RowKit RG

/-- The cells of a right. -/
def rtCells (r : Int × Int) : List Value := [.int .i64 r.1, .int .i64 r.2]
/-- The slice '.slice A n _' holds the rights rs. -/
def RdRts (w : World) (A : Option Addr) (n : Nat) (rs : List (Int × Int)) : Prop := RdRow w A n 2 (rs.map rtCells) ∧ n ≤ maxLen
section
variable {w w' : World} {A : Option Addr} {n : Nat} {rs : List (Int × Int)}
theorem RdRts.below (h : RdRts w A n rs) (hb : Below w.heap.size w w') : RdRts w' A n rs := ⟨h.1.below hb, h.2⟩
theorem RdRts.len (h : RdRts w A n rs) : rs.length = n := by have := h.1.1; simpa using this
theorem RdRts.isRt (_h : RdRts w A n rs) : ∀ x ∈ rs.map rtCells, IsRt x := by
  intro x hx
  obtain ⟨r, _, rfl⟩ := List.mem_map.1 hx
  exact ⟨r.1, r.2, rfl⟩
theorem rtCells_at (rs : List (Int × Int)) (j : Nat) (hj : j < rs.length) : ((rs.map rtCells)[j]?.getD []) = rtCells (rs[j]?.getD (0, 0)) := by
  simp [hj]
end

/-- The error of a right, of n classes and n2 codes. -/
def rtErr (n n2 : Nat) (r : Int × Int) : Int := if inB 0 ((n : Int) - 1) r.1 = false then 4 else if inB 0 (((2 ^ n2 : Nat) : Int) - 1) r.2 = false then 7 else 0
/-- The error of a list of rights. -/
def rightsF (n n2 : Nat) (rs : List (Int × Int)) : Int := if 40 < rs.length then 3 else (firstErr (fun i => rtErr n n2 (rs[i]?.getD (0, 0))) 0 rs.length).2

set_option maxHeartbeats 1000000 in
theorem rtErr_any (A A2 A3 : Option Addr) (n cc n2 c2 n3 c3 : Nat) (r : Int × Int) (k : Int) (ps : Nat) (w : World) (hn : n ≤ 12) (hn2 : n2 ≤ 8)
    (s0 : w.cell? ⟨ps, 0, none⟩ = some (.slice A n cc)) (s1 : w.cell? ⟨ps, 1, none⟩ = some (.slice A2 n2 c2)) (s2 : w.cell? ⟨ps, 2, none⟩ = some (.slice A3 n3 c3)) :
    Calls Tryz.prog 124 #[.int .i64 k, .agg (rtCells r).toArray, .pointer (some ⟨ps, 0, none⟩)] w fun e w' => e = .returned (.int .i64 (rtErr n n2 r)) ∧ Below w.heap.size w w' := by
  obtain ⟨i0, i1⟩ := r
  have hps := lt_of_cell s0
  have hps' : ps ≠ w.heap.size := Nat.ne_of_lt hps
  obtain ⟨q, hq⟩ : ∃ q, rtErr n n2 (i0, i1) = q := ⟨_, rfl⟩
  rw [hq]
  unfold rtErr at hq
  unfold rtCells
  have hB0 : Below w.heap.size w (w.alloc (.cells #[.int .i64 i0, .int .i64 i1] 64)) := (Below.refl _ _).alloc (by simp) _
  replace hB0 := hide hB0
  replace hq := hide hq
  go_enter Tryz.func124, Tryz.ntmps124
  go_wp2_with fail
  refine (isClass_any A A2 A3 n cc n2 c2 n3 c3 i0 _ (by unfold maxLen; omega)).mono ?_
  rintro e w1 ⟨rfl, hb1⟩
  have hB1 := hB0.out.trans (hb1.mono (by simp))
  have t0 := (cellB (o := 0) hB1 hps).trans s0
  have t1 := (cellB (o := 1) hB1 hps).trans s1
  have t2 := (cellB (o := 2) hB1 hps).trans s2
  have b1 : w1.cell? ⟨w.heap.size, 1, none⟩ = some (.int .i64 i1) := (cellB hb1 (by simp)).trans (by go_simp)
  clear s0 s1 s2 hb1
  replace hB1 := hide hB1
  cases h1 : inB 0 ((n : Int) - 1) i0 with
  | false =>
    have hq := hq.out
    rw [h1, if_pos rfl] at hq
    subst hq
    clear h1
    go_wp2
    go_ret
    exact ⟨rfl, hB1.out⟩
  | true =>
    have hq := hq.out
    rw [h1, if_neg (by simp)] at hq
    replace hq := hide hq
    clear h1
    go_wp2_with fail
    refine (isSet_any A A2 A3 n cc n2 c2 n3 c3 i1 _ hn2).mono ?_
    rintro e w2 ⟨rfl, hb2⟩
    have hB2 := hide (hB1.out.trans (hb2.mono hB1.out.size))
    clear hb2 t0 t1 t2 b1
    cases h1 : inB 0 (((2 ^ n2 : Nat) : Int) - 1) i1 with
    | false =>
      have hq := hq.out
      rw [h1, if_pos rfl] at hq
      subst hq
      clear h1
      go_wp2
      go_ret
      exact ⟨rfl, hB2.out⟩
    | true =>
      have hq := hq.out
      rw [h1, if_neg (by simp)] at hq
      subst hq
      clear h1
      go_wp2
      go_ret
      exact ⟨rfl, hB2.out⟩

theorem enters_rt : ∀ args w, (callFunc 124 args).run Tryz.prog w = .ok (.enter 124 args) w := fun _ _ => by kernel_rfl

set_option maxHeartbeats 1000000 in
theorem rightsError_any (A A2 A3 R : Option Addr) (n cc n2 c2 n3 c3 m cr : Nat) (rs : List (Int × Int)) (w : World) (hn : n ≤ 12) (hn2 : n2 ≤ 8) (h : RdRts w R m rs) :
    Calls Tryz.prog 102 #[.agg #[.slice A n cc, .slice A2 n2 c2, .slice A3 n3 c3], .slice R m cr] w fun e w' => e = .returned (.int .i64 (rightsF n n2 rs)) ∧ Below w.heap.size w w' := by
  have hl := h.len
  have hm := h.2
  unfold maxLen at hm
  obtain ⟨q, hq⟩ : ∃ q, rightsF n n2 rs = q := ⟨_, rfl⟩
  rw [hq]
  unfold rightsF at hq
  rw [hl] at hq
  by_cases h40 : 40 < m
  · rw [if_pos h40] at hq
    subst hq
    clear hl
    have h40' : (40 : Int) < m := by omega
    go_enter Tryz.func102, Tryz.ntmps102
    go_wp2
    go_ret
    exact ⟨rfl, (Below.refl _ _).alloc (by simp) _⟩
  · rw [if_neg h40] at hq
    have h40' : ¬ (40 : Int) < m := by omega
    have hfe := firstErrorRts 124 #[] #[.pointer (some ⟨w.heap.size, 0, none⟩)] enters_rt (fun i => rtErr n n2 (rs[i]?.getD (0, 0))) R m cr (rs.map rtCells) (w.alloc (.cells #[.slice A n cc, .slice A2 n2 c2, .slice A3 n3 c3] 100))
      (h.1.alloc _) h.isRt h.2 (fun j W hj hb => by
        have := rtErr_any A A2 A3 n cc n2 c2 n3 c3 (rs[j]?.getD (0, 0)) j w.heap.size W hn hn2 ((cellB hb (by simp)).trans (by go_simp)) ((cellB hb (by simp)).trans (by go_simp)) ((cellB hb (by simp)).trans (by go_simp))
        rw [rtCells_at rs j (by omega)]
        simpa using this)
    clear hl
    generalize firstErr (fun i => rtErr n n2 (rs[i]?.getD (0, 0))) 0 m = r at *
    obtain ⟨a, e⟩ := r
    simp only at hq
    subst hq
    replace hfe := hide hfe
    replace h := hide h
    go_enter Tryz.func102, Tryz.ntmps102
    go_wp2_with fail
    refine hfe.out.mono ?_
    rintro e w1 ⟨rfl, hb1⟩
    go_wp2
    go_ret
    exact ⟨rfl, ((Below.refl _ _).alloc (by simp) _).trans (hb1.mono (by simp))⟩
end Go.Proofs.YtjfdfhnfcpfmcaaGreatDoor

/-
  class.open: the view of a system and lists of rights.
-/
namespace Go.Proofs.YtjfdfhnfcpfmcaaGreatDoor
open Go.RowKit RG

/-- The slice '.slice A m _' of slices holds the lists of rights ls. -/
def RdLists (w : World) (A : Option Addr) (m : Nat) (ls : List (List (Int × Int))) : Prop :=
  ls.length = m ∧ m ≤ maxLen ∧ (0 < m → ∃ b off, A = some ⟨b, off, none⟩ ∧ b < w.heap.size ∧ ∀ j, j < m → ∃ R c, w.cell? ⟨b, off + j, none⟩ = some (.slice R (ls[j]?.getD []).length c) ∧ RdRts w R (ls[j]?.getD []).length (ls[j]?.getD []))
theorem RdLists.below {w w' : World} {A : Option Addr} {m : Nat} {ls : List (List (Int × Int))} (h : RdLists w A m ls) (hb : Below w.heap.size w w') : RdLists w' A m ls :=
  ⟨h.1, h.2.1, fun hm => by
    obtain ⟨b, off, e, hlt, hc⟩ := h.2.2 hm
    refine ⟨b, off, e, Nat.lt_of_lt_of_le hlt hb.size, fun j hj => ?_⟩
    obtain ⟨R, c, h1, h2⟩ := hc j hj
    exact ⟨R, c, (cellB hb hlt).trans h1, h2.below hb⟩⟩

/-- The first error of lists of rights. -/
def listsF (n n2 : Nat) : List (List (Int × Int)) → Int
  | [] => 0
  | l :: r => if rightsF n n2 l = 0 then listsF n n2 r else rightsF n n2 l
/-- The error of open. -/
def openF (S : Sys) (ls : List (List (Int × Int))) : Int := if (checkF S).2.2 = 0 then listsF S.cs.length S.codes.length ls else (checkF S).2.2

def nilView : Value := .agg #[.slice none 0 0, .slice none 0 0, .slice none 0 0]
/-- The value v is the view of the system S. -/
def IsView (S : Sys) (A A2 : Option Addr) (cc c2 : Nat) : Value → World → Prop := fun v w => ∃ g, v = .agg #[.slice A S.cs.length cc, .slice A2 S.codes.length c2, .slice (some ⟨g, 0, none⟩) S.cs.length S.cs.length] ∧
  RdInts w (some ⟨g, 0, none⟩) S.cs.length ((List.range S.cs.length).map fun k => ((cover S.cs S.cs.length k : Nat) : Int))
/-- What open returns. -/
def OpenR (S : Sys) (A A2 : Option Addr) (cc c2 : Nat) (x : Int) (e : Ending) (w : World) : Prop :=
  (x ≠ 0 ∧ e = .returned (.tuple #[nilView, .int .i64 x])) ∨ (x = 0 ∧ ∃ v, e = .returned (.tuple #[v, .int .i64 0]) ∧ IsView S A A2 cc c2 v w)

theorem checkF_ok {S : Sys} (h : (checkF S).2.2 = 0) : (1 ≤ S.cs.length ∧ S.cs.length ≤ 12) ∧ S.codes.length ≤ 8 ∧ ∀ i, i < S.cs.length → clsErr S.cs i (S.cs[i]?.getD default) = 0 := by
  unfold checkF at h
  split at h
  · cases h
  · rename_i h1
    split at h
    · rename_i h2; exact absurd h h2
    · rename_i h2
      refine ⟨by omega, by omega, fun i hi => firstErr_zero (k := 0) (Classical.not_not.1 h2) i (by omega) (by omega)⟩

theorem _root_.Go.Proofs.YtjfdfhnfcpfmcaaGreatDoor.RdInts.far {w : World} {g n : Nat} {xs : List Int} (h : RdInts w (some ⟨g, 0, none⟩) n xs) {p : Addr} (hp : g ≠ p.block) (u : Value) : RdInts (w.setCell p u) (some ⟨g, 0, none⟩) n xs :=
  ⟨h.1, fun hn => by
    obtain ⟨b, off, e, hlt, hc⟩ := h.2 hn
    injection e with e; injection e with e1 e2 _
    subst e1; subst e2
    exact ⟨g, 0, rfl, by simpa [World.setCell] using hlt, fun j hj => (World.cell?_of_block (Below.heap_setCell w p u g hp)).trans (hc j hj)⟩⟩

set_option maxRecDepth 100000 in
set_option maxHeartbeats 1000000 in
theorem open_any (A A2 L : Option Addr) (cc c2 m cl : Nat) (xs : List (List Value)) (S : Sys) (ls : List (List (Int × Int))) (w : World)
    (h : RdClss w A S.cs.length xs S.cs) (hcap : S.cs.length ≤ cc) (hs : RdStrs w A2 S.codes.length S.codes) (hcap2 : S.codes.length ≤ c2) (hm2 : S.codes.length ≤ maxLen) (hl : RdLists w L m ls) :
    Calls Tryz.prog 73 #[.agg #[.slice A S.cs.length cc, .slice A2 S.codes.length c2], .slice L m cl] w fun e w' => OpenR S A A2 cc c2 (openF S ls) e w' ∧ Below w.heap.size w w' := by
  obtain ⟨q, hq⟩ : ∃ q, openF S ls = q := ⟨_, rfl⟩
  rw [hq]
  unfold openF at hq
  have hck := fun w' (hb : Below w.heap.size w w') => Check_any (.agg #[.slice A S.cs.length cc, .slice A2 S.codes.length c2]) S w' ⟨A, cc, xs, A2, c2, rfl, h.below hb, hcap, hs.below hb, hcap2, hm2⟩
  have hok := checkF_ok (S := S)
  generalize hr : checkF S = r at *
  obtain ⟨p, a, x⟩ := r
  simp only at hq hok
  unfold Ret3 at hck
  simp only at hck
  replace hck := hide hck
  replace hok := hide hok
  replace h := hide h
  replace hs := hide hs
  replace hl := hide hl
  clear hr
  generalize hn : S.cs.length = n at *
  generalize hn2 : S.codes.length = n2 at *
  replace hn := hide hn
  replace hn2 := hide hn2
  have hB0 := hide (((Below.refl w.heap.size w).alloc (Nat.le_refl _) (.cells #[.slice A n cc, .slice A2 n2 c2] 38)).alloc (by simp) (.cells #[.slice none 0 0, .slice none 0 0, .slice none 0 0] 100))
  go_enter Tryz.func73, Tryz.ntmps73
  go_wp2_with fail
  refine (hck.out _ hB0.out).mono ?_
  rintro e w1 ⟨rfl, hb1⟩
  have hB1 := hB0.out.trans (hb1.mono (by simp +arith))
  have hz1 : w.heap.size + 1 < w1.heap.size := by have := hb1.size; simp at this; omega
  have s0 : w1.cell? ⟨w.heap.size, 0, none⟩ = some (.slice A n cc) := (cellB hb1 (by simp +arith)).trans (by go_simp)
  have s1 : w1.cell? ⟨w.heap.size, 1, none⟩ = some (.slice A2 n2 c2) := (cellB hb1 (by simp +arith)).trans (by go_simp)
  have hR0 := Blk.new (w.alloc (.cells #[.slice A n cc, .slice A2 n2 c2] 38)) 100 #[.slice none 0 0, .slice none 0 0, .slice none 0 0]
  rw [World.size_alloc] at hR0
  have hR := hR0.below hb1 (by simp +arith)
  clear hR0
  have r0 : w1.cell? ⟨w.heap.size + 1, 0, none⟩ = some (.slice none 0 0) := hR.cell 0
  have r1 : w1.cell? ⟨w.heap.size + 1, 1, none⟩ = some (.slice none 0 0) := hR.cell 1
  have r2 : w1.cell? ⟨w.heap.size + 1, 2, none⟩ = some (.slice none 0 0) := hR.cell 2
  have f0 : w1.frozen? ⟨w.heap.size + 1, 0, none⟩ = false := hR.frozen 0
  have f1 : w1.frozen? ⟨w.heap.size + 1, 1, none⟩ = false := hR.frozen 1
  have f2 : w1.frozen? ⟨w.heap.size + 1, 2, none⟩ = false := hR.frozen 2
  replace hR := hide hR
  replace hB1 := hide hB1
  clear hb1
  by_cases hx : x = 0
  · subst hx
    rw [if_pos rfl] at hq
    replace hq := hide hq
    obtain ⟨ok1, ok2, ok3⟩ := hok.out rfl
    have hinc := inc_of_check (cs := S.cs) (by rw [hn.out]; exact ok3)
    rw [hn.out] at hinc
    replace hinc := hide hinc
    clear ok3
    clear r0 r1 r2 f0 f1 f2
    go_wp2_with fail
    refine (look_any A A2 n cc n2 c2 xs S.cs _ (h.out.below hB1.out) ok1.2 hinc.out).mono ?_
    rintro e w2 ⟨⟨g, rfl, hgB, hg⟩, hb2⟩
    have hB2 := hide (hB1.out.trans (hb2.mono hB1.out.size))
    replace hR := hide (hR.out.below hb2 hz1)
    have hz2 : w.heap.size + 1 < w2.heap.size := Nat.lt_of_lt_of_le hz1 hb2.size
    replace hg := hide hg
    clear hb2 s0 s1
    have hl2 := hl.out
    have hml := hl2.2.1
    unfold maxLen at hml
    clear hl2
    go_wp2
    have hV := hide (Blk.new w2 100 #[.slice A n cc, .slice A2 n2 c2, .slice (some ⟨g, 0, none⟩) n n])
    go_loopg [11, 12, 27] m (fun gg _ _ s27 wr => ∃ j : Nat, j ≤ m ∧ m ≤ gg + j ∧ s27 = .int .i64 j ∧ Hid (Below w2.heap.size w2 wr ∧ Blk wr w2.heap.size 100 #[.slice A n cc, .slice A2 n2 c2, .slice (some ⟨g, 0, none⟩) n n]) ∧ Hid (listsF n n2 ls = listsF n n2 (ls.drop j)))
    case atStart => exact ⟨0, Nat.zero_le _, by omega, rfl, ⟨(Below.refl _ _).alloc (Nat.le_refl _) _, hV.out⟩, rfl⟩
    case round =>
      obtain ⟨j, hj, hgg, rfl, hH, hA⟩ := hrel
      clear hV
      obtain ⟨hBr, hVr⟩ := hH.out
      clear hH
      have v0 : wr.cell? ⟨w2.heap.size, 0, none⟩ = some (.slice A n cc) := hVr.cell 0
      have v1 : wr.cell? ⟨w2.heap.size, 1, none⟩ = some (.slice A2 n2 c2) := hVr.cell 1
      have v2 : wr.cell? ⟨w2.heap.size, 2, none⟩ = some (.slice (some ⟨g, 0, none⟩) n n) := hVr.cell 2
      have hRr := hR.out.below hBr hz2
      have r0 : wr.cell? ⟨w.heap.size + 1, 0, none⟩ = some (.slice none 0 0) := hRr.cell 0
      have r1 : wr.cell? ⟨w.heap.size + 1, 1, none⟩ = some (.slice none 0 0) := hRr.cell 1
      have r2 : wr.cell? ⟨w.heap.size + 1, 2, none⟩ = some (.slice none 0 0) := hRr.cell 2
      have f0 : wr.frozen? ⟨w.heap.size + 1, 0, none⟩ = false := hRr.frozen 0
      have f1 : wr.frozen? ⟨w.heap.size + 1, 1, none⟩ = false := hRr.frozen 1
      have f2 : wr.frozen? ⟨w.heap.size + 1, 2, none⟩ = false := hRr.frozen 2
      have hBw := hide (hB2.out.trans (hBr.mono hB2.out.size))
      replace hBr := hide hBr
      replace hVr := hide hVr
      replace hRr := hide hRr
      by_cases hlt : j < m
      · have hltz : (j : Int) < (m : Int) := by omega
        obtain ⟨b, off, rfl, hb, hc0⟩ := hl.out.2.2 (by omega)
        obtain ⟨R, c, hc1, hrts⟩ := hc0 j hlt
        have hc := (cellB hBw.out hb).trans hc1
        clear hc0 hc1
        have hdr : ls.drop j = (ls[j]?.getD []) :: ls.drop (j + 1) := by
          have hlj : j < ls.length := by rw [hl.out.1]; exact hlt
          rw [List.drop_eq_getElem_cons hlj, List.getElem?_eq_getElem hlj]; rfl
        generalize ls[j]?.getD [] = l at *
        have hcall := rightsError_any A A2 (some ⟨g, 0, none⟩) R n cc n2 c2 n n l.length c l wr ok1.2 ok2 (hrts.below hBw.out)
        replace hrts := hide hrts
        by_cases hx : rightsF n n2 l = 0
        · have hnx : listsF n n2 ls = listsF n n2 (ls.drop (j + 1)) := by rw [hA.out, hdr]; simp [listsF, hx]
          rw [hx] at hcall
          clear hdr hx
          replace hnx := hide hnx
          replace hcall := hide hcall
          clear r0 r1 r2 f0 f1 f2
          go_wp2_with fail
          refine hcall.out.mono ?_
          rintro e w3 ⟨rfl, hb3⟩
          go_wp2
          go_roundg (m - (j + 1))
          case measure => omega
          case rel => exact ⟨j + 1, by omega, by omega, by go_num, ⟨hBr.out.trans (hb3.mono hBr.out.size), hVr.out.below hb3 hVr.out.lt⟩, hnx.out⟩
        · have hnx : listsF n n2 ls = rightsF n n2 l := by rw [hA.out, hdr]; simp [listsF, hx]
          rw [hq.out] at hnx
          rw [← hnx] at hcall hx
          have hb1 : (q == 0) = false := by rw [beq_eq_false_iff_ne]; exact hx
          have hb2 : (q != 0) = true := by rw [bne_iff_ne]; exact hx
          clear hdr hnx
          replace hx := hide hx
          replace hcall := hide hcall
          clear r0 r1 r2 f0 f1 f2
          go_wp2_with fail
          refine hcall.out.mono ?_
          rintro e w3 ⟨rfl, hb3⟩
          have hR3 := hRr.out.below hb3 hRr.out.lt
          have r0 : w3.cell? ⟨w.heap.size + 1, 0, none⟩ = some (.slice none 0 0) := hR3.cell 0
          have r1 : w3.cell? ⟨w.heap.size + 1, 1, none⟩ = some (.slice none 0 0) := hR3.cell 1
          have r2 : w3.cell? ⟨w.heap.size + 1, 2, none⟩ = some (.slice none 0 0) := hR3.cell 2
          have f0 : w3.frozen? ⟨w.heap.size + 1, 0, none⟩ = false := hR3.frozen 0
          have f1 : w3.frozen? ⟨w.heap.size + 1, 1, none⟩ = false := hR3.frozen 1
          have f2 : w3.frozen? ⟨w.heap.size + 1, 2, none⟩ = false := hR3.frozen 2
          replace hR3 := hide hR3
          have hB3 := hide (hBw.out.trans (hb3.mono hBw.out.size))
          go_wp2
          refine bodyPost_ret (v := .tuple #[nilView, .int .i64 q]) (by simp [results, Tryz.results73, go_sem, r0, r1, r2, nilView]) rfl ⟨.inl ⟨hx.out, rfl⟩, ?_⟩
          exact ((hB3.out.setCell (by simp) _).setCell (by simp) _).setCell (by simp) _
      · have hltz : ¬ (j : Int) < (m : Int) := by omega
        have hq0 : q = 0 := by
          rw [← hq.out, hA.out, List.drop_of_length_le (by rw [hl.out.1]; omega)]; rfl
        subst hq0
        have hgr := hide (hg.out.below hBr.out)
        go_wp2
        refine bodyPost_ret (v := .tuple #[.agg #[.slice A n cc, .slice A2 n2 c2, .slice (some ⟨g, 0, none⟩) n n], .int .i64 0]) (by simp [results, Tryz.results73, go_sem, r0, r1, r2]) rfl ⟨.inr ⟨rfl, _, rfl, g, ?_, ?_⟩, ?_⟩
        · rw [hn.out, hn2.out]
        · rw [hn.out]
          exact ((hgr.out.far (p := ⟨w.heap.size + 1, 0, none⟩) (by simp; omega) _).far (p := ⟨w.heap.size + 1, 1, none⟩) (by simp; omega) _).far (p := ⟨w.heap.size + 1, 2, none⟩) (by simp; omega) _
        · exact ((hBw.out.setCell (by simp) _).setCell (by simp) _).setCell (by simp) _
  · rw [if_neg hx] at hq
    subst hq
    have hb1 : (x == 0) = false := by rw [beq_eq_false_iff_ne]; exact hx
    have hb2 : (x != 0) = true := by rw [bne_iff_ne]; exact hx
    replace hx := hide hx
    go_wp2
    refine bodyPost_ret (v := .tuple #[nilView, .int .i64 x]) (by simp [results, Tryz.results73, go_sem, r0, r1, r2, nilView]) rfl ⟨.inl ⟨hx.out, rfl⟩, ?_⟩
    exact ((hB1.out.setCell (by simp) _).setCell (by simp) _).setCell (by simp) _
end Go.Proofs.YtjfdfhnfcpfmcaaGreatDoor

/-
  class.May, class.Allows and what they call.
-/
namespace Go.Proofs.YtjfdfhnfcpfmcaaGreatDoor
open Go.RowKit RG

/-- What covers asks of a view's third row. -/
def CovOK (cs : List Cls) (n : Nat) (G : Option Addr) (w : World) : Prop :=
  RdInts w G n ((List.range n).map fun k => ((cover cs n k : Nat) : Int)) ∧ n ≤ 12 ∧ ∀ k, k < n → cover cs n k < 2 ^ 12
theorem CovOK.below {cs : List Cls} {n : Nat} {G : Option Addr} {w w' : World} (h : CovOK cs n G w) (hb : Below w.heap.size w w') : CovOK cs n G w' := ⟨h.1.below hb, h.2⟩
theorem covers_ok (A A2 G : Option Addr) (n cc n2 c2 c3 : Nat) (cs : List Cls) (k o : Nat) (w : World) (h : CovOK cs n G w) (hk : k < n) (ho : o < 40) :
    Calls Tryz.prog 75 #[.agg #[.slice A n cc, .slice A2 n2 c2, .slice G n c3], .int .i64 k, .int .i64 o] w fun e w' => e = .returned (.bool ((cover cs n k).testBit o)) ∧ Below w.heap.size w w' :=
  covers_any A A2 G n cc n2 c2 c3 cs k o w h.1 h.2.1 (h.2.2 k hk) hk ho

/-- The right r allows all that o allows. -/
def allB (cs : List Cls) (n : Nat) (r o : Nat × Nat) : Bool := (cover cs n r.1).testBit o.1 && (Bits.andNot r.2 o.2 == 0)

set_option maxHeartbeats 1000000 in
theorem allowsAll_any (A A2 G : Option Addr) (n cc n2 c2 c3 : Nat) (cs : List Cls) (r1 r2 o1 o2 : Nat) (w : World) (h : CovOK cs n G w) (hr : r1 < n) (ho : o1 < n) (hr2 : r2 < 2 ^ 40) :
    Calls Tryz.prog 84 #[.agg #[.slice A n cc, .slice A2 n2 c2, .slice G n c3], .agg #[.int .i64 r1, .int .i64 r2], .agg #[.int .i64 o1, .int .i64 o2]] w fun e w' =>
      e = .returned (.bool (allB cs n (r1, r2) (o1, o2))) ∧ Below w.heap.size w w' := by
  have hB0 := hide ((((Below.refl w.heap.size w).alloc (Nat.le_refl _) (.cells #[.slice A n cc, .slice A2 n2 c2, .slice G n c3] 100)).alloc (by simp) (.cells #[.int .i64 r1, .int .i64 r2] 64)).alloc (by simp +arith) (.cells #[.int .i64 o1, .int .i64 o2] 64))
  have ho40 : o1 < 40 := by have := h.2.1; omega
  obtain ⟨d, hd⟩ : ∃ d, Bits.andNot r2 o2 = d := ⟨_, rfl⟩
  have hand := Bits.andNot_nat r2 o2 (Nat.lt_of_lt_of_le hr2 (Nat.pow_le_pow_right (by omega) (by omega)))
  rw [hd] at hand
  have hE := hide (show allB cs n (r1, r2) (o1, o2) = ((cover cs n r1).testBit o1 && (d == 0)) by unfold allB; rw [hd])
  have hdi : ((d : Int) == 0) = (d == 0) := by
    rw [Bool.eq_iff_iff, beq_iff_eq, beq_iff_eq]; omega
  replace hdi := hide hdi
  clear hd
  go_enter Tryz.func84, Tryz.ntmps84
  go_wp2_with fail
  refine (covers_ok A A2 G n cc n2 c2 c3 cs r1 o1 _ (h.below hB0.out) hr ho40).mono ?_
  rintro e w1 ⟨rfl, hb1⟩
  have hB1 := hide (hB0.out.trans (hb1.mono (by simp +arith)))
  have c1 : w1.cell? ⟨w.heap.size + 1, 1, none⟩ = some (.int .i64 r2) := (cellB hb1 (by simp +arith)).trans (by go_simp)
  have c2 : w1.cell? ⟨w.heap.size + 1 + 1, 1, none⟩ = some (.int .i64 o2) := (cellB hb1 (by simp +arith)).trans (by go_simp)
  clear hb1
  cases hq : (cover cs n r1).testBit o1 with
  | true =>
    replace hq := hide hq
    go_wp2
    go_ret
    exact ⟨ret_bool (by rw [hE.out, hq.out, ← hdi.out]; rfl), hB1.out⟩
  | false =>
    replace hq := hide hq
    go_wp2
    go_ret
    exact ⟨ret_bool (by rw [hE.out, hq.out]; rfl), hB1.out⟩

/-- The right r allows the vehicle of class c with features f. -/
def mayB (cs : List Cls) (n : Nat) (c f : Nat) (r : Nat × Nat) : Bool := (cover cs n r.1).testBit c && (r.2 &&& f == 0)

set_option maxHeartbeats 1000000 in
theorem mayRt_any (A A2 G : Option Addr) (n cc n2 c2 c3 : Nat) (cs : List Cls) (r1 r2 c f : Nat) (pv pc pf : Nat) (w : World) (h : CovOK cs n G w) (hr : r1 < n) (hc : c < n) (hr2 : r2 < 2 ^ 40) (hf : f < 2 ^ 40)
    (v0 : w.cell? ⟨pv, 0, none⟩ = some (.slice A n cc)) (v1 : w.cell? ⟨pv, 1, none⟩ = some (.slice A2 n2 c2)) (v2 : w.cell? ⟨pv, 2, none⟩ = some (.slice G n c3)) (hpc : w.cell? ⟨pc, 0, none⟩ = some (.int .i64 c)) (hpf : w.cell? ⟨pf, 0, none⟩ = some (.int .i64 f)) :
    Calls Tryz.prog 77 #[.agg #[.int .i64 r1, .int .i64 r2], .pointer (some ⟨pv, 0, none⟩), .pointer (some ⟨pc, 0, none⟩), .pointer (some ⟨pf, 0, none⟩)] w fun e w' =>
      e = .returned (.bool (mayB cs n c f (r1, r2))) ∧ Below w.heap.size w w' := by
  have hB0 := hide ((Below.refl w.heap.size w).alloc (Nat.le_refl _) (.cells #[.int .i64 r1, .int .i64 r2] 64))
  have hc40 : c < 40 := by have := h.2.1; omega
  have l0 := lt_of_cell v0
  have l1 := lt_of_cell hpc
  have l2 := lt_of_cell hpf
  have l0' : pv ≠ w.heap.size := Nat.ne_of_lt l0
  have l1' : pc ≠ w.heap.size := Nat.ne_of_lt l1
  have l2' : pf ≠ w.heap.size := Nat.ne_of_lt l2
  obtain ⟨d, hd⟩ : ∃ d, r2 &&& f = d := ⟨_, rfl⟩
  have hand := Bits.and_nat r2 f (Nat.lt_of_lt_of_le hr2 (Nat.pow_le_pow_right (by omega) (by omega))) (Nat.lt_of_lt_of_le hf (Nat.pow_le_pow_right (by omega) (by omega)))
  rw [hd] at hand
  have hE := hide (show mayB cs n c f (r1, r2) = ((cover cs n r1).testBit c && (d == 0)) by unfold mayB; rw [hd])
  have hdi : ((d : Int) == 0) = (d == 0) := by
    rw [Bool.eq_iff_iff, beq_iff_eq, beq_iff_eq]; omega
  replace hdi := hide hdi
  clear hd
  go_enter Tryz.func77, Tryz.ntmps77
  go_wp2_with fail
  refine (covers_ok A A2 G n cc n2 c2 c3 cs r1 c _ (h.below hB0.out) hr hc40).mono ?_
  rintro e w1 ⟨rfl, hb1⟩
  have hB1 := hide (hB0.out.trans (hb1.mono (by simp)))
  have c1 : w1.cell? ⟨w.heap.size, 1, none⟩ = some (.int .i64 r2) := (cellB hb1 (by simp)).trans (by go_simp)
  have q2 := (cellB (o := 0) hB1.out l2).trans hpf
  clear hb1 hpf hpc v0 v1 v2
  cases hq : (cover cs n r1).testBit c with
  | true =>
    replace hq := hide hq
    go_wp2
    go_ret
    exact ⟨ret_bool (by rw [hE.out, hq.out, ← hdi.out]; rfl), hB1.out⟩
  | false =>
    replace hq := hide hq
    go_wp2
    go_ret
    exact ⟨ret_bool (by rw [hE.out, hq.out]; rfl), hB1.out⟩
end Go.Proofs.YtjfdfhnfcpfmcaaGreatDoor

namespace Go.Proofs.YtjfdfhnfcpfmcaaGreatDoor
open Go.RowKit RG

/-- The system S lies in memory as the slices A and A2. -/
structure InMem (w : World) (A A2 : Option Addr) (cc c2 : Nat) (S : Sys) : Prop where
  cls : ∃ xs, RdClss w A S.cs.length xs S.cs
  cap : S.cs.length ≤ cc
  strs : RdStrs w A2 S.codes.length S.codes
  cap2 : S.codes.length ≤ c2
  len2 : S.codes.length ≤ maxLen
theorem InMem.below {w w' : World} {A A2 : Option Addr} {cc c2 : Nat} {S : Sys} (h : InMem w A A2 cc c2 S) (hb : Below w.heap.size w w') : InMem w' A A2 cc c2 S :=
  ⟨h.cls.imp fun _ h => h.below hb, h.cap, h.strs.below hb, h.cap2, h.len2⟩
theorem open_mem (A A2 L : Option Addr) (cc c2 m cl : Nat) (S : Sys) (ls : List (List (Int × Int))) (w : World) (h : InMem w A A2 cc c2 S) (hl : RdLists w L m ls) :
    Calls Tryz.prog 73 #[.agg #[.slice A S.cs.length cc, .slice A2 S.codes.length c2], .slice L m cl] w fun e w' => OpenR S A A2 cc c2 (openF S ls) e w' ∧ Below w.heap.size w w' := by
  obtain ⟨xs, hx⟩ := h.cls
  exact open_any A A2 L cc c2 m cl xs S ls w hx h.cap h.strs h.cap2 h.len2 hl

theorem RdLists.nil (w : World) (L : Option Addr) : RdLists w L 0 [] := ⟨rfl, by unfold maxLen; omega, fun h => absurd h (by omega)⟩
theorem RdLists.one {w : World} {R : Option Addr} {c : Nat} {rs : List (Int × Int)} (h : RdRts w R rs.length rs) (t : TypeId) :
    RdLists (w.alloc (.cells #[.slice R rs.length c] t)) (some ⟨w.heap.size, 0, none⟩) 1 [rs] :=
  ⟨rfl, by unfold maxLen; omega, fun _ => ⟨w.heap.size, 0, rfl, by simp, fun j hj => by
    obtain rfl : j = 0 := by omega
    exact ⟨R, c, World.cell?_alloc_new w _ t 0, h.below ((Below.refl _ _).alloc (Nat.le_refl _) _)⟩⟩⟩
theorem RdLists.two {w : World} {R R' : Option Addr} {c c' : Nat} {rs rs' : List (Int × Int)} (h : RdRts w R rs.length rs) (h' : RdRts w R' rs'.length rs') (t : TypeId) :
    RdLists (w.alloc (.cells #[.slice R rs.length c, .slice R' rs'.length c'] t)) (some ⟨w.heap.size, 0, none⟩) 2 [rs, rs'] :=
  ⟨rfl, by unfold maxLen; omega, fun _ => ⟨w.heap.size, 0, rfl, by simp, fun j hj => by
    rcases (show j = 0 ∨ j = 1 by omega) with rfl | rfl
    · exact ⟨R, c, World.cell?_alloc_new w _ t 0, h.below ((Below.refl _ _).alloc (Nat.le_refl _) _)⟩
    · exact ⟨R', c', World.cell?_alloc_new w _ t 1, h'.below ((Below.refl _ _).alloc (Nat.le_refl _) _)⟩⟩⟩

/-- A valid system: what Check says of it is nothing. -/
def Good (S : Sys) : Prop := (checkF S).2.2 = 0
theorem Good.bd {S : Sys} (h : Good S) : (1 ≤ S.cs.length ∧ S.cs.length ≤ 12) ∧ S.codes.length ≤ 8 := ⟨(checkF_ok h).1, (checkF_ok h).2.1⟩
theorem Good.inc {S : Sys} (h : Good S) : ∀ k, ∀ x ∈ incOf S.cs k, 0 ≤ x ∧ x < (S.cs.length : Int) := inc_of_check (checkF_ok h).2.2
theorem Good.cov {S : Sys} (h : Good S) {G : Option Addr} {w : World} (hg : RdInts w G S.cs.length ((List.range S.cs.length).map fun k => ((cover S.cs S.cs.length k : Nat) : Int))) : CovOK S.cs S.cs.length G w :=
  ⟨hg, h.bd.1.2, fun k hk => Nat.lt_of_lt_of_le (cover_lt _ _ k h.inc hk) (Nat.pow_le_pow_right (by omega) h.bd.1.2)⟩
/-- Valid rights of a system. -/
def GoodR (S : Sys) (rs : List (Int × Int)) : Prop := rs.length ≤ 40 ∧ ∀ j, j < rs.length → ∃ c k : Nat, rs[j]?.getD (0, 0) = ((c : Int), (k : Int)) ∧ c < S.cs.length ∧ k < 2 ^ S.codes.length
theorem openF_good {S : Sys} {ls : List (List (Int × Int))} (h : openF S ls = 0) : Good S ∧ ∀ l ∈ ls, GoodR S l := by
  unfold openF at h
  split at h
  · rename_i h0
    refine ⟨h0, ?_⟩
    clear h0
    induction ls with
    | nil => intro l hl; cases hl
    | cons l r ih =>
      unfold listsF at h
      split at h
      · rename_i h1
        intro l' hl'
        rcases List.mem_cons.1 hl' with rfl | hl'
        · unfold rightsF at h1
          split at h1
          · cases h1
          · refine ⟨by omega, fun j hj => ?_⟩
            have h2 := firstErr_zero (k := 0) h1 j (by omega) (by omega)
            unfold rtErr at h2
            split at h2
            · cases h2
            · split at h2
              · cases h2
              · rename_i h3 h4
                have h3 := inB_iff.1 ((Bool.not_eq_false _).mp h3)
                have h4 := inB_iff.1 ((Bool.not_eq_false _).mp h4)
                obtain ⟨c, hc⟩ := Int.eq_ofNat_of_zero_le h3.1
                obtain ⟨k, hk⟩ := Int.eq_ofNat_of_zero_le h4.1
                refine ⟨c, k, Prod.ext hc hk, by omega, ?_⟩
                generalize 2 ^ S.codes.length = M at *
                omega
        · exact ih h l' hl'
      · rename_i h1; exact absurd h h1
  · rename_i h0; exact absurd h h0
theorem pow8 {S : Sys} (h : Good S) {k : Nat} (hk : k < 2 ^ S.codes.length) : k < 2 ^ 40 := Nat.lt_of_lt_of_le hk (Nat.pow_le_pow_right (by omega) (by have := h.bd.2; omega))

/-- The numbers of a right. -/
def natR (r : Int × Int) : Nat × Nat := (r.1.toNat, r.2.toNat)
/-- What May returns. -/
def mayF (S : Sys) (rs : List (Int × Int)) (c f : Int) : Bool × Int :=
  if openF S [rs] ≠ 0 then (false, openF S [rs])
  else if inB 0 ((S.cs.length : Int) - 1) c = false then (false, 4)
  else if inB 0 (((2 ^ S.codes.length : Nat) : Int) - 1) f = false then (false, 7)
  else (anyIdx (fun j => mayB S.cs S.cs.length c.toNat f.toNat (natR (rs[j]?.getD (0, 0)))) rs.length, 0)

theorem enters_may : ∀ args w, (callFunc 77 args).run Tryz.prog w = .ok (.enter 77 args) w := fun _ _ => by kernel_rfl

set_option maxRecDepth 100000 in
set_option maxHeartbeats 2000000 in
theorem May_any (A A2 R : Option Addr) (cc c2 cr : Nat) (S : Sys) (rs : List (Int × Int)) (c f : Int) (w : World) (h : InMem w A A2 cc c2 S) (hr : RdRts w R rs.length rs) :
    Calls Tryz.prog 34 #[.agg #[.slice A S.cs.length cc, .slice A2 S.codes.length c2], .slice R rs.length cr, .int .i64 c, .int .i64 f] w fun e w' =>
      e = .returned (.tuple #[.bool (mayF S rs c f).1, .int .i64 (mayF S rs c f).2]) ∧ Below w.heap.size w w' := by
  obtain ⟨q, hq⟩ : ∃ q, mayF S rs c f = q := ⟨_, rfl⟩
  rw [hq]
  unfold mayF at hq
  replace hq := hide hq
  have hB0 := hide (((((Below.refl w.heap.size w).alloc (Nat.le_refl _) (.cells #[.slice A S.cs.length cc, .slice A2 S.codes.length c2] 38)).alloc (by simp) (.cells #[.int .i64 c] 3)).alloc (by simp +arith) (.cells #[.int .i64 f] 3)))
  have hB1 := hide (hB0.out.alloc (by simp +arith) (.cells #[.slice R rs.length cr] 46))
  have hopen := hide (open_mem A A2 (some ⟨w.heap.size + 1 + 1 + 1, 0, none⟩) cc c2 1 1 S [rs] _ (h.below hB1.out) (by
    have := RdLists.one (hr.below hB0.out) (c := cr) 46
    simpa using this))
  replace h := hide h
  replace hr := hide hr
  go_enter Tryz.func34, Tryz.ntmps34
  go_wp2_with fail
  refine hopen.out.mono ?_
  rintro e w1 ⟨hO, hb1⟩
  have hB2 := hide (hB1.out.trans (hb1.mono (by simp +arith)))
  have hz1 : w.heap.size + 1 + 1 + 1 < w1.heap.size := by have := hb1.size; simp at this; omega
  have hza : w.heap.size + 1 < w1.heap.size := by omega
  have hzb : w.heap.size + 1 + 1 < w1.heap.size := by omega
  have pc : w1.cell? ⟨w.heap.size + 1, 0, none⟩ = some (.int .i64 c) := (cellB hb1 (by simp +arith)).trans (by go_simp)
  have pf : w1.cell? ⟨w.heap.size + 1 + 1, 0, none⟩ = some (.int .i64 f) := (cellB hb1 (by simp +arith)).trans (by go_simp)
  replace hB1 := hide hb1
  clear hb1
  generalize hx : openF S [rs] = x at *
  replace hx := hide hx
  rcases hO with ⟨hx0, rfl⟩ | ⟨rfl, v, rfl, g, rfl, hg⟩
  · have hq := hq.out
    rw [if_pos hx0] at hq
    subst hq
    have hb1 : (x == 0) = false := by rw [beq_eq_false_iff_ne]; exact hx0
    have hb2 : (x != 0) = true := by rw [bne_iff_ne]; exact hx0
    unfold nilView
    replace hx0 := hide hx0
    go_wp2
    go_ret2
    exact ⟨rfl, hB2.out.alloc hB2.out.size _⟩
  · have hq := hq.out
    rw [if_neg (by simp)] at hq
    replace hq := hide hq
    obtain ⟨gd, gr⟩ := openF_good hx.out
    have gr := gr rs (by simp)
    have hcov := gd.cov hg
    have ⟨bd1, bd2⟩ := gd.bd
    have hp8 := fun k hk => pow8 gd (k := k) hk
    replace hp8 := hide hp8
    clear hg
    generalize hn : S.cs.length = n at *
    generalize hn2 : S.codes.length = n2 at *
    replace hn := hide hn
    replace hn2 := hide hn2
    go_wp2_with fail
    refine (isClass_any A A2 (some ⟨g, 0, none⟩) n cc n2 c2 n n c _ (by unfold maxLen; omega)).mono ?_
    rintro e w2 ⟨rfl, hb2⟩
    have hBv : Below w1.heap.size w1 (w1.alloc (.cells #[.slice A n cc, .slice A2 n2 c2, .slice (some ⟨g, 0, none⟩) n n] 100)) := (Below.refl _ _).alloc (Nat.le_refl _) _
    have hB3 := hide (hB2.out.trans ((hBv.trans (hb2.mono (by simp))).mono hB2.out.size))
    have hVb := (Blk.new w1 100 #[.slice A n cc, .slice A2 n2 c2, .slice (some ⟨g, 0, none⟩) n n]).below hb2 (by simp)
    have pc2 := ((cellB (o := 0) hb2 (by simp; omega)).trans (cellB (o := 0) hBv (by omega))).trans pc
    have pf2 := ((cellB (o := 0) hb2 (by simp; omega)).trans (cellB (o := 0) hBv (by omega))).trans pf
    have hcov2 := hcov.below (hBv.trans (hb2.mono (by simp)))
    have v0 : w2.cell? ⟨w1.heap.size, 0, none⟩ = some (.slice A n cc) := hVb.cell 0
    have v1 : w2.cell? ⟨w1.heap.size, 1, none⟩ = some (.slice A2 n2 c2) := hVb.cell 1
    have v2 : w2.cell? ⟨w1.heap.size, 2, none⟩ = some (.slice (some ⟨g, 0, none⟩) n n) := hVb.cell 2
    have hzv := hVb.lt
    clear hb2 pc pf hcov
    replace hBv := hide hBv
    replace hVb := hide hVb
    cases h1 : inB 0 ((n : Int) - 1) c with
    | false =>
      have hq := hq.out
      rw [h1, if_pos rfl] at hq
      subst hq
      clear h1
      go_wp2
      go_ret2
      exact ⟨rfl, hB3.out⟩
    | true =>
      have hq := hq.out
      rw [h1, if_neg (by simp)] at hq
      replace hq := hide hq
      have hc := inB_iff.1 h1
      clear h1
      go_wp2_with fail
      refine (isSet_any A A2 (some ⟨g, 0, none⟩) n cc n2 c2 n n f _ bd2).mono ?_
      rintro e w3 ⟨rfl, hb3⟩
      have hB4 := hide (hB3.out.trans (hb3.mono hB3.out.size))
      have pc3 := (cellB (o := 0) hb3 (by omega)).trans pc2
      have pf3 := (cellB (o := 0) hb3 (by omega)).trans pf2
      have v0' := (cellB (o := 0) hb3 hzv).trans v0
      have v1' := (cellB (o := 1) hb3 hzv).trans v1
      have v2' := (cellB (o := 2) hb3 hzv).trans v2
      have hcov3 := hide (hcov2.below hb3)
      clear hb3 pc2 pf2 v0 v1 v2 hcov2
      cases h1 : inB 0 (((2 ^ n2 : Nat) : Int) - 1) f with
      | false =>
        have hq := hq.out
        rw [h1, if_pos rfl] at hq
        subst hq
        clear h1
        go_wp2
        go_ret2
        exact ⟨rfl, hB4.out⟩
      | true =>
        have hq := hq.out
        rw [h1, if_neg (by simp)] at hq
        subst hq
        have hf := inB_iff.1 h1
        clear h1
        obtain ⟨fn, rfl⟩ := Int.eq_ofNat_of_zero_le hf.1
        obtain ⟨cn, rfl⟩ := Int.eq_ofNat_of_zero_le hc.1
        have hfn : fn < 2 ^ n2 := by generalize 2 ^ n2 = M at *; omega
        have hm := hr.out.2
        clear hf
        go_wp2_with fail
        refine (ContainsFuncRts 77 #[.pointer (some ⟨w1.heap.size, 0, none⟩), .pointer (some ⟨w.heap.size + 1, 0, none⟩), .pointer (some ⟨w.heap.size + 1 + 1, 0, none⟩)] enters_may (fun j => mayB S.cs n cn fn (natR (rs[j]?.getD (0, 0)))) R rs.length cr (rs.map rtCells) _ (hr.out.below hB4.out).1 hm
          (fun j W hj hb => by
            obtain ⟨ci, ki, hri, hci, hki⟩ := gr.2 j hj
            rw [hn.out] at hci
            rw [hn2.out] at hki
            have := mayRt_any A A2 (some ⟨g, 0, none⟩) n cc n2 c2 n S.cs ci ki cn fn w1.heap.size (w.heap.size + 1) (w.heap.size + 1 + 1) W (hcov3.out.below hb) hci (by omega) (hp8.out _ hki) (hp8.out _ hfn)
              ((cellB hb (by have := hB4.out.size; have := lt_of_cell v0'; simpa using this)).trans v0') ((cellB hb (by have := lt_of_cell v1'; simpa using this)).trans v1') ((cellB hb (by have := lt_of_cell v2'; simpa using this)).trans v2') ((cellB hb (by have := lt_of_cell pc3; simpa using this)).trans pc3) ((cellB hb (by have := lt_of_cell pf3; simpa using this)).trans pf3)
            rw [rtCells_at rs j hj, hri]
            simpa [rtCells, natR] using this)).mono ?_
        rintro e w4 ⟨rfl, hb4⟩
        replace hB4 := hide (hB4.out.trans (hb4.mono hB4.out.size))
        generalize hany : anyIdx (fun j => mayB S.cs n cn fn (natR (rs[j]?.getD (0, 0)))) rs.length = an
        replace hany := hide hany
        go_wp2
        go_ret2
        exact ⟨by simp only; rw [← hany.out]; rfl, hB4.out⟩
end Go.Proofs.YtjfdfhnfcpfmcaaGreatDoor
