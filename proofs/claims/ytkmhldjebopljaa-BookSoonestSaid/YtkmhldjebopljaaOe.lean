import Derived.Test.YtkmhldjebopljaaOd
import Derived.Laws.EntriesVeiled
/-
  names.Error at cars.
-/
namespace Go.Proofs.Ytkmhldjebopljaa
open Go.RowKit RG

/-- Two strings are the same. -/
def eqS (a b : ByteArray) : Bool := a.toList == b.toList
theorem eqS_iff {a b : ByteArray} : eqS a b = true ↔ a = b := by
  unfold eqS
  rw [beq_iff_eq, ByteArray.toList_eq, ByteArray.toList_eq]
  constructor
  · intro h
    cases a; cases b
    congr
    exact Array.ext' h
  · rintro rfl; rfl

theorem carName (s : BCar) (w : World) : Calls Try.prog 67 #[.agg (carCells s).toArray] w fun e w' => e = .returned (.string s.name) ∧ Below w.heap.size w w' := by
  unfold carCells
  go_enter Try.func67, Try.ntmps67
  go_wp2
  go_ret
  exact ⟨rfl, (Below.refl _ _).alloc (Nat.le_refl _) _⟩
set_option maxRecDepth 100000 in
set_option maxHeartbeats 2000000 in
theorem sameCar (s : BCar) (nm : ByteArray) (pf pn : Nat) (w : World) (hf : w.cell? ⟨pf, 0, none⟩ = some (.func (.func 67) #[] #[])) (hn : w.cell? ⟨pn, 0, none⟩ = some (.string nm)) :
    Calls Try.prog 83 #[.agg (carCells s).toArray, .pointer (some ⟨pf, 0, none⟩), .pointer (some ⟨pn, 0, none⟩)] w fun e w' => e = .returned (.bool (eqS s.name nm)) ∧ Below w.heap.size w w' := by
  have hc := hide (fun W => carName s W)
  have hpf := lt_of_cell hf
  have hpn := lt_of_cell hn
  unfold carCells at *
  obtain ⟨name, g1, g2, g3⟩ := s
  have hB0 := hide (show Below w.heap.size w (w.alloc (.cells #[.string name, .int .i64 g1, .int .i64 g2, .int .i64 g3] 67)) from (Below.refl _ _).alloc (Nat.le_refl _) _)
  have k0 := hide (show Blk (w.alloc (.cells #[.string name, .int .i64 g1, .int .i64 g2, .int .i64 g3] 67)) w.heap.size 67 #[.string name, .int .i64 g1, .int .i64 g2, .int .i64 g3] from blkNew rfl)
  go_enter Try.func83, Try.ntmps83
  go_wp2
  refine region_grow [IsV (.func (.func 67) #[] #[]), IsV (.agg #[.string name, .int .i64 g1, .int .i64 g2, .int .i64 g3]), IsV (.string name), IsV (.string nm), IsV (.bool (eqS name nm)), IsV (.bool (eqS name nm))] (by kernel_rfl) (by kernel_rfl) rfl ?_ ?_ ?_
  · simp [AllStb, IsV.stb]
  · refine ⟨?_, ?_, ?_, ?_, ?_, ?_, trivial⟩
    all_goals
      intro y w1 K Q Cv hC hd hV
      have f0 : w1.cell? ⟨pf, 0, none⟩ = some (.func (.func 67) #[] #[]) := (cellB (hB0.out.trans (hC.mono (by simp))) hpf).trans hf
      have n0 : w1.cell? ⟨pn, 0, none⟩ = some (.string nm) := (cellB (hB0.out.trans (hC.mono (by simp))) hpn).trans hn
      have k1 := k0.out.below hC k0.out.lt
      have c0 := k1.cell 0
      have c1 := k1.cell 1
      have c2 := k1.cell 2
      have c3 := k1.cell 3
      simp only [List.getElem?_toArray, List.getElem?_cons_zero, List.getElem?_cons_succ] at c0 c1 c2 c3
      simp [deps, VL, IsV, Region.binds] at hd
    · simp only [putAll, Act.put]; go_simp; intro hK; exact hK _ _ (hV _ _ hC (Below.refl _ _) rfl)
    · simp only [putAll, Act.put]; go_simp; intro hK; exact hK _ _ (hV _ _ hC (Below.refl _ _) rfl)
    · simp only [putAll, Act.put]; go_simp; intro hK; refine (hc.out _).mono ?_; rintro e w2 ⟨rfl, hb⟩; exact hK _ _ (hV _ _ (hC.trans (hb.mono hC.size)) hb rfl)
    · simp only [putAll, Act.put]; go_simp; intro hK; exact hK _ _ (hV _ _ hC (Below.refl _ _) rfl)
    · simp only [putAll, Act.put]; go_simp; intro hK; exact hK _ _ (hV _ _ hC (Below.refl _ _) rfl)
    · simp only [putAll, Act.put]; go_simp; intro hK; exact hK _ _ (hV _ _ hC (Below.refl _ _) rfl)
  intro y w1 hC hd
  simp [EndsL, IsV] at hd
  obtain ⟨d0, d1, d2, d3, d4, d5⟩ := hd
  simp only [putAll, Act.put]
  rw [d0, d1, d2, d3, d4, d5]
  clear d0 d1 d2 d3 d4 d5
  simp only [List.setIfInBounds_toArray, List.set_cons_succ, List.set_cons_zero]
  have hB1 : Below w.heap.size w w1 := hB0.out.trans (hC.mono (by simp))
  clear hC
  replace hB1 := hide hB1
  go_wp2
  go_ret
  exact ⟨rfl, hB1.out⟩
/-- The error of the name at the place i of names ns. -/
def nmErr (ns : Nat → ByteArray) (i : Nat) : Int := if nameB (ns i) = false then 6 else if anyIdx (fun j => eqS (ns j) (ns i)) i = true then 5 else 0
/-- A new cell behind B that holds the empty string. -/
def StrNew (B : Nat) : Value → World → Prop := fun v w => ∃ p, v = .pointer (some ⟨p, 0, none⟩) ∧ Blk w p 9 #[.string ⟨#[]⟩] ∧ B ≤ p
theorem StrNew.stb (B : Nat) : Stb (StrNew B) := fun _ _ _ hb ⟨g, e, h, hB⟩ => ⟨g, e, h.below hb h.lt, hB⟩

theorem enters_sameCar : ∀ args w, (callFunc 83 args).run Try.prog w = .ok (.enter 83 args) w := fun _ _ => by kernel_rfl

set_option maxRecDepth 100000 in
set_option maxHeartbeats 4000000 in
theorem nmErrCar (A : Option Addr) (n c : Nat) (ss : List BCar) (i : Nat) (w : World) (h : RdRow w A n 4 (ss.map carCells)) (hm : n ≤ maxLen) (hnm : ∀ s ∈ ss, s.name.size ≤ maxLen) (hcap : n ≤ c) (hi : i < n) :
    Calls Try.prog 66 #[.slice A n c, .int .i64 i, .func (.func 67) #[] #[]] w fun e w' => e = .returned (.int .i64 (nmErr (fun j => (ss[j]?.getD default).name) i)) ∧ Below w.heap.size w w' := by
  unfold maxLen at hm
  have hl : ss.length = n := by have := h.1; simpa using this
  have hc := hide (fun s W => carName s W)
  have hA := hide (fun W (hb : Below w.heap.size w W) => h.below hb)
  have hat := hide (fun k (hk : k < n) => map_at carCells ss k (by rw [hl]; exact hk))
  have hsz : (ss[i]?.getD default).name.size ≤ maxLen := by
    rw [List.getElem?_eq_getElem (by rw [hl]; exact hi)]; exact hnm _ (List.getElem_mem _)
  have hsm := hide (fun s pf W (hf : W.cell? ⟨w.heap.size, 0, none⟩ = some (.func (.func 67) #[] #[])) (hn : W.cell? ⟨pf, 0, none⟩ = some (.string (ss[i]?.getD default).name)) => sameCar s (ss[i]?.getD default).name w.heap.size pf W hf hn)
  obtain ⟨b, off, x0, x1, x2, x3, rfl, hb, hx, c0, c1, c2, c3⟩ := h.cells4 hi
  rw [hat.out i hi] at hx
  clear h hnm
  obtain ⟨r, hr⟩ : ∃ r, nmErr (fun j => (ss[j]?.getD default).name) i = r := ⟨_, rfl⟩
  rw [hr]
  unfold nmErr at hr
  replace hr := hide hr
  have hcf := hide (hc.out (ss[i]?.getD default))
  unfold carCells at hx
  rw [show (carCells (ss[i]?.getD default)).toArray = #[.string (ss[i]?.getD default).name, x1, x2, x3] by unfold carCells; simp only [List.cons.injEq] at hx; obtain ⟨_, h1, h2, h3, _⟩ := hx; rw [h1, h2, h3]] at hcf
  simp only [List.cons.injEq, and_true] at hx
  obtain ⟨rfl, rfl, rfl, rfl⟩ := hx
  generalize hnmE : (ss[i]?.getD default).name = nm at *
  generalize (ss[i]?.getD default).km = v1 at *
  generalize (ss[i]?.getD default).every = v2 at *
  generalize (ss[i]?.getD default).never = v3 at *
  replace hr := hide (show (if nameB nm = false then (6 : Int) else if anyIdx (fun j => eqS (ss[j]?.getD default).name nm) i = true then 5 else 0) = r by rw [← hnmE]; exact hr.out)
  clear hnmE
  replace hl := hide hl
  have hiz : (i : Int) < (n : Int) := by omega
  have hcz : (n : Int) ≤ (c : Int) := by omega
  have hB0 : Below w.heap.size w (w.alloc (.cells #[.func (.func 67) #[] #[]] 114)) := (Below.refl _ _).alloc (Nat.le_refl _) _
  have k0 : Blk (w.alloc (.cells #[.func (.func 67) #[] #[]] 114)) w.heap.size 114 #[.func (.func 67) #[] #[]] := blkNew rfl
  go_enter Try.func66, Try.ntmps66
  go_wp2
  refine region_grow_tail 7 [IsV (.func (.func 67) #[] #[]), IsV (.slice (some ⟨b, off, none⟩) n c), IsV (.int .i64 i), IsV (.pointer (some ⟨b, off + i * 4, none⟩)), IsV (.agg #[.string nm, .int .i64 v1, .int .i64 v2, .int .i64 v3]), IsV (.string nm), StrNew (w.heap.size + 1)] (by kernel_rfl) (by kernel_rfl) rfl ?_ ?_ ?_
  · simp [AllStb, IsV.stb, StrNew.stb]
  · refine ⟨?_, ?_, ?_, ?_, ?_, ?_, ?_, trivial⟩
    all_goals
      intro y w1 K Q Cv hC hd hV
      have hz := hC.size
      have hz2 : w.heap.size + 1 ≤ w1.heap.size := by simpa using hz
      have f0 : w1.cell? ⟨w.heap.size, 0, none⟩ = some (.func (.func 67) #[] #[]) := (k0.below hC k0.lt).cell 0
      have hBw := hB0.trans (hC.mono (by simp))
      replace c0 := (cellB hBw hb).trans c0
      replace c1 := (cellB hBw hb).trans c1
      replace c2 := (cellB hBw hb).trans c2
      replace c3 := (cellB hBw hb).trans c3
      simp [deps, VL, IsV, Region.binds] at hd
    · simp only [List.take_succ_cons, List.take_zero, putAll, Act.put]; go_simp; intro hK; exact hK _ _ (hV _ _ hC (Below.refl _ _) rfl)
    · simp only [List.take_succ_cons, List.take_zero, putAll, Act.put]; go_simp; intro hK; exact hK _ _ (hV _ _ hC (Below.refl _ _) rfl)
    · simp only [List.take_succ_cons, List.take_zero, putAll, Act.put]; go_simp; intro hK; exact hK _ _ (hV _ _ hC (Below.refl _ _) rfl)
    · simp only [List.take_succ_cons, List.take_zero, putAll, Act.put]; go_simp; intro hK; exact hK _ _ (hV _ _ hC (Below.refl _ _) rfl)
    · simp only [List.take_succ_cons, List.take_zero, putAll, Act.put]; go_simp; intro hK; exact hK _ _ (hV _ _ hC (Below.refl _ _) rfl)
    · simp only [List.take_succ_cons, List.take_zero, putAll, Act.put]; go_simp; intro hK; refine (hcf.out _).mono ?_; rintro e w2 ⟨rfl, hb2⟩; exact hK _ _ (hV _ _ (hC.trans (hb2.mono hC.size)) hb2 rfl)
    · simp only [List.take_succ_cons, List.take_zero, putAll, Act.put]; go_simp; intro hK; exact hK _ _ (hV _ _ (hC.alloc hz _) ((Below.refl _ _).alloc (Nat.le_refl _) _) ⟨_, rfl, Blk.new _ _ _, hz2⟩)
  intro y w1 hC hd
  simp [EndsL, IsV] at hd
  obtain ⟨d0, d1, d2, d3, d4, d5, p, d6, hp, hpB⟩ := hd
  simp only [List.take_succ_cons, List.take_zero, List.drop_succ_cons, List.drop_zero, putAll, Act.put]
  rw [d0, d1, d2, d3, d4, d5, d6]
  clear d0 d1 d2 d3 d4 d5 d6 hcf c0 c1 c2 c3
  simp only [List.setIfInBounds_toArray, List.set_cons_succ, List.set_cons_zero]
  have hB1 : Below w.heap.size w w1 := hB0.trans (hC.mono (by simp))
  have hF1 := (k0.below hC k0.lt).far (p := ⟨p, 0, none⟩) (by simp; omega) (.string nm)
  have hP1 := hp.set_ 0 (.string nm)
  have p0 : w1.cell? ⟨p, 0, none⟩ = some (.string ⟨#[]⟩) := hp.cell 0
  have q0 : w1.frozen? ⟨p, 0, none⟩ = false := hp.frozen 0
  have hB2 : Below w.heap.size w (w1.setCell ⟨p, 0, none⟩ (.string nm)) := hB1.setCell (by simp; omega) _
  clear hC k0 hB0
  replace hF1 := hide hF1
  replace hB1 := hide hB1
  replace hB2 := hide hB2
  replace hP1 := hide hP1
  replace hp := hide hp
  go_wp2_with fail
  have hpz : p < (w1.setCell ⟨p, 0, none⟩ (.string nm)).heap.size := hP1.out.lt
  generalize w1.setCell ⟨p, 0, none⟩ (.string nm) = w2 at *
  have hzp : w.heap.size < w2.heap.size := Nat.lt_of_lt_of_le (by omega) hpz
  refine (Name_any _ _ hsz).mono ?_
  rintro e w3 ⟨rfl, hb3⟩
  have hB3 := hide (hB2.out.trans (hb3.mono (by omega)))
  have f3 : w3.cell? ⟨w.heap.size, 0, none⟩ = some (.func (.func 67) #[] #[]) := (hF1.out.below hb3 hzp).cell 0
  have n3 : w3.cell? ⟨p, 0, none⟩ = some (.string nm) := (hP1.out.below hb3 hpz).cell 0
  have hz3 := hb3.size
  clear hb3 hB2 hF1 hP1 hp hB1 p0 q0
  cases hq : nameB nm with
  | false =>
    have hr := hr.out
    rw [hq, if_pos rfl] at hr
    subst hr
    clear f3 n3 hq
    go_wp2
    go_ret
    exact ⟨rfl, hB3.out⟩
  | true =>
    have hr1 := hr.out
    rw [hq, if_neg (by simp)] at hr1
    replace hr1 := hide hr1
    clear hr hq
    have hcon := hide ((ContainsFuncCar 83 #[.pointer (some ⟨w.heap.size, 0, none⟩), .pointer (some ⟨p, 0, none⟩)] enters_sameCar (fun j => eqS (ss[j]?.getD default).name nm) (some ⟨b, off, none⟩) i c ((ss.map carCells).take i) w3 ((hA.out _ hB3.out).take (by omega)) (by unfold maxLen; omega)
      (fun j W hj hb => by
        rw [show ((ss.map carCells).take i)[j]?.getD [] = carCells (ss[j]?.getD default) by rw [List.getElem?_take_of_lt hj]; exact hat.out j (by omega)]
        have := hsm.out (ss[j]?.getD default) p W ((cellB hb (by omega)).trans f3) ((cellB hb (by omega)).trans n3)
        simpa using this)))
    clear f3 n3 hsm hA hat
    go_wp2_with fail
    refine hcon.out.mono ?_
    rintro e w4 ⟨rfl, hb4⟩
    have hB4 := hide (hB3.out.trans (hb4.mono (by omega)))
    clear hcon hb4 hB3
    cases hq : anyIdx (fun j => eqS (ss[j]?.getD default).name nm) i with
    | true =>
      have hr := hr1.out
      rw [hq, if_pos rfl] at hr
      subst hr
      clear hq
      go_wp2
      go_ret
      exact ⟨rfl, hB4.out⟩
    | false =>
      have hr := hr1.out
      rw [hq, if_neg (by simp)] at hr
      subst hr
      clear hq
      go_wp2
      go_ret
      exact ⟨rfl, hB4.out⟩
end Go.Proofs.Ytkmhldjebopljaa

/-
  carErrors, termErrors of package book, and the first errors of cars and terms.
-/
namespace Go.Proofs.Ytkmhldjebopljaa
open Go.RowKit RG

def carE (cs : List BCar) (i : Nat) (c : BCar) : Int :=
  if nmErr (fun j => (cs[j]?.getD default).name) i = 0 then (if inB 0 1000000 c.km = true ∧ inB 1 1000000 c.every = true ∧ inB 0 255 c.never = true then 0 else 7) else nmErr (fun j => (cs[j]?.getD default).name) i

set_option maxRecDepth 100000 in
set_option maxHeartbeats 2000000 in
theorem carE_any (C : Option Addr) (n cc i ps : Nat) (cs : List BCar) (c : BCar) (w : World) (h : RdRow w C n 4 (cs.map carCells)) (hm : n ≤ maxLen) (hnm : ∀ s ∈ cs, s.name.size ≤ maxLen) (hcap : n ≤ cc) (hi : i < n) (hs : w.cell? ⟨ps, 1, none⟩ = some (.slice C n cc)) :
    Calls Try.prog 65 #[.int .i64 i, .agg (carCells c).toArray, .pointer (some ⟨ps, 0, none⟩)] w fun e w' => e = .returned (.int .i64 (carE cs i c)) ∧ Below w.heap.size w w' := by
  obtain ⟨r, hr⟩ : ∃ r, carE cs i c = r := ⟨_, rfl⟩
  rw [hr]
  unfold carE at hr
  have hps := lt_of_cell hs
  have hN := hide (fun W (hb : Below w.heap.size w W) => nmErrCar C n cc cs i W (h.below hb) hm hnm hcap hi)
  generalize nmErr (fun j => (cs[j]?.getD default).name) i = q at *
  clear h hnm hm
  unfold carCells
  obtain ⟨name, g1, g2, g3⟩ := c
  simp only at hr
  have hw1 := hide (fun (lo hi x : Int) (W : World) => within_one lo hi x W.heap.size 0 1 (W.alloc (.cells #[.int .i64 x] 3)) ((Blk.new W _ _).cell 0))
  have hB0 := hide (show Below w.heap.size w (w.alloc (.cells #[.string name, .int .i64 g1, .int .i64 g2, .int .i64 g3] 67)) from (Below.refl _ _).alloc (Nat.le_refl _) _)
  have k0 := hide (show Blk (w.alloc (.cells #[.string name, .int .i64 g1, .int .i64 g2, .int .i64 g3] 67)) w.heap.size 67 #[.string name, .int .i64 g1, .int .i64 g2, .int .i64 g3] from blkNew rfl)
  have s1 : (w.alloc (.cells #[.string name, .int .i64 g1, .int .i64 g2, .int .i64 g3] 67)).cell? ⟨ps, 1, none⟩ = some (.slice C n cc) := (cellB hB0.out hps).trans hs
  go_enter Try.func65, Try.ntmps65
  go_wp2_with fail
  refine (hN.out _ hB0.out).mono ?_
  rintro e W ⟨rfl, hb1⟩
  have hB := hide (hB0.out.trans (hb1.mono (by simp)))
  have kb := hide (k0.out.below (hb1.mono (by simp)) k0.out.lt)
  clear hb1 hB0 k0 hN hs s1
  by_cases hq : q = 0
  · subst hq
    rw [if_pos rfl] at hr
    have c1 : W.cell? ⟨w.heap.size, 1, none⟩ = some (.int .i64 g1) := kb.out.cell 1
    go_wp2_with fail
    refine (hw1.out _ _ _ _).mono ?_
    rintro e w2 ⟨rfl, rfl⟩
    replace kb := hide (kb.out.alloc (.cells #[.int .i64 g1] 3))
    replace hB := hide (hB.out.alloc hB.out.size (.cells #[.int .i64 g1] 3))
    clear c1
    generalize W.alloc (.cells #[.int .i64 g1] 3) = W2 at *
    cases ha : inB 0 1000000 g1 with
    | false =>
      rw [ha, if_neg (by simp)] at hr
      subst hr
      go_wp2
      go_ret
      exact ⟨rfl, hB.out⟩
    | true =>
      rw [ha] at hr
      have c2 : W2.cell? ⟨w.heap.size, 2, none⟩ = some (.int .i64 g2) := kb.out.cell 2
      go_wp2_with fail
      refine (hw1.out _ _ _ _).mono ?_
      rintro e w2 ⟨rfl, rfl⟩
      replace kb := hide (kb.out.alloc (.cells #[.int .i64 g2] 3))
      replace hB := hide (hB.out.alloc hB.out.size (.cells #[.int .i64 g2] 3))
      clear c2
      generalize W2.alloc (.cells #[.int .i64 g2] 3) = W3 at *
      cases hb : inB 1 1000000 g2 with
      | false =>
        rw [hb, if_neg (by simp)] at hr
        subst hr
        go_wp2
        go_ret
        exact ⟨rfl, hB.out⟩
      | true =>
        rw [hb] at hr
        have c3 : W3.cell? ⟨w.heap.size, 3, none⟩ = some (.int .i64 g3) := kb.out.cell 3
        go_wp2_with fail
        refine (hw1.out _ _ _ _).mono ?_
        rintro e w2 ⟨rfl, rfl⟩
        replace hB := hide (hB.out.alloc hB.out.size (.cells #[.int .i64 g3] 3))
        clear c3 kb
        generalize W3.alloc (.cells #[.int .i64 g3] 3) = W4 at *
        cases hc : inB 0 255 g3 with
        | false =>
          rw [hc, if_neg (by simp)] at hr
          subst hr
          go_wp2
          go_ret
          exact ⟨rfl, hB.out⟩
        | true =>
          rw [hc, if_pos (by simp)] at hr
          subst hr
          go_wp2
          go_ret
          exact ⟨rfl, hB.out⟩
  · rw [if_neg hq] at hr
    subst hr
    have b1 : (q != 0) = true := by rw [bne_iff_ne]; exact hq
    replace hq := hide hq
    go_wp2
    go_ret
    exact ⟨rfl, hB.out⟩
theorem enters_car : ∀ args w, (callFunc 65 args).run Try.prog w = .ok (.enter 65 args) w := fun _ _ => by kernel_rfl
theorem enters_term : ∀ args w, (callFunc 68 args).run Try.prog w = .ok (.enter 68 args) w := fun _ _ => by kernel_rfl
theorem isCars (cs : List BCar) : ∀ x ∈ cs.map carCells, IsCar x := by
  intro x hx
  obtain ⟨s, _, rfl⟩ := List.mem_map.1 hx
  exact ⟨_, _, _, _, rfl⟩
theorem isTerms (ts : List BTerm) : ∀ x ∈ ts.map termCells, IsTerm x := by
  intro x hx
  obtain ⟨s, _, rfl⟩ := List.mem_map.1 hx
  exact ⟨_, _, rfl⟩
theorem firstCar (C : Option Addr) (n cc : Nat) (cs : List BCar) (ps : Nat) (w : World) (h : RdRow w C n 4 (cs.map carCells)) (hm : n ≤ maxLen) (hnm : ∀ s ∈ cs, s.name.size ≤ maxLen) (hcap : n ≤ cc) (h1 : w.cell? ⟨ps, 1, none⟩ = some (.slice C n cc)) :
    Calls Try.prog 40 #[.slice C n cc, .func (.func 65) #[] #[.pointer (some ⟨ps, 0, none⟩)]] w fun e w' =>
      e = .returned (.tuple #[.int .i64 (firstErr (fun i => carE cs i (cs[i]?.getD default)) 0 n).1, .int .i64 (firstErr (fun i => carE cs i (cs[i]?.getD default)) 0 n).2]) ∧ Below w.heap.size w w' :=
  firstErrorCar 65 #[] #[.pointer (some ⟨ps, 0, none⟩)] enters_car _ C n cc _ w h (isCars cs) hm fun j W hj hb => by
    have hl : cs.length = n := by have := h.1; simpa using this
    rw [map_at carCells cs j (by omega)]
    have := carE_any C n cc j ps cs (cs[j]?.getD default) W (h.below hb) hm hnm hcap hj ((cellB hb (lt_of_cell h1)).trans h1)
    simpa using this
theorem firstTerm (T : Option Addr) (n ct : Nat) (ts : List BTerm) (ps : Nat) (w : World) (h : RdRow w T n 2 (ts.map termCells)) (hm : n ≤ maxLen) (h1 : w.cell? ⟨ps, 6, none⟩ = some (.slice T n ct)) :
    Calls Try.prog 42 #[.slice T n ct, .func (.func 68) #[] #[.pointer (some ⟨ps, 0, none⟩)]] w fun e w' =>
      e = .returned (.tuple #[.int .i64 (firstErr (fun i => termE ts i (ts[i]?.getD default)) 0 n).1, .int .i64 (firstErr (fun i => termE ts i (ts[i]?.getD default)) 0 n).2]) ∧ Below w.heap.size w w' :=
  firstErrorTerm 68 #[] #[.pointer (some ⟨ps, 0, none⟩)] enters_term _ T n ct _ w h (isTerms ts) hm fun j W hj hb => by
    have hl : ts.length = n := by have := h.1; simpa using this
    rw [map_at termCells ts j (by omega)]
    have := termE_any T n ct j ps ts (ts[j]?.getD default) W (h.below hb) hm hj ((cellB hb (lt_of_cell h1)).trans h1)
    simpa using this
end Go.Proofs.Ytkmhldjebopljaa

/-
  What carErrors and termErrors of package book return.
-/
namespace Go.Proofs.Ytkmhldjebopljaa
open Go.RowKit RG

/-- A function over a school that lies in block p. -/
def BClos (f : Nat) (cs : Array Value) : Value → World → Prop := fun v w => ∃ p, v = .func (.func f) #[] #[.pointer (some ⟨p, 0, none⟩)] ∧ Blk w p 28 cs
theorem BClos.stb (f : Nat) (cs : Array Value) : Stb (BClos f cs) := fun _ _ _ hb ⟨p, e, h⟩ => ⟨p, e, h.below hb h.lt⟩
theorem carErrors_any (L C T : Option Addr) (cl cc ct : Nat) (S : BSch) (w : World) :
    Calls Try.prog 41 #[.agg (schCells L C T cl cc ct S)] w fun e w' => (∃ v, e = .returned v ∧ BClos 65 (schCells L C T cl cc ct S) v w') ∧ Below w.heap.size w w' := by
  unfold schCells
  go_enter Try.func41, Try.ntmps41
  go_wp2
  go_ret
  exact ⟨⟨_, rfl, w.heap.size, rfl, blkNew rfl⟩, (Below.refl _ _).alloc (Nat.le_refl _) _⟩
theorem termErrors_any (L C T : Option Addr) (cl cc ct : Nat) (S : BSch) (w : World) :
    Calls Try.prog 43 #[.agg (schCells L C T cl cc ct S)] w fun e w' => (∃ v, e = .returned v ∧ BClos 68 (schCells L C T cl cc ct S) v w') ∧ Below w.heap.size w w' := by
  unfold schCells
  go_enter Try.func43, Try.ntmps43
  go_wp2
  go_ret
  exact ⟨⟨_, rfl, w.heap.size, rfl, blkNew rfl⟩, (Below.refl _ _).alloc (Nat.le_refl _) _⟩
end Go.Proofs.Ytkmhldjebopljaa

/-
  IndexFunc and ContainsFunc at strings.
-/
namespace Go.Proofs.Ytkmhldjebopljaa
open Go.RowKit RG

set_option maxHeartbeats 1000000 in
theorem IndexFuncStr (g : Nat) (lb : Array Value) (eg : ∀ args w, (callFunc g args).run Try.prog w = .ok (.enter g args) w) (p : Nat → Bool) (A : Option Addr) (n c : Nat) (xs : List ByteArray) (w : World)
    (h : RdStrs w A n xs) (hm : n ≤ maxLen)
    (hp : ∀ j W, j < n → Below w.heap.size w W → Calls Try.prog g (#[.string (xs[j]?.getD ⟨#[]⟩)] ++ lb) W fun e w' => e = .returned (.bool (p j)) ∧ Below W.heap.size W w') :
    Calls Try.prog 101 #[.slice A n c, .func (.func g) #[] lb] w fun e w' => e = .returned (.int .i64 (firstIdx p 0 n)) ∧ Below w.heap.size w w' := by
  unfold maxLen at hm
  go_enter Try.func101, Try.ntmps101
  go_wp2
  go_loopg [5, 8] n (fun gg _ s8 wr => ∃ k : Nat, k ≤ n ∧ n - k ≤ gg ∧ s8 = .int .i64 k ∧ Hid (Below w.heap.size w wr) ∧ Hid (firstIdx p 0 n = firstIdx p k (n - k)))
  case atStart => exact ⟨0, Nat.zero_le _, by omega, rfl, Below.refl _ w, rfl⟩
  case round =>
    obtain ⟨k, hk, hg, rfl, BW, A1⟩ := hrel
    by_cases hlt : k < n
    · have hltz : (k : Int) < (n : Int) := by omega
      have hl : k < xs.length := by rw [h.1]; exact hlt
      obtain ⟨b, off, rfl, hb, hc0⟩ := (h.below BW.out).2.2 (by omega)
      have c0 := hc0 k xs[k] (List.getElem?_eq_getElem hl)
      have hcall := hp k wr hlt BW.out
      rw [show xs[k]?.getD ⟨#[]⟩ = xs[k] by rw [List.getElem?_eq_getElem hl]; rfl] at hcall
      generalize xs[k] = z at *
      clear hp hc0
      have h := hide h
      cases hq : p k with
      | true =>
        rw [hq] at hcall
        have hfin : firstIdx p 0 n = k := by rw [A1.out, show n - k = (n - k - 1) + 1 by omega, firstIdx_hit hq]
        have HF := hide hfin
        clear hfin hq
        go_wp2_with (go_at_fn g; refine hcall.mono ?_; rintro e w' ⟨rfl, hb'⟩)
        go_ret
        exact ⟨ret_int HF.out.symm, BW.out.trans (hb'.mono BW.out.size)⟩
      | false =>
        rw [hq] at hcall
        have hfin : firstIdx p 0 n = firstIdx p (k + 1) (n - (k + 1)) := by rw [A1.out, show n - k = (n - (k + 1)) + 1 by omega, firstIdx_miss hq]
        have HF := hide hfin
        clear hfin hq
        go_wp2_with (go_at_fn g; refine hcall.mono ?_; rintro e w' ⟨rfl, hb'⟩)
        go_roundg (n - (k + 1))
        case measure => omega
        case rel => exact ⟨k + 1, by omega, by omega, by go_num, BW.out.trans (hb'.mono BW.out.size), HF.out⟩
    · have hltz : ¬ (k : Int) < (n : Int) := by omega
      have hfin : firstIdx p 0 n = -1 := by rw [A1.out, show n - k = 0 by omega]; rfl
      have HF := hide hfin
      clear hfin
      go_wp2
      go_ret
      exact ⟨ret_int HF.out.symm, BW.out⟩
theorem ContainsFuncStr (g : Nat) (lb : Array Value) (eg : ∀ args w, (callFunc g args).run Try.prog w = .ok (.enter g args) w) (p : Nat → Bool) (A : Option Addr) (n c : Nat) (xs : List ByteArray) (w : World)
    (h : RdStrs w A n xs) (hm : n ≤ maxLen)
    (hp : ∀ j W, j < n → Below w.heap.size w W → Calls Try.prog g (#[.string (xs[j]?.getD ⟨#[]⟩)] ++ lb) W fun e w' => e = .returned (.bool (p j)) ∧ Below W.heap.size W w') :
    Calls Try.prog 80 #[.slice A n c, .func (.func g) #[] lb] w fun e w' => e = .returned (.bool (anyIdx p n)) ∧ Below w.heap.size w w' := by
  go_enter Try.func80, Try.ntmps80
  go_wp2_with fail
  refine (IndexFuncStr g lb eg p A n c xs w h hm hp).mono ?_
  rintro e w1 ⟨rfl, hb⟩
  go_wp2
  go_ret
  exact ⟨rfl, hb⟩
end Go.Proofs.Ytkmhldjebopljaa

/-
  names.Error at strings.
-/
namespace Go.Proofs.Ytkmhldjebopljaa
open Go.RowKit RG

theorem itself_any (x : ByteArray) (w : World) : Calls Try.prog 61 #[.string x] w fun e w' => e = .returned (.string x) ∧ Below w.heap.size w w' := by
  go_enter Try.func61, Try.ntmps61
  go_wp2
  go_ret
  exact ⟨rfl, Below.refl _ _⟩
set_option maxRecDepth 100000 in
set_option maxHeartbeats 2000000 in
theorem sameStr (name nm : ByteArray) (pf pn : Nat) (w : World) (hf : w.cell? ⟨pf, 0, none⟩ = some (.func (.func 61) #[] #[])) (hn : w.cell? ⟨pn, 0, none⟩ = some (.string nm)) :
    Calls Try.prog 81 #[.string name, .pointer (some ⟨pf, 0, none⟩), .pointer (some ⟨pn, 0, none⟩)] w fun e w' => e = .returned (.bool (eqS name nm)) ∧ Below w.heap.size w w' := by
  have hc := hide (fun W => itself_any name W)
  have hpf := lt_of_cell hf
  have hpn := lt_of_cell hn
  have hB0 := hide (Below.refl w.heap.size w)
  go_enter Try.func81, Try.ntmps81
  go_wp2
  refine region_grow [IsV (.func (.func 61) #[] #[]), IsV (.string name), IsV (.string name), IsV (.string nm), IsV (.bool (eqS name nm)), IsV (.bool (eqS name nm))] (by kernel_rfl) (by kernel_rfl) rfl ?_ ?_ ?_
  · simp [AllStb, IsV.stb]
  · refine ⟨?_, ?_, ?_, ?_, ?_, ?_, trivial⟩
    all_goals
      intro y w1 K Q Cv hC hd hV
      have f0 : w1.cell? ⟨pf, 0, none⟩ = some (.func (.func 61) #[] #[]) := (cellB (hB0.out.trans hC) hpf).trans hf
      have n0 : w1.cell? ⟨pn, 0, none⟩ = some (.string nm) := (cellB (hB0.out.trans hC) hpn).trans hn
      simp [deps, VL, IsV, Region.binds] at hd
    · simp only [putAll, Act.put]; go_simp; intro hK; exact hK _ _ (hV _ _ hC (Below.refl _ _) rfl)
    · simp only [putAll, Act.put]; go_simp; intro hK; exact hK _ _ (hV _ _ hC (Below.refl _ _) rfl)
    · simp only [putAll, Act.put]; go_simp; intro hK; refine (hc.out _).mono ?_; rintro e w2 ⟨rfl, hb⟩; exact hK _ _ (hV _ _ (hC.trans (hb.mono hC.size)) hb rfl)
    · simp only [putAll, Act.put]; go_simp; intro hK; exact hK _ _ (hV _ _ hC (Below.refl _ _) rfl)
    · simp only [putAll, Act.put]; go_simp; intro hK; exact hK _ _ (hV _ _ hC (Below.refl _ _) rfl)
    · simp only [putAll, Act.put]; go_simp; intro hK; exact hK _ _ (hV _ _ hC (Below.refl _ _) rfl)
  intro y w1 hC hd
  simp [EndsL, IsV] at hd
  obtain ⟨d0, d1, d2, d3, d4, d5⟩ := hd
  simp only [putAll, Act.put]
  rw [d0, d1, d2, d3, d4, d5]
  clear d0 d1 d2 d3 d4 d5
  simp only [List.setIfInBounds_toArray, List.set_cons_succ, List.set_cons_zero]
  have hB1 : Below w.heap.size w w1 := hB0.out.trans hC
  clear hC
  replace hB1 := hide hB1
  go_wp2
  go_ret
  exact ⟨rfl, hB1.out⟩
theorem enters_sameStr : ∀ args w, (callFunc 81 args).run Try.prog w = .ok (.enter 81 args) w := fun _ _ => by kernel_rfl

set_option maxRecDepth 100000 in
set_option maxHeartbeats 4000000 in
theorem nmErrStr (A : Option Addr) (n c : Nat) (ss : List ByteArray) (i : Nat) (w : World) (h : RdStrs w A n ss) (hm : n ≤ maxLen) (hnm : ∀ s ∈ ss, s.size ≤ maxLen) (hcap : n ≤ c) (hi : i < n) :
    Calls Try.prog 64 #[.slice A n c, .int .i64 i, .func (.func 61) #[] #[]] w fun e w' => e = .returned (.int .i64 (nmErr (fun j => (ss[j]?.getD ⟨#[]⟩)) i)) ∧ Below w.heap.size w w' := by
  unfold maxLen at hm
  have hl : ss.length = n := h.1
  have hc := hide (fun s W => itself_any s W)
  have hA := hide (fun W (hb : Below w.heap.size w W) => h.below hb)
  have hsz : (ss[i]?.getD ⟨#[]⟩).size ≤ maxLen := by
    rw [List.getElem?_eq_getElem (by rw [hl]; exact hi)]; exact hnm _ (List.getElem_mem _)
  have hsm := hide (fun s pf W (hf : W.cell? ⟨w.heap.size, 0, none⟩ = some (.func (.func 61) #[] #[])) (hn : W.cell? ⟨pf, 0, none⟩ = some (.string (ss[i]?.getD ⟨#[]⟩))) => sameStr s (ss[i]?.getD ⟨#[]⟩) w.heap.size pf W hf hn)
  obtain ⟨b, off, rfl, hb, hc0⟩ := h.2.2 (by omega)
  have c0 := hc0 i (ss[i]?.getD ⟨#[]⟩) (by rw [List.getElem?_eq_getElem (by rw [hl]; exact hi)]; rfl)
  clear hc0
  clear h hnm
  obtain ⟨r, hr⟩ : ∃ r, nmErr (fun j => (ss[j]?.getD ⟨#[]⟩)) i = r := ⟨_, rfl⟩
  rw [hr]
  unfold nmErr at hr
  replace hr := hide hr
  have hcf := hide (hc.out (ss[i]?.getD ⟨#[]⟩))
  generalize hnmE : (ss[i]?.getD ⟨#[]⟩) = nm at *
  replace hr := hide (show (if nameB nm = false then (6 : Int) else if anyIdx (fun j => eqS (ss[j]?.getD ⟨#[]⟩) nm) i = true then 5 else 0) = r by rw [← hnmE]; exact hr.out)
  clear hnmE
  replace hl := hide hl
  have hiz : (i : Int) < (n : Int) := by omega
  have hcz : (n : Int) ≤ (c : Int) := by omega
  have hB0 : Below w.heap.size w (w.alloc (.cells #[.func (.func 61) #[] #[]] 109)) := (Below.refl _ _).alloc (Nat.le_refl _) _
  have k0 : Blk (w.alloc (.cells #[.func (.func 61) #[] #[]] 109)) w.heap.size 109 #[.func (.func 61) #[] #[]] := blkNew rfl
  go_enter Try.func64, Try.ntmps64
  go_wp2
  refine region_grow_tail 7 [IsV (.func (.func 61) #[] #[]), IsV (.slice (some ⟨b, off, none⟩) n c), IsV (.int .i64 i), IsV (.pointer (some ⟨b, off + i, none⟩)), IsV (.string nm), IsV (.string nm), StrNew (w.heap.size + 1)] (by kernel_rfl) (by kernel_rfl) rfl ?_ ?_ ?_
  · simp [AllStb, IsV.stb, StrNew.stb]
  · refine ⟨?_, ?_, ?_, ?_, ?_, ?_, ?_, trivial⟩
    all_goals
      intro y w1 K Q Cv hC hd hV
      have hz := hC.size
      have hz2 : w.heap.size + 1 ≤ w1.heap.size := by simpa using hz
      have f0 : w1.cell? ⟨w.heap.size, 0, none⟩ = some (.func (.func 61) #[] #[]) := (k0.below hC k0.lt).cell 0
      have hBw := hB0.trans (hC.mono (by simp))
      replace c0 := (cellB hBw hb).trans c0
      simp [deps, VL, IsV, Region.binds] at hd
    · simp only [List.take_succ_cons, List.take_zero, putAll, Act.put]; go_simp; intro hK; exact hK _ _ (hV _ _ hC (Below.refl _ _) rfl)
    · simp only [List.take_succ_cons, List.take_zero, putAll, Act.put]; go_simp; intro hK; exact hK _ _ (hV _ _ hC (Below.refl _ _) rfl)
    · simp only [List.take_succ_cons, List.take_zero, putAll, Act.put]; go_simp; intro hK; exact hK _ _ (hV _ _ hC (Below.refl _ _) rfl)
    · simp only [List.take_succ_cons, List.take_zero, putAll, Act.put]; go_simp; intro hK; exact hK _ _ (hV _ _ hC (Below.refl _ _) rfl)
    · simp only [List.take_succ_cons, List.take_zero, putAll, Act.put]; go_simp; intro hK; exact hK _ _ (hV _ _ hC (Below.refl _ _) rfl)
    · simp only [List.take_succ_cons, List.take_zero, putAll, Act.put]; go_simp; intro hK; refine (hcf.out _).mono ?_; rintro e w2 ⟨rfl, hb2⟩; exact hK _ _ (hV _ _ (hC.trans (hb2.mono hC.size)) hb2 rfl)
    · simp only [List.take_succ_cons, List.take_zero, putAll, Act.put]; go_simp; intro hK; exact hK _ _ (hV _ _ (hC.alloc hz _) ((Below.refl _ _).alloc (Nat.le_refl _) _) ⟨_, rfl, Blk.new _ _ _, hz2⟩)
  intro y w1 hC hd
  simp [EndsL, IsV] at hd
  obtain ⟨d0, d1, d2, d3, d4, d5, p, d6, hp, hpB⟩ := hd
  simp only [List.take_succ_cons, List.take_zero, List.drop_succ_cons, List.drop_zero, putAll, Act.put]
  rw [d0, d1, d2, d3, d4, d5, d6]
  clear d0 d1 d2 d3 d4 d5 d6 hcf c0
  simp only [List.setIfInBounds_toArray, List.set_cons_succ, List.set_cons_zero]
  have hB1 : Below w.heap.size w w1 := hB0.trans (hC.mono (by simp))
  have hF1 := (k0.below hC k0.lt).far (p := ⟨p, 0, none⟩) (by simp; omega) (.string nm)
  have hP1 := hp.set_ 0 (.string nm)
  have p0 : w1.cell? ⟨p, 0, none⟩ = some (.string ⟨#[]⟩) := hp.cell 0
  have q0 : w1.frozen? ⟨p, 0, none⟩ = false := hp.frozen 0
  have hB2 : Below w.heap.size w (w1.setCell ⟨p, 0, none⟩ (.string nm)) := hB1.setCell (by simp; omega) _
  clear hC k0 hB0
  replace hF1 := hide hF1
  replace hB1 := hide hB1
  replace hB2 := hide hB2
  replace hP1 := hide hP1
  replace hp := hide hp
  go_wp2_with fail
  have hpz : p < (w1.setCell ⟨p, 0, none⟩ (.string nm)).heap.size := hP1.out.lt
  generalize w1.setCell ⟨p, 0, none⟩ (.string nm) = w2 at *
  have hzp : w.heap.size < w2.heap.size := Nat.lt_of_lt_of_le (by omega) hpz
  refine (Name_any _ _ hsz).mono ?_
  rintro e w3 ⟨rfl, hb3⟩
  have hB3 := hide (hB2.out.trans (hb3.mono (by omega)))
  have f3 : w3.cell? ⟨w.heap.size, 0, none⟩ = some (.func (.func 61) #[] #[]) := (hF1.out.below hb3 hzp).cell 0
  have n3 : w3.cell? ⟨p, 0, none⟩ = some (.string nm) := (hP1.out.below hb3 hpz).cell 0
  have hz3 := hb3.size
  clear hb3 hB2 hF1 hP1 hp hB1 p0 q0
  cases hq : nameB nm with
  | false =>
    have hr := hr.out
    rw [hq, if_pos rfl] at hr
    subst hr
    clear f3 n3 hq
    go_wp2
    go_ret
    exact ⟨rfl, hB3.out⟩
  | true =>
    have hr1 := hr.out
    rw [hq, if_neg (by simp)] at hr1
    replace hr1 := hide hr1
    clear hr hq
    have hcon := hide ((ContainsFuncStr 81 #[.pointer (some ⟨w.heap.size, 0, none⟩), .pointer (some ⟨p, 0, none⟩)] enters_sameStr (fun j => eqS (ss[j]?.getD ⟨#[]⟩) nm) (some ⟨b, off, none⟩) i c (ss.take i) w3 ((hA.out _ hB3.out).take (by omega)) (by unfold maxLen; omega)
      (fun j W hj hb => by
        rw [show (ss.take i)[j]?.getD ⟨#[]⟩ = ss[j]?.getD ⟨#[]⟩ by rw [List.getElem?_take_of_lt hj]]
        have := hsm.out (ss[j]?.getD ⟨#[]⟩) p W ((cellB hb (by omega)).trans f3) ((cellB hb (by omega)).trans n3)
        simpa using this)))
    clear f3 n3 hsm hA
    go_wp2_with fail
    refine hcon.out.mono ?_
    rintro e w4 ⟨rfl, hb4⟩
    have hB4 := hide (hB3.out.trans (hb4.mono (by omega)))
    clear hcon hb4 hB3
    cases hq : anyIdx (fun j => eqS (ss[j]?.getD ⟨#[]⟩) nm) i with
    | true =>
      have hr := hr1.out
      rw [hq, if_pos rfl] at hr
      subst hr
      clear hq
      go_wp2
      go_ret
      exact ⟨rfl, hB4.out⟩
    | false =>
      have hr := hr1.out
      rw [hq, if_neg (by simp)] at hr
      subst hr
      clear hq
      go_wp2
      go_ret
      exact ⟨rfl, hB4.out⟩
end Go.Proofs.Ytkmhldjebopljaa

/-
  names.FirstError: the first error of a list of names.
-/
namespace Go.Proofs.Ytkmhldjebopljaa
open Go.RowKit RG

theorem itsError_any (A : Option Addr) (n c i pl pf : Nat) (ss : List ByteArray) (x : ByteArray) (w : World) (h : RdStrs w A n ss) (hm : n ≤ maxLen) (hnm : ∀ s ∈ ss, s.size ≤ maxLen) (hcap : n ≤ c) (hi : i < n)
    (hl : w.cell? ⟨pl, 0, none⟩ = some (.slice A n c)) (hf : w.cell? ⟨pf, 0, none⟩ = some (.func (.func 61) #[] #[])) :
    Calls Try.prog 63 #[.int .i64 i, .string x, .pointer (some ⟨pl, 0, none⟩), .pointer (some ⟨pf, 0, none⟩)] w fun e w' => e = .returned (.int .i64 (nmErr (fun j => ss[j]?.getD ⟨#[]⟩) i)) ∧ Below w.heap.size w w' := by
  have hN := hide (nmErrStr A n c ss i w h hm hnm hcap hi)
  clear h hnm
  go_enter Try.func63, Try.ntmps63
  go_wp2_with fail
  refine hN.out.mono ?_
  rintro e w1 ⟨rfl, hb⟩
  go_wp2
  go_ret
  exact ⟨rfl, hb⟩
theorem enters_its : ∀ args w, (callFunc 63 args).run Try.prog w = .ok (.enter 63 args) w := fun _ _ => by kernel_rfl
/-- The error of the first name that has one. -/
def nmsE (ss : List ByteArray) : Int × Int := firstErr (fun i => nmErr (fun j => ss[j]?.getD ⟨#[]⟩) i) 0 ss.length
theorem FirstError_any (A : Option Addr) (n c : Nat) (ss : List ByteArray) (w : World) (h : RdStrs w A n ss) (hm : n ≤ maxLen) (hcap : n ≤ c) :
    Calls Try.prog 39 #[.slice A n c] w fun e w' => e = .returned (.tuple #[.int .i64 (nmsE ss).1, .int .i64 (nmsE ss).2]) ∧ Below w.heap.size w w' := by
  have hnm := h.2.1
  have hl : ss.length = n := h.1
  unfold nmsE
  rw [hl]
  obtain ⟨W, hW⟩ : ∃ x, (w.alloc (.cells #[.slice A n c] 22)).alloc (.cells #[.func (.func 61) #[] #[]] 109) = x := ⟨_, rfl⟩
  have k0 : Blk W w.heap.size 22 #[.slice A n c] := by rw [← hW]; exact (blkNew rfl).alloc _
  have k1 : Blk W (w.heap.size + 1) 109 #[.func (.func 61) #[] #[]] := by rw [← hW]; exact blkNew (by simp)
  have hB := hide (show Below w.heap.size w W by rw [← hW]; exact ((Below.refl _ _).alloc (Nat.le_refl _) _).alloc (by simp) _)
  have hF := hide (firstErrorStr 63 #[] #[.pointer (some ⟨w.heap.size, 0, none⟩), .pointer (some ⟨w.heap.size + 1, 0, none⟩)] enters_its (fun i => nmErr (fun j => ss[j]?.getD ⟨#[]⟩) i) A n c ss W (h.below hB.out) hm fun j W2 hj hb => by
    have := itsError_any A n c j w.heap.size (w.heap.size + 1) ss (ss[j]?.getD ⟨#[]⟩) W2 ((h.below hB.out).below hb) hm hnm hcap hj ((cellB hb k0.lt).trans (k0.cell 0)) ((cellB hb k1.lt).trans (k1.cell 0))
    simpa using this)
  have s0 : W.cell? ⟨w.heap.size, 0, none⟩ = some (.slice A n c) := k0.cell 0
  replace hW := hide hW
  clear h hnm hl k0 k1
  go_enter Try.func39, Try.ntmps39
  go_upto_region 2 with fail
  rw [hW.out]
  clear hW
  go_wp2_with fail
  refine hF.out.mono ?_
  rintro e w1 ⟨rfl, hb⟩
  have hB2 := hide (hB.out.trans (hb.mono hB.out.size))
  clear hb s0
  go_wp2
  go_ret2
  exact ⟨rfl, hB2.out⟩
end Go.Proofs.Ytkmhldjebopljaa
