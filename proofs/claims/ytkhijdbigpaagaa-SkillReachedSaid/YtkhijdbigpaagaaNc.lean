import Derived.Test.YtkhijdbigpaagaaNb
/-
  chanceAt of package skill.
-/
namespace Go.Proofs.Ytkhijdbigpaagaa
open Go.RowKit RG

def tkCells (t : Int × Int) : List Value := [.int .i64 t.1, .int .i64 t.2]
/-- How likely a task is done. -/
def doneT (ls : List Int) (t : Int × Int) : Int := lim (500 + ls[t.1.toNat]?.getD 0 - t.2)
def missC (ps qs : List Int) (k : Nat) : Array Value := ((List.range 7).map fun j => Value.int .i64 (if k < j then pk qs j else pk ps j)).toArray
theorem missC_at {ps qs : List Int} {k j : Nat} (hj : j < 7) : (missC ps qs k)[j]? = some (.int .i64 (if k < j then pk qs j else pk ps j)) := by simp [missC, hj]
theorem missC_set {ps qs : List Int} {k : Nat} (hk : k + 1 < 7) : (missC ps qs (k + 1)).setIfInBounds (k + 1) (.int .i64 (pk qs (k + 1))) = missC ps qs k := by
  apply Array.ext_getElem?
  intro j
  rcases Nat.lt_or_ge j 7 with hj | hj
  · rw [missC_at hj]
    by_cases e : k + 1 = j
    · subst e
      rw [Array.getElem?_setIfInBounds_self_of_lt (by simpa [missC] using hk), if_pos (by omega)]
    · rw [Array.getElem?_setIfInBounds_ne e, missC_at hj]
      by_cases h : k + 1 < j
      · rw [if_pos h, if_pos (by omega)]
      · rw [if_neg h, if_neg (by omega)]
  · rw [Array.getElem?_eq_none (by simpa [missC] using hj), Array.getElem?_eq_none (by simpa [missC] using hj)]
theorem missC_end {ps qs : List Int} : (missC ps qs 0).setIfInBounds 0 (.int .i64 (pk qs 0)) = missC qs qs 7 := by
  apply Array.ext_getElem?
  intro j
  rcases Nat.lt_or_ge j 7 with hj | hj
  · rw [missC_at hj]
    by_cases e : 0 = j
    · subst e
      rw [Array.getElem?_setIfInBounds_self_of_lt (by simp [missC]), if_neg (by omega)]
    · rw [Array.getElem?_setIfInBounds_ne e, missC_at hj, if_pos (by omega), if_neg (by omega)]
  · rw [Array.getElem?_eq_none (by simpa [missC] using hj), Array.getElem?_eq_none (by simpa [missC] using hj)]
theorem missC_top {ps qs : List Int} {n : Nat} (h1 : ps.length ≤ n) (h2 : qs.length ≤ n) : missC ps ps 7 = missC ps qs n := by
  apply Array.ext_getElem?
  intro j
  rcases Nat.lt_or_ge j 7 with hj | hj
  · rw [missC_at hj, missC_at hj, if_neg (by omega)]
    by_cases h : n < j
    · rw [if_pos h, pk_long ps j (by omega), pk_long qs j (by omega)]
    · rw [if_neg h]
  · rw [Array.getElem?_eq_none (by simpa [missC] using hj), Array.getElem?_eq_none (by simpa [missC] using hj)]
theorem pk_le {ps : List Int} (h : InL ps) : ∀ k, pk ps k ≤ 1000 ^ ps.length
  | 0 => by rw [← (fk_sum ps 0).2]; exact fk_le h 0
  | k + 1 => by
    have h1 := (fk_sum ps k).1
    have h2 := fk_le h (k + 1)
    have h3 := fk_nn h k
    omega
theorem pow1000_le {k : Nat} (hk : k ≤ 6) : (1000 : Int) ^ k ≤ 1000000000000000000 := by
  have : k = 0 ∨ k = 1 ∨ k = 2 ∨ k = 3 ∨ k = 4 ∨ k = 5 ∨ k = 6 := by omega
  rcases this with rfl | rfl | rfl | rfl | rfl | rfl | rfl <;> simp only [Int.reducePow] <;> omega
theorem pk_b {ps : List Int} (h : InL ps) (hl : ps.length ≤ 6) (k : Nat) : 0 ≤ pk ps k ∧ pk ps k ≤ 1000000000000000000 :=
  ⟨pk_nn ps k h, Int.le_trans (pk_le h k) (pow1000_le hl)⟩
theorem pk_b5 {ps : List Int} (h : InL ps) (hl : ps.length ≤ 5) (k : Nat) {d : Int} (hd : 0 ≤ d ∧ d ≤ 1000) : 0 ≤ pk ps k * d ∧ pk ps k * d ≤ 1000000000000000000 := by
  have h1 := pk_nn ps k h
  have h2 : pk ps k ≤ 1000000000000000 := Int.le_trans (pk_le h k) (by
    have : ps.length = 0 ∨ ps.length = 1 ∨ ps.length = 2 ∨ ps.length = 3 ∨ ps.length = 4 ∨ ps.length = 5 := by omega
    rcases this with e | e | e | e | e | e <;> rw [e] <;> simp only [Int.reducePow] <;> omega)
  refine ⟨Int.mul_nonneg h1 hd.1, Int.le_trans (Int.mul_le_mul h2 hd.2 hd.1 (by omega)) (by omega)⟩
def sumT (ps : List Int) : Nat → Int
  | 0 => 0
  | k + 1 => fk ps k
theorem sumT_step (ps : List Int) (k : Nat) : sumT ps (k + 1) = sumT ps k + pk ps k := by
  cases k with
  | zero => show fk ps 0 = 0 + pk ps 0; rw [(fk_sum ps 0).2]; omega
  | succ k => exact (fk_sum ps k).1
theorem sumT_b {ps : List Int} (h : InL ps) (hl : ps.length ≤ 6) (k : Nat) : 0 ≤ sumT ps k ∧ sumT ps k ≤ 1000000000000000000 := by
  cases k with
  | zero => exact ⟨Int.le_refl _, by show (0 : Int) ≤ _; omega⟩
  | succ k => exact ⟨fk_nn h k, Int.le_trans (fk_le h k) (pow1000_le hl)⟩

theorem slice7 (g al : Nat) (w : World) (h : al ≤ 6) : (Instr.sliceAt 158 (.pointer (some ⟨g, 0, none⟩)) none (some (.int .i64 ((al : Int) + 1))) none).run Try.prog w = .ok (.slice (some ⟨g, 0, none⟩) (al + 1) 7) w := by
  have hl : Try.prog.arrayLen 158 = 7 := by kernel_rfl
  have hs : Try.prog.elem 158 = 3 := by kernel_rfl
  have z3 := Try.sizeOf3
  rw [run_sliceAt_array_h w 158 ⟨g, 0, none⟩ (by kernel_rfl) .i64 ((al : Int) + 1) (by omega) (by rw [hl]; omega), hl, hs]
  go_simp

set_option maxRecDepth 100000 in
set_option maxHeartbeats 4000000 in
theorem chanceAt_any (A B : Option Addr) (n c m cb al : Nat) (ts : List (Int × Int)) (ls : List Int) (w : World) (hn : n ≤ 6) (hal : al ≤ 6)
    (ht : RdRow w A n 2 (ts.map tkCells)) (hls : RdInts w B m ls) (hmm : m ≤ maxLen)
    (hT : ∀ i, i < n → ∃ s l : Nat, ts[i]?.getD (0, 0) = ((s : Int), (l : Int)) ∧ s < m ∧ l ≤ 1000) (hL : ∀ j, j < m → 0 ≤ ls[j]?.getD 0 ∧ ls[j]?.getD 0 ≤ 1000) :
    Calls Try.prog 76 #[.agg #[.slice A n c, .int .i64 al], .slice B m cb] w fun e w' => e = .returned (.int .i64 (fk (ts.map (doneT ls)) al)) ∧ Below w.heap.size w w' := by
  have htl : ts.length = n := by have := ht.1; simpa using this
  have hB := hide (((Below.refl w.heap.size w).alloc (Nat.le_refl _) (.cells #[.slice A n c, .int .i64 al] 48)).alloc (by simp) (.cells #[.int .i64 1, .int .i64 0, .int .i64 0, .int .i64 0, .int .i64 0, .int .i64 0, .int .i64 0] 158))
  have hS := hide (show Blk ((w.alloc (.cells #[.slice A n c, .int .i64 al] 48)).alloc (.cells #[.int .i64 1, .int .i64 0, .int .i64 0, .int .i64 0, .int .i64 0, .int .i64 0, .int .i64 0] 158)) w.heap.size 48 #[.slice A n c, .int .i64 al] from (blkNew rfl).alloc _)
  have hM := hide (show Blk ((w.alloc (.cells #[.slice A n c, .int .i64 al] 48)).alloc (.cells #[.int .i64 1, .int .i64 0, .int .i64 0, .int .i64 0, .int .i64 0, .int .i64 0, .int .i64 0] 158)) (w.heap.size + 1) 158 (missC [] [] 7) from blkNew (by simp))
  have hZ : w.heap.size + 2 = ((w.alloc (.cells #[.slice A n c, .int .i64 al] 48)).alloc (.cells #[.int .i64 1, .int .i64 0, .int .i64 0, .int .i64 0, .int .i64 0, .int .i64 0, .int .i64 0] 158)).heap.size := by simp +arith
  have htA := hide (fun W (hb : Below w.heap.size w W) => ht.below hb)
  have hlA := hide (fun W (hb : Below w.heap.size w W) => hls.below hb)
  have hIn := hide (show InL (ts.map (doneT ls)) from fun p hp => by
    obtain ⟨t, _, rfl⟩ := List.mem_map.1 hp
    exact lim_le _)
  have htake := hide (fun i (hi : i < n) => show (ts.map (doneT ls)).take (i + 1) = (ts.map (doneT ls)).take i ++ [doneT ls (ts[i]?.getD (0, 0))] by
    rw [List.take_succ_eq_append_getElem (by simpa [htl] using hi), List.getElem_map, List.getElem?_eq_getElem (by rw [htl]; exact hi)]; rfl)
  have hlen := hide (show (ts.map (doneT ls)).length = n by simpa using htl)
  have hmm' := hmm
  unfold maxLen at hmm'
  replace hT := hide hT
  replace hL := hide hL
  obtain ⟨P, hP⟩ : ∃ P, ts.map (doneT ls) = P := ⟨_, rfl⟩
  rw [hP] at hIn htake hlen ⊢
  clear hP ht hls hmm
  go_enter Try.func76, Try.ntmps76
  have s0 : ((w.alloc (.cells #[.slice A n c, .int .i64 al] 48)).alloc (.cells #[.int .i64 1, .int .i64 0, .int .i64 0, .int .i64 0, .int .i64 0, .int .i64 0, .int .i64 0] 158)).cell? ⟨w.heap.size, 0, none⟩ = some (.slice A n c) := hS.out.cell 0
  go_wp2
  clear s0
  generalize ((w.alloc (.cells #[.slice A n c, .int .i64 al] 48)).alloc (.cells #[.int .i64 1, .int .i64 0, .int .i64 0, .int .i64 0, .int .i64 0, .int .i64 0, .int .i64 0] 158)) = w0 at *
  replace hZ := hide hZ
  go_loopg [17] n (fun g iv wr => ∃ i : Nat, i ≤ n ∧ n - i ≤ g ∧ iv = .int .i64 i ∧ Hid (Below w.heap.size w wr) ∧ Hid (w.heap.size + 2 ≤ wr.heap.size) ∧ Hid (Blk wr w.heap.size 48 #[.slice A n c, .int .i64 al]) ∧ Hid (Blk wr (w.heap.size + 1) 158 (missC (P.take i) (P.take i) 7)))
  case atStart => exact ⟨0, Nat.zero_le _, by omega, rfl, hB, by unfold Hid; rw [← hZ.out]; exact Nat.le_refl _, hS, hM⟩
  case round =>
    clear hB hS hM hZ
    obtain ⟨i, hi, hg, rfl, hB, hz, hS, hM⟩ := hrel
    by_cases hlt : i < n
    · have hltz : (i : Int) < (n : Int) := by omega
      have hi0 : (0 : Int) ≤ (i : Int) := by omega
      obtain ⟨sk, lv, hsl, hsm, hlv⟩ := hT.out i hlt
      obtain ⟨b, off, x0, x1, rfl, hb, e1, r0, r1⟩ := (htA.out _ hB.out).cells2 hlt
      have e1' : ((ts.map tkCells)[i]?.getD []) = tkCells (ts[i]?.getD (0, 0)) := by
        rw [List.getElem?_map, List.getElem?_eq_getElem (by rw [htl]; exact hlt)]; rfl
      rw [e1', hsl] at e1
      simp only [tkCells, List.cons.injEq, and_true] at e1
      obtain ⟨rfl, rfl⟩ := e1
      clear e1'
      obtain ⟨lb, loff, rfl, hlb, hlc⟩ := (hlA.out _ hB.out).2 (by omega)
      have c0 := hlc sk hsm
      have hlr := hL.out sk hsm
      have htk := htake.out i hlt
      rw [hsl] at htk
      have hdt : doneT ls ((sk : Int), (lv : Int)) = lim (500 + ls[sk]?.getD 0 - (lv : Int)) := rfl
      rw [hdt] at htk
      clear hdt hlc
      generalize ls[sk]?.getD 0 = y at *
      have hw1 : IntKind.i64.wrap (500 + y) = 500 + y := by rw [IntKind.wrap_i64]; omega
      have hw2 : IntKind.i64.wrap (500 + y - (lv : Int)) = 500 + y - (lv : Int) := by rw [IntKind.wrap_i64]; omega
      have hskz : (sk : Int) < (m : Int) := by omega
      have hsk0 : (0 : Int) ≤ (sk : Int) := by omega
      have hdl := lim_le (500 + y - (lv : Int))
      have hInI : InL (P.take i) := fun p hp => hIn.out p (List.mem_of_mem_take hp)
      have hInI2 : InL (P.take (i + 1)) := fun p hp => hIn.out p (List.mem_of_mem_take hp)
      have hl1 : (P.take i).length ≤ 5 := by rw [List.length_take]; omega
      have hl2 : (P.take (i + 1)).length ≤ 6 := by rw [List.length_take]; omega
      have hl3 : (P.take i).length ≤ n := by rw [List.length_take]; omega
      have hl4 : (P.take (i + 1)).length ≤ n := by rw [List.length_take]; omega
      rw [missC_top hl3 hl4] at hM
      generalize hQ : P.take (i + 1) = Q at *
      generalize P.take i = Pi at *
      replace hQ := hide hQ
      replace htk := hide htk
      have hlim := fun W => limit_any (500 + y - (lv : Int)) W
      generalize lim (500 + y - (lv : Int)) = d at *
      replace hlim := hide hlim
      replace hInI := hide hInI
      replace hInI2 := hide hInI2
      replace hl1 := hide hl1
      replace hl2 := hide hl2
      replace hsl := hide hsl
      clear hl3 hl4
      have hB0 := hide (hB.out.alloc hB.out.size (.cells #[.int .i64 sk, .int .i64 lv] 100))
      have hS0 := hide (hS.out.alloc (.cells #[.int .i64 sk, .int .i64 lv] 100))
      have hM0 := hide (hM.out.alloc (.cells #[.int .i64 sk, .int .i64 lv] 100))
      have hz0 := hide (show w.heap.size + 2 ≤ (wr.alloc (.cells #[.int .i64 sk, .int .i64 lv] 100)).heap.size by have := hz.out; simp; omega)
      have hzz := hz.out
      go_wp2
      go_quiet ((go_at_call 97; exact quiet_left (hlim.out _)))
      have hB1 := hide (below_drewN hB0.out nq)
      have hS1 := hide (Blk.drewN hS0.out nq)
      have hM1 := hide (Blk.drewN hM0.out nq)
      have hz1 := hide (show w.heap.size + 2 ≤ ((wr.alloc (.cells #[.int .i64 sk, .int .i64 lv] 100)).drewN nq).heap.size from hz0.out)
      clear hB hS hM hz hB0 hS0 hM0 hz0
      generalize ((wr.alloc (.cells #[.int .i64 sk, .int .i64 lv] 100)).drewN nq) = wq at *
      have s0 : wq.cell? ⟨w.heap.size, 0, none⟩ = some (.slice (some ⟨b, off, none⟩) n c) := hS1.out.cell 0
      go_wp2
      clear s0
      go_loopg [9] n (fun g kv wr => ∃ k : Nat, k ≤ n ∧ k ≤ g ∧ kv = .int .i64 k ∧ Hid (Below w.heap.size w wr) ∧ Hid (w.heap.size + 2 ≤ wr.heap.size) ∧ Hid (Blk wr w.heap.size 48 #[.slice (some ⟨b, off, none⟩) n c, .int .i64 al]) ∧ Hid (Blk wr (w.heap.size + 1) 158 (missC Pi Q k)))
      case atStart => exact ⟨n, Nat.le_refl _, Nat.le_refl _, rfl, hB1, hz1, hS1, hM1⟩
      case round =>
        clear hB1 hz1 hS1 hM1
        obtain ⟨k, hk, hg2, rfl, hB, hz, hS, hM⟩ := hrel
        have hzz := hz.out
        cases k with
        | zero =>
          have m0 : wr.cell? ⟨w.heap.size + 1, 0, none⟩ = some (.int .i64 (pk Pi 0)) := by rw [hM.out.cell, missC_at (by omega)]; rfl
          have f0 : wr.frozen? ⟨w.heap.size + 1, 0, none⟩ = false := hM.out.frozen 0
          have hb0 := pk_b5 hInI.out hl1.out 0 hdl
          have hsn := pk_snoc0 Pi d
          rw [← htk.out] at hsn
          have hw3 : wrap64 (pk Pi 0 * d) = pk Pi 0 * d := by unfold wrap64; omega
          have hset := (hM.out.set_ 0 (.int .i64 (pk Q 0)))
          rw [missC_end] at hset
          rw [hsn] at hset
          generalize pk Pi 0 = a at *
          replace hset := hide hset
          replace hsn := hide hsn
          go_wp2
          go_roundg (n - (i + 1))
          case measure => omega
          case rel => exact ⟨i + 1, by omega, by omega, by go_num, hB.out.setCell (by simp) _, by unfold Hid; simpa using hzz, hS.out.far (by simp) _, by rw [hQ.out]; exact hset⟩
        | succ k =>
          have hkz : (0 : Int) < ((k : Nat) : Int) + 1 := by omega
          have hk1 : ((k : Int) + 1) - 1 = (k : Int) := by omega
          have hk7 : (k : Int) + 1 < 7 := by omega
          have hk7' : (k : Int) < 7 := by omega
          have hk0 : (0 : Int) ≤ (k : Int) := by omega
          have m0 : wr.cell? ⟨w.heap.size + 1, k, none⟩ = some (.int .i64 (pk Pi k)) := by rw [hM.out.cell, missC_at (by omega), if_neg (by omega)]
          have m1 : wr.cell? ⟨w.heap.size + 1, k + 1, none⟩ = some (.int .i64 (pk Pi (k + 1))) := by rw [hM.out.cell, missC_at (by omega), if_neg (by omega)]
          have hb0 := pk_b5 hInI.out hl1.out (k + 1) hdl
          have hb1 := pk_b5 hInI.out hl1.out k (d := 1000 - d) (by omega)
          have hbs := pk_b hInI2.out hl2.out (k + 1)
          have hsn := pk_snoc Pi d k
          rw [← htk.out] at hsn
          rw [hsn] at hbs
          generalize pk Pi (k + 1) = a1 at *
          generalize pk Pi k = a0 at *
          have hw3 : wrap64 (a1 * d) = a1 * d := by unfold wrap64; omega
          have hw4 : wrap64 (a0 * (1000 - d)) = a0 * (1000 - d) := by unfold wrap64; omega
          have hw5 : IntKind.i64.wrap (a1 * d + a0 * (1000 - d)) = a1 * d + a0 * (1000 - d) := by rw [IntKind.wrap_i64]; omega
          have v3 : IntKind.i64.wrap (a1 * d) = a1 * d := by rw [IntKind.wrap_i64]; omega
          have v4 : IntKind.i64.wrap (a0 * (1000 - d)) = a0 * (1000 - d) := by rw [IntKind.wrap_i64]; omega
          have v5 : IntKind.i64.wrap (1000 - d) = 1000 - d := by rw [IntKind.wrap_i64]; omega
          have v6 : IntKind.i64.wrap (k : Int) = (k : Int) := by rw [IntKind.wrap_i64]; omega
          have hml := hM.out.lt
          have hsl2 := hS.out.lt
          replace hsn := hide hsn
          go_wp2
          refine region_grow_tail 15 [IsV (.int .i64 ((k : Int) + 1)), IsV (.int .i64 ((k : Int) + 1)), IsV (.pointer (some ⟨w.heap.size + 1, k + 1, none⟩)), IsV (.int .i64 a1), IsV (.int .i64 d), IsV (.int .i64 (a1 * d)), IsV (.int .i64 ((k : Int) + 1)), IsV (.int .i64 k), IsV (.pointer (some ⟨w.heap.size + 1, k, none⟩)), IsV (.int .i64 a0), IsV (.int .i64 d), IsV (.int .i64 (1000 - d)), IsV (.int .i64 (a0 * (1000 - d))), IsV (.int .i64 (a1 * d + a0 * (1000 - d))), IsV (.pointer (some ⟨w.heap.size + 1, k + 1, none⟩))] (by kernel_rfl) (by kernel_rfl) rfl ?_ ?_ ?_
          · simp [AllStb, IsV.stb]
          · refine ⟨?_, ?_, ?_, ?_, ?_, ?_, ?_, ?_, ?_, ?_, ?_, ?_, ?_, ?_, ?_, trivial⟩
            all_goals
              intro y w6 K Qq Cv hC hd hV
              have q0 := (cellB (o := k) hC hml).trans m0
              have q1 := (cellB (o := k + 1) hC hml).trans m1
              simp [deps, VL, IsV, Region.binds] at hd
              simp only [List.take_succ_cons, List.take_zero, putAll, Act.put]
              go_simp; intro hK; exact hK _ _ (hV _ _ hC (Below.refl _ _) rfl)
          · intro y w6 hC hd
            simp [EndsL, IsV] at hd
            obtain ⟨d0, d1, d2, d3, d4, d5, d6, d7, d8, d9, d10, d11, d12, d13, d14⟩ := hd
            simp only [List.take_succ_cons, List.take_zero, List.drop_succ_cons, List.drop_zero, putAll, Act.put]
            rw [d0, d1, d2, d3, d4, d5, d6, d7, d8, d9, d10, d11, d12, d13, d14]
            clear d0 d1 d2 d3 d4 d5 d6 d7 d8 d9 d10 d11 d12 d13 d14
            simp only [List.setIfInBounds_toArray, List.set_cons_succ, List.set_cons_zero]
            have hM6 := hM.out.below hC hml
            have hS6 := hide (hS.out.below hC hsl2)
            have hB6 := hide (hB.out.trans (hC.mono hB.out.size))
            have hz6 := hide (Nat.le_trans hz.out hC.size)
            have q1 : w6.cell? ⟨w.heap.size + 1, k + 1, none⟩ = some (.int .i64 a1) := (cellB (o := k + 1) hC hml).trans m1
            have f1 : w6.frozen? ⟨w.heap.size + 1, k + 1, none⟩ = false := hM6.frozen (k + 1)
            have hset := hM6.set_ (k + 1) (.int .i64 (pk Q (k + 1)))
            rw [missC_set (by omega), hsn.out] at hset
            replace hset := hide hset
            clear hC m0 m1 hM6
            go_wp2
            go_roundg k
            case measure => omega
            case rel => exact ⟨k, by omega, by omega, by go_num, hB6.out.setCell (by simp) _, by unfold Hid; simpa using hz6.out, hS6.out.far (by simp) _, hset⟩
    · obtain rfl : n = i := by omega
      have hltz : ¬ (n : Int) < (n : Int) := by omega
      have hPn : P.take n = P := by rw [← hlen.out]; exact List.take_length
      rw [hPn] at hM
      have hin6 : InL P := hIn.out
      have hl6 : P.length ≤ 6 := by rw [hlen.out]; exact hn
      have hst := hide (sumT_step P)
      have hsb := hide (fun k => sumT_b hin6 hl6 k)
      have hml := hM.out.lt
      have a0 : wr.cell? ⟨w.heap.size, 1, none⟩ = some (.int .i64 al) := hS.out.cell 1
      have ha7 : (al : Int) + 1 ≤ 7 := by omega
      have ha7' : al + 1 ≤ 7 := by omega
      have hfk := hide (show fk P al = sumT P (al + 1) from rfl)
      replace hin6 := hide hin6
      replace hl6 := hide hl6
      replace hPn := hide hPn
      have hs7 := slice7 (w.heap.size + 1) al wr hal
      go_wp2
      clear a0 hs7
      go_loopg [10, 64] (al + 1) (fun g sv kv wx => ∃ (k : Nat) (x : Int), k ≤ al + 1 ∧ al + 1 - k ≤ g ∧ kv = .int .i64 k ∧ sv = .int .i64 x ∧ wx = wr ∧ Hid (sumT P k = x))
      case atStart => exact ⟨0, 0, Nat.zero_le _, by omega, rfl, rfl, rfl, rfl⟩
      case round =>
        obtain ⟨k, x, hk, hg2, rfl, rfl, rfl, hx⟩ := hrel
        by_cases hlt2 : k < al + 1
        · have hltz2 : (k : Int) < (al : Int) + 1 := by omega
          have hk0 : (0 : Int) ≤ (k : Int) := by omega
          have m0 : wr.cell? ⟨w.heap.size + 1, k, none⟩ = some (.int .i64 (pk P k)) := by rw [hM.out.cell, missC_at (by omega), if_neg (by omega)]
          have hb1 := hsb.out (k + 1)
          have hs1 := hst.out k
          rw [hx.out] at hs1
          rw [hs1] at hb1
          generalize pk P k = q at *
          have hw : IntKind.i64.wrap (x + q) = x + q := by rw [IntKind.wrap_i64]; omega
          replace hs1 := hide hs1
          replace hb1 := hide hb1
          go_wp2
          go_roundg (al + 1 - (k + 1))
          case measure => omega
          case rel => exact ⟨k + 1, x + q, by omega, by omega, by go_num, rfl, rfl, hs1⟩
        · obtain rfl : k = al + 1 := by omega
          have hltz2 : ¬ (al : Int) + 1 < (al : Int) + 1 := by omega
          go_wp2
          go_ret
          exact ⟨ret_int (by rw [hfk.out, hx.out]), hB.out⟩
end Go.Proofs.Ytkhijdbigpaagaa

/-
  spanError of package skill.
-/
namespace Go.Proofs.Ytkhijdbigpaagaa
open Go.RowKit RG

/-- The error of ranges of numbers from lo to hi. -/
def spanE (lo hi : Int) (ss : List Sp) : Int := if ss.all (fun s => inB lo hi s.1 && inB lo hi s.2) = true then (if ss.all (fun s => decide (s.1 ≤ s.2)) = true then 0 else 2) else 7
theorem all_step {α : Type} (p : α → Bool) (xs : List α) (k : Nat) (h : k < xs.length) : (xs.take (k + 1)).all p = ((xs.take k).all p && p xs[k]) := by
  rw [List.take_succ_eq_append_getElem h, List.all_append]; simp
theorem all_no {α : Type} (p : α → Bool) (xs : List α) (k : Nat) (h : k < xs.length) (hp : p xs[k] = false) : xs.all p = false := by
  rw [List.all_eq_false]; exact ⟨xs[k], List.getElem_mem h, by simp [hp]⟩

set_option maxRecDepth 100000 in
set_option maxHeartbeats 2000000 in
theorem spanError_any (lo hi : Int) (A : Option Addr) (n c : Nat) (ss : List Sp) (w : World) (h : RdRow w A n 2 (ss.map tkCells)) (hm : n ≤ maxLen) :
    Calls Try.prog 92 #[.int .i64 lo, .int .i64 hi, .slice A n c] w fun e w' => e = .returned (.int .i64 (spanE lo hi ss)) ∧ Below w.heap.size w w' := by
  unfold maxLen at hm
  have hl : ss.length = n := by have := h.1; simpa using this
  have hA := hide (fun W (hb : Below w.heap.size w W) => h.below hb)
  have hat := hide (fun i (hi : i < n) => show ((ss.map tkCells)[i]?.getD []) = tkCells (ss[i]'(by rw [hl]; exact hi)) by
    rw [List.getElem?_map, List.getElem?_eq_getElem (by rw [hl]; exact hi)]; rfl)
  have h1s := hide (fun k (hk : k < n) => all_step (fun s : Sp => inB lo hi s.1 && inB lo hi s.2) ss k (by rw [hl]; exact hk))
  have h1n := hide (fun k (hk : k < n) (hp : (inB lo hi (ss[k]'(by rw [hl]; exact hk)).1 && inB lo hi (ss[k]'(by rw [hl]; exact hk)).2) = false) => show spanE lo hi ss = 7 by
    unfold spanE; rw [if_neg (by rw [all_no _ ss k (by rw [hl]; exact hk) hp]; simp)])
  have h2s := hide (fun k (hk : k < n) => all_step (fun s : Sp => decide (s.1 ≤ s.2)) ss k (by rw [hl]; exact hk))
  have h2n := hide (fun (h1 : ss.all (fun s : Sp => inB lo hi s.1 && inB lo hi s.2) = true) k (hk : k < n) (hp : decide ((ss[k]'(by rw [hl]; exact hk)).1 ≤ (ss[k]'(by rw [hl]; exact hk)).2) = false) => show spanE lo hi ss = 2 by
    unfold spanE; rw [if_pos h1, if_neg (by rw [all_no _ ss k (by rw [hl]; exact hk) hp]; simp)])
  have h0 := hide (fun (h1 : ss.all (fun s : Sp => inB lo hi s.1 && inB lo hi s.2) = true) (h2 : ss.all (fun s : Sp => decide (s.1 ≤ s.2)) = true) => show spanE lo hi ss = 0 by unfold spanE; rw [if_pos h1, if_pos h2])
  have htn := hide (show ∀ p : Sp → Bool, (ss.take n).all p = ss.all p from fun p => by rw [← hl, List.take_length])
  have hB := hide (Below.refl w.heap.size w)
  clear h
  replace hl := hide hl
  generalize spanE lo hi ss = r at *
  go_enter Try.func92, Try.ntmps92
  go_wp2
  go_loopg [13] n (fun g iv wr => ∃ i : Nat, i ≤ n ∧ n - i ≤ g ∧ iv = .int .i64 i ∧ Hid (Below w.heap.size w wr) ∧ Hid ((ss.take i).all (fun s => inB lo hi s.1 && inB lo hi s.2) = true))
  case atStart => exact ⟨0, Nat.zero_le _, by omega, rfl, hB, by unfold Hid; simp⟩
  case round =>
    clear hB
    obtain ⟨i, hin, hg, rfl, hB, hE⟩ := hrel
    by_cases hlt : i < n
    · have hltz : (i : Int) < (n : Int) := by omega
      have hi0 : (0 : Int) ≤ (i : Int) := by omega
      obtain ⟨b, off, x0, x1, rfl, hb, e1, r0, r1⟩ := (hA.out _ hB.out).cells2 hlt
      rw [hat.out i hlt] at e1
      have hst := h1s.out i hlt
      have hno := h1n.out i hlt
      rw [hE.out, Bool.true_and] at hst
      generalize ss[i]'(by rw [hl.out]; exact hlt) = sp at *
      obtain ⟨a, z⟩ := sp
      simp only [tkCells, List.cons.injEq, and_true] at e1
      obtain ⟨rfl, rfl⟩ := e1
      simp only at hst hno
      replace hst := hide hst
      replace hno := hide hno
      have hw := hide (fun (W : World) (bb : Nat) (h1 : W.cell? ⟨bb, 0, none⟩ = some (.int .i64 a)) (h2 : W.cell? ⟨bb, 1, none⟩ = some (.int .i64 z)) => within_two lo hi a z bb 0 2 W h1 h2)
      have hWB := hide (show Below w.heap.size w ((wr.alloc (.cells #[.int .i64 a, .int .i64 z] 32)).alloc (.cells #[.int .i64 a, .int .i64 z] 3)) from (hB.out.alloc hB.out.size _).alloc (by have := hB.out.size; simp; omega) _)
      have k0 := hide (show Blk ((wr.alloc (.cells #[.int .i64 a, .int .i64 z] 32)).alloc (.cells #[.int .i64 a, .int .i64 z] 3)) (wr.heap.size + 1) 3 #[.int .i64 a, .int .i64 z] from blkNew (by simp))
      go_wp2_with fail
      refine (hw.out _ _ (k0.out.cell 0) (k0.out.cell 1)).mono ?_
      rintro e w5 ⟨rfl, rfl⟩
      clear k0 hw
      cases hq : (inB lo hi a && inB lo hi z) with
      | true =>
        rw [hq] at hst
        clear hq hno
        go_wp2
        go_roundg (n - (i + 1))
        case measure => omega
        case rel => exact ⟨i + 1, by omega, by omega, by go_num, hWB, hst⟩
      | false =>
        have hr := hno.out hq
        subst hr
        clear hq hno hst
        go_wp2
        go_ret
        exact ⟨rfl, hWB.out⟩
    · obtain rfl : n = i := by omega
      have hltz : ¬ (n : Int) < (n : Int) := by omega
      have hE1 := hide (hE.out)
      rw [htn.out] at hE1
      clear hE
      go_wp2
      go_loopg [29] n (fun g iv wr => ∃ i : Nat, i ≤ n ∧ n - i ≤ g ∧ iv = .int .i64 i ∧ Hid (Below w.heap.size w wr) ∧ Hid ((ss.take i).all (fun s => decide (s.1 ≤ s.2)) = true))
      case atStart => exact ⟨0, Nat.zero_le _, by omega, rfl, hB, by unfold Hid; simp⟩
      case round =>
        clear hB
        obtain ⟨i, hin, hg, rfl, hB, hE⟩ := hrel
        by_cases hlt : i < n
        · have hltz : (i : Int) < (n : Int) := by omega
          have hi0 : (0 : Int) ≤ (i : Int) := by omega
          obtain ⟨b, off, x0, x1, rfl, hb, e1, r0, r1⟩ := (hA.out _ hB.out).cells2 hlt
          rw [hat.out i hlt] at e1
          have hst := h2s.out i hlt
          have hno := h2n.out hE1.out i hlt
          rw [hE.out, Bool.true_and] at hst
          generalize ss[i]'(by rw [hl.out]; exact hlt) = sp at *
          obtain ⟨a, z⟩ := sp
          simp only [tkCells, List.cons.injEq, and_true] at e1
          obtain ⟨rfl, rfl⟩ := e1
          simp only at hst hno
          replace hst := hide hst
          replace hno := hide hno
          have hWB := hide (show Below w.heap.size w (wr.alloc (.cells #[.int .i64 a, .int .i64 z] 32)) from hB.out.alloc hB.out.size _)
          by_cases hq : a ≤ z
          · have hq2 : ¬ z < a := by omega
            have hst2 := hide (hst.out.trans (decide_eq_true hq))
            replace hq := hide hq
            go_wp2
            go_roundg (n - (i + 1))
            case measure => omega
            case rel => exact ⟨i + 1, by omega, by omega, by go_num, hWB, hst2⟩
          · have hq2 : z < a := by omega
            have hr := hno.out (decide_eq_false hq)
            subst hr
            replace hq := hide hq
            clear hno hst
            go_wp2
            go_ret
            exact ⟨rfl, hWB.out⟩
        · obtain rfl : n = i := by omega
          have hltz : ¬ (n : Int) < (n : Int) := by omega
          have hE2 := hE.out
          rw [htn.out] at hE2
          have hr := h0.out hE1.out hE2
          subst hr
          replace hE2 := hide hE2
          clear hE
          go_wp2
          go_ret
          exact ⟨rfl, hB.out⟩
end Go.Proofs.Ytkhijdbigpaagaa

/-
  Schools of skill in memory; the names of their elements; cmp.Or.
-/
namespace Go.Proofs.Ytkhijdbigpaagaa
open Go.RowKit RG

set_option maxHeartbeats 1000000 in
theorem Or_any (g : Nat) (x y : Int) (w : World) (h0 : w.cell? ⟨g, 0, none⟩ = some (.int .i64 x)) (h1 : w.cell? ⟨g, 1, none⟩ = some (.int .i64 y)) :
    Calls Try.prog 91 #[.slice (some ⟨g, 0, none⟩) 2 2] w fun e w' => e = .returned (.int .i64 (if x = 0 then y else x)) ∧ w = w' := by
  obtain ⟨q, hq⟩ : ∃ q, (if x = 0 then y else x) = q := ⟨_, rfl⟩
  rw [hq]
  replace hq := hide hq
  go_enter Try.func91, Try.ntmps91
  go_wp2
  go_loopg [5, 8] 2 (fun gg _ s8 wr => wr = w ∧ ((s8 = .int .i64 0 ∧ 2 ≤ gg) ∨ (s8 = .int .i64 1 ∧ 1 ≤ gg ∧ Hid (x = 0)) ∨ (s8 = .int .i64 2 ∧ Hid (x = 0 ∧ y = 0))))
  case atStart => exact ⟨rfl, .inl ⟨rfl, Nat.le_refl _⟩⟩
  case round =>
    obtain ⟨rfl, ⟨rfl, hg⟩ | ⟨rfl, hg, hx⟩ | ⟨rfl, hx⟩⟩ := hrel
    · by_cases hx0 : x = 0
      · have hb : ((x : Int) != 0) = false := by simp [hx0]
        have hx := hide hx0
        clear hx0
        go_wp2
        go_roundg 1
        case measure => omega
        case rel => exact ⟨rfl, .inr (.inl ⟨by go_num, Nat.le_refl _, hx.out⟩)⟩
      · have hb : ((x : Int) != 0) = true := by simp [hx0]
        have hqx : x = q := by rw [← hq.out, if_neg hx0]
        replace hqx := hide hqx
        replace hx0 := hide hx0
        go_wp2
        go_ret
        exact ⟨ret_int hqx.out, rfl⟩
    · have hqy : y = q := by rw [← hq.out, if_pos hx.out]
      by_cases hy0 : y = 0
      · have hb : ((y : Int) != 0) = false := by simp [hy0]
        have hy := hide hy0
        clear hy0 hqy
        go_wp2
        go_roundg 0
        case measure => omega
        case rel => exact ⟨rfl, .inr (.inr ⟨by go_num, hx.out, hy.out⟩)⟩
      · have hb : ((y : Int) != 0) = true := by simp [hy0]
        replace hqy := hide hqy
        replace hy0 := hide hy0
        go_wp2
        go_ret
        exact ⟨ret_int hqy.out, rfl⟩
    · have hq0 : q = 0 := by rw [← hq.out, if_pos hx.out.1]; exact hx.out.2
      subst hq0
      go_wp2
      go_ret
      exact ⟨rfl, rfl⟩


/-- Two strings are the same. -/
def eqS (a b : ByteArray) : Bool := a.toList == b.toList
theorem eqS_iff {a b : ByteArray} : eqS a b = true ↔ a = b := by
  unfold eqS
  rw [beq_iff_eq, ByteArray.toList_eq, ByteArray.toList_eq]
  constructor
  · intro h
    cases a; cases b
    congr
    exact Array.ext' h
  · rintro rfl; rfl

structure Skl where
  name : ByteArray
  gl : Int
  gh : Int
  fl : Int
  fh : Int
instance : Inhabited Skl := ⟨⟨⟨#[]⟩, 0, 0, 0, 0⟩⟩
structure Ins where
  name : ByteArray
  lo : Int
  hi : Int
instance : Inhabited Ins := ⟨⟨⟨#[]⟩, 0, 0⟩⟩
def skCells (s : Skl) : List Value := [.string s.name, .int .i64 s.gl, .int .i64 s.gh, .int .i64 s.fl, .int .i64 s.fh]
def inCells (s : Ins) : List Value := [.string s.name, .int .i64 s.lo, .int .i64 s.hi]

theorem skName (s : Skl) (w : World) : Calls Try.prog 90 #[.agg (skCells s).toArray] w fun e w' => e = .returned (.string s.name) ∧ Below w.heap.size w w' := by
  unfold skCells
  go_enter Try.func90, Try.ntmps90
  go_wp2
  go_ret
  exact ⟨rfl, (Below.refl _ _).alloc (Nat.le_refl _) _⟩
theorem inName (s : Ins) (w : World) : Calls Try.prog 95 #[.agg (inCells s).toArray] w fun e w' => e = .returned (.string s.name) ∧ Below w.heap.size w w' := by
  unfold inCells
  go_enter Try.func95, Try.ntmps95
  go_wp2
  go_ret
  exact ⟨rfl, (Below.refl _ _).alloc (Nat.le_refl _) _⟩
end Go.Proofs.Ytkhijdbigpaagaa

/-
  names.Error's closure, at skills and at instructors.
-/
namespace Go.Proofs.Ytkhijdbigpaagaa
open Go.RowKit RG

set_option maxRecDepth 100000 in
set_option maxHeartbeats 2000000 in
theorem sameSk (s : Skl) (nm : ByteArray) (pf pn : Nat) (w : World) (hf : w.cell? ⟨pf, 0, none⟩ = some (.func (.func 90) #[] #[])) (hn : w.cell? ⟨pn, 0, none⟩ = some (.string nm)) :
    Calls Try.prog 115 #[.agg (skCells s).toArray, .pointer (some ⟨pf, 0, none⟩), .pointer (some ⟨pn, 0, none⟩)] w fun e w' => e = .returned (.bool (eqS s.name nm)) ∧ Below w.heap.size w w' := by
  have hc := hide (fun W => skName s W)
  have hpf := lt_of_cell hf
  have hpn := lt_of_cell hn
  unfold skCells at *
  obtain ⟨name, gl, gh, fl, fh⟩ := s
  have hB0 := hide (show Below w.heap.size w (w.alloc (.cells #[.string name, .int .i64 gl, .int .i64 gh, .int .i64 fl, .int .i64 fh] 76)) from (Below.refl _ _).alloc (Nat.le_refl _) _)
  have k0 := hide (show Blk (w.alloc (.cells #[.string name, .int .i64 gl, .int .i64 gh, .int .i64 fl, .int .i64 fh] 76)) w.heap.size 76 #[.string name, .int .i64 gl, .int .i64 gh, .int .i64 fl, .int .i64 fh] from blkNew rfl)
  go_enter Try.func115, Try.ntmps115
  go_wp2
  refine region_grow [IsV (.func (.func 90) #[] #[]), IsV (.agg #[.string name, .int .i64 gl, .int .i64 gh, .int .i64 fl, .int .i64 fh]), IsV (.string name), IsV (.string nm), IsV (.bool (eqS name nm)), IsV (.bool (eqS name nm))] (by kernel_rfl) (by kernel_rfl) rfl ?_ ?_ ?_
  · simp [AllStb, IsV.stb]
  · refine ⟨?_, ?_, ?_, ?_, ?_, ?_, trivial⟩
    all_goals
      intro y w1 K Q Cv hC hd hV
      have f0 : w1.cell? ⟨pf, 0, none⟩ = some (.func (.func 90) #[] #[]) := (cellB (hB0.out.trans (hC.mono (by simp))) hpf).trans hf
      have n0 : w1.cell? ⟨pn, 0, none⟩ = some (.string nm) := (cellB (hB0.out.trans (hC.mono (by simp))) hpn).trans hn
      have k1 := k0.out.below hC k0.out.lt
      have c0 := k1.cell 0
      have c1 := k1.cell 1
      have c2 := k1.cell 2
      have c3 := k1.cell 3
      have c4 := k1.cell 4
      simp only [List.getElem?_toArray, List.getElem?_cons_zero, List.getElem?_cons_succ] at c0 c1 c2 c3 c4
      simp [deps, VL, IsV, Region.binds] at hd
    · simp only [putAll, Act.put]; go_simp; intro hK; exact hK _ _ (hV _ _ hC (Below.refl _ _) rfl)
    · simp only [putAll, Act.put]; go_simp; intro hK; exact hK _ _ (hV _ _ hC (Below.refl _ _) rfl)
    · simp only [putAll, Act.put]; go_simp; intro hK; refine (hc.out _).mono ?_; rintro e w2 ⟨rfl, hb⟩; exact hK _ _ (hV _ _ (hC.trans (hb.mono hC.size)) hb rfl)
    · simp only [putAll, Act.put]; go_simp; intro hK; exact hK _ _ (hV _ _ hC (Below.refl _ _) rfl)
    · simp only [putAll, Act.put]; go_simp; intro hK; exact hK _ _ (hV _ _ hC (Below.refl _ _) rfl)
    · simp only [putAll, Act.put]; go_simp; intro hK; exact hK _ _ (hV _ _ hC (Below.refl _ _) rfl)
  intro y w1 hC hd
  simp [EndsL, IsV] at hd
  obtain ⟨d0, d1, d2, d3, d4, d5⟩ := hd
  simp only [putAll, Act.put]
  rw [d0, d1, d2, d3, d4, d5]
  clear d0 d1 d2 d3 d4 d5
  simp only [List.setIfInBounds_toArray, List.set_cons_succ, List.set_cons_zero]
  have hB1 : Below w.heap.size w w1 := hB0.out.trans (hC.mono (by simp))
  clear hC
  replace hB1 := hide hB1
  go_wp2
  go_ret
  exact ⟨rfl, hB1.out⟩
set_option maxRecDepth 100000 in
set_option maxHeartbeats 2000000 in
theorem sameIn (s : Ins) (nm : ByteArray) (pf pn : Nat) (w : World) (hf : w.cell? ⟨pf, 0, none⟩ = some (.func (.func 95) #[] #[])) (hn : w.cell? ⟨pn, 0, none⟩ = some (.string nm)) :
    Calls Try.prog 117 #[.agg (inCells s).toArray, .pointer (some ⟨pf, 0, none⟩), .pointer (some ⟨pn, 0, none⟩)] w fun e w' => e = .returned (.bool (eqS s.name nm)) ∧ Below w.heap.size w w' := by
  have hc := hide (fun W => inName s W)
  have hpf := lt_of_cell hf
  have hpn := lt_of_cell hn
  unfold inCells at *
  obtain ⟨name, gl, gh⟩ := s
  have hB0 := hide (show Below w.heap.size w (w.alloc (.cells #[.string name, .int .i64 gl, .int .i64 gh] 81)) from (Below.refl _ _).alloc (Nat.le_refl _) _)
  have k0 := hide (show Blk (w.alloc (.cells #[.string name, .int .i64 gl, .int .i64 gh] 81)) w.heap.size 81 #[.string name, .int .i64 gl, .int .i64 gh] from blkNew rfl)
  go_enter Try.func117, Try.ntmps117
  go_wp2
  refine region_grow [IsV (.func (.func 95) #[] #[]), IsV (.agg #[.string name, .int .i64 gl, .int .i64 gh]), IsV (.string name), IsV (.string nm), IsV (.bool (eqS name nm)), IsV (.bool (eqS name nm))] (by kernel_rfl) (by kernel_rfl) rfl ?_ ?_ ?_
  · simp [AllStb, IsV.stb]
  · refine ⟨?_, ?_, ?_, ?_, ?_, ?_, trivial⟩
    all_goals
      intro y w1 K Q Cv hC hd hV
      have f0 : w1.cell? ⟨pf, 0, none⟩ = some (.func (.func 95) #[] #[]) := (cellB (hB0.out.trans (hC.mono (by simp))) hpf).trans hf
      have n0 : w1.cell? ⟨pn, 0, none⟩ = some (.string nm) := (cellB (hB0.out.trans (hC.mono (by simp))) hpn).trans hn
      have k1 := k0.out.below hC k0.out.lt
      have c0 := k1.cell 0
      have c1 := k1.cell 1
      have c2 := k1.cell 2
      simp only [List.getElem?_toArray, List.getElem?_cons_zero, List.getElem?_cons_succ] at c0 c1 c2
      simp [deps, VL, IsV, Region.binds] at hd
    · simp only [putAll, Act.put]; go_simp; intro hK; exact hK _ _ (hV _ _ hC (Below.refl _ _) rfl)
    · simp only [putAll, Act.put]; go_simp; intro hK; exact hK _ _ (hV _ _ hC (Below.refl _ _) rfl)
    · simp only [putAll, Act.put]; go_simp; intro hK; refine (hc.out _).mono ?_; rintro e w2 ⟨rfl, hb⟩; exact hK _ _ (hV _ _ (hC.trans (hb.mono hC.size)) hb rfl)
    · simp only [putAll, Act.put]; go_simp; intro hK; exact hK _ _ (hV _ _ hC (Below.refl _ _) rfl)
    · simp only [putAll, Act.put]; go_simp; intro hK; exact hK _ _ (hV _ _ hC (Below.refl _ _) rfl)
    · simp only [putAll, Act.put]; go_simp; intro hK; exact hK _ _ (hV _ _ hC (Below.refl _ _) rfl)
  intro y w1 hC hd
  simp [EndsL, IsV] at hd
  obtain ⟨d0, d1, d2, d3, d4, d5⟩ := hd
  simp only [putAll, Act.put]
  rw [d0, d1, d2, d3, d4, d5]
  clear d0 d1 d2 d3 d4 d5
  simp only [List.setIfInBounds_toArray, List.set_cons_succ, List.set_cons_zero]
  have hB1 : Below w.heap.size w w1 := hB0.out.trans (hC.mono (by simp))
  clear hC
  replace hB1 := hide hB1
  go_wp2
  go_ret
  exact ⟨rfl, hB1.out⟩
end Go.Proofs.Ytkhijdbigpaagaa

/-
  names.Error at skills and at instructors.
-/
namespace Go.Proofs.Ytkhijdbigpaagaa
open Go.RowKit RG

/-- The error of the name at the place i of names ns. -/
def nmErr (ns : Nat → ByteArray) (i : Nat) : Int := if nameB (ns i) = false then 6 else if anyIdx (fun j => eqS (ns j) (ns i)) i = true then 5 else 0
theorem map_at {α : Type} [Inhabited α] (f : α → List Value) (ss : List α) (k : Nat) (h : k < ss.length) : ((ss.map f)[k]?.getD []) = f (ss[k]?.getD default) := by
  rw [List.getElem?_map, List.getElem?_eq_getElem h]; rfl

/-- A new cell behind B that holds the empty string. -/
def StrNew (B : Nat) : Value → World → Prop := fun v w => ∃ p, v = .pointer (some ⟨p, 0, none⟩) ∧ Blk w p 9 #[.string ⟨#[]⟩] ∧ B ≤ p
theorem StrNew.stb (B : Nat) : Stb (StrNew B) := fun _ _ _ hb ⟨g, e, h, hB⟩ => ⟨g, e, h.below hb h.lt, hB⟩

theorem enters_sameSk : ∀ args w, (callFunc 115 args).run Try.prog w = .ok (.enter 115 args) w := fun _ _ => by kernel_rfl

set_option maxRecDepth 100000 in
set_option maxHeartbeats 4000000 in
theorem nmErrSk (A : Option Addr) (n c : Nat) (ss : List Skl) (i : Nat) (w : World) (h : RdRow w A n 5 (ss.map skCells)) (hm : n ≤ maxLen) (hnm : ∀ s ∈ ss, s.name.size ≤ maxLen) (hcap : n ≤ c) (hi : i < n) :
    Calls Try.prog 89 #[.slice A n c, .int .i64 i, .func (.func 90) #[] #[]] w fun e w' => e = .returned (.int .i64 (nmErr (fun j => (ss[j]?.getD default).name) i)) ∧ Below w.heap.size w w' := by
  unfold maxLen at hm
  have hl : ss.length = n := by have := h.1; simpa using this
  have hc := hide (fun s W => skName s W)
  have hA := hide (fun W (hb : Below w.heap.size w W) => h.below hb)
  have hat := hide (fun k (hk : k < n) => map_at skCells ss k (by rw [hl]; exact hk))
  have hsz : (ss[i]?.getD default).name.size ≤ maxLen := by
    rw [List.getElem?_eq_getElem (by rw [hl]; exact hi)]; exact hnm _ (List.getElem_mem _)
  have hsm := hide (fun s pf W (hf : W.cell? ⟨w.heap.size, 0, none⟩ = some (.func (.func 90) #[] #[])) (hn : W.cell? ⟨pf, 0, none⟩ = some (.string (ss[i]?.getD default).name)) => sameSk s (ss[i]?.getD default).name w.heap.size pf W hf hn)
  obtain ⟨b, off, x0, x1, x2, x3, x4, rfl, hb, hx, c0, c1, c2, c3, c4⟩ := h.cells5 hi
  rw [hat.out i hi] at hx
  clear h hnm
  obtain ⟨r, hr⟩ : ∃ r, nmErr (fun j => (ss[j]?.getD default).name) i = r := ⟨_, rfl⟩
  rw [hr]
  unfold nmErr at hr
  replace hr := hide hr
  have hcf := hide (hc.out (ss[i]?.getD default))
  unfold skCells at hx
  rw [show (skCells (ss[i]?.getD default)).toArray = #[.string (ss[i]?.getD default).name, x1, x2, x3, x4] by unfold skCells; simp only [List.cons.injEq] at hx; obtain ⟨_, h1, h2, h3, h4, _⟩ := hx; rw [h1, h2, h3, h4]] at hcf
  simp only [List.cons.injEq, and_true] at hx
  obtain ⟨rfl, rfl, rfl, rfl, rfl⟩ := hx
  generalize hnmE : (ss[i]?.getD default).name = nm at *
  generalize (ss[i]?.getD default).gl = v1 at *
  generalize (ss[i]?.getD default).gh = v2 at *
  generalize (ss[i]?.getD default).fl = v3 at *
  generalize (ss[i]?.getD default).fh = v4 at *
  replace hr := hide (show (if nameB nm = false then (6 : Int) else if anyIdx (fun j => eqS (ss[j]?.getD default).name nm) i = true then 5 else 0) = r by rw [← hnmE]; exact hr.out)
  clear hnmE
  replace hl := hide hl
  have hiz : (i : Int) < (n : Int) := by omega
  have hcz : (n : Int) ≤ (c : Int) := by omega
  have hB0 : Below w.heap.size w (w.alloc (.cells #[.func (.func 90) #[] #[]] 138)) := (Below.refl _ _).alloc (Nat.le_refl _) _
  have k0 : Blk (w.alloc (.cells #[.func (.func 90) #[] #[]] 138)) w.heap.size 138 #[.func (.func 90) #[] #[]] := blkNew rfl
  go_enter Try.func89, Try.ntmps89
  go_wp2
  refine region_grow_tail 7 [IsV (.func (.func 90) #[] #[]), IsV (.slice (some ⟨b, off, none⟩) n c), IsV (.int .i64 i), IsV (.pointer (some ⟨b, off + i * 5, none⟩)), IsV (.agg #[.string nm, .int .i64 v1, .int .i64 v2, .int .i64 v3, .int .i64 v4]), IsV (.string nm), StrNew (w.heap.size + 1)] (by kernel_rfl) (by kernel_rfl) rfl ?_ ?_ ?_
  · simp [AllStb, IsV.stb, StrNew.stb]
  · refine ⟨?_, ?_, ?_, ?_, ?_, ?_, ?_, trivial⟩
    all_goals
      intro y w1 K Q Cv hC hd hV
      have hz := hC.size
      have hz2 : w.heap.size + 1 ≤ w1.heap.size := by simpa using hz
      have f0 : w1.cell? ⟨w.heap.size, 0, none⟩ = some (.func (.func 90) #[] #[]) := (k0.below hC k0.lt).cell 0
      have hBw := hB0.trans (hC.mono (by simp))
      replace c0 := (cellB hBw hb).trans c0
      replace c1 := (cellB hBw hb).trans c1
      replace c2 := (cellB hBw hb).trans c2
      replace c3 := (cellB hBw hb).trans c3
      replace c4 := (cellB hBw hb).trans c4
      simp [deps, VL, IsV, Region.binds] at hd
    · simp only [List.take_succ_cons, List.take_zero, putAll, Act.put]; go_simp; intro hK; exact hK _ _ (hV _ _ hC (Below.refl _ _) rfl)
    · simp only [List.take_succ_cons, List.take_zero, putAll, Act.put]; go_simp; intro hK; exact hK _ _ (hV _ _ hC (Below.refl _ _) rfl)
    · simp only [List.take_succ_cons, List.take_zero, putAll, Act.put]; go_simp; intro hK; exact hK _ _ (hV _ _ hC (Below.refl _ _) rfl)
    · simp only [List.take_succ_cons, List.take_zero, putAll, Act.put]; go_simp; intro hK; exact hK _ _ (hV _ _ hC (Below.refl _ _) rfl)
    · simp only [List.take_succ_cons, List.take_zero, putAll, Act.put]; go_simp; intro hK; exact hK _ _ (hV _ _ hC (Below.refl _ _) rfl)
    · simp only [List.take_succ_cons, List.take_zero, putAll, Act.put]; go_simp; intro hK; refine (hcf.out _).mono ?_; rintro e w2 ⟨rfl, hb2⟩; exact hK _ _ (hV _ _ (hC.trans (hb2.mono hC.size)) hb2 rfl)
    · simp only [List.take_succ_cons, List.take_zero, putAll, Act.put]; go_simp; intro hK; exact hK _ _ (hV _ _ (hC.alloc hz _) ((Below.refl _ _).alloc (Nat.le_refl _) _) ⟨_, rfl, Blk.new _ _ _, hz2⟩)
  intro y w1 hC hd
  simp [EndsL, IsV] at hd
  obtain ⟨d0, d1, d2, d3, d4, d5, p, d6, hp, hpB⟩ := hd
  simp only [List.take_succ_cons, List.take_zero, List.drop_succ_cons, List.drop_zero, putAll, Act.put]
  rw [d0, d1, d2, d3, d4, d5, d6]
  clear d0 d1 d2 d3 d4 d5 d6 hcf c0 c1 c2 c3 c4
  simp only [List.setIfInBounds_toArray, List.set_cons_succ, List.set_cons_zero]
  have hB1 : Below w.heap.size w w1 := hB0.trans (hC.mono (by simp))
  have hF1 := (k0.below hC k0.lt).far (p := ⟨p, 0, none⟩) (by simp; omega) (.string nm)
  have hP1 := hp.set_ 0 (.string nm)
  have p0 : w1.cell? ⟨p, 0, none⟩ = some (.string ⟨#[]⟩) := hp.cell 0
  have q0 : w1.frozen? ⟨p, 0, none⟩ = false := hp.frozen 0
  have hB2 : Below w.heap.size w (w1.setCell ⟨p, 0, none⟩ (.string nm)) := hB1.setCell (by simp; omega) _
  clear hC k0 hB0
  replace hF1 := hide hF1
  replace hB1 := hide hB1
  replace hB2 := hide hB2
  replace hP1 := hide hP1
  replace hp := hide hp
  go_wp2_with fail
  have hpz : p < (w1.setCell ⟨p, 0, none⟩ (.string nm)).heap.size := hP1.out.lt
  generalize w1.setCell ⟨p, 0, none⟩ (.string nm) = w2 at *
  have hzp : w.heap.size < w2.heap.size := Nat.lt_of_lt_of_le (by omega) hpz
  refine (Name_any _ _ hsz).mono ?_
  rintro e w3 ⟨rfl, hb3⟩
  have hB3 := hide (hB2.out.trans (hb3.mono (by omega)))
  have f3 : w3.cell? ⟨w.heap.size, 0, none⟩ = some (.func (.func 90) #[] #[]) := (hF1.out.below hb3 hzp).cell 0
  have n3 : w3.cell? ⟨p, 0, none⟩ = some (.string nm) := (hP1.out.below hb3 hpz).cell 0
  have hz3 := hb3.size
  clear hb3 hB2 hF1 hP1 hp hB1 p0 q0
  cases hq : nameB nm with
  | false =>
    have hr := hr.out
    rw [hq, if_pos rfl] at hr
    subst hr
    clear f3 n3 hq
    go_wp2
    go_ret
    exact ⟨rfl, hB3.out⟩
  | true =>
    have hr1 := hr.out
    rw [hq, if_neg (by simp)] at hr1
    replace hr1 := hide hr1
    clear hr hq
    have hcon := hide ((ContainsFuncSk 115 #[.pointer (some ⟨w.heap.size, 0, none⟩), .pointer (some ⟨p, 0, none⟩)] enters_sameSk (fun j => eqS (ss[j]?.getD default).name nm) (some ⟨b, off, none⟩) i c ((ss.map skCells).take i) w3 ((hA.out _ hB3.out).take (by omega)) (by unfold maxLen; omega)
      (fun j W hj hb => by
        rw [show ((ss.map skCells).take i)[j]?.getD [] = skCells (ss[j]?.getD default) by rw [List.getElem?_take_of_lt hj]; exact hat.out j (by omega)]
        have := hsm.out (ss[j]?.getD default) p W ((cellB hb (by omega)).trans f3) ((cellB hb (by omega)).trans n3)
        simpa using this)))
    clear f3 n3 hsm hA hat
    go_wp2_with fail
    refine hcon.out.mono ?_
    rintro e w4 ⟨rfl, hb4⟩
    have hB4 := hide (hB3.out.trans (hb4.mono (by omega)))
    clear hcon hb4 hB3
    cases hq : anyIdx (fun j => eqS (ss[j]?.getD default).name nm) i with
    | true =>
      have hr := hr1.out
      rw [hq, if_pos rfl] at hr
      subst hr
      clear hq
      go_wp2
      go_ret
      exact ⟨rfl, hB4.out⟩
    | false =>
      have hr := hr1.out
      rw [hq, if_neg (by simp)] at hr
      subst hr
      clear hq
      go_wp2
      go_ret
      exact ⟨rfl, hB4.out⟩
theorem enters_sameIn : ∀ args w, (callFunc 117 args).run Try.prog w = .ok (.enter 117 args) w := fun _ _ => by kernel_rfl

set_option maxRecDepth 100000 in
set_option maxHeartbeats 4000000 in
theorem nmErrIn (A : Option Addr) (n c : Nat) (ss : List Ins) (i : Nat) (w : World) (h : RdRow w A n 3 (ss.map inCells)) (hm : n ≤ maxLen) (hnm : ∀ s ∈ ss, s.name.size ≤ maxLen) (hcap : n ≤ c) (hi : i < n) :
    Calls Try.prog 94 #[.slice A n c, .int .i64 i, .func (.func 95) #[] #[]] w fun e w' => e = .returned (.int .i64 (nmErr (fun j => (ss[j]?.getD default).name) i)) ∧ Below w.heap.size w w' := by
  unfold maxLen at hm
  have hl : ss.length = n := by have := h.1; simpa using this
  have hc := hide (fun s W => inName s W)
  have hA := hide (fun W (hb : Below w.heap.size w W) => h.below hb)
  have hat := hide (fun k (hk : k < n) => map_at inCells ss k (by rw [hl]; exact hk))
  have hsz : (ss[i]?.getD default).name.size ≤ maxLen := by
    rw [List.getElem?_eq_getElem (by rw [hl]; exact hi)]; exact hnm _ (List.getElem_mem _)
  have hsm := hide (fun s pf W (hf : W.cell? ⟨w.heap.size, 0, none⟩ = some (.func (.func 95) #[] #[])) (hn : W.cell? ⟨pf, 0, none⟩ = some (.string (ss[i]?.getD default).name)) => sameIn s (ss[i]?.getD default).name w.heap.size pf W hf hn)
  obtain ⟨b, off, x0, x1, x2, rfl, hb, hx, c0, c1, c2⟩ := h.cells3 hi
  rw [hat.out i hi] at hx
  clear h hnm
  obtain ⟨r, hr⟩ : ∃ r, nmErr (fun j => (ss[j]?.getD default).name) i = r := ⟨_, rfl⟩
  rw [hr]
  unfold nmErr at hr
  replace hr := hide hr
  have hcf := hide (hc.out (ss[i]?.getD default))
  unfold inCells at hx
  rw [show (inCells (ss[i]?.getD default)).toArray = #[.string (ss[i]?.getD default).name, x1, x2] by unfold inCells; simp only [List.cons.injEq] at hx; obtain ⟨_, h1, h2, _⟩ := hx; rw [h1, h2]] at hcf
  simp only [List.cons.injEq, and_true] at hx
  obtain ⟨rfl, rfl, rfl⟩ := hx
  generalize hnmE : (ss[i]?.getD default).name = nm at *
  generalize (ss[i]?.getD default).lo = v1 at *
  generalize (ss[i]?.getD default).hi = v2 at *
  replace hr := hide (show (if nameB nm = false then (6 : Int) else if anyIdx (fun j => eqS (ss[j]?.getD default).name nm) i = true then 5 else 0) = r by rw [← hnmE]; exact hr.out)
  clear hnmE
  replace hl := hide hl
  have hiz : (i : Int) < (n : Int) := by omega
  have hcz : (n : Int) ≤ (c : Int) := by omega
  have hB0 : Below w.heap.size w (w.alloc (.cells #[.func (.func 95) #[] #[]] 142)) := (Below.refl _ _).alloc (Nat.le_refl _) _
  have k0 : Blk (w.alloc (.cells #[.func (.func 95) #[] #[]] 142)) w.heap.size 142 #[.func (.func 95) #[] #[]] := blkNew rfl
  go_enter Try.func94, Try.ntmps94
  go_wp2
  refine region_grow_tail 7 [IsV (.func (.func 95) #[] #[]), IsV (.slice (some ⟨b, off, none⟩) n c), IsV (.int .i64 i), IsV (.pointer (some ⟨b, off + i * 3, none⟩)), IsV (.agg #[.string nm, .int .i64 v1, .int .i64 v2]), IsV (.string nm), StrNew (w.heap.size + 1)] (by kernel_rfl) (by kernel_rfl) rfl ?_ ?_ ?_
  · simp [AllStb, IsV.stb, StrNew.stb]
  · refine ⟨?_, ?_, ?_, ?_, ?_, ?_, ?_, trivial⟩
    all_goals
      intro y w1 K Q Cv hC hd hV
      have hz := hC.size
      have hz2 : w.heap.size + 1 ≤ w1.heap.size := by simpa using hz
      have f0 : w1.cell? ⟨w.heap.size, 0, none⟩ = some (.func (.func 95) #[] #[]) := (k0.below hC k0.lt).cell 0
      have hBw := hB0.trans (hC.mono (by simp))
      replace c0 := (cellB hBw hb).trans c0
      replace c1 := (cellB hBw hb).trans c1
      replace c2 := (cellB hBw hb).trans c2
      simp [deps, VL, IsV, Region.binds] at hd
    · simp only [List.take_succ_cons, List.take_zero, putAll, Act.put]; go_simp; intro hK; exact hK _ _ (hV _ _ hC (Below.refl _ _) rfl)
    · simp only [List.take_succ_cons, List.take_zero, putAll, Act.put]; go_simp; intro hK; exact hK _ _ (hV _ _ hC (Below.refl _ _) rfl)
    · simp only [List.take_succ_cons, List.take_zero, putAll, Act.put]; go_simp; intro hK; exact hK _ _ (hV _ _ hC (Below.refl _ _) rfl)
    · simp only [List.take_succ_cons, List.take_zero, putAll, Act.put]; go_simp; intro hK; exact hK _ _ (hV _ _ hC (Below.refl _ _) rfl)
    · simp only [List.take_succ_cons, List.take_zero, putAll, Act.put]; go_simp; intro hK; exact hK _ _ (hV _ _ hC (Below.refl _ _) rfl)
    · simp only [List.take_succ_cons, List.take_zero, putAll, Act.put]; go_simp; intro hK; refine (hcf.out _).mono ?_; rintro e w2 ⟨rfl, hb2⟩; exact hK _ _ (hV _ _ (hC.trans (hb2.mono hC.size)) hb2 rfl)
    · simp only [List.take_succ_cons, List.take_zero, putAll, Act.put]; go_simp; intro hK; exact hK _ _ (hV _ _ (hC.alloc hz _) ((Below.refl _ _).alloc (Nat.le_refl _) _) ⟨_, rfl, Blk.new _ _ _, hz2⟩)
  intro y w1 hC hd
  simp [EndsL, IsV] at hd
  obtain ⟨d0, d1, d2, d3, d4, d5, p, d6, hp, hpB⟩ := hd
  simp only [List.take_succ_cons, List.take_zero, List.drop_succ_cons, List.drop_zero, putAll, Act.put]
  rw [d0, d1, d2, d3, d4, d5, d6]
  clear d0 d1 d2 d3 d4 d5 d6 hcf c0 c1 c2
  simp only [List.setIfInBounds_toArray, List.set_cons_succ, List.set_cons_zero]
  have hB1 : Below w.heap.size w w1 := hB0.trans (hC.mono (by simp))
  have hF1 := (k0.below hC k0.lt).far (p := ⟨p, 0, none⟩) (by simp; omega) (.string nm)
  have hP1 := hp.set_ 0 (.string nm)
  have p0 : w1.cell? ⟨p, 0, none⟩ = some (.string ⟨#[]⟩) := hp.cell 0
  have q0 : w1.frozen? ⟨p, 0, none⟩ = false := hp.frozen 0
  have hB2 : Below w.heap.size w (w1.setCell ⟨p, 0, none⟩ (.string nm)) := hB1.setCell (by simp; omega) _
  clear hC k0 hB0
  replace hF1 := hide hF1
  replace hB1 := hide hB1
  replace hB2 := hide hB2
  replace hP1 := hide hP1
  replace hp := hide hp
  go_wp2_with fail
  have hpz : p < (w1.setCell ⟨p, 0, none⟩ (.string nm)).heap.size := hP1.out.lt
  generalize w1.setCell ⟨p, 0, none⟩ (.string nm) = w2 at *
  have hzp : w.heap.size < w2.heap.size := Nat.lt_of_lt_of_le (by omega) hpz
  refine (Name_any _ _ hsz).mono ?_
  rintro e w3 ⟨rfl, hb3⟩
  have hB3 := hide (hB2.out.trans (hb3.mono (by omega)))
  have f3 : w3.cell? ⟨w.heap.size, 0, none⟩ = some (.func (.func 95) #[] #[]) := (hF1.out.below hb3 hzp).cell 0
  have n3 : w3.cell? ⟨p, 0, none⟩ = some (.string nm) := (hP1.out.below hb3 hpz).cell 0
  have hz3 := hb3.size
  clear hb3 hB2 hF1 hP1 hp hB1 p0 q0
  cases hq : nameB nm with
  | false =>
    have hr := hr.out
    rw [hq, if_pos rfl] at hr
    subst hr
    clear f3 n3 hq
    go_wp2
    go_ret
    exact ⟨rfl, hB3.out⟩
  | true =>
    have hr1 := hr.out
    rw [hq, if_neg (by simp)] at hr1
    replace hr1 := hide hr1
    clear hr hq
    have hcon := hide ((ContainsFuncIn 117 #[.pointer (some ⟨w.heap.size, 0, none⟩), .pointer (some ⟨p, 0, none⟩)] enters_sameIn (fun j => eqS (ss[j]?.getD default).name nm) (some ⟨b, off, none⟩) i c ((ss.map inCells).take i) w3 ((hA.out _ hB3.out).take (by omega)) (by unfold maxLen; omega)
      (fun j W hj hb => by
        rw [show ((ss.map inCells).take i)[j]?.getD [] = inCells (ss[j]?.getD default) by rw [List.getElem?_take_of_lt hj]; exact hat.out j (by omega)]
        have := hsm.out (ss[j]?.getD default) p W ((cellB hb (by omega)).trans f3) ((cellB hb (by omega)).trans n3)
        simpa using this)))
    clear f3 n3 hsm hA hat
    go_wp2_with fail
    refine hcon.out.mono ?_
    rintro e w4 ⟨rfl, hb4⟩
    have hB4 := hide (hB3.out.trans (hb4.mono (by omega)))
    clear hcon hb4 hB3
    cases hq : anyIdx (fun j => eqS (ss[j]?.getD default).name nm) i with
    | true =>
      have hr := hr1.out
      rw [hq, if_pos rfl] at hr
      subst hr
      clear hq
      go_wp2
      go_ret
      exact ⟨rfl, hB4.out⟩
    | false =>
      have hr := hr1.out
      rw [hq, if_neg (by simp)] at hr
      subst hr
      clear hq
      go_wp2
      go_ret
      exact ⟨rfl, hB4.out⟩
end Go.Proofs.Ytkhijdbigpaagaa
