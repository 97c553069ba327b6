import Derived.Test.YtkhijdbigpaagaaNd
import Derived.Maps.AppendAt
/-
  Chance of package skill.
-/
namespace Go.Proofs.Ytkhijdbigpaagaa
open Go.RowKit RG

theorem test_ok {S : Sch} {ts : List (Int × Int)} {al : Int} (h : testE S ts al = 0) :
    (checkS S).2.2 = 0 ∧ 1 ≤ ts.length ∧ ts.length ≤ 6 ∧ 0 ≤ al ∧ al < (ts.length : Int) ∧ ∀ i, i < ts.length → ∃ s l : Nat, ts[i]?.getD (0, 0) = ((s : Int), (l : Int)) ∧ s < S.sks.length ∧ l ≤ 1000 := by
  unfold testE at h
  split at h
  · rename_i h0
    split at h
    · rename_i h1
      split at h
      · rename_i h2
        have h1 := inB_iff.1 h1
        have h2 := inB_iff.1 h2
        refine ⟨h0, by omega, by omega, by omega, by omega, fun i hi => ?_⟩
        have h3 := firstErr_zero h i (Nat.zero_le _) (by omega)
        unfold taskE at h3
        split at h3
        · rename_i h4
          split at h3
          · rename_i h5
            have h4 := inB_iff.1 h4
            have h5 := inB_iff.1 h5
            refine ⟨(ts[i]?.getD (0, 0)).1.toNat, (ts[i]?.getD (0, 0)).2.toNat, ?_, by omega, by omega⟩
            rw [Int.toNat_of_nonneg h4.1, Int.toNat_of_nonneg h5.1]
          · simp at h3
        · simp at h3
      · simp at h
    · simp at h
  · contradiction

/-- What Chance answers. -/
def chanceF (S : Sch) (ts : List (Int × Int)) (al : Int) (ls : List Int) : Int × Int :=
  if testE S ts al = 0 then (if ls.length = S.sks.length then (if ls.all (inB 0 1000) = true then (fk (ts.map (doneT ls)) al.toNat, 0) else (0, 7)) else (0, 3)) else (0, testE S ts al)

set_option maxRecDepth 100000 in
set_option maxHeartbeats 2000000 in
theorem Chance_any (v : Value) (S : Sch) (B L : Option Addr) (m cb k cl : Nat) (ts : List (Int × Int)) (al : Int) (ls : List Int) (w : World) (h : RdSch w v S) (ht : RdRow w B m 2 (ts.map tkCells)) (hm : m ≤ maxLen)
    (hls : RdInts w L k ls) (hk : k ≤ maxLen) :
    Calls Try.prog 30 #[v, .agg #[.slice B m cb, .int .i64 al], .slice L k cl] w fun e w' => e = .returned (.tuple #[.int .i64 (chanceF S ts al ls).1, .int .i64 (chanceF S ts al ls).2]) ∧ Below w.heap.size w w' := by
  have hl : ts.length = m := by have := ht.1; simpa using this
  have hkl : ls.length = k := hls.1
  have hT := hide (fun W (hb : Below w.heap.size w W) => testError_any v S B m cb ts al W (h.below hb) (ht.below hb) hm)
  have hW := hide (fun W (hb : Below w.heap.size w W) => within_any 0 1000 L k cl ls W (hls.below hb) hk)
  have hC := hide (fun (h0 : testE S ts al = 0) (hks : k = S.sks.length) (hal : ls.all (inB 0 1000) = true) W (hb : Below w.heap.size w W) => show Calls Try.prog 76 #[.agg #[.slice B m cb, .int .i64 al], .slice L k cl] W fun e w' => e = .returned (.int .i64 (fk (ts.map (doneT ls)) al.toNat)) ∧ Below W.heap.size W w' by
    obtain ⟨_, h1, h2, h3, h4, h5⟩ := test_ok h0
    have hle : ∀ j, j < k → 0 ≤ ls[j]?.getD 0 ∧ ls[j]?.getD 0 ≤ 1000 := fun j hj => by
      rw [List.getElem?_eq_getElem (by omega)]
      exact inB_iff.1 (List.all_eq_true.1 hal _ (List.getElem_mem (by omega)))
    have := chanceAt_any B L m cb k cl al.toNat ts ls W (by omega) (by omega) (ht.below hb) (hls.below hb) hk (fun i hi => by
      have := h5 i (by omega); rwa [← hks] at this) hle
    rwa [Int.toNat_of_nonneg h3] at this)
  obtain ⟨r, hr⟩ : ∃ r, chanceF S ts al ls = r := ⟨_, rfl⟩
  rw [hr]
  unfold chanceF at hr
  rw [hkl] at hr
  generalize fk (ts.map (doneT ls)) al.toNat = fq at *
  generalize testE S ts al = q at *
  obtain ⟨A, c, A2, c2, rfl, -, h3, -⟩ := h
  generalize S.sks.length = n at *
  generalize S.ins.length = n2 at *
  unfold maxLen at hk h3
  clear ht hls hm
  replace hl := hide hl
  replace hkl := hide hkl
  generalize hlq : ls.all (inB 0 1000) = lq at *
  clear hlq
  have hB0 := hide (show Below w.heap.size w ((w.alloc (.cells #[.slice A n c, .slice A2 n2 c2] 25)).alloc (.cells #[.slice B m cb, .int .i64 al] 48)) from ((Below.refl _ _).alloc (Nat.le_refl _) _).alloc (by simp) _)
  have k0 := hide (show Blk ((w.alloc (.cells #[.slice A n c, .slice A2 n2 c2] 25)).alloc (.cells #[.slice B m cb, .int .i64 al] 48)) w.heap.size 25 #[.slice A n c, .slice A2 n2 c2] from (blkNew rfl).alloc _)
  have k1 := hide (show Blk ((w.alloc (.cells #[.slice A n c, .slice A2 n2 c2] 25)).alloc (.cells #[.slice B m cb, .int .i64 al] 48)) (w.heap.size + 1) 48 #[.slice B m cb, .int .i64 al] from blkNew (by simp))
  by_cases h2 : q = 0
  · subst h2
    rw [if_pos rfl] at hr
    by_cases hkn : k = n
    · subst hkn
      rw [if_pos rfl] at hr
      replace hr := hide hr
      go_enter Try.func30, Try.ntmps30
      go_wp2_with fail
      refine (hT.out _ hB0.out).mono ?_
      rintro e w1 ⟨rfl, hb1⟩
      have hB1 := hide (hB0.out.trans (hb1.mono (by simp +arith)))
      have k2 := hide (k0.out.below hb1 k0.out.lt)
      have k3 := hide (k1.out.below hb1 k1.out.lt)
      have x0 : w1.cell? ⟨w.heap.size, 0, none⟩ = some (.slice A k c) := k2.out.cell 0
      have y0 : w1.cell? ⟨w.heap.size + 1, 0, none⟩ = some (.slice B m cb) := k3.out.cell 0
      have y1 : w1.cell? ⟨w.heap.size + 1, 1, none⟩ = some (.int .i64 al) := k3.out.cell 1
      clear hb1 hB0 k0 k1 hT
      go_wp2_with fail
      refine (hW.out _ hB1.out).mono ?_
      rintro e w3 ⟨rfl, rfl⟩
      cases lq with
      | false =>
        have hr1 := hr.out
        rw [if_neg (by simp)] at hr1
        subst hr1
        go_wp2
        go_ret2
        exact ⟨rfl, hB1.out⟩
      | true =>
        have hr1 := hr.out
        rw [if_pos rfl] at hr1
        subst hr1
        have hC1 := hide (hC.out trivial trivial rfl)
        clear hr hC
        go_wp2_with fail
        refine (hC1.out _ hB1.out).mono ?_
        rintro e w4 ⟨rfl, hb4⟩
        have hB4 := hide (hB1.out.trans (hb4.mono hB1.out.size))
        clear hb4 hC1 x0 y0 y1
        go_wp2
        go_ret2
        exact ⟨rfl, hB4.out⟩
    · rw [if_neg hkn] at hr
      subst hr
      have e1 : ((k : Int) == (n : Int)) = false := by rw [beq_eq_false_iff_ne]; omega
      have e2 : ((k : Int) != (n : Int)) = true := by rw [bne_iff_ne]; omega
      clear hC
      go_enter Try.func30, Try.ntmps30
      go_wp2_with fail
      refine (hT.out _ hB0.out).mono ?_
      rintro e w1 ⟨rfl, hb1⟩
      have hB1 := hide (hB0.out.trans (hb1.mono (by simp +arith)))
      have k2 := hide (k0.out.below hb1 k0.out.lt)
      have x0 : w1.cell? ⟨w.heap.size, 0, none⟩ = some (.slice A n c) := k2.out.cell 0
      clear hb1 hB0 k0 k1 hT
      go_wp2
      go_ret2
      exact ⟨rfl, hB1.out⟩
  · rw [if_neg h2] at hr
    subst hr
    have hb1 : (q == 0) = false := by rw [beq_eq_false_iff_ne]; exact h2
    have hb2 : (q != 0) = true := by rw [bne_iff_ne]; exact h2
    clear hC
    replace h2 := hide h2
    go_enter Try.func30, Try.ntmps30
    go_wp2_with fail
    refine (hT.out _ hB0.out).mono ?_
    rintro e w1 ⟨rfl, hb1'⟩
    have hB1 := hide (hB0.out.trans (hb1'.mono (by simp +arith)))
    clear hb1' hB0 k0 k1 hT
    go_wp2
    go_ret2
    exact ⟨rfl, hB1.out⟩
end Go.Proofs.Ytkhijdbigpaagaa

/-
  readyError of package skill.
-/
namespace Go.Proofs.Ytkhijdbigpaagaa
open Go.RowKit RG

/-- What readyError answers. -/
def readyE (S : Sch) (ts : List (Int × Int)) (al : Int) (rs : List Sp) (ch : Int) : Int :=
  if testE S ts al = 0 then (if rangesE S.sks.length rs = 0 then (if inB 0 1000 ch = true then 0 else 7) else rangesE S.sks.length rs) else testE S ts al

set_option maxRecDepth 100000 in
set_option maxHeartbeats 2000000 in
theorem readyError_any (v : Value) (S : Sch) (B L : Option Addr) (m cb k cl : Nat) (ts : List (Int × Int)) (al : Int) (rs : List Sp) (ch : Int) (w : World) (h : RdSch w v S) (ht : RdRow w B m 2 (ts.map tkCells)) (hm : m ≤ maxLen)
    (hls : RdRow w L k 2 (rs.map tkCells)) (hk : k ≤ maxLen) :
    Calls Try.prog 79 #[v, .agg #[.slice B m cb, .int .i64 al], .slice L k cl, .int .i64 ch] w fun e w' => e = .returned (.int .i64 (readyE S ts al rs ch)) ∧ Below w.heap.size w w' := by
  have hT := hide (fun W (hb : Below w.heap.size w W) => testError_any v S B m cb ts al W (h.below hb) (ht.below hb) hm)
  obtain ⟨A, c, A2, c2, rfl, -, h3, -⟩ := h
  have hG := hide (fun W (hb : Below w.heap.size w W) => rangesError_any A A2 L S.sks.length c S.ins.length c2 k cl rs W h3 (hls.below hb) hk)
  obtain ⟨r, hr⟩ : ∃ r, readyE S ts al rs ch = r := ⟨_, rfl⟩
  rw [hr]
  unfold readyE at hr
  generalize testE S ts al = q at *
  generalize rangesE S.sks.length rs = g at *
  generalize S.sks.length = n at *
  generalize S.ins.length = n2 at *
  clear ht hls hm hk h3
  have hB0 := hide (show Below w.heap.size w ((w.alloc (.cells #[.slice A n c, .slice A2 n2 c2] 25)).alloc (.cells #[.slice B m cb, .int .i64 al] 48)) from ((Below.refl _ _).alloc (Nat.le_refl _) _).alloc (by simp) _)
  have k0 := hide (show Blk ((w.alloc (.cells #[.slice A n c, .slice A2 n2 c2] 25)).alloc (.cells #[.slice B m cb, .int .i64 al] 48)) w.heap.size 25 #[.slice A n c, .slice A2 n2 c2] from (blkNew rfl).alloc _)
  by_cases h2 : q = 0
  · subst h2
    rw [if_pos rfl] at hr
    by_cases hg : g = 0
    · subst hg
      rw [if_pos rfl] at hr
      replace hr := hide hr
      go_enter Try.func79, Try.ntmps79
      go_wp2_with fail
      refine (hT.out _ hB0.out).mono ?_
      rintro e w1 ⟨rfl, hb1⟩
      have hB1 := hide (hB0.out.trans (hb1.mono (by simp +arith)))
      have k2 := hide (k0.out.below hb1 k0.out.lt)
      have x0 : w1.cell? ⟨w.heap.size, 0, none⟩ = some (.slice A n c) := k2.out.cell 0
      have x1 : w1.cell? ⟨w.heap.size, 1, none⟩ = some (.slice A2 n2 c2) := k2.out.cell 1
      clear hb1 hB0 k0 hT
      go_wp2_with fail
      refine (hG.out _ hB1.out).mono ?_
      rintro e w3 ⟨rfl, hb3⟩
      have hB3 := hide (hB1.out.trans (hb3.mono hB1.out.size))
      clear hb3 hG x0 x1 hB1
      go_wp2_with fail
      refine (within_one _ _ ch _ _ _ _ (by go_simp)).mono ?_
      rintro e w4 ⟨rfl, rfl⟩
      have hB4 := hide (hB3.out.alloc hB3.out.size (.cells #[.int .i64 ch] 3))
      cases hq : inB 0 1000 ch with
      | false =>
        have hr1 := hr.out
        rw [hq, if_neg (by simp)] at hr1
        subst hr1
        clear hq
        go_wp2
        go_ret
        exact ⟨rfl, hB4.out⟩
      | true =>
        have hr1 := hr.out
        rw [hq, if_pos rfl] at hr1
        subst hr1
        clear hq
        go_wp2
        go_ret
        exact ⟨rfl, hB4.out⟩
    · rw [if_neg hg] at hr
      subst hr
      have hb1 : (g == 0) = false := by rw [beq_eq_false_iff_ne]; exact hg
      have hb2 : (g != 0) = true := by rw [bne_iff_ne]; exact hg
      replace hg := hide hg
      go_enter Try.func79, Try.ntmps79
      go_wp2_with fail
      refine (hT.out _ hB0.out).mono ?_
      rintro e w1 ⟨rfl, hb1'⟩
      have hB1 := hide (hB0.out.trans (hb1'.mono (by simp +arith)))
      have k2 := hide (k0.out.below hb1' k0.out.lt)
      have x0 : w1.cell? ⟨w.heap.size, 0, none⟩ = some (.slice A n c) := k2.out.cell 0
      have x1 : w1.cell? ⟨w.heap.size, 1, none⟩ = some (.slice A2 n2 c2) := k2.out.cell 1
      clear hb1' hB0 k0 hT
      go_wp2_with fail
      refine (hG.out _ hB1.out).mono ?_
      rintro e w3 ⟨rfl, hb3⟩
      have hB3 := hide (hB1.out.trans (hb3.mono hB1.out.size))
      clear hb3 hG x0 x1 hB1
      go_wp2
      go_ret
      exact ⟨rfl, hB3.out⟩
  · rw [if_neg h2] at hr
    subst hr
    have hb1 : (q == 0) = false := by rw [beq_eq_false_iff_ne]; exact h2
    have hb2 : (q != 0) = true := by rw [bne_iff_ne]; exact h2
    replace h2 := hide h2
    clear hG
    go_enter Try.func79, Try.ntmps79
    go_wp2_with fail
    refine (hT.out _ hB0.out).mono ?_
    rintro e w1 ⟨rfl, hb1'⟩
    have hB1 := hide (hB0.out.trans (hb1'.mono (by simp +arith)))
    clear hb1' hB0 k0 hT
    go_wp2
    go_ret
    exact ⟨rfl, hB1.out⟩
end Go.Proofs.Ytkhijdbigpaagaa

/-
  Events in memory; lastWeek of package skill.
-/
namespace Go.Proofs.Ytkhijdbigpaagaa
open Go.RowKit RG

structure Ev where
  a : Int
  b : Int
  c : Int
  d : Int
  e : Int
instance : Inhabited Ev := ⟨⟨0, 0, 0, 0, 0⟩⟩
def evCells (s : Ev) : List Value := [.int .i64 s.a, .int .i64 s.b, .int .i64 s.c, .int .i64 s.d, .int .i64 s.e]
/-- The first number of the last one of events, 0 of none. -/
def lastW (es : List Ev) : Int := if es.length = 0 then 0 else (es[es.length - 1]?.getD default).a

set_option maxHeartbeats 1000000 in
theorem lastWeek_any (B : Option Addr) (m cb : Nat) (es : List Ev) (w : World) (h : RdRow w B m 5 (es.map evCells)) (hm : m ≤ maxLen) :
    Calls Try.prog 67 #[.slice B m cb] w fun e w' => e = .returned (.int .i64 (lastW es)) ∧ w = w' := by
  have hl : es.length = m := by have := h.1; simpa using this
  obtain ⟨r, hr⟩ : ∃ r, lastW es = r := ⟨_, rfl⟩
  rw [hr]
  unfold lastW at hr
  rw [hl] at hr
  unfold maxLen at hm
  by_cases h0 : m = 0
  · subst h0
    rw [if_pos rfl] at hr
    subst hr
    clear h
    replace hl := hide hl
    go_enter Try.func67, Try.ntmps67
    go_wp2
    go_ret
    exact ⟨rfl, rfl⟩
  · rw [if_neg h0] at hr
    obtain ⟨p, rfl⟩ : ∃ p, m = p + 1 := ⟨m - 1, by omega⟩
    rw [Nat.add_sub_cancel] at hr
    have hat := map_at evCells es p (by omega)
    obtain ⟨b, off, x0, x1, x2, x3, x4, rfl, hb, hx, c0, c1, c2, c3, c4⟩ := h.cells5 (show p < p + 1 by omega)
    rw [hat] at hx
    unfold evCells at hx
    simp only [List.cons.injEq, and_true] at hx
    obtain ⟨rfl, rfl, rfl, rfl, rfl⟩ := hx
    rw [hr] at c0
    clear h hat hr c1 c2 c3 c4
    replace hl := hide hl
    have e1 : (((p + 1 : Nat) : Int) == 0) = false := by rw [beq_eq_false_iff_ne]; omega
    have wm : IntKind.i64.wrap (((p + 1 : Nat) : Int) - 1) = (p : Int) := by rw [IntKind.wrap_i64]; omega
    have l1 : (0 : Int) ≤ (p : Int) := by omega
    have l2 : (p : Int) < ((p + 1 : Nat) : Int) := by omega
    go_enter Try.func67, Try.ntmps67
    go_wp2
    go_ret
    exact ⟨rfl, rfl⟩
end Go.Proofs.Ytkhijdbigpaagaa

/-
  Lists of ints that a call makes; two of them beside each other.
-/
namespace Go.Proofs.Ytkhijdbigpaagaa
open Go.RowKit RG

theorem info_parts {t : TypeId} {z : Value} {k b : Nat} (h : (Try.prog.info? t).map (fun i => (i.zero, i.size, i.bytes)) = some (some z, k, b)) : ∃ i, Try.prog.info? t = some i ∧ i.zero = some z ∧ i.size = k ∧ i.bytes = b := by
  cases hi : Try.prog.info? t with
  | none => rw [hi] at h; cases h
  | some i =>
    rw [hi] at h
    simp only [Option.map_some, Option.some.injEq, Prod.mk.injEq] at h
    exact ⟨i, rfl, h.1, h.2.1, h.2.2⟩
theorem infoInt : (Try.prog.info? 3).map (fun i => (i.zero, i.size, i.bytes)) = some (some (.int .i64 0), 1, 8) := by kernel_rfl
theorem cell_one_new' {g : Nat} {w : World} (hg : g = w.heap.size) (x : Value) (t : TypeId) : ∀ j u, [x][j]? = some u → (w.alloc (.cells #[x] t)).cell? ((⟨g, 0, none⟩ : Addr).add j) = some u := by subst hg; exact cell_one_new w x t
theorem own_below {w w' : World} {base : Nat} {e : TypeId} {size : Nat} {v : Value} {n : Nat} {xs : List Value} (h : w.ownsRow base e size v n xs) (hb : Below w.heap.size w w') : w'.ownsRow base e size v n xs :=
  h.kept (row := none) ⟨hb.os, hb.tape, hb.output, hb.size, fun i hi _ => hb.block i hi⟩ (by cases hv : v.ownBlock <;> simp)
/-- A slice value that holds the ints xs. -/
def IsInts (xs : List Int) : Value → World → Prop := fun v w => ∃ A c, v = .slice A xs.length c ∧ RdInts w A xs.length xs ∧ xs.length ≤ c
theorem isInts_of_own {w : World} {base : Nat} {v : Value} {xs : List Int} (h : w.ownsRow base 3 1 v xs.length (xs.map (Value.int .i64))) : IsInts xs v w := by
  rcases h.2 with ⟨rfl, h0⟩ | ⟨g, cap, cur, rfl, _, hg, hc, _, hs, ht⟩
  · obtain rfl : xs = [] := List.eq_nil_of_length_eq_zero h0
    exact ⟨none, 0, rfl, rdInts_nil _ _, Nat.le_refl _⟩
  · refine ⟨_, cap, rfl, ⟨rfl, fun hn => ⟨g, 0, rfl, ?_, fun j hj => ?_⟩⟩, hc⟩
    · rcases Nat.lt_or_ge g w.heap.size with h' | h'
      · exact h'
      · rw [Array.getElem?_eq_none h'] at hg; cases hg
    · have h1 : w.cell? ⟨g, 0 + j, none⟩ = cur[j]? := by rw [Nat.zero_add]; exact cell_of_row w g j cur _ (0, 0) hg
      rw [h1]
      have h2 : (cur.toList.take (xs.length * 1))[j]? = some (.int .i64 (xs[j]?.getD 0)) := by rw [ht]; simp [hj]
      rw [List.getElem?_take_of_lt (by omega)] at h2
      simpa using h2
theorem IsInts.stb (xs : List Int) : Stb (IsInts xs) := fun _ _ _ hb ⟨A, c, e, h, hc⟩ => ⟨A, c, e, h.below hb, hc⟩
/-- Two own lists do not lie in one block. -/
def Apart (v u : Value) : Prop := (u.ownBlock = none ∨ u.ownBlock ≠ v.ownBlock) ∧ (v.ownBlock = none ∨ v.ownBlock ≠ u.ownBlock)
theorem Apart.symm {v u : Value} (h : Apart v u) : Apart u v := ⟨h.2, h.1⟩
theorem Apart.nil : Apart (.slice none 0 0) (.slice none 0 0) := ⟨.inl rfl, .inl rfl⟩
/-- v has grown to v', in its own block or in a new one. -/
theorem Apart.grown {v v' u : Value} {w : World} {base : Nat} {e : TypeId} {size n : Nat} {xs : List Value} (h : Apart v u) (ha : v'.ownBlock = v.ownBlock ∨ v'.ownBlock = some w.heap.size) (hu : w.ownsRow base e size u n xs) : Apart v' u := by
  rcases ha with ha | ha
  · unfold Apart; rw [ha]; exact h
  · unfold Apart
    rw [ha]
    have hne : u.ownBlock ≠ some w.heap.size := fun e => by
      have := (hu.lt _ e).2
      omega
    exact ⟨.inr hne, .inr (fun e => hne e.symm)⟩
end Go.Proofs.Ytkhijdbigpaagaa

/-
  Ready of package skill.
-/
namespace Go.Proofs.Ytkhijdbigpaagaa
open Go.RowKit RG

theorem ranges_ok {n : Nat} {rs : List Sp} (h : rangesE n rs = 0) : rs.length = n ∧ ∀ i, i < rs.length → 0 ≤ (rs[i]?.getD (0, 0)).1 ∧ (rs[i]?.getD (0, 0)).1 ≤ (rs[i]?.getD (0, 0)).2 ∧ (rs[i]?.getD (0, 0)).2 ≤ 1000 := by
  unfold rangesE at h
  split at h
  · simp at h
  · rename_i h0
    refine ⟨by simpa using h0, fun i hi => ?_⟩
    have h1 := firstErr_zero h i (Nat.zero_le _) (by omega)
    unfold spanE at h1
    split at h1
    · split at h1
      · rename_i h4 h5
        simp only [List.all_cons, List.all_nil, Bool.and_true, Bool.and_eq_true, decide_eq_true_eq] at h4 h5
        have a := inB_iff.1 h4.1
        have b := inB_iff.1 h4.2
        exact ⟨a.1, h5, b.2⟩
      · simp at h1
    · simp at h1
theorem ready_ok {S : Sch} {ts : List (Int × Int)} {al : Int} {rs : List Sp} {ch : Int} (h : readyE S ts al rs ch = 0) : testE S ts al = 0 ∧ rangesE S.sks.length rs = 0 ∧ 0 ≤ ch ∧ ch ≤ 1000 := by
  unfold readyE at h
  split at h
  · rename_i h0
    split at h
    · rename_i h1
      split at h
      · rename_i h2
        exact ⟨h0, h1, (inB_iff.1 h2).1, (inB_iff.1 h2).2⟩
      · simp at h
    · contradiction
  · contradiction
/-- The chance at some levels. -/
def atL (ts : List (Int × Int)) (al : Int) (ls : List Int) : Int := fk (ts.map (doneT ls)) al.toNat
/-- What Ready answers. -/
def readyF (S : Sch) (ts : List (Int × Int)) (al : Int) (rs : List Sp) (ch : Int) : Bool × Int × Int × Int :=
  if readyE S ts al rs ch = 0 then (decide (ch * 1000 ^ (ts.length - 1) ≤ atL ts al (rs.map (·.1))), atL ts al (rs.map (·.1)), atL ts al (rs.map (·.2)), 0) else (false, 0, 0, readyE S ts al rs ch)
theorem check_ok {S : Sch} (h : (checkS S).2.2 = 0) : 1 ≤ S.sks.length ∧ S.sks.length ≤ 5 ∧ S.ins.length ≤ 6 ∧ (∀ i, i < S.sks.length → skErr S.sks i (S.sks[i]?.getD default) = 0) ∧ ∀ i, i < S.ins.length → inErr S.ins i (S.ins[i]?.getD default) = 0 := by
  unfold checkS at h
  split at h
  · simp at h
  · rename_i h1
    split at h
    · rename_i h3; exact absurd h h3
    · rename_i h3
      split at h
      · rename_i h4; exact absurd h h4
      · rename_i h4
        exact ⟨by omega, by omega, by omega, fun i hi => firstErr_zero (by simpa using h3) i (Nat.zero_le _) (by omega), fun i hi => firstErr_zero (by simpa using h4) i (Nat.zero_le _) (by omega)⟩
theorem mapTake (f : Sp → Int) (rs : List Sp) (j : Nat) (hj : j < rs.length) : ((rs.take (j + 1)).map f).map (Value.int .i64) = ((rs.take j).map f).map (Value.int .i64) ++ [.int .i64 (f (rs[j]?.getD (0, 0)))] := by
  rw [List.take_succ_eq_append_getElem hj, List.getElem?_eq_getElem hj, List.map_append, List.map_append]
  rfl

set_option maxRecDepth 100000 in
set_option maxHeartbeats 4000000 in
theorem Ready_any (v : Value) (S : Sch) (B L : Option Addr) (m cb k cl : Nat) (ts : List (Int × Int)) (al : Int) (rs : List Sp) (ch : Int) (w : World) (h : RdSch w v S) (ht : RdRow w B m 2 (ts.map tkCells)) (hm : m ≤ maxLen)
    (hls : RdRow w L k 2 (rs.map tkCells)) (hk : k ≤ maxLen) :
    Calls Try.prog 32 #[v, .agg #[.slice B m cb, .int .i64 al], .slice L k cl, .int .i64 ch] w fun e w' =>
      e = .returned (.tuple #[.bool (readyF S ts al rs ch).1, .int .i64 (readyF S ts al rs ch).2.1, .int .i64 (readyF S ts al rs ch).2.2.1, .int .i64 (readyF S ts al rs ch).2.2.2]) ∧ Below w.heap.size w w' := by
  have hl : ts.length = m := by have := ht.1; simpa using this
  have hkl : rs.length = k := by have := hls.1; simpa using this
  have hT := hide (fun W (hb : Below w.heap.size w W) => readyError_any v S B L m cb k cl ts al rs ch W (h.below hb) (ht.below hb) hm (hls.below hb) hk)
  have hC := hide (fun (h0 : readyE S ts al rs ch = 0) (ls : List Int) (hks : ls.length = k) (hal : ∀ j, j < k → 0 ≤ ls[j]?.getD 0 ∧ ls[j]?.getD 0 ≤ 1000) (A : Option Addr) (c : Nat) W (hb : Below w.heap.size w W) (hA : RdInts W A k ls) => show Calls Try.prog 76 #[.agg #[.slice B m cb, .int .i64 al], .slice A k c] W fun e w' => e = .returned (.int .i64 (atL ts al ls)) ∧ Below W.heap.size W w' by
    obtain ⟨h1, h2, _⟩ := ready_ok h0
    obtain ⟨_, h1, h3, h4, h5, h6⟩ := test_ok h1
    obtain ⟨h7, _⟩ := ranges_ok h2
    have := chanceAt_any B A m cb k c al.toNat ts ls W (by omega) (by omega) (ht.below hb) hA hk (fun i hi => by
      have := h6 i (by omega); rwa [← h7, hkl] at this) hal
    rwa [Int.toNat_of_nonneg h4] at this)
  have hP := hide (fun (h0 : readyE S ts al rs ch = 0) W => by
    obtain ⟨h1, h2, h8⟩ := ready_ok h0
    obtain ⟨_, h1, h3, h4, h5, h6⟩ := test_ok h1
    exact parts_any B m cb al ch W (by omega) h8)
  have hbd := hide (fun (h0 : readyE S ts al rs ch = 0) => (ranges_ok (ready_ok h0).2.1).2)
  have hk16 := hide (fun (h0 : readyE S ts al rs ch = 0) => show k ≤ 16 by
    obtain ⟨h1, h2, _⟩ := ready_ok h0
    obtain ⟨h1, _⟩ := test_ok h1
    obtain ⟨h7, _⟩ := ranges_ok h2
    have := check_ok h1
    omega)
  have hlsB := hide (fun W (hb : Below w.heap.size w W) => hls.below hb)
  obtain ⟨r, hr⟩ : ∃ r, readyF S ts al rs ch = r := ⟨_, rfl⟩
  rw [hr]
  unfold readyF at hr
  rw [hl] at hr
  have hat1 := hide (fun j (hj : j < k) => mapTake (·.1) rs j (by omega))
  have hat2 := hide (fun j (hj : j < k) => mapTake (·.2) rs j (by omega))
  have hcells := hide (fun j (hj : j < k) => sp_at rs j (by omega))
  generalize readyE S ts al rs ch = q at *
  obtain ⟨i0, hi, hz0, hz1, hz2⟩ := info_parts infoInt
  replace hi := hide hi
  replace hz0 := hide hz0
  replace hz1 := hide hz1
  replace hz2 := hide hz2
  obtain ⟨A, c, A2, c2, rfl, -, h3, -⟩ := h
  generalize S.sks.length = n at *
  generalize S.ins.length = n2 at *
  clear ht hls hm
  replace hl := hide hl
  replace hkl := hide hkl
  unfold maxLen at hk h3
  have hB0 := hide (show Below w.heap.size w ((w.alloc (.cells #[.slice A n c, .slice A2 n2 c2] 25)).alloc (.cells #[.slice B m cb, .int .i64 al] 48)) from ((Below.refl _ _).alloc (Nat.le_refl _) _).alloc (by simp) _)
  have k1 := hide (show Blk ((w.alloc (.cells #[.slice A n c, .slice A2 n2 c2] 25)).alloc (.cells #[.slice B m cb, .int .i64 al] 48)) (w.heap.size + 1) 48 #[.slice B m cb, .int .i64 al] from blkNew (by simp))
  by_cases h2 : q = 0
  · subst h2
    rw [if_pos rfl] at hr
    replace hC := hide (hC.out rfl)
    replace hP := hide (hP.out rfl)
    replace hbd := hide (hbd.out rfl)
    have hk16 := hk16.out rfl
    go_enter Try.func32, Try.ntmps32
    go_wp2_with fail
    refine (hT.out _ hB0.out).mono ?_
    rintro e w1 ⟨rfl, hb1⟩
    have hB1 := hide (hB0.out.trans (hb1.mono (by simp +arith)))
    have k3 := hide (k1.out.below hb1 k1.out.lt)
    have hz3 : w.heap.size + 1 < w1.heap.size := k3.out.lt
    clear hb1 hB0 k1 hT
    go_wp2
    go_loopg [13, 14, 16, 27] k (fun gg s13 s14 _ s27 wr => ∃ j : Nat, j ≤ k ∧ k ≤ gg + j ∧ s27 = .int .i64 j ∧ Hid (Below w1.heap.size w1 wr) ∧ Hid (Apart s13 s14) ∧ Hid (wr.ownsRow w1.heap.size 3 1 s13 j (((rs.take j).map (·.1)).map (Value.int .i64))) ∧ Hid (wr.ownsRow w1.heap.size 3 1 s14 j (((rs.take j).map (·.2)).map (Value.int .i64))))
    case atStart => exact ⟨0, Nat.zero_le _, by omega, rfl, Below.refl _ _, Apart.nil, World.ownsRow_nil _ _ _ _, World.ownsRow_nil _ _ _ _⟩
    case round =>
      obtain ⟨j, hj, hgg, rfl, hBr, hap, ho1, ho2⟩ := hrel
      by_cases hlt : j < k
      · have hltz : (j : Int) < (k : Int) := by omega
        have hBw := hide (hB1.out.trans (hBr.out.mono hB1.out.size))
        have hcj := hcells.out j hlt
        have h1j := hat1.out j hlt
        have h2j := hat2.out j hlt
        have hrow := hlsB.out wr hBw.out
        obtain ⟨b, off, x0, x1, rfl, hb, hx, c0, c1⟩ := hrow.cells2 hlt
        rw [hcj] at hx
        unfold tkCells at hx
        simp only [List.cons.injEq, and_true] at hx
        obtain ⟨rfl, rfl⟩ := hx
        obtain ⟨lo, hlo⟩ : ∃ x, (rs[j]?.getD (0, 0)).1 = x := ⟨_, rfl⟩
        obtain ⟨hi', hhi⟩ : ∃ x, (rs[j]?.getD (0, 0)).2 = x := ⟨_, rfl⟩
        rw [hlo] at h1j c0
        rw [hhi] at h2j c1
        clear hcj hrow
        replace hlo := hide hlo
        replace hhi := hide hhi
        replace h1j := hide h1j
        replace h2j := hide h2j
        have hsr := hBr.out.size
        have kb := hide (blkNew (w := wr) (t := 32) (cs := #[.int .i64 lo, .int .i64 hi']) rfl)
        have e0 : (wr.alloc (.cells #[.int .i64 lo, .int .i64 hi'] 32)).cell? ⟨wr.heap.size, 0, none⟩ = some (.int .i64 lo) := kb.out.cell 0
        have hn1 : ¬ u13.ownBlock = some wr.heap.size := fun e => by have := (ho1.out.lt _ e).2; omega
        have hn2 : ¬ u14.ownBlock = some wr.heap.size := fun e => by have := (ho2.out.lt _ e).2; omega
        replace hn1 := hide hn1
        replace hn2 := hide hn2
        go_wp2_with (at_builtin; first
          | (refine wpList_append_own_at _ rfl _ _ 49 rfl w1.heap.size 3 i0 (.int .i64 0) 1 8 Try.underlying49 hi.out hz0.out hz1.out hz2.out rfl (by decide) _ _ _ rfl ((ho1.out.alloc _).alloc _) ⟨wr.heap.size + 1, 0, none⟩ 1 1 [.int .i64 lo] rfl rfl (cell_one_new' (by simp) _ _) (by simp [Value.oneCell']) (by unfold maxLen; omega) (by omega) (by simp <;> omega) ?_; intro v' w4 hown4 hgrow4 _ hat4; have kb4 := ((kb.out.alloc (.cells #[.int .i64 lo] 3))).grown hgrow4 (fun e => hn1.out e.symm); have e1 : w4.cell? ⟨wr.heap.size, 1, none⟩ = some (.int .i64 hi') := kb4.cell 1; replace kb4 := hide kb4; have hz4 : wr.heap.size + 1 + 1 ≤ w4.heap.size := (by simpa using hgrow4.size); have hB4 := hide (((hBr.out.alloc hsr (.cells #[.int .i64 lo, .int .i64 hi'] 32)).alloc (by simp <;> omega) (.cells #[.int .i64 lo] 3)).grown hgrow4 (by simp <;> omega) (fun k hk => (ho1.out.lt k hk).1)); have ho2' := hide (((ho2.out.alloc (.cells #[.int .i64 lo, .int .i64 hi'] 32)).alloc (.cells #[.int .i64 lo] 3)).kept hgrow4 hap.out.1); have hap' := hide (hap.out.grown hat4 ((ho2.out.alloc (.cells #[.int .i64 lo, .int .i64 hi'] 32)).alloc (.cells #[.int .i64 lo] 3))); replace hown4 := hide hown4; clear hgrow4 hat4 kb kb4 e0 c0 c1 hap ho1 ho2)
          | (refine wpList_append_own_at _ rfl _ _ 49 rfl w1.heap.size 3 i0 (.int .i64 0) 1 8 Try.underlying49 hi.out hz0.out hz1.out hz2.out rfl (by decide) _ _ _ rfl (ho2'.out.alloc _) ⟨w4.heap.size, 0, none⟩ 1 1 [.int .i64 hi'] rfl rfl (cell_one_new _ _ _) (by simp [Value.oneCell']) (by unfold maxLen; omega) (by omega) (by simp <;> omega) ?_; intro v2 w5 hown5 hgrow5 _ hat5))
        have hB5 := hide ((hB4.out.alloc (by omega) (.cells #[.int .i64 hi'] 3)).grown hgrow5 (by simp <;> omega) (fun k hk => (ho2'.out.lt k hk).1))
        have hown4' := hide ((hown4.out.alloc (.cells #[.int .i64 hi'] 3)).kept hgrow5 hap'.out.2)
        have hap2 := hide ((hap'.out.symm.grown hat5 (hown4.out.alloc (.cells #[.int .i64 hi'] 3))).symm)
        replace hown5 := hide hown5
        clear hgrow5 hat5 e1 hown4 hap' ho2'
        go_wp2
        go_roundg (k - (j + 1))
        case measure => omega
        case rel =>
          refine ⟨j + 1, by omega, by omega, by go_num, hB5.out, hap2.out, ?_, ?_⟩
          · rw [h1j.out]; exact hown4'.out
          · rw [h2j.out]; exact hown5.out
      · have hltz : ¬ (j : Int) < (k : Int) := by omega
        obtain rfl : j = k := by omega
        have hln1 : (rs.map (·.1)).length = j := by rw [List.length_map]; exact hkl.out
        have hln2 : (rs.map (·.2)).length = j := by rw [List.length_map]; exact hkl.out
        have hi1 : IsInts (rs.map (·.1)) u13 wr := isInts_of_own (base := w1.heap.size) (by
          have h := ho1.out
          rw [List.take_of_length_le (by rw [hkl.out]; exact Nat.le_refl _)] at h
          rw [hln1]; exact h)
        have hi2 : IsInts (rs.map (·.2)) u14 wr := isInts_of_own (base := w1.heap.size) (by
          have h := ho2.out
          rw [List.take_of_length_le (by rw [hkl.out]; exact Nat.le_refl _)] at h
          rw [hln2]; exact h)
        unfold IsInts at hi1 hi2
        rw [hln1] at hi1
        rw [hln2] at hi2
        obtain ⟨A3, c3, rfl, hA3, _⟩ := hi1
        obtain ⟨A4, c4, rfl, hA4, _⟩ := hi2
        have hBw := hide (hB1.out.trans (hBr.out.mono hB1.out.size))
        have k4 := hide (k3.out.below hBr.out hz3)
        have hb1 : ∀ i, i < j → 0 ≤ (rs.map (·.1))[i]?.getD 0 ∧ (rs.map (·.1))[i]?.getD 0 ≤ 1000 := fun i hi => by
          have := hbd.out i (by rw [hkl.out]; exact hi)
          rw [List.getElem?_map, List.getElem?_eq_getElem (by rw [hkl.out]; exact hi)]
          rw [List.getElem?_eq_getElem (by rw [hkl.out]; exact hi)] at this
          simp only [Option.getD_some, Option.map_some] at this ⊢
          omega
        have hb2 : ∀ i, i < j → 0 ≤ (rs.map (·.2))[i]?.getD 0 ∧ (rs.map (·.2))[i]?.getD 0 ≤ 1000 := fun i hi => by
          have := hbd.out i (by rw [hkl.out]; exact hi)
          rw [List.getElem?_map, List.getElem?_eq_getElem (by rw [hkl.out]; exact hi)]
          rw [List.getElem?_eq_getElem (by rw [hkl.out]; exact hi)] at this
          simp only [Option.getD_some, Option.map_some] at this ⊢
          omega
        have hc1 := hide (fun W (hb : Below wr.heap.size wr W) => hC.out (rs.map (·.1)) hln1 hb1 A3 c3 W (hBw.out.trans (hb.mono hBw.out.size)) (hA3.below hb))
        have hc2 := hide (fun W (hb : Below wr.heap.size wr W) => hC.out (rs.map (·.2)) hln2 hb2 A4 c4 W (hBw.out.trans (hb.mono hBw.out.size)) (hA4.below hb))
        clear hln1 hln2 hb1 hb2 hA3 hA4 ho1 ho2 hap hC hbd hat1 hat2 hcells hlsB
        generalize atL ts al (rs.map (·.1)) = least at *
        generalize atL ts al (rs.map (·.2)) = most at *
        subst hr
        go_wp2
        refine region_grow [IsV (.agg #[.slice B m cb, .int .i64 al]), IsV (.slice A3 j c3), IsV (.int .i64 least), IsV (.agg #[.slice B m cb, .int .i64 al]), IsV (.slice A4 j c4), IsV (.int .i64 most), IsV (.int .i64 least), IsV (.int .i64 most)] (by kernel_rfl) (by kernel_rfl) rfl ?_ ?_ ?_
        · simp [AllStb, IsV.stb]
        · refine ⟨?_, ?_, ?_, ?_, ?_, ?_, ?_, ?_, trivial⟩
          all_goals
            intro y w4 K Q Cv hC hd hV
            have k5 := k4.out.below hC k4.out.lt
            have y0 := k5.cell 0
            have y1 := k5.cell 1
            simp only [List.getElem?_toArray, List.getElem?_cons_zero, List.getElem?_cons_succ] at y0 y1
            simp [deps, VL, IsV, Region.binds] at hd
          · simp only [putAll, Act.put]; go_simp; intro hK; exact hK _ _ (hV _ _ hC (Below.refl _ _) rfl)
          · simp only [putAll, Act.put]; go_simp; intro hK; exact hK _ _ (hV _ _ hC (Below.refl _ _) rfl)
          · simp only [putAll, Act.put]; go_simp; intro hK; refine (hc1.out _ hC).mono ?_; rintro e w2 ⟨rfl, hb⟩; exact hK _ _ (hV _ _ (hC.trans (hb.mono hC.size)) hb rfl)
          · simp only [putAll, Act.put]; go_simp; intro hK; exact hK _ _ (hV _ _ hC (Below.refl _ _) rfl)
          · simp only [putAll, Act.put]; go_simp; intro hK; exact hK _ _ (hV _ _ hC (Below.refl _ _) rfl)
          · simp only [putAll, Act.put]; go_simp; intro hK; refine (hc2.out _ hC).mono ?_; rintro e w2 ⟨rfl, hb⟩; exact hK _ _ (hV _ _ (hC.trans (hb.mono hC.size)) hb rfl)
          · simp only [putAll, Act.put]; go_simp; intro hK; exact hK _ _ (hV _ _ hC (Below.refl _ _) rfl)
          · simp only [putAll, Act.put]; go_simp; intro hK; exact hK _ _ (hV _ _ hC (Below.refl _ _) rfl)
        intro y w4 hC4 hd
        simp [EndsL, IsV] at hd
        obtain ⟨d0, d1, d2, d3, d4, d5, d6, d7⟩ := hd
        simp only [putAll, Act.put]
        rw [d0, d1, d2, d3, d4, d5, d6, d7]
        clear d0 d1 d2 d3 d4 d5 d6 d7
        simp only [List.setIfInBounds_toArray, List.set_cons_succ, List.set_cons_zero]
        have hB4 := hide (hBw.out.trans (hC4.mono hBw.out.size))
        have k5 := k4.out.below hC4 k4.out.lt
        have y0 : w4.cell? ⟨w.heap.size + 1, 0, none⟩ = some (.slice B m cb) := k5.cell 0
        have y1 : w4.cell? ⟨w.heap.size + 1, 1, none⟩ = some (.int .i64 al) := k5.cell 1
        clear k5 hC4
        go_wp2_with fail
        refine (hP.out _).mono ?_
        rintro e w5 ⟨rfl, hb5⟩
        have hB5 := hide (hB4.out.trans (hb5.mono hB4.out.size))
        clear hb5 y0 y1
        go_wp2
        refine bodyPost_ret (v := .tuple #[.bool (decide (ch * 1000 ^ (m - 1) ≤ least)), .int .i64 least, .int .i64 most, .int .i64 0]) (by simp [results, Try.results32, go_sem]) rfl ⟨rfl, hB5.out⟩
  · rw [if_neg h2] at hr
    subst hr
    have hb1 : (q == 0) = false := by rw [beq_eq_false_iff_ne]; exact h2
    have hb2 : (q != 0) = true := by rw [bne_iff_ne]; exact h2
    clear hC hP hbd
    replace h2 := hide h2
    go_enter Try.func32, Try.ntmps32
    go_wp2_with fail
    refine (hT.out _ hB0.out).mono ?_
    rintro e w1 ⟨rfl, hb1'⟩
    have hB1 := hide (hB0.out.trans (hb1'.mono (by simp +arith)))
    clear hb1' hB0 k1 hT
    go_wp2
    refine bodyPost_ret (v := .tuple #[.bool false, .int .i64 0, .int .i64 0, .int .i64 q]) (by simp [results, Try.results32, go_sem]) rfl ⟨rfl, hB1.out⟩
end Go.Proofs.Ytkhijdbigpaagaa

/-
  lowestAfter of package skill.
-/
namespace Go.Proofs.Ytkhijdbigpaagaa
open Go.RowKit RG

/-- The lowest level of a skill after the lessons of a plan. -/
def low1 (S : Sch) (rs : List Sp) (pl : List Int) (i : Nat) : Int := lim ((rs[i]?.getD (0, 0)).1 + pl[i]?.getD 0 * (S.sks[i]?.getD default).gl)
def lowF (S : Sch) (rs : List Sp) (pl : List Int) (k : Nat) : List Int := (List.range k).map (low1 S rs pl)
theorem lowF_snoc (S : Sch) (rs : List Sp) (pl : List Int) (k : Nat) : (lowF S rs pl (k + 1)).map (Value.int .i64) = (lowF S rs pl k).map (Value.int .i64) ++ [.int .i64 (low1 S rs pl k)] := by simp [lowF, List.range_succ]
theorem cells_one {w : World} {g : Nat} {x : Value} (h : w.cell? ⟨g, 0, none⟩ = some x) : ∀ j u, [x][j]? = some u → w.cell? ((⟨g, 0, none⟩ : Addr).add j) = some u := by
  intro j u hj
  match j, hj with
  | 0, hj =>
    simp at hj
    subst hj
    simpa [Addr.add] using h
theorem sk_at (ss : List Skl) (k : Nat) (h : k < ss.length) : ((ss.map skCells)[k]?.getD []) = skCells (ss[k]?.getD default) := by
  rw [List.getElem?_map, List.getElem?_eq_getElem h]; rfl
theorem sk_ok {S : Sch} (h : (checkS S).2.2 = 0) {i : Nat} (hi : i < S.sks.length) : 0 ≤ (S.sks[i]?.getD default).gl ∧ (S.sks[i]?.getD default).gl ≤ (S.sks[i]?.getD default).gh ∧ (S.sks[i]?.getD default).gh ≤ 1000 ∧
    0 ≤ (S.sks[i]?.getD default).fl ∧ (S.sks[i]?.getD default).fl ≤ (S.sks[i]?.getD default).fh ∧ (S.sks[i]?.getD default).fh ≤ 1000 := by
  have := (check_ok h).2.2.2.1 i hi
  unfold skErr at this
  split at this
  · unfold spanE at this
    split at this
    · split at this
      · rename_i h4 h5
        simp only [List.all_cons, List.all_nil, Bool.and_true, Bool.and_eq_true, decide_eq_true_eq] at h4 h5
        have a := inB_iff.1 h4.1.1
        have b := inB_iff.1 h4.1.2
        have c := inB_iff.1 h4.2.1
        have d := inB_iff.1 h4.2.2
        omega
      · simp at this
    · simp at this
  · contradiction

set_option maxRecDepth 100000 in
set_option maxHeartbeats 4000000 in
theorem lowestAfter_any (v : Value) (S : Sch) (L Q : Option Addr) (k cl cq : Nat) (rs : List Sp) (pl : List Int) (w : World) (h : RdSch w v S) (hk : k ≤ 5) (hn : S.sks.length = k)
    (hls : RdRow w L k 2 (rs.map tkCells)) (hpl : RdInts w Q k pl) (hr : ∀ i, i < k → 0 ≤ (rs[i]?.getD (0, 0)).1 ∧ (rs[i]?.getD (0, 0)).1 ≤ 1000) (hp : ∀ i, i < k → 0 ≤ pl[i]?.getD 0 ∧ pl[i]?.getD 0 ≤ 1000)
    (hg : ∀ i, i < k → 0 ≤ (S.sks[i]?.getD default).gl ∧ (S.sks[i]?.getD default).gl ≤ 1000) :
    Calls Try.prog 85 #[v, .slice L k cl, .slice Q k cq] w fun e w' => (∃ x, e = .returned x ∧ IsInts (lowF S rs pl k) x w') ∧ Below w.heap.size w w' := by
  have hkl : rs.length = k := by have := hls.1; simpa using this
  obtain ⟨A, c, A2, c2, rfl, hsk, h3, hcap, -⟩ := h
  have hlsB := hide (fun W (hb : Below w.heap.size w W) => hls.below hb)
  have hplB := hide (fun W (hb : Below w.heap.size w W) => hpl.below hb)
  have hskB := hide (fun W (hb : Below w.heap.size w W) => hsk.below hb)
  have hcells := hide (fun j (hj : j < k) => sp_at rs j (by omega))
  have hcel2 := hide (fun j (hj : j < k) => sk_at S.sks j (by omega))
  have hsn := hide (fun j => lowF_snoc S rs pl j)
  have hlow := hide (fun j => show low1 S rs pl j = lim ((rs[j]?.getD (0, 0)).1 + pl[j]?.getD 0 * (S.sks[j]?.getD default).gl) from rfl)
  rw [hn] at *
  obtain ⟨i0, hi, hz0, hz1, hz2⟩ := info_parts infoInt
  replace hi := hide hi
  replace hz0 := hide hz0
  replace hz1 := hide hz1
  replace hz2 := hide hz2
  clear hsk hls hpl
  replace hkl := hide hkl
  replace hr := hide hr
  replace hp := hide hp
  replace hg := hide hg
  generalize S.ins.length = n2 at *
  have hB1 := hide (show Below w.heap.size w (w.alloc (.cells #[.slice A k c, .slice A2 n2 c2] 25)) from (Below.refl _ _).alloc (Nat.le_refl _) _)
  have k1 := hide (show Blk (w.alloc (.cells #[.slice A k c, .slice A2 n2 c2] 25)) w.heap.size 25 #[.slice A k c, .slice A2 n2 c2] from blkNew (by simp))
  go_enter Try.func85, Try.ntmps85
  go_wp2
  generalize (w.alloc (.cells #[.slice A k c, .slice A2 n2 c2] 25)) = w1 at *
  have hz3 := k1.out.lt
  go_loopg [7, 8, 9, 12] k (fun gg s7 _ _ s12 wr => ∃ j : Nat, j ≤ k ∧ k ≤ gg + j ∧ s12 = .int .i64 j ∧ Hid (Below w1.heap.size w1 wr) ∧ Hid (wr.ownsRow w1.heap.size 3 1 s7 j ((lowF S rs pl j).map (Value.int .i64))))
  case atStart => exact ⟨0, Nat.zero_le _, by omega, rfl, Below.refl _ _, World.ownsRow_nil _ _ _ _⟩
  case round =>
    obtain ⟨j, hj, hgg, rfl, hBr, ho1⟩ := hrel
    by_cases hlt : j < k
    · have hltz : (j : Int) < (k : Int) := by omega
      have hBw := hide (hB1.out.trans (hBr.out.mono hB1.out.size))
      have hcj := hcells.out j hlt
      have hsj := hsn.out j
      rw [hlow.out] at hsj
      obtain ⟨b, off, x0, x1, rfl, hb, hx, c0, c1⟩ := (hlsB.out wr hBw.out).cells2 hlt
      rw [hcj] at hx
      unfold tkCells at hx
      simp only [List.cons.injEq, and_true] at hx
      obtain ⟨rfl, rfl⟩ := hx
      have hb1 := hr.out j hlt
      have hb2 := hp.out j hlt
      have hb3 := hg.out j hlt
      obtain ⟨b2, off2, rfl, hb2', hc2⟩ := (hplB.out wr hBw.out).2 (by omega)
      have p0 := hc2 j hlt
      have hp0 := hide p0
      obtain ⟨b3, off3, y0, y1, y2, y3, y4, rfl, hb3', hy, d0, d1, d2, d3, d4⟩ := (hskB.out wr hBw.out).cells5 hlt
      rw [hcel2.out j hlt] at hy
      unfold skCells at hy
      simp only [List.cons.injEq, and_true] at hy
      obtain ⟨rfl, rfl, rfl, rfl, rfl⟩ := hy
      have hd1 := hide d1
      clear d0 d2 d3 d4 hc2
      generalize (rs[j]?.getD (0, 0)).1 = lo at *
      generalize (rs[j]?.getD (0, 0)).2 = hi' at *
      generalize pl[j]?.getD 0 = pj at *
      generalize (S.sks[j]?.getD default).gl = gl at *
      clear hcj
      have hm0 : 0 ≤ pj * gl := Int.mul_nonneg hb2.1 hb3.1
      have hm1 : pj * gl ≤ 1000000 := Int.le_trans (Int.mul_le_mul hb2.2 hb3.2 hb3.1 (by omega)) (by omega)
      obtain ⟨mq, hmq⟩ : ∃ x, pj * gl = x := ⟨_, rfl⟩
      have hw1 : IntKind.i64.wrap (pj * gl) = mq := by rw [IntKind.wrap_i64]; omega
      have hw2 : IntKind.i64.wrap (lo + mq) = lo + mq := by rw [IntKind.wrap_i64]; omega
      rw [hmq] at hsj
      clear hmq
      have hL := hide (fun W => limit_any (lo + mq) W)
      replace hsj := hide hsj
      have hsr := hBr.out.size
      have kb := hide (blkNew (w := wr) (t := 32) (cs := #[.int .i64 lo, .int .i64 hi']) rfl)
      have e0 : (wr.alloc (.cells #[.int .i64 lo, .int .i64 hi'] 32)).cell? ⟨wr.heap.size, 0, none⟩ = some (.int .i64 lo) := kb.out.cell 0
      have p1 := (cellB (o := off2 + j) ((Below.refl wr.heap.size wr).alloc (Nat.le_refl _) (.cells #[.int .i64 lo, .int .i64 hi'] 32)) hb2').trans p0
      have d5 := (cellB (o := off3 + j * 5 + 1) ((Below.refl wr.heap.size wr).alloc (Nat.le_refl _) (.cells #[.int .i64 lo, .int .i64 hi'] 32)) hb3').trans d1
      have kk := (k1.out.below hBr.out hz3).alloc (.cells #[.int .i64 lo, .int .i64 hi'] 32)
      have s0 : (wr.alloc (.cells #[.int .i64 lo, .int .i64 hi'] 32)).cell? ⟨w.heap.size, 0, none⟩ = some (.slice (some ⟨b3, off3, none⟩) k c) := kk.cell 0
      have kbf := hide kk
      clear kk
      go_wp2
      clear e0 p1 d5 s0 d1 p0 c0 c1
      have hB0 := hide (hBw.out.alloc (by have := hBw.out.size; omega) (.cells #[.int .i64 lo, .int .i64 hi'] 32))
      have hBr0 := hide (hBr.out.alloc hsr (.cells #[.int .i64 lo, .int .i64 hi'] 32))
      have ho0 := hide (ho1.out.alloc (.cells #[.int .i64 lo, .int .i64 hi'] 32))
      have z0 : wr.heap.size < (wr.alloc (.cells #[.int .i64 lo, .int .i64 hi'] 32)).heap.size := by simp
      have p1 : (wr.alloc (.cells #[.int .i64 lo, .int .i64 hi'] 32)).cell? ⟨b2, off2 + j, none⟩ = some (.int .i64 pj) := (cellB (o := off2 + j) ((Below.refl wr.heap.size wr).alloc (Nat.le_refl _) _) hb2').trans hp0.out
      have d5 : (wr.alloc (.cells #[.int .i64 lo, .int .i64 hi'] 32)).cell? ⟨b3, off3 + j * 5 + 1, none⟩ = some (.int .i64 gl) := (cellB (o := off3 + j * 5 + 1) ((Below.refl wr.heap.size wr).alloc (Nat.le_refl _) _) hb3').trans hd1.out
      generalize (wr.alloc (.cells #[.int .i64 lo, .int .i64 hi'] 32)) = W0 at *
      have zb := kb.out.lt
      have zs := kbf.out.lt
      have zb2 : b2 < W0.heap.size := by omega
      have zb3 : b3 < W0.heap.size := by omega
      refine region_grow_tail 18 [IsV u7, IsV (.pointer (some ⟨wr.heap.size, 0, none⟩)), IsV (.int .i64 lo), IsV (.slice (some ⟨b2, off2, none⟩) k cq), IsV (.int .i64 j), IsV (.pointer (some ⟨b2, off2 + j, none⟩)), IsV (.int .i64 pj),
        IsV (.pointer (some ⟨w.heap.size, 0, none⟩)), IsV (.slice (some ⟨b3, off3, none⟩) k c), IsV (.int .i64 j), IsV (.pointer (some ⟨b3, off3 + j * 5, none⟩)), IsV (.pointer (some ⟨b3, off3 + j * 5 + 1, none⟩)), IsV (.pointer (some ⟨b3, off3 + j * 5 + 1, none⟩)),
        IsV (.int .i64 gl), IsV (.int .i64 mq), IsV (.int .i64 (lo + mq)), IsV (.int .i64 (lim (lo + mq))), IsOne (lim (lo + mq))] (by kernel_rfl) (by kernel_rfl) rfl ?_ ?_ ?_
      · simp [AllStb, IsV.stb, IsOne.stb]
      · refine ⟨?_, ?_, ?_, ?_, ?_, ?_, ?_, ?_, ?_, ?_, ?_, ?_, ?_, ?_, ?_, ?_, ?_, ?_, trivial⟩
        all_goals
          intro y w6 K Qq Cv hC hd hV
          have q0 : w6.cell? ⟨wr.heap.size, 0, none⟩ = some (.int .i64 lo) := (kb.out.below hC zb).cell 0
          have q1 : w6.cell? ⟨w.heap.size, 0, none⟩ = some (.slice (some ⟨b3, off3, none⟩) k c) := (kbf.out.below hC zs).cell 0
          have q2 := (cellB (o := off2 + j) hC zb2).trans p1
          have q3 := (cellB (o := off3 + j * 5 + 1) hC zb3).trans d5
          have hz6 := hC.size
          simp [deps, VL, IsV, Region.binds] at hd
          simp only [List.take_succ_cons, List.take_zero, putAll, Act.put]
          go_simp; intro hK
        iterate 16 (first | exact hK _ _ (hV _ _ hC (Below.refl _ _) rfl) | skip)
        all_goals first
          | exact hK _ _ (hV _ _ hC (Below.refl _ _) rfl)
          | (refine (hL.out _).mono ?_; rintro e w7 ⟨rfl, rfl⟩; exact hK _ _ (hV _ _ hC (Below.refl _ _) rfl))
          | exact hK _ _ (hV _ _ (hC.alloc hz6 _) ((Below.refl _ _).alloc (Nat.le_refl _) _) ⟨_, _, rfl, by simp⟩)
      · intro y w6 hC hd
        simp [EndsL, IsV] at hd
        obtain ⟨d0, d1, d2, d3, d4, d5, d6, d7, d8, d9, d10, d11, d12, d13, d14, d15, d16, ⟨g2, cc2, d17, hc2⟩⟩ := hd
        simp only [List.take_succ_cons, List.take_zero, List.drop_succ_cons, List.drop_zero, putAll, Act.put]
        rw [d0, d1, d2, d3, d4, d5, d6, d7, d8, d9, d10, d11, d12, d13, d14, d15, d16, d17]
        clear d0 d1 d2 d3 d4 d5 d6 d7 d8 d9 d10 d11 d12 d13 d14 d15 d16 d17
        simp only [List.setIfInBounds_toArray, List.set_cons_succ, List.set_cons_zero]
        have hB6 := hide (hBr0.out.trans (hC.mono hBr0.out.size))
        have hs6 := hB6.out.size
        have ho6 := own_below ho0.out hC
        clear hC
        go_wp2_with (at_builtin; refine wpList_append_own _ rfl _ _ 49 rfl w1.heap.size 3 i0 (.int .i64 0) 1 8 Try.underlying49 hi.out hz0.out hz1.out hz2.out rfl (by decide) _ _ _ rfl ho6 ⟨g2, 0, none⟩ 1 cc2 [.int .i64 (lim (lo + mq))] rfl rfl (cells_one hc2) (by simp [Value.oneCell']) (by unfold maxLen; omega) (by omega) (by omega) ?_; intro v' w7 hown7 hgrow7 _)
        have hB7 := hide (hB6.out.grown hgrow7 (by omega) (fun k hk => (ho6.lt k hk).1))
        replace hown7 := hide hown7
        clear hgrow7 ho6
        go_wp2
        go_roundg (k - (j + 1))
        case measure => omega
        case rel =>
          refine ⟨j + 1, by omega, by omega, by go_num, hB7.out, ?_⟩
          unfold Hid
          rw [hsj.out]
          exact hown7.out
    · have hltz : ¬ (j : Int) < (k : Int) := by omega
      obtain rfl : j = k := by omega
      have hln : (lowF S rs pl j).length = j := by simp [lowF]
      have hres : IsInts (lowF S rs pl j) u7 wr := isInts_of_own (base := w1.heap.size) (by rw [hln]; exact ho1.out)
      have hBw := hide (hB1.out.trans (hBr.out.mono hB1.out.size))
      replace hres := hide hres
      clear ho1 hln
      go_wp2
      go_ret
      exact ⟨⟨_, rfl, hres.out⟩, hBw.out⟩
end Go.Proofs.Ytkhijdbigpaagaa
