import Derived.Test.YtnmgnonbgihalaaPt
/-
  The reference's Check (made by gen_refc.py).
-/
namespace Go.Proofs.Ytnmgnonbgihalaa
open Go.RowKit RG

/-- How many of the first i questions are of a part. -/
def cntT (B : Bank) (i p : Nat) : Nat := (B.qs.take i).countP fun q => decide (q.part = (p : Int))
def cntL (B : Bank) (i : Nat) : List Int := (List.range B.wanted.length).map fun p => (cntT B i p : Int)
theorem cntL_len (B : Bank) (i : Nat) : (cntL B i).length = B.wanted.length := by unfold cntL; rw [List.length_map, List.length_range]
theorem cntL_at (B : Bank) (i p : Nat) (h : p < B.wanted.length) : (cntL B i)[p]?.getD 0 = cntT B i p := by
  unfold cntL
  rw [List.getElem?_map, List.getElem?_range h]
  rfl
theorem cntT_end (B : Bank) (p : Nat) : cntT B B.qs.length p = leftP B 0 p := by unfold cntT leftP; rw [List.take_length, List.drop_zero]
theorem cntT_le (B : Bank) (i p : Nat) : cntT B i p ≤ B.qs.length := by
  unfold cntT
  exact Nat.le_trans List.countP_le_length (by rw [List.length_take]; omega)
theorem cntL_step {B : Bank} {i p : Nat} (hi : i < B.qs.length) (hp : (B.qs[i]?.getD default).part = (p : Int)) : (cntL B i).set p ((cntT B i p : Int) + 1) = cntL B (i + 1) := by
  rw [List.getElem?_eq_getElem hi, Option.getD_some] at hp
  have hs : ∀ j, cntT B (i + 1) j = cntT B i j + if j = p then 1 else 0 := fun j => by
    unfold cntT
    rw [List.take_succ_eq_append_getElem hi, List.countP_append]
    congr 1
    rw [List.countP_singleton, hp]
    by_cases e : j = p
    · subst e; simp
    · rw [if_neg e, if_neg (by simp; omega)]
  apply List.ext_getElem
  · rw [List.length_set, cntL_len, cntL_len]
  · intro j h1 h2
    rw [cntL_len] at h2
    rw [List.getElem_set]
    simp only [cntL, List.getElem_map, List.getElem_range]
    rw [hs j]
    by_cases e : p = j
    · subst e; simp
    · rw [if_neg e, if_neg (fun h => e h.symm)]; simp
theorem mk_ints (n : Nat) (hn : n ≤ 100000) (w : World) :
    (Instr.makeSlice 23 (.int .i64 (n : Int)) (.int .i64 (n : Int))).run Try.prog w = .ok (.slice (some ⟨w.heap.size, 0, none⟩) n n) (w.alloc (.cells (List.replicate n (.int .i64 0)).toArray 3)) := by
  obtain ⟨i, hi, hz, hs, hb⟩ := info_parts infoInt
  have hr := run_make (P := Try.prog) w 23 3 i (.int .i64 0) Try.underlying23 hi hz .i64 .i64 n n (by omega) (by omega) (by rw [hb]; omega) (by omega)
  simp only [Int.toNat_natCast] at hr
  rw [hr, hs]
  have hm : madeCells (Value.int .i64 0).cells (n * 1) = (List.replicate n (.int .i64 0)).toArray := by
    apply Array.ext
    · simp [madeCells]
    · intro j h1 h2
      simp [madeCells, Value.cells, Nat.mod_one]
  rw [hm]
theorem row_zeros {w : World} {X : Nat → Prop} {g n : Nat} (h : Blk w g 3 (List.replicate n (.int .i64 0)).toArray) (hn : n ≤ 100000) (hx : ¬ X g) : RowAt w X 3 1 (.slice (some ⟨g, 0, none⟩) n n) ((List.replicate n (0 : Int)).map iCells) := by
  refine ⟨iCells_len _, .inr ⟨g, n, _, by rw [List.length_map, List.length_replicate], hx, h, by rw [List.length_map, List.length_replicate]; exact Nat.le_refl _, by unfold maxLen; omega, by simp, ?_⟩⟩
  rw [iCells_flat]
  simp
theorem cntL_zero (B : Bank) : List.replicate B.wanted.length (0 : Int) = cntL B 0 := by
  apply List.ext_getElem
  · rw [List.length_replicate, cntL_len]
  · intro j h1 h2
    simp [cntL, cntT]
theorem row_int_at {w : World} {X : Nat → Prop} {g n c : Nat} {xs : List Int} (h : RowAt w X 3 1 (.slice (some ⟨g, 0, none⟩) n c) (xs.map iCells)) {j : Nat} (hj : j < xs.length) : w.cell? ⟨g, j, none⟩ = some (.int .i64 (xs[j]?.getD 0)) ∧ w.frozen? ⟨g, j, none⟩ = false := by
  obtain ⟨g', cap, e, -, -, -, -, -, hc, hz, -⟩ := RowAt.at h (by rw [List.length_map]; omega)
  obtain rfl : g = g' := by injection e with e; injection e with e; injection e
  have h9 := hc j 0 (.int .i64 (xs[j]?.getD 0)) (by rw [List.getElem?_map, List.getElem?_eq_getElem hj]; rfl)
  rw [Nat.mul_one, Nat.add_zero] at h9
  exact ⟨h9, hz j⟩
theorem q_cells {w : World} {Q Wd : Option Addr} {B : Bank} (h : BkR w Q Wd B) {i : Nat} (hi : i < B.qs.length) : ∃ b off, Q = some ⟨b, off, none⟩ ∧ b < w.heap.size ∧ w.cell? ⟨b, off + i * 3, none⟩ = some (.int .i64 (B.qs[i]?.getD default).part) ∧ w.cell? ⟨b, off + i * 3 + 1, none⟩ = some (.int .i64 (B.qs[i]?.getD default).asked) ∧ w.cell? ⟨b, off + i * 3 + 2, none⟩ = some (.int .i64 (B.qs[i]?.getD default).wrong) := by
  obtain ⟨b, off, x0, x1, x2, e, hb, hx, h0, h1, h2⟩ := h.qs.cells3 hi
  rw [List.getElem?_map, List.getElem?_eq_getElem hi] at hx
  rw [List.getElem?_eq_getElem hi]
  have hx' : qCells B.qs[i] = [x0, x1, x2] := hx
  unfold qCells at hx'
  simp only [List.cons.injEq] at hx'
  obtain ⟨rfl, rfl, rfl, -⟩ := hx'
  exact ⟨b, off, e, hb, h0, h1, h2⟩
set_option maxRecDepth 100000 in
set_option maxHeartbeats 4000000 in
theorem CheckR_any (Q Wd : Option Addr) (cq cw : Nat) (B : Bank) (w : World) (h : BkR w Q Wd B) :
    Calls Try.prog 17 #[bkV Q Wd cq cw B] w fun e w' => e = .returned (.tuple #[.int .i64 (checkP B).1, .int .i64 (checkP B).2.1, .int .i64 (checkP B).2.2]) ∧ Below w.heap.size w w' := by
  have hIn := hide in_any
  obtain ⟨x, y, z, hxyz⟩ : ∃ x y z, checkP B = (x, y, z) := ⟨_, _, _, rfl⟩
  rw [hxyz]
  dsimp only
  unfold checkP at hxyz
  have hml : maxLen = 2 ^ 63 - 1 := rfl
  have hnq := h.nq
  have hnw := h.nw
  rw [hml] at hnq hnw
  have hBk := hide (fun W (hb : Below w.heap.size w W) => h.below hb)
  have hNE : ∀ e, numErr B = e → (e ≠ 0 → x = 1 ∧ y = 0 ∧ z = e) := fun e he hne => by
    rw [he, if_pos hne] at hxyz
    injection hxyz with h1 h2
    injection h2 with h2 h3
    exact ⟨h1.symm, h2.symm, h3.symm⟩
  have hN0 : numErr B = 0 → (if (qsE B).2 ≠ 0 then ((2 : Int), (qsE B).1, (qsE B).2) else if (wsE B).2 ≠ 0 then (3, (wsE B).1, (wsE B).2) else (0, 0, 0)) = (x, y, z) := fun he => by
    rw [he] at hxyz
    rwa [if_neg (by simp)] at hxyz
  clear hxyz h
  unfold bkV
  obtain ⟨W, hW⟩ : ∃ y, w.alloc (.cells #[.slice Q B.qs.length cq, .slice Wd B.wanted.length cw, .int .i64 B.lo, .int .i64 B.hi] 27) = y := ⟨_, rfl⟩
  have bW := hide (show Blk W w.heap.size 27 #[.slice Q B.qs.length cq, .slice Wd B.wanted.length cw, .int .i64 B.lo, .int .i64 B.hi] by rw [← hW]; exact blkNew rfl)
  have hBW := hide (show Below w.heap.size w W by rw [← hW]; exact (Below.refl _ _).alloc (Nat.le_refl _) _)
  replace hW := hide hW
  have bo := bW.out
  have c0 : W.cell? ⟨w.heap.size, 0, none⟩ = some (.slice Q B.qs.length cq) := bo.cell 0
  have c1 : W.cell? ⟨w.heap.size, 1, none⟩ = some (.slice Wd B.wanted.length cw) := bo.cell 1
  have c2 : W.cell? ⟨w.heap.size, 2, none⟩ = some (.int .i64 B.lo) := bo.cell 2
  have c3 : W.cell? ⟨w.heap.size, 3, none⟩ = some (.int .i64 B.hi) := bo.cell 3
  clear bo
  have hi1 := hide (show inB 1 16 (B.qs.length : Int) = true → 1 ≤ (B.qs.length : Int) ∧ (B.qs.length : Int) ≤ 16 from inB_iff.1)
  have hi2 := hide (show inB 1 4 (B.wanted.length : Int) = true → 1 ≤ (B.wanted.length : Int) ∧ (B.wanted.length : Int) ≤ 4 from inB_iff.1)
  have hne : numErr B = if inB 1 16 (B.qs.length : Int) = false ∨ inB 1 4 (B.wanted.length : Int) = false then 3 else if inB 0 16000 B.lo = false ∨ inB 0 16000 B.hi = false then 7 else if B.hi < B.lo then 2 else 0 := rfl
  have hI1 := hide (fun W => hIn.out (B.qs.length : Int) 1 16 W)
  have hI2 := hide (fun W => hIn.out (B.wanted.length : Int) 1 4 W)
  have hI3 := hide (fun W => hIn.out B.lo 0 16000 W)
  have hI4 := hide (fun W => hIn.out B.hi 0 16000 W)
  generalize inB 1 16 (B.qs.length : Int) = i1 at *
  generalize inB 1 4 (B.wanted.length : Int) = i2 at *
  generalize inB 0 16000 B.lo = i3 at *
  generalize inB 0 16000 B.hi = i4 at *
  replace hNE := hide hNE
  replace hN0 := hide hN0
  replace hne := hide hne
  go_enter Try.func17, Try.ntmps17
  go_upto_region 1 with fail
  rw [hW.out]
  go_wp2_with fail
  refine (hI1.out W).mono ?_
  rintro e w1 ⟨rfl, rfl⟩
  cases i1 with
  | false =>
    obtain ⟨rfl, rfl, rfl⟩ := hNE.out 3 (by rw [hne.out]; simp) (by decide)
    go_wp2
    go_ret3
    exact ⟨rfl, hBW.out⟩
  | true =>
    have hq16 := hi1.out rfl
    replace hq16 := hide hq16
    go_wp2_with fail
    refine (hI2.out w1).mono ?_
    rintro e w2 ⟨rfl, rfl⟩
    cases i2 with
    | false =>
      obtain ⟨rfl, rfl, rfl⟩ := hNE.out 3 (by rw [hne.out]; simp) (by decide)
      go_wp2
      go_ret3
      exact ⟨rfl, hBW.out⟩
    | true =>
      have hw4 := hide (hi2.out rfl)
      go_wp2_with fail
      refine (hI3.out w2).mono ?_
      rintro e w3 ⟨rfl, rfl⟩
      cases i3 with
      | false =>
        obtain ⟨rfl, rfl, rfl⟩ := hNE.out 7 (by rw [hne.out]; simp) (by decide)
        go_wp2
        go_ret3
        exact ⟨rfl, hBW.out⟩
      | true =>
        go_wp2_with fail
        refine (hI4.out w3).mono ?_
        rintro e w4 ⟨rfl, rfl⟩
        cases i4 with
        | false =>
          obtain ⟨rfl, rfl, rfl⟩ := hNE.out 7 (by rw [hne.out]; simp) (by decide)
          go_wp2
          go_ret3
          exact ⟨rfl, hBW.out⟩
        | true =>
          by_cases hlt : B.hi < B.lo
          · have hd : decide (B.lo > B.hi) = true := decide_eq_true hlt
            have hd2 : decide (B.hi < B.lo) = true := decide_eq_true hlt
            obtain ⟨rfl, rfl, rfl⟩ := hNE.out 2 (by rw [hne.out]; simp [hlt]) (by decide)
            go_wp2
            go_ret3
            exact ⟨rfl, hBW.out⟩
          · have hd : decide (B.lo > B.hi) = false := decide_eq_false hlt
            have hd2 : decide (B.hi < B.lo) = false := decide_eq_false hlt
            have hR := hide (hN0.out (by rw [hne.out]; simp [hlt]))
            replace hlt := hide hlt
            clear hNE hN0 hne hI1 hI2 hI3 hI4 hi1 hi2
            have hmk := mk_ints B.wanted.length (by have := hw4.out; omega) w4
            obtain ⟨w5, hw5⟩ : ∃ y, w4.alloc (.cells (List.replicate B.wanted.length (.int .i64 0)).toArray 3) = y := ⟨_, rfl⟩
            rw [hw5] at hmk
            have hb5 := show Below w4.heap.size w4 w5 by rw [← hw5]; exact (Below.refl _ _).alloc (Nat.le_refl _) _
            have hr5 := hide (show RowAt w5 (fun g => g < w4.heap.size) 3 1 (.slice (some ⟨w4.heap.size, 0, none⟩) B.wanted.length B.wanted.length) ((cntL B 0).map iCells) by
              rw [← cntL_zero]; exact row_zeros (by rw [← hw5]; exact blkNew rfl) (by have := hw4.out; omega) (Nat.lt_irrefl _))
            have hB5 := hide hb5
            have bW5 := hide (bW.out.below hb5 bW.out.lt)
            clear hw5 hb5
            have hq0 := hide (show fErr (fun i => qErr B (B.qs[i]?.getD default)) 0 (B.qs.length - 0) = qsE B from rfl)
            go_wp2
            clear hmk hd hd2 c0 c1 c2 c3
            obtain ⟨nq, hnqe⟩ : ∃ n, B.qs.length = n := ⟨_, rfl⟩
            rw [hnqe] at hq0 hq16 hnq
            rw [hnqe]
            replace hnqe := hide hnqe
            go_loopg [6] nq (fun gg s6 wr => ∃ i : Nat, i ≤ nq ∧ nq - i ≤ gg ∧ s6 = .int .i64 i ∧ Hid (KeptX (fun g => g < w4.heap.size) w4 wr) ∧ Hid (RowAt wr (fun g => g < w4.heap.size) 3 1 (.slice (some ⟨w4.heap.size, 0, none⟩) B.wanted.length B.wanted.length) ((cntL B i).map iCells)) ∧ Hid (fErr (fun i => qErr B (B.qs[i]?.getD default)) i (nq - i) = qsE B))
            case atStart => exact ⟨0, by omega, by omega, rfl, hide ⟨hB5.out.os, hB5.out.tape, hB5.out.output, hB5.out.size, hB5.out.block⟩, hr5, hq0⟩
            case round =>
              clear hr5 hB5 bW5 hq0
              obtain ⟨i, hi, hg, rfl, hk, hrow, hfe⟩ := hrel
              have hbr := hide (KeptX.below hk.out)
              have bWr := hide (bW.out.below hbr.out bW.out.lt)
              have hBr := hide (hBW.out.trans (hbr.out.mono hBW.out.size))
              by_cases hil : i < nq
              · have hilz : (i : Int) < (nq : Int) := by omega
                obtain ⟨bq, oq, rfl, hlq, ex, ey, ez⟩ := q_cells (hBk.out wr hBr.out) (i := i) (by rw [hnqe.out]; exact hil)
                obtain ⟨qp, qa, qw, hqe⟩ : ∃ a b c, B.qs[i]?.getD default = ⟨a, b, c⟩ := ⟨_, _, _, rfl⟩
                rw [hqe] at ex ey ez
                simp only at ex ey ez
                have hfs := hfe.out
                rw [show nq - i = (nq - (i + 1)) + 1 by omega, fErr, hqe] at hfs
                have hqer : qErr B ⟨qp, qa, qw⟩ = if inB 0 ((B.wanted.length : Int) - 1) qp = false then 4 else if inB 0 100000 qa = false ∨ inB 0 qa qw = false then 7 else 0 := rfl
                have hJ1 := hide (fun W => hIn.out qp 0 ((B.wanted.length : Int) - 1) W)
                have hJ2 := hide (fun W => hIn.out qa 0 100000 W)
                have hJ3 := hide (fun W => hIn.out qw 0 qa W)
                have hpb := hide (show inB 0 ((B.wanted.length : Int) - 1) qp = true → 0 ≤ qp ∧ qp ≤ (B.wanted.length : Int) - 1 from inB_iff.1)
                generalize inB 0 ((B.wanted.length : Int) - 1) qp = j1 at *
                generalize inB 0 100000 qa = j2 at *
                generalize inB 0 qa qw = j3 at *
                have hwz : IntKind.i64.wrap ((B.wanted.length : Int) - 1) = (B.wanted.length : Int) - 1 := by rw [IntKind.wrap_i64]; have := hw4.out; omega
                have hiw : IntKind.i64.wrap ((i : Int) + 1) = (i : Int) + 1 := by rw [IntKind.wrap_i64]; omega
                obtain ⟨w6, hw6⟩ : ∃ y, wr.alloc (.cells #[.int .i64 qp, .int .i64 qa, .int .i64 qw] 61) = y := ⟨_, rfl⟩
                have kq := hide (show Blk w6 wr.heap.size 61 #[.int .i64 qp, .int .i64 qa, .int .i64 qw] by rw [← hw6]; exact blkNew rfl)
                have hb6 := hide (show Below wr.heap.size wr w6 by rw [← hw6]; exact (Below.refl _ _).alloc (Nat.le_refl _) _)
                have hB6 := hide (hBr.out.trans (hb6.out.mono hBr.out.size))
                have bW6 := hide (bWr.out.below hb6.out bWr.out.lt)
                have hrow6 := hide (hrow.out.below hb6.out)
                have hk6 := hide (hk.out.trans (show KeptX (fun g => g < w4.heap.size) wr w6 from ⟨hb6.out.os, hb6.out.tape, hb6.out.output, hb6.out.size, fun g hg => hb6.out.block g (Nat.lt_of_lt_of_le hg hk.out.size)⟩))
                replace hw6 := hide hw6
                replace hfs := hide hfs
                replace hqer := hide hqer
                have bo := bWr.out
                have c0 : wr.cell? ⟨w.heap.size, 0, none⟩ = some (.slice (some ⟨bq, oq, none⟩) nq cq) := by rw [← hnqe.out]; exact bo.cell 0
                have c1 : wr.cell? ⟨w.heap.size, 1, none⟩ = some (.slice Wd B.wanted.length cw) := bo.cell 1
                clear bo
                go_upto_region 12 with fail
                rw [hw6.out]
                clear c0 c1 ex ey ez
                have bo := bW6.out
                have c1 : w6.cell? ⟨w.heap.size, 1, none⟩ = some (.slice Wd B.wanted.length cw) := bo.cell 1
                have kk := kq.out
                have k0 : w6.cell? ⟨wr.heap.size, 0, none⟩ = some (.int .i64 qp) := kk.cell 0
                have k1 : w6.cell? ⟨wr.heap.size, 1, none⟩ = some (.int .i64 qa) := kk.cell 1
                have k2 : w6.cell? ⟨wr.heap.size, 2, none⟩ = some (.int .i64 qw) := kk.cell 2
                clear bo kk
                go_wp2_with fail
                refine (hJ1.out w6).mono ?_
                rintro e w7 ⟨rfl, rfl⟩
                cases j1 with
                | false =>
                  have h1 := hqer.out
                  rw [if_pos rfl] at h1
                  have h2 := hfs.out
                  rw [h1, if_neg (by decide)] at h2
                  have h3 := hR.out
                  rw [← h2, if_pos (by simp)] at h3
                  injection h3 with hx hyz
                  injection hyz with hy hz
                  subst hx hy hz
                  go_wp2
                  go_ret3
                  exact ⟨rfl, hB6.out⟩
                | true =>
                  have hpr := hpb.out rfl
                  go_wp2_with fail
                  refine (hJ2.out w7).mono ?_
                  rintro e w8 ⟨rfl, rfl⟩
                  cases j2 with
                  | false =>
                    have h1 := hqer.out
                    rw [if_neg (by decide), if_pos (.inl rfl)] at h1
                    have h2 := hfs.out
                    rw [h1, if_neg (by decide)] at h2
                    have h3 := hR.out
                    rw [← h2, if_pos (by simp)] at h3
                    injection h3 with hx hyz
                    injection hyz with hy hz
                    subst hx hy hz
                    go_wp2
                    go_ret3
                    exact ⟨rfl, hB6.out⟩
                  | true =>
                    go_wp2_with fail
                    refine (hJ3.out w8).mono ?_
                    rintro e w9 ⟨rfl, rfl⟩
                    cases j3 with
                    | false =>
                      have h1 := hqer.out
                      rw [if_neg (by decide), if_pos (.inr rfl)] at h1
                      have h2 := hfs.out
                      rw [h1, if_neg (by decide)] at h2
                      have h3 := hR.out
                      rw [← h2, if_pos (by simp)] at h3
                      injection h3 with hx hyz
                      injection hyz with hy hz
                      subst hx hy hz
                      go_wp2
                      go_ret3
                      exact ⟨rfl, hB6.out⟩
                    | true =>
                      have h1 := hqer.out
                      rw [if_neg (by decide), if_neg (by simp)] at h1
                      have h2 := hfs.out
                      rw [h1, if_pos rfl] at h2
                      replace h2 := hide h2
                      obtain ⟨p, rfl⟩ : ∃ p : Nat, qp = (p : Int) := ⟨qp.toNat, by omega⟩
                      have hpn : p < B.wanted.length := by omega
                      have hpz : (p : Int) < (B.wanted.length : Int) := by omega
                      have hp0 : (0 : Int) ≤ (p : Int) := by omega
                      have hcl := cntT_le B i p
                      have hst := cntL_step (B := B) (i := i) (p := p) (by rw [hnqe.out]; exact hil) (by rw [hqe])
                      have hcnt := cntL_at B i p hpn
                      rw [hnqe.out] at hcl
                      generalize cntT B i p = ct at *
                      have hctw : IntKind.i64.wrap ((ct : Int) + 1) = (ct : Int) + 1 := by rw [IntKind.wrap_i64]; have := hq16.out; omega
                      obtain ⟨cm, zm⟩ := row_int_at hrow6.out (j := p) (by rw [cntL_len]; exact hpn)
                      rw [hcnt] at cm
                      have hrow9 := rowInt_set hrow6.out (j := p) (by rw [cntL_len]; exact hpn) ((ct : Int) + 1)
                      rw [hst] at hrow9
                      replace hrow9 := hide hrow9
                      have hk9 := hide (hk6.out.trans (KeptX.setCell (X := fun g => g < w4.heap.size) w9 (p := ⟨w4.heap.size, p, none⟩) (fun hx => absurd hx (Nat.lt_irrefl _)) (.int .i64 ((ct : Int) + 1))))
                      clear hst hcnt hrow6 hk6 hfs hqer hqe
                      go_wp2
                      go_roundg (nq - (i + 1))
                      case measure => omega
                      case rel => exact ⟨i + 1, by omega, by omega, by go_num, hk9, hrow9, h2⟩
              · have hilz : ¬ (i : Int) < (nq : Int) := by omega
                obtain rfl : i = nq := by omega
                have hqz := hfe.out
                rw [Nat.sub_self, fErr] at hqz
                have h3 := hR.out
                rw [← hqz, if_neg (by decide)] at h3
                have hR2 := hide h3
                have hend := hide (fun p (hp : p < B.wanted.length) => show (cntL B i)[p]?.getD 0 = (leftP B 0 p : Int) from by rw [cntL_at B i p hp, ← hnqe.out, cntT_end])
                clear hqz h3 hR hfe hIn
                have hIn := hide in_any
                have bo := bWr.out
                have c0 : wr.cell? ⟨w.heap.size, 0, none⟩ = some (.slice Q i cq) := by rw [← hnqe.out]; exact bo.cell 0
                have c1 : wr.cell? ⟨w.heap.size, 1, none⟩ = some (.slice Wd B.wanted.length cw) := bo.cell 1
                clear bo
                obtain ⟨nw, hnwe⟩ : ∃ n, B.wanted.length = n := ⟨_, rfl⟩
                have hw0 := hide (show fErr (wErr B) 0 (nw - 0) = wsE B by rw [← hnwe]; rfl)
                rw [hnwe] at hw4 hend hrow
                rw [hnwe]
                have hll : (cntL B i).length = nw := by rw [cntL_len, hnwe]
                replace hnwe := hide hnwe
                go_wp2
                clear c0 c1
                generalize wr = wo at *
                go_loopg [8] nw (fun gg s8 wz => ∃ p q : Nat, p ≤ nw ∧ nw - p ≤ gg ∧ s8 = .int .i64 p ∧ Hid (wz = wo.drewN q) ∧ Hid (fErr (wErr B) p (nw - p) = wsE B))
                case atStart => exact ⟨0, 0, by omega, by omega, rfl, hide rfl, hw0⟩
                case round =>
                  clear hw0
                  obtain ⟨p, q, hp, hg2, rfl, hwz, hwe⟩ := hrel
                  generalize wr = wz at *
                  have hBz := hide (show Below w.heap.size w wz by rw [hwz.out]; exact below_drewN hBr.out _)
                  by_cases hpl : p < nw
                  · have hpz : (p : Int) < (nw : Int) := by omega
                    have hp0 : (0 : Int) ≤ (p : Int) := by omega
                    obtain ⟨bw, ow, rfl, hbw, hcw⟩ := (hBk.out wz hBz.out).ws.2 (by rw [hnwe.out]; omega)
                    have c1 : wz.cell? ⟨w.heap.size, 1, none⟩ = some (.slice (some ⟨bw, ow, none⟩) nw cw) := by rw [← hnwe.out, hwz.out]; exact bWr.out.cell 1
                    have c5 : wz.cell? ⟨bw, ow + p, none⟩ = some (.int .i64 (B.wanted[p]?.getD 0)) := hcw p (by rw [hnwe.out]; exact hpl)
                    obtain ⟨cm, -⟩ := row_int_at hrow.out (j := p) (by rw [hll]; exact hpl)
                    rw [hend.out p hpl] at cm
                    replace cm : wz.cell? ⟨w4.heap.size, p, none⟩ = some (.int .i64 (leftP B 0 p : Int)) := by rw [hwz.out]; exact cm
                    have hwer : wErr B p = if inB 1 (leftP B 0 p) (B.wanted[p]?.getD 0) = false then 7 else 0 := rfl
                    have hwe2 := hwe.out
                    rw [show nw - p = (nw - (p + 1)) + 1 by omega, fErr] at hwe2
                    have hcl : ∀ j, Calls Try.prog 48 #[.int .i64 (B.wanted[p]?.getD 0), .int .i64 1, .int .i64 (leftP B 0 p : Int)] (wz.drewN j) fun e w' => e = .returned (.bool (inB 1 (leftP B 0 p) (B.wanted[p]?.getD 0))) ∧ ∃ m, w' = wz.drewN m := fun j => (hIn.out _ _ _ _).mono fun e w' ⟨h1, h2⟩ => ⟨h1, j, h2⟩
                    have hpw : IntKind.i64.wrap ((p : Int) + 1) = (p : Int) + 1 := by rw [IntKind.wrap_i64]; have := hw4.out; omega
                    generalize inB 1 (leftP B 0 p) (B.wanted[p]?.getD 0) = k1 at *
                    generalize B.wanted[p]?.getD 0 = wp at *
                    replace hcl := hide hcl
                    replace hwer := hide hwer
                    replace hwe2 := hide hwe2
                    clear hcw hbw hwe
                    cases k1 with
                    | false =>
                      have h1 := hwer.out
                      rw [if_pos rfl] at h1
                      have h2 := hwe2.out
                      rw [h1, if_neg (by decide)] at h2
                      have h3 := hR2.out
                      rw [← h2, if_pos (by simp)] at h3
                      injection h3 with hx hyz
                      injection hyz with hy hz
                      subst hx hy hz
                      go_wp2
                      go_quiet ((go_at_call 48; exact hcl.out _))
                      go_wp2
                      go_ret3
                      exact ⟨rfl, below_drewN hBz.out _⟩
                    | true =>
                      have h1 := hwer.out
                      rw [if_neg (by decide)] at h1
                      have h2 := hwe2.out
                      rw [h1, if_pos rfl] at h2
                      replace h2 := hide h2
                      go_wp2
                      go_quiet ((go_at_call 48; exact hcl.out _))
                      go_wp2
                      go_roundg (nw - (p + 1))
                      case measure => omega
                      case rel => exact ⟨p + 1, _, by omega, by omega, by go_num, hide (by rw [hwz.out]; exact World.drewN_drewN _ _ _), h2⟩
                  · have hpz : ¬ (p : Int) < (nw : Int) := by omega
                    obtain rfl : p = nw := by omega
                    have hwq := hwe.out
                    rw [Nat.sub_self, fErr] at hwq
                    have h3 := hR2.out
                    rw [← hwq, if_neg (by decide)] at h3
                    injection h3 with hx hyz
                    injection hyz with hy hz
                    subst hx hy hz
                    go_wp2
                    go_ret3
                    exact ⟨rfl, hBz.out⟩
end Go.Proofs.Ytnmgnonbgihalaa
