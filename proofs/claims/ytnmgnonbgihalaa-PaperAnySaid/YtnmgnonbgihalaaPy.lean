import Derived.Test.YtnmgnonbgihalaaPx
import Derived.Test.YtnmgnonbgihalaaPm
/-
  The reference's Level and Is (made by gen_reff.py).
-/
namespace Go.Proofs.Ytnmgnonbgihalaa
open Go.RowKit RG

set_option maxRecDepth 100000 in
set_option maxHeartbeats 4000000 in
theorem Level_any (Q Wd : Option Addr) (cq cw : Nat) (B : Bank) (A : Option Addr) (n c : Nat) (xs : List Int) (w : World) (h : BkR w Q Wd B) (hB : BankOk B) (hX : RdInts w A n xs) (hn : n ≤ 1000) (hx : ∀ x ∈ xs, 0 ≤ x ∧ x < B.qs.length) :
    Calls Try.prog 66 #[bkV Q Wd cq cw B, .slice A n c] w fun e w' => e = .returned (.int .i64 (levX B xs)) ∧ Below w.heap.size w w' := by
  have hxl := hX.1
  have hnq := hB.nq
  have hst := hide (fun i (hi : i < n) => levX_step (B := B) (xs := xs) (i := i) (by omega))
  have hbd := hide (fun i => show 0 ≤ levX B (xs.take i) ∧ levX B (xs.take i) ≤ 1000000 from by
    have h1 := levX_bd hB (xs.take i)
    have h2 : (xs.take i).length ≤ 1000 := by rw [List.length_take]; omega
    omega)
  have hbk := hide (fun W (hb : Below w.heap.size w W) => h.below hb)
  have hXk := hide (fun W (hb : Below w.heap.size w W) => hX.below hb)
  have hqb := hide (fun x (hx : x < B.qs.length) => show (0 ≤ (B.qs[x]?.getD default).asked ∧ (B.qs[x]?.getD default).asked ≤ 100000) ∧ 0 ≤ (B.qs[x]?.getD default).wrong ∧ (B.qs[x]?.getD default).wrong ≤ (B.qs[x]?.getD default).asked from by
    rw [List.getElem?_eq_getElem hx, Option.getD_some]
    exact (hB.qs _ (List.getElem_mem hx)).2)
  have hend := hide (show levX B xs = levX B (xs.take n) by rw [List.take_of_length_le (by omega)])
  have hxm := hide (fun i (hi : i < n) => show ∃ x : Nat, xs[i]?.getD 0 = (x : Int) ∧ x < B.qs.length from by
    have h9 := hx (xs[i]'(by omega)) (List.getElem_mem _)
    refine ⟨(xs[i]'(by omega)).toNat, ?_, by omega⟩
    rw [List.getElem?_eq_getElem (by omega), Option.getD_some]
    omega)
  obtain ⟨R, hR⟩ : ∃ R, levX B xs = R := ⟨_, rfl⟩
  rw [hR] at hend ⊢
  replace hR := hide hR
  clear h hX hx
  unfold bkV
  obtain ⟨W, hW⟩ : ∃ y, w.alloc (.cells #[.slice Q B.qs.length cq, .slice Wd B.wanted.length cw, .int .i64 B.lo, .int .i64 B.hi] 27) = y := ⟨_, rfl⟩
  have bW := hide (show Blk W w.heap.size 27 #[.slice Q B.qs.length cq, .slice Wd B.wanted.length cw, .int .i64 B.lo, .int .i64 B.hi] by rw [← hW]; exact blkNew rfl)
  have hBW := hide (show Below w.heap.size w W by rw [← hW]; exact (Below.refl _ _).alloc (Nat.le_refl _) _)
  replace hW := hide hW
  go_enter Try.func66, Try.ntmps66
  go_upto_region 1 with fail
  rw [hW.out]
  go_wp2
  go_loopg [5, 6] (n + 1) (fun g s5 s6 wr => ∃ i : Nat, i ≤ n ∧ n < g + i ∧ s5 = .int .i64 (levX B (xs.take i)) ∧ s6 = .int .i64 i ∧ Hid (Below W.heap.size W wr))
  case atStart => exact ⟨0, by omega, by omega, rfl, rfl, hide (Below.refl _ _)⟩
  case round =>
    obtain ⟨i, hi, hg, rfl, rfl, hbr⟩ := hrel
    have hBr := hide (hBW.out.trans (hbr.out.mono hBW.out.size))
    have bWr := hide (bW.out.below hbr.out bW.out.lt)
    by_cases hlt : i < n
    · have hltz := hide (show (i : Int) < (n : Int) by omega)
      have hltz' : (i : Int) < (n : Int) := hltz.out
      have hi0 := hide (show (0 : Int) ≤ (i : Int) by omega)
      have hiw : IntKind.i64.wrap ((i : Int) + 1) = (i : Int) + 1 := by rw [IntKind.wrap_i64]; omega
      obtain ⟨x, hxe, hxq⟩ := hxm.out i hlt
      obtain ⟨bx, ox, rfl, hbx, hcx⟩ := (hXk.out wr hBr.out).2 (by omega)
      have cxi := hide (show wr.cell? ⟨bx, ox + i, none⟩ = some (.int .i64 (x : Int)) by rw [← hxe]; exact hcx i hlt)
      obtain ⟨bq, oq, rfl, hbq, ex, ey, ez⟩ := q_cells (hbk.out wr hBr.out) hxq
      have hxz := hide (show (x : Int) < (B.qs.length : Int) by omega)
      have hx0 := hide (show (0 : Int) ≤ (x : Int) by omega)
      have hs5 := hst.out i hlt
      rw [hxe, Int.toNat_natCast] at hs5
      have hwa : wAt B x = weight (B.qs[x]?.getD default) := rfl
      have hqx := hqb.out x hxq
      have hwb := wAt_bd hB x
      obtain ⟨qp, qa, qw, hqe⟩ : ∃ a b c, B.qs[x]?.getD default = ⟨a, b, c⟩ := ⟨_, _, _, rfl⟩
      rw [hqe] at ex ey ez hqx hwa
      simp only at ex ey ez hqx
      have hWt := hide (fun W => Weight_any ⟨qp, qa, qw⟩ hqx W)
      rw [← hwa] at hWt
      dsimp only at hWt
      have hb9 := hbd.out i
      generalize wAt B x = wt at *
      generalize levX B (xs.take i) = nv at *
      have hnw := hide (show IntKind.i64.wrap (nv + wt) = nv + wt by rw [IntKind.wrap_i64]; omega)
      replace ex := hide ex
      replace ey := hide ey
      replace ez := hide ez
      replace hbx := hide hbx
      replace hbq := hide hbq
      replace hs5 := hide hs5
      have hJ0 := hide (show (fun (_ : Nat → Bool) (W' : World) => Below wr.heap.size wr W') (fun _ => false) wr.drew from (Below.refl _ _).drew)
      clear hcx hqx hwa hqe hwb hb9 hxe hst hbd hxm hqb
      go_wp2
      refine region_cso [.int .i64 nv, .pointer (some ⟨w.heap.size, 0, none⟩), .slice (some ⟨bq, oq, none⟩) B.qs.length cq, .slice (some ⟨bx, ox, none⟩) n c, .int .i64 (i : Int), .pointer (some ⟨bx, ox + i, none⟩), .int .i64 (x : Int), .pointer (some ⟨bq, oq + x * 3, none⟩), .agg #[.int .i64 qp, .int .i64 qa, .int .i64 qw], .int .i64 wt, .int .i64 (nv + wt), .int .i64 (nv + wt)] (fun (_ : Nat → Bool) (W' : World) => Below wr.heap.size wr W') (by kernel_rfl) (by kernel_rfl) (hJ0.out) ?_ ?_
      · refine ⟨?_, ?_, ?_, ?_, ?_, ?_, ?_, ?_, ?_, ?_, ?_, ?_, trivial⟩
        · refine ⟨by kernel_rfl, ?_⟩
          intro Tf f y W4 Kq Qq hF hJ4 hf hst hcl hd hK
          have g11 : f 11 = false := by
            cases h11 : f 11 with
            | false => rfl
            | true =>
              have h10 := hcl 11 _ h11 rfl 10 (by kernel_rfl)
              have h0 := hcl 10 _ h10 rfl 0 (by kernel_rfl)
              rw [hf] at h0
              cases h0
          have o5 : y 11 = .int .i64 nv := (hst 11 g11).trans (by kernel_rfl)
          have t5 := hF.get 11 5 (by kernel_rfl)
          rw [o5] at t5
          clear hF hd
          clear hst hcl
          go_simp
          exact hK _ (hJ4)
        · refine ⟨by kernel_rfl, ?_⟩
          intro Tf f y W4 Kq Qq hF hJ4 hf hst hcl hd hK
          have t2 := hF.old 2 (.pointer (some ⟨w.heap.size, 0, none⟩)) (by kernel_rfl) (by kernel_rfl)
          clear hF hd
          clear hst hcl
          go_simp
          exact hK _ (hJ4)
        · refine ⟨by kernel_rfl, ?_⟩
          intro Tf f y W4 Kq Qq hF hJ4 hf hst hcl hd hK
          have p1 : y 1 = .pointer (some ⟨w.heap.size, 0, none⟩) := (hd 1 (by kernel_rfl)).2 _ rfl
          have t14 := hF.get 1 14 (by kernel_rfl)
          rw [p1] at t14
          clear hF hd
          clear hst hcl
          have bx4 := bWr.out.below hJ4 bWr.out.lt
          have c0 : W4.cell? ⟨w.heap.size, 0, none⟩ = some (.slice (some ⟨bq, oq, none⟩) B.qs.length cq) := bx4.cell 0
          clear bx4
          go_simp
          exact hK _ (hJ4)
        · refine ⟨by kernel_rfl, ?_⟩
          intro Tf f y W4 Kq Qq hF hJ4 hf hst hcl hd hK
          have t1 := hF.old 1 (.slice (some ⟨bx, ox, none⟩) n c) (by kernel_rfl) (by kernel_rfl)
          clear hF hd
          clear hst hcl
          go_simp
          exact hK _ (hJ4)
        · refine ⟨by kernel_rfl, ?_⟩
          intro Tf f y W4 Kq Qq hF hJ4 hf hst hcl hd hK
          have t6 := hF.old 6 (.int .i64 (i : Int)) (by kernel_rfl) (by kernel_rfl)
          clear hF hd
          clear hst hcl
          go_simp
          exact hK _ (hJ4)
        · refine ⟨by kernel_rfl, ?_⟩
          intro Tf f y W4 Kq Qq hF hJ4 hf hst hcl hd hK
          have p3 : y 3 = .slice (some ⟨bx, ox, none⟩) n c := (hd 3 (by kernel_rfl)).2 _ rfl
          have p4 : y 4 = .int .i64 (i : Int) := (hd 4 (by kernel_rfl)).2 _ rfl
          have t16 := hF.get 3 16 (by kernel_rfl)
          rw [p3] at t16
          have t17 := hF.get 4 17 (by kernel_rfl)
          rw [p4] at t17
          clear hF hd
          clear hst hcl
          have u1 := hltz.out
          have u2 := hi0.out
          go_simp
          exact hK _ (hJ4)
        · refine ⟨by kernel_rfl, ?_⟩
          intro Tf f y W4 Kq Qq hF hJ4 hf hst hcl hd hK
          have p5 : y 5 = .pointer (some ⟨bx, ox + i, none⟩) := (hd 5 (by kernel_rfl)).2 _ rfl
          have t18 := hF.get 5 18 (by kernel_rfl)
          rw [p5] at t18
          clear hF hd
          clear hst hcl
          have cx : W4.cell? ⟨bx, ox + i, none⟩ = some (.int .i64 (x : Int)) := (cellB hJ4 hbx.out).trans cxi.out
          go_simp
          exact hK _ (hJ4)
        · refine ⟨by kernel_rfl, ?_⟩
          intro Tf f y W4 Kq Qq hF hJ4 hf hst hcl hd hK
          have p2 : y 2 = .slice (some ⟨bq, oq, none⟩) B.qs.length cq := (hd 2 (by kernel_rfl)).2 _ rfl
          have p6 : y 6 = .int .i64 (x : Int) := (hd 6 (by kernel_rfl)).2 _ rfl
          have t15 := hF.get 2 15 (by kernel_rfl)
          rw [p2] at t15
          have t19 := hF.get 6 19 (by kernel_rfl)
          rw [p6] at t19
          clear hF hd
          clear hst hcl
          have u1 := hxz.out
          have u2 := hx0.out
          go_simp
          exact hK _ (hJ4)
        · refine ⟨by kernel_rfl, ?_⟩
          intro Tf f y W4 Kq Qq hF hJ4 hf hst hcl hd hK
          have p7 : y 7 = .pointer (some ⟨bq, oq + x * 3, none⟩) := (hd 7 (by kernel_rfl)).2 _ rfl
          have t20 := hF.get 7 20 (by kernel_rfl)
          rw [p7] at t20
          clear hF hd
          clear hst hcl
          have q0 : W4.cell? ⟨bq, oq + x * 3, none⟩ = some (.int .i64 qp) := (cellB hJ4 hbq.out).trans ex.out
          have q1 : W4.cell? ⟨bq, oq + x * 3 + 1, none⟩ = some (.int .i64 qa) := (cellB hJ4 hbq.out).trans ey.out
          have q2 : W4.cell? ⟨bq, oq + x * 3 + 2, none⟩ = some (.int .i64 qw) := (cellB hJ4 hbq.out).trans ez.out
          go_simp
          exact hK _ (hJ4)
        · refine ⟨by kernel_rfl, ?_⟩
          intro Tf f y W4 Kq Qq hF hJ4 hf hst hcl hd hK
          have p8 : y 8 = .agg #[.int .i64 qp, .int .i64 qa, .int .i64 qw] := (hd 8 (by kernel_rfl)).2 _ rfl
          have t21 := hF.get 8 21 (by kernel_rfl)
          rw [p8] at t21
          have hs := hWt.out W4
          clear hF hd
          clear hst hcl
          go_simp
          refine hs.mono ?_
          rintro e w7 ⟨rfl, hb7⟩
          exact hK _ (hJ4.trans (hb7.mono hJ4.size))
        · refine ⟨by kernel_rfl, ?_⟩
          intro Tf f y W4 Kq Qq hF hJ4 hf hst hcl hd hK
          have p0 : y 0 = .int .i64 nv := (hd 0 (by kernel_rfl)).2 _ rfl
          have p9 : y 9 = .int .i64 wt := (hd 9 (by kernel_rfl)).2 _ rfl
          have t13 := hF.get 0 13 (by kernel_rfl)
          rw [p0] at t13
          have t22 := hF.get 9 22 (by kernel_rfl)
          rw [p9] at t22
          clear hF hd
          clear hst hcl
          have u3 := hnw.out
          go_simp
          exact hK _ (hJ4)
        · refine ⟨by kernel_rfl, ?_⟩
          intro Tf f y W4 Kq Qq hF hJ4 hf hst hcl hd hK
          have p10 : y 10 = .int .i64 (nv + wt) := (hd 10 (by kernel_rfl)).2 _ rfl
          have t23 := hF.get 10 23 (by kernel_rfl)
          rw [p10] at t23
          clear hF hd
          clear hst hcl
          go_simp
          exact hK _ (hJ4)
      intro f y W8 hf hJ hE
      have e11 : y 11 = .int .i64 (nv + wt) := hE 11 _ (by decide) rfl
      clear hE
      simp only [putAll, Act.put]
      simp only [List.setIfInBounds_toArray, List.set_cons_succ, List.set_cons_zero]
      rw [e11]
      have hb8 := hide (hbr.out.trans (hJ.mono hbr.out.size))
      go_wp2
      go_roundg (n - i)
      case measure => omega
      case rel => exact ⟨i + 1, by omega, by omega, by rw [hs5.out], by go_num, hb8⟩
    · have hltz : ¬ (i : Int) < (n : Int) := by omega
      obtain rfl : i = n := by omega
      rw [← hend.out]
      go_wp2
      go_ret
      exact ⟨rfl, hBr.out⟩
end Go.Proofs.Ytnmgnonbgihalaa

/-
  The reference's Is (made by gen_refg.py).
-/
namespace Go.Proofs.Ytnmgnonbgihalaa
open Go.RowKit RG

set_option maxRecDepth 100000 in
set_option maxHeartbeats 4000000 in
theorem Is_any (Q Wd : Option Addr) (cq cw : Nat) (B : Bank) (A : Option Addr) (n c : Nat) (xs : List Int) (w : World) (h : BkR w Q Wd B) (hB : BankOk B) (hX : RdInts w A n xs) (hn : n ≤ maxLen) :
    Calls Try.prog 37 #[bkV Q Wd cq cw B, .slice A n c] w fun e w' => e = .returned (.bool (isP B xs)) ∧ Below w.heap.size w w' := by
  unfold maxLen at hn
  have hxl := hX.1
  have hnq := hB.nq
  have hnwz := hB.nw
  have hIn := hide in_any
  have hbk := hide (fun W (hb : Below w.heap.size w W) => h.below hb)
  have hXk := hide (fun W (hb : Below w.heap.size w W) => hX.below hb)
  obtain ⟨R, hR⟩ : ∃ R, isP B xs = R := ⟨_, rfl⟩
  have hRt := hide (show IsX B xs → R = true from fun h => by rw [← hR]; exact (isX_iff hB xs).2 h)
  have hRf := hide (show ¬ IsX B xs → R = false from fun h => by rw [← hR, ← Bool.not_eq_true]; exact fun h9 => h ((isX_iff hB xs).1 h9))
  rw [hR]
  replace hR := hide hR
  have hLv := hide (fun W (hb : Below w.heap.size w W) (h1000 : n ≤ 1000) (hx : ∀ x ∈ xs, 0 ≤ x ∧ x < B.qs.length) => Level_any Q Wd cq cw B A n c xs W (h.below hb) hB (hX.below hb) h1000 hx)
  clear h hX
  have hBo := hide hB
  clear hB
  unfold bkV at *
  obtain ⟨W, hW⟩ : ∃ y, w.alloc (.cells #[.slice Q B.qs.length cq, .slice Wd B.wanted.length cw, .int .i64 B.lo, .int .i64 B.hi] 27) = y := ⟨_, rfl⟩
  have bW := hide (show Blk W w.heap.size 27 #[.slice Q B.qs.length cq, .slice Wd B.wanted.length cw, .int .i64 B.lo, .int .i64 B.hi] by rw [← hW]; exact blkNew rfl)
  have hBW := hide (show Below w.heap.size w W by rw [← hW]; exact (Below.refl _ _).alloc (Nat.le_refl _) _)
  replace hW := hide hW
  have hmk := mk_ints B.wanted.length (by omega) W
  obtain ⟨w5, hw5⟩ : ∃ y, W.alloc (.cells (List.replicate B.wanted.length (.int .i64 0)).toArray 3) = y := ⟨_, rfl⟩
  rw [hw5] at hmk
  have hb5 := show Below W.heap.size W w5 by rw [← hw5]; exact (Below.refl _ _).alloc (Nat.le_refl _) _
  have hr5 := hide (show RowAt w5 (fun g => g < W.heap.size) 3 1 (.slice (some ⟨W.heap.size, 0, none⟩) B.wanted.length B.wanted.length) ((cntXL B (xs.take 0)).map iCells) by
    rw [List.take_zero, ← cntXL_zero]; exact row_zeros (by rw [← hw5]; exact blkNew rfl) (by omega) (Nat.lt_irrefl _))
  have hk5 := hide (show KeptX (fun g => g < W.heap.size) W w5 from ⟨hb5.os, hb5.tape, hb5.output, hb5.size, hb5.block⟩)
  clear hw5 hb5
  have c1 : W.cell? ⟨w.heap.size, 1, none⟩ = some (.slice Wd B.wanted.length cw) := bW.out.cell 1
  go_enter Try.func37, Try.ntmps37
  go_upto_region 1 with fail
  rw [hW.out]
  go_wp2
  clear hmk c1
  go_loopg [6, 7] n (fun gg s6 _ wr => ∃ i : Nat, i ≤ n ∧ n - i ≤ gg ∧ s6 = .int .i64 i ∧ Hid (∃ wm q, KeptX (fun g => g < W.heap.size) W wm ∧ RowAt wm (fun g => g < W.heap.size) 3 1 (.slice (some ⟨W.heap.size, 0, none⟩) B.wanted.length B.wanted.length) ((cntXL B (xs.take i)).map iCells) ∧ wr = World.drewN wm q) ∧ Hid (∀ x ∈ xs.take i, 0 ≤ x ∧ x < B.qs.length) ∧ Hid ((xs.take i).Pairwise (· < ·)))
  case atStart => exact ⟨0, by omega, by omega, rfl, hide ⟨w5, 0, hk5.out, hr5.out, rfl⟩, hide (by simp), hide (by simp)⟩
  case round =>
    clear hk5 hr5
    obtain ⟨i, hi, hg, rfl, hst, hrg, hpw⟩ := hrel
    obtain ⟨wm, qm, hkm, hrowm, hwm⟩ := hst.out
    have hk := hide (show KeptX (fun g => g < W.heap.size) W wr by rw [hwm]; exact ⟨hkm.os, hkm.tape, hkm.output, hkm.size, hkm.block⟩)
    have hrow := hide (show RowAt wr (fun g => g < W.heap.size) 3 1 (.slice (some ⟨W.heap.size, 0, none⟩) B.wanted.length B.wanted.length) ((cntXL B (xs.take i)).map iCells) by rw [hwm]; exact hrowm.below (below_drewN (Below.refl _ _) _))
    clear hst hkm hrowm hwm
    have hbr := hide (KeptX.below hk.out)
    have bWr := hide (bW.out.below hbr.out bW.out.lt)
    have hBr := hide (hBW.out.trans (hbr.out.mono hBW.out.size))
    by_cases hil : i < n
    · have hilz : (i : Int) < (n : Int) := by omega
      have hi0 : (0 : Int) ≤ (i : Int) := by omega
      obtain ⟨bx, ox, rfl, hbx, hcx⟩ := (hXk.out wr hBr.out).2 (by omega)
      have cx := hcx i hil
      have hrn := hide (show IsX B xs → inB 0 ((B.qs.length : Int) - 1) (xs[i]?.getD 0) = true from fun h => by
        have := h.rng (xs[i]'(by omega)) (List.getElem_mem _)
        rw [List.getElem?_eq_getElem (by omega), Option.getD_some, inB_iff]
        omega)
      have hprev := hide (fun (h0 : 0 < i) => show wr.cell? ⟨bx, ox + (i - 1), none⟩ = some (.int .i64 (xs[i - 1]?.getD 0)) from hcx (i - 1) (by omega))
      have hpn := hide (fun (h0 : 0 < i) (h : IsX B xs) => pw_not h.asc (i := i) (by omega) h0)
      have hps := hide (fun (hl : i = 0 ∨ xs[i - 1]?.getD 0 < xs[i]?.getD 0) => pw_step hpw.out (by omega) hl)
      have hmem := hide (fun (h : 0 ≤ xs[i]?.getD 0 ∧ xs[i]?.getD 0 < B.qs.length) => show ∀ y ∈ xs.take (i + 1), 0 ≤ y ∧ y < B.qs.length from fun y hy => by
        rw [List.take_succ_eq_append_getElem (by omega)] at hy
        rcases List.mem_append.1 hy with hy | hy
        · exact hrg.out y hy
        · rw [List.mem_singleton] at hy
          subst hy
          rwa [List.getElem?_eq_getElem (by omega), Option.getD_some] at h)
      have hcs := hide (fun p (hp : partAt B (xs[i]?.getD 0).toNat = p) => cntXL_step (B := B) (xs := xs) (i := i) (p := p) (by omega) hp)
      have hcle := hide (fun p => show cntX B p (xs.take i) ≤ 16 from by
        have h1 := cntX_le B p (xs.take i)
        have h2 := asc_len hpw.out hrg.out
        omega)
      have hcat := hide (fun p (hp : p < B.wanted.length) => cntXL_at B (xs.take i) p hp)
      have hJ1 := hide (fun W => hIn.out (xs[i]?.getD 0) 0 ((B.qs.length : Int) - 1) W)
      have hjb := hide (show inB 0 ((B.qs.length : Int) - 1) (xs[i]?.getD 0) = true → 0 ≤ xs[i]?.getD 0 ∧ xs[i]?.getD 0 ≤ (B.qs.length : Int) - 1 from inB_iff.1)
      generalize inB 0 ((B.qs.length : Int) - 1) (xs[i]?.getD 0) = j1 at *
      generalize xs[i]?.getD 0 = x at *
      have hnw1 : IntKind.i64.wrap ((B.qs.length : Int) - 1) = (B.qs.length : Int) - 1 := by rw [IntKind.wrap_i64]; omega
      have hiw : IntKind.i64.wrap ((i : Int) + 1) = (i : Int) + 1 := by rw [IntKind.wrap_i64]; omega
      have c0 : wr.cell? ⟨w.heap.size, 0, none⟩ = some (.slice Q B.qs.length cq) := bWr.out.cell 0
      have hcl := hide (show ∀ j, Calls Try.prog 48 #[.int .i64 x, .int .i64 0, .int .i64 ((B.qs.length : Int) - 1)] (wr.drewN j) fun e w' => e = .returned (.bool j1) ∧ ∃ m, w' = wr.drewN m from fun j => (hJ1.out _).mono fun e w' ⟨h1, h2⟩ => ⟨h1, j, h2⟩)
      clear hcx hbx hJ1 hrg hpw
      cases j1 with
      | false =>
        obtain rfl := hRf.out (fun h => by have := hrn.out h; cases this)
        go_wp2
        go_quiet ((go_at_call 48; exact hcl.out _))
        go_wp2
        go_ret
        exact ⟨rfl, below_drewN hBr.out _⟩
      | true =>
        have hxb := hide (hjb.out rfl)
        clear hrn hjb
        by_cases h0 : 0 < i
        · have hd0 : decide ((i : Int) > 0) = true := decide_eq_true (by omega)
          have hd1 : (0 : Int) < (i : Int) := by omega
          have hiw1 : IntKind.i64.wrap ((i : Int) - 1) = (i : Int) - 1 := by rw [IntKind.wrap_i64]; omega
          have hi1 : ((i : Int) - 1).toNat = i - 1 := by omega
          have hi2 : (0 : Int) ≤ (i : Int) - 1 := by omega
          have hi3 : (i : Int) - 1 < (n : Int) := by omega
          have cp := hprev.out h0
          have hpn' := hide (hpn.out h0)
          have hps' := hide (fun (hl : xs[i - 1]?.getD 0 < x) => hps.out (.inr hl))
          generalize xs[i - 1]?.getD 0 = pv at *
          clear hprev hpn hps
          by_cases hle : x ≤ pv
          · have hl1 : decide (x ≤ pv) = true := decide_eq_true hle
            obtain rfl := hRf.out (fun h => by have := hpn'.out h; omega)
            go_wp2
            go_quiet ((go_at_call 48; exact hcl.out _))
            go_wp2
            go_ret
            exact ⟨rfl, below_drewN hBr.out _⟩
          · have hl1 : decide (x ≤ pv) = false := decide_eq_false hle
            have hpw2 := hide (hps'.out (by omega))
            replace hle := hide hle
            clear hps' hpn'
            obtain ⟨x, rfl⟩ : ∃ k : Nat, x = (k : Int) := ⟨x.toNat, by have := hxb.out; omega⟩
            have hxq : x < B.qs.length := by have := hxb.out; omega
            have hxz : (x : Int) < (B.qs.length : Int) := by omega
            have hx0 : (0 : Int) ≤ (x : Int) := by omega
            obtain ⟨bq, oq, rfl, hbq, ex, -, -⟩ := q_cells (hbk.out wr hBr.out) hxq
            rw [part_at hBo.out hxq] at ex
            have hplt := partAt_lt hBo.out hxq
            rw [Int.toNat_natCast] at hcs
            have hset := hcs.out (partAt B x) rfl
            have hct := hcle.out (partAt B x)
            have hca := hcat.out (partAt B x) hplt
            generalize partAt B x = pt at *
            have hptz : (pt : Int) < (B.wanted.length : Int) := by omega
            have hpt0 : (0 : Int) ≤ (pt : Int) := by omega
            generalize cntX B pt (xs.take i) = ct at *
            have hctw : IntKind.i64.wrap ((ct : Int) + 1) = (ct : Int) + 1 := by rw [IntKind.wrap_i64]; omega
            obtain ⟨cm, zm⟩ := row_int_at hrow.out (j := pt) (by rw [cntXL_len]; exact hplt)
            rw [hca] at cm
            have hrow9 := rowInt_set hrow.out (j := pt) (by rw [cntXL_len]; exact hplt) ((ct : Int) + 1)
            rw [hset] at hrow9
            replace hrow9 := hide hrow9
            have hk9 := hide (hk.out.trans (KeptX.setCell (X := fun g => g < W.heap.size) wr (p := ⟨W.heap.size, pt, none⟩) (fun hx => absurd hx (Nat.lt_irrefl _)) (.int .i64 ((ct : Int) + 1))))
            have hmem2 := hide (hmem.out (by omega))
            clear hset hca hmem hcs hcat hbq hcle
            go_wp2
            go_quiet ((go_at_call 48; exact hcl.out _))
            go_wp2
            go_quiet (fail)
            go_wp2
            go_roundg (n - (i + 1))
            case measure => omega
            case rel => exact ⟨i + 1, by omega, by omega, by go_num, hide ⟨_, _, hk9.out, hrow9.out, rfl⟩, hmem2, hpw2⟩
        · have hd0 : decide ((i : Int) > 0) = false := decide_eq_false (by omega)
          have hd1 : ¬ (0 : Int) < (i : Int) := by omega
          have hpw2 := hide (hps.out (.inl (by omega)))
          clear hprev hpn hps
          obtain ⟨x, rfl⟩ : ∃ k : Nat, x = (k : Int) := ⟨x.toNat, by have := hxb.out; omega⟩
          have hxq : x < B.qs.length := by have := hxb.out; omega
          have hxz : (x : Int) < (B.qs.length : Int) := by omega
          have hx0 : (0 : Int) ≤ (x : Int) := by omega
          obtain ⟨bq, oq, rfl, hbq, ex, -, -⟩ := q_cells (hbk.out wr hBr.out) hxq
          rw [part_at hBo.out hxq] at ex
          have hplt := partAt_lt hBo.out hxq
          rw [Int.toNat_natCast] at hcs
          have hset := hcs.out (partAt B x) rfl
          have hct := hcle.out (partAt B x)
          have hca := hcat.out (partAt B x) hplt
          generalize partAt B x = pt at *
          have hptz : (pt : Int) < (B.wanted.length : Int) := by omega
          have hpt0 : (0 : Int) ≤ (pt : Int) := by omega
          generalize cntX B pt (xs.take i) = ct at *
          have hctw : IntKind.i64.wrap ((ct : Int) + 1) = (ct : Int) + 1 := by rw [IntKind.wrap_i64]; omega
          obtain ⟨cm, zm⟩ := row_int_at hrow.out (j := pt) (by rw [cntXL_len]; exact hplt)
          rw [hca] at cm
          have hrow9 := rowInt_set hrow.out (j := pt) (by rw [cntXL_len]; exact hplt) ((ct : Int) + 1)
          rw [hset] at hrow9
          replace hrow9 := hide hrow9
          have hk9 := hide (hk.out.trans (KeptX.setCell (X := fun g => g < W.heap.size) wr (p := ⟨W.heap.size, pt, none⟩) (fun hx => absurd hx (Nat.lt_irrefl _)) (.int .i64 ((ct : Int) + 1))))
          have hmem2 := hide (hmem.out (by omega))
          clear hset hca hmem hcs hcat hbq hcle
          go_wp2
          go_quiet ((go_at_call 48; exact hcl.out _))
          go_wp2
          go_quiet (fail)
          go_wp2
          go_roundg (n - (i + 1))
          case measure => omega
          case rel => exact ⟨i + 1, by omega, by omega, by go_num, hide ⟨_, _, hk9.out, hrow9.out, rfl⟩, hmem2, hpw2⟩
    · have hilz : ¬ (i : Int) < (n : Int) := by omega
      obtain rfl : i = n := by omega
      have hrgx := hide (show ∀ x ∈ xs, 0 ≤ x ∧ x < B.qs.length by have := hrg.out; rwa [List.take_of_length_le (by omega)] at this)
      have hpwx := hide (show xs.Pairwise (· < ·) by have := hpw.out; rwa [List.take_of_length_le (by omega)] at this)
      have hrowx := hide (show RowAt wr (fun g => g < W.heap.size) 3 1 (.slice (some ⟨W.heap.size, 0, none⟩) B.wanted.length B.wanted.length) ((cntXL B xs).map iCells) by have := hrow.out; rwa [List.take_of_length_le (by omega)] at this)
      have hn16 : i ≤ 16 := by have := asc_len hpwx.out hrgx.out; omega
      obtain ⟨nw, hnwe⟩ : ∃ m, B.wanted.length = m := ⟨_, rfl⟩
      rw [hnwe] at hnwz hrowx
      rw [hnwe]
      have hll : (cntXL B xs).length = nw := by rw [cntXL_len, hnwe]
      have hcat := hide (fun p (hp : p < nw) => cntXL_at B xs p (by rw [hnwe]; exact hp))
      have hcle := hide (fun p => show cntX B p xs ≤ 16 from by have h1 := cntX_le B p xs; omega)
      replace hnwe := hide hnwe
      clear hrg hpw hrow
      go_wp2
      generalize wr = wo at *
      go_loopg [8] nw (fun gg s8 wr => ∃ p q : Nat, p ≤ nw ∧ nw - p ≤ gg ∧ s8 = .int .i64 p ∧ Hid (wr = wo.drewN q) ∧ Hid (∀ j, j < p → (cntX B j xs : Int) = B.wanted[j]?.getD 0))
      case atStart => exact ⟨0, 0, by omega, by omega, rfl, hide rfl, hide (fun j hj => absurd hj (by omega))⟩
      case round =>
        obtain ⟨p, q, hp, hg2, rfl, hwz, hct⟩ := hrel
        generalize wr = wz at *
        have hBz := hide (show Below w.heap.size w wz by rw [hwz.out]; exact below_drewN hBr.out _)
        have bWz := hide (show Blk wz w.heap.size 27 #[.slice Q B.qs.length cq, .slice Wd B.wanted.length cw, .int .i64 B.lo, .int .i64 B.hi] by rw [hwz.out]; exact bWr.out)
        by_cases hpl : p < nw
        · have hpz : (p : Int) < (nw : Int) := by omega
          have hp0 : (0 : Int) ≤ (p : Int) := by omega
          obtain ⟨bw, ow, rfl, hbw, hcw⟩ := (hbk.out wz hBz.out).ws.2 (by rw [hnwe.out]; omega)
          have c1 : wz.cell? ⟨w.heap.size, 1, none⟩ = some (.slice (some ⟨bw, ow, none⟩) nw cw) := by rw [← hnwe.out]; exact bWz.out.cell 1
          have c5 : wz.cell? ⟨bw, ow + p, none⟩ = some (.int .i64 (B.wanted[p]?.getD 0)) := hcw p (by rw [hnwe.out]; exact hpl)
          obtain ⟨cm, -⟩ := row_int_at hrowx.out (j := p) (by rw [hll]; exact hpl)
          rw [hcat.out p hpl] at cm
          replace cm : wz.cell? ⟨W.heap.size, p, none⟩ = some (.int .i64 (cntX B p xs : Int)) := by rw [hwz.out]; exact cm
          have hpw : IntKind.i64.wrap ((p : Int) + 1) = (p : Int) + 1 := by rw [IntKind.wrap_i64]; omega
          have hcp := hide (show IsX B xs → (cntX B p xs : Int) = B.wanted[p]?.getD 0 from fun h => h.cnt p (by rw [hnwe.out]; exact hpl))
          have hct2 := hide (fun (he : (cntX B p xs : Int) = B.wanted[p]?.getD 0) => show ∀ j, j < p + 1 → (cntX B j xs : Int) = B.wanted[j]?.getD 0 from fun j hj => by
            rcases Nat.lt_succ_iff_lt_or_eq.1 hj with h | rfl
            · exact hct.out j h
            · exact he)
          have hcl := hcle.out p
          generalize cntX B p xs = ct at *
          generalize B.wanted[p]?.getD 0 = wp at *
          clear hcw hbw hct
          by_cases he : (ct : Int) = wp
          · have hb1 : ((ct : Int) != wp) = false := by rw [he]; simp
            have hct3 := hide (hct2.out he)
            replace he := hide he
            clear hct2 hcp
            go_wp2
            go_quiet (fail)
            go_wp2
            go_roundg (nw - (p + 1))
            case measure => omega
            case rel => exact ⟨p + 1, _, by omega, by omega, by go_num, hide (by rw [hwz.out]; exact World.drewN_drewN _ _ _), hct3⟩
          · have hb1 : ((ct : Int) != wp) = true := by rw [bne_iff_ne]; exact he
            obtain rfl := hRf.out (fun h => he (hcp.out h))
            replace he := hide he
            go_wp2
            go_quiet (fail)
            go_wp2
            go_ret
            exact ⟨rfl, below_drewN hBz.out _⟩
        · have hpz : ¬ (p : Int) < (nw : Int) := by omega
          obtain rfl : p = nw := by omega
          have hfin : inB B.lo B.hi (levX B xs) = R := by
            cases hR2 : inB B.lo B.hi (levX B xs) with
            | true => exact (hRt.out ⟨hrgx.out, hpwx.out, fun j hj => hct.out j (by rw [hnwe.out] at hj; exact hj), hR2⟩).symm
            | false => exact (hRf.out (fun h => by have := h.lev; rw [show inLev B (levX B xs) = inB B.lo B.hi (levX B xs) from rfl, hR2] at this; cases this)).symm
          have hLv := hide (fun W' (hb : Below w.heap.size w W') => hLv.out W' hb (by omega) hrgx.out)
          have hJ4w := hide (fun W4 (hj : Below wz.heap.size wz W4) => show Below w.heap.size w W4 from hBz.out.trans (hj.mono hBz.out.size))
          have hJ0 := hide (show (fun (_ : Nat → Bool) (W' : World) => Below wz.heap.size wz W') (fun _ => false) wz.drew from (Below.refl _ _).drew)
          clear hct hcle hcat hrowx
          rw [hnwe.out] at bWz hLv
          replace hfin := hide hfin
          go_wp2
          refine region_cst [.agg #[.slice Q B.qs.length cq, .slice Wd p cw, .int .i64 B.lo, .int .i64 B.hi], .slice A i c, .int .i64 (levX B xs), .pointer (some ⟨w.heap.size, 2, none⟩), .pointer (some ⟨w.heap.size, 2, none⟩), .int .i64 B.lo, .pointer (some ⟨w.heap.size, 2, none⟩), .pointer (some ⟨w.heap.size, 3, none⟩), .int .i64 B.hi, .bool (inB B.lo B.hi (levX B xs)), .bool (inB B.lo B.hi (levX B xs))] (fun (_ : Nat → Bool) (W' : World) => Below wz.heap.size wz W') (by kernel_rfl) (by kernel_rfl) (hJ0.out) ?_ ?_
          · refine ⟨?_, ?_, ?_, ?_, ?_, ?_, ?_, ?_, ?_, ?_, ?_, trivial⟩
            · refine ⟨by kernel_rfl, ?_⟩
              intro Tf f y W4 Kq Qq hF hJ4 hf hd hK
              have t2 := hF.old 2 (.pointer (some ⟨w.heap.size, 0, none⟩)) (by kernel_rfl) (by kernel_rfl)
              clear hF hd
              have bx4 := bWz.out.below hJ4 bWz.out.lt
              have c0 : W4.cell? ⟨w.heap.size, 0, none⟩ = some (.slice Q B.qs.length cq) := bx4.cell 0
              have c1 : W4.cell? ⟨w.heap.size, 1, none⟩ = some (.slice Wd p cw) := bx4.cell 1
              have c2 : W4.cell? ⟨w.heap.size, 2, none⟩ = some (.int .i64 B.lo) := bx4.cell 2
              have c3 : W4.cell? ⟨w.heap.size, 3, none⟩ = some (.int .i64 B.hi) := bx4.cell 3
              clear bx4
              go_simp
              exact hK _ (hJ4)
            · refine ⟨by kernel_rfl, ?_⟩
              intro Tf f y W4 Kq Qq hF hJ4 hf hd hK
              have t1 := hF.old 1 (.slice A i c) (by kernel_rfl) (by kernel_rfl)
              clear hF hd
              go_simp
              exact hK _ (hJ4)
            · refine ⟨by kernel_rfl, ?_⟩
              intro Tf f y W4 Kq Qq hF hJ4 hf hd hK
              have p0 : y 0 = .agg #[.slice Q B.qs.length cq, .slice Wd p cw, .int .i64 B.lo, .int .i64 B.hi] := (hd 0 (by kernel_rfl)).2 _ rfl
              have p1 : y 1 = .slice A i c := (hd 1 (by kernel_rfl)).2 _ rfl
              have t76 := hF.get 0 76 (by kernel_rfl)
              rw [p0] at t76
              have t77 := hF.get 1 77 (by kernel_rfl)
              rw [p1] at t77
              have hs := hLv.out W4 (hJ4w.out W4 hJ4)
              clear hF hd
              go_simp
              refine hs.mono ?_
              rintro e w7 ⟨rfl, hb7⟩
              exact hK _ (hJ4.trans (hb7.mono hJ4.size))
            · refine ⟨by kernel_rfl, ?_⟩
              intro Tf f y W4 Kq Qq hF hJ4 hf hd hK
              have t2 := hF.old 2 (.pointer (some ⟨w.heap.size, 0, none⟩)) (by kernel_rfl) (by kernel_rfl)
              clear hF hd
              go_simp
              exact hK _ (hJ4)
            · refine ⟨by kernel_rfl, ?_⟩
              intro Tf f y W4 Kq Qq hF hJ4 hf hd hK
              have p3 : y 3 = .pointer (some ⟨w.heap.size, 2, none⟩) := (hd 3 (by kernel_rfl)).2 _ rfl
              have t79 := hF.get 3 79 (by kernel_rfl)
              rw [p3] at t79
              clear hF hd
              go_simp
              exact hK _ (hJ4)
            · refine ⟨by kernel_rfl, ?_⟩
              intro Tf f y W4 Kq Qq hF hJ4 hf hd hK
              have p4 : y 4 = .pointer (some ⟨w.heap.size, 2, none⟩) := (hd 4 (by kernel_rfl)).2 _ rfl
              have t80 := hF.get 4 80 (by kernel_rfl)
              rw [p4] at t80
              clear hF hd
              have bx4 := bWz.out.below hJ4 bWz.out.lt
              have c2 : W4.cell? ⟨w.heap.size, 2, none⟩ = some (.int .i64 B.lo) := bx4.cell 2
              clear bx4
              go_simp
              exact hK _ (hJ4)
            · refine ⟨by kernel_rfl, ?_⟩
              intro Tf f y W4 Kq Qq hF hJ4 hf hd hK
              have t2 := hF.old 2 (.pointer (some ⟨w.heap.size, 0, none⟩)) (by kernel_rfl) (by kernel_rfl)
              clear hF hd
              go_simp
              exact hK _ (hJ4)
            · refine ⟨by kernel_rfl, ?_⟩
              intro Tf f y W4 Kq Qq hF hJ4 hf hd hK
              have p6 : y 6 = .pointer (some ⟨w.heap.size, 2, none⟩) := (hd 6 (by kernel_rfl)).2 _ rfl
              have t82 := hF.get 6 82 (by kernel_rfl)
              rw [p6] at t82
              clear hF hd
              go_simp
              exact hK _ (hJ4)
            · refine ⟨by kernel_rfl, ?_⟩
              intro Tf f y W4 Kq Qq hF hJ4 hf hd hK
              have p7 : y 7 = .pointer (some ⟨w.heap.size, 3, none⟩) := (hd 7 (by kernel_rfl)).2 _ rfl
              have t83 := hF.get 7 83 (by kernel_rfl)
              rw [p7] at t83
              clear hF hd
              have bx4 := bWz.out.below hJ4 bWz.out.lt
              have c3 : W4.cell? ⟨w.heap.size, 3, none⟩ = some (.int .i64 B.hi) := bx4.cell 3
              clear bx4
              go_simp
              exact hK _ (hJ4)
            · refine ⟨by kernel_rfl, ?_⟩
              intro Tf f y W4 Kq Qq hF hJ4 hf hd hK
              have p2 : y 2 = .int .i64 (levX B xs) := (hd 2 (by kernel_rfl)).2 _ rfl
              have p5 : y 5 = .int .i64 B.lo := (hd 5 (by kernel_rfl)).2 _ rfl
              have p8 : y 8 = .int .i64 B.hi := (hd 8 (by kernel_rfl)).2 _ rfl
              have t78 := hF.get 2 78 (by kernel_rfl)
              rw [p2] at t78
              have t81 := hF.get 5 81 (by kernel_rfl)
              rw [p5] at t81
              have t84 := hF.get 8 84 (by kernel_rfl)
              rw [p8] at t84
              have hs := hIn.out (levX B xs) B.lo B.hi W4
              clear hF hd
              go_simp
              refine hs.mono ?_
              rintro e w7 ⟨rfl, rfl⟩
              exact hK _ hJ4
            · refine ⟨by kernel_rfl, ?_⟩
              intro Tf f y W4 Kq Qq hF hJ4 hf hd hK
              have p9 : y 9 = .bool (inB B.lo B.hi (levX B xs)) := (hd 9 (by kernel_rfl)).2 _ rfl
              have t85 := hF.get 9 85 (by kernel_rfl)
              rw [p9] at t85
              clear hF hd
              go_simp
              exact hK _ (hJ4)
          intro f y W8 hf hJ hE
          have e10 : y 10 = .bool (inB B.lo B.hi (levX B xs)) := hE 10 _ (by decide) rfl
          clear hE
          simp only [putAll, Act.put]
          simp only [List.setIfInBounds_toArray, List.set_cons_succ, List.set_cons_zero]
          rw [e10, hfin.out]
          have hb8 := hide (hBz.out.trans (hJ.mono hBz.out.size))
          go_wp2
          go_ret
          exact ⟨rfl, hb8.out⟩
end Go.Proofs.Ytnmgnonbgihalaa
