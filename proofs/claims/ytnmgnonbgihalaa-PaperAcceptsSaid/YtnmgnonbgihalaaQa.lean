import Derived.Test.YtnmgnonbgihalaaPy
/-
  The reference's Accept (made by gen_refh.py).
-/
namespace Go.Proofs.Ytnmgnonbgihalaa
open Go.RowKit RG

set_option maxRecDepth 100000 in
set_option maxHeartbeats 4000000 in
theorem AcceptR_any (Q Wd : Option Addr) (cq cw : Nat) (B : Bank) (hr hs hc : Int) (A : Option Addr) (n c : Nat) (ps : List (List Int)) (w : World) (h : BkR w Q Wd B) (hP : RdPaps w A n ps) :
    Calls Try.prog 34 #[bkV Q Wd cq cw B, .agg #[.int .i64 hr, .int .i64 hs, .int .i64 hc], .slice A n c] w fun e w' => e = .returned (.tuple #[.int .i64 (acceptP B hr hs hc ps).1, .int .i64 (acceptP B hr hs hc ps).2]) ∧ Below w.heap.size w w' := by
  have hml := hP.1
  have hHa := hide (fun W (hb : Below w.heap.size w W) => hall_any Q Wd cq cw B hr hs hc n W (h.below hb))
  have hbk := hide (fun W (hb : Below w.heap.size w W) => h.below hb)
  have hPb := hide (fun W (hb : Below w.heap.size w W) => hP.below hb)
  obtain ⟨x, y, hxy⟩ : ∃ x y, acceptP B hr hs hc ps = (x, y) := ⟨_, _, rfl⟩
  rw [hxy]
  dsimp only
  unfold acceptP at hxy
  rw [hml] at hxy
  have hok := hide (fun (h : enterE B hr hs hc n = 0) => enter_ok h)
  generalize hen : enterE B hr hs hc n = en at *
  replace hxy := hide hxy
  replace hen := hide hen
  clear h hP
  unfold bkV at *
  obtain ⟨W, hW⟩ : ∃ y, (w.alloc (.cells #[.slice Q B.qs.length cq, .slice Wd B.wanted.length cw, .int .i64 B.lo, .int .i64 B.hi] 27)).alloc (.cells #[.int .i64 hr, .int .i64 hs, .int .i64 hc] 44) = y := ⟨_, rfl⟩
  have bW := hide (show Blk W w.heap.size 27 #[.slice Q B.qs.length cq, .slice Wd B.wanted.length cw, .int .i64 B.lo, .int .i64 B.hi] by rw [← hW]; exact (blkNew rfl).alloc _)
  have bH := hide (show Blk W (w.heap.size + 1) 44 #[.int .i64 hr, .int .i64 hs, .int .i64 hc] by rw [← hW]; exact blkNew (by simp))
  have hBW := hide (show Below w.heap.size w W by rw [← hW]; exact ((Below.refl _ _).alloc (Nat.le_refl _) _).alloc (by simp <;> omega) _)
  replace hW := hide hW
  have bo := bW.out
  have b9 := bH.out
  have b0 : W.cell? ⟨w.heap.size, 0, none⟩ = some (.slice Q B.qs.length cq) := bo.cell 0
  have b1 : W.cell? ⟨w.heap.size, 1, none⟩ = some (.slice Wd B.wanted.length cw) := bo.cell 1
  have b2 : W.cell? ⟨w.heap.size, 2, none⟩ = some (.int .i64 B.lo) := bo.cell 2
  have b3 : W.cell? ⟨w.heap.size, 3, none⟩ = some (.int .i64 B.hi) := bo.cell 3
  have d0 : W.cell? ⟨w.heap.size + 1, 0, none⟩ = some (.int .i64 hr) := b9.cell 0
  have d1 : W.cell? ⟨w.heap.size + 1, 1, none⟩ = some (.int .i64 hs) := b9.cell 1
  have d2 : W.cell? ⟨w.heap.size + 1, 2, none⟩ = some (.int .i64 hc) := b9.cell 2
  clear bo b9
  go_enter Try.func34, Try.ntmps34
  go_upto_region 1 with fail
  rw [hW.out]
  go_wp2_with fail
  refine (hHa.out W hBW.out).mono ?_
  clear b0 b1 b2 b3 d0 d1 d2 hHa
  rintro e w2 ⟨rfl, hb⟩
  have hB2 := hide (hBW.out.trans (hb.mono hBW.out.size))
  have bW2 := hide (bW.out.below hb bW.out.lt)
  have bH2 := hide (bH.out.below hb bH.out.lt)
  clear hb bW bH hBW
  by_cases he : en ≠ 0
  · have b1 : (en != 0) = true := by rw [bne_iff_ne]; exact he
    have hE' := hxy.out
    rw [if_pos he] at hE'
    injection hE' with hx hy
    subst hx hy
    replace he := hide he
    go_wp2
    go_ret2
    exact ⟨rfl, hB2.out⟩
  · obtain rfl : en = 0 := Classical.byContradiction he
    obtain ⟨hOk, hhall, hnn⟩ := hok.out rfl
    have hn30 := hall_n ⟨hhall.1, hhall.2.1⟩ hnn
    obtain ⟨hsn, rfl⟩ : ∃ k : Nat, hs = (k : Int) := ⟨hs.toNat, by omega⟩
    have hfe0 := hxy.out
    rw [if_neg (by simp), Int.toNat_natCast] at hfe0
    replace hfe0 := hide (show fErr (accF B hsn hc ps) 0 (n - 0) = (x, y) from hfe0)
    replace hnn := hide hnn
    have hBk := hide hOk
    clear hxy hok
    go_wp2
    go_loopg [9] (n + 1) (fun gg s9 wr => ∃ i : Nat, i ≤ n ∧ n < gg + i ∧ s9 = .int .i64 i ∧ Hid (Below w2.heap.size w2 wr) ∧ Hid (fErr (accF B hsn hc ps) i (n - i) = (x, y)) ∧ Hid (∀ j, j < i → isP B (ps[j]?.getD []) = true))
    case atStart => exact ⟨0, by omega, by omega, rfl, hide (Below.refl _ _), hfe0, hide (fun j hj => absurd hj (by omega))⟩
    case round =>
    clear hfe0
    obtain ⟨i, hi, hg, rfl, hbr, hfe, hisp⟩ := hrel
    have hBr := hide (hB2.out.trans (hbr.out.mono hB2.out.size))
    have bWr := hide (bW2.out.below hbr.out bW2.out.lt)
    have bHr := hide (bH2.out.below hbr.out bH2.out.lt)
    by_cases hil : i < n
    · have hilz := hide (show (i : Int) < (n : Int) by omega)
      have hilz' : (i : Int) < (n : Int) := hilz.out
      have hi0 := hide (show (0 : Int) ≤ (i : Int) by omega)
      have hiw : IntKind.i64.wrap ((i : Int) + 1) = (i : Int) + 1 := by rw [IntKind.wrap_i64]; omega
      obtain ⟨ba, oa, rfl, hba, hcx⟩ := (hPb.out wr hBr.out).2 (by omega)
      obtain ⟨Aj, cj, cxi, hrj, hlj⟩ := hcx i hil
      have hfs := hfe.out
      rw [show n - i = (n - (i + 1)) + 1 by omega, fErr] at hfs
      have hacc : accF B hsn hc ps i = if isP B (ps[i]?.getD []) = false then 6 else if alikeP hsn hc ps i (ps[i]?.getD []) = true then 5 else 0 := rfl
      have hIs := hide (fun W4 (hj : Below wr.heap.size wr W4) => Is_any Q Wd cq cw B Aj _ cj _ W4 (hbk.out W4 (hBr.out.trans (hj.mono hBr.out.size))) hBk.out (hrj.below hj) hlj)
      have hAp := hide (fun W4 (hj : Below wr.heap.size wr W4) (hp : isP B (ps[i]?.getD []) = true) => Apart_any hr hc hsn i (some ⟨ba, oa, none⟩) Aj n c _ cj ps _ W4 (by omega) (by omega) (by omega) (by omega) ((hPb.out wr hBr.out).below hj) (hrj.below hj) (by
          have hx := (isX_iff hBk.out _).1 hp
          have := asc_len hx.asc hx.rng
          have := hBk.out.nq
          omega) (((isX_iff hBk.out _).1 hp).asc.imp fun {a b} hab => by omega) (fun j hj' => by
          have hx := (isX_iff hBk.out _).1 (hisp.out j hj')
          have := asc_len hx.asc hx.rng
          have := hBk.out.nq
          omega))
      have hisp2 := hide (fun (hp : isP B (ps[i]?.getD []) = true) => show ∀ j, j < i + 1 → isP B (ps[j]?.getD []) = true from fun j hj => by
        rcases Nat.lt_succ_iff_lt_or_eq.1 hj with h | rfl
        · exact hisp.out j h
        · exact hp)
      generalize isP B (ps[i]?.getD []) = ip at *
      generalize alikeP hsn hc ps i (ps[i]?.getD []) = al at *
      generalize (ps[i]?.getD []).length = lj at *
      unfold bkV at hIs
      replace hba := hide hba
      replace cxi := hide cxi
      replace hfs := hide hfs
      replace hacc := hide hacc
      clear hcx hrj hlj hfe hisp
      go_wp2
      refine region_cst [.agg #[.slice Q B.qs.length cq, .slice Wd B.wanted.length cw, .int .i64 B.lo, .int .i64 B.hi], .slice (some ⟨ba, oa, none⟩) n c, .int .i64 (i : Int), .pointer (some ⟨ba, oa + i, none⟩), .slice Aj lj cj, .bool ip, .bool (!ip)] (fun (_ : Nat → Bool) (W' : World) => Below wr.heap.size wr W') (by kernel_rfl) (by kernel_rfl) (Below.drew (Below.refl _ _)) ?_ ?_
      · refine ⟨?_, ?_, ?_, ?_, ?_, ?_, ?_, trivial⟩
        · refine ⟨by kernel_rfl, ?_⟩
          intro Tf f y W4 Kq Qq hF hJ4 hf hd hK
          have t3 := hF.old 3 (.pointer (some ⟨w.heap.size, 0, none⟩)) (by kernel_rfl) (by kernel_rfl)
          clear hF hd
          have bx4 := bWr.out.below hJ4 bWr.out.lt
          have c0 : W4.cell? ⟨w.heap.size, 0, none⟩ = some (.slice Q B.qs.length cq) := bx4.cell 0
          have c1 : W4.cell? ⟨w.heap.size, 1, none⟩ = some (.slice Wd B.wanted.length cw) := bx4.cell 1
          have c2 : W4.cell? ⟨w.heap.size, 2, none⟩ = some (.int .i64 B.lo) := bx4.cell 2
          have c3 : W4.cell? ⟨w.heap.size, 3, none⟩ = some (.int .i64 B.hi) := bx4.cell 3
          clear bx4
          go_simp
          exact hK _ (hJ4)
        · refine ⟨by kernel_rfl, ?_⟩
          intro Tf f y W4 Kq Qq hF hJ4 hf hd hK
          have t2 := hF.old 2 (.slice (some ⟨ba, oa, none⟩) n c) (by kernel_rfl) (by kernel_rfl)
          clear hF hd
          go_simp
          exact hK _ (hJ4)
        · refine ⟨by kernel_rfl, ?_⟩
          intro Tf f y W4 Kq Qq hF hJ4 hf hd hK
          have t9 := hF.old 9 (.int .i64 (i : Int)) (by kernel_rfl) (by kernel_rfl)
          clear hF hd
          go_simp
          exact hK _ (hJ4)
        · refine ⟨by kernel_rfl, ?_⟩
          intro Tf f y W4 Kq Qq hF hJ4 hf hd hK
          have p1 : y 1 = .slice (some ⟨ba, oa, none⟩) n c := (hd 1 (by kernel_rfl)).2 _ rfl
          have p2 : y 2 = .int .i64 (i : Int) := (hd 2 (by kernel_rfl)).2 _ rfl
          have t25 := hF.get 1 25 (by kernel_rfl)
          rw [p1] at t25
          have t26 := hF.get 2 26 (by kernel_rfl)
          rw [p2] at t26
          clear hF hd
          have u1 := hilz.out
          have u2 := hi0.out
          go_simp
          exact hK _ (hJ4)
        · refine ⟨by kernel_rfl, ?_⟩
          intro Tf f y W4 Kq Qq hF hJ4 hf hd hK
          have p3 : y 3 = .pointer (some ⟨ba, oa + i, none⟩) := (hd 3 (by kernel_rfl)).2 _ rfl
          have t27 := hF.get 3 27 (by kernel_rfl)
          rw [p3] at t27
          clear hF hd
          have cx : W4.cell? ⟨ba, oa + i, none⟩ = some (.slice Aj lj cj) := (cellB hJ4 hba.out).trans cxi.out
          go_simp
          exact hK _ (hJ4)
        · refine ⟨by kernel_rfl, ?_⟩
          intro Tf f y W4 Kq Qq hF hJ4 hf hd hK
          have p0 : y 0 = .agg #[.slice Q B.qs.length cq, .slice Wd B.wanted.length cw, .int .i64 B.lo, .int .i64 B.hi] := (hd 0 (by kernel_rfl)).2 _ rfl
          have p4 : y 4 = .slice Aj lj cj := (hd 4 (by kernel_rfl)).2 _ rfl
          have t24 := hF.get 0 24 (by kernel_rfl)
          rw [p0] at t24
          have t28 := hF.get 4 28 (by kernel_rfl)
          rw [p4] at t28
          have hs := hIs.out W4 hJ4
          clear hF hd
          go_simp
          refine hs.mono ?_
          rintro e w7 ⟨rfl, hb7⟩
          exact hK _ (hJ4.trans (hb7.mono hJ4.size))
        · refine ⟨by kernel_rfl, ?_⟩
          intro Tf f y W4 Kq Qq hF hJ4 hf hd hK
          have p5 : y 5 = .bool ip := (hd 5 (by kernel_rfl)).2 _ rfl
          have t29 := hF.get 5 29 (by kernel_rfl)
          rw [p5] at t29
          clear hF hd
          go_simp
          exact hK _ (hJ4)
      intro f y W8 hf hJ hE
      have ee : y 6 = .bool (!ip) := hE 6 _ (by decide) rfl
      clear hE
      simp only [putAll, Act.put]
      simp only [List.setIfInBounds_toArray, List.set_cons_succ, List.set_cons_zero]
      rw [ee]
      have hb8 := hide hJ
      cases ip with
      | false =>
        have h1 := hacc.out
        rw [if_pos rfl] at h1
        have h2 := hfs.out
        rw [h1, if_neg (by decide)] at h2
        injection h2 with hx hy
        subst hx hy
        have hB8 := hide (hBr.out.trans (hJ.mono hBr.out.size))
        go_wp2
        go_ret2
        exact ⟨rfl, hB8.out⟩
      | true =>
        have hAq := hide (fun W4 (hj : Below wr.heap.size wr W4) => hAp.out W4 hj rfl)
        clear hAp
        have hisp3 := hide (hisp2.out rfl)
        have h1 := hacc.out
        rw [if_neg (by decide)] at h1
        clear hisp2 hIs hacc hJ hf ee
        go_wp2
        refine region_cst [.agg #[.int .i64 hr, .int .i64 (hsn : Int), .int .i64 hc], .slice (some ⟨ba, oa, none⟩) n c, .int .i64 (i : Int), .slice (some ⟨ba, oa, none⟩) n c, .int .i64 (i : Int), .pointer (some ⟨ba, oa + i, none⟩), .slice Aj lj cj, .bool (!al), .bool al] (fun (_ : Nat → Bool) (W' : World) => Below W8.heap.size W8 W') (by kernel_rfl) (by kernel_rfl) (Below.drew (Below.refl _ _)) ?_ ?_
        · refine ⟨?_, ?_, ?_, ?_, ?_, ?_, ?_, ?_, ?_, trivial⟩
          · refine ⟨by kernel_rfl, ?_⟩
            intro Tf f y W4 Kq Qq hF hJ4 hf hd hK
            have t4 := hF.old 4 (.pointer (some ⟨w.heap.size + 1, 0, none⟩)) (by kernel_rfl) (by kernel_rfl)
            clear hF hd
            have bx4 := bHr.out.below (hb8.out.trans (hJ4.mono hb8.out.size)) bHr.out.lt
            have c0 : W4.cell? ⟨w.heap.size + 1, 0, none⟩ = some (.int .i64 hr) := bx4.cell 0
            have c1 : W4.cell? ⟨w.heap.size + 1, 1, none⟩ = some (.int .i64 (hsn : Int)) := bx4.cell 1
            have c2 : W4.cell? ⟨w.heap.size + 1, 2, none⟩ = some (.int .i64 hc) := bx4.cell 2
            clear bx4
            go_simp
            exact hK _ (hJ4)
          · refine ⟨by kernel_rfl, ?_⟩
            intro Tf f y W4 Kq Qq hF hJ4 hf hd hK
            have t2 := hF.old 2 (.slice (some ⟨ba, oa, none⟩) n c) (by kernel_rfl) (by kernel_rfl)
            clear hF hd
            go_simp
            exact hK _ (hJ4)
          · refine ⟨by kernel_rfl, ?_⟩
            intro Tf f y W4 Kq Qq hF hJ4 hf hd hK
            have t9 := hF.old 9 (.int .i64 (i : Int)) (by kernel_rfl) (by kernel_rfl)
            clear hF hd
            go_simp
            exact hK _ (hJ4)
          · refine ⟨by kernel_rfl, ?_⟩
            intro Tf f y W4 Kq Qq hF hJ4 hf hd hK
            have t2 := hF.old 2 (.slice (some ⟨ba, oa, none⟩) n c) (by kernel_rfl) (by kernel_rfl)
            clear hF hd
            go_simp
            exact hK _ (hJ4)
          · refine ⟨by kernel_rfl, ?_⟩
            intro Tf f y W4 Kq Qq hF hJ4 hf hd hK
            have t9 := hF.old 9 (.int .i64 (i : Int)) (by kernel_rfl) (by kernel_rfl)
            clear hF hd
            go_simp
            exact hK _ (hJ4)
          · refine ⟨by kernel_rfl, ?_⟩
            intro Tf f y W4 Kq Qq hF hJ4 hf hd hK
            have p3 : y 3 = .slice (some ⟨ba, oa, none⟩) n c := (hd 3 (by kernel_rfl)).2 _ rfl
            have p4 : y 4 = .int .i64 (i : Int) := (hd 4 (by kernel_rfl)).2 _ rfl
            have t35 := hF.get 3 35 (by kernel_rfl)
            rw [p3] at t35
            have t36 := hF.get 4 36 (by kernel_rfl)
            rw [p4] at t36
            clear hF hd
            have u1 := hilz.out
            have u2 := hi0.out
            go_simp
            exact hK _ (hJ4)
          · refine ⟨by kernel_rfl, ?_⟩
            intro Tf f y W4 Kq Qq hF hJ4 hf hd hK
            have p5 : y 5 = .pointer (some ⟨ba, oa + i, none⟩) := (hd 5 (by kernel_rfl)).2 _ rfl
            have t37 := hF.get 5 37 (by kernel_rfl)
            rw [p5] at t37
            clear hF hd
            have cx : W4.cell? ⟨ba, oa + i, none⟩ = some (.slice Aj lj cj) := (cellB (hb8.out.trans (hJ4.mono hb8.out.size)) hba.out).trans cxi.out
            go_simp
            exact hK _ (hJ4)
          · refine ⟨by kernel_rfl, ?_⟩
            intro Tf f y W4 Kq Qq hF hJ4 hf hd hK
            have p0 : y 0 = .agg #[.int .i64 hr, .int .i64 (hsn : Int), .int .i64 hc] := (hd 0 (by kernel_rfl)).2 _ rfl
            have p1 : y 1 = .slice (some ⟨ba, oa, none⟩) n c := (hd 1 (by kernel_rfl)).2 _ rfl
            have p2 : y 2 = .int .i64 (i : Int) := (hd 2 (by kernel_rfl)).2 _ rfl
            have p6 : y 6 = .slice Aj lj cj := (hd 6 (by kernel_rfl)).2 _ rfl
            have t32 := hF.get 0 32 (by kernel_rfl)
            rw [p0] at t32
            have t33 := hF.get 1 33 (by kernel_rfl)
            rw [p1] at t33
            have t34 := hF.get 2 34 (by kernel_rfl)
            rw [p2] at t34
            have t38 := hF.get 6 38 (by kernel_rfl)
            rw [p6] at t38
            have hs := hAq.out W4 (hb8.out.trans (hJ4.mono hb8.out.size))
            clear hF hd
            go_simp
            refine hs.mono ?_
            rintro e w7 ⟨rfl, hb7⟩
            exact hK _ (hJ4.trans (hb7.mono hJ4.size))
          · refine ⟨by kernel_rfl, ?_⟩
            intro Tf f y W4 Kq Qq hF hJ4 hf hd hK
            have p7 : y 7 = .bool (!al) := (hd 7 (by kernel_rfl)).2 _ rfl
            have t39 := hF.get 7 39 (by kernel_rfl)
            rw [p7] at t39
            clear hF hd
            have u9 := Bool.not_not al
            go_simp
            exact hK _ (hJ4)
        intro f y W9 hf hJ hE
        have ee : y 8 = .bool al := hE 8 _ (by decide) rfl
        clear hE
        simp only [putAll, Act.put]
        simp only [List.setIfInBounds_toArray, List.set_cons_succ, List.set_cons_zero]
        rw [ee]
        have hb9 := hide (hbr.out.trans ((hb8.out.trans (hJ.mono hb8.out.size)).mono hbr.out.size))
        have hB9 := hide (hB2.out.trans (hb9.out.mono hB2.out.size))
        cases al with
        | true =>
          rw [if_pos rfl] at h1
          have h2 := hfs.out
          rw [h1, if_neg (by decide)] at h2
          injection h2 with hx hy
          subst hx hy
          go_wp2
          go_ret2
          exact ⟨rfl, hB9.out⟩
        | false =>
          rw [if_neg (by decide)] at h1
          have h2 := hfs.out
          rw [h1, if_pos rfl] at h2
          replace h2 := hide h2
          go_wp2
          go_roundg (n - i)
          case measure => omega
          case rel => exact ⟨i + 1, by omega, by omega, by go_num, hb9, h2, hisp3⟩
    · have hilz : ¬ (i : Int) < (n : Int) := by omega
      obtain rfl : i = n := by omega
      have hqz := hfe.out
      rw [Nat.sub_self, fErr] at hqz
      injection hqz with hx hy
      subst hx hy
      go_wp2
      go_ret2
      exact ⟨rfl, hBr.out⟩
end Go.Proofs.Ytnmgnonbgihalaa
