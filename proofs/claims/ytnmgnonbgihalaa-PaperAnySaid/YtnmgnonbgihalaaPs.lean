import Derived.Test.YtnmgnonbgihalaaPr
import Derived.WalkMore
/-
  The paper of each seat (made by gen_draw.py).
-/
namespace Go.Proofs.Ytnmgnonbgihalaa
open Go.RowKit RG

theorem papersI_len (B : Bank) : (papersI B).length = (papers B).length := by unfold papersI; rw [List.length_map]
theorem papersI_at (B : Bank) (j : Nat) (hj : j < (papers B).length) : (papersI B)[j]?.getD [] = ppI B j := by
  unfold papersI ppI
  rw [List.getElem?_map, List.getElem?_eq_getElem hj]
  rfl
theorem ppI_len {B : Bank} (hB : BankOk B) (p : Nat) : (ppI B p).length ≤ 16 := by
  unfold ppI ints
  rw [List.length_map]
  by_cases hp : p < (papers B).length
  · rw [List.getElem?_eq_getElem hp, Option.getD_some]
    have h1 := (mem_papersB (part4 hB) (part0 hB) B.qs.length 0 (start4 B) 0 _ (Nat.zero_add _) (start4_len hB.nw.2)).1 (List.getElem_mem hp)
    have := sub_len h1
    have := hB.nq
    omega
  · rw [List.getElem?_eq_none (by omega)]
    decide
theorem drawP_none {all : List (List Int)} {hs : Nat} {hc : Int} {m : Nat} {ms : List Nat} {dr : List (List Int)} (h : findP all (fun x => !alikeP hs hc dr dr.length x) m all.length 0 = none) : drawP all hs hc (m :: ms) dr = none := by
  unfold drawP; rw [h]
theorem drawP_some {all : List (List Int)} {hs : Nat} {hc : Int} {m : Nat} {ms : List Nat} {dr : List (List Int)} {x : List Int} (h : findP all (fun x => !alikeP hs hc dr dr.length x) m all.length 0 = some x) : drawP all hs hc (m :: ms) dr = drawP all hs hc ms (dr ++ [x]) := by
  rw [drawP, h]
/-- What draw says. -/
def DrawR (n0 : Nat) (o : Option (List (List Int))) (e : Ending) (w' : World) : Prop :=
  (o = none ∧ e = .returned (.tuple #[.slice none 0 0, .int .i64 9])) ∨ ∃ ds v, o = some ds ∧ e = .returned (.tuple #[v, .int .i64 0]) ∧ Drawn w' n0 v ds
set_option maxRecDepth 100000 in
set_option maxHeartbeats 4000000 in
theorem draw_any (Q Wd : Option Addr) (cq cw gw cg gl M : Nat) (B : Bank) (m : Nat) (hr hc : Int) (hs : Nat) (An : Option Addr) (n cn : Nat) (ms : List Int) (w : World) (hB : BankOk B) (hV : VwR w Q Wd gw gl B) (hK : KnownM w M B m) (hm : m + 2 ^ 40 ≤ 2 ^ 60)
    (h1 : 1 ≤ hs) (hs6 : hs ≤ 1000) (hMs : RdInts w An n ms) (hn : n ≤ 1000) (hms : ∀ x ∈ ms, 0 ≤ x ∧ x ≤ 1000000000) (hpos : 0 < (papers B).length) (hmn : ∀ b off, An = some ⟨b, off, none⟩ → b ≠ M) :
    Calls Try.prog 61 #[vwV Q Wd cq cw gw cg gl M B, .agg #[.int .i64 hr, .int .i64 (hs : Int), .int .i64 hc], .slice An n cn] w fun e w' => DrawR w.heap.size (drawP (papersI B) hs hc (ms.map Int.toNat) []) e w' ∧ KeptM w.heap.size M w w' := by
  have hpl := papers_len hB
  have hAl := hide (fun W (hv : VwR W Q Wd gw gl B) (hk : KnownM W M B m) => all_any Q Wd cq cw gw cg gl M B m W hB hv hk hm)
  have hpI := hide (papersI_at B)
  have hlen := hide (ppI_len hB)
  have hpN := papersI_len B
  obtain ⟨N, hN⟩ : ∃ z, (papers B).length = z := ⟨_, rfl⟩
  rw [hN] at hpl hAl hpI hpN hpos
  obtain ⟨D, hD⟩ : ∃ z, drawP (papersI B) hs hc (ms.map Int.toNat) [] = z := ⟨_, rfl⟩
  rw [hD]
  replace hN := hide hN
  unfold vwV at *
  have hml := hMs.1
  obtain ⟨W, hW⟩ : ∃ y, (w.alloc (.cells #[.slice Q B.qs.length cq, .slice Wd B.wanted.length cw, .int .i64 B.lo, .int .i64 B.hi, .slice (some ⟨gw, 0, none⟩) B.qs.length cg, .slice (some ⟨gl, 0, none⟩) (B.qs.length + 1) (B.qs.length + 1), .map (some M)] 85)).alloc (.cells #[.int .i64 hr, .int .i64 (hs : Int), .int .i64 hc] 44) = y := ⟨_, rfl⟩
  have bV := hide (show Blk W w.heap.size 85 #[.slice Q B.qs.length cq, .slice Wd B.wanted.length cw, .int .i64 B.lo, .int .i64 B.hi, .slice (some ⟨gw, 0, none⟩) B.qs.length cg, .slice (some ⟨gl, 0, none⟩) (B.qs.length + 1) (B.qs.length + 1), .map (some M)] by rw [← hW]; exact (blkNew rfl).alloc _)
  have bH := hide (show Blk W (w.heap.size + 1) 44 #[.int .i64 hr, .int .i64 (hs : Int), .int .i64 hc] by rw [← hW]; exact blkNew (by simp))
  have hBW := hide (show Below w.heap.size w W by rw [← hW]; exact ((Below.refl _ _).alloc (Nat.le_refl _) _).alloc (by simp <;> omega) _)
  replace hW := hide hW
  have hVW := hide (hV.below hBW.out)
  have hKW := hide (hK.below hBW.out)
  have hcell := hide (fun W' (hk : KeptM w.heap.size M w W') (j : Nat) (hj : j < n) => show ∃ b off, An = some ⟨b, off, none⟩ ∧ W'.cell? ⟨b, off + j, none⟩ = some (.int .i64 (ms[j]?.getD 0)) from by
    obtain ⟨b, off, e, hlt, hc⟩ := hMs.2 (by omega)
    exact ⟨b, off, e, (KeptX.cell hk (b := b) ⟨hlt, hmn b off e⟩).trans (hc j hj)⟩)
  clear hV hK hMs hmn
  replace hms := hide hms
  have bo := bV.out
  have s0 : W.cell? ⟨w.heap.size, 0, none⟩ = some (.slice Q B.qs.length cq) := bo.cell 0
  have s1 : W.cell? ⟨w.heap.size, 1, none⟩ = some (.slice Wd B.wanted.length cw) := bo.cell 1
  have s2 : W.cell? ⟨w.heap.size, 2, none⟩ = some (.int .i64 B.lo) := bo.cell 2
  have s3 : W.cell? ⟨w.heap.size, 3, none⟩ = some (.int .i64 B.hi) := bo.cell 3
  have s4 : W.cell? ⟨w.heap.size, 4, none⟩ = some (.slice (some ⟨gw, 0, none⟩) B.qs.length cg) := bo.cell 4
  have s5 : W.cell? ⟨w.heap.size, 5, none⟩ = some (.slice (some ⟨gl, 0, none⟩) (B.qs.length + 1) (B.qs.length + 1)) := bo.cell 5
  have s6 : W.cell? ⟨w.heap.size, 6, none⟩ = some (.map (some M)) := bo.cell 6
  clear bo
  go_enter Try.func61, Try.ntmps61
  go_upto_region 1 with fail
  rw [hW.out]
  go_step3
  go_wp2_with fail
  refine (hAl.out W hVW.out hKW.out).mono ?_
  rintro e w1 ⟨⟨ga, vs, rfl, hga, hA⟩, hk1⟩
  have hgm := blk_nmap hKW.out.map bH.out
  have bH1 := hide (KeptX.blk hk1 ⟨bH.out.lt, hgm⟩ bH.out)
  have hk1' := hide ((KeptM.of_below (M := M) hBW.out).trans (KeptM.mono hk1 hBW.out.size))
  have hn1 := hide hBW.out.size
  replace hA := hide hA
  clear s0 s1 s2 s3 s4 s5 s6
  clear hk1 hAl hgm hVW hKW bH bV
  have hrd := hide (fun W' (hb : Below w1.heap.size w1 W') (j : Nat) (hj : j < N) => show ∃ A c l, vs[j]?.getD undef = .slice A l c ∧ W'.cell? ⟨ga, j, none⟩ = some (.slice A l c) ∧ RdInts W' A l (ppI B j) ∧ l ≤ maxLen ∧ (A = none → c = 0) from by
    obtain ⟨A, c, e, h2, h3, -, h4⟩ := (hA.out.rows j hj).ints
    refine ⟨A, c, _, e, ?_, h2.below hb, h3, h4⟩
    have := hA.out.blk.cell j
    rw [List.getElem?_toArray, List.getElem?_eq_getElem (by rw [hA.out.len, hN.out]; exact hj)] at this
    rw [(cellB hb hA.out.blk.lt).trans this, ← e, List.getElem?_eq_getElem (by rw [hA.out.len, hN.out]; exact hj)]
    rfl)
  have hkc := hide (fun W' (hb : Below w1.heap.size w1 W') => show KeptM w.heap.size M w W' from hk1'.out.trans (KeptM.of_below (hb.mono hk1'.out.size)))
  have bHc := hide (fun W' (hb : Below w1.heap.size w1 W') => show Blk W' (w.heap.size + 1) 44 #[.int .i64 hr, .int .i64 (hs : Int), .int .i64 hc] from bH1.out.below hb bH1.out.lt)
  have hww := hide hk1'.out.size
  have hdr0 := hide (drawn_nil w1 w1.heap.size)
  replace hga := hide hga
  clear hA bH1 hk1'
  go_wp2
  go_step3
  go_wp2
  go_loopg [9, 10, 11, 12, 13, 18, 25] (n + 1) (fun gg s9 _ _ _ _ s18 _ wr => ∃ k : Nat, ∃ ds : List (List Int), k ≤ n ∧ n < gg + k ∧ s18 = .int .i64 k ∧ ds.length = k ∧ Hid (Drawn wr w1.heap.size s9 ds) ∧ Hid (Below w1.heap.size w1 wr) ∧ Hid (drawP (papersI B) hs hc ((ms.drop k).map Int.toNat) ds = D))
  case atStart => exact ⟨0, [], by omega, by omega, rfl, rfl, hdr0, hide (Below.refl _ _), hide hD⟩
  case round =>
    clear hdr0 hD
    obtain ⟨k, ds, hk, hg, rfl, hdl, hdr, hbr, hdp⟩ := hrel
    generalize wr = wo at *
    obtain ⟨Ad, cd, rfl, hps, hdc, -⟩ := hdr.out.paps
    rw [hdl]
    rw [hdl] at hps
    replace hps := hide hps
    by_cases hlt : k < n
    · have hltz : (k : Int) < (n : Int) := by omega
      obtain ⟨b, off, rfl, cx⟩ := hcell.out wo (hkc.out wo hbr.out) k hlt
      have hxm := hms.out (ms[k]?.getD 0) (by rw [List.getElem?_eq_getElem (by omega)]; exact List.getElem_mem _)
      obtain ⟨x, hx⟩ : ∃ x : Nat, ms[k]?.getD 0 = (x : Int) := ⟨(ms[k]?.getD 0).toNat, by omega⟩
      rw [hx] at cx hxm
      have hdrop : (ms.drop k).map Int.toNat = x :: (ms.drop (k + 1)).map Int.toNat := by
        rw [List.drop_eq_getElem_cons (by omega), List.map_cons]
        congr 1
        have : ms[k]?.getD 0 = ms[k] := by rw [List.getElem?_eq_getElem (by omega)]; rfl
        omega
      have hdp' := hdp.out
      rw [hdrop] at hdp'
      replace hdp' := hide hdp'
      obtain ⟨F, hF⟩ : ∃ z, findP (papersI B) (fun x => !alikeP hs hc ds ds.length x) x N 0 = z := ⟨_, rfl⟩
      have hkw : IntKind.i64.wrap ((k : Int) + 1) = (k : Int) + 1 := by rw [IntKind.wrap_i64]; omega
      have hF2 := hide (show findP (papersI B) (fun x => !alikeP hs hc ds ds.length x) x (papersI B).length 0 = F by rw [hpN]; exact hF)
      replace hF := hide hF
      clear hdp hdrop hx
      have hNz : ((N : Int) == 0) = false := by rw [beq_eq_false_iff_ne]; omega
      have hNz2 : (N : Int) ≠ 0 := by omega
      have hNz3 : N ≠ 0 := by omega
      go_wp2
      clear cx
      go_loopg [9, 12, 13, 25] (N + 1) (fun gg s9 _ _ s25 wr => ∃ i : Nat, i ≤ N ∧ N < gg + i ∧ s9 = .slice Ad k cd ∧ s25 = .int .i64 i ∧ Hid (Below wo.heap.size wo wr) ∧ Hid (findP (papersI B) (fun x => !alikeP hs hc ds ds.length x) x (N - i) i = F))
      case atStart => exact ⟨0, by omega, by omega, rfl, rfl, hide (Below.refl _ _), hF⟩
      case round =>
        obtain ⟨i, hi, hgi, rfl, rfl, hbq, hFi⟩ := hrel
        generalize wr = wq at *
        have hbw := hide (hbr.out.trans (hbq.out.mono hbr.out.size))
        by_cases hil : i < N
        · have hilz : (i : Int) < (N : Int) := by omega
          obtain ⟨p, hp⟩ : ∃ p, (x + i) % N = p := ⟨_, rfl⟩
          have hpl2 : p < N := by rw [← hp]; exact Nat.mod_lt _ (by omega)
          have haw : IntKind.i64.wrap ((x : Int) + (i : Int)) = (x : Int) + (i : Int) := by rw [IntKind.wrap_i64]; omega
          have hmod : ((x : Int) + (i : Int)).tmod (N : Int) = (p : Int) := by rw [Int.tmod_eq_emod_of_nonneg (by omega), ← hp]; rfl
          have hmw : IntKind.i64.wrap (p : Int) = (p : Int) := by rw [IntKind.wrap_i64]; omega
          have hpz : (p : Int) < (N : Int) := by omega
          have hpz0 : (0 : Int) ≤ (p : Int) := by omega
          have hiw : IntKind.i64.wrap ((i : Int) + 1) = (i : Int) + 1 := by rw [IntKind.wrap_i64]; omega
          obtain ⟨Ap, cp, lp, hvp, cvp, hrp, hlp, hcp⟩ := hrd.out wq hbw.out p hpl2
          have hFs := hFi.out
          rw [show N - i = (N - (i + 1)) + 1 by omega, findP, hpN, hp, hpI.out p hpl2] at hFs
          have hal := hide (alike_any hr hc hs k Ad Ap k cd lp cp ds (ppI B p) wq h1 hs6 (by omega) (Nat.le_refl _) (hps.out.below hbq.out) hrp hlp)
          have hcl := hide (fun W' (hb : Below wq.heap.size wq W') => Clone_any Ap lp cp (ppI B p) W' (hrp.below hb) (by have h9 := hrp.1; have h7 := hlen.out p; omega) hcp)
          rw [hdl] at hFs
          generalize alikeP hs hc ds k (ppI B p) = al at *
          have bo := bHc.out wq hbw.out
          have q0 : wq.cell? ⟨w.heap.size + 1, 0, none⟩ = some (.int .i64 hr) := bo.cell 0
          have q1 : wq.cell? ⟨w.heap.size + 1, 1, none⟩ = some (.int .i64 (hs : Int)) := bo.cell 1
          have q2 : wq.cell? ⟨w.heap.size + 1, 2, none⟩ = some (.int .i64 hc) := bo.cell 2
          clear bo
          replace hFs := hide hFs
          replace hp := hide hp
          replace hvp := hide hvp
          clear hFi hrp hlp hcp
          go_wp2_with fail
          refine hal.out.mono ?_
          rintro e w5 ⟨rfl, hb5⟩
          have hbq5 := hide (hbq.out.trans (hb5.mono hbq.out.size))
          have hcl5 := hide (hcl.out w5 hb5)
          clear q0 q1 q2
          clear cvp hal hcl hb5
          cases al with
          | true =>
            have hFt := hFs.out
            rw [if_neg (by simp)] at hFt
            replace hFt := hide hFt
            clear hFs hcl5 hbq hbw
            go_wp2
            go_roundg (N - i)
            case measure => omega
            case rel => exact ⟨i + 1, by omega, by omega, rfl, by go_num, hbq5, by rw [hdl]; exact hFt⟩
          | false =>
            have hFt := hFs.out
            rw [if_pos (by simp)] at hFt
            replace hFt := hide hFt
            clear hFs hbq hbw
            go_wp2_with fail
            refine hcl5.out.mono ?_
            rintro e w6 ⟨⟨u, rfl, hu⟩, hb6⟩
            have hbr6 := hide (hbq5.out.trans (hb6.mono hbq5.out.size))
            have hbw6 := hide (hbr.out.trans (hbr6.out.mono hbr.out.size))
            have hu6 : RowAt w6 (fun g => g < w1.heap.size) 3 1 u ((ppI B p).map iCells) := hu.mono fun g hg hlt => hu.not g hg (by have h5 := hbq5.out.size; have h6 := hbr.out.size; omega)
            have hdr6 := hdr.out.below hbr6.out
            obtain ⟨v', w7, hrun, hdr7, hk7⟩ := hdr6.push hbw6.out.size hu6 (by omega)
            rw [hdl] at hrun
            replace hrun := hide hrun
            replace hdr7 := hide hdr7
            have hbw7 := hide (hbw6.out.trans (KeptX.below hk7))
            have hdp7 := hide (show drawP (papersI B) hs hc ((ms.drop (k + 1)).map Int.toNat) (ds ++ [ppI B p]) = D from by
              have h5 := hdp'.out
              rw [drawP_some (by rw [hF2.out]; exact hFt.out.symm)] at h5
              exact h5)
            obtain ⟨Au, nu, cu, rfl⟩ := hu.shape
            clear hcl5 hu hb6 hbr6 hbw6 hu6 hdr6 hk7 hFt
            go_wp2_with (at_builtin; refine wpList_append_run rfl _ _ 45 rfl _ _ _ rfl rfl hrun.out ?_)
            go_wp2
            go_roundg (n - k)
            case measure => omega
            case rel => exact ⟨k + 1, _, by omega, by omega, by go_num, by simp [hdl], hdr7, hbw7, hdp7⟩
        · have hilz : ¬ (i : Int) < (N : Int) := by omega
          have hFn := hFi.out
          rw [show N - i = 0 by omega, findP] at hFn
          have hDn := hdp'.out
          rw [drawP_none (by rw [hF2.out]; exact hFn.symm)] at hDn
          have hkq := hide (hkc.out wq hbw.out)
          go_wp2
          try rw [Exit.noGoto_ret]
          go_ret2
          exact ⟨.inl ⟨hDn.symm, rfl⟩, hkq.out⟩
    · have hltz : ¬ (k : Int) < (n : Int) := by omega
      have hDs := hdp.out
      rw [List.drop_of_length_le (by omega), List.map_nil, drawP] at hDs
      have hkq := hide (hkc.out wo hbr.out)
      have hdf := hide (hdr.out.mono hww.out)
      rw [hdl] at hdf
      go_wp2
      try rw [Exit.noGoto_ret]
      go_ret2
      exact ⟨.inr ⟨ds, _, hDs.symm, rfl, hdf.out⟩, hkq.out⟩
end Go.Proofs.Ytnmgnonbgihalaa

/-
  The paper of each seat of a hall (made by gen_drw.py).
-/
namespace Go.Proofs.Ytnmgnonbgihalaa
open Go.RowKit RG

theorem hallB_iff {hr hs hc : Int} (h : hallB hr hs hc = true) : (1 ≤ hr ∧ hr ≤ 5) ∧ (1 ≤ hs ∧ hs ≤ 6) ∧ 0 ≤ hc ∧ hc ≤ 16 := by
  unfold hallB at h
  simp only [Bool.and_eq_true, inB_iff] at h
  exact ⟨h.1.1, h.1.2, h.2⟩
theorem enter_ok {B : Bank} {hr hs hc n : Int} (h : enterE B hr hs hc n = 0) : BankOk B ∧ ((1 ≤ hr ∧ hr ≤ 5) ∧ (1 ≤ hs ∧ hs ≤ 6) ∧ 0 ≤ hc ∧ hc ≤ 16) ∧ n = hr * hs := by
  unfold enterE at h
  split at h
  · rename_i h1; exact absurd h h1
  rename_i h1
  split at h
  · cases h
  rename_i h2
  split at h
  · cases h
  rename_i h3
  exact ⟨bank_ok (Classical.byContradiction h1), hallB_iff (by simpa using h2), Classical.byContradiction h3⟩
theorem hall_n {hr hs n : Int} (h : (1 ≤ hr ∧ hr ≤ 5) ∧ (1 ≤ hs ∧ hs ≤ 6)) (hn : n = hr * hs) : 1 ≤ n ∧ n ≤ 30 := by
  obtain ⟨⟨h1, h2⟩, h3, h4⟩ := h
  subst hn
  rcases (show hr = 1 ∨ hr = 2 ∨ hr = 3 ∨ hr = 4 ∨ hr = 5 by omega) with rfl | rfl | rfl | rfl | rfl <;> omega
set_option maxRecDepth 100000 in
set_option maxHeartbeats 4000000 in
theorem Draw_any (Q Wd : Option Addr) (cq cw : Nat) (B : Bank) (hr hs hc : Int) (An : Option Addr) (n cn : Nat) (ms : List Int) (w : World) (h : BkR w Q Wd B) (hMs : RdInts w An n ms) (hn : n ≤ maxLen) :
    Calls Try.prog 30 #[bkV Q Wd cq cw B, .agg #[.int .i64 hr, .int .i64 hs, .int .i64 hc], .slice An n cn] w fun e w' => (∃ v, e = .returned (.tuple #[v, .int .i64 (drawE B hr hs hc ms)]) ∧ Drawn w' w.heap.size v (drawR B hr hs hc ms)) ∧ Below w.heap.size w w' := by
  have hml := hMs.1
  have hEn := hide (fun W (hb : Below w.heap.size w W) => enter_any Q Wd cq cw B hr hs hc n W (h.below hb))
  have hWt := hide (fun W (hb : Below w.heap.size w W) => within_any 0 1000000000 An n cn ms W (hMs.below hb) hn)
  have hMs' := hide hMs
  obtain ⟨E, hE⟩ : ∃ z, drawE B hr hs hc ms = z := ⟨_, rfl⟩
  obtain ⟨R, hR⟩ : ∃ z, drawR B hr hs hc ms = z := ⟨_, rfl⟩
  rw [hE, hR]
  unfold drawR at hR
  rw [hE] at hR
  unfold drawE at hE
  rw [hml] at hE
  have hok := hide (fun (h : enterE B hr hs hc n = 0) => enter_ok h)
  generalize hen : enterE B hr hs hc n = en at *
  obtain ⟨al, hal⟩ : ∃ z, (ms.all fun m => inB 0 1000000000 m) = z := ⟨_, rfl⟩
  rw [hal] at hE hWt
  obtain ⟨D, hD⟩ : ∃ z, drawP (papersI B) hs.toNat hc (ms.map Int.toNat) [] = z := ⟨_, rfl⟩
  rw [hD] at hE hR
  replace hE := hide hE
  replace hR := hide hR
  replace hen := hide hen
  replace hal := hide hal
  replace hD := hide hD
  unfold bkV vwV vw0 at *
  obtain ⟨W, hW⟩ : ∃ y, (w.alloc (.cells #[.slice Q B.qs.length cq, .slice Wd B.wanted.length cw, .int .i64 B.lo, .int .i64 B.hi] 27)).alloc (.cells #[.int .i64 hr, .int .i64 hs, .int .i64 hc] 44) = y := ⟨_, rfl⟩
  have bW := hide (show Blk W w.heap.size 27 #[.slice Q B.qs.length cq, .slice Wd B.wanted.length cw, .int .i64 B.lo, .int .i64 B.hi] by rw [← hW]; exact (blkNew rfl).alloc _)
  have bH := hide (show Blk W (w.heap.size + 1) 44 #[.int .i64 hr, .int .i64 hs, .int .i64 hc] by rw [← hW]; exact blkNew (by simp))
  have hBW := hide (show Below w.heap.size w W by rw [← hW]; exact ((Below.refl _ _).alloc (Nat.le_refl _) _).alloc (by simp <;> omega) _)
  replace hW := hide hW
  clear h hMs
  have bo := bW.out
  have b2 := bH.out
  have c0 : W.cell? ⟨w.heap.size, 0, none⟩ = some (.slice Q B.qs.length cq) := bo.cell 0
  have c1 : W.cell? ⟨w.heap.size, 1, none⟩ = some (.slice Wd B.wanted.length cw) := bo.cell 1
  have c2 : W.cell? ⟨w.heap.size, 2, none⟩ = some (.int .i64 B.lo) := bo.cell 2
  have c3 : W.cell? ⟨w.heap.size, 3, none⟩ = some (.int .i64 B.hi) := bo.cell 3
  have d0 : W.cell? ⟨w.heap.size + 1, 0, none⟩ = some (.int .i64 hr) := b2.cell 0
  have d1 : W.cell? ⟨w.heap.size + 1, 1, none⟩ = some (.int .i64 hs) := b2.cell 1
  have d2 : W.cell? ⟨w.heap.size + 1, 2, none⟩ = some (.int .i64 hc) := b2.cell 2
  clear bo b2
  go_enter Try.func30, Try.ntmps30
  go_upto_region 1 with fail
  rw [hW.out]
  go_wp2_with fail
  refine (hEn.out W hBW.out).mono ?_
  clear c0 c1 c2 c3
  clear d0 d1 d2
  clear hEn hW bW
  rintro e w2 ⟨hb, (⟨he, rfl⟩ | ⟨rfl, gw, cg, gl, M, rfl, hV, hK, hgw, hgl, hM, hc1, hc2⟩)⟩
  · have b1 : (en != 0) = true := by rw [bne_iff_ne]; exact he
    have hB2 := hide (hBW.out.trans (hb.mono hBW.out.size))
    have hE' := hE.out
    rw [if_pos he] at hE'
    subst hE'
    have hl := hR.out
    rw [if_neg he] at hl
    subst hl
    replace he := hide he
    clear hb bH
    go_wp2
    go_ret2
    exact ⟨⟨_, rfl, drawn_nil _ _⟩, hB2.out.alloc hB2.out.size _⟩
  · have hB2 := hide (hBW.out.trans (hb.mono hBW.out.size))
    obtain ⟨hOk, hhall, hnn⟩ := hok.out rfl
    have hn30 := hall_n ⟨hhall.1, hhall.2.1⟩ hnn
    have hnq := hOk.nq
    have hcap : capN B.qs.length ≤ 2 ^ 16 := by have h1 := capN_pow B.qs.length; have h2 := Nat.pow_le_pow_right (n := 2) (by decide) hnq.2; omega
    obtain ⟨w3, hw3⟩ : ∃ y, w2.alloc (.cells #[.slice Q B.qs.length cq, .slice Wd B.wanted.length cw, .int .i64 B.lo, .int .i64 B.hi, .slice (some ⟨gw, 0, none⟩) B.qs.length cg, .slice (some ⟨gl, 0, none⟩) (B.qs.length + 1) (B.qs.length + 1), .map (some M)] 85) = y := ⟨_, rfl⟩
    have bV := hide (show Blk w3 w2.heap.size 85 #[.slice Q B.qs.length cq, .slice Wd B.wanted.length cw, .int .i64 B.lo, .int .i64 B.hi, .slice (some ⟨gw, 0, none⟩) B.qs.length cg, .slice (some ⟨gl, 0, none⟩) (B.qs.length + 1) (B.qs.length + 1), .map (some M)] by rw [← hw3]; exact blkNew rfl)
    have hb3 := hide (show Below w2.heap.size w2 w3 by rw [← hw3]; exact (Below.refl _ _).alloc (Nat.le_refl _) _)
    have bH3 := hide ((bH.out.below hb bH.out.lt).below hb3.out (bH.out.below hb bH.out.lt).lt)
    have hB3 := hide (hB2.out.trans (hb3.out.mono hB2.out.size))
    have hV3 := hide (hV.below hb3.out)
    have hK3 := hide (hK.below hb3.out)
    have hM9 := hide (Nat.le_trans hBW.out.size hM)
    have hWt3 := hide (hWt.out w3 hB3.out)
    replace hw3 := hide hw3
    clear hb hV hK bH hWt
    go_upto_region 2 with fail
    rw [hw3.out]
    go_wp2_with fail
    refine hWt3.out.mono ?_
    rintro e w4 ⟨rfl, rfl⟩
    clear hWt3
    cases al with
    | false =>
      have hE' := hE.out
      rw [if_neg (by simp), if_pos rfl] at hE'
      subst hE'
      have hl := hR.out
      rw [if_neg (by decide)] at hl
      subst hl
      clear hV3 hK3
      go_wp2
      go_ret2
      exact ⟨⟨_, rfl, drawn_nil _ _⟩, hB3.out⟩
    | true =>
      have bo := bV.out
      have s0 : w3.cell? ⟨w2.heap.size, 0, none⟩ = some (.slice Q B.qs.length cq) := bo.cell 0
      have s1 : w3.cell? ⟨w2.heap.size, 1, none⟩ = some (.slice Wd B.wanted.length cw) := bo.cell 1
      have s2 : w3.cell? ⟨w2.heap.size, 2, none⟩ = some (.int .i64 B.lo) := bo.cell 2
      have s3 : w3.cell? ⟨w2.heap.size, 3, none⟩ = some (.int .i64 B.hi) := bo.cell 3
      have s4 : w3.cell? ⟨w2.heap.size, 4, none⟩ = some (.slice (some ⟨gw, 0, none⟩) B.qs.length cg) := bo.cell 4
      have s5 : w3.cell? ⟨w2.heap.size, 5, none⟩ = some (.slice (some ⟨gl, 0, none⟩) (B.qs.length + 1) (B.qs.length + 1)) := bo.cell 5
      have s6 : w3.cell? ⟨w2.heap.size, 6, none⟩ = some (.map (some M)) := bo.cell 6
      clear bo
      have hCn := hide (count_any Q Wd cq cw gw cg gl M B 0 w3 hOk hV3.out hK3.out (by omega))
      unfold vwV at hCn
      have hgn := hide (blk_nmap hK3.out.map bV.out)
      have hgr := hide (blk_nmap hK3.out.map bH3.out)
      have hmm := hide hK3.out.map
      go_wp2_with fail
      refine hCn.out.mono ?_
      rintro e w5 ⟨rfl, hk5, hK5⟩
      have hV5 := hide (hV3.out.keptM (by omega) hmm.out hk5)
      have bV5 := hide (KeptX.blk hk5 ⟨bV.out.lt, hgn.out⟩ bV.out)
      have bH5 := hide (KeptX.blk hk5 ⟨bH3.out.lt, hgr.out⟩ bH3.out)
      have hB5 := hide (hB3.out.trans ((hk5.mono hB3.out.size).to_below hM9.out))
      replace hK5 := hide hK5
      clear s0 s1 s2 s3 s4 s5 s6
      clear hCn hk5 hV3 hK3 bV bH3 hmm
      have hln := papers_len hOk
      obtain ⟨N, hN⟩ : ∃ z, (papers B).length = z := ⟨_, rfl⟩
      rw [hN] at hln hE ⊢
      by_cases hN0 : N = 0
      · subst hN0
        have hE' := hE.out
        rw [if_neg (by simp), if_neg (by decide), if_pos rfl] at hE'
        subst hE'
        have hl := hR.out
        rw [if_neg (by decide)] at hl
        subst hl
        clear hV5 hK5
        replace hN := hide hN
        go_wp2
        go_ret2
        exact ⟨⟨_, rfl, drawn_nil _ _⟩, hB5.out⟩
      · have hNd : ((N : Int) == 0) = false := by rw [beq_eq_false_iff_ne]; omega
        have hNe : (N : Int) ≠ 0 := by omega
        have hE' := hE.out
        rw [if_neg (by simp), if_neg (by decide), if_neg hN0] at hE'
        obtain ⟨hsn, rfl⟩ : ∃ k : Nat, hs = (k : Int) := ⟨hs.toNat, by omega⟩
        have hDr := hide (draw_any Q Wd cq cw gw cg gl M B _ hr hc hsn An n cn ms w5 hOk hV5.out hK5.out (by omega) (by omega) (by omega) (hMs'.out.below hB5.out) (by omega) (fun x hx => inB_iff.1 (List.all_eq_true.1 hal.out x hx)) (by omega) (fun b off e => by
          obtain ⟨b', off', e', hlt, -⟩ := hMs'.out.2 (by omega)
          rw [e] at e'
          cases e'
          have := hM9.out
          omega))
        have hD' := hD.out
        rw [Int.toNat_natCast] at hD'
        rw [hD'] at hDr
        unfold vwV at hDr
        have bo := bV5.out
        have b2 := bH5.out
        have s0 : w5.cell? ⟨w2.heap.size, 0, none⟩ = some (.slice Q B.qs.length cq) := bo.cell 0
        have s1 : w5.cell? ⟨w2.heap.size, 1, none⟩ = some (.slice Wd B.wanted.length cw) := bo.cell 1
        have s2 : w5.cell? ⟨w2.heap.size, 2, none⟩ = some (.int .i64 B.lo) := bo.cell 2
        have s3 : w5.cell? ⟨w2.heap.size, 3, none⟩ = some (.int .i64 B.hi) := bo.cell 3
        have s4 : w5.cell? ⟨w2.heap.size, 4, none⟩ = some (.slice (some ⟨gw, 0, none⟩) B.qs.length cg) := bo.cell 4
        have s5 : w5.cell? ⟨w2.heap.size, 5, none⟩ = some (.slice (some ⟨gl, 0, none⟩) (B.qs.length + 1) (B.qs.length + 1)) := bo.cell 5
        have s6 : w5.cell? ⟨w2.heap.size, 6, none⟩ = some (.map (some M)) := bo.cell 6
        have d0 : w5.cell? ⟨w.heap.size + 1, 0, none⟩ = some (.int .i64 hr) := b2.cell 0
        have d1 : w5.cell? ⟨w.heap.size + 1, 1, none⟩ = some (.int .i64 (hsn : Int)) := b2.cell 1
        have d2 : w5.cell? ⟨w.heap.size + 1, 2, none⟩ = some (.int .i64 hc) := b2.cell 2
        clear bo b2
        replace hN := hide hN
        replace hE' := hide hE'
        clear hE hal hD' hhall hnn hn30
        go_wp2_with fail
        refine hDr.out.mono ?_
        rintro e w6 ⟨hd6, hk6⟩
        have hB6 := hide (hB5.out.trans ((hk6.mono hB5.out.size).to_below hM9.out))
        clear s0 s1 s2 s3 s4 s5 s6
        clear d0 d1 d2
        clear hDr hk6 hV5 hK5 bV5 bH5
        rcases hd6 with ⟨rfl, rfl⟩ | ⟨ds, v, rfl, rfl, hdr⟩
        · have h9 := hE'.out
          rw [if_pos rfl] at h9
          subst h9
          have hl := hR.out
          rw [if_neg (by decide)] at hl
          subst hl
          go_wp2
          go_ret2
          exact ⟨⟨_, rfl, drawn_nil _ _⟩, hB6.out⟩
        · have h9 := hE'.out
          rw [if_neg (by simp)] at h9
          subst h9
          have hl := hR.out
          rw [if_pos rfl, Option.getD_some] at hl
          subst hl
          have hdr' := hide (hdr.mono hB5.out.size)
          clear hdr
          go_wp2
          go_ret2
          exact ⟨⟨_, rfl, hdr'.out⟩, hB6.out⟩
end Go.Proofs.Ytnmgnonbgihalaa

/-
  The first seat of a hall with an error (made by gen_acc.py).
-/
namespace Go.Proofs.Ytnmgnonbgihalaa
open Go.RowKit RG

set_option maxHeartbeats 1000000 in
theorem firstErrorPap (g : Nat) (bd lb : Array Value) (eg : ∀ args w, (callFunc g args).run Try.prog w = .ok (.enter g args) w) (err : Nat → Int) (A : Option Addr) (n c : Nat) (ps : List (List Int)) (w : World)
    (h : RdPaps w A n ps) (hm : n ≤ maxLen)
    (hp : ∀ j W Aj cj, j < n → Below w.heap.size w W → RdInts W Aj (ps[j]?.getD []).length (ps[j]?.getD []) → (ps[j]?.getD []).length ≤ maxLen → Calls Try.prog g (bd ++ (#[.int .i64 j, .slice Aj (ps[j]?.getD []).length cj] ++ lb)) W fun e w' => e = .returned (.int .i64 (err j)) ∧ Below W.heap.size W w') :
    Calls Try.prog 63 #[.slice A n c, .func (.func g) bd lb] w fun e w' => e = .returned (.tuple #[.int .i64 (firstErr err 0 n).1, .int .i64 (firstErr err 0 n).2]) ∧ Below w.heap.size w w' := by
  unfold maxLen at hm
  go_enter Try.func63, Try.ntmps63
  go_wp2
  go_loopg [6, 7, 8, 11] n (fun gg _ _ _ s11 wr => ∃ k : Nat, k ≤ n ∧ n - k ≤ gg ∧ s11 = .int .i64 k ∧ Hid (Below w.heap.size w wr) ∧ Hid (firstErr err 0 n = firstErr err k (n - k)))
  case atStart => exact ⟨0, Nat.zero_le _, by omega, rfl, Below.refl _ w, rfl⟩
  case round =>
    obtain ⟨k, hk, hg, rfl, BW, A1⟩ := hrel
    by_cases hlt : k < n
    · have hltz : (k : Int) < (n : Int) := by omega
      obtain ⟨b, off, rfl, hb, hcx⟩ := (h.below BW.out).2 (by omega)
      obtain ⟨Aj, cj, c0, hr0, hl0⟩ := hcx k hlt
      clear hcx
      have hB2 : Below w.heap.size w wr := BW.out
      have hcall := hp k _ Aj cj hlt hB2 hr0 hl0
      clear hr0 hl0
      generalize (ps[k]?.getD []).length = lx at *
      have HB2 := hide hB2
      clear hp hB2
      have h := hide h
      by_cases hq : err k = 0
      · have hfin : firstErr err 0 n = firstErr err (k + 1) (n - (k + 1)) := by rw [A1.out, show n - k = (n - (k + 1)) + 1 by omega]; simp [firstErr, hq]
        have HF := hide hfin
        rw [hq] at hcall
        clear hfin hq
        go_wp2_with (go_at_fn g; refine hcall.mono ?_; rintro e w' ⟨rfl, hb'⟩)
        go_roundg (n - (k + 1))
        case measure => omega
        case rel => exact ⟨k + 1, by omega, by omega, by go_num, HB2.out.trans (hb'.mono HB2.out.size), HF.out⟩
      · have hfin : firstErr err 0 n = ((k : Int), err k) := by rw [A1.out, show n - k = (n - k - 1) + 1 by omega]; simp [firstErr, hq]
        have HF := hide hfin
        have hq2 : (err k == 0) = false := by rw [beq_eq_false_iff_ne]; exact hq
        have hq3 : (err k != 0) = true := by rw [bne_iff_ne]; exact hq
        clear hfin
        generalize err k = ek at *
        go_wp2_with (go_at_fn g; refine hcall.mono ?_; rintro e w' ⟨rfl, hb'⟩)
        go_ret2
        exact ⟨by rw [HF.out]; rfl, HB2.out.trans (hb'.mono HB2.out.size)⟩
    · have hltz : ¬ (k : Int) < (n : Int) := by omega
      have hfin : firstErr err 0 n = (0, 0) := by rw [A1.out, show n - k = 0 by omega]; rfl
      have HF := hide hfin
      clear hfin
      go_wp2
      go_ret2
      exact ⟨by rw [HF.out]; rfl, BW.out⟩
theorem enters_acc : ∀ args w, (callFunc 64 args).run Try.prog w = .ok (.enter 64 args) w := fun _ _ => by kernel_rfl
set_option maxRecDepth 100000 in
set_option maxHeartbeats 2000000 in
theorem acc1_any (Q Wd : Option Addr) (cq cw gw cg gl M : Nat) (B : Bank) (hr hc : Int) (hs : Nat) (A Aj : Option Addr) (n c cj seat qv qh qp : Nat) (ps : List (List Int)) (W : World) (hB : BankOk B) (hV : VwR W Q Wd gw gl B) (h1 : 1 ≤ hs) (hs6 : hs ≤ 1000) (hn : n ≤ 1000) (hst : seat < n) (hP : RdPaps W A n ps)
    (hX : RdInts W Aj (ps[seat]?.getD []).length (ps[seat]?.getD [])) (hl : (ps[seat]?.getD []).length ≤ maxLen) (bv : Blk W qv 85 #[.slice Q B.qs.length cq, .slice Wd B.wanted.length cw, .int .i64 B.lo, .int .i64 B.hi, .slice (some ⟨gw, 0, none⟩) B.qs.length cg, .slice (some ⟨gl, 0, none⟩) (B.qs.length + 1) (B.qs.length + 1), .map (some M)]) (bh : Blk W qh 44 #[.int .i64 hr, .int .i64 (hs : Int), .int .i64 hc]) (bp : Blk W qp 45 #[.slice A n c]) :
    Calls Try.prog 64 #[.int .i64 seat, .slice Aj (ps[seat]?.getD []).length cj, .pointer (some ⟨qv, 0, none⟩), .pointer (some ⟨qh, 0, none⟩), .pointer (some ⟨qp, 0, none⟩)] W fun e w' => e = .returned (.int .i64 (accF B hs hc ps seat)) ∧ Below W.heap.size W w' := by
  have hI := hide (isPaper_any Q Wd cq cw gw cg gl M B Aj _ cj _ W hB hV hX hl)
  have hAl := hide (fun W' (hb : Below W.heap.size W W') => alike_any hr hc hs seat A Aj n c _ cj ps _ W' h1 hs6 (by omega) (by omega) (hP.below hb) (hX.below hb) hl)
  obtain ⟨E, hE⟩ : ∃ z, accF B hs hc ps seat = z := ⟨_, rfl⟩
  rw [hE]
  unfold accF at hE
  generalize isP B (ps[seat]?.getD []) = is at *
  generalize alikeP hs hc ps seat (ps[seat]?.getD []) = al at *
  replace hE := hide hE
  generalize (ps[seat]?.getD []).length = lx at *
  unfold vwV at hI
  clear hX hl hP hV
  have bv' := hide bv
  have bh' := hide bh
  have bp' := hide bp
  have s0 : W.cell? ⟨qv, 0, none⟩ = some (.slice Q B.qs.length cq) := bv.cell 0
  have s1 : W.cell? ⟨qv, 1, none⟩ = some (.slice Wd B.wanted.length cw) := bv.cell 1
  have s2 : W.cell? ⟨qv, 2, none⟩ = some (.int .i64 B.lo) := bv.cell 2
  have s3 : W.cell? ⟨qv, 3, none⟩ = some (.int .i64 B.hi) := bv.cell 3
  have s4 : W.cell? ⟨qv, 4, none⟩ = some (.slice (some ⟨gw, 0, none⟩) B.qs.length cg) := bv.cell 4
  have s5 : W.cell? ⟨qv, 5, none⟩ = some (.slice (some ⟨gl, 0, none⟩) (B.qs.length + 1) (B.qs.length + 1)) := bv.cell 5
  have s6 : W.cell? ⟨qv, 6, none⟩ = some (.map (some M)) := bv.cell 6
  clear bv bh bp
  go_enter Try.func64, Try.ntmps64
  go_wp2_with fail
  refine hI.out.mono ?_
  rintro e w1 ⟨rfl, hb1⟩
  have hB1 := hide hb1
  have hal := hide (hAl.out w1 hb1)
  clear s0 s1 s2 s3 s4 s5 s6
  clear hI hAl hb1
  cases is with
  | false =>
    obtain rfl : (6 : Int) = E := by have := hE.out; rwa [if_pos rfl] at this
    go_wp2
    go_ret
    exact ⟨rfl, hB1.out⟩
  | true =>
    have d1 := bh'.out.below hB1.out bh'.out.lt
    have e1 := bp'.out.below hB1.out bp'.out.lt
    have q0 : w1.cell? ⟨qh, 0, none⟩ = some (.int .i64 hr) := d1.cell 0
    have q1 : w1.cell? ⟨qh, 1, none⟩ = some (.int .i64 (hs : Int)) := d1.cell 1
    have q2 : w1.cell? ⟨qh, 2, none⟩ = some (.int .i64 hc) := d1.cell 2
    have p0 : w1.cell? ⟨qp, 0, none⟩ = some (.slice A n c) := e1.cell 0
    clear d1 e1
    go_wp2_with fail
    refine hal.out.mono ?_
    rintro e w2 ⟨rfl, hb2⟩
    have hB2 := hide (hB1.out.trans (hb2.mono hB1.out.size))
    clear q0 q1 q2
    clear p0 hal hb2
    cases al with
    | false =>
      obtain rfl : (0 : Int) = E := by have := hE.out; rwa [if_neg (by decide), if_neg (by decide)] at this
      go_wp2
      go_ret
      exact ⟨rfl, hB2.out⟩
    | true =>
      obtain rfl : (5 : Int) = E := by have := hE.out; rwa [if_neg (by decide), if_pos rfl] at this
      go_wp2
      go_ret
      exact ⟨rfl, hB2.out⟩
set_option maxRecDepth 100000 in
set_option maxHeartbeats 4000000 in
theorem Accept_any (Q Wd : Option Addr) (cq cw : Nat) (B : Bank) (hr hs hc : Int) (A : Option Addr) (n c : Nat) (ps : List (List Int)) (w : World) (h : BkR w Q Wd B) (hP : RdPaps w A n ps) :
    Calls Try.prog 33 #[bkV Q Wd cq cw B, .agg #[.int .i64 hr, .int .i64 hs, .int .i64 hc], .slice A n c] w fun e w' => e = .returned (.tuple #[.int .i64 (acceptP B hr hs hc ps).1, .int .i64 (acceptP B hr hs hc ps).2]) ∧ Below w.heap.size w w' := by
  have hml := hP.1
  have hEn := hide (fun W (hb : Below w.heap.size w W) => enter_any Q Wd cq cw B hr hs hc n W (h.below hb))
  have hPb := hide (fun W (hb : Below w.heap.size w W) => hP.below hb)
  obtain ⟨x, y, hxy⟩ : ∃ x y, acceptP B hr hs hc ps = (x, y) := ⟨_, _, rfl⟩
  rw [hxy]
  dsimp only
  unfold acceptP at hxy
  rw [hml] at hxy
  have hok := hide (fun (h : enterE B hr hs hc n = 0) => enter_ok h)
  generalize hen : enterE B hr hs hc n = en at *
  replace hxy := hide hxy
  replace hen := hide hen
  unfold bkV vwV vw0 at *
  obtain ⟨W, hW⟩ : ∃ y, ((w.alloc (.cells #[.slice Q B.qs.length cq, .slice Wd B.wanted.length cw, .int .i64 B.lo, .int .i64 B.hi] 27)).alloc (.cells #[.int .i64 hr, .int .i64 hs, .int .i64 hc] 44)).alloc (.cells #[.slice A n c] 45) = y := ⟨_, rfl⟩
  have bW := hide (show Blk W w.heap.size 27 #[.slice Q B.qs.length cq, .slice Wd B.wanted.length cw, .int .i64 B.lo, .int .i64 B.hi] by rw [← hW]; exact ((blkNew rfl).alloc _).alloc _)
  have bH := hide (show Blk W (w.heap.size + 1) 44 #[.int .i64 hr, .int .i64 hs, .int .i64 hc] by rw [← hW]; exact (blkNew (by simp)).alloc _)
  have bP := hide (show Blk W (w.heap.size + 2) 45 #[.slice A n c] by rw [← hW]; exact blkNew (by simp))
  have hBW := hide (show Below w.heap.size w W by rw [← hW]; exact (((Below.refl _ _).alloc (Nat.le_refl _) _).alloc (by simp <;> omega) _).alloc (by simp <;> omega) _)
  replace hW := hide hW
  clear h hP
  have bo := bW.out
  have b2 := bH.out
  have c0 : W.cell? ⟨w.heap.size, 0, none⟩ = some (.slice Q B.qs.length cq) := bo.cell 0
  have c1 : W.cell? ⟨w.heap.size, 1, none⟩ = some (.slice Wd B.wanted.length cw) := bo.cell 1
  have c2 : W.cell? ⟨w.heap.size, 2, none⟩ = some (.int .i64 B.lo) := bo.cell 2
  have c3 : W.cell? ⟨w.heap.size, 3, none⟩ = some (.int .i64 B.hi) := bo.cell 3
  have d0 : W.cell? ⟨w.heap.size + 1, 0, none⟩ = some (.int .i64 hr) := b2.cell 0
  have d1 : W.cell? ⟨w.heap.size + 1, 1, none⟩ = some (.int .i64 hs) := b2.cell 1
  have d2 : W.cell? ⟨w.heap.size + 1, 2, none⟩ = some (.int .i64 hc) := b2.cell 2
  have p0 : W.cell? ⟨w.heap.size + 1 + 1, 0, none⟩ = some (.slice A n c) := bP.out.cell 0
  clear bo b2
  go_enter Try.func33, Try.ntmps33
  go_upto_region 1 with fail
  rw [hW.out]
  go_wp2_with fail
  refine (hEn.out W hBW.out).mono ?_
  clear c0 c1 c2 c3
  clear d0 d1 d2
  clear p0 hEn hW bW
  rintro e w2 ⟨hb, (⟨he, rfl⟩ | ⟨rfl, gw, cg, gl, M, rfl, hV, hK, hgw, hgl, hM, hc1, hc2⟩)⟩
  · have b1 : (en != 0) = true := by rw [bne_iff_ne]; exact he
    have hB2 := hide (hBW.out.trans (hb.mono hBW.out.size))
    have hE' := hxy.out
    rw [if_pos he] at hE'
    injection hE' with hx hy
    subst hx hy
    replace he := hide he
    clear hb bH bP
    go_wp2
    go_ret2
    exact ⟨rfl, hB2.out.alloc hB2.out.size _⟩
  · have hB2 := hide (hBW.out.trans (hb.mono hBW.out.size))
    obtain ⟨hOk, hhall, hnn⟩ := hok.out rfl
    have hn30 := hall_n ⟨hhall.1, hhall.2.1⟩ hnn
    obtain ⟨hsn, rfl⟩ : ∃ k : Nat, hs = (k : Int) := ⟨hs.toNat, by omega⟩
    obtain ⟨w3, hw3⟩ : ∃ y, w2.alloc (.cells #[.slice Q B.qs.length cq, .slice Wd B.wanted.length cw, .int .i64 B.lo, .int .i64 B.hi, .slice (some ⟨gw, 0, none⟩) B.qs.length cg, .slice (some ⟨gl, 0, none⟩) (B.qs.length + 1) (B.qs.length + 1), .map (some M)] 85) = y := ⟨_, rfl⟩
    have bV := hide (show Blk w3 w2.heap.size 85 #[.slice Q B.qs.length cq, .slice Wd B.wanted.length cw, .int .i64 B.lo, .int .i64 B.hi, .slice (some ⟨gw, 0, none⟩) B.qs.length cg, .slice (some ⟨gl, 0, none⟩) (B.qs.length + 1) (B.qs.length + 1), .map (some M)] by rw [← hw3]; exact blkNew rfl)
    have hb3 := hide (show Below w2.heap.size w2 w3 by rw [← hw3]; exact (Below.refl _ _).alloc (Nat.le_refl _) _)
    have bH3 := hide ((bH.out.below hb bH.out.lt).below hb3.out (bH.out.below hb bH.out.lt).lt)
    have bP3 := hide ((bP.out.below hb bP.out.lt).below hb3.out (bP.out.below hb bP.out.lt).lt)
    have hB3 := hide (hB2.out.trans (hb3.out.mono hB2.out.size))
    have hV3 := hV.below hb3.out
    have hxe := hxy.out
    rw [if_neg (by simp), fErr_first, Int.toNat_natCast] at hxe
    have hFe := hide (firstErrorPap 64 #[] #[.pointer (some ⟨w2.heap.size, 0, none⟩), .pointer (some ⟨w.heap.size + 1, 0, none⟩), .pointer (some ⟨w.heap.size + 1 + 1, 0, none⟩)] enters_acc (accF B hsn hc ps) A n c ps w3 (hPb.out w3 hB3.out) (by unfold maxLen; omega) (fun j W Aj cj hj hb hr hl => acc1_any Q Wd cq cw gw cg gl M B _ hc hsn A Aj n c cj j _ _ _ ps W hOk (hV3.below hb) (by omega) (by omega) (by omega) hj ((hPb.out w3 hB3.out).below hb) hr hl (bV.out.below hb bV.out.lt) (bH3.out.below hb bH3.out.lt) (bP3.out.below hb bP3.out.lt)))
    rw [hxe] at hFe
    replace hw3 := hide hw3
    clear hb hV hK bH bP hPb
    go_upto_region 2 with fail
    rw [hw3.out]
    have p0 : w3.cell? ⟨w.heap.size + 1 + 1, 0, none⟩ = some (.slice A n c) := bP3.out.cell 0
    clear hxe hV3
    replace hnn := hide hnn
    go_wp2_with fail
    refine hFe.out.mono ?_
    rintro e w4 ⟨rfl, hb4⟩
    have hB4 := hide (hB3.out.trans (hb4.mono hB3.out.size))
    clear p0 hb4 hFe
    go_wp2
    go_ret2
    exact ⟨rfl, hB4.out⟩
end Go.Proofs.Ytnmgnonbgihalaa
