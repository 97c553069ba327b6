import Derived.Test.YtnmgnonbgihalaaPq
import Derived.Lib.LazyBuf
/-
  The narrowest range that so many papers have (made by gen_fair.py).
-/
namespace Go.Proofs.Ytnmgnonbgihalaa
open Go.RowKit RG

theorem fair_end (tm : Array Value) (wf : World) (R : Ending → World → Prop) (q : Nat) (er : Int) (x y : Value) (h4 : tm[4]? = some (.pointer (some ⟨q, 0, none⟩))) (h5 : tm[5]? = some (.int .i64 er)) (hc : Blk wf q 25 #[x, y])
    (hR : R (.returned (.tuple #[.agg #[x, y], .int .i64 er])) wf) : bodyPost Try.prog Try.f28 R .ret { tmps := tm, defers := [] } wf := by
  have c0 : wf.cell? ⟨q, 0, none⟩ = some x := hc.cell 0
  have c1 : wf.cell? ⟨q, 1, none⟩ = some y := hc.cell 1
  refine bodyPost_ret (v := .tuple #[.agg #[x, y], .int .i64 er]) ?_ rfl hR
  simp [results, Try.results28, go_sem, h4, h5, c0, c1]
theorem span_set {w : World} {q : Nat} {t : TypeId} {a b : Value} (h : Blk w q t #[a, b]) (x y : Value) : Blk ((w.setCell ⟨q, 0, none⟩ x).setCell ⟨q, 1, none⟩ y) q t #[x, y] := (h.set_ 0 x).set_ 1 y
theorem span_below {n : Nat} {u w : World} {q : Nat} (h : Below n u w) (hq : n ≤ q) (x y : Value) : Below n u ((w.setCell ⟨q, 0, none⟩ x).setCell ⟨q, 1, none⟩ y) := (h.setCell (p := ⟨q, 0, none⟩) hq x).setCell (p := ⟨q, 1, none⟩) hq y
set_option maxRecDepth 100000 in
set_option maxHeartbeats 4000000 in
theorem Fair_any (Q Wd : Option Addr) (cq cw : Nat) (B : Bank) (x : Int) (w : World) (h : BkR w Q Wd B) :
    Calls Try.prog 28 #[bkV Q Wd cq cw B, .int .i64 x] w fun e w' => e = .returned (.tuple #[.agg #[.int .i64 (fairV B x).1, .int .i64 (fairV B x).2], .int .i64 (fairE B x)]) ∧ Below w.heap.size w w' := by
  have hOp := hide (fun W (hb : Below w.heap.size w W) => open_any Q Wd cq cw B W (h.below hb))
  have hok := hide (bank_ok (B := B))
  obtain ⟨E, hE⟩ : ∃ z, fairE B x = z := ⟨_, rfl⟩
  obtain ⟨lo, hi, hlh⟩ : ∃ a b, fairV B x = (a, b) := ⟨_, _, rfl⟩
  rw [hE, hlh]
  dsimp only
  unfold fairV at hlh
  rw [hE] at hlh
  unfold fairE errP at hE
  generalize hck : (checkP B).2.2 = er at *
  replace hck := hide hck
  replace hE := hide hE
  replace hlh := hide hlh
  unfold bkV vwV vw0 at *
  obtain ⟨W, hW⟩ : ∃ y, (w.alloc (.cells #[.slice Q B.qs.length cq, .slice Wd B.wanted.length cw, .int .i64 B.lo, .int .i64 B.hi] 27)).alloc (.cells #[.int .i64 0, .int .i64 0] 25) = y := ⟨_, rfl⟩
  have bW := hide (show Blk W w.heap.size 27 #[.slice Q B.qs.length cq, .slice Wd B.wanted.length cw, .int .i64 B.lo, .int .i64 B.hi] by rw [← hW]; exact (blkNew rfl).alloc _)
  have bR := hide (show Blk W (w.heap.size + 1) 25 #[.int .i64 0, .int .i64 0] by rw [← hW]; exact blkNew (by simp))
  have hBW := hide (show Below w.heap.size w W by rw [← hW]; exact ((Below.refl _ _).alloc (Nat.le_refl _) _).alloc (by simp <;> omega) _)
  replace hW := hide hW
  have bo := bW.out
  have c0 : W.cell? ⟨w.heap.size, 0, none⟩ = some (.slice Q B.qs.length cq) := bo.cell 0
  have c1 : W.cell? ⟨w.heap.size, 1, none⟩ = some (.slice Wd B.wanted.length cw) := bo.cell 1
  have c2 : W.cell? ⟨w.heap.size, 2, none⟩ = some (.int .i64 B.lo) := bo.cell 2
  have c3 : W.cell? ⟨w.heap.size, 3, none⟩ = some (.int .i64 B.hi) := bo.cell 3
  clear bo
  go_enter Try.func28, Try.ntmps28
  go_upto_region 1 with fail
  rw [hW.out]
  go_wp2_with fail
  refine (hOp.out W hBW.out).mono ?_
  clear c0 c1 c2 c3
  clear hOp hW bW
  rintro e w2 ⟨hb, (⟨he, rfl⟩ | ⟨rfl, gw, cg, gl, M, rfl, hV, hK, hgw, hgl, hM, hc1, hc2⟩)⟩
  · have b1 : (er != 0) = true := by rw [bne_iff_ne]; exact he
    have hB2 := hide (hBW.out.trans (hb.mono hBW.out.size))
    have bR2 := hide (bR.out.below hb bR.out.lt)
    have hE' := hE.out
    rw [if_pos he] at hE'
    subst hE'
    have hl := hlh.out
    rw [if_neg he] at hl
    injection hl with hl1 hl2
    subst hl1 hl2
    replace he := hide he
    obtain ⟨w3, hw3⟩ : ∃ y, w2.alloc (.cells #[.slice none 0 0, .slice none 0 0, .int .i64 0, .int .i64 0, .slice none 0 0, .slice none 0 0, .map none] 85) = y := ⟨_, rfl⟩
    have hb3 := hide (show Below w2.heap.size w2 w3 by rw [← hw3]; exact (Below.refl _ _).alloc (Nat.le_refl _) _)
    have bR3 := hide (bR2.out.below hb3.out bR2.out.lt)
    have hB3 := hide (hB2.out.trans (hb3.out.mono hB2.out.size))
    replace hw3 := hide hw3
    clear hb bR bR2
    go_upto_region 2 with fail
    rw [hw3.out]
    have z0 := bR3.out.frozen 0
    have z1 := bR3.out.frozen 1
    have d0 : w3.cell? ⟨w.heap.size + 1, 0, none⟩ = some (.int .i64 0) := bR3.out.cell 0
    have d1 : w3.cell? ⟨w.heap.size + 1, 1, none⟩ = some (.int .i64 0) := bR3.out.cell 1
    go_wp2
    exact fair_end _ _ _ _ _ _ _ rfl rfl (span_set bR3.out _ _) ⟨rfl, span_below hB3.out (by omega) _ _⟩
  · have hB2 := hide (hBW.out.trans (hb.mono hBW.out.size))
    have bR2 := hide (bR.out.below hb bR.out.lt)
    have hOk := hok.out rfl
    have hnq := hOk.nq
    have hcap : capN B.qs.length ≤ 2 ^ 16 := by have h1 := capN_pow B.qs.length; have h2 := Nat.pow_le_pow_right (n := 2) (by decide) hnq.2; omega
    obtain ⟨w3, hw3⟩ : ∃ y, w2.alloc (.cells #[.slice Q B.qs.length cq, .slice Wd B.wanted.length cw, .int .i64 B.lo, .int .i64 B.hi, .slice (some ⟨gw, 0, none⟩) B.qs.length cg, .slice (some ⟨gl, 0, none⟩) (B.qs.length + 1) (B.qs.length + 1), .map (some M)] 85) = y := ⟨_, rfl⟩
    have bV := hide (show Blk w3 w2.heap.size 85 #[.slice Q B.qs.length cq, .slice Wd B.wanted.length cw, .int .i64 B.lo, .int .i64 B.hi, .slice (some ⟨gw, 0, none⟩) B.qs.length cg, .slice (some ⟨gl, 0, none⟩) (B.qs.length + 1) (B.qs.length + 1), .map (some M)] by rw [← hw3]; exact blkNew rfl)
    have hb3 := hide (show Below w2.heap.size w2 w3 by rw [← hw3]; exact (Below.refl _ _).alloc (Nat.le_refl _) _)
    have bR3 := hide (bR2.out.below hb3.out bR2.out.lt)
    have hB3 := hide (hB2.out.trans (hb3.out.mono hB2.out.size))
    have hV3 := hide (hV.below hb3.out)
    have hK3 := hide (hK.below hb3.out)
    have hM9 := hide (Nat.le_trans hBW.out.size hM)
    have hWs := hide bR.out.lt
    replace hw3 := hide hw3
    clear hb hV hK bR bR2
    go_upto_region 2 with fail
    rw [hw3.out]
    have z0 := bR3.out.frozen 0
    have z1 := bR3.out.frozen 1
    have d0 : w3.cell? ⟨w.heap.size + 1, 0, none⟩ = some (.int .i64 0) := bR3.out.cell 0
    have d1 : w3.cell? ⟨w.heap.size + 1, 1, none⟩ = some (.int .i64 0) := bR3.out.cell 1
    by_cases hx : x < 1
    · have hxd : decide (x < 1) = true := decide_eq_true hx
      have hE' := hE.out
      rw [if_neg (by simp), if_pos hx] at hE'
      subst hE'
      have hl := hlh.out
      rw [if_neg (by decide)] at hl
      injection hl with hl1 hl2
      subst hl1 hl2
      clear hV3 hK3
      go_wp2
      exact fair_end _ _ _ _ _ _ _ rfl rfl (span_set bR3.out _ _) ⟨rfl, span_below hB3.out (by omega) _ _⟩
    · have hxd : decide (x < 1) = false := decide_eq_false (by omega)
      clear z0 z1 d0 d1
      have bo := bV.out
      have s0 : w3.cell? ⟨w2.heap.size, 0, none⟩ = some (.slice Q B.qs.length cq) := bo.cell 0
      have s1 : w3.cell? ⟨w2.heap.size, 1, none⟩ = some (.slice Wd B.wanted.length cw) := bo.cell 1
      have s2 : w3.cell? ⟨w2.heap.size, 2, none⟩ = some (.int .i64 B.lo) := bo.cell 2
      have s3 : w3.cell? ⟨w2.heap.size, 3, none⟩ = some (.int .i64 B.hi) := bo.cell 3
      have s4 : w3.cell? ⟨w2.heap.size, 4, none⟩ = some (.slice (some ⟨gw, 0, none⟩) B.qs.length cg) := bo.cell 4
      have s5 : w3.cell? ⟨w2.heap.size, 5, none⟩ = some (.slice (some ⟨gl, 0, none⟩) (B.qs.length + 1) (B.qs.length + 1)) := bo.cell 5
      have s6 : w3.cell? ⟨w2.heap.size, 6, none⟩ = some (.map (some M)) := bo.cell 6
      clear bo
      have hCn := hide (count_any Q Wd cq cw gw cg gl M B 0 w3 hOk hV3.out hK3.out (by omega))
      unfold vwV at hCn
      have hgn := hide (blk_nmap hK3.out.map bV.out)
      have hgr := hide (blk_nmap hK3.out.map bR3.out)
      have hmm := hide hK3.out.map
      go_wp2_with fail
      refine hCn.out.mono ?_
      rintro e w4 ⟨rfl, hk4, hK4⟩
      have hV4 := hide (hV3.out.keptM (by omega) hmm.out hk4)
      have bV4 := hide (KeptX.blk hk4 ⟨bV.out.lt, hgn.out⟩ bV.out)
      have bR4 := hide (KeptX.blk hk4 ⟨bR3.out.lt, hgr.out⟩ bR3.out)
      have hB4 := hide (hB3.out.trans ((hk4.mono hB3.out.size).to_below hM9.out))
      replace hK4 := hide hK4
      clear s0 s1 s2 s3 s4 s5 s6
      clear hCn hk4 hV3 hK3 bV bR3
      have hln := papers_len hOk
      obtain ⟨N, hN⟩ : ∃ z, (papers B).length = z := ⟨_, rfl⟩
      rw [hN] at hln hE hlh
      have z0 := bR4.out.frozen 0
      have z1 := bR4.out.frozen 1
      have d0 : w4.cell? ⟨w.heap.size + 1, 0, none⟩ = some (.int .i64 0) := bR4.out.cell 0
      have d1 : w4.cell? ⟨w.heap.size + 1, 1, none⟩ = some (.int .i64 0) := bR4.out.cell 1
      rw [hN]
      by_cases hy : (N : Int) < x
      · have hyd : decide (x > (N : Int)) = true := decide_eq_true hy
        have hyd2 : decide ((N : Int) < x) = true := decide_eq_true hy
        have hE' := hE.out
        rw [if_neg (by simp), if_neg (show ¬ x < 1 by omega), if_pos hy] at hE'
        subst hE'
        have hl := hlh.out
        rw [if_neg (by decide)] at hl
        injection hl with hl1 hl2
        subst hl1 hl2
        clear hV4 hK4
        replace hN := hide hN
        go_wp2
        exact fair_end _ _ _ _ _ _ _ rfl rfl (span_set bR4.out _ _) ⟨rfl, span_below hB4.out (by omega) _ _⟩
      · have hyd : decide (x > (N : Int)) = false := decide_eq_false (by omega)
        have hyd2 : decide ((N : Int) < x) = false := decide_eq_false (by omega)
        have hE' := hE.out
        rw [if_neg (by simp), if_neg (show ¬ x < 1 by omega), if_neg (show ¬ (N : Int) < x by omega)] at hE'
        subst hE'
        have hl := hlh.out
        rw [if_pos rfl] at hl
        obtain ⟨k, rfl⟩ : ∃ k : Nat, x = (k : Int) + 1 := ⟨(x - 1).toNat, by omega⟩
        rw [show ((k : Int) + 1).toNat - 1 = k by omega, show ((k : Int) + 1).toNat = k + 1 by omega] at hl
        have hnkd : N = k + 1 + (N - (k + 1)) := by omega
        have hLv := hide (levels_any Q Wd cq cw gw cg gl M B _ w4 hOk hV4.out hK4.out (by omega) (by omega))
        unfold vwV at hLv
        have hNr := hide (fun (A : Option Addr) (c : Nat) (W : World) (h : RdInts W A N (sortI (levelsP B))) (hc : N ≤ c) => narrowest_any A N c k (N - (k + 1)) (sortI (levelsP B)) W h hnkd (by omega) hc (sortI_bd hOk))
        rw [hl] at hNr
        have hsl : (sortI (levelsP B)).length = N := by rw [sortI_len, levelsP_len, hN]
        clear z0 z1 d0 d1 hnkd hl hE hlh hxd hyd hyd2
        have bo := bV4.out
        have s0 : w4.cell? ⟨w2.heap.size, 0, none⟩ = some (.slice Q B.qs.length cq) := bo.cell 0
        have s1 : w4.cell? ⟨w2.heap.size, 1, none⟩ = some (.slice Wd B.wanted.length cw) := bo.cell 1
        have s2 : w4.cell? ⟨w2.heap.size, 2, none⟩ = some (.int .i64 B.lo) := bo.cell 2
        have s3 : w4.cell? ⟨w2.heap.size, 3, none⟩ = some (.int .i64 B.hi) := bo.cell 3
        have s4 : w4.cell? ⟨w2.heap.size, 4, none⟩ = some (.slice (some ⟨gw, 0, none⟩) B.qs.length cg) := bo.cell 4
        have s5 : w4.cell? ⟨w2.heap.size, 5, none⟩ = some (.slice (some ⟨gl, 0, none⟩) (B.qs.length + 1) (B.qs.length + 1)) := bo.cell 5
        have s6 : w4.cell? ⟨w2.heap.size, 6, none⟩ = some (.map (some M)) := bo.cell 6
        clear bo
        have hgn4 := hide (blk_nmap hK4.out.map bV4.out)
        have hgr4 := hide (blk_nmap hK4.out.map bR4.out)
        have hxd : decide ((k : Int) + 1 < 1) = false := decide_eq_false (by omega)
        have hyd : decide ((k : Int) + 1 > (N : Int)) = false := decide_eq_false (by omega)
        have hyd2 : decide ((N : Int) < (k : Int) + 1) = false := decide_eq_false (by omega)
        replace hN := hide hN
        replace hsl := hide hsl
        go_wp2_with fail
        refine hLv.out.mono ?_
        rintro e w5 ⟨⟨v, rfl, hrow⟩, hk5, -⟩
        have bR5 := hide (KeptX.blk hk5 ⟨bR4.out.lt, hgr4.out⟩ bR4.out)
        have hB5 := hide (hB4.out.trans ((hk5.mono hB4.out.size).to_below hM9.out))
        obtain ⟨A5, c5, rfl, hrd, hc5⟩ := hrow.isInts
        have hNr5 := hide (hNr.out A5 c5 w5 (by have h9 := hrd; rw [hsl.out] at h9; exact h9) (by rw [hsl.out] at hc5; exact hc5))
        rw [hsl.out]
        clear s0 s1 s2 s3 s4 s5 s6
        clear hLv hNr hk5 hrow hrd hV4 hK4 bV4 bR4
        go_wp2_with fail
        refine hNr5.out.mono ?_
        rintro e w6 ⟨rfl, hb6⟩
        have bR6 := hide (bR5.out.below hb6 bR5.out.lt)
        have hB6 := hide (hB5.out.trans (hb6.mono hB5.out.size))
        clear hb6 hNr5 bR5
        have z0 := bR6.out.frozen 0
        have z1 := bR6.out.frozen 1
        have d0 : w6.cell? ⟨w.heap.size + 1, 0, none⟩ = some (.int .i64 0) := bR6.out.cell 0
        have d1 : w6.cell? ⟨w.heap.size + 1, 1, none⟩ = some (.int .i64 0) := bR6.out.cell 1
        go_wp2
        exact fair_end _ _ _ _ _ _ _ rfl rfl (span_set bR6.out _ _) ⟨rfl, span_below hB6.out (by omega) _ _⟩
end Go.Proofs.Ytnmgnonbgihalaa

/-
  Whether a paper is too much alike with that of a neighbour before a seat (made by gen_alike.py).
-/
namespace Go.Proofs.Ytnmgnonbgihalaa
open Go.RowKit Go.Shelf RG
attribute [local go_sem] Oper.semAt_some

/-- A list of papers that can be read. -/
def RdPaps (w : World) (A : Option Addr) (n : Nat) (ps : List (List Int)) : Prop :=
  ps.length = n ∧ (0 < n → ∃ b off, A = some ⟨b, off, none⟩ ∧ b < w.heap.size ∧ ∀ j, j < n → ∃ Aj cj, w.cell? ⟨b, off + j, none⟩ = some (.slice Aj (ps[j]?.getD []).length cj) ∧ RdInts w Aj (ps[j]?.getD []).length (ps[j]?.getD []) ∧ (ps[j]?.getD []).length ≤ maxLen)
theorem RdPaps.below {w w' : World} {A : Option Addr} {n : Nat} {ps : List (List Int)} (h : RdPaps w A n ps) (hb : Below w.heap.size w w') : RdPaps w' A n ps := by
  refine ⟨h.1, fun hn => ?_⟩
  obtain ⟨b, off, e, hlt, hc⟩ := h.2 hn
  refine ⟨b, off, e, Nat.lt_of_lt_of_le hlt hb.size, fun j hj => ?_⟩
  obtain ⟨Aj, cj, h1, h2, h3⟩ := hc j hj
  exact ⟨Aj, cj, (cellB hb hlt).trans h1, h2.below hb, h3⟩
/-- How a round leaves the loop. -/
def AlX (w : World) (q : Nat) (f : Nat → Bool) (c : Code) (pre : List Nat) (W : World) : Prop := Below w.heap.size w W ∧ c = .ret ∧ (∃ y ∈ pre, f y = true) ∧ Blk W q 4 #[.bool true]
theorem AlX.own (w : World) (q : Nat) (f : Nat → Bool) (c : Code) (B : Nat) (hB : w.heap.size ≤ B) (hq : q < B) : OwnFrom B (AlX w q f c) := by
  rintro s X Y row ⟨h1, h2, h3, h4⟩ hg hr
  exact ⟨h1.grown hg h1.size (fun k e => by have := (hr k e).1; omega), h2, h3, h4.grown hg (fun e => by have := (hr q e.symm).1; omega)⟩
theorem alike_end (tm : Array Value) (wf : World) (R : Ending → World → Prop) (p : Nat) (v : Bool) (h8 : tm[8]? = some (.pointer (some ⟨p, 0, none⟩))) (hc4 : wf.cell? ⟨p, 0, none⟩ = some (.bool v)) (hR : R (.returned (.bool v)) wf) : LeavesInM Fence.wide 9 Try.prog Try.f65 tm R [] .returning wf := by
  have a1 := Try.isAgg4
  refine ⟨.bool v, ?_, hR⟩
  simp [results, Try.results65, go_sem, h8, hc4]
set_option maxRecDepth 100000 in
set_option maxHeartbeats 2000000 in
theorem alike_any (hr hc : Int) (hs seat : Nat) (A Ap : Option Addr) (n c lp cp : Nat) (ps : List (List Int)) (xs : List Int) (w : World) (h1 : 1 ≤ hs) (hs6 : hs ≤ 1000) (hse : seat ≤ 1000000) (hn : seat ≤ n) (hP : RdPaps w A n ps) (hX : RdInts w Ap lp xs) (hlp : lp ≤ maxLen) :
    Calls Try.prog 65 #[.agg #[.int .i64 hr, .int .i64 (hs : Int), .int .i64 hc], .slice A n c, .int .i64 seat, .slice Ap lp cp] w fun e w' => e = .returned (.bool (alikeP hs hc ps seat xs)) ∧ Below w.heap.size w w' := by
  obtain ⟨f, hf⟩ : ∃ f : Nat → Bool, (fun j => decide (hc < (commonP (ps[j]?.getD []) xs : Nat))) = f := ⟨_, rfl⟩
  have hfe := hide (fun j => (congrFun hf j).symm)
  have hal : alikeP hs hc ps seat xs = (nbF hs seat ++ nbS hs seat).any f := by rw [← hf]; rfl
  obtain ⟨qq, hqq⟩ : ∃ z, (nbF hs seat ++ nbS hs seat).any f = z := ⟨_, rfl⟩
  rw [hal, hqq]
  replace hqq := hide hqq
  have hlt := hide (fun x (pre : List Nat) (h : (pre = [] ∧ hs ≤ seat ∧ x = seat - hs) ∨ (pre = nbF hs seat ∧ 0 < seat % hs ∧ x = seat - 1)) => show x < n from by
    rcases h with ⟨_, h, rfl⟩ | ⟨_, h, rfl⟩
    · omega
    · have : seat ≠ 0 := fun e => by subst e; simp at h
      omega)
  have hsub := hide (fun (pre : List Nat) (h : (hs ≤ seat ∧ pre = [seat - hs]) ∨ pre = nbF hs seat ++ nbS hs seat) (y : Nat) (hy : y ∈ pre) => show y ∈ nbF hs seat ++ nbS hs seat from by
    rcases h with ⟨h, rfl⟩ | rfl
    · rw [List.mem_singleton] at hy
      subst hy
      unfold nbF
      rw [if_pos h]
      simp
    · exact hy)
  have hCm := hide (fun (W : World) (hb : Below w.heap.size w W) (j : Nat) (hj : j < n) => show ∃ b off Aj lj cj, A = some ⟨b, off, none⟩ ∧ W.cell? ⟨b, off + j, none⟩ = some (.slice Aj lj cj) ∧ ∃ m : Nat, f j = decide (hc < (m : Int)) ∧ Calls Try.prog 85 #[.slice Aj lj cj, .slice Ap lp cp] W fun e w' => e = .returned (.int .i64 (m : Int)) ∧ w' = W from by
    obtain ⟨b, off, e, _, hcl⟩ := (hP.below hb).2 (by omega)
    obtain ⟨Aj, cj, h2, h3, h4⟩ := hcl j hj
    exact ⟨b, off, Aj, _, cj, e, h2, _, hfe.out j, common_any Aj Ap _ cj lp cp _ xs W h3 h4 (hX.below hb) hlp⟩)
  clear hP hX hf hal
  obtain ⟨w1, hw1⟩ : ∃ x, (((w.alloc (.cells #[.int .i64 hr, .int .i64 (hs : Int), .int .i64 hc] 44)).alloc (.cells #[.slice A n c] 45)).alloc (.cells #[.slice Ap lp cp] 23)).alloc (.cells #[.bool false] 4) = x := ⟨_, rfl⟩
  have hz1 : w1.heap.size = w.heap.size + 4 := by rw [← hw1]; simp
  have k0 := hide (show Blk w1 w.heap.size 44 #[.int .i64 hr, .int .i64 (hs : Int), .int .i64 hc] by rw [← hw1]; exact (((blkNew rfl).alloc _).alloc _).alloc _)
  have k1 := hide (show Blk w1 (w.heap.size + 1) 45 #[.slice A n c] by rw [← hw1]; exact ((blkNew (by simp)).alloc _).alloc _)
  have k2 := hide (show Blk w1 (w.heap.size + 2) 23 #[.slice Ap lp cp] by rw [← hw1]; exact (blkNew (by simp)).alloc _)
  have k3 := hide (show Blk w1 (w.heap.size + 3) 4 #[.bool false] by rw [← hw1]; exact blkNew (by simp))
  have hB1 := hide (show Below w.heap.size w w1 by rw [← hw1]; exact ((((Below.refl _ _).alloc (Nat.le_refl _) _).alloc (by simp) _).alloc (by simp +arith) _).alloc (by simp +arith) _)
  have hNb := hide (neighbours_any hr hs hc seat w1)
  replace hw1 := hide hw1
  have b0 : w1.cell? ⟨w.heap.size, 0, none⟩ = some (.int .i64 hr) := k0.out.cell 0
  have b1 : w1.cell? ⟨w.heap.size, 1, none⟩ = some (.int .i64 (hs : Int)) := k0.out.cell 1
  have b2 : w1.cell? ⟨w.heap.size, 2, none⟩ = some (.int .i64 hc) := k0.out.cell 2
  refine (callsIn_wide (n := 9)).1 ?_
  refine callsIn_of_wp_marks Try.func65 rfl trivial ?_ rfl
  simp only [Try.ntmps65, List.size_toArray, List.length_cons, List.length_nil, Nat.reduceAdd, Nat.reduceSub, Array.replicate_succ, Array.replicate_zero, List.push_toArray, List.append_toArray, List.nil_append, List.cons_append]
  refine wpIn_wide.2 ?_
  go_upto_region 1 with fail
  rw [hw1.out]
  go_wp2_with fail
  refine hNb.out.mono ?_
  clear hNb b0 b1 b2
  rintro e w2 ⟨rfl, hw2⟩
  have hz2 : w2.heap.size = w.heap.size + 6 := by rw [hw2]; simp [hz1]
  have k0' := hide (show Blk w2 w.heap.size _ _ by rw [hw2]; exact (k0.out.alloc _).alloc _)
  have k1' := hide (show Blk w2 (w.heap.size + 1) _ _ by rw [hw2]; exact (k1.out.alloc _).alloc _)
  have k2' := hide (show Blk w2 (w.heap.size + 2) _ _ by rw [hw2]; exact (k2.out.alloc _).alloc _)
  have k3' := hide (show Blk w2 (w.heap.size + 3) _ _ by rw [hw2]; exact (k3.out.alloc _).alloc _)
  have k4' := hide (show Blk w2 (w.heap.size + 4) 44 #[.int .i64 hr, .int .i64 (hs : Int), .int .i64 hc] by rw [hw2]; exact (blkNew (by rw [hz1])).alloc _)
  have k5' := hide (show Blk w2 (w.heap.size + 5) 3 #[.int .i64 seat] by rw [hw2]; exact blkNew (by simp [hz1]))
  have hB2 := hide (show Below w.heap.size w w2 by rw [hw2]; exact (hB1.out.alloc (by rw [hz1]; omega) _).alloc (by simp [hz1]; omega) _)
  rw [hz1]
  replace hw2 := hide hw2
  clear k0 k1 k2 k3 hB1
  go_wp2
  refine (wpIn_wide (n := 9)).1 ?_
  refine range_own (gf := 92) (lb := #[.pointer (some ⟨w.heap.size + 4 + 1, 0, none⟩), .pointer (some ⟨w.heap.size + 4, 0, none⟩)]) (encs := encN) rfl enters_nbr
    (nbr_seq (9 - 1) (w.heap.size + 4 + 1) (w.heap.size + 4) hs seat h1 hs6 hse w2) (fun _ => rfl)
    (fun pre W => Below w2.heap.size w2 W ∧ ∀ y ∈ pre, f y = false) (AlX w (w.heap.size + 3) f)
    (fun s X h => h.1.size) (fun s X h => ⟨(k5'.out.below h.1 k5'.out.lt).cell 0, (k4'.out.below h.1 k4'.out.lt).cell 1⟩) (fun s X Y h hb => ⟨h.1.trans hb, h.2⟩) (fun c => AlX.own _ _ _ c _ hB2.out.size (by omega)) ⟨Below.refl _ _, fun y hy => by cases hy⟩
    (fun x W => W) (fun x W => Below.refl _ _)
    (fun x W => { tmps := #[.agg #[.int .i64 hr, .int .i64 (hs : Int), .int .i64 hc], .slice A n c, .int .i64 seat, .slice Ap lp cp, .pointer (some ⟨w.heap.size, 0, none⟩), .pointer (some ⟨w.heap.size + 1, 0, none⟩), undef, .pointer (some ⟨w.heap.size + 1 + 1, 0, none⟩), .pointer (some ⟨w.heap.size + 1 + 1 + 1, 0, none⟩), .int .i64 x, .agg #[.int .i64 hr, .int .i64 (hs : Int), .int .i64 hc], .int .i64 seat,
      .func (.func 92) #[] #[.pointer (some ⟨w.heap.size + 4 + 1, 0, none⟩), .pointer (some ⟨w.heap.size + 4, 0, none⟩)], .int .i64 x, undef, undef, undef, undef, undef, undef, undef, undef, undef], defers := [] }) ?assign ?body ?done ?stop
  case assign =>
    rintro l x W K hK
    simp only [encN]
    gi_wp2
    exact hK
  case body =>
    rintro l pre x W0 W ⟨hB0, -⟩ ⟨hBW, hpre⟩ hx hk
    have hxn := hlt.out x pre hx
    have hBw := hB2.out.trans (hBW.mono hB2.out.size)
    obtain ⟨b, off, Aj, lj, cj, rfl, cx, m, hfm, hcall⟩ := hCm.out W.drew hBw.drew x hxn
    replace cx : W.cell? ⟨b, off + x, none⟩ = some (.slice Aj lj cj) := cx
    have hxz : (x : Int) < (n : Int) := by omega
    have hxz0 : (0 : Int) ≤ (x : Int) := by omega
    have c1 : W.cell? ⟨w.heap.size + 1, 0, none⟩ = some (.slice (some ⟨b, off, none⟩) n c) := (k1'.out.below hBW k1'.out.lt).cell 0
    have c2 : W.cell? ⟨w.heap.size + 1 + 1, 0, none⟩ = some (.slice Ap lp cp) := (k2'.out.below hBW k2'.out.lt).cell 0
    have c0 : W.cell? ⟨w.heap.size, 2, none⟩ = some (.int .i64 hc) := (k0'.out.below hBW k0'.out.lt).cell 2
    have k3W := hide (k3'.out.below hBW k3'.out.lt)
    have hpre' := hide hpre
    have hBW' := hide hBW
    have hBw' := hide hBw
    have hkt := hide (((Stored.drew_ (Stored.set1 W (w.heap.size + 3) 0 (.bool true))).others k3W.out).from w2.heap.size)
    have hkf := hide ((KeepsOthers.of_grownBy (W := W) (W' := W.drew) (row := none) ⟨rfl, rfl, rfl, Nat.le_refl _, fun k hk _ => rfl⟩ (by simp)).from w2.heap.size)
    replace hz2 := hide hz2
    clear hpre hBW hBw hx hk hB0 hCm hsub hlt hfe
    replace hcall := hide hcall
    replace hfm := hide hfm
    gi_wp2
    refine region_still_rd 8 (by kernel_rfl) (by kernel_rfl) (by kernel_rfl) ?_
    simp only [List.take_succ_cons, List.take_zero, List.drop_succ_cons, List.drop_zero]
    iterate 5 still_step
    still_call hcall.out
    iterate 2 still_step
    refine wpStill_nil ?_
    cases hq : f x with
    | true =>
      rw [hq] at hfm
      have hd : decide ((m : Int) > hc) = true := by have := of_decide_eq_true hfm.out.symm; exact decide_eq_true (by omega)
      have hd2 : decide (hc < (m : Int)) = true := hfm.out.symm
      have hd3 : hc < (m : Int) := of_decide_eq_true hfm.out.symm
      have d1 : W.cell? ⟨w.heap.size + 1 + 1 + 1, 0, none⟩ = some (.bool false) := k3W.out.cell 0
      have f1 : W.frozen? ⟨w.heap.size + 1 + 1 + 1, 0, none⟩ = false := k3W.out.frozen 0
      gi_wp2
      exact ⟨hkt.out, (hBw'.out.drew).setCell (by simp +arith) _, rfl, ⟨_, List.mem_append_right _ (List.mem_singleton.2 rfl), hq⟩, (k3W.out.drew).set_ 0 (.bool true)⟩
    | false =>
      rw [hq] at hfm
      have hd : decide ((m : Int) > hc) = false := by have := of_decide_eq_false hfm.out.symm; exact decide_eq_false (by omega)
      have hd2 : decide (hc < (m : Int)) = false := hfm.out.symm
      have hd3 : ¬ hc < (m : Int) := of_decide_eq_false hfm.out.symm
      gi_wp2
      refine ⟨hkf.out, trivial, hBW'.out.drew, fun y hy => ?_⟩
      rcases List.mem_append.1 hy with hy | hy
      · exact hpre'.out y hy
      · rw [List.mem_singleton] at hy; subst hy; exact hq
  case done =>
    rintro xs' W rfl ⟨hBW, hpre⟩ hD
    have hany : (nbF hs seat ++ nbS hs seat).any f = false := by rw [List.any_eq_false]; intro y hy; rw [hpre y hy]; exact Bool.false_ne_true
    obtain rfl : qq = false := hqq.out.symm.trans hany
    have n1 := k3'.out.below hBW k3'.out.lt
    have d1 : W.cell? ⟨w.heap.size + 1 + 1 + 1, 0, none⟩ = some (.bool false) := n1.cell 0
    have f1 : W.frozen? ⟨w.heap.size + 1 + 1 + 1, 0, none⟩ = false := n1.frozen 0
    have hBw := hide (hB2.out.trans (hBW.mono hB2.out.size))
    have hsW := hide hBW.size
    replace n1 := hide n1
    clear hpre hCm hsub hlt hfe
    simp only [Exit.inBlock, Exit.then]
    go_wp2
    have hD2 : (W.setCell ⟨w.heap.size + 3, 0, none⟩ (.bool false)).heap[w2.heap.size]? = some (.deferred (some [])) := (Below.heap_setCell _ _ _ _ (by show w2.heap.size ≠ w.heap.size + 3; omega)).trans hD
    have m1 := n1.out.set_ 0 (.bool false)
    refine ⟨by simp, .inl ⟨_, _, rfl, run_takeDeferred hD2, ?_⟩⟩
    have hkp := KC.put (.deferred none) hD2 rfl
    refine alike_end _ _ _ (w.heap.size + 3) false rfl ((hkp.blk m1).cell 0) ⟨rfl, ?_⟩
    have hb9 := hBw.out.setCell (p := ⟨w.heap.size + 3, 0, none⟩) (by simp +arith) (.bool false)
    exact hb9.trans (below_putObj _ _ hb9.size hB2.out.size)
  case stop =>
    rintro c pre W hsp ⟨hBw, rfl, ⟨y, hy, hyc⟩, n1⟩ hD
    have hany : (nbF hs seat ++ nbS hs seat).any f = true := List.any_eq_true.2 ⟨y, hsub.out pre hsp y hy, hyc⟩
    obtain rfl : qq = true := hqq.out.symm.trans hany
    have d1 : W.cell? ⟨w.heap.size + 3, 0, none⟩ = some (.bool true) := n1.cell 0
    clear hCm hsub hlt hfe
    gi_wp2
    refine ⟨by simp, .inl ⟨_, _, rfl, run_takeDeferred hD, ?_⟩⟩
    have hkp := KC.put (.deferred none) hD rfl
    refine alike_end _ _ _ (w.heap.size + 3) true rfl ((hkp.blk n1).cell 0) ⟨rfl, ?_⟩
    exact hBw.trans (below_putObj _ _ hBw.size hB2.out.size)
end Go.Proofs.Ytnmgnonbgihalaa

/-
  slices.Clone of a list of numbers; a row of empty lists.
-/
namespace Go.Proofs.Ytnmgnonbgihalaa
open Go.RowKit RG

theorem rdRow_ints {w : World} {A : Option Addr} {n : Nat} {xs : List Int} (h : RdInts w A n xs) : RdRow w A n 1 (xs.map iCells) := by
  refine ⟨by rw [List.length_map]; exact h.1, iCells_len xs, fun hn => ?_⟩
  obtain ⟨b, off, e, hlt, hc⟩ := h.2 hn
  refine ⟨b, off, e, hlt, fun j i v hv => ?_⟩
  obtain ⟨hj, hi, -⟩ := flat_get (iCells_len xs) hv
  obtain rfl : i = 0 := by omega
  rw [List.length_map] at hj
  have h9 := hc j (by rw [← h.1]; exact hj)
  rw [List.getElem?_map, List.getElem?_eq_getElem hj] at hv
  rw [List.getElem?_eq_getElem hj] at h9
  have e2 : Value.int .i64 xs[j] = v := by simpa [iCells] using hv
  rw [Nat.mul_one, Nat.add_zero, h9, ← e2]
  rfl
set_option maxRecDepth 100000 in
set_option maxHeartbeats 1000000 in
theorem Clone_any (A : Option Addr) (n c : Nat) (xs : List Int) (w : World) (h : RdInts w A n xs) (hn : n ≤ 900000) (hA : A = none → c = 0) :
    Calls Try.prog 83 #[.slice A n c] w fun e w' => (∃ v, e = .returned v ∧ RowAt w' (fun g => g < w.heap.size) 3 1 v (xs.map iCells)) ∧ Below w.heap.size w w' := by
  cases A with
  | none =>
    have h0 : n = 0 := by
      rcases Nat.eq_zero_or_pos n with h0 | h0
      · exact h0
      · obtain ⟨b, off, e, _⟩ := h.2 h0
        cases e
    subst h0
    obtain rfl : xs = [] := List.eq_nil_of_length_eq_zero h.1
    rw [hA rfl]
    have hnil := fun (w : World) (a : Option Addr) (l c : Nat) => run_eql_slice_nil (P := Try.prog) w 23 3 a l c Try.underlying23
    go_enter Try.func83, Try.ntmps83
    go_wp2
    go_ret
    exact ⟨⟨_, rfl, rowAt_nil _ _ _ _⟩, Below.refl _ _⟩
  | some a =>
    obtain ⟨W, hW⟩ : ∃ y, w.alloc (.cells #[] 3) = y := ⟨_, rfl⟩
    have bW := show Blk W w.heap.size 3 #[] by rw [← hW]; exact blkNew rfl
    have hBW := show Below w.heap.size w W by rw [← hW]; exact (Below.refl _ _).alloc (Nat.le_refl _) _
    obtain ⟨v', w4, hrun, hrow, hk, -⟩ := app_row (ty := 23) Try.underlying23 infoInt rfl (by decide) (by decide) (rowAt_new (X := fun g => g < w.heap.size) 1 bW (Nat.lt_irrefl _)) (fun g hg => Nat.lt_of_lt_of_le hg hBW.size) (rdRow_ints (h.below hBW)) (A := some a) (c := c) (fun e => by cases e) one_int (by simp; omega)
    rw [List.nil_append] at hrow
    replace hrun := hide hrun
    replace hrow := hide hrow
    have hB4 := hide (hBW.trans (KeptX.below hk))
    clear hk hBW bW h
    replace hW := hide hW
    have hnil := fun (w : World) (a : Option Addr) (l c : Nat) => run_eql_slice_nil (P := Try.prog) w 23 3 a l c Try.underlying23
    go_enter Try.func83, Try.ntmps83
    rw [← hW.out] at hrun
    go_wp2_with (at_builtin; refine wpList_append_run rfl _ _ 23 rfl _ _ _ rfl rfl hrun.out ?_)
    go_wp2
    go_ret
    exact ⟨⟨_, rfl, hrow.out⟩, hB4.out⟩
theorem infoIntsRow : (Try.prog.info? 23).map (fun i => (i.zero, i.size, i.bytes)) = some (some (.slice none 0 0), 1, 24) := by kernel_rfl
theorem mk_all (n : Nat) (hn : n ≤ 100000) (w : World) :
    (Instr.makeSlice 45 (.int .i64 (n : Int)) (.int .i64 (n : Int))).run Try.prog w = .ok (.slice (some ⟨w.heap.size, 0, none⟩) n n) (w.alloc (.cells (List.replicate n (.slice none 0 0)).toArray 23)) := by
  obtain ⟨i, hi, hz, hs, hb⟩ := info_parts infoIntsRow
  have hr := run_make (P := Try.prog) w 45 23 i (.slice none 0 0) Try.underlying45 hi hz .i64 .i64 n n (by omega) (by omega) (by rw [hb]; omega) (by omega)
  simp only [Int.toNat_natCast] at hr
  rw [hr, hs]
  have hm : madeCells (Value.slice none 0 0).cells (n * 1) = (List.replicate n (.slice none 0 0)).toArray := by
    apply Array.ext
    · simp [madeCells]
    · intro j h1 h2
      simp [madeCells, Value.cells, Nat.mod_one]
  rw [hm]
end Go.Proofs.Ytnmgnonbgihalaa

/-
  All papers, by their numbers (made by gen_all.py).
-/
namespace Go.Proofs.Ytnmgnonbgihalaa
open Go.RowKit RG

def ppI (B : Bank) (j : Nat) : List Int := ints ((papers B)[j]?.getD [])
/-- A row of papers of which the first k are there. -/
structure AllAt (W : World) (n0 : Nat) (B : Bank) (g : Nat) (vs : List Value) (k : Nat) : Prop where
  len : vs.length = (papers B).length
  blk : Blk W g 23 vs.toArray
  rows : ∀ j, j < k → RowAt W (fun x => x < n0) 3 1 (vs[j]?.getD undef) ((ppI B j).map iCells)
theorem AllAt.keptX {W W' : World} {n0 g k : Nat} {B : Bank} {vs : List Value} {Y : Nat → Prop} (h : AllAt W n0 B g vs k) (hk : KeptX Y W W') (hy : ∀ g t cs, n0 ≤ g → Blk W g t cs → Y g) (hg : n0 ≤ g) : AllAt W' n0 B g vs k :=
  ⟨h.len, hk.blk (hy g _ _ hg h.blk) h.blk, fun j hj => (h.rows j hj).kept hk fun x hx => by
    obtain ⟨cur, hc⟩ := (h.rows j hj).typed hx
    exact hy x _ _ (by have := (h.rows j hj).not x hx; omega) hc⟩
theorem AllAt.put {W : World} {n0 g k : Nat} {B : Bank} {vs : List Value} {v : Value} (h : AllAt W n0 B g vs k) (hr : RowAt W (fun x => x < n0) 3 1 v ((ppI B k).map iCells)) (hk : k < (papers B).length) : AllAt (W.setCell ⟨g, k, none⟩ v) n0 B g (vs.set k v) (k + 1) := by
  have hl := h.len
  refine ⟨by rw [List.length_set]; exact h.len, ?_, fun j hj => ?_⟩
  · have := h.blk.set_ k v
    rwa [List.setIfInBounds_toArray] at this
  · rw [List.getElem?_set]
    by_cases e : k = j
    · subst e
      rw [if_pos rfl, if_pos (by omega)]
      exact hr.far (p := ⟨g, k, none⟩) (hr.nblk h.blk (by decide)) v
    · rw [if_neg e]
      have h9 := h.rows j (by omega)
      exact h9.far (p := ⟨g, k, none⟩) (h9.nblk h.blk (by decide)) v
set_option maxRecDepth 100000 in
set_option maxHeartbeats 2000000 in
theorem all_any (Q Wd : Option Addr) (cq cw gw cg gl M : Nat) (B : Bank) (m : Nat) (w : World) (hB : BankOk B) (hV : VwR w Q Wd gw gl B) (hK : KnownM w M B m) (hm : m + 2 ^ 40 ≤ 2 ^ 60) :
    Calls Try.prog 82 #[vwV Q Wd cq cw gw cg gl M B] w fun e w' => (∃ g vs, e = .returned (.slice (some ⟨g, 0, none⟩) (papers B).length (papers B).length) ∧ w.heap.size ≤ g ∧ AllAt w' w.heap.size B g vs (papers B).length) ∧ KeptM w.heap.size M w w' := by
  have hnq := hB.nq
  have hpl := papers_len hB
  have hcap : capN B.qs.length ≤ 2 ^ 16 := by have h1 := capN_pow B.qs.length; have h2 := Nat.pow_le_pow_right (n := 2) (by decide) hnq.2; omega
  have hCn := hide (fun W (h : VwR W Q Wd gw gl B) (h' : KnownM W M B m) => count_any Q Wd cq cw gw cg gl M B m W hB h h' (by omega))
  have hNt := hide (fun W (m' i : Nat) (h : VwR W Q Wd gw gl B) (h' : KnownM W M B m') (h2 : m' + 2 ^ 22 ≤ 2 ^ 60) (hi : i < (papers B).length) => nth_any Q Wd cq cw gw cg gl M B i m' ((papers B)[i]?.getD []) W hB h h' h2 (by rw [List.getElem?_eq_getElem hi]; rfl))
  unfold vwV at *
  obtain ⟨N, hN⟩ : ∃ z, (papers B).length = z := ⟨_, rfl⟩
  rw [hN] at hpl hCn hNt ⊢
  replace hN := hide hN
  have hMm := hide hK.map
  have hMl := hide hK.lt
  have hVk := hide (fun W' (h : KeptM w.heap.size M w W') => hV.keptM (by omega) hMm.out h)
  obtain ⟨W, hW⟩ : ∃ y, w.alloc (.cells #[.slice Q B.qs.length cq, .slice Wd B.wanted.length cw, .int .i64 B.lo, .int .i64 B.hi, .slice (some ⟨gw, 0, none⟩) B.qs.length cg, .slice (some ⟨gl, 0, none⟩) (B.qs.length + 1) (B.qs.length + 1), .map (some M)] 85) = y := ⟨_, rfl⟩
  have bW := hide (show Blk W w.heap.size 85 #[.slice Q B.qs.length cq, .slice Wd B.wanted.length cw, .int .i64 B.lo, .int .i64 B.hi, .slice (some ⟨gw, 0, none⟩) B.qs.length cg, .slice (some ⟨gl, 0, none⟩) (B.qs.length + 1) (B.qs.length + 1), .map (some M)] by rw [← hW]; exact blkNew rfl)
  have hBW := hide (show Below w.heap.size w W by rw [← hW]; exact (Below.refl _ _).alloc (Nat.le_refl _) _)
  have hkW := hide (KeptM.of_below (M := M) hBW.out)
  have hKW := hide (hK.below hBW.out)
  replace hW := hide hW
  clear hV hK
  have bo := bW.out
  have s0 : W.cell? ⟨w.heap.size, 0, none⟩ = some (.slice Q B.qs.length cq) := bo.cell 0
  have s1 : W.cell? ⟨w.heap.size, 1, none⟩ = some (.slice Wd B.wanted.length cw) := bo.cell 1
  have s2 : W.cell? ⟨w.heap.size, 2, none⟩ = some (.int .i64 B.lo) := bo.cell 2
  have s3 : W.cell? ⟨w.heap.size, 3, none⟩ = some (.int .i64 B.hi) := bo.cell 3
  have s4 : W.cell? ⟨w.heap.size, 4, none⟩ = some (.slice (some ⟨gw, 0, none⟩) B.qs.length cg) := bo.cell 4
  have s5 : W.cell? ⟨w.heap.size, 5, none⟩ = some (.slice (some ⟨gl, 0, none⟩) (B.qs.length + 1) (B.qs.length + 1)) := bo.cell 5
  have s6 : W.cell? ⟨w.heap.size, 6, none⟩ = some (.map (some M)) := bo.cell 6
  clear bo
  have hmk := hide (fun w => mk_all N (by omega) w)
  go_enter Try.func82, Try.ntmps82
  go_upto_region 1 with fail
  rw [hW.out]
  go_wp2_with fail
  refine (hCn.out W (hVk.out W hkW.out) hKW.out).mono ?_
  rintro e w1 ⟨rfl, hk1, hK1⟩
  have hgm := hide (blk_nmap hKW.out.map bW.out)
  have b1 := hide (KeptX.blk hk1 ⟨bW.out.lt, hgm.out⟩ bW.out)
  have hk1' := hide (hkW.out.trans (KeptM.mono hk1 hBW.out.size))
  have hKn1 := hide (hK1.more (show m + capN B.qs.length ≤ m + 2 ^ 22 by omega))
  clear s0 s1 s2 s3 s4 s5 s6
  clear hk1 hK1 hCn
  have hmk1 := hmk.out w1
  clear hmk
  obtain ⟨w2, hw2⟩ : ∃ y, w1.alloc (.cells (List.replicate N (.slice none 0 0)).toArray 23) = y := ⟨_, rfl⟩
  rw [hw2] at hmk1
  have hb2 := show Below w1.heap.size w1 w2 by rw [← hw2]; exact (Below.refl _ _).alloc (Nat.le_refl _) _
  have hA2 := hide (show AllAt w2 w.heap.size B w1.heap.size (List.replicate N (.slice none 0 0)) 0 from ⟨by rw [hN.out, List.length_replicate], by rw [← hw2]; exact blkNew rfl, fun j hj => absurd hj (by omega)⟩)
  have b2 := hide (b1.out.below hb2 b1.out.lt)
  have hg2 := hide (show w.heap.size ≤ w1.heap.size ∧ w.heap.size < w1.heap.size from ⟨hk1'.out.size, b1.out.lt⟩)
  have hk2 := hide (hk1'.out.trans (KeptM.of_below (M := M) (hb2.mono hk1'.out.size)))
  have hKn2 := hide (hKn1.out.below hb2)
  clear b1 hk1' hKn1 hb2 hw2
  go_wp2
  clear hmk1
  go_loopg [4, 10] (N + 1) (fun gg _ s10 wr => ∃ j : Nat, ∃ vs : List Value, j ≤ N ∧ N < gg + j ∧ s10 = .int .i64 j ∧ Hid (AllAt wr w.heap.size B w1.heap.size vs j) ∧ Hid (Blk wr w.heap.size 85 #[.slice Q B.qs.length cq, .slice Wd B.wanted.length cw, .int .i64 B.lo, .int .i64 B.hi, .slice (some ⟨gw, 0, none⟩) B.qs.length cg, .slice (some ⟨gl, 0, none⟩) (B.qs.length + 1) (B.qs.length + 1), .map (some M)]) ∧ Hid (KeptM w.heap.size M w wr) ∧ Hid (KnownM wr M B (m + 2 ^ 22 + 2 ^ 22 * j)))
  case atStart => exact ⟨0, _, by omega, by omega, rfl, hA2, b2, hk2, hKn2⟩
  case round =>
    clear hA2 b2 hk2 hKn2
    obtain ⟨j, vs, hj, hg, rfl, hA, bV, hk, hKn⟩ := hrel
    by_cases hlt : j < N
    · have hltz : (j : Int) < (N : Int) := by omega
      have hjw : IntKind.i64.wrap ((j : Int) + 1) = (j : Int) + 1 := by rw [IntKind.wrap_i64]; omega
      have hnt := hide (hNt.out wr _ j (hVk.out wr hk.out) hKn.out (by omega) hlt)
      have hmr := hide hKn.out.map
      have bo := bV.out
      have s0 : wr.cell? ⟨w.heap.size, 0, none⟩ = some (.slice Q B.qs.length cq) := bo.cell 0
      have s1 : wr.cell? ⟨w.heap.size, 1, none⟩ = some (.slice Wd B.wanted.length cw) := bo.cell 1
      have s2 : wr.cell? ⟨w.heap.size, 2, none⟩ = some (.int .i64 B.lo) := bo.cell 2
      have s3 : wr.cell? ⟨w.heap.size, 3, none⟩ = some (.int .i64 B.hi) := bo.cell 3
      have s4 : wr.cell? ⟨w.heap.size, 4, none⟩ = some (.slice (some ⟨gw, 0, none⟩) B.qs.length cg) := bo.cell 4
      have s5 : wr.cell? ⟨w.heap.size, 5, none⟩ = some (.slice (some ⟨gl, 0, none⟩) (B.qs.length + 1) (B.qs.length + 1)) := bo.cell 5
      have s6 : wr.cell? ⟨w.heap.size, 6, none⟩ = some (.map (some M)) := bo.cell 6
      clear bo
      go_wp2_with fail
      refine hnt.out.mono ?_
      rintro e w5 ⟨⟨v, rfl, hrow⟩, hk5, hK5⟩
      have hgm5 := blk_nmap hmr.out bV.out
      have hs5 := hk5.size
      have bV5 := KeptX.blk hk5 ⟨bV.out.lt, hgm5⟩ bV.out
      have hA5 := hA.out.keptX hk5 (fun g t cs hg hb => ⟨hb.lt, fun e => blk_nmap hmr.out hb e⟩) hg2.out.1
      have hl5 : vs.length = N := by rw [hA5.len, hN.out]
      have hr5 : RowAt w5 (fun x => x < w.heap.size) 3 1 v ((ppI B j).map iCells) := hrow.mono fun g hg hlt => hrow.not g hg (Nat.lt_of_lt_of_le hlt hk.out.size)
      have hA6 := hide (hA5.put hr5 (by rw [hN.out]; exact hlt))
      have hst := Stored.set1 w5 w1.heap.size j v
      have z5 : w5.frozen? ⟨w1.heap.size, j, none⟩ = false := hA5.blk.frozen j
      obtain ⟨vj, hvj⟩ : ∃ x, w5.cell? ⟨w1.heap.size, j, none⟩ = some x := by
        have := hA5.blk.cell j
        rw [List.getElem?_toArray, List.getElem?_eq_getElem (by omega)] at this
        exact ⟨_, this⟩
      have bV6 := hide (bV5.stored hst (by have := hg2.out; omega))
      have hk6 := hide ((hk.out.trans (KeptM.mono hk5 hk.out.size)).trans (show KeptM w.heap.size M w5 (w5.setCell ⟨w1.heap.size, j, none⟩ v) from ⟨hst.os, hst.tape, hst.output, by rw [hst.size]; exact Nat.le_refl _, fun g hg => hst.block g (by have := hg2.out; have := hg.1; omega)⟩))
      have hK6 := hide ((hK5.blk (hst.block M (fun e => by have := hg2.out; have := hMl.out; omega))).more (show m + 2 ^ 22 + 2 ^ 22 * j + 2 ^ 22 ≤ m + 2 ^ 22 + 2 ^ 22 * (j + 1) by omega))
      obtain ⟨Av, nv, cv, rfl⟩ := hrow.shape
      clear s0 s1 s2 s3 s4 s5 s6
      clear hst hA5 bV5 hr5 hk5 hrow hnt hA hK5 bV hk hKn
      go_wp2
      go_roundg (N - j)
      case measure => omega
      case rel => exact ⟨j + 1, _, by omega, by omega, by go_num, hA6, bV6, hk6, hK6⟩
    · have hltz : ¬ (j : Int) < (N : Int) := by omega
      obtain rfl : j = N := by omega
      go_wp2
      go_ret
      exact ⟨⟨_, rfl, hg2.out.1, vs, hA.out⟩, hk.out⟩
end Go.Proofs.Ytnmgnonbgihalaa

/-
  The papers that are drawn so far, as a row of rows of numbers.
-/
namespace Go.Proofs.Ytnmgnonbgihalaa
open Go.RowKit RG

/-- A row of papers, each in a block of its own. -/
def Drawn (W : World) (n1 : Nat) (dv : Value) (ds : List (List Int)) : Prop :=
  ∃ us : List Value, us.length = ds.length ∧ RowAt W (fun g => g < n1) 23 1 dv (us.map fun u => [u]) ∧ ∀ j, j < ds.length → RowAt W (fun g => g < n1) 3 1 (us[j]?.getD undef) ((ds[j]?.getD []).map iCells)
theorem drawn_nil (W : World) (n1 : Nat) : Drawn W n1 (.slice none 0 0) [] := ⟨[], rfl, rowAt_nil _ _ _ _, fun j hj => by cases hj⟩
theorem Drawn.below {W W' : World} {n1 : Nat} {dv : Value} {ds : List (List Int)} (h : Drawn W n1 dv ds) (hb : Below W.heap.size W W') : Drawn W' n1 dv ds := by
  obtain ⟨us, h1, h2, h3⟩ := h
  exact ⟨us, h1, h2.below hb, fun j hj => (h3 j hj).below hb⟩
theorem Drawn.mono {W : World} {n1 n2 : Nat} {dv : Value} {ds : List (List Int)} (h : Drawn W n1 dv ds) (hn : n2 ≤ n1) : Drawn W n2 dv ds := by
  obtain ⟨us, h1, h2, h3⟩ := h
  exact ⟨us, h1, h2.mono fun g hg hlt => h2.not g hg (Nat.lt_of_lt_of_le hlt hn), fun j hj => (h3 j hj).mono fun g hg hlt => (h3 j hj).not g hg (Nat.lt_of_lt_of_le hlt hn)⟩
theorem RowAt.ints {w : World} {X : Nat → Prop} {v : Value} {xs : List Int} (h : RowAt w X 3 1 v (xs.map iCells)) : ∃ A c, v = .slice A xs.length c ∧ RdInts w A xs.length xs ∧ xs.length ≤ maxLen ∧ xs.length ≤ c ∧ (A = none → c = 0) := by
  obtain ⟨A, c, e, h1, h2⟩ := h.isInts
  obtain ⟨A', c', e', -, h3, h4, -⟩ := h.row
  rw [List.length_map] at e'
  rw [e] at e'
  cases e'
  refine ⟨A, c, e, h1, Nat.le_trans h2 h4, h2, fun hA => ?_⟩
  subst hA
  rcases h.2 with ⟨h5, -⟩ | ⟨g, cap, cur, h5, -⟩
  · rw [e] at h5
    injection h5
  · rw [e] at h5; cases h5
theorem Drawn.paps {W : World} {n1 : Nat} {dv : Value} {ds : List (List Int)} (h : Drawn W n1 dv ds) : ∃ A c, dv = .slice A ds.length c ∧ RdPaps W A ds.length ds ∧ ds.length ≤ c ∧ c ≤ maxLen := by
  obtain ⟨us, h1, h2, h3⟩ := h
  obtain ⟨A, c, e, h4, h5, h6, h7⟩ := h2.row
  rw [List.length_map, h1] at e h4 h5
  refine ⟨A, c, e, ⟨rfl, fun hn => ?_⟩, h5, h6⟩
  obtain ⟨b, off, e1, hlt, hc⟩ := h4.2.2 hn
  refine ⟨b, off, e1, hlt, fun j hj => ?_⟩
  obtain ⟨Aj, cj, e2, h8, h9, -⟩ := (h3 j hj).ints
  refine ⟨Aj, cj, ?_, h8, h9⟩
  have := hc j 0 (us[j]?.getD undef) (by rw [List.getElem?_map, List.getElem?_eq_getElem (show j < us.length by omega)]; rfl)
  rwa [Nat.mul_one, Nat.add_zero, e2] at this
theorem Drawn.push {W : World} {n1 : Nat} {dv u : Value} {ds : List (List Int)} {x : List Int} (h : Drawn W n1 dv ds) (hn : n1 ≤ W.heap.size) (hu : RowAt W (fun g => g < n1) 3 1 u (x.map iCells)) (hl : ds.length ≤ 900000) :
    ∃ v' w4, (Builtin.append_ #[45, 45] 45 #[dv, .slice (some ⟨W.heap.size, 0, none⟩) 1 1]).run Try.prog (W.alloc (.cells #[u] 23)) = .ok v' w4 ∧ Drawn w4 n1 v' (ds ++ [x]) ∧ KeptX (fun g => g < n1) W w4 := by
  obtain ⟨us, h1, h2, h3⟩ := h
  have hb := (Below.refl W.heap.size W).alloc (Nat.le_refl _) (.cells #[u] 23)
  have hk : Blk (W.alloc (.cells #[u] 23)) W.heap.size 23 #[u] := blkNew rfl
  obtain ⟨A, m, c, rfl⟩ := hu.shape
  have hrd : RdRow (W.alloc (.cells #[.slice A m c] 23)) (some ⟨W.heap.size, 0, none⟩) 1 1 [[.slice A m c]] := ⟨rfl, fun y hy => by rw [List.mem_singleton] at hy; rw [hy]; rfl, fun _ => ⟨W.heap.size, 0, rfl, hk.lt, fun j i v hv => by
    obtain ⟨hj, hi, hf⟩ := flat_get (k := 1) (fun y hy => by rw [List.mem_singleton] at hy; rw [hy]; rfl) hv
    obtain rfl : j = 0 := by simpa using hj
    obtain rfl : i = 0 := by omega
    have := hk.cell 0
    rw [show (#[Value.slice A m c] : Array Value)[0]? = some v from by simpa using hf] at this
    exact this⟩⟩
  have hX : Old (fun g => g < n1) (W.alloc (.cells #[.slice A m c] 23)) := fun g hg => Nat.lt_of_lt_of_le (Nat.lt_of_lt_of_le hg hn) hb.size
  obtain ⟨v', w4, r1, r2, r3, r4⟩ := app_row (ty := 45) Try.underlying45 infoIntsRow rfl (by decide) (by decide) (h2.below hb) hX hrd (A := some ⟨W.heap.size, 0, none⟩) (c := 1) (fun e => by cases e) (fun y hy => by
    have : y = .slice A m c := by simpa using hy
    rw [this]; rfl) (by rw [List.length_map, h1]; omega)
  have hd : ∀ {v : Value} {ys : List Int}, RowAt W (fun g => g < n1) 3 1 v (ys.map iCells) → RowAt w4 (fun g => g < n1) 3 1 v (ys.map iCells) := fun hr => (r4 (hr.below hb) fun g hg => hr.ne_ h2 (by decide) hg).1
  refine ⟨v', w4, r1, ⟨us ++ [.slice A m c], by simp [h1], by rw [List.map_append]; exact r2, fun j hj => ?_⟩, (KeptX.alloc W (fun g hg => Nat.lt_of_lt_of_le hg hn) _).trans r3⟩
  rw [List.length_append, List.length_singleton] at hj
  by_cases e : j < ds.length
  · rw [List.getElem?_append_left (by omega), List.getElem?_append_left e]
    exact hd (h3 j e)
  · obtain rfl : j = ds.length := by omega
    rw [List.getElem?_append_right (by omega), List.getElem?_append_right (Nat.le_refl _), h1, Nat.sub_self]
    exact hd hu
end Go.Proofs.Ytnmgnonbgihalaa
