import Derived.Test.YtnmgnonbgihalaaPj
import Derived.Test.YtnmgnonbgihalaaPn
/-
  Weights, Count, Nth, Number of package paper (made by gen_api.py).
-/
namespace Go.Proofs.Ytnmgnonbgihalaa
open Go.RowKit Go.Shelf RG

def errP (B : Bank) : Int := (checkP B).2.2
theorem papers_len {B : Bank} (h : BankOk B) : (papers B).length ≤ 65536 := Nat.le_trans (countB_pow B B.qs.length 0 (start4 B) 0) (Nat.pow_le_pow_right (n := 2) (by decide) h.nq.2)
def countP (B : Bank) : Int := if errP B ≠ 0 then 0 else ((papers B).length : Nat)
theorem countP_err {B : Bank} (h : (checkP B).2.2 ≠ 0) : countP B = 0 := if_pos h
theorem countP_ok {B : Bank} (h : (checkP B).2.2 = 0) : countP B = ((papers B).length : Nat) := if_neg (fun hn => hn h)
def weightsP (B : Bank) : List Int := (List.range B.qs.length).map (wAt B)
theorem wts_ints {w : World} {Q Wd : Option Addr} {gw gl : Nat} {B : Bank} (h : VwR w Q Wd gw gl B) : RdInts w (some ⟨gw, 0, none⟩) B.qs.length (weightsP B) :=
  ⟨by simp [weightsP], fun _ => ⟨gw, 0, rfl, h.gw, fun j hj => by rw [Nat.zero_add, h.wts j hj]; unfold weightsP; rw [List.getElem?_map, List.getElem?_range hj]; rfl⟩⟩
set_option maxRecDepth 100000 in
set_option maxHeartbeats 1000000 in
theorem Weights_any (Q Wd : Option Addr) (cq cw : Nat) (B : Bank) (w : World) (h : BkR w Q Wd B) :
    Calls Try.prog 18 #[bkV Q Wd cq cw B] w fun e w' => ((errP B ≠ 0 ∧ e = .returned (.tuple #[.slice none 0 0, .int .i64 (errP B)])) ∨ (errP B = 0 ∧ ∃ v, e = .returned (.tuple #[v, .int .i64 0]) ∧ IsInts (weightsP B) v w')) ∧ Below w.heap.size w w' := by
  have hOp := hide (fun W (hb : Below w.heap.size w W) => open_any Q Wd cq cw B W (h.below hb))
  have hok := hide (bank_ok (B := B))
  generalize hck : (checkP B).2.2 = er at *
  replace hck := hide hck
  unfold bkV vwV vw0 at *
  obtain ⟨W, hW⟩ : ∃ y, w.alloc (.cells #[.slice Q B.qs.length cq, .slice Wd B.wanted.length cw, .int .i64 B.lo, .int .i64 B.hi] 27) = y := ⟨_, rfl⟩
  have bW := hide (show Blk W w.heap.size 27 #[.slice Q B.qs.length cq, .slice Wd B.wanted.length cw, .int .i64 B.lo, .int .i64 B.hi] by rw [← hW]; exact blkNew rfl)
  have hBW := hide (show Below w.heap.size w W by rw [← hW]; exact (Below.refl _ _).alloc (Nat.le_refl _) _)
  replace hW := hide hW
  have r0 : W.cell? ⟨w.heap.size, 0, none⟩ = some (.slice Q B.qs.length cq) := bW.out.cell 0
  have r1 : W.cell? ⟨w.heap.size, 1, none⟩ = some (.slice Wd B.wanted.length cw) := bW.out.cell 1
  have r2 : W.cell? ⟨w.heap.size, 2, none⟩ = some (.int .i64 B.lo) := bW.out.cell 2
  have r3 : W.cell? ⟨w.heap.size, 3, none⟩ = some (.int .i64 B.hi) := bW.out.cell 3
  go_enter Try.func18, Try.ntmps18
  go_upto_region 1 with fail
  rw [hW.out]
  go_wp2_with fail
  refine (hOp.out W hBW.out).mono ?_
  clear r0 r1 r2 r3 hOp hW bW
  rintro e w2 ⟨hb, (⟨he, rfl⟩ | ⟨rfl, gw, cg, gl, M, rfl, hV, hK, hgw, hgl, hM, hc1, hc2⟩)⟩
  · have b1 : (er != 0) = true := by rw [bne_iff_ne]; exact he
    have hB2 := hide (hBW.out.trans (hb.mono hBW.out.size))
    replace he := hide he
    clear hb
    go_wp2
    go_ret2
    have hck2 := hck.out
    exact ⟨.inl ⟨by unfold errP; rw [hck2]; exact he.out, by unfold errP; rw [hck2]; rfl⟩, hB2.out.alloc hB2.out.size _⟩
  · have hB2 := hide (hBW.out.trans (hb.mono hBW.out.size))
    have hOk := hok.out rfl
    have hnq := hOk.nq
    have hcap : capN B.qs.length ≤ 2 ^ 16 := by have h1 := capN_pow B.qs.length; have h2 := Nat.pow_le_pow_right (n := 2) (by decide) hnq.2; omega
    obtain ⟨w3, hw3⟩ : ∃ y, w2.alloc (.cells #[.slice Q B.qs.length cq, .slice Wd B.wanted.length cw, .int .i64 B.lo, .int .i64 B.hi, .slice (some ⟨gw, 0, none⟩) B.qs.length cg, .slice (some ⟨gl, 0, none⟩) (B.qs.length + 1) (B.qs.length + 1), .map (some M)] 85) = y := ⟨_, rfl⟩
    have bV := hide (show Blk w3 w2.heap.size 85 #[.slice Q B.qs.length cq, .slice Wd B.wanted.length cw, .int .i64 B.lo, .int .i64 B.hi, .slice (some ⟨gw, 0, none⟩) B.qs.length cg, .slice (some ⟨gl, 0, none⟩) (B.qs.length + 1) (B.qs.length + 1), .map (some M)] by rw [← hw3]; exact blkNew rfl)
    have hb3 := hide (show Below w2.heap.size w2 w3 by rw [← hw3]; exact (Below.refl _ _).alloc (Nat.le_refl _) _)
    have hB3 := hide (hB2.out.trans (hb3.out.mono hB2.out.size))
    have hV3 := hV.below hb3.out
    have hK3 := hK.below hb3.out
    have hM9 := hide (Nat.le_trans hBW.out.size hM)
    replace hw3 := hide hw3
    clear hb hV hK
    go_upto_region 2 with fail
    rw [hw3.out]
    have s0 : w3.cell? ⟨w2.heap.size, 0, none⟩ = some (.slice Q B.qs.length cq) := bV.out.cell 0
    have s1 : w3.cell? ⟨w2.heap.size, 1, none⟩ = some (.slice Wd B.wanted.length cw) := bV.out.cell 1
    have s2 : w3.cell? ⟨w2.heap.size, 2, none⟩ = some (.int .i64 B.lo) := bV.out.cell 2
    have s3 : w3.cell? ⟨w2.heap.size, 3, none⟩ = some (.int .i64 B.hi) := bV.out.cell 3
    have s4 : w3.cell? ⟨w2.heap.size, 4, none⟩ = some (.slice (some ⟨gw, 0, none⟩) B.qs.length cg) := bV.out.cell 4
    have s5 : w3.cell? ⟨w2.heap.size, 5, none⟩ = some (.slice (some ⟨gl, 0, none⟩) (B.qs.length + 1) (B.qs.length + 1)) := bV.out.cell 5
    have s6 : w3.cell? ⟨w2.heap.size, 6, none⟩ = some (.map (some M)) := bV.out.cell 6
    have hI := hide (wts_ints hV3)
    clear hV3 hK3
    go_wp2
    go_ret2
    exact ⟨.inr ⟨hck.out, _, rfl, some ⟨gw, 0, none⟩, cg, by simp [weightsP], by simpa [weightsP] using hI.out, by simpa [weightsP] using hc1⟩, hB3.out⟩
set_option maxRecDepth 100000 in
set_option maxHeartbeats 1000000 in
theorem Count_any (Q Wd : Option Addr) (cq cw : Nat) (B : Bank) (w : World) (h : BkR w Q Wd B) :
    Calls Try.prog 21 #[bkV Q Wd cq cw B] w fun e w' => e = .returned (.tuple #[.int .i64 (countP B), .int .i64 (errP B)]) ∧ Below w.heap.size w w' := by
  have hOp := hide (fun W (hb : Below w.heap.size w W) => open_any Q Wd cq cw B W (h.below hb))
  have hok := hide (bank_ok (B := B))
  generalize hck : (checkP B).2.2 = er at *
  replace hck := hide hck
  unfold bkV vwV vw0 at *
  obtain ⟨W, hW⟩ : ∃ y, w.alloc (.cells #[.slice Q B.qs.length cq, .slice Wd B.wanted.length cw, .int .i64 B.lo, .int .i64 B.hi] 27) = y := ⟨_, rfl⟩
  have bW := hide (show Blk W w.heap.size 27 #[.slice Q B.qs.length cq, .slice Wd B.wanted.length cw, .int .i64 B.lo, .int .i64 B.hi] by rw [← hW]; exact blkNew rfl)
  have hBW := hide (show Below w.heap.size w W by rw [← hW]; exact (Below.refl _ _).alloc (Nat.le_refl _) _)
  replace hW := hide hW
  have r0 : W.cell? ⟨w.heap.size, 0, none⟩ = some (.slice Q B.qs.length cq) := bW.out.cell 0
  have r1 : W.cell? ⟨w.heap.size, 1, none⟩ = some (.slice Wd B.wanted.length cw) := bW.out.cell 1
  have r2 : W.cell? ⟨w.heap.size, 2, none⟩ = some (.int .i64 B.lo) := bW.out.cell 2
  have r3 : W.cell? ⟨w.heap.size, 3, none⟩ = some (.int .i64 B.hi) := bW.out.cell 3
  go_enter Try.func21, Try.ntmps21
  go_upto_region 1 with fail
  rw [hW.out]
  go_wp2_with fail
  refine (hOp.out W hBW.out).mono ?_
  clear r0 r1 r2 r3 hOp hW bW
  rintro e w2 ⟨hb, (⟨he, rfl⟩ | ⟨rfl, gw, cg, gl, M, rfl, hV, hK, hgw, hgl, hM, hc1, hc2⟩)⟩
  · have b1 : (er != 0) = true := by rw [bne_iff_ne]; exact he
    have hB2 := hide (hBW.out.trans (hb.mono hBW.out.size))
    replace he := hide he
    clear hb
    go_wp2
    go_ret2
    have hck2 := hck.out
    have he2 := he.out
    exact ⟨by rw [countP_err (by rw [hck2]; exact he2)]; unfold errP; rw [hck2]; rfl, hB2.out.alloc hB2.out.size _⟩
  · have hB2 := hide (hBW.out.trans (hb.mono hBW.out.size))
    have hOk := hok.out rfl
    have hnq := hOk.nq
    have hcap : capN B.qs.length ≤ 2 ^ 16 := by have h1 := capN_pow B.qs.length; have h2 := Nat.pow_le_pow_right (n := 2) (by decide) hnq.2; omega
    obtain ⟨w3, hw3⟩ : ∃ y, w2.alloc (.cells #[.slice Q B.qs.length cq, .slice Wd B.wanted.length cw, .int .i64 B.lo, .int .i64 B.hi, .slice (some ⟨gw, 0, none⟩) B.qs.length cg, .slice (some ⟨gl, 0, none⟩) (B.qs.length + 1) (B.qs.length + 1), .map (some M)] 85) = y := ⟨_, rfl⟩
    have bV := hide (show Blk w3 w2.heap.size 85 #[.slice Q B.qs.length cq, .slice Wd B.wanted.length cw, .int .i64 B.lo, .int .i64 B.hi, .slice (some ⟨gw, 0, none⟩) B.qs.length cg, .slice (some ⟨gl, 0, none⟩) (B.qs.length + 1) (B.qs.length + 1), .map (some M)] by rw [← hw3]; exact blkNew rfl)
    have hb3 := hide (show Below w2.heap.size w2 w3 by rw [← hw3]; exact (Below.refl _ _).alloc (Nat.le_refl _) _)
    have hB3 := hide (hB2.out.trans (hb3.out.mono hB2.out.size))
    have hV3 := hV.below hb3.out
    have hK3 := hK.below hb3.out
    have hM9 := hide (Nat.le_trans hBW.out.size hM)
    replace hw3 := hide hw3
    clear hb hV hK
    go_upto_region 2 with fail
    rw [hw3.out]
    have s0 : w3.cell? ⟨w2.heap.size, 0, none⟩ = some (.slice Q B.qs.length cq) := bV.out.cell 0
    have s1 : w3.cell? ⟨w2.heap.size, 1, none⟩ = some (.slice Wd B.wanted.length cw) := bV.out.cell 1
    have s2 : w3.cell? ⟨w2.heap.size, 2, none⟩ = some (.int .i64 B.lo) := bV.out.cell 2
    have s3 : w3.cell? ⟨w2.heap.size, 3, none⟩ = some (.int .i64 B.hi) := bV.out.cell 3
    have s4 : w3.cell? ⟨w2.heap.size, 4, none⟩ = some (.slice (some ⟨gw, 0, none⟩) B.qs.length cg) := bV.out.cell 4
    have s5 : w3.cell? ⟨w2.heap.size, 5, none⟩ = some (.slice (some ⟨gl, 0, none⟩) (B.qs.length + 1) (B.qs.length + 1)) := bV.out.cell 5
    have s6 : w3.cell? ⟨w2.heap.size, 6, none⟩ = some (.map (some M)) := bV.out.cell 6
    have hCn := hide (count_any Q Wd cq cw gw cg gl M B 0 w3 hOk hV3 hK3 (by omega))
    unfold vwV at hCn
    clear hV3 hK3
    go_wp2_with fail
    refine hCn.out.mono ?_
    rintro e w4 ⟨rfl, hk4, -⟩
    have hB4 := hide (hB3.out.trans ((hk4.mono hB3.out.size).to_below hM9.out))
    clear s0 s1 s2 s3 s4 s5 s6 hCn hk4
    go_wp2
    go_ret2
    have hck2 := hck.out
    exact ⟨by rw [countP_ok hck2]; unfold errP; rw [hck2]; rfl, hB4.out⟩
set_option maxRecDepth 100000 in
set_option maxHeartbeats 1000000 in
theorem Nth_any (Q Wd : Option Addr) (cq cw : Nat) (B : Bank) (x : Int) (w : World) (h : BkR w Q Wd B) :
    Calls Try.prog 24 #[bkV Q Wd cq cw B, .int .i64 x] w fun e w' => ((errP B ≠ 0 ∧ e = .returned (.tuple #[.slice none 0 0, .int .i64 (errP B)])) ∨ (errP B = 0 ∧ inB 0 (((papers B).length : Int) - 1) x = false ∧ e = .returned (.tuple #[.slice none 0 0, .int .i64 4])) ∨ (errP B = 0 ∧ ∃ (i : Nat) (q : List Nat) (v : Value), x = (i : Int) ∧ (papers B)[i]? = some q ∧ e = .returned (.tuple #[v, .int .i64 0]) ∧ RowAt w' (fun g => g < w.heap.size) 3 1 v ((ints q).map iCells))) ∧ Below w.heap.size w w' := by
  have hOp := hide (fun W (hb : Below w.heap.size w W) => open_any Q Wd cq cw B W (h.below hb))
  have hok := hide (bank_ok (B := B))
  generalize hck : (checkP B).2.2 = er at *
  replace hck := hide hck
  unfold bkV vwV vw0 at *
  obtain ⟨W, hW⟩ : ∃ y, w.alloc (.cells #[.slice Q B.qs.length cq, .slice Wd B.wanted.length cw, .int .i64 B.lo, .int .i64 B.hi] 27) = y := ⟨_, rfl⟩
  have bW := hide (show Blk W w.heap.size 27 #[.slice Q B.qs.length cq, .slice Wd B.wanted.length cw, .int .i64 B.lo, .int .i64 B.hi] by rw [← hW]; exact blkNew rfl)
  have hBW := hide (show Below w.heap.size w W by rw [← hW]; exact (Below.refl _ _).alloc (Nat.le_refl _) _)
  replace hW := hide hW
  have r0 : W.cell? ⟨w.heap.size, 0, none⟩ = some (.slice Q B.qs.length cq) := bW.out.cell 0
  have r1 : W.cell? ⟨w.heap.size, 1, none⟩ = some (.slice Wd B.wanted.length cw) := bW.out.cell 1
  have r2 : W.cell? ⟨w.heap.size, 2, none⟩ = some (.int .i64 B.lo) := bW.out.cell 2
  have r3 : W.cell? ⟨w.heap.size, 3, none⟩ = some (.int .i64 B.hi) := bW.out.cell 3
  go_enter Try.func24, Try.ntmps24
  go_upto_region 1 with fail
  rw [hW.out]
  go_wp2_with fail
  refine (hOp.out W hBW.out).mono ?_
  clear r0 r1 r2 r3 hOp hW bW
  rintro e w2 ⟨hb, (⟨he, rfl⟩ | ⟨rfl, gw, cg, gl, M, rfl, hV, hK, hgw, hgl, hM, hc1, hc2⟩)⟩
  · have b1 : (er != 0) = true := by rw [bne_iff_ne]; exact he
    have hB2 := hide (hBW.out.trans (hb.mono hBW.out.size))
    replace he := hide he
    clear hb
    go_wp2
    go_ret2
    have hck2 := hck.out
    exact ⟨.inl ⟨by unfold errP; rw [hck2]; exact he.out, by unfold errP; rw [hck2]; rfl⟩, hB2.out.alloc hB2.out.size _⟩
  · have hB2 := hide (hBW.out.trans (hb.mono hBW.out.size))
    have hOk := hok.out rfl
    have hnq := hOk.nq
    have hcap : capN B.qs.length ≤ 2 ^ 16 := by have h1 := capN_pow B.qs.length; have h2 := Nat.pow_le_pow_right (n := 2) (by decide) hnq.2; omega
    obtain ⟨w3, hw3⟩ : ∃ y, w2.alloc (.cells #[.slice Q B.qs.length cq, .slice Wd B.wanted.length cw, .int .i64 B.lo, .int .i64 B.hi, .slice (some ⟨gw, 0, none⟩) B.qs.length cg, .slice (some ⟨gl, 0, none⟩) (B.qs.length + 1) (B.qs.length + 1), .map (some M)] 85) = y := ⟨_, rfl⟩
    have bV := hide (show Blk w3 w2.heap.size 85 #[.slice Q B.qs.length cq, .slice Wd B.wanted.length cw, .int .i64 B.lo, .int .i64 B.hi, .slice (some ⟨gw, 0, none⟩) B.qs.length cg, .slice (some ⟨gl, 0, none⟩) (B.qs.length + 1) (B.qs.length + 1), .map (some M)] by rw [← hw3]; exact blkNew rfl)
    have hb3 := hide (show Below w2.heap.size w2 w3 by rw [← hw3]; exact (Below.refl _ _).alloc (Nat.le_refl _) _)
    have hB3 := hide (hB2.out.trans (hb3.out.mono hB2.out.size))
    have hV3 := hV.below hb3.out
    have hK3 := hK.below hb3.out
    have hM9 := hide (Nat.le_trans hBW.out.size hM)
    replace hw3 := hide hw3
    clear hb hV hK
    go_upto_region 2 with fail
    rw [hw3.out]
    have s0 : w3.cell? ⟨w2.heap.size, 0, none⟩ = some (.slice Q B.qs.length cq) := bV.out.cell 0
    have s1 : w3.cell? ⟨w2.heap.size, 1, none⟩ = some (.slice Wd B.wanted.length cw) := bV.out.cell 1
    have s2 : w3.cell? ⟨w2.heap.size, 2, none⟩ = some (.int .i64 B.lo) := bV.out.cell 2
    have s3 : w3.cell? ⟨w2.heap.size, 3, none⟩ = some (.int .i64 B.hi) := bV.out.cell 3
    have s4 : w3.cell? ⟨w2.heap.size, 4, none⟩ = some (.slice (some ⟨gw, 0, none⟩) B.qs.length cg) := bV.out.cell 4
    have s5 : w3.cell? ⟨w2.heap.size, 5, none⟩ = some (.slice (some ⟨gl, 0, none⟩) (B.qs.length + 1) (B.qs.length + 1)) := bV.out.cell 5
    have s6 : w3.cell? ⟨w2.heap.size, 6, none⟩ = some (.map (some M)) := bV.out.cell 6
    have hCn := hide (count_any Q Wd cq cw gw cg gl M B 0 w3 hOk hV3 hK3 (by omega))
    unfold vwV at hCn
    go_wp2_with fail
    refine hCn.out.mono ?_
    rintro e w4 ⟨rfl, hk4, hK4⟩
    have hgn := blk_nmap hK3.map bV.out
    have hV4 := hV3.keptM (by omega) hK3.map hk4
    have k4 : Blk w4 w2.heap.size 85 _ := (hk4.block _ ⟨bV.out.lt, hgn⟩).trans bV.out
    have hB4 := hide (hB3.out.trans ((hk4.mono hB3.out.size).to_below hM9.out))
    clear s0 s1 s2 s3 s4 s5 s6 hCn hk4 hV3 hK3 bV
    have hln := papers_len hOk
    have hwr : IntKind.i64.wrap (((papers B).length : Int) - 1) = ((papers B).length : Int) - 1 := by rw [IntKind.wrap_i64]; omega
    have hw1 := hide (within_one 0 (((papers B).length : Int) - 1) x w4.heap.size 0 1 (w4.alloc (.cells #[.int .i64 x] 3)) ((Blk.new w4 _ _).cell 0))
    obtain ⟨q, hq⟩ : ∃ z, inB 0 (((papers B).length : Int) - 1) x = z := ⟨_, rfl⟩
    rw [hq] at hw1
    replace hq := hide hq
    go_wp2_with fail
    refine hw1.out.mono ?_
    rintro e w5 ⟨rfl, rfl⟩
    have k5 := k4.alloc (.cells #[.int .i64 x] 3)
    have hb5 := (Below.refl w4.heap.size w4).alloc (Nat.le_refl _) (.cells #[.int .i64 x] 3)
    have hV5 := hV4.below hb5
    have hK5 := hK4.below hb5
    have hB5 := hide (hB4.out.alloc hB4.out.size (.cells #[.int .i64 x] 3))
    clear hb5 hV4 hK4 k4 hw1
    generalize w4.alloc (.cells #[.int .i64 x] 3) = w5 at *
    cases q with
    | false =>
      clear hV5 hK5 k5
      go_wp2
      go_ret2
      have hck2 := hck.out
      exact ⟨.inr (.inl ⟨hck2, hq.out, rfl⟩), hB5.out⟩
    | true =>
      have u0 : w5.cell? ⟨w2.heap.size, 0, none⟩ = some (.slice Q B.qs.length cq) := k5.cell 0
      have u1 : w5.cell? ⟨w2.heap.size, 1, none⟩ = some (.slice Wd B.wanted.length cw) := k5.cell 1
      have u2 : w5.cell? ⟨w2.heap.size, 2, none⟩ = some (.int .i64 B.lo) := k5.cell 2
      have u3 : w5.cell? ⟨w2.heap.size, 3, none⟩ = some (.int .i64 B.hi) := k5.cell 3
      have u4 : w5.cell? ⟨w2.heap.size, 4, none⟩ = some (.slice (some ⟨gw, 0, none⟩) B.qs.length cg) := k5.cell 4
      have u5 : w5.cell? ⟨w2.heap.size, 5, none⟩ = some (.slice (some ⟨gl, 0, none⟩) (B.qs.length + 1) (B.qs.length + 1)) := k5.cell 5
      have u6 : w5.cell? ⟨w2.heap.size, 6, none⟩ = some (.map (some M)) := k5.cell 6
      obtain ⟨hx1, hx2⟩ := inB_iff.1 hq.out
      obtain ⟨i, rfl⟩ : ∃ i : Nat, x = (i : Int) := ⟨x.toNat, by omega⟩
      obtain ⟨pp, hpp⟩ : ∃ pp, (papers B)[i]? = some pp := ⟨_, List.getElem?_eq_getElem (show i < (papers B).length by omega)⟩
      have hNt := hide (nth_any Q Wd cq cw gw cg gl M B i _ pp w5 hOk hV5 hK5 (by omega) hpp)
      unfold vwV at hNt
      clear hV5 hK5 k5
      go_wp2_with fail
      refine hNt.out.mono ?_
      rintro e w6 ⟨⟨v, rfl, hrow⟩, hk6, -⟩
      have hB6 := hide (hB5.out.trans ((hk6.mono hB5.out.size).to_below hM9.out))
      have hr6 := hide (hrow.mono (Y := fun g => g < w.heap.size) fun g hg hlt => hrow.not g hg (Nat.lt_of_lt_of_le hlt hB5.out.size))
      clear u0 u1 u2 u3 u4 u5 u6 hNt hk6 hrow
      go_wp2
      go_ret2
      have hck2 := hck.out
      exact ⟨.inr (.inr ⟨hck2, i, pp, v, rfl, hpp, rfl, hr6.out⟩), hB6.out⟩
theorem isP_mem {B : Bank} (hB : BankOk B) {xs : List Int} : isP B xs = true ↔ ∃ q, xs = ints q ∧ q ∈ papers B := by
  unfold isP papers
  rw [isPB_iff (part4 hB) xs 0 (start4 B) 0 (Nat.zero_le _) (start4_len hB.nw.2)]
  constructor
  · rintro ⟨q, h1, h2⟩; exact ⟨q, h1, (mem_papersB (part4 hB) (part0 hB) B.qs.length 0 (start4 B) 0 q (by omega) (start4_len hB.nw.2)).2 h2⟩
  · rintro ⟨q, h1, h2⟩; exact ⟨q, h1, (mem_papersB (part4 hB) (part0 hB) B.qs.length 0 (start4 B) 0 q (by omega) (start4_len hB.nw.2)).1 h2⟩
set_option maxRecDepth 100000 in
set_option maxHeartbeats 1000000 in
theorem Number_any (Q Wd : Option Addr) (cq cw : Nat) (B : Bank) (A : Option Addr) (n cp : Nat) (xs : List Int) (w : World) (h : BkR w Q Wd B) (hX : RdInts w A n xs) (hn : n ≤ maxLen) :
    Calls Try.prog 26 #[bkV Q Wd cq cw B, .slice A n cp] w fun e w' => ((errP B ≠ 0 ∧ e = .returned (.tuple #[.int .i64 0, .int .i64 (errP B)])) ∨ (errP B = 0 ∧ isP B xs = false ∧ e = .returned (.tuple #[.int .i64 0, .int .i64 6])) ∨ (errP B = 0 ∧ ∃ q : List Nat, xs = ints q ∧ q ∈ papers B ∧ e = .returned (.tuple #[.int .i64 (idxB B B.qs.length 0 (start4 B) 0 q : Nat), .int .i64 0]))) ∧ Below w.heap.size w w' := by
  have hXk := hide (fun W (hb : Below w.heap.size w W) => hX.below hb)
  clear hX
  have hOp := hide (fun W (hb : Below w.heap.size w W) => open_any Q Wd cq cw B W (h.below hb))
  have hok := hide (bank_ok (B := B))
  generalize hck : (checkP B).2.2 = er at *
  replace hck := hide hck
  unfold bkV vwV vw0 at *
  obtain ⟨W, hW⟩ : ∃ y, w.alloc (.cells #[.slice Q B.qs.length cq, .slice Wd B.wanted.length cw, .int .i64 B.lo, .int .i64 B.hi] 27) = y := ⟨_, rfl⟩
  have bW := hide (show Blk W w.heap.size 27 #[.slice Q B.qs.length cq, .slice Wd B.wanted.length cw, .int .i64 B.lo, .int .i64 B.hi] by rw [← hW]; exact blkNew rfl)
  have hBW := hide (show Below w.heap.size w W by rw [← hW]; exact (Below.refl _ _).alloc (Nat.le_refl _) _)
  replace hW := hide hW
  have r0 : W.cell? ⟨w.heap.size, 0, none⟩ = some (.slice Q B.qs.length cq) := bW.out.cell 0
  have r1 : W.cell? ⟨w.heap.size, 1, none⟩ = some (.slice Wd B.wanted.length cw) := bW.out.cell 1
  have r2 : W.cell? ⟨w.heap.size, 2, none⟩ = some (.int .i64 B.lo) := bW.out.cell 2
  have r3 : W.cell? ⟨w.heap.size, 3, none⟩ = some (.int .i64 B.hi) := bW.out.cell 3
  go_enter Try.func26, Try.ntmps26
  go_upto_region 1 with fail
  rw [hW.out]
  go_wp2_with fail
  refine (hOp.out W hBW.out).mono ?_
  clear r0 r1 r2 r3 hOp hW bW
  rintro e w2 ⟨hb, (⟨he, rfl⟩ | ⟨rfl, gw, cg, gl, M, rfl, hV, hK, hgw, hgl, hM, hc1, hc2⟩)⟩
  · have b1 : (er != 0) = true := by rw [bne_iff_ne]; exact he
    have hB2 := hide (hBW.out.trans (hb.mono hBW.out.size))
    replace he := hide he
    clear hb
    go_wp2
    go_ret2
    have hck2 := hck.out
    exact ⟨.inl ⟨by unfold errP; rw [hck2]; exact he.out, by unfold errP; rw [hck2]; rfl⟩, hB2.out.alloc hB2.out.size _⟩
  · have hB2 := hide (hBW.out.trans (hb.mono hBW.out.size))
    have hOk := hok.out rfl
    have hnq := hOk.nq
    have hcap : capN B.qs.length ≤ 2 ^ 16 := by have h1 := capN_pow B.qs.length; have h2 := Nat.pow_le_pow_right (n := 2) (by decide) hnq.2; omega
    obtain ⟨w3, hw3⟩ : ∃ y, w2.alloc (.cells #[.slice Q B.qs.length cq, .slice Wd B.wanted.length cw, .int .i64 B.lo, .int .i64 B.hi, .slice (some ⟨gw, 0, none⟩) B.qs.length cg, .slice (some ⟨gl, 0, none⟩) (B.qs.length + 1) (B.qs.length + 1), .map (some M)] 85) = y := ⟨_, rfl⟩
    have bV := hide (show Blk w3 w2.heap.size 85 #[.slice Q B.qs.length cq, .slice Wd B.wanted.length cw, .int .i64 B.lo, .int .i64 B.hi, .slice (some ⟨gw, 0, none⟩) B.qs.length cg, .slice (some ⟨gl, 0, none⟩) (B.qs.length + 1) (B.qs.length + 1), .map (some M)] by rw [← hw3]; exact blkNew rfl)
    have hb3 := hide (show Below w2.heap.size w2 w3 by rw [← hw3]; exact (Below.refl _ _).alloc (Nat.le_refl _) _)
    have hB3 := hide (hB2.out.trans (hb3.out.mono hB2.out.size))
    have hV3 := hV.below hb3.out
    have hK3 := hK.below hb3.out
    have hM9 := hide (Nat.le_trans hBW.out.size hM)
    replace hw3 := hide hw3
    clear hb hV hK
    go_upto_region 2 with fail
    rw [hw3.out]
    have s0 : w3.cell? ⟨w2.heap.size, 0, none⟩ = some (.slice Q B.qs.length cq) := bV.out.cell 0
    have s1 : w3.cell? ⟨w2.heap.size, 1, none⟩ = some (.slice Wd B.wanted.length cw) := bV.out.cell 1
    have s2 : w3.cell? ⟨w2.heap.size, 2, none⟩ = some (.int .i64 B.lo) := bV.out.cell 2
    have s3 : w3.cell? ⟨w2.heap.size, 3, none⟩ = some (.int .i64 B.hi) := bV.out.cell 3
    have s4 : w3.cell? ⟨w2.heap.size, 4, none⟩ = some (.slice (some ⟨gw, 0, none⟩) B.qs.length cg) := bV.out.cell 4
    have s5 : w3.cell? ⟨w2.heap.size, 5, none⟩ = some (.slice (some ⟨gl, 0, none⟩) (B.qs.length + 1) (B.qs.length + 1)) := bV.out.cell 5
    have s6 : w3.cell? ⟨w2.heap.size, 6, none⟩ = some (.map (some M)) := bV.out.cell 6
    have hIs := hide (isPaper_any Q Wd cq cw gw cg gl M B A n cp xs w3 hOk hV3 (hXk.out w3 hB3.out) hn)
    unfold vwV at hIs
    have hmem := hide (isP_mem hOk (xs := xs))
    obtain ⟨q, hq⟩ : ∃ z, isP B xs = z := ⟨_, rfl⟩
    rw [hq] at hIs hmem
    replace hq := hide hq
    go_wp2_with fail
    refine hIs.out.mono ?_
    rintro e w5 ⟨rfl, hb5⟩
    have k5 := bV.out.below hb5 bV.out.lt
    have hV5 := hV3.below hb5
    have hK5 := hK3.below hb5
    have hB5 := hide (hB3.out.trans (hb5.mono hB3.out.size))
    clear s0 s1 s2 s3 s4 s5 s6 hIs hb5 hV3 hK3 bV
    cases q with
    | false =>
      clear hV5 hK5 k5
      go_wp2
      go_ret2
      have hck2 := hck.out
      exact ⟨.inr (.inl ⟨hck2, hq.out, rfl⟩), hB5.out⟩
    | true =>
      have u0 : w5.cell? ⟨w2.heap.size, 0, none⟩ = some (.slice Q B.qs.length cq) := k5.cell 0
      have u1 : w5.cell? ⟨w2.heap.size, 1, none⟩ = some (.slice Wd B.wanted.length cw) := k5.cell 1
      have u2 : w5.cell? ⟨w2.heap.size, 2, none⟩ = some (.int .i64 B.lo) := k5.cell 2
      have u3 : w5.cell? ⟨w2.heap.size, 3, none⟩ = some (.int .i64 B.hi) := k5.cell 3
      have u4 : w5.cell? ⟨w2.heap.size, 4, none⟩ = some (.slice (some ⟨gw, 0, none⟩) B.qs.length cg) := k5.cell 4
      have u5 : w5.cell? ⟨w2.heap.size, 5, none⟩ = some (.slice (some ⟨gl, 0, none⟩) (B.qs.length + 1) (B.qs.length + 1)) := k5.cell 5
      have u6 : w5.cell? ⟨w2.heap.size, 6, none⟩ = some (.map (some M)) := k5.cell 6
      obtain ⟨q, rfl, hqp⟩ := hmem.out.1 rfl
      have hX5 := hXk.out w5 hB5.out
      obtain rfl : n = q.length := by have h8 := hX5.1; rw [← h8]; simp [ints]
      have hNm := hide (number_any Q Wd cq cw gw cg gl M B A cp 0 q w5 hOk hV5 hK5 (by decide) hX5 hqp)
      unfold vwV at hNm
      clear hV5 hK5 k5 hX5
      replace hqp := hide hqp
      go_wp2_with fail
      refine hNm.out.mono ?_
      rintro e w6 ⟨rfl, hk6, -⟩
      have hB6 := hide (hB5.out.trans ((hk6.mono hB5.out.size).to_below hM9.out))
      clear u0 u1 u2 u3 u4 u5 u6 hNm hk6
      go_wp2
      go_ret2
      have hck2 := hck.out
      exact ⟨.inr (.inr ⟨hck2, q, rfl, hqp.out, rfl⟩), hB6.out⟩
end Go.Proofs.Ytnmgnonbgihalaa

/-
  The view of a bank and a hall (made by gen_enter.py).
-/
namespace Go.Proofs.Ytnmgnonbgihalaa
open Go.RowKit Go.Shelf RG

theorem VwR.put {w w' : World} {Q Wd : Option Addr} {gw gl rs : Nat} {B : Bank} (h : VwR w Q Wd gw gl B) (hs : Stored rs w w') (hb : BkR w' Q Wd B) (h1 : gw ≠ rs) (h2 : gl ≠ rs) : VwR w' Q Wd gw gl B := by
  have hk : KeptX (fun g => g ≠ rs) w w' := ⟨hs.os, hs.tape, hs.output, Nat.le_of_eq hs.size.symm, fun g hg => hs.block g hg⟩
  exact ⟨hb.qs, hb.ws, fun k hk' => (KeptX.cell hk (b := gw) h1).trans (h.wts k hk'), fun k q hk' hq => (KeptX.cell hk (b := gl) h2).trans (h.left k q hk' hq), by rw [hs.size]; exact h.gw, by rw [hs.size]; exact h.gl⟩
theorem enter_end (tm : Array Value) (wf : World) (R : Ending → World → Prop) (q : Nat) (er : Int) (x0 x1 x2 x3 x4 x5 x6 : Value) (h6 : tm[6]? = some (.pointer (some ⟨q, 0, none⟩))) (h7 : tm[7]? = some (.int .i64 er)) (c0 : wf.cell? ⟨q, 0, none⟩ = some x0) (c1 : wf.cell? ⟨q, 1, none⟩ = some x1) (c2 : wf.cell? ⟨q, 2, none⟩ = some x2) (c3 : wf.cell? ⟨q, 3, none⟩ = some x3) (c4 : wf.cell? ⟨q, 4, none⟩ = some x4) (c5 : wf.cell? ⟨q, 5, none⟩ = some x5) (c6 : wf.cell? ⟨q, 6, none⟩ = some x6)
    (hR : R (.returned (.tuple #[.agg #[x0, x1, x2, x3, x4, x5, x6], .int .i64 er])) wf) : bodyPost Try.prog Try.f60 R .ret { tmps := tm, defers := [] } wf := by
  refine bodyPost_ret (v := .tuple #[.agg #[x0, x1, x2, x3, x4, x5, x6], .int .i64 er]) ?_ rfl hR
  simp [results, Try.results60, go_sem, h6, h7, c0, c1, c2, c3, c4, c5, c6]
def hallB (hr hs hc : Int) : Bool := inB 1 5 hr && inB 1 6 hs && inB 0 16 hc
def enterE (B : Bank) (hr hs hc n : Int) : Int := if errP B ≠ 0 then errP B else if hallB hr hs hc = false then 7 else if n ≠ hr * hs then 3 else 0
set_option maxRecDepth 100000 in
set_option maxHeartbeats 8000000 in
theorem enter_any (Q Wd : Option Addr) (cq cw : Nat) (B : Bank) (hr hs hc : Int) (n : Nat) (w : World) (h : BkR w Q Wd B) :
    Calls Try.prog 60 #[bkV Q Wd cq cw B, .agg #[.int .i64 hr, .int .i64 hs, .int .i64 hc], .int .i64 n] w fun e w' => Below w.heap.size w w' ∧ ((enterE B hr hs hc n ≠ 0 ∧ e = .returned (.tuple #[.agg vw0, .int .i64 (enterE B hr hs hc n)])) ∨
      (enterE B hr hs hc n = 0 ∧ ∃ gw cg gl M, e = .returned (.tuple #[vwV Q Wd cq cw gw cg gl M B, .int .i64 0]) ∧ VwR w' Q Wd gw gl B ∧ KnownM w' M B 0 ∧ w.heap.size ≤ gw ∧ w.heap.size ≤ gl ∧ w.heap.size ≤ M ∧ B.qs.length ≤ cg ∧ cg ≤ maxLen)) := by
  have hOp := hide (fun W (hb : Below w.heap.size w W) => open_any Q Wd cq cw B W (h.below hb))
  have hw1 := hide (fun (lo hi x : Int) (W : World) => within_one lo hi x W.heap.size 0 1 (W.alloc (.cells #[.int .i64 x] 3)) ((Blk.new W _ _).cell 0))
  have hc1 := hide (fun W => hw1.out 1 5 hr W)
  have hc2 := hide (fun W => hw1.out 1 6 hs W)
  have hc3 := hide (fun W => hw1.out 0 16 hc W)
  have hBk := hide (fun W (hb : Below w.heap.size w W) => h.below hb)
  clear hw1 h
  obtain ⟨E, hE⟩ : ∃ z, enterE B hr hs hc n = z := ⟨_, rfl⟩
  rw [hE]
  unfold enterE errP hallB at hE
  generalize hck : (checkP B).2.2 = er at *
  replace hck := hide hck
  have hib1 := hide (show inB 1 5 hr = true → 1 ≤ hr ∧ hr ≤ 5 from inB_iff.1)
  have hib2 := hide (show inB 1 6 hs = true → 1 ≤ hs ∧ hs ≤ 6 from inB_iff.1)
  generalize inB 1 5 hr = i1 at *
  generalize inB 1 6 hs = i2 at *
  generalize inB 0 16 hc = i3 at *
  unfold bkV vwV vw0 at *
  obtain ⟨W, hW⟩ : ∃ y, ((w.alloc (.cells #[.slice Q B.qs.length cq, .slice Wd B.wanted.length cw, .int .i64 B.lo, .int .i64 B.hi] 27)).alloc (.cells #[.int .i64 hr, .int .i64 hs, .int .i64 hc] 44)).alloc (.cells #[.slice none 0 0, .slice none 0 0, .int .i64 0, .int .i64 0, .slice none 0 0, .slice none 0 0, .map none] 85) = y := ⟨_, rfl⟩
  have bW := hide (show Blk W w.heap.size 27 #[.slice Q B.qs.length cq, .slice Wd B.wanted.length cw, .int .i64 B.lo, .int .i64 B.hi] by rw [← hW]; exact ((blkNew rfl).alloc _).alloc _)
  have bH := hide (show Blk W (w.heap.size + 1) 44 #[.int .i64 hr, .int .i64 hs, .int .i64 hc] by rw [← hW]; exact (blkNew (by simp)).alloc _)
  have bR := hide (show Blk W (w.heap.size + 1 + 1) 85 #[.slice none 0 0, .slice none 0 0, .int .i64 0, .int .i64 0, .slice none 0 0, .slice none 0 0, .map none] by rw [← hW]; exact blkNew (by simp))
  have hBW := hide (show Below w.heap.size w W by rw [← hW]; exact (((Below.refl _ _).alloc (Nat.le_refl _) _).alloc (by simp <;> omega) _).alloc (by simp <;> omega) _)
  have hWs := hide (show W.heap.size = w.heap.size + 3 by rw [← hW]; simp)
  replace hW := hide hW
  have r0 : W.cell? ⟨w.heap.size, 0, none⟩ = some (.slice Q B.qs.length cq) := bW.out.cell 0
  have r1 : W.cell? ⟨w.heap.size, 1, none⟩ = some (.slice Wd B.wanted.length cw) := bW.out.cell 1
  have r2 : W.cell? ⟨w.heap.size, 2, none⟩ = some (.int .i64 B.lo) := bW.out.cell 2
  have r3 : W.cell? ⟨w.heap.size, 3, none⟩ = some (.int .i64 B.hi) := bW.out.cell 3
  go_enter Try.func60, Try.ntmps60
  go_upto_region 1 with fail
  rw [hW.out]
  go_wp2_with fail
  refine (hOp.out W hBW.out).mono ?_
  clear r0 r1 r2 r3 hOp hW bW
  rintro e w2 ⟨hb, (⟨he, rfl⟩ | ⟨rfl, gw, cg, gl, M, rfl, hV, hK, hgw, hgl, hM, hcg1, hcg2⟩)⟩
  · have b1 : (er != 0) = true := by rw [bne_iff_ne]; exact he
    rw [if_pos he] at hE
    subst hE
    have hB2 := hide ((hBW.out.trans (hb.mono hBW.out.size)).alloc (hBW.out.trans (hb.mono hBW.out.size)).size (.cells #[.slice none 0 0, .slice none 0 0, .int .i64 0, .int .i64 0, .slice none 0 0, .slice none 0 0, .map none] 85))
    have kR := hide ((bR.out.below hb bR.out.lt).alloc (.cells #[.slice none 0 0, .slice none 0 0, .int .i64 0, .int .i64 0, .slice none 0 0, .slice none 0 0, .map none] 85))
    replace he := hide he
    clear hb bR bH hib1 hib2 hc1 hc2 hc3
    obtain ⟨w3, hw3⟩ : ∃ y, w2.alloc (.cells #[.slice none 0 0, .slice none 0 0, .int .i64 0, .int .i64 0, .slice none 0 0, .slice none 0 0, .map none] 85) = y := ⟨_, rfl⟩
    rw [hw3] at hB2 kR
    replace hw3 := hide hw3
    go_upto_region 2 with fail
    rw [hw3.out]
    obtain ⟨hS, kF⟩ := stored_put kR.out [.slice none 0 0, .slice none 0 0, .int .i64 0, .int .i64 0, .slice none 0 0, .slice none 0 0, .map none] rfl
    obtain ⟨V7, hV7e⟩ : ∃ x, putCells (w.heap.size + 1 + 1) 0 [.slice none 0 0, .slice none 0 0, .int .i64 0, .int .i64 0, .slice none 0 0, .slice none 0 0, .map none] w3 = x := ⟨_, rfl⟩
    rw [hV7e] at hS kF
    have hb7 := hide (hB2.out.trans (hS.below (B := w.heap.size) (by omega)))
    replace kF := hide kF
    simp only [putCells] at hV7e
    replace hV7e := hide hV7e
    have x0 : w3.cell? ⟨w.heap.size + 1 + 1, 0, none⟩ = some (.slice none 0 0) := kR.out.cell 0
    have x1 : w3.cell? ⟨w.heap.size + 1 + 1, 1, none⟩ = some (.slice none 0 0) := kR.out.cell 1
    have x2 : w3.cell? ⟨w.heap.size + 1 + 1, 2, none⟩ = some (.int .i64 0) := kR.out.cell 2
    have x3 : w3.cell? ⟨w.heap.size + 1 + 1, 3, none⟩ = some (.int .i64 0) := kR.out.cell 3
    have x4 : w3.cell? ⟨w.heap.size + 1 + 1, 4, none⟩ = some (.slice none 0 0) := kR.out.cell 4
    have x5 : w3.cell? ⟨w.heap.size + 1 + 1, 5, none⟩ = some (.slice none 0 0) := kR.out.cell 5
    have x6 : w3.cell? ⟨w.heap.size + 1 + 1, 6, none⟩ = some (.map none) := kR.out.cell 6
    have y0 := kR.out.frozen 0
    have y1 := kR.out.frozen 1
    have y2 := kR.out.frozen 2
    have y3 := kR.out.frozen 3
    have y4 := kR.out.frozen 4
    have y5 := kR.out.frozen 5
    have y6 := kR.out.frozen 6
    clear hS
    go_wp2
    rw [hV7e.out]
    exact enter_end _ _ _ (w.heap.size + 1 + 1) er _ _ _ _ _ _ _ rfl rfl (kF.out.cell 0) (kF.out.cell 1) (kF.out.cell 2) (kF.out.cell 3) (kF.out.cell 4) (kF.out.cell 5) (kF.out.cell 6) (by exact ⟨hb7.out, .inl ⟨he.out, rfl⟩⟩)
  · rw [if_neg (by simp)] at hE
    have hB2 := hBW.out.trans (hb.mono hBW.out.size)
    obtain ⟨w3, hw3⟩ : ∃ y, w2.alloc (.cells #[.slice Q B.qs.length cq, .slice Wd B.wanted.length cw, .int .i64 B.lo, .int .i64 B.hi, .slice (some ⟨gw, 0, none⟩) B.qs.length cg, .slice (some ⟨gl, 0, none⟩) (B.qs.length + 1) (B.qs.length + 1), .map (some M)] 85) = y := ⟨_, rfl⟩
    have hb3 : Below w2.heap.size w2 w3 := by rw [← hw3]; exact (Below.refl _ _).alloc (Nat.le_refl _) _
    have bV := hide (show Blk w3 w2.heap.size 85 #[.slice Q B.qs.length cq, .slice Wd B.wanted.length cw, .int .i64 B.lo, .int .i64 B.hi, .slice (some ⟨gw, 0, none⟩) B.qs.length cg, .slice (some ⟨gl, 0, none⟩) (B.qs.length + 1) (B.qs.length + 1), .map (some M)] by rw [← hw3]; exact blkNew rfl)
    have kR3 := hide ((bR.out.below hb bR.out.lt).below hb3 (Nat.lt_of_lt_of_le bR.out.lt hb.size))
    have kH3 := hide ((bH.out.below hb bH.out.lt).below hb3 (Nat.lt_of_lt_of_le bH.out.lt hb.size))
    have hB3 := hide (hB2.trans (hb3.mono hB2.size))
    have hV3 := hide (hV.below hb3)
    have hK3 := hide (hK.below hb3)
    have hwW := hBW.out.size
    have hgw2 := Nat.le_trans hwW hgw
    have hgw9 := hgw
    have hgl9 := hgl
    have hgl2 := Nat.le_trans hwW hgl
    have hM2 := Nat.le_trans hwW hM
    replace hw3 := hide hw3
    clear hb hV hK hb3 hB2 bR bH hgw hgl hM hwW
    go_upto_region 2 with fail
    rw [hw3.out]
    have r0 : w3.cell? ⟨w.heap.size + 1, 0, none⟩ = some (.int .i64 hr) := kH3.out.cell 0
    have r1 : w3.cell? ⟨w.heap.size + 1, 1, none⟩ = some (.int .i64 hs) := kH3.out.cell 1
    have r2 : w3.cell? ⟨w.heap.size + 1, 2, none⟩ = some (.int .i64 hc) := kH3.out.cell 2
    go_wp2_with fail
    refine (hc1.out _).mono ?_
    rintro e w4 ⟨rfl, rfl⟩
    obtain ⟨v4, hv4⟩ : ∃ y, w3.alloc (.cells #[.int .i64 hr] 3) = y := ⟨_, rfl⟩
    have hsv4 := (Below.refl w3.heap.size w3).alloc (Nat.le_refl _) (.cells #[.int .i64 hr] 3)
    rw [hv4] at hsv4 ⊢
    replace bV := hide (bV.out.below hsv4 bV.out.lt)
    replace kR3 := hide (kR3.out.below hsv4 kR3.out.lt)
    replace kH3 := hide (kH3.out.below hsv4 kH3.out.lt)
    replace hV3 := hide (hV3.out.below hsv4)
    replace hK3 := hide (hK3.out.below hsv4)
    replace hB3 := hide (hB3.out.trans (hsv4.mono hB3.out.size))
    replace hv4 := hide hv4
    clear hsv4 r0 r1 r2
    cases i1 with
    | false =>
      rw [if_pos (by simp)] at hE
      subst hE
      obtain ⟨hS, kF⟩ := stored_put kR3.out [.slice none 0 0, .slice none 0 0, .int .i64 0, .int .i64 0, .slice none 0 0, .slice none 0 0, .map none] rfl
      obtain ⟨V7, hV7e⟩ : ∃ x, putCells (w.heap.size + 1 + 1) 0 [.slice none 0 0, .slice none 0 0, .int .i64 0, .int .i64 0, .slice none 0 0, .slice none 0 0, .map none] v4 = x := ⟨_, rfl⟩
      rw [hV7e] at hS kF
      have hb7 := hide (hB3.out.trans (hS.below (B := w.heap.size) (by omega)))
      replace kF := hide kF
      simp only [putCells] at hV7e
      replace hV7e := hide hV7e
      have x0 : v4.cell? ⟨w.heap.size + 1 + 1, 0, none⟩ = some (.slice none 0 0) := kR3.out.cell 0
      have x1 : v4.cell? ⟨w.heap.size + 1 + 1, 1, none⟩ = some (.slice none 0 0) := kR3.out.cell 1
      have x2 : v4.cell? ⟨w.heap.size + 1 + 1, 2, none⟩ = some (.int .i64 0) := kR3.out.cell 2
      have x3 : v4.cell? ⟨w.heap.size + 1 + 1, 3, none⟩ = some (.int .i64 0) := kR3.out.cell 3
      have x4 : v4.cell? ⟨w.heap.size + 1 + 1, 4, none⟩ = some (.slice none 0 0) := kR3.out.cell 4
      have x5 : v4.cell? ⟨w.heap.size + 1 + 1, 5, none⟩ = some (.slice none 0 0) := kR3.out.cell 5
      have x6 : v4.cell? ⟨w.heap.size + 1 + 1, 6, none⟩ = some (.map none) := kR3.out.cell 6
      have y0 := kR3.out.frozen 0
      have y1 := kR3.out.frozen 1
      have y2 := kR3.out.frozen 2
      have y3 := kR3.out.frozen 3
      have y4 := kR3.out.frozen 4
      have y5 := kR3.out.frozen 5
      have y6 := kR3.out.frozen 6
      clear hS
      go_wp2
      rw [hV7e.out]
      exact enter_end _ _ _ (w.heap.size + 1 + 1) 7 _ _ _ _ _ _ _ rfl rfl (kF.out.cell 0) (kF.out.cell 1) (kF.out.cell 2) (kF.out.cell 3) (kF.out.cell 4) (kF.out.cell 5) (kF.out.cell 6) (by exact ⟨hb7.out, .inl ⟨by decide, rfl⟩⟩)
    | true =>
      have r0 : v4.cell? ⟨w.heap.size + 1, 0, none⟩ = some (.int .i64 hr) := kH3.out.cell 0
      have r1 : v4.cell? ⟨w.heap.size + 1, 1, none⟩ = some (.int .i64 hs) := kH3.out.cell 1
      have r2 : v4.cell? ⟨w.heap.size + 1, 2, none⟩ = some (.int .i64 hc) := kH3.out.cell 2
      go_wp2_with fail
      refine (hc2.out _).mono ?_
      rintro e w5 ⟨rfl, rfl⟩
      obtain ⟨v5, hv5⟩ : ∃ y, v4.alloc (.cells #[.int .i64 hs] 3) = y := ⟨_, rfl⟩
      have hsv5 := (Below.refl v4.heap.size v4).alloc (Nat.le_refl _) (.cells #[.int .i64 hs] 3)
      rw [hv5] at hsv5 ⊢
      replace bV := hide (bV.out.below hsv5 bV.out.lt)
      replace kR3 := hide (kR3.out.below hsv5 kR3.out.lt)
      replace kH3 := hide (kH3.out.below hsv5 kH3.out.lt)
      replace hV3 := hide (hV3.out.below hsv5)
      replace hK3 := hide (hK3.out.below hsv5)
      replace hB3 := hide (hB3.out.trans (hsv5.mono hB3.out.size))
      replace hv5 := hide hv5
      clear hsv5 r0 r1 r2
      cases i2 with
      | false =>
        rw [if_pos (by simp)] at hE
        subst hE
        obtain ⟨hS, kF⟩ := stored_put kR3.out [.slice none 0 0, .slice none 0 0, .int .i64 0, .int .i64 0, .slice none 0 0, .slice none 0 0, .map none] rfl
        obtain ⟨V7, hV7e⟩ : ∃ x, putCells (w.heap.size + 1 + 1) 0 [.slice none 0 0, .slice none 0 0, .int .i64 0, .int .i64 0, .slice none 0 0, .slice none 0 0, .map none] v5 = x := ⟨_, rfl⟩
        rw [hV7e] at hS kF
        have hb7 := hide (hB3.out.trans (hS.below (B := w.heap.size) (by omega)))
        replace kF := hide kF
        simp only [putCells] at hV7e
        replace hV7e := hide hV7e
        have x0 : v5.cell? ⟨w.heap.size + 1 + 1, 0, none⟩ = some (.slice none 0 0) := kR3.out.cell 0
        have x1 : v5.cell? ⟨w.heap.size + 1 + 1, 1, none⟩ = some (.slice none 0 0) := kR3.out.cell 1
        have x2 : v5.cell? ⟨w.heap.size + 1 + 1, 2, none⟩ = some (.int .i64 0) := kR3.out.cell 2
        have x3 : v5.cell? ⟨w.heap.size + 1 + 1, 3, none⟩ = some (.int .i64 0) := kR3.out.cell 3
        have x4 : v5.cell? ⟨w.heap.size + 1 + 1, 4, none⟩ = some (.slice none 0 0) := kR3.out.cell 4
        have x5 : v5.cell? ⟨w.heap.size + 1 + 1, 5, none⟩ = some (.slice none 0 0) := kR3.out.cell 5
        have x6 : v5.cell? ⟨w.heap.size + 1 + 1, 6, none⟩ = some (.map none) := kR3.out.cell 6
        have y0 := kR3.out.frozen 0
        have y1 := kR3.out.frozen 1
        have y2 := kR3.out.frozen 2
        have y3 := kR3.out.frozen 3
        have y4 := kR3.out.frozen 4
        have y5 := kR3.out.frozen 5
        have y6 := kR3.out.frozen 6
        clear hS
        go_wp2
        rw [hV7e.out]
        exact enter_end _ _ _ (w.heap.size + 1 + 1) 7 _ _ _ _ _ _ _ rfl rfl (kF.out.cell 0) (kF.out.cell 1) (kF.out.cell 2) (kF.out.cell 3) (kF.out.cell 4) (kF.out.cell 5) (kF.out.cell 6) (by exact ⟨hb7.out, .inl ⟨by decide, rfl⟩⟩)
      | true =>
        have r0 : v5.cell? ⟨w.heap.size + 1, 0, none⟩ = some (.int .i64 hr) := kH3.out.cell 0
        have r1 : v5.cell? ⟨w.heap.size + 1, 1, none⟩ = some (.int .i64 hs) := kH3.out.cell 1
        have r2 : v5.cell? ⟨w.heap.size + 1, 2, none⟩ = some (.int .i64 hc) := kH3.out.cell 2
        go_wp2_with fail
        refine (hc3.out _).mono ?_
        rintro e w6 ⟨rfl, rfl⟩
        obtain ⟨v6, hv6⟩ : ∃ y, v5.alloc (.cells #[.int .i64 hc] 3) = y := ⟨_, rfl⟩
        have hsv6 := (Below.refl v5.heap.size v5).alloc (Nat.le_refl _) (.cells #[.int .i64 hc] 3)
        rw [hv6] at hsv6 ⊢
        replace bV := hide (bV.out.below hsv6 bV.out.lt)
        replace kR3 := hide (kR3.out.below hsv6 kR3.out.lt)
        replace kH3 := hide (kH3.out.below hsv6 kH3.out.lt)
        replace hV3 := hide (hV3.out.below hsv6)
        replace hK3 := hide (hK3.out.below hsv6)
        replace hB3 := hide (hB3.out.trans (hsv6.mono hB3.out.size))
        replace hv6 := hide hv6
        clear hsv6 r0 r1 r2
        cases i3 with
        | false =>
          rw [if_pos (by simp)] at hE
          subst hE
          obtain ⟨hS, kF⟩ := stored_put kR3.out [.slice none 0 0, .slice none 0 0, .int .i64 0, .int .i64 0, .slice none 0 0, .slice none 0 0, .map none] rfl
          obtain ⟨V7, hV7e⟩ : ∃ x, putCells (w.heap.size + 1 + 1) 0 [.slice none 0 0, .slice none 0 0, .int .i64 0, .int .i64 0, .slice none 0 0, .slice none 0 0, .map none] v6 = x := ⟨_, rfl⟩
          rw [hV7e] at hS kF
          have hb7 := hide (hB3.out.trans (hS.below (B := w.heap.size) (by omega)))
          replace kF := hide kF
          simp only [putCells] at hV7e
          replace hV7e := hide hV7e
          have x0 : v6.cell? ⟨w.heap.size + 1 + 1, 0, none⟩ = some (.slice none 0 0) := kR3.out.cell 0
          have x1 : v6.cell? ⟨w.heap.size + 1 + 1, 1, none⟩ = some (.slice none 0 0) := kR3.out.cell 1
          have x2 : v6.cell? ⟨w.heap.size + 1 + 1, 2, none⟩ = some (.int .i64 0) := kR3.out.cell 2
          have x3 : v6.cell? ⟨w.heap.size + 1 + 1, 3, none⟩ = some (.int .i64 0) := kR3.out.cell 3
          have x4 : v6.cell? ⟨w.heap.size + 1 + 1, 4, none⟩ = some (.slice none 0 0) := kR3.out.cell 4
          have x5 : v6.cell? ⟨w.heap.size + 1 + 1, 5, none⟩ = some (.slice none 0 0) := kR3.out.cell 5
          have x6 : v6.cell? ⟨w.heap.size + 1 + 1, 6, none⟩ = some (.map none) := kR3.out.cell 6
          have y0 := kR3.out.frozen 0
          have y1 := kR3.out.frozen 1
          have y2 := kR3.out.frozen 2
          have y3 := kR3.out.frozen 3
          have y4 := kR3.out.frozen 4
          have y5 := kR3.out.frozen 5
          have y6 := kR3.out.frozen 6
          clear hS
          go_wp2
          rw [hV7e.out]
          exact enter_end _ _ _ (w.heap.size + 1 + 1) 7 _ _ _ _ _ _ _ rfl rfl (kF.out.cell 0) (kF.out.cell 1) (kF.out.cell 2) (kF.out.cell 3) (kF.out.cell 4) (kF.out.cell 5) (kF.out.cell 6) (by exact ⟨hb7.out, .inl ⟨by decide, rfl⟩⟩)
        | true =>
          rw [if_neg (by simp)] at hE
          have hb1 := hib1.out trivial
          have hb2 := hib2.out trivial
          have hmb : 0 ≤ hr * hs ∧ hr * hs ≤ 30 := by
            refine ⟨Int.mul_nonneg (by omega) (by omega), ?_⟩
            have h1 : hr * hs ≤ 5 * hs := Int.mul_le_mul_of_nonneg_right hb1.2 (by omega)
            omega
          have hmw : IntKind.i64.wrap (hr * hs) = hr * hs := by rw [IntKind.wrap_i64]; omega
          clear hb1 hb2 hmb
          have r0 : v6.cell? ⟨w.heap.size + 1, 0, none⟩ = some (.int .i64 hr) := kH3.out.cell 0
          have r1 : v6.cell? ⟨w.heap.size + 1, 1, none⟩ = some (.int .i64 hs) := kH3.out.cell 1
          have r2 : v6.cell? ⟨w.heap.size + 1, 2, none⟩ = some (.int .i64 hc) := kH3.out.cell 2
          by_cases hnm : (n : Int) ≠ hr * hs
          · rw [if_pos hnm] at hE
            subst hE
            have hnm2 : ¬ (n : Int) = hr * hs := hnm
            have b1 : ((n : Int) == hr * hs) = false := by rw [beq_eq_false_iff_ne]; exact hnm
            obtain ⟨hS, kF⟩ := stored_put kR3.out [.slice none 0 0, .slice none 0 0, .int .i64 0, .int .i64 0, .slice none 0 0, .slice none 0 0, .map none] rfl
            obtain ⟨V7, hV7e⟩ : ∃ x, putCells (w.heap.size + 1 + 1) 0 [.slice none 0 0, .slice none 0 0, .int .i64 0, .int .i64 0, .slice none 0 0, .slice none 0 0, .map none] v6 = x := ⟨_, rfl⟩
            rw [hV7e] at hS kF
            have hb7 := hide (hB3.out.trans (hS.below (B := w.heap.size) (by omega)))
            replace kF := hide kF
            simp only [putCells] at hV7e
            replace hV7e := hide hV7e
            have x0 : v6.cell? ⟨w.heap.size + 1 + 1, 0, none⟩ = some (.slice none 0 0) := kR3.out.cell 0
            have x1 : v6.cell? ⟨w.heap.size + 1 + 1, 1, none⟩ = some (.slice none 0 0) := kR3.out.cell 1
            have x2 : v6.cell? ⟨w.heap.size + 1 + 1, 2, none⟩ = some (.int .i64 0) := kR3.out.cell 2
            have x3 : v6.cell? ⟨w.heap.size + 1 + 1, 3, none⟩ = some (.int .i64 0) := kR3.out.cell 3
            have x4 : v6.cell? ⟨w.heap.size + 1 + 1, 4, none⟩ = some (.slice none 0 0) := kR3.out.cell 4
            have x5 : v6.cell? ⟨w.heap.size + 1 + 1, 5, none⟩ = some (.slice none 0 0) := kR3.out.cell 5
            have x6 : v6.cell? ⟨w.heap.size + 1 + 1, 6, none⟩ = some (.map none) := kR3.out.cell 6
            have y0 := kR3.out.frozen 0
            have y1 := kR3.out.frozen 1
            have y2 := kR3.out.frozen 2
            have y3 := kR3.out.frozen 3
            have y4 := kR3.out.frozen 4
            have y5 := kR3.out.frozen 5
            have y6 := kR3.out.frozen 6
            clear hS
            go_wp2
            rw [hV7e.out]
            exact enter_end _ _ _ (w.heap.size + 1 + 1) 3 _ _ _ _ _ _ _ rfl rfl (kF.out.cell 0) (kF.out.cell 1) (kF.out.cell 2) (kF.out.cell 3) (kF.out.cell 4) (kF.out.cell 5) (kF.out.cell 6) (by exact ⟨hb7.out, .inl ⟨by decide, rfl⟩⟩)
          · rw [if_neg hnm] at hE
            subst hE
            have hnm2 : (n : Int) = hr * hs := Classical.byContradiction hnm
            clear hnm
            have o0 : v6.cell? ⟨w2.heap.size, 0, none⟩ = some (.slice Q B.qs.length cq) := bV.out.cell 0
            have o1 : v6.cell? ⟨w2.heap.size, 1, none⟩ = some (.slice Wd B.wanted.length cw) := bV.out.cell 1
            have o2 : v6.cell? ⟨w2.heap.size, 2, none⟩ = some (.int .i64 B.lo) := bV.out.cell 2
            have o3 : v6.cell? ⟨w2.heap.size, 3, none⟩ = some (.int .i64 B.hi) := bV.out.cell 3
            have o4 : v6.cell? ⟨w2.heap.size, 4, none⟩ = some (.slice (some ⟨gw, 0, none⟩) B.qs.length cg) := bV.out.cell 4
            have o5 : v6.cell? ⟨w2.heap.size, 5, none⟩ = some (.slice (some ⟨gl, 0, none⟩) (B.qs.length + 1) (B.qs.length + 1)) := bV.out.cell 5
            have o6 : v6.cell? ⟨w2.heap.size, 6, none⟩ = some (.map (some M)) := bV.out.cell 6
            obtain ⟨hS, kF⟩ := stored_put kR3.out [.slice Q B.qs.length cq, .slice Wd B.wanted.length cw, .int .i64 B.lo, .int .i64 B.hi, .slice (some ⟨gw, 0, none⟩) B.qs.length cg, .slice (some ⟨gl, 0, none⟩) (B.qs.length + 1) (B.qs.length + 1), .map (some M)] rfl
            obtain ⟨V7, hV7e⟩ : ∃ x, putCells (w.heap.size + 1 + 1) 0 [.slice Q B.qs.length cq, .slice Wd B.wanted.length cw, .int .i64 B.lo, .int .i64 B.hi, .slice (some ⟨gw, 0, none⟩) B.qs.length cg, .slice (some ⟨gl, 0, none⟩) (B.qs.length + 1) (B.qs.length + 1), .map (some M)] v6 = x := ⟨_, rfl⟩
            rw [hV7e] at hS kF
            have hbF := hide (hB3.out.trans (hS.below (B := w.heap.size) (by omega)))
            have hV7 := hide (hV3.out.put hS (hBk.out _ hbF.out) (by have := hWs.out; omega) (by have := hWs.out; omega))
            have hK7 := hide (hK3.out.blk (hS.block M fun e => blk_nmap hK3.out.map kR3.out e.symm))
            replace kF := hide kF
            simp only [putCells] at hV7e
            replace hV7e := hide hV7e
            have x0 : v6.cell? ⟨w.heap.size + 1 + 1, 0, none⟩ = some (.slice none 0 0) := kR3.out.cell 0
            have x1 : v6.cell? ⟨w.heap.size + 1 + 1, 1, none⟩ = some (.slice none 0 0) := kR3.out.cell 1
            have x2 : v6.cell? ⟨w.heap.size + 1 + 1, 2, none⟩ = some (.int .i64 0) := kR3.out.cell 2
            have x3 : v6.cell? ⟨w.heap.size + 1 + 1, 3, none⟩ = some (.int .i64 0) := kR3.out.cell 3
            have x4 : v6.cell? ⟨w.heap.size + 1 + 1, 4, none⟩ = some (.slice none 0 0) := kR3.out.cell 4
            have x5 : v6.cell? ⟨w.heap.size + 1 + 1, 5, none⟩ = some (.slice none 0 0) := kR3.out.cell 5
            have x6 : v6.cell? ⟨w.heap.size + 1 + 1, 6, none⟩ = some (.map none) := kR3.out.cell 6
            have y0 := kR3.out.frozen 0
            have y1 := kR3.out.frozen 1
            have y2 := kR3.out.frozen 2
            have y3 := kR3.out.frozen 3
            have y4 := kR3.out.frozen 4
            have y5 := kR3.out.frozen 5
            have y6 := kR3.out.frozen 6
            clear hS hV3 hK3 hib1 hib2 hck hc1 hc2 hc3 hBk
            go_wp2
            rw [hV7e.out]
            exact enter_end _ _ _ (w.heap.size + 1 + 1) 0 _ _ _ _ _ _ _ rfl rfl (kF.out.cell 0) (kF.out.cell 1) (kF.out.cell 2) (kF.out.cell 3) (kF.out.cell 4) (kF.out.cell 5) (kF.out.cell 6) ⟨hbF.out, gw, cg, gl, M, rfl, hV7.out, hK7.out, hgw2, hgl2, hM2, hcg1, hcg2⟩
end Go.Proofs.Ytnmgnonbgihalaa
