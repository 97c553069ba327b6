import Derived.Test.YtnmgnonbgihalaaPi
/-
  A view that is being built, in memory.
-/
namespace Go.Proofs.Ytnmgnonbgihalaa
open Go.RowKit Go.Shelf RG

def vwC (Q Wd : Option Addr) (cq cw : Nat) (B : Bank) (vk : Value) (gl M : Nat) : Array Value := #[.slice Q B.qs.length cq, .slice Wd B.wanted.length cw, .int .i64 B.lo, .int .i64 B.hi, vk, .slice (some ⟨gl, 0, none⟩) (B.qs.length + 1) (B.qs.length + 1), .map (some M)]
def vw0 : Array Value := #[.slice none 0 0, .slice none 0 0, .int .i64 0, .int .i64 0, .slice none 0 0, .slice none 0 0, .map none]
structure Opn (n0 : Nat) (W : World) (Q Wd : Option Addr) (cq cw : Nat) (B : Bank) (p gl M rs : Nat) (vk : Value) (ws : List Int) (f : Nat → Int) : Prop where
  row : RowAt W (fun g => g < n0) 3 1 vk (ws.map iCells)
  vw : Blk W p 85 (vwC Q Wd cq cw B vk gl M)
  lf : Blk W gl 107 (lfC ((B.qs.length + 1) * 4) f)
  mp : KnownM W M B 0
  res : Blk W rs 85 vw0
  ne : rs ≠ p
section
variable {n0 : Nat} {W W' : World} {Q Wd : Option Addr} {cq cw : Nat} {B : Bank} {p gl M rs : Nat} {vk v' : Value} {ws ws' : List Int} {f : Nat → Int}
theorem Opn.below (h : Opn n0 W Q Wd cq cw B p gl M rs vk ws f) (hb : Below W.heap.size W W') : Opn n0 W' Q Wd cq cw B p gl M rs vk ws f :=
  ⟨h.row.below hb, h.vw.below hb h.vw.lt, h.lf.below hb h.lf.lt, h.mp.below hb, h.res.below hb h.res.lt, h.ne⟩
theorem Opn.push (h : Opn n0 W Q Wd cq cw B p gl M rs vk ws f) (hk : KeptX (fun g => g < W.heap.size ∧ vk.ownBlock ≠ some g) W W') (hr : RowAt W' (fun g => g < n0) 3 1 v' (ws'.map iCells)) :
    Opn n0 (W'.setCell ⟨p, 4, none⟩ v') Q Wd cq cw B p gl M rs v' ws' f := by
  have k1 : Blk W' p 85 (vwC Q Wd cq cw B vk gl M) := (hk.block p ⟨h.vw.lt, h.row.nblk h.vw (by decide)⟩).trans h.vw
  have k2 : Blk W' gl 107 (lfC ((B.qs.length + 1) * 4) f) := (hk.block gl ⟨h.lf.lt, h.row.nblk h.lf (by decide)⟩).trans h.lf
  have k3 : KnownM W' M B 0 := h.mp.blk (hk.block M ⟨h.mp.lt, h.row.nmap h.mp.map⟩)
  have k4 : Blk W' rs 85 vw0 := (hk.block rs ⟨h.res.lt, h.row.nblk h.res (by decide)⟩).trans h.res
  refine ⟨hr.far (hr.nblk k1 (by decide)) _, k1.set_ 4 v', k2.far (Blk.ne_ k2 k1 (by decide)) _, k3.blk (Below.heap_setCell _ _ _ _ (fun e => blk_nmap k3.map k1 (by rw [e]))), k4.far h.ne _, h.ne⟩
theorem Opn.mid (h : Opn n0 W Q Wd cq cw B p gl M rs vk ws f) (hk : KeptX (fun g => g < W.heap.size ∧ vk.ownBlock ≠ some g) W W') : Blk W' p 85 (vwC Q Wd cq cw B vk gl M) := (hk.block p ⟨h.vw.lt, h.row.nblk h.vw (by decide)⟩).trans h.vw
theorem Opn.kept (h : Opn n0 W Q Wd cq cw B p gl M rs vk ws f) (hn : n0 ≤ W.heap.size) (hk : KeptX (fun g => g < W.heap.size ∧ vk.ownBlock ≠ some g) W W') : Below n0 W W' := KeptX.below (hk.mono fun g hg => ⟨Nat.lt_of_lt_of_le hg hn, fun e => h.row.not g e hg⟩)
theorem Opn.cell (h : Opn n0 W Q Wd cq cw B p gl M rs vk ws f) : W.cell? ⟨p, 0, none⟩ = some (.slice Q B.qs.length cq) ∧ W.cell? ⟨p, 1, none⟩ = some (.slice Wd B.wanted.length cw) ∧ W.cell? ⟨p, 2, none⟩ = some (.int .i64 B.lo) ∧ W.cell? ⟨p, 3, none⟩ = some (.int .i64 B.hi) ∧ W.cell? ⟨p, 4, none⟩ = some vk ∧
    W.cell? ⟨p, 5, none⟩ = some (.slice (some ⟨gl, 0, none⟩) (B.qs.length + 1) (B.qs.length + 1)) ∧ W.cell? ⟨p, 6, none⟩ = some (.map (some M)) :=
  ⟨h.vw.cell 0, h.vw.cell 1, h.vw.cell 2, h.vw.cell 3, h.vw.cell 4, h.vw.cell 5, h.vw.cell 6⟩
end
theorem Stored.drew_ {g : Nat} {W W' : World} (hs : Stored g W W') : Stored g W W'.drew := ⟨hs.os, hs.tape, hs.output, hs.size, hs.block⟩
theorem Stored.others {g : Nat} {t : TypeId} {cs : Array Value} {W W' : World} (hs : Stored g W W') (hb : Blk W g t cs) : KeepsOthers W W' := ⟨by rw [hs.size]; exact Nat.le_refl _, fun k o hk ho => by
  by_cases e : k = g
  · subst e
    unfold Blk at hb
    rw [hb] at hk
    cases hk
    cases ho
  · exact (hs.block k e).trans hk⟩
section
variable {n0 N : Nat} {W W' : World} {Q Wd : Option Addr} {cq cw : Nat} {B : Bank} {p gl M rs : Nat} {vk : Value} {ws : List Int} {f f' : Nat → Int}
theorem Opn.put (h : Opn n0 W Q Wd cq cw B p gl M rs vk ws f) (hs : Stored gl W W') (hl : Blk W' gl 107 (lfC ((B.qs.length + 1) * 4) f')) : Opn n0 W' Q Wd cq cw B p gl M rs vk ws f' :=
  ⟨h.row.kept (Y := fun g => g ≠ gl) ⟨hs.os, hs.tape, hs.output, by rw [hs.size]; exact Nat.le_refl _, fun g hg => hs.block g hg⟩ (fun g hg e => h.row.nblk h.lf (by decide) (by rw [hg, e])), h.vw.stored hs (Blk.ne_ h.vw h.lf (by decide)), hl, h.mp.blk (hs.block M fun e => blk_nmap h.mp.map h.lf e.symm), h.res.stored hs (Blk.ne_ h.res h.lf (by decide)), h.ne⟩
/-- All of it lies below N. -/
structure OpnLt (N p gl M rs : Nat) (vk : Value) : Prop where
  p : p < N
  gl : gl < N
  M : M < N
  rs : rs < N
  row : ∀ g, vk.ownBlock = some g → g < N
theorem Opn.lt (h : Opn n0 W Q Wd cq cw B p gl M rs vk ws f) : OpnLt W.heap.size p gl M rs vk := ⟨h.vw.lt, h.lf.lt, h.mp.lt, h.res.lt, fun _ hg => h.row.lt hg⟩
theorem Opn.stay (h : Opn n0 W Q Wd cq cw B p gl M rs vk ws f) (ht : OpnLt N p gl M rs vk) (hb : Below N W W') : Opn n0 W' Q Wd cq cw B p gl M rs vk ws f :=
  ⟨h.row.kept (Y := fun g => g < N) ⟨hb.os, hb.tape, hb.output, hb.size, fun g hg => hb.block g hg⟩ ht.row, h.vw.below hb ht.p, h.lf.below hb ht.gl, h.mp.blk (hb.block M ht.M), h.res.below hb ht.rs, h.ne⟩
/-- What is built at the end. -/
theorem Opn.view (h : Opn n0 W Q Wd cq cw B p gl M rs vk ((List.range B.qs.length).map (wAt B)) f) (ht : OpnLt N p gl M rs vk) (hL : LeftK B B.qs.length f) (hn : 1 ≤ B.qs.length) (hk : KeptX (fun g => g < N ∧ g ≠ rs) W W') (hb : BkR W' Q Wd B) :
    ∃ gw cg, vk = .slice (some ⟨gw, 0, none⟩) B.qs.length cg ∧ VwR W' Q Wd gw gl B ∧ KnownM W' M B 0 ∧ n0 ≤ gw ∧ B.qs.length ≤ cg ∧ cg ≤ maxLen := by
  have hr := h.row.kept hk (fun g hg => ⟨ht.row g hg, fun e => h.row.nblk h.res (by decide) (by rw [hg, e])⟩)
  have hm := h.mp.blk (hk.block M ⟨ht.M, fun e => blk_nmap h.mp.map h.res e.symm⟩)
  have hl : Blk W' gl 107 (lfC ((B.qs.length + 1) * 4) f) := (hk.block gl ⟨ht.gl, Blk.ne_ h.lf h.res (by decide)⟩).trans h.lf
  obtain ⟨-, ⟨-, e⟩ | ⟨g, cap, cur, e, hg, hbk, h1, h2, h3, h4⟩⟩ := hr
  · exfalso
    have := congrArg List.length e
    simp only [List.length_map, List.length_range, List.length_nil] at this
    omega
  simp only [List.length_map, List.length_range] at e h1 h4
  refine ⟨g, cap, e, ⟨hb.qs, hb.ws, fun k hk' => ?_, fun k q hk' hq => ?_, hbk.lt, hl.lt⟩, hm, Nat.le_of_not_lt hg, h1, h2⟩
  · rw [hbk.cell k]
    have h5 : (((List.range B.qs.length).map (wAt B)).map iCells).flatten[k]? = some (.int .i64 (wAt B k)) := by
      have := (flat_get (k := 1) (xs := ((List.range B.qs.length).map (wAt B)).map iCells) (fun y hy => by obtain ⟨z, _, rfl⟩ := List.mem_map.1 hy; rfl) (j := k) (i := 0) (v := .int .i64 (wAt B k)) (by
        rw [List.getElem?_map, List.getElem?_map, List.getElem?_range hk']
        rfl)).2.2
      simpa using this
    rw [← h4, List.getElem?_take_of_lt (by omega)] at h5
    simpa using h5
  · rw [lf_cell hl (by omega), hL k q (by omega) hk' hq]
end
/-- What a new row of what is left, a new map, a view of both are. -/
def NewLeft (N n : Nat) : Value → World → Prop := fun v W => ∃ g, v = .slice (some ⟨g, 0, none⟩) n n ∧ N ≤ g ∧ Blk W g 107 (lfC (n * 4) fun _ => 0)
theorem NewLeft.stb (N n : Nat) : Stb (NewLeft N n) := fun _ _ _ hb ⟨g, e, h1, h2⟩ => ⟨g, e, h1, h2.below hb h2.lt⟩
def NewMap (N : Nat) (B : Bank) : Value → World → Prop := fun v W => ∃ M, v = .map (some M) ∧ N ≤ M ∧ KnownM W M B 0
theorem NewMap.stb (N : Nat) (B : Bank) : Stb (NewMap N B) := fun _ _ _ hb ⟨g, e, h1, h2⟩ => ⟨g, e, h1, h2.below hb⟩
def NewView (N : Nat) (Q Wd : Option Addr) (cq cw : Nat) (B : Bank) : Value → World → Prop := fun v W => ∃ g M, v = .agg (vwC Q Wd cq cw B (.slice none 0 0) g M) ∧ N ≤ g ∧ N ≤ M ∧ Blk W g 107 (lfC ((B.qs.length + 1) * 4) fun _ => 0) ∧ KnownM W M B 0
theorem NewView.stb (N : Nat) (Q Wd : Option Addr) (cq cw : Nat) (B : Bank) : Stb (NewView N Q Wd cq cw B) := fun _ _ _ hb ⟨g, M, e, h0, h1, h2, h3⟩ => ⟨g, M, e, h0, h1, h2.below hb h2.lt, h3.below hb⟩
end Go.Proofs.Ytnmgnonbgihalaa

/-
  The view of a bank (made by gen_open.py).
-/
namespace Go.Proofs.Ytnmgnonbgihalaa
open Go.RowKit Go.Shelf RG
attribute [local go_sem] Oper.semAt_some

theorem open_end (tm : Array Value) (wf : World) (R : Ending → World → Prop) (q : Nat) (er : Int) (x0 x1 x2 x3 x4 x5 x6 : Value) (h2 : tm[2]? = some (.pointer (some ⟨q, 0, none⟩))) (h3 : tm[3]? = some (.int .i64 er)) (c0 : wf.cell? ⟨q, 0, none⟩ = some x0) (c1 : wf.cell? ⟨q, 1, none⟩ = some x1) (c2 : wf.cell? ⟨q, 2, none⟩ = some x2) (c3 : wf.cell? ⟨q, 3, none⟩ = some x3) (c4 : wf.cell? ⟨q, 4, none⟩ = some x4) (c5 : wf.cell? ⟨q, 5, none⟩ = some x5) (c6 : wf.cell? ⟨q, 6, none⟩ = some x6)
    (hR : R (.returned (.tuple #[.agg #[x0, x1, x2, x3, x4, x5, x6], .int .i64 er])) wf) : LeavesInM Fence.wide 9 Try.prog Try.f49 tm R [] .returning wf := by
  refine ⟨.tuple #[.agg #[x0, x1, x2, x3, x4, x5, x6], .int .i64 er], ?_, hR⟩
  simp [results, Try.results49, go_sem, h2, h3, c0, c1, c2, c3, c4, c5, c6]

set_option maxRecDepth 100000 in
set_option maxHeartbeats 4000000 in
theorem open_any (Q Wd : Option Addr) (cq cw : Nat) (B : Bank) (w : World) (h : BkR w Q Wd B) :
    Calls Try.prog 49 #[bkV Q Wd cq cw B] w fun e w' => Below w.heap.size w w' ∧ (((checkP B).2.2 ≠ 0 ∧ e = .returned (.tuple #[.agg vw0, .int .i64 (checkP B).2.2])) ∨
      ((checkP B).2.2 = 0 ∧ ∃ gw cg gl M, e = .returned (.tuple #[vwV Q Wd cq cw gw cg gl M B, .int .i64 0]) ∧ VwR w' Q Wd gw gl B ∧ KnownM w' M B 0 ∧ w.heap.size ≤ gw ∧ w.heap.size ≤ gl ∧ w.heap.size ≤ M ∧ B.qs.length ≤ cg ∧ cg ≤ maxLen)) := by
  have hBok := hide (bank_ok (B := B))
  have hCh := hide (fun W (hb : Below w.heap.size w W) => Check_any Q Wd cq cw B W (h.below hb))
  have hBk := hide (fun W (hb : Below w.heap.size w W) => h.below hb)
  clear h
  unfold bkV at *
  obtain ⟨c1, c2, c3⟩ : ∃ a b c, checkP B = (a, b, c) := ⟨_, _, _, rfl⟩
  generalize hck : checkP B = ck at *
  obtain ⟨ck1, ck2, ck3⟩ := ck
  simp only at hCh hBok ⊢
  replace hck := hide hck
  obtain ⟨W, hW⟩ : ∃ y, (w.alloc (.cells #[.slice Q B.qs.length cq, .slice Wd B.wanted.length cw, .int .i64 B.lo, .int .i64 B.hi] 27)).alloc (.cells #[.slice none 0 0, .slice none 0 0, .int .i64 0, .int .i64 0, .slice none 0 0, .slice none 0 0, .map none] 85) = y := ⟨_, rfl⟩
  have bW0 := hide (show Blk W w.heap.size 27 #[.slice Q B.qs.length cq, .slice Wd B.wanted.length cw, .int .i64 B.lo, .int .i64 B.hi] by rw [← hW]; exact (blkNew rfl).alloc _)
  have bW1 := hide (show Blk W (w.heap.size + 1) 85 #[.slice none 0 0, .slice none 0 0, .int .i64 0, .int .i64 0, .slice none 0 0, .slice none 0 0, .map none] by rw [← hW]; exact blkNew (by simp))
  have hBW := hide (show Below w.heap.size w W by rw [← hW]; exact ((Below.refl _ _).alloc (Nat.le_refl _) _).alloc (by simp <;> omega) _)
  replace hW := hide hW
  have r0 : W.cell? ⟨w.heap.size, 0, none⟩ = some (.slice Q B.qs.length cq) := bW0.out.cell 0
  have r1 : W.cell? ⟨w.heap.size, 1, none⟩ = some (.slice Wd B.wanted.length cw) := bW0.out.cell 1
  have r2 : W.cell? ⟨w.heap.size, 2, none⟩ = some (.int .i64 B.lo) := bW0.out.cell 2
  have r3 : W.cell? ⟨w.heap.size, 3, none⟩ = some (.int .i64 B.hi) := bW0.out.cell 3
  refine (callsIn_wide (n := 9)).1 ?_
  refine callsIn_of_wp_marks Try.func49 rfl trivial ?_ rfl
  simp only [Try.ntmps49, List.size_toArray, List.length_cons, List.length_nil, Nat.reduceAdd, Nat.reduceSub, Array.replicate_succ, Array.replicate_zero, List.push_toArray, List.append_toArray, List.nil_append, List.cons_append]
  refine wpIn_wide.2 ?_
  go_upto_region 1 with fail
  rw [hW.out]
  go_wp2_with fail
  refine (hCh.out W hBW.out).mono ?_
  rintro e w2 ⟨rfl, hb⟩
  have kb := hide (bW0.out.below hb bW0.out.lt)
  have kv := hide (bW1.out.below hb bW1.out.lt)
  have hB := hide (hBW.out.trans (hb.mono hBW.out.size))
  clear hb r0 r1 r2 r3 hCh
  by_cases h1 : ck3 ≠ 0
  · have b1 : (ck3 != 0) = true := by rw [bne_iff_ne]; exact h1
    replace h1 := hide h1
    have s0 : w2.cell? ⟨w.heap.size + 1, 0, none⟩ = some (.slice none 0 0) := kv.out.cell 0
    have s1 : w2.cell? ⟨w.heap.size + 1, 1, none⟩ = some (.slice none 0 0) := kv.out.cell 1
    have s2 : w2.cell? ⟨w.heap.size + 1, 2, none⟩ = some (.int .i64 0) := kv.out.cell 2
    have s3 : w2.cell? ⟨w.heap.size + 1, 3, none⟩ = some (.int .i64 0) := kv.out.cell 3
    have s4 : w2.cell? ⟨w.heap.size + 1, 4, none⟩ = some (.slice none 0 0) := kv.out.cell 4
    have s5 : w2.cell? ⟨w.heap.size + 1, 5, none⟩ = some (.slice none 0 0) := kv.out.cell 5
    have s6 : w2.cell? ⟨w.heap.size + 1, 6, none⟩ = some (.map none) := kv.out.cell 6
    have z0 := kv.out.frozen 0
    have z1 := kv.out.frozen 1
    have z2 := kv.out.frozen 2
    have z3 := kv.out.frozen 3
    have z4 := kv.out.frozen 4
    have z5 := kv.out.frozen 5
    have z6 := kv.out.frozen 6
    have m7 := hide (((((((kv.out.set_ 0 (.slice none 0 0)).set_ 1 (.slice none 0 0)).set_ 2 (.int .i64 0)).set_ 3 (.int .i64 0)).set_ 4 (.slice none 0 0)).set_ 5 (.slice none 0 0)).set_ 6 (.map none))
    have hb7 := hide (show Below w.heap.size w (((((((w2.setCell ⟨w.heap.size + 1, 0, none⟩ (.slice none 0 0)).setCell ⟨w.heap.size + 1, 1, none⟩ (.slice none 0 0)).setCell ⟨w.heap.size + 1, 2, none⟩ (.int .i64 0)).setCell ⟨w.heap.size + 1, 3, none⟩ (.int .i64 0)).setCell ⟨w.heap.size + 1, 4, none⟩ (.slice none 0 0)).setCell ⟨w.heap.size + 1, 5, none⟩ (.slice none 0 0)).setCell ⟨w.heap.size + 1, 6, none⟩ (.map none)) by
      iterate 7 (refine Below.setCell ?_ (by simp <;> omega) _)
      exact hB.out)
    go_wp2
    exact open_end _ _ _ (w.heap.size + 1) ck3 _ _ _ _ _ _ _ rfl rfl (m7.out.cell 0) (m7.out.cell 1) (m7.out.cell 2) (m7.out.cell 3) (m7.out.cell 4) (m7.out.cell 5) (m7.out.cell 6) ⟨hb7.out, .inl ⟨h1.out, rfl⟩⟩
  · obtain rfl : ck3 = 0 := by simpa using h1
    clear h1
    have hOk := hBok.out rfl
    have hnq := hOk.nq
    replace hOk := hide hOk
    have r0 : w2.cell? ⟨w.heap.size, 0, none⟩ = some (.slice Q B.qs.length cq) := kb.out.cell 0
    have r1 : w2.cell? ⟨w.heap.size, 1, none⟩ = some (.slice Wd B.wanted.length cw) := kb.out.cell 1
    have r2 : w2.cell? ⟨w.heap.size, 2, none⟩ = some (.int .i64 B.lo) := kb.out.cell 2
    have r3 : w2.cell? ⟨w.heap.size, 3, none⟩ = some (.int .i64 B.hi) := kb.out.cell 3
    have hwr : IntKind.i64.wrap ((B.qs.length : Int) + 1) = (B.qs.length : Int) + 1 := by rw [IntKind.wrap_i64]; omega
    go_wp2
    clear r0 r1 r2 r3
    refine region_grow_tail 9 [IsV (.agg #[.slice Q B.qs.length cq, .slice Wd B.wanted.length cw, .int .i64 B.lo, .int .i64 B.hi]), IsV (.pointer (some ⟨w.heap.size, 0, none⟩)), IsV (.slice Q B.qs.length cq), IsV (.int .i64 (B.qs.length : Int)), IsV (.int .i64 ((B.qs.length : Int) + 1)), NewLeft w2.heap.size (B.qs.length + 1), NewMap w2.heap.size B, NewView w2.heap.size Q Wd cq cw B, PtrB w2.heap.size 85 vw0] (by kernel_rfl) (by kernel_rfl) rfl ?_ ?_ ?_
    · simp [AllStb, IsV.stb, NewLeft.stb, NewMap.stb, NewView.stb, PtrB.stb]
    · refine ⟨?_, ?_, ?_, ?_, ?_, ?_, ?_, ?_, ?_, trivial⟩
      all_goals
        intro y w6 K Qq Cv hC hd hV
        have k6 := kb.out.below hC kb.out.lt
        have hz6 := hC.size
        have q0 : w6.cell? ⟨w.heap.size, 0, none⟩ = some (.slice Q B.qs.length cq) := k6.cell 0
        have q1 : w6.cell? ⟨w.heap.size, 1, none⟩ = some (.slice Wd B.wanted.length cw) := k6.cell 1
        have q2 : w6.cell? ⟨w.heap.size, 2, none⟩ = some (.int .i64 B.lo) := k6.cell 2
        have q3 : w6.cell? ⟨w.heap.size, 3, none⟩ = some (.int .i64 B.hi) := k6.cell 3
      · clear hd; simp only [List.take_succ_cons, List.take_zero, putAll, Act.put]; go_simp; intro hK; exact hK _ _ (hV _ _ hC (Below.refl _ _) rfl)
      · clear hd; simp only [List.take_succ_cons, List.take_zero, putAll, Act.put]; go_simp; intro hK; exact hK _ _ (hV _ _ hC (Below.refl _ _) rfl)
      · simp [deps, VL, IsV, Region.binds] at hd; simp only [List.take_succ_cons, List.take_zero, putAll, Act.put]; go_simp; intro hK; exact hK _ _ (hV _ _ hC (Below.refl _ _) rfl)
      · simp [deps, VL, IsV, Region.binds] at hd; simp only [List.take_succ_cons, List.take_zero, putAll, Act.put]; go_simp; intro hK; exact hK _ _ (hV _ _ hC (Below.refl _ _) rfl)
      · simp [deps, VL, IsV, Region.binds] at hd; simp only [List.take_succ_cons, List.take_zero, putAll, Act.put]; go_simp; intro hK; exact hK _ _ (hV _ _ hC (Below.refl _ _) rfl)
      · simp [deps, VL, IsV, Region.binds] at hd; have hm : (Instr.makeSlice 82 (.int .i64 ((B.qs.length : Int) + 1)) (.int .i64 ((B.qs.length : Int) + 1))).run Try.prog w6 = _ := mk_left (B.qs.length + 1) (by omega) w6; simp only [List.take_succ_cons, List.take_zero, putAll, Act.put]; go_simp; intro hK; exact hK _ _ (hV _ _ (hC.alloc hC.size _) ((Below.refl _ _).alloc (Nat.le_refl _) _) ⟨_, rfl, hz6, blkNew rfl⟩)
      · clear hd; have hmk : (Instr.makeMap 83 none).run Try.prog w6 = .ok (.map (some w6.heap.size)) (w6.alloc (.map #[] 0)) := rfl; simp only [List.take_succ_cons, List.take_zero, putAll, Act.put]; go_simp; intro hK; exact hK _ _ (hV _ _ (hC.alloc hC.size _) ((Below.refl _ _).alloc (Nat.le_refl _) _) ⟨_, rfl, hz6, knownM_new w6 B⟩)
      · simp [deps, VL, IsV, Region.binds] at hd; obtain ⟨d0, ⟨g, d5, g1, g2⟩, ⟨M, d6, m1, m2⟩⟩ := hd; simp only [List.take_succ_cons, List.take_zero, putAll, Act.put]; go_simp; intro hK; exact hK _ _ (hV _ _ hC (Below.refl _ _) ⟨g, M, rfl, g1, m1, g2, m2⟩)
      · clear hd; simp only [List.take_succ_cons, List.take_zero, putAll, Act.put]; go_simp; intro hK; exact hK _ _ (hV _ _ (hC.alloc hC.size _) ((Below.refl _ _).alloc (Nat.le_refl _) _) ⟨_, rfl, hz6, blkNew rfl⟩)
    intro y w6 hC hd
    simp [EndsL, IsV] at hd
    obtain ⟨d0, d1, d2, d3, d4, ⟨g5, d5, -⟩, ⟨m6, d6, -⟩, ⟨gl, M, d7, hgl, hM, kgl, kM⟩, ⟨p, d8, hp, kp⟩⟩ := hd
    have hB6 := hide (hB.out.trans (hC.mono hB.out.size))
    have kv6 := hide (kv.out.below hC kv.out.lt)
    have hrp : w.heap.size + 1 ≠ p := by have := kv.out.lt; omega
    obtain ⟨hst, kp7⟩ := stored_put kp (vwC Q Wd cq cw B (.slice none 0 0) gl M).toList rfl
    obtain ⟨w7, hw7⟩ : ∃ x, putCells p 0 (vwC Q Wd cq cw B (.slice none 0 0) gl M).toList w6 = x := ⟨_, rfl⟩
    rw [hw7] at hst kp7
    have ho7 := hide (show Opn w.heap.size w7 Q Wd cq cw B p gl M (w.heap.size + 1) (.slice none 0 0) [] (fun _ => 0) from
      ⟨rowAt_nil _ _ _ _, kp7, kgl.stored hst (Blk.ne_ kgl kp (by decide)), kM.blk (hst.block M fun e => blk_nmap kM.map kp e.symm), kv6.out.stored hst hrp, hrp⟩)
    have hB7 := hide (hB6.out.trans (hst.below (Nat.le_trans hB.out.size hp)))
    have e0 : w6.cell? ⟨p, 0, none⟩ = some (.slice none 0 0) := kp.cell 0
    have e1 : w6.cell? ⟨p, 1, none⟩ = some (.slice none 0 0) := kp.cell 1
    have e2 : w6.cell? ⟨p, 2, none⟩ = some (.int .i64 0) := kp.cell 2
    have e3 : w6.cell? ⟨p, 3, none⟩ = some (.int .i64 0) := kp.cell 3
    have e4 : w6.cell? ⟨p, 4, none⟩ = some (.slice none 0 0) := kp.cell 4
    have e5 : w6.cell? ⟨p, 5, none⟩ = some (.slice none 0 0) := kp.cell 5
    have e6 : w6.cell? ⟨p, 6, none⟩ = some (.map none) := kp.cell 6
    have f0 := kp.frozen 0
    have f1 := kp.frozen 1
    have f2 := kp.frozen 2
    have f3 := kp.frozen 3
    have f4 := kp.frozen 4
    have f5 := kp.frozen 5
    have f6 := kp.frozen 6
    have hp7 := hide (Nat.le_trans hB.out.size hp)
    have hg7 := hide (Nat.le_trans hB.out.size hgl)
    have hm7 := hide (Nat.le_trans hB.out.size hM)
    unfold vwC at *
    simp only [putCells] at hw7
    replace hw7 := hide hw7
    replace hrp := hide hrp
    clear hst kp7 kp kgl kM kv6 hB6 hC kb kv hp hgl hM
    simp only [List.take_succ_cons, List.take_zero, List.drop_succ_cons, List.drop_zero, putAll, Act.put]
    rw [d0, d1, d2, d3, d4, d5, d6, d7, d8]
    clear d0 d1 d2 d3 d4 d5 d6 d7 d8
    simp only [List.setIfInBounds_toArray, List.set_cons_succ, List.set_cons_zero]
    go_upto_region 5 with fail
    rw [hw7.out]
    clear e0 e1 e2 e3 e4 e5 e6 f0 f1 f2 f3 f4 f5 f6 hw7
    have hqr := (hBk.out w (Below.refl _ _)).qs
    obtain ⟨bq, oq, -, -, -, rfl, -⟩ := hqr.cells3 (j := 0) (by omega)
    clear hqr
    have hcell := hide (fun V (hb : Below w.heap.size w V) (j : Nat) (hj : j < B.qs.length) => show V.cell? ⟨bq, oq + j * 3, none⟩ = some (.int .i64 (B.qs[j]?.getD default).part) ∧ V.cell? ⟨bq, oq + j * 3 + 1, none⟩ = some (.int .i64 (B.qs[j]?.getD default).asked) ∧ V.cell? ⟨bq, oq + j * 3 + 2, none⟩ = some (.int .i64 (B.qs[j]?.getD default).wrong) from by
      obtain ⟨b', o', x0, x1, x2, e', -, hx, k0, k1, k2⟩ := (hBk.out V hb).qs.cells3 hj
      rw [map_at qCells _ _ hj] at hx
      cases e'
      cases hx
      exact ⟨k0, k1, k2⟩)
    have hqb := hide (fun (j : Nat) (hj : j < B.qs.length) => show (0 ≤ (B.qs[j]?.getD default).asked ∧ (B.qs[j]?.getD default).asked ≤ 100000) ∧ 0 ≤ (B.qs[j]?.getD default).wrong ∧ (B.qs[j]?.getD default).wrong ≤ (B.qs[j]?.getD default).asked from by
      have h9 := hOk.out.qs _ (List.getElem_mem hj)
      rw [List.getElem?_eq_getElem hj, Option.getD_some]
      exact ⟨h9.2.1, h9.2.2⟩)
    have c0 : w7.cell? ⟨p, 0, none⟩ = some (.slice (some ⟨bq, oq, none⟩) B.qs.length cq) := ho7.out.cell.1
    obtain ⟨n, hn⟩ : ∃ n, B.qs.length = n := ⟨_, rfl⟩
    rw [hn] at hnq hcell hqb c0
    replace hn := hide hn
    go_wp2
    clear c0
    go_loopg [34] (n + 1) (fun gg s34 wr => ∃ (j : Nat) (vk : Value), j ≤ n ∧ n < gg + j ∧ s34 = .int .i64 j ∧ Hid (Opn w.heap.size wr (some ⟨bq, oq, none⟩) Wd cq cw B p gl M (w.heap.size + 1) vk ((List.range j).map (wAt B)) (fun _ => 0)) ∧ Hid (Below w.heap.size w wr))
    case atStart => exact ⟨0, _, Nat.zero_le _, by omega, rfl, ho7.out, hB7.out⟩
    case round =>
      obtain ⟨j, vk, hj, hgg, rfl, ho, hBr⟩ := hrel
      by_cases hlt : j < n
      · have hltz : (j : Int) < (n : Int) := by omega
        obtain ⟨k0, k1, k2⟩ := hcell.out wr hBr.out j hlt
        have hqj := hqb.out j hlt
        have hrg : (List.range (j + 1)).map (wAt B) = (List.range j).map (wAt B) ++ [wAt B j] := by rw [List.range_succ, List.map_append]; rfl
        have hwj : wAt B j = weight (B.qs[j]?.getD default) := rfl
        generalize B.qs[j]?.getD default = q at *
        obtain ⟨qp, qa, qw⟩ := q
        have hcl0 := fun W => weight_any ⟨qp, qa, qw⟩ W hqj.1 hqj.2
        simp only [qCells] at hcl0 k0 k1 k2
        rw [← hwj] at hcl0
        generalize wAt B j = wt at *
        clear hwj hqj
        obtain ⟨w6, hw6⟩ : ∃ y, wr.alloc (.cells #[.int .i64 qp, .int .i64 qa, .int .i64 qw] 61) = y := ⟨_, rfl⟩
        have hB6 : Below w.heap.size w w6 := by rw [← hw6]; exact hBr.out.alloc hBr.out.size _
        have kq6 : Blk w6 wr.heap.size 61 #[.int .i64 qp, .int .i64 qa, .int .i64 qw] := by rw [← hw6]; exact blkNew rfl
        have ho6 := ho.out.below ((Below.refl wr.heap.size wr).alloc (Nat.le_refl _) (.cells #[.int .i64 qp, .int .i64 qa, .int .i64 qw] 61))
        rw [hw6] at ho6
        have hcl := hide (hcl0 w6.drew)
        obtain ⟨wc, hwc⟩ : ∃ y, w6.drew.alloc (.cells #[.int .i64 qp, .int .i64 qa, .int .i64 qw] 61) = y := ⟨_, rfl⟩
        have hdc : Below w6.heap.size w6 wc := by rw [← hwc]; exact (Below.refl _ _).drew.alloc (Nat.le_refl _) _
        have hoc := ho6.below hdc
        have hBc := hB6.trans (hdc.mono hB6.size)
        obtain ⟨v8, w8, hrun, hrow8, hk8⟩ := app_one hoc.row hBc.size (by simp; omega) wt
        rw [← hrg] at hrow8
        obtain ⟨A8, n8, l8, rfl⟩ := hrow8.shape
        have hfin := hide (hoc.push hk8 hrow8)
        have k8 := hoc.mid hk8
        have hBF := hide (show Below w.heap.size w (w8.setCell ⟨p, 4, none⟩ (.slice A8 n8 l8)) from (hBc.trans (hoc.kept hBc.size hk8)).setCell (p := ⟨p, 4, none⟩) hp7.out _)
        obtain ⟨wa, hwa⟩ : ∃ y, wc.alloc (.cells #[.int .i64 wt] 3) = y := ⟨_, rfl⟩
        rw [hwa] at hrun
        have hoa := hoc.below ((Below.refl wc.heap.size wc).alloc (Nat.le_refl _) (.cells #[.int .i64 wt] 3))
        rw [hwa] at hoa
        have hc8 : w8.cell? ⟨p, 4, none⟩ = some vk := k8.cell 4
        have hz8 : w8.frozen? ⟨p, 4, none⟩ = false := k8.frozen 4
        have hpc := hide (show ∀ jj, jj ≤ 2 → (wsC w6.drew [wc, wa, w8, w8.setCell ⟨p, 4, none⟩ (.slice A8 n8 l8)] jj).cell? ⟨p, 4, none⟩ = some vk from by
          intro jj hj
          rcases (show jj = 0 ∨ jj = 1 ∨ jj = 2 by omega) with rfl | rfl | rfl
          · exact ho6.cell.2.2.2.2.1
          · exact hoc.cell.2.2.2.2.1
          · exact hoa.cell.2.2.2.2.1)
        have hqc := hide (show ∀ jj, jj ≤ 0 → (wsC w6.drew [wc, wa, w8, w8.setCell ⟨p, 4, none⟩ (.slice A8 n8 l8)] jj).cell? ⟨wr.heap.size, 0, none⟩ = some (.int .i64 qp) ∧ (wsC w6.drew [wc, wa, w8, w8.setCell ⟨p, 4, none⟩ (.slice A8 n8 l8)] jj).cell? ⟨wr.heap.size, 1, none⟩ = some (.int .i64 qa) ∧ (wsC w6.drew [wc, wa, w8, w8.setCell ⟨p, 4, none⟩ (.slice A8 n8 l8)] jj).cell? ⟨wr.heap.size, 2, none⟩ = some (.int .i64 qw) from by
          intro jj hj
          obtain rfl : jj = 0 := by omega
          exact ⟨kq6.cell 0, kq6.cell 1, kq6.cell 2⟩)
        replace hrun := hide hrun
        replace hwa := hide hwa
        replace hwc := hide hwc
        replace hw6 := hide hw6
        clear hcl0 hrg hB6 kq6 ho6 hdc hoc hBc hrow8 hk8 k8 hoa ho hBr
        go_upto_region 8 with fail
        rw [hw6.out]
        clear k0 k1 k2 hw6
        refine region_chain [3, 4, 5, 7] [.pointer (some ⟨p, 4, none⟩), vk, .agg #[.int .i64 qp, .int .i64 qa, .int .i64 qw], .int .i64 wt, .slice (some ⟨wc.heap.size, 0, none⟩) 1 1, .slice A8 n8 l8, .pointer (some ⟨p, 4, none⟩), undef] (wsC w6.drew [wc, wa, w8, w8.setCell ⟨p, 4, none⟩ (.slice A8 n8 l8)]) (by kernel_rfl) (by kernel_rfl) (by kernel_rfl) (by kernel_rfl) rfl ?_ ?_
        · refine ⟨?_, ?_, ?_, ?_, ?_, ?_, ?_, ?_, trivial⟩
          · refine oneC_still 4 (by kernel_rfl) (by kernel_rfl) ?_
            intro y jj K Q hd hj hK
            generalize wsC w6.drew [wc, wa, w8, w8.setCell ⟨p, 4, none⟩ (.slice A8 n8 l8)] jj = W at *
            clear hd
            revert hK
            simp only [putAll, Act.put]
            go_simp
          · refine oneC_still 2 (by kernel_rfl) (by kernel_rfl) ?_
            intro y jj K Q hd hj hK
            have a2 := hpc.out jj (Nat.le_trans hj (by decide))
            generalize wsC w6.drew [wc, wa, w8, w8.setCell ⟨p, 4, none⟩ (.slice A8 n8 l8)] jj = W at *
            simp [depsC, Region.binds] at hd
            revert hK
            simp only [putAll, Act.put]
            go_simp
          · refine oneC_still 0 (by kernel_rfl) (by kernel_rfl) ?_
            intro y jj K Q hd hj hK
            have u0 := (hqc.out jj hj).1
            have u1 := (hqc.out jj hj).2.1
            have u2 := (hqc.out jj hj).2.2
            generalize wsC w6.drew [wc, wa, w8, w8.setCell ⟨p, 4, none⟩ (.slice A8 n8 l8)] jj = W at *
            clear hd
            revert hK
            simp only [putAll, Act.put]
            go_simp
          · refine oneC_eff 0 rfl ?_
            intro y K Q hd hK
            simp [depsC, Region.binds] at hd
            revert hK
            simp only [wsC]
            simp only [putAll, Act.put]
            go_simp
            intro hK
            refine hcl.out.mono ?_
            rintro e w7 ⟨rfl, rfl⟩
            rw [hwc.out]
            exact hK
          · refine oneC_eff 1 rfl ?_
            intro y K Q hd hK
            simp [depsC, Region.binds] at hd
            revert hK
            simp only [wsC, ← hwa.out]
            simp only [putAll, Act.put]
            go_simp
          · refine oneC_eff 2 rfl (eff_append rfl (.tmp 39) (.tmp 42) 23 rfl (vk) (.slice (some ⟨wc.heap.size, 0, none⟩) 1 1) ?_ ?_ hrun.out)
            · intro y hd
              simp [depsC, Region.binds] at hd
              simp only [putAll, Act.put]
              go_simp
              try exact hd.1
            · intro y hd
              simp [depsC, Region.binds] at hd
              simp only [putAll, Act.put]
              go_simp
              try exact hd.2
          · refine oneC_still 4 (by kernel_rfl) (by kernel_rfl) ?_
            intro y jj K Q hd hj hK
            generalize wsC w6.drew [wc, wa, w8, w8.setCell ⟨p, 4, none⟩ (.slice A8 n8 l8)] jj = W at *
            simp [depsC, Region.binds] at hd
            revert hK
            simp only [putAll, Act.put]
            go_simp
          · refine oneC_eff 3 rfl ?_
            intro y K Q hd hK
            simp [depsC, Region.binds] at hd
            revert hK
            simp only [wsC]
            simp only [putAll, Act.put]
            go_simp
        · simp only [putAll, Act.put, wsC, List.length_cons, List.length_nil]
          simp only [List.setIfInBounds_toArray, List.set_cons_succ, List.set_cons_zero, List.getD_cons_zero, List.getD_cons_succ]
          clear hc8 hz8 hrun hwa hwc hpc hqc hcl
          go_wp2
          go_roundg (n - j)
          case measure => omega
          case rel => exact ⟨j + 1, _, by omega, by omega, by go_num, hfin.out, hBF.out⟩
      · obtain rfl : j = n := by omega
        have hltz : ¬ (j : Int) < (j : Int) := by omega
        have c0 : wr.cell? ⟨p, 0, none⟩ = some (.slice (some ⟨bq, oq, none⟩) j cq) := by rw [← hn.out]; exact ho.out.cell.1
        go_wp2_with fail
        refine (backward_any _ _ _ _).mono ?_
        rintro e w9 ⟨rfl, hw9⟩
        have ho9 := ho.out.below (show Below wr.heap.size wr w9 by rw [hw9]; exact (Below.refl _ _).alloc (Nat.le_refl _) _)
        have hB9 := hide (show Below w.heap.size w w9 by rw [hw9]; exact hBr.out.alloc hBr.out.size _)
        have kc9 : Blk w9 wr.heap.size 22 #[.slice (some ⟨bq, oq, none⟩) j cq] := by rw [hw9]; exact blkNew rfl
        have hlt9 := hide ho9.lt
        have hcp9 := kc9.lt
        have hcgl : wr.heap.size ≠ gl := Blk.ne_ kc9 ho9.lf (by decide)
        replace ho9 := hide ho9
        replace kc9 := hide kc9
        replace hw9 := hide hw9
        clear c0 hltz ho hBr ho7 hB7 hcell hqb hBW hB bW0 bW1
        try clear hW
        go_wp2
        refine (wpIn_wide (n := 9)).1 ?_
        refine range_own (gf := 86) (lb := #[.pointer (some ⟨wr.heap.size, 0, none⟩)]) (encs := encQ) rfl enters_back
          (back_seq (9 - 1) wr.heap.size cq (some ⟨bq, oq, none⟩) B w9 (by have := hn.out; omega)) (fun _ => rfl)
          (fun pre V => (∃ f, Opn w.heap.size V (some ⟨bq, oq, none⟩) Wd cq cw B p gl M (w.heap.size + 1) vk ((List.range j).map (wAt B)) f ∧ LeftK B pre.length f) ∧ Below w.heap.size w V ∧ Blk V wr.heap.size 22 #[.slice (some ⟨bq, oq, none⟩) j cq] ∧ w9.heap.size ≤ V.heap.size) (fun _ _ _ => False)
          (fun s V h => h.2.2.2) (fun s V h => ⟨by rw [hn.out]; exact h.2.2.1.cell 0, (hBk.out V h.2.1).qs⟩) (fun s V V' h hb => by
            obtain ⟨⟨f, h1, h2⟩, h3, h4, h5⟩ := h
            exact ⟨⟨f, h1.stay hlt9.out hb, h2⟩, h3.trans (hb.mono hB9.out.size), h4.below hb hcp9, Nat.le_trans h5 hb.size⟩) (fun c => fun _ _ _ _ h => h.elim) ⟨⟨_, ho9.out, leftK_zero B⟩, hB9.out, kc9.out, Nat.le_refl _⟩
          (fun x V => V.alloc (.cells (qCells x.2).toArray 61)) (fun x V => (Below.refl _ _).alloc (Nat.le_refl _) _)
          (fun x V => { tmps := #[Value.agg #[Value.slice (some ⟨bq, oq, none⟩) B.qs.length cq, Value.slice Wd B.wanted.length cw, Value.int IntKind.i64 B.lo, Value.int IntKind.i64 B.hi], Value.pointer (some ⟨w.heap.size, 0, none⟩), Value.pointer (some ⟨w.heap.size + 1, 0, none⟩), Value.int IntKind.i64 0, Value.int IntKind.i64 ck1, Value.int IntKind.i64 ck2, Value.int IntKind.i64 0, Value.pointer (some ⟨p, 0, none⟩), undef, u9, .int .i64 x.1, .pointer (some ⟨V.heap.size, 0, none⟩), Value.tuple #[Value.int IntKind.i64 ck1, Value.int IntKind.i64 ck2, Value.int IntKind.i64 0], Value.agg #[Value.slice (some ⟨bq, oq, none⟩) B.qs.length cq, Value.slice Wd B.wanted.length cw, Value.int IntKind.i64 B.lo, Value.int IntKind.i64 B.hi], Value.tuple #[Value.int IntKind.i64 ck1, Value.int IntKind.i64 ck2, Value.int IntKind.i64 0], Value.int IntKind.i64 ck1, Value.int IntKind.i64 ck2, Value.int IntKind.i64 0, Value.int IntKind.i64 0, Value.bool false, undef, undef, Value.agg #[Value.slice (some ⟨bq, oq, none⟩) B.qs.length cq, Value.slice Wd B.wanted.length cw, Value.int IntKind.i64 B.lo, Value.int IntKind.i64 B.hi], Value.pointer (some ⟨w.heap.size, 0, none⟩), Value.slice (some ⟨bq, oq, none⟩) B.qs.length cq, Value.int IntKind.i64 (B.qs.length : Int), Value.int IntKind.i64 ((B.qs.length : Int) + 1), Value.slice (some ⟨g5, 0, none⟩) (B.qs.length + 1) (B.qs.length + 1), Value.map (some m6), Value.agg #[Value.slice (some ⟨bq, oq, none⟩) B.qs.length cq, Value.slice Wd B.wanted.length cw, Value.int IntKind.i64 B.lo, Value.int IntKind.i64 B.hi, Value.slice none 0 0, Value.slice (some ⟨gl, 0, none⟩) (B.qs.length + 1) (B.qs.length + 1), Value.map (some M)], Value.pointer (some ⟨p, 0, none⟩), Value.pointer (some ⟨p, 0, none⟩), Value.slice (some ⟨bq, oq, none⟩) j cq, Value.int IntKind.i64 (j : Int), Value.int IntKind.i64 (j : Int), Value.bool false, u36, u37, u38, u39, u40, u41, u42, u43, u44, u45, Value.pointer (some ⟨p, 0, none⟩), Value.pointer (some ⟨p, 0, none⟩), Value.slice (some ⟨bq, oq, none⟩) j cq, Value.func (Fn.func 86) #[] #[Value.pointer (some ⟨wr.heap.size, 0, none⟩)], .int .i64 x.1, .agg (qCells x.2).toArray, undef, undef, undef, undef, undef, undef, undef, undef, undef, undef, undef, undef, undef, undef, undef, undef, undef, undef, undef, undef, undef, undef], defers := [] }) ?assign ?body ?done ?stop
        case assign =>
          rintro l ⟨x1, ⟨qp, qa, qw⟩⟩ V K hK
          unfold qCells at hK
          simp only [encQ, qCells]
          gi_wp2
          exact hK
        case body =>
          rintro l pre ⟨xi, ⟨qp, qa, qw⟩⟩ W0 V ⟨-, -, -, hs0⟩ ⟨⟨f, hoV, hLf⟩, hBV, kcV, hsV⟩ ⟨jj, hjj, rfl, hx⟩ hk
          rw [bk_len] at hLf
          rw [hn.out] at hjj hx
          obtain ⟨i, hi⟩ : ∃ i, j - 1 - jj = i := ⟨_, rfl⟩
          rw [hi] at hx
          obtain ⟨rfl, hxq⟩ := Prod.ext_iff.1 hx
          simp only at hxq
          have hxi : xi < j := by omega
          have hpt := part_at hOk.out (k := xi) (by rw [hn.out]; exact hxi)
          rw [← hxq] at hpt
          simp only at hpt
          subst hpt
          have hp4 := part4 hOk.out xi
          have hstep := leftK_step (i := xi) (part0 hOk.out) (part4 hOk.out) (by rw [hn.out]; exact hi) (by rw [hn.out]; exact hjj) hLf
          have hleft := leftP_le B (xi + 1)
          have hrow1 : ∀ q, q < 4 → f ((xi + 1) * 4 + q) = leftP B (xi + 1) q := fun q hq => hLf (xi + 1) q (by have := hn.out; omega) (by have := hn.out; omega) hq
          generalize partAt B xi = pt at *
          have kx : Blk V W0.heap.size 61 #[.int .i64 (pt : Int), .int .i64 qa, .int .i64 qw] := hk.blk (Blk.new W0 _ _)
          have hm4 : (B.qs.length + 1) * 4 = (j + 1) * 4 := by rw [hn.out]
          have hLb : Blk V gl 107 (lfC ((j + 1) * 4) f) := by rw [← hm4]; exact hoV.lf
          have c5 : V.cell? ⟨p, 5, none⟩ = some (.slice (some ⟨gl, 0, none⟩) (j + 1) (j + 1)) := by rw [← hn.out]; exact hoV.cell.2.2.2.2.2.1
          -- the row is copied
          obtain ⟨y0, hy0⟩ : ∃ z, f ((xi + 1) * 4) = z := ⟨_, rfl⟩
          obtain ⟨y1, hy1⟩ : ∃ z, f ((xi + 1) * 4 + 1) = z := ⟨_, rfl⟩
          obtain ⟨y2, hy2⟩ : ∃ z, f ((xi + 1) * 4 + 2) = z := ⟨_, rfl⟩
          obtain ⟨y3, hy3⟩ : ∃ z, f ((xi + 1) * 4 + 3) = z := ⟨_, rfl⟩
          have a0 : V.cell? ⟨gl, (xi + 1) * 4, none⟩ = some (.int .i64 y0) := by rw [← hy0]; exact lf_cell hLb (by omega)
          have a1 : V.cell? ⟨gl, (xi + 1) * 4 + 1, none⟩ = some (.int .i64 y1) := by rw [← hy1]; exact lf_cell hLb (by omega)
          have a2 : V.cell? ⟨gl, (xi + 1) * 4 + 2, none⟩ = some (.int .i64 y2) := by rw [← hy2]; exact lf_cell hLb (by omega)
          have a3 : V.cell? ⟨gl, (xi + 1) * 4 + 3, none⟩ = some (.int .i64 y3) := by rw [← hy3]; exact lf_cell hLb (by omega)
          have b0 : V.cell? ⟨gl, xi * 4, none⟩ = some (.int .i64 (f (xi * 4))) := lf_cell hLb (by omega)
          have b1 : V.cell? ⟨gl, xi * 4 + 1, none⟩ = some (.int .i64 (f (xi * 4 + 1))) := lf_cell hLb (by omega)
          have b2 : V.cell? ⟨gl, xi * 4 + 2, none⟩ = some (.int .i64 (f (xi * 4 + 2))) := lf_cell hLb (by omega)
          have b3 : V.cell? ⟨gl, xi * 4 + 3, none⟩ = some (.int .i64 (f (xi * 4 + 3))) := lf_cell hLb (by omega)
          have z0 := hLb.frozen (xi * 4)
          have z1 := hLb.frozen (xi * 4 + 1)
          have z2 := hLb.frozen (xi * 4 + 2)
          have z3 := hLb.frozen (xi * 4 + 3)
          -- the two worlds
          obtain ⟨V1, hV1⟩ : ∃ z, ((((V.setCell ⟨gl, xi * 4, none⟩ (.int .i64 y0)).setCell ⟨gl, xi * 4 + 1, none⟩ (.int .i64 y1)).setCell ⟨gl, xi * 4 + 2, none⟩ (.int .i64 y2)).setCell ⟨gl, xi * 4 + 3, none⟩ (.int .i64 y3)).drew = z := ⟨_, rfl⟩
          obtain ⟨g, hg⟩ : ∃ z, updI (updI (updI (updI f (xi * 4) y0) (xi * 4 + 1) y1) (xi * 4 + 2) y2) (xi * 4 + 3) y3 = z := ⟨_, rfl⟩
          have hb1 : Blk V1 gl 107 (lfC ((j + 1) * 4) g) := by rw [← hV1, ← hg]; exact Blk.drew (lf_set (lf_set (lf_set (lf_set hLb _ _) _ _) _ _) _ _)
          have hs1 : Stored gl V V1 := by
            rw [← hV1]
            exact Stored.drew_ ((((Stored.set1 _ _ _ _).trans (Stored.set1 _ _ _ _)).trans (Stored.set1 _ _ _ _)).trans (Stored.set1 _ _ _ _))
          obtain ⟨v, hv⟩ : ∃ z, f ((xi + 1) * 4 + pt) = z := ⟨_, rfl⟩
          have hgv : g (xi * 4 + pt) = v := by
            rw [← hg, ← hv]
            unfold updI
            rcases (show pt = 0 ∨ pt = 1 ∨ pt = 2 ∨ pt = 3 by omega) with rfl | rfl | rfl | rfl
            · rw [if_neg (by omega), if_neg (by omega), if_neg (by omega), if_pos (by omega), ← hy0]; rfl
            · rw [if_neg (by omega), if_neg (by omega), if_pos rfl, ← hy1]
            · rw [if_neg (by omega), if_pos rfl, ← hy2]
            · rw [if_pos rfl, ← hy3]
          have hvb : 0 ≤ v ∧ v ≤ 16 := by
            have h1 := hrow1 pt hp4
            have h2 := hleft pt
            have h3 := hn.out
            omega
          have hvw : IntKind.i64.wrap (v + 1) = v + 1 := by rw [IntKind.wrap_i64]; omega
          have hix : IntKind.i64.wrap ((xi : Int) + 1) = (xi : Int) + 1 := by rw [IntKind.wrap_i64]; omega
          have hb2 := Blk.drew (lf_set hb1 (xi * 4 + pt) (v + 1))
          have hs2 : Stored gl V1 (V1.setCell ⟨gl, xi * 4 + pt, none⟩ (.int .i64 (v + 1))).drew := Stored.drew_ (Stored.set1 _ _ _ _)
          have hst : updI g (xi * 4 + pt) (v + 1) = stepL f xi pt := by rw [← hg, ← hy0, ← hy1, ← hy2, ← hy3, ← hv]; rfl
          rw [hst] at hb2
          have hs := hs1.trans hs2
          have hnw : w.heap.size ≤ gl := hg7.out
          have hfin := hide (show (∃ f, Opn w.heap.size (V1.setCell ⟨gl, xi * 4 + pt, none⟩ (.int .i64 (v + 1))).drew (some ⟨bq, oq, none⟩) Wd cq cw B p gl M (w.heap.size + 1) vk ((List.range j).map (wAt B)) f ∧ LeftK B (jj + 1) f) ∧ Below w.heap.size w (V1.setCell ⟨gl, xi * 4 + pt, none⟩ (.int .i64 (v + 1))).drew ∧ Blk (V1.setCell ⟨gl, xi * 4 + pt, none⟩ (.int .i64 (v + 1))).drew wr.heap.size 22 #[.slice (some ⟨bq, oq, none⟩) j cq] ∧ w9.heap.size ≤ (V1.setCell ⟨gl, xi * 4 + pt, none⟩ (.int .i64 (v + 1))).drew.heap.size from
            ⟨⟨_, hoV.put hs (by rw [hm4]; exact hb2), hstep⟩, hBV.trans (hs.below hnw), kcV.stored hs hcgl, by rw [hs.size]; exact hsV⟩)
          have hko := hide ((hs.others hLb).from w9.heap.size)
          have d5 : V1.cell? ⟨p, 5, none⟩ = some (.slice (some ⟨gl, 0, none⟩) (j + 1) (j + 1)) := by
            have h1 := (hoV.put hs1 (by rw [hm4]; exact hb1)).cell.2.2.2.2.2.1
            rw [hn.out] at h1
            exact h1
          have kx1 := kx.stored hs1 (Blk.ne_ kx hLb (by decide))
          have p0 : V1.cell? ⟨W0.heap.size, 0, none⟩ = some (.int .i64 (pt : Int)) := kx1.cell 0
          have g0 : V1.cell? ⟨gl, xi * 4 + pt, none⟩ = some (.int .i64 v) := by rw [← hgv]; exact lf_cell hb1 (by omega)
          have g1 := hb1.frozen (xi * 4 + pt)
          have hij : xi < j + 1 := by omega
          have hij2 : xi + 1 < j + 1 := by omega
          have hzij : (xi : Int) < (j : Int) + 1 := by omega
          have hzij2 : (xi : Int) + 1 < (j : Int) + 1 := by omega
          have hpz : (pt : Int) < 4 := by omega
          have hz1 : 0 ≤ (xi : Int) + 1 := by omega
          replace hV1 := hide hV1
          clear hg hb1 hs1 hv hgv hvb hb2 hs2 hst hs hnw kx1 kx hoV hBV kcV hsV hLf hLb hm4 hstep hleft hrow1 hy0 hy1 hy2 hy3 hxq hx hi hk hjj hs0
          gi_wp2
          refine region_still_rd 10 (by kernel_rfl) (by kernel_rfl) (by kernel_rfl) ?_
          simp only [List.take_succ_cons, List.take_zero, List.drop_succ_cons, List.drop_zero]
          iterate 10 still_step
          refine wpStill_nil ?_
          gi_wp2
          rw [hV1.out]
          clear a0 a1 a2 a3 b0 b1 b2 b3 z0 z1 z2 z3 c5 hV1
          refine region_still_rd 11 (by kernel_rfl) (by kernel_rfl) (by kernel_rfl) ?_
          simp only [List.take_succ_cons, List.take_zero, List.drop_succ_cons, List.drop_zero]
          iterate 11 still_step
          refine wpStill_nil ?_
          gi_wp2
          have hfin2 := hfin.out
          rw [← show (bk B jj ++ [(xi, (⟨(pt : Int), qa, qw⟩ : Qn))]).length = jj + 1 from by rw [List.length_append, bk_len]; rfl] at hfin2
          exact ⟨hko.out, trivial, hfin2⟩
        case done =>
          rintro xs V rfl ⟨⟨f, hoV, hLf⟩, hBV, -, hsV⟩ hD
          rw [bk_len] at hLf
          rw [← hn.out] at hoV
          obtain ⟨Av, nv, lv, rfl⟩ := hoV.row.shape
          have hrs := hlt9.out.rs
          obtain ⟨hst, kr2⟩ := stored_put hoV.res (vwC (some ⟨bq, oq, none⟩) Wd cq cw B (.slice Av nv lv) gl M).toList rfl
          obtain ⟨V2, hV2⟩ : ∃ x, putCells (w.heap.size + 1) 0 (vwC (some ⟨bq, oq, none⟩) Wd cq cw B (.slice Av nv lv) gl M).toList V = x := ⟨_, rfl⟩
          rw [hV2] at hst kr2
          have hD2 : V2.heap[w9.heap.size]? = some (.deferred (some [])) := (hst.block w9.heap.size (by omega)).trans hD
          have hbp := below_putObj (B := w9.heap.size) V2 (.deferred none) (by rw [hst.size]; exact hsV) (Nat.le_refl w9.heap.size)
          have hBF := hide ((hBV.trans (hst.below (by omega))).trans (hbp.mono hB9.out.size))
          have kF := hide (kr2.below hbp hrs)
          have hvw := hide (hoV.view hlt9.out hLf (by have := hn.out; omega) (W' := V2.putObj w9.heap.size (.deferred none)) ⟨hbp.os.trans hst.os, hbp.tape.trans hst.tape, hbp.output.trans hst.output, by have := hbp.size; rw [← hst.size]; exact this, fun g hg => (hbp.block g hg.1).trans (hst.block g hg.2)⟩ (hBk.out _ hBF.out))
          obtain ⟨c0, c1, c2, c3, c4, c5, c6⟩ := hoV.cell
          have s0 : V.cell? ⟨w.heap.size + 1, 0, none⟩ = some (.slice none 0 0) := hoV.res.cell 0
          have s1 : V.cell? ⟨w.heap.size + 1, 1, none⟩ = some (.slice none 0 0) := hoV.res.cell 1
          have s2 : V.cell? ⟨w.heap.size + 1, 2, none⟩ = some (.int .i64 0) := hoV.res.cell 2
          have s3 : V.cell? ⟨w.heap.size + 1, 3, none⟩ = some (.int .i64 0) := hoV.res.cell 3
          have s4 : V.cell? ⟨w.heap.size + 1, 4, none⟩ = some (.slice none 0 0) := hoV.res.cell 4
          have s5 : V.cell? ⟨w.heap.size + 1, 5, none⟩ = some (.slice none 0 0) := hoV.res.cell 5
          have s6 : V.cell? ⟨w.heap.size + 1, 6, none⟩ = some (.map none) := hoV.res.cell 6
          have z0 := hoV.res.frozen 0
          have z1 := hoV.res.frozen 1
          have z2 := hoV.res.frozen 2
          have z3 := hoV.res.frozen 3
          have z4 := hoV.res.frozen 4
          have z5 := hoV.res.frozen 5
          have z6 := hoV.res.frozen 6
          unfold vwC at *
          simp only [putCells] at hV2
          replace hV2 := hide hV2
          replace hD2 := hide hD2
          have hg9 := hg7.out
          have hm9 := hm7.out
          clear hst kr2 hbp hBV hsV hD hLf hoV hlt9
          simp only [Exit.inBlock, Exit.then]
          go_wp2
          rw [hV2.out]
          refine ⟨by simp, .inl ⟨_, _, rfl, run_takeDeferred hD2.out, ?_⟩⟩
          obtain ⟨gw, cg, e, hv1, hv2, hv3, hv4, hv5⟩ := hvw.out
          cases e
          exact open_end _ _ _ (w.heap.size + 1) 0 _ _ _ _ _ _ _ rfl rfl (kF.out.cell 0) (kF.out.cell 1) (kF.out.cell 2) (kF.out.cell 3) (kF.out.cell 4) (kF.out.cell 5) (kF.out.cell 6) ⟨hBF.out, gw, _, gl, M, rfl, hv1, hv2, hv3, hg9, hm9, hv4, hv5⟩
        case stop =>
          rintro c pre V _ hf
          exact hf.elim
end Go.Proofs.Ytnmgnonbgihalaa
