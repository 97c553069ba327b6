import Derived.Test.YtnmgnonbgihalaaPp
/-
  The search for the levels of all papers (made by gen_find.py).
-/
namespace Go.Proofs.Ytnmgnonbgihalaa
open Go.RowKit RG

/-- The world in a region whose i-th operation is the search behind a question. -/
def FJ (w0 w2 : World) (n0 M : Nat) (B : Bank) (V : Array Value) (m2 q : Nat) (pre L1 : List Int) (sv : Value) (gs : Nat) (S : Array Value) (i : Nat) (f : Nat → Bool) (W : World) : Prop :=
  if f i = true then ∃ sv1, Fnd w0 W n0 M B V (m2 + q) (pre ++ L1) sv1 ∧ Stp M n0 w2 sv W sv1 ∧ Blk W gs 113 S else Fnd w0 W n0 M B V m2 pre sv ∧ Stp M n0 w2 sv W sv ∧ Blk W gs 113 S
section
variable {w0 w2 W W' : World} {n0 M : Nat} {B : Bank} {V : Array Value} {m2 q : Nat} {pre L1 : List Int} {sv sv1 : Value} {gs : Nat} {S : Array Value} {i j : Nat} {f : Nat → Bool}
theorem FJ.other (hj : j ≠ i) (f : Nat → Bool) (W : World) (h : FJ w0 w2 n0 M B V m2 q pre L1 sv gs S i f W) : FJ w0 w2 n0 M B V m2 q pre L1 sv gs S i (fun k => decide (k = j) || f k) W := by
  unfold FJ at h ⊢
  simpa [Ne.symm hj] using h
theorem FJ.below_ (hj : j ≠ i) (h : FJ w0 w2 n0 M B V m2 q pre L1 sv gs S i f W) (hb : Below W.heap.size W W') : FJ w0 w2 n0 M B V m2 q pre L1 sv gs S i (fun k => decide (k = j) || f k) W' := by
  have h' : FJ w0 w2 n0 M B V m2 q pre L1 sv gs S i f W' := by
    unfold FJ at h ⊢
    split at h
    · rename_i e
      rw [if_pos e]
      obtain ⟨sv1, h1, h2, h3⟩ := h
      exact ⟨sv1, h1.below hb, h2.trans (Stp.below hb), h3.below hb h3.lt⟩
    · rename_i e
      rw [if_neg e]
      exact ⟨h.1.below hb, h.2.1.trans (Stp.below hb), h.2.2.below hb h.2.2.lt⟩
  exact FJ.other hj _ _ h'
theorem FJ.last (hf : f i = false) (h : FJ w0 w2 n0 M B V m2 q pre L1 sv gs S i f W) : Fnd w0 W n0 M B V m2 pre sv ∧ Stp M n0 w2 sv W sv ∧ Blk W gs 113 S := by
  unfold FJ at h
  rwa [if_neg (by rw [hf]; exact Bool.false_ne_true)] at h
theorem FJ.ends (hf : f i = true) (h : FJ w0 w2 n0 M B V m2 q pre L1 sv gs S i f W) : ∃ sv1, Fnd w0 W n0 M B V (m2 + q) (pre ++ L1) sv1 ∧ Stp M n0 w2 sv W sv1 ∧ Blk W gs 113 S := by
  unfold FJ at h
  rwa [if_pos hf] at h
theorem FJ.both (h : FJ w0 w2 n0 M B V m2 q pre L1 sv gs S i f W) : ∃ m3 p3 s3, Fnd w0 W n0 M B V m3 p3 s3 ∧ Blk W gs 113 S := by
  unfold FJ at h
  split at h
  · obtain ⟨sv1, h1, h2, h3⟩ := h
    exact ⟨_, _, _, h1, h3⟩
  · exact ⟨_, _, _, h.1, h.2.2⟩
theorem FJ.mem (h : FJ w0 w2 n0 M B V m2 q pre L1 sv gs S i f W) : Blk W n0 85 V ∧ Blk W (n0 + 2) 118 #[findV n0] ∧ Blk W gs 113 S := by
  obtain ⟨_, _, _, h1, h2⟩ := h.both
  exact ⟨h1.bv, h1.bf, h2⟩
theorem FJ.kw (h : FJ w0 w2 n0 M B V m2 q pre L1 sv gs S i f W) : KeptM w0.heap.size M w0 W := by
  obtain ⟨_, _, _, h1, h2⟩ := h.both
  rw [h1.e0]
  exact h1.kw
theorem FJ.start (q : Nat) (L1 : List Int) (h : Fnd w0 w2 n0 M B V m2 pre sv) (hs : Blk w2 gs 113 S) : FJ w0 w2 n0 M B V m2 q pre L1 sv gs S i (fun _ => false) w2.drew := by
  unfold FJ
  rw [if_neg Bool.false_ne_true]
  have hb : Below w2.heap.size w2 w2.drew := (Below.refl _ _).drew
  exact ⟨h.below hb, Stp.below hb, hs.drew⟩
theorem FJ.step (hf : f i = false) (h : FJ w0 w2 n0 M B V m2 q pre L1 sv gs S i f W) (h8 : Fnd w0 W' n0 M B V (m2 + q) (pre ++ L1) sv1) (h9 : Stp M n0 W sv W' sv1) (hg : gs ≠ M ∧ gs ≠ n0 + 1 ∧ n0 + 3 ≤ gs) : FJ w0 w2 n0 M B V m2 q pre L1 sv gs S i (fun k => decide (k = i) || f k) W' := by
  have hl := h.last hf
  unfold FJ
  rw [if_pos (by simp)]
  exact ⟨sv1, h8, hl.2.1.trans h9, h9.blk hl.2.2 hg.1 hg.2.1 (hl.1.row.nblk hl.2.2 (by decide))⟩
end
/-- What the search behind a stand says. -/
def FindAt (w0 : World) (n0 : Nat) (Q Wd : Option Addr) (cq cw gw cg gl M : Nat) (B : Bank) (r k : Nat) : Prop := ∀ (a b c d l : Int) (m : Nat) (w : World) (pre : List Int) (sv : Value), Ned a → Ned b → Ned c → Ned d → 0 ≤ l → l ≤ 1000 * k →
  Fnd w0 w n0 M B #[.slice Q B.qs.length cq, .slice Wd B.wanted.length cw, .int .i64 B.lo, .int .i64 B.hi, .slice (some ⟨gw, 0, none⟩) B.qs.length cg, .slice (some ⟨gl, 0, none⟩) (B.qs.length + 1) (B.qs.length + 1), .map (some M)] m pre sv → m + capF r ≤ 2 ^ 60 → pre.length + (levB B r k [a, b, c, d] l).length ≤ 900000 →
  Calls Try.prog 80 #[.agg #[.int .i64 k, .int .i64 a, .int .i64 b, .int .i64 c, .int .i64 d, .int .i64 l], .pointer (some ⟨n0, 0, none⟩), .pointer (some ⟨n0 + 1, 0, none⟩), .pointer (some ⟨n0 + 2, 0, none⟩)] w fun e w' => e = .returned (.tuple #[]) ∧ ∃ sv', Fnd w0 w' n0 M B #[.slice Q B.qs.length cq, .slice Wd B.wanted.length cw, .int .i64 B.lo, .int .i64 B.hi, .slice (some ⟨gw, 0, none⟩) B.qs.length cg, .slice (some ⟨gl, 0, none⟩) (B.qs.length + 1) (B.qs.length + 1), .map (some M)] (m + capF r) (pre ++ levB B r k [a, b, c, d] l) sv' ∧ Stp M n0 w sv w' sv'
theorem capN_capF : ∀ r, capN r ≤ capF r
  | 0 => Nat.le_refl _
  | r + 1 => by rw [capF]; omega
set_option maxRecDepth 100000 in
set_option maxHeartbeats 4000000 in
theorem find_step (w0 : World) (n0 : Nat) (Q Wd : Option Addr) (cq cw gw cg gl M : Nat) (B : Bank) (hB : BankOk B) (hV0 : VwR w0 Q Wd gw gl B) (hm0 : ∃ es c, w0.heap[M]? = some (.map es c)) (r k : Nat) (hkr : k + r = B.qs.length) (hrec : ∀ r', r = r' + 1 → FindAt w0 n0 Q Wd cq cw gw cg gl M B r' (k + 1)) : FindAt w0 n0 Q Wd cq cw gw cg gl M B r k := by
  intro a b c d l m w pre sv ha hb hc hd hl0 hl1 hF hm hlen
  have hnq := hB.nq
  have hls : Small l := by unfold Small; omega
  have hcc := capN_capF r
  have hVk := hide (fun W' (h : KeptM w0.heap.size M w0 W') => hV0.keptM (by omega) hm0 h)
  have hD := hide (fun W => done_any Q Wd cq cw gw cg gl M B k a b c d l W ha.small hb.small hc.small hd.small)
  have hBe := hide (fun W (hv : VwR W Q Wd gw gl B) (hk : KnownM W M B m) => behind_all Q Wd cq cw gw cg gl M B hB r k hkr a b c d l m W ha hb hc hd hl0 hl1 hv hk (by omega))
  have hz1 := hide (fun (hz : [a, b, c, d] = zero4) (hi : doneB B [a, b, c, d] l = false) => show countB B r k [a, b, c, d] l = 0 from by
    rw [hz] at hi ⊢
    rw [countB_full]
    unfold doneB at hi
    simp at hi
    rw [hi]
    rfl)
  have hl1' := hide (fun (hi : doneB B [a, b, c, d] l = true) => show levB B r k [a, b, c, d] l = [l] from by
    unfold doneB at hi
    simp at hi
    rw [hi.1, levB_full, if_pos hi.2])
  obtain ⟨gs, hgs0⟩ : ∃ y, w.heap.size = y := ⟨_, rfl⟩
  obtain ⟨LL, hLL⟩ : ∃ z, levB B r k [a, b, c, d] l = z := ⟨_, rfl⟩
  rw [hLL] at hlen ⊢
  unfold vwV stV at *
  obtain ⟨W, hW⟩ : ∃ y, w.alloc (.cells #[.int .i64 k, .int .i64 a, .int .i64 b, .int .i64 c, .int .i64 d, .int .i64 l] 113) = y := ⟨_, rfl⟩
  have bW1 := hide (show Blk W gs 113 #[.int .i64 k, .int .i64 a, .int .i64 b, .int .i64 c, .int .i64 d, .int .i64 l] by rw [← hW, ← hgs0]; exact blkNew rfl)
  have hBW := hide (show Below w.heap.size w W by rw [← hW]; exact (Below.refl _ _).alloc (Nat.le_refl _) _)
  have hFW := hide (hF.below hBW.out)
  have hgs := hide (show gs ≠ M ∧ gs ≠ n0 + 1 ∧ n0 + 3 ≤ gs by have h1 := hF.sz; have h2 := hF.hM; omega)
  have hSW := hide (show Stp M n0 w sv W sv from Stp.below hBW.out)
  replace hW := hide hW
  have e0 := hide hF.e0
  clear hF
  have bv := hFW.out.bv
  have bs := bW1.out
  have vc0 : W.cell? ⟨n0, 0, none⟩ = some (.slice Q B.qs.length cq) := bv.cell 0
  have vc1 : W.cell? ⟨n0, 1, none⟩ = some (.slice Wd B.wanted.length cw) := bv.cell 1
  have vc2 : W.cell? ⟨n0, 2, none⟩ = some (.int .i64 B.lo) := bv.cell 2
  have vc3 : W.cell? ⟨n0, 3, none⟩ = some (.int .i64 B.hi) := bv.cell 3
  have vc4 : W.cell? ⟨n0, 4, none⟩ = some (.slice (some ⟨gw, 0, none⟩) B.qs.length cg) := bv.cell 4
  have vc5 : W.cell? ⟨n0, 5, none⟩ = some (.slice (some ⟨gl, 0, none⟩) (B.qs.length + 1) (B.qs.length + 1)) := bv.cell 5
  have vc6 : W.cell? ⟨n0, 6, none⟩ = some (.map (some M)) := bv.cell 6
  have s0 : W.cell? ⟨gs, 0, none⟩ = some (.int .i64 k) := bs.cell 0
  have s1 : W.cell? ⟨gs, 1, none⟩ = some (.int .i64 a) := bs.cell 1
  have s2 : W.cell? ⟨gs, 2, none⟩ = some (.int .i64 b) := bs.cell 2
  have s3 : W.cell? ⟨gs, 3, none⟩ = some (.int .i64 c) := bs.cell 3
  have s4 : W.cell? ⟨gs, 4, none⟩ = some (.int .i64 d) := bs.cell 4
  have s5 : W.cell? ⟨gs, 5, none⟩ = some (.int .i64 l) := bs.cell 5
  clear bv bs
  go_enter Try.func80, Try.ntmps80
  go_upto_region 1 with fail
  rw [hW.out]
  cases hdn : doneB B [a, b, c, d] l with
  | true =>
    have hlv := hide (hl1'.out hdn)
    rw [hdn] at hD
    rw [hLL] at hlv
    obtain rfl := hlv.out
    clear hlv
    clear hl1' hrec hBe hz1 hVk
    go_wp2_with fail
    refine (hD.out W).mono ?_
    rintro e w1 ⟨rfl, hb1⟩
    have hF1 := hide (hFW.out.below hb1)
    have hS1 := hide (hSW.out.trans (Stp.below hb1))
    have bs1 := hide (bW1.out.below hb1 bW1.out.lt)
    clear vc0 vc1 vc2 vc3 vc4 vc5 vc6
    clear s0 s1 s2 s3 s4 s5
    clear hb1
    obtain ⟨v', w4, hrun, hz, hc4, hF4, hS4⟩ := hF1.out.push l (by omega)
    obtain ⟨A', n', c', rfl⟩ := hF4.row.shape
    replace hrun := hide hrun
    replace hF4 := hide hF4
    replace hS4 := hide hS4
    have cl : w1.cell? ⟨n0 + 1, 0, none⟩ = some sv := hF1.out.bl.cell 0
    have s5 : w1.cell? ⟨gs, 5, none⟩ = some (.int .i64 l) := bs1.out.cell 5
    go_wp2_with (at_builtin; refine wpList_append_run rfl _ _ 23 rfl _ _ _ rfl rfl hrun.out ?_)
    clear cl s5
    go_wp2
    go_end0
    exact ⟨rfl, _, hF4.out.more (Nat.le_add_right _ _), hS1.out.trans hS4.out⟩
  | false =>
    rw [hdn] at hD
    obtain ⟨N, hN⟩ : ∃ z, countB B r k [a, b, c, d] l = z := ⟨_, rfl⟩
    rw [hN] at hBe
    clear hl1'
    go_wp2_with fail
    refine (hD.out W).mono ?_
    rintro e w1 ⟨rfl, hb1⟩
    have hF1 := hide (hFW.out.below hb1)
    have hS1 := hide (hSW.out.trans (Stp.below hb1))
    have bs1 := hide (bW1.out.below hb1 bW1.out.lt)
    have hbe := hide (hBe.out w1 (hVk.out w1 (by rw [e0.out]; exact hF1.out.kw)) hF1.out.kn)
    clear vc0 vc1 vc2 vc3 vc4 vc5 vc6
    clear s0 s1 s2 s3 s4 s5
    clear hb1 hD hBe
    have bv := hF1.out.bv
    have bs := bs1.out
    have vc0 : w1.cell? ⟨n0, 0, none⟩ = some (.slice Q B.qs.length cq) := bv.cell 0
    have vc1 : w1.cell? ⟨n0, 1, none⟩ = some (.slice Wd B.wanted.length cw) := bv.cell 1
    have vc2 : w1.cell? ⟨n0, 2, none⟩ = some (.int .i64 B.lo) := bv.cell 2
    have vc3 : w1.cell? ⟨n0, 3, none⟩ = some (.int .i64 B.hi) := bv.cell 3
    have vc4 : w1.cell? ⟨n0, 4, none⟩ = some (.slice (some ⟨gw, 0, none⟩) B.qs.length cg) := bv.cell 4
    have vc5 : w1.cell? ⟨n0, 5, none⟩ = some (.slice (some ⟨gl, 0, none⟩) (B.qs.length + 1) (B.qs.length + 1)) := bv.cell 5
    have vc6 : w1.cell? ⟨n0, 6, none⟩ = some (.map (some M)) := bv.cell 6
    have s0 : w1.cell? ⟨gs, 0, none⟩ = some (.int .i64 k) := bs.cell 0
    have s1 : w1.cell? ⟨gs, 1, none⟩ = some (.int .i64 a) := bs.cell 1
    have s2 : w1.cell? ⟨gs, 2, none⟩ = some (.int .i64 b) := bs.cell 2
    have s3 : w1.cell? ⟨gs, 3, none⟩ = some (.int .i64 c) := bs.cell 3
    have s4 : w1.cell? ⟨gs, 4, none⟩ = some (.int .i64 d) := bs.cell 4
    have s5 : w1.cell? ⟨gs, 5, none⟩ = some (.int .i64 l) := bs.cell 5
    clear bv bs
    go_wp2_with fail
    refine hbe.out.mono ?_
    rintro e w2 ⟨rfl, hk2, hkn2⟩
    have hF2 := hide (hF1.out.keptM hk2 hkn2)
    have hS2 := hide (hS1.out.trans (Stp.keptM hk2))
    have hs2 := hide (show Blk w2 gs 113 #[.int .i64 k, .int .i64 a, .int .i64 b, .int .i64 c, .int .i64 d, .int .i64 l] from KeptX.blk hk2 ⟨bs1.out.lt, hgs.out.1⟩ bs1.out)
    clear vc0 vc1 vc2 vc3 vc4 vc5 vc6
    clear s0 s1 s2 s3 s4 s5
    clear hk2 hkn2 hbe hF1 hS1 bs1 hFW hSW bW1
    by_cases h0 : N = 0
    · subst h0
      have hp : decide ((0 : Int) > ((0 : Nat) : Int)) = false := by decide
      rw [levB_none hN] at hLL
      subst hLL
      clear hrec hN hz1
      go_wp2
      go_end0
      exact ⟨rfl, sv, by rw [List.append_nil]; exact hF2.out.more (by omega), hS2.out⟩
    · have hp : decide ((N : Int) > (0 : Int)) = true := decide_eq_true (by omega)
      have hp2 : (0 : Int) < (N : Int) := by omega
      have hz : [a, b, c, d] ≠ zero4 := fun hz => h0 (by rw [← hN]; exact hz1.out hz hdn)
      obtain ⟨r, rfl, hcan⟩ := more_of hz (by rw [hN]; omega)
      obtain ⟨a', b', c', d', hdec, n1, n2, n3, n4⟩ := dec_ned hcan hnq.2 (part4 hB k)
      have hlv := levB_step (l := l) hz hcan (r := r)
      rw [hdec] at hlv
      have hwk := wAt_bd hB k
      have hWi := hide (fun W (h : VwR W Q Wd gw gl B) => with_any Q Wd cq cw gw cg gl M B k a b c d a' b' c' d' l W h hB (by omega) ha.small hb.small hc.small hd.small hls hdec)
      have hWo := hide (fun W => without_any k a b c d l W (small_nat (by omega)))
      generalize wAt B k = wk at *
      obtain ⟨L1, hL1⟩ : ∃ z, levB B r (k + 1) [a', b', c', d'] (l + wk) = z := ⟨_, rfl⟩
      obtain ⟨L2, hL2⟩ : ∃ z, levB B r (k + 1) [a, b, c, d] l = z := ⟨_, rfl⟩
      rw [hL1, hL2] at hlv
      rw [hLL] at hlv
      rw [hlv, List.length_append] at hlen
      have hmf : m + capN (r + 1) + capF r + capF r ≤ 2 ^ 60 := by unfold capF at hm; omega
      have hrk := hrec r rfl
      have e1 : ((k + 1 : Nat) : Int) = (k : Int) + 1 := by omega
      have hR1 := hide (fun W (sv : Value) (h : Fnd w0 W n0 M B #[.slice Q B.qs.length cq, .slice Wd B.wanted.length cw, .int .i64 B.lo, .int .i64 B.hi, .slice (some ⟨gw, 0, none⟩) B.qs.length cg, .slice (some ⟨gl, 0, none⟩) (B.qs.length + 1) (B.qs.length + 1), .map (some M)] (m + capN (r + 1)) pre sv) => hrk a' b' c' d' (l + wk) (m + capN (r + 1)) W pre sv n1 n2 n3 n4 (by omega) (by omega) h (by omega) (by rw [hL1]; omega))
      have hR2 := hide (fun W (sv : Value) (h : Fnd w0 W n0 M B #[.slice Q B.qs.length cq, .slice Wd B.wanted.length cw, .int .i64 B.lo, .int .i64 B.hi, .slice (some ⟨gw, 0, none⟩) B.qs.length cg, .slice (some ⟨gl, 0, none⟩) (B.qs.length + 1) (B.qs.length + 1), .map (some M)] (m + capN (r + 1) + capF r) (pre ++ L1) sv) => hrk a b c d l (m + capN (r + 1) + capF r) W (pre ++ L1) sv ha hb hc hd (by omega) (by omega) h (by omega) (by rw [hL2, List.length_append]; omega))
      rw [e1, hL1] at hR1
      rw [e1, hL2] at hR2
      unfold stV vwV at hWi
      unfold stV at hWo
      clear hrec hrk hdec hcan hL1 hL2 hLL n1 n2 n3 n4 hN hz1
      replace hz := hide hz
      replace hdn := hide hdn
      have hdone : True := trivial
      go_wp2_with fail
      clear hp hp2
      refine region_cst [.func (.func 80) #[] #[.pointer (some ⟨n0, 0, none⟩), .pointer (some ⟨n0 + 1, 0, none⟩), .pointer (some ⟨n0 + 2, 0, none⟩)], .agg #[.slice Q B.qs.length cq, .slice Wd B.wanted.length cw, .int .i64 B.lo, .int .i64 B.hi, .slice (some ⟨gw, 0, none⟩) B.qs.length cg, .slice (some ⟨gl, 0, none⟩) (B.qs.length + 1) (B.qs.length + 1), .map (some M)], .agg #[.int .i64 k, .int .i64 a, .int .i64 b, .int .i64 c, .int .i64 d, .int .i64 l], .agg #[.int .i64 ((k : Int) + 1), .int .i64 a', .int .i64 b', .int .i64 c', .int .i64 d', .int .i64 (l + wk)], .tuple #[]] (FJ w0 w2 n0 M B #[.slice Q B.qs.length cq, .slice Wd B.wanted.length cw, .int .i64 B.lo, .int .i64 B.hi, .slice (some ⟨gw, 0, none⟩) B.qs.length cg, .slice (some ⟨gl, 0, none⟩) (B.qs.length + 1) (B.qs.length + 1), .map (some M)] (m + capN (r + 1)) (capF r) pre L1 sv gs #[.int .i64 k, .int .i64 a, .int .i64 b, .int .i64 c, .int .i64 d, .int .i64 l] 4) (by kernel_rfl) (by kernel_rfl) (FJ.start _ _ hF2.out hs2.out) ?_ ?_
      · refine ⟨?_, ?_, ?_, ?_, ?_, trivial⟩
        · refine ⟨by kernel_rfl, ?_⟩
          intro Tf f y W4 Kq Qq hF hJ4 hf hd hK
          have t3 := hF.old 3 (.pointer (some ⟨n0 + 2, 0, none⟩)) (by kernel_rfl) (by kernel_rfl)
          clear hF hd
          have bx := hJ4.mem.2.1
          have cf : W4.cell? ⟨n0 + 2, 0, none⟩ = some (.func (.func 80) #[] #[.pointer (some ⟨n0, 0, none⟩), .pointer (some ⟨n0 + 1, 0, none⟩), .pointer (some ⟨n0 + 2, 0, none⟩)]) := bx.cell 0
          clear bx
          go_simp
          exact hK _ (FJ.other (j := 0) (by decide) _ _ hJ4)
        · refine ⟨by kernel_rfl, ?_⟩
          intro Tf f y W4 Kq Qq hF hJ4 hf hd hK
          have t1 := hF.old 1 (.pointer (some ⟨n0, 0, none⟩)) (by kernel_rfl) (by kernel_rfl)
          clear hF hd
          have bx := hJ4.mem.1
          have vc0 : W4.cell? ⟨n0, 0, none⟩ = some (.slice Q B.qs.length cq) := bx.cell 0
          have vc1 : W4.cell? ⟨n0, 1, none⟩ = some (.slice Wd B.wanted.length cw) := bx.cell 1
          have vc2 : W4.cell? ⟨n0, 2, none⟩ = some (.int .i64 B.lo) := bx.cell 2
          have vc3 : W4.cell? ⟨n0, 3, none⟩ = some (.int .i64 B.hi) := bx.cell 3
          have vc4 : W4.cell? ⟨n0, 4, none⟩ = some (.slice (some ⟨gw, 0, none⟩) B.qs.length cg) := bx.cell 4
          have vc5 : W4.cell? ⟨n0, 5, none⟩ = some (.slice (some ⟨gl, 0, none⟩) (B.qs.length + 1) (B.qs.length + 1)) := bx.cell 5
          have vc6 : W4.cell? ⟨n0, 6, none⟩ = some (.map (some M)) := bx.cell 6
          clear bx
          go_simp
          exact hK _ (FJ.other (j := 1) (by decide) _ _ hJ4)
        · refine ⟨by kernel_rfl, ?_⟩
          intro Tf f y W4 Kq Qq hF hJ4 hf hd hK
          have t4 := hF.old 4 (.pointer (some ⟨gs, 0, none⟩)) (by kernel_rfl) (by kernel_rfl)
          clear hF hd
          have bx := hJ4.mem.2.2
          have s0 : W4.cell? ⟨gs, 0, none⟩ = some (.int .i64 k) := bx.cell 0
          have s1 : W4.cell? ⟨gs, 1, none⟩ = some (.int .i64 a) := bx.cell 1
          have s2 : W4.cell? ⟨gs, 2, none⟩ = some (.int .i64 b) := bx.cell 2
          have s3 : W4.cell? ⟨gs, 3, none⟩ = some (.int .i64 c) := bx.cell 3
          have s4 : W4.cell? ⟨gs, 4, none⟩ = some (.int .i64 d) := bx.cell 4
          have s5 : W4.cell? ⟨gs, 5, none⟩ = some (.int .i64 l) := bx.cell 5
          clear bx
          go_simp
          exact hK _ (FJ.other (j := 2) (by decide) _ _ hJ4)
        · refine ⟨by kernel_rfl, ?_⟩
          intro Tf f y W4 Kq Qq hF hJ4 hf hd hK
          have p1 : y 1 = .agg #[.slice Q B.qs.length cq, .slice Wd B.wanted.length cw, .int .i64 B.lo, .int .i64 B.hi, .slice (some ⟨gw, 0, none⟩) B.qs.length cg, .slice (some ⟨gl, 0, none⟩) (B.qs.length + 1) (B.qs.length + 1), .map (some M)] := (hd 1 (by kernel_rfl)).2 _ rfl
          have p2 : y 2 = .agg #[.int .i64 k, .int .i64 a, .int .i64 b, .int .i64 c, .int .i64 d, .int .i64 l] := (hd 2 (by kernel_rfl)).2 _ rfl
          have t20 := hF.get 1 20 (by kernel_rfl)
          rw [p1] at t20
          have t21 := hF.get 2 21 (by kernel_rfl)
          rw [p2] at t21
          have hs := hWi.out W4 (hVk.out W4 hJ4.kw)
          clear hF hd
          go_simp
          refine hs.mono ?_
          rintro e w7 ⟨rfl, hb7⟩
          exact hK _ (FJ.below_ (by decide) hJ4 hb7)
        · refine ⟨by kernel_rfl, ?_⟩
          intro Tf f y W4 Kq Qq hF hJ4 hf hd hK
          have p0 : y 0 = .func (.func 80) #[] #[.pointer (some ⟨n0, 0, none⟩), .pointer (some ⟨n0 + 1, 0, none⟩), .pointer (some ⟨n0 + 2, 0, none⟩)] := (hd 0 (by kernel_rfl)).2 _ rfl
          have p3 : y 3 = .agg #[.int .i64 ((k : Int) + 1), .int .i64 a', .int .i64 b', .int .i64 c', .int .i64 d', .int .i64 (l + wk)] := (hd 3 (by kernel_rfl)).2 _ rfl
          have t19 := hF.get 0 19 (by kernel_rfl)
          rw [p0] at t19
          have t22 := hF.get 3 22 (by kernel_rfl)
          rw [p3] at t22
          have hq := hJ4.last hf
          have hs := hR1.out W4 sv hq.1
          clear hF hd
          go_simp
          refine hs.mono ?_
          rintro e w7 ⟨rfl, sv7, h8, h9⟩
          exact hK _ (FJ.step hf hJ4 h8 h9 hgs.out)
      intro f y W8 hf hJ hE
      clear hE
      obtain ⟨sv1, h81, h82, h83⟩ := hJ.ends (hf 4 (by decide))
      have hF8 := hide h81
      have hS8 := hide (hS2.out.trans h82)
      have hs8 := hide h83
      clear h81 h82 h83 hJ hf hF2 hS2 hs2 hR1 hWi
      simp only [putAll, Act.put]
      simp only [List.setIfInBounds_toArray, List.set_cons_succ, List.set_cons_zero]
      go_wp2_with fail
      refine region_cst [.func (.func 80) #[] #[.pointer (some ⟨n0, 0, none⟩), .pointer (some ⟨n0 + 1, 0, none⟩), .pointer (some ⟨n0 + 2, 0, none⟩)], .agg #[.int .i64 k, .int .i64 a, .int .i64 b, .int .i64 c, .int .i64 d, .int .i64 l], .agg #[.int .i64 ((k : Int) + 1), .int .i64 a, .int .i64 b, .int .i64 c, .int .i64 d, .int .i64 l], .tuple #[]] (FJ w0 W8 n0 M B #[.slice Q B.qs.length cq, .slice Wd B.wanted.length cw, .int .i64 B.lo, .int .i64 B.hi, .slice (some ⟨gw, 0, none⟩) B.qs.length cg, .slice (some ⟨gl, 0, none⟩) (B.qs.length + 1) (B.qs.length + 1), .map (some M)] (m + capN (r + 1) + capF r) (capF r) (pre ++ L1) L2 sv1 gs #[.int .i64 k, .int .i64 a, .int .i64 b, .int .i64 c, .int .i64 d, .int .i64 l] 3) (by kernel_rfl) (by kernel_rfl) (FJ.start _ _ hF8.out hs8.out) ?_ ?_
      · refine ⟨?_, ?_, ?_, ?_, trivial⟩
        · refine ⟨by kernel_rfl, ?_⟩
          intro Tf f y W4 Kq Qq hF hJ4 hf hd hK
          have t3 := hF.old 3 (.pointer (some ⟨n0 + 2, 0, none⟩)) (by kernel_rfl) (by kernel_rfl)
          clear hF hd
          have bx := hJ4.mem.2.1
          have cf : W4.cell? ⟨n0 + 2, 0, none⟩ = some (.func (.func 80) #[] #[.pointer (some ⟨n0, 0, none⟩), .pointer (some ⟨n0 + 1, 0, none⟩), .pointer (some ⟨n0 + 2, 0, none⟩)]) := bx.cell 0
          clear bx
          go_simp
          exact hK _ (FJ.other (j := 0) (by decide) _ _ hJ4)
        · refine ⟨by kernel_rfl, ?_⟩
          intro Tf f y W4 Kq Qq hF hJ4 hf hd hK
          have t4 := hF.old 4 (.pointer (some ⟨gs, 0, none⟩)) (by kernel_rfl) (by kernel_rfl)
          clear hF hd
          have bx := hJ4.mem.2.2
          have s0 : W4.cell? ⟨gs, 0, none⟩ = some (.int .i64 k) := bx.cell 0
          have s1 : W4.cell? ⟨gs, 1, none⟩ = some (.int .i64 a) := bx.cell 1
          have s2 : W4.cell? ⟨gs, 2, none⟩ = some (.int .i64 b) := bx.cell 2
          have s3 : W4.cell? ⟨gs, 3, none⟩ = some (.int .i64 c) := bx.cell 3
          have s4 : W4.cell? ⟨gs, 4, none⟩ = some (.int .i64 d) := bx.cell 4
          have s5 : W4.cell? ⟨gs, 5, none⟩ = some (.int .i64 l) := bx.cell 5
          clear bx
          go_simp
          exact hK _ (FJ.other (j := 1) (by decide) _ _ hJ4)
        · refine ⟨by kernel_rfl, ?_⟩
          intro Tf f y W4 Kq Qq hF hJ4 hf hd hK
          have p1 : y 1 = .agg #[.int .i64 k, .int .i64 a, .int .i64 b, .int .i64 c, .int .i64 d, .int .i64 l] := (hd 1 (by kernel_rfl)).2 _ rfl
          have t25 := hF.get 1 25 (by kernel_rfl)
          rw [p1] at t25
          have hs := hWo.out W4
          clear hF hd
          go_simp
          refine hs.mono ?_
          rintro e w7 ⟨rfl, hb7⟩
          exact hK _ (FJ.below_ (by decide) hJ4 hb7)
        · refine ⟨by kernel_rfl, ?_⟩
          intro Tf f y W4 Kq Qq hF hJ4 hf hd hK
          have p0 : y 0 = .func (.func 80) #[] #[.pointer (some ⟨n0, 0, none⟩), .pointer (some ⟨n0 + 1, 0, none⟩), .pointer (some ⟨n0 + 2, 0, none⟩)] := (hd 0 (by kernel_rfl)).2 _ rfl
          have p2 : y 2 = .agg #[.int .i64 ((k : Int) + 1), .int .i64 a, .int .i64 b, .int .i64 c, .int .i64 d, .int .i64 l] := (hd 2 (by kernel_rfl)).2 _ rfl
          have t24 := hF.get 0 24 (by kernel_rfl)
          rw [p0] at t24
          have t26 := hF.get 2 26 (by kernel_rfl)
          rw [p2] at t26
          have hq := hJ4.last hf
          have hs := hR2.out W4 sv1 hq.1
          clear hF hd
          go_simp
          refine hs.mono ?_
          rintro e w7 ⟨rfl, sv7, h8, h9⟩
          exact hK _ (FJ.step hf hJ4 h8 h9 hgs.out)
      intro f y W9 hf hJ hE
      clear hE
      obtain ⟨sv2, h91, h92, h93⟩ := hJ.ends (hf 3 (by decide))
      have hF9 := hide h91
      have hS9 := hide (hS8.out.trans h92)
      clear h91 h92 h93 hJ hf hF8 hS8 hs8 hR2 hWo
      simp only [putAll, Act.put]
      simp only [List.setIfInBounds_toArray, List.set_cons_succ, List.set_cons_zero]
      go_wp2
      go_end0
      exact ⟨rfl, sv2, by rw [hlv, ← List.append_assoc]; exact hF9.out.more (by rw [show capF (r + 1) = capN (r + 1) + 2 * capF r from rfl]; omega), hS9.out⟩
theorem find_all (w0 : World) (n0 : Nat) (Q Wd : Option Addr) (cq cw gw cg gl M : Nat) (B : Bank) (hB : BankOk B) (hV0 : VwR w0 Q Wd gw gl B) (hm0 : ∃ es c, w0.heap[M]? = some (.map es c)) : ∀ (r k : Nat), k + r = B.qs.length → FindAt w0 n0 Q Wd cq cw gw cg gl M B r k
  | 0, k, h => find_step w0 n0 Q Wd cq cw gw cg gl M B hB hV0 hm0 0 k h (fun r' e => by omega)
  | r + 1, k, h => find_step w0 n0 Q Wd cq cw gw cg gl M B hB hV0 hm0 (r + 1) k h (fun r' e => (show r = r' by omega) ▸ find_all w0 n0 Q Wd cq cw gw cg gl M B hB hV0 hm0 r (k + 1) (by omega))
end Go.Proofs.Ytnmgnonbgihalaa

/-
  The levels of all papers, in order (made by gen_levels.py).
-/
namespace Go.Proofs.Ytnmgnonbgihalaa
open Go.RowKit RG

/-- The world in the region that begins the search. -/
def LJ (w0 W0 : World) (n0 M : Nat) (B : Bank) (V : Array Value) (m q : Nat) (L1 : List Int) (i : Nat) (f : Nat → Bool) (W : World) : Prop :=
  if f i = true then ∃ sv1, Fnd w0 W n0 M B V (m + q) L1 sv1 ∧ Stp M n0 W0 (.slice none 0 0) W sv1 else Fnd w0 W n0 M B V m [] (.slice none 0 0) ∧ Stp M n0 W0 (.slice none 0 0) W (.slice none 0 0)
section
variable {w0 W0 W W' : World} {n0 M : Nat} {B : Bank} {V : Array Value} {m q : Nat} {L1 : List Int} {sv1 : Value} {i j : Nat} {f : Nat → Bool}
theorem LJ.other (hj : j ≠ i) (f : Nat → Bool) (W : World) (h : LJ w0 W0 n0 M B V m q L1 i f W) : LJ w0 W0 n0 M B V m q L1 i (fun k => decide (k = j) || f k) W := by
  unfold LJ at h ⊢
  simpa [Ne.symm hj] using h
theorem LJ.below_ (hj : j ≠ i) (h : LJ w0 W0 n0 M B V m q L1 i f W) (hb : Below W.heap.size W W') : LJ w0 W0 n0 M B V m q L1 i (fun k => decide (k = j) || f k) W' := by
  refine LJ.other hj _ _ ?_
  unfold LJ at h ⊢
  split at h
  · rename_i e
    rw [if_pos e]
    obtain ⟨sv1, h1, h2⟩ := h
    exact ⟨sv1, h1.below hb, h2.trans (Stp.below hb)⟩
  · rename_i e
    rw [if_neg e]
    exact ⟨h.1.below hb, h.2.trans (Stp.below hb)⟩
theorem LJ.last (hf : f i = false) (h : LJ w0 W0 n0 M B V m q L1 i f W) : Fnd w0 W n0 M B V m [] (.slice none 0 0) ∧ Stp M n0 W0 (.slice none 0 0) W (.slice none 0 0) := by
  unfold LJ at h
  rwa [if_neg (by rw [hf]; exact Bool.false_ne_true)] at h
theorem LJ.ends (hf : f i = true) (h : LJ w0 W0 n0 M B V m q L1 i f W) : ∃ sv1, Fnd w0 W n0 M B V (m + q) L1 sv1 ∧ Stp M n0 W0 (.slice none 0 0) W sv1 := by
  unfold LJ at h
  rwa [if_pos hf] at h
theorem LJ.both (h : LJ w0 W0 n0 M B V m q L1 i f W) : ∃ m3 p3 s3, Fnd w0 W n0 M B V m3 p3 s3 := by
  unfold LJ at h
  split at h
  · obtain ⟨sv1, h1, h2⟩ := h
    exact ⟨_, _, _, h1⟩
  · exact ⟨_, _, _, h.1⟩
theorem LJ.mem (h : LJ w0 W0 n0 M B V m q L1 i f W) : Blk W n0 85 V ∧ Blk W (n0 + 2) 118 #[findV n0] := by
  obtain ⟨_, _, _, h1⟩ := h.both
  exact ⟨h1.bv, h1.bf⟩
theorem LJ.kw (h : LJ w0 W0 n0 M B V m q L1 i f W) : KeptM w0.heap.size M w0 W := by
  obtain ⟨_, _, _, h1⟩ := h.both
  rw [h1.e0]
  exact h1.kw
theorem LJ.start (q : Nat) (L1 : List Int) (h : Fnd w0 W0 n0 M B V m [] (.slice none 0 0)) : LJ w0 W0 n0 M B V m q L1 i (fun _ => false) W0.drew := by
  unfold LJ
  rw [if_neg Bool.false_ne_true]
  have hb : Below W0.heap.size W0 W0.drew := (Below.refl _ _).drew
  exact ⟨h.below hb, Stp.below hb⟩
theorem LJ.step (hf : f i = false) (h : LJ w0 W0 n0 M B V m q L1 i f W) (h8 : Fnd w0 W' n0 M B V (m + q) L1 sv1) (h9 : Stp M n0 W (.slice none 0 0) W' sv1) : LJ w0 W0 n0 M B V m q L1 i (fun k => decide (k = i) || f k) W' := by
  have hl := h.last hf
  unfold LJ
  rw [if_pos (by simp)]
  exact ⟨sv1, h8, hl.2.trans h9⟩
end
set_option maxRecDepth 100000 in
set_option maxHeartbeats 4000000 in
theorem levels_any (Q Wd : Option Addr) (cq cw gw cg gl M : Nat) (B : Bank) (m : Nat) (w : World) (hB : BankOk B) (hV : VwR w Q Wd gw gl B) (hK : KnownM w M B m) (hm : m + 2 ^ 32 ≤ 2 ^ 60) (hn : 0 < (papers B).length) :
    Calls Try.prog 58 #[vwV Q Wd cq cw gw cg gl M B] w fun e w' => (∃ v, e = .returned v ∧ RowAt w' (fun g => g < w.heap.size) 3 1 v ((sortI (levelsP B)).map iCells)) ∧ KeptM w.heap.size M w w' ∧ KnownM w' M B (m + 2 ^ 32) := by
  obtain ⟨a, b, c, d, hs4⟩ := four (start4_len hB.nw.2)
  obtain ⟨na, nb, nc, nd⟩ := start_ned hB hs4
  have hnq := hB.nq
  have hpl := papers_len hB
  have hcf := capF_le hnq.2
  obtain ⟨L1, hL1⟩ : ∃ z, levelsP B = z := ⟨_, rfl⟩
  have hlen := levelsP_len B
  rw [hL1] at hlen ⊢
  have hLe : levB B B.qs.length 0 [a, b, c, d] 0 = L1 := by rw [← hL1, ← hs4]; rfl
  have hm0 := hK.map
  have hVk := hide (fun W' (h : KeptM w.heap.size M w W') => hV.keptM (by omega) hm0 h)
  have hSt := hide (fun W (h : VwR W Q Wd gw gl B) => start_any Q Wd cq cw gw cg gl M B a b c d W h.ws hB hs4)
  obtain ⟨n0, hn0⟩ : ∃ y, w.heap.size = y := ⟨_, rfl⟩
  have hR := hide (fun W (h : Fnd w W n0 M B #[.slice Q B.qs.length cq, .slice Wd B.wanted.length cw, .int .i64 B.lo, .int .i64 B.hi, .slice (some ⟨gw, 0, none⟩) B.qs.length cg, .slice (some ⟨gl, 0, none⟩) (B.qs.length + 1) (B.qs.length + 1), .map (some M)] m [] (.slice none 0 0)) => find_all w n0 Q Wd cq cw gw cg gl M B hB hV hm0 B.qs.length 0 (Nat.zero_add _) a b c d 0 m W [] (.slice none 0 0) na nb nc nd (by omega) (by omega) h (by omega) (by rw [hLe]; simp; omega))
  rw [hLe, List.nil_append, show (((0 : Nat) : Int)) = 0 from rfl] at hR
  unfold vwV stV at *
  obtain ⟨W, hW⟩ : ∃ y, ((w.alloc (.cells #[.slice Q B.qs.length cq, .slice Wd B.wanted.length cw, .int .i64 B.lo, .int .i64 B.hi, .slice (some ⟨gw, 0, none⟩) B.qs.length cg, .slice (some ⟨gl, 0, none⟩) (B.qs.length + 1) (B.qs.length + 1), .map (some M)] 85)).alloc (.cells #[.slice none 0 0] 23)).alloc (.cells #[.func (.func 80) #[] #[.pointer (some ⟨n0, 0, none⟩), .pointer (some ⟨n0 + 1, 0, none⟩), .pointer (some ⟨n0 + 1 + 1, 0, none⟩)]] 118) = y := ⟨_, rfl⟩
  have hM := hide (show M < n0 by rw [← hn0]; exact hK.lt)
  have bv := hide (show Blk W n0 85 #[.slice Q B.qs.length cq, .slice Wd B.wanted.length cw, .int .i64 B.lo, .int .i64 B.hi, .slice (some ⟨gw, 0, none⟩) B.qs.length cg, .slice (some ⟨gl, 0, none⟩) (B.qs.length + 1) (B.qs.length + 1), .map (some M)] by rw [← hW]; exact ((blkNew hn0.symm).alloc _).alloc _)
  have bl := hide (show Blk W (n0 + 1) 23 #[.slice none 0 0] by rw [← hW]; exact (blkNew (by simp [hn0])).alloc _)
  have bf := hide (show Blk W (n0 + 2) 118 #[findV n0] by rw [← hW]; exact blkNew (by simp [hn0]))
  have hBW := hide (show Below w.heap.size w W by rw [← hW]; exact (((Below.refl _ _).alloc (Nat.le_refl _) _).alloc (by simp <;> omega) _).alloc (by simp <;> omega) _)
  have hF0 := hide (show Fnd w W n0 M B #[.slice Q B.qs.length cq, .slice Wd B.wanted.length cw, .int .i64 B.lo, .int .i64 B.hi, .slice (some ⟨gw, 0, none⟩) B.qs.length cg, .slice (some ⟨gl, 0, none⟩) (B.qs.length + 1) (B.qs.length + 1), .map (some M)] m [] (.slice none 0 0) from ⟨hn0, by rw [← hn0]; exact KeptM.of_below hBW.out, bf.out.lt, bv.out, bl.out, bf.out, ⟨fun _ h => (by cases h), .inl ⟨rfl, rfl⟩⟩, hK.below hBW.out, hM.out⟩)
  replace hW := hide hW
  clear hV hK hm0 bv bl bf hs4 hLe na nb nc nd
  go_enter Try.func58, Try.ntmps58
  go_upto_region 4 with fail
  rw [hW.out]
  refine region_cst [.func (.func 80) #[] #[.pointer (some ⟨n0, 0, none⟩), .pointer (some ⟨n0 + 1, 0, none⟩), .pointer (some ⟨n0 + 2, 0, none⟩)], .agg #[.slice Q B.qs.length cq, .slice Wd B.wanted.length cw, .int .i64 B.lo, .int .i64 B.hi, .slice (some ⟨gw, 0, none⟩) B.qs.length cg, .slice (some ⟨gl, 0, none⟩) (B.qs.length + 1) (B.qs.length + 1), .map (some M)], .agg #[.int .i64 0, .int .i64 a, .int .i64 b, .int .i64 c, .int .i64 d, .int .i64 0], .tuple #[]] (LJ w W n0 M B #[.slice Q B.qs.length cq, .slice Wd B.wanted.length cw, .int .i64 B.lo, .int .i64 B.hi, .slice (some ⟨gw, 0, none⟩) B.qs.length cg, .slice (some ⟨gl, 0, none⟩) (B.qs.length + 1) (B.qs.length + 1), .map (some M)] m (capF B.qs.length) L1 3) (by kernel_rfl) (by kernel_rfl) (LJ.start _ _ hF0.out) ?_ ?_
  · refine ⟨?_, ?_, ?_, ?_, trivial⟩
    · refine ⟨by kernel_rfl, ?_⟩
      intro Tf f y W4 Kq Qq hF hJ4 hf hd hK
      have t4 := hF.old 4 (.pointer (some ⟨n0 + 2, 0, none⟩)) (by kernel_rfl) (by kernel_rfl)
      clear hF hd
      have bx := hJ4.mem.2
      have cf : W4.cell? ⟨n0 + 2, 0, none⟩ = some (.func (.func 80) #[] #[.pointer (some ⟨n0, 0, none⟩), .pointer (some ⟨n0 + 1, 0, none⟩), .pointer (some ⟨n0 + 2, 0, none⟩)]) := bx.cell 0
      clear bx
      go_simp
      exact hK _ (LJ.other (j := 0) (by decide) _ _ hJ4)
    · refine ⟨by kernel_rfl, ?_⟩
      intro Tf f y W4 Kq Qq hF hJ4 hf hd hK
      have t1 := hF.old 1 (.pointer (some ⟨n0, 0, none⟩)) (by kernel_rfl) (by kernel_rfl)
      clear hF hd
      have bx := hJ4.mem.1
      have vc0 : W4.cell? ⟨n0, 0, none⟩ = some (.slice Q B.qs.length cq) := bx.cell 0
      have vc1 : W4.cell? ⟨n0, 1, none⟩ = some (.slice Wd B.wanted.length cw) := bx.cell 1
      have vc2 : W4.cell? ⟨n0, 2, none⟩ = some (.int .i64 B.lo) := bx.cell 2
      have vc3 : W4.cell? ⟨n0, 3, none⟩ = some (.int .i64 B.hi) := bx.cell 3
      have vc4 : W4.cell? ⟨n0, 4, none⟩ = some (.slice (some ⟨gw, 0, none⟩) B.qs.length cg) := bx.cell 4
      have vc5 : W4.cell? ⟨n0, 5, none⟩ = some (.slice (some ⟨gl, 0, none⟩) (B.qs.length + 1) (B.qs.length + 1)) := bx.cell 5
      have vc6 : W4.cell? ⟨n0, 6, none⟩ = some (.map (some M)) := bx.cell 6
      clear bx
      go_simp
      exact hK _ (LJ.other (j := 1) (by decide) _ _ hJ4)
    · refine ⟨by kernel_rfl, ?_⟩
      intro Tf f y W4 Kq Qq hF hJ4 hf hd hK
      have p1 : y 1 = .agg #[.slice Q B.qs.length cq, .slice Wd B.wanted.length cw, .int .i64 B.lo, .int .i64 B.hi, .slice (some ⟨gw, 0, none⟩) B.qs.length cg, .slice (some ⟨gl, 0, none⟩) (B.qs.length + 1) (B.qs.length + 1), .map (some M)] := (hd 1 (by kernel_rfl)).2 _ rfl
      have t7 := hF.get 1 7 (by kernel_rfl)
      rw [p1] at t7
      have hs := hSt.out W4 (hVk.out W4 hJ4.kw)
      clear hF hd
      go_simp
      refine hs.mono ?_
      rintro e w7 ⟨rfl, hb7⟩
      exact hK _ (LJ.below_ (by decide) hJ4 hb7)
    · refine ⟨by kernel_rfl, ?_⟩
      intro Tf f y W4 Kq Qq hF hJ4 hf hd hK
      have p0 : y 0 = .func (.func 80) #[] #[.pointer (some ⟨n0, 0, none⟩), .pointer (some ⟨n0 + 1, 0, none⟩), .pointer (some ⟨n0 + 2, 0, none⟩)] := (hd 0 (by kernel_rfl)).2 _ rfl
      have p2 : y 2 = .agg #[.int .i64 0, .int .i64 a, .int .i64 b, .int .i64 c, .int .i64 d, .int .i64 0] := (hd 2 (by kernel_rfl)).2 _ rfl
      have t6 := hF.get 0 6 (by kernel_rfl)
      rw [p0] at t6
      have t8 := hF.get 2 8 (by kernel_rfl)
      rw [p2] at t8
      have hq := hJ4.last hf
      have hs := hR.out W4 hq.1
      clear hF hd
      go_simp
      refine hs.mono ?_
      rintro e w7 ⟨rfl, sv7, h8, h9⟩
      exact hK _ (LJ.step hf hJ4 h8 h9)
  intro f y W8 hf hJ hE
  clear hE
  obtain ⟨sv1, h81, h82⟩ := hJ.ends (hf 3 (by decide))
  have hF8 := hide h81
  obtain ⟨A8, n8, c8, rfl⟩ := h81.row.shape
  have hso := Sort_own h81.row (by omega) (by omega)
  have hS := hide hso
  have cl : W8.cell? ⟨n0 + 1, 0, none⟩ = some (.slice A8 n8 c8) := h81.bl.cell 0
  clear h81 h82 hso hJ hf hF0 hR hSt
  simp only [putAll, Act.put]
  simp only [List.setIfInBounds_toArray, List.set_cons_succ, List.set_cons_zero]
  go_wp2_with fail
  refine hS.out.mono ?_
  rintro e w9 ⟨rfl, hrow9, hk9⟩
  clear cl
  have hF8o := hF8.out
  have hno : ∀ g, g < n0 + 3 → (Value.slice A8 n8 c8).ownBlock ≠ some g := fun g hg e => hF8o.row.not g e hg
  have hl9 : Blk w9 (n0 + 1) 23 #[.slice A8 n8 c8] := hk9.blk ⟨hF8o.bl.lt, hno _ (by omega)⟩ hF8o.bl
  have hk := hide (show KeptM w.heap.size M w w9 by rw [hn0]; exact hF8o.kw.trans (hk9.mono fun g hg => ⟨by have := hF8o.sz; omega, hno g (by omega)⟩))
  have hkn := hide (show KnownM w9 M B (m + 2 ^ 32) from (hF8o.kn.blk (hk9.block M ⟨by have := hF8o.sz; have := hM.out; omega, hno _ (by have := hM.out; omega)⟩)).more (by omega))
  have hrow := hide (show RowAt w9 (fun g => g < w.heap.size) 3 1 (.slice A8 n8 c8) ((sortI L1).map iCells) from hrow9.mono fun g hg hlt => hrow9.not g hg (by show g < n0 + 3; omega))
  have cl : w9.cell? ⟨n0 + 1, 0, none⟩ = some (.slice A8 n8 c8) := hl9.cell 0
  clear hF8o hno hl9 hk9 hrow9 hF8 hS
  go_wp2
  go_ret
  exact ⟨⟨_, rfl, hrow.out⟩, hk.out, hkn.out⟩
end Go.Proofs.Ytnmgnonbgihalaa
