import Derived.Test.YtnmgnonbgihalaaPc
import Derived.Test.YtnmgnonbgihalaaPk
/-
  Whether a list is a paper, step by step. Of no program.
-/
namespace Go.Proofs.Ytnmgnonbgihalaa

/-- Whether a list of numbers makes a stand a paper. -/
def isPB (B : Bank) : Nat → List Int → Int → List Int → Bool
  | _, n, l, [] => doneB B n l
  | k, n, l, x :: t => if inI k ((B.qs.length : Int) - 1) x = true then isPB B (x.toNat + 1) (dec n (partAt B x.toNat)) (l + wAt B x.toNat) t else false
def isP (B : Bank) (xs : List Int) : Bool := isPB B 0 (start4 B) 0 xs
/-- Indices as numbers. -/
def ints (q : List Nat) : List Int := q.map fun (x : Nat) => (x : Int)
theorem isPB_iff {B : Bank} (h4 : ∀ x, partAt B x < 4) : ∀ (xs : List Int) (k : Nat) (n : List Int) (l : Int), k ≤ B.qs.length → n.length = 4 → (isPB B k n l xs = true ↔ ∃ q : List Nat, xs = ints q ∧ Becomes B k (B.qs.length - k) n l q)
  | [], k, n, l, hk, hn => by
    unfold isPB
    have h1 := steps_done (B := B) h4 (n := n) (l := l) hn (k := k) (r := B.qs.length - k) (q := []) List.Pairwise.nil (fun x hx => (by cases hx))
    constructor
    · intro h
      exact ⟨[], rfl, h1.1 h⟩
    · rintro ⟨q, hq, hb⟩
      obtain rfl : q = [] := by
        cases q with
        | nil => rfl
        | cons y t => simp [ints] at hq
      exact h1.2 hb
  | x :: t, k, n, l, hk, hn => by
    unfold isPB
    by_cases hx : inI k ((B.qs.length : Int) - 1) x = true
    · rw [if_pos hx]
      have hx' := inI_iff.1 hx
      rw [isPB_iff h4 t (x.toNat + 1) _ _ (by omega) (by rw [dec_len]; exact hn)]
      constructor
      · rintro ⟨q, rfl, hb⟩
        refine ⟨x.toNat :: q, by simp [ints]; omega, List.pairwise_cons.2 ⟨fun y hy => by have := hb.rng y hy; omega, hb.asc⟩, fun y hy => ?_, fun p hp => ?_, ?_⟩
        · rcases List.mem_cons.1 hy with rfl | hy
          · omega
          · have := hb.rng y hy; omega
        · have h5 := hb.cnt p hp
          rw [dec_at hn (h4 _)] at h5
          rw [cnt_cons]
          by_cases e : partAt B x.toNat = p
          · rw [if_pos e]; rw [if_pos e.symm] at h5; omega
          · rw [if_neg e]; rw [if_neg (fun h => e h.symm)] at h5; omega
        · rw [lev_cons, ← Int.add_assoc]; exact hb.lev
      · rintro ⟨q, hq, hb⟩
        cases q with
        | nil => simp [ints] at hq
        | cons y u =>
          simp only [ints, List.map_cons, List.cons.injEq] at hq
          obtain ⟨rfl, rfl⟩ := hq
          have ha := List.pairwise_cons.1 hb.asc
          rw [Int.toNat_natCast]
          refine ⟨u, rfl, ha.2, fun z hz => ⟨ha.1 z hz, by have := hb.rng z (List.mem_cons_of_mem _ hz); omega⟩, fun p hp => ?_, ?_⟩
          · have h5 := hb.cnt p hp
            rw [cnt_cons] at h5
            rw [dec_at hn (h4 _)]
            by_cases e : partAt B y = p
            · rw [if_pos e] at h5; rw [if_pos e.symm]; omega
            · rw [if_neg e] at h5; rw [if_neg (fun h => e h.symm)]; omega
          · rw [Int.add_assoc, ← lev_cons]; exact hb.lev
    · rw [if_neg hx]
      constructor
      · intro h; cases h
      · rintro ⟨q, hq, hb⟩
        exfalso
        cases q with
        | nil => simp [ints] at hq
        | cons y u =>
          simp only [ints, List.map_cons, List.cons.injEq] at hq
          obtain ⟨rfl, rfl⟩ := hq
          have := hb.rng y (List.mem_cons_self ..)
          exact hx (inI_iff.2 (by omega))
theorem idx_skip {B : Bank} (h4 : ∀ x, partAt B x < 4) (hp : ∀ q ∈ B.qs, 0 ≤ q.part) {r k : Nat} {n : List Int} {l : Int} {x : Nat} {t : List Nat} (hk : k + r = B.qs.length) (hn : n.length = 4) (h : x :: t ∈ papersB B r k n l) (hx : x ≠ k) :
    k < x ∧ ∃ r', r = r' + 1 ∧ n ≠ zero4 ∧ canB B k n = true ∧ x :: t ∈ papersB B r' (k + 1) n l ∧ idxB B r k n l (x :: t) = countB B r' (k + 1) (dec n (partAt B k)) (l + wAt B k) + idxB B r' (k + 1) n l (x :: t) := by
  have hm := (mem_papersB h4 hp r k n l _ hk hn).1 h
  have h1 := hm.rng x (List.mem_cons_self ..)
  have hz : n ≠ zero4 := by
    intro e
    have := hm.cnt (partAt B x) (h4 x)
    rw [(zero_iff hn).1 e _ (h4 x), cnt_cons, if_pos rfl] at this
    omega
  have hpos : 0 < countB B r k n l := by
    unfold countB
    exact List.length_pos_of_mem h
  obtain ⟨r', rfl, hc⟩ := more_of hz hpos
  refine ⟨by omega, r', rfl, hz, hc, ?_, by rw [idxB, if_neg hx]⟩
  rw [papersB_step hz hc, List.mem_append, List.mem_map] at h
  rcases h with ⟨u, _, e⟩ | h
  · cases e; exact absurd rfl hx
  · exact h
theorem idx_take {B : Bank} (h4 : ∀ x, partAt B x < 4) (hp : ∀ q ∈ B.qs, 0 ≤ q.part) {r k : Nat} {n : List Int} {l : Int} {t : List Nat} (hk : k + r = B.qs.length) (hn : n.length = 4) (h : k :: t ∈ papersB B r k n l) :
    ∃ r', r = r' + 1 ∧ n ≠ zero4 ∧ canB B k n = true ∧ t ∈ papersB B r' (k + 1) (dec n (partAt B k)) (l + wAt B k) ∧ idxB B r k n l (k :: t) = idxB B r' (k + 1) (dec n (partAt B k)) (l + wAt B k) t := by
  have hm := (mem_papersB h4 hp r k n l _ hk hn).1 h
  have hz : n ≠ zero4 := by
    intro e
    have := hm.cnt (partAt B k) (h4 k)
    rw [(zero_iff hn).1 e _ (h4 k), cnt_cons, if_pos rfl] at this
    omega
  have hpos : 0 < countB B r k n l := by
    unfold countB
    exact List.length_pos_of_mem h
  obtain ⟨r', rfl, hc⟩ := more_of hz hpos
  refine ⟨r', rfl, hz, hc, ?_, by rw [idxB, if_pos rfl]⟩
  rw [papersB_step hz hc, List.mem_append, List.mem_map] at h
  rcases h with ⟨u, hu, e⟩ | h
  · cases e; exact hu
  · have := ((mem_papersB h4 hp r' (k + 1) n l _ (by omega) hn).1 h).rng k (List.mem_cons_self ..)
    omega
theorem idx_lt {B : Bank} (h4 : ∀ x, partAt B x < 4) (hp : ∀ q ∈ B.qs, 0 ≤ q.part) {r k : Nat} {n : List Int} {l : Int} {q : List Nat} (hk : k + r = B.qs.length) (hn : n.length = 4) (h : q ∈ papersB B r k n l) : idxB B r k n l q < countB B r k n l :=
  (List.getElem?_eq_some_iff.1 (idx_at h4 hp r k n l q hk hn h)).1
end Go.Proofs.Ytnmgnonbgihalaa

/-
  Whether a list is a paper (made by mkpa.py).
-/
namespace Go.Proofs.Ytnmgnonbgihalaa
open Go.RowKit RG

/-- What is needed behind some questions below k. -/
def Nd (k : Nat) (x : Int) : Prop := -(k : Int) ≤ x ∧ x ≤ 16
theorem Nd.small {k : Nat} {x : Int} (h : Nd k x) (hk : k ≤ 1000) : Small x := by unfold Nd at h; unfold Small; omega
theorem dec_nd {k j : Nat} (hj : k ≤ j) {a b c d : Int} (ha : Nd k a) (hb : Nd k b) (hc : Nd k c) (hd : Nd k d) {p : Nat} (hp : p < 4) : ∃ a' b' c' d', dec [a, b, c, d] p = [a', b', c', d'] ∧ Nd (j + 1) a' ∧ Nd (j + 1) b' ∧ Nd (j + 1) c' ∧ Nd (j + 1) d' := by
  unfold Nd at *
  match p, hp with
  | 0, _ => exact ⟨_, _, _, _, rfl, by simp; omega, by omega, by omega, by omega⟩
  | 1, _ => exact ⟨_, _, _, _, rfl, by omega, by simp; omega, by omega, by omega⟩
  | 2, _ => exact ⟨_, _, _, _, rfl, by omega, by omega, by simp; omega, by omega⟩
  | 3, _ => exact ⟨_, _, _, _, rfl, by omega, by omega, by omega, by simp; omega⟩
set_option maxRecDepth 100000 in
set_option maxHeartbeats 1000000 in
theorem isPaper_any (Q Wd : Option Addr) (cq cw gw cg gl M : Nat) (B : Bank) (A : Option Addr) (n cp : Nat) (xs : List Int) (w : World) (hB : BankOk B) (hV : VwR w Q Wd gw gl B) (hX : RdInts w A n xs) (hn : n ≤ maxLen) :
    Calls Try.prog 55 #[vwV Q Wd cq cw gw cg gl M B, .slice A n cp] w fun e w' => e = .returned (.bool (isP B xs)) ∧ Below w.heap.size w w' := by
  obtain ⟨a, b, c, d, hs4⟩ := four (start4_len hB.nw.2)
  obtain ⟨na, nb, nc, nd⟩ := start_ned hB hs4
  have hnq := hB.nq
  have hxl : xs.length = n := hX.1
  unfold maxLen at hn
  obtain ⟨R, hR⟩ : ∃ z, isP B xs = z := ⟨_, rfl⟩
  rw [hR]
  unfold isP at hR
  rw [hs4] at hR
  have hSt := hide (fun W (h : VwR W Q Wd gw gl B) => start_any Q Wd cq cw gw cg gl M B a b c d W h.ws hB hs4)
  have hWi := hide (fun (k : Nat) (a b c d a' b' c' d' l : Int) W (h : VwR W Q Wd gw gl B) (hk : k < B.qs.length) (ha : Small a) (hb : Small b) (hc : Small c) (hd : Small d) (hl : Small l) (hdec : dec [a, b, c, d] (partAt B k) = [a', b', c', d']) => with_any Q Wd cq cw gw cg gl M B k a b c d a' b' c' d' l W h hB hk ha hb hc hd hl hdec)
  have hDn := hide (fun (k a b c d l : Int) W (ha : Small a) (hb : Small b) (hc : Small c) (hd : Small d) => done_any Q Wd cq cw gw cg gl M B k a b c d l W ha hb hc hd)
  have hw1 := hide (fun (lo hi x : Int) (W : World) => within_one lo hi x W.heap.size 0 1 (W.alloc (.cells #[.int .i64 x] 3)) ((Blk.new W _ _).cell 0))
  unfold vwV stV at *
  obtain ⟨W, hW⟩ : ∃ y, w.alloc (.cells #[.slice Q B.qs.length cq, .slice Wd B.wanted.length cw, .int .i64 B.lo, .int .i64 B.hi, .slice (some ⟨gw, 0, none⟩) B.qs.length cg, .slice (some ⟨gl, 0, none⟩) (B.qs.length + 1) (B.qs.length + 1), .map (some M)] 85) = y := ⟨_, rfl⟩
  have bW0 := hide (show Blk W w.heap.size 85 #[.slice Q B.qs.length cq, .slice Wd B.wanted.length cw, .int .i64 B.lo, .int .i64 B.hi, .slice (some ⟨gw, 0, none⟩) B.qs.length cg, .slice (some ⟨gl, 0, none⟩) (B.qs.length + 1) (B.qs.length + 1), .map (some M)] by rw [← hW]; exact blkNew rfl)
  have hBW := hide (show Below w.heap.size w W by rw [← hW]; exact (Below.refl _ _).alloc (Nat.le_refl _) _)
  replace hW := hide hW
  have hVk := hide (fun W' (h : Below w.heap.size w W') => hV.below h)
  have hXk := hide (fun W' (h : Below w.heap.size w W') => hX.below h)
  clear hV hX
  have c0 : W.cell? ⟨w.heap.size, 0, none⟩ = some (.slice Q B.qs.length cq) := bW0.out.cell 0
  have c1 : W.cell? ⟨w.heap.size, 1, none⟩ = some (.slice Wd B.wanted.length cw) := bW0.out.cell 1
  have c2 : W.cell? ⟨w.heap.size, 2, none⟩ = some (.int .i64 B.lo) := bW0.out.cell 2
  have c3 : W.cell? ⟨w.heap.size, 3, none⟩ = some (.int .i64 B.hi) := bW0.out.cell 3
  have c4 : W.cell? ⟨w.heap.size, 4, none⟩ = some (.slice (some ⟨gw, 0, none⟩) B.qs.length cg) := bW0.out.cell 4
  have c5 : W.cell? ⟨w.heap.size, 5, none⟩ = some (.slice (some ⟨gl, 0, none⟩) (B.qs.length + 1) (B.qs.length + 1)) := bW0.out.cell 5
  have c6 : W.cell? ⟨w.heap.size, 6, none⟩ = some (.map (some M)) := bW0.out.cell 6
  replace hs4 := hide hs4
  go_enter Try.func55, Try.ntmps55
  go_upto_region 1 with fail
  rw [hW.out]
  go_wp2_with fail
  refine (hSt.out W (hVk.out W hBW.out)).mono ?_
  rintro e w1 ⟨rfl, hb1⟩
  have hbh := hide hb1
  have hB1 := hide (hBW.out.trans (hb1.mono hBW.out.size))
  have bW1 := hide (bW0.out.below hbh.out bW0.out.lt)
  have hlt1 := hide bW1.out.lt
  clear hb1 c0 c1 c2 c3 c4 c5 c6 hSt
  obtain ⟨W2, hW2⟩ : ∃ y, w1.alloc (.cells #[.int .i64 0, .int .i64 a, .int .i64 b, .int .i64 c, .int .i64 d, .int .i64 0] 113) = y := ⟨_, rfl⟩
  have bW20 := hide (show Blk W2 w1.heap.size 113 #[.int .i64 0, .int .i64 a, .int .i64 b, .int .i64 c, .int .i64 d, .int .i64 0] by rw [← hW2]; exact blkNew rfl)
  have hBW2 := hide (show Below w1.heap.size w1 W2 by rw [← hW2]; exact (Below.refl _ _).alloc (Nat.le_refl _) _)
  replace hW2 := hide hW2
  have hB2 := hide (hB1.out.trans (hBW2.out.mono hB1.out.size))
  go_upto_region 2 with fail
  rw [hW2.out]
  have hnd0 : Nd 0 a ∧ Nd 0 b ∧ Nd 0 c ∧ Nd 0 d ∨ True := .inr trivial
  clear hnd0
  have hn0 : Nd 1 a ∧ Nd 1 b ∧ Nd 1 c ∧ Nd 1 d := by unfold Ned at na nb nc nd; unfold Nd; omega
  replace hn0 := hide hn0
  go_wp2
  go_loopg [7, 12] n (fun g _ s12 wr => ∃ j k : Nat, ∃ a b c d l : Int, j ≤ n ∧ n ≤ g + j ∧ s12 = .int .i64 j ∧ k ≤ B.qs.length ∧ Hid (Nd (k + 1) a ∧ Nd (k + 1) b ∧ Nd (k + 1) c ∧ Nd (k + 1) d) ∧ 0 ≤ l ∧ l ≤ 1000 * k ∧ Hid (Blk wr w1.heap.size 113 #[.int .i64 k, .int .i64 a, .int .i64 b, .int .i64 c, .int .i64 d, .int .i64 l]) ∧ Hid (isPB B k [a, b, c, d] l (xs.drop j) = R) ∧ Hid (Below w1.heap.size w1 wr))
  case atStart => exact ⟨0, 0, a, b, c, d, 0, Nat.zero_le _, by omega, rfl, Nat.zero_le _, hn0.out, by omega, by omega, bW20.out, hR, hBW2.out⟩
  case round =>
    clear hn0 hR na nb nc nd bW20 hB2 hBW2
    obtain ⟨j, k, a2, b2, c2, d2, l, hj, hg, rfl, hk, hnd, hl0, hl1, hks, hpb, hBr⟩ := hrel
    have hBw := hide (hB1.out.trans (hBr.out.mono hB1.out.size))
    have hwl : w.heap.size < w1.heap.size := hlt1.out
    have hbv := hide (bW1.out.below hBr.out hwl)
    have sm := hnd.out
    have sa : Small a2 := sm.1.small (by omega)
    have sb : Small b2 := sm.2.1.small (by omega)
    have sc : Small c2 := sm.2.2.1.small (by omega)
    have sd : Small d2 := sm.2.2.2.small (by omega)
    have sl : Small l := by unfold Small; omega
    by_cases hlt : j < n
    · have hltz : (j : Int) < (n : Int) := by omega
      have hj0 : (0 : Int) ≤ (j : Int) := by omega
      obtain ⟨bx, ox, rfl, hbx, hcx⟩ := (hXk.out wr hBw.out).2 (by omega)
      have x0 := hcx j hlt
      have hdj : xs.drop j = (xs[j]?.getD 0) :: xs.drop (j + 1) := by
        rw [List.drop_eq_getElem_cons (by omega), List.getElem?_eq_getElem (by omega)]; rfl
      have hpb2 := hpb.out
      rw [hdj] at hpb2
      unfold isPB at hpb2
      clear hcx hdj
      generalize xs[j]?.getD 0 = x at *
      have hc1 := hide (hw1.out k ((B.qs.length : Int) - 1) x wr)
      have u1 : IntKind.i64.wrap ((B.qs.length : Int) - 1) = (B.qs.length : Int) - 1 := by rw [IntKind.wrap_i64]; omega
      rw [show inI (k : Int) ((B.qs.length : Int) - 1) x = inB k ((B.qs.length : Int) - 1) x from rfl] at hpb2
      obtain ⟨q, hq⟩ : ∃ q, inB (k : Int) ((B.qs.length : Int) - 1) x = q := ⟨_, rfl⟩
      rw [hq] at hc1 hpb2
      have vc0 : wr.cell? ⟨w.heap.size, 0, none⟩ = some (.slice Q B.qs.length cq) := hbv.out.cell 0
      have s0 : wr.cell? ⟨w1.heap.size, 0, none⟩ = some (.int .i64 k) := hks.out.cell 0
      cases q with
      | false =>
        rw [if_neg (by decide)] at hpb2
        subst hpb2
        replace hq := hide hq
        go_wp2_with fail
        refine hc1.out.mono ?_
        rintro e w2 ⟨rfl, rfl⟩
        have hB3 := hide (hBw.out.alloc hBw.out.size (.cells #[.int .i64 x] 3))
        clear x0 vc0 s0
        go_wp2
        go_ret
        exact ⟨rfl, hB3.out⟩
      | true =>
        rw [if_pos rfl] at hpb2
        obtain ⟨hq1, hq2⟩ := inB_iff.1 hq
        obtain ⟨kx, rfl⟩ : ∃ kx : Nat, x = (kx : Int) := ⟨x.toNat, by omega⟩
        rw [Int.toNat_natCast] at hpb2
        have hkx : kx < B.qs.length := by omega
        have hkk : k ≤ kx := by omega
        obtain ⟨a', b', c', d', hdec, n1, n2, n3, n4⟩ := dec_nd (j := kx + 1) (by omega) sm.1 sm.2.1 sm.2.2.1 sm.2.2.2 (part4 hB kx)
        have hwk := wAt_bd hB kx
        rw [hdec] at hpb2
        have hcw := hide (fun W (h : VwR W Q Wd gw gl B) => hWi.out kx a2 b2 c2 d2 a' b' c' d' l W h hkx sa sb sc sd sl hdec)
        generalize wAt B kx = wk at *
        have hnn : Nd (kx + 1 + 1) a' ∧ Nd (kx + 1 + 1) b' ∧ Nd (kx + 1 + 1) c' ∧ Nd (kx + 1 + 1) d' := ⟨n1, n2, n3, n4⟩
        replace hnn := hide hnn
        replace hq := hide hq
        replace hpb2 := hide hpb2
        clear sm sa sb sc sd hdec
        go_wp2_with fail
        refine hc1.out.mono ?_
        rintro e w2 ⟨rfl, rfl⟩
        have hlw : w1.heap.size < wr.heap.size := hks.out.lt
        have ks2 := hide (hks.out.alloc (.cells #[.int .i64 (kx : Int)] 3))
        have kv2 := hide (hbv.out.alloc (.cells #[.int .i64 (kx : Int)] 3))
        have hB3 := hide (hBr.out.alloc hBr.out.size (.cells #[.int .i64 (kx : Int)] 3))
        clear x0 vc0 s0
        generalize wr.alloc (.cells #[.int .i64 (kx : Int)] 3) = w3 at *
        obtain ⟨w4, hw4⟩ : ∃ y, w3.setCell ⟨w1.heap.size, 0, none⟩ (.int .i64 (kx : Int)) = y := ⟨_, rfl⟩
        have ks4 := hide (show Blk w4 w1.heap.size 113 #[.int .i64 (kx : Int), .int .i64 a2, .int .i64 b2, .int .i64 c2, .int .i64 d2, .int .i64 l] by rw [← hw4]; exact ks2.out.set_ 0 (.int .i64 (kx : Int)))
        have kv4 := hide (show Blk w4 w.heap.size 85 #[.slice Q B.qs.length cq, .slice Wd B.wanted.length cw, .int .i64 B.lo, .int .i64 B.hi, .slice (some ⟨gw, 0, none⟩) B.qs.length cg, .slice (some ⟨gl, 0, none⟩) (B.qs.length + 1) (B.qs.length + 1), .map (some M)] by rw [← hw4]; exact kv2.out.far (p := ⟨w1.heap.size, 0, none⟩) (by show w.heap.size ≠ w1.heap.size; omega) _)
        have hB4 := hide (show Below w1.heap.size w1 w4 by rw [← hw4]; exact hB3.out.setCell (p := ⟨w1.heap.size, 0, none⟩) (Nat.le_refl _) _)
        have hB4w := hide (hB1.out.trans (hB4.out.mono hB1.out.size))
        have s0 : w3.cell? ⟨w1.heap.size, 0, none⟩ = some (.int .i64 k) := ks2.out.cell 0
        have z0 := ks2.out.frozen 0
        replace hw4 := hide hw4
        go_upto_region 8 with fail
        rw [hw4.out]
        clear s0 z0
        have vc0 : w4.cell? ⟨w.heap.size, 0, none⟩ = some (.slice Q B.qs.length cq) := kv4.out.cell 0
        have vc1 : w4.cell? ⟨w.heap.size, 1, none⟩ = some (.slice Wd B.wanted.length cw) := kv4.out.cell 1
        have vc2 : w4.cell? ⟨w.heap.size, 2, none⟩ = some (.int .i64 B.lo) := kv4.out.cell 2
        have vc3 : w4.cell? ⟨w.heap.size, 3, none⟩ = some (.int .i64 B.hi) := kv4.out.cell 3
        have vc4 : w4.cell? ⟨w.heap.size, 4, none⟩ = some (.slice (some ⟨gw, 0, none⟩) B.qs.length cg) := kv4.out.cell 4
        have vc5 : w4.cell? ⟨w.heap.size, 5, none⟩ = some (.slice (some ⟨gl, 0, none⟩) (B.qs.length + 1) (B.qs.length + 1)) := kv4.out.cell 5
        have vc6 : w4.cell? ⟨w.heap.size, 6, none⟩ = some (.map (some M)) := kv4.out.cell 6
        have s0 : w4.cell? ⟨w1.heap.size, 0, none⟩ = some (.int .i64 (kx : Int)) := ks4.out.cell 0
        have s1 : w4.cell? ⟨w1.heap.size, 1, none⟩ = some (.int .i64 a2) := ks4.out.cell 1
        have s2 : w4.cell? ⟨w1.heap.size, 2, none⟩ = some (.int .i64 b2) := ks4.out.cell 2
        have s3 : w4.cell? ⟨w1.heap.size, 3, none⟩ = some (.int .i64 c2) := ks4.out.cell 3
        have s4 : w4.cell? ⟨w1.heap.size, 4, none⟩ = some (.int .i64 d2) := ks4.out.cell 4
        have s5 : w4.cell? ⟨w1.heap.size, 5, none⟩ = some (.int .i64 l) := ks4.out.cell 5
        go_wp2_with fail
        refine (hcw.out w4 (hVk.out w4 hB4w.out)).mono ?_
        rintro e w5 ⟨rfl, hb5⟩
        have ks5 := hide (ks4.out.below hb5 ks4.out.lt)
        have hB5 := hide (hB4.out.trans (hb5.mono hB4.out.size))
        clear hb5 vc0 vc1 vc2 vc3 vc4 vc5 vc6 s0 s1 s2 s3 s4 s5
        have s0 : w5.cell? ⟨w1.heap.size, 0, none⟩ = some (.int .i64 (kx : Int)) := ks5.out.cell 0
        have s1 : w5.cell? ⟨w1.heap.size, 1, none⟩ = some (.int .i64 a2) := ks5.out.cell 1
        have s2 : w5.cell? ⟨w1.heap.size, 2, none⟩ = some (.int .i64 b2) := ks5.out.cell 2
        have s3 : w5.cell? ⟨w1.heap.size, 3, none⟩ = some (.int .i64 c2) := ks5.out.cell 3
        have s4 : w5.cell? ⟨w1.heap.size, 4, none⟩ = some (.int .i64 d2) := ks5.out.cell 4
        have s5 : w5.cell? ⟨w1.heap.size, 5, none⟩ = some (.int .i64 l) := ks5.out.cell 5
        have z0 := ks5.out.frozen 0
        have z1 := ks5.out.frozen 1
        have z2 := ks5.out.frozen 2
        have z3 := ks5.out.frozen 3
        have z4 := ks5.out.frozen 4
        have z5 := ks5.out.frozen 5
        have ks6 := hide ((((((ks5.out.set_ 0 (.int .i64 ((kx : Int) + 1))).set_ 1 (.int .i64 a')).set_ 2 (.int .i64 b')).set_ 3 (.int .i64 c')).set_ 4 (.int .i64 d')).set_ 5 (.int .i64 (l + wk)))
        have hB6 := hide ((((((hB5.out.setCell (p := ⟨w1.heap.size, 0, none⟩) (Nat.le_refl _) (.int .i64 ((kx : Int) + 1))).setCell (p := ⟨w1.heap.size, 1, none⟩) (Nat.le_refl _) (.int .i64 a')).setCell (p := ⟨w1.heap.size, 2, none⟩) (Nat.le_refl _) (.int .i64 b')).setCell (p := ⟨w1.heap.size, 3, none⟩) (Nat.le_refl _) (.int .i64 c')).setCell (p := ⟨w1.heap.size, 4, none⟩) (Nat.le_refl _) (.int .i64 d')).setCell (p := ⟨w1.heap.size, 5, none⟩) (Nat.le_refl _) (.int .i64 (l + wk)))
        go_wp2
        clear s0 s1 s2 s3 s4 s5 z0 z1 z2 z3 z4 z5
        go_roundg (n - (j + 1))
        case measure => omega
        case rel => exact ⟨j + 1, kx + 1, a', b', c', d', l + wk, by omega, by omega, by go_num, by omega, hnn.out, by omega, by omega, ks6.out, hpb2.out, hB6.out⟩
    · have hltz : ¬ (j : Int) < (n : Int) := by omega
      have hpb2 := hpb.out
      rw [List.drop_of_length_le (by omega)] at hpb2
      unfold isPB at hpb2
      have hd := hide (hDn.out k a2 b2 c2 d2 l wr sa sb sc sd)
      rw [hpb2] at hd
      replace hpb2 := hide hpb2
      have vc0 : wr.cell? ⟨w.heap.size, 0, none⟩ = some (.slice Q B.qs.length cq) := hbv.out.cell 0
      have vc1 : wr.cell? ⟨w.heap.size, 1, none⟩ = some (.slice Wd B.wanted.length cw) := hbv.out.cell 1
      have vc2 : wr.cell? ⟨w.heap.size, 2, none⟩ = some (.int .i64 B.lo) := hbv.out.cell 2
      have vc3 : wr.cell? ⟨w.heap.size, 3, none⟩ = some (.int .i64 B.hi) := hbv.out.cell 3
      have vc4 : wr.cell? ⟨w.heap.size, 4, none⟩ = some (.slice (some ⟨gw, 0, none⟩) B.qs.length cg) := hbv.out.cell 4
      have vc5 : wr.cell? ⟨w.heap.size, 5, none⟩ = some (.slice (some ⟨gl, 0, none⟩) (B.qs.length + 1) (B.qs.length + 1)) := hbv.out.cell 5
      have vc6 : wr.cell? ⟨w.heap.size, 6, none⟩ = some (.map (some M)) := hbv.out.cell 6
      have s0 : wr.cell? ⟨w1.heap.size, 0, none⟩ = some (.int .i64 k) := hks.out.cell 0
      have s1 : wr.cell? ⟨w1.heap.size, 1, none⟩ = some (.int .i64 a2) := hks.out.cell 1
      have s2 : wr.cell? ⟨w1.heap.size, 2, none⟩ = some (.int .i64 b2) := hks.out.cell 2
      have s3 : wr.cell? ⟨w1.heap.size, 3, none⟩ = some (.int .i64 c2) := hks.out.cell 3
      have s4 : wr.cell? ⟨w1.heap.size, 4, none⟩ = some (.int .i64 d2) := hks.out.cell 4
      have s5 : wr.cell? ⟨w1.heap.size, 5, none⟩ = some (.int .i64 l) := hks.out.cell 5
      go_wp2_with fail
      refine hd.out.mono ?_
      rintro e w2 ⟨rfl, hb⟩
      have hB3 := hide (hBw.out.trans (hb.mono hBw.out.size))
      clear hb
      go_wp2
      go_ret
      exact ⟨rfl, hB3.out⟩
end Go.Proofs.Ytnmgnonbgihalaa
