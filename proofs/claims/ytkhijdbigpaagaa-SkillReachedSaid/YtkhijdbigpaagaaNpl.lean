import Derived.Test.YtkhijdbigpaagaaNaf
import Derived.Test.YtkhijdbigpaagaaNm
import Derived.Test.YtkhijdbigpaagaaNi
import Derived.Test.YtkhijdbigpaagaaNea
import Derived.Test.YtkhijdbigpaagaaNn
import Derived.Test.YtkhijdbigpaagaaNj
/-
  The reference's Raised.
-/
namespace Go.Proofs.Ytkhijdbigpaagaa
open Go.RowKit RG

/-- A range after x lessons. -/
def raise1 (s : Skl) (r : Sp) (x : Int) : Sp := (lim (r.1 + x * s.gl), lim (r.2 + x * s.gh))
/-- Ranges after the lessons of a plan. -/
def raisedL (S : Sch) (rs : List Sp) (pl : List Int) : List Sp := (List.range rs.length).map fun i => raise1 (S.sks[i]?.getD default) (rs[i]?.getD (0, 0)) (pl[i]?.getD 0)
theorem raisedL_at (S : Sch) (rs : List Sp) (pl : List Int) {i : Nat} (hi : i < rs.length) : (raisedL S rs pl)[i]?.getD (0, 0) = raise1 (S.sks[i]?.getD default) (rs[i]?.getD (0, 0)) (pl[i]?.getD 0) := by simp [raisedL, hi]
theorem raisedL_lo (S : Sch) (rs : List Sp) (pl : List Int) : (raisedL S rs pl).map (fun s : Sp => s.1) = lowF S rs pl rs.length := by
  unfold raisedL lowF
  rw [List.map_map]
  rfl

set_option maxRecDepth 100000 in
set_option maxHeartbeats 8000000 in
theorem Raised_any (A A2 L Q : Option Addr) (n c n2 c2 k cl cq : Nat) (S : Sch) (rs : List Sp) (pl : List Int) (w : World) (hn : S.sks.length = n) (hsk : RdRow w A n 5 (S.sks.map skCells)) (hls : RdRow w L k 2 (rs.map tkCells)) (hpl : RdInts w Q k pl) (hkn : k ≤ n) (hn5 : n ≤ 5)
    (hf : ∀ i, i < n → 0 ≤ (S.sks[i]?.getD default).gl ∧ (S.sks[i]?.getD default).gl ≤ 1000 ∧ 0 ≤ (S.sks[i]?.getD default).gh ∧ (S.sks[i]?.getD default).gh ≤ 1000) (hr : InRs rs) (hp8 : ∀ i, i < k → 0 ≤ pl[i]?.getD 0 ∧ pl[i]?.getD 0 ≤ 8) :
    Calls Try.prog 50 #[.agg #[.slice A n c, .slice A2 n2 c2], .slice L k cl, .slice Q k cq] w fun e w' => (∃ v, e = .returned v ∧ w'.ownsRow w.heap.size 32 2 v k ((raisedL S rs pl).flatMap tkCells)) ∧ Below w.heap.size w w' := by
  have hkl : rs.length = k := by have := hls.1; simpa using this
  have hwl : (raisedL S rs pl).length = k := by simp [raisedL, hkl]
  have hwa := hide (fun j (hj : j < k) => raisedL_at S rs pl (i := j) (by omega))
  have htk := hide (fun j (hj : j < k) => takeTk (raisedL S rs pl) j (by omega))
  generalize raisedL S rs pl = T at *
  have hplB := hide (fun W (hb : Below w.heap.size w W) => hpl.below hb)
  replace hp8 := hide hp8
  have hlsB := hide (fun W (hb : Below w.heap.size w W) => hls.below hb)
  have hskB := hide (fun W (hb : Below w.heap.size w W) => hsk.below hb)
  have hcel := hide (fun j (hj : j < k) => show ((rs.map tkCells)[j]?.getD []) = tkCells (rs[j]?.getD (0, 0)) by
    rw [map_at tkCells rs j (by omega), show rs[j]?.getD default = rs[j]?.getD (0, 0) by rw [List.getElem?_eq_getElem (by omega)]; rfl])
  have hcel2 := hide (fun j (hj : j < k) => sk_at S.sks j (by omega))
  obtain ⟨i0, hi, hz0, hz1, hz2⟩ := info_parts infoSp
  replace hi := hide hi
  replace hz0 := hide hz0
  replace hz1 := hide hz1
  replace hz2 := hide hz2
  clear hsk hls hpl
  replace hkl := hide hkl
  replace hwl := hide hwl
  replace hf := hide hf
  replace hr := hide hr
  replace hn := hide hn
  have hB1 := hide (show Below w.heap.size w (w.alloc (.cells #[.slice A n c, .slice A2 n2 c2] 25)) from (Below.refl _ _).alloc (Nat.le_refl _) _)
  have k1 := hide (show Blk (w.alloc (.cells #[.slice A n c, .slice A2 n2 c2] 25)) w.heap.size 25 #[.slice A n c, .slice A2 n2 c2] from blkNew (by simp))
  have hs1 := hide (show (w.alloc (.cells #[.slice A n c, .slice A2 n2 c2] 25)).heap.size = w.heap.size + 1 by simp)
  go_enter Try.func50, Try.ntmps50
  go_wp2
  generalize (w.alloc (.cells #[.slice A n c, .slice A2 n2 c2] 25)) = w1 at *
  have hz3 := k1.out.lt
  go_loopg [7, 8, 9] k (fun gg s7 s8 _ wr => ∃ j : Nat, j ≤ k ∧ k ≤ gg + j ∧ s8 = .int .i64 j ∧ Hid (Below w1.heap.size w1 wr) ∧ Hid (wr.ownsRow w1.heap.size 32 2 s7 j ((T.take j).flatMap tkCells)))
  case atStart => exact ⟨0, Nat.zero_le _, by omega, rfl, Below.refl _ _, World.ownsRow_nil _ _ _ _⟩
  case round =>
    obtain ⟨j, hj, hgg, rfl, hBr, ho1⟩ := hrel
    by_cases hlt : j < k
    · have hltz : (j : Int) < (k : Int) := by omega
      have hltn : (j : Int) < (n : Int) := by omega
      have hBw := hide (hB1.out.trans (hBr.out.mono hB1.out.size))
      have hcj := hcel.out j hlt
      have hsj := htk.out j hlt
      rw [hwa.out j hlt] at hsj
      unfold raise1 at hsj
      simp only at hsj
      obtain ⟨b, off, x0, x1, rfl, hb, hx, c0, c1⟩ := (hlsB.out wr hBw.out).cells2 hlt
      rw [hcj] at hx
      unfold tkCells at hx
      simp only [List.cons.injEq, and_true] at hx
      obtain ⟨rfl, rfl⟩ := hx
      have hb1 := hr.out j (by rw [hkl.out]; exact hlt)
      have hb3 := hf.out j (by omega)
      obtain ⟨b3, off3, y0, y1, y2, y3, y4, rfl, hb3', hy, d0, d1, d2, d3, d4⟩ := (hskB.out wr hBw.out).cells5 (show j < n by omega)
      rw [hcel2.out j hlt] at hy
      unfold skCells at hy
      simp only [List.cons.injEq, and_true] at hy
      obtain ⟨rfl, rfl, rfl, rfl, rfl⟩ := hy
      have hpj := hp8.out j hlt
      obtain ⟨bq, offq, rfl, hbq, hcq⟩ := (hplB.out wr hBw.out).2 (by omega)
      have cq0 := hcq j hlt
      clear d0 d3 d4 hcq
      generalize (rs[j]?.getD (0, 0)).1 = lo at *
      generalize (rs[j]?.getD (0, 0)).2 = hi' at *
      generalize (S.sks[j]?.getD default).gl = fl at *
      generalize (S.sks[j]?.getD default).gh = fh at *
      generalize pl[j]?.getD 0 = m at *
      clear hcj
      have hm0 : 0 ≤ m * fh := Int.mul_nonneg hpj.1 hb3.2.2.1
      have hm1 : m * fh ≤ 8 * 1000 := Int.mul_le_mul hpj.2 hb3.2.2.2 hb3.2.2.1 (by omega)
      have hm2 : 0 ≤ m * fl := Int.mul_nonneg hpj.1 hb3.1
      have hm3 : m * fl ≤ 8 * 1000 := Int.mul_le_mul hpj.2 hb3.2.1 hb3.1 (by omega)
      obtain ⟨p, hp⟩ : ∃ x, m * fl = x := ⟨_, rfl⟩
      obtain ⟨q, hq⟩ : ∃ x, m * fh = x := ⟨_, rfl⟩
      have hw1 : IntKind.i64.wrap (m * fl) = p := by rw [IntKind.wrap_i64]; omega
      have hw2 : IntKind.i64.wrap (m * fh) = q := by rw [IntKind.wrap_i64]; omega
      have hw3 : IntKind.i64.wrap (lo + p) = lo + p := by rw [IntKind.wrap_i64]; omega
      have hw4 : IntKind.i64.wrap (hi' + q) = hi' + q := by rw [IntKind.wrap_i64]; omega
      rw [hp, hq] at hsj
      clear hp hq hm0 hm1 hm2 hm3 hb1 hb3 hpj
      obtain ⟨u, hu⟩ : ∃ x, lim (lo + p) = x := ⟨_, rfl⟩
      obtain ⟨v, hv⟩ : ∃ x, lim (hi' + q) = x := ⟨_, rfl⟩
      have hL1 := hide (fun W => Within_any (lo + p) W)
      have hL2 := hide (fun W => Within_any (hi' + q) W)
      rw [hu] at hsj hL1
      rw [hv] at hsj hL2
      clear hu hv
      replace hsj := hide hsj
      have hsr := hBr.out.size
      have kb := hide (blkNew (w := wr) (t := 32) (cs := #[.int .i64 fl, .int .i64 fh]) rfl)
      have kk := (k1.out.below hBr.out hz3).alloc (.cells #[.int .i64 fl, .int .i64 fh] 32)
      have s0 : wr.cell? ⟨w.heap.size, 0, none⟩ = some (.slice (some ⟨b3, off3, none⟩) n c) := (k1.out.below hBr.out hz3).cell 0
      have kbf := hide kk
      have c0' := hide c0
      have c1' := hide c1
      have cq' := hide cq0
      clear kk c0 c1 cq0
      go_wp2
      clear s0 d1 d2
      have hB0 := hide (hBw.out.alloc (by have := hBw.out.size; omega) (.cells #[.int .i64 fl, .int .i64 fh] 32))
      have hBr0 := hide (hBr.out.alloc hsr (.cells #[.int .i64 fl, .int .i64 fh] 32))
      have ho0 := hide (ho1.out.alloc (.cells #[.int .i64 fl, .int .i64 fh] 32))
      have z0 : wr.heap.size < (wr.alloc (.cells #[.int .i64 fl, .int .i64 fh] 32)).heap.size := by simp
      have p0 : (wr.alloc (.cells #[.int .i64 fl, .int .i64 fh] 32)).cell? ⟨b, off + j * 2, none⟩ = some (.int .i64 lo) := (cellB (o := off + j * 2) ((Below.refl wr.heap.size wr).alloc (Nat.le_refl _) _) hb).trans c0'.out
      have p1 : (wr.alloc (.cells #[.int .i64 fl, .int .i64 fh] 32)).cell? ⟨b, off + j * 2 + 1, none⟩ = some (.int .i64 hi') := (cellB (o := off + j * 2 + 1) ((Below.refl wr.heap.size wr).alloc (Nat.le_refl _) _) hb).trans c1'.out
      have p2 : (wr.alloc (.cells #[.int .i64 fl, .int .i64 fh] 32)).cell? ⟨bq, offq + j, none⟩ = some (.int .i64 m) := (cellB (o := offq + j) ((Below.refl wr.heap.size wr).alloc (Nat.le_refl _) _) hbq).trans cq'.out
      clear c0' c1' cq'
      generalize (wr.alloc (.cells #[.int .i64 fl, .int .i64 fh] 32)) = W0 at *
      have zb := kb.out.lt
      have zs := kbf.out.lt
      have zb2 : b < W0.heap.size := by omega
      have zbq : bq < W0.heap.size := by omega
      refine region_grow_tail 31 [IsV u7, IsV (.slice (some ⟨b, off, none⟩) k cl), IsV (.int .i64 j), IsV (.pointer (some ⟨b, off + j * 2, none⟩)), IsV (.pointer (some ⟨b, off + j * 2, none⟩)), IsV (.int .i64 lo), IsV (.slice (some ⟨bq, offq, none⟩) k cq), IsV (.int .i64 j), IsV (.pointer (some ⟨bq, offq + j, none⟩)), IsV (.int .i64 m), IsV (.pointer (some ⟨wr.heap.size, 0, none⟩)), IsV (.int .i64 fl), IsV (.int .i64 p), IsV (.int .i64 (lo + p)), IsV (.int .i64 u),
        IsV (.slice (some ⟨b, off, none⟩) k cl), IsV (.int .i64 j), IsV (.pointer (some ⟨b, off + j * 2, none⟩)), IsV (.pointer (some ⟨b, off + j * 2 + 1, none⟩)), IsV (.int .i64 hi'), IsV (.slice (some ⟨bq, offq, none⟩) k cq), IsV (.int .i64 j), IsV (.pointer (some ⟨bq, offq + j, none⟩)), IsV (.int .i64 m), IsV (.pointer (some ⟨wr.heap.size, 1, none⟩)), IsV (.int .i64 fh), IsV (.int .i64 q), IsV (.int .i64 (hi' + q)), IsV (.int .i64 v),
        IsV (.agg #[.int .i64 u, .int .i64 v]), IsOneSp u v] (by kernel_rfl) (by kernel_rfl) rfl ?_ ?_ ?_
      · simp [AllStb, IsV.stb, IsOneSp.stb]
      · refine ⟨?_, ?_, ?_, ?_, ?_, ?_, ?_, ?_, ?_, ?_, ?_, ?_, ?_, ?_, ?_, ?_, ?_, ?_, ?_, ?_, ?_, ?_, ?_, ?_, ?_, ?_, ?_, ?_, ?_, ?_, ?_, trivial⟩
        all_goals
          intro y w6 K Qq Cv hC hd hV
          have q0 : w6.cell? ⟨wr.heap.size, 0, none⟩ = some (.int .i64 fl) := (kb.out.below hC zb).cell 0
          have q1 : w6.cell? ⟨wr.heap.size, 1, none⟩ = some (.int .i64 fh) := (kb.out.below hC zb).cell 1
          have q2 := (cellB (o := off + j * 2) hC zb2).trans p0
          have q3 := (cellB (o := off + j * 2 + 1) hC zb2).trans p1
          have q4 := (cellB (o := offq + j) hC zbq).trans p2
          have hz6 := hC.size
          simp [deps, VL, IsV, Region.binds] at hd
          simp only [List.take_succ_cons, List.take_zero, putAll, Act.put]
          go_simp; intro hK
        iterate 30 (first | exact hK _ _ (hV _ _ hC (Below.refl _ _) rfl) | skip)
        all_goals first
          | exact hK _ _ (hV _ _ hC (Below.refl _ _) rfl)
          | (refine (hL1.out _).mono ?_; rintro e w7 ⟨rfl, rfl⟩; exact hK _ _ (hV _ _ hC (Below.refl _ _) rfl))
          | (refine (hL2.out _).mono ?_; rintro e w7 ⟨rfl, rfl⟩; exact hK _ _ (hV _ _ hC (Below.refl _ _) rfl))
          | exact hK _ _ (hV _ _ (hC.alloc hz6 _) ((Below.refl _ _).alloc (Nat.le_refl _) _) ⟨_, _, rfl, by simp, by simp⟩)
      · intro y w6 hC hd
        simp [EndsL, IsV] at hd
        obtain ⟨d0, d1, d2, d3, d4, d5, d6, d7, d8, d9, d10, d11, d12, d13, d14, d15, d16, d17, d18, d19, d20, d21, d22, d23, d24, d25, d26, d27, d28, d29, ⟨g2, cc2, d30, hc2, hc3⟩⟩ := hd
        simp only [List.take_succ_cons, List.take_zero, List.drop_succ_cons, List.drop_zero, putAll, Act.put]
        rw [d0, d30]
        clear d0 d1 d2 d3 d4 d5 d6 d7 d8 d9 d10 d11 d12 d13 d14 d15 d16 d17 d18 d19 d20 d21 d22 d23 d24 d25 d26 d27 d28 d29 d30
        simp only [List.setIfInBounds_toArray, List.set_cons_succ, List.set_cons_zero]
        have hB6 := hide (hBr0.out.trans (hC.mono hBr0.out.size))
        have hs6 := hB6.out.size
        have ho6 := own_below ho0.out hC
        clear hC
        go_wp2_with (at_builtin; refine wpList_append_own _ rfl _ _ 37 rfl w1.heap.size 32 i0 (.agg #[.int .i64 0, .int .i64 0]) 2 16 Try.underlying37 hi.out hz0.out hz1.out hz2.out rfl (by decide) _ _ _ rfl ho6 ⟨g2, 0, none⟩ 1 cc2 [.int .i64 u, .int .i64 v] rfl rfl (cells_two hc2 hc3) (by simp [Value.oneCell']) (by unfold maxLen; omega) (by omega) (by omega) ?_; intro v' w7 hown7 hgrow7 _)
        have hB7 := hide (hB6.out.grown hgrow7 (by omega) (fun k hk => (ho6.lt k hk).1))
        replace hown7 := hide hown7
        clear hgrow7 ho6
        go_wp2
        go_roundg (k - (j + 1))
        case measure => omega
        case rel =>
          refine ⟨j + 1, by omega, by omega, by go_num, hB7.out, ?_⟩
          unfold Hid
          rw [hsj.out]
          exact hown7.out
    · have hltz : ¬ (j : Int) < (k : Int) := by omega
      obtain rfl : j = k := by omega
      have hres : wr.ownsRow w.heap.size 32 2 u7 j (T.flatMap tkCells) := by
        have h := ho1.out
        rw [List.take_of_length_le (by rw [hwl.out]; exact Nat.le_refl _)] at h
        exact own_mono h (by rw [hs1.out]; omega)
      have hBw := hide (hB1.out.trans (hBr.out.mono hB1.out.size))
      replace hres := hide hres
      clear ho1
      go_wp2
      go_ret
      exact ⟨⟨_, rfl, hres.out⟩, hBw.out⟩
end Go.Proofs.Ytkhijdbigpaagaa

/-
  Plans compared skill by skill: their places, and the next one.
-/
namespace Go.Proofs.Ytkhijdbigpaagaa
/-- The place of a plan among those of as many skills. -/
def idxN : List Nat → Nat
  | [] => 0
  | x :: xs => x * 9 ^ xs.length + idxN xs
def Le8 (p : List Nat) : Prop := ∀ x ∈ p, x ≤ 8
theorem Le8.tail {x : Nat} {p : List Nat} (h : Le8 (x :: p)) : Le8 p := fun y hy => h y (List.mem_cons_of_mem _ hy)
theorem idx_lt : ∀ {p : List Nat}, Le8 p → idxN p < 9 ^ p.length
  | [], _ => by decide
  | x :: xs, h => by
    have h1 := idx_lt h.tail
    have h2 := h x (List.mem_cons_self ..)
    show x * 9 ^ xs.length + idxN xs < 9 ^ (xs.length + 1)
    rw [Nat.pow_succ]
    have : x * 9 ^ xs.length ≤ 8 * 9 ^ xs.length := Nat.mul_le_mul_right _ h2
    omega
theorem idx_lex : ∀ {p q : List Nat}, Le8 p → Le8 q → p.length = q.length → (idxN p < idxN q ↔ lexN p q)
  | [], [], _, _, _ => by simp [idxN, lexN]
  | [], _ :: _, _, _, h => by simp at h
  | _ :: _, [], _, _, h => by simp at h
  | x :: xs, y :: ys, hp, hq, h => by
    have hl : xs.length = ys.length := by simpa using h
    have ih := idx_lex hp.tail hq.tail hl
    have h1 := idx_lt hp.tail
    have h2 := idx_lt hq.tail
    show x * 9 ^ xs.length + idxN xs < y * 9 ^ ys.length + idxN ys ↔ x < y ∨ x = y ∧ lexN xs ys
    rw [hl] at h1 ⊢
    generalize 9 ^ ys.length = c at *
    rcases Nat.lt_trichotomy x y with e | e | e
    · have : (x + 1) * c ≤ y * c := Nat.mul_le_mul_right _ e
      rw [Nat.add_mul] at this
      constructor
      · intro _; exact .inl e
      · intro _; omega
    · subst e
      constructor
      · intro h; exact .inr ⟨rfl, ih.1 (by omega)⟩
      · rintro (h | ⟨_, h⟩)
        · omega
        · have := ih.2 h; omega
    · have : (y + 1) * c ≤ x * c := Nat.mul_le_mul_right _ e
      rw [Nat.add_mul] at this
      constructor
      · intro h; omega
      · rintro (h | ⟨h, _⟩) <;> omega
theorem idx_inj : ∀ {p q : List Nat}, Le8 p → Le8 q → p.length = q.length → idxN p = idxN q → p = q
  | [], [], _, _, _, _ => rfl
  | [], _ :: _, _, _, h, _ => by simp at h
  | _ :: _, [], _, _, h, _ => by simp at h
  | x :: xs, y :: ys, hp, hq, h, he => by
    have hl : xs.length = ys.length := by simpa using h
    have h1 := idx_lt hp.tail
    have h2 := idx_lt hq.tail
    have he : x * 9 ^ xs.length + idxN xs = y * 9 ^ ys.length + idxN ys := he
    rw [hl] at h1 he
    have key : x = y ∧ idxN xs = idxN ys := by
      generalize 9 ^ ys.length = c at *
      rcases Nat.lt_trichotomy x y with e | e | e
      · have : (x + 1) * c ≤ y * c := Nat.mul_le_mul_right _ e
        rw [Nat.add_mul] at this
        omega
      · subst e; exact ⟨rfl, by omega⟩
      · have : (y + 1) * c ≤ x * c := Nat.mul_le_mul_right _ e
        rw [Nat.add_mul] at this
        omega
    rw [key.1, idx_inj hp.tail hq.tail hl key.2]
theorem idx_app : ∀ (p q : List Nat), idxN (p ++ q) = idxN p * 9 ^ q.length + idxN q
  | [], q => by simp [idxN]
  | x :: xs, q => by
    show x * 9 ^ (xs ++ q).length + idxN (xs ++ q) = (x * 9 ^ xs.length + idxN xs) * 9 ^ q.length + idxN q
    rw [idx_app xs q, List.length_append, Nat.pow_add, Nat.add_mul, Nat.mul_assoc]
    omega
theorem idx_zeros : ∀ n, idxN (List.replicate n 0) = 0
  | 0 => rfl
  | n + 1 => by
    rw [List.replicate_succ]
    show 0 * _ + idxN (List.replicate n 0) = 0
    rw [idx_zeros n]; omega
theorem idx_eights : ∀ n, idxN (List.replicate n 8) + 1 = 9 ^ n
  | 0 => rfl
  | n + 1 => by
    rw [List.replicate_succ]
    show 8 * 9 ^ (List.replicate n 8).length + idxN (List.replicate n 8) + 1 = 9 ^ (n + 1)
    have := idx_eights n
    rw [List.length_replicate, Nat.pow_succ]
    omega
/-- The next plan: those behind i were the most, and are none now. -/
theorem idx_next (p : List Nat) (x n : Nat) : idxN (p ++ (x + 1) :: List.replicate n 0) = idxN (p ++ x :: List.replicate n 8) + 1 := by
  rw [idx_app, idx_app]
  show idxN p * 9 ^ ((x + 1) :: List.replicate n 0).length + ((x + 1) * 9 ^ (List.replicate n 0).length + idxN (List.replicate n 0)) = idxN p * 9 ^ (x :: List.replicate n 8).length + (x * 9 ^ (List.replicate n 8).length + idxN (List.replicate n 8)) + 1
  rw [idx_zeros]
  have := idx_eights n
  simp only [List.length_cons, List.length_replicate]
  rw [Nat.add_mul]
  omega
/-- What is the best among the plans before place j. -/
def BestN (k : Nat) (ok : List Nat → Bool) (j : Nat) (b : Option (List Nat)) : Prop := match b with
  | none => ∀ q : List Nat, q.length = k → Le8 q → idxN q < j → ok q = false
  | some p => p.length = k ∧ Le8 p ∧ idxN p < j ∧ ok p = true ∧ ∀ q : List Nat, q.length = k → Le8 q → idxN q < j → ok q = true → q = p ∨ planLt p q
theorem best_0 (k : Nat) (ok : List Nat → Bool) : BestN k ok 0 none := fun q _ _ h => absurd h (by omega)
theorem best_skip {k : Nat} {ok : List Nat → Bool} {b p : List Nat} (hp : p.length = k) (h8 : Le8 p) (h : BestN k ok (idxN p) (some b)) (hs : sumN b ≤ sumN p) : BestN k ok (idxN p + 1) (some b) := by
  obtain ⟨h1, h2, h3, h4, h5⟩ := h
  refine ⟨h1, h2, by omega, h4, fun q hq h8q hi hok => ?_⟩
  by_cases e : idxN q = idxN p
  · have := idx_inj h8q h8 (by omega) e
    subst this
    refine .inr ?_
    rcases Nat.lt_or_eq_of_le hs with e2 | e2
    · exact .inl e2
    · exact .inr ⟨e2, (idx_lex h2 h8 (by omega)).1 h3⟩
  · exact h5 q hq h8q (by omega) hok
theorem best_no {k : Nat} {ok : List Nat → Bool} {b : Option (List Nat)} {p : List Nat} (hp : p.length = k) (h8 : Le8 p) (h : BestN k ok (idxN p) b) (hn : ok p = false) : BestN k ok (idxN p + 1) b := by
  have key : ∀ q : List Nat, q.length = k → Le8 q → idxN q < idxN p + 1 → ok q = true → idxN q < idxN p := by
    intro q hq h8q hi hok
    rcases Nat.lt_or_ge (idxN q) (idxN p) with h | h
    · exact h
    · have := idx_inj h8q h8 (by omega) (by omega)
      subst this
      rw [hn] at hok; cases hok
  cases b with
  | none =>
    intro q hq h8q hi
    cases hok : ok q with
    | false => rfl
    | true => rw [← hok]; exact h q hq h8q (key q hq h8q hi hok)
  | some b =>
    obtain ⟨h1, h2, h3, h4, h5⟩ := h
    exact ⟨h1, h2, by omega, h4, fun q hq h8q hi hok => h5 q hq h8q (key q hq h8q hi hok) hok⟩
theorem best_new {k : Nat} {ok : List Nat → Bool} {b : Option (List Nat)} {p : List Nat} (hp : p.length = k) (h8 : Le8 p) (h : BestN k ok (idxN p) b) (hy : ok p = true) (hs : ∀ c, b = some c → sumN p < sumN c) : BestN k ok (idxN p + 1) (some p) := by
  refine ⟨hp, h8, by omega, hy, fun q hq h8q hi hok => ?_⟩
  by_cases e : idxN q = idxN p
  · exact .inl (idx_inj h8q h8 (by omega) e)
  · have hlt : idxN q < idxN p := by omega
    cases b with
    | none => have := h q hq h8q hlt; rw [this] at hok; cases hok
    | some c =>
      have h1 := hs c rfl
      rcases h.2.2.2.2 q hq h8q hlt hok with rfl | h2
      · exact .inr (.inl h1)
      · rcases h2 with h2 | h2
        · exact .inr (.inl (by omega))
        · exact .inr (.inl (by omega))
theorem planLt_asymm {p q : List Nat} (hp : Le8 p) (hq : Le8 q) (hl : p.length = q.length) (h1 : planLt p q) (h2 : planLt q p) : False := by
  rcases h1 with h1 | ⟨e1, h1⟩
  · rcases h2 with h2 | ⟨e2, _⟩ <;> omega
  · rcases h2 with h2 | ⟨e2, h2⟩
    · omega
    · have a := (idx_lex hp hq hl).2 h1
      have b := (idx_lex hq hp hl.symm).2 h2
      omega
/-- The best of all plans is the first good one. -/
theorem best_all {k : Nat} {ok : List Nat → Bool} {b : Option (List Nat)} (h : BestN k ok (9 ^ k) b) : (plansL k).find? ok = b := by
  have hall : ∀ q : List Nat, q.length = k → Le8 q → idxN q < 9 ^ k := fun q hq h8 => by rw [← hq]; exact idx_lt h8
  cases hf : (plansL k).find? ok with
  | none =>
    cases b with
    | none => rfl
    | some c =>
      have := plans_none hf h.1 h.2.1
      rw [h.2.2.2.1] at this; cases this
  | some p =>
    obtain ⟨h1, h2, h3, h4⟩ := plans_some hf
    cases b with
    | none => have := h p h2 h3 (hall p h2 h3); rw [h1] at this; cases this
    | some c =>
      obtain ⟨g1, g2, g3, g4, g5⟩ := h
      rcases g5 p h2 h3 (hall p h2 h3) h1 with rfl | e1
      · rfl
      · rcases h4 c g1 g2 g4 with rfl | e2
        · rfl
        · exact absurd (planLt_asymm g2 h3 (by omega) e1 e2) (by simp)
end Go.Proofs.Ytkhijdbigpaagaa

/-
  The reference's total and next.
-/
namespace Go.Proofs.Ytkhijdbigpaagaa
open Go.RowKit RG

theorem sum_take (p : List Nat) (j : Nat) (hj : j < p.length) : sumN (p.take (j + 1)) = sumN (p.take j) + p[j] := by
  induction p generalizing j with
  | nil => simp at hj
  | cons x xs ih =>
    cases j with
    | zero => simp [sumN]
    | succ j =>
      have := ih j (by simpa using hj)
      simp only [List.take_succ_cons, sumN, List.getElem_cons_succ]
      omega
theorem sum_b {p : List Nat} (h : Le8 p) : sumN p ≤ p.length * 8 := by
  induction p with
  | nil => simp [sumN]
  | cons x xs ih =>
    have h1 := h x (List.mem_cons_self ..)
    have := ih h.tail
    simp only [sumN, List.length_cons]; omega
theorem nat_at {p : List Nat} {j : Nat} (hj : j < p.length) : (p.map Int.ofNat)[j]?.getD 0 = (p[j] : Int) := by
  rw [List.getElem?_map, List.getElem?_eq_getElem hj]; rfl

set_option maxRecDepth 100000 in
theorem total_any (Q : Option Addr) (k cq : Nat) (p : List Nat) (w : World) (h : RdInts w Q k (p.map Int.ofNat)) (hk : k ≤ 5) (h8 : Le8 p) :
    Calls Try.prog 87 #[.slice Q k cq] w fun e w' => e = .returned (.int .i64 (sumN p)) ∧ w = w' := by
  have hl : p.length = k := by have := h.1; simpa using this
  have hst := hide (fun j (hj : j < k) => sum_take p j (by omega))
  have hat := hide (fun j (hj : j < k) => nat_at (p := p) (j := j) (by omega))
  have hb := hide (fun j (hj : j ≤ k) => show sumN (p.take j) ≤ 40 by
    have h1 := sum_b (p := p.take j) (fun x hx => h8 x (List.mem_of_mem_take hx))
    rw [List.length_take] at h1
    omega)
  have h88 := hide (fun j (hj : j < k) => h8 (p[j]'(by omega)) (List.getElem_mem _))
  have hend := hide (show sumN (p.take k) = sumN p by rw [List.take_of_length_le (by omega)])
  replace hl := hide hl
  go_enter Try.func87, Try.ntmps87
  go_wp2
  go_loopg [3, 4] k (fun gg s3 s4 wr => ∃ j : Nat, j ≤ k ∧ k ≤ gg + j ∧ s4 = .int .i64 j ∧ s3 = .int .i64 (sumN (p.take j) : Nat) ∧ wr = w)
  case atStart => exact ⟨0, Nat.zero_le _, by omega, rfl, rfl, rfl⟩
  case round =>
    obtain ⟨j, hj, hgg, rfl, rfl, rfl⟩ := hrel
    by_cases hlt : j < k
    · have hltz : (j : Int) < (k : Int) := by omega
      obtain ⟨b, off, rfl, hbb, hc⟩ := h.2 (by omega)
      have c0 := hc j hlt
      rw [hat.out j hlt] at c0
      have hs := hst.out j hlt
      have h1 := hb.out j hj
      have h2 := h88.out j hlt
      have hlj : j < p.length := by rw [hl.out]; exact hlt
      generalize p[j] = x at *
      generalize sumN (p.take j) = s at *
      have hw : IntKind.i64.wrap ((s : Int) + (x : Int)) = ((s + x : Nat) : Int) := by rw [IntKind.wrap_i64]; omega
      replace hs := hide hs
      clear hc h
      go_wp2
      go_roundg (k - (j + 1))
      case measure => omega
      case rel => exact ⟨j + 1, by omega, by omega, by go_num, by rw [hs.out]; simp, rfl⟩
    · have hltz : ¬ (j : Int) < (k : Int) := by omega
      obtain rfl : j = k := by omega
      have he := hend.out
      replace hend := hide True.intro
      go_wp2
      go_ret
      exact ⟨rfl, rfl⟩

theorem take_last (p : List Nat) (s : Nat) (hs : s < p.length) : p.take (s + 1) = p.take s ++ [p[s]] := by
  rw [List.take_succ_eq_append_getElem hs]
theorem set_mid (a b : List Nat) (x y : Nat) : (a ++ [x] ++ b).set a.length y = a ++ y :: b := by
  rw [List.append_assoc, List.set_append_right _ _ (Nat.le_refl _), Nat.sub_self]; rfl
/-- How the reference's next ends. -/
def NextR (base k : Nat) (p : List Nat) (e : Ending) (w : World) : Prop :=
  (idxN p + 1 = 9 ^ k ∧ e = .returned (.slice none 0 0)) ∨ (∃ p' g c, e = .returned (.slice (some ⟨g, 0, none⟩) k c) ∧ base ≤ g ∧ k ≤ c ∧ p'.length = k ∧ Le8 p' ∧ idxN p' = idxN p + 1 ∧ InAt w g (p'.map Int.ofNat))

set_option maxRecDepth 100000 in
set_option maxHeartbeats 4000000 in
theorem next_any (Q : Option Addr) (k cq : Nat) (p : List Nat) (w : World) (h : RdInts w Q k (p.map Int.ofNat)) (hk : 1 ≤ k ∧ k ≤ 5) (h8 : Le8 p) :
    Calls Try.prog 86 #[.slice Q k cq] w fun e w' => NextR w.heap.size k p e w' ∧ Below w.heap.size w w' := by
  have hl : p.length = k := by have := h.1; simpa using this
  obtain ⟨i0, hi0, hz0, hz1, hz2⟩ := info_parts infoInt
  replace hi0 := hide hi0
  replace hz0 := hide hz0
  replace hz1 := hide hz1
  replace hz2 := hide hz2
  obtain ⟨b, off, rfl, hb0, hc0⟩ := h.2 (by omega)
  have hat := hide (fun j (hj : j < k) => nat_at (p := p) (j := j) (by omega))
  replace hc0 := hide hc0
  have hll : (p.map Int.ofNat).length = k := by simpa using hl
  have hll2 := hide hll
  clear h
  go_enter Try.func86, Try.ntmps86
  go_wp2_with (at_builtin; refine wpList_append_own _ rfl _ _ 49 rfl w.heap.size 3 i0 (.int .i64 0) 1 8 Try.underlying49 hi0.out hz0.out hz1.out hz2.out rfl (by decide) _ _ _ rfl (World.ownsRow_made w #[] 0 (Nat.le_refl _) (Nat.zero_le _) rfl) ⟨b, off, none⟩ k cq ((p.map Int.ofNat).map (Value.int .i64)) rfl ?qc1 ?qc2 ?qc3 ?qc4 ?qc5 ?qc6 ?_)
  case qc1 => rw [List.length_map, hll]; omega
  case qc2 =>
    intro j u hj
    have hjk : j < k := by have := (List.getElem?_eq_some_iff.1 hj).1; rw [List.length_map, hll] at this; exact this
    rw [Addr.add_lit]
    refine Lib.cell?_alloc_some _ ?_
    rw [hc0.out j hjk]
    rw [List.getElem?_map, List.getElem?_eq_getElem (by rw [hll]; exact hjk)] at hj
    rw [List.getElem?_eq_getElem (by rw [hll]; exact hjk)]
    simpa using hj
  case qc3 => intro u hu; obtain ⟨x, _, rfl⟩ := List.mem_map.1 hu; rfl
  case qc4 => unfold maxLen; omega
  case qc5 => omega
  case qc6 => simp
  intro v' w3 hown hgrow _
  have hown2 : w3.ownsRow w.heap.size 3 1 v' k ((p.map Int.ofNat).map (Value.int .i64)) := by simpa using hown
  have hb3 := hide (((Below.refl w.heap.size w).alloc (Nat.le_refl _) (.cells #[] 3)).grown hgrow (by simp) (by intro k hk; simp [Value.ownBlock] at hk; omega))
  obtain ⟨g, cg, rfl, hg1, hg2, hI⟩ := inAt_own hown2 hll hk.1
  clear hown hown2 hgrow hc0 hb0 hll
  have hwk : IntKind.i64.wrap ((k : Int) - 1) = (k : Int) - 1 := by rw [IntKind.wrap_i64]; omega
  have hIs := hide (show InAt w3 g ((p.take k ++ List.replicate (k - k) 0).map Int.ofNat) by rw [List.take_of_length_le (by omega), Nat.sub_self]; simpa using hI)
  have hps := hide (show p = p.take k ++ List.replicate (k - k) 8 by rw [List.take_of_length_le (by omega), Nat.sub_self]; simp)
  replace hl := hide hl
  clear hI
  go_wp2
  go_loopg [4] k (fun gg s4 wr => ∃ t : Nat, t ≤ k ∧ t ≤ gg ∧ s4 = .int .i64 ((t : Int) - 1) ∧ Hid (Below w.heap.size w wr) ∧ Hid (p = p.take t ++ List.replicate (k - t) 8) ∧ Hid (InAt wr g ((p.take t ++ List.replicate (k - t) 0).map Int.ofNat)))
  case atStart => exact ⟨k, Nat.le_refl _, Nat.le_refl _, rfl, hb3.out, hps, hIs⟩
  case round =>
    clear hb3 hps hIs
    obtain ⟨t, ht, hgg, rfl, hB, hp, hI⟩ := hrel
    cases t with
    | zero =>
      have hlt : decide ((0 : Int) ≤ ((0 : Nat) : Int) - 1) = false := by decide
      have h1 := hp.out
      rw [List.take_zero, List.nil_append, Nat.sub_zero] at h1
      have h2 : idxN p + 1 = 9 ^ k := by rw [h1]; exact idx_eights k
      replace h1 := hide h1
      replace h2 := hide h2
      go_wp2
      go_ret
      exact ⟨.inl ⟨h2.out, rfl⟩, hB.out⟩
    | succ s =>
      have hsk : s < p.length := by rw [hl.out]; omega
      have hte := take_last p s hsk
      have hts : (p.take s).length = s := by rw [List.length_take]; omega
      have hIc := hI.out.cell (i := s) (by simp; omega)
      have hx : ((p.take (s + 1) ++ List.replicate (k - (s + 1)) 0).map Int.ofNat)[s]?.getD 0 = (p[s] : Int) := by
        rw [List.getElem?_map, List.getElem?_append_left (by rw [List.length_take]; omega), List.getElem?_take_of_lt (by omega), List.getElem?_eq_getElem hsk]; rfl
      rw [hx] at hIc
      obtain ⟨hc1, hc2⟩ := hIc
      have hx8 : p[s] ≤ 8 := h8 _ (List.getElem_mem _)
      have hset := fun y : Nat => hI.out.set (i := s) (x := (y : Int))
      have hlist : ∀ y : Nat, ((p.take (s + 1) ++ List.replicate (k - (s + 1)) 0).map Int.ofNat).set s (y : Int) = (p.take s ++ y :: List.replicate (k - (s + 1)) 0).map Int.ofNat := by
        intro y
        rw [show (y : Int) = Int.ofNat y from rfl, ← List.map_set]
        congr 1
        rw [hte]
        have := set_mid (p.take s) (List.replicate (k - (s + 1)) 0) p[s] y
        rwa [hts] at this
      have hp1 := hp.out
      rw [hte, List.append_assoc] at hp1
      obtain ⟨x, hxe⟩ : ∃ x, p[s] = x := ⟨_, rfl⟩
      rw [hxe] at hc1 hx8 hp1
      have hsz : (((s + 1 : Nat) : Int) - 1) = (s : Int) := by omega
      rw [hsz]
      have hge : decide ((0 : Int) ≤ (s : Int)) = true := decide_eq_true (by omega)
      have hsk2 : (s : Int) < (k : Int) := by omega
      have hwg : w.heap.size ≤ g := hg1
      replace hset := hide hset
      replace hlist := hide hlist
      replace hp1 := hide hp1
      clear hxe hte hts hx hp
      by_cases hx7 : x < 8
      · have hd : decide ((x : Int) < 8) = true := decide_eq_true (by omega)
        have hw : IntKind.i64.wrap ((x : Int) + 1) = ((x + 1 : Nat) : Int) := by rw [IntKind.wrap_i64]; omega
        replace hx7 := hide hx7
        go_wp2
        go_ret
        refine ⟨.inr ⟨p.take s ++ (x + 1) :: List.replicate (k - (s + 1)) 0, g, cg, rfl, hg1, hg2, by simp; omega, ?_, ?_, ?_⟩, hB.out.setCell (p := ⟨g, s, none⟩) hwg _⟩
        · intro y hy
          rcases List.mem_append.1 hy with h | h
          · exact h8 y (List.mem_of_mem_take h)
          · rcases List.mem_cons.1 h with rfl | h
            · have := hx7.out; omega
            · rw [List.mem_replicate] at h; omega
        · rw [idx_next]
          congr 1
          exact congrArg idxN hp1.out.symm
        · have := hset.out (x + 1)
          rwa [hlist.out] at this
      · obtain rfl : x = 8 := by omega
        have hd : decide (((8 : Nat) : Int) < 8) = false := by decide
        have hwz : IntKind.i64.wrap ((s : Int) - 1) = (s : Int) - 1 := by rw [IntKind.wrap_i64]; omega
        clear hx7
        go_wp2
        go_roundg s
        case measure => omega
        case rel =>
          refine ⟨s, by omega, Nat.le_refl _, rfl, hide (hB.out.setCell (p := ⟨g, s, none⟩) hwg _), hide ?_, hide ?_⟩
          · have := hp1.out
            rw [show k - s = k - (s + 1) + 1 by omega, List.replicate_succ]
            exact this
          · have := hset.out 0
            rw [hlist.out] at this
            rw [show k - s = k - (s + 1) + 1 by omega, List.replicate_succ]
            exact this
end Go.Proofs.Ytkhijdbigpaagaa

/-
  The reference's Fewest.
-/
namespace Go.Proofs.Ytkhijdbigpaagaa
open Go.RowKit RG

theorem make_ints (n : Nat) (hn : n ≤ 1000000) (w : World) :
    (Instr.makeSlice 49 (.int .i64 (n : Int)) (.int .i64 (n : Int))).run Try.prog w = .ok (.slice (some ⟨w.heap.size, 0, none⟩) n n) (w.alloc (.cells (Array.replicate n (.int .i64 0)) 3)) := by
  obtain ⟨i, hi, hz, hs, hb⟩ := info_parts infoInt
  have hr := run_make (P := Try.prog) w 49 3 i (.int .i64 0) Try.underlying49 hi hz .i64 .i64 n n (by omega) (by omega) (by rw [hb]; omega) (by omega)
  simp only [Int.toNat_natCast] at hr
  rw [hr, hs]
  have hm : madeCells (Value.int .i64 0).cells (n * 1) = Array.replicate n (.int .i64 0) := by
    apply Array.ext
    · simp [madeCells]
    · intro j h1 h2
      simp [madeCells, Value.cells, Nat.mod_one]
  rw [hm]
theorem neqNil (w : World) (a : Option Addr) (n c : Nat) : (binOp .neq 49 (.slice a n c) (.slice none 0 0)).run Try.prog w = .ok (.bool (!a.isNone)) w := by
  simp [binOp, Op.equal, Op.maxDepth, Lib.run_equalIn_slice_nil w 9999 _ _ a n c 0 0 Try.underlying49]
theorem no_ints (W : World) : IsInts [] (.slice none 0 0) W := ⟨none, 0, rfl, rdInts_nil _ _, Nat.le_refl _⟩
/-- A plan at place j, or none behind all of them. -/
def PlanV (k j : Nat) (v : Value) (W : World) : Prop := (v = .slice none 0 0 ∧ j = 9 ^ k) ∨ ∃ p g c, v = .slice (some ⟨g, 0, none⟩) k c ∧ k ≤ c ∧ p.length = k ∧ Le8 p ∧ idxN p = j ∧ RdInts W (some ⟨g, 0, none⟩) k (p.map Int.ofNat)
def BestV (k : Nat) (b : Option (List Nat)) (v : Value) (W : World) : Prop := match b with
  | none => v = .slice none 0 0
  | some q => ∃ g c, v = .slice (some ⟨g, 0, none⟩) k c ∧ k ≤ c ∧ q.length = k ∧ Le8 q ∧ RdInts W (some ⟨g, 0, none⟩) k (q.map Int.ofNat)
theorem PlanV.below {k j : Nat} {v : Value} {W W' : World} (h : PlanV k j v W) (hb : Below W.heap.size W W') : PlanV k j v W' := by
  rcases h with h | ⟨p, g, c, h1, h2, h3, h4, h5, h6⟩
  · exact .inl h
  · exact .inr ⟨p, g, c, h1, h2, h3, h4, h5, h6.below hb⟩
theorem BestV.below {k : Nat} {b : Option (List Nat)} {v : Value} {W W' : World} (h : BestV k b v W) (hb : Below W.heap.size W W') : BestV k b v W' := by
  cases b with
  | none => exact h
  | some q => obtain ⟨g, c, h1, h2, h3, h4, h5⟩ := h; exact ⟨g, c, h1, h2, h3, h4, h5.below hb⟩
theorem zeros_plan {k : Nat} (W : World) : PlanV k 0 (.slice (some ⟨W.heap.size, 0, none⟩) k k) (W.alloc (.cells (Array.replicate k (.int .i64 0)) 3)) := by
  refine .inr ⟨List.replicate k 0, _, _, rfl, Nat.le_refl _, by simp, fun x hx => by rw [List.mem_replicate] at hx; omega, idx_zeros k, ?_⟩
  have hI : InAt (W.alloc (.cells (Array.replicate k (.int .i64 0)) 3)) W.heap.size ((List.replicate k 0).map Int.ofNat) := ⟨Array.replicate k (.int .i64 0), blkNew rfl, by simp, by simp⟩
  have := hI.row
  simpa using this

set_option maxRecDepth 100000 in
set_option maxHeartbeats 4000000 in
theorem FewestR_any (v : Value) (S : Sch) (B L : Option Addr) (m cb k cl : Nat) (ts : List (Int × Int)) (al : Int) (rs : List Sp) (ch : Int) (w : World) (h : RdSch w v S) (ht : RdRow w B m 2 (ts.map tkCells)) (hm : m ≤ maxLen)
    (hls : RdRow w L k 2 (rs.map tkCells)) (hk : k ≤ maxLen) :
    Calls Try.prog 35 #[v, .agg #[.slice B m cb, .int .i64 al], .slice L k cl, .int .i64 ch] w fun e w' => FewR (fewestF S ts al rs ch) e w' ∧ Below w.heap.size w w' := by
  have hl : ts.length = m := by have := ht.1; simpa using this
  have hkl : rs.length = k := by have := hls.1; simpa using this
  have hT := hide (fun W (hb : Below w.heap.size w W) => tested_any v S B L m cb k cl ts al rs ch W (h.below hb) (ht.below hb) hm (hls.below hb) hk)
  have hFacts : readyE S ts al rs ch = 0 → (1 ≤ k ∧ k ≤ 5) ∧ (1 ≤ m ∧ m ≤ 6) ∧ (0 ≤ ch ∧ ch ≤ 1000) ∧ testE S ts al = 0 ∧ k = S.sks.length ∧ (checkS S).2.2 = 0 ∧ InRs rs := fun h0 => by
    obtain ⟨h1, h2, h3, h4⟩ := ready_ok h0
    obtain ⟨h5, h6, h7, _⟩ := test_ok h1
    obtain ⟨h8a, h8, _⟩ := check_ok h5
    obtain ⟨h9, h10⟩ := ranges_ok h2
    exact ⟨⟨by omega, by omega⟩, ⟨by omega, by omega⟩, ⟨h3, h4⟩, h1, by omega, h5, fun i hi => by have := h10 i hi; omega⟩
  have hP := hide (fun (h0 : testE S ts al = 0) (hks : k = S.sks.length) (A : Option Addr) (c : Nat) (ls : List Int) (hal : ∀ j, j < k → 0 ≤ ls[j]?.getD 0 ∧ ls[j]?.getD 0 ≤ 1000) W (hb : Below w.heap.size w W) (hr : RdInts W A k ls) => passed_at B A m cb k c S ts al ls h0 hks hal hl W (ht.below hb) hr)
  obtain ⟨r, hr⟩ : ∃ r, fewestF S ts al rs ch = r := ⟨_, rfl⟩
  rw [hr]
  unfold fewestF at hr
  obtain ⟨A, c, A2, c2, rfl, hsk, -⟩ := h
  have hRa := hide (fun (hck : (checkS S).2.2 = 0) (hkn : k = S.sks.length) (hk5 : k ≤ 5) (hin : InRs rs) (p : List Nat) (Q : Option Addr) (cq : Nat) W (hb : Below w.heap.size w W) (hp : RdInts W Q k (p.map Int.ofNat)) (hpl : p.length = k) (h8 : Le8 p) =>
    Raised_any A A2 L Q k c S.ins.length c2 k cl cq S rs (p.map Int.ofNat) W hkn.symm (hkn ▸ hsk.below hb) (hls.below hb) hp (Nat.le_refl _) hk5 (fun i hi => by have := sk_ok hck (i := i) (by omega); omega) hin (fun i hi => by
      rw [nat_at (p := p) (j := i) (by omega)]
      have := h8 (p[i]'(by omega)) (List.getElem_mem _)
      omega))
  obtain ⟨q, hq⟩ : ∃ q, readyE S ts al rs ch = q := ⟨_, rfl⟩
  rw [hq] at hT hFacts hr
  obtain ⟨n, hnS⟩ : ∃ n, S.sks.length = n := ⟨_, rfl⟩
  rw [hnS] at hT hFacts hr hP hRa ⊢
  generalize S.ins.length = n2 at *
  replace hnS := hide hnS
  replace hq := hide hq
  replace hr := hide hr
  clear ht hls hm hk hsk
  obtain ⟨W0, hW0⟩ : ∃ W0, (w.alloc (.cells #[.slice A n c, .slice A2 n2 c2] 25)).alloc (.cells #[.slice B m cb, .int .i64 al] 48) = W0 := ⟨_, rfl⟩
  have kS := hide (show Blk W0 w.heap.size 25 #[.slice A n c, .slice A2 n2 c2] by rw [← hW0]; exact (blkNew rfl).alloc _)
  have kT := hide (show Blk W0 (w.heap.size + 1) 48 #[.slice B m cb, .int .i64 al] by rw [← hW0]; exact blkNew (by simp))
  have hB := hide (show Below w.heap.size w W0 by rw [← hW0]; exact ((Below.refl _ _).alloc (Nat.le_refl _) _).alloc (by simp) _)
  have s0 : W0.cell? ⟨w.heap.size, 0, none⟩ = some (.slice A n c) := kS.out.cell 0
  have s1 : W0.cell? ⟨w.heap.size, 1, none⟩ = some (.slice A2 n2 c2) := kS.out.cell 1
  have t0 : W0.cell? ⟨w.heap.size + 1, 0, none⟩ = some (.slice B m cb) := kT.out.cell 0
  have t1 : W0.cell? ⟨w.heap.size + 1, 1, none⟩ = some (.int .i64 al) := kT.out.cell 1
  rw [← hW0] at s0 s1 t0 t1
  replace hW0 := hide hW0
  have hne : ∀ (w : World) (a : Option Addr) (n c : Nat), (binOp .neq 49 (.slice a n c) (.slice none 0 0)).run Try.prog w = .ok (.bool (!a.isNone)) w := neqNil
  have hee : ∀ (w : World) (a : Option Addr) (n c : Nat), (binOp .eql 49 (.slice a n c) (.slice none 0 0)).run Try.prog w = .ok (.bool a.isNone) w := fun w a n c => Lib.run_eql_slice_nil w _ _ a n c 0 0 Try.underlying49
  go_enter Try.func35, Try.ntmps35
  go_wp2_with fail
  rw [hW0.out]
  refine (hT.out _ hB.out).mono ?_
  rintro e w1 ⟨rfl, hb⟩
  replace kS := hide (kS.out.below hb kS.out.lt)
  replace kT := hide (kT.out.below hb kT.out.lt)
  replace hB := hide (hB.out.trans (hb.mono hB.out.size))
  clear hb s0 s1 t0 t1 hT hW0
  by_cases h2 : q = 0
  · subst h2
    obtain ⟨hk15, hm16, hch, hte, hkn, hck, hin⟩ := hFacts rfl
    subst hkn
    have hr1 := hr.out
    rw [if_pos rfl] at hr1
    replace hRa := hide (hRa.out hck rfl hk15.2 hin)
    replace hP := hide (hP.out hte rfl)
    have hmk := make_ints k (by omega)
    clear hFacts hr hte
    obtain ⟨ok, hok⟩ : ∃ ok, okPlan S ts al rs ch = ok := ⟨_, rfl⟩
    rw [hok] at hr1
    have hokv := hide (fun p => show ok p = decide (ch * 1000 ^ (m - 1) ≤ fk (ts.map (doneT (lowF S rs (p.map Int.ofNat) k))) al.toNat) by rw [← hok, ← hl, ← hkl]; rfl)
    have hr2 := hide (show ∀ b, BestN k ok (9 ^ k) b → r = (b, if b.isSome = true then 0 else 9) from fun b hb => by rw [← hr1, best_all hb])
    have hlo := hide (fun pl => show (raisedL S rs pl).map (fun s : Sp => s.1) = lowF S rs pl k by rw [raisedL_lo, hkl])
    have hrl := hide (fun pl => show (raisedL S rs pl).length = k by simp [raisedL, hkl])
    have hlb := hide (fun pl j (hj : j < k) => show 0 ≤ (lowF S rs pl k)[j]?.getD 0 ∧ (lowF S rs pl k)[j]?.getD 0 ≤ 1000 by
      have : (lowF S rs pl k)[j]?.getD 0 = low1 S rs pl j := by simp [lowF, hj]
      rw [this]; exact lim_le _)
    have hll := hide (fun pl => show (lowF S rs pl k).length = k by simp [lowF])
    have hEn := hide (fun x W => enough_any B m cb al x ch W hm16 hch)
    have hTo := hide (fun (Q : Option Addr) (cq : Nat) (p : List Nat) W (hr : RdInts W Q k (p.map Int.ofNat)) (h8 : Le8 p) => total_any Q k cq p W hr hk15.2 h8)
    have hNx := hide (fun (Q : Option Addr) (cq : Nat) (p : List Nat) W (hr : RdInts W Q k (p.map Int.ofNat)) (h8 : Le8 p) => next_any Q k cq p W hr hk15 h8)
    clear hr1 hck hin
    replace hok := hide hok
    replace hl := hide hl
    replace hkl := hide hkl
    go_wp2
    go_loopg [11, 12] (9 ^ k) (fun gg s11 s12 wr => ∃ (b : Option (List Nat)) (j : Nat), Hid (BestN k ok j b) ∧ j ≤ 9 ^ k ∧ 9 ^ k ≤ gg + j ∧ Hid (Below w.heap.size w wr) ∧ Hid (Blk wr w.heap.size 25 #[.slice A k c, .slice A2 n2 c2]) ∧ Hid (Blk wr (w.heap.size + 1) 48 #[.slice B m cb, .int .i64 al]) ∧ Hid (PlanV k j s12 wr) ∧ Hid (BestV k b s11 wr))
    case atStart => exact ⟨none, 0, hide (best_0 k ok), Nat.zero_le _, by omega, hide (hB.out.alloc hB.out.size _), hide (kS.out.alloc _), hide (kT.out.alloc _), hide (zeros_plan w1), hide rfl⟩
    case round =>
      clear hB kS kT
      obtain ⟨b, j, hbest, hj, hgg, hB, kS, kT, hpv, hbv⟩ := hrel
      have hbv := hbv.out
      rcases hpv.out with ⟨rfl, rfl⟩ | ⟨p, g, gc, rfl, hgc, hpl, h8, rfl, hrd⟩
      · have hres := hr2.out b hbest.out
        subst hres
        clear hr2 hpv
        cases b with
        | none =>
          obtain rfl : u11 = .slice none 0 0 := hbv
          go_wp2
          go_ret2
          exact ⟨⟨_, rfl, no_ints _⟩, hB.out⟩
        | some q =>
          obtain ⟨g, gc, rfl, hgc, hql, -, hrd⟩ := hbv
          have hfin := hide (show IsPlan (.slice (some ⟨g, 0, none⟩) k gc, q) wr from ⟨some ⟨g, 0, none⟩, gc, by simp [hql], by simpa [hql] using hrd, by simpa [hql] using hgc⟩)
          clear hrd
          replace hql := hide hql
          go_wp2
          go_ret2
          exact ⟨⟨_, rfl, hfin.out⟩, hB.out⟩
      · replace hpl := hide hpl
        replace h8 := hide h8
        replace hrd := hide hrd
        have hok2 := hokv.out p
        obtain ⟨x, hx⟩ : ∃ x, fk (ts.map (doneT (lowF S rs (p.map Int.ofNat) k))) al.toNat = x := ⟨_, rfl⟩
        rw [hx] at hok2
        replace hx := hide hx
        replace hok2 := hide hok2
        have hsr := hB.out.size
        clear hpv
        cases b with
        | none =>
            obtain rfl : u11 = .slice none 0 0 := hbv
            go_wp2
            refine region_grow [IsV (.agg #[.slice B m cb, .int .i64 al]), IsV (.agg #[.slice B m cb, .int .i64 al]), IsV (.agg #[.slice A k c, .slice A2 n2 c2]), IsV (.slice L k cl), IsV (.slice (some ⟨g, 0, none⟩) k gc), OwnSp wr.heap.size k (raisedL S rs (p.map Int.ofNat)), IsInts (lowF S rs (p.map Int.ofNat) k), IsV (.pointer (some ⟨w.heap.size + 1, 1, none⟩)), IsV (.int .i64 al), IsV (.int .i64 x), IsV (.int .i64 ch), IsV (.bool (ok p))] (by kernel_rfl) (by kernel_rfl) rfl ?_ ?_ ?_
            · simp [AllStb, IsV.stb, OwnSp.stb, IsInts.stb]
            · refine ⟨?_, ?_, ?_, ?_, ?_, ?_, ?_, ?_, ?_, ?_, ?_, ?_, trivial⟩
              all_goals
                intro y w6 K Qq Cv hC hd hV
                have q0 : w6.cell? ⟨w.heap.size, 0, none⟩ = some (.slice A k c) := (kS.out.below hC kS.out.lt).cell 0
                have q1 : w6.cell? ⟨w.heap.size, 1, none⟩ = some (.slice A2 n2 c2) := (kS.out.below hC kS.out.lt).cell 1
                have q2 : w6.cell? ⟨w.heap.size + 1, 0, none⟩ = some (.slice B m cb) := (kT.out.below hC kT.out.lt).cell 0
                have q3 : w6.cell? ⟨w.heap.size + 1, 1, none⟩ = some (.int .i64 al) := (kT.out.below hC kT.out.lt).cell 1
                have hB6 := hB.out.trans (hC.mono hB.out.size)
              all_goals try (simp [deps, VL, IsV, Region.binds] at hd)
              · simp only [putAll, Act.put]; go_simp; intro hK; exact hK _ _ (hV _ _ hC (Below.refl _ _) rfl)
              · simp only [putAll, Act.put]; go_simp; intro hK; exact hK _ _ (hV _ _ hC (Below.refl _ _) rfl)
              · simp only [putAll, Act.put]; go_simp; intro hK; exact hK _ _ (hV _ _ hC (Below.refl _ _) rfl)
              · simp only [putAll, Act.put]; go_simp; intro hK; exact hK _ _ (hV _ _ hC (Below.refl _ _) rfl)
              · simp only [putAll, Act.put]; go_simp; intro hK; exact hK _ _ (hV _ _ hC (Below.refl _ _) rfl)
              · simp only [putAll, Act.put]; go_simp; intro hK
                refine (hRa.out p _ _ w6 hB6 (hrd.out.below hC) hpl.out h8.out).mono ?_
                rintro e w7 ⟨⟨v, rfl, hv⟩, hb7⟩
                exact hK _ _ (hV _ _ (hC.trans (hb7.mono hC.size)) hb7 (own_mono hv hC.size))
              · obtain ⟨gg2, gc2, e3, -, -, hA⟩ := spAt_own hd (hrl.out _) hk15.1
                have hrow := hA.row
                rw [hrl.out] at hrow
                have hE := endsLo_any (some ⟨gg2, 0, none⟩) k gc2 _ w6 hrow hk15.2
                rw [hlo.out] at hE
                replace hE := hide hE
                clear hd hA hrow
                simp only [putAll, Act.put]; go_simp; intro hK
                refine hE.out.mono ?_
                rintro e w7 ⟨⟨v, rfl, hv⟩, hb7⟩
                exact hK _ _ (hV _ _ (hC.trans (hb7.mono hC.size)) hb7 hv)
              · simp only [putAll, Act.put]; go_simp; intro hK; exact hK _ _ (hV _ _ hC (Below.refl _ _) rfl)
              · simp only [putAll, Act.put]; go_simp; intro hK; exact hK _ _ (hV _ _ hC (Below.refl _ _) rfl)
              · obtain ⟨e0, ⟨A3, c3, e2, h3, _⟩, e4⟩ := hd
                rw [hll.out] at e2 h3
                have hPq := hP.out A3 c3 _ (hlb.out (p.map Int.ofNat)) w6 hB6 h3
                rw [hx.out] at hPq
                replace hPq := hide hPq
                clear h3
                simp only [putAll, Act.put]; go_simp; intro hK; refine (hPq.out).mono ?_; rintro e w7 ⟨rfl, hb7⟩; exact hK _ _ (hV _ _ (hC.trans (hb7.mono hC.size)) hb7 rfl)
              · simp only [putAll, Act.put]; go_simp; intro hK; exact hK _ _ (hV _ _ hC (Below.refl _ _) rfl)
              · have hEq := hEn.out x w6
                rw [← hok2.out] at hEq
                replace hEq := hide hEq
                simp only [putAll, Act.put]; go_simp; intro hK; refine (hEq.out).mono ?_; rintro e w7 ⟨rfl, hb7⟩; exact hK _ _ (hV _ _ (hC.trans (hb7.mono hC.size)) hb7 rfl)
            intro y w6 hC hd
            simp [EndsL, IsV] at hd
            obtain ⟨d0, d1, d2, d3, d4, d5, d6, d7, d8, d9, d10, d11⟩ := hd
            simp only [putAll, Act.put]
            rw [d11]
            clear d0 d1 d2 d3 d4 d5 d6 d7 d8 d9 d10 d11
            simp only [List.setIfInBounds_toArray, List.set_cons_succ, List.set_cons_zero]
            have kS6 := hide (kS.out.below hC kS.out.lt)
            have kT6 := hide (kT.out.below hC kT.out.lt)
            have hB6 := hide (hB.out.trans (hC.mono hB.out.size))
            have hrd6 := hide (hrd.out.below hC)
            clear hC kS kT hB hrd
            cases hq : ok p with
            | false =>
              have hno := hide (best_no hpl.out h8.out hbest.out hq)
              clear hbest
              have hNp := hide (hNx.out _ gc p w6 hrd6.out h8.out)
              go_wp2_with fail
              refine hNp.out.mono ?_
              rintro e w8 ⟨hn, hb8⟩
              have kS8 := hide (kS6.out.below hb8 kS6.out.lt)
              have kT8 := hide (kT6.out.below hb8 kT6.out.lt)
              have hB8 := hide (hB6.out.trans (hb8.mono hB6.out.size))
              have hbn := hide (hno.out)
              have hbv := hide (show BestV k none (.slice none 0 0) w8 from rfl)
              have hlt9 := idx_lt h8.out
              rw [hpl.out] at hlt9
              rcases hn with ⟨h9, rfl⟩ | ⟨p', g', c', rfl, -, hc', hl', h8', hi', hI'⟩
              · clear hb8 hNp hlt9
                replace h9 := hide h9
                go_wp2
                go_roundg 0
                case measure => have := h9.out; omega
                case rel => exact ⟨_, 9 ^ k, hide (by rw [← h9.out]; exact hbn.out), Nat.le_refl _, by omega, hB8, kS8, kT8, hide (.inl ⟨rfl, rfl⟩), hbv⟩
              · have hr' := hide hI'.row
                rw [List.length_map, hl'] at hr'
                replace hi' := hide hi'
                replace hlt9 := hide hlt9
                replace hl' := hide hl'
                clear hb8 hI' hNp
                go_wp2
                go_roundg (9 ^ k - (idxN p + 1))
                case measure => have := hlt9.out; omega
                case rel => exact ⟨_, idxN p + 1, hbn, by have := hlt9.out; omega, by have := hlt9.out; omega, hB8, kS8, kT8, hide (.inr ⟨p', g', c', rfl, hc', hl'.out, h8', hi'.out, hr'.out⟩), hbv⟩
            | true =>
              have hnew := hide (best_new hpl.out h8.out hbest.out hq (fun c hc => by cases hc))
              clear hbest
              have hNp := hide (hNx.out _ gc p w6 hrd6.out h8.out)
              go_wp2_with fail
              refine hNp.out.mono ?_
              rintro e w8 ⟨hn, hb8⟩
              have kS8 := hide (kS6.out.below hb8 kS6.out.lt)
              have kT8 := hide (kT6.out.below hb8 kT6.out.lt)
              have hB8 := hide (hB6.out.trans (hb8.mono hB6.out.size))
              have hbn := hide (hnew.out)
              have hbv := hide (show BestV k (some p) (.slice (some ⟨g, 0, none⟩) k gc) w8 from ⟨g, gc, rfl, hgc, hpl.out, h8.out, hrd6.out.below hb8⟩)
              have hlt9 := idx_lt h8.out
              rw [hpl.out] at hlt9
              rcases hn with ⟨h9, rfl⟩ | ⟨p', g', c', rfl, -, hc', hl', h8', hi', hI'⟩
              · clear hb8 hNp hlt9
                replace h9 := hide h9
                go_wp2
                go_roundg 0
                case measure => have := h9.out; omega
                case rel => exact ⟨_, 9 ^ k, hide (by rw [← h9.out]; exact hbn.out), Nat.le_refl _, by omega, hB8, kS8, kT8, hide (.inl ⟨rfl, rfl⟩), hbv⟩
              · have hr' := hide hI'.row
                rw [List.length_map, hl'] at hr'
                replace hi' := hide hi'
                replace hlt9 := hide hlt9
                replace hl' := hide hl'
                clear hb8 hI' hNp
                go_wp2
                go_roundg (9 ^ k - (idxN p + 1))
                case measure => have := hlt9.out; omega
                case rel => exact ⟨_, idxN p + 1, hbn, by have := hlt9.out; omega, by have := hlt9.out; omega, hB8, kS8, kT8, hide (.inr ⟨p', g', c', rfl, hc', hl'.out, h8', hi'.out, hr'.out⟩), hbv⟩
        | some q =>
          obtain ⟨gb, gbc, rfl, hgbc, hql, hq8, hqr⟩ := hbv
          replace hql := hide hql
          replace hq8 := hide hq8
          replace hqr := hide hqr
          have hT1 := hide (hTo.out _ gc p wr hrd.out h8.out)
          have hT2 := hide (hTo.out _ gbc q wr hqr.out hq8.out)
          go_wp2_with fail
          refine hT1.out.mono ?_
          rintro e w7 ⟨rfl, rfl⟩
          go_wp2_with fail
          refine hT2.out.mono ?_
          rintro e w7 ⟨rfl, rfl⟩
          clear hT1 hT2
          by_cases hs : sumN q ≤ sumN p
          · have hd : decide ((sumN q : Int) ≤ (sumN p : Int)) = true := decide_eq_true (by omega)
            have hsk := hide (best_skip hpl.out h8.out hbest.out hs)
            replace hs := hide hs
            clear hbest
            have hNp := hide (hNx.out _ gc p wr hrd.out h8.out)
            go_wp2_with fail
            refine hNp.out.mono ?_
            rintro e w8 ⟨hn, hb8⟩
            have kS8 := hide (kS.out.below hb8 kS.out.lt)
            have kT8 := hide (kT.out.below hb8 kT.out.lt)
            have hB8 := hide (hB.out.trans (hb8.mono hB.out.size))
            have hbn := hide (hsk.out)
            have hbv := hide (show BestV k (some q) (.slice (some ⟨gb, 0, none⟩) k gbc) w8 from ⟨gb, gbc, rfl, hgbc, hql.out, hq8.out, hqr.out.below hb8⟩)
            have hlt9 := idx_lt h8.out
            rw [hpl.out] at hlt9
            rcases hn with ⟨h9, rfl⟩ | ⟨p', g', c', rfl, -, hc', hl', h8', hi', hI'⟩
            · clear hb8 hNp hlt9
              replace h9 := hide h9
              go_wp2
              go_roundg 0
              case measure => have := h9.out; omega
              case rel => exact ⟨_, 9 ^ k, hide (by rw [← h9.out]; exact hbn.out), Nat.le_refl _, by omega, hB8, kS8, kT8, hide (.inl ⟨rfl, rfl⟩), hbv⟩
            · have hr' := hide hI'.row
              rw [List.length_map, hl'] at hr'
              replace hi' := hide hi'
              replace hlt9 := hide hlt9
              replace hl' := hide hl'
              clear hb8 hI' hNp
              go_wp2
              go_roundg (9 ^ k - (idxN p + 1))
              case measure => have := hlt9.out; omega
              case rel => exact ⟨_, idxN p + 1, hbn, by have := hlt9.out; omega, by have := hlt9.out; omega, hB8, kS8, kT8, hide (.inr ⟨p', g', c', rfl, hc', hl'.out, h8', hi'.out, hr'.out⟩), hbv⟩
          · have hd : decide ((sumN q : Int) ≤ (sumN p : Int)) = false := decide_eq_false (by omega)
            replace hs := hide hs
            go_wp2
            clear hd
            refine region_grow [IsV (.agg #[.slice B m cb, .int .i64 al]), IsV (.agg #[.slice B m cb, .int .i64 al]), IsV (.agg #[.slice A k c, .slice A2 n2 c2]), IsV (.slice L k cl), IsV (.slice (some ⟨g, 0, none⟩) k gc), OwnSp wr.heap.size k (raisedL S rs (p.map Int.ofNat)), IsInts (lowF S rs (p.map Int.ofNat) k), IsV (.pointer (some ⟨w.heap.size + 1, 1, none⟩)), IsV (.int .i64 al), IsV (.int .i64 x), IsV (.int .i64 ch), IsV (.bool (ok p))] (by kernel_rfl) (by kernel_rfl) rfl ?_ ?_ ?_
            · simp [AllStb, IsV.stb, OwnSp.stb, IsInts.stb]
            · refine ⟨?_, ?_, ?_, ?_, ?_, ?_, ?_, ?_, ?_, ?_, ?_, ?_, trivial⟩
              all_goals
                intro y w6 K Qq Cv hC hd hV
                have q0 : w6.cell? ⟨w.heap.size, 0, none⟩ = some (.slice A k c) := (kS.out.below hC kS.out.lt).cell 0
                have q1 : w6.cell? ⟨w.heap.size, 1, none⟩ = some (.slice A2 n2 c2) := (kS.out.below hC kS.out.lt).cell 1
                have q2 : w6.cell? ⟨w.heap.size + 1, 0, none⟩ = some (.slice B m cb) := (kT.out.below hC kT.out.lt).cell 0
                have q3 : w6.cell? ⟨w.heap.size + 1, 1, none⟩ = some (.int .i64 al) := (kT.out.below hC kT.out.lt).cell 1
                have hB6 := hB.out.trans (hC.mono hB.out.size)
              all_goals try (simp [deps, VL, IsV, Region.binds] at hd)
              · simp only [putAll, Act.put]; go_simp; intro hK; exact hK _ _ (hV _ _ hC (Below.refl _ _) rfl)
              · simp only [putAll, Act.put]; go_simp; intro hK; exact hK _ _ (hV _ _ hC (Below.refl _ _) rfl)
              · simp only [putAll, Act.put]; go_simp; intro hK; exact hK _ _ (hV _ _ hC (Below.refl _ _) rfl)
              · simp only [putAll, Act.put]; go_simp; intro hK; exact hK _ _ (hV _ _ hC (Below.refl _ _) rfl)
              · simp only [putAll, Act.put]; go_simp; intro hK; exact hK _ _ (hV _ _ hC (Below.refl _ _) rfl)
              · simp only [putAll, Act.put]; go_simp; intro hK
                refine (hRa.out p _ _ w6 hB6 (hrd.out.below hC) hpl.out h8.out).mono ?_
                rintro e w7 ⟨⟨v, rfl, hv⟩, hb7⟩
                exact hK _ _ (hV _ _ (hC.trans (hb7.mono hC.size)) hb7 (own_mono hv hC.size))
              · obtain ⟨gg2, gc2, e3, -, -, hA⟩ := spAt_own hd (hrl.out _) hk15.1
                have hrow := hA.row
                rw [hrl.out] at hrow
                have hE := endsLo_any (some ⟨gg2, 0, none⟩) k gc2 _ w6 hrow hk15.2
                rw [hlo.out] at hE
                replace hE := hide hE
                clear hd hA hrow
                simp only [putAll, Act.put]; go_simp; intro hK
                refine hE.out.mono ?_
                rintro e w7 ⟨⟨v, rfl, hv⟩, hb7⟩
                exact hK _ _ (hV _ _ (hC.trans (hb7.mono hC.size)) hb7 hv)
              · simp only [putAll, Act.put]; go_simp; intro hK; exact hK _ _ (hV _ _ hC (Below.refl _ _) rfl)
              · simp only [putAll, Act.put]; go_simp; intro hK; exact hK _ _ (hV _ _ hC (Below.refl _ _) rfl)
              · obtain ⟨e0, ⟨A3, c3, e2, h3, _⟩, e4⟩ := hd
                rw [hll.out] at e2 h3
                have hPq := hP.out A3 c3 _ (hlb.out (p.map Int.ofNat)) w6 hB6 h3
                rw [hx.out] at hPq
                replace hPq := hide hPq
                clear h3
                simp only [putAll, Act.put]; go_simp; intro hK; refine (hPq.out).mono ?_; rintro e w7 ⟨rfl, hb7⟩; exact hK _ _ (hV _ _ (hC.trans (hb7.mono hC.size)) hb7 rfl)
              · simp only [putAll, Act.put]; go_simp; intro hK; exact hK _ _ (hV _ _ hC (Below.refl _ _) rfl)
              · have hEq := hEn.out x w6
                rw [← hok2.out] at hEq
                replace hEq := hide hEq
                simp only [putAll, Act.put]; go_simp; intro hK; refine (hEq.out).mono ?_; rintro e w7 ⟨rfl, hb7⟩; exact hK _ _ (hV _ _ (hC.trans (hb7.mono hC.size)) hb7 rfl)
            intro y w6 hC hd
            simp [EndsL, IsV] at hd
            obtain ⟨d0, d1, d2, d3, d4, d5, d6, d7, d8, d9, d10, d11⟩ := hd
            simp only [putAll, Act.put]
            rw [d11]
            clear d0 d1 d2 d3 d4 d5 d6 d7 d8 d9 d10 d11
            simp only [List.setIfInBounds_toArray, List.set_cons_succ, List.set_cons_zero]
            have kS6 := hide (kS.out.below hC kS.out.lt)
            have kT6 := hide (kT.out.below hC kT.out.lt)
            have hB6 := hide (hB.out.trans (hC.mono hB.out.size))
            have hrd6 := hide (hrd.out.below hC)
            have hqr6 := hide (hqr.out.below hC)
            clear hC kS kT hB hrd
            clear hqr
            cases hq : ok p with
            | false =>
              have hno := hide (best_no hpl.out h8.out hbest.out hq)
              clear hbest
              have hNp := hide (hNx.out _ gc p w6 hrd6.out h8.out)
              go_wp2_with fail
              refine hNp.out.mono ?_
              rintro e w8 ⟨hn, hb8⟩
              have kS8 := hide (kS6.out.below hb8 kS6.out.lt)
              have kT8 := hide (kT6.out.below hb8 kT6.out.lt)
              have hB8 := hide (hB6.out.trans (hb8.mono hB6.out.size))
              have hbn := hide (hno.out)
              have hbv := hide (show BestV k (some q) (.slice (some ⟨gb, 0, none⟩) k gbc) w8 from ⟨gb, gbc, rfl, hgbc, hql.out, hq8.out, hqr6.out.below hb8⟩)
              have hlt9 := idx_lt h8.out
              rw [hpl.out] at hlt9
              rcases hn with ⟨h9, rfl⟩ | ⟨p', g', c', rfl, -, hc', hl', h8', hi', hI'⟩
              · clear hb8 hNp hlt9
                replace h9 := hide h9
                go_wp2
                go_roundg 0
                case measure => have := h9.out; omega
                case rel => exact ⟨_, 9 ^ k, hide (by rw [← h9.out]; exact hbn.out), Nat.le_refl _, by omega, hB8, kS8, kT8, hide (.inl ⟨rfl, rfl⟩), hbv⟩
              · have hr' := hide hI'.row
                rw [List.length_map, hl'] at hr'
                replace hi' := hide hi'
                replace hlt9 := hide hlt9
                replace hl' := hide hl'
                clear hb8 hI' hNp
                go_wp2
                go_roundg (9 ^ k - (idxN p + 1))
                case measure => have := hlt9.out; omega
                case rel => exact ⟨_, idxN p + 1, hbn, by have := hlt9.out; omega, by have := hlt9.out; omega, hB8, kS8, kT8, hide (.inr ⟨p', g', c', rfl, hc', hl'.out, h8', hi'.out, hr'.out⟩), hbv⟩
            | true =>
              have hnew := hide (best_new hpl.out h8.out hbest.out hq (fun c hc => by cases hc; have := hs.out; omega))
              clear hbest
              have hNp := hide (hNx.out _ gc p w6 hrd6.out h8.out)
              go_wp2_with fail
              refine hNp.out.mono ?_
              rintro e w8 ⟨hn, hb8⟩
              have kS8 := hide (kS6.out.below hb8 kS6.out.lt)
              have kT8 := hide (kT6.out.below hb8 kT6.out.lt)
              have hB8 := hide (hB6.out.trans (hb8.mono hB6.out.size))
              have hbn := hide (hnew.out)
              have hbv := hide (show BestV k (some p) (.slice (some ⟨g, 0, none⟩) k gc) w8 from ⟨g, gc, rfl, hgc, hpl.out, h8.out, hrd6.out.below hb8⟩)
              have hlt9 := idx_lt h8.out
              rw [hpl.out] at hlt9
              rcases hn with ⟨h9, rfl⟩ | ⟨p', g', c', rfl, -, hc', hl', h8', hi', hI'⟩
              · clear hb8 hNp hlt9
                replace h9 := hide h9
                go_wp2
                go_roundg 0
                case measure => have := h9.out; omega
                case rel => exact ⟨_, 9 ^ k, hide (by rw [← h9.out]; exact hbn.out), Nat.le_refl _, by omega, hB8, kS8, kT8, hide (.inl ⟨rfl, rfl⟩), hbv⟩
              · have hr' := hide hI'.row
                rw [List.length_map, hl'] at hr'
                replace hi' := hide hi'
                replace hlt9 := hide hlt9
                replace hl' := hide hl'
                clear hb8 hI' hNp
                go_wp2
                go_roundg (9 ^ k - (idxN p + 1))
                case measure => have := hlt9.out; omega
                case rel => exact ⟨_, idxN p + 1, hbn, by have := hlt9.out; omega, by have := hlt9.out; omega, hB8, kS8, kT8, hide (.inr ⟨p', g', c', rfl, hc', hl'.out, h8', hi'.out, hr'.out⟩), hbv⟩
  · have hr1 := hr.out
    rw [if_neg h2] at hr1
    subst hr1
    have hb2 : (q != 0) = true := by rw [bne_iff_ne]; exact h2
    replace h2 := hide h2
    clear hr hP hRa hFacts
    go_wp2
    go_ret2
    exact ⟨⟨_, rfl, no_ints _⟩, hB.out⟩
end Go.Proofs.Ytkhijdbigpaagaa
