/-
  Three appends in one region: a right put in between the rights of a row. The invariant of the region, operation by operation.
-/
import Derived.Test.YtjfdfhnfcpfmcaaGreatDoorMq
import Derived.Test.YtjfdfhnfcpfmcaaGreatDoorMo
import Derived.Test.YtjfdfhnfcpfmcaaGreatDoorMp
import Derived.Deep.AppendLies
namespace Go.Proofs.YtjfdfhnfcpfmcaaGreatDoor
open Go.RowKit RG

set_option maxRecDepth 100000 in
theorem wp_append_rtsL {w : World} {o : Oper} {a : Act} {K : Act → World → Prop} {Q : Exit → Act → World → Prop} (s x : Operand)
    (ho : o.op = .call { callee := .builtin .append, args := #[s, x], argTypes := #[46, 46] })
    (base : Nat) (i : TypeInfo) (hi : Tryz.prog.info? 64 = some i) (hz : i.zero = some (.agg #[.int .i64 0, .int .i64 0])) (hsize : i.size = 2) (hby : i.bytes = 16)
    (v : Value) (n : Nat) (xs : List Value) (hs : a.eval s = v) (hown : w.ownsRow base 64 2 v n xs)
    (R : Option Addr) (m c : Nat) (rs : List (Int × Int)) (hx : a.eval x = .slice R m c) (hr : RdRts w R m rs) (hc : R = none → c = 0)
    (h63 : n + m ≤ maxLen) (hbytes : (n + m) * 16 ≤ 140737488355328) (hbase : base ≤ w.heap.size)
    (h : ∀ v' w', w'.ownsRow base 64 2 v' (n + m) (xs ++ rs.flatMap rtCells) → w.grownBy w' v.ownBlock → (v'.ownBlock = v.ownBlock ∨ v'.ownBlock = some w.heap.size) → K (a.put o.dst v') w') : o.wp Tryz.prog a w K Q := by
  have hl := hr.len
  cases R with
  | none =>
    have hm : m = 0 := by
      rcases Nat.eq_zero_or_pos m with h0 | h0
      · exact h0
      · obtain ⟨b, off, e, _⟩ := hr.1.2.2 h0
        cases e
    subst hm
    obtain rfl : rs = [] := List.eq_nil_of_length_eq_zero hl
    rw [hc rfl] at hx
    have hrun := run_append_owned_none (P := Tryz.prog) (w := w) base 46 o.type _ i 2 Tryz.underlying46 hi v n xs hown
    unfold Oper.wp execOp
    simp only [ho, resolve, invoke, builtin, Sem.run_bind, Sem.run_pure, Result.andThen_ok, List.map_toArray, List.map_cons, List.map_nil, hs, hx, hrun]
    exact h v w (by simpa using hown) (World.grownBy.refl w _) (.inl rfl)
  | some ad =>
    have hnews : ∀ j u, (rs.flatMap rtCells)[j]? = some u → w.cell? (ad.add j) = some u := by
      intro j u hj
      have hm : 0 < m := by
        rcases Nat.eq_zero_or_pos m with h0 | h0
        · obtain rfl : rs = [] := List.eq_nil_of_length_eq_zero (by rw [hl]; exact h0)
          simp at hj
        · exact h0
      obtain ⟨b, off, e, _, hcell⟩ := hr.1.2.2 hm
      injection e with e
      subst e
      obtain ⟨j', i', rfl, h2⟩ := flat_at rs j u hj
      have := hcell j' i' u h2
      rw [add_plain, ← Nat.add_assoc]
      exact this
    have h1 : ∀ u ∈ rs.flatMap rtCells, u.oneCell' = true := by
      intro u hu
      obtain ⟨r, _, hr2⟩ := List.mem_flatMap.1 hu
      simp only [rtCells, List.mem_cons, List.not_mem_nil, or_false] at hr2
      rcases hr2 with rfl | rfl <;> rfl
    obtain ⟨v', w', hrun, h2, h3, _, h5⟩ := run_append_own_at (P := Tryz.prog) w base 46 o.type _ i _ 2 16 Tryz.underlying46 hi hz hsize hby rfl (by decide) v n xs hown ad m c (rs.flatMap rtCells) (by rw [flat_len, hl]) hnews h1 h63 hbytes hbase
    unfold Oper.wp execOp
    simp only [ho, resolve, invoke, builtin, Sem.run_bind, Sem.run_pure, Result.andThen_ok, List.map_toArray, List.map_cons, List.map_nil, hs, hx, hrun]
    exact h v' w' h2 h3 (h5.imp (fun e => by rw [e]) (fun e => e))

theorem wanted_if {o : Oper} {ys : Nat → Option Bool} {A B : Prop} (hg : o.guard = none) (h : A) : if Region.wanted o ys = true then A else B := by
  rw [if_pos (by simp [Region.wanted, hg])]
  exact h
abbrev OwnR (w : World) (base : Nat) (v : Value) (n : Nat) (l : List (Int × Int)) : Prop := w.ownsRow base 64 2 v n (l.flatMap rtCells)
/-- The region of the three appends. -/
def OrdI (w0 : World) (other p1 p2 lv px : Value) (a i : Nat) (A B : List (Int × Int)) (xc xk : Int) (f : Nat → Bool) (y : Nat → Value) (w : World) : Prop :=
  Below w0.heap.size w0 w ∧ (f 1 = true → y 1 = other) ∧ (f 2 = true → y 2 = .int .i64 a) ∧ (f 3 = true → y 3 = p1) ∧ (f 5 = true → y 5 = lv) ∧ (f 6 = true → y 6 = .int .i64 i) ∧ (f 7 = true → y 7 = px) ∧
  (f 8 = true → y 8 = .agg #[.int .i64 xc, .int .i64 xk]) ∧ (f 11 = true → y 11 = other) ∧ (f 12 = true → y 12 = .int .i64 a) ∧ (f 13 = true → y 13 = p2) ∧
  (f 0 = true → f 4 = false → OwnR w w0.heap.size (y 0) 0 []) ∧ (f 4 = true → f 10 = false → OwnR w w0.heap.size (y 4) a A) ∧ (f 10 = true → f 14 = false → OwnR w w0.heap.size (y 10) (a + 1) (A ++ [(xc, xk)])) ∧
  (f 14 = true → OwnR w w0.heap.size (y 14) (i + 1) (A ++ [(xc, xk)] ++ B)) ∧
  (f 9 = true → ∃ g, y 9 = .slice (some ⟨g, 0, none⟩) 1 1 ∧ (f 10 = false → w0.heap.size ≤ g ∧ Blk w g 64 #[.int .i64 xc, .int .i64 xk] ∧ (f 0 = true → f 4 = false → (y 0).ownBlock ≠ some g) ∧ (f 4 = true → (y 4).ownBlock ≠ some g))) ∧
  (f 15 = true → y 15 = y 14) ∧ (f 4 = true → f 0 = true) ∧ (f 10 = true → f 4 = true ∧ f 9 = true) ∧ (f 14 = true → f 10 = true) ∧ (f 15 = true → f 14 = true) ∧ (f 15 = false → y 15 = other) ∧ (f 15 = true → f 1 = true ∧ f 11 = true)
section
variable {w0 w : World} {other p1 p2 lv px : Value} {a i : Nat} {A B : List (Int × Int)} {xc xk : Int} {f : Nat → Bool} {y : Nat → Value} {v : Value}
theorem OrdI.o1 (h : OrdI w0 other p1 p2 lv px a i A B xc xk f y w) (hv : v = other) : OrdI w0 other p1 p2 lv px a i A B xc xk (fun k => decide (k = 1) || f k) (upd y 1 v) w := by
  unfold OrdI at *; simp [upd] at *; grind
theorem OrdI.o2 (h : OrdI w0 other p1 p2 lv px a i A B xc xk f y w) (hv : v = .int .i64 a) : OrdI w0 other p1 p2 lv px a i A B xc xk (fun k => decide (k = 2) || f k) (upd y 2 v) w := by
  unfold OrdI at *; simp [upd] at *; grind
theorem OrdI.o3 (h : OrdI w0 other p1 p2 lv px a i A B xc xk f y w) (hv : v = p1) : OrdI w0 other p1 p2 lv px a i A B xc xk (fun k => decide (k = 3) || f k) (upd y 3 v) w := by
  unfold OrdI at *; simp [upd] at *; grind
theorem OrdI.o5 (h : OrdI w0 other p1 p2 lv px a i A B xc xk f y w) (hv : v = lv) : OrdI w0 other p1 p2 lv px a i A B xc xk (fun k => decide (k = 5) || f k) (upd y 5 v) w := by
  unfold OrdI at *; simp [upd] at *; grind
theorem OrdI.o6 (h : OrdI w0 other p1 p2 lv px a i A B xc xk f y w) (hv : v = .int .i64 i) : OrdI w0 other p1 p2 lv px a i A B xc xk (fun k => decide (k = 6) || f k) (upd y 6 v) w := by
  unfold OrdI at *; simp [upd] at *; grind
theorem OrdI.o7 (h : OrdI w0 other p1 p2 lv px a i A B xc xk f y w) (hv : v = px) : OrdI w0 other p1 p2 lv px a i A B xc xk (fun k => decide (k = 7) || f k) (upd y 7 v) w := by
  unfold OrdI at *; simp [upd] at *; grind
theorem OrdI.o8 (h : OrdI w0 other p1 p2 lv px a i A B xc xk f y w) (hv : v = .agg #[.int .i64 xc, .int .i64 xk]) : OrdI w0 other p1 p2 lv px a i A B xc xk (fun k => decide (k = 8) || f k) (upd y 8 v) w := by
  unfold OrdI at *; simp [upd] at *; grind
theorem OrdI.o11 (h : OrdI w0 other p1 p2 lv px a i A B xc xk f y w) (hv : v = other) : OrdI w0 other p1 p2 lv px a i A B xc xk (fun k => decide (k = 11) || f k) (upd y 11 v) w := by
  unfold OrdI at *; simp [upd] at *; grind
theorem OrdI.o12 (h : OrdI w0 other p1 p2 lv px a i A B xc xk f y w) (hv : v = .int .i64 a) : OrdI w0 other p1 p2 lv px a i A B xc xk (fun k => decide (k = 12) || f k) (upd y 12 v) w := by
  unfold OrdI at *; simp [upd] at *; grind
theorem OrdI.o13 (h : OrdI w0 other p1 p2 lv px a i A B xc xk f y w) (hv : v = p2) : OrdI w0 other p1 p2 lv px a i A B xc xk (fun k => decide (k = 13) || f k) (upd y 13 v) w := by
  unfold OrdI at *; simp [upd] at *; grind
theorem OrdI.o15 (h : OrdI w0 other p1 p2 lv px a i A B xc xk f y w) (hf : f 14 = true) (hf1 : f 1 = true) (hf11 : f 11 = true) (hv : v = y 14) : OrdI w0 other p1 p2 lv px a i A B xc xk (fun k => decide (k = 15) || f k) (upd y 15 v) w := by
  unfold OrdI at *; simp [upd] at *; grind
theorem OrdI.o0 (h : OrdI w0 other p1 p2 lv px a i A B xc xk f y w) (hf : f 0 = false) (hv : v = .slice (some ⟨w.heap.size, 0, none⟩) 0 0) : OrdI w0 other p1 p2 lv px a i A B xc xk (fun k => decide (k = 0) || f k) (upd y 0 v) (w.alloc (.cells #[] 64)) := by
  obtain ⟨hC, h1, h2, h3, h5, h6, h7, h8, h11, h12, h13, c0, c4, c10, c14, h9, h15, d4, d10, d14, d15, c15, d16⟩ := h
  have e4 : f 4 = false := by
    cases e : f 4 with
    | false => rfl
    | true => have := d4 e; simp [hf] at this
  have e10 : f 10 = false := by
    cases e : f 10 with
    | false => rfl
    | true => have := (d10 e).1; simp [e4] at this
  have e14 : f 14 = false := by
    cases e : f 14 with
    | false => rfl
    | true => have := d14 e; simp [e10] at this
  have e15 : f 15 = false := by
    cases e : f 15 with
    | false => rfl
    | true => have := d15 e; simp [e14] at this
  refine ⟨hC.alloc hC.size _, by simpa [upd] using h1, by simpa [upd] using h2, by simpa [upd] using h3, by simpa [upd] using h5, by simpa [upd] using h6, by simpa [upd] using h7, by simpa [upd] using h8, by simpa [upd] using h11, by simpa [upd] using h12, by simpa [upd] using h13,
    fun _ _ => ?_, by simp [e4], by simp [e10], by simp [e14], fun h => ?_, by simp [e15], by simp, by simp [e10], by simp [e14], by simp [e15], by simpa [upd] using c15, by simp [e15]⟩
  · show OwnR _ _ v 0 []
    rw [hv]
    exact ⟨rfl, .inr ⟨w.heap.size, 0, #[], rfl, hC.size, World.alloc_heap_new w _, Nat.le_refl _, by unfold maxLen; omega, rfl, rfl⟩⟩
  · obtain ⟨g, x1, x2⟩ := h9 (by simpa using h)
    obtain ⟨x3, x4, x5, x6⟩ := x2 e10
    refine ⟨g, x1, fun _ => ⟨x3, x4.alloc _, fun _ _ => ?_, by simp [e4]⟩⟩
    show v.ownBlock ≠ some g
    rw [hv]
    have := x4.lt
    simp [Value.ownBlock]; omega
theorem OrdI.o9 (h : OrdI w0 other p1 p2 lv px a i A B xc xk f y w) (hf : f 9 = false) (hv : v = .slice (some ⟨w.heap.size, 0, none⟩) 1 1) : OrdI w0 other p1 p2 lv px a i A B xc xk (fun k => decide (k = 9) || f k) (upd y 9 v) (w.alloc (.cells #[.int .i64 xc, .int .i64 xk] 64)) := by
  obtain ⟨hC, h1, h2, h3, h5, h6, h7, h8, h11, h12, h13, c0, c4, c10, c14, h9, h15, d4, d10, d14, d15, c15, d16⟩ := h
  have e10 : f 10 = false := by
    cases e : f 10 with
    | false => rfl
    | true => have := (d10 e).2; simp [hf] at this
  have e14 : f 14 = false := by
    cases e : f 14 with
    | false => rfl
    | true => have := d14 e; simp [e10] at this
  have e15 : f 15 = false := by
    cases e : f 15 with
    | false => rfl
    | true => have := d15 e; simp [e14] at this
  have hA : Below w.heap.size w (w.alloc (.cells #[.int .i64 xc, .int .i64 xk] 64)) := (Below.refl _ _).alloc (Nat.le_refl _) _
  refine ⟨hC.alloc hC.size _, by simpa [upd] using h1, by simpa [upd] using h2, by simpa [upd] using h3, by simpa [upd] using h5, by simpa [upd] using h6, by simpa [upd] using h7, by simpa [upd] using h8, by simpa [upd] using h11, by simpa [upd] using h12, by simpa [upd] using h13,
    fun h h' => own_below (c0 (by simpa using h) (by simpa using h')) hA, fun h h' => own_below (c4 (by simpa using h) e10) hA, by simp [e10], by simp [e14], fun _ => ⟨w.heap.size, hv, fun _ => ⟨hC.size, Blk.new w _ _, fun h h' e => ?_, fun h e => ?_⟩⟩, by simp [e15], by simpa using d4, by simp [e10], by simp [e14], by simp [e15], by simpa [upd] using c15, by simp [e15]⟩
  · have := ((c0 (by simpa using h) (by simpa using h')).lt _ (by simpa [upd] using e)).2
    omega
  · have := ((c4 (by simpa using h) e10).lt _ (by simpa [upd] using e)).2
    omega
theorem OrdI.o4 (h : OrdI w0 other p1 p2 lv px a i A B xc xk f y w) (hf : f 4 = false) (hf0 : f 0 = true) {w' : World} (hown : OwnR w' w0.heap.size v a A) (hg : w.grownBy w' (y 0).ownBlock) (hb : v.ownBlock = (y 0).ownBlock ∨ v.ownBlock = some w.heap.size) : OrdI w0 other p1 p2 lv px a i A B xc xk (fun k => decide (k = 4) || f k) (upd y 4 v) w' := by
  obtain ⟨hC, h1, h2, h3, h5, h6, h7, h8, h11, h12, h13, c0, c4, c10, c14, h9, h15, d4, d10, d14, d15, c15, d16⟩ := h
  have e10 : f 10 = false := by
    cases e : f 10 with
    | false => rfl
    | true => have := (d10 e).1; simp [hf] at this
  have e14 : f 14 = false := by
    cases e : f 14 with
    | false => rfl
    | true => have := d14 e; simp [e10] at this
  have e15 : f 15 = false := by
    cases e : f 15 with
    | false => rfl
    | true => have := d15 e; simp [e14] at this
  have o0 := c0 hf0 hf
  refine ⟨hC.grown hg hC.size (fun k hk => (o0.lt k hk).1), by simpa [upd] using h1, by simpa [upd] using h2, by simpa [upd] using h3, by simpa [upd] using h5, by simpa [upd] using h6, by simpa [upd] using h7, by simpa [upd] using h8, by simpa [upd] using h11, by simpa [upd] using h12, by simpa [upd] using h13,
    by simp, fun _ _ => hown, by simp [e10], by simp [e14], fun h => ?_, by simp [e15], by simp [hf0], by simp [e10], by simp [e14], by simp [e15], by simpa [upd] using c15, by simp [e15]⟩
  obtain ⟨g, x1, x2⟩ := h9 (by simpa using h)
  obtain ⟨x3, x4, x5, x6⟩ := x2 e10
  have x5 := x5 hf0 hf
  refine ⟨g, x1, fun _ => ⟨x3, (hg.block g x4.lt (fun e => x5 e.symm)).trans x4, by simp, fun _ e => ?_⟩⟩
  have e : v.ownBlock = some g := e
  rcases hb with hb | hb
  · exact x5 (hb.symm.trans e)
  · rw [hb] at e
    have := x4.lt
    simp only [Option.some.injEq] at e
    omega
theorem OrdI.o10 (h : OrdI w0 other p1 p2 lv px a i A B xc xk f y w) (hf : f 10 = false) (hf4 : f 4 = true) (hf9 : f 9 = true) {w' : World} (hown : OwnR w' w0.heap.size v (a + 1) (A ++ [(xc, xk)])) (hg : w.grownBy w' (y 4).ownBlock) : OrdI w0 other p1 p2 lv px a i A B xc xk (fun k => decide (k = 10) || f k) (upd y 10 v) w' := by
  obtain ⟨hC, h1, h2, h3, h5, h6, h7, h8, h11, h12, h13, c0, c4, c10, c14, h9, h15, d4, d10, d14, d15, c15, d16⟩ := h
  have e14 : f 14 = false := by
    cases e : f 14 with
    | false => rfl
    | true => have := d14 e; simp [hf] at this
  have e15 : f 15 = false := by
    cases e : f 15 with
    | false => rfl
    | true => have := d15 e; simp [e14] at this
  have o4 := c4 hf4 hf
  refine ⟨hC.grown hg hC.size (fun k hk => (o4.lt k hk).1), by simpa [upd] using h1, by simpa [upd] using h2, by simpa [upd] using h3, by simpa [upd] using h5, by simpa [upd] using h6, by simpa [upd] using h7, by simpa [upd] using h8, by simpa [upd] using h11, by simpa [upd] using h12, by simpa [upd] using h13,
    by simp [hf4], by simp, fun _ _ => hown, by simp [e14], fun h => ?_, by simp [e15], by simpa using d4, by simp [hf4, hf9], by simp [e14], by simp [e15], by simpa [upd] using c15, by simp [e15]⟩
  obtain ⟨g, x1, _⟩ := h9 (by simpa using h)
  exact ⟨g, x1, by simp⟩
theorem OrdI.o14 (h : OrdI w0 other p1 p2 lv px a i A B xc xk f y w) (hf : f 14 = false) (hf10 : f 10 = true) {w' : World} (hown : OwnR w' w0.heap.size v (i + 1) (A ++ [(xc, xk)] ++ B)) (hg : w.grownBy w' (y 10).ownBlock) : OrdI w0 other p1 p2 lv px a i A B xc xk (fun k => decide (k = 14) || f k) (upd y 14 v) w' := by
  obtain ⟨hC, h1, h2, h3, h5, h6, h7, h8, h11, h12, h13, c0, c4, c10, c14, h9, h15, d4, d10, d14, d15, c15, d16⟩ := h
  have e15 : f 15 = false := by
    cases e : f 15 with
    | false => rfl
    | true => have := d15 e; simp [hf] at this
  have hf4 := (d10 hf10).1
  have o10 := c10 hf10 hf
  refine ⟨hC.grown hg hC.size (fun k hk => (o10.lt k hk).1), by simpa [upd] using h1, by simpa [upd] using h2, by simpa [upd] using h3, by simpa [upd] using h5, by simpa [upd] using h6, by simpa [upd] using h7, by simpa [upd] using h8, by simpa [upd] using h11, by simpa [upd] using h12, by simpa [upd] using h13,
    by simp [hf4], by simp [hf10], by simp, fun _ => hown, fun h => ?_, by simp [e15], by simpa using d4, by simpa using d10, by simp [hf10], by simp, by simpa [upd] using c15, by simp [e15]⟩
  obtain ⟨g, x1, _⟩ := h9 (by simpa using h)
  exact ⟨g, x1, by simp [hf10]⟩
end
end Go.Proofs.YtjfdfhnfcpfmcaaGreatDoor
