import Derived.Test.YtkhijdbigpaagaaNea
import Derived.Test.YtkhijdbigpaagaaNaf
import Derived.Test.YtkhijdbigpaagaaNf
import Derived.Test.YtkhijdbigpaagaaNre
import Derived.Deep.AppendLies
/-
  SkillTurned: the mathematics; an append of tasks as an operation of a drawn region; the invariant of the region in which a task is put between others.
-/
namespace Go.Proofs.Ytkhijdbigpaagaa
open Go.RowKit RG

theorem perm_at {ts us : List (Int × Int)} (h : us.Perm ts) {P : Int × Int → Prop} (hp : ∀ i, i < ts.length → P (ts[i]?.getD (0, 0))) : ∀ i, i < us.length → P (us[i]?.getD (0, 0)) := by
  intro i hi
  rw [List.getElem?_eq_getElem hi, Option.getD_some]
  obtain ⟨j, hj, e⟩ := List.mem_iff_getElem.1 (h.mem_iff.1 (List.getElem_mem hi))
  have := hp j hj
  rw [List.getElem?_eq_getElem hj, Option.getD_some, e] at this
  exact this
/-- P2.13, the first half: tasks in any other order. -/
theorem turn_math {S : Sch} {ts us : List (Int × Int)} {al : Int} {ls : List Int} {q : Int} (hp : us.Perm ts) (h : chanceF S ts al ls = (q, 0)) : chanceF S us al ls = (q, 0) := by
  obtain ⟨ht, hl, ha⟩ := chance_parts (by rw [h])
  obtain ⟨hc, hm, hal, hts⟩ := test_parts ht
  have hlen := hp.length_eq
  rw [chance_at ht hl ha] at h
  rw [chance_at (test_zero hc (by omega) (by omega) (perm_at hp (P := fun t => taskE S.sks.length t = 0) hts)) hl ha, ← h]
  rw [fk_perm (hp.map _)]
/-- P2.13, the second half: a further task that is done for sure. -/
theorem sure_math {S : Sch} {us : List (Int × Int)} {al : Int} {ls : List Int} {q : Int} (h : chanceF S us al ls = (q, 0)) (h6 : us.length < 6) (h5 : (500 : Int) ≤ ls[0]?.getD 0) :
    chanceF S (us ++ [(0, 0)]) al ls = (1000 * q, 0) ∧ 0 ≤ q ∧ q ≤ 1000000000000000 := by
  obtain ⟨ht, hl, ha⟩ := chance_parts (by rw [h])
  obtain ⟨hc, hm, hal, hts⟩ := test_parts ht
  have hs := (check_ok hc).1
  rw [chance_at ht hl ha] at h
  injection h with h _
  have hT : testE S (us ++ [(0, 0)]) al = 0 := by
    refine test_zero hc (by simp; omega) (by simp; omega) fun i hi => ?_
    by_cases e : i < us.length
    · rw [List.getElem?_append_left e]; exact hts i e
    · rw [List.getElem?_append_right (by omega)]
      have : i - us.length = 0 := by simp at hi; omega
      rw [this]
      unfold taskE
      rw [if_pos (inB_iff.2 (by simp; omega)), if_pos (inB_iff.2 (by simp))]
  refine ⟨?_, ?_, ?_⟩
  · rw [chance_at hT hl ha, ← h]
    have hd : doneT ls (0, 0) = 1000 := by show lim (500 + ls[0]?.getD 0 - 0) = 1000; unfold lim; omega
    have hp : (us ++ [((0 : Int), (0 : Int))]).Perm ((0, 0) :: us) := List.perm_append_comm
    rw [fk_perm (hp.map _), List.map_cons, hd]
    congr 1
    cases al.toNat with
    | zero => rfl
    | succ n => rw [show fk (1000 :: us.map (doneT ls)) (n + 1) = 1000 * fk (us.map (doneT ls)) (n + 1) + (1000 - 1000) * fk (us.map (doneT ls)) n from rfl]; omega
  · rw [← h]; exact fk_nn (done_in _ _) _
  · rw [← h]
    refine Int.le_trans (fk_le (done_in _ _) _) ?_
    rw [List.length_map]
    have : us.length ≤ 5 := by omega
    have h6 : us.length = 0 ∨ us.length = 1 ∨ us.length = 2 ∨ us.length = 3 ∨ us.length = 4 ∨ us.length = 5 := by omega
    rcases h6 with e | e | e | e | e | e <;> rw [e] <;> decide
/-- A task put between others. -/
theorem put_perm {ts T : List (Int × Int)} {i a : Nat} (hi : i < ts.length) (hp : T.Perm (ts.take i)) : (T.take a ++ [((ts[i]?.getD (0, 0)).1, (ts[i]?.getD (0, 0)).2)] ++ T.drop a).Perm (ts.take (i + 1)) := by
  have e : ts.take (i + 1) = ts.take i ++ [ts[i]?.getD (0, 0)] := by
    rw [List.take_add_one, List.getElem?_eq_getElem hi]; rfl
  rw [e]
  have h1 : (T.take a ++ [ts[i]?.getD (0, 0)] ++ T.drop a).Perm ([ts[i]?.getD (0, 0)] ++ T) := by
    have h2 : (T.take a ++ [ts[i]?.getD (0, 0)]).Perm ([ts[i]?.getD (0, 0)] ++ T.take a) := List.perm_append_comm
    have h3 := h2.append_right (T.drop a)
    rw [List.append_assoc [_] _ _, List.take_append_drop] at h3
    exact h3
  exact h1.trans (List.perm_append_comm.trans (hp.append_right _))

set_option maxRecDepth 100000 in
theorem wp_append_tks {w : World} {o : Oper} {a : Act} {K : Act → World → Prop} {Q : Exit → Act → World → Prop} (s x : Operand)
    (ho : o.op = .call { callee := .builtin .append, args := #[s, x], argTypes := #[46, 46] })
    (base : Nat) (i : TypeInfo) (hi : Try.prog.info? 100 = some i) (hz : i.zero = some (.agg #[.int .i64 0, .int .i64 0])) (hsize : i.size = 2) (hby : i.bytes = 16)
    (v : Value) (n : Nat) (xs : List Value) (hs : a.eval s = v) (hown : w.ownsRow base 100 2 v n xs)
    (R : Option Addr) (m c : Nat) (rs : List Sp) (hx : a.eval x = .slice R m c) (hr : RdRow w R m 2 (rs.map tkCells)) (hc : R = none → c = 0)
    (h63 : n + m ≤ maxLen) (hbytes : (n + m) * 16 ≤ 140737488355328) (hbase : base ≤ w.heap.size)
    (h : ∀ v' w', w'.ownsRow base 100 2 v' (n + m) (xs ++ rs.flatMap tkCells) → w.grownBy w' v.ownBlock → (v'.ownBlock = v.ownBlock ∨ v'.ownBlock = some w.heap.size) → K (a.put o.dst v') w') : o.wp Try.prog a w K Q := by
  have hl : rs.length = m := by have := hr.1; simpa using this
  cases R with
  | none =>
    have hm : m = 0 := by
      rcases Nat.eq_zero_or_pos m with h0 | h0
      · exact h0
      · obtain ⟨b, off, e, _⟩ := hr.2.2 h0
        cases e
    subst hm
    obtain rfl : rs = [] := List.eq_nil_of_length_eq_zero hl
    rw [hc rfl] at hx
    have hrun := run_append_owned_none (P := Try.prog) (w := w) base 46 o.type _ i 2 Try.underlying46 hi v n xs hown
    unfold Oper.wp execOp
    simp only [ho, resolve, invoke, builtin, Sem.run_bind, Sem.run_pure, Result.andThen_ok, List.map_toArray, List.map_cons, List.map_nil, hs, hx, hrun]
    exact h v w (by simpa using hown) (World.grownBy.refl w _) (.inl rfl)
  | some ad =>
    have hnews : ∀ j u, (rs.flatMap tkCells)[j]? = some u → w.cell? (ad.add j) = some u := by
      intro j u hj
      have hm : 0 < m := by
        rcases Nat.eq_zero_or_pos m with h0 | h0
        · obtain rfl : rs = [] := List.eq_nil_of_length_eq_zero (by rw [hl]; exact h0)
          simp at hj
        · exact h0
      obtain ⟨b, off, e, _, hcell⟩ := hr.2.2 hm
      injection e with e
      subst e
      have := hcell _ _ u (flatTk_back rs j u hj)
      rw [Addr.add_lit]
      rw [show off + j = off + j / 2 * 2 + j % 2 by omega]
      exact this
    obtain ⟨v', w', hrun, h2, h3, _, h5⟩ := run_append_own_at (P := Try.prog) w base 46 o.type _ i _ 2 16 Try.underlying46 hi hz hsize hby rfl (by decide) v n xs hown ad m c (rs.flatMap tkCells) (by rw [flatTk_len, hl]) hnews (tkOne rs) h63 hbytes hbase
    unfold Oper.wp execOp
    simp only [ho, resolve, invoke, builtin, Sem.run_bind, Sem.run_pure, Result.andThen_ok, List.map_toArray, List.map_cons, List.map_nil, hs, hx, hrun]
    exact h v' w' h2 h3 (h5.imp (fun e => by rw [e]) (fun e => e))

theorem row1_blk {w : World} {g : Nat} {x z : Int} (h : Blk w g 100 #[.int .i64 x, .int .i64 z]) : RdRow w (some ⟨g, 0, none⟩) 1 2 ([(x, z)].map tkCells) := by
  refine ⟨rfl, by simp [tkCells], fun _ => ⟨g, 0, rfl, h.lt, fun j i v hv => ?_⟩⟩
  match j, hv with
  | 0, hv =>
    rw [h.cell]
    match i, hv with
    | 0, hv => simpa [tkCells] using hv
    | 1, hv => simpa [tkCells] using hv
    | i + 2, hv => simp [tkCells] at hv
  | j + 1, hv => simp at hv
theorem row_drop {w : World} {g n a cap : Nat} {T : List Sp} (h : RdRow w (some ⟨g, 0, none⟩) n 2 (T.map tkCells)) (ha : a ≤ n) (hc : n ≤ cap) : RdRow w (if cap = a then some ⟨g, 0, none⟩ else some ⟨g, a * 2, none⟩) (n - a) 2 ((T.drop a).map tkCells) := by
  have hl : T.length = n := by have := h.1; simpa using this
  refine ⟨by simp [hl], fun x hx => ?_, fun hn => ?_⟩
  · obtain ⟨t, _, rfl⟩ := List.mem_map.1 hx
    rfl
  · obtain ⟨b, off, e, hlt, hcell⟩ := h.2.2 (by omega)
    simp only [Option.some.injEq, Addr.mk.injEq, and_true] at e
    obtain ⟨rfl, rfl⟩ := e
    rw [if_neg (by omega)]
    refine ⟨g, a * 2, rfl, hlt, fun j i v hv => ?_⟩
    have := hcell (a + j) i v (by rw [← hv, List.getElem?_map, List.getElem?_map, List.getElem?_drop])
    rw [show a * 2 + j * 2 + i = 0 + (a + j) * 2 + i by omega]
    exact this
theorem own_lower {w : World} {base base' : Nat} {e : TypeId} {size : Nat} {v : Value} {n : Nat} {xs : List Value} (h : w.ownsRow base e size v n xs) (hb : base' ≤ base) : w.ownsRow base' e size v n xs :=
  ⟨h.1, h.2.imp id fun ⟨g, cap, cur, h1, h2, h3⟩ => ⟨g, cap, cur, h1, Nat.le_trans hb h2, h3⟩⟩
abbrev OwnK (w : World) (base : Nat) (v : Value) (n : Nat) (l : List Sp) : Prop := w.ownsRow base 100 2 v n (l.flatMap tkCells)
/-- The region of the three appends, until the store. -/
def TrnC (w0 : World) (G : Nat) (other p1 p2 lv px : Value) (T a i : Nat) (A B : List Sp) (xc xk : Int) (f : Nat → Bool) (y : Nat → Value) (w : World) : Prop :=
  Below w0.heap.size w0 w ∧ ∃ v n l, OwnK w w0.heap.size v n l ∧
  (f 0 = true → f 5 = false → v = y 0 ∧ n = 0 ∧ l = []) ∧ (f 5 = true → f 12 = false → v = y 5 ∧ n = a ∧ l = A) ∧ (f 12 = true → f 17 = false → v = y 12 ∧ n = a + 1 ∧ l = A ++ [(xc, xk)]) ∧ (f 17 = true → v = y 17 ∧ n = i + 1 ∧ l = A ++ [(xc, xk)] ++ B) ∧
  (f 11 = true → f 12 = false → ∃ g, y 11 = .slice (some ⟨g, 0, none⟩) 1 1 ∧ Blk w g 100 #[.int .i64 xc, .int .i64 xk] ∧ v.ownBlock ≠ some g) ∧
  (f 1 = true → y 1 = .pointer (some ⟨G, 0, none⟩)) ∧ (f 2 = true → y 2 = other) ∧ (f 3 = true → y 3 = .int .i64 a) ∧ (f 4 = true → y 4 = p1) ∧ (f 6 = true → y 6 = .pointer (some ⟨T, 0, none⟩)) ∧ (f 7 = true → y 7 = lv) ∧ (f 8 = true → y 8 = .int .i64 i) ∧ (f 9 = true → y 9 = px) ∧ (f 10 = true → y 10 = .agg #[.int .i64 xc, .int .i64 xk]) ∧ (f 13 = true → y 13 = .pointer (some ⟨G, 0, none⟩)) ∧ (f 14 = true → y 14 = other) ∧ (f 15 = true → y 15 = .int .i64 a) ∧ (f 16 = true → y 16 = p2) ∧ (f 18 = true → y 18 = .pointer (some ⟨G, 0, none⟩)) ∧
  (f 5 = true → f 0 = true ∧ f 4 = true) ∧ (f 12 = true → f 5 = true ∧ f 11 = true) ∧ (f 17 = true → f 12 = true ∧ f 16 = true)
/-- The whole region. -/
def TrnI (w0 : World) (G : Nat) (other p1 p2 lv px : Value) (T a i : Nat) (A B : List Sp) (xc xk : Int) (f : Nat → Bool) (y : Nat → Value) (w : World) : Prop :=
  (f 19 = false ∧ TrnC w0 G other p1 p2 lv px T a i A B xc xk f y w) ∨
  (f 19 = true ∧ (∀ k, k < 19 → f k = true) ∧ ∃ w1 v, Below w0.heap.size w0 w1 ∧ OwnK w1 w0.heap.size v (i + 1) (A ++ [(xc, xk)] ++ B) ∧ w = w1.setCell ⟨G, 0, none⟩ v)
section
variable {w0 w w' : World} {G T a i : Nat} {other p1 p2 lv px v : Value} {A B : List Sp} {xc xk : Int} {f : Nat → Bool} {y : Nat → Value}
theorem TrnI.core (h : TrnI w0 G other p1 p2 lv px T a i A B xc xk f y w) {k : Nat} (hk : k < 20) (hf : f k = false) : f 19 = false ∧ TrnC w0 G other p1 p2 lv px T a i A B xc xk f y w := by
  rcases h with h | ⟨h1, h2, -⟩
  · exact h
  · rcases Nat.lt_or_ge k 19 with h3 | h3
    · rw [h2 k h3] at hf; cases hf
    · obtain rfl : k = 19 := by omega
      rw [h1] at hf; cases hf
theorem TrnC.all {k : Nat} (h : TrnC w0 G other p1 p2 lv px T a i A B xc xk (fun j => decide (j = k) || f j) y w) (hk : k < 19) (hf : f 19 = false) : TrnI w0 G other p1 p2 lv px T a i A B xc xk (fun j => decide (j = k) || f j) y w :=
  .inl ⟨by simp only [hf, Bool.or_false, decide_eq_false_iff_not]; omega, h⟩
theorem TrnC.init (_ : True) : TrnC w0 G other p1 p2 lv px T a i A B xc xk (fun _ => false) y w0 :=
  ⟨Below.refl _ _, .slice none 0 0, 0, [], World.ownsRow_nil _ _ _ _, by simp⟩
theorem TrnC.below (h : TrnC w0 G other p1 p2 lv px T a i A B xc xk f y w) (hb : Below w.heap.size w w') : TrnC w0 G other p1 p2 lv px T a i A B xc xk f y w' := by
  obtain ⟨hC, v, n, l, ho, c0, c5, c12, c17, s, rest⟩ := h
  refine ⟨hC.trans (hb.mono hC.size), v, n, l, own_below ho hb, c0, c5, c12, c17, fun x x' => ?_, rest⟩
  obtain ⟨g, e, e2, e3⟩ := s x x'
  exact ⟨g, e, e2.below hb e2.lt, e3⟩
theorem TrnC.o1 (h : TrnC w0 G other p1 p2 lv px T a i A B xc xk f y w) (hv : v = .pointer (some ⟨G, 0, none⟩)) : TrnC w0 G other p1 p2 lv px T a i A B xc xk (fun k => decide (k = 1) || f k) (upd y 1 v) w := by
  obtain ⟨hC, v1, n1, l1, ho, rest⟩ := h
  refine ⟨hC, v1, n1, l1, ho, ?_⟩
  simp [upd] at *
  grind
theorem TrnC.o2 (h : TrnC w0 G other p1 p2 lv px T a i A B xc xk f y w) (hv : v = other) : TrnC w0 G other p1 p2 lv px T a i A B xc xk (fun k => decide (k = 2) || f k) (upd y 2 v) w := by
  obtain ⟨hC, v1, n1, l1, ho, rest⟩ := h
  refine ⟨hC, v1, n1, l1, ho, ?_⟩
  simp [upd] at *
  grind
theorem TrnC.o3 (h : TrnC w0 G other p1 p2 lv px T a i A B xc xk f y w) (hv : v = .int .i64 a) : TrnC w0 G other p1 p2 lv px T a i A B xc xk (fun k => decide (k = 3) || f k) (upd y 3 v) w := by
  obtain ⟨hC, v1, n1, l1, ho, rest⟩ := h
  refine ⟨hC, v1, n1, l1, ho, ?_⟩
  simp [upd] at *
  grind
theorem TrnC.o4 (h : TrnC w0 G other p1 p2 lv px T a i A B xc xk f y w) (hv : v = p1) : TrnC w0 G other p1 p2 lv px T a i A B xc xk (fun k => decide (k = 4) || f k) (upd y 4 v) w := by
  obtain ⟨hC, v1, n1, l1, ho, rest⟩ := h
  refine ⟨hC, v1, n1, l1, ho, ?_⟩
  simp [upd] at *
  grind
theorem TrnC.o6 (h : TrnC w0 G other p1 p2 lv px T a i A B xc xk f y w) (hv : v = .pointer (some ⟨T, 0, none⟩)) : TrnC w0 G other p1 p2 lv px T a i A B xc xk (fun k => decide (k = 6) || f k) (upd y 6 v) w := by
  obtain ⟨hC, v1, n1, l1, ho, rest⟩ := h
  refine ⟨hC, v1, n1, l1, ho, ?_⟩
  simp [upd] at *
  grind
theorem TrnC.o7 (h : TrnC w0 G other p1 p2 lv px T a i A B xc xk f y w) (hv : v = lv) : TrnC w0 G other p1 p2 lv px T a i A B xc xk (fun k => decide (k = 7) || f k) (upd y 7 v) w := by
  obtain ⟨hC, v1, n1, l1, ho, rest⟩ := h
  refine ⟨hC, v1, n1, l1, ho, ?_⟩
  simp [upd] at *
  grind
theorem TrnC.o8 (h : TrnC w0 G other p1 p2 lv px T a i A B xc xk f y w) (hv : v = .int .i64 i) : TrnC w0 G other p1 p2 lv px T a i A B xc xk (fun k => decide (k = 8) || f k) (upd y 8 v) w := by
  obtain ⟨hC, v1, n1, l1, ho, rest⟩ := h
  refine ⟨hC, v1, n1, l1, ho, ?_⟩
  simp [upd] at *
  grind
theorem TrnC.o9 (h : TrnC w0 G other p1 p2 lv px T a i A B xc xk f y w) (hv : v = px) : TrnC w0 G other p1 p2 lv px T a i A B xc xk (fun k => decide (k = 9) || f k) (upd y 9 v) w := by
  obtain ⟨hC, v1, n1, l1, ho, rest⟩ := h
  refine ⟨hC, v1, n1, l1, ho, ?_⟩
  simp [upd] at *
  grind
theorem TrnC.o10 (h : TrnC w0 G other p1 p2 lv px T a i A B xc xk f y w) (hv : v = .agg #[.int .i64 xc, .int .i64 xk]) : TrnC w0 G other p1 p2 lv px T a i A B xc xk (fun k => decide (k = 10) || f k) (upd y 10 v) w := by
  obtain ⟨hC, v1, n1, l1, ho, rest⟩ := h
  refine ⟨hC, v1, n1, l1, ho, ?_⟩
  simp [upd] at *
  grind
theorem TrnC.o13 (h : TrnC w0 G other p1 p2 lv px T a i A B xc xk f y w) (hv : v = .pointer (some ⟨G, 0, none⟩)) : TrnC w0 G other p1 p2 lv px T a i A B xc xk (fun k => decide (k = 13) || f k) (upd y 13 v) w := by
  obtain ⟨hC, v1, n1, l1, ho, rest⟩ := h
  refine ⟨hC, v1, n1, l1, ho, ?_⟩
  simp [upd] at *
  grind
theorem TrnC.o14 (h : TrnC w0 G other p1 p2 lv px T a i A B xc xk f y w) (hv : v = other) : TrnC w0 G other p1 p2 lv px T a i A B xc xk (fun k => decide (k = 14) || f k) (upd y 14 v) w := by
  obtain ⟨hC, v1, n1, l1, ho, rest⟩ := h
  refine ⟨hC, v1, n1, l1, ho, ?_⟩
  simp [upd] at *
  grind
theorem TrnC.o15 (h : TrnC w0 G other p1 p2 lv px T a i A B xc xk f y w) (hv : v = .int .i64 a) : TrnC w0 G other p1 p2 lv px T a i A B xc xk (fun k => decide (k = 15) || f k) (upd y 15 v) w := by
  obtain ⟨hC, v1, n1, l1, ho, rest⟩ := h
  refine ⟨hC, v1, n1, l1, ho, ?_⟩
  simp [upd] at *
  grind
theorem TrnC.o16 (h : TrnC w0 G other p1 p2 lv px T a i A B xc xk f y w) (hv : v = p2) : TrnC w0 G other p1 p2 lv px T a i A B xc xk (fun k => decide (k = 16) || f k) (upd y 16 v) w := by
  obtain ⟨hC, v1, n1, l1, ho, rest⟩ := h
  refine ⟨hC, v1, n1, l1, ho, ?_⟩
  simp [upd] at *
  grind
theorem TrnC.o18 (h : TrnC w0 G other p1 p2 lv px T a i A B xc xk f y w) (hv : v = .pointer (some ⟨G, 0, none⟩)) : TrnC w0 G other p1 p2 lv px T a i A B xc xk (fun k => decide (k = 18) || f k) (upd y 18 v) w := by
  obtain ⟨hC, v1, n1, l1, ho, rest⟩ := h
  refine ⟨hC, v1, n1, l1, ho, ?_⟩
  simp [upd] at *
  grind
theorem TrnC.u1 (h : TrnC w0 G other p1 p2 lv px T a i A B xc xk f y w) : f 1 = true → y 1 = .pointer (some ⟨G, 0, none⟩) := by
  obtain ⟨_, _, _, _, _, _, _, _, _, _, r⟩ := h
  exact r.1
theorem TrnC.u2 (h : TrnC w0 G other p1 p2 lv px T a i A B xc xk f y w) : f 2 = true → y 2 = other := by
  obtain ⟨_, _, _, _, _, _, _, _, _, _, r⟩ := h
  exact r.2.1
theorem TrnC.u3 (h : TrnC w0 G other p1 p2 lv px T a i A B xc xk f y w) : f 3 = true → y 3 = .int .i64 a := by
  obtain ⟨_, _, _, _, _, _, _, _, _, _, r⟩ := h
  exact r.2.2.1
theorem TrnC.u4 (h : TrnC w0 G other p1 p2 lv px T a i A B xc xk f y w) : f 4 = true → y 4 = p1 := by
  obtain ⟨_, _, _, _, _, _, _, _, _, _, r⟩ := h
  exact r.2.2.2.1
theorem TrnC.u6 (h : TrnC w0 G other p1 p2 lv px T a i A B xc xk f y w) : f 6 = true → y 6 = .pointer (some ⟨T, 0, none⟩) := by
  obtain ⟨_, _, _, _, _, _, _, _, _, _, r⟩ := h
  exact r.2.2.2.2.1
theorem TrnC.u7 (h : TrnC w0 G other p1 p2 lv px T a i A B xc xk f y w) : f 7 = true → y 7 = lv := by
  obtain ⟨_, _, _, _, _, _, _, _, _, _, r⟩ := h
  exact r.2.2.2.2.2.1
theorem TrnC.u8 (h : TrnC w0 G other p1 p2 lv px T a i A B xc xk f y w) : f 8 = true → y 8 = .int .i64 i := by
  obtain ⟨_, _, _, _, _, _, _, _, _, _, r⟩ := h
  exact r.2.2.2.2.2.2.1
theorem TrnC.u9 (h : TrnC w0 G other p1 p2 lv px T a i A B xc xk f y w) : f 9 = true → y 9 = px := by
  obtain ⟨_, _, _, _, _, _, _, _, _, _, r⟩ := h
  exact r.2.2.2.2.2.2.2.1
theorem TrnC.u10 (h : TrnC w0 G other p1 p2 lv px T a i A B xc xk f y w) : f 10 = true → y 10 = .agg #[.int .i64 xc, .int .i64 xk] := by
  obtain ⟨_, _, _, _, _, _, _, _, _, _, r⟩ := h
  exact r.2.2.2.2.2.2.2.2.1
theorem TrnC.u13 (h : TrnC w0 G other p1 p2 lv px T a i A B xc xk f y w) : f 13 = true → y 13 = .pointer (some ⟨G, 0, none⟩) := by
  obtain ⟨_, _, _, _, _, _, _, _, _, _, r⟩ := h
  exact r.2.2.2.2.2.2.2.2.2.1
theorem TrnC.u14 (h : TrnC w0 G other p1 p2 lv px T a i A B xc xk f y w) : f 14 = true → y 14 = other := by
  obtain ⟨_, _, _, _, _, _, _, _, _, _, r⟩ := h
  exact r.2.2.2.2.2.2.2.2.2.2.1
theorem TrnC.u15 (h : TrnC w0 G other p1 p2 lv px T a i A B xc xk f y w) : f 15 = true → y 15 = .int .i64 a := by
  obtain ⟨_, _, _, _, _, _, _, _, _, _, r⟩ := h
  exact r.2.2.2.2.2.2.2.2.2.2.2.1
theorem TrnC.u16 (h : TrnC w0 G other p1 p2 lv px T a i A B xc xk f y w) : f 16 = true → y 16 = p2 := by
  obtain ⟨_, _, _, _, _, _, _, _, _, _, r⟩ := h
  exact r.2.2.2.2.2.2.2.2.2.2.2.2.1
theorem TrnC.u18 (h : TrnC w0 G other p1 p2 lv px T a i A B xc xk f y w) : f 18 = true → y 18 = .pointer (some ⟨G, 0, none⟩) := by
  obtain ⟨_, _, _, _, _, _, _, _, _, _, r⟩ := h
  exact r.2.2.2.2.2.2.2.2.2.2.2.2.2.1
theorem TrnC.o0 (h : TrnC w0 G other p1 p2 lv px T a i A B xc xk f y w) (hf : f 0 = false) (hv : v = .slice (some ⟨w.heap.size, 0, none⟩) 0 0) : TrnC w0 G other p1 p2 lv px T a i A B xc xk (fun k => decide (k = 0) || f k) (upd y 0 v) (w.alloc (.cells #[] 100)) := by
  have hA : Below w.heap.size w (w.alloc (.cells #[] 100)) := (Below.refl _ _).alloc (Nat.le_refl _) _
  obtain ⟨hC, v1, n1, l1, ho, c0, c5, c12, c17, s, rest⟩ := h
  have hnew : OwnK (w.alloc (.cells #[] 100)) w0.heap.size v 0 [] := by
    rw [hv]
    exact ⟨rfl, .inr ⟨w.heap.size, 0, #[], rfl, hC.size, World.alloc_heap_new w _, Nat.le_refl _, by unfold maxLen; omega, rfl, rfl⟩⟩
  have q : (∃ g, y 11 = .slice (some ⟨g, 0, none⟩) 1 1 ∧ Blk w g 100 #[.int .i64 xc, .int .i64 xk] ∧ v1.ownBlock ≠ some g) → ∃ g, y 11 = .slice (some ⟨g, 0, none⟩) 1 1 ∧ Blk (w.alloc (.cells #[] 100)) g 100 #[.int .i64 xc, .int .i64 xk] ∧ v.ownBlock ≠ some g := fun ⟨g, e, e2, e3⟩ => ⟨g, e, e2.below hA e2.lt, by
    rw [hv]
    have := e2.lt
    simp [Value.ownBlock]; omega⟩
  replace s := fun x x' => q (s x x')
  refine ⟨hC.alloc hC.size _, v, 0, [], hnew, ?_⟩
  clear ho q hA hC hv hnew
  generalize w.alloc (.cells #[] 100) = w2 at *
  simp [upd] at *
  grind
theorem TrnC.o11 (h : TrnC w0 G other p1 p2 lv px T a i A B xc xk f y w) (hf : f 11 = false) (hv : v = .slice (some ⟨w.heap.size, 0, none⟩) 1 1) : TrnC w0 G other p1 p2 lv px T a i A B xc xk (fun k => decide (k = 11) || f k) (upd y 11 v) (w.alloc (.cells #[.int .i64 xc, .int .i64 xk] 100)) := by
  have hA : Below w.heap.size w (w.alloc (.cells #[.int .i64 xc, .int .i64 xk] 100)) := (Below.refl _ _).alloc (Nat.le_refl _) _
  obtain ⟨hC, v1, n1, l1, ho, c0, c5, c12, c17, s, rest⟩ := h
  have hnew : ∃ g, v = .slice (some ⟨g, 0, none⟩) 1 1 ∧ Blk (w.alloc (.cells #[.int .i64 xc, .int .i64 xk] 100)) g 100 #[.int .i64 xc, .int .i64 xk] ∧ v1.ownBlock ≠ some g := ⟨_, hv, blkNew rfl, fun e => by have := (ho.lt _ e).2; omega⟩
  refine ⟨hC.alloc hC.size _, v1, n1, l1, own_below ho hA, ?_⟩
  clear ho hA hC hv
  generalize w.alloc (.cells #[.int .i64 xc, .int .i64 xk] 100) = w2 at *
  simp [upd] at *
  grind
theorem TrnC.own0 (h : TrnC w0 G other p1 p2 lv px T a i A B xc xk f y w) (h0 : f 0 = true) (h5 : f 5 = false) : OwnK w w0.heap.size (y 0) 0 [] := by
  obtain ⟨hC, v1, n1, l1, ho, c0, c5, c12, c17, s, rest⟩ := h
  obtain ⟨rfl, rfl, rfl⟩ := c0 h0 h5
  exact ho
theorem TrnC.own5 (h : TrnC w0 G other p1 p2 lv px T a i A B xc xk f y w) (h0 : f 5 = true) (h5 : f 12 = false) (h11 : f 11 = true) : OwnK w w0.heap.size (y 5) a A ∧ ∃ g, y 11 = .slice (some ⟨g, 0, none⟩) 1 1 ∧ Blk w g 100 #[.int .i64 xc, .int .i64 xk] := by
  obtain ⟨hC, v1, n1, l1, ho, c0, c5, c12, c17, s, rest⟩ := h
  obtain ⟨rfl, rfl, rfl⟩ := c5 h0 h5
  obtain ⟨g, e, e2, _⟩ := s h11 h5
  exact ⟨ho, g, e, e2⟩
theorem TrnC.own12 (h : TrnC w0 G other p1 p2 lv px T a i A B xc xk f y w) (h0 : f 12 = true) (h5 : f 17 = false) : OwnK w w0.heap.size (y 12) (a + 1) (A ++ [(xc, xk)]) := by
  obtain ⟨hC, v1, n1, l1, ho, c0, c5, c12, c17, s, rest⟩ := h
  obtain ⟨rfl, rfl, rfl⟩ := c12 h0 h5
  exact ho
theorem TrnC.own17 (h : TrnC w0 G other p1 p2 lv px T a i A B xc xk f y w) (h0 : f 17 = true) : OwnK w w0.heap.size (y 17) (i + 1) (A ++ [(xc, xk)] ++ B) := by
  obtain ⟨hC, v1, n1, l1, ho, c0, c5, c12, c17, s, rest⟩ := h
  obtain ⟨rfl, rfl, rfl⟩ := c17 h0
  exact ho
theorem TrnC.o5 (h : TrnC w0 G other p1 p2 lv px T a i A B xc xk f y w) (hf : f 5 = false) (hf0 : f 0 = true) (hf4 : f 4 = true) (ho2 : OwnK w' w0.heap.size v a A) (hg : w.grownBy w' (y 0).ownBlock) (hb : v.ownBlock = (y 0).ownBlock ∨ v.ownBlock = some w.heap.size) : TrnC w0 G other p1 p2 lv px T a i A B xc xk (fun k => decide (k = 5) || f k) (upd y 5 v) w' := by
  obtain ⟨hC, v1, n1, l1, ho, c0, c5, c12, c17, s, rest⟩ := h
  obtain ⟨e1, -, -⟩ := c0 hf0 hf
  rw [← e1] at hg hb
  have q : (∃ g, y 11 = .slice (some ⟨g, 0, none⟩) 1 1 ∧ Blk w g 100 #[.int .i64 xc, .int .i64 xk] ∧ v1.ownBlock ≠ some g) → ∃ g, y 11 = .slice (some ⟨g, 0, none⟩) 1 1 ∧ Blk w' g 100 #[.int .i64 xc, .int .i64 xk] ∧ v.ownBlock ≠ some g := fun ⟨g, e, e2, e3⟩ => ⟨g, e, (hg.block g e2.lt (fun x => e3 x.symm)).trans e2, by
    have := e2.lt
    rcases hb with hb | hb
    · rw [hb]; exact e3
    · rw [hb]; intro x; injection x with x; omega⟩
  replace s := fun x x' => q (s x x')
  refine ⟨hC.grown hg hC.size (fun k hk => (ho.lt k hk).1), v, a, A, ho2, ?_⟩
  clear ho q hC hg hb ho2 e1
  simp [upd] at *
  grind
theorem TrnC.o12 (h : TrnC w0 G other p1 p2 lv px T a i A B xc xk f y w) (hf : f 12 = false) (hf0 : f 5 = true) (hf4 : f 11 = true) (ho2 : OwnK w' w0.heap.size v (a + 1) (A ++ [(xc, xk)])) (hg : w.grownBy w' (y 5).ownBlock) : TrnC w0 G other p1 p2 lv px T a i A B xc xk (fun k => decide (k = 12) || f k) (upd y 12 v) w' := by
  obtain ⟨hC, v1, n1, l1, ho, c0, c5, c12, c17, s, rest⟩ := h
  obtain ⟨e1, -, -⟩ := c5 hf0 hf
  rw [← e1] at hg
  refine ⟨hC.grown hg hC.size (fun k hk => (ho.lt k hk).1), v, a + 1, A ++ [(xc, xk)], ho2, ?_⟩
  clear ho hC hg ho2 e1 s
  simp [upd] at *
  grind
theorem TrnC.o17 (h : TrnC w0 G other p1 p2 lv px T a i A B xc xk f y w) (hf : f 17 = false) (hf0 : f 12 = true) (hf4 : f 16 = true) (ho2 : OwnK w' w0.heap.size v (i + 1) (A ++ [(xc, xk)] ++ B)) (hg : w.grownBy w' (y 12).ownBlock) : TrnC w0 G other p1 p2 lv px T a i A B xc xk (fun k => decide (k = 17) || f k) (upd y 17 v) w' := by
  obtain ⟨hC, v1, n1, l1, ho, c0, c5, c12, c17, s, rest⟩ := h
  obtain ⟨e1, -, -⟩ := c12 hf0 hf
  rw [← e1] at hg
  refine ⟨hC.grown hg hC.size (fun k hk => (ho.lt k hk).1), v, i + 1, A ++ [(xc, xk)] ++ B, ho2, ?_⟩
  clear ho hC hg ho2 e1 s
  simp [upd] at *
  grind
end
end Go.Proofs.Ytkhijdbigpaagaa
