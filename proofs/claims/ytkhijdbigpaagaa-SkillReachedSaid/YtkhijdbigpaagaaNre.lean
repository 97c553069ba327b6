import Derived.Test.YtkhijdbigpaagaaNfa
import Derived.Deep.AppendLies
import Derived.Test.YtkhijdbigpaagaaNf
/-
  SkillReady: the mathematics: a chance at levels inside the ranges lies between both ends.
-/
namespace Go.Proofs.Ytkhijdbigpaagaa
open Go.RowKit RG

theorem readyE_not (S : Sch) (ts : List (Int × Int)) (al : Int) (rs : List Sp) (ch : Int) (h : (readyF S ts al rs ch).2.2.2 = 0) : readyE S ts al rs ch = 0 := by
  unfold readyF at h
  split at h
  · rename_i h0; exact h0
  · exact h
theorem done_le {t : Int × Int} {us bs : List Int} (hal : us.length = bs.length) (h : ∀ i, i < us.length → us[i]?.getD 0 ≤ bs[i]?.getD 0) : doneT us t ≤ doneT bs t := by
  unfold doneT
  refine lim_mono ?_
  rcases Nat.lt_or_ge t.1.toNat us.length with h1 | h1
  · have := h _ h1
    omega
  · rw [List.getElem?_eq_none h1, List.getElem?_eq_none (by omega)]; exact Int.le_refl _
theorem atL_le {ts : List (Int × Int)} {al : Int} {us bs : List Int} (hal : us.length = bs.length) (h : ∀ i, i < us.length → us[i]?.getD 0 ≤ bs[i]?.getD 0) : atL ts al us ≤ atL ts al bs :=
  fk_le_of _ rfl fun _ _ => done_le hal h
theorem chance_in {S : Sch} {ts : List (Int × Int)} {al : Int} {ls : List Int} (ht : testE S ts al = 0) (hl : ls.length = S.sks.length) (h : ∀ i, i < ls.length → 0 ≤ ls[i]?.getD 0 ∧ ls[i]?.getD 0 ≤ 1000) : chanceF S ts al ls = (atL ts al ls, 0) := by
  unfold chanceF atL
  rw [if_pos ht, if_pos hl, if_pos]
  rw [List.all_eq_true]
  intro x hx
  obtain ⟨i, hi, rfl⟩ := List.mem_iff_getElem.1 hx
  have := h i hi
  rw [List.getElem?_eq_getElem hi] at this
  exact inB_iff.2 this
/-- P2.10: what the law SkillReady asks. -/
theorem ready_math {S : Sch} {ts : List (Int × Int)} {al : Int} {rs : List Sp} {ch : Int} (h : (readyF S ts al rs ch).2.2.2 = 0) :
    ∃ lo hi, readyF S ts al rs ch = (decide (ch * 1000 ^ (ts.length - 1) ≤ lo), lo, hi, 0) ∧ (1 ≤ ts.length ∧ ts.length ≤ 6) ∧ rs.length = S.sks.length ∧ (0 ≤ ch ∧ ch ≤ 1000) ∧
      chanceF S ts al (rs.map (·.1)) = (lo, 0) ∧ chanceF S ts al (rs.map (·.2)) = (hi, 0) ∧
      ∀ ms : List Int, ms.length = rs.length → (∀ i, i < rs.length → (rs[i]?.getD (0, 0)).1 ≤ ms[i]?.getD 0 ∧ ms[i]?.getD 0 ≤ (rs[i]?.getD (0, 0)).2) → ∃ c, chanceF S ts al ms = (c, 0) ∧ lo ≤ c ∧ c ≤ hi := by
  have h0 := readyE_not _ _ _ _ _ h
  obtain ⟨h1, h2, h3⟩ := ready_ok h0
  obtain ⟨hn, hr⟩ := ranges_ok h2
  obtain ⟨_, hm, _, _⟩ := test_parts h1
  have hf : ∀ i, i < rs.length → (rs.map (·.1))[i]?.getD 0 = (rs[i]?.getD (0, 0)).1 := fun i hi => by
    rw [List.getElem?_map, List.getElem?_eq_getElem hi]; rfl
  have hg : ∀ i, i < rs.length → (rs.map (·.2))[i]?.getD 0 = (rs[i]?.getD (0, 0)).2 := fun i hi => by
    rw [List.getElem?_map, List.getElem?_eq_getElem hi]; rfl
  refine ⟨atL ts al (rs.map (·.1)), atL ts al (rs.map (·.2)), ?_, hm, hn, h3, ?_, ?_, fun ms hl hms => ⟨atL ts al ms, ?_, ?_, ?_⟩⟩
  · unfold readyF; rw [if_pos h0]
  · refine chance_in h1 (by rw [List.length_map]; exact hn) fun i hi => ?_
    rw [List.length_map] at hi
    have := hr i hi
    rw [hf i hi]; omega
  · refine chance_in h1 (by rw [List.length_map]; exact hn) fun i hi => ?_
    rw [List.length_map] at hi
    have := hr i hi
    rw [hg i hi]; omega
  · refine chance_in h1 (by rw [hl]; exact hn) fun i hi => ?_
    rw [hl] at hi
    have := hr i hi
    have := hms i hi
    omega
  · refine atL_le (by rw [List.length_map, hl]) fun i hi => ?_
    rw [List.length_map] at hi
    rw [hf i hi]; exact (hms i hi).1
  · refine atL_le (by rw [List.length_map, hl]) fun i hi => ?_
    rw [hl] at hi
    rw [hg i hi]; exact (hms i hi).2
end Go.Proofs.Ytkhijdbigpaagaa

/-
  SkillReady: an append of one number to a row of one's own, as an operation of a drawn region.
-/
namespace Go.Proofs.Ytkhijdbigpaagaa
open Go.RowKit RG

set_option maxRecDepth 100000 in
theorem wp_append_int {w : World} {o : Oper} {a : Act} {K : Act → World → Prop} {Q : Exit → Act → World → Prop} (s x : Operand)
    (ho : o.op = .call { callee := .builtin .append, args := #[s, x], argTypes := #[49, 49] })
    (base : Nat) (i : TypeInfo) (hi : Try.prog.info? 3 = some i) (hz : i.zero = some (.int .i64 0)) (hsize : i.size = 1) (hby : i.bytes = 8)
    (v : Value) (n : Nat) (xs : List Value) (hs : a.eval s = v) (hown : w.ownsRow base 3 1 v n xs)
    (g c : Nat) (z : Int) (hx : a.eval x = .slice (some ⟨g, 0, none⟩) 1 c) (hc : w.cell? ⟨g, 0, none⟩ = some (.int .i64 z))
    (h63 : n + 1 ≤ maxLen) (hbytes : (n + 1) * 8 ≤ 140737488355328) (hbase : base ≤ w.heap.size)
    (h : ∀ v' w', w'.ownsRow base 3 1 v' (n + 1) (xs ++ [.int .i64 z]) → w.grownBy w' v.ownBlock → (v'.ownBlock = v.ownBlock ∨ v'.ownBlock = some w.heap.size) → K (a.put o.dst v') w') : o.wp Try.prog a w K Q := by
  have hnews : ∀ j u, ([.int .i64 z] : List Value)[j]? = some u → w.cell? ((⟨g, 0, none⟩ : Addr).add j) = some u := by
    intro j u hj
    match j, hj with
    | 0, hj => simp at hj; subst hj; simpa [Addr.add] using hc
    | j + 1, hj => simp at hj
  obtain ⟨v', w', hrun, h2, h3, _, h5⟩ := run_append_own_at (P := Try.prog) w base 49 o.type _ i _ 1 8 Try.underlying49 hi hz hsize hby rfl (by decide) v n xs hown ⟨g, 0, none⟩ 1 c [.int .i64 z] rfl hnews (by simp [Value.oneCell']) h63 hbytes hbase
  unfold Oper.wp execOp
  simp only [ho, resolve, invoke, builtin, Sem.run_bind, Sem.run_pure, Result.andThen_ok, List.map_toArray, List.map_cons, List.map_nil, hs, hx, hrun]
  exact h v' w' h2 h3 (h5.imp (fun e => by rw [e]) (fun e => e))

/-- Three rows of numbers of one's own, no two in one block. -/
def OwnT (w : World) (base : Nat) (v1 v2 v3 : Value) (n1 n2 n3 : Nat) (l1 l2 l3 : List Value) : Prop :=
  w.ownsRow base 3 1 v1 n1 l1 ∧ w.ownsRow base 3 1 v2 n2 l2 ∧ w.ownsRow base 3 1 v3 n3 l3 ∧
    (v1.ownBlock = none ∨ v1.ownBlock ≠ v2.ownBlock) ∧ (v2.ownBlock = none ∨ v2.ownBlock ≠ v3.ownBlock) ∧ (v3.ownBlock = none ∨ v3.ownBlock ≠ v1.ownBlock)
section
variable {w w' : World} {base : Nat} {v1 v2 v3 v : Value} {n1 n2 n3 n : Nat} {l1 l2 l3 l : List Value}
theorem OwnT.nil (w : World) (base : Nat) : OwnT w base (.slice none 0 0) (.slice none 0 0) (.slice none 0 0) 0 0 0 [] [] [] :=
  ⟨World.ownsRow_nil _ _ _ _, World.ownsRow_nil _ _ _ _, World.ownsRow_nil _ _ _ _, .inl rfl, .inl rfl, .inl rfl⟩
theorem OwnT.turn (h : OwnT w base v1 v2 v3 n1 n2 n3 l1 l2 l3) : OwnT w base v2 v3 v1 n2 n3 n1 l2 l3 l1 := ⟨h.2.1, h.2.2.1, h.1, h.2.2.2.2.1, h.2.2.2.2.2, h.2.2.2.1⟩
theorem OwnT.below (h : OwnT w base v1 v2 v3 n1 n2 n3 l1 l2 l3) (hb : Below w.heap.size w w') : OwnT w' base v1 v2 v3 n1 n2 n3 l1 l2 l3 :=
  ⟨own_below h.1 hb, own_below h.2.1 hb, own_below h.2.2.1 hb, h.2.2.2⟩
theorem OwnT.grow (h : OwnT w base v1 v2 v3 n1 n2 n3 l1 l2 l3) (ho : w'.ownsRow base 3 1 v n l) (hg : w.grownBy w' v1.ownBlock) (hb : v.ownBlock = v1.ownBlock ∨ v.ownBlock = some w.heap.size) : OwnT w' base v v2 v3 n n2 n3 l l2 l3 := by
  obtain ⟨h1, h2, h3, d12, d23, d31⟩ := h
  have k2 : v2.ownBlock = none ∨ v2.ownBlock ≠ v1.ownBlock := by
    rcases d12 with d | d
    · cases e : v2.ownBlock with
      | none => exact .inl rfl
      | some g => rw [d]; exact .inr (fun h => nomatch h)
    · exact .inr (fun e => d e.symm)
  refine ⟨ho, h2.kept hg k2, h3.kept hg d31, ?_, d23, ?_⟩
  · rcases hb with hb | hb
    · rw [hb]; exact d12
    · rw [hb]
      refine .inr fun e => ?_
      have := (h2.lt _ e.symm).2
      omega
  · rcases hb with hb | hb
    · rw [hb]; exact d31
    · rw [hb]
      cases e : v3.ownBlock with
      | none => exact .inl rfl
      | some g =>
        have := (h3.lt _ e).2
        exact .inr fun e2 => by injection e2 with e2; omega
/-- A block that is none of theirs stays what it is when the first of them grows. -/
def FreeT (w : World) (g : Nat) (v1 v2 v3 : Value) : Prop := g < w.heap.size ∧ v1.ownBlock ≠ some g ∧ v2.ownBlock ≠ some g ∧ v3.ownBlock ≠ some g
theorem FreeT.turn {g : Nat} (h : FreeT w g v1 v2 v3) : FreeT w g v2 v3 v1 := ⟨h.1, h.2.2.1, h.2.2.2, h.2.1⟩
theorem FreeT.below {g : Nat} (h : FreeT w g v1 v2 v3) (hb : Below w.heap.size w w') : FreeT w' g v1 v2 v3 := ⟨Nat.lt_of_lt_of_le h.1 hb.size, h.2⟩
theorem FreeT.fresh (h : OwnT w base v1 v2 v3 n1 n2 n3 l1 l2 l3) (o : Obj) : FreeT (w.alloc o) w.heap.size v1 v2 v3 :=
  ⟨by simp, fun e => by have := (h.1.lt _ e).2; omega, fun e => by have := (h.2.1.lt _ e).2; omega, fun e => by have := (h.2.2.1.lt _ e).2; omega⟩
theorem FreeT.grow {g : Nat} (h : FreeT w g v1 v2 v3) (hg : w.grownBy w' v1.ownBlock) (hs : w.heap.size ≤ w'.heap.size) (hb : v.ownBlock = v1.ownBlock ∨ v.ownBlock = some w.heap.size) : FreeT w' g v v2 v3 ∧ w'.heap[g]? = w.heap[g]? := by
  refine ⟨⟨Nat.lt_of_lt_of_le h.1 hs, ?_, h.2.2⟩, hg.block g h.1 (fun e => h.2.1 e.symm)⟩
  rcases hb with hb | hb
  · rw [hb]; exact h.2.1
  · rw [hb]
    intro e
    injection e with e
    have := h.1
    omega
end
end Go.Proofs.Ytkhijdbigpaagaa

/-
  SkillReady: the invariant of the region of the three appends.
-/
namespace Go.Proofs.Ytkhijdbigpaagaa
open Go.RowKit RG

/-- What is known in the region of the three appends, of what is listed, of the values and of the world. -/
def RdyI (w0 : World) (base : Nat) (V1 V2 V3 : Value) (n : Nat) (L1 L2 L3 : List Value) (gb : Nat) (lo hi : Int) (pn N : Value) (j : Nat) (f : Nat → Bool) (y : Nat → Value) (w : World) : Prop :=
  Below base w0 w ∧ base ≤ w.heap.size ∧ ∃ v1 v2 v3 m1 m2 m3 l1 l2 l3, OwnT w base v1 v2 v3 m1 m2 m3 l1 l2 l3 ∧ FreeT w gb v1 v2 v3 ∧ Blk w gb 32 #[.int .i64 lo, .int .i64 hi] ∧
  (f 8 = false → v1 = V1 ∧ m1 = n ∧ l1 = L1) ∧ (f 8 = true → v1 = y 8 ∧ m1 = n + 1 ∧ l1 = L1 ++ [y 6]) ∧
  (f 13 = false → v2 = V2 ∧ m2 = n ∧ l2 = L2) ∧ (f 13 = true → v2 = y 13 ∧ m2 = n + 1 ∧ l2 = L2 ++ [.int .i64 lo]) ∧
  (f 18 = false → v3 = V3 ∧ m3 = n ∧ l3 = L3) ∧ (f 18 = true → v3 = y 18 ∧ m3 = n + 1 ∧ l3 = L3 ++ [.int .i64 hi]) ∧
  (f 7 = true → f 8 = false → ∃ g, y 7 = .slice (some ⟨g, 0, none⟩) 1 1 ∧ Blk w g 3 #[y 6] ∧ FreeT w g v1 v2 v3) ∧
  (f 12 = true → f 13 = false → ∃ g, y 12 = .slice (some ⟨g, 0, none⟩) 1 1 ∧ Blk w g 3 #[.int .i64 lo] ∧ FreeT w g v1 v2 v3) ∧
  (f 17 = true → f 18 = false → ∃ g, y 17 = .slice (some ⟨g, 0, none⟩) 1 1 ∧ Blk w g 3 #[.int .i64 hi] ∧ FreeT w g v1 v2 v3) ∧
  (f 0 = true → y 0 = V1) ∧ (f 1 = true → y 1 = .agg #[.int .i64 lo, .int .i64 hi]) ∧ (f 2 = true → y 2 = pn) ∧ (f 3 = true → y 3 = N) ∧ (f 4 = true → y 4 = .int .i64 j) ∧
  (f 5 = true → ∃ z, y 5 = .int .i64 z ∧ 0 ≤ z ∧ z ≤ 65535) ∧ (f 6 = true → ∃ z, y 6 = .int .i64 z ∧ lo ≤ z ∧ z ≤ hi) ∧
  (f 9 = true → y 9 = V2) ∧ (f 10 = true → y 10 = .pointer (some ⟨gb, 0, none⟩)) ∧ (f 11 = true → y 11 = .int .i64 lo) ∧
  (f 14 = true → y 14 = V3) ∧ (f 15 = true → y 15 = .pointer (some ⟨gb, 1, none⟩)) ∧ (f 16 = true → y 16 = .int .i64 hi) ∧
  (f 19 = true → y 19 = y 8) ∧ (f 20 = true → y 20 = y 13) ∧ (f 21 = true → y 21 = y 18) ∧ (f 19 = false → y 19 = V1) ∧ (f 20 = false → y 20 = V2) ∧ (f 21 = false → y 21 = V3) ∧
  (f 8 = true → f 7 = true ∧ f 0 = true) ∧ (f 7 = true → f 6 = true) ∧ (f 13 = true → f 12 = true ∧ f 9 = true) ∧ (f 18 = true → f 17 = true ∧ f 14 = true) ∧ (f 19 = true → f 8 = true) ∧ (f 20 = true → f 13 = true) ∧ (f 21 = true → f 18 = true)
section
variable {w0 w w' : World} {base : Nat} {V1 V2 V3 v pn N : Value} {n gb j : Nat} {L1 L2 L3 : List Value} {lo hi : Int} {f : Nat → Bool} {y : Nat → Value}
theorem RdyI.below (h : RdyI w0 base V1 V2 V3 n L1 L2 L3 gb lo hi pn N j f y w) (hb : Below w.heap.size w w') : RdyI w0 base V1 V2 V3 n L1 L2 L3 gb lo hi pn N j f y w' := by
  obtain ⟨hC, hs, v1, v2, v3, m1, m2, m3, l1, l2, l3, ho, hf, hk, a1, a2, a3, a4, a5, a6, s1, s2, s3, rest⟩ := h
  refine ⟨hC.trans (hb.mono hs), Nat.le_trans hs hb.size, v1, v2, v3, m1, m2, m3, l1, l2, l3, ho.below hb, hf.below hb, hk.below hb hk.lt, a1, a2, a3, a4, a5, a6, fun x x' => ?_, fun x x' => ?_, fun x x' => ?_, rest⟩
  · obtain ⟨g, e, e2, e3⟩ := s1 x x'
    exact ⟨g, e, e2.below hb e2.lt, e3.below hb⟩
  · obtain ⟨g, e, e2, e3⟩ := s2 x x'
    exact ⟨g, e, e2.below hb e2.lt, e3.below hb⟩
  · obtain ⟨g, e, e2, e3⟩ := s3 x x'
    exact ⟨g, e, e2.below hb e2.lt, e3.below hb⟩
theorem RdyI.o0 (h : RdyI w0 base V1 V2 V3 n L1 L2 L3 gb lo hi pn N j f y w) (hv : v = V1) : RdyI w0 base V1 V2 V3 n L1 L2 L3 gb lo hi pn N j (fun k => decide (k = 0) || f k) (upd y 0 v) w := by
  obtain ⟨hC, hs, v1, v2, v3, m1, m2, m3, l1, l2, l3, rest⟩ := h
  refine ⟨hC, hs, v1, v2, v3, m1, m2, m3, l1, l2, l3, ?_⟩
  simp [upd] at *
  grind
theorem RdyI.o1 (h : RdyI w0 base V1 V2 V3 n L1 L2 L3 gb lo hi pn N j f y w) (hv : v = .agg #[.int .i64 lo, .int .i64 hi]) : RdyI w0 base V1 V2 V3 n L1 L2 L3 gb lo hi pn N j (fun k => decide (k = 1) || f k) (upd y 1 v) w := by
  obtain ⟨hC, hs, v1, v2, v3, m1, m2, m3, l1, l2, l3, rest⟩ := h
  refine ⟨hC, hs, v1, v2, v3, m1, m2, m3, l1, l2, l3, ?_⟩
  simp [upd] at *
  grind
theorem RdyI.o2 (h : RdyI w0 base V1 V2 V3 n L1 L2 L3 gb lo hi pn N j f y w) (hv : v = pn) : RdyI w0 base V1 V2 V3 n L1 L2 L3 gb lo hi pn N j (fun k => decide (k = 2) || f k) (upd y 2 v) w := by
  obtain ⟨hC, hs, v1, v2, v3, m1, m2, m3, l1, l2, l3, rest⟩ := h
  refine ⟨hC, hs, v1, v2, v3, m1, m2, m3, l1, l2, l3, ?_⟩
  simp [upd] at *
  grind
theorem RdyI.o3 (h : RdyI w0 base V1 V2 V3 n L1 L2 L3 gb lo hi pn N j f y w) (hv : v = N) : RdyI w0 base V1 V2 V3 n L1 L2 L3 gb lo hi pn N j (fun k => decide (k = 3) || f k) (upd y 3 v) w := by
  obtain ⟨hC, hs, v1, v2, v3, m1, m2, m3, l1, l2, l3, rest⟩ := h
  refine ⟨hC, hs, v1, v2, v3, m1, m2, m3, l1, l2, l3, ?_⟩
  simp [upd] at *
  grind
theorem RdyI.o4 (h : RdyI w0 base V1 V2 V3 n L1 L2 L3 gb lo hi pn N j f y w) (hv : v = .int .i64 j) : RdyI w0 base V1 V2 V3 n L1 L2 L3 gb lo hi pn N j (fun k => decide (k = 4) || f k) (upd y 4 v) w := by
  obtain ⟨hC, hs, v1, v2, v3, m1, m2, m3, l1, l2, l3, rest⟩ := h
  refine ⟨hC, hs, v1, v2, v3, m1, m2, m3, l1, l2, l3, ?_⟩
  simp [upd] at *
  grind
theorem RdyI.o5 (h : RdyI w0 base V1 V2 V3 n L1 L2 L3 gb lo hi pn N j f y w) (hv : ∃ z, v = .int .i64 z ∧ 0 ≤ z ∧ z ≤ 65535) : RdyI w0 base V1 V2 V3 n L1 L2 L3 gb lo hi pn N j (fun k => decide (k = 5) || f k) (upd y 5 v) w := by
  obtain ⟨hC, hs, v1, v2, v3, m1, m2, m3, l1, l2, l3, rest⟩ := h
  refine ⟨hC, hs, v1, v2, v3, m1, m2, m3, l1, l2, l3, ?_⟩
  simp [upd] at *
  grind
theorem RdyI.o6 (h : RdyI w0 base V1 V2 V3 n L1 L2 L3 gb lo hi pn N j f y w) (hf : f 6 = false) (hv : ∃ z, v = .int .i64 z ∧ lo ≤ z ∧ z ≤ hi) : RdyI w0 base V1 V2 V3 n L1 L2 L3 gb lo hi pn N j (fun k => decide (k = 6) || f k) (upd y 6 v) w := by
  obtain ⟨hC, hs, v1, v2, v3, m1, m2, m3, l1, l2, l3, rest⟩ := h
  refine ⟨hC, hs, v1, v2, v3, m1, m2, m3, l1, l2, l3, ?_⟩
  simp [upd] at *
  grind
theorem RdyI.o9 (h : RdyI w0 base V1 V2 V3 n L1 L2 L3 gb lo hi pn N j f y w) (hv : v = V2) : RdyI w0 base V1 V2 V3 n L1 L2 L3 gb lo hi pn N j (fun k => decide (k = 9) || f k) (upd y 9 v) w := by
  obtain ⟨hC, hs, v1, v2, v3, m1, m2, m3, l1, l2, l3, rest⟩ := h
  refine ⟨hC, hs, v1, v2, v3, m1, m2, m3, l1, l2, l3, ?_⟩
  simp [upd] at *
  grind
theorem RdyI.o10 (h : RdyI w0 base V1 V2 V3 n L1 L2 L3 gb lo hi pn N j f y w) (hv : v = .pointer (some ⟨gb, 0, none⟩)) : RdyI w0 base V1 V2 V3 n L1 L2 L3 gb lo hi pn N j (fun k => decide (k = 10) || f k) (upd y 10 v) w := by
  obtain ⟨hC, hs, v1, v2, v3, m1, m2, m3, l1, l2, l3, rest⟩ := h
  refine ⟨hC, hs, v1, v2, v3, m1, m2, m3, l1, l2, l3, ?_⟩
  simp [upd] at *
  grind
theorem RdyI.o11 (h : RdyI w0 base V1 V2 V3 n L1 L2 L3 gb lo hi pn N j f y w) (hv : v = .int .i64 lo) : RdyI w0 base V1 V2 V3 n L1 L2 L3 gb lo hi pn N j (fun k => decide (k = 11) || f k) (upd y 11 v) w := by
  obtain ⟨hC, hs, v1, v2, v3, m1, m2, m3, l1, l2, l3, rest⟩ := h
  refine ⟨hC, hs, v1, v2, v3, m1, m2, m3, l1, l2, l3, ?_⟩
  simp [upd] at *
  grind
theorem RdyI.o14 (h : RdyI w0 base V1 V2 V3 n L1 L2 L3 gb lo hi pn N j f y w) (hv : v = V3) : RdyI w0 base V1 V2 V3 n L1 L2 L3 gb lo hi pn N j (fun k => decide (k = 14) || f k) (upd y 14 v) w := by
  obtain ⟨hC, hs, v1, v2, v3, m1, m2, m3, l1, l2, l3, rest⟩ := h
  refine ⟨hC, hs, v1, v2, v3, m1, m2, m3, l1, l2, l3, ?_⟩
  simp [upd] at *
  grind
theorem RdyI.o15 (h : RdyI w0 base V1 V2 V3 n L1 L2 L3 gb lo hi pn N j f y w) (hv : v = .pointer (some ⟨gb, 1, none⟩)) : RdyI w0 base V1 V2 V3 n L1 L2 L3 gb lo hi pn N j (fun k => decide (k = 15) || f k) (upd y 15 v) w := by
  obtain ⟨hC, hs, v1, v2, v3, m1, m2, m3, l1, l2, l3, rest⟩ := h
  refine ⟨hC, hs, v1, v2, v3, m1, m2, m3, l1, l2, l3, ?_⟩
  simp [upd] at *
  grind
theorem RdyI.o16 (h : RdyI w0 base V1 V2 V3 n L1 L2 L3 gb lo hi pn N j f y w) (hv : v = .int .i64 hi) : RdyI w0 base V1 V2 V3 n L1 L2 L3 gb lo hi pn N j (fun k => decide (k = 16) || f k) (upd y 16 v) w := by
  obtain ⟨hC, hs, v1, v2, v3, m1, m2, m3, l1, l2, l3, rest⟩ := h
  refine ⟨hC, hs, v1, v2, v3, m1, m2, m3, l1, l2, l3, ?_⟩
  simp [upd] at *
  grind
theorem RdyI.o19 (h : RdyI w0 base V1 V2 V3 n L1 L2 L3 gb lo hi pn N j f y w) (hf : f 8 = true) (hv : v = y 8) : RdyI w0 base V1 V2 V3 n L1 L2 L3 gb lo hi pn N j (fun k => decide (k = 19) || f k) (upd y 19 v) w := by
  obtain ⟨hC, hs, v1, v2, v3, m1, m2, m3, l1, l2, l3, rest⟩ := h
  refine ⟨hC, hs, v1, v2, v3, m1, m2, m3, l1, l2, l3, ?_⟩
  simp [upd] at *
  grind
theorem RdyI.o20 (h : RdyI w0 base V1 V2 V3 n L1 L2 L3 gb lo hi pn N j f y w) (hf : f 13 = true) (hv : v = y 13) : RdyI w0 base V1 V2 V3 n L1 L2 L3 gb lo hi pn N j (fun k => decide (k = 20) || f k) (upd y 20 v) w := by
  obtain ⟨hC, hs, v1, v2, v3, m1, m2, m3, l1, l2, l3, rest⟩ := h
  refine ⟨hC, hs, v1, v2, v3, m1, m2, m3, l1, l2, l3, ?_⟩
  simp [upd] at *
  grind
theorem RdyI.o21 (h : RdyI w0 base V1 V2 V3 n L1 L2 L3 gb lo hi pn N j f y w) (hf : f 18 = true) (hv : v = y 18) : RdyI w0 base V1 V2 V3 n L1 L2 L3 gb lo hi pn N j (fun k => decide (k = 21) || f k) (upd y 21 v) w := by
  obtain ⟨hC, hs, v1, v2, v3, m1, m2, m3, l1, l2, l3, rest⟩ := h
  refine ⟨hC, hs, v1, v2, v3, m1, m2, m3, l1, l2, l3, ?_⟩
  simp [upd] at *
  grind
theorem RdyI.o7 (h : RdyI w0 base V1 V2 V3 n L1 L2 L3 gb lo hi pn N j f y w) (hf : f 7 = false) (hf6 : f 6 = true) (hv : v = .slice (some ⟨w.heap.size, 0, none⟩) 1 1) : RdyI w0 base V1 V2 V3 n L1 L2 L3 gb lo hi pn N j (fun k => decide (k = 7) || f k) (upd y 7 v) (w.alloc (.cells #[y 6] 3)) := by
  have hA : Below w.heap.size w (w.alloc (.cells #[y 6] 3)) := (Below.refl _ _).alloc (Nat.le_refl _) _
  obtain ⟨hC, hs, v1, v2, v3, m1, m2, m3, l1, l2, l3, ho, hfr, hk, a1, a2, a3, a4, a5, a6, s1, s2, s3, rest⟩ := h
  have hnew : ∃ g, v = .slice (some ⟨g, 0, none⟩) 1 1 ∧ Blk (w.alloc (.cells #[y 6] 3)) g 3 #[y 6] ∧ FreeT (w.alloc (.cells #[y 6] 3)) g v1 v2 v3 := ⟨_, hv, blkNew rfl, FreeT.fresh ho _⟩
  have q : ∀ (u x : Value), (∃ g, u = .slice (some ⟨g, 0, none⟩) 1 1 ∧ Blk w g 3 #[x] ∧ FreeT w g v1 v2 v3) → ∃ g, u = .slice (some ⟨g, 0, none⟩) 1 1 ∧ Blk (w.alloc (.cells #[y 6] 3)) g 3 #[x] ∧ FreeT (w.alloc (.cells #[y 6] 3)) g v1 v2 v3 := fun u x ⟨g, e, e2, e3⟩ => ⟨g, e, e2.below hA e2.lt, e3.below hA⟩
  replace s1 := fun x x' => q _ _ (s1 x x')
  replace s2 := fun x x' => q _ _ (s2 x x')
  replace s3 := fun x x' => q _ _ (s3 x x')
  refine ⟨hC.alloc hs _, Nat.le_trans hs hA.size, v1, v2, v3, m1, m2, m3, l1, l2, l3, ho.below hA, hfr.below hA, hk.below hA hk.lt, ?_⟩
  clear ho hfr hk q hA hC hs hv
  generalize w.alloc (.cells #[y 6] 3) = w2 at *
  simp [upd] at *
  grind
theorem RdyI.o12 (h : RdyI w0 base V1 V2 V3 n L1 L2 L3 gb lo hi pn N j f y w) (hf : f 12 = false) (hv : v = .slice (some ⟨w.heap.size, 0, none⟩) 1 1) : RdyI w0 base V1 V2 V3 n L1 L2 L3 gb lo hi pn N j (fun k => decide (k = 12) || f k) (upd y 12 v) (w.alloc (.cells #[.int .i64 lo] 3)) := by
  have hA : Below w.heap.size w (w.alloc (.cells #[.int .i64 lo] 3)) := (Below.refl _ _).alloc (Nat.le_refl _) _
  obtain ⟨hC, hs, v1, v2, v3, m1, m2, m3, l1, l2, l3, ho, hfr, hk, a1, a2, a3, a4, a5, a6, s1, s2, s3, rest⟩ := h
  have hnew : ∃ g, v = .slice (some ⟨g, 0, none⟩) 1 1 ∧ Blk (w.alloc (.cells #[.int .i64 lo] 3)) g 3 #[.int .i64 lo] ∧ FreeT (w.alloc (.cells #[.int .i64 lo] 3)) g v1 v2 v3 := ⟨_, hv, blkNew rfl, FreeT.fresh ho _⟩
  have q : ∀ (u x : Value), (∃ g, u = .slice (some ⟨g, 0, none⟩) 1 1 ∧ Blk w g 3 #[x] ∧ FreeT w g v1 v2 v3) → ∃ g, u = .slice (some ⟨g, 0, none⟩) 1 1 ∧ Blk (w.alloc (.cells #[.int .i64 lo] 3)) g 3 #[x] ∧ FreeT (w.alloc (.cells #[.int .i64 lo] 3)) g v1 v2 v3 := fun u x ⟨g, e, e2, e3⟩ => ⟨g, e, e2.below hA e2.lt, e3.below hA⟩
  replace s1 := fun x x' => q _ _ (s1 x x')
  replace s2 := fun x x' => q _ _ (s2 x x')
  replace s3 := fun x x' => q _ _ (s3 x x')
  refine ⟨hC.alloc hs _, Nat.le_trans hs hA.size, v1, v2, v3, m1, m2, m3, l1, l2, l3, ho.below hA, hfr.below hA, hk.below hA hk.lt, ?_⟩
  clear ho hfr hk q hA hC hs hv
  generalize w.alloc (.cells #[.int .i64 lo] 3) = w2 at *
  simp [upd] at *
  grind
theorem RdyI.o17 (h : RdyI w0 base V1 V2 V3 n L1 L2 L3 gb lo hi pn N j f y w) (hf : f 17 = false) (hv : v = .slice (some ⟨w.heap.size, 0, none⟩) 1 1) : RdyI w0 base V1 V2 V3 n L1 L2 L3 gb lo hi pn N j (fun k => decide (k = 17) || f k) (upd y 17 v) (w.alloc (.cells #[.int .i64 hi] 3)) := by
  have hA : Below w.heap.size w (w.alloc (.cells #[.int .i64 hi] 3)) := (Below.refl _ _).alloc (Nat.le_refl _) _
  obtain ⟨hC, hs, v1, v2, v3, m1, m2, m3, l1, l2, l3, ho, hfr, hk, a1, a2, a3, a4, a5, a6, s1, s2, s3, rest⟩ := h
  have hnew : ∃ g, v = .slice (some ⟨g, 0, none⟩) 1 1 ∧ Blk (w.alloc (.cells #[.int .i64 hi] 3)) g 3 #[.int .i64 hi] ∧ FreeT (w.alloc (.cells #[.int .i64 hi] 3)) g v1 v2 v3 := ⟨_, hv, blkNew rfl, FreeT.fresh ho _⟩
  have q : ∀ (u x : Value), (∃ g, u = .slice (some ⟨g, 0, none⟩) 1 1 ∧ Blk w g 3 #[x] ∧ FreeT w g v1 v2 v3) → ∃ g, u = .slice (some ⟨g, 0, none⟩) 1 1 ∧ Blk (w.alloc (.cells #[.int .i64 hi] 3)) g 3 #[x] ∧ FreeT (w.alloc (.cells #[.int .i64 hi] 3)) g v1 v2 v3 := fun u x ⟨g, e, e2, e3⟩ => ⟨g, e, e2.below hA e2.lt, e3.below hA⟩
  replace s1 := fun x x' => q _ _ (s1 x x')
  replace s2 := fun x x' => q _ _ (s2 x x')
  replace s3 := fun x x' => q _ _ (s3 x x')
  refine ⟨hC.alloc hs _, Nat.le_trans hs hA.size, v1, v2, v3, m1, m2, m3, l1, l2, l3, ho.below hA, hfr.below hA, hk.below hA hk.lt, ?_⟩
  clear ho hfr hk q hA hC hs hv
  generalize w.alloc (.cells #[.int .i64 hi] 3) = w2 at *
  simp [upd] at *
  grind
theorem RdyI.o8 (h : RdyI w0 base V1 V2 V3 n L1 L2 L3 gb lo hi pn N j f y w) (hf : f 8 = false) (hf1 : f 7 = true) (hf2 : f 0 = true) (ho2 : w'.ownsRow base 3 1 v (n + 1) (L1 ++ [y 6])) (hg : w.grownBy w' V1.ownBlock) (hb : v.ownBlock = V1.ownBlock ∨ v.ownBlock = some w.heap.size) : RdyI w0 base V1 V2 V3 n L1 L2 L3 gb lo hi pn N j (fun k => decide (k = 8) || f k) (upd y 8 v) w' := by
  obtain ⟨hC, hs, v1, v2, v3, m1, m2, m3, l1, l2, l3, ho, hfr, hk, a1, a2, a3, a4, a5, a6, s1, s2, s3, rest⟩ := h
  obtain ⟨e1, e2, e3⟩ := a1 hf
  rw [← e1] at hg hb
  have hlt := ho.1.lt
  have q : ∀ (u x : Value), (∃ g, u = .slice (some ⟨g, 0, none⟩) 1 1 ∧ Blk w g 3 #[x] ∧ FreeT w g v1 v2 v3) → ∃ g, u = .slice (some ⟨g, 0, none⟩) 1 1 ∧ Blk w' g 3 #[x] ∧ FreeT w' g v v2 v3 := fun u x ⟨g, e, e2, e3⟩ => ⟨g, e, ((e3.grow hg hg.size hb).2).trans e2, (e3.grow hg hg.size hb).1⟩
  replace s2 := fun x x' => q _ _ (s2 x x')
  replace s3 := fun x x' => q _ _ (s3 x x')
  refine ⟨hC.grown hg hs (fun k hk => (hlt k hk).1), Nat.le_trans hs hg.size, v, v2, v3, (n + 1), m2, m3, (L1 ++ [y 6]), l2, l3, (ho.grow ho2 hg hb), (hfr.grow hg hg.size hb).1, ((hfr.grow hg hg.size hb).2).trans hk, ?_⟩
  clear ho hfr hk q hlt hC hs hg hb ho2 s1 e1 e2 e3
  simp [upd] at *
  grind
theorem RdyI.o13 (h : RdyI w0 base V1 V2 V3 n L1 L2 L3 gb lo hi pn N j f y w) (hf : f 13 = false) (hf1 : f 12 = true) (hf2 : f 9 = true) (ho2 : w'.ownsRow base 3 1 v (n + 1) (L2 ++ [.int .i64 lo])) (hg : w.grownBy w' V2.ownBlock) (hb : v.ownBlock = V2.ownBlock ∨ v.ownBlock = some w.heap.size) : RdyI w0 base V1 V2 V3 n L1 L2 L3 gb lo hi pn N j (fun k => decide (k = 13) || f k) (upd y 13 v) w' := by
  obtain ⟨hC, hs, v1, v2, v3, m1, m2, m3, l1, l2, l3, ho, hfr, hk, a1, a2, a3, a4, a5, a6, s1, s2, s3, rest⟩ := h
  obtain ⟨e1, e2, e3⟩ := a3 hf
  rw [← e1] at hg hb
  have hlt := ho.turn.1.lt
  have q : ∀ (u x : Value), (∃ g, u = .slice (some ⟨g, 0, none⟩) 1 1 ∧ Blk w g 3 #[x] ∧ FreeT w g v1 v2 v3) → ∃ g, u = .slice (some ⟨g, 0, none⟩) 1 1 ∧ Blk w' g 3 #[x] ∧ FreeT w' g v1 v v3 := fun u x ⟨g, e, e2, e3⟩ => ⟨g, e, ((e3.turn.grow hg hg.size hb).2).trans e2, (e3.turn.grow hg hg.size hb).1.turn.turn⟩
  replace s1 := fun x x' => q _ _ (s1 x x')
  replace s3 := fun x x' => q _ _ (s3 x x')
  refine ⟨hC.grown hg hs (fun k hk => (hlt k hk).1), Nat.le_trans hs hg.size, v1, v, v3, m1, (n + 1), m3, l1, (L2 ++ [.int .i64 lo]), l3, (ho.turn.grow ho2 hg hb).turn.turn, (hfr.turn.grow hg hg.size hb).1.turn.turn, ((hfr.turn.grow hg hg.size hb).2).trans hk, ?_⟩
  clear ho hfr hk q hlt hC hs hg hb ho2 s2 e1 e2 e3
  simp [upd] at *
  grind
theorem RdyI.o18 (h : RdyI w0 base V1 V2 V3 n L1 L2 L3 gb lo hi pn N j f y w) (hf : f 18 = false) (hf1 : f 17 = true) (hf2 : f 14 = true) (ho2 : w'.ownsRow base 3 1 v (n + 1) (L3 ++ [.int .i64 hi])) (hg : w.grownBy w' V3.ownBlock) (hb : v.ownBlock = V3.ownBlock ∨ v.ownBlock = some w.heap.size) : RdyI w0 base V1 V2 V3 n L1 L2 L3 gb lo hi pn N j (fun k => decide (k = 18) || f k) (upd y 18 v) w' := by
  obtain ⟨hC, hs, v1, v2, v3, m1, m2, m3, l1, l2, l3, ho, hfr, hk, a1, a2, a3, a4, a5, a6, s1, s2, s3, rest⟩ := h
  obtain ⟨e1, e2, e3⟩ := a5 hf
  rw [← e1] at hg hb
  have hlt := ho.turn.turn.1.lt
  have q : ∀ (u x : Value), (∃ g, u = .slice (some ⟨g, 0, none⟩) 1 1 ∧ Blk w g 3 #[x] ∧ FreeT w g v1 v2 v3) → ∃ g, u = .slice (some ⟨g, 0, none⟩) 1 1 ∧ Blk w' g 3 #[x] ∧ FreeT w' g v1 v2 v := fun u x ⟨g, e, e2, e3⟩ => ⟨g, e, ((e3.turn.turn.grow hg hg.size hb).2).trans e2, (e3.turn.turn.grow hg hg.size hb).1.turn⟩
  replace s1 := fun x x' => q _ _ (s1 x x')
  replace s2 := fun x x' => q _ _ (s2 x x')
  refine ⟨hC.grown hg hs (fun k hk => (hlt k hk).1), Nat.le_trans hs hg.size, v1, v2, v, m1, m2, (n + 1), l1, l2, (L3 ++ [.int .i64 hi]), (ho.turn.turn.grow ho2 hg hb).turn, (hfr.turn.turn.grow hg hg.size hb).1.turn, ((hfr.turn.turn.grow hg hg.size hb).2).trans hk, ?_⟩
  clear ho hfr hk q hlt hC hs hg hb ho2 s3 e1 e2 e3
  simp [upd] at *
  grind
theorem RdyI.init (hs : base ≤ w.heap.size) (ho : OwnT w base V1 V2 V3 n n n L1 L2 L3) (hfr : FreeT w gb V1 V2 V3) (hk : Blk w gb 32 #[.int .i64 lo, .int .i64 hi]) (h19 : y 19 = V1) (h20 : y 20 = V2) (h21 : y 21 = V3) : RdyI w base V1 V2 V3 n L1 L2 L3 gb lo hi pn N j (fun _ => false) y w := by
  refine ⟨Below.refl _ _, hs, V1, V2, V3, n, n, n, L1, L2, L3, ho, hfr, hk, ?_⟩
  simp [h19, h20, h21]
theorem RdyI.done (h : RdyI w0 base V1 V2 V3 n L1 L2 L3 gb lo hi pn N j f y w) (hf : ∀ k, k < 22 → f k = true) : Below base w0 w ∧ base ≤ w.heap.size ∧ ∃ z, (lo ≤ z ∧ z ≤ hi) ∧ OwnT w base (y 19) (y 20) (y 21) (n + 1) (n + 1) (n + 1) (L1 ++ [.int .i64 z]) (L2 ++ [.int .i64 lo]) (L3 ++ [.int .i64 hi]) := by
  obtain ⟨hC, hs, v1, v2, v3, m1, m2, m3, l1, l2, l3, ho, hfr, hk, _, a2, _, a4, _, a6, _, _, _, _, _, _, _, _, _, b6, _, _, _, _, _, _, c1, c2, c3, _⟩ := h
  obtain ⟨rfl, rfl, rfl⟩ := a2 (hf 8 (by omega))
  obtain ⟨rfl, rfl, rfl⟩ := a4 (hf 13 (by omega))
  obtain ⟨rfl, rfl, rfl⟩ := a6 (hf 18 (by omega))
  obtain ⟨z, e, hz⟩ := b6 (hf 6 (by omega))
  rw [c1 (hf 19 (by omega)), c2 (hf 20 (by omega)), c3 (hf 21 (by omega))]
  rw [e] at ho
  exact ⟨hC, hs, z, hz, ho⟩
theorem RdyI.v0 (h : RdyI w0 base V1 V2 V3 n L1 L2 L3 gb lo hi pn N j f y w) (hf : f 0 = false) : y 19 = V1 := by
  obtain ⟨hC, hs, v1, v2, v3, m1, m2, m3, l1, l2, l3, ho, hfr, hk, a1, a2, a3, a4, a5, a6, s1, s2, s3, b0, b1, b2, b3, b4, b5, b6, b9, b10, b11, b14, b15, b16, b19, b20, b21, n19, n20, n21, d8, d7, d13, d18, d19, d20, d21⟩ := h
  refine n19 ?_
  cases e : f 19 with
  | false => rfl
  | true => have := (d8 (d19 e)).2; rw [hf] at this; cases this
theorem RdyI.v9 (h : RdyI w0 base V1 V2 V3 n L1 L2 L3 gb lo hi pn N j f y w) (hf : f 9 = false) : y 20 = V2 := by
  obtain ⟨hC, hs, v1, v2, v3, m1, m2, m3, l1, l2, l3, ho, hfr, hk, a1, a2, a3, a4, a5, a6, s1, s2, s3, b0, b1, b2, b3, b4, b5, b6, b9, b10, b11, b14, b15, b16, b19, b20, b21, n19, n20, n21, d8, d7, d13, d18, d19, d20, d21⟩ := h
  refine n20 ?_
  cases e : f 20 with
  | false => rfl
  | true => have := (d13 (d20 e)).2; rw [hf] at this; cases this
theorem RdyI.v14 (h : RdyI w0 base V1 V2 V3 n L1 L2 L3 gb lo hi pn N j f y w) (hf : f 14 = false) : y 21 = V3 := by
  obtain ⟨hC, hs, v1, v2, v3, m1, m2, m3, l1, l2, l3, ho, hfr, hk, a1, a2, a3, a4, a5, a6, s1, s2, s3, b0, b1, b2, b3, b4, b5, b6, b9, b10, b11, b14, b15, b16, b19, b20, b21, n19, n20, n21, d8, d7, d13, d18, d19, d20, d21⟩ := h
  refine n21 ?_
  cases e : f 21 with
  | false => rfl
  | true => have := (d18 (d21 e)).2; rw [hf] at this; cases this
theorem RdyI.g8 (h : RdyI w0 base V1 V2 V3 n L1 L2 L3 gb lo hi pn N j f y w) (hf : f 8 = false) (hf1 : f 7 = true) : ∃ g z, y 7 = .slice (some ⟨g, 0, none⟩) 1 1 ∧ y 6 = .int .i64 z ∧ w.cell? ⟨g, 0, none⟩ = some (.int .i64 z) ∧ w.ownsRow base 3 1 V1 n L1 := by
  obtain ⟨hC, hs, v1, v2, v3, m1, m2, m3, l1, l2, l3, ho, hfr, hk, a1, a2, a3, a4, a5, a6, s1, s2, s3, b0, b1, b2, b3, b4, b5, b6, b9, b10, b11, b14, b15, b16, b19, b20, b21, n19, n20, n21, d8, d7, d13, d18, d19, d20, d21⟩ := h
  obtain ⟨rfl, rfl, rfl⟩ := a1 hf
  obtain ⟨g, e, e2, -⟩ := s1 hf1 hf
  obtain ⟨z, ez, -⟩ := b6 (d7 hf1)
  rw [ez] at e2
  exact ⟨g, z, e, ez, e2.cell 0, ho.1⟩
theorem RdyI.g13 (h : RdyI w0 base V1 V2 V3 n L1 L2 L3 gb lo hi pn N j f y w) (hf : f 13 = false) (hf1 : f 12 = true) : ∃ g, y 12 = .slice (some ⟨g, 0, none⟩) 1 1 ∧ w.cell? ⟨g, 0, none⟩ = some (.int .i64 lo) ∧ w.ownsRow base 3 1 V2 n L2 := by
  obtain ⟨hC, hs, v1, v2, v3, m1, m2, m3, l1, l2, l3, ho, hfr, hk, a1, a2, a3, a4, a5, a6, s1, s2, s3, b0, b1, b2, b3, b4, b5, b6, b9, b10, b11, b14, b15, b16, b19, b20, b21, n19, n20, n21, d8, d7, d13, d18, d19, d20, d21⟩ := h
  obtain ⟨rfl, rfl, rfl⟩ := a3 hf
  obtain ⟨g, e, e2, -⟩ := s2 hf1 hf
  exact ⟨g, e, e2.cell 0, ho.2.1⟩
theorem RdyI.g18 (h : RdyI w0 base V1 V2 V3 n L1 L2 L3 gb lo hi pn N j f y w) (hf : f 18 = false) (hf1 : f 17 = true) : ∃ g, y 17 = .slice (some ⟨g, 0, none⟩) 1 1 ∧ w.cell? ⟨g, 0, none⟩ = some (.int .i64 hi) ∧ w.ownsRow base 3 1 V3 n L3 := by
  obtain ⟨hC, hs, v1, v2, v3, m1, m2, m3, l1, l2, l3, ho, hfr, hk, a1, a2, a3, a4, a5, a6, s1, s2, s3, b0, b1, b2, b3, b4, b5, b6, b9, b10, b11, b14, b15, b16, b19, b20, b21, n19, n20, n21, d8, d7, d13, d18, d19, d20, d21⟩ := h
  obtain ⟨rfl, rfl, rfl⟩ := a5 hf
  obtain ⟨g, e, e2, -⟩ := s3 hf1 hf
  exact ⟨g, e, e2.cell 0, ho.2.2.1⟩
theorem RdyI.u1 (h : RdyI w0 base V1 V2 V3 n L1 L2 L3 gb lo hi pn N j f y w) (hf : f 1 = true) : y 1 = .agg #[.int .i64 lo, .int .i64 hi] := by
  obtain ⟨hC, hs, v1, v2, v3, m1, m2, m3, l1, l2, l3, ho, hfr, hk, a1, a2, a3, a4, a5, a6, s1, s2, s3, b0, b1, b2, b3, b4, b5, b6, b9, b10, b11, b14, b15, b16, b19, b20, b21, n19, n20, n21, d8, d7, d13, d18, d19, d20, d21⟩ := h
  exact b1 hf
theorem RdyI.u2 (h : RdyI w0 base V1 V2 V3 n L1 L2 L3 gb lo hi pn N j f y w) (hf : f 2 = true) : y 2 = pn := by
  obtain ⟨hC, hs, v1, v2, v3, m1, m2, m3, l1, l2, l3, ho, hfr, hk, a1, a2, a3, a4, a5, a6, s1, s2, s3, b0, b1, b2, b3, b4, b5, b6, b9, b10, b11, b14, b15, b16, b19, b20, b21, n19, n20, n21, d8, d7, d13, d18, d19, d20, d21⟩ := h
  exact b2 hf
theorem RdyI.u3 (h : RdyI w0 base V1 V2 V3 n L1 L2 L3 gb lo hi pn N j f y w) (hf : f 3 = true) : y 3 = N := by
  obtain ⟨hC, hs, v1, v2, v3, m1, m2, m3, l1, l2, l3, ho, hfr, hk, a1, a2, a3, a4, a5, a6, s1, s2, s3, b0, b1, b2, b3, b4, b5, b6, b9, b10, b11, b14, b15, b16, b19, b20, b21, n19, n20, n21, d8, d7, d13, d18, d19, d20, d21⟩ := h
  exact b3 hf
theorem RdyI.u4 (h : RdyI w0 base V1 V2 V3 n L1 L2 L3 gb lo hi pn N j f y w) (hf : f 4 = true) : y 4 = .int .i64 j := by
  obtain ⟨hC, hs, v1, v2, v3, m1, m2, m3, l1, l2, l3, ho, hfr, hk, a1, a2, a3, a4, a5, a6, s1, s2, s3, b0, b1, b2, b3, b4, b5, b6, b9, b10, b11, b14, b15, b16, b19, b20, b21, n19, n20, n21, d8, d7, d13, d18, d19, d20, d21⟩ := h
  exact b4 hf
theorem RdyI.u5 (h : RdyI w0 base V1 V2 V3 n L1 L2 L3 gb lo hi pn N j f y w) (hf : f 5 = true) : ∃ z, y 5 = .int .i64 z ∧ 0 ≤ z ∧ z ≤ 65535 := by
  obtain ⟨hC, hs, v1, v2, v3, m1, m2, m3, l1, l2, l3, ho, hfr, hk, a1, a2, a3, a4, a5, a6, s1, s2, s3, b0, b1, b2, b3, b4, b5, b6, b9, b10, b11, b14, b15, b16, b19, b20, b21, n19, n20, n21, d8, d7, d13, d18, d19, d20, d21⟩ := h
  exact b5 hf
theorem RdyI.u6 (h : RdyI w0 base V1 V2 V3 n L1 L2 L3 gb lo hi pn N j f y w) (hf : f 6 = true) : ∃ z, y 6 = .int .i64 z ∧ lo ≤ z ∧ z ≤ hi := by
  obtain ⟨hC, hs, v1, v2, v3, m1, m2, m3, l1, l2, l3, ho, hfr, hk, a1, a2, a3, a4, a5, a6, s1, s2, s3, b0, b1, b2, b3, b4, b5, b6, b9, b10, b11, b14, b15, b16, b19, b20, b21, n19, n20, n21, d8, d7, d13, d18, d19, d20, d21⟩ := h
  exact b6 hf
theorem RdyI.u10 (h : RdyI w0 base V1 V2 V3 n L1 L2 L3 gb lo hi pn N j f y w) (hf : f 10 = true) : y 10 = .pointer (some ⟨gb, 0, none⟩) := by
  obtain ⟨hC, hs, v1, v2, v3, m1, m2, m3, l1, l2, l3, ho, hfr, hk, a1, a2, a3, a4, a5, a6, s1, s2, s3, b0, b1, b2, b3, b4, b5, b6, b9, b10, b11, b14, b15, b16, b19, b20, b21, n19, n20, n21, d8, d7, d13, d18, d19, d20, d21⟩ := h
  exact b10 hf
theorem RdyI.u11 (h : RdyI w0 base V1 V2 V3 n L1 L2 L3 gb lo hi pn N j f y w) (hf : f 11 = true) : y 11 = .int .i64 lo := by
  obtain ⟨hC, hs, v1, v2, v3, m1, m2, m3, l1, l2, l3, ho, hfr, hk, a1, a2, a3, a4, a5, a6, s1, s2, s3, b0, b1, b2, b3, b4, b5, b6, b9, b10, b11, b14, b15, b16, b19, b20, b21, n19, n20, n21, d8, d7, d13, d18, d19, d20, d21⟩ := h
  exact b11 hf
theorem RdyI.u15 (h : RdyI w0 base V1 V2 V3 n L1 L2 L3 gb lo hi pn N j f y w) (hf : f 15 = true) : y 15 = .pointer (some ⟨gb, 1, none⟩) := by
  obtain ⟨hC, hs, v1, v2, v3, m1, m2, m3, l1, l2, l3, ho, hfr, hk, a1, a2, a3, a4, a5, a6, s1, s2, s3, b0, b1, b2, b3, b4, b5, b6, b9, b10, b11, b14, b15, b16, b19, b20, b21, n19, n20, n21, d8, d7, d13, d18, d19, d20, d21⟩ := h
  exact b15 hf
theorem RdyI.u16 (h : RdyI w0 base V1 V2 V3 n L1 L2 L3 gb lo hi pn N j f y w) (hf : f 16 = true) : y 16 = .int .i64 hi := by
  obtain ⟨hC, hs, v1, v2, v3, m1, m2, m3, l1, l2, l3, ho, hfr, hk, a1, a2, a3, a4, a5, a6, s1, s2, s3, b0, b1, b2, b3, b4, b5, b6, b9, b10, b11, b14, b15, b16, b19, b20, b21, n19, n20, n21, d8, d7, d13, d18, d19, d20, d21⟩ := h
  exact b16 hf
theorem RdyI.u0 (h : RdyI w0 base V1 V2 V3 n L1 L2 L3 gb lo hi pn N j f y w) (hf : f 0 = true) : y 0 = V1 := by
  obtain ⟨hC, hs, v1, v2, v3, m1, m2, m3, l1, l2, l3, ho, hfr, hk, a1, a2, a3, a4, a5, a6, s1, s2, s3, b0, b1, b2, b3, b4, b5, b6, b9, b10, b11, b14, b15, b16, b19, b20, b21, n19, n20, n21, d8, d7, d13, d18, d19, d20, d21⟩ := h
  exact b0 hf
theorem RdyI.u9 (h : RdyI w0 base V1 V2 V3 n L1 L2 L3 gb lo hi pn N j f y w) (hf : f 9 = true) : y 9 = V2 := by
  obtain ⟨hC, hs, v1, v2, v3, m1, m2, m3, l1, l2, l3, ho, hfr, hk, a1, a2, a3, a4, a5, a6, s1, s2, s3, b0, b1, b2, b3, b4, b5, b6, b9, b10, b11, b14, b15, b16, b19, b20, b21, n19, n20, n21, d8, d7, d13, d18, d19, d20, d21⟩ := h
  exact b9 hf
theorem RdyI.u14 (h : RdyI w0 base V1 V2 V3 n L1 L2 L3 gb lo hi pn N j f y w) (hf : f 14 = true) : y 14 = V3 := by
  obtain ⟨hC, hs, v1, v2, v3, m1, m2, m3, l1, l2, l3, ho, hfr, hk, a1, a2, a3, a4, a5, a6, s1, s2, s3, b0, b1, b2, b3, b4, b5, b6, b9, b10, b11, b14, b15, b16, b19, b20, b21, n19, n20, n21, d8, d7, d13, d18, d19, d20, d21⟩ := h
  exact b14 hf
theorem RdyI.box (h : RdyI w0 base V1 V2 V3 n L1 L2 L3 gb lo hi pn N j f y w) : w.cell? ⟨gb, 0, none⟩ = some (.int .i64 lo) ∧ w.cell? ⟨gb, 1, none⟩ = some (.int .i64 hi) := by
  obtain ⟨hC, hs, v1, v2, v3, m1, m2, m3, l1, l2, l3, ho, hfr, hk, a1, a2, a3, a4, a5, a6, s1, s2, s3, b0, b1, b2, b3, b4, b5, b6, b9, b10, b11, b14, b15, b16, b19, b20, b21, n19, n20, n21, d8, d7, d13, d18, d19, d20, d21⟩ := h
  exact ⟨hk.cell 0, hk.cell 1⟩
end
end Go.Proofs.Ytkhijdbigpaagaa
