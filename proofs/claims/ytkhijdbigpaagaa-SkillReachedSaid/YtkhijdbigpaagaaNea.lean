import Derived.Test.YtkhijdbigpaagaaNaf
import Derived.Test.YtkhijdbigpaagaaNe
import Derived.Test.YtkhijdbigpaagaaNah
/-
  SkillEasier: tasks and numbers that can be written; the mathematics; the arguments.
-/
namespace Go.Proofs.Ytkhijdbigpaagaa
open Go.RowKit RG

/-- Tasks in block g, at its head. -/
def TkAt (W : World) (g : Nat) (T : List Sp) : Prop := ∃ cur, Blk W g 100 cur ∧ T.length * 2 ≤ cur.size ∧ cur.toList.take (T.length * 2) = T.flatMap tkCells
theorem TkAt.blk {W W' : World} {g : Nat} {T : List Sp} (h : TkAt W g T) (hb : W'.heap[g]? = W.heap[g]?) : TkAt W' g T := by
  obtain ⟨cur, h1, h2⟩ := h
  exact ⟨cur, hb.trans h1, h2⟩
theorem TkAt.lt {W : World} {g : Nat} {T : List Sp} (h : TkAt W g T) : g < W.heap.size := by obtain ⟨cur, h1, _⟩ := h; exact h1.lt
theorem TkAt.below {W W' : World} {g : Nat} {T : List Sp} (h : TkAt W g T) (hb : Below W.heap.size W W') : TkAt W' g T := h.blk (hb.block g h.lt)
theorem TkAt.alloc {W : World} {g : Nat} {T : List Sp} (h : TkAt W g T) (o : Obj) : TkAt (W.alloc o) g T := h.below ((Below.refl _ _).alloc (Nat.le_refl _) o)
theorem TkAt.far {W : World} {g : Nat} {T : List Sp} (h : TkAt W g T) {p : Addr} (hp : g ≠ p.block) (u : Value) : TkAt (W.setCell p u) g T := h.blk (Below.heap_setCell W p u g hp)
theorem tkAt_own {W : World} {base n : Nat} {v : Value} {T : List Sp} (h : W.ownsRow base 100 2 v n (T.flatMap tkCells)) (hn : T.length = n) (h1 : 1 ≤ n) : ∃ g c, v = .slice (some ⟨g, 0, none⟩) n c ∧ base ≤ g ∧ n ≤ c ∧ TkAt W g T := by
  subst hn
  rcases h.2 with ⟨_, h0⟩ | ⟨g, cap, cur, e, hb, hg, hc, _, hs, ht⟩
  · omega
  · exact ⟨g, cap, e, hb, hc, cur, hg, by rw [hs]; exact Nat.mul_le_mul_right _ hc, ht⟩
theorem TkAt.row {W : World} {g : Nat} {T : List Sp} (h : TkAt W g T) : RdRow W (some ⟨g, 0, none⟩) T.length 2 (T.map tkCells) := by
  obtain ⟨cur, h1, h2, h3⟩ := h
  refine ⟨by simp, ?_, fun _ => ⟨g, 0, rfl, h1.lt, fun j i v hv => ?_⟩⟩
  · intro x hx
    obtain ⟨s, _, rfl⟩ := List.mem_map.1 hx
    rfl
  · obtain ⟨hj, hi, hf⟩ := flatTk_get T j i v hv
    rw [Nat.zero_add, h1.cell]
    rw [← h3, List.getElem?_take_of_lt (by omega)] at hf
    simpa using hf
theorem TkAt.set {W : World} {g i : Nat} {T : List Sp} {x y : Int} (h : TkAt W g T) (hi : i < T.length) :
    TkAt ((W.setCell ⟨g, i * 2, none⟩ (.int .i64 x)).setCell ⟨g, i * 2 + 1, none⟩ (.int .i64 y)) g (T.set i (x, y)) := by
  obtain ⟨cur, h1, h2, h3⟩ := h
  refine ⟨_, (h1.set_ (i * 2) _).set_ (i * 2 + 1) _, by simpa using h2, ?_⟩
  rw [List.length_set, Array.toList_setIfInBounds, Array.toList_setIfInBounds, List.take_set, List.take_set, h3]
  exact flatTk_set T i x y hi
theorem TkAt.cells {W : World} {g : Nat} {T : List Sp} (h : TkAt W g T) {i : Nat} (hi : i < T.length) :
    W.cell? ⟨g, i * 2, none⟩ = some (.int .i64 (T[i]?.getD (0, 0)).1) ∧ W.cell? ⟨g, i * 2 + 1, none⟩ = some (.int .i64 (T[i]?.getD (0, 0)).2) ∧ W.frozen? ⟨g, i * 2, none⟩ = false ∧ W.frozen? ⟨g, i * 2 + 1, none⟩ = false := by
  obtain ⟨cur, h1, h2, h3⟩ := h
  have key : ∀ u v, ((T.map tkCells)[i]?.getD [])[u]? = some v → W.cell? ⟨g, i * 2 + u, none⟩ = some v := by
    intro u v hv
    obtain ⟨hj, hu, hf⟩ := flatTk_get T i u v hv
    rw [h1.cell]
    rw [← h3, List.getElem?_take_of_lt (by omega)] at hf
    simpa using hf
  have e : ((T.map tkCells)[i]?.getD []) = tkCells (T[i]?.getD (0, 0)) := by
    rw [List.getElem?_map, List.getElem?_eq_getElem hi]; rfl
  rw [e] at key
  exact ⟨key 0 _ rfl, key 1 _ rfl, h1.frozen _, h1.frozen _⟩

theorem flatTk_set1 (l : List Sp) (i : Nat) (y : Int) (hi : i < l.length) : (l.flatMap tkCells).set (i * 2 + 1) (.int .i64 y) = (l.set i ((l[i]?.getD (0, 0)).1, y)).flatMap tkCells := by
  induction l generalizing i with
  | nil => simp at hi
  | cons z l ih =>
    cases i with
    | zero => simp [tkCells]
    | succ i =>
      have := ih i (by simpa using hi)
      rw [List.set_cons_succ, List.flatMap_cons, List.flatMap_cons, List.getElem?_cons_succ, ← this]
      rw [List.set_append_right _ _ (by simp [tkCells]; omega)]
      congr 1
      simp [tkCells, show (i + 1) * 2 + 1 - 2 = i * 2 + 1 by omega]
theorem TkAt.set1 {W : World} {g i : Nat} {T : List Sp} {y : Int} (h : TkAt W g T) (hi : i < T.length) : TkAt (W.setCell ⟨g, i * 2 + 1, none⟩ (.int .i64 y)) g (T.set i ((T[i]?.getD (0, 0)).1, y)) := by
  obtain ⟨cur, h1, h2, h3⟩ := h
  refine ⟨_, h1.set_ (i * 2 + 1) _, by simpa using h2, ?_⟩
  rw [List.length_set, Array.toList_setIfInBounds, List.take_set, h3]
  exact flatTk_set1 T i y hi
theorem infoTk : (Try.prog.info? 100).map (fun i => (i.zero, i.size, i.bytes)) = some (some (.agg #[.int .i64 0, .int .i64 0]), 2, 16) := by kernel_rfl
/-- Numbers in block g, at its head. -/
def InAt (W : World) (g : Nat) (xs : List Int) : Prop := ∃ cur, Blk W g 3 cur ∧ xs.length ≤ cur.size ∧ cur.toList.take xs.length = xs.map (Value.int .i64)
theorem InAt.blk {W W' : World} {g : Nat} {xs : List Int} (h : InAt W g xs) (hb : W'.heap[g]? = W.heap[g]?) : InAt W' g xs := by
  obtain ⟨cur, h1, h2⟩ := h
  exact ⟨cur, hb.trans h1, h2⟩
theorem InAt.lt {W : World} {g : Nat} {xs : List Int} (h : InAt W g xs) : g < W.heap.size := by obtain ⟨cur, h1, _⟩ := h; exact h1.lt
theorem InAt.below {W W' : World} {g : Nat} {xs : List Int} (h : InAt W g xs) (hb : Below W.heap.size W W') : InAt W' g xs := h.blk (hb.block g h.lt)
theorem InAt.alloc {W : World} {g : Nat} {xs : List Int} (h : InAt W g xs) (o : Obj) : InAt (W.alloc o) g xs := h.below ((Below.refl _ _).alloc (Nat.le_refl _) o)
theorem InAt.far {W : World} {g : Nat} {xs : List Int} (h : InAt W g xs) {p : Addr} (hp : g ≠ p.block) (u : Value) : InAt (W.setCell p u) g xs := h.blk (Below.heap_setCell W p u g hp)
theorem inAt_own {W : World} {base n : Nat} {v : Value} {xs : List Int} (h : W.ownsRow base 3 1 v n (xs.map (Value.int .i64))) (hn : xs.length = n) (h1 : 1 ≤ n) : ∃ g c, v = .slice (some ⟨g, 0, none⟩) n c ∧ base ≤ g ∧ n ≤ c ∧ InAt W g xs := by
  subst hn
  rcases h.2 with ⟨_, h0⟩ | ⟨g, cap, cur, e, hb, hg, hc, _, hs, ht⟩
  · omega
  · exact ⟨g, cap, e, hb, hc, cur, hg, by rw [hs]; omega, by simpa using ht⟩
theorem InAt.cell {W : World} {g : Nat} {xs : List Int} (h : InAt W g xs) {i : Nat} (hi : i < xs.length) : W.cell? ⟨g, i, none⟩ = some (.int .i64 (xs[i]?.getD 0)) ∧ W.frozen? ⟨g, i, none⟩ = false := by
  obtain ⟨cur, h1, h2, h3⟩ := h
  refine ⟨?_, h1.frozen _⟩
  have hf : (xs.map (Value.int .i64))[i]? = some (.int .i64 (xs[i]?.getD 0)) := by
    rw [List.getElem?_map, List.getElem?_eq_getElem hi]; rfl
  rw [h1.cell]
  rw [← h3, List.getElem?_take_of_lt (by omega)] at hf
  simpa using hf
theorem InAt.row {W : World} {g : Nat} {xs : List Int} (h : InAt W g xs) : RdInts W (some ⟨g, 0, none⟩) xs.length xs :=
  ⟨rfl, fun _ => ⟨g, 0, rfl, h.lt, fun j hj => by rw [Nat.zero_add]; exact (h.cell hj).1⟩⟩
theorem InAt.set {W : World} {g i : Nat} {xs : List Int} {x : Int} (h : InAt W g xs) : InAt (W.setCell ⟨g, i, none⟩ (.int .i64 x)) g (xs.set i x) := by
  obtain ⟨cur, h1, h2, h3⟩ := h
  refine ⟨_, h1.set_ i _, by simpa using h2, ?_⟩
  rw [List.length_set, Array.toList_setIfInBounds, List.take_set, h3, List.map_set]

set_option maxRecDepth 100000 in
/-- Levels, which of them is raised, and by how much. -/
theorem open_higher {H : Type} {enc : TypeId × Value → H} {w : World} {base : Nat} {held : Bool} {r : Reach} {b0 : Nat} {v : Value} {d : DataW H} {p : List MemPlace} (hv : Value.okWide Try.prog w r b0 98 v) (h : DataW.Trod enc Try.prog w base (fun _ => true) held 98 v d p) :
    ∃ A c ls wh by_, v = .agg #[.slice A (ls : List Int).length c, .int .u8 wh, .int .u16 by_] ∧ RdInts w A ls.length ls ∧ ls.length ≤ maxLen ∧ (0 ≤ wh ∧ wh ≤ 255) ∧ (0 ≤ by_ ∧ by_ ≤ 65535) := by
  obtain ⟨v0, v1, v2, y0, y1, y2, n, rfl, _, _, h0, h1, h2⟩ := Joins.open_agg3 Try.underlying98 (by kernel_rfl) (by kernel_rfl) hv h
  obtain ⟨A, c, ls, e0, hr, hm, _⟩ := open_rdInts h0
  obtain ⟨z1, e1, _, hz1⟩ := DataW.trod_int Try.underlying5 h1
  obtain ⟨z2, e2, _, hz2⟩ := DataW.trod_int Try.underlying84 h2
  simp only [List.cons.injEq, and_true] at e0 e1 e2
  subst e0 e1 e2
  exact ⟨A, c, ls, z1, z2, rfl, hr, hm, wf8 hz1, wf16 hz2⟩

theorem done_in (ls : List Int) (ts : List (Int × Int)) : InL (ts.map (doneT ls)) := by
  intro p hp
  obtain ⟨t, _, rfl⟩ := List.mem_map.1 hp
  exact lim_le _
theorem fk_le_of {ts us : List (Int × Int)} {ls ks : List Int} (a : Nat) (hl : ts.length = us.length) (h : ∀ i, i < ts.length → doneT ls (ts[i]?.getD (0, 0)) ≤ doneT ks (us[i]?.getD (0, 0))) : fk (ts.map (doneT ls)) a ≤ fk (us.map (doneT ks)) a := by
  refine fk_up _ _ a (done_in _ _) (done_in _ _) (by simpa using hl) fun i h1 h2 => ?_
  have h1' : i < ts.length := by simpa using h1
  have h2' : i < us.length := by simpa using h2
  have := h i h1'
  rw [List.getElem?_eq_getElem h1', List.getElem?_eq_getElem h2'] at this
  simpa using this
theorem test_zero {S : Sch} {ts : List (Int × Int)} {al : Int} (hc : (checkS S).2.2 = 0) (hm : 1 ≤ ts.length ∧ ts.length ≤ 6) (ha : 0 ≤ al ∧ al ≤ (ts.length : Int) - 1) (h : ∀ i, i < ts.length → taskE S.sks.length (ts[i]?.getD (0, 0)) = 0) : testE S ts al = 0 := by
  unfold testE
  rw [if_pos hc, if_pos (inB_iff.2 (by omega)), if_pos (inB_iff.2 ha), firstErr_none]
  intro i _ hi
  exact h i (by omega)
theorem test_parts {S : Sch} {ts : List (Int × Int)} {al : Int} (h : testE S ts al = 0) : (checkS S).2.2 = 0 ∧ (1 ≤ ts.length ∧ ts.length ≤ 6) ∧ (0 ≤ al ∧ al ≤ (ts.length : Int) - 1) ∧ ∀ i, i < ts.length → taskE S.sks.length (ts[i]?.getD (0, 0)) = 0 := by
  unfold testE at h
  split at h
  · rename_i h0
    split at h
    · rename_i h1
      have h1 := inB_iff.1 h1
      split at h
      · rename_i h2
        exact ⟨h0, by omega, inB_iff.1 h2, fun i hi => firstErr_zero h i (Nat.zero_le _) (by omega)⟩
      · simp at h
    · simp at h
  · contradiction
theorem chance_at {S : Sch} {ts : List (Int × Int)} {al : Int} {ls : List Int} (h : testE S ts al = 0) (hl : ls.length = S.sks.length) (ha : ls.all (inB 0 1000) = true) : chanceF S ts al ls = (fk (ts.map (doneT ls)) al.toNat, 0) := by
  unfold chanceF
  rw [if_pos h, if_pos hl, if_pos ha]
theorem chance_parts {S : Sch} {ts : List (Int × Int)} {al : Int} {ls : List Int} (h : (chanceF S ts al ls).2 = 0) : testE S ts al = 0 ∧ ls.length = S.sks.length ∧ ls.all (inB 0 1000) = true := by
  unfold chanceF at h
  split at h
  · split at h
    · split at h
      · exact ⟨by assumption, by assumption, by assumption⟩
      · simp at h
    · simp at h
  · contradiction
theorem chance_bad {S : Sch} {ts : List (Int × Int)} {al : Int} {ls : List Int} (h : (chanceF S ts al ls).2 ≠ 0) : (chanceF S ts al ls).1 = 0 := by
  unfold chanceF at h ⊢
  split
  · rename_i h0
    rw [if_pos h0] at h
    split
    · rename_i h1
      rw [if_pos h1] at h
      split
      · rename_i h2
        rw [if_pos h2] at h
        exact absurd rfl h
      · rfl
    · rfl
  · rfl
/-- P2.12: what the law SkillEasier asks. -/
theorem easy_math {S : Sch} {ts : List (Int × Int)} {al : Int} {ls : List Int} {k i : Nat} {d e : Int} (h : (chanceF S ts al ls).2 = 0) (hk : k < ls.length) (hi : i < ts.length) (hd : 0 ≤ d) (he : 0 ≤ e) :
    ∃ n a b c, chanceF S ts al ls = (n, 0) ∧ chanceF S ts al (ls.set k (min 1000 (ls[k]?.getD 0 + d))) = (a, 0) ∧ chanceF S (ts.set i ((ts[i]?.getD (0, 0)).1, min 1000 ((ts[i]?.getD (0, 0)).2 + d))) al ls = (b, 0) ∧
      chanceF S ts (min ((ts.length : Int) - 1) (al + e)) ls = (c, 0) ∧ n ≤ a ∧ b ≤ n ∧ n ≤ c := by
  obtain ⟨ht, hl, ha⟩ := chance_parts h
  obtain ⟨hc, hm, hal, hts⟩ := test_parts ht
  have hlk : 0 ≤ ls[k]?.getD 0 ∧ ls[k]?.getD 0 ≤ 1000 := by
    rw [List.getElem?_eq_getElem hk]
    exact inB_iff.1 (List.all_eq_true.1 ha _ (List.getElem_mem hk))
  have hti : 0 ≤ (ts[i]?.getD (0, 0)).2 ∧ (ts[i]?.getD (0, 0)).2 ≤ 1000 := by
    have := hts i hi
    unfold taskE at this
    split at this
    · split at this
      · rename_i h2; exact inB_iff.1 h2
      · simp at this
    · simp at this
  have ha2 : (ls.set k (min 1000 (ls[k]?.getD 0 + d))).all (inB 0 1000) = true := by
    rw [List.all_eq_true]
    intro x hx
    rcases List.mem_or_eq_of_mem_set hx with h | h
    · exact List.all_eq_true.1 ha x h
    · subst h; exact inB_iff.2 (by omega)
  have ht2 : testE S (ts.set i ((ts[i]?.getD (0, 0)).1, min 1000 ((ts[i]?.getD (0, 0)).2 + d))) al = 0 := by
    refine test_zero hc (by rw [List.length_set]; exact hm) (by rw [List.length_set]; exact hal) fun j hj => ?_
    rw [List.length_set] at hj
    by_cases e : i = j
    · subst e
      rw [List.getElem?_set_self hj]
      have := hts i hi
      unfold taskE at this ⊢
      split at this
      · rename_i h1
        simp only [Option.getD_some]
        rw [if_pos h1, if_pos (inB_iff.2 (by omega))]
      · simp at this
    · rw [List.getElem?_set_ne e]; exact hts j hj
  have ht3 : testE S ts (min ((ts.length : Int) - 1) (al + e)) = 0 := test_zero hc hm (by omega) hts
  refine ⟨_, _, _, _, chance_at ht hl ha, chance_at ht (by rw [List.length_set]; exact hl) ha2, chance_at ht2 hl ha, chance_at ht3 hl ha, ?_, ?_, ?_⟩
  · refine fk_le_of _ rfl fun j hj => ?_
    unfold doneT
    refine lim_mono ?_
    by_cases e : k = (ts[j]?.getD (0, 0)).1.toNat
    · rw [← e, List.getElem?_set_self hk]
      simp only [Option.getD_some]
      omega
    · rw [List.getElem?_set_ne e]
      omega
  · refine fk_le_of _ (by rw [List.length_set]) fun j hj => ?_
    rw [List.length_set] at hj
    by_cases e : i = j
    · subst e
      rw [List.getElem?_set_self hj]
      unfold doneT
      simp only [Option.getD_some]
      exact lim_mono (by omega)
    · rw [List.getElem?_set_ne e]
      exact Int.le_refl _
  · exact fk_mono (done_in _ _) (by omega)
end Go.Proofs.Ytkhijdbigpaagaa
