import Derived.Test.YtkhijdbigpaagaaNi
import Derived.OrdersIn
import Derived.Test.YtkhijdbigpaagaaNh
/-
  share and plans of package skill.
-/
namespace Go.Proofs.Ytkhijdbigpaagaa
open Go.RowKit Go.Shelf RG
attribute [local go_sem] Oper.semAt_some

def natC (P : List Nat) : Array Value := (P.map fun n : Nat => Value.int .i64 n).toArray
/-- The plan P lies in block g. -/
def PlanAt (W : World) (g : Nat) (P : List Nat) : Prop := Blk W g 3 (natC P)
/-- All cells lie as they lay, but those of block g. -/
def KX (g : Nat) (W W' : World) : Prop := W.heap.size ≤ W'.heap.size ∧ ∀ (k : Nat) (cs : Array Value) (t : TypeId) (f : Nat × Nat), k ≠ g → W.heap[k]? = some (Obj.cells cs t f) → W'.heap[k]? = some (Obj.cells cs t f)
theorem KX.refl (g : Nat) (W : World) : KX g W W := ⟨Nat.le_refl _, fun _ _ _ _ _ h => h⟩
theorem KX.trans {g : Nat} {X Y Z : World} (h : KX g X Y) (k : KX g Y Z) : KX g X Z := ⟨Nat.le_trans h.1 k.1, fun i cs t f hi h0 => k.2 i cs t f hi (h.2 i cs t f hi h0)⟩
theorem KC.kx {X Y : World} (h : KC X Y) (g : Nat) : KX g X Y := ⟨h.1, fun i cs t f _ h0 => h.2 i cs t f h0⟩
theorem KX.set (g o : Nat) (W : World) (v : Value) : KX g W (W.setCell ⟨g, o, none⟩ v) :=
  ⟨by simp [World.setCell], fun k cs t f hk h => (Below.heap_setCell W ⟨g, o, none⟩ v k (by simpa using hk)).trans h⟩
theorem natC_set (P : List Nat) (i x : Nat) : (natC P).setIfInBounds i (.int .i64 x) = natC (P.set i x) := by
  unfold natC; rw [List.setIfInBounds_toArray, List.map_set]
theorem PlanAt.set {W : World} {g : Nat} {P : List Nat} (h : PlanAt W g P) (i x : Nat) : PlanAt (W.setCell ⟨g, i, none⟩ (.int .i64 x)) g (P.set i x) := by
  have := h.set_ i (.int .i64 (x : Int))
  rwa [natC_set] at this
/-- The numbers of a plan in memory. -/
def IsPlan (x : Value × List Nat) (W : World) : Prop := IsInts (x.2.map Int.ofNat) x.1 W

theorem take_set_succ (P : List Nat) {s : Nat} (x : Nat) (h : s < P.length) : (P.set s x).take (s + 1) = P.take s ++ [x] := by
  rw [List.take_succ_eq_append_getElem (by simpa using h), List.take_set_of_le (Nat.le_refl _)]
  simp
theorem take_set_le (P : List Nat) {s : Nat} (x : Nat) : (P.set s x).take s = P.take s := by rw [List.take_set_of_le (Nat.le_refl _)]

theorem roomW (k : Nat) : Fence.wide.room k := fun d h => by cases h
theorem YieldAt.any' {m : Nat} (m' : Nat) {P : Program} {l : Nat} {args : Array Value} {W : World} {R : Ending → World → Prop} (h : YieldAt Fence.wide m P l args W R) : YieldAt Fence.wide m' P l args W R := by
  obtain ⟨fn, tmps, assign, body, hy, hR⟩ := h
  exact ⟨fn, tmps, assign, body, hy, hR.1, fun c cs _ => hR.2 c cs (roomW _)⟩

/-- A plan for k skills lies there, in memory from block B on. -/
def PlanK (k B : Nat) (x : Value × List Nat) (W : World) : Prop := ∃ b c, x.1 = .slice (some ⟨b, 0, none⟩) k c ∧ B ≤ b ∧ k ≤ c ∧ RdInts W (some ⟨b, 0, none⟩) k (x.2.map Int.ofNat) ∧ x.2.length = k ∧ ∀ y ∈ x.2, y ≤ 8
theorem PlanK.isPlan {k B : Nat} {x : Value × List Nat} {W : World} (h : PlanK k B x W) : IsPlan x W := by
  obtain ⟨b, c, h1, h2, h3, h4, h5, h6⟩ := h
  exact ⟨some ⟨b, 0, none⟩, c, by rw [h1, List.length_map, h5], by rw [List.length_map, h5]; exact h4, by rw [List.length_map, h5]; exact h3⟩
theorem planK_own {W : World} {base B : Nat} {v : Value} {P : List Nat} {k : Nat} (h : W.ownsRow base 3 1 v k ((P.map Int.ofNat).map (Value.int .i64))) (hk : P.length = k) (hB : B ≤ base) (hk1 : 1 ≤ k) (h8 : ∀ y ∈ P, y ≤ 8) : PlanK k B (v, P) W := by
  obtain ⟨A, c, e, h2, h3⟩ := isInts_of_own (xs := P.map Int.ofNat) (by simpa [hk] using h)
  rw [List.length_map, hk] at e h2 h3
  rcases h.2 with ⟨_, h0⟩ | ⟨g, cap, cur, e2, hb, _⟩
  · omega
  · rw [e] at e2
    injection e2 with e3 _ e4
    subst e3
    exact ⟨g, c, e, by omega, h3, h2, hk, h8⟩
/-- What has come of the first j numbers of a skill's lessons. -/
def cameL (P : List Nat) (s d t lo j : Nat) : List (List Nat) := (List.range' lo j).flatMap fun n => (shareL d (t - n)).map fun q => P.take s ++ n :: q
theorem cameL_succ (P : List Nat) (s d t lo j : Nat) : cameL P s d t lo (j + 1) = cameL P s d t lo j ++ (shareL d (t - (lo + j))).map fun q => P.take s ++ (lo + j) :: q := by
  unfold cameL
  rw [List.range'_1_concat, List.flatMap_append]
  simp
theorem cameL_all (P : List Nat) (s d t : Nat) : (shareL (d + 1) t).map (P.take s ++ ·) = cameL P s d t (t - d * 8) (min t 8 + 1 - (t - d * 8)) := by
  unfold cameL
  simp only [shareL, List.map_flatMap, List.map_map]
  rfl
theorem cameL_pre (P : List Nat) (s d t lo : Nat) {j j' : Nat} (h : j ≤ j') : cameL P s d t lo j <+: cameL P s d t lo j' := by
  obtain ⟨m, rfl⟩ := Nat.exists_eq_add_of_le h
  induction m with
  | zero => exact List.prefix_refl _
  | succ m ih => rw [← Nat.add_assoc, cameL_succ]; exact (ih (by omega)).trans (List.prefix_append _ _)

theorem planInts {W : World} {g : Nat} {P : List Nat} {k : Nat} (h : PlanAt W g P) (hk : P.length = k) : RdInts W (some ⟨g, 0, none⟩) k (P.map Int.ofNat) := by
  refine ⟨by simp [hk], fun _ => ⟨g, 0, rfl, h.lt, fun j hj => ?_⟩⟩
  rw [Nat.zero_add, h.cell]
  unfold natC
  simp only [List.getElem?_toArray, List.getElem?_map]
  rw [List.getElem?_eq_getElem (by omega)]
  simp
theorem KX.blk {g : Nat} {X Y : World} (h : KX g X Y) {b : Nat} {t : TypeId} {cs : Array Value} (hb : Blk X b t cs) (hne : b ≠ g) : Blk Y b t cs := h.2 _ _ _ _ hne hb
set_option maxRecDepth 100000 in
set_option maxHeartbeats 4000000 in
theorem share_in (m l g k B : Nat) (J Jx : List (Value × List Nat) → World → Prop) (hJ : ∀ s X Y, J s X → Below B X Y → J s Y) (hJs : ∀ s X, J s X → B ≤ X.heap.size) (hg : B ≤ g) (hk1 : 1 ≤ k) (hk : k ≤ 5)
    (hY : ∀ pre x W1, J pre W1 → PlanK k B x W1 → YieldAt Fence.wide m Try.prog l #[x.1] W1 fun e W' => (e = .returned (.bool true) ∧ J (pre ++ [x]) W' ∧ KC W1 W') ∨ (e = .returned (.bool false) ∧ Jx (pre ++ [x]) W')) (d : Nat) :
    ∀ (n s t : Nat) (P : List Nat) (pre : List (Value × List Nat)) (W : World), s + d = k → P.length = k → t ≤ d * 8 → (∀ y ∈ P.take s, y ≤ 8) → PlanAt W g P → J pre W →
      CallsIn Fence.wide n Try.prog 112 #[.slice (some ⟨g, 0, none⟩) k k, .int .i64 s, .int .i64 t, .func (.yield l) #[] #[]] W fun e W' =>
        (e = .returned (.bool true) ∧ (∃ ys, ys.map (·.2) = (shareL d t).map (P.take s ++ ·) ∧ J (pre ++ ys) W') ∧ KX g W W' ∧ ∃ P', PlanAt W' g P' ∧ P'.length = k ∧ P'.take s = P.take s) ∨
        (e = .returned (.bool false) ∧ ∃ ys, ys.map (·.2) <+: (shareL d t).map (P.take s ++ ·) ∧ Jx (pre ++ ys) W') := by
  induction d with
  | zero =>
    intro n s t P pre W hsd hP ht h8 hpl hj
    obtain rfl : s = k := by omega
    have hcl := hide ((callsIn_wide (n := n - 1)).2 (CloneInt_any (some ⟨g, 0, none⟩) s s (P.map Int.ofNat) W (planInts hpl hP) hk1 (by omega)))
    have hyy := hide (fun W1 v' (hown : W1.ownsRow W.heap.size 3 1 v' s ((P.map Int.ofNat).map (Value.int .i64))) (hb : Below W.heap.size W W1) => YieldAt.any' (n - 1) (hY pre (v', P) W1 (hJ _ _ _ hj (hb.mono (hJs _ _ hj))) (planK_own hown hP (hJs _ _ hj) hk1 (by rw [← hP, List.take_length] at h8; exact h8))))
    have hfin := hide (show (shareL 0 t).map (P.take s ++ ·) = [P] by rw [← hP, List.take_length]; simp [shareL])
    have hpl' := hide hpl
    clear hY hJ hJs hj hpl h8
    replace hP := hide hP
    refine callsIn_of_wp Try.func112 rfl trivial ?_ rfl
    simp only [Try.ntmps112, List.size_toArray, List.length_cons, List.length_nil, Nat.reduceAdd, Nat.reduceSub, Array.replicate_succ, Array.replicate_zero, List.push_toArray, List.append_toArray, List.nil_append, List.cons_append]
    gi_wp2
    refine ⟨trivial, fun h => absurd h (by decide), ?_⟩
    refine hcl.out.mono ?_
    clear hcl
    rintro e W1 ⟨v', rfl, hown, hb⟩
    obtain ⟨fn, tmps, assign, body, hy, hR⟩ := hyy.out _ _ hown hb
    gi_wp2
    refine ⟨fun h => absurd h (by decide), ?_⟩
    refine hR.mono ?_
    clear hR hy
    rintro e W3 (⟨rfl, hJ3, hk3⟩ | ⟨rfl, hJx3⟩)
    · replace hJ3 := hide hJ3
      replace hk3 := hide hk3
      gi_wp2
      go_ret
      refine .inl ⟨rfl, ⟨[(v', P)], by rw [hfin.out]; rfl, hJ3.out⟩, ((KC.below hb).trans hk3.out).kx g, P, ((KC.below hb).trans hk3.out).blk hpl'.out, hP.out, rfl⟩
    · replace hJx3 := hide hJx3
      gi_wp2
      go_ret
      refine .inr ⟨rfl, [(v', P)], by rw [hfin.out]; exact List.prefix_refl _, hJx3.out⟩
  | succ d ih =>
    intro n s t P pre W hsd hP ht h8 hpl hj
    have hsl : s < k := by omega
    obtain ⟨lo, hlo⟩ : ∃ lo, t - d * 8 = lo := ⟨_, rfl⟩
    obtain ⟨c, hc⟩ : ∃ c, min t 8 + 1 - lo = c := ⟨_, rfl⟩
    have hall := hide (cameL_all P s d t)
    rw [hlo, hc] at hall
    have hcp := hide (fun j' (h : j' ≤ c) => cameL_pre P s d t lo h)
    have hcs := hide (fun j' => cameL_succ P s d t lo j')
    have hih := hide (fun j' (hj' : j' < c) (P' : List Nat) (hP' : P'.length = k) (ht' : P'.take s = P.take s) (pre' : List (Value × List Nat)) W' (hp' : PlanAt W' g (P'.set s (lo + j'))) (hj2 : J pre' W') => ih (n - 1) (s + 1) (t - (lo + j')) (P'.set s (lo + j')) pre' W' (by omega) (by rw [List.length_set]; exact hP') (by omega) (by
      rw [take_set_succ P' (lo + j') (by omega), ht']
      intro y hy
      rcases List.mem_append.1 hy with hy | hy
      · exact h8 y hy
      · simp at hy; omega) hp' hj2)
    have hlim := hide (show lo + c = min t 8 + 1 by omega)
    have hBW := hJs _ _ hj
    have w1 : IntKind.i64.wrap ((k : Int) - (s : Int)) = (d : Int) + 1 := by rw [IntKind.wrap_i64]; omega
    have w2 : IntKind.i64.wrap ((d : Int) + 1 - 1) = (d : Int) := by rw [IntKind.wrap_i64]; omega
    have w3 : IntKind.i64.wrap ((d : Int) * 8) = (d : Int) * 8 := by rw [IntKind.wrap_i64]; omega
    have w4 : IntKind.i64.wrap ((t : Int) - (d : Int) * 8) = (t : Int) - (d : Int) * 8 := by rw [IntKind.wrap_i64]; omega
    obtain ⟨s1, hs1⟩ : ∃ s1, s + 1 = s1 := ⟨_, rfl⟩
    have w5 : IntKind.i64.wrap ((s : Int) + 1) = (s1 : Int) := by rw [IntKind.wrap_i64]; omega
    have w6 : max (0 : Int) ((t : Int) - (d : Int) * 8) = (lo : Int) := by omega
    have e0 : ((s : Int) == (k : Int)) = false := by rw [beq_eq_false_iff_ne]; omega
    have hpl0 := hide hpl
    have hj0 := hide hj
    replace hJ := hide hJ
    replace hJs := hide hJs
    have hP0 := hide hP
    clear ih hY hpl hj hP h8
    refine callsIn_of_wp Try.func112 rfl trivial ?_ rfl
    simp only [Try.ntmps112, List.size_toArray, List.length_cons, List.length_nil, Nat.reduceAdd, Nat.reduceSub, Array.replicate_succ, Array.replicate_zero, List.push_toArray, List.append_toArray, List.nil_append, List.cons_append]
    gi_wp2
    rw [hs1] at hih
    replace hs1 := hide hs1
    gi_loopw [10] (fun i wr => ∃ (j x : Nat) (ys : List (Value × List Nat)) (P' : List Nat), j ≤ c ∧ i = .int .i64 (x : Int) ∧ Hid (x = lo + j) ∧ Hid (J (pre ++ ys) wr) ∧ Hid (ys.map (·.2) = cameL P s d t lo j) ∧ Hid (KX g W wr) ∧ Hid (PlanAt wr g P') ∧ Hid (P'.length = k ∧ P'.take s = P.take s))
      (fun i _ => lo + c - (intOf i).toNat)
    case atStart => exact ⟨0, lo, [], P, Nat.zero_le _, rfl, rfl, by rw [List.append_nil]; exact hj0.out, rfl, KX.refl _ _, hpl0.out, hP0.out, rfl⟩
    case round =>
      obtain ⟨j, x, ys, P', hjc, rfl, hxj, hJ1, hys, hKx, hPl, hPt⟩ := hrel
      clear hj0 hpl0
      obtain ⟨z, hzm⟩ : ∃ z : Int, min (t : Int) 8 = z := ⟨_, rfl⟩
      have hzc := hide (show z = (lo : Int) + c - 1 by have := hlim.out; omega)
      by_cases hlt : j < c
      · have hz : (x : Int) ≤ z := by have := hzc.out; have := hxj.out; omega
        obtain ⟨t1, ht1⟩ : ∃ t1, t - (lo + j) = t1 := ⟨_, rfl⟩
        obtain ⟨x1, hx1⟩ : ∃ x1, x + 1 = x1 := ⟨_, rfl⟩
        have w7 : IntKind.i64.wrap ((t : Int) - (x : Int)) = (t1 : Int) := by have := hlim.out; have := hxj.out; rw [IntKind.wrap_i64]; omega
        have w8 : IntKind.i64.wrap ((x : Int) + 1) = (x1 : Int) := by have := hlim.out; have := hxj.out; rw [IntKind.wrap_i64]; omega
        have hsz : s < P'.length := by rw [hPt.out.1]; exact hsl
        have f0 : wr.frozen? ⟨g, s, none⟩ = false := hPl.out.frozen s
        obtain ⟨u, c0⟩ : ∃ u, wr.cell? ⟨g, s, none⟩ = some u := by
          rw [hPl.out.cell s]; unfold natC
          simp only [List.getElem?_toArray, List.getElem?_map]
          rw [List.getElem?_eq_getElem hsz]
          exact ⟨_, rfl⟩
        have hsk0 : (0 : Int) ≤ (s : Int) := by omega
        have hskz : (s : Int) < (k : Int) := by omega
        have hcl := hih.out j hlt P' hPt.out.1 hPt.out.2 (pre ++ ys) (wr.setCell ⟨g, s, none⟩ (.int .i64 (x : Int))) (by rw [← hxj.out]; exact hPl.out.set s x) (hJ.out _ _ _ hJ1.out ((Below.refl B wr).setCell (p := ⟨g, s, none⟩) hg _))
        have hts := take_set_succ P' (lo + j) hsz
        rw [hPt.out.2, hs1.out] at hts
        rw [hts, ht1] at hcl
        have hKx2 := hide (hKx.out.trans (KX.set g s wr (.int .i64 (x : Int))))
        have hnext := hcs.out j
        rw [ht1] at hnext
        have hpre1 := hcp.out (j + 1) (by omega)
        replace hnext := hide hnext
        replace hpre1 := hide hpre1
        replace hcl := hide hcl
        replace hts := hide hts
        replace hsz := hide hsz
        replace ht1 := hide ht1
        replace hx1 := hide hx1
        clear hih hcs hcp
        gi_wp2
        refine ⟨trivial, fun h => absurd h (by decide), ?_⟩
        refine hcl.out.mono ?_
        clear hcl
        rintro e W3 (⟨rfl, ⟨zs, hzs, hJ3⟩, hK3, P3, hP3, hP3k, hP3t⟩ | ⟨rfl, zs, hzs, hJ3⟩)
        · have hjoin := hide (show (ys ++ zs).map (·.2) = cameL P s d t lo (j + 1) by
            rw [List.map_append, hys.out, hzs, hnext.out]; simp [List.append_assoc])
          have hP3s := hide (show P3.take s = P.take s by
            have := congrArg (List.take s) hP3t
            rw [List.take_take, Nat.min_eq_left (by have := hs1.out; omega), List.take_append_of_le_length (by rw [List.length_take, hP0.out]; omega), List.take_take, Nat.min_self] at this
            exact this)
          rw [List.append_assoc] at hJ3
          replace hJ3 := hide hJ3
          have hK4 := hide (hKx2.out.trans hK3)
          replace hP3 := hide hP3
          clear hzs hK3 hP3t
          replace hP3k := hide hP3k
          gi_wp2
          go_roundw
          case rel => exact ⟨j + 1, x1, ys ++ zs, P3, by omega, rfl, (show x1 = lo + (j + 1) by have := hx1.out; have := hxj.out; omega), hJ3.out, hjoin.out, hK4.out, hP3.out, hP3k.out, hP3s.out⟩
          case measure => have := hx1.out; have := hxj.out; simp only [intOf, Int.toNat_natCast]; omega
        · rw [List.append_assoc] at hJ3
          replace hJ3 := hide hJ3
          replace hzs := hide hzs
          gi_wp2
          go_ret
          refine .inr ⟨rfl, ys ++ zs, ?_, hJ3.out⟩
          rw [hall.out]
          refine List.IsPrefix.trans ?_ hpre1.out
          rw [hnext.out, List.map_append, hys.out]
          exact (List.prefix_append_right_inj _).2 (by simpa [List.append_assoc] using hzs.out)
      · obtain rfl : j = c := by omega
        have hz : ¬ (x : Int) ≤ z := by have := hzc.out; have := hxj.out; omega
        clear hih hcs hcp
        gi_wp2
        go_ret
        refine .inl ⟨rfl, ⟨ys, by rw [hall.out, hys.out], hJ1.out⟩, hKx.out, P', hPl.out, hPt.out.1, hPt.out.2⟩
end Go.Proofs.Ytkhijdbigpaagaa

/-
  plans of package skill: an iterator over all plans.
-/
namespace Go.Proofs.Ytkhijdbigpaagaa
open Go.RowKit Go.Shelf RG
attribute [local go_sem] Oper.semAt_some

theorem plans_cut (k j : Nat) : (List.range (j + 1)).flatMap (shareL k) = (List.range j).flatMap (shareL k) ++ shareL k j := by
  rw [List.range_succ, List.flatMap_append]; simp
theorem plans_pre (k : Nat) {j : Nat} (h : j ≤ k * 8 + 1) : (List.range j).flatMap (shareL k) <+: plansL k := by
  unfold plansL
  obtain ⟨m, hm⟩ := Nat.exists_eq_add_of_le h
  rw [hm]
  clear hm h
  induction m with
  | zero => exact List.prefix_refl _
  | succ m ih => rw [← Nat.add_assoc, plans_cut]; exact ih.trans (List.prefix_append _ _)

theorem kx_cell {g : Nat} {W W' : World} (h : KX g W W') {b o : Nat} {v : Value} (hc : W.cell? ⟨b, o, none⟩ = some v) (hne : b ≠ g) : W'.cell? ⟨b, o, none⟩ = some v := by
  cases hb : W.heap[b]? with
  | none => simp [World.cell?, hb] at hc
  | some ob =>
    cases ob with
    | cells cs t f => rw [World.cell?_of_block (a := ⟨b, o, none⟩) ((h.2 b cs t f hne hb).trans hb.symm)]; exact hc
    | _ => simp [World.cell?, hb] at hc
theorem PlanK.base {k B B' : Nat} {x : Value × List Nat} {W : World} (h : PlanK k B x W) (hb : B' ≤ B) : PlanK k B' x W := by
  obtain ⟨b, c, h1, h2, h3⟩ := h
  exact ⟨b, c, h1, Nat.le_trans hb h2, h3⟩
theorem mk_plan (k : Nat) (hk : k ≤ 5) (w : World) : (Instr.makeSlice 49 (.int .i64 (k : Int)) (.int .i64 (k : Int))).run Try.prog w = .ok (.slice (some ⟨w.heap.size, 0, none⟩) k k) (w.alloc (.cells (natC (List.replicate k 0)) 3)) := by
  obtain ⟨i0, hi, hz0, hz1, hz2⟩ := info_parts infoInt
  have := run_makeSlice (P := Try.prog) (w := w) 49 3 i0 (.int .i64 0) Try.underlying49 hi hz0 .i64 .i64 (k : Int) (k : Int) (by omega) (by omega) (by rw [hz1]; omega) (by rw [hz2]; omega) (by omega)
  rw [this, hz1]
  have e : madeCells (Value.int .i64 0).cells ((k : Int).toNat * 1) = natC (List.replicate k 0) := by
    simp only [Int.toNat_natCast]
    apply Array.ext
    · simp [madeCells, natC]
    · intro j h1 h2
      simp [madeCells, natC, Value.cells, Nat.mod_one]
  rw [e]
  simp

set_option maxRecDepth 100000 in
set_option maxHeartbeats 4000000 in
theorem plans_seq (n k pk : Nat) (w0 : World) (hpk : w0.cell? ⟨pk, 0, none⟩ = some (.int .i64 k)) (hk1 : 1 ≤ k) (hk : k ≤ 5) :
    SeqOwn n 111 #[.pointer (some ⟨pk, 0, none⟩)] (fun x : Value × List Nat => #[x.1]) (PlanK k w0.heap.size) (fun xs => xs.map (·.2) = plansL k) (fun pre => pre.map (·.2) <+: plansL k) w0 := by
  intro l J Jx W hW hJ hJx hY h0
  have hsh := hide (fun g (hg : W.heap.size ≤ g) => share_in (n - 1) l g k W.heap.size (fun s X => J s X ∧ W.heap.size ≤ X.heap.size) Jx (fun s X Y h hb => ⟨hJ _ _ _ h.1 hb, Nat.le_trans h.2 hb.size⟩) (fun s X h => h.2) hg hk1 hk
    (fun pre x W1 h hx => (hY pre x W1 h.1 (hx.base hW.size)).mono fun e W' hr => hr.imp (fun ⟨he, hj, hk⟩ => ⟨he, ⟨hj, Nat.le_trans h.2 hk.1⟩, hk⟩) id) k)
  have hlt := lt_of_cell hpk
  have hp0 := hide ((hW.cell (p := ⟨pk, 0, none⟩) hlt).trans hpk)
  have hlt2 : pk < W.heap.size := Nat.lt_of_lt_of_le hlt hW.size
  have hj0 := hide h0
  replace hJ := hide hJ
  clear hY hJx hW hpk h0 hlt
  have w1 : IntKind.i64.wrap ((k : Int) * 8) = (k : Int) * 8 := by rw [IntKind.wrap_i64]; omega
  obtain ⟨m, hm⟩ : ∃ m, k * 8 + 1 = m := ⟨_, rfl⟩
  have w2 : IntKind.i64.wrap ((k : Int) * 8 + 1) = (m : Int) := by rw [IntKind.wrap_i64]; omega
  have hpp := hide (fun j (h : j ≤ m) => plans_pre k (j := j) (by omega))
  have hpc := hide (fun j => plans_cut k j)
  have hpl := hide (show plansL k = (List.range m).flatMap (shareL k) by rw [← hm]; rfl)
  replace hm := hide hm
  refine callsIn_of_wp Try.func111 rfl trivial ?_ rfl
  simp only [Try.ntmps111, List.size_toArray, List.length_cons, List.length_nil, Nat.reduceAdd, Nat.reduceSub, Array.replicate_succ, Array.replicate_zero, List.push_toArray, List.append_toArray, List.nil_append, List.cons_append]
  have c0 := hp0.out
  gi_wp2
  clear c0
  gi_loopw [7] (fun i wr => ∃ (j : Nat) (ys : List (Value × List Nat)), j ≤ m ∧ i = .int .i64 (j : Int) ∧ Hid (J ys wr) ∧ Hid (ys.map (·.2) = (List.range j).flatMap (shareL k)) ∧ Hid (wr.cell? ⟨pk, 0, none⟩ = some (.int .i64 k)) ∧ Hid (W.heap.size ≤ wr.heap.size))
      (fun i _ => m - (intOf i).toNat)
  case atStart => exact ⟨0, [], Nat.zero_le _, rfl, hj0.out, rfl, hp0.out, Nat.le_refl _⟩
  case round =>
    obtain ⟨j, ys, hjm, rfl, hJ1, hys, hcp, hsz⟩ := hrel
    clear hj0 hp0
    by_cases hlt : j < m
    · have hz : (j : Int) < (m : Int) := by omega
      have c0 := hcp.out
      have k0 : (0 : Int) ≤ (k : Int) := by omega
      have hmk := mk_plan k hk wr
      have hcl := hsh.out wr.heap.size hsz.out (n - 1) 0 j (List.replicate k 0) ys (wr.alloc (.cells (natC (List.replicate k 0)) 3)) (by omega) (by simp) (by have := hm.out; omega) (by intro y hy; simp at hy) (blkNew rfl) ⟨hJ.out _ _ _ hJ1.out ((Below.refl _ wr).alloc hsz.out _), by have := hsz.out; simp; omega⟩
      have hca := hide ((cellB ((Below.refl wr.heap.size wr).alloc (Nat.le_refl _) (.cells (natC (List.replicate k 0)) 3)) (lt_of_cell c0)).trans c0)
      have hne : pk ≠ wr.heap.size := by have : pk < wr.heap.size := lt_of_cell c0
                                         omega
      have hnext := hide (hpc.out j)
      have hpre1 := hide (hpp.out (j + 1) (by omega))
      have w8 : IntKind.i64.wrap ((j : Int) + 1) = ((j + 1 : Nat) : Int) := by have := hm.out; rw [IntKind.wrap_i64]; omega
      have hws := hide (show wr.heap.size ≤ (wr.alloc (.cells (natC (List.replicate k 0)) 3)).heap.size by simp)
      have hmap : (shareL k j).map (fun q => (List.replicate k 0).take 0 ++ q) = shareL k j := by simp
      rw [hmap] at hcl
      clear hmap
      replace hcl := hide hcl
      replace hne := hide hne
      generalize (wr.alloc (.cells (natC (List.replicate k 0)) 3)) = wz at *
      clear hsh hpc hpp
      rw [show ((0 : Nat) : Int) = 0 from rfl] at hcl
      gi_wp2
      refine ⟨trivial, fun h => absurd h (by decide), ?_⟩
      refine hcl.out.mono ?_
      clear hcl
      rintro e W3 (⟨rfl, ⟨zs, hzs, hJ3, hs3⟩, hK3, -⟩ | ⟨rfl, zs, hzs, hJ3⟩)
      · have hjoin := hide (show (ys ++ zs).map (·.2) = (List.range (j + 1)).flatMap (shareL k) by rw [List.map_append, hys.out, hzs, hnext.out])
        replace hJ3 := hide hJ3
        replace hs3 := hide hs3
        have hc3 : W3.cell? ⟨pk, 0, none⟩ = some (.int .i64 k) := kx_cell hK3 hca.out hne.out
        replace hc3 := hide hc3
        clear hzs hK3
        obtain ⟨j1, hj1⟩ : ∃ j1, j + 1 = j1 := ⟨_, rfl⟩
        rw [hj1] at w8 hjoin
        replace hj1 := hide hj1
        gi_wp2
        go_roundw
        case rel => exact ⟨j1, ys ++ zs, by have := hj1.out; omega, rfl, hJ3.out, hjoin.out, hc3.out, hs3.out⟩
        case measure => have := hj1.out; simp only [intOf, Int.toNat_natCast]; omega
      · replace hJ3 := hide hJ3
        replace hzs := hide hzs
        gi_wp2
        refine bodyPost_ret (results_none rfl _ _ _) rfl ?_
        refine ⟨⟨_, rfl⟩, .inr ⟨ys ++ zs, ?_, hJ3.out⟩⟩
        refine List.IsPrefix.trans ?_ hpre1.out
        rw [hnext.out, List.map_append, hys.out]
        exact (List.prefix_append_right_inj _).2 hzs.out
    · obtain rfl : j = m := by omega
      have hz : ¬ (j : Int) < (j : Int) := by omega
      gi_wp2
      go_end0
      exact ⟨⟨_, rfl⟩, .inl ⟨ys, by rw [hys.out, hpl.out], hJ1.out⟩⟩
end Go.Proofs.Ytkhijdbigpaagaa

/-
  A region that draws its order, in a round of a loop over an iterator.
-/
namespace Go.Proofs.Ytkhijdbigpaagaa.RG
open Go.RowKit

def noDefer (l : List Oper) : Bool := l.all fun o => match o.op with
  | .defer _ => false
  | _ => true
theorem noDefer_at {l : List Oper} (h : noDefer l = true) {i : Nat} {o : Oper} (ho : l[i]? = some o) : ∀ c, o.op ≠ .defer c := by
  intro c hc
  have := List.all_eq_true.1 h o (List.mem_of_getElem? ho)
  rw [hc] at this
  cases this
theorem wp_round {P : Program} {lp nn : Nat} {o : Oper} {a : Act} {w : World} {K : Act → World → Prop} {Q : Exit → Act → World → Prop} (hd : ∀ c, o.op ≠ .defer c) (h : o.wp P a w K Q) : o.wpIn (Fence.wide.inRound lp) nn P a w K Q := by
  refine ⟨fun _ _ => trivial, ?_⟩
  rw [Oper.semAt_eq _ _ _ hd]
  unfold Oper.wp at h
  generalize (execOp a.eval o).run P w = r at *
  cases r with
  | ok x w' =>
    cases x <;> first
      | exact h
      | exact ⟨fun h => absurd (show false = true from h) (by decide), CallsIn.inRound lp (callsIn_wide.2 h)⟩
      | exact ⟨fun h => absurd (show false = true from h) (by decide), fun c cs _ => let ⟨v, w', r, s⟩ := h c cs; ⟨v, w', r, stepsIn_wide.2 s⟩⟩
      | exact absurd h id
  | halt x w' => cases x <;> exact h

section
variable {P : Program} {lp nn : Nat}
theorem wpAny_rd {ops : Array Oper} {C : World → Prop} {Rel : World → World → Prop} {V : Nat → Value → World → Prop} {a0 : Act} {Q : Exit → Act → World → Prop}
    (hok : okB ops.toList 0 = true) (hnd : noDefer ops.toList = true) (hst : ∀ k v w w', C w → C w' → Rel w w' → V k v w → V k v w')
    (hall : All P ops C Rel V a0 ops.toList 0)
    (hend : ∀ y w, C w → Ends V y w 0 ops.size → Q .normal (putAll ops.toList 0 y a0) w) :
    ∀ (fuel : Nat) (listed : Array Bool) (y : Nat → Value) (w : World), listed.size = ops.size → cnt (fun j => !listed.getD j true) ops.size ≤ fuel → C w →
      (∀ k, k < ops.size → listed.getD k false = true → V k (y k) w) → wpAnyIn (Fence.wide.inRound lp) nn P .any ops Q fuel listed (putAll ops.toList 0 y a0) w := by
  have hdone : ∀ (listed : Array Bool) (y : Nat → Value) (w : World), listed.size = ops.size → C w → (∀ k, k < ops.size → listed.getD k false = true → V k (y k) w) →
      (∀ j, j < ops.size → listed.getD j true = true) → Q .normal (putAll ops.toList 0 y a0) w := by
    intro listed y w hs hC hV hl
    refine hend y w hC (Ends.of 0 _ fun k _ hk => hV k (by omega) ?_)
    have := hl k (by omega)
    simpa [Array.getD, hs, show k < ops.size by omega] using this
  have hacyc : ∀ (l : List Oper) (i j : Nat) (o : Oper), okB l i = true → l[j]? = some o → ∀ e ∈ o.after, Region.binds .any e = true → e.on < i + j := by
    intro l
    induction l with
    | nil => intro i j o _ hj; simp at hj
    | cons o' r ih =>
      intro i j o h hj e he hbb
      obtain ⟨h1, _, h3⟩ := okB_cons h
      cases j with
      | zero => simp only [List.getElem?_cons_zero, Option.some.injEq] at hj; subst hj; exact h1 e he hbb
      | succ j =>
        simp only [List.getElem?_cons_succ] at hj
        have := ih (i + 1) j o h3 hj e he hbb
        omega
  have hready : ∀ (listed : Array Bool), listed.size = ops.size → Region.ready .any ops listed = [] → ∀ j, j < ops.size → listed.getD j true = true := by
    intro listed hs hr j
    induction j using Nat.strongRecOn with
    | ind j ih =>
      intro hj
      cases hl : listed.getD j true with
      | true => rfl
      | false =>
        have hm : j ∈ Region.ready .any ops listed := by
          rw [mem_ready]
          refine ⟨hl, ops[j], Array.getElem?_eq_getElem hj, fun e he hbb => ?_⟩
          have := hacyc ops.toList 0 j ops[j] hok (by simp [hj]) e he hbb
          have h2 := ih e.on (by omega) (by omega)
          simpa [Array.getD, hs, show e.on < ops.size by omega] using h2
        rw [hr] at hm
        cases hm
  intro fuel
  induction fuel with
  | zero =>
    intro listed y w hs hc hC hV
    have hall' : ∀ j, j < ops.size → listed.getD j true = true := fun j hj => by
      have := cnt_zero _ _ (Nat.le_zero.1 hc) j hj
      simpa using this
    refine ⟨?_, hdone listed y w hs hC hV hall'⟩
    rw [List.eq_nil_iff_forall_not_mem]
    intro j hj
    rw [mem_ready] at hj
    obtain ⟨h1, o, ho, _⟩ := hj
    have := hall' j (Array.getElem?_eq_some_iff.1 ho).1
    rw [h1] at this
    cases this
  | succ fuel ih =>
    intro listed y w hs hc hC hV
    refine ⟨fun hr => hdone listed y w hs hC hV (hready listed hs hr), fun i hi => ?_⟩
    rw [mem_ready] at hi
    obtain ⟨hl, o, ho, hdep⟩ := hi
    have hlt : i < ops.size := (Array.getElem?_eq_some_iff.1 ho).1
    have hol : ops.toList[i]? = some o := by simpa using ho
    have h1 := All.get hall hol
    rw [Nat.zero_add] at h1
    have hnext : ∀ a' w', Out C Rel (V i) (putAll ops.toList 0 y a0) o.dst w a' w' → wpAnyIn (Fence.wide.inRound lp) nn P .any ops Q fuel (listed.setIfInBounds i true) a' w' := by
      rintro a' w' ⟨v, rfl, hC', hR, hVi⟩
      rw [putAll_upd ops.toList 0 i y a0 o v hok hol, Nat.zero_add]
      refine ih _ _ _ (by simpa using hs) ?_ hC' (fun k hk hlk => ?_)
      · have := cnt_lt (fun j => !listed.getD j true) (fun j => !(listed.setIfInBounds i true).getD j true) (fun j hj => by
          by_cases e : i = j
          · subst e; simp [Array.getD, Array.setIfInBounds, hs, hlt] at hj
          · rw [getD_set_ne true e] at hj; exact hj) i (by simp [hl]) (by simp [Array.getD, Array.setIfInBounds, hs, hlt]) ops.size hlt
        omega
      · by_cases e : k = i
        · subst e; simpa [upd] using hVi
        · have : upd y i v k = y k := by simp [upd, e]
          rw [this]
          rw [getD_set_ne false (fun h => e h.symm)] at hlk
          exact hst k _ w w' hC hC' hR (hV k hk hlk)
    have h2 := h1 y w (wpAnyIn (Fence.wide.inRound lp) nn P .any ops Q fuel (listed.setIfInBounds i true)) Q (fun v w' => C w' ∧ Rel w w' ∧ V i v w') hC (deps_of _ fun e he hb => by
      have he' : e ∈ o.after := by simpa using he
      have h3 := hdep e he' hb
      have hlt2 := hacyc ops.toList 0 i o hok hol e he' hb
      exact hV e.on (by omega) h3) (fun v w' a b c => ⟨a, b, c⟩) (fun v w' h => hnext _ _ ⟨v, rfl, h⟩)
    unfold wpOpIn
    simp only [ho]
    split
    · rename_i hw; simp only [hw, if_true] at h2; exact wp_round (noDefer_at hnd hol) h2
    · rename_i hw; simp only [hw] at h2; exact ⟨fun _ _ => trivial, h2⟩


theorem region_rd {id : Nat} {Q : Exit → Act → World → Prop} {a : Act} {w : World} {l : List Oper} (C : World → Prop) (Rel : World → World → Prop) (V : Nat → Value → World → Prop)
    (hm : P.follows .mixedOrders = true) (hok : okB l 0 = true) (hnd : noDefer l = true) (hC : C w.drew) (hst : ∀ k v w w', C w → C w' → Rel w w' → V k v w → V k v w')
    (hall : All P l.toArray C Rel V a l 0) (hend : ∀ y w, C w → Ends V y w 0 l.length → Q .normal (putAll l 0 y a) w) :
    (Code.region id l.toArray true).wpIn (Fence.wide.inRound lp) nn P Q a w := by
  refine wpIn_region_any hm ?_
  have := wpAny_rd (P := P) (lp := lp) (nn := nn) (ops := l.toArray) (C := C) (Rel := Rel) (V := V) (a0 := a) (Q := Q) (by simpa using hok) (by simpa using hnd) hst (by simpa using hall) (by simpa using hend) l.toArray.size
    (Array.replicate l.toArray.size false) (start l a) w.drew (by simp) (cnt_le _ _) hC (fun k hk h => by
      simp [Array.getD] at h)
  rw [show (l.toArray).toList = l by simp, putAll_start l 0 (start l a) a (fun j o hj e he => by simp [start, hj, he])] at this
  exact this
/-- THE RULE in a round, where memory only grows. -/
theorem region_grow_rd {id : Nat} {Q : Exit → Act → World → Prop} {a : Act} {w : World} {l : List Oper} (L : List (Value → World → Prop))
    (hm : P.follows .mixedOrders = true) (hok : okB l 0 = true) (hnd : noDefer l = true) (hlen : L.length = l.length) (hL : AllStb L)
    (hall : All P l.toArray (Go.RowKit.Below w.heap.size w) (fun u u' => Go.RowKit.Below u.heap.size u u') (VL L) a l 0)
    (hend : ∀ y w', Go.RowKit.Below w.heap.size w w' → EndsL L y w' 0 → Q .normal (putAll l 0 y a) w') :
    (Code.region id l.toArray true).wpIn (Fence.wide.inRound lp) nn P Q a w :=
  region_rd _ _ _ hm hok hnd (Go.RowKit.Below.refl _ _).drew (fun k v u u' _ _ h hv => hL.at_ k v u u' h hv) hall
    (fun y w' hC hE => hend y w' hC (EndsL.of 0 fun k hk => by
      have := hE.get (k := k) (by omega)
      simpa using this))
end
end Go.Proofs.Ytkhijdbigpaagaa.RG

/-
  Fewest of package skill.
-/
namespace Go.Proofs.Ytkhijdbigpaagaa
open Go.RowKit Go.Shelf RG
attribute [local go_sem] Oper.semAt_some

/-- The plan makes ready. -/
def okPlan (S : Sch) (ts : List (Int × Int)) (al : Int) (rs : List Sp) (ch : Int) (p : List Nat) : Bool := decide (ch * 1000 ^ (ts.length - 1) ≤ atL ts al (lowF S rs (p.map Int.ofNat) rs.length))
/-- What Fewest answers. -/
def fewestF (S : Sch) (ts : List (Int × Int)) (al : Int) (rs : List Sp) (ch : Int) : Option (List Nat) × Int :=
  if readyE S ts al rs ch = 0 then ((plansL S.sks.length).find? (okPlan S ts al rs ch), if ((plansL S.sks.length).find? (okPlan S ts al rs ch)).isSome = true then 0 else 9) else (none, readyE S ts al rs ch)
def FewR (q : Option (List Nat) × Int) (e : Ending) (w : World) : Prop := ∃ x, e = .returned (.tuple #[x, .int .i64 q.2]) ∧ IsPlan (x, q.1.getD []) w

theorem plans_any (k : Int) (w : World) : Calls Try.prog 84 #[.int .i64 k] w fun e w' => e = .returned (.func (.func 111) #[] #[.pointer (some ⟨w.heap.size, 0, none⟩)]) ∧ w' = w.alloc (.cells #[.int .i64 k] 3) := by
  go_enter Try.func84, Try.ntmps84
  go_wp2
  go_ret
  exact ⟨rfl, rfl⟩

theorem RdInts.kc {W W' : World} {A : Option Addr} {n : Nat} {xs : List Int} (h : RdInts W A n xs) (hg : KC W W') : RdInts W' A n xs :=
  ⟨h.1, fun hn => by
    obtain ⟨b, off, e, hlt, hc⟩ := h.2 hn
    refine ⟨b, off, e, Nat.lt_of_lt_of_le hlt hg.1, fun j hj => ?_⟩
    have := hc j hj
    cases hb : W.heap[b]? with
    | none => simp [World.cell?, hb] at this
    | some ob =>
      cases ob with
      | cells cs t f => rw [World.cell?_of_block (a := ⟨b, off + j, none⟩) ((hg.2 b cs t f hb).trans hb.symm)]; exact this
      | _ => simp [World.cell?, hb] at this⟩
theorem IsPlan.kc {W W' : World} {x : Value × List Nat} (h : IsPlan x W) (hg : KC W W') : IsPlan x W' := by
  obtain ⟨A, c, e, h, hc⟩ := h
  exact ⟨A, c, e, h.kc hg, hc⟩
theorem PlanK.kc {W W' : World} {k B : Nat} {x : Value × List Nat} (h : PlanK k B x W) (hg : KC W W') : PlanK k B x W' := by
  obtain ⟨b, c, h1, h2, h3, h4, h5⟩ := h
  exact ⟨b, c, h1, h2, h3, h4.kc hg, h5⟩
theorem PlanK.far {W : World} {k B : Nat} {x : Value × List Nat} (h : PlanK k B x W) {p : Addr} (hp : p.block < B) (u : Value) : PlanK k B x (W.setCell p u) := by
  obtain ⟨b, c, h1, h2, h3, ⟨h4, h6⟩, h5⟩ := h
  refine ⟨b, c, h1, h2, h3, ⟨h4, fun hn => ?_⟩, h5⟩
  obtain ⟨b', off, e, hlt, hc⟩ := h6 hn
  injection e with e
  injection e with e1 e2
  subst e1
  refine ⟨b, off, by rw [e2], by simpa [World.setCell] using hlt, fun j hj => ?_⟩
  rw [World.cell?_of_block (Below.heap_setCell W p u b (by omega))]
  exact hc j hj
theorem KC.own {W W' : World} {row : Option Nat} (hg : W.grownBy W' row) (hr : ∀ r, row = some r → ∃ o : Obj, W.heap[r]? = some o ∧ o.isCells = false) : KC W W' :=
  ⟨hg.size, fun k cs t f hk => (hg.block k (Array.getElem?_eq_some_iff.1 hk).1 (fun e => by
    obtain ⟨o, ho, hc⟩ := hr k e.symm
    rw [hk] at ho; cases ho; cases hc)).trans hk⟩
/-- How a round of Fewest leaves the loop. -/
def FewX (ok : List Nat → Bool) (w : World) (p q : Nat) (c : Code) (pre : List (Value × List Nat)) (W : World) : Prop :=
  Below w.heap.size w W ∧ c = .ret ∧ ∃ p0 x, pre = p0 ++ [x] ∧ (∀ y ∈ p0, ok y.2 = false) ∧ ok x.2 = true ∧ IsPlan x W ∧ Blk W p 49 #[x.1] ∧ Blk W q 28 #[.int .i64 0]
theorem FewX.own (ok : List Nat → Bool) (w : World) (p q : Nat) (c : Code) (B : Nat) (hB : w.heap.size ≤ B) : OwnFrom B (FewX ok w p q c) := by
  rintro s X Y row ⟨h1, h2, p0, x, h3, h4, h5, h6, h7, h8⟩ hg hr
  have hk := KC.own hg (fun r e => (hr r e).2)
  exact ⟨h1.grown hg h1.size (fun k e => by have := (hr k e).1; omega), h2, p0, x, h3, h4, h5, h6.kc hk, hk.blk h7, hk.blk h8⟩
theorem few_find {ok : List Nat → Bool} {l : List (List Nat)} {pre p0 : List (Value × List Nat)} {x : Value × List Nat} (h : pre.map (·.2) <+: l) (hp : pre = p0 ++ [x]) (h0 : ∀ y ∈ p0, ok y.2 = false) (hx : ok x.2 = true) : l.find? ok = some x.2 := by
  obtain ⟨bs, rfl⟩ := h
  subst hp
  rw [List.find?_eq_some_iff_append]
  refine ⟨hx, p0.map (·.2), bs, by simp, ?_⟩
  intro a ha
  obtain ⟨y, hy, rfl⟩ := List.mem_map.1 ha
  rw [h0 y hy]; rfl
theorem few_none {ok : List Nat → Bool} {l : List (List Nat)} {xs : List (Value × List Nat)} (h : xs.map (·.2) = l) (h0 : ∀ y ∈ xs, ok y.2 = false) : l.find? ok = none := by
  subst h
  rw [List.find?_eq_none]
  intro a ha
  obtain ⟨y, hy, rfl⟩ := List.mem_map.1 ha
  rw [h0 y hy]; simp
theorem enters_plans : ∀ args w, (callFunc 111 args).run Try.prog w = .ok (.enter 111 args) w := fun _ _ => by kernel_rfl
theorem isPlan_nil (w : World) : IsPlan (.slice none 0 0, (none : Option (List Nat)).getD []) w := ⟨none, 0, rfl, ⟨rfl, fun h => absurd h (by simp)⟩, Nat.le_refl _⟩
theorem few_end (tm : Array Value) (wf : World) (R : Ending → World → Prop) (p q : Nat) (v4 v5 : Value) (h4 : tm[8]? = some (.pointer (some ⟨p, 0, none⟩))) (h5 : tm[9]? = some (.pointer (some ⟨q, 0, none⟩)))
    (hc4 : wf.cell? ⟨p, 0, none⟩ = some v4) (hc5 : wf.cell? ⟨q, 0, none⟩ = some v5) (hR : R (.returned (.tuple #[v4, v5])) wf) : LeavesInM Fence.wide 9 Try.prog Try.f34 tm R [] .returning wf := by
  have a1 := Try.isAgg49
  have a2 := Try.isAgg28
  refine ⟨.tuple #[v4, v5], ?_, hR⟩
  simp [results, Try.results34, go_sem, h4, h5, hc4, hc5]

set_option maxRecDepth 100000 in
set_option maxHeartbeats 8000000 in
theorem Fewest_any (v : Value) (S : Sch) (B L : Option Addr) (m cb k cl : Nat) (ts : List (Int × Int)) (al : Int) (rs : List Sp) (ch : Int) (w : World) (h : RdSch w v S) (ht : RdRow w B m 2 (ts.map tkCells)) (hm : m ≤ maxLen)
    (hls : RdRow w L k 2 (rs.map tkCells)) (hk : k ≤ maxLen) :
    Calls Try.prog 34 #[v, .agg #[.slice B m cb, .int .i64 al], .slice L k cl, .int .i64 ch] w fun e w' => FewR (fewestF S ts al rs ch) e w' ∧ Below w.heap.size w w' := by
  have hl : ts.length = m := by have := ht.1; simpa using this
  have hkl : rs.length = k := by have := hls.1; simpa using this
  have hT := hide (fun W (hb : Below w.heap.size w W) => readyError_any v S B L m cb k cl ts al rs ch W (h.below hb) (ht.below hb) hm (hls.below hb) hk)
  obtain ⟨A, c, A2, c2, rfl, -, h3, -⟩ := id h
  obtain ⟨r, hr⟩ : ∃ r, fewestF S ts al rs ch = r := ⟨_, rfl⟩
  rw [hr]
  unfold fewestF at hr
  generalize hq : readyE S ts al rs ch = q at *
  obtain ⟨n, hnS⟩ : ∃ n, S.sks.length = n := ⟨_, rfl⟩
  obtain ⟨n2, hnI⟩ : ∃ n2, S.ins.length = n2 := ⟨_, rfl⟩
  rw [hnS] at hr h3
  rw [hnS, hnI] at hT
  have hvS : (Value.agg #[.slice A S.sks.length c, .slice A2 S.ins.length c2]) = .agg #[.slice A n c, .slice A2 n2 c2] := by rw [hnS, hnI]
  rw [hvS] at h ⊢
  replace hvS := hide hvS
  replace hq := hide hq
  replace hr := hide hr
  replace h := hide h
  replace ht := hide ht
  replace hls := hide hls
  replace hl := hide hl
  replace hkl := hide hkl
  replace hnS := hide hnS
  replace hnI := hide hnI
  have hB0 := hide (show Below w.heap.size w (((((w.alloc (.cells #[.slice A n c, .slice A2 n2 c2] 25)).alloc (.cells #[.slice B m cb, .int .i64 al] 48)).alloc (.cells #[.slice L k cl] 37)).alloc (.cells #[.slice none 0 0] 49)).alloc (.cells #[.int .i64 0] 28)) from
    (((((Below.refl _ _).alloc (Nat.le_refl _) _).alloc (by simp) _).alloc (by simp; omega) _).alloc (by simp; omega) _).alloc (by simp; omega) _)
  refine (callsIn_wide (n := 9)).1 ?_
  refine callsIn_of_wp_marks Try.func34 rfl trivial ?_ rfl
  simp only [Try.ntmps34, List.size_toArray, List.length_cons, List.length_nil, Nat.reduceAdd, Nat.reduceSub, Array.replicate_succ, Array.replicate_zero, List.push_toArray, List.append_toArray, List.nil_append, List.cons_append]
  refine wpIn_wide.2 ?_
  go_wp2_with fail
  have b0 := hide (show Blk (((((w.alloc (.cells #[.slice A n c, .slice A2 n2 c2] 25)).alloc (.cells #[.slice B m cb, .int .i64 al] 48)).alloc (.cells #[.slice L k cl] 37)).alloc (.cells #[.slice none 0 0] 49)).alloc (.cells #[.int .i64 0] 28)) w.heap.size 25 #[.slice A n c, .slice A2 n2 c2] from ((((blkNew rfl).alloc _).alloc _).alloc _).alloc _)
  have b1 := hide (show Blk (((((w.alloc (.cells #[.slice A n c, .slice A2 n2 c2] 25)).alloc (.cells #[.slice B m cb, .int .i64 al] 48)).alloc (.cells #[.slice L k cl] 37)).alloc (.cells #[.slice none 0 0] 49)).alloc (.cells #[.int .i64 0] 28)) (w.heap.size + 1) 48 #[.slice B m cb, .int .i64 al] from (((blkNew (by simp)).alloc _).alloc _).alloc _)
  have b2 := hide (show Blk (((((w.alloc (.cells #[.slice A n c, .slice A2 n2 c2] 25)).alloc (.cells #[.slice B m cb, .int .i64 al] 48)).alloc (.cells #[.slice L k cl] 37)).alloc (.cells #[.slice none 0 0] 49)).alloc (.cells #[.int .i64 0] 28)) (w.heap.size + 1 + 1) 37 #[.slice L k cl] from ((blkNew (by simp)).alloc _).alloc _)
  have b3 := hide (show Blk (((((w.alloc (.cells #[.slice A n c, .slice A2 n2 c2] 25)).alloc (.cells #[.slice B m cb, .int .i64 al] 48)).alloc (.cells #[.slice L k cl] 37)).alloc (.cells #[.slice none 0 0] 49)).alloc (.cells #[.int .i64 0] 28)) (w.heap.size + 1 + 1 + 1) 49 #[.slice none 0 0] from (blkNew (by simp)).alloc _)
  have b4 := hide (show Blk (((((w.alloc (.cells #[.slice A n c, .slice A2 n2 c2] 25)).alloc (.cells #[.slice B m cb, .int .i64 al] 48)).alloc (.cells #[.slice L k cl] 37)).alloc (.cells #[.slice none 0 0] 49)).alloc (.cells #[.int .i64 0] 28)) (w.heap.size + 1 + 1 + 1 + 1) 28 #[.int .i64 0] from blkNew (by simp))
  have hs0 : (((((w.alloc (.cells #[.slice A n c, .slice A2 n2 c2] 25)).alloc (.cells #[.slice B m cb, .int .i64 al] 48)).alloc (.cells #[.slice L k cl] 37)).alloc (.cells #[.slice none 0 0] 49)).alloc (.cells #[.int .i64 0] 28)).heap.size = w.heap.size + 5 := by simp
  generalize (((((w.alloc (.cells #[.slice A n c, .slice A2 n2 c2] 25)).alloc (.cells #[.slice B m cb, .int .i64 al] 48)).alloc (.cells #[.slice L k cl] 37)).alloc (.cells #[.slice none 0 0] 49)).alloc (.cells #[.int .i64 0] 28)) = W0 at *
  refine (hT.out _ hB0.out).mono ?_
  rintro e w1 ⟨rfl, hb1⟩
  have hB1 := hide (hB0.out.trans (hb1.mono (by omega)))
  replace b0 := hide (b0.out.below hb1 b0.out.lt)
  replace b1 := hide (b1.out.below hb1 b1.out.lt)
  replace b2 := hide (b2.out.below hb1 b2.out.lt)
  replace b3 := hide (b3.out.below hb1 b3.out.lt)
  replace b4 := hide (b4.out.below hb1 b4.out.lt)
  have hs1 := hb1.size
  clear hb1 hB0 hT
  by_cases h2 : q = 0
  · subst h2
    have hr1 := hr.out
    rw [if_pos rfl] at hr1
    replace hr1 := hide hr1
    clear hr
    obtain ⟨hte, hre, hch⟩ := ready_ok hq.out
    obtain ⟨hck, hm1, hm6, hal0, halm, htk⟩ := test_ok hte
    obtain ⟨hrl, hrb⟩ := ranges_ok hre
    have hcko := check_ok hck
    have hkn : k = n := by rw [← hkl.out, hrl, hnS.out]
    have hn5 : n ≤ 5 := by have := hcko.2.1; rw [hnS.out] at this; exact this
    have hn1 : 1 ≤ n := by have := hcko.1; rw [hnS.out] at this; exact this
    subst hkn
    have hC := hide (fun (ls : List Int) (hks : ls.length = k) (hal : ∀ j, j < k → 0 ≤ ls[j]?.getD 0 ∧ ls[j]?.getD 0 ≤ 1000) (A : Option Addr) (c : Nat) W (hb : Below w.heap.size w W) (hA : RdInts W A k ls) => show Calls Try.prog 76 #[.agg #[.slice B m cb, .int .i64 al],   .slice A k c] W fun e w' => e = .returned (.int .i64 (atL ts al ls)) ∧ Below W.heap.size W w' by
      have := chanceAt_any B A m cb k c al.toNat ts ls W (by have := hl.out; omega) (by omega) (ht.out.below hb) hA (by unfold maxLen; omega) (fun i hi => by
        have := htk i (by have := hl.out; omega); rwa [hnS.out] at this) hal
      rwa [Int.toNat_of_nonneg hal0] at this)
    have hP := hide (fun W => parts_any B m cb al ch W (by have := hl.out; omega) hch)
    have hL := hide (fun (b3 c3 : Nat) (p : List Nat) W (hb : Below w.heap.size w W) (hx2 : RdInts W (some ⟨b3, 0, none⟩) k (p.map Int.ofNat)) (hx4 : p.length = k) (hx5 : ∀ y ∈ p, y ≤ 8) => show Calls Try.prog 85 #[.agg #[.slice A k c, .slice A2 n2 c2], .slice L k cl, .slice (some ⟨b3, 0, none⟩) k c3] W fun e w' => (∃ y, e = .returned y ∧ IsInts (lowF S rs (p.map Int.ofNat) k) y w') ∧ Below W.heap.size W w' from
      lowestAfter_any _ S L (some ⟨b3, 0, none⟩) k cl c3 rs (p.map Int.ofNat) W (h.out.below hb) hn5 hnS.out (hls.out.below hb) hx2 (fun i hi => ⟨(hrb i (by rw [hrl, hnS.out]; exact hi)).1, by have := hrb i (by rw [hrl, hnS.out]; exact hi); omega⟩) (fun i hi => by
        rw [List.getElem?_map, List.getElem?_eq_getElem (by omega)]
        have := hx5 _ (List.getElem_mem (l := p) (n := i) (by omega))
        simp only [Option.map_some, Option.getD_some]
        exact ⟨Int.natCast_nonneg _, by show ((p[i] : Nat) : Int) ≤ 1000; omega⟩) (fun i hi => by have := sk_ok hck (i := i) (by rw [hnS.out]; exact hi); omega))
    have hlow := hide (fun p : List Nat => show ((lowF S rs (p.map Int.ofNat) k).length = k) ∧ ∀ j, j < k → 0 ≤ (lowF S rs (p.map Int.ofNat) k)[j]?.getD 0 ∧ (lowF S rs (p.map Int.ofNat) k)[j]?.getD 0 ≤ 1000 from
      ⟨by simp [lowF], fun j hj => by
        unfold lowF
        rw [List.getElem?_map, List.getElem?_range hj]
        exact lim_le _⟩)
    have hok := hide (fun p : List Nat => show okPlan S ts al rs ch p = decide (ch * 1000 ^ (m - 1) ≤ atL ts al (lowF S rs (p.map Int.ofNat) k)) by unfold okPlan; rw [hl.out, hkl.out])
    clear hte hre hch hck hm1 hm6 hal0 halm htk hrl hrb hcko
    have x1 : w1.cell? ⟨w.heap.size + 1, 0, none⟩ = some (.slice B m cb) := b1.out.cell 0
    have x1' : w1.cell? ⟨w.heap.size + 1, 1, none⟩ = some (.int .i64 al) := b1.out.cell 1
    go_wp2_with fail
    refine (hP.out _).mono ?_
    rintro e w2 ⟨rfl, hb2⟩
    have hB2 := hide (hB1.out.trans (hb2.mono hB1.out.size))
    replace b0 := hide (b0.out.below hb2 b0.out.lt)
    replace b1 := hide (b1.out.below hb2 b1.out.lt)
    replace b2 := hide (b2.out.below hb2 b2.out.lt)
    replace b3 := hide (b3.out.below hb2 b3.out.lt)
    replace b4 := hide (b4.out.below hb2 b4.out.lt)
    have hs2 := hb2.size
    clear hb2 hP x1 x1' hB1
    obtain ⟨pr, hpr⟩ : ∃ pr, ch * 1000 ^ (m - 1) = pr := ⟨_, rfl⟩
    rw [hpr] at hok ⊢
    replace hpr := hide hpr
    have b5 := hide (show Blk (w2.alloc (.cells #[.int .i64 pr] 3)) w2.heap.size 3 #[.int .i64 pr] from blkNew rfl)
    have hB3 := hide (hB2.out.alloc hB2.out.size (.cells #[.int .i64 pr] 3))
    replace b0 := hide (b0.out.alloc (.cells #[.int .i64 pr] 3))
    replace b1 := hide (b1.out.alloc (.cells #[.int .i64 pr] 3))
    replace b2 := hide (b2.out.alloc (.cells #[.int .i64 pr] 3))
    replace b3 := hide (b3.out.alloc (.cells #[.int .i64 pr] 3))
    replace b4 := hide (b4.out.alloc (.cells #[.int .i64 pr] 3))
    have hz0 : (w2.alloc (.cells #[.int .i64 pr] 3)).cell? ⟨w.heap.size, 0, none⟩ = some (.slice A k c) := b0.out.cell 0
    go_wp2_with fail
    refine (plans_any (k : Int) _).mono ?_
    rintro e w4 ⟨rfl, rfl⟩
    have hB4 := hide (hB3.out.alloc hB3.out.size (.cells #[.int .i64 (k : Int)] 3))
    replace b0 := hide (b0.out.alloc (.cells #[.int .i64 (k : Int)] 3))
    replace b1 := hide (b1.out.alloc (.cells #[.int .i64 (k : Int)] 3))
    replace b2 := hide (b2.out.alloc (.cells #[.int .i64 (k : Int)] 3))
    replace b3 := hide (b3.out.alloc (.cells #[.int .i64 (k : Int)] 3))
    replace b4 := hide (b4.out.alloc (.cells #[.int .i64 (k : Int)] 3))
    replace b5 := hide (b5.out.alloc (.cells #[.int .i64 (k : Int)] 3))
    have b6 := hide (show Blk ((w2.alloc (.cells #[.int .i64 pr] 3)).alloc (.cells #[.int .i64 (k : Int)] 3)) (w2.alloc (.cells #[.int .i64 pr] 3)).heap.size 3 #[.int .i64 (k : Int)] from blkNew rfl)
    rw [World.size_alloc] at b6 ⊢
    have hs4 : ((w2.alloc (.cells #[.int .i64 pr] 3)).alloc (.cells #[.int .i64 (k : Int)] 3)).heap.size = w2.heap.size + 2 := by simp
    clear hz0 hB2 hB3
    generalize ((w2.alloc (.cells #[.int .i64 pr] 3)).alloc (.cells #[.int .i64 (k : Int)] 3)) = wl at *
    go_wp2
    refine (wpIn_wide (n := 9)).1 ?_
    refine range_own (gf := 111) (lb := #[.pointer (some ⟨w2.heap.size + 1, 0, none⟩)]) (encs := fun x : Value × List Nat => #[x.1]) (Px := PlanK k wl.heap.size) rfl enters_plans
      (plans_seq (9 - 1) k (w2.heap.size + 1) wl (b6.out.cell 0) hn1 hn5) (fun x X Y h hk => h.kc hk) (fun _ => rfl)
      (fun pre W => Below wl.heap.size wl W ∧ ∀ y ∈ pre, okPlan S ts al rs ch y.2 = false) (FewX (okPlan S ts al rs ch) w (w.heap.size + 1 + 1 + 1) (w.heap.size + 1 + 1 + 1 + 1))
      (fun s X h => h.1.size) (fun s X Y h hb => ⟨h.1.trans hb, h.2⟩) (fun c => FewX.own _ _ _ _ c _ hB4.out.size) ⟨Below.refl _ _, fun y hy => by cases hy⟩
      (fun x => { tmps := #[.agg #[.slice A k c, .slice A2 n2 c2], .agg #[.slice B m cb, .int .i64 al], .slice L k cl, .int .i64 ch, .pointer (some ⟨w.heap.size, 0, none⟩), .pointer (some ⟨w.heap.size + 1, 0, none⟩), .pointer (some ⟨w.heap.size + 1 + 1, 0, none⟩), undef,
        .pointer (some ⟨w.heap.size + 1 + 1 + 1, 0, none⟩), .pointer (some ⟨w.heap.size + 1 + 1 + 1 + 1, 0, none⟩), .int .i64 0, .pointer (some ⟨w2.heap.size, 0, none⟩), x.1, .agg #[.slice A k c, .slice A2 n2 c2], .agg #[.slice B m cb, .int .i64 al], .slice L k cl, .int .i64 ch,
        .int .i64 0, .int .i64 0, .bool false, undef, .agg #[.slice B m cb, .int .i64 al], .int .i64 ch, .int .i64 pr, .pointer (some ⟨w.heap.size, 0, none⟩), .slice A k c, .int .i64 (k : Int),
        .func (.func 111) #[] #[.pointer (some ⟨w2.heap.size + 1, 0, none⟩)], x.1, undef, undef, undef, undef, undef, undef, undef, undef, undef], defers := [] }) ?assign ?body ?done ?stop
    case assign =>
      intro l x W K hK
      gi_wp2
      exact hK
    case body =>
      rintro l pre ⟨v, p⟩ W ⟨hBW, hpre⟩ hPx
      obtain ⟨b3', c3, hv, hbp, hkc, hrd, hpl, hp8⟩ := id hPx
      simp only at hv hrd hpl hp8 ⊢
      subst hv
      have hBw := hB4.out.trans (hBW.mono hB4.out.size)
      have hlo := hide (fun W' (hb : Below W.heap.size W W') => hL.out b3' c3 p W' (hBw.trans (hb.mono hBw.size)) (hrd.below hb) hpl hp8)
      have hch := hide (fun A4 c4 W' (hb : Below W.heap.size W W') (hA : RdInts W' A4 k (lowF S rs (p.map Int.ofNat) k)) => hC.out _ (hlow.out p).1 (hlow.out p).2 A4 c4 W' (hBw.trans (hb.mono hBw.size)) hA)
      have hlen := hide (hlow.out p).1
      have hokp := hide (hok.out p)
      have hsW := hBW.size
      have y0 := hide (b0.out.below hBW b0.out.lt)
      have y1 := hide (b1.out.below hBW b1.out.lt)
      have y2 := hide (b2.out.below hBW b2.out.lt)
      have y3 := hide (b3.out.below hBW b3.out.lt)
      have y4 := hide (b4.out.below hBW b4.out.lt)
      have y5 := hide (b5.out.below hBW b5.out.lt)
      have l3 : w.heap.size + 1 + 1 + 1 < wl.heap.size := b3.out.lt
      have l4 : w.heap.size + 1 + 1 + 1 + 1 < wl.heap.size := b4.out.lt
      replace hPx := hide hPx
      replace hpre := hide hpre
      replace hBW := hide hBW
      replace hBw := hide hBw
      clear hrd hpl hp8 hL hC hlow hok b0 b1 b2 b3 b4 b5 b6 hr1
      obtain ⟨LF, hLF⟩ : ∃ LF, lowF S rs (p.map Int.ofNat) k = LF := ⟨_, rfl⟩
      rw [hLF] at hlo hch hlen hokp
      obtain ⟨at0, hat⟩ : ∃ z, atL ts al LF = z := ⟨_, rfl⟩
      rw [hat] at hch hokp
      clear hLF hat
      gi_wp2
      refine region_grow_rd [IsV (.agg #[.slice B m cb, .int .i64 al]), IsV (.agg #[.slice A k c, .slice A2 n2 c2]), IsV (.slice L k cl), IsV (.slice (some ⟨b3', 0, none⟩) k c3), IsInts LF, IsV (.int .i64 at0), IsV (.int .i64 pr), IsV (.bool (decide (pr ≤ at0)))] (by kernel_rfl) (by kernel_rfl) (by kernel_rfl) rfl ?_ ?_ ?_
      · simp [AllStb, IsV.stb, IsInts.stb]
      · refine ⟨?_, ?_, ?_, ?_, ?_, ?_, ?_, ?_, trivial⟩
        all_goals
          intro y W4 K Q Cv hC4 hd hV
          have z0 : W4.cell? ⟨w.heap.size, 0, none⟩ = some (.slice A k c) := (y0.out.below hC4 y0.out.lt).cell 0
          have z0' : W4.cell? ⟨w.heap.size, 1, none⟩ = some (.slice A2 n2 c2) := (y0.out.below hC4 y0.out.lt).cell 1
          have z1 : W4.cell? ⟨w.heap.size + 1, 0, none⟩ = some (.slice B m cb) := (y1.out.below hC4 y1.out.lt).cell 0
          have z1' : W4.cell? ⟨w.heap.size + 1, 1, none⟩ = some (.int .i64 al) := (y1.out.below hC4 y1.out.lt).cell 1
          have z2 : W4.cell? ⟨w.heap.size + 1 + 1, 0, none⟩ = some (.slice L k cl) := (y2.out.below hC4 y2.out.lt).cell 0
          have z5 : W4.cell? ⟨w2.heap.size, 0, none⟩ = some (.int .i64 pr) := (y5.out.below hC4 y5.out.lt).cell 0
          simp [deps, VL, IsV, Region.binds] at hd
        · simp only [putAll, Act.put]; go_simp; intro hK; exact hK _ _ (hV _ _ hC4 (Below.refl _ _) rfl)
        · simp only [putAll, Act.put]; go_simp; intro hK; exact hK _ _ (hV _ _ hC4 (Below.refl _ _) rfl)
        · simp only [putAll, Act.put]; go_simp; intro hK; exact hK _ _ (hV _ _ hC4 (Below.refl _ _) rfl)
        · simp only [putAll, Act.put]; go_simp; intro hK; exact hK _ _ (hV _ _ hC4 (Below.refl _ _) rfl)
        · simp only [putAll, Act.put]; go_simp; intro hK; refine (hlo.out _ hC4).mono ?_; rintro e w7 ⟨⟨u, rfl, hu⟩, hb7⟩; exact hK _ _ (hV _ _ (hC4.trans (hb7.mono hC4.size)) hb7 hu)
        · obtain ⟨A4, c4, hy4, hr4, -⟩ := hd.2
          rw [hlen.out] at hy4 hr4
          simp only [putAll, Act.put]; go_simp; intro hK; refine (hch.out A4 c4 _ hC4 hr4).mono ?_; rintro e w7 ⟨rfl, hb7⟩; exact hK _ _ (hV _ _ (hC4.trans (hb7.mono hC4.size)) hb7 rfl)
        · simp only [putAll, Act.put]; go_simp; intro hK; exact hK _ _ (hV _ _ hC4 (Below.refl _ _) rfl)
        · simp only [putAll, Act.put]; go_simp; intro hK; exact hK _ _ (hV _ _ hC4 (Below.refl _ _) rfl)
      intro y W4 hC4 hd
      simp [EndsL, IsV] at hd
      obtain ⟨d0, d1, d2, d3, d4, d5, d6, d7⟩ := hd
      simp only [putAll, Act.put]
      rw [d0, d1, d2, d3, d5, d6, d7]
      clear d0 d1 d2 d3 d5 d6 d7
      obtain ⟨A4, c4, e4, -⟩ := d4
      rw [e4, hlen.out]
      clear e4
      simp only [List.setIfInBounds_toArray, List.set_cons_succ, List.set_cons_zero]
      have hko := hide ((KeepsOthers.of_grownBy (row := none) ⟨hC4.os, hC4.tape, hC4.output, hC4.size, fun k hk _ => hC4.block k hk⟩ (by simp)).from wl.heap.size)
      have hkc := hide (KC.below hC4)
      have q3 := hide (y3.out.below hC4 y3.out.lt)
      have q4 := hide (y4.out.below hC4 y4.out.lt)
      have hP4 := hide (hPx.out.kc hkc.out)
      have hB4' := hide (hBW.out.trans (hC4.mono hBW.out.size))
      have hBw4 := hide (hBw.out.trans (hC4.mono hBw.out.size))
      clear y0 y1 y2 y3 y4 y5 hC4 hlo hch hlen hPx
      generalize hqq : okPlan S ts al rs ch p = qq at *
      rw [← hokp.out]
      replace hokp := hide hokp
      cases qq with
      | true =>
        have x3 : W4.cell? ⟨w.heap.size + 1 + 1 + 1, 0, none⟩ = some (.slice none 0 0) := q3.out.cell 0
        have f3 : W4.frozen? ⟨w.heap.size + 1 + 1 + 1, 0, none⟩ = false := q3.out.frozen 0
        have x4 : W4.cell? ⟨w.heap.size + 1 + 1 + 1 + 1, 0, none⟩ = some (.int .i64 0) := q4.out.cell 0
        have f4 : W4.frozen? ⟨w.heap.size + 1 + 1 + 1 + 1, 0, none⟩ = false := q4.out.frozen 0
        gi_wp2
        have e3 : Blk ((W4.setCell ⟨w.heap.size + 1 + 1 + 1, 0, none⟩ (.slice (some ⟨b3', 0, none⟩) k c3)).setCell ⟨w.heap.size + 1 + 1 + 1 + 1, 0, none⟩ (.int .i64 0)) (w.heap.size + 1 + 1 + 1) 49 #[.slice (some ⟨b3', 0, none⟩) k c3] := by
          have := (q3.out.set_ 0 (.slice (some ⟨b3', 0, none⟩) k c3)).far (p := ⟨w.heap.size + 1 + 1 + 1 + 1, 0, none⟩) (by simp) (.int .i64 0)
          simpa using this
        have e4 : Blk ((W4.setCell ⟨w.heap.size + 1 + 1 + 1, 0, none⟩ (.slice (some ⟨b3', 0, none⟩) k c3)).setCell ⟨w.heap.size + 1 + 1 + 1 + 1, 0, none⟩ (.int .i64 0)) (w.heap.size + 1 + 1 + 1 + 1) 28 #[.int .i64 0] := by
          have := (q4.out.far (p := ⟨w.heap.size + 1 + 1 + 1, 0, none⟩) (by simp) (.slice (some ⟨b3', 0, none⟩) k c3)).set_ 0 (.int .i64 0)
          simpa using this
        refine ⟨(hko.out.trans ((KeepsOthers.setCell _ _ _).from _)).trans ((KeepsOthers.setCell _ _ _).from _), (hBw4.out.setCell (by simp +arith) _).setCell (by simp +arith) _, rfl, pre, (.slice (some ⟨b3', 0, none⟩) k c3, p), rfl, hpre.out, hqq, ?_, e3, e4⟩
        exact ((hP4.out.far (p := ⟨w.heap.size + 1 + 1 + 1, 0, none⟩) l3 _).far (p := ⟨w.heap.size + 1 + 1 + 1 + 1, 0, none⟩) l4 _).isPlan
      | false =>
        gi_wp2
        refine ⟨hko.out, hkc.out, hB4'.out, fun y hy => ?_⟩
        rcases List.mem_append.1 hy with hy | hy
        · exact hpre.out y hy
        · simp at hy; subst hy; exact hqq
    case done =>
      rintro xs W hS ⟨hBW, hpre⟩ hD
      have hf := few_none hS hpre
      have hr2 := hr1.out
      rw [hf] at hr2
      simp only [Option.isSome_none, Bool.false_eq_true, if_false] at hr2
      subst hr2
      have x3 : W.cell? ⟨w.heap.size + 1 + 1 + 1, 0, none⟩ = some (.slice none 0 0) := (b3.out.below hBW b3.out.lt).cell 0
      have f3 := (b3.out.below hBW b3.out.lt).frozen 0
      have x4 : W.cell? ⟨w.heap.size + 1 + 1 + 1 + 1, 0, none⟩ = some (.int .i64 0) := (b4.out.below hBW b4.out.lt).cell 0
      have f4 := (b4.out.below hBW b4.out.lt).frozen 0
      have hBw := hide (hB4.out.trans (hBW.mono hB4.out.size))
      have n3 := hide (b3.out.below hBW b3.out.lt)
      have n4 := hide (b4.out.below hBW b4.out.lt)
      have l3 : w.heap.size + 1 + 1 + 1 < wl.heap.size := b3.out.lt
      have l4 : w.heap.size + 1 + 1 + 1 + 1 < wl.heap.size := b4.out.lt
      clear hpre hr1 hL hC hlow hok b0 b1 b2 b3 b4 b5 b6
      simp only [Exit.inBlock, Exit.then]
      go_wp2
      have hD2 : ((W.setCell ⟨w.heap.size + 1 + 1 + 1, 0, none⟩ (.slice none 0 0)).setCell ⟨w.heap.size + 1 + 1 + 1 + 1, 0, none⟩ (.int .i64 9)).heap[wl.heap.size]? = some (.deferred (some [])) :=
        ((Below.heap_setCell _ _ _ _ (by show wl.heap.size ≠ w.heap.size + 1 + 1 + 1 + 1; omega)).trans (Below.heap_setCell _ _ _ _ (by show wl.heap.size ≠ w.heap.size + 1 + 1 + 1; omega))).trans hD
      have hsW := hBW.size
      have m3 : Blk ((W.setCell ⟨w.heap.size + 1 + 1 + 1, 0, none⟩ (.slice none 0 0)).setCell ⟨w.heap.size + 1 + 1 + 1 + 1, 0, none⟩ (.int .i64 9)) (w.heap.size + 1 + 1 + 1) 49 #[.slice none 0 0] := by
        have := (n3.out.set_ 0 (.slice none 0 0)).far (p := ⟨w.heap.size + 1 + 1 + 1 + 1, 0, none⟩) (by simp) (.int .i64 9)
        simpa using this
      have m4 : Blk ((W.setCell ⟨w.heap.size + 1 + 1 + 1, 0, none⟩ (.slice none 0 0)).setCell ⟨w.heap.size + 1 + 1 + 1 + 1, 0, none⟩ (.int .i64 9)) (w.heap.size + 1 + 1 + 1 + 1) 28 #[.int .i64 9] := by
        have := (n4.out.far (p := ⟨w.heap.size + 1 + 1 + 1, 0, none⟩) (by simp) (.slice none 0 0)).set_ 0 (.int .i64 9)
        simpa using this
      refine ⟨by simp, .inl ⟨_, _, rfl, run_takeDeferred hD2, ?_⟩⟩
      have hkp := KC.put (.deferred none) hD2 rfl
      refine few_end _ _ _ (w.heap.size + 1 + 1 + 1) (w.heap.size + 1 + 1 + 1 + 1) (.slice none 0 0) (.int .i64 9) rfl rfl ((hkp.blk m3).cell 0) ((hkp.blk m4).cell 0) ⟨⟨_, rfl, isPlan_nil _⟩, ?_⟩
      have hb9 := (hBw.out.setCell (p := ⟨w.heap.size + 1 + 1 + 1, 0, none⟩) (by simp +arith) (.slice none 0 0)).setCell (p := ⟨w.heap.size + 1 + 1 + 1 + 1, 0, none⟩) (by simp +arith) (.int .i64 9)
      exact hb9.trans (below_putObj _ _ hb9.size hB4.out.size)
    case stop =>
      rintro c pre W hS ⟨hBw, rfl, p0, x, hp, h0, hx, hpl, hb3, hb4⟩ hD
      have hf := few_find hS hp h0 hx
      have hr2 := hr1.out
      rw [hf] at hr2
      simp only [Option.isSome_some, if_true] at hr2
      subst hr2
      clear hr1 hL hC hlow hok b0 b1 b2 b3 b4 b5 b6
      gi_wp2
      refine ⟨by simp, .inl ⟨_, _, rfl, run_takeDeferred hD, ?_⟩⟩
      have hkp := KC.put (.deferred none) hD rfl
      refine few_end _ _ _ (w.heap.size + 1 + 1 + 1) (w.heap.size + 1 + 1 + 1 + 1) x.1 (.int .i64 0) rfl rfl ((hkp.blk hb3).cell 0) ((hkp.blk hb4).cell 0) ⟨⟨_, rfl, hpl.kc hkp⟩, ?_⟩
      exact hBw.trans (below_putObj _ _ hBw.size hB4.out.size)
  · have hr1 := hr.out
    rw [if_neg h2] at hr1
    subst hr1
    have hb1 : (q == 0) = false := by rw [beq_eq_false_iff_ne]; exact h2
    have hb2 : (q != 0) = true := by rw [bne_iff_ne]; exact h2
    replace h2 := hide h2
    have x3 : w1.cell? ⟨w.heap.size + 1 + 1 + 1, 0, none⟩ = some (.slice none 0 0) := b3.out.cell 0
    have f3 := b3.out.frozen 0
    have x4 : w1.cell? ⟨w.heap.size + 1 + 1 + 1 + 1, 0, none⟩ = some (.int .i64 0) := b4.out.cell 0
    have f4 := b4.out.frozen 0
    go_wp2
    refine few_end _ _ _ (w.heap.size + 1 + 1 + 1) (w.heap.size + 1 + 1 + 1 + 1) (.slice none 0 0) (.int .i64 q) rfl rfl (by go_simp) (by go_simp) ⟨⟨_, rfl, isPlan_nil _⟩, ?_⟩
    exact (hB1.out.setCell (by simp +arith) _).setCell (by simp +arith) _
end Go.Proofs.Ytkhijdbigpaagaa
