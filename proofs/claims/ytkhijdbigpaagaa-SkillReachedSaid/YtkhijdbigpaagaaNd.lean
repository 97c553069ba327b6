import Derived.Test.YtkhijdbigpaagaaNc
/-
  The closures that tell the errors of skills and of instructors.
-/
namespace Go.Proofs.Ytkhijdbigpaagaa
open Go.RowKit RG

/-- The error of a skill of skills ss, of an instructor of instructors is. -/
def skErr (ss : List Skl) (i : Nat) (s : Skl) : Int :=
  if nmErr (fun j => (ss[j]?.getD default).name) i = 0 then spanE 0 1000 [(s.gl, s.gh), (s.fl, s.fh)] else nmErr (fun j => (ss[j]?.getD default).name) i
def inErr (is : List Ins) (i : Nat) (s : Ins) : Int :=
  if nmErr (fun j => (is[j]?.getD default).name) i = 0 then spanE (-300) 300 [(s.lo, s.hi)] else nmErr (fun j => (is[j]?.getD default).name) i

theorem rdTwo {w : World} {g : Nat} {t : TypeId} {a b c d : Int} (h : Blk w g t #[.int .i64 a, .int .i64 b, .int .i64 c, .int .i64 d]) : RdRow w (some ⟨g, 0, none⟩) 2 2 ([(a, b), (c, d)].map tkCells) := by
  refine ⟨rfl, by simp [tkCells], fun _ => ⟨g, 0, rfl, h.lt, fun j i v hv => ?_⟩⟩
  match j, i, hv with
  | 0, 0, hv => have := h.cell 0; simp [tkCells] at hv this ⊢; rw [this, hv]
  | 0, 1, hv => have := h.cell 1; simp [tkCells] at hv this ⊢; rw [this, hv]
  | 1, 0, hv => have := h.cell 2; simp [tkCells] at hv this ⊢; rw [this, hv]
  | 1, 1, hv => have := h.cell 3; simp [tkCells] at hv this ⊢; rw [this, hv]
  | 0, i + 2, hv => simp [tkCells] at hv
  | 1, i + 2, hv => simp [tkCells] at hv
  | j + 2, i, hv => simp [tkCells] at hv
theorem rdOne {w : World} {g : Nat} {t : TypeId} {a b : Int} (h : Blk w g t #[.int .i64 a, .int .i64 b]) : RdRow w (some ⟨g, 0, none⟩) 1 2 ([(a, b)].map tkCells) := by
  refine ⟨rfl, by simp [tkCells], fun _ => ⟨g, 0, rfl, h.lt, fun j i v hv => ?_⟩⟩
  match j, i, hv with
  | 0, 0, hv => have := h.cell 0; simp [tkCells] at hv this ⊢; rw [this, hv]
  | 0, 1, hv => have := h.cell 1; simp [tkCells] at hv this ⊢; rw [this, hv]
  | 0, i + 2, hv => simp [tkCells] at hv
  | j + 1, i, hv => simp [tkCells] at hv

set_option maxRecDepth 100000 in
set_option maxHeartbeats 2000000 in
theorem skErr_any (A : Option Addr) (n c : Nat) (ss : List Skl) (i : Nat) (s : Skl) (ps : Nat) (w : World) (h : RdRow w A n 5 (ss.map skCells)) (hm : n ≤ maxLen) (hnm : ∀ s ∈ ss, s.name.size ≤ maxLen) (hcap : n ≤ c) (hi : i < n)
    (hs : w.cell? ⟨ps, 0, none⟩ = some (.slice A n c)) :
    Calls Try.prog 88 #[.int .i64 i, .agg (skCells s).toArray, .pointer (some ⟨ps, 0, none⟩)] w fun e w' => e = .returned (.int .i64 (skErr ss i s)) ∧ Below w.heap.size w w' := by
  have hps := lt_of_cell hs
  have hps' : ps ≠ w.heap.size := Nat.ne_of_lt hps
  have hN := hide (fun W (hb : Below w.heap.size w W) => nmErrSk A n c ss i W (h.below hb) hm hnm hcap hi)
  unfold skErr
  generalize nmErr (fun j => (ss[j]?.getD default).name) i = r at *
  clear h hnm hm
  unfold skCells at *
  obtain ⟨name, gl, gh, fl, fh⟩ := s
  have hB0 := hide (show Below w.heap.size w (w.alloc (.cells #[.string name, .int .i64 gl, .int .i64 gh, .int .i64 fl, .int .i64 fh] 76)) from (Below.refl _ _).alloc (Nat.le_refl _) _)
  have k0 := hide (show Blk (w.alloc (.cells #[.string name, .int .i64 gl, .int .i64 gh, .int .i64 fl, .int .i64 fh] 76)) w.heap.size 76 #[.string name, .int .i64 gl, .int .i64 gh, .int .i64 fl, .int .i64 fh] from blkNew rfl)
  simp only
  have hS0 := hide (fun W g (hk : Blk W g 32 #[.int .i64 gl, .int .i64 gh, .int .i64 fl, .int .i64 fh]) => spanError_any 0 1000 (some ⟨g, 0, none⟩) 2 2 [(gl, gh), (fl, fh)] W (rdTwo hk) (by decide))
  generalize spanE 0 1000 [(gl, gh), (fl, fh)] = q at *
  obtain ⟨z, hz⟩ : ∃ z, (if r = 0 then q else r) = z := ⟨_, rfl⟩
  rw [hz]
  replace hz := hide hz
  go_enter Try.func88, Try.ntmps88
  go_wp2_with fail
  refine (hN.out _ hB0.out).mono ?_
  rintro e w1 ⟨rfl, hb1⟩
  have hz1 : w.heap.size < w1.heap.size := Nat.lt_of_lt_of_le (by simp) hb1.size
  have hB1 := hide (hB0.out.trans (hb1.mono (by simp)))
  have k1 := k0.out.below (hb1.mono (by simp)) k0.out.lt
  have c1 : w1.cell? ⟨w.heap.size, 1, none⟩ = some (.int .i64 gl) := k1.cell 1
  have c2 : w1.cell? ⟨w.heap.size, 2, none⟩ = some (.int .i64 gh) := k1.cell 2
  have c3 : w1.cell? ⟨w.heap.size, 3, none⟩ = some (.int .i64 fl) := k1.cell 3
  have c4 : w1.cell? ⟨w.heap.size, 4, none⟩ = some (.int .i64 fh) := k1.cell 4
  clear hb1 hB0 k0 k1 hN hs
  have hS := hide (hS0.out (w1.alloc (.cells #[.int .i64 gl, .int .i64 gh, .int .i64 fl, .int .i64 fh] 32)) w1.heap.size (blkNew rfl))
  clear hS0
  go_wp2_with fail
  refine hS.out.mono ?_
  rintro e w2 ⟨rfl, hb2⟩
  have hB2 := hide (hB1.out.trans ((((Below.refl w1.heap.size w1).alloc (Nat.le_refl _) _).trans (hb2.mono (by simp))).mono (by omega)))
  clear hb2 hS c1 c2 c3 c4 hB1
  go_wp2_with fail
  have hk := blkNew (w := w2) (t := 28) (cs := #[.int .i64 r, .int .i64 q]) rfl
  refine (Or_any w2.heap.size r q _ (hk.cell 0) (hk.cell 1)).mono ?_
  rintro e w3 ⟨rfl, rfl⟩
  have hB3 := hide (hB2.out.alloc hB2.out.size (.cells #[.int .i64 r, .int .i64 q] 28))
  clear hk hB2
  rw [hz.out]
  go_wp2
  go_ret
  exact ⟨rfl, hB3.out⟩

set_option maxRecDepth 100000 in
set_option maxHeartbeats 2000000 in
theorem inErr_any (A : Option Addr) (n c : Nat) (ss : List Ins) (i : Nat) (s : Ins) (ps : Nat) (w : World) (h : RdRow w A n 3 (ss.map inCells)) (hm : n ≤ maxLen) (hnm : ∀ s ∈ ss, s.name.size ≤ maxLen) (hcap : n ≤ c) (hi : i < n)
    (hs : w.cell? ⟨ps, 1, none⟩ = some (.slice A n c)) :
    Calls Try.prog 93 #[.int .i64 i, .agg (inCells s).toArray, .pointer (some ⟨ps, 0, none⟩)] w fun e w' => e = .returned (.int .i64 (inErr ss i s)) ∧ Below w.heap.size w w' := by
  have hps := lt_of_cell hs
  have hps' : ps ≠ w.heap.size := Nat.ne_of_lt hps
  have hN := hide (fun W (hb : Below w.heap.size w W) => nmErrIn A n c ss i W (h.below hb) hm hnm hcap hi)
  unfold inErr
  generalize nmErr (fun j => (ss[j]?.getD default).name) i = r at *
  clear h hnm hm
  unfold inCells at *
  obtain ⟨name, gl, gh⟩ := s
  have hB0 := hide (show Below w.heap.size w (w.alloc (.cells #[.string name, .int .i64 gl, .int .i64 gh] 81)) from (Below.refl _ _).alloc (Nat.le_refl _) _)
  have k0 := hide (show Blk (w.alloc (.cells #[.string name, .int .i64 gl, .int .i64 gh] 81)) w.heap.size 81 #[.string name, .int .i64 gl, .int .i64 gh] from blkNew rfl)
  simp only
  have hS0 := hide (fun W g (hk : Blk W g 32 #[.int .i64 gl, .int .i64 gh]) => spanError_any (-300) 300 (some ⟨g, 0, none⟩) 1 1 [(gl, gh)] W (rdOne hk) (by decide))
  generalize spanE (-300) 300 [(gl, gh)] = q at *
  obtain ⟨z, hz⟩ : ∃ z, (if r = 0 then q else r) = z := ⟨_, rfl⟩
  rw [hz]
  replace hz := hide hz
  go_enter Try.func93, Try.ntmps93
  go_wp2_with fail
  refine (hN.out _ hB0.out).mono ?_
  rintro e w1 ⟨rfl, hb1⟩
  have hz1 : w.heap.size < w1.heap.size := Nat.lt_of_lt_of_le (by simp) hb1.size
  have hB1 := hide (hB0.out.trans (hb1.mono (by simp)))
  have k1 := k0.out.below (hb1.mono (by simp)) k0.out.lt
  have c1 : w1.cell? ⟨w.heap.size, 1, none⟩ = some (.int .i64 gl) := k1.cell 1
  have c2 : w1.cell? ⟨w.heap.size, 2, none⟩ = some (.int .i64 gh) := k1.cell 2
  clear hb1 hB0 k0 k1 hN hs
  have hS := hide (hS0.out (w1.alloc (.cells #[.int .i64 gl, .int .i64 gh] 32)) w1.heap.size (blkNew rfl))
  clear hS0
  go_wp2_with fail
  refine hS.out.mono ?_
  rintro e w2 ⟨rfl, hb2⟩
  have hB2 := hide (hB1.out.trans ((((Below.refl w1.heap.size w1).alloc (Nat.le_refl _) _).trans (hb2.mono (by simp))).mono (by omega)))
  clear hb2 hS c1 c2 hB1
  go_wp2_with fail
  have hk := blkNew (w := w2) (t := 28) (cs := #[.int .i64 r, .int .i64 q]) rfl
  refine (Or_any w2.heap.size r q _ (hk.cell 0) (hk.cell 1)).mono ?_
  rintro e w3 ⟨rfl, rfl⟩
  have hB3 := hide (hB2.out.alloc hB2.out.size (.cells #[.int .i64 r, .int .i64 q] 28))
  clear hk hB2
  rw [hz.out]
  go_wp2
  go_ret
  exact ⟨rfl, hB3.out⟩
end Go.Proofs.Ytkhijdbigpaagaa

/-
  Check of package skill.
-/
namespace Go.Proofs.Ytkhijdbigpaagaa
open Go.RowKit RG

structure Sch where
  sks : List Skl
  ins : List Ins
/-- What Check answers. -/
def checkS (S : Sch) : Int × Int × Int :=
  if ¬ (1 ≤ S.sks.length ∧ S.sks.length ≤ 5) ∨ 6 < S.ins.length then (1, 0, 3)
  else if (firstErr (fun i => skErr S.sks i (S.sks[i]?.getD default)) 0 S.sks.length).2 ≠ 0 then (2, firstErr (fun i => skErr S.sks i (S.sks[i]?.getD default)) 0 S.sks.length)
  else if (firstErr (fun i => inErr S.ins i (S.ins[i]?.getD default)) 0 S.ins.length).2 ≠ 0 then (3, firstErr (fun i => inErr S.ins i (S.ins[i]?.getD default)) 0 S.ins.length)
  else (0, 0, 0)
/-- The value v is the school S. -/
def RdSch (w : World) (v : Value) (S : Sch) : Prop := ∃ A c A2 c2, v = .agg #[.slice A S.sks.length c, .slice A2 S.ins.length c2] ∧
  RdRow w A S.sks.length 5 (S.sks.map skCells) ∧ S.sks.length ≤ maxLen ∧ S.sks.length ≤ c ∧ (∀ s ∈ S.sks, s.name.size ≤ maxLen) ∧
  RdRow w A2 S.ins.length 3 (S.ins.map inCells) ∧ S.ins.length ≤ maxLen ∧ S.ins.length ≤ c2 ∧ (∀ s ∈ S.ins, s.name.size ≤ maxLen)
theorem RdSch.below {w w' : World} {v : Value} {S : Sch} (h : RdSch w v S) (hb : Below w.heap.size w w') : RdSch w' v S := by
  obtain ⟨A, c, A2, c2, h1, h2, h3, h4, h5, h6, h7⟩ := h
  exact ⟨A, c, A2, c2, h1, h2.below hb, h3, h4, h5, h6.below hb, h7⟩
def Ret3 (r : Int × Int × Int) (e : Ending) : Prop := e = .returned (.tuple #[.int .i64 r.1, .int .i64 r.2.1, .int .i64 r.2.2])

theorem enters_sk : ∀ args w, (callFunc 88 args).run Try.prog w = .ok (.enter 88 args) w := fun _ _ => by kernel_rfl
theorem enters_in : ∀ args w, (callFunc 93 args).run Try.prog w = .ok (.enter 93 args) w := fun _ _ => by kernel_rfl
theorem isSk (ss : List Skl) : ∀ x ∈ ss.map skCells, IsSk x := by
  intro x hx
  obtain ⟨s, _, rfl⟩ := List.mem_map.1 hx
  exact ⟨_, _, _, _, _, rfl⟩
theorem isIn (ss : List Ins) : ∀ x ∈ ss.map inCells, IsIn x := by
  intro x hx
  obtain ⟨s, _, rfl⟩ := List.mem_map.1 hx
  exact ⟨_, _, _, rfl⟩
theorem firstSk (A : Option Addr) (n c : Nat) (ss : List Skl) (ps : Nat) (w : World) (h : RdRow w A n 5 (ss.map skCells)) (hm : n ≤ maxLen) (hnm : ∀ s ∈ ss, s.name.size ≤ maxLen) (hcap : n ≤ c) (h1 : w.cell? ⟨ps, 0, none⟩ = some (.slice A n c)) :
    Calls Try.prog 52 #[.slice A n c, .func (.func 88) #[] #[.pointer (some ⟨ps, 0, none⟩)]] w fun e w' =>
      e = .returned (.tuple #[.int .i64 (firstErr (fun i => skErr ss i (ss[i]?.getD default)) 0 n).1, .int .i64 (firstErr (fun i => skErr ss i (ss[i]?.getD default)) 0 n).2]) ∧ Below w.heap.size w w' :=
  firstErrorSk 88 #[] #[.pointer (some ⟨ps, 0, none⟩)] enters_sk _ A n c _ w h (isSk ss) hm fun j W hj hb => by
    have hl : ss.length = n := by have := h.1; simpa using this
    rw [map_at skCells ss j (by omega)]
    have := skErr_any A n c ss j (ss[j]?.getD default) ps W (h.below hb) hm hnm hcap hj ((cellB hb (lt_of_cell h1)).trans h1)
    simpa using this
theorem firstIn (A : Option Addr) (n c : Nat) (ss : List Ins) (ps : Nat) (w : World) (h : RdRow w A n 3 (ss.map inCells)) (hm : n ≤ maxLen) (hnm : ∀ s ∈ ss, s.name.size ≤ maxLen) (hcap : n ≤ c) (h1 : w.cell? ⟨ps, 1, none⟩ = some (.slice A n c)) :
    Calls Try.prog 54 #[.slice A n c, .func (.func 93) #[] #[.pointer (some ⟨ps, 0, none⟩)]] w fun e w' =>
      e = .returned (.tuple #[.int .i64 (firstErr (fun i => inErr ss i (ss[i]?.getD default)) 0 n).1, .int .i64 (firstErr (fun i => inErr ss i (ss[i]?.getD default)) 0 n).2]) ∧ Below w.heap.size w w' :=
  firstErrorIn 93 #[] #[.pointer (some ⟨ps, 0, none⟩)] enters_in _ A n c _ w h (isIn ss) hm fun j W hj hb => by
    have hl : ss.length = n := by have := h.1; simpa using this
    rw [map_at inCells ss j (by omega)]
    have := inErr_any A n c ss j (ss[j]?.getD default) ps W (h.below hb) hm hnm hcap hj ((cellB hb (lt_of_cell h1)).trans h1)
    simpa using this

/-- What skillErrors and instructorErrors return. -/
def SchClos (f : Nat) (x0 x1 : Value) : Value → World → Prop := fun v w => ∃ p, v = .func (.func f) #[] #[.pointer (some ⟨p, 0, none⟩)] ∧ w.cell? ⟨p, 0, none⟩ = some x0 ∧ w.cell? ⟨p, 1, none⟩ = some x1
theorem SchClos.stb (f : Nat) (x0 x1 : Value) : Stb (SchClos f x0 x1) := fun _ _ _ hb ⟨p, e, h0, h1⟩ => ⟨p, e, (cellB hb (lt_of_cell h0)).trans h0, (cellB hb (lt_of_cell h1)).trans h1⟩
theorem skillErrors_any (A A2 : Option Addr) (n c n2 c2 : Nat) (w : World) :
    Calls Try.prog 53 #[.agg #[.slice A n c, .slice A2 n2 c2]] w fun e w' => (∃ v, e = .returned v ∧ SchClos 88 (.slice A n c) (.slice A2 n2 c2) v w') ∧ Below w.heap.size w w' := by
  go_enter Try.func53, Try.ntmps53
  go_wp2
  go_ret
  exact ⟨⟨_, rfl, w.heap.size, rfl, by go_simp, by go_simp⟩, (Below.refl _ _).alloc (Nat.le_refl _) _⟩
theorem instructorErrors_any (A A2 : Option Addr) (n c n2 c2 : Nat) (w : World) :
    Calls Try.prog 55 #[.agg #[.slice A n c, .slice A2 n2 c2]] w fun e w' => (∃ v, e = .returned v ∧ SchClos 93 (.slice A n c) (.slice A2 n2 c2) v w') ∧ Below w.heap.size w w' := by
  go_enter Try.func55, Try.ntmps55
  go_wp2
  go_ret
  exact ⟨⟨_, rfl, w.heap.size, rfl, by go_simp, by go_simp⟩, (Below.refl _ _).alloc (Nat.le_refl _) _⟩
end Go.Proofs.Ytkhijdbigpaagaa

/-
  Check of package skill: the walk.
-/
namespace Go.Proofs.Ytkhijdbigpaagaa
open Go.RowKit RG

set_option maxHeartbeats 1000000 in
/-- Too many or too few skills, or too many instructors. -/
theorem CheckS_long (A A2 : Option Addr) (n c n2 c2 : Nat) (w : World) (h : ¬ (1 ≤ n ∧ n ≤ 5) ∨ 6 < n2) (hn : n ≤ maxLen) (hn2 : n2 ≤ maxLen) :
    Calls Try.prog 18 #[.agg #[.slice A n c, .slice A2 n2 c2]] w fun e w' => e = .returned (.tuple #[.int .i64 1, .int .i64 0, .int .i64 3]) ∧ Below w.heap.size w w' := by
  unfold maxLen at hn hn2
  by_cases h1 : 1 ≤ (n : Int) ∧ (n : Int) ≤ 5
  · have h2 : (6 : Int) < n2 := by omega
    go_enter Try.func18, Try.ntmps18
    go_wp2_with fail
    refine (within_one_yes _ _ (n : Int) _ _ _ _ (by go_simp) h1).mono ?_
    rintro e w1 ⟨rfl, rfl⟩
    go_wp2
    go_ret3
    exact ⟨rfl, ((Below.refl _ _).alloc (by simp) _).alloc (by simp) _⟩
  · go_enter Try.func18, Try.ntmps18
    go_wp2_with fail
    refine (within_one_no _ _ (n : Int) _ _ _ _ (by go_simp) h1).mono ?_
    rintro e w1 ⟨rfl, rfl⟩
    go_wp2
    go_ret3
    exact ⟨rfl, ((Below.refl _ _).alloc (by simp) _).alloc (by simp) _⟩

set_option maxRecDepth 100000 in
set_option maxHeartbeats 4000000 in
theorem CheckS_in (A A2 : Option Addr) (n c n2 c2 : Nat) (S : Sch) (w : World) (hn1 : 1 ≤ n ∧ n ≤ 5) (hn2 : n2 ≤ 6) (en : n = S.sks.length) (en2 : n2 = S.ins.length)
    (h : RdRow w A n 5 (S.sks.map skCells)) (hnm : ∀ s ∈ S.sks, s.name.size ≤ maxLen) (hcap : n ≤ c) (h' : RdRow w A2 n2 3 (S.ins.map inCells)) (hnm' : ∀ s ∈ S.ins, s.name.size ≤ maxLen) (hcap2 : n2 ≤ c2) :
    Calls Try.prog 18 #[.agg #[.slice A n c, .slice A2 n2 c2]] w fun e w' => Ret3 (checkS S) e ∧ Below w.heap.size w w' := by
  have hF : checkS S = if (firstErr (fun i => skErr S.sks i (S.sks[i]?.getD default)) 0 n).2 ≠ 0 then (2, firstErr (fun i => skErr S.sks i (S.sks[i]?.getD default)) 0 n)
      else if (firstErr (fun i => inErr S.ins i (S.ins[i]?.getD default)) 0 n2).2 ≠ 0 then (3, firstErr (fun i => inErr S.ins i (S.ins[i]?.getD default)) 0 n2) else (0, 0, 0) := by
    unfold checkS; rw [← en, ← en2, if_neg (by omega)]
  replace hF := hide hF
  have hfs := hide (fun ps w' (hb : Below w.heap.size w w') => firstSk A n c S.sks ps w' (h.below hb) (by unfold maxLen; omega) hnm hcap)
  have hfi := hide (fun ps w' (hb : Below w.heap.size w w') => firstIn A2 n2 c2 S.ins ps w' (h'.below hb) (by unfold maxLen; omega) hnm' hcap2)
  generalize firstErr (fun i => skErr S.sks i (S.sks[i]?.getD default)) 0 n = r1 at *
  generalize firstErr (fun i => inErr S.ins i (S.ins[i]?.getD default)) 0 n2 = r2 at *
  obtain ⟨a1, e1⟩ := r1
  obtain ⟨a2, e2⟩ := r2
  simp only at hF hfs hfi
  clear h h' hnm hnm'
  replace en := hide en
  replace en2 := hide en2
  have h8 : ¬ (6 : Int) < n2 := by omega
  have h12 : 1 ≤ (n : Int) ∧ (n : Int) ≤ 5 := by omega
  go_enter Try.func18, Try.ntmps18
  go_wp2_with fail
  refine (within_one_yes _ _ (n : Int) _ _ _ _ (by go_simp) h12).mono ?_
  rintro e w1 ⟨rfl, rfl⟩
  go_wp2
  have hB0 : Below w.heap.size w ((w.alloc (.cells #[.slice A n c, .slice A2 n2 c2] 25)).alloc (.cells #[.int .i64 (n : Int)] 3)) := ((Below.refl _ _).alloc (by simp) _).alloc (by simp) _
  refine region_grow [IsV (.pointer (some ⟨w.heap.size, 0, none⟩)), IsV (.slice A n c), IsV (.agg #[.slice A n c, .slice A2 n2 c2]), SchClos 88 (.slice A n c) (.slice A2 n2 c2), IsV (.tuple #[.int .i64 a1, .int .i64 e1]), IsV (.tuple #[.int .i64 a1, .int .i64 e1]), IsV (.int .i64 a1), IsV (.int .i64 e1), IsV (.int .i64 a1), IsV (.int .i64 e1)] (by kernel_rfl) (by kernel_rfl) rfl ?_ ?_ ?_
  · simp [AllStb, IsV.stb, SchClos.stb]
  · refine ⟨?_, ?_, ?_, ?_, ?_, ?_, ?_, ?_, ?_, ?_, trivial⟩
    all_goals
      intro y w1 K Q Cv hC hd hV
      have s0 : w1.cell? ⟨w.heap.size, 0, none⟩ = some (.slice A n c) := (cellB hC (by simp +arith)).trans (by go_simp)
      have s1 : w1.cell? ⟨w.heap.size, 1, none⟩ = some (.slice A2 n2 c2) := (cellB hC (by simp +arith)).trans (by go_simp)
      simp [deps, VL, IsV, Region.binds] at hd
    · simp only [putAll, Act.put]; go_simp; intro hK; exact hK _ _ (hV _ _ hC (Below.refl _ _) rfl)
    · simp only [putAll, Act.put]; go_simp; intro hK; exact hK _ _ (hV _ _ hC (Below.refl _ _) rfl)
    · simp only [putAll, Act.put]; go_simp; intro hK; exact hK _ _ (hV _ _ hC (Below.refl _ _) rfl)
    · simp only [putAll, Act.put]; go_simp; intro hK
      refine (skillErrors_any A A2 n c n2 c2 _).mono ?_
      rintro e w2 ⟨⟨v, rfl, hv⟩, hb⟩
      exact hK _ _ (hV _ _ (hC.trans (hb.mono hC.size)) hb hv)
    · obtain ⟨h1, ps, h3, hp1, hp2⟩ : y 1 = _ ∧ SchClos 88 (.slice A n c) (.slice A2 n2 c2) (y 3) w1 := hd
      simp only [putAll, Act.put]; go_simp; intro hK
      refine (hfs.out ps _ (hB0.trans (hC.mono (by simp +arith))) hp1).mono ?_
      rintro e w2 ⟨rfl, hb⟩
      exact hK _ _ (hV _ _ (hC.trans (hb.mono hC.size)) hb rfl)
    · simp only [putAll, Act.put]; go_simp; intro hK; exact hK _ _ (hV _ _ hC (Below.refl _ _) rfl)
    · simp only [putAll, Act.put]; go_simp; intro hK; exact hK _ _ (hV _ _ hC (Below.refl _ _) rfl)
    · simp only [putAll, Act.put]; go_simp; intro hK; exact hK _ _ (hV _ _ hC (Below.refl _ _) rfl)
    · simp only [putAll, Act.put]; go_simp; intro hK; exact hK _ _ (hV _ _ hC (Below.refl _ _) rfl)
    · simp only [putAll, Act.put]; go_simp; intro hK; exact hK _ _ (hV _ _ hC (Below.refl _ _) rfl)
  intro y w1 hC hd
  simp [EndsL, IsV] at hd
  obtain ⟨d0, d1, d2, ⟨ps, d3, _, _⟩, d4, d5, d6, d7, d8, d9⟩ := hd
  simp only [putAll, Act.put]
  rw [d0, d1, d2, d3, d4, d5, d6, d7, d8, d9]
  clear d0 d1 d2 d3 d4 d5 d6 d7 d8 d9
  simp only [List.setIfInBounds_toArray, List.set_cons_succ, List.set_cons_zero]
  have hB1 : Below w.heap.size w w1 := hB0.trans (hC.mono (by simp +arith))
  have hz1 : w.heap.size < w1.heap.size := by have := hC.size; simp at this; omega
  have s0 : w1.cell? ⟨w.heap.size, 0, none⟩ = some (.slice A n c) := (cellB hC (by simp +arith)).trans (by go_simp)
  have s1 : w1.cell? ⟨w.heap.size, 1, none⟩ = some (.slice A2 n2 c2) := (cellB hC (by simp +arith)).trans (by go_simp)
  clear hC
  replace hB0 := hide hB0
  replace hB1 := hide hB1
  by_cases he1 : e1 = 0
  · subst he1
    have hF2 := hF.out
    rw [if_neg (by simp)] at hF2
    replace hF2 := hide hF2
    clear hF
    go_wp2
    refine region_grow [IsV (.pointer (some ⟨w.heap.size, 1, none⟩)), IsV (.slice A2 n2 c2), IsV (.agg #[.slice A n c, .slice A2 n2 c2]), SchClos 93 (.slice A n c) (.slice A2 n2 c2), IsV (.tuple #[.int .i64 a2, .int .i64 e2]), IsV (.tuple #[.int .i64 a2, .int .i64 e2]), IsV (.int .i64 a2), IsV (.int .i64 e2), IsV (.int .i64 a2), IsV (.int .i64 e2)] (by kernel_rfl) (by kernel_rfl) rfl ?_ ?_ ?_
    · simp [AllStb, IsV.stb, SchClos.stb]
    · refine ⟨?_, ?_, ?_, ?_, ?_, ?_, ?_, ?_, ?_, ?_, trivial⟩
      all_goals
        intro y w2 K Q Cv hC hd hV
        have q0 := (cellB (o := 0) hC hz1).trans s0
        have q1 := (cellB (o := 1) hC hz1).trans s1
        simp [deps, VL, IsV, Region.binds] at hd
      · simp only [putAll, Act.put]; go_simp; intro hK; exact hK _ _ (hV _ _ hC (Below.refl _ _) rfl)
      · simp only [putAll, Act.put]; go_simp; intro hK; exact hK _ _ (hV _ _ hC (Below.refl _ _) rfl)
      · simp only [putAll, Act.put]; go_simp; intro hK; exact hK _ _ (hV _ _ hC (Below.refl _ _) rfl)
      · simp only [putAll, Act.put]; go_simp; intro hK
        refine (instructorErrors_any A A2 n c n2 c2 _).mono ?_
        rintro e w3 ⟨⟨v, rfl, hv⟩, hb⟩
        exact hK _ _ (hV _ _ (hC.trans (hb.mono hC.size)) hb hv)
      · obtain ⟨h1, ps, h3, hp1, hp2⟩ : y 1 = _ ∧ SchClos 93 (.slice A n c) (.slice A2 n2 c2) (y 3) w2 := hd
        simp only [putAll, Act.put]; go_simp; intro hK
        refine (hfi.out ps _ (hB1.out.trans (hC.mono hB1.out.size)) hp2).mono ?_
        rintro e w3 ⟨rfl, hb⟩
        exact hK _ _ (hV _ _ (hC.trans (hb.mono hC.size)) hb rfl)
      · simp only [putAll, Act.put]; go_simp; intro hK; exact hK _ _ (hV _ _ hC (Below.refl _ _) rfl)
      · simp only [putAll, Act.put]; go_simp; intro hK; exact hK _ _ (hV _ _ hC (Below.refl _ _) rfl)
      · simp only [putAll, Act.put]; go_simp; intro hK; exact hK _ _ (hV _ _ hC (Below.refl _ _) rfl)
      · simp only [putAll, Act.put]; go_simp; intro hK; exact hK _ _ (hV _ _ hC (Below.refl _ _) rfl)
      · simp only [putAll, Act.put]; go_simp; intro hK; exact hK _ _ (hV _ _ hC (Below.refl _ _) rfl)
    intro y w2 hC hd
    simp [EndsL, IsV] at hd
    obtain ⟨d0, d1, d2, ⟨ps2, d3, _, _⟩, d4, d5, d6, d7, d8, d9⟩ := hd
    simp only [putAll, Act.put]
    rw [d0, d1, d2, d3, d4, d5, d6, d7, d8, d9]
    clear d0 d1 d2 d3 d4 d5 d6 d7 d8 d9
    simp only [List.setIfInBounds_toArray, List.set_cons_succ, List.set_cons_zero]
    have hB2 := hide (hB1.out.trans (hC.mono hB1.out.size))
    clear hC s0 s1
    by_cases he2 : e2 = 0
    · subst he2
      have hF3 := hF2.out
      rw [if_neg (by simp)] at hF3
      replace hF3 := hide hF3
      clear hF2
      go_wp2
      go_ret3
      exact ⟨by rw [hF3.out]; rfl, hB2.out⟩
    · have hF3 := hF2.out
      rw [if_pos (by simpa using he2)] at hF3
      replace hF3 := hide hF3
      clear hF2
      have hb1 : (e2 == 0) = false := by rw [beq_eq_false_iff_ne]; exact he2
      have hb2 : (e2 != 0) = true := by rw [bne_iff_ne]; exact he2
      replace he2 := hide he2
      go_wp2
      go_ret3
      exact ⟨by rw [hF3.out]; rfl, hB2.out⟩
  · have hF2 := hF.out
    rw [if_pos (by simpa using he1)] at hF2
    replace hF2 := hide hF2
    clear hF
    have hb1 : (e1 == 0) = false := by rw [beq_eq_false_iff_ne]; exact he1
    have hb2 : (e1 != 0) = true := by rw [bne_iff_ne]; exact he1
    replace he1 := hide he1
    go_wp2
    go_ret3
    exact ⟨by rw [hF2.out]; rfl, hB1.out⟩

theorem CheckS_any (v : Value) (S : Sch) (w : World) (h : RdSch w v S) :
    Calls Try.prog 18 #[v] w fun e w' => Ret3 (checkS S) e ∧ Below w.heap.size w w' := by
  obtain ⟨A, c, A2, c2, rfl, h2, h3, h4, h5, h6, h7, h8, h9⟩ := h
  by_cases hl : ¬ (1 ≤ S.sks.length ∧ S.sks.length ≤ 5) ∨ 6 < S.ins.length
  · have : checkS S = (1, 0, 3) := by unfold checkS; rw [if_pos hl]
    rw [this]
    exact CheckS_long A A2 _ c _ c2 w hl h3 h7
  · exact CheckS_in A A2 _ c _ c2 S w (by omega) (by omega) rfl rfl h2 h5 h4 h6 h9 h8
end Go.Proofs.Ytkhijdbigpaagaa

/-
  isSkill, isInstructor, markError, rangesError.
-/
namespace Go.Proofs.Ytkhijdbigpaagaa
open Go.RowKit RG

theorem isSkill_any (A A2 : Option Addr) (n c n2 c2 : Nat) (x : Int) (w : World) (hn : n ≤ maxLen) :
    Calls Try.prog 110 #[.agg #[.slice A n c, .slice A2 n2 c2], .int .i64 x] w fun e w' => e = .returned (.bool (inB 0 ((n : Int) - 1) x)) ∧ Below w.heap.size w w' := by
  unfold maxLen at hn
  have w1 : IntKind.i64.wrap ((n : Int) - 1) = (n : Int) - 1 := by rw [IntKind.wrap_i64]; omega
  go_enter Try.func110, Try.ntmps110
  go_wp2_with fail
  refine (within_one _ _ x _ _ _ _ (by go_simp)).mono ?_
  rintro e w2 ⟨rfl, rfl⟩
  go_wp2
  go_ret
  exact ⟨rfl, ((Below.refl _ _).alloc (by simp) _).alloc (by simp) _⟩
theorem isInstructor_any (A A2 : Option Addr) (n c n2 c2 : Nat) (x : Int) (w : World) (hn : n2 ≤ maxLen) :
    Calls Try.prog 71 #[.agg #[.slice A n c, .slice A2 n2 c2], .int .i64 x] w fun e w' => e = .returned (.bool (inB 0 ((n2 : Int) - 1) x)) ∧ Below w.heap.size w w' := by
  unfold maxLen at hn
  have w1 : IntKind.i64.wrap ((n2 : Int) - 1) = (n2 : Int) - 1 := by rw [IntKind.wrap_i64]; omega
  go_enter Try.func71, Try.ntmps71
  go_wp2_with fail
  refine (within_one _ _ x _ _ _ _ (by go_simp)).mono ?_
  rintro e w2 ⟨rfl, rfl⟩
  go_wp2
  go_ret
  exact ⟨rfl, ((Below.refl _ _).alloc (by simp) _).alloc (by simp) _⟩

/-- What markError answers. -/
def markE (S : Sch) (k x : Int) : Int := if (checkS S).2.2 = 0 then (if inB 0 ((S.ins.length : Int) - 1) k = true then (if inB 0 1000 x = true then 0 else 7) else 4) else (checkS S).2.2

set_option maxRecDepth 100000 in
set_option maxHeartbeats 2000000 in
theorem markError_any (v : Value) (S : Sch) (k x : Int) (w : World) (h : RdSch w v S) :
    Calls Try.prog 59 #[v, .int .i64 k, .int .i64 x] w fun e w' => e = .returned (.int .i64 (markE S k x)) ∧ Below w.heap.size w w' := by
  obtain ⟨r, hr⟩ : ∃ r, markE S k x = r := ⟨_, rfl⟩
  rw [hr]
  unfold markE at hr
  have hC := hide (fun W (hb : Below w.heap.size w W) => CheckS_any v S W (h.below hb))
  unfold Ret3 at hC
  generalize checkS S = q at *
  obtain ⟨q0, q1, q2⟩ := q
  simp only at hr hC
  obtain ⟨A, c, A2, c2, rfl, -, -, -, -, -, h7, -, -⟩ := h
  have hI := hide (fun W => isInstructor_any A A2 S.sks.length c S.ins.length c2 k W h7)
  generalize S.sks.length = n at *
  generalize S.ins.length = n2 at *
  clear h7
  have hB0 := hide (show Below w.heap.size w (w.alloc (.cells #[.slice A n c, .slice A2 n2 c2] 25)) from (Below.refl _ _).alloc (Nat.le_refl _) _)
  have k0 := hide (show Blk (w.alloc (.cells #[.slice A n c, .slice A2 n2 c2] 25)) w.heap.size 25 #[.slice A n c, .slice A2 n2 c2] from blkNew rfl)
  replace hr := hide hr
  go_enter Try.func59, Try.ntmps59
  go_wp2_with fail
  refine (hC.out _ hB0.out).mono ?_
  rintro e w1 ⟨rfl, hb1⟩
  have hz1 : w.heap.size < w1.heap.size := Nat.lt_of_lt_of_le (by simp) hb1.size
  have hB1 := hide (hB0.out.trans (hb1.mono (by simp)))
  have k1 := k0.out.below hb1 k0.out.lt
  have c0 : w1.cell? ⟨w.heap.size, 0, none⟩ = some (.slice A n c) := k1.cell 0
  have c1 : w1.cell? ⟨w.heap.size, 1, none⟩ = some (.slice A2 n2 c2) := k1.cell 1
  clear hb1 hB0 k0 k1 hC
  by_cases h2 : q2 = 0
  · subst h2
    have hr1 := hr.out
    rw [if_pos rfl] at hr1
    replace hr1 := hide hr1
    clear hr
    go_wp2_with fail
    refine (hI.out _).mono ?_
    rintro e w2 ⟨rfl, hb2⟩
    have hB2 := hide (hB1.out.trans (hb2.mono (by omega)))
    clear hb2 hB1 hI c0 c1
    cases hq : inB 0 ((n2 : Int) - 1) k with
    | false =>
      have hr := hr1.out
      rw [hq, if_neg (by simp)] at hr
      subst hr
      clear hq
      go_wp2
      go_ret
      exact ⟨rfl, hB2.out⟩
    | true =>
      have hr := hr1.out
      rw [hq, if_pos rfl] at hr
      replace hr := hide hr
      clear hq hr1
      go_wp2_with fail
      refine (within_one _ _ x _ _ _ _ (by go_simp)).mono ?_
      rintro e w3 ⟨rfl, rfl⟩
      have hB3 := hide (hB2.out.alloc hB2.out.size (.cells #[.int .i64 x] 3))
      cases hq : inB 0 1000 x with
      | false =>
        have hr2 := hr.out
        rw [hq, if_neg (by simp)] at hr2
        subst hr2
        clear hq
        go_wp2
        go_ret
        exact ⟨rfl, hB3.out⟩
      | true =>
        have hr2 := hr.out
        rw [hq, if_pos rfl] at hr2
        subst hr2
        clear hq
        go_wp2
        go_ret
        exact ⟨rfl, hB3.out⟩
  · have hr1 := hr.out
    rw [if_neg h2] at hr1
    subst hr1
    have hb1 : (q2 == 0) = false := by rw [beq_eq_false_iff_ne]; exact h2
    have hb2 : (q2 != 0) = true := by rw [bne_iff_ne]; exact h2
    replace h2 := hide h2
    clear hr c0 c1 hI
    go_wp2
    go_ret
    exact ⟨rfl, hB1.out⟩

/-- What rangesError answers of k ranges for n skills. -/
def rangesE (n : Nat) (rs : List Sp) : Int := if rs.length ≠ n then 3 else (firstErr (fun i => spanE 0 1000 [rs[i]?.getD (0, 0)]) 0 rs.length).2
theorem rangesE1_any (i : Int) (r : Sp) (w : World) :
    Calls Try.prog 120 #[.int .i64 i, .agg (tkCells r).toArray] w fun e w' => e = .returned (.int .i64 (spanE 0 1000 [r])) ∧ Below w.heap.size w w' := by
  obtain ⟨a, b⟩ := r
  unfold tkCells
  have hS0 := hide (fun W g (hk : Blk W g 32 #[.int .i64 a, .int .i64 b]) => spanError_any 0 1000 (some ⟨g, 0, none⟩) 1 1 [(a, b)] W (rdOne hk) (by decide))
  generalize spanE 0 1000 [(a, b)] = q at *
  simp only
  go_enter Try.func120, Try.ntmps120
  go_wp2_with fail
  refine (hS0.out _ (w.heap.size + 1) (blkNew (by simp))).mono ?_
  rintro e w2 ⟨rfl, hb⟩
  go_wp2
  go_ret
  exact ⟨rfl, (((Below.refl _ _).alloc (Nat.le_refl _) _).alloc (by simp) _).trans (hb.mono (by simp +arith))⟩
end Go.Proofs.Ytkhijdbigpaagaa

/-
  rangesError; Marks.
-/
namespace Go.Proofs.Ytkhijdbigpaagaa
open Go.RowKit RG

theorem firstErr_zero {err : Nat → Int} : ∀ {k m : Nat}, (firstErr err k m).2 = 0 → ∀ j, k ≤ j → j < k + m → err j = 0
  | k, 0, _, j, h1, h2 => by omega
  | k, m + 1, h, j, h1, h2 => by
    unfold firstErr at h
    split at h
    · rename_i h0
      by_cases e : j = k
      · subst e; exact h0
      · exact firstErr_zero h j (by omega) (by omega)
    · rename_i h0; exact absurd h h0

theorem enters_rg : ∀ args w, (callFunc 120 args).run Try.prog w = .ok (.enter 120 args) w := fun _ _ => by kernel_rfl
theorem isSp (rs : List Sp) : ∀ x ∈ rs.map tkCells, IsSp x := by
  intro x hx
  obtain ⟨s, _, rfl⟩ := List.mem_map.1 hx
  exact ⟨_, _, rfl⟩
theorem sp_at (rs : List Sp) (k : Nat) (h : k < rs.length) : ((rs.map tkCells)[k]?.getD []) = tkCells (rs[k]?.getD (0, 0)) := by
  rw [List.getElem?_map, List.getElem?_eq_getElem h]; rfl

set_option maxRecDepth 100000 in
set_option maxHeartbeats 1000000 in
theorem rangesError_any (A A2 B : Option Addr) (n c n2 c2 m cb : Nat) (rs : List Sp) (w : World) (hn : n ≤ maxLen) (h : RdRow w B m 2 (rs.map tkCells)) (hm : m ≤ maxLen) :
    Calls Try.prog 99 #[.agg #[.slice A n c, .slice A2 n2 c2], .slice B m cb] w fun e w' => e = .returned (.int .i64 (rangesE n rs)) ∧ Below w.heap.size w w' := by
  have hl : rs.length = m := by have := h.1; simpa using this
  have hF := hide (fun W (hb : Below w.heap.size w W) => firstErrorSp 120 #[] #[] enters_rg (fun i => spanE 0 1000 [rs[i]?.getD (0, 0)]) B m cb _ W (h.below hb) (isSp rs) hm fun j W' hj hb' => by
    rw [sp_at rs j (by omega)]
    have := rangesE1_any (j : Int) (rs[j]?.getD (0, 0)) W'
    simpa using this)
  obtain ⟨r, hr⟩ : ∃ r, rangesE n rs = r := ⟨_, rfl⟩
  rw [hr]
  unfold rangesE at hr
  rw [hl] at hr
  generalize firstErr (fun i => spanE 0 1000 [rs[i]?.getD (0, 0)]) 0 m = q at *
  obtain ⟨q1, q2⟩ := q
  simp only at hr hF
  unfold maxLen at hn hm
  clear h
  replace hl := hide hl
  have hB0 := hide (show Below w.heap.size w (w.alloc (.cells #[.slice A n c, .slice A2 n2 c2] 25)) from (Below.refl _ _).alloc (Nat.le_refl _) _)
  by_cases e : m = n
  · subst e
    rw [if_neg (by simp)] at hr
    subst hr
    go_enter Try.func99, Try.ntmps99
    go_wp2_with fail
    refine (hF.out _ hB0.out).mono ?_
    rintro e w1 ⟨rfl, hb⟩
    have hB1 := hide (hB0.out.trans (hb.mono (by simp)))
    clear hb hB0
    go_wp2
    go_ret
    exact ⟨rfl, hB1.out⟩
  · rw [if_pos e] at hr
    subst hr
    have e1 : ((m : Int) == (n : Int)) = false := by rw [beq_eq_false_iff_ne]; omega
    have e2 : ((m : Int) != (n : Int)) = true := by rw [bne_iff_ne]; omega
    go_enter Try.func99, Try.ntmps99
    go_wp2
    go_ret
    exact ⟨rfl, hB0.out⟩

theorem mark_ok {S : Sch} {k x : Int} (h : markE S k x = 0) : 0 ≤ x ∧ x ≤ 1000 ∧ ∃ i : Nat, k = i ∧ i < S.ins.length ∧ -300 ≤ (S.ins[i]?.getD default).lo ∧ (S.ins[i]?.getD default).lo ≤ (S.ins[i]?.getD default).hi ∧ (S.ins[i]?.getD default).hi ≤ 300 := by
  unfold markE at h
  split at h
  · rename_i h0
    split at h
    · rename_i h1
      split at h
      · rename_i h2
        have h1 := inB_iff.1 h1
        have h2 := inB_iff.1 h2
        refine ⟨h2.1, h2.2, k.toNat, by omega, by omega, ?_⟩
        unfold checkS at h0
        split at h0
        · simp at h0
        · split at h0
          · rename_i h3; exact absurd h0 h3
          · split at h0
            · rename_i h3; exact absurd h0 h3
            · rename_i h3
              have := firstErr_zero (by simpa using h3) k.toNat (Nat.zero_le _) (by omega)
              unfold inErr at this
              split at this
              · unfold spanE at this
                split at this
                · split at this
                  · rename_i h4 h5
                    simp only [List.all_cons, List.all_nil, Bool.and_true, Bool.and_eq_true, decide_eq_true_eq] at h4 h5
                    have a := inB_iff.1 h4.1
                    have b := inB_iff.1 h4.2
                    exact ⟨a.1, h5, b.2⟩
                  · simp at this
                · simp at this
              · contradiction
      · simp at h
    · simp at h
  · contradiction
end Go.Proofs.Ytkhijdbigpaagaa

/-
  Marks of package skill.
-/
namespace Go.Proofs.Ytkhijdbigpaagaa
open Go.RowKit RG

/-- What Marks answers. -/
def marksF (S : Sch) (k x : Int) : Sp × Int := if markE S k x = 0 then ((lim (x + (S.ins[k.toNat]?.getD default).lo), lim (x + (S.ins[k.toNat]?.getD default).hi)), 0) else ((0, 0), markE S k x)

set_option maxRecDepth 100000 in
set_option maxHeartbeats 2000000 in
theorem Marks_any (v : Value) (S : Sch) (k x : Int) (w : World) (h : RdSch w v S) :
    Calls Try.prog 20 #[v, .int .i64 k, .int .i64 x] w fun e w' => e = .returned (.tuple #[.agg #[.int .i64 (marksF S k x).1.1, .int .i64 (marksF S k x).1.2], .int .i64 (marksF S k x).2]) ∧ Below w.heap.size w w' := by
  have hM := hide (fun W (hb : Below w.heap.size w W) => markError_any v S k x W (h.below hb))
  obtain ⟨r, hr⟩ : ∃ r, marksF S k x = r := ⟨_, rfl⟩
  rw [hr]
  unfold marksF at hr
  by_cases h0 : markE S k x = 0
  · obtain ⟨hx0, hx1, i, rfl, hi, hlo, hlh, hhi⟩ := mark_ok h0
    rw [if_pos h0] at hr
    rw [h0] at hM
    rw [Int.toNat_natCast] at hr
    obtain ⟨A, c, A2, c2, rfl, -, -, -, -, h6, h7, h8, -⟩ := h
    have hat := map_at inCells S.ins i hi
    obtain ⟨b, off, x0, x1, x2, rfl, hb, hxs, c0, c1, c2'⟩ := h6.cells3 hi
    rw [hat] at hxs
    unfold inCells at hxs
    simp only [List.cons.injEq, and_true] at hxs
    obtain ⟨rfl, rfl, rfl⟩ := hxs
    clear h6 hat h0
    generalize (S.ins[i]?.getD default).lo = lo at *
    generalize (S.ins[i]?.getD default).hi = hj at *
    generalize S.sks.length = n at *
    generalize S.ins.length = n2 at *
    subst hr
    unfold maxLen at h7
    have hiz : (i : Int) < (n2 : Int) := by omega
    have hi0 : (0 : Int) ≤ (i : Int) := by omega
    have w1' : IntKind.i64.wrap (x + lo) = x + lo := by rw [IntKind.wrap_i64]; omega
    have w2' : IntKind.i64.wrap (x + hj) = x + hj := by rw [IntKind.wrap_i64]; omega
    have hL := hide (fun W => limited_any (x + lo) (x + hj) W)
    simp only
    generalize lim (x + lo) = ma at *
    generalize lim (x + hj) = mb at *
    have hB0 := hide (show Below w.heap.size w ((w.alloc (.cells #[.slice A n c, .slice (some ⟨b, off, none⟩) n2 c2] 25)).alloc (.cells #[.int .i64 0, .int .i64 0] 32)) from ((Below.refl _ _).alloc (Nat.le_refl _) _).alloc (by simp) _)
    have k0 := hide (show Blk ((w.alloc (.cells #[.slice A n c, .slice (some ⟨b, off, none⟩) n2 c2] 25)).alloc (.cells #[.int .i64 0, .int .i64 0] 32)) w.heap.size 25 #[.slice A n c, .slice (some ⟨b, off, none⟩) n2 c2] from (blkNew rfl).alloc _)
    have k1 := hide (show Blk ((w.alloc (.cells #[.slice A n c, .slice (some ⟨b, off, none⟩) n2 c2] 25)).alloc (.cells #[.int .i64 0, .int .i64 0] 32)) (w.heap.size + 1) 32 #[.int .i64 0, .int .i64 0] from blkNew (by simp))
    go_enter Try.func20, Try.ntmps20
    go_wp2_with fail
    refine (hM.out _ hB0.out).mono ?_
    rintro e w1 ⟨rfl, hb1⟩
    have hB1 := hide (hB0.out.trans (hb1.mono (by simp +arith)))
    have hz1 : w.heap.size + 1 < w1.heap.size := Nat.lt_of_lt_of_le (by simp +arith) hb1.size
    have k3 := k0.out.below hb1 k0.out.lt
    have s0 : w1.cell? ⟨w.heap.size, 0, none⟩ = some (.slice A n c) := k3.cell 0
    have s1 : w1.cell? ⟨w.heap.size, 1, none⟩ = some (.slice (some ⟨b, off, none⟩) n2 c2) := k3.cell 1
    have k2 := hide (k1.out.below hb1 k1.out.lt)
    replace c0 := (cellB hB1.out hb).trans c0
    replace c1 := (cellB hB1.out hb).trans c1
    replace c2' := (cellB hB1.out hb).trans c2'
    clear hb1 hB0 k0 k1 k3 hM
    go_wp2_with fail
    refine (hL.out _).mono ?_
    rintro e w2 ⟨rfl, hb2⟩
    have hB2 := hide (hB1.out.trans ((((Below.refl w1.heap.size w1).alloc (Nat.le_refl _) _).trans (hb2.mono (by simp))).mono (by omega)))
    have k3 := hide ((k2.out.alloc (.cells #[.int .i64 lo, .int .i64 hj] 32)).below hb2 (by simp; omega))
    clear hb2 hL c0 c1 c2' s0 s1 k2 hB1
    have z0 : w2.cell? ⟨w.heap.size + 1, 0, none⟩ = some (.int .i64 0) := k3.out.cell 0
    have z1 : w2.cell? ⟨w.heap.size + 1, 1, none⟩ = some (.int .i64 0) := k3.out.cell 1
    have f0 : w2.frozen? ⟨w.heap.size + 1, 0, none⟩ = false := k3.out.frozen 0
    have f1 : w2.frozen? ⟨w.heap.size + 1, 1, none⟩ = false := k3.out.frozen 1
    have hRn := (k3.out.set_ 0 (.int .i64 ma)).set_ 1 (.int .i64 mb)
    have e0' := (hRn.cell 0).trans (show _ = some (Value.int .i64 ma) by simp)
    have e1' := (hRn.cell 1).trans (show _ = some (Value.int .i64 mb) by simp)
    clear hRn
    go_wp2
    refine bodyPost_ret (v := .tuple #[.agg #[.int .i64 ma, .int .i64 mb], .int .i64 0]) (by simp [results, Try.results20, go_sem, e0', e1']) rfl ⟨rfl, ?_⟩
    exact (hB2.out.setCell (by simp) _).setCell (by simp) _
  · rw [if_neg h0] at hr
    subst hr
    generalize markE S k x = r at *
    obtain ⟨A, c, A2, c2, rfl, -⟩ := h
    generalize S.sks.length = n at *
    generalize S.ins.length = n2 at *
    have hb1 : (r == 0) = false := by rw [beq_eq_false_iff_ne]; exact h0
    have hb2 : (r != 0) = true := by rw [bne_iff_ne]; exact h0
    replace h0 := hide h0
    have hB0 := hide (show Below w.heap.size w ((w.alloc (.cells #[.slice A n c, .slice A2 n2 c2] 25)).alloc (.cells #[.int .i64 0, .int .i64 0] 32)) from ((Below.refl _ _).alloc (Nat.le_refl _) _).alloc (by simp) _)
    have k1 := hide (show Blk ((w.alloc (.cells #[.slice A n c, .slice A2 n2 c2] 25)).alloc (.cells #[.int .i64 0, .int .i64 0] 32)) (w.heap.size + 1) 32 #[.int .i64 0, .int .i64 0] from blkNew (by simp))
    simp only
    go_enter Try.func20, Try.ntmps20
    go_wp2_with fail
    refine (hM.out _ hB0.out).mono ?_
    rintro e w2 ⟨rfl, hb2'⟩
    have hB2 := hide (hB0.out.trans (hb2'.mono (by simp +arith)))
    have k3 := hide (k1.out.below hb2' k1.out.lt)
    clear hb2' hB0 k1 hM
    have z0 : w2.cell? ⟨w.heap.size + 1, 0, none⟩ = some (.int .i64 0) := k3.out.cell 0
    have z1 : w2.cell? ⟨w.heap.size + 1, 1, none⟩ = some (.int .i64 0) := k3.out.cell 1
    have f0 : w2.frozen? ⟨w.heap.size + 1, 0, none⟩ = false := k3.out.frozen 0
    have f1 : w2.frozen? ⟨w.heap.size + 1, 1, none⟩ = false := k3.out.frozen 1
    have hRn := (k3.out.set_ 0 (.int .i64 0)).set_ 1 (.int .i64 0)
    have e0' := (hRn.cell 0).trans (show _ = some (Value.int .i64 0) by simp)
    have e1' := (hRn.cell 1).trans (show _ = some (Value.int .i64 0) by simp)
    clear hRn
    go_wp2
    refine bodyPost_ret (v := .tuple #[.agg #[.int .i64 0, .int .i64 0], .int .i64 r]) (by simp [results, Try.results20, go_sem, e0', e1']) rfl ⟨rfl, ?_⟩
    exact (hB2.out.setCell (by simp) _).setCell (by simp) _
end Go.Proofs.Ytkhijdbigpaagaa

/-
  Behind of package skill.
-/
namespace Go.Proofs.Ytkhijdbigpaagaa
open Go.RowKit RG

/-- What Behind answers. -/
def behindF (S : Sch) (k x : Int) : Sp × Int := if markE S k x = 0 then
    (if (behindS ((S.ins[k.toNat]?.getD default).lo, (S.ins[k.toNat]?.getD default).hi) x).2 < (behindS ((S.ins[k.toNat]?.getD default).lo, (S.ins[k.toNat]?.getD default).hi) x).1 then ((0, 0), 9)
     else (behindS ((S.ins[k.toNat]?.getD default).lo, (S.ins[k.toNat]?.getD default).hi) x, 0)) else ((0, 0), markE S k x)

set_option maxRecDepth 100000 in
set_option maxHeartbeats 2000000 in
theorem Behind_any (v : Value) (S : Sch) (k x : Int) (w : World) (h : RdSch w v S) :
    Calls Try.prog 22 #[v, .int .i64 k, .int .i64 x] w fun e w' => e = .returned (.tuple #[.agg #[.int .i64 (behindF S k x).1.1, .int .i64 (behindF S k x).1.2], .int .i64 (behindF S k x).2]) ∧ Below w.heap.size w w' := by
  have hM := hide (fun W (hb : Below w.heap.size w W) => markError_any v S k x W (h.below hb))
  obtain ⟨r, hr⟩ : ∃ r, behindF S k x = r := ⟨_, rfl⟩
  rw [hr]
  unfold behindF at hr
  by_cases h0 : markE S k x = 0
  · obtain ⟨hx0, hx1, i, rfl, hi, hlo, hlh, hhi⟩ := mark_ok h0
    rw [if_pos h0] at hr
    rw [h0] at hM
    rw [Int.toNat_natCast] at hr
    obtain ⟨A, c, A2, c2, rfl, -, -, -, -, h6, h7, h8, -⟩ := h
    have hat := map_at inCells S.ins i hi
    obtain ⟨b, off, x0, x1, x2, rfl, hb, hxs, c0, c1, c2'⟩ := h6.cells3 hi
    rw [hat] at hxs
    unfold inCells at hxs
    simp only [List.cons.injEq, and_true] at hxs
    obtain ⟨rfl, rfl, rfl⟩ := hxs
    clear h6 hat h0
    generalize (S.ins[i]?.getD default).lo = lo at *
    generalize (S.ins[i]?.getD default).hi = hj at *
    generalize S.sks.length = n at *
    generalize S.ins.length = n2 at *
    unfold maxLen at h7
    have hiz : (i : Int) < (n2 : Int) := by omega
    have hi0 : (0 : Int) ≤ (i : Int) := by omega
    have hL := hide (fun W => behind_any lo hj x W ⟨hx0, hx1⟩ (by omega) (by omega))
    generalize behindS (lo, hj) x = bh at *
    obtain ⟨ma, mb⟩ := bh
    simp only at hL hr
    have hE := hide (fun W => isEmpty_any ma mb W)
    have hB0 := hide (show Below w.heap.size w ((w.alloc (.cells #[.slice A n c, .slice (some ⟨b, off, none⟩) n2 c2] 25)).alloc (.cells #[.int .i64 0, .int .i64 0] 32)) from ((Below.refl _ _).alloc (Nat.le_refl _) _).alloc (by simp) _)
    have k0 := hide (show Blk ((w.alloc (.cells #[.slice A n c, .slice (some ⟨b, off, none⟩) n2 c2] 25)).alloc (.cells #[.int .i64 0, .int .i64 0] 32)) w.heap.size 25 #[.slice A n c, .slice (some ⟨b, off, none⟩) n2 c2] from (blkNew rfl).alloc _)
    have k1 := hide (show Blk ((w.alloc (.cells #[.slice A n c, .slice (some ⟨b, off, none⟩) n2 c2] 25)).alloc (.cells #[.int .i64 0, .int .i64 0] 32)) (w.heap.size + 1) 32 #[.int .i64 0, .int .i64 0] from blkNew (by simp))
    go_enter Try.func22, Try.ntmps22
    go_wp2_with fail
    refine (hM.out _ hB0.out).mono ?_
    rintro e w1 ⟨rfl, hb1⟩
    have hB1 := hide (hB0.out.trans (hb1.mono (by simp +arith)))
    have hz1 : w.heap.size + 1 < w1.heap.size := Nat.lt_of_lt_of_le (by simp +arith) hb1.size
    have k3 := k0.out.below hb1 k0.out.lt
    have s0 : w1.cell? ⟨w.heap.size, 0, none⟩ = some (.slice A n c) := k3.cell 0
    have s1 : w1.cell? ⟨w.heap.size, 1, none⟩ = some (.slice (some ⟨b, off, none⟩) n2 c2) := k3.cell 1
    have k2 := hide (k1.out.below hb1 k1.out.lt)
    replace c0 := (cellB hB1.out hb).trans c0
    replace c1 := (cellB hB1.out hb).trans c1
    replace c2' := (cellB hB1.out hb).trans c2'
    clear hb1 hB0 k0 k1 k3 hM
    go_wp2_with fail
    refine (hL.out _).mono ?_
    rintro e w2 ⟨rfl, hb2⟩
    have hz2 : w.heap.size + 1 < w2.heap.size := Nat.lt_of_lt_of_le hz1 hb2.size
    have hB2 := hide (hB1.out.trans (hb2.mono (by omega)))
    have k3 := hide (k2.out.below hb2 k2.out.lt)
    clear hb2 hL c0 c1 c2' s0 s1 k2 hB1
    go_wp2_with fail
    refine (hE.out _).mono ?_
    rintro e w3 ⟨rfl, hb3⟩
    have hB3 := hide (hB2.out.trans ((((Below.refl w2.heap.size w2).alloc (Nat.le_refl _) (.cells #[.int .i64 ma, .int .i64 mb] 32)).trans (hb3.mono (by simp))).mono (by omega)))
    have k4 := hide ((k3.out.alloc (.cells #[.int .i64 ma, .int .i64 mb] 32)).below hb3 (by simp; omega))
    have k5 := hide ((show Blk (w2.alloc (.cells #[.int .i64 ma, .int .i64 mb] 32)) w2.heap.size 32 #[.int .i64 ma, .int .i64 mb] from blkNew rfl).below hb3 (by simp))
    clear hb3 hB2 k3 hE
    have z0 : w3.cell? ⟨w.heap.size + 1, 0, none⟩ = some (.int .i64 0) := k4.out.cell 0
    have z1 : w3.cell? ⟨w.heap.size + 1, 1, none⟩ = some (.int .i64 0) := k4.out.cell 1
    have y0 : w3.cell? ⟨w2.heap.size, 0, none⟩ = some (.int .i64 ma) := k5.out.cell 0
    have y1 : w3.cell? ⟨w2.heap.size, 1, none⟩ = some (.int .i64 mb) := k5.out.cell 1
    have f0 : w3.frozen? ⟨w.heap.size + 1, 0, none⟩ = false := k4.out.frozen 0
    have f1 : w3.frozen? ⟨w.heap.size + 1, 1, none⟩ = false := k4.out.frozen 1
    by_cases hq : mb < ma
    · rw [if_pos hq] at hr
      subst hr
      rw [decide_eq_true hq]
      replace hq := hide hq
      have hRn := (k4.out.set_ 0 (.int .i64 0)).set_ 1 (.int .i64 0)
      have e0' := (hRn.cell 0).trans (show _ = some (Value.int .i64 0) by simp)
      have e1' := (hRn.cell 1).trans (show _ = some (Value.int .i64 0) by simp)
      clear hRn
      go_wp2
      refine bodyPost_ret (v := .tuple #[.agg #[.int .i64 0, .int .i64 0], .int .i64 9]) (by simp [results, Try.results22, go_sem, e0', e1']) rfl ⟨rfl, ?_⟩
      exact (hB3.out.setCell (by simp) _).setCell (by simp) _
    · rw [if_neg hq] at hr
      subst hr
      rw [decide_eq_false hq]
      replace hq := hide hq
      have hRn := (k4.out.set_ 0 (.int .i64 ma)).set_ 1 (.int .i64 mb)
      have e0' := (hRn.cell 0).trans (show _ = some (Value.int .i64 ma) by simp)
      have e1' := (hRn.cell 1).trans (show _ = some (Value.int .i64 mb) by simp)
      clear hRn
      go_wp2
      refine bodyPost_ret (v := .tuple #[.agg #[.int .i64 ma, .int .i64 mb], .int .i64 0]) (by simp [results, Try.results22, go_sem, e0', e1']) rfl ⟨rfl, ?_⟩
      exact (hB3.out.setCell (by simp) _).setCell (by simp) _
  · rw [if_neg h0] at hr
    subst hr
    generalize markE S k x = r at *
    obtain ⟨A, c, A2, c2, rfl, -⟩ := h
    generalize S.sks.length = n at *
    generalize S.ins.length = n2 at *
    have hb1 : (r == 0) = false := by rw [beq_eq_false_iff_ne]; exact h0
    have hb2 : (r != 0) = true := by rw [bne_iff_ne]; exact h0
    replace h0 := hide h0
    have hB0 := hide (show Below w.heap.size w ((w.alloc (.cells #[.slice A n c, .slice A2 n2 c2] 25)).alloc (.cells #[.int .i64 0, .int .i64 0] 32)) from ((Below.refl _ _).alloc (Nat.le_refl _) _).alloc (by simp) _)
    have k1 := hide (show Blk ((w.alloc (.cells #[.slice A n c, .slice A2 n2 c2] 25)).alloc (.cells #[.int .i64 0, .int .i64 0] 32)) (w.heap.size + 1) 32 #[.int .i64 0, .int .i64 0] from blkNew (by simp))
    simp only
    go_enter Try.func22, Try.ntmps22
    go_wp2_with fail
    refine (hM.out _ hB0.out).mono ?_
    rintro e w2 ⟨rfl, hb2'⟩
    have hB2 := hide (hB0.out.trans (hb2'.mono (by simp +arith)))
    have k3 := hide (k1.out.below hb2' k1.out.lt)
    clear hb2' hB0 k1 hM
    have z0 : w2.cell? ⟨w.heap.size + 1, 0, none⟩ = some (.int .i64 0) := k3.out.cell 0
    have z1 : w2.cell? ⟨w.heap.size + 1, 1, none⟩ = some (.int .i64 0) := k3.out.cell 1
    have f0 : w2.frozen? ⟨w.heap.size + 1, 0, none⟩ = false := k3.out.frozen 0
    have f1 : w2.frozen? ⟨w.heap.size + 1, 1, none⟩ = false := k3.out.frozen 1
    have hRn := (k3.out.set_ 0 (.int .i64 0)).set_ 1 (.int .i64 0)
    have e0' := (hRn.cell 0).trans (show _ = some (Value.int .i64 0) by simp)
    have e1' := (hRn.cell 1).trans (show _ = some (Value.int .i64 0) by simp)
    clear hRn
    go_wp2
    refine bodyPost_ret (v := .tuple #[.agg #[.int .i64 0, .int .i64 0], .int .i64 r]) (by simp [results, Try.results22, go_sem, e0', e1']) rfl ⟨rfl, ?_⟩
    exact (hB2.out.setCell (by simp) _).setCell (by simp) _
end Go.Proofs.Ytkhijdbigpaagaa

/-
  testError of package skill.
-/
namespace Go.Proofs.Ytkhijdbigpaagaa
open Go.RowKit RG

def taskE (n : Nat) (t : Int × Int) : Int := if inB 0 ((n : Int) - 1) t.1 = true then (if inB 0 1000 t.2 = true then 0 else 7) else 4
/-- What testError answers of the tasks ts and the allowed misses al. -/
def testE (S : Sch) (ts : List (Int × Int)) (al : Int) : Int :=
  if (checkS S).2.2 = 0 then (if inB 1 6 (ts.length : Int) = true then (if inB 0 ((ts.length : Int) - 1) al = true then (firstErr (fun i => taskE S.sks.length (ts[i]?.getD (0, 0))) 0 ts.length).2 else 7) else 3) else (checkS S).2.2

set_option maxRecDepth 100000 in
set_option maxHeartbeats 1000000 in
theorem taskE_any (A A2 : Option Addr) (n c n2 c2 : Nat) (i : Int) (t : Int × Int) (ps : Nat) (w : World) (hn : n ≤ maxLen) (h0 : w.cell? ⟨ps, 0, none⟩ = some (.slice A n c)) (h1 : w.cell? ⟨ps, 1, none⟩ = some (.slice A2 n2 c2)) :
    Calls Try.prog 109 #[.int .i64 i, .agg (tkCells t).toArray, .pointer (some ⟨ps, 0, none⟩)] w fun e w' => e = .returned (.int .i64 (taskE n t)) ∧ Below w.heap.size w w' := by
  obtain ⟨r, hr⟩ : ∃ r, taskE n t = r := ⟨_, rfl⟩
  rw [hr]
  unfold taskE at hr
  obtain ⟨a, b⟩ := t
  simp only at hr
  replace hr := hide hr
  unfold tkCells
  have hp := lt_of_cell h0
  have hp' : ps ≠ w.heap.size := Nat.ne_of_lt hp
  have hI := hide (fun W => isSkill_any A A2 n c n2 c2 a W hn)
  have hB0 := hide (show Below w.heap.size w (w.alloc (.cells #[.int .i64 a, .int .i64 b] 100)) from (Below.refl _ _).alloc (Nat.le_refl _) _)
  have k0 := hide (show Blk (w.alloc (.cells #[.int .i64 a, .int .i64 b] 100)) w.heap.size 100 #[.int .i64 a, .int .i64 b] from blkNew rfl)
  simp only
  go_enter Try.func109, Try.ntmps109
  go_wp2_with fail
  refine (hI.out _).mono ?_
  rintro e w1 ⟨rfl, hb1⟩
  have hB1 := hide (hB0.out.trans (hb1.mono (by simp)))
  have k1 := k0.out.below hb1 k0.out.lt
  have y1 : w1.cell? ⟨w.heap.size, 1, none⟩ = some (.int .i64 b) := k1.cell 1
  clear hb1 hB0 k0 k1 hI h0 h1
  cases hq : inB 0 ((n : Int) - 1) a with
  | false =>
    have hr := hr.out
    rw [hq, if_neg (by simp)] at hr
    subst hr
    clear hq
    go_wp2
    go_ret
    exact ⟨rfl, hB1.out⟩
  | true =>
    have hr1 := hr.out
    rw [hq, if_pos rfl] at hr1
    replace hr1 := hide hr1
    clear hq hr
    go_wp2_with fail
    refine (within_one _ _ b _ _ _ _ (by go_simp)).mono ?_
    rintro e w3 ⟨rfl, rfl⟩
    have hB3 := hide (hB1.out.alloc hB1.out.size (.cells #[.int .i64 b] 3))
    cases hq : inB 0 1000 b with
    | false =>
      have hr2 := hr1.out
      rw [hq, if_neg (by simp)] at hr2
      subst hr2
      clear hq
      go_wp2
      go_ret
      exact ⟨rfl, hB3.out⟩
    | true =>
      have hr2 := hr1.out
      rw [hq, if_pos rfl] at hr2
      subst hr2
      clear hq
      go_wp2
      go_ret
      exact ⟨rfl, hB3.out⟩

theorem enters_task : ∀ args w, (callFunc 109 args).run Try.prog w = .ok (.enter 109 args) w := fun _ _ => by kernel_rfl
theorem isTk (rs : List (Int × Int)) : ∀ x ∈ rs.map tkCells, IsTk x := by
  intro x hx
  obtain ⟨s, _, rfl⟩ := List.mem_map.1 hx
  exact ⟨_, _, rfl⟩
theorem firstTk (A A2 B : Option Addr) (n c n2 c2 m cb : Nat) (ts : List (Int × Int)) (ps : Nat) (w : World) (hn : n ≤ maxLen) (h : RdRow w B m 2 (ts.map tkCells)) (hm : m ≤ maxLen) (h0 : w.cell? ⟨ps, 0, none⟩ = some (.slice A n c)) (h1 : w.cell? ⟨ps, 1, none⟩ = some (.slice A2 n2 c2)) :
    Calls Try.prog 108 #[.slice B m cb, .func (.func 109) #[] #[.pointer (some ⟨ps, 0, none⟩)]] w fun e w' =>
      e = .returned (.tuple #[.int .i64 (firstErr (fun i => taskE n (ts[i]?.getD (0, 0))) 0 m).1, .int .i64 (firstErr (fun i => taskE n (ts[i]?.getD (0, 0))) 0 m).2]) ∧ Below w.heap.size w w' :=
  firstErrorTk 109 #[] #[.pointer (some ⟨ps, 0, none⟩)] enters_task _ B m cb _ w h (isTk ts) hm fun j W hj hb => by
    have hl : ts.length = m := by have := h.1; simpa using this
    rw [sp_at ts j (by omega)]
    have := taskE_any A A2 n c n2 c2 (j : Int) (ts[j]?.getD (0, 0)) ps W hn ((cellB hb (lt_of_cell h0)).trans h0) ((cellB hb (lt_of_cell h0)).trans h1)
    simpa using this

set_option maxRecDepth 100000 in
set_option maxHeartbeats 2000000 in
theorem testError_any (v : Value) (S : Sch) (B : Option Addr) (m cb : Nat) (ts : List (Int × Int)) (al : Int) (w : World) (h : RdSch w v S) (ht : RdRow w B m 2 (ts.map tkCells)) (hm : m ≤ maxLen) :
    Calls Try.prog 75 #[v, .agg #[.slice B m cb, .int .i64 al]] w fun e w' => e = .returned (.int .i64 (testE S ts al)) ∧ Below w.heap.size w w' := by
  have hl : ts.length = m := by have := ht.1; simpa using this
  obtain ⟨r, hr⟩ : ∃ r, testE S ts al = r := ⟨_, rfl⟩
  rw [hr]
  unfold testE at hr
  rw [hl] at hr
  have hC := hide (fun W (hb : Below w.heap.size w W) => CheckS_any v S W (h.below hb))
  unfold Ret3 at hC
  generalize checkS S = q at *
  obtain ⟨q0, q1, q2⟩ := q
  simp only at hr hC
  obtain ⟨A, c, A2, c2, rfl, -, h3, -, -, -, h7, -, -⟩ := h
  generalize S.sks.length = n at *
  generalize S.ins.length = n2 at *
  have hT := hide (fun ps W (hb : Below w.heap.size w W) => firstTk A A2 B n c n2 c2 m cb ts ps W h3 (ht.below hb) hm)
  generalize firstErr (fun i => taskE n (ts[i]?.getD (0, 0))) 0 m = f at *
  obtain ⟨f1, f2⟩ := f
  simp only at hr hT
  unfold maxLen at hm
  have wm : IntKind.i64.wrap ((m : Int) - 1) = (m : Int) - 1 := by rw [IntKind.wrap_i64]; omega
  clear ht h3 h7
  replace hl := hide hl
  have hB0 := hide (show Below w.heap.size w ((w.alloc (.cells #[.slice A n c, .slice A2 n2 c2] 25)).alloc (.cells #[.slice B m cb, .int .i64 al] 48)) from ((Below.refl _ _).alloc (Nat.le_refl _) _).alloc (by simp) _)
  have k0 := hide (show Blk ((w.alloc (.cells #[.slice A n c, .slice A2 n2 c2] 25)).alloc (.cells #[.slice B m cb, .int .i64 al] 48)) w.heap.size 25 #[.slice A n c, .slice A2 n2 c2] from (blkNew rfl).alloc _)
  have k1 := hide (show Blk ((w.alloc (.cells #[.slice A n c, .slice A2 n2 c2] 25)).alloc (.cells #[.slice B m cb, .int .i64 al] 48)) (w.heap.size + 1) 48 #[.slice B m cb, .int .i64 al] from blkNew (by simp))
  replace hr := hide hr
  go_enter Try.func75, Try.ntmps75
  go_wp2_with fail
  refine (hC.out _ hB0.out).mono ?_
  rintro e w1 ⟨rfl, hb1⟩
  have hB1 := hide (hB0.out.trans (hb1.mono (by simp +arith)))
  have hz1 : w.heap.size + 1 < w1.heap.size := Nat.lt_of_lt_of_le (by simp +arith) hb1.size
  have k2 := hide (k0.out.below hb1 k0.out.lt)
  have k3 := hide (k1.out.below hb1 k1.out.lt)
  have y0 : w1.cell? ⟨w.heap.size + 1, 0, none⟩ = some (.slice B m cb) := k3.out.cell 0
  have y1 : w1.cell? ⟨w.heap.size + 1, 1, none⟩ = some (.int .i64 al) := k3.out.cell 1
  clear hb1 hB0 k0 k1 hC
  by_cases h2 : q2 = 0
  · subst h2
    have hr1 := hr.out
    rw [if_pos rfl] at hr1
    replace hr1 := hide hr1
    clear hr
    go_wp2_with fail
    refine (within_one _ _ (m : Int) _ _ _ _ (by go_simp)).mono ?_
    rintro e w3 ⟨rfl, rfl⟩
    have hB3 := hide (hB1.out.alloc hB1.out.size (.cells #[.int .i64 (m : Int)] 3))
    cases hq : inB 1 6 (m : Int) with
    | false =>
      have hr := hr1.out
      rw [hq, if_neg (by simp)] at hr
      subst hr
      clear hq
      go_wp2
      go_ret
      exact ⟨rfl, hB3.out⟩
    | true =>
      have hr := hr1.out
      rw [hq, if_pos rfl] at hr
      replace hr := hide hr
      clear hq hr1
      go_wp2_with fail
      refine (within_one _ _ al _ _ _ _ (by go_simp)).mono ?_
      rintro e w3 ⟨rfl, rfl⟩
      have hB4 := hide (hB3.out.alloc hB3.out.size (.cells #[.int .i64 al] 3))
      have k4 := (k2.out.alloc (.cells #[.int .i64 (m : Int)] 3)).alloc (.cells #[.int .i64 al] 3)
      have y0' : ((w1.alloc (.cells #[.int .i64 (m : Int)] 3)).alloc (.cells #[.int .i64 al] 3)).cell? ⟨w.heap.size + 1, 0, none⟩ = some (.slice B m cb) := ((k3.out.alloc (.cells #[.int .i64 (m : Int)] 3)).alloc (.cells #[.int .i64 al] 3)).cell 0
      have hT1 := hide (hT.out w.heap.size _ hB4.out (k4.cell 0) (k4.cell 1))
      clear k4 hB3 hB1 k2 k3
      cases hq : inB 0 ((m : Int) - 1) al with
      | false =>
        have hr2 := hr.out
        rw [hq, if_neg (by simp)] at hr2
        subst hr2
        clear hq
        go_wp2
        go_ret
        exact ⟨rfl, hB4.out⟩
      | true =>
        have hr2 := hr.out
        rw [hq, if_pos rfl] at hr2
        subst hr2
        clear hq hr
        generalize (w1.alloc (.cells #[.int .i64 (m : Int)] 3)).alloc (.cells #[.int .i64 al] 3) = w4 at *
        go_wp2_with fail
        refine hT1.out.mono ?_
        rintro e w5 ⟨rfl, hb5⟩
        have hB5 := hide (hB4.out.trans (hb5.mono hB4.out.size))
        clear hb5 hB4 hT1
        go_wp2
        go_ret
        exact ⟨rfl, hB5.out⟩
  · have hr1 := hr.out
    rw [if_neg h2] at hr1
    subst hr1
    have hb1 : (q2 == 0) = false := by rw [beq_eq_false_iff_ne]; exact h2
    have hb2 : (q2 != 0) = true := by rw [bne_iff_ne]; exact h2
    replace h2 := hide h2
    clear hr y0 y1
    go_wp2
    go_ret
    exact ⟨rfl, hB1.out⟩
end Go.Proofs.Ytkhijdbigpaagaa
