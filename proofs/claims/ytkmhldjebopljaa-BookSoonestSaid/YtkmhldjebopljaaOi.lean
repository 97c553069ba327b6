import Derived.Test.YtkmhldjebopljaaOh
import Derived.RangeFuncNested
import Derived.RangeFuncBound
import Derived.RangeFuncCalls
import Derived.RangeFuncLeaves
import Derived.RangeFuncBox
import Derived.Shelf.Abstract
import Derived.Shelf.AbstractIn
import Derived.Shelf.RegionOpen
import Derived.OwnWalkIn
import Derived.TacticsInMore
import Derived.LoopNIn
import Derived.LoopIn
/-
  A range over a function whose iterator keeps cells of its own.
-/
namespace Go.Proofs.Ytkmhldjebopljaa
open Go.RowKit Go.Shelf RG

/-- Whatever is cells lies as it lay. -/
def KC (W W' : World) : Prop := W.heap.size ≤ W'.heap.size ∧ ∀ (k : Nat) (cs : Array Value) (t : TypeId) (f : Nat × Nat), W.heap[k]? = some (Obj.cells cs t f) → W'.heap[k]? = some (Obj.cells cs t f)
theorem KC.refl (W : World) : KC W W := ⟨Nat.le_refl _, fun _ _ _ _ h => h⟩
theorem KC.trans {X Y Z : World} (h : KC X Y) (k : KC Y Z) : KC X Z := ⟨Nat.le_trans h.1 k.1, fun i cs t f hi => k.2 i cs t f (h.2 i cs t f hi)⟩
theorem KC.grown {W W' : World} (h : W.grownBy W' none) : KC W W' := ⟨h.size, fun k cs t f hk => (h.block k (Array.getElem?_eq_some_iff.1 hk).1 (by simp)).trans hk⟩
theorem KC.below {W W' : World} (h : Below W.heap.size W W') : KC W W' := KC.grown ⟨h.os, h.tape, h.output, h.size, fun k hk _ => h.block k hk⟩
theorem KC.put {W : World} {l : Nat} {o : Obj} (o' : Obj) (hl : W.heap[l]? = some o) (ho : o.isCells = false) : KC W (W.putObj l o') := by
  have hg := grownBy_putObj' W l o'
  refine ⟨hg.size, fun k cs t f hk => ?_⟩
  by_cases e : k = l
  · subst e; rw [hl] at hk; cases hk; cases ho
  · exact (hg.block k (Array.getElem?_eq_some_iff.1 hk).1 (fun h => e (by cases h; rfl))).trans hk
theorem KC.blk {W W' : World} (h : KC W W') {b : Nat} {t : TypeId} {cs : Array Value} (hb : Blk W b t cs) : Blk W' b t cs := h.2 _ _ _ _ hb

/-- An iterator: J abides whatever happens to blocks that are laid later; Rd: what is read in between; Nx: what may be yielded behind what was. -/
def SeqOwn {α : Type} (n gf : Nat) (lb : Array Value) (encs : α → Array Value) (Rd : List α → World → Prop) (Nx : List α → α → Prop) (S Sp : List α → Prop) (w0 : World) : Prop :=
  ∀ (l : Nat) (J Jx : List α → World → Prop) (W : World), Below w0.heap.size w0 W → (∀ s X Y, J s X → Below W.heap.size X Y → J s Y) → (∀ s X Y, Jx s X → X.grownBy Y none → Jx s Y) →
    (∀ s X, J s X → W.heap.size ≤ X.heap.size) → (∀ s X, J s X → Rd s X) →
    (∀ pre x W1, J pre W1 → Nx pre x → YieldAt Fence.wide (n - 1) Try.prog l (encs x) W1 fun e W' => (e = .returned (.bool true) ∧ J (pre ++ [x]) W') ∨ (e = .returned (.bool false) ∧ Jx (pre ++ [x]) W')) →
    J [] W →
    CallsIn Fence.wide n Try.prog gf (#[.func (.yield l) #[] #[]] ++ lb) W fun e W' => (∃ v, e = .returned v) ∧ ((∃ xs, S xs ∧ J xs W') ∨ ∃ pre, Sp pre ∧ Jx pre W')

theorem below_putObj {B l : Nat} (W : World) (o : Obj) (hs : B ≤ W.heap.size) (h : B ≤ l) : Below B W (W.putObj l o) := by
  have hg := grownBy_putObj' W l o
  exact ⟨hg.os, hg.tape, hg.output, hg.size, fun k hk => hg.block k (by omega) (by simp; omega)⟩

section
variable {α : Type} {n : Nat} {g : Operand} {ps : Array Tmp} {assign body : Code} {Q : Exit → Act → World → Prop} {a : Act} {w : World} {gf : Nat} {lb : Array Value} {encs : α → Array Value} {S Sp : List α → Prop} {Rd : List α → World → Prop} {Nx : List α → α → Prop}
/-- A loop over such an iterator. What holds between two rounds speaks of what lay before the loop alone. -/
theorem range_own (hg : a.eval g = .func (.func gf) #[] lb) (eg : ∀ args w, (callFunc gf args).run Try.prog w = .ok (.enter gf args) w)
    (hseq : SeqOwn (n - 1) gf lb encs Rd Nx S Sp w) (hps : ∀ x, (encs x).size = ps.size)
    (I : List α → World → Prop) (Ix : Code → List α → World → Prop) (hsz : ∀ s X, I s X → w.heap.size ≤ X.heap.size) (hRd : ∀ s X, I s X → Rd s X) (hI : ∀ s X Y, I s X → Below w.heap.size X Y → I s Y) (hIx : ∀ c, OwnFrom w.heap.size (Ix c)) (h0 : I [] w) (Wa : α → World → World) (hWa : ∀ x W, Below W.heap.size W (Wa x W)) (a₁ : α → World → Act)
    (hassign : ∀ (l : Nat) (x : α) (W : World) (K : Act → World → Prop), K (a₁ x W) (Wa x W) →
      assign.wpIn (Fence.wide.inRound l) (n - 1 - 1) Try.prog (Exit.then K (fun _ _ _ => False)) { tmps := (ps.zip (encs x)).foldl (fun t (p, v) => t.setIfInBounds p v) a.tmps, defers := [] } W)
    (hbody : ∀ (l : Nat) (pre : List α) (x : α) (W0 W : World), I pre W0 → I pre W → Nx pre x → KC (Wa x W0) W → body.wpIn (Fence.wide.inRound l) (n - 1 - 1) Try.prog (ownPostG w.heap.size (fun _ _ => True) I Ix (pre ++ [x]) W) (a₁ x W0) W)
    (hdone : ∀ (xs : List α) (W : World), S xs → I xs W → W.heap[w.heap.size]? = some (.deferred (some [])) → Q .normal { a with defers := { target := .collected w.heap.size, args := #[] } :: a.defers } W)
    (hstop : ∀ (c : Code) (pre : List α) (W : World), Sp pre → Ix c pre W → W.heap[w.heap.size]? = some (.deferred (some [])) → c.wpIn Fence.wide n Try.prog Q { a with defers := { target := .collected w.heap.size, args := #[] } :: a.defers } W) :
    (Code.rangeFunc g ps assign body).wpIn Fence.wide n Try.prog Q a w := by
  refine wpIn_rangeFunc fun fn hfn => ?_
  obtain ⟨mk, hmk⟩ : ∃ mk : LoopState → Option Code → Loop, mk = fun st pe => { state := st, pending := pe, fn, tmps := a.tmps, params := ps, assign, body, defers := w.heap.size } := ⟨_, rfl⟩
  obtain ⟨W1, hW1⟩ : ∃ W1, (w.alloc (.deferred (some []))).alloc (.loop (mk .ready none)) = W1 := ⟨_, rfl⟩
  have hs1 : W1.heap.size = w.heap.size + 2 := by rw [← hW1]; simp
  have hb1 : Below w.heap.size w W1 := by rw [← hW1]; exact ((Below.refl _ w).alloc (Nat.le_refl _) _).alloc (by simp) _
  have hl1 : W1.heap[w.heap.size + 1]? = some (.loop (mk .ready none)) := by
    rw [← hW1]; have := World.alloc_heap_new (w.alloc (.deferred (some []))) (.loop (mk .ready none)); rwa [World.size_alloc] at this
  have hd1 : W1.heap[w.heap.size]? = some (.deferred (some [])) := by
    rw [← hW1]; exact (Below.heap_alloc _ _ _ (by simp)).trans (World.alloc_heap_new w _)
  refine ⟨w.heap.size + 1, [{ target := .collected w.heap.size, args := #[] }], W1, { target := .fn (.func gf) lb, args := #[.func (.yield (w.heap.size + 1)) #[] #[]] }, W1, gf,
    #[.func (.yield (w.heap.size + 1)) #[] #[]] ++ lb, W1, ?_, ?_, ?_, ?_, (fun h => absurd h (by decide)), ?_⟩
  · rw [← hW1, hmk]; exact run_enterLoop_outer _ _ _ _ _
  · simp only [resolve, hg]
    simp [go_sem]
  · intro f' _; trivial
  · simp [invoke, go_sem, eg]
  · refine (hseq (w.heap.size + 1)
      (fun pre W => I pre W ∧ W.heap[w.heap.size + 1]? = some (.loop (mk .ready none)) ∧ W.heap[w.heap.size]? = some (.deferred (some [])))
      (fun pre W => ∃ c, Ix c pre W ∧ W.heap[w.heap.size + 1]? = some (.loop (mk .done (some c))) ∧ W.heap[w.heap.size]? = some (.deferred (some []))) W1 hb1 ?_ ?_ ?_ (fun s X h => hRd _ _ h.1) ?_ ⟨hI _ _ _ h0 hb1, hl1, hd1⟩).mono ?_
    · rintro s X Y ⟨h1, h2, h3⟩ hb
      exact ⟨hI _ _ _ h1 (hb.mono (by omega)), (hb.block _ (by omega)).trans h2, (hb.block _ (by omega)).trans h3⟩
    · rintro s X Y ⟨c, h1, h2, h3⟩ hb
      exact ⟨c, hIx c s X Y none h1 hb (fun r e => by cases e), (hb.block _ (Array.getElem?_eq_some_iff.1 h2).1 (by simp)).trans h2, (hb.block _ (Array.getElem?_eq_some_iff.1 h3).1 (by simp)).trans h3⟩
    · rintro s X ⟨h1, h2, h3⟩
      have := (Array.getElem?_eq_some_iff.1 h2).1
      omega
    · rintro pre x W ⟨hi, hl, hd⟩ hpx
      have hlt : w.heap.size + 1 < W.heap.size := (Array.getElem?_eq_some_iff.1 hl).1
      have hy := run_yield (P := Try.prog) (args := encs x) hl (by rw [hmk]; exact hps x)
      rw [hmk] at hy
      refine ⟨fn, _, assign, body, hy, roundIn_of_wpIn hfn (hassign _ x W _ ?_)⟩
      clear hy
      have hi0 := hi
      have hbx := hWa x W
      have hsx : w.heap.size ≤ W.heap.size := by omega
      replace hi := hI _ _ _ hi (hbx.mono hsx)
      replace hl := (hbx.block _ hlt).trans hl
      replace hd := (hbx.block _ (by omega)).trans hd
      replace hlt := Nat.lt_of_lt_of_le hlt hbx.size
      obtain ⟨W0, hW0⟩ : ∃ W0, W = W0 := ⟨_, rfl⟩
      rw [hW0] at hi hl hd hlt hi0 ⊢
      clear hbx hsx hW0 W
      obtain ⟨W, hWx⟩ : ∃ W, Wa x W0 = W := ⟨_, rfl⟩
      rw [hWx] at hi hl hd hlt ⊢
      refine ⟨_, run_beginRound hl (by rw [hmk]), ?_⟩
      obtain ⟨W2, hW2⟩ : ∃ W2, W.putObj (w.heap.size + 1) (.loop { mk .ready none with state := .busy }) = W2 := ⟨_, rfl⟩
      have hl2 : W2.heap[w.heap.size + 1]? = some (.loop { mk .ready none with state := .busy }) := by rw [← hW2]; exact World.putObj_heap_same hlt
      have hd2 : W2.heap[w.heap.size]? = some (.deferred (some [])) := by rw [← hW2]; exact (World.putObj_heap_other (by omega)).trans hd
      have hk2 : KC W W2 := by rw [← hW2]; exact KC.put _ hl rfl
      have hi2 : I pre W2 := by rw [← hW2]; exact hI _ _ _ hi (below_putObj _ _ (by omega) (by omega))
      rw [hW2]
      refine wpIn_mono (hbody _ pre x W0 W2 hi0 hi2 hpx (hWx ▸ hk2)) ?_
      have fin : ∀ (jump : Option Code) (W3 : World), KeepsFrom w.heap.size W2 W3 →
          (Instr.endRound (w.heap.size + 1) jump).run Try.prog W3 = .ok (.bool jump.isNone) (W3.putObj (w.heap.size + 1) (.loop (mk (if jump.isNone then .ready else .done) jump))) ∧
          W3.heap[w.heap.size + 1]? = some (.loop { mk .ready none with state := .busy }) ∧
          (W3.putObj (w.heap.size + 1) (.loop (mk (if jump.isNone then .ready else .done) jump))).heap[w.heap.size + 1]? = some (.loop (mk (if jump.isNone then .ready else .done) jump)) ∧
          (W3.putObj (w.heap.size + 1) (.loop (mk (if jump.isNone then .ready else .done) jump))).heap[w.heap.size]? = some (.deferred (some [])) := fun jump W3 hk3 => by
        have hl3 := hk3.same _ _ (by omega) hl2 rfl
        have hr := run_endRound (P := Try.prog) jump hl3
        have h3 := (Array.getElem?_eq_some_iff.1 hl3).1
        refine ⟨?_, hl3, World.putObj_heap_same h3, (World.putObj_heap_other (by omega)).trans (hk3.same _ _ (Nat.le_refl _) hd2 rfl)⟩
        rw [hmk] at hr ⊢
        exact hr
      rintro e a3 W3 hp
      cases e with
      | normal =>
        obtain ⟨hk3, -, hi3⟩ := hp
        obtain ⟨hr, hl3, hl4, hd4⟩ := fin none W3 hk3
        have := hsz _ _ hi3
        exact ⟨_, _, hr, .inl ⟨rfl, ⟨hI _ _ _ hi3 (below_putObj _ _ this (by omega)), hl4, hd4⟩⟩⟩
      | ret =>
        obtain ⟨hk3, hi3⟩ := hp
        obtain ⟨hr, hl3, hl4, hd4⟩ := fin (some .ret) W3 hk3
        exact ⟨_, _, hr, .inr ⟨rfl, .ret, (hIx _).putObj _ hi3 (by omega) hl3 rfl, hl4, hd4⟩⟩
      | exit id =>
        obtain ⟨hk3, hi3⟩ := hp
        obtain ⟨hr, hl3, hl4, hd4⟩ := fin (some (.exit id)) W3 hk3
        exact ⟨_, _, hr, .inr ⟨rfl, .exit id, (hIx _).putObj _ hi3 (by omega) hl3 rfl, hl4, hd4⟩⟩
      | goto t =>
        obtain ⟨hk3, hi3⟩ := hp
        obtain ⟨hr, hl3, hl4, hd4⟩ := fin (some (.goto t)) W3 hk3
        exact ⟨_, _, hr, .inr ⟨rfl, .goto t, (hIx _).putObj _ hi3 (by omega) hl3 rfl, hl4, hd4⟩⟩
      | panic ch => exact hp.elim
      | outgrown => exact hp.elim
    · rintro e W2 ⟨⟨v, rfl⟩, (⟨xs, hS, hi, hl, hd⟩ | ⟨pre, hSp, c, hi, hl, hd⟩)⟩
      · have hr := run_endLoop (P := Try.prog) hl (by rw [hmk]; simp)
        rw [hmk] at hr
        exact ⟨none, _, hr, hdone xs _ hS (hI _ _ _ hi (below_putObj _ _ (hsz _ _ hi) (by omega))) ((World.putObj_heap_other (by omega)).trans hd)⟩
      · have hr := run_endLoop (P := Try.prog) hl (by rw [hmk]; simp)
        rw [hmk] at hr
        exact ⟨some c, _, hr, hstop c pre _ hSp ((hIx c).putObj _ hi (by omega) hl rfl) ((World.putObj_heap_other (by omega)).trans hd)⟩
end
end Go.Proofs.Ytkmhldjebopljaa

/-
  openLessons: the numbers of all lessons that are open, and the lessons.
-/
namespace Go.Proofs.Ytkmhldjebopljaa
open Go.RowKit Go.Shelf RG
attribute [local go_sem] Oper.semAt_some

/-- The open ones of the first j lessons, with their numbers. -/
def opn (les : List Les) : Nat → List (Nat × Les)
  | 0 => []
  | j + 1 => if (les[j]?.getD default).state = 0 then opn les j ++ [(j, les[j]?.getD default)] else opn les j
theorem opn_lt (les : List Les) : ∀ (j : Nat), ∀ y ∈ opn les j, y.1 < j
  | 0, y, hy => by cases hy
  | j + 1, y, hy => by
    unfold opn at hy
    split at hy
    · rcases List.mem_append.1 hy with h | h
      · have := opn_lt les j y h; omega
      · rw [List.mem_singleton] at h; subst h; show j < j + 1; omega
    · have := opn_lt les j y hy; omega
def encL (x : Nat × Les) : Array Value := #[.int .i64 x.1, .agg (lesCells x.2).toArray]
/-- Block g has the lessons from the i-th on. -/
def LesRd (les : List Les) (g : Nat) (i : Nat) (W : World) : Prop := ∀ j, i ≤ j → j < les.length → W.cell? ⟨g, j * 5, none⟩ = some (.int .i64 (les[j]?.getD default).learner) ∧ W.cell? ⟨g, j * 5 + 1, none⟩ = some (.int .i64 (les[j]?.getD default).car) ∧ W.cell? ⟨g, j * 5 + 2, none⟩ = some (.int .i64 (les[j]?.getD default).start) ∧
  W.cell? ⟨g, j * 5 + 3, none⟩ = some (.int .i64 (les[j]?.getD default).hours) ∧ W.cell? ⟨g, j * 5 + 4, none⟩ = some (.int .i64 (les[j]?.getD default).state)

set_option maxRecDepth 100000 in
set_option maxHeartbeats 2000000 in
theorem opens_in (n l kb p : Nat) (A : Option Addr) (g cap : Nat) (les : List Les) (hn : les.length ≤ 1000) (hA : 0 < les.length → A = some ⟨g, 0, none⟩) (J Jx : List (Nat × Les) → World → Prop) (W : World) (hJ : ∀ s X Y, J s X → Below W.heap.size X Y → J s Y) (hsz : ∀ s X, J s X → W.heap.size ≤ X.heap.size)
    (hRd : ∀ i X, J (opn les i) X → LesRd les g i X)
    (hY : ∀ j X, j < les.length → (les[j]?.getD default).state = 0 → J (opn les j) X → YieldAt Fence.wide (n - 1) Try.prog l (encL (j, les[j]?.getD default)) X fun e W' => (e = .returned (.bool true) ∧ J (opn les (j + 1)) W') ∨ (e = .returned (.bool false) ∧ Jx (opn les (j + 1)) W'))
    (hk : W.cell? ⟨kb, 0, none⟩ = some (.pointer (some ⟨p, 0, none⟩))) (hp : W.cell? ⟨p, 7, none⟩ = some (.slice A les.length cap)) (h0 : J [] W) :
    CallsIn Fence.wide n Try.prog 109 #[.func (.yield l) #[] #[], .pointer (some ⟨kb, 0, none⟩)] W fun e W' => (∃ v, e = .returned v) ∧ (J (opn les les.length) W' ∨ ∃ j, j ≤ les.length ∧ Jx (opn les j) W') := by
  replace hJ := hide hJ
  replace hsz := hide hsz
  replace hRd := hide hRd
  replace hY := hide hY
  obtain ⟨m, hm⟩ : ∃ m, les.length = m := ⟨_, rfl⟩
  rw [hm] at hn hA hY hp ⊢
  refine callsIn_of_wp Try.func109 rfl trivial ?_ rfl
  simp only [Try.ntmps109, List.size_toArray, List.length_cons, List.length_nil, Nat.reduceAdd, Nat.reduceSub, Array.replicate_succ, Array.replicate_zero, List.push_toArray, List.append_toArray, List.nil_append, List.cons_append]
  gi_wp2
  gi_loopw [11] (fun i wr => ∃ k : Nat, k ≤ m ∧ i = .int .i64 k ∧ Hid (J (opn les k) wr))
    (fun i _ => m - (intOf i).toNat)
  case atStart => exact ⟨0, Nat.zero_le _, rfl, h0⟩
  case round =>
    obtain ⟨k, hkm, rfl, hJs⟩ := hrel
    by_cases hlt : k < m
    · have hltz : (k : Int) < (m : Int) := by omega
      obtain rfl := hA (by omega)
      have hcs := hRd.out k wr hJs.out k (Nat.le_refl _) (by rw [hm]; exact hlt)
      obtain ⟨c0, c1, c2, c3, c4⟩ := hcs
      have hy0 := hY.out k
      have hopn : opn les (k + 1) = if (les[k]?.getD default).state = 0 then opn les k ++ [(k, les[k]?.getD default)] else opn les k := rfl
      replace hopn := hide hopn
      generalize hq : les[k]?.getD default = q at *
      obtain ⟨ql, qc, qs, qh, qt⟩ := q
      simp only at c0 c1 c2 c3 c4
      replace hq := hide hq
      by_cases hst : qt = 0
      · subst hst
        have hop := hopn.out
        rw [if_pos rfl] at hop
        have hJa := hJ.out _ _ _ hJs.out ((Below.refl W.heap.size wr).alloc (hsz.out _ _ hJs.out) (.cells #[.int .i64 ql, .int .i64 qc, .int .i64 qs, .int .i64 qh, .int .i64 0] 63))
        obtain ⟨fn, tmps, assign, body, hy, hR⟩ := hy0 _ hlt rfl hJa
        simp only [encL, lesCells] at hy
        clear hy0 hJa hop
        gi_wp2
        refine ⟨fun h => absurd h (by decide), ?_⟩
        refine hR.mono ?_
        clear hR hy
        rintro e W3 (⟨rfl, hJ3⟩ | ⟨rfl, hJx3⟩)
        · replace hJ3 := hide hJ3
          clear c0 c1 c2 c3 c4
          gi_wp2
          go_roundw
          case rel => exact ⟨k + 1, by omega, by go_num, hJ3.out⟩
          case measure => simp [intOf]; omega
        · replace hJx3 := hide hJx3
          clear c0 c1 c2 c3 c4
          gi_wp2
          refine bodyPost_ret (results_none rfl _ _ _) rfl ?_
          exact ⟨⟨_, rfl⟩, .inr ⟨k + 1, by omega, hJx3.out⟩⟩
      · have hst2 : (qt == 0) = false := by rw [beq_eq_false_iff_ne]; exact hst
        have hop := hopn.out
        rw [if_neg hst] at hop
        have hJa := hide (hJ.out _ _ _ hJs.out ((Below.refl W.heap.size wr).alloc (hsz.out _ _ hJs.out) (.cells #[.int .i64 ql, .int .i64 qc, .int .i64 qs, .int .i64 qh, .int .i64 qt] 63)))
        rw [← hop] at hJa
        clear hy0 hop
        gi_wp2
        refine ⟨fun f h => (by cases h), ?_⟩
        clear c0 c1 c2 c3 c4
        gi_wp2
        go_roundw
        case rel => exact ⟨k + 1, by omega, by go_num, hJa.out⟩
        case measure => simp [intOf]; omega
    · obtain rfl : k = m := by omega
      have hltz : ¬ (k : Int) < (k : Int) := by omega
      gi_wp2
      go_end0
      exact ⟨⟨_, rfl⟩, .inl hJs.out⟩
end Go.Proofs.Ytkmhldjebopljaa

/-
  Whether a lesson is in another one's way: case 1 (made by mkbkway.py).
-/
namespace Go.Proofs.Ytkmhldjebopljaa
open Go.RowKit RG

set_option maxRecDepth 100000 in
set_option maxHeartbeats 1000000 in
theorem way1 (ol oc os oh ot ll lc ls lh lt : Int) {q2 : Bool} (h1 : (ol == ll) = true) (h3 : decide (os < ls + lh) = true) (h4 : decide (ls < os + oh) = q2) {w : World} {gl : Nat} (hgl : Blk w gl 63 #[.int .i64 ll, .int .i64 lc, .int .i64 ls, .int .i64 lh, .int .i64 lt]) (ho : (0 ≤ os ∧ os ≤ 24000) ∧ 0 ≤ oh ∧ oh ≤ 1000) (hl : (0 ≤ ls ∧ ls ≤ 24000) ∧ 0 ≤ lh ∧ lh ≤ 1000) :
    Calls Try.prog 99 #[.agg #[.int .i64 ol, .int .i64 oc, .int .i64 os, .int .i64 oh, .int .i64 ot], .pointer (some ⟨gl, 0, none⟩)] w fun e w' => e = .returned (.bool q2) ∧ Below w.heap.size w w' := by
  have hel := hide (show ∀ W, Calls Try.prog 98 #[.agg #[.int .i64 ll, .int .i64 lc, .int .i64 ls, .int .i64 lh, .int .i64 lt]] W fun e w' => e = .returned (.int .i64 (ls + lh)) ∧ Below W.heap.size W w' from fun W => endOf_any ⟨ll, lc, ls, lh, lt⟩ W (by show -1000000 ≤ ls ∧ ls ≤ 1000000 ∧ -1000000 ≤ lh ∧ lh ≤ 1000000; omega))
  have heo := hide (show ∀ W, Calls Try.prog 98 #[.agg #[.int .i64 ol, .int .i64 oc, .int .i64 os, .int .i64 oh, .int .i64 ot]] W fun e w' => e = .returned (.int .i64 (os + oh)) ∧ Below W.heap.size W w' from fun W => endOf_any ⟨ol, oc, os, oh, ot⟩ W (by show -1000000 ≤ os ∧ os ≤ 1000000 ∧ -1000000 ≤ oh ∧ oh ≤ 1000000; omega))
  have kb := hide (blkNew (w := w) (t := 63) (cs := #[.int .i64 ol, .int .i64 oc, .int .i64 os, .int .i64 oh, .int .i64 ot]) rfl)
  have hB := hide ((Below.refl w.heap.size w).alloc (Nat.le_refl _) (.cells #[.int .i64 ol, .int .i64 oc, .int .i64 os, .int .i64 oh, .int .i64 ot] 63))
  obtain ⟨W, hW⟩ : ∃ x, w.alloc (.cells #[.int .i64 ol, .int .i64 oc, .int .i64 os, .int .i64 oh, .int .i64 ot] 63) = x := ⟨_, rfl⟩
  rw [hW] at kb hB
  have hfac := hide (show ∀ W', Below W.heap.size W W' → W'.cell? ⟨w.heap.size, 0, none⟩ = some (.int .i64 ol) ∧ W'.cell? ⟨w.heap.size, 1, none⟩ = some (.int .i64 oc) ∧ W'.cell? ⟨w.heap.size, 2, none⟩ = some (.int .i64 os) ∧ W'.cell? ⟨w.heap.size, 3, none⟩ = some (.int .i64 oh) ∧ W'.cell? ⟨w.heap.size, 4, none⟩ = some (.int .i64 ot) ∧
      W'.cell? ⟨gl, 0, none⟩ = some (.int .i64 ll) ∧ W'.cell? ⟨gl, 1, none⟩ = some (.int .i64 lc) ∧ W'.cell? ⟨gl, 2, none⟩ = some (.int .i64 ls) ∧ W'.cell? ⟨gl, 3, none⟩ = some (.int .i64 lh) ∧ W'.cell? ⟨gl, 4, none⟩ = some (.int .i64 lt) from fun W' hb => by
    have k := kb.out.below hb kb.out.lt
    have k' := (hgl.below hB.out hgl.lt).below hb (Nat.lt_of_lt_of_le hgl.lt hB.out.size)
    exact ⟨k.cell 0, k.cell 1, k.cell 2, k.cell 3, k.cell 4, k'.cell 0, k'.cell 1, k'.cell 2, k'.cell 3, k'.cell 4⟩)
  replace hW := hide hW
  clear hgl kb ho hl
  go_enter Try.func99, Try.ntmps99
  go_upto_region 1 with fail
  rw [hW.out]
  refine region_grow [IsV (.pointer (some ⟨w.heap.size, 0, none⟩)), IsV (.int .i64 ol), IsV (.pointer (some ⟨gl, 0, none⟩)), IsV (.int .i64 ll), IsV (.bool true), IsV (.bool true), IsV (undef), IsV (undef), IsV (undef), IsV (undef), IsV (undef), IsV (.bool true), IsV (.bool true), IsV (.pointer (some ⟨w.heap.size, 2, none⟩)), IsV (.int .i64 os), IsV (.agg #[.int .i64 ll, .int .i64 lc, .int .i64 ls, .int .i64 lh, .int .i64 lt]), IsV (.int .i64 (ls + lh)), IsV (.bool true), IsV (.bool true), IsV (.bool true), IsV (.pointer (some ⟨gl, 2, none⟩)), IsV (.int .i64 ls), IsV (.agg #[.int .i64 ol, .int .i64 oc, .int .i64 os, .int .i64 oh, .int .i64 ot]), IsV (.int .i64 (os + oh)), IsV (.bool q2), IsV (.bool q2), IsV (.bool q2)] (by kernel_rfl) (by kernel_rfl) rfl ?_ ?_ ?_
  · simp [AllStb, IsV.stb]
  · refine ⟨?_, ?_, ?_, ?_, ?_, ?_, ?_, ?_, ?_, ?_, ?_, ?_, ?_, ?_, ?_, ?_, ?_, ?_, ?_, ?_, ?_, ?_, ?_, ?_, ?_, ?_, ?_, trivial⟩
    · intro y w1 K Q Cv hC hd hV
      have f := hfac.out w1 hC
      have a0 := f.1
      have a1 := f.2.1
      have a2 := f.2.2.1
      have a3 := f.2.2.2.1
      have a4 := f.2.2.2.2.1
      have a5 := f.2.2.2.2.2.1
      have a6 := f.2.2.2.2.2.2.1
      have a7 := f.2.2.2.2.2.2.2.1
      have a8 := f.2.2.2.2.2.2.2.2.1
      have a9 := f.2.2.2.2.2.2.2.2.2
      clear f
      clear hd
      simp only [putAll, Act.put]
      go_simp
      intro hK; exact hK _ _ (hV _ _ hC (Below.refl _ _) rfl)
    · intro y w1 K Q Cv hC hd hV
      have f := hfac.out w1 hC
      have a0 := f.1
      have a1 := f.2.1
      have a2 := f.2.2.1
      have a3 := f.2.2.2.1
      have a4 := f.2.2.2.2.1
      have a5 := f.2.2.2.2.2.1
      have a6 := f.2.2.2.2.2.2.1
      have a7 := f.2.2.2.2.2.2.2.1
      have a8 := f.2.2.2.2.2.2.2.2.1
      have a9 := f.2.2.2.2.2.2.2.2.2
      clear f
      simp [deps, VL, IsV, Region.binds] at hd
      simp only [putAll, Act.put]
      go_simp
      intro hK; exact hK _ _ (hV _ _ hC (Below.refl _ _) rfl)
    · intro y w1 K Q Cv hC hd hV
      have f := hfac.out w1 hC
      have a0 := f.1
      have a1 := f.2.1
      have a2 := f.2.2.1
      have a3 := f.2.2.2.1
      have a4 := f.2.2.2.2.1
      have a5 := f.2.2.2.2.2.1
      have a6 := f.2.2.2.2.2.2.1
      have a7 := f.2.2.2.2.2.2.2.1
      have a8 := f.2.2.2.2.2.2.2.2.1
      have a9 := f.2.2.2.2.2.2.2.2.2
      clear f
      clear hd
      simp only [putAll, Act.put]
      go_simp
      intro hK; exact hK _ _ (hV _ _ hC (Below.refl _ _) rfl)
    · intro y w1 K Q Cv hC hd hV
      have f := hfac.out w1 hC
      have a0 := f.1
      have a1 := f.2.1
      have a2 := f.2.2.1
      have a3 := f.2.2.2.1
      have a4 := f.2.2.2.2.1
      have a5 := f.2.2.2.2.2.1
      have a6 := f.2.2.2.2.2.2.1
      have a7 := f.2.2.2.2.2.2.2.1
      have a8 := f.2.2.2.2.2.2.2.2.1
      have a9 := f.2.2.2.2.2.2.2.2.2
      clear f
      simp [deps, VL, IsV, Region.binds] at hd
      simp only [putAll, Act.put]
      go_simp
      intro hK; exact hK _ _ (hV _ _ hC (Below.refl _ _) rfl)
    · intro y w1 K Q Cv hC hd hV
      have f := hfac.out w1 hC
      have a0 := f.1
      have a1 := f.2.1
      have a2 := f.2.2.1
      have a3 := f.2.2.2.1
      have a4 := f.2.2.2.2.1
      have a5 := f.2.2.2.2.2.1
      have a6 := f.2.2.2.2.2.2.1
      have a7 := f.2.2.2.2.2.2.2.1
      have a8 := f.2.2.2.2.2.2.2.2.1
      have a9 := f.2.2.2.2.2.2.2.2.2
      clear f
      simp [deps, VL, IsV, Region.binds] at hd
      simp only [putAll, Act.put]
      go_simp
      intro hK; exact hK _ _ (hV _ _ hC (Below.refl _ _) rfl)
    · intro y w1 K Q Cv hC hd hV
      have f := hfac.out w1 hC
      have a0 := f.1
      have a1 := f.2.1
      have a2 := f.2.2.1
      have a3 := f.2.2.2.1
      have a4 := f.2.2.2.2.1
      have a5 := f.2.2.2.2.2.1
      have a6 := f.2.2.2.2.2.2.1
      have a7 := f.2.2.2.2.2.2.2.1
      have a8 := f.2.2.2.2.2.2.2.2.1
      have a9 := f.2.2.2.2.2.2.2.2.2
      clear f
      simp [deps, VL, IsV, Region.binds] at hd
      simp only [putAll, Act.put]
      go_simp
      intro hK; exact hK _ _ (hV _ _ hC (Below.refl _ _) rfl)
    · intro y w1 K Q Cv hC hd hV
      have f := hfac.out w1 hC
      have a0 := f.1
      have a1 := f.2.1
      have a2 := f.2.2.1
      have a3 := f.2.2.2.1
      have a4 := f.2.2.2.2.1
      have a5 := f.2.2.2.2.2.1
      have a6 := f.2.2.2.2.2.2.1
      have a7 := f.2.2.2.2.2.2.2.1
      have a8 := f.2.2.2.2.2.2.2.2.1
      have a9 := f.2.2.2.2.2.2.2.2.2
      clear f
      simp [deps, VL, IsV, Region.binds] at hd
      simp only [putAll, Act.put]
      go_simp
      intro hK; exact hK _ _ (hV _ _ hC (Below.refl _ _) rfl)
    · intro y w1 K Q Cv hC hd hV
      have f := hfac.out w1 hC
      have a0 := f.1
      have a1 := f.2.1
      have a2 := f.2.2.1
      have a3 := f.2.2.2.1
      have a4 := f.2.2.2.2.1
      have a5 := f.2.2.2.2.2.1
      have a6 := f.2.2.2.2.2.2.1
      have a7 := f.2.2.2.2.2.2.2.1
      have a8 := f.2.2.2.2.2.2.2.2.1
      have a9 := f.2.2.2.2.2.2.2.2.2
      clear f
      simp [deps, VL, IsV, Region.binds] at hd
      simp only [putAll, Act.put]
      go_simp
      intro hK; exact hK _ _ (hV _ _ hC (Below.refl _ _) rfl)
    · intro y w1 K Q Cv hC hd hV
      have f := hfac.out w1 hC
      have a0 := f.1
      have a1 := f.2.1
      have a2 := f.2.2.1
      have a3 := f.2.2.2.1
      have a4 := f.2.2.2.2.1
      have a5 := f.2.2.2.2.2.1
      have a6 := f.2.2.2.2.2.2.1
      have a7 := f.2.2.2.2.2.2.2.1
      have a8 := f.2.2.2.2.2.2.2.2.1
      have a9 := f.2.2.2.2.2.2.2.2.2
      clear f
      simp [deps, VL, IsV, Region.binds] at hd
      simp only [putAll, Act.put]
      go_simp
      intro hK; exact hK _ _ (hV _ _ hC (Below.refl _ _) rfl)
    · intro y w1 K Q Cv hC hd hV
      have f := hfac.out w1 hC
      have a0 := f.1
      have a1 := f.2.1
      have a2 := f.2.2.1
      have a3 := f.2.2.2.1
      have a4 := f.2.2.2.2.1
      have a5 := f.2.2.2.2.2.1
      have a6 := f.2.2.2.2.2.2.1
      have a7 := f.2.2.2.2.2.2.2.1
      have a8 := f.2.2.2.2.2.2.2.2.1
      have a9 := f.2.2.2.2.2.2.2.2.2
      clear f
      simp [deps, VL, IsV, Region.binds] at hd
      simp only [putAll, Act.put]
      go_simp
      intro hK; exact hK _ _ (hV _ _ hC (Below.refl _ _) rfl)
    · intro y w1 K Q Cv hC hd hV
      have f := hfac.out w1 hC
      have a0 := f.1
      have a1 := f.2.1
      have a2 := f.2.2.1
      have a3 := f.2.2.2.1
      have a4 := f.2.2.2.2.1
      have a5 := f.2.2.2.2.2.1
      have a6 := f.2.2.2.2.2.2.1
      have a7 := f.2.2.2.2.2.2.2.1
      have a8 := f.2.2.2.2.2.2.2.2.1
      have a9 := f.2.2.2.2.2.2.2.2.2
      clear f
      simp [deps, VL, IsV, Region.binds] at hd
      simp only [putAll, Act.put]
      go_simp
      intro hK; exact hK _ _ (hV _ _ hC (Below.refl _ _) rfl)
    · intro y w1 K Q Cv hC hd hV
      have f := hfac.out w1 hC
      have a0 := f.1
      have a1 := f.2.1
      have a2 := f.2.2.1
      have a3 := f.2.2.2.1
      have a4 := f.2.2.2.2.1
      have a5 := f.2.2.2.2.2.1
      have a6 := f.2.2.2.2.2.2.1
      have a7 := f.2.2.2.2.2.2.2.1
      have a8 := f.2.2.2.2.2.2.2.2.1
      have a9 := f.2.2.2.2.2.2.2.2.2
      clear f
      simp [deps, VL, IsV, Region.binds] at hd
      simp only [putAll, Act.put]
      go_simp
      intro hK; exact hK _ _ (hV _ _ hC (Below.refl _ _) rfl)
    · intro y w1 K Q Cv hC hd hV
      have f := hfac.out w1 hC
      have a0 := f.1
      have a1 := f.2.1
      have a2 := f.2.2.1
      have a3 := f.2.2.2.1
      have a4 := f.2.2.2.2.1
      have a5 := f.2.2.2.2.2.1
      have a6 := f.2.2.2.2.2.2.1
      have a7 := f.2.2.2.2.2.2.2.1
      have a8 := f.2.2.2.2.2.2.2.2.1
      have a9 := f.2.2.2.2.2.2.2.2.2
      clear f
      simp [deps, VL, IsV, Region.binds] at hd
      simp only [putAll, Act.put]
      go_simp
      intro hK; exact hK _ _ (hV _ _ hC (Below.refl _ _) rfl)
    · intro y w1 K Q Cv hC hd hV
      have f := hfac.out w1 hC
      have a0 := f.1
      have a1 := f.2.1
      have a2 := f.2.2.1
      have a3 := f.2.2.2.1
      have a4 := f.2.2.2.2.1
      have a5 := f.2.2.2.2.2.1
      have a6 := f.2.2.2.2.2.2.1
      have a7 := f.2.2.2.2.2.2.2.1
      have a8 := f.2.2.2.2.2.2.2.2.1
      have a9 := f.2.2.2.2.2.2.2.2.2
      clear f
      simp [deps, VL, IsV, Region.binds] at hd
      simp only [putAll, Act.put]
      go_simp
      intro hK; exact hK _ _ (hV _ _ hC (Below.refl _ _) rfl)
    · intro y w1 K Q Cv hC hd hV
      have f := hfac.out w1 hC
      have a0 := f.1
      have a1 := f.2.1
      have a2 := f.2.2.1
      have a3 := f.2.2.2.1
      have a4 := f.2.2.2.2.1
      have a5 := f.2.2.2.2.2.1
      have a6 := f.2.2.2.2.2.2.1
      have a7 := f.2.2.2.2.2.2.2.1
      have a8 := f.2.2.2.2.2.2.2.2.1
      have a9 := f.2.2.2.2.2.2.2.2.2
      clear f
      simp [deps, VL, IsV, Region.binds] at hd
      simp only [putAll, Act.put]
      go_simp
      intro hK; exact hK _ _ (hV _ _ hC (Below.refl _ _) rfl)
    · intro y w1 K Q Cv hC hd hV
      have f := hfac.out w1 hC
      have a0 := f.1
      have a1 := f.2.1
      have a2 := f.2.2.1
      have a3 := f.2.2.2.1
      have a4 := f.2.2.2.2.1
      have a5 := f.2.2.2.2.2.1
      have a6 := f.2.2.2.2.2.2.1
      have a7 := f.2.2.2.2.2.2.2.1
      have a8 := f.2.2.2.2.2.2.2.2.1
      have a9 := f.2.2.2.2.2.2.2.2.2
      clear f
      simp [deps, VL, IsV, Region.binds] at hd
      simp only [putAll, Act.put]
      go_simp
      intro hK; exact hK _ _ (hV _ _ hC (Below.refl _ _) rfl)
    · intro y w1 K Q Cv hC hd hV
      have f := hfac.out w1 hC
      have a0 := f.1
      have a1 := f.2.1
      have a2 := f.2.2.1
      have a3 := f.2.2.2.1
      have a4 := f.2.2.2.2.1
      have a5 := f.2.2.2.2.2.1
      have a6 := f.2.2.2.2.2.2.1
      have a7 := f.2.2.2.2.2.2.2.1
      have a8 := f.2.2.2.2.2.2.2.2.1
      have a9 := f.2.2.2.2.2.2.2.2.2
      clear f
      simp [deps, VL, IsV, Region.binds] at hd
      simp only [putAll, Act.put]
      go_simp
      intro hK; refine (hel.out _).mono ?_; rintro e w2 ⟨rfl, hb⟩; exact hK _ _ (hV _ _ (hC.trans (hb.mono hC.size)) hb rfl)
    · intro y w1 K Q Cv hC hd hV
      have f := hfac.out w1 hC
      have a0 := f.1
      have a1 := f.2.1
      have a2 := f.2.2.1
      have a3 := f.2.2.2.1
      have a4 := f.2.2.2.2.1
      have a5 := f.2.2.2.2.2.1
      have a6 := f.2.2.2.2.2.2.1
      have a7 := f.2.2.2.2.2.2.2.1
      have a8 := f.2.2.2.2.2.2.2.2.1
      have a9 := f.2.2.2.2.2.2.2.2.2
      clear f
      simp [deps, VL, IsV, Region.binds] at hd
      simp only [putAll, Act.put]
      go_simp
      intro hK; exact hK _ _ (hV _ _ hC (Below.refl _ _) rfl)
    · intro y w1 K Q Cv hC hd hV
      have f := hfac.out w1 hC
      have a0 := f.1
      have a1 := f.2.1
      have a2 := f.2.2.1
      have a3 := f.2.2.2.1
      have a4 := f.2.2.2.2.1
      have a5 := f.2.2.2.2.2.1
      have a6 := f.2.2.2.2.2.2.1
      have a7 := f.2.2.2.2.2.2.2.1
      have a8 := f.2.2.2.2.2.2.2.2.1
      have a9 := f.2.2.2.2.2.2.2.2.2
      clear f
      simp [deps, VL, IsV, Region.binds] at hd
      simp only [putAll, Act.put]
      go_simp
      intro hK; exact hK _ _ (hV _ _ hC (Below.refl _ _) rfl)
    · intro y w1 K Q Cv hC hd hV
      have f := hfac.out w1 hC
      have a0 := f.1
      have a1 := f.2.1
      have a2 := f.2.2.1
      have a3 := f.2.2.2.1
      have a4 := f.2.2.2.2.1
      have a5 := f.2.2.2.2.2.1
      have a6 := f.2.2.2.2.2.2.1
      have a7 := f.2.2.2.2.2.2.2.1
      have a8 := f.2.2.2.2.2.2.2.2.1
      have a9 := f.2.2.2.2.2.2.2.2.2
      clear f
      simp [deps, VL, IsV, Region.binds] at hd
      simp only [putAll, Act.put]
      go_simp
      intro hK; exact hK _ _ (hV _ _ hC (Below.refl _ _) rfl)
    · intro y w1 K Q Cv hC hd hV
      have f := hfac.out w1 hC
      have a0 := f.1
      have a1 := f.2.1
      have a2 := f.2.2.1
      have a3 := f.2.2.2.1
      have a4 := f.2.2.2.2.1
      have a5 := f.2.2.2.2.2.1
      have a6 := f.2.2.2.2.2.2.1
      have a7 := f.2.2.2.2.2.2.2.1
      have a8 := f.2.2.2.2.2.2.2.2.1
      have a9 := f.2.2.2.2.2.2.2.2.2
      clear f
      simp [deps, VL, IsV, Region.binds] at hd
      simp only [putAll, Act.put]
      go_simp
      intro hK; exact hK _ _ (hV _ _ hC (Below.refl _ _) rfl)
    · intro y w1 K Q Cv hC hd hV
      have f := hfac.out w1 hC
      have a0 := f.1
      have a1 := f.2.1
      have a2 := f.2.2.1
      have a3 := f.2.2.2.1
      have a4 := f.2.2.2.2.1
      have a5 := f.2.2.2.2.2.1
      have a6 := f.2.2.2.2.2.2.1
      have a7 := f.2.2.2.2.2.2.2.1
      have a8 := f.2.2.2.2.2.2.2.2.1
      have a9 := f.2.2.2.2.2.2.2.2.2
      clear f
      simp [deps, VL, IsV, Region.binds] at hd
      simp only [putAll, Act.put]
      go_simp
      intro hK; exact hK _ _ (hV _ _ hC (Below.refl _ _) rfl)
    · intro y w1 K Q Cv hC hd hV
      have f := hfac.out w1 hC
      have a0 := f.1
      have a1 := f.2.1
      have a2 := f.2.2.1
      have a3 := f.2.2.2.1
      have a4 := f.2.2.2.2.1
      have a5 := f.2.2.2.2.2.1
      have a6 := f.2.2.2.2.2.2.1
      have a7 := f.2.2.2.2.2.2.2.1
      have a8 := f.2.2.2.2.2.2.2.2.1
      have a9 := f.2.2.2.2.2.2.2.2.2
      clear f
      simp [deps, VL, IsV, Region.binds] at hd
      simp only [putAll, Act.put]
      go_simp
      intro hK; exact hK _ _ (hV _ _ hC (Below.refl _ _) rfl)
    · intro y w1 K Q Cv hC hd hV
      have f := hfac.out w1 hC
      have a0 := f.1
      have a1 := f.2.1
      have a2 := f.2.2.1
      have a3 := f.2.2.2.1
      have a4 := f.2.2.2.2.1
      have a5 := f.2.2.2.2.2.1
      have a6 := f.2.2.2.2.2.2.1
      have a7 := f.2.2.2.2.2.2.2.1
      have a8 := f.2.2.2.2.2.2.2.2.1
      have a9 := f.2.2.2.2.2.2.2.2.2
      clear f
      simp [deps, VL, IsV, Region.binds] at hd
      simp only [putAll, Act.put]
      go_simp
      intro hK; refine (heo.out _).mono ?_; rintro e w2 ⟨rfl, hb⟩; exact hK _ _ (hV _ _ (hC.trans (hb.mono hC.size)) hb rfl)
    · intro y w1 K Q Cv hC hd hV
      have f := hfac.out w1 hC
      have a0 := f.1
      have a1 := f.2.1
      have a2 := f.2.2.1
      have a3 := f.2.2.2.1
      have a4 := f.2.2.2.2.1
      have a5 := f.2.2.2.2.2.1
      have a6 := f.2.2.2.2.2.2.1
      have a7 := f.2.2.2.2.2.2.2.1
      have a8 := f.2.2.2.2.2.2.2.2.1
      have a9 := f.2.2.2.2.2.2.2.2.2
      clear f
      simp [deps, VL, IsV, Region.binds] at hd
      simp only [putAll, Act.put]
      go_simp
      intro hK; exact hK _ _ (hV _ _ hC (Below.refl _ _) rfl)
    · intro y w1 K Q Cv hC hd hV
      have f := hfac.out w1 hC
      have a0 := f.1
      have a1 := f.2.1
      have a2 := f.2.2.1
      have a3 := f.2.2.2.1
      have a4 := f.2.2.2.2.1
      have a5 := f.2.2.2.2.2.1
      have a6 := f.2.2.2.2.2.2.1
      have a7 := f.2.2.2.2.2.2.2.1
      have a8 := f.2.2.2.2.2.2.2.2.1
      have a9 := f.2.2.2.2.2.2.2.2.2
      clear f
      simp [deps, VL, IsV, Region.binds] at hd
      simp only [putAll, Act.put]
      go_simp
      intro hK; exact hK _ _ (hV _ _ hC (Below.refl _ _) rfl)
    · intro y w1 K Q Cv hC hd hV
      have f := hfac.out w1 hC
      have a0 := f.1
      have a1 := f.2.1
      have a2 := f.2.2.1
      have a3 := f.2.2.2.1
      have a4 := f.2.2.2.2.1
      have a5 := f.2.2.2.2.2.1
      have a6 := f.2.2.2.2.2.2.1
      have a7 := f.2.2.2.2.2.2.2.1
      have a8 := f.2.2.2.2.2.2.2.2.1
      have a9 := f.2.2.2.2.2.2.2.2.2
      clear f
      simp [deps, VL, IsV, Region.binds] at hd
      simp only [putAll, Act.put]
      go_simp
      intro hK; exact hK _ _ (hV _ _ hC (Below.refl _ _) rfl)
  intro y w1 hC hd
  simp [EndsL, IsV] at hd
  obtain ⟨d0, d1, d2, d3, d4, d5, d6, d7, d8, d9, d10, d11, d12, d13, d14, d15, d16, d17, d18, d19, d20, d21, d22, d23, d24, d25, d26⟩ := hd
  simp only [putAll, Act.put]
  rw [d0, d1, d2, d3, d4, d5, d6, d7, d8, d9, d10, d11, d12, d13, d14, d15, d16, d17, d18, d19, d20, d21, d22, d23, d24, d25, d26]
  clear d0 d1 d2 d3 d4 d5 d6 d7 d8 d9 d10 d11 d12 d13 d14 d15 d16 d17 d18 d19 d20 d21 d22 d23 d24 d25 d26 hfac hel heo
  simp only [List.setIfInBounds_toArray, List.set_cons_succ, List.set_cons_zero]
  have hB1 := hide (hB.out.trans (hC.mono hB.out.size))
  go_wp2
  go_ret
  exact ⟨rfl, hB1.out⟩
end Go.Proofs.Ytkmhldjebopljaa
