import Derived.Test.YtjfdfhnfcpfmcaaGreatDoorMe
import Derived.Shelf.SlSortCmp.NoneTotal
import Derived.Test.YtjfdfhnfcpfmcaaGreatDoorShS
import Derived.Ground.SlsfProg
import Derived.Maps.OwnSet
/-
  slices.SortFunc and slices.SortedFunc of rights.
-/
namespace Go.Proofs
open Go.Shelf Go.RowKit Go.Lib Go.Sort
end Go.Proofs
namespace Go.Proofs.YtjfdfhnfcpfmcaaGreatDoor
open Go.RowKit Go.Sort Go.Shelf Go.Maps
attribute [local go_sem] Oper.semAt_some

def cfR (x y : Rt) : Int := cmpR x.1 y.1
theorem ltR (x y : Rt) : ltOf cfR x y = decide (x.1.1 < y.1.1 ∨ (x.1.1 = y.1.1 ∧ x.1.2 < y.1.2)) := by
  unfold ltOf cfR cmpR cmpI
  rw [decide_eq_decide]
  split <;> split <;> (try split) <;> omega
theorem swoR : SWO (ltOf cfR) := {
  irrefl := fun x => by rw [ltR]; simp
  trans := fun x y z h1 h2 => by rw [ltR] at *; simp at *; omega
  ntrans := fun x y z h1 h2 => by rw [ltR] at *; simp at *; omega }
theorem totR (x y : Rt) (h1 : ltOf cfR x y = false) (h2 : ltOf cfR y x = false) : x = y := by
  rw [ltR] at h1 h2
  simp at h1 h2
  exact Subtype.ext (Prod.ext (by omega) (by omega))
/-- Rights in order. -/
def sortR (ss : List Rt) : List Rt := ss.mergeSort fun x y => !ltOf cfR y x
theorem sortR_len (ss : List Rt) : (sortR ss).length = ss.length := List.length_mergeSort ..

theorem enters_cmp : ∀ args w, (callFunc 110 args).run Tryz.prog w = .ok (.enter 110 args) w := fun _ _ => by kernel_rfl

theorem SortFunc_own (w : World) (base g cap : Nat) (cur : Array Value) (ss : List Rt) (hbase : base ≤ g) (hb : w.heap[g]? = some (.cells cur 64 (0, 0))) (h1 : ss.length ≤ cap) (h2 : cap ≤ maxLen) (hsl : ss.length < 4611686018427387904) (h3 : cur.size = cap * 2) (h4 : cur.toList.take (ss.length * 2) = rtFlat ss) :
    Calls Tryz.prog 127 #[.slice (some ⟨g, 0, none⟩) ss.length cap, .func (.func 110) #[] #[]] w fun e w' => e = .returned (.tuple #[]) ∧
      w'.ownsRow base 64 2 (.slice (some ⟨g, 0, none⟩) ss.length cap) ss.length (rtFlat (sortR ss)) ∧ w.grownBy w' (some g) := by
  have hcon := AnyQ.slices_SortFunc_total Tryz.sortRt 2 Tryz.isAgg64 Tryz.sizeOf64 encR (fun _ => rfl) (fun x v hv => by simp [encR] at hv; rcases hv with rfl | rfl <;> rfl) cfR swoR 110 #[] g 0 cap ss.toArray w enters_cmp
    (fun _ _ _ _ x y => compareRights_any x.1.1 x.1.2 y.1.1 y.1.2 _) (holdsK_of_block hb h4) (Array.getElem?_eq_some_iff.1 hb).1 (by simpa using hsl) totR
  have hcon : Calls Tryz.prog 127 #[.slice (some ⟨g, 0, none⟩) ss.length cap, .func (.func 110) #[] #[]] w _ := hcon
  refine hcon.mono ?_
  rintro e w' ⟨rfl, n, os, rfl⟩
  refine ⟨rfl, ownsRow_sortedR (sortR_len ss) hbase hb h1 h2 h3, grownBy_sortedR _⟩

end Go.Proofs.YtjfdfhnfcpfmcaaGreatDoor

namespace Go.Proofs.YtjfdfhnfcpfmcaaGreatDoor
open Go.RowKit Go.Sort Go.Shelf Go.Maps

theorem sortNone (p : Option Addr) (cap : Nat) (w : World) : Calls Tryz.prog 127 #[.slice p 0 cap, .func (.func 110) #[] #[]] w fun e w' => e = .returned (.tuple #[]) ∧ w' = w := by
  have := AnyF.slices_SortFunc_none { Tryz.sortRt with } p cap (.func (.func 110) #[] #[]) w
  exact this

theorem Collect_any (g : Nat) (lb : Array Value) (eg : ∀ args w, (callFunc g args).run Tryz.prog w = .ok (.enter g args) w) (S Sp : List Rt → Prop) (N : Nat) (hN : N ≤ maxLen) (hN2 : N * 16 ≤ 140737488355328) (w0 w : World)
    (hseq : SeqStopsK Fence.wide 5 Tryz.prog g lb encA KeepsWalks S Sp N w0) (hb0 : Below w0.heap.size w0 w) :
    Calls Tryz.prog 105 #[.func (.func g) #[] lb] w fun e W' => ∃ v ss, e = .returned v ∧ S ss ∧ W'.ownsRow w.heap.size 64 2 v ss.length (rtFlat ss) ∧ Below w.heap.size w W' :=
  callsIn_wide.1 (Collect_in Fence.wide 7 trivial trivial rfl (by omega) g lb trivial eg S Sp N hN hN2 w0 w hseq hb0)

set_option maxHeartbeats 1000000 in
theorem SortedFunc_any (g : Nat) (lb : Array Value) (eg : ∀ args w, (callFunc g args).run Tryz.prog w = .ok (.enter g args) w) (S Sp : List Rt → Prop) (N : Nat) (hN : N ≤ maxLen) (hN2 : N * 16 ≤ 140737488355328) (hSl : ∀ ss, S ss → ss.length ≤ 1000000) (w0 w : World)
    (hseq : SeqStopsK Fence.wide 5 Tryz.prog g lb encA KeepsWalks S Sp N w0) (hb0 : Below w0.heap.size w0 w) :
    Calls Tryz.prog 109 #[.func (.func g) #[] lb, .func (.func 110) #[] #[]] w fun e W' => ∃ v ss, e = .returned v ∧ S ss ∧ W'.ownsRow w.heap.size 64 2 v ss.length (rtFlat (sortR ss)) ∧ Below w.heap.size w W' := by
  have hC := hide (Collect_any g lb eg S Sp N hN hN2 w0 w hseq hb0)
  replace hSl := hide hSl
  clear hseq
  go_enter Tryz.func109, Tryz.ntmps109
  go_wp2_with fail
  refine hC.out.mono ?_
  rintro e w1 ⟨v, ss, rfl, hS, hrow, hb1⟩
  have hlen := hSl.out ss hS
  rcases hrow.2 with ⟨rfl, hz⟩ | ⟨gb, cap, cur, rfl, hbase, hgb, r1, r2, r3, r4⟩
  · have hss : ss = [] := List.eq_nil_of_length_eq_zero hz
    subst hss
    replace hrow := hide hrow
    replace hS := hide hS
    go_wp2_with fail
    refine (sortNone none 0 w1).mono ?_
    rintro e w2 ⟨rfl, rfl⟩
    go_wp2
    go_ret
    exact ⟨.slice none 0 0, [], rfl, hS.out, by simpa [sortR] using hrow.out, hb1⟩
  · have hcall := hide (SortFunc_own w1 w.heap.size gb cap cur ss hbase hgb r1 r2 (by omega) r3 r4)
    clear hgb r3 r4 hrow
    replace hS := hide hS
    go_wp2_with fail
    refine hcall.out.mono ?_
    rintro e w2 ⟨rfl, hrow2, hg2⟩
    replace hrow2 := hide hrow2
    go_wp2
    go_ret
    exact ⟨_, ss, rfl, hS.out, hrow2.out, hb1.grown hg2 hb1.size (fun j hj => by cases hj; exact hbase)⟩
end Go.Proofs.YtjfdfhnfcpfmcaaGreatDoor

/-
  A map of rights to true, as a set.
-/
namespace Go.Proofs.YtjfdfhnfcpfmcaaGreatDoor
open Go.RowKit Go.Sort Go.Shelf Go.Maps

/-- Block b is a map of at most n rights: those of p. -/
def SetM (W : World) (b n : Nat) (p : Rt → Prop) : Prop := ∃ D : DataW Unit, W.ownsMap Tryz.prog 64 (plainElem Tryz.prog 4) b n D ∧ (∀ x, has D (litK x) = true ↔ p x) ∧ Maps.size D ≤ n
theorem litK_key (x : Rt) : WideAt.IsKeyLit (litK x) := rtLaw.key (keyOf_rt x)
theorem SetM.made (w : World) : SetM (w.alloc (.map #[] 0)) w.heap.size 0 (fun _ => False) :=
  ⟨.map [], World.ownsMap_made w Tryz.prog 64 (plainElem Tryz.prog 4), fun x => by simp [has], by simp [Maps.size]⟩
theorem SetM.kept {W W' : World} {row : Option Nat} {b n : Nat} {p : Rt → Prop} (h : SetM W b n p) (hg : W.grownBy W' row) (hne : some b ≠ row) : SetM W' b n p := by
  obtain ⟨D, h1, h2, h3⟩ := h
  exact ⟨D, h1.kept hg hne, h2, h3⟩
theorem SetM.alloc {W : World} {b n : Nat} {p : Rt → Prop} (h : SetM W b n p) (o : Obj) : SetM (W.alloc o) b n p := h.kept (World.grownBy_alloc W o none) (by simp)
theorem SetM.lt {W : World} {b n : Nat} {p : Rt → Prop} (h : SetM W b n p) : b < W.heap.size := by
  obtain ⟨D, h1, _⟩ := h
  exact h1.lt
theorem SetM.put_ {W : World} {b n : Nat} {p : Rt → Prop} {D : DataW Unit} (h1 : W.ownsMap Tryz.prog 64 (plainElem Tryz.prog 4) b n D) (h2 : ∀ x, has D (litK x) = true ↔ p x) (h3 : Maps.size D ≤ n) {W' : World} {x : Rt}
    (h : W'.ownsMap Tryz.prog 64 (plainElem Tryz.prog 4) b (n + 1) (D.put (litK x) (.lit (.bool true)))) : SetM W' b (n + 1) (fun y => p y ∨ y = x) := by
  refine ⟨_, h, fun y => ?_, ?_⟩
  · by_cases e : y = x
    · subst e
      rw [has_put_same h1.isMap (litK_key y)]
      simp
    · rw [has_put_other (fun e' => e (litK_inj e')), h2 y]
      simp [e]
  · rw [size_put (h1.tidy rtLaw)]
    split <;> omega
theorem SetM.del_ {W : World} {b n : Nat} {p : Rt → Prop} {D : DataW Unit} (h1 : W.ownsMap Tryz.prog 64 (plainElem Tryz.prog 4) b n D) (h2 : ∀ x, has D (litK x) = true ↔ p x) (h3 : Maps.size D ≤ n) {W' : World} {x : Rt}
    (h : W'.ownsMap Tryz.prog 64 (plainElem Tryz.prog 4) b n (D.del (litK x))) : SetM W' b n (fun y => p y ∧ y ≠ x) := by
  refine ⟨_, h, fun y => ?_, ?_⟩
  · by_cases e : y = x
    · subst e
      rw [has_del_same]
      simp
    · rw [has_del_other (fun e' => e (litK_inj e')), h2 y]
      simp [e]
  · have := size_del (k := litK x) (h1.tidy rtLaw)
    omega
theorem SetM.congr {W : World} {b n : Nat} {p q : Rt → Prop} (h : SetM W b n p) (e : ∀ x, p x ↔ q x) : SetM W b n q := by
  obtain ⟨D, h1, h2, h3⟩ := h
  exact ⟨D, h1, fun x => (h2 x).trans (e x), h3⟩
end Go.Proofs.YtjfdfhnfcpfmcaaGreatDoor

/-
  view.least.
-/
namespace Go.Proofs.YtjfdfhnfcpfmcaaGreatDoor
open Go.RowKit Go.Sort Go.Shelf Go.Maps RG
attribute [local go_sem] Oper.semAt_some

theorem grow_of {w w' : World} (h : Below w.heap.size w w') (row : Option Nat) : w.grownBy w' row := ⟨h.os, h.tape, h.output, h.size, fun k hk _ => h.block k hk⟩
theorem keys_any (mb : Option Nat) (w : World) : Calls Tryz.prog 106 #[.map mb] w fun e w' => e = .returned (.func (.func 126) #[] #[.pointer (some ⟨w.heap.size, 0, none⟩)]) ∧ w' = w.alloc (.cells #[.map mb] 131) :=
  callsIn_wide.1 (keys_in Fence.wide 9 trivial rfl mb w)
theorem enters_keys1 : ∀ args w, (callFunc 126 args).run Tryz.prog w = .ok (.enter 126 args) w := fun _ _ => by kernel_rfl
theorem enters_least1 : ∀ args w, (callFunc 107 args).run Tryz.prog w = .ok (.enter 107 args) w := fun _ _ => by kernel_rfl
theorem rts_of_own {w : World} {base : Nat} {v : Value} {xs : List Rt} (h : w.ownsRow base 64 2 v xs.length (rtFlat xs)) :
    ∃ A c, v = .slice A xs.length c ∧ RdRow w A xs.length 2 (rtRow xs) ∧ xs.length ≤ c ∧ ∀ b off, A = some ⟨b, off, none⟩ → base ≤ b := by
  rcases h.2 with ⟨rfl, h0⟩ | ⟨g, cap, cur, rfl, hbase, hg, hc, _, hs', ht⟩
  · obtain rfl : xs = [] := List.eq_nil_of_length_eq_zero h0
    exact ⟨none, 0, rfl, RdRow.nil w none 2, Nat.le_refl _, fun _ _ e => by cases e⟩
  · refine ⟨_, cap, rfl, ⟨by simp [rtRow], fun x hx => ?_, fun hn => ⟨g, 0, rfl, ?_, fun j i v hv => ?_⟩⟩, hc, fun b off e => by cases e; exact hbase⟩
    · obtain ⟨y, _, rfl⟩ := List.mem_map.1 hx
      rfl
    · exact (Array.getElem?_eq_some_iff.1 hg).1
    · have hj : j < xs.length := by
        rcases Nat.lt_or_ge j xs.length with h' | h'
        · exact h'
        · rw [List.getElem?_eq_none (l := rtRow xs) (i := j) (by simpa [rtRow] using h')] at hv
          simp at hv
      rw [rtRow_at xs j hj] at hv
      have hi : i < 2 := by
        rcases Nat.lt_or_ge i 2 with h' | h'
        · exact h'
        · rw [List.getElem?_eq_none (by simpa using h')] at hv; cases hv
      have h1 : w.cell? ⟨g, 0 + j * 2 + i, none⟩ = cur[j * 2 + i]? := by rw [Nat.zero_add]; exact cell_of_row w g (j * 2 + i) cur _ (0, 0) hg
      rw [h1]
      have h2 : (cur.toList.take (xs.length * 2))[j * 2 + i]? = (rtFlat xs)[j * 2 + i]? := by rw [ht]
      rw [List.getElem?_take_of_lt (by omega), rtFlat_at xs _ (by omega), show (j * 2 + i) / 2 = j by omega, show (j * 2 + i) % 2 = i by omega, getElem!_pos xs j hj] at h2
      rw [← Array.getElem?_toList, h2]
      match i, hi, hv with
      | 0, _, hv => simpa [encR] using hv
      | 1, _, hv => simpa [encR] using hv
theorem nodup_le {α : Type} [BEq α] [LawfulBEq α] : ∀ (s z : List α), s.Nodup → (∀ x ∈ s, x ∈ z) → s.length ≤ z.length := by
  intro s
  induction s with
  | nil => intro z _ _; exact Nat.zero_le _
  | cons x r ih =>
    intro z hnd hm
    have hx := hm x (List.mem_cons_self ..)
    have := ih (z.erase x) (List.nodup_cons.1 hnd).2 (fun y hy => by
      refine (List.mem_erase_of_ne ?_).2 (hm y (List.mem_cons_of_mem _ hy))
      rintro rfl
      exact (List.nodup_cons.1 hnd).1 hy)
    rw [List.length_erase_of_mem hx] at this
    have := List.length_pos_of_mem hx
    simp only [List.length_cons]
    omega
theorem RdRow.grown {w w' : World} {A : Option Addr} {n k m : Nat} {xs : List (List Value)} (h : RdRow w A n k xs) (hg : w.grownBy w' (some m)) (hne : ∀ b off, A = some ⟨b, off, none⟩ → b ≠ m) : RdRow w' A n k xs :=
  ⟨h.1, h.2.1, fun hn => by
    obtain ⟨b, off, e, hlt, hc⟩ := h.2.2 hn
    exact ⟨b, off, e, Nat.lt_of_lt_of_le hlt hg.size, fun j i v hv => hg.cell (hc j i v hv) (by simpa using hne b off e)⟩⟩
theorem own_base {w : World} {b b' : Nat} {e : TypeId} {size : Nat} {v : Value} {n : Nat} {xs : List Value} (h : w.ownsRow b e size v n xs) (hb : b' ≤ b) : w.ownsRow b' e size v n xs :=
  ⟨h.1, h.2.imp id (fun ⟨g, cap, cur, e, hg, r⟩ => ⟨g, cap, cur, e, Nat.le_trans hb hg, r⟩)⟩
/-- Weaker, of rights as data. -/
def wkR (cs : List Cls) (n : Nat) (x y : Rt) : Bool := weakB cs n (natR x.1) (natR y.1)
/-- A right whose numbers are those of a class and a set. -/
def InR (n : Nat) (x : Rt) : Prop := ∃ c k : Nat, x.1 = ((c : Int), (k : Int)) ∧ c < n ∧ k < 2 ^ 40

set_option maxRecDepth 100000 in
set_option maxHeartbeats 4000000 in
theorem least_any (A A2 G : Option Addr) (n cc n2 c2 c3 : Nat) (cs : List Cls) (g : Nat) (lb : Array Value) (eg : ∀ args w, (callFunc g args).run Tryz.prog w = .ok (.enter g args) w) (S Sp : List Rt → Prop) (N : Nat) (hN : N ≤ 1000000) (hS : ∀ zs, S zs → zs.length ≤ N ∧ ∀ x ∈ zs, InR n x)
    (Kp : World → World → Prop) (w : World) (hKt : ∀ {X Y Z : World}, Kp X Y → Kp Y Z → Kp X Z) (hKb : ∀ (W : World) (l : Nat) (o o' : Obj), w.heap.size ≤ l → W.heap[l]? = some o → o.isCells = false → o.isWalk = false → Kp W (W.putObj l o'))
    (hKn : ∀ W W', W.grownBy W' none → w.heap.size ≤ W.heap.size → Kp W W') (hKg : ∀ W W' b es ck, W.grownBy W' (some b) → w.heap.size ≤ b → W.heap[b]? = some (.map es ck) → Kp W W') (h : CovOK cs n G w) (hseq : SeqStopsK Fence.wide 8 Tryz.prog g lb encA Kp S Sp N w) :
    Calls Tryz.prog 80 #[.agg #[.slice A n cc, .slice A2 n2 c2, .slice G n c3], .func (.func g) #[] lb] w fun e W' => ∃ v zs ss, e = .returned v ∧ S zs ∧ ss.Nodup ∧ (∀ x, x ∈ ss ↔ x ∈ zs ∧ ∀ y ∈ zs, wkR cs n x y = false) ∧
      W'.ownsRow w.heap.size 64 2 v ss.length (rtFlat (sortR ss)) ∧ Below w.heap.size w W' := by
  refine (callsIn_wide (n := 9)).1 ?_
  have hmm := @run_makeMap Tryz.prog
  refine callsIn_of_wp_marks Tryz.func80 rfl trivial ?_ rfl
  simp only [Tryz.ntmps80, List.size_toArray, List.length_cons, List.length_nil, Nat.reduceAdd, Nat.reduceSub, Array.replicate_succ, Array.replicate_zero, List.push_toArray, List.append_toArray, List.nil_append, List.cons_append]
  gi_wp2
  have hm0 := SetM.made (w.alloc (.cells #[.slice A n cc, .slice A2 n2 c2, .slice G n c3] 100))
  rw [World.size_alloc] at hm0
  have hm1 := hm0.alloc (.cells #[.map (some (w.heap.size + 1))] 131)
  have bM := Boxed.new ((w.alloc (.cells #[.slice A n cc, .slice A2 n2 c2, .slice G n c3] 100)).alloc (.map #[] 0)) 131 (.map (some (w.heap.size + 1)))
  simp only [World.size_alloc] at bM
  have hVb := ((Blk.new w 100 #[.slice A n cc, .slice A2 n2 c2, .slice G n c3]).alloc (.map #[] 0)).alloc (.cells #[.map (some (w.heap.size + 1))] 131)
  have hB0 : Below w.heap.size w (((w.alloc (.cells #[.slice A n cc, .slice A2 n2 c2, .slice G n c3] 100)).alloc (.map #[] 0)).alloc (.cells #[.map (some (w.heap.size + 1))] 131)) := (((Below.refl _ w).alloc (Nat.le_refl _) _).alloc (by simp) _).alloc (by simp; omega) _
  have hsz : (((w.alloc (.cells #[.slice A n cc, .slice A2 n2 c2, .slice G n c3] 100)).alloc (.map #[] 0)).alloc (.cells #[.map (some (w.heap.size + 1))] 131)).heap.size = w.heap.size + 3 := by simp
  obtain ⟨W0, hW0⟩ : ∃ W0, (((w.alloc (.cells #[.slice A n cc, .slice A2 n2 c2, .slice G n c3] 100)).alloc (.map #[] 0)).alloc (.cells #[.map (some (w.heap.size + 1))] 131)) = W0 := ⟨_, rfl⟩
  rw [hW0] at hm1 bM hVb hB0 hsz ⊢
  clear hW0 hm0 hmm
  refine wpIn_rangeFunc_ownH rfl (by omega) (gf := g) (lb := lb) rfl trivial eg hseq (fun h k => hKt h k) (fun W l o o' hl => hKb W l o o' (by omega)) hB0 (fun _ => rfl)
    (fun pre W => (Boxed W (w.heap.size + 1 + 1) 131 (.map (some (w.heap.size + 1))) ∧ Blk W w.heap.size 100 #[.slice A n cc, .slice A2 n2 c2, .slice G n c3] ∧ SetM W (w.heap.size + 1) pre.length (fun x => x ∈ pre)) ∧ Below w.heap.size w W)
    (fun _ _ _ => False)
    (OwnFrom.and (fun s X Y row hs hg hr => ⟨boxed_own _ _ (fun _ => .map (some (w.heap.size + 1))) () X Y row hs.1 hg (fun r e => (hr r e).2), hs.2.1.grown hg (fun e => by have := (hr _ e.symm).1; omega), hs.2.2.kept hg (fun e => by have := (hr _ e.symm).1; omega)⟩) (ownFrom_below (Nat.le_refl _) (by omega)))
    (fun _ _ _ _ _ hs _ _ => hs)
    ⟨⟨bM, hVb, hm1.congr (fun x => by simp)⟩, hB0⟩
    (fun x a' W => ∃ Bx, w.heap.size + 1 + 1 < Bx ∧ BoxR W Bx x ∧ a' = { tmps := #[.agg #[.slice A n cc, .slice A2 n2 c2, .slice G n c3], .func (.func g) #[] lb, .pointer (some ⟨w.heap.size, 0, none⟩), undef, .slice none 0 0, .pointer (some ⟨w.heap.size + 1 + 1, 0, none⟩), .pointer (some ⟨Bx, 0, none⟩), undef, undef, undef, .map (some (w.heap.size + 1)), .func (.func g) #[] lb, encK x, undef, undef, undef, undef, undef, undef, undef, undef, undef, undef, undef, undef, undef, undef, undef, undef, undef, undef, undef, undef], defers := [] })
    (fun x a' _ X Y row hs hg hr => by obtain ⟨Bx, h1, h2, h3⟩ := hs; exact ⟨Bx, h1, h2.own hg (fun r e => (hr r e).2), h3⟩)
    ?assign ?body ?done ?stop
  case assign =>
    rintro l pre x W K ⟨⟨bM1, hV1, hm⟩, hB⟩ hK
    simp only [encA, encK]
    gi_wp2
    exact hK _ _ ((KeepsOthers.alloc _ _).from _) (hKn _ _ (World.grownBy_alloc W _ none) hB.size) ⟨⟨bM1.alloc _, hV1.alloc _, hm.alloc _⟩, hB.alloc hB.size _⟩ ⟨W.heap.size, bM1.lt, BoxR.new W x, rfl⟩
  case body =>
    rintro l pre x a' W hl ⟨r, hr⟩ ⟨⟨bM1, hV1, hm⟩, hB⟩ ⟨Bx, hBx, bX, rfl⟩ hlt
    have hc := bM1.cell
    have c0 := bX.c0
    have c1 := bX.c1
    have hpm : pre.length < maxLen := by unfold maxLen; omega
    have hsW := hB.size
    obtain ⟨D, h1, h2, h3⟩ := hm
    obtain ⟨es, ck, hmp, _⟩ := id h1
    replace h2 := hide h2
    replace hmp := hide hmp
    simp only [encK]
    gi_wp2_with (gi_at_mapUpdate; refine wpListIn_mapUpdate_own _ rfl _ _ _ 131 rfl 64 4 rtLaw Tryz.underlying131 _ (w.heap.size + 1) pre.length _ rfl h1 hpm _ _ _ rfl rfl (keyOf_rt x) _ [] (plainElem_bool Tryz.underlying4 true) ?_; intro w1 hown1 hgrow1)
    refine ⟨KeepsFrom.of_grownBy hgrow1 (fun j e => by cases e; omega), hKg _ _ _ _ _ hgrow1 (by omega) hmp.out, ⟨bM1.kept hgrow1 (by simp), hV1.grown hgrow1 (by simp), ?_⟩, hB.grown hgrow1 hB.size (fun k e => by cases e; omega)⟩
    rw [List.length_append]
    exact (SetM.put_ h1 h2.out h3 hown1).congr (fun y => by simp)
  case done =>
    rintro D zs W hD hSz ⟨⟨bM1, hV1, hm⟩, hB⟩ hK
    have hc := bM1.cell
    simp only [Exit.inBlock, Exit.then]
    gi_step
    try simp only [Exit.inBlock, Exit.then]
    refine wpIn_wide.2 ?_
    go_wp2_with fail
    refine (keys_any (some (w.heap.size + 1)) W).mono ?_
    rintro e w2 ⟨rfl, hw2⟩
    obtain ⟨D0, h1, h2, h3⟩ := hm
    obtain ⟨hzN, hzR⟩ := hS zs hSz
    have hBk : Below W.heap.size W w2 := by rw [hw2]; exact (Below.refl _ _).alloc (Nat.le_refl _) _
    have hseq1 := hide (keys_stops Fence.wide 5 trivial rfl (by omega) W.heap.size (w.heap.size + 1) zs.length D0 w2 (by rw [hw2]; simp) (by rw [hw2]; exact World.cell?_alloc_new W _ _ 0) (by rw [hw2]; exact h1.alloc _))
    clear hw2
    replace h2 := hide h2
    replace h := hide h
    clear hseq hKt hKb hKn hKg
    replace hS := hide hS
    replace hzR := hide hzR
    replace eg := hide eg
    have hc2 := (cellB (o := 0) hBk (lt_of_cell hc)).trans hc
    go_wp2_with fail
    refine (Collect_any 126 _ enters_keys1 _ _ (Maps.size D0) (by unfold maxLen; omega) (by omega) _ _ hseq1.out (Below.refl _ _)).mono ?_
    rintro e w3 ⟨v1, s1, rfl, ⟨hnd, hmem⟩, hrow, hb3⟩
    obtain ⟨A1, C1, rfl, hrd, hlc, hbs⟩ := rts_of_own hrow
    have hs1 : s1.length ≤ zs.length := nodup_le s1 zs hnd (fun x hx => (h2.out x).1 ((hmem x).1 hx))
    have hB3 := hide ((hB.trans (hBk.mono hB.size)).trans (hb3.mono (by have := hB.size; have := hBk.size; omega)))
    have hsW := hB.size
    have hW3 := bM1.lt
    have hsK := hBk.size
    have hs3 := hb3.size
    have hS3 : SetM w3 (w.heap.size + 1) zs.length (fun x => x ∈ zs) := (SetM.kept (SetM.kept ⟨D0, h1, h2.out, h3⟩ (grow_of hBk none) (by simp)) (grow_of hb3 none) (by simp))
    have bM3 : Boxed w3 (w.heap.size + 1 + 1) 131 (.map (some (w.heap.size + 1))) := (bM1.kept (grow_of hBk none) (by simp)).kept (grow_of hb3 none) (by simp)
    have hV3 := (hV1.below hBk hV1.lt).below hb3 (by have := hV1.lt; omega)
    have hK3 : w3.heap[D]? = some (.deferred (some [])) := (hb3.block D (by have := (Array.getElem?_eq_some_iff.1 hK).1; omega)).trans ((hBk.block D (Array.getElem?_eq_some_iff.1 hK).1).trans hK)
    have hmem2 : ∀ x, x ∈ s1 ↔ x ∈ zs := fun x => (hmem x).trans (h2.out x)
    clear hmem hK hrow h1 h2 hseq1
    replace hnd := hide hnd
    replace hmem2 := hide hmem2
    replace hV3 := hide hV3
    replace hrd := hide hrd
    replace hbs := hide hbs
    replace hb3 := hide hb3
    replace hS3 := hide hS3
    replace hK3 := hide hK3
    generalize hm1' : s1.length = m at *
    replace hm1' := hide hm1'
    obtain ⟨V, hV⟩ : ∃ V : Rt → Bool, (fun x => anyIdx (fun j => wkR cs n x ((s1[j]?.getD default))) m) = V := ⟨_, rfl⟩
    have hVx : ∀ x, anyIdx (fun j => wkR cs n x ((s1[j]?.getD default))) m = V x := fun x => by rw [← hV]
    clear hV
    replace hVx := hide hVx
    clear hc hc2 bM1 hV1 hBk bM hVb hm1
    replace hB := hide hB
    replace hB0 := hide hB0
    go_wp2
    go_loopg [20] m (fun gg s20 wr => ∃ j : Nat, j ≤ m ∧ m ≤ gg + j ∧ s20 = .int .i64 j ∧ Hid (w3.grownBy wr (some (w.heap.size + 1))) ∧ Hid (SetM wr (w.heap.size + 1) zs.length (fun x => x ∈ zs ∧ ¬ (x ∈ s1.take j ∧ V x = true))))
    case atStart => exact ⟨0, Nat.zero_le _, by omega, rfl, ⟨rfl, rfl, rfl, Nat.le_refl _, fun _ _ _ => rfl⟩, hS3.out.congr (fun x => by simp)⟩
    case round =>
      obtain ⟨j, hj, hgg, rfl, hgr, hSet⟩ := hrel
      have hgs := hgr.out.size
      have hBr := hide (hB3.out.grown hgr.out hB3.out.size (fun k e => by cases e; omega))
      have bMr := (bM3.kept hgr.out (by simp)).cell
      by_cases hlt : j < m
      · have hltz : (j : Int) < (m : Int) := by omega
        have hrr := hrd.out.grown hgr.out (fun b off e => by have := hbs.out b off e; omega)
        obtain ⟨b, off, x0, x1, rfl, hb, hx, c0, c1⟩ := hrr.cells2 hlt
        rw [rtRow_at s1 j (by rw [hm1'.out]; exact hlt)] at hx
        simp only [List.cons.injEq, and_true] at hx
        obtain ⟨rfl, rfl⟩ := hx
        obtain ⟨x, hxe⟩ : ∃ x : Rt, s1[j]'(by rw [hm1'.out]; exact hlt) = x := ⟨_, rfl⟩
        have hxz : x ∈ zs := (hmem2.out x).1 (by rw [← hxe]; exact List.getElem_mem _)
        have htk : s1.take (j + 1) = s1.take j ++ [x] := by rw [List.take_succ_eq_append_getElem (by rw [hm1'.out]; exact hlt), hxe]
        obtain ⟨ci, ki, hxv, hci, hki⟩ := hzR.out x hxz
        rw [hxe, hxv] at c0 c1
        simp only at c0 c1
        have hVr := hV3.out.grown hgr.out (by simp)
        have v0 : wr.cell? ⟨w.heap.size, 0, none⟩ = some (.slice A n cc) := hVr.cell 0
        have v1 : wr.cell? ⟨w.heap.size, 1, none⟩ = some (.slice A2 n2 c2) := hVr.cell 1
        have v2 : wr.cell? ⟨w.heap.size, 2, none⟩ = some (.slice G n c3) := hVr.cell 2
        have hBo : Below wr.heap.size wr (wr.alloc (.cells #[.int .i64 ci, .int .i64 ki] 64)) := (Below.refl _ _).alloc (Nat.le_refl _) _
        have hO := Blk.new wr 64 #[.int .i64 ci, .int .i64 ki]
        have hcall := ContainsFuncRts 107 #[.pointer (some ⟨w.heap.size, 0, none⟩), .pointer (some ⟨wr.heap.size, 0, none⟩)] enters_least1 (fun k : Nat => wkR cs n x (s1[k]?.getD default)) (some ⟨b, off, none⟩) m C1 (rtRow s1) (wr.alloc (.cells #[.int .i64 ci, .int .i64 ki] 64)) (hrr.below hBo) (by unfold maxLen; omega)
          (fun k W' hk hb => by
            have hk' : k < s1.length := by rw [hm1'.out]; exact hk
            have hyz : s1[k] ∈ zs := (hmem2.out _).1 (List.getElem_mem _)
            obtain ⟨ca, ka, hya, hca, hka⟩ := hzR.out _ hyz
            have hVW := (hVr.below hBo hVr.lt).below hb (by have := hVr.lt; simp; omega)
            have hOW := hO.below hb (by simp)
            have := leastRt_any A A2 G n cc n2 c2 c3 cs ca ka ci ki w.heap.size wr.heap.size W' ((h.out.below (hBr.out.trans (hBo.mono hBr.out.size))).below hb) hca hci hka
              (hVW.cell 0) (hVW.cell 1) (hVW.cell 2) (hOW.cell 0) (hOW.cell 1)
            rw [rtRow_at s1 k hk', List.getElem?_eq_getElem hk']
            simp only [Option.getD_some]
            unfold wkR
            rw [hxv, hya]
            simpa [natR] using this)
        rw [hVx.out x] at hcall
        obtain ⟨D1, d1, d2, d3⟩ := hSet.out
        have hzv : w.heap.size + 1 + 1 < wr.heap.size := by omega
        have hzv0 : w.heap.size < wr.heap.size := by omega
        replace hcall := hide hcall
        replace hrr := hide hrr
        replace hVr := hide hVr
        replace hBo := hide hBo
        replace hO := hide hO
        replace d2 := hide d2
        replace htk := hide htk
        replace hxv := hide hxv
        replace hxe := hide hxe
        go_wp2_with fail
        refine hcall.out.mono ?_
        rintro e w4 ⟨rfl, hb4⟩
        have hg4 := hide ((hgr.out.trans (grow_of hBo.out _)).trans (grow_of hb4 (some (w.heap.size + 1))))
        have d1' := (d1.alloc (.cells #[.int .i64 ci, .int .i64 ki] 64)).kept (grow_of hb4 none) (by simp)
        have bM4 : w4.cell? ⟨w.heap.size + 1 + 1, 0, none⟩ = some (.map (some (w.heap.size + 1))) := (cellB hb4 (by simp; omega)).trans ((cellB hBo.out hzv).trans bMr)
        have hO4 := hO.out.below hb4 (by simp)
        have o0 : w4.cell? ⟨wr.heap.size, 0, none⟩ = some (.int .i64 ci) := hO4.cell 0
        have o1 : w4.cell? ⟨wr.heap.size, 1, none⟩ = some (.int .i64 ki) := hO4.cell 1
        have hkey : keyOf Tryz.prog 64 (.agg #[.int .i64 ci, .int .i64 ki]) = some (litK x) := by
          have := keyOf_rt x
          unfold encK at this
          rw [hxv.out] at this
          exact this
        clear hb4 d1
        replace hO4 := hide hO4
        cases hv : V x with
        | true =>
          have hcg : ∀ y, ((y ∈ zs ∧ ¬ (y ∈ s1.take j ∧ V y = true)) ∧ y ≠ x) ↔ (y ∈ zs ∧ ¬ (y ∈ s1.take (j + 1) ∧ V y = true)) := fun y => by
            rw [htk.out, List.mem_append, List.mem_singleton]
            by_cases e : y = x
            · subst e; simp [hv]
            · simp [e]
          replace hcg := hide hcg
          replace hv := hide hv
          replace hkey := hide hkey
          go_wp2_with (at_delete; refine wpList_delete_own _ rfl _ _ 131 64 rfl 4 rtLaw Tryz.underlying131 _ (w.heap.size + 1) zs.length _ rfl d1' _ _ rfl hkey.out ?_; intro w5 hown5 hturn5)
          have hg5 := hide (hg4.out.trans hturn5.grown)
          have hS5 := hide ((SetM.del_ d1' d2.out d3 hown5).congr hcg.out)
          clear d1' hturn5 hown5
          go_wp2
          go_roundg (m - (j + 1))
          case measure => omega
          case rel => exact ⟨j + 1, by omega, by omega, by go_num, hg5.out, hS5.out⟩
        | false =>
          have hcg : ∀ y, (y ∈ zs ∧ ¬ (y ∈ s1.take j ∧ V y = true)) ↔ (y ∈ zs ∧ ¬ (y ∈ s1.take (j + 1) ∧ V y = true)) := fun y => by
            rw [htk.out, List.mem_append, List.mem_singleton]
            by_cases e : y = x
            · subst e; simp [hv]
            · simp [e]
          have hS4 := hide (SetM.congr ⟨D1, d1', d2.out, d3⟩ hcg)
          clear hcg d1' hkey
          replace hv := hide hv
          go_wp2
          go_roundg (m - (j + 1))
          case measure => omega
          case rel => exact ⟨j + 1, by omega, by omega, by go_num, hg4.out, hS4.out⟩
      · have hltz : ¬ (j : Int) < (m : Int) := by omega
        obtain rfl : j = m := by omega
        obtain ⟨D1, d1, d2, d3⟩ := hSet.out
        have hpx : ∀ x, has D1 (litK x) = true ↔ (x ∈ zs ∧ ∀ y ∈ zs, wkR cs n x y = false) := fun x => by
          rw [d2 x, List.take_of_length_le (by rw [hm1'.out]; exact Nat.le_refl _)]
          show (x ∈ zs ∧ ¬(x ∈ s1 ∧ V x = true)) ↔ _
          rw [hmem2.out x]
          refine and_congr_right fun hx => ?_
          rw [← hVx.out x, anyIdx_iff]
          constructor
          · intro h' y hy
            cases hw : wkR cs n x y with
            | false => rfl
            | true =>
              obtain ⟨i, hi, rfl⟩ := List.mem_iff_getElem.1 ((hmem2.out y).2 hy)
              exact absurd ⟨hx, i, by rw [← hm1'.out]; exact hi, by rw [List.getElem?_eq_getElem hi]; exact hw⟩ h'
          · rintro h' ⟨_, i, hi, hw⟩
            have hi' : i < s1.length := by rw [hm1'.out]; exact hi
            rw [List.getElem?_eq_getElem hi'] at hw
            have := h' s1[i] ((hmem2.out _).1 (List.getElem_mem _))
            simp only [Option.getD_some] at hw
            rw [this] at hw; cases hw
        have hKr : wr.heap[D]? = some (.deferred (some [])) := (hgr.out.block D (by have := (Array.getElem?_eq_some_iff.1 hK3.out).1; omega) (by simp; omega)).trans hK3.out
        have hDr := (Array.getElem?_eq_some_iff.1 hKr).1
        replace hpx := hide hpx
        replace hKr := hide hKr
        go_wp2_with fail
        refine (keys_any (some (w.heap.size + 1)) wr).mono ?_
        rintro e w4 ⟨rfl, hw4⟩
        have hBk : Below wr.heap.size wr w4 := by rw [hw4]; exact (Below.refl _ _).alloc (Nat.le_refl _) _
        have hseq1 := hide (keys_stops Fence.wide 5 trivial rfl (by omega) wr.heap.size (w.heap.size + 1) zs.length D1 w4 (by rw [hw4]; simp) (by rw [hw4]; exact World.cell?_alloc_new wr _ _ 0) (by rw [hw4]; exact d1.alloc _))
        clear hw4 d1
        replace d2 := hide d2
        go_wp2_with fail
        refine (SortedFunc_any 126 _ enters_keys1 _ _ (Maps.size D1) (by unfold maxLen; omega) (by omega) (fun ss hss => Nat.le_trans (nodup_le ss zs hss.1 (fun x hx => ((hpx.out x).1 ((hss.2 x).1 hx)).1)) (by omega)) _ _ hseq1.out (Below.refl _ _)).mono ?_
        rintro e w5 ⟨v, ss, rfl, ⟨hsn, hsm⟩, hrow, hb5⟩
        have hK5 : w5.heap[D]? = some (.deferred (some [])) := (hb5.block D (by have := hBk.size; omega)).trans ((hBk.block D hDr).trans hKr.out)
        have hB5 := hide ((hBr.out.trans (hBk.mono hBr.out.size)).trans (hb5.mono (by have := hBr.out.size; have := hBk.size; omega)))
        have hbase : w.heap.size ≤ w4.heap.size := by have := hBr.out.size; have := hBk.size; omega
        replace hrow := hide hrow
        replace hsn := hide hsn
        replace hsm := hide hsm
        clear hseq1 hb5
        go_wp2
        refine ⟨by simp, .inl ⟨_, _, rfl, run_takeDeferred hK5, ?_⟩⟩
        exact ⟨_, results_tmp rfl _ _ _, v, zs, ss, rfl, hSz, hsn.out, fun x => (hsm.out x).trans (hpx.out x), own_base (ownsRow_putObj hrow.out _ hK5 rfl) hbase, hB5.out.trans (belowK_b (w := w) (Nat.le_refl _) w5 D _ _ (by omega) hK5 rfl rfl)⟩
  case stop =>
    rintro D c pre W _ _ h _
    exact h.elim
end Go.Proofs.YtjfdfhnfcpfmcaaGreatDoor

/-
  class.Least.
-/
namespace Go.Proofs.YtjfdfhnfcpfmcaaGreatDoor
open Go.RowKit Go.Sort Go.Shelf Go.Maps RG

def mkRt (r : Int × Int) : Rt := if h : (Lit.int .i64 r.1).wf = true ∧ (Lit.int .i64 r.2).wf = true then ⟨r, h⟩ else default
theorem wf_small {k : Nat} (h : k < 2 ^ 40) : (Lit.int .i64 (k : Int)).wf = true := by
  have hmin : IntKind.i64.min = -9223372036854775808 := rfl
  have hmax : IntKind.i64.max = 9223372036854775807 := rfl
  simp only [Lit.wf, Bool.and_eq_true, decide_eq_true_eq]
  omega
theorem mkRt_val {c k : Nat} (hc : c < 2 ^ 40) (hk : k < 2 ^ 40) : (mkRt ((c : Int), (k : Int))).1 = ((c : Int), (k : Int)) := by
  unfold mkRt
  rw [dif_pos ⟨wf_small hc, wf_small hk⟩]
/-- The rights as data. -/
def rtsL (rs : List (Int × Int)) : List Rt := rs.map mkRt
theorem rtsL_good {S : Sys} (gd : Good S) {rs : List (Int × Int)} (h : GoodR S rs) : ∀ j, j < rs.length → ∃ c k : Nat, rs[j]?.getD (0, 0) = ((c : Int), (k : Int)) ∧ ((rtsL rs)[j]?.getD default).1 = ((c : Int), (k : Int)) ∧ c < S.cs.length ∧ k < 2 ^ 40 := by
  intro j hj
  obtain ⟨c, k, h1, h2, h3⟩ := h.2 j hj
  have hk := pow8 gd h3
  have h4 := gd.bd
  refine ⟨c, k, h1, ?_, h2, hk⟩
  rw [List.getElem?_eq_getElem hj] at h1
  have h1 : rs[j] = ((c : Int), (k : Int)) := h1
  rw [show (rtsL rs)[j]? = some (mkRt rs[j]) by simp [rtsL, hj], h1]
  exact mkRt_val (by omega) hk
theorem rtsL_in {S : Sys} (gd : Good S) {rs : List (Int × Int)} (h : GoodR S rs) : ∀ x ∈ rtsL rs, InR S.cs.length x := by
  intro x hx
  obtain ⟨j, hj, rfl⟩ := List.mem_iff_getElem.1 hx
  have hj' : j < rs.length := by simpa [rtsL] using hj
  obtain ⟨c, k, _, h2, h3, h4⟩ := rtsL_good gd h j hj'
  rw [List.getElem?_eq_getElem hj] at h2
  exact ⟨c, k, h2, h3, h4⟩
theorem rtsL_row {S : Sys} (gd : Good S) {rs : List (Int × Int)} (h : GoodR S rs) : rs.map rtCells = rtRow (rtsL rs) := by
  apply List.ext_getElem
  · simp [rtRow, rtsL]
  · intro j h1 h2
    have hj : j < rs.length := by simpa using h1
    obtain ⟨c, k, e1, e2, _, _⟩ := rtsL_good gd h j hj
    have hj2 : j < (rtsL rs).length := by simpa [rtsL] using hj
    rw [List.getElem?_eq_getElem hj] at e1
    rw [List.getElem?_eq_getElem hj2] at e2
    simp only [Option.getD_some] at e1 e2
    simp only [List.getElem_map, rtRow, e1, e2, rtCells]
/-- L is the least form of the rights zs. -/
def IsForm (cs : List Cls) (n : Nat) (zs L : List Rt) : Prop := ∃ ss : List Rt, ss.Nodup ∧ (∀ x, x ∈ ss ↔ x ∈ zs ∧ ∀ y ∈ zs, wkR cs n x y = false) ∧ L = sortR ss
/-- What Least returns. -/
def LeastR (S : Sys) (rs : List (Int × Int)) (e : Ending) (w : World) (base : Nat) : Prop :=
  (openF S [rs] ≠ 0 ∧ e = .returned (.tuple #[.slice none 0 0, .int .i64 (openF S [rs])])) ∨
  (openF S [rs] = 0 ∧ ∃ v L, e = .returned (.tuple #[v, .int .i64 0]) ∧ IsForm S.cs S.cs.length (rtsL rs) L ∧ w.ownsRow base 64 2 v L.length (rtFlat L))
theorem enters_values1 : ∀ args w, (callFunc 111 args).run Tryz.prog w = .ok (.enter 111 args) w := fun _ _ => by kernel_rfl
theorem values_any (a : Option Addr) (len cap : Nat) (w : World) : Calls Tryz.prog 81 #[.slice a len cap] w fun e w' => e = .returned (.func (.func 111) #[] #[.pointer (some ⟨w.heap.size, 0, none⟩)]) ∧ w' = w.alloc (.cells #[.slice a len cap] 46) :=
  callsIn_wide.1 (values_in Fence.wide 9 trivial rfl a len cap w)

/-- A value that yields the rights in the slice R. -/
def VClos (R : Option Addr) (m cr : Nat) : Value → World → Prop := fun v w => ∃ p, v = .func (.func 111) #[] #[.pointer (some ⟨p, 0, none⟩)] ∧ w.cell? ⟨p, 0, none⟩ = some (.slice R m cr)
theorem VClos.stb (R : Option Addr) (m cr : Nat) : Stb (VClos R m cr) := fun _ _ _ hb ⟨p, e, h⟩ => ⟨p, e, (cellB hb (lt_of_cell h)).trans h⟩
/-- A slice of the least form. -/
def LeastV (cs : List Cls) (n base : Nat) (zs : List Rt) : Value → World → Prop := fun v w => ∃ L, IsForm cs n zs L ∧ w.ownsRow base 64 2 v L.length (rtFlat L)
theorem LeastV.stb (cs : List Cls) (n base : Nat) (zs : List Rt) : Stb (LeastV cs n base zs) := fun _ _ _ hb ⟨L, h1, h2⟩ => ⟨L, h1, own_below h2 hb⟩

set_option maxRecDepth 100000 in
set_option maxHeartbeats 2000000 in
theorem Least_any (A A2 R : Option Addr) (cc c2 cr : Nat) (S : Sys) (rs : List (Int × Int)) (w : World) (h : InMem w A A2 cc c2 S) (hr : RdRts w R rs.length rs) :
    Calls Tryz.prog 36 #[.agg #[.slice A S.cs.length cc, .slice A2 S.codes.length c2], .slice R rs.length cr] w fun e w' => LeastR S rs e w' w.heap.size ∧ Below w.heap.size w w' := by
  have hB0 := hide ((Below.refl w.heap.size w).alloc (Nat.le_refl _) (.cells #[.slice A S.cs.length cc, .slice A2 S.codes.length c2] 38))
  have hB1 := hide (hB0.out.alloc (by simp +arith) (.cells #[.slice R rs.length cr] 46))
  have hopen := hide (open_mem A A2 (some ⟨w.heap.size + 1, 0, none⟩) cc c2 1 1 S [rs] _ (h.below hB1.out) (by
    have := RdLists.one (hr.below hB0.out) (c := cr) 46
    simpa using this))
  unfold LeastR
  replace h := hide h
  replace hr := hide hr
  go_enter Tryz.func36, Tryz.ntmps36
  go_wp2_with fail
  refine hopen.out.mono ?_
  rintro e w1 ⟨hO, hb1⟩
  have hB2 := hide (hB1.out.trans (hb1.mono (by simp +arith)))
  replace hB1 := hide hb1
  clear hb1
  generalize hx : openF S [rs] = x at *
  replace hx := hide hx
  rcases hO with ⟨hx0, rfl⟩ | ⟨rfl, v, rfl, g, rfl, hg⟩
  · have hb1 : (x == 0) = false := by rw [beq_eq_false_iff_ne]; exact hx0
    have hb2 : (x != 0) = true := by rw [bne_iff_ne]; exact hx0
    unfold nilView
    replace hx0 := hide hx0
    go_wp2
    go_ret2
    exact ⟨.inl (by rw [hx.out]; exact ⟨hx0.out, rfl⟩), hB2.out.alloc hB2.out.size _⟩
  · obtain ⟨gd, gr⟩ := openF_good hx.out
    have gr := gr rs (by simp)
    have hcov := hide (gd.cov hg)
    have hrow := rtsL_row gd gr
    have hin := hide (rtsL_in gd gr)
    have hm := gr.1
    clear hg
    generalize hzs : rtsL rs = zs at *
    have hzl : zs.length = rs.length := by rw [← hzs]; simp [rtsL]
    replace hzs := hide hzs
    have hVb := Blk.new w1 100 #[.slice A S.cs.length cc, .slice A2 S.codes.length c2, .slice (some ⟨g, 0, none⟩) S.cs.length S.cs.length]
    have hBv : Below w1.heap.size w1 (w1.alloc (.cells #[.slice A S.cs.length cc, .slice A2 S.codes.length c2, .slice (some ⟨g, 0, none⟩) S.cs.length S.cs.length] 100)) := (Below.refl _ _).alloc (Nat.le_refl _) _
    have hBw2 := hide (hB2.out.trans (hBv.mono hB2.out.size))
    have hcov2 := hcov.out.below hBv
    generalize hw2 : w1.alloc (.cells #[.slice A S.cs.length cc, .slice A2 S.codes.length c2, .slice (some ⟨g, 0, none⟩) S.cs.length S.cs.length] 100) = w2 at *
    have hs2 : w2.heap.size = w1.heap.size + 1 := by rw [← hw2]; simp
    have hrd := (hr.out.below hBw2.out).1
    rw [hrow, ← hzl] at hrd
    clear hrow
    generalize hn : S.cs.length = n at *
    replace hn := hide hn
    generalize S.codes.length = n2 at *
    replace hVb := hide hVb
    replace hcov2 := hide hcov2
    replace hw2 := hide hw2
    replace hrd := hide hrd
    replace hzl := hide hzl
    clear hBv
    go_upto_region 4 with (fail)
    rw [hw2.out]
    refine region_grow [IsV (.agg #[.slice A n cc, .slice A2 n2 c2, .slice (some ⟨g, 0, none⟩) n n]), IsV (.slice R rs.length cr), VClos R rs.length cr, LeastV S.cs n w.heap.size zs, LeastV S.cs n w.heap.size zs, IsV (.int .i64 0)] (by kernel_rfl) (by kernel_rfl) rfl ?_ ?_ ?_
    · simp [AllStb, IsV.stb, VClos.stb, LeastV.stb]
    · refine ⟨?_, ?_, ?_, ?_, ?_, ?_, trivial⟩
      all_goals
        intro y w3 K Q Cv hC hd hV
        have hV3 := hVb.out.below hC (by omega)
        have q0 : w3.cell? ⟨w1.heap.size, 0, none⟩ = some (.slice A n cc) := hV3.cell 0
        have q1 : w3.cell? ⟨w1.heap.size, 1, none⟩ = some (.slice A2 n2 c2) := hV3.cell 1
        have q2 : w3.cell? ⟨w1.heap.size, 2, none⟩ = some (.slice (some ⟨g, 0, none⟩) n n) := hV3.cell 2
        replace hV3 := hide hV3
        simp [deps, VL, IsV, Region.binds] at hd
      · simp only [putAll, Act.put]; go_simp; intro hK; exact hK _ _ (hV _ _ hC (Below.refl _ _) rfl)
      · simp only [putAll, Act.put]; go_simp; intro hK; exact hK _ _ (hV _ _ hC (Below.refl _ _) rfl)
      · simp only [putAll, Act.put]; go_simp; intro hK
        refine (values_any R rs.length cr _).mono ?_
        rintro e w4 ⟨rfl, rfl⟩
        exact hK _ _ (hV _ _ (hC.alloc hC.size _) ((Below.refl _ _).alloc (Nat.le_refl _) _) ⟨_, rfl, World.cell?_alloc_new _ _ _ 0⟩)
      · obtain ⟨h0, p, h2, hp⟩ : y 0 = _ ∧ VClos R rs.length cr (y 2) w3 := hd
        simp only [putAll, Act.put]; go_simp; intro hK
        refine (least_any A A2 (some ⟨g, 0, none⟩) n cc n2 c2 n S.cs 111 _ enters_values1 (fun ys => ys = zs) (fun pre => pre <+: zs) zs.length (by rw [hzl.out]; omega) (fun ys e => by rw [e]; exact ⟨Nat.le_refl _, hin.out⟩) (Below w2.heap.size) w3 belowK_t (belowK_b hC.size) (fun W W' hg hs => (Below.refl _ W).grown hg (Nat.le_trans hC.size hs) (fun k e => by cases e)) (fun W W' b es ck hg hb hm => (Below.refl _ W).grown hg (by have := (Array.getElem?_eq_some_iff.1 hm).1; have := hC.size; omega) (fun k e => by cases e; exact Nat.le_trans hC.size hb)) (hcov2.out.below hC)
          (values_stops Fence.wide 8 trivial rfl (by omega) p cr R zs (by rw [hzl.out]; unfold maxLen; omega) w2 w3 hrd.out hC (lt_of_cell hp) (by rw [hzl.out]; exact hp))).mono ?_
        rintro e w4 ⟨v, ys, ss, rfl, rfl, hnd, hmm, hown, hb4⟩
        exact hK _ _ (hV _ _ (hC.trans (hb4.mono hC.size)) hb4 ⟨sortR ss, ⟨ss, hnd, hmm, rfl⟩, by rw [sortR_len]; exact own_base hown (Nat.le_trans hBw2.out.size hC.size)⟩)
      · obtain ⟨⟨L, hf, hown⟩, _⟩ : LeastV S.cs n w.heap.size zs (y 3) w3 ∧ _ := hd
        simp only [putAll, Act.put]; go_simp; intro hK; exact hK _ _ (hV _ _ hC (Below.refl _ _) ⟨L, hf, hown⟩)
      · simp only [putAll, Act.put]; go_simp; intro hK; exact hK _ _ (hV _ _ hC (Below.refl _ _) rfl)
    intro y w3 hC hd
    simp [EndsL, IsV] at hd
    obtain ⟨d0, d1, ⟨p, d2, _⟩, _, ⟨L, hf, hown⟩, d5⟩ := hd
    simp only [putAll, Act.put]
    rw [d0, d1, d2, d5]
    generalize y 3 = v3 at *
    generalize y 4 = v4 at *
    clear d0 d1 d2 d5
    simp only [List.setIfInBounds_toArray, List.set_cons_succ, List.set_cons_zero]
    have hB3 := hide (hBw2.out.trans (hC.mono hBw2.out.size))
    replace hf := hide hf
    replace hown := hide hown
    clear hC
    go_wp2
    go_ret2
    exact ⟨.inr ⟨hx.out, v4, L, rfl, by rw [hzs.out, hn.out]; exact hf.out, hown.out⟩, hB3.out⟩
end Go.Proofs.YtjfdfhnfcpfmcaaGreatDoor

/-
  view.common: what both of two lists allow.
-/
namespace Go.Proofs.YtjfdfhnfcpfmcaaGreatDoor
open Go.RowKit Go.Sort Go.Shelf Go.Maps RG
attribute [local go_sem] Oper.semAt_some

/-- The right of a class and the codes of two rights. -/
def bothRt (r o : Nat × Nat) (c : Nat) : Rt := mkRt ((c : Int), ((r.2 ||| o.2 : Nat) : Int))
def okC (cs : List Cls) (n : Nat) (r o : Nat × Nat) (c : Nat) : Bool := (cover cs n r.1).testBit c && (cover cs n o.1).testBit c
/-- What is still to come of two rights, from class k on; d classes are left. -/
def R3 (cs : List Cls) (n : Nat) (r o : Nat × Nat) : Nat → Nat → List Rt
  | _, 0 => []
  | k, d + 1 => if okC cs n r o k = true then bothRt r o k :: R3 cs n r o (k + 1) d else R3 cs n r o (k + 1) d
def R2 (cs : List Cls) (n : Nat) (r : Nat × Nat) : List (Nat × Nat) → List Rt
  | [] => []
  | o :: q => R3 cs n r o 0 n ++ R2 cs n r q
def R1 (cs : List Cls) (n : Nat) (bs : List (Nat × Nat)) : List (Nat × Nat) → List Rt
  | [] => []
  | r :: q => R2 cs n r bs ++ R1 cs n bs q
theorem R3_len (cs : List Cls) (n : Nat) (r o : Nat × Nat) : ∀ d k, (R3 cs n r o k d).length ≤ d := by
  intro d
  induction d with
  | zero => intro k; exact Nat.le_refl _
  | succ d ih =>
    intro k
    have := ih (k + 1)
    unfold R3
    split
    · simp; omega
    · omega
theorem R2_len (cs : List Cls) (n : Nat) (r : Nat × Nat) : ∀ l, (R2 cs n r l).length ≤ l.length * n := by
  intro l
  induction l with
  | nil => simp [R2]
  | cons o q ih =>
    have := R3_len cs n r o n 0
    simp only [R2, List.length_append, List.length_cons, Nat.add_mul, Nat.one_mul]
    omega
theorem R1_len (cs : List Cls) (n : Nat) (bs : List (Nat × Nat)) : ∀ l, (R1 cs n bs l).length ≤ l.length * (bs.length * n) := by
  intro l
  induction l with
  | nil => simp [R1]
  | cons o q ih =>
    have := R2_len cs n o bs
    simp only [R1, List.length_append, List.length_cons, Nat.add_mul, Nat.one_mul]
    omega
theorem R3_mem (cs : List Cls) (n : Nat) (r o : Nat × Nat) (x : Rt) : ∀ d k, x ∈ R3 cs n r o k d ↔ ∃ c, k ≤ c ∧ c < k + d ∧ okC cs n r o c = true ∧ x = bothRt r o c := by
  intro d
  induction d with
  | zero => intro k; simp [R3]; intro c h1 h2; omega
  | succ d ih =>
    intro k
    unfold R3
    have key : (∃ c, k ≤ c ∧ c < k + (d + 1) ∧ okC cs n r o c = true ∧ x = bothRt r o c) ↔ (okC cs n r o k = true ∧ x = bothRt r o k) ∨ ∃ c, k + 1 ≤ c ∧ c < k + 1 + d ∧ okC cs n r o c = true ∧ x = bothRt r o c := by
      constructor
      · rintro ⟨c, h1, h2, h3, h4⟩
        rcases Nat.eq_or_lt_of_le h1 with rfl | h
        · exact .inl ⟨h3, h4⟩
        · exact .inr ⟨c, h, by omega, h3, h4⟩
      · rintro (⟨h3, h4⟩ | ⟨c, h1, h2, h3, h4⟩)
        · exact ⟨k, Nat.le_refl _, by omega, h3, h4⟩
        · exact ⟨c, by omega, by omega, h3, h4⟩
    rw [key]
    split
    · rename_i h
      rw [List.mem_cons, ih]
      simp [h]
    · rename_i h
      rw [ih]
      simp [h]
theorem R2_mem (cs : List Cls) (n : Nat) (r : Nat × Nat) (x : Rt) : ∀ l, x ∈ R2 cs n r l ↔ ∃ o ∈ l, ∃ c, c < n ∧ okC cs n r o c = true ∧ x = bothRt r o c := by
  intro l
  induction l with
  | nil => simp [R2]
  | cons o q ih =>
    rw [R2, List.mem_append, ih, R3_mem]
    simp only [List.mem_cons, exists_eq_or_imp, Nat.zero_le, true_and, Nat.zero_add]
theorem R1_mem (cs : List Cls) (n : Nat) (bs : List (Nat × Nat)) (x : Rt) : ∀ l, x ∈ R1 cs n bs l ↔ ∃ r ∈ l, ∃ o ∈ bs, ∃ c, c < n ∧ okC cs n r o c = true ∧ x = bothRt r o c := by
  intro l
  induction l with
  | nil => simp [R1]
  | cons o q ih =>
    rw [R1, List.mem_append, ih, R2_mem]
    simp only [List.mem_cons, exists_eq_or_imp]
end Go.Proofs.YtjfdfhnfcpfmcaaGreatDoor

namespace Go.Proofs.YtjfdfhnfcpfmcaaGreatDoor
open Go.RowKit Go.Sort Go.Shelf Go.Maps RG
attribute [local go_sem] Oper.semAt_some

/-- Whatever is cells lies as it lay. -/
def KC (W W' : World) : Prop := W.heap.size ≤ W'.heap.size ∧ ∀ (k : Nat) (cs : Array Value) (t : TypeId) (f : Nat × Nat), W.heap[k]? = some (Obj.cells cs t f) → W'.heap[k]? = some (Obj.cells cs t f)
theorem KC.refl (W : World) : KC W W := ⟨Nat.le_refl _, fun _ _ _ _ h => h⟩
theorem KC.trans {X Y Z : World} (h : KC X Y) (k : KC Y Z) : KC X Z := ⟨Nat.le_trans h.1 k.1, fun i cs t f hi => k.2 i cs t f (h.2 i cs t f hi)⟩
theorem KC.grown {W W' : World} (h : W.grownBy W' none) : KC W W' := ⟨h.size, fun k cs t f hk => (h.block k (Array.getElem?_eq_some_iff.1 hk).1 (by simp)).trans hk⟩
theorem KC.below {W W' : World} (h : Below W.heap.size W W') : KC W W' := KC.grown (grow_of h none)
theorem KC.mapped {W W' : World} {b : Nat} {es : Array MapEntry} {ck : Nat} (h : W.grownBy W' (some b)) (hm : W.heap[b]? = some (.map es ck)) : KC W W' :=
  ⟨h.size, fun k cs t f hk => (h.block k (Array.getElem?_eq_some_iff.1 hk).1 (fun e => by cases e; rw [hm] at hk; cases hk)).trans hk⟩
theorem KC.put {W : World} {l : Nat} {o : Obj} (o' : Obj) (hl : W.heap[l]? = some o) (ho : o.isCells = false) : KC W (W.putObj l o') := by
  have hg := grownBy_putObj' W l o'
  refine ⟨hg.size, fun k cs t f hk => ?_⟩
  by_cases e : k = l
  · subst e; rw [hl] at hk; cases hk; cases ho
  · exact (hg.block k (Array.getElem?_eq_some_iff.1 hk).1 (fun h => e (by cases h; rfl))).trans hk
theorem KC.cell {W W' : World} (h : KC W W') {b o : Nat} {v : Value} (hc : W.cell? ⟨b, o, none⟩ = some v) : W'.cell? ⟨b, o, none⟩ = some v := by
  cases hb : W.heap[b]? with
  | none => simp [World.cell?, hb] at hc
  | some ob =>
    cases ob with
    | cells cs t f => rw [World.cell?_of_block (a := ⟨b, o, none⟩) ((h.2 b cs t f hb).trans hb.symm)]; exact hc
    | _ => simp [World.cell?, hb] at hc
theorem RdRow.kc {w w' : World} {A : Option Addr} {n k : Nat} {xs : List (List Value)} (h : RdRow w A n k xs) (hg : KC w w') : RdRow w' A n k xs :=
  ⟨h.1, h.2.1, fun hn => by
    obtain ⟨b, off, e, hlt, hc⟩ := h.2.2 hn
    exact ⟨b, off, e, Nat.lt_of_lt_of_le hlt hg.1, fun j i v hv => hg.cell (hc j i v hv)⟩⟩
theorem CovOK.kc {cs : List Cls} {n : Nat} {G : Option Addr} {w w' : World} (h : CovOK cs n G w) (hg : KC w w') : CovOK cs n G w' :=
  ⟨⟨h.1.1, fun hn => by
    obtain ⟨b, off, e, hlt, hc⟩ := h.1.2 hn
    exact ⟨b, off, e, Nat.lt_of_lt_of_le hlt hg.1, fun j hj => hg.cell (hc j hj)⟩⟩, h.2⟩

def nrL (zs : List Rt) : List (Nat × Nat) := zs.map fun x => natR x.1
theorem nrL_drop {zs : List Rt} {i : Nat} (h : i < zs.length) : (nrL zs).drop i = natR zs[i].1 :: (nrL zs).drop (i + 1) := by
  have h' : i < (nrL zs).length := by simpa [nrL] using h
  rw [List.drop_eq_getElem_cons h']
  simp [nrL]

set_option maxRecDepth 100000 in
set_option maxHeartbeats 4000000 in
theorem common1_in (m : Nat) (hm : 2 ≤ m) (l pa pb pv : Nat) (A A2 G Ra Rb : Option Addr) (n cc n2 c2 c3 ca cb : Nat) (cs : List Cls) (za zb : List Rt) (ga : ∀ x ∈ za, InR n x) (gb : ∀ x ∈ zb, InR n x) (hla : za.length ≤ 40) (hlb : zb.length ≤ 40) (w0 : World)
    (hRa : RdRow w0 Ra za.length 2 (rtRow za)) (hRb : RdRow w0 Rb zb.length 2 (rtRow zb)) (hcov : CovOK cs n G w0) (hca : w0.cell? ⟨pa, 0, none⟩ = some (.slice Ra za.length ca)) (hcb : w0.cell? ⟨pb, 0, none⟩ = some (.slice Rb zb.length cb))
    (v0 : w0.cell? ⟨pv, 0, none⟩ = some (.slice A n cc)) (v1 : w0.cell? ⟨pv, 1, none⟩ = some (.slice A2 n2 c2)) (v2 : w0.cell? ⟨pv, 2, none⟩ = some (.slice G n c3))
    (T : List Rt) (hT : T = R1 cs n (nrL zb) (nrL za)) (J Jx : List Rt → World → Prop) (hJ : ∀ pre W W', J pre W → W.grownBy W' none → J pre W')
    (hY : ∀ pre x W, J pre W → pre.length < T.length → YieldAt Fence.wide (m - 1) Tryz.prog l (encA x) W fun e W' => (e = .returned (.bool true) ∧ J (pre ++ [x]) W' ∧ KC W W') ∨ (e = .returned (.bool false) ∧ Jx (pre ++ [x]) W'))
    (W : World) (hW : KC w0 W) (h0 : J [] W) :
    CallsIn Fence.wide m Tryz.prog 113 #[.func (.yield l) #[] #[], .pointer (some ⟨pa, 0, none⟩), .pointer (some ⟨pb, 0, none⟩), .pointer (some ⟨pv, 0, none⟩)] W fun e W' => (∃ v, e = .returned v) ∧ (J T W' ∨ ∃ pre, pre <+: T ∧ Jx pre W') := by
  have hn12 := hcov.2.1
  replace hT := hide hT
  replace hcov := hide hcov
  replace ga := hide ga
  replace gb := hide gb
  replace hJ := hide hJ
  replace hY := hide hY
  replace hRa := hide hRa
  replace hRb := hide hRb
  have ca0 := hW.cell hca
  refine callsIn_of_wp Tryz.func113 rfl trivial ?_ rfl
  simp only [Tryz.ntmps113, List.size_toArray, List.length_cons, List.length_nil, Nat.reduceAdd, Nat.reduceSub, Array.replicate_succ, Array.replicate_zero, List.push_toArray, List.append_toArray, List.nil_append, List.cons_append]
  replace hca := hide hca
  replace hcb := hide hcb
  replace v0 := hide v0
  replace v1 := hide v1
  replace v2 := hide v2
  gi_wp2
  gi_loopw [12] (fun i wr => ∃ (k : Nat) (pre : List Rt), k ≤ za.length ∧ i = .int .i64 k ∧ Hid (J pre wr) ∧ Hid (KC w0 wr) ∧ Hid (T = pre ++ R1 cs n (nrL zb) ((nrL za).drop k)))
    (fun i _ => za.length - (intOf i).toNat)
  case atStart => exact ⟨0, [], Nat.zero_le _, rfl, h0, hW, by rw [hT.out]; rfl⟩
  case round =>
    obtain ⟨i, pre, hi, rfl, hJs, hKr, hTi⟩ := hrel
    clear ca0
    by_cases hlt : i < za.length
    · have hltz : (i : Int) < (za.length : Int) := by omega
      obtain ⟨b, off, x0, x1, rfl, hb, hx, c0, c1⟩ := (hRa.out.kc hKr.out).cells2 hlt
      rw [rtRow_at za i hlt] at hx
      simp only [List.cons.injEq, and_true] at hx
      obtain ⟨rfl, rfl⟩ := hx
      obtain ⟨r1, r2, hrv, hr1, hr2⟩ := ga.out _ (List.getElem_mem hlt)
      rw [hrv] at c0 c1
      simp only at c0 c1
      have hcb1 := hKr.out.cell hcb.out
      have lb1 := lt_of_cell hcb1
      have hTi2 : T = pre ++ (R2 cs n (r1, r2) (nrL zb) ++ R1 cs n (nrL zb) ((nrL za).drop (i + 1))) := by
        rw [hTi.out, nrL_drop hlt, hrv]; rfl
      replace hTi2 := hide hTi2
      replace hrv := hide hrv
      generalize hRest : R1 cs n (nrL zb) ((nrL za).drop (i + 1)) = Rest at *
      replace hRest := hide hRest
      gi_wp2
      obtain ⟨W1, hW1e⟩ : ∃ W1, wr.alloc (.cells #[.int .i64 r1, .int .i64 r2] 64) = W1 := ⟨_, rfl⟩
      have hK1 : KC w0 W1 := hKr.out.trans (by rw [← hW1e]; exact KC.grown (World.grownBy_alloc _ _ none))
      have hJ1 : J pre W1 := by rw [← hW1e]; exact hJ.out _ _ _ hJs.out (World.grownBy_alloc _ _ none)
      have e0 : W1.cell? ⟨wr.heap.size, 0, none⟩ = some (.int .i64 r1) := by rw [← hW1e]; exact World.cell?_alloc_new _ _ _ 0
      have e1 : W1.cell? ⟨wr.heap.size, 1, none⟩ = some (.int .i64 r2) := by rw [← hW1e]; exact World.cell?_alloc_new _ _ _ 1
      rw [hW1e]
      clear hW1e hcb1 c0 c1 lb1
      replace hK1 := hide hK1
      replace e0 := hide e0
      replace e1 := hide e1
      replace hJ1 := hide hJ1
      clear hJs
      generalize wr.heap.size = br at *
      gi_loopw [18] (fun s18 wq => ∃ (j : Nat) (pre : List Rt), j ≤ zb.length ∧ s18 = .int .i64 j ∧ Hid (J pre wq) ∧ Hid (KC W1 wq) ∧ Hid (T = pre ++ (R2 cs n (r1, r2) ((nrL zb).drop j) ++ Rest)))
        (fun s18 _ => zb.length - (intOf s18).toNat)
      case atStart => exact ⟨0, pre, Nat.zero_le _, rfl, hJ1.out, KC.refl _, hTi2.out⟩
      case round =>
        obtain ⟨j, pre2, hj, rfl, hJq, hKq, hTj⟩ := hrel
        clear hJ1
        by_cases hlt2 : j < zb.length
        · have hltz2 : (j : Int) < (zb.length : Int) := by omega
          obtain ⟨b3, off3, x0, x1, rfl, hb3, hx, c0, c1⟩ := (hRb.out.kc (hK1.out.trans hKq.out)).cells2 hlt2
          rw [rtRow_at zb j hlt2] at hx
          simp only [List.cons.injEq, and_true] at hx
          obtain ⟨rfl, rfl⟩ := hx
          obtain ⟨o1, o2, hov, ho1, ho2⟩ := gb.out _ (List.getElem_mem hlt2)
          rw [hov] at c0 c1
          simp only at c0 c1
          have hTj2 : T = pre2 ++ (R3 cs n (r1, r2) (o1, o2) 0 n ++ (R2 cs n (r1, r2) ((nrL zb).drop (j + 1)) ++ Rest)) := by
            rw [hTj.out, nrL_drop hlt2, hov, ← List.append_assoc (R3 ..)]; rfl
          replace hTj2 := hide hTj2
          replace hov := hide hov
          generalize hRest2 : R2 cs n (r1, r2) ((nrL zb).drop (j + 1)) ++ Rest = Rest2 at *
          replace hRest2 := hide hRest2
          have hKz := hK1.out.trans hKq.out
          have q0 := hKz.cell v0.out
          have lq := lt_of_cell q0
          have f0 := hKq.out.cell e0.out
          have f1 := hKq.out.cell e1.out
          gi_wp2
          obtain ⟨W2, hW2e⟩ : ∃ W2, wr.alloc (.cells #[.int .i64 o1, .int .i64 o2] 64) = W2 := ⟨_, rfl⟩
          have hK2s : KC wr W2 := by rw [← hW2e]; exact KC.grown (World.grownBy_alloc _ _ none)
          have hK2 : KC w0 W2 := hKz.trans hK2s
          have hJ2 : J pre2 W2 := by rw [← hW2e]; exact hJ.out _ _ _ hJq.out (World.grownBy_alloc _ _ none)
          have g0 : W2.cell? ⟨wr.heap.size, 0, none⟩ = some (.int .i64 o1) := by rw [← hW2e]; exact World.cell?_alloc_new _ _ _ 0
          have g1 : W2.cell? ⟨wr.heap.size, 1, none⟩ = some (.int .i64 o2) := by rw [← hW2e]; exact World.cell?_alloc_new _ _ _ 1
          have f0' := hide (hK2s.cell f0)
          have f1' := hide (hK2s.cell f1)
          have hK12 := hide (hKq.out.trans hK2s)
          rw [hW2e]
          clear hW2e c0 c1 q0 lq f0 f1 hK2s hKz
          replace hK2 := hide hK2
          replace g0 := hide g0
          replace g1 := hide g1
          replace hJ2 := hide hJ2
          clear hJq
          generalize wr.heap.size = bo at *
          gi_loopw [26] (fun s26 wq => ∃ (k : Nat) (pre : List Rt), k ≤ n ∧ s26 = .int .i64 k ∧ Hid (J pre wq) ∧ Hid (KC W2 wq) ∧ Hid (T = pre ++ (R3 cs n (r1, r2) (o1, o2) k (n - k) ++ Rest2)))
            (fun s26 _ => n - (intOf s26).toNat)
          case atStart => exact ⟨0, pre2, Nat.zero_le _, rfl, hJ2.out, KC.refl _, hTj2.out⟩
          case round =>
            obtain ⟨k, pre3, hk, rfl, hJw, hKw, hTk⟩ := hrel
            clear hJ2
            by_cases hlt3 : k < n
            · have hltz3 : (k : Int) < (n : Int) := by omega
              have hKz := hK2.out.trans hKw.out
              have q0 := hKz.cell v0.out
              have q1 := hKz.cell v1.out
              have q2 := hKz.cell v2.out
              have f0 := hKw.out.cell f0'.out
              have f1 := hKw.out.cell f1'.out
              have h0' := hKw.out.cell g0.out
              have h1' := hKw.out.cell g1.out
              have hcovk := hcov.out.kc hKz
              have hR3 : R3 cs n (r1, r2) (o1, o2) k (n - k) = if okC cs n (r1, r2) (o1, o2) k = true then bothRt (r1, r2) (o1, o2) k :: R3 cs n (r1, r2) (o1, o2) (k + 1) (n - (k + 1)) else R3 cs n (r1, r2) (o1, o2) (k + 1) (n - (k + 1)) := by
                rw [show n - k = (n - (k + 1)) + 1 by omega]; rfl
              have hcall1 := (callsIn_wide (n := m - 1)).2 (covers_ok A A2 G n cc n2 c2 c3 cs r1 k wr hcovk hr1 (by omega))
              have hm1 : 1 ≤ m := by omega
              replace hR3 := hide hR3
              cases hc1 : (cover cs n r1).testBit k with
              | false =>
                rw [hc1] at hcall1
                have hTn : T = pre3 ++ (R3 cs n (r1, r2) (o1, o2) (k + 1) (n - (k + 1)) ++ Rest2) := by
                  rw [hTk.out, hR3.out, if_neg (by unfold okC; rw [hc1]; simp)]
                replace hcall1 := hide hcall1
                replace hTn := hide hTn
                clear hc1
                gi_wp2_with (refine ⟨trivial, ?_⟩; gi_at_call 75; refine hcall1.out.mono ?_; clear hcall1; rintro e w4 ⟨rfl, hb4⟩)
                have hK4 := hide (hKw.out.trans (KC.below hb4))
                have hJ4 := hide (hJ.out _ _ _ hJw.out (grow_of hb4 none))
                refine ⟨trivial, ?_⟩
                gi_wp2
                go_roundw
                case rel => exact ⟨k + 1, pre3, by omega, by simp, hJ4.out, hK4.out, hTn.out⟩
                case measure => simp [intOf]; omega
              | true =>
                rw [hc1] at hcall1
                replace hcall1 := hide hcall1
                gi_wp2_with (refine ⟨trivial, ?_⟩; gi_at_call 75; refine hcall1.out.mono ?_; clear hcall1; rintro e w4 ⟨rfl, hb4⟩; have q0' := (KC.below hb4).cell q0; have q1' := (KC.below hb4).cell q1; have q2' := (KC.below hb4).cell q2; have h0'' := (KC.below hb4).cell h0'; have h1'' := (KC.below hb4).cell h1'; have f1'' := (KC.below hb4).cell f1; have f0'' := (KC.below hb4).cell f0)
                have hK4 := hKw.out.trans (KC.below hb4)
                have hJ4 := hide (hJ.out _ _ _ hJw.out (grow_of hb4 none))
                have hcall2 := (callsIn_wide (n := m - 1)).2 (covers_ok A A2 G n cc n2 c2 c3 cs o1 k w4 (hcov.out.kc (hK2.out.trans hK4)) ho1 (by omega))
                replace hK4 := hide hK4
                cases hc2 : (cover cs n o1).testBit k with
                | false =>
                  rw [hc2] at hcall2
                  have hTn : T = pre3 ++ (R3 cs n (r1, r2) (o1, o2) (k + 1) (n - (k + 1)) ++ Rest2) := by
                    rw [hTk.out, hR3.out, if_neg (by unfold okC; rw [hc2]; simp)]
                  replace hcall2 := hide hcall2
                  replace hTn := hide hTn
                  clear hc2 hc1
                  refine ⟨trivial, ?_⟩
                  refine hcall2.out.mono ?_
                  rintro e w5 ⟨rfl, hb5⟩
                  have hK5 := hide (hK4.out.trans (KC.below hb5))
                  have hJ5 := hide (hJ.out _ _ _ hJ4.out (grow_of hb5 none))
                  gi_wp2
                  go_roundw
                  case rel => exact ⟨k + 1, pre3, by omega, by simp, hJ5.out, hK5.out, hTn.out⟩
                  case measure => simp [intOf]; omega
                | true =>
                  rw [hc2] at hcall2
                  have hlt40 : r2 ||| o2 < 2 ^ 40 := Nat.or_lt_two_pow hr2 ho2
                  obtain ⟨x, hxe⟩ : ∃ x, bothRt (r1, r2) (o1, o2) k = x := ⟨_, rfl⟩
                  have hxv : x.1 = ((k : Int), ((r2 ||| o2 : Nat) : Int)) := by rw [← hxe]; exact mkRt_val (by omega) hlt40
                  have hTn : T = (pre3 ++ [x]) ++ (R3 cs n (r1, r2) (o1, o2) (k + 1) (n - (k + 1)) ++ Rest2) := by
                    rw [hTk.out, hR3.out, if_pos (by unfold okC; rw [hc1, hc2]; rfl), hxe]
                    simp
                  have hlenT : pre3.length < T.length := by rw [hTn]; simp
                  have hpfx : pre3 ++ [x] <+: T := ⟨_, hTn.symm⟩
                  have hor := Bits.or_nat r2 o2 (Nat.lt_of_lt_of_le hr2 (Nat.pow_le_pow_right (by omega) (by omega))) (Nat.lt_of_lt_of_le ho2 (Nat.pow_le_pow_right (by omega) (by omega)))
                  generalize r2 ||| o2 = ro at *
                  replace hcall2 := hide hcall2
                  replace hTn := hide hTn
                  clear hc2 hc1 hxe
                  refine ⟨trivial, ?_⟩
                  refine hcall2.out.mono ?_
                  rintro e w5 ⟨rfl, hb5⟩
                  have hK5 := hide (hK4.out.trans (KC.below hb5))
                  have hJ5 := hJ.out _ _ _ hJ4.out (grow_of hb5 none)
                  have f15 := (KC.below hb5).cell f1''
                  have h15 := (KC.below hb5).cell h1''
                  obtain ⟨fn, tmps, assign, body, hy, hR⟩ := hY.out pre3 x w5 hJ5 hlenT
                  simp only [encA, encK] at hy
                  rw [hxv] at hy
                  simp only at hy
                  replace hpfx := hide hpfx
                  clear hlenT
                  gi_wp2
                  refine hR.mono ?_
                  rintro e W3 (⟨rfl, hJ3, hk3⟩ | ⟨rfl, hJx3⟩)
                  · have hK6 := hide (hK5.out.trans hk3)
                    gi_wp2
                    go_roundw
                    case rel => exact ⟨k + 1, pre3 ++ [x], by omega, by simp, hJ3, hK6.out, hTn.out⟩
                    case measure => simp [intOf]; omega
                  · gi_wp2
                    refine bodyPost_ret (results_none rfl _ _ _) rfl ?_
                    exact ⟨⟨_, rfl⟩, .inr ⟨_, hpfx.out, hJx3⟩⟩
            · have hltz3 : ¬ (k : Int) < (n : Int) := by omega
              obtain rfl : k = n := by omega
              have hTe : T = pre3 ++ (R2 cs k (r1, r2) ((nrL zb).drop (j + 1)) ++ Rest) := by
                rw [hTk.out, Nat.sub_self, hRest2.out]; rfl
              have hKe := hide (hK12.out.trans hKw.out)
              replace hTe := hide hTe
              gi_wp2
              go_roundw
              case rel => exact ⟨j + 1, pre3, by omega, by simp, hJw.out, hKe.out, hTe.out⟩
              case measure => simp [intOf]; omega
        · have hltz2 : ¬ (j : Int) < (zb.length : Int) := by omega
          obtain rfl : j = zb.length := by omega
          have hTe : T = pre2 ++ R1 cs n (nrL zb) ((nrL za).drop (i + 1)) := by
            rw [hTj.out, List.drop_of_length_le (by simp [nrL]), hRest.out]; rfl
          have hKe := hide (hK1.out.trans hKq.out)
          replace hTe := hide hTe
          gi_wp2
          go_roundw
          case rel => exact ⟨i + 1, pre2, by omega, by simp, hJq.out, hKe.out, hTe.out⟩
          case measure => simp [intOf]; omega
    · have hltz : ¬ (i : Int) < (za.length : Int) := by omega
      obtain rfl : i = za.length := by omega
      have hTe : pre = T := by
        rw [hTi.out, List.drop_of_length_le (by simp [nrL])]
        simp [R1]
      have hJe := hJs.out
      rw [hTe] at hJe
      gi_wp2
      go_end0
      exact ⟨⟨_, rfl⟩, .inl hJe⟩
end Go.Proofs.YtjfdfhnfcpfmcaaGreatDoor

/-
  class.Both.
-/
namespace Go.Proofs.YtjfdfhnfcpfmcaaGreatDoor
open Go.RowKit Go.Sort Go.Shelf Go.Maps RG

/-- A value that yields what both slices allow. -/
def CClos (A A2 G Ra Rb : Option Addr) (n cc n2 c2 c3 ma ca mb cb : Nat) : Value → World → Prop := fun v w => ∃ pa pb pv, v = .func (.func 113) #[] #[.pointer (some ⟨pa, 0, none⟩), .pointer (some ⟨pb, 0, none⟩), .pointer (some ⟨pv, 0, none⟩)] ∧
  w.cell? ⟨pa, 0, none⟩ = some (.slice Ra ma ca) ∧ w.cell? ⟨pb, 0, none⟩ = some (.slice Rb mb cb) ∧ w.cell? ⟨pv, 0, none⟩ = some (.slice A n cc) ∧ w.cell? ⟨pv, 1, none⟩ = some (.slice A2 n2 c2) ∧ w.cell? ⟨pv, 2, none⟩ = some (.slice G n c3)
theorem CClos.stb (A A2 G Ra Rb : Option Addr) (n cc n2 c2 c3 ma ca mb cb : Nat) : Stb (CClos A A2 G Ra Rb n cc n2 c2 c3 ma ca mb cb) := fun _ _ _ hb ⟨pa, pb, pv, e, h1, h2, h3, h4, h5⟩ =>
  ⟨pa, pb, pv, e, (cellB hb (lt_of_cell h1)).trans h1, (cellB hb (lt_of_cell h2)).trans h2, (cellB hb (lt_of_cell h3)).trans h3, (cellB hb (lt_of_cell h4)).trans h4, (cellB hb (lt_of_cell h5)).trans h5⟩
theorem enters_common1 : ∀ args w, (callFunc 113 args).run Tryz.prog w = .ok (.enter 113 args) w := fun _ _ => by kernel_rfl

theorem common_any (A A2 G Ra Rb : Option Addr) (n cc n2 c2 c3 ma ca mb cb : Nat) (w : World) :
    Calls Tryz.prog 85 #[.agg #[.slice A n cc, .slice A2 n2 c2, .slice G n c3], .slice Ra ma ca, .slice Rb mb cb] w fun e w' => (∃ v, e = .returned v ∧ CClos A A2 G Ra Rb n cc n2 c2 c3 ma ca mb cb v w') ∧ Below w.heap.size w w' := by
  go_enter Tryz.func85, Tryz.ntmps85
  go_wp2
  go_ret
  refine ⟨⟨_, rfl, w.heap.size + 1, w.heap.size + 1 + 1, w.heap.size, rfl, ?_, ?_, ?_, ?_, ?_⟩, (((Below.refl _ w).alloc (Nat.le_refl _) _).alloc (by simp) _).alloc (by simp +arith) _⟩ <;> go_simp

theorem common_stops (m : Nat) (hm : 2 ≤ m) (pa pb pv : Nat) (A A2 G Ra Rb : Option Addr) (n cc n2 c2 c3 ca cb : Nat) (cs : List Cls) (za zb : List Rt) (ga : ∀ x ∈ za, InR n x) (gb : ∀ x ∈ zb, InR n x) (hla : za.length ≤ 40) (hlb : zb.length ≤ 40) (w : World)
    (hRa : RdRow w Ra za.length 2 (rtRow za)) (hRb : RdRow w Rb zb.length 2 (rtRow zb)) (hcov : CovOK cs n G w) (hca : w.cell? ⟨pa, 0, none⟩ = some (.slice Ra za.length ca)) (hcb : w.cell? ⟨pb, 0, none⟩ = some (.slice Rb zb.length cb))
    (v0 : w.cell? ⟨pv, 0, none⟩ = some (.slice A n cc)) (v1 : w.cell? ⟨pv, 1, none⟩ = some (.slice A2 n2 c2)) (v2 : w.cell? ⟨pv, 2, none⟩ = some (.slice G n c3)) :
    SeqStopsK Fence.wide m Tryz.prog 113 #[.pointer (some ⟨pa, 0, none⟩), .pointer (some ⟨pb, 0, none⟩), .pointer (some ⟨pv, 0, none⟩)] encA KC (fun ys => ys = R1 cs n (nrL zb) (nrL za)) (fun pre => pre <+: R1 cs n (nrL zb) (nrL za)) (R1 cs n (nrL zb) (nrL za)).length w := fun l J Jx W hW hJ _ hY h0 =>
  (common1_in m hm l pa pb pv A A2 G Ra Rb n cc n2 c2 c3 ca cb cs za zb ga gb hla hlb w hRa hRb hcov hca hcb v0 v1 v2 _ rfl J Jx (fun pre W W' hs hg => hJ pre W W' none hs hg (fun r e => by cases e)) hY W (KC.below hW) h0).mono fun e W' ⟨he, h⟩ => ⟨he, h.imp (fun h => ⟨_, rfl, h⟩) (fun h => h)⟩

/-- The rights that allow what both lists allow. -/
def bothL (S : Sys) (ra rb : List (Int × Int)) : List Rt := R1 S.cs S.cs.length (nrL (rtsL rb)) (nrL (rtsL ra))
/-- What Both returns. -/
def BothR (S : Sys) (ra rb : List (Int × Int)) (e : Ending) (w : World) (base : Nat) : Prop :=
  (openF S [ra, rb] ≠ 0 ∧ e = .returned (.tuple #[.slice none 0 0, .int .i64 (openF S [ra, rb])])) ∨
  (openF S [ra, rb] = 0 ∧ ∃ L, IsForm S.cs S.cs.length (bothL S ra rb) L ∧ ((40 < L.length ∧ e = .returned (.tuple #[.slice none 0 0, .int .i64 3])) ∨
    (L.length ≤ 40 ∧ ∃ v, e = .returned (.tuple #[v, .int .i64 0]) ∧ w.ownsRow base 64 2 v L.length (rtFlat L))))
theorem bothL_in {cs : List Cls} {n : Nat} {za zb : List Rt} (hn : n ≤ 12) (ga : ∀ x ∈ za, InR n x) (gb : ∀ x ∈ zb, InR n x) : ∀ x ∈ R1 cs n (nrL zb) (nrL za), InR n x := by
  intro x hx
  obtain ⟨r, hr, o, ho, c, hc, _, rfl⟩ := (R1_mem cs n _ x _).1 hx
  obtain ⟨y, hy, rfl⟩ := List.mem_map.1 hr
  obtain ⟨z, hz, rfl⟩ := List.mem_map.1 ho
  obtain ⟨c1, k1, e1, _, h1⟩ := ga y hy
  obtain ⟨c2, k2, e2, _, h2⟩ := gb z hz
  have hk := Nat.or_lt_two_pow h1 h2
  refine ⟨c, k1 ||| k2, ?_, hc, hk⟩
  rw [e1, e2]
  exact mkRt_val (by omega) hk
end Go.Proofs.YtjfdfhnfcpfmcaaGreatDoor

namespace Go.Proofs.YtjfdfhnfcpfmcaaGreatDoor
open Go.RowKit Go.Sort Go.Shelf Go.Maps RG

set_option maxRecDepth 100000 in
set_option maxHeartbeats 4000000 in
theorem Both_any (A A2 R R' : Option Addr) (cc c2 cr cr' : Nat) (S : Sys) (ra rb : List (Int × Int)) (w : World) (h : InMem w A A2 cc c2 S) (hr : RdRts w R ra.length ra) (hr' : RdRts w R' rb.length rb) :
    Calls Tryz.prog 41 #[.agg #[.slice A S.cs.length cc, .slice A2 S.codes.length c2], .slice R ra.length cr, .slice R' rb.length cr'] w fun e w' => BothR S ra rb e w' w.heap.size ∧ Below w.heap.size w w' := by
  have hB0 := hide ((Below.refl w.heap.size w).alloc (Nat.le_refl _) (.cells #[.slice A S.cs.length cc, .slice A2 S.codes.length c2] 38))
  have hB1 := hide (hB0.out.alloc (by simp +arith) (.cells #[.slice R ra.length cr, .slice R' rb.length cr'] 46))
  have hopen := hide (open_mem A A2 (some ⟨w.heap.size + 1, 0, none⟩) cc c2 2 2 S [ra, rb] _ (h.below hB1.out) (by
    have := RdLists.two (hr.below hB0.out) (hr'.below hB0.out) (c := cr) (c' := cr') 46
    simpa using this))
  unfold BothR
  replace h := hide h
  replace hr := hide hr
  replace hr' := hide hr'
  go_enter Tryz.func41, Tryz.ntmps41
  go_wp2_with fail
  refine hopen.out.mono ?_
  rintro e w1 ⟨hO, hb1⟩
  have hB2 := hide (hB1.out.trans (hb1.mono (by simp +arith)))
  replace hB1 := hide hb1
  clear hb1
  generalize hx : openF S [ra, rb] = x at *
  replace hx := hide hx
  rcases hO with ⟨hx0, rfl⟩ | ⟨rfl, v, rfl, g, rfl, hg⟩
  · have hb1 : (x == 0) = false := by rw [beq_eq_false_iff_ne]; exact hx0
    have hb2 : (x != 0) = true := by rw [bne_iff_ne]; exact hx0
    unfold nilView
    replace hx0 := hide hx0
    go_wp2
    go_ret2
    exact ⟨.inl (by rw [hx.out]; exact ⟨hx0.out, rfl⟩), hB2.out.alloc hB2.out.size _⟩
  · obtain ⟨gd, gr⟩ := openF_good hx.out
    have gra := gr ra (by simp)
    have grb := gr rb (by simp)
    have hcov := hide (gd.cov hg)
    have hrowa := rtsL_row gd gra
    have hrowb := rtsL_row gd grb
    have hina := hide (rtsL_in gd gra)
    have hinb := hide (rtsL_in gd grb)
    have hma := gra.1
    have hmb := grb.1
    have hbd := gd.bd.1.2
    clear hg
    have hBL : bothL S ra rb = R1 S.cs S.cs.length (nrL (rtsL rb)) (nrL (rtsL ra)) := rfl
    replace hBL := hide hBL
    generalize hza : rtsL ra = za at *
    generalize hzb : rtsL rb = zb at *
    have hzla : za.length = ra.length := by rw [← hza]; simp [rtsL]
    have hzlb : zb.length = rb.length := by rw [← hzb]; simp [rtsL]
    replace hza := hide hza
    replace hzb := hide hzb
    have hVb := Blk.new w1 100 #[.slice A S.cs.length cc, .slice A2 S.codes.length c2, .slice (some ⟨g, 0, none⟩) S.cs.length S.cs.length]
    have hBv : Below w1.heap.size w1 (w1.alloc (.cells #[.slice A S.cs.length cc, .slice A2 S.codes.length c2, .slice (some ⟨g, 0, none⟩) S.cs.length S.cs.length] 100)) := (Below.refl _ _).alloc (Nat.le_refl _) _
    have hBw2 := hide (hB2.out.trans (hBv.mono hB2.out.size))
    have hcov2 := hcov.out.below hBv
    generalize hw2 : w1.alloc (.cells #[.slice A S.cs.length cc, .slice A2 S.codes.length c2, .slice (some ⟨g, 0, none⟩) S.cs.length S.cs.length] 100) = w2 at *
    have hs2 : w2.heap.size = w1.heap.size + 1 := by rw [← hw2]; simp
    have hrda := (hr.out.below hBw2.out).1
    have hrdb := (hr'.out.below hBw2.out).1
    rw [hrowa, ← hzla] at hrda
    rw [hrowb, ← hzlb] at hrdb
    clear hrowa hrowb
    generalize hn : S.cs.length = n at *
    replace hn := hide hn
    generalize S.codes.length = n2 at *
    replace hVb := hide hVb
    replace hcov2 := hide hcov2
    replace hw2 := hide hw2
    replace hrda := hide hrda
    replace hrdb := hide hrdb
    have hTl : (R1 S.cs n (nrL zb) (nrL za)).length ≤ 1000000 := by
      have h1 := R1_len S.cs n (nrL zb) (nrL za)
      have e1 : (nrL zb).length ≤ 40 := by simp only [nrL, List.length_map]; omega
      have e2 : (nrL za).length ≤ 40 := by simp only [nrL, List.length_map]; omega
      have h2 : (nrL zb).length * n ≤ 40 * 12 := Nat.mul_le_mul e1 hbd
      have h3 : (nrL za).length * ((nrL zb).length * n) ≤ 40 * (40 * 12) := Nat.mul_le_mul e2 h2
      omega
    have hTin := hide (bothL_in (cs := S.cs) hbd hina.out hinb.out)
    rw [← hzla, ← hzlb]
    have hla : za.length ≤ 40 := by omega
    have hlb : zb.length ≤ 40 := by omega
    replace hzla := hide hzla
    replace hzlb := hide hzlb
    generalize hT : R1 S.cs n (nrL zb) (nrL za) = T at *
    replace hT := hide hT
    clear hBv
    go_upto_region 4 with (fail)
    rw [hw2.out]
    refine region_grow [IsV (.agg #[.slice A n cc, .slice A2 n2 c2, .slice (some ⟨g, 0, none⟩) n n]), IsV (.agg #[.slice A n cc, .slice A2 n2 c2, .slice (some ⟨g, 0, none⟩) n n]), IsV (.slice R za.length cr), IsV (.slice R' zb.length cr'), CClos A A2 (some ⟨g, 0, none⟩) R R' n cc n2 c2 n za.length cr zb.length cr', LeastV S.cs n w.heap.size T, LeastV S.cs n w.heap.size T] (by kernel_rfl) (by kernel_rfl) rfl ?_ ?_ ?_
    · simp [AllStb, IsV.stb, CClos.stb, LeastV.stb]
    · refine ⟨?_, ?_, ?_, ?_, ?_, ?_, ?_, trivial⟩
      all_goals
        intro y w3 K Q Cv hC hd hV
        have hV3 := hVb.out.below hC (by omega)
        have q0 : w3.cell? ⟨w1.heap.size, 0, none⟩ = some (.slice A n cc) := hV3.cell 0
        have q1 : w3.cell? ⟨w1.heap.size, 1, none⟩ = some (.slice A2 n2 c2) := hV3.cell 1
        have q2 : w3.cell? ⟨w1.heap.size, 2, none⟩ = some (.slice (some ⟨g, 0, none⟩) n n) := hV3.cell 2
        replace hV3 := hide hV3
        simp [deps, VL, IsV, Region.binds] at hd
      · simp only [putAll, Act.put]; go_simp; intro hK; exact hK _ _ (hV _ _ hC (Below.refl _ _) rfl)
      · simp only [putAll, Act.put]; go_simp; intro hK; exact hK _ _ (hV _ _ hC (Below.refl _ _) rfl)
      · simp only [putAll, Act.put]; go_simp; intro hK; exact hK _ _ (hV _ _ hC (Below.refl _ _) rfl)
      · simp only [putAll, Act.put]; go_simp; intro hK; exact hK _ _ (hV _ _ hC (Below.refl _ _) rfl)
      · simp only [putAll, Act.put]; go_simp; intro hK
        refine (common_any A A2 (some ⟨g, 0, none⟩) R R' n cc n2 c2 n za.length cr zb.length cr' _).mono ?_
        rintro e w4 ⟨⟨v, rfl, hv⟩, hb4⟩
        exact hK _ _ (hV _ _ (hC.trans (hb4.mono hC.size)) hb4 hv)
      · obtain ⟨h0, pa, pb, pv, h4, k1, k2, k3, k4, k5⟩ : y 0 = _ ∧ CClos A A2 (some ⟨g, 0, none⟩) R R' n cc n2 c2 n za.length cr zb.length cr' (y 4) w3 := hd
        simp only [putAll, Act.put]; go_simp; intro hK
        have hst := common_stops 8 (by omega) pa pb pv A A2 (some ⟨g, 0, none⟩) R R' n cc n2 c2 n cr cr' S.cs za zb hina.out hinb.out hla hlb w3 (hrda.out.below hC) (hrdb.out.below hC) (hcov2.out.below hC) k1 k2 k3 k4 k5
        rw [hT.out] at hst
        refine (least_any A A2 (some ⟨g, 0, none⟩) n cc n2 c2 n S.cs 113 _ enters_common1 (fun ys => ys = T) (fun pre => pre <+: T) T.length hTl (fun ys e => by rw [e]; exact ⟨Nat.le_refl _, hTin.out⟩) KC w3 KC.trans (fun W l o o' _ hl ho _ => KC.put o' hl ho) (fun W W' hg _ => KC.grown hg) (fun W W' b es ck hg _ hm => KC.mapped hg hm) (hcov2.out.below hC) hst).mono ?_
        rintro e w4 ⟨v, ys, ss, rfl, rfl, hnd, hmm, hown, hb4⟩
        exact hK _ _ (hV _ _ (hC.trans (hb4.mono hC.size)) hb4 ⟨sortR ss, ⟨ss, hnd, hmm, rfl⟩, by rw [sortR_len]; exact own_base hown (Nat.le_trans hBw2.out.size hC.size)⟩)
      · obtain ⟨⟨L, hf, hown⟩, _⟩ : LeastV S.cs n w.heap.size T (y 5) w3 ∧ _ := hd
        simp only [putAll, Act.put]; go_simp; intro hK; exact hK _ _ (hV _ _ hC (Below.refl _ _) ⟨L, hf, hown⟩)
    intro y w3 hC hd
    simp [EndsL, IsV] at hd
    obtain ⟨d0, d1, d2, d3, ⟨pa, pb, pv, d4, _⟩, _, ⟨L, hf, hown⟩⟩ := hd
    simp only [putAll, Act.put]
    rw [d0, d1, d2, d3, d4]
    generalize y 5 = v3 at *
    generalize y 6 = v4 at *
    clear d0 d1 d2 d3 d4
    simp only [List.setIfInBounds_toArray, List.set_cons_succ, List.set_cons_zero]
    have hB3 := hide (hBw2.out.trans (hC.mono hBw2.out.size))
    obtain ⟨A1, C1, rfl, _, _, _⟩ := rts_of_own hown
    have hf2 : IsForm S.cs S.cs.length (bothL S ra rb) L := by rw [hBL.out, hn.out]; exact hf
    clear hf
    replace hf2 := hide hf2
    replace hown := hide hown
    clear hC
    by_cases hL : 40 < L.length
    · have hLz : (40 : Int) < (L.length : Int) := by omega
      go_wp2
      go_ret2
      exact ⟨.inr ⟨hx.out, L, hf2.out, .inl ⟨hL, rfl⟩⟩, hB3.out⟩
    · have hLz : ¬ (40 : Int) < (L.length : Int) := by omega
      have hLL : L.length ≤ 40 := by omega
      go_wp2
      go_ret2
      exact ⟨.inr ⟨hx.out, L, hf2.out, .inr ⟨hLL, _, rfl, hown.out⟩⟩, hB3.out⟩
end Go.Proofs.YtjfdfhnfcpfmcaaGreatDoor
