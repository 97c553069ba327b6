import Derived.Test.YtjfdfhnfcpfmcaaGreatDoorMb
import Derived.Test.YtjfdfhnfcpfmcaaGreatDoorRows
import Derived.ProofKit
import Derived.OpenShut
import Derived.LaidMore
import Derived.Lay
import Derived.SevenTiedAt
import Derived.Stop.Joined
import Derived.Deep.DeepHandedRow
import Derived.Lib.SmallJoins
import Derived.Test.YtjfdfhnfcpfmcaaGreatDoorMi
import Derived.SliceStrings
import Derived.ChangeSlices
import Derived.Deep.Slices
/-
  What every law of this project leans on to be a row: the listed variables give the table of the months; the arguments of a law read behind the call as before; the start that lays the listed variables.
-/
namespace Go.Proofs.YtjfdfhnfcpfmcaaGreatDoor
open Go.ChangeShapes Go.WideShapes Go.ChangeAt Go.RowKit

section
variable {H : Type} {enc : TypeId × Value → H} {P : Program}
theorem trodAll_later (hl : laidOutB P = true) {W W' : World} {sp : Nat → Bool} (hb : Below W.heap.size W W') : ∀ (ts : List TypeId) (vs : List Value) (ds : List (DataW H)) (p : List MemPlace),
    (∀ t ∈ ts, P.readableRec t = true ∧ t < P.types.size) → DataW.TrodAll enc P W 0 (fun _ => true) true ts vs ds p → (∀ x ∈ p, x.block < W.heap.size) → (∀ x ∈ p, sp x.block = true) → DataW.TrodAll enc P W' 0 sp true ts vs ds p := by
  intro ts
  induction ts with
  | nil =>
    intro vs ds p _ h _ _
    obtain ⟨rfl, rfl, rfl⟩ := trodAll_nil h
    exact trodAll_mk0
  | cons t ts ih =>
    intro vs ds p hr h hlt hsp
    obtain ⟨v, vs', d, ds', p1, p2, rfl, rfl, rfl, h1, h2⟩ := trodAll_cons h
    have ht := hr t (List.mem_cons_self ..)
    exact trodAll_cons_mk (WideElems.Trod_stays hl ht.1 ht.2 h1 (fun x hx => hb.same (hlt x (List.mem_append_left _ hx))) (fun x hx => hsp x (List.mem_append_left _ hx)))
      (ih vs' ds' p2 (fun t ht => hr t (List.mem_cons_of_mem _ ht)) h2 (fun x hx => hlt x (List.mem_append_right _ hx)) (fun x hx => hsp x (List.mem_append_right _ hx)))
/-- A law that returns true and changes nothing that was there. -/
theorem law_post (hl : laidOutB P = true) {f : Func} {s : ChangeSpec} {W W' : World} {args : Array Value} {ds gs : List (DataW H)} {before : List MemPlace} {tb : TypeId}
    (hW : DataW.Whole enc P f.params.toList s.vars false W args.toList ds gs before) (hread : ∀ t ∈ f.params.toList, P.readableRec t = true ∧ t < P.types.size) (hres : f.resultTypes = #[tb]) (hb : P.underlying tb = some .bool)
    (hvars : s.vars = []) (hs : s.fn H (ds ++ gs) = { results := [.lit (.bool true)], args := ds }) (hbel : Below W.heap.size W W') : s.post enc P f false true false false W args (.bool true) W' := by
  obtain ⟨p, q, hA, hV, hpq, hz, hn⟩ := id hW
  have hlt : ∀ x ∈ before, x.block < W.heap.size := fun x hx => by simpa using hW.lt x hx
  refine ⟨ds, gs, before, [], p, q, hW, ?_, ?_, ?_, World.keptBut_mono (fun _ f => f.elim) (hbel.frame fun _ => False), fun h => by cases h⟩
  · rw [hs, hres]
    exact trodAll_mk1 (shut_bool hb _)
  · rw [hs]
    have hp : ∀ x ∈ p, x.block < W.heap.size := fun x hx => hlt x (by rw [hpq]; exact List.mem_append_left _ hx)
    exact trodAll_later hl hbel _ _ _ _ hread hA hp (fun x hx => by simpa using hp x hx)
  · rw [hs]
    rw [hvars] at hV ⊢
    obtain ⟨rfl, rfl⟩ := trodVars_none hV
    exact hV
end

/-- What each row lists. -/
def lst : List (String × DataW Unit) := [("unicode/utf8.acceptRanges", Rows.laid_unicode_utf8_acceptRanges), ("bitepoint/class.monthDays", Rows.laid_bitepoint_class_monthDays), ("unicode/utf8.first", Rows.laid_unicode_utf8_first)]
theorem own : ownKnob Tryz.prog.godebug = none := by kernel_rfl
theorem laidOut0 : laidOutB Tryz.prog = true := by kernel_rfl
def monthsZ : List Int := [31, 28, 31, 30, 31, 30, 31, 31, 30, 31, 30, 31]

theorem env_of {W : World} (h : laidMetH Tryz.prog lst W) : Env W := by
  rw [MakeChecks.laidMetH_plain _ _ _ (by kernel_rfl)] at h
  obtain ⟨ps, ⟨g1, t1, cs1, fuel1, p1, q1, hg1, ht1, hv1, hd1, ⟨g, t, cs, fuel, p, q, hg, ht, hv, hd, _, _⟩, _⟩, _, _⟩ := h
  obtain rfl := Option.some.inj ((show Tryz.prog.globalNamed "unicode/utf8.acceptRanges" = some 3 by kernel_rfl).symm.trans hg1)
  obtain rfl := Option.some.inj ((show Tryz.prog.globalNamed "bitepoint/class.monthDays" = some 0 by kernel_rfl).symm.trans hg)
  obtain rfl := Option.some.inj ((show (Tryz.prog.globals[0]?).map (·.type) = some 124 by kernel_rfl).symm.trans ht)
  obtain ⟨xs, m, _, ex, _, hl, hel⟩ := DataW.trod_array Tryz.underlying124 hd
  have c5 : Tryz.prog.cellsOf 3 = 1 := by kernel_rfl
  refine ⟨?_, fun r hr => ?_⟩
  · simp only [World.var?, hg1, Option.bind_some] at hv1
    rcases Nat.lt_or_ge 3 W.heap.size with h' | h'
    · exact h'
    · rw [Array.getElem?_eq_none h'] at hv1
      cases hv1
  · have hE := hel r hr
    rw [c5, Nat.mul_one, List.getElem?_eq_getElem (by omega)] at hE
    obtain ⟨z, e1, e2, _⟩ := DataW.trod_int Tryz.underlying3 hE
    have hlen : monthsZ.length = 12 := rfl
    have e3 : (xs.map (·.1)) = monthsZ.map fun n => .lit (.int .i64 n) := (DataW.agg.inj (Prod.mk.inj ex).1).symm
    have e4 : (xs.map (·.1))[r]? = (monthsZ.map fun n => (DataW.lit (.int .i64 n) : DataW Unit))[r]? := by rw [e3]
    rw [List.getElem?_map, List.getElem?_map, List.getElem?_eq_getElem (by omega : r < xs.length), List.getElem?_eq_getElem (by omega : r < monthsZ.length), e2] at e4
    have hz : z = Cal.monthTab r := by
      simp only [Option.map_some, Option.some.injEq, DataW.lit.injEq, Lit.int.injEq, true_and] at e4
      rw [e4]
      rcases (show r = 0 ∨ r = 1 ∨ r = 2 ∨ r = 3 ∨ r = 4 ∨ r = 5 ∨ r = 6 ∨ r = 7 ∨ r = 8 ∨ r = 9 ∨ r = 10 ∨ r = 11 by omega) with rfl | rfl | rfl | rfl | rfl | rfl | rfl | rfl | rfl | rfl | rfl | rfl <;> rfl
    rw [World.var?_cell hg hv r, ← hz]
    have : cs.toList[r]? = some (.int .i64 z) := by
      have h0 : ((cs.toList.drop r).take 1)[0]? = some (.int .i64 z) := by rw [e1]; rfl
      simpa using h0
    simpa using this
end Go.Proofs.YtjfdfhnfcpfmcaaGreatDoor

/-
  The start that lays the listed variables: what a row's witness asks of it, whatever the arguments.
-/
namespace Go.Proofs.YtjfdfhnfcpfmcaaGreatDoor
open Go.ChangeShapes Go.WideShapes Go.ChangeAt Go.RowKit
theorem wit0 (os : Os) (args : Array Value) : ((World.laidAll Tryz.prog os lst).forCall (fun _ _ => 0) ⟨#[], args, []⟩).variablesB Tryz.prog = true := by kernel_rfl
theorem wit1 (os : Os) (args : Array Value) : ((((World.laidAll Tryz.prog os lst).forCall (fun _ _ => 0) ⟨#[], args, []⟩).heap.toList.drop Tryz.prog.globals.size).take ((begin Tryz.prog (fun _ _ => 0) default).world.heap.size - Tryz.prog.globals.size) =
      (begin Tryz.prog (fun _ _ => 0) default).world.heap.toList.drop Tryz.prog.globals.size) := by kernel_rfl
theorem wit3 (os : Os) (args : Array Value) : laidMetH Tryz.prog lst ((World.laidAll Tryz.prog os lst).forCall (fun _ _ => 0) ⟨#[], args, []⟩).memory := by
  rw [MakeChecks.laidMetH_plain _ _ _ (by kernel_rfl)]
  exact laidMet_laidAll _ (by kernel_rfl) (by kernel_rfl)
end Go.Proofs.YtjfdfhnfcpfmcaaGreatDoor

/-
  The arguments of the laws as they are read: rows of numbers, dates.
-/
namespace Go.Proofs.YtjfdfhnfcpfmcaaGreatDoor
open Go.ChangeShapes Go.WideShapes Go.ChangeAt Go.RowKit

section
variable {H : Type} {enc : TypeId × Value → H} {P : Program} {w : World} {base : Nat} {spare : Nat → Bool} {held : Bool} {r : Reach} {b0 : Nat}
theorem okWide_array_ {t e : TypeId} {n : Nat} {v : Value} (ht : P.underlying t = some (.array n e)) (h : Value.okWide P w r b0 t v) : ∃ cs, v = .agg cs ∧ cs.size = P.cellsOf t := by
  simp only [Value.okWide, ht] at h
  obtain ⟨cs, h1, h2, _⟩ := h
  exact ⟨cs, h1, h2⟩
theorem open_intarr {t e : TypeId} {n : Nat} {k : IntKind} {v : Value} {d : DataW H} {p : List MemPlace} (ht : P.underlying t = some (.array n e)) (he : P.underlying e = some (.int k)) (ce : P.cellsOf e = 1) (ct : P.cellsOf t = n)
    (hv : Value.okWide P w r b0 t v) (h : DataW.Trod enc P w base spare held t v d p) : ∃ zs : List Int, zs.length = n ∧ v = .agg (zs.map (Value.int k)).toArray ∧ ∀ z ∈ zs, (Lit.int k z).wf = true := by
  obtain ⟨cs, rfl, hsz⟩ := okWide_array_ ht hv
  obtain ⟨fuel, hf⟩ := h
  obtain ⟨xs, m, _, _, hl, hlen, hel⟩ := DataW.trod_array ht hf
  have hcs : (Value.agg cs).cells = cs := rfl
  rw [hcs] at hel
  rw [ct] at hsz
  have key : ∀ i (hi : i < n), ∃ z, cs.toList[i]? = some (.int k z) ∧ (Lit.int k z).wf = true := by
    intro i hi
    have hE := hel i hi
    rw [ce, Nat.mul_one, List.getElem?_eq_getElem (by omega)] at hE
    obtain ⟨z, e1, _, wz⟩ := DataW.trod_int he hE
    refine ⟨z, ?_, wz⟩
    have h0 : ((cs.toList.drop i).take 1)[0]? = some (.int k z) := by rw [e1]; rfl
    simpa using h0
  refine ⟨cs.toList.map intOf, by simp [hsz], ?_, ?_⟩
  · congr 1
    apply Array.ext
    · simp
    · intro i h1 h2
      obtain ⟨z, hz, _⟩ := key i (by omega)
      have hz' : cs[i] = .int k z := by
        rw [List.getElem?_eq_getElem (by simpa using h1)] at hz
        simpa using hz
      simp [hz', intOf]
  · intro z hz
    obtain ⟨u, hu, rfl⟩ := List.mem_map.1 hz
    obtain ⟨i, hi, rfl⟩ := List.mem_iff_getElem.1 hu
    obtain ⟨z, hz, wz⟩ := key i (by simpa [hsz] using hi)
    rw [List.getElem?_eq_getElem hi] at hz
    simp only [Option.some.injEq] at hz
    rw [hz]
    exact wz
end
theorem wf64 {z : Int} (h : (Lit.int .i64 z).wf = true) : -9223372036854775808 ≤ z ∧ z ≤ 9223372036854775807 := by
  have hmin : IntKind.i64.min = -9223372036854775808 := rfl
  have hmax : IntKind.i64.max = 9223372036854775807 := rfl
  simp only [Lit.wf, Bool.and_eq_true, decide_eq_true_eq] at h
  omega
theorem wf16 {z : Int} (h : (Lit.int .u16 z).wf = true) : 0 ≤ z ∧ z ≤ 65535 := by
  have hmin : IntKind.u16.min = 0 := rfl
  have hmax : IntKind.u16.max = 65535 := rfl
  simp only [Lit.wf, Bool.and_eq_true, decide_eq_true_eq] at h
  omega
theorem wf8 {z : Int} (h : (Lit.int .u8 z).wf = true) : 0 ≤ z ∧ z ≤ 255 := by
  have hmin : IntKind.u8.min = 0 := rfl
  have hmax : IntKind.u8.max = 255 := rfl
  simp only [Lit.wf, Bool.and_eq_true, decide_eq_true_eq] at h
  omega
section
variable {H : Type} {enc : TypeId × Value → H} {w : World} {base : Nat} {spare : Nat → Bool} {held : Bool} {r : Reach} {b0 : Nat} {v : Value} {d : DataW H} {p : List MemPlace}
set_option maxRecDepth 100000 in
theorem open_date (hv : Value.okWide Tryz.prog w r b0 23 v) (h : DataW.Trod enc Tryz.prog w base spare held 23 v d p) :
    ∃ Y M D : Int, v = .agg #[.int .i64 Y, .int .i64 M, .int .i64 D] ∧ -9223372036854775808 ≤ Y ∧ Y ≤ 9223372036854775807 := by
  obtain ⟨v0, v1, v2, y0, y1, y2, n, rfl, _, _, h0, h1, h2⟩ := Joins.open_agg3 Tryz.underlying23 (by kernel_rfl) (by kernel_rfl) hv h
  obtain ⟨Y, e0, _, wY⟩ := DataW.trod_int Tryz.underlying3 h0
  obtain ⟨M, e1, _, _⟩ := DataW.trod_int Tryz.underlying3 h1
  obtain ⟨D, e2, _, _⟩ := DataW.trod_int Tryz.underlying3 h2
  simp only [List.cons.injEq, and_true] at e0 e1 e2
  subst e0 e1 e2
  exact ⟨Y, M, D, rfl, wf64 wY⟩
set_option maxRecDepth 100000 in
theorem open_u16x2 (hv : Value.okWide Tryz.prog w r b0 68 v) (h : DataW.Trod enc Tryz.prog w base spare held 68 v d p) :
    ∃ x0 x1 : Int, v = .agg #[.int .u16 x0, .int .u16 x1] ∧ (0 ≤ x0 ∧ x0 ≤ 65535) ∧ (0 ≤ x1 ∧ x1 ≤ 65535) := by
  obtain ⟨zs, hl, rfl, hw⟩ := open_intarr Tryz.underlying68 Tryz.underlying67 (by kernel_rfl) (by kernel_rfl) hv h
  match zs, hl with
  | [x0, x1], _ => exact ⟨x0, x1, rfl, wf16 (hw _ (by simp)), wf16 (hw _ (by simp))⟩
set_option maxRecDepth 100000 in
theorem open_i64x4 (hv : Value.okWide Tryz.prog w r b0 24 v) (h : DataW.Trod enc Tryz.prog w base spare held 24 v d p) :
    ∃ x0 x1 x2 x3 : Int, v = .agg #[.int .i64 x0, .int .i64 x1, .int .i64 x2, .int .i64 x3] ∧ ∀ z ∈ [x0, x1, x2, x3], -9223372036854775808 ≤ z ∧ z ≤ 9223372036854775807 := by
  obtain ⟨zs, hl, rfl, hw⟩ := open_intarr Tryz.underlying24 Tryz.underlying3 (by kernel_rfl) (by kernel_rfl) hv h
  match zs, hl with
  | [x0, x1, x2, x3], _ => exact ⟨x0, x1, x2, x3, rfl, fun z hz => wf64 (hw z hz)⟩
end
end Go.Proofs.YtjfdfhnfcpfmcaaGreatDoor

/-
  The arguments of the laws as they are read: systems, and rows of rights.
-/
namespace Go.Proofs.YtjfdfhnfcpfmcaaGreatDoor
open Go.ChangeShapes Go.WideShapes Go.ChangeAt Go.RowKit

theorem list_of {α : Type} [Inhabited α] {n : Nat} {P : Nat → α → Prop} (h : ∀ i, i < n → ∃ x, P i x) : ∃ l : List α, l.length = n ∧ ∀ i, i < n → P i (l[i]?.getD default) := by
  induction n with
  | zero => exact ⟨[], rfl, fun i hi => absurd hi (by omega)⟩
  | succ n ih =>
    obtain ⟨l, hl, hp⟩ := ih fun i hi => h i (by omega)
    obtain ⟨x, hx⟩ := h n (by omega)
    refine ⟨l ++ [x], by simp [hl], fun i hi => ?_⟩
    by_cases e : i = n
    · subst e
      rw [List.getElem?_append_right (by omega), hl]
      simpa using hx
    · rw [List.getElem?_append_left (by omega)]
      exact hp i (by omega)
theorem plain_addr {w : World} {a : Addr} {v : Value} (h : w.cell? a = some v) : ∃ b off, a = ⟨b, off, none⟩ := by
  obtain ⟨b, off, s⟩ := a
  cases s with
  | none => exact ⟨b, off, rfl⟩
  | some x =>
    exfalso
    unfold World.cell? at h
    simp only at h
    split at h <;> simp at h
theorem add_plain (b off i : Nat) : Addr.add ⟨b, off, none⟩ i = ⟨b, off + i, none⟩ := by
  unfold Addr.add
  split
  · rename_i h; subst h; rfl
  · rfl
theorem add_plain_zero (a : Addr) : a.add 0 = a := by simp [Addr.add]
theorem len_le_cap {m len cap : Nat} (h1 : m = len ∨ m = cap) (h2 : len ≤ cap) : len ≤ m := by omega
section
variable {H : Type} {enc : TypeId × Value → H} {w : World} {base : Nat} {held : Bool} {r : Reach} {b0 : Nat} {v : Value} {d : DataW H} {p : List MemPlace} {fuel : Nat} {cs : List Value} {x : DataW H × List MemPlace}

/-- A row of numbers. -/
theorem open_rdInts (h : DataW.trod enc Tryz.prog w base (fun _ => true) held fuel 41 cs = some x) : ∃ A c xs, cs = [.slice A (xs : List Int).length c] ∧ RdInts w A xs.length xs ∧ xs.length ≤ maxLen ∧ xs.length ≤ c := by
  rcases open_ints Tryz.underlying41 Tryz.underlying3 (by kernel_rfl) h with ⟨rfl, _⟩ | ⟨a, len, cap, zs, rfl, hb, hl, hm, hlen, _, hc, _⟩
  · exact ⟨none, 0, [], rfl, rdInts_nil _ _, by unfold maxLen; simp, Nat.le_refl _⟩
  · simp only [if_true] at hlen
    have hlt : (zs.take len).length = len := by simp; omega
    refine ⟨some a, cap, zs.take len, by rw [hlt], ?_, by rw [hlt]; omega, by rw [hlt]; exact hl⟩
    rw [hlt]
    refine ⟨hlt, fun hn => ?_⟩
    have h0 := hc 0 (by omega)
    obtain ⟨b, off, e⟩ := plain_addr h0
    rw [add_plain_zero] at e
    subst e
    refine ⟨b, off, rfl, by have := lt_of_cell h0; simpa [Addr.add] using this, fun j hj => ?_⟩
    have := hc j (by omega)
    rw [add_plain] at this
    rw [this, List.getElem?_take_of_lt hj]
    simp [List.getD]

/-- A row of strings. -/
theorem open_rdStrs (h : DataW.trod enc Tryz.prog w base (fun _ => true) held fuel 36 cs = some x) : ∃ A c xs, cs = [.slice A (xs : List ByteArray).length c] ∧ RdStrs w A xs.length xs ∧ xs.length ≤ maxLen ∧ xs.length ≤ c := by
  rcases open_strings Tryz.underlying36 Tryz.underlying9 (by kernel_rfl) h with ⟨rfl, _⟩ | ⟨a, len, cap, ss, rfl, hb, hl, hm, hlen, _, hc, hs⟩
  · exact ⟨none, 0, [], rfl, RdStrs.nil _ _, by unfold maxLen; simp, Nat.le_refl _⟩
  · simp only [if_true] at hlen
    have hlt : (ss.take len).length = len := by simp; omega
    refine ⟨some a, cap, ss.take len, by rw [hlt], ?_, by rw [hlt]; omega, by rw [hlt]; exact hl⟩
    rw [hlt]
    refine ⟨hlt, fun s hs' => hs s (List.mem_of_mem_take hs'), fun hn => ?_⟩
    have h0 := hc 0 (by omega)
    obtain ⟨b, off, e⟩ := plain_addr h0
    rw [add_plain_zero] at e
    subst e
    refine ⟨b, off, rfl, by have := lt_of_cell h0; simpa [Addr.add] using this, fun j s hj => ?_⟩
    have hj' : j < len := by
      rcases Nat.lt_or_ge j len with h' | h'
      · exact h'
      · rw [List.getElem?_eq_none (by omega)] at hj; cases hj
    have := hc j (by omega)
    rw [add_plain] at this
    rw [this]
    rw [List.getElem?_take_of_lt hj'] at hj
    simp [List.getD, hj]
set_option maxRecDepth 100000 in
/-- A class. -/
theorem open_rdCls (h : DataW.trod enc Tryz.prog w base (fun _ => true) held fuel 93 cs = some x) : ∃ c, RdCls w cs c := by
  obtain ⟨xs, n, _, _, hl, hlen, hf⟩ := DataW.trod_struct Tryz.underlying93 h
  have c5 : Tryz.prog.cellsOf 93 = 5 := by kernel_rfl
  have k9 : Tryz.prog.cellsOf 9 = 1 := by kernel_rfl
  have k3 : Tryz.prog.cellsOf 3 = 1 := by kernel_rfl
  have k41 : Tryz.prog.cellsOf 41 = 1 := by kernel_rfl
  rw [c5] at hl
  obtain ⟨x0, x1, x2, x3, x4, rfl⟩ := len5 hl
  have hlen : xs.length = 5 := hlen
  obtain ⟨y0, y1, y2, y3, y4, rfl⟩ : ∃ y0 y1 y2 y3 y4, xs = [y0, y1, y2, y3, y4] := by
    match xs, hlen with
    | [y0, y1, y2, y3, y4], _ => exact ⟨y0, y1, y2, y3, y4, rfl⟩
  have f0 : DataW.trod enc Tryz.prog w base (fun _ => true) held n 9 (([x0, x1, x2, x3, x4].drop 0).take (Tryz.prog.cellsOf 9)) = some y0 := hf 0 _ rfl
  rw [k9] at f0
  have f1 : DataW.trod enc Tryz.prog w base (fun _ => true) held n 41 (([x0, x1, x2, x3, x4].drop 1).take (Tryz.prog.cellsOf 41)) = some y1 := hf 1 _ rfl
  rw [k41] at f1
  have f2 : DataW.trod enc Tryz.prog w base (fun _ => true) held n 3 (([x0, x1, x2, x3, x4].drop 2).take (Tryz.prog.cellsOf 3)) = some y2 := hf 2 _ rfl
  rw [k3] at f2
  have f3 : DataW.trod enc Tryz.prog w base (fun _ => true) held n 3 (([x0, x1, x2, x3, x4].drop 3).take (Tryz.prog.cellsOf 3)) = some y3 := hf 3 _ rfl
  rw [k3] at f3
  have f4 : DataW.trod enc Tryz.prog w base (fun _ => true) held n 3 (([x0, x1, x2, x3, x4].drop 4).take (Tryz.prog.cellsOf 3)) = some y4 := hf 4 _ rfl
  rw [k3] at f4
  obtain ⟨s, e0, _, hs⟩ := DataW.trod_string Tryz.underlying9 f0
  obtain ⟨A, c, inc, e1, hi, him, _⟩ := open_rdInts f1
  obtain ⟨z2, e2, _, _⟩ := DataW.trod_int Tryz.underlying3 f2
  obtain ⟨z3, e3, _, _⟩ := DataW.trod_int Tryz.underlying3 f3
  obtain ⟨z4, e4, _, _⟩ := DataW.trod_int Tryz.underlying3 f4
  obtain rfl : x0 = .string s := by simpa using e0
  obtain rfl : x1 = .slice A inc.length c := by simpa using e1
  obtain rfl : x2 = .int .i64 z2 := by simpa using e2
  obtain rfl : x3 = .int .i64 z3 := by simpa using e3
  obtain rfl : x4 = .int .i64 z4 := by simpa using e4
  exact ⟨⟨s, inc, z2, z3, z4⟩, A, c, rfl, hi, him, hs⟩
set_option maxRecDepth 100000 in
/-- A row of classes. -/
theorem open_rdClss (h : DataW.trod enc Tryz.prog w base (fun _ => true) held fuel 35 cs = some x) : ∃ A c xs cl, cs = [.slice A (cl : List Cls).length c] ∧ RdClss w A cl.length xs cl ∧ cl.length ≤ c := by
  rcases Go.Deep.open_slice Tryz.underlying35 h with ⟨rfl, _⟩ | ⟨a, len, cap, m, n, D, Pl, rfl, hb, hl, hm, hmm, _, hx⟩
  · exact ⟨none, 0, [], [], rfl, ⟨RdRow.nil _ _ _, rfl, by unfold maxLen; simp, fun j hj => absurd hj (by simp)⟩, Nat.le_refl _⟩
  · have c5 : Tryz.prog.cellsOf 93 = 5 := by kernel_rfl
    rw [c5] at hx
    simp only [if_true] at hmm
    have key : ∀ i, i < len → ∃ q : List Value × Cls, q.1.length = 5 ∧ RdCls w q.1 q.2 ∧ ∀ j, j < 5 → w.cell? ((a.add (i * 5)).add j) = q.1[j]? := by
      intro i hi
      obtain ⟨cs', h1, h2⟩ := hx i (by omega)
      obtain ⟨_, h3, h4⟩ := World.cells?_some h1
      obtain ⟨c, hc⟩ := open_rdCls h2
      exact ⟨(cs', c), h3, hc, h4⟩
    obtain ⟨l, hll, hlp⟩ := list_of key
    refine ⟨some a, cap, l.map (·.1), l.map (·.2), by simp [hll], ?_, by simpa [hll] using hl⟩
    simp only [List.length_map, hll]
    have hg1 : ∀ j, j < len → (l.map (·.1))[j]?.getD [] = (l[j]?.getD default).1 := fun j hj => by
      rw [List.getElem?_map, List.getElem?_eq_getElem (by omega)]; rfl
    have hg2 : ∀ j, j < len → (l.map (·.2))[j]?.getD default = (l[j]?.getD default).2 := fun j hj => by
      rw [List.getElem?_map, List.getElem?_eq_getElem (by omega)]; rfl
    refine ⟨⟨by simp [hll], fun y hy => ?_, fun hn => ?_⟩, by simp [hll], by omega, fun j hj => by rw [hg1 j hj, hg2 j hj]; exact (hlp j hj).2.1⟩
    · obtain ⟨q, hq, rfl⟩ := List.mem_map.1 hy
      obtain ⟨j, hj, rfl⟩ := List.mem_iff_getElem.1 hq
      have := (hlp j (by omega)).1
      rwa [List.getElem?_eq_getElem hj] at this
    · have h0 := (hlp 0 hn).2.2 0 (by omega)
      have hl5 := (hlp 0 hn).1
      rw [List.getElem?_eq_getElem (by omega)] at h0
      obtain ⟨b, off, e⟩ := plain_addr h0
      rw [Nat.zero_mul, add_plain_zero, add_plain_zero] at e
      subst e
      refine ⟨b, off, rfl, by have := lt_of_cell h0; simpa [Addr.add] using this, fun j i v hv => ?_⟩
      have hj : j < len := by
        rcases Nat.lt_or_ge j len with h' | h'
        · exact h'
        · rw [List.getElem?_eq_none (l := l.map (·.1)) (by simp [hll]; exact h')] at hv; simp at hv
      rw [hg1 j hj] at hv
      have hi : i < 5 := by
        rcases Nat.lt_or_ge i 5 with h' | h'
        · exact h'
        · rw [List.getElem?_eq_none (by rw [(hlp j hj).1]; exact h')] at hv; cases hv
      have := (hlp j hj).2.2 i hi
      rw [add_plain, add_plain, hv] at this
      exact this
set_option maxRecDepth 100000 in
/-- A system. -/
theorem open_sys {r : Reach} {b0 : Nat} {v : Value} {d : DataW H} {p : List MemPlace} (hv : Value.okWide Tryz.prog w r b0 38 v) (h : DataW.Trod enc Tryz.prog w base (fun _ => true) held 38 v d p) :
    ∃ A A2 cc c2 S, v = .agg #[.slice A (S : Sys).cs.length cc, .slice A2 S.codes.length c2] ∧ InMem w A A2 cc c2 S := by
  obtain ⟨v0, v1, y0, y1, n, rfl, _, _, h0, h1⟩ := Joins.open_agg2 Tryz.underlying38 (by kernel_rfl) (by kernel_rfl) hv h
  obtain ⟨A, cc, xs, cl, e0, hcl, hcc⟩ := open_rdClss h0
  obtain ⟨A2, c2, codes, e1, hs, hsm, hsc⟩ := open_rdStrs h1
  simp only [List.cons.injEq, and_true] at e0 e1
  subst e0 e1
  exact ⟨A, A2, cc, c2, ⟨cl, codes⟩, rfl, ⟨xs, hcl⟩, hcc, hs, hsc, hsm⟩
set_option maxRecDepth 100000 in
/-- A row of rights. -/
theorem open_rdRts (h : DataW.trod enc Tryz.prog w base (fun _ => true) held fuel 46 cs = some x) : ∃ A c rs, cs = [.slice A (rs : List (Int × Int)).length c] ∧ RdRts w A rs.length rs ∧ rs.length ≤ c := by
  rcases Go.Deep.open_slice Tryz.underlying46 h with ⟨rfl, _⟩ | ⟨a, len, cap, m, n, D, Pl, rfl, hb, hl, hm, hmm, _, hx⟩
  · exact ⟨none, 0, [], rfl, ⟨RdRow.nil _ _ _, by unfold maxLen; simp⟩, Nat.le_refl _⟩
  · have c2 : Tryz.prog.cellsOf 64 = 2 := by kernel_rfl
    have k3 : Tryz.prog.cellsOf 3 = 1 := by kernel_rfl
    rw [c2] at hx
    simp only [if_true] at hmm
    have key : ∀ i, i < len → ∃ q : Int × Int, ∀ j, j < 2 → w.cell? ((a.add (i * 2)).add j) = (rtCells q)[j]? := by
      intro i hi
      obtain ⟨cs', h1, h2⟩ := hx i (by omega)
      obtain ⟨_, h3, h4⟩ := World.cells?_some h1
      obtain ⟨y0, y1, n', _, _, g0, g1⟩ := trod_struct2 Tryz.underlying64 h2
      obtain ⟨x0, x1, rfl⟩ := len2 h3
      have g0 : DataW.trod enc Tryz.prog w base (fun _ => true) held n' 3 (([x0, x1].drop 0).take (Tryz.prog.cellsOf 3)) = some y0 := g0
      have g1 : DataW.trod enc Tryz.prog w base (fun _ => true) held n' 3 (([x0, x1].drop 1).take (Tryz.prog.cellsOf 3)) = some y1 := g1
      rw [k3] at g0 g1
      obtain ⟨z0, e0, _, _⟩ := DataW.trod_int Tryz.underlying3 g0
      obtain ⟨z1, e1, _, _⟩ := DataW.trod_int Tryz.underlying3 g1
      obtain rfl : x0 = .int .i64 z0 := by simpa using e0
      obtain rfl : x1 = .int .i64 z1 := by simpa using e1
      exact ⟨(z0, z1), h4⟩
    obtain ⟨l, hll, hlp⟩ := list_of key
    refine ⟨some a, cap, l, by rw [hll], ?_, by rw [hll]; exact hl⟩
    rw [hll]
    have hg1 : ∀ j, j < len → (l.map rtCells)[j]?.getD [] = rtCells (l[j]?.getD default) := fun j hj => by
      rw [List.getElem?_map, List.getElem?_eq_getElem (by omega)]; rfl
    refine ⟨⟨by simp [hll], fun y hy => ?_, fun hn => ?_⟩, by omega⟩
    · obtain ⟨q, _, rfl⟩ := List.mem_map.1 hy
      rfl
    · have h0 := hlp 0 hn 0 (by omega)
      have h0' : w.cell? ((a.add (0 * 2)).add 0) = some (.int .i64 (l[0]?.getD default).1) := h0
      obtain ⟨b, off, e⟩ := plain_addr h0'
      rw [Nat.zero_mul, add_plain_zero, add_plain_zero] at e
      subst e
      refine ⟨b, off, rfl, by have := lt_of_cell h0'; simpa [Addr.add] using this, fun j i v hv => ?_⟩
      have hj : j < len := by
        rcases Nat.lt_or_ge j len with h' | h'
        · exact h'
        · rw [List.getElem?_eq_none (l := l.map rtCells) (by simp [hll]; exact h')] at hv; simp at hv
      rw [hg1 j hj] at hv
      have hi : i < 2 := by
        rcases Nat.lt_or_ge i 2 with h' | h'
        · exact h'
        · rw [List.getElem?_eq_none (by simpa [rtCells] using h')] at hv; cases hv
      have := hlp j hj i hi
      rw [add_plain, add_plain, hv] at this
      exact this
set_option maxRecDepth 100000 in
theorem open_rts {r : Reach} {b0 : Nat} {v : Value} {d : DataW H} {p : List MemPlace} (hv : Value.okWide Tryz.prog w r b0 46 v) (h : DataW.Trod enc Tryz.prog w base (fun _ => true) held 46 v d p) :
    ∃ A c rs, v = .slice A (rs : List (Int × Int)).length c ∧ RdRts w A rs.length rs ∧ rs.length ≤ c := by
  obtain ⟨a, len, cap, rfl⟩ := okWide_slice Tryz.underlying46 hv
  obtain ⟨fuel, hf⟩ := h
  obtain ⟨A, c, rs, e, h1, h2⟩ := open_rdRts hf
  simp only [Value.cells, List.cons.injEq, and_true] at e
  exact ⟨A, c, rs, e, h1, h2⟩
end
end Go.Proofs.YtjfdfhnfcpfmcaaGreatDoor
