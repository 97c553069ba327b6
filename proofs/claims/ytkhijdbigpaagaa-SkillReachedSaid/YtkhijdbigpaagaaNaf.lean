import Derived.Test.YtkhijdbigpaagaaNf
import Derived.Test.YtkhijdbigpaagaaNm
import Derived.Test.YtkhijdbigpaagaaNh
import Derived.BigQuiet
import Derived.Test.YtkhijdbigpaagaaNe
import Derived.Test.YtkhijdbigpaagaaNg
import Derived.Test.YtkhijdbigpaagaaNb
import Derived.Test.YtkhijdbigpaagaaNn
import Derived.Test.YtkhijdbigpaagaaNda
import Derived.Deep.RegionLawGrows
import Derived.Test.YtkhijdbigpaagaaNi
/-
  The rule for a region whose order Go leaves open, of which an operation may read a variable that a later one assigns.
-/
namespace Go.Proofs.Ytkhijdbigpaagaa.RG
open Go

section
variable {P : Program}
/-- Whether the k-th operation waits for the i-th. -/
def waitsF (l : List Oper) : Nat → Nat → Nat → Bool
  | 0, _, _ => false
  | n + 1, k, i => match l[k]? with
    | none => false
    | some o => o.after.toList.any fun e => Region.binds .any e && (e.on == i || waitsF l n e.on i)
/-- The obligation of one operation. -/
def OneO (P : Program) (ops : Array Oper) (C : World → Prop) (Rel : World → World → Prop) (V : Nat → Value → World → Prop) (a0 : Act) (i : Nat) (o : Oper) : Prop :=
  ∀ (y : Nat → Value) (w : World) (K : Act → World → Prop) (Q : Exit → Act → World → Prop) (Cv : Value → World → Prop), C w → deps V y w o.after.toList →
    (∀ k, waitsF ops.toList ops.size k i = true → y k = start ops.toList a0 k) →
    (∀ v w', C w' → Rel w w' → V i v w' → Cv v w') → (∀ v w', Cv v w' → K ((putAll ops.toList 0 y a0).put o.dst v) w') →
    if Region.wanted o (yielded ops (putAll ops.toList 0 y a0).tmps) then o.wp P (putAll ops.toList 0 y a0) w K Q else K ((putAll ops.toList 0 y a0).put o.dst undef) w
def AllO (P : Program) (ops : Array Oper) (C : World → Prop) (Rel : World → World → Prop) (V : Nat → Value → World → Prop) (a0 : Act) : List Oper → Nat → Prop
  | [], _ => True
  | o :: r, i => OneO P ops C Rel V a0 i o ∧ AllO P ops C Rel V a0 r (i + 1)
/-- What holds on the way. -/
def OldI (ops : Array Oper) (C : World → Prop) (V : Nat → Value → World → Prop) (a0 : Act) (f : Nat → Bool) (y : Nat → Value) (w : World) : Prop :=
  C w ∧ (∀ k, f k = true → V k (y k) w) ∧ (∀ k, f k = false → y k = start ops.toList a0 k) ∧ (∀ k o, ops.toList[k]? = some o → f k = true → ∀ e ∈ o.after.toList, Region.binds .any e = true → f e.on = true)
theorem waits_no {l : List Oper} {f : Nat → Bool} (hd : ∀ k o, l[k]? = some o → f k = true → ∀ e ∈ o.after.toList, Region.binds .any e = true → f e.on = true) {i : Nat} (hi : f i = false) :
    ∀ (n k : Nat), waitsF l n k i = true → f k = false
  | 0, k, h => by cases h
  | n + 1, k, h => by
    cases hf : f k with
    | false => rfl
    | true =>
      unfold waitsF at h
      cases ho : l[k]? with
      | none => rw [ho] at h; cases h
      | some o =>
        rw [ho] at h
        obtain ⟨e, he, hb⟩ := List.any_eq_true.1 h
        simp only [Bool.and_eq_true, Bool.or_eq_true, beq_iff_eq] at hb
        have h1 := hd k o ho hf e he hb.1
        rcases hb.2 with h2 | h2
        · rw [h2, hi] at h1; cases h1
        · rw [waits_no hd hi n e.on h2] at h1; cases h1
theorem allI_of {ops : Array Oper} {C : World → Prop} {Rel : World → World → Prop} {V : Nat → Value → World → Prop} {a0 : Act} (hst : ∀ k v w w', C w → C w' → Rel w w' → V k v w → V k v w') :
    ∀ (l' : List Oper) (i : Nat), (∀ j o, l'[j]? = some o → ops.toList[i + j]? = some o) → AllO P ops C Rel V a0 l' i → AllI P ops (OldI ops C V a0) a0 l' i
  | [], _, _, _ => trivial
  | o :: r, i, hl, h => by
    refine ⟨?_, allI_of hst r (i + 1) (fun j o' hj => by have := hl (j + 1) o' hj; rwa [show i + (j + 1) = i + 1 + j by omega] at this) h.2⟩
    have hoi : ops.toList[i]? = some o := hl 0 o rfl
    intro f y w K Q Cv hI hfi hdep hCv hK
    obtain ⟨hC, hV, hO, hD⟩ := hI
    refine h.1 y w K Q Cv hC (deps_of _ fun e he hb => hV _ (hdep e he hb)) (fun k hk => hO k (waits_no hD hfi _ k hk)) (fun v w' hC' hR hVi => hCv v w' ⟨hC', fun k hk => ?_, fun k hk => ?_, fun k o' ho' hk e he hb => ?_⟩) hK
    · by_cases e : k = i
      · subst e; simpa [upd] using hVi
      · have : upd y i v k = y k := by simp [upd, e]
        rw [this]
        have hk' : f k = true := by simpa [e] using hk
        exact hst k _ w w' hC hC' hR (hV k hk')
    · have hki : k ≠ i := by rintro rfl; simp at hk
      have hk' : f k = false := by simpa [hki] using hk
      have : upd y i v k = y k := by simp [upd, hki]
      rw [this]; exact hO k hk'
    · by_cases ei : k = i
      · subst ei
        rw [hoi] at ho'
        injection ho' with ho'
        subst ho'
        simp [hdep e he hb]
      · have hk' : f k = true := by simpa [ei] using hk
        simp [hD k o' ho' hk' e he hb]

/-- THE RULE where memory only grows, with what the slots of operations that wait hold meanwhile. -/
theorem region_grow_old {id : Nat} {Q : Exit → Act → World → Prop} {a : Act} {w : World} {l : List Oper} (L : List (Value → World → Prop))
    (hm : P.follows .mixedOrders = true) (hok : okB l 0 = true) (hlen : L.length = l.length) (hL : AllStb L)
    (hall : AllO P l.toArray (Go.RowKit.Below w.heap.size w) (fun u u' => Go.RowKit.Below u.heap.size u u') (VL L) a l 0)
    (hend : ∀ y w', Go.RowKit.Below w.heap.size w w' → EndsL L y w' 0 → Q .normal (putAll l 0 y a) w') :
    (Code.region id l.toArray true).wp P Q a w := by
  have h0 : OldI l.toArray (Go.RowKit.Below w.heap.size w) (VL L) a (fun _ => false) (start l a) w.drew := by
    refine ⟨(Go.RowKit.Below.refl _ _).drew, ?_, fun _ _ => rfl, ?_⟩
    · intro k hk; simp at hk
    · intro k o _ hk; simp at hk
  refine region_inv_at (OldI l.toArray (Go.RowKit.Below w.heap.size w) (VL L) a) hm hok h0
    (allI_of (fun k v u u' _ _ h hv => hL.at_ k v u u' h hv) l 0 (fun j o hj => by simpa using hj) hall) ?_
  intro f y w' hf hI
  exact hend y w' hI.1 (EndsL.of 0 fun k hk => by
    have := hI.2.1 k (hf k (by omega))
    simpa using this)
end
end Go.Proofs.Ytkhijdbigpaagaa.RG

/-
  The reference's Events.
-/
namespace Go.Proofs.Ytkhijdbigpaagaa
open Go.RowKit RG

set_option maxRecDepth 100000 in
set_option maxHeartbeats 8000000 in
theorem EventsR_any (A A2 B : Option Addr) (n c n2 c2 m cb : Nat) (es : List Ev) (w : World) (hn : n ≤ maxLen) (hn2 : n2 ≤ maxLen) (h : RdRow w B m 5 (es.map evCells)) (hm : m ≤ maxLen) :
    Calls Try.prog 44 #[.agg #[.slice A n c, .slice A2 n2 c2], .slice B m cb] w fun e w' => e = .returned (.int .i64 (evsE n n2 es)) ∧ Below w.heap.size w w' := by
  have hl : es.length = m := by have := h.1; simpa using this
  obtain ⟨r, hr⟩ : ∃ r, evsE n n2 es = r := ⟨_, rfl⟩
  rw [hr]
  unfold evsE at hr
  rw [hl] at hr
  unfold maxLen at hn hn2 hm
  have kS := hide (show Blk (w.alloc (.cells #[.slice A n c, .slice A2 n2 c2] 25)) w.heap.size 25 #[.slice A n c, .slice A2 n2 c2] from blkNew rfl)
  have hB := hide (show Below w.heap.size w (w.alloc (.cells #[.slice A n c, .slice A2 n2 c2] 25)) from (Below.refl _ _).alloc (Nat.le_refl _) _)
  have hat := hide (fun j (hj : j < m) => map_at evCells es j (by omega))
  have hlt1 := hide (fun j (hj : j < m) => lastW_take es j (by omega))
  have hw1 : IntKind.i64.wrap ((n : Int) - 1) = (n : Int) - 1 := by rw [IntKind.wrap_i64]; omega
  have hw2 : IntKind.i64.wrap ((n2 : Int) - 1) = (n2 : Int) - 1 := by rw [IntKind.wrap_i64]; omega
  replace h := hide h
  replace hl := hide hl
  go_enter Try.func44, Try.ntmps44
  by_cases h60 : 60 < m
  · rw [if_pos h60] at hr
    subst hr
    have h60z : (60 : Int) < (m : Int) := by omega
    go_wp2
    go_ret
    exact ⟨rfl, hB.out⟩
  · rw [if_neg h60] at hr
    have h60z : ¬ (60 : Int) < (m : Int) := by omega
    replace hr := hide hr
    go_wp2
    generalize (w.alloc (.cells #[.slice A n c, .slice A2 n2 c2] 25)) = W0 at *
    go_loopg [5, 6, 7] m (fun gg s5 s6 _ wr => ∃ j : Nat, j ≤ m ∧ m ≤ gg + j ∧ s6 = .int .i64 j ∧ s5 = .int .i64 (lastW (es.take j)) ∧ Hid (Below w.heap.size w wr) ∧ Hid (Blk wr w.heap.size 25 #[.slice A n c, .slice A2 n2 c2]) ∧ Hid (∀ i, 0 ≤ i → i < j → evsErr n n2 es i = 0))
    case atStart => exact ⟨0, Nat.zero_le _, by omega, rfl, rfl, hB, kS, hide fun i _ h => absurd h (by omega)⟩
    case round =>
      clear hB kS
      obtain ⟨j, hj, hg, rfl, rfl, hB, kS, hz⟩ := hrel
      by_cases hlt : j < m
      · have hltz : (j : Int) < (m : Int) := by omega
        have hat1 := hat.out j hlt
        have hlw := hide (hlt1.out j hlt)
        obtain ⟨b, off, x0, x1, x2, x3, x4, rfl, hb, hx, c0, c1, c2', c3, c4⟩ := (h.out.below hB.out).cells5 hlt
        rw [hat1] at hx
        unfold evCells at hx
        simp only [List.cons.injEq, and_true] at hx
        obtain ⟨rfl, rfl, rfl, rfl, rfl⟩ := hx
        clear hat1
        have hev : evsErr n n2 es j = evErr n n2 (lastW (es.take j)) (es[j]?.getD default) := rfl
        unfold evErr at hev
        have hhit := hide (fun (hne : evsErr n n2 es j ≠ 0) => firstErr_hit (err := evsErr n n2 es) (k := 0) (m := m) (j := j) hz.out (Nat.zero_le _) (by omega) hne)
        have hnx := hide (fun (h0 : evsErr n n2 es j = 0) => show ∀ i, 0 ≤ i → i < j + 1 → evsErr n n2 es i = 0 from fun i h1 h2 => by
          by_cases e : i = j
          · subst e; exact h0
          · exact hz.out i h1 (by omega))
        replace hev := hide hev
        generalize evsErr n n2 es j = te at *
        generalize (es[j]?.getD default).a = ea at *
        generalize (es[j]?.getD default).b = eb at *
        generalize (es[j]?.getD default).c = ec at *
        generalize (es[j]?.getD default).d = ed at *
        generalize (es[j]?.getD default).e = ee at *
        generalize lastW (es.take j) = lw at *
        replace kS := hide (kS.out.alloc (.cells #[.int .i64 ea, .int .i64 eb, .int .i64 ec, .int .i64 ed, .int .i64 ee] 78))
        have kx := hide (show Blk (wr.alloc (.cells #[.int .i64 ea, .int .i64 eb, .int .i64 ec, .int .i64 ed, .int .i64 ee] 78)) wr.heap.size 78 #[.int .i64 ea, .int .i64 eb, .int .i64 ec, .int .i64 ed, .int .i64 ee] from blkNew rfl)
        replace hB := hide (hB.out.alloc hB.out.size (.cells #[.int .i64 ea, .int .i64 eb, .int .i64 ec, .int .i64 ed, .int .i64 ee] 78))
        have m0 : (wr.alloc (.cells #[.int .i64 ea, .int .i64 eb, .int .i64 ec, .int .i64 ed, .int .i64 ee] 78)).cell? ⟨wr.heap.size, 0, none⟩ = some (.int .i64 ea) := kx.out.cell 0
        have m1 : (wr.alloc (.cells #[.int .i64 ea, .int .i64 eb, .int .i64 ec, .int .i64 ed, .int .i64 ee] 78)).cell? ⟨wr.heap.size, 1, none⟩ = some (.int .i64 eb) := kx.out.cell 1
        have m2 : (wr.alloc (.cells #[.int .i64 ea, .int .i64 eb, .int .i64 ec, .int .i64 ed, .int .i64 ee] 78)).cell? ⟨wr.heap.size, 2, none⟩ = some (.int .i64 ec) := kx.out.cell 2
        have m3 : (wr.alloc (.cells #[.int .i64 ea, .int .i64 eb, .int .i64 ec, .int .i64 ed, .int .i64 ee] 78)).cell? ⟨wr.heap.size, 3, none⟩ = some (.int .i64 ed) := kx.out.cell 3
        have m4 : (wr.alloc (.cells #[.int .i64 ea, .int .i64 eb, .int .i64 ec, .int .i64 ed, .int .i64 ee] 78)).cell? ⟨wr.heap.size, 4, none⟩ = some (.int .i64 ee) := kx.out.cell 4
        have s0 : (wr.alloc (.cells #[.int .i64 ea, .int .i64 eb, .int .i64 ec, .int .i64 ed, .int .i64 ee] 78)).cell? ⟨w.heap.size, 0, none⟩ = some (.slice A n c) := kS.out.cell 0
        have s1 : (wr.alloc (.cells #[.int .i64 ea, .int .i64 eb, .int .i64 ec, .int .i64 ed, .int .i64 ee] 78)).cell? ⟨w.heap.size, 1, none⟩ = some (.slice A2 n2 c2) := kS.out.cell 1
        go_wp2_with fail
        clear c0 c1 c2' c3 c4
        have hsz := hB.out.size
        generalize (wr.alloc (.cells #[.int .i64 ea, .int .i64 eb, .int .i64 ec, .int .i64 ed, .int .i64 ee] 78)) = w2 at *
        refine (inRef_any ea 0 200 _).mono ?_
        rintro e w3 ⟨rfl, rfl⟩
        have hend : ∀ z, te = z → z ≠ 0 → r = z := by
          rintro z rfl hz0
          have := hr.out
          rw [hhit.out hz0] at this
          exact this.symm
        replace hend := hide hend
        cases hq : inB 0 200 ea with
        | false =>
          have h1 := hev.out
          rw [hq, if_neg (by simp)] at h1
          obtain rfl := hend.out 7 h1 (by decide)
          clear hhit hnx hq h1
          go_wp2
          go_ret
          exact ⟨rfl, hB.out⟩
        | true =>
          have h1 := hev.out
          rw [hq, if_pos rfl] at h1
          clear hq hev
          by_cases hlw1 : ea < lw
          · rw [if_pos hlw1] at h1
            obtain rfl := hend.out 2 h1 (by decide)
            have hd : decide (ea < lw) = true := decide_eq_true hlw1
            clear hhit hnx h1
            replace hlw1 := hide hlw1
            go_wp2
            go_ret
            exact ⟨rfl, hB.out⟩
          · rw [if_neg hlw1] at h1
            have hd : decide (ea < lw) = false := decide_eq_false hlw1
            replace hlw1 := hide hlw1
            replace h1 := hide h1
            go_wp2_with fail
            refine (inRef_any eb 0 1 _).mono ?_
            rintro e w4 ⟨rfl, rfl⟩
            by_cases heb : eb = 0 ∨ eb = 1
            · have hq : inB 0 1 eb = true := inB_iff.2 (by omega)
              rw [hq]
              have h2 := h1.out
              clear hq
              go_wp2_with fail
              refine (inRef_any ec 0 ((n : Int) - 1) _).mono ?_
              rintro e w5 ⟨rfl, rfl⟩
              rcases heb with e0 | e0
              · rw [if_neg (by omega), if_pos e0] at h2
                have hx : (eb == 1) = false := by rw [e0]; rfl
                replace e0 := hide e0
                cases hq : inB 0 ((n : Int) - 1) ec with
                | false =>
                  rw [hq, if_neg (by simp)] at h2
                  obtain rfl := hend.out 4 h2 (by decide)
                  clear hhit hnx h1 h2 hq
                  go_wp2
                  go_ret
                  exact ⟨rfl, hB.out⟩
                | true =>
                  rw [hq, if_pos rfl] at h2
                  have hnx1 := hide (hnx.out h2)
                  clear hhit hnx h1 h2 hq hend
                  go_wp2
                  go_roundg (m - (j + 1))
                  case measure => omega
                  case rel => exact ⟨j + 1, by omega, by omega, by go_num, by rw [hlw.out], hB, kS, hnx1⟩
              · rw [if_pos e0] at h2
                have hx : (eb == 1) = true := by rw [e0]; rfl
                replace e0 := hide e0
                cases hq : inB 0 ((n : Int) - 1) ec with
                | false =>
                  rw [hq, if_neg (by simp)] at h2
                  obtain rfl := hend.out 4 h2 (by decide)
                  clear hhit hnx h1 h2 hq
                  go_wp2
                  go_ret
                  exact ⟨rfl, hB.out⟩
                | true =>
                  rw [hq, if_pos rfl] at h2
                  clear hq
                  replace h2 := hide h2
                  go_wp2_with fail
                  refine (inRef_any ed 0 ((n2 : Int) - 1) _).mono ?_
                  rintro e w6 ⟨rfl, rfl⟩
                  cases hq : inB 0 ((n2 : Int) - 1) ed with
                  | false =>
                    have h3 := h2.out
                    rw [hq, if_neg (by simp)] at h3
                    obtain rfl := hend.out 4 h3 (by decide)
                    clear hhit hnx h1 h2 h3 hq
                    go_wp2
                    go_ret
                    exact ⟨rfl, hB.out⟩
                  | true =>
                    have h3 := h2.out
                    rw [hq, if_pos rfl] at h3
                    clear hq h2
                    replace h3 := hide h3
                    go_wp2_with fail
                    refine (inRef_any ee 0 1000 _).mono ?_
                    rintro e w7 ⟨rfl, rfl⟩
                    cases hq : inB 0 1000 ee with
                    | false =>
                      have h2 := h3.out
                      rw [hq, if_neg (by simp)] at h2
                      obtain rfl := hend.out 7 h2 (by decide)
                      clear hhit hnx h1 h2 h3 hq
                      go_wp2
                      go_ret
                      exact ⟨rfl, hB.out⟩
                    | true =>
                      have h2 := h3.out
                      rw [hq, if_pos rfl] at h2
                      have hnx1 := hide (hnx.out h2)
                      clear hhit hnx h1 h2 h3 hq hend
                      go_wp2
                      go_roundg (m - (j + 1))
                      case measure => omega
                      case rel => exact ⟨j + 1, by omega, by omega, by go_num, by rw [hlw.out], hB, kS, hnx1⟩
            · have hq : inB 0 1 eb = false := by
                rw [Bool.eq_false_iff, ne_eq, inB_iff]; omega
              rw [hq]
              have h2 := h1.out
              rw [if_neg (by omega), if_neg (by omega)] at h2
              obtain rfl := hend.out 2 h2 (by decide)
              clear hhit hnx h1 h2 hq
              replace heb := hide heb
              go_wp2
              go_ret
              exact ⟨rfl, hB.out⟩
      · have hltz : ¬ (j : Int) < (m : Int) := by omega
        obtain rfl : j = m := by omega
        have hr := hr.out
        rw [firstErr_none (err := evsErr n n2 es) (k := 0) (m := j) (fun i h1 h2 => hz.out i h1 (by omega))] at hr
        simp only at hr
        subst hr
        go_wp2
        go_ret
        exact ⟨rfl, hB.out⟩
end Go.Proofs.Ytkhijdbigpaagaa

/-
  The reference's faded.
-/
namespace Go.Proofs.Ytkhijdbigpaagaa
open Go.RowKit RG

/-- A range some weeks later, at once. -/
def fade1 (f r : Sp) (m : Int) : Sp := (max 0 (r.1 - m * f.2), max 0 (r.2 - m * f.1))
theorem fade_step {f x : Int} (hf : 0 ≤ f) (hx : x ≤ 1000) : lim (max 0 x - f) = max 0 (x - f) := by unfold lim; omega
theorem waitN_at (S : Sch) {rs : List Sp} (hr : InRs rs) {i : Nat} (hi : i < rs.length) (hf : 0 ≤ (S.sks[i]?.getD default).fl ∧ 0 ≤ (S.sks[i]?.getD default).fh) : ∀ m : Nat, (waitN S m rs)[i]?.getD (0, 0) = fade1 (fadeOf (S.sks[i]?.getD default)) (rs[i]?.getD (0, 0)) m
  | 0 => by
    have := hr i hi
    show rs[i]?.getD (0, 0) = _
    unfold fade1
    ext <;> simp <;> omega
  | m + 1 => by
    have ih := waitN_at S hr hi hf m
    have := hr i hi
    show (wait1 S (waitN S m rs))[i]?.getD (0, 0) = _
    rw [wait1_at S _ (by rw [waitN_len]; exact hi), ih]
    unfold fade1 lowerS fadeOf
    simp only
    have h1 : (0 : Int) ≤ (m : Int) * (S.sks[i]?.getD default).fh := Int.mul_nonneg (by omega) hf.2
    have h2 : (0 : Int) ≤ (m : Int) * (S.sks[i]?.getD default).fl := Int.mul_nonneg (by omega) hf.1
    rw [fade_step hf.2 (by omega), fade_step hf.1 (by omega)]
    have e1 : ((m + 1 : Nat) : Int) * (S.sks[i]?.getD default).fh = (m : Int) * (S.sks[i]?.getD default).fh + (S.sks[i]?.getD default).fh := by
      rw [Int.natCast_add, Int.add_mul]; simp
    have e2 : ((m + 1 : Nat) : Int) * (S.sks[i]?.getD default).fl = (m : Int) * (S.sks[i]?.getD default).fl + (S.sks[i]?.getD default).fl := by
      rw [Int.natCast_add, Int.add_mul]; simp
    rw [e1, e2]
    ext <;> simp only <;> omega
/-- A slice of one range. -/
def IsOneSp (x y : Int) : Value → World → Prop := fun v w => ∃ g c, v = .slice (some ⟨g, 0, none⟩) 1 c ∧ w.cell? ⟨g, 0, none⟩ = some (.int .i64 x) ∧ w.cell? ⟨g, 1, none⟩ = some (.int .i64 y)
theorem IsOneSp.stb (x y : Int) : Stb (IsOneSp x y) := fun _ _ _ hb ⟨g, c, e, h1, h2⟩ => ⟨g, c, e, (cellB hb (lt_of_cell h1)).trans h1, (cellB hb (lt_of_cell h1)).trans h2⟩
theorem cells_two {w : World} {g : Nat} {x y : Value} (h : w.cell? ⟨g, 0, none⟩ = some x) (h1 : w.cell? ⟨g, 1, none⟩ = some y) : ∀ j u, [x, y][j]? = some u → w.cell? ((⟨g, 0, none⟩ : Addr).add j) = some u := by
  intro j u hj
  match j, hj with
  | 0, hj => simp at hj; subst hj; simpa [Addr.add] using h
  | 1, hj => simp at hj; subst hj; simpa [Addr.add] using h1

theorem own_mono {w : World} {base base' : Nat} {e : TypeId} {size : Nat} {v : Value} {n : Nat} {xs : List Value} (h : w.ownsRow base e size v n xs) (hb : base' ≤ base) : w.ownsRow base' e size v n xs :=
  ⟨h.1, h.2.imp id (fun ⟨g, cap, cur, e1, h2, h3⟩ => ⟨g, cap, cur, e1, by omega, h3⟩)⟩

set_option maxRecDepth 100000 in
set_option maxHeartbeats 8000000 in
theorem faded_any (A A2 L : Option Addr) (n c n2 c2 k cl : Nat) (S : Sch) (rs : List Sp) (m : Nat) (w : World) (hn : S.sks.length = n) (hsk : RdRow w A n 5 (S.sks.map skCells)) (hls : RdRow w L k 2 (rs.map tkCells)) (hkn : k ≤ n) (hn5 : n ≤ 5)
    (hf : ∀ i, i < n → 0 ≤ (S.sks[i]?.getD default).fl ∧ (S.sks[i]?.getD default).fl ≤ 1000 ∧ 0 ≤ (S.sks[i]?.getD default).fh ∧ (S.sks[i]?.getD default).fh ≤ 1000) (hr : InRs rs) (hm : m ≤ 200) :
    Calls Try.prog 107 #[.agg #[.slice A n c, .slice A2 n2 c2], .slice L k cl, .int .i64 m] w fun e w' => (∃ v, e = .returned v ∧ w'.ownsRow w.heap.size 32 2 v k ((waitN S m rs).flatMap tkCells)) ∧ Below w.heap.size w w' := by
  have hkl : rs.length = k := by have := hls.1; simpa using this
  have hwl : (waitN S m rs).length = k := by rw [waitN_len, hkl]
  have hwa := hide (fun j (hj : j < k) => waitN_at S hr (i := j) (by omega) ⟨(hf j (by omega)).1, (hf j (by omega)).2.2.1⟩ m)
  have htk := hide (fun j (hj : j < k) => takeTk (waitN S m rs) j (by omega))
  generalize waitN S m rs = T at *
  have hlsB := hide (fun W (hb : Below w.heap.size w W) => hls.below hb)
  have hskB := hide (fun W (hb : Below w.heap.size w W) => hsk.below hb)
  have hcel := hide (fun j (hj : j < k) => show ((rs.map tkCells)[j]?.getD []) = tkCells (rs[j]?.getD (0, 0)) by
    rw [map_at tkCells rs j (by omega), show rs[j]?.getD default = rs[j]?.getD (0, 0) by rw [List.getElem?_eq_getElem (by omega)]; rfl])
  have hcel2 := hide (fun j (hj : j < k) => sk_at S.sks j (by omega))
  obtain ⟨i0, hi, hz0, hz1, hz2⟩ := info_parts infoSp
  replace hi := hide hi
  replace hz0 := hide hz0
  replace hz1 := hide hz1
  replace hz2 := hide hz2
  clear hsk hls
  replace hkl := hide hkl
  replace hwl := hide hwl
  replace hf := hide hf
  replace hr := hide hr
  replace hn := hide hn
  have hB1 := hide (show Below w.heap.size w (w.alloc (.cells #[.slice A n c, .slice A2 n2 c2] 25)) from (Below.refl _ _).alloc (Nat.le_refl _) _)
  have k1 := hide (show Blk (w.alloc (.cells #[.slice A n c, .slice A2 n2 c2] 25)) w.heap.size 25 #[.slice A n c, .slice A2 n2 c2] from blkNew (by simp))
  have hs1 := hide (show (w.alloc (.cells #[.slice A n c, .slice A2 n2 c2] 25)).heap.size = w.heap.size + 1 by simp)
  go_enter Try.func107, Try.ntmps107
  go_wp2
  generalize (w.alloc (.cells #[.slice A n c, .slice A2 n2 c2] 25)) = w1 at *
  have hz3 := k1.out.lt
  go_loopg [7, 8, 9] k (fun gg s7 s8 _ wr => ∃ j : Nat, j ≤ k ∧ k ≤ gg + j ∧ s8 = .int .i64 j ∧ Hid (Below w1.heap.size w1 wr) ∧ Hid (wr.ownsRow w1.heap.size 32 2 s7 j ((T.take j).flatMap tkCells)))
  case atStart => exact ⟨0, Nat.zero_le _, by omega, rfl, Below.refl _ _, World.ownsRow_nil _ _ _ _⟩
  case round =>
    obtain ⟨j, hj, hgg, rfl, hBr, ho1⟩ := hrel
    by_cases hlt : j < k
    · have hltz : (j : Int) < (k : Int) := by omega
      have hltn : (j : Int) < (n : Int) := by omega
      have hBw := hide (hB1.out.trans (hBr.out.mono hB1.out.size))
      have hcj := hcel.out j hlt
      have hsj := htk.out j hlt
      rw [hwa.out j hlt] at hsj
      unfold fade1 fadeOf at hsj
      simp only at hsj
      obtain ⟨b, off, x0, x1, rfl, hb, hx, c0, c1⟩ := (hlsB.out wr hBw.out).cells2 hlt
      rw [hcj] at hx
      unfold tkCells at hx
      simp only [List.cons.injEq, and_true] at hx
      obtain ⟨rfl, rfl⟩ := hx
      have hb1 := hr.out j (by rw [hkl.out]; exact hlt)
      have hb3 := hf.out j (by omega)
      obtain ⟨b3, off3, y0, y1, y2, y3, y4, rfl, hb3', hy, d0, d1, d2, d3, d4⟩ := (hskB.out wr hBw.out).cells5 (show j < n by omega)
      rw [hcel2.out j hlt] at hy
      unfold skCells at hy
      simp only [List.cons.injEq, and_true] at hy
      obtain ⟨rfl, rfl, rfl, rfl, rfl⟩ := hy
      clear d0 d1 d2
      generalize (rs[j]?.getD (0, 0)).1 = lo at *
      generalize (rs[j]?.getD (0, 0)).2 = hi' at *
      generalize (S.sks[j]?.getD default).fl = fl at *
      generalize (S.sks[j]?.getD default).fh = fh at *
      clear hcj
      have hm0 : 0 ≤ (m : Int) * fh := Int.mul_nonneg (by omega) hb3.2.2.1
      have hm1 : (m : Int) * fh ≤ 200 * 1000 := Int.mul_le_mul (by omega) hb3.2.2.2 hb3.2.2.1 (by omega)
      have hm2 : 0 ≤ (m : Int) * fl := Int.mul_nonneg (by omega) hb3.1
      have hm3 : (m : Int) * fl ≤ 200 * 1000 := Int.mul_le_mul (by omega) hb3.2.1 hb3.1 (by omega)
      obtain ⟨p, hp⟩ : ∃ x, (m : Int) * fh = x := ⟨_, rfl⟩
      obtain ⟨q, hq⟩ : ∃ x, (m : Int) * fl = x := ⟨_, rfl⟩
      have hw1 : IntKind.i64.wrap ((m : Int) * fh) = p := by rw [IntKind.wrap_i64]; omega
      have hw2 : IntKind.i64.wrap ((m : Int) * fl) = q := by rw [IntKind.wrap_i64]; omega
      have hw3 : IntKind.i64.wrap (lo - p) = lo - p := by rw [IntKind.wrap_i64]; omega
      have hw4 : IntKind.i64.wrap (hi' - q) = hi' - q := by rw [IntKind.wrap_i64]; omega
      rw [hp, hq] at hsj
      clear hp hq hm0 hm1 hm2 hm3 hb1 hb3
      obtain ⟨u, hu⟩ : ∃ x, max 0 (lo - p) = x := ⟨_, rfl⟩
      obtain ⟨v, hv⟩ : ∃ x, max 0 (hi' - q) = x := ⟨_, rfl⟩
      rw [hu, hv] at hsj
      replace hsj := hide hsj
      have hsr := hBr.out.size
      have kb := hide (blkNew (w := wr) (t := 32) (cs := #[.int .i64 fl, .int .i64 fh]) rfl)
      have kk := (k1.out.below hBr.out hz3).alloc (.cells #[.int .i64 fl, .int .i64 fh] 32)
      have s0 : wr.cell? ⟨w.heap.size, 0, none⟩ = some (.slice (some ⟨b3, off3, none⟩) n c) := (k1.out.below hBr.out hz3).cell 0
      have kbf := hide kk
      have c0' := hide c0
      have c1' := hide c1
      clear kk c0 c1
      go_wp2
      clear s0 d3 d4
      have hB0 := hide (hBw.out.alloc (by have := hBw.out.size; omega) (.cells #[.int .i64 fl, .int .i64 fh] 32))
      have hBr0 := hide (hBr.out.alloc hsr (.cells #[.int .i64 fl, .int .i64 fh] 32))
      have ho0 := hide (ho1.out.alloc (.cells #[.int .i64 fl, .int .i64 fh] 32))
      have z0 : wr.heap.size < (wr.alloc (.cells #[.int .i64 fl, .int .i64 fh] 32)).heap.size := by simp
      have p0 : (wr.alloc (.cells #[.int .i64 fl, .int .i64 fh] 32)).cell? ⟨b, off + j * 2, none⟩ = some (.int .i64 lo) := (cellB (o := off + j * 2) ((Below.refl wr.heap.size wr).alloc (Nat.le_refl _) _) hb).trans c0'.out
      have p1 : (wr.alloc (.cells #[.int .i64 fl, .int .i64 fh] 32)).cell? ⟨b, off + j * 2 + 1, none⟩ = some (.int .i64 hi') := (cellB (o := off + j * 2 + 1) ((Below.refl wr.heap.size wr).alloc (Nat.le_refl _) _) hb).trans c1'.out
      clear c0' c1'
      generalize (wr.alloc (.cells #[.int .i64 fl, .int .i64 fh] 32)) = W0 at *
      have zb := kb.out.lt
      have zs := kbf.out.lt
      have zb2 : b < W0.heap.size := by omega
      refine region_grow_tail 25 [IsV u7, IsV (.slice (some ⟨b, off, none⟩) k cl), IsV (.int .i64 j), IsV (.pointer (some ⟨b, off + j * 2, none⟩)), IsV (.pointer (some ⟨b, off + j * 2, none⟩)), IsV (.int .i64 lo), IsV (.int .i64 m), IsV (.pointer (some ⟨wr.heap.size, 1, none⟩)), IsV (.int .i64 fh), IsV (.int .i64 p), IsV (.int .i64 (lo - p)), IsV (.int .i64 u),
        IsV (.slice (some ⟨b, off, none⟩) k cl), IsV (.int .i64 j), IsV (.pointer (some ⟨b, off + j * 2, none⟩)), IsV (.pointer (some ⟨b, off + j * 2 + 1, none⟩)), IsV (.int .i64 hi'), IsV (.int .i64 m), IsV (.pointer (some ⟨wr.heap.size, 0, none⟩)), IsV (.int .i64 fl), IsV (.int .i64 q), IsV (.int .i64 (hi' - q)), IsV (.int .i64 v),
        IsV (.agg #[.int .i64 u, .int .i64 v]), IsOneSp u v] (by kernel_rfl) (by kernel_rfl) rfl ?_ ?_ ?_
      · simp [AllStb, IsV.stb, IsOneSp.stb]
      · refine ⟨?_, ?_, ?_, ?_, ?_, ?_, ?_, ?_, ?_, ?_, ?_, ?_, ?_, ?_, ?_, ?_, ?_, ?_, ?_, ?_, ?_, ?_, ?_, ?_, ?_, trivial⟩
        all_goals
          intro y w6 K Qq Cv hC hd hV
          have q0 : w6.cell? ⟨wr.heap.size, 0, none⟩ = some (.int .i64 fl) := (kb.out.below hC zb).cell 0
          have q1 : w6.cell? ⟨wr.heap.size, 1, none⟩ = some (.int .i64 fh) := (kb.out.below hC zb).cell 1
          have q2 := (cellB (o := off + j * 2) hC zb2).trans p0
          have q3 := (cellB (o := off + j * 2 + 1) hC zb2).trans p1
          have hz6 := hC.size
          simp [deps, VL, IsV, Region.binds] at hd
          simp only [List.take_succ_cons, List.take_zero, putAll, Act.put]
          go_simp; intro hK
        iterate 24 (first | exact hK _ _ (hV _ _ hC (Below.refl _ _) rfl) | skip)
        all_goals first
          | exact hK _ _ (hV _ _ hC (Below.refl _ _) rfl)
          | exact hK _ _ (hV _ _ (hC.alloc hz6 _) ((Below.refl _ _).alloc (Nat.le_refl _) _) ⟨_, _, rfl, by simp, by simp⟩)
      · intro y w6 hC hd
        simp [EndsL, IsV] at hd
        obtain ⟨d0, d1, d2, d3, d4, d5, d6, d7, d8, d9, d10, d11, d12, d13, d14, d15, d16, d17, d18, d19, d20, d21, d22, d23, ⟨g2, cc2, d24, hc2, hc3⟩⟩ := hd
        simp only [List.take_succ_cons, List.take_zero, List.drop_succ_cons, List.drop_zero, putAll, Act.put]
        rw [d0, d24]
        clear d0 d1 d2 d3 d4 d5 d6 d7 d8 d9 d10 d11 d12 d13 d14 d15 d16 d17 d18 d19 d20 d21 d22 d23 d24
        simp only [List.setIfInBounds_toArray, List.set_cons_succ, List.set_cons_zero]
        have hB6 := hide (hBr0.out.trans (hC.mono hBr0.out.size))
        have hs6 := hB6.out.size
        have ho6 := own_below ho0.out hC
        clear hC
        go_wp2_with (at_builtin; refine wpList_append_own _ rfl _ _ 37 rfl w1.heap.size 32 i0 (.agg #[.int .i64 0, .int .i64 0]) 2 16 Try.underlying37 hi.out hz0.out hz1.out hz2.out rfl (by decide) _ _ _ rfl ho6 ⟨g2, 0, none⟩ 1 cc2 [.int .i64 u, .int .i64 v] rfl rfl (cells_two hc2 hc3) (by simp [Value.oneCell']) (by unfold maxLen; omega) (by omega) (by omega) ?_; intro v' w7 hown7 hgrow7 _)
        have hB7 := hide (hB6.out.grown hgrow7 (by omega) (fun k hk => (ho6.lt k hk).1))
        replace hown7 := hide hown7
        clear hgrow7 ho6
        go_wp2
        go_roundg (k - (j + 1))
        case measure => omega
        case rel =>
          refine ⟨j + 1, by omega, by omega, by go_num, hB7.out, ?_⟩
          unfold Hid
          rw [hsj.out]
          exact hown7.out
    · have hltz : ¬ (j : Int) < (k : Int) := by omega
      obtain rfl : j = k := by omega
      have hres : wr.ownsRow w.heap.size 32 2 u7 j (T.flatMap tkCells) := by
        have h := ho1.out
        rw [List.take_of_length_le (by rw [hwl.out]; exact Nat.le_refl _)] at h
        exact own_mono h (by rw [hs1.out]; omega)
      have hBw := hide (hB1.out.trans (hBr.out.mono hB1.out.size))
      replace hres := hide hres
      clear ho1
      go_wp2
      go_ret
      exact ⟨⟨_, rfl, hres.out⟩, hBw.out⟩
end Go.Proofs.Ytkhijdbigpaagaa

/-
  The reference's history.
-/
namespace Go.Proofs.Ytkhijdbigpaagaa
open Go.RowKit RG

set_option maxRecDepth 100000 in
set_option maxHeartbeats 4000000 in
theorem historyR_any (v : Value) (S : Sch) (L B : Option Addr) (k cl m cb : Nat) (rs : List Sp) (es : List Ev) (w : World) (h : RdSch w v S) (hls : RdRow w L k 2 (rs.map tkCells)) (hk : k ≤ maxLen) (hes : RdRow w B m 5 (es.map evCells)) (hm : m ≤ maxLen) :
    Calls Try.prog 69 #[v, .slice L k cl, .slice B m cb] w fun e w' => e = .returned (.int .i64 (histE S rs es)) ∧ Below w.heap.size w w' := by
  have hC := hide (fun W (hb : Below w.heap.size w W) => CheckR_any v S W (h.below hb))
  obtain ⟨A, c, A2, c2, rfl, -, h3, -, -, -, h6, -⟩ := h
  have hG := hide (fun W (hb : Below w.heap.size w W) => rangesR_any A A2 L S.sks.length c S.ins.length c2 k cl rs W h3 (hls.below hb) hk)
  have hE := hide (fun W (hb : Below w.heap.size w W) => EventsR_any A A2 B S.sks.length c S.ins.length c2 m cb es W h3 h6 (hes.below hb) hm)
  obtain ⟨r, hr⟩ : ∃ r, histE S rs es = r := ⟨_, rfl⟩
  rw [hr]
  unfold histE at hr
  unfold Ret3 at hC
  generalize checkS S = q at *
  obtain ⟨q0, q1, q2⟩ := q
  generalize rangesE S.sks.length rs = re at *
  generalize evsE S.sks.length S.ins.length es = ee at *
  simp only at hr hC
  clear hls hes hm hk h3 h6
  generalize S.sks.length = n at *
  generalize S.ins.length = n2 at *
  have kS := hide (show Blk (w.alloc (.cells #[.slice A n c, .slice A2 n2 c2] 25)) w.heap.size 25 #[.slice A n c, .slice A2 n2 c2] from blkNew rfl)
  have hB := hide (show Below w.heap.size w (w.alloc (.cells #[.slice A n c, .slice A2 n2 c2] 25)) from (Below.refl _ _).alloc (Nat.le_refl _) _)
  have s0 : (w.alloc (.cells #[.slice A n c, .slice A2 n2 c2] 25)).cell? ⟨w.heap.size, 0, none⟩ = some (.slice A n c) := kS.out.cell 0
  have s1 : (w.alloc (.cells #[.slice A n c, .slice A2 n2 c2] 25)).cell? ⟨w.heap.size, 1, none⟩ = some (.slice A2 n2 c2) := kS.out.cell 1
  replace hr := hide hr
  go_enter Try.func69, Try.ntmps69
  go_wp2_with fail
  refine (hC.out _ hB.out).mono ?_
  rintro e w1 ⟨rfl, hb⟩
  replace kS := hide (kS.out.below hb kS.out.lt)
  replace hB := hide (hB.out.trans (hb.mono hB.out.size))
  clear hb s0 s1 hC
  have s0 : w1.cell? ⟨w.heap.size, 0, none⟩ = some (.slice A n c) := kS.out.cell 0
  have s1 : w1.cell? ⟨w.heap.size, 1, none⟩ = some (.slice A2 n2 c2) := kS.out.cell 1
  by_cases h2 : q2 = 0
  · subst h2
    have hr1 := hr.out
    rw [if_pos rfl] at hr1
    replace hr1 := hide hr1
    clear hr
    go_wp2_with fail
    refine (hG.out _ hB.out).mono ?_
    rintro e w2 ⟨rfl, hb⟩
    replace kS := hide (kS.out.below hb kS.out.lt)
    replace hB := hide (hB.out.trans (hb.mono hB.out.size))
    clear hb s0 s1 hG
    have s0 : w2.cell? ⟨w.heap.size, 0, none⟩ = some (.slice A n c) := kS.out.cell 0
    have s1 : w2.cell? ⟨w.heap.size, 1, none⟩ = some (.slice A2 n2 c2) := kS.out.cell 1
    by_cases h2 : re = 0
    · subst h2
      have hr := hr1.out
      rw [if_pos rfl] at hr
      subst hr
      clear hr1
      go_wp2_with fail
      refine (hE.out _ hB.out).mono ?_
      rintro e w3 ⟨rfl, hb⟩
      replace hB := hide (hB.out.trans (hb.mono hB.out.size))
      clear hb s0 s1 hE kS
      go_wp2
      go_ret
      exact ⟨rfl, hB.out⟩
    · have hr2 := hr1.out
      rw [if_neg h2] at hr2
      subst hr2
      have hb1 : (re == 0) = false := by rw [beq_eq_false_iff_ne]; exact h2
      replace h2 := hide h2
      clear hr1 hE
      go_wp2
      go_ret
      exact ⟨rfl, hB.out⟩
  · have hr1 := hr.out
    rw [if_neg h2] at hr1
    subst hr1
    have hb1 : (q2 == 0) = false := by rw [beq_eq_false_iff_ne]; exact h2
    replace h2 := hide h2
    clear hr hE hG s0 s1
    go_wp2
    go_ret
    exact ⟨rfl, hB.out⟩
end Go.Proofs.Ytkhijdbigpaagaa

/-
  A row of ranges at the head of a block of its own, that can be written; ranges that are none empty.
-/
namespace Go.Proofs.Ytkhijdbigpaagaa
open Go.RowKit RG

/-- Ranges in block g, at its head. -/
def SpAt (W : World) (g : Nat) (T : List Sp) : Prop := ∃ cur, Blk W g 32 cur ∧ T.length * 2 ≤ cur.size ∧ cur.toList.take (T.length * 2) = T.flatMap tkCells
theorem SpAt.blk {W W' : World} {g : Nat} {T : List Sp} (h : SpAt W g T) (hb : W'.heap[g]? = W.heap[g]?) : SpAt W' g T := by
  obtain ⟨cur, h1, h2⟩ := h
  exact ⟨cur, hb.trans h1, h2⟩
theorem SpAt.lt {W : World} {g : Nat} {T : List Sp} (h : SpAt W g T) : g < W.heap.size := by obtain ⟨cur, h1, _⟩ := h; exact h1.lt
theorem SpAt.below {W W' : World} {g : Nat} {T : List Sp} (h : SpAt W g T) (hb : Below W.heap.size W W') : SpAt W' g T := h.blk (hb.block g h.lt)
theorem SpAt.alloc {W : World} {g : Nat} {T : List Sp} (h : SpAt W g T) (o : Obj) : SpAt (W.alloc o) g T := h.below ((Below.refl _ _).alloc (Nat.le_refl _) o)
theorem SpAt.far {W : World} {g : Nat} {T : List Sp} (h : SpAt W g T) {p : Addr} (hp : g ≠ p.block) (u : Value) : SpAt (W.setCell p u) g T := h.blk (Below.heap_setCell W p u g hp)
theorem spAt_own {W : World} {base n : Nat} {v : Value} {T : List Sp} (h : W.ownsRow base 32 2 v n (T.flatMap tkCells)) (hn : T.length = n) (h1 : 1 ≤ n) : ∃ g c, v = .slice (some ⟨g, 0, none⟩) n c ∧ base ≤ g ∧ n ≤ c ∧ SpAt W g T := by
  subst hn
  rcases h.2 with ⟨_, h0⟩ | ⟨g, cap, cur, e, hb, hg, hc, _, hs, ht⟩
  · omega
  · exact ⟨g, cap, e, hb, hc, cur, hg, by rw [hs]; exact Nat.mul_le_mul_right _ hc, ht⟩
theorem flatTk_get (l : List Sp) (j i : Nat) (v : Value) (hv : ((l.map tkCells)[j]?.getD [])[i]? = some v) : j < l.length ∧ i < 2 ∧ (l.flatMap tkCells)[j * 2 + i]? = some v := by
  refine ⟨?_, ?_, flatTk_at l j v i hv⟩
  · rcases Nat.lt_or_ge j l.length with h | h
    · exact h
    · rw [List.getElem?_eq_none (show (l.map tkCells).length ≤ j by simpa using h)] at hv; simp at hv
  · rcases Nat.lt_or_ge j l.length with h | h
    · rw [List.getElem?_map, List.getElem?_eq_getElem h] at hv
      have := (List.getElem?_eq_some_iff.1 hv).1
      simpa [tkCells] using this
    · rw [List.getElem?_eq_none (show (l.map tkCells).length ≤ j by simpa using h)] at hv; simp at hv
theorem SpAt.row {W : World} {g : Nat} {T : List Sp} (h : SpAt W g T) : RdRow W (some ⟨g, 0, none⟩) T.length 2 (T.map tkCells) := by
  obtain ⟨cur, h1, h2, h3⟩ := h
  refine ⟨by simp, ?_, fun _ => ⟨g, 0, rfl, h1.lt, fun j i v hv => ?_⟩⟩
  · intro x hx
    obtain ⟨s, _, rfl⟩ := List.mem_map.1 hx
    rfl
  · obtain ⟨hj, hi, hf⟩ := flatTk_get T j i v hv
    rw [Nat.zero_add, h1.cell]
    rw [← h3, List.getElem?_take_of_lt (by omega)] at hf
    simpa using hf
theorem flatTk_set (l : List Sp) (i : Nat) (x y : Int) (hi : i < l.length) :
    ((l.flatMap tkCells).set (i * 2) (.int .i64 x)).set (i * 2 + 1) (.int .i64 y) = (l.set i (x, y)).flatMap tkCells := by
  induction l generalizing i with
  | nil => simp at hi
  | cons z l ih =>
    cases i with
    | zero => simp [tkCells]
    | succ i =>
      have := ih i (by simpa using hi)
      rw [List.set_cons_succ, List.flatMap_cons, List.flatMap_cons, ← this]
      rw [List.set_append_right _ _ (by simp [tkCells]; omega), List.set_append_right _ _ (by simp [tkCells]; omega)]
      congr 1
      simp [tkCells, show (i + 1) * 2 - 2 = i * 2 by omega, show (i + 1) * 2 + 1 - 2 = i * 2 + 1 by omega]
theorem SpAt.set {W : World} {g i : Nat} {T : List Sp} {x y : Int} (h : SpAt W g T) (hi : i < T.length) :
    SpAt ((W.setCell ⟨g, i * 2, none⟩ (.int .i64 x)).setCell ⟨g, i * 2 + 1, none⟩ (.int .i64 y)) g (T.set i (x, y)) := by
  obtain ⟨cur, h1, h2, h3⟩ := h
  refine ⟨_, (h1.set_ (i * 2) _).set_ (i * 2 + 1) _, by simpa using h2, ?_⟩
  rw [List.length_set, Array.toList_setIfInBounds, Array.toList_setIfInBounds, List.take_set, List.take_set, h3]
  exact flatTk_set T i x y hi
theorem SpAt.cells {W : World} {g : Nat} {T : List Sp} (h : SpAt W g T) {i : Nat} (hi : i < T.length) :
    W.cell? ⟨g, i * 2, none⟩ = some (.int .i64 (T[i]?.getD (0, 0)).1) ∧ W.cell? ⟨g, i * 2 + 1, none⟩ = some (.int .i64 (T[i]?.getD (0, 0)).2) ∧ W.frozen? ⟨g, i * 2, none⟩ = false ∧ W.frozen? ⟨g, i * 2 + 1, none⟩ = false := by
  obtain ⟨cur, h1, h2, h3⟩ := h
  have key : ∀ u v, ((T.map tkCells)[i]?.getD [])[u]? = some v → W.cell? ⟨g, i * 2 + u, none⟩ = some v := by
    intro u v hv
    obtain ⟨hj, hu, hf⟩ := flatTk_get T i u v hv
    rw [h1.cell]
    rw [← h3, List.getElem?_take_of_lt (by omega)] at hf
    simpa using hf
  have e : ((T.map tkCells)[i]?.getD []) = tkCells (T[i]?.getD (0, 0)) := by
    rw [List.getElem?_map, List.getElem?_eq_getElem hi]; rfl
  rw [e] at key
  exact ⟨key 0 _ rfl, key 1 _ rfl, h1.frozen _, h1.frozen _⟩

/-- Ranges none of which is empty. -/
def AllOk (T : List Sp) : Prop := ∀ i, i < T.length → okS (T[i]?.getD (0, 0))
theorem AllOk.inRs {T : List Sp} (h : AllOk T) : InRs T := fun i hi => by have := h i hi; unfold okS at this; omega
theorem AllOk.set {T : List Sp} (h : AllOk T) (i : Nat) {r : Sp} (hr : okS r) : AllOk (T.set i r) := by
  intro j hj
  rw [List.length_set] at hj
  by_cases e : i = j
  · subst e; rw [List.getElem?_set_self hj]; exact hr
  · rw [List.getElem?_set_ne e]; exact h j hj
theorem wait1_ok {S : Sch} {T : List Sp} (hf : ∀ i, i < T.length → (S.sks[i]?.getD default).fl ≤ (S.sks[i]?.getD default).fh) (h : AllOk T) : AllOk (wait1 S T) := by
  intro i hi
  rw [wait1_len] at hi
  rw [wait1_at S T hi]
  exact lower_ok (hf i hi) (h i hi)
theorem waitN_ok {S : Sch} {T : List Sp} (hf : ∀ i, i < T.length → (S.sks[i]?.getD default).fl ≤ (S.sks[i]?.getD default).fh) (h : AllOk T) : ∀ m, AllOk (waitN S m T)
  | 0 => h
  | m + 1 => wait1_ok (by rw [waitN_len]; exact hf) (waitN_ok hf h m)
/-- How the reference's after ends. -/
def RefLived (base : Nat) (q : Option (List Sp)) (e : Ending) (w : World) : Prop := match q with
  | none => e = .returned (.tuple #[.slice none 0 0, .bool false])
  | some T => ∃ v, e = .returned (.tuple #[v, .bool true]) ∧ w.ownsRow base 32 2 v T.length (T.flatMap tkCells)
end Go.Proofs.Ytkhijdbigpaagaa

/-
  The reference's after.
-/
namespace Go.Proofs.Ytkhijdbigpaagaa
open Go.RowKit RG

def OwnSp (base n : Nat) (T : List Sp) : Value → World → Prop := fun v w => w.ownsRow base 32 2 v n (T.flatMap tkCells)
theorem OwnSp.stb (base n : Nat) (T : List Sp) : Stb (OwnSp base n T) := fun _ _ _ hb h => own_below h hb
def NewSp (B : Nat) : Value → World → Prop := fun v u => ∃ p, v = .pointer (some ⟨p, 0, none⟩) ∧ B ≤ p ∧ Blk u p 32 #[.int .i64 0, .int .i64 0]
theorem NewSp.stb (B : Nat) : Stb (NewSp B) := fun _ _ _ hb ⟨p, e, h1, h2⟩ => ⟨p, e, h1, h2.below hb h2.lt⟩
theorem narrow_none {b r : Sp} {m : Int} (h : (narrowS (behR b m) r).2 < (narrowS (behR b m) r).1) : (narrowS (behindS b m) r).2 < (narrowS (behindS b m) r).1 := by
  unfold behR at h
  split at h
  · rename_i h1
    unfold narrowS; simp only; omega
  · exact h
theorem narrow_some {b r : Sp} {m : Int} (h : ¬ (narrowS (behR b m) r).2 < (narrowS (behR b m) r).1) : narrowS (behindS b m) r = narrowS (behR b m) r := by
  unfold behR at h ⊢
  split at h
  · unfold narrowS at h; simp only at h; omega
  · rename_i h1
    rw [if_neg h1]

set_option maxRecDepth 100000 in
set_option maxHeartbeats 8000000 in
theorem afterR_any (A A2 L E : Option Addr) (n c n2 c2 cl m ce : Nat) (S : Sch) (rs : List Sp) (es : List Ev) (week : Int) (w : World) (hnS : S.sks.length = n) (hnI : S.ins.length = n2) (hsk : RdRow w A n 5 (S.sks.map skCells)) (hin : RdRow w A2 n2 3 (S.ins.map inCells))
    (hls : RdRow w L n 2 (rs.map tkCells)) (hes : RdRow w E m 5 (es.map evCells)) (hck : (checkS S).2.2 = 0) (hrk : rangesE n rs = 0) (hek : evsE n n2 es = 0) (hwk : lastW es ≤ week ∧ week ≤ 200) :
    Calls Try.prog 70 #[.agg #[.slice A n c, .slice A2 n2 c2], .slice L n cl, .slice E m ce, .int .i64 week] w fun e w' => RefLived w.heap.size (liveS S week es 0 rs) e w' ∧ Below w.heap.size w w' := by
  have hck2 := check_ok hck
  have hn5 : n ≤ 5 := by omega
  have hn1 : 1 ≤ n := by omega
  have hn6 : n2 ≤ 6 := by omega
  obtain ⟨hm60, hev⟩ := evs_ok hek
  obtain ⟨hrl, hrr⟩ := ranges_ok hrk
  have hel : es.length = m := by have := hes.1; simpa using this
  rw [hel] at hm60
  have hF := hide (fun W Lv cv T (q : Nat) (hb : Below w.heap.size w W) (hrow : RdRow W Lv n 2 (T.map tkCells)) (hT : InRs T) (hq : q ≤ 200) => faded_any A A2 Lv n c n2 c2 n cv S T q W hnS (hsk.below hb) hrow (Nat.le_refl _) hn5 (fun i hi => by have := sk_ok hck (i := i) (by omega); omega) hT hq)
  have hevc := hide (fun j (hj : j < m) => map_at evCells es j (by omega))
  have hlw := hide (fun i (hi : i < m) => lastW_take es i (by omega))
  have hlwin := hide (fun i (hi : i ≤ m) => lastW_in hev i (by omega))
  have hlwe := hide (show lastW (es.take m) = lastW es by rw [List.take_of_length_le (by omega)])
  have hWo := hide (fun (T : List Sp) (hT : AllOk T) (hl : T.length = n) q => waitN_ok (S := S) (T := T) (fun i hi => by have := sk_ok hck (i := i) (by omega); omega) hT q)
  have hgn := hide (fun i (hi : i < n) => show (S.sks[i]?.getD default).gl ≤ (S.sks[i]?.getD default).gh by have := sk_ok hck (i := i) (by omega); omega)
  have hgb := hide (fun i (hi : i < n) => show 0 ≤ (S.sks[i]?.getD default).gl ∧ (S.sks[i]?.getD default).gh ≤ 1000 by have := sk_ok hck (i := i) (by omega); omega)
  have hib := hide (fun i (hi : i < n2) => in_ok hck (i := i) (by omega))
  have hca := hide (fun j (hj : j < n) => sk_at S.sks j (by omega))
  have hci := hide (fun j (hj : j < n2) => map_at inCells S.ins j (by omega))
  have hskB := hide (fun W (hb : Below w.heap.size w W) => hsk.below hb)
  have hinB := hide (fun W (hb : Below w.heap.size w W) => hin.below hb)
  have hesB := hide (fun W (hb : Below w.heap.size w W) => hes.below hb)
  have hr0 := hide hls
  have hT0 := hide (show rs.length = n ∧ AllOk rs from ⟨hrl, fun i hi => hrr i hi⟩)
  clear hsk hin hls hes hck hrk hek hrl hrr
  replace hev := hide hev
  replace hel := hide hel
  replace hnS := hide hnS
  replace hnI := hide hnI
  replace hck2 := hide hck2
  have kS := hide (show Blk (w.alloc (.cells #[.slice A n c, .slice A2 n2 c2] 25)) w.heap.size 25 #[.slice A n c, .slice A2 n2 c2] from blkNew rfl)
  have hB := hide (show Below w.heap.size w (w.alloc (.cells #[.slice A n c, .slice A2 n2 c2] 25)) from (Below.refl _ _).alloc (Nat.le_refl _) _)
  go_enter Try.func70, Try.ntmps70
  go_wp2
  have hr1 := hide (hr0.out.below hB.out)
  clear hr0
  generalize (w.alloc (.cells #[.slice A n c, .slice A2 n2 c2] 25)) = w0 at *
  have hzS := kS.out.lt
  go_loopg [10, 11, 12, 13, 14, 15, 16] m (fun gg s10 s11 s12 _ _ _ _ wr => ∃ (j : Nat) (T : List Sp) (Lv : Option Addr) (cv : Nat), j ≤ m ∧ m ≤ gg + j ∧ s12 = .int .i64 j ∧ s11 = .int .i64 (lastW (es.take j)) ∧ s10 = .slice Lv n cv ∧ Hid (Below w.heap.size w wr) ∧ Hid (Blk wr w.heap.size 25 #[.slice A n c, .slice A2 n2 c2]) ∧
    Hid (RdRow wr Lv n 2 (T.map tkCells)) ∧ Hid (T.length = n ∧ AllOk T) ∧ Hid (liveS S week es 0 rs = liveS S week (es.drop j) (lastW (es.take j)) T))
  case atStart => exact ⟨0, rs, L, cl, Nat.zero_le _, by omega, rfl, by simp [lastW], rfl, hB, kS, hr1, hT0, by unfold Hid; simp [lastW]⟩
  case round =>
    clear hB kS hr1 hT0
    obtain ⟨j, T, Lv, cv, hj, hgg, rfl, rfl, rfl, hB, kS, hr, hT, hL⟩ := hrel
    have hnow := hlwin.out j hj
    by_cases hlt : j < m
    · have hltz : (j : Int) < (m : Int) := by omega
      have hlwj := hide (hlw.out j hlt)
      obtain ⟨b, off, x0, x1, x2, x3, x4, rfl, hb, hx, c0, c1, c2', c3, c4⟩ := (hesB.out wr hB.out).cells5 hlt
      rw [hevc.out j hlt] at hx
      unfold evCells at hx
      simp only [List.cons.injEq, and_true] at hx
      obtain ⟨rfl, rfl, rfl, rfl, rfl⟩ := hx
      obtain ⟨sk, hsc, hskn, ha0, ha1, hnowa, hkind⟩ := hev.out j (by rw [hel.out]; exact hlt)
      have hdr := hide (show es.drop j = es[j]?.getD default :: es.drop (j + 1) by
        rw [List.drop_eq_getElem_cons (by rw [hel.out]; exact hlt), List.getElem?_eq_getElem (by rw [hel.out]; exact hlt)]; rfl)
      have hst := hide (show liveS S week es 0 rs = (stepS S (es[j]?.getD default) (waitN S ((es[j]?.getD default).a - lastW (es.take j)).toNat T)).bind (liveS S week (es.drop (j + 1)) (es[j]?.getD default).a) by
        rw [hL.out, hdr.out]; rfl)
      clear hdr hL
      generalize es[j]?.getD default = ev at *
      generalize lastW (es.take j) = now at *
      obtain ⟨ea, eb, ec, ed, ee⟩ := ev
      try simp only at *
      subst hsc
      obtain ⟨q, hq⟩ : ∃ q : Nat, (ea - now).toNat = q := ⟨_, rfl⟩
      have hqz : IntKind.i64.wrap (ea - now) = (q : Int) := by rw [IntKind.wrap_i64]; omega
      have hq200 : q ≤ 200 := by omega
      rw [hq] at hst
      have hF1 := hF.out
      have hT1 := hide (show (waitN S q T).length = n ∧ AllOk (waitN S q T) from ⟨by rw [waitN_len]; exact hT.out.1, hWo.out T hT.out.2 hT.out.1 q⟩)
      have hF1 := hide (fun W (hb : Below wr.heap.size wr W) => hF.out W Lv cv T q (hB.out.trans (hb.mono hB.out.size)) (hr.out.below hb) hT.out.2.inRs hq200)
      generalize waitN S q T = T1 at *
      clear hr hT hq
      have kx := hide (show Blk (wr.alloc (.cells #[.int .i64 ea, .int .i64 eb, .int .i64 sk, .int .i64 ed, .int .i64 ee] 78)) wr.heap.size 78 #[.int .i64 ea, .int .i64 eb, .int .i64 sk, .int .i64 ed, .int .i64 ee] from blkNew rfl)
      have kS1 := hide (kS.out.alloc (.cells #[.int .i64 ea, .int .i64 eb, .int .i64 sk, .int .i64 ed, .int .i64 ee] 78))
      have hB1 := hide (hB.out.alloc hB.out.size (.cells #[.int .i64 ea, .int .i64 eb, .int .i64 sk, .int .i64 ed, .int .i64 ee] 78))
      have hba := hide ((Below.refl wr.heap.size wr).alloc (Nat.le_refl _) (.cells #[.int .i64 ea, .int .i64 eb, .int .i64 sk, .int .i64 ed, .int .i64 ee] 78))
      go_wp2
      clear c0 c1 c2' c3 c4
      have hszr := hB.out.size
      have hsz1 := hide (show (wr.alloc (.cells #[.int .i64 ea, .int .i64 eb, .int .i64 sk, .int .i64 ed, .int .i64 ee] 78)).heap.size = wr.heap.size + 1 by simp)
      generalize (wr.alloc (.cells #[.int .i64 ea, .int .i64 eb, .int .i64 sk, .int .i64 ed, .int .i64 ee] 78)) = w1 at *
      clear hB kS
      have zx := kx.out.lt
      have zS := kS1.out.lt
      refine region_grow_old [IsV (.agg #[.slice A n c, .slice A2 n2 c2]), IsV (.slice Lv n cv), IsV (.pointer (some ⟨wr.heap.size, 0, none⟩)), IsV (.int .i64 ea), IsV (.int .i64 now), IsV (.int .i64 q), OwnSp w1.heap.size n T1, IsV (.pointer (some ⟨wr.heap.size, 0, none⟩)), IsV (.int .i64 ea), OwnSp w1.heap.size n T1, IsV (.int .i64 ea)] (by kernel_rfl) (by kernel_rfl) rfl ?_ ?_ ?_
      · simp [AllStb, IsV.stb, OwnSp.stb]
      · refine ⟨?_, ?_, ?_, ?_, ?_, ?_, ?_, ?_, ?_, ?_, ?_, trivial⟩
        all_goals
          intro y w6 K Qq Cv hC hd ho hV
          have q0 : w6.cell? ⟨wr.heap.size, 0, none⟩ = some (.int .i64 ea) := (kx.out.below hC zx).cell 0
          have q1 : w6.cell? ⟨w.heap.size, 0, none⟩ = some (.slice A n c) := (kS1.out.below hC zS).cell 0
          have q2 : w6.cell? ⟨w.heap.size, 1, none⟩ = some (.slice A2 n2 c2) := (kS1.out.below hC zS).cell 1
          simp [deps, VL, IsV, Region.binds] at hd
        · simp only [putAll, Act.put]; go_simp; intro hK; exact hK _ _ (hV _ _ hC (Below.refl _ _) rfl)
        · have o9 : y 9 = .slice Lv n cv := ho 9 (by kernel_rfl)
          simp only [putAll, Act.put]; go_simp; intro hK; exact hK _ _ (hV _ _ hC (Below.refl _ _) rfl)
        · simp only [putAll, Act.put]; go_simp; intro hK; exact hK _ _ (hV _ _ hC (Below.refl _ _) rfl)
        · simp only [putAll, Act.put]; go_simp; intro hK; exact hK _ _ (hV _ _ hC (Below.refl _ _) rfl)
        · have o10 : y 10 = .int .i64 now := ho 10 (by kernel_rfl)
          simp only [putAll, Act.put]; go_simp; intro hK; exact hK _ _ (hV _ _ hC (Below.refl _ _) rfl)
        · simp only [putAll, Act.put]; go_simp; intro hK; exact hK _ _ (hV _ _ hC (Below.refl _ _) rfl)
        · simp only [putAll, Act.put]; go_simp; intro hK
          refine (hF1.out _ (hba.out.trans (hC.mono (by rw [hsz1.out]; omega)))).mono ?_
          rintro e w7 ⟨⟨v, rfl, hv⟩, hb7⟩
          exact hK _ _ (hV _ _ (hC.trans (hb7.mono hC.size)) hb7 (own_mono hv hC.size))
        · simp only [putAll, Act.put]; go_simp; intro hK; exact hK _ _ (hV _ _ hC (Below.refl _ _) rfl)
        · simp only [putAll, Act.put]; go_simp; intro hK; exact hK _ _ (hV _ _ hC (Below.refl _ _) rfl)
        · have d6 := hd.1
          simp only [putAll, Act.put]; go_simp; intro hK; exact hK _ _ (hV _ _ hC (Below.refl _ _) d6)
        · simp only [putAll, Act.put]; go_simp; intro hK; exact hK _ _ (hV _ _ hC (Below.refl _ _) rfl)
      · intro y w6 hC hd
        simp [EndsL, IsV] at hd
        obtain ⟨d0, d1, d2, d3, d4, d5, d6, d7, d8, d9, d10⟩ := hd
        obtain ⟨g, cap, d9', hg1, hg2, hA⟩ := spAt_own d9 hT1.out.1 hn1
        simp only [putAll, Act.put]
        rw [d9', d10]
        clear d0 d1 d2 d3 d4 d5 d6 d7 d8 d9 d10 d9'
        simp only [List.setIfInBounds_toArray, List.set_cons_succ, List.set_cons_zero]
        have kx2 := hide (kx.out.below hC zx)
        have kS2 := hide (kS1.out.below hC zS)
        have hB2 := hide (hB1.out.trans (hC.mono hB1.out.size))
        have hs6 := hC.size
        have hxg : wr.heap.size ≠ g := by omega
        have hSg : w.heap.size ≠ g := by omega
        clear hC hB1 kx kS1 hba hF1
        have hskl : sk < T1.length := by rw [hT1.out.1]; exact hskn
        have hrok := hide (hT1.out.2 sk hskl)
        obtain ⟨e0, e1, f0, f1⟩ := hA.cells hskl
        have y1 : w6.cell? ⟨wr.heap.size, 1, none⟩ = some (.int .i64 eb) := kx2.out.cell 1
        have y2 : w6.cell? ⟨wr.heap.size, 2, none⟩ = some (.int .i64 sk) := kx2.out.cell 2
        have hskz : (sk : Int) < (n : Int) := by omega
        obtain ⟨r, hrr⟩ : ∃ r, T1[sk]?.getD (0, 0) = r := ⟨_, rfl⟩
        rw [hrr] at hrok e0 e1
        replace hrr := hide hrr
        obtain ⟨r0, r1⟩ := r
        simp only at e0 e1
        have kr := hide (show Blk (w6.alloc (.cells #[.int .i64 r0, .int .i64 r1] 32)) w6.heap.size 32 #[.int .i64 r0, .int .i64 r1] from blkNew rfl)
        have kx3 := hide (kx2.out.alloc (.cells #[.int .i64 r0, .int .i64 r1] 32))
        have kS3 := hide (kS2.out.alloc (.cells #[.int .i64 r0, .int .i64 r1] 32))
        have hA3 := hide (hA.alloc (.cells #[.int .i64 r0, .int .i64 r1] 32))
        have hB3 := hide (hB2.out.alloc hB2.out.size (.cells #[.int .i64 r0, .int .i64 r1] 32))
        have hs3 := hide (show (w6.alloc (.cells #[.int .i64 r0, .int .i64 r1] 32)).heap.size = w6.heap.size + 1 by simp)
        have y3 : (w6.alloc (.cells #[.int .i64 r0, .int .i64 r1] 32)).cell? ⟨wr.heap.size, 1, none⟩ = some (.int .i64 eb) := kx3.out.cell 1
        have hgl := hA.lt
        clear kx2 kS2 hB2 hA f0 f1 y1
        replace hst := hide hst.out
        have x0' : (w6.alloc (.cells #[.int .i64 r0, .int .i64 r1] 32)).cell? ⟨w.heap.size, 0, none⟩ = some (.slice A n c) := kS3.out.cell 0
        have x1' : (w6.alloc (.cells #[.int .i64 r0, .int .i64 r1] 32)).cell? ⟨w.heap.size, 1, none⟩ = some (.slice A2 n2 c2) := kS3.out.cell 1
        have y4 : (w6.alloc (.cells #[.int .i64 r0, .int .i64 r1] 32)).cell? ⟨wr.heap.size, 2, none⟩ = some (.int .i64 sk) := kx3.out.cell 2
        have hrb : okS (r0, r1) := hrok.out
        unfold okS at hrb
        simp only at hrb
        rcases hkind with rfl | ⟨rfl, kk, rfl, hkk, hm0, hm1⟩
        · obtain ⟨b3, off3, z0, z1, z2, z3, z4, rfl, hb3, hz, d0, d1, d2, d3, d4⟩ := (hskB.out _ hB3.out).cells5 (show sk < n by omega)
          rw [hca.out sk hskn] at hz
          unfold skCells at hz
          simp only [List.cons.injEq, and_true] at hz
          obtain ⟨rfl, rfl, rfl, rfl, rfl⟩ := hz
          clear d0 d3 d4 x1'
          have hg1' := hgn.out sk hskn
          have hg2' := hgb.out sk hskn
          have hL2 : liveS S week es 0 rs = liveS S week (es.drop (j + 1)) ea (T1.set sk (lim (r0 + (S.sks[sk]?.getD default).gl), lim (r1 + (S.sks[sk]?.getD default).gh))) := by
            rw [hst.out]
            unfold stepS
            simp only [Int.toNat_natCast]
            rw [if_neg (by decide), hrr.out]
            rfl
          have hok2 : okS (lim (r0 + (S.sks[sk]?.getD default).gl), lim (r1 + (S.sks[sk]?.getD default).gh)) := raise_ok (g := gainOf (S.sks[sk]?.getD default)) hg1' hrok.out
          generalize (S.sks[sk]?.getD default).gl = gl at *
          generalize (S.sks[sk]?.getD default).gh = gh at *
          obtain ⟨X, hX⟩ : ∃ x, lim (r0 + gl) = x := ⟨_, rfl⟩
          obtain ⟨Y, hY⟩ : ∃ x, lim (r1 + gh) = x := ⟨_, rfl⟩
          have hW1 := hide (fun W => Within_any (r0 + gl) W)
          have hW2 := hide (fun W => Within_any (r1 + gh) W)
          rw [hX] at hW1 hL2 hok2
          rw [hY] at hW2 hL2 hok2
          have hwa : IntKind.i64.wrap (r0 + gl) = r0 + gl := by rw [IntKind.wrap_i64]; omega
          have hwb : IntKind.i64.wrap (r1 + gh) = r1 + gh := by rw [IntKind.wrap_i64]; omega
          have hnlt : decide (Y < X) = false := decide_eq_false (by unfold okS at hok2; simp only at hok2; omega)
          clear hX hY hst
          replace hL2 := hide hL2
          replace hok2 := hide hok2
          replace hrb := hide hrb
          replace hnlt := hide hnlt
          go_wp2
          clear x0' d1 d2 y3 y4 e0 e1 y2
          have kr4 := hide (kr.out.alloc (.cells #[.int .i64 gl, .int .i64 gh] 32))
          have kx4 := hide (kx3.out.alloc (.cells #[.int .i64 gl, .int .i64 gh] 32))
          have kS4 := hide (kS3.out.alloc (.cells #[.int .i64 gl, .int .i64 gh] 32))
          have hA4 := hide (hA3.out.alloc (.cells #[.int .i64 gl, .int .i64 gh] 32))
          have hB4 := hide (hB3.out.alloc hB3.out.size (.cells #[.int .i64 gl, .int .i64 gh] 32))
          have kg4 := hide (show Blk ((w6.alloc (.cells #[.int .i64 r0, .int .i64 r1] 32)).alloc (.cells #[.int .i64 gl, .int .i64 gh] 32)) (w6.heap.size + 1) 32 #[.int .i64 gl, .int .i64 gh] from blkNew hs3.out.symm)
          generalize (w6.alloc (.cells #[.int .i64 r0, .int .i64 r1] 32)).alloc (.cells #[.int .i64 gl, .int .i64 gh] 32) = w8 at *
          clear kr kx3 kS3 hA3 hB3
          have zr := kr4.out.lt
          have zg := kg4.out.lt
          refine region_grow_tail 13 [IsV (.pointer (some ⟨w6.heap.size, 0, none⟩)), IsV (.int .i64 r0), IsV (.pointer (some ⟨w6.heap.size + 1, 0, none⟩)), IsV (.int .i64 gl), IsV (.int .i64 (r0 + gl)), IsV (.int .i64 X), IsV (.pointer (some ⟨w6.heap.size, 1, none⟩)), IsV (.int .i64 r1), IsV (.pointer (some ⟨w6.heap.size + 1, 1, none⟩)), IsV (.int .i64 gh), IsV (.int .i64 (r1 + gh)), IsV (.int .i64 Y), IsV (.agg #[.int .i64 X, .int .i64 Y])] (by kernel_rfl) (by kernel_rfl) rfl ?_ ?_ ?_
          · simp [AllStb, IsV.stb]
          · refine ⟨?_, ?_, ?_, ?_, ?_, ?_, ?_, ?_, ?_, ?_, ?_, ?_, ?_, trivial⟩
            all_goals
              intro y w9 K Qq Cv hC hd hV
              have q0 : w9.cell? ⟨w6.heap.size, 0, none⟩ = some (.int .i64 r0) := (kr4.out.below hC zr).cell 0
              have q1 : w9.cell? ⟨w6.heap.size, 1, none⟩ = some (.int .i64 r1) := (kr4.out.below hC zr).cell 1
              have q2 : w9.cell? ⟨w6.heap.size + 1, 0, none⟩ = some (.int .i64 gl) := (kg4.out.below hC zg).cell 0
              have q3 : w9.cell? ⟨w6.heap.size + 1, 1, none⟩ = some (.int .i64 gh) := (kg4.out.below hC zg).cell 1
              simp [deps, VL, IsV, Region.binds] at hd
              simp only [List.take_succ_cons, List.take_zero, putAll, Act.put]
              go_simp; intro hK
            iterate 12 (first | exact hK _ _ (hV _ _ hC (Below.refl _ _) rfl) | skip)
            all_goals first
              | exact hK _ _ (hV _ _ hC (Below.refl _ _) rfl)
              | (refine (hW1.out _).mono ?_; rintro e w7 ⟨rfl, rfl⟩; exact hK _ _ (hV _ _ hC (Below.refl _ _) rfl))
              | (refine (hW2.out _).mono ?_; rintro e w7 ⟨rfl, rfl⟩; exact hK _ _ (hV _ _ hC (Below.refl _ _) rfl))
          · intro y w9 hC hd
            simp [EndsL, IsV] at hd
            obtain ⟨d0, d1, d2, d3, d4, d5, d6, d7, d8, d9, d10, d11, d12⟩ := hd
            simp only [List.take_succ_cons, List.take_zero, List.drop_succ_cons, List.drop_zero, putAll, Act.put]
            rw [d12]
            clear d0 d1 d2 d3 d4 d5 d6 d7 d8 d9 d10 d11 d12
            simp only [List.setIfInBounds_toArray, List.set_cons_succ, List.set_cons_zero]
            have kr9 := kr4.out.below hC zr
            have kx9 := kx4.out.below hC kx4.out.lt
            have kS9 := kS4.out.below hC kS4.out.lt
            have hA9 := hA4.out.below hC
            have hB9 := hB4.out.trans (hC.mono hB4.out.size)
            clear hC kr4 kx4 kS4 hA4 hB4 kg4
            have n1 : w6.heap.size ≠ wr.heap.size := by omega
            have n2' : w6.heap.size ≠ w.heap.size := by omega
            have n3 : w6.heap.size ≠ g := by omega
            have v0 : w9.cell? ⟨w6.heap.size, 0, none⟩ = some (.int .i64 r0) := kr9.cell 0
            have v1 : w9.cell? ⟨w6.heap.size, 1, none⟩ = some (.int .i64 r1) := kr9.cell 1
            have v2 : w9.frozen? ⟨w6.heap.size, 0, none⟩ = false := kr9.frozen 0
            have v3 : w9.frozen? ⟨w6.heap.size, 1, none⟩ = false := kr9.frozen 1
            obtain ⟨W, hW⟩ : ∃ W, (w9.setCell ⟨w6.heap.size, 0, none⟩ (.int .i64 X)).setCell ⟨w6.heap.size, 1, none⟩ (.int .i64 Y) = W := ⟨_, rfl⟩
            have krW : Blk W w6.heap.size 32 #[.int .i64 X, .int .i64 Y] := by
              rw [← hW]
              have := (kr9.set_ 0 (.int .i64 X)).set_ 1 (.int .i64 Y)
              simpa using this
            have kxW : Blk W wr.heap.size 78 #[.int .i64 ea, .int .i64 0, .int .i64 sk, .int .i64 ed, .int .i64 ee] := by rw [← hW]; exact (kx9.far (p := ⟨w6.heap.size, 0, none⟩) (Ne.symm n1) _).far (p := ⟨w6.heap.size, 1, none⟩) (Ne.symm n1) _
            have kSW : Blk W w.heap.size 25 #[.slice (some ⟨b3, off3, none⟩) n c, .slice A2 n2 c2] := by rw [← hW]; exact (kS9.far (p := ⟨w6.heap.size, 0, none⟩) (Ne.symm n2') _).far (p := ⟨w6.heap.size, 1, none⟩) (Ne.symm n2') _
            have hAW : SpAt W g T1 := by rw [← hW]; exact (hA9.far (p := ⟨w6.heap.size, 0, none⟩) (Ne.symm n3) _).far (p := ⟨w6.heap.size, 1, none⟩) (Ne.symm n3) _
            have hBW : Below w.heap.size w W := by rw [← hW]; exact (hB9.setCell (p := ⟨w6.heap.size, 0, none⟩) (show w.heap.size ≤ w6.heap.size by omega) _).setCell (p := ⟨w6.heap.size, 1, none⟩) (show w.heap.size ≤ w6.heap.size by omega) _
            clear kr9 kx9 kS9 hA9 hB9
            obtain ⟨ca, cb, cf, cg⟩ := hAW.cells hskl
            rw [hrr.out] at ca cb
            simp only at ca cb
            have m0 : ((w9.setCell ⟨w6.heap.size, 0, none⟩ (.int .i64 X)).setCell ⟨w6.heap.size, 0 + 1, none⟩ (.int .i64 Y)).cell? ⟨wr.heap.size, 2, none⟩ = some (.int .i64 sk) := by rw [show (w9.setCell ⟨w6.heap.size, 0, none⟩ (.int .i64 X)).setCell ⟨w6.heap.size, 0 + 1, none⟩ (.int .i64 Y) = W from hW]; exact kxW.cell 2
            have m1 : ((w9.setCell ⟨w6.heap.size, 0, none⟩ (.int .i64 X)).setCell ⟨w6.heap.size, 0 + 1, none⟩ (.int .i64 Y)).cell? ⟨w6.heap.size, 0, none⟩ = some (.int .i64 X) := by rw [show (w9.setCell ⟨w6.heap.size, 0, none⟩ (.int .i64 X)).setCell ⟨w6.heap.size, 0 + 1, none⟩ (.int .i64 Y) = W from hW]; exact krW.cell 0
            have m2 : ((w9.setCell ⟨w6.heap.size, 0, none⟩ (.int .i64 X)).setCell ⟨w6.heap.size, 0 + 1, none⟩ (.int .i64 Y)).cell? ⟨w6.heap.size, 1, none⟩ = some (.int .i64 Y) := by rw [show (w9.setCell ⟨w6.heap.size, 0, none⟩ (.int .i64 X)).setCell ⟨w6.heap.size, 0 + 1, none⟩ (.int .i64 Y) = W from hW]; exact krW.cell 1
            have m3 : ((w9.setCell ⟨w6.heap.size, 0, none⟩ (.int .i64 X)).setCell ⟨w6.heap.size, 0 + 1, none⟩ (.int .i64 Y)).cell? ⟨g, sk * 2, none⟩ = some (.int .i64 r0) := by rw [show (w9.setCell ⟨w6.heap.size, 0, none⟩ (.int .i64 X)).setCell ⟨w6.heap.size, 0 + 1, none⟩ (.int .i64 Y) = W from hW]; exact ca
            have m4 : ((w9.setCell ⟨w6.heap.size, 0, none⟩ (.int .i64 X)).setCell ⟨w6.heap.size, 0 + 1, none⟩ (.int .i64 Y)).cell? ⟨g, sk * 2 + 1, none⟩ = some (.int .i64 r1) := by rw [show (w9.setCell ⟨w6.heap.size, 0, none⟩ (.int .i64 X)).setCell ⟨w6.heap.size, 0 + 1, none⟩ (.int .i64 Y) = W from hW]; exact cb
            have m5 : ((w9.setCell ⟨w6.heap.size, 0, none⟩ (.int .i64 X)).setCell ⟨w6.heap.size, 0 + 1, none⟩ (.int .i64 Y)).frozen? ⟨g, sk * 2, none⟩ = false := by rw [show (w9.setCell ⟨w6.heap.size, 0, none⟩ (.int .i64 X)).setCell ⟨w6.heap.size, 0 + 1, none⟩ (.int .i64 Y) = W from hW]; exact cf
            have m6 : ((w9.setCell ⟨w6.heap.size, 0, none⟩ (.int .i64 X)).setCell ⟨w6.heap.size, 0 + 1, none⟩ (.int .i64 Y)).frozen? ⟨g, sk * 2 + 1, none⟩ = false := by rw [show (w9.setCell ⟨w6.heap.size, 0, none⟩ (.int .i64 X)).setCell ⟨w6.heap.size, 0 + 1, none⟩ (.int .i64 Y) = W from hW]; exact cg
            replace hW := hide (show (w9.setCell ⟨w6.heap.size, 0, none⟩ (.int .i64 X)).setCell ⟨w6.heap.size, 0 + 1, none⟩ (.int .i64 Y) = W from hW)
            have hg0 : w.heap.size ≤ g := by omega
            have ngS : w.heap.size ≠ g := hSg
            have hAX := hide (hAW.set (x := X) (y := Y) hskl)
            have kSX := hide ((kSW.far (p := ⟨g, sk * 2, none⟩) ngS (.int .i64 X)).far (p := ⟨g, sk * 2 + 1, none⟩) ngS (.int .i64 Y))
            have hBX := hide ((hBW.setCell (p := ⟨g, sk * 2, none⟩) hg0 (.int .i64 X)).setCell (p := ⟨g, sk * 2 + 1, none⟩) hg0 (.int .i64 Y))
            have hnlt' := hnlt.out
            clear hAW kSW hBW kxW krW ca cb cf cg
            go_wp2
            rw [hW.out]
            clear m0 m1 m2 m3 m4 m5 m6 v0 v1 v2 v3 hW hnlt'
            have hTl2 : (T1.set sk (X, Y)).length = n := by rw [List.length_set]; exact hT1.out.1
            go_roundg (m - (j + 1))
            case measure => omega
            case rel =>
              refine ⟨j + 1, T1.set sk (X, Y), some ⟨g, 0, none⟩, cap, by omega, by omega, by go_num, ?_, rfl, hBX.out, kSX.out, ?_, ⟨hTl2, hT1.out.2.set sk hok2.out⟩, ?_⟩
              · rw [hlwj.out]
              · have := hAX.out.row
                rw [hTl2] at this
                exact this
              · unfold Hid
                rw [hL2.out, hlwj.out]
        · obtain ⟨b3, off3, z0, z1, z2, rfl, hb3, hz, d0, d1, d2⟩ := (hinB.out _ hB3.out).cells3 (show kk < n2 by omega)
          rw [hci.out kk hkk] at hz
          unfold inCells at hz
          simp only [List.cons.injEq, and_true] at hz
          obtain ⟨rfl, rfl, rfl⟩ := hz
          clear d0 x0'
          have hbb := hib.out kk hkk
          have hL1 : liveS S week es 0 rs = (if (narrowS (behindS ((S.ins[kk]?.getD default).lo, (S.ins[kk]?.getD default).hi) ee) (r0, r1)).2 < (narrowS (behindS ((S.ins[kk]?.getD default).lo, (S.ins[kk]?.getD default).hi) ee) (r0, r1)).1 then none
              else some (T1.set sk (narrowS (behindS ((S.ins[kk]?.getD default).lo, (S.ins[kk]?.getD default).hi) ee) (r0, r1)))).bind (liveS S week (es.drop (j + 1)) ea) := by
            rw [hst.out]
            unfold stepS
            simp only [Int.toNat_natCast]
            rw [if_pos trivial, hrr.out]
            rfl
          have hbe := behindR_any (S.ins[kk]?.getD default).lo (S.ins[kk]?.getD default).hi ee
          have hBh := hide (fun W => hbe W ⟨hm0, hm1⟩ (by omega) (by omega))
          generalize (S.ins[kk]?.getD default).lo = lo at *
          generalize (S.ins[kk]?.getD default).hi = hj at *
          have hno := fun h => narrow_none (b := (lo, hj)) (r := (r0, r1)) (m := ee) h
          have hso := fun h => narrow_some (b := (lo, hj)) (r := (r0, r1)) (m := ee) h
          have hnok := fun h => narrow_ok (b := behR (lo, hj) ee) (r := (r0, r1)) hrok.out h
          generalize behR (lo, hj) ee = pp at *
          obtain ⟨p0, p1⟩ := pp
          generalize behindS (lo, hj) ee = bs at *
          unfold narrowS at hno hso hnok
          simp only at hno hso hnok hBh
          unfold narrowS at hL1
          simp only at hL1
          have hzz : (kk : Int) < (n2 : Int) := by omega
          have y5 : (w6.alloc (.cells #[.int .i64 r0, .int .i64 r1] 32)).cell? ⟨wr.heap.size, 3, none⟩ = some (.int .i64 kk) := kx3.out.cell 3
          have y6 : (w6.alloc (.cells #[.int .i64 r0, .int .i64 r1] 32)).cell? ⟨wr.heap.size, 4, none⟩ = some (.int .i64 ee) := kx3.out.cell 4
          clear hst hbe
          replace hL1 := hide hL1
          replace hno := hide hno
          replace hso := hide hso
          replace hnok := hide hnok
          replace hrb := hide hrb
          replace hm0 := hide hm0
          replace hm1 := hide hm1
          have d1' := hide d1
          have d2' := hide d2
          clear d1 d2
          go_wp2
          clear x1' y3 y4 e0 e1 y2 y5 y6
          generalize (w6.alloc (.cells #[.int .i64 r0, .int .i64 r1] 32)) = w8 at *
          have zx := kx3.out.lt
          have zS := kS3.out.lt
          refine region_grow_tail 11 [IsV (.pointer (some ⟨w.heap.size, 1, none⟩)), IsV (.slice (some ⟨b3, off3, none⟩) n2 c2), IsV (.pointer (some ⟨wr.heap.size, 3, none⟩)), IsV (.int .i64 kk), IsV (.pointer (some ⟨b3, off3 + kk * 3, none⟩)), IsV (.pointer (some ⟨b3, off3 + kk * 3 + 1, none⟩)), IsV (.agg #[.int .i64 lo, .int .i64 hj]), IsV (.pointer (some ⟨wr.heap.size, 4, none⟩)), IsV (.int .i64 ee), IsV (.agg #[.int .i64 p0, .int .i64 p1]), NewSp w8.heap.size] (by kernel_rfl) (by kernel_rfl) rfl ?_ ?_ ?_
          · simp [AllStb, IsV.stb, NewSp.stb]
          · refine ⟨?_, ?_, ?_, ?_, ?_, ?_, ?_, ?_, ?_, ?_, ?_, trivial⟩
            all_goals
              intro y w9 K Qq Cv hC hd hV
              have q0 : w9.cell? ⟨wr.heap.size, 3, none⟩ = some (.int .i64 kk) := (kx3.out.below hC zx).cell 3
              have q1 : w9.cell? ⟨wr.heap.size, 4, none⟩ = some (.int .i64 ee) := (kx3.out.below hC zx).cell 4
              have q2 : w9.cell? ⟨w.heap.size, 1, none⟩ = some (.slice (some ⟨b3, off3, none⟩) n2 c2) := (kS3.out.below hC zS).cell 1
              have q3 := (cellB (o := off3 + kk * 3 + 1) hC hb3).trans d1'.out
              have q4 := (cellB (o := off3 + kk * 3 + 2) hC hb3).trans d2'.out
              simp [deps, VL, IsV, Region.binds] at hd
              simp only [List.take_succ_cons, List.take_zero, putAll, Act.put]
              go_simp; intro hK
            iterate 10 (first | exact hK _ _ (hV _ _ hC (Below.refl _ _) rfl) | skip)
            all_goals first
              | exact hK _ _ (hV _ _ hC (Below.refl _ _) rfl)
              | (refine (hBh.out _).mono ?_; rintro e w7 ⟨rfl, hb7⟩; exact hK _ _ (hV _ _ (hC.trans (hb7.mono hC.size)) hb7 rfl))
              | exact hK _ _ (hV _ _ (hC.alloc hC.size _) ((Below.refl _ _).alloc (Nat.le_refl _) _) ⟨_, rfl, hC.size, blkNew rfl⟩)
          · intro y w9 hC hd
            simp [EndsL, IsV] at hd
            obtain ⟨d0, d1, d2, d3, d4, d5, d6, d7, d8, d9, ⟨pb, d10, hp1, hpk⟩⟩ := hd
            simp only [List.take_succ_cons, List.take_zero, List.drop_succ_cons, List.drop_zero, putAll, Act.put]
            rw [d9, d10]
            clear d0 d1 d2 d3 d4 d5 d6 d7 d8 d9 d10
            simp only [List.setIfInBounds_toArray, List.set_cons_succ, List.set_cons_zero]
            have hw8 := hs3.out
            have kr9' := kr.out.below hC kr.out.lt
            have kx9' := kx3.out.below hC zx
            have kS9' := kS3.out.below hC zS
            have hA9' := hA3.out.below hC
            have hB9' := hB3.out.trans (hC.mono hB3.out.size)
            have u1 : w6.heap.size ≠ pb := by omega
            have u2 : wr.heap.size ≠ pb := by omega
            have u3 : w.heap.size ≠ pb := by omega
            have u4 : g ≠ pb := by omega
            have u5 : w.heap.size ≤ pb := by omega
            have v0 : w9.cell? ⟨pb, 0, none⟩ = some (.int .i64 0) := hpk.cell 0
            have v1 : w9.cell? ⟨pb, 1, none⟩ = some (.int .i64 0) := hpk.cell 1
            have v2 : w9.frozen? ⟨pb, 0, none⟩ = false := hpk.frozen 0
            have v3 : w9.frozen? ⟨pb, 1, none⟩ = false := hpk.frozen 1
            have kpv : Blk ((w9.setCell ⟨pb, 0, none⟩ (.int .i64 p0)).setCell ⟨pb, 1, none⟩ (.int .i64 p1)) pb 32 #[.int .i64 p0, .int .i64 p1] := by
              have := (hpk.set_ 0 (.int .i64 p0)).set_ 1 (.int .i64 p1)
              simpa using this
            have kr9 : Blk ((w9.setCell ⟨pb, 0, none⟩ (.int .i64 p0)).setCell ⟨pb, 1, none⟩ (.int .i64 p1)) w6.heap.size 32 #[.int .i64 r0, .int .i64 r1] := by exact (kr9'.far (p := ⟨pb, 0, none⟩) u1 _).far (p := ⟨pb, 1, none⟩) u1 _
            have kx9 : Blk ((w9.setCell ⟨pb, 0, none⟩ (.int .i64 p0)).setCell ⟨pb, 1, none⟩ (.int .i64 p1)) wr.heap.size 78 #[.int .i64 ea, .int .i64 1, .int .i64 sk, .int .i64 kk, .int .i64 ee] := by exact (kx9'.far (p := ⟨pb, 0, none⟩) u2 _).far (p := ⟨pb, 1, none⟩) u2 _
            have kS9 : Blk ((w9.setCell ⟨pb, 0, none⟩ (.int .i64 p0)).setCell ⟨pb, 1, none⟩ (.int .i64 p1)) w.heap.size 25 #[.slice A n c, .slice (some ⟨b3, off3, none⟩) n2 c2] := by exact (kS9'.far (p := ⟨pb, 0, none⟩) u3 _).far (p := ⟨pb, 1, none⟩) u3 _
            have hA9 : SpAt ((w9.setCell ⟨pb, 0, none⟩ (.int .i64 p0)).setCell ⟨pb, 1, none⟩ (.int .i64 p1)) g T1 := by exact (hA9'.far (p := ⟨pb, 0, none⟩) u4 _).far (p := ⟨pb, 1, none⟩) u4 _
            have hB9 : Below w.heap.size w ((w9.setCell ⟨pb, 0, none⟩ (.int .i64 p0)).setCell ⟨pb, 1, none⟩ (.int .i64 p1)) := by exact (hB9'.setCell (p := ⟨pb, 0, none⟩) u5 _).setCell (p := ⟨pb, 1, none⟩) u5 _
            have m0 : ((w9.setCell ⟨pb, 0, none⟩ (.int .i64 p0)).setCell ⟨pb, 1, none⟩ (.int .i64 p1)).cell? ⟨pb, 0, none⟩ = some (.int .i64 p0) := by exact kpv.cell 0
            have m1 : ((w9.setCell ⟨pb, 0, none⟩ (.int .i64 p0)).setCell ⟨pb, 1, none⟩ (.int .i64 p1)).cell? ⟨pb, 1, none⟩ = some (.int .i64 p1) := by exact kpv.cell 1
            have m2 : ((w9.setCell ⟨pb, 0, none⟩ (.int .i64 p0)).setCell ⟨pb, 1, none⟩ (.int .i64 p1)).cell? ⟨w6.heap.size, 0, none⟩ = some (.int .i64 r0) := by exact kr9.cell 0
            have m3 : ((w9.setCell ⟨pb, 0, none⟩ (.int .i64 p0)).setCell ⟨pb, 1, none⟩ (.int .i64 p1)).cell? ⟨w6.heap.size, 1, none⟩ = some (.int .i64 r1) := by exact kr9.cell 1
            have m4 : ((w9.setCell ⟨pb, 0, none⟩ (.int .i64 p0)).setCell ⟨pb, 1, none⟩ (.int .i64 p1)).frozen? ⟨w6.heap.size, 0, none⟩ = false := by exact kr9.frozen 0
            have m5 : ((w9.setCell ⟨pb, 0, none⟩ (.int .i64 p0)).setCell ⟨pb, 1, none⟩ (.int .i64 p1)).frozen? ⟨w6.heap.size, 1, none⟩ = false := by exact kr9.frozen 1
            clear hC hpk kr kx3 kS3 hA3 hB3 kr9' kx9' kS9' hA9' hB9' kpv
            obtain ⟨X, hX⟩ : ∃ x, max r0 p0 = x := ⟨_, rfl⟩
            obtain ⟨Y, hY⟩ : ∃ x, min r1 p1 = x := ⟨_, rfl⟩
            have hno' := hno.out
            have hso' := hso.out
            have hnok' := hnok.out
            rw [hX, hY] at hno' hso' hnok'
            clear hno hso hnok
            by_cases hlt2 : Y < X
            · have hd2 : decide (Y < X) = true := decide_eq_true hlt2
              have hL2 : liveS S week es 0 rs = none := by
                rw [hL1.out, if_pos (hno' hlt2)]; rfl
              replace hlt2 := hide hlt2
              replace hno' := hide hno'
              replace hso' := hide hso'
              replace hnok' := hide hnok'
              replace hL2 := hide hL2
              have n1 : w6.heap.size ≠ wr.heap.size := by omega
              have hBE := hide ((hB9.setCell (p := ⟨w6.heap.size, 0, none⟩) (show w.heap.size ≤ w6.heap.size by omega) (.int .i64 X)).setCell (p := ⟨w6.heap.size, 1, none⟩) (show w.heap.size ≤ w6.heap.size by omega) (.int .i64 Y))
              have e1' : ((((w9.setCell ⟨pb, 0, none⟩ (.int .i64 p0)).setCell ⟨pb, 1, none⟩ (.int .i64 p1)).setCell ⟨w6.heap.size, 0, none⟩ (.int .i64 X)).setCell ⟨w6.heap.size, 1, none⟩ (.int .i64 Y)).cell? ⟨w6.heap.size, 0, none⟩ = some (.int .i64 X) := by
                have := (kr9.set_ 0 (.int .i64 X)).set_ 1 (.int .i64 Y)
                exact this.cell 0
              have e2' : ((((w9.setCell ⟨pb, 0, none⟩ (.int .i64 p0)).setCell ⟨pb, 1, none⟩ (.int .i64 p1)).setCell ⟨w6.heap.size, 0, none⟩ (.int .i64 X)).setCell ⟨w6.heap.size, 1, none⟩ (.int .i64 Y)).cell? ⟨w6.heap.size, 1, none⟩ = some (.int .i64 Y) := by
                have := (kr9.set_ 0 (.int .i64 X)).set_ 1 (.int .i64 Y)
                exact this.cell 1
              clear kr9 kx9 kS9 hA9 hB9
              go_wp2
              go_ret2
              refine ⟨?_, hBE.out⟩
              rw [hL2.out]
              exact rfl
            · have hd2 : decide (Y < X) = false := decide_eq_false hlt2
              have hok2 := hide (hnok' (by omega))
              have hL2 := hide (show liveS S week es 0 rs = liveS S week (es.drop (j + 1)) ea (T1.set sk (X, Y)) by
                have hs1 := hso' (by omega)
                have h1 : max r0 bs.1 = X := congrArg Prod.fst hs1
                have h2 : min r1 bs.2 = Y := congrArg Prod.snd hs1
                rw [hL1.out, h1, h2, if_neg hlt2]; rfl)
              replace hlt2 := hide hlt2
              replace hno' := hide hno'
              replace hso' := hide hso'
              replace hnok' := hide hnok'
              have n1 : w6.heap.size ≠ wr.heap.size := by omega
              have n2' : w6.heap.size ≠ w.heap.size := by omega
              have n3 : w6.heap.size ≠ g := by omega
              obtain ⟨W, hW⟩ : ∃ W, (((w9.setCell ⟨pb, 0, none⟩ (.int .i64 p0)).setCell ⟨pb, 1, none⟩ (.int .i64 p1)).setCell ⟨w6.heap.size, 0, none⟩ (.int .i64 X)).setCell ⟨w6.heap.size, 1, none⟩ (.int .i64 Y) = W := ⟨_, rfl⟩
              have krW : Blk W w6.heap.size 32 #[.int .i64 X, .int .i64 Y] := by
                rw [← hW]
                have := (kr9.set_ 0 (.int .i64 X)).set_ 1 (.int .i64 Y)
                simpa using this
              have kxW : Blk W wr.heap.size 78 #[.int .i64 ea, .int .i64 1, .int .i64 sk, .int .i64 kk, .int .i64 ee] := by rw [← hW]; exact (kx9.far (p := ⟨w6.heap.size, 0, none⟩) (Ne.symm n1) _).far (p := ⟨w6.heap.size, 1, none⟩) (Ne.symm n1) _
              have kSW : Blk W w.heap.size 25 #[.slice A n c, .slice (some ⟨b3, off3, none⟩) n2 c2] := by rw [← hW]; exact (kS9.far (p := ⟨w6.heap.size, 0, none⟩) (Ne.symm n2') _).far (p := ⟨w6.heap.size, 1, none⟩) (Ne.symm n2') _
              have hAW : SpAt W g T1 := by rw [← hW]; exact (hA9.far (p := ⟨w6.heap.size, 0, none⟩) (Ne.symm n3) _).far (p := ⟨w6.heap.size, 1, none⟩) (Ne.symm n3) _
              have hBW : Below w.heap.size w W := by rw [← hW]; exact (hB9.setCell (p := ⟨w6.heap.size, 0, none⟩) (show w.heap.size ≤ w6.heap.size by omega) _).setCell (p := ⟨w6.heap.size, 1, none⟩) (show w.heap.size ≤ w6.heap.size by omega) _
              clear kr9 kx9 kS9 hA9 hB9
              obtain ⟨ca, cb, cf, cg⟩ := hAW.cells hskl
              rw [hrr.out] at ca cb
              simp only at ca cb
              have m0 : ((((w9.setCell ⟨pb, 0, none⟩ (.int .i64 p0)).setCell ⟨pb, 1, none⟩ (.int .i64 p1)).setCell ⟨w6.heap.size, 0, none⟩ (.int .i64 X)).setCell ⟨w6.heap.size, 0 + 1, none⟩ (.int .i64 Y)).cell? ⟨wr.heap.size, 2, none⟩ = some (.int .i64 sk) := by rw [show (((w9.setCell ⟨pb, 0, none⟩ (.int .i64 p0)).setCell ⟨pb, 1, none⟩ (.int .i64 p1)).setCell ⟨w6.heap.size, 0, none⟩ (.int .i64 X)).setCell ⟨w6.heap.size, 0 + 1, none⟩ (.int .i64 Y) = W from hW]; exact kxW.cell 2
              have m1 : ((((w9.setCell ⟨pb, 0, none⟩ (.int .i64 p0)).setCell ⟨pb, 1, none⟩ (.int .i64 p1)).setCell ⟨w6.heap.size, 0, none⟩ (.int .i64 X)).setCell ⟨w6.heap.size, 0 + 1, none⟩ (.int .i64 Y)).cell? ⟨w6.heap.size, 0, none⟩ = some (.int .i64 X) := by rw [show (((w9.setCell ⟨pb, 0, none⟩ (.int .i64 p0)).setCell ⟨pb, 1, none⟩ (.int .i64 p1)).setCell ⟨w6.heap.size, 0, none⟩ (.int .i64 X)).setCell ⟨w6.heap.size, 0 + 1, none⟩ (.int .i64 Y) = W from hW]; exact krW.cell 0
              have m2 : ((((w9.setCell ⟨pb, 0, none⟩ (.int .i64 p0)).setCell ⟨pb, 1, none⟩ (.int .i64 p1)).setCell ⟨w6.heap.size, 0, none⟩ (.int .i64 X)).setCell ⟨w6.heap.size, 0 + 1, none⟩ (.int .i64 Y)).cell? ⟨w6.heap.size, 1, none⟩ = some (.int .i64 Y) := by rw [show (((w9.setCell ⟨pb, 0, none⟩ (.int .i64 p0)).setCell ⟨pb, 1, none⟩ (.int .i64 p1)).setCell ⟨w6.heap.size, 0, none⟩ (.int .i64 X)).setCell ⟨w6.heap.size, 0 + 1, none⟩ (.int .i64 Y) = W from hW]; exact krW.cell 1
              have m3 : ((((w9.setCell ⟨pb, 0, none⟩ (.int .i64 p0)).setCell ⟨pb, 1, none⟩ (.int .i64 p1)).setCell ⟨w6.heap.size, 0, none⟩ (.int .i64 X)).setCell ⟨w6.heap.size, 0 + 1, none⟩ (.int .i64 Y)).cell? ⟨g, sk * 2, none⟩ = some (.int .i64 r0) := by rw [show (((w9.setCell ⟨pb, 0, none⟩ (.int .i64 p0)).setCell ⟨pb, 1, none⟩ (.int .i64 p1)).setCell ⟨w6.heap.size, 0, none⟩ (.int .i64 X)).setCell ⟨w6.heap.size, 0 + 1, none⟩ (.int .i64 Y) = W from hW]; exact ca
              have m4 : ((((w9.setCell ⟨pb, 0, none⟩ (.int .i64 p0)).setCell ⟨pb, 1, none⟩ (.int .i64 p1)).setCell ⟨w6.heap.size, 0, none⟩ (.int .i64 X)).setCell ⟨w6.heap.size, 0 + 1, none⟩ (.int .i64 Y)).cell? ⟨g, sk * 2 + 1, none⟩ = some (.int .i64 r1) := by rw [show (((w9.setCell ⟨pb, 0, none⟩ (.int .i64 p0)).setCell ⟨pb, 1, none⟩ (.int .i64 p1)).setCell ⟨w6.heap.size, 0, none⟩ (.int .i64 X)).setCell ⟨w6.heap.size, 0 + 1, none⟩ (.int .i64 Y) = W from hW]; exact cb
              have m5 : ((((w9.setCell ⟨pb, 0, none⟩ (.int .i64 p0)).setCell ⟨pb, 1, none⟩ (.int .i64 p1)).setCell ⟨w6.heap.size, 0, none⟩ (.int .i64 X)).setCell ⟨w6.heap.size, 0 + 1, none⟩ (.int .i64 Y)).frozen? ⟨g, sk * 2, none⟩ = false := by rw [show (((w9.setCell ⟨pb, 0, none⟩ (.int .i64 p0)).setCell ⟨pb, 1, none⟩ (.int .i64 p1)).setCell ⟨w6.heap.size, 0, none⟩ (.int .i64 X)).setCell ⟨w6.heap.size, 0 + 1, none⟩ (.int .i64 Y) = W from hW]; exact cf
              have m6 : ((((w9.setCell ⟨pb, 0, none⟩ (.int .i64 p0)).setCell ⟨pb, 1, none⟩ (.int .i64 p1)).setCell ⟨w6.heap.size, 0, none⟩ (.int .i64 X)).setCell ⟨w6.heap.size, 0 + 1, none⟩ (.int .i64 Y)).frozen? ⟨g, sk * 2 + 1, none⟩ = false := by rw [show (((w9.setCell ⟨pb, 0, none⟩ (.int .i64 p0)).setCell ⟨pb, 1, none⟩ (.int .i64 p1)).setCell ⟨w6.heap.size, 0, none⟩ (.int .i64 X)).setCell ⟨w6.heap.size, 0 + 1, none⟩ (.int .i64 Y) = W from hW]; exact cg
              replace hW := hide (show (((w9.setCell ⟨pb, 0, none⟩ (.int .i64 p0)).setCell ⟨pb, 1, none⟩ (.int .i64 p1)).setCell ⟨w6.heap.size, 0, none⟩ (.int .i64 X)).setCell ⟨w6.heap.size, 0 + 1, none⟩ (.int .i64 Y) = W from hW)
              have hg0 : w.heap.size ≤ g := by omega
              have ngS : w.heap.size ≠ g := hSg
              have hAX := hide (hAW.set (x := X) (y := Y) hskl)
              have kSX := hide ((kSW.far (p := ⟨g, sk * 2, none⟩) ngS (.int .i64 X)).far (p := ⟨g, sk * 2 + 1, none⟩) ngS (.int .i64 Y))
              have hBX := hide ((hBW.setCell (p := ⟨g, sk * 2, none⟩) hg0 (.int .i64 X)).setCell (p := ⟨g, sk * 2 + 1, none⟩) hg0 (.int .i64 Y))
              clear hAW kSW hBW kxW krW ca cb cf cg
              go_wp2
              rw [hW.out]
              clear m0 m1 m2 m3 m4 m5 m6 v0 v1 v2 v3 hW
              have hTl2 : (T1.set sk (X, Y)).length = n := by rw [List.length_set]; exact hT1.out.1
              go_roundg (m - (j + 1))
              case measure => omega
              case rel =>
                refine ⟨j + 1, T1.set sk (X, Y), some ⟨g, 0, none⟩, cap, by omega, by omega, by go_num, ?_, rfl, hBX.out, kSX.out, ?_, ⟨hTl2, hT1.out.2.set sk hok2.out⟩, ?_⟩
                · rw [hlwj.out]
                · have := hAX.out.row
                  rw [hTl2] at this
                  exact this
                · unfold Hid
                  rw [hL2.out, hlwj.out]
    · have hltz : ¬ (j : Int) < (m : Int) := by omega
      obtain rfl : j = m := by omega
      have hL2 := hL.out
      rw [hlwe.out] at hL2
      rw [List.drop_of_length_le (by rw [hel.out]; exact Nat.le_refl _)] at hL2
      have hL3 : liveS S week es 0 rs = some (waitN S (week - lastW es).toNat T) := hL2
      obtain ⟨q, hq⟩ : ∃ q : Nat, (week - lastW es).toNat = q := ⟨_, rfl⟩
      rw [hq] at hL3
      rw [hlwe.out]
      rw [hlwe.out] at hnow
      have hqz : IntKind.i64.wrap (week - lastW es) = (q : Int) := by rw [IntKind.wrap_i64]; omega
      have hq200 : q ≤ 200 := by omega
      have hF1 := hide (hF.out wr Lv cv T q hB.out hr.out hT.out.2.inRs hq200)
      have hwl := hide (show (waitN S q T).length = n by rw [waitN_len]; exact hT.out.1)
      have x0' : wr.cell? ⟨w.heap.size, 0, none⟩ = some (.slice A n c) := kS.out.cell 0
      have x1' : wr.cell? ⟨w.heap.size, 1, none⟩ = some (.slice A2 n2 c2) := kS.out.cell 1
      generalize waitN S q T = T1 at *
      replace hL3 := hide hL3
      replace hL := hide hL2
      generalize lastW es = lw at *
      clear hF hr hq hL hL2
      go_wp2_with fail
      refine hF1.out.mono ?_
      rintro e w2 ⟨⟨v, rfl, hv⟩, hb⟩
      have hB2 := hide (hB.out.trans (hb.mono hB.out.size))
      replace hv := hide (own_mono hv hB.out.size)
      clear hb x0' x1'
      go_wp2
      go_ret2
      refine ⟨?_, hB2.out⟩
      rw [hL3.out]
      exact ⟨v, rfl, by rw [hwl.out]; exact hv.out⟩
end Go.Proofs.Ytkhijdbigpaagaa

/-
  The reference's Always.
-/
namespace Go.Proofs.Ytkhijdbigpaagaa
open Go.RowKit RG

theorem flatTk_len (l : List Sp) : (l.flatMap tkCells).length = l.length * 2 := by
  induction l with
  | nil => rfl
  | cons x l ih => rw [List.flatMap_cons, List.length_append, ih]; simp [tkCells]; omega
theorem flatTk_back (l : List Sp) (j : Nat) (u : Value) (h : (l.flatMap tkCells)[j]? = some u) : ((l.map tkCells)[j / 2]?.getD [])[j % 2]? = some u := by
  induction l generalizing j with
  | nil => simp at h
  | cons x l ih =>
    rw [List.flatMap_cons] at h
    by_cases hj : j < 2
    · rw [List.getElem?_append_left (by simpa [tkCells] using hj)] at h
      rw [show j / 2 = 0 by omega, show j % 2 = j by omega]
      simpa using h
    · rw [List.getElem?_append_right (by simpa [tkCells] using hj)] at h
      have := ih (j - 2) (by simpa [tkCells] using h)
      rw [show j / 2 = (j - 2) / 2 + 1 by omega, show j % 2 = (j - 2) % 2 by omega]
      simpa using this
theorem tkOne (l : List Sp) : ∀ u ∈ l.flatMap tkCells, u.oneCell' = true := by
  intro u hu
  obtain ⟨s, _, hs⟩ := List.mem_flatMap.1 hu
  simp only [tkCells, List.mem_cons, List.not_mem_nil, or_false] at hs
  rcases hs with rfl | rfl <;> rfl

set_option maxRecDepth 100000 in
set_option maxHeartbeats 4000000 in
theorem AlwaysR_any (A A2 : Option Addr) (n c n2 c2 i : Nat) (S : Sch) (x : Int) (w : World) (hnI : S.ins.length = n2) (hin : RdRow w A2 n2 3 (S.ins.map inCells)) (hi : i < n2) (h6 : n2 ≤ 6) :
    Calls Try.prog 74 #[.agg #[.slice A n c, .slice A2 n2 c2], .int .i64 i, .int .i64 x] w fun e w' => (∃ g cc, e = .returned (.agg #[.slice A n c, .slice (some ⟨g, 0, none⟩) n2 cc]) ∧ w.heap.size ≤ g ∧ n2 ≤ cc ∧ InsAt w' g (setB S i x).ins) ∧ Below w.heap.size w w' := by
  obtain ⟨i0, hi0, hz0, hz1, hz2⟩ := info_parts infoIn
  replace hi0 := hide hi0
  replace hz0 := hide hz0
  replace hz1 := hide hz1
  replace hz2 := hide hz2
  obtain ⟨b, off, rfl, hb, hc⟩ := hin.2.2 (by omega)
  replace hc := hide hc
  have hfl := hide (flatIn_len S.ins)
  have hfa := hide (flatIn_at S.ins)
  have hone := hide (inOne S.ins)
  clear hin
  obtain ⟨xs, hxs⟩ : ∃ xs, S.ins.flatMap inCells = xs := ⟨_, rfl⟩
  rw [hxs] at hfl hfa hone
  replace hxs := hide hxs
  replace hnI := hide hnI
  obtain ⟨W0, hW0⟩ : ∃ W, (w.alloc (.cells #[.slice A n c, .slice (some ⟨b, off, none⟩) n2 c2] 25)).alloc (.cells #[.slice none 0 0, .slice none 0 0] 25) = W := ⟨_, rfl⟩
  have kS := hide (show Blk W0 w.heap.size 25 #[.slice A n c, .slice (some ⟨b, off, none⟩) n2 c2] by rw [← hW0]; exact (blkNew rfl).alloc _)
  have kR := hide (show Blk W0 (w.heap.size + 1) 25 #[.slice none 0 0, .slice none 0 0] by rw [← hW0]; exact blkNew (by simp))
  have hB := hide (show Below w.heap.size w W0 by rw [← hW0]; exact ((Below.refl _ _).alloc (Nat.le_refl _) _).alloc (by simp) _)
  have hsz := hide (show W0.heap.size = w.heap.size + 2 by rw [← hW0]; simp)
  have hmade := hide (show (W0.alloc (.cells #[] 81)).ownsRow W0.heap.size 81 3 (.slice (some ⟨w.heap.size + 1 + 1, 0, none⟩) 0 0) 0 [] by
    rw [show w.heap.size + 1 + 1 = W0.heap.size by rw [hsz.out]]; exact World.ownsRow_made W0 #[] 0 (Nat.le_refl _) (Nat.zero_le _) rfl)
  have s1 : W0.cell? ⟨w.heap.size, 1, none⟩ = some (.slice (some ⟨b, off, none⟩) n2 c2) := kS.out.cell 1
  rw [← hW0] at s1
  replace hW0 := hide hW0
  go_enter Try.func74, Try.ntmps74
  go_wp2_with (at_builtin; rw [hW0.out]; refine wpList_append_own _ rfl _ _ 23 rfl W0.heap.size 81 i0 _ 3 32 Try.underlying23 hi0.out hz0.out hz1.out hz2.out rfl (by decide) _ _ _ rfl hmade.out ⟨b, off, none⟩ n2 c2 xs rfl ?qc1 ?qc2 ?qc3 ?qc4 ?qc5 ?qc6 ?_)
  case qc1 => rw [hfl.out, hnI.out]
  case qc2 =>
    intro j u hj
    have hx := hfa.out j u hj
    rw [Addr.add_lit]
    refine Lib.cell?_alloc_some _ ?_
    have hjm := Nat.div_add_mod j 3
    have := hc.out (j / 3) (j % 3) u hx
    rw [show off + j / 3 * 3 + j % 3 = off + j by omega] at this
    exact (cellB hB.out hb).trans this
  case qc3 => exact hone.out
  case qc4 => unfold maxLen; omega
  case qc5 => omega
  case qc6 => simp
  intro v' w1 hown hgrow _
  clear hmade
  have hown2 : w1.ownsRow W0.heap.size 81 3 v' n2 (S.ins.flatMap inCells) := by rw [hxs.out]; simpa using hown
  have hB1 := hide (((Below.refl W0.heap.size W0).alloc (Nat.le_refl _) (.cells #[] 81)).grown hgrow (by simp) (by intro k hk; simp [Value.ownBlock] at hk; have := hsz.out; omega))
  obtain ⟨g, cc, rfl, hg, hgc, hI⟩ := insAt_own hown2 hnI.out (by omega)
  have kS1 := hide (kS.out.below hB1.out kS.out.lt)
  have kR1 := hide (kR.out.below hB1.out kR.out.lt)
  have hB2 := hide (hB.out.trans (hB1.out.mono hB.out.size))
  have hsz' := hsz.out
  clear hown hown2 hgrow s1 hW0 kS kR hB hB1 hfl hfa hone hxs hc
  have hi2 : i < S.ins.length := by rw [hnI.out]; exact hi
  obtain ⟨cur, hgb, hgs, hgt⟩ := id hI
  rw [hnI.out] at hgs
  obtain ⟨u1, z1⟩ : ∃ u, w1.cell? ⟨g, i * 3 + 1, none⟩ = some u := by rw [hgb.cell]; exact ⟨_, Array.getElem?_eq_getElem (by omega)⟩
  obtain ⟨u2, z2⟩ : ∃ u, w1.cell? ⟨g, i * 3 + 2, none⟩ = some u := by rw [hgb.cell]; exact ⟨_, Array.getElem?_eq_getElem (by omega)⟩
  have f1 : w1.frozen? ⟨g, i * 3 + 1, none⟩ = false := hgb.frozen _
  have f2 : w1.frozen? ⟨g, i * 3 + 2, none⟩ = false := hgb.frozen _
  have hiz : (i : Int) < (n2 : Int) := by omega
  have ng1 : w.heap.size ≠ g := by omega
  have ng2 : w.heap.size + 1 ≠ g := by omega
  have ng0 : w.heap.size ≤ g := by omega
  obtain ⟨W2, hW2⟩ : ∃ W, (w1.setCell ⟨g, i * 3 + 1, none⟩ (.int .i64 x)).setCell ⟨g, i * 3 + 2, none⟩ (.int .i64 x) = W := ⟨_, rfl⟩
  have hI2 := hide (show InsAt W2 g (setB S i x).ins by rw [← hW2]; exact hI.set hi2 rfl)
  have kS2 := hide (show Blk W2 w.heap.size 25 #[.slice A n c, .slice (some ⟨b, off, none⟩) n2 c2] by rw [← hW2]; exact (kS1.out.far (p := ⟨g, i * 3 + 1, none⟩) ng1 _).far (p := ⟨g, i * 3 + 2, none⟩) ng1 _)
  have kR2 := hide (show Blk W2 (w.heap.size + 1) 25 #[.slice none 0 0, .slice none 0 0] by rw [← hW2]; exact (kR1.out.far (p := ⟨g, i * 3 + 1, none⟩) ng2 _).far (p := ⟨g, i * 3 + 2, none⟩) ng2 _)
  have hB3 := hide (show Below w.heap.size w W2 by rw [← hW2]; exact (hB2.out.setCell (p := ⟨g, i * 3 + 1, none⟩) ng0 _).setCell (p := ⟨g, i * 3 + 2, none⟩) ng0 _)
  have t0 : ((w1.setCell ⟨g, i * 3 + 1, none⟩ (.int .i64 x)).setCell ⟨g, i * 3 + 1 + 1, none⟩ (.int .i64 x)).cell? ⟨w.heap.size, 0, none⟩ = some (.slice A n c) := by rw [show (w1.setCell ⟨g, i * 3 + 1, none⟩ (.int .i64 x)).setCell ⟨g, i * 3 + 1 + 1, none⟩ (.int .i64 x) = W2 from hW2]; exact kS2.out.cell 0
  have t1 : ((w1.setCell ⟨g, i * 3 + 1, none⟩ (.int .i64 x)).setCell ⟨g, i * 3 + 1 + 1, none⟩ (.int .i64 x)).cell? ⟨w.heap.size + 1, 0, none⟩ = some (.slice none 0 0) := by rw [show (w1.setCell ⟨g, i * 3 + 1, none⟩ (.int .i64 x)).setCell ⟨g, i * 3 + 1 + 1, none⟩ (.int .i64 x) = W2 from hW2]; exact kR2.out.cell 0
  have t2 : ((w1.setCell ⟨g, i * 3 + 1, none⟩ (.int .i64 x)).setCell ⟨g, i * 3 + 1 + 1, none⟩ (.int .i64 x)).cell? ⟨w.heap.size + 1, 1, none⟩ = some (.slice none 0 0) := by rw [show (w1.setCell ⟨g, i * 3 + 1, none⟩ (.int .i64 x)).setCell ⟨g, i * 3 + 1 + 1, none⟩ (.int .i64 x) = W2 from hW2]; exact kR2.out.cell 1
  have t3 : ((w1.setCell ⟨g, i * 3 + 1, none⟩ (.int .i64 x)).setCell ⟨g, i * 3 + 1 + 1, none⟩ (.int .i64 x)).frozen? ⟨w.heap.size + 1, 0, none⟩ = false := by rw [show (w1.setCell ⟨g, i * 3 + 1, none⟩ (.int .i64 x)).setCell ⟨g, i * 3 + 1 + 1, none⟩ (.int .i64 x) = W2 from hW2]; exact kR2.out.frozen 0
  have t4 : ((w1.setCell ⟨g, i * 3 + 1, none⟩ (.int .i64 x)).setCell ⟨g, i * 3 + 1 + 1, none⟩ (.int .i64 x)).frozen? ⟨w.heap.size + 1, 1, none⟩ = false := by rw [show (w1.setCell ⟨g, i * 3 + 1, none⟩ (.int .i64 x)).setCell ⟨g, i * 3 + 1 + 1, none⟩ (.int .i64 x) = W2 from hW2]; exact kR2.out.frozen 1
  replace hW2 := hide (show (w1.setCell ⟨g, i * 3 + 1, none⟩ (.int .i64 x)).setCell ⟨g, i * 3 + 1 + 1, none⟩ (.int .i64 x) = W2 from hW2)
  replace hnI := hide hnI.out
  have hRn := (kR2.out.set_ 0 (.slice A n c)).set_ 1 (.slice (some ⟨g, 0, none⟩) n2 cc)
  have e0' := (hRn.cell 0).trans (show _ = some (Value.slice A n c) by simp)
  have e1' := (hRn.cell 1).trans (show _ = some (Value.slice (some ⟨g, 0, none⟩) n2 cc) by simp)
  have hI3 := hide ((hI2.out.blk (Below.heap_setCell W2 ⟨w.heap.size + 1, 0, none⟩ (.slice A n c) g (Ne.symm ng2))).blk (Below.heap_setCell _ ⟨w.heap.size + 1, 1, none⟩ (.slice (some ⟨g, 0, none⟩) n2 cc) g (Ne.symm ng2)))
  clear kS1 kR1 hB2 hI hgb hgs hgt kS2 kR2 hI2 hRn
  replace e0' := hide e0'
  replace e1' := hide e1'
  go_wp2
  rw [hW2.out]
  have e0'' := e0'.out
  have e1'' := e1'.out
  refine bodyPost_ret (v := .agg #[.slice A n c, .slice (some ⟨g, 0, none⟩) n2 cc]) (by simp [results, Try.results74, go_sem, e0'', e1'']) rfl ⟨⟨g, cc, rfl, by omega, hgc, hI3.out⟩, ?_⟩
  exact (hB3.out.setCell (by simp) _).setCell (by simp) _
end Go.Proofs.Ytkhijdbigpaagaa

/-
  The reference's After.
-/
namespace Go.Proofs.Ytkhijdbigpaagaa
open Go.RowKit RG

/-- What the reference's after answers, as a pair. -/
def RefPair (base : Nat) (q : Option (List Sp)) : Value → World → Prop := fun v w => match q with
  | none => v = .tuple #[.slice none 0 0, .bool false]
  | some T => ∃ x, v = .tuple #[x, .bool true] ∧ w.ownsRow base 32 2 x T.length (T.flatMap tkCells)
theorem RefPair.stb (base : Nat) (q : Option (List Sp)) : Stb (RefPair base q) := by
  intro v w w' hb h
  cases q with
  | none => exact h
  | some T => obtain ⟨x, e, h⟩ := h; exact ⟨x, e, own_below h hb⟩
theorem RefPair.mono {base base' : Nat} {q : Option (List Sp)} {v : Value} {w : World} (h : RefPair base q v w) (hb : base' ≤ base) : RefPair base' q v w := by
  cases q with
  | none => exact h
  | some T => obtain ⟨x, e, h⟩ := h; exact ⟨x, e, own_mono h hb⟩
def RefFst (base : Nat) (q : Option (List Sp)) : Value → World → Prop := fun v w => match q with
  | none => v = .slice none 0 0
  | some T => w.ownsRow base 32 2 v T.length (T.flatMap tkCells)
theorem RefFst.stb (base : Nat) (q : Option (List Sp)) : Stb (RefFst base q) := by
  intro v w w' hb h
  cases q with
  | none => exact h
  | some T => exact own_below h hb
theorem refLived_pair {base : Nat} {q : Option (List Sp)} {e : Ending} {w : World} (h : RefLived base q e w) : ∃ v, e = .returned v ∧ RefPair base q v w := by
  cases q with
  | none => exact ⟨_, h, rfl⟩
  | some T => obtain ⟨x, e, h⟩ := h; exact ⟨_, e, x, rfl, h⟩

set_option maxRecDepth 100000 in
set_option maxHeartbeats 8000000 in
theorem AfterR_any (v : Value) (S : Sch) (L E : Option Addr) (k cl m ce : Nat) (rs : List Sp) (es : List Ev) (week : Int) (w : World) (h : RdSch w v S) (hls : RdRow w L k 2 (rs.map tkCells)) (hk : k ≤ maxLen)
    (hes : RdRow w E m 5 (es.map evCells)) (hm : m ≤ maxLen) :
    Calls Try.prog 26 #[v, .slice L k cl, .slice E m ce, .int .i64 week] w fun e w' => AfterR (afterF S rs es week) e w' ∧ Below w.heap.size w w' := by
  have hT := hide (fun W (hb : Below w.heap.size w W) => historyR_any v S L E k cl m ce rs es W (h.below hb) (hls.below hb) hk (hes.below hb) hm)
  have hsB := hide (fun W (hb : Below w.heap.size w W) => hls.below hb)
  have heB := hide (fun W (hb : Below w.heap.size w W) => hes.below hb)
  obtain ⟨A, c, A2, c2, rfl, hsk, -, -, -, hin, -⟩ := h
  have hel : es.length = m := by have := hes.1; simpa using this
  have hrl : rs.length = k := by have := hls.1; simpa using this
  have hH := hide (fun (h0 : histE S rs es = 0) (hwk : lastW es ≤ week ∧ week ≤ 200) W (Lv : Option Addr) (cv : Nat) (hb : Below w.heap.size w W) (hr : RdRow W Lv S.sks.length 2 (rs.map tkCells)) => afterR_any A A2 Lv E S.sks.length c S.ins.length c2 cv m ce S rs es week W rfl rfl (hsk.below hb) (hin.below hb) hr (hes.below hb) (hist_ok h0).1 (hist_ok h0).2.1 (hist_ok h0).2.2 hwk)
  have hkn := hide (fun (h0 : histE S rs es = 0) => show k = S.sks.length ∧ 1 ≤ k ∧ k ≤ 5 by
    have h1 := (ranges_ok (hist_ok h0).2.1).1
    have h2 := check_ok (hist_ok h0).1
    omega)
  obtain ⟨r, hr⟩ : ∃ r, afterF S rs es week = r := ⟨_, rfl⟩
  rw [hr]
  unfold afterF at hr
  have hlw : lastW es = if m = 0 then 0 else (es[m - 1]?.getD default).a := by unfold lastW; rw [hel]
  have hlx := hide (fun (hm0 : 0 < m) => map_at evCells es (m - 1) (by omega))
  have hmb := hide hm
  generalize lastW es = lw at *
  generalize liveS S week es 0 rs = q at *
  generalize histE S rs es = g at *
  generalize S.sks.length = n at *
  generalize S.ins.length = n2 at *
  clear hls hes hk hm hsk hin
  replace hel := hide hel
  replace hrl := hide hrl
  replace hlw := hide hlw
  have hB0 := hide (show Below w.heap.size w (w.alloc (.cells #[.slice A n c, .slice A2 n2 c2] 25)) from (Below.refl _ _).alloc (Nat.le_refl _) _)
  have k0 := hide (show Blk (w.alloc (.cells #[.slice A n c, .slice A2 n2 c2] 25)) w.heap.size 25 #[.slice A n c, .slice A2 n2 c2] from (blkNew rfl))
  have s0 : (w.alloc (.cells #[.slice A n c, .slice A2 n2 c2] 25)).cell? ⟨w.heap.size, 0, none⟩ = some (.slice A n c) := k0.out.cell 0
  have s1 : (w.alloc (.cells #[.slice A n c, .slice A2 n2 c2] 25)).cell? ⟨w.heap.size, 1, none⟩ = some (.slice A2 n2 c2) := k0.out.cell 1
  replace hr := hide hr
  go_enter Try.func26, Try.ntmps26
  go_wp2_with fail
  refine (hT.out _ hB0.out).mono ?_
  rintro e w1 ⟨rfl, hb1⟩
  have hB1 := hide (hB0.out.trans (hb1.mono (by simp +arith)))
  have k1 := hide (k0.out.below hb1 k0.out.lt)
  clear hb1 hB0 k0 hT s0 s1
  by_cases hg : g = 0
  · subst hg
    have hr1 := hr.out
    rw [if_pos rfl] at hr1
    replace hr1 := hide hr1
    clear hr
    replace hH := hide (hH.out rfl)
    replace hkn := hide (hkn.out rfl)
    go_wp2_with fail
    refine (inRef_any week 0 200 _).mono ?_
    rintro e w3 ⟨rfl, rfl⟩
    cases hq : inB 0 200 week with
    | false =>
      have hr := hr1.out
      rw [hq, if_neg (by simp)] at hr
      subst hr
      clear hq hH
      go_wp2
      go_ret2
      exact ⟨⟨_, rfl, isSpans_nil _⟩, hB1.out⟩
    | true =>
      have hr := hr1.out
      rw [hq, if_pos rfl] at hr
      have hwb := inB_iff.1 hq
      clear hq hr1
      by_cases hm0 : m = 0
      · subst hm0
        have hlt : ¬ week < lw := by have h := hlw.out; rw [if_pos rfl] at h; omega
        rw [if_neg hlt] at hr
        replace hr := hide hr
        obtain ⟨hkn1, hk1, hk5⟩ := hkn.out
        subst hkn1
        replace hH := hide (fun W (Lv : Option Addr) (cv : Nat) (hb : Below w.heap.size w W) (hrow : RdRow W Lv k 2 (rs.map tkCells)) => hH.out ⟨by omega, hwb.2⟩ W Lv cv hb hrow)
        have hrr := hsB.out w1 hB1.out
        obtain ⟨b0, off0, rfl, hb0, hc0⟩ := hrr.2.2 (by omega)
        replace hc0 := hide hc0
        have hfl := hide (flatTk_len rs)
        have hfa := hide (flatTk_back rs)
        have hone := hide (tkOne rs)
        obtain ⟨xs, hxs⟩ : ∃ xs, rs.flatMap tkCells = xs := ⟨_, rfl⟩
        rw [hxs] at hfl hfa hone
        replace hxs := hide hxs
        obtain ⟨i0, hi0, hz0, hz1, hz2⟩ := info_parts infoSp
        replace hi0 := hide hi0
        replace hz0 := hide hz0
        replace hz1 := hide hz1
        replace hz2 := hide hz2
        clear hrr hsB
        have hs1 := hB1.out.size
        replace hlt := hide hlt
        go_wp2
        replace hwb := hide hwb
        replace hlw := hide hlw.out
        clear hlx
        refine region_grow [IsV (.agg #[.slice A k c, .slice A2 n2 c2]), (fun v _ => ∃ a, v = .slice (some a) 0 0), IsV (.slice (some ⟨b0, off0, none⟩) k cl), OwnSp w1.heap.size k rs, IsV (.slice E 0 ce), IsV (.int .i64 week), RefPair w1.heap.size q, RefPair w1.heap.size q, RefFst w1.heap.size q, IsV (.bool q.isSome), RefFst w1.heap.size q, IsV (.bool q.isSome)] (by kernel_rfl) (by kernel_rfl) rfl ?_ ?_ ?_
        · simp only [AllStb, IsV.stb, OwnSp.stb, RefPair.stb, RefFst.stb, and_true, true_and]
          exact fun _ _ _ _ h => h
        · refine ⟨?_, ?_, ?_, ?_, ?_, ?_, ?_, ?_, ?_, ?_, ?_, ?_, trivial⟩
          all_goals
            intro y w6 K Qq Cv hC hd hV
            have k6 := k1.out.below hC k1.out.lt
            have q0 : w6.cell? ⟨w.heap.size, 0, none⟩ = some (.slice A k c) := k6.cell 0
            have q1 : w6.cell? ⟨w.heap.size, 1, none⟩ = some (.slice A2 n2 c2) := k6.cell 1
            replace k6 := hide k6
          all_goals try (simp [deps, VL, IsV, Region.binds] at hd)
          · simp only [putAll, Act.put]; go_simp; intro hK; exact hK _ _ (hV _ _ hC (Below.refl _ _) rfl)
          · simp only [putAll, Act.put]; go_simp; intro hK; exact hK _ _ (hV _ _ (hC.alloc hC.size _) ((Below.refl _ _).alloc (Nat.le_refl _) _) ⟨_, rfl⟩)
          · simp only [putAll, Act.put]; go_simp; intro hK; exact hK _ _ (hV _ _ hC (Below.refl _ _) rfl)
          · obtain ⟨⟨a, e2⟩, e4⟩ := hd
            intro hK
            refine step_append_grows rfl (.tmp 47) (.tmp 48) 37 rfl 32 i0 _ 2 16 Try.underlying37 hi0.out hz0.out hz1.out hz2.out rfl (by decide) (some a) 0 0 [] (by simp only [putAll, Act.put]; go_simp; try exact e2) (by simp) rfl (by simp) ⟨b0, off0, none⟩ k cl xs (by simp only [putAll, Act.put]; go_simp; try exact e4) ?n1 ?n2 hone.out (by omega) ?n3 ?n4 ?_
            case n1 => rw [hfl.out, hrl.out]
            case n2 =>
              intro j u hj
              have hx := hfa.out j u hj
              rw [Addr.add_lit]
              have := hc0.out (j / 2) (j % 2) u hx
              rw [show off0 + j / 2 * 2 + j % 2 = off0 + j by omega] at this
              exact (cellB hC hb0).trans this
            case n3 => unfold maxLen; omega
            case n4 => omega
            intro v' w' hown hgrow
            rw [Nat.zero_add, List.nil_append, ← hxs.out] at hown
            have hb7 : Below w6.heap.size w6 w' := (Below.refl _ w6).grown hgrow (Nat.le_refl _) (by intro k hk; cases hk)
            exact hK _ _ (hV _ _ (hC.trans (hb7.mono hC.size)) hb7 (own_mono hown hC.size))
          · simp only [putAll, Act.put]; go_simp; intro hK; exact hK _ _ (hV _ _ hC (Below.refl _ _) rfl)
          · simp only [putAll, Act.put]; go_simp; intro hK; exact hK _ _ (hV _ _ hC (Below.refl _ _) rfl)
          · obtain ⟨e0, e3, e4, e5⟩ := hd
            obtain ⟨gg, gc, e3', -, -, hA⟩ := spAt_own e3 hrl.out hk1
            have hrow := hA.row
            rw [hrl.out] at hrow
            simp only [putAll, Act.put]; go_simp; intro hK
            refine (hH.out w6 _ gc (hB1.out.trans (hC.mono hs1)) hrow).mono ?_
            rintro e w7 ⟨hl, hb7⟩
            obtain ⟨vv, rfl, hp⟩ := refLived_pair hl
            exact hK _ _ (hV _ _ (hC.trans (hb7.mono hC.size)) hb7 (hp.mono hC.size))
          · have hd0 := hd
            simp only [putAll, Act.put]; go_simp; intro hK; exact hK _ _ (hV _ _ hC (Below.refl _ _) hd0)
          · have hd0 := hd
            cases q with
            | none =>
              have e0 : y 7 = .tuple #[.slice none 0 0, .bool false] := hd0
              simp only [putAll, Act.put]; go_simp; intro hK; exact hK _ _ (hV _ _ hC (Below.refl _ _) rfl)
            | some T =>
              obtain ⟨x, e0, hx⟩ := hd0
              simp only [putAll, Act.put]; go_simp; intro hK; exact hK _ _ (hV _ _ hC (Below.refl _ _) hx)
          · have hd0 := hd
            cases q with
            | none =>
              have e0 : y 7 = .tuple #[.slice none 0 0, .bool false] := hd0
              simp only [putAll, Act.put]; go_simp; intro hK; exact hK _ _ (hV _ _ hC (Below.refl _ _) rfl)
            | some T =>
              obtain ⟨x, e0, hx⟩ := hd0
              simp only [putAll, Act.put]; go_simp; intro hK; exact hK _ _ (hV _ _ hC (Below.refl _ _) rfl)
          · have hd0 := hd.1
            simp only [putAll, Act.put]; go_simp; intro hK; exact hK _ _ (hV _ _ hC (Below.refl _ _) hd0)
          · simp only [putAll, Act.put]; go_simp; intro hK; exact hK _ _ (hV _ _ hC (Below.refl _ _) rfl)
        · intro y w6 hC hd
          simp [EndsL, IsV] at hd
          obtain ⟨d0, d1, d2, d3, d4, d5, d6, d7, d8, d9, d10, d11⟩ := hd
          simp only [putAll, Act.put]
          rw [d11]
          clear d0 d1 d2 d3 d4 d5 d6 d7 d8 d9 d11
          simp only [List.setIfInBounds_toArray, List.set_cons_succ, List.set_cons_zero]
          have hB6 := hide (hB1.out.trans (hC.mono hs1))
          have hrr := hr.out
          clear hC hr hH hlw hc0 hfl hfa hone hxs
          cases q with
          | none =>
            simp only [Option.isSome_none]
            subst hrr
            go_wp2
            go_ret2
            exact ⟨⟨_, rfl, isSpans_nil _⟩, hB6.out⟩
          | some T =>
            simp only [Option.isSome_some]
            subst hrr
            have hsp := hide (isSpans_of_own d10)
            clear d10
            go_wp2
            go_ret2
            exact ⟨⟨_, rfl, hsp.out⟩, hB6.out⟩
      · have hm1 : 0 < m := by omega
        have hmz : (0 : Int) < (m : Int) := by omega
        have hlw1 := hlw.out
        rw [if_neg hm0] at hlw1
        obtain ⟨b, off, x0, x1, x2, x3, x4, rfl, hb, hx, e0, e1, e2, e3, e4⟩ := (heB.out w1 hB1.out).cells5 (show m - 1 < m by omega)
        rw [hlx.out hm1] at hx
        unfold evCells at hx
        simp only [List.cons.injEq, and_true] at hx
        obtain ⟨rfl, rfl, rfl, rfl, rfl⟩ := hx
        rw [← hlw1] at e0
        have hw1 : IntKind.i64.wrap ((m : Int) - 1) = ((m - 1 : Nat) : Int) := by have := hmb.out; unfold maxLen at this; rw [IntKind.wrap_i64]; omega
        have hmz2 : ((m - 1 : Nat) : Int) < (m : Int) := by omega
        clear e1 e2 e3 e4 hlw1
        replace hm0 := hide hm0
        by_cases hlt : week < lw
        · rw [if_pos hlt] at hr
          have hd1 : decide (week < lw) = true := decide_eq_true hlt
          replace hlt := hide hlt
          subst hr
          have hg0 : (2 : Int) = 2 := rfl
          clear hH hkn hlw
          go_wp2
          go_ret2
          exact ⟨⟨_, rfl, isSpans_nil _⟩, hB1.out⟩
        · rw [if_neg hlt] at hr
          have hd1 : decide (week < lw) = false := decide_eq_false hlt
          replace hr := hide hr
          obtain ⟨hkn1, hk1, hk5⟩ := hkn.out
          subst hkn1
          replace hH := hide (fun W (Lv : Option Addr) (cv : Nat) (hb : Below w.heap.size w W) (hrow : RdRow W Lv k 2 (rs.map tkCells)) => hH.out ⟨by omega, hwb.2⟩ W Lv cv hb hrow)
          have hrr := hsB.out w1 hB1.out
          obtain ⟨b0, off0, rfl, hb0, hc0⟩ := hrr.2.2 (by omega)
          replace hc0 := hide hc0
          have hfl := hide (flatTk_len rs)
          have hfa := hide (flatTk_back rs)
          have hone := hide (tkOne rs)
          obtain ⟨xs, hxs⟩ : ∃ xs, rs.flatMap tkCells = xs := ⟨_, rfl⟩
          rw [hxs] at hfl hfa hone
          replace hxs := hide hxs
          obtain ⟨i0, hi0, hz0, hz1, hz2⟩ := info_parts infoSp
          replace hi0 := hide hi0
          replace hz0 := hide hz0
          replace hz1 := hide hz1
          replace hz2 := hide hz2
          clear hrr hsB
          have hs1 := hB1.out.size
          replace hlt := hide hlt
          go_wp2
          clear e0 hd1
          replace hwb := hide hwb
          replace hlw := hide hlw.out
          clear hlx
          refine region_grow [IsV (.agg #[.slice A k c, .slice A2 n2 c2]), (fun v _ => ∃ a, v = .slice (some a) 0 0), IsV (.slice (some ⟨b0, off0, none⟩) k cl), OwnSp w1.heap.size k rs, IsV (.slice (some ⟨b, off, none⟩) m ce), IsV (.int .i64 week), RefPair w1.heap.size q, RefPair w1.heap.size q, RefFst w1.heap.size q, IsV (.bool q.isSome), RefFst w1.heap.size q, IsV (.bool q.isSome)] (by kernel_rfl) (by kernel_rfl) rfl ?_ ?_ ?_
          · simp only [AllStb, IsV.stb, OwnSp.stb, RefPair.stb, RefFst.stb, and_true, true_and]
            exact fun _ _ _ _ h => h
          · refine ⟨?_, ?_, ?_, ?_, ?_, ?_, ?_, ?_, ?_, ?_, ?_, ?_, trivial⟩
            all_goals
              intro y w6 K Qq Cv hC hd hV
              have k6 := k1.out.below hC k1.out.lt
              have q0 : w6.cell? ⟨w.heap.size, 0, none⟩ = some (.slice A k c) := k6.cell 0
              have q1 : w6.cell? ⟨w.heap.size, 1, none⟩ = some (.slice A2 n2 c2) := k6.cell 1
              replace k6 := hide k6
            all_goals try (simp [deps, VL, IsV, Region.binds] at hd)
            · simp only [putAll, Act.put]; go_simp; intro hK; exact hK _ _ (hV _ _ hC (Below.refl _ _) rfl)
            · simp only [putAll, Act.put]; go_simp; intro hK; exact hK _ _ (hV _ _ (hC.alloc hC.size _) ((Below.refl _ _).alloc (Nat.le_refl _) _) ⟨_, rfl⟩)
            · simp only [putAll, Act.put]; go_simp; intro hK; exact hK _ _ (hV _ _ hC (Below.refl _ _) rfl)
            · obtain ⟨⟨a, e2⟩, e4⟩ := hd
              intro hK
              refine step_append_grows rfl (.tmp 47) (.tmp 48) 37 rfl 32 i0 _ 2 16 Try.underlying37 hi0.out hz0.out hz1.out hz2.out rfl (by decide) (some a) 0 0 [] (by simp only [putAll, Act.put]; go_simp; try exact e2) (by simp) rfl (by simp) ⟨b0, off0, none⟩ k cl xs (by simp only [putAll, Act.put]; go_simp; try exact e4) ?n1 ?n2 hone.out (by omega) ?n3 ?n4 ?_
              case n1 => rw [hfl.out, hrl.out]
              case n2 =>
                intro j u hj
                have hx := hfa.out j u hj
                rw [Addr.add_lit]
                have := hc0.out (j / 2) (j % 2) u hx
                rw [show off0 + j / 2 * 2 + j % 2 = off0 + j by omega] at this
                exact (cellB hC hb0).trans this
              case n3 => unfold maxLen; omega
              case n4 => omega
              intro v' w' hown hgrow
              rw [Nat.zero_add, List.nil_append, ← hxs.out] at hown
              have hb7 : Below w6.heap.size w6 w' := (Below.refl _ w6).grown hgrow (Nat.le_refl _) (by intro k hk; cases hk)
              exact hK _ _ (hV _ _ (hC.trans (hb7.mono hC.size)) hb7 (own_mono hown hC.size))
            · simp only [putAll, Act.put]; go_simp; intro hK; exact hK _ _ (hV _ _ hC (Below.refl _ _) rfl)
            · simp only [putAll, Act.put]; go_simp; intro hK; exact hK _ _ (hV _ _ hC (Below.refl _ _) rfl)
            · obtain ⟨e0, e3, e4, e5⟩ := hd
              obtain ⟨gg, gc, e3', -, -, hA⟩ := spAt_own e3 hrl.out hk1
              have hrow := hA.row
              rw [hrl.out] at hrow
              simp only [putAll, Act.put]; go_simp; intro hK
              refine (hH.out w6 _ gc (hB1.out.trans (hC.mono hs1)) hrow).mono ?_
              rintro e w7 ⟨hl, hb7⟩
              obtain ⟨vv, rfl, hp⟩ := refLived_pair hl
              exact hK _ _ (hV _ _ (hC.trans (hb7.mono hC.size)) hb7 (hp.mono hC.size))
            · have hd0 := hd
              simp only [putAll, Act.put]; go_simp; intro hK; exact hK _ _ (hV _ _ hC (Below.refl _ _) hd0)
            · have hd0 := hd
              cases q with
              | none =>
                have e0 : y 7 = .tuple #[.slice none 0 0, .bool false] := hd0
                simp only [putAll, Act.put]; go_simp; intro hK; exact hK _ _ (hV _ _ hC (Below.refl _ _) rfl)
              | some T =>
                obtain ⟨x, e0, hx⟩ := hd0
                simp only [putAll, Act.put]; go_simp; intro hK; exact hK _ _ (hV _ _ hC (Below.refl _ _) hx)
            · have hd0 := hd
              cases q with
              | none =>
                have e0 : y 7 = .tuple #[.slice none 0 0, .bool false] := hd0
                simp only [putAll, Act.put]; go_simp; intro hK; exact hK _ _ (hV _ _ hC (Below.refl _ _) rfl)
              | some T =>
                obtain ⟨x, e0, hx⟩ := hd0
                simp only [putAll, Act.put]; go_simp; intro hK; exact hK _ _ (hV _ _ hC (Below.refl _ _) rfl)
            · have hd0 := hd.1
              simp only [putAll, Act.put]; go_simp; intro hK; exact hK _ _ (hV _ _ hC (Below.refl _ _) hd0)
            · simp only [putAll, Act.put]; go_simp; intro hK; exact hK _ _ (hV _ _ hC (Below.refl _ _) rfl)
          · intro y w6 hC hd
            simp [EndsL, IsV] at hd
            obtain ⟨d0, d1, d2, d3, d4, d5, d6, d7, d8, d9, d10, d11⟩ := hd
            simp only [putAll, Act.put]
            rw [d11]
            clear d0 d1 d2 d3 d4 d5 d6 d7 d8 d9 d11
            simp only [List.setIfInBounds_toArray, List.set_cons_succ, List.set_cons_zero]
            have hB6 := hide (hB1.out.trans (hC.mono hs1))
            have hrr := hr.out
            clear hC hr hH hlw hc0 hfl hfa hone hxs
            cases q with
            | none =>
              simp only [Option.isSome_none]
              subst hrr
              go_wp2
              go_ret2
              exact ⟨⟨_, rfl, isSpans_nil _⟩, hB6.out⟩
            | some T =>
              simp only [Option.isSome_some]
              subst hrr
              have hsp := hide (isSpans_of_own d10)
              clear d10
              go_wp2
              go_ret2
              exact ⟨⟨_, rfl, hsp.out⟩, hB6.out⟩
  · have hr1 := hr.out
    rw [if_neg hg] at hr1
    subst hr1
    have hb1 : (g == 0) = false := by rw [beq_eq_false_iff_ne]; exact hg
    have hb2 : (g != 0) = true := by rw [bne_iff_ne]; exact hg
    replace hg := hide hg
    clear hr hH
    go_wp2
    go_ret2
    exact ⟨⟨_, rfl, isSpans_nil _⟩, hB1.out⟩
end Go.Proofs.Ytkhijdbigpaagaa

/-
  The reference's Severity.
-/
namespace Go.Proofs.Ytkhijdbigpaagaa
open Go.RowKit RG

theorem firstUp_eq {p : Int → Bool} {a : Int} (ha : p a = true) : ∀ (n : Nat) (lo : Int), lo ≤ a → a < lo + n → (∀ x, lo ≤ x → x < a → p x = false) → firstUp p n lo = a
  | 0, lo, h1, h2, _ => by omega
  | n + 1, lo, h1, h2, h3 => by
    unfold firstUp
    by_cases e : lo = a
    · subst e; rw [if_pos ha]
    · rw [if_neg (by rw [h3 lo (Int.le_refl _) (by omega)]; simp)]
      exact firstUp_eq ha n (lo + 1) (by omega) (by omega) (fun x h4 h5 => h3 x (by omega) h5)
theorem firstUp_all {p : Int → Bool} : ∀ (n : Nat) (lo : Int), (∀ x, lo ≤ x → x < lo + n → p x = false) → firstUp p n lo = lo + n
  | 0, lo, _ => by simp [firstUp]
  | n + 1, lo, h => by
    unfold firstUp
    rw [if_neg (by rw [h lo (Int.le_refl _) (by omega)]; simp), firstUp_all n (lo + 1) (fun x h4 h5 => h x (by omega) (by omega))]
    omega
theorem lastDown_eq {p : Int → Bool} {a : Int} (ha : p a = true) : ∀ (n : Nat) (hi : Int), a ≤ hi → hi < a + n → (∀ x, a < x → x ≤ hi → p x = false) → lastDown p n hi = a
  | 0, hi, h1, h2, _ => by omega
  | n + 1, hi, h1, h2, h3 => by
    unfold lastDown
    by_cases e : hi = a
    · subst e; rw [if_pos ha]
    · rw [if_neg (by rw [h3 hi (by omega) (Int.le_refl _)]; simp)]
      exact lastDown_eq ha n (hi - 1) (by omega) (by omega) (fun x h4 h5 => h3 x h4 (by omega))
/-- What is found among the numbers from lo on and below b. -/
def InvS (p : Int → Bool) (lo b : Int) (fd : Bool) (a z : Int) : Prop :=
  (fd = false → ∀ x, lo ≤ x → x < b → p x = false) ∧ (fd = true → lo ≤ a ∧ a ≤ z ∧ z < b ∧ p a = true ∧ p z = true ∧ (∀ x, lo ≤ x → x < a → p x = false) ∧ ∀ x, z < x → x < b → p x = false)
theorem invS_0 (p : Int → Bool) (lo a z : Int) : InvS p lo lo false a z := ⟨fun _ x h1 h2 => by omega, fun h => by cases h⟩
theorem invS_no {p : Int → Bool} {lo b a z : Int} {fd : Bool} (h : InvS p lo b fd a z) (hb : p b = false) : InvS p lo (b + 1) fd a z := by
  refine ⟨fun hf x h1 h2 => ?_, fun hf => ?_⟩
  · by_cases e : x = b
    · subst e; exact hb
    · exact h.1 hf x h1 (by omega)
  · obtain ⟨h1, h2, h3, h4, h5, h6, h7⟩ := h.2 hf
    refine ⟨h1, h2, by omega, h4, h5, h6, fun x h8 h9 => ?_⟩
    by_cases e : x = b
    · subst e; exact hb
    · exact h7 x h8 (by omega)
theorem invS_new {p : Int → Bool} {lo b a z : Int} (h : InvS p lo b false a z) (hl : lo ≤ b) (hb : p b = true) : InvS p lo (b + 1) true b b :=
  ⟨fun hf => (by cases hf), fun _ => ⟨hl, Int.le_refl _, by omega, hb, hb, h.1 rfl, fun x h8 h9 => by omega⟩⟩
theorem invS_more {p : Int → Bool} {lo b a z : Int} (h : InvS p lo b true a z) (hb : p b = true) : InvS p lo (b + 1) true a b := by
  obtain ⟨h1, h2, h3, h4, h5, h6, h7⟩ := h.2 rfl
  exact ⟨fun hf => (by cases hf), fun _ => ⟨h1, by omega, by omega, h4, hb, h6, fun x h8 h9 => by omega⟩⟩
theorem sevR_end (tm : Array Value) (wf : World) (R : Ending → World → Prop) (p : Nat) (a b e : Int) (h8 : tm[8]? = some (.pointer (some ⟨p, 0, none⟩))) (h9 : tm[9]? = some (.int .i64 e)) (hk : Blk wf p 32 #[.int .i64 a, .int .i64 b])
    (hR : R (.returned (.tuple #[.agg #[.int .i64 a, .int .i64 b], .int .i64 e])) wf) : bodyPost Try.prog Try.f29 R .ret { tmps := tm, defers := [] } wf := by
  have c0 : wf.cell? ⟨p, 0, none⟩ = some (.int .i64 a) := hk.cell 0
  have c1 : wf.cell? ⟨p, 1, none⟩ = some (.int .i64 b) := hk.cell 1
  exact bodyPost_ret (v := .tuple #[.agg #[.int .i64 a, .int .i64 b], .int .i64 e]) (by simp [results, Try.results29, go_sem, h8, h9, c0, c1]) rfl hR

set_option maxRecDepth 100000 in
set_option maxHeartbeats 8000000 in
theorem SeverityR_any (v : Value) (S : Sch) (L E : Option Addr) (k cl m ce : Nat) (rs : List Sp) (es : List Ev) (i : Int) (w : World) (h : RdSch w v S) (hls : RdRow w L k 2 (rs.map tkCells)) (hk : k ≤ maxLen)
    (hes : RdRow w E m 5 (es.map evCells)) (hm : m ≤ maxLen) :
    Calls Try.prog 29 #[v, .slice L k cl, .slice E m ce, .int .i64 i] w fun e w' => SevR (sevF S rs es i) e ∧ Below w.heap.size w w' := by
  have hT := hide (fun W (hb : Below w.heap.size w W) => historyR_any v S L E k cl m ce rs es W (h.below hb) (hls.below hb) hk (hes.below hb) hm)
  have hsB := hide (fun W (hb : Below w.heap.size w W) => hls.below hb)
  have heB := hide (fun W (hb : Below w.heap.size w W) => hes.below hb)
  obtain ⟨A, c, A2, c2, rfl, hsk, -, -, -, hin, hI1, hI2, -⟩ := h
  have hiB := hide (fun W (hb : Below w.heap.size w W) => hin.below hb)
  have hel : es.length = m := by have := hes.1; simpa using this
  have hrl : rs.length = k := by have := hls.1; simpa using this
  obtain ⟨n, hnS⟩ : ∃ n, S.sks.length = n := ⟨_, rfl⟩
  obtain ⟨n2, hnI⟩ : ∃ n, S.ins.length = n := ⟨_, rfl⟩
  rw [hnS] at hsk
  rw [hnI] at hin hiB hI1 hI2
  rw [hnS, hnI] at hT
  have hAl := hide (fun (h6 : n2 ≤ 6) W (i : Nat) x (hb : Below w.heap.size w W) (hi : i < n2) => AlwaysR_any A A2 n c n2 c2 i S x W hnI (hin.below hb) hi h6)
  have hH := hide (fun (h0 : histE S rs es = 0) W (g cc : Nat) (Lv : Option Addr) (cv i : Nat) (x : Int) (hx : -300 ≤ x ∧ x ≤ 300) (hb : Below w.heap.size w W) (hI : InsAt W g (setB S i x).ins) (hr : RdRow W Lv n 2 (rs.map tkCells)) =>
    afterR_any A (some ⟨g, 0, none⟩) Lv E n c n2 cc cv m ce (setB S i x) rs es (lastW es) W hnS (by simp [setB, hnI]) (hsk.below hb) (by have := hI.row; rwa [show (setB S i x).ins.length = n2 by simp [setB, hnI]] at this) hr (hes.below hb)
      (check_setB (hist_ok h0).1 i hx) (by rw [← hnS]; exact (hist_ok h0).2.1) (by rw [← hnS, ← hnI]; exact (hist_ok h0).2.2) ⟨Int.le_refl _, by have := lastW_in (evs_ok (hist_ok h0).2.2).2 es.length (Nat.le_refl _); rw [List.take_length] at this; exact this.2⟩)
  have hkn := hide (fun (h0 : histE S rs es = 0) => show k = n ∧ 1 ≤ k ∧ k ≤ 5 ∧ n2 ≤ 6 by
    have h1 := (ranges_ok (hist_ok h0).2.1).1
    have h2 := check_ok (hist_ok h0).1
    omega)
  have hib := hide (fun (h0 : histE S rs es = 0) (j : Nat) (hj : j < n2) => in_ok (hist_ok h0).1 (i := j) (by omega))
  have hci := hide (fun j (hj : j < n2) => map_at inCells S.ins j (by omega))
  obtain ⟨r, hr⟩ : ∃ r, sevF S rs es i = r := ⟨_, rfl⟩
  rw [hr]
  unfold sevF at hr
  rw [hnI] at hr
  have hlw : lastW es = if m = 0 then 0 else (es[m - 1]?.getD default).a := by unfold lastW; rw [hel]
  have hlx := hide (fun (hm0 : 0 < m) => map_at evCells es (m - 1) (by omega))
  have hmb := hide hm
  have hp0 := hide (fun (i : Nat) (x : Int) => show isTr S rs es i x = (liveS (setB S i x) (lastW es) es 0 rs).isSome from rfl)
  generalize lastW es = lw at *
  generalize histE S rs es = g at *
  clear hls hes hk hm hsk hin
  replace hel := hide hel
  replace hrl := hide hrl
  replace hlw := hide hlw
  replace hnS := hide hnS
  replace hnI := hide hnI
  obtain ⟨W0, hW0⟩ : ∃ W, (w.alloc (.cells #[.slice A n c, .slice A2 n2 c2] 25)).alloc (.cells #[.int .i64 0, .int .i64 0] 32) = W := ⟨_, rfl⟩
  have hB0 := hide (show Below w.heap.size w W0 by rw [← hW0]; exact ((Below.refl _ _).alloc (Nat.le_refl _) _).alloc (by simp) _)
  have k0 := hide (show Blk W0 w.heap.size 25 #[.slice A n c, .slice A2 n2 c2] by rw [← hW0]; exact (blkNew rfl).alloc _)
  have r0 := hide (show Blk W0 (w.heap.size + 1) 32 #[.int .i64 0, .int .i64 0] by rw [← hW0]; exact blkNew (by simp))
  have s0 : W0.cell? ⟨w.heap.size, 0, none⟩ = some (.slice A n c) := k0.out.cell 0
  have s1 : W0.cell? ⟨w.heap.size, 1, none⟩ = some (.slice A2 n2 c2) := k0.out.cell 1
  rw [← hW0] at s0 s1
  replace hW0 := hide hW0
  replace hr := hide hr
  rw [hnS.out, hnI.out]
  go_enter Try.func29, Try.ntmps29
  go_wp2_with fail
  rw [hW0.out]
  refine (hT.out _ hB0.out).mono ?_
  rintro e w1 ⟨rfl, hb1⟩
  have hB1 := hide (hB0.out.trans (hb1.mono hB0.out.size))
  have k1 := hide (k0.out.below hb1 k0.out.lt)
  have r1 := hide (r0.out.below hb1 r0.out.lt)
  clear hb1 hB0 k0 r0 hT s0 s1 hW0
  have s1 : w1.cell? ⟨w.heap.size, 1, none⟩ = some (.slice A2 n2 c2) := k1.out.cell 1
  have z0 : w1.cell? ⟨w.heap.size + 1, 0, none⟩ = some (.int .i64 0) := r1.out.cell 0
  have z1 : w1.cell? ⟨w.heap.size + 1, 1, none⟩ = some (.int .i64 0) := r1.out.cell 1
  have f0 : w1.frozen? ⟨w.heap.size + 1, 0, none⟩ = false := r1.out.frozen 0
  have f1 : w1.frozen? ⟨w.heap.size + 1, 1, none⟩ = false := r1.out.frozen 1
  have hrz := hide (by simpa using (r1.out.set_ 0 (.int .i64 0)).set_ 1 (.int .i64 0) : Blk ((w1.setCell ⟨w.heap.size + 1, 0, none⟩ (.int .i64 0)).setCell ⟨w.heap.size + 1, 1, none⟩ (.int .i64 0)) (w.heap.size + 1) 32 #[.int .i64 0, .int .i64 0])
  have hBz := hide ((hB1.out.setCell (p := ⟨w.heap.size + 1, 0, none⟩) (show w.heap.size ≤ w.heap.size + 1 by omega) (.int .i64 0)).setCell (p := ⟨w.heap.size + 1, 1, none⟩) (show w.heap.size ≤ w.heap.size + 1 by omega) (.int .i64 0))
  by_cases hg : g = 0
  · subst hg
    have hr1 := hr.out
    rw [if_pos rfl] at hr1
    replace hr1 := hide hr1
    clear hr
    replace hH := hide (hH.out rfl)
    replace hib := hide (hib.out rfl)
    obtain ⟨hkn1, hk1, hk5, hn6⟩ := hkn.out rfl
    subst hkn1
    have hw9 : IntKind.i64.wrap ((n2 : Int) - 1) = (n2 : Int) - 1 := by rw [IntKind.wrap_i64]; omega
    clear hkn
    go_wp2_with fail
    refine (inRef_any i 0 ((n2 : Int) - 1) _).mono ?_
    rintro e w3 ⟨rfl, rfl⟩
    cases hq : inB 0 ((n2 : Int) - 1) i with
    | false =>
      have hr := hr1.out
      rw [hq, if_neg (by simp)] at hr
      subst hr
      clear hq hH
      go_wp2
      exact sevR_end _ _ _ (w.heap.size + 1) 0 0 4 rfl rfl hrz.out ⟨rfl, hBz.out⟩
    | true =>
      have hr := hr1.out
      rw [hq, if_pos rfl] at hr
      have hwb := inB_iff.1 hq
      clear hq hr1 hrz hBz z0 z1 f0 f1
      obtain ⟨ii, rfl⟩ : ∃ ii : Nat, i = ii := ⟨i.toNat, by omega⟩
      simp only [Int.toNat_natCast] at hr
      have hin2 : ii < n2 := by omega
      have hin2z : (ii : Int) < (n2 : Int) := by omega
      obtain ⟨hbl, hbm, hbh⟩ := hib.out ii hin2
      have hp := hide (hp0.out ii)
      obtain ⟨b3, off3, x0, x1, x2, rfl, hb3, hx, d0, d1, d2⟩ := (hiB.out w1 hB1.out).cells3 hin2
      rw [hci.out ii hin2] at hx
      unfold inCells at hx
      simp only [List.cons.injEq, and_true] at hx
      obtain ⟨rfl, rfl, rfl⟩ := hx
      clear d0
      have hrow := hsB.out
      replace hAl := hide (fun W x (hb : Below w.heap.size w W) => hAl.out hn6 W ii x hb hin2)
      replace hH := hide (fun W (g cc : Nat) (Lv : Option Addr) (cv : Nat) (x : Int) (hx : -300 ≤ x ∧ x ≤ 300) (hb : Below w.heap.size w W) (hI : InsAt W g (setB S ii x).ins) (hr : RdRow W Lv k 2 (rs.map tkCells)) => hH.out W g cc Lv cv ii x hx hb hI hr)
      generalize isTr S rs es ii = p at *
      generalize (S.ins[ii]?.getD default).lo = lo0 at *
      generalize (S.ins[ii]?.getD default).hi = hi0 at *
      have hrr := hsB.out w1 hB1.out
      obtain ⟨b0, off0, rfl, hb0, hc0⟩ := hrr.2.2 (by omega)
      have hb0w := hide hb0
      replace hc0 := hide hc0
      have hfl := hide (flatTk_len rs)
      have hfa := hide (flatTk_back rs)
      have hone := hide (tkOne rs)
      obtain ⟨xs, hxs⟩ : ∃ xs, rs.flatMap tkCells = xs := ⟨_, rfl⟩
      rw [hxs] at hfl hfa hone
      replace hxs := hide hxs
      obtain ⟨i0, hi0', hz0, hz1, hz2⟩ := info_parts infoSp
      replace hi0' := hide hi0'
      replace hz0 := hide hz0
      replace hz1 := hide hz1
      replace hz2 := hide hz2
      replace hr := hide hr
      clear hrr hsB hrow hib hp0 hiB hci
      have hs1 := hB1.out.size
      by_cases hm0 : m = 0
      · subst hm0
        obtain rfl : lw = 0 := by have h := hlw.out; rwa [if_pos rfl] at h
        clear hlx heB hlw
        obtain ⟨wL, hwL⟩ : ∃ W, (w1.alloc (.cells #[.int .i64 0, .int .i64 0] 32)).alloc (.cells #[.int .i64 lo0, .int .i64 hi0] 32) = W := ⟨_, rfl⟩
        have kS := hide (show Blk wL w.heap.size 25 #[.slice A k c, .slice (some ⟨b3, off3, none⟩) n2 c2] by rw [← hwL]; exact (k1.out.alloc _).alloc _)
        have kR := hide (show Blk wL (w.heap.size + 1) 32 #[.int .i64 0, .int .i64 0] by rw [← hwL]; exact (r1.out.alloc _).alloc _)
        have kO := hide (show Blk wL w1.heap.size 32 #[.int .i64 0, .int .i64 0] by rw [← hwL]; exact (blkNew rfl).alloc _)
        have kB := hide (show Blk wL (w1.heap.size + 1) 32 #[.int .i64 lo0, .int .i64 hi0] by rw [← hwL]; exact blkNew (by simp))
        have hBL := hide (show Below w.heap.size w wL by rw [← hwL]; exact (hB1.out.alloc hB1.out.size _).alloc (by simp; omega) _)
        have hB1L := hide (show Below w1.heap.size w1 wL by rw [← hwL]; exact ((Below.refl _ _).alloc (Nat.le_refl _) _).alloc (by simp) _)
        have hzR := r1.out.lt
        have g1 : (w1.alloc (.cells #[.int .i64 0, .int .i64 0] 32)).cell? ⟨w.heap.size, 1, none⟩ = some (.slice (some ⟨b3, off3, none⟩) n2 c2) := (k1.out.alloc _).cell 1
        have g2 : (w1.alloc (.cells #[.int .i64 0, .int .i64 0] 32)).cell? ⟨b3, off3 + ii * 3 + 1, none⟩ = some (.int .i64 lo0) := (cellB (o := off3 + ii * 3 + 1) ((Below.refl w1.heap.size w1).alloc (Nat.le_refl _) _) hb3).trans d1
        have g3 : (w1.alloc (.cells #[.int .i64 0, .int .i64 0] 32)).cell? ⟨b3, off3 + ii * 3 + 2, none⟩ = some (.int .i64 hi0) := (cellB (o := off3 + ii * 3 + 2) ((Below.refl w1.heap.size w1).alloc (Nat.le_refl _) _) hb3).trans d2
        replace hwL := hide hwL
        clear d1 d2 k1 r1
        go_wp2
        rw [hwL.out]
        clear g1 g2 g3 s1 hwL
        go_loopg [12, 15, 16, 17] (hi0 + 1 - lo0).toNat (fun gg s12 s15 _ _ wr => ∃ (b a z : Int) (fd : Bool), lo0 ≤ b ∧ b ≤ hi0 + 1 ∧ hi0 + 1 ≤ b + gg ∧ s15 = .int .i64 b ∧ s12 = .bool fd ∧ Hid (Below w.heap.size w wr) ∧ Hid (Below w1.heap.size w1 wr) ∧ Hid (w1.heap.size + 2 ≤ wr.heap.size) ∧ Hid (Blk wr w.heap.size 25 #[.slice A k c, .slice (some ⟨b3, off3, none⟩) n2 c2]) ∧
          Hid (Blk wr (w.heap.size + 1) 32 #[.int .i64 0, .int .i64 0]) ∧ Hid (Blk wr w1.heap.size 32 #[.int .i64 a, .int .i64 z]) ∧ Hid (Blk wr (w1.heap.size + 1) 32 #[.int .i64 lo0, .int .i64 hi0]) ∧ Hid (InvS p lo0 b fd a z))
        case atStart => exact ⟨lo0, 0, 0, false, Int.le_refl _, by omega, by omega, rfl, rfl, hBL, hB1L, hide (by have := kB.out.lt; omega), kS, kR, kO, kB, hide (invS_0 _ _ _ _)⟩
        case round =>
          clear hBL hB1L kS kR kO kB
          obtain ⟨b, a, z, fd, hb1, hb2, hgg, rfl, rfl, hBr, hB1r, hsr, kS, kR, kO, kB, hinv⟩ := hrel
          have x0 : wr.cell? ⟨w1.heap.size + 1, 0, none⟩ = some (.int .i64 lo0) := kB.out.cell 0
          have x1 : wr.cell? ⟨w1.heap.size + 1, 1, none⟩ = some (.int .i64 hi0) := kB.out.cell 1
          have y0 : wr.cell? ⟨w.heap.size, 0, none⟩ = some (.slice A k c) := kS.out.cell 0
          have y1 : wr.cell? ⟨w.heap.size, 1, none⟩ = some (.slice (some ⟨b3, off3, none⟩) n2 c2) := kS.out.cell 1
          by_cases hle : b ≤ hi0
          · have hd1 : decide (b ≤ hi0) = true := decide_eq_true hle
            have hpb := hide (hp.out b)
            have hb300 : -300 ≤ b ∧ b ≤ 300 := by omega
            go_wp2_with fail
            refine (hAl.out wr b hBr.out).mono ?_
            rintro e w4 ⟨⟨g, cc, rfl, hg1, hg2, hI⟩, hb4⟩
            have kS4 := hide (kS.out.below hb4 kS.out.lt)
            have kR4 := hide (kR.out.below hb4 kR.out.lt)
            have kO4 := hide (kO.out.below hb4 kO.out.lt)
            have kB4 := hide (kB.out.below hb4 kB.out.lt)
            have hB4 := hide (hBr.out.trans (hb4.mono hBr.out.size))
            have hB14 := hide (hB1r.out.trans (hb4.mono hB1r.out.size))
            have hs4 := hb4.size
            clear kS kR kO kB hBr hB1r hb4 x0 x1 y0 y1
            have hwz := hB14.out
            have hs14 := hB14.out.size
            go_wp2_with (at_builtin; refine wpList_append_own _ rfl _ _ 37 rfl w4.heap.size 32 i0 _ 2 16 Try.underlying37 hi0'.out hz0.out hz1.out hz2.out rfl (by decide) _ _ _ rfl (World.ownsRow_made w4 #[] 0 (Nat.le_refl _) (Nat.zero_le _) rfl) ⟨b0, off0, none⟩ k cl xs rfl ?qc1 ?qc2 ?qc3 ?qc4 ?qc5 ?qc6 ?_)
            case qc1 => rw [hfl.out, hrl.out]
            case qc2 =>
              intro j u hj
              have hx := hfa.out j u hj
              rw [Addr.add_lit]
              refine Lib.cell?_alloc_some _ ?_
              have := hc0.out (j / 2) (j % 2) u hx
              rw [show off0 + j / 2 * 2 + j % 2 = off0 + j by omega] at this
              exact (cellB hwz hb0).trans this
            case qc3 => exact hone.out
            case qc4 => unfold maxLen; omega
            case qc5 => omega
            case qc6 => simp
            intro v' w5 hown hgrow _
            have hown2 : w5.ownsRow w4.heap.size 32 2 v' k (rs.flatMap tkCells) := by rw [hxs.out]; simpa using hown
            have hb5 := hide (((Below.refl w4.heap.size w4).alloc (Nat.le_refl _) (.cells #[] 32)).grown hgrow (by simp) (by intro k hk; simp [Value.ownBlock] at hk; omega))
            obtain ⟨g2, cv, rfl, -, -, hA⟩ := spAt_own hown2 hrl.out hk1
            have hrow := hA.row
            rw [hrl.out] at hrow
            have kS5 := hide (kS4.out.below hb5.out kS4.out.lt)
            have kR5 := hide (kR4.out.below hb5.out kR4.out.lt)
            have kO5 := hide (kO4.out.below hb5.out kO4.out.lt)
            have kB5 := hide (kB4.out.below hb5.out kB4.out.lt)
            have hI5 := hI.blk (hb5.out.block g hI.lt)
            have hB5 := hide (hB4.out.trans (hb5.out.mono hB4.out.size))
            have hB15 := hide (hB14.out.trans (hb5.out.mono hB14.out.size))
            have hs5 := hb5.out.size
            have hC := hide (hH.out w5 g cc (some ⟨g2, 0, none⟩) cv b hb300 hB5.out hI5 hrow)
            clear hown hown2 hgrow hA hrow kS4 kR4 kO4 kB4 hI hI5 hB4 hB14 hb5 hwz
            go_wp2_with fail
            refine hC.out.mono ?_
            rintro e w6 ⟨hl, hb6⟩
            obtain ⟨vv, rfl, hpr⟩ := refLived_pair hl
            have kS6 := hide (kS5.out.below hb6 kS5.out.lt)
            have kR6 := hide (kR5.out.below hb6 kR5.out.lt)
            have kO6 := hide (kO5.out.below hb6 kO5.out.lt)
            have kB6 := hide (kB5.out.below hb6 kB5.out.lt)
            have hB6 := hide (hB5.out.trans (hb6.mono hB5.out.size))
            have hB16 := hide (hB15.out.trans (hb6.mono hB15.out.size))
            have hs6 := hide (show w1.heap.size + 2 ≤ w6.heap.size by have := hb6.size; have := hsr.out; omega)
            clear hl hb6 hC kS5 kR5 kO5 kB5 hB5 hB15 hs5
            have o0 : w6.cell? ⟨w1.heap.size, 0, none⟩ = some (.int .i64 a) := kO6.out.cell 0
            have o1 : w6.cell? ⟨w1.heap.size, 1, none⟩ = some (.int .i64 z) := kO6.out.cell 1
            have o2 : w6.frozen? ⟨w1.heap.size, 0, none⟩ = false := kO6.out.frozen 0
            have o3 : w6.frozen? ⟨w1.heap.size, 1, none⟩ = false := kO6.out.frozen 1
            have hwb1 : IntKind.i64.wrap (b + 1) = b + 1 := by rw [IntKind.wrap_i64]; omega
            have u1 : w.heap.size ≠ w1.heap.size := by omega
            have u2 : w.heap.size + 1 ≠ w1.heap.size := by omega
            have u3 : w1.heap.size + 1 ≠ w1.heap.size := by omega
            have hpb1 := hpb.out
            generalize liveS (setB S ii b) 0 es 0 rs = q at *
            cases q with
            | none =>
              obtain rfl : vv = .tuple #[.slice none 0 0, .bool false] := hpr
              have hno := hide (invS_no hinv.out hpb1)
              clear hpb hpb1 hinv o0 o1 o2 o3 hd1
              go_wp2
              go_roundg (hi0 + 1 - (b + 1)).toNat
              case measure => omega
              case rel => exact ⟨b + 1, a, z, fd, by omega, by omega, by omega, by first | rfl | go_num, rfl, hB6, hB16, hs6, kS6, kR6, kO6, kB6, hno⟩
            | some T =>
              obtain ⟨x, rfl, -⟩ := hpr
              clear hpb hd1
              cases fd with
              | false =>
                have hnew := hide (invS_new hinv.out hb1 hpb1)
                clear hpb1 hinv
                go_wp2
                go_roundg (hi0 + 1 - (b + 1)).toNat
                case measure => omega
                case rel =>
                  have kO7 := (kO6.out.set_ 0 (.int .i64 b)).set_ 1 (.int .i64 b)
                  refine ⟨b + 1, b, b, true, by omega, by omega, by omega, by first | rfl | go_num, rfl, hide ((hB6.out.setCell (show w.heap.size ≤ w1.heap.size by omega) _).setCell (show w.heap.size ≤ w1.heap.size by omega) _), hide ((hB16.out.setCell (Nat.le_refl _) _).setCell (Nat.le_refl _) _), hide (by have := hs6.out; simpa [World.setCell] using this), hide ((kS6.out.far u1 _).far u1 _), hide ((kR6.out.far u2 _).far u2 _), hide (by simpa using kO7), hide ((kB6.out.far u3 _).far u3 _), hnew⟩
              | true =>
                have hmore := hide (invS_more hinv.out hpb1)
                clear hpb1 hinv
                go_wp2
                go_roundg (hi0 + 1 - (b + 1)).toNat
                case measure => omega
                case rel =>
                  have kO7 := kO6.out.set_ 1 (.int .i64 b)
                  refine ⟨b + 1, a, b, true, by omega, by omega, by omega, by first | rfl | go_num, rfl, hide (hB6.out.setCell (show w.heap.size ≤ w1.heap.size by omega) _), hide (hB16.out.setCell (Nat.le_refl _) _), hide (by have := hs6.out; simpa [World.setCell] using this), hide (kS6.out.far u1 _), hide (kR6.out.far u2 _), hide (by simpa using kO7), hide (kB6.out.far u3 _), hmore⟩
          · obtain rfl : b = hi0 + 1 := by omega
            have hd1 : decide (hi0 + 1 ≤ hi0) = false := decide_eq_false hle
            have z0 : wr.cell? ⟨w.heap.size + 1, 0, none⟩ = some (.int .i64 0) := kR.out.cell 0
            have z1 : wr.cell? ⟨w.heap.size + 1, 1, none⟩ = some (.int .i64 0) := kR.out.cell 1
            have f0 : wr.frozen? ⟨w.heap.size + 1, 0, none⟩ = false := kR.out.frozen 0
            have f1 : wr.frozen? ⟨w.heap.size + 1, 1, none⟩ = false := kR.out.frozen 1
            have o0 : wr.cell? ⟨w1.heap.size, 0, none⟩ = some (.int .i64 a) := kO.out.cell 0
            have o1 : wr.cell? ⟨w1.heap.size, 1, none⟩ = some (.int .i64 z) := kO.out.cell 1
            have hle1 : w.heap.size ≤ w.heap.size + 1 := by omega
            have hrr := hr.out
            cases fd with
            | false =>
              rw [if_pos (by rw [firstUp_all _ _ (fun x h1 h2 => hinv.out.1 rfl x h1 (by omega))]; omega)] at hrr
              subst hrr
              have hk := hide (by simpa using (kR.out.set_ 0 (.int .i64 0)).set_ 1 (.int .i64 0) : Blk ((wr.setCell ⟨w.heap.size + 1, 0, none⟩ (.int .i64 0)).setCell ⟨w.heap.size + 1, 1, none⟩ (.int .i64 0)) (w.heap.size + 1) 32 #[.int .i64 0, .int .i64 0])
              have hBz := hide ((hBr.out.setCell (p := ⟨w.heap.size + 1, 0, none⟩) hle1 (.int .i64 0)).setCell (p := ⟨w.heap.size + 1, 1, none⟩) hle1 (.int .i64 0))
              clear hr hinv
              go_wp2
              exact sevR_end _ _ _ (w.heap.size + 1) 0 0 9 rfl rfl hk.out ⟨rfl, hBz.out⟩
            | true =>
              obtain ⟨i1, i2, i3, i4, i5, i6, i7⟩ := hinv.out.2 rfl
              have e1 : firstUp p (hi0 + 1 - lo0).toNat lo0 = a := firstUp_eq i4 _ _ i1 (by omega) i6
              have e2 : lastDown p (hi0 + 1 - lo0).toNat hi0 = z := lastDown_eq i5 _ _ (by omega) (by omega) (fun x h1 h2 => i7 x h1 (by omega))
              rw [e1, e2, if_neg (by omega)] at hrr
              subst hrr
              have hk := hide (by simpa using (kR.out.set_ 0 (.int .i64 a)).set_ 1 (.int .i64 z) : Blk ((wr.setCell ⟨w.heap.size + 1, 0, none⟩ (.int .i64 a)).setCell ⟨w.heap.size + 1, 1, none⟩ (.int .i64 z)) (w.heap.size + 1) 32 #[.int .i64 a, .int .i64 z])
              have hBz := hide ((hBr.out.setCell (p := ⟨w.heap.size + 1, 0, none⟩) hle1 (.int .i64 a)).setCell (p := ⟨w.heap.size + 1, 1, none⟩) hle1 (.int .i64 z))
              clear hr hinv e1 e2 i1 i2 i3 i4 i5 i6 i7
              go_wp2
              exact sevR_end _ _ _ (w.heap.size + 1) a z 0 rfl rfl hk.out ⟨rfl, hBz.out⟩
      · have hm1 : 0 < m := by omega
        have hmz : (0 : Int) < (m : Int) := by omega
        have hlw1 := hlw.out
        rw [if_neg hm0] at hlw1
        obtain ⟨b, off, x0, x1, x2, x3, x4, rfl, hb, hx, e0, e1, e2, e3, e4⟩ := (heB.out w1 hB1.out).cells5 (show m - 1 < m by omega)
        rw [hlx.out hm1] at hx
        unfold evCells at hx
        simp only [List.cons.injEq, and_true] at hx
        obtain ⟨rfl, rfl, rfl, rfl, rfl⟩ := hx
        rw [← hlw1] at e0
        have hw1 : IntKind.i64.wrap ((m : Int) - 1) = ((m - 1 : Nat) : Int) := by have := hmb.out; unfold maxLen at this; rw [IntKind.wrap_i64]; omega
        have hmz2 : ((m - 1 : Nat) : Int) < (m : Int) := by omega
        clear e1 e2 e3 e4 hlw1 hlx heB hlw
        replace hm0 := hide hm0
        obtain ⟨wL, hwL⟩ : ∃ W, (w1.alloc (.cells #[.int .i64 0, .int .i64 0] 32)).alloc (.cells #[.int .i64 lo0, .int .i64 hi0] 32) = W := ⟨_, rfl⟩
        have kS := hide (show Blk wL w.heap.size 25 #[.slice A k c, .slice (some ⟨b3, off3, none⟩) n2 c2] by rw [← hwL]; exact (k1.out.alloc _).alloc _)
        have kR := hide (show Blk wL (w.heap.size + 1) 32 #[.int .i64 0, .int .i64 0] by rw [← hwL]; exact (r1.out.alloc _).alloc _)
        have kO := hide (show Blk wL w1.heap.size 32 #[.int .i64 0, .int .i64 0] by rw [← hwL]; exact (blkNew rfl).alloc _)
        have kB := hide (show Blk wL (w1.heap.size + 1) 32 #[.int .i64 lo0, .int .i64 hi0] by rw [← hwL]; exact blkNew (by simp))
        have hBL := hide (show Below w.heap.size w wL by rw [← hwL]; exact (hB1.out.alloc hB1.out.size _).alloc (by simp; omega) _)
        have hB1L := hide (show Below w1.heap.size w1 wL by rw [← hwL]; exact ((Below.refl _ _).alloc (Nat.le_refl _) _).alloc (by simp) _)
        have hzR := r1.out.lt
        have g1 : (w1.alloc (.cells #[.int .i64 0, .int .i64 0] 32)).cell? ⟨w.heap.size, 1, none⟩ = some (.slice (some ⟨b3, off3, none⟩) n2 c2) := (k1.out.alloc _).cell 1
        have g2 : (w1.alloc (.cells #[.int .i64 0, .int .i64 0] 32)).cell? ⟨b3, off3 + ii * 3 + 1, none⟩ = some (.int .i64 lo0) := (cellB (o := off3 + ii * 3 + 1) ((Below.refl w1.heap.size w1).alloc (Nat.le_refl _) _) hb3).trans d1
        have g3 : (w1.alloc (.cells #[.int .i64 0, .int .i64 0] 32)).cell? ⟨b3, off3 + ii * 3 + 2, none⟩ = some (.int .i64 hi0) := (cellB (o := off3 + ii * 3 + 2) ((Below.refl w1.heap.size w1).alloc (Nat.le_refl _) _) hb3).trans d2
        replace hwL := hide hwL
        clear d1 d2 k1 r1
        go_wp2
        rw [hwL.out]
        clear g1 g2 g3 s1 hwL e0
        go_loopg [12, 15, 16, 17] (hi0 + 1 - lo0).toNat (fun gg s12 s15 _ _ wr => ∃ (b a z : Int) (fd : Bool), lo0 ≤ b ∧ b ≤ hi0 + 1 ∧ hi0 + 1 ≤ b + gg ∧ s15 = .int .i64 b ∧ s12 = .bool fd ∧ Hid (Below w.heap.size w wr) ∧ Hid (Below w1.heap.size w1 wr) ∧ Hid (w1.heap.size + 2 ≤ wr.heap.size) ∧ Hid (Blk wr w.heap.size 25 #[.slice A k c, .slice (some ⟨b3, off3, none⟩) n2 c2]) ∧
          Hid (Blk wr (w.heap.size + 1) 32 #[.int .i64 0, .int .i64 0]) ∧ Hid (Blk wr w1.heap.size 32 #[.int .i64 a, .int .i64 z]) ∧ Hid (Blk wr (w1.heap.size + 1) 32 #[.int .i64 lo0, .int .i64 hi0]) ∧ Hid (InvS p lo0 b fd a z))
        case atStart => exact ⟨lo0, 0, 0, false, Int.le_refl _, by omega, by omega, rfl, rfl, hBL, hB1L, hide (by have := kB.out.lt; omega), kS, kR, kO, kB, hide (invS_0 _ _ _ _)⟩
        case round =>
          clear hBL hB1L kS kR kO kB
          obtain ⟨b, a, z, fd, hb1, hb2, hgg, rfl, rfl, hBr, hB1r, hsr, kS, kR, kO, kB, hinv⟩ := hrel
          have x0 : wr.cell? ⟨w1.heap.size + 1, 0, none⟩ = some (.int .i64 lo0) := kB.out.cell 0
          have x1 : wr.cell? ⟨w1.heap.size + 1, 1, none⟩ = some (.int .i64 hi0) := kB.out.cell 1
          have y0 : wr.cell? ⟨w.heap.size, 0, none⟩ = some (.slice A k c) := kS.out.cell 0
          have y1 : wr.cell? ⟨w.heap.size, 1, none⟩ = some (.slice (some ⟨b3, off3, none⟩) n2 c2) := kS.out.cell 1
          by_cases hle : b ≤ hi0
          · have hd1 : decide (b ≤ hi0) = true := decide_eq_true hle
            have hpb := hide (hp.out b)
            have hb300 : -300 ≤ b ∧ b ≤ 300 := by omega
            go_wp2_with fail
            refine (hAl.out wr b hBr.out).mono ?_
            rintro e w4 ⟨⟨g, cc, rfl, hg1, hg2, hI⟩, hb4⟩
            have kS4 := hide (kS.out.below hb4 kS.out.lt)
            have kR4 := hide (kR.out.below hb4 kR.out.lt)
            have kO4 := hide (kO.out.below hb4 kO.out.lt)
            have kB4 := hide (kB.out.below hb4 kB.out.lt)
            have hB4 := hide (hBr.out.trans (hb4.mono hBr.out.size))
            have hB14 := hide (hB1r.out.trans (hb4.mono hB1r.out.size))
            have hs4 := hb4.size
            clear kS kR kO kB hBr hB1r hb4 x0 x1 y0 y1
            have hwz := hB14.out
            have hs14 := hB14.out.size
            go_wp2_with (at_builtin; refine wpList_append_own _ rfl _ _ 37 rfl w4.heap.size 32 i0 _ 2 16 Try.underlying37 hi0'.out hz0.out hz1.out hz2.out rfl (by decide) _ _ _ rfl (World.ownsRow_made w4 #[] 0 (Nat.le_refl _) (Nat.zero_le _) rfl) ⟨b0, off0, none⟩ k cl xs rfl ?qc1 ?qc2 ?qc3 ?qc4 ?qc5 ?qc6 ?_)
            case qc1 => rw [hfl.out, hrl.out]
            case qc2 =>
              intro j u hj
              have hx := hfa.out j u hj
              rw [Addr.add_lit]
              refine Lib.cell?_alloc_some _ ?_
              have := hc0.out (j / 2) (j % 2) u hx
              rw [show off0 + j / 2 * 2 + j % 2 = off0 + j by omega] at this
              exact (cellB hwz hb0).trans this
            case qc3 => exact hone.out
            case qc4 => unfold maxLen; omega
            case qc5 => omega
            case qc6 => simp
            intro v' w5 hown hgrow _
            have hown2 : w5.ownsRow w4.heap.size 32 2 v' k (rs.flatMap tkCells) := by rw [hxs.out]; simpa using hown
            have hb5 := hide (((Below.refl w4.heap.size w4).alloc (Nat.le_refl _) (.cells #[] 32)).grown hgrow (by simp) (by intro k hk; simp [Value.ownBlock] at hk; omega))
            obtain ⟨g2, cv, rfl, -, -, hA⟩ := spAt_own hown2 hrl.out hk1
            have hrow := hA.row
            rw [hrl.out] at hrow
            have kS5 := hide (kS4.out.below hb5.out kS4.out.lt)
            have kR5 := hide (kR4.out.below hb5.out kR4.out.lt)
            have kO5 := hide (kO4.out.below hb5.out kO4.out.lt)
            have kB5 := hide (kB4.out.below hb5.out kB4.out.lt)
            have hI5 := hI.blk (hb5.out.block g hI.lt)
            have hB5 := hide (hB4.out.trans (hb5.out.mono hB4.out.size))
            have hB15 := hide (hB14.out.trans (hb5.out.mono hB14.out.size))
            have hs5 := hb5.out.size
            have hC := hide (hH.out w5 g cc (some ⟨g2, 0, none⟩) cv b hb300 hB5.out hI5 hrow)
            clear hown hown2 hgrow hA hrow kS4 kR4 kO4 kB4 hI hI5 hB4 hB14 hb5 hwz
            go_wp2_with fail
            refine hC.out.mono ?_
            rintro e w6 ⟨hl, hb6⟩
            obtain ⟨vv, rfl, hpr⟩ := refLived_pair hl
            have kS6 := hide (kS5.out.below hb6 kS5.out.lt)
            have kR6 := hide (kR5.out.below hb6 kR5.out.lt)
            have kO6 := hide (kO5.out.below hb6 kO5.out.lt)
            have kB6 := hide (kB5.out.below hb6 kB5.out.lt)
            have hB6 := hide (hB5.out.trans (hb6.mono hB5.out.size))
            have hB16 := hide (hB15.out.trans (hb6.mono hB15.out.size))
            have hs6 := hide (show w1.heap.size + 2 ≤ w6.heap.size by have := hb6.size; have := hsr.out; omega)
            clear hl hb6 hC kS5 kR5 kO5 kB5 hB5 hB15 hs5
            have o0 : w6.cell? ⟨w1.heap.size, 0, none⟩ = some (.int .i64 a) := kO6.out.cell 0
            have o1 : w6.cell? ⟨w1.heap.size, 1, none⟩ = some (.int .i64 z) := kO6.out.cell 1
            have o2 : w6.frozen? ⟨w1.heap.size, 0, none⟩ = false := kO6.out.frozen 0
            have o3 : w6.frozen? ⟨w1.heap.size, 1, none⟩ = false := kO6.out.frozen 1
            have hwb1 : IntKind.i64.wrap (b + 1) = b + 1 := by rw [IntKind.wrap_i64]; omega
            have u1 : w.heap.size ≠ w1.heap.size := by omega
            have u2 : w.heap.size + 1 ≠ w1.heap.size := by omega
            have u3 : w1.heap.size + 1 ≠ w1.heap.size := by omega
            have hpb1 := hpb.out
            generalize liveS (setB S ii b) lw es 0 rs = q at *
            cases q with
            | none =>
              obtain rfl : vv = .tuple #[.slice none 0 0, .bool false] := hpr
              have hno := hide (invS_no hinv.out hpb1)
              clear hpb hpb1 hinv o0 o1 o2 o3 hd1
              go_wp2
              go_roundg (hi0 + 1 - (b + 1)).toNat
              case measure => omega
              case rel => exact ⟨b + 1, a, z, fd, by omega, by omega, by omega, by first | rfl | go_num, rfl, hB6, hB16, hs6, kS6, kR6, kO6, kB6, hno⟩
            | some T =>
              obtain ⟨x, rfl, -⟩ := hpr
              clear hpb hd1
              cases fd with
              | false =>
                have hnew := hide (invS_new hinv.out hb1 hpb1)
                clear hpb1 hinv
                go_wp2
                go_roundg (hi0 + 1 - (b + 1)).toNat
                case measure => omega
                case rel =>
                  have kO7 := (kO6.out.set_ 0 (.int .i64 b)).set_ 1 (.int .i64 b)
                  refine ⟨b + 1, b, b, true, by omega, by omega, by omega, by first | rfl | go_num, rfl, hide ((hB6.out.setCell (show w.heap.size ≤ w1.heap.size by omega) _).setCell (show w.heap.size ≤ w1.heap.size by omega) _), hide ((hB16.out.setCell (Nat.le_refl _) _).setCell (Nat.le_refl _) _), hide (by have := hs6.out; simpa [World.setCell] using this), hide ((kS6.out.far u1 _).far u1 _), hide ((kR6.out.far u2 _).far u2 _), hide (by simpa using kO7), hide ((kB6.out.far u3 _).far u3 _), hnew⟩
              | true =>
                have hmore := hide (invS_more hinv.out hpb1)
                clear hpb1 hinv
                go_wp2
                go_roundg (hi0 + 1 - (b + 1)).toNat
                case measure => omega
                case rel =>
                  have kO7 := kO6.out.set_ 1 (.int .i64 b)
                  refine ⟨b + 1, a, b, true, by omega, by omega, by omega, by first | rfl | go_num, rfl, hide (hB6.out.setCell (show w.heap.size ≤ w1.heap.size by omega) _), hide (hB16.out.setCell (Nat.le_refl _) _), hide (by have := hs6.out; simpa [World.setCell] using this), hide (kS6.out.far u1 _), hide (kR6.out.far u2 _), hide (by simpa using kO7), hide (kB6.out.far u3 _), hmore⟩
          · obtain rfl : b = hi0 + 1 := by omega
            have hd1 : decide (hi0 + 1 ≤ hi0) = false := decide_eq_false hle
            have z0 : wr.cell? ⟨w.heap.size + 1, 0, none⟩ = some (.int .i64 0) := kR.out.cell 0
            have z1 : wr.cell? ⟨w.heap.size + 1, 1, none⟩ = some (.int .i64 0) := kR.out.cell 1
            have f0 : wr.frozen? ⟨w.heap.size + 1, 0, none⟩ = false := kR.out.frozen 0
            have f1 : wr.frozen? ⟨w.heap.size + 1, 1, none⟩ = false := kR.out.frozen 1
            have o0 : wr.cell? ⟨w1.heap.size, 0, none⟩ = some (.int .i64 a) := kO.out.cell 0
            have o1 : wr.cell? ⟨w1.heap.size, 1, none⟩ = some (.int .i64 z) := kO.out.cell 1
            have hle1 : w.heap.size ≤ w.heap.size + 1 := by omega
            have hrr := hr.out
            cases fd with
            | false =>
              rw [if_pos (by rw [firstUp_all _ _ (fun x h1 h2 => hinv.out.1 rfl x h1 (by omega))]; omega)] at hrr
              subst hrr
              have hk := hide (by simpa using (kR.out.set_ 0 (.int .i64 0)).set_ 1 (.int .i64 0) : Blk ((wr.setCell ⟨w.heap.size + 1, 0, none⟩ (.int .i64 0)).setCell ⟨w.heap.size + 1, 1, none⟩ (.int .i64 0)) (w.heap.size + 1) 32 #[.int .i64 0, .int .i64 0])
              have hBz := hide ((hBr.out.setCell (p := ⟨w.heap.size + 1, 0, none⟩) hle1 (.int .i64 0)).setCell (p := ⟨w.heap.size + 1, 1, none⟩) hle1 (.int .i64 0))
              clear hr hinv
              go_wp2
              exact sevR_end _ _ _ (w.heap.size + 1) 0 0 9 rfl rfl hk.out ⟨rfl, hBz.out⟩
            | true =>
              obtain ⟨i1, i2, i3, i4, i5, i6, i7⟩ := hinv.out.2 rfl
              have e1 : firstUp p (hi0 + 1 - lo0).toNat lo0 = a := firstUp_eq i4 _ _ i1 (by omega) i6
              have e2 : lastDown p (hi0 + 1 - lo0).toNat hi0 = z := lastDown_eq i5 _ _ (by omega) (by omega) (fun x h1 h2 => i7 x h1 (by omega))
              rw [e1, e2, if_neg (by omega)] at hrr
              subst hrr
              have hk := hide (by simpa using (kR.out.set_ 0 (.int .i64 a)).set_ 1 (.int .i64 z) : Blk ((wr.setCell ⟨w.heap.size + 1, 0, none⟩ (.int .i64 a)).setCell ⟨w.heap.size + 1, 1, none⟩ (.int .i64 z)) (w.heap.size + 1) 32 #[.int .i64 a, .int .i64 z])
              have hBz := hide ((hBr.out.setCell (p := ⟨w.heap.size + 1, 0, none⟩) hle1 (.int .i64 a)).setCell (p := ⟨w.heap.size + 1, 1, none⟩) hle1 (.int .i64 z))
              clear hr hinv e1 e2 i1 i2 i3 i4 i5 i6 i7
              go_wp2
              exact sevR_end _ _ _ (w.heap.size + 1) a z 0 rfl rfl hk.out ⟨rfl, hBz.out⟩
  · have hr1 := hr.out
    rw [if_neg hg] at hr1
    subst hr1
    have hb1 : (g == 0) = false := by rw [beq_eq_false_iff_ne]; exact hg
    have hb2 : (g != 0) = true := by rw [bne_iff_ne]; exact hg
    replace hg := hide hg
    clear hr hH
    go_wp2
    exact sevR_end _ _ _ (w.heap.size + 1) 0 0 g rfl rfl hrz.out ⟨rfl, hBz.out⟩
end Go.Proofs.Ytkhijdbigpaagaa
