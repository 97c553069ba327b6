import Derived.Test.YtkhijdbigpaagaaNpl
import Derived.Test.YtkhijdbigpaagaaNwa
/-
  SkillFewest: numbers by turns, plans that make ready, the arguments.
-/
namespace Go.Proofs.Ytkhijdbigpaagaa
open Go.RowKit RG

/-- A row of small numbers. -/
def RdU16 (w : World) (A : Option Addr) (n : Nat) : Prop := 0 < n → ∃ b off, A = some ⟨b, off, none⟩ ∧ b < w.heap.size ∧ ∀ j, j < n → ∃ x, w.cell? ⟨b, off + j, none⟩ = some (.int .u16 x) ∧ 0 ≤ x ∧ x ≤ 65535
theorem RdU16.below {w w' : World} {A : Option Addr} {n : Nat} (h : RdU16 w A n) (hb : Below w.heap.size w w') : RdU16 w' A n := fun hn => by
  obtain ⟨b, off, e, hlt, hc⟩ := h hn
  refine ⟨b, off, e, Nat.lt_of_lt_of_le hlt hb.size, fun j hj => ?_⟩
  obtain ⟨x, h1, h2⟩ := hc j hj
  exact ⟨x, (cellB hb hlt).trans h1, h2⟩

set_option maxRecDepth 100000 in
theorem turn_any (A : Option Addr) (n c : Nat) (i : Int) (w : World) (h : RdU16 w A n) (hn : n ≤ maxLen) (hi : 0 ≤ i ∧ i ≤ 9223372036854775807) :
    Calls Try.prog 48 #[.slice A n c, .int .i64 i] w fun e w' => (∃ x, e = .returned (.int .i64 x) ∧ 0 ≤ x ∧ x ≤ 65535) ∧ w = w' := by
  unfold maxLen at hn
  by_cases h0 : n = 0
  · subst h0
    clear h
    go_enter Try.func48, Try.ntmps48
    go_wp2
    go_ret
    exact ⟨⟨0, rfl, by omega, by omega⟩, rfl⟩
  · obtain ⟨b, off, rfl, hb, hc⟩ := h (by omega)
    have hnz : (0 : Int) < (n : Int) := by omega
    have b0 : ((n : Int) == 0) = false := by rw [beq_eq_false_iff_ne]; omega
    obtain ⟨j, hj⟩ : ∃ j : Nat, i.tmod (n : Int) = j := ⟨(i.tmod n).toNat, by rw [Int.toNat_of_nonneg (Int.tmod_nonneg _ hi.1)]⟩
    have hjn : (j : Int) < (n : Int) := by rw [← hj]; exact Int.tmod_lt_of_pos _ hnz
    obtain ⟨x, hx, hx0, hx1⟩ := hc j (by omega)
    have hw : IntKind.i64.wrap x = x := by rw [IntKind.wrap_i64]; omega
    have hw2 : IntKind.i64.wrap (j : Int) = (j : Int) := by rw [IntKind.wrap_i64]; omega
    clear hc h
    go_enter Try.func48, Try.ntmps48
    go_wp2
    go_ret
    exact ⟨⟨x, rfl, hx0, hx1⟩, rfl⟩

section
open Go.ChangeShapes Go.WideShapes Go.ChangeAt
variable {H : Type} {enc : TypeId × Value → H} {w : World} {base : Nat} {held : Bool} {fuel : Nat} {cs : List Value} {x : DataW H × List MemPlace}
set_option maxRecDepth 100000 in
theorem open_u16s (h : DataW.trod enc Try.prog w base (fun _ => true) held fuel 65 cs = some x) : ∃ A n c, cs = [.slice A n c] ∧ RdU16 w A n ∧ n ≤ maxLen ∧ n ≤ c := by
  rcases open_ints Try.underlying65 Try.underlying84 (by kernel_rfl) h with ⟨rfl, _⟩ | ⟨a, len, cap, zs, rfl, hb, hl, hm, hlen, _, hc, hwf⟩
  · exact ⟨none, 0, 0, rfl, fun h => absurd h (by omega), by unfold maxLen; omega, Nat.le_refl _⟩
  · simp only [if_true] at hlen
    refine ⟨some a, len, cap, rfl, fun hn => ?_, by omega, hl⟩
    have h0 := hc 0 (by omega)
    obtain ⟨b, off, e⟩ := plain_addr h0
    rw [add_plain_zero] at e
    subst e
    refine ⟨b, off, rfl, by have := lt_of_cell h0; simpa [Addr.add] using this, fun j hj => ?_⟩
    have := hc j (by omega)
    rw [add_plain] at this
    refine ⟨_, this, ?_⟩
    have hjl : j < zs.length := by omega
    have hg : zs.getD j 0 ∈ zs := by rw [List.getD_eq_getElem?_getD, List.getElem?_eq_getElem hjl]; exact List.getElem_mem hjl
    exact wf16 (hwf _ hg)
set_option maxRecDepth 100000 in
/-- Ranges, a chance, and numbers. -/
theorem open_told {r : Reach} {b0 : Nat} {v : Value} {d : DataW H} {p : List MemPlace} (hv : Value.okWide Try.prog w r b0 89 v) (h : DataW.Trod enc Try.prog w base (fun _ => true) held 89 v d p) :
    ∃ A c rs ch N nn nc, v = .agg #[.slice A (rs : List (Int × Int)).length c, .int .i64 ch, .slice N nn nc] ∧ RdRow w A rs.length 2 (rs.map tkCells) ∧ rs.length ≤ maxLen ∧ RdU16 w N nn ∧ nn ≤ maxLen := by
  obtain ⟨v0, v1, v2, y0, y1, y2, n, rfl, _, _, h0, h1, h2⟩ := Joins.open_agg3 Try.underlying89 (by kernel_rfl) (by kernel_rfl) hv h
  obtain ⟨A, c, rs, e0, hr, hm, _⟩ := open_spans h0
  obtain ⟨z1, e1, _, _⟩ := DataW.trod_int Try.underlying3 h1
  obtain ⟨N, nn, nc, e2, hu, hum, _⟩ := open_u16s h2
  simp only [List.cons.injEq, and_true] at e0 e1 e2
  subst e0 e1 e2
  exact ⟨A, c, rs, z1, N, nn, nc, rfl, hr, hm, hu, hum⟩
end

theorem testE_ne (S : Sch) (ts : List (Int × Int)) (al : Int) : testE S ts al ≠ 9 := by
  unfold testE
  split
  · split
    · split
      · refine firstErr_ne (fun i => ?_) _ _
        unfold taskE
        split
        · split <;> simp
        · simp
      · simp
    · simp
  · exact checkS_ne S
theorem readyE_ne (S : Sch) (ts : List (Int × Int)) (al : Int) (rs : List Sp) (ch : Int) : readyE S ts al rs ch ≠ 9 := by
  unfold readyE
  split
  · split
    · split <;> simp
    · exact rangesE_ne _ _
  · exact testE_ne _ _ _
theorem few_bad {S : Sch} {ts : List (Int × Int)} {al : Int} {rs : List Sp} {ch : Int} (h : (fewestF S ts al rs ch).2 ≠ 0) : (fewestF S ts al rs ch).1 = none := by
  unfold fewestF at h ⊢
  split
  · rename_i h0
    rw [if_pos h0] at h
    simp only at h ⊢
    cases hf : (plansL S.sks.length).find? (okPlan S ts al rs ch) with
    | none => rfl
    | some p => rw [hf] at h; simp at h
  · rfl
theorem raised_ready {S : Sch} {ts : List (Int × Int)} {al : Int} {rs : List Sp} {ch : Int} (h : readyE S ts al rs ch = 0) (p : List Nat) (h8 : Le8 p) (hp : p.length = rs.length) :
    ∃ x y, readyF S ts al (raisedL S rs (p.map Int.ofNat)) ch = (okPlan S ts al rs ch p, x, y, 0) := by
  obtain ⟨h1, h2, h3⟩ := ready_ok h
  have hck := (test_ok h1).1
  obtain ⟨h4, h5⟩ := ranges_ok h2
  have hl : (raisedL S rs (p.map Int.ofNat)).length = S.sks.length := by simp [raisedL, h4]
  have hok : AllOk (raisedL S rs (p.map Int.ofNat)) := fun i hi => by
    have hi' : i < rs.length := by rw [hl, ← h4] at hi; exact hi
    rw [raisedL_at S rs _ hi', nat_at (p := p) (by omega)]
    have hg := sk_ok hck (i := i) (by omega)
    have h8i := h8 (p[i]'(by omega)) (List.getElem_mem _)
    have hr := h5 i hi'
    unfold raise1 okS
    simp only
    have hm : (p[i] : Int) * (S.sks[i]?.getD default).gl ≤ (p[i] : Int) * (S.sks[i]?.getD default).gh := Int.mul_le_mul_of_nonneg_left (by omega) (by omega)
    have e1 := lim_le ((rs[i]?.getD (0, 0)).1 + (p[i] : Int) * (S.sks[i]?.getD default).gl)
    have e2 := lim_le ((rs[i]?.getD (0, 0)).2 + (p[i] : Int) * (S.sks[i]?.getD default).gh)
    exact ⟨e1.1, lim_mono (by omega), e2.2⟩
  have hre : readyE S ts al (raisedL S rs (p.map Int.ofNat)) ch = 0 := by
    unfold readyE
    rw [if_pos h1, if_pos (ranges_of_ok hl hok), if_pos (inB_iff.2 h3)]
  have e : (raisedL S rs (p.map Int.ofNat)).map (fun s : Sp => s.1) = lowF S rs (p.map Int.ofNat) rs.length := raisedL_lo S rs _
  refine ⟨atL ts al ((raisedL S rs (p.map Int.ofNat)).map (fun s : Sp => s.1)), atL ts al ((raisedL S rs (p.map Int.ofNat)).map (fun s : Sp => s.2)), ?_⟩
  rw [show okPlan S ts al rs ch p = decide (ch * 1000 ^ (ts.length - 1) ≤ atL ts al ((raisedL S rs (p.map Int.ofNat)).map (fun s : Sp => s.1))) from by unfold okPlan; rw [← e]]
  unfold readyF
  rw [if_pos hre]
/-- P2.11: what Fewest answers. -/
theorem few_parts {S : Sch} {ts : List (Int × Int)} {al : Int} {rs : List Sp} {ch : Int} (h : (fewestF S ts al rs ch).2 = 0 ∨ (fewestF S ts al rs ch).2 = 9) :
    readyE S ts al rs ch = 0 ∧ ((∃ p, fewestF S ts al rs ch = (some p, 0) ∧ p.length = S.sks.length ∧ Le8 p ∧ okPlan S ts al rs ch p = true ∧ ∀ q : List Nat, q.length = S.sks.length → Le8 q → sumN q < sumN p → okPlan S ts al rs ch q = false) ∨
      (fewestF S ts al rs ch = (none, 9) ∧ ∀ q : List Nat, q.length = S.sks.length → Le8 q → okPlan S ts al rs ch q = false)) := by
  have hne := readyE_ne S ts al rs ch
  unfold fewestF at h ⊢
  split at h
  · rename_i h0
    refine ⟨h0, ?_⟩
    rw [if_pos h0]
    cases hf : (plansL S.sks.length).find? (okPlan S ts al rs ch) with
    | none => exact .inr ⟨rfl, fun q hq h8 => plans_none hf hq h8⟩
    | some p =>
      obtain ⟨h1, h2, h3, h4⟩ := plans_some hf
      refine .inl ⟨p, rfl, h2, h3, h1, fun q hq h8 hs => ?_⟩
      cases hok : okPlan S ts al rs ch q with
      | false => rfl
      | true =>
        rcases h4 q hq h8 hok with rfl | h5
        · omega
        · rcases h5 with h5 | ⟨h5, _⟩ <;> omega
  · rename_i h0
    simp only at h
    omega
end Go.Proofs.Ytkhijdbigpaagaa
