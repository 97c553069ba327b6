import Derived.Test.YtkmhldjebopljaaQd
/-
  How great what is posted gets, as the law BookEven sums it. Of no program.
-/
namespace Go.Proofs.Ytkmhldjebopljaa
open Go.RowKit RG

def CentsOk (ps : List Pst) : Prop := ∀ p ∈ ps, p.cents ≤ 10000000
theorem post_cents {b : Bks} (h : CentsOk b.pst) (n f t : Int) {c : Int} (hc : c ≤ 10000000) : CentsOk (postB b n f t c).pst := by
  rw [post_list]
  intro p hp
  rcases List.mem_append.1 hp with h1 | h1
  · exact h p h1
  · split at h1
    · cases h1
    · rw [List.mem_singleton] at h1; subst h1; exact hc
theorem price_le {S : BSch} (hS : SchOk S) {l : Les} {nl nc : Nat} (hl : LesOk nl nc l) : l.hours * S.price ≤ 10000000 := by
  have hp := hS.price
  have hh := hl.2.2.1
  have h1 : l.hours * S.price ≤ 4 * S.price := Int.mul_le_mul_of_nonneg_right hh.2 (by omega)
  omega
theorem kind_cents {S : BSch} (hS : SchOk S) {b : Bks} {m : Int} (hok : BksOk S m b) (h : CentsOk b.pst) (n : Int) (e : BEv) : CentsOk (kindB S b n e).2.pst := by
  unfold kindB
  split
  · unfold bookB
    repeat' split
    all_goals exact h
  split
  · unfold cancelB
    split
    · exact h
    rename_i hb
    split
    · exact h
    · have hb' := hasB_iff (b := b) (i := e.booking) (s := 0) (by simpa using hb)
      have hl : LesOk S.learners.length S.cars.length (lesAt b e.booking) := les_at hok.les hb'.1.2
      refine post_cents (b := setLes b e.booking fun l => { l with state := 1 }) h _ _ _ ?_
      have h1 := (feeB_in hS (hours := (lesAt b e.booking).hours) (before := (lesAt b e.booking).start - e.at_) (by have := hl.2.2.1; omega)).2
      have h2 := price_le hS hl
      omega
  split
  · unfold weatherB
    split
    · exact h
    · show CentsOk (movesB S e _ _ _).pst
      rw [moves_pst]; exact h
  split
  · unfold driveB
    split
    · exact h
    rename_i hb
    have hb' := hasB_iff (b := b) (i := e.booking) (s := 0) (by simpa using hb)
    have hl : LesOk S.learners.length S.cars.length (lesAt b e.booking) := les_at hok.les hb'.1.2
    repeat' split
    · exact h
    · exact h
    · exact h
    · exact post_cents (b := { (setLes b e.booking fun l => { l with state := 2 }) with km := addAt b.km (lesAt b e.booking).car e.km, since := addAt b.since (lesAt b e.booking).car e.km }) h _ _ _ (price_le hS hl)
  split
  · unfold serviceB
    split
    · exact h
    split
    · exact h
    · rename_i h5
      have h6 := inI_iff.1 (show inI 0 10000000 e.cents = true by simpa using h5)
      exact post_cents (b := { b with since := b.since.set e.car.toNat 0 }) h _ _ _ h6.2
  split
  · unfold crashB
    split
    · exact h
    split
    · exact h
    · rename_i h5
      have h6 := inI_iff.1 (show inI 0 10000000 e.cents = true by simpa using h5)
      have hx := hS.excess
      refine post_cents (post_cents (b := setLes b e.booking fun l => { l with state := 3 }) h _ _ _ ?_) _ _ _ ?_
      · omega
      · omega
  · unfold payB
    split
    · exact h
    split
    · exact h
    · rename_i h5
      have h6 := inI_iff.1 (show inI 0 10000000 e.cents = true by simpa using h5)
      exact post_cents h _ _ _ h6.2
theorem tell_cents {S : BSch} (hS : SchOk S) {b : Bks} {m : Int} (hok : BksOk S m b) (h : CentsOk b.pst) (n : Int) (e : BEv) : CentsOk (tellB S b n e).2.pst := by
  unfold tellB
  repeat' split
  · exact h
  · exact h
  · exact kind_cents hS hok h n e
  · exact h
theorem bk_cents {S : BSch} (hS : SchOk S) (es : List BEv) : ∀ {j : Nat}, j ≤ es.length → CentsOk (bk S es j).pst
  | 0, _ => fun _ h => by cases h
  | j + 1, hj => by
    rw [(bk_succ S es (by omega : j < es.length)).1]
    exact tell_cents hS (bk_ok hS es (by omega : j ≤ es.length)) (bk_cents hS es (j := j) (by omega)) _ _
/-- The accounts after the first postings are not great. -/
theorem fold_lim {k : Nat} : ∀ (ps : List Pst) (l : List Int) (d : Int), 0 ≤ d → (∀ a ∈ l, -d ≤ a ∧ a ≤ d) → (∀ p ∈ ps, PstOk k p ∧ p.cents ≤ 10000000) → ∀ a ∈ ps.foldl applyP l, -(d + ps.length * 10000000) ≤ a ∧ a ≤ d + ps.length * 10000000
  | [], l, d, _, h, _ => fun a ha => by have := h a ha; simp only [List.length_nil]; omega
  | p :: ps, l, d, hd, h, hp => by
    intro a ha
    rw [List.foldl_cons] at ha
    have hp0 := hp p (List.mem_cons_self ..)
    have hc := hp0.1.2.2.2
    have h1 : ∀ a ∈ applyP l p, -(d + 10000000) ≤ a ∧ a ≤ d + 10000000 := by
      intro a ha
      unfold applyP at ha
      have h2 := addAt_lim (l := addAt l p.frm (-p.cents)) (i := p.to) (x := p.cents) (dl := 0) (dh := 10000000) (addAt_lim (l := l) (i := p.frm) (x := -p.cents) (dl := -10000000) (dh := 0) h (by omega) (by omega)) (by omega) (by omega) a ha
      omega
    have h3 := fold_lim ps (applyP l p) (d + 10000000) (by omega) h1 (fun q hq => hp q (List.mem_cons_of_mem _ hq)) a ha
    rw [List.length_cons]
    omega
theorem fold_step {ps : List Pst} {j : Nat} {p : Pst} (h : ps[j]? = some p) (l : List Int) : (ps.take (j + 1)).foldl applyP l = applyP ((ps.take j).foldl applyP l) p := by
  obtain ⟨hk, e⟩ := List.getElem?_eq_some_iff.1 h
  rw [List.take_succ_eq_append_getElem hk, List.foldl_append, e]
  rfl
theorem applyP_nat {l : List Int} {p : Pst} {f t : Nat} (hf : p.frm = f) (ht : p.to = t) (hne : f ≠ t) : applyP l p = (l.set f (l[f]?.getD 0 - p.cents)).set t (l[t]?.getD 0 + p.cents) := by
  unfold applyP
  rw [hf, ht, addAt_nat, addAt_nat, List.getElem?_set_ne hne]
  rfl
/-- All that the law needs of what was posted. -/
structure EvenAll (S : BSch) (n : Nat) (b : Bks) : Prop where
  ok : ∀ p ∈ b.pst, PstOk (S.learners.length + 4) p ∧ (0 ≤ p.event ∧ p.event < n) ∧ p.cents ≤ 10000000
  asc : ∀ i p q, b.pst[i]? = some p → b.pst[i + 1]? = some q → p.event ≤ q.event
  lim : ∀ i, i ≤ b.pst.length → ∀ a ∈ (b.pst.take i).foldl applyP (List.replicate (S.learners.length + 4) 0), -2000000000 ≤ a ∧ a ≤ 2000000000
  acc : b.acc = b.pst.foldl applyP (List.replicate (S.learners.length + 4) 0)
  few : b.pst.length ≤ 200
  even : b.acc.sum = 0
  len : b.acc.length = S.learners.length + 4
  accl : ∀ a ∈ b.acc, -2000000000 ≤ a ∧ a ≤ 2000000000
theorem even_all {S : BSch} {es : List BEv} (h : runE S es = 0) : EvenAll S es.length (runR S es).2 := by
  have ha := after_of h
  have hc : CentsOk (runR S es).2.pst := by rw [(runR_er h).2]; exact bk_cents (sch_ok ha.sch) es (Nat.le_refl _)
  have hlim : ∀ i, i ≤ (runR S es).2.pst.length → ∀ a ∈ ((runR S es).2.pst.take i).foldl applyP (List.replicate (S.learners.length + 4) 0), -2000000000 ≤ a ∧ a ≤ 2000000000 := by
    intro i hi a haa
    have h1 := fold_lim (k := S.learners.length + 4) ((runR S es).2.pst.take i) (List.replicate (S.learners.length + 4) 0) 0 (by omega) (fun a ha => by have := List.eq_of_mem_replicate ha; omega) (fun p hp => ⟨(ha.ok.pst p (List.mem_of_mem_take hp)).1, hc p (List.mem_of_mem_take hp)⟩) a haa
    have h2 := ha.gd.lim.pst
    have h3 : ((runR S es).2.pst.take i).length ≤ 200 := by rw [List.length_take]; omega
    omega
  refine ⟨fun p hp => ⟨(ha.ok.pst p hp).1, (ha.ok.pst p hp).2, hc p hp⟩, ?_, hlim, ha.ok.acc, ha.gd.lim.pst, ha.ok.even, ha.ok.accLen, ?_⟩
  · intro i p q hp hq
    have hpw := ha.ok.asc
    rw [List.pairwise_iff_getElem] at hpw
    obtain ⟨h1, rfl⟩ := List.getElem?_eq_some_iff.1 hp
    obtain ⟨h2, rfl⟩ := List.getElem?_eq_some_iff.1 hq
    exact hpw i (i + 1) h1 h2 (by omega)
  · intro a haa
    rw [ha.ok.acc] at haa
    have := hlim (runR S es).2.pst.length (Nat.le_refl _) a
    rw [List.take_length] at this
    exact this haa
theorem sum_take {xs : List Int} {i : Nat} (hi : i < xs.length) : (xs.take (i + 1)).sum = (xs.take i).sum + xs[i]?.getD 0 := by
  rw [List.take_succ_eq_append_getElem hi, List.sum_append, List.getElem?_eq_getElem hi]
  simp
theorem sum_lim {xs : List Int} {d : Int} (hd : 0 ≤ d) (h : ∀ a ∈ xs, -d ≤ a ∧ a ≤ d) : ∀ i, i ≤ xs.length → -(i * d) ≤ (xs.take i).sum ∧ (xs.take i).sum ≤ i * d
  | 0, _ => by simp
  | i + 1, hi => by
    have h1 := sum_lim hd h i (by omega)
    have h2 := getI_lim h (j := i) (by omega)
    rw [sum_take (by omega)]
    have e : ((i + 1 : Nat) : Int) * d = i * d + d := by rw [Int.natCast_add, Int.add_mul]; simp
    rw [e]
    omega
end Go.Proofs.Ytkmhldjebopljaa
