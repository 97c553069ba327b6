import Derived.Test.YtjfdfhnfcpfmcaaGreatDoorMg
import Derived.Test.YtjfdfhnfcpfmcaaGreatDoorMi
import Derived.Test.YtjfdfhnfcpfmcaaGreatDoorMh
/-
  The least form of rights is one list: what Least and Both return, in lists of numbers.
-/
namespace Go.Proofs.YtjfdfhnfcpfmcaaGreatDoor
open Go.RowKit Go.Sort Go.Shelf Go.Maps RG

/-- The order of rights. -/
def ltI (x y : Int × Int) : Prop := x.1 < y.1 ∨ (x.1 = y.1 ∧ x.2 < y.2)
instance (x y : Int × Int) : Decidable (ltI x y) := by unfold ltI; exact inferInstance
theorem sorted_uniq {α : Type} (lt : α → α → Prop) (asym : ∀ a b, lt a b → lt b a → False) : ∀ l m : List α, l.Pairwise lt → m.Pairwise lt → (∀ x, x ∈ l ↔ x ∈ m) → l = m := by
  have irr : ∀ a, ¬ lt a a := fun a h => asym a a h h
  intro l
  induction l with
  | nil =>
    intro m _ _ h
    cases m with
    | nil => rfl
    | cons b m => exact absurd ((h b).2 (List.mem_cons_self ..)) (by simp)
  | cons a l ih =>
    intro m hl hm h
    cases m with
    | nil => exact absurd ((h a).1 (List.mem_cons_self ..)) (by simp)
    | cons b m =>
      rw [List.pairwise_cons] at hl hm
      have hab : a = b := by
        rcases List.mem_cons.1 ((h a).1 (List.mem_cons_self ..)) with e | ha
        · exact e
        · rcases List.mem_cons.1 ((h b).2 (List.mem_cons_self ..)) with e | hb
          · exact e.symm
          · exact (asym _ _ (hm.1 a ha) (hl.1 b hb)).elim
      subst hab
      congr 1
      refine ih m hl.2 hm.2 fun x => ⟨fun hx => ?_, fun hx => ?_⟩
      · rcases List.mem_cons.1 ((h x).1 (List.mem_cons_of_mem _ hx)) with rfl | h'
        · exact absurd (hl.1 x hx) (irr x)
        · exact h'
      · rcases List.mem_cons.1 ((h x).2 (List.mem_cons_of_mem _ hx)) with rfl | h'
        · exact absurd (hm.1 x hx) (irr x)
        · exact h'
theorem ltI_asym (a b : Int × Int) (h : ltI a b) (h' : ltI b a) : False := by unfold ltI at h h'; omega

/-- Weaker, of rights. -/
def wkI (cs : List Cls) (n : Nat) (x y : Int × Int) : Bool := weakB cs n (natR x) (natR y)
/-- L is the least form of the rights that are P. -/
def FormP (cs : List Cls) (n : Nat) (P : Int × Int → Prop) (L : List (Int × Int)) : Prop := L.Pairwise ltI ∧ ∀ x, x ∈ L ↔ P x ∧ ∀ y, P y → wkI cs n x y = false
theorem FormP.uniq {cs : List Cls} {n : Nat} {P Q : Int × Int → Prop} {L M : List (Int × Int)} (h : FormP cs n P L) (h' : FormP cs n Q M) (hpq : ∀ x, P x ↔ Q x) : L = M :=
  sorted_uniq ltI ltI_asym L M h.1 h'.1 fun x => by
    rw [h.2, h'.2, hpq]
    exact ⟨fun ⟨a, b⟩ => ⟨a, fun y hy => b y ((hpq y).2 hy)⟩, fun ⟨a, b⟩ => ⟨a, fun y hy => b y ((hpq y).1 hy)⟩⟩

/-- The numbers of rights. -/
def vals (L : List Rt) : List (Int × Int) := L.map (·.1)
theorem rtRow_vals (L : List Rt) : rtRow L = (vals L).map rtCells := by simp [rtRow, vals, rtCells]
theorem isForm_P {cs : List Cls} {n : Nat} {zs L : List Rt} (h : IsForm cs n zs L) : FormP cs n (· ∈ vals zs) (vals L) := by
  obtain ⟨ss, hnd, hm, rfl⟩ := h
  have hp := List.mergeSort_perm ss fun x y => !ltOf cfR y x
  have hs := List.pairwise_mergeSort (le := fun x y => !ltOf cfR y x) (fun a b c h1 h2 => by rw [ltR] at *; simp at *; omega) (fun a b => by rw [ltR, ltR]; simp; omega) ss
  have hnd2 : (sortR ss).Nodup := hp.nodup_iff.2 hnd
  refine ⟨?_, fun x => ?_⟩
  · unfold vals
    rw [List.pairwise_map]
    have hboth := hs.and hnd2
    refine hboth.imp ?_
    rintro a b ⟨h1, h2⟩
    rw [ltR] at h1
    simp only [Bool.not_eq_true', decide_eq_false_iff_not] at h1
    unfold ltI
    have hne : ¬ (a.1.1 = b.1.1 ∧ a.1.2 = b.1.2) := fun e => h2 (Subtype.ext (Prod.ext e.1 e.2))
    omega
  · unfold vals
    simp only [List.mem_map]
    constructor
    · rintro ⟨r, hr, rfl⟩
      have hr' := (hm r).1 (hp.mem_iff.1 hr)
      refine ⟨⟨r, hr'.1, rfl⟩, ?_⟩
      rintro y ⟨s, hs', rfl⟩
      exact hr'.2 s hs'
    · rintro ⟨⟨r, hr, rfl⟩, h2⟩
      exact ⟨r, hp.mem_iff.2 ((hm r).2 ⟨hr, fun y hy => h2 _ ⟨y, hy, rfl⟩⟩), rfl⟩
theorem vals_rtsL {S : Sys} (gd : Good S) {rs : List (Int × Int)} (h : GoodR S rs) : vals (rtsL rs) = rs := by
  apply List.ext_getElem
  · simp [vals, rtsL]
  · intro j h1 h2
    obtain ⟨c, k, e1, e2, _, _⟩ := rtsL_good gd h j h2
    have hj2 : j < (rtsL rs).length := by simpa [rtsL] using h2
    rw [List.getElem?_eq_getElem h2] at e1
    rw [List.getElem?_eq_getElem hj2] at e2
    simp only [Option.getD_some] at e1 e2
    simp only [vals, List.getElem_map, e1, e2]
theorem isRts_own {w : World} {base : Nat} {v : Value} {L : List Rt} (h : w.ownsRow base 64 2 v L.length (rtFlat L)) (hm : L.length ≤ maxLen) : IsRts (vals L) v w := by
  obtain ⟨A, c, rfl, hr, _, _⟩ := rts_of_own h
  rw [rtRow_vals] at hr
  exact ⟨A, c, by simp [vals], by simpa [vals] using hr, by simpa [vals] using hm⟩
end Go.Proofs.YtjfdfhnfcpfmcaaGreatDoor

/-
  Least and Both in lists of numbers; what Least, Both, Write and Read return at the examples.
-/
namespace Go.Proofs.YtjfdfhnfcpfmcaaGreatDoor
open Go.RowKit Go.Sort Go.Shelf Go.Maps RG

theorem FormP.nodup {cs : List Cls} {n : Nat} {P : Int × Int → Prop} {L : List (Int × Int)} (h : FormP cs n P L) : L.Nodup :=
  h.1.imp fun {a b} hlt e => by subst e; exact ltI_asym a a hlt hlt
theorem FormP.len {cs : List Cls} {n : Nat} {rs L : List (Int × Int)} (h : FormP cs n (· ∈ rs) L) : L.length ≤ rs.length :=
  nodup_le L rs h.nodup fun x hx => ((h.2 x).1 hx).1

/-- What Least returns. -/
def LeastE (S : Sys) (rs : List (Int × Int)) (e : Ending) (w : World) : Prop :=
  (openF S [rs] ≠ 0 ∧ e = .returned (.tuple #[.slice none 0 0, .int .i64 (openF S [rs])])) ∨
  (openF S [rs] = 0 ∧ ∃ v L, e = .returned (.tuple #[v, .int .i64 0]) ∧ FormP S.cs S.cs.length (· ∈ rs) L ∧ IsRts L v w)
theorem Least_E (A A2 R : Option Addr) (cc c2 cr : Nat) (S : Sys) (rs : List (Int × Int)) (w : World) (h : InMem w A A2 cc c2 S) (hr : RdRts w R rs.length rs) :
    Calls Tryz.prog 36 #[.agg #[.slice A S.cs.length cc, .slice A2 S.codes.length c2], .slice R rs.length cr] w fun e w' => LeastE S rs e w' ∧ Below w.heap.size w w' := by
  refine (Least_any A A2 R cc c2 cr S rs w h hr).mono ?_
  rintro e w' ⟨h1 | ⟨h1, v, L, rfl, hf, hown⟩, hb⟩
  · exact ⟨.inl h1, hb⟩
  · have gd := openF_good h1
    have gr := gd.2 rs (List.mem_cons_self ..)
    have hP := isForm_P hf
    rw [vals_rtsL gd.1 gr] at hP
    have hl := hP.len
    have := gr.1
    exact ⟨.inr ⟨h1, v, vals L, rfl, hP, isRts_own hown (by simp [vals] at hl; unfold maxLen; omega)⟩, hb⟩

/-- The rights that both of two lists yield. -/
def bothP (S : Sys) (ra rb : List (Int × Int)) (x : Int × Int) : Prop :=
  ∃ r ∈ ra, ∃ o ∈ rb, ∃ c : Nat, c < S.cs.length ∧ okC S.cs S.cs.length (natR r) (natR o) c = true ∧ x = ((c : Int), (((natR r).2 ||| (natR o).2 : Nat) : Int))
theorem natR_lt {S : Sys} (gd : Good S) {rs : List (Int × Int)} (h : GoodR S rs) {r : Int × Int} (hr : r ∈ rs) : (natR r).1 < S.cs.length ∧ (natR r).2 < 2 ^ S.codes.length ∧ (natR r).2 < 2 ^ 40 ∧ r = (((natR r).1 : Int), ((natR r).2 : Int)) := by
  obtain ⟨j, hj, rfl⟩ := List.mem_iff_getElem.1 hr
  obtain ⟨c, k, e1, h2, h3⟩ := h.2 j hj
  rw [List.getElem?_eq_getElem hj] at e1
  have e1 : rs[j] = ((c : Int), (k : Int)) := e1
  rw [e1]
  refine ⟨by simpa [natR] using h2, by simpa [natR] using h3, by simpa [natR] using pow8 gd h3, by simp [natR]⟩
theorem mem_nrL {S : Sys} (gd : Good S) {rs : List (Int × Int)} (h : GoodR S rs) (p : Nat × Nat) : p ∈ nrL (rtsL rs) ↔ ∃ r ∈ rs, p = natR r := by
  have hv := vals_rtsL gd h
  have : nrL (rtsL rs) = rs.map natR := by
    conv => rhs; rw [← hv]
    simp [nrL, vals]
  rw [this, List.mem_map]
  exact ⟨fun ⟨r, h1, h2⟩ => ⟨r, h1, h2.symm⟩, fun ⟨r, h1, h2⟩ => ⟨r, h1, h2.symm⟩⟩
theorem vals_bothL {S : Sys} (gd : Good S) {ra rb : List (Int × Int)} (ha : GoodR S ra) (hb : GoodR S rb) (x : Int × Int) : x ∈ vals (bothL S ra rb) ↔ bothP S ra rb x := by
  have hbd := gd.bd
  have key : ∀ r ∈ ra, ∀ o ∈ rb, ∀ c : Nat, c < S.cs.length → (bothRt (natR r) (natR o) c).1 = ((c : Int), (((natR r).2 ||| (natR o).2 : Nat) : Int)) := fun r hr o ho c hc =>
    mkRt_val (by omega) (Nat.or_lt_two_pow (natR_lt gd ha hr).2.2.1 (natR_lt gd hb ho).2.2.1)
  unfold vals bothL bothP
  simp only [List.mem_map, R1_mem, mem_nrL gd ha, mem_nrL gd hb]
  constructor
  · rintro ⟨y, ⟨_, ⟨r, hr, rfl⟩, _, ⟨o, ho, rfl⟩, c, hc, hok, rfl⟩, rfl⟩
    exact ⟨r, hr, o, ho, c, hc, hok, key r hr o ho c hc⟩
  · rintro ⟨r, hr, o, ho, c, hc, hok, rfl⟩
    exact ⟨_, ⟨_, ⟨r, hr, rfl⟩, _, ⟨o, ho, rfl⟩, c, hc, hok, rfl⟩, key r hr o ho c hc⟩
/-- What Both returns. -/
def BothE (S : Sys) (ra rb : List (Int × Int)) (e : Ending) (w : World) : Prop :=
  (openF S [ra, rb] ≠ 0 ∧ e = .returned (.tuple #[.slice none 0 0, .int .i64 (openF S [ra, rb])])) ∨
  (openF S [ra, rb] = 0 ∧ ∃ L, FormP S.cs S.cs.length (bothP S ra rb) L ∧ ((40 < L.length ∧ e = .returned (.tuple #[.slice none 0 0, .int .i64 3])) ∨
    (L.length ≤ 40 ∧ ∃ v, e = .returned (.tuple #[v, .int .i64 0]) ∧ IsRts L v w)))
theorem FormP.of {cs : List Cls} {n : Nat} {P Q : Int × Int → Prop} {L : List (Int × Int)} (h : FormP cs n P L) (hpq : ∀ x, P x ↔ Q x) : FormP cs n Q L :=
  ⟨h.1, fun x => by
    rw [h.2, hpq]
    exact ⟨fun ⟨a, b⟩ => ⟨a, fun y hy => b y ((hpq y).2 hy)⟩, fun ⟨a, b⟩ => ⟨a, fun y hy => b y ((hpq y).1 hy)⟩⟩⟩
theorem Both_E (A A2 R R' : Option Addr) (cc c2 cr cr' : Nat) (S : Sys) (ra rb : List (Int × Int)) (w : World) (h : InMem w A A2 cc c2 S) (hr : RdRts w R ra.length ra) (hr' : RdRts w R' rb.length rb) :
    Calls Tryz.prog 41 #[.agg #[.slice A S.cs.length cc, .slice A2 S.codes.length c2], .slice R ra.length cr, .slice R' rb.length cr'] w fun e w' => BothE S ra rb e w' ∧ Below w.heap.size w w' := by
  refine (Both_any A A2 R R' cc c2 cr cr' S ra rb w h hr hr').mono ?_
  rintro e w' ⟨h1 | ⟨h1, L, hf, h2⟩, hb⟩
  · exact ⟨.inl h1, hb⟩
  · have gd := openF_good h1
    have ga := gd.2 ra (List.mem_cons_self ..)
    have gb := gd.2 rb (List.mem_cons_of_mem _ (List.mem_cons_self ..))
    have hP := (isForm_P hf).of (vals_bothL gd.1 ga gb)
    refine ⟨.inr ⟨h1, vals L, hP, ?_⟩, hb⟩
    rcases h2 with ⟨h3, rfl⟩ | ⟨h3, v, rfl, hown⟩
    · exact .inl ⟨by simpa [vals] using h3, rfl⟩
    · exact .inr ⟨by simpa [vals] using h3, v, rfl, isRts_own hown (by unfold maxLen; omega)⟩

theorem least_k : LeastK := by
  rintro v r w ⟨A, A2, rfl, h⟩ ⟨R, c, rfl, hr⟩
  refine (Least_E A A2 R 4 2 c S0 R05 w h hr).mono ?_
  rintro e w' ⟨⟨h1, _⟩ | ⟨h1, v, L, rfl, hf, hr⟩, hb⟩
  · exact absurd (by decide +kernel) h1
  · have hL : FormP S0.cs S0.cs.length (· ∈ R05) L0 := by
      refine ⟨by decide, fun x => ?_⟩
      have hall : ∀ x ∈ R05, (x ∈ L0 ↔ ∀ y ∈ R05, wkI S0.cs S0.cs.length x y = false) := by decide +kernel
      have hsub : ∀ x ∈ L0, x ∈ R05 := by decide
      exact ⟨fun hx => ⟨hsub x hx, (hall x (hsub x hx)).1 hx⟩, fun ⟨hx, h2⟩ => (hall x hx).2 h2⟩
    obtain rfl : L = L0 := hf.uniq hL fun _ => Iff.rfl
    exact ⟨⟨v, rfl, hr⟩, hb⟩
end Go.Proofs.YtjfdfhnfcpfmcaaGreatDoor

/-
  Both, Write and Read at the examples; Awake.
-/
namespace Go.Proofs.YtjfdfhnfcpfmcaaGreatDoor
open Go.RowKit Go.Sort Go.Shelf Go.Maps RG

/-- The rights that both of two lists yield, as a list. -/
def bothI (S : Sys) (ra rb : List (Int × Int)) : List (Int × Int) :=
  ra.flatMap fun r => rb.flatMap fun o => ((List.range S.cs.length).filter fun c => okC S.cs S.cs.length (natR r) (natR o) c).map fun c : Nat => ((c : Int), (((natR r).2 ||| (natR o).2 : Nat) : Int))
theorem mem_bothI (S : Sys) (ra rb : List (Int × Int)) (x : Int × Int) : bothP S ra rb x ↔ x ∈ bothI S ra rb := by
  unfold bothP bothI
  simp only [List.mem_flatMap, List.mem_map, List.mem_filter, List.mem_range]
  constructor
  · rintro ⟨r, hr, o, ho, c, hc, hok, rfl⟩
    exact ⟨r, hr, o, ho, c, ⟨hc, hok⟩, rfl⟩
  · rintro ⟨r, hr, o, ho, c, ⟨hc, hok⟩, rfl⟩
    exact ⟨r, hr, o, ho, c, hc, hok, rfl⟩
theorem both_k : BothK := by
  rintro v r r' w ⟨A, A2, rfl, h⟩ ⟨R, c, rfl, hr⟩ ⟨R', c', rfl, hr'⟩
  refine (Both_E A A2 R R' 4 2 c c' S0 R0 [(3, 0)] w h hr hr').mono ?_
  rintro e w' ⟨⟨h1, _⟩ | ⟨h1, L, hf, h2⟩, hb⟩
  · exact absurd (by decide +kernel) h1
  · have hL : FormP S0.cs S0.cs.length (· ∈ bothI S0 R0 [(3, 0)]) B0 := by
      refine ⟨by decide, fun x => ?_⟩
      have hall : ∀ x ∈ bothI S0 R0 [(3, 0)], (x ∈ B0 ↔ ∀ y ∈ bothI S0 R0 [(3, 0)], wkI S0.cs S0.cs.length x y = false) := by decide +kernel
      have hsub : ∀ x ∈ B0, x ∈ bothI S0 R0 [(3, 0)] := by decide +kernel
      exact ⟨fun hx => ⟨hsub x hx, (hall x (hsub x hx)).1 hx⟩, fun ⟨hx, h2⟩ => (hall x hx).2 h2⟩
    obtain rfl : L = B0 := hf.uniq hL (mem_bothI S0 R0 [(3, 0)])
    rcases h2 with ⟨h3, _⟩ | ⟨_, v, rfl, hr⟩
    · exact absurd h3 (by decide)
    · exact ⟨⟨v, rfl, hr⟩, hb⟩
theorem write_k : WriteK := by
  rintro v r w ⟨A, A2, rfl, h⟩ ⟨R, c, rfl, hr⟩
  have := Write_any A A2 R 4 2 c S0 R0 w h hr
  rw [show writeF S0 R0 = (text0, 0) by decide +kernel] at this
  exact this
theorem read_k : ReadK := by
  rintro v w ⟨A, A2, rfl, h⟩
  refine (Read_any A A2 4 2 S0 ⟨#[98, 46, 110, 105, 103, 104, 116, 46, 109, 97, 110, 117, 97, 108]⟩ w h).mono ?_
  rintro e w' ⟨⟨A', c, he, _, _⟩, hb⟩
  rw [show readF S0 ⟨#[98, 46, 110, 105, 103, 104, 116, 46, 109, 97, 110, 117, 97, 108]⟩ = ([], 6) by decide +kernel] at he
  exact ⟨⟨_, he⟩, hb⟩
theorem Awake_any (w : World) (he : Env w) : Calls Tryz.prog 28 #[] w fun e w' => e = .returned (.bool true) ∧ Below w.heap.size w w' :=
  Awake_of least_k both_k write_k read_k w he
end Go.Proofs.YtjfdfhnfcpfmcaaGreatDoor
