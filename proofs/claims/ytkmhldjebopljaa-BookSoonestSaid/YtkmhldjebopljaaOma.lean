/-
  What package book does, as a function on data: schools, events, what there is after them. Of no program.
-/
namespace Go.Proofs.Ytkmhldjebopljaa

structure BCar where
  name : ByteArray
  km : Int
  every : Int
  never : Int
structure BTerm where
  before : Int
  fee : Int
structure BSch where
  learners : List ByteArray
  cars : List BCar
  price : Int
  excess : Int
  lo : Int
  hi : Int
  terms : List BTerm
structure Les where
  learner : Int
  car : Int
  start : Int
  hours : Int
  state : Int
deriving DecidableEq, Inhabited
structure BEv where
  kind : Int
  at_ : Int
  learner : Int
  car : Int
  booking : Int
  start : Int
  hours : Int
  day : Int
  weather : Int
  km : Int
  cents : Int
deriving Inhabited
structure Pst where
  event : Int
  frm : Int
  to : Int
  cents : Int
deriving DecidableEq
/-- What there is: lessons, kilometres, those since the last service, accounts; the weathers that days have had; what was posted; the time. -/
structure Bks where
  les : List Les
  km : List Int
  since : List Int
  acc : List Int
  wt : List (Int × Int)
  pst : List Pst
  time : Int
def inI (lo hi x : Int) : Bool := decide (lo ≤ x) && decide (x ≤ hi)
theorem inI_iff {lo hi x : Int} : inI lo hi x = true ↔ lo ≤ x ∧ x ≤ hi := by simp [inI]
/-- The part of the price, in per mille, that a cancellation costs. -/
def partT : List BTerm → Int → Int
  | [], _ => 1000
  | t :: r, before => if t.before ≤ before then t.fee else partT r before
def feeB (S : BSch) (hours before : Int) : Int := (hours * S.price * partT S.terms before + 999) / 1000
/-- Whether a lesson is within the hours of a day in which the school is open. -/
def fitsB (S : BSch) (l : Les) : Bool := decide (S.lo ≤ l.start % 24) && decide (l.start % 24 + l.hours ≤ S.hi)
def never (S : BSch) (car : Int) : Nat := ((S.cars[car.toNat]?.map BCar.never).getD 0).toNat
/-- Whether a car is driven in all weathers that a day has had. -/
def dryB (S : BSch) (wt : List (Int × Int)) (car day : Int) : Bool := wt.all fun s => !(decide (s.1 = day) && (never S car).testBit s.2.toNat)
def clash (a b : Les) : Bool := (decide (a.learner = b.learner) || decide (a.car = b.car)) && (decide (a.start < b.start + b.hours) && decide (b.start < a.start + a.hours))
def freeB (les : List Les) (l : Les) : Bool := les.all fun x => !(decide (x.state = 0) && clash x l)
/-- The error of a lesson that somebody wants at some time. -/
def lesErr (S : BSch) (b : Bks) (l : Les) (time : Int) : Int :=
  if l.start ≤ time ∨ fitsB S l = false then 2 else if dryB S b.wt l.car (l.start / 24) = false then 9 else if freeB b.les l = false then 5 else 0
def hasB (b : Bks) (number state : Int) : Bool := inI 0 ((b.les.length : Int) - 1) number && decide ((b.les[number.toNat]?.getD default).state = state)
def addAt (l : List Int) (i : Int) (x : Int) : List Int := l.set i.toNat (l[i.toNat]?.getD 0 + x)
def postB (b : Bks) (ev frm to cents : Int) : Bks := if cents = 0 then b else { b with acc := addAt (addAt b.acc frm (-cents)) to cents, pst := b.pst ++ [⟨ev, frm, to, cents⟩] }
def setLes (b : Bks) (i : Int) (f : Les → Les) : Bks := { b with les := b.les.set i.toNat (f (b.les[i.toNat]?.getD default)) }
/-- The first of some later days at which a lesson is free, of n days. -/
def laterB (S : BSch) (b : Bks) (l : Les) : Nat → Int → Option Les
  | 0, _ => none
  | n + 1, start => if start + l.hours ≤ 4800 then (if dryB S b.wt l.car (start / 24) && freeB b.les { l with start := start } then some { l with start := start } else laterB S b l n (start + 24)) else none
def moveB (S : BSch) (b : Bks) (i : Nat) : Bks :=
  { b with les := b.les.set i (match laterB S b (b.les[i]?.getD default) 201 ((b.les[i]?.getD default).start + 24) with
    | some l => l
    | none => { (b.les[i]?.getD default) with state := 1 }) }
/-- The lessons that a weather moves, from the i-th on. -/
def movesB (S : BSch) (e : BEv) : Nat → Nat → Bks → Bks
  | 0, _, b => b
  | n + 1, i, b => movesB S e n (i + 1) (if (b.les[i]?.getD default).state = 0 ∧ (b.les[i]?.getD default).start / 24 = e.day ∧ e.at_ < (b.les[i]?.getD default).start ∧ (never S (b.les[i]?.getD default).car).testBit e.weather.toNat = true then moveB S b i else b)
/-- What each kind of event makes, and its error. -/
def bookB (S : BSch) (b : Bks) (e : BEv) : Int × Bks :=
  if inI 0 ((S.learners.length : Int) - 1) e.learner = false ∨ inI 0 ((S.cars.length : Int) - 1) e.car = false then (4, b)
  else if inI 1 4 e.hours = false ∨ inI 0 4800 e.start = false then (7, b)
  else if lesErr S b ⟨e.learner, e.car, e.start, e.hours, 0⟩ e.at_ = 0 then (0, { b with les := b.les ++ [⟨e.learner, e.car, e.start, e.hours, 0⟩] })
  else (lesErr S b ⟨e.learner, e.car, e.start, e.hours, 0⟩ e.at_, b)
def lesAt (b : Bks) (i : Int) : Les := b.les[i.toNat]?.getD default
def cancelB (S : BSch) (b : Bks) (n : Int) (e : BEv) : Int × Bks :=
  if hasB b e.booking 0 = false then (4, b) else if (lesAt b e.booking).start ≤ e.at_ then (2, b)
  else (0, postB (setLes b e.booking fun l => { l with state := 1 }) n (lesAt b e.booking).learner S.learners.length (feeB S (lesAt b e.booking).hours ((lesAt b e.booking).start - e.at_)))
def weatherB (S : BSch) (b : Bks) (e : BEv) : Int × Bks :=
  if inI 0 200 e.day = false ∨ inI 0 7 e.weather = false then (7, b) else (0, movesB S e b.les.length 0 { b with wt := b.wt ++ [(e.day, e.weather)] })
def everyB (S : BSch) (car : Int) : Int := (S.cars[car.toNat]?.map BCar.every).getD 0
def driveB (S : BSch) (b : Bks) (n : Int) (e : BEv) : Int × Bks :=
  if hasB b e.booking 0 = false then (4, b) else if e.at_ < (lesAt b e.booking).start + (lesAt b e.booking).hours then (2, b) else if inI 0 400 e.km = false then (7, b)
  else if everyB S (lesAt b e.booking).car < b.since[(lesAt b e.booking).car.toNat]?.getD 0 then (9, b)
  else (0, postB { (setLes b e.booking fun l => { l with state := 2 }) with km := addAt b.km (lesAt b e.booking).car e.km, since := addAt b.since (lesAt b e.booking).car e.km } n (lesAt b e.booking).learner S.learners.length ((lesAt b e.booking).hours * S.price))
def serviceB (S : BSch) (b : Bks) (n : Int) (e : BEv) : Int × Bks :=
  if inI 0 ((S.cars.length : Int) - 1) e.car = false then (4, b) else if inI 0 10000000 e.cents = false then (7, b)
  else (0, postB { b with since := b.since.set e.car.toNat 0 } n S.learners.length ((S.learners.length : Int) + 1) e.cents)
def crashB (S : BSch) (b : Bks) (n : Int) (e : BEv) : Int × Bks :=
  if hasB b e.booking 2 = false then (4, b) else if inI 0 10000000 e.cents = false then (7, b)
  else (0, postB (postB (setLes b e.booking fun l => { l with state := 3 }) n S.learners.length ((S.learners.length : Int) + 1) (min e.cents S.excess)) n ((S.learners.length : Int) + 2) ((S.learners.length : Int) + 1) (e.cents - min e.cents S.excess))
def payB (S : BSch) (b : Bks) (n : Int) (e : BEv) : Int × Bks :=
  if inI 0 ((S.learners.length : Int) - 1) e.learner = false then (4, b) else if inI 0 10000000 e.cents = false then (7, b)
  else (0, postB b n ((S.learners.length : Int) + 3) e.learner e.cents)
def kindB (S : BSch) (b : Bks) (n : Int) (e : BEv) : Int × Bks :=
  if e.kind = 0 then bookB S b e else if e.kind = 1 then cancelB S b n e else if e.kind = 2 then weatherB S b e else if e.kind = 3 then driveB S b n e
  else if e.kind = 4 then serviceB S b n e else if e.kind = 5 then crashB S b n e else payB S b n e
/-- What an event makes, and its error. -/
def tellB (S : BSch) (b : Bks) (n : Int) (e : BEv) : Int × Bks :=
  if inI 0 6 e.kind = false then (2, b) else if inI 0 4800 e.at_ = false ∨ e.at_ < b.time then (7, b)
  else if (kindB S b n e).1 = 0 then (0, { (kindB S b n e).2 with time := e.at_ }) else ((kindB S b n e).1, b)
def startB (S : BSch) : Bks := ⟨[], S.cars.map BCar.km, S.cars.map fun _ => 0, List.replicate (S.learners.length + 4) 0, [], [], 0⟩
/-- All events from the n-th on. -/
def runB (S : BSch) : List BEv → Int → Bks → List Int × Bks
  | [], _, b => ([], b)
  | e :: r, n, b => ((tellB S b n e).1 :: (runB S r (n + 1) (tellB S b n e).2).1, (runB S r (n + 1) (tellB S b n e).2).2)
end Go.Proofs.Ytkmhldjebopljaa

/-
  What stays of the books of a school, whatever is told: shapes, accounts and postings, kilometres. Of no program.
-/
namespace Go.Proofs.Ytkmhldjebopljaa

/-- What a posting makes of accounts. -/
def applyP (acc : List Int) (p : Pst) : List Int := addAt (addAt acc p.frm (-p.cents)) p.to p.cents
theorem addAt_len (l : List Int) (i x : Int) : (addAt l i x).length = l.length := by simp [addAt]
theorem applyP_len (l : List Int) (p : Pst) : (applyP l p).length = l.length := by simp [applyP, addAt_len]
theorem sum_set : ∀ (l : List Int) (i : Nat) (x : Int), i < l.length → (l.set i (l[i]?.getD 0 + x)).sum = l.sum + x
  | [], i, x, h => by simp at h
  | y :: l, 0, x, _ => by simp; omega
  | y :: l, i + 1, x, h => by
    have := sum_set l i x (by simpa using h)
    simp only [List.set_cons_succ, List.sum_cons, List.getElem?_cons_succ]
    omega
theorem addAt_sum (l : List Int) {i x : Int} (h : 0 ≤ i ∧ i < l.length) : (addAt l i x).sum = l.sum + x := sum_set l i.toNat x (by omega)
/-- A posting between two accounts that there are. -/
def PstOk (k : Nat) (p : Pst) : Prop := (0 ≤ p.frm ∧ p.frm < k) ∧ (0 ≤ p.to ∧ p.to < k) ∧ p.frm ≠ p.to ∧ 0 < p.cents
theorem applyP_sum {k : Nat} {l : List Int} {p : Pst} (hl : l.length = k) (h : PstOk k p) : (applyP l p).sum = l.sum := by
  unfold applyP
  rw [addAt_sum _ (by rw [addAt_len, hl]; exact h.2.1), addAt_sum _ (by rw [hl]; exact h.1)]
  omega
theorem fold_len : ∀ (ps : List Pst) (l : List Int), (ps.foldl applyP l).length = l.length
  | [], _ => rfl
  | p :: ps, l => by rw [List.foldl_cons, fold_len ps, applyP_len]
theorem fold_sum {k : Nat} : ∀ (ps : List Pst) (l : List Int), l.length = k → (∀ p ∈ ps, PstOk k p) → (ps.foldl applyP l).sum = l.sum
  | [], _, _, _ => rfl
  | p :: ps, l, hl, h => by
    rw [List.foldl_cons, fold_sum ps _ (by rw [applyP_len, hl]) (fun q hq => h q (List.mem_cons_of_mem _ hq)), applyP_sum hl (h p (List.mem_cons_self ..))]
/-- A lesson of a school of nl learners and nc cars. -/
def LesOk (nl nc : Nat) (l : Les) : Prop := (0 ≤ l.learner ∧ l.learner < nl) ∧ (0 ≤ l.car ∧ l.car < nc) ∧ (1 ≤ l.hours ∧ l.hours ≤ 4) ∧ (0 ≤ l.start ∧ l.start ≤ 4800) ∧ (0 ≤ l.state ∧ l.state ≤ 3)
/-- What the books of a school are like, after events with numbers below n. -/
structure BksOk (S : BSch) (n : Int) (b : Bks) : Prop where
  les : ∀ l ∈ b.les, LesOk S.learners.length S.cars.length l
  km : b.km.length = S.cars.length
  since : b.since.length = S.cars.length
  acc : b.acc = b.pst.foldl applyP (List.replicate (S.learners.length + 4) 0)
  pst : ∀ p ∈ b.pst, PstOk (S.learners.length + 4) p ∧ 0 ≤ p.event ∧ p.event < n
  asc : b.pst.Pairwise fun p q => p.event ≤ q.event
  time : 0 ≤ b.time ∧ b.time ≤ 4800
theorem BksOk.accLen {S : BSch} {n : Int} {b : Bks} (h : BksOk S n b) : b.acc.length = S.learners.length + 4 := by rw [h.acc, fold_len]; simp
/-- All accounts together have nothing. -/
theorem BksOk.even {S : BSch} {n : Int} {b : Bks} (h : BksOk S n b) : b.acc.sum = 0 := by
  rw [h.acc, fold_sum (k := S.learners.length + 4) _ _ (by simp) fun p hp => (h.pst p hp).1]
  simp
theorem BksOk.more {S : BSch} {n : Int} {b : Bks} (h : BksOk S n b) : BksOk S (n + 1) b :=
  ⟨h.les, h.km, h.since, h.acc, fun p hp => ⟨(h.pst p hp).1, (h.pst p hp).2.1, by have := (h.pst p hp).2.2; omega⟩, h.asc, h.time⟩
/-- A posting with the number n keeps the books of events up to n. -/
theorem BksOk.post {S : BSch} {n : Int} {b : Bks} (h : BksOk S (n + 1) b) (hn : 0 ≤ n) {f t c : Int} (hf : 0 ≤ f ∧ f < S.learners.length + 4) (ht : 0 ≤ t ∧ t < S.learners.length + 4) (hne : f ≠ t) (hc : 0 ≤ c) : BksOk S (n + 1) (postB b n f t c) := by
  unfold postB
  split
  · exact h
  · rename_i h0
    have hp : PstOk (S.learners.length + 4) ⟨n, f, t, c⟩ := ⟨hf, ht, hne, by show 0 < c; omega⟩
    refine ⟨h.les, h.km, h.since, ?_, ?_, ?_, h.time⟩
    · show addAt (addAt b.acc f (-c)) t c = (b.pst ++ [(⟨n, f, t, c⟩ : Pst)]).foldl applyP _
      rw [List.foldl_append, ← h.acc]; rfl
    · intro p hp'
      rcases List.mem_append.1 hp' with h1 | h1
      · exact h.pst p h1
      · rw [List.mem_singleton] at h1
        subst h1
        exact ⟨hp, hn, by show n < n + 1; omega⟩
    · show (b.pst ++ [(⟨n, f, t, c⟩ : Pst)]).Pairwise fun p q => p.event ≤ q.event
      rw [List.pairwise_append]
      refine ⟨h.asc, List.pairwise_singleton _ _, fun p hp1 q hq => ?_⟩
      rw [List.mem_singleton] at hq
      subst hq
      have := (h.pst p hp1).2.2
      show p.event ≤ n
      omega
theorem les_set {nl nc : Nat} {ls : List Les} (h : ∀ l ∈ ls, LesOk nl nc l) {i : Nat} {x : Les} (hx : i < ls.length → LesOk nl nc x) : ∀ l ∈ ls.set i x, LesOk nl nc l := by
  intro l hl
  by_cases hi : i < ls.length
  · rcases List.mem_or_eq_of_mem_set hl with h1 | h1
    · exact h l h1
    · subst h1; exact hx hi
  · rw [List.set_eq_of_length_le (by omega)] at hl; exact h l hl
theorem les_at {nl nc : Nat} {ls : List Les} (h : ∀ l ∈ ls, LesOk nl nc l) {i : Nat} (hi : i < ls.length) : LesOk nl nc (ls[i]?.getD default) := by
  rw [List.getElem?_eq_getElem hi]; exact h _ (List.getElem_mem hi)
theorem later_ok {S : BSch} {b : Bks} {l : Les} {nl nc : Nat} (hl : LesOk nl nc l) : ∀ {n : Nat} {start : Int} {x : Les}, 0 ≤ start → laterB S b l n start = some x → LesOk nl nc x
  | 0, _, _, _, h => by cases h
  | n + 1, start, x, hs, h => by
    unfold laterB at h
    split at h
    · rename_i h1
      split at h
      · injection h with h; subst h
        obtain ⟨a, b', c, d, e⟩ := hl
        exact ⟨a, b', c, ⟨hs, by show start ≤ 4800; omega⟩, e⟩
      · exact later_ok hl (by omega) h
    · cases h
/-- What a move leaves as it was. -/
theorem move_ok {S : BSch} {n : Int} {b : Bks} (h : BksOk S n b) (i : Nat) : BksOk S n (moveB S b i) := by
  refine { h with les := ?_ }
  show ∀ l ∈ (moveB S b i).les, _
  unfold moveB
  refine les_set h.les fun hi => ?_
  have hl := les_at h.les hi
  split
  · rename_i x hx
    exact later_ok hl (by have := hl.2.2.2.1; omega) hx
  · obtain ⟨a, b', c, d, e⟩ := hl
    exact ⟨a, b', c, d, by show (0 : Int) ≤ 1 ∧ (1 : Int) ≤ 3; omega⟩
theorem moves_ok {S : BSch} {e : BEv} {n : Int} : ∀ (k i : Nat) {b : Bks}, BksOk S n b → BksOk S n (movesB S e k i b)
  | 0, _, _, h => h
  | k + 1, i, b, h => by
    unfold movesB
    refine moves_ok k (i + 1) ?_
    split
    · exact move_ok h i
    · exact h
theorem hasB_iff {b : Bks} {i s : Int} (h : hasB b i s = true) : (0 ≤ i ∧ i.toNat < b.les.length) ∧ (b.les[i.toNat]?.getD default).state = s := by
  unfold hasB at h
  rw [Bool.and_eq_true, inI_iff, decide_eq_true_iff] at h
  exact ⟨by omega, h.2⟩
theorem setLes_ok {S : BSch} {n : Int} {b : Bks} (h : BksOk S n b) {i : Int} {f : Les → Les} (hf : ∀ l, LesOk S.learners.length S.cars.length l → LesOk S.learners.length S.cars.length (f l)) : BksOk S n (setLes b i f) :=
  ⟨les_set h.les fun hi => hf _ (les_at h.les hi), h.km, h.since, h.acc, h.pst, h.asc, h.time⟩
theorem BksOk.timed {S : BSch} {n : Int} {b : Bks} (h : BksOk S n b) {t : Int} (ht : 0 ≤ t ∧ t ≤ 4800) : BksOk S n { b with time := t } := ⟨h.les, h.km, h.since, h.acc, h.pst, h.asc, ht⟩
theorem partT_in : ∀ (ts : List BTerm) (before : Int), (∀ t ∈ ts, 0 ≤ t.fee ∧ t.fee ≤ 1000) → 0 ≤ partT ts before ∧ partT ts before ≤ 1000
  | [], _, _ => by unfold partT; omega
  | t :: r, before, h => by
    unfold partT
    split
    · exact h t (List.mem_cons_self ..)
    · exact partT_in r before fun x hx => h x (List.mem_cons_of_mem _ hx)
/-- A school whose numbers are in their ranges. -/
structure SchOk (S : BSch) : Prop where
  price : 1 ≤ S.price ∧ S.price ≤ 10000
  excess : 0 ≤ S.excess ∧ S.excess ≤ 10000000
  terms : ∀ t ∈ S.terms, 0 ≤ t.fee ∧ t.fee ≤ 1000
theorem feeB_in {S : BSch} (hS : SchOk S) {hours before : Int} (hh : 0 ≤ hours) : 0 ≤ feeB S hours before ∧ feeB S hours before ≤ hours * S.price := by
  obtain ⟨h1, h2⟩ := partT_in S.terms before hS.terms
  have hp : 0 ≤ hours * S.price := Int.mul_nonneg hh (by have := hS.price.1; omega)
  unfold feeB
  generalize hours * S.price = x at *
  have h3 : 0 ≤ x * partT S.terms before := Int.mul_nonneg hp h1
  have h4 : x * partT S.terms before ≤ x * 1000 := Int.mul_le_mul_of_nonneg_left h2 hp
  generalize x * partT S.terms before = y at *
  omega
theorem book_ok {S : BSch} {n : Int} {b : Bks} (h : BksOk S n b) (e : BEv) : BksOk S n (bookB S b e).2 := by
  unfold bookB
  split
  · exact h
  · rename_i hw
    split
    · exact h
    · rename_i hr
      split
      · refine ⟨?_, h.km, h.since, h.acc, h.pst, h.asc, h.time⟩
        intro l hl
        rcases List.mem_append.1 hl with h1 | h1
        · exact h.les l h1
        · rw [List.mem_singleton] at h1
          subst h1
          simp only [not_or, Bool.not_eq_false, inI_iff] at hw hr
          refine ⟨?_, ?_, ?_, ?_, ?_⟩
          · show 0 ≤ e.learner ∧ e.learner < _; omega
          · show 0 ≤ e.car ∧ e.car < _; omega
          · exact hr.1
          · exact hr.2
          · show (0 : Int) ≤ 0 ∧ (0 : Int) ≤ 3; omega
      · exact h
theorem cancel_ok {S : BSch} (hS : SchOk S) {n : Int} (hn : 0 ≤ n) {b : Bks} (h : BksOk S (n + 1) b) (e : BEv) : BksOk S (n + 1) (cancelB S b n e).2 := by
  unfold cancelB
  split
  · exact h
  · rename_i hb
    have hb := hasB_iff (by simpa using hb)
    have hl : LesOk S.learners.length S.cars.length (lesAt b e.booking) := les_at h.les hb.1.2
    split
    · exact h
    · refine BksOk.post (setLes_ok h ?_) hn ?_ ?_ ?_ ?_
      · rintro l ⟨a, b', c, d, _⟩
        exact ⟨a, b', c, d, by show (0 : Int) ≤ 1 ∧ (1 : Int) ≤ 3; omega⟩
      · have := hl.1; omega
      · omega
      · have := hl.1; omega
      · exact (feeB_in hS (by have := hl.2.2.1; omega)).1
theorem weather_ok {S : BSch} {n : Int} {b : Bks} (h : BksOk S n b) (e : BEv) : BksOk S n (weatherB S b e).2 := by
  unfold weatherB
  split
  · exact h
  · exact moves_ok _ _ ⟨h.les, h.km, h.since, h.acc, h.pst, h.asc, h.time⟩
theorem drive_ok {S : BSch} (hS : SchOk S) {n : Int} (hn : 0 ≤ n) {b : Bks} (h : BksOk S (n + 1) b) (e : BEv) : BksOk S (n + 1) (driveB S b n e).2 := by
  unfold driveB
  split
  · exact h
  · rename_i hb
    have hb := hasB_iff (by simpa using hb)
    have hl : LesOk S.learners.length S.cars.length (lesAt b e.booking) := les_at h.les hb.1.2
    split
    · exact h
    · split
      · exact h
      · split
        · exact h
        · have h2 : BksOk S (n + 1) (setLes b e.booking fun l => { l with state := 2 }) := setLes_ok h (by
            rintro l ⟨a, b', c, d, _⟩
            exact ⟨a, b', c, d, by show (0 : Int) ≤ 2 ∧ (2 : Int) ≤ 3; omega⟩)
          have h3 : BksOk S (n + 1) { (setLes b e.booking fun l => { l with state := 2 }) with km := addAt b.km (lesAt b e.booking).car e.km, since := addAt b.since (lesAt b e.booking).car e.km } := ⟨h2.les, by show (addAt b.km _ _).length = _; rw [addAt_len]; exact h.km, by show (addAt b.since _ _).length = _; rw [addAt_len]; exact h.since, h2.acc, h2.pst, h2.asc, h2.time⟩
          refine h3.post hn ?_ ?_ ?_ ?_
          · have := hl.1; omega
          · omega
          · have := hl.1; omega
          · exact Int.mul_nonneg (by have := hl.2.2.1; omega) (by have := hS.price; omega)
theorem service_ok {S : BSch} {n : Int} (hn : 0 ≤ n) {b : Bks} (h : BksOk S (n + 1) b) (e : BEv) : BksOk S (n + 1) (serviceB S b n e).2 := by
  unfold serviceB
  split
  · exact h
  · split
    · exact h
    · rename_i hc
      simp only [Bool.not_eq_false, inI_iff] at hc
      have h3 : BksOk S (n + 1) { b with since := b.since.set e.car.toNat 0 } := ⟨h.les, h.km, by show (b.since.set _ _).length = _; rw [List.length_set]; exact h.since, h.acc, h.pst, h.asc, h.time⟩
      refine h3.post hn ?_ ?_ ?_ hc.1
      all_goals omega
theorem crash_ok {S : BSch} (hS : SchOk S) {n : Int} (hn : 0 ≤ n) {b : Bks} (h : BksOk S (n + 1) b) (e : BEv) : BksOk S (n + 1) (crashB S b n e).2 := by
  unfold crashB
  split
  · exact h
  · split
    · exact h
    · rename_i hc
      simp only [Bool.not_eq_false, inI_iff] at hc
      have hx := hS.excess
      refine BksOk.post (BksOk.post (setLes_ok h ?_) hn ?_ ?_ ?_ ?_) hn ?_ ?_ ?_ ?_
      · rintro l ⟨a, b', c, d, _⟩
        exact ⟨a, b', c, d, by show (0 : Int) ≤ 3 ∧ (3 : Int) ≤ 3; omega⟩
      all_goals omega
theorem pay_ok {S : BSch} {n : Int} (hn : 0 ≤ n) {b : Bks} (h : BksOk S (n + 1) b) (e : BEv) : BksOk S (n + 1) (payB S b n e).2 := by
  unfold payB
  split
  · exact h
  · rename_i hw
    split
    · exact h
    · rename_i hc
      simp only [Bool.not_eq_false, inI_iff] at hc hw
      refine h.post hn ?_ ?_ ?_ hc.1
      all_goals omega
/-- Whatever is told. -/
theorem tell_ok {S : BSch} (hS : SchOk S) {n : Int} (hn : 0 ≤ n) {b : Bks} (h0 : BksOk S n b) (e : BEv) : BksOk S (n + 1) (tellB S b n e).2 := by
  have h := h0.more
  have hk : BksOk S (n + 1) (kindB S b n e).2 := by
    unfold kindB
    repeat' split
    · exact book_ok h e
    · exact cancel_ok hS hn h e
    · exact weather_ok h e
    · exact drive_ok hS hn h e
    · exact service_ok hn h e
    · exact crash_ok hS hn h e
    · exact pay_ok hn h e
  unfold tellB
  split
  · exact h
  · split
    · exact h
    · rename_i ht
      have ht : 0 ≤ e.at_ ∧ e.at_ ≤ 4800 := by
        have : inI 0 4800 e.at_ = true := by
          cases hq : inI 0 4800 e.at_ with
          | true => rfl
          | false => exact absurd (.inl hq) ht
        exact inI_iff.1 this
      split
      · exact hk.timed ht
      · exact h
theorem start_ok (S : BSch) : BksOk S 0 (startB S) where
  les := by intro l hl; cases hl
  km := by simp [startB]
  since := by simp [startB]
  acc := rfl
  pst := by intro p hp; cases hp
  asc := List.Pairwise.nil
  time := by unfold startB; simp
theorem run_ok {S : BSch} (hS : SchOk S) : ∀ (es : List BEv) {n : Int} {b : Bks}, 0 ≤ n → BksOk S n b → BksOk S (n + es.length) (runB S es n b).2 ∧ (runB S es n b).1.length = es.length
  | [], n, b, _, h => by simpa [runB] using h
  | e :: r, n, b, hn, h => by
    obtain ⟨h1, h2⟩ := run_ok hS r (by omega) (tell_ok hS hn h e)
    unfold runB
    refine ⟨?_, by simp [h2]⟩
    have : n + ((e :: r).length : Int) = n + 1 + (r.length : Int) := by simp; omega
    rw [this]; exact h1
end Go.Proofs.Ytkmhldjebopljaa

/-
  Fees fall with the hours ahead (BookEarlier); events that are refused change nothing (BookRefused); the first events. Of no program.
-/
namespace Go.Proofs.Ytkmhldjebopljaa

/-- Terms whose fees ascend. -/
def TermsUp (ts : List BTerm) : Prop := ts.Pairwise fun a b => a.fee ≤ b.fee
theorem part_ge {ts : List BTerm} {x : Int} (before : Int) (h : ∀ t ∈ ts, x ≤ t.fee) (hx : x ≤ 1000) : x ≤ partT ts before := by
  induction ts with
  | nil => unfold partT; exact hx
  | cons t r ih =>
    unfold partT
    split
    · exact h t (List.mem_cons_self ..)
    · exact ih fun y hy => h y (List.mem_cons_of_mem _ hy)
theorem part_mono : ∀ {ts : List BTerm} {before more : Int}, TermsUp ts → (∀ t ∈ ts, t.fee ≤ 1000) → before ≤ more → partT ts more ≤ partT ts before
  | [], _, _, _, _, _ => Int.le_refl _
  | t :: r, before, more, hu, h1, hm => by
    have hu' := List.pairwise_cons.1 hu
    show (if t.before ≤ more then t.fee else partT r more) ≤ (if t.before ≤ before then t.fee else partT r before)
    by_cases h : t.before ≤ before
    · rw [if_pos h, if_pos (by omega)]; exact Int.le_refl _
    · rw [if_neg h]
      by_cases h2 : t.before ≤ more
      · rw [if_pos h2]
        exact part_ge before hu'.1 (h1 t (List.mem_cons_self ..))
      · rw [if_neg h2]
        exact part_mono hu'.2 (fun x hx => h1 x (List.mem_cons_of_mem _ hx)) hm
/-- P5.10: who cancels more hours ahead pays no more. -/
theorem fee_mono {S : BSch} (hS : SchOk S) (hu : TermsUp S.terms) {hours before more : Int} (hh : 0 ≤ hours) (hm : before ≤ more) : feeB S hours more ≤ feeB S hours before := by
  have h := part_mono hu (fun t ht => (hS.terms t ht).2) hm
  have hp : 0 ≤ hours * S.price := Int.mul_nonneg hh (by have := hS.price.1; omega)
  have h2 := Int.mul_le_mul_of_nonneg_left h hp
  unfold feeB
  generalize hours * S.price * partT S.terms more = x at *
  generalize hours * S.price * partT S.terms before = y at *
  omega

/-- What there is, without what was posted. -/
def noP (b : Bks) : Bks := { b with pst := [] }
theorem noP_post (b : Bks) (n m f t c : Int) : noP (postB b n f t c) = noP (postB (noP b) m f t c) := by
  unfold postB
  split
  · rfl
  · rfl
theorem noP_move (S : BSch) (b : Bks) (i : Nat) : noP (moveB S b i) = moveB S (noP b) i := by
  have h : ∀ (l : Les) (k : Nat) (st : Int), laterB S b l k st = laterB S (noP b) l k st := by
    intro l k
    induction k with
    | zero => intro st; rfl
    | succ k ih =>
      intro st
      unfold laterB
      rw [ih]
      rfl
  unfold moveB
  rw [h]
  rfl
theorem noP_moves (S : BSch) (e : BEv) : ∀ (k i : Nat) (b : Bks), noP (movesB S e k i b) = movesB S e k i (noP b)
  | 0, _, _ => rfl
  | k + 1, i, b => by
    have hn : (noP b).les = b.les := rfl
    unfold movesB
    rw [noP_moves S e k (i + 1), hn]
    split
    · rw [noP_move]
    · rfl
theorem noP_noP (b : Bks) : noP (noP b) = noP b := rfl
theorem moves_noP (S : BSch) (e : BEv) (k i : Nat) (b : Bks) : noP (movesB S e k i (noP b)) = noP (movesB S e k i b) := by rw [noP_moves, noP_moves]; rfl
/-- What an event makes does not depend on its number, nor on what was posted, but for what it posts. -/
theorem kind_noP (S : BSch) (b : Bks) (n m : Int) (e : BEv) : (kindB S b n e).1 = (kindB S (noP b) m e).1 ∧ noP (kindB S b n e).2 = noP (kindB S (noP b) m e).2 := by
  have hl : ∀ l t, lesErr S (noP b) l t = lesErr S b l t := fun _ _ => rfl
  have hh : ∀ i s, hasB (noP b) i s = hasB b i s := fun _ _ => rfl
  have ha : ∀ i, lesAt (noP b) i = lesAt b i := fun _ => rfl
  unfold kindB
  split
  · unfold bookB; rw [hl]; repeat' split
    all_goals exact ⟨rfl, rfl⟩
  · split
    · unfold cancelB; rw [hh, ha]; repeat' split
      · exact ⟨rfl, rfl⟩
      · exact ⟨rfl, rfl⟩
      · exact ⟨rfl, noP_post _ _ _ _ _ _⟩
    · split
      · unfold weatherB; split
        · exact ⟨rfl, rfl⟩
        · refine ⟨rfl, ?_⟩
          simp only
          rw [noP_moves, noP_moves]
          rfl
      · split
        · unfold driveB; rw [hh, ha]; repeat' split
          · exact ⟨rfl, rfl⟩
          · exact ⟨rfl, rfl⟩
          · exact ⟨rfl, rfl⟩
          · exact ⟨rfl, rfl⟩
          · rename_i h1 h2; exact absurd h1 h2
          · rename_i h1 h2; exact absurd h2 h1
          · exact ⟨rfl, noP_post _ _ _ _ _ _⟩
        · split
          · unfold serviceB; repeat' split
            · exact ⟨rfl, rfl⟩
            · exact ⟨rfl, rfl⟩
            · exact ⟨rfl, noP_post _ _ _ _ _ _⟩
          · split
            · unfold crashB; rw [hh]; repeat' split
              · exact ⟨rfl, rfl⟩
              · exact ⟨rfl, rfl⟩
              · refine ⟨rfl, ?_⟩
                show noP (postB (postB (setLes b e.booking _) n _ _ _) n _ _ _) = noP (postB (postB (setLes (noP b) e.booking _) m _ _ _) m _ _ _)
                refine (noP_post _ n m _ _ _).trans (.trans ?_ (noP_post _ m m _ _ _).symm)
                rw [noP_post (setLes b e.booking _) n m, noP_post (setLes (noP b) e.booking _) m m]
                rfl
            · unfold payB; repeat' split
              · exact ⟨rfl, rfl⟩
              · exact ⟨rfl, rfl⟩
              · exact ⟨rfl, noP_post _ _ _ _ _ _⟩
theorem tell_noP (S : BSch) (b : Bks) (n m : Int) (e : BEv) : (tellB S b n e).1 = (tellB S (noP b) m e).1 ∧ noP (tellB S b n e).2 = noP (tellB S (noP b) m e).2 := by
  obtain ⟨h1, h2⟩ := kind_noP S b n m e
  have ht : (noP b).time = b.time := rfl
  unfold tellB
  rw [← h1, ht]
  repeat' split
  · exact ⟨rfl, rfl⟩
  · exact ⟨rfl, rfl⟩
  · refine ⟨rfl, ?_⟩
    show noP { noP (kindB S b n e).2 with time := e.at_ } = noP { noP (kindB S (noP b) m e).2 with time := e.at_ }
    rw [h2]
  · exact ⟨rfl, rfl⟩
theorem tell_refused {S : BSch} {b : Bks} {n : Int} {e : BEv} (h : (tellB S b n e).1 ≠ 0) : (tellB S b n e).2 = b := by
  unfold tellB at h ⊢
  split
  · rfl
  · rename_i h1
    rw [if_neg h1] at h
    split
    · rfl
    · rename_i h2
      rw [if_neg h2] at h
      split
      · rename_i h3; rw [if_pos h3] at h; exact absurd rfl h
      · rfl
/-- Runs from books that differ in what was posted alone. -/
theorem run_noP (S : BSch) : ∀ (es : List BEv) (b b' : Bks) (n m : Int), noP b = noP b' → (runB S es n b).1 = (runB S es m b').1 ∧ noP (runB S es n b).2 = noP (runB S es m b').2
  | [], _, _, _, _, h => ⟨rfl, h⟩
  | e :: r, b, b', n, m, h => by
    obtain ⟨a1, a2⟩ := tell_noP S b n 0 e
    obtain ⟨b1, b2⟩ := tell_noP S b' m 0 e
    rw [h] at a1 a2
    have h3 := run_noP S r (tellB S b n e).2 (tellB S b' m e).2 (n + 1) (m + 1) (a2.trans b2.symm)
    unfold runB
    simp only
    rw [h3.1, a1, b1]
    exact ⟨rfl, h3.2⟩
theorem run_cons (S : BSch) (e : BEv) (r : List BEv) (n : Int) (b : Bks) : runB S (e :: r) n b = ((tellB S b n e).1 :: (runB S r (n + 1) (tellB S b n e).2).1, (runB S r (n + 1) (tellB S b n e).2).2) := rfl
theorem run_append (S : BSch) : ∀ (es fs : List BEv) (n : Int) (b : Bks), runB S (es ++ fs) n b = ((runB S es n b).1 ++ (runB S fs (n + es.length) (runB S es n b).2).1, (runB S fs (n + es.length) (runB S es n b).2).2)
  | [], fs, n, b => by simp [runB]
  | e :: es, fs, n, b => by
    have h := run_append S es fs (n + 1) (tellB S b n e).2
    rw [List.cons_append, run_cons, run_cons]
    simp only
    rw [h, show n + ((e :: es).length : Int) = n + 1 + (es.length : Int) by simp; omega]
    rfl
theorem run_len (S : BSch) : ∀ (es : List BEv) (n : Int) (b : Bks), (runB S es n b).1.length = es.length
  | [], _, _ => rfl
  | e :: r, n, b => by unfold runB; simp [run_len S r]
/-- P5.12: without an event that was refused. -/
theorem run_without (S : BSch) {es : List BEv} {b : Bks} {n : Int} {k : Nat} (hk : k < es.length) (h : (runB S es n b).1[k]?.getD 0 ≠ 0) :
    (runB S (es.take k ++ es.drop (k + 1)) n b).1 = (runB S es n b).1.take k ++ (runB S es n b).1.drop (k + 1) ∧ noP (runB S (es.take k ++ es.drop (k + 1)) n b).2 = noP (runB S es n b).2 := by
  obtain ⟨e, he⟩ : ∃ e, es[k]? = some e := ⟨_, List.getElem?_eq_getElem hk⟩
  have hs : es = es.take k ++ e :: es.drop (k + 1) := by
    have hd : es.drop k = e :: es.drop (k + 1) := by
      rw [List.drop_eq_getElem_cons hk]
      rw [List.getElem?_eq_getElem hk] at he
      injection he with he; rw [he]
    rw [← hd, List.take_append_drop]
  have hl : (es.take k).length = k := by rw [List.length_take]; omega
  generalize es.take k = as at *
  generalize es.drop (k + 1) = bs at *
  subst hs
  rw [run_append, run_append] at *
  have hal := run_len S as n b
  generalize (runB S as n b).1 = la at *
  generalize (runB S as n b).2 = b1 at *
  rw [run_cons] at h ⊢
  simp only at h ⊢
  rw [List.getElem?_append_right (by omega), show k - la.length = 0 by omega] at h
  simp only [List.getElem?_cons_zero, Option.getD_some] at h
  rw [tell_refused h]
  obtain ⟨h1, h2⟩ := run_noP S bs b1 b1 (n + as.length) (n + as.length + 1) rfl
  rw [h1]
  refine ⟨?_, h2⟩
  congr 1
  · rw [List.take_append_of_le_length (by omega), List.take_of_length_le (by omega)]
  · rw [List.drop_append, List.drop_eq_nil_of_le (by omega), show k + 1 - la.length = 1 by omega]
    rfl
/-- The first events. -/
theorem run_first (S : BSch) (es : List BEv) (b : Bks) (n : Int) (k : Nat) : (runB S (es.take k) n b).1 = (runB S es n b).1.take k := by
  have h := run_append S (es.take k) (es.drop k) n b
  rw [List.take_append_drop] at h
  rw [h]
  simp only
  have hl := run_len S (es.take k) n b
  rw [List.length_take] at hl
  by_cases hk : k ≤ es.length
  · generalize (runB S (es.take k) n b).1 = la at *
    rw [List.take_append_of_le_length (by omega), List.take_of_length_le (by omega)]
  · have hd : es.drop k = [] := List.drop_eq_nil_of_le (by omega)
    rw [hd]
    simp only [runB, List.append_nil]
    generalize (runB S (es.take k) n b).1 = la at *
    rw [List.take_of_length_le (by omega)]
end Go.Proofs.Ytkmhldjebopljaa
