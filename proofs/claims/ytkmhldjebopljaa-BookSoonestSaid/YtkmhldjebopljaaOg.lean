import Derived.Test.YtkmhldjebopljaaOf
import Derived.Test.YtkmhldjebopljaaOmb
import Derived.Maps.OwnOps
import Derived.Maps.OwnSet
import Derived.WalkSmall
import Derived.Test.YtkmhldjebopljaaOa
import Derived.StillTail
/-
  The books of a school in memory: a struct behind a pointer, rows and a map of its own.
-/
namespace Go.Proofs.Ytkmhldjebopljaa
open Go.RowKit RG
open Go.Maps (int_keyed)

def iCells (x : Int) : List Value := [.int .i64 x]
def pstCells (p : Pst) : List Value := [.int .i64 p.event, .int .i64 p.frm, .int .i64 p.to, .int .i64 p.cents]
/-- The cells of books. -/
def bkCells (L C T : Option Addr) (cl cc ct : Nat) (S : BSch) (vl vk vs va : Value) (mb : Nat) (vp : Value) (tm ev : Int) : Array Value :=
  #[.slice L S.learners.length cl, .slice C S.cars.length cc, .int .i64 S.price, .int .i64 S.excess, .int .i64 S.lo, .int .i64 S.hi, .slice T S.terms.length ct, vl, vk, vs, va, .map (some mb), vp, .int .i64 tm, .int .i64 ev]
/-- The map in block mb holds the weathers of the days. -/
def MapW (w : World) (mb : Nat) (wt : List (Int × Int)) : Prop := ∃ n D, n ≤ wt.length ∧ w.ownsMap (H := Unit) Try.prog 3 (plainElem Try.prog 3) mb n D ∧ ∀ day : Int, 0 ≤ day ∧ day ≤ 1000 → D.atKey (.int .i64 day) (.lit (.int .i64 0)) = .lit (.int .i64 (wbits wt day))
/-- The rows of a school, in blocks that are all of X, as they were in an older world. -/
def SchX (X : Nat → Prop) (w : World) (L C T : Option Addr) (cl cc ct : Nat) (S : BSch) : Prop := ∃ w0, SchRows w0 L C T cl cc ct S ∧ (∀ g, g < w0.heap.size → X g) ∧ Below w0.heap.size w0 w
structure Raw (w : World) (X : Nat → Prop) (p : Nat) (L C T : Option Addr) (cl cc ct : Nat) (S : BSch) (vl vk vs va : Value) (mb : Nat) (vp : Value) (les km since acc pst : List (List Value)) (wt : List (Int × Int)) (tm ev : Int) : Prop where
  old : Old X w
  sch : SchX X w L C T cl cc ct S
  px : ¬ X p
  mx : ¬ X mb
  blk : Blk w p 99 (bkCells L C T cl cc ct S vl vk vs va mb vp tm ev)
  les : RowAt w X 63 5 vl les
  km : RowAt w X 3 1 vk km
  since : RowAt w X 3 1 vs since
  acc : RowAt w X 3 1 va acc
  map : MapW w mb wt
  pst : RowAt w X 61 4 vp pst
  ks : ∀ g, vk.ownBlock = some g → vs.ownBlock ≠ some g
  ka : ∀ g, vk.ownBlock = some g → va.ownBlock ≠ some g
  sa : ∀ g, vs.ownBlock = some g → va.ownBlock ≠ some g
def RawB (w : World) (X : Nat → Prop) (p : Nat) (L C T : Option Addr) (cl cc ct : Nat) (S : BSch) (vl vk vs va : Value) (mb : Nat) (vp : Value) (b : Bks) (ev : Int) : Prop :=
  Raw w X p L C T cl cc ct S vl vk vs va mb vp (b.les.map lesCells) (b.km.map iCells) (b.since.map iCells) (b.acc.map iCells) (b.pst.map pstCells) b.wt b.time ev
/-- The books b of a school behind the pointer to block p, in memory of their own, none of it in the blocks X. -/
def Books (w : World) (X : Nat → Prop) (p : Nat) (L C T : Option Addr) (cl cc ct : Nat) (S : BSch) (b : Bks) (ev : Int) : Prop := ∃ vl vk vs va mb vp, RawB w X p L C T cl cc ct S vl vk vs va mb vp b ev

section
variable {w w' : World} {X Y : Nat → Prop} {p : Nat} {L C T : Option Addr} {cl cc ct : Nat} {S : BSch} {vl vk vs va : Value} {mb : Nat} {vp : Value} {les km since acc pst : List (List Value)} {wt : List (Int × Int)} {tm ev : Int}
theorem SchX.rows (h : SchX X w L C T cl cc ct S) : SchRows w L C T cl cc ct S := by
  obtain ⟨w0, h1, _, h3⟩ := h
  exact h1.below h3
theorem SchX.kept (h : SchX X w L C T cl cc ct S) (k : KeptX X w w') : SchX X w' L C T cl cc ct S := by
  obtain ⟨w0, h1, h2, h3⟩ := h
  exact ⟨w0, h1, h2, h3.trans (KeptX.below (k.mono h2))⟩
theorem MapW.blk (h : MapW w mb wt) (hb : w'.heap[mb]? = w.heap[mb]?) : MapW w' mb wt := by
  obtain ⟨n, D, hn, ⟨es, clock, h1, h2⟩, h3⟩ := h
  exact ⟨n, D, hn, ⟨es, clock, hb.trans h1, h2⟩, h3⟩
theorem MapW.lt (h : MapW w mb wt) : mb < w.heap.size := by
  obtain ⟨n, D, hn, h1, h3⟩ := h
  exact h1.lt
theorem MapW.nblk (h : MapW w mb wt) {g : Nat} {t : TypeId} {cs : Array Value} (hb : Blk w g t cs) : mb ≠ g := by
  rintro rfl
  obtain ⟨n, D, hn, ⟨es, clock, h1, h2⟩, h3⟩ := h
  unfold Blk at hb
  rw [h1] at hb
  cases hb
theorem RowAt.typed {e : TypeId} {k : Nat} {v : Value} {xs : List (List Value)} (h : RowAt w X e k v xs) {g : Nat} (hg : v.ownBlock = some g) : ∃ cur, Blk w g e cur := by
  rcases h.2 with ⟨rfl, _⟩ | ⟨g', cap, cur, rfl, _, hk, _⟩
  · simp [Value.ownBlock] at hg
  · have : g' = g := by simpa [Value.ownBlock] using hg
    subst this; exact ⟨cur, hk⟩
theorem RowAt.lt {e : TypeId} {k : Nat} {v : Value} {xs : List (List Value)} (h : RowAt w X e k v xs) {g : Nat} (hg : v.ownBlock = some g) : g < w.heap.size := by
  obtain ⟨cur, hk⟩ := h.typed hg
  exact hk.lt
/-- Rows of elements of other types lie in other blocks. -/
theorem RowAt.ne_ {e e' : TypeId} {k k' : Nat} {v v' : Value} {xs xs' : List (List Value)} (h : RowAt w X e k v xs) (h' : RowAt w X e' k' v' xs') (hne : e ≠ e') {g : Nat} (hg : v.ownBlock = some g) : v'.ownBlock ≠ some g := by
  intro hg'
  obtain ⟨c1, h1⟩ := h.typed hg
  obtain ⟨c2, h2⟩ := h'.typed hg'
  exact h1.ne_ h2 hne rfl
theorem RowAt.nblk {e t : TypeId} {k g : Nat} {v : Value} {xs : List (List Value)} {cs : Array Value} (h : RowAt w X e k v xs) (hb : Blk w g t cs) (hne : e ≠ t) : v.ownBlock ≠ some g := by
  intro hg
  obtain ⟨c1, h1⟩ := h.typed hg
  exact h1.ne_ hb hne rfl
theorem RowAt.nmap {e : TypeId} {k : Nat} {v : Value} {xs : List (List Value)} (h : RowAt w X e k v xs) (hm : MapW w mb wt) : v.ownBlock ≠ some mb := by
  intro hg
  obtain ⟨c1, h1⟩ := h.typed hg
  exact hm.nblk h1 rfl
abbrev Raw_ (w : World) (X : Nat → Prop) (p : Nat) (L C T : Option Addr) (cl cc ct : Nat) (S : BSch) (vl vk vs va : Value) (mb : Nat) (vp : Value) (les km since acc pst : List (List Value)) (wt : List (Int × Int)) (tm ev : Int) : Prop := Raw w X p L C T cl cc ct S vl vk vs va mb vp les km since acc pst wt tm ev

/-- New blocks, and more blocks that are none of the books'. -/
theorem Raw.more (h : Raw w X p L C T cl cc ct S vl vk vs va mb vp les km since acc pst wt tm ev) (hb : Below w.heap.size w w') (hY : ∀ g, X g → Y g) (hY2 : ∀ g, Y g → X g ∨ w.heap.size ≤ g) (hold : Old Y w') :
    Raw w' Y p L C T cl cc ct S vl vk vs va mb vp les km since acc pst wt tm ev := by
  have row : ∀ {e : TypeId} {k : Nat} {v : Value} {xs : List (List Value)}, RowAt w X e k v xs → RowAt w' Y e k v xs := fun {e k v xs} hr => (hr.below hb).mono fun g hg hy => by
    rcases hY2 g hy with h1 | h1
    · exact hr.not g hg h1
    · exact absurd (hr.lt hg) (by omega)
  obtain ⟨w0, s1, s2, s3⟩ := h.sch.kept (KeptX.of_below hb h.old)
  refine ⟨hold, ⟨w0, s1, fun g hg => hY g (s2 g hg), s3⟩, ?_, ?_, h.blk.below hb h.blk.lt, row h.les, row h.km, row h.since, row h.acc, h.map.blk (hb.block mb h.map.lt), row h.pst, h.ks, h.ka, h.sa⟩
  · intro hy
    rcases hY2 p hy with h1 | h1
    · exact h.px h1
    · exact absurd h.blk.lt (by omega)
  · intro hy
    rcases hY2 mb hy with h1 | h1
    · exact h.mx h1
    · exact absurd h.map.lt (by omega)
theorem Raw.below (h : Raw w X p L C T cl cc ct S vl vk vs va mb vp les km since acc pst wt tm ev) (hb : Below w.heap.size w w') : Raw w' X p L C T cl cc ct S vl vk vs va mb vp les km since acc pst wt tm ev :=
  h.more hb (fun _ h => h) (fun _ h => .inl h) (fun g hg => Nat.lt_of_lt_of_le (h.old g hg) hb.size)
theorem Raw.alloc (h : Raw w X p L C T cl cc ct S vl vk vs va mb vp les km since acc pst wt tm ev) (o : Obj) : Raw (w.alloc o) X p L C T cl cc ct S vl vk vs va mb vp les km since acc pst wt tm ev := h.below ((Below.refl _ _).alloc (Nat.le_refl _) o)
/-- Fewer blocks, of which those of the school are. -/
theorem Raw.less (h : Raw w Y p L C T cl cc ct S vl vk vs va mb vp les km since acc pst wt tm ev) (hY : ∀ g, X g → Y g) (hs : SchX X w L C T cl cc ct S) : Raw w X p L C T cl cc ct S vl vk vs va mb vp les km since acc pst wt tm ev :=
  ⟨fun g hg => h.old g (hY g hg), hs, fun hx => h.px (hY _ hx), fun hx => h.mx (hY _ hx), h.blk, h.les.mono fun g hg hx => h.les.not g hg (hY g hx), h.km.mono fun g hg hx => h.km.not g hg (hY g hx), h.since.mono fun g hg hx => h.since.not g hg (hY g hx), h.acc.mono fun g hg hx => h.acc.not g hg (hY g hx), h.map, h.pst.mono fun g hg hx => h.pst.not g hg (hY g hx), h.ks, h.ka, h.sa⟩
/-- A cell is written that is none of the books', or the time, or the event. -/
theorem Raw.setTm (h : Raw w X p L C T cl cc ct S vl vk vs va mb vp les km since acc pst wt tm ev) (x : Int) : Raw (w.setCell ⟨p, 13, none⟩ (.int .i64 x)) X p L C T cl cc ct S vl vk vs va mb vp les km since acc pst wt x ev :=
  ⟨h.old.kept (KeptX.setCell w (p := ⟨p, 13, none⟩) h.px _), h.sch.kept (KeptX.setCell w (p := ⟨p, 13, none⟩) h.px _), h.px, h.mx, h.blk.set_ 13 _, h.les.far (h.les.nblk h.blk (by decide)) _, h.km.far (h.km.nblk h.blk (by decide)) _, h.since.far (h.since.nblk h.blk (by decide)) _, h.acc.far (h.acc.nblk h.blk (by decide)) _,
    h.map.blk (Below.heap_setCell _ _ _ _ (h.map.nblk h.blk)), h.pst.far (h.pst.nblk h.blk (by decide)) _, h.ks, h.ka, h.sa⟩
theorem Raw.setEv (h : Raw w X p L C T cl cc ct S vl vk vs va mb vp les km since acc pst wt tm ev) (x : Int) : Raw (w.setCell ⟨p, 14, none⟩ (.int .i64 x)) X p L C T cl cc ct S vl vk vs va mb vp les km since acc pst wt tm x :=
  ⟨h.old.kept (KeptX.setCell w (p := ⟨p, 14, none⟩) h.px _), h.sch.kept (KeptX.setCell w (p := ⟨p, 14, none⟩) h.px _), h.px, h.mx, h.blk.set_ 14 _, h.les.far (h.les.nblk h.blk (by decide)) _, h.km.far (h.km.nblk h.blk (by decide)) _, h.since.far (h.since.nblk h.blk (by decide)) _, h.acc.far (h.acc.nblk h.blk (by decide)) _,
    h.map.blk (Below.heap_setCell _ _ _ _ (h.map.nblk h.blk)), h.pst.far (h.pst.nblk h.blk (by decide)) _, h.ks, h.ka, h.sa⟩
/-- A cell of the lessons is written. -/
theorem Raw.setLes {g n cap : Nat} (h : Raw w X p L C T cl cc ct S (.slice (some ⟨g, 0, none⟩) n cap) vk vs va mb vp les km since acc pst wt tm ev) {j i : Nat} (hj : j < les.length) (hi : i < 5) (u : Value) :
    Raw (w.setCell ⟨g, j * 5 + i, none⟩ u) X p L C T cl cc ct S (.slice (some ⟨g, 0, none⟩) n cap) vk vs va mb vp (les.set j ((les[j]?.getD []).set i u)) km since acc pst wt tm ev := by
  have hg : (Value.slice (some ⟨g, 0, none⟩) n cap).ownBlock = some g := rfl
  have hgx : ¬ X (⟨g, j * 5 + i, none⟩ : Addr).block := h.les.not g hg
  obtain ⟨cur, hcur⟩ := h.les.typed hg
  exact ⟨h.old.kept (KeptX.setCell w hgx _), h.sch.kept (KeptX.setCell w hgx _), h.px, h.mx, h.blk.far (h.blk.ne_ hcur (by decide)) _, h.les.set hj hi u, h.km.far (h.km.nblk hcur (by decide)) _, h.since.far (h.since.nblk hcur (by decide)) _, h.acc.far (h.acc.nblk hcur (by decide)) _,
    h.map.blk (Below.heap_setCell _ _ _ _ (h.map.nblk hcur)), h.pst.far (h.pst.nblk hcur (by decide)) _, h.ks, h.ka, h.sa⟩
theorem Raw.setAcc {g n cap : Nat} (h : Raw w X p L C T cl cc ct S vl vk vs (.slice (some ⟨g, 0, none⟩) n cap) mb vp les km since acc pst wt tm ev) {j : Nat} (hj : j < acc.length) (u : Value) :
    Raw (w.setCell ⟨g, j, none⟩ u) X p L C T cl cc ct S vl vk vs (.slice (some ⟨g, 0, none⟩) n cap) mb vp les km since (acc.set j [u]) pst wt tm ev := by
  have hg : (Value.slice (some ⟨g, 0, none⟩) n cap).ownBlock = some g := rfl
  have hgx : ¬ X (⟨g, j, none⟩ : Addr).block := h.acc.not g hg
  obtain ⟨cur, hcur⟩ := h.acc.typed hg
  have hset := h.acc.set hj (show 0 < 1 by omega) u
  rw [Nat.mul_one, Nat.add_zero] at hset
  have hl := h.acc.len hj
  have e1 : (acc[j]?.getD []).set 0 u = [u] := by
    match acc[j]?.getD [], hl with
    | [_], _ => rfl
  rw [e1] at hset
  refine ⟨h.old.kept (KeptX.setCell w hgx _), h.sch.kept (KeptX.setCell w hgx _), h.px, h.mx, h.blk.far (h.blk.ne_ hcur (by decide)) _, h.les.far (h.les.nblk hcur (by decide)) _, h.km.far (fun e => h.ka _ e hg) _, h.since.far (fun e => h.sa _ e hg) _, hset,
    h.map.blk (Below.heap_setCell _ _ _ _ (h.map.nblk hcur)), h.pst.far (h.pst.nblk hcur (by decide)) _, h.ks, h.ka, h.sa⟩
theorem Raw.setKm {g n cap : Nat} (h : Raw w X p L C T cl cc ct S vl (.slice (some ⟨g, 0, none⟩) n cap) vs va mb vp les km since acc pst wt tm ev) {j : Nat} (hj : j < km.length) (u : Value) :
    Raw (w.setCell ⟨g, j, none⟩ u) X p L C T cl cc ct S vl (.slice (some ⟨g, 0, none⟩) n cap) vs va mb vp les (km.set j [u]) since acc pst wt tm ev := by
  have hg : (Value.slice (some ⟨g, 0, none⟩) n cap).ownBlock = some g := rfl
  have hgx : ¬ X (⟨g, j, none⟩ : Addr).block := h.km.not g hg
  obtain ⟨cur, hcur⟩ := h.km.typed hg
  have hset := h.km.set hj (show 0 < 1 by omega) u
  rw [Nat.mul_one, Nat.add_zero] at hset
  have hl := h.km.len hj
  have e1 : (km[j]?.getD []).set 0 u = [u] := by
    match km[j]?.getD [], hl with
    | [_], _ => rfl
  rw [e1] at hset
  refine ⟨h.old.kept (KeptX.setCell w hgx _), h.sch.kept (KeptX.setCell w hgx _), h.px, h.mx, h.blk.far (h.blk.ne_ hcur (by decide)) _, h.les.far (h.les.nblk hcur (by decide)) _, hset, h.since.far (h.ks _ hg) _, h.acc.far (h.ka _ hg) _,
    h.map.blk (Below.heap_setCell _ _ _ _ (h.map.nblk hcur)), h.pst.far (h.pst.nblk hcur (by decide)) _, h.ks, h.ka, h.sa⟩
theorem Raw.setSince {g n cap : Nat} (h : Raw w X p L C T cl cc ct S vl vk (.slice (some ⟨g, 0, none⟩) n cap) va mb vp les km since acc pst wt tm ev) {j : Nat} (hj : j < since.length) (u : Value) :
    Raw (w.setCell ⟨g, j, none⟩ u) X p L C T cl cc ct S vl vk (.slice (some ⟨g, 0, none⟩) n cap) va mb vp les km (since.set j [u]) acc pst wt tm ev := by
  have hg : (Value.slice (some ⟨g, 0, none⟩) n cap).ownBlock = some g := rfl
  have hgx : ¬ X (⟨g, j, none⟩ : Addr).block := h.since.not g hg
  obtain ⟨cur, hcur⟩ := h.since.typed hg
  have hset := h.since.set hj (show 0 < 1 by omega) u
  rw [Nat.mul_one, Nat.add_zero] at hset
  have hl := h.since.len hj
  have e1 : (since[j]?.getD []).set 0 u = [u] := by
    match since[j]?.getD [], hl with
    | [_], _ => rfl
  rw [e1] at hset
  refine ⟨h.old.kept (KeptX.setCell w hgx _), h.sch.kept (KeptX.setCell w hgx _), h.px, h.mx, h.blk.far (h.blk.ne_ hcur (by decide)) _, h.les.far (h.les.nblk hcur (by decide)) _, h.km.far (fun e => h.ks _ e hg) _, hset, h.acc.far (h.sa _ hg) _,
    h.map.blk (Below.heap_setCell _ _ _ _ (h.map.nblk hcur)), h.pst.far (h.pst.nblk hcur (by decide)) _, h.ks, h.ka, h.sa⟩

/-- What an append to one of the rows leaves as it was: all old blocks but the row's own. -/
structure Grew (w w' : World) (v v' : Value) : Prop where
  grown : w.grownBy w' v.ownBlock
  at_ : v'.ownBlock = v.ownBlock ∨ ∃ g, v'.ownBlock = some g ∧ w.heap.size ≤ g
theorem Grew.row {v v' u : Value} (hg : Grew w w' v v') {e : TypeId} {k : Nat} {xs : List (List Value)} (h : RowAt w X e k u xs) (hne : ∀ g, u.ownBlock = some g → v.ownBlock ≠ some g) : RowAt w' X e k u xs :=
  h.blk fun g h1 h2 => hg.grown.block g h2 fun e' => hne g h1 e'.symm
theorem Grew.keptX {v v' : Value} (hg : Grew w w' v v') (ho : Old X w) (hv : ∀ g, v.ownBlock = some g → ¬ X g) : KeptX X w w' := KeptX.grown hg.grown ho hv
theorem Grew.blk {v v' : Value} (hg : Grew w w' v v') {g : Nat} {t : TypeId} {cs : Array Value} (hb : Blk w g t cs) (hne : v.ownBlock ≠ some g) : Blk w' g t cs := (hg.grown.block g hb.lt fun e => hne e.symm).trans hb
/-- The new row is none that another value owns. -/
theorem Grew.ne_ {v v' u : Value} (hg : Grew w w' v v') {e : TypeId} {k : Nat} {xs : List (List Value)} (h : RowAt w X e k u xs) (hne : ∀ g, u.ownBlock = some g → v.ownBlock ≠ some g) : ∀ g, u.ownBlock = some g → v'.ownBlock ≠ some g := by
  intro g h1 h2
  rcases hg.at_ with h3 | ⟨g', h3, h4⟩
  · rw [h3] at h2; exact hne g h1 h2
  · rw [h3] at h2; cases h2; exact absurd (h.lt h1) (by omega)
theorem Raw.newLes {v' : Value} {les' : List (List Value)} (h : Raw w X p L C T cl cc ct S vl vk vs va mb vp les km since acc pst wt tm ev) (hg : Grew w w' vl v') (hr : RowAt w' X 63 5 v' les') :
    Raw (w'.setCell ⟨p, 7, none⟩ v') X p L C T cl cc ct S v' vk vs va mb vp les' km since acc pst wt tm ev := by
  have hk := hg.keptX h.old h.les.not
  have hb : Blk w' p 99 _ := hg.blk h.blk (h.les.nblk h.blk (by decide))
  have hk2 := hk.trans (KeptX.setCell w' (p := ⟨p, 7, none⟩) h.px v')
  have r1 := hg.row h.km fun g h1 h2 => h.les.ne_ h.km (by decide) h2 h1
  have r2 := hg.row h.since fun g h1 h2 => h.les.ne_ h.since (by decide) h2 h1
  have r3 := hg.row h.acc fun g h1 h2 => h.les.ne_ h.acc (by decide) h2 h1
  have r4 := hg.row h.pst fun g h1 h2 => h.les.ne_ h.pst (by decide) h2 h1
  have r5 : MapW w' mb wt := h.map.blk (hg.grown.block mb h.map.lt fun e => h.les.nmap h.map e.symm)
  exact ⟨h.old.kept hk2, h.sch.kept hk2, h.px, h.mx, hb.set_ 7 _, hr.far (hr.nblk hb (by decide)) _, r1.far (r1.nblk hb (by decide)) _, r2.far (r2.nblk hb (by decide)) _, r3.far (r3.nblk hb (by decide)) _, r5.blk (Below.heap_setCell _ _ _ _ (r5.nblk hb)), r4.far (r4.nblk hb (by decide)) _, h.ks, h.ka, h.sa⟩
theorem Raw.newPst {v' : Value} {pst' : List (List Value)} (h : Raw w X p L C T cl cc ct S vl vk vs va mb vp les km since acc pst wt tm ev) (hg : Grew w w' vp v') (hr : RowAt w' X 61 4 v' pst') :
    Raw (w'.setCell ⟨p, 12, none⟩ v') X p L C T cl cc ct S vl vk vs va mb v' les km since acc pst' wt tm ev := by
  have hk := hg.keptX h.old h.pst.not
  have hb : Blk w' p 99 _ := hg.blk h.blk (h.pst.nblk h.blk (by decide))
  have hk2 := hk.trans (KeptX.setCell w' (p := ⟨p, 12, none⟩) h.px v')
  have r1 := hg.row h.km fun g h1 h2 => h.pst.ne_ h.km (by decide) h2 h1
  have r2 := hg.row h.since fun g h1 h2 => h.pst.ne_ h.since (by decide) h2 h1
  have r3 := hg.row h.acc fun g h1 h2 => h.pst.ne_ h.acc (by decide) h2 h1
  have r4 := hg.row h.les fun g h1 h2 => h.pst.ne_ h.les (by decide) h2 h1
  have r5 : MapW w' mb wt := h.map.blk (hg.grown.block mb h.map.lt fun e => h.pst.nmap h.map e.symm)
  exact ⟨h.old.kept hk2, h.sch.kept hk2, h.px, h.mx, hb.set_ 12 _, r4.far (r4.nblk hb (by decide)) _, r1.far (r1.nblk hb (by decide)) _, r2.far (r2.nblk hb (by decide)) _, r3.far (r3.nblk hb (by decide)) _, r5.blk (Below.heap_setCell _ _ _ _ (r5.nblk hb)), hr.far (hr.nblk hb (by decide)) _, h.ks, h.ka, h.sa⟩
theorem Raw.newKm {v' : Value} {km' : List (List Value)} (h : Raw w X p L C T cl cc ct S vl vk vs va mb vp les km since acc pst wt tm ev) (hg : Grew w w' vk v') (hr : RowAt w' X 3 1 v' km') :
    Raw (w'.setCell ⟨p, 8, none⟩ v') X p L C T cl cc ct S vl v' vs va mb vp les km' since acc pst wt tm ev := by
  have hk := hg.keptX h.old h.km.not
  have hb : Blk w' p 99 _ := hg.blk h.blk (h.km.nblk h.blk (by decide))
  have hk2 := hk.trans (KeptX.setCell w' (p := ⟨p, 8, none⟩) h.px v')
  have r1 := hg.row h.les fun g h1 h2 => h.km.ne_ h.les (by decide) h2 h1
  have n2 : ∀ g, vs.ownBlock = some g → vk.ownBlock ≠ some g := fun g h1 h2 => h.ks g h2 h1
  have n3 : ∀ g, va.ownBlock = some g → vk.ownBlock ≠ some g := fun g h1 h2 => h.ka g h2 h1
  have r2 := hg.row h.since n2
  have r3 := hg.row h.acc n3
  have r4 := hg.row h.pst fun g h1 h2 => h.km.ne_ h.pst (by decide) h2 h1
  have r5 : MapW w' mb wt := h.map.blk (hg.grown.block mb h.map.lt fun e => h.km.nmap h.map e.symm)
  exact ⟨h.old.kept hk2, h.sch.kept hk2, h.px, h.mx, hb.set_ 8 _, r1.far (r1.nblk hb (by decide)) _, hr.far (hr.nblk hb (by decide)) _, r2.far (r2.nblk hb (by decide)) _, r3.far (r3.nblk hb (by decide)) _, r5.blk (Below.heap_setCell _ _ _ _ (r5.nblk hb)), r4.far (r4.nblk hb (by decide)) _,
    fun g h1 h2 => hg.ne_ h.since n2 g h2 h1, fun g h1 h2 => hg.ne_ h.acc n3 g h2 h1, h.sa⟩
end
end Go.Proofs.Ytkmhldjebopljaa

/-
  Small methods of the books: account, isLearner, isCar, isLesson; need, which panics.
-/
namespace Go.Proofs.Ytkmhldjebopljaa
open Go.RowKit RG

theorem books_cells {w : World} {p : Nat} {L C T : Option Addr} {cl cc ct : Nat} {S : BSch} {vl vk vs va : Value} {mb : Nat} {vp : Value} {tm ev : Int} (h : Blk w p 99 (bkCells L C T cl cc ct S vl vk vs va mb vp tm ev)) :
    w.cell? ⟨p, 0, none⟩ = some (.slice L S.learners.length cl) ∧ w.cell? ⟨p, 1, none⟩ = some (.slice C S.cars.length cc) ∧ w.cell? ⟨p, 2, none⟩ = some (.int .i64 S.price) ∧ w.cell? ⟨p, 3, none⟩ = some (.int .i64 S.excess) ∧
    w.cell? ⟨p, 4, none⟩ = some (.int .i64 S.lo) ∧ w.cell? ⟨p, 5, none⟩ = some (.int .i64 S.hi) ∧ w.cell? ⟨p, 6, none⟩ = some (.slice T S.terms.length ct) ∧ w.cell? ⟨p, 7, none⟩ = some vl ∧ w.cell? ⟨p, 8, none⟩ = some vk ∧ w.cell? ⟨p, 9, none⟩ = some vs ∧
    w.cell? ⟨p, 10, none⟩ = some va ∧ w.cell? ⟨p, 11, none⟩ = some (.map (some mb)) ∧ w.cell? ⟨p, 12, none⟩ = some vp ∧ w.cell? ⟨p, 13, none⟩ = some (.int .i64 tm) ∧ w.cell? ⟨p, 14, none⟩ = some (.int .i64 ev) ∧ ∀ i, w.frozen? ⟨p, i, none⟩ = false :=
  ⟨h.cell 0, h.cell 1, h.cell 2, h.cell 3, h.cell 4, h.cell 5, h.cell 6, h.cell 7, h.cell 8, h.cell 9, h.cell 10, h.cell 11, h.cell 12, h.cell 13, h.cell 14, fun i => h.frozen i⟩
section
variable {w : World} {p : Nat} {L C T : Option Addr} {cl cc ct : Nat} {S : BSch} {vl vk vs va : Value} {mb : Nat} {vp : Value} {tm ev : Int}
theorem account_any (h : Blk w p 99 (bkCells L C T cl cc ct S vl vk vs va mb vp tm ev)) (hn : S.learners.length ≤ 8) (x : Int) (hx : 0 ≤ x ∧ x ≤ 3) :
    Calls Try.prog 105 #[.pointer (some ⟨p, 0, none⟩), .int .i64 x] w fun e w' => e = .returned (.int .i64 ((S.learners.length : Int) + x)) ∧ w = w' := by
  obtain ⟨c0, -⟩ := books_cells h
  clear h
  generalize S.learners.length = nl at *
  have h2 : IntKind.i64.wrap ((nl : Int) + x) = (nl : Int) + x := by rw [IntKind.wrap_i64]; omega
  go_enter Try.func105, Try.ntmps105
  go_wp2
  go_ret
  exact ⟨rfl, rfl⟩
theorem isLearner_any (h : Blk w p 99 (bkCells L C T cl cc ct S vl vk vs va mb vp tm ev)) (hn : S.learners.length ≤ 8) (x : Int) :
    Calls Try.prog 56 #[.pointer (some ⟨p, 0, none⟩), .int .i64 x] w fun e w' => e = .returned (.bool (inI 0 ((S.learners.length : Int) - 1) x)) ∧ Below w.heap.size w w' := by
  obtain ⟨c0, -⟩ := books_cells h
  clear h
  generalize S.learners.length = nl at *
  have h2 : IntKind.i64.wrap ((nl : Int) - 1) = (nl : Int) - 1 := by rw [IntKind.wrap_i64]; omega
  have hw := hide (within_one 0 ((nl : Int) - 1) x w.heap.size 0 1 (w.alloc (.cells #[.int .i64 x] 3)) ((Blk.new w _ _).cell 0))
  go_enter Try.func56, Try.ntmps56
  go_wp2_with fail
  refine hw.out.mono ?_
  rintro e w1 ⟨rfl, rfl⟩
  go_wp2
  go_ret
  exact ⟨rfl, (Below.refl _ _).alloc (Nat.le_refl _) _⟩
theorem isCar_any (h : Blk w p 99 (bkCells L C T cl cc ct S vl vk vs va mb vp tm ev)) (hn : S.cars.length ≤ 8) (x : Int) :
    Calls Try.prog 57 #[.pointer (some ⟨p, 0, none⟩), .int .i64 x] w fun e w' => e = .returned (.bool (inI 0 ((S.cars.length : Int) - 1) x)) ∧ Below w.heap.size w w' := by
  obtain ⟨-, c1, -⟩ := books_cells h
  clear h
  generalize S.cars.length = nl at *
  have h2 : IntKind.i64.wrap ((nl : Int) - 1) = (nl : Int) - 1 := by rw [IntKind.wrap_i64]; omega
  have hw := hide (within_one 0 ((nl : Int) - 1) x w.heap.size 0 1 (w.alloc (.cells #[.int .i64 x] 3)) ((Blk.new w _ _).cell 0))
  go_enter Try.func57, Try.ntmps57
  go_wp2_with fail
  refine hw.out.mono ?_
  rintro e w1 ⟨rfl, rfl⟩
  go_wp2
  go_ret
  exact ⟨rfl, (Below.refl _ _).alloc (Nat.le_refl _) _⟩
theorem need_yes (e : Int) (w : World) : Calls Try.prog 92 #[.bool true, .int .i64 e] w fun r w' => r = .returned (.tuple #[]) ∧ w = w' := by
  go_enter Try.func92, Try.ntmps92
  go_wp2
  go_end0
  exact ⟨rfl, rfl⟩
theorem need_no (e : Int) (w : World) : Calls Try.prog 92 #[.bool false, .int .i64 e] w fun r w' => r = .panicked [{ v := .iface 30 (.int .i64 e), recovered := false }] ∧ w = w' := by
  go_enter Try.func92, Try.ntmps92
  go_wp2
  exact ⟨rfl, rfl, rfl⟩
theorem les_row {w : World} {X : Nat → Prop} {vl : Value} {les : List Les} (h : RowAt w X 63 5 vl (les.map lesCells)) (hn : 0 < les.length) : ∃ g cap, vl = .slice (some ⟨g, 0, none⟩) les.length cap ∧ ¬ X g ∧ g < w.heap.size ∧ les.length ≤ cap ∧ cap ≤ maxLen ∧ (∀ i, w.frozen? ⟨g, i, none⟩ = false) ∧
    (∀ j, j < les.length → w.cell? ⟨g, j * 5, none⟩ = some (.int .i64 (les[j]?.getD default).learner) ∧ w.cell? ⟨g, j * 5 + 1, none⟩ = some (.int .i64 (les[j]?.getD default).car) ∧ w.cell? ⟨g, j * 5 + 2, none⟩ = some (.int .i64 (les[j]?.getD default).start) ∧
      w.cell? ⟨g, j * 5 + 3, none⟩ = some (.int .i64 (les[j]?.getD default).hours) ∧ w.cell? ⟨g, j * 5 + 4, none⟩ = some (.int .i64 (les[j]?.getD default).state)) ∧ ∃ cur, Blk w g 63 cur := by
  obtain ⟨g, cap, e, h1, h2, h3, h4, h5, h6, h7, h8⟩ := h.at (by simpa using hn)
  rw [List.length_map] at e h3
  refine ⟨g, cap, e, h1, h2, h3, h4, h7, fun j hj => ?_, h8⟩
  have k : ∀ i u, (lesCells (les[j]?.getD default))[i]? = some u → w.cell? ⟨g, j * 5 + i, none⟩ = some u := fun i u hu => h6 j i u (by rw [map_at lesCells les j hj]; exact hu)
  exact ⟨k 0 _ rfl, k 1 _ rfl, k 2 _ rfl, k 3 _ rfl, k 4 _ rfl⟩
theorem isLesson_any {X : Nat → Prop} {les : List Les} (h : Blk w p 99 (bkCells L C T cl cc ct S vl vk vs va mb vp tm ev)) (hr : RowAt w X 63 5 vl (les.map lesCells)) (hn : les.length ≤ 1000) (x st : Int) :
    Calls Try.prog 103 #[.pointer (some ⟨p, 0, none⟩), .int .i64 x, .int .i64 st] w fun e w' => e = .returned (.bool (inI 0 ((les.length : Int) - 1) x && decide ((les[x.toNat]?.getD default).state = st))) ∧ Below w.heap.size w w' := by
  obtain ⟨-, -, -, -, -, -, -, c7, -⟩ := books_cells h
  obtain ⟨A, c, hv, -⟩ := hr.row
  rw [List.length_map] at hv
  have hpz := h.lt
  have h2 : IntKind.i64.wrap ((les.length : Int) - 1) = (les.length : Int) - 1 := by rw [IntKind.wrap_i64]; omega
  have hw := hide (within_one 0 ((les.length : Int) - 1) x w.heap.size 0 1 (w.alloc (.cells #[.int .i64 x] 3)) ((Blk.new w _ _).cell 0))
  cases hi : inI 0 ((les.length : Int) - 1) x with
  | false =>
    rw [inI_inB] at hi
    rw [hi] at hw
    generalize les.length = n at *
    subst hv
    clear h hr hi
    go_enter Try.func103, Try.ntmps103
    go_wp2_with fail
    refine hw.out.mono ?_
    rintro e w1 ⟨rfl, rfl⟩
    go_wp2
    go_ret
    exact ⟨rfl, (Below.refl _ _).alloc (Nat.le_refl _) _⟩
  | true =>
    have hi2 := inI_iff.1 hi
    rw [inI_inB] at hi
    rw [hi] at hw
    obtain ⟨j, rfl⟩ : ∃ j : Nat, x = (j : Int) := ⟨x.toNat, by omega⟩
    obtain ⟨g, cap, hv2, -, hg, -, -, -, hc, -⟩ := les_row hr (by omega)
    have hj : j < les.length := by omega
    obtain ⟨-, -, -, -, d4⟩ := hc j hj
    rw [Int.toNat_natCast]
    generalize (les[j]?.getD default).state = s at *
    generalize les.length = n at *
    subst hv2
    have hjz : (j : Int) < (n : Int) := by omega
    clear h hr hi hc hv
    go_enter Try.func103, Try.ntmps103
    go_wp2_with fail
    refine hw.out.mono ?_
    rintro e w1 ⟨rfl, rfl⟩
    go_wp2
    go_ret
    exact ⟨by simp; rfl, (Below.refl _ _).alloc (Nat.le_refl _) _⟩
end
end Go.Proofs.Ytkmhldjebopljaa

/-
  The rule for a region whose order Go leaves open, by one invariant of what is listed, of the values and of the world.
-/
namespace Go.Proofs.Ytkmhldjebopljaa.RG
open Go

section
variable {P : Program}
/-- The obligation of one operation. -/
def OneI (P : Program) (ops : Array Oper) (I : (Nat → Bool) → (Nat → Value) → World → Prop) (a0 : Act) (i : Nat) (o : Oper) : Prop :=
  ∀ (f : Nat → Bool) (y : Nat → Value) (w : World) (K : Act → World → Prop) (Q : Exit → Act → World → Prop) (Cv : Value → World → Prop), I f y w → f i = false → (∀ e ∈ o.after.toList, Region.binds .any e = true → f e.on = true) →
    (∀ v w', I (fun k => decide (k = i) || f k) (upd y i v) w' → Cv v w') → (∀ v w', Cv v w' → K ((putAll ops.toList 0 y a0).put o.dst v) w') →
    if Region.wanted o (yielded ops (putAll ops.toList 0 y a0).tmps) then o.wp P (putAll ops.toList 0 y a0) w K Q else K ((putAll ops.toList 0 y a0).put o.dst undef) w
def AllI (P : Program) (ops : Array Oper) (I : (Nat → Bool) → (Nat → Value) → World → Prop) (a0 : Act) : List Oper → Nat → Prop
  | [], _ => True
  | o :: r, i => OneI P ops I a0 i o ∧ AllI P ops I a0 r (i + 1)
theorem AllI.get {ops : Array Oper} {I : (Nat → Bool) → (Nat → Value) → World → Prop} {a0 : Act} :
    ∀ {l : List Oper} {i j : Nat} {o : Oper}, AllI P ops I a0 l i → l[j]? = some o → OneI P ops I a0 (i + j) o
  | [], _, _, _, _, hj => by simp at hj
  | o' :: r, i, 0, o, h, hj => by
    simp only [List.getElem?_cons_zero, Option.some.injEq] at hj
    subst hj; exact h.1
  | o' :: r, i, j + 1, o, h, hj => by
    simp only [List.getElem?_cons_succ] at hj
    have := AllI.get h.2 hj
    rwa [show i + (j + 1) = i + 1 + j by omega]
theorem wpAny_inv {ops : Array Oper} {I : (Nat → Bool) → (Nat → Value) → World → Prop} {a0 : Act} {Q : Exit → Act → World → Prop}
    (hok : okB ops.toList 0 = true) (hall : AllI P ops I a0 ops.toList 0)
    (hend : ∀ f y w, (∀ k, k < ops.size → f k = true) → I f y w → Q .normal (putAll ops.toList 0 y a0) w) :
    ∀ (fuel : Nat) (listed : Array Bool) (y : Nat → Value) (w : World), listed.size = ops.size → cnt (fun j => !listed.getD j true) ops.size ≤ fuel →
      I (fun k => listed.getD k false) y w → wpAny P .any ops Q fuel listed (putAll ops.toList 0 y a0) w := by
  have hdone : ∀ (listed : Array Bool) (y : Nat → Value) (w : World), listed.size = ops.size → I (fun k => listed.getD k false) y w →
      (∀ j, j < ops.size → listed.getD j true = true) → Q .normal (putAll ops.toList 0 y a0) w := by
    intro listed y w hs hI hl
    refine hend _ y w (fun k hk => ?_) hI
    have := hl k hk
    simpa [Array.getD, hs, hk] using this
  have hacyc : ∀ (l : List Oper) (i j : Nat) (o : Oper), okB l i = true → l[j]? = some o → ∀ e ∈ o.after, Region.binds .any e = true → e.on < i + j := by
    intro l
    induction l with
    | nil => intro i j o _ hj; simp at hj
    | cons o' r ih =>
      intro i j o h hj e he hbb
      obtain ⟨h1, _, h3⟩ := okB_cons h
      cases j with
      | zero => simp only [List.getElem?_cons_zero, Option.some.injEq] at hj; subst hj; exact h1 e he hbb
      | succ j =>
        simp only [List.getElem?_cons_succ] at hj
        have := ih (i + 1) j o h3 hj e he hbb
        omega
  have hready : ∀ (listed : Array Bool), listed.size = ops.size → Region.ready .any ops listed = [] → ∀ j, j < ops.size → listed.getD j true = true := by
    intro listed hs hr j
    induction j using Nat.strongRecOn with
    | ind j ih =>
      intro hj
      cases hl : listed.getD j true with
      | true => rfl
      | false =>
        have hm : j ∈ Region.ready .any ops listed := by
          rw [mem_ready]
          refine ⟨hl, ops[j], Array.getElem?_eq_getElem hj, fun e he hbb => ?_⟩
          have := hacyc ops.toList 0 j ops[j] hok (by simp [hj]) e he hbb
          have h2 := ih e.on (by omega) (by omega)
          simpa [Array.getD, hs, show e.on < ops.size by omega] using h2
        rw [hr] at hm
        cases hm
  intro fuel
  induction fuel with
  | zero =>
    intro listed y w hs hc hI
    have hall' : ∀ j, j < ops.size → listed.getD j true = true := fun j hj => by
      have := cnt_zero _ _ (Nat.le_zero.1 hc) j hj
      simpa using this
    refine ⟨?_, hdone listed y w hs hI hall'⟩
    rw [List.eq_nil_iff_forall_not_mem]
    intro j hj
    rw [mem_ready] at hj
    obtain ⟨h1, o, ho, _⟩ := hj
    have := hall' j (Array.getElem?_eq_some_iff.1 ho).1
    rw [h1] at this
    cases this
  | succ fuel ih =>
    intro listed y w hs hc hI
    refine ⟨fun hr => hdone listed y w hs hI (hready listed hs hr), fun i hi => ?_⟩
    rw [mem_ready] at hi
    obtain ⟨hl, o, ho, hdep⟩ := hi
    have hlt : i < ops.size := (Array.getElem?_eq_some_iff.1 ho).1
    have hol : ops.toList[i]? = some o := by simpa using ho
    have h1 := AllI.get hall hol
    rw [Nat.zero_add] at h1
    have hset : (fun k => (listed.setIfInBounds i true).getD k false) = fun k => decide (k = i) || listed.getD k false := by
      funext k
      by_cases e : i = k
      · subst e; simp [Array.getD, Array.setIfInBounds, hs, hlt]
      · rw [getD_set_ne false e]
        simp [Ne.symm e]
    have hnext : ∀ v w', I (fun k => decide (k = i) || listed.getD k false) (upd y i v) w' → wpAny P .any ops Q fuel (listed.setIfInBounds i true) ((putAll ops.toList 0 y a0).put o.dst v) w' := by
      intro v w' hI'
      rw [putAll_upd ops.toList 0 i y a0 o v hok hol, Nat.zero_add]
      refine ih _ _ _ (by simpa using hs) ?_ ?_
      · have := cnt_lt (fun j => !listed.getD j true) (fun j => !(listed.setIfInBounds i true).getD j true) (fun j hj => by
          by_cases e : i = j
          · subst e; simp [Array.getD, Array.setIfInBounds, hs, hlt] at hj
          · rw [getD_set_ne true e] at hj; exact hj) i (by simp [hl]) (by simp [Array.getD, Array.setIfInBounds, hs, hlt]) ops.size hlt
        omega
      · rw [hset]; exact hI'
    have hfi : listed.getD i false = false := by
      simpa [Array.getD, hs, hlt] using hl
    have h2 := h1 (fun k => listed.getD k false) y w (wpAny P .any ops Q fuel (listed.setIfInBounds i true)) Q (fun v w' => I (fun k => decide (k = i) || listed.getD k false) (upd y i v) w') hI hfi (fun e he hb => hdep e (by simpa using he) hb)
      (fun v w' h => h) (fun v w' h => hnext _ _ h)
    unfold wpOp
    simp only [ho]
    split
    · rename_i hw; simp only [hw, if_true] at h2; exact .inl h2
    · rename_i hw; simp only [hw] at h2; exact h2

/-- THE RULE by an invariant. -/
theorem region_inv {id : Nat} {Q : Exit → Act → World → Prop} {a : Act} {w : World} {l : List Oper} (I : (Nat → Bool) → (Nat → Value) → World → Prop)
    (hm : P.follows .mixedOrders = true) (hok : okB l 0 = true) (h0 : ∀ y, I (fun _ => false) y w.drew)
    (hall : AllI P l.toArray I a l 0) (hend : ∀ f y w, (∀ k, k < l.length → f k = true) → I f y w → Q .normal (putAll l 0 y a) w) :
    (Code.region id l.toArray true).wp P Q a w := by
  refine wp_region_any hm ?_
  have := wpAny_inv (P := P) (ops := l.toArray) (I := I) (a0 := a) (Q := Q) (by simpa using hok) (by simpa using hall) (by simpa using hend) l.toArray.size
    (Array.replicate l.toArray.size false) (start l a) w.drew (by simp) (cnt_le _ _) (by
      have h := h0 (start l a)
      have e : (fun _ => false : Nat → Bool) = fun k => (Array.replicate l.toArray.size false).getD k false := by
        funext k; rw [getD_replicate_false]
      rw [e] at h
      exact h)
  rw [show (l.toArray).toList = l by simp, putAll_start l 0 (start l a) a (fun j o hj e he => by simp [start, hj, he])] at this
  exact this
/-- The same, with what the slots hold at the start. -/
theorem region_inv_at {id : Nat} {Q : Exit → Act → World → Prop} {a : Act} {w : World} {l : List Oper} (I : (Nat → Bool) → (Nat → Value) → World → Prop)
    (hm : P.follows .mixedOrders = true) (hok : okB l 0 = true) (h0 : I (fun _ => false) (start l a) w.drew)
    (hall : AllI P l.toArray I a l 0) (hend : ∀ f y w, (∀ k, k < l.length → f k = true) → I f y w → Q .normal (putAll l 0 y a) w) :
    (Code.region id l.toArray true).wp P Q a w := by
  refine wp_region_any hm ?_
  have := wpAny_inv (P := P) (ops := l.toArray) (I := I) (a0 := a) (Q := Q) (by simpa using hok) (by simpa using hall) (by simpa using hend) l.toArray.size
    (Array.replicate l.toArray.size false) (start l a) w.drew (by simp) (cnt_le _ _) (by
      have e : (fun _ => false : Nat → Bool) = fun k => (Array.replicate l.toArray.size false).getD k false := by
        funext k; rw [getD_replicate_false]
      rw [e] at h0
      exact h0)
  rw [show (l.toArray).toList = l by simp, putAll_start l 0 (start l a) a (fun j o hj e he => by simp [start, hj, he])] at this
  exact this
end
end Go.Proofs.Ytkmhldjebopljaa.RG
