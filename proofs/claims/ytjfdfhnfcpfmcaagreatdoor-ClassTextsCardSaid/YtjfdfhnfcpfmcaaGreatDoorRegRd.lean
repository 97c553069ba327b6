/-
  The invariant of the region that calls the reference's right: it lasts, operation by operation.
-/
import Derived.Test.YtjfdfhnfcpfmcaaGreatDoorMq
import Derived.Test.YtjfdfhnfcpfmcaaGreatDoorMb
import Derived.Test.YtjfdfhnfcpfmcaaGreatDoorMc
namespace Go.Proofs.YtjfdfhnfcpfmcaaGreatDoor
open Go.RowKit RG

/-- What right returned. -/
def TR (q : Option (Int × Nat)) (a b : Int) (ok : Bool) : Prop := match q with
  | some x => a = x.1 ∧ b = (x.2 : Int) ∧ ok = true
  | none => ok = false
def tupR (a b : Int) (ok : Bool) : Value := .tuple #[.agg #[.int .i64 a, .int .i64 b], .bool ok]
/-- The region that calls right. -/
def ReadI (w0 : World) (T : Value) (wsl : Value) (i : Nat) (pw : Value) (wd : ByteArray) (q : Option (Int × Nat)) (f : Nat → Bool) (y : Nat → Value) (w : World) : Prop :=
  Below w0.heap.size w0 w ∧ (f 0 = true → y 0 = T) ∧ (f 1 = true → y 1 = wsl) ∧ (f 2 = true → y 2 = .int .i64 i) ∧ (f 3 = true → y 3 = pw) ∧ (f 4 = true → y 4 = .string wd) ∧
  (f 5 = true → ∃ a b ok, TR q a b ok ∧ y 5 = tupR a b ok) ∧ (f 6 = true → y 6 = y 5) ∧
  (f 7 = true → ∃ a b ok, y 5 = tupR a b ok ∧ y 7 = .agg #[.int .i64 a, .int .i64 b]) ∧
  (f 8 = true → ∃ a b ok, y 5 = tupR a b ok ∧ y 8 = .bool ok) ∧
  (f 9 = true → ∃ g c d, y 9 = .pointer (some ⟨g, 0, none⟩) ∧ w0.heap.size ≤ g ∧ Blk w g 64 #[.int .i64 c, .int .i64 d] ∧ (f 10 = true → y 7 = .agg #[.int .i64 c, .int .i64 d])) ∧
  (f 11 = true → y 11 = y 8) ∧ (f 6 = true → f 5 = true) ∧ (f 7 = true → f 6 = true) ∧ (f 8 = true → f 6 = true) ∧ (f 10 = true → f 7 = true ∧ f 9 = true) ∧ (f 11 = true → f 8 = true)
section
variable {w0 w : World} {T wsl pw : Value} {i : Nat} {wd : ByteArray} {q : Option (Int × Nat)} {f : Nat → Bool} {y : Nat → Value} {v : Value}
theorem ReadI.o0 (h : ReadI w0 T wsl i pw wd q f y w) (hv : v = T) : ReadI w0 T wsl i pw wd q (fun k => decide (k = 0) || f k) (upd y 0 v) w := by
  unfold ReadI at *; simp [upd] at *; grind
theorem ReadI.o1 (h : ReadI w0 T wsl i pw wd q f y w) (hv : v = wsl) : ReadI w0 T wsl i pw wd q (fun k => decide (k = 1) || f k) (upd y 1 v) w := by
  unfold ReadI at *; simp [upd] at *; grind
theorem ReadI.o2 (h : ReadI w0 T wsl i pw wd q f y w) (hv : v = .int .i64 i) : ReadI w0 T wsl i pw wd q (fun k => decide (k = 2) || f k) (upd y 2 v) w := by
  unfold ReadI at *; simp [upd] at *; grind
theorem ReadI.o3 (h : ReadI w0 T wsl i pw wd q f y w) (hv : v = pw) : ReadI w0 T wsl i pw wd q (fun k => decide (k = 3) || f k) (upd y 3 v) w := by
  unfold ReadI at *; simp [upd] at *; grind
theorem ReadI.o4 (h : ReadI w0 T wsl i pw wd q f y w) (hv : v = .string wd) : ReadI w0 T wsl i pw wd q (fun k => decide (k = 4) || f k) (upd y 4 v) w := by
  unfold ReadI at *; simp [upd] at *; grind
theorem ReadI.o5 (h : ReadI w0 T wsl i pw wd q f y w) {w' : World} (hb : Below w.heap.size w w') (hf : f 5 = false) {a b : Int} {ok : Bool} (hT : TR q a b ok) (hv : v = tupR a b ok) : ReadI w0 T wsl i pw wd q (fun k => decide (k = 5) || f k) (upd y 5 v) w' := by
  have hbl : ∀ g c d, Blk w g 64 #[.int .i64 c, .int .i64 d] → Blk w' g 64 #[.int .i64 c, .int .i64 d] := fun g c d h => h.below hb h.lt
  have hC : Below w0.heap.size w0 w' := h.1.trans (hb.mono h.1.size)
  obtain ⟨hC0, h0, h1, h2, h3, h4, h5, h6, h7, h8, h9, h11, d6, d7, d8, d10, d11⟩ := h
  have e6 : f 6 = false := by
    cases e : f 6 with
    | false => rfl
    | true => have := d6 e; simp [hf] at this
  have e7 : f 7 = false := by
    cases e : f 7 with
    | false => rfl
    | true => have := d7 e; simp [e6] at this
  have e8 : f 8 = false := by
    cases e : f 8 with
    | false => rfl
    | true => have := d8 e; simp [e6] at this
  have e10 : f 10 = false := by
    cases e : f 10 with
    | false => rfl
    | true => have := (d10 e).1; simp [e7] at this
  have e11 : f 11 = false := by
    cases e : f 11 with
    | false => rfl
    | true => have := d11 e; simp [e8] at this
  refine ⟨hC, by simpa [upd] using h0, by simpa [upd] using h1, by simpa [upd] using h2, by simpa [upd] using h3, by simpa [upd] using h4, fun _ => ⟨a, b, ok, hT, hv⟩, by simp [e6], by simp [e7], by simp [e8], fun h => ?_, by simp [e11], by simp, by simp [e7], by simp [e8], by simp [e10], by simp [e11]⟩
  obtain ⟨g, c, d, x1, x2, x3, x4⟩ := h9 (by simpa using h)
  exact ⟨g, c, d, x1, x2, hbl g c d x3, by simp [e10]⟩
theorem ReadI.o6 (h : ReadI w0 T wsl i pw wd q f y w) (hf5 : f 5 = true) (hv : v = y 5) : ReadI w0 T wsl i pw wd q (fun k => decide (k = 6) || f k) (upd y 6 v) w := by
  unfold ReadI at *; simp [upd] at *; grind
theorem ReadI.o7 (h : ReadI w0 T wsl i pw wd q f y w) (hf : f 7 = false) (hf6 : f 6 = true) {a b : Int} {ok : Bool} (hy : y 5 = tupR a b ok) (hv : v = .agg #[.int .i64 a, .int .i64 b]) : ReadI w0 T wsl i pw wd q (fun k => decide (k = 7) || f k) (upd y 7 v) w := by
  obtain ⟨hC0, h0, h1, h2, h3, h4, h5, h6, h7, h8, h9, h11, d6, d7, d8, d10, d11⟩ := h
  have e10 : f 10 = false := by
    cases e : f 10 with
    | false => rfl
    | true => have := (d10 e).1; simp [hf] at this
  refine ⟨hC0, by simpa [upd] using h0, by simpa [upd] using h1, by simpa [upd] using h2, by simpa [upd] using h3, by simpa [upd] using h4, by simpa [upd] using h5, by simpa [upd] using h6, fun _ => ⟨a, b, ok, hy, hv⟩, by simpa [upd] using h8, fun h => ?_, by simpa [upd] using h11, by simpa using d6, by simp [hf6], by simpa using d8, by simp [e10], by simpa using d11⟩
  obtain ⟨g, c, d, x1, x2, x3, x4⟩ := h9 (by simpa using h)
  exact ⟨g, c, d, x1, x2, x3, by simp [e10]⟩
theorem ReadI.o8 (h : ReadI w0 T wsl i pw wd q f y w) (hf : f 8 = false) (hf6 : f 6 = true) {a b : Int} {ok : Bool} (hy : y 5 = tupR a b ok) (hv : v = .bool ok) : ReadI w0 T wsl i pw wd q (fun k => decide (k = 8) || f k) (upd y 8 v) w := by
  obtain ⟨hC0, h0, h1, h2, h3, h4, h5, h6, h7, h8, h9, h11, d6, d7, d8, d10, d11⟩ := h
  have e11 : f 11 = false := by
    cases e : f 11 with
    | false => rfl
    | true => have := d11 e; simp [hf] at this
  refine ⟨hC0, by simpa [upd] using h0, by simpa [upd] using h1, by simpa [upd] using h2, by simpa [upd] using h3, by simpa [upd] using h4, by simpa [upd] using h5, by simpa [upd] using h6, by simpa [upd] using h7, fun _ => ⟨a, b, ok, hy, hv⟩, by simpa [upd] using h9, by simp [e11], by simpa using d6, by simpa using d7, by simp [hf6], by simpa using d10, by simp [e11]⟩
theorem ReadI.o9 (h : ReadI w0 T wsl i pw wd q f y w) (hf : f 9 = false) {c d : Int} (hv : v = .pointer (some ⟨w.heap.size, 0, none⟩)) : ReadI w0 T wsl i pw wd q (fun k => decide (k = 9) || f k) (upd y 9 v) (w.alloc (.cells #[.int .i64 c, .int .i64 d] 64)) := by
  have hC : Below w0.heap.size w0 (w.alloc (.cells #[.int .i64 c, .int .i64 d] 64)) := h.1.alloc h.1.size _
  have hn : Blk (w.alloc (.cells #[.int .i64 c, .int .i64 d] 64)) w.heap.size 64 #[.int .i64 c, .int .i64 d] := Blk.new w _ _
  have hsz := h.1.size
  have h10 : f 10 = false := by
    have := h.2.2.2.2.2.2.2.2.2.2.2.2.2.2.2.1
    cases e : f 10 with
    | false => rfl
    | true => have := (this e).2; rw [hf] at this; cases this
  unfold ReadI at *; simp [upd] at *; grind
theorem ReadI.o10 (h : ReadI w0 T wsl i pw wd q f y w) {g : Nat} {a b : Int} (hy7 : y 7 = .agg #[.int .i64 a, .int .i64 b]) (hf7 : f 7 = true) (hf9 : f 9 = true) (hy9 : y 9 = .pointer (some ⟨g, 0, none⟩)) : ReadI w0 T wsl i pw wd q (fun k => decide (k = 10) || f k) (upd y 10 v) ((w.setCell ⟨g, 0, none⟩ (.int .i64 a)).setCell ⟨g, 1, none⟩ (.int .i64 b)) := by
  obtain ⟨g', c, d, e1, hg, hB, _⟩ := h.2.2.2.2.2.2.2.2.2.2.1 hf9
  rw [hy9] at e1
  simp only [Value.pointer.injEq, Option.some.injEq, Addr.mk.injEq, and_true] at e1
  subst e1
  have hC : Below w0.heap.size w0 ((w.setCell ⟨g, 0, none⟩ (.int .i64 a)).setCell ⟨g, 1, none⟩ (.int .i64 b)) := (h.1.setCell hg _).setCell hg _
  have hn : Blk ((w.setCell ⟨g, 0, none⟩ (.int .i64 a)).setCell ⟨g, 1, none⟩ (.int .i64 b)) g 64 #[.int .i64 a, .int .i64 b] := by
    simpa using (hB.set_ 0 (.int .i64 a)).set_ 1 (.int .i64 b)
  unfold ReadI at *; simp [upd] at *; grind
theorem ReadI.o11 (h : ReadI w0 T wsl i pw wd q f y w) (hf8 : f 8 = true) (hv : v = y 8) : ReadI w0 T wsl i pw wd q (fun k => decide (k = 11) || f k) (upd y 11 v) w := by
  unfold ReadI at *; simp [upd] at *; grind
end
end Go.Proofs.YtjfdfhnfcpfmcaaGreatDoor
