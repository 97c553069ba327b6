import Derived.Test.YtkhijdbigpaagaaNk
import Derived.Test.YtkhijdbigpaagaaNb
import Derived.Test.YtkhijdbigpaagaaNf
/-
  An operation of a drawn region is looked at with the frame's slots named one by one (not written out): for regions with a tail, and for regions by an invariant.
-/
namespace Go.Proofs.Ytkhijdbigpaagaa.RG
open Go

theorem fr_of {l : List Oper} {a0 : Act} {y : Nat → Value} (hok : okB l 0 = true) : Fr l a0 y (putAll l 0 y a0) :=
  ⟨fun j d hb => by
    obtain ⟨⟨o, h1, h2⟩, h3⟩ := atB_of hb
    have := putAll_get l 0 y a0 j o d hok h1 h2 h3; rwa [Nat.zero_add] at this, fun d v h hv => (putAll_old l 0 y a0 d h).trans hv⟩
theorem oneT_fr {P : Program} {ops : Array Oper} {l : List Oper} {C : World → Prop} {Rel : World → World → Prop} {V : Nat → Value → World → Prop} {a0 : Act} {i : Nat} {o : Oper} (hok : okB l 0 = true) (hg : decide (o.guard = none) = true)
    (h : ∀ (T : Act) (y : Nat → Value) (w : World) (K : Act → World → Prop) (Q : Exit → Act → World → Prop) (Cv : Value → World → Prop), Fr l a0 y T → C w → deps V y w o.after.toList →
      (∀ v w', C w' → Rel w w' → V i v w' → Cv v w') → (∀ v w', Cv v w' → K (T.put o.dst v) w') → o.wp P T w K Q) : OneT P ops l C Rel V a0 i o := by
  intro y w K Q Cv hC hd hV hK
  rw [if_pos (by simp [Region.wanted, of_decide_eq_true hg])]
  exact h _ y w K Q Cv (fr_of hok) hC hd hV hK
theorem oneI_fr {P : Program} {l : List Oper} {I : (Nat → Bool) → (Nat → Value) → World → Prop} {a0 : Act} {i : Nat} {o : Oper} (hok : okB l 0 = true) (hg : decide (o.guard = none) = true)
    (h : ∀ (T : Act) (f : Nat → Bool) (y : Nat → Value) (w : World) (K : Act → World → Prop) (Q : Exit → Act → World → Prop) (Cv : Value → World → Prop), Fr l a0 y T → I f y w → f i = false → (∀ e ∈ o.after.toList, Region.binds .any e = true → f e.on = true) →
      (∀ v w', I (fun k => decide (k = i) || f k) (upd y i v) w' → Cv v w') → (∀ v w', Cv v w' → K (T.put o.dst v) w') → o.wp P T w K Q) : OneI P l.toArray I a0 i o := by
  intro f y w K Q Cv hI hf hd hV hK
  rw [if_pos (by simp [Region.wanted, of_decide_eq_true hg])]
  exact h _ f y w K Q Cv (fr_of hok) hI hf hd hV hK
end Go.Proofs.Ytkhijdbigpaagaa.RG
