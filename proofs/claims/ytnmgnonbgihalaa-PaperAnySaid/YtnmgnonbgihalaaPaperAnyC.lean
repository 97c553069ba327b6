/-
  The law PaperAny (any list of questions that has all that a paper has is one, and Nth of its number is this list; no other list has a number) returns true, for every bank and any questions, by bits. Conditions: none but those of the statement itself.
-/
import Derived.Test.YtnmgnonbgihalaaPz
import Derived.Test.YtnmgnonbgihalaaPw
import Derived.Test.YtnmgnonbgihalaaPaperAnyF
import Derived.Test.YtnmgnonbgihalaaPaAnyL
namespace Go.Proofs.Ytnmgnonbgihalaa.paperAny
open Go.ChangeShapes Go.WideShapes Go.ChangeAt Go.RowKit

theorem params_read : ∀ t ∈ Try.f10.params.toList, Try.prog.readableRec t = true ∧ t < Try.prog.types.size := by
  have h : Try.f10.params.toList.all (fun t => Try.prog.readableRec t && decide (t < Try.prog.types.size)) = true := by kernel_rfl
  intro t ht
  have := List.all_eq_true.1 h t ht
  simpa using this

set_option maxRecDepth 100000 in
theorem contract (H : Type) (enc : TypeId × Value → H) (W : World) (base : Nat) (args : Array Value) (ds gs : List (DataW H)) (before : List MemPlace)
    (hval : ∀ (j : Nat) t v, Try.f10.params[j]? = some t → args[j]? = some v → Value.okWide Try.prog W .any base t v)
    (hW : DataW.Whole enc Try.prog Try.f10.params.toList Rows.paperAnySpec.vars false W args.toList ds gs before) :
    Calls Try.prog 10 args W fun e W' => ∃ v, e = .returned v ∧ Rows.paperAnySpec.post enc Try.prog Try.f10 false true false false W args v W' := by
  have hW' := hW
  obtain ⟨p, q, hA0, hV, rfl, hfz, hnd⟩ := hW
  have hA : DataW.TrodAll enc Try.prog W 0 (fun _ => true) true Try.f10.params.toList args.toList ds p := hA0
  rw [Try.params10] at hA hval
  obtain ⟨v0, vs0, d0, ds0, p0, q0, hargs, rfl, rfl, h0, r0⟩ := trodAll_cons hA
  obtain ⟨v1, vs1, d1, ds1, p1, q1, rfl, rfl, rfl, h1, r1⟩ := trodAll_cons r0
  obtain ⟨rfl, rfl, rfl⟩ := trodAll_nil r1
  obtain rfl : args = #[v0, v1] := by cases args; simp_all
  obtain ⟨Q, Wd, cq, cw, B, hB⟩ := open_bank (hval 0 27 v0 rfl rfl) h0
  obtain ⟨y0, rfl, g0⟩ := open_u16 (hval 1 57 v1 rfl rfl) h1
  obtain ⟨rfl, rfl⟩ := trodVars_none hV
  refine (PaperAny_any v0 Q Wd cq cw B y0 W hB g0).mono ?_
  rintro e W' ⟨rfl, hb⟩
  exact ⟨_, rfl, law_post laidOut0 hW' params_read rfl Try.underlying4 rfl rfl hb⟩

theorem wit2 (os : Os) : Input.okWideB Try.prog ((World.laidAll Try.prog os lst).forCall (fun _ _ => 0) ⟨#[], #[.agg #[.slice none 0 0, .slice none 0 0, .int .i64 0, .int .i64 0], .int .u16 0], []⟩) 10 ⟨#[], #[.agg #[.slice none 0 0, .slice none 0 0, .int .i64 0, .int .i64 0], .int .u16 0], []⟩ = true := by kernel_rfl
theorem wit4 (os : Os) {H : Type} (enc : TypeId × Value → H) : DataW.whole enc Try.prog ((World.laidAll Try.prog os lst).forCall (fun _ _ => 0) ⟨#[], #[.agg #[.slice none 0 0, .slice none 0 0, .int .i64 0, .int .i64 0], .int .u16 0], []⟩).memory Try.f10.params.toList Rows.paperAnySpec.vars false (#[.agg #[.slice none 0 0, .slice none 0 0, .int .i64 0, .int .i64 0], .int .u16 0] : Array Value).toList 8 = some ([.agg [.nil, .nil, .agg [.lit (.int .i64 0), .lit (.int .i64 0)]], .lit (.int .u16 0)], [], []) := by kernel_rfl

set_option maxRecDepth 100000 in
theorem lifted (os : Os) (started : os.Started) (H : Type) (enc : TypeId × Value → H) (F : Stop.Interp) :
    ReturnsInHanded {} Try.checked os 10 .any ((OpenSpec.ofChange Rows.paperAnySpec).preRow enc Try.prog Try.f10 Rows.paperAnyRow.domain false lst) (((OpenSpec.ofChange Rows.paperAnySpec).at F).post enc Try.prog Try.f10 false true false false) := by
  refine returnsInHanded_of_row (C := Try.checked) (s := OpenSpec.ofChange Rows.paperAnySpec) own started notInit Try.func10
    (witness_row_at (enc := enc) (C := Try.checked) false (World.laidAll Try.prog os lst) #[.agg #[.slice none 0 0, .slice none 0 0, .int .i64 0, .int .i64 0], .int .u16 0] (World.laidAll_os _ _ _) (wit0 os _) (wit1 os _) (wit2 os)
      (OpenSpec.preRow_of_cond 8 (wit4 os enc) (by kernel_rfl) (fun k hk => by cases hk) (by kernel_rfl) (wit3 os _))) ?_
  intro W base args ds gs before hval hW _ _ _ _ _ _
  exact contract H enc W base args ds gs before hval hW

set_option maxRecDepth 100000 in
theorem said : Rows.PaperAnySaid :=
  OpenClaim.holds_of_cond 10 Try.f10 rfl rfl rfl rfl rfl rfl rfl ⟨rfl, rfl, rfl, rfl, rfl⟩ rfl rfl rfl rfl rfl named Try.func10 closed instance_ wrap
    (fun os started H enc _ F => by rw [OpenClaim.pre_eq_preRow]; exact lifted os started H enc F)

end Go.Proofs.Ytnmgnonbgihalaa.paperAny
