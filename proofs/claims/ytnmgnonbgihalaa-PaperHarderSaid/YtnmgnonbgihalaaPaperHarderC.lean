/-
  The law PaperHarder (if a question was answered wrong more often, its weight is no less, and all other weights stay) returns true, for every bank, whichever question, and however much more often. Conditions: none but those of the statement itself.
-/
import Derived.Test.YtnmgnonbgihalaaPz
import Derived.Test.YtnmgnonbgihalaaPw
import Derived.Test.YtnmgnonbgihalaaPaperHarderF
import Derived.Test.YtnmgnonbgihalaaPaHardL
namespace Go.Proofs.Ytnmgnonbgihalaa.paperHarder
open Go.ChangeShapes Go.WideShapes Go.ChangeAt Go.RowKit

theorem params_read : ∀ t ∈ Try.f15.params.toList, Try.prog.readableRec t = true ∧ t < Try.prog.types.size := by
  have h : Try.f15.params.toList.all (fun t => Try.prog.readableRec t && decide (t < Try.prog.types.size)) = true := by kernel_rfl
  intro t ht
  have := List.all_eq_true.1 h t ht
  simpa using this

set_option maxRecDepth 100000 in
theorem contract (H : Type) (enc : TypeId × Value → H) (W : World) (base : Nat) (args : Array Value) (ds gs : List (DataW H)) (before : List MemPlace)
    (hval : ∀ (j : Nat) t v, Try.f15.params[j]? = some t → args[j]? = some v → Value.okWide Try.prog W .any base t v)
    (hW : DataW.Whole enc Try.prog Try.f15.params.toList Rows.paperHarderSpec.vars false W args.toList ds gs before) :
    Calls Try.prog 15 args W fun e W' => ∃ v, e = .returned v ∧ Rows.paperHarderSpec.post enc Try.prog Try.f15 false true false false W args v W' := by
  have hW' := hW
  obtain ⟨p, q, hA0, hV, rfl, hfz, hnd⟩ := hW
  have hA : DataW.TrodAll enc Try.prog W 0 (fun _ => true) true Try.f15.params.toList args.toList ds p := hA0
  rw [Try.params15] at hA hval
  obtain ⟨v0, vs0, d0, ds0, p0, q0, hargs, rfl, rfl, h0, r0⟩ := trodAll_cons hA
  obtain ⟨v1, vs1, d1, ds1, p1, q1, rfl, rfl, rfl, h1, r1⟩ := trodAll_cons r0
  obtain ⟨rfl, rfl, rfl⟩ := trodAll_nil r1
  obtain rfl : args = #[v0, v1] := by cases args; simp_all
  obtain ⟨Q, Wd, cq, cw, B, hB⟩ := open_bank (hval 0 27 v0 rfl rfl) h0
  obtain ⟨x0, x1, rfl, e0, e1⟩ := open_u16x2 (hval 1 58 v1 rfl rfl) h1
  obtain ⟨rfl, rfl⟩ := trodVars_none hV
  refine (PaperHarder_any v0 Q Wd cq cw B x0 x1 W hB e0 e1).mono ?_
  rintro e W' ⟨rfl, hb⟩
  exact ⟨_, rfl, law_post laidOut0 hW' params_read rfl Try.underlying4 rfl rfl hb⟩

theorem wit2 (os : Os) : Input.okWideB Try.prog ((World.laidAll Try.prog os lst).forCall (fun _ _ => 0) ⟨#[], #[.agg #[.slice none 0 0, .slice none 0 0, .int .i64 0, .int .i64 0], .agg #[.int .u16 0, .int .u16 0]], []⟩) 15 ⟨#[], #[.agg #[.slice none 0 0, .slice none 0 0, .int .i64 0, .int .i64 0], .agg #[.int .u16 0, .int .u16 0]], []⟩ = true := by kernel_rfl
theorem wit4 (os : Os) {H : Type} (enc : TypeId × Value → H) : DataW.whole enc Try.prog ((World.laidAll Try.prog os lst).forCall (fun _ _ => 0) ⟨#[], #[.agg #[.slice none 0 0, .slice none 0 0, .int .i64 0, .int .i64 0], .agg #[.int .u16 0, .int .u16 0]], []⟩).memory Try.f15.params.toList Rows.paperHarderSpec.vars false (#[.agg #[.slice none 0 0, .slice none 0 0, .int .i64 0, .int .i64 0], .agg #[.int .u16 0, .int .u16 0]] : Array Value).toList 8 = some ([.agg [.nil, .nil, .agg [.lit (.int .i64 0), .lit (.int .i64 0)]], .agg [.lit (.int .u16 0), .lit (.int .u16 0)]], [], []) := by kernel_rfl

set_option maxRecDepth 100000 in
theorem lifted (os : Os) (started : os.Started) (H : Type) (enc : TypeId × Value → H) (F : Stop.Interp) :
    ReturnsInHanded {} Try.checked os 15 .any ((OpenSpec.ofChange Rows.paperHarderSpec).preRow enc Try.prog Try.f15 Rows.paperHarderRow.domain false lst) (((OpenSpec.ofChange Rows.paperHarderSpec).at F).post enc Try.prog Try.f15 false true false false) := by
  refine returnsInHanded_of_row (C := Try.checked) (s := OpenSpec.ofChange Rows.paperHarderSpec) own started notInit Try.func15
    (witness_row_at (enc := enc) (C := Try.checked) false (World.laidAll Try.prog os lst) #[.agg #[.slice none 0 0, .slice none 0 0, .int .i64 0, .int .i64 0], .agg #[.int .u16 0, .int .u16 0]] (World.laidAll_os _ _ _) (wit0 os _) (wit1 os _) (wit2 os)
      (OpenSpec.preRow_of_cond 8 (wit4 os enc) (by kernel_rfl) (fun k hk => by cases hk) (by kernel_rfl) (wit3 os _))) ?_
  intro W base args ds gs before hval hW _ _ _ _ _ _
  exact contract H enc W base args ds gs before hval hW

set_option maxRecDepth 100000 in
theorem said : Rows.PaperHarderSaid :=
  OpenClaim.holds_of_cond 15 Try.f15 rfl rfl rfl rfl rfl rfl rfl ⟨rfl, rfl, rfl, rfl, rfl⟩ rfl rfl rfl rfl rfl named Try.func15 closed instance_ wrap
    (fun os started H enc _ F => by rw [OpenClaim.pre_eq_preRow]; exact lifted os started H enc F)

end Go.Proofs.Ytnmgnonbgihalaa.paperHarder
