/-
  The law PaperRepeated (each seat has the first paper, from its number on, that fits: any paper in between is too much alike with that of a neighbour before it) returns true, for every bank, hall and numbers, whichever seat, and any paper in between. Conditions: none but those of the statement itself.
-/
import Derived.Test.YtnmgnonbgihalaaPz
import Derived.Test.YtnmgnonbgihalaaPw
import Derived.Test.YtnmgnonbgihalaaPaperRepeatedF
import Derived.Test.YtnmgnonbgihalaaPaRepL
namespace Go.Proofs.Ytnmgnonbgihalaa.paperRepeated
open Go.ChangeShapes Go.WideShapes Go.ChangeAt Go.RowKit

theorem params_read : ∀ t ∈ Try.f12.params.toList, Try.prog.readableRec t = true ∧ t < Try.prog.types.size := by
  have h : Try.f12.params.toList.all (fun t => Try.prog.readableRec t && decide (t < Try.prog.types.size)) = true := by kernel_rfl
  intro t ht
  have := List.all_eq_true.1 h t ht
  simpa using this

set_option maxRecDepth 100000 in
theorem contract (H : Type) (enc : TypeId × Value → H) (W : World) (base : Nat) (args : Array Value) (ds gs : List (DataW H)) (before : List MemPlace)
    (hval : ∀ (j : Nat) t v, Try.f12.params[j]? = some t → args[j]? = some v → Value.okWide Try.prog W .any base t v)
    (hW : DataW.Whole enc Try.prog Try.f12.params.toList Rows.paperRepeatedSpec.vars false W args.toList ds gs before) :
    Calls Try.prog 12 args W fun e W' => ∃ v, e = .returned v ∧ Rows.paperRepeatedSpec.post enc Try.prog Try.f12 false true false false W args v W' := by
  have hW' := hW
  obtain ⟨p, q, hA0, hV, rfl, hfz, hnd⟩ := hW
  have hA : DataW.TrodAll enc Try.prog W 0 (fun _ => true) true Try.f12.params.toList args.toList ds p := hA0
  rw [Try.params12] at hA hval
  obtain ⟨v0, vs0, d0, ds0, p0, q0, hargs, rfl, rfl, h0, r0⟩ := trodAll_cons hA
  obtain ⟨v1, vs1, d1, ds1, p1, q1, rfl, rfl, rfl, h1, r1⟩ := trodAll_cons r0
  obtain ⟨v2, vs2, d2, ds2, p2, q2, rfl, rfl, rfl, h2, r2⟩ := trodAll_cons r1
  obtain ⟨rfl, rfl, rfl⟩ := trodAll_nil r2
  obtain rfl : args = #[v0, v1, v2] := by cases args; simp_all
  obtain ⟨Q, Wd, cq, cw, B, hB⟩ := open_bank (hval 0 27 v0 rfl rfl) h0
  obtain ⟨hr, hs, hc, ln, An, cn, ms, rfl, hL⟩ := open_seated (hval 1 54 v1 rfl rfl) h1
  obtain ⟨x0, x1, rfl, e0, e1⟩ := open_u16x2 (hval 2 58 v2 rfl rfl) h2
  obtain ⟨rfl, rfl⟩ := trodVars_none hV
  refine (PaperRepeated_any v0 ln Q Wd cq cw B hr hs hc An cn ms x0 x1 W hB hL e0 e1).mono ?_
  rintro e W' ⟨rfl, hb⟩
  exact ⟨_, rfl, law_post laidOut0 hW' params_read rfl Try.underlying4 rfl rfl hb⟩

theorem wit2 (os : Os) : Input.okWideB Try.prog ((World.laidAll Try.prog os lst).forCall (fun _ _ => 0) ⟨#[], #[.agg #[.slice none 0 0, .slice none 0 0, .int .i64 0, .int .i64 0], .agg #[.int .i64 0, .int .i64 0, .int .i64 0, .slice none 0 0], .agg #[.int .u16 0, .int .u16 0]], []⟩) 12 ⟨#[], #[.agg #[.slice none 0 0, .slice none 0 0, .int .i64 0, .int .i64 0], .agg #[.int .i64 0, .int .i64 0, .int .i64 0, .slice none 0 0], .agg #[.int .u16 0, .int .u16 0]], []⟩ = true := by kernel_rfl
theorem wit4 (os : Os) {H : Type} (enc : TypeId × Value → H) : DataW.whole enc Try.prog ((World.laidAll Try.prog os lst).forCall (fun _ _ => 0) ⟨#[], #[.agg #[.slice none 0 0, .slice none 0 0, .int .i64 0, .int .i64 0], .agg #[.int .i64 0, .int .i64 0, .int .i64 0, .slice none 0 0], .agg #[.int .u16 0, .int .u16 0]], []⟩).memory Try.f12.params.toList Rows.paperRepeatedSpec.vars false (#[.agg #[.slice none 0 0, .slice none 0 0, .int .i64 0, .int .i64 0], .agg #[.int .i64 0, .int .i64 0, .int .i64 0, .slice none 0 0], .agg #[.int .u16 0, .int .u16 0]] : Array Value).toList 8 = some ([.agg [.nil, .nil, .agg [.lit (.int .i64 0), .lit (.int .i64 0)]], .agg [.agg [.lit (.int .i64 0), .lit (.int .i64 0), .lit (.int .i64 0)], .nil], .agg [.lit (.int .u16 0), .lit (.int .u16 0)]], [], []) := by kernel_rfl

set_option maxRecDepth 100000 in
theorem lifted (os : Os) (started : os.Started) (H : Type) (enc : TypeId × Value → H) (F : Stop.Interp) :
    ReturnsInHanded {} Try.checked os 12 .any ((OpenSpec.ofChange Rows.paperRepeatedSpec).preRow enc Try.prog Try.f12 Rows.paperRepeatedRow.domain false lst) (((OpenSpec.ofChange Rows.paperRepeatedSpec).at F).post enc Try.prog Try.f12 false true false false) := by
  refine returnsInHanded_of_row (C := Try.checked) (s := OpenSpec.ofChange Rows.paperRepeatedSpec) own started notInit Try.func12
    (witness_row_at (enc := enc) (C := Try.checked) false (World.laidAll Try.prog os lst) #[.agg #[.slice none 0 0, .slice none 0 0, .int .i64 0, .int .i64 0], .agg #[.int .i64 0, .int .i64 0, .int .i64 0, .slice none 0 0], .agg #[.int .u16 0, .int .u16 0]] (World.laidAll_os _ _ _) (wit0 os _) (wit1 os _) (wit2 os)
      (OpenSpec.preRow_of_cond 8 (wit4 os enc) (by kernel_rfl) (fun k hk => by cases hk) (by kernel_rfl) (wit3 os _))) ?_
  intro W base args ds gs before hval hW _ _ _ _ _ _
  exact contract H enc W base args ds gs before hval hW

set_option maxRecDepth 100000 in
theorem said : Rows.PaperRepeatedSaid :=
  OpenClaim.holds_of_cond 12 Try.f12 rfl rfl rfl rfl rfl rfl rfl ⟨rfl, rfl, rfl, rfl, rfl⟩ rfl rfl rfl rfl rfl named Try.func12 closed instance_ wrap
    (fun os started H enc _ F => by rw [OpenClaim.pre_eq_preRow]; exact lifted os started H enc F)

end Go.Proofs.Ytnmgnonbgihalaa.paperRepeated
