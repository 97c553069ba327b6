/-
  The law ClassCompared (rights allow all that they allow; allowing all is handed on; the form of two lists together is the form of the first if and only if the first allows all that the second allows) returns true, of any system and any three lists of rights: its tied card. Conditions: none but those of the card itself.
-/
import Derived.Test.YtjfdfhnfcpfmcaaGreatDoorCards
import Derived.Test.YtjfdfhnfcpfmcaaGreatDoorTie
import Derived.Test.YtjfdfhnfcpfmcaaGreatDoorMk
import Derived.Test.YtjfdfhnfcpfmcaaGreatDoorClassComparedF
import Derived.Test.YtjfdfhnfcpfmcaaGreatDoorLawCompared
namespace Go.Proofs.YtjfdfhnfcpfmcaaGreatDoor.classCompared
open Go.ChangeShapes Go.WideShapes Go.ChangeAt Go.RowKit

theorem params_read : ∀ t ∈ Tryz.f15.params.toList, Tryz.prog.readableRec t = true ∧ t < Tryz.prog.types.size := by
  have h : Tryz.f15.params.toList.all (fun t => Tryz.prog.readableRec t && decide (t < Tryz.prog.types.size)) = true := by kernel_rfl
  intro t ht
  have := List.all_eq_true.1 h t ht
  simpa using this

set_option maxRecDepth 100000 in
theorem contract (H : Type) (enc : TypeId × Value → H) (W : World) (base : Nat) (args : Array Value) (ds gs : List (DataW H)) (before : List MemPlace)
    (hval : ∀ (j : Nat) t v, Tryz.f15.params[j]? = some t → args[j]? = some v → Value.okWide Tryz.prog W .any base t v)
    (hW : DataW.Whole enc Tryz.prog Tryz.f15.params.toList Rows.classComparedSpec.vars false W args.toList ds gs before) (hL : laidMetH Tryz.prog lst W) :
    Calls Tryz.prog 15 args W fun e W' => ∃ v, e = .returned v ∧ Rows.classComparedSpec.post enc Tryz.prog Tryz.f15 false true false false W args v W' := by
  have hW' := hW
  obtain ⟨p, q, hA0, hV, rfl, hfz, hnd⟩ := hW
  have hA : DataW.TrodAll enc Tryz.prog W 0 (fun _ => true) true Tryz.f15.params.toList args.toList ds p := hA0
  rw [Tryz.params15] at hA hval
  obtain ⟨v0, vs0, d0, ds0, p0, q0, hargs, rfl, rfl, h0, r0⟩ := trodAll_cons hA
  obtain ⟨v1, vs1, d1, ds1, p1, q1, rfl, rfl, rfl, h1, r1⟩ := trodAll_cons r0
  obtain ⟨v2, vs2, d2, ds2, p2, q2, rfl, rfl, rfl, h2, r2⟩ := trodAll_cons r1
  obtain ⟨rfl, rfl, rfl⟩ := trodAll_nil r2
  obtain rfl : args = #[v0, v1, v2] := by cases args; simp_all
  obtain ⟨A, A2, cc, c2, S, rfl, hmem⟩ := open_sys (hval 0 38 v0 rfl rfl) h0
  obtain ⟨R, cr, ra, rfl, hra, hna⟩ := open_rts_ (hval 1 46 v1 rfl rfl) h1
  obtain ⟨R1, cr1, rb, R2, cr2, rc, rfl, hrb, hnb, hrc, _⟩ := open_rts2 (hval 2 83 v2 rfl rfl) h2
  obtain ⟨rfl, rfl⟩ := trodVars_none hV
  refine (LawCompared_any A A2 R R1 R2 cc c2 cr cr1 cr2 S ra rb rc W (env_of hL) hmem hra hna hrb hnb hrc).mono ?_
  rintro e W' ⟨rfl, hb⟩
  exact ⟨_, rfl, law_post laidOut0 hW' params_read rfl Tryz.underlying4 rfl rfl hb⟩

theorem wit2 (os : Os) : Input.okWideB Tryz.prog ((World.laidAll Tryz.prog os lst).forCall (fun _ _ => 0) ⟨#[], #[.agg #[.slice none 0 0, .slice none 0 0], .slice none 0 0, .agg #[.slice none 0 0, .slice none 0 0]], []⟩) 15 ⟨#[], #[.agg #[.slice none 0 0, .slice none 0 0], .slice none 0 0, .agg #[.slice none 0 0, .slice none 0 0]], []⟩ = true := by kernel_rfl
theorem wit4 (os : Os) {H : Type} (enc : TypeId × Value → H) : DataW.whole enc Tryz.prog ((World.laidAll Tryz.prog os lst).forCall (fun _ _ => 0) ⟨#[], #[.agg #[.slice none 0 0, .slice none 0 0], .slice none 0 0, .agg #[.slice none 0 0, .slice none 0 0]], []⟩).memory Tryz.f15.params.toList Rows.classComparedSpec.vars false (#[.agg #[.slice none 0 0, .slice none 0 0], .slice none 0 0, .agg #[.slice none 0 0, .slice none 0 0]] : Array Value).toList 8 = some ([.agg [.nil, .nil], .nil, .agg [.nil, .nil]], [], []) := by kernel_rfl

set_option maxRecDepth 100000 in
theorem lifted (os : Os) (started : os.Started) (H : Type) (enc : TypeId × Value → H) (F : Stop.Interp) :
    ReturnsInHanded {} Tryz.checked os 15 .any ((OpenSpec.ofChange Rows.classComparedSpec).preRow enc Tryz.prog Tryz.f15 Rows.classComparedRow.domain false lst) (((OpenSpec.ofChange Rows.classComparedSpec).at F).post enc Tryz.prog Tryz.f15 false true false false) := by
  refine returnsInHanded_of_row (C := Tryz.checked) (s := OpenSpec.ofChange Rows.classComparedSpec) own started notInit Tryz.func15
    (witness_row_at (enc := enc) (C := Tryz.checked) false (World.laidAll Tryz.prog os lst) #[.agg #[.slice none 0 0, .slice none 0 0], .slice none 0 0, .agg #[.slice none 0 0, .slice none 0 0]] (World.laidAll_os _ _ _) (wit0 os _) (wit1 os _) (wit2 os)
      (OpenSpec.preRow_of_cond 8 (wit4 os enc) (by kernel_rfl) (fun k hk => by cases hk) (by kernel_rfl) (wit3 os _))) ?_
  intro W base args ds gs before hval hW _ _ _ hL _ _
  exact contract H enc W base args ds gs before hval hW hL

set_option maxRecDepth 100000 in
theorem said : Rows.ClassComparedSaid :=
  OpenClaim.holds_of_cond 15 Tryz.f15 rfl rfl rfl rfl rfl rfl rfl ⟨rfl, rfl, rfl, rfl, rfl⟩ rfl rfl rfl rfl rfl named Tryz.func15 closed instance_ wrap
    (fun os started H enc _ F => by rw [OpenClaim.pre_eq_preRow]; exact lifted os started H enc F)

theorem plain (f : FuncId) (fn : Func) (hf : Tryz.pinned.checked.prog.funcNamed "bitepoint/bitepointlaw01.ClassCompared" = some f) (hfn : Tryz.pinned.checked.prog.funcs[f]? = some fn) :
    false = Tryz.pinned.checked.prog.looks [] ∧ ∀ (j : Nat) t, fn.params[j]? = some t → Tryz.pinned.checked.prog.wantsStandIn t = false := by
  obtain rfl : f = 15 := Option.some.inj (named.symm.trans hf) |>.symm
  obtain rfl : fn = Tryz.f15 := (Option.some.inj (Tryz.func15.symm.trans hfn)).symm
  refine ⟨looks0, fun j t ht => ?_⟩
  have hm : t ∈ Tryz.f15.params.toList := by simpa using Array.mem_of_getElem? ht
  have := List.all_eq_true.1 noStand t hm
  have h2 : Tryz.prog.wantsStandIn t = false := by simpa using this
  exact h2

theorem card : Rows.ClassComparedCardSaid :=
  Claim7.holds_tied_plain_at .later [] _ _ _ _ said (fun _ h => by cases h) (by kernel_rfl) (fun _ h => by cases h) classCompared_row_tie rfl ⟨rfl, rfl⟩ (by kernel_rfl) rfl plain (by kernel_rfl)
end Go.Proofs.YtjfdfhnfcpfmcaaGreatDoor.classCompared
