import Derived.Test.YtkhijdbigpaagaaNsp
import Derived.Test.YtkhijdbigpaagaaNm
/-
  The loop of a mark in the law SkillReached: what the mark leaves of a set of levels.
-/
namespace Go.Proofs.Ytkhijdbigpaagaa
open Go.RowKit RG

/-- The loops of a code, in the order of the text. -/
def loopsOf : Code → List Code
  | .loop c => .loop c :: loopsOf c
  | .seq a b => loopsOf a ++ loopsOf b
  | .block _ c => loopsOf c
  | .scope c => loopsOf c
  | .cond _ a b => loopsOf a ++ loopsOf b
  | _ => []
noncomputable def markLoop : Code := ((loopsOf (Try.f9.body.getD .skip))[4]?).getD .skip

set_option maxRecDepth 100000 in
set_option maxHeartbeats 8000000 in
theorem mark_loop {u0 u1 u2 u3 u5 u6 u7 u8 u9 u10 u11 u13 u14 u15 u16 u18 u21 u22 u23 u24 u25 u26 u27 u28 u29 u30 u31 u32 u33 u34 u35 u36 u37 u38 u39 u40 u41 u42 u43 u44 u45 u46 u47 u48 u49 u50 u51 u52 u53 u54 u55 u56 u57 u58 u59 u60 u61 u62 u63 u64 u65 u66 u67 u68 u69 u70 u71 u72 u73 u74 u75 u76 u77 u78 u79 u80 u81 u82 u83 u84 u85 u86 u87 u88 u89 u90 u91 u92 u93 u94 u95 u96 u97 u98 u99 u100 u101 u102 u103 u104 u105 u106 u107 u108 u109 u110 u111 u112 u113 u114 u115 u116 u117 u118 u119 u120 u121 u122 u123 u124 u125 u126 u127 u128 u129 u130 u131 u132 u133 u134 u135 u136 u137 u138 u139 u140 u141 u142 u143 u144 u145 u146 u147 u148 u149 u150 u151 u152 u153 u154 u155 u156 u157 u158 u159 u160 u161 u162 u163 u164 u165 u166 u167 u168 u169 u170 u171 u172 u173 u174 u175 u176 u177 u178 u179 u180 u181 u182 u183 u184 u185 u186 u187 u188 u189 u190 u191 u192 u193 u194 u195 u196 u197 u198 u199 u200 u201 u202 u203 u204 u205 u206 u207 u208 u209 u210 u211 u212 u213 u214 u215 u216 u217 u218 u219 u220 u221 u222 u223 u224 u225 u226 u227 u228 u229 u230 u231 u232 u233 u234 u235 u236 u237 u238 u239 u240 u241 u242 u243 u244 u245 u246 u247 u248 u249 u250 u251 u252 u253 u254 u255 u256 u257 u258 u259 u260 u261 u262 u263 u264 u265 u266 u267 u268 u269 u270 u271 u272 u273 u274 u275 u276 u277 u278 u279 u280 u281 u282 u283 u284 : Value} (X g gB be oe n m ce : Nat) (bl bh mk : Int) (q : Option Sp) (W1 w7 : World) (Q : Exit → Act → World → Prop)
    (hnlz : (n : Int) < (m : Int)) (hbl : -300 ≤ bl ∧ bl ≤ bh ∧ bh ≤ 300) (hgW : W1.heap.size ≤ g) (hgBg : gB ≠ g)
    (hx : ∀ W, Below W1.heap.size W1 W → W.cell? ⟨X, 1, none⟩ = some (.slice (some ⟨be, oe, none⟩) m ce)) (he : ∀ W, Below W1.heap.size W1 W → W.cell? ⟨be, oe + n * 5 + 4, none⟩ = some (.int .i64 mk))
    (hB7 : Below W1.heap.size W1 w7) (hst7 : Blk w7 g 4 (setC (indB q))) (hbb7 : Blk w7 gB 32 #[.int .i64 bl, .int .i64 bh])
    (hQ : ∀ (v20 v210 v211 v212 v213 v214 v215 v216 v217 v218 v219 v220 v221 v222 v223 v224 v225 v226 v227 v228 v229 v230 v231 v232 v233 v234 v235 v236 v237 v238 v239 v240 v241 v242 v243 v244 v245 v246 v247 v248 : Value) (wr : World), Below W1.heap.size W1 wr → Blk wr g 4 (setC (cutB (bl, bh) mk (indB q))) → (∀ b t cs, b ≠ g → Blk w7 b t cs → Blk wr b t cs) → Q (.exit 8) ⟨List.toArray (u0 :: u1 :: u2 :: u3 :: (.pointer (some ⟨X, 0, none⟩)) :: u5 :: u6 :: u7 :: u8 :: u9 :: u10 :: u11 :: (.slice (some ⟨g, 0, none⟩) 1001 1001) :: u13 :: u14 :: u15 :: u16 :: (.int .i64 (n : Int)) :: u18 :: (.pointer (some ⟨gB, 0, none⟩)) :: v20 :: u21 :: u22 :: u23 :: u24 :: u25 :: u26 :: u27 :: u28 :: u29 :: u30 :: u31 :: u32 :: u33 :: u34 :: u35 :: u36 :: u37 :: u38 :: u39 :: u40 :: u41 :: u42 :: u43 :: u44 :: u45 :: u46 :: u47 :: u48 :: u49 :: u50 :: u51 :: u52 :: u53 :: u54 :: u55 :: u56 :: u57 :: u58 :: u59 :: u60 :: u61 :: u62 :: u63 :: u64 :: u65 :: u66 :: u67 :: u68 :: u69 :: u70 :: u71 :: u72 :: u73 :: u74 :: u75 :: u76 :: u77 :: u78 :: u79 :: u80 :: u81 :: u82 :: u83 :: u84 :: u85 :: u86 :: u87 :: u88 :: u89 :: u90 :: u91 :: u92 :: u93 :: u94 :: u95 :: u96 :: u97 :: u98 :: u99 :: u100 :: u101 :: u102 :: u103 :: u104 :: u105 :: u106 :: u107 :: u108 :: u109 :: u110 :: u111 :: u112 :: u113 :: u114 :: u115 :: u116 :: u117 :: u118 :: u119 :: u120 :: u121 :: u122 :: u123 :: u124 :: u125 :: u126 :: u127 :: u128 :: u129 :: u130 :: u131 :: u132 :: u133 :: u134 :: u135 :: u136 :: u137 :: u138 :: u139 :: u140 :: u141 :: u142 :: u143 :: u144 :: u145 :: u146 :: u147 :: u148 :: u149 :: u150 :: u151 :: u152 :: u153 :: u154 :: u155 :: u156 :: u157 :: u158 :: u159 :: u160 :: u161 :: u162 :: u163 :: u164 :: u165 :: u166 :: u167 :: u168 :: u169 :: u170 :: u171 :: u172 :: u173 :: u174 :: u175 :: u176 :: u177 :: u178 :: u179 :: u180 :: u181 :: u182 :: u183 :: u184 :: u185 :: u186 :: u187 :: u188 :: u189 :: u190 :: u191 :: u192 :: u193 :: u194 :: u195 :: u196 :: u197 :: u198 :: u199 :: u200 :: u201 :: u202 :: u203 :: u204 :: u205 :: u206 :: u207 :: u208 :: u209 :: v210 :: v211 :: v212 :: v213 :: v214 :: v215 :: v216 :: v217 :: v218 :: v219 :: v220 :: v221 :: v222 :: v223 :: v224 :: v225 :: v226 :: v227 :: v228 :: v229 :: v230 :: v231 :: v232 :: v233 :: v234 :: v235 :: v236 :: v237 :: v238 :: v239 :: v240 :: v241 :: v242 :: v243 :: v244 :: v245 :: v246 :: v247 :: v248 :: u249 :: u250 :: u251 :: u252 :: u253 :: u254 :: u255 :: u256 :: u257 :: u258 :: u259 :: u260 :: u261 :: u262 :: u263 :: u264 :: u265 :: u266 :: u267 :: u268 :: u269 :: u270 :: u271 :: u272 :: u273 :: u274 :: u275 :: u276 :: u277 :: u278 :: u279 :: u280 :: u281 :: u282 :: u283 :: u284 :: ([] : List Value)), []⟩ wr) :
    Code.wp Try.prog markLoop Q ⟨List.toArray (u0 :: u1 :: u2 :: u3 :: (.pointer (some ⟨X, 0, none⟩)) :: u5 :: u6 :: u7 :: u8 :: u9 :: u10 :: u11 :: (.slice (some ⟨g, 0, none⟩) 1001 1001) :: u13 :: u14 :: u15 :: u16 :: (.int .i64 (n : Int)) :: u18 :: (.pointer (some ⟨gB, 0, none⟩)) :: (.int .i64 0) :: u21 :: u22 :: u23 :: u24 :: u25 :: u26 :: u27 :: u28 :: u29 :: u30 :: u31 :: u32 :: u33 :: u34 :: u35 :: u36 :: u37 :: u38 :: u39 :: u40 :: u41 :: u42 :: u43 :: u44 :: u45 :: u46 :: u47 :: u48 :: u49 :: u50 :: u51 :: u52 :: u53 :: u54 :: u55 :: u56 :: u57 :: u58 :: u59 :: u60 :: u61 :: u62 :: u63 :: u64 :: u65 :: u66 :: u67 :: u68 :: u69 :: u70 :: u71 :: u72 :: u73 :: u74 :: u75 :: u76 :: u77 :: u78 :: u79 :: u80 :: u81 :: u82 :: u83 :: u84 :: u85 :: u86 :: u87 :: u88 :: u89 :: u90 :: u91 :: u92 :: u93 :: u94 :: u95 :: u96 :: u97 :: u98 :: u99 :: u100 :: u101 :: u102 :: u103 :: u104 :: u105 :: u106 :: u107 :: u108 :: u109 :: u110 :: u111 :: u112 :: u113 :: u114 :: u115 :: u116 :: u117 :: u118 :: u119 :: u120 :: u121 :: u122 :: u123 :: u124 :: u125 :: u126 :: u127 :: u128 :: u129 :: u130 :: u131 :: u132 :: u133 :: u134 :: u135 :: u136 :: u137 :: u138 :: u139 :: u140 :: u141 :: u142 :: u143 :: u144 :: u145 :: u146 :: u147 :: u148 :: u149 :: u150 :: u151 :: u152 :: u153 :: u154 :: u155 :: u156 :: u157 :: u158 :: u159 :: u160 :: u161 :: u162 :: u163 :: u164 :: u165 :: u166 :: u167 :: u168 :: u169 :: u170 :: u171 :: u172 :: u173 :: u174 :: u175 :: u176 :: u177 :: u178 :: u179 :: u180 :: u181 :: u182 :: u183 :: u184 :: u185 :: u186 :: u187 :: u188 :: u189 :: u190 :: u191 :: u192 :: u193 :: u194 :: u195 :: u196 :: u197 :: u198 :: u199 :: u200 :: u201 :: u202 :: u203 :: u204 :: u205 :: u206 :: u207 :: u208 :: u209 :: u210 :: u211 :: u212 :: u213 :: u214 :: u215 :: u216 :: u217 :: u218 :: u219 :: u220 :: u221 :: u222 :: u223 :: u224 :: u225 :: u226 :: u227 :: u228 :: u229 :: u230 :: u231 :: u232 :: u233 :: u234 :: u235 :: u236 :: u237 :: u238 :: u239 :: u240 :: u241 :: u242 :: u243 :: u244 :: u245 :: u246 :: u247 :: u248 :: u249 :: u250 :: u251 :: u252 :: u253 :: u254 :: u255 :: u256 :: u257 :: u258 :: u259 :: u260 :: u261 :: u262 :: u263 :: u264 :: u265 :: u266 :: u267 :: u268 :: u269 :: u270 :: u271 :: u272 :: u273 :: u274 :: u275 :: u276 :: u277 :: u278 :: u279 :: u280 :: u281 :: u282 :: u283 :: u284 :: ([] : List Value)), []⟩ w7 := by
  have hx := hide hx
  have he := hide he
  have hnz0 : (0 : Int) ≤ (n : Int) := by omega
  have hst8 := hide (show Blk w7 g 4 (setC (cutTo (bl, bh) mk (indB q) 0)) by rw [cutTo_start]; exact hst7)
  have hQ := hide hQ
  have hB7 := hide hB7
  have hbb7 := hide hbb7
  clear hst7
  conv => arg 2; whnf
  go_loopg [20] 1001 (fun gg s20 wr => ∃ j : Nat, j ≤ 1001 ∧ 1001 ≤ gg + j ∧ s20 = .int .i64 j ∧ Hid (Below W1.heap.size W1 wr) ∧ Hid (Blk wr g 4 (setC (cutTo (bl, bh) mk (indB q) j))) ∧ Hid (Blk wr gB 32 #[.int .i64 bl, .int .i64 bh]) ∧ Hid (∀ b t cs, b ≠ g → Blk w7 b t cs → Blk wr b t cs))
  case atStart => exact ⟨0, by omega, by omega, rfl, hB7.out, hst8.out, hbb7.out, fun _ _ _ _ h => h⟩
  case round =>
    clear hB7 hst8 hbb7
    obtain ⟨j, hj, hgg5, rfl, hBr, hst, hbb, hkp⟩ := hrel
    by_cases hj1 : j ≤ 1000
    · have hjz : (j : Int) ≤ 1000 := by omega
      have hjz0 : (0 : Int) ≤ (j : Int) := by omega
      have hjz1 : (j : Int) < 1001 := by omega
      obtain ⟨sj, hsj⟩ : ∃ b, indB q j = b := ⟨_, rfl⟩
      obtain ⟨p1, hp1⟩ : ∃ x, lim ((j : Int) + bl) = x := ⟨_, rfl⟩
      obtain ⟨p2, hp2⟩ : ∃ x, lim ((j : Int) + bh) = x := ⟨_, rfl⟩
      have hwa : IntKind.i64.wrap ((j : Int) + bl) = (j : Int) + bl := by rw [IntKind.wrap_i64]; omega
      have hwb2 : IntKind.i64.wrap ((j : Int) + bh) = (j : Int) + bh := by rw [IntKind.wrap_i64]; omega
      have hwi1 := hide (fun W => Within_any ((j : Int) + bl) W)
      have hwi2 := hide (fun W => Within_any ((j : Int) + bh) W)
      rw [hp1] at hwi1
      rw [hp2] at hwi2
      obtain ⟨g1, hg1⟩ : ∃ b, decide (p1 ≤ mk) = b := ⟨_, rfl⟩
      obtain ⟨g2, hg2⟩ : ∃ b, decide (mk ≤ p2) = b := ⟨_, rfl⟩
      have hcut : cutB (bl, bh) mk (indB q) j = (sj && (g1 && g2)) := by unfold cutB; rw [hsj, hp1, hp2, hg1, hg2]
      have hnx := hide (show (setC (cutTo (bl, bh) mk (indB q) j)).setIfInBounds j (.bool (sj && (g1 && g2))) = setC (cutTo (bl, bh) mk (indB q) (j + 1)) by rw [← hcut]; exact cutTo_set _ _ _ hj1)
      have v0 : wr.cell? ⟨g, j, none⟩ = some (.bool sj) := by rw [hst.out.cell, setC_get _ hj1, cutTo_at, hsj]
      have v1 := hide (hst.out.frozen j)
      have m0 : wr.cell? ⟨gB, 0, none⟩ = some (.int .i64 bl) := hbb.out.cell 0
      have m1 : wr.cell? ⟨gB, 1, none⟩ = some (.int .i64 bh) := hbb.out.cell 1
      have x1 := hx.out wr hBr.out
      have e4 := he.out wr hBr.out
      clear hcut hsj hp1 hp2 hbl
      go_wp2
      refine region_tailB 35 (by kernel_rfl) (by kernel_rfl) ?_
      simp only [List.take_succ_cons, List.take_zero, List.drop_succ_cons, List.drop_zero]
      cases sj with
      | false =>
        iterate 35 (refine still_bx (fun K hK => ?_); go_simp; refine hK.out _ ?_; clear hK K)
        refine still_bx_nil ?_
        clear m0 m1 x1 e4 hg1 hg2 hwa hwb2
        have v1' := v1.out
        go_wp2
        go_roundg (1001 - (j + 1))
        case measure => omega
        case rel =>
          refine ⟨j + 1, by omega, by omega, by go_num, hBr.out.drew.setCell (by show W1.heap.size ≤ g; exact hgW) _, ?_, (Blk.drew hbb.out).far (by show gB ≠ g; exact hgBg) _, fun b t cs hb h => (Blk.drew (hkp.out b t cs hb h)).far (by show b ≠ g; exact hb) _⟩
          unfold Hid
          rw [← hnx.out]
          exact (Blk.drew hst.out).set_ j _
      | true =>
        iterate 11 (refine still_bx (fun K hK => ?_); go_simp; refine hK.out _ ?_; clear hK K)
        refine still_bx (fun K hK => ?_)
        go_simp
        refine ⟨_, (hwi1.out _).mono fun _ _ h => ⟨h.1, h.2.symm⟩, hK.out _ ?_⟩
        clear hK K
        cases g1 with
        | false =>
          iterate 23 (refine still_bx (fun K hK => ?_); go_simp; refine hK.out _ ?_; clear hK K)
          refine still_bx_nil ?_
          clear m0 m1 x1 e4 hg1 hg2 hwa hwb2
          have v1' := v1.out
          go_wp2
          go_roundg (1001 - (j + 1))
          case measure => omega
          case rel =>
            refine ⟨j + 1, by omega, by omega, by go_num, hBr.out.drew.setCell (by show W1.heap.size ≤ g; exact hgW) _, ?_, (Blk.drew hbb.out).far (by show gB ≠ g; exact hgBg) _, fun b t cs hb h => (Blk.drew (hkp.out b t cs hb h)).far (by show b ≠ g; exact hb) _⟩
            unfold Hid
            rw [← hnx.out]
            exact (Blk.drew hst.out).set_ j _
        | true =>
          iterate 13 (refine still_bx (fun K hK => ?_); go_simp; refine hK.out _ ?_; clear hK K)
          refine still_bx (fun K hK => ?_)
          go_simp
          refine ⟨_, (hwi2.out _).mono fun _ _ h => ⟨h.1, h.2.symm⟩, hK.out _ ?_⟩
          clear hK K
          iterate 9 (refine still_bx (fun K hK => ?_); go_simp; refine hK.out _ ?_; clear hK K)
          refine still_bx_nil ?_
          clear m0 m1 x1 e4 hg1 hg2 hwa hwb2
          have v1' := v1.out
          go_wp2
          go_roundg (1001 - (j + 1))
          case measure => omega
          case rel =>
            refine ⟨j + 1, by omega, by omega, by go_num, hBr.out.drew.setCell (by show W1.heap.size ≤ g; exact hgW) _, ?_, (Blk.drew hbb.out).far (by show gB ≠ g; exact hgBg) _, fun b t cs hb h => (Blk.drew (hkp.out b t cs hb h)).far (by show b ≠ g; exact hb) _⟩
            unfold Hid
            rw [← hnx.out]
            exact (Blk.drew hst.out).set_ j _
    · have hjz : ¬ (j : Int) ≤ 1000 := by omega
      obtain rfl : j = 1001 := by omega
      have hst9 := hst.out
      rw [cutTo_end] at hst9
      have hf := hQ.out
      clear hQ hx he
      go_wp2
      exact hf _ _ _ _ _ _ _ _ _ _ _ _ _ _ _ _ _ _ _ _ _ _ _ _ _ _ _ _ _ _ _ _ _ _ _ _ _ _ _ _ wr hBr.out hst9 hkp.out
end Go.Proofs.Ytkhijdbigpaagaa
