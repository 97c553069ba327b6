import Derived.Test.YtkhijdbigpaagaaNmk
import Derived.Test.YtkhijdbigpaagaaNwa
import Derived.Test.YtkhijdbigpaagaaNda
import Derived.Test.YtkhijdbigpaagaaNj
import Derived.Test.YtkhijdbigpaagaaNk
import Derived.Deep.CutBlock
/-
  A round of the loop of skills in the law SkillReached: the levels of one skill, followed one by one.
-/
namespace Go.Proofs.Ytkhijdbigpaagaa
open Go.RowKit RG

noncomputable def skillRound : Code := match ((loopsOf (Try.f9.body.getD .skip))[0]?).getD .skip with
  | .loop c => c
  | c => c

set_option maxRecDepth 100000 in
set_option maxHeartbeats 8000000 in
theorem skill_round {u0 u1 u2 u5 u6 u12 u13 u14 u15 u16 u17 u18 u19 u20 u21 u22 u23 u24 u25 u26 u27 u28 u29 u30 u31 u32 u33 u34 u35 u36 u37 u38 u39 u40 u41 u42 u43 u44 u45 u46 u47 u48 u49 u50 u51 u52 u53 u54 u55 u56 u57 u58 u59 u60 u61 u62 u63 u64 u65 u66 u67 u68 u69 u70 u71 u72 u73 u74 u75 u76 u77 u78 u79 u80 u81 u82 u83 u84 u85 u86 u87 u88 u89 u90 u91 u92 u93 u94 u95 u96 u97 u98 u99 u100 u101 u102 u103 u104 u105 u106 u107 u108 u109 u110 u111 u112 u113 u114 u115 u116 u117 u118 u119 u120 u121 u122 u123 u124 u125 u126 u127 u128 u129 u130 u131 u132 u133 u134 u135 u136 u137 u138 u139 u140 u141 u142 u143 u144 u145 u146 u147 u148 u149 u150 u151 u152 u153 u154 u155 u156 u157 u158 u159 u160 u161 u162 u163 u164 u165 u166 u167 u168 u169 u170 u171 u172 u173 u174 u175 u176 u177 u178 u179 u180 u181 u182 u183 u184 u185 u186 u187 u188 u189 u190 u191 u192 u193 u194 u195 u196 u197 u198 u199 u200 u201 u202 u203 u204 u205 u206 u207 u208 u209 u210 u211 u212 u213 u214 u215 u216 u217 u218 u219 u220 u221 u222 u223 u224 u225 u226 u227 u228 u229 u230 u231 u232 u233 u234 u235 u236 u237 u238 u239 u240 u241 u242 u243 u244 u245 u246 u247 u248 u249 u250 u251 u252 u253 u254 u255 u256 u257 u258 u259 u260 u261 u262 u263 u264 u265 u266 u267 u268 u269 u270 u271 u272 u273 u274 u275 u276 u277 u278 u279 u280 u281 u282 u283 u284 : Value} (S : Sch) (A A2 L E A3 : Option Addr) (c n2 c2 c3 k cl m ce nl kk i : Nat) (rs : List Sp) (es : List Ev) (wk ix q2 : Int) (q1 : Option (List Sp)) (F : Nat → Option Sp) (an : Bool) (w W1 wr : World) (Q : Exit → Act → World → Prop)
    (hrl : Hid (rs.length = k)) (hel : Hid (es.length = m)) (hlsB : Hid (∀ W, Below w.heap.size w W → RdRow W L k 2 (rs.map tkCells))) (hesB : Hid (∀ W, Below w.heap.size w W → RdRow W E m 5 (es.map evCells)))
    (hskB : Hid (∀ W, Below w.heap.size w W → RdRow W A k 5 (S.sks.map skCells))) (hinB : Hid (∀ W, Below w.heap.size w W → RdRow W A2 n2 3 (S.ins.map inCells)))
    (hn1 : Hid (S.sks.length = k)) (hn2 : Hid (S.ins.length = n2)) (h09 : q2 = 0 ∨ q2 = 9) (hm60 : m ≤ 60) (hn15 : 1 ≤ k ∧ k ≤ 5 ∧ n2 ≤ 6)
    (hwkA : Hid (∀ n, n ≤ m → 0 ≤ lastW (es.take n) ∧ lastW (es.take n) ≤ wkAt wk es n ∧ wkAt wk es n ≤ 200)) (hevs : Hid (EvsOk S.sks.length S.ins.length es))
    (hT0 : Hid (q2 = 0 → ∃ T, q1 = some T ∧ T.length = k ∧ ∀ i, i < k → F i = some (T[i]?.getD (0, 0)))) (hFe : Hid (∀ i, liveI S wk i es 0 (some (rs[i]?.getD (0, 0))) = F i)) (hck : Hid ((checkS S).2.2 = 0))
    (hrok : Hid (rs.length = S.sks.length ∧ ∀ i, i < rs.length → 0 ≤ (rs[i]?.getD (0, 0)).1 ∧ (rs[i]?.getD (0, 0)).1 ≤ (rs[i]?.getD (0, 0)).2 ∧ (rs[i]?.getD (0, 0)).2 ≤ 1000))
    (hnl : Hid ((q1.getD []).length = nl)) (hr4 : Hid (RdRow W1 A3 nl 2 ((q1.getD []).map tkCells))) (hB : Hid (Below w.heap.size w W1)) (hsW : w.heap.size ≤ W1.heap.size) (kSW : w.heap.size < W1.heap.size) (kXW : w.heap.size + 1 < W1.heap.size)
    (kS : Hid (Blk W1 w.heap.size 25 #[.slice A k c, .slice A2 n2 c2])) (kX : Hid (Blk W1 (w.heap.size + 1) 40 #[.slice L k cl, .slice E m ce, .int .i64 wk, .int .i64 ix]))
    (hBr : Hid (Below W1.heap.size W1 wr)) (s0 : wr.cell? ⟨w.heap.size, 0, none⟩ = some (.slice A k c)) (han : anyN F i = an) (hlt : i < k)
    (hQ : Hid (∀ (v6 v10 v12 v13 v14 v15 v16 v17 v18 v19 v20 v21 v22 v23 v88 v89 v90 v91 v92 v93 v94 v95 v96 v97 v98 v99 v100 v101 v102 v103 v104 v105 v106 v107 v108 v109 v110 v111 v112 v113 v114 v115 v116 v117 v118 v119 v120 v121 v122 v123 v124 v125 v126 v127 v128 v129 v130 v131 v132 v133 v134 v135 v136 v137 v138 v139 v140 v141 v142 v143 v144 v145 v146 v147 v148 v149 v150 v151 v152 v153 v154 v155 v156 v157 v158 v159 v160 v161 v162 v163 v164 v165 v166 v167 v168 v169 v170 v171 v172 v173 v174 v175 v176 v177 v178 v179 v180 v181 v182 v183 v184 v185 v186 v187 v188 v189 v190 v191 v192 v193 v194 v195 v196 v197 v198 v199 v200 v201 v202 v203 v204 v205 v206 v207 v208 v209 v210 v211 v212 v213 v214 v215 v216 v217 v218 v219 v220 v221 v222 v223 v224 v225 v226 v227 v228 v229 v230 v231 v232 v233 v234 v235 v236 v237 v238 v239 v240 v241 v242 v243 v244 v245 v246 v247 v248 v249 v250 v251 v252 v253 v254 v255 v256 v257 v258 v259 v260 v261 v262 v263 v264 v265 v266 v267 v268 v269 v270 v271 v272 v273 v274 v275 v276 v277 : Value) (wr' : World), v10 = .bool (anyN F (i + 1)) → Below W1.heap.size W1 wr' → Q .normal ⟨List.toArray (u0 :: u1 :: u2 :: (.pointer (some ⟨w.heap.size, 0, none⟩)) :: (.pointer (some ⟨w.heap.size + 1, 0, none⟩)) :: u5 :: v6 :: (.slice A3 nl c3) :: (.int .i64 q2) :: (.int .i64 (kk : Int)) :: v10 :: (.int .i64 ((i : Int) + 1)) :: v12 :: v13 :: v14 :: v15 :: v16 :: v17 :: v18 :: v19 :: v20 :: v21 :: v22 :: v23 :: u24 :: u25 :: u26 :: u27 :: u28 :: u29 :: u30 :: u31 :: u32 :: u33 :: u34 :: u35 :: u36 :: u37 :: u38 :: u39 :: u40 :: u41 :: u42 :: u43 :: u44 :: u45 :: u46 :: u47 :: u48 :: u49 :: u50 :: u51 :: u52 :: u53 :: u54 :: u55 :: u56 :: u57 :: u58 :: u59 :: u60 :: u61 :: u62 :: u63 :: u64 :: u65 :: u66 :: u67 :: u68 :: u69 :: u70 :: u71 :: u72 :: u73 :: u74 :: u75 :: u76 :: u77 :: u78 :: u79 :: u80 :: u81 :: u82 :: u83 :: u84 :: u85 :: u86 :: u87 :: v88 :: v89 :: v90 :: v91 :: v92 :: v93 :: v94 :: v95 :: v96 :: v97 :: v98 :: v99 :: v100 :: v101 :: v102 :: v103 :: v104 :: v105 :: v106 :: v107 :: v108 :: v109 :: v110 :: v111 :: v112 :: v113 :: v114 :: v115 :: v116 :: v117 :: v118 :: v119 :: v120 :: v121 :: v122 :: v123 :: v124 :: v125 :: v126 :: v127 :: v128 :: v129 :: v130 :: v131 :: v132 :: v133 :: v134 :: v135 :: v136 :: v137 :: v138 :: v139 :: v140 :: v141 :: v142 :: v143 :: v144 :: v145 :: v146 :: v147 :: v148 :: v149 :: v150 :: v151 :: v152 :: v153 :: v154 :: v155 :: v156 :: v157 :: v158 :: v159 :: v160 :: v161 :: v162 :: v163 :: v164 :: v165 :: v166 :: v167 :: v168 :: v169 :: v170 :: v171 :: v172 :: v173 :: v174 :: v175 :: v176 :: v177 :: v178 :: v179 :: v180 :: v181 :: v182 :: v183 :: v184 :: v185 :: v186 :: v187 :: v188 :: v189 :: v190 :: v191 :: v192 :: v193 :: v194 :: v195 :: v196 :: v197 :: v198 :: v199 :: v200 :: v201 :: v202 :: v203 :: v204 :: v205 :: v206 :: v207 :: v208 :: v209 :: v210 :: v211 :: v212 :: v213 :: v214 :: v215 :: v216 :: v217 :: v218 :: v219 :: v220 :: v221 :: v222 :: v223 :: v224 :: v225 :: v226 :: v227 :: v228 :: v229 :: v230 :: v231 :: v232 :: v233 :: v234 :: v235 :: v236 :: v237 :: v238 :: v239 :: v240 :: v241 :: v242 :: v243 :: v244 :: v245 :: v246 :: v247 :: v248 :: v249 :: v250 :: v251 :: v252 :: v253 :: v254 :: v255 :: v256 :: v257 :: v258 :: v259 :: v260 :: v261 :: v262 :: v263 :: v264 :: v265 :: v266 :: v267 :: v268 :: v269 :: v270 :: v271 :: v272 :: v273 :: v274 :: v275 :: v276 :: v277 :: u278 :: u279 :: u280 :: u281 :: u282 :: u283 :: u284 :: ([] : List Value)), []⟩ wr')) :
    Code.wp Try.prog skillRound Q ⟨List.toArray (u0 :: u1 :: u2 :: (.pointer (some ⟨w.heap.size, 0, none⟩)) :: (.pointer (some ⟨w.heap.size + 1, 0, none⟩)) :: u5 :: u6 :: (.slice A3 nl c3) :: (.int .i64 q2) :: (.int .i64 (kk : Int)) :: (.bool an) :: (.int .i64 (i : Int)) :: u12 :: u13 :: u14 :: u15 :: u16 :: u17 :: u18 :: u19 :: u20 :: u21 :: u22 :: u23 :: u24 :: u25 :: u26 :: u27 :: u28 :: u29 :: u30 :: u31 :: u32 :: u33 :: u34 :: u35 :: u36 :: u37 :: u38 :: u39 :: u40 :: u41 :: u42 :: u43 :: u44 :: u45 :: u46 :: u47 :: u48 :: u49 :: u50 :: u51 :: u52 :: u53 :: u54 :: u55 :: u56 :: u57 :: u58 :: u59 :: u60 :: u61 :: u62 :: u63 :: u64 :: u65 :: u66 :: u67 :: u68 :: u69 :: u70 :: u71 :: u72 :: u73 :: u74 :: u75 :: u76 :: u77 :: u78 :: u79 :: u80 :: u81 :: u82 :: u83 :: u84 :: u85 :: u86 :: u87 :: u88 :: u89 :: u90 :: u91 :: u92 :: u93 :: u94 :: u95 :: u96 :: u97 :: u98 :: u99 :: u100 :: u101 :: u102 :: u103 :: u104 :: u105 :: u106 :: u107 :: u108 :: u109 :: u110 :: u111 :: u112 :: u113 :: u114 :: u115 :: u116 :: u117 :: u118 :: u119 :: u120 :: u121 :: u122 :: u123 :: u124 :: u125 :: u126 :: u127 :: u128 :: u129 :: u130 :: u131 :: u132 :: u133 :: u134 :: u135 :: u136 :: u137 :: u138 :: u139 :: u140 :: u141 :: u142 :: u143 :: u144 :: u145 :: u146 :: u147 :: u148 :: u149 :: u150 :: u151 :: u152 :: u153 :: u154 :: u155 :: u156 :: u157 :: u158 :: u159 :: u160 :: u161 :: u162 :: u163 :: u164 :: u165 :: u166 :: u167 :: u168 :: u169 :: u170 :: u171 :: u172 :: u173 :: u174 :: u175 :: u176 :: u177 :: u178 :: u179 :: u180 :: u181 :: u182 :: u183 :: u184 :: u185 :: u186 :: u187 :: u188 :: u189 :: u190 :: u191 :: u192 :: u193 :: u194 :: u195 :: u196 :: u197 :: u198 :: u199 :: u200 :: u201 :: u202 :: u203 :: u204 :: u205 :: u206 :: u207 :: u208 :: u209 :: u210 :: u211 :: u212 :: u213 :: u214 :: u215 :: u216 :: u217 :: u218 :: u219 :: u220 :: u221 :: u222 :: u223 :: u224 :: u225 :: u226 :: u227 :: u228 :: u229 :: u230 :: u231 :: u232 :: u233 :: u234 :: u235 :: u236 :: u237 :: u238 :: u239 :: u240 :: u241 :: u242 :: u243 :: u244 :: u245 :: u246 :: u247 :: u248 :: u249 :: u250 :: u251 :: u252 :: u253 :: u254 :: u255 :: u256 :: u257 :: u258 :: u259 :: u260 :: u261 :: u262 :: u263 :: u264 :: u265 :: u266 :: u267 :: u268 :: u269 :: u270 :: u271 :: u272 :: u273 :: u274 :: u275 :: u276 :: u277 :: u278 :: u279 :: u280 :: u281 :: u282 :: u283 :: u284 :: ([] : List Value)), []⟩ wr := by
            conv => arg 2; whnf
            have hltz : (i : Int) < (k : Int) := by omega
            obtain ⟨sk, hsk⟩ : ∃ sk : Bool, decide (i ≠ kk ∧ q2 = 0) = sk := ⟨_, rfl⟩
            replace han := hide han
            go_upto_region 10 with fail
            go_cut [101] from 95 to 101 (fun t wx => t = .bool sk ∧ wx = wr)
            case first =>
              by_cases hne : i = kk
              · have e1 : ((i : Int) != (kk : Int)) = false := by rw [bne_eq_false_iff_eq]; omega
                replace hne := hide hne
                go_wp2
                go_meet
                exact ⟨by rw [← hsk]; simp [hne.out], rfl⟩
              · have e1 : ((i : Int) != (kk : Int)) = true := by rw [bne_iff_ne]; omega
                rcases h09 with rfl | rfl
                · go_wp2
                  go_meet
                  exact ⟨by rw [← hsk]; simp [hne], rfl⟩
                · go_wp2
                  go_meet
                  exact ⟨by rw [← hsk]; simp, rfl⟩
            case rest =>
              obtain ⟨rfl, rfl⟩ := hcut
              cases sk with
              | true =>
                obtain ⟨hne, rfl⟩ := of_decide_eq_true hsk
                obtain ⟨T, -, -, hTi⟩ := hT0.out rfl
                have hnx := hide (show anyN F (i + 1) = an by
                  unfold anyN
                  rw [hTi i hlt, han.out]; simp)
                clear hsk hne s0 hTi
                go_wp2
                exact hQ.out _ _ _ _ _ _ _ _ _ _ _ _ _ _ _ _ _ _ _ _ _ _ _ _ _ _ _ _ _ _ _ _ _ _ _ _ _ _ _ _ _ _ _ _ _ _ _ _ _ _ _ _ _ _ _ _ _ _ _ _ _ _ _ _ _ _ _ _ _ _ _ _ _ _ _ _ _ _ _ _ _ _ _ _ _ _ _ _ _ _ _ _ _ _ _ _ _ _ _ _ _ _ _ _ _ _ _ _ _ _ _ _ _ _ _ _ _ _ _ _ _ _ _ _ _ _ _ _ _ _ _ _ _ _ _ _ _ _ _ _ _ _ _ _ _ _ _ _ _ _ _ _ _ _ _ _ _ _ _ _ _ _ _ _ _ _ _ _ _ _ _ _ _ _ _ _ _ _ _ _ _ _ _ _ _ _ _ _ _ _ _ _ _ _ _ _ _ _ _ _ _ _ _ _ _ (by rw [hnx.out]) (hBr.out)
              | false =>
                have hnsk := hide (of_decide_eq_false hsk)
                clear hsk
                have hBw := hide (hB.out.trans (hBr.out.mono hsW))
                obtain ⟨hr1, hr2⟩ := hrok.out
                have hir : i < rs.length := by rw [hrl.out]; exact hlt
                have hri := hr2 i hir
                obtain ⟨ln, hln⟩ : ∃ ln : Nat, (rs[i]?.getD (0, 0)).1 = ln := ⟨(rs[i]?.getD (0, 0)).1.toNat, by omega⟩
                obtain ⟨hn, hhn⟩ : ∃ hn : Nat, (rs[i]?.getD (0, 0)).2 = hn := ⟨(rs[i]?.getD (0, 0)).2.toNat, by omega⟩
                have hFi := hFe.out i
                have hpr : rs[i]?.getD (0, 0) = ((ln : Int), (hn : Int)) := by rw [← hln, ← hhn]
                have hok0 : okO' (some ((ln : Int), (hn : Int))) := fun r hr => by
                  injection hr with hr; subst hr; unfold okS; simp only; omega
                rw [hpr] at hFi
                have hmk := mk_set wc
                have kXr := hide (kX.out.below hBr.out kXW)
                have x0 : wc.cell? ⟨w.heap.size + 1, 0, none⟩ = some (.slice L k cl) := kXr.out.cell 0
                obtain ⟨b, off, y0, y1, rfl, hbl, hy, c0, c1⟩ := (hlsB.out wc hBw.out).cells2 hlt
                rw [map_at tkCells rs i hir, show rs[i]?.getD default = rs[i]?.getD (0, 0) by rw [List.getElem?_eq_getElem hir]; rfl, hpr] at hy
                unfold tkCells at hy
                simp only [List.cons.injEq, and_true] at hy
                obtain ⟨rfl, rfl⟩ := hy
                have hlh : ln ≤ hn ∧ hn ≤ 1000 := by omega
                have hmx : max (0 : Int) (ln : Int) = (ln : Int) := by omega
                have hmn : min (1000 : Int) (hn : Int) = (hn : Int) := by omega
                have hiz : (0 : Int) ≤ (i : Int) := by omega
                have hsr := hBr.out.size
                have hBr2 := hide (hBr.out.alloc hsr (.cells (setC fun _ => false) 4))
                have hst := hide (show Blk (wc.alloc (.cells (setC fun _ => false) 4)) wc.heap.size 4 (setC (fromB ln ln)) by rw [from_start]; exact blkNew rfl)
                have x0' : (wc.alloc (.cells (setC fun _ => false) 4)).cell? ⟨w.heap.size + 1, 0, none⟩ = some (.slice (some ⟨b, off, none⟩) k cl) := (kXr.out.alloc _).cell 0
                have c0' : (wc.alloc (.cells (setC fun _ => false) 4)).cell? ⟨b, off + i * 2, none⟩ = some (.int .i64 (ln : Int)) := (cellB (o := off + i * 2) ((Below.refl wc.heap.size wc).alloc (Nat.le_refl _) _) hbl).trans c0
                replace hpr := hide hpr
                replace hFi := hide hFi
                replace hok0 := hide hok0
                replace hnsk := hide hnsk.out
                clear hln hhn hr1 hr2 hri c0 c1
                obtain ⟨w2, hw2⟩ : ∃ w2, wc.alloc (.cells (setC fun _ => false) 4) = w2 := ⟨_, rfl⟩
                obtain ⟨gs, hgs⟩ : ∃ g, wc.heap.size = g := ⟨_, rfl⟩
                rw [hw2, hgs] at hmk hst
                rw [hw2] at hBr2 x0' c0'
                have hgsW : W1.heap.size ≤ gs := by omega
                clear hw2 hBw kXr hBr
                go_wp2
                clear x0 x0' c0' hmk s0
                go_loopg [14] (hn + 1) (fun gg s14 wr => ∃ j : Nat, ln ≤ j ∧ j ≤ hn + 1 ∧ hn + 1 ≤ gg + j ∧ s14 = .int .i64 j ∧ Hid (Below W1.heap.size W1 wr) ∧ Hid (Blk wr gs 4 (setC (fromB ln j))))
                case atStart => exact ⟨ln, by omega, by omega, by omega, rfl, hBr2.out, hst.out⟩
                case round =>
                  clear hBr2 hst
                  obtain ⟨j, hj1, hj2, hgg2, rfl, hBr, hst⟩ := hrel
                  have x0 : wr.cell? ⟨w.heap.size + 1, 0, none⟩ = some (.slice (some ⟨b, off, none⟩) k cl) := (kX.out.below hBr.out kXW).cell 0
                  obtain ⟨b', off', y0, y1, hbe, hbl, hy, c0, c1⟩ := (hlsB.out wr (hB.out.trans (hBr.out.mono hsW))).cells2 hlt
                  simp only [Option.some.injEq, Addr.mk.injEq, and_true] at hbe
                  obtain ⟨rfl, rfl⟩ := hbe
                  rw [map_at tkCells rs i hir, show rs[i]?.getD default = rs[i]?.getD (0, 0) by rw [List.getElem?_eq_getElem hir]; rfl, hpr.out] at hy
                  unfold tkCells at hy
                  simp only [List.cons.injEq, and_true] at hy
                  obtain ⟨rfl, rfl⟩ := hy
                  clear c0
                  by_cases hjl : j ≤ hn
                  · have hjz : (j : Int) ≤ (hn : Int) := by omega
                    have hjz0 : (0 : Int) ≤ (j : Int) := by omega
                    have hj1001 : (j : Int) < 1001 := by omega
                    obtain ⟨o, ho⟩ : ∃ o : Value, wr.cell? ⟨gs, j, none⟩ = some o := ⟨_, by rw [hst.out.cell]; exact setC_get _ (by omega)⟩
                    have hfz : wr.frozen? ⟨gs, j, none⟩ = false := hst.out.frozen j
                    go_wp2
                    go_roundg (hn + 1 - (j + 1))
                    case measure => omega
                    case rel =>
                      refine ⟨j + 1, by omega, by omega, by omega, by go_num, hBr.out.setCell (by show W1.heap.size ≤ gs; omega) _, ?_⟩
                      unfold Hid
                      rw [← from_set hj1 (by omega)]
                      exact hst.out.set_ j _
                  · have hjz : ¬ (j : Int) ≤ (hn : Int) := by omega
                    obtain rfl : j = hn + 1 := by omega
                    have hst2 := hst.out
                    rw [from_end] at hst2
                    replace hst2 := hide hst2
                    have hBw := hide (hB.out.trans (hBr.out.mono hsW))
                    clear hst
                    go_upto_region 16 with fail
                    clear c1 x0
                    have s0 : wr.cell? ⟨w.heap.size, 0, none⟩ = some (.slice A k c) := (kS.out.below hBr.out kSW).cell 0
                    obtain ⟨b3, off3, z0, z1, z2, z3, z4, rfl, hb3, hz, -, d1, d2, d3, d4⟩ := (hskB.out wr hBw.out).cells5 hlt
                    rw [sk_at S.sks i (by rw [hn1.out]; exact hlt)] at hz
                    unfold skCells at hz
                    simp only [List.cons.injEq, and_true] at hz
                    obtain ⟨-, rfl, rfl, rfl, rfl⟩ := hz
                    have hfk := (sk_ok hck.out (i := i) (by rw [hn1.out]; exact hlt))
                    obtain ⟨fl, hfl⟩ : ∃ x, (S.sks[i]?.getD default).fl = x := ⟨_, rfl⟩
                    obtain ⟨fh, hfh⟩ : ∃ x, (S.sks[i]?.getD default).fh = x := ⟨_, rfl⟩
                    have hfd := hide (show fadeOf (S.sks[i]?.getD default) = (fl, fh) by unfold fadeOf; rw [hfl, hfh])
                    rw [hfl] at d3 hfk
                    rw [hfh] at d4 hfk
                    have hfb : 0 ≤ fl ∧ fl ≤ fh ∧ fh ≤ 1000 := by omega
                    clear hfk d1 d2 hfl hfh
                    have hsr := hBr.out.size
                    go_upto_region 17 with fail
                    have hBr4 := hide (hBr.out.alloc hsr (.cells #[.int .i64 fl, .int .i64 fh] 32))
                    have hst4 := hide (hst2.out.alloc (.cells #[.int .i64 fl, .int .i64 fh] 32))
                    have f0 : (wr.alloc (.cells #[.int .i64 fl, .int .i64 fh] 32)).cell? ⟨wr.heap.size, 0, none⟩ = some (.int .i64 fl) := (Blk.new wr _ _).cell 0
                    have f1 : (wr.alloc (.cells #[.int .i64 fl, .int .i64 fh] 32)).cell? ⟨wr.heap.size, 1, none⟩ = some (.int .i64 fh) := (Blk.new wr _ _).cell 1
                    have hn1 : IntKind.i64.wrap (-fh) = -fh := by rw [IntKind.wrap_i64]; omega
                    have hn2 : IntKind.i64.wrap (-fl) = -fl := by rw [IntKind.wrap_i64]; omega
                    have hSp := hide (span_w (-fh) (-fl) (wr.alloc (.cells #[.int .i64 fl, .int .i64 fh] 32)))
                    clear s0 d3 d4 hst2
                    go_wp2_with fail
                    refine hSp.out.mono ?_
                    rintro e w5 ⟨rfl, hb⟩
                    have hBr5 := hide (hBr4.out.trans (hb.mono hBr4.out.size))
                    have hst5 := hide (hst4.out.below hb hst4.out.lt)
                    clear hb f0 f1 hn1 hn2 hSp hBr4 hst4
                    have hBr6 := hide (hBr5.out.alloc hBr5.out.size (.cells #[.int .i64 (-fh), .int .i64 (-fl)] 32))
                    have hst6 := hide (hst5.out.alloc (.cells #[.int .i64 (-fh), .int .i64 (-fl)] 32))
                    have hlw6 := hide (Blk.new w5 32 #[.int .i64 (-fh), .int .i64 (-fl)])
                    have hgL : W1.heap.size ≤ w5.heap.size := hBr5.out.size
                    clear hBr5 hst5 hBw hBr
                    go_upto_region 18 with fail
                    obtain ⟨w6, hw6⟩ : ∃ x, w5.alloc (.cells #[.int .i64 (-fh), .int .i64 (-fl)] 32) = x := ⟨_, rfl⟩
                    obtain ⟨gL, hgLe⟩ : ∃ x, w5.heap.size = x := ⟨_, rfl⟩
                    rw [hw6] at hBr6 hst6 hlw6 ⊢
                    rw [hgLe] at hlw6 hgL ⊢
                    clear hw6 hgLe
                    go_wp2
                    have hR0 := hide (atEv_start S wk i es (some ((ln : Int), (hn : Int))))
                    rw [hFi.out] at hR0
                    clear hmx hmn hlh
                    replace hfb := hide hfb
                    go_loopg [12, 13, 17] (m + 1) (fun gg s12 s13 s17 wr => ∃ (n : Nat) (q : Option Sp) (now : Int) (g : Nat), n ≤ m + 1 ∧ m + 1 ≤ gg + n ∧ s17 = .int .i64 n ∧ s13 = .int .i64 now ∧ s12 = .slice (some ⟨g, 0, none⟩) 1001 1001 ∧ W1.heap.size ≤ g ∧ Hid (AtEv S wk i es (F i) n now q) ∧ Hid (okO' q) ∧ Hid (Below W1.heap.size W1 wr) ∧ Hid (Blk wr g 4 (setC (indB q))) ∧ Hid (Blk wr gL 32 #[.int .i64 (-fh), .int .i64 (-fl)]))
                    case atStart => exact ⟨0, _, 0, gs, by omega, by omega, rfl, rfl, rfl, hgsW, hR0.out, hok0.out, hBr6.out, hst6.out, hlw6.out⟩
                    case round =>
                      clear hR0 hBr6 hst6 hlw6 hok0
                      obtain ⟨n, q, now, g, hn, hgg3, rfl, rfl, rfl, hgW, hAt, hoq, hBr, hst, hlw⟩ := hrel
                      have kXr := hide (kX.out.below hBr.out kXW)
                      have kSr := hide (kS.out.below hBr.out kSW)
                      have x1 : wr.cell? ⟨w.heap.size + 1, 1, none⟩ = some (.slice E m ce) := kXr.out.cell 1
                      have hnz0 : (0 : Int) ≤ (n : Int) := by omega
                      by_cases hnm : n ≤ m
                      · have hnmz : (n : Int) ≤ (m : Int) := by omega
                        have hAt2 : now = lastW (es.take n) ∧ liveI S wk i (es.drop n) now q = F i := by
                          rcases hAt.out with ⟨_, h2, h3⟩ | ⟨h1, _⟩
                          · exact ⟨h2, h3⟩
                          · rw [hel.out] at h1; omega
                        obtain ⟨wt, hwt⟩ : ∃ x, wkAt wk es n = x := ⟨_, rfl⟩
                        have hwb := hwkA.out n hnm
                        have hstep := hide (fun (a : Int) (p : Option Sp) (h : a < wkAt wk es n) => weekI S (wk := wk) i (es := es) (n := n) (by rw [hel.out]; exact hnm) p h)
                        rw [hwt, ← hAt2.1] at hwb
                        rw [hwt] at hstep
                        have hlv := hide hAt2.2
                        clear hAt2 hAt
                        have x2 : wr.cell? ⟨w.heap.size + 1, 2, none⟩ = some (.int .i64 wk) := kXr.out.cell 2
                        have hBw := hide (hB.out.trans (hBr.out.mono hsW))
                        go_upto_if 150 with fail
                        go_cut [18] from 151 to 156 (fun t wx => t = .int .i64 wt ∧ wx = wr)
                        case first =>
                          unfold wkAt at hwt
                          by_cases hl2 : n < m
                          · have hl2b : decide (n < m) = true := decide_eq_true hl2
                            have hl2z : (n : Int) < (m : Int) := by omega
                            rw [if_pos (by rw [hel.out]; exact hl2)] at hwt
                            obtain ⟨be, oe, y0, y1, y2, y3, y4, rfl, hbe, hy, e0, -⟩ := (hesB.out wr hBw.out).cells5 hl2
                            rw [map_at evCells es n (by rw [hel.out]; exact hl2)] at hy
                            unfold evCells at hy
                            simp only [List.cons.injEq, and_true] at hy
                            obtain ⟨rfl, -⟩ := hy
                            rw [hwt] at e0
                            replace hwt := hide hwt
                            go_wp2
                            go_meet
                            exact ⟨rfl, rfl⟩
                          · have hl2b : decide (n < m) = false := decide_eq_false hl2
                            rw [if_neg (by rw [hel.out]; exact hl2)] at hwt
                            replace hwt := hide hwt
                            go_wp2
                            go_meet
                            exact ⟨by rw [hwt.out], rfl⟩
                        case rest =>
                          obtain ⟨rfl, rfl⟩ := hcut
                          clear x1 x2 hBw kXr kSr
                          go_wp2
                          go_loopg [12, 13] wt.toNat (fun gg s12 s13 wr => ∃ (q : Option Sp) (now : Int) (g : Nat), 0 ≤ now ∧ now ≤ wt ∧ (wt - now).toNat ≤ gg ∧ s13 = .int .i64 now ∧ s12 = .slice (some ⟨g, 0, none⟩) 1001 1001 ∧ W1.heap.size ≤ g ∧ Hid (liveI S wk i (es.drop n) now q = F i) ∧ Hid (okO' q) ∧ Hid (Below W1.heap.size W1 wr) ∧ Hid (Blk wr g 4 (setC (indB q))) ∧ Hid (Blk wr gL 32 #[.int .i64 (-fh), .int .i64 (-fl)]))
                          case atStart => exact ⟨q, now, g, hwb.1, hwb.2.1, by omega, rfl, rfl, hgW, hlv.out, hoq.out, hBr.out, hst.out, hlw.out⟩
                          case round =>
                            clear hlv hoq hBr hst hlw hgW
                            obtain ⟨hwb0, hwb1, hwb2⟩ := hwb
                            obtain ⟨q, now, g, hnow0, hnow, hgg4, rfl, rfl, hgW, hlv, hoq, hBr, hst, hlw⟩ := hrel
                            by_cases hnw : now < wt
                            · have hn200 : now < 200 := by omega
                              have hww : IntKind.i64.wrap (now + 1) = now + 1 := by rw [IntKind.wrap_i64]; omega
                              have l0 : wr.cell? ⟨gL, 0, none⟩ = some (.int .i64 (-fh)) := hlw.out.cell 0
                              have l1 : wr.cell? ⟨gL, 1, none⟩ = some (.int .i64 (-fl)) := hlw.out.cell 1
                              have hsp := hide (spread_any g (-fh) (-fl) (indB q) wr hst.out (by have h1 := hfb.out; omega))
                              have hspl := hide (show setC (sprB (indB q) (-fh) (-fl)) = setC (indB (q.map (lowerS (fadeOf (S.sks[i]?.getD default))))) by rw [hfd.out]; exact spr_lower (f := (fl, fh)) hoq.out hfb.out.2.1)
                              have hnxt := hide (hstep.out now q hnw)
                              have hoq2 := hide (okO_lower hck.out (i := i) (by rw [hn1.out]; exact hlt) hoq.out)
                              go_wp2_with fail
                              refine hsp.out.mono ?_
                              rintro e w7 ⟨⟨g', rfl, hst7, hg7⟩, hb⟩
                              rw [hspl.out] at hst7
                              replace hst7 := hide hst7
                              have hBr7 := hide (hBr.out.trans (hb.mono hBr.out.size))
                              have hlw7 := hide (hlw.out.below hb hlw.out.lt)
                              have hg7' : W1.heap.size ≤ g' := Nat.le_trans hBr.out.size hg7
                              clear hb l0 l1 hsp hst hlw hBr hg7
                              go_wp2
                              go_roundg (wt - (now + 1)).toNat
                              case measure => omega
                              case rel => exact ⟨_, now + 1, g', by omega, by omega, by omega, rfl, rfl, hg7', by unfold Hid; rw [← hnxt.out]; exact hlv.out, hoq2.out, hBr7.out, hst7.out, hlw7.out⟩
                            · obtain rfl : now = wt := by omega
                              clear hstep hgg4 hnow
                              have x1 : wr.cell? ⟨w.heap.size + 1, 1, none⟩ = some (.slice E m ce) := (kX.out.below hBr.out kXW).cell 1
                              have hwtm := hwt
                              by_cases hnm2 : n = m
                              · have bnm : ((n : Int) == (m : Int)) = true := by rw [beq_iff_eq]; omega
                                have hend := hide (show AtEv S wk i es (F i) (n + 1) now q by
                                  have h1 := hlv.out
                                  have h2 : n = es.length := by rw [hel.out]; exact hnm2
                                  rw [h2] at h1 ⊢
                                  refine atEv_end h1 ?_
                                  rw [← hwt]
                                  unfold wkAt
                                  rw [if_neg (by omega)]
                                  exact Int.le_refl _)
                                replace hnm2 := hide hnm2
                                replace hwt := hide hwt
                                clear hwtm
                                go_wp2
                                clear x1
                                go_roundg (m + 1 - (n + 1))
                                case measure => omega
                                case rel => exact ⟨n + 1, q, now, g, by omega, by omega, by go_num, rfl, rfl, hgW, hend.out, hoq.out, hBr.out, hst.out, hlw.out⟩
                              · have hnl : n < m := by omega
                                have bnm : ((n : Int) == (m : Int)) = false := by rw [beq_eq_false_iff_ne]; omega
                                have hne : n < es.length := by rw [hel.out]; exact hnl
                                unfold wkAt at hwtm
                                rw [if_pos hne] at hwtm
                                have hnlz : (n : Int) < (m : Int) := by omega
                                obtain ⟨be, oe, y0, y1, y2, y3, y4, rfl, hbe, hy, -, e1, e2, e3, e4⟩ := (hesB.out wr (hB.out.trans (hBr.out.mono hsW))).cells5 hnl
                                rw [map_at evCells es n hne] at hy
                                unfold evCells at hy
                                simp only [List.cons.injEq, and_true] at hy
                                obtain ⟨-, rfl, rfl, rfl, rfl⟩ := hy
                                obtain ⟨s, hcs, hsl, -, -, -, hkind⟩ := hevs.out n hne
                                have hlv2 := hide (show liveI S wk i (es.drop n) (es[n]?.getD default).a q = F i by rw [hwtm]; exact hlv.out)
                                replace hwtm := hide hwtm
                                replace hwt := hide hwt
                                by_cases hsi : s = i
                                · have bsi : (((es[n]?.getD default).c : Int) != (i : Int)) = false := by rw [hcs, bne_eq_false_iff_eq]; omega
                                  have hci : (es[n]?.getD default).c = (i : Int) := by rw [hcs, hsi]
                                  have hthis := hide (atEv_this hne hlv2.out)
                                  have hoqs := hide (okO_step hck.out (i := i) (by rw [hn1.out]; exact hlt) (es[n]?.getD default) hoq.out)
                                  rw [hwtm.out] at hthis
                                  rcases hkind with hb0 | ⟨hb1, ki, hdk, hkl, hm0, hm1⟩
                                  · have hstp := hide (step_taught hci hb0 (S := S) (q := q))
                                    have hkr := sk_ok hck.out (i := i) (by rw [hn1.out]; exact hlt)
                                    rw [hb0] at e1
                                    have s0 : wr.cell? ⟨w.heap.size, 0, none⟩ = some (.slice (some ⟨b3, off3, none⟩) k c) := (kS.out.below hBr.out kSW).cell 0
                                    obtain ⟨b3', off3', z0, z1, z2, z3, z4, hbe2, hb3, hz, -, d1, d2, -, -⟩ := (hskB.out wr (hB.out.trans (hBr.out.mono hsW))).cells5 hlt
                                    simp only [Option.some.injEq, Addr.mk.injEq, and_true] at hbe2
                                    obtain ⟨rfl, rfl⟩ := hbe2
                                    rw [sk_at S.sks i (by rw [hn1.out]; exact hlt)] at hz
                                    unfold skCells at hz
                                    simp only [List.cons.injEq, and_true] at hz
                                    obtain ⟨-, rfl, rfl, -, -⟩ := hz
                                    generalize (S.sks[i]?.getD default).gl = gl at *
                                    generalize (S.sks[i]?.getD default).gh = gh at *
                                    have hsp := hide (spread_any g gl gh (indB q) wr hst.out (by omega))
                                    have hspl := hide (show setC (sprB (indB q) gl gh) = setC (indB (stepI S i (es[n]?.getD default) q)) by rw [hstp.out]; exact spr_raise hoq.out hkr.2.1)
                                    generalize stepI S i (es[n]?.getD default) q = q' at *
                                    generalize es[n]?.getD default = ev at *
                                    clear e3 e4 hlv hlv2 hkr
                                    replace hb0 := hide hb0
                                    replace hcs := hide hcs
                                    replace hci := hide hci
                                    go_wp2_with fail
                                    refine hsp.out.mono ?_
                                    rintro e w7 ⟨⟨g', rfl, hst7, hg7⟩, hb⟩
                                    rw [hspl.out] at hst7
                                    replace hst7 := hide hst7
                                    have hBr7 := hide (hBr.out.trans (hb.mono hBr.out.size))
                                    have hlw7 := hide (hlw.out.below hb hlw.out.lt)
                                    have hg7' : W1.heap.size ≤ g' := Nat.le_trans hBr.out.size hg7
                                    clear hb x1 e1 e2 s0 d1 d2 hsp hst hlw hBr hg7
                                    go_wp2
                                    go_roundg (m + 1 - (n + 1))
                                    case measure => omega
                                    case rel => exact ⟨n + 1, q', now, g', by omega, by omega, by go_num, rfl, rfl, hg7', hthis.out, hoqs.out, hBr7.out, hst7.out, hlw7.out⟩
                                  · have hstp := hide (step_marked hci hb1 hdk hoq.out ⟨hm0, hm1⟩ (S := S))
                                    have hir2 := in_ok hck.out (i := ki) hkl
                                    have hkl2 : ki < n2 := by rw [← hn2.out]; exact hkl
                                    have hklz : (ki : Int) < (n2 : Int) := by omega
                                    have hkz : (0 : Int) ≤ (ki : Int) := by omega
                                    rw [hb1] at e1
                                    rw [hdk] at e3
                                    have s1 : wr.cell? ⟨w.heap.size, 1, none⟩ = some (.slice A2 n2 c2) := (kS.out.below hBr.out kSW).cell 1
                                    obtain ⟨b5, off5, z0, z1, z2, rfl, hb5, hz, -, d1, d2⟩ := (hinB.out wr (hB.out.trans (hBr.out.mono hsW))).cells3 hkl2
                                    rw [in_at S.ins ki hkl] at hz
                                    unfold inCells at hz
                                    simp only [List.cons.injEq, and_true] at hz
                                    obtain ⟨-, rfl, rfl⟩ := hz
                                    generalize (S.ins[ki]?.getD default).lo = bl at *
                                    generalize (S.ins[ki]?.getD default).hi = bh at *
                                    have heW := hide (fun W (hb : Below W1.heap.size W1 W) => show W.cell? ⟨be, oe + n * 5 + 4, none⟩ = some (.int .i64 (es[n]?.getD default).e) from by
                                      obtain ⟨be', oe', y0, y1, y2, y3, y4, hq1, hbe, hy, -, -, -, -, h4⟩ := (hesB.out W (hB.out.trans (hb.mono hsW))).cells5 hnl
                                      simp only [Option.some.injEq, Addr.mk.injEq, and_true] at hq1
                                      obtain ⟨rfl, rfl⟩ := hq1
                                      rw [map_at evCells es n hne] at hy
                                      unfold evCells at hy
                                      simp only [List.cons.injEq, and_true] at hy
                                      obtain ⟨-, -, -, -, rfl⟩ := hy
                                      exact h4)
                                    generalize stepI S i (es[n]?.getD default) q = q' at *
                                    obtain ⟨mk, hmkd⟩ : ∃ x, (es[n]?.getD default).e = x := ⟨_, rfl⟩
                                    rw [hmkd] at e4 hstp hm0 hm1 heW
                                    replace hmkd := hide hmkd
                                    generalize es[n]?.getD default = ev at *
                                    clear e4 hlv hlv2
                                    replace hb1 := hide hb1
                                    replace hcs := hide hcs
                                    replace hci := hide hci
                                    replace hdk := hide hdk
                                    go_wp2
                                    have hwz : W1.heap.size ≤ wr.heap.size := hBr.out.size
                                    have hgs9 := hst.out.lt
                                    have hgl9 := hlw.out.lt
                                    refine region_grow_tail 12 [IsV (.pointer (some ⟨w.heap.size, 1, none⟩)), IsV (.slice (some ⟨b5, off5, none⟩) n2 c2), IsV (.pointer (some ⟨w.heap.size + 1, 1, none⟩)), IsV (.slice (some ⟨be, oe, none⟩) m ce), IsV (.int .i64 n), IsV (.pointer (some ⟨be, oe + n * 5, none⟩)), IsV (.pointer (some ⟨be, oe + n * 5 + 3, none⟩)), IsV (.int .i64 ki), IsV (.pointer (some ⟨b5, off5 + ki * 3, none⟩)), IsV (.pointer (some ⟨b5, off5 + ki * 3 + 1, none⟩)), IsV (.agg #[.int .i64 bl, .int .i64 bh]), SpNew wr.heap.size] (by kernel_rfl) (by kernel_rfl) rfl ?_ ?_ ?_
                                    · simp [AllStb, IsV.stb, SpNew.stb]
                                    · refine ⟨?_, ?_, ?_, ?_, ?_, ?_, ?_, ?_, ?_, ?_, ?_, ?_, trivial⟩
                                      all_goals
                                        intro y w6 K Qq Cv hC hd hV
                                        have r0 : w6.cell? ⟨w.heap.size, 1, none⟩ = some (.slice (some ⟨b5, off5, none⟩) n2 c2) := (cellB hC (lt_of_cell s1)).trans s1
                                        have r1 : w6.cell? ⟨w.heap.size + 1, 1, none⟩ = some (.slice (some ⟨be, oe, none⟩) m ce) := (cellB hC (lt_of_cell x1)).trans x1
                                        have r2 := (cellB (o := oe + n * 5 + 3) hC hbe).trans e3
                                        have r3 := (cellB (o := off5 + ki * 3 + 1) hC hb5).trans d1
                                        have r4 := (cellB (o := off5 + ki * 3 + 2) hC hb5).trans d2
                                        have hz6 := hC.size
                                        simp [deps, VL, IsV, Region.binds] at hd
                                      · simp only [List.take_succ_cons, List.take_zero, putAll, Act.put]; go_simp; intro hK; exact hK _ _ (hV _ _ hC (Below.refl _ _) rfl)
                                      · simp only [List.take_succ_cons, List.take_zero, putAll, Act.put]; go_simp; intro hK; exact hK _ _ (hV _ _ hC (Below.refl _ _) rfl)
                                      · simp only [List.take_succ_cons, List.take_zero, putAll, Act.put]; go_simp; intro hK; exact hK _ _ (hV _ _ hC (Below.refl _ _) rfl)
                                      · simp only [List.take_succ_cons, List.take_zero, putAll, Act.put]; go_simp; intro hK; exact hK _ _ (hV _ _ hC (Below.refl _ _) rfl)
                                      · simp only [List.take_succ_cons, List.take_zero, putAll, Act.put]; go_simp; intro hK; exact hK _ _ (hV _ _ hC (Below.refl _ _) rfl)
                                      · simp only [List.take_succ_cons, List.take_zero, putAll, Act.put]; go_simp; intro hK; exact hK _ _ (hV _ _ hC (Below.refl _ _) rfl)
                                      · simp only [List.take_succ_cons, List.take_zero, putAll, Act.put]; go_simp; intro hK; exact hK _ _ (hV _ _ hC (Below.refl _ _) rfl)
                                      · simp only [List.take_succ_cons, List.take_zero, putAll, Act.put]; go_simp; intro hK; exact hK _ _ (hV _ _ hC (Below.refl _ _) rfl)
                                      · simp only [List.take_succ_cons, List.take_zero, putAll, Act.put]; go_simp; intro hK; exact hK _ _ (hV _ _ hC (Below.refl _ _) rfl)
                                      · simp only [List.take_succ_cons, List.take_zero, putAll, Act.put]; go_simp; intro hK; exact hK _ _ (hV _ _ hC (Below.refl _ _) rfl)
                                      · simp only [List.take_succ_cons, List.take_zero, putAll, Act.put]; go_simp; intro hK; exact hK _ _ (hV _ _ hC (Below.refl _ _) rfl)
                                      · simp only [List.take_succ_cons, List.take_zero, putAll, Act.put]; go_simp; intro hK; exact hK _ _ (hV _ _ (hC.alloc hz6 _) ((Below.refl _ _).alloc (Nat.le_refl _) _) ⟨_, rfl, hz6, blkNew rfl⟩)
                                    intro y w6 hC hd
                                    simp [EndsL, IsV] at hd
                                    obtain ⟨d0, d1', d2', d3, d4, d5, d6, d7, d8, d9, d10, ⟨gB, d11, hgB, hbb6⟩⟩ := hd
                                    simp only [List.take_succ_cons, List.take_zero, List.drop_succ_cons, List.drop_zero, putAll, Act.put]
                                    rw [d0, d1', d2', d3, d4, d5, d6, d7, d8, d9, d10, d11]
                                    clear d0 d1' d2' d3 d4 d5 d6 d7 d8 d9 d10 d11
                                    simp only [List.setIfInBounds_toArray, List.set_cons_succ, List.set_cons_zero]
                                    clear x1 e1 e2 e3 s1 d1 d2
                                    have hgBg : gB ≠ g := by omega
                                    have hBr7 := hide (((hBr.out.trans (hC.mono hwz)).setCell (p := ⟨gB, 0, none⟩) (by show W1.heap.size ≤ gB; omega) (.int .i64 bl)).setCell (p := ⟨gB, 1, none⟩) (by show W1.heap.size ≤ gB; omega) (.int .i64 bh))
                                    have hst7 := hide (((hst.out.below hC hgs9).far (p := ⟨gB, 0, none⟩) (by show g ≠ gB; omega) (.int .i64 bl)).far (p := ⟨gB, 1, none⟩) (by show g ≠ gB; omega) (.int .i64 bh))
                                    have hlw7 := hide (((hlw.out.below hC hgl9).far (p := ⟨gB, 0, none⟩) (by show gL ≠ gB; omega) (.int .i64 bl)).far (p := ⟨gB, 1, none⟩) (by show gL ≠ gB; omega) (.int .i64 bh))
                                    have hbb7 := hide (show Blk ((w6.setCell ⟨gB, 0, none⟩ (.int .i64 bl)).setCell ⟨gB, 1, none⟩ (.int .i64 bh)) gB 32 #[.int .i64 bl, .int .i64 bh] from (hbb6.set_ 0 (.int .i64 bl)).set_ 1 (.int .i64 bh))
                                    have k0 : w6.cell? ⟨gB, 0, none⟩ = some (.int .i64 0) := hbb6.cell 0
                                    have k1 : w6.cell? ⟨gB, 1, none⟩ = some (.int .i64 0) := hbb6.cell 1
                                    have kf0 := hbb6.frozen 0
                                    have kf1 := hbb6.frozen 1
                                    clear hst hlw hBr hC hbb6
                                    go_upto_region 30 with fail
                                    clear k0 k1 kf0 kf1
                                    obtain ⟨w7, hw7⟩ : ∃ x, (w6.setCell ⟨gB, 0, none⟩ (.int .i64 bl)).setCell ⟨gB, 1, none⟩ (.int .i64 bh) = x := ⟨_, rfl⟩
                                    rw [hw7] at hBr7 hst7 hlw7 hbb7 ⊢
                                    clear hw7
                                    have hgLg := hlw7.out.ne_ hst7.out (by decide)
                                    go_wp2
                                    refine mark_loop (w.heap.size + 1) g gB be oe n m ce bl bh mk q W1 w7 _ hnlz hir2 hgW hgBg (fun W hb => (kX.out.below hb kXW).cell 1) heW.out hBr7.out hst7.out hbb7.out ?_
                                    intro v20 v210 v211 v212 v213 v214 v215 v216 v217 v218 v219 v220 v221 v222 v223 v224 v225 v226 v227 v228 v229 v230 v231 v232 v233 v234 v235 v236 v237 v238 v239 v240 v241 v242 v243 v244 v245 v246 v247 v248 wr hBr hst hkp
                                    rw [hstp.out] at hst
                                    have hst9 := hide hst
                                    have hBr9 := hide hBr
                                    have hlw9 := hide (hkp gL _ _ hgLg hlw7.out)
                                    clear hst hBr hkp heW hstp hBr7 hst7 hlw7 hbb7
                                    go_wp2
                                    go_roundg (m + 1 - (n + 1))
                                    case measure => omega
                                    case rel => exact ⟨n + 1, q', now, g, by omega, by omega, by go_num, rfl, rfl, hgW, hthis.out, hoqs.out, hBr9.out, hst9.out, hlw9.out⟩
                                · have bsi : (((es[n]?.getD default).c : Int) != (i : Int)) = true := by rw [hcs, bne_iff_ne]; omega
                                  have hend := hide (atEv_other hne hlv2.out (by rw [hcs]; omega))
                                  rw [hwtm.out] at hend
                                  generalize es[n]?.getD default = ev at *
                                  clear e1 e3 e4 hkind hlv hlv2
                                  replace hcs := hide hcs
                                  go_wp2
                                  clear x1 e2 bsi
                                  go_roundg (m + 1 - (n + 1))
                                  case measure => omega
                                  case rel => exact ⟨n + 1, q, now, g, by omega, by omega, by go_num, rfl, rfl, hgW, hend.out, hoq.out, hBr.out, hst.out, hlw.out⟩
                      · have hnmz : ¬ (n : Int) ≤ (m : Int) := by omega
                        obtain rfl : n = m + 1 := by omega
                        have hqF : q = F i := by
                          rcases hAt.out with ⟨h1, _⟩ | ⟨_, h2⟩
                          · rw [hel.out] at h1; omega
                          · exact h2
                        subst hqF
                        clear hAt hlw kXr kSr
                        go_upto_region 34 with fail
                        clear x1
                        go_wp2
                        go_loopg [21, 22, 23] 1001 (fun gg s21 s22 s23 wr' => ∃ j : Nat, j ≤ 1001 ∧ 1001 ≤ gg + j ∧ s23 = .int .i64 j ∧ s21 = .int .i64 (leastB (indB (F i)) j) ∧ s22 = .int .i64 (mostB (indB (F i)) j) ∧ Hid (wr' = wr))
                        case atStart => exact ⟨0, by omega, by omega, rfl, rfl, rfl, rfl⟩
                        case round =>
                          obtain ⟨j, hj, hgg6, rfl, rfl, rfl, hwe⟩ := hrel
                          have hwe := hwe.out
                          subst hwe
                          obtain ⟨le, hle⟩ : ∃ x, leastB (indB (F i)) j = x := ⟨_, rfl⟩
                          obtain ⟨mo, hmo⟩ : ∃ x, mostB (indB (F i)) j = x := ⟨_, rfl⟩
                          rw [hle, hmo]
                          by_cases hj1 : j ≤ 1000
                          · have hjz : (j : Int) ≤ 1000 := by omega
                            have hjz0 : (0 : Int) ≤ (j : Int) := by omega
                            have hjz1 : (j : Int) < 1001 := by omega
                            have v0 : wr.cell? ⟨g, j, none⟩ = some (.bool (indB (F i) j)) := by rw [hst.out.cell, setC_get _ hj1]
                            have hl1 : leastB (indB (F i)) (j + 1) = if le < 0 ∧ indB (F i) j = true then (j : Int) else le := by rw [← hle]; rfl
                            have hm1 : mostB (indB (F i)) (j + 1) = if indB (F i) j = true then (j : Int) else mo := by rw [← hmo]; rfl
                            cases hsj : indB (F i) j with
                            | false =>
                              rw [hsj] at v0 hl1 hm1
                              have hl2 := hide (show leastB (indB (F i)) (j + 1) = le by rw [hl1]; simp)
                              have hm2 := hide (show mostB (indB (F i)) (j + 1) = mo by rw [hm1]; simp)
                              clear hl1 hm1 hle hmo hsj
                              go_wp2
                              go_roundg (1001 - (j + 1))
                              case measure => omega
                              case rel => exact ⟨j + 1, by omega, by omega, by go_num, by rw [hl2.out], by rw [hm2.out], rfl⟩
                            | true =>
                              rw [hsj] at v0 hl1 hm1
                              by_cases hl0 : le < 0
                              · have hl2 := hide (show leastB (indB (F i)) (j + 1) = (j : Int) by rw [hl1, if_pos ⟨hl0, rfl⟩])
                                have hm2 := hide (show mostB (indB (F i)) (j + 1) = (j : Int) by rw [hm1]; simp)
                                clear hl1 hm1 hle hmo hsj
                                go_wp2
                                go_roundg (1001 - (j + 1))
                                case measure => omega
                                case rel => exact ⟨j + 1, by omega, by omega, by go_num, by rw [hl2.out], by rw [hm2.out], rfl⟩
                              · have hl2 := hide (show leastB (indB (F i)) (j + 1) = le by rw [hl1, if_neg (by omega)])
                                have hm2 := hide (show mostB (indB (F i)) (j + 1) = (j : Int) by rw [hm1]; simp)
                                clear hl1 hm1 hle hmo hsj
                                go_wp2
                                go_roundg (1001 - (j + 1))
                                case measure => omega
                                case rel => exact ⟨j + 1, by omega, by omega, by go_num, by rw [hl2.out], by rw [hm2.out], rfl⟩
                          · have hjz : ¬ (j : Int) ≤ 1000 := by omega
                            obtain rfl : j = 1001 := by omega
                            clear hst
                            obtain ⟨an2, han2⟩ : ∃ b, anyN F (i + 1) = b := ⟨_, rfl⟩
                            have han3 : an2 = (an || (F i).isNone) := by rw [← han2, ← han.out]; rfl
                            replace han2 := hide han2
                            have hsr := hBr.out.size
                            cases hFq : F i with
                            | none =>
                              have hends := ends_none 1001
                              rw [hFq] at hle hmo han3
                              rw [hends.1] at hle
                              rw [hends.2] at hmo
                              subst hle hmo
                              have hq9 : q2 = 9 := by
                                rcases h09 with h | h
                                · obtain ⟨T, _, _, hTi⟩ := hT0.out h
                                  rw [hTi i hlt] at hFq; cases hFq
                                · exact h
                              subst hq9
                              obtain rfl : an2 = true := by rw [han3]; simp
                              clear hFq han3 hoq
                              cases an with
                              | true =>
                                go_wp2
                                go_quiet (fail)
                                go_wp2
                                exact hQ.out _ _ _ _ _ _ _ _ _ _ _ _ _ _ _ _ _ _ _ _ _ _ _ _ _ _ _ _ _ _ _ _ _ _ _ _ _ _ _ _ _ _ _ _ _ _ _ _ _ _ _ _ _ _ _ _ _ _ _ _ _ _ _ _ _ _ _ _ _ _ _ _ _ _ _ _ _ _ _ _ _ _ _ _ _ _ _ _ _ _ _ _ _ _ _ _ _ _ _ _ _ _ _ _ _ _ _ _ _ _ _ _ _ _ _ _ _ _ _ _ _ _ _ _ _ _ _ _ _ _ _ _ _ _ _ _ _ _ _ _ _ _ _ _ _ _ _ _ _ _ _ _ _ _ _ _ _ _ _ _ _ _ _ _ _ _ _ _ _ _ _ _ _ _ _ _ _ _ _ _ _ _ _ _ _ _ _ _ _ _ _ _ _ _ _ _ _ _ _ _ _ _ _ _ _ (by rw [han2.out]) (below_drewN hBr.out _)
                              | false =>
                                go_wp2
                                go_quiet (fail)
                                go_wp2
                                exact hQ.out _ _ _ _ _ _ _ _ _ _ _ _ _ _ _ _ _ _ _ _ _ _ _ _ _ _ _ _ _ _ _ _ _ _ _ _ _ _ _ _ _ _ _ _ _ _ _ _ _ _ _ _ _ _ _ _ _ _ _ _ _ _ _ _ _ _ _ _ _ _ _ _ _ _ _ _ _ _ _ _ _ _ _ _ _ _ _ _ _ _ _ _ _ _ _ _ _ _ _ _ _ _ _ _ _ _ _ _ _ _ _ _ _ _ _ _ _ _ _ _ _ _ _ _ _ _ _ _ _ _ _ _ _ _ _ _ _ _ _ _ _ _ _ _ _ _ _ _ _ _ _ _ _ _ _ _ _ _ _ _ _ _ _ _ _ _ _ _ _ _ _ _ _ _ _ _ _ _ _ _ _ _ _ _ _ _ _ _ _ _ _ _ _ _ _ _ _ _ _ _ _ _ _ _ _ (by rw [han2.out]) (below_drewN hBr.out _)
                            | some r =>
                              have hok := hoq.out r hFq
                              have hends := ends_ind hok
                              rw [hFq] at hle hmo han3
                              rw [hends.1] at hle
                              rw [hends.2] at hmo
                              obtain rfl : an2 = an := by rw [han3]; simp
                              unfold okS at hok
                              rw [hle, hmo] at hok
                              have hle0 : ¬ le < 0 := by omega
                              have hle1 : decide (le < 0) = false := decide_eq_false hle0
                              clear han3 hoq hends
                              go_upto_region 42 with fail
                              go_cut [10] from 261 to 265 (fun t wx => t = .bool an2 ∧ wx = wr)
                              case first =>
                                cases an2 with
                                | true =>
                                  go_wp2
                                  go_meet
                                  exact ⟨rfl, rfl⟩
                                | false =>
                                  go_wp2
                                  go_meet
                                  exact ⟨rfl, rfl⟩
                              case rest =>
                                obtain ⟨rfl, rfl⟩ := hcut
                                clear hle1
                                rcases h09 with rfl | rfl
                                · obtain ⟨T, hTe, hTl, hTi⟩ := hT0.out rfl
                                  have hnk : nl = k := by rw [← hnl.out, hTe, Option.getD_some, hTl]
                                  have hTr : T[i]?.getD (0, 0) = r := by
                                    have h1 := hTi i hlt
                                    rw [hFq] at h1
                                    injection h1 with h1; exact h1.symm
                                  have hil : i < T.length := by rw [hTl]; exact hlt
                                  have hil2 : i < nl := by omega
                                  have hilz : (i : Int) < (nl : Int) := by omega
                                  replace hnk := hide hnk
                                  obtain ⟨b9, o9, y0, y1, rfl, hb9, hy, t0, t1⟩ := (hr4.out.below hBr.out).cells2 hil2
                                  rw [hTe, Option.getD_some, map_at tkCells T i hil, show T[i]?.getD default = r by rw [← hTr, List.getElem?_eq_getElem hil]; rfl] at hy
                                  unfold tkCells at hy
                                  simp only [List.cons.injEq, and_true] at hy
                                  obtain ⟨rfl, rfl⟩ := hy
                                  rw [hle] at t0
                                  rw [hmo] at t1
                                  have hSp := hide (fun W => span_w le mo W)
                                  clear hTe hTi hFq hTr
                                  replace hle := hide hle
                                  replace hmo := hide hmo
                                  replace hTl := hide hTl
                                  replace hil := hide hil
                                  go_wp2
                                  refine region_grow [IsV (.int .i64 0), IsV (.bool true), IsV (.bool true), IsV (.slice (some ⟨b9, o9, none⟩) nl c3), IsV (.int .i64 i), IsV (.pointer (some ⟨b9, o9 + i * 2, none⟩)), IsV (.agg #[.int .i64 le, .int .i64 mo]), IsV (.int .i64 le), IsV (.int .i64 mo), IsV (.agg #[.int .i64 le, .int .i64 mo]), IsV (.bool false), IsV (.bool false)] (by kernel_rfl) (by kernel_rfl) rfl ?_ ?_ ?_
                                  · simp [AllStb, IsV.stb]
                                  · refine ⟨?_, ?_, ?_, ?_, ?_, ?_, ?_, ?_, ?_, ?_, ?_, ?_, trivial⟩
                                    all_goals
                                      intro y w6 K Qq Cv hC hd hV
                                      have z0 := (cellB (o := o9 + i * 2) hC hb9).trans t0
                                      have z1 := (cellB (o := o9 + i * 2 + 1) hC hb9).trans t1
                                      simp [deps, VL, IsV, Region.binds] at hd
                                    · simp only [putAll, Act.put]; go_simp; intro hK; exact hK _ _ (hV _ _ hC (Below.refl _ _) rfl)
                                    · simp only [putAll, Act.put]; go_simp; intro hK; exact hK _ _ (hV _ _ hC (Below.refl _ _) rfl)
                                    · simp only [putAll, Act.put]; go_simp; intro hK; exact hK _ _ (hV _ _ hC (Below.refl _ _) rfl)
                                    · simp only [putAll, Act.put]; go_simp; intro hK; exact hK _ _ (hV _ _ hC (Below.refl _ _) rfl)
                                    · simp only [putAll, Act.put]; go_simp; intro hK; exact hK _ _ (hV _ _ hC (Below.refl _ _) rfl)
                                    · simp only [putAll, Act.put]; go_simp; intro hK; exact hK _ _ (hV _ _ hC (Below.refl _ _) rfl)
                                    · simp only [putAll, Act.put]; go_simp; intro hK; exact hK _ _ (hV _ _ hC (Below.refl _ _) rfl)
                                    · simp only [putAll, Act.put]; go_simp; intro hK; exact hK _ _ (hV _ _ hC (Below.refl _ _) rfl)
                                    · simp only [putAll, Act.put]; go_simp; intro hK; exact hK _ _ (hV _ _ hC (Below.refl _ _) rfl)
                                    · simp only [putAll, Act.put]; go_simp; intro hK
                                      refine (hSp.out _).mono ?_
                                      rintro e w7 ⟨rfl, hb7⟩
                                      exact hK _ _ (hV _ _ (hC.trans (hb7.mono hC.size)) hb7 rfl)
                                    · simp only [putAll, Act.put]; go_simp; intro hK; exact hK _ _ (hV _ _ hC (Below.refl _ _) rfl)
                                    · simp only [putAll, Act.put]; go_simp; intro hK; exact hK _ _ (hV _ _ hC (Below.refl _ _) rfl)
                                  · intro y w6 hC hd
                                    simp [EndsL, IsV] at hd
                                    obtain ⟨-, -, -, -, -, -, -, -, -, -, -, d11⟩ := hd
                                    simp only [putAll, Act.put]
                                    rw [d11]
                                    clear d11 t0 t1
                                    simp only [List.setIfInBounds_toArray, List.set_cons_succ, List.set_cons_zero]
                                    have hB6 := hide (hBr.out.trans (hC.mono hBr.out.size))
                                    clear hC hBr
                                    go_wp2
                                    exact hQ.out _ _ _ _ _ _ _ _ _ _ _ _ _ _ _ _ _ _ _ _ _ _ _ _ _ _ _ _ _ _ _ _ _ _ _ _ _ _ _ _ _ _ _ _ _ _ _ _ _ _ _ _ _ _ _ _ _ _ _ _ _ _ _ _ _ _ _ _ _ _ _ _ _ _ _ _ _ _ _ _ _ _ _ _ _ _ _ _ _ _ _ _ _ _ _ _ _ _ _ _ _ _ _ _ _ _ _ _ _ _ _ _ _ _ _ _ _ _ _ _ _ _ _ _ _ _ _ _ _ _ _ _ _ _ _ _ _ _ _ _ _ _ _ _ _ _ _ _ _ _ _ _ _ _ _ _ _ _ _ _ _ _ _ _ _ _ _ _ _ _ _ _ _ _ _ _ _ _ _ _ _ _ _ _ _ _ _ _ _ _ _ _ _ _ _ _ _ _ _ _ _ _ _ _ _ (by rw [han2.out]) (hB6.out)
                                · replace hle := hide hle
                                  replace hmo := hide hmo
                                  go_wp2
                                  go_quiet (fail)
                                  go_wp2
                                  exact hQ.out _ _ _ _ _ _ _ _ _ _ _ _ _ _ _ _ _ _ _ _ _ _ _ _ _ _ _ _ _ _ _ _ _ _ _ _ _ _ _ _ _ _ _ _ _ _ _ _ _ _ _ _ _ _ _ _ _ _ _ _ _ _ _ _ _ _ _ _ _ _ _ _ _ _ _ _ _ _ _ _ _ _ _ _ _ _ _ _ _ _ _ _ _ _ _ _ _ _ _ _ _ _ _ _ _ _ _ _ _ _ _ _ _ _ _ _ _ _ _ _ _ _ _ _ _ _ _ _ _ _ _ _ _ _ _ _ _ _ _ _ _ _ _ _ _ _ _ _ _ _ _ _ _ _ _ _ _ _ _ _ _ _ _ _ _ _ _ _ _ _ _ _ _ _ _ _ _ _ _ _ _ _ _ _ _ _ _ _ _ _ _ _ _ _ _ _ _ _ _ _ _ _ _ _ _ (by rw [han2.out]) (below_drewN hBr.out _)
end Go.Proofs.Ytkhijdbigpaagaa
