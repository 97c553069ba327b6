/-
  The law SkillReached.
-/
import Derived.Test.YtkhijdbigpaagaaNrn
import Derived.Test.YtkhijdbigpaagaaNwa
import Derived.Test.YtkhijdbigpaagaaNaf
import Derived.Test.YtkhijdbigpaagaaNl
import Derived.Test.YtkhijdbigpaagaaNda
import Derived.Test.YtkhijdbigpaagaaNj
import Derived.Deep.CutBlock
namespace Go.Proofs.Ytkhijdbigpaagaa
open Go.RowKit RG

set_option maxRecDepth 100000 in
set_option maxHeartbeats 4000000 in
theorem SkillReached_any (v : Value) (S : Sch) (L E : Option Addr) (k cl m ce : Nat) (rs : List Sp) (es : List Ev) (wk ix wh : Int) (w : World) (h : RdSch w v S) (hls : RdRow w L k 2 (rs.map tkCells)) (hk : k ≤ maxLen) (hes : RdRow w E m 5 (es.map evCells)) (hm : m ≤ maxLen) (hcap : m ≤ ce) (hwh : 0 ≤ wh ∧ wh ≤ 255) :
    Calls Try.prog 9 #[v, .agg #[.slice L k cl, .slice E m ce, .int .i64 wk, .int .i64 ix], .int .u8 wh] w fun e w' => e = .returned (.bool true) ∧ Below w.heap.size w w' := by
  have hA := hide (After_any v S L E k cl m ce rs es wk)
  have hAW := hide (fun W (hb : Below w.heap.size w W) => hA.out W (h.below hb) (hls.below hb) hk (hes.below hb) hm hcap)
  have hV := hide (fun W (hb : Below w.heap.size w W) => valid_any v S W (h.below hb))
  have hrl : rs.length = k := by have := hls.1; simpa using this
  have hel : es.length = m := by have := hes.1; simpa using this
  have hlsB := hide (fun W (hb : Below w.heap.size w W) => hls.below hb)
  have hesB := hide (fun W (hb : Below w.heap.size w W) => hes.below hb)
  have hlen := afterF_len S rs es wk
  rw [hrl] at hlen
  have hbad := fun h => after_bad (S := S) (rs := rs) (es := es) (wk := wk) h
  have hokk := fun h => after_ok (S := S) (rs := rs) (es := es) (wk := wk) h
  obtain ⟨A, c, A2, c2, rfl, hsk, hn1m, hn1c, -, hin, hn2m, hn2c, -⟩ := h
  have hskB := hide (fun W (hb : Below w.heap.size w W) => hsk.below hb)
  have hinB := hide (fun W (hb : Below w.heap.size w W) => hin.below hb)
  have hEv := hide (fun W (hb : Below w.heap.size w W) => EventsR_any A A2 E S.sks.length c S.ins.length c2 m ce es W hn1m hn2m (hes.below hb) hm)
  unfold AfterR at hAW
  obtain ⟨q, hq⟩ : ∃ q, afterF S rs es wk = q := ⟨_, rfl⟩
  rw [hq] at hAW hbad hokk
  obtain ⟨q1, q2⟩ := q
  simp only at hAW hbad hokk
  clear hls hes hlen hA hsk hin hn1m hn2m hn1c hn2c
  replace hrl := hide hrl
  replace hel := hide hel
  replace hbad := hide hbad
  replace hokk := hide hokk
  replace hq := hide hq
  obtain ⟨n1, hn1⟩ : ∃ n, S.sks.length = n := ⟨_, rfl⟩
  obtain ⟨n2, hn2⟩ : ∃ n, S.ins.length = n := ⟨_, rfl⟩
  rw [hn1, hn2] at hAW hV hEv ⊢
  rw [hn1] at hskB
  rw [hn2] at hinB
  replace hn1 := hide hn1
  replace hn2 := hide hn2
  obtain ⟨W0, hW0⟩ : ∃ W0, (w.alloc (.cells #[.slice A n1 c, .slice A2 n2 c2] 25)).alloc (.cells #[.slice L k cl, .slice E m ce, .int .i64 wk, .int .i64 ix] 40) = W0 := ⟨_, rfl⟩
  have kS := hide (show Blk W0 w.heap.size 25 #[.slice A n1 c, .slice A2 n2 c2] by rw [← hW0]; exact (blkNew rfl).alloc _)
  have kX := hide (show Blk W0 (w.heap.size + 1) 40 #[.slice L k cl, .slice E m ce, .int .i64 wk, .int .i64 ix] by rw [← hW0]; exact blkNew (by simp))
  have hB := hide (show Below w.heap.size w W0 by rw [← hW0]; exact ((Below.refl _ _).alloc (Nat.le_refl _) _).alloc (by simp) _)
  have s0 : W0.cell? ⟨w.heap.size, 0, none⟩ = some (.slice A n1 c) := kS.out.cell 0
  have s1 : W0.cell? ⟨w.heap.size, 1, none⟩ = some (.slice A2 n2 c2) := kS.out.cell 1
  have x0 : W0.cell? ⟨w.heap.size + 1, 0, none⟩ = some (.slice L k cl) := kX.out.cell 0
  have x1 : W0.cell? ⟨w.heap.size + 1, 1, none⟩ = some (.slice E m ce) := kX.out.cell 1
  have x2 : W0.cell? ⟨w.heap.size + 1, 2, none⟩ = some (.int .i64 wk) := kX.out.cell 2
  rw [← hW0] at s0 s1 x0 x1 x2
  replace hW0 := hide hW0
  go_enter Try.func9, Try.ntmps9
  go_wp2_with fail
  rw [hW0.out]
  refine (hAW.out _ hB.out).mono ?_
  rintro e w1 ⟨⟨v1, rfl, hT1⟩, hb⟩
  replace kS := hide (kS.out.below hb kS.out.lt)
  replace kX := hide (kX.out.below hb kX.out.lt)
  replace hB := hide (hB.out.trans (hb.mono hB.out.size))
  clear hb s0 s1 x0 x1 x2 hAW hW0
  have s0 : w1.cell? ⟨w.heap.size, 0, none⟩ = some (.slice A n1 c) := kS.out.cell 0
  have s1 : w1.cell? ⟨w.heap.size, 1, none⟩ = some (.slice A2 n2 c2) := kS.out.cell 1
  have x0 : w1.cell? ⟨w.heap.size + 1, 0, none⟩ = some (.slice L k cl) := kX.out.cell 0
  have x1 : w1.cell? ⟨w.heap.size + 1, 1, none⟩ = some (.slice E m ce) := kX.out.cell 1
  obtain ⟨A3, c3, rfl, hr3, -⟩ := hT1
  by_cases hbd : q2 ≠ 0 ∧ q2 ≠ 9
  · have hT0 : q1 = none := hbad.out hbd.1
    subst hT0
    have b1 : (q2 != 0) = true := by rw [bne_iff_ne]; exact hbd.1
    have b2 : (q2 != 9) = true := by rw [bne_iff_ne]; exact hbd.2
    have b3 : (q2 == 0) = false := by rw [beq_eq_false_iff_ne]; exact hbd.1
    replace hbd := hide hbd
    simp only [Option.getD_none, List.length_nil]
    clear hr3
    go_wp2_with fail
    refine (AwakeS _).mono ?_
    rintro e w5 ⟨rfl, hb⟩
    replace hB := hide (hB.out.trans (hb.mono hB.out.size))
    clear hb s0 s1 x0 x1
    go_wp2
    go_ret
    exact ⟨rfl, hB.out⟩
  · have h09 : q2 = 0 ∨ q2 = 9 := by omega
    obtain ⟨hh, hw, hl, hqe⟩ := hokk.out h09
    obtain ⟨hck, hrk, hek⟩ := hist_ok hh
    have hrok := ranges_ok hrk
    have hkn : k = n1 := by rw [← hrl.out, hrok.1]; exact hn1.out
    have hc1 := check_ok hck
    have hn15 : 1 ≤ n1 ∧ n1 ≤ 5 ∧ n2 ≤ 6 := by have h1 := hn1.out; have h2 := hn2.out; omega
    have hm60 : m ≤ 60 := by have := (evs_ok hek).1; rw [hel.out] at this; exact this
    rw [hn1.out, hn2.out] at hek
    rw [hek] at hEv
    have hck1 : ((checkS S).2.2 == 0) = true := by rw [beq_iff_eq]; exact hck
    rw [hck1] at hV
    have hmath := reach_math (wk := wk) hh
    obtain ⟨F, hF⟩ : ∃ F : Nat → Option Sp, (fun i => liveI S wk i es 0 (some (rs[i]?.getD (0, 0)))) = F := ⟨_, rfl⟩
    have hFe : ∀ i, liveI S wk i es 0 (some (rs[i]?.getD (0, 0))) = F i := fun i => congrFun hF i
    rw [hF, hn1.out] at hmath
    have hqa : q1 = liveS S wk es 0 rs := congrArg Prod.fst hqe
    have hqb : q2 = e9 (liveS S wk es 0 rs) := congrArg Prod.snd hqe
    rw [← hqa] at hmath hqb
    simp only [hFe] at hmath
    have hT9 := hide (show q2 = 9 → anyN F n1 = true from fun h => hmath.2 (by cases q1 with | none => rfl | some T => rw [h] at hqb; cases hqb))
    have hT0 := hide (show q2 = 0 → ∃ T, q1 = some T ∧ T.length = n1 ∧ ∀ i, i < n1 → F i = some (T[i]?.getD (0, 0)) from fun h => by
      cases q1 with
      | none => rw [h] at hqb; cases hqb
      | some T => exact ⟨T, rfl, hmath.1 T rfl⟩)
    have hwkA := hide (fun n (hn : n ≤ m) => wkAt_in (n := n) hh hw hl (by rw [hel.out]; exact hn))
    have hevs := hide ((evs_ok (hist_ok hh).2.2).2)
    subst hkn
    replace hFe := hide hFe
    replace hck := hide hck
    replace hrok := hide hrok
    replace hh := hide hh
    clear hbad hokk hq hqe hmath hqa hqb hF hek hrk hc1 hck1 hbd hk hm
    replace hw := hide hw
    replace hl := hide hl
    have bkk : ((k : Int) != (k : Int)) = false := by simp
    go_upto_region 2 with fail
    go_cut [61] from 35 to 61 (fun t wx => t = .bool false ∧ Below w1.heap.size w1 wx)
    case first =>
      rcases h09 with rfl | rfl
      all_goals
        go_wp2_with fail
        refine (hV.out _ hB.out).mono ?_
        rintro e w2 ⟨rfl, hb⟩
        have t0 := (kS.out.below hb kS.out.lt).cell 0
        have t1 := (kS.out.below hb kS.out.lt).cell 1
        have t2 := (kX.out.below hb kX.out.lt).cell 0
        have t3 := (kX.out.below hb kX.out.lt).cell 1
        have r0 : w2.cell? ⟨w.heap.size, 0, none⟩ = some (.slice A k c) := t0
        have r1 : w2.cell? ⟨w.heap.size, 1, none⟩ = some (.slice A2 n2 c2) := t1
        have r2 : w2.cell? ⟨w.heap.size + 1, 0, none⟩ = some (.slice L k cl) := t2
        have r3 : w2.cell? ⟨w.heap.size + 1, 1, none⟩ = some (.slice E m ce) := t3
        have hB2 := hide (hB.out.trans (hb.mono hB.out.size))
        replace hb := hide hb
        clear s0 s1 x0 x1 t0 t1 t2 t3
        go_wp2_with fail
        refine (hEv.out _ hB2.out).mono ?_
        rintro e w3 ⟨rfl, hb3⟩
        have hB3 := hide (hb.out.trans (hb3.mono hb.out.size))
        clear hb3 r0 r1 r2 r3
        go_wp2
        go_meet
        exact ⟨rfl, hB3.out⟩
    case rest =>
      obtain ⟨rfl, hb⟩ := hcut
      replace kS := hide (kS.out.below hb kS.out.lt)
      replace kX := hide (kX.out.below hb kX.out.lt)
      replace hB := hide (hB.out.trans (hb.mono hB.out.size))
      have hr4 := hide (hr3.below hb)
      clear hb s0 s1 x0 x1 hr3 hV hEv
      have s0 : wc.cell? ⟨w.heap.size, 0, none⟩ = some (.slice A k c) := kS.out.cell 0
      obtain ⟨nl, hnl⟩ : ∃ n, (q1.getD []).length = n := ⟨_, rfl⟩
      rw [hnl] at hr4 ⊢
      replace hnl := hide hnl
      go_upto_region 4 with fail
      go_cut [81] from 72 to 81 (fun t wx => t = .bool false ∧ wx = wc)
      case first =>
        rcases h09 with rfl | rfl
        · obtain ⟨T, hTe, hTl, -⟩ := hT0.out rfl
          have bn : ((nl : Int) != (k : Int)) = false := by rw [← hnl.out, hTe, Option.getD_some, hTl]; simp
          go_wp2
          go_meet
          exact ⟨rfl, rfl⟩
        · go_wp2
          go_meet
          exact ⟨rfl, rfl⟩
      case rest =>
        obtain ⟨rfl, rfl⟩ := hcut
        have bz : ((k : Int) == 0) = false := by rw [beq_eq_false_iff_ne]; omega
        have hww : IntKind.i64.wrap wh = wh := by rw [IntKind.wrap_i64]; omega
        obtain ⟨kk, hkk⟩ : ∃ i : Nat, wh.tmod (k : Int) = i := ⟨(wh.tmod k).toNat, by rw [Int.toNat_of_nonneg (Int.tmod_nonneg _ hwh.1)]⟩
        have hkk2 : kk < k := by have := Int.tmod_lt_of_pos wh (show (0 : Int) < (k : Int) by omega); omega
        have hwk : IntKind.i64.wrap (kk : Int) = (kk : Int) := by rw [IntKind.wrap_i64]; omega
        obtain ⟨W1, hW1⟩ : ∃ W, wc = W := ⟨_, rfl⟩
        have hB0 := hide (Below.refl W1.heap.size W1)
        rw [hW1] at s0 kS kX hB hr4 ⊢
        clear hW1
        have hsW := hB.out.size
        have kSW := kS.out.lt
        have kXW := kX.out.lt
        go_wp2
        clear hww hwk bz
        replace hkk := hide hkk
        go_loopg [10, 11] k (fun gg s10 s11 wr => ∃ i : Nat, i ≤ k ∧ k ≤ gg + i ∧ s11 = .int .i64 i ∧ s10 = .bool (anyN F i) ∧ Hid (Below W1.heap.size W1 wr))
        case atStart => exact ⟨0, Nat.zero_le _, by omega, rfl, rfl, hB0.out⟩
        case round =>
          clear hB0 s0
          obtain ⟨i, hi, hgg, rfl, rfl, hBr⟩ := hrel
          have kSr := kS.out.below hBr.out kSW
          have s0 : wr.cell? ⟨w.heap.size, 0, none⟩ = some (.slice A k c) := kSr.cell 0
          clear kSr
          obtain ⟨an, han⟩ : ∃ an, anyN F i = an := ⟨_, rfl⟩
          by_cases hlt : i < k
          · have hltz : (i : Int) < (k : Int) := by omega
            rw [han]
            refine skill_round S _ _ _ _ _ c n2 c2 c3 k cl m ce nl kk i rs es wk ix q2 q1 F an w W1 wr _ hrl hel hlsB hesB hskB hinB hn1 hn2 h09 hm60 hn15 hwkA hevs hT0 hFe hck hrok hnl hr4 hB hsW kSW kXW kS kX hBr s0 han hlt ?_
            unfold Hid
            intro v6 v10 v12 v13 v14 v15 v16 v17 v18 v19 v20 v21 v22 v23 v88 v89 v90 v91 v92 v93 v94 v95 v96 v97 v98 v99 v100 v101 v102 v103 v104 v105 v106 v107 v108 v109 v110 v111 v112 v113 v114 v115 v116 v117 v118 v119 v120 v121 v122 v123 v124 v125 v126 v127 v128 v129 v130 v131 v132 v133 v134 v135 v136 v137 v138 v139 v140 v141 v142 v143 v144 v145 v146 v147 v148 v149 v150 v151 v152 v153 v154 v155 v156 v157 v158 v159 v160 v161 v162 v163 v164 v165 v166 v167 v168 v169 v170 v171 v172 v173 v174 v175 v176 v177 v178 v179 v180 v181 v182 v183 v184 v185 v186 v187 v188 v189 v190 v191 v192 v193 v194 v195 v196 v197 v198 v199 v200 v201 v202 v203 v204 v205 v206 v207 v208 v209 v210 v211 v212 v213 v214 v215 v216 v217 v218 v219 v220 v221 v222 v223 v224 v225 v226 v227 v228 v229 v230 v231 v232 v233 v234 v235 v236 v237 v238 v239 v240 v241 v242 v243 v244 v245 v246 v247 v248 v249 v250 v251 v252 v253 v254 v255 v256 v257 v258 v259 v260 v261 v262 v263 v264 v265 v266 v267 v268 v269 v270 v271 v272 v273 v274 v275 v276 v277 wr' hv hBr'
            subst hv
            go_wp2
            go_roundg (k - (i + 1))
            case measure => omega
            case rel => exact ⟨i + 1, by omega, by omega, by go_num, rfl, hBr'⟩
          · have hltz : ¬ (i : Int) < (k : Int) := by omega
            obtain rfl : i = k := by omega
            have hBf := hide (hB.out.trans (hBr.out.mono hsW))
            rcases h09 with rfl | rfl
            · obtain ⟨T, -, -, hTi⟩ := hT0.out rfl
              obtain rfl : an = false := by rw [← han]; exact anyN_false fun j hj => by rw [hTi j hj]; rfl
              rw [han]
              clear hTi han
              go_wp2_with fail
              refine (AwakeS _).mono ?_
              rintro e w9 ⟨rfl, hb⟩
              replace hBf := hide (hBf.out.trans (hb.mono hBf.out.size))
              clear hb s0
              go_wp2
              go_ret
              exact ⟨rfl, hBf.out⟩
            · obtain rfl : an = true := by rw [← han]; exact hT9.out rfl
              rw [han]
              clear han
              go_wp2_with fail
              refine (AwakeS _).mono ?_
              rintro e w9 ⟨rfl, hb⟩
              replace hBf := hide (hBf.out.trans (hb.mono hBf.out.size))
              clear hb s0
              go_wp2
              go_ret
              exact ⟨rfl, hBf.out⟩
end Go.Proofs.Ytkhijdbigpaagaa
