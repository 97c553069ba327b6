/-
  The law SkillFewest.
-/
import Derived.Test.YtkhijdbigpaagaaNfa
import Derived.Test.YtkhijdbigpaagaaNl
import Derived.Test.YtkhijdbigpaagaaNda
namespace Go.Proofs.Ytkhijdbigpaagaa
open Go.RowKit RG

set_option maxRecDepth 100000 in
set_option maxHeartbeats 1000000 in
theorem SkillFewest_any (v : Value) (S : Sch) (B L N : Option Addr) (m cb k cl nn nc : Nat) (ts : List (Int × Int)) (al : Int) (rs : List Sp) (ch : Int) (w : World) (h : RdSch w v S) (ht : RdRow w B m 2 (ts.map tkCells)) (hm : m ≤ maxLen)
    (hls : RdRow w L k 2 (rs.map tkCells)) (hk : k ≤ maxLen) (hnu : RdU16 w N nn) (hnn : nn ≤ maxLen) :
    Calls Try.prog 13 #[v, .agg #[.slice B m cb, .int .i64 al], .agg #[.slice L k cl, .int .i64 ch, .slice N nn nc]] w fun e w' => e = .returned (.bool true) ∧ Below w.heap.size w w' := by
  have hrsl : rs.length = k := by have := hls.1; simpa using this
  have hF := hide (fun W (hb : Below w.heap.size w W) => Fewest_any v S B L m cb k cl ts al rs ch W (h.below hb) (ht.below hb) hm (hls.below hb) hk)
  have hV := hide (fun W (hb : Below w.heap.size w W) => valid_any v S W (h.below hb))
  have hRd := hide (fun W (L' : Option Addr) (cl' : Nat) (rs' : List Sp) (hb : Below w.heap.size w W) (hr : RdRow W L' k 2 (rs'.map tkCells)) => Ready_any v S B L' m cb k cl' ts al rs' ch W (h.below hb) (ht.below hb) hm hr hk)
  have hTu := hide (fun W (i : Int) (hb : Below w.heap.size w W) (hi : 0 ≤ i ∧ i ≤ 9223372036854775807) => turn_any N nn nc i W (hnu.below hb) hnn hi)
  obtain ⟨A, c, A2, c2, rfl, hsk, -⟩ := h
  have hRa := hide (fun (hck : (checkS S).2.2 = 0) (hkn : k = S.sks.length) (hk5 : k ≤ 5) (hin : InRs rs) (p : List Nat) (Q : Option Addr) (cq : Nat) W (hb : Below w.heap.size w W) (hp : RdInts W Q k (p.map Int.ofNat)) (hpl : p.length = k) (h8 : Le8 p) =>
    Raised_any A A2 L Q k c S.ins.length c2 k cl cq S rs (p.map Int.ofNat) W hkn.symm (hkn ▸ hsk.below hb) (hls.below hb) hp (Nat.le_refl _) hk5 (fun i hi => by have := sk_ok hck (i := i) (by omega); omega) hin (fun i hi => by
      rw [nat_at (p := p) (j := i) (by omega)]
      have := h8 (p[i]'(by omega)) (List.getElem_mem _)
      omega))
  have hpar := fun h => few_parts (S := S) (ts := ts) (al := al) (rs := rs) (ch := ch) h
  have hbad := fun h => few_bad (S := S) (ts := ts) (al := al) (rs := rs) (ch := ch) h
  unfold FewR IsPlan at hF
  obtain ⟨q, hq⟩ : ∃ q, fewestF S ts al rs ch = q := ⟨_, rfl⟩
  rw [hq] at hF hpar hbad
  obtain ⟨q1, q2⟩ := q
  simp only at hF hpar hbad
  replace hpar := hide hpar
  replace hbad := hide hbad
  replace hq := hide hq
  clear ht hls hm hk hsk hnu hnn
  obtain ⟨n1, hn1⟩ : ∃ n, S.sks.length = n := ⟨_, rfl⟩
  rw [hn1] at hF hV hRd hRa hpar ⊢
  generalize S.ins.length = n2 at *
  replace hn1 := hide hn1
  replace hrsl := hide hrsl
  obtain ⟨W0, hW0⟩ : ∃ W0, ((w.alloc (.cells #[.slice A n1 c, .slice A2 n2 c2] 25)).alloc (.cells #[.slice B m cb, .int .i64 al] 48)).alloc (.cells #[.slice L k cl, .int .i64 ch, .slice N nn nc] 89) = W0 := ⟨_, rfl⟩
  have kS := hide (show Blk W0 w.heap.size 25 #[.slice A n1 c, .slice A2 n2 c2] by rw [← hW0]; exact ((blkNew rfl).alloc _).alloc _)
  have kT := hide (show Blk W0 (w.heap.size + 1) 48 #[.slice B m cb, .int .i64 al] by rw [← hW0]; exact (blkNew (by simp)).alloc _)
  have kX := hide (show Blk W0 (w.heap.size + 2) 89 #[.slice L k cl, .int .i64 ch, .slice N nn nc] by rw [← hW0]; exact blkNew (by simp +arith))
  have hB := hide (show Below w.heap.size w W0 by rw [← hW0]; exact (((Below.refl _ _).alloc (Nat.le_refl _) _).alloc (by simp) _).alloc (by simp +arith) _)
  have s0 : W0.cell? ⟨w.heap.size, 0, none⟩ = some (.slice A n1 c) := kS.out.cell 0
  have s1 : W0.cell? ⟨w.heap.size, 1, none⟩ = some (.slice A2 n2 c2) := kS.out.cell 1
  have t0 : W0.cell? ⟨w.heap.size + 1, 0, none⟩ = some (.slice B m cb) := kT.out.cell 0
  have t1 : W0.cell? ⟨w.heap.size + 1, 1, none⟩ = some (.int .i64 al) := kT.out.cell 1
  have x0 : W0.cell? ⟨w.heap.size + 2, 0, none⟩ = some (.slice L k cl) := kX.out.cell 0
  have x1 : W0.cell? ⟨w.heap.size + 2, 1, none⟩ = some (.int .i64 ch) := kX.out.cell 1
  rw [← hW0] at s0 s1 t0 t1 x0 x1
  replace hW0 := hide hW0
  go_enter Try.func13, Try.ntmps13
  go_wp2_with fail
  rw [hW0.out]
  refine (hF.out _ hB.out).mono ?_
  rintro e w1 ⟨⟨v1, rfl, hT1⟩, hb⟩
  replace kS := hide (kS.out.below hb kS.out.lt)
  replace kT := hide (kT.out.below hb kT.out.lt)
  replace kX := hide (kX.out.below hb kX.out.lt)
  replace hB := hide (hB.out.trans (hb.mono hB.out.size))
  clear hb s0 s1 t0 t1 x0 x1 hF hW0
  obtain ⟨A3, c3, rfl, hr3, -⟩ := hT1
  have s0 : w1.cell? ⟨w.heap.size, 0, none⟩ = some (.slice A n1 c) := kS.out.cell 0
  have s1 : w1.cell? ⟨w.heap.size, 1, none⟩ = some (.slice A2 n2 c2) := kS.out.cell 1
  by_cases hbd : q2 ≠ 0 ∧ q2 ≠ 9
  · have hT0 : q1 = none := hbad.out hbd.1
    subst hT0
    have b1 : (q2 != 0) = true := by rw [bne_iff_ne]; exact hbd.1
    have b2 : (q2 != 9) = true := by rw [bne_iff_ne]; exact hbd.2
    have b3 : (q2 == 0) = false := by rw [beq_eq_false_iff_ne]; exact hbd.1
    replace hbd := hide hbd
    simp only [Option.getD_none, List.map_nil, List.length_nil]
    clear hr3 hpar
    go_wp2_with fail
    refine (AwakeS _).mono ?_
    rintro e w5 ⟨rfl, hb⟩
    replace hB := hide (hB.out.trans (hb.mono hB.out.size))
    clear hb s0 s1
    go_wp2
    go_ret
    exact ⟨rfl, hB.out⟩
  · have h09 : q2 = 0 ∨ q2 = 9 := by omega
    obtain ⟨hre, hcs⟩ := hpar.out h09
    have hkn : k = n1 := by rw [← hrsl.out, ← hn1.out]; exact (ranges_ok (ready_ok hre).2.1).1
    subst hkn
    have hck := (test_ok (ready_ok hre).1).1
    have hk15 : 1 ≤ k ∧ k ≤ 5 := by have h1 := (check_ok hck).1; have h2 := (check_ok hck).2.1; rw [hn1.out] at h1 h2; exact ⟨h1, h2⟩
    have hin : InRs rs := fun i hi => by have := (ranges_ok (ready_ok hre).2.1).2 i hi; omega
    replace hRa := hide (hRa.out hck rfl hk15.2 hin)
    have hrl := hide (fun pl => show (raisedL S rs pl).length = k by simp [raisedL, hrsl.out])
    have hck1 : ((checkS S).2.2 == 0) = true := by rw [beq_iff_eq]; exact hck
    rw [hck1] at hV
    have bk : ((k : Int) != (k : Int)) = false := by simp
    have hw8 : IntKind.i64.wrap ((k : Int) * 8) = (k : Int) * 8 := by rw [IntKind.wrap_i64]; omega
    have hw9 : IntKind.i64.wrap ((k : Int) * 8 + 1) = (k : Int) * 8 + 1 := by rw [IntKind.wrap_i64]; omega
    replace hre := hide hre
    clear hck hck1 hin h09 hbd hpar hbad
    rcases hcs with ⟨p, hqe, hpl, h8, hokp, hmin⟩ | ⟨hqe, hmin⟩
    · have hqa := congrArg Prod.fst hqe
      have hqb := congrArg Prod.snd hqe
      simp only at hqa hqb
      clear hqe hq
      subst hqa hqb
      simp only [Option.getD_some, List.length_map] at hr3 ⊢
      rw [hpl] at hr3 ⊢
      obtain ⟨rx, ry, hrf⟩ := raised_ready hre.out p h8 (by rw [hpl, hrsl.out])
      rw [hokp] at hrf
      have hno := hide (fun (o : List Nat) (h1 : o.length = k) (h2 : Le8 o) (h3 : (sumN o : Int) ≤ (sumN p : Int) - 1) => hmin o h1 h2 (by omega))
      have hst := hide (fun j (hj : j < k) => sum_take p j (by omega))
      have hat := hide (fun j (hj : j < k) => nat_at (p := p) (j := j) (by omega))
      have hpb := hide (fun j (hj : j ≤ k) => show sumN (p.take j) ≤ 40 by
        have h1 := sum_b (p := p.take j) (fun x hx => h8 x (List.mem_of_mem_take hx))
        rw [List.length_take] at h1
        omega)
      have h88 := hide (fun j (hj : j < k) => h8 (p[j]'(by omega)) (List.getElem_mem _))
      have hend := hide (show sumN (p.take k) = sumN p by rw [List.take_of_length_le (by omega)])
      have hF40 : sumN p ≤ 40 := by have := hpb.out k (Nat.le_refl _); rw [hend.out] at this; exact this
      replace hpl := hide hpl
      replace h8 := hide h8
      replace hrf := hide hrf
      replace hokp := hide hokp
      clear hmin
      go_wp2_with fail
      refine (hV.out _ hB.out).mono ?_
      rintro e w2 ⟨rfl, hb⟩
      replace kS := hide (kS.out.below hb kS.out.lt)
      replace kT := hide (kT.out.below hb kT.out.lt)
      replace kX := hide (kX.out.below hb kX.out.lt)
      replace hB := hide (hB.out.trans (hb.mono hB.out.size))
      have hrd := hide (hr3.below hb)
      clear hb s0 s1 hV hr3
      have s0 : w2.cell? ⟨w.heap.size, 0, none⟩ = some (.slice A k c) := kS.out.cell 0
      have x0 : w2.cell? ⟨w.heap.size + 2, 0, none⟩ = some (.slice L k cl) := kX.out.cell 0
      go_wp2
      go_loopg [9, 10] k (fun gg s9 s10 wr => ∃ j : Nat, j ≤ k ∧ k ≤ gg + j ∧ s10 = .int .i64 j ∧ s9 = .int .i64 (sumN (p.take j) : Nat) ∧ wr = w2)
      case atStart => exact ⟨0, Nat.zero_le _, by omega, rfl, rfl, rfl⟩
      case round =>
        obtain ⟨j, hj, hgg, rfl, rfl, rfl⟩ := hrel
        by_cases hlt : j < k
        · have hltz : (j : Int) < (k : Int) := by omega
          obtain ⟨b, off, rfl, hbb, hc⟩ := hrd.out.2 (by omega)
          have c0 := hc j hlt
          rw [hat.out j hlt] at c0
          have hs := hst.out j hlt
          have h1 := hpb.out j hj
          have h2 := h88.out j hlt
          have hlj : j < p.length := by rw [hpl.out]; exact hlt
          obtain ⟨x, hx⟩ : ∃ x, p[j] = x := ⟨_, rfl⟩
          rw [hx] at c0 hs h2
          obtain ⟨sm, hsm⟩ : ∃ x, sumN (p.take j) = x := ⟨_, rfl⟩
          rw [hsm] at hs h1 ⊢
          have hwz : IntKind.i64.wrap ((sm : Int) + (x : Int)) = ((sm + x : Nat) : Int) := by rw [IntKind.wrap_i64]; omega
          have hd1 : decide ((x : Int) < 0) = false := decide_eq_false (by omega)
          have hd2 : decide ((8 : Int) < (x : Int)) = false := decide_eq_false (by omega)
          replace hs := hide hs
          replace h2 := hide h2
          clear hc hx hsm
          go_wp2
          go_roundg (k - (j + 1))
          case measure => omega
          case rel => exact ⟨j + 1, by omega, by omega, by go_num, by rw [hs.out]; simp, rfl⟩
        · have hltz : ¬ (j : Int) < (k : Int) := by omega
          obtain rfl : j = k := by omega
          rw [hend.out]
          clear hst hat hpb h88 hend
          have hokt : okPlan S ts al rs ch p = true := hokp.out
          go_wp2
          clear s0 x0
          refine region_grow [IsV (.agg #[.slice A j c, .slice A2 n2 c2]), IsV (.agg #[.slice B m cb, .int .i64 al]), IsV (.agg #[.slice A j c, .slice A2 n2 c2]), IsV (.pointer (some ⟨w.heap.size + 2, 0, none⟩)), IsV (.slice L j cl), IsV (.slice A3 j c3), OwnSp wr.heap.size j (raisedL S rs (p.map Int.ofNat)), IsV (.pointer (some ⟨w.heap.size + 2, 1, none⟩)), IsV (.int .i64 ch), IsV (.tuple #[.bool true, .int .i64 rx, .int .i64 ry, .int .i64 0]), IsV (.tuple #[.bool true, .int .i64 rx, .int .i64 ry, .int .i64 0]), IsV (.bool true), IsV (.int .i64 rx), IsV (.int .i64 ry), IsV (.int .i64 0), IsV (.bool true), IsV (.int .i64 rx), IsV (.int .i64 ry), IsV (.int .i64 0)] (by kernel_rfl) (by kernel_rfl) rfl ?_ ?_ ?_
          · simp [AllStb, IsV.stb, OwnSp.stb]
          · refine ⟨?_, ?_, ?_, ?_, ?_, ?_, ?_, ?_, ?_, ?_, ?_, ?_, ?_, ?_, ?_, ?_, ?_, ?_, ?_, trivial⟩
            all_goals
              intro y w6 K Qq Cv hC hd hV
              have q0 : w6.cell? ⟨w.heap.size, 0, none⟩ = some (.slice A j c) := (kS.out.below hC kS.out.lt).cell 0
              have q1 : w6.cell? ⟨w.heap.size, 1, none⟩ = some (.slice A2 n2 c2) := (kS.out.below hC kS.out.lt).cell 1
              have q2 : w6.cell? ⟨w.heap.size + 1, 0, none⟩ = some (.slice B m cb) := (kT.out.below hC kT.out.lt).cell 0
              have q3 : w6.cell? ⟨w.heap.size + 1, 1, none⟩ = some (.int .i64 al) := (kT.out.below hC kT.out.lt).cell 1
              have q4 : w6.cell? ⟨w.heap.size + 2, 0, none⟩ = some (.slice L j cl) := (kX.out.below hC kX.out.lt).cell 0
              have q5 : w6.cell? ⟨w.heap.size + 2, 1, none⟩ = some (.int .i64 ch) := (kX.out.below hC kX.out.lt).cell 1
              have hB6 := hB.out.trans (hC.mono hB.out.size)
            all_goals try (simp [deps, VL, IsV, Region.binds] at hd)
            · simp only [putAll, Act.put]; go_simp; intro hK; exact hK _ _ (hV _ _ hC (Below.refl _ _) rfl)
            · simp only [putAll, Act.put]; go_simp; intro hK; exact hK _ _ (hV _ _ hC (Below.refl _ _) rfl)
            · simp only [putAll, Act.put]; go_simp; intro hK; exact hK _ _ (hV _ _ hC (Below.refl _ _) rfl)
            · simp only [putAll, Act.put]; go_simp; intro hK; exact hK _ _ (hV _ _ hC (Below.refl _ _) rfl)
            · simp only [putAll, Act.put]; go_simp; intro hK; exact hK _ _ (hV _ _ hC (Below.refl _ _) rfl)
            · simp only [putAll, Act.put]; go_simp; intro hK; exact hK _ _ (hV _ _ hC (Below.refl _ _) rfl)
            · simp only [putAll, Act.put]; go_simp; intro hK
              refine (hRa.out p _ _ w6 hB6 (hrd.out.below hC) hpl.out h8.out).mono ?_
              rintro e w7 ⟨⟨v, rfl, hv⟩, hb7⟩
              exact hK _ _ (hV _ _ (hC.trans (hb7.mono hC.size)) hb7 (own_mono hv hC.size))
            · simp only [putAll, Act.put]; go_simp; intro hK; exact hK _ _ (hV _ _ hC (Below.refl _ _) rfl)
            · simp only [putAll, Act.put]; go_simp; intro hK; exact hK _ _ (hV _ _ hC (Below.refl _ _) rfl)
            · obtain ⟨e0, e1, e3, e4⟩ := hd
              obtain ⟨gg2, gc2, e3, -, -, hA⟩ := spAt_own e3 (hrl.out _) hk15.1
              have hrow := hA.row
              rw [hrl.out] at hrow
              have hE := hRd.out w6 (some ⟨gg2, 0, none⟩) gc2 _ hB6 hrow
              rw [hrf.out] at hE
              replace hE := hide hE
              clear hA hrow
              simp only [putAll, Act.put]; go_simp; intro hK
              refine hE.out.mono ?_
              rintro e w7 ⟨rfl, hb7⟩
              exact hK _ _ (hV _ _ (hC.trans (hb7.mono hC.size)) hb7 rfl)
            · simp only [putAll, Act.put]; go_simp; intro hK; exact hK _ _ (hV _ _ hC (Below.refl _ _) rfl)
            · simp only [putAll, Act.put]; go_simp; intro hK; exact hK _ _ (hV _ _ hC (Below.refl _ _) rfl)
            · simp only [putAll, Act.put]; go_simp; intro hK; exact hK _ _ (hV _ _ hC (Below.refl _ _) rfl)
            · simp only [putAll, Act.put]; go_simp; intro hK; exact hK _ _ (hV _ _ hC (Below.refl _ _) rfl)
            · simp only [putAll, Act.put]; go_simp; intro hK; exact hK _ _ (hV _ _ hC (Below.refl _ _) rfl)
            · simp only [putAll, Act.put]; go_simp; intro hK; exact hK _ _ (hV _ _ hC (Below.refl _ _) rfl)
            · simp only [putAll, Act.put]; go_simp; intro hK; exact hK _ _ (hV _ _ hC (Below.refl _ _) rfl)
            · simp only [putAll, Act.put]; go_simp; intro hK; exact hK _ _ (hV _ _ hC (Below.refl _ _) rfl)
            · simp only [putAll, Act.put]; go_simp; intro hK; exact hK _ _ (hV _ _ hC (Below.refl _ _) rfl)
          intro y w6 hC hd
          simp [EndsL, IsV] at hd
          obtain ⟨d0, d1, d2, d3, d4, d5, d6, d7, d8, d9, d10, d11, d12, d13, d14, d15, d16, d17, d18⟩ := hd
          simp only [putAll, Act.put]
          rw [d15, d16, d17, d18]
          clear d0 d1 d2 d3 d4 d5 d6 d7 d8 d9 d10 d11 d12 d13 d14 d15 d16 d17 d18
          simp only [List.setIfInBounds_toArray, List.set_cons_succ, List.set_cons_zero]
          replace kS := hide (kS.out.below hC kS.out.lt)
          replace kT := hide (kT.out.below hC kT.out.lt)
          replace kX := hide (kX.out.below hC kX.out.lt)
          replace hB := hide (hB.out.trans (hC.mono hB.out.size))
          clear hrd hrf hpl h8 hokp hokt
          have s0 : w6.cell? ⟨w.heap.size, 0, none⟩ = some (.slice A j c) := kS.out.cell 0
          obtain ⟨F, hFe⟩ : ∃ F, sumN p = F := ⟨_, rfl⟩
          rw [hFe] at hno hF40 ⊢
          clear hFe
          -- the other plan
          clear hC
          have hzn := hB.out.size
          have hwF : IntKind.i64.wrap ((F : Int) - 1) = (F : Int) - 1 := by rw [IntKind.wrap_i64]; omega
          obtain ⟨i0, hi0, hz0, hz1, hz2⟩ := info_parts infoInt
          replace hi0 := hide hi0
          replace hz0 := hide hz0
          replace hz1 := hide hz1
          replace hz2 := hide hz2
          have kS0 := kS
          have hBb := hide (Below.refl w6.heap.size w6)
          go_wp2
          go_loopg [15, 16, 17, 18] j (fun gg s15 s16 s17 _ wr => ∃ (jj : Nat) (o : List Nat) (lf : Int), jj ≤ j ∧ j ≤ gg + jj ∧ s17 = .int .i64 jj ∧ s16 = .int .i64 lf ∧ o.length = jj ∧ Hid (Le8 o) ∧ (-1 ≤ lf ∧ lf ≤ 41) ∧ Hid (1 ≤ F → 0 ≤ lf ∧ (sumN o : Int) + lf = (F : Int) - 1) ∧ Hid (Below w6.heap.size w6 wr) ∧ Hid (wr.ownsRow w6.heap.size 3 1 s15 jj ((o.map Int.ofNat).map (Value.int .i64))))
          case atStart => exact ⟨0, [], (F : Int) - 1, Nat.zero_le _, by omega, rfl, rfl, rfl, hide (fun x hx => by cases hx), by omega, hide (fun h => ⟨by omega, by simp [sumN]⟩), hBb, hide (World.ownsRow_nil _ _ _ _)⟩
          case round =>
            obtain ⟨jj, o, lf, hj, hgg, rfl, rfl, hol, ho8, hlf, hF1, hBr, hown⟩ := hrel
            have hBw := hide (hB.out.trans (hBr.out.mono hB.out.size))
            have kSr := kS.out.below hBr.out kS.out.lt
            have kXr := kX.out.below hBr.out kX.out.lt
            have s0 : wr.cell? ⟨w.heap.size, 0, none⟩ = some (.slice A j c) := kSr.cell 0
            have x2 : wr.cell? ⟨w.heap.size + 2, 2, none⟩ = some (.slice N nn nc) := kXr.cell 2
            by_cases hlt : jj < j
            · have hltz : (jj : Int) < (j : Int) := by omega
              have hTj := hide (hTu.out wr (jj : Int) hBw.out (by omega))
              replace hol := hide hol
              go_wp2_with fail
              refine hTj.out.mono ?_
              rintro e w7 ⟨⟨x, rfl, hx0, hx1⟩, rfl⟩
              obtain ⟨n, hn⟩ : ∃ n, x.tmod 9 = n := ⟨_, rfl⟩
              have hn9 : 0 ≤ n ∧ n ≤ 8 := by rw [← hn]; exact ⟨Int.tmod_nonneg _ hx0, by have := Int.tmod_lt_of_pos x (show (0 : Int) < 9 by decide); omega⟩
              obtain ⟨t, ht⟩ : ∃ t : Nat, max 0 (min n lf) = (t : Int) := ⟨(max 0 (min n lf)).toNat, by rw [Int.toNat_of_nonneg (by omega)]⟩
              have ht8 : t ≤ 8 ∧ ((t : Int) ≤ lf ∨ t = 0) := by omega
              have hw : IntKind.i64.wrap (lf - (t : Int)) = lf - (t : Int) := by rw [IntKind.wrap_i64]; omega
              have hsr := hBr.out.size
              clear hTj hx0 hx1
              go_wp2_with (at_builtin; refine wpList_append_own _ rfl _ _ 49 rfl w6.heap.size 3 i0 (.int .i64 0) 1 8 Try.underlying49 hi0.out hz0.out hz1.out hz2.out rfl (by decide) _ _ _ rfl (hown.out.alloc _) ⟨wr.heap.size, 0, none⟩ 1 1 [.int .i64 (t : Int)] rfl rfl (cell_one_new _ _ _) (by simp [Value.oneCell']) (by unfold maxLen; omega) (by omega) (by simp; omega) ?_; intro v' w7 hown7 hgrow7 _)
              have hB7 := hide ((hBr.out.alloc hsr (.cells #[.int .i64 (t : Int)] 3)).grown hgrow7 (by simp; omega) (fun k hk => (hown.out.lt k hk).1))
              have hown8 := hide (show w7.ownsRow w6.heap.size 3 1 v' (jj + 1) (((o ++ [t]).map Int.ofNat).map (Value.int .i64)) by
                rw [List.map_append, List.map_append]; exact hown7)
              have hsum := hide (show sumN (o ++ [t]) = sumN o + t by
                have : ∀ l : List Nat, sumN (l ++ [t]) = sumN l + t := by
                  intro l
                  induction l with
                  | nil => simp [sumN]
                  | cons a l ih => simp only [List.cons_append, sumN, ih]; omega
                exact this o)
              clear hgrow7 hown hown7 s0 x2 hn ht
              go_wp2
              go_roundg (j - (jj + 1))
              case measure => omega
              case rel =>
                refine ⟨jj + 1, o ++ [t], lf - (t : Int), by omega, by omega, by go_num, rfl, by rw [List.length_append, hol.out]; rfl, hide ?_, by omega, hide ?_, hB7, hown8⟩
                · intro a ha
                  rcases List.mem_append.1 ha with h | h
                  · exact ho8.out a h
                  · rw [List.mem_singleton] at h; omega
                · intro h1
                  have h2 := hF1.out h1
                  rw [hsum.out]
                  omega
            · have hltz : ¬ (jj : Int) < (j : Int) := by omega
              obtain rfl : jj = j := by omega
              obtain ⟨go, co, rfl, -, hco, hIo⟩ := inAt_own hown.out (by simp [hol]) hk15.1
              have hrd := hIo.row
              rw [List.length_map, hol] at hrd
              replace hrd := hide hrd
              have hpl := hide hol
              have h8 := ho8
              replace kS := hide (kS.out.below hBr.out kS.out.lt)
              replace kT := hide (kT.out.below hBr.out kT.out.lt)
              replace kX := hide (kX.out.below hBr.out kX.out.lt)
              replace hB := hBw
              clear hown hIo hol x2 kSr kXr hBw hTu kS0
              by_cases hF0 : F = 0
              · have b0 : ((F : Int) == 0) = true := by rw [beq_iff_eq]; omega
                replace hF0 := hide hF0
                go_wp2_with fail
                refine (AwakeS _).mono ?_
                rintro e w9 ⟨rfl, hb⟩
                replace hB := hide (hB.out.trans (hb.mono hB.out.size))
                clear hb s0
                go_wp2
                go_ret
                exact ⟨rfl, hB.out⟩
              · have b0 : ((F : Int) == 0) = false := by rw [beq_eq_false_iff_ne]; omega
                have hokn := hno.out o hpl.out h8.out (by have := hF1.out (by omega); omega)
                obtain ⟨rx, ry, hrf⟩ := raised_ready hre.out o h8.out (by rw [hpl.out, hrsl.out])
                rw [hokn] at hrf
                replace hrf := hide hrf
                replace hF0 := hide hF0
                clear hF1 hokn
                go_wp2
                clear s0
                refine region_grow [IsV (.agg #[.slice A jj c, .slice A2 n2 c2]), IsV (.agg #[.slice B m cb, .int .i64 al]), IsV (.agg #[.slice A jj c, .slice A2 n2 c2]), IsV (.pointer (some ⟨w.heap.size + 2, 0, none⟩)), IsV (.slice L jj cl), IsV (.slice (some ⟨go, 0, none⟩) jj co), OwnSp wr.heap.size jj (raisedL S rs (o.map Int.ofNat)), IsV (.pointer (some ⟨w.heap.size + 2, 1, none⟩)), IsV (.int .i64 ch), IsV (.tuple #[.bool false, .int .i64 rx, .int .i64 ry, .int .i64 0]), IsV (.tuple #[.bool false, .int .i64 rx, .int .i64 ry, .int .i64 0]), IsV (.bool false), IsV (.int .i64 rx), IsV (.int .i64 ry), IsV (.int .i64 0), IsV (.bool false), IsV (.int .i64 rx), IsV (.int .i64 ry), IsV (.int .i64 0)] (by kernel_rfl) (by kernel_rfl) rfl ?_ ?_ ?_
                · simp [AllStb, IsV.stb, OwnSp.stb]
                · refine ⟨?_, ?_, ?_, ?_, ?_, ?_, ?_, ?_, ?_, ?_, ?_, ?_, ?_, ?_, ?_, ?_, ?_, ?_, ?_, trivial⟩
                  all_goals
                    intro y w6 K Qq Cv hC hd hV
                    have q0 : w6.cell? ⟨w.heap.size, 0, none⟩ = some (.slice A jj c) := (kS.out.below hC kS.out.lt).cell 0
                    have q1 : w6.cell? ⟨w.heap.size, 1, none⟩ = some (.slice A2 n2 c2) := (kS.out.below hC kS.out.lt).cell 1
                    have q2 : w6.cell? ⟨w.heap.size + 1, 0, none⟩ = some (.slice B m cb) := (kT.out.below hC kT.out.lt).cell 0
                    have q3 : w6.cell? ⟨w.heap.size + 1, 1, none⟩ = some (.int .i64 al) := (kT.out.below hC kT.out.lt).cell 1
                    have q4 : w6.cell? ⟨w.heap.size + 2, 0, none⟩ = some (.slice L jj cl) := (kX.out.below hC kX.out.lt).cell 0
                    have q5 : w6.cell? ⟨w.heap.size + 2, 1, none⟩ = some (.int .i64 ch) := (kX.out.below hC kX.out.lt).cell 1
                    have hB6 := hB.out.trans (hC.mono hB.out.size)
                  all_goals try (simp [deps, VL, IsV, Region.binds] at hd)
                  · simp only [putAll, Act.put]; go_simp; intro hK; exact hK _ _ (hV _ _ hC (Below.refl _ _) rfl)
                  · simp only [putAll, Act.put]; go_simp; intro hK; exact hK _ _ (hV _ _ hC (Below.refl _ _) rfl)
                  · simp only [putAll, Act.put]; go_simp; intro hK; exact hK _ _ (hV _ _ hC (Below.refl _ _) rfl)
                  · simp only [putAll, Act.put]; go_simp; intro hK; exact hK _ _ (hV _ _ hC (Below.refl _ _) rfl)
                  · simp only [putAll, Act.put]; go_simp; intro hK; exact hK _ _ (hV _ _ hC (Below.refl _ _) rfl)
                  · simp only [putAll, Act.put]; go_simp; intro hK; exact hK _ _ (hV _ _ hC (Below.refl _ _) rfl)
                  · simp only [putAll, Act.put]; go_simp; intro hK
                    refine (hRa.out o _ _ w6 hB6 (hrd.out.below hC) hpl.out h8.out).mono ?_
                    rintro e w7 ⟨⟨v, rfl, hv⟩, hb7⟩
                    exact hK _ _ (hV _ _ (hC.trans (hb7.mono hC.size)) hb7 (own_mono hv hC.size))
                  · simp only [putAll, Act.put]; go_simp; intro hK; exact hK _ _ (hV _ _ hC (Below.refl _ _) rfl)
                  · simp only [putAll, Act.put]; go_simp; intro hK; exact hK _ _ (hV _ _ hC (Below.refl _ _) rfl)
                  · obtain ⟨e0, e1, e3, e4⟩ := hd
                    obtain ⟨gg2, gc2, e3, -, -, hA⟩ := spAt_own e3 (hrl.out _) hk15.1
                    have hrow := hA.row
                    rw [hrl.out] at hrow
                    have hE := hRd.out w6 (some ⟨gg2, 0, none⟩) gc2 _ hB6 hrow
                    rw [hrf.out] at hE
                    replace hE := hide hE
                    clear hA hrow
                    simp only [putAll, Act.put]; go_simp; intro hK
                    refine hE.out.mono ?_
                    rintro e w7 ⟨rfl, hb7⟩
                    exact hK _ _ (hV _ _ (hC.trans (hb7.mono hC.size)) hb7 rfl)
                  · simp only [putAll, Act.put]; go_simp; intro hK; exact hK _ _ (hV _ _ hC (Below.refl _ _) rfl)
                  · simp only [putAll, Act.put]; go_simp; intro hK; exact hK _ _ (hV _ _ hC (Below.refl _ _) rfl)
                  · simp only [putAll, Act.put]; go_simp; intro hK; exact hK _ _ (hV _ _ hC (Below.refl _ _) rfl)
                  · simp only [putAll, Act.put]; go_simp; intro hK; exact hK _ _ (hV _ _ hC (Below.refl _ _) rfl)
                  · simp only [putAll, Act.put]; go_simp; intro hK; exact hK _ _ (hV _ _ hC (Below.refl _ _) rfl)
                  · simp only [putAll, Act.put]; go_simp; intro hK; exact hK _ _ (hV _ _ hC (Below.refl _ _) rfl)
                  · simp only [putAll, Act.put]; go_simp; intro hK; exact hK _ _ (hV _ _ hC (Below.refl _ _) rfl)
                  · simp only [putAll, Act.put]; go_simp; intro hK; exact hK _ _ (hV _ _ hC (Below.refl _ _) rfl)
                  · simp only [putAll, Act.put]; go_simp; intro hK; exact hK _ _ (hV _ _ hC (Below.refl _ _) rfl)
                intro y w6 hC hd
                simp [EndsL, IsV] at hd
                obtain ⟨d0, d1, d2, d3, d4, d5, d6, d7, d8, d9, d10, d11, d12, d13, d14, d15, d16, d17, d18⟩ := hd
                simp only [putAll, Act.put]
                rw [d15, d16, d17, d18]
                clear d0 d1 d2 d3 d4 d5 d6 d7 d8 d9 d10 d11 d12 d13 d14 d15 d16 d17 d18
                simp only [List.setIfInBounds_toArray, List.set_cons_succ, List.set_cons_zero]
                replace kS := hide (kS.out.below hC kS.out.lt)
                replace kT := hide (kT.out.below hC kT.out.lt)
                replace kX := hide (kX.out.below hC kX.out.lt)
                replace hB := hide (hB.out.trans (hC.mono hB.out.size))
                clear hC hrd
                go_wp2_with fail
                refine (AwakeS _).mono ?_
                rintro e w9 ⟨rfl, hb⟩
                replace hB := hide (hB.out.trans (hb.mono hB.out.size))
                clear hb
                go_wp2
                go_ret
                exact ⟨rfl, hB.out⟩
    · have hqa := congrArg Prod.fst hqe
      have hqb := congrArg Prod.snd hqe
      simp only at hqa hqb
      clear hqe hq
      subst hqa hqb
      simp only [Option.getD_none, List.map_nil, List.length_nil]
      have hno := hide (fun (o : List Nat) (h1 : o.length = k) (h2 : Le8 o) (h3 : (sumN o : Int) ≤ ((k * 8 + 1 : Nat) : Int) - 1) => hmin o h1 h2)
      clear hmin hr3
      go_wp2_with fail
      refine (hV.out _ hB.out).mono ?_
      rintro e w2 ⟨rfl, hb⟩
      replace kS := hide (kS.out.below hb kS.out.lt)
      replace kT := hide (kT.out.below hb kT.out.lt)
      replace kX := hide (kX.out.below hb kX.out.lt)
      replace hB := hide (hB.out.trans (hb.mono hB.out.size))
      clear hb s0 s1 hV
      have s0 : w2.cell? ⟨w.heap.size, 0, none⟩ = some (.slice A k c) := kS.out.cell 0
      have x0 : w2.cell? ⟨w.heap.size + 2, 0, none⟩ = some (.slice L k cl) := kX.out.cell 0
      obtain ⟨F, hFe⟩ : ∃ F, k * 8 + 1 = F := ⟨_, rfl⟩
      have hF40 : F ≤ 41 := by omega
      have hw9' : IntKind.i64.wrap ((k : Int) * 8 + 1) = (F : Int) := by rw [hw9]; omega
      rw [hFe] at hno
      clear hw9 hFe
      -- the other plan
      skip
      have hzn := hB.out.size
      have hwF : IntKind.i64.wrap ((F : Int) - 1) = (F : Int) - 1 := by rw [IntKind.wrap_i64]; omega
      obtain ⟨i0, hi0, hz0, hz1, hz2⟩ := info_parts infoInt
      replace hi0 := hide hi0
      replace hz0 := hide hz0
      replace hz1 := hide hz1
      replace hz2 := hide hz2
      have kS0 := kS
      have hBb := hide (Below.refl w2.heap.size w2)
      go_wp2
      go_loopg [15, 16, 17, 18] k (fun gg s15 s16 s17 _ wr => ∃ (j : Nat) (o : List Nat) (lf : Int), j ≤ k ∧ k ≤ gg + j ∧ s17 = .int .i64 j ∧ s16 = .int .i64 lf ∧ o.length = j ∧ Hid (Le8 o) ∧ (-1 ≤ lf ∧ lf ≤ 41) ∧ Hid (1 ≤ F → 0 ≤ lf ∧ (sumN o : Int) + lf = (F : Int) - 1) ∧ Hid (Below w2.heap.size w2 wr) ∧ Hid (wr.ownsRow w2.heap.size 3 1 s15 j ((o.map Int.ofNat).map (Value.int .i64))))
      case atStart => exact ⟨0, [], (F : Int) - 1, Nat.zero_le _, by omega, rfl, rfl, rfl, hide (fun x hx => by cases hx), by omega, hide (fun h => ⟨by omega, by simp [sumN]⟩), hBb, hide (World.ownsRow_nil _ _ _ _)⟩
      case round =>
        obtain ⟨j, o, lf, hj, hgg, rfl, rfl, hol, ho8, hlf, hF1, hBr, hown⟩ := hrel
        have hBw := hide (hB.out.trans (hBr.out.mono hB.out.size))
        have kSr := kS.out.below hBr.out kS.out.lt
        have kXr := kX.out.below hBr.out kX.out.lt
        have s0 : wr.cell? ⟨w.heap.size, 0, none⟩ = some (.slice A k c) := kSr.cell 0
        have x2 : wr.cell? ⟨w.heap.size + 2, 2, none⟩ = some (.slice N nn nc) := kXr.cell 2
        by_cases hlt : j < k
        · have hltz : (j : Int) < (k : Int) := by omega
          have hTj := hide (hTu.out wr (j : Int) hBw.out (by omega))
          replace hol := hide hol
          go_wp2_with fail
          refine hTj.out.mono ?_
          rintro e w7 ⟨⟨x, rfl, hx0, hx1⟩, rfl⟩
          obtain ⟨n, hn⟩ : ∃ n, x.tmod 9 = n := ⟨_, rfl⟩
          have hn9 : 0 ≤ n ∧ n ≤ 8 := by rw [← hn]; exact ⟨Int.tmod_nonneg _ hx0, by have := Int.tmod_lt_of_pos x (show (0 : Int) < 9 by decide); omega⟩
          obtain ⟨t, ht⟩ : ∃ t : Nat, max 0 (min n lf) = (t : Int) := ⟨(max 0 (min n lf)).toNat, by rw [Int.toNat_of_nonneg (by omega)]⟩
          have ht8 : t ≤ 8 ∧ ((t : Int) ≤ lf ∨ t = 0) := by omega
          have hw : IntKind.i64.wrap (lf - (t : Int)) = lf - (t : Int) := by rw [IntKind.wrap_i64]; omega
          have hsr := hBr.out.size
          clear hTj hx0 hx1
          go_wp2_with (at_builtin; refine wpList_append_own _ rfl _ _ 49 rfl w2.heap.size 3 i0 (.int .i64 0) 1 8 Try.underlying49 hi0.out hz0.out hz1.out hz2.out rfl (by decide) _ _ _ rfl (hown.out.alloc _) ⟨wr.heap.size, 0, none⟩ 1 1 [.int .i64 (t : Int)] rfl rfl (cell_one_new _ _ _) (by simp [Value.oneCell']) (by unfold maxLen; omega) (by omega) (by simp; omega) ?_; intro v' w7 hown7 hgrow7 _)
          have hB7 := hide ((hBr.out.alloc hsr (.cells #[.int .i64 (t : Int)] 3)).grown hgrow7 (by simp; omega) (fun k hk => (hown.out.lt k hk).1))
          have hown8 := hide (show w7.ownsRow w2.heap.size 3 1 v' (j + 1) (((o ++ [t]).map Int.ofNat).map (Value.int .i64)) by
            rw [List.map_append, List.map_append]; exact hown7)
          have hsum := hide (show sumN (o ++ [t]) = sumN o + t by
            have : ∀ l : List Nat, sumN (l ++ [t]) = sumN l + t := by
              intro l
              induction l with
              | nil => simp [sumN]
              | cons a l ih => simp only [List.cons_append, sumN, ih]; omega
            exact this o)
          clear hgrow7 hown hown7 s0 x2 hn ht
          go_wp2
          go_roundg (k - (j + 1))
          case measure => omega
          case rel =>
            refine ⟨j + 1, o ++ [t], lf - (t : Int), by omega, by omega, by go_num, rfl, by rw [List.length_append, hol.out]; rfl, hide ?_, by omega, hide ?_, hB7, hown8⟩
            · intro a ha
              rcases List.mem_append.1 ha with h | h
              · exact ho8.out a h
              · rw [List.mem_singleton] at h; omega
            · intro h1
              have h2 := hF1.out h1
              rw [hsum.out]
              omega
        · have hltz : ¬ (j : Int) < (k : Int) := by omega
          obtain rfl : j = k := by omega
          obtain ⟨go, co, rfl, -, hco, hIo⟩ := inAt_own hown.out (by simp [hol]) hk15.1
          have hrd := hIo.row
          rw [List.length_map, hol] at hrd
          replace hrd := hide hrd
          have hpl := hide hol
          have h8 := ho8
          replace kS := hide (kS.out.below hBr.out kS.out.lt)
          replace kT := hide (kT.out.below hBr.out kT.out.lt)
          replace kX := hide (kX.out.below hBr.out kX.out.lt)
          replace hB := hBw
          clear hown hIo hol x2 kSr kXr hBw hTu kS0
          by_cases hF0 : F = 0
          · have b0 : ((F : Int) == 0) = true := by rw [beq_iff_eq]; omega
            replace hF0 := hide hF0
            go_wp2_with fail
            refine (AwakeS _).mono ?_
            rintro e w9 ⟨rfl, hb⟩
            replace hB := hide (hB.out.trans (hb.mono hB.out.size))
            clear hb s0
            go_wp2
            go_ret
            exact ⟨rfl, hB.out⟩
          · have b0 : ((F : Int) == 0) = false := by rw [beq_eq_false_iff_ne]; omega
            have hokn := hno.out o hpl.out h8.out (by have := hF1.out (by omega); omega)
            obtain ⟨rx, ry, hrf⟩ := raised_ready hre.out o h8.out (by rw [hpl.out, hrsl.out])
            rw [hokn] at hrf
            replace hrf := hide hrf
            replace hF0 := hide hF0
            clear hF1 hokn
            go_wp2
            clear s0
            refine region_grow [IsV (.agg #[.slice A j c, .slice A2 n2 c2]), IsV (.agg #[.slice B m cb, .int .i64 al]), IsV (.agg #[.slice A j c, .slice A2 n2 c2]), IsV (.pointer (some ⟨w.heap.size + 2, 0, none⟩)), IsV (.slice L j cl), IsV (.slice (some ⟨go, 0, none⟩) j co), OwnSp wr.heap.size j (raisedL S rs (o.map Int.ofNat)), IsV (.pointer (some ⟨w.heap.size + 2, 1, none⟩)), IsV (.int .i64 ch), IsV (.tuple #[.bool false, .int .i64 rx, .int .i64 ry, .int .i64 0]), IsV (.tuple #[.bool false, .int .i64 rx, .int .i64 ry, .int .i64 0]), IsV (.bool false), IsV (.int .i64 rx), IsV (.int .i64 ry), IsV (.int .i64 0), IsV (.bool false), IsV (.int .i64 rx), IsV (.int .i64 ry), IsV (.int .i64 0)] (by kernel_rfl) (by kernel_rfl) rfl ?_ ?_ ?_
            · simp [AllStb, IsV.stb, OwnSp.stb]
            · refine ⟨?_, ?_, ?_, ?_, ?_, ?_, ?_, ?_, ?_, ?_, ?_, ?_, ?_, ?_, ?_, ?_, ?_, ?_, ?_, trivial⟩
              all_goals
                intro y w6 K Qq Cv hC hd hV
                have q0 : w6.cell? ⟨w.heap.size, 0, none⟩ = some (.slice A j c) := (kS.out.below hC kS.out.lt).cell 0
                have q1 : w6.cell? ⟨w.heap.size, 1, none⟩ = some (.slice A2 n2 c2) := (kS.out.below hC kS.out.lt).cell 1
                have q2 : w6.cell? ⟨w.heap.size + 1, 0, none⟩ = some (.slice B m cb) := (kT.out.below hC kT.out.lt).cell 0
                have q3 : w6.cell? ⟨w.heap.size + 1, 1, none⟩ = some (.int .i64 al) := (kT.out.below hC kT.out.lt).cell 1
                have q4 : w6.cell? ⟨w.heap.size + 2, 0, none⟩ = some (.slice L j cl) := (kX.out.below hC kX.out.lt).cell 0
                have q5 : w6.cell? ⟨w.heap.size + 2, 1, none⟩ = some (.int .i64 ch) := (kX.out.below hC kX.out.lt).cell 1
                have hB6 := hB.out.trans (hC.mono hB.out.size)
              all_goals try (simp [deps, VL, IsV, Region.binds] at hd)
              · simp only [putAll, Act.put]; go_simp; intro hK; exact hK _ _ (hV _ _ hC (Below.refl _ _) rfl)
              · simp only [putAll, Act.put]; go_simp; intro hK; exact hK _ _ (hV _ _ hC (Below.refl _ _) rfl)
              · simp only [putAll, Act.put]; go_simp; intro hK; exact hK _ _ (hV _ _ hC (Below.refl _ _) rfl)
              · simp only [putAll, Act.put]; go_simp; intro hK; exact hK _ _ (hV _ _ hC (Below.refl _ _) rfl)
              · simp only [putAll, Act.put]; go_simp; intro hK; exact hK _ _ (hV _ _ hC (Below.refl _ _) rfl)
              · simp only [putAll, Act.put]; go_simp; intro hK; exact hK _ _ (hV _ _ hC (Below.refl _ _) rfl)
              · simp only [putAll, Act.put]; go_simp; intro hK
                refine (hRa.out o _ _ w6 hB6 (hrd.out.below hC) hpl.out h8.out).mono ?_
                rintro e w7 ⟨⟨v, rfl, hv⟩, hb7⟩
                exact hK _ _ (hV _ _ (hC.trans (hb7.mono hC.size)) hb7 (own_mono hv hC.size))
              · simp only [putAll, Act.put]; go_simp; intro hK; exact hK _ _ (hV _ _ hC (Below.refl _ _) rfl)
              · simp only [putAll, Act.put]; go_simp; intro hK; exact hK _ _ (hV _ _ hC (Below.refl _ _) rfl)
              · obtain ⟨e0, e1, e3, e4⟩ := hd
                obtain ⟨gg2, gc2, e3, -, -, hA⟩ := spAt_own e3 (hrl.out _) hk15.1
                have hrow := hA.row
                rw [hrl.out] at hrow
                have hE := hRd.out w6 (some ⟨gg2, 0, none⟩) gc2 _ hB6 hrow
                rw [hrf.out] at hE
                replace hE := hide hE
                clear hA hrow
                simp only [putAll, Act.put]; go_simp; intro hK
                refine hE.out.mono ?_
                rintro e w7 ⟨rfl, hb7⟩
                exact hK _ _ (hV _ _ (hC.trans (hb7.mono hC.size)) hb7 rfl)
              · simp only [putAll, Act.put]; go_simp; intro hK; exact hK _ _ (hV _ _ hC (Below.refl _ _) rfl)
              · simp only [putAll, Act.put]; go_simp; intro hK; exact hK _ _ (hV _ _ hC (Below.refl _ _) rfl)
              · simp only [putAll, Act.put]; go_simp; intro hK; exact hK _ _ (hV _ _ hC (Below.refl _ _) rfl)
              · simp only [putAll, Act.put]; go_simp; intro hK; exact hK _ _ (hV _ _ hC (Below.refl _ _) rfl)
              · simp only [putAll, Act.put]; go_simp; intro hK; exact hK _ _ (hV _ _ hC (Below.refl _ _) rfl)
              · simp only [putAll, Act.put]; go_simp; intro hK; exact hK _ _ (hV _ _ hC (Below.refl _ _) rfl)
              · simp only [putAll, Act.put]; go_simp; intro hK; exact hK _ _ (hV _ _ hC (Below.refl _ _) rfl)
              · simp only [putAll, Act.put]; go_simp; intro hK; exact hK _ _ (hV _ _ hC (Below.refl _ _) rfl)
              · simp only [putAll, Act.put]; go_simp; intro hK; exact hK _ _ (hV _ _ hC (Below.refl _ _) rfl)
            intro y w6 hC hd
            simp [EndsL, IsV] at hd
            obtain ⟨d0, d1, d2, d3, d4, d5, d6, d7, d8, d9, d10, d11, d12, d13, d14, d15, d16, d17, d18⟩ := hd
            simp only [putAll, Act.put]
            rw [d15, d16, d17, d18]
            clear d0 d1 d2 d3 d4 d5 d6 d7 d8 d9 d10 d11 d12 d13 d14 d15 d16 d17 d18
            simp only [List.setIfInBounds_toArray, List.set_cons_succ, List.set_cons_zero]
            replace kS := hide (kS.out.below hC kS.out.lt)
            replace kT := hide (kT.out.below hC kT.out.lt)
            replace kX := hide (kX.out.below hC kX.out.lt)
            replace hB := hide (hB.out.trans (hC.mono hB.out.size))
            clear hC hrd
            go_wp2_with fail
            refine (AwakeS _).mono ?_
            rintro e w9 ⟨rfl, hb⟩
            replace hB := hide (hB.out.trans (hb.mono hB.out.size))
            clear hb
            go_wp2
            go_ret
            exact ⟨rfl, hB.out⟩
end Go.Proofs.Ytkhijdbigpaagaa
