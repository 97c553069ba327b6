import Derived.Test.YtkhijdbigpaagaaNg
import Derived.Defers
import Derived.Recover
import Derived.Test.YtkhijdbigpaagaaNe
import Derived.Lib.SliceRun
/-
  learner.live of package skill.
-/
namespace Go.Proofs.Ytkhijdbigpaagaa
open Go.RowKit RG

/-- What an event makes of the ranges of a learner; none: there is no truth. -/
def stepS (S : Sch) (e : Ev) (rs : List Sp) : Option (List Sp) :=
  if e.b = 1 then
    (if (narrowS (behindS (biasOf (S.ins[e.d.toNat]?.getD default)) e.e) (rs[e.c.toNat]?.getD (0, 0))).2 < (narrowS (behindS (biasOf (S.ins[e.d.toNat]?.getD default)) e.e) (rs[e.c.toNat]?.getD (0, 0))).1 then none
     else some (rs.set e.c.toNat (narrowS (behindS (biasOf (S.ins[e.d.toNat]?.getD default)) e.e) (rs[e.c.toNat]?.getD (0, 0)))))
  else some (rs.set e.c.toNat (raiseS (gainOf (S.sks[e.c.toNat]?.getD default)) (rs[e.c.toNat]?.getD (0, 0))))
/-- The ranges after events, in a week. -/
def liveS (S : Sch) (week : Int) : List Ev → Int → List Sp → Option (List Sp)
  | [], now, rs => some (waitN S (week - now).toNat rs)
  | e :: r, now, rs => (stepS S e (waitN S (e.a - now).toNat rs)).bind (liveS S week r e.a)
/-- Events without an error, in a school of n skills and n2 instructors. -/
def EvsOk (n n2 : Nat) (es : List Ev) : Prop := ∀ i, i < es.length → ∃ s : Nat, (es[i]?.getD default).c = s ∧ s < n ∧ 0 ≤ (es[i]?.getD default).a ∧ (es[i]?.getD default).a ≤ 200 ∧ lastW (es.take i) ≤ (es[i]?.getD default).a ∧
  ((es[i]?.getD default).b = 0 ∨ ((es[i]?.getD default).b = 1 ∧ ∃ k : Nat, (es[i]?.getD default).d = k ∧ k < n2 ∧ 0 ≤ (es[i]?.getD default).e ∧ (es[i]?.getD default).e ≤ 1000))
theorem evs_ok {n n2 : Nat} {es : List Ev} (h : evsE n n2 es = 0) : es.length ≤ 60 ∧ EvsOk n n2 es := by
  unfold evsE at h
  split at h
  · simp at h
  · rename_i h0
    refine ⟨by omega, fun i hi => ?_⟩
    have h1 := firstErr_zero h i (Nat.zero_le _) (by omega)
    unfold evsErr evErr at h1
    split at h1
    · rename_i h2
      have h2 := inB_iff.1 h2
      split at h1
      · simp at h1
      · rename_i h3
        split at h1
        · rename_i h4
          split at h1
          · rename_i h5
            have h5 := inB_iff.1 h5
            split at h1
            · rename_i h6
              have h6 := inB_iff.1 h6
              split at h1
              · rename_i h7
                have h7 := inB_iff.1 h7
                exact ⟨(es[i]?.getD default).c.toNat, by omega, by omega, h2.1, h2.2, by omega, .inr ⟨h4, (es[i]?.getD default).d.toNat, by omega, by omega, h7.1, h7.2⟩⟩
              · simp at h1
            · simp at h1
          · simp at h1
        · split at h1
          · rename_i h4
            split at h1
            · rename_i h5
              have h5 := inB_iff.1 h5
              exact ⟨(es[i]?.getD default).c.toNat, by omega, by omega, h2.1, h2.2, by omega, .inl h4⟩
            · simp at h1
          · simp at h1
    · simp at h1
theorem in_ok {S : Sch} (h : (checkS S).2.2 = 0) {i : Nat} (hi : i < S.ins.length) : -300 ≤ (S.ins[i]?.getD default).lo ∧ (S.ins[i]?.getD default).lo ≤ (S.ins[i]?.getD default).hi ∧ (S.ins[i]?.getD default).hi ≤ 300 := by
  have := (check_ok h).2.2.2.2 i hi
  unfold inErr at this
  split at this
  · unfold spanE at this
    split at this
    · split at this
      · rename_i h4 h5
        simp only [List.all_cons, List.all_nil, Bool.and_true, Bool.and_eq_true, decide_eq_true_eq] at h4 h5
        have a := inB_iff.1 h4.1
        have b := inB_iff.1 h4.2
        omega
      · simp at this
    · simp at this
  · contradiction
theorem inRs_set {rs : List Sp} (h : InRs rs) (j : Nat) (r : Sp) (hr : 0 ≤ r.1 ∧ r.1 ≤ 1000 ∧ 0 ≤ r.2 ∧ r.2 ≤ 1000) : InRs (rs.set j r) := by
  intro i hi
  rw [List.length_set] at hi
  by_cases e : j = i
  · subst e; rw [List.getElem?_set_self hi]; exact hr
  · rw [List.getElem?_set_ne e]; exact h i hi
theorem step_in {S : Sch} {e : Ev} {rs q : List Sp} (h : InRs rs) (hc : e.c.toNat < rs.length) (hq : stepS S e rs = some q) : InRs q ∧ q.length = rs.length := by
  unfold stepS at hq
  have hr := h _ hc
  split at hq
  · split at hq
    · cases hq
    · rename_i hlt
      injection hq with hq
      subst hq
      refine ⟨inRs_set h _ _ ?_, by simp⟩
      generalize rs[e.c.toNat]?.getD (0, 0) = r at *
      generalize behindS (biasOf (S.ins[e.d.toNat]?.getD default)) e.e = b at *
      unfold narrowS at *
      simp only at *
      omega
  · injection hq with hq
    subst hq
    refine ⟨inRs_set h _ _ ?_, by simp⟩
    have h1 := lim_le ((rs[e.c.toNat]?.getD (0, 0)).1 + (S.sks[e.c.toNat]?.getD default).gl)
    have h2 := lim_le ((rs[e.c.toNat]?.getD (0, 0)).2 + (S.sks[e.c.toNat]?.getD default).gh)
    exact ⟨h1.1, h1.2, h2.1, h2.2⟩
theorem lastW_take (es : List Ev) (i : Nat) (hi : i < es.length) : lastW (es.take (i + 1)) = (es[i]?.getD default).a := by
  unfold lastW
  rw [List.length_take, if_neg (by omega), show min (i + 1) es.length - 1 = i by omega, List.getElem?_take_of_lt (by omega)]
theorem lastW_in {n n2 : Nat} {es : List Ev} (h : EvsOk n n2 es) (i : Nat) (hi : i ≤ es.length) : 0 ≤ lastW (es.take i) ∧ lastW (es.take i) ≤ 200 := by
  cases i with
  | zero => simp [lastW]
  | succ i =>
    rw [lastW_take es i (by omega)]
    obtain ⟨_, _, _, h1, h2, _⟩ := h i (by omega)
    exact ⟨h1, h2⟩
/-- How live ends. -/
def Lived (q : Option (List Sp)) (B : Nat) (v : Value) (gs : List Nat) (e : Ending) (w : World) : Prop := match q with
  | some rs => e = .returned (.tuple #[]) ∧ Lvs w B v gs rs
  | none => ∃ u, e = .panicked [{ v := u, recovered := false }] ∧ u = .iface 28 (.int .i64 9)
end Go.Proofs.Ytkhijdbigpaagaa

/-
  learner.live of package skill: the walk.
-/
namespace Go.Proofs.Ytkhijdbigpaagaa
open Go.RowKit RG

set_option maxRecDepth 100000 in
set_option maxHeartbeats 8000000 in
theorem live_any (A A2 LA E : Option Addr) (n c n2 c2 lc m ce B : Nat) (S : Sch) (es : List Ev) (gs : List Nat) (rs : List Sp) (week : Int) (w : World)
    (hrd : ∀ W, Below B w W → RdRow W A n 5 (S.sks.map skCells)) (hrd2 : ∀ W, Below B w W → RdRow W A2 n2 3 (S.ins.map inCells)) (hre : ∀ W, Below B w W → RdRow W E m 5 (es.map evCells))
    (hnS : S.sks.length = n) (hnI : S.ins.length = n2) (hV : Lvs w B (.slice LA n lc) gs rs) (hn : rs.length = n) (hBw : B ≤ w.heap.size) (hin : InRs rs) (hck : (checkS S).2.2 = 0) (hev : EvsOk n n2 es) (hm : m ≤ 60) (hel : es.length = m)
    (hwk : lastW es ≤ week ∧ week ≤ 200) :
    Calls Try.prog 104 #[.agg #[.slice A n c, .slice A2 n2 c2, .slice LA n lc], .slice E m ce, .int .i64 week] w fun e w' =>
      Lived (liveS S week es 0 rs) B (.slice LA n lc) gs e w' ∧ Only w w' gs := by
  have hck2 := check_ok hck
  have hn5 : n ≤ 5 := by omega
  have hn6 : n2 ≤ 6 := by omega
  have hge := hide hV.ge
  have hO1 := hide (show Only w ((w.alloc (.cells #[.slice A n c, .slice A2 n2 c2, .slice LA n lc] 152)).alloc (.cells #[.func (.func 123) #[.agg #[.slice A n c, .slice A2 n2 c2, .slice LA n lc]] #[], .func (.func 124) #[.agg #[.slice A n c, .slice A2 n2 c2, .slice LA n lc]] #[]] 174)) gs from .of_below (((Below.refl _ _).alloc (Nat.le_refl _) _).alloc (by simp) _))
  have k1 := hide (show Blk ((w.alloc (.cells #[.slice A n c, .slice A2 n2 c2, .slice LA n lc] 152)).alloc (.cells #[.func (.func 123) #[.agg #[.slice A n c, .slice A2 n2 c2, .slice LA n lc]] #[], .func (.func 124) #[.agg #[.slice A n c, .slice A2 n2 c2, .slice LA n lc]] #[]] 174)) w.heap.size 152 #[.slice A n c, .slice A2 n2 c2, .slice LA n lc] from (blkNew rfl).alloc _)
  have k2 := hide (show Blk ((w.alloc (.cells #[.slice A n c, .slice A2 n2 c2, .slice LA n lc] 152)).alloc (.cells #[.func (.func 123) #[.agg #[.slice A n c, .slice A2 n2 c2, .slice LA n lc]] #[], .func (.func 124) #[.agg #[.slice A n c, .slice A2 n2 c2, .slice LA n lc]] #[]] 174)) (w.heap.size + 1) 174 #[.func (.func 123) #[.agg #[.slice A n c, .slice A2 n2 c2, .slice LA n lc]] #[], .func (.func 124) #[.agg #[.slice A n c, .slice A2 n2 c2, .slice LA n lc]] #[]] from blkNew (by simp))
  have hV1 := hide (hV.below (W := ((w.alloc (.cells #[.slice A n c, .slice A2 n2 c2, .slice LA n lc] 152)).alloc (.cells #[.func (.func 123) #[.agg #[.slice A n c, .slice A2 n2 c2, .slice LA n lc]] #[], .func (.func 124) #[.agg #[.slice A n c, .slice A2 n2 c2, .slice LA n lc]] #[]] 174))) (((Below.refl _ _).alloc (Nat.le_refl _) _).alloc (by simp) _))
  have hnin := hide (hV1.out.nin k1.out (by decide))
  have hnin2 := hide (hV1.out.nin k2.out (by decide))
  have hO1B := hide (hO1.out.below hBw hge.out)
  have hW := hide (fun W gs' (rs' : List Sp) (q : Nat) (hb : Below B w W) (hV : Lvs W B (.slice LA n lc) gs' rs') (hn : rs'.length = n) (hin : InRs rs') (hq : q ≤ 1000) => wait_any A A2 LA n c n2 c2 lc q B S gs' rs' W (fun W' hb' => hrd W' (hb.trans hb')) hnS hV hn (Nat.le_trans hBw hb.size) hin (fun i hi => by have := sk_ok hck (i := i) (by omega); omega) hq hn5)
  have hT' := hide (fun W (rs' : List Sp) (ea eb ed ee : Int) (j : Nat) (hb : Below B w W) (hV : Lvs W B (.slice LA n lc) gs rs') (hn : rs'.length = n) (hin : InRs rs') (hj : j < n) => taught_any A A2 LA n c n2 c2 lc B j ea eb ed ee S gs rs' W (hrd W hb) hnS hV hn (hin j (by omega)) (by have := sk_ok hck (i := j) (by omega); omega) hj)
  have hM := hide (fun W (rs' : List Sp) (ea eb em : Int) (j i : Nat) (hb : Below B w W) (hV : Lvs W B (.slice LA n lc) gs rs') (hn : rs'.length = n) (hm : 0 ≤ em ∧ em ≤ 1000) (hj : j < n) (hi : i < n2) => marked_any A A2 LA n c n2 c2 lc B j i ea eb em S gs rs' W (hrd2 W hb) hnI hV hn (in_ok hck (i := i) (by omega)) hm hj hi)
  have hevc := hide (fun j (hj : j < m) => map_at evCells es j (by omega))
  have hlw := hide (fun i (hi : i < m) => lastW_take es i (by omega))
  have hel' := hide hel
  have hlwin := hide (fun i (hi : i ≤ m) => lastW_in hev i (by omega))
  have hlwe := hide (show lastW (es.take m) = lastW es by rw [List.take_of_length_le (by omega)])
  clear hrd hrd2 hV hck hel
  replace hre := hide hre
  replace hev := hide hev
  replace hnS := hide hnS
  replace hnI := hide hnI
  replace hck2 := hide hck2
  go_enter Try.func104, Try.ntmps104
  go_wp2
  generalize ((w.alloc (.cells #[.slice A n c, .slice A2 n2 c2, .slice LA n lc] 152)).alloc (.cells #[.func (.func 123) #[.agg #[.slice A n c, .slice A2 n2 c2, .slice LA n lc]] #[], .func (.func 124) #[.agg #[.slice A n c, .slice A2 n2 c2, .slice LA n lc]] #[]] 174)) = w1 at *
  have hz1 := k1.out.lt
  have hz2 := k2.out.lt
  have hs1 := hO1.out.size
  go_loopg [7, 9, 17] m (fun gg s7 _ s17 wr => ∃ (i : Nat) (T : List Sp), i ≤ m ∧ m ≤ gg + i ∧ s17 = .int .i64 i ∧ s7 = .int .i64 (lastW (es.take i)) ∧ Hid (Only w1 wr gs) ∧ Hid (Lvs wr B (.slice LA n lc) gs T) ∧ Hid (T.length = n ∧ InRs T) ∧ Hid (liveS S week es 0 rs = liveS S week (es.drop i) (lastW (es.take i)) T))
  case atStart => exact ⟨0, rs, Nat.zero_le _, by omega, rfl, by simp [lastW], Only.refl _ _, hV1.out, ⟨hn, hin⟩, by unfold Hid; simp [lastW]⟩
  case round =>
    clear hV1 hin hn
    obtain ⟨i, T, hi, hgg, rfl, rfl, hO, hV, hT, hL⟩ := hrel
    have hnow := hlwin.out i hi
    have hBw' := hide (hO1B.out.trans (hO.out.below (Nat.le_trans hBw hs1) hge.out))
    by_cases hlt : i < m
    · have hltz : (i : Int) < (m : Int) := by omega
      have hlwi := hlw.out i hlt
      obtain ⟨b, off, x0, x1, x2, x3, x4, rfl, hb, hx, c0, c1, c2', c3, c4⟩ := (hre.out wr hBw'.out).cells5 hlt
      rw [hevc.out i hlt] at hx
      unfold evCells at hx
      simp only [List.cons.injEq, and_true] at hx
      obtain ⟨rfl, rfl, rfl, rfl, rfl⟩ := hx
      obtain ⟨sk, hsc, hskn, ha0, ha1, hnowa, hkind⟩ := hev.out i (by rw [hel'.out]; exact hlt)
      have hdr := hide (show es.drop i = es[i]?.getD default :: es.drop (i + 1) by
        rw [List.drop_eq_getElem_cons (by rw [hel'.out]; exact hlt), List.getElem?_eq_getElem (by rw [hel'.out]; exact hlt)]; rfl)
      have hst := hide (show liveS S week (es.drop i) (lastW (es.take i)) T = (stepS S (es[i]?.getD default) (waitN S ((es[i]?.getD default).a - lastW (es.take i)).toNat T)).bind (liveS S week (es.drop (i + 1)) (es[i]?.getD default).a) by
        rw [hdr.out]; rfl)
      clear hdr
      generalize es[i]?.getD default = ev at *
      generalize lastW (es.take i) = now at *
      obtain ⟨ea, eb, ec, ed, ee⟩ := ev
      try simp only at *
      subst hsc
      obtain ⟨q, hq⟩ : ∃ q : Nat, (ea - now).toNat = q := ⟨_, rfl⟩
      have hqz : IntKind.i64.wrap (ea - now) = (q : Int) := by rw [IntKind.wrap_i64]; omega
      have hq1000 : q ≤ 1000 := by omega
      rw [hq] at hst
      have hOb := hide (hO.out.trans (.of_below ((Below.refl wr.heap.size wr).alloc (Nat.le_refl _) (.cells #[.int .i64 ea, .int .i64 eb, .int .i64 sk, .int .i64 ed, .int .i64 ee] 78))))
      have hVb := hide (hV.out.below ((Below.refl wr.heap.size wr).alloc (Nat.le_refl _) (.cells #[.int .i64 ea, .int .i64 eb, .int .i64 sk, .int .i64 ed, .int .i64 ee] 78)))
      have kb := hide (blkNew (w := wr) (t := 78) (cs := #[.int .i64 ea, .int .i64 eb, .int .i64 sk, .int .i64 ed, .int .i64 ee]) rfl)
      have kl := hOb.out.blk k1.out hnin.out
      have y0 : (wr.alloc (.cells #[.int .i64 ea, .int .i64 eb, .int .i64 sk, .int .i64 ed, .int .i64 ee] 78)).cell? ⟨wr.heap.size, 0, none⟩ = some (.int .i64 ea) := kb.out.cell 0
      have l0 : (wr.alloc (.cells #[.int .i64 ea, .int .i64 eb, .int .i64 sk, .int .i64 ed, .int .i64 ee] 78)).cell? ⟨w.heap.size, 0, none⟩ = some (.slice A n c) := kl.cell 0
      have l1 : (wr.alloc (.cells #[.int .i64 ea, .int .i64 eb, .int .i64 sk, .int .i64 ed, .int .i64 ee] 78)).cell? ⟨w.heap.size, 1, none⟩ = some (.slice A2 n2 c2) := kl.cell 1
      have l2 : (wr.alloc (.cells #[.int .i64 ea, .int .i64 eb, .int .i64 sk, .int .i64 ed, .int .i64 ee] 78)).cell? ⟨w.heap.size, 2, none⟩ = some (.slice LA n lc) := kl.cell 2
      clear kl hO hV
      go_wp2_with fail
      refine (hW.out _ gs T q (hBw'.out.trans (((Below.refl wr.heap.size wr).alloc (Nat.le_refl _) _).mono (Nat.le_trans hBw hBw'.out.size))) hVb.out hT.out.1 hT.out.2 hq1000).mono ?_
      rintro e w2 ⟨rfl, hOw, hV2⟩
      have hO2 := hide (hOb.out.trans hOw)
      have kb2 := hide (hOw.blk kb.out (hVb.out.nin kb.out (by decide)))
      replace hV2 := hide hV2
      clear hOw y0 l0 l1 l2 hVb hOb kb
      have hBw2 := hide (hO1B.out.trans (hO2.out.below (Nat.le_trans hBw hs1) hge.out))
      have hTl := hide (show (waitN S q T).length = n by rw [waitN_len]; exact hT.out.1)
      have hTi := hide (waitN_in (S := S) hT.out.2 q)
      generalize waitN S q T = T1 at *
      have hskl : sk < T1.length := by rw [hTl.out]; exact hskn
      have hsi := hide (fun (ev : Ev) q' (hc : ev.c.toNat = sk) (h : stepS S ev T1 = some q') => step_in hTi.out (by rw [hc]; exact hskl) h)
      have y0 : w2.cell? ⟨wr.heap.size, 0, none⟩ = some (.int .i64 ea) := kb2.out.cell 0
      rcases hkind with rfl | ⟨rfl, kk, rfl, hkk, hm0, hm1⟩
      · have hstp : stepS S ⟨ea, 0, sk, ed, ee⟩ T1 = some (T1.set sk (raiseS (gainOf (S.sks[sk]?.getD default)) (T1[sk]?.getD (0, 0)))) := by
          unfold stepS; rw [if_neg (by simp)]; rfl
        have hs2 := hsi.out _ _ (by simp) hstp
        have htau := hide (fun W (hb : Below w2.heap.size w2 W) => hT'.out W T1 ea 0 ed ee sk (hBw2.out.trans (hb.mono (Nat.le_trans hBw hBw2.out.size))) (hV2.out.below hb) hTl.out hTi.out hskn)
        rw [hstp, Option.bind_some] at hst
        clear hsi hstp
        generalize T1.set sk (raiseS (gainOf (S.sks[sk]?.getD default)) (T1[sk]?.getD (0, 0))) = T2 at *
        replace hs2 := hide hs2
        have kh := hO2.out.blk k2.out hnin2.out
        have hh : w2.cell? ⟨w.heap.size + 1, 0, none⟩ = some (.func (.func 123) #[.agg #[.slice A n c, .slice A2 n2 c2, .slice LA n lc]] #[]) := kh.cell 0
        have y1 : w2.cell? ⟨wr.heap.size, 1, none⟩ = some (.int .i64 0) := kb2.out.cell 1
        have y2 : w2.cell? ⟨wr.heap.size, 2, none⟩ = some (.int .i64 sk) := kb2.out.cell 2
        have y3 : w2.cell? ⟨wr.heap.size, 3, none⟩ = some (.int .i64 ed) := kb2.out.cell 3
        have y4 : w2.cell? ⟨wr.heap.size, 4, none⟩ = some (.int .i64 ee) := kb2.out.cell 4
        clear kh
        go_wp2
        refine region_tail 5 (by kernel_rfl) (by kernel_rfl) ?_
        simp only [List.take_succ_cons, List.take_zero, List.drop_succ_cons, List.drop_zero]
        iterate 5 still_step
        refine wpStill_nil ?_
        go_wp2_with fail
        refine (htau.out _ (Below.refl _ _).drew).mono ?_
        rintro e w3 ⟨rfl, hO3, hV3⟩
        have hO4 := hide ((hO2.out.drew).trans hO3)
        replace hV3 := hide hV3
        clear hO3 htau hh y0 y1 y2 y3 y4
        go_wp2
        go_roundg (m - (i + 1))
        case measure => omega
        case rel =>
          refine ⟨i + 1, T2, by omega, by omega, by go_num, by rw [hlwi], hO4.out, hV3.out, ⟨hs2.out.2.trans hTl.out, hs2.out.1⟩, ?_⟩
          unfold Hid
          rw [hL.out, hst.out, hlwi]
      · have hstp : stepS S ⟨ea, 1, sk, kk, ee⟩ T1 = if (narrowS (behindS (biasOf (S.ins[kk]?.getD default)) ee) (T1[sk]?.getD (0, 0))).2 < (narrowS (behindS (biasOf (S.ins[kk]?.getD default)) ee) (T1[sk]?.getD (0, 0))).1 then none else some (T1.set sk (narrowS (behindS (biasOf (S.ins[kk]?.getD default)) ee) (T1[sk]?.getD (0, 0)))) := by
          unfold stepS; rw [if_pos (by simp)]; rfl
        have hmk := hide (fun W (hb : Below w2.heap.size w2 W) => hM.out W T1 ea 1 ee sk kk (hBw2.out.trans (hb.mono (Nat.le_trans hBw hBw2.out.size))) (hV2.out.below hb) hTl.out ⟨hm0, hm1⟩ hskn hkk)
        generalize narrowS (behindS (biasOf (S.ins[kk]?.getD default)) ee) (T1[sk]?.getD (0, 0)) = nr at *
        by_cases hnr : nr.2 < nr.1
        · rw [if_pos hnr] at hstp
          rw [hstp, Option.bind_none] at hst
          rw [decide_eq_true hnr] at hmk
          have hall := hide (hL.out.trans hst)
          clear hsi hstp hst hL hnr
          have kh := hO2.out.blk k2.out hnin2.out
          have hh : w2.cell? ⟨w.heap.size + 1, 1, none⟩ = some (.func (.func 124) #[.agg #[.slice A n c, .slice A2 n2 c2, .slice LA n lc]] #[]) := kh.cell 1
          have y1 : w2.cell? ⟨wr.heap.size, 1, none⟩ = some (.int .i64 1) := kb2.out.cell 1
          have y2 : w2.cell? ⟨wr.heap.size, 2, none⟩ = some (.int .i64 sk) := kb2.out.cell 2
          have y3 : w2.cell? ⟨wr.heap.size, 3, none⟩ = some (.int .i64 kk) := kb2.out.cell 3
          have y4 : w2.cell? ⟨wr.heap.size, 4, none⟩ = some (.int .i64 ee) := kb2.out.cell 4
          clear kh
          go_wp2
          refine region_tail 5 (by kernel_rfl) (by kernel_rfl) ?_
          simp only [List.take_succ_cons, List.take_zero, List.drop_succ_cons, List.drop_zero]
          iterate 5 still_step
          refine wpStill_nil ?_
          go_wp2_with fail
          refine (hmk.out _ (Below.refl _ _).drew).mono ?_
          rintro e w3 ⟨⟨u, rfl, hu⟩, hO3, hV3⟩
          have hO4 := hide (hO1.out.trans ((hO2.out.drew).trans hO3))
          replace hu := hide hu
          clear hO3 hV3 hmk hh y0 y1 y2 y3 y4
          go_wp2
          refine ⟨rfl, ?_, hO4.out⟩
          rw [hall.out]
          exact ⟨_, rfl, hu.out⟩
        · rw [if_neg hnr] at hstp
          have hs2 := hsi.out _ _ (by simp) hstp
          rw [hstp, Option.bind_some] at hst
          rw [decide_eq_false hnr] at hmk
          clear hsi hstp hnr
          generalize T1.set sk nr = T2 at *
          replace hs2 := hide hs2
          have kh := hO2.out.blk k2.out hnin2.out
          have hh : w2.cell? ⟨w.heap.size + 1, 1, none⟩ = some (.func (.func 124) #[.agg #[.slice A n c, .slice A2 n2 c2, .slice LA n lc]] #[]) := kh.cell 1
          have y1 : w2.cell? ⟨wr.heap.size, 1, none⟩ = some (.int .i64 1) := kb2.out.cell 1
          have y2 : w2.cell? ⟨wr.heap.size, 2, none⟩ = some (.int .i64 sk) := kb2.out.cell 2
          have y3 : w2.cell? ⟨wr.heap.size, 3, none⟩ = some (.int .i64 kk) := kb2.out.cell 3
          have y4 : w2.cell? ⟨wr.heap.size, 4, none⟩ = some (.int .i64 ee) := kb2.out.cell 4
          clear kh
          go_wp2
          refine region_tail 5 (by kernel_rfl) (by kernel_rfl) ?_
          simp only [List.take_succ_cons, List.take_zero, List.drop_succ_cons, List.drop_zero]
          iterate 5 still_step
          refine wpStill_nil ?_
          go_wp2_with fail
          refine (hmk.out _ (Below.refl _ _).drew).mono ?_
          rintro e w3 ⟨hret, hO3, hV3⟩
          have hret : e = .returned (.tuple #[]) := hret
          subst hret
          have hO4 := hide ((hO2.out.drew).trans hO3)
          replace hV3 := hide hV3
          clear hO3 hmk hh y0 y1 y2 y3 y4
          go_wp2
          go_roundg (m - (i + 1))
          case measure => omega
          case rel =>
            refine ⟨i + 1, T2, by omega, by omega, by go_num, by rw [hlwi], hO4.out, hV3.out, ⟨hs2.out.2.trans hTl.out, hs2.out.1⟩, ?_⟩
            unfold Hid
            rw [hL.out, hst.out, hlwi]
    · have hltz : ¬ (i : Int) < (m : Int) := by omega
      obtain rfl : i = m := by omega
      rw [List.drop_of_length_le (by rw [hel'.out]; exact Nat.le_refl _)] at hL
      have hwk1 : lastW (es.take i) ≤ week := by rw [hlwe.out]; exact hwk.1
      have hwk2 := hwk.2
      have hL2 := hide (show liveS S week es 0 rs = some (waitN S (week - lastW (es.take i)).toNat T) from hL.out)
      clear hL hlwe hwk
      generalize lastW (es.take i) = now at *
      obtain ⟨q, hq⟩ : ∃ q : Nat, (week - now).toNat = q := ⟨_, rfl⟩
      have hqz : IntKind.i64.wrap (week - now) = (q : Int) := by rw [IntKind.wrap_i64]; omega
      have hq1000 : q ≤ 1000 := by omega
      rw [hq] at hL2
      have kl := hO.out.blk k1.out hnin.out
      have l0 : wr.cell? ⟨w.heap.size, 0, none⟩ = some (.slice A n c) := kl.cell 0
      have l1 : wr.cell? ⟨w.heap.size, 1, none⟩ = some (.slice A2 n2 c2) := kl.cell 1
      have l2 : wr.cell? ⟨w.heap.size, 2, none⟩ = some (.slice LA n lc) := kl.cell 2
      clear kl
      go_wp2_with fail
      refine (hW.out _ gs T q hBw'.out hV.out hT.out.1 hT.out.2 hq1000).mono ?_
      rintro e w2 ⟨rfl, hOw, hV2⟩
      have hO2 := hide (hO1.out.trans (hO.out.trans hOw))
      replace hV2 := hide hV2
      clear hOw l0 l1 l2
      go_wp2
      go_end0
      refine ⟨?_, hO2.out⟩
      rw [hL2.out]
      exact ⟨rfl, hV2.out⟩
end Go.Proofs.Ytkhijdbigpaagaa

/-
  history of package skill: what panics behind it is recovered.
-/
namespace Go.Proofs.Ytkhijdbigpaagaa
open Go.RowKit RG

theorem catch_panicking (p q : Nat) (a : Option Addr) (l k : Nat) (x : Int) (older : List PanicEntry) (w : World) (hc : w.cell? ⟨p, 0, none⟩ = some (.slice a l k)) (hz : w.frozen? ⟨p, 0, none⟩ = false) (hpq : p ≠ q) (hc2 : w.cell? ⟨q, 0, none⟩ = some (.int .i64 x)) (hz2 : w.frozen? ⟨q, 0, none⟩ = false) :
    CallsD Try.prog 102 #[.pointer (some ⟨p, 0, none⟩), .pointer (some ⟨q, 0, none⟩)] (.panicking ({ v := .iface 28 (.int .i64 9), recovered := false } :: older)) w fun e u' w' =>
      e = .returned (.tuple #[]) ∧ u' = .panicking ({ v := .iface 28 (.int .i64 9), recovered := true } :: older) ∧ w' = (w.setCell ⟨p, 0, none⟩ (.slice none 0 0)).setCell ⟨q, 0, none⟩ (.int .i64 9) := by
  refine callsD_of_wpS Try.func102 rfl fun c₀ cs hu => ?_
  apply wpS_seq
  apply wpS_region
  simp [wpOpsS, go_sem, recoverD, hu, Try.ntmps102, Exit.thenS]
  refine wpS_cond (t := true) (by simp [Act.eval, Array.replicate]) ?_
  simp only [if_true]
  apply wpS_region
  simp [wpOpsS, go_sem, hc, hz, hc2, hz2, bodyPostS, results, Try.results102]

theorem catch_idle (p q : Nat) (w : World) :
    CallsD Try.prog 102 #[.pointer (some ⟨p, 0, none⟩), .pointer (some ⟨q, 0, none⟩)] .returning w fun e u' w' => e = .returned (.tuple #[]) ∧ u' = .returning ∧ w' = w := by
  refine callsD_of_wpS Try.func102 rfl fun c₀ cs hu => ?_
  apply wpS_seq
  apply wpS_region
  simp [wpOpsS, go_sem, recoverD, hu, Try.ntmps102, Exit.thenS]
  refine wpS_cond (t := false) (by simp [Act.eval, Array.replicate]) ?_
  simp only [Bool.false_eq_true, if_false]
  refine wpS_of_wp (wp_skip ?_)
  cases c₀
  simp_all [bodyPostS, results, Try.results102]

theorem leaves_end (tm : Array Value) (u : FrameMode) (wf : World) (R : Ending → World → Prop) (p q : Nat) (v4 v5 : Value) (hs : settle u = .returning) (h4 : tm[8]? = some (.pointer (some ⟨p, 0, none⟩))) (h5 : tm[9]? = some (.pointer (some ⟨q, 0, none⟩)))
    (hc4 : wf.cell? ⟨p, 0, none⟩ = some v4) (hc5 : wf.cell? ⟨q, 0, none⟩ = some v5) (hR : R (.returned (.tuple #[v4, v5])) wf) : Leaves Try.prog Try.f68 tm R [] (settle u) wf := by
  have a1 := Try.isAgg37
  have a2 := Try.isAgg28
  rw [hs]
  simp [Leaves, results, Try.results68, go_sem, h4, h5, hc4, hc5, hR]

theorem Lvs.slice_len {w : World} {B k c : Nat} {A : Option Addr} {gs : List Nat} {rs : List Sp} (h : Lvs w B (.slice A k c) gs rs) : gs.length = k := by
  obtain ⟨A', c', e⟩ := h.slice
  injection e with _ e _
  exact e.symm
/-- What history and After answer of ranges, if there is a truth. -/
def HistR (q : Option (List Sp)) (e : Ending) (w : World) : Prop := ∃ x, e = .returned (.tuple #[x, .int .i64 (match q with | none => 9 | some _ => 0)]) ∧ IsSpans (q.getD []) x w

set_option maxRecDepth 100000 in
set_option maxHeartbeats 8000000 in
theorem history_any (v : Value) (S : Sch) (L E : Option Addr) (k cl m ce : Nat) (rs : List Sp) (es : List Ev) (week : Int) (w : World) (h : RdSch w v S) (hls : RdRow w L k 2 (rs.map tkCells)) (hes : RdRow w E m 5 (es.map evCells))
    (hck : (checkS S).2.2 = 0) (hrk : rangesE S.sks.length rs = 0) (hek : evsE S.sks.length S.ins.length es = 0) (hwk : lastW es ≤ week ∧ week ≤ 200) :
    Calls Try.prog 68 #[v, .slice L k cl, .slice E m ce, .int .i64 week] w fun e w' => HistR (liveS S week es 0 rs) e w' ∧ Below w.heap.size w w' := by
  have hkl : rs.length = k := by have := hls.1; simpa using this
  have hel : es.length = m := by have := hes.1; simpa using this
  obtain ⟨hrl, hrb⟩ := ranges_ok hrk
  obtain ⟨hm60, hev⟩ := evs_ok hek
  have hck2 := check_ok hck
  obtain ⟨A, c, A2, c2, rfl, hsk, -, -, -, hin2, -⟩ := h
  obtain ⟨n, hnS⟩ : ∃ n, S.sks.length = n := ⟨_, rfl⟩
  obtain ⟨n2, hnI⟩ : ∃ n2, S.ins.length = n2 := ⟨_, rfl⟩
  rw [hnS] at hrl hev hck2 hsk
  rw [hnI] at hev hin2
  have hkn : k = n := by omega
  subst hkn
  have hinR : InRs rs := fun i hi => by have := hrb i hi; omega
  have hNL := hide (fun W (hb : Below w.heap.size w W) => newLearner_any A A2 L k c n2 c2 k cl rs W (hls.below hb) (by omega))
  have hLV := hide (fun W LA lc B gs (hB : w.heap.size ≤ B) (hb : Below w.heap.size w W) (hV : Lvs W B (.slice LA k lc) gs rs) (hBW : B ≤ W.heap.size) => live_any A A2 LA E k c n2 c2 lc m ce B S es gs rs week W (fun W' hb' => hsk.below (hb.trans (hb'.mono hB))) (fun W' hb' => hin2.below (hb.trans (hb'.mono hB))) (fun W' hb' => hes.below (hb.trans (hb'.mono hB))) hnS hnI hV hkl hBW hinR hck hev (by omega) hel hwk)
  have hRG := hide (fun W LA lc B gs (rs' : List Sp) (hV : Lvs W B (.slice LA k lc) gs rs') (hn : rs'.length = k) => ranges_any A A2 LA k c n2 c2 lc B gs rs' W hV hn (by omega))
  rw [hnS, hnI]
  clear hls hes hrb hev hck2 hsk hin2 hck hrk hek hwk hinR
  replace hkl := hide hkl
  replace hel := hide hel
  have hmf : ∀ (fn : Fn) (first cap : Array Value) (w : World), (Instr.makeFunc fn first cap).run Try.prog w = .ok (.func fn first cap) w := fun _ _ _ _ => rfl
  have hB0 := hide (show Below w.heap.size w (((w.alloc (.cells #[.slice A k c, .slice A2 n2 c2] 25)).alloc (.cells #[.slice none 0 0] 37)).alloc (.cells #[.int .i64 0] 28)) from (((Below.refl _ _).alloc (Nat.le_refl _) _).alloc (by simp) _).alloc (by simp +arith) _)
  have hR1 := hide (show Blk (((w.alloc (.cells #[.slice A k c, .slice A2 n2 c2] 25)).alloc (.cells #[.slice none 0 0] 37)).alloc (.cells #[.int .i64 0] 28)) (w.heap.size + 1) 37 #[.slice none 0 0] from (blkNew (by simp)).alloc _)
  have hR2 := hide (show Blk (((w.alloc (.cells #[.slice A k c, .slice A2 n2 c2] 25)).alloc (.cells #[.slice none 0 0] 37)).alloc (.cells #[.int .i64 0] 28)) (w.heap.size + 2) 28 #[.int .i64 0] from blkNew (by simp))
  have hz0 : w.heap.size + 3 = (((w.alloc (.cells #[.slice A k c, .slice A2 n2 c2] 25)).alloc (.cells #[.slice none 0 0] 37)).alloc (.cells #[.int .i64 0] 28)).heap.size := by simp
  generalize liveS S week es 0 rs = q at *
  go_enter_defers Try.func68, Try.ntmps68
  go_wp2_with fail
  generalize (((w.alloc (.cells #[.slice A k c, .slice A2 n2 c2] 25)).alloc (.cells #[.slice none 0 0] 37)).alloc (.cells #[.int .i64 0] 28)) = w0 at *
  refine (hNL.out _ hB0.out).mono ?_
  rintro e w1 ⟨⟨lv, rfl, gs, hV⟩, hb1⟩
  obtain ⟨LA, lc, rfl⟩ := hV.slice
  have hgl : gs.length = k := hV.len.trans hkl.out
  rw [hgl] at hV ⊢
  have hge := hide hV.ge
  have hBL := hide ((Below.refl w1.heap.size w1).alloc (Nat.le_refl _) (.cells #[.slice A k c, .slice A2 n2 c2, .slice LA k lc] 152))
  have kl := hide (blkNew (w := w1) (t := 152) (cs := #[.slice A k c, .slice A2 n2 c2, .slice LA k lc]) rfl)
  have hs1 := hb1.size
  have hV2 := hide (hV.below hBL.out)
  have hB2 := hide ((hB0.out.trans (hb1.mono (by omega))).trans (hBL.out.mono (by omega)))
  have hR1' := hide ((hR1.out.below hb1 hR1.out.lt).alloc (.cells #[.slice A k c, .slice A2 n2 c2, .slice LA k lc] 152))
  have hR2' := hide ((hR2.out.below hb1 hR2.out.lt).alloc (.cells #[.slice A k c, .slice A2 n2 c2, .slice LA k lc] 152))
  have hlv := hLV.out (w1.alloc (.cells #[.slice A k c, .slice A2 n2 c2, .slice LA k lc] 152)) LA lc w0.heap.size gs (by omega) hB2.out hV2.out (by simp; omega)
  have hge2 : ∀ g ∈ gs, w.heap.size + 3 ≤ g := fun g hg => by have := hge.out g hg; omega
  replace hge2 := hide hge2
  clear hb1 hV hR1 hR2 hB0 hNL hLV hgl
  replace hlv := hide hlv
  have x0 : (w1.alloc (.cells #[.slice A k c, .slice A2 n2 c2, .slice LA k lc] 152)).cell? ⟨w1.heap.size, 0, none⟩ = some (.slice A k c) := kl.out.cell 0
  have x1 : (w1.alloc (.cells #[.slice A k c, .slice A2 n2 c2, .slice LA k lc] 152)).cell? ⟨w1.heap.size, 1, none⟩ = some (.slice A2 n2 c2) := kl.out.cell 1
  have x2 : (w1.alloc (.cells #[.slice A k c, .slice A2 n2 c2, .slice LA k lc] 152)).cell? ⟨w1.heap.size, 2, none⟩ = some (.slice LA k lc) := kl.out.cell 2
  go_wp2_with fail
  refine hlv.out.mono ?_
  rintro e w3 ⟨hL, hO⟩
  have hn1 : w.heap.size + 1 ∉ gs := fun hg => by have := hge2.out _ hg; omega
  have hn2 : w.heap.size + 2 ∉ gs := fun hg => by have := hge2.out _ hg; omega
  have r1 := hide (hO.blk hR1'.out hn1)
  have r2 := hide (hO.blk hR2'.out hn2)
  have k3 := hide (hO.blk kl.out (hV2.out.nin kl.out (by decide)))
  have hB3 := hide (hB2.out.trans (hO.below (B := w.heap.size) (by have := hB2.out.size; omega) (fun g hg => by have := hge2.out g hg; omega)))
  have hs3 := hO.size
  simp only [World.size_alloc] at hs3
  clear hO hlv x0 x1 x2 hR1' hR2' kl hn1 hn2 hV2 hB2
  have s1 : w3.cell? ⟨w.heap.size + 1, 0, none⟩ = some (.slice none 0 0) := r1.out.cell 0
  have s2 : w3.cell? ⟨w.heap.size + 1 + 1, 0, none⟩ = some (.int .i64 0) := r2.out.cell 0
  have t1 : w3.frozen? ⟨w.heap.size + 1, 0, none⟩ = false := r1.out.frozen 0
  have t2 : w3.frozen? ⟨w.heap.size + 1 + 1, 0, none⟩ = false := r2.out.frozen 0
  cases q with
  | none =>
    obtain ⟨u, rfl, rfl⟩ := hL
    go_wp2
    refine leaves_cons (f := 102) (args := #[.pointer (some ⟨w.heap.size + 1, 0, none⟩), .pointer (some ⟨w.heap.size + 1 + 1, 0, none⟩)]) (by simp) (by simp [go_sem]) ?_
    refine (catch_panicking (w.heap.size + 1) (w.heap.size + 1 + 1) none 0 0 0 [] _ s1 t1 (by omega) s2 t2).mono ?_
    rintro e u' w'' ⟨rfl, rfl, rfl⟩
    refine leaves_end _ _ _ _ (w.heap.size + 1) (w.heap.size + 1 + 1) (.slice none 0 0) (.int .i64 9) rfl rfl rfl (by go_simp) (by go_simp) ⟨⟨_, rfl, none, 0, rfl, RdRow.nil _ _ _, Nat.le_refl _⟩, ?_⟩
    exact (hB3.out.setCell (by simp +arith) _).setCell (by simp +arith) _
  | some T =>
    obtain ⟨rfl, hLT⟩ := hL
    have hTl : T.length = k := hLT.len.symm.trans hLT.slice_len
    have hrg := hide (hRG.out w3 LA lc w0.heap.size gs T hLT hTl)
    have x0 : w3.cell? ⟨w1.heap.size, 0, none⟩ = some (.slice A k c) := k3.out.cell 0
    have x1 : w3.cell? ⟨w1.heap.size, 1, none⟩ = some (.slice A2 n2 c2) := k3.out.cell 1
    have x2 : w3.cell? ⟨w1.heap.size, 2, none⟩ = some (.slice LA k lc) := k3.out.cell 2
    clear hLT hRG hTl
    go_wp2_with fail
    refine hrg.out.mono ?_
    rintro e w4 ⟨⟨x, rfl, hX⟩, hb4⟩
    have hB4 := hide (hB3.out.trans (hb4.mono (by omega)))
    have r1' := hide (r1.out.below hb4 r1.out.lt)
    have r2' := hide (r2.out.below hb4 r2.out.lt)
    clear hb4 hrg x0 x1 x2 s1 s2 t1 t2 r1 r2
    have s1 : w4.cell? ⟨w.heap.size + 1, 0, none⟩ = some (.slice none 0 0) := r1'.out.cell 0
    have s2 : w4.cell? ⟨w.heap.size + 1 + 1, 0, none⟩ = some (.int .i64 0) := r2'.out.cell 0
    have t1 : w4.frozen? ⟨w.heap.size + 1, 0, none⟩ = false := r1'.out.frozen 0
    have t2 : w4.frozen? ⟨w.heap.size + 1 + 1, 0, none⟩ = false := r2'.out.frozen 0
    have hX2 := hide ((hX.far (p := ⟨w.heap.size + 1, 0, none⟩) (by show w.heap.size + 1 < w3.heap.size; omega) x).far (p := ⟨w.heap.size + 1 + 1, 0, none⟩) (by show w.heap.size + 1 + 1 < w3.heap.size; omega) (.int .i64 0))
    obtain ⟨XA, xc, rfl, _⟩ := hX
    go_wp2
    refine leaves_cons (f := 102) (args := #[.pointer (some ⟨w.heap.size + 1, 0, none⟩), .pointer (some ⟨w.heap.size + 1 + 1, 0, none⟩)]) (by simp) (by simp [go_sem]) ?_
    refine (catch_idle (w.heap.size + 1) (w.heap.size + 1 + 1) _).mono ?_
    rintro e u' w'' ⟨rfl, rfl, rfl⟩
    refine leaves_end _ _ _ _ (w.heap.size + 1) (w.heap.size + 1 + 1) (.slice XA T.length xc) (.int .i64 0) rfl rfl rfl (by go_simp) (by go_simp) ⟨⟨_, rfl, hX2.out.spans⟩, ?_⟩
    exact (hB4.out.setCell (by simp +arith) _).setCell (by simp +arith) _
end Go.Proofs.Ytkhijdbigpaagaa

/-
  After of package skill.
-/
namespace Go.Proofs.Ytkhijdbigpaagaa
open Go.RowKit RG

theorem hist_ok {S : Sch} {rs : List Sp} {es : List Ev} (h : histE S rs es = 0) : (checkS S).2.2 = 0 ∧ rangesE S.sks.length rs = 0 ∧ evsE S.sks.length S.ins.length es = 0 := by
  unfold histE at h
  split at h
  · rename_i h0
    split at h
    · rename_i h1; exact ⟨h0, h1, h⟩
    · contradiction
  · contradiction
/-- What After answers. -/
def afterF (S : Sch) (rs : List Sp) (es : List Ev) (week : Int) : Option (List Sp) × Int :=
  if histE S rs es = 0 then (if inB 0 200 week = true then (if week < lastW es then (none, 2) else (liveS S week es 0 rs, match liveS S week es 0 rs with | none => 9 | some _ => 0)) else (none, 7)) else (none, histE S rs es)
/-- Ranges and an error are answered. -/
def AfterR (q : Option (List Sp) × Int) (e : Ending) (w : World) : Prop := ∃ x, e = .returned (.tuple #[x, .int .i64 q.2]) ∧ IsSpans (q.1.getD []) x w
theorem isSpans_nil (w : World) : IsSpans [] (.slice none 0 0) w := ⟨none, 0, rfl, RdRow.nil _ _ _, Nat.le_refl _⟩

set_option maxRecDepth 100000 in
set_option maxHeartbeats 4000000 in
theorem After_any (v : Value) (S : Sch) (L E : Option Addr) (k cl m ce : Nat) (rs : List Sp) (es : List Ev) (week : Int) (w : World) (h : RdSch w v S) (hls : RdRow w L k 2 (rs.map tkCells)) (hk : k ≤ maxLen)
    (hes : RdRow w E m 5 (es.map evCells)) (hm : m ≤ maxLen) (hcap : m ≤ ce) :
    Calls Try.prog 25 #[v, .slice L k cl, .slice E m ce, .int .i64 week] w fun e w' => AfterR (afterF S rs es week) e w' ∧ Below w.heap.size w w' := by
  have hT := hide (fun W (hb : Below w.heap.size w W) => historyError_any v S L E k cl m ce rs es W (h.below hb) (hls.below hb) hk (hes.below hb) hm hcap)
  have hW := hide (fun W (hb : Below w.heap.size w W) => lastWeek_any E m ce es W (hes.below hb) hm)
  have hH := hide (fun (h0 : histE S rs es = 0) (hwk : lastW es ≤ week ∧ week ≤ 200) W (hb : Below w.heap.size w W) => history_any v S L E k cl m ce rs es week W (h.below hb) (hls.below hb) (hes.below hb) (hist_ok h0).1 (hist_ok h0).2.1 (hist_ok h0).2.2 hwk)
  obtain ⟨A, c, A2, c2, rfl, -⟩ := h
  obtain ⟨r, hr⟩ : ∃ r, afterF S rs es week = r := ⟨_, rfl⟩
  rw [hr]
  unfold afterF at hr
  generalize lastW es = lw at *
  generalize liveS S week es 0 rs = q at *
  generalize histE S rs es = g at *
  generalize S.sks.length = n at *
  generalize S.ins.length = n2 at *
  clear hls hes hk hcap hm
  have hB0 := hide (show Below w.heap.size w (w.alloc (.cells #[.slice A n c, .slice A2 n2 c2] 25)) from (Below.refl _ _).alloc (Nat.le_refl _) _)
  have k0 := hide (show Blk (w.alloc (.cells #[.slice A n c, .slice A2 n2 c2] 25)) w.heap.size 25 #[.slice A n c, .slice A2 n2 c2] from (blkNew rfl))
  replace hr := hide hr
  go_enter Try.func25, Try.ntmps25
  go_wp2_with fail
  refine (hT.out _ hB0.out).mono ?_
  rintro e w1 ⟨rfl, hb1⟩
  have hB1 := hide (hB0.out.trans (hb1.mono (by simp +arith)))
  have k1 := hide (k0.out.below hb1 k0.out.lt)
  clear hb1 hB0 k0 hT
  by_cases hg : g = 0
  · subst hg
    have hr1 := hr.out
    rw [if_pos rfl] at hr1
    replace hr1 := hide hr1
    clear hr
    replace hH := hide (hH.out rfl)
    go_wp2_with fail
    refine (within_one _ _ week _ _ _ _ (by go_simp)).mono ?_
    rintro e w3 ⟨rfl, rfl⟩
    have hB3 := hide (hB1.out.alloc hB1.out.size (.cells #[.int .i64 week] 3))
    have k3 := hide (k1.out.alloc (.cells #[.int .i64 week] 3))
    clear hB1 k1
    cases hq : inB 0 200 week with
    | false =>
      have hr2 := hr1.out
      rw [hq, if_neg (by simp)] at hr2
      subst hr2
      clear hq hW hH
      go_wp2
      go_ret2
      exact ⟨⟨_, rfl, isSpans_nil _⟩, hB3.out⟩
    | true =>
      have hr2 := hr1.out
      rw [hq, if_pos rfl] at hr2
      replace hr2 := hide hr2
      have hqb := hide (inB_iff.1 hq)
      clear hr1 hq
      go_wp2_with fail
      refine (hW.out _ hB3.out).mono ?_
      rintro e w4 ⟨rfl, rfl⟩
      clear hW
      by_cases hlt : week < lw
      · have hr3 := hr2.out
        rw [if_pos hlt] at hr3
        subst hr3
        clear hH
        go_wp2
        go_ret2
        exact ⟨⟨_, rfl, isSpans_nil _⟩, hB3.out⟩
      · have hr3 := hr2.out
        rw [if_neg hlt] at hr3
        replace hr3 := hide hr3
        replace hH := hide (hH.out ⟨by omega, hqb.out.2⟩ _ hB3.out)
        have x0 : (w1.alloc (.cells #[.int .i64 week] 3)).cell? ⟨w.heap.size, 0, none⟩ = some (.slice A n c) := k3.out.cell 0
        have x1 : (w1.alloc (.cells #[.int .i64 week] 3)).cell? ⟨w.heap.size, 1, none⟩ = some (.slice A2 n2 c2) := k3.out.cell 1
        clear hr2 hqb k3
        go_wp2_with fail
        refine hH.out.mono ?_
        rintro e w5 ⟨⟨x, rfl, hx⟩, hb5⟩
        have hB5 := hide (hB3.out.trans (hb5.mono hB3.out.size))
        replace hx := hide hx
        clear hH hb5 hB3 x0 x1
        have hr4 := hr3.out
        subst hr4
        clear hr3
        cases q with
        | none =>
          go_wp2
          go_ret2
          exact ⟨⟨_, rfl, hx.out⟩, hB5.out⟩
        | some T =>
          go_wp2
          go_ret2
          exact ⟨⟨_, rfl, hx.out⟩, hB5.out⟩
  · have hr1 := hr.out
    rw [if_neg hg] at hr1
    subst hr1
    have hb1 : (g == 0) = false := by rw [beq_eq_false_iff_ne]; exact hg
    have hb2 : (g != 0) = true := by rw [bne_iff_ne]; exact hg
    replace hg := hide hg
    clear hH hW
    go_wp2
    go_ret2
    exact ⟨⟨_, rfl, isSpans_nil _⟩, hB1.out⟩
end Go.Proofs.Ytkhijdbigpaagaa

/-
  slices.Clone of numbers and of instructors.
-/
namespace Go.Proofs.Ytkhijdbigpaagaa
open Go.RowKit Go.Lib RG

theorem infoIn : (Try.prog.info? 81).map (fun i => (i.zero, i.size, i.bytes)) = some (some (.agg #[.string ⟨#[]⟩, .int .i64 0, .int .i64 0]), 3, 32) := by kernel_rfl
theorem flatIn_len (ss : List Ins) : (ss.flatMap inCells).length = ss.length * 3 := by
  induction ss with
  | nil => rfl
  | cons x ss ih => rw [List.flatMap_cons, List.length_append, ih]; simp [inCells]; omega
theorem flatIn_at (ss : List Ins) (j : Nat) (u : Value) (h : (ss.flatMap inCells)[j]? = some u) : ((ss.map inCells)[j / 3]?.getD [])[j % 3]? = some u := by
  induction ss generalizing j with
  | nil => simp at h
  | cons x ss ih =>
    rw [List.flatMap_cons] at h
    rcases Nat.lt_or_ge j 3 with hj | hj
    · rw [List.getElem?_append_left (by simpa [inCells] using hj)] at h
      rw [Nat.div_eq_of_lt hj, Nat.mod_eq_of_lt hj]
      simpa using h
    · rw [List.getElem?_append_right (by simpa [inCells] using hj)] at h
      have := ih (j - 3) (by simpa [inCells] using h)
      have e1 : j / 3 = (j - 3) / 3 + 1 := by omega
      have e2 : j % 3 = (j - 3) % 3 := by omega
      rw [e1, e2, List.map_cons, List.getElem?_cons_succ]
      exact this
theorem inOne (ss : List Ins) : ∀ u ∈ ss.flatMap inCells, u.oneCell' = true := by
  intro u hu
  obtain ⟨s, _, hs⟩ := List.mem_flatMap.1 hu
  simp only [inCells, List.mem_cons, List.not_mem_nil, or_false] at hs
  rcases hs with rfl | rfl | rfl <;> rfl

set_option maxRecDepth 100000 in
set_option maxHeartbeats 2000000 in
theorem CloneIn_any (A : Option Addr) (n c : Nat) (ss : List Ins) (w : World) (h : RdRow w A n 3 (ss.map inCells)) (hn : 1 ≤ n) (hm : n ≤ 6) :
    Calls Try.prog 72 #[.slice A n c] w fun e w' => ∃ v', e = .returned v' ∧ w'.ownsRow w.heap.size 81 3 v' n (ss.flatMap inCells) ∧ Below w.heap.size w w' := by
  obtain ⟨i0, hi, hz0, hz1, hz2⟩ := info_parts infoIn
  replace hi := hide hi
  replace hz0 := hide hz0
  replace hz1 := hide hz1
  replace hz2 := hide hz2
  have hl : ss.length = n := by have := h.1; simpa using this
  obtain ⟨b, off, rfl, hb, hc⟩ := h.2.2 (by omega)
  replace hc := hide hc
  have hfl := hide (flatIn_len ss)
  have hfa := hide (flatIn_at ss)
  have hone := hide (inOne ss)
  clear h
  generalize ss.flatMap inCells = xs at *
  replace hl := hide hl
  have q22 : ∀ (w : World) (a : Option Addr) (n c n' c' : Nat), (binOp .eql 23 (.slice a n c) (.slice none n' c')).run Try.prog w = .ok (.bool a.isNone) w := fun w a n c n' c' => Lib.run_eql_slice_nil w _ _ a n c n' c' Try.underlying23
  go_enter Try.func72, Try.ntmps72
  go_wp2_with (at_builtin; refine wpList_append_own _ rfl _ _ 23 rfl w.heap.size 81 i0 _ 3 32 Try.underlying23 hi.out hz0.out hz1.out hz2.out rfl (by decide) _ _ _ rfl (World.ownsRow_made w #[] 0 (Nat.le_refl _) (Nat.zero_le _) rfl) ⟨b, off, none⟩ n c xs rfl ?qc1 ?qc2 ?qc3 ?qc4 ?qc5 ?qc6 ?_)
  case qc1 => rw [hfl.out, hl.out]
  case qc2 =>
    intro j u hj
    have hx := hfa.out j u hj
    rw [Addr.add_lit]
    refine Lib.cell?_alloc_some _ ?_
    have hjm := Nat.div_add_mod j 3
    have := hc.out (j / 3) (j % 3) u hx
    rwa [show off + j / 3 * 3 + j % 3 = off + j by omega] at this
  case qc3 => exact hone.out
  case qc4 => unfold maxLen; omega
  case qc5 => omega
  case qc6 => simp
  intro v' w1 hown hgrow _
  go_wp2
  go_ret
  refine ⟨v', rfl, by simpa using hown, ?_⟩
  exact ((Below.refl _ w).alloc (Nat.le_refl _) _).grown hgrow (by simp) (by intro k hk; simp [Value.ownBlock] at hk; omega)

set_option maxRecDepth 100000 in
set_option maxHeartbeats 2000000 in
theorem CloneInt_any (A : Option Addr) (n c : Nat) (xs : List Int) (w : World) (h : RdInts w A n xs) (hn : 1 ≤ n) (hm : n ≤ 6) :
    Calls Try.prog 126 #[.slice A n c] w fun e w' => ∃ v', e = .returned v' ∧ w'.ownsRow w.heap.size 3 1 v' n (xs.map (Value.int .i64)) ∧ Below w.heap.size w w' := by
  obtain ⟨i0, hi, hz0, hz1, hz2⟩ := info_parts infoInt
  replace hi := hide hi
  replace hz0 := hide hz0
  replace hz1 := hide hz1
  replace hz2 := hide hz2
  have hl : xs.length = n := h.1
  obtain ⟨b, off, rfl, hb, hc⟩ := h.2 (by omega)
  replace hc := hide hc
  clear h
  replace hl := hide hl
  have q22 : ∀ (w : World) (a : Option Addr) (n c n' c' : Nat), (binOp .eql 49 (.slice a n c) (.slice none n' c')).run Try.prog w = .ok (.bool a.isNone) w := fun w a n c n' c' => Lib.run_eql_slice_nil w _ _ a n c n' c' Try.underlying49
  go_enter Try.func126, Try.ntmps126
  go_wp2_with (at_builtin; refine wpList_append_own _ rfl _ _ 49 rfl w.heap.size 3 i0 _ 1 8 Try.underlying49 hi.out hz0.out hz1.out hz2.out rfl (by decide) _ _ _ rfl (World.ownsRow_made w #[] 0 (Nat.le_refl _) (Nat.zero_le _) rfl) ⟨b, off, none⟩ n c (xs.map (Value.int .i64)) rfl ?qc1 ?qc2 ?qc3 ?qc4 ?qc5 ?qc6 ?_)
  case qc1 => simp [hl.out]
  case qc2 =>
    intro j u hj
    rw [Addr.add_lit]
    refine Lib.cell?_alloc_some _ ?_
    have hjl : j < xs.length := by have := (List.getElem?_eq_some_iff.1 hj).1; simpa using this
    have := hc.out j (by rw [← hl.out]; exact hjl)
    rw [this]
    rw [List.getElem?_map, List.getElem?_eq_getElem hjl] at hj
    rw [List.getElem?_eq_getElem hjl]
    simpa using hj
  case qc3 => intro u hu; obtain ⟨x, _, rfl⟩ := List.mem_map.1 hu; rfl
  case qc4 => unfold maxLen; omega
  case qc5 => omega
  case qc6 => simp
  intro v' w1 hown hgrow _
  go_wp2
  go_ret
  refine ⟨v', rfl, by simpa using hown, ?_⟩
  exact ((Below.refl _ w).alloc (Nat.le_refl _) _).grown hgrow (by simp) (by intro k hk; simp [Value.ownBlock] at hk; omega)
end Go.Proofs.Ytkhijdbigpaagaa
