/-
  The law SkillAfters.
-/
import Derived.Test.YtkhijdbigpaagaaNaf
import Derived.Test.YtkhijdbigpaagaaNl
import Derived.Test.YtkhijdbigpaagaaNah
namespace Go.Proofs.Ytkhijdbigpaagaa
open Go.RowKit RG

theorem liveS_len {S : Sch} {week : Int} : ∀ {es : List Ev} {now : Int} {rs T : List Sp}, liveS S week es now rs = some T → T.length = rs.length
  | [], now, rs, T, h => by
    have h : some (waitN S (week - now).toNat rs) = some T := h
    injection h with h
    rw [← h, waitN_len]
  | e :: r, now, rs, T, h => by
    have h : (stepS S e (waitN S (e.a - now).toNat rs)).bind (liveS S week r e.a) = some T := h
    cases hq : stepS S e (waitN S (e.a - now).toNat rs) with
    | none => rw [hq] at h; cases h
    | some q =>
      rw [hq] at h
      have h1 := liveS_len (es := r) h
      rw [h1]
      unfold stepS at hq
      split at hq
      · split at hq
        · cases hq
        · injection hq with hq; rw [← hq, List.length_set, waitN_len]
      · injection hq with hq; rw [← hq, List.length_set, waitN_len]
theorem afterF_len (S : Sch) (rs : List Sp) (es : List Ev) (week : Int) : ((afterF S rs es week).1.getD []).length ≤ rs.length := by
  unfold afterF
  split
  · split
    · split
      · simp
      · simp only
        cases hq : liveS S week es 0 rs with
        | none => simp
        | some T => simp [liveS_len hq]
    · simp
  · simp

set_option maxRecDepth 100000 in
set_option maxHeartbeats 8000000 in
theorem SkillAfters_any (v : Value) (S : Sch) (L E : Option Addr) (k cl m ce : Nat) (rs : List Sp) (es : List Ev) (wk ix : Int) (w : World) (h : RdSch w v S) (hls : RdRow w L k 2 (rs.map tkCells)) (hk : k ≤ maxLen) (hes : RdRow w E m 5 (es.map evCells)) (hm : m ≤ maxLen) (hcap : m ≤ ce) :
    Calls Try.prog 4 #[v, .agg #[.slice L k cl, .slice E m ce, .int .i64 wk, .int .i64 ix]] w fun e w' => e = .returned (.bool true) ∧ Below w.heap.size w w' := by
  have hA := hide (fun W (hb : Below w.heap.size w W) => After_any v S L E k cl m ce rs es wk W (h.below hb) (hls.below hb) hk (hes.below hb) hm hcap)
  have hAR := hide (fun W (hb : Below w.heap.size w W) => AfterR_any v S L E k cl m ce rs es wk W (h.below hb) (hls.below hb) hk (hes.below hb) hm)
  have hV := hide (fun W (hb : Below w.heap.size w W) => Severity_any v S L E k cl m ce rs es ix W (h.below hb) (hls.below hb) hk (hes.below hb) hm hcap)
  have hVR := hide (fun W (hb : Below w.heap.size w W) => SeverityR_any v S L E k cl m ce rs es ix W (h.below hb) (hls.below hb) hk (hes.below hb) hm)
  obtain ⟨A, c, A2, c2, rfl, -⟩ := h
  have hrl : rs.length = k := by have := hls.1; simpa using this
  have hlen := afterF_len S rs es wk
  rw [hrl] at hlen
  have hlm : ((afterF S rs es wk).1.getD []).length ≤ maxLen := Nat.le_trans hlen hk
  unfold AfterR at hA hAR
  unfold SevR at hV hVR
  generalize afterF S rs es wk = q at *
  generalize sevF S rs es ix = b at *
  obtain ⟨q1, q2⟩ := q
  obtain ⟨b0, b1, b2⟩ := b
  simp only at hA hAR hV hVR hlm
  generalize q1.getD [] = T at *
  clear hls hes hk hm hcap hrl hlen
  replace hlm := hide hlm
  generalize S.sks.length = n1 at *
  generalize S.ins.length = n2 at *
  have e2 : (q2 != q2) = false := by simp
  have e4 : (b2 == b2) = true := by simp
  have heq := hide (fun W => (eqSpan b0 b1 b0 b1 W).trans (show _ = Result.ok (Value.bool true) W by simp))
  obtain ⟨W0, hW0⟩ : ∃ W0, (w.alloc (.cells #[.slice A n1 c, .slice A2 n2 c2] 25)).alloc (.cells #[.slice L k cl, .slice E m ce, .int .i64 wk, .int .i64 ix] 40) = W0 := ⟨_, rfl⟩
  have kS := hide (show Blk W0 w.heap.size 25 #[.slice A n1 c, .slice A2 n2 c2] by rw [← hW0]; exact (blkNew rfl).alloc _)
  have kX := hide (show Blk W0 (w.heap.size + 1) 40 #[.slice L k cl, .slice E m ce, .int .i64 wk, .int .i64 ix] by rw [← hW0]; exact blkNew (by simp))
  have hB := hide (show Below w.heap.size w W0 by rw [← hW0]; exact ((Below.refl _ _).alloc (Nat.le_refl _) _).alloc (by simp) _)
  have s0 : W0.cell? ⟨w.heap.size, 0, none⟩ = some (.slice A n1 c) := kS.out.cell 0
  have s1 : W0.cell? ⟨w.heap.size, 1, none⟩ = some (.slice A2 n2 c2) := kS.out.cell 1
  have x0 : W0.cell? ⟨w.heap.size + 1, 0, none⟩ = some (.slice L k cl) := kX.out.cell 0
  have x1 : W0.cell? ⟨w.heap.size + 1, 1, none⟩ = some (.slice E m ce) := kX.out.cell 1
  have x2 : W0.cell? ⟨w.heap.size + 1, 2, none⟩ = some (.int .i64 wk) := kX.out.cell 2
  rw [← hW0] at s0 s1 x0 x1 x2
  replace hW0 := hide hW0
  go_enter Try.func4, Try.ntmps4
  go_wp2_with fail
  rw [hW0.out]
  refine (hA.out _ hB.out).mono ?_
  rintro e w1 ⟨⟨v1, rfl, hT1⟩, hb⟩
  replace kS := hide (kS.out.below hb kS.out.lt)
  replace kX := hide (kX.out.below hb kX.out.lt)
  replace hB := hide (hB.out.trans (hb.mono hB.out.size))
  clear hb s0 s1 x0 x1 x2 hA hW0
  have s0 : w1.cell? ⟨w.heap.size, 0, none⟩ = some (.slice A n1 c) := kS.out.cell 0
  have s1 : w1.cell? ⟨w.heap.size, 1, none⟩ = some (.slice A2 n2 c2) := kS.out.cell 1
  have x0 : w1.cell? ⟨w.heap.size + 1, 0, none⟩ = some (.slice L k cl) := kX.out.cell 0
  have x1 : w1.cell? ⟨w.heap.size + 1, 1, none⟩ = some (.slice E m ce) := kX.out.cell 1
  have x2 : w1.cell? ⟨w.heap.size + 1, 2, none⟩ = some (.int .i64 wk) := kX.out.cell 2
  obtain ⟨A3, c3, rfl, hr3, -⟩ := hT1
  go_wp2_with fail
  refine (hAR.out _ hB.out).mono ?_
  rintro e w2 ⟨⟨v2, rfl, hT2⟩, hb⟩
  replace kS := hide (kS.out.below hb kS.out.lt)
  replace kX := hide (kX.out.below hb kX.out.lt)
  have hr3 := hr3.below hb
  replace hB := hide (hB.out.trans (hb.mono hB.out.size))
  clear hb s0 s1 x0 x1 x2 hAR
  have s0 : w2.cell? ⟨w.heap.size, 0, none⟩ = some (.slice A n1 c) := kS.out.cell 0
  have s1 : w2.cell? ⟨w.heap.size, 1, none⟩ = some (.slice A2 n2 c2) := kS.out.cell 1
  obtain ⟨A4, c4, rfl, hr4, -⟩ := hT2
  have hSp := Spans_any A3 A4 T.length T.length c3 c4 T T w2 hr3 hr4 hlm.out hlm.out
  simp only [decide_true] at hSp
  replace hSp := hide hSp
  clear hr3 hr4
  go_wp2_with fail
  refine hSp.out.mono ?_
  rintro e w3 ⟨rfl, hb⟩
  replace kS := hide (kS.out.below hb kS.out.lt)
  replace kX := hide (kX.out.below hb kX.out.lt)
  replace hB := hide (hB.out.trans (hb.mono hB.out.size))
  clear hb s0 s1 hSp
  have s0 : w3.cell? ⟨w.heap.size, 0, none⟩ = some (.slice A n1 c) := kS.out.cell 0
  have s1 : w3.cell? ⟨w.heap.size, 1, none⟩ = some (.slice A2 n2 c2) := kS.out.cell 1
  have x0 : w3.cell? ⟨w.heap.size + 1, 0, none⟩ = some (.slice L k cl) := kX.out.cell 0
  have x1 : w3.cell? ⟨w.heap.size + 1, 1, none⟩ = some (.slice E m ce) := kX.out.cell 1
  have x3 : w3.cell? ⟨w.heap.size + 1, 3, none⟩ = some (.int .i64 ix) := kX.out.cell 3
  go_wp2_with fail
  refine (hV.out _ hB.out).mono ?_
  rintro e w4 ⟨rfl, hb⟩
  replace kS := hide ((kS.out.below hb kS.out.lt).alloc (.cells #[.int .i64 b0, .int .i64 b1] 32))
  replace kX := hide ((kX.out.below hb kX.out.lt).alloc (.cells #[.int .i64 b0, .int .i64 b1] 32))
  have k1 := hide (show Blk (w4.alloc (.cells #[.int .i64 b0, .int .i64 b1] 32)) w4.heap.size 32 #[.int .i64 b0, .int .i64 b1] from blkNew rfl)
  have hB4 := hB.out.trans (hb.mono hB.out.size)
  replace hB := hide (hB4.alloc hB4.size (.cells #[.int .i64 b0, .int .i64 b1] 32))
  clear hb s0 s1 x0 x1 x3 hV hB4
  have s0 : (w4.alloc (.cells #[.int .i64 b0, .int .i64 b1] 32)).cell? ⟨w.heap.size, 0, none⟩ = some (.slice A n1 c) := kS.out.cell 0
  have s1 : (w4.alloc (.cells #[.int .i64 b0, .int .i64 b1] 32)).cell? ⟨w.heap.size, 1, none⟩ = some (.slice A2 n2 c2) := kS.out.cell 1
  have x0 : (w4.alloc (.cells #[.int .i64 b0, .int .i64 b1] 32)).cell? ⟨w.heap.size + 1, 0, none⟩ = some (.slice L k cl) := kX.out.cell 0
  have x1 : (w4.alloc (.cells #[.int .i64 b0, .int .i64 b1] 32)).cell? ⟨w.heap.size + 1, 1, none⟩ = some (.slice E m ce) := kX.out.cell 1
  have x3 : (w4.alloc (.cells #[.int .i64 b0, .int .i64 b1] 32)).cell? ⟨w.heap.size + 1, 3, none⟩ = some (.int .i64 ix) := kX.out.cell 3
  go_wp2_with fail
  refine (hVR.out _ hB.out).mono ?_
  rintro e w5 ⟨rfl, hb⟩
  replace k1 := hide ((k1.out.below hb k1.out.lt).alloc (.cells #[.int .i64 b0, .int .i64 b1] 32))
  have k2 := hide (show Blk (w5.alloc (.cells #[.int .i64 b0, .int .i64 b1] 32)) w5.heap.size 32 #[.int .i64 b0, .int .i64 b1] from blkNew rfl)
  have hB4 := hB.out.trans (hb.mono hB.out.size)
  replace hB := hide (hB4.alloc hB4.size (.cells #[.int .i64 b0, .int .i64 b1] 32))
  clear hb s0 s1 x0 x1 x3 hVR hB4 kS kX
  have y0 : (w5.alloc (.cells #[.int .i64 b0, .int .i64 b1] 32)).cell? ⟨w4.heap.size, 0, none⟩ = some (.int .i64 b0) := k1.out.cell 0
  have y1 : (w5.alloc (.cells #[.int .i64 b0, .int .i64 b1] 32)).cell? ⟨w4.heap.size, 1, none⟩ = some (.int .i64 b1) := k1.out.cell 1
  have y2 : (w5.alloc (.cells #[.int .i64 b0, .int .i64 b1] 32)).cell? ⟨w5.heap.size, 0, none⟩ = some (.int .i64 b0) := k2.out.cell 0
  have y3 : (w5.alloc (.cells #[.int .i64 b0, .int .i64 b1] 32)).cell? ⟨w5.heap.size, 1, none⟩ = some (.int .i64 b1) := k2.out.cell 1
  have hn := heq.out
  go_wp2_with fail
  clear hn
  refine (AwakeS _).mono ?_
  rintro e w6 ⟨rfl, hb⟩
  replace hB := hide (hB.out.trans (hb.mono hB.out.size))
  clear hb y0 y1 y2 y3
  go_wp2
  go_ret
  exact ⟨rfl, hB.out⟩
end Go.Proofs.Ytkhijdbigpaagaa
