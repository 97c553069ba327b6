import Derived.Test.YtkmhldjebopljaaOt
import Derived.Maps.Views
/-
  The books of a school before all events (made by mkbknew.py).
-/
namespace Go.Proofs.Ytkmhldjebopljaa
open Go.RowKit RG

theorem mk_ints (n : Nat) (hn : n ≤ 1000) (w : World) :
    (Instr.makeSlice 40 (.int .i64 (n : Int)) (.int .i64 (n : Int))).run Try.prog w = .ok (.slice (some ⟨w.heap.size, 0, none⟩) n n) (w.alloc (.cells (Array.replicate n (.int .i64 0)) 3)) := by
  obtain ⟨i, hi, hz, hs, hb⟩ := info_parts infoInt
  have hr := run_make (P := Try.prog) w 40 3 i (.int .i64 0) Try.underlying40 hi hz .i64 .i64 n n (by omega) (by omega) (by rw [hb]; omega) (by omega)
  simp only [Int.toNat_natCast] at hr
  rw [hr, hs]
  have hm : madeCells (Value.int .i64 0).cells (n * 1) = Array.replicate n (.int .i64 0) := by
    apply Array.ext
    · simp [madeCells]
    · intro j h1 h2
      simp [madeCells, Value.cells, Nat.mod_one]
  rw [hm]
theorem rowAt_zeros {w : World} {X : Nat → Prop} {g n : Nat} (hb : Blk w g 3 (Array.replicate n (.int .i64 0))) (hX : ¬ X g) (hn : n ≤ 1000) : RowAt w X 3 1 (.slice (some ⟨g, 0, none⟩) n n) ((List.replicate n 0).map iCells) := by
  refine ⟨fun x hx => ?_, .inr ⟨g, n, _, by simp, hX, hb, by simp, by unfold maxLen; omega, by simp, ?_⟩⟩
  · obtain ⟨y, _, rfl⟩ := List.mem_map.1 hx; rfl
  · simp only [Array.toList_replicate, List.length_map, List.length_replicate, Nat.mul_one, List.take_replicate, Nat.min_self]
    rw [List.map_replicate]
    clear hn hb
    induction n with
    | zero => rfl
    | succ n ih => rw [List.replicate_succ, List.replicate_succ, List.flatten_cons, ← ih]; rfl
theorem mapW_new (w : World) : MapW (w.alloc (.map #[] 0)) w.heap.size [] :=
  ⟨0, .map [], Nat.le_refl _, World.ownsMap_made w _ _ _, fun _ _ => rfl⟩

section
variable {w : World} {X : Nat → Prop} {p : Nat} {L C T : Option Addr} {cl cc ct : Nat} {S : BSch} {vl vk vs va : Value} {mb : Nat} {vp : Value} {les km since acc pst : List (List Value)} {wt : List (Int × Int)} {tm ev : Int}
theorem Raw.putSince {v' : Value} {xs' : List (List Value)} (h : Raw w X p L C T cl cc ct S vl vk vs va mb vp les km since acc pst wt tm ev) (hr : RowAt w X 3 1 v' xs') (hk : ∀ g, vk.ownBlock = some g → v'.ownBlock ≠ some g) (ha : ∀ g, v'.ownBlock = some g → va.ownBlock ≠ some g) :
    Raw (w.setCell ⟨p, 9, none⟩ v') X p L C T cl cc ct S vl vk v' va mb vp les km xs' acc pst wt tm ev :=
  ⟨h.old.kept (KeptX.setCell w (p := ⟨p, 9, none⟩) h.px _), h.sch.kept (KeptX.setCell w (p := ⟨p, 9, none⟩) h.px _), h.px, h.mx, h.blk.set_ 9 _, h.les.far (h.les.nblk h.blk (by decide)) _, h.km.far (h.km.nblk h.blk (by decide)) _, hr.far (hr.nblk h.blk (by decide)) _, h.acc.far (h.acc.nblk h.blk (by decide)) _,
    h.map.blk (Below.heap_setCell _ _ _ _ (h.map.nblk h.blk)), h.pst.far (h.pst.nblk h.blk (by decide)) _, hk, h.ka, ha⟩
theorem Raw.putAcc {v' : Value} {xs' : List (List Value)} (h : Raw w X p L C T cl cc ct S vl vk vs va mb vp les km since acc pst wt tm ev) (hr : RowAt w X 3 1 v' xs') (hk : ∀ g, vk.ownBlock = some g → v'.ownBlock ≠ some g) (hs : ∀ g, vs.ownBlock = some g → v'.ownBlock ≠ some g) :
    Raw (w.setCell ⟨p, 10, none⟩ v') X p L C T cl cc ct S vl vk vs v' mb vp les km since xs' pst wt tm ev :=
  ⟨h.old.kept (KeptX.setCell w (p := ⟨p, 10, none⟩) h.px _), h.sch.kept (KeptX.setCell w (p := ⟨p, 10, none⟩) h.px _), h.px, h.mx, h.blk.set_ 10 _, h.les.far (h.les.nblk h.blk (by decide)) _, h.km.far (h.km.nblk h.blk (by decide)) _, h.since.far (h.since.nblk h.blk (by decide)) _, hr.far (hr.nblk h.blk (by decide)) _,
    h.map.blk (Below.heap_setCell _ _ _ _ (h.map.nblk h.blk)), h.pst.far (h.pst.nblk h.blk (by decide)) _, h.ks, hk, hs⟩
end

set_option maxRecDepth 100000 in
set_option maxHeartbeats 1000000 in
theorem newBooks_any (L C T : Option Addr) (cl cc ct : Nat) (S : BSch) (w : World) (h : SchRows w L C T cl cc ct S) (hS : SchGd S) :
    Calls Try.prog 70 #[.agg (schCells L C T cl cc ct S)] w fun e w' => ∃ p, e = .returned (.pointer (some ⟨p, 0, none⟩)) ∧ w.heap.size ≤ p ∧ Books w' (fun g => g < w.heap.size) p L C T cl cc ct S (startB S) 0 ∧ Below w.heap.size w w' := by
  obtain ⟨X, hX⟩ : ∃ X : Nat → Prop, (fun g => g < w.heap.size) = X := ⟨_, rfl⟩
  rw [hX]
  have hXi : ∀ g, X g ↔ g < w.heap.size := fun g => by rw [← hX]
  have hnl := hS.nl
  have hnc := hS.nc
  obtain ⟨bc, oc, rfl, -⟩ := car_cells h (j := 0) (by omega)
  -- the struct
  obtain ⟨W, hW⟩ : ∃ y, ((w.alloc (.cells (schCells L (some ⟨bc, oc, none⟩) T cl cc ct S) 28)).alloc (.map #[] 0)).alloc (.cells (bkCells L (some ⟨bc, oc, none⟩) T cl cc ct S (.slice none 0 0) (.slice none 0 0) (.slice none 0 0) (.slice none 0 0) (w.heap.size + 1) (.slice none 0 0) 0 0) 99) = y := ⟨_, rfl⟩
  obtain ⟨p, hp⟩ : ∃ p, w.heap.size + 1 + 1 = p := ⟨_, rfl⟩
  have hBW : Below w.heap.size w W := by rw [← hW]; exact (((Below.refl w.heap.size w).alloc (Nat.le_refl _) _).alloc (by simp) _).alloc (by simp +arith) _
  have hpb : Blk W p 99 (bkCells L (some ⟨bc, oc, none⟩) T cl cc ct S (.slice none 0 0) (.slice none 0 0) (.slice none 0 0) (.slice none 0 0) (w.heap.size + 1) (.slice none 0 0) 0 0) := by rw [← hW]; exact blkNew (by rw [← hp]; simp)
  have hmW : MapW W (w.heap.size + 1) [] := by
    have h1 := mapW_new (w.alloc (.cells (schCells L (some ⟨bc, oc, none⟩) T cl cc ct S) 28))
    rw [World.size_alloc] at h1
    rw [← hW]
    exact h1.blk (((Below.refl _ _).alloc (Nat.le_refl _) _).block _ h1.lt)
  have hk0 := hide (show Blk W w.heap.size 28 (schCells L (some ⟨bc, oc, none⟩) T cl cc ct S) by rw [← hW]; exact ((blkNew rfl).alloc _).alloc _)
  have hraw : Raw W X p L (some ⟨bc, oc, none⟩) T cl cc ct S (.slice none 0 0) (.slice none 0 0) (.slice none 0 0) (.slice none 0 0) (w.heap.size + 1) (.slice none 0 0) [] [] [] [] [] [] 0 0 := by
    have nil : ∀ e k, RowAt W X e k (.slice none 0 0) [] := fun e k => ⟨fun _ hx => (by cases hx), .inl ⟨rfl, rfl⟩⟩
    exact ⟨fun g hg => Nat.lt_of_lt_of_le ((hXi g).1 hg) hBW.size, ⟨w, h, fun g hg => (hXi g).2 hg, hBW⟩, fun hx => by have := (hXi p).1 hx; omega, fun hx => by have := (hXi _).1 hx; omega, hpb, nil _ _, nil _ _, nil _ _, nil _ _, hmW, nil _ _, fun g hg => by simp [Value.ownBlock] at hg, fun g hg => by simp [Value.ownBlock] at hg, fun g hg => by simp [Value.ownBlock] at hg⟩
  have hkm := hide (fun j (hj : j < S.cars.length) => show S.cars.take (j + 1) = S.cars.take j ++ [S.cars[j]?.getD default] by rw [List.take_succ_eq_append_getElem hj, List.getElem?_eq_getElem hj]; rfl)
  have hcar := hide (fun V (hb : Below w.heap.size w V) j (hj : j < S.cars.length) => show ∃ nm, V.cell? ⟨bc, oc + j * 4, none⟩ = some (.string nm) ∧ V.cell? ⟨bc, oc + j * 4 + 1, none⟩ = some (.int .i64 (S.cars[j]?.getD default).km) ∧ V.cell? ⟨bc, oc + j * 4 + 2, none⟩ = some (.int .i64 (S.cars[j]?.getD default).every) ∧ V.cell? ⟨bc, oc + j * 4 + 3, none⟩ = some (.int .i64 (S.cars[j]?.getD default).never) from by
    obtain ⟨b', o', e', hlt, k1, k2, k3⟩ := car_cells (h.below hb) hj
    have e2 : bc = b' ∧ oc = o' := by injection e' with e'; injection e' with e1 e2; exact ⟨e1, e2⟩
    obtain ⟨rfl, rfl⟩ := e2
    obtain ⟨b', o', e', _, hc⟩ := (h.below hb).cn.2.2 (by omega)
    have e2 : bc = b' ∧ oc = o' := by injection e' with e'; injection e' with e1 e2; exact ⟨e1, e2⟩
    obtain ⟨rfl, rfl⟩ := e2
    exact ⟨_, hc j 0 _ (by rw [map_at carCells S.cars j hj]; rfl), k1, k2, k3⟩)
  have hpz : p < W.heap.size := hpb.lt
  have hpw : w.heap.size ≤ p := by omega
  have q1 : W.cell? ⟨w.heap.size, 1, none⟩ = some (.slice (some ⟨bc, oc, none⟩) S.cars.length cc) := hk0.out.cell 1
  replace hraw := hide hraw
  replace hBW := hide hBW
  replace hXi := hide hXi
  replace hS := hide hS
  have hst : startB S = ⟨[], S.cars.map BCar.km, S.cars.map fun _ => 0, List.replicate (S.learners.length + 4) 0, [], [], 0⟩ := rfl
  replace hst := hide hst
  unfold schCells bkCells at *
  generalize hnc' : S.cars.length = nc at *
  replace hnc' := hide hnc'
  replace hW := hide hW
  clear h hpb hmW hX
  go_enter Try.func70, Try.ntmps70
  have hmk : ∀ V : World, (Instr.makeMap 97 none).run Try.prog V = .ok (.map (some V.heap.size)) (V.alloc (.map #[] 0)) := fun _ => rfl
  go_upto_region 2 with fail
  rw [hW.out]
  replace hp := hide hp
  clear hmk
  go_wp2
  go_loopg [13] (nc + 1) (fun gg s13 wr => ∃ (j : Nat) (vk : Value), j ≤ nc ∧ nc < gg + j ∧ s13 = .int .i64 j ∧ Hid (Raw wr X p L (some ⟨bc, oc, none⟩) T cl cc ct S (.slice none 0 0) vk (.slice none 0 0) (.slice none 0 0) (w.heap.size + 1) (.slice none 0 0) [] (((S.cars.take j).map BCar.km).map iCells) [] [] [] [] 0 0) ∧ Hid (Below w.heap.size w wr) ∧
    Hid (Blk wr w.heap.size 28 #[.slice L S.learners.length cl, .slice (some ⟨bc, oc, none⟩) nc cc, .int .i64 S.price, .int .i64 S.excess, .int .i64 S.lo, .int .i64 S.hi, .slice T S.terms.length ct]))
  case atStart => exact ⟨0, .slice none 0 0, Nat.zero_le _, by omega, rfl, by unfold Hid; simpa using hraw.out, hBW.out, hk0.out⟩
  case round =>
    clear q1
    obtain ⟨j, vk, hj, hgg, rfl, hr, hBr, kr⟩ := hrel
    by_cases hlt : j < nc
    · have hltz : (j : Int) < (nc : Int) := by omega
      obtain ⟨nm, c0, c1, c2, c3⟩ := hcar.out wr hBr.out j hlt
      have hkj := hide (hkm.out j hlt)
      generalize hcv : S.cars[j]?.getD default = cv at *
      obtain ⟨cnm, kmv, cev, cne⟩ := cv
      simp only at c1 c2 c3
      obtain ⟨w6, hw6⟩ : ∃ y, wr.alloc (.cells #[.string nm, .int .i64 kmv, .int .i64 cev, .int .i64 cne] 67) = y := ⟨_, rfl⟩
      have hB6 := hide (show Below w.heap.size w w6 by rw [← hw6]; exact hBr.out.alloc hBr.out.size _)
      have kr6 := hide (show Blk w6 w.heap.size 28 _ by rw [← hw6]; exact kr.out.alloc _)
      have kc6 := hide (show Blk w6 wr.heap.size 67 #[.string nm, .int .i64 kmv, .int .i64 cev, .int .i64 cne] by rw [← hw6]; exact blkNew rfl)
      have hr6 : Raw w6 X p L (some ⟨bc, oc, none⟩) T cl cc ct S (.slice none 0 0) vk (.slice none 0 0) (.slice none 0 0) (w.heap.size + 1) (.slice none 0 0) [] (((S.cars.take j).map BCar.km).map iCells) [] [] [] [] 0 0 := by rw [← hw6]; exact hr.out.alloc _
      obtain ⟨i0, hi, hz0, hz1, hz2⟩ := info_parts infoInt
      have hrow := hr6.km.own
      have hlj : (((S.cars.take j).map BCar.km).map iCells).length = j := by simp; rw [hnc'.out]; omega
      rw [hlj] at hrow
      obtain ⟨v', w8, hrun, hown, hgrow, -, hat⟩ := run_append_own_at (P := Try.prog) (w6.drew.alloc (.cells #[.int .i64 kmv] 3)) 0 40 40 3 i0 _ 1 8 Try.underlying40 hi hz0 hz1 hz2 rfl (by decide)
        vk j (((S.cars.take j).map BCar.km).map iCells).flatten (World.ownsRow.alloc hrow _) ⟨w6.heap.size, 0, none⟩ 1 1 [.int .i64 kmv] rfl
        (by
          intro j u hj
          match j, hj with
          | 0, hj => cases hj; exact World.cell?_alloc_new _ _ _ 0)
        (by intro u hu; simp only [List.mem_cons, List.not_mem_nil, or_false] at hu; rw [hu]; rfl) (by unfold maxLen; omega) (by omega) (Nat.zero_le _)
      obtain ⟨gn, capn, rfl⟩ : ∃ g c, v' = .slice (some ⟨g, 0, none⟩) (j + 1) c := by
        rcases hown.2 with ⟨_, h'⟩ | ⟨g, cp, cur, e, _⟩
        · omega
        · exact ⟨g, cp, e⟩
      have hra := Raw.alloc (Raw.below hr6 (Below.refl _ _).drew) (.cells #[.int .i64 kmv] 3)
      have hkA := (Below.refl w6.heap.size w6).drew.alloc (Nat.le_refl _) (.cells #[.int .i64 kmv] 3)
      obtain ⟨wa, hwa⟩ : ∃ x, w6.drew.alloc (.cells #[.int .i64 kmv] 3) = x := ⟨_, rfl⟩
      rw [hwa] at hra hrun hgrow hat hkA
      have hG : Grew wa w8 vk (.slice (some ⟨gn, 0, none⟩) (j + 1) capn) := ⟨hgrow, by rcases hat with h' | h'; exact .inl h'; exact .inr ⟨_, h', Nat.le_refl _⟩⟩
      have hrow4 : RowAt w8 X 3 1 (.slice (some ⟨gn, 0, none⟩) (j + 1) capn) (((S.cars.take (j + 1)).map BCar.km).map iCells) := by
        rw [hkj.out]
        refine rowAt_of ?_ ?_ ?_
        · intro x hx
          obtain ⟨q, _, rfl⟩ := List.mem_map.1 hx
          rfl
        · rw [List.map_append, List.map_append, List.length_append, hlj, List.flatten_append]
          exact hown
        · intro g hg hX
          rcases hat with h' | h'
          · exact hra.km.not g (by rw [← h']; exact hg) hX
          · rw [hg] at h'; cases h'; exact absurd (hra.old _ hX) (Nat.lt_irrefl _)
      have hfin := hide (Raw.newKm hra hG hrow4)
      have hkX := (hG.keptX hra.old hra.km.not).trans (KeptX.setCell w8 (p := ⟨p, 8, none⟩) hra.px (.slice (some ⟨gn, 0, none⟩) (j + 1) capn))
      have hBF := hide (show Below w.heap.size w (w8.setCell ⟨p, 8, none⟩ (.slice (some ⟨gn, 0, none⟩) (j + 1) capn)) from hB6.out.trans ((hkA.mono hB6.out.size).trans (KeptX.below (hkX.mono (fun g hg => (hXi.out g).2 hg)))))
      have hp0 : w6.cell? ⟨p, 8, none⟩ = some vk := hr6.blk.cell 8
      have hb8 : Blk w8 p 99 _ := hG.blk hra.blk (hra.km.nblk hra.blk (by decide))
      have hpa : wa.cell? ⟨p, 8, none⟩ = some vk := hra.blk.cell 8
      have hz8 : w8.frozen? ⟨p, 8, none⟩ = false := hb8.frozen 8
      have hc8 : w8.cell? ⟨p, 8, none⟩ = some vk := hb8.cell 8
      have hkS := hide (show Blk (w8.setCell ⟨p, 8, none⟩ (.slice (some ⟨gn, 0, none⟩) (j + 1) capn)) w.heap.size 28 #[.slice L S.learners.length cl, .slice (some ⟨bc, oc, none⟩) nc cc, .int .i64 S.price, .int .i64 S.excess, .int .i64 S.lo, .int .i64 S.hi, .slice T S.terms.length ct] from by
        have h1 := Blk.alloc (w := w6.drew) kr6.out (.cells #[.int .i64 kmv] 3)
        rw [hwa] at h1
        exact (hG.blk h1 (hra.km.nblk h1 (by decide))).far (p := ⟨p, 8, none⟩) (by show w.heap.size ≠ p; have := hp.out; omega) _)
      have hpc := hide (show ∀ jj, jj ≤ 1 → (wsC w6.drew [wa, w8, w8.setCell ⟨p, 8, none⟩ (.slice (some ⟨gn, 0, none⟩) (j + 1) capn)] jj).cell? ⟨p, 8, none⟩ = some vk from by
        intro jj hj
        rcases (show jj = 0 ∨ jj = 1 by omega) with rfl | rfl
        · exact hp0
        · exact hpa)
      have hpl := hide (show ∀ jj, jj ≤ 0 → (wsC w6.drew [wa, w8, w8.setCell ⟨p, 8, none⟩ (.slice (some ⟨gn, 0, none⟩) (j + 1) capn)] jj).cell? ⟨wr.heap.size, 1, none⟩ = some (.int .i64 kmv) from by
        intro jj hj
        obtain rfl : jj = 0 := by omega
        exact kc6.out.cell 1)
      replace hrun := hide hrun
      replace hwa := hide hwa
      replace hw6 := hide hw6
      have hjl := hide hlt
      clear hG hrow4 hgrow hat hown hrow hi hz0 hz1 hz2 hra hkA hr6 hb8 hpa hkX hlj hr kr hBr hB6 kr6 kc6 hcv hkj
      go_upto_region 5 with fail
      rw [hw6.out]
      clear c0 c1 c2 c3
      refine region_chain [8, 9, 13] [.pointer (some ⟨p, 0, none⟩), .pointer (some ⟨p, 0, none⟩), .pointer (some ⟨p, 0, none⟩), .pointer (some ⟨p, 7, none⟩), .pointer (some ⟨p, 8, none⟩), vk, .pointer (some ⟨wr.heap.size, 1, none⟩), .int .i64 kmv, .slice (some ⟨w6.heap.size, 0, none⟩) 1 1, (.slice (some ⟨gn, 0, none⟩) (j + 1) capn), .pointer (some ⟨p, 0, none⟩), .pointer (some ⟨p, 7, none⟩), .pointer (some ⟨p, 8, none⟩), undef] (wsC w6.drew [wa, w8, (w8.setCell ⟨p, 8, none⟩ (.slice (some ⟨gn, 0, none⟩) (j + 1) capn))]) (by kernel_rfl) (by kernel_rfl) (by kernel_rfl) (by kernel_rfl) rfl ?_ ?_
      · refine ⟨?_, ?_, ?_, ?_, ?_, ?_, ?_, ?_, ?_, ?_, ?_, ?_, ?_, ?_, trivial⟩
        · refine oneC_still 3 (by kernel_rfl) (by kernel_rfl) ?_
          intro y jj K Q hd hj hK
          generalize wsC w6.drew [wa, w8, (w8.setCell ⟨p, 8, none⟩ (.slice (some ⟨gn, 0, none⟩) (j + 1) capn))] jj = W at *
          clear hd
          revert hK
          simp only [putAll, Act.put]
          go_simp
        · refine oneC_still 3 (by kernel_rfl) (by kernel_rfl) ?_
          intro y jj K Q hd hj hK
          generalize wsC w6.drew [wa, w8, (w8.setCell ⟨p, 8, none⟩ (.slice (some ⟨gn, 0, none⟩) (j + 1) capn))] jj = W at *
          clear hd
          revert hK
          simp only [putAll, Act.put]
          go_simp
        · refine oneC_still 3 (by kernel_rfl) (by kernel_rfl) ?_
          intro y jj K Q hd hj hK
          generalize wsC w6.drew [wa, w8, (w8.setCell ⟨p, 8, none⟩ (.slice (some ⟨gn, 0, none⟩) (j + 1) capn))] jj = W at *
          simp [depsC, Region.binds] at hd
          revert hK
          simp only [putAll, Act.put]
          go_simp
        · refine oneC_still 3 (by kernel_rfl) (by kernel_rfl) ?_
          intro y jj K Q hd hj hK
          generalize wsC w6.drew [wa, w8, (w8.setCell ⟨p, 8, none⟩ (.slice (some ⟨gn, 0, none⟩) (j + 1) capn))] jj = W at *
          simp [depsC, Region.binds] at hd
          revert hK
          simp only [putAll, Act.put]
          go_simp
        · refine oneC_still 3 (by kernel_rfl) (by kernel_rfl) ?_
          intro y jj K Q hd hj hK
          generalize wsC w6.drew [wa, w8, (w8.setCell ⟨p, 8, none⟩ (.slice (some ⟨gn, 0, none⟩) (j + 1) capn))] jj = W at *
          simp [depsC, Region.binds] at hd
          revert hK
          simp only [putAll, Act.put]
          go_simp
        · refine oneC_still 1 (by kernel_rfl) (by kernel_rfl) ?_
          intro y jj K Q hd hj hK
          have a2 := hpc.out jj (Nat.le_trans hj (by decide))
          generalize wsC w6.drew [wa, w8, (w8.setCell ⟨p, 8, none⟩ (.slice (some ⟨gn, 0, none⟩) (j + 1) capn))] jj = W at *
          simp [depsC, Region.binds] at hd
          revert hK
          simp only [putAll, Act.put]
          go_simp
        · refine oneC_still 3 (by kernel_rfl) (by kernel_rfl) ?_
          intro y jj K Q hd hj hK
          generalize wsC w6.drew [wa, w8, (w8.setCell ⟨p, 8, none⟩ (.slice (some ⟨gn, 0, none⟩) (j + 1) capn))] jj = W at *
          clear hd
          revert hK
          simp only [putAll, Act.put]
          go_simp
        · refine oneC_still 0 (by kernel_rfl) (by kernel_rfl) ?_
          intro y jj K Q hd hj hK
          have b0 := hpl.out jj hj
          generalize wsC w6.drew [wa, w8, (w8.setCell ⟨p, 8, none⟩ (.slice (some ⟨gn, 0, none⟩) (j + 1) capn))] jj = W at *
          simp [depsC, Region.binds] at hd
          revert hK
          simp only [putAll, Act.put]
          go_simp
        · refine oneC_eff 0 rfl ?_
          intro y K Q hd hK
          simp [depsC, Region.binds] at hd
          revert hK
          simp only [wsC, ← hwa.out]
          simp only [putAll, Act.put]
          go_simp
        · refine oneC_eff 1 rfl (eff_append rfl (.tmp 22) (.tmp 25) 40 rfl (vk) (.slice (some ⟨w6.heap.size, 0, none⟩) 1 1) ?_ ?_ hrun.out)
          · intro y hd
            simp [depsC, Region.binds] at hd
            simp only [putAll, Act.put]
            go_simp
            try exact hd.1
          · intro y hd
            simp [depsC, Region.binds] at hd
            simp only [putAll, Act.put]
            go_simp
            try exact hd.2
        · refine oneC_still 3 (by kernel_rfl) (by kernel_rfl) ?_
          intro y jj K Q hd hj hK
          generalize wsC w6.drew [wa, w8, (w8.setCell ⟨p, 8, none⟩ (.slice (some ⟨gn, 0, none⟩) (j + 1) capn))] jj = W at *
          simp [depsC, Region.binds] at hd
          revert hK
          simp only [putAll, Act.put]
          go_simp
        · refine oneC_still 3 (by kernel_rfl) (by kernel_rfl) ?_
          intro y jj K Q hd hj hK
          generalize wsC w6.drew [wa, w8, (w8.setCell ⟨p, 8, none⟩ (.slice (some ⟨gn, 0, none⟩) (j + 1) capn))] jj = W at *
          simp [depsC, Region.binds] at hd
          revert hK
          simp only [putAll, Act.put]
          go_simp
        · refine oneC_still 3 (by kernel_rfl) (by kernel_rfl) ?_
          intro y jj K Q hd hj hK
          generalize wsC w6.drew [wa, w8, (w8.setCell ⟨p, 8, none⟩ (.slice (some ⟨gn, 0, none⟩) (j + 1) capn))] jj = W at *
          simp [depsC, Region.binds] at hd
          revert hK
          simp only [putAll, Act.put]
          go_simp
        · refine oneC_eff 2 rfl ?_
          intro y K Q hd hK
          simp [depsC, Region.binds] at hd
          revert hK
          simp only [wsC]
          simp only [putAll, Act.put]
          go_simp
      · simp only [putAll, Act.put, wsC, List.length_cons, List.length_nil]
        simp only [List.setIfInBounds_toArray, List.set_cons_succ, List.set_cons_zero, List.getD_cons_zero, List.getD_cons_succ]
        clear hrun hwa hpc hpl hc8 hz8 hp0
        go_wp2
        go_roundg (nc - j)
        case measure => have := hjl.out; omega
        case rel => exact ⟨j + 1, _, hjl.out, by have := hjl.out; omega, by have := hjl.out; go_num, hfin.out, hBF.out, hkS.out⟩
    · obtain rfl : j = nc := by omega
      have hltz : ¬ (j : Int) < (j : Int) := by omega
      have hta : S.cars.take j = S.cars := by rw [← hnc'.out, List.take_length]
      rw [hta] at hr
      have q1 : wr.cell? ⟨w.heap.size, 1, none⟩ = some (.slice (some ⟨bc, oc, none⟩) j cc) := kr.out.cell 1
      have s9 : wr.cell? ⟨p, 9, none⟩ = some (.slice none 0 0) := hr.out.blk.cell 9
      have f9 : wr.frozen? ⟨p, 9, none⟩ = false := hr.out.blk.frozen 9
      have hm1 := mk_ints j (by omega) wr
      have hpr : p < wr.heap.size := hr.out.blk.lt
      have hpn : p ≠ wr.heap.size := Nat.ne_of_lt hpr
      have hnX : ∀ k, w.heap.size ≤ k → ¬ X k := fun k hk hx => by have := (hXi.out k).1 hx; omega
      obtain ⟨W1, hW1⟩ : ∃ y, (wr.setCell ⟨p, 9, none⟩ (.slice (some ⟨wr.heap.size, 0, none⟩) j j)).alloc (.cells (Array.replicate j (.int .i64 0)) 3) = y := ⟨_, rfl⟩
      have hW1' := hW1
      rw [← World.setCell_alloc_past _ _ _ _ hpr] at hW1'
      have hr1 : Raw W1 X p L (some ⟨bc, oc, none⟩) T cl cc ct S (.slice none 0 0) vk (.slice (some ⟨wr.heap.size, 0, none⟩) j j) (.slice none 0 0) (w.heap.size + 1) (.slice none 0 0) [] ((S.cars.map BCar.km).map iCells) ((List.replicate j 0).map iCells) [] [] [] 0 0 := by
        rw [← hW1']
        refine Raw.putSince (hr.out.alloc _) (rowAt_zeros (blkNew rfl) (hnX _ hBr.out.size) (by omega)) (fun g hg => ?_) (fun g _ => by simp [Value.ownBlock])
        have := hr.out.km.lt hg
        simp only [Value.ownBlock, ne_eq, Option.some.injEq]
        omega
      have hB1 := hide (show Below w.heap.size w W1 by rw [← hW1']; exact (hBr.out.alloc hBr.out.size _).setCell (p := ⟨p, 9, none⟩) hpw _)
      have kr1 := hide (show Blk W1 w.heap.size 28 _ by rw [← hW1']; exact (kr.out.alloc _).far (p := ⟨p, 9, none⟩) (by show w.heap.size ≠ p; have := hp.out; omega) _)
      have q0 : W1.cell? ⟨w.heap.size, 0, none⟩ = some (.slice L S.learners.length cl) := kr1.out.cell 0
      have s10 : W1.cell? ⟨p, 10, none⟩ = some (.slice none 0 0) := hr1.blk.cell 10
      have f10 : W1.frozen? ⟨p, 10, none⟩ = false := hr1.blk.frozen 10
      obtain ⟨na, hna⟩ : ∃ na, S.learners.length + 4 = na := ⟨_, rfl⟩
      have hm2 := mk_ints na (by omega) W1
      have hwa : IntKind.i64.wrap ((S.learners.length : Int) + 4) = (na : Int) := by rw [IntKind.wrap_i64]; omega
      have hp1 : p < W1.heap.size := hr1.blk.lt
      have hp2 : p ≠ W1.heap.size := Nat.ne_of_lt hp1
      obtain ⟨W2, hW2⟩ : ∃ y, (W1.setCell ⟨p, 10, none⟩ (.slice (some ⟨W1.heap.size, 0, none⟩) na na)).alloc (.cells (Array.replicate na (.int .i64 0)) 3) = y := ⟨_, rfl⟩
      have hW2' := hW2
      rw [← World.setCell_alloc_past _ _ _ _ hp1] at hW2'
      have hr2 : Raw W2 X p L (some ⟨bc, oc, none⟩) T cl cc ct S (.slice none 0 0) vk (.slice (some ⟨wr.heap.size, 0, none⟩) j j) (.slice (some ⟨W1.heap.size, 0, none⟩) na na) (w.heap.size + 1) (.slice none 0 0) [] ((S.cars.map BCar.km).map iCells) ((List.replicate j 0).map iCells) ((List.replicate na 0).map iCells) [] [] 0 0 := by
        rw [← hW2']
        refine Raw.putAcc (hr1.alloc _) (rowAt_zeros (blkNew rfl) (hnX _ hB1.out.size) (by omega)) (fun g hg => ?_) (fun g hg => ?_)
        · have := hr1.km.lt hg
          simp only [Value.ownBlock, ne_eq, Option.some.injEq]
          omega
        · have := hr1.since.lt hg
          simp only [Value.ownBlock, ne_eq, Option.some.injEq]
          omega
      have hB2 := hide (show Below w.heap.size w W2 by rw [← hW2']; exact (hB1.out.alloc hB1.out.size _).setCell (p := ⟨p, 10, none⟩) hpw _)
      have hbk := hide (show Books W2 X p L (some ⟨bc, oc, none⟩) T cl cc ct S (startB S) 0 from by
        have e1 : (S.cars.map fun _ => (0 : Int)) = List.replicate j 0 := by rw [List.map_const', hnc'.out]
        have e2 : RawB W2 X p L (some ⟨bc, oc, none⟩) T cl cc ct S (.slice none 0 0) vk (.slice (some ⟨wr.heap.size, 0, none⟩) j j) (.slice (some ⟨W1.heap.size, 0, none⟩) na na) (w.heap.size + 1) (.slice none 0 0) (startB S) 0 := by
          rw [hst.out]
          unfold RawB
          simp only [e1, hna]
          exact hr2
        exact ⟨_, _, _, _, _, _, e2⟩)
      replace hW1 := hide hW1
      replace hW2 := hide hW2
      replace hna := hide hna
      clear hW1' hW2' hr hr1 hr2 hBr kr kr1 hB1 hnX hta
      go_upto_region 8 with fail
      rw [hW1.out]
      clear s9 f9 hm1 q1
      go_upto_region 9 with fail
      rw [hW2.out]
      clear s10 f10 hm2 q0
      go_wp2
      go_ret
      exact ⟨p, rfl, hpw, hbk.out, hB2.out⟩
end Go.Proofs.Ytkmhldjebopljaa

/-
  Schools without an error are good; the books after some events.
-/
namespace Go.Proofs.Ytkmhldjebopljaa
open Go.RowKit RG

theorem sch_gd {S : BSch} (h : (checkB S).2.2 = 0) : SchGd S := by
  obtain ⟨h1, _, h3, _⟩ := check_parts h
  have hn := num_ok h1
  refine ⟨sch_ok h, hn.1, hn.2.1, by omega, fun c hc => ?_⟩
  obtain ⟨i, hi, rfl⟩ := List.getElem_of_mem hc
  have := firstErr_zero h3 i (Nat.zero_le _) (by omega)
  rw [List.getElem?_eq_getElem hi, Option.getD_some] at this
  unfold carE at this
  split at this
  · split at this
    · rename_i h5
      simp only [inB_iff] at h5
      exact h5
    · cases this
  · rename_i h5; exact absurd this h5
theorem run_lim {S : BSch} (hS : SchOk S) : ∀ (es : List BEv) {n : Int} {k : Nat} {b : Bks}, 0 ≤ n → BksOk S n b → BksLim k b → BksLim (k + es.length) (runB S es n b).2
  | [], n, k, b, _, _, h => h
  | e :: es, n, k, b, hn, hok, h => by
    have := run_lim hS es (n := n + 1) (k := k + 1) (by omega) (tell_ok hS hn hok e) (tell_lim hS hok h n e)
    rw [List.length_cons, show k + (es.length + 1) = k + 1 + es.length by omega]
    exact this
/-- The books after the first j events. -/
def bk (S : BSch) (es : List BEv) (j : Nat) : Bks := (runB S (es.take j) 0 (startB S)).2
def er (S : BSch) (es : List BEv) (j : Nat) : List Int := (runB S (es.take j) 0 (startB S)).1
theorem bk_succ (S : BSch) (es : List BEv) {j : Nat} (hj : j < es.length) : bk S es (j + 1) = (tellB S (bk S es j) j (es[j]?.getD default)).2 ∧ er S es (j + 1) = er S es j ++ [(tellB S (bk S es j) j (es[j]?.getD default)).1] := by
  unfold bk er
  rw [List.take_succ_eq_append_getElem hj, run_append, List.getElem?_eq_getElem hj, Option.getD_some]
  have e1 : (0 : Int) + ((es.take j).length : Int) = (j : Int) := by rw [List.length_take]; omega
  rw [e1]
  exact ⟨rfl, rfl⟩
theorem er_len (S : BSch) (es : List BEv) {j : Nat} (hj : j ≤ es.length) : (er S es j).length = j := by
  unfold er
  rw [run_len, List.length_take]
  omega
theorem bk_gd {S : BSch} (hS : SchGd S) (es : List BEv) {j : Nat} (hj : j ≤ 60) : Gd S (bk S es j) ∧ (bk S es j).wt.length ≤ 60 := by
  have h0 : BksLim 0 (startB S) := start_lim fun c hc => (hS.cars c hc).1
  have h1 := run_ok hS.ok (es.take j) (Int.le_refl 0) (start_ok S)
  have h2 := run_lim hS.ok (es.take j) (Int.le_refl 0) (start_ok S) h0
  have hl : 0 + (es.take j).length ≤ 60 := by rw [List.length_take]; omega
  exact ⟨gd_of h1.1 h2 (by omega), Nat.le_trans h2.wt hl⟩
/-- The refusals after the first j of n events, in memory. -/
def refC (xs : List Int) (n : Nat) : Array Value := (xs.map (Value.int .i64) ++ List.replicate (n - xs.length) (Value.int .i64 0)).toArray
theorem refC_set {xs : List Int} {n : Nat} (h : xs.length < n) (x : Int) : (refC xs n).setIfInBounds xs.length (.int .i64 x) = refC (xs ++ [x]) n := by
  unfold refC
  rw [List.setIfInBounds_toArray, List.set_append_right _ _ (by simp)]
  congr 1
  simp only [List.length_map, Nat.sub_self, List.map_append, List.map_cons, List.map_nil, List.length_append, List.length_cons, List.length_nil]
  rw [show n - xs.length = (n - (xs.length + (0 + 1))) + 1 by omega, List.replicate_succ]
  simp
theorem refC_nil (n : Nat) : refC [] n = Array.replicate n (.int .i64 0) := by unfold refC; simp
theorem infoErr : (Try.prog.info? 30).map (fun i => (i.zero, i.size, i.bytes)) = some (some (.int .i64 0), 1, 8) := by kernel_rfl
theorem mk_errs (n : Nat) (hn : n ≤ 1000) (w : World) :
    (Instr.makeSlice 38 (.int .i64 (n : Int)) (.int .i64 (n : Int))).run Try.prog w = .ok (.slice (some ⟨w.heap.size, 0, none⟩) n n) (w.alloc (.cells (Array.replicate n (.int .i64 0)) 30)) := by
  obtain ⟨i, hi, hz, hs, hb⟩ := info_parts infoErr
  have hr := run_make (P := Try.prog) w 38 30 i (.int .i64 0) Try.underlying38 hi hz .i64 .i64 n n (by omega) (by omega) (by rw [hb]; omega) (by omega)
  simp only [Int.toNat_natCast] at hr
  rw [hr, hs]
  have hm : madeCells (Value.int .i64 0).cells (n * 1) = Array.replicate n (.int .i64 0) := by
    apply Array.ext
    · simp [madeCells]
    · intro j h1 h2
      simp [madeCells, Value.cells, Nat.mod_one]
  rw [hm]
theorem ev_row {w : World} {A : Option Addr} {es : List BEv} (h : RdRow w A es.length 11 (es.map evCells)) {j : Nat} (hj : j < es.length) : ∃ b off, A = some ⟨b, off, none⟩ ∧ b < w.heap.size ∧
    (w.cell? ⟨b, off + j * 11, none⟩ = some (.int .i64 (es[j]?.getD default).kind) ∧ w.cell? ⟨b, off + j * 11 + 1, none⟩ = some (.int .i64 (es[j]?.getD default).at_) ∧ w.cell? ⟨b, off + j * 11 + 2, none⟩ = some (.int .i64 (es[j]?.getD default).learner) ∧ w.cell? ⟨b, off + j * 11 + 3, none⟩ = some (.int .i64 (es[j]?.getD default).car) ∧
    w.cell? ⟨b, off + j * 11 + 4, none⟩ = some (.int .i64 (es[j]?.getD default).booking) ∧ w.cell? ⟨b, off + j * 11 + 5, none⟩ = some (.int .i64 (es[j]?.getD default).start) ∧ w.cell? ⟨b, off + j * 11 + 6, none⟩ = some (.int .i64 (es[j]?.getD default).hours) ∧ w.cell? ⟨b, off + j * 11 + 7, none⟩ = some (.int .i64 (es[j]?.getD default).day) ∧
    w.cell? ⟨b, off + j * 11 + 8, none⟩ = some (.int .i64 (es[j]?.getD default).weather) ∧ w.cell? ⟨b, off + j * 11 + 9, none⟩ = some (.int .i64 (es[j]?.getD default).km) ∧ w.cell? ⟨b, off + j * 11 + 10, none⟩ = some (.int .i64 (es[j]?.getD default).cents)) := by
  obtain ⟨b, off, e, hb, hc⟩ := h.2.2 (by omega)
  have k : ∀ i u, (evCells (es[j]?.getD default))[i]? = some u → w.cell? ⟨b, off + j * 11 + i, none⟩ = some u := fun i u hu => hc j i u (by rw [map_at evCells es j hj]; exact hu)
  exact ⟨b, off, e, hb, k 0 _ rfl, k 1 _ rfl, k 2 _ rfl, k 3 _ rfl, k 4 _ rfl, k 5 _ rfl, k 6 _ rfl, k 7 _ rfl, k 8 _ rfl, k 9 _ rfl, k 10 _ rfl⟩
end Go.Proofs.Ytkmhldjebopljaa

/-
  The books of a school after events, and how each of them went.
-/
namespace Go.Proofs.Ytkmhldjebopljaa
open Go.RowKit RG

/-- What open returns. -/
def OpenR (w : World) (S : BSch) (es : List BEv) (e : Ending) (w' : World) : Prop :=
  if (checkB S).2.2 ≠ 0 then e = .returned (.tuple #[.pointer none, .slice none 0 0, .int .i64 (checkB S).2.2])
  else if 60 < es.length then e = .returned (.tuple #[.pointer none, .slice none 0 0, .int .i64 3])
  else ∃ p g X L C T cl cc ct ev, e = .returned (.tuple #[.pointer (some ⟨p, 0, none⟩), .slice (some ⟨g, 0, none⟩) es.length es.length, .int .i64 0]) ∧ w.heap.size ≤ p ∧ w.heap.size ≤ g ∧ X g ∧ (∀ k, k < w.heap.size → X k) ∧ Books w' X p L C T cl cc ct S (runB S es 0 (startB S)).2 ev ∧ Blk w' g 30 (refC (runB S es 0 (startB S)).1 es.length)

set_option maxRecDepth 100000 in
set_option maxHeartbeats 1500000 in
theorem open_any (v : Value) (S : BSch) (A : Option Addr) (c : Nat) (es : List BEv) (w : World) (h : RdBSch w v S) (hE : RdRow w A es.length 11 (es.map evCells)) (hm : es.length ≤ maxLen) :
    Calls Try.prog 53 #[v, .slice A es.length c] w fun e w' => OpenR w S es e w' ∧ Below w.heap.size w w' := by
  obtain ⟨L, C, T, cl, cc, ct, rfl, hrows⟩ := h
  have hck := hide (fun V (hb : Below w.heap.size w V) => Check_any (.agg (schCells L C T cl cc ct S)) S V ⟨L, C, T, cl, cc, ct, rfl, hrows.below hb⟩)
  have hgd := hide (fun (hk : (checkB S).2.2 = 0) => sch_gd hk)
  have hnb := hide (fun V (hb : Below w.heap.size w V) (hk : (checkB S).2.2 = 0) => newBooks_any L C T cl cc ct S V (hrows.below hb) (sch_gd hk))
  have hrow := hide (fun V (hb : Below w.heap.size w V) j (hj : j < es.length) => ev_row (hE.below hb) hj)
  obtain ⟨qa, qb, qc, hq⟩ : ∃ qa qb qc, checkB S = (qa, qb, qc) := ⟨_, _, _, rfl⟩
  rw [hq] at hck hgd hnb
  simp only at hck hgd hnb
  have hm63 : es.length ≤ 9223372036854775807 := by unfold maxLen at hm; omega
  obtain ⟨W, hW⟩ : ∃ y, w.alloc (.cells (schCells L C T cl cc ct S) 28) = y := ⟨_, rfl⟩
  have kb := hide (show Blk W w.heap.size 28 (schCells L C T cl cc ct S) by rw [← hW]; exact blkNew rfl)
  have hB := hide (show Below w.heap.size w W by rw [← hW]; exact (Below.refl w.heap.size w).alloc (Nat.le_refl _) _)
  unfold schCells at *
  generalize hnl : S.learners.length = nl at *
  generalize hnc : S.cars.length = nc at *
  generalize hnt : S.terms.length = nt at *
  have k0 : W.cell? ⟨w.heap.size, 0, none⟩ = some (.slice L nl cl) := kb.out.cell 0
  have k1 : W.cell? ⟨w.heap.size, 1, none⟩ = some (.slice C nc cc) := kb.out.cell 1
  have k2 : W.cell? ⟨w.heap.size, 2, none⟩ = some (.int .i64 S.price) := kb.out.cell 2
  have k3 : W.cell? ⟨w.heap.size, 3, none⟩ = some (.int .i64 S.excess) := kb.out.cell 3
  have k4 : W.cell? ⟨w.heap.size, 4, none⟩ = some (.int .i64 S.lo) := kb.out.cell 4
  have k5 : W.cell? ⟨w.heap.size, 5, none⟩ = some (.int .i64 S.hi) := kb.out.cell 5
  have k6 : W.cell? ⟨w.heap.size, 6, none⟩ = some (.slice T nt ct) := kb.out.cell 6
  replace hW := hide hW
  replace hq := hide hq
  replace hnl := hide hnl
  replace hnc := hide hnc
  replace hnt := hide hnt
  replace hrows := hide hrows
  clear hE
  go_enter Try.func53, Try.ntmps53
  go_upto_region 1 with fail
  rw [hW.out]
  go_wp2_with fail
  refine (hck.out _ hB.out).mono ?_
  rintro e w1 ⟨rfl, hb⟩
  have hB1 := hide (hB.out.trans (hb.mono hB.out.size))
  have kb1 := hide (kb.out.below hb kb.out.lt)
  clear hb k0 k1 k2 k3 k4 k5 k6 kb hB hck
  by_cases hc : qc ≠ 0
  · have b1 : (qc != 0) = true := by rw [bne_iff_ne]; exact hc
    replace hc := hide hc
    go_wp2
    go_ret3
    refine ⟨?_, hB1.out⟩
    unfold OpenR
    rw [hq.out, if_pos hc.out]
    rfl
  · obtain rfl : qc = 0 := by simpa using hc
    clear hc
    have hS := hide (hgd.out rfl)
    by_cases h60 : 60 < es.length
    · have h60z : (60 : Int) < (es.length : Int) := by omega
      replace h60 := hide h60
      go_wp2
      go_ret3
      refine ⟨?_, hB1.out⟩
      unfold OpenR
      rw [hq.out, if_neg (by simp), if_pos h60.out]
      rfl
    · have h60z : ¬ (60 : Int) < (es.length : Int) := by omega
      have h60' := hide (show es.length ≤ 60 by omega)
      replace h60 := hide h60
      have k0 : w1.cell? ⟨w.heap.size, 0, none⟩ = some (.slice L nl cl) := kb1.out.cell 0
      have k1 : w1.cell? ⟨w.heap.size, 1, none⟩ = some (.slice C nc cc) := kb1.out.cell 1
      have k2 : w1.cell? ⟨w.heap.size, 2, none⟩ = some (.int .i64 S.price) := kb1.out.cell 2
      have k3 : w1.cell? ⟨w.heap.size, 3, none⟩ = some (.int .i64 S.excess) := kb1.out.cell 3
      have k4 : w1.cell? ⟨w.heap.size, 4, none⟩ = some (.int .i64 S.lo) := kb1.out.cell 4
      have k5 : w1.cell? ⟨w.heap.size, 5, none⟩ = some (.int .i64 S.hi) := kb1.out.cell 5
      have k6 : w1.cell? ⟨w.heap.size, 6, none⟩ = some (.slice T nt ct) := kb1.out.cell 6
      have hn1 := hide (hnb.out w1 hB1.out rfl)
      clear hnb
      go_wp2_with fail
      refine hn1.out.mono ?_
      clear hn1
      rintro e w2 ⟨p, rfl, hpz, hbk, hb⟩
      have hB2 := hide (hB1.out.trans (hb.mono hB1.out.size))
      have hm1 := mk_errs es.length (by omega) w2
      obtain ⟨W3, hW3⟩ : ∃ y, w2.alloc (.cells (Array.replicate es.length (.int .i64 0)) 30) = y := ⟨_, rfl⟩
      obtain ⟨g, hg⟩ : ∃ g, w2.heap.size = g := ⟨_, rfl⟩
      have hg12 : w1.heap.size ≤ g := by rw [← hg]; exact hb.size
      have hB3 := hide (show Below w.heap.size w W3 by rw [← hW3]; exact hB2.out.alloc hB2.out.size _)
      have hkr := hide (show Blk W3 g 30 (refC [] es.length) by rw [← hW3, refC_nil]; exact blkNew hg.symm)
      obtain ⟨Y, hY⟩ : ∃ Y : Nat → Prop, (fun k => k < w1.heap.size ∨ k = g) = Y := ⟨_, rfl⟩
      have hYg : Y g := by rw [← hY]; exact .inr rfl
      have hYw : ∀ k, k < w.heap.size → Y k := fun k hk => by rw [← hY]; have := hB1.out.size; exact .inl (by omega)
      have hbk3 : Books W3 Y p L C T cl cc ct S (bk S es 0) 0 := by
        obtain ⟨vl, vk, vs, va, mb, vp, hr⟩ := hbk
        refine ⟨vl, vk, vs, va, mb, vp, ?_⟩
        refine Raw.more hr (by rw [← hW3]; exact (Below.refl _ _).alloc (Nat.le_refl _) _) (fun k hk => by rw [← hY]; exact .inl hk) (fun k hk => by rw [← hY] at hk; exact hk.imp id (fun e => by omega)) (fun k hk => ?_)
        rw [← hY] at hk
        have hz : W3.heap.size = w2.heap.size + 1 := by rw [← hW3]; simp
        have := hb.size
        omega
      have hpw := hide (show w.heap.size ≤ p by have := hB1.out.size; omega)
      have hgw := hide (show w.heap.size ≤ g by have := hB1.out.size; omega)
      replace hW3 := hide hW3
      replace hbk3 := hide hbk3
      have hgh := hide hg
      clear hb hbk k0 k1 k2 k3 k4 k5 k6 kb1 hB1 hY hg12 hpz hB2
      have her0 : er S es 0 = [] := rfl
      replace her0 := hide her0
      go_upto_region 8 with fail
      rw [hW3.out]
      clear hm1 hg
      have hlen := hide (fun j (hj : j ≤ es.length) => er_len S es hj)
      have hgdj := hide (fun j (hj : j ≤ es.length) => bk_gd hS.out es (j := j) (by have := h60'.out; omega))
      have hsuc := hide (fun j (hj : j < es.length) => bk_succ S es hj)
      have hfinE := hide (show bk S es es.length = (runB S es 0 (startB S)).2 ∧ er S es es.length = (runB S es 0 (startB S)).1 from by unfold bk er; rw [List.take_length]; exact ⟨rfl, rfl⟩)
      generalize hn : es.length = n at *
      replace hn := hide hn
      go_wp2
      go_loopg [33] (n + 1) (fun gg s33 wr => ∃ (j : Nat) (ev : Int), j ≤ n ∧ n < gg + j ∧ s33 = .int .i64 j ∧ Hid (Books wr Y p L C T cl cc ct S (bk S es j) ev) ∧ Hid (Below w.heap.size w wr) ∧ Hid (Blk wr g 30 (refC (er S es j) n)))
      case atStart => exact ⟨0, 0, Nat.zero_le _, by omega, rfl, hbk3.out, hB3.out, by rw [her0.out]; exact hkr.out⟩
      case round =>
        clear hbk3 hB3 hkr
        obtain ⟨j, ev, hj, hgg, rfl, hbk, hBr, kr⟩ := hrel
        by_cases hlt : j < n
        · have hltz : (j : Int) < (n : Int) := by omega
          obtain ⟨be, oe, rfl, hbe, d0, d1, d2, d3, d4, d5, d6, d7, d8, d9, d10⟩ := hrow.out wr hBr.out j hlt
          have hs1 := hide (hsuc.out j hlt)
          have hg1 := hide (hgdj.out j (by omega))
          generalize hxe : es[j]?.getD default = x at *
          replace hxe := hide hxe
          obtain ⟨w4, hw4⟩ : ∃ y, wr.alloc (.cells (evCells x).toArray 65) = y := ⟨_, rfl⟩
          have hbk4 : Books w4 Y p L C T cl cc ct S (bk S es j) ev := by
            obtain ⟨vl, vk, vs, va, mb, vp, hr⟩ := hbk.out
            exact ⟨vl, vk, vs, va, mb, vp, by rw [← hw4]; exact Raw.alloc hr _⟩
          have hB4 := hide (show Below w.heap.size w w4 by rw [← hw4]; exact hBr.out.alloc hBr.out.size _)
          have kr4 := hide (show Blk w4 g _ _ by rw [← hw4]; exact kr.out.alloc _)
          have kv4 := hide (show Blk w4 wr.heap.size 65 (evCells x).toArray by rw [← hw4]; exact blkNew rfl)
          have hst : (∃ u, w4.cell? ⟨p, 14, none⟩ = some (.int .i64 u)) ∧ w4.frozen? ⟨p, 14, none⟩ = false ∧ ¬ Y p ∧ p < wr.heap.size ∧ Books (w4.setCell ⟨p, 14, none⟩ (.int .i64 j)) Y p L C T cl cc ct S (bk S es j) j := by
            obtain ⟨vl, vk, vs, va, mb, vp, hr⟩ := hbk4
            obtain ⟨_, _, _, _, _, _, hr0⟩ := hbk.out
            exact ⟨⟨ev, hr.blk.cell 14⟩, hr.blk.frozen 14, hr.px, hr0.blk.lt, vl, vk, vs, va, mb, vp, Raw.setEv hr j⟩
          obtain ⟨⟨u14, c14⟩, f14, hpy, hpwr, hbk5⟩ := hst
          obtain ⟨w5, hw5⟩ : ∃ y, w4.setCell ⟨p, 14, none⟩ (.int .i64 j) = y := ⟨_, rfl⟩
          rw [hw5] at hbk5
          have hB5 := hide (show Below w.heap.size w w5 by rw [← hw5]; exact hB4.out.setCell (p := ⟨p, 14, none⟩) hpw.out _)
          have kr5 := hide (show Blk w5 g _ _ by rw [← hw5]; exact kr4.out.far (p := ⟨p, 14, none⟩) (fun e => hpy (by rw [show p = g from e.symm]; exact hYg)) _)
          have kv5 : Blk w5 wr.heap.size 65 (evCells x).toArray := by rw [← hw5]; exact kv4.out.far (p := ⟨p, 14, none⟩) (by show wr.heap.size ≠ p; omega) _
          have htl := hide (tell_any hbk5 hS.out hg1.out.1 hg1.out.2 x)
          generalize htq : tellB S (bk S es j) j x = tq at *
          obtain ⟨e0, e1, e2, e3, e4, e5, e6, e7, e8, e9, e10⟩ := ev_cells kv5
          have hlj := hide (hlen.out j (by omega))
          obtain ⟨xkind, xat, xlearner, xcar, xbooking, xstart, xhours, xday, xweather, xkm, xcents⟩ := x
          unfold evCells at *
          simp only at *
          replace hw4 := hide hw4
          replace hw5 := hide hw5
          replace htq := hide htq
          have hjl := hide hlt
          clear hbk4 hbk5 hbk hBr kr kr4 kv4 kv5 hpwr hB4
          go_upto_region 11 with fail
          rw [hw4.out]
          go_upto_region 12 with fail
          rw [hw5.out]
          clear d0 d1 d2 d3 d4 d5 d6 d7 d8 d9 d10 c14 f14
          go_wp2_with fail
          refine htl.out.mono ?_
          clear htl
          rintro e w6 ⟨rfl, hb6, hk6⟩
          have kr6 := hide (hk6.blk hYg kr5.out)
          have hB6 := hide (hB5.out.trans (KeptX.below (hk6.mono hYw)))
          obtain ⟨vl6, vk6, vs6, va6, mb6, vp6, hr6⟩ := hb6
          have hgx : g < w6.heap.size := kr6.out.lt
          obtain ⟨u, cg⟩ : ∃ u, w6.cell? ⟨g, j, none⟩ = some u := by
            rw [kr6.out.cell j]
            have : j < (refC (er S es j) n).size := by unfold refC; simp; have := hlj.out; omega
            exact ⟨_, Array.getElem?_eq_getElem this⟩
          have fg : w6.frozen? ⟨g, j, none⟩ = false := kr6.out.frozen j
          have hbk7 := hide (show Books (w6.setCell ⟨g, j, none⟩ (.int .i64 tq.1)) Y p L C T cl cc ct S (bk S es (j + 1)) j from by
            rw [hs1.out.1]
            have hgY : ∀ {e' k v xs}, RowAt w6 Y e' k v xs → v.ownBlock ≠ some g := fun hr e => hr.not g e hYg
            have hk7 : w6.grownBy (w6.setCell ⟨g, j, none⟩ (.int .i64 tq.1)) (some g) := grown_set ⟨rfl, rfl, rfl, Nat.le_refl _, fun _ _ _ => rfl⟩ rfl _
            refine ⟨vl6, vk6, vs6, va6, mb6, vp6, ?_⟩
            have hsc : SchX Y (w6.setCell ⟨g, j, none⟩ (.int .i64 tq.1)) L C T cl cc ct S := ⟨w, hrows.out, hYw, hB6.out.setCell (p := ⟨g, j, none⟩) hgw.out _⟩
            exact ⟨fun k hk => by simpa using hr6.old k hk, hsc, hr6.px, hr6.mx, hr6.blk.far (p := ⟨g, j, none⟩) (fun e => hr6.px (e ▸ hYg)) _, hr6.les.far (p := ⟨g, j, none⟩) (hgY hr6.les) _, hr6.km.far (p := ⟨g, j, none⟩) (hgY hr6.km) _, hr6.since.far (p := ⟨g, j, none⟩) (hgY hr6.since) _, hr6.acc.far (p := ⟨g, j, none⟩) (hgY hr6.acc) _,
              hr6.map.blk (Below.heap_setCell _ _ _ _ (fun e => hr6.mx (e ▸ hYg))), hr6.pst.far (p := ⟨g, j, none⟩) (hgY hr6.pst) _, hr6.ks, hr6.ka, hr6.sa⟩)
          have hB7 := hide (hB6.out.setCell (p := ⟨g, j, none⟩) hgw.out (.int .i64 tq.1))
          have kr7 := hide (show Blk (w6.setCell ⟨g, j, none⟩ (.int .i64 tq.1)) g 30 (refC (er S es (j + 1)) n) from by
            have h1 := kr6.out.set_ j (.int .i64 tq.1)
            have h2 := refC_set (xs := er S es j) (n := n) (by rw [hlj.out]; exact hjl.out) tq.1
            rw [hlj.out] at h2
            rw [h2] at h1
            rw [hs1.out.2]
            exact h1)
          clear hr6 hk6 kr6 hB6 hgx
          go_wp2
          clear cg fg
          go_roundg (n - j)
          case measure => have := hjl.out; omega
          case rel => exact ⟨j + 1, j, hjl.out, by have := hjl.out; omega, by have := hjl.out; go_num, hbk7.out, hB7.out, kr7.out⟩
        · obtain rfl : j = n := by omega
          have hltz : ¬ (j : Int) < (j : Int) := by omega
          rw [hfinE.out.1] at hbk
          rw [hfinE.out.2] at kr
          go_wp2
          go_ret3
          refine ⟨?_, hBr.out⟩
          unfold OpenR
          rw [hq.out, if_neg (by simp), if_neg (by rw [hn.out]; have := h60'.out; omega)]
          exact ⟨p, g, Y, L, C, T, cl, cc, ct, ev, by rw [hn.out]; rfl, hpw.out, hgw.out, hYg, hYw, hbk.out, by rw [hn.out]; exact kr.out⟩
end Go.Proofs.Ytkmhldjebopljaa
