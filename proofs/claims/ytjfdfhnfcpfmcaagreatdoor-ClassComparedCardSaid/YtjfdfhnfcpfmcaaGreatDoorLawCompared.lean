/-
  The law ClassCompared returns true.
-/
import Derived.Test.YtjfdfhnfcpfmcaaGreatDoorMo
namespace Go.Proofs.YtjfdfhnfcpfmcaaGreatDoor
open Go.RowKit RG

theorem RdLists.three {w : World} {R R' R'' : Option Addr} {c c' c'' : Nat} {rs rs' rs'' : List (Int × Int)} (h : RdRts w R rs.length rs) (h' : RdRts w R' rs'.length rs') (h'' : RdRts w R'' rs''.length rs'') (t : TypeId) :
    RdLists (w.alloc (.cells #[.slice R rs.length c, .slice R' rs'.length c', .slice R'' rs''.length c''] t)) (some ⟨w.heap.size, 0, none⟩) 3 [rs, rs', rs''] :=
  ⟨rfl, by unfold maxLen; omega, fun _ => ⟨w.heap.size, 0, rfl, by simp, fun j hj => by
    match j, hj with
    | 0, _ => exact ⟨R, c, World.cell?_alloc_new w _ t 0, h.below ((Below.refl _ _).alloc (Nat.le_refl _) _)⟩
    | 1, _ => exact ⟨R', c', World.cell?_alloc_new w _ t 1, h'.below ((Below.refl _ _).alloc (Nat.le_refl _) _)⟩
    | 2, _ => exact ⟨R'', c'', World.cell?_alloc_new w _ t 2, h''.below ((Below.refl _ _).alloc (Nat.le_refl _) _)⟩⟩⟩
theorem openF_three (S : Sys) (ra rb rc : List (Int × Int)) : openF S [ra, rb, rc] = 0 ↔ openF S [ra] = 0 ∧ openF S [rb] = 0 ∧ openF S [rc] = 0 := by
  unfold openF
  by_cases h : (checkF S).2.2 = 0
  · simp only [if_pos h, listsF]
    by_cases h1 : rightsF S.cs.length S.codes.length ra = 0 <;> by_cases h2 : rightsF S.cs.length S.codes.length rb = 0 <;> by_cases h3 : rightsF S.cs.length S.codes.length rc = 0 <;> simp [h1, h2, h3]
  · simp only [if_neg h]
    exact ⟨fun h' => ⟨h', h', h'⟩, fun h' => h'.1⟩
theorem allowsF_val {S : Sys} {ra rb : List (Int × Int)} (h1 : openF S [ra] = 0) (h2 : openF S [rb] = 0) : allowsF S ra rb = (allowsB S ra rb, 0) := by
  unfold allowsF
  rw [if_neg (by rw [(openF_two S ra rb).2 ⟨h1, h2⟩]; simp)]
set_option maxRecDepth 100000 in
set_option maxHeartbeats 8000000 in
theorem LawCompared_any (A A2 R R1 R2 : Option Addr) (cc c2 cr cr1 cr2 : Nat) (S : Sys) (ra rb rc : List (Int × Int)) (w : World) (he : Env w) (h : InMem w A A2 cc c2 S)
    (hra : RdRts w R ra.length ra) (hna : R = none → cr = 0) (hrb : RdRts w R1 rb.length rb) (hnb : R1 = none → cr1 = 0) (hrc : RdRts w R2 rc.length rc) :
    Calls Tryz.prog 15 #[.agg #[.slice A S.cs.length cc, .slice A2 S.codes.length c2], .slice R ra.length cr, .agg #[.slice R1 rb.length cr1, .slice R2 rc.length cr2]] w fun e w' => e = .returned (.bool true) ∧ Below w.heap.size w w' := by
  have hB0 := hide (((Below.refl w.heap.size w).alloc (Nat.le_refl _) (.cells #[.slice A S.cs.length cc, .slice A2 S.codes.length c2] 38)).alloc (by simp) (.cells #[.slice R1 rb.length cr1, .slice R2 rc.length cr2] 83))
  have hS0 := hide (show Blk ((w.alloc (.cells #[.slice A S.cs.length cc, .slice A2 S.codes.length c2] 38)).alloc (.cells #[.slice R1 rb.length cr1, .slice R2 rc.length cr2] 83)) w.heap.size 38 #[.slice A S.cs.length cc, .slice A2 S.codes.length c2] from (Blk.new_ rfl).alloc _)
  have hX0 := hide (show Blk ((w.alloc (.cells #[.slice A S.cs.length cc, .slice A2 S.codes.length c2] 38)).alloc (.cells #[.slice R1 rb.length cr1, .slice R2 rc.length cr2] 83)) (w.heap.size + 1) 83 #[.slice R1 rb.length cr1, .slice R2 rc.length cr2] from Blk.new_ (by simp))
  have he0 := hide (he.below hB0.out he.size)
  have hval := hide (fun (L : Option Addr) (W : World) (hb : Below w.heap.size w W) (hl : RdLists W L 3 [ra, rb, rc]) => valid_any A A2 L cc c2 3 3 S [ra, rb, rc] W (h.below hb) hl)
  have hrA := hide (fun W (hb : Below w.heap.size w W) => hra.below hb)
  have hrB := hide (fun W (hb : Below w.heap.size w W) => hrb.below hb)
  have hrC := hide (fun W (hb : Below w.heap.size w W) => hrc.below hb)
  have hAll := hide (fun (R R' : Option Addr) (c c' : Nat) (l l' : List (Int × Int)) (h1 : openF S [l] = 0) (h2 : openF S [l'] = 0) (W : World) (hb : Below w.heap.size w W) (hr : RdRts W R l.length l) (hr' : RdRts W R' l'.length l') => by
    have := Allows_any A A2 R R' cc c2 c c' S l l' W (h.below hb) hr hr'; rw [allowsF_val h1 h2] at this; exact this)
  have hLst := hide (fun (R : Option Addr) (c : Nat) (l : List (Int × Int)) (h0 : openF S [l] = 0) (W : World) (hb : Below w.heap.size w W) (hr : RdRts W R l.length l) => (Least_E A A2 R cc c2 c S l W (h.below hb) hr).mono (R' := fun e w' => (∃ v L, e = .returned (.tuple #[v, .int .i64 0]) ∧ FormP S.cs S.cs.length (· ∈ l) L ∧ IsRts L v w') ∧ Below W.heap.size W w') (fun e w' hh => ⟨by
      rcases hh.1 with h1 | h1
      · exact absurd h0 h1.1
      · exact h1.2, hh.2⟩))
  have h3 := openF_three S ra rb rc
  have hma := hra.2
  have hmb := hrb.2
  unfold maxLen at hma hmb
  clear he h hra hrb hrc
  generalize hz : openF S [ra, rb, rc] = z at *
  clear hz
  generalize hn : S.cs.length = n at *
  generalize hn2 : S.codes.length = n2 at *
  replace hn := hide hn
  replace hn2 := hide hn2
  replace hna := hide hna
  replace hnb := hide hnb
  replace h3 := hide h3
  go_enter Tryz.func15, Tryz.ntmps15
  go_wp2
  go_quiet (fail)
  have hB1 := hide (below_drewN hB0.out nq)
  have hS1 := hide (Blk.drewN hS0.out nq)
  have he1 := hide (he0.out.drewN nq)
  clear hB0 hS0 hX0 he0
  generalize (((w.alloc (.cells #[.slice A n cc, .slice A2 n2 c2] 38)).alloc (.cells #[.slice R1 rb.length cr1, .slice R2 rc.length cr2] 83)).drewN nq) = w1 at *
  have s0 : w1.cell? ⟨w.heap.size, 0, none⟩ = some (.slice A n cc) := hS1.out.cell 0
  have s1 : w1.cell? ⟨w.heap.size, 1, none⟩ = some (.slice A2 n2 c2) := hS1.out.cell 1
  have hA : Below w1.heap.size w1 (w1.alloc (.cells #[.slice R ra.length cr, .slice R1 rb.length cr1, .slice R2 rc.length cr2] 46)) := (Below.refl _ _).alloc (Nat.le_refl _) _
  have hL2 := hide (RdLists.three (hrA.out _ hB1.out) (hrB.out _ hB1.out) (hrC.out _ hB1.out) (c := cr) (c' := cr1) (c'' := cr2) 46)
  have he2 := hide (he1.out.below hA he1.out.size)
  have hB2 := hide (hB1.out.trans (hA.mono hB1.out.size))
  have hS2 := hide (hS1.out.below hA hS1.out.lt)
  clear hA
  go_wp2_with fail
  clear s0 s1 he1 hB1 hS1
  generalize w1.heap.size = g1 at *
  generalize w1.alloc (.cells #[.slice R ra.length cr, .slice R1 rb.length cr1, .slice R2 rc.length cr2] 46) = w2 at *
  refine (hval.out _ _ hB2.out hL2.out).mono ?_
  rintro e w3 ⟨rfl, hb3⟩
  have he3 := hide (he2.out.below hb3 he2.out.size)
  have hB3 := hide (hB2.out.trans (hb3.mono hB2.out.size))
  have hS3 := hide (hS2.out.below hb3 hS2.out.lt)
  clear hb3 he2 hB2 hS2 hval hL2
  by_cases hz : z = 0
  · obtain ⟨oa, ob, oc⟩ := h3.out.1 hz
    subst hz
    clear h3
    have gd := (openF_good oa).1
    have ga := (openF_good oa).2 ra (List.mem_singleton.2 rfl)
    have gb := (openF_good ob).2 rb (List.mem_singleton.2 rfl)
    have gc := (openF_good oc).2 rc (List.mem_singleton.2 rfl)
    replace gd := hide gd
    replace ga := hide ga
    replace gb := hide gb
    replace gc := hide gc
    replace oa := hide oa
    replace ob := hide ob
    replace oc := hide oc
    have s0 : w3.cell? ⟨w.heap.size, 0, none⟩ = some (.slice A n cc) := hS3.out.cell 0
    have s1 : w3.cell? ⟨w.heap.size, 1, none⟩ = some (.slice A2 n2 c2) := hS3.out.cell 1
    go_wp2_with fail
    clear s0 s1
    refine (hAll.out R R1 cr cr1 ra rb oa.out ob.out _ hB3.out (hrA.out _ hB3.out) (hrB.out _ hB3.out)).mono ?_
    rintro e w4 ⟨rfl, hb4⟩
    have he4 := hide (he3.out.below hb4 he3.out.size)
    have hB4 := hide (hB3.out.trans (hb4.mono hB3.out.size))
    have hS4 := hide (hS3.out.below hb4 hS3.out.lt)
    clear hb4 he3 hB3 hS3
    have s0 : w4.cell? ⟨w.heap.size, 0, none⟩ = some (.slice A n cc) := hS4.out.cell 0
    have s1 : w4.cell? ⟨w.heap.size, 1, none⟩ = some (.slice A2 n2 c2) := hS4.out.cell 1
    go_wp2_with fail
    clear s0 s1
    refine (hAll.out R1 R2 cr1 cr2 rb rc ob.out oc.out _ hB4.out (hrB.out _ hB4.out) (hrC.out _ hB4.out)).mono ?_
    rintro e w5 ⟨rfl, hb5⟩
    have he5 := hide (he4.out.below hb5 he4.out.size)
    have hB5 := hide (hB4.out.trans (hb5.mono hB4.out.size))
    have hS5 := hide (hS4.out.below hb5 hS4.out.lt)
    clear hb5 he4 hB4 hS4
    have s0 : w5.cell? ⟨w.heap.size, 0, none⟩ = some (.slice A n cc) := hS5.out.cell 0
    have s1 : w5.cell? ⟨w.heap.size, 1, none⟩ = some (.slice A2 n2 c2) := hS5.out.cell 1
    go_wp2_with fail
    clear s0 s1
    refine (hAll.out R R2 cr cr2 ra rc oa.out oc.out _ hB5.out (hrA.out _ hB5.out) (hrC.out _ hB5.out)).mono ?_
    rintro e w6 ⟨rfl, hb6⟩
    have he6 := hide (he5.out.below hb6 he5.out.size)
    have hB6 := hide (hB5.out.trans (hb6.mono hB5.out.size))
    have hS6 := hide (hS5.out.below hb6 hS5.out.lt)
    clear hb6 he5 hB5 hS5
    have s0 : w6.cell? ⟨w.heap.size, 0, none⟩ = some (.slice A n cc) := hS6.out.cell 0
    have s1 : w6.cell? ⟨w.heap.size, 1, none⟩ = some (.slice A2 n2 c2) := hS6.out.cell 1
    go_wp2_with fail
    clear s0 s1
    refine (hAll.out R R cr cr ra ra oa.out oa.out _ hB6.out (hrA.out _ hB6.out) (hrA.out _ hB6.out)).mono ?_
    rintro e w7 ⟨rfl, hb7⟩
    have he7 := hide (he6.out.below hb7 he6.out.size)
    have hB7 := hide (hB6.out.trans (hb7.mono hB6.out.size))
    have hS7 := hide (hS6.out.below hb7 hS6.out.lt)
    clear hb7 he6 hB6 hS6
    rw [allowsB_refl gd.out ga.out]
    have hjoin := hide (fun (hl : ra.length + rb.length ≤ 40) (L1 L2 : List (Int × Int)) (h1 : FormP S.cs S.cs.length (· ∈ ra ++ rb) L1) (h2 : FormP S.cs S.cs.length (· ∈ ra) L2) => form_join gd.out ga.out gb.out hl h1 h2)
    have htr : (allowsB S ra rb = false) ∨ (allowsB S ra rb = true ∧ allowsB S rb rc = false) ∨ (allowsB S ra rb = true ∧ allowsB S rb rc = true ∧ allowsB S ra rc = true) := by
      cases h1 : allowsB S ra rb with
      | false => exact .inl rfl
      | true =>
        cases h2 : allowsB S rb rc with
        | false => exact .inr (.inl ⟨rfl, rfl⟩)
        | true => exact .inr (.inr ⟨rfl, rfl, allowsB_trans gd.out ga.out gb.out h1 h2⟩)
    have hg40 := hide (fun (hl : ra.length + rb.length ≤ 40) => openF_good_of gd.out (goodR_append ga.out gb.out hl))
    have ha40 := ga.out.1
    have hb40 := gb.out.1
    clear hAll hrC oc ob gc
    generalize allowsB S ra rb = ab at *
    generalize allowsB S rb rc = bc at *
    generalize allowsB S ra rc = ac at *
    have s0 : w7.cell? ⟨w.heap.size, 0, none⟩ = some (.slice A n cc) := hS7.out.cell 0
    have s1 : w7.cell? ⟨w.heap.size, 1, none⟩ = some (.slice A2 n2 c2) := hS7.out.cell 1
    obtain ⟨i0, hi, hz0, hz1, hz2⟩ := info_parts infoRt
    replace hi := hide hi
    replace hz0 := hide hz0
    replace hz1 := hide hz1
    replace hz2 := hide hz2
    have hown0 : (w7.alloc (.cells #[] 64)).ownsRow w7.heap.size 64 2 (.slice (some ⟨w7.heap.size, 0, none⟩) 0 0) 0 [] := ⟨rfl, .inr ⟨w7.heap.size, 0, #[], rfl, Nat.le_refl _, World.alloc_heap_new w7 _, Nat.le_refl _, by unfold maxLen; omega, rfl, rfl⟩⟩
    have hA : Below w7.heap.size w7 (w7.alloc (.cells #[] 64)) := (Below.refl _ _).alloc (Nat.le_refl _) _
    have hB8 := hide (hB7.out.trans (hA.mono hB7.out.size))
    have hsz7 := hB7.out.size
    have hsz8 : w7.heap.size ≤ (w7.alloc (.cells #[] 64)).heap.size := hA.size
    clear hA
    replace hown0 := hide hown0
    clear s0 s1
    have hls : (ra ++ rb).length = ra.length + rb.length := List.length_append
    by_cases h40 : ra.length + rb.length ≤ 40
    · have h40z : ¬ (40 : Int) < ((ra ++ rb).length : Int) := by rw [hls]; omega
      have o40 := hide (hg40.out h40)
      replace hjoin := hide (hjoin.out h40)
      generalize hle : ra ++ rb = ls at *
      replace hle := hide hle
      replace hls := hide hls
      rcases htr with rfl | ⟨rfl, rfl⟩ | ⟨rfl, rfl, rfl⟩
      all_goals
        go_wp2_with (at_builtin; first | ((refine wpList_append_rts rfl _ _ rfl w7.heap.size i0 hi.out hz0.out hz1.out hz2.out _ _ _ rfl hown0.out R ra.length cr ra rfl (hrA.out _ hB8.out) hna.out (by unfold maxLen; omega) (by omega) hsz8 ?_); intro va wa howna hgrowa; have hBa := hide (hB8.out.grown hgrowa (Nat.le_trans hsz7 hsz8) (fun k hk => Nat.le_trans hsz7 (hown0.out.lt k hk).1)); have hsza := Nat.le_trans hsz8 hgrowa.size) | ((refine wpList_append_rts rfl _ _ rfl w7.heap.size i0 hi.out hz0.out hz1.out hz2.out _ _ _ rfl howna R1 rb.length cr1 rb rfl (hrB.out _ hBa.out) hnb.out (by unfold maxLen; omega) (by omega) hsza ?_); intro vb wb hownb hgrowb; have hBb := hide (hBa.out.grown hgrowb (Nat.le_trans hsz7 hsza) (fun k hk => Nat.le_trans hsz7 (howna.lt k hk).1)); obtain ⟨J, jc, rfl, hJ⟩ := isRts_flat (l := ls) (n := ra.length + rb.length) (by rw [← hle.out, List.flatMap_append]; simpa using hownb) hls.out.symm (by rw [hls.out]; unfold maxLen; omega); replace hJ := hide hJ; have hb78 := ((((Below.refl w7.heap.size w7).alloc (Nat.le_refl _) (.cells #[] 64)).grown hgrowa hsz8 (fun k hk => (hown0.out.lt k hk).1)).grown hgrowb hsza (fun k hk => (howna.lt k hk).1)); have hS8 := hide (hS7.out.below hb78 hS7.out.lt); have he8 := hide (he7.out.below hb78 he7.out.size); have s0 : wb.cell? ⟨w.heap.size, 0, none⟩ = some (.slice A n cc) := hS8.out.cell 0; have s1 : wb.cell? ⟨w.heap.size, 1, none⟩ = some (.slice A2 n2 c2) := hS8.out.cell 1; clear hb78 howna hownb hgrowa hgrowb hBa hsza hown0 hsz7 hsz8 hB8 hi hz0 hz1 hz2))
        clear s0 s1
        have hR8 := hide (hrA.out _ hBb.out)
        refine (hLst.out J jc ls o40.out _ hBb.out hJ.out).mono ?_
        rintro e w9 ⟨⟨v1, L1, rfl, hF1, hV1⟩, hb9⟩
        have he9 := hide (he8.out.below hb9 he8.out.size)
        have hB9 := hide (hBb.out.trans (hb9.mono hBb.out.size))
        have hS9 := hide (hS8.out.below hb9 hS8.out.lt)
        have hR9 := hide (hR8.out.below hb9)
        obtain ⟨D, dc, rfl, hD⟩ := hV1
        clear hb9 he8 hBb hS8 hR8 hJ
        replace hD := hide hD
        replace hF1 := hide hF1
        have s0 : w9.cell? ⟨w.heap.size, 0, none⟩ = some (.slice A n cc) := hS9.out.cell 0
        have s1 : w9.cell? ⟨w.heap.size, 1, none⟩ = some (.slice A2 n2 c2) := hS9.out.cell 1
        go_wp2_with fail
        clear s0 s1
        refine (hLst.out R cr ra oa.out _ hB9.out hR9.out).mono ?_
        rintro e w10 ⟨⟨v2, L2, rfl, hF2, hV2⟩, hb10⟩
        have he10 := hide (he9.out.below hb10 he9.out.size)
        have hB10 := hide (hB9.out.trans (hb10.mono hB9.out.size))
        have hD10 := hide (hD.out.below hb10)
        obtain ⟨E, ec, rfl, hE⟩ := hV2
        replace hE := hide hE
        have hdec := hjoin.out L1 L2 (by rw [hn.out]; exact hF1.out) (by rw [hn.out]; exact hF2)
        replace hdec := hide hdec
        clear hb10 he9 hB9 hS9 hR9 hD hF1 hF2 hjoin hLst
        go_wp2_with fail
        refine (Same_any D E L1.length L2.length dc ec L1 L2 _ hD10.out hE.out).mono ?_
        rintro e w11 ⟨rfl, hb11⟩
        have he11 := hide (he10.out.below hb11 he10.out.size)
        have hB11 := hide (hB10.out.trans (hb11.mono hB10.out.size))
        rw [hdec.out]
        clear hb11 he10 hB10 hD10 hE hdec
        go_wp2_with fail
        refine (Awake_any _ he11.out).mono ?_
        rintro e w12 ⟨rfl, hb12⟩
        have hB12 := hide (hB11.out.trans (hb12.mono hB11.out.size))
        clear hb12
        go_wp2
        go_ret
        exact ⟨rfl, hB12.out⟩
    · have h40z : (40 : Int) < ((ra ++ rb).length : Int) := by rw [hls]; omega
      have hlsm : (ra ++ rb).length ≤ 80 := by rw [hls]; omega
      clear hjoin hLst hg40
      generalize hle : ra ++ rb = ls at *
      replace hle := hide hle
      replace hls := hide hls
      rcases htr with rfl | ⟨rfl, rfl⟩ | ⟨rfl, rfl, rfl⟩
      all_goals
        go_wp2_with (at_builtin; first | ((refine wpList_append_rts rfl _ _ rfl w7.heap.size i0 hi.out hz0.out hz1.out hz2.out _ _ _ rfl hown0.out R ra.length cr ra rfl (hrA.out _ hB8.out) hna.out (by unfold maxLen; omega) (by omega) hsz8 ?_); intro va wa howna hgrowa; have hBa := hide (hB8.out.grown hgrowa (Nat.le_trans hsz7 hsz8) (fun k hk => Nat.le_trans hsz7 (hown0.out.lt k hk).1)); have hsza := Nat.le_trans hsz8 hgrowa.size) | ((refine wpList_append_rts rfl _ _ rfl w7.heap.size i0 hi.out hz0.out hz1.out hz2.out _ _ _ rfl howna R1 rb.length cr1 rb rfl (hrB.out _ hBa.out) hnb.out (by unfold maxLen; omega) (by omega) hsza ?_); intro vb wb hownb hgrowb; have hBb := hide (hBa.out.grown hgrowb (Nat.le_trans hsz7 hsza) (fun k hk => Nat.le_trans hsz7 (howna.lt k hk).1)); obtain ⟨J, jc, rfl, hJ⟩ := isRts_flat (l := ls) (n := ra.length + rb.length) (by rw [← hle.out, List.flatMap_append]; simpa using hownb) hls.out.symm (by rw [hls.out]; unfold maxLen; omega); replace hJ := hide hJ; have hb78 := ((((Below.refl w7.heap.size w7).alloc (Nat.le_refl _) (.cells #[] 64)).grown hgrowa hsz8 (fun k hk => (hown0.out.lt k hk).1)).grown hgrowb hsza (fun k hk => (howna.lt k hk).1)); have hS8 := hide (hS7.out.below hb78 hS7.out.lt); have he8 := hide (he7.out.below hb78 he7.out.size); have s0 : wb.cell? ⟨w.heap.size, 0, none⟩ = some (.slice A n cc) := hS8.out.cell 0; have s1 : wb.cell? ⟨w.heap.size, 1, none⟩ = some (.slice A2 n2 c2) := hS8.out.cell 1; clear hb78 howna hownb hgrowa hgrowb hBa hsza hown0 hsz7 hsz8 hB8 hi hz0 hz1 hz2))
        refine (Awake_any _ he8.out).mono ?_
        rintro e w12 ⟨rfl, hb12⟩
        have hB12 := hide (hBb.out.trans (hb12.mono hBb.out.size))
        clear hb12
        go_wp2
        go_ret
        exact ⟨rfl, hB12.out⟩
  · have hb1 : (z == 0) = false := by rw [beq_eq_false_iff_ne]; exact hz
    replace hz := hide hz
    clear hAll hLst h3
    go_wp2_with fail
    refine (Awake_any _ he3.out).mono ?_
    rintro e w7 ⟨rfl, hb7⟩
    have hB7 := hide (hB3.out.trans (hb7.mono hB3.out.size))
    clear hb7
    go_wp2
    go_ret
    exact ⟨rfl, hB7.out⟩
end Go.Proofs.YtjfdfhnfcpfmcaaGreatDoor
