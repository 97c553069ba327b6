/-
  The reference's Both.
-/
import Derived.Test.YtjfdfhnfcpfmcaaGreatDoorRefV
namespace Go.Proofs.YtjfdfhnfcpfmcaaGreatDoor
open Go.RowKit RG

/-- What Both returns of valid lists of which L is the form. -/
def bE (L : List (Int × Int)) : Int := if L.length ≤ 40 then 0 else 3
def bV (L : List (Int × Int)) : List (Int × Int) := if L.length ≤ 40 then L else []
theorem Both_W (A A2 R R' : Option Addr) (cc c2 cr cr' : Nat) (S : Sys) (ra rb : List (Int × Int)) (w : World) (h : InMem w A A2 cc c2 S) (hr : RdRts w R ra.length ra) (hr' : RdRts w R' rb.length rb) :
    Calls Tryz.prog 41 #[.agg #[.slice A S.cs.length cc, .slice A2 S.codes.length c2], .slice R ra.length cr, .slice R' rb.length cr'] w fun e w' =>
      (∃ v, ∃ x : Int, e = .returned (.tuple #[v, .int .i64 x]) ∧ ∃ L, (openF S [ra, rb] ≠ 0 ∧ x = openF S [ra, rb] ∧ IsRts [] v w' ∨ openF S [ra, rb] = 0 ∧ x = bE L ∧ FormP S.cs S.cs.length (bothP S ra rb) L ∧ IsRts (bV L) v w')) ∧ Below w.heap.size w w' := by
  refine (Both_E A A2 R R' cc c2 cr cr' S ra rb w h hr hr').mono ?_
  rintro e w' ⟨⟨h1, rfl⟩ | ⟨h0, L, hf, ⟨h2, rfl⟩ | ⟨h2, v, rfl, hv⟩⟩, hb⟩
  · exact ⟨⟨_, _, rfl, [], .inl ⟨h1, rfl, isRts_nil_ _⟩⟩, hb⟩
  · exact ⟨⟨_, _, rfl, L, .inr ⟨h0, by unfold bE; rw [if_neg (by omega)], hf, by unfold bV; rw [if_neg (by omega)]; exact isRts_nil_ _⟩⟩, hb⟩
  · exact ⟨⟨v, _, rfl, L, .inr ⟨h0, by unfold bE; rw [if_pos h2], hf, by unfold bV; rw [if_pos h2]; exact hv⟩⟩, hb⟩

set_option maxRecDepth 100000 in
set_option maxHeartbeats 8000000 in
theorem RBoth_any (A A2 R R' : Option Addr) (cc c2 cr cr' : Nat) (S : Sys) (ra rb : List (Int × Int)) (w : World) (h : InMem w A A2 cc c2 S) (hr : RdRts w R ra.length ra) (hr' : RdRts w R' rb.length rb) :
    Calls Tryz.prog 42 #[.agg #[.slice A S.cs.length cc, .slice A2 S.codes.length c2], .slice R ra.length cr, .slice R' rb.length cr'] w fun e w' =>
      (∃ v, ∃ x : Int, e = .returned (.tuple #[v, .int .i64 x]) ∧ ∃ M, (openF S [ra, rb] ≠ 0 ∧ x = openF S [ra, rb] ∧ IsRts [] v w' ∨ openF S [ra, rb] = 0 ∧ x = bE M ∧ (∀ L, FormP S.cs S.cs.length (bothP S ra rb) L → L = M) ∧ IsRts (bV M) v w')) ∧ Below w.heap.size w w' := by
  have hB := hide ((Below.refl w.heap.size w).alloc (Nat.le_refl _) (.cells #[.slice A S.cs.length cc, .slice A2 S.codes.length c2] 38))
  have hS := hide (Blk.new_ (w := w) (g := w.heap.size) (t := 38) (cs := #[.slice A S.cs.length cc, .slice A2 S.codes.length c2]) rfl)
  have hask := hide (fun W (hb : Below w.heap.size w W) => askedR_any A A2 R cc c2 cr S ra W (h.below hb) (hr.below hb))
  have hask2 := hide (fun W (hb : Below w.heap.size w W) => askedR_any A A2 R' cc c2 cr' S rb W (h.below hb) (hr'.below hb))
  by_cases ha : openF S [ra] = 0
  · rw [ha] at hask
    by_cases hb0 : openF S [rb] = 0
    · rw [hb0] at hask2
      obtain ⟨i0, hi, hz0, hz1, hz2⟩ := info_parts infoRt
      replace hi := hide hi
      replace hz0 := hide hz0
      replace hz1 := hide hz1
      replace hz2 := hide hz2
      have gd := (openF_good ha).1
      have ga := (openF_good ha).2 ra (List.mem_singleton.2 rfl)
      have gb := (openF_good hb0).2 rb (List.mem_singleton.2 rfl)
      have h0 : openF S [ra, rb] = 0 := by rw [openF_pair, if_pos ha]; exact hb0
      rw [h0]
      have hall := hide (fun (c f : Nat) (hc : c < S.cs.length) (hf : f < 2 ^ S.codes.length) (W : World) (hb : Below w.heap.size w W) =>
        show Calls Tryz.prog 53 #[.agg #[.slice A S.cs.length cc, .slice A2 S.codes.length c2], .slice R ra.length cr, .int .i64 c, .int .i64 f] W fun e w' => e = .returned (.bool (mayL S ra c f)) ∧ Below W.heap.size W w' from AllowedR_any A A2 R cc c2 cr S ra c f W (h.below hb) gd (hr.below hb) ga hc hf)
      have hall2 := hide (fun (c f : Nat) (hc : c < S.cs.length) (hf : f < 2 ^ S.codes.length) (W : World) (hb : Below w.heap.size w W) =>
        show Calls Tryz.prog 53 #[.agg #[.slice A S.cs.length cc, .slice A2 S.codes.length c2], .slice R' rb.length cr', .int .i64 c, .int .i64 f] W fun e w' => e = .returned (.bool (mayL S rb c f)) ∧ Below W.heap.size W w' from AllowedR_any A A2 R' cc c2 cr' S rb c f W (h.below hb) gd (hr'.below hb) gb hc hf)
      have hn12 := gd.bd.1.2
      have hn28 := gd.bd.2
      have hpb : 2 ^ S.codes.length ≤ 2 ^ 8 := Nat.pow_le_pow_right (by omega) hn28
      have hpb : 2 ^ S.codes.length ≤ 256 := hpb
      have hp1 : 0 < 2 ^ S.codes.length := Nat.two_pow_pos _
      have hsets := hide (fun W => SetsR_any S.codes.length W (by omega))
      obtain ⟨is, his⟩ : ∃ is : Nat → Nat → Bool, (fun c k => mayL S ra c (2 ^ S.codes.length - 1 - k) && mayL S rb c (2 ^ S.codes.length - 1 - k)) = is := ⟨_, rfl⟩
      have hgl := hide (fun c (hc : c ≤ S.cs.length) => show (gridL (2 ^ S.codes.length) is c).length ≤ 12 * 256 from Nat.le_trans (gridL_len _ _ _) (Nat.mul_le_mul (by omega) hpb))
      have hform := hide (fun (l : List (Int × Int)) (hl : l = gridL (2 ^ S.codes.length) is S.cs.length) (D : Option Addr) (dc : Nat) (W : World) (hb : Below w.heap.size w W) (hd : RdRts W D l.length l) => FormR_any A A2 D cc c2 dc S l W gd (h.below hb) hd (by
          intro x hx
          rw [hl] at hx
          obtain ⟨c, j, h1, h2, _, e⟩ := mem_gridL.1 hx
          exact ⟨c, j, e, h1, h2⟩) (by rw [hl]; have := hgl.out S.cs.length (Nat.le_refl _); omega))
      have hfin := hide (fun (l M : List (Int × Int)) (hl : l = gridL (2 ^ S.codes.length) is S.cs.length) (hM : FormP S.cs S.cs.length (· ∈ l) M) (L : List (Int × Int)) (hL : FormP S.cs S.cs.length (bothP S ra rb) L) => show L = M by
        subst hl
        rw [← his] at hM
        exact form_grid gd ga gb hL hM)
      have hisk := hide (fun c k => (congrFun (congrFun his c) k : (mayL S ra c (2 ^ S.codes.length - 1 - k) && mayL S rb c (2 ^ S.codes.length - 1 - k)) = is c k))
      clear h hr hr' h0 gd ga gb ha hb0 his
      generalize FormP S.cs S.cs.length = FP at *
      generalize bothP S ra rb = BP at *
      generalize S.cs.length = n at *
      generalize S.codes.length = n2 at *
      generalize mayL S ra = ma at *
      generalize mayL S rb = mb at *
      generalize 2 ^ n2 = p at *
      generalize ra.length = m at *
      generalize rb.length = m' at *
      go_enter Tryz.func42, Tryz.ntmps42
      go_wp2_with fail
      generalize w.alloc (.cells #[.slice A n cc, .slice A2 n2 c2] 38) = w0 at *
      refine (hask.out _ hB.out).mono ?_
      rintro e w1 ⟨rfl, hb⟩
      replace hS := hide (hS.out.below hb hS.out.lt)
      replace hB := hide (hB.out.trans (hb.mono hB.out.size))
      clear hb hask
      have s0 : w1.cell? ⟨w.heap.size, 0, none⟩ = some (.slice A n cc) := hS.out.cell 0
      have s1 : w1.cell? ⟨w.heap.size, 1, none⟩ = some (.slice A2 n2 c2) := hS.out.cell 1
      go_wp2_with fail
      refine (hask2.out _ hB.out).mono ?_
      rintro e w8 ⟨rfl, hb⟩
      replace hS := hide (hS.out.below hb hS.out.lt)
      replace hB := hide (hB.out.trans (hb.mono hB.out.size))
      clear hb hask2 s0 s1
      have s1 : w8.cell? ⟨w.heap.size, 1, none⟩ = some (.slice A2 n2 c2) := hS.out.cell 1
      have hlz : (p : Int) - 1 = ((p - 1 : Nat) : Int) := by omega
      have hlz2 : IntKind.i64.wrap ((p - 1 : Nat) : Int) = ((p - 1 : Nat) : Int) := Bits.wrap_nat _ (by omega)
      go_wp2_with fail
      refine (hsets.out w8).mono ?_
      rintro e w5 ⟨rfl, rfl⟩
      go_wp2
      clear s1 hsets
      generalize hlast : p - 1 = last at *
      generalize hB8 : w8.heap.size = B8 at *
      have hsz8 : w.heap.size ≤ B8 := by rw [← hB8]; exact hB.out.size
      have hSl := hS.out.lt
      rw [hB8] at hSl
      replace hB8 := hide hB8
      have hgz : gridL p is 0 = [] := rfl
      go_loopg [9, 11] n (fun g av cv wr => ∃ (c : Nat) (l : List (Int × Int)), c ≤ n ∧ n - c ≤ g ∧ cv = .int .i64 c ∧ Hid (Below B8 w8 wr) ∧ Hid (l = gridL p is c) ∧ Hid (wr.ownsRow B8 64 2 av l.length (l.flatMap rtCells)))
      case atStart => exact ⟨0, [], Nat.zero_le _, by omega, rfl, by rw [← hB8.out]; exact Below.refl _ _, hgz.symm, ⟨rfl, .inl ⟨rfl, rfl⟩⟩⟩
      case round =>
        obtain ⟨c, l, hc, hg3, rfl, hW, hl, hown⟩ := hrel
        by_cases hlt3 : c < n
        · have hltz3 : (c : Int) < (n : Int) := by omega
          have hc0 : (0 : Int) ≤ (c : Int) := by omega
          have hgc := hgl.out (c + 1) (by omega)
          rw [gridL_succ] at hgc
          replace hgc := hide hgc
          have s0 : wr.cell? ⟨w.heap.size, 0, none⟩ = some (.slice A n cc) := (hS.out.below hW.out hSl).cell 0
          go_wp2
          clear s0
          go_loopg [9, 12] p (fun g av kv wr => ∃ (k : Nat) (l : List (Int × Int)) (vo : Value), k ≤ p ∧ p - k ≤ g ∧ kv = .int .i64 k ∧ vo = av ∧ Hid (Below B8 w8 wr) ∧ Hid (l = gridL p is c ++ rowL is c k) ∧ Hid (wr.ownsRow B8 64 2 vo l.length (l.flatMap rtCells)))
          case atStart => exact ⟨0, l, _, Nat.zero_le _, by omega, rfl, rfl, hW, by unfold Hid; rw [hl.out]; simp [rowL_zero], hown⟩
          case round =>
            clear hW hl hown
            obtain ⟨k, l, vo, hk, hg4, rfl, rfl, hW, hl, hown⟩ := hrel
            by_cases hlt4 : k < p
            · have hltz4 : (k : Int) ≤ (last : Int) := by omega
              have hk0 : (0 : Int) ≤ (k : Int) := by omega
              have hsub : (last : Int) - (k : Int) = ((last - k : Nat) : Int) := by omega
              have hsub2 : IntKind.i64.wrap ((last - k : Nat) : Int) = ((last - k : Nat) : Int) := Bits.wrap_nat _ (by omega)
              have hik := hisk.out c k
              replace hik := hide hik
              have hqp : last - k < p := by omega
              generalize last - k = q at *
              have hSW := hide (hS.out.below hW.out hSl)
              have s0 : wr.cell? ⟨w.heap.size, 0, none⟩ = some (.slice A n cc) := hSW.out.cell 0
              have s1 : wr.cell? ⟨w.heap.size, 1, none⟩ = some (.slice A2 n2 c2) := hSW.out.cell 1
              go_wp2_with fail
              refine (hall.out c q hlt3 hqp _ (hB.out.trans (hW.out.mono hsz8))).mono ?_
              rintro e w6 ⟨rfl, hb⟩
              have hszw := hW.out.size
              have hB88 := hB8.out
              have hown6 := hide (own_below hown.out hb)
              have hW6 := hide (hW.out.trans (hb.mono (by omega)))
              clear hb s0 s1 hown hW hSW
              cases h1 : ma c q with
              | false =>
                have hl2 := hide (show l = gridL p is c ++ rowL is c (k + 1) by rw [hl.out, rowL_miss (by rw [← hik.out, h1]; rfl)])
                clear h1
                go_wp2
                go_roundg (p - (k + 1))
                case measure => omega
                case rel => exact ⟨k + 1, _, vo, by omega, by omega, by go_num, rfl, hW6, hl2, hown6⟩
              | true =>
                have hSW := hide (hS.out.below hW6.out hSl)
                have s0 : w6.cell? ⟨w.heap.size, 0, none⟩ = some (.slice A n cc) := hSW.out.cell 0
                have s1 : w6.cell? ⟨w.heap.size, 1, none⟩ = some (.slice A2 n2 c2) := hSW.out.cell 1
                go_wp2_with fail
                refine (hall2.out c q hlt3 hqp _ (hB.out.trans (hW6.out.mono hsz8))).mono ?_
                rintro e w7 ⟨rfl, hb⟩
                have hszw := hW6.out.size
                have hown7 := hide (own_below hown6.out hb)
                have hW7 := hide (hW6.out.trans (hb.mono (by omega)))
                clear hb s0 s1 hown6 hW6 hSW
                cases h2 : mb c q with
                | false =>
                  have hl2 := hide (show l = gridL p is c ++ rowL is c (k + 1) by rw [hl.out, rowL_miss (by rw [← hik.out, h1, h2]; rfl)])
                  clear h1 h2
                  go_wp2
                  go_roundg (p - (k + 1))
                  case measure => omega
                  case rel => exact ⟨k + 1, _, vo, by omega, by omega, by go_num, rfl, hW7, hl2, hown7⟩
                | true =>
                  have hl2 := hide (show l ++ [((c : Int), (k : Int))] = gridL p is c ++ rowL is c (k + 1) by rw [hl.out, rowL_hit (by rw [← hik.out, h1, h2]; rfl), List.append_assoc])
                  have hll : l.length ≤ 3072 + 256 := by
                    have h1 := hgc.out
                    have h2 := rowL_len is c k
                    rw [hl.out]
                    rw [List.length_append] at h1 ⊢
                    have h3 : (gridL p is c).length ≤ 12 * 256 := hgl.out c (by omega)
                    omega
                  have hsz := hW7.out.size
                  have hA1 : Below w7.heap.size w7 (w7.alloc (.cells #[.int .i64 c, .int .i64 k] 64)) := (Below.refl _ _).alloc (Nat.le_refl _) _
                  have hown1 := hide (own_below hown7.out hA1)
                  have hone := hide (rdRts_one w7 c k)
                  have hsz1 : B8 ≤ (w7.alloc (.cells #[.int .i64 c, .int .i64 k] 64)).heap.size := by have := hA1.size; omega
                  have hW1 := hide (hW7.out.trans (hA1.mono (by omega)))
                  clear hA1 h1 h2 hown7 hW7
                  go_wp2_with (at_builtin; (refine wpList_append_rts rfl _ _ rfl B8 i0 hi.out hz0.out hz1.out hz2.out _ _ _ rfl hown1.out (some ⟨w7.heap.size, 0, none⟩) 1 1 [((c : Int), (k : Int))] rfl hone.out (fun e => by cases e) (by unfold maxLen; omega) (by omega) hsz1 ?_); intro va wa howna hgrowa)
                  have hWa := hide (hW1.out.grown hgrowa hsz1 (fun k hk => (hown1.out.lt k hk).1))
                  have howna := hide (show wa.ownsRow B8 64 2 va (l ++ [((c : Int), (k : Int))]).length ((l ++ [((c : Int), (k : Int))]).flatMap rtCells) by rw [List.flatMap_append, List.length_append]; exact howna)
                  clear hgrowa hown1 hone hB88
                  go_wp2
                  go_roundg (p - (k + 1))
                  case measure => omega
                  case rel => exact ⟨k + 1, _, va, by omega, by omega, by go_num, rfl, hWa, hl2, howna⟩
            · obtain rfl : p = k := by omega
              have hltz4 : ¬ (p : Int) ≤ (last : Int) := by omega
              have hl2 := hide (show l = gridL p is (c + 1) by rw [hl.out, gridL_succ])
              go_wp2
              go_roundg (n - (c + 1))
              case measure => omega
              case rel => exact ⟨c + 1, _, by omega, by omega, by go_num, hW, hl2, hown⟩
        · obtain rfl : n = c := by omega
          have hltz3 : ¬ (n : Int) < (n : Int) := by omega
          have hll : l.length ≤ 12 * 256 := by rw [hl.out]; exact hgl.out n (Nat.le_refl _)
          obtain ⟨LA, lc, rfl, hLr⟩ := isRts_flat hown.out rfl (by unfold maxLen; omega)
          have hSW := hide (hS.out.below hW.out hSl)
          have s0 : wr.cell? ⟨w.heap.size, 0, none⟩ = some (.slice A n cc) := hSW.out.cell 0
          have s1 : wr.cell? ⟨w.heap.size, 1, none⟩ = some (.slice A2 n2 c2) := hSW.out.cell 1
          have hBW := hide (hB.out.trans (hW.out.mono hsz8))
          have hcall := hide (hform.out l hl.out LA lc wr hBW.out hLr)
          have hfl := hide (fun M => hfin.out l M hl.out)
          clear hform hfin hLr hl hown hgl hisk hall hall2 hSW hW hB hS
          generalize l.length = N at *
          go_wp2_with fail
          clear s0 s1
          refine hcall.out.mono ?_
          rintro e w9 ⟨⟨v, rfl, M, hM, ⟨MA, mc, rfl, hMr⟩, _⟩, hb⟩
          have hB9 := hide (hBW.out.trans (hb.mono hBW.out.size))
          have hEM := hide (hfl.out M hM)
          have hMm := hMr.2
          unfold maxLen at hMm
          clear hb hcall hfl hM
          by_cases h40 : M.length ≤ 40
          · have hz : ¬ (40 : Int) < (M.length : Int) := by omega
            have hMr2 := hide (show IsRts (bV M) (.slice MA M.length mc) w9 by unfold bV; rw [if_pos h40]; exact ⟨_, _, rfl, hMr⟩)
            have hx := hide (show (0 : Int) = bE M by unfold bE; rw [if_pos h40])
            clear hMr
            generalize M.length = ml at *
            go_wp2
            go_ret2
            exact ⟨⟨_, _, rfl, M, .inr ⟨trivial, hx.out, hEM.out, hMr2.out⟩⟩, hB9.out⟩
          · have hz : (40 : Int) < (M.length : Int) := by omega
            have hMr2 := hide (fun W => show IsRts (bV M) (.slice none 0 0) W by unfold bV; rw [if_neg h40]; exact isRts_nil_ _)
            have hx := hide (show (3 : Int) = bE M by unfold bE; rw [if_neg h40])
            clear hMr
            generalize M.length = ml at *
            go_wp2
            go_ret2
            exact ⟨⟨_, _, rfl, M, .inr ⟨trivial, hx.out, hEM.out, hMr2.out _⟩⟩, hB9.out⟩
    · have hq : openF S [ra, rb] = openF S [rb] := by rw [openF_pair, if_pos ha]
      rw [hq]
      clear h hr hr' hq ha
      generalize FormP S.cs S.cs.length = FP at *
      generalize bothP S ra rb = BP at *
      generalize openF S [rb] = q at *
      generalize S.cs.length = n at *
      generalize S.codes.length = n2 at *
      generalize ra.length = m at *
      generalize rb.length = m' at *
      have hb2 : (q != 0) = true := by rw [bne_iff_ne]; exact hb0
      replace hb0 := hide hb0
      go_enter Tryz.func42, Tryz.ntmps42
      go_wp2_with fail
      generalize w.alloc (.cells #[.slice A n cc, .slice A2 n2 c2] 38) = w0 at *
      refine (hask.out _ hB.out).mono ?_
      rintro e w1 ⟨rfl, hb⟩
      replace hS := hide (hS.out.below hb hS.out.lt)
      replace hB := hide (hB.out.trans (hb.mono hB.out.size))
      clear hb hask
      have s0 : w1.cell? ⟨w.heap.size, 0, none⟩ = some (.slice A n cc) := hS.out.cell 0
      have s1 : w1.cell? ⟨w.heap.size, 1, none⟩ = some (.slice A2 n2 c2) := hS.out.cell 1
      go_wp2_with fail
      refine (hask2.out _ hB.out).mono ?_
      rintro e w2 ⟨rfl, hb⟩
      replace hB := hide (hB.out.trans (hb.mono hB.out.size))
      clear hb hask2 s0 s1 hS
      go_wp2
      go_ret2
      exact ⟨⟨_, _, rfl, [], .inl ⟨hb0.out, rfl, isRts_nil_ _⟩⟩, hB.out⟩
  · have hq : openF S [ra, rb] = openF S [ra] := by rw [openF_pair, if_neg ha]
    rw [hq]
    clear h hr hr' hq hask2
    generalize FormP S.cs S.cs.length = FP at *
    generalize bothP S ra rb = BP at *
    generalize openF S [ra] = q at *
    generalize S.cs.length = n at *
    generalize S.codes.length = n2 at *
    generalize ra.length = m at *
    generalize rb.length = m' at *
    have hb2 : (q != 0) = true := by rw [bne_iff_ne]; exact ha
    have hb3 : (q == 0) = false := by rw [beq_eq_false_iff_ne]; exact ha
    replace ha := hide ha
    go_enter Tryz.func42, Tryz.ntmps42
    go_wp2_with fail
    generalize w.alloc (.cells #[.slice A n cc, .slice A2 n2 c2] 38) = w0 at *
    refine (hask.out _ hB.out).mono ?_
    rintro e w1 ⟨rfl, hb⟩
    replace hB := hide (hB.out.trans (hb.mono hB.out.size))
    clear hb hask hS
    go_wp2
    go_ret2
    exact ⟨⟨_, _, rfl, [], .inl ⟨ha.out, rfl, isRts_nil_ _⟩⟩, hB.out⟩
end Go.Proofs.YtjfdfhnfcpfmcaaGreatDoor
