/-
  The reference's Form.
-/
import Derived.Test.YtjfdfhnfcpfmcaaGreatDoorGridM
namespace Go.Proofs.YtjfdfhnfcpfmcaaGreatDoor
open Go.RowKit RG

theorem natR_coe (c k : Nat) : natR ((c : Int), (k : Int)) = (c, k) := by simp [natR]

set_option maxRecDepth 100000 in
set_option maxHeartbeats 8000000 in
theorem FormR_any (A A2 R : Option Addr) (cc c2 cr : Nat) (S : Sys) (rs : List (Int × Int)) (w : World) (gd : Good S) (h : InMem w A A2 cc c2 S) (hr : RdRts w R rs.length rs) (hall : AllR S rs) (hm5 : rs.length ≤ 5000) :
    Calls Tryz.prog 82 #[.agg #[.slice A S.cs.length cc, .slice A2 S.codes.length c2], .slice R rs.length cr] w fun e w' => (∃ v, e = .returned v ∧ ∃ L, FormP S.cs S.cs.length (· ∈ rs) L ∧ IsRts L v w' ∧ L.length ≤ 3072) ∧ Below w.heap.size w w' := by
  obtain ⟨i0, hi, hz0, hz1, hz2⟩ := info_parts infoRt
  replace hi := hide hi
  replace hz0 := hide hz0
  replace hz1 := hide hz1
  replace hz2 := hide hz2
  have hw := hide (fun a1 a2 b1 b2 (W : World) (hb : Below w.heap.size w W) (h1 : a1 < S.cs.length) (h2 : a2 < 2 ^ S.codes.length) (h3 : b1 < S.cs.length) (h4 : b2 < 2 ^ S.codes.length) => WeakerR_any A A2 cc c2 S a1 a2 b1 b2 W (h.below hb) gd h1 h2 h3 h4)
  have hidx := hide (fun i (hi : i < rs.length) => hall (rs[i]?.getD (0, 0)) (by rw [List.getElem?_eq_getElem hi]; exact List.getElem_mem hi))
  have hmem := hide (mem_gridOf hall)
  have hg0 := hide (maskOf_snoc)
  have hn12 := gd.bd.1.2
  have hn28 := gd.bd.2
  have hpb : 2 ^ S.codes.length ≤ 2 ^ 8 := Nat.pow_le_pow_right (by omega) hn28
  have hpb : 2 ^ S.codes.length ≤ 256 := hpb
  have hsets := hide (fun W => SetsR_any S.codes.length W (by omega))
  have hfin := hide (fun (L : List (Int × Int)) (hL : L = (gridL (2 ^ S.codes.length) (fun c k => (maskOf rs c).testBit k) S.cs.length).filter fun x => !((gridL (2 ^ S.codes.length) (fun c k => (maskOf rs c).testBit k) S.cs.length).any fun y => wkI S.cs S.cs.length x y)) => by
    have := form_filter (cs := S.cs) (n := S.cs.length) (gridL_up (2 ^ S.codes.length) (fun c k => (maskOf rs c).testBit k) S.cs.length) (mem_gridOf hall)
    rw [← hL] at this
    exact this)
  have hgl := hide (fun c (hc : c ≤ S.cs.length) => show (gridL (2 ^ S.codes.length) (fun c k => (maskOf rs c).testBit k) c).length ≤ 12 * 256 from Nat.le_trans (gridL_len _ _ _) (Nat.mul_le_mul (by omega) hpb))
  have hmk1 := fun W => mkRows S.cs.length (2 ^ S.codes.length) (fun _ => 0) W (by omega)
  have hmk2 := fun W => mkBools (2 ^ S.codes.length) W (by omega)
  have hB0 := hide (((Below.refl w.heap.size w).alloc (Nat.le_refl _) (.cells #[.slice A S.cs.length cc, .slice A2 S.codes.length c2] 38)).alloc (by simp) (.cells (gridCells S.cs.length (2 ^ S.codes.length) 0 fun _ => 0) 65))
  have hS0 := hide (show Blk ((w.alloc (.cells #[.slice A S.cs.length cc, .slice A2 S.codes.length c2] 38)).alloc (.cells (gridCells S.cs.length (2 ^ S.codes.length) 0 fun _ => 0) 65)) w.heap.size 38 #[.slice A S.cs.length cc, .slice A2 S.codes.length c2] from (Blk.new_ rfl).alloc _)
  have hG0 := hide (Grid.start (G := fun _ => 0) (show Blk ((w.alloc (.cells #[.slice A S.cs.length cc, .slice A2 S.codes.length c2] 38)).alloc (.cells (gridCells S.cs.length (2 ^ S.codes.length) 0 fun _ => 0) 65)) (w.heap.size + 1) 65 (gridCells S.cs.length (2 ^ S.codes.length) 0 fun _ => 0) from Blk.new_ (by simp)))
  clear h gd hall
  have hmx := hr.2
  replace hr := hide hr
  obtain ⟨is, his⟩ : ∃ is : Nat → Nat → Bool, (fun c k => (maskOf rs c).testBit k) = is := ⟨_, rfl⟩
  rw [his] at hfin hmem hgl
  have hisk := hide (fun c k => (congrFun (congrFun his c) k : (maskOf rs c).testBit k = is c k))
  clear his
  generalize hcs : S.cs = cs at *
  generalize hn : cs.length = n at *
  generalize hn2 : S.codes.length = n2 at *
  generalize 2 ^ n2 = p at *
  generalize hmr : rs.length = m at *
  clear hcs
  replace hn := hide hn
  replace hmr := hide hmr
  replace hn2 := hide hn2
  go_enter Tryz.func82, Tryz.ntmps82
  go_wp2
  generalize ((w.alloc (.cells #[.slice A n cc, .slice A2 n2 c2] 38)).alloc (.cells (gridCells n p 0 fun _ => 0) 65)) = w1 at *
  go_loopg [6] n (fun g cv wr => ∃ c : Nat, c ≤ n ∧ n - c ≤ g ∧ cv = .int .i64 c ∧ Hid (Below w.heap.size w wr) ∧ Hid (Blk wr w.heap.size 38 #[.slice A n cc, .slice A2 n2 c2]) ∧ Hid (Grid wr (w.heap.size + 1) n p c (fun _ => 0)))
  case atStart => exact ⟨0, Nat.zero_le _, by omega, rfl, hB0, hS0, hG0⟩
  case round =>
    clear hB0 hS0 hG0
    obtain ⟨c, hc, hg, rfl, hB, hS, hG⟩ := hrel
    have s1 : wr.cell? ⟨w.heap.size, 1, none⟩ = some (.slice A2 n2 c2) := hS.out.cell 1
    by_cases hlt : c < n
    · have hltz : (c : Int) < (n : Int) := by omega
      have hc0 : (0 : Int) ≤ (c : Int) := by omega
      obtain ⟨x, x0, xf⟩ := hG.out.spot hlt
      have hgl1 := hG.out.lt
      have hgl2 : w.heap.size + 1 ≠ wr.heap.size := by omega
      go_wp2_with fail
      refine (hsets.out wr).mono ?_
      rintro e w5 ⟨rfl, rfl⟩
      go_wp2
      go_roundg (n - (c + 1))
      case measure => omega
      case rel => exact ⟨c + 1, by omega, by omega, by go_num, (hB.out.setCell (by simp) _).alloc (by simpa using hB.out.size) _, (hS.out.far (by simp) _).alloc _, hG.out.step hlt rfl⟩
    · obtain rfl : n = c := by omega
      have hltz : ¬ (n : Int) < (n : Int) := by omega
      clear s1
      go_wp2
      go_loopg [7] m (fun g iv wr => ∃ i : Nat, i ≤ m ∧ m - i ≤ g ∧ iv = .int .i64 i ∧ Hid (Below w.heap.size w wr) ∧ Hid (Blk wr w.heap.size 38 #[.slice A n cc, .slice A2 n2 c2]) ∧ Hid (Grid wr (w.heap.size + 1) n p n (maskOf (rs.take i))))
      case atStart => exact ⟨0, Nat.zero_le _, by omega, rfl, hB, hS, by rw [List.take_zero]; exact hG⟩
      case round =>
        clear hB hS hG
        obtain ⟨i, hi5, hg, rfl, hB, hS, hG⟩ := hrel
        by_cases hlt2 : i < m
        · have hltz2 : (i : Int) < (m : Int) := by omega
          have hi0 : (0 : Int) ≤ (i : Int) := by omega
          obtain ⟨d, k, hdk, hd1, hk1⟩ := hidx.out i hlt2
          obtain ⟨b, off, x0, x1, rfl, hb, e1, r0, r1⟩ := (hr.out.below hB.out).1.cells2 hlt2
          rw [row_at rs i (by rw [hmr.out]; exact hlt2), hdk] at e1
          simp only [List.cons.injEq, and_true] at e1
          obtain ⟨rfl, rfl⟩ := e1
          obtain ⟨gc, hgc1, hgc2, hgc⟩ := hG.out.at2 hd1 hk1
          have hnext := hide (show (fun e => if e = d then maskOf (rs.take i) e ||| 2 ^ k else maskOf (rs.take i) e) = maskOf (rs.take (i + 1)) by
            funext e
            rw [List.take_succ_eq_append_getElem (by rw [hmr.out]; exact hlt2), show rs[i]'(by rw [hmr.out]; exact hlt2) = ((d : Int), (k : Int)) by rw [← hdk, List.getElem?_eq_getElem]; rfl, hg0.out])
          have hgl1 := hG.out.lt
          have hdz : (d : Int) < (n : Int) := by omega
          have hd0 : (0 : Int) ≤ (d : Int) := by omega
          have hkz : (k : Int) < (p : Int) := by omega
          have hk0 : (0 : Int) ≤ (k : Int) := by omega
          replace hdk := hide hdk
          replace hgc := hide hgc
          go_wp2
          refine region_grow_tail 14 [IsV (.slice (some ⟨w.heap.size + 1, 0, none⟩) n n), IsV (.slice (some ⟨b, off, none⟩) m cr), IsV (.int .i64 i), IsV (.pointer (some ⟨b, off + i * 2, none⟩)), IsV (.pointer (some ⟨b, off + i * 2, none⟩)), IsV (.int .i64 d), IsV (.pointer (some ⟨w.heap.size + 1, d, none⟩)), IsV (.slice (some ⟨gc, 0, none⟩) p p),
            IsV (.slice (some ⟨b, off, none⟩) m cr), IsV (.int .i64 i), IsV (.pointer (some ⟨b, off + i * 2, none⟩)), IsV (.pointer (some ⟨b, off + i * 2 + 1, none⟩)), IsV (.int .i64 k), IsV (.pointer (some ⟨gc, k, none⟩))] (by kernel_rfl) (by kernel_rfl) rfl ?_ ?_ ?_
          · simp [AllStb, IsV.stb]
          · refine ⟨?_, ?_, ?_, ?_, ?_, ?_, ?_, ?_, ?_, ?_, ?_, ?_, ?_, ?_, trivial⟩
            all_goals
              intro y w6 K Q Cv hC hd hV
              have q0 := (cellB (o := off + i * 2) hC hb).trans r0
              have q1 := (cellB (o := off + i * 2 + 1) hC hb).trans r1
              have q2 := (hgc.out w6 hC).1
              simp [deps, VL, IsV, Region.binds] at hd
              simp only [List.take_succ_cons, List.take_zero, putAll, Act.put]
              go_simp; intro hK; exact hK _ _ (hV _ _ hC (Below.refl _ _) rfl)
          · intro y w6 hC hd
            simp [EndsL, IsV] at hd
            obtain ⟨d0, d1, d2, d3, d4, d5, d6, d7, d8, d9, d10, d11, d12, d13⟩ := hd
            simp only [List.take_succ_cons, List.take_zero, List.drop_succ_cons, List.drop_zero, putAll, Act.put]
            rw [d0, d1, d2, d3, d4, d5, d6, d7, d8, d9, d10, d11, d12, d13]
            clear d0 d1 d2 d3 d4 d5 d6 d7 d8 d9 d10 d11 d12 d13
            simp only [List.setIfInBounds_toArray, List.set_cons_succ, List.set_cons_zero]
            obtain ⟨_, g1, f1, hgr⟩ := hgc.out w6 hC
            rw [hnext.out] at hgr
            have hS6 := hide (hS.out.below hC hS.out.lt)
            have hB6 := hide (hB.out.trans (hC.mono hB.out.size))
            replace hgr := hide hgr
            clear hC r0 r1
            go_wp2
            go_roundg (m - (i + 1))
            case measure => omega
            case rel => exact ⟨i + 1, by omega, by omega, by go_num, hB6.out.setCell (by simp; omega) _, hS6.out.far (by simp; omega) _, hgr⟩
        · obtain rfl : m = i := by omega
          have hltz2 : ¬ (m : Int) < (m : Int) := by omega
          rw [show rs.take m = rs by rw [← hmr.out]; exact List.take_length] at hG
          clear hidx hg0 hsets hmk1 hmk2 hr hmr
          generalize maskOf rs = mk at *
          go_wp2
          obtain ⟨w8, hw8⟩ : ∃ w8, w8 = wr := ⟨_, rfl⟩
          rw [← hw8]
          rw [← hw8] at hB hS hG
          generalize hB8 : w8.heap.size = B8 at *
          have hsz8 : w.heap.size ≤ B8 := by rw [← hB8]; exact hB.out.size
          have hGl := hG.out.lt
          rw [hB8] at hGl
          replace hB8 := hide hB8
          clear hw8
          have hgz : gridL p is 0 = [] := rfl
          go_loopg [8, 9] n (fun g av cv wr => ∃ (c : Nat) (l : List (Int × Int)), c ≤ n ∧ n - c ≤ g ∧ cv = .int .i64 c ∧ Hid (Below B8 w8 wr) ∧ Hid (l = gridL p is c) ∧ Hid (wr.ownsRow B8 64 2 av l.length (l.flatMap rtCells)))
          case atStart => exact ⟨0, [], Nat.zero_le _, by omega, rfl, by rw [← hB8.out]; exact Below.refl _ _, hgz.symm, ⟨rfl, .inl ⟨rfl, rfl⟩⟩⟩
          case round =>
            obtain ⟨c, l, hc, hg3, rfl, hW, hl, hown⟩ := hrel
            by_cases hlt3 : c < n
            · have hltz3 : (c : Int) < (n : Int) := by omega
              have hc0 : (0 : Int) ≤ (c : Int) := by omega
              have hgc := hgl.out (c + 1) (by omega)
              rw [gridL_succ] at hgc
              replace hgc := hide hgc
              go_wp2
              go_loopg [8, 10] p (fun g av kv wr => ∃ (k : Nat) (l : List (Int × Int)), k ≤ p ∧ p - k ≤ g ∧ kv = .int .i64 k ∧ Hid (Below B8 w8 wr) ∧ Hid (l = gridL p is c ++ rowL is c k) ∧ Hid (wr.ownsRow B8 64 2 av l.length (l.flatMap rtCells)))
              case atStart => exact ⟨0, l, Nat.zero_le _, by omega, rfl, hW, by unfold Hid; rw [hl.out]; simp [rowL_zero], hown⟩
              case round =>
                clear hW hl hown
                obtain ⟨k, l, hk, hg4, rfl, hW, hl, hown⟩ := hrel
                obtain ⟨gc, q0, hgcl, q1⟩ := (hG.out.below (by rw [hB8.out]; exact hW.out)).row hlt3
                by_cases hlt4 : k < p
                · have hltz4 : (k : Int) < (p : Int) := by omega
                  have hk0 : (0 : Int) ≤ (k : Int) := by omega
                  have q2 := q1 k hlt4
                  clear q1
                  rw [hisk.out] at q2
                  cases hbit : is c k with
                  | true =>
                    rw [hbit] at q2
                    have hl2 := hide (show l ++ [((c : Int), (k : Int))] = gridL p is c ++ rowL is c (k + 1) by rw [hl.out, rowL_hit hbit, List.append_assoc])
                    have hll : l.length ≤ 3072 + 256 := by
                      have h1 := hgc.out
                      have h2 := rowL_len is c k
                      rw [hl.out]
                      rw [List.length_append] at h1 ⊢
                      have h3 : (gridL p is c).length ≤ 12 * 256 := hgl.out c (by omega)
                      omega
                    have hsz := hW.out.size
                    have hA1 : Below wr.heap.size wr (wr.alloc (.cells #[.int .i64 c, .int .i64 k] 64)) := (Below.refl _ _).alloc (Nat.le_refl _) _
                    have hB88 := hB8.out
                    have hown1 := hide (own_below hown.out hA1)
                    have hone := hide (rdRts_one wr c k)
                    have hsz1 : B8 ≤ (wr.alloc (.cells #[.int .i64 c, .int .i64 k] 64)).heap.size := by have := hA1.size; omega
                    have hW1 := hide (hW.out.trans (hA1.mono (by omega)))
                    clear hA1 hbit
                    go_wp2_with (at_builtin; (refine wpList_append_rts rfl _ _ rfl B8 i0 hi.out hz0.out hz1.out hz2.out _ _ _ rfl hown1.out (some ⟨wr.heap.size, 0, none⟩) 1 1 [((c : Int), (k : Int))] rfl hone.out (fun e => by cases e) (by unfold maxLen; omega) (by omega) hsz1 ?_); intro va wa howna hgrowa)
                    have hWa := hide (hW1.out.grown hgrowa hsz1 (fun k hk => (hown1.out.lt k hk).1))
                    have howna := hide (show wa.ownsRow B8 64 2 va (l ++ [((c : Int), (k : Int))]).length ((l ++ [((c : Int), (k : Int))]).flatMap rtCells) by rw [List.flatMap_append, List.length_append]; exact howna)
                    clear hgrowa hW hown hown1 hone q0 q2 hB88
                    go_wp2
                    go_roundg (p - (k + 1))
                    case measure => omega
                    case rel => exact ⟨k + 1, _, by omega, by omega, by go_num, hWa, hl2, howna⟩
                  | false =>
                    rw [hbit] at q2
                    have hl2 := hide (show l = gridL p is c ++ rowL is c (k + 1) by rw [hl.out, rowL_miss hbit])
                    clear hbit
                    go_wp2
                    go_roundg (p - (k + 1))
                    case measure => omega
                    case rel => exact ⟨k + 1, _, by omega, by omega, by go_num, hW, hl2, hown⟩
                · obtain rfl : p = k := by omega
                  have hltz4 : ¬ (p : Int) < (p : Int) := by omega
                  clear q1
                  have hl2 := hide (show l = gridL p is (c + 1) by rw [hl.out, gridL_succ])
                  go_wp2
                  go_roundg (n - (c + 1))
                  case measure => omega
                  case rel => exact ⟨c + 1, _, by omega, by omega, by go_num, hW, hl2, hown⟩
            · obtain rfl : n = c := by omega
              have hltz3 : ¬ (n : Int) < (n : Int) := by omega
              have hll : l.length ≤ 12 * 256 := by rw [hl.out]; exact hgl.out n (Nat.le_refl _)
              obtain ⟨LA, lc, rfl, hLr⟩ := isRts_flat hown.out rfl (by unfold maxLen; omega)
              have hix := hide (fun i (hi : i < l.length) => show ∃ c k : Nat, l[i]?.getD (0, 0) = ((c : Int), (k : Int)) ∧ c < n ∧ k < p from by
                have h1 : l[i] ∈ l := List.getElem_mem hi
                have h2 : l[i] ∈ gridL p is n := by rw [← hl.out]; exact h1
                obtain ⟨c, j, h3, h4, _, e⟩ := mem_gridL.1 h2
                exact ⟨c, j, by rw [List.getElem?_eq_getElem hi]; exact e, h3, h4⟩)
              have hfin2 := hide (fun (L : List (Int × Int)) (hL : L = l.filter fun x => !(l.any fun y => wkI cs n x y)) => hfin.out L (by rw [hL, hl.out]))
              have hB9 := hide (hB.out.trans (hW.out.mono hsz8))
              have hS9 := hide (hS.out.below hW.out (by omega))
              clear hG hisk hgl hmem hfin hown hW hB hS hgz
              replace hl := hide hl
              clear hl
              obtain ⟨fl, hfl⟩ : ∃ fl : Int × Int → Bool, (fun x => !(l.any fun y => wkI cs n x y)) = fl := ⟨_, rfl⟩
              rw [hfl] at hfin2
              have hflx := hide (fun x => (congrFun hfl x : (!(l.any fun y => wkI cs n x y)) = fl x))
              clear hfl
              have hT := hide (fun i (hi : i < l.length) (hq : l.any (fun y => wkI cs n (l[i]?.getD (0, 0)) y) = true) => show (l.take (i + 1)).filter fl = (l.take i).filter fl by
                rw [List.take_succ_eq_append_getElem hi, List.filter_append, List.filter_cons, ← hflx.out, show l[i] = l[i]?.getD (0, 0) by rw [List.getElem?_eq_getElem hi]; rfl, hq]; simp)
              have hF := hide (fun i (hi : i < l.length) (hq : l.any (fun y => wkI cs n (l[i]?.getD (0, 0)) y) = false) => show (l.take (i + 1)).filter fl = (l.take i).filter fl ++ [l[i]?.getD (0, 0)] by
                rw [List.take_succ_eq_append_getElem hi, List.filter_append, List.filter_cons, ← hflx.out, show l[i] = l[i]?.getD (0, 0) by rw [List.getElem?_eq_getElem hi]; rfl, hq]; simp)
              have hA := hide (fun x k (hk : k < l.length) => show (l.take (k + 1)).any (fun y => wkI cs n x y) = ((l.take k).any (fun y => wkI cs n x y) || wkI cs n x (l[k]?.getD (0, 0))) by
                rw [List.take_succ_eq_append_getElem hk, List.any_append, List.getElem?_eq_getElem hk]; simp)
              have hU := hide (fun x k (hq : (l.take k).any (fun y => wkI cs n x y) = true) => show l.any (fun y => wkI cs n x y) = true from by
                obtain ⟨y, hy, h1⟩ := List.any_eq_true.1 hq
                exact List.any_eq_true.2 ⟨y, List.mem_of_mem_take hy, h1⟩)
              have hE := hide (fun x (bb : Bool) (hq : (l.take l.length).any (fun y => wkI cs n x y) = bb) => show l.any (fun y => wkI cs n x y) = bb by rw [List.take_length] at hq; exact hq)
              have hlen := hide (fun i => show ((l.take i).filter fl).length ≤ 12 * 256 from Nat.le_trans (List.length_filter_le _ _) (Nat.le_trans (List.length_take_le' _ _) hll))
              have hend := hide (show (l.take l.length).filter fl = l.filter fl by rw [List.take_length])
              have hget := hide (fun i (hi : i < l.length) => row_at l i hi)
              clear hflx
              generalize hN : l.length = N at *
              replace hN := hide hN
              clear hmx hm5
              obtain ⟨w9, hw9⟩ : ∃ w9, w9 = wr := ⟨_, rfl⟩
              go_wp2
              rw [← hw9]
              rw [← hw9] at hB9 hS9 hLr
              generalize hB9' : w9.heap.size = B9 at *
              have hsz9 : w.heap.size ≤ B9 := by rw [← hB9']; exact hB9.out.size
              replace hB9' := hide hB9'
              replace hLr := hide hLr
              clear hw9
              go_loopg [11, 12] N (fun g ov iv wr => ∃ (i : Nat) (o : List (Int × Int)) (vo : Value), i ≤ N ∧ N - i ≤ g ∧ iv = .int .i64 i ∧ vo = ov ∧ Hid (Below B9 w9 wr) ∧ Hid (o = (l.take i).filter fl) ∧ Hid (wr.ownsRow B9 64 2 vo o.length (o.flatMap rtCells)))
              case atStart => exact ⟨0, [], _, Nat.zero_le _, by omega, rfl, rfl, by rw [← hB9'.out]; exact Below.refl _ _, by unfold Hid; simp, ⟨rfl, .inl ⟨rfl, rfl⟩⟩⟩
              case round =>
                obtain ⟨i, o, vo, hi5, hg5, rfl, rfl, hW, ho, hown⟩ := hrel
                by_cases hlt5 : i < N
                · have hltz5 : (i : Int) < (N : Int) := by omega
                  have hi50 : (0 : Int) ≤ (i : Int) := by omega
                  obtain ⟨xa, xb, hx, hxa, hxb⟩ := hix.out i hlt5
                  obtain ⟨b, off, z0, z1, rfl, hb, e1, r0, r1⟩ := hLr.out.1.cells2 hlt5
                  rw [hget.out i hlt5, hx] at e1
                  simp only [List.cons.injEq, and_true] at e1
                  obtain ⟨rfl, rfl⟩ := e1
                  have hTi := hT.out i hlt5
                  have hFi := hF.out i hlt5
                  have hAi := hA.out (l[i]?.getD (0, 0))
                  have hUi := hU.out (l[i]?.getD (0, 0))
                  have hEi := hE.out (l[i]?.getD (0, 0))
                  rw [hx] at hTi hFi hAi hUi hEi
                  replace hTi := hide hTi
                  replace hFi := hide hFi
                  replace hAi := hide hAi
                  replace hUi := hide hUi
                  replace hEi := hide hEi
                  replace hx := hide hx
                  replace r0 := hide r0
                  replace r1 := hide r1
                  have hb9 := hB9'.out
                  rw [hb9] at hb
                  go_wp2
                  go_loopg [13, 14] N (fun g bv kv wr => ∃ (k : Nat) (bb : Bool), k ≤ N ∧ N - k ≤ g ∧ kv = .int .i64 k ∧ bv = .bool bb ∧ Hid (Below B9 w9 wr) ∧ Hid (wr.ownsRow B9 64 2 vo o.length (o.flatMap rtCells)) ∧ Hid ((l.take k).any (fun y => wkI cs n ((xa : Int), (xb : Int)) y) = bb))
                  case atStart => exact ⟨0, false, Nat.zero_le _, by omega, rfl, rfl, hW, hown, by unfold Hid; simp⟩
                  case round =>
                    clear hW hown
                    obtain ⟨k, bb, hk, hg6, rfl, rfl, hW, hown, hany⟩ := hrel
                    by_cases hlt6 : k < N
                    · have hltz6 : (k : Int) < (N : Int) := by omega
                      have hk0 : (0 : Int) ≤ (k : Int) := by omega
                      cases bb with
                      | true =>
                        have ho2 := hide (show o = (l.take (i + 1)).filter fl by rw [hTi.out (hUi.out k hany.out)]; exact ho.out)
                        clear hany
                        go_wp2
                        go_roundg (N - (i + 1))
                        case measure => omega
                        case rel => exact ⟨i + 1, o, vo, by omega, by omega, by go_num, rfl, hW, ho2, hown⟩
                      | false =>
                        obtain ⟨ya, yb, hy, hya, hyb⟩ := hix.out k hlt6
                        obtain ⟨b', off', z0, z1, heq, _, e1, t0, t1⟩ := hLr.out.1.cells2 hlt6
                        simp only [Option.some.injEq, Addr.mk.injEq, and_true] at heq
                        obtain ⟨rfl, rfl⟩ := heq
                        rw [hget.out k hlt6, hy] at e1
                        simp only [List.cons.injEq, and_true] at e1
                        obtain ⟨rfl, rfl⟩ := e1
                        have hnx := hAi.out k hlt6
                        rw [hany.out, Bool.false_or, hy] at hnx
                        unfold wkI at hnx
                        rw [natR_coe, natR_coe] at hnx
                        have hcall := hide (fun W (hb : Below w.heap.size w W) => hw.out xa xb ya yb W hb hxa hxb hya hyb)
                        generalize weakB cs n (xa, xb) (ya, yb) = res at *
                        replace hnx := hide hnx
                        replace hy := hide hy
                        have hWB := hide (hB9.out.trans (hW.out.mono hsz9))
                        have hSW := hide (hS9.out.below hW.out (by have := hS9.out.lt; omega))
                        have s0 := hSW.out.cell 0
                        have s1 := hSW.out.cell 1
                        have hSl := hSW.out.lt
                        have p0 := (cellB (o := off + i * 2) hW.out hb).trans r0.out
                        have p1 := (cellB (o := off + i * 2 + 1) hW.out hb).trans r1.out
                        have p2 := (cellB (o := off + k * 2) hW.out hb).trans t0
                        have p3 := (cellB (o := off + k * 2 + 1) hW.out hb).trans t1
                        have hbw : b < wr.heap.size := by have := hW.out.size; omega
                        replace t0 := hide t0
                        replace t1 := hide t1
                        clear hany
                        go_wp2
                        replace s0 := hide s0
                        replace s1 := hide s1
                        replace p0 := hide p0
                        replace p1 := hide p1
                        replace p2 := hide p2
                        replace p3 := hide p3
                        refine region_grow [IsV (.agg #[.slice A n cc, .slice A2 n2 c2]), IsV (.slice (some ⟨b, off, none⟩) N lc), IsV (.int .i64 i), IsV (.pointer (some ⟨b, off + i * 2, none⟩)), IsV (.agg #[.int .i64 xa, .int .i64 xb]), IsV (.slice (some ⟨b, off, none⟩) N lc), IsV (.int .i64 k), IsV (.pointer (some ⟨b, off + k * 2, none⟩)), IsV (.agg #[.int .i64 ya, .int .i64 yb]),
                          IsV (.bool res), IsV (.bool res)] (by kernel_rfl) (by kernel_rfl) rfl ?_ ?_ ?_
                        · simp [AllStb, IsV.stb]
                        · refine ⟨?_, ?_, ?_, ?_, ?_, ?_, ?_, ?_, ?_, ?_, ?_, trivial⟩
                          all_goals
                            intro y w6 K Q Cv hC hd hV
                            have q0 := (cellB (o := 0) hC hSl).trans s0.out
                            have q1 := (cellB (o := 1) hC hSl).trans s1.out
                            have q2 := (cellB (o := off + i * 2) hC hbw).trans p0.out
                            have q3 := (cellB (o := off + i * 2 + 1) hC hbw).trans p1.out
                            have q4 := (cellB (o := off + k * 2) hC hbw).trans p2.out
                            have q5 := (cellB (o := off + k * 2 + 1) hC hbw).trans p3.out
                            simp [deps, VL, IsV, Region.binds] at hd
                          · simp only [putAll, Act.put]; go_simp; intro hK; exact hK _ _ (hV _ _ hC (Below.refl _ _) rfl)
                          · simp only [putAll, Act.put]; go_simp; intro hK; exact hK _ _ (hV _ _ hC (Below.refl _ _) rfl)
                          · simp only [putAll, Act.put]; go_simp; intro hK; exact hK _ _ (hV _ _ hC (Below.refl _ _) rfl)
                          · simp only [putAll, Act.put]; go_simp; intro hK; exact hK _ _ (hV _ _ hC (Below.refl _ _) rfl)
                          · simp only [putAll, Act.put]; go_simp; intro hK; exact hK _ _ (hV _ _ hC (Below.refl _ _) rfl)
                          · simp only [putAll, Act.put]; go_simp; intro hK; exact hK _ _ (hV _ _ hC (Below.refl _ _) rfl)
                          · simp only [putAll, Act.put]; go_simp; intro hK; exact hK _ _ (hV _ _ hC (Below.refl _ _) rfl)
                          · simp only [putAll, Act.put]; go_simp; intro hK; exact hK _ _ (hV _ _ hC (Below.refl _ _) rfl)
                          · simp only [putAll, Act.put]; go_simp; intro hK; exact hK _ _ (hV _ _ hC (Below.refl _ _) rfl)
                          · simp only [putAll, Act.put]; go_simp; intro hK
                            refine (hcall.out w6 (hWB.out.trans (hC.mono hWB.out.size))).mono ?_
                            rintro e w7 ⟨rfl, hb2⟩
                            exact hK _ _ (hV _ _ (hC.trans (hb2.mono hC.size)) hb2 rfl)
                          · simp only [putAll, Act.put]; go_simp; intro hK; exact hK _ _ (hV _ _ hC (Below.refl _ _) rfl)
                        · intro y w6 hC hd
                          simp [EndsL, IsV] at hd
                          obtain ⟨d0, d1, d2, d3, d4, d5, d6, d7, d8, d9, d10⟩ := hd
                          simp only [putAll, Act.put]
                          rw [d0, d1, d2, d3, d4, d5, d6, d7, d8, d9, d10]
                          clear d0 d1 d2 d3 d4 d5 d6 d7 d8 d9 d10
                          simp only [List.setIfInBounds_toArray, List.set_cons_succ, List.set_cons_zero]
                          have hW6 := hide (hW.out.trans (hC.mono (by have := hW.out.size; omega)))
                          have hO6 := hide (own_below hown.out hC)
                          clear hC hW hown
                          go_wp2
                          go_roundg (N - (k + 1))
                          case measure => omega
                          case rel => exact ⟨k + 1, res, by omega, by omega, by go_num, rfl, hW6, hO6, hnx⟩
                    · obtain rfl : N = k := by omega
                      have hltz6 : ¬ (N : Int) < (N : Int) := by omega
                      have hq := hEi.out bb hany.out
                      clear hany
                      cases bb with
                      | true =>
                        have ho2 := hide (show o = (l.take (i + 1)).filter fl by rw [hTi.out hq]; exact ho.out)
                        clear hq
                        go_wp2
                        go_roundg (N - (i + 1))
                        case measure => omega
                        case rel => exact ⟨i + 1, o, vo, by omega, by omega, by go_num, rfl, hW, ho2, hown⟩
                      | false =>
                        have ho2 := hide (show o ++ [((xa : Int), (xb : Int))] = (l.take (i + 1)).filter fl by rw [hFi.out hq, ho.out])
                        have hol : o.length ≤ 12 * 256 := by rw [ho.out]; exact hlen.out i
                        clear hq
                        have hszw := hW.out.size
                        have p0 := (cellB (o := off + i * 2) hW.out hb).trans r0.out
                        have p1 := (cellB (o := off + i * 2 + 1) hW.out hb).trans r1.out
                        have hbw : b < wr.heap.size := by omega
                        have hA1 : Below wr.heap.size wr (wr.alloc (.cells #[.int .i64 xa, .int .i64 xb] 64)) := (Below.refl _ _).alloc (Nat.le_refl _) _
                        have hown1 := hide (own_below hown.out hA1)
                        have hone := hide (rdRts_one wr xa xb)
                        have hsz1 : B9 ≤ (wr.alloc (.cells #[.int .i64 xa, .int .i64 xb] 64)).heap.size := by have := hA1.size; omega
                        have hW1 := hide (hW.out.trans (hA1.mono (by omega)))
                        clear hA1 hW hown
                        go_wp2_with (at_builtin; (refine wpList_append_rts rfl _ _ rfl B9 i0 hi.out hz0.out hz1.out hz2.out _ _ _ rfl hown1.out (some ⟨wr.heap.size, 0, none⟩) 1 1 [((xa : Int), (xb : Int))] rfl hone.out (fun e => by cases e) (by unfold maxLen; omega) (by omega) hsz1 ?_); intro va wa howna hgrowa)
                        have hWa := hide (hW1.out.grown hgrowa hsz1 (fun k hk => (hown1.out.lt k hk).1))
                        have howna := hide (show wa.ownsRow B9 64 2 va (o ++ [((xa : Int), (xb : Int))]).length ((o ++ [((xa : Int), (xb : Int))]).flatMap rtCells) by rw [List.flatMap_append, List.length_append]; exact howna)
                        clear hgrowa hown1 hone p0 p1
                        go_wp2
                        go_roundg (N - (i + 1))
                        case measure => omega
                        case rel => exact ⟨i + 1, _, va, by omega, by omega, by go_num, rfl, hWa, ho2, howna⟩
                · obtain rfl : N = i := by omega
                  have hltz5 : ¬ (N : Int) < (N : Int) := by omega
                  have hol : o.length ≤ 12 * 256 := by rw [ho.out]; exact hlen.out N
                  have ho2 : o = l.filter fl := by rw [← hend.out]; exact ho.out
                  have hfo := hide (hfin2.out o ho2)
                  have hrts := hide (isRts_flat hown.out rfl (by unfold maxLen; omega))
                  have hWW := hide (hB9.out.trans (hW.out.mono hsz9))
                  replace ho2 := hide ho2
                  clear hW hown
                  go_wp2
                  go_ret
                  exact ⟨⟨_, rfl, o, hfo.out, hrts.out, hol⟩, hWW.out⟩
end Go.Proofs.YtjfdfhnfcpfmcaaGreatDoor
