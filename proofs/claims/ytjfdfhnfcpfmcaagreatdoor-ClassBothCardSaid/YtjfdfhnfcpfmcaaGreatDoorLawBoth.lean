/-
  The law ClassBoth returns true.
-/
import Derived.Test.YtjfdfhnfcpfmcaaGreatDoorMo
namespace Go.Proofs.YtjfdfhnfcpfmcaaGreatDoor
open Go.RowKit RG

/-- What Both returns of valid lists of which L is the form. -/
def bothE (L : List (Int × Int)) : Int := if L.length ≤ 40 then 0 else 3
def bothV (L : List (Int × Int)) : List (Int × Int) := if L.length ≤ 40 then L else []
theorem isRts_nil (w : World) : IsRts [] (.slice none 0 0) w := ⟨none, 0, rfl, ⟨RdRow.nil _ _ _, by unfold maxLen; simp⟩⟩
theorem Both_U (A A2 R R' : Option Addr) (cc c2 cr cr' : Nat) (S : Sys) (ra rb : List (Int × Int)) (w : World) (h : InMem w A A2 cc c2 S) (hr : RdRts w R ra.length ra) (hr' : RdRts w R' rb.length rb) (h0 : openF S [ra, rb] = 0) :
    Calls Tryz.prog 41 #[.agg #[.slice A S.cs.length cc, .slice A2 S.codes.length c2], .slice R ra.length cr, .slice R' rb.length cr'] w fun e w' =>
      (∃ v L, e = .returned (.tuple #[v, .int .i64 (bothE L)]) ∧ FormP S.cs S.cs.length (bothP S ra rb) L ∧ IsRts (bothV L) v w') ∧ Below w.heap.size w w' := by
  refine (Both_E A A2 R R' cc c2 cr cr' S ra rb w h hr hr').mono ?_
  rintro e w' ⟨⟨h1, _⟩ | ⟨_, L, hf, ⟨h2, rfl⟩ | ⟨h2, v, rfl, hv⟩⟩, hb⟩
  · exact absurd h0 h1
  · exact ⟨⟨_, L, by unfold bothE; rw [if_neg (by omega)], hf, by unfold bothV; rw [if_neg (by omega)]; exact isRts_nil _⟩, hb⟩
  · exact ⟨⟨v, L, by unfold bothE; rw [if_pos h2], hf, by unfold bothV; rw [if_pos h2]; exact hv⟩, hb⟩
set_option maxRecDepth 100000 in
set_option maxHeartbeats 8000000 in
theorem LawBoth_any (A A2 R R' : Option Addr) (cc c2 cr cr' : Nat) (S : Sys) (ra rb : List (Int × Int)) (w : World) (he : Env w) (h : InMem w A A2 cc c2 S) (hra : RdRts w R ra.length ra) (hrb : RdRts w R' rb.length rb) :
    Calls Tryz.prog 16 #[.agg #[.slice A S.cs.length cc, .slice A2 S.codes.length c2], .slice R ra.length cr, .slice R' rb.length cr'] w fun e w' => e = .returned (.bool true) ∧ Below w.heap.size w w' := by
  have hB := hide ((Below.refl w.heap.size w).alloc (Nat.le_refl _) (.cells #[.slice A S.cs.length cc, .slice A2 S.codes.length c2] 38))
  have hS := hide (Blk.new_ (w := w) (g := w.heap.size) (t := 38) (cs := #[.slice A S.cs.length cc, .slice A2 S.codes.length c2]) rfl)
  replace he := hide (he.below hB.out he.size)
  have hval := hide (fun (L : Option Addr) (W : World) (hb : Below w.heap.size w W) (hl : RdLists W L 2 [ra, rb]) => valid_any A A2 L cc c2 2 2 S [ra, rb] W (h.below hb) hl)
  have hrA := hide (fun W (hb : Below w.heap.size w W) => hra.below hb)
  have hrB := hide (fun W (hb : Below w.heap.size w W) => hrb.below hb)
  by_cases h0 : openF S [ra, rb] = 0
  · have h0' : openF S [rb, ra] = 0 := by rw [openF_two] at h0 ⊢; exact ⟨h0.2, h0.1⟩
    have h0a : openF S [ra, ra] = 0 := by rw [openF_two] at h0 ⊢; exact ⟨h0.1, h0.1⟩
    have oa := ((openF_two S ra rb).1 h0).1
    have gd := (openF_good h0).1
    have ga := (openF_good h0).2 ra (by simp)
    have gb := (openF_good h0).2 rb (by simp)
    rw [h0] at hval
    have hc1 := hide (fun W (hb : Below w.heap.size w W) => Both_U A A2 R R' cc c2 cr cr' S ra rb W (h.below hb) (hra.below hb) (hrb.below hb) h0)
    have hc2 := hide (fun W (hb : Below w.heap.size w W) => Both_U A A2 R' R cc c2 cr' cr S rb ra W (h.below hb) (hrb.below hb) (hra.below hb) h0')
    have hc3 := hide (fun W (hb : Below w.heap.size w W) => Both_U A A2 R R cc c2 cr cr S ra ra W (h.below hb) (hra.below hb) (hra.below hb) h0a)
    have hc4 := hide (fun W (hb : Below w.heap.size w W) => (Least_E A A2 R cc c2 cr S ra W (h.below hb) (hra.below hb)).mono (R' := fun e w' => (∃ v L, e = .returned (.tuple #[v, .int .i64 0]) ∧ FormP S.cs S.cs.length (· ∈ ra) L ∧ IsRts L v w') ∧ Below W.heap.size W w') (fun e w' hh => ⟨by
      rcases hh.1 with h1 | h1
      · exact absurd oa h1.1
      · exact h1.2, hh.2⟩))
    have hrt := hide (fun (L : List (Int × Int)) (gL : GoodR S L) (D : Option Addr) (dc : Nat) (W : World) (hb : Below w.heap.size w W) (hl : RdRts W D L.length L) => (RightsR_any A A2 D S.cs.length cc S.codes.length c2 L.length dc L W h.len1 (by have := gd.bd.2; omega) hl).mono (R' := fun e w' => e = .returned (.int .i64 0) ∧ Below W.heap.size W w') (fun e w' hh => ⟨by rw [hh.1, rightsF_good gL], hh.2⟩))
    have hall := hide (fun (L : List (Int × Int)) (gL : GoodR S L) (D : Option Addr) (dc : Nat) (c f : Nat) (hc : c < S.cs.length) (hf : f < 2 ^ S.codes.length) (W : World) (hb : Below w.heap.size w W) (hl : RdRts W D L.length L) =>
      show Calls Tryz.prog 53 #[.agg #[.slice A S.cs.length cc, .slice A2 S.codes.length c2], .slice D L.length dc, .int .i64 c, .int .i64 f] W fun e w' => e = .returned (.bool (mayL S L c f)) ∧ Below W.heap.size W w' from AllowedR_any A A2 D cc c2 dc S L c f W (h.below hb) gd hl gL hc hf)
    have hself := hide (fun (L M : List (Int × Int)) (hL : FormP S.cs S.cs.length (bothP S ra ra) L) (hM : FormP S.cs S.cs.length (· ∈ ra) M) => (show L = M ∧ M.length ≤ 40 from ⟨form_both_self gd ga hL hM, by have := hM.len; have := ga.1; omega⟩))
    have hform := hide (fun (L : List (Int × Int)) (hL : FormP S.cs S.cs.length (bothP S ra rb) L) (c f : Nat) (hc : c < S.cs.length) => form_both gd ga gb hL (f := f) hc)
    have hgood := hide (fun (L : List (Int × Int)) (hL : FormP S.cs S.cs.length (bothP S ra rb) L) (h : L.length ≤ 40) => form_both_good gd ga gb hL h)
    have hn12 := gd.bd.1.2
    have hn28 := gd.bd.2
    clear h hra hrb h0 h0' h0a oa gd
    replace ga := hide ga
    replace gb := hide gb
    generalize hn : S.cs.length = n at *
    generalize hn2 : S.codes.length = n2 at *
    replace hn := hide hn
    replace hn2 := hide hn2
    go_enter Tryz.func16, Tryz.ntmps16
    go_wp2_with fail
    generalize w.alloc (.cells #[.slice A n cc, .slice A2 n2 c2] 38) = w0 at *
    refine (hc1.out _ hB.out).mono ?_
    rintro e w1 ⟨⟨v, L, rfl, hL, hV⟩, hb⟩
    replace he := hide (he.out.below hb he.out.size)
    replace hS := hide (hS.out.below hb hS.out.lt)
    replace hB := hide (hB.out.trans (hb.mono hB.out.size))
    clear hb hc1
    replace hL := hide hL
    replace hV := hide hV
    have s0 : w1.cell? ⟨w.heap.size, 0, none⟩ = some (.slice A n cc) := hS.out.cell 0
    have s1 : w1.cell? ⟨w.heap.size, 1, none⟩ = some (.slice A2 n2 c2) := hS.out.cell 1
    go_wp2_with fail
    clear s0 s1
    refine (hc2.out _ hB.out).mono ?_
    rintro e w2 ⟨⟨v2, M, rfl, hM, hU⟩, hb⟩
    replace he := hide (he.out.below hb he.out.size)
    replace hS := hide (hS.out.below hb hS.out.lt)
    replace hV := hide (IsRts.stb _ _ _ _ hb hV.out)
    replace hB := hide (hB.out.trans (hb.mono hB.out.size))
    clear hb
    obtain rfl : L = M := form_both_comm (S := S) (ra := ra) (rb := rb) (by rw [hn.out]; exact hL.out) (by rw [hn.out]; exact hM)
    clear hM hc2
    have hA : Below w2.heap.size w2 (w2.alloc (.cells #[.slice R ra.length cr, .slice R' rb.length cr'] 46)) := (Below.refl _ _).alloc (Nat.le_refl _) _
    have hL3 := hide (RdLists.two (hrA.out _ hB.out) (hrB.out _ hB.out) (c := cr) (c' := cr') 46)
    have s0 : w2.cell? ⟨w.heap.size, 0, none⟩ = some (.slice A n cc) := hS.out.cell 0
    have s1 : w2.cell? ⟨w.heap.size, 1, none⟩ = some (.slice A2 n2 c2) := hS.out.cell 1
    replace he := hide (he.out.below hA he.out.size)
    replace hS := hide (hS.out.below hA hS.out.lt)
    replace hV := hide (IsRts.stb _ _ _ _ hA hV.out)
    replace hU := hide (IsRts.stb _ _ _ _ hA hU)
    replace hB := hide (hB.out.trans (hA.mono hB.out.size))
    clear hA
    go_wp2_with fail
    clear s0 s1
    generalize w2.heap.size = g3 at *
    generalize w2.alloc (.cells #[.slice R ra.length cr, .slice R' rb.length cr'] 46) = w3 at *
    refine (hval.out _ _ hB.out hL3.out).mono ?_
    rintro e w4 ⟨rfl, hb⟩
    replace he := hide (he.out.below hb he.out.size)
    replace hS := hide (hS.out.below hb hS.out.lt)
    replace hB := hide (hB.out.trans (hb.mono hB.out.size))
    obtain ⟨D, dc, rfl, hD⟩ := IsRts.stb _ _ _ _ hb hV.out
    obtain ⟨E, ec, rfl, hE⟩ := IsRts.stb _ _ _ _ hb hU.out
    clear hb hV hU hval hL3
    replace hD := hide hD
    replace hE := hide hE
    have hsm := hide (fun W (hb : Below w4.heap.size w4 W) (_ : (bothV L).length ≤ maxLen) => (Same_any D E (bothV L).length (bothV L).length dc ec (bothV L) (bothV L) W (hD.out.below hb) (hE.out.below hb)).mono (R' := fun e w' => e = .returned (.bool true) ∧ Below W.heap.size W w') (fun e w' hh => ⟨by rw [hh.1, decide_eq_true rfl], hh.2⟩))
    have hee : (bothE L != bothE L) = false := by simp
    by_cases h40 : L.length ≤ 40
    · have hE0 : bothE L = 0 := by unfold bothE; rw [if_pos h40]
      have hV0 : bothV L = L := by unfold bothV; rw [if_pos h40]
      rw [hE0, hV0]
      rw [hV0] at hsm hD
      have gL := hgood.out L hL.out h40
      have hfo := hide (fun c f hc => hform.out L hL.out c f hc)
      clear hE0 hV0 hE hee hgood hform
      replace gL := hide gL
      go_wp2_with fail
      refine (hsm.out _ (Below.refl _ _) (by unfold maxLen; omega)).mono ?_
      rintro e w5 ⟨rfl, hb⟩
      replace he := hide (he.out.below hb he.out.size)
      replace hS := hide (hS.out.below hb hS.out.lt)
      replace hB := hide (hB.out.trans (hb.mono hB.out.size))
      replace hD := hide (hD.out.below hb)
      clear hb hsm
      have s0 : w5.cell? ⟨w.heap.size, 0, none⟩ = some (.slice A n cc) := hS.out.cell 0
      have s1 : w5.cell? ⟨w.heap.size, 1, none⟩ = some (.slice A2 n2 c2) := hS.out.cell 1
      go_wp2_with fail
      clear s0 s1
      refine (hrt.out L gL.out D dc _ hB.out hD.out).mono ?_
      rintro e w6 ⟨rfl, hb⟩
      replace he := hide (he.out.below hb he.out.size)
      replace hS := hide (hS.out.below hb hS.out.lt)
      replace hD := hide (hD.out.below hb)
      replace hB := hide (hB.out.trans (hb.mono hB.out.size))
      clear hb
      have hs := hide (fun W => SetsR_any n2 W (by omega))
      have hpb : 2 ^ n2 ≤ 2 ^ 8 := Nat.pow_le_pow_right (by omega) hn28
      have hpb : 2 ^ n2 ≤ 256 := hpb
      have hLc := hide (fun c f hc hf W (hb : Below w6.heap.size w6 W) => hall.out L gL.out D dc c f hc hf W (hB.out.trans (hb.mono hB.out.size)) (hD.out.below hb))
      have hRc := hide (fun c f hc hf W (hb : Below w6.heap.size w6 W) => hall.out ra ga.out R cr c f hc hf W (hB.out.trans (hb.mono hB.out.size)) (hrA.out W (hB.out.trans (hb.mono hB.out.size))))
      have hTc := hide (fun c f hc hf W (hb : Below w6.heap.size w6 W) => hall.out rb gb.out R' cr' c f hc hf W (hB.out.trans (hb.mono hB.out.size)) (hrB.out W (hB.out.trans (hb.mono hB.out.size))))
      clear hrt hall hD gL ga gb hL
      generalize L.length = ml at *
      generalize mayL S L = fl at *
      generalize mayL S ra = fa at *
      generalize mayL S rb = fb at *
      generalize 2 ^ n2 = p at *
      go_wp2
      go_loopg [11] n (fun g cv wr => ∃ ic : Nat, ic ≤ n ∧ n - ic ≤ g ∧ cv = .int .i64 ic ∧ Hid (Below w6.heap.size w6 wr))
      case atStart => exact ⟨0, Nat.zero_le _, by omega, rfl, Below.refl _ _⟩
      case round =>
        obtain ⟨ic, hic, hg, rfl, BW⟩ := hrel
        have SW := hide (hS.out.below BW.out hS.out.lt)
        have s0 : wr.cell? ⟨w.heap.size, 0, none⟩ = some (.slice A n cc) := SW.out.cell 0
        have s1 : wr.cell? ⟨w.heap.size, 1, none⟩ = some (.slice A2 n2 c2) := SW.out.cell 1
        by_cases hltc : ic < n
        · have hltcz : (ic : Int) < (n : Int) := by omega
          go_wp2
          clear s0 s1
          go_loopg [12] p (fun g2 fv wr' => ∃ q : Nat, q ≤ p ∧ p - q ≤ g2 ∧ fv = .int .i64 q ∧ Hid (Below w6.heap.size w6 wr'))
          case atStart => exact ⟨0, Nat.zero_le _, by omega, rfl, BW⟩
          case round =>
            clear BW SW
            obtain ⟨q, hq, hg2, rfl, BW⟩ := hrel
            have SW := hide (hS.out.below BW.out hS.out.lt)
            have s0 : wr.cell? ⟨w.heap.size, 0, none⟩ = some (.slice A n cc) := SW.out.cell 0
            have s1 : wr.cell? ⟨w.heap.size, 1, none⟩ = some (.slice A2 n2 c2) := SW.out.cell 1
            go_wp2_with fail
            refine (hs.out _).mono ?_
            rintro e w' ⟨rfl, rfl⟩
            by_cases hltq : q < p
            · have hltz2 : (q : Int) < (p : Int) := by omega
              have k1 := hide (fun W (hb : Below wr.heap.size wr W) => hLc.out ic q hltc hltq W (BW.out.trans (hb.mono BW.out.size)))
              have k2 := hide (fun W (hb : Below wr.heap.size wr W) => hRc.out ic q hltc hltq W (BW.out.trans (hb.mono BW.out.size)))
              have k3 := hide (fun W (hb : Below wr.heap.size wr W) => hTc.out ic q hltc hltq W (BW.out.trans (hb.mono BW.out.size)))
              rw [hfo.out ic q hltc] at k1
              generalize fa ic q = a at *
              generalize fb ic q = b at *
              go_wp2
              clear s0 s1
              cases a with
              | true =>
                refine region_grow [IsV (.agg #[.slice A n cc, .slice A2 n2 c2]), IsV (.slice D ml dc), IsV (.int .i64 ic), IsV (.int .i64 q), IsV (.bool b), IsV (.agg #[.slice A n cc, .slice A2 n2 c2]), IsV (.slice R ra.length cr), IsV (.int .i64 ic), IsV (.int .i64 q), IsV (.bool true), IsV (.bool true), IsV (.agg #[.slice A n cc, .slice A2 n2 c2]), IsV (.slice R' rb.length cr'), IsV (.int .i64 ic), IsV (.int .i64 q), IsV (.bool b), IsV (.bool b), IsV (.bool false)] (by kernel_rfl) (by kernel_rfl) rfl ?_ ?_ ?_
                · simp [AllStb, IsV.stb]
                · refine ⟨?_, ?_, ?_, ?_, ?_, ?_, ?_, ?_, ?_, ?_, ?_, ?_, ?_, ?_, ?_, ?_, ?_, ?_, trivial⟩
                  all_goals
                    intro y w1 K Q Cv hC hd hV
                    have hz := hC.size
                    have c0 : w1.cell? ⟨w.heap.size, 0, none⟩ = some (.slice A n cc) := (cellB hC SW.out.lt).trans (SW.out.cell 0)
                    have c1 : w1.cell? ⟨w.heap.size, 1, none⟩ = some (.slice A2 n2 c2) := (cellB hC SW.out.lt).trans (SW.out.cell 1)
                    simp [deps, VL, IsV, Region.binds] at hd
                  · simp only [putAll, Act.put]; go_simp; intro hK; exact hK _ _ (hV _ _ hC (Below.refl _ _) rfl)
                  · simp only [putAll, Act.put]; go_simp; intro hK; exact hK _ _ (hV _ _ hC (Below.refl _ _) rfl)
                  · simp only [putAll, Act.put]; go_simp; intro hK; exact hK _ _ (hV _ _ hC (Below.refl _ _) rfl)
                  · simp only [putAll, Act.put]; go_simp; intro hK; exact hK _ _ (hV _ _ hC (Below.refl _ _) rfl)
                  · clear c0 c1
                    simp only [putAll, Act.put]; go_simp; intro hK
                    refine (k1.out w1 hC).mono ?_
                    rintro e w2 ⟨rfl, hb2⟩
                    exact hK _ _ (hV _ _ (hC.trans (hb2.mono hz)) hb2 (by first | rfl | simp [VL, IsV]))
                  · simp only [putAll, Act.put]; go_simp; intro hK; exact hK _ _ (hV _ _ hC (Below.refl _ _) rfl)
                  · simp only [putAll, Act.put]; go_simp; intro hK; exact hK _ _ (hV _ _ hC (Below.refl _ _) rfl)
                  · simp only [putAll, Act.put]; go_simp; intro hK; exact hK _ _ (hV _ _ hC (Below.refl _ _) rfl)
                  · simp only [putAll, Act.put]; go_simp; intro hK; exact hK _ _ (hV _ _ hC (Below.refl _ _) rfl)
                  · clear c0 c1
                    simp only [putAll, Act.put]; go_simp; intro hK
                    refine (k2.out w1 hC).mono ?_
                    rintro e w2 ⟨rfl, hb2⟩
                    exact hK _ _ (hV _ _ (hC.trans (hb2.mono hz)) hb2 (by first | rfl | simp [VL, IsV]))
                  · simp only [putAll, Act.put]; go_simp; intro hK; exact hK _ _ (hV _ _ hC (Below.refl _ _) rfl)
                  · simp only [putAll, Act.put]; go_simp; intro hK; exact hK _ _ (hV _ _ hC (Below.refl _ _) rfl)
                  · simp only [putAll, Act.put]; go_simp; intro hK; exact hK _ _ (hV _ _ hC (Below.refl _ _) rfl)
                  · simp only [putAll, Act.put]; go_simp; intro hK; exact hK _ _ (hV _ _ hC (Below.refl _ _) rfl)
                  · simp only [putAll, Act.put]; go_simp; intro hK; exact hK _ _ (hV _ _ hC (Below.refl _ _) rfl)
                  · clear c0 c1
                    simp only [putAll, Act.put]; go_simp; intro hK
                    refine (k3.out w1 hC).mono ?_
                    rintro e w2 ⟨rfl, hb2⟩
                    exact hK _ _ (hV _ _ (hC.trans (hb2.mono hz)) hb2 (by first | rfl | simp [VL, IsV]))
                  · simp only [putAll, Act.put]; go_simp; intro hK; exact hK _ _ (hV _ _ hC (Below.refl _ _) (by first | rfl | simp [VL, IsV]))
                  · simp only [putAll, Act.put]; go_simp; intro hK; exact hK _ _ (hV _ _ hC (Below.refl _ _) (by first | rfl | simp [VL, IsV]))
                · intro y w1 hC hd
                  have BW1 := hide (BW.out.trans (hC.mono BW.out.size))
                  simp [EndsL, IsV] at hd
                  obtain ⟨d0, d1, d2, d3, d4, d5, d6, d7, d8, d9, d10, d11, d12, d13, d14, d15, d16, d17⟩ := hd
                  simp only [putAll, Act.put]
                  rw [d17]
                  clear d0 d1 d2 d3 d4 d5 d6 d7 d8 d9 d10 d11 d12 d13 d14 d15 d16 d17 BW SW k1 k2 k3 hC
                  simp only [List.setIfInBounds_toArray, List.set_cons_succ, List.set_cons_zero]
                  go_wp2
                  go_roundg (p - (q + 1))
                  case measure => omega
                  case rel => exact ⟨q + 1, by omega, by omega, by go_num, BW1⟩
              | false =>
                refine region_grow [IsV (.agg #[.slice A n cc, .slice A2 n2 c2]), IsV (.slice D ml dc), IsV (.int .i64 ic), IsV (.int .i64 q), IsV (.bool false), IsV (.agg #[.slice A n cc, .slice A2 n2 c2]), IsV (.slice R ra.length cr), IsV (.int .i64 ic), IsV (.int .i64 q), IsV (.bool false), IsV (.bool false), IsV undef, IsV undef, IsV undef, IsV undef, IsV undef, IsV (.bool false), IsV (.bool false)] (by kernel_rfl) (by kernel_rfl) rfl ?_ ?_ ?_
                · simp [AllStb, IsV.stb]
                · refine ⟨?_, ?_, ?_, ?_, ?_, ?_, ?_, ?_, ?_, ?_, ?_, ?_, ?_, ?_, ?_, ?_, ?_, ?_, trivial⟩
                  all_goals
                    intro y w1 K Q Cv hC hd hV
                    have hz := hC.size
                    have c0 : w1.cell? ⟨w.heap.size, 0, none⟩ = some (.slice A n cc) := (cellB hC SW.out.lt).trans (SW.out.cell 0)
                    have c1 : w1.cell? ⟨w.heap.size, 1, none⟩ = some (.slice A2 n2 c2) := (cellB hC SW.out.lt).trans (SW.out.cell 1)
                    simp [deps, VL, IsV, Region.binds] at hd
                  · simp only [putAll, Act.put]; go_simp; intro hK; exact hK _ _ (hV _ _ hC (Below.refl _ _) rfl)
                  · simp only [putAll, Act.put]; go_simp; intro hK; exact hK _ _ (hV _ _ hC (Below.refl _ _) rfl)
                  · simp only [putAll, Act.put]; go_simp; intro hK; exact hK _ _ (hV _ _ hC (Below.refl _ _) rfl)
                  · simp only [putAll, Act.put]; go_simp; intro hK; exact hK _ _ (hV _ _ hC (Below.refl _ _) rfl)
                  · clear c0 c1
                    simp only [putAll, Act.put]; go_simp; intro hK
                    refine (k1.out w1 hC).mono ?_
                    rintro e w2 ⟨rfl, hb2⟩
                    exact hK _ _ (hV _ _ (hC.trans (hb2.mono hz)) hb2 (by first | rfl | simp [VL, IsV]))
                  · simp only [putAll, Act.put]; go_simp; intro hK; exact hK _ _ (hV _ _ hC (Below.refl _ _) rfl)
                  · simp only [putAll, Act.put]; go_simp; intro hK; exact hK _ _ (hV _ _ hC (Below.refl _ _) rfl)
                  · simp only [putAll, Act.put]; go_simp; intro hK; exact hK _ _ (hV _ _ hC (Below.refl _ _) rfl)
                  · simp only [putAll, Act.put]; go_simp; intro hK; exact hK _ _ (hV _ _ hC (Below.refl _ _) rfl)
                  · clear c0 c1
                    simp only [putAll, Act.put]; go_simp; intro hK
                    refine (k2.out w1 hC).mono ?_
                    rintro e w2 ⟨rfl, hb2⟩
                    exact hK _ _ (hV _ _ (hC.trans (hb2.mono hz)) hb2 (by first | rfl | simp [VL, IsV]))
                  · simp only [putAll, Act.put]; go_simp; intro hK; exact hK _ _ (hV _ _ hC (Below.refl _ _) rfl)
                  · simp only [putAll, Act.put]; go_simp; intro hK; exact hK _ _ (hV _ _ hC (Below.refl _ _) rfl)
                  · simp only [putAll, Act.put]; go_simp; intro hK; exact hK _ _ (hV _ _ hC (Below.refl _ _) rfl)
                  · simp only [putAll, Act.put]; go_simp; intro hK; exact hK _ _ (hV _ _ hC (Below.refl _ _) rfl)
                  · simp only [putAll, Act.put]; go_simp; intro hK; exact hK _ _ (hV _ _ hC (Below.refl _ _) rfl)
                  · simp only [putAll, Act.put]; go_simp; intro hK; exact hK _ _ (hV _ _ hC (Below.refl _ _) rfl)
                  · simp only [putAll, Act.put]; go_simp; intro hK; exact hK _ _ (hV _ _ hC (Below.refl _ _) (by first | rfl | simp [VL, IsV]))
                  · simp only [putAll, Act.put]; go_simp; intro hK; exact hK _ _ (hV _ _ hC (Below.refl _ _) (by first | rfl | simp [VL, IsV]))
                · intro y w1 hC hd
                  have BW1 := hide (BW.out.trans (hC.mono BW.out.size))
                  simp [EndsL, IsV] at hd
                  obtain ⟨d0, d1, d2, d3, d4, d5, d6, d7, d8, d9, d10, d11, d12, d13, d14, d15, d16, d17⟩ := hd
                  simp only [putAll, Act.put]
                  rw [d17]
                  clear d0 d1 d2 d3 d4 d5 d6 d7 d8 d9 d10 d11 d12 d13 d14 d15 d16 d17 BW SW k1 k2 k3 hC
                  simp only [List.setIfInBounds_toArray, List.set_cons_succ, List.set_cons_zero]
                  go_wp2
                  go_roundg (p - (q + 1))
                  case measure => omega
                  case rel => exact ⟨q + 1, by omega, by omega, by go_num, BW1⟩
            · obtain rfl : q = p := by omega
              have hltz2 : ¬ (q : Int) < (q : Int) := by omega
              clear s0 s1
              go_wp2
              go_roundg (n - (ic + 1))
              case measure => omega
              case rel => exact ⟨ic + 1, by omega, by omega, by go_num, BW⟩
        · obtain rfl : ic = n := by omega
          have hltcz : ¬ (ic : Int) < (ic : Int) := by omega
          replace he := hide (he.out.below BW.out he.out.size)
          replace hB := hide (hB.out.trans (BW.out.mono hB.out.size))
          replace hS := SW
          clear SW BW hLc hRc hTc hs hfo
          clear s0 s1
          have s0 : wr.cell? ⟨w.heap.size, 0, none⟩ = some (.slice A ic cc) := hS.out.cell 0
          have s1 : wr.cell? ⟨w.heap.size, 1, none⟩ = some (.slice A2 n2 c2) := hS.out.cell 1
          go_wp2_with fail
          clear s0 s1
          refine (hc3.out _ hB.out).mono ?_
          rintro e wx ⟨⟨v3, L3, rfl, hF3, hV3⟩, hb⟩
          replace he := hide (he.out.below hb he.out.size)
          replace hS := hide (hS.out.below hb hS.out.lt)
          replace hB := hide (hB.out.trans (hb.mono hB.out.size))
          clear hb
          replace hF3 := hide hF3
          replace hV3 := hide hV3
          have s0 : wx.cell? ⟨w.heap.size, 0, none⟩ = some (.slice A ic cc) := hS.out.cell 0
          have s1 : wx.cell? ⟨w.heap.size, 1, none⟩ = some (.slice A2 n2 c2) := hS.out.cell 1
          go_wp2_with fail
          clear s0 s1
          refine (hc4.out _ hB.out).mono ?_
          rintro e wy ⟨⟨v4, L4, rfl, hF4, hV4⟩, hb⟩
          replace he := hide (he.out.below hb he.out.size)
          replace hS := hide (hS.out.below hb hS.out.lt)
          replace hV3 := hide (IsRts.stb _ _ _ _ hb hV3.out)
          replace hB := hide (hB.out.trans (hb.mono hB.out.size))
          clear hb
          obtain ⟨hLM, hM40⟩ := hself.out L3 L4 hF3.out hF4
          subst hLM
          have hE3 : bothE L3 = 0 := by unfold bothE; rw [if_pos hM40]
          have hV3' : bothV L3 = L3 := by unfold bothV; rw [if_pos hM40]
          rw [hV3'] at hV3
          rw [hE3]
          obtain ⟨D3, dc3, rfl, hD3⟩ := hV3.out
          obtain ⟨D4, dc4, rfl, hD4⟩ := hV4
          replace hD3 := hide hD3
          replace hD4 := hide hD4
          clear hE3 hV3' hV3 hF3 hF4 hself hc3 hc4
          go_wp2_with fail
          refine (Same_any D3 D4 L3.length L3.length dc3 dc4 L3 L3 _ hD3.out hD4.out).mono ?_
          rintro e wz ⟨rfl, hb⟩
          rw [decide_eq_true (rfl : L3 = L3)]
          replace he := hide (he.out.below hb he.out.size)
          replace hB := hide (hB.out.trans (hb.mono hB.out.size))
          clear hb hD3 hD4 hM40
          go_wp2_with fail
          refine (Awake_any _ he.out).mono ?_
          rintro e wu ⟨rfl, hb⟩
          replace hB := hide (hB.out.trans (hb.mono hB.out.size))
          clear hb
          go_wp2
          go_ret
          exact ⟨rfl, hB.out⟩
    · have hE0 : bothE L = 3 := by unfold bothE; rw [if_neg h40]
      have hV0 : bothV L = [] := by unfold bothV; rw [if_neg h40]
      rw [hE0, hV0]
      rw [hV0] at hsm hD
      clear hE0 hV0 hE hee hgood hform hrt hall hD
      go_wp2_with fail
      refine (hsm.out _ (Below.refl _ _) (by unfold maxLen; simp)).mono ?_
      rintro e w5 ⟨rfl, hb⟩
      replace he := hide (he.out.below hb he.out.size)
      replace hS := hide (hS.out.below hb hS.out.lt)
      replace hB := hide (hB.out.trans (hb.mono hB.out.size))
      clear hb hsm
      have s0 : w5.cell? ⟨w.heap.size, 0, none⟩ = some (.slice A n cc) := hS.out.cell 0
      have s1 : w5.cell? ⟨w.heap.size, 1, none⟩ = some (.slice A2 n2 c2) := hS.out.cell 1
      go_wp2_with fail
      clear s0 s1
      refine (hc3.out _ hB.out).mono ?_
      rintro e wx ⟨⟨v3, L3, rfl, hF3, hV3⟩, hb⟩
      replace he := hide (he.out.below hb he.out.size)
      replace hS := hide (hS.out.below hb hS.out.lt)
      replace hB := hide (hB.out.trans (hb.mono hB.out.size))
      clear hb
      replace hF3 := hide hF3
      replace hV3 := hide hV3
      have s0 : wx.cell? ⟨w.heap.size, 0, none⟩ = some (.slice A n cc) := hS.out.cell 0
      have s1 : wx.cell? ⟨w.heap.size, 1, none⟩ = some (.slice A2 n2 c2) := hS.out.cell 1
      go_wp2_with fail
      clear s0 s1
      refine (hc4.out _ hB.out).mono ?_
      rintro e wy ⟨⟨v4, L4, rfl, hF4, hV4⟩, hb⟩
      replace he := hide (he.out.below hb he.out.size)
      replace hS := hide (hS.out.below hb hS.out.lt)
      replace hV3 := hide (IsRts.stb _ _ _ _ hb hV3.out)
      replace hB := hide (hB.out.trans (hb.mono hB.out.size))
      clear hb
      obtain ⟨hLM, hM40⟩ := hself.out L3 L4 hF3.out hF4
      subst hLM
      have hE3 : bothE L3 = 0 := by unfold bothE; rw [if_pos hM40]
      have hV3' : bothV L3 = L3 := by unfold bothV; rw [if_pos hM40]
      rw [hV3'] at hV3
      rw [hE3]
      obtain ⟨D3, dc3, rfl, hD3⟩ := hV3.out
      obtain ⟨D4, dc4, rfl, hD4⟩ := hV4
      replace hD3 := hide hD3
      replace hD4 := hide hD4
      clear hE3 hV3' hV3 hF3 hF4 hself hc3 hc4
      go_wp2_with fail
      refine (Same_any D3 D4 L3.length L3.length dc3 dc4 L3 L3 _ hD3.out hD4.out).mono ?_
      rintro e wz ⟨rfl, hb⟩
      rw [decide_eq_true (rfl : L3 = L3)]
      replace he := hide (he.out.below hb he.out.size)
      replace hB := hide (hB.out.trans (hb.mono hB.out.size))
      clear hb hD3 hD4 hM40
      go_wp2_with fail
      refine (Awake_any _ he.out).mono ?_
      rintro e wu ⟨rfl, hb⟩
      replace hB := hide (hB.out.trans (hb.mono hB.out.size))
      clear hb
      go_wp2
      go_ret
      exact ⟨rfl, hB.out⟩
  · have h0' : openF S [rb, ra] ≠ 0 := fun h1 => h0 (by rw [openF_two] at h1 ⊢; exact ⟨h1.2, h1.1⟩)
    have hc1 := hide (fun W (hb : Below w.heap.size w W) => (Both_E A A2 R R' cc c2 cr cr' S ra rb W (h.below hb) (hra.below hb) (hrb.below hb)).mono (R' := fun e w' => e = .returned (.tuple #[.slice none 0 0, .int .i64 (openF S [ra, rb])]) ∧ Below W.heap.size W w') (fun e w' hh => ⟨by
      rcases hh.1 with h1 | h1
      · exact h1.2
      · exact absurd h1.1 h0, hh.2⟩))
    have hc2 := hide (fun W (hb : Below w.heap.size w W) => (Both_E A A2 R' R cc c2 cr' cr S rb ra W (h.below hb) (hrb.below hb) (hra.below hb)).mono (R' := fun e w' => e = .returned (.tuple #[.slice none 0 0, .int .i64 (openF S [rb, ra])]) ∧ Below W.heap.size W w') (fun e w' hh => ⟨by
      rcases hh.1 with h1 | h1
      · exact h1.2
      · exact absurd h1.1 h0', hh.2⟩))
    have hz : (openF S [ra, rb] == 0) = false := by rw [beq_eq_false_iff_ne]; exact h0
    rw [hz] at hval
    clear h hra hrb hz
    generalize openF S [ra, rb] = x at *
    generalize openF S [rb, ra] = y at *
    have hb1 : (x != 0) = true := by rw [bne_iff_ne]; exact h0
    have hb2 : (y != 0) = true := by rw [bne_iff_ne]; exact h0'
    replace h0 := hide h0
    replace h0' := hide h0'
    generalize S.cs.length = n at *
    generalize S.codes.length = n2 at *
    go_enter Tryz.func16, Tryz.ntmps16
    go_wp2_with fail
    generalize w.alloc (.cells #[.slice A n cc, .slice A2 n2 c2] 38) = w0 at *
    refine (hc1.out _ hB.out).mono ?_
    rintro e w1 ⟨rfl, hb⟩
    replace he := hide (he.out.below hb he.out.size)
    replace hS := hide (hS.out.below hb hS.out.lt)
    replace hB := hide (hB.out.trans (hb.mono hB.out.size))
    clear hb hc1
    have s0 : w1.cell? ⟨w.heap.size, 0, none⟩ = some (.slice A n cc) := hS.out.cell 0
    have s1 : w1.cell? ⟨w.heap.size, 1, none⟩ = some (.slice A2 n2 c2) := hS.out.cell 1
    go_wp2_with fail
    clear s0 s1
    refine (hc2.out _ hB.out).mono ?_
    rintro e w2 ⟨rfl, hb⟩
    replace he := hide (he.out.below hb he.out.size)
    replace hS := hide (hS.out.below hb hS.out.lt)
    replace hB := hide (hB.out.trans (hb.mono hB.out.size))
    clear hb
    have hA : Below w2.heap.size w2 (w2.alloc (.cells #[.slice R ra.length cr, .slice R' rb.length cr'] 46)) := (Below.refl _ _).alloc (Nat.le_refl _) _
    have hL3 := hide (RdLists.two (hrA.out _ hB.out) (hrB.out _ hB.out) (c := cr) (c' := cr') 46)
    have s0 : w2.cell? ⟨w.heap.size, 0, none⟩ = some (.slice A n cc) := hS.out.cell 0
    have s1 : w2.cell? ⟨w.heap.size, 1, none⟩ = some (.slice A2 n2 c2) := hS.out.cell 1
    replace he := hide (he.out.below hA he.out.size)
    replace hB := hide (hB.out.trans (hA.mono hB.out.size))
    clear hA hS
    go_wp2_with fail
    clear s0 s1
    generalize w2.heap.size = g3 at *
    generalize w2.alloc (.cells #[.slice R ra.length cr, .slice R' rb.length cr'] 46) = w3 at *
    refine (hval.out _ _ hB.out hL3.out).mono ?_
    rintro e w4 ⟨rfl, hb⟩
    replace he := hide (he.out.below hb he.out.size)
    replace hB := hide (hB.out.trans (hb.mono hB.out.size))
    clear hb hval hL3
    go_wp2_with fail
    refine (Awake_any _ he.out).mono ?_
    rintro e w5 ⟨rfl, hb⟩
    replace hB := hide (hB.out.trans (hb.mono hB.out.size))
    clear hb
    go_wp2
    go_ret
    exact ⟨rfl, hB.out⟩
end Go.Proofs.YtjfdfhnfcpfmcaaGreatDoor
