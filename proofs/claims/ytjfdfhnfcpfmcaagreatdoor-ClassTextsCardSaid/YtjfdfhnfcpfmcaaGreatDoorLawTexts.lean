/-
  The law ClassTexts returns true.
-/
import Derived.Test.YtjfdfhnfcpfmcaaGreatDoorRefY
namespace Go.Proofs.YtjfdfhnfcpfmcaaGreatDoor
open Go.RowKit RG

theorem readG_len (S : Sys) (s : ByteArray) : (readF S s).1.length ≤ 40 := by
  rw [← readG_readF]
  unfold readG
  split
  · simp
  · split
    · simp
    · split
      · simp
      · split
        · simp
        · split
          · simp
          · split
            · simp only; omega
            · simp

set_option maxRecDepth 100000 in
set_option maxHeartbeats 8000000 in
theorem LawTexts_any (A A2 R : Option Addr) (cc c2 cr : Nat) (S : Sys) (rs : List (Int × Int)) (s : ByteArray) (w : World) (he : Env w) (h : InMem w A A2 cc c2 S) (hr : RdRts w R rs.length rs) :
    Calls Tryz.prog 7 #[.agg #[.slice A S.cs.length cc, .slice A2 S.codes.length c2], .slice R rs.length cr, .string s] w fun e w' => e = .returned (.bool true) ∧ Below w.heap.size w w' := by
  have hB := hide ((Below.refl w.heap.size w).alloc (Nat.le_refl _) (.cells #[.slice A S.cs.length cc, .slice A2 S.codes.length c2] 38))
  have hS := hide (Blk.new_ (w := w) (g := w.heap.size) (t := 38) (cs := #[.slice A S.cs.length cc, .slice A2 S.codes.length c2]) rfl)
  replace he := hide (he.below hB.out he.size)
  have hc1 := hide (fun W (hb : Below w.heap.size w W) => Write_any A A2 R cc c2 cr S rs W (h.below hb) (hr.below hb))
  have hc2 := hide (fun W (hb : Below w.heap.size w W) => RWrite_any A A2 R cc c2 cr S rs W (h.below hb) (hr.below hb))
  have hc3 := hide (fun W (hb : Below w.heap.size w W) => (Read_any A A2 cc c2 S s W (h.below hb)).mono (R' := fun e w' => (∃ v, e = .returned (.tuple #[v, .int .i64 (readF S s).2]) ∧ IsRts ((readF S s).1.map rI) v w') ∧ Below W.heap.size W w') (fun e w' hh => ⟨by
    obtain ⟨D, dc, rfl, hD, _⟩ := hh.1
    exact ⟨_, rfl, D, dc, by rw [List.length_map], ⟨by rw [List.length_map]; exact hD, by rw [List.length_map]; exact Nat.le_trans (readG_len S s) (by unfold maxLen; omega)⟩⟩, hh.2⟩))
  have hc4 := hide (fun W (hb : Below w.heap.size w W) => RRead_any A A2 cc c2 S s W (h.below hb))
  have hsame := hide (fun (v v' : Value) (W : World) (K : List (Int × Int)) (h1 : IsRts K v W) (h2 : IsRts K v' W) => (Same_k v v' W K K h1 h2).mono (R' := fun e w' => e = .returned (.bool true) ∧ Below W.heap.size W w') (fun e w' hh => ⟨by rw [hh.1]; simp, hh.2⟩))
  clear h hr
  generalize writeF S rs = q at *
  obtain ⟨tx, qe⟩ := q
  simp only at hc1 hc2
  generalize readF S s = r at *
  obtain ⟨L, re⟩ := r
  simp only at hc3 hc4
  generalize L.map rI = K at *
  generalize S.cs.length = n at *
  generalize S.codes.length = n2 at *
  generalize rs.length = m at *
  have ht1 : (tx.toList == tx.toList) = true := by simp
  have ht2 : (qe != qe) = false := by simp
  have ht3 : (re == re) = true := by simp
  go_enter Tryz.func7, Tryz.ntmps7
  go_wp2_with fail
  generalize w.alloc (.cells #[.slice A n cc, .slice A2 n2 c2] 38) = w0 at *
  refine (hc1.out _ hB.out).mono ?_
  rintro e w1 ⟨rfl, hb⟩
  replace he := hide (he.out.below hb he.out.size)
  replace hS := hide (hS.out.below hb hS.out.lt)
  replace hB := hide (hB.out.trans (hb.mono hB.out.size))
  clear hb hc1
  have s0 : w1.cell? ⟨w.heap.size, 0, none⟩ = some (.slice A n cc) := hS.out.cell 0
  have s1 : w1.cell? ⟨w.heap.size, 1, none⟩ = some (.slice A2 n2 c2) := hS.out.cell 1
  go_wp2_with fail
  refine (hc2.out _ hB.out).mono ?_
  rintro e w2 ⟨rfl, hb⟩
  replace he := hide (he.out.below hb he.out.size)
  replace hS := hide (hS.out.below hb hS.out.lt)
  replace hB := hide (hB.out.trans (hb.mono hB.out.size))
  clear hb hc2 s0 s1
  have s0 : w2.cell? ⟨w.heap.size, 0, none⟩ = some (.slice A n cc) := hS.out.cell 0
  have s1 : w2.cell? ⟨w.heap.size, 1, none⟩ = some (.slice A2 n2 c2) := hS.out.cell 1
  go_wp2_with fail
  refine (hc3.out _ hB.out).mono ?_
  rintro e w3 ⟨⟨v3, rfl, h3⟩, hb⟩
  replace he := hide (he.out.below hb he.out.size)
  replace hS := hide (hS.out.below hb hS.out.lt)
  replace hB := hide (hB.out.trans (hb.mono hB.out.size))
  replace h3 := hide h3
  clear hb hc3 s0 s1
  have s0 : w3.cell? ⟨w.heap.size, 0, none⟩ = some (.slice A n cc) := hS.out.cell 0
  have s1 : w3.cell? ⟨w.heap.size, 1, none⟩ = some (.slice A2 n2 c2) := hS.out.cell 1
  go_wp2_with fail
  refine (hc4.out _ hB.out).mono ?_
  rintro e w4 ⟨⟨v4, rfl, h4⟩, hb⟩
  replace he := hide (he.out.below hb he.out.size)
  replace hB := hide (hB.out.trans (hb.mono hB.out.size))
  replace h3 := hide (IsRts.stb _ _ _ _ hb h3.out)
  replace h4 := hide h4
  clear hb hc4 s0 s1 hS
  go_wp2_with fail
  refine (hsame.out v3 v4 _ _ h3.out h4.out).mono ?_
  rintro e w5 ⟨rfl, hb⟩
  replace he := hide (he.out.below hb he.out.size)
  replace hB := hide (hB.out.trans (hb.mono hB.out.size))
  clear hb h3 h4
  go_wp2_with fail
  refine (Awake_any _ he.out).mono ?_
  rintro e wu ⟨rfl, hb⟩
  replace hB := hide (hB.out.trans (hb.mono hB.out.size))
  clear hb
  go_wp2
  go_ret
  exact ⟨rfl, hB.out⟩
end Go.Proofs.YtjfdfhnfcpfmcaaGreatDoor
