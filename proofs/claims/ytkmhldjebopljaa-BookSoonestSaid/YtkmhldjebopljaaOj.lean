import Derived.Test.YtkmhldjebopljaaOh
/-
  Whether a lesson is in another one's way: case 2 (made by mkbkway.py).
-/
namespace Go.Proofs.Ytkmhldjebopljaa
open Go.RowKit RG

set_option maxRecDepth 100000 in
set_option maxHeartbeats 1000000 in
theorem way2 (ol oc os oh ot ll lc ls lh lt : Int) (h1 : (ol == ll) = true) (h3 : decide (os < ls + lh) = false) {w : World} {gl : Nat} (hgl : Blk w gl 63 #[.int .i64 ll, .int .i64 lc, .int .i64 ls, .int .i64 lh, .int .i64 lt]) (ho : (0 ≤ os ∧ os ≤ 24000) ∧ 0 ≤ oh ∧ oh ≤ 1000) (hl : (0 ≤ ls ∧ ls ≤ 24000) ∧ 0 ≤ lh ∧ lh ≤ 1000) :
    Calls Try.prog 99 #[.agg #[.int .i64 ol, .int .i64 oc, .int .i64 os, .int .i64 oh, .int .i64 ot], .pointer (some ⟨gl, 0, none⟩)] w fun e w' => e = .returned (.bool false) ∧ Below w.heap.size w w' := by
  have hel := hide (show ∀ W, Calls Try.prog 98 #[.agg #[.int .i64 ll, .int .i64 lc, .int .i64 ls, .int .i64 lh, .int .i64 lt]] W fun e w' => e = .returned (.int .i64 (ls + lh)) ∧ Below W.heap.size W w' from fun W => endOf_any ⟨ll, lc, ls, lh, lt⟩ W (by show -1000000 ≤ ls ∧ ls ≤ 1000000 ∧ -1000000 ≤ lh ∧ lh ≤ 1000000; omega))
  have heo := hide (show ∀ W, Calls Try.prog 98 #[.agg #[.int .i64 ol, .int .i64 oc, .int .i64 os, .int .i64 oh, .int .i64 ot]] W fun e w' => e = .returned (.int .i64 (os + oh)) ∧ Below W.heap.size W w' from fun W => endOf_any ⟨ol, oc, os, oh, ot⟩ W (by show -1000000 ≤ os ∧ os ≤ 1000000 ∧ -1000000 ≤ oh ∧ oh ≤ 1000000; omega))
  have kb := hide (blkNew (w := w) (t := 63) (cs := #[.int .i64 ol, .int .i64 oc, .int .i64 os, .int .i64 oh, .int .i64 ot]) rfl)
  have hB := hide ((Below.refl w.heap.size w).alloc (Nat.le_refl _) (.cells #[.int .i64 ol, .int .i64 oc, .int .i64 os, .int .i64 oh, .int .i64 ot] 63))
  obtain ⟨W, hW⟩ : ∃ x, w.alloc (.cells #[.int .i64 ol, .int .i64 oc, .int .i64 os, .int .i64 oh, .int .i64 ot] 63) = x := ⟨_, rfl⟩
  rw [hW] at kb hB
  have hfac := hide (show ∀ W', Below W.heap.size W W' → W'.cell? ⟨w.heap.size, 0, none⟩ = some (.int .i64 ol) ∧ W'.cell? ⟨w.heap.size, 1, none⟩ = some (.int .i64 oc) ∧ W'.cell? ⟨w.heap.size, 2, none⟩ = some (.int .i64 os) ∧ W'.cell? ⟨w.heap.size, 3, none⟩ = some (.int .i64 oh) ∧ W'.cell? ⟨w.heap.size, 4, none⟩ = some (.int .i64 ot) ∧
      W'.cell? ⟨gl, 0, none⟩ = some (.int .i64 ll) ∧ W'.cell? ⟨gl, 1, none⟩ = some (.int .i64 lc) ∧ W'.cell? ⟨gl, 2, none⟩ = some (.int .i64 ls) ∧ W'.cell? ⟨gl, 3, none⟩ = some (.int .i64 lh) ∧ W'.cell? ⟨gl, 4, none⟩ = some (.int .i64 lt) from fun W' hb => by
    have k := kb.out.below hb kb.out.lt
    have k' := (hgl.below hB.out hgl.lt).below hb (Nat.lt_of_lt_of_le hgl.lt hB.out.size)
    exact ⟨k.cell 0, k.cell 1, k.cell 2, k.cell 3, k.cell 4, k'.cell 0, k'.cell 1, k'.cell 2, k'.cell 3, k'.cell 4⟩)
  replace hW := hide hW
  clear hgl kb ho hl
  go_enter Try.func99, Try.ntmps99
  go_upto_region 1 with fail
  rw [hW.out]
  refine region_grow [IsV (.pointer (some ⟨w.heap.size, 0, none⟩)), IsV (.int .i64 ol), IsV (.pointer (some ⟨gl, 0, none⟩)), IsV (.int .i64 ll), IsV (.bool true), IsV (.bool true), IsV (undef), IsV (undef), IsV (undef), IsV (undef), IsV (undef), IsV (.bool true), IsV (.bool true), IsV (.pointer (some ⟨w.heap.size, 2, none⟩)), IsV (.int .i64 os), IsV (.agg #[.int .i64 ll, .int .i64 lc, .int .i64 ls, .int .i64 lh, .int .i64 lt]), IsV (.int .i64 (ls + lh)), IsV (.bool false), IsV (.bool false), IsV (.bool false), IsV (undef), IsV (undef), IsV (undef), IsV (undef), IsV (undef), IsV (.bool false), IsV (.bool false)] (by kernel_rfl) (by kernel_rfl) rfl ?_ ?_ ?_
  · simp [AllStb, IsV.stb]
  · refine ⟨?_, ?_, ?_, ?_, ?_, ?_, ?_, ?_, ?_, ?_, ?_, ?_, ?_, ?_, ?_, ?_, ?_, ?_, ?_, ?_, ?_, ?_, ?_, ?_, ?_, ?_, ?_, trivial⟩
    · intro y w1 K Q Cv hC hd hV
      have f := hfac.out w1 hC
      have a0 := f.1
      have a1 := f.2.1
      have a2 := f.2.2.1
      have a3 := f.2.2.2.1
      have a4 := f.2.2.2.2.1
      have a5 := f.2.2.2.2.2.1
      have a6 := f.2.2.2.2.2.2.1
      have a7 := f.2.2.2.2.2.2.2.1
      have a8 := f.2.2.2.2.2.2.2.2.1
      have a9 := f.2.2.2.2.2.2.2.2.2
      clear f
      clear hd
      simp only [putAll, Act.put]
      go_simp
      intro hK; exact hK _ _ (hV _ _ hC (Below.refl _ _) rfl)
    · intro y w1 K Q Cv hC hd hV
      have f := hfac.out w1 hC
      have a0 := f.1
      have a1 := f.2.1
      have a2 := f.2.2.1
      have a3 := f.2.2.2.1
      have a4 := f.2.2.2.2.1
      have a5 := f.2.2.2.2.2.1
      have a6 := f.2.2.2.2.2.2.1
      have a7 := f.2.2.2.2.2.2.2.1
      have a8 := f.2.2.2.2.2.2.2.2.1
      have a9 := f.2.2.2.2.2.2.2.2.2
      clear f
      simp [deps, VL, IsV, Region.binds] at hd
      simp only [putAll, Act.put]
      go_simp
      intro hK; exact hK _ _ (hV _ _ hC (Below.refl _ _) rfl)
    · intro y w1 K Q Cv hC hd hV
      have f := hfac.out w1 hC
      have a0 := f.1
      have a1 := f.2.1
      have a2 := f.2.2.1
      have a3 := f.2.2.2.1
      have a4 := f.2.2.2.2.1
      have a5 := f.2.2.2.2.2.1
      have a6 := f.2.2.2.2.2.2.1
      have a7 := f.2.2.2.2.2.2.2.1
      have a8 := f.2.2.2.2.2.2.2.2.1
      have a9 := f.2.2.2.2.2.2.2.2.2
      clear f
      clear hd
      simp only [putAll, Act.put]
      go_simp
      intro hK; exact hK _ _ (hV _ _ hC (Below.refl _ _) rfl)
    · intro y w1 K Q Cv hC hd hV
      have f := hfac.out w1 hC
      have a0 := f.1
      have a1 := f.2.1
      have a2 := f.2.2.1
      have a3 := f.2.2.2.1
      have a4 := f.2.2.2.2.1
      have a5 := f.2.2.2.2.2.1
      have a6 := f.2.2.2.2.2.2.1
      have a7 := f.2.2.2.2.2.2.2.1
      have a8 := f.2.2.2.2.2.2.2.2.1
      have a9 := f.2.2.2.2.2.2.2.2.2
      clear f
      simp [deps, VL, IsV, Region.binds] at hd
      simp only [putAll, Act.put]
      go_simp
      intro hK; exact hK _ _ (hV _ _ hC (Below.refl _ _) rfl)
    · intro y w1 K Q Cv hC hd hV
      have f := hfac.out w1 hC
      have a0 := f.1
      have a1 := f.2.1
      have a2 := f.2.2.1
      have a3 := f.2.2.2.1
      have a4 := f.2.2.2.2.1
      have a5 := f.2.2.2.2.2.1
      have a6 := f.2.2.2.2.2.2.1
      have a7 := f.2.2.2.2.2.2.2.1
      have a8 := f.2.2.2.2.2.2.2.2.1
      have a9 := f.2.2.2.2.2.2.2.2.2
      clear f
      simp [deps, VL, IsV, Region.binds] at hd
      simp only [putAll, Act.put]
      go_simp
      intro hK; exact hK _ _ (hV _ _ hC (Below.refl _ _) rfl)
    · intro y w1 K Q Cv hC hd hV
      have f := hfac.out w1 hC
      have a0 := f.1
      have a1 := f.2.1
      have a2 := f.2.2.1
      have a3 := f.2.2.2.1
      have a4 := f.2.2.2.2.1
      have a5 := f.2.2.2.2.2.1
      have a6 := f.2.2.2.2.2.2.1
      have a7 := f.2.2.2.2.2.2.2.1
      have a8 := f.2.2.2.2.2.2.2.2.1
      have a9 := f.2.2.2.2.2.2.2.2.2
      clear f
      simp [deps, VL, IsV, Region.binds] at hd
      simp only [putAll, Act.put]
      go_simp
      intro hK; exact hK _ _ (hV _ _ hC (Below.refl _ _) rfl)
    · intro y w1 K Q Cv hC hd hV
      have f := hfac.out w1 hC
      have a0 := f.1
      have a1 := f.2.1
      have a2 := f.2.2.1
      have a3 := f.2.2.2.1
      have a4 := f.2.2.2.2.1
      have a5 := f.2.2.2.2.2.1
      have a6 := f.2.2.2.2.2.2.1
      have a7 := f.2.2.2.2.2.2.2.1
      have a8 := f.2.2.2.2.2.2.2.2.1
      have a9 := f.2.2.2.2.2.2.2.2.2
      clear f
      simp [deps, VL, IsV, Region.binds] at hd
      simp only [putAll, Act.put]
      go_simp
      intro hK; exact hK _ _ (hV _ _ hC (Below.refl _ _) rfl)
    · intro y w1 K Q Cv hC hd hV
      have f := hfac.out w1 hC
      have a0 := f.1
      have a1 := f.2.1
      have a2 := f.2.2.1
      have a3 := f.2.2.2.1
      have a4 := f.2.2.2.2.1
      have a5 := f.2.2.2.2.2.1
      have a6 := f.2.2.2.2.2.2.1
      have a7 := f.2.2.2.2.2.2.2.1
      have a8 := f.2.2.2.2.2.2.2.2.1
      have a9 := f.2.2.2.2.2.2.2.2.2
      clear f
      simp [deps, VL, IsV, Region.binds] at hd
      simp only [putAll, Act.put]
      go_simp
      intro hK; exact hK _ _ (hV _ _ hC (Below.refl _ _) rfl)
    · intro y w1 K Q Cv hC hd hV
      have f := hfac.out w1 hC
      have a0 := f.1
      have a1 := f.2.1
      have a2 := f.2.2.1
      have a3 := f.2.2.2.1
      have a4 := f.2.2.2.2.1
      have a5 := f.2.2.2.2.2.1
      have a6 := f.2.2.2.2.2.2.1
      have a7 := f.2.2.2.2.2.2.2.1
      have a8 := f.2.2.2.2.2.2.2.2.1
      have a9 := f.2.2.2.2.2.2.2.2.2
      clear f
      simp [deps, VL, IsV, Region.binds] at hd
      simp only [putAll, Act.put]
      go_simp
      intro hK; exact hK _ _ (hV _ _ hC (Below.refl _ _) rfl)
    · intro y w1 K Q Cv hC hd hV
      have f := hfac.out w1 hC
      have a0 := f.1
      have a1 := f.2.1
      have a2 := f.2.2.1
      have a3 := f.2.2.2.1
      have a4 := f.2.2.2.2.1
      have a5 := f.2.2.2.2.2.1
      have a6 := f.2.2.2.2.2.2.1
      have a7 := f.2.2.2.2.2.2.2.1
      have a8 := f.2.2.2.2.2.2.2.2.1
      have a9 := f.2.2.2.2.2.2.2.2.2
      clear f
      simp [deps, VL, IsV, Region.binds] at hd
      simp only [putAll, Act.put]
      go_simp
      intro hK; exact hK _ _ (hV _ _ hC (Below.refl _ _) rfl)
    · intro y w1 K Q Cv hC hd hV
      have f := hfac.out w1 hC
      have a0 := f.1
      have a1 := f.2.1
      have a2 := f.2.2.1
      have a3 := f.2.2.2.1
      have a4 := f.2.2.2.2.1
      have a5 := f.2.2.2.2.2.1
      have a6 := f.2.2.2.2.2.2.1
      have a7 := f.2.2.2.2.2.2.2.1
      have a8 := f.2.2.2.2.2.2.2.2.1
      have a9 := f.2.2.2.2.2.2.2.2.2
      clear f
      simp [deps, VL, IsV, Region.binds] at hd
      simp only [putAll, Act.put]
      go_simp
      intro hK; exact hK _ _ (hV _ _ hC (Below.refl _ _) rfl)
    · intro y w1 K Q Cv hC hd hV
      have f := hfac.out w1 hC
      have a0 := f.1
      have a1 := f.2.1
      have a2 := f.2.2.1
      have a3 := f.2.2.2.1
      have a4 := f.2.2.2.2.1
      have a5 := f.2.2.2.2.2.1
      have a6 := f.2.2.2.2.2.2.1
      have a7 := f.2.2.2.2.2.2.2.1
      have a8 := f.2.2.2.2.2.2.2.2.1
      have a9 := f.2.2.2.2.2.2.2.2.2
      clear f
      simp [deps, VL, IsV, Region.binds] at hd
      simp only [putAll, Act.put]
      go_simp
      intro hK; exact hK _ _ (hV _ _ hC (Below.refl _ _) rfl)
    · intro y w1 K Q Cv hC hd hV
      have f := hfac.out w1 hC
      have a0 := f.1
      have a1 := f.2.1
      have a2 := f.2.2.1
      have a3 := f.2.2.2.1
      have a4 := f.2.2.2.2.1
      have a5 := f.2.2.2.2.2.1
      have a6 := f.2.2.2.2.2.2.1
      have a7 := f.2.2.2.2.2.2.2.1
      have a8 := f.2.2.2.2.2.2.2.2.1
      have a9 := f.2.2.2.2.2.2.2.2.2
      clear f
      simp [deps, VL, IsV, Region.binds] at hd
      simp only [putAll, Act.put]
      go_simp
      intro hK; exact hK _ _ (hV _ _ hC (Below.refl _ _) rfl)
    · intro y w1 K Q Cv hC hd hV
      have f := hfac.out w1 hC
      have a0 := f.1
      have a1 := f.2.1
      have a2 := f.2.2.1
      have a3 := f.2.2.2.1
      have a4 := f.2.2.2.2.1
      have a5 := f.2.2.2.2.2.1
      have a6 := f.2.2.2.2.2.2.1
      have a7 := f.2.2.2.2.2.2.2.1
      have a8 := f.2.2.2.2.2.2.2.2.1
      have a9 := f.2.2.2.2.2.2.2.2.2
      clear f
      simp [deps, VL, IsV, Region.binds] at hd
      simp only [putAll, Act.put]
      go_simp
      intro hK; exact hK _ _ (hV _ _ hC (Below.refl _ _) rfl)
    · intro y w1 K Q Cv hC hd hV
      have f := hfac.out w1 hC
      have a0 := f.1
      have a1 := f.2.1
      have a2 := f.2.2.1
      have a3 := f.2.2.2.1
      have a4 := f.2.2.2.2.1
      have a5 := f.2.2.2.2.2.1
      have a6 := f.2.2.2.2.2.2.1
      have a7 := f.2.2.2.2.2.2.2.1
      have a8 := f.2.2.2.2.2.2.2.2.1
      have a9 := f.2.2.2.2.2.2.2.2.2
      clear f
      simp [deps, VL, IsV, Region.binds] at hd
      simp only [putAll, Act.put]
      go_simp
      intro hK; exact hK _ _ (hV _ _ hC (Below.refl _ _) rfl)
    · intro y w1 K Q Cv hC hd hV
      have f := hfac.out w1 hC
      have a0 := f.1
      have a1 := f.2.1
      have a2 := f.2.2.1
      have a3 := f.2.2.2.1
      have a4 := f.2.2.2.2.1
      have a5 := f.2.2.2.2.2.1
      have a6 := f.2.2.2.2.2.2.1
      have a7 := f.2.2.2.2.2.2.2.1
      have a8 := f.2.2.2.2.2.2.2.2.1
      have a9 := f.2.2.2.2.2.2.2.2.2
      clear f
      simp [deps, VL, IsV, Region.binds] at hd
      simp only [putAll, Act.put]
      go_simp
      intro hK; exact hK _ _ (hV _ _ hC (Below.refl _ _) rfl)
    · intro y w1 K Q Cv hC hd hV
      have f := hfac.out w1 hC
      have a0 := f.1
      have a1 := f.2.1
      have a2 := f.2.2.1
      have a3 := f.2.2.2.1
      have a4 := f.2.2.2.2.1
      have a5 := f.2.2.2.2.2.1
      have a6 := f.2.2.2.2.2.2.1
      have a7 := f.2.2.2.2.2.2.2.1
      have a8 := f.2.2.2.2.2.2.2.2.1
      have a9 := f.2.2.2.2.2.2.2.2.2
      clear f
      simp [deps, VL, IsV, Region.binds] at hd
      simp only [putAll, Act.put]
      go_simp
      intro hK; refine (hel.out _).mono ?_; rintro e w2 ⟨rfl, hb⟩; exact hK _ _ (hV _ _ (hC.trans (hb.mono hC.size)) hb rfl)
    · intro y w1 K Q Cv hC hd hV
      have f := hfac.out w1 hC
      have a0 := f.1
      have a1 := f.2.1
      have a2 := f.2.2.1
      have a3 := f.2.2.2.1
      have a4 := f.2.2.2.2.1
      have a5 := f.2.2.2.2.2.1
      have a6 := f.2.2.2.2.2.2.1
      have a7 := f.2.2.2.2.2.2.2.1
      have a8 := f.2.2.2.2.2.2.2.2.1
      have a9 := f.2.2.2.2.2.2.2.2.2
      clear f
      simp [deps, VL, IsV, Region.binds] at hd
      simp only [putAll, Act.put]
      go_simp
      intro hK; exact hK _ _ (hV _ _ hC (Below.refl _ _) rfl)
    · intro y w1 K Q Cv hC hd hV
      have f := hfac.out w1 hC
      have a0 := f.1
      have a1 := f.2.1
      have a2 := f.2.2.1
      have a3 := f.2.2.2.1
      have a4 := f.2.2.2.2.1
      have a5 := f.2.2.2.2.2.1
      have a6 := f.2.2.2.2.2.2.1
      have a7 := f.2.2.2.2.2.2.2.1
      have a8 := f.2.2.2.2.2.2.2.2.1
      have a9 := f.2.2.2.2.2.2.2.2.2
      clear f
      simp [deps, VL, IsV, Region.binds] at hd
      simp only [putAll, Act.put]
      go_simp
      intro hK; exact hK _ _ (hV _ _ hC (Below.refl _ _) rfl)
    · intro y w1 K Q Cv hC hd hV
      have f := hfac.out w1 hC
      have a0 := f.1
      have a1 := f.2.1
      have a2 := f.2.2.1
      have a3 := f.2.2.2.1
      have a4 := f.2.2.2.2.1
      have a5 := f.2.2.2.2.2.1
      have a6 := f.2.2.2.2.2.2.1
      have a7 := f.2.2.2.2.2.2.2.1
      have a8 := f.2.2.2.2.2.2.2.2.1
      have a9 := f.2.2.2.2.2.2.2.2.2
      clear f
      simp [deps, VL, IsV, Region.binds] at hd
      simp only [putAll, Act.put]
      go_simp
      intro hK; exact hK _ _ (hV _ _ hC (Below.refl _ _) rfl)
    · intro y w1 K Q Cv hC hd hV
      have f := hfac.out w1 hC
      have a0 := f.1
      have a1 := f.2.1
      have a2 := f.2.2.1
      have a3 := f.2.2.2.1
      have a4 := f.2.2.2.2.1
      have a5 := f.2.2.2.2.2.1
      have a6 := f.2.2.2.2.2.2.1
      have a7 := f.2.2.2.2.2.2.2.1
      have a8 := f.2.2.2.2.2.2.2.2.1
      have a9 := f.2.2.2.2.2.2.2.2.2
      clear f
      simp [deps, VL, IsV, Region.binds] at hd
      simp only [putAll, Act.put]
      go_simp
      intro hK; exact hK _ _ (hV _ _ hC (Below.refl _ _) rfl)
    · intro y w1 K Q Cv hC hd hV
      have f := hfac.out w1 hC
      have a0 := f.1
      have a1 := f.2.1
      have a2 := f.2.2.1
      have a3 := f.2.2.2.1
      have a4 := f.2.2.2.2.1
      have a5 := f.2.2.2.2.2.1
      have a6 := f.2.2.2.2.2.2.1
      have a7 := f.2.2.2.2.2.2.2.1
      have a8 := f.2.2.2.2.2.2.2.2.1
      have a9 := f.2.2.2.2.2.2.2.2.2
      clear f
      simp [deps, VL, IsV, Region.binds] at hd
      simp only [putAll, Act.put]
      go_simp
      intro hK; exact hK _ _ (hV _ _ hC (Below.refl _ _) rfl)
    · intro y w1 K Q Cv hC hd hV
      have f := hfac.out w1 hC
      have a0 := f.1
      have a1 := f.2.1
      have a2 := f.2.2.1
      have a3 := f.2.2.2.1
      have a4 := f.2.2.2.2.1
      have a5 := f.2.2.2.2.2.1
      have a6 := f.2.2.2.2.2.2.1
      have a7 := f.2.2.2.2.2.2.2.1
      have a8 := f.2.2.2.2.2.2.2.2.1
      have a9 := f.2.2.2.2.2.2.2.2.2
      clear f
      simp [deps, VL, IsV, Region.binds] at hd
      simp only [putAll, Act.put]
      go_simp
      intro hK; exact hK _ _ (hV _ _ hC (Below.refl _ _) rfl)
    · intro y w1 K Q Cv hC hd hV
      have f := hfac.out w1 hC
      have a0 := f.1
      have a1 := f.2.1
      have a2 := f.2.2.1
      have a3 := f.2.2.2.1
      have a4 := f.2.2.2.2.1
      have a5 := f.2.2.2.2.2.1
      have a6 := f.2.2.2.2.2.2.1
      have a7 := f.2.2.2.2.2.2.2.1
      have a8 := f.2.2.2.2.2.2.2.2.1
      have a9 := f.2.2.2.2.2.2.2.2.2
      clear f
      simp [deps, VL, IsV, Region.binds] at hd
      simp only [putAll, Act.put]
      go_simp
      intro hK; exact hK _ _ (hV _ _ hC (Below.refl _ _) rfl)
    · intro y w1 K Q Cv hC hd hV
      have f := hfac.out w1 hC
      have a0 := f.1
      have a1 := f.2.1
      have a2 := f.2.2.1
      have a3 := f.2.2.2.1
      have a4 := f.2.2.2.2.1
      have a5 := f.2.2.2.2.2.1
      have a6 := f.2.2.2.2.2.2.1
      have a7 := f.2.2.2.2.2.2.2.1
      have a8 := f.2.2.2.2.2.2.2.2.1
      have a9 := f.2.2.2.2.2.2.2.2.2
      clear f
      simp [deps, VL, IsV, Region.binds] at hd
      simp only [putAll, Act.put]
      go_simp
      intro hK; exact hK _ _ (hV _ _ hC (Below.refl _ _) rfl)
    · intro y w1 K Q Cv hC hd hV
      have f := hfac.out w1 hC
      have a0 := f.1
      have a1 := f.2.1
      have a2 := f.2.2.1
      have a3 := f.2.2.2.1
      have a4 := f.2.2.2.2.1
      have a5 := f.2.2.2.2.2.1
      have a6 := f.2.2.2.2.2.2.1
      have a7 := f.2.2.2.2.2.2.2.1
      have a8 := f.2.2.2.2.2.2.2.2.1
      have a9 := f.2.2.2.2.2.2.2.2.2
      clear f
      simp [deps, VL, IsV, Region.binds] at hd
      simp only [putAll, Act.put]
      go_simp
      intro hK; exact hK _ _ (hV _ _ hC (Below.refl _ _) rfl)
    · intro y w1 K Q Cv hC hd hV
      have f := hfac.out w1 hC
      have a0 := f.1
      have a1 := f.2.1
      have a2 := f.2.2.1
      have a3 := f.2.2.2.1
      have a4 := f.2.2.2.2.1
      have a5 := f.2.2.2.2.2.1
      have a6 := f.2.2.2.2.2.2.1
      have a7 := f.2.2.2.2.2.2.2.1
      have a8 := f.2.2.2.2.2.2.2.2.1
      have a9 := f.2.2.2.2.2.2.2.2.2
      clear f
      simp [deps, VL, IsV, Region.binds] at hd
      simp only [putAll, Act.put]
      go_simp
      intro hK; exact hK _ _ (hV _ _ hC (Below.refl _ _) rfl)
  intro y w1 hC hd
  simp [EndsL, IsV] at hd
  obtain ⟨d0, d1, d2, d3, d4, d5, d6, d7, d8, d9, d10, d11, d12, d13, d14, d15, d16, d17, d18, d19, d20, d21, d22, d23, d24, d25, d26⟩ := hd
  simp only [putAll, Act.put]
  rw [d0, d1, d2, d3, d4, d5, d6, d7, d8, d9, d10, d11, d12, d13, d14, d15, d16, d17, d18, d19, d20, d21, d22, d23, d24, d25, d26]
  clear d0 d1 d2 d3 d4 d5 d6 d7 d8 d9 d10 d11 d12 d13 d14 d15 d16 d17 d18 d19 d20 d21 d22 d23 d24 d25 d26 hfac hel heo
  simp only [List.setIfInBounds_toArray, List.set_cons_succ, List.set_cons_zero]
  have hB1 := hide (hB.out.trans (hC.mono hB.out.size))
  go_wp2
  go_ret
  exact ⟨rfl, hB1.out⟩
end Go.Proofs.Ytkmhldjebopljaa

/-
  Whether a lesson is in another one's way: case 3 (made by mkbkway.py).
-/
namespace Go.Proofs.Ytkmhldjebopljaa
open Go.RowKit RG

set_option maxRecDepth 100000 in
set_option maxHeartbeats 1000000 in
theorem way3 (ol oc os oh ot ll lc ls lh lt : Int) (h1 : (ol == ll) = false) (h2 : (oc == lc) = false) {w : World} {gl : Nat} (hgl : Blk w gl 63 #[.int .i64 ll, .int .i64 lc, .int .i64 ls, .int .i64 lh, .int .i64 lt]) (ho : (0 ≤ os ∧ os ≤ 24000) ∧ 0 ≤ oh ∧ oh ≤ 1000) (hl : (0 ≤ ls ∧ ls ≤ 24000) ∧ 0 ≤ lh ∧ lh ≤ 1000) :
    Calls Try.prog 99 #[.agg #[.int .i64 ol, .int .i64 oc, .int .i64 os, .int .i64 oh, .int .i64 ot], .pointer (some ⟨gl, 0, none⟩)] w fun e w' => e = .returned (.bool false) ∧ Below w.heap.size w w' := by
  have hel := hide (show ∀ W, Calls Try.prog 98 #[.agg #[.int .i64 ll, .int .i64 lc, .int .i64 ls, .int .i64 lh, .int .i64 lt]] W fun e w' => e = .returned (.int .i64 (ls + lh)) ∧ Below W.heap.size W w' from fun W => endOf_any ⟨ll, lc, ls, lh, lt⟩ W (by show -1000000 ≤ ls ∧ ls ≤ 1000000 ∧ -1000000 ≤ lh ∧ lh ≤ 1000000; omega))
  have heo := hide (show ∀ W, Calls Try.prog 98 #[.agg #[.int .i64 ol, .int .i64 oc, .int .i64 os, .int .i64 oh, .int .i64 ot]] W fun e w' => e = .returned (.int .i64 (os + oh)) ∧ Below W.heap.size W w' from fun W => endOf_any ⟨ol, oc, os, oh, ot⟩ W (by show -1000000 ≤ os ∧ os ≤ 1000000 ∧ -1000000 ≤ oh ∧ oh ≤ 1000000; omega))
  have kb := hide (blkNew (w := w) (t := 63) (cs := #[.int .i64 ol, .int .i64 oc, .int .i64 os, .int .i64 oh, .int .i64 ot]) rfl)
  have hB := hide ((Below.refl w.heap.size w).alloc (Nat.le_refl _) (.cells #[.int .i64 ol, .int .i64 oc, .int .i64 os, .int .i64 oh, .int .i64 ot] 63))
  obtain ⟨W, hW⟩ : ∃ x, w.alloc (.cells #[.int .i64 ol, .int .i64 oc, .int .i64 os, .int .i64 oh, .int .i64 ot] 63) = x := ⟨_, rfl⟩
  rw [hW] at kb hB
  have hfac := hide (show ∀ W', Below W.heap.size W W' → W'.cell? ⟨w.heap.size, 0, none⟩ = some (.int .i64 ol) ∧ W'.cell? ⟨w.heap.size, 1, none⟩ = some (.int .i64 oc) ∧ W'.cell? ⟨w.heap.size, 2, none⟩ = some (.int .i64 os) ∧ W'.cell? ⟨w.heap.size, 3, none⟩ = some (.int .i64 oh) ∧ W'.cell? ⟨w.heap.size, 4, none⟩ = some (.int .i64 ot) ∧
      W'.cell? ⟨gl, 0, none⟩ = some (.int .i64 ll) ∧ W'.cell? ⟨gl, 1, none⟩ = some (.int .i64 lc) ∧ W'.cell? ⟨gl, 2, none⟩ = some (.int .i64 ls) ∧ W'.cell? ⟨gl, 3, none⟩ = some (.int .i64 lh) ∧ W'.cell? ⟨gl, 4, none⟩ = some (.int .i64 lt) from fun W' hb => by
    have k := kb.out.below hb kb.out.lt
    have k' := (hgl.below hB.out hgl.lt).below hb (Nat.lt_of_lt_of_le hgl.lt hB.out.size)
    exact ⟨k.cell 0, k.cell 1, k.cell 2, k.cell 3, k.cell 4, k'.cell 0, k'.cell 1, k'.cell 2, k'.cell 3, k'.cell 4⟩)
  replace hW := hide hW
  clear hgl kb ho hl
  go_enter Try.func99, Try.ntmps99
  go_upto_region 1 with fail
  rw [hW.out]
  refine region_grow [IsV (.pointer (some ⟨w.heap.size, 0, none⟩)), IsV (.int .i64 ol), IsV (.pointer (some ⟨gl, 0, none⟩)), IsV (.int .i64 ll), IsV (.bool false), IsV (.bool false), IsV (.pointer (some ⟨w.heap.size, 1, none⟩)), IsV (.int .i64 oc), IsV (.pointer (some ⟨gl, 1, none⟩)), IsV (.int .i64 lc), IsV (.bool false), IsV (.bool false), IsV (.bool false), IsV (undef), IsV (undef), IsV (undef), IsV (undef), IsV (undef), IsV (.bool false), IsV (.bool false), IsV (undef), IsV (undef), IsV (undef), IsV (undef), IsV (undef), IsV (.bool false), IsV (.bool false)] (by kernel_rfl) (by kernel_rfl) rfl ?_ ?_ ?_
  · simp [AllStb, IsV.stb]
  · refine ⟨?_, ?_, ?_, ?_, ?_, ?_, ?_, ?_, ?_, ?_, ?_, ?_, ?_, ?_, ?_, ?_, ?_, ?_, ?_, ?_, ?_, ?_, ?_, ?_, ?_, ?_, ?_, trivial⟩
    · intro y w1 K Q Cv hC hd hV
      have f := hfac.out w1 hC
      have a0 := f.1
      have a1 := f.2.1
      have a2 := f.2.2.1
      have a3 := f.2.2.2.1
      have a4 := f.2.2.2.2.1
      have a5 := f.2.2.2.2.2.1
      have a6 := f.2.2.2.2.2.2.1
      have a7 := f.2.2.2.2.2.2.2.1
      have a8 := f.2.2.2.2.2.2.2.2.1
      have a9 := f.2.2.2.2.2.2.2.2.2
      clear f
      clear hd
      simp only [putAll, Act.put]
      go_simp
      intro hK; exact hK _ _ (hV _ _ hC (Below.refl _ _) rfl)
    · intro y w1 K Q Cv hC hd hV
      have f := hfac.out w1 hC
      have a0 := f.1
      have a1 := f.2.1
      have a2 := f.2.2.1
      have a3 := f.2.2.2.1
      have a4 := f.2.2.2.2.1
      have a5 := f.2.2.2.2.2.1
      have a6 := f.2.2.2.2.2.2.1
      have a7 := f.2.2.2.2.2.2.2.1
      have a8 := f.2.2.2.2.2.2.2.2.1
      have a9 := f.2.2.2.2.2.2.2.2.2
      clear f
      simp [deps, VL, IsV, Region.binds] at hd
      simp only [putAll, Act.put]
      go_simp
      intro hK; exact hK _ _ (hV _ _ hC (Below.refl _ _) rfl)
    · intro y w1 K Q Cv hC hd hV
      have f := hfac.out w1 hC
      have a0 := f.1
      have a1 := f.2.1
      have a2 := f.2.2.1
      have a3 := f.2.2.2.1
      have a4 := f.2.2.2.2.1
      have a5 := f.2.2.2.2.2.1
      have a6 := f.2.2.2.2.2.2.1
      have a7 := f.2.2.2.2.2.2.2.1
      have a8 := f.2.2.2.2.2.2.2.2.1
      have a9 := f.2.2.2.2.2.2.2.2.2
      clear f
      clear hd
      simp only [putAll, Act.put]
      go_simp
      intro hK; exact hK _ _ (hV _ _ hC (Below.refl _ _) rfl)
    · intro y w1 K Q Cv hC hd hV
      have f := hfac.out w1 hC
      have a0 := f.1
      have a1 := f.2.1
      have a2 := f.2.2.1
      have a3 := f.2.2.2.1
      have a4 := f.2.2.2.2.1
      have a5 := f.2.2.2.2.2.1
      have a6 := f.2.2.2.2.2.2.1
      have a7 := f.2.2.2.2.2.2.2.1
      have a8 := f.2.2.2.2.2.2.2.2.1
      have a9 := f.2.2.2.2.2.2.2.2.2
      clear f
      simp [deps, VL, IsV, Region.binds] at hd
      simp only [putAll, Act.put]
      go_simp
      intro hK; exact hK _ _ (hV _ _ hC (Below.refl _ _) rfl)
    · intro y w1 K Q Cv hC hd hV
      have f := hfac.out w1 hC
      have a0 := f.1
      have a1 := f.2.1
      have a2 := f.2.2.1
      have a3 := f.2.2.2.1
      have a4 := f.2.2.2.2.1
      have a5 := f.2.2.2.2.2.1
      have a6 := f.2.2.2.2.2.2.1
      have a7 := f.2.2.2.2.2.2.2.1
      have a8 := f.2.2.2.2.2.2.2.2.1
      have a9 := f.2.2.2.2.2.2.2.2.2
      clear f
      simp [deps, VL, IsV, Region.binds] at hd
      simp only [putAll, Act.put]
      go_simp
      intro hK; exact hK _ _ (hV _ _ hC (Below.refl _ _) rfl)
    · intro y w1 K Q Cv hC hd hV
      have f := hfac.out w1 hC
      have a0 := f.1
      have a1 := f.2.1
      have a2 := f.2.2.1
      have a3 := f.2.2.2.1
      have a4 := f.2.2.2.2.1
      have a5 := f.2.2.2.2.2.1
      have a6 := f.2.2.2.2.2.2.1
      have a7 := f.2.2.2.2.2.2.2.1
      have a8 := f.2.2.2.2.2.2.2.2.1
      have a9 := f.2.2.2.2.2.2.2.2.2
      clear f
      simp [deps, VL, IsV, Region.binds] at hd
      simp only [putAll, Act.put]
      go_simp
      intro hK; exact hK _ _ (hV _ _ hC (Below.refl _ _) rfl)
    · intro y w1 K Q Cv hC hd hV
      have f := hfac.out w1 hC
      have a0 := f.1
      have a1 := f.2.1
      have a2 := f.2.2.1
      have a3 := f.2.2.2.1
      have a4 := f.2.2.2.2.1
      have a5 := f.2.2.2.2.2.1
      have a6 := f.2.2.2.2.2.2.1
      have a7 := f.2.2.2.2.2.2.2.1
      have a8 := f.2.2.2.2.2.2.2.2.1
      have a9 := f.2.2.2.2.2.2.2.2.2
      clear f
      simp [deps, VL, IsV, Region.binds] at hd
      simp only [putAll, Act.put]
      go_simp
      intro hK; exact hK _ _ (hV _ _ hC (Below.refl _ _) rfl)
    · intro y w1 K Q Cv hC hd hV
      have f := hfac.out w1 hC
      have a0 := f.1
      have a1 := f.2.1
      have a2 := f.2.2.1
      have a3 := f.2.2.2.1
      have a4 := f.2.2.2.2.1
      have a5 := f.2.2.2.2.2.1
      have a6 := f.2.2.2.2.2.2.1
      have a7 := f.2.2.2.2.2.2.2.1
      have a8 := f.2.2.2.2.2.2.2.2.1
      have a9 := f.2.2.2.2.2.2.2.2.2
      clear f
      simp [deps, VL, IsV, Region.binds] at hd
      simp only [putAll, Act.put]
      go_simp
      intro hK; exact hK _ _ (hV _ _ hC (Below.refl _ _) rfl)
    · intro y w1 K Q Cv hC hd hV
      have f := hfac.out w1 hC
      have a0 := f.1
      have a1 := f.2.1
      have a2 := f.2.2.1
      have a3 := f.2.2.2.1
      have a4 := f.2.2.2.2.1
      have a5 := f.2.2.2.2.2.1
      have a6 := f.2.2.2.2.2.2.1
      have a7 := f.2.2.2.2.2.2.2.1
      have a8 := f.2.2.2.2.2.2.2.2.1
      have a9 := f.2.2.2.2.2.2.2.2.2
      clear f
      simp [deps, VL, IsV, Region.binds] at hd
      simp only [putAll, Act.put]
      go_simp
      intro hK; exact hK _ _ (hV _ _ hC (Below.refl _ _) rfl)
    · intro y w1 K Q Cv hC hd hV
      have f := hfac.out w1 hC
      have a0 := f.1
      have a1 := f.2.1
      have a2 := f.2.2.1
      have a3 := f.2.2.2.1
      have a4 := f.2.2.2.2.1
      have a5 := f.2.2.2.2.2.1
      have a6 := f.2.2.2.2.2.2.1
      have a7 := f.2.2.2.2.2.2.2.1
      have a8 := f.2.2.2.2.2.2.2.2.1
      have a9 := f.2.2.2.2.2.2.2.2.2
      clear f
      simp [deps, VL, IsV, Region.binds] at hd
      simp only [putAll, Act.put]
      go_simp
      intro hK; exact hK _ _ (hV _ _ hC (Below.refl _ _) rfl)
    · intro y w1 K Q Cv hC hd hV
      have f := hfac.out w1 hC
      have a0 := f.1
      have a1 := f.2.1
      have a2 := f.2.2.1
      have a3 := f.2.2.2.1
      have a4 := f.2.2.2.2.1
      have a5 := f.2.2.2.2.2.1
      have a6 := f.2.2.2.2.2.2.1
      have a7 := f.2.2.2.2.2.2.2.1
      have a8 := f.2.2.2.2.2.2.2.2.1
      have a9 := f.2.2.2.2.2.2.2.2.2
      clear f
      simp [deps, VL, IsV, Region.binds] at hd
      simp only [putAll, Act.put]
      go_simp
      intro hK; exact hK _ _ (hV _ _ hC (Below.refl _ _) rfl)
    · intro y w1 K Q Cv hC hd hV
      have f := hfac.out w1 hC
      have a0 := f.1
      have a1 := f.2.1
      have a2 := f.2.2.1
      have a3 := f.2.2.2.1
      have a4 := f.2.2.2.2.1
      have a5 := f.2.2.2.2.2.1
      have a6 := f.2.2.2.2.2.2.1
      have a7 := f.2.2.2.2.2.2.2.1
      have a8 := f.2.2.2.2.2.2.2.2.1
      have a9 := f.2.2.2.2.2.2.2.2.2
      clear f
      simp [deps, VL, IsV, Region.binds] at hd
      simp only [putAll, Act.put]
      go_simp
      intro hK; exact hK _ _ (hV _ _ hC (Below.refl _ _) rfl)
    · intro y w1 K Q Cv hC hd hV
      have f := hfac.out w1 hC
      have a0 := f.1
      have a1 := f.2.1
      have a2 := f.2.2.1
      have a3 := f.2.2.2.1
      have a4 := f.2.2.2.2.1
      have a5 := f.2.2.2.2.2.1
      have a6 := f.2.2.2.2.2.2.1
      have a7 := f.2.2.2.2.2.2.2.1
      have a8 := f.2.2.2.2.2.2.2.2.1
      have a9 := f.2.2.2.2.2.2.2.2.2
      clear f
      simp [deps, VL, IsV, Region.binds] at hd
      simp only [putAll, Act.put]
      go_simp
      intro hK; exact hK _ _ (hV _ _ hC (Below.refl _ _) rfl)
    · intro y w1 K Q Cv hC hd hV
      have f := hfac.out w1 hC
      have a0 := f.1
      have a1 := f.2.1
      have a2 := f.2.2.1
      have a3 := f.2.2.2.1
      have a4 := f.2.2.2.2.1
      have a5 := f.2.2.2.2.2.1
      have a6 := f.2.2.2.2.2.2.1
      have a7 := f.2.2.2.2.2.2.2.1
      have a8 := f.2.2.2.2.2.2.2.2.1
      have a9 := f.2.2.2.2.2.2.2.2.2
      clear f
      simp [deps, VL, IsV, Region.binds] at hd
      simp only [putAll, Act.put]
      go_simp
      intro hK; exact hK _ _ (hV _ _ hC (Below.refl _ _) rfl)
    · intro y w1 K Q Cv hC hd hV
      have f := hfac.out w1 hC
      have a0 := f.1
      have a1 := f.2.1
      have a2 := f.2.2.1
      have a3 := f.2.2.2.1
      have a4 := f.2.2.2.2.1
      have a5 := f.2.2.2.2.2.1
      have a6 := f.2.2.2.2.2.2.1
      have a7 := f.2.2.2.2.2.2.2.1
      have a8 := f.2.2.2.2.2.2.2.2.1
      have a9 := f.2.2.2.2.2.2.2.2.2
      clear f
      simp [deps, VL, IsV, Region.binds] at hd
      simp only [putAll, Act.put]
      go_simp
      intro hK; exact hK _ _ (hV _ _ hC (Below.refl _ _) rfl)
    · intro y w1 K Q Cv hC hd hV
      have f := hfac.out w1 hC
      have a0 := f.1
      have a1 := f.2.1
      have a2 := f.2.2.1
      have a3 := f.2.2.2.1
      have a4 := f.2.2.2.2.1
      have a5 := f.2.2.2.2.2.1
      have a6 := f.2.2.2.2.2.2.1
      have a7 := f.2.2.2.2.2.2.2.1
      have a8 := f.2.2.2.2.2.2.2.2.1
      have a9 := f.2.2.2.2.2.2.2.2.2
      clear f
      simp [deps, VL, IsV, Region.binds] at hd
      simp only [putAll, Act.put]
      go_simp
      intro hK; exact hK _ _ (hV _ _ hC (Below.refl _ _) rfl)
    · intro y w1 K Q Cv hC hd hV
      have f := hfac.out w1 hC
      have a0 := f.1
      have a1 := f.2.1
      have a2 := f.2.2.1
      have a3 := f.2.2.2.1
      have a4 := f.2.2.2.2.1
      have a5 := f.2.2.2.2.2.1
      have a6 := f.2.2.2.2.2.2.1
      have a7 := f.2.2.2.2.2.2.2.1
      have a8 := f.2.2.2.2.2.2.2.2.1
      have a9 := f.2.2.2.2.2.2.2.2.2
      clear f
      simp [deps, VL, IsV, Region.binds] at hd
      simp only [putAll, Act.put]
      go_simp
      intro hK; exact hK _ _ (hV _ _ hC (Below.refl _ _) rfl)
    · intro y w1 K Q Cv hC hd hV
      have f := hfac.out w1 hC
      have a0 := f.1
      have a1 := f.2.1
      have a2 := f.2.2.1
      have a3 := f.2.2.2.1
      have a4 := f.2.2.2.2.1
      have a5 := f.2.2.2.2.2.1
      have a6 := f.2.2.2.2.2.2.1
      have a7 := f.2.2.2.2.2.2.2.1
      have a8 := f.2.2.2.2.2.2.2.2.1
      have a9 := f.2.2.2.2.2.2.2.2.2
      clear f
      simp [deps, VL, IsV, Region.binds] at hd
      simp only [putAll, Act.put]
      go_simp
      intro hK; exact hK _ _ (hV _ _ hC (Below.refl _ _) rfl)
    · intro y w1 K Q Cv hC hd hV
      have f := hfac.out w1 hC
      have a0 := f.1
      have a1 := f.2.1
      have a2 := f.2.2.1
      have a3 := f.2.2.2.1
      have a4 := f.2.2.2.2.1
      have a5 := f.2.2.2.2.2.1
      have a6 := f.2.2.2.2.2.2.1
      have a7 := f.2.2.2.2.2.2.2.1
      have a8 := f.2.2.2.2.2.2.2.2.1
      have a9 := f.2.2.2.2.2.2.2.2.2
      clear f
      simp [deps, VL, IsV, Region.binds] at hd
      simp only [putAll, Act.put]
      go_simp
      intro hK; exact hK _ _ (hV _ _ hC (Below.refl _ _) rfl)
    · intro y w1 K Q Cv hC hd hV
      have f := hfac.out w1 hC
      have a0 := f.1
      have a1 := f.2.1
      have a2 := f.2.2.1
      have a3 := f.2.2.2.1
      have a4 := f.2.2.2.2.1
      have a5 := f.2.2.2.2.2.1
      have a6 := f.2.2.2.2.2.2.1
      have a7 := f.2.2.2.2.2.2.2.1
      have a8 := f.2.2.2.2.2.2.2.2.1
      have a9 := f.2.2.2.2.2.2.2.2.2
      clear f
      simp [deps, VL, IsV, Region.binds] at hd
      simp only [putAll, Act.put]
      go_simp
      intro hK; exact hK _ _ (hV _ _ hC (Below.refl _ _) rfl)
    · intro y w1 K Q Cv hC hd hV
      have f := hfac.out w1 hC
      have a0 := f.1
      have a1 := f.2.1
      have a2 := f.2.2.1
      have a3 := f.2.2.2.1
      have a4 := f.2.2.2.2.1
      have a5 := f.2.2.2.2.2.1
      have a6 := f.2.2.2.2.2.2.1
      have a7 := f.2.2.2.2.2.2.2.1
      have a8 := f.2.2.2.2.2.2.2.2.1
      have a9 := f.2.2.2.2.2.2.2.2.2
      clear f
      simp [deps, VL, IsV, Region.binds] at hd
      simp only [putAll, Act.put]
      go_simp
      intro hK; exact hK _ _ (hV _ _ hC (Below.refl _ _) rfl)
    · intro y w1 K Q Cv hC hd hV
      have f := hfac.out w1 hC
      have a0 := f.1
      have a1 := f.2.1
      have a2 := f.2.2.1
      have a3 := f.2.2.2.1
      have a4 := f.2.2.2.2.1
      have a5 := f.2.2.2.2.2.1
      have a6 := f.2.2.2.2.2.2.1
      have a7 := f.2.2.2.2.2.2.2.1
      have a8 := f.2.2.2.2.2.2.2.2.1
      have a9 := f.2.2.2.2.2.2.2.2.2
      clear f
      simp [deps, VL, IsV, Region.binds] at hd
      simp only [putAll, Act.put]
      go_simp
      intro hK; exact hK _ _ (hV _ _ hC (Below.refl _ _) rfl)
    · intro y w1 K Q Cv hC hd hV
      have f := hfac.out w1 hC
      have a0 := f.1
      have a1 := f.2.1
      have a2 := f.2.2.1
      have a3 := f.2.2.2.1
      have a4 := f.2.2.2.2.1
      have a5 := f.2.2.2.2.2.1
      have a6 := f.2.2.2.2.2.2.1
      have a7 := f.2.2.2.2.2.2.2.1
      have a8 := f.2.2.2.2.2.2.2.2.1
      have a9 := f.2.2.2.2.2.2.2.2.2
      clear f
      simp [deps, VL, IsV, Region.binds] at hd
      simp only [putAll, Act.put]
      go_simp
      intro hK; exact hK _ _ (hV _ _ hC (Below.refl _ _) rfl)
    · intro y w1 K Q Cv hC hd hV
      have f := hfac.out w1 hC
      have a0 := f.1
      have a1 := f.2.1
      have a2 := f.2.2.1
      have a3 := f.2.2.2.1
      have a4 := f.2.2.2.2.1
      have a5 := f.2.2.2.2.2.1
      have a6 := f.2.2.2.2.2.2.1
      have a7 := f.2.2.2.2.2.2.2.1
      have a8 := f.2.2.2.2.2.2.2.2.1
      have a9 := f.2.2.2.2.2.2.2.2.2
      clear f
      simp [deps, VL, IsV, Region.binds] at hd
      simp only [putAll, Act.put]
      go_simp
      intro hK; exact hK _ _ (hV _ _ hC (Below.refl _ _) rfl)
    · intro y w1 K Q Cv hC hd hV
      have f := hfac.out w1 hC
      have a0 := f.1
      have a1 := f.2.1
      have a2 := f.2.2.1
      have a3 := f.2.2.2.1
      have a4 := f.2.2.2.2.1
      have a5 := f.2.2.2.2.2.1
      have a6 := f.2.2.2.2.2.2.1
      have a7 := f.2.2.2.2.2.2.2.1
      have a8 := f.2.2.2.2.2.2.2.2.1
      have a9 := f.2.2.2.2.2.2.2.2.2
      clear f
      simp [deps, VL, IsV, Region.binds] at hd
      simp only [putAll, Act.put]
      go_simp
      intro hK; exact hK _ _ (hV _ _ hC (Below.refl _ _) rfl)
    · intro y w1 K Q Cv hC hd hV
      have f := hfac.out w1 hC
      have a0 := f.1
      have a1 := f.2.1
      have a2 := f.2.2.1
      have a3 := f.2.2.2.1
      have a4 := f.2.2.2.2.1
      have a5 := f.2.2.2.2.2.1
      have a6 := f.2.2.2.2.2.2.1
      have a7 := f.2.2.2.2.2.2.2.1
      have a8 := f.2.2.2.2.2.2.2.2.1
      have a9 := f.2.2.2.2.2.2.2.2.2
      clear f
      simp [deps, VL, IsV, Region.binds] at hd
      simp only [putAll, Act.put]
      go_simp
      intro hK; exact hK _ _ (hV _ _ hC (Below.refl _ _) rfl)
    · intro y w1 K Q Cv hC hd hV
      have f := hfac.out w1 hC
      have a0 := f.1
      have a1 := f.2.1
      have a2 := f.2.2.1
      have a3 := f.2.2.2.1
      have a4 := f.2.2.2.2.1
      have a5 := f.2.2.2.2.2.1
      have a6 := f.2.2.2.2.2.2.1
      have a7 := f.2.2.2.2.2.2.2.1
      have a8 := f.2.2.2.2.2.2.2.2.1
      have a9 := f.2.2.2.2.2.2.2.2.2
      clear f
      simp [deps, VL, IsV, Region.binds] at hd
      simp only [putAll, Act.put]
      go_simp
      intro hK; exact hK _ _ (hV _ _ hC (Below.refl _ _) rfl)
  intro y w1 hC hd
  simp [EndsL, IsV] at hd
  obtain ⟨d0, d1, d2, d3, d4, d5, d6, d7, d8, d9, d10, d11, d12, d13, d14, d15, d16, d17, d18, d19, d20, d21, d22, d23, d24, d25, d26⟩ := hd
  simp only [putAll, Act.put]
  rw [d0, d1, d2, d3, d4, d5, d6, d7, d8, d9, d10, d11, d12, d13, d14, d15, d16, d17, d18, d19, d20, d21, d22, d23, d24, d25, d26]
  clear d0 d1 d2 d3 d4 d5 d6 d7 d8 d9 d10 d11 d12 d13 d14 d15 d16 d17 d18 d19 d20 d21 d22 d23 d24 d25 d26 hfac hel heo
  simp only [List.setIfInBounds_toArray, List.set_cons_succ, List.set_cons_zero]
  have hB1 := hide (hB.out.trans (hC.mono hB.out.size))
  go_wp2
  go_ret
  exact ⟨rfl, hB1.out⟩
end Go.Proofs.Ytkmhldjebopljaa
