/-
  The law ClassMay returns true.
-/
import Derived.Test.YtjfdfhnfcpfmcaaGreatDoorMj
import Derived.Test.YtjfdfhnfcpfmcaaGreatDoorMn
namespace Go.Proofs.YtjfdfhnfcpfmcaaGreatDoor
open Go.RowKit RG

set_option maxRecDepth 100000 in
set_option maxHeartbeats 4000000 in
theorem LawMay_any (A A2 R : Option Addr) (cc c2 cr : Nat) (S : Sys) (rs : List (Int × Int)) (c f : Int) (w : World) (he : Env w) (h : InMem w A A2 cc c2 S) (hr : RdRts w R rs.length rs) :
    Calls Tryz.prog 5 #[.agg #[.slice A S.cs.length cc, .slice A2 S.codes.length c2], .slice R rs.length cr, .agg #[.int .i64 c, .int .i64 f]] w fun e w' => e = .returned (.bool true) ∧ Below w.heap.size w w' := by
  have hc1 := hide (fun W (hb : Below w.heap.size w W) => May_any A A2 R cc c2 cr S rs c f W (h.below hb) (hr.below hb))
  have hc2 := hide (fun W (hb : Below w.heap.size w W) => MayR_any A A2 R cc c2 cr S rs c f W (h.below hb) (hr.below hb))
  have hB0 := hide (((Below.refl w.heap.size w).alloc (Nat.le_refl _) (.cells #[.slice A S.cs.length cc, .slice A2 S.codes.length c2] 38)).alloc (by simp) (.cells #[.int .i64 c, .int .i64 f] 47))
  have hS0 : Blk ((w.alloc (.cells #[.slice A S.cs.length cc, .slice A2 S.codes.length c2] 38)).alloc (.cells #[.int .i64 c, .int .i64 f] 47)) w.heap.size 38 #[.slice A S.cs.length cc, .slice A2 S.codes.length c2] := (Blk.new_ rfl).alloc _
  have hX0 : Blk ((w.alloc (.cells #[.slice A S.cs.length cc, .slice A2 S.codes.length c2] 38)).alloc (.cells #[.int .i64 c, .int .i64 f] 47)) (w.heap.size + 1) 47 #[.int .i64 c, .int .i64 f] := Blk.new_ (by simp)
  have he0 := hide (he.below hB0.out he.size)
  clear h he hr
  generalize mayF S rs c f = x at *
  obtain ⟨x1, x2⟩ := x
  simp only at hc1 hc2
  have e1 : (x1 == x1) = true := by simp
  have e2 : (x2 == x2) = true := by simp
  generalize rs.length = m at *
  generalize S.cs.length = n at *
  generalize S.codes.length = n2 at *
  replace hS0 := hide hS0
  replace hX0 := hide hX0
  go_enter Tryz.func5, Tryz.ntmps5
  go_wp2_with fail
  generalize ((w.alloc (.cells #[.slice A n cc, .slice A2 n2 c2] 38)).alloc (.cells #[.int .i64 c, .int .i64 f] 47)) = w0 at *
  refine (hc1.out _ hB0.out).mono ?_
  rintro e w1 ⟨rfl, hb1⟩
  have he1 := hide (he0.out.below hb1 he0.out.size)
  have hB1 := hide (hB0.out.trans (hb1.mono hB0.out.size))
  have hS1 := hS0.out.below hb1 hS0.out.lt
  have hX1 := hX0.out.below hb1 hX0.out.lt
  clear hb1 he0 hB0 hS0 hX0 hc1
  have s0 : w1.cell? ⟨w.heap.size, 0, none⟩ = some (.slice A n cc) := hS1.cell 0
  have s1 : w1.cell? ⟨w.heap.size, 1, none⟩ = some (.slice A2 n2 c2) := hS1.cell 1
  have s2 : w1.cell? ⟨w.heap.size + 1, 0, none⟩ = some (.int .i64 c) := hX1.cell 0
  have s3 : w1.cell? ⟨w.heap.size + 1, 1, none⟩ = some (.int .i64 f) := hX1.cell 1
  clear hS1 hX1
  go_wp2_with fail
  clear s0 s1 s2 s3
  refine (hc2.out _ hB1.out).mono ?_
  rintro e w2 ⟨rfl, hb2⟩
  have he2 := hide (he1.out.below hb2 he1.out.size)
  have hB2 := hide (hB1.out.trans (hb2.mono hB1.out.size))
  clear hb2 he1 hB1 hc2
  go_wp2_with fail
  refine (Awake_any _ he2.out).mono ?_
  rintro e w6 ⟨rfl, hb6⟩
  have hB6 := hide (hB2.out.trans (hb6.mono hB2.out.size))
  clear hb6
  go_wp2
  go_ret
  exact ⟨rfl, hB6.out⟩
end Go.Proofs.YtjfdfhnfcpfmcaaGreatDoor
