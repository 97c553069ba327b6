/-
  The law SkillDual.
-/
import Derived.Test.YtkhijdbigpaagaaNy
import Derived.Test.YtkhijdbigpaagaaNar
import Derived.Test.YtkhijdbigpaagaaSkDualL1
import Derived.Test.YtkhijdbigpaagaaSkDualL2
import Derived.Test.YtkhijdbigpaagaaSkDualL3
import Derived.Test.YtkhijdbigpaagaaSkDualL4
import Derived.Test.YtkhijdbigpaagaaSkDualL5
import Derived.Test.YtkhijdbigpaagaaSkDualL6
import Derived.Test.YtkhijdbigpaagaaSkDualL7
namespace Go.Proofs.Ytkhijdbigpaagaa
open Go.RowKit RG

theorem SkillDual_any (v : Value) (S : Sch) (x0 x1 x2 y0 y1 : Int) (w : World) (h : RdSch w v S) (hx0 : 0 ≤ x0 ∧ x0 ≤ 65535) (hx1 : 0 ≤ x1 ∧ x1 ≤ 65535) (hx2 : 0 ≤ x2 ∧ x2 ≤ 65535) (hy0 : 0 ≤ y0 ∧ y0 ≤ 255) (hy1 : 0 ≤ y1 ∧ y1 ≤ 255) :
    Calls Try.prog 10 #[v, .agg #[.int .u16 x0, .int .u16 x1, .int .u16 x2], .agg #[.int .u8 y0, .int .u8 y1]] w fun e w' => e = .returned (.bool true) ∧ Below w.heap.size w w' := by
  rcases dual_cases S x0 x1 x2 hx0.1 hx1.1 hx2.1 with hc | hc | hc | hc | hc | hc | hc
  · exact SkillDual_c1 v S x0 x1 x2 y0 y1 w h hx0 hx1 hx2 hy0 hy1 hc
  · exact SkillDual_c2 v S x0 x1 x2 y0 y1 w h hx0 hx1 hx2 hy0 hy1 hc
  · exact SkillDual_c3 v S x0 x1 x2 y0 y1 w h hx0 hx1 hx2 hy0 hy1 hc
  · exact SkillDual_c4 v S x0 x1 x2 y0 y1 w h hx0 hx1 hx2 hy0 hy1 hc
  · exact SkillDual_c5 v S x0 x1 x2 y0 y1 w h hx0 hx1 hx2 hy0 hy1 hc
  · exact SkillDual_c6 v S x0 x1 x2 y0 y1 w h hx0 hx1 hx2 hy0 hy1 hc
  · exact SkillDual_c7 v S x0 x1 x2 y0 y1 w h hx0 hx1 hx2 hy0 hy1 hc
end Go.Proofs.Ytkhijdbigpaagaa
