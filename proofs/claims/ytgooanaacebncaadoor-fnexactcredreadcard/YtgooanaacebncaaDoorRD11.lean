/- Laid together: Join5, Digs. -/
import Derived.Test.YtgooanaacebncaaDoorRD10
/- Five texts joined. -/
namespace Go.Proofs.YtgooanaacebncaaDoor
open Go.RowKit Go.PlainAid
set_option linter.unusedVariables false
/-- The table of the powers of ten lies where it is laid. -/
def PowW (w : World) : Prop := Lib.TabIs Tryd.prog w "internal/strconv.uint64pow10" .u64 Lib.pow10Tab
theorem gPow : Tryd.prog.globalNamed "internal/strconv.uint64pow10" = some 0 := by kernel_rfl
theorem PowW.below {w w' : World} (h : PowW w) (hb : Below w.heap.size w w') : PowW w' := Go.Joins.var_stays gPow h hb (Nat.le_refl _)
end Go.Proofs.YtgooanaacebncaaDoor
