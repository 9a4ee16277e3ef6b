/- What the row's condition on the tables gives a walk: the powers of ten; a world that meets the condition. -/
import Derived.Test.YtlngfaplimpilaaDoorRows
import Derived.Test.YtlngfaplimpilaaDoorDigs
import Derived.Lib.SmallJoins
import Derived.LaidMore
import Derived.OpenShut
import Derived.ChangeVars
import Derived.MakeChecks
import Derived.Stop.Joined
import Derived.ProofKit
import Derived.Stop.LaidErr
namespace Go.Proofs.YtlngfaplimpilaaDoor
open Go.ChangeShapes Go.WideShapes Go.RowKit Go.Joins
set_option linter.unusedVariables false
abbrev laidP : List (String × DataW Unit) := [("math/bits.deBruijn32tab", Rows.laid_math_bits_deBruijn32tab), ("math/bits.deBruijn64tab", Rows.laid_math_bits_deBruijn64tab), ("internal/strconv.uint64pow10", Rows.laid_internal_strconv_uint64pow10)]
theorem tPow : (Tryd.prog.globals[0]?).map (·.type) = some 161 := by kernel_rfl
theorem c64 : Tryd.prog.cellsOf 109 = 1 := by kernel_rfl
theorem c20 : Tryd.prog.cellsOf 161 = 20 := by kernel_rfl
theorem plw_of_laid {W : World} (h : laidMetH Tryd.prog laidP W) : PowW W := by
  rw [MakeChecks.laidMetH_plain _ _ _ (by kernel_rfl)] at h
  exact Lib.tabIs_of_head (zs := Lib.pow10Tab) gPow tPow Tryd.underlying161 Tryd.underlying109 c64 c20 (laidMet.tail (laidMet.tail h))
/-- The door's own heap meets the condition. -/
theorem door_met (os : Os) (args : Array Value) : laidMetH Tryd.prog laidP ((World.doorLaid Tryd.prog 4000 os).forCall (fun _ _ => 0) ⟨#[], args, []⟩).memory :=
  laidMetH_of_parts3 (fuel := 8) (laidMet_of_run' 8 (by kernel_rfl) (by kernel_rfl)) (by kernel_rfl) (by kernel_rfl)
end Go.Proofs.YtlngfaplimpilaaDoor
