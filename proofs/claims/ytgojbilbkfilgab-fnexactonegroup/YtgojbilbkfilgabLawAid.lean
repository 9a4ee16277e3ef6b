/- Small laws for the laws of a list of names. -/
import Derived.Test.YtgojbilbkfilgabAclEq
import Derived.Test.YtgojbilbkfilgabBox7
namespace Go.Proofs.Ytgojbilbkfilgab
open Go.RowKit Go.PlainAid
set_option linter.unusedVariables false
theorem szB_neg {l1 l2 : Nat} (h : ¬ (l1 + l2 ≤ 1048576)) : szB 1048576 l1 l2 = -1 := by
  unfold szB
  by_cases h1 : (1048576 : Int) < (l1 : Int)
  · rw [if_pos h1]
  · rw [if_neg h1, if_pos (by omega)]
theorem szB_pos {l1 l2 : Nat} (h : l1 + l2 ≤ 1048576) : szB 1048576 l1 l2 = 1048576 - l1 - l2 := by
  unfold szB
  rw [if_neg (by omega), if_neg (by omega)]
theorem below_drewD {B : Nat} {w w' : World} (h : Below B w w') : Below B w w'.drew := h.trans ⟨rfl, rfl, rfl, Nat.le_refl _, fun _ _ => rfl⟩
theorem below_drewE {w w' : World} (h : Below w.drew.heap.size w.drew w') : Below w.heap.size w w' := ⟨h.os, h.tape, h.output, h.size, h.block⟩
end Go.Proofs.Ytgojbilbkfilgab
