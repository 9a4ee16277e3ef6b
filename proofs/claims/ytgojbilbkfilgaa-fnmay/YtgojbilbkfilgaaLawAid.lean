/- Small laws for the laws of a list of names. -/
import Derived.Test.YtgojbilbkfilgaaAclEq
import Derived.Test.YtgojbilbkfilgaaBox7
namespace Go.Proofs.Ytgojbilbkfilgaa
open Go.RowKit Go.PlainAid
set_option linter.unusedVariables false
theorem below_drewD {B : Nat} {w w' : World} (h : Below B w w') : Below B w w'.drew := h.trans ⟨rfl, rfl, rfl, Nat.le_refl _, fun _ _ => rfl⟩
theorem below_drewE {w w' : World} (h : Below w.drew.heap.size w.drew w') : Below w.heap.size w w' := ⟨h.os, h.tape, h.output, h.size, h.block⟩
end Go.Proofs.Ytgojbilbkfilgaa
