/- laws.eqNamed, eqNamedS, eqAcl of two that hold the same. -/
import Derived.Test.YtgojbilbkfilgaaAclTo
import Derived.Lib.QuietBelow
namespace Go.Proofs.Ytgojbilbkfilgaa
open Go.RowKit Go.PlainAid
set_option linter.unusedVariables false
theorem bl2N (w : World) (o1 o2 : Obj) : Below w.heap.size w ((w.alloc o1).alloc o2) := ((Below.refl _ _).alloc (Nat.le_refl _) _).alloc (by simp) _
end Go.Proofs.Ytgojbilbkfilgaa
