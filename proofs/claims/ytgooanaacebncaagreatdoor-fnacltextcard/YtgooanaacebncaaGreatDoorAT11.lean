/- Laid together: AclEq, Fresh, Ans. -/
import Derived.Test.YtgooanaacebncaaGreatDoorAT10
/- laws.eqNamed, eqNamedS, eqAcl of two that hold the same. -/
namespace Go.Proofs.YtgooanaacebncaaGreatDoor
open Go.RowKit Go.PlainAid
set_option linter.unusedVariables false
theorem bl2N (w : World) (o1 o2 : Obj) : Below w.heap.size w ((w.alloc o1).alloc o2) := ((Below.refl _ _).alloc (Nat.le_refl _) _).alloc (by simp) _
end Go.Proofs.YtgooanaacebncaaGreatDoor
/- A list of names in memory of its own: impl.ownAcl, spec.l03Copy. -/
namespace Go.Proofs.YtgooanaacebncaaGreatDoor
open Go.RowKit Go.PlainAid Go.Deep
set_option linter.unusedVariables false
end Go.Proofs.YtgooanaacebncaaGreatDoor
