/- Laid together: Ans, Remask. -/
import Derived.Test.YtabfdidnjibdeaaGreatDoorBT27
import Derived.Test.YtabfdidnjibdeaaGreatDoorBT23
/- An answer that holds a list of names and a code. -/
namespace Go.Proofs.YtabfdidnjibdeaaGreatDoor
open Go.RowKit Go.PlainAid Go.Deep
set_option linter.unusedVariables false
end Go.Proofs.YtabfdidnjibdeaaGreatDoor
/- impl.remasked, spec.l03New: the mask reckoned anew. -/
namespace Go.Proofs.YtabfdidnjibdeaaGreatDoor
open Go.RowKit Go.PlainAid Go.Deep
set_option linter.unusedVariables false
/-- Is anybody named? -/
def hnB (us gs:List (Int × Int)):Bool:=!(us.length == 0 && gs.length == 0)
/-- The mask then. -/
def mkB (g:Int) (us gs:List (Int × Int)):Int:=if hnB us gs then maskL g us gs else 0
end Go.Proofs.YtabfdidnjibdeaaGreatDoor
