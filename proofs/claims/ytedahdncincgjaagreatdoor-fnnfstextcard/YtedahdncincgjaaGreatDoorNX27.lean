/- Laid together: Contains, InGroupWalks. -/
import Derived.Test.YtedahdncincgjaaGreatDoorNX26
/- slices.Index and slices.Contains of numbers. -/
namespace Go.Proofs.YtedahdncincgjaaGreatDoor
open Go.RowKit Go.PlainAid
set_option linter.unusedVariables false
end Go.Proofs.YtedahdncincgjaaGreatDoor
