/- Laid together: Take. -/
import Derived.Test.YtedahdncincgjaaGreatDoorNX4
import Derived.Test.YtedahdncincgjaaGreatDoorNX9
/- spec.l04Take; spec.l04Holds. -/
namespace Go.Proofs.YtedahdncincgjaaGreatDoor
open Go.RowKit Go.PlainAid Go.Deep
set_option linter.unusedVariables false
end Go.Proofs.YtedahdncincgjaaGreatDoor
