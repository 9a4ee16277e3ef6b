/- Laid together: PutI. -/
import Derived.Test.YtgooanaacebncaaGreatDoorAT15
/- impl.withNamed: an entry put in its place. -/
namespace Go.Proofs.YtgooanaacebncaaGreatDoor
open Go.RowKit Go.PlainAid Go.Deep
set_option linter.unusedVariables false
end Go.Proofs.YtgooanaacebncaaGreatDoor
