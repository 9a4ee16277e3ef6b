/- Laid together: Join, Join2. -/
import Derived.Test.YtgooanaacebncaaDoorRD7
/- The contract of impl.join: of a slice of texts it hands back their bytes one behind the other, and turns nothing that was there. -/
namespace Go.Proofs.YtgooanaacebncaaDoor
open Go.RowKit
set_option linter.unusedVariables false
end Go.Proofs.YtgooanaacebncaaDoor
