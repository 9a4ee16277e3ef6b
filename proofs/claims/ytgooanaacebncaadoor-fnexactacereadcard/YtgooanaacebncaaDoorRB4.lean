/- Laid together: Join, Join2. -/
import Derived.Test.YtgooanaacebncaaDoorRB3
import Derived.Deep.OwnRows
/- The contract of impl.join: of a slice of texts it hands back their bytes one behind the other, and turns nothing that was there. -/
namespace Go.Proofs.YtgooanaacebncaaDoor
open Go.RowKit
set_option linter.unusedVariables false
theorem infoU8 : (Tryd.prog.info? 5).map (fun i => (i.zero, i.size, i.bytes)) = some (some (.int .u8 0), 1, 1) := by kernel_rfl
end Go.Proofs.YtgooanaacebncaaDoor
