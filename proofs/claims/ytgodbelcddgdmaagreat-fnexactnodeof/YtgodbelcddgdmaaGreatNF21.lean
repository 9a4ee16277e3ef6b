/- Laid together: Both. -/
import Derived.Test.YtgodbelcddgdmaaGreatNF17
/- spec.l02Both, spec.l02Either: what both of two sets have, and what one of them has. -/
namespace Go.Proofs.YtgodbelcddgdmaaGreat
open Go.RowKit Go.PlainAid
set_option linter.unusedVariables false
end Go.Proofs.YtgodbelcddgdmaaGreat
