/- spec.l03Ill: an answer that is a code alone. -/
import Derived.Test.YteholdjhkdapcaiAns
import Derived.Test.YteholdjhkdapcaiChmod
namespace Go.Proofs.Yteholdjhkdapcai
open Go.RowKit Go.PlainAid Go.Deep
set_option linter.unusedVariables false
end Go.Proofs.Yteholdjhkdapcai
