/- spec.l03Ill: an answer that is a code alone. -/
import Derived.Test.YtgojbilbkfilgaaAns
import Derived.Test.YtgojbilbkfilgaaChmod
namespace Go.Proofs.Ytgojbilbkfilgaa
open Go.RowKit Go.PlainAid Go.Deep
set_option linter.unusedVariables false
end Go.Proofs.Ytgojbilbkfilgaa
