/- An answer that holds a list of names and a code. -/
import Derived.Test.YtgojbilbkfilgaaFresh
import Derived.Test.YtgojbilbkfilgaaAnsR
namespace Go.Proofs.Ytgojbilbkfilgaa
open Go.RowKit Go.PlainAid Go.Deep
set_option linter.unusedVariables false
end Go.Proofs.Ytgojbilbkfilgaa
