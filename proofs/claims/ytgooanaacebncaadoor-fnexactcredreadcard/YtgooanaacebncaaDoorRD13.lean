/- Laid together: Texts, ICredText. -/
import Derived.Test.YtgooanaacebncaaDoorRD12
/- Rows of texts that are owned; append of one text; the builtin append by what it runs to. -/
namespace Go.Proofs.YtgooanaacebncaaDoor
open Go.RowKit Go.PlainAid Go.Deep
set_option linter.unusedVariables false
end Go.Proofs.YtgooanaacebncaaDoor
