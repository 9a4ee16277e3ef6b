/- laws.szEntry, szEntryS, szNode, szNodeS, szTree: the size of a tree; what is not too great has lists and texts that are not too long. -/
import Derived.Test.YtgodbelcddgdmaaTreeM
import Derived.Test.YtgodbelcddgdmaaAclTo
import Derived.Test.YtgodbelcddgdmaaBox7
import Derived.Deep.QuietTactic
import Derived.BigQuiet
import Derived.Handy
import Derived.Deep.Cut
namespace Go.Proofs.Ytgodbelcddgdmaa
open Go.RowKit Go.PlainAid
set_option linter.unusedVariables false
/-- The lists and texts of a node are no longer than n. -/
structure NdFit (n : Nat) (x : Nd) : Prop where
  au : x.A.us.length ≤ n
  ag : x.A.gs.length ≤ n
  du : x.D.us.length ≤ n
  dg : x.D.gs.length ≤ n
  bo : x.bo.size ≤ n
  nl : x.ns.length ≤ n
  nm : ∀ i, i < x.ns.length → (nmAt x.ns i).size ≤ n
end Go.Proofs.Ytgodbelcddgdmaa
