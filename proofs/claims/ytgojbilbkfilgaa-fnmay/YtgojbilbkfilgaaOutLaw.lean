/- What the laws do with an answer that holds a list of names: two of them compared, marked, read again. -/
import Derived.Test.YtgojbilbkfilgaaAns
import Derived.Test.YtgojbilbkfilgaaAnsR
import Derived.Test.YtgojbilbkfilgaaAclEq
import Derived.Test.YtgojbilbkfilgaaAclMark
namespace Go.Proofs.Ytgojbilbkfilgaa
open Go.RowKit Go.PlainAid Go.Deep
set_option linter.unusedVariables false
theorem Answers.out {xu xg xo xm xc : Int} {xus xgs : List (Int × Int)} {xr : Bool} {w w' : World} {e : Ending} (h : Answers ⟨xu, xg, xo, xus, xgs, xr, xm, xc⟩ w e w') : ∃ a1 c1 a2 c2, e = .returned (.agg #[.int .i64 xu, .int .i64 xg, .int .i64 xo, .slice a1 xus.length c1, .slice a2 xgs.length c2, .bool xr, .int .i64 xm, .int .i64 xc]) ∧ New w w' a1 xus.length xus a2 xgs.length xgs := h
end Go.Proofs.Ytgojbilbkfilgaa
