/- Laid together: HasMath, HasWalks. -/
import Derived.Laws.BitsAllLaws
import Derived.Test.YtgooanaacebncaaDoorRC2
/- One set in another: 'h &&& w = w' of numbers, told by halves. Nothing here names a program. -/
namespace Go.Proofs.YtgooanaacebncaaDoor
open Go.RowKit
set_option linter.unusedVariables false
theorem i64_or_nat (a b : Nat) (ha : a < 4611686018427387904) (hb : b < 4611686018427387904) : bits .or .i64 (a : Int) (b : Int) = ((a ||| b : Nat) : Int) := by
  have hx : a ||| b < 2 ^ 62 := Nat.or_lt_two_pow (by omega) (by omega)
  show IntKind.i64.wrap ((BitVec.ofInt 64 (a : Int) ||| BitVec.ofInt 64 (b : Int)).toNat : Int) = _
  rw [BitVec.toNat_or, ofInt_u64 a (by omega), ofInt_u64 b (by omega), IntKind.wrap_i64]
  omega
end Go.Proofs.YtgooanaacebncaaDoor
/- The contracts of Has: the program's and the specification's both answer whether each number of the one set is in the other. -/
namespace Go.Proofs.YtgooanaacebncaaDoor
open Go.RowKit Go.PlainAid
set_option linter.unusedVariables false
end Go.Proofs.YtgooanaacebncaaDoor
