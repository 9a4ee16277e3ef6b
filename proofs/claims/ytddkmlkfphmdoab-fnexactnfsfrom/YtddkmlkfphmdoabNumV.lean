/- The answers of GetNum, and what it comes to. -/
import Derived.Test.YtddkmlkfphmdoabGetMath
namespace Go.Proofs.Ytddkmlkfphmdoab
open Go.RowKit
/-- An answer of type NumOut. -/
def numV (r : Int × Int × Int) : Value := .agg #[.int .i64 r.1, .int .i64 r.2.1, .int .i64 r.2.2]
/-- What GetNum comes to. -/
def getN (s : ByteArray) (at_ : Int) : Int × Int × Int := if 8000 < s.size then (0, 0, 2) else if at_ < 0 then (0, 0, 1) else scan s at_.toNat 10 0 0
end Go.Proofs.Ytddkmlkfphmdoab
