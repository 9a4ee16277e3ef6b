/- Laid together: WkS4. -/
import Derived.Test.YtabfdidnjibdeaaGreatDoorBR28
namespace Go.Proofs.YtabfdidnjibdeaaGreatDoor
open Go.RowKit Go.PlainAid Go.Deep
set_option linter.unusedVariables false
def wkF (l:List Nd) (now u g:Int) (cl:Nat) (r:Bool) (cf:Nat→Int) (s:ByteArray) (fo:Bool):Wo :=
  if 8000<s.size then woC 2 else if treeB l now&&credB u g cl cf then wkO l (ltB l u g cl r cf) fo s else woC 1
def woV (o:Wo):Value:=.agg #[.int .i64 o.n,.int .i64 o.d,.string o.nm,.int .i64 o.c]
end Go.Proofs.YtabfdidnjibdeaaGreatDoor
