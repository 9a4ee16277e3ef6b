/- Laid together: ReadDirJoin. -/
import Derived.Test.YtabfdidnjibdeaaGreatDoorRows
import Derived.WalkKit
import Derived.Test.YtabfdidnjibdeaaGreatDoorTie
import Derived.Test.YtabfdidnjibdeaaGreatDoorCards
import Derived.SevenTiedAt
import Derived.HandedShaped
import Derived.LaidMore
import Derived.Lay
import Derived.ChangeVars
import Derived.MakeChecks
import Derived.Stop.Joined
import Derived.Stop.LaidErr
import Derived.WalkSpells
import Derived.WalkLawsBesides
import Derived.ProofKit
import Derived.OpenShut
import Derived.ShutString
import Derived.ChangeOld
import Derived.Below
import Derived.Lib.SmallJoins
namespace Go.Proofs.YtabfdidnjibdeaaGreatDoor.fnExactReadDir
open Go.ChangeShapes Go.WideShapes Go.ChangeAt Go.RowKit Go.Joins
open Go.ChangeMaps (open_string shut_string)
set_option linter.unusedVariables false

theorem joined:joinedFacts Tryz.pinned.checked.prog 7 Tryz.f7 Rows.fnExactReadDirSpec Rows.fnExactReadDirRow=true:=by kernel_rfl
end Go.Proofs.YtabfdidnjibdeaaGreatDoor.fnExactReadDir
