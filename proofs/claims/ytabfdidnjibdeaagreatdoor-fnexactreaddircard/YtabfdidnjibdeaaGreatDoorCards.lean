/-
  DERIVED. GIVEN WITH THE SEED: THE CARDS: each row of YtabfdidnjibdeaaGreatDoorRows.lean that lists a variable, with what it lists TIED to the program's text (the seventh form; the later family's looks); each row that meets fmt, with fmt's text TOLD by the authors' own Lean function (tested against real Go, not proved from fmt's source: count such statements apart). THE CARD IS WHAT COUNTS. Prove the row's statement (the work); the ties are given (YtabfdidnjibdeaaGreatDoorTie.lean); close each card by the builder's one call (the guide's Derived/Test/ToyasCard.lean, 'card_holds'). Laid BY PROGRAM, IN A SANDBOX (cutbox-door.mjs). By AI agents, Wed Nov 11 2026. No macro, syntax, notation, axiom, sorry.
-/
import Derived.Test.YtabfdidnjibdeaaGreatDoorRows
import GoSem.ClaimSeven
namespace Go.Proofs.YtabfdidnjibdeaaGreatDoor
namespace Rows

/-- THE TIED CARD OF 'laws.FnExactWalk'. -/
def fnExactWalkCard : Claim7 := { stood := { row := fnExactWalkRow, standIns := [], harness := (true, "78ecb1c5dffe48ddb026d6c13e0f5f95e75eeefe416b4ca9cecdb160fdc3b026"), looks := true }, kinds := [], alts := [], laidByText := true, laidKinds := [.data, .sentinel, .sentinel, .sentinel, .sentinel, .pinned], laidTests := true, laidLooks := .later }
def FnExactWalkCardSaid : Prop := Claim7.holds Tryz.pinned (.plain (OpenSpec.ofChange fnExactWalkSpec)) fnExactWalkCard

/-- THE TIED CARD OF 'laws.FnExactReach'. -/
def fnExactReachCard : Claim7 := { stood := { row := fnExactReachRow, standIns := [], harness := (true, "78ecb1c5dffe48ddb026d6c13e0f5f95e75eeefe416b4ca9cecdb160fdc3b026"), looks := true }, kinds := [], alts := [], laidByText := true, laidKinds := [.data, .sentinel, .sentinel, .sentinel, .sentinel, .pinned], laidTests := true, laidLooks := .later }
def FnExactReachCardSaid : Prop := Claim7.holds Tryz.pinned (.plain (OpenSpec.ofChange fnExactReachSpec)) fnExactReachCard

/-- THE TIED CARD OF 'laws.FnExactAccess'. -/
def fnExactAccessCard : Claim7 := { stood := { row := fnExactAccessRow, standIns := [], harness := (true, "78ecb1c5dffe48ddb026d6c13e0f5f95e75eeefe416b4ca9cecdb160fdc3b026"), looks := true }, kinds := [], alts := [], laidByText := true, laidKinds := [.data, .sentinel, .sentinel, .sentinel, .sentinel, .pinned], laidTests := true, laidLooks := .later }
def FnExactAccessCardSaid : Prop := Claim7.holds Tryz.pinned (.plain (OpenSpec.ofChange fnExactAccessSpec)) fnExactAccessCard

/-- THE TIED CARD OF 'laws.FnExactStat'. -/
def fnExactStatCard : Claim7 := { stood := { row := fnExactStatRow, standIns := [], harness := (true, "78ecb1c5dffe48ddb026d6c13e0f5f95e75eeefe416b4ca9cecdb160fdc3b026"), looks := true }, kinds := [], alts := [], laidByText := true, laidKinds := [.data, .sentinel, .sentinel, .sentinel, .sentinel, .pinned], laidTests := true, laidLooks := .later }
def FnExactStatCardSaid : Prop := Claim7.holds Tryz.pinned (.plain (OpenSpec.ofChange fnExactStatSpec)) fnExactStatCard

/-- THE TIED CARD OF 'laws.FnExactReadDir'. -/
def fnExactReadDirCard : Claim7 := { stood := { row := fnExactReadDirRow, standIns := [], harness := (true, "78ecb1c5dffe48ddb026d6c13e0f5f95e75eeefe416b4ca9cecdb160fdc3b026"), looks := true }, kinds := [], alts := [], laidByText := true, laidKinds := [.data, .sentinel, .sentinel, .sentinel, .sentinel, .pinned], laidTests := true, laidLooks := .later }
def FnExactReadDirCardSaid : Prop := Claim7.holds Tryz.pinned (.plain (OpenSpec.ofChange fnExactReadDirSpec)) fnExactReadDirCard

/-- THE SECOND FORM's CARD OF 'laws.FnExactWalk'. -/
def fnExactWalkUptoCard : Claim7 := { stood := { row := fnExactWalkUptoRow, standIns := [], harness := (true, "78ecb1c5dffe48ddb026d6c13e0f5f95e75eeefe416b4ca9cecdb160fdc3b026"), looks := true }, kinds := [], alts := [], laidByText := true, laidKinds := [.data, .sentinel, .sentinel, .sentinel, .sentinel, .pinned], laidTests := true, laidLooks := .later }
def FnExactWalkUptoCardSaid : Prop := Claim7.holds Tryz.pinned (.plain (OpenSpec.upto fnExactWalkSpec)) fnExactWalkUptoCard

/-- THE SECOND FORM's CARD OF 'laws.FnExactReach'. -/
def fnExactReachUptoCard : Claim7 := { stood := { row := fnExactReachUptoRow, standIns := [], harness := (true, "78ecb1c5dffe48ddb026d6c13e0f5f95e75eeefe416b4ca9cecdb160fdc3b026"), looks := true }, kinds := [], alts := [], laidByText := true, laidKinds := [.data, .sentinel, .sentinel, .sentinel, .sentinel, .pinned], laidTests := true, laidLooks := .later }
def FnExactReachUptoCardSaid : Prop := Claim7.holds Tryz.pinned (.plain (OpenSpec.upto fnExactReachSpec)) fnExactReachUptoCard

/-- THE SECOND FORM's CARD OF 'laws.FnExactAccess'. -/
def fnExactAccessUptoCard : Claim7 := { stood := { row := fnExactAccessUptoRow, standIns := [], harness := (true, "78ecb1c5dffe48ddb026d6c13e0f5f95e75eeefe416b4ca9cecdb160fdc3b026"), looks := true }, kinds := [], alts := [], laidByText := true, laidKinds := [.data, .sentinel, .sentinel, .sentinel, .sentinel, .pinned], laidTests := true, laidLooks := .later }
def FnExactAccessUptoCardSaid : Prop := Claim7.holds Tryz.pinned (.plain (OpenSpec.upto fnExactAccessSpec)) fnExactAccessUptoCard

/-- THE SECOND FORM's CARD OF 'laws.FnExactStat'. -/
def fnExactStatUptoCard : Claim7 := { stood := { row := fnExactStatUptoRow, standIns := [], harness := (true, "78ecb1c5dffe48ddb026d6c13e0f5f95e75eeefe416b4ca9cecdb160fdc3b026"), looks := true }, kinds := [], alts := [], laidByText := true, laidKinds := [.data, .sentinel, .sentinel, .sentinel, .sentinel, .pinned], laidTests := true, laidLooks := .later }
def FnExactStatUptoCardSaid : Prop := Claim7.holds Tryz.pinned (.plain (OpenSpec.upto fnExactStatSpec)) fnExactStatUptoCard

/-- THE SECOND FORM's CARD OF 'laws.FnExactReadDir'. -/
def fnExactReadDirUptoCard : Claim7 := { stood := { row := fnExactReadDirUptoRow, standIns := [], harness := (true, "78ecb1c5dffe48ddb026d6c13e0f5f95e75eeefe416b4ca9cecdb160fdc3b026"), looks := true }, kinds := [], alts := [], laidByText := true, laidKinds := [.data, .sentinel, .sentinel, .sentinel, .sentinel, .pinned], laidTests := true, laidLooks := .later }
def FnExactReadDirUptoCardSaid : Prop := Claim7.holds Tryz.pinned (.plain (OpenSpec.upto fnExactReadDirSpec)) fnExactReadDirUptoCard
end Rows
end Go.Proofs.YtabfdidnjibdeaaGreatDoor
