/-
  DERIVED. GIVEN WITH THE SEED: THE CARDS: each row of YtlngfaplimpilabDoorRows.lean that lists a variable, with what it lists TIED to the program's text (the seventh form; the later family's looks); each row that meets fmt, with fmt's text TOLD by the authors' own Lean function (tested against real Go, not proved from fmt's source: count such statements apart). THE CARD IS WHAT COUNTS. Prove the row's statement (the work); the ties are given (YtlngfaplimpilabDoorTie.lean); close each card by the builder's one call (the guide's Derived/Test/ToyasCard.lean, 'card_holds'). Laid BY PROGRAM, IN A SANDBOX (cutbox-door.mjs). By AI agents, Wed Nov 11 2026. No macro, syntax, notation, axiom, sorry.
-/
import Derived.Test.YtlngfaplimpilabDoorRows
import GoSem.ClaimSeven
namespace Go.Proofs.YtlngfaplimpilabDoor
namespace Rows

/-- THE TIED CARD OF 'laws.FnExactAclRead'. -/
def fnExactAclReadCard : Claim7 := { stood := { row := fnExactAclReadRow, standIns := [], harness := (true, "01134193c2aa62d9b4e04be6d8bcffb4a2490e1dac601ae9771e855b09119493"), looks := false }, kinds := [], alts := [], laidByText := true, laidKinds := [.data, .data, .data, .data, .pinned], laidTests := true, laidLooks := .later }
def FnExactAclReadCardSaid : Prop := Claim7.holds Tryd.pinned (.plain (OpenSpec.ofChange fnExactAclReadSpec)) fnExactAclReadCard

/-- THE TIED CARD OF 'laws.FnExactNfsChmod'. -/
def fnExactNfsChmodCard : Claim7 := { stood := { row := fnExactNfsChmodRow, standIns := [], harness := (true, "01134193c2aa62d9b4e04be6d8bcffb4a2490e1dac601ae9771e855b09119493"), looks := false }, kinds := [], alts := [], laidByText := true, laidKinds := [.data], laidTests := true, laidLooks := .later }
def FnExactNfsChmodCardSaid : Prop := Claim7.holds Tryd.pinned (.plain (OpenSpec.ofChange fnExactNfsChmodSpec)) fnExactNfsChmodCard

/-- THE SECOND FORM's CARD OF 'laws.FnExactAclRead'. -/
def fnExactAclReadUptoCard : Claim7 := { stood := { row := fnExactAclReadUptoRow, standIns := [], harness := (true, "01134193c2aa62d9b4e04be6d8bcffb4a2490e1dac601ae9771e855b09119493"), looks := false }, kinds := [], alts := [], laidByText := true, laidKinds := [.data, .data, .data, .data, .pinned], laidTests := true, laidLooks := .later }
def FnExactAclReadUptoCardSaid : Prop := Claim7.holds Tryd.pinned (.plain (OpenSpec.upto fnExactAclReadSpec)) fnExactAclReadUptoCard

/-- THE SECOND FORM's CARD OF 'laws.FnExactNfsChmod'. -/
def fnExactNfsChmodUptoCard : Claim7 := { stood := { row := fnExactNfsChmodUptoRow, standIns := [], harness := (true, "01134193c2aa62d9b4e04be6d8bcffb4a2490e1dac601ae9771e855b09119493"), looks := false }, kinds := [], alts := [], laidByText := true, laidKinds := [.data], laidTests := true, laidLooks := .later }
def FnExactNfsChmodUptoCardSaid : Prop := Claim7.holds Tryd.pinned (.plain (OpenSpec.upto fnExactNfsChmodSpec)) fnExactNfsChmodUptoCard
end Rows
end Go.Proofs.YtlngfaplimpilabDoor
