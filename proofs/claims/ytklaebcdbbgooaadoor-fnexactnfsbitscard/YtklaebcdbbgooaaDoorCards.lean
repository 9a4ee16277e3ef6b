/-
  DERIVED. GIVEN WITH THE SEED: THE CARDS: each row of YtklaebcdbbgooaaDoorRows.lean that lists a variable, with what it lists TIED to the program's text (the seventh form; the later family's looks); each row that meets fmt, with fmt's text TOLD by the authors' own Lean function (tested against real Go, not proved from fmt's source: count such statements apart). THE CARD IS WHAT COUNTS. Prove the row's statement (the work); the ties are given (YtklaebcdbbgooaaDoorTie.lean); close each card by the builder's one call (the guide's Derived/Test/ToyasCard.lean, 'card_holds'). Laid BY PROGRAM, IN A SANDBOX (cutbox-door.mjs). By AI agents, Wed Nov 11 2026. No macro, syntax, notation, axiom, sorry.
-/
import Derived.Test.YtklaebcdbbgooaaDoorRows
import GoSem.ClaimSeven
namespace Go.Proofs.YtklaebcdbbgooaaDoor
namespace Rows

/-- THE TIED CARD OF 'laws.FnExactNfsBits'. -/
def fnExactNfsBitsCard : Claim7 := { stood := { row := fnExactNfsBitsRow, standIns := [], harness := (true, "444aae93173e99be864766ed9a2f9af6b458290d80e48321e708b8967c8d3c42"), looks := false }, kinds := [], alts := [], laidByText := true, laidKinds := [.data], laidTests := true, laidLooks := .later }
def FnExactNfsBitsCardSaid : Prop := Claim7.holds Tryd.pinned (.plain (OpenSpec.ofChange fnExactNfsBitsSpec)) fnExactNfsBitsCard

/-- THE TIED CARD OF 'laws.FnExactNfsRwx'. -/
def fnExactNfsRwxCard : Claim7 := { stood := { row := fnExactNfsRwxRow, standIns := [], harness := (true, "444aae93173e99be864766ed9a2f9af6b458290d80e48321e708b8967c8d3c42"), looks := false }, kinds := [], alts := [], laidByText := true, laidKinds := [.data], laidTests := true, laidLooks := .later }
def FnExactNfsRwxCardSaid : Prop := Claim7.holds Tryd.pinned (.plain (OpenSpec.ofChange fnExactNfsRwxSpec)) fnExactNfsRwxCard

/-- THE SECOND FORM's CARD OF 'laws.FnExactNfsBits'. -/
def fnExactNfsBitsUptoCard : Claim7 := { stood := { row := fnExactNfsBitsUptoRow, standIns := [], harness := (true, "444aae93173e99be864766ed9a2f9af6b458290d80e48321e708b8967c8d3c42"), looks := false }, kinds := [], alts := [], laidByText := true, laidKinds := [.data], laidTests := true, laidLooks := .later }
def FnExactNfsBitsUptoCardSaid : Prop := Claim7.holds Tryd.pinned (.plain (OpenSpec.upto fnExactNfsBitsSpec)) fnExactNfsBitsUptoCard

/-- THE SECOND FORM's CARD OF 'laws.FnExactNfsRwx'. -/
def fnExactNfsRwxUptoCard : Claim7 := { stood := { row := fnExactNfsRwxUptoRow, standIns := [], harness := (true, "444aae93173e99be864766ed9a2f9af6b458290d80e48321e708b8967c8d3c42"), looks := false }, kinds := [], alts := [], laidByText := true, laidKinds := [.data], laidTests := true, laidLooks := .later }
def FnExactNfsRwxUptoCardSaid : Prop := Claim7.holds Tryd.pinned (.plain (OpenSpec.upto fnExactNfsRwxSpec)) fnExactNfsRwxUptoCard
end Rows
end Go.Proofs.YtklaebcdbbgooaaDoor
