/-
  DERIVED. GIVEN WITH THE SEED: THE CARDS: each row of YtedahdncincgjaaGreatDoorRows.lean that lists a variable, with what it lists TIED to the program's text (the seventh form; the later family's looks); each row that meets fmt, with fmt's text TOLD by the authors' own Lean function (tested against real Go, not proved from fmt's source: count such statements apart). THE CARD IS WHAT COUNTS. Prove the row's statement (the work); the ties are given (YtedahdncincgjaaGreatDoorTie.lean); close each card by the builder's one call (the guide's Derived/Test/ToyasCard.lean, 'card_holds'). Laid BY PROGRAM, IN A SANDBOX (cutbox-door.mjs). By AI agents, Wed Nov 11 2026. No macro, syntax, notation, axiom, sorry.
-/
import Derived.Test.YtedahdncincgjaaGreatDoorRows
import GoSem.ClaimSeven
namespace Go.Proofs.YtedahdncincgjaaGreatDoor
namespace Rows

/-- THE TIED CARD OF 'laws.FnNfsText'. -/
def fnNfsTextCard : Claim7 := { stood := { row := fnNfsTextRow, standIns := [], harness := (true, "dedab618ef773d83e2a46c4c773548ed72bc4927d2d57e71dd41e2e050b747ec"), looks := false }, kinds := [], alts := [], laidByText := true, laidKinds := [.data, .data, .data, .data, .pinned], laidTests := true, laidLooks := .later }
def FnNfsTextCardSaid : Prop := Claim7.holds Tryz.pinned (.plain (OpenSpec.ofChange fnNfsTextSpec)) fnNfsTextCard

/-- THE SECOND FORM's CARD OF 'laws.FnNfsText'. -/
def fnNfsTextUptoCard : Claim7 := { stood := { row := fnNfsTextUptoRow, standIns := [], harness := (true, "dedab618ef773d83e2a46c4c773548ed72bc4927d2d57e71dd41e2e050b747ec"), looks := false }, kinds := [], alts := [], laidByText := true, laidKinds := [.data, .data, .data, .data, .pinned], laidTests := true, laidLooks := .later }
def FnNfsTextUptoCardSaid : Prop := Claim7.holds Tryz.pinned (.plain (OpenSpec.upto fnNfsTextSpec)) fnNfsTextUptoCard
end Rows
end Go.Proofs.YtedahdncincgjaaGreatDoor
