/-
  DERIVED. GIVEN WITH THE SEED: THE CARDS: each row of YtialmeknnlkelahDoorRows.lean that lists a variable, with what it lists TIED to the program's text (the seventh form; the later family's looks); each row that meets fmt, with fmt's text TOLD by the authors' own Lean function (tested against real Go, not proved from fmt's source: count such statements apart). THE CARD IS WHAT COUNTS. Prove the row's statement (the work); the ties are given (YtialmeknnlkelahDoorTie.lean); close each card by the builder's one call (the guide's Derived/Test/ToyasCard.lean, 'card_holds'). Laid BY PROGRAM, IN A SANDBOX (cutbox-door.mjs). By AI agents, Wed Nov 11 2026. No macro, syntax, notation, axiom, sorry.
-/
import Derived.Test.YtialmeknnlkelahDoorRows
import GoSem.ClaimSeven
namespace Go.Proofs.YtialmeknnlkelahDoor
namespace Rows

/-- THE TIED CARD OF 'laws.FnExactModeRead'. -/
def fnExactModeReadCard : Claim7 := { stood := { row := fnExactModeReadRow, standIns := [], harness := (true, "487d349abc947e91bbcf32e94088335f09418e5db8662b26b0a8f36eff1369f2"), looks := false }, kinds := [], alts := [], laidByText := true, laidKinds := [.data], laidTests := true, laidLooks := .later }
def FnExactModeReadCardSaid : Prop := Claim7.holds Tryd.pinned (.plain (OpenSpec.ofChange fnExactModeReadSpec)) fnExactModeReadCard

/-- THE SECOND FORM's CARD OF 'laws.FnExactModeRead'. -/
def fnExactModeReadUptoCard : Claim7 := { stood := { row := fnExactModeReadUptoRow, standIns := [], harness := (true, "487d349abc947e91bbcf32e94088335f09418e5db8662b26b0a8f36eff1369f2"), looks := false }, kinds := [], alts := [], laidByText := true, laidKinds := [.data], laidTests := true, laidLooks := .later }
def FnExactModeReadUptoCardSaid : Prop := Claim7.holds Tryd.pinned (.plain (OpenSpec.upto fnExactModeReadSpec)) fnExactModeReadUptoCard
end Rows
end Go.Proofs.YtialmeknnlkelahDoor
