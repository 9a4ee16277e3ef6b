/-
  DERIVED. GIVEN WITH THE SEED: THE CARDS: each row of YtialmeknnlkelagDoorRows.lean that lists a variable, with what it lists TIED to the program's text (the seventh form; the later family's looks); each row that meets fmt, with fmt's text TOLD by the authors' own Lean function (tested against real Go, not proved from fmt's source: count such statements apart). THE CARD IS WHAT COUNTS. Prove the row's statement (the work); the ties are given (YtialmeknnlkelagDoorTie.lean); close each card by the builder's one call (the guide's Derived/Test/ToyasCard.lean, 'card_holds'). Laid BY PROGRAM, IN A SANDBOX (cutbox-door.mjs). By AI agents, Wed Nov 11 2026. No macro, syntax, notation, axiom, sorry.
-/
import Derived.Test.YtialmeknnlkelagDoorRows
import GoSem.ClaimSeven
namespace Go.Proofs.YtialmeknnlkelagDoor
namespace Rows

/-- THE TIED CARD OF 'laws.FnExactCredText'. -/
def fnExactCredTextCard : Claim7 := { stood := { row := fnExactCredTextRow, standIns := [], harness := (true, "7f2e09a68526693d45b982e5b85e9f588e178f2c6ff9259d4d2af050ace68a38"), looks := false }, kinds := [], alts := [], laidByText := true, laidKinds := [.data, .data, .data], laidTests := true, laidLooks := .later }
def FnExactCredTextCardSaid : Prop := Claim7.holds Tryd.pinned (.plain (OpenSpec.ofChange fnExactCredTextSpec)) fnExactCredTextCard

/-- THE TIED CARD OF 'laws.FnExactCredRead'. -/
def fnExactCredReadCard : Claim7 := { stood := { row := fnExactCredReadRow, standIns := [], harness := (true, "7f2e09a68526693d45b982e5b85e9f588e178f2c6ff9259d4d2af050ace68a38"), looks := false }, kinds := [], alts := [], laidByText := true, laidKinds := [.data, .pinned], laidTests := true, laidLooks := .later }
def FnExactCredReadCardSaid : Prop := Claim7.holds Tryd.pinned (.plain (OpenSpec.ofChange fnExactCredReadSpec)) fnExactCredReadCard

/-- THE TIED CARD OF 'laws.FnExactModeText'. -/
def fnExactModeTextCard : Claim7 := { stood := { row := fnExactModeTextRow, standIns := [], harness := (true, "7f2e09a68526693d45b982e5b85e9f588e178f2c6ff9259d4d2af050ace68a38"), looks := false }, kinds := [], alts := [], laidByText := true, laidKinds := [.data], laidTests := true, laidLooks := .later }
def FnExactModeTextCardSaid : Prop := Claim7.holds Tryd.pinned (.plain (OpenSpec.ofChange fnExactModeTextSpec)) fnExactModeTextCard

/-- THE SECOND FORM's CARD OF 'laws.FnExactCredText'. -/
def fnExactCredTextUptoCard : Claim7 := { stood := { row := fnExactCredTextUptoRow, standIns := [], harness := (true, "7f2e09a68526693d45b982e5b85e9f588e178f2c6ff9259d4d2af050ace68a38"), looks := false }, kinds := [], alts := [], laidByText := true, laidKinds := [.data, .data, .data], laidTests := true, laidLooks := .later }
def FnExactCredTextUptoCardSaid : Prop := Claim7.holds Tryd.pinned (.plain (OpenSpec.upto fnExactCredTextSpec)) fnExactCredTextUptoCard

/-- THE SECOND FORM's CARD OF 'laws.FnExactCredRead'. -/
def fnExactCredReadUptoCard : Claim7 := { stood := { row := fnExactCredReadUptoRow, standIns := [], harness := (true, "7f2e09a68526693d45b982e5b85e9f588e178f2c6ff9259d4d2af050ace68a38"), looks := false }, kinds := [], alts := [], laidByText := true, laidKinds := [.data, .pinned], laidTests := true, laidLooks := .later }
def FnExactCredReadUptoCardSaid : Prop := Claim7.holds Tryd.pinned (.plain (OpenSpec.upto fnExactCredReadSpec)) fnExactCredReadUptoCard

/-- THE SECOND FORM's CARD OF 'laws.FnExactModeText'. -/
def fnExactModeTextUptoCard : Claim7 := { stood := { row := fnExactModeTextUptoRow, standIns := [], harness := (true, "7f2e09a68526693d45b982e5b85e9f588e178f2c6ff9259d4d2af050ace68a38"), looks := false }, kinds := [], alts := [], laidByText := true, laidKinds := [.data], laidTests := true, laidLooks := .later }
def FnExactModeTextUptoCardSaid : Prop := Claim7.holds Tryd.pinned (.plain (OpenSpec.upto fnExactModeTextSpec)) fnExactModeTextUptoCard
end Rows
end Go.Proofs.YtialmeknnlkelagDoor
