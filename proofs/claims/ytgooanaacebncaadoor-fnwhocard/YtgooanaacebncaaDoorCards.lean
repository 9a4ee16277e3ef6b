/-
  DERIVED. GIVEN WITH THE SEED: THE CARDS: each row of YtgooanaacebncaaDoorRows.lean that lists a variable, with what it lists TIED to the program's text (the seventh form; the later family's looks); each row that meets fmt, with fmt's text TOLD by the authors' own Lean function (tested against real Go, not proved from fmt's source: count such statements apart). THE CARD IS WHAT COUNTS. Prove the row's statement (the work); the ties are given (YtgooanaacebncaaDoorTie.lean); close each card by the builder's one call (the guide's Derived/Test/ToyasCard.lean, 'card_holds'). Laid BY PROGRAM, IN A SANDBOX (cutbox-door.mjs). By AI agents, Wed Nov 11 2026. No macro, syntax, notation, axiom, sorry.
-/
import Derived.Test.YtgooanaacebncaaDoorRows
import GoSem.ClaimSeven
namespace Go.Proofs.YtgooanaacebncaaDoor
namespace Rows

/-- THE TIED CARD OF 'laws.FnWho'. -/
def fnWhoCard : Claim7 := { stood := { row := fnWhoRow, standIns := [], harness := (true, "1522acd618a0e8213b1593fec5cc3893f175fe67603a9c4d93ad8128869acd28"), looks := false }, kinds := [], alts := [], laidByText := true, laidKinds := [.data, .data, .data, .data, .pinned], laidTests := true, laidLooks := .later }
def FnWhoCardSaid : Prop := Claim7.holds Tryd.pinned (.plain (OpenSpec.ofChange fnWhoSpec)) fnWhoCard

/-- THE TIED CARD OF 'laws.FnExactCredRead'. -/
def fnExactCredReadCard : Claim7 := { stood := { row := fnExactCredReadRow, standIns := [], harness := (true, "1522acd618a0e8213b1593fec5cc3893f175fe67603a9c4d93ad8128869acd28"), looks := false }, kinds := [], alts := [], laidByText := true, laidKinds := [.data, .pinned], laidTests := true, laidLooks := .later }
def FnExactCredReadCardSaid : Prop := Claim7.holds Tryd.pinned (.plain (OpenSpec.ofChange fnExactCredReadSpec)) fnExactCredReadCard

/-- THE TIED CARD OF 'laws.FnExactAclRead'. -/
def fnExactAclReadCard : Claim7 := { stood := { row := fnExactAclReadRow, standIns := [], harness := (true, "1522acd618a0e8213b1593fec5cc3893f175fe67603a9c4d93ad8128869acd28"), looks := false }, kinds := [], alts := [], laidByText := true, laidKinds := [.data, .data, .data, .data, .pinned], laidTests := true, laidLooks := .later }
def FnExactAclReadCardSaid : Prop := Claim7.holds Tryd.pinned (.plain (OpenSpec.ofChange fnExactAclReadSpec)) fnExactAclReadCard

/-- THE TIED CARD OF 'laws.FnExactAceRead'. -/
def fnExactAceReadCard : Claim7 := { stood := { row := fnExactAceReadRow, standIns := [], harness := (true, "1522acd618a0e8213b1593fec5cc3893f175fe67603a9c4d93ad8128869acd28"), looks := false }, kinds := [], alts := [], laidByText := true, laidKinds := [.data, .pinned], laidTests := true, laidLooks := .later }
def FnExactAceReadCardSaid : Prop := Claim7.holds Tryd.pinned (.plain (OpenSpec.ofChange fnExactAceReadSpec)) fnExactAceReadCard

/-- THE TIED CARD OF 'laws.FnExactNfsRead'. -/
def fnExactNfsReadCard : Claim7 := { stood := { row := fnExactNfsReadRow, standIns := [], harness := (true, "1522acd618a0e8213b1593fec5cc3893f175fe67603a9c4d93ad8128869acd28"), looks := false }, kinds := [], alts := [], laidByText := true, laidKinds := [.data, .pinned], laidTests := true, laidLooks := .later }
def FnExactNfsReadCardSaid : Prop := Claim7.holds Tryd.pinned (.plain (OpenSpec.ofChange fnExactNfsReadSpec)) fnExactNfsReadCard

/-- THE SECOND FORM's CARD OF 'laws.FnWho'. -/
def fnWhoUptoCard : Claim7 := { stood := { row := fnWhoUptoRow, standIns := [], harness := (true, "1522acd618a0e8213b1593fec5cc3893f175fe67603a9c4d93ad8128869acd28"), looks := false }, kinds := [], alts := [], laidByText := true, laidKinds := [.data, .data, .data, .data, .pinned], laidTests := true, laidLooks := .later }
def FnWhoUptoCardSaid : Prop := Claim7.holds Tryd.pinned (.plain (OpenSpec.upto fnWhoSpec)) fnWhoUptoCard

/-- THE SECOND FORM's CARD OF 'laws.FnExactCredRead'. -/
def fnExactCredReadUptoCard : Claim7 := { stood := { row := fnExactCredReadUptoRow, standIns := [], harness := (true, "1522acd618a0e8213b1593fec5cc3893f175fe67603a9c4d93ad8128869acd28"), looks := false }, kinds := [], alts := [], laidByText := true, laidKinds := [.data, .pinned], laidTests := true, laidLooks := .later }
def FnExactCredReadUptoCardSaid : Prop := Claim7.holds Tryd.pinned (.plain (OpenSpec.upto fnExactCredReadSpec)) fnExactCredReadUptoCard

/-- THE SECOND FORM's CARD OF 'laws.FnExactAclRead'. -/
def fnExactAclReadUptoCard : Claim7 := { stood := { row := fnExactAclReadUptoRow, standIns := [], harness := (true, "1522acd618a0e8213b1593fec5cc3893f175fe67603a9c4d93ad8128869acd28"), looks := false }, kinds := [], alts := [], laidByText := true, laidKinds := [.data, .data, .data, .data, .pinned], laidTests := true, laidLooks := .later }
def FnExactAclReadUptoCardSaid : Prop := Claim7.holds Tryd.pinned (.plain (OpenSpec.upto fnExactAclReadSpec)) fnExactAclReadUptoCard

/-- THE SECOND FORM's CARD OF 'laws.FnExactAceRead'. -/
def fnExactAceReadUptoCard : Claim7 := { stood := { row := fnExactAceReadUptoRow, standIns := [], harness := (true, "1522acd618a0e8213b1593fec5cc3893f175fe67603a9c4d93ad8128869acd28"), looks := false }, kinds := [], alts := [], laidByText := true, laidKinds := [.data, .pinned], laidTests := true, laidLooks := .later }
def FnExactAceReadUptoCardSaid : Prop := Claim7.holds Tryd.pinned (.plain (OpenSpec.upto fnExactAceReadSpec)) fnExactAceReadUptoCard

/-- THE SECOND FORM's CARD OF 'laws.FnExactNfsRead'. -/
def fnExactNfsReadUptoCard : Claim7 := { stood := { row := fnExactNfsReadUptoRow, standIns := [], harness := (true, "1522acd618a0e8213b1593fec5cc3893f175fe67603a9c4d93ad8128869acd28"), looks := false }, kinds := [], alts := [], laidByText := true, laidKinds := [.data, .pinned], laidTests := true, laidLooks := .later }
def FnExactNfsReadUptoCardSaid : Prop := Claim7.holds Tryd.pinned (.plain (OpenSpec.upto fnExactNfsReadSpec)) fnExactNfsReadUptoCard
end Rows
end Go.Proofs.YtgooanaacebncaaDoor
