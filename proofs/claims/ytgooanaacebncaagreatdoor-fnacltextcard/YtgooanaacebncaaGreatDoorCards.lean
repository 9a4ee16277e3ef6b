/-
  DERIVED. GIVEN WITH THE SEED: THE CARDS: each row of YtgooanaacebncaaGreatDoorRows.lean that lists a variable, with what it lists TIED to the program's text (the seventh form; the later family's looks); each row that meets fmt, with fmt's text TOLD by the authors' own Lean function (tested against real Go, not proved from fmt's source: count such statements apart). THE CARD IS WHAT COUNTS. Prove the row's statement (the work); the ties are given (YtgooanaacebncaaGreatDoorTie.lean); close each card by the builder's one call (the guide's Derived/Test/ToyasCard.lean, 'card_holds'). Laid BY PROGRAM, IN A SANDBOX (cutbox-door.mjs). By AI agents, Wed Nov 11 2026. No macro, syntax, notation, axiom, sorry.
-/
import Derived.Test.YtgooanaacebncaaGreatDoorRows
import GoSem.ClaimSeven
namespace Go.Proofs.YtgooanaacebncaaGreatDoor
namespace Rows

/-- THE TIED CARD OF 'laws.FnAclText'. -/
def fnAclTextCard : Claim7 := { stood := { row := fnAclTextRow, standIns := [], harness := (true, "fa4e2efe36147ae80c4fb86bf6610a9cf9b54b585eef9ab8e5150a9d6a0b593f"), looks := false }, kinds := [], alts := [], laidByText := true, laidKinds := [.data, .data, .data, .data, .pinned], laidTests := true, laidLooks := .later }
def FnAclTextCardSaid : Prop := Claim7.holds Tryz.pinned (.plain (OpenSpec.ofChange fnAclTextSpec)) fnAclTextCard

/-- THE SECOND FORM's CARD OF 'laws.FnAclText'. -/
def fnAclTextUptoCard : Claim7 := { stood := { row := fnAclTextUptoRow, standIns := [], harness := (true, "fa4e2efe36147ae80c4fb86bf6610a9cf9b54b585eef9ab8e5150a9d6a0b593f"), looks := false }, kinds := [], alts := [], laidByText := true, laidKinds := [.data, .data, .data, .data, .pinned], laidTests := true, laidLooks := .later }
def FnAclTextUptoCardSaid : Prop := Claim7.holds Tryz.pinned (.plain (OpenSpec.upto fnAclTextSpec)) fnAclTextUptoCard
end Rows
end Go.Proofs.YtgooanaacebncaaGreatDoor
