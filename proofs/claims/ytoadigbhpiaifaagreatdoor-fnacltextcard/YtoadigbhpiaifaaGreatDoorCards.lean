/-
  DERIVED. GIVEN WITH THE SEED: THE CARDS: each row of YtoadigbhpiaifaaGreatDoorRows.lean that lists a variable, with what it lists TIED to the program's text (the seventh form; the later family's looks); each row that meets fmt, with fmt's text TOLD by the authors' own Lean function (tested against real Go, not proved from fmt's source: count such statements apart). THE CARD IS WHAT COUNTS. Prove the row's statement (the work); the ties are given (YtoadigbhpiaifaaGreatDoorTie.lean); close each card by the builder's one call (the guide's Derived/Test/ToyasCard.lean, 'card_holds'). Laid BY PROGRAM, IN A SANDBOX (cutbox-door.mjs). By AI agents, Wed Nov 11 2026. No macro, syntax, notation, axiom, sorry.
-/
import Derived.Test.YtoadigbhpiaifaaGreatDoorRows
import GoSem.ClaimSeven
namespace Go.Proofs.YtoadigbhpiaifaaGreatDoor
namespace Rows

/-- THE TIED CARD OF 'laws.FnAclText'. -/
def fnAclTextCard : Claim7 := { stood := { row := fnAclTextRow, standIns := [], harness := (true, "7dbc3bfffaf2b089e949838ac9a91219eba0a4ffd758fd2b5a44cbf653929bb5"), looks := false }, kinds := [], alts := [], laidByText := true, laidKinds := [.data, .data, .data, .data, .pinned], laidTests := true, laidLooks := .later }
def FnAclTextCardSaid : Prop := Claim7.holds Tryz.pinned (.plain (OpenSpec.ofChange fnAclTextSpec)) fnAclTextCard

/-- THE TIED CARD OF 'laws.FnNfsText'. -/
def fnNfsTextCard : Claim7 := { stood := { row := fnNfsTextRow, standIns := [], harness := (true, "7dbc3bfffaf2b089e949838ac9a91219eba0a4ffd758fd2b5a44cbf653929bb5"), looks := false }, kinds := [], alts := [], laidByText := true, laidKinds := [.data, .data, .data, .data, .pinned], laidTests := true, laidLooks := .later }
def FnNfsTextCardSaid : Prop := Claim7.holds Tryz.pinned (.plain (OpenSpec.ofChange fnNfsTextSpec)) fnNfsTextCard

/-- THE SECOND FORM's CARD OF 'laws.FnAclText'. -/
def fnAclTextUptoCard : Claim7 := { stood := { row := fnAclTextUptoRow, standIns := [], harness := (true, "7dbc3bfffaf2b089e949838ac9a91219eba0a4ffd758fd2b5a44cbf653929bb5"), looks := false }, kinds := [], alts := [], laidByText := true, laidKinds := [.data, .data, .data, .data, .pinned], laidTests := true, laidLooks := .later }
def FnAclTextUptoCardSaid : Prop := Claim7.holds Tryz.pinned (.plain (OpenSpec.upto fnAclTextSpec)) fnAclTextUptoCard

/-- THE SECOND FORM's CARD OF 'laws.FnNfsText'. -/
def fnNfsTextUptoCard : Claim7 := { stood := { row := fnNfsTextUptoRow, standIns := [], harness := (true, "7dbc3bfffaf2b089e949838ac9a91219eba0a4ffd758fd2b5a44cbf653929bb5"), looks := false }, kinds := [], alts := [], laidByText := true, laidKinds := [.data, .data, .data, .data, .pinned], laidTests := true, laidLooks := .later }
def FnNfsTextUptoCardSaid : Prop := Claim7.holds Tryz.pinned (.plain (OpenSpec.upto fnNfsTextSpec)) fnNfsTextUptoCard
end Rows
end Go.Proofs.YtoadigbhpiaifaaGreatDoor
