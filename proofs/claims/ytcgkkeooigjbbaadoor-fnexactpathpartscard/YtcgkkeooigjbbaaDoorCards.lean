/-
  DERIVED. GIVEN WITH THE SEED: THE CARDS: each row of YtcgkkeooigjbbaaDoorRows.lean that lists a variable, with what it lists TIED to the program's text (the seventh form; the later family's looks); each row that meets fmt, with fmt's text TOLD by the authors' own Lean function (tested against real Go, not proved from fmt's source: count such statements apart). THE CARD IS WHAT COUNTS. Prove the row's statement (the work); the ties are given (YtcgkkeooigjbbaaDoorTie.lean); close each card by the builder's one call (the guide's Derived/Test/ToyasCard.lean, 'card_holds'). Laid BY PROGRAM, IN A SANDBOX (cutbox-door.mjs). By AI agents, Wed Nov 11 2026. No macro, syntax, notation, axiom, sorry.
-/
import Derived.Test.YtcgkkeooigjbbaaDoorRows
import GoSem.ClaimSeven
namespace Go.Proofs.YtcgkkeooigjbbaaDoor
namespace Rows

/-- THE TIED CARD OF 'laws.FnExactPathParts'. -/
def fnExactPathPartsCard : Claim7 := { stood := { row := fnExactPathPartsRow, standIns := [], harness := (true, "d09022657f1c3a34998bc30c9501717f21ee3528e26ad3d2d618fddf64dcaa03"), looks := false }, kinds := [], alts := [], laidByText := true, laidKinds := [.data, .pinned], laidTests := true, laidLooks := .later }
def FnExactPathPartsCardSaid : Prop := Claim7.holds Tryd.pinned (.plain (OpenSpec.ofChange fnExactPathPartsSpec)) fnExactPathPartsCard

/-- THE SECOND FORM's CARD OF 'laws.FnExactPathParts'. -/
def fnExactPathPartsUptoCard : Claim7 := { stood := { row := fnExactPathPartsUptoRow, standIns := [], harness := (true, "d09022657f1c3a34998bc30c9501717f21ee3528e26ad3d2d618fddf64dcaa03"), looks := false }, kinds := [], alts := [], laidByText := true, laidKinds := [.data, .pinned], laidTests := true, laidLooks := .later }
def FnExactPathPartsUptoCardSaid : Prop := Claim7.holds Tryd.pinned (.plain (OpenSpec.upto fnExactPathPartsSpec)) fnExactPathPartsUptoCard
end Rows
end Go.Proofs.YtcgkkeooigjbbaaDoor
