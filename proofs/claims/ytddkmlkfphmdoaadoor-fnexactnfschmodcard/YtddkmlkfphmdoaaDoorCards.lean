/-
  DERIVED. GIVEN WITH THE SEED: THE CARDS: each row of YtddkmlkfphmdoaaDoorRows.lean that lists a variable, with what it lists TIED to the program's text (the seventh form; the later family's looks); each row that meets fmt, with fmt's text TOLD by the authors' own Lean function (tested against real Go, not proved from fmt's source: count such statements apart). THE CARD IS WHAT COUNTS. Prove the row's statement (the work); the ties are given (YtddkmlkfphmdoaaDoorTie.lean); close each card by the builder's one call (the guide's Derived/Test/ToyasCard.lean, 'card_holds'). Laid BY PROGRAM, IN A SANDBOX (cutbox-door.mjs). By AI agents, Wed Nov 11 2026. No macro, syntax, notation, axiom, sorry.
-/
import Derived.Test.YtddkmlkfphmdoaaDoorRows
import GoSem.ClaimSeven
namespace Go.Proofs.YtddkmlkfphmdoaaDoor
namespace Rows

/-- THE TIED CARD OF 'laws.FnExactNfsChmod'. -/
def fnExactNfsChmodCard : Claim7 := { stood := { row := fnExactNfsChmodRow, standIns := [], harness := (true, "4b07f03e8a6007f9cd4da4f3c806b050f4da44ca76b8fa3e376dc043ad4cdfc7"), looks := false }, kinds := [], alts := [], laidByText := true, laidKinds := [.data], laidTests := true, laidLooks := .later }
def FnExactNfsChmodCardSaid : Prop := Claim7.holds Tryd.pinned (.plain (OpenSpec.ofChange fnExactNfsChmodSpec)) fnExactNfsChmodCard

/-- THE SECOND FORM's CARD OF 'laws.FnExactNfsChmod'. -/
def fnExactNfsChmodUptoCard : Claim7 := { stood := { row := fnExactNfsChmodUptoRow, standIns := [], harness := (true, "4b07f03e8a6007f9cd4da4f3c806b050f4da44ca76b8fa3e376dc043ad4cdfc7"), looks := false }, kinds := [], alts := [], laidByText := true, laidKinds := [.data], laidTests := true, laidLooks := .later }
def FnExactNfsChmodUptoCardSaid : Prop := Claim7.holds Tryd.pinned (.plain (OpenSpec.upto fnExactNfsChmodSpec)) fnExactNfsChmodUptoCard
end Rows
end Go.Proofs.YtddkmlkfphmdoaaDoor
