/-
  DERIVED. GIVEN WITH THE SEED: THE CARDS: each row of YtklaebcdbbgooabDoorRows.lean that lists a variable, with what it lists TIED to the program's text (the seventh form; the later family's looks); each row that meets fmt, with fmt's text TOLD by the authors' own Lean function (tested against real Go, not proved from fmt's source: count such statements apart). THE CARD IS WHAT COUNTS. Prove the row's statement (the work); the ties are given (YtklaebcdbbgooabDoorTie.lean); close each card by the builder's one call (the guide's Derived/Test/ToyasCard.lean, 'card_holds'). Laid BY PROGRAM, IN A SANDBOX (cutbox-door.mjs). By AI agents, Wed Nov 11 2026. No macro, syntax, notation, axiom, sorry.
-/
import Derived.Test.YtklaebcdbbgooabDoorRows
import GoSem.ClaimSeven
namespace Go.Proofs.YtklaebcdbbgooabDoor
namespace Rows

/-- THE TIED CARD OF 'laws.FnExactNfsMode'. -/
def fnExactNfsModeCard : Claim7 := { stood := { row := fnExactNfsModeRow, standIns := [], harness := (true, "95958982cd0161b6d935f58226169433c941c25deb01d99691e4ccd664b4b3f1"), looks := false }, kinds := [], alts := [], laidByText := true, laidKinds := [.data], laidTests := true, laidLooks := .later }
def FnExactNfsModeCardSaid : Prop := Claim7.holds Tryd.pinned (.plain (OpenSpec.ofChange fnExactNfsModeSpec)) fnExactNfsModeCard

/-- THE TIED CARD OF 'laws.FnExactNfsChmod'. -/
def fnExactNfsChmodCard : Claim7 := { stood := { row := fnExactNfsChmodRow, standIns := [], harness := (true, "95958982cd0161b6d935f58226169433c941c25deb01d99691e4ccd664b4b3f1"), looks := false }, kinds := [], alts := [], laidByText := true, laidKinds := [.data], laidTests := true, laidLooks := .later }
def FnExactNfsChmodCardSaid : Prop := Claim7.holds Tryd.pinned (.plain (OpenSpec.ofChange fnExactNfsChmodSpec)) fnExactNfsChmodCard

/-- THE SECOND FORM's CARD OF 'laws.FnExactNfsMode'. -/
def fnExactNfsModeUptoCard : Claim7 := { stood := { row := fnExactNfsModeUptoRow, standIns := [], harness := (true, "95958982cd0161b6d935f58226169433c941c25deb01d99691e4ccd664b4b3f1"), looks := false }, kinds := [], alts := [], laidByText := true, laidKinds := [.data], laidTests := true, laidLooks := .later }
def FnExactNfsModeUptoCardSaid : Prop := Claim7.holds Tryd.pinned (.plain (OpenSpec.upto fnExactNfsModeSpec)) fnExactNfsModeUptoCard

/-- THE SECOND FORM's CARD OF 'laws.FnExactNfsChmod'. -/
def fnExactNfsChmodUptoCard : Claim7 := { stood := { row := fnExactNfsChmodUptoRow, standIns := [], harness := (true, "95958982cd0161b6d935f58226169433c941c25deb01d99691e4ccd664b4b3f1"), looks := false }, kinds := [], alts := [], laidByText := true, laidKinds := [.data], laidTests := true, laidLooks := .later }
def FnExactNfsChmodUptoCardSaid : Prop := Claim7.holds Tryd.pinned (.plain (OpenSpec.upto fnExactNfsChmodSpec)) fnExactNfsChmodUptoCard
end Rows
end Go.Proofs.YtklaebcdbbgooabDoor
