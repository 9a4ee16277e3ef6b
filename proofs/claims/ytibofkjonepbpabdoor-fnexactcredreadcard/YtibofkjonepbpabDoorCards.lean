/-
  DERIVED. GIVEN WITH THE SEED: THE CARDS: each row of YtibofkjonepbpabDoorRows.lean that lists a variable, with what it lists TIED to the program's text (the seventh form; the later family's looks); each row that meets fmt, with fmt's text TOLD by the authors' own Lean function (tested against real Go, not proved from fmt's source: count such statements apart). THE CARD IS WHAT COUNTS. Prove the row's statement (the work); the ties are given (YtibofkjonepbpabDoorTie.lean); close each card by the builder's one call (the guide's Derived/Test/ToyasCard.lean, 'card_holds'). Laid BY PROGRAM, IN A SANDBOX (cutbox-door.mjs). By AI agents, Wed Nov 11 2026. No macro, syntax, notation, axiom, sorry.
-/
import Derived.Test.YtibofkjonepbpabDoorRows
import GoSem.ClaimSeven
namespace Go.Proofs.YtibofkjonepbpabDoor
namespace Rows

/-- THE TIED CARD OF 'laws.FnNfsMode'. -/
def fnNfsModeCard : Claim7 := { stood := { row := fnNfsModeRow, standIns := [], harness := (true, "d39302b3a5781bdc98467624c803fe1444f3a78252dc8066f8b85ec26499b3de"), looks := false }, kinds := [], alts := [], laidByText := true, laidKinds := [.data], laidTests := true, laidLooks := .later }
def FnNfsModeCardSaid : Prop := Claim7.holds Tryd.pinned (.plain (OpenSpec.ofChange fnNfsModeSpec)) fnNfsModeCard

/-- THE TIED CARD OF 'laws.FnExactCredText'. -/
def fnExactCredTextCard : Claim7 := { stood := { row := fnExactCredTextRow, standIns := [], harness := (true, "d39302b3a5781bdc98467624c803fe1444f3a78252dc8066f8b85ec26499b3de"), looks := false }, kinds := [], alts := [], laidByText := true, laidKinds := [.data, .data, .data], laidTests := true, laidLooks := .later }
def FnExactCredTextCardSaid : Prop := Claim7.holds Tryd.pinned (.plain (OpenSpec.ofChange fnExactCredTextSpec)) fnExactCredTextCard

/-- THE TIED CARD OF 'laws.FnExactCredRead'. -/
def fnExactCredReadCard : Claim7 := { stood := { row := fnExactCredReadRow, standIns := [], harness := (true, "d39302b3a5781bdc98467624c803fe1444f3a78252dc8066f8b85ec26499b3de"), looks := false }, kinds := [], alts := [], laidByText := true, laidKinds := [.data, .pinned], laidTests := true, laidLooks := .later }
def FnExactCredReadCardSaid : Prop := Claim7.holds Tryd.pinned (.plain (OpenSpec.ofChange fnExactCredReadSpec)) fnExactCredReadCard

/-- THE SECOND FORM's CARD OF 'laws.FnNfsMode'. -/
def fnNfsModeUptoCard : Claim7 := { stood := { row := fnNfsModeUptoRow, standIns := [], harness := (true, "d39302b3a5781bdc98467624c803fe1444f3a78252dc8066f8b85ec26499b3de"), looks := false }, kinds := [], alts := [], laidByText := true, laidKinds := [.data], laidTests := true, laidLooks := .later }
def FnNfsModeUptoCardSaid : Prop := Claim7.holds Tryd.pinned (.plain (OpenSpec.upto fnNfsModeSpec)) fnNfsModeUptoCard

/-- THE SECOND FORM's CARD OF 'laws.FnExactCredText'. -/
def fnExactCredTextUptoCard : Claim7 := { stood := { row := fnExactCredTextUptoRow, standIns := [], harness := (true, "d39302b3a5781bdc98467624c803fe1444f3a78252dc8066f8b85ec26499b3de"), looks := false }, kinds := [], alts := [], laidByText := true, laidKinds := [.data, .data, .data], laidTests := true, laidLooks := .later }
def FnExactCredTextUptoCardSaid : Prop := Claim7.holds Tryd.pinned (.plain (OpenSpec.upto fnExactCredTextSpec)) fnExactCredTextUptoCard

/-- THE SECOND FORM's CARD OF 'laws.FnExactCredRead'. -/
def fnExactCredReadUptoCard : Claim7 := { stood := { row := fnExactCredReadUptoRow, standIns := [], harness := (true, "d39302b3a5781bdc98467624c803fe1444f3a78252dc8066f8b85ec26499b3de"), looks := false }, kinds := [], alts := [], laidByText := true, laidKinds := [.data, .pinned], laidTests := true, laidLooks := .later }
def FnExactCredReadUptoCardSaid : Prop := Claim7.holds Tryd.pinned (.plain (OpenSpec.upto fnExactCredReadSpec)) fnExactCredReadUptoCard
end Rows
end Go.Proofs.YtibofkjonepbpabDoor
