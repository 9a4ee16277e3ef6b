/-
  DERIVED. GIVEN WITH THE SEED: THE CARDS: each row of YtdidbaadladkpaaDoorRows.lean that lists a variable, with what it lists TIED to the program's text (the seventh form; the later family's looks); each row that meets fmt, with fmt's text TOLD by the authors' own Lean function (tested against real Go, not proved from fmt's source: count such statements apart). THE CARD IS WHAT COUNTS. Prove the row's statement (the work); the ties are given (YtdidbaadladkpaaDoorTie.lean); close each card by the builder's one call (the guide's Derived/Test/ToyasCard.lean, 'card_holds'). Laid BY PROGRAM, IN A SANDBOX (cutbox-door.mjs). By AI agents, Wed Nov 11 2026. No macro, syntax, notation, axiom, sorry.
-/
import Derived.Test.YtdidbaadladkpaaDoorRows
import GoSem.ClaimSeven
namespace Go.Proofs.YtdidbaadladkpaaDoor
namespace Rows

/-- THE TIED CARD OF 'laws.FnNfs'. -/
def fnNfsCard : Claim7 := { stood := { row := fnNfsRow, standIns := [], harness := (true, "db9fb0ba36e8f341f3646c5b5157bb633f851318e06b9fe713bfd55813daf6b7"), looks := false }, kinds := [], alts := [], laidByText := true, laidKinds := [.data], laidTests := true, laidLooks := .later }
def FnNfsCardSaid : Prop := Claim7.holds Tryd.pinned (.plain (OpenSpec.ofChange fnNfsSpec)) fnNfsCard

/-- THE TIED CARD OF 'laws.FnNfsMode'. -/
def fnNfsModeCard : Claim7 := { stood := { row := fnNfsModeRow, standIns := [], harness := (true, "db9fb0ba36e8f341f3646c5b5157bb633f851318e06b9fe713bfd55813daf6b7"), looks := false }, kinds := [], alts := [], laidByText := true, laidKinds := [.data], laidTests := true, laidLooks := .later }
def FnNfsModeCardSaid : Prop := Claim7.holds Tryd.pinned (.plain (OpenSpec.ofChange fnNfsModeSpec)) fnNfsModeCard

/-- THE SECOND FORM's CARD OF 'laws.FnNfs'. -/
def fnNfsUptoCard : Claim7 := { stood := { row := fnNfsUptoRow, standIns := [], harness := (true, "db9fb0ba36e8f341f3646c5b5157bb633f851318e06b9fe713bfd55813daf6b7"), looks := false }, kinds := [], alts := [], laidByText := true, laidKinds := [.data], laidTests := true, laidLooks := .later }
def FnNfsUptoCardSaid : Prop := Claim7.holds Tryd.pinned (.plain (OpenSpec.upto fnNfsSpec)) fnNfsUptoCard

/-- THE SECOND FORM's CARD OF 'laws.FnNfsMode'. -/
def fnNfsModeUptoCard : Claim7 := { stood := { row := fnNfsModeUptoRow, standIns := [], harness := (true, "db9fb0ba36e8f341f3646c5b5157bb633f851318e06b9fe713bfd55813daf6b7"), looks := false }, kinds := [], alts := [], laidByText := true, laidKinds := [.data], laidTests := true, laidLooks := .later }
def FnNfsModeUptoCardSaid : Prop := Claim7.holds Tryd.pinned (.plain (OpenSpec.upto fnNfsModeSpec)) fnNfsModeUptoCard
end Rows
end Go.Proofs.YtdidbaadladkpaaDoor
