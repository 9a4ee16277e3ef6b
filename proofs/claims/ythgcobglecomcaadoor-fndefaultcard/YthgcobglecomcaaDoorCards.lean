/-
  DERIVED. GIVEN WITH THE SEED: THE CARDS: each row of YthgcobglecomcaaDoorRows.lean that lists a variable, with what it lists TIED to the program's text (the seventh form; the later family's looks); each row that meets fmt, with fmt's text TOLD by the authors' own Lean function (tested against real Go, not proved from fmt's source: count such statements apart). THE CARD IS WHAT COUNTS. Prove the row's statement (the work); the ties are given (YthgcobglecomcaaDoorTie.lean); close each card by the builder's one call (the guide's Derived/Test/ToyasCard.lean, 'card_holds'). Laid BY PROGRAM, IN A SANDBOX (cutbox-door.mjs). By AI agents, Wed Nov 11 2026. No macro, syntax, notation, axiom, sorry.
-/
import Derived.Test.YthgcobglecomcaaDoorRows
import GoSem.ClaimSeven
namespace Go.Proofs.YthgcobglecomcaaDoor
namespace Rows

/-- THE TIED CARD OF 'laws.FnDefault'. -/
def fnDefaultCard : Claim7 := { stood := { row := fnDefaultRow, standIns := [], harness := (true, "64b830781e41169059cf90baeadcb3d755113e405a103cbc36e43b5698500786"), looks := false }, kinds := [], alts := [], laidByText := true, laidKinds := [.data], laidTests := true, laidLooks := .later }
def FnDefaultCardSaid : Prop := Claim7.holds Tryd.pinned (.plain (OpenSpec.ofChange fnDefaultSpec)) fnDefaultCard

/-- THE TIED CARD OF 'laws.FnExactToPosix'. -/
def fnExactToPosixCard : Claim7 := { stood := { row := fnExactToPosixRow, standIns := [], harness := (true, "64b830781e41169059cf90baeadcb3d755113e405a103cbc36e43b5698500786"), looks := false }, kinds := [], alts := [], laidByText := true, laidKinds := [.data], laidTests := true, laidLooks := .later }
def FnExactToPosixCardSaid : Prop := Claim7.holds Tryd.pinned (.plain (OpenSpec.ofChange fnExactToPosixSpec)) fnExactToPosixCard

/-- THE SECOND FORM's CARD OF 'laws.FnDefault'. -/
def fnDefaultUptoCard : Claim7 := { stood := { row := fnDefaultUptoRow, standIns := [], harness := (true, "64b830781e41169059cf90baeadcb3d755113e405a103cbc36e43b5698500786"), looks := false }, kinds := [], alts := [], laidByText := true, laidKinds := [.data], laidTests := true, laidLooks := .later }
def FnDefaultUptoCardSaid : Prop := Claim7.holds Tryd.pinned (.plain (OpenSpec.upto fnDefaultSpec)) fnDefaultUptoCard

/-- THE SECOND FORM's CARD OF 'laws.FnExactToPosix'. -/
def fnExactToPosixUptoCard : Claim7 := { stood := { row := fnExactToPosixUptoRow, standIns := [], harness := (true, "64b830781e41169059cf90baeadcb3d755113e405a103cbc36e43b5698500786"), looks := false }, kinds := [], alts := [], laidByText := true, laidKinds := [.data], laidTests := true, laidLooks := .later }
def FnExactToPosixUptoCardSaid : Prop := Claim7.holds Tryd.pinned (.plain (OpenSpec.upto fnExactToPosixSpec)) fnExactToPosixUptoCard
end Rows
end Go.Proofs.YthgcobglecomcaaDoor
