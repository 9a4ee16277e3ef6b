/-
  DERIVED. GIVEN WITH THE SEED: THE CARDS: each row of YtfhhaencigmpoaaDoorRows.lean that lists a variable, with what it lists TIED to the program's text (the seventh form; the later family's looks); each row that meets fmt, with fmt's text TOLD by the authors' own Lean function (tested against real Go, not proved from fmt's source: count such statements apart). THE CARD IS WHAT COUNTS. Prove the row's statement (the work); the ties are given (YtfhhaencigmpoaaDoorTie.lean); close each card by the builder's one call (the guide's Derived/Test/ToyasCard.lean, 'card_holds'). Laid BY PROGRAM, IN A SANDBOX (cutbox-door.mjs). By AI agents, Wed Nov 11 2026. No macro, syntax, notation, axiom, sorry.
-/
import Derived.Test.YtfhhaencigmpoaaDoorRows
import GoSem.ClaimSeven
namespace Go.Proofs.YtfhhaencigmpoaaDoor
namespace Rows

/-- THE TIED CARD OF 'laws.FnExactToNfs'. -/
def fnExactToNfsCard : Claim7 := { stood := { row := fnExactToNfsRow, standIns := [], harness := (true, "08b170f32932cd3101d546158a0a3ae43e3d94bbc0dc76617a98b9cf0961010e"), looks := false }, kinds := [], alts := [], laidByText := true, laidKinds := [.data], laidTests := true, laidLooks := .later }
def FnExactToNfsCardSaid : Prop := Claim7.holds Tryd.pinned (.plain (OpenSpec.ofChange fnExactToNfsSpec)) fnExactToNfsCard

/-- THE TIED CARD OF 'laws.FnExactDefaultNfs'. -/
def fnExactDefaultNfsCard : Claim7 := { stood := { row := fnExactDefaultNfsRow, standIns := [], harness := (true, "08b170f32932cd3101d546158a0a3ae43e3d94bbc0dc76617a98b9cf0961010e"), looks := false }, kinds := [], alts := [], laidByText := true, laidKinds := [.data], laidTests := true, laidLooks := .later }
def FnExactDefaultNfsCardSaid : Prop := Claim7.holds Tryd.pinned (.plain (OpenSpec.ofChange fnExactDefaultNfsSpec)) fnExactDefaultNfsCard

/-- THE TIED CARD OF 'laws.FnExactToPosix'. -/
def fnExactToPosixCard : Claim7 := { stood := { row := fnExactToPosixRow, standIns := [], harness := (true, "08b170f32932cd3101d546158a0a3ae43e3d94bbc0dc76617a98b9cf0961010e"), looks := false }, kinds := [], alts := [], laidByText := true, laidKinds := [.data], laidTests := true, laidLooks := .later }
def FnExactToPosixCardSaid : Prop := Claim7.holds Tryd.pinned (.plain (OpenSpec.ofChange fnExactToPosixSpec)) fnExactToPosixCard

/-- THE TIED CARD OF 'laws.FnDefault'. -/
def fnDefaultCard : Claim7 := { stood := { row := fnDefaultRow, standIns := [], harness := (true, "08b170f32932cd3101d546158a0a3ae43e3d94bbc0dc76617a98b9cf0961010e"), looks := false }, kinds := [], alts := [], laidByText := true, laidKinds := [.data], laidTests := true, laidLooks := .later }
def FnDefaultCardSaid : Prop := Claim7.holds Tryd.pinned (.plain (OpenSpec.ofChange fnDefaultSpec)) fnDefaultCard

/-- THE SECOND FORM's CARD OF 'laws.FnExactToNfs'. -/
def fnExactToNfsUptoCard : Claim7 := { stood := { row := fnExactToNfsUptoRow, standIns := [], harness := (true, "08b170f32932cd3101d546158a0a3ae43e3d94bbc0dc76617a98b9cf0961010e"), looks := false }, kinds := [], alts := [], laidByText := true, laidKinds := [.data], laidTests := true, laidLooks := .later }
def FnExactToNfsUptoCardSaid : Prop := Claim7.holds Tryd.pinned (.plain (OpenSpec.upto fnExactToNfsSpec)) fnExactToNfsUptoCard

/-- THE SECOND FORM's CARD OF 'laws.FnExactDefaultNfs'. -/
def fnExactDefaultNfsUptoCard : Claim7 := { stood := { row := fnExactDefaultNfsUptoRow, standIns := [], harness := (true, "08b170f32932cd3101d546158a0a3ae43e3d94bbc0dc76617a98b9cf0961010e"), looks := false }, kinds := [], alts := [], laidByText := true, laidKinds := [.data], laidTests := true, laidLooks := .later }
def FnExactDefaultNfsUptoCardSaid : Prop := Claim7.holds Tryd.pinned (.plain (OpenSpec.upto fnExactDefaultNfsSpec)) fnExactDefaultNfsUptoCard

/-- THE SECOND FORM's CARD OF 'laws.FnExactToPosix'. -/
def fnExactToPosixUptoCard : Claim7 := { stood := { row := fnExactToPosixUptoRow, standIns := [], harness := (true, "08b170f32932cd3101d546158a0a3ae43e3d94bbc0dc76617a98b9cf0961010e"), looks := false }, kinds := [], alts := [], laidByText := true, laidKinds := [.data], laidTests := true, laidLooks := .later }
def FnExactToPosixUptoCardSaid : Prop := Claim7.holds Tryd.pinned (.plain (OpenSpec.upto fnExactToPosixSpec)) fnExactToPosixUptoCard

/-- THE SECOND FORM's CARD OF 'laws.FnDefault'. -/
def fnDefaultUptoCard : Claim7 := { stood := { row := fnDefaultUptoRow, standIns := [], harness := (true, "08b170f32932cd3101d546158a0a3ae43e3d94bbc0dc76617a98b9cf0961010e"), looks := false }, kinds := [], alts := [], laidByText := true, laidKinds := [.data], laidTests := true, laidLooks := .later }
def FnDefaultUptoCardSaid : Prop := Claim7.holds Tryd.pinned (.plain (OpenSpec.upto fnDefaultSpec)) fnDefaultUptoCard
end Rows
end Go.Proofs.YtfhhaencigmpoaaDoor
