/-
  DERIVED. GIVEN WITH THE SEED: THE CARDS: each row of YtlngfaplimpilaaDoorRows.lean that lists a variable, with what it lists TIED to the program's text (the seventh form; the later family's looks); each row that meets fmt, with fmt's text TOLD by the authors' own Lean function (tested against real Go, not proved from fmt's source: count such statements apart). THE CARD IS WHAT COUNTS. Prove the row's statement (the work); the ties are given (YtlngfaplimpilaaDoorTie.lean); close each card by the builder's one call (the guide's Derived/Test/ToyasCard.lean, 'card_holds'). Laid BY PROGRAM, IN A SANDBOX (cutbox-door.mjs). By AI agents, Wed Nov 11 2026. No macro, syntax, notation, axiom, sorry.
-/
import Derived.Test.YtlngfaplimpilaaDoorRows
import GoSem.ClaimSeven
namespace Go.Proofs.YtlngfaplimpilaaDoor
namespace Rows

/-- THE TIED CARD OF 'laws.FnWho'. -/
def fnWhoCard : Claim7 := { stood := { row := fnWhoRow, standIns := [], harness := (true, "7b698303e07d19bb55c625f09e1307d297439857f6e110f2bd088327c4aecb64"), looks := false }, kinds := [], alts := [], laidByText := true, laidKinds := [.data, .data, .data, .data, .pinned], laidTests := true, laidLooks := .later }
def FnWhoCardSaid : Prop := Claim7.holds Tryd.pinned (.plain (OpenSpec.ofChange fnWhoSpec)) fnWhoCard

/-- THE TIED CARD OF 'laws.FnExactAceText'. -/
def fnExactAceTextCard : Claim7 := { stood := { row := fnExactAceTextRow, standIns := [], harness := (true, "7b698303e07d19bb55c625f09e1307d297439857f6e110f2bd088327c4aecb64"), looks := false }, kinds := [], alts := [], laidByText := true, laidKinds := [.data, .data, .data], laidTests := true, laidLooks := .later }
def FnExactAceTextCardSaid : Prop := Claim7.holds Tryd.pinned (.plain (OpenSpec.ofChange fnExactAceTextSpec)) fnExactAceTextCard

/-- THE TIED CARD OF 'laws.FnExactAceRead'. -/
def fnExactAceReadCard : Claim7 := { stood := { row := fnExactAceReadRow, standIns := [], harness := (true, "7b698303e07d19bb55c625f09e1307d297439857f6e110f2bd088327c4aecb64"), looks := false }, kinds := [], alts := [], laidByText := true, laidKinds := [.data, .pinned], laidTests := true, laidLooks := .later }
def FnExactAceReadCardSaid : Prop := Claim7.holds Tryd.pinned (.plain (OpenSpec.ofChange fnExactAceReadSpec)) fnExactAceReadCard

/-- THE TIED CARD OF 'laws.FnExactNfsText'. -/
def fnExactNfsTextCard : Claim7 := { stood := { row := fnExactNfsTextRow, standIns := [], harness := (true, "7b698303e07d19bb55c625f09e1307d297439857f6e110f2bd088327c4aecb64"), looks := false }, kinds := [], alts := [], laidByText := true, laidKinds := [.data, .data, .data], laidTests := true, laidLooks := .later }
def FnExactNfsTextCardSaid : Prop := Claim7.holds Tryd.pinned (.plain (OpenSpec.ofChange fnExactNfsTextSpec)) fnExactNfsTextCard

/-- THE TIED CARD OF 'laws.FnExactNfsRead'. -/
def fnExactNfsReadCard : Claim7 := { stood := { row := fnExactNfsReadRow, standIns := [], harness := (true, "7b698303e07d19bb55c625f09e1307d297439857f6e110f2bd088327c4aecb64"), looks := false }, kinds := [], alts := [], laidByText := true, laidKinds := [.data, .pinned], laidTests := true, laidLooks := .later }
def FnExactNfsReadCardSaid : Prop := Claim7.holds Tryd.pinned (.plain (OpenSpec.ofChange fnExactNfsReadSpec)) fnExactNfsReadCard

/-- THE TIED CARD OF 'laws.FnExactAclText'. -/
def fnExactAclTextCard : Claim7 := { stood := { row := fnExactAclTextRow, standIns := [], harness := (true, "7b698303e07d19bb55c625f09e1307d297439857f6e110f2bd088327c4aecb64"), looks := false }, kinds := [], alts := [], laidByText := true, laidKinds := [.data, .data, .data], laidTests := true, laidLooks := .later }
def FnExactAclTextCardSaid : Prop := Claim7.holds Tryd.pinned (.plain (OpenSpec.ofChange fnExactAclTextSpec)) fnExactAclTextCard

/-- THE SECOND FORM's CARD OF 'laws.FnWho'. -/
def fnWhoUptoCard : Claim7 := { stood := { row := fnWhoUptoRow, standIns := [], harness := (true, "7b698303e07d19bb55c625f09e1307d297439857f6e110f2bd088327c4aecb64"), looks := false }, kinds := [], alts := [], laidByText := true, laidKinds := [.data, .data, .data, .data, .pinned], laidTests := true, laidLooks := .later }
def FnWhoUptoCardSaid : Prop := Claim7.holds Tryd.pinned (.plain (OpenSpec.upto fnWhoSpec)) fnWhoUptoCard

/-- THE SECOND FORM's CARD OF 'laws.FnExactAceText'. -/
def fnExactAceTextUptoCard : Claim7 := { stood := { row := fnExactAceTextUptoRow, standIns := [], harness := (true, "7b698303e07d19bb55c625f09e1307d297439857f6e110f2bd088327c4aecb64"), looks := false }, kinds := [], alts := [], laidByText := true, laidKinds := [.data, .data, .data], laidTests := true, laidLooks := .later }
def FnExactAceTextUptoCardSaid : Prop := Claim7.holds Tryd.pinned (.plain (OpenSpec.upto fnExactAceTextSpec)) fnExactAceTextUptoCard

/-- THE SECOND FORM's CARD OF 'laws.FnExactAceRead'. -/
def fnExactAceReadUptoCard : Claim7 := { stood := { row := fnExactAceReadUptoRow, standIns := [], harness := (true, "7b698303e07d19bb55c625f09e1307d297439857f6e110f2bd088327c4aecb64"), looks := false }, kinds := [], alts := [], laidByText := true, laidKinds := [.data, .pinned], laidTests := true, laidLooks := .later }
def FnExactAceReadUptoCardSaid : Prop := Claim7.holds Tryd.pinned (.plain (OpenSpec.upto fnExactAceReadSpec)) fnExactAceReadUptoCard

/-- THE SECOND FORM's CARD OF 'laws.FnExactNfsText'. -/
def fnExactNfsTextUptoCard : Claim7 := { stood := { row := fnExactNfsTextUptoRow, standIns := [], harness := (true, "7b698303e07d19bb55c625f09e1307d297439857f6e110f2bd088327c4aecb64"), looks := false }, kinds := [], alts := [], laidByText := true, laidKinds := [.data, .data, .data], laidTests := true, laidLooks := .later }
def FnExactNfsTextUptoCardSaid : Prop := Claim7.holds Tryd.pinned (.plain (OpenSpec.upto fnExactNfsTextSpec)) fnExactNfsTextUptoCard

/-- THE SECOND FORM's CARD OF 'laws.FnExactNfsRead'. -/
def fnExactNfsReadUptoCard : Claim7 := { stood := { row := fnExactNfsReadUptoRow, standIns := [], harness := (true, "7b698303e07d19bb55c625f09e1307d297439857f6e110f2bd088327c4aecb64"), looks := false }, kinds := [], alts := [], laidByText := true, laidKinds := [.data, .pinned], laidTests := true, laidLooks := .later }
def FnExactNfsReadUptoCardSaid : Prop := Claim7.holds Tryd.pinned (.plain (OpenSpec.upto fnExactNfsReadSpec)) fnExactNfsReadUptoCard

/-- THE SECOND FORM's CARD OF 'laws.FnExactAclText'. -/
def fnExactAclTextUptoCard : Claim7 := { stood := { row := fnExactAclTextUptoRow, standIns := [], harness := (true, "7b698303e07d19bb55c625f09e1307d297439857f6e110f2bd088327c4aecb64"), looks := false }, kinds := [], alts := [], laidByText := true, laidKinds := [.data, .data, .data], laidTests := true, laidLooks := .later }
def FnExactAclTextUptoCardSaid : Prop := Claim7.holds Tryd.pinned (.plain (OpenSpec.upto fnExactAclTextSpec)) fnExactAclTextUptoCard
end Rows
end Go.Proofs.YtlngfaplimpilaaDoor
