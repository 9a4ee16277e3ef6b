/-
  No cell of these rows narrows 'for every input' (looked for: loops, veiled, ifaces, maps, wideKeys, modest, calm, conditions, laid).
  DERIVED. THE GIVEN ROWS OF THIS SEAT. 5 by the template 'for every input the law returns true; each argument reads behind the call as it read before'; 0 by the template 'total and deterministic' (their statements: YteholdjhkdapcahTotals.lean).
  GIVEN WITH THE SEED: the statements are not yours to turn. If you find one false, say at which input.
  Laid BY PROGRAM, IN A SANDBOX (cutbox-rows.mjs): the forced cells as the released guide's own fill.sh prints them over the translation 8c09406837c5bf0d… (all of the seat's roots in one cut). By AI agents, Wed Nov 11 2026. No macro, syntax, notation, axiom, sorry.
-/
import Derived.Test.YteholdjhkdapcahChecked
import GoSem.Claim
import GoSem.ClaimJoined
import GoSem.ClaimMapViews
import Derived.JoinedTies
import Derived.KernelRfl
namespace Go.Proofs.Yteholdjhkdapcah
/- THE CELL 'sum', in the pinned program and in every row, IS THE sha256 OF THE DUMP (.gsa) THAT YteholdjhkdapcahProg.lean LOADS. Nothing in Lean hashes anything: it is a label: what it is worth is what the hold of that sum in a sandbox is worth. -/
noncomputable def Try.pinned : Pinned := { name := "yteholdjhkdapcah", sum := "8c09406837c5bf0d387b2c3177c15db859217bf5832fa1c51175fa10c38ec44f", checked := Try.checked }
namespace Rows
def none {H : Type} : Left H := { results := [], args := [] }

/-- 'laws.FnExactOctText': WHATEVER THE INPUT: true; the input reads as it did. -/
def fnExactOctTextSpec : ChangeSpec := { name := "fnExactOctText", fn := fun _ => fun
  | [d] => { results := [.lit (.bool true)], args := [d] }
  | _ => none }
def fnExactOctTextRow : OpenClaim := { program := "yteholdjhkdapcah", sum := "8c09406837c5bf0d387b2c3177c15db859217bf5832fa1c51175fa10c38ec44f", func := "loop.example/g00622/laws.FnExactOctText", spec := "fnExactOctText", apart := false }
def FnExactOctTextSaid : Prop := fnExactOctTextRow.holds Try.pinned (OpenSpec.ofChange fnExactOctTextSpec)

/-- ITS FALSE NEIGHBOUR: 'it returns false'. Refute it at one input. -/
def fnExactOctTextWrong : ChangeSpec := { name := "fnExactOctText", fn := fun _ => fun
  | [d] => { results := [.lit (.bool false)], args := [d] }
  | _ => none }
def FnExactOctTextWrongFalsely : Prop := fnExactOctTextRow.holds Try.pinned (OpenSpec.ofChange fnExactOctTextWrong)

/-- 'laws.FnExactOctRead': WHATEVER THE INPUT: true; the input reads as it did. -/
def fnExactOctReadSpec : ChangeSpec := { name := "fnExactOctRead", fn := fun _ => fun
  | [d] => { results := [.lit (.bool true)], args := [d] }
  | _ => none }
def fnExactOctReadRow : OpenClaim := { program := "yteholdjhkdapcah", sum := "8c09406837c5bf0d387b2c3177c15db859217bf5832fa1c51175fa10c38ec44f", func := "loop.example/g00622/laws.FnExactOctRead", spec := "fnExactOctRead", unfollowed := true, recurses := true, apart := false }
def FnExactOctReadSaid : Prop := fnExactOctReadRow.holds Try.pinned (OpenSpec.ofChange fnExactOctReadSpec)

/-- ITS FALSE NEIGHBOUR: 'it returns false'. Refute it at one input. -/
def fnExactOctReadWrong : ChangeSpec := { name := "fnExactOctRead", fn := fun _ => fun
  | [d] => { results := [.lit (.bool false)], args := [d] }
  | _ => none }
def FnExactOctReadWrongFalsely : Prop := fnExactOctReadRow.holds Try.pinned (OpenSpec.ofChange fnExactOctReadWrong)

/-- 'laws.FnExactAclRight': WHATEVER THE INPUT: true; the input reads as it did. -/
def fnExactAclRightSpec : ChangeSpec := { name := "fnExactAclRight", fn := fun _ => fun
  | [d] => { results := [.lit (.bool true)], args := [d] }
  | _ => none }
def fnExactAclRightRow : OpenClaim := { program := "yteholdjhkdapcah", sum := "8c09406837c5bf0d387b2c3177c15db859217bf5832fa1c51175fa10c38ec44f", func := "loop.example/g00622/laws.FnExactAclRight", spec := "fnExactAclRight", apart := false }
def FnExactAclRightSaid : Prop := fnExactAclRightRow.holds Try.pinned (OpenSpec.ofChange fnExactAclRightSpec)

/-- ITS FALSE NEIGHBOUR: 'it returns false'. Refute it at one input. -/
def fnExactAclRightWrong : ChangeSpec := { name := "fnExactAclRight", fn := fun _ => fun
  | [d] => { results := [.lit (.bool false)], args := [d] }
  | _ => none }
def FnExactAclRightWrongFalsely : Prop := fnExactAclRightRow.holds Try.pinned (OpenSpec.ofChange fnExactAclRightWrong)

/-- 'laws.FnExactAclOf': WHATEVER THE INPUT: true; the input reads as it did. -/
def fnExactAclOfSpec : ChangeSpec := { name := "fnExactAclOf", fn := fun _ => fun
  | [d] => { results := [.lit (.bool true)], args := [d] }
  | _ => none }
def fnExactAclOfRow : OpenClaim := { program := "yteholdjhkdapcah", sum := "8c09406837c5bf0d387b2c3177c15db859217bf5832fa1c51175fa10c38ec44f", func := "loop.example/g00622/laws.FnExactAclOf", spec := "fnExactAclOf", apart := false }
def FnExactAclOfSaid : Prop := fnExactAclOfRow.holds Try.pinned (OpenSpec.ofChange fnExactAclOfSpec)

/-- ITS FALSE NEIGHBOUR: 'it returns false'. Refute it at one input. -/
def fnExactAclOfWrong : ChangeSpec := { name := "fnExactAclOf", fn := fun _ => fun
  | [d] => { results := [.lit (.bool false)], args := [d] }
  | _ => none }
def FnExactAclOfWrongFalsely : Prop := fnExactAclOfRow.holds Try.pinned (OpenSpec.ofChange fnExactAclOfWrong)

/-- 'laws.FnExactModeOf': WHATEVER THE INPUT: true; the input reads as it did. -/
def fnExactModeOfSpec : ChangeSpec := { name := "fnExactModeOf", fn := fun _ => fun
  | [d] => { results := [.lit (.bool true)], args := [d] }
  | _ => none }
def fnExactModeOfRow : OpenClaim := { program := "yteholdjhkdapcah", sum := "8c09406837c5bf0d387b2c3177c15db859217bf5832fa1c51175fa10c38ec44f", func := "loop.example/g00622/laws.FnExactModeOf", spec := "fnExactModeOf", apart := false }
def FnExactModeOfSaid : Prop := fnExactModeOfRow.holds Try.pinned (OpenSpec.ofChange fnExactModeOfSpec)

/-- ITS FALSE NEIGHBOUR: 'it returns false'. Refute it at one input. -/
def fnExactModeOfWrong : ChangeSpec := { name := "fnExactModeOf", fn := fun _ => fun
  | [d] => { results := [.lit (.bool false)], args := [d] }
  | _ => none }
def FnExactModeOfWrongFalsely : Prop := fnExactModeOfRow.holds Try.pinned (OpenSpec.ofChange fnExactModeOfWrong)

/- THE SECOND FORM. 'bulk': how many values and letters a reading holds, each counted each time it is reached (what is shared counts as often as it is met; a slice's spare places count too). A statement '..UptoSaid' is the law's where the arguments, and the package variables that the reading takes, are together of bulk at most 1048576: NARROWER than '..Said'. Prove '..Said' where nothing that the law and all that it calls make is longer than what came in: it says more and counts as full. Else prove '..UptoSaid'. A law counts once. -/
mutual
def uptoBulk {H : Type} : DataW H → Nat
  | .lit (.string bytes) => bytes.length + 1
  | .lit _ => 1
  | .nil => 1
  | .ptr d => uptoBulk d + 1
  | .slice elems spare => uptoBulkAll elems + uptoBulkAll spare + 1
  | .agg parts => uptoBulkAll parts + 1
  | .iface _ d => uptoBulk d + 1
  | .map entries => uptoBulkEntries entries + 1
  | .held _ => 1
def uptoBulkAll {H : Type} : List (DataW H) → Nat
  | [] => 0
  | d :: r => uptoBulk d + uptoBulkAll r
def uptoBulkEntries {H : Type} : List (Lit × DataW H) → Nat
  | [] => 0
  | x :: r => uptoBulkEntry x + uptoBulkEntries r
def uptoBulkEntry {H : Type} : Lit × DataW H → Nat
  | (.string bytes, d) => bytes.length + uptoBulk d + 1
  | (_, d) => uptoBulk d + 1
 end
def uptoSmall : (H : Type) → List (DataW H) → Bool := fun _ ds => decide (uptoBulkAll ds ≤ 1048576)
def OpenSpec.upto (s : _root_.Go.ChangeSpec) : _root_.Go.OpenSpec := { _root_.Go.OpenSpec.ofChange s with cond := some uptoSmall }

/-- 'laws.FnExactOctText', WHERE WHAT IT READS IS OF BULK AT MOST 1048576: true; the input reads as it did. -/
def fnExactOctTextUptoRow : OpenClaim := { program := "yteholdjhkdapcah", sum := "8c09406837c5bf0d387b2c3177c15db859217bf5832fa1c51175fa10c38ec44f", func := "loop.example/g00622/laws.FnExactOctText", spec := "fnExactOctText", apart := false, narrowed := true }
def FnExactOctTextUptoSaid : Prop := fnExactOctTextUptoRow.holds Try.pinned (OpenSpec.upto fnExactOctTextSpec)

/-- 'laws.FnExactOctRead', WHERE WHAT IT READS IS OF BULK AT MOST 1048576: true; the input reads as it did. -/
def fnExactOctReadUptoRow : OpenClaim := { program := "yteholdjhkdapcah", sum := "8c09406837c5bf0d387b2c3177c15db859217bf5832fa1c51175fa10c38ec44f", func := "loop.example/g00622/laws.FnExactOctRead", spec := "fnExactOctRead", unfollowed := true, recurses := true, apart := false, narrowed := true }
def FnExactOctReadUptoSaid : Prop := fnExactOctReadUptoRow.holds Try.pinned (OpenSpec.upto fnExactOctReadSpec)

/-- 'laws.FnExactAclRight', WHERE WHAT IT READS IS OF BULK AT MOST 1048576: true; the input reads as it did. -/
def fnExactAclRightUptoRow : OpenClaim := { program := "yteholdjhkdapcah", sum := "8c09406837c5bf0d387b2c3177c15db859217bf5832fa1c51175fa10c38ec44f", func := "loop.example/g00622/laws.FnExactAclRight", spec := "fnExactAclRight", apart := false, narrowed := true }
def FnExactAclRightUptoSaid : Prop := fnExactAclRightUptoRow.holds Try.pinned (OpenSpec.upto fnExactAclRightSpec)

/-- 'laws.FnExactAclOf', WHERE WHAT IT READS IS OF BULK AT MOST 1048576: true; the input reads as it did. -/
def fnExactAclOfUptoRow : OpenClaim := { program := "yteholdjhkdapcah", sum := "8c09406837c5bf0d387b2c3177c15db859217bf5832fa1c51175fa10c38ec44f", func := "loop.example/g00622/laws.FnExactAclOf", spec := "fnExactAclOf", apart := false, narrowed := true }
def FnExactAclOfUptoSaid : Prop := fnExactAclOfUptoRow.holds Try.pinned (OpenSpec.upto fnExactAclOfSpec)

/-- 'laws.FnExactModeOf', WHERE WHAT IT READS IS OF BULK AT MOST 1048576: true; the input reads as it did. -/
def fnExactModeOfUptoRow : OpenClaim := { program := "yteholdjhkdapcah", sum := "8c09406837c5bf0d387b2c3177c15db859217bf5832fa1c51175fa10c38ec44f", func := "loop.example/g00622/laws.FnExactModeOf", spec := "fnExactModeOf", apart := false, narrowed := true }
def FnExactModeOfUptoSaid : Prop := fnExactModeOfUptoRow.holds Try.pinned (OpenSpec.upto fnExactModeOfSpec)

end Rows
end Go.Proofs.Yteholdjhkdapcah
