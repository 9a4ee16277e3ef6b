/-
  No cell of these rows narrows 'for every input' (looked for: loops, veiled, ifaces, maps, wideKeys, modest, calm, conditions, laid).
  DERIVED. THE GIVEN ROWS OF THIS SEAT. 5 by the template 'for every input the law returns true; each argument reads behind the call as it read before'; 0 by the template 'total and deterministic' (their statements: YteholdjhkdapcajTotals.lean).
  GIVEN WITH THE SEED: the statements are not yours to turn. If you find one false, say at which input.
  Laid BY PROGRAM, IN A SANDBOX (cutbox-rows.mjs): the forced cells as the released guide's own fill.sh prints them over the translation 497cc5dfe5e66cb3… (all of the seat's roots in one cut). By AI agents, Wed Nov 11 2026. No macro, syntax, notation, axiom, sorry.
-/
import Derived.Test.YteholdjhkdapcajChecked
import GoSem.Claim
import GoSem.ClaimJoined
import GoSem.ClaimMapViews
import Derived.JoinedTies
import Derived.KernelRfl
namespace Go.Proofs.Yteholdjhkdapcaj
/- THE CELL 'sum', in the pinned program and in every row, IS THE sha256 OF THE DUMP (.gsa) THAT YteholdjhkdapcajProg.lean LOADS. Nothing in Lean hashes anything: it is a label: what it is worth is what the hold of that sum in a sandbox is worth. -/
noncomputable def Try.pinned : Pinned := { name := "yteholdjhkdapcaj", sum := "497cc5dfe5e66cb3bc810bde97058f227e44efd512f0b9725be91737a5a02cc4", checked := Try.checked }
namespace Rows
def none {H : Type} : Left H := { results := [], args := [] }

/-- 'laws.FnExactPutGroup': WHATEVER THE INPUT: true; the input reads as it did. -/
def fnExactPutGroupSpec : ChangeSpec := { name := "fnExactPutGroup", fn := fun _ => fun
  | [d1, d2, d3] => { results := [.lit (.bool true)], args := [d1, d2, d3] }
  | _ => none }
def fnExactPutGroupRow : OpenClaim := { program := "yteholdjhkdapcaj", sum := "497cc5dfe5e66cb3bc810bde97058f227e44efd512f0b9725be91737a5a02cc4", func := "loop.example/g00622/laws.FnExactPutGroup", spec := "fnExactPutGroup", unfollowed := true, recurses := true, apart := false }
def FnExactPutGroupSaid : Prop := fnExactPutGroupRow.holds Try.pinned (OpenSpec.ofChange fnExactPutGroupSpec)

/-- ITS FALSE NEIGHBOUR: 'it returns false'. Refute it at one input. -/
def fnExactPutGroupWrong : ChangeSpec := { name := "fnExactPutGroup", fn := fun _ => fun
  | [d1, d2, d3] => { results := [.lit (.bool false)], args := [d1, d2, d3] }
  | _ => none }
def FnExactPutGroupWrongFalsely : Prop := fnExactPutGroupRow.holds Try.pinned (OpenSpec.ofChange fnExactPutGroupWrong)

/-- 'laws.FnExactDropUser': WHATEVER THE INPUT: true; the input reads as it did. -/
def fnExactDropUserSpec : ChangeSpec := { name := "fnExactDropUser", fn := fun _ => fun
  | [d1, d2] => { results := [.lit (.bool true)], args := [d1, d2] }
  | _ => none }
def fnExactDropUserRow : OpenClaim := { program := "yteholdjhkdapcaj", sum := "497cc5dfe5e66cb3bc810bde97058f227e44efd512f0b9725be91737a5a02cc4", func := "loop.example/g00622/laws.FnExactDropUser", spec := "fnExactDropUser", unfollowed := true, recurses := true, apart := false }
def FnExactDropUserSaid : Prop := fnExactDropUserRow.holds Try.pinned (OpenSpec.ofChange fnExactDropUserSpec)

/-- ITS FALSE NEIGHBOUR: 'it returns false'. Refute it at one input. -/
def fnExactDropUserWrong : ChangeSpec := { name := "fnExactDropUser", fn := fun _ => fun
  | [d1, d2] => { results := [.lit (.bool false)], args := [d1, d2] }
  | _ => none }
def FnExactDropUserWrongFalsely : Prop := fnExactDropUserRow.holds Try.pinned (OpenSpec.ofChange fnExactDropUserWrong)

/-- 'laws.FnExactDropGroup': WHATEVER THE INPUT: true; the input reads as it did. -/
def fnExactDropGroupSpec : ChangeSpec := { name := "fnExactDropGroup", fn := fun _ => fun
  | [d1, d2] => { results := [.lit (.bool true)], args := [d1, d2] }
  | _ => none }
def fnExactDropGroupRow : OpenClaim := { program := "yteholdjhkdapcaj", sum := "497cc5dfe5e66cb3bc810bde97058f227e44efd512f0b9725be91737a5a02cc4", func := "loop.example/g00622/laws.FnExactDropGroup", spec := "fnExactDropGroup", unfollowed := true, recurses := true, apart := false }
def FnExactDropGroupSaid : Prop := fnExactDropGroupRow.holds Try.pinned (OpenSpec.ofChange fnExactDropGroupSpec)

/-- ITS FALSE NEIGHBOUR: 'it returns false'. Refute it at one input. -/
def fnExactDropGroupWrong : ChangeSpec := { name := "fnExactDropGroup", fn := fun _ => fun
  | [d1, d2] => { results := [.lit (.bool false)], args := [d1, d2] }
  | _ => none }
def FnExactDropGroupWrongFalsely : Prop := fnExactDropGroupRow.holds Try.pinned (OpenSpec.ofChange fnExactDropGroupWrong)

/-- 'laws.FnExactSetMask': WHATEVER THE INPUT: true; the input reads as it did. -/
def fnExactSetMaskSpec : ChangeSpec := { name := "fnExactSetMask", fn := fun _ => fun
  | [d1, d2] => { results := [.lit (.bool true)], args := [d1, d2] }
  | _ => none }
def fnExactSetMaskRow : OpenClaim := { program := "yteholdjhkdapcaj", sum := "497cc5dfe5e66cb3bc810bde97058f227e44efd512f0b9725be91737a5a02cc4", func := "loop.example/g00622/laws.FnExactSetMask", spec := "fnExactSetMask", apart := false }
def FnExactSetMaskSaid : Prop := fnExactSetMaskRow.holds Try.pinned (OpenSpec.ofChange fnExactSetMaskSpec)

/-- ITS FALSE NEIGHBOUR: 'it returns false'. Refute it at one input. -/
def fnExactSetMaskWrong : ChangeSpec := { name := "fnExactSetMask", fn := fun _ => fun
  | [d1, d2] => { results := [.lit (.bool false)], args := [d1, d2] }
  | _ => none }
def FnExactSetMaskWrongFalsely : Prop := fnExactSetMaskRow.holds Try.pinned (OpenSpec.ofChange fnExactSetMaskWrong)

/-- 'laws.FnExactBare': WHATEVER THE INPUT: true; the input reads as it did. -/
def fnExactBareSpec : ChangeSpec := { name := "fnExactBare", fn := fun _ => fun
  | [d] => { results := [.lit (.bool true)], args := [d] }
  | _ => none }
def fnExactBareRow : OpenClaim := { program := "yteholdjhkdapcaj", sum := "497cc5dfe5e66cb3bc810bde97058f227e44efd512f0b9725be91737a5a02cc4", func := "loop.example/g00622/laws.FnExactBare", spec := "fnExactBare", apart := false }
def FnExactBareSaid : Prop := fnExactBareRow.holds Try.pinned (OpenSpec.ofChange fnExactBareSpec)

/-- ITS FALSE NEIGHBOUR: 'it returns false'. Refute it at one input. -/
def fnExactBareWrong : ChangeSpec := { name := "fnExactBare", fn := fun _ => fun
  | [d] => { results := [.lit (.bool false)], args := [d] }
  | _ => none }
def FnExactBareWrongFalsely : Prop := fnExactBareRow.holds Try.pinned (OpenSpec.ofChange fnExactBareWrong)

/- THE SECOND FORM. 'bulk': how many values and letters a reading holds, each counted each time it is reached (what is shared counts as often as it is met; a slice's spare places count too). A statement '..UptoSaid' is the law's where the arguments, and the package variables that the reading takes, are together of bulk at most 1048576: NARROWER than '..Said'. Prove '..Said' where nothing that the law and all that it calls make is longer than what came in: it says more and counts as full. Else prove '..UptoSaid'. A law counts once. -/
mutual
def uptoBulk {H : Type} : DataW H → Nat
  | .lit (.string bytes) => bytes.length + 1
  | .lit _ => 1
  | .nil => 1
  | .ptr d => uptoBulk d + 1
  | .slice elems spare => uptoBulkAll elems + uptoBulkAll spare + 1
  | .agg parts => uptoBulkAll parts + 1
  | .iface _ d => uptoBulk d + 1
  | .map entries => uptoBulkEntries entries + 1
  | .held _ => 1
def uptoBulkAll {H : Type} : List (DataW H) → Nat
  | [] => 0
  | d :: r => uptoBulk d + uptoBulkAll r
def uptoBulkEntries {H : Type} : List (Lit × DataW H) → Nat
  | [] => 0
  | x :: r => uptoBulkEntry x + uptoBulkEntries r
def uptoBulkEntry {H : Type} : Lit × DataW H → Nat
  | (.string bytes, d) => bytes.length + uptoBulk d + 1
  | (_, d) => uptoBulk d + 1
 end
def uptoSmall : (H : Type) → List (DataW H) → Bool := fun _ ds => decide (uptoBulkAll ds ≤ 1048576)
def OpenSpec.upto (s : _root_.Go.ChangeSpec) : _root_.Go.OpenSpec := { _root_.Go.OpenSpec.ofChange s with cond := some uptoSmall }

/-- 'laws.FnExactPutGroup', WHERE WHAT IT READS IS OF BULK AT MOST 1048576: true; the input reads as it did. -/
def fnExactPutGroupUptoRow : OpenClaim := { program := "yteholdjhkdapcaj", sum := "497cc5dfe5e66cb3bc810bde97058f227e44efd512f0b9725be91737a5a02cc4", func := "loop.example/g00622/laws.FnExactPutGroup", spec := "fnExactPutGroup", unfollowed := true, recurses := true, apart := false, narrowed := true }
def FnExactPutGroupUptoSaid : Prop := fnExactPutGroupUptoRow.holds Try.pinned (OpenSpec.upto fnExactPutGroupSpec)

/-- 'laws.FnExactDropUser', WHERE WHAT IT READS IS OF BULK AT MOST 1048576: true; the input reads as it did. -/
def fnExactDropUserUptoRow : OpenClaim := { program := "yteholdjhkdapcaj", sum := "497cc5dfe5e66cb3bc810bde97058f227e44efd512f0b9725be91737a5a02cc4", func := "loop.example/g00622/laws.FnExactDropUser", spec := "fnExactDropUser", unfollowed := true, recurses := true, apart := false, narrowed := true }
def FnExactDropUserUptoSaid : Prop := fnExactDropUserUptoRow.holds Try.pinned (OpenSpec.upto fnExactDropUserSpec)

/-- 'laws.FnExactDropGroup', WHERE WHAT IT READS IS OF BULK AT MOST 1048576: true; the input reads as it did. -/
def fnExactDropGroupUptoRow : OpenClaim := { program := "yteholdjhkdapcaj", sum := "497cc5dfe5e66cb3bc810bde97058f227e44efd512f0b9725be91737a5a02cc4", func := "loop.example/g00622/laws.FnExactDropGroup", spec := "fnExactDropGroup", unfollowed := true, recurses := true, apart := false, narrowed := true }
def FnExactDropGroupUptoSaid : Prop := fnExactDropGroupUptoRow.holds Try.pinned (OpenSpec.upto fnExactDropGroupSpec)

/-- 'laws.FnExactSetMask', WHERE WHAT IT READS IS OF BULK AT MOST 1048576: true; the input reads as it did. -/
def fnExactSetMaskUptoRow : OpenClaim := { program := "yteholdjhkdapcaj", sum := "497cc5dfe5e66cb3bc810bde97058f227e44efd512f0b9725be91737a5a02cc4", func := "loop.example/g00622/laws.FnExactSetMask", spec := "fnExactSetMask", apart := false, narrowed := true }
def FnExactSetMaskUptoSaid : Prop := fnExactSetMaskUptoRow.holds Try.pinned (OpenSpec.upto fnExactSetMaskSpec)

/-- 'laws.FnExactBare', WHERE WHAT IT READS IS OF BULK AT MOST 1048576: true; the input reads as it did. -/
def fnExactBareUptoRow : OpenClaim := { program := "yteholdjhkdapcaj", sum := "497cc5dfe5e66cb3bc810bde97058f227e44efd512f0b9725be91737a5a02cc4", func := "loop.example/g00622/laws.FnExactBare", spec := "fnExactBare", apart := false, narrowed := true }
def FnExactBareUptoSaid : Prop := fnExactBareUptoRow.holds Try.pinned (OpenSpec.upto fnExactBareSpec)

end Rows
end Go.Proofs.Yteholdjhkdapcaj
