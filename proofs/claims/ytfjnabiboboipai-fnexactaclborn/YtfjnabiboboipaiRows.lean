/-
  No cell of these rows narrows 'for every input' (looked for: loops, veiled, ifaces, maps, wideKeys, modest, calm, conditions, laid).
  DERIVED. THE GIVEN ROWS OF THIS SEAT. 6 by the template 'for every input the law returns true; each argument reads behind the call as it read before'; 0 by the template 'total and deterministic' (their statements: YtfjnabiboboipaiTotals.lean).
  GIVEN WITH THE SEED: the statements are not yours to turn. If you find one false, say at which input.
  Laid BY PROGRAM, IN A SANDBOX (cutbox-rows.mjs): the forced cells as the released guide's own fill.sh prints them over the translation ea910fb149fe595e… (all of the seat's roots in one cut). By AI agents, Wed Nov 11 2026. No macro, syntax, notation, axiom, sorry.
-/
import Derived.Test.YtfjnabiboboipaiChecked
import GoSem.Claim
import GoSem.ClaimJoined
import GoSem.ClaimMapViews
import Derived.JoinedTies
import Derived.KernelRfl
namespace Go.Proofs.Ytfjnabiboboipai
/- THE CELL 'sum', in the pinned program and in every row, IS THE sha256 OF THE DUMP (.gsa) THAT YtfjnabiboboipaiProg.lean LOADS. Nothing in Lean hashes anything: it is a label: what it is worth is what the hold of that sum in a sandbox is worth. -/
noncomputable def Try.pinned : Pinned := { name := "ytfjnabiboboipai", sum := "ea910fb149fe595ecf55a15bee3d568160e76c79c68ec92b95b9731a43a44225", checked := Try.checked }
namespace Rows
def none {H : Type} : Left H := { results := [], args := [] }

/-- 'laws.FnExactAclMay': WHATEVER THE INPUT: true; the input reads as it did. -/
def fnExactAclMaySpec : ChangeSpec := { name := "fnExactAclMay", fn := fun _ => fun
  | [d1, d2, d3, d4, d5] => { results := [.lit (.bool true)], args := [d1, d2, d3, d4, d5] }
  | _ => none }
def fnExactAclMayRow : OpenClaim := { program := "ytfjnabiboboipai", sum := "ea910fb149fe595ecf55a15bee3d568160e76c79c68ec92b95b9731a43a44225", func := "loop.example/g00622/laws.FnExactAclMay", spec := "fnExactAclMay", unfollowed := true, recurses := true, apart := false }
def FnExactAclMaySaid : Prop := fnExactAclMayRow.holds Try.pinned (OpenSpec.ofChange fnExactAclMaySpec)

/-- ITS FALSE NEIGHBOUR: 'it returns false'. Refute it at one input. -/
def fnExactAclMayWrong : ChangeSpec := { name := "fnExactAclMay", fn := fun _ => fun
  | [d1, d2, d3, d4, d5] => { results := [.lit (.bool false)], args := [d1, d2, d3, d4, d5] }
  | _ => none }
def FnExactAclMayWrongFalsely : Prop := fnExactAclMayRow.holds Try.pinned (OpenSpec.ofChange fnExactAclMayWrong)

/-- 'laws.FnExactAclClass': WHATEVER THE INPUT: true; the input reads as it did. -/
def fnExactAclClassSpec : ChangeSpec := { name := "fnExactAclClass", fn := fun _ => fun
  | [d1, d2, d3, d4, d5] => { results := [.lit (.bool true)], args := [d1, d2, d3, d4, d5] }
  | _ => none }
def fnExactAclClassRow : OpenClaim := { program := "ytfjnabiboboipai", sum := "ea910fb149fe595ecf55a15bee3d568160e76c79c68ec92b95b9731a43a44225", func := "loop.example/g00622/laws.FnExactAclClass", spec := "fnExactAclClass", unfollowed := true, recurses := true, apart := false }
def FnExactAclClassSaid : Prop := fnExactAclClassRow.holds Try.pinned (OpenSpec.ofChange fnExactAclClassSpec)

/-- ITS FALSE NEIGHBOUR: 'it returns false'. Refute it at one input. -/
def fnExactAclClassWrong : ChangeSpec := { name := "fnExactAclClass", fn := fun _ => fun
  | [d1, d2, d3, d4, d5] => { results := [.lit (.bool false)], args := [d1, d2, d3, d4, d5] }
  | _ => none }
def FnExactAclClassWrongFalsely : Prop := fnExactAclClassRow.holds Try.pinned (OpenSpec.ofChange fnExactAclClassWrong)

/-- 'laws.FnExactMaskOf': WHATEVER THE INPUT: true; the input reads as it did. -/
def fnExactMaskOfSpec : ChangeSpec := { name := "fnExactMaskOf", fn := fun _ => fun
  | [d] => { results := [.lit (.bool true)], args := [d] }
  | _ => none }
def fnExactMaskOfRow : OpenClaim := { program := "ytfjnabiboboipai", sum := "ea910fb149fe595ecf55a15bee3d568160e76c79c68ec92b95b9731a43a44225", func := "loop.example/g00622/laws.FnExactMaskOf", spec := "fnExactMaskOf", apart := false }
def FnExactMaskOfSaid : Prop := fnExactMaskOfRow.holds Try.pinned (OpenSpec.ofChange fnExactMaskOfSpec)

/-- ITS FALSE NEIGHBOUR: 'it returns false'. Refute it at one input. -/
def fnExactMaskOfWrong : ChangeSpec := { name := "fnExactMaskOf", fn := fun _ => fun
  | [d] => { results := [.lit (.bool false)], args := [d] }
  | _ => none }
def FnExactMaskOfWrongFalsely : Prop := fnExactMaskOfRow.holds Try.pinned (OpenSpec.ofChange fnExactMaskOfWrong)

/-- 'laws.FnExactAclChmod': WHATEVER THE INPUT: true; the input reads as it did. -/
def fnExactAclChmodSpec : ChangeSpec := { name := "fnExactAclChmod", fn := fun _ => fun
  | [d1, d2] => { results := [.lit (.bool true)], args := [d1, d2] }
  | _ => none }
def fnExactAclChmodRow : OpenClaim := { program := "ytfjnabiboboipai", sum := "ea910fb149fe595ecf55a15bee3d568160e76c79c68ec92b95b9731a43a44225", func := "loop.example/g00622/laws.FnExactAclChmod", spec := "fnExactAclChmod", apart := false }
def FnExactAclChmodSaid : Prop := fnExactAclChmodRow.holds Try.pinned (OpenSpec.ofChange fnExactAclChmodSpec)

/-- ITS FALSE NEIGHBOUR: 'it returns false'. Refute it at one input. -/
def fnExactAclChmodWrong : ChangeSpec := { name := "fnExactAclChmod", fn := fun _ => fun
  | [d1, d2] => { results := [.lit (.bool false)], args := [d1, d2] }
  | _ => none }
def FnExactAclChmodWrongFalsely : Prop := fnExactAclChmodRow.holds Try.pinned (OpenSpec.ofChange fnExactAclChmodWrong)

/-- 'laws.FnExactAclBorn': WHATEVER THE INPUT: true; the input reads as it did. -/
def fnExactAclBornSpec : ChangeSpec := { name := "fnExactAclBorn", fn := fun _ => fun
  | [d1, d2] => { results := [.lit (.bool true)], args := [d1, d2] }
  | _ => none }
def fnExactAclBornRow : OpenClaim := { program := "ytfjnabiboboipai", sum := "ea910fb149fe595ecf55a15bee3d568160e76c79c68ec92b95b9731a43a44225", func := "loop.example/g00622/laws.FnExactAclBorn", spec := "fnExactAclBorn", apart := false }
def FnExactAclBornSaid : Prop := fnExactAclBornRow.holds Try.pinned (OpenSpec.ofChange fnExactAclBornSpec)

/-- ITS FALSE NEIGHBOUR: 'it returns false'. Refute it at one input. -/
def fnExactAclBornWrong : ChangeSpec := { name := "fnExactAclBorn", fn := fun _ => fun
  | [d1, d2] => { results := [.lit (.bool false)], args := [d1, d2] }
  | _ => none }
def FnExactAclBornWrongFalsely : Prop := fnExactAclBornRow.holds Try.pinned (OpenSpec.ofChange fnExactAclBornWrong)

/-- 'laws.FnExactPutUser': WHATEVER THE INPUT: true; the input reads as it did. -/
def fnExactPutUserSpec : ChangeSpec := { name := "fnExactPutUser", fn := fun _ => fun
  | [d1, d2, d3] => { results := [.lit (.bool true)], args := [d1, d2, d3] }
  | _ => none }
def fnExactPutUserRow : OpenClaim := { program := "ytfjnabiboboipai", sum := "ea910fb149fe595ecf55a15bee3d568160e76c79c68ec92b95b9731a43a44225", func := "loop.example/g00622/laws.FnExactPutUser", spec := "fnExactPutUser", unfollowed := true, recurses := true, apart := false }
def FnExactPutUserSaid : Prop := fnExactPutUserRow.holds Try.pinned (OpenSpec.ofChange fnExactPutUserSpec)

/-- ITS FALSE NEIGHBOUR: 'it returns false'. Refute it at one input. -/
def fnExactPutUserWrong : ChangeSpec := { name := "fnExactPutUser", fn := fun _ => fun
  | [d1, d2, d3] => { results := [.lit (.bool false)], args := [d1, d2, d3] }
  | _ => none }
def FnExactPutUserWrongFalsely : Prop := fnExactPutUserRow.holds Try.pinned (OpenSpec.ofChange fnExactPutUserWrong)

/- THE SECOND FORM. 'bulk': how many values and letters a reading holds, each counted each time it is reached (what is shared counts as often as it is met; a slice's spare places count too). A statement '..UptoSaid' is the law's where the arguments, and the package variables that the reading takes, are together of bulk at most 1048576: NARROWER than '..Said'. Prove '..Said' where nothing that the law and all that it calls make is longer than what came in: it says more and counts as full. Else prove '..UptoSaid'. A law counts once. -/
mutual
def uptoBulk {H : Type} : DataW H → Nat
  | .lit (.string bytes) => bytes.length + 1
  | .lit _ => 1
  | .nil => 1
  | .ptr d => uptoBulk d + 1
  | .slice elems spare => uptoBulkAll elems + uptoBulkAll spare + 1
  | .agg parts => uptoBulkAll parts + 1
  | .iface _ d => uptoBulk d + 1
  | .map entries => uptoBulkEntries entries + 1
  | .held _ => 1
def uptoBulkAll {H : Type} : List (DataW H) → Nat
  | [] => 0
  | d :: r => uptoBulk d + uptoBulkAll r
def uptoBulkEntries {H : Type} : List (Lit × DataW H) → Nat
  | [] => 0
  | x :: r => uptoBulkEntry x + uptoBulkEntries r
def uptoBulkEntry {H : Type} : Lit × DataW H → Nat
  | (.string bytes, d) => bytes.length + uptoBulk d + 1
  | (_, d) => uptoBulk d + 1
 end
def uptoSmall : (H : Type) → List (DataW H) → Bool := fun _ ds => decide (uptoBulkAll ds ≤ 1048576)
def OpenSpec.upto (s : _root_.Go.ChangeSpec) : _root_.Go.OpenSpec := { _root_.Go.OpenSpec.ofChange s with cond := some uptoSmall }

/-- 'laws.FnExactAclMay', WHERE WHAT IT READS IS OF BULK AT MOST 1048576: true; the input reads as it did. -/
def fnExactAclMayUptoRow : OpenClaim := { program := "ytfjnabiboboipai", sum := "ea910fb149fe595ecf55a15bee3d568160e76c79c68ec92b95b9731a43a44225", func := "loop.example/g00622/laws.FnExactAclMay", spec := "fnExactAclMay", unfollowed := true, recurses := true, apart := false, narrowed := true }
def FnExactAclMayUptoSaid : Prop := fnExactAclMayUptoRow.holds Try.pinned (OpenSpec.upto fnExactAclMaySpec)

/-- 'laws.FnExactAclClass', WHERE WHAT IT READS IS OF BULK AT MOST 1048576: true; the input reads as it did. -/
def fnExactAclClassUptoRow : OpenClaim := { program := "ytfjnabiboboipai", sum := "ea910fb149fe595ecf55a15bee3d568160e76c79c68ec92b95b9731a43a44225", func := "loop.example/g00622/laws.FnExactAclClass", spec := "fnExactAclClass", unfollowed := true, recurses := true, apart := false, narrowed := true }
def FnExactAclClassUptoSaid : Prop := fnExactAclClassUptoRow.holds Try.pinned (OpenSpec.upto fnExactAclClassSpec)

/-- 'laws.FnExactMaskOf', WHERE WHAT IT READS IS OF BULK AT MOST 1048576: true; the input reads as it did. -/
def fnExactMaskOfUptoRow : OpenClaim := { program := "ytfjnabiboboipai", sum := "ea910fb149fe595ecf55a15bee3d568160e76c79c68ec92b95b9731a43a44225", func := "loop.example/g00622/laws.FnExactMaskOf", spec := "fnExactMaskOf", apart := false, narrowed := true }
def FnExactMaskOfUptoSaid : Prop := fnExactMaskOfUptoRow.holds Try.pinned (OpenSpec.upto fnExactMaskOfSpec)

/-- 'laws.FnExactAclChmod', WHERE WHAT IT READS IS OF BULK AT MOST 1048576: true; the input reads as it did. -/
def fnExactAclChmodUptoRow : OpenClaim := { program := "ytfjnabiboboipai", sum := "ea910fb149fe595ecf55a15bee3d568160e76c79c68ec92b95b9731a43a44225", func := "loop.example/g00622/laws.FnExactAclChmod", spec := "fnExactAclChmod", apart := false, narrowed := true }
def FnExactAclChmodUptoSaid : Prop := fnExactAclChmodUptoRow.holds Try.pinned (OpenSpec.upto fnExactAclChmodSpec)

/-- 'laws.FnExactAclBorn', WHERE WHAT IT READS IS OF BULK AT MOST 1048576: true; the input reads as it did. -/
def fnExactAclBornUptoRow : OpenClaim := { program := "ytfjnabiboboipai", sum := "ea910fb149fe595ecf55a15bee3d568160e76c79c68ec92b95b9731a43a44225", func := "loop.example/g00622/laws.FnExactAclBorn", spec := "fnExactAclBorn", apart := false, narrowed := true }
def FnExactAclBornUptoSaid : Prop := fnExactAclBornUptoRow.holds Try.pinned (OpenSpec.upto fnExactAclBornSpec)

/-- 'laws.FnExactPutUser', WHERE WHAT IT READS IS OF BULK AT MOST 1048576: true; the input reads as it did. -/
def fnExactPutUserUptoRow : OpenClaim := { program := "ytfjnabiboboipai", sum := "ea910fb149fe595ecf55a15bee3d568160e76c79c68ec92b95b9731a43a44225", func := "loop.example/g00622/laws.FnExactPutUser", spec := "fnExactPutUser", unfollowed := true, recurses := true, apart := false, narrowed := true }
def FnExactPutUserUptoSaid : Prop := fnExactPutUserUptoRow.holds Try.pinned (OpenSpec.upto fnExactPutUserSpec)

end Rows
end Go.Proofs.Ytfjnabiboboipai
