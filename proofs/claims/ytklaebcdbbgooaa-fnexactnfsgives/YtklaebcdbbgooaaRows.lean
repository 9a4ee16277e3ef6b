/-
  No cell of these rows narrows 'for every input' (looked for: loops, veiled, ifaces, maps, wideKeys, modest, calm, conditions, laid).
  DERIVED. THE GIVEN ROWS OF THIS SEAT. 4 by the template 'for every input the law returns true; each argument reads behind the call as it read before'; 0 by the template 'total and deterministic' (their statements: YtklaebcdbbgooaaTotals.lean).
  GIVEN WITH THE SEED: the statements are not yours to turn. If you find one false, say at which input.
  Laid BY PROGRAM, IN A SANDBOX (cutbox-rows.mjs): the forced cells as the released guide's own fill.sh prints them over the translation ba503b2fcb76d4f2… (all of the seat's roots in one cut). By AI agents, Wed Nov 11 2026. No macro, syntax, notation, axiom, sorry.
-/
import Derived.Test.YtklaebcdbbgooaaChecked
import GoSem.Claim
import GoSem.ClaimJoined
import GoSem.ClaimMapViews
import Derived.JoinedTies
import Derived.KernelRfl
namespace Go.Proofs.Ytklaebcdbbgooaa
/- THE CELL 'sum', in the pinned program and in every row, IS THE sha256 OF THE DUMP (.gsa) THAT YtklaebcdbbgooaaProg.lean LOADS. Nothing in Lean hashes anything: it is a label: what it is worth is what the hold of that sum in a sandbox is worth. -/
noncomputable def Try.pinned : Pinned := { name := "ytklaebcdbbgooaa", sum := "ba503b2fcb76d4f2b742152a93d63869de6bbb22524d948444bdd2ff39939931", checked := Try.checked }
namespace Rows
def none {H : Type} : Left H := { results := [], args := [] }

/-- 'laws.FnExactAclBorn': WHATEVER THE INPUT: true; the input reads as it did. -/
def fnExactAclBornSpec : ChangeSpec := { name := "fnExactAclBorn", fn := fun _ => fun
  | [d1, d2] => { results := [.lit (.bool true)], args := [d1, d2] }
  | _ => none }
def fnExactAclBornRow : OpenClaim := { program := "ytklaebcdbbgooaa", sum := "ba503b2fcb76d4f2b742152a93d63869de6bbb22524d948444bdd2ff39939931", func := "loop.example/g00622/laws.FnExactAclBorn", spec := "fnExactAclBorn", apart := false }
def FnExactAclBornSaid : Prop := fnExactAclBornRow.holds Try.pinned (OpenSpec.ofChange fnExactAclBornSpec)

/-- ITS FALSE NEIGHBOUR: 'it returns false'. Refute it at one input. -/
def fnExactAclBornWrong : ChangeSpec := { name := "fnExactAclBorn", fn := fun _ => fun
  | [d1, d2] => { results := [.lit (.bool false)], args := [d1, d2] }
  | _ => none }
def FnExactAclBornWrongFalsely : Prop := fnExactAclBornRow.holds Try.pinned (OpenSpec.ofChange fnExactAclBornWrong)

/-- 'laws.FnExactAceRight': WHATEVER THE INPUT: true; the input reads as it did. -/
def fnExactAceRightSpec : ChangeSpec := { name := "fnExactAceRight", fn := fun _ => fun
  | [d] => { results := [.lit (.bool true)], args := [d] }
  | _ => none }
def fnExactAceRightRow : OpenClaim := { program := "ytklaebcdbbgooaa", sum := "ba503b2fcb76d4f2b742152a93d63869de6bbb22524d948444bdd2ff39939931", func := "loop.example/g00622/laws.FnExactAceRight", spec := "fnExactAceRight", apart := false }
def FnExactAceRightSaid : Prop := fnExactAceRightRow.holds Try.pinned (OpenSpec.ofChange fnExactAceRightSpec)

/-- ITS FALSE NEIGHBOUR: 'it returns false'. Refute it at one input. -/
def fnExactAceRightWrong : ChangeSpec := { name := "fnExactAceRight", fn := fun _ => fun
  | [d] => { results := [.lit (.bool false)], args := [d] }
  | _ => none }
def FnExactAceRightWrongFalsely : Prop := fnExactAceRightRow.holds Try.pinned (OpenSpec.ofChange fnExactAceRightWrong)

/-- 'laws.FnExactNfsRight': WHATEVER THE INPUT: true; the input reads as it did. -/
def fnExactNfsRightSpec : ChangeSpec := { name := "fnExactNfsRight", fn := fun _ => fun
  | [d] => { results := [.lit (.bool true)], args := [d] }
  | _ => none }
def fnExactNfsRightRow : OpenClaim := { program := "ytklaebcdbbgooaa", sum := "ba503b2fcb76d4f2b742152a93d63869de6bbb22524d948444bdd2ff39939931", func := "loop.example/g00622/laws.FnExactNfsRight", spec := "fnExactNfsRight", apart := false }
def FnExactNfsRightSaid : Prop := fnExactNfsRightRow.holds Try.pinned (OpenSpec.ofChange fnExactNfsRightSpec)

/-- ITS FALSE NEIGHBOUR: 'it returns false'. Refute it at one input. -/
def fnExactNfsRightWrong : ChangeSpec := { name := "fnExactNfsRight", fn := fun _ => fun
  | [d] => { results := [.lit (.bool false)], args := [d] }
  | _ => none }
def FnExactNfsRightWrongFalsely : Prop := fnExactNfsRightRow.holds Try.pinned (OpenSpec.ofChange fnExactNfsRightWrong)

/-- 'laws.FnExactNfsGives': WHATEVER THE INPUT: true; the input reads as it did. -/
def fnExactNfsGivesSpec : ChangeSpec := { name := "fnExactNfsGives", fn := fun _ => fun
  | [d1, d2, d3, d4] => { results := [.lit (.bool true)], args := [d1, d2, d3, d4] }
  | _ => none }
def fnExactNfsGivesRow : OpenClaim := { program := "ytklaebcdbbgooaa", sum := "ba503b2fcb76d4f2b742152a93d63869de6bbb22524d948444bdd2ff39939931", func := "loop.example/g00622/laws.FnExactNfsGives", spec := "fnExactNfsGives", unfollowed := true, recurses := true, apart := false }
def FnExactNfsGivesSaid : Prop := fnExactNfsGivesRow.holds Try.pinned (OpenSpec.ofChange fnExactNfsGivesSpec)

/-- ITS FALSE NEIGHBOUR: 'it returns false'. Refute it at one input. -/
def fnExactNfsGivesWrong : ChangeSpec := { name := "fnExactNfsGives", fn := fun _ => fun
  | [d1, d2, d3, d4] => { results := [.lit (.bool false)], args := [d1, d2, d3, d4] }
  | _ => none }
def FnExactNfsGivesWrongFalsely : Prop := fnExactNfsGivesRow.holds Try.pinned (OpenSpec.ofChange fnExactNfsGivesWrong)

/- THE SECOND FORM. 'bulk': how many values and letters a reading holds, each counted each time it is reached (what is shared counts as often as it is met; a slice's spare places count too). A statement '..UptoSaid' is the law's where the arguments, and the package variables that the reading takes, are together of bulk at most 1048576: NARROWER than '..Said'. Prove '..Said' where nothing that the law and all that it calls make is longer than what came in: it says more and counts as full. Else prove '..UptoSaid'. A law counts once. -/
mutual
def uptoBulk {H : Type} : DataW H → Nat
  | .lit (.string bytes) => bytes.length + 1
  | .lit _ => 1
  | .nil => 1
  | .ptr d => uptoBulk d + 1
  | .slice elems spare => uptoBulkAll elems + uptoBulkAll spare + 1
  | .agg parts => uptoBulkAll parts + 1
  | .iface _ d => uptoBulk d + 1
  | .map entries => uptoBulkEntries entries + 1
  | .held _ => 1
def uptoBulkAll {H : Type} : List (DataW H) → Nat
  | [] => 0
  | d :: r => uptoBulk d + uptoBulkAll r
def uptoBulkEntries {H : Type} : List (Lit × DataW H) → Nat
  | [] => 0
  | x :: r => uptoBulkEntry x + uptoBulkEntries r
def uptoBulkEntry {H : Type} : Lit × DataW H → Nat
  | (.string bytes, d) => bytes.length + uptoBulk d + 1
  | (_, d) => uptoBulk d + 1
 end
def uptoSmall : (H : Type) → List (DataW H) → Bool := fun _ ds => decide (uptoBulkAll ds ≤ 1048576)
def OpenSpec.upto (s : _root_.Go.ChangeSpec) : _root_.Go.OpenSpec := { _root_.Go.OpenSpec.ofChange s with cond := some uptoSmall }

/-- 'laws.FnExactAclBorn', WHERE WHAT IT READS IS OF BULK AT MOST 1048576: true; the input reads as it did. -/
def fnExactAclBornUptoRow : OpenClaim := { program := "ytklaebcdbbgooaa", sum := "ba503b2fcb76d4f2b742152a93d63869de6bbb22524d948444bdd2ff39939931", func := "loop.example/g00622/laws.FnExactAclBorn", spec := "fnExactAclBorn", apart := false, narrowed := true }
def FnExactAclBornUptoSaid : Prop := fnExactAclBornUptoRow.holds Try.pinned (OpenSpec.upto fnExactAclBornSpec)

/-- 'laws.FnExactAceRight', WHERE WHAT IT READS IS OF BULK AT MOST 1048576: true; the input reads as it did. -/
def fnExactAceRightUptoRow : OpenClaim := { program := "ytklaebcdbbgooaa", sum := "ba503b2fcb76d4f2b742152a93d63869de6bbb22524d948444bdd2ff39939931", func := "loop.example/g00622/laws.FnExactAceRight", spec := "fnExactAceRight", apart := false, narrowed := true }
def FnExactAceRightUptoSaid : Prop := fnExactAceRightUptoRow.holds Try.pinned (OpenSpec.upto fnExactAceRightSpec)

/-- 'laws.FnExactNfsRight', WHERE WHAT IT READS IS OF BULK AT MOST 1048576: true; the input reads as it did. -/
def fnExactNfsRightUptoRow : OpenClaim := { program := "ytklaebcdbbgooaa", sum := "ba503b2fcb76d4f2b742152a93d63869de6bbb22524d948444bdd2ff39939931", func := "loop.example/g00622/laws.FnExactNfsRight", spec := "fnExactNfsRight", apart := false, narrowed := true }
def FnExactNfsRightUptoSaid : Prop := fnExactNfsRightUptoRow.holds Try.pinned (OpenSpec.upto fnExactNfsRightSpec)

/-- 'laws.FnExactNfsGives', WHERE WHAT IT READS IS OF BULK AT MOST 1048576: true; the input reads as it did. -/
def fnExactNfsGivesUptoRow : OpenClaim := { program := "ytklaebcdbbgooaa", sum := "ba503b2fcb76d4f2b742152a93d63869de6bbb22524d948444bdd2ff39939931", func := "loop.example/g00622/laws.FnExactNfsGives", spec := "fnExactNfsGives", unfollowed := true, recurses := true, apart := false, narrowed := true }
def FnExactNfsGivesUptoSaid : Prop := fnExactNfsGivesUptoRow.holds Try.pinned (OpenSpec.upto fnExactNfsGivesSpec)

end Rows
end Go.Proofs.Ytklaebcdbbgooaa
