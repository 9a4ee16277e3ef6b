/-
  No cell of these rows narrows 'for every input' (looked for: loops, veiled, ifaces, maps, wideKeys, modest, calm, conditions, laid).
  DERIVED. THE GIVEN ROWS OF THIS SEAT. 4 by the template 'for every input the law returns true; each argument reads behind the call as it read before'; 0 by the template 'total and deterministic' (their statements: YtklaebcdbbgooabTotals.lean).
  GIVEN WITH THE SEED: the statements are not yours to turn. If you find one false, say at which input.
  Laid BY PROGRAM, IN A SANDBOX (cutbox-rows.mjs): the forced cells as the released guide's own fill.sh prints them over the translation cd53dd89859423d5… (all of the seat's roots in one cut). By AI agents, Wed Nov 11 2026. No macro, syntax, notation, axiom, sorry.
-/
import Derived.Test.YtklaebcdbbgooabChecked
import GoSem.Claim
import GoSem.ClaimJoined
import GoSem.ClaimMapViews
import Derived.JoinedTies
import Derived.KernelRfl
namespace Go.Proofs.Ytklaebcdbbgooab
/- THE CELL 'sum', in the pinned program and in every row, IS THE sha256 OF THE DUMP (.gsa) THAT YtklaebcdbbgooabProg.lean LOADS. Nothing in Lean hashes anything: it is a label: what it is worth is what the hold of that sum in a sandbox is worth. -/
noncomputable def Try.pinned : Pinned := { name := "ytklaebcdbbgooab", sum := "cd53dd89859423d558004ae78da3fcf961b3a6917ec51f2f5205d46b1bf9034f", checked := Try.checked }
namespace Rows
def none {H : Type} : Left H := { results := [], args := [] }

/-- 'laws.FnExactNfsBorn': WHATEVER THE INPUT: true; the input reads as it did. -/
def fnExactNfsBornSpec : ChangeSpec := { name := "fnExactNfsBorn", fn := fun _ => fun
  | [d1, d2] => { results := [.lit (.bool true)], args := [d1, d2] }
  | _ => none }
def fnExactNfsBornRow : OpenClaim := { program := "ytklaebcdbbgooab", sum := "cd53dd89859423d558004ae78da3fcf961b3a6917ec51f2f5205d46b1bf9034f", func := "loop.example/g00622/laws.FnExactNfsBorn", spec := "fnExactNfsBorn", apart := false }
def FnExactNfsBornSaid : Prop := fnExactNfsBornRow.holds Try.pinned (OpenSpec.ofChange fnExactNfsBornSpec)

/-- ITS FALSE NEIGHBOUR: 'it returns false'. Refute it at one input. -/
def fnExactNfsBornWrong : ChangeSpec := { name := "fnExactNfsBorn", fn := fun _ => fun
  | [d1, d2] => { results := [.lit (.bool false)], args := [d1, d2] }
  | _ => none }
def FnExactNfsBornWrongFalsely : Prop := fnExactNfsBornRow.holds Try.pinned (OpenSpec.ofChange fnExactNfsBornWrong)

/-- 'laws.FnExactAceAdd': WHATEVER THE INPUT: true; the input reads as it did. -/
def fnExactAceAddSpec : ChangeSpec := { name := "fnExactAceAdd", fn := fun _ => fun
  | [d1, d2, d3] => { results := [.lit (.bool true)], args := [d1, d2, d3] }
  | _ => none }
def fnExactAceAddRow : OpenClaim := { program := "ytklaebcdbbgooab", sum := "cd53dd89859423d558004ae78da3fcf961b3a6917ec51f2f5205d46b1bf9034f", func := "loop.example/g00622/laws.FnExactAceAdd", spec := "fnExactAceAdd", apart := false }
def FnExactAceAddSaid : Prop := fnExactAceAddRow.holds Try.pinned (OpenSpec.ofChange fnExactAceAddSpec)

/-- ITS FALSE NEIGHBOUR: 'it returns false'. Refute it at one input. -/
def fnExactAceAddWrong : ChangeSpec := { name := "fnExactAceAdd", fn := fun _ => fun
  | [d1, d2, d3] => { results := [.lit (.bool false)], args := [d1, d2, d3] }
  | _ => none }
def FnExactAceAddWrongFalsely : Prop := fnExactAceAddRow.holds Try.pinned (OpenSpec.ofChange fnExactAceAddWrong)

/-- 'laws.FnExactAceDrop': WHATEVER THE INPUT: true; the input reads as it did. -/
def fnExactAceDropSpec : ChangeSpec := { name := "fnExactAceDrop", fn := fun _ => fun
  | [d1, d2] => { results := [.lit (.bool true)], args := [d1, d2] }
  | _ => none }
def fnExactAceDropRow : OpenClaim := { program := "ytklaebcdbbgooab", sum := "cd53dd89859423d558004ae78da3fcf961b3a6917ec51f2f5205d46b1bf9034f", func := "loop.example/g00622/laws.FnExactAceDrop", spec := "fnExactAceDrop", apart := false }
def FnExactAceDropSaid : Prop := fnExactAceDropRow.holds Try.pinned (OpenSpec.ofChange fnExactAceDropSpec)

/-- ITS FALSE NEIGHBOUR: 'it returns false'. Refute it at one input. -/
def fnExactAceDropWrong : ChangeSpec := { name := "fnExactAceDrop", fn := fun _ => fun
  | [d1, d2] => { results := [.lit (.bool false)], args := [d1, d2] }
  | _ => none }
def FnExactAceDropWrongFalsely : Prop := fnExactAceDropRow.holds Try.pinned (OpenSpec.ofChange fnExactAceDropWrong)

/-- 'laws.FnExactNfsTrim': WHATEVER THE INPUT: true; the input reads as it did. -/
def fnExactNfsTrimSpec : ChangeSpec := { name := "fnExactNfsTrim", fn := fun _ => fun
  | [d] => { results := [.lit (.bool true)], args := [d] }
  | _ => none }
def fnExactNfsTrimRow : OpenClaim := { program := "ytklaebcdbbgooab", sum := "cd53dd89859423d558004ae78da3fcf961b3a6917ec51f2f5205d46b1bf9034f", func := "loop.example/g00622/laws.FnExactNfsTrim", spec := "fnExactNfsTrim", unfollowed := true, recurses := true, apart := false }
def FnExactNfsTrimSaid : Prop := fnExactNfsTrimRow.holds Try.pinned (OpenSpec.ofChange fnExactNfsTrimSpec)

/-- ITS FALSE NEIGHBOUR: 'it returns false'. Refute it at one input. -/
def fnExactNfsTrimWrong : ChangeSpec := { name := "fnExactNfsTrim", fn := fun _ => fun
  | [d] => { results := [.lit (.bool false)], args := [d] }
  | _ => none }
def FnExactNfsTrimWrongFalsely : Prop := fnExactNfsTrimRow.holds Try.pinned (OpenSpec.ofChange fnExactNfsTrimWrong)

/- THE SECOND FORM. 'bulk': how many values and letters a reading holds, each counted each time it is reached (what is shared counts as often as it is met; a slice's spare places count too). A statement '..UptoSaid' is the law's where the arguments, and the package variables that the reading takes, are together of bulk at most 1048576: NARROWER than '..Said'. Prove '..Said' where nothing that the law and all that it calls make is longer than what came in: it says more and counts as full. Else prove '..UptoSaid'. A law counts once. -/
mutual
def uptoBulk {H : Type} : DataW H → Nat
  | .lit (.string bytes) => bytes.length + 1
  | .lit _ => 1
  | .nil => 1
  | .ptr d => uptoBulk d + 1
  | .slice elems spare => uptoBulkAll elems + uptoBulkAll spare + 1
  | .agg parts => uptoBulkAll parts + 1
  | .iface _ d => uptoBulk d + 1
  | .map entries => uptoBulkEntries entries + 1
  | .held _ => 1
def uptoBulkAll {H : Type} : List (DataW H) → Nat
  | [] => 0
  | d :: r => uptoBulk d + uptoBulkAll r
def uptoBulkEntries {H : Type} : List (Lit × DataW H) → Nat
  | [] => 0
  | x :: r => uptoBulkEntry x + uptoBulkEntries r
def uptoBulkEntry {H : Type} : Lit × DataW H → Nat
  | (.string bytes, d) => bytes.length + uptoBulk d + 1
  | (_, d) => uptoBulk d + 1
 end
def uptoSmall : (H : Type) → List (DataW H) → Bool := fun _ ds => decide (uptoBulkAll ds ≤ 1048576)
def OpenSpec.upto (s : _root_.Go.ChangeSpec) : _root_.Go.OpenSpec := { _root_.Go.OpenSpec.ofChange s with cond := some uptoSmall }

/-- 'laws.FnExactNfsBorn', WHERE WHAT IT READS IS OF BULK AT MOST 1048576: true; the input reads as it did. -/
def fnExactNfsBornUptoRow : OpenClaim := { program := "ytklaebcdbbgooab", sum := "cd53dd89859423d558004ae78da3fcf961b3a6917ec51f2f5205d46b1bf9034f", func := "loop.example/g00622/laws.FnExactNfsBorn", spec := "fnExactNfsBorn", apart := false, narrowed := true }
def FnExactNfsBornUptoSaid : Prop := fnExactNfsBornUptoRow.holds Try.pinned (OpenSpec.upto fnExactNfsBornSpec)

/-- 'laws.FnExactAceAdd', WHERE WHAT IT READS IS OF BULK AT MOST 1048576: true; the input reads as it did. -/
def fnExactAceAddUptoRow : OpenClaim := { program := "ytklaebcdbbgooab", sum := "cd53dd89859423d558004ae78da3fcf961b3a6917ec51f2f5205d46b1bf9034f", func := "loop.example/g00622/laws.FnExactAceAdd", spec := "fnExactAceAdd", apart := false, narrowed := true }
def FnExactAceAddUptoSaid : Prop := fnExactAceAddUptoRow.holds Try.pinned (OpenSpec.upto fnExactAceAddSpec)

/-- 'laws.FnExactAceDrop', WHERE WHAT IT READS IS OF BULK AT MOST 1048576: true; the input reads as it did. -/
def fnExactAceDropUptoRow : OpenClaim := { program := "ytklaebcdbbgooab", sum := "cd53dd89859423d558004ae78da3fcf961b3a6917ec51f2f5205d46b1bf9034f", func := "loop.example/g00622/laws.FnExactAceDrop", spec := "fnExactAceDrop", apart := false, narrowed := true }
def FnExactAceDropUptoSaid : Prop := fnExactAceDropUptoRow.holds Try.pinned (OpenSpec.upto fnExactAceDropSpec)

/-- 'laws.FnExactNfsTrim', WHERE WHAT IT READS IS OF BULK AT MOST 1048576: true; the input reads as it did. -/
def fnExactNfsTrimUptoRow : OpenClaim := { program := "ytklaebcdbbgooab", sum := "cd53dd89859423d558004ae78da3fcf961b3a6917ec51f2f5205d46b1bf9034f", func := "loop.example/g00622/laws.FnExactNfsTrim", spec := "fnExactNfsTrim", unfollowed := true, recurses := true, apart := false, narrowed := true }
def FnExactNfsTrimUptoSaid : Prop := fnExactNfsTrimUptoRow.holds Try.pinned (OpenSpec.upto fnExactNfsTrimSpec)

end Rows
end Go.Proofs.Ytklaebcdbbgooab
