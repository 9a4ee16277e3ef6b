/-
  No cell of these rows narrows 'for every input' (looked for: loops, veiled, ifaces, maps, wideKeys, modest, calm, conditions, laid).
  DERIVED. THE GIVEN ROWS OF THIS SEAT. 4 by the template 'for every input the law returns true; each argument reads behind the call as it read before'; 0 by the template 'total and deterministic' (their statements: YtgojbilbkfilgaaTotals.lean).
  GIVEN WITH THE SEED: the statements are not yours to turn. If you find one false, say at which input.
  Laid BY PROGRAM, IN A SANDBOX (cutbox-rows.mjs): the forced cells as the released guide's own fill.sh prints them over the translation 251afd766f141974… (all of the seat's roots in one cut). By AI agents, Wed Nov 11 2026. No macro, syntax, notation, axiom, sorry.
-/
import Derived.Test.YtgojbilbkfilgaaChecked
import GoSem.Claim
import GoSem.ClaimJoined
import GoSem.ClaimMapViews
import Derived.JoinedTies
import Derived.KernelRfl
namespace Go.Proofs.Ytgojbilbkfilgaa
/- THE CELL 'sum', in the pinned program and in every row, IS THE sha256 OF THE DUMP (.gsa) THAT YtgojbilbkfilgaaProg.lean LOADS. Nothing in Lean hashes anything: it is a label: what it is worth is what the hold of that sum in a sandbox is worth. -/
noncomputable def Try.pinned : Pinned := { name := "ytgojbilbkfilgaa", sum := "251afd766f1419746a27f371550340677a1fc591cb7ea22622ed2e3d39a7ad15", checked := Try.checked }
namespace Rows
def none {H : Type} : Left H := { results := [], args := [] }

/-- 'laws.FnAcl': WHATEVER THE INPUT: true; the input reads as it did. -/
def fnAclSpec : ChangeSpec := { name := "fnAcl", fn := fun _ => fun
  | [d1, d2] => { results := [.lit (.bool true)], args := [d1, d2] }
  | _ => none }
def fnAclRow : OpenClaim := { program := "ytgojbilbkfilgaa", sum := "251afd766f1419746a27f371550340677a1fc591cb7ea22622ed2e3d39a7ad15", func := "loop.example/g00622/laws.FnAcl", spec := "fnAcl", unfollowed := true, recurses := true, apart := false }
def FnAclSaid : Prop := fnAclRow.holds Try.pinned (OpenSpec.ofChange fnAclSpec)

/-- ITS FALSE NEIGHBOUR: 'it returns false'. Refute it at one input. -/
def fnAclWrong : ChangeSpec := { name := "fnAcl", fn := fun _ => fun
  | [d1, d2] => { results := [.lit (.bool false)], args := [d1, d2] }
  | _ => none }
def FnAclWrongFalsely : Prop := fnAclRow.holds Try.pinned (OpenSpec.ofChange fnAclWrong)

/-- 'laws.FnMay': WHATEVER THE INPUT: true; the input reads as it did. -/
def fnMaySpec : ChangeSpec := { name := "fnMay", fn := fun _ => fun
  | [d1, d2] => { results := [.lit (.bool true)], args := [d1, d2] }
  | _ => none }
def fnMayRow : OpenClaim := { program := "ytgojbilbkfilgaa", sum := "251afd766f1419746a27f371550340677a1fc591cb7ea22622ed2e3d39a7ad15", func := "loop.example/g00622/laws.FnMay", spec := "fnMay", unfollowed := true, recurses := true, apart := false }
def FnMaySaid : Prop := fnMayRow.holds Try.pinned (OpenSpec.ofChange fnMaySpec)

/-- ITS FALSE NEIGHBOUR: 'it returns false'. Refute it at one input. -/
def fnMayWrong : ChangeSpec := { name := "fnMay", fn := fun _ => fun
  | [d1, d2] => { results := [.lit (.bool false)], args := [d1, d2] }
  | _ => none }
def FnMayWrongFalsely : Prop := fnMayRow.holds Try.pinned (OpenSpec.ofChange fnMayWrong)

/-- 'laws.FnTrim': WHATEVER THE INPUT: true; the input reads as it did. -/
def fnTrimSpec : ChangeSpec := { name := "fnTrim", fn := fun _ => fun
  | [d1, d2] => { results := [.lit (.bool true)], args := [d1, d2] }
  | _ => none }
def fnTrimRow : OpenClaim := { program := "ytgojbilbkfilgaa", sum := "251afd766f1419746a27f371550340677a1fc591cb7ea22622ed2e3d39a7ad15", func := "loop.example/g00622/laws.FnTrim", spec := "fnTrim", unfollowed := true, recurses := true, apart := false }
def FnTrimSaid : Prop := fnTrimRow.holds Try.pinned (OpenSpec.ofChange fnTrimSpec)

/-- ITS FALSE NEIGHBOUR: 'it returns false'. Refute it at one input. -/
def fnTrimWrong : ChangeSpec := { name := "fnTrim", fn := fun _ => fun
  | [d1, d2] => { results := [.lit (.bool false)], args := [d1, d2] }
  | _ => none }
def FnTrimWrongFalsely : Prop := fnTrimRow.holds Try.pinned (OpenSpec.ofChange fnTrimWrong)

/-- 'laws.FnNfsBorn': WHATEVER THE INPUT: true; the input reads as it did. -/
def fnNfsBornSpec : ChangeSpec := { name := "fnNfsBorn", fn := fun _ => fun
  | [d] => { results := [.lit (.bool true)], args := [d] }
  | _ => none }
def fnNfsBornRow : OpenClaim := { program := "ytgojbilbkfilgaa", sum := "251afd766f1419746a27f371550340677a1fc591cb7ea22622ed2e3d39a7ad15", func := "loop.example/g00622/laws.FnNfsBorn", spec := "fnNfsBorn", apart := false }
def FnNfsBornSaid : Prop := fnNfsBornRow.holds Try.pinned (OpenSpec.ofChange fnNfsBornSpec)

/-- ITS FALSE NEIGHBOUR: 'it returns false'. Refute it at one input. -/
def fnNfsBornWrong : ChangeSpec := { name := "fnNfsBorn", fn := fun _ => fun
  | [d] => { results := [.lit (.bool false)], args := [d] }
  | _ => none }
def FnNfsBornWrongFalsely : Prop := fnNfsBornRow.holds Try.pinned (OpenSpec.ofChange fnNfsBornWrong)

/- THE SECOND FORM. 'bulk': how many values and letters a reading holds, each counted each time it is reached (what is shared counts as often as it is met; a slice's spare places count too). A statement '..UptoSaid' is the law's where the arguments, and the package variables that the reading takes, are together of bulk at most 1048576: NARROWER than '..Said'. Prove '..Said' where nothing that the law and all that it calls make is longer than what came in: it says more and counts as full. Else prove '..UptoSaid'. A law counts once. -/
mutual
def uptoBulk {H : Type} : DataW H → Nat
  | .lit (.string bytes) => bytes.length + 1
  | .lit _ => 1
  | .nil => 1
  | .ptr d => uptoBulk d + 1
  | .slice elems spare => uptoBulkAll elems + uptoBulkAll spare + 1
  | .agg parts => uptoBulkAll parts + 1
  | .iface _ d => uptoBulk d + 1
  | .map entries => uptoBulkEntries entries + 1
  | .held _ => 1
def uptoBulkAll {H : Type} : List (DataW H) → Nat
  | [] => 0
  | d :: r => uptoBulk d + uptoBulkAll r
def uptoBulkEntries {H : Type} : List (Lit × DataW H) → Nat
  | [] => 0
  | x :: r => uptoBulkEntry x + uptoBulkEntries r
def uptoBulkEntry {H : Type} : Lit × DataW H → Nat
  | (.string bytes, d) => bytes.length + uptoBulk d + 1
  | (_, d) => uptoBulk d + 1
 end
def uptoSmall : (H : Type) → List (DataW H) → Bool := fun _ ds => decide (uptoBulkAll ds ≤ 1048576)
def OpenSpec.upto (s : _root_.Go.ChangeSpec) : _root_.Go.OpenSpec := { _root_.Go.OpenSpec.ofChange s with cond := some uptoSmall }

/-- 'laws.FnAcl', WHERE WHAT IT READS IS OF BULK AT MOST 1048576: true; the input reads as it did. -/
def fnAclUptoRow : OpenClaim := { program := "ytgojbilbkfilgaa", sum := "251afd766f1419746a27f371550340677a1fc591cb7ea22622ed2e3d39a7ad15", func := "loop.example/g00622/laws.FnAcl", spec := "fnAcl", unfollowed := true, recurses := true, apart := false, narrowed := true }
def FnAclUptoSaid : Prop := fnAclUptoRow.holds Try.pinned (OpenSpec.upto fnAclSpec)

/-- 'laws.FnMay', WHERE WHAT IT READS IS OF BULK AT MOST 1048576: true; the input reads as it did. -/
def fnMayUptoRow : OpenClaim := { program := "ytgojbilbkfilgaa", sum := "251afd766f1419746a27f371550340677a1fc591cb7ea22622ed2e3d39a7ad15", func := "loop.example/g00622/laws.FnMay", spec := "fnMay", unfollowed := true, recurses := true, apart := false, narrowed := true }
def FnMayUptoSaid : Prop := fnMayUptoRow.holds Try.pinned (OpenSpec.upto fnMaySpec)

/-- 'laws.FnTrim', WHERE WHAT IT READS IS OF BULK AT MOST 1048576: true; the input reads as it did. -/
def fnTrimUptoRow : OpenClaim := { program := "ytgojbilbkfilgaa", sum := "251afd766f1419746a27f371550340677a1fc591cb7ea22622ed2e3d39a7ad15", func := "loop.example/g00622/laws.FnTrim", spec := "fnTrim", unfollowed := true, recurses := true, apart := false, narrowed := true }
def FnTrimUptoSaid : Prop := fnTrimUptoRow.holds Try.pinned (OpenSpec.upto fnTrimSpec)

/-- 'laws.FnNfsBorn', WHERE WHAT IT READS IS OF BULK AT MOST 1048576: true; the input reads as it did. -/
def fnNfsBornUptoRow : OpenClaim := { program := "ytgojbilbkfilgaa", sum := "251afd766f1419746a27f371550340677a1fc591cb7ea22622ed2e3d39a7ad15", func := "loop.example/g00622/laws.FnNfsBorn", spec := "fnNfsBorn", apart := false, narrowed := true }
def FnNfsBornUptoSaid : Prop := fnNfsBornUptoRow.holds Try.pinned (OpenSpec.upto fnNfsBornSpec)

end Rows
end Go.Proofs.Ytgojbilbkfilgaa
