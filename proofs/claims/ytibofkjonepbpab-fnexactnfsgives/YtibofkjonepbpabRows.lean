/-
  No cell of these rows narrows 'for every input' (looked for: loops, veiled, ifaces, maps, wideKeys, modest, calm, conditions, laid).
  DERIVED. THE GIVEN ROWS OF THIS SEAT. 3 by the template 'for every input the law returns true; each argument reads behind the call as it read before'; 0 by the template 'total and deterministic' (their statements: YtibofkjonepbpabTotals.lean).
  GIVEN WITH THE SEED: the statements are not yours to turn. If you find one false, say at which input.
  Laid BY PROGRAM, IN A SANDBOX (cutbox-rows.mjs): the forced cells as the released guide's own fill.sh prints them over the translation a692efb6f07862e5… (all of the seat's roots in one cut). By AI agents, Wed Nov 11 2026. No macro, syntax, notation, axiom, sorry.
-/
import Derived.Test.YtibofkjonepbpabChecked
import GoSem.Claim
import GoSem.ClaimJoined
import GoSem.ClaimMapViews
import Derived.JoinedTies
import Derived.KernelRfl
namespace Go.Proofs.Ytibofkjonepbpab
/- THE CELL 'sum', in the pinned program and in every row, IS THE sha256 OF THE DUMP (.gsa) THAT YtibofkjonepbpabProg.lean LOADS. Nothing in Lean hashes anything: it is a label: what it is worth is what the hold of that sum in a sandbox is worth. -/
noncomputable def Try.pinned : Pinned := { name := "ytibofkjonepbpab", sum := "a692efb6f07862e5bf891103cd43f785f60aaa5a229e7b9f49111061ecd4a35d", checked := Try.checked }
namespace Rows
def none {H : Type} : Left H := { results := [], args := [] }

/-- 'laws.FnNfsBorn': WHATEVER THE INPUT: true; the input reads as it did. -/
def fnNfsBornSpec : ChangeSpec := { name := "fnNfsBorn", fn := fun _ => fun
  | [d] => { results := [.lit (.bool true)], args := [d] }
  | _ => none }
def fnNfsBornRow : OpenClaim := { program := "ytibofkjonepbpab", sum := "a692efb6f07862e5bf891103cd43f785f60aaa5a229e7b9f49111061ecd4a35d", func := "loop.example/g00622/laws.FnNfsBorn", spec := "fnNfsBorn", apart := false }
def FnNfsBornSaid : Prop := fnNfsBornRow.holds Try.pinned (OpenSpec.ofChange fnNfsBornSpec)

/-- ITS FALSE NEIGHBOUR: 'it returns false'. Refute it at one input. -/
def fnNfsBornWrong : ChangeSpec := { name := "fnNfsBorn", fn := fun _ => fun
  | [d] => { results := [.lit (.bool false)], args := [d] }
  | _ => none }
def FnNfsBornWrongFalsely : Prop := fnNfsBornRow.holds Try.pinned (OpenSpec.ofChange fnNfsBornWrong)

/-- 'laws.FnExactNfsGives': WHATEVER THE INPUT: true; the input reads as it did. -/
def fnExactNfsGivesSpec : ChangeSpec := { name := "fnExactNfsGives", fn := fun _ => fun
  | [d1, d2, d3, d4] => { results := [.lit (.bool true)], args := [d1, d2, d3, d4] }
  | _ => none }
def fnExactNfsGivesRow : OpenClaim := { program := "ytibofkjonepbpab", sum := "a692efb6f07862e5bf891103cd43f785f60aaa5a229e7b9f49111061ecd4a35d", func := "loop.example/g00622/laws.FnExactNfsGives", spec := "fnExactNfsGives", unfollowed := true, recurses := true, apart := false }
def FnExactNfsGivesSaid : Prop := fnExactNfsGivesRow.holds Try.pinned (OpenSpec.ofChange fnExactNfsGivesSpec)

/-- ITS FALSE NEIGHBOUR: 'it returns false'. Refute it at one input. -/
def fnExactNfsGivesWrong : ChangeSpec := { name := "fnExactNfsGives", fn := fun _ => fun
  | [d1, d2, d3, d4] => { results := [.lit (.bool false)], args := [d1, d2, d3, d4] }
  | _ => none }
def FnExactNfsGivesWrongFalsely : Prop := fnExactNfsGivesRow.holds Try.pinned (OpenSpec.ofChange fnExactNfsGivesWrong)

/-- 'laws.FnExactNfsMay': WHATEVER THE INPUT: true; the input reads as it did. -/
def fnExactNfsMaySpec : ChangeSpec := { name := "fnExactNfsMay", fn := fun _ => fun
  | [d1, d2, d3, d4, d5] => { results := [.lit (.bool true)], args := [d1, d2, d3, d4, d5] }
  | _ => none }
def fnExactNfsMayRow : OpenClaim := { program := "ytibofkjonepbpab", sum := "a692efb6f07862e5bf891103cd43f785f60aaa5a229e7b9f49111061ecd4a35d", func := "loop.example/g00622/laws.FnExactNfsMay", spec := "fnExactNfsMay", unfollowed := true, recurses := true, apart := false }
def FnExactNfsMaySaid : Prop := fnExactNfsMayRow.holds Try.pinned (OpenSpec.ofChange fnExactNfsMaySpec)

/-- ITS FALSE NEIGHBOUR: 'it returns false'. Refute it at one input. -/
def fnExactNfsMayWrong : ChangeSpec := { name := "fnExactNfsMay", fn := fun _ => fun
  | [d1, d2, d3, d4, d5] => { results := [.lit (.bool false)], args := [d1, d2, d3, d4, d5] }
  | _ => none }
def FnExactNfsMayWrongFalsely : Prop := fnExactNfsMayRow.holds Try.pinned (OpenSpec.ofChange fnExactNfsMayWrong)

/- THE SECOND FORM. 'bulk': how many values and letters a reading holds, each counted each time it is reached (what is shared counts as often as it is met; a slice's spare places count too). A statement '..UptoSaid' is the law's where the arguments, and the package variables that the reading takes, are together of bulk at most 1048576: NARROWER than '..Said'. Prove '..Said' where nothing that the law and all that it calls make is longer than what came in: it says more and counts as full. Else prove '..UptoSaid'. A law counts once. -/
mutual
def uptoBulk {H : Type} : DataW H → Nat
  | .lit (.string bytes) => bytes.length + 1
  | .lit _ => 1
  | .nil => 1
  | .ptr d => uptoBulk d + 1
  | .slice elems spare => uptoBulkAll elems + uptoBulkAll spare + 1
  | .agg parts => uptoBulkAll parts + 1
  | .iface _ d => uptoBulk d + 1
  | .map entries => uptoBulkEntries entries + 1
  | .held _ => 1
def uptoBulkAll {H : Type} : List (DataW H) → Nat
  | [] => 0
  | d :: r => uptoBulk d + uptoBulkAll r
def uptoBulkEntries {H : Type} : List (Lit × DataW H) → Nat
  | [] => 0
  | x :: r => uptoBulkEntry x + uptoBulkEntries r
def uptoBulkEntry {H : Type} : Lit × DataW H → Nat
  | (.string bytes, d) => bytes.length + uptoBulk d + 1
  | (_, d) => uptoBulk d + 1
 end
def uptoSmall : (H : Type) → List (DataW H) → Bool := fun _ ds => decide (uptoBulkAll ds ≤ 1048576)
def OpenSpec.upto (s : _root_.Go.ChangeSpec) : _root_.Go.OpenSpec := { _root_.Go.OpenSpec.ofChange s with cond := some uptoSmall }

/-- 'laws.FnNfsBorn', WHERE WHAT IT READS IS OF BULK AT MOST 1048576: true; the input reads as it did. -/
def fnNfsBornUptoRow : OpenClaim := { program := "ytibofkjonepbpab", sum := "a692efb6f07862e5bf891103cd43f785f60aaa5a229e7b9f49111061ecd4a35d", func := "loop.example/g00622/laws.FnNfsBorn", spec := "fnNfsBorn", apart := false, narrowed := true }
def FnNfsBornUptoSaid : Prop := fnNfsBornUptoRow.holds Try.pinned (OpenSpec.upto fnNfsBornSpec)

/-- 'laws.FnExactNfsGives', WHERE WHAT IT READS IS OF BULK AT MOST 1048576: true; the input reads as it did. -/
def fnExactNfsGivesUptoRow : OpenClaim := { program := "ytibofkjonepbpab", sum := "a692efb6f07862e5bf891103cd43f785f60aaa5a229e7b9f49111061ecd4a35d", func := "loop.example/g00622/laws.FnExactNfsGives", spec := "fnExactNfsGives", unfollowed := true, recurses := true, apart := false, narrowed := true }
def FnExactNfsGivesUptoSaid : Prop := fnExactNfsGivesUptoRow.holds Try.pinned (OpenSpec.upto fnExactNfsGivesSpec)

/-- 'laws.FnExactNfsMay', WHERE WHAT IT READS IS OF BULK AT MOST 1048576: true; the input reads as it did. -/
def fnExactNfsMayUptoRow : OpenClaim := { program := "ytibofkjonepbpab", sum := "a692efb6f07862e5bf891103cd43f785f60aaa5a229e7b9f49111061ecd4a35d", func := "loop.example/g00622/laws.FnExactNfsMay", spec := "fnExactNfsMay", unfollowed := true, recurses := true, apart := false, narrowed := true }
def FnExactNfsMayUptoSaid : Prop := fnExactNfsMayUptoRow.holds Try.pinned (OpenSpec.upto fnExactNfsMaySpec)

end Rows
end Go.Proofs.Ytibofkjonepbpab
