/-
  NARROWER THAN 'FOR EVERY INPUT', by the rows' own cells (each row's printed sentence says how): FnExactWalk: ifaces, laid · FnExactReach: ifaces, laid · FnExactAccess: ifaces, laid · FnExactStat: ifaces, laid · FnExactReadDir: ifaces, laid.
  DERIVED. THE GIVEN ROWS OF THIS SEAT. 5 by the template 'for every input the law returns true; each argument reads behind the call as it read before'; 0 by the template 'total and deterministic' (their statements: YtabfdidnjibdeaaGreatDoorTotals.lean).
  GIVEN WITH THE SEED: the statements are not yours to turn. If you find one false, say at which input.
  Laid BY PROGRAM, IN A SANDBOX (cutbox-rows.mjs): the forced cells as the released guide's own fill.sh prints them over the translation 12703b327544d960… (all of the seat's roots in one cut). By AI agents, Wed Nov 11 2026. No macro, syntax, notation, axiom, sorry.
-/
import Derived.Test.YtabfdidnjibdeaaGreatDoorChecked
import GoSem.PinnedTables
import GoSem.Claim
import GoSem.ClaimJoined
import GoSem.ClaimMapViews
import Derived.JoinedTies
import Derived.KernelRfl
namespace Go.Proofs.YtabfdidnjibdeaaGreatDoor
/- THE CELL 'sum', in the pinned program and in every row, IS THE sha256 OF THE DUMP (.gsa) THAT YtabfdidnjibdeaaGreatDoorProg.lean LOADS. Nothing in Lean hashes anything: it is a label: what it is worth is what the hold of that sum in a sandbox is worth. -/
noncomputable def Tryz.pinned : Pinned := { name := "ytabfdidnjibdeaagreatdoor", sum := "12703b327544d960880ae32bcecca9b53dd450e25fa25a573fe45d78e9f8fc93", checked := Tryz.checked }
namespace Rows
def none {H : Type} : Left H := { results := [], args := [] }

/- WHAT THE LISTED PACKAGE-LEVEL VARIABLES READ AS WHEN THE CALL BEGINS. Each datum BY PROGRAM (the guide's laid-datum.mjs) off the statement by which the dump's own 'gosem.cut.vars' lays the variable. In a bare row this is a premise. The card (YtabfdidnjibdeaaGreatDoorCards.lean) ties it to the program's text. -/
def laid_unicode_utf8_acceptRanges {H : Type} : DataW H := .agg [.agg [.lit (.int .u8 128), .lit (.int .u8 191)], .agg [.lit (.int .u8 160), .lit (.int .u8 191)], .agg [.lit (.int .u8 128), .lit (.int .u8 159)], .agg [.lit (.int .u8 144), .lit (.int .u8 191)], .agg [.lit (.int .u8 128), .lit (.int .u8 143)], .agg [.lit (.int .u8 0), .lit (.int .u8 0)], .agg [.lit (.int .u8 0), .lit (.int .u8 0)], .agg [.lit (.int .u8 0), .lit (.int .u8 0)], .agg [.lit (.int .u8 0), .lit (.int .u8 0)], .agg [.lit (.int .u8 0), .lit (.int .u8 0)], .agg [.lit (.int .u8 0), .lit (.int .u8 0)], .agg [.lit (.int .u8 0), .lit (.int .u8 0)], .agg [.lit (.int .u8 0), .lit (.int .u8 0)], .agg [.lit (.int .u8 0), .lit (.int .u8 0)], .agg [.lit (.int .u8 0), .lit (.int .u8 0)], .agg [.lit (.int .u8 0), .lit (.int .u8 0)]]
def laid_loop_example_g00622_impl_errNoDirectory {H : Type} : DataW H := .iface "*errors.errorString" (.ptr (.agg [.lit (.string [119, 97, 108, 107, 58, 32, 111, 110, 101, 32, 105, 115, 32, 97, 116, 32, 110, 111, 32, 100, 105, 114, 101, 99, 116, 111, 114, 121])]))
def laid_loop_example_g00622_impl_errNotLetIn {H : Type} : DataW H := .iface "*errors.errorString" (.ptr (.agg [.lit (.string [119, 97, 108, 107, 58, 32, 116, 104, 101, 32, 100, 105, 114, 101, 99, 116, 111, 114, 121, 32, 100, 111, 101, 115, 32, 110, 111, 116, 32, 108, 101, 116, 32, 111, 110, 101, 32, 105, 110])]))
def laid_loop_example_g00622_impl_errNoEntry {H : Type} : DataW H := .iface "*errors.errorString" (.ptr (.agg [.lit (.string [119, 97, 108, 107, 58, 32, 110, 111, 32, 101, 110, 116, 114, 121, 32, 104, 97, 115, 32, 116, 104, 97, 116, 32, 110, 97, 109, 101, 44, 32, 97, 110, 100, 32, 116, 104, 101, 114, 101, 32, 105, 115, 32, 97, 32, 102, 117, 114, 116, 104, 101, 114, 32, 112, 97, 114, 116])]))
def laid_loop_example_g00622_impl_errManyLinks {H : Type} : DataW H := .iface "*errors.errorString" (.ptr (.agg [.lit (.string [119, 97, 108, 107, 58, 32, 109, 111, 114, 101, 32, 108, 105, 110, 107, 115, 32, 116, 104, 97, 110, 32, 109, 97, 121, 32, 98, 101, 32, 102, 111, 108, 108, 111, 119, 101, 100])]))
/-- One of Go's own tables, pinned by name: the form's constant. -/
def laid_unicode_utf8_first : DataW Unit := Go.Pinned.utf8First

/-- 'laws.FnExactWalk': WHATEVER THE INPUT: true; the input reads as it did. -/
def fnExactWalkSpec : ChangeSpec := { name := "fnExactWalk", vars := ["loop.example/g00622/impl.errManyLinks", "loop.example/g00622/impl.errNoDirectory", "loop.example/g00622/impl.errNotLetIn", "loop.example/g00622/impl.errNoEntry"], fn := fun _ => fun
  | [d1, d2, d3, d4, g1, g2, g3, g4] => { results := [.lit (.bool true)], args := [d1, d2, d3, d4], vars := [g1, g2, g3, g4] }
  | _ => none }
def fnExactWalkRow : OpenClaim := { program := "ytabfdidnjibdeaagreatdoor", sum := "12703b327544d960880ae32bcecca9b53dd450e25fa25a573fe45d78e9f8fc93", func := "loop.example/g00622/laws.FnExactWalk", spec := "fnExactWalk", inPlace := ["internal/bytealg.IndexByteString", "internal/bytealg.IndexString", "internal/bytealg.CountString", "internal/reflectlite.TypeOf"], unfollowed := true, recurses := true, named := ["internal/bytealg.MaxLen", "unicode/utf8.first", "unicode/utf8.acceptRanges", "loop.example/g00622/impl.errManyLinks", "loop.example/g00622/impl.errNoDirectory", "loop.example/g00622/impl.errNotLetIn", "loop.example/g00622/impl.errNoEntry"], ifaces := true, apart := false, laid := [("unicode/utf8.acceptRanges", laid_unicode_utf8_acceptRanges), ("loop.example/g00622/impl.errNoDirectory", laid_loop_example_g00622_impl_errNoDirectory), ("loop.example/g00622/impl.errNotLetIn", laid_loop_example_g00622_impl_errNotLetIn), ("loop.example/g00622/impl.errNoEntry", laid_loop_example_g00622_impl_errNoEntry), ("loop.example/g00622/impl.errManyLinks", laid_loop_example_g00622_impl_errManyLinks), ("unicode/utf8.first", laid_unicode_utf8_first)] }
def FnExactWalkSaid : Prop := fnExactWalkRow.holds Tryz.pinned (OpenSpec.ofChange fnExactWalkSpec)

/-- ITS FALSE NEIGHBOUR: 'it returns false'. Refute it at one input. -/
def fnExactWalkWrong : ChangeSpec := { name := "fnExactWalk", vars := ["loop.example/g00622/impl.errManyLinks", "loop.example/g00622/impl.errNoDirectory", "loop.example/g00622/impl.errNotLetIn", "loop.example/g00622/impl.errNoEntry"], fn := fun _ => fun
  | [d1, d2, d3, d4, g1, g2, g3, g4] => { results := [.lit (.bool false)], args := [d1, d2, d3, d4], vars := [g1, g2, g3, g4] }
  | _ => none }
def FnExactWalkWrongFalsely : Prop := fnExactWalkRow.holds Tryz.pinned (OpenSpec.ofChange fnExactWalkWrong)

/-- 'laws.FnExactReach': WHATEVER THE INPUT: true; the input reads as it did. -/
def fnExactReachSpec : ChangeSpec := { name := "fnExactReach", vars := ["loop.example/g00622/impl.errManyLinks", "loop.example/g00622/impl.errNoDirectory", "loop.example/g00622/impl.errNotLetIn", "loop.example/g00622/impl.errNoEntry"], fn := fun _ => fun
  | [d1, d2, d3, d4, g1, g2, g3, g4] => { results := [.lit (.bool true)], args := [d1, d2, d3, d4], vars := [g1, g2, g3, g4] }
  | _ => none }
def fnExactReachRow : OpenClaim := { program := "ytabfdidnjibdeaagreatdoor", sum := "12703b327544d960880ae32bcecca9b53dd450e25fa25a573fe45d78e9f8fc93", func := "loop.example/g00622/laws.FnExactReach", spec := "fnExactReach", inPlace := ["internal/bytealg.IndexByteString", "internal/bytealg.IndexString", "internal/bytealg.CountString", "internal/reflectlite.TypeOf"], unfollowed := true, recurses := true, named := ["internal/bytealg.MaxLen", "unicode/utf8.first", "unicode/utf8.acceptRanges", "loop.example/g00622/impl.errManyLinks", "loop.example/g00622/impl.errNoDirectory", "loop.example/g00622/impl.errNotLetIn", "loop.example/g00622/impl.errNoEntry"], ifaces := true, apart := false, laid := [("unicode/utf8.acceptRanges", laid_unicode_utf8_acceptRanges), ("loop.example/g00622/impl.errNoDirectory", laid_loop_example_g00622_impl_errNoDirectory), ("loop.example/g00622/impl.errNotLetIn", laid_loop_example_g00622_impl_errNotLetIn), ("loop.example/g00622/impl.errNoEntry", laid_loop_example_g00622_impl_errNoEntry), ("loop.example/g00622/impl.errManyLinks", laid_loop_example_g00622_impl_errManyLinks), ("unicode/utf8.first", laid_unicode_utf8_first)] }
def FnExactReachSaid : Prop := fnExactReachRow.holds Tryz.pinned (OpenSpec.ofChange fnExactReachSpec)

/-- ITS FALSE NEIGHBOUR: 'it returns false'. Refute it at one input. -/
def fnExactReachWrong : ChangeSpec := { name := "fnExactReach", vars := ["loop.example/g00622/impl.errManyLinks", "loop.example/g00622/impl.errNoDirectory", "loop.example/g00622/impl.errNotLetIn", "loop.example/g00622/impl.errNoEntry"], fn := fun _ => fun
  | [d1, d2, d3, d4, g1, g2, g3, g4] => { results := [.lit (.bool false)], args := [d1, d2, d3, d4], vars := [g1, g2, g3, g4] }
  | _ => none }
def FnExactReachWrongFalsely : Prop := fnExactReachRow.holds Tryz.pinned (OpenSpec.ofChange fnExactReachWrong)

/-- 'laws.FnExactAccess': WHATEVER THE INPUT: true; the input reads as it did. -/
def fnExactAccessSpec : ChangeSpec := { name := "fnExactAccess", vars := ["loop.example/g00622/impl.errManyLinks", "loop.example/g00622/impl.errNoDirectory", "loop.example/g00622/impl.errNotLetIn", "loop.example/g00622/impl.errNoEntry"], fn := fun _ => fun
  | [d1, d2, d3, d4, g1, g2, g3, g4] => { results := [.lit (.bool true)], args := [d1, d2, d3, d4], vars := [g1, g2, g3, g4] }
  | _ => none }
def fnExactAccessRow : OpenClaim := { program := "ytabfdidnjibdeaagreatdoor", sum := "12703b327544d960880ae32bcecca9b53dd450e25fa25a573fe45d78e9f8fc93", func := "loop.example/g00622/laws.FnExactAccess", spec := "fnExactAccess", inPlace := ["internal/bytealg.IndexByteString", "internal/bytealg.IndexString", "internal/bytealg.CountString", "internal/reflectlite.TypeOf"], unfollowed := true, recurses := true, named := ["internal/bytealg.MaxLen", "unicode/utf8.first", "unicode/utf8.acceptRanges", "loop.example/g00622/impl.errManyLinks", "loop.example/g00622/impl.errNoDirectory", "loop.example/g00622/impl.errNotLetIn", "loop.example/g00622/impl.errNoEntry"], ifaces := true, apart := false, laid := [("unicode/utf8.acceptRanges", laid_unicode_utf8_acceptRanges), ("loop.example/g00622/impl.errNoDirectory", laid_loop_example_g00622_impl_errNoDirectory), ("loop.example/g00622/impl.errNotLetIn", laid_loop_example_g00622_impl_errNotLetIn), ("loop.example/g00622/impl.errNoEntry", laid_loop_example_g00622_impl_errNoEntry), ("loop.example/g00622/impl.errManyLinks", laid_loop_example_g00622_impl_errManyLinks), ("unicode/utf8.first", laid_unicode_utf8_first)] }
def FnExactAccessSaid : Prop := fnExactAccessRow.holds Tryz.pinned (OpenSpec.ofChange fnExactAccessSpec)

/-- ITS FALSE NEIGHBOUR: 'it returns false'. Refute it at one input. -/
def fnExactAccessWrong : ChangeSpec := { name := "fnExactAccess", vars := ["loop.example/g00622/impl.errManyLinks", "loop.example/g00622/impl.errNoDirectory", "loop.example/g00622/impl.errNotLetIn", "loop.example/g00622/impl.errNoEntry"], fn := fun _ => fun
  | [d1, d2, d3, d4, g1, g2, g3, g4] => { results := [.lit (.bool false)], args := [d1, d2, d3, d4], vars := [g1, g2, g3, g4] }
  | _ => none }
def FnExactAccessWrongFalsely : Prop := fnExactAccessRow.holds Tryz.pinned (OpenSpec.ofChange fnExactAccessWrong)

/-- 'laws.FnExactStat': WHATEVER THE INPUT: true; the input reads as it did. -/
def fnExactStatSpec : ChangeSpec := { name := "fnExactStat", vars := ["loop.example/g00622/impl.errManyLinks", "loop.example/g00622/impl.errNoDirectory", "loop.example/g00622/impl.errNotLetIn", "loop.example/g00622/impl.errNoEntry"], fn := fun _ => fun
  | [d1, d2, d3, d4, g1, g2, g3, g4] => { results := [.lit (.bool true)], args := [d1, d2, d3, d4], vars := [g1, g2, g3, g4] }
  | _ => none }
def fnExactStatRow : OpenClaim := { program := "ytabfdidnjibdeaagreatdoor", sum := "12703b327544d960880ae32bcecca9b53dd450e25fa25a573fe45d78e9f8fc93", func := "loop.example/g00622/laws.FnExactStat", spec := "fnExactStat", inPlace := ["internal/bytealg.IndexByteString", "internal/bytealg.IndexString", "internal/bytealg.CountString", "internal/reflectlite.TypeOf"], unfollowed := true, recurses := true, named := ["internal/bytealg.MaxLen", "unicode/utf8.first", "unicode/utf8.acceptRanges", "loop.example/g00622/impl.errManyLinks", "loop.example/g00622/impl.errNoDirectory", "loop.example/g00622/impl.errNotLetIn", "loop.example/g00622/impl.errNoEntry"], ifaces := true, apart := false, laid := [("unicode/utf8.acceptRanges", laid_unicode_utf8_acceptRanges), ("loop.example/g00622/impl.errNoDirectory", laid_loop_example_g00622_impl_errNoDirectory), ("loop.example/g00622/impl.errNotLetIn", laid_loop_example_g00622_impl_errNotLetIn), ("loop.example/g00622/impl.errNoEntry", laid_loop_example_g00622_impl_errNoEntry), ("loop.example/g00622/impl.errManyLinks", laid_loop_example_g00622_impl_errManyLinks), ("unicode/utf8.first", laid_unicode_utf8_first)] }
def FnExactStatSaid : Prop := fnExactStatRow.holds Tryz.pinned (OpenSpec.ofChange fnExactStatSpec)

/-- ITS FALSE NEIGHBOUR: 'it returns false'. Refute it at one input. -/
def fnExactStatWrong : ChangeSpec := { name := "fnExactStat", vars := ["loop.example/g00622/impl.errManyLinks", "loop.example/g00622/impl.errNoDirectory", "loop.example/g00622/impl.errNotLetIn", "loop.example/g00622/impl.errNoEntry"], fn := fun _ => fun
  | [d1, d2, d3, d4, g1, g2, g3, g4] => { results := [.lit (.bool false)], args := [d1, d2, d3, d4], vars := [g1, g2, g3, g4] }
  | _ => none }
def FnExactStatWrongFalsely : Prop := fnExactStatRow.holds Tryz.pinned (OpenSpec.ofChange fnExactStatWrong)

/-- 'laws.FnExactReadDir': WHATEVER THE INPUT: true; the input reads as it did. -/
def fnExactReadDirSpec : ChangeSpec := { name := "fnExactReadDir", vars := ["loop.example/g00622/impl.errManyLinks", "loop.example/g00622/impl.errNoDirectory", "loop.example/g00622/impl.errNotLetIn", "loop.example/g00622/impl.errNoEntry"], fn := fun _ => fun
  | [d1, d2, d3, g1, g2, g3, g4] => { results := [.lit (.bool true)], args := [d1, d2, d3], vars := [g1, g2, g3, g4] }
  | _ => none }
def fnExactReadDirRow : OpenClaim := { program := "ytabfdidnjibdeaagreatdoor", sum := "12703b327544d960880ae32bcecca9b53dd450e25fa25a573fe45d78e9f8fc93", func := "loop.example/g00622/laws.FnExactReadDir", spec := "fnExactReadDir", inPlace := ["internal/bytealg.IndexByteString", "internal/bytealg.IndexString", "internal/bytealg.CountString", "internal/reflectlite.TypeOf"], unfollowed := true, recurses := true, named := ["internal/bytealg.MaxLen", "unicode/utf8.first", "unicode/utf8.acceptRanges", "loop.example/g00622/impl.errManyLinks", "loop.example/g00622/impl.errNoDirectory", "loop.example/g00622/impl.errNotLetIn", "loop.example/g00622/impl.errNoEntry"], ifaces := true, apart := false, laid := [("unicode/utf8.acceptRanges", laid_unicode_utf8_acceptRanges), ("loop.example/g00622/impl.errNoDirectory", laid_loop_example_g00622_impl_errNoDirectory), ("loop.example/g00622/impl.errNotLetIn", laid_loop_example_g00622_impl_errNotLetIn), ("loop.example/g00622/impl.errNoEntry", laid_loop_example_g00622_impl_errNoEntry), ("loop.example/g00622/impl.errManyLinks", laid_loop_example_g00622_impl_errManyLinks), ("unicode/utf8.first", laid_unicode_utf8_first)] }
def FnExactReadDirSaid : Prop := fnExactReadDirRow.holds Tryz.pinned (OpenSpec.ofChange fnExactReadDirSpec)

/-- ITS FALSE NEIGHBOUR: 'it returns false'. Refute it at one input. -/
def fnExactReadDirWrong : ChangeSpec := { name := "fnExactReadDir", vars := ["loop.example/g00622/impl.errManyLinks", "loop.example/g00622/impl.errNoDirectory", "loop.example/g00622/impl.errNotLetIn", "loop.example/g00622/impl.errNoEntry"], fn := fun _ => fun
  | [d1, d2, d3, g1, g2, g3, g4] => { results := [.lit (.bool false)], args := [d1, d2, d3], vars := [g1, g2, g3, g4] }
  | _ => none }
def FnExactReadDirWrongFalsely : Prop := fnExactReadDirRow.holds Tryz.pinned (OpenSpec.ofChange fnExactReadDirWrong)

/- THE SECOND FORM. 'bulk': how many values and letters a reading holds, each counted each time it is reached (what is shared counts as often as it is met; a slice's spare places count too). A statement '..UptoSaid' is the law's where the arguments, and the package variables that the reading takes, are together of bulk at most 1048576: NARROWER than '..Said'. Prove '..Said' where nothing that the law and all that it calls make is longer than what came in: it says more and counts as full. Else prove '..UptoSaid'. A law counts once. -/
mutual
def uptoBulk {H : Type} : DataW H → Nat
  | .lit (.string bytes) => bytes.length + 1
  | .lit _ => 1
  | .nil => 1
  | .ptr d => uptoBulk d + 1
  | .slice elems spare => uptoBulkAll elems + uptoBulkAll spare + 1
  | .agg parts => uptoBulkAll parts + 1
  | .iface _ d => uptoBulk d + 1
  | .map entries => uptoBulkEntries entries + 1
  | .held _ => 1
def uptoBulkAll {H : Type} : List (DataW H) → Nat
  | [] => 0
  | d :: r => uptoBulk d + uptoBulkAll r
def uptoBulkEntries {H : Type} : List (Lit × DataW H) → Nat
  | [] => 0
  | x :: r => uptoBulkEntry x + uptoBulkEntries r
def uptoBulkEntry {H : Type} : Lit × DataW H → Nat
  | (.string bytes, d) => bytes.length + uptoBulk d + 1
  | (_, d) => uptoBulk d + 1
 end
def uptoSmall : (H : Type) → List (DataW H) → Bool := fun _ ds => decide (uptoBulkAll ds ≤ 1048576)
def OpenSpec.upto (s : _root_.Go.ChangeSpec) : _root_.Go.OpenSpec := { _root_.Go.OpenSpec.ofChange s with cond := some uptoSmall }

/-- 'laws.FnExactWalk', WHERE WHAT IT READS IS OF BULK AT MOST 1048576: true; the input reads as it did. -/
def fnExactWalkUptoRow : OpenClaim := { program := "ytabfdidnjibdeaagreatdoor", sum := "12703b327544d960880ae32bcecca9b53dd450e25fa25a573fe45d78e9f8fc93", func := "loop.example/g00622/laws.FnExactWalk", spec := "fnExactWalk", inPlace := ["internal/bytealg.IndexByteString", "internal/bytealg.IndexString", "internal/bytealg.CountString", "internal/reflectlite.TypeOf"], unfollowed := true, recurses := true, named := ["internal/bytealg.MaxLen", "unicode/utf8.first", "unicode/utf8.acceptRanges", "loop.example/g00622/impl.errManyLinks", "loop.example/g00622/impl.errNoDirectory", "loop.example/g00622/impl.errNotLetIn", "loop.example/g00622/impl.errNoEntry"], ifaces := true, apart := false, laid := [("unicode/utf8.acceptRanges", laid_unicode_utf8_acceptRanges), ("loop.example/g00622/impl.errNoDirectory", laid_loop_example_g00622_impl_errNoDirectory), ("loop.example/g00622/impl.errNotLetIn", laid_loop_example_g00622_impl_errNotLetIn), ("loop.example/g00622/impl.errNoEntry", laid_loop_example_g00622_impl_errNoEntry), ("loop.example/g00622/impl.errManyLinks", laid_loop_example_g00622_impl_errManyLinks), ("unicode/utf8.first", laid_unicode_utf8_first)], narrowed := true }
def FnExactWalkUptoSaid : Prop := fnExactWalkUptoRow.holds Tryz.pinned (OpenSpec.upto fnExactWalkSpec)

/-- 'laws.FnExactReach', WHERE WHAT IT READS IS OF BULK AT MOST 1048576: true; the input reads as it did. -/
def fnExactReachUptoRow : OpenClaim := { program := "ytabfdidnjibdeaagreatdoor", sum := "12703b327544d960880ae32bcecca9b53dd450e25fa25a573fe45d78e9f8fc93", func := "loop.example/g00622/laws.FnExactReach", spec := "fnExactReach", inPlace := ["internal/bytealg.IndexByteString", "internal/bytealg.IndexString", "internal/bytealg.CountString", "internal/reflectlite.TypeOf"], unfollowed := true, recurses := true, named := ["internal/bytealg.MaxLen", "unicode/utf8.first", "unicode/utf8.acceptRanges", "loop.example/g00622/impl.errManyLinks", "loop.example/g00622/impl.errNoDirectory", "loop.example/g00622/impl.errNotLetIn", "loop.example/g00622/impl.errNoEntry"], ifaces := true, apart := false, laid := [("unicode/utf8.acceptRanges", laid_unicode_utf8_acceptRanges), ("loop.example/g00622/impl.errNoDirectory", laid_loop_example_g00622_impl_errNoDirectory), ("loop.example/g00622/impl.errNotLetIn", laid_loop_example_g00622_impl_errNotLetIn), ("loop.example/g00622/impl.errNoEntry", laid_loop_example_g00622_impl_errNoEntry), ("loop.example/g00622/impl.errManyLinks", laid_loop_example_g00622_impl_errManyLinks), ("unicode/utf8.first", laid_unicode_utf8_first)], narrowed := true }
def FnExactReachUptoSaid : Prop := fnExactReachUptoRow.holds Tryz.pinned (OpenSpec.upto fnExactReachSpec)

/-- 'laws.FnExactAccess', WHERE WHAT IT READS IS OF BULK AT MOST 1048576: true; the input reads as it did. -/
def fnExactAccessUptoRow : OpenClaim := { program := "ytabfdidnjibdeaagreatdoor", sum := "12703b327544d960880ae32bcecca9b53dd450e25fa25a573fe45d78e9f8fc93", func := "loop.example/g00622/laws.FnExactAccess", spec := "fnExactAccess", inPlace := ["internal/bytealg.IndexByteString", "internal/bytealg.IndexString", "internal/bytealg.CountString", "internal/reflectlite.TypeOf"], unfollowed := true, recurses := true, named := ["internal/bytealg.MaxLen", "unicode/utf8.first", "unicode/utf8.acceptRanges", "loop.example/g00622/impl.errManyLinks", "loop.example/g00622/impl.errNoDirectory", "loop.example/g00622/impl.errNotLetIn", "loop.example/g00622/impl.errNoEntry"], ifaces := true, apart := false, laid := [("unicode/utf8.acceptRanges", laid_unicode_utf8_acceptRanges), ("loop.example/g00622/impl.errNoDirectory", laid_loop_example_g00622_impl_errNoDirectory), ("loop.example/g00622/impl.errNotLetIn", laid_loop_example_g00622_impl_errNotLetIn), ("loop.example/g00622/impl.errNoEntry", laid_loop_example_g00622_impl_errNoEntry), ("loop.example/g00622/impl.errManyLinks", laid_loop_example_g00622_impl_errManyLinks), ("unicode/utf8.first", laid_unicode_utf8_first)], narrowed := true }
def FnExactAccessUptoSaid : Prop := fnExactAccessUptoRow.holds Tryz.pinned (OpenSpec.upto fnExactAccessSpec)

/-- 'laws.FnExactStat', WHERE WHAT IT READS IS OF BULK AT MOST 1048576: true; the input reads as it did. -/
def fnExactStatUptoRow : OpenClaim := { program := "ytabfdidnjibdeaagreatdoor", sum := "12703b327544d960880ae32bcecca9b53dd450e25fa25a573fe45d78e9f8fc93", func := "loop.example/g00622/laws.FnExactStat", spec := "fnExactStat", inPlace := ["internal/bytealg.IndexByteString", "internal/bytealg.IndexString", "internal/bytealg.CountString", "internal/reflectlite.TypeOf"], unfollowed := true, recurses := true, named := ["internal/bytealg.MaxLen", "unicode/utf8.first", "unicode/utf8.acceptRanges", "loop.example/g00622/impl.errManyLinks", "loop.example/g00622/impl.errNoDirectory", "loop.example/g00622/impl.errNotLetIn", "loop.example/g00622/impl.errNoEntry"], ifaces := true, apart := false, laid := [("unicode/utf8.acceptRanges", laid_unicode_utf8_acceptRanges), ("loop.example/g00622/impl.errNoDirectory", laid_loop_example_g00622_impl_errNoDirectory), ("loop.example/g00622/impl.errNotLetIn", laid_loop_example_g00622_impl_errNotLetIn), ("loop.example/g00622/impl.errNoEntry", laid_loop_example_g00622_impl_errNoEntry), ("loop.example/g00622/impl.errManyLinks", laid_loop_example_g00622_impl_errManyLinks), ("unicode/utf8.first", laid_unicode_utf8_first)], narrowed := true }
def FnExactStatUptoSaid : Prop := fnExactStatUptoRow.holds Tryz.pinned (OpenSpec.upto fnExactStatSpec)

/-- 'laws.FnExactReadDir', WHERE WHAT IT READS IS OF BULK AT MOST 1048576: true; the input reads as it did. -/
def fnExactReadDirUptoRow : OpenClaim := { program := "ytabfdidnjibdeaagreatdoor", sum := "12703b327544d960880ae32bcecca9b53dd450e25fa25a573fe45d78e9f8fc93", func := "loop.example/g00622/laws.FnExactReadDir", spec := "fnExactReadDir", inPlace := ["internal/bytealg.IndexByteString", "internal/bytealg.IndexString", "internal/bytealg.CountString", "internal/reflectlite.TypeOf"], unfollowed := true, recurses := true, named := ["internal/bytealg.MaxLen", "unicode/utf8.first", "unicode/utf8.acceptRanges", "loop.example/g00622/impl.errManyLinks", "loop.example/g00622/impl.errNoDirectory", "loop.example/g00622/impl.errNotLetIn", "loop.example/g00622/impl.errNoEntry"], ifaces := true, apart := false, laid := [("unicode/utf8.acceptRanges", laid_unicode_utf8_acceptRanges), ("loop.example/g00622/impl.errNoDirectory", laid_loop_example_g00622_impl_errNoDirectory), ("loop.example/g00622/impl.errNotLetIn", laid_loop_example_g00622_impl_errNotLetIn), ("loop.example/g00622/impl.errNoEntry", laid_loop_example_g00622_impl_errNoEntry), ("loop.example/g00622/impl.errManyLinks", laid_loop_example_g00622_impl_errManyLinks), ("unicode/utf8.first", laid_unicode_utf8_first)], narrowed := true }
def FnExactReadDirUptoSaid : Prop := fnExactReadDirUptoRow.holds Tryz.pinned (OpenSpec.upto fnExactReadDirSpec)

end Rows
end Go.Proofs.YtabfdidnjibdeaaGreatDoor
