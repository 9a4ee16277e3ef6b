/- Laid together: WhoIs, AclMath. -/
import Derived.Test.YtgahphiabajokaaRows
import Derived.PlainAid
import Derived.WalkKit
import Derived.WalkSpells
import Derived.WalkLawsBesides
import Derived.Below
import Derived.WideShapes
import Derived.ChangeArms
import Derived.Lib.SmallJoins
import Derived.Deep.SlicePairs
/- The little tests of a number against its limits, the program's and the specification's: each answers whether the number is from the one limit to the other. -/
namespace Go.Proofs.Ytgahphiabajokaa
open Go.RowKit Go.PlainAid
set_option linter.unusedVariables false
/-- Is n from lo to hi? -/
def inR (lo hi n : Int) : Bool := decide (lo ≤ n) && decide (n ≤ hi)
end Go.Proofs.Ytgahphiabajokaa
/- A list of pairs of numbers that lies in a world; lists of names, right or not. Nothing here names a program. -/
namespace Go.Proofs.Ytgahphiabajokaa
open Go.RowKit Go.PlainAid Go.ChangeShapes Go.WideShapes Go.ChangeAt Go.Joins Go.Deep
set_option linter.unusedVariables false
def idAt (l : List (Int × Int)) (k : Nat) : Int := (l.getD k (0, 0)).1
def btAt (l : List (Int × Int)) (k : Nat) : Int := (l.getD k (0, 0)).2
/-- What a world holds of a list of pairs. -/
def Prs (a : Option Addr) (len : Nat) (l : List (Int × Int)) (w : World) : Prop :=
  l.length = len ∧ (0 < len → ∃ b off, a = some ⟨b, off, none⟩ ∧ b < w.heap.size ∧ ∀ i, i < len → w.cell? ⟨b, off + i * 2, none⟩ = some (.int .i64 (idAt l i)) ∧ w.cell? ⟨b, off + i * 2 + 1, none⟩ = some (.int .i64 (btAt l i)))
theorem Prs.below {a : Option Addr} {len : Nat} {l : List (Int × Int)} {w w' : World} (h : Prs a len l w) (hb : Below w.heap.size w w') : Prs a len l w' := by
  refine ⟨h.1, fun hl => ?_⟩
  obtain ⟨b, off, ha, hlt, hc⟩ := h.2 hl
  exact ⟨b, off, ha, Nat.lt_of_lt_of_le hlt hb.size, fun i hi => ⟨(hb.cell (p := ⟨b, off + i * 2, none⟩) hlt).trans (hc i hi).1, (hb.cell (p := ⟨b, off + i * 2 + 1, none⟩) hlt).trans (hc i hi).2⟩⟩
/-- The pair at place k may stand there. -/
def okN (l : List (Int × Int)) (k : Nat) : Bool := inR 0 9999 (idAt l k) && (inR 0 7 (btAt l k) && (k == 0 || decide (idAt l (k - 1) < idAt l k)))
def nmRises (l : List (Int × Int)) : Nat → Bool
  | 0 => true
  | k + 1 => nmRises l k && okN l k
/-- At most six, rising. -/
def nmB (l : List (Int × Int)) : Bool := decide (l.length ≤ 6) && nmRises l l.length
/-- AclRight. -/
def aclB (u g o : Int) (us gs : List (Int × Int)) (r : Bool) (m : Int) : Bool :=
  inR 0 7 u && (inR 0 7 g && (inR 0 7 o && (inR 0 7 m && (nmB us && (nmB gs && (r || (m == 0 && (us.length == 0 && gs.length == 0))))))))
end Go.Proofs.Ytgahphiabajokaa
