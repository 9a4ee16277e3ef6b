/- Laid together: WhoIs, AclMath. -/
import Derived.Test.YtgooanaacebncaaDoorRows
import Derived.PlainAid
import Derived.WalkKit
import Derived.WalkSpells
import Derived.WalkLawsBesides
import Derived.Below
import Derived.WideShapes
import Derived.ChangeArms
import Derived.Lib.SmallJoins
import Derived.Deep.SlicePairs
/- The little tests of a number against its limits, the program's and the specification's: each answers whether the number is from the one limit to the other. -/
namespace Go.Proofs.YtgooanaacebncaaDoor
open Go.RowKit Go.PlainAid
set_option linter.unusedVariables false
theorem ret_boolW {a b : Bool} (h : a = b) : Ending.returned (.bool a) = .returned (.bool b) := by rw [h]
/-- Is n from lo to hi? -/
def inR (lo hi n : Int) : Bool := decide (lo ≤ n) && decide (n ≤ hi)
theorem inR_yes {lo hi n : Int} (h0 : lo ≤ n) (h1 : n ≤ hi) : inR lo hi n = true := by simp [inR, *]
theorem inR_no {lo hi n : Int} (h : ¬ (lo ≤ n ∧ n ≤ hi)) : inR lo hi n = false := by
  cases e : inR lo hi n
  · rfl
  · simp [inR] at e
    exact absurd e h
theorem inR_iff {lo hi n : Int} : inR lo hi n = true ↔ lo ≤ n ∧ n ≤ hi := by simp [inR]
theorem inR_off {lo hi n : Int} (h : inR lo hi n = false) : n < lo ∨ hi < n := by
  rcases Decidable.em (lo ≤ n ∧ n ≤ hi) with h1 | h1
  · rw [inR_yes h1.1 h1.2] at h
    cases h
  · omega
theorem isId_any (n : Int) (w : World) :
    Calls Tryd.prog 47 #[.int .i64 n] w fun e w' => e = .returned (.bool (inR 0 9999 n)) ∧ w' = w := by
  go_enter Tryd.func47, Tryd.ntmps47
  go_wp2
  · go_ret
    exact ⟨ret_boolW (by simp [inR, *]), rfl⟩
  · go_ret
    exact ⟨ret_boolW (by have h : ¬ 0 ≤ n := by omega
                         simp [inR, h]), rfl⟩
theorem sIs_any (n lo hi : Int) (w : World) :
    Calls Tryd.prog 83 #[.int .i64 n, .int .i64 lo, .int .i64 hi] w fun e w' => e = .returned (.bool (inR lo hi n)) ∧ w' = w := by
  go_enter Tryd.func83, Tryd.ntmps83
  go_wp2
  · go_ret
    exact ⟨ret_boolW (by simp [inR, *]), rfl⟩
  · go_ret
    exact ⟨ret_boolW (by have h : ¬ lo ≤ n := by omega
                         simp [inR, h]), rfl⟩
theorem sId_any (n : Int) (w : World) :
    Calls Tryd.prog 49 #[.int .i64 n] w fun e w' => e = .returned (.bool (inR 0 9999 n)) ∧ w' = w := by
  go_enter Tryd.func49, Tryd.ntmps49
  go_wp2_with (go_at_call 83; refine (sIs_any _ _ _ _).mono ?_; rintro e w' ⟨rfl, rfl⟩)
  go_ret
  exact ⟨rfl, rfl⟩
end Go.Proofs.YtgooanaacebncaaDoor
/- A list of pairs of numbers that lies in a world; lists of names, right or not. Nothing here names a program. -/
namespace Go.Proofs.YtgooanaacebncaaDoor
open Go.RowKit Go.PlainAid Go.ChangeShapes Go.WideShapes Go.ChangeAt Go.Joins Go.Deep
set_option linter.unusedVariables false
def idAt (l : List (Int × Int)) (k : Nat) : Int := (l.getD k (0, 0)).1
def btAt (l : List (Int × Int)) (k : Nat) : Int := (l.getD k (0, 0)).2
/-- What a world holds of a list of pairs. -/
def Prs (a : Option Addr) (len : Nat) (l : List (Int × Int)) (w : World) : Prop :=
  l.length = len ∧ (0 < len → ∃ b off, a = some ⟨b, off, none⟩ ∧ b < w.heap.size ∧ ∀ i, i < len → w.cell? ⟨b, off + i * 2, none⟩ = some (.int .i64 (idAt l i)) ∧ w.cell? ⟨b, off + i * 2 + 1, none⟩ = some (.int .i64 (btAt l i)))
theorem Prs.below {a : Option Addr} {len : Nat} {l : List (Int × Int)} {w w' : World} (h : Prs a len l w) (hb : Below w.heap.size w w') : Prs a len l w' := by
  refine ⟨h.1, fun hl => ?_⟩
  obtain ⟨b, off, ha, hlt, hc⟩ := h.2 hl
  exact ⟨b, off, ha, Nat.lt_of_lt_of_le hlt hb.size, fun i hi => ⟨(hb.cell (p := ⟨b, off + i * 2, none⟩) hlt).trans (hc i hi).1, (hb.cell (p := ⟨b, off + i * 2 + 1, none⟩) hlt).trans (hc i hi).2⟩⟩
end Go.Proofs.YtgooanaacebncaaDoor
