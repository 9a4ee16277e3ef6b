/- ModeOf, the program's and the specification's. -/
import Derived.Test.YtgojbilbkfilgabAclRight
import Derived.Test.YtgojbilbkfilgabHasMath
import Derived.Lib.QuietBelow
namespace Go.Proofs.Ytgojbilbkfilgab
open Go.RowKit Go.PlainAid
set_option linter.unusedVariables false
/-- The group class. -/
def clsOf (g : Int) (r : Bool) (m : Int) : Int := if r then m else g
theorem clsOf_t (g m : Int) : clsOf g true m = m := rfl
theorem clsOf_f (g m : Int) : clsOf g false m = g := rfl
theorem aclB_parts {u g o : Int} {us gs : List (Int × Int)} {r : Bool} {m : Int} (h : aclB u g o us gs r m = true) : (0 ≤ u ∧ u ≤ 7) ∧ (0 ≤ g ∧ g ≤ 7) ∧ (0 ≤ o ∧ o ≤ 7) ∧ (0 ≤ m ∧ m ≤ 7) ∧ nmB us = true ∧ nmB gs = true := by
  unfold aclB at h
  simp only [Bool.and_eq_true] at h
  exact ⟨inR_iff.1 h.1, inR_iff.1 h.2.1, inR_iff.1 h.2.2.1, inR_iff.1 h.2.2.2.1, h.2.2.2.2.1, h.2.2.2.2.2.1⟩
theorem clsOf_in {u g o : Int} {us gs : List (Int × Int)} {r : Bool} {m : Int} (h : aclB u g o us gs r m = true) : 0 ≤ clsOf g r m ∧ clsOf g r m ≤ 7 := by
  obtain ⟨_, h1, _, h2, _⟩ := aclB_parts h
  cases r
  · exact h1
  · exact h2
/-- ModeOf. -/
def modeOfB (u g o : Int) (us gs : List (Int × Int)) (r : Bool) (m : Int) : Int := if aclB u g o us gs r m then 64 * u + 8 * clsOf g r m + o else 0
theorem ret_intM {a b : Int} (h : a = b) : Ending.returned (.int .i64 a) = .returned (.int .i64 b) := by rw [h]
theorem or3 (u c o : Nat) (h1 : u ≤ 7) (h2 : c ≤ 7) (h3 : o ≤ 7) : bits .or .i64 (bits .or .i64 ((u * 64 : Nat) : Int) ((c * 8 : Nat) : Int)) (o : Int) = 64 * u + 8 * c + o := by
  rw [i64_or_nat (u * 64) (c * 8) (by omega) (by omega)]
  have e1 : u * 64 ||| c * 8 = u * 64 + c * 8 := by
    have := Nat.shiftLeft_add_eq_or_of_lt (b := c * 8) (i := 6) (by omega) u
    rw [Nat.shiftLeft_eq] at this
    exact this.symm
  rw [e1, i64_or_nat (u * 64 + c * 8) o (by omega) (by omega)]
  have e2 : (u * 64 + c * 8) ||| o = u * 64 + c * 8 + o := by
    have := Nat.shiftLeft_add_eq_or_of_lt (b := o) (i := 3) (by omega) (u * 8 + c)
    rw [Nat.shiftLeft_eq] at this
    have e : (u * 8 + c) * 2 ^ 3 = u * 64 + c * 8 := by omega
    rw [e] at this
    exact this.symm
  rw [e2]
  omega
theorem or3i (u c o : Int) (a0 : 0 ≤ u) (h1 : u ≤ 7) (b0 : 0 ≤ c) (h2 : c ≤ 7) (c0 : 0 ≤ o) (h3 : o ≤ 7) : bits .or .i64 (bits .or .i64 (u * 64) (c * 8)) o = 64 * u + 8 * c + o := by
  obtain ⟨a, rfl⟩ := Int.eq_ofNat_of_zero_le a0
  obtain ⟨b, rfl⟩ := Int.eq_ofNat_of_zero_le b0
  obtain ⟨c, rfl⟩ := Int.eq_ofNat_of_zero_le c0
  exact or3 a b c (by omega) (by omega) (by omega)
end Go.Proofs.Ytgojbilbkfilgab
