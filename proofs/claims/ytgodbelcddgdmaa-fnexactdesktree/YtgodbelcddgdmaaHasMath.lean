/- One set in another: 'h &&& w = w' of numbers, told by halves. Nothing here names a program. -/
import Derived.WalkKit
import Derived.Laws.BitsAllLaws
namespace Go.Proofs.Ytgodbelcddgdmaa
open Go.RowKit
set_option linter.unusedVariables false
theorem i64_and_nat (a b : Nat) (ha : a < 9223372036854775808) (hb : b < 9223372036854775808) : bits .and .i64 (a : Int) (b : Int) = ((a &&& b : Nat) : Int) := by
  have hx : a &&& b ≤ a := Nat.and_le_left
  show IntKind.i64.wrap ((BitVec.ofInt 64 (a : Int) &&& BitVec.ofInt 64 (b : Int)).toNat : Int) = _
  rw [BitVec.toNat_and, ofInt_u64 a (by omega), ofInt_u64 b (by omega), IntKind.wrap_i64]
  omega
theorem i64_or_nat (a b : Nat) (ha : a < 4611686018427387904) (hb : b < 4611686018427387904) : bits .or .i64 (a : Int) (b : Int) = ((a ||| b : Nat) : Int) := by
  have hx : a ||| b < 2 ^ 62 := Nat.or_lt_two_pow (by omega) (by omega)
  show IntKind.i64.wrap ((BitVec.ofInt 64 (a : Int) ||| BitVec.ofInt 64 (b : Int)).toNat : Int) = _
  rw [BitVec.toNat_or, ofInt_u64 a (by omega), ofInt_u64 b (by omega), IntKind.wrap_i64]
  omega
/-- Has h each number of the set w? -/
def hasB (h w : Nat) : Bool := (h &&& w) == w
theorem and_two (a b : Nat) : (a &&& b) % 2 = (a % 2) * (b % 2) := by
  have h := Nat.and_mod_two_pow (a := a) (b := b) (n := 1)
  simp only [Nat.pow_one] at h
  rw [h]
  rcases Nat.mod_two_eq_zero_or_one a with e | e <;> rcases Nat.mod_two_eq_zero_or_one b with e' | e' <;> rw [e, e'] <;> rfl
theorem hasB_zero (a : Nat) : hasB a 0 = true := by simp [hasB]
theorem hasB_no {a b : Nat} (ha : a % 2 = 0) (hb : b % 2 = 1) : hasB a b = false := by
  have h := and_two a b
  rw [ha, hb] at h
  have : (a &&& b) ≠ b := by omega
  simp [hasB, this]
theorem hasB_half {a b : Nat} (h : ¬ (a % 2 = 0 ∧ b % 2 = 1)) : hasB a b = hasB (a / 2) (b / 2) := by
  have h1 := and_two a b
  have h2 : (a &&& b) / 2 = (a / 2 &&& b / 2) := Nat.and_div_two
  have h3 : ((a &&& b) = b) ↔ ((a / 2 &&& b / 2) = b / 2) := by
    rw [← h2]
    constructor
    · intro e
      rw [e]
    · intro e
      rcases Nat.mod_two_eq_zero_or_one a with e1 | e1 <;> rcases Nat.mod_two_eq_zero_or_one b with e2 | e2 <;> rw [e1, e2] at h1 <;> first | omega | (exact absurd ⟨e1, e2⟩ h)
  unfold hasB
  rw [Bool.eq_iff_iff]
  simp [h3]
theorem hasB_self (a : Nat) : hasB a a = true := by simp [hasB]
theorem le_65535_and {h w : Nat} (h1 : h ≤ 65535) : (h &&& w) ≤ 65535 := Nat.le_trans Nat.and_le_left h1
/-- Has, of whatever two numbers. -/
def hasZ (h w : Int) : Bool := decide (0 ≤ h ∧ h ≤ 65535) && decide (0 ≤ w ∧ w ≤ 65535) && hasB h.toNat w.toNat
theorem hasZ_off {h w : Int} (e : ¬ (0 ≤ h ∧ h ≤ 65535)) : hasZ h w = false := by simp [hasZ, e]
theorem hasZ_off2 {h w : Int} (e : ¬ (0 ≤ w ∧ w ≤ 65535)) : hasZ h w = false := by simp [hasZ, e]
theorem hasZ_in {h w : Nat} (h1 : h ≤ 65535) (h2 : w ≤ 65535) : hasZ h w = hasB h w := by
  have e1 : (0 ≤ (h : Int) ∧ (h : Int) ≤ 65535) := by omega
  have e2 : (0 ≤ (w : Int) ∧ (w : Int) ≤ 65535) := by omega
  simp [hasZ, e1, e2]
end Go.Proofs.Ytgodbelcddgdmaa
