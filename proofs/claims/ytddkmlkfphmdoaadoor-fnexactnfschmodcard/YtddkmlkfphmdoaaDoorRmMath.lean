/- A set without another one: plain mathematics. Nothing here names a program. -/
import Derived.Test.YtddkmlkfphmdoaaDoorHasMath
namespace Go.Proofs.YtddkmlkfphmdoaaDoor
open Go.RowKit
set_option linter.unusedVariables false
/-- m without what s has. -/
def rmN (m s : Nat) : Nat := m &&& (m ^^^ s)
theorem rm_bit (m s i : Nat) : Nat.testBit (rmN m s) i = (Nat.testBit m i && !Nat.testBit s i) := by
  unfold rmN
  simp only [Nat.testBit_and, Nat.testBit_xor]
  cases Nat.testBit m i <;> cases Nat.testBit s i <;> rfl
theorem rm_le (m s : Nat) : rmN m s ≤ m := Nat.and_le_left
theorem rm_rm (m a b : Nat) : rmN (rmN m a) b = rmN m (a ||| b) := by
  apply Nat.eq_of_testBit_eq
  intro i
  simp only [rm_bit, Nat.testBit_or]
  cases Nat.testBit m i <;> cases Nat.testBit a i <;> cases Nat.testBit b i <;> rfl
theorem rm_zero (m : Nat) : rmN m 0 = m := by
  apply Nat.eq_of_testBit_eq
  intro i
  simp [rm_bit]
theorem and_half (a b : Nat) : (a &&& b) / 2 = (a / 2) &&& (b / 2) := by
  apply Nat.eq_of_testBit_eq
  intro i
  simp [Nat.testBit_div_two]
theorem rm_half (a b : Nat) : rmN a b / 2 = rmN (a / 2) (b / 2) := by
  apply Nat.eq_of_testBit_eq
  intro i
  simp [Nat.testBit_div_two, rm_bit]
theorem rm_mod (a b : Nat) : rmN a b % 2 = (a % 2) * (1 - b % 2) := by
  have h := rm_bit a b 0
  simp only [Nat.testBit_zero] at h
  rcases Nat.mod_two_eq_zero_or_one (rmN a b) with e | e <;> rcases Nat.mod_two_eq_zero_or_one a with e1 | e1 <;> rcases Nat.mod_two_eq_zero_or_one b with e2 | e2 <;> simp [e, e1, e2] at h ⊢
theorem rm_add : ∀ (n m s : Nat), m < 2 ^ n → (m &&& s) + rmN m s = m := by
  intro n
  induction n with
  | zero =>
    intro m s h
    have : m = 0 := by simpa using h
    subst this
    have := rm_le 0 s
    have h2 : 0 &&& s = 0 := by simp
    omega
  | succ n ih =>
    intro m s h
    have h1 := ih (m / 2) (s / 2) (by rw [Nat.pow_succ] at h; omega)
    have h2 := and_half m s
    have h3 := rm_half m s
    have h4 := and_two m s
    have h5 := rm_mod m s
    rw [← h2, ← h3] at h1
    rcases Nat.mod_two_eq_zero_or_one m with e1 | e1 <;> rcases Nat.mod_two_eq_zero_or_one s with e2 | e2 <;> rw [e1, e2] at h4 h5 <;> omega
theorem rm_sub {m s : Nat} (hm : m ≤ 65535) : m - (m &&& s) = rmN m s := by
  have := rm_add 16 m s (by omega)
  omega
theorem or_le {a b : Nat} (ha : a ≤ 255) (hb : b ≤ 255) : a ||| b ≤ 255 := by
  have := Nat.or_lt_two_pow (x := a) (y := b) (n := 8) (by omega) (by omega)
  omega
/-- What is put to a set that has none of it. -/
theorem or_rm (s m : Nat) (hm : m ≤ 65535) (hs : s ≤ 65535) : s ||| m = s + rmN m s := by
  have h := rm_add 17 (s ||| m) s (by have := Nat.or_lt_two_pow (x := s) (y := m) (n := 16) (by omega) (by omega); omega)
  have e1 : (s ||| m) &&& s = s := by
    apply Nat.eq_of_testBit_eq
    intro i
    simp only [Nat.testBit_and, Nat.testBit_or]
    cases Nat.testBit s i <;> cases Nat.testBit m i <;> rfl
  have e2 : rmN (s ||| m) s = rmN m s := by
    apply Nat.eq_of_testBit_eq
    intro i
    simp only [rm_bit, Nat.testBit_or]
    cases Nat.testBit s i <;> cases Nat.testBit m i <;> rfl
  omega
theorem andNot_nat (m s : Nat) (hm : m ≤ 65535) (hs : s ≤ 65535) : bits .andNot .i64 (m : Int) (s : Int) = ((rmN m s : Nat) : Int) := by
  have hx : rmN m s ≤ m := rm_le m s
  show IntKind.i64.wrap ((BitVec.ofInt 64 (m : Int) &&& ~~~BitVec.ofInt 64 (s : Int)).toNat : Int) = _
  rw [BitVec.toNat_and, BitVec.toNat_not, ofInt_u64 m (by omega), ofInt_u64 s (by omega), IntKind.wrap_i64]
  have e : m &&& (2 ^ 64 - 1 - s) = rmN m s := by
    apply Nat.eq_of_testBit_eq
    intro i
    have e2 : 2 ^ 64 - 1 - s = 2 ^ 64 - (s + 1) := by omega
    rw [Nat.testBit_and, e2, Nat.testBit_two_pow_sub_succ (by omega), rm_bit]
    by_cases hi : i < 64
    · simp [hi]
    · have : Nat.testBit m i = false := Nat.testBit_lt_two_pow (Nat.lt_of_lt_of_le (show m < 2 ^ 64 by omega) (Nat.pow_le_pow_right (by omega) (by omega)))
      simp [this]
  rw [e]
  omega
end Go.Proofs.YtddkmlkfphmdoaaDoor
