/- A mode as nine signs: plain mathematics. Nothing here names a program. -/
import Derived.Test.YtibofkjonepbpaaDoorBitsMath
import Derived.Test.YtibofkjonepbpaaDoorHasMath
namespace Go.Proofs.YtibofkjonepbpaaDoor
open Go.RowKit Go.PlainAid
set_option linter.unusedVariables false
/-- The third sign: x or a stroke, or of one with its extra number the one sign or the other. -/
def third (m : Nat) (set : Bool) (lo hi : UInt8) : UInt8 := if set then (if b1 m then lo else hi) else sg (b1 m) 120
/-- Three signs of bits, the last one by another sign, if it is set. -/
def thr (m : Nat) (set : Bool) (lo hi : UInt8) : ByteArray := ⟨#[sg (b4 m) 114, sg (b2 m) 119, third m set lo hi]⟩
def s1 (n : Nat) : Bool := n / 2048 == 1
def s2 (n : Nat) : Bool := n / 1024 % 2 == 1
def s3 (n : Nat) : Bool := n / 512 % 2 == 1
def m1 (n : Nat) : ByteArray := thr (n / 64 % 8) (s1 n) 115 83
def m2 (n : Nat) : ByteArray := thr (n / 8 % 8) (s2 n) 115 83
def m3 (n : Nat) : ByteArray := thr (n % 8) (s3 n) 116 84
/-- The nine signs of a mode. -/
def modeT (n : Nat) : ByteArray := m1 n ++ m2 n ++ m3 n
/-- ModeText, of whatever number. -/
def modeS (n : Int) : ByteArray := if 0 ≤ n ∧ n ≤ 4095 then modeT n.toNat else ⟨#[]⟩
theorem modeS_in {n : Nat} (h : n ≤ 4095) : modeS n = modeT n := by
  have : 0 ≤ (n : Int) ∧ (n : Int) ≤ 4095 := by omega
  simp [modeS, this]
theorem modeS_off {n : Int} (h : ¬ (0 ≤ n ∧ n ≤ 4095)) : modeS n = ⟨#[]⟩ := by rw [modeS, if_neg h]
theorem thr_size (m : Nat) (set : Bool) (lo hi : UInt8) : (thr m set lo hi).size = 3 := rfl
theorem and7m (n : Nat) (h : n ≤ 4095) : bits .and .i64 (n : Int) 7 = ((n % 8 : Nat) : Int) := by
  have e : n &&& 7 = n % 8 := Nat.and_two_pow_sub_one_eq_mod n 3
  have := i64_and_nat n 7 (by omega) (by decide)
  rw [e] at this
  exact this
/-- The extra numbers. -/
theorem and_pow (n k : Nat) : n &&& 2 ^ k = 2 ^ k * (n / 2 ^ k % 2) := by
  apply Nat.eq_of_testBit_eq
  intro i
  rw [Nat.testBit_and, Nat.testBit_two_pow]
  have hb := Nat.testBit_eq_decide_div_mod_eq (x := n) (i := k)
  by_cases e : k = i
  · subst e
    rw [hb]
    rcases Nat.mod_two_eq_zero_or_one (n / 2 ^ k) with e | e <;> rw [e] <;> simp
  · rcases Nat.mod_two_eq_zero_or_one (n / 2 ^ k) with e2 | e2 <;> rw [e2] <;> simp [e]
theorem and2048 (n : Nat) (h : n ≤ 4095) : (bits .and .i64 (n : Int) 2048 == 0) = !s1 n := by
  have h1 := i64_and_nat n 2048 (by omega) (by decide)
  have h2 := and_pow n 11
  rw [show (2 : Nat) ^ 11 = 2048 from rfl] at h2
  rw [show ((2048 : Nat) : Int) = 2048 from rfl, h2] at h1
  rw [h1]
  unfold s1
  rcases (by omega : n / 2048 = 0 ∨ n / 2048 = 1) with e | e <;> rw [e] <;> rfl
theorem and1024 (n : Nat) (h : n ≤ 4095) : (bits .and .i64 (n : Int) 1024 == 0) = !s2 n := by
  have h1 := i64_and_nat n 1024 (by omega) (by decide)
  have h2 := and_pow n 10
  rw [show (2 : Nat) ^ 10 = 1024 from rfl] at h2
  rw [show ((1024 : Nat) : Int) = 1024 from rfl, h2] at h1
  rw [h1]
  unfold s2
  rcases Nat.mod_two_eq_zero_or_one (n / 1024) with e | e <;> rw [e] <;> rfl
theorem and512 (n : Nat) (h : n ≤ 4095) : (bits .and .i64 (n : Int) 512 == 0) = !s3 n := by
  have h1 := i64_and_nat n 512 (by omega) (by decide)
  have h2 := and_pow n 9
  rw [show (2 : Nat) ^ 9 = 512 from rfl] at h2
  rw [show ((512 : Nat) : Int) = 512 from rfl, h2] at h1
  rw [h1]
  unfold s3
  rcases Nat.mod_two_eq_zero_or_one (n / 512) with e | e <;> rw [e] <;> rfl
theorem and7d (n k : Nat) (h : n ≤ 4095) : bits .and .i64 ((n : Int) / (k : Int)) 7 = ((n / k % 8 : Nat) : Int) := by
  have := and7m (n / k) (Nat.le_trans (Nat.div_le_self _ _) h)
  have e : ((n / k : Nat) : Int) = (n : Int) / (k : Int) := by omega
  rw [e] at this
  exact this
end Go.Proofs.YtibofkjonepbpaaDoor
