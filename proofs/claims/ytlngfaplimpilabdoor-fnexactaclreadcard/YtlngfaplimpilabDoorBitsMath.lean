/- Bits as three signs, and back: plain mathematics. Nothing here names a program. -/
import Derived.WalkKit
import Derived.PlainAid
namespace Go.Proofs.YtlngfaplimpilabDoor
open Go.RowKit Go.PlainAid
set_option linter.unusedVariables false
/-- A sign, or a stroke. -/
def sg (x : Bool) (c : UInt8) : UInt8 := if x then c else 45
def b4 (n : Nat) : Bool := n / 4 % 2 == 1
def b2 (n : Nat) : Bool := n / 2 % 2 == 1
def b1 (n : Nat) : Bool := n % 2 == 1
/-- The three signs of bits. -/
def bitsT (n : Nat) : ByteArray := ⟨#[sg (b4 n) 114, sg (b2 n) 119, sg (b1 n) 120]⟩
/-- BitsText, of whatever number. -/
def bitsS (n : Int) : ByteArray := if 0 ≤ n ∧ n ≤ 7 then bitsT n.toNat else ⟨#[]⟩
theorem bitsS_in {n : Nat} (h : n ≤ 7) : bitsS n = bitsT n := by
  have : 0 ≤ (n : Int) ∧ (n : Int) ≤ 7 := by omega
  simp [bitsS, this]
theorem bitsS_off {n : Int} (h : ¬ (0 ≤ n ∧ n ≤ 7)) : bitsS n = ⟨#[]⟩ := by rw [bitsS, if_neg h]
theorem eight {n : Nat} (h : n ≤ 7) : n = 0 ∨ n = 1 ∨ n = 2 ∨ n = 3 ∨ n = 4 ∨ n = 5 ∨ n = 6 ∨ n = 7 := by omega
theorem bitsT_size (n : Nat) : (bitsT n).size = 3 := rfl
theorem sg_toNat (x : Bool) (c : UInt8) : ((sg x c).toNat : Int) = if x then (c.toNat : Int) else 45 := by cases x <;> rfl
end Go.Proofs.YtlngfaplimpilabDoor
