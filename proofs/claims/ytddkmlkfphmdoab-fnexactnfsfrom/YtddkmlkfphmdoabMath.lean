/- Plain mathematics of the CRC register, in the walk's own words: the step of one bit, of one byte, of the first k bytes of a text, and their bounds. -/
import Derived.WalkKit
import Derived.OpenShut
import Derived.PlainAid
namespace Go.Proofs.Ytddkmlkfphmdoab
open Go.RowKit Go.PlainAid
/-- One bit. -/
def stp (r : Int) : Int := if (bits .and .u32 r 1 == 1) = true then bits .xor .u32 (r / 2) 3988292384 else r / 2
/-- k bits. -/
def stpN : Nat → Int → Int
  | 0, r => r
  | k + 1, r => stp (stpN k r)
/-- The register behind the first k bytes of s. -/
def regTo (s : ByteArray) (r : Int) : Nat → Int
  | 0 => r
  | k + 1 => stpN 8 (bits .xor .u32 (regTo s r k) (bt s k))
/-- The register is one of 32 bits. -/
def Reg (r : Int) : Prop := 0 ≤ r ∧ r ≤ 4294967295
theorem Reg_bits (op : BinOp) (x y : Int) : Reg (bits op .u32 x y) := by
  have h := bounds_u32 (wf_bits op .u32 x y)
  exact ⟨h.1, by have := h.2; omega⟩
theorem Reg_stp {r : Int} (h : Reg r) : Reg (stp r) := by
  unfold stp
  split
  · exact Reg_bits _ _ _
  · obtain ⟨a, b⟩ := h; exact ⟨by omega, by omega⟩
theorem Reg_stpN (k : Nat) {r : Int} (h : Reg r) : Reg (stpN k r) := by
  induction k with
  | zero => exact h
  | succ k ih => exact Reg_stp ih
theorem Reg_regTo (s : ByteArray) {r : Int} (h : Reg r) (k : Nat) : Reg (regTo s r k) := by
  cases k with
  | zero => exact h
  | succ k => exact Reg_stpN _ (Reg_bits _ _ _)
end Go.Proofs.Ytddkmlkfphmdoab
