/- Plain mathematics of a name: which byte may stand where. -/
import Derived.WalkKit
import Derived.PlainAid
namespace Go.Proofs.Ytdmdnhfoeokfeae
open Go.RowKit Go.PlainAid
/-- A small letter, a digit. -/
def sm (b : Int) : Bool := decide (97 ≤ b) && decide (b ≤ 122)
def dg (b : Int) : Bool := decide (48 ≤ b) && decide (b ≤ 57)
/-- The byte at place i may stand there. -/
def okAt (s : ByteArray) (i : Nat) : Bool := sm (bt s i) || (!(i == 0) && (dg (bt s i) || bt s i == 95))
def okTo (s : ByteArray) : Nat → Bool
  | 0 => true
  | k + 1 => okTo s k && okAt s k
/-- It is a name. -/
def nameB (s : ByteArray) : Bool := decide (1 ≤ s.size) && decide (s.size ≤ 20) && okTo s s.size
theorem sm_yes {b : Int} (h1 : 97 ≤ b) (h2 : b ≤ 122) : sm b = true := by simp [sm, h1, h2]
theorem sm_no {b : Int} (h : b < 97 ∨ 122 < b) : sm b = false := by simp [sm]; omega
theorem dg_yes {b : Int} (h1 : 48 ≤ b) (h2 : b ≤ 57) : dg b = true := by simp [dg, h1, h2]
theorem dg_no {b : Int} (h : b < 48 ∨ 57 < b) : dg b = false := by simp [dg]; omega
theorem okTo_false {s : ByteArray} {k n : Nat} (h : k < n) (hk : okAt s k = false) : okTo s n = false := by
  induction n with
  | zero => omega
  | succ n ih =>
    by_cases e : k = n
    · subst e; simp [okTo, hk]
    · simp [okTo, ih (by omega)]
theorem name_no {s : ByteArray} {k : Nat} (h : k < s.size) (hk : okAt s k = false) : nameB s = false := by
  simp [nameB, okTo_false h hk]
theorem name_short {s : ByteArray} (h : s.size < 1) : nameB s = false := by
  have : ¬ 1 ≤ s.size := by omega
  simp [nameB, this]
theorem name_long {s : ByteArray} (h : 20 < s.size) : nameB s = false := by
  have : ¬ s.size ≤ 20 := by omega
  simp [nameB, this]
theorem name_yes {s : ByteArray} (h1 : 1 ≤ s.size) (h2 : s.size ≤ 20) (h : okTo s s.size = true) : nameB s = true := by
  simp [nameB, h1, h2, h]
theorem okTo_next {s : ByteArray} {k : Nat} (h : okTo s k = true) (hk : okAt s k = true) : okTo s (k + 1) = true := by simp [okTo, h, hk]
theorem ok_small {s : ByteArray} {k : Nat} (h : sm (bt s k) = true) : okAt s k = true := by simp [okAt, h]
theorem ok_other {s : ByteArray} {k : Nat} (h0 : 0 < k) (h : dg (bt s k) = true ∨ bt s k = 95) : okAt s k = true := by
  have : k ≠ 0 := by omega
  rcases h with h | h <;> simp [okAt, h, this]
theorem no_first {s : ByteArray} {k : Nat} (h0 : k = 0) (h : sm (bt s k) = false) : okAt s k = false := by
  subst h0; simp [okAt, h]
theorem no_other {s : ByteArray} {k : Nat} (h : sm (bt s k) = false) (h2 : dg (bt s k) = false) (h3 : ¬ bt s k = 95) : okAt s k = false := by
  simp [okAt, h, h2, h3]
end Go.Proofs.Ytdmdnhfoeokfeae
