/- Plain mathematics of GetNum: what stands at a place of a text, byte by byte. Nothing here names a program. -/
import Derived.WalkKit
import Derived.WalkSpells
import Derived.PlainAid
import Derived.Laws.BitsAllLaws
namespace Go.Proofs.Ytddkmlkfphmdoab
open Go.RowKit
set_option linter.unusedVariables false
/-- Byte i of a text as a number; 0 behind its end. -/
def byte (s : ByteArray) (i : Nat) : Nat := if h : i < s.size then (s[i]'h).toNat else 0
theorem get_byte (s : ByteArray) : ∀ (n : Nat) (h : n < s.size), ((s[n]'h).toNat : Int) = (byte s n : Int) := fun n h => by unfold byte; rw [dif_pos h]
theorem byte_le (s : ByteArray) (i : Nat) : byte s i ≤ 255 := by
  unfold byte; split
  · have := (s[i]).toNat_lt; omega
  · omega
/-- A number from 0 to 2^64-1 back as one of int64. -/
def unf (u : Nat) : Int := if u % 2 = 1 then -((u / 2 : Nat) : Int) - 1 else ((u / 2 : Nat) : Int)
/-- The number with one byte more. -/
def put7 (k acc b : Nat) : Nat := acc + b % 128 * 128 ^ k
/-- What stands at place a: the bytes from the k-th on, 'acc' being read: the number, the place behind it, the code. -/
def scan (s : ByteArray) (a : Nat) : Nat → Nat → Nat → Int × Int × Int
  | 0, _, _ => (0, 0, 3)
  | f + 1, k, acc =>
    if s.size ≤ a + k then (0, 0, 4)
    else if k = 9 ∧ 1 < byte s (a + k) then (0, 0, 3)
    else if byte s (a + k) < 128 then
      if byte s (a + k) = 0 ∧ 0 < k then (0, 0, 3) else (unf (put7 k acc (byte s (a + k))), (a : Int) + k + 1, 0)
    else scan s a f (k + 1) (put7 k acc (byte s (a + k)))
/-- From the k-th byte on it comes to what it comes to from the first one on. -/
def Goes (s : ByteArray) (a k acc : Nat) : Prop := scan s a (10 - k) k acc = scan s a 10 0 0 ∧ acc < 128 ^ k
theorem goes_start (s : ByteArray) (a : Nat) : Goes s a 0 0 := ⟨rfl, by decide⟩
theorem fuel {k : Nat} (h : k ≤ 9) : ∃ f, 10 - k = f + 1 ∧ f = 10 - (k + 1) := ⟨9 - k, by omega, by omega⟩
theorem goes_short {s : ByteArray} {a k acc : Nat} (hk : k ≤ 9) (h : Goes s a k acc) (h1 : s.size ≤ a + k) : scan s a 10 0 0 = (0, 0, 4) := by
  obtain ⟨f, e, _⟩ := fuel hk
  rw [← h.1, e, scan, if_pos h1]
theorem goes_nine {s : ByteArray} {a k acc : Nat} (hk : k = 9) (h : Goes s a k acc) (h1 : a + k < s.size) (h2 : 1 < byte s (a + k)) : scan s a 10 0 0 = (0, 0, 3) := by
  obtain ⟨f, e, _⟩ := fuel (k := k) (by omega)
  rw [← h.1, e, scan, if_neg (by omega), if_pos ⟨hk, h2⟩]
theorem goes_last {s : ByteArray} {a k acc : Nat} (hk : k ≤ 9) (h : Goes s a k acc) (h1 : a + k < s.size) (h2 : ¬ (k = 9 ∧ 1 < byte s (a + k))) (h3 : byte s (a + k) < 128) :
    scan s a 10 0 0 = if byte s (a + k) = 0 ∧ 0 < k then (0, 0, 3) else (unf (put7 k acc (byte s (a + k))), (a : Int) + k + 1, 0) := by
  obtain ⟨f, e, _⟩ := fuel hk
  rw [← h.1, e, scan, if_neg (by omega), if_neg h2, if_pos h3]
theorem pow_seven (k : Nat) : 128 ^ k = 2 ^ (7 * k) := by rw [Nat.pow_mul]
theorem put7_lt {k acc b : Nat} (h : acc < 128 ^ k) : put7 k acc b < 128 ^ (k + 1) := by
  unfold put7
  have h1 : b % 128 ≤ 127 := by omega
  have h2 : b % 128 * 128 ^ k ≤ 127 * 128 ^ k := Nat.mul_le_mul_right _ h1
  rw [Nat.pow_succ]
  omega
theorem goes_more {s : ByteArray} {a k acc : Nat} (hk : k ≤ 9) (h : Goes s a k acc) (h1 : a + k < s.size) (h2 : ¬ (k = 9 ∧ 1 < byte s (a + k))) (h3 : 128 ≤ byte s (a + k)) :
    k + 1 ≤ 9 ∧ Goes s a (k + 1) (put7 k acc (byte s (a + k))) := by
  refine ⟨by omega, ?_, put7_lt h.2⟩
  obtain ⟨f, e, e2⟩ := fuel hk
  rw [← h.1, e, scan, if_neg (by omega), if_neg h2, if_neg (by omega), e2]
theorem put7_le {k acc b : Nat} (hk : k ≤ 9) (h : acc < 128 ^ k) (h9 : k = 9 → b ≤ 1) : put7 k acc b ≤ 18446744073709551615 := by
  by_cases e : k = 9
  · subst e
    have hb := h9 rfl
    unfold put7
    have e9 : (128 : Nat) ^ 9 = 9223372036854775808 := by decide
    rw [e9] at h ⊢
    have : b % 128 ≤ 1 := by omega
    omega
  · have h1 := put7_lt (b := b) h
    have h2 : (128 : Nat) ^ (k + 1) ≤ 128 ^ 9 := Nat.pow_le_pow_right (by decide) (by omega)
    have e9 : (128 : Nat) ^ 9 = 9223372036854775808 := by decide
    omega
theorem part_le {k acc b : Nat} (hk : k ≤ 9) (h : acc < 128 ^ k) (h9 : k = 9 → b ≤ 1) : b % 128 * 128 ^ k ≤ 18446744073709551615 := by
  have := put7_le hk h h9
  unfold put7 at this
  omega
theorem wrap_nat {x : Nat} (h : x ≤ 18446744073709551615) : IntKind.u64.wrap (x : Int) = (x : Int) := by
  rw [IntKind.wrap_u64]; omega
theorem part_cast (k b : Nat) : ((b : Int) % 128 * 2 ^ (7 * k)) = ((b % 128 * 128 ^ k : Nat) : Int) := by
  rw [pow_seven, Int.natCast_mul, Int.natCast_pow]
  rfl
/-- The number as spec makes it: 'u + c%128<<uint(7*i)'. -/
theorem put_add {k acc b : Nat} (hk : k ≤ 9) (h : acc < 128 ^ k) (h9 : k = 9 → b ≤ 1) :
    IntKind.u64.wrap ((acc : Int) + IntKind.u64.wrap ((b : Int) % 128 * 2 ^ (7 * k))) = (put7 k acc b : Int) := by
  rw [part_cast, wrap_nat (part_le hk h h9), ← Int.natCast_add]
  exact wrap_nat (put7_le hk h h9)
/-- The number as impl makes it: 'u | uint64(b&127) << (7*count)'. -/
theorem put_or {k acc b : Nat} (hk : k ≤ 9) (h : acc < 128 ^ k) (h9 : k = 9 → b ≤ 1) :
    bits .or .u64 (acc : Int) (IntKind.u64.wrap ((b : Int) % 128 * 2 ^ (7 * k))) = (put7 k acc b : Int) := by
  have h1 := put7_le hk h h9
  have h2 := part_le hk h h9
  have h3 : acc ≤ 18446744073709551615 := by unfold put7 at h1; omega
  rw [part_cast, wrap_nat h2, u64_or_nat _ _ (by omega) (by omega)]
  have e : acc ||| b % 128 * 128 ^ k = put7 k acc b := by
    unfold put7
    rw [pow_seven, Nat.mul_comm, Nat.or_comm, ← Nat.two_pow_add_eq_or_of_lt (by rw [← pow_seven]; exact h), Nat.add_comm]
  rw [e]
theorem and127_u8 {b : Nat} (h : b ≤ 255) : bits .and .u8 (b : Int) 127 = (b : Int) % 128 := by
  have h1 := u8_and_nat b 127 (by omega) (by decide)
  have e : b &&& 127 = b % 128 := Nat.and_two_pow_sub_one_eq_mod b 7
  rw [e] at h1
  exact h1.trans (by omega)
theorem unf_odd {u : Nat} (h : u % 2 = 1) : unf u = -((u : Int) / 2) - 1 := by unfold unf; rw [if_pos h]; omega
theorem unf_even {u : Nat} (h : ¬ u % 2 = 1) : unf u = (u : Int) / 2 := by unfold unf; rw [if_neg h]; omega
theorem unf_bd {u : Nat} (h : u ≤ 18446744073709551615) : -9223372036854775808 ≤ unf u ∧ unf u ≤ 9223372036854775807 := by unfold unf; split <;> omega
/-- impl's way back: 'int64(u>>1) ^ -int64(u&1)'. -/
theorem and1 {u : Nat} (h : u ≤ 18446744073709551615) : bits .and .u64 (u : Int) 1 = (u : Int) % 2 := by
  have h1 := u64_and_nat u 1 (by omega) (by decide)
  rw [Nat.and_one_is_mod] at h1
  exact h1.trans (by omega)
end Go.Proofs.Ytddkmlkfphmdoab
