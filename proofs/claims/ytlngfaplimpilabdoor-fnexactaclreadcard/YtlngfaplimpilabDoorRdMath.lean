/- Three signs read back: which bits they are. Nothing here names a program. -/
import Derived.Test.YtlngfaplimpilabDoorBitsMath
namespace Go.Proofs.YtlngfaplimpilabDoor
open Go.RowKit Go.PlainAid
set_option linter.unusedVariables false
/-- The bits whose three signs a text is. -/
def rdB (s : ByteArray) : Option Nat := (List.range 8).find? fun n => decide (bitsT n = s)
theorem bitsT_inj {m n : Nat} (hm : m ≤ 7) (hn : n ≤ 7) (h : bitsT m = bitsT n) : m = n := by
  have h' := congrArg (fun s : ByteArray => s.data.toList) h
  rcases eight hm with rfl | rfl | rfl | rfl | rfl | rfl | rfl | rfl <;> rcases eight hn with rfl | rfl | rfl | rfl | rfl | rfl | rfl | rfl <;> first | rfl | (exact absurd h' (by decide))
theorem rdB_some {s : ByteArray} {n : Nat} (hn : n ≤ 7) (h : bitsT n = s) : rdB s = some n := by
  subst h
  rcases eight hn with rfl | rfl | rfl | rfl | rfl | rfl | rfl | rfl <;> decide
theorem rdB_none {s : ByteArray} (h : ∀ n, n ≤ 7 → bitsT n ≠ s) : rdB s = none := by
  unfold rdB
  rw [List.find?_eq_none]
  intro n hn
  rw [List.mem_range] at hn
  simp [h n (by omega)]
theorem rdB_inv {s : ByteArray} {n : Nat} (h : rdB s = some n) : n ≤ 7 ∧ bitsT n = s := by
  have h1 := List.find?_some h
  have h2 := List.mem_of_find?_eq_some h
  rw [List.mem_range] at h2
  exact ⟨by omega, by simpa using h1⟩
theorem rdB_size {s : ByteArray} (h : s.size ≠ 3) : rdB s = none := rdB_none fun n _ e => h (by rw [← e]; rfl)
theorem ext3 {s : ByteArray} {a b c : UInt8} (hs : s.size = 3) (h0 : bt s 0 = (a.toNat : Int)) (h1 : bt s 1 = (b.toNat : Int)) (h2 : bt s 2 = (c.toNat : Int)) : s = ⟨#[a, b, c]⟩ := by
  obtain ⟨⟨l⟩⟩ := s
  have hl : l.length = 3 := hs
  match l, hl with
  | [x, y, z], _ =>
    have e0 : x.toNat = a.toNat := by
      have : bt ⟨⟨[x, y, z]⟩⟩ 0 = (x.toNat : Int) := rfl
      omega
    have e1 : y.toNat = b.toNat := by
      have : bt ⟨⟨[x, y, z]⟩⟩ 1 = (y.toNat : Int) := rfl
      omega
    have e2 : z.toNat = c.toNat := by
      have : bt ⟨⟨[x, y, z]⟩⟩ 2 = (z.toNat : Int) := rfl
      omega
    rw [UInt8.toNat_inj.1 e0, UInt8.toNat_inj.1 e1, UInt8.toNat_inj.1 e2]
theorem bitsT_bt (n : Nat) : bt (bitsT n) 0 = ((sg (b4 n) 114).toNat : Int) ∧ bt (bitsT n) 1 = ((sg (b2 n) 119).toNat : Int) ∧ bt (bitsT n) 2 = ((sg (b1 n) 120).toNat : Int) := ⟨rfl, rfl, rfl⟩
theorem rd_bad0 {s : ByteArray} (h1 : bt s 0 ≠ 114) (h2 : bt s 0 ≠ 45) : rdB s = none := rdB_none fun n _ e => by
  have := (bitsT_bt n).1
  rw [e, sg_toNat] at this
  split at this
  · exact h1 this
  · exact h2 this
theorem rd_bad1 {s : ByteArray} (h1 : bt s 1 ≠ 119) (h2 : bt s 1 ≠ 45) : rdB s = none := rdB_none fun n _ e => by
  have := (bitsT_bt n).2.1
  rw [e, sg_toNat] at this
  split at this
  · exact h1 this
  · exact h2 this
theorem rd_bad2 {s : ByteArray} (h1 : bt s 2 ≠ 120) (h2 : bt s 2 ≠ 45) : rdB s = none := rdB_none fun n _ e => by
  have := (bitsT_bt n).2.2
  rw [e, sg_toNat] at this
  split at this
  · exact h1 this
  · exact h2 this
/-- Two answers of readBits, readOct and the like: the number, and whether there is one. -/
def optV (o : Option Nat) : Value := .tuple #[.int .i64 (o.getD 0 : Nat), .bool o.isSome]
end Go.Proofs.YtlngfaplimpilabDoor
