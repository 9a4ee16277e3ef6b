/- Plain mathematics of PutNum: the number that is written, its bytes, and rows of bytes that grow. Nothing here names a program. -/
import Derived.WalkKit
import Derived.WalkSpells
import Derived.PlainAid
import Derived.Laws.BitsAllLaws
import Derived.Laws.Bits128
import Derived.Test.YtgojbilbkfilgaaBytes
namespace Go.Proofs.Ytgojbilbkfilgaa
open Go.RowKit Go.PlainAid
set_option linter.unusedVariables false
/-- n of int64 as a number from 0 to 2^64-1. -/
def foldN (n : Int) : Nat := if n < 0 then (-2 * n - 1).toNat else (2 * n).toNat
theorem fold_neg {n : Int} (h : n < 0) : (foldN n : Int) = 2 * -(n + 1) + 1 := by unfold foldN; rw [if_pos h]; omega
theorem fold_pos {n : Int} (h : 0 ≤ n) : (foldN n : Int) = 2 * n := by unfold foldN; rw [if_neg (by omega)]; omega
theorem fold_le {n : Int} (h1 : -9223372036854775808 ≤ n) (h2 : n ≤ 9223372036854775807) : foldN n ≤ 18446744073709551615 := by
  unfold foldN; split <;> omega
theorem xor_ones (x : Nat) (h : x < 2 ^ 64) : x ^^^ 18446744073709551615 = 18446744073709551615 - x := by
  apply Nat.eq_of_testBit_eq
  intro i
  have e : (18446744073709551615 : Nat) = 2 ^ 64 - 1 := by decide
  have e2 : 18446744073709551615 - x = 2 ^ 64 - (x + 1) := by omega
  rw [Nat.testBit_xor, e2, Nat.testBit_two_pow_sub_succ h, e, Nat.testBit_two_pow_sub_one]
  by_cases hi : i < 64
  · simp [hi]
  · have hx : x.testBit i = false := Nat.testBit_lt_two_pow (Nat.lt_of_lt_of_le h (Nat.pow_le_pow_right (by decide) (by omega)))
    simp [hi, hx]
/-- impl's way to it: 'uint64(n)<<1 ^ uint64(n>>63)'. -/
theorem fold_bits {n : Int} (h1 : -9223372036854775808 ≤ n) (h2 : n ≤ 9223372036854775807) :
    bits .xor .u64 (IntKind.u64.wrap (IntKind.u64.wrap n * 2)) (IntKind.u64.wrap (n / 9223372036854775808)) = (foldN n : Int) := by
  by_cases hn : n < 0
  · have e1 : n / 9223372036854775808 = -1 := by omega
    rw [fold_neg hn, e1, IntKind.wrap_u64, IntKind.wrap_u64, IntKind.wrap_u64]
    have e2 : n % 18446744073709551616 * 2 % 18446744073709551616 = 2 * n + 18446744073709551616 := by omega
    have e3 : (-1 : Int) % 18446744073709551616 = 18446744073709551615 := by decide
    rw [e2, e3, u64_xor _ _ (by omega) (by omega) (by decide) (by decide)]
    have e4 : ((18446744073709551615 : Int)).toNat = 18446744073709551615 := rfl
    rw [e4, xor_ones _ (by omega)]
    omega
  · have e1 : n / 9223372036854775808 = 0 := by omega
    rw [fold_pos (by omega), e1, IntKind.wrap_u64, IntKind.wrap_u64, IntKind.wrap_u64]
    have e2 : n % 18446744073709551616 * 2 % 18446744073709551616 = 2 * n := by omega
    have e3 : (0 : Int) % 18446744073709551616 = 0 := by decide
    rw [e2, e3, u64_xor _ _ (by omega) (by omega) (by decide) (by decide)]
    have e4 : ((0 : Int)).toNat = 0 := rfl
    rw [e4, Nat.xor_zero]
    omega
/-- The bytes of a number, seven bits a byte, the lowest first, 128 more in all but the last. -/
def encF : Nat → Nat → List UInt8
  | 0, _ => []
  | f + 1, u => if u < 128 then [UInt8.ofNat u] else UInt8.ofNat (u % 128 + 128) :: encF f (u / 128)
/-- Ten bytes at most: a number below 2^64. -/
def enc (u : Nat) : List UInt8 := encF (u + 1) u
theorem encF_more (f g u : Nat) (hf : u < f) (hg : u < g) : encF f u = encF g u := by
  induction f generalizing g u with
  | zero => omega
  | succ f ih =>
    cases g with
    | zero => omega
    | succ g =>
      unfold encF
      by_cases h : u < 128
      · simp [h]
      · simp only [h, if_false]
        rw [ih g (u / 128) (by omega) (by omega)]
theorem enc_last {u : Nat} (h : u < 128) : enc u = [UInt8.ofNat u] := by simp [enc, encF, h]
theorem enc_more {u : Nat} (h : 128 ≤ u) : enc u = UInt8.ofNat (u % 128 + 128) :: enc (u / 128) := by
  have h2 : ¬ u < 128 := by omega
  unfold enc
  rw [encF, if_neg h2, encF_more u (u / 128 + 1) (u / 128) (by omega) (by omega)]
theorem enc_length (k : Nat) : ∀ u, u < 128 ^ (k + 1) → (enc u).length ≤ k + 1 := by
  induction k with
  | zero => intro u hu; rw [enc_last (by simpa using hu)]; simp
  | succ k ih =>
    intro u hu
    by_cases h : u < 128
    · rw [enc_last h]; simp
    · rw [enc_more (by omega)]
      have := ih (u / 128) (by rw [Nat.div_lt_iff_lt_mul (by decide), ← Nat.pow_succ]; exact hu)
      simp only [List.length_cons]
      omega
theorem enc_ten {u : Nat} (h : u ≤ 18446744073709551615) : (enc u).length ≤ 10 := enc_length 9 u (by omega)
theorem enc_pos (u : Nat) : 0 < (enc u).length := by
  by_cases h : u < 128
  · rw [enc_last h]; simp
  · rw [enc_more (by omega)]; simp
theorem enc_step {acc : List UInt8} {u m : Nat} (h : 128 ≤ u) (e : acc ++ enc u = enc m) : (acc ++ [UInt8.ofNat (u % 128 + 128)]) ++ enc (u / 128) = enc m := by
  rw [← e, enc_more h]; simp
theorem enc_end {acc : List UInt8} {u m : Nat} (h : u < 128) (e : acc ++ enc u = enc m) : acc ++ [UInt8.ofNat u] = enc m := by
  rw [← e, enc_last h]
theorem acc_le {acc : List UInt8} {u m : Nat} (hm : m ≤ 18446744073709551615) (e : acc ++ enc u = enc m) : acc.length ≤ 9 := by
  have h1 := enc_ten hm
  have h2 := enc_pos u
  rw [← e] at h1
  simp only [List.length_append] at h1
  omega
/-- A byte put behind a row of bytes. -/
theorem cells_snoc (acc : List UInt8) (x : Nat) (h : x < 256) : Lib.byteCells acc ++ [Value.int .u8 (x : Int)] = Lib.byteCells (acc ++ [UInt8.ofNat x]) := by
  simp [Lib.byteCells]
  omega
theorem own_snoc {w : World} {B : Nat} {t : TypeId} {v : Value} {acc : List UInt8} {x : Nat} {y : Int} (hy : y = (x : Int)) (h : x < 256) (ho : w.ownsRow B t 1 v (acc.length + 1) (Lib.byteCells acc ++ [Value.int .u8 y])) :
    w.ownsRow B t 1 v (acc ++ [UInt8.ofNat x]).length (Lib.byteCells (acc ++ [UInt8.ofNat x])) := by
  subst hy
  rw [← cells_snoc acc x h, List.length_append]
  exact ho
theorem own_start (w : World) (t : TypeId) : (w.alloc (.cells #[] t)).ownsRow w.heap.size t 1 (.slice (some ⟨w.heap.size, 0, none⟩) 0 0) ([] : List UInt8).length (Lib.byteCells []) := by
  refine ⟨rfl, .inr ⟨w.heap.size, 0, #[], rfl, Nat.le_refl _, ?_, Nat.le_refl _, by decide, rfl, rfl⟩⟩
  rw [World.alloc]
  exact Array.getElem?_push_size
/-- Of a row that is owned and not empty: where it lies, and that it reads as a text. -/
theorem own_bytes {w : World} {B : Nat} {t : TypeId} {v : Value} {l : List UInt8} (h : w.ownsRow B t 1 v l.length (Lib.byteCells l)) (hl : 0 < l.length) :
    ∃ g cap, v = .slice (some ⟨g, 0, none⟩) l.length cap ∧ Lib.Bytes w g 0 ⟨l.toArray⟩ := by
  obtain ⟨_, h | ⟨g, cap, cur, rfl, _, hg, hc, _, hs, ht⟩⟩ := h
  · omega
  · refine ⟨g, cap, rfl, ?_⟩
    intro i hi
    have hi' : i < l.length := by simpa [ByteArray.size] using hi
    have e1 : (Lib.byteCells l)[i]? = some (.int .u8 (l[i].toNat : Int)) := by simp [Lib.byteCells, hi']
    have e2 : cur[i]? = some (.int .u8 (l[i].toNat : Int)) := by
      rw [← ht, List.getElem?_take_of_lt (by omega)] at e1
      simpa using e1
    have : w.cell? ⟨g, 0 + i, none⟩ = cur[i]? := by simp [World.cell?, hg]
    rw [this, e2]
    rfl
/-- Behind the last byte. -/
theorem own_last {w : World} {B : Nat} {t : TypeId} {v : Value} {acc : List UInt8} {u m : Nat} {y : Int} (hy : y = (u : Int)) (h : u < 128) (e : acc ++ enc u = enc m) (ho : w.ownsRow B t 1 v (acc.length + 1) (Lib.byteCells acc ++ [Value.int .u8 y])) :
    ∃ g cap, v = .slice (some ⟨g, 0, none⟩) (enc m).length cap ∧ Lib.Bytes w g 0 ⟨(enc m).toArray⟩ := by
  have h1 := own_snoc hy (by omega) ho
  rw [enc_end h e] at h1
  exact own_bytes h1 (enc_pos m)
theorem own_block {w : World} {B : Nat} {t : TypeId} {v : Value} {n : Nat} {xs : List Value} (h : w.ownsRow B t 1 v n xs) : ∀ k, v.ownBlock = some k → B ≤ k := by
  obtain ⟨_, ⟨rfl, _⟩ | ⟨g, cap, cur, rfl, hb, _⟩⟩ := h
  · intro k hk; simp [Value.ownBlock] at hk
  · intro k hk; simp [Value.ownBlock] at hk; omega
theorem one_cell (x : Int) : ∀ u ∈ [Value.int .u8 x], u.oneCell' = true := by
  intro u hu
  simp at hu
  subst hu
  rfl
end Go.Proofs.Ytgojbilbkfilgaa
