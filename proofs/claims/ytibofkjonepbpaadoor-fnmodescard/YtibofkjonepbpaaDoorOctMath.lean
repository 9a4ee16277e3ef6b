/- A mode as four digits to the base of eight, and back: plain mathematics. Nothing here names a program. -/
import Derived.WalkKit
import Derived.PlainAid
import Derived.Test.YtibofkjonepbpaaDoorBytes
namespace Go.Proofs.YtibofkjonepbpaaDoor
open Go.RowKit Go.PlainAid
set_option linter.unusedVariables false
/-- A digit's sign. -/
def od (k : Nat) : UInt8 := UInt8.ofNat (48 + k)
theorem od_toNat {k : Nat} (h : k ≤ 7) : ((od k).toNat : Int) = 48 + (k : Int) := by
  have : (48 + k) % 256 = 48 + k := by omega
  simp [od, UInt8.toNat_ofNat']
  omega
/-- The four digits of a mode. -/
def octT (n : Nat) : ByteArray := ⟨#[od (n / 512), od (n / 64 % 8), od (n / 8 % 8), od (n % 8)]⟩
/-- OctText, of whatever number. -/
def octS (n : Int) : ByteArray := if 0 ≤ n ∧ n ≤ 4095 then octT n.toNat else ⟨#[]⟩
theorem octS_in {n : Nat} (h : n ≤ 4095) : octS n = octT n := by
  have : 0 ≤ (n : Int) ∧ (n : Int) ≤ 4095 := by omega
  simp [octS, this]
theorem octS_off {n : Int} (h : ¬ (0 ≤ n ∧ n ≤ 4095)) : octS n = ⟨#[]⟩ := by rw [octS, if_neg h]
theorem octT_size (n : Nat) : (octT n).size = 4 := rfl
theorem cells4_bytes {w : World} {B : Nat} {a b c d : UInt8} (h0 : w.cell? ⟨B, 0, none⟩ = some (.int .u8 a.toNat)) (h1 : w.cell? ⟨B, 1, none⟩ = some (.int .u8 b.toNat)) (h2 : w.cell? ⟨B, 2, none⟩ = some (.int .u8 c.toNat)) (h3 : w.cell? ⟨B, 3, none⟩ = some (.int .u8 d.toNat)) : Lib.Bytes w B 0 ⟨#[a, b, c, d]⟩ := by
  intro i hi
  have hi3 : i < 4 := hi
  rcases (by omega : i = 0 ∨ i = 1 ∨ i = 2 ∨ i = 3) with rfl | rfl | rfl | rfl
  · exact h0
  · exact h1
  · exact h2
  · exact h3
theorem row4_cell (w : World) (t : TypeId) (a b c d : Value) : (w.alloc (.cells #[a, b, c, d] t)).cell? ⟨w.heap.size, 0, none⟩ = some a ∧ (w.alloc (.cells #[a, b, c, d] t)).cell? ⟨w.heap.size, 1, none⟩ = some b ∧ (w.alloc (.cells #[a, b, c, d] t)).cell? ⟨w.heap.size, 2, none⟩ = some c ∧ (w.alloc (.cells #[a, b, c, d] t)).cell? ⟨w.heap.size, 3, none⟩ = some d := by
  have hb : (w.alloc (.cells #[a, b, c, d] t)).heap[w.heap.size]? = some (.cells #[a, b, c, d] t) := by
    rw [World.alloc]
    exact Array.getElem?_push_size
  refine ⟨?_, ?_, ?_, ?_⟩ <;> (simp only [World.cell?, hb]; rfl)
/-- The row of a mode's digits as a text. -/
theorem oct_text {P : Program} (w : World) (src e dst : TypeId) (hs : P.underlying src = some (.slice e)) (he : P.underlying e = some (.int .u8)) (hd : P.underlying dst = some .string) (n : Nat) (h : n ≤ 4095) :
    (convert src dst (.slice (some ⟨w.heap.size, 0, none⟩) 4 4)).run P (w.alloc (.cells #[.int .u8 (48 + (n : Int) / 512), .int .u8 (48 + (n : Int) / 64 % 8), .int .u8 (48 + (n : Int) / 8 % 8), .int .u8 (48 + (n : Int) % 8)] e)) = .ok (.string (octT n)) (w.alloc (.cells #[.int .u8 (48 + (n : Int) / 512), .int .u8 (48 + (n : Int) / 64 % 8), .int .u8 (48 + (n : Int) / 8 % 8), .int .u8 (48 + (n : Int) % 8)] e)) := by
  have c := row4_cell w e (.int .u8 (48 + (n : Int) / 512)) (.int .u8 (48 + (n : Int) / 64 % 8)) (.int .u8 (48 + (n : Int) / 8 % 8)) (.int .u8 (48 + (n : Int) % 8))
  have e0 : 48 + (n : Int) / 512 = ((od (n / 512)).toNat : Int) := by rw [od_toNat (by omega)]; omega
  have e1 : 48 + (n : Int) / 64 % 8 = ((od (n / 64 % 8)).toNat : Int) := by rw [od_toNat (by omega)]; omega
  have e2 : 48 + (n : Int) / 8 % 8 = ((od (n / 8 % 8)).toNat : Int) := by rw [od_toNat (by omega)]; omega
  have e3 : 48 + (n : Int) % 8 = ((od (n % 8)).toNat : Int) := by rw [od_toNat (by omega)]; omega
  rw [e0, e1, e2, e3] at c ⊢
  exact run_convert_text (P := P) _ src e dst hs he hd w.heap.size 0 [od (n / 512), od (n / 64 % 8), od (n / 8 % 8), od (n % 8)] 4 4 rfl (cells4_bytes c.1 c.2.1 c.2.2.1 c.2.2.2)
/-- The last three bits. -/
theorem and7 (n : Nat) (h : n ≤ 4095) : bits .and .i64 (n : Int) 7 = ((n % 8 : Nat) : Int) := by
  have h1 := Go.u64_and_nat n 7 (by omega) (by decide)
  have e : n &&& 7 = n % 8 := Nat.and_two_pow_sub_one_eq_mod n 3
  have hx : n &&& 7 ≤ n := Nat.and_le_left
  show IntKind.i64.wrap ((BitVec.ofInt 64 (n : Int) &&& BitVec.ofInt 64 (7 : Int)).toNat : Int) = _
  have e7 : (BitVec.ofInt 64 (7 : Int)).toNat = 7 := by decide
  rw [BitVec.toNat_and, ofInt_u64 n (by omega), e7, IntKind.wrap_i64, e]
  omega
theorem and7_at (n k : Nat) (h : n ≤ 4095) : bits .and .i64 ((n : Int) / (k : Int)) 7 = (n : Int) / (k : Int) % 8 := by
  have := and7 (n / k) (Nat.le_trans (Nat.div_le_self _ _) h)
  have e : ((n / k : Nat) : Int) = (n : Int) / (k : Int) := by omega
  rw [e] at this
  rw [this]
  omega
end Go.Proofs.YtibofkjonepbpaaDoor
