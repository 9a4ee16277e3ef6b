/- Laid together: NumMath. -/
import Derived.Laws.BitsAllLaws
import Derived.Laws.Bits128
import Derived.Test.YtgooanaacebncaaDoorRB3
/- Plain mathematics of PutNum: the number that is written, its bytes, and rows of bytes that grow. Nothing here names a program. -/
namespace Go.Proofs.YtgooanaacebncaaDoor
open Go.RowKit Go.PlainAid
set_option linter.unusedVariables false
/-- The bytes of a number, seven bits a byte, the lowest first, 128 more in all but the last. -/
def encF : Nat → Nat → List UInt8
  | 0, _ => []
  | f + 1, u => if u < 128 then [UInt8.ofNat u] else UInt8.ofNat (u % 128 + 128) :: encF f (u / 128)
/-- Ten bytes at most: a number below 2^64. -/
def enc (u : Nat) : List UInt8 := encF (u + 1) u
/-- A byte put behind a row of bytes. -/
theorem cells_snoc (acc : List UInt8) (x : Nat) (h : x < 256) : Lib.byteCells acc ++ [Value.int .u8 (x : Int)] = Lib.byteCells (acc ++ [UInt8.ofNat x]) := by
  simp [Lib.byteCells]
  omega
theorem own_snoc {w : World} {B : Nat} {t : TypeId} {v : Value} {acc : List UInt8} {x : Nat} {y : Int} (hy : y = (x : Int)) (h : x < 256) (ho : w.ownsRow B t 1 v (acc.length + 1) (Lib.byteCells acc ++ [Value.int .u8 y])) :
    w.ownsRow B t 1 v (acc ++ [UInt8.ofNat x]).length (Lib.byteCells (acc ++ [UInt8.ofNat x])) := by
  subst hy
  rw [← cells_snoc acc x h, List.length_append]
  exact ho
theorem own_start (w : World) (t : TypeId) : (w.alloc (.cells #[] t)).ownsRow w.heap.size t 1 (.slice (some ⟨w.heap.size, 0, none⟩) 0 0) ([] : List UInt8).length (Lib.byteCells []) := by
  refine ⟨rfl, .inr ⟨w.heap.size, 0, #[], rfl, Nat.le_refl _, ?_, Nat.le_refl _, by decide, rfl, rfl⟩⟩
  rw [World.alloc]
  exact Array.getElem?_push_size
theorem one_cell (x : Int) : ∀ u ∈ [Value.int .u8 x], u.oneCell' = true := by
  intro u hu
  simp at hu
  subst hu
  rfl
end Go.Proofs.YtgooanaacebncaaDoor
