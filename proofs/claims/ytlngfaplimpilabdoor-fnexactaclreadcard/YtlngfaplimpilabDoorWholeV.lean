/- What BitsRead, ModeRead and OctRead answer: the number that is read, or the code of what is wrong. -/
import Derived.Test.YtlngfaplimpilabDoorRdMath
namespace Go.Proofs.YtlngfaplimpilabDoor
open Go.RowKit
set_option linter.unusedVariables false
/-- An answer of type NumOut. -/
def numW (n a c : Int) : Value := .agg #[.int .i64 n, .int .i64 a, .int .i64 c]
/-- The number and the code. -/
def whN (s : ByteArray) (o : Option Nat) : Int := if 8000 < s.size then 0 else (o.getD 0 : Nat)
def whC (s : ByteArray) (o : Option Nat) : Int := if 8000 < s.size then 2 else if o.isSome then 0 else 3
theorem wh_long {s : ByteArray} (h : 8000 < s.size) (o : Option Nat) : whN s o = 0 ∧ whC s o = 2 := by simp [whN, whC, h]
theorem wh_none {s : ByteArray} (h : ¬ 8000 < s.size) {o : Option Nat} (e : o = none) : whN s o = 0 ∧ whC s o = 3 := by simp [whN, whC, h, e]
theorem wh_some {s : ByteArray} (h : ¬ 8000 < s.size) {o : Option Nat} {n : Nat} (e : o = some n) : whN s o = n ∧ whC s o = 0 := by simp [whN, whC, h, e]
theorem bl_cellW {W w1 : World} (hb : Below W.heap.size W w1) : (∀ b o, b < W.heap.size → w1.cell? ⟨b, o, none⟩ = W.cell? ⟨b, o, none⟩) ∧ (∀ b o, b < W.heap.size → w1.frozen? ⟨b, o, none⟩ = W.frozen? ⟨b, o, none⟩) :=
  ⟨fun b o h => hb.cell (p := ⟨b, o, none⟩) h, fun b o h => hb.frozen (p := ⟨b, o, none⟩) h⟩
theorem bl_sizeW {W : World} {o : Obj} {w1 : World} (hb : Below (W.alloc o).heap.size (W.alloc o) w1) : W.heap.size < w1.heap.size := by
  have := hb.size
  simp at this
  omega
theorem bl_overW {W : World} {c : Array Value} {t : TypeId} {w1 : World} (hb : Below (W.alloc (.cells c t)).heap.size (W.alloc (.cells c t)) w1) : Below W.heap.size W w1 :=
  ((Below.refl _ _).alloc (Nat.le_refl _) _).trans (hb.mono (by simp))
theorem bl_oneW {w w1 : World} {o : Obj} (h : Below w.heap.size w w1) : Below w.heap.size w (w1.alloc o) := h.alloc h.size _
theorem bl_thenW {w w1 w2 : World} (h1 : Below w.heap.size w w1) (h2 : Below w1.heap.size w1 w2) : Below w.heap.size w w2 := h1.trans (h2.mono h1.size)
theorem bl_set3W {B b o1 o2 o3 : Nat} {W w1 : World} {x y z : Value} (hb : Below B W w1) (h : B ≤ b := by exact Nat.le_refl _) : Below B W (((w1.setCell ⟨b, o1, none⟩ x).setCell ⟨b, o2, none⟩ y).setCell ⟨b, o3, none⟩ z) :=
  ((hb.setCell h _).setCell h _).setCell h _
end Go.Proofs.YtlngfaplimpilabDoor
