/- Small laws on worlds that several walks lean on. Nothing here names a program. -/
import Derived.WalkKit
import Derived.Below
namespace Go.Proofs.YtdmdnhfoeokfeaaDoor
open Go.RowKit
theorem bl_cell {W w1 : World} (hb : Below W.heap.size W w1) : (∀ b o, b < W.heap.size → w1.cell? ⟨b, o, none⟩ = W.cell? ⟨b, o, none⟩) ∧ (∀ b o, b < W.heap.size → w1.frozen? ⟨b, o, none⟩ = W.frozen? ⟨b, o, none⟩) :=
  ⟨fun b o h => hb.cell (p := ⟨b, o, none⟩) h, fun b o h => hb.frozen (p := ⟨b, o, none⟩) h⟩
theorem bl_size {W : World} {o : Obj} {w1 : World} (hb : Below (W.alloc o).heap.size (W.alloc o) w1) : W.heap.size < w1.heap.size := by
  have := hb.size
  simp at this
  omega
theorem bl_over {W : World} {c : Array Value} {t : TypeId} {w1 : World} (hb : Below (W.alloc (.cells c t)).heap.size (W.alloc (.cells c t)) w1) : Below W.heap.size W w1 :=
  ((Below.refl _ _).alloc (Nat.le_refl _) _).trans (hb.mono (by simp))
theorem bl_then {w w1 w2 : World} (h1 : Below w.heap.size w w1) (h2 : Below w1.heap.size w1 w2) : Below w.heap.size w w2 := h1.trans (h2.mono h1.size)
theorem bl_set3 {B b o1 o2 o3 : Nat} {W w1 : World} {x y z : Value} (hb : Below B W w1) (h : B ≤ b := by exact Nat.le_refl _) : Below B W (((w1.setCell ⟨b, o1, none⟩ x).setCell ⟨b, o2, none⟩ y).setCell ⟨b, o3, none⟩ z) :=
  ((hb.setCell h _).setCell h _).setCell h _
end Go.Proofs.YtdmdnhfoeokfeaaDoor
