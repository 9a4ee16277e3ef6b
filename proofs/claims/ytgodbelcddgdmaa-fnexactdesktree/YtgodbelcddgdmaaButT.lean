/- A world that is as it was but for one block. -/
import Derived.Test.YtgodbelcddgdmaaTreeM
namespace Go.Proofs.Ytgodbelcddgdmaa
open Go.RowKit Go.PlainAid Go.Deep
set_option linter.unusedVariables false
theorem setS {B b o : Nat} {W w1 : World} {x : Value} (hb : Below B W w1) (h : B ≤ b) : Below B W (w1.setCell ⟨b, o, none⟩ x) := hb.setCell h _
/-- The world is as it was, but for the cells of one block, and new ones. -/
structure ButS (a : Option Addr) (w w' : World) : Prop where
  size : w.heap.size ≤ w'.heap.size
  below : ∀ c, c ≤ w.heap.size → (∀ A, a = some A → c ≤ A.block) → Below c w w'
  cell : ∀ b o, b < w.heap.size → (∀ A, a = some A → b ≠ A.block) → w'.cell? ⟨b, o, none⟩ = w.cell? ⟨b, o, none⟩ ∧ w'.frozen? ⟨b, o, none⟩ = w.frozen? ⟨b, o, none⟩
theorem ButS.refl (a : Option Addr) (w : World) : ButS a w w := ⟨Nat.le_refl _, fun _ _ _ => Below.refl _ _, fun _ _ _ _ => ⟨rfl, rfl⟩⟩
theorem ButS.set {B o : Nat} {w w' : World} {v : Value} (h : ButS (some ⟨B, 0, none⟩) w w') : ButS (some ⟨B, 0, none⟩) w (w'.setCell ⟨B, o, none⟩ v) := by
  refine ⟨by simpa using h.size, fun c hc1 hc => setS (h.below c hc1 hc) (hc _ rfl), fun b o2 hb1 hb => ?_⟩
  have h1 := h.cell b o2 hb1 hb
  rw [World.frozen?_setCell, ← h1.1]
  exact ⟨World.cell?_setCell_other _ _ _ _ (by intro h; have h2 := congrArg Addr.block h; exact hb _ rfl (by simpa using h2.symm)), h1.2⟩
theorem ButS.on {a : Option Addr} {w w1 w2 : World} (h : ButS a w w1) (hb : Below w1.heap.size w1 w2) : ButS a w w2 := by
  refine ⟨Nat.le_trans h.size hb.size, fun c h1 h2 => (h.below c h1 h2).trans (hb.mono (Nat.le_trans h1 h.size)), fun b o h1 h2 => ?_⟩
  have h3 := h.cell b o h1 h2
  have hlt := Nat.lt_of_lt_of_le h1 h.size
  exact ⟨(hb.cell (p := ⟨b, o, none⟩) hlt).trans h3.1, (hb.frozen (p := ⟨b, o, none⟩) hlt).trans h3.2⟩
theorem ButS.upon {a : Option Addr} {w w1 w2 : World} (hb : Below w.heap.size w w1) (h : ButS a w1 w2) : ButS a w w2 := by
  refine ⟨Nat.le_trans hb.size h.size, fun c h1 h2 => (hb.mono h1).trans (h.below c (Nat.le_trans h1 hb.size) h2), fun b o h1 h2 => ?_⟩
  have h3 := h.cell b o (Nat.lt_of_lt_of_le h1 hb.size) h2
  exact ⟨h3.1.trans (hb.cell (p := ⟨b, o, none⟩) h1), h3.2.trans (hb.frozen (p := ⟨b, o, none⟩) h1)⟩
theorem ButS.trans {a : Option Addr} {w w1 w2 : World} (h : ButS a w w1) (h2 : ButS a w1 w2) : ButS a w w2 := by
  refine ⟨Nat.le_trans h.size h2.size, fun c hc hA => (h.below c hc hA).trans (h2.below c (Nat.le_trans hc h.size) hA), fun b o hb hA => ?_⟩
  have h3 := h.cell b o hb hA
  have h4 := h2.cell b o (Nat.lt_of_lt_of_le hb h.size) hA
  exact ⟨h4.1.trans h3.1, h4.2.trans h3.2⟩
theorem ButS.of {a : Option Addr} {w w1 : World} (h : Below w.heap.size w w1) : ButS a w w1 := (ButS.refl a w).on h
theorem BoxR.butS {a : Option Addr} {w w' : World} {X : Nat} {cs : List Value} (h : BoxR w X cs) (hb : ButS a w w') (hne : ∀ A, a = some A → X ≠ A.block) : BoxR w' X cs := ⟨Nat.lt_of_lt_of_le h.lt hb.size, range_keep h.at0 (fun j => (hb.cell X j h.lt hne).1)⟩
theorem BoxW.butS {a : Option Addr} {w w' : World} {X : Nat} {cs : List Value} (h : BoxW w X cs) (hb : ButS a w w') (hne : ∀ A, a = some A → X ≠ A.block) : BoxW w' X cs := ⟨Nat.lt_of_lt_of_le h.lt hb.size, range_keep h.at0 (fun j => (hb.cell X j h.lt hne).1), fun j => (hb.cell X j h.lt hne).2.trans (h.frz j)⟩
end Go.Proofs.Ytgodbelcddgdmaa
