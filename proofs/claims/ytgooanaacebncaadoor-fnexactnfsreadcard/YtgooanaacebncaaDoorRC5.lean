/- Laid together: Box7, Join5. -/
import Derived.Test.YtgooanaacebncaaDoorRC4
/- Seven cells of a block. -/
namespace Go.Proofs.YtgooanaacebncaaDoor
open Go.RowKit Go.PlainAid
set_option linter.unusedVariables false
/-- Seven cells of a block. -/
structure Box7 (w : World) (B : Nat) (v0 v1 v2 v3 v4 v5 v6 : Value) : Prop where
  lt : B < w.heap.size
  c0 : w.cell? ⟨B, 0, none⟩ = some v0
  c1 : w.cell? ⟨B, 1, none⟩ = some v1
  c2 : w.cell? ⟨B, 2, none⟩ = some v2
  c3 : w.cell? ⟨B, 3, none⟩ = some v3
  c4 : w.cell? ⟨B, 4, none⟩ = some v4
  c5 : w.cell? ⟨B, 5, none⟩ = some v5
  c6 : w.cell? ⟨B, 6, none⟩ = some v6
theorem Box7.keep {w w' : World} {B : Nat} {v0 v1 v2 v3 v4 v5 v6 : Value} (h : Box7 w B v0 v1 v2 v3 v4 v5 v6) (hlt : B < w'.heap.size) (hc : ∀ o, w'.cell? ⟨B, o, none⟩ = w.cell? ⟨B, o, none⟩) : Box7 w' B v0 v1 v2 v3 v4 v5 v6 :=
  ⟨hlt, (hc 0).trans h.c0, (hc 1).trans h.c1, (hc 2).trans h.c2, (hc 3).trans h.c3, (hc 4).trans h.c4, (hc 5).trans h.c5, (hc 6).trans h.c6⟩
theorem Box7.below {w w' : World} {B : Nat} {v0 v1 v2 v3 v4 v5 v6 : Value} (h : Box7 w B v0 v1 v2 v3 v4 v5 v6) (hb : Below w.heap.size w w') : Box7 w' B v0 v1 v2 v3 v4 v5 v6 :=
  h.keep (Nat.lt_of_lt_of_le h.lt hb.size) (fun o => hb.cell (p := ⟨B, o, none⟩) h.lt)
theorem bel_alloc (w : World) (o : Obj) : Below w.heap.size w (w.alloc o) := (Below.refl _ _).alloc (Nat.le_refl _) _
theorem Below.on {w w1 w2 : World} (h1 : Below w.heap.size w w1) (h2 : Below w1.heap.size w1 w2) : Below w.heap.size w w2 := h1.trans (h2.mono h1.size)
theorem Below.onA {w w1 : World} {o : Obj} (h1 : Below w.heap.size w w1) : Below w.heap.size w (w1.alloc o) := h1.trans ((bel_alloc w1 o).mono h1.size)
theorem Box7.set3 {w : World} {B : Nat} {v0 v1 v2 v3 v4 v5 v6 v : Value} (h : Box7 w B v0 v1 v2 v3 v4 v5 v6) : Box7 (w.setCell ⟨B, 3, none⟩ v) B v0 v1 v2 v v4 v5 v6 := by
  obtain ⟨hl, c0, c1, c2, c3, c4, c5, c6⟩ := h
  refine ⟨by simpa using hl, ?_, ?_, ?_, ?_, ?_, ?_, ?_⟩ <;> simp [go_sem, *]
theorem Box7.set4 {w : World} {B : Nat} {v0 v1 v2 v3 v4 v5 v6 v : Value} (h : Box7 w B v0 v1 v2 v3 v4 v5 v6) : Box7 (w.setCell ⟨B, 4, none⟩ v) B v0 v1 v2 v3 v v5 v6 := by
  obtain ⟨hl, c0, c1, c2, c3, c4, c5, c6⟩ := h
  refine ⟨by simpa using hl, ?_, ?_, ?_, ?_, ?_, ?_, ?_⟩ <;> simp [go_sem, *]
theorem Box7.other {w : World} {B b o : Nat} {v0 v1 v2 v3 v4 v5 v6 v : Value} (h : Box7 w B v0 v1 v2 v3 v4 v5 v6) (hne : b ≠ B) : Box7 (w.setCell ⟨b, o, none⟩ v) B v0 v1 v2 v3 v4 v5 v6 :=
  h.keep (by simpa using h.lt) (fun o2 => World.cell?_setCell_other _ _ _ _ (by intro h; have h2 := congrArg Addr.block h; simp only at h2; omega))
end Go.Proofs.YtgooanaacebncaaDoor
