/- What the laws do with a Cred: its size, a copy of it, two of them compared. -/
import Derived.Test.YtgojbilbkfilgaaGroups
import Derived.Deep.OwnRows
namespace Go.Proofs.Ytgojbilbkfilgaa
open Go.RowKit Go.PlainAid
set_option linter.unusedVariables false
/-- What a world holds of a row of numbers that may be written. -/
def IHolds (w : World) (B : Nat) (f : Nat → Int) (n : Nat) : Prop := (∀ i, i < n → w.cell? ⟨B, i, none⟩ = some (.int .i64 (f i))) ∧ ∀ i, i < n → w.frozen? ⟨B, i, none⟩ = false
theorem IHolds.set {w : World} {B : Nat} {f : Nat → Int} {n : Nat} (h : IHolds w B f n) (i : Nat) (hi : i < n) (v : Int) : IHolds (w.setCell ⟨B, i, none⟩ (.int .i64 v)) B (fun k => if k = i then v else f k) n := by
  constructor
  · intro k hk
    by_cases e : k = i
    · subst e
      simp only [if_pos]
      have := h.1 k hk
      simp [go_sem, this]
    · simp only [if_neg e]
      rw [← h.1 k hk]
      exact World.cell?_setCell_other _ _ _ _ (by intro h; cases h; exact e rfl)
  · intro k hk
    rw [World.frozen?_setCell]
    exact h.2 k hk
theorem made_holds (w : World) (n : Nat) (t : TypeId) : IHolds (w.alloc (.cells (madeCells #[.int .i64 0] n) t)) w.heap.size (fun _ => 0) n := by
  have hb : (w.alloc (.cells (madeCells #[.int .i64 0] n) t)).heap[w.heap.size]? = some (.cells (madeCells #[.int .i64 0] n) t) := by
    rw [World.alloc]
    exact Array.getElem?_push_size
  constructor
  · intro i hi
    simp only [World.cell?, hb]
    simp [madeCells, hi, Nat.mod_one]
  · intro i hi
    simp only [World.frozen?, hb]
    simp
theorem infoI64 : (Try.prog.info? 2).map (fun i => (i.zero, i.size, i.bytes)) = some (some (.int .i64 0), 1, 8) := by kernel_rfl
theorem ints_set {B len : Nat} {f : Nat → Int} {w : World} {b o : Nat} {v : Value} (h : Ints (some ⟨B, 0, none⟩) len f w) (hne : b ≠ B) : Ints (some ⟨B, 0, none⟩) len f (w.setCell ⟨b, o, none⟩ v) := by
  intro hl
  obtain ⟨b', off', e, hlt, hc⟩ := h hl
  cases e
  refine ⟨B, 0, rfl, by simpa using hlt, fun i hi => ?_⟩
  rw [← hc i hi]
  exact World.cell?_setCell_other _ _ _ _ (by intro h; cases h; exact hne rfl)
theorem bl_setC {B b o : Nat} {W w1 : World} {x : Value} (hb : Below B W w1) (h : B ≤ b) : Below B W (w1.setCell ⟨b, o, none⟩ x) := hb.setCell h _
theorem bl3_size {w : World} {o1 o2 o3 : Obj} : (((w.alloc o1).alloc o2).alloc o3).heap.size = w.heap.size + 1 + 1 + 1 := by simp
theorem bl3 (w : World) (o1 o2 o3 : Obj) : Below w.heap.size w (((w.alloc o1).alloc o2).alloc o3) := (((Below.refl _ _).alloc (Nat.le_refl _) _).alloc (by simp) _).alloc (by simp; omega) _
theorem bl_cellC {W w1 : World} (hb : Below W.heap.size W w1) : (∀ b o, b < W.heap.size → w1.cell? ⟨b, o, none⟩ = W.cell? ⟨b, o, none⟩) ∧ (∀ b o, b < W.heap.size → w1.frozen? ⟨b, o, none⟩ = W.frozen? ⟨b, o, none⟩) :=
  ⟨fun b o h => hb.cell (p := ⟨b, o, none⟩) h, fun b o h => hb.frozen (p := ⟨b, o, none⟩) h⟩
theorem bl2 (w : World) (o1 o2 : Obj) : Below w.heap.size w ((w.alloc o1).alloc o2) := ((Below.refl _ _).alloc (Nat.le_refl _) _).alloc (by simp) _
end Go.Proofs.Ytgojbilbkfilgaa
