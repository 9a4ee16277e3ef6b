/- Laid together: Holding, Take. -/
import Derived.Test.YthgcobglecomcaaDoorDf28
import Derived.RangeFuncNested
import Derived.RangeFuncBound
import Derived.RangeFuncCalls
import Derived.RangeFuncLeaves
import Derived.Shelf.Abstract
import Derived.Shelf.RegionOpen
import Derived.OwnWalkIn
import Derived.TacticsInMore
import Derived.LoopNIn
import Derived.LoopIn
import Derived.Test.YthgcobglecomcaaDoorDf9
import Derived.BigQuiet
/- The aces that hold and are of somebody, one by one: impl.holding, its closure, impl.holds. -/
namespace Go.Proofs.YthgcobglecomcaaDoor
open Go.RowKit Go.PlainAid Go.Shelf
set_option linter.unusedVariables false
attribute [local go_sem] Oper.semAt_some
/-- It holds of the file itself. -/
def hldB (x : Ac) : Bool := decide (x.fl < 8)
theorem and8 {f : Int} (h0 : 0 ≤ f) (h1 : f ≤ 15) : (bits .and .i64 f 8 == 0) = decide (f < 8) := by
  rcases (by omega : f = 0 ∨ f = 1 ∨ f = 2 ∨ f = 3 ∨ f = 4 ∨ f = 5 ∨ f = 6 ∨ f = 7 ∨ f = 8 ∨ f = 9 ∨ f = 10 ∨ f = 11 ∨ f = 12 ∨ f = 13 ∨ f = 14 ∨ f = 15) with rfl | rfl | rfl | rfl | rfl | rfl | rfl | rfl | rfl | rfl | rfl | rfl | rfl | rfl | rfl | rfl <;> decide
/-- What of the first k comes through. -/
def fltP (p : Ac → Bool) (l : List Ac) : Nat → List Ac
  | 0 => []
  | k + 1 => fltP p l k ++ (if hldB (acAt l k) && p (acAt l k) then [acAt l k] else [])
theorem fltP_yes {p : Ac → Bool} {l : List Ac} {k : Nat} (h : (hldB (acAt l k) && p (acAt l k)) = true) : fltP p l (k + 1) = fltP p l k ++ [acAt l k] := by simp only [fltP, h, if_pos]
theorem fltP_no {p : Ac → Bool} {l : List Ac} {k : Nat} (h : (hldB (acAt l k) && p (acAt l k)) = false) : fltP p l (k + 1) = fltP p l k := by simp [fltP, h]
theorem fltP_len (p : Ac → Bool) (l : List Ac) (k : Nat) : (fltP p l k).length ≤ k := by
  induction k with
  | zero => exact Nat.le_refl _
  | succ k ih =>
    have : (if hldB (acAt l k) && p (acAt l k) then [acAt l k] else []).length ≤ 1 := by split <;> simp
    simp only [fltP, List.length_append]
    omega
/-- What a round must keep: what lay below a block's number, and the cells of some blocks. -/
def KpC (n₀ lo hi : Nat) (W W' : World) : Prop := Below n₀ W W' ∧ ∀ c o v, lo ≤ c → c < hi → W.cell? ⟨c, o, none⟩ = some v → W'.cell? ⟨c, o, none⟩ = some v
theorem kpC_refl (n₀ lo hi : Nat) (W : World) : KpC n₀ lo hi W W := ⟨Below.refl _ _, fun _ _ _ _ _ h => h⟩
theorem kpC_t {n₀ lo hi : Nat} {A B C : World} (h : KpC n₀ lo hi A B) (k : KpC n₀ lo hi B C) : KpC n₀ lo hi A C := ⟨h.1.trans k.1, fun c o v h1 h2 hv => k.2 c o v h1 h2 (h.2 c o v h1 h2 hv)⟩
theorem kpC_b {n₀ lo hi : Nat} {w : World} (hn : n₀ ≤ w.heap.size) (W : World) (l : Nat) (o o' : Obj) (hl : w.heap.size ≤ l) (h : W.heap[l]? = some o) (h1 : o.isCells = false) (h2 : o.isWalk = false) : KpC n₀ lo hi W (W.putObj l o') :=
  ⟨belowK_b hn W l o o' hl h h1 h2, fun c o2 v _ _ hv => cell_kept hv (grownBy_putObj' W l o') (fun r e => by cases e; exact ⟨_, h, h1⟩)⟩
theorem kpC_grow {n₀ lo hi : Nat} {W W' : World} (hb : Below W.heap.size W W') (h1 : n₀ ≤ W.heap.size) (h2 : hi ≤ W.heap.size) : KpC n₀ lo hi W W' :=
  ⟨hb.mono h1, fun c o v _ hc hv => (hb.cell (p := ⟨c, o, none⟩) (by show c < _; omega)).trans hv⟩
theorem KpC.five {n₀ lo hi : Nat} {W W' : World} (h : KpC n₀ lo hi W W') {b o : Nat} {x : Ac} (h1 : lo ≤ b) (h2 : b < hi) (hf : Five W b o x) : Five W' b o x :=
  ⟨h.2 _ _ _ h1 h2 hf.c0, h.2 _ _ _ h1 h2 hf.c1, h.2 _ _ _ h1 h2 hf.c2, h.2 _ _ _ h1 h2 hf.c3, h.2 _ _ _ h1 h2 hf.c4⟩
theorem grown_of_below {w w' : World} (h : Below w.heap.size w w') : w.grownBy w' none := ⟨h.os, h.tape, h.output, h.size, fun k hk _ => h.block k hk⟩
end Go.Proofs.YthgcobglecomcaaDoor
/- spec.l04Take; spec.l04Holds. -/
namespace Go.Proofs.YthgcobglecomcaaDoor
open Go.RowKit Go.PlainAid Go.Deep
set_option linter.unusedVariables false
theorem below_drewT {B : Nat} {w w' : World} (h : Below B w w') (n : Nat) : Below B w (w'.drewN n) := h.trans ⟨rfl, rfl, rfl, Nat.le_refl _, fun _ _ => rfl⟩
/-- What is given then. -/
def takeP (al : Bool) (p d : Int) : Int := if al then p + d else p
end Go.Proofs.YthgcobglecomcaaDoor
