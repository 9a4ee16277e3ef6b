/- What aces give, one after another. -/
import Derived.Test.YtibofkjonepbpabHolding
import Derived.Test.YtibofkjonepbpabRmMath
namespace Go.Proofs.Ytibofkjonepbpab
open Go.RowKit Go.PlainAid Go.Shelf
set_option linter.unusedVariables false
attribute [local go_sem] Oper.semAt_some
/-- What one more ace makes of what is allowed and what is said. -/
def giveS (q : Int × Int) (x : Ac) : Int × Int := (if x.al then bits .or .i64 q.1 (bits .andNot .i64 x.ma q.2) else q.1, bits .or .i64 q.2 x.ma)
/-- What several give, and say. -/
def giveI (l : List Ac) : Int × Int := l.foldl giveS (0, 0)
theorem giveI_snoc (l : List Ac) (x : Ac) : giveI (l ++ [x]) = giveS (giveI l) x := by simp [giveI]
theorem giveI_al {l : List Ac} {x : Ac} (h : x.al = true) : (giveI (l ++ [x])).1 = bits .or .i64 (giveI l).1 (bits .andNot .i64 x.ma (giveI l).2) := by rw [giveI_snoc, giveS, h]; rfl
theorem giveI_no {l : List Ac} {x : Ac} (h : x.al = false) : (giveI (l ++ [x])).1 = (giveI l).1 := by rw [giveI_snoc, giveS, h]; rfl
theorem giveI_said (l : List Ac) (x : Ac) : (giveI (l ++ [x])).2 = bits .or .i64 (giveI l).2 x.ma := by rw [giveI_snoc]; rfl
theorem cell_newG (w : World) (v : Value) (t : TypeId) : (w.alloc (.cells #[v] t)).cell? ⟨w.heap.size, 0, none⟩ = some v ∧ (w.alloc (.cells #[v] t)).frozen? ⟨w.heap.size, 0, none⟩ = false := by
  have hb : (w.alloc (.cells #[v] t)).heap[w.heap.size]? = some (.cells #[v] t) := by
    rw [World.alloc]
    exact Array.getElem?_push_size
  constructor
  · simp only [World.cell?, hb]; rfl
  · simp only [World.frozen?, hb]; simp
theorem five_keptG {b o : Nat} {x : Ac} {W W' : World} {row : Option Nat} (h : Five W b o x) (hg : W.grownBy W' row) (hr : ∀ r, row = some r → ∃ o : Obj, W.heap[r]? = some o ∧ o.isCells = false) : Five W' b o x :=
  ⟨cell_kept h.c0 hg hr, cell_kept h.c1 hg hr, cell_kept h.c2 hg hr, cell_kept h.c3 hg hr, cell_kept h.c4 hg hr⟩
end Go.Proofs.Ytibofkjonepbpab
