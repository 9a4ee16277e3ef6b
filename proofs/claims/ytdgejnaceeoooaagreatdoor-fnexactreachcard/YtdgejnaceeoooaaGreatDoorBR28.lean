/- Laid together: Ans, Remask. -/
import Derived.Test.YtdgejnaceeoooaaGreatDoorBR27
import Derived.Test.YtdgejnaceeoooaaGreatDoorBR23
/- An answer that holds a list of names and a code. -/
namespace Go.Proofs.YtdgejnaceeoooaaGreatDoor
open Go.RowKit Go.PlainAid Go.Deep
set_option linter.unusedVariables false
end Go.Proofs.YtdgejnaceeoooaaGreatDoor
/- impl.remasked, spec.l03New: the mask reckoned anew. -/
namespace Go.Proofs.YtdgejnaceeoooaaGreatDoor
open Go.RowKit Go.PlainAid Go.Deep
set_option linter.unusedVariables false
theorem Box7.set5 {w : World} {B : Nat} {v0 v1 v2 v3 v4 v5 v6 v : Value} (h : Box7 w B v0 v1 v2 v3 v4 v5 v6) : Box7 (w.setCell ⟨B, 5, none⟩ v) B v0 v1 v2 v3 v4 v v6 := by
  obtain ⟨hl, c0, c1, c2, c3, c4, c5, c6⟩ := h
  refine ⟨by simpa using hl, ?_, ?_, ?_, ?_, ?_, ?_, ?_⟩ <;> simp [go_sem, *]
theorem Box7.set6 {w : World} {B : Nat} {v0 v1 v2 v3 v4 v5 v6 v : Value} (h : Box7 w B v0 v1 v2 v3 v4 v5 v6) : Box7 (w.setCell ⟨B, 6, none⟩ v) B v0 v1 v2 v3 v4 v5 v := by
  obtain ⟨hl, c0, c1, c2, c3, c4, c5, c6⟩ := h
  refine ⟨by simpa using hl, ?_, ?_, ?_, ?_, ?_, ?_, ?_⟩ <;> simp [go_sem, *]
/-- Is anybody named? -/
def hnB (us gs : List (Int × Int)) : Bool := !(us.length == 0 && gs.length == 0)
/-- The mask then. -/
def mkB (g : Int) (us gs : List (Int × Int)) : Int := if hnB us gs then maskL g us gs else 0
theorem hn_no {us gs : List (Int × Int)} {lu lg : Nat} (e1 : us.length = lu) (e2 : gs.length = lg) (h : lu = 0 ∧ lg = 0) : hnB us gs = false := by simp [hnB, e1, e2, h]
theorem hn_yes {us gs : List (Int × Int)} {lu lg : Nat} (e1 : us.length = lu) (e2 : gs.length = lg) (h : ¬ (lu = 0 ∧ lg = 0)) : hnB us gs = true := by
  unfold hnB
  rw [e1, e2]
  simp
  omega
end Go.Proofs.YtdgejnaceeoooaaGreatDoor
