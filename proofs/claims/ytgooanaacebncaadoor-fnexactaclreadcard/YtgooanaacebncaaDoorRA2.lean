/- Laid together: AlT. -/
import Derived.Test.YtgooanaacebncaaDoorRA1
/- A list of names as a whole. -/
namespace Go.Proofs.YtgooanaacebncaaDoor
open Go.RowKit Go.PlainAid Go.Deep
set_option linter.unusedVariables false
/-- A list of names. -/
structure Al where
  u : Int
  g : Int
  o : Int
  us : List (Int × Int)
  gs : List (Int × Int)
  r : Bool
  m : Int
def alZ : Al := ⟨0, 0, 0, [], [], false, 0⟩
def Al.B (a : Al) : Bool := aclB a.u a.g a.o a.us a.gs a.r a.m
theorem ok_at {l : List (Int × Int)} (h : nmB l = true) {k : Nat} (hk : k < l.length) : (0 ≤ idAt l k ∧ idAt l k ≤ 9999) ∧ (0 ≤ btAt l k ∧ btAt l k ≤ 7) := by
  cases e : okN l k
  · rw [nm_no hk e] at h; cases h
  · simp only [okN, Bool.and_eq_true] at e
    exact ⟨inR_iff.1 e.1, inR_iff.1 e.2.1⟩
theorem take_next2 {l : List (Int × Int)} {k : Nat} (h : k < l.length) : l.take (k + 1) = l.take k ++ [(idAt l k, btAt l k)] := by
  have e : (idAt l k, btAt l k) = l[k] := by simp [idAt, btAt, List.getD, h]
  rw [e, List.take_append_getElem]
end Go.Proofs.YtgooanaacebncaaDoor
