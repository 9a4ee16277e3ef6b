/- Laid together: HasMath, ModeOf, MaskMath. -/
import Derived.Laws.BitsAllLaws
import Derived.Test.YtgodbelcddgdmaaGreatNF7
/- One set in another: 'h &&& w = w' of numbers, told by halves. Nothing here names a program. -/
namespace Go.Proofs.YtgodbelcddgdmaaGreat
open Go.RowKit
set_option linter.unusedVariables false
end Go.Proofs.YtgodbelcddgdmaaGreat
/- ModeOf, the program's and the specification's. -/
namespace Go.Proofs.YtgodbelcddgdmaaGreat
open Go.RowKit Go.PlainAid
set_option linter.unusedVariables false
theorem aclB_parts {u g o : Int} {us gs : List (Int × Int)} {r : Bool} {m : Int} (h : aclB u g o us gs r m = true) : (0 ≤ u ∧ u ≤ 7) ∧ (0 ≤ g ∧ g ≤ 7) ∧ (0 ≤ o ∧ o ≤ 7) ∧ (0 ≤ m ∧ m ≤ 7) ∧ nmB us = true ∧ nmB gs = true := by
  unfold aclB at h
  simp only [Bool.and_eq_true] at h
  exact ⟨inR_iff.1 h.1, inR_iff.1 h.2.1, inR_iff.1 h.2.2.1, inR_iff.1 h.2.2.2.1, h.2.2.2.2.1, h.2.2.2.2.2.1⟩
end Go.Proofs.YtgodbelcddgdmaaGreat
