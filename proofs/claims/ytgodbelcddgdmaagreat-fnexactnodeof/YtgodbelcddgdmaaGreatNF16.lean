/- Laid together: TrG, TrN. -/
import Derived.Test.YtgodbelcddgdmaaGreatNF13
import Derived.Test.YtgodbelcddgdmaaGreatNF15
/- What a right tree has: little facts. -/
namespace Go.Proofs.YtgodbelcddgdmaaGreat
open Go.RowKit Go.PlainAid Go.Deep
set_option linter.unusedVariables false
theorem tree_len {l : List Nd} {now : Int} (h : treeB l now = true) : l.length ≤ 12 := by
  simp only [treeB, Bool.and_eq_true, decide_eq_true_eq] at h
  exact h.2.1
theorem tree_all {l : List Nd} {now : Int} (h : treeB l now = true) : treeT l now l.length = true := by
  simp only [treeB, Bool.and_eq_true, decide_eq_true_eq] at h
  exact h.2.2.2.2
end Go.Proofs.YtgodbelcddgdmaaGreat
