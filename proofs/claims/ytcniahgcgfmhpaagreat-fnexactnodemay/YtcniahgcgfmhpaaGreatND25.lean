/- Laid together: Both. -/
import Derived.Test.YtcniahgcgfmhpaaGreatND24
/- spec.l02Both, spec.l02Either: what both of two sets have, and what one of them has. -/
namespace Go.Proofs.YtcniahgcgfmhpaaGreat
open Go.RowKit Go.PlainAid
set_option linter.unusedVariables false
theorem wdm (a k : Nat) (h : a ≤ 65535) : (wrap64 ((a : Int) / (k : Int))).tmod 2 = ((a / k % 2 : Nat) : Int) := by
  rw [← Int.natCast_ediv]
  have hq : a / k ≤ 65535 := Nat.le_trans (Nat.div_le_self _ _) h
  generalize a / k = q at hq ⊢
  have e : wrap64 (q : Int) = q := by unfold wrap64; omega
  rw [e, Int.tmod_eq_emod_of_nonneg (by omega)]
  omega
end Go.Proofs.YtcniahgcgfmhpaaGreat
