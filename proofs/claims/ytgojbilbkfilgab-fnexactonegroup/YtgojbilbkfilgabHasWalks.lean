/- The contracts of Has: the program's and the specification's both answer whether each number of the one set is in the other. -/
import Derived.Test.YtgojbilbkfilgabWhoIs
import Derived.Test.YtgojbilbkfilgabHasMath
namespace Go.Proofs.Ytgojbilbkfilgab
open Go.RowKit Go.PlainAid
set_option linter.unusedVariables false
theorem hasZ_def (h v : Int) (h0 : inR 0 65535 h = true) (h1 : inR 0 65535 v = true) : hasZ h v = hasB h.toNat v.toNat := by
  rw [inR_iff] at h0 h1
  simp [hasZ, h0, h1]
theorem and_i64 (a b : Nat) (h1 : a ≤ 65535) (h2 : b ≤ 65535) : bits .and .i64 (a : Int) (b : Int) = ((a &&& b : Nat) : Int) := i64_and_nat a b (by omega) (by omega)
end Go.Proofs.Ytgojbilbkfilgab
