/- laws.eqNumOut of twice the same. -/
import Derived.Test.YtialmeknnlkelagRows
import Derived.WalkKit
import Derived.WalkSpells
import Derived.WalkLawsBesides
namespace Go.Proofs.Ytialmeknnlkelag
open Go.RowKit
/-- laws.eqNumOut of twice the same. -/
theorem eqNumOut_same (n a c : Int) (w : World) :
    Calls Try.prog 12 #[.agg #[.int .i64 n, .int .i64 a, .int .i64 c], .agg #[.int .i64 n, .int .i64 a, .int .i64 c]] w fun e w' => e = .returned (.bool true) ∧ Below w.heap.size w w' := by
  go_enter Try.func12, Try.ntmps12
  go_wp2
  go_ret
  exact ⟨rfl, ((Below.refl _ _).alloc (Nat.le_refl _) _).alloc (by simp) _⟩
end Go.Proofs.Ytialmeknnlkelag
