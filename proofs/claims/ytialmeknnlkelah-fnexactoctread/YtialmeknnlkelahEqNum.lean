/- laws.eqNumOut of twice the same. -/
import Derived.Test.YtialmeknnlkelahRows
import Derived.WalkKit
import Derived.WalkSpells
import Derived.WalkLawsBesides
namespace Go.Proofs.Ytialmeknnlkelah
open Go.RowKit
/-- laws.eqNumOut of twice the same. -/
theorem eqNumOut_same (n a c : Int) (w : World) :
    Calls Try.prog 9 #[.agg #[.int .i64 n, .int .i64 a, .int .i64 c], .agg #[.int .i64 n, .int .i64 a, .int .i64 c]] w fun e w' => e = .returned (.bool true) ∧ Below w.heap.size w w' := by
  go_enter Try.func9, Try.ntmps9
  go_wp2
  go_ret
  exact ⟨rfl, ((Below.refl _ _).alloc (Nat.le_refl _) _).alloc (by simp) _⟩
end Go.Proofs.Ytialmeknnlkelah
