/- laws.eqNumOut of twice the same. -/
import Derived.Test.YtialmeknnlkelahDoorRows
import Derived.WalkKit
import Derived.WalkSpells
import Derived.WalkLawsBesides
namespace Go.Proofs.YtialmeknnlkelahDoor
open Go.RowKit
/-- laws.eqNumOut of twice the same. -/
theorem eqNumOut_same (n a c : Int) (w : World) :
    Calls Tryd.prog 6 #[.agg #[.int .i64 n, .int .i64 a, .int .i64 c], .agg #[.int .i64 n, .int .i64 a, .int .i64 c]] w fun e w' => e = .returned (.bool true) ∧ Below w.heap.size w w' := by
  go_enter Tryd.func6, Tryd.ntmps6
  go_wp2
  go_ret
  exact ⟨rfl, ((Below.refl _ _).alloc (Nat.le_refl _) _).alloc (by simp) _⟩
end Go.Proofs.YtialmeknnlkelahDoor
