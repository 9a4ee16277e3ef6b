/- spec.l04Take; spec.l04Holds. -/
import Derived.Test.YtddkmlkfphmdoaaDoorHolding
import Derived.Test.YtddkmlkfphmdoaaDoorBoth
import Derived.BigQuiet
namespace Go.Proofs.YtddkmlkfphmdoaaDoor
open Go.RowKit Go.PlainAid Go.Deep
set_option linter.unusedVariables false
theorem below_drewT {B : Nat} {w w' : World} (h : Below B w w') (n : Nat) : Below B w (w'.drewN n) := h.trans ⟨rfl, rfl, rfl, Nat.le_refl _, fun _ _ => rfl⟩
/-- What is given then. -/
def takeP (al : Bool) (p d : Int) : Int := if al then p + d else p
set_option maxHeartbeats 1000000 in
theorem sl04HoldsG (x : Ac) (w : World) :
    Calls Tryd.prog 29 #[.agg #[.bool x.al, .int .i64 x.wh, .int .i64 x.id, .int .i64 x.fl, .int .i64 x.ma]] w fun e w' => e = .returned (.bool (hldB x)) ∧ Below w.heap.size w w' := by
  go_enter Tryd.func29, Tryd.ntmps29
  go_wp2
  go_ret
  exact ⟨ret_boolW rfl, bel_alloc _ _⟩
end Go.Proofs.YtddkmlkfphmdoaaDoor
