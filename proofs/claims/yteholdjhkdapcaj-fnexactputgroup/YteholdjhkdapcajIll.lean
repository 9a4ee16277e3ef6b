/- spec.l03Ill: an answer that is a code alone. -/
import Derived.Test.YteholdjhkdapcajAns
namespace Go.Proofs.Yteholdjhkdapcaj
open Go.RowKit Go.PlainAid Go.Deep
set_option linter.unusedVariables false
set_option maxHeartbeats 1000000 in
/-- spec.l03Ill. -/
theorem sIll_any (c : Int) (w : World) :
    Calls Try.prog 29 #[.int .i64 c] w fun e w' => e = .returned (.agg #[.int .i64 0, .int .i64 0, .int .i64 0, .slice none 0 0, .slice none 0 0, .bool false, .int .i64 0, .int .i64 c]) ∧ Below w.heap.size w w' := by
  go_enter Try.func29, Try.ntmps29
  go_wp2
  exact bodyPost_ret (v := .agg #[.int .i64 0, .int .i64 0, .int .i64 0, .slice none 0 0, .slice none 0 0, .bool false, .int .i64 0, .int .i64 c]) (by simp [results, Try.results29, go_sem]) rfl ⟨rfl, bel_alloc _ _⟩
end Go.Proofs.Yteholdjhkdapcaj
