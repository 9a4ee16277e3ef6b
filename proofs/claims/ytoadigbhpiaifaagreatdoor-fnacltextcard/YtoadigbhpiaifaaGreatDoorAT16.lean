/- Laid together: PutI. -/
import Derived.Test.YtoadigbhpiaifaaGreatDoorAT15
/- impl.withNamed: an entry put in its place. -/
namespace Go.Proofs.YtoadigbhpiaifaaGreatDoor
open Go.RowKit Go.PlainAid Go.Deep
set_option linter.unusedVariables false
theorem prs_one (w : World) (x y : Int) (t : TypeId) : Prs (some ⟨w.heap.size, 0, none⟩) 1 [(x, y)] (w.alloc (.cells #[.int .i64 x, .int .i64 y] t)) := by
  obtain ⟨h0, h1⟩ := pair_new w (.int .i64 x) (.int .i64 y) t
  refine ⟨rfl, fun _ => ⟨w.heap.size, 0, rfl, by simp, fun i hi => ?_⟩⟩
  have : i = 0 := by omega
  subst this
  exact ⟨h0, h1⟩
end Go.Proofs.YtoadigbhpiaifaaGreatDoor
