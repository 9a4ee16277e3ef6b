/- Laid together: Concat. -/
import Derived.Test.YtedahdncincgjaaGreatDoorNX5
/- slices.Grow and slices.Concat at lists of pairs. -/
namespace Go.Proofs.YtedahdncincgjaaGreatDoor
open Go.RowKit Go.PlainAid Go.Deep
set_option linter.unusedVariables false
theorem infoNamedC : (Tryz.prog.info? 116).map (fun i => (i.zero, i.size, i.bytes)) = some (some (.agg #[.int .i64 0, .int .i64 0]), 2, 16) := by kernel_rfl
theorem own_cap {w : World} {B : Nat} {t : TypeId} {a : Option Addr} {n c : Nat} {xs : List Value} (h : w.ownsRow B t 2 (.slice a n c) n xs) : n ≤ c := by
  obtain ⟨_, ⟨h, hn⟩ | ⟨g, cap, cur, h, _, _, hc, _⟩⟩ := h
  · omega
  · cases h
    exact hc
end Go.Proofs.YtedahdncincgjaaGreatDoor
