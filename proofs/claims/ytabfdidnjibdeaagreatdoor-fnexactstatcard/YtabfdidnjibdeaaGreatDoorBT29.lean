/- Laid together: Copy. -/
import Derived.Test.YtabfdidnjibdeaaGreatDoorBT27
/- spec.l03Copy: a list of names in memory of its own. -/
namespace Go.Proofs.YtabfdidnjibdeaaGreatDoor
open Go.RowKit Go.PlainAid Go.Deep
set_option linter.unusedVariables false
theorem own_start2 (w:World) (X:Nat) (hX:X=w.heap.size) (t:TypeId):(w.alloc (.cells #[] t)).ownsRow X t 2 (.slice (some ⟨X,0,none⟩) 0 0) ([]:List (Int × Int)).length (pc []):=by
  subst hX
  refine ⟨rfl,.inr ⟨w.heap.size,0,#[],rfl,Nat.le_refl _,?_,Nat.le_refl _,by decide,rfl,rfl⟩⟩
  rw [World.alloc]
  exact Array.getElem?_push_size
end Go.Proofs.YtabfdidnjibdeaaGreatDoor
