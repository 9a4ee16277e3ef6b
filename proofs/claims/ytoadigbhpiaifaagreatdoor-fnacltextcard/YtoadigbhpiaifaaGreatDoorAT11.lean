/- Laid together: AclEq, Fresh, Ans. -/
import Derived.Test.YtoadigbhpiaifaaGreatDoorAT3
import Derived.Lib.QuietBelow
import Derived.Test.YtoadigbhpiaifaaGreatDoorAT10
/- laws.eqNamed, eqNamedS, eqAcl of two that hold the same. -/
namespace Go.Proofs.YtoadigbhpiaifaaGreatDoor
open Go.RowKit Go.PlainAid
set_option linter.unusedVariables false
theorem bl2N (w : World) (o1 o2 : Obj) : Below w.heap.size w ((w.alloc o1).alloc o2) := ((Below.refl _ _).alloc (Nat.le_refl _) _).alloc (by simp) _
end Go.Proofs.YtoadigbhpiaifaaGreatDoor
/- A list of names in memory of its own: impl.ownAcl, spec.l03Copy. -/
namespace Go.Proofs.YtoadigbhpiaifaaGreatDoor
open Go.RowKit Go.PlainAid Go.Deep
set_option linter.unusedVariables false
theorem row1_new (w : World) (v0 : Value) (t : TypeId) : (w.alloc (.cells #[v0] t)).cell? ⟨w.heap.size, 0, none⟩ = some v0 := by
  have hb : (w.alloc (.cells #[v0] t)).heap[w.heap.size]? = some (.cells #[v0] t) := by
    rw [World.alloc]
    exact Array.getElem?_push_size
  simp only [World.cell?, hb]
  rfl
theorem cat_one (us : List (Int × Int)) : cat (fun _ => us) 1 = us := by simp [cat]
end Go.Proofs.YtoadigbhpiaifaaGreatDoor
/- An answer that holds a list of names and a code. -/
namespace Go.Proofs.YtoadigbhpiaifaaGreatDoor
open Go.RowKit Go.PlainAid Go.Deep
set_option linter.unusedVariables false
end Go.Proofs.YtoadigbhpiaifaaGreatDoor
