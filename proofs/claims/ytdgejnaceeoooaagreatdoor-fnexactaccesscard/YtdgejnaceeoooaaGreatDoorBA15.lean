/- Laid together: NewR, Fresh, Copy. -/
import Derived.Test.YtdgejnaceeoooaaGreatDoorBA3
import Derived.Test.YtdgejnaceeoooaaGreatDoorBA4
import Derived.Test.YtdgejnaceeoooaaGreatDoorBA14
/- Two lists in memory that was made since. -/
namespace Go.Proofs.YtdgejnaceeoooaaGreatDoor
open Go.RowKit Go.PlainAid Go.Deep
set_option linter.unusedVariables false
/-- Two lists in memory that was made since. -/
structure New (w w' : World) (au : Option Addr) (lu : Nat) (us : List (Int × Int)) (ag : Option Addr) (lg : Nat) (gs : List (Int × Int)) : Prop where
  ou : Own au lu us w'
  og : Own ag lg gs w'
  iu : ∀ A, au = some A → w.heap.size ≤ A.block ∧ A.block < w'.heap.size
  ig : ∀ A, ag = some A → w.heap.size ≤ A.block ∧ A.block < w'.heap.size
  ne : ∀ A A2, au = some A → ag = some A2 → A.block ≠ A2.block
  bel : Below w.heap.size w w'
theorem New.on {w w' w2 : World} {au : Option Addr} {lu : Nat} {us : List (Int × Int)} {ag : Option Addr} {lg : Nat} {gs : List (Int × Int)} (h : New w w' au lu us ag lg gs) (hb : Below w'.heap.size w' w2) : New w w2 au lu us ag lg gs :=
  ⟨h.ou.below hb, h.og.below hb, fun A e => ⟨(h.iu A e).1, Nat.lt_of_lt_of_le (h.iu A e).2 hb.size⟩, fun A e => ⟨(h.ig A e).1, Nat.lt_of_lt_of_le (h.ig A e).2 hb.size⟩, h.ne, Below.on h.bel hb⟩
theorem New.pre {w w0 w' : World} {au : Option Addr} {lu : Nat} {us : List (Int × Int)} {ag : Option Addr} {lg : Nat} {gs : List (Int × Int)} (h : New w w' au lu us ag lg gs) (hb : Below w0.heap.size w0 w) : New w0 w' au lu us ag lg gs :=
  ⟨h.ou, h.og, fun A e => ⟨Nat.le_trans hb.size (h.iu A e).1, (h.iu A e).2⟩, fun A e => ⟨Nat.le_trans hb.size (h.ig A e).1, (h.ig A e).2⟩, h.ne, Below.on hb h.bel⟩
/-- A cell of the call's own that is older than the lists is written. -/
theorem New.set {w w' : World} {au : Option Addr} {lu : Nat} {us : List (Int × Int)} {ag : Option Addr} {lg : Nat} {gs : List (Int × Int)} {b o : Nat} {v : Value} (h : New w w' au lu us ag lg gs) (hb : w.heap.size ≤ b) (h1 : ∀ A, au = some A → b ≠ A.block) (h2 : ∀ A, ag = some A → b ≠ A.block) : New w (w'.setCell ⟨b, o, none⟩ v) au lu us ag lg gs :=
  ⟨h.ou.set (fun B e => h1 _ e), h.og.set (fun B e => h2 _ e), fun A e => by simpa using h.iu A e, fun A e => by simpa using h.ig A e, h.ne, bl_setN h.bel hb⟩
end Go.Proofs.YtdgejnaceeoooaaGreatDoor
/- A list of names in memory of its own: impl.ownAcl, spec.l03Copy. -/
namespace Go.Proofs.YtdgejnaceeoooaaGreatDoor
open Go.RowKit Go.PlainAid Go.Deep
set_option linter.unusedVariables false
end Go.Proofs.YtdgejnaceeoooaaGreatDoor
/- spec.l03Copy: a list of names in memory of its own. -/
namespace Go.Proofs.YtdgejnaceeoooaaGreatDoor
open Go.RowKit Go.PlainAid Go.Deep
set_option linter.unusedVariables false
theorem own_start2 (w : World) (X : Nat) (hX : X = w.heap.size) (t : TypeId) : (w.alloc (.cells #[] t)).ownsRow X t 2 (.slice (some ⟨X, 0, none⟩) 0 0) ([] : List (Int × Int)).length (pc []) := by
  subst hX
  refine ⟨rfl, .inr ⟨w.heap.size, 0, #[], rfl, Nat.le_refl _, ?_, Nat.le_refl _, by decide, rfl, rfl⟩⟩
  rw [World.alloc]
  exact Array.getElem?_push_size
end Go.Proofs.YtdgejnaceeoooaaGreatDoor
