/- Laid together: Join2. -/
import Derived.Test.YtabfdidnjibdeaaGreatDoorBR33
namespace Go.Proofs.YtabfdidnjibdeaaGreatDoor
open Go.RowKit
set_option linter.unusedVariables false
theorem cat1 (s:ByteArray):(⟨(catTo (fun _=>s) 1).toArray⟩:ByteArray)=s:=by
  apply ByteArray.ext
  simp [catTo]
theorem join_one (s:ByteArray)(w:World)(h:s.size≤1099511627776) :
    Calls Tryz.prog 55 #[.slice (some ⟨w.heap.size,0,none⟩) 1 1] (w.alloc (.cells #[.string s] 9)) fun e w'=>e=.returned (.string s)∧Below w.heap.size w w':=by
  refine (join_any (fun _=>s) w.heap.size 0 1 1 (w.alloc (.cells #[.string s] 9)) ?_ (by simp) (by decide) (by simp [totTo];omega)).mono ?_
  · intro k hk
    match k,hk with
    | 0,_=>simp
  · rintro e w' ⟨rfl, hb⟩
    rw [cat1]
    exact ⟨rfl,((Below.refl _ _).alloc (Nat.le_refl _) _).trans (hb.mono (by simp))⟩
end Go.Proofs.YtabfdidnjibdeaaGreatDoor
