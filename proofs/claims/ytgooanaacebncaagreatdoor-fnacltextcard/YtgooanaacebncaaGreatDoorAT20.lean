/- Laid together: LawAid, PutUser, PutGroup. -/
import Derived.Test.YtgooanaacebncaaGreatDoorAT16
import Derived.Test.YtgooanaacebncaaGreatDoorAT17
import Derived.Test.YtgooanaacebncaaGreatDoorAT18
import Derived.Test.YtgooanaacebncaaGreatDoorAT19
import Derived.Deep.RegionWith
/- Small laws for the laws of a list of names. -/
namespace Go.Proofs.YtgooanaacebncaaGreatDoor
open Go.RowKit Go.PlainAid
set_option linter.unusedVariables false
end Go.Proofs.YtgooanaacebncaaGreatDoor
/- PutUser, the program's and the specification's. -/
namespace Go.Proofs.YtgooanaacebncaaGreatDoor
open Go.RowKit Go.PlainAid Go.Deep
set_option linter.unusedVariables false
/-- PutUser. -/
def putUA (u g o : Int) (us gs : List (Int × Int)) (r : Bool) (m id bt : Int) : Ans :=
  if aclB u g o us gs r m = true ∧ inR 0 9999 id = true ∧ inR 0 7 bt = true then (if putN us id ≤ 6 then ⟨u, g, o, (putL us id bt), gs, hnB (putL us id bt) gs, mkB g (putL us id bt) gs, 0⟩ else illA 9) else illA 1
theorem putUA_no {u g o : Int} {us gs : List (Int × Int)} {r : Bool} {m id bt : Int} (h : ¬ (aclB u g o us gs r m = true ∧ inR 0 9999 id = true ∧ inR 0 7 bt = true)) : putUA u g o us gs r m id bt = illA 1 := by rw [putUA, if_neg h]
theorem putUA_full {u g o : Int} {us gs : List (Int × Int)} {r : Bool} {m id bt : Int} (h : aclB u g o us gs r m = true ∧ inR 0 9999 id = true ∧ inR 0 7 bt = true) (h2 : ¬ putN us id ≤ 6) : putUA u g o us gs r m id bt = illA 9 := by rw [putUA, if_pos h, if_neg h2]
theorem putUA_yes {u g o : Int} {us gs : List (Int × Int)} {r : Bool} {m id bt : Int} (h : aclB u g o us gs r m = true ∧ inR 0 9999 id = true ∧ inR 0 7 bt = true) (h2 : putN us id ≤ 6) : putUA u g o us gs r m id bt = ⟨u, g, o, (putL us id bt), gs, hnB (putL us id bt) gs, mkB g (putL us id bt) gs, 0⟩ := by rw [putUA, if_pos h, if_pos h2]
theorem bnd_putPutUser {l : List (Int × Int)} {id bt : Int} (h : ∀ k, k < l.length → 0 ≤ btAt l k ∧ btAt l k ≤ 7) (hb : 0 ≤ bt ∧ bt ≤ 7) : ∀ j, j < (putL l id bt).length → 0 ≤ btAt (putL l id bt) j ∧ btAt (putL l id bt) j ≤ 7 :=
  bnd_bt (bnd_splice (bt_bnd h) (fun p hp => by simp at hp; subst hp; exact hb) _ _)
/-- PutGroup. -/
def putGA (u g o : Int) (us gs : List (Int × Int)) (r : Bool) (m id bt : Int) : Ans :=
  if aclB u g o us gs r m = true ∧ inR 0 9999 id = true ∧ inR 0 7 bt = true then (if putN gs id ≤ 6 then ⟨u, g, o, us, (putL gs id bt), hnB us (putL gs id bt), mkB g us (putL gs id bt), 0⟩ else illA 9) else illA 1
theorem putGA_no {u g o : Int} {us gs : List (Int × Int)} {r : Bool} {m id bt : Int} (h : ¬ (aclB u g o us gs r m = true ∧ inR 0 9999 id = true ∧ inR 0 7 bt = true)) : putGA u g o us gs r m id bt = illA 1 := by rw [putGA, if_neg h]
theorem putGA_full {u g o : Int} {us gs : List (Int × Int)} {r : Bool} {m id bt : Int} (h : aclB u g o us gs r m = true ∧ inR 0 9999 id = true ∧ inR 0 7 bt = true) (h2 : ¬ putN gs id ≤ 6) : putGA u g o us gs r m id bt = illA 9 := by rw [putGA, if_pos h, if_neg h2]
theorem putGA_yes {u g o : Int} {us gs : List (Int × Int)} {r : Bool} {m id bt : Int} (h : aclB u g o us gs r m = true ∧ inR 0 9999 id = true ∧ inR 0 7 bt = true) (h2 : putN gs id ≤ 6) : putGA u g o us gs r m id bt = ⟨u, g, o, us, (putL gs id bt), hnB us (putL gs id bt), mkB g us (putL gs id bt), 0⟩ := by rw [putGA, if_pos h, if_pos h2]
theorem bnd_putPutGroup {l : List (Int × Int)} {id bt : Int} (h : ∀ k, k < l.length → 0 ≤ btAt l k ∧ btAt l k ≤ 7) (hb : 0 ≤ bt ∧ bt ≤ 7) : ∀ j, j < (putL l id bt).length → 0 ≤ btAt (putL l id bt) j ∧ btAt (putL l id bt) j ≤ 7 :=
  bnd_bt (bnd_splice (bt_bnd h) (fun p hp => by simp at hp; subst hp; exact hb) _ _)
end Go.Proofs.YtgooanaacebncaaGreatDoor
