/- impl.ofKinds and its closure. -/
import Derived.Test.YtklaebcdbbgooabDoorContains
import Derived.Test.YtklaebcdbbgooabDoorGivenM
import Derived.Test.YtklaebcdbbgooabDoorNfsRight
import Derived.Test.YtklaebcdbbgooabDoorAlone
namespace Go.Proofs.YtklaebcdbbgooabDoor
open Go.RowKit Go.PlainAid Go.Deep
set_option linter.unusedVariables false
set_option maxHeartbeats 1000000 in
theorem ofKinds_any (a : Option Addr) (len cap : Nat) (w : World) :
    Calls Tryd.prog 22 #[.slice a len cap] w fun e w' => ∃ Cc, e = .returned (.func (.func 39) #[] #[.pointer (some ⟨Cc, 0, none⟩)]) ∧ Below w.heap.size w w' ∧ w'.cell? ⟨Cc, 0, none⟩ = some (.slice a len cap) := by
  have h1 := bel_alloc w (.cells #[.slice a len cap] 61)
  have h2 := (cell_newG w (.slice a len cap) 61).1
  go_enter Tryd.func22, Tryd.ntmps22
  go_wp2
  go_ret
  exact ⟨_, rfl, h1, h2⟩
set_option maxHeartbeats 1000000 in
theorem ofKinds1_any (x : Ac) (a : Option Addr) (len cap : Nat) (f : Nat → Int) (Cc : Nat) (hl : len ≤ 1048576) (w : World) (hi : Ints a len f w) (hC : w.cell? ⟨Cc, 0, none⟩ = some (.slice a len cap)) :
    Calls Tryd.prog 39 #[.agg #[.bool x.al, .int .i64 x.wh, .int .i64 x.id, .int .i64 x.fl, .int .i64 x.ma], .pointer (some ⟨Cc, 0, none⟩)] w fun e w' => e = .returned (.bool (anyG f x.wh len)) ∧ Below w.heap.size w w' := by
  have hba := bel_alloc w (.cells #[.bool x.al, .int .i64 x.wh, .int .i64 x.id, .int .i64 x.fl, .int .i64 x.ma] 39)
  have c1 := (hba.cell (p := ⟨Cc, 0, none⟩) (block_lt_of_cell hC)).trans hC
  have hG : Hid (Calls Tryd.prog 40 #[.slice a len cap, .int .i64 x.wh] (w.alloc (.cells #[.bool x.al, .int .i64 x.wh, .int .i64 x.id, .int .i64 x.fl, .int .i64 x.ma] 39)) fun e w' => e = .returned (.bool (anyG f x.wh len)) ∧ w' = (w.alloc (.cells #[.bool x.al, .int .i64 x.wh, .int .i64 x.id, .int .i64 x.fl, .int .i64 x.ma] 39))) := contains_any a len cap f x.wh hl _ (hi.below hba)
  have hB : Hid (Below w.heap.size w (w.alloc (.cells #[.bool x.al, .int .i64 x.wh, .int .i64 x.id, .int .i64 x.fl, .int .i64 x.ma] 39))) := hba
  clear hi hC hba
  go_enter Tryd.func39, Tryd.ntmps39
  go_wp2_with fail
  refine hG.out.mono ?_
  rintro e w1 ⟨rfl, rfl⟩
  clear hG
  go_wp2
  go_ret
  exact ⟨rfl, hB.out⟩
/-- impl.given at kinds. -/
theorem givenKinds_any (a : Option Addr) (len cap : Nat) (l : List Ac) (ka : Option Addr) (kl kc : Nat) (kf : Nat → Int) (Cc : Nat) (hkl : kl ≤ 1048576) (ha : acesB l = true) (w : World) (hA : Acs a len l w) (hi : Ints ka kl kf w) (hC : w.cell? ⟨Cc, 0, none⟩ = some (.slice ka kl kc)) :
    Calls Tryd.prog 21 #[.slice a len cap, .func (.func 39) #[] #[.pointer (some ⟨Cc, 0, none⟩)]] w fun e w' => e = .returned (.int .i64 (giveI (fltP (fun x => anyG kf x.wh kl) l len)).1) ∧ Below w.heap.size w w' := by
  obtain ⟨h1, h2⟩ := aces_partsJ ha
  have hln := hA.1
  exact givenM_any a len cap l Cc (fun x => anyG kf x.wh kl) (by omega) (fun i hi => (aceB_iff.1 (h2 i (by omega))).2.2.2.1.1) w hA (fun x W' hB => ofKinds1_any x ka kl kc kf Cc hkl W' (hi.below hB) ((hB.cell (p := ⟨Cc, 0, none⟩) (block_lt_of_cell hC)).trans hC))
end Go.Proofs.YtklaebcdbbgooabDoor
