/- The contracts of BitsText: the program's and the specification's. -/
import Derived.Test.YtialmeknnlkelahDoorWhoIs
import Derived.Test.YtialmeknnlkelahDoorBitsMath
import Derived.Test.YtialmeknnlkelahDoorBytes
namespace Go.Proofs.YtialmeknnlkelahDoor
open Go.RowKit Go.PlainAid
set_option linter.unusedVariables false
theorem sSign_any (b : Bool) (t : ByteArray) (w : World) :
    Calls Tryd.prog 21 #[.bool b, .string t] w fun e w' => e = .returned (.string (if b then t else ⟨#[45]⟩)) ∧ w' = w := by
  cases b
  all_goals (
    go_enter Tryd.func21, Tryd.ntmps21
    go_wp2
    go_ret
    exact ⟨rfl, rfl⟩)
set_option maxHeartbeats 4000000 in
theorem sBitsText_any (n : Int) (w : World) :
    Calls Tryd.prog 15 #[.int .i64 n] w fun e w' => e = .returned (.string (bitsS n)) ∧ w' = w := by
  cases e1 : inR 0 7 n
  · have hy : Hid (bitsS n = ⟨#[]⟩) := bitsS_off (fun e => by rw [inR_yes e.1 e.2] at e1; cases e1)
    go_enter Tryd.func15, Tryd.ntmps15
    go_wp2_with (go_at_call 20; refine (sBits_any _ _).mono ?_; rintro e w' ⟨rfl, rfl⟩)
    go_ret
    exact ⟨by rw [hy.out]; rfl, rfl⟩
  · obtain ⟨a, rfl⟩ := Int.eq_ofNat_of_zero_le (inR_iff.mp e1).1
    have ha : a ≤ 7 := by have := (inR_iff.mp e1).2; omega
    rcases eight ha with rfl | rfl | rfl | rfl | rfl | rfl | rfl | rfl
    all_goals (
      clear ha
      go_enter Tryd.func15, Tryd.ntmps15
      go_wp2_with (first | (go_at_call 20; refine (sBits_any _ _).mono ?_; rintro e w' ⟨rfl, rfl⟩) | (go_at_call 21; refine (sSign_any _ _ _).mono ?_; rintro e w' ⟨rfl, rfl⟩))
      go_ret
      exact ⟨rfl, rfl⟩)
end Go.Proofs.YtialmeknnlkelahDoor
