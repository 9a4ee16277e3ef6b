/- Laid together: BitsTextWalks. -/
import Derived.Test.YtgooanaacebncaaDoorRA13
/- The contracts of BitsText: the program's and the specification's. -/
namespace Go.Proofs.YtgooanaacebncaaDoor
open Go.RowKit Go.PlainAid
set_option linter.unusedVariables false
set_option maxHeartbeats 1000000 in
theorem iBitsText_any (n : Int) (w : World) :
    Calls Tryd.prog 138 #[.int .i64 n] w fun e w' => e = .returned (.string (bitsS n)) ∧ Below w.heap.size w w' := by
  cases e1 : inR 0 7 n
  · have hy : Hid (bitsS n = ⟨#[]⟩) := bitsS_off (fun e => by rw [inR_yes e.1 e.2] at e1; cases e1)
    go_enter Tryd.func138, Tryd.ntmps138
    go_wp2_with (go_at_call 135; refine (isBits_any _ _).mono ?_; rintro e w' ⟨rfl, rfl⟩)
    go_ret
    exact ⟨by rw [hy.out]; rfl, Below.refl _ _⟩
  · obtain ⟨a, rfl⟩ := Int.eq_ofNat_of_zero_le (inR_iff.mp e1).1
    have ha : Hid (a ≤ 7) := (show a ≤ 7 by have := (inR_iff.mp e1).2; omega)
    have hy : Hid (bitsS a = bitsT a) := bitsS_in ha.out
    have ht := sW_text w (sg (b4 a) 114) (sg (b2 a) 119) (sg (b1 a) 120) 3
    go_enter Tryd.func138, Tryd.ntmps138
    go_wp2_with (first | (go_at_call 135; refine (isBits_any _ _).mono ?_; rintro e w' ⟨rfl, rfl⟩) | (go_at_call 149; refine (bitsSigns_in _ ha.out _).mono ?_; rintro e w' ⟨rfl, rfl⟩))
    go_ret
    exact ⟨by rw [hy.out]; rfl, sW_below _ _ _ _ _⟩
theorem sSign_any (b : Bool) (t : ByteArray) (w : World) :
    Calls Tryd.prog 113 #[.bool b, .string t] w fun e w' => e = .returned (.string (if b then t else ⟨#[45]⟩)) ∧ w' = w := by
  cases b
  all_goals (
    go_enter Tryd.func113, Tryd.ntmps113
    go_wp2
    go_ret
    exact ⟨rfl, rfl⟩)
set_option maxHeartbeats 4000000 in
theorem sBitsText_any (n : Int) (w : World) :
    Calls Tryd.prog 90 #[.int .i64 n] w fun e w' => e = .returned (.string (bitsS n)) ∧ w' = w := by
  cases e1 : inR 0 7 n
  · have hy : Hid (bitsS n = ⟨#[]⟩) := bitsS_off (fun e => by rw [inR_yes e.1 e.2] at e1; cases e1)
    go_enter Tryd.func90, Tryd.ntmps90
    go_wp2_with (go_at_call 111; refine (sBits_any _ _).mono ?_; rintro e w' ⟨rfl, rfl⟩)
    go_ret
    exact ⟨by rw [hy.out]; rfl, rfl⟩
  · obtain ⟨a, rfl⟩ := Int.eq_ofNat_of_zero_le (inR_iff.mp e1).1
    have ha : a ≤ 7 := by have := (inR_iff.mp e1).2; omega
    rcases eight ha with rfl | rfl | rfl | rfl | rfl | rfl | rfl | rfl
    all_goals (
      clear ha
      go_enter Tryd.func90, Tryd.ntmps90
      go_wp2_with (first | (go_at_call 111; refine (sBits_any _ _).mono ?_; rintro e w' ⟨rfl, rfl⟩) | (go_at_call 113; refine (sSign_any _ _ _).mono ?_; rintro e w' ⟨rfl, rfl⟩))
      go_ret
      exact ⟨rfl, rfl⟩)
end Go.Proofs.YtgooanaacebncaaDoor
