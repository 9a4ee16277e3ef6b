/- The law FnExactNfsBytes, of a list that is not too long, and of one that is. -/
import Derived.Test.YtddkmlkfphmdoaaNbW
import Derived.Test.YtddkmlkfphmdoaaAceTo
import Derived.Deep.RegionHeld3
namespace Go.Proofs.Ytddkmlkfphmdoaa
open Go.RowKit Go.PlainAid Go.Deep
set_option linter.unusedVariables false
set_option maxHeartbeats 2000000 in
theorem nfsBytes_long (a : Option Addr) (len cap : Nat) (hl : ¬ len ≤ 1048576) (hm : len ≤ 9223372036854775807) (w : World) :
    Calls Try.prog 5 #[.slice a len cap] w fun e w' => e = .returned (.bool true) ∧ Below w.heap.size w w' := by
  have hz : Hid (∀ w, Calls Try.prog 16 #[.slice a len cap, .int .i64 1048576] w fun e w' => e = .returned (.int .i64 (-1)) ∧ w' = w) := (by
    intro w
    have := szAceS_any a len cap 1048576 (by omega) hm w
    rwa [if_pos (by omega)] at this)
  clear hl hm
  go_enter Try.func5, Try.ntmps5
  go_wp2_with (go_at_call 16; refine (hz.out _).mono ?_; rintro e w1 ⟨rfl, rfl⟩)
  go_ret
  exact ⟨rfl, Below.refl _ _⟩
set_option maxHeartbeats 4000000 in
theorem nfsBytes_short (a : Option Addr) (len cap : Nat) (l : List Ac) (hl : len ≤ 1048576) (w : World) (hi : Acs a len l w) :
    Calls Try.prog 5 #[.slice a len cap] w fun e w' => e = .returned (.bool true) ∧ Below w.heap.size w w' := by
  have hz : Hid (∀ w, Calls Try.prog 16 #[.slice a len cap, .int .i64 1048576] w fun e w' => e = .returned (.int .i64 (1048576 - len)) ∧ w' = w) := (by
    intro w
    have := szAceS_any a len cap 1048576 (by omega) (by omega) w
    rwa [if_neg (by omega)] at this)
  have ht : Hid (∀ w', Below w.heap.size w w' → Calls Try.prog 18 #[.slice a len cap] w' fun e w'' => ∃ B, e = .returned (.slice (some ⟨B, 0, none⟩) len len) ∧ OwnA (some ⟨B, 0, none⟩) len l w'' ∧ w'.heap.size ≤ B ∧ B < w''.heap.size ∧ Below w'.heap.size w' w'') := (fun w' hb => (toAceS_any a len cap l hl w' (hi.below hb)).mono (fun e w'' ⟨h1, h2, h3, h4⟩ => ⟨_, h1, h2, Nat.le_refl _, h3, h4⟩))
  have d1 : decide (1048576 - (len : Int) < 0) = false := by simp; omega
  have HL : Hid (len ≤ 1048576) := hl
  clear hi hl
  go_enter Try.func5, Try.ntmps5
  go_wp2_with (go_at_call 16; refine (hz.out _).mono ?_; rintro e w ⟨rfl, rfl⟩)
  refine (ht.out _ (Below.refl _ _)).mono ?_
  rintro e w1 ⟨B1, rfl, hO1, _, _, hb1⟩
  have hW1 : Hid (Below w.heap.size w w1) := hb1
  have HO1 : Hid (OwnA (some ⟨B1, 0, none⟩) len l w1) := hO1
  clear hb1 hO1
  go_wp2_with fail
  refine (sNfsBytes_any _ len len l HL.out _ HO1.out.acs).mono ?_
  rintro e w2 ⟨rfl, hb2⟩
  have hW2 : Hid (Below w.heap.size w w2) := Below.on hW1.out hb2
  clear hb2 hW1 HO1
  go_wp2_with fail
  refine (ht.out _ hW2.out).mono ?_
  rintro e w3 ⟨B3, rfl, hO3, _, _, hb3⟩
  have hW3 : Hid (Below w.heap.size w w3) := Below.on hW2.out hb3
  have HO3 : Hid (OwnA (some ⟨B3, 0, none⟩) len l w3) := hO3
  clear hb3 hO3 hW2
  go_wp2_with fail
  refine (iNfsBytes_any _ len len l _ HO3.out.acs).mono ?_
  rintro e w4 ⟨rfl, hb4⟩
  have hW4 : Hid (Below w.heap.size w w4) := Below.on hW3.out hb4
  have HO4 : Hid (OwnA (some ⟨B3, 0, none⟩) len l w4) := HO3.out.below hb4
  clear hb4 HO3 hW3
  generalize nbT l = cb
  go_wp2_with fail
  refine (ht.out _ hW4.out).mono ?_
  rintro e w5 ⟨B5, rfl, hO5, _, _, hb5⟩
  have hW5 : Hid (Below w.heap.size w w5) := Below.on hW4.out hb5
  have HO5 : Hid (OwnA (some ⟨B5, 0, none⟩) len l w5) := hO5
  have HO6 : Hid (OwnA (some ⟨B3, 0, none⟩) len l w5) := HO4.out.below hb5
  clear hb5 hO5 hW4 HO4
  go_wp2_with fail
  refine (eqAceS_any _ _ len len len l HL.out _ HO6.out.acs HO5.out.acs).mono ?_
  rintro e w6 ⟨rfl, hb6⟩
  have hW6 : Hid (Below w.heap.size w w6) := Below.on hW5.out hb6
  clear hb6
  go_wp2
  go_ret
  exact ⟨rfl, hW6.out⟩
end Go.Proofs.Ytddkmlkfphmdoaa
