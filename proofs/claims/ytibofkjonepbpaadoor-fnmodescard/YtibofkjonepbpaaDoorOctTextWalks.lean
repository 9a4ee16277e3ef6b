/- The contracts of OctText: the program's and the specification's. -/
import Derived.Test.YtibofkjonepbpaaDoorWhoIs
import Derived.Test.YtibofkjonepbpaaDoorOctMath
import Derived.Handy
namespace Go.Proofs.YtibofkjonepbpaaDoor
open Go.RowKit Go.PlainAid
set_option linter.unusedVariables false
set_option maxHeartbeats 1000000 in
theorem sOctText_any (n : Int) (w : World) :
    Calls Tryd.prog 33 #[.int .i64 n] w fun e w' => e = .returned (.string (octS n)) ∧ Below w.heap.size w w' := by
  cases e1 : inR 0 4095 n
  · have hy : Hid (octS n = ⟨#[]⟩) := octS_off (fun e => by rw [inR_yes e.1 e.2] at e1; cases e1)
    go_enter Tryd.func33, Tryd.ntmps33
    go_wp2_with (go_at_call 98; refine (sMode_any _ _).mono ?_; rintro e w' ⟨rfl, rfl⟩)
    go_ret
    exact ⟨by rw [hy.out]; rfl, Below.refl _ _⟩
  · obtain ⟨a, rfl⟩ := Int.eq_ofNat_of_zero_le (inR_iff.mp e1).1
    have ha : a ≤ 4095 := by have := (inR_iff.mp e1).2; omega
    have hy : Hid (octS a = octT a) := octS_in ha
    have ht := oct_text (P := Tryd.prog) w 22 5 9 Tryd.underlying22 Tryd.underlying5 Tryd.underlying9 a ha
    go_enter Tryd.func33, Tryd.ntmps33
    go_wp2_with (go_at_call 98; refine (sMode_any _ _).mono ?_; rintro e w' ⟨rfl, rfl⟩)
    go_ret
    exact ⟨by rw [hy.out]; rfl, (Below.refl _ _).alloc (Nat.le_refl _) _⟩
theorem make4 (w : World) : (Instr.makeSlice 22 (.int .i64 4) (.int .i64 4)).run Tryd.prog w = .ok (.slice (some ⟨w.heap.size, 0, none⟩) 4 4) (w.alloc (.cells #[.int .u8 0, .int .u8 0, .int .u8 0, .int .u8 0] 5)) := by kernel_rfl
set_option maxHeartbeats 4000000 in
theorem iOctText_any (n : Int) (w : World) :
    Calls Tryd.prog 27 #[.int .i64 n] w fun e w' => e = .returned (.string (octS n)) ∧ Below w.heap.size w w' := by
  cases e1 : inR 0 4095 n
  · have hy : Hid (octS n = ⟨#[]⟩) := octS_off (fun e => by rw [inR_yes e.1 e.2] at e1; cases e1)
    go_enter Tryd.func27, Tryd.ntmps27
    go_wp2_with (go_at_call 90; refine (isMode_any _ _).mono ?_; rintro e w' ⟨rfl, rfl⟩)
    go_ret
    exact ⟨by rw [hy.out]; rfl, Below.refl _ _⟩
  · obtain ⟨a, rfl⟩ := Int.eq_ofNat_of_zero_le (inR_iff.mp e1).1
    have ha : a ≤ 4095 := by have := (inR_iff.mp e1).2; omega
    have hy : Hid (octS a = octT a) := octS_in ha
    have ht := oct_text (P := Tryd.prog) w 22 5 9 Tryd.underlying22 Tryd.underlying5 Tryd.underlying9 a ha
    have hm := make4
    have q3 : bits .and .i64 ((a : Int) / 512) 7 = (a : Int) / 512 := by have := and7_at a 512 ha; rw [show ((512 : Nat) : Int) = 512 from rfl] at this; rw [this]; omega
    have q2 : bits .and .i64 ((a : Int) / 64) 7 = (a : Int) / 64 % 8 := and7_at a 64 ha
    have q1 : bits .and .i64 ((a : Int) / 8) 7 = (a : Int) / 8 % 8 := and7_at a 8 ha
    have q0 : bits .and .i64 (a : Int) 7 = (a : Int) % 8 := by rw [and7 a ha]; omega
    go_enter Tryd.func27, Tryd.ntmps27
    go_wp2_with (go_at_call 90; refine (isMode_any _ _).mono ?_; rintro e w' ⟨rfl, rfl⟩)
    go_rounds 5
    go_ret
    exact ⟨by rw [hy.out]; rfl, (Below.refl _ _).alloc (Nat.le_refl _) _⟩
end Go.Proofs.YtibofkjonepbpaaDoor
