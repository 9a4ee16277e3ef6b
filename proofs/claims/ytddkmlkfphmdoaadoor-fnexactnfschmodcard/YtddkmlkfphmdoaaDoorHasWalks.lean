/- The contracts of Has: the program's and the specification's both answer whether each number of the one set is in the other. -/
import Derived.Test.YtddkmlkfphmdoaaDoorWhoIs
import Derived.Test.YtddkmlkfphmdoaaDoorHasMath
namespace Go.Proofs.YtddkmlkfphmdoaaDoor
open Go.RowKit Go.PlainAid
set_option linter.unusedVariables false
theorem hasZ_def (h v : Int) (h0 : inR 0 65535 h = true) (h1 : inR 0 65535 v = true) : hasZ h v = hasB h.toNat v.toNat := by
  rw [inR_iff] at h0 h1
  simp [hasZ, h0, h1]
theorem and_i64 (a b : Nat) (h1 : a ≤ 65535) (h2 : b ≤ 65535) : bits .and .i64 (a : Int) (b : Int) = ((a &&& b : Nat) : Int) := i64_and_nat a b (by omega) (by omega)
set_option maxHeartbeats 1000000 in
theorem iHas_any (h v : Int) (w : World) :
    Calls Tryd.prog 42 #[.int .i64 h, .int .i64 v] w fun e w' => e = .returned (.bool (hasZ h v)) ∧ w' = w := by
  cases e1 : inR 0 65535 h
  · have hy : Hid (hasZ h v = false) := hasZ_off (fun e => by rw [inR_yes e.1 e.2] at e1; cases e1)
    go_enter Tryd.func42, Tryd.ntmps42
    go_wp2_with (go_at_call 47; refine (isSet_any _ _).mono ?_; rintro e w' ⟨rfl, rfl⟩)
    go_ret
    exact ⟨ret_boolW hy.out.symm, rfl⟩
  · cases e2 : inR 0 65535 v
    · have hy : Hid (hasZ h v = false) := hasZ_off2 (fun e => by rw [inR_yes e.1 e.2] at e2; cases e2)
      go_enter Tryd.func42, Tryd.ntmps42
      go_wp2_with (go_at_call 47; refine (isSet_any _ _).mono ?_; rintro e w' ⟨rfl, rfl⟩)
      go_ret
      exact ⟨ret_boolW hy.out.symm, rfl⟩
    · have hy : Hid (hasZ h v = hasB h.toNat v.toNat) := hasZ_def h v e1 e2
      obtain ⟨a, rfl⟩ := Int.eq_ofNat_of_zero_le (inR_iff.mp e1).1
      obtain ⟨b, rfl⟩ := Int.eq_ofNat_of_zero_le (inR_iff.mp e2).1
      have hab := and_i64 a b (by have := (inR_iff.mp e1).2; omega) (by have := (inR_iff.mp e2).2; omega)
      have hz : Hid ((((a &&& b : Nat) : Int) == (b : Int)) = hasB a b) := (show (((a &&& b : Nat) : Int) == (b : Int)) = hasB a b by unfold hasB; rw [Bool.eq_iff_iff]; simp only [beq_iff_eq]; omega)
      go_enter Tryd.func42, Tryd.ntmps42
      go_wp2_with (go_at_call 47; refine (isSet_any _ _).mono ?_; rintro e w' ⟨rfl, rfl⟩)
      go_ret
      exact ⟨ret_boolW (hz.out.trans hy.out.symm), rfl⟩
end Go.Proofs.YtddkmlkfphmdoaaDoor
