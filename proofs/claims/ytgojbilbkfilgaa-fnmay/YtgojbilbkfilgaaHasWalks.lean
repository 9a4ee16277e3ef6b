/- The contracts of Has: the program's and the specification's both answer whether each number of the one set is in the other. -/
import Derived.Test.YtgojbilbkfilgaaWhoIs
import Derived.Test.YtgojbilbkfilgaaHasMath
namespace Go.Proofs.Ytgojbilbkfilgaa
open Go.RowKit Go.PlainAid
set_option linter.unusedVariables false
set_option maxHeartbeats 1000000 in
theorem sl02Has_any (h v : Nat) (h1 : h ≤ 65535) (h2 : v ≤ 65535) (w : World) :
    Calls Try.prog 126 #[.int .i64 h, .int .i64 v] w fun e w' => e = .returned (.bool (hasB h v)) ∧ w' = w := by
  go_enter Try.func126, Try.ntmps126
  go_wp2
  go_loop [0, 1] (fun x y => ∃ a b : Nat, a ≤ 65535 ∧ b ≤ 65535 ∧ x = .int .i64 a ∧ y = .int .i64 b ∧ Hid (hasB a b = hasB h v)) (fun _ y => (intOf y).toNat)
  case atStart => exact ⟨h, v, h1, h2, rfl, rfl, rfl⟩
  case round =>
    obtain ⟨a, b, ha, hb, rfl, rfl, he⟩ := hrel
    by_cases hz : b = 0
    · subst hz
      have hy : Hid (hasB h v = true) := (he.out.symm.trans (hasB_zero a))
      go_wp2
      go_ret
      exact ⟨ret_boolW hy.out.symm, rfl⟩
    · have hp : 0 < (b : Int) := by omega
      clear hz
      by_cases hb1 : b % 2 = 1
      · have q1 : (b : Int) % 2 = 1 := by omega
        by_cases ha0 : a % 2 = 0
        · have hy : Hid (hasB h v = false) := (he.out.symm.trans (hasB_no ha0 hb1))
          have q2 : (a : Int) % 2 = 0 := by omega
          clear hb1 ha0
          go_wp2
          go_ret
          exact ⟨ret_boolW hy.out.symm, rfl⟩
        · have hy : Hid (hasB (a / 2) (b / 2) = hasB h v) := ((hasB_half (fun e => ha0 e.1)).symm.trans he.out)
          have q2 : (a : Int) % 2 = 1 := by omega
          clear hb1 ha0
          go_wp2
          go_round
          case rel => exact ⟨a / 2, b / 2, by omega, by omega, by go_num, by go_num, hy⟩
          case measure => simp [intOf]; omega
      · have hy : Hid (hasB (a / 2) (b / 2) = hasB h v) := ((hasB_half (fun e => hb1 e.2)).symm.trans he.out)
        have q1 : (b : Int) % 2 = 0 := by omega
        clear hb1
        go_wp2
        go_round
        case rel => exact ⟨a / 2, b / 2, by omega, by omega, by go_num, by go_num, hy⟩
        case measure => simp [intOf]; omega
theorem hasZ_def (h v : Int) (h0 : inR 0 65535 h = true) (h1 : inR 0 65535 v = true) : hasZ h v = hasB h.toNat v.toNat := by
  rw [inR_iff] at h0 h1
  simp [hasZ, h0, h1]
theorem and_i64 (a b : Nat) (h1 : a ≤ 65535) (h2 : b ≤ 65535) : bits .and .i64 (a : Int) (b : Int) = ((a &&& b : Nat) : Int) := i64_and_nat a b (by omega) (by omega)
set_option maxHeartbeats 1000000 in
theorem iHas_any (h v : Int) (w : World) :
    Calls Try.prog 41 #[.int .i64 h, .int .i64 v] w fun e w' => e = .returned (.bool (hasZ h v)) ∧ w' = w := by
  cases e1 : inR 0 65535 h
  · have hy : Hid (hasZ h v = false) := hasZ_off (fun e => by rw [inR_yes e.1 e.2] at e1; cases e1)
    go_enter Try.func41, Try.ntmps41
    go_wp2_with (go_at_call 94; refine (isSet_any _ _).mono ?_; rintro e w' ⟨rfl, rfl⟩)
    go_ret
    exact ⟨ret_boolW hy.out.symm, rfl⟩
  · cases e2 : inR 0 65535 v
    · have hy : Hid (hasZ h v = false) := hasZ_off2 (fun e => by rw [inR_yes e.1 e.2] at e2; cases e2)
      go_enter Try.func41, Try.ntmps41
      go_wp2_with (go_at_call 94; refine (isSet_any _ _).mono ?_; rintro e w' ⟨rfl, rfl⟩)
      go_ret
      exact ⟨ret_boolW hy.out.symm, rfl⟩
    · have hy : Hid (hasZ h v = hasB h.toNat v.toNat) := hasZ_def h v e1 e2
      obtain ⟨a, rfl⟩ := Int.eq_ofNat_of_zero_le (inR_iff.mp e1).1
      obtain ⟨b, rfl⟩ := Int.eq_ofNat_of_zero_le (inR_iff.mp e2).1
      have hab := and_i64 a b (by have := (inR_iff.mp e1).2; omega) (by have := (inR_iff.mp e2).2; omega)
      have hz : Hid ((((a &&& b : Nat) : Int) == (b : Int)) = hasB a b) := (show (((a &&& b : Nat) : Int) == (b : Int)) = hasB a b by unfold hasB; rw [Bool.eq_iff_iff]; simp only [beq_iff_eq]; omega)
      go_enter Try.func41, Try.ntmps41
      go_wp2_with (go_at_call 94; refine (isSet_any _ _).mono ?_; rintro e w' ⟨rfl, rfl⟩)
      go_ret
      exact ⟨ret_boolW (hz.out.trans hy.out.symm), rfl⟩
end Go.Proofs.Ytgojbilbkfilgaa
