/- Laid together: HasMath, HasWalks. -/
import Derived.WalkKit
import Derived.Laws.BitsAllLaws
import Derived.Test.YtfhhaencigmpoaaDoorDf3
/- One set in another: 'h &&& w = w' of numbers, told by halves. Nothing here names a program. -/
namespace Go.Proofs.YtfhhaencigmpoaaDoor
open Go.RowKit
set_option linter.unusedVariables false
theorem i64_and_nat (a b : Nat) (ha : a < 9223372036854775808) (hb : b < 9223372036854775808) : bits .and .i64 (a : Int) (b : Int) = ((a &&& b : Nat) : Int) := by
  have hx : a &&& b ≤ a := Nat.and_le_left
  show IntKind.i64.wrap ((BitVec.ofInt 64 (a : Int) &&& BitVec.ofInt 64 (b : Int)).toNat : Int) = _
  rw [BitVec.toNat_and, ofInt_u64 a (by omega), ofInt_u64 b (by omega), IntKind.wrap_i64]
  omega
theorem i64_or_nat (a b : Nat) (ha : a < 4611686018427387904) (hb : b < 4611686018427387904) : bits .or .i64 (a : Int) (b : Int) = ((a ||| b : Nat) : Int) := by
  have hx : a ||| b < 2 ^ 62 := Nat.or_lt_two_pow (by omega) (by omega)
  show IntKind.i64.wrap ((BitVec.ofInt 64 (a : Int) ||| BitVec.ofInt 64 (b : Int)).toNat : Int) = _
  rw [BitVec.toNat_or, ofInt_u64 a (by omega), ofInt_u64 b (by omega), IntKind.wrap_i64]
  omega
/-- Has h each number of the set w? -/
def hasB (h w : Nat) : Bool := (h &&& w) == w
theorem and_two (a b : Nat) : (a &&& b) % 2 = (a % 2) * (b % 2) := by
  have h := Nat.and_mod_two_pow (a := a) (b := b) (n := 1)
  simp only [Nat.pow_one] at h
  rw [h]
  rcases Nat.mod_two_eq_zero_or_one a with e | e <;> rcases Nat.mod_two_eq_zero_or_one b with e' | e' <;> rw [e, e'] <;> rfl
theorem hasB_zero (a : Nat) : hasB a 0 = true := by simp [hasB]
theorem hasB_no {a b : Nat} (ha : a % 2 = 0) (hb : b % 2 = 1) : hasB a b = false := by
  have h := and_two a b
  rw [ha, hb] at h
  have : (a &&& b) ≠ b := by omega
  simp [hasB, this]
theorem hasB_half {a b : Nat} (h : ¬ (a % 2 = 0 ∧ b % 2 = 1)) : hasB a b = hasB (a / 2) (b / 2) := by
  have h1 := and_two a b
  have h2 : (a &&& b) / 2 = (a / 2 &&& b / 2) := Nat.and_div_two
  have h3 : ((a &&& b) = b) ↔ ((a / 2 &&& b / 2) = b / 2) := by
    rw [← h2]
    constructor
    · intro e
      rw [e]
    · intro e
      rcases Nat.mod_two_eq_zero_or_one a with e1 | e1 <;> rcases Nat.mod_two_eq_zero_or_one b with e2 | e2 <;> rw [e1, e2] at h1 <;> first | omega | (exact absurd ⟨e1, e2⟩ h)
  unfold hasB
  rw [Bool.eq_iff_iff]
  simp [h3]
theorem hasB_self (a : Nat) : hasB a a = true := by simp [hasB]
theorem le_65535_and {h w : Nat} (h1 : h ≤ 65535) : (h &&& w) ≤ 65535 := Nat.le_trans Nat.and_le_left h1
/-- Has, of whatever two numbers. -/
def hasZ (h w : Int) : Bool := decide (0 ≤ h ∧ h ≤ 65535) && decide (0 ≤ w ∧ w ≤ 65535) && hasB h.toNat w.toNat
theorem hasZ_off {h w : Int} (e : ¬ (0 ≤ h ∧ h ≤ 65535)) : hasZ h w = false := by simp [hasZ, e]
theorem hasZ_off2 {h w : Int} (e : ¬ (0 ≤ w ∧ w ≤ 65535)) : hasZ h w = false := by simp [hasZ, e]
theorem hasZ_in {h w : Nat} (h1 : h ≤ 65535) (h2 : w ≤ 65535) : hasZ h w = hasB h w := by
  have e1 : (0 ≤ (h : Int) ∧ (h : Int) ≤ 65535) := by omega
  have e2 : (0 ≤ (w : Int) ∧ (w : Int) ≤ 65535) := by omega
  simp [hasZ, e1, e2]
end Go.Proofs.YtfhhaencigmpoaaDoor
/- The contracts of Has: the program's and the specification's both answer whether each number of the one set is in the other. -/
namespace Go.Proofs.YtfhhaencigmpoaaDoor
open Go.RowKit Go.PlainAid
set_option linter.unusedVariables false
set_option maxHeartbeats 1000000 in
theorem sl02Has_any (h v : Nat) (h1 : h ≤ 65535) (h2 : v ≤ 65535) (w : World) :
    Calls Tryd.prog 103 #[.int .i64 h, .int .i64 v] w fun e w' => e = .returned (.bool (hasB h v)) ∧ w' = w := by
  go_enter Tryd.func103, Tryd.ntmps103
  go_wp2
  go_loop [0, 1] (fun x y => ∃ a b : Nat, a ≤ 65535 ∧ b ≤ 65535 ∧ x = .int .i64 a ∧ y = .int .i64 b ∧ Hid (hasB a b = hasB h v)) (fun _ y => (intOf y).toNat)
  case atStart => exact ⟨h, v, h1, h2, rfl, rfl, rfl⟩
  case round =>
    obtain ⟨a, b, ha, hb, rfl, rfl, he⟩ := hrel
    by_cases hz : b = 0
    · subst hz
      have hy : Hid (hasB h v = true) := (he.out.symm.trans (hasB_zero a))
      go_wp2
      go_ret
      exact ⟨ret_boolW hy.out.symm, rfl⟩
    · have hp : 0 < (b : Int) := by omega
      clear hz
      by_cases hb1 : b % 2 = 1
      · have q1 : (b : Int) % 2 = 1 := by omega
        by_cases ha0 : a % 2 = 0
        · have hy : Hid (hasB h v = false) := (he.out.symm.trans (hasB_no ha0 hb1))
          have q2 : (a : Int) % 2 = 0 := by omega
          clear hb1 ha0
          go_wp2
          go_ret
          exact ⟨ret_boolW hy.out.symm, rfl⟩
        · have hy : Hid (hasB (a / 2) (b / 2) = hasB h v) := ((hasB_half (fun e => ha0 e.1)).symm.trans he.out)
          have q2 : (a : Int) % 2 = 1 := by omega
          clear hb1 ha0
          go_wp2
          go_round
          case rel => exact ⟨a / 2, b / 2, by omega, by omega, by go_num, by go_num, hy⟩
          case measure => simp [intOf]; omega
      · have hy : Hid (hasB (a / 2) (b / 2) = hasB h v) := ((hasB_half (fun e => hb1 e.2)).symm.trans he.out)
        have q1 : (b : Int) % 2 = 0 := by omega
        clear hb1
        go_wp2
        go_round
        case rel => exact ⟨a / 2, b / 2, by omega, by omega, by go_num, by go_num, hy⟩
        case measure => simp [intOf]; omega
theorem hasZ_def (h v : Int) (h0 : inR 0 65535 h = true) (h1 : inR 0 65535 v = true) : hasZ h v = hasB h.toNat v.toNat := by
  rw [inR_iff] at h0 h1
  simp [hasZ, h0, h1]
theorem and_i64 (a b : Nat) (h1 : a ≤ 65535) (h2 : b ≤ 65535) : bits .and .i64 (a : Int) (b : Int) = ((a &&& b : Nat) : Int) := i64_and_nat a b (by omega) (by omega)
set_option maxHeartbeats 1000000 in
theorem iHas_any (h v : Int) (w : World) :
    Calls Tryd.prog 102 #[.int .i64 h, .int .i64 v] w fun e w' => e = .returned (.bool (hasZ h v)) ∧ w' = w := by
  cases e1 : inR 0 65535 h
  · have hy : Hid (hasZ h v = false) := hasZ_off (fun e => by rw [inR_yes e.1 e.2] at e1; cases e1)
    go_enter Tryd.func102, Tryd.ntmps102
    go_wp2_with (go_at_call 114; refine (isSet_any _ _).mono ?_; rintro e w' ⟨rfl, rfl⟩)
    go_ret
    exact ⟨ret_boolW hy.out.symm, rfl⟩
  · cases e2 : inR 0 65535 v
    · have hy : Hid (hasZ h v = false) := hasZ_off2 (fun e => by rw [inR_yes e.1 e.2] at e2; cases e2)
      go_enter Tryd.func102, Tryd.ntmps102
      go_wp2_with (go_at_call 114; refine (isSet_any _ _).mono ?_; rintro e w' ⟨rfl, rfl⟩)
      go_ret
      exact ⟨ret_boolW hy.out.symm, rfl⟩
    · have hy : Hid (hasZ h v = hasB h.toNat v.toNat) := hasZ_def h v e1 e2
      obtain ⟨a, rfl⟩ := Int.eq_ofNat_of_zero_le (inR_iff.mp e1).1
      obtain ⟨b, rfl⟩ := Int.eq_ofNat_of_zero_le (inR_iff.mp e2).1
      have hab := and_i64 a b (by have := (inR_iff.mp e1).2; omega) (by have := (inR_iff.mp e2).2; omega)
      have hz : Hid ((((a &&& b : Nat) : Int) == (b : Int)) = hasB a b) := (show (((a &&& b : Nat) : Int) == (b : Int)) = hasB a b by unfold hasB; rw [Bool.eq_iff_iff]; simp only [beq_iff_eq]; omega)
      go_enter Tryd.func102, Tryd.ntmps102
      go_wp2_with (go_at_call 114; refine (isSet_any _ _).mono ?_; rintro e w' ⟨rfl, rfl⟩)
      go_ret
      exact ⟨ret_boolW (hz.out.trans hy.out.symm), rfl⟩
end Go.Proofs.YtfhhaencigmpoaaDoor
