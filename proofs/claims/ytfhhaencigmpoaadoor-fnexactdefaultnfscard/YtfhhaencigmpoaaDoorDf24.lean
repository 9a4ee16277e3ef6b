/- Laid together: Both, Take. -/
import Derived.Test.YtfhhaencigmpoaaDoorDf18
import Derived.Test.YtfhhaencigmpoaaDoorDf23
import Derived.BigQuiet
/- spec.l02Both, spec.l02Either: what both of two sets have, and what one of them has. -/
namespace Go.Proofs.YtfhhaencigmpoaaDoor
open Go.RowKit Go.PlainAid
set_option linter.unusedVariables false
theorem wdm (a k : Nat) (h : a ≤ 65535) : (wrap64 ((a : Int) / (k : Int))).tmod 2 = ((a / k % 2 : Nat) : Int) := by
  rw [← Int.natCast_ediv]
  have hq : a / k ≤ 65535 := Nat.le_trans (Nat.div_le_self _ _) h
  generalize a / k = q at hq ⊢
  have e : wrap64 (q : Int) = q := by unfold wrap64; omega
  rw [e, Int.tmod_eq_emod_of_nonneg (by omega)]
  omega
set_option maxHeartbeats 2000000 in
theorem sBoth_nat (a b : Nat) (h1 : a ≤ 65535) (h2 : b ≤ 65535) (w : World) :
    Calls Tryd.prog 68 #[.int .i64 a, .int .i64 b] w fun e w' => e = .returned (.int .i64 ((a &&& b : Nat) : Int)) ∧ w' = w := by
  go_enter Tryd.func68, Tryd.ntmps68
  go_wp2
  go_loop [5, 6] (fun o q => ∃ i k : Nat, 1 ≤ k ∧ k ≤ 200000 ∧ Hid (k = 2 ^ i) ∧ q = .int .i64 k ∧ o = .int .i64 ((bothTo a b i : Nat) : Int) ∧ bothTo a b i ≤ 65535) (fun _ q => a + 1 - (intOf q).toNat)
  case atStart => exact ⟨0, 1, by omega, by omega, rfl, rfl, by simp [bothTo, Nat.mod_one], by simp [bothTo, Nat.mod_one]⟩
  case round =>
    obtain ⟨i, k, hk1, hk2, he, rfl, rfl, hle⟩ := hrel
    by_cases hle2 : k ≤ a
    · have hle' : (k : Int) ≤ (a : Int) := by omega
      have hk0 : (0 : Int) < (k : Int) := by omega
      have hnext : Hid (2 * k = 2 ^ (i + 1)) := (by show _ = _; rw [he.out, Nat.pow_succ]; omega)
      have hlenext : bothTo a b (i + 1) ≤ 65535 := by
        have : bothTo a b (i + 1) ≤ a &&& b := Nat.mod_le _ _
        have h3 : a &&& b ≤ a := Nat.and_le_left
        omega
      by_cases ha : a / k % 2 = 1
      · have qa : (wrap64 ((a : Int) / (k : Int))).tmod 2 = 1 := by rw [wdm a k h1, ha]; rfl
        by_cases hb : b / k % 2 = 1
        · have qb : (wrap64 ((b : Int) / (k : Int))).tmod 2 = 1 := by rw [wdm b k h2, hb]; rfl
          have hy : Hid (bothTo a b (i + 1) = bothTo a b i + k) := (by
            show _ = _
            rw [he.out] at ha hb ⊢
            exact bothTo_yes ha hb)
          clear ha hb
          go_wp2
          go_round
          case rel => exact ⟨i + 1, 2 * k, by omega, by omega, hnext, by go_num, by rw [hy.out]; go_num, hlenext⟩
          case measure => simp [intOf]; omega
        · have qb : (wrap64 ((b : Int) / (k : Int))).tmod 2 = 0 := by rw [wdm b k h2, (by omega : b / k % 2 = 0)]; rfl
          have hy : Hid (bothTo a b (i + 1) = bothTo a b i) := (by
            show _ = _
            rw [he.out] at ha hb
            exact bothTo_no (fun h => hb h.2))
          clear ha hb
          go_wp2
          go_round
          case rel => exact ⟨i + 1, 2 * k, by omega, by omega, hnext, by go_num, by rw [hy.out], hlenext⟩
          case measure => simp [intOf]; omega
      · have qa : (wrap64 ((a : Int) / (k : Int))).tmod 2 = 0 := by rw [wdm a k h1, (by omega : a / k % 2 = 0)]; rfl
        have hy : Hid (bothTo a b (i + 1) = bothTo a b i) := (by
          show _ = _
          rw [he.out] at ha
          exact bothTo_no (fun h => ha h.1))
        clear ha
        go_wp2
        go_round
        case rel => exact ⟨i + 1, 2 * k, by omega, by omega, hnext, by go_num, by rw [hy.out], hlenext⟩
        case measure => simp [intOf]; omega
    · have hd : decide ((k : Int) ≤ (a : Int)) = false := decide_eq_false (by omega)
      have hy : Hid (bothTo a b i = a &&& b) := (by
        show _ = _
        rw [he.out] at hle2
        exact bothTo_end (by omega))
      go_wp2
      go_ret
      exact ⟨by rw [← hy.out]; rfl, rfl⟩
/-- spec.l02Both. -/
theorem sBoth_any (a b : Int) (a0 : 0 ≤ a) (a1 : a ≤ 65535) (b0 : 0 ≤ b) (b1 : b ≤ 65535) (w : World) :
    Calls Tryd.prog 68 #[.int .i64 a, .int .i64 b] w fun e w' => e = .returned (.int .i64 (andI a b)) ∧ w' = w := by
  obtain ⟨x, rfl⟩ := Int.eq_ofNat_of_zero_le a0
  obtain ⟨y, rfl⟩ := Int.eq_ofNat_of_zero_le b0
  exact sBoth_nat x y (by omega) (by omega) w
set_option maxHeartbeats 1000000 in
/-- spec.l02Either. -/
theorem sEither_any (a b : Int) (a0 : 0 ≤ a) (a1 : a ≤ 65535) (b0 : 0 ≤ b) (b1 : b ≤ 65535) (w : World) :
    Calls Tryd.prog 104 #[.int .i64 a, .int .i64 b] w fun e w' => e = .returned (.int .i64 (orI a b)) ∧ w' = w := by
  have e : Hid (a + b - andI a b = orI a b) := (by
    show _ = _
    obtain ⟨x, rfl⟩ := Int.eq_ofNat_of_zero_le a0
    obtain ⟨y, rfl⟩ := Int.eq_ofNat_of_zero_le b0
    have h := or_both x y
    have h2 : x &&& y ≤ x := Nat.and_le_left
    show (x : Int) + (y : Int) - ((x &&& y : Nat) : Int) = ((x ||| y : Nat) : Int)
    omega)
  have hA : 0 ≤ andI a b ∧ andI a b ≤ 65535 := by
    have h : a.toNat &&& b.toNat ≤ a.toNat := Nat.and_le_left
    unfold andI
    omega
  obtain ⟨k0, k1⟩ := hA
  have hc : Hid (∀ w, Calls Tryd.prog 68 #[.int .i64 a, .int .i64 b] w fun e w' => e = .returned (.int .i64 (andI a b)) ∧ w' = w) := sBoth_any a b a0 a1 b0 b1
  generalize andI a b = k at hc e k0 k1
  go_enter Tryd.func104, Tryd.ntmps104
  go_wp2_with (go_at_call 68; refine (hc.out _).mono ?_; rintro e w' ⟨rfl, rfl⟩)
  go_ret
  exact ⟨by rw [← e.out]; rfl, rfl⟩
end Go.Proofs.YtfhhaencigmpoaaDoor
/- spec.l04Take; spec.l04Holds. -/
namespace Go.Proofs.YtfhhaencigmpoaaDoor
open Go.RowKit Go.PlainAid Go.Deep
set_option linter.unusedVariables false
theorem below_drewT {B : Nat} {w w' : World} (h : Below B w w') (n : Nat) : Below B w (w'.drewN n) := h.trans ⟨rfl, rfl, rfl, Nat.le_refl _, fun _ _ => rfl⟩
/-- What is given then. -/
def takeP (al : Bool) (p d : Int) : Int := if al then p + d else p
end Go.Proofs.YtfhhaencigmpoaaDoor
