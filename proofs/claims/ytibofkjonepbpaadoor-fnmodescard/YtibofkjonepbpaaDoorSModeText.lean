/- spec.ModeText. -/
import Derived.Test.YtibofkjonepbpaaDoorBitsTextWalks
import Derived.Test.YtibofkjonepbpaaDoorModeMath
namespace Go.Proofs.YtibofkjonepbpaaDoor
open Go.RowKit Go.PlainAid
set_option linter.unusedVariables false
set_option maxHeartbeats 8000000 in
theorem l02Three_in (m : Nat) (hm : m ≤ 7) (set : Bool) (lo hi : UInt8) (w : World) :
    Calls Tryd.prog 126 #[.int .i64 m, .bool set, .string ⟨#[lo]⟩, .string ⟨#[hi]⟩] w fun e w' => e = .returned (.string (thr m set lo hi)) ∧ w' = w := by
  have hc : Hid (∀ w, Calls Tryd.prog 31 #[.int .i64 m] w fun e w' => e = .returned (.string (bitsT m)) ∧ w' = w) := (by intro w; have := sBitsText_any m w; rw [bitsS_in hm] at this; exact this)
  have hz : (bitsT m).size = 3 := rfl
  have hx0 : (bitsT m).extract 0 2 = ⟨#[sg (b4 m) 114, sg (b2 m) 119]⟩ := rfl
  have hx : Hid ((bitsT m).extract 0 2 = ⟨#[sg (b4 m) 114, sg (b2 m) 119]⟩) := hx0
  have hzx : ((bitsT m).extract 0 2).size = 2 := rfl
  cases set
  · have hy : Hid (thr m false lo hi = bitsT m) := rfl
    generalize bitsT m = s at hc hz hx hy
    clear hx0 hzx
    go_enter Tryd.func126, Tryd.ntmps126
    go_wp2_with (go_at_call 31; refine (hc.out _).mono ?_; rintro e w' ⟨rfl, rfl⟩)
    go_ret
    exact ⟨by rw [hy.out]; rfl, rfl⟩
  · by_cases hb : m % 2 = 1
    · have q : (m : Int) % 2 = 1 := by omega
      have hy : Hid (thr m true lo hi = (bitsT m).extract 0 2 ++ ⟨#[lo]⟩) := (by
        have e : b1 m = true := by simp [b1, hb]
        show thr m true lo hi = _
        rw [hx0]
        simp only [thr, third, e]
        rfl)
      generalize bitsT m = s at hc hz hx hy hzx
      clear hx0 hb
      go_enter Tryd.func126, Tryd.ntmps126
      go_wp2_with (go_at_call 31; refine (hc.out _).mono ?_; rintro e w' ⟨rfl, rfl⟩)
      go_ret
      exact ⟨by rw [hy.out]; rfl, rfl⟩
    · have q : (m : Int) % 2 = 0 := by omega
      have hy : Hid (thr m true lo hi = (bitsT m).extract 0 2 ++ ⟨#[hi]⟩) := (by
        have e : b1 m = false := by simp [b1, hb]
        show thr m true lo hi = _
        rw [hx0]
        simp only [thr, third, e]
        rfl)
      generalize bitsT m = s at hc hz hx hy hzx
      clear hx0 hb
      go_enter Tryd.func126, Tryd.ntmps126
      go_wp2_with (go_at_call 31; refine (hc.out _).mono ?_; rintro e w' ⟨rfl, rfl⟩)
      go_ret
      exact ⟨by rw [hy.out]; rfl, rfl⟩
set_option maxHeartbeats 4000000 in
theorem l02Text_in (n : Nat) (hn : n ≤ 4095) (w : World) :
    Calls Tryd.prog 99 #[.int .i64 n] w fun e w' => e = .returned (.string (modeT n)) ∧ w' = w := by
  have h1 : Hid (∀ w, Calls Tryd.prog 126 #[.int .i64 ((n : Int) / 64 % 8), .bool ((n : Int) / 2048 == 1), .string ⟨#[115]⟩, .string ⟨#[83]⟩] w fun e w' => e = .returned (.string (m1 n)) ∧ w' = w) := (by
    intro w
    rw [show (n : Int) / 64 % 8 = ((n / 64 % 8 : Nat) : Int) by omega, show ((n : Int) / 2048 == 1) = s1 n by unfold s1; rw [Bool.eq_iff_iff]; simp only [beq_iff_eq]; omega]
    exact l02Three_in (n / 64 % 8) (by omega) (s1 n) 115 83 w)
  have h2 : Hid (∀ w, Calls Tryd.prog 126 #[.int .i64 ((n : Int) / 8 % 8), .bool ((n : Int) / 1024 % 2 == 1), .string ⟨#[115]⟩, .string ⟨#[83]⟩] w fun e w' => e = .returned (.string (m2 n)) ∧ w' = w) := (by
    intro w
    rw [show (n : Int) / 8 % 8 = ((n / 8 % 8 : Nat) : Int) by omega, show ((n : Int) / 1024 % 2 == 1) = s2 n by unfold s2; rw [Bool.eq_iff_iff]; simp only [beq_iff_eq]; omega]
    exact l02Three_in (n / 8 % 8) (by omega) (s2 n) 115 83 w)
  have h3 : Hid (∀ w, Calls Tryd.prog 126 #[.int .i64 ((n : Int) % 8), .bool ((n : Int) / 512 % 2 == 1), .string ⟨#[116]⟩, .string ⟨#[84]⟩] w fun e w' => e = .returned (.string (m3 n)) ∧ w' = w) := (by
    intro w
    rw [show (n : Int) % 8 = ((n % 8 : Nat) : Int) by omega, show ((n : Int) / 512 % 2 == 1) = s3 n by unfold s3; rw [Bool.eq_iff_iff]; simp only [beq_iff_eq]; omega]
    exact l02Three_in (n % 8) (by omega) (s3 n) 116 84 w)
  have hy : Hid (modeT n = m1 n ++ m2 n ++ m3 n) := rfl
  have z1 : (m1 n).size = 3 := rfl
  have z2 : (m2 n).size = 3 := rfl
  have z3 : (m3 n).size = 3 := rfl
  generalize m1 n = A at h1 hy z1
  generalize m2 n = B at h2 hy z2
  generalize m3 n = C at h3 hy z3
  have z4 : (A ++ B).size = 6 := by rw [ByteArray.size_append, z1, z2]
  go_enter Tryd.func99, Tryd.ntmps99
  go_wp2_with fail
  refine (h1.out _).mono ?_
  rintro e w' ⟨rfl, rfl⟩
  go_wp2_with fail
  refine (h2.out _).mono ?_
  rintro e w'' ⟨rfl, rfl⟩
  go_wp2_with fail
  refine (h3.out _).mono ?_
  rintro e w''' ⟨rfl, rfl⟩
  go_wp2
  go_ret
  exact ⟨by rw [hy.out]; rfl, rfl⟩
set_option maxHeartbeats 1000000 in
/-- spec.ModeText. -/
theorem sModeText_any (n : Int) (w : World) :
    Calls Tryd.prog 32 #[.int .i64 n] w fun e w' => e = .returned (.string (modeS n)) ∧ w' = w := by
  cases e1 : inR 0 4095 n
  · have hy : Hid (modeS n = ⟨#[]⟩) := modeS_off (fun e => by rw [inR_yes e.1 e.2] at e1; cases e1)
    go_enter Tryd.func32, Tryd.ntmps32
    go_wp2_with (go_at_call 98; refine (sMode_any _ _).mono ?_; rintro e w' ⟨rfl, rfl⟩)
    go_ret
    exact ⟨by rw [hy.out]; rfl, rfl⟩
  · obtain ⟨a, rfl⟩ := Int.eq_ofNat_of_zero_le (inR_iff.mp e1).1
    have ha : Hid (a ≤ 4095) := (show a ≤ 4095 by have := (inR_iff.mp e1).2; omega)
    have hy : Hid (modeS a = modeT a) := modeS_in ha.out
    go_enter Tryd.func32, Tryd.ntmps32
    go_wp2_with (first | (go_at_call 98; refine (sMode_any _ _).mono ?_; rintro e w' ⟨rfl, rfl⟩) | (go_at_call 99; refine (l02Text_in _ ha.out _).mono ?_; rintro e w' ⟨rfl, rfl⟩))
    go_ret
    exact ⟨by rw [hy.out]; rfl, rfl⟩
end Go.Proofs.YtibofkjonepbpaaDoor
