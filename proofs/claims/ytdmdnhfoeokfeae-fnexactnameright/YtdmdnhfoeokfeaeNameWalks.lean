/- The contracts of spec.NameRight, impl.NameRight and what it calls: each answers just whether the text is a name. -/
import Derived.Test.YtdmdnhfoeokfeaeRows
import Derived.Test.YtdmdnhfoeokfeaeNameMath
import Derived.WalkKit
import Derived.WalkSpells
import Derived.WalkLawsBesides
namespace Go.Proofs.Ytdmdnhfoeokfeae
open Go.RowKit Go.PlainAid
set_option linter.unusedVariables false
theorem ret_bool {a b : Bool} (h : a = b) : Ending.returned (.bool a) = .returned (.bool b) := by rw [h]
set_option maxHeartbeats 1000000 in
/-- spec.NameRight, of a text of 1 to 20 bytes. -/
theorem sName_in (s : ByteArray) (h1 : 1 ≤ s.size) (hs : s.size ≤ 20) (w : World) :
    Calls Try.prog 10 #[.string s] w fun e w' => e = .returned (.bool (nameB s)) ∧ w' = w := by
  have hbt := get_bt s
  have d1 : decide ((s.size : Int) < 1) = false := by simp; omega
  have d2 : decide (20 < (s.size : Int)) = false := by simp; omega
  go_enter Try.func10, Try.ntmps10
  go_wp2
  go_loop [3] (fun i => ∃ k : Nat, k ≤ s.size ∧ i = .int .i64 k ∧ Hid (okTo s k = true)) (fun i => s.size - (intOf i).toNat)
  case atStart => exact ⟨0, Nat.zero_le _, rfl, rfl⟩
  case round =>
    obtain ⟨k, hk, rfl, hto⟩ := hrel
    by_cases hlt : k < s.size
    · by_cases hsm : 97 ≤ bt s k ∧ bt s k ≤ 122
      · have hok : Hid (okAt s k = true) := ok_small (sm_yes hsm.1 hsm.2)
        obtain ⟨c1, c2⟩ := hsm
        go_wp2
        go_round
        case rel => exact ⟨k + 1, by omega, by go_num, okTo_next hto.out hok.out⟩
        case measure => simp [intOf]; omega
      · have hns : Hid (sm (bt s k) = false) := sm_no (by omega)
        by_cases h0 : k = 0
        · have hno : Hid (nameB s = false) := name_no hlt (no_first h0 hns.out)
          have hz : ((k : Int) == 0) = true := by rw [h0]; rfl
          clear h0
          by_cases c1 : bt s k < 97
          · clear hsm
            go_wp2
            go_ret
            exact ⟨ret_bool hno.out.symm, rfl⟩
          · have c2 : 122 < bt s k := by omega
            have c3 : 97 ≤ bt s k := by omega
            have e2 : decide (bt s k ≤ 122) = false := by simp; omega
            clear hsm c1
            go_wp2
            go_ret
            exact ⟨ret_bool hno.out.symm, rfl⟩
        · have hz : ((k : Int) == 0) = false := by rw [beq_eq_false_iff_ne]; omega
          by_cases hdg : 48 ≤ bt s k ∧ bt s k ≤ 57
          · have hok : Hid (okAt s k = true) := ok_other (by omega) (.inl (dg_yes hdg.1 hdg.2))
            obtain ⟨c1, c2⟩ := hdg
            have c3 : bt s k < 97 := by omega
            clear hsm h0
            go_wp2
            go_round
            case rel => exact ⟨k + 1, by omega, by go_num, okTo_next hto.out hok.out⟩
            case measure => simp [intOf]; omega
          · have hnd : Hid (dg (bt s k) = false) := dg_no (by omega)
            by_cases hus : bt s k = 95
            · have hok : Hid (okAt s k = true) := ok_other (by omega) (.inr hus)
              have c1 : (bt s k != 95) = false := by rw [hus]; rfl
              have c2 : 57 < bt s k := by omega
              have e1 : decide (bt s k ≤ 57) = false := by simp; omega
              have c3 : bt s k < 97 := by omega
              have c4 : 48 ≤ bt s k := by omega
              clear hsm h0 hus hdg
              go_wp2
              go_round
              case rel => exact ⟨k + 1, by omega, by go_num, okTo_next hto.out hok.out⟩
              case measure => simp [intOf]; omega
            · have hno : Hid (nameB s = false) := name_no hlt (no_other hns.out hnd.out hus)
              have c0 : (bt s k != 95) = true := by rw [bne_iff_ne]; exact hus
              by_cases c1 : bt s k < 48
              · have c3 : bt s k < 97 := by omega
                clear hsm h0 hus hdg
                go_wp2
                go_ret
                exact ⟨ret_bool hno.out.symm, rfl⟩
              · have c4 : 48 ≤ bt s k := by omega
                have c2 : 57 < bt s k := by omega
                have e1 : decide (bt s k ≤ 57) = false := by simp; omega
                by_cases c5 : bt s k < 97
                · clear hsm h0 hus hdg c1
                  go_wp2
                  go_ret
                  exact ⟨ret_bool hno.out.symm, rfl⟩
                · have c6 : 97 ≤ bt s k := by omega
                  have c7 : 122 < bt s k := by omega
                  have e2 : decide (bt s k ≤ 122) = false := by simp; omega
                  clear hsm h0 hus hdg c1 c5
                  go_wp2
                  go_ret
                  exact ⟨ret_bool hno.out.symm, rfl⟩
    · have : k = s.size := by omega
      subst this
      have hyes : Hid (nameB s = true) := name_yes h1 hs hto.out
      go_wp2
      go_ret
      exact ⟨ret_bool hyes.out.symm, rfl⟩
theorem sName_short (s : ByteArray) (h : (s.size : Int) < 1) (w : World) :
    Calls Try.prog 10 #[.string s] w fun e w' => e = .returned (.bool (nameB s)) ∧ w' = w := by
  have hno : Hid (nameB s = false) := name_short (by omega)
  go_enter Try.func10, Try.ntmps10
  go_wp2
  go_ret
  exact ⟨ret_bool hno.out.symm, rfl⟩
theorem sName_long (s : ByteArray) (h : 20 < (s.size : Int)) (hs : s.size ≤ maxLen) (w : World) :
    Calls Try.prog 10 #[.string s] w fun e w' => e = .returned (.bool (nameB s)) ∧ w' = w := by
  unfold maxLen at hs
  have hno : Hid (nameB s = false) := name_long (by omega)
  have d1 : decide ((s.size : Int) < 1) = false := by simp; omega
  go_enter Try.func10, Try.ntmps10
  go_wp2
  go_ret
  exact ⟨ret_bool hno.out.symm, rfl⟩
/-- impl.isSmall, impl.isDigit. -/
theorem isSmall_any (b : Int) (w : World) :
    Calls Try.prog 14 #[.int .u8 b] w fun e w' => e = .returned (.bool (sm b)) ∧ w' = w := by
  go_enter Try.func14, Try.ntmps14
  go_wp2
  · go_ret
    exact ⟨ret_bool (by simp [sm, *]), rfl⟩
  · go_ret
    exact ⟨ret_bool (by have h : ¬ 97 ≤ b := by omega
                        simp [sm, h]), rfl⟩
theorem isDigit_any (b : Int) (w : World) :
    Calls Try.prog 15 #[.int .u8 b] w fun e w' => e = .returned (.bool (dg b)) ∧ w' = w := by
  go_enter Try.func15, Try.ntmps15
  go_wp2
  · go_ret
    exact ⟨ret_bool (by simp [dg, *]), rfl⟩
  · go_ret
    exact ⟨ret_bool (by have h : ¬ 48 ≤ b := by omega
                        simp [dg, h]), rfl⟩
set_option maxHeartbeats 1000000 in
/-- impl.NameRight, of a text of 1 to 20 bytes. -/
theorem iName_in (s : ByteArray) (h1 : 1 ≤ s.size) (hs : s.size ≤ 20) (w : World) :
    Calls Try.prog 11 #[.string s] w fun e w' => e = .returned (.bool (nameB s)) ∧ w' = w := by
  have hbt := get_bt s
  have d1 : decide ((s.size : Int) < 1) = false := by simp; omega
  have d2 : decide (20 < (s.size : Int)) = false := by simp; omega
  by_cases hf : sm (bt s 0) = true
  · go_enter Try.func11, Try.ntmps11
    go_wp2_with (go_at_call 14; refine (isSmall_any _ _).mono ?_; rintro e w' ⟨rfl, rfl⟩)
    go_loop [20] (fun i => ∃ k : Nat, k ≤ s.size ∧ i = .int .i64 k ∧ Hid (okTo s k = true)) (fun i => s.size - (intOf i).toNat)
    case atStart => exact ⟨0, Nat.zero_le _, rfl, rfl⟩
    case round =>
      obtain ⟨k, hk, rfl, hto⟩ := hrel
      by_cases hlt : k < s.size
      · cases hs1 : sm (bt s k)
        · have h0 : 0 < k := by
            apply Nat.pos_of_ne_zero
            intro e
            rw [e, hf] at hs1
            cases hs1
          cases hd1 : dg (bt s k)
          · by_cases hus : bt s k = 95
            · have hok : Hid (okAt s k = true) := ok_other h0 (.inr hus)
              have c1 : (bt s k != 95) = false := by rw [hus]; rfl
              clear hus
              go_wp2_with (first | (go_at_call 14; refine (isSmall_any _ _).mono ?_; rintro e w' ⟨rfl, rfl⟩) | (go_at_call 15; refine (isDigit_any _ _).mono ?_; rintro e w' ⟨rfl, rfl⟩))
              go_round
              case rel => exact ⟨k + 1, by omega, by go_num, okTo_next hto.out hok.out⟩
              case measure => simp [intOf]; omega
            · have hno : Hid (nameB s = false) := name_no hlt (no_other hs1 hd1 hus)
              have c1 : (bt s k != 95) = true := by rw [bne_iff_ne]; exact hus
              clear hus
              go_wp2_with (first | (go_at_call 14; refine (isSmall_any _ _).mono ?_; rintro e w' ⟨rfl, rfl⟩) | (go_at_call 15; refine (isDigit_any _ _).mono ?_; rintro e w' ⟨rfl, rfl⟩))
              go_ret
              exact ⟨ret_bool hno.out.symm, rfl⟩
          · have hok : Hid (okAt s k = true) := ok_other h0 (.inl hd1)
            go_wp2_with (first | (go_at_call 14; refine (isSmall_any _ _).mono ?_; rintro e w' ⟨rfl, rfl⟩) | (go_at_call 15; refine (isDigit_any _ _).mono ?_; rintro e w' ⟨rfl, rfl⟩))
            go_round
            case rel => exact ⟨k + 1, by omega, by go_num, okTo_next hto.out hok.out⟩
            case measure => simp [intOf]; omega
        · have hok : Hid (okAt s k = true) := ok_small hs1
          go_wp2_with (first | (go_at_call 14; refine (isSmall_any _ _).mono ?_; rintro e w' ⟨rfl, rfl⟩))
          go_round
          case rel => exact ⟨k + 1, by omega, by go_num, okTo_next hto.out hok.out⟩
          case measure => simp [intOf]; omega
      · have : k = s.size := by omega
        subst this
        have hyes : Hid (nameB s = true) := name_yes h1 hs hto.out
        go_wp2
        go_ret
        exact ⟨ret_bool hyes.out.symm, rfl⟩
  · have hf2 : sm (bt s 0) = false := by simpa using hf
    have hno : Hid (nameB s = false) := name_no (k := 0) (by omega) (no_first rfl hf2)
    clear hf
    go_enter Try.func11, Try.ntmps11
    go_wp2_with (go_at_call 14; refine (isSmall_any _ _).mono ?_; rintro e w' ⟨rfl, rfl⟩)
    go_ret
    exact ⟨ret_bool hno.out.symm, rfl⟩
theorem iName_short (s : ByteArray) (h : (s.size : Int) < 1) (w : World) :
    Calls Try.prog 11 #[.string s] w fun e w' => e = .returned (.bool (nameB s)) ∧ w' = w := by
  have hno : Hid (nameB s = false) := name_short (by omega)
  go_enter Try.func11, Try.ntmps11
  go_wp2
  go_ret
  exact ⟨ret_bool hno.out.symm, rfl⟩
theorem iName_long (s : ByteArray) (h : 20 < (s.size : Int)) (hs : s.size ≤ maxLen) (w : World) :
    Calls Try.prog 11 #[.string s] w fun e w' => e = .returned (.bool (nameB s)) ∧ w' = w := by
  unfold maxLen at hs
  have hno : Hid (nameB s = false) := name_long (by omega)
  have d1 : decide ((s.size : Int) < 1) = false := by simp; omega
  go_enter Try.func11, Try.ntmps11
  go_wp2
  go_ret
  exact ⟨ret_bool hno.out.symm, rfl⟩
/-- Whatever the text. -/
theorem sName_any (s : ByteArray) (hs : s.size ≤ maxLen) (w : World) :
    Calls Try.prog 10 #[.string s] w fun e w' => e = .returned (.bool (nameB s)) ∧ w' = w := by
  by_cases h1 : (s.size : Int) < 1
  · exact sName_short s h1 w
  · by_cases h2 : 20 < (s.size : Int)
    · exact sName_long s h2 hs w
    · exact sName_in s (by omega) (by omega) w
theorem iName_any (s : ByteArray) (hs : s.size ≤ maxLen) (w : World) :
    Calls Try.prog 11 #[.string s] w fun e w' => e = .returned (.bool (nameB s)) ∧ w' = w := by
  by_cases h1 : (s.size : Int) < 1
  · exact iName_short s h1 w
  · by_cases h2 : 20 < (s.size : Int)
    · exact iName_long s h2 hs w
    · exact iName_in s (by omega) (by omega) w
end Go.Proofs.Ytdmdnhfoeokfeae
