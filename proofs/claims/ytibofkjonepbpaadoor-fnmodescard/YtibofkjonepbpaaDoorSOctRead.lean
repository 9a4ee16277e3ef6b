/- spec.OctRead: the mode whose four digits a text is. -/
import Derived.Test.YtibofkjonepbpaaDoorOctTextWalks
import Derived.Test.YtibofkjonepbpaaDoorRdOMath
import Derived.Test.YtibofkjonepbpaaDoorWholeV
namespace Go.Proofs.YtibofkjonepbpaaDoor
open Go.RowKit Go.PlainAid
set_option linter.unusedVariables false
set_option linter.unusedSimpArgs false
set_option maxHeartbeats 1000000 in
theorem sOctRead_long (s : ByteArray) (h : 8000 < (s.size : Int)) (w : World) :
    Calls Tryd.prog 36 #[.string s] w fun e w' => e = .returned (numW 0 0 2) ∧ Below w.heap.size w w' := by
  go_enter Tryd.func36, Tryd.ntmps36
  go_wp2
  exact bodyPost_ret (v := numW 0 0 2) (by simp [results, Tryd.results36, go_sem, numW]) rfl ⟨rfl, (Below.refl _ _).alloc (Nat.le_refl _) _⟩
theorem empty_of {s : ByteArray} (h : s.size = 0) : s = ⟨#[]⟩ := by
  obtain ⟨⟨l⟩⟩ := s
  have hl : l.length = 0 := h
  rw [List.length_eq_zero_iff] at hl
  subst hl
  rfl
set_option maxHeartbeats 1000000 in
theorem sOctRead_empty (w : World) :
    Calls Tryd.prog 36 #[.string ⟨#[]⟩] w fun e w' => e = .returned (numW 0 0 3) ∧ Below w.heap.size w w' := by
  go_enter Tryd.func36, Tryd.ntmps36
  go_wp2
  go_rounds 1
  exact bodyPost_ret (v := numW 0 0 3) (by simp [results, Tryd.results36, go_sem, numW]) rfl ⟨rfl, (Below.refl _ _).alloc (Nat.le_refl _) _⟩
set_option maxHeartbeats 4000000 in
theorem sOctRead_short (s : ByteArray) (h : ¬ 8000 < (s.size : Int)) (h0 : ¬ s.size = 0) (w : World) :
    Calls Tryd.prog 36 #[.string s] w fun e w' => e = .returned (numW (whN s (rdO s)) 0 (whC s (rdO s))) ∧ Below w.heap.size w w' := by
  have hbt := get_bt s
  have hemp : (s.toList == []) = false := by
    have := str_ne (a := s) (b := ⟨#[]⟩) (fun e => h0 (by rw [e]; rfl))
    simpa using this
  go_enter Tryd.func36, Tryd.ntmps36
  go_wp2
  go_loop [3, 4] (fun x i => ∃ k : Nat, k ≤ 5 ∧ k ≤ s.size ∧ i = .int .i64 k ∧ x = .int .i64 (oV s k)) (fun _ i => 5 - (intOf i).toNat)
  case atStart => exact ⟨0, by decide, by omega, rfl, rfl⟩
  case round =>
    obtain ⟨k, hk, hks, rfl, rfl⟩ := hrel
    have bd := oV_bd s hk
    by_cases hend : k < s.size ∧ k < 5
    · obtain ⟨hl, h5⟩ := hend
      have bb := bt_bd s k
      have hv : Hid (oV s (k + 1) = 8 * oV s k + bt s k - 48) := rfl
      generalize oV s k = n at bd hv ⊢
      go_wp2
      go_round
      case rel => exact ⟨k + 1, by omega, by omega, by go_num, by rw [hv.out]⟩
      case measure => simp [intOf]; omega
    · have hk2 : s.size = k ∨ k = 5 ∧ 5 < s.size := by omega
      cases hr : rdO s with
      | none =>
        have hne : ((octS (oV s k)).toList == s.toList) = false := str_ne (oct_ne h0 hr)
        have hne2 : ((octS (oV s k)).toList != s.toList) = true := by simpa using hne
        have hN : Hid (whN s (rdO s) = 0 ∧ whC s (rdO s) = 3) := wh_none (by omega) hr
        have hc : Hid (∀ w, Calls Tryd.prog 33 #[.int .i64 (oV s k)] w fun e w' => e = .returned (.string (octS (oV s k))) ∧ Below w.heap.size w w') := sOctText_any (oV s k)
        generalize octS (oV s k) = o at hne hne2 hc
        generalize oV s k = n at bd hc ⊢
        clear hr
        rcases hk2 with hk2 | ⟨hk2, hk3⟩
        all_goals (
          go_wp2_with (go_at_call 33; refine (hc.out _).mono ?_; rintro e w1 ⟨rfl, hb⟩; obtain ⟨hcl, hfz⟩ := bl_cellW hb; have hz := bl_sizeW hb; simp at hcl hfz)
          refine bodyPost_ret (v := numW 0 0 3) (by simp [results, Tryd.results36, go_sem, numW, hcl, hz]) rfl ⟨?_, bl_set3W (bl_overW hb)⟩
          rw [hN.out.1, hN.out.2])
      | some m =>
        obtain ⟨hn, ho⟩ := oct_eq hk2 hr
        have hc : Hid (∀ w, Calls Tryd.prog 33 #[.int .i64 m] w fun e w' => e = .returned (.string s) ∧ Below w.heap.size w w') := (by intro w; have := sOctText_any (oV s k) w; rw [ho, hn] at this; exact this)
        have hN : Hid (whN s (rdO s) = m ∧ whC s (rdO s) = 0) := wh_some (by omega) hr
        rw [hn] at bd
        simp only [hn]
        clear hr hn ho
        rcases hk2 with hk2 | ⟨hk2, hk3⟩
        all_goals (
          go_wp2_with (go_at_call 33; refine (hc.out _).mono ?_; rintro e w1 ⟨rfl, hb⟩; obtain ⟨hcl, hfz⟩ := bl_cellW hb; have hz := bl_sizeW hb; simp at hcl hfz)
          refine bodyPost_ret (v := numW m 0 0) (by simp [results, Tryd.results36, go_sem, numW, hcl, hz]) rfl ⟨?_, bl_set3W (bl_overW hb)⟩
          rw [hN.out.1, hN.out.2])
/-- spec.OctRead. -/
theorem sOctRead_any (s : ByteArray) (w : World) :
    Calls Tryd.prog 36 #[.string s] w fun e w' => e = .returned (numW (whN s (rdO s)) 0 (whC s (rdO s))) ∧ Below w.heap.size w w' := by
  by_cases h : 8000 < s.size
  · rw [(wh_long h _).1, (wh_long h _).2]
    exact sOctRead_long s (by omega) w
  · by_cases h0 : s.size = 0
    · have e := empty_of h0
      subst e
      exact sOctRead_empty w
    · exact sOctRead_short s (by omega) h0 w
end Go.Proofs.YtibofkjonepbpaaDoor
