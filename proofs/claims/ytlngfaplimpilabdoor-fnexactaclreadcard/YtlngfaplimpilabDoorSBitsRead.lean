/- spec.BitsRead: the bits whose three signs a text is, found by trying all eight. -/
import Derived.Test.YtlngfaplimpilabDoorBitsTextWalks
import Derived.Test.YtlngfaplimpilabDoorWholeV
namespace Go.Proofs.YtlngfaplimpilabDoor
open Go.RowKit Go.PlainAid
set_option linter.unusedVariables false
set_option maxHeartbeats 1000000 in
theorem sBitsRead_long (s : ByteArray) (h : 8000 < (s.size : Int)) (w : World) :
    Calls Tryd.prog 38 #[.string s] w fun e w' => e = .returned (numW 0 0 2) ∧ Below w.heap.size w w' := by
  go_enter Tryd.func38, Tryd.ntmps38
  go_wp2
  exact bodyPost_ret (v := numW 0 0 2) (by simp [results, Tryd.results38, go_sem, numW]) rfl ⟨rfl, (Below.refl _ _).alloc (Nat.le_refl _) _⟩
set_option maxHeartbeats 2000000 in
theorem sBitsRead_short (s : ByteArray) (h : ¬ 8000 < (s.size : Int)) (w : World) :
    Calls Tryd.prog 38 #[.string s] w fun e w' => e = .returned (numW (whN s (rdB s)) 0 (whC s (rdB s))) ∧ Below w.heap.size w w' := by
  go_enter Tryd.func38, Tryd.ntmps38
  go_wp2
  go_loop [3] (fun i => ∃ k : Nat, k ≤ 8 ∧ i = .int .i64 k ∧ Hid (∀ n, n < k → bitsT n ≠ s)) (fun i => 8 - (intOf i).toNat)
  case atStart => exact ⟨0, by decide, rfl, fun n hn => absurd hn (by omega)⟩
  case round =>
    obtain ⟨k, hk, rfl, hno⟩ := hrel
    by_cases h8 : k = 8
    · subst h8
      have hr : Hid (rdB s = none) := rdB_none (fun n hn => hno.out n (by omega))
      go_wp2
      refine bodyPost_ret (v := numW 0 0 3) (by simp [results, Tryd.results38, go_sem, numW]) rfl ⟨?_, (Below.refl _ _).alloc (Nat.le_refl _) _⟩
      rw [(wh_none (by omega) hr.out).1, (wh_none (by omega) hr.out).2]
    · have h7 : k < 8 := by omega
      have hS : Hid (bitsS k = bitsT k) := bitsS_in (by omega)
      by_cases he : bitsT k = s
      · have hr : Hid (rdB s = some k) := rdB_some (by omega) he
        have hc : Hid (∀ w, Calls Tryd.prog 41 #[.int .i64 k] w fun e w' => e = .returned (.string s) ∧ w' = w) := (by intro w; have := sBitsText_any k w; rw [hS.out, he] at this; exact this)
        clear he h8
        go_wp2_with (go_at_call 41; refine (hc.out _).mono ?_; rintro e w1 ⟨rfl, rfl⟩)
        refine bodyPost_ret (v := numW k 0 0) (by simp [results, Tryd.results38, go_sem, numW]) rfl ⟨?_, (Below.refl _ _).alloc (Nat.le_refl _) _⟩
        rw [(wh_some (by omega) hr.out).1, (wh_some (by omega) hr.out).2]
      · have hc : Hid (∀ w, Calls Tryd.prog 41 #[.int .i64 k] w fun e w' => e = .returned (.string (bitsT k)) ∧ w' = w) := (by intro w; have := sBitsText_any k w; rw [hS.out] at this; exact this)
        have hb : ((bitsT k).toList == s.toList) = false := str_ne he
        have hn : Hid (∀ n, n < k + 1 → bitsT n ≠ s) := (fun n hn => by
          by_cases e : n = k
          · subst e; exact he
          · exact hno.out n (by omega))
        clear he h8
        go_wp2_with (go_at_call 41; refine (hc.out _).mono ?_; rintro e w1 ⟨rfl, rfl⟩)
        go_round
        case rel => exact ⟨k + 1, by omega, by go_num, hn⟩
        case measure => simp [intOf]; omega
/-- spec.BitsRead. -/
theorem sBitsRead_any (s : ByteArray) (w : World) :
    Calls Tryd.prog 38 #[.string s] w fun e w' => e = .returned (numW (whN s (rdB s)) 0 (whC s (rdB s))) ∧ Below w.heap.size w w' := by
  by_cases h : 8000 < s.size
  · rw [(wh_long h _).1, (wh_long h _).2]
    exact sBitsRead_long s (by omega) w
  · exact sBitsRead_short s (by omega) w
end Go.Proofs.YtlngfaplimpilabDoor
