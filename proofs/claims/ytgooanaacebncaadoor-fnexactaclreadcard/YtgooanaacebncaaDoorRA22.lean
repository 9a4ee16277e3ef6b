/- Laid together: WholeV, SBitsRead. -/
import Derived.Test.YtgooanaacebncaaDoorRA21
/- What BitsRead, ModeRead and OctRead answer: the number that is read, or the code of what is wrong. -/
namespace Go.Proofs.YtgooanaacebncaaDoor
open Go.RowKit
set_option linter.unusedVariables false
/-- An answer of type NumOut. -/
def numW (n a c : Int) : Value := .agg #[.int .i64 n, .int .i64 a, .int .i64 c]
/-- The number and the code. -/
def whN (s : ByteArray) (o : Option Nat) : Int := if 8000 < s.size then 0 else (o.getD 0 : Nat)
def whC (s : ByteArray) (o : Option Nat) : Int := if 8000 < s.size then 2 else if o.isSome then 0 else 3
theorem wh_long {s : ByteArray} (h : 8000 < s.size) (o : Option Nat) : whN s o = 0 ∧ whC s o = 2 := by simp [whN, whC, h]
theorem wh_none {s : ByteArray} (h : ¬ 8000 < s.size) {o : Option Nat} (e : o = none) : whN s o = 0 ∧ whC s o = 3 := by simp [whN, whC, h, e]
theorem wh_some {s : ByteArray} (h : ¬ 8000 < s.size) {o : Option Nat} {n : Nat} (e : o = some n) : whN s o = n ∧ whC s o = 0 := by simp [whN, whC, h, e]
end Go.Proofs.YtgooanaacebncaaDoor
/- spec.BitsRead: the bits whose three signs a text is, found by trying all eight. -/
namespace Go.Proofs.YtgooanaacebncaaDoor
open Go.RowKit Go.PlainAid
set_option linter.unusedVariables false
set_option maxHeartbeats 1000000 in
theorem sBitsRead_long (s : ByteArray) (h : 8000 < (s.size : Int)) (w : World) :
    Calls Tryd.prog 88 #[.string s] w fun e w' => e = .returned (numW 0 0 2) ∧ Below w.heap.size w w' := by
  go_enter Tryd.func88, Tryd.ntmps88
  go_wp2
  exact bodyPost_ret (v := numW 0 0 2) (by simp [results, Tryd.results88, go_sem, numW]) rfl ⟨rfl, (Below.refl _ _).alloc (Nat.le_refl _) _⟩
set_option maxHeartbeats 2000000 in
theorem sBitsRead_short (s : ByteArray) (h : ¬ 8000 < (s.size : Int)) (w : World) :
    Calls Tryd.prog 88 #[.string s] w fun e w' => e = .returned (numW (whN s (rdB s)) 0 (whC s (rdB s))) ∧ Below w.heap.size w w' := by
  go_enter Tryd.func88, Tryd.ntmps88
  go_wp2
  go_loop [3] (fun i => ∃ k : Nat, k ≤ 8 ∧ i = .int .i64 k ∧ Hid (∀ n, n < k → bitsT n ≠ s)) (fun i => 8 - (intOf i).toNat)
  case atStart => exact ⟨0, by decide, rfl, fun n hn => absurd hn (by omega)⟩
  case round =>
    obtain ⟨k, hk, rfl, hno⟩ := hrel
    by_cases h8 : k = 8
    · subst h8
      have hr : Hid (rdB s = none) := rdB_none (fun n hn => hno.out n (by omega))
      go_wp2
      refine bodyPost_ret (v := numW 0 0 3) (by simp [results, Tryd.results88, go_sem, numW]) rfl ⟨?_, (Below.refl _ _).alloc (Nat.le_refl _) _⟩
      rw [(wh_none (by omega) hr.out).1, (wh_none (by omega) hr.out).2]
    · have h7 : k < 8 := by omega
      have hS : Hid (bitsS k = bitsT k) := bitsS_in (by omega)
      by_cases he : bitsT k = s
      · have hr : Hid (rdB s = some k) := rdB_some (by omega) he
        have hc : Hid (∀ w, Calls Tryd.prog 90 #[.int .i64 k] w fun e w' => e = .returned (.string s) ∧ w' = w) := (by intro w; have := sBitsText_any k w; rw [hS.out, he] at this; exact this)
        clear he h8
        go_wp2_with (go_at_call 90; refine (hc.out _).mono ?_; rintro e w1 ⟨rfl, rfl⟩)
        refine bodyPost_ret (v := numW k 0 0) (by simp [results, Tryd.results88, go_sem, numW]) rfl ⟨?_, (Below.refl _ _).alloc (Nat.le_refl _) _⟩
        rw [(wh_some (by omega) hr.out).1, (wh_some (by omega) hr.out).2]
      · have hc : Hid (∀ w, Calls Tryd.prog 90 #[.int .i64 k] w fun e w' => e = .returned (.string (bitsT k)) ∧ w' = w) := (by intro w; have := sBitsText_any k w; rw [hS.out] at this; exact this)
        have hb : ((bitsT k).toList == s.toList) = false := str_ne he
        have hn : Hid (∀ n, n < k + 1 → bitsT n ≠ s) := (fun n hn => by
          by_cases e : n = k
          · subst e; exact he
          · exact hno.out n (by omega))
        clear he h8
        go_wp2_with (go_at_call 90; refine (hc.out _).mono ?_; rintro e w1 ⟨rfl, rfl⟩)
        go_round
        case rel => exact ⟨k + 1, by omega, by go_num, hn⟩
        case measure => simp [intOf]; omega
/-- spec.BitsRead. -/
theorem sBitsRead_any (s : ByteArray) (w : World) :
    Calls Tryd.prog 88 #[.string s] w fun e w' => e = .returned (numW (whN s (rdB s)) 0 (whC s (rdB s))) ∧ Below w.heap.size w w' := by
  by_cases h : 8000 < s.size
  · rw [(wh_long h _).1, (wh_long h _).2]
    exact sBitsRead_long s (by omega) w
  · exact sBitsRead_short s (by omega) w
end Go.Proofs.YtgooanaacebncaaDoor
