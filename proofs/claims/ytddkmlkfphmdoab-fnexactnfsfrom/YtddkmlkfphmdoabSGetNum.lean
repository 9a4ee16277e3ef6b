/- The contract of spec.GetNum: at every text and place it answers what 'scan' says. -/
import Derived.Test.YtddkmlkfphmdoabRows
import Derived.Test.YtddkmlkfphmdoabNumV
import Derived.WalkKit
import Derived.WalkSpells
import Derived.WalkLawsBesides
namespace Go.Proofs.Ytddkmlkfphmdoab
open Go.RowKit
set_option linter.unusedVariables false
set_option maxRecDepth 100000 in
set_option maxHeartbeats 2000000 in
theorem sGetNum_in (s : ByteArray) (x : Nat) (hs : s.size ≤ 8000) (hx : x ≤ 9223372036854775807) (w : World) :
    Calls Try.prog 20 #[.string s, .int .i64 x] w fun e w' => e = .returned (numV (scan s x 10 0 0)) ∧ Below w.heap.size w w' := by
  have hbt := get_byte s
  have d1 : decide (8000 < (s.size : Int)) = false := by simp; omega
  have d2 : decide ((x : Int) < 0) = false := by simp
  go_enter Try.func20, Try.ntmps20
  go_wp2
  go_loop [5, 6] (fun u i => ∃ (k : Nat) (acc : Nat), k ≤ 9 ∧ i = .int .i64 k ∧ u = .int .u64 acc ∧ Hid (Goes s x k acc)) (fun _ i => 10 - (intOf i).toNat)
  case atStart => exact ⟨0, 0, by omega, rfl, rfl, goes_start s x⟩
  case round =>
    obtain ⟨k, acc, hk, rfl, rfl, hgo⟩ := hrel
    by_cases hsh : x + k < s.size
    · have b1 := byte_le s (x + k)
      have g1 : decide (((s.size : Int) - k) ≤ x) = false := by simp; omega
      by_cases h9 : k = 9 ∧ 1 < byte s (x + k)
      · have hres : Hid (scan s x 10 0 0 = (0, 0, 3)) := goes_nine h9.1 hgo.out hsh h9.2
        have g2 : ((k : Int) == 9) = true := by rw [h9.1]; rfl
        have g3 : 1 < byte s (x + k) := h9.2
        clear h9
        go_wp2
        exact bodyPost_ret (v := numV (0, 0, 3)) (by simp [results, Try.results20, go_sem, numV]) rfl ⟨by rw [hres.out], (Below.refl _ _).alloc (Nat.le_refl _) _⟩
      · have hlt := put_add hk hgo.out.2 (b := byte s (x + k)) (by omega)
        have hle := put7_le hk hgo.out.2 (b := byte s (x + k)) (by omega)
        by_cases h128 : byte s (x + k) < 128
        · have hres : Hid _ := goes_last hk hgo.out hsh h9 h128
          by_cases h0 : byte s (x + k) = 0 ∧ 0 < k
          · have hr2 : Hid (scan s x 10 0 0 = (0, 0, 3)) := by have := hres.out; rw [if_pos h0] at this; exact this
            have g4 : ((byte s (x + k) : Int) == 0) = true := by rw [h0.1]; rfl
            have g5 : 0 < k := h0.2
            clear hres h0
            by_cases hk9 : k = 9
            · have g2 : ((k : Int) == 9) = true := by rw [hk9]; rfl
              have g3 : decide (1 < (byte s (x + k) : Int)) = false := by simp; omega
              clear hk9
              clear h9
              go_wp2
              exact bodyPost_ret (v := numV (0, 0, 3)) (by simp [results, Try.results20, go_sem, numV]) rfl ⟨by rw [hr2.out], (Below.refl _ _).alloc (Nat.le_refl _) _⟩
            · have g2 : ((k : Int) == 9) = false := by rw [beq_eq_false_iff_ne]; omega
              clear hk9
              clear h9
              go_wp2
              exact bodyPost_ret (v := numV (0, 0, 3)) (by simp [results, Try.results20, go_sem, numV]) rfl ⟨by rw [hr2.out], (Below.refl _ _).alloc (Nat.le_refl _) _⟩
          · have hr2 : Hid (scan s x 10 0 0 = (unf (put7 k acc (byte s (x + k))), (x : Int) + k + 1, 0)) := by have := hres.out; rw [if_neg h0] at this; exact this
            clear hres
            by_cases hz : byte s (x + k) = 0
            · have g4 : ((byte s (x + k) : Int) == 0) = true := by rw [hz]; rfl
              have g5 : ¬ 0 < k := by omega
              have g2 : ((k : Int) == 9) = false := by rw [beq_eq_false_iff_ne]; omega
              clear hz
              by_cases hp : put7 k acc (byte s (x + k)) % 2 = 1
              · have hu : Hid (unf (put7 k acc (byte s (x + k))) = -((put7 k acc (byte s (x + k)) : Int) / 2) - 1) := unf_odd hp
                have gp : (((put7 k acc (byte s (x + k)) : Nat) : Int) % 2 == 1) = true := by rw [beq_iff_eq]; omega
                clear hp h9 h0
                go_wp2
                exact bodyPost_ret (v := numV (-((put7 k acc (byte s (x + k)) : Int) / 2) - 1, (x : Int) + k + 1, 0)) (by simp [results, Try.results20, go_sem, numV]) rfl ⟨by rw [hr2.out, hu.out], (Below.refl _ _).alloc (Nat.le_refl _) _⟩
              · have hu : Hid (unf (put7 k acc (byte s (x + k))) = (put7 k acc (byte s (x + k)) : Int) / 2) := unf_even hp
                have gp : (((put7 k acc (byte s (x + k)) : Nat) : Int) % 2 == 1) = false := by rw [beq_eq_false_iff_ne]; omega
                clear hp h9 h0
                go_wp2
                exact bodyPost_ret (v := numV ((put7 k acc (byte s (x + k)) : Int) / 2, (x : Int) + k + 1, 0)) (by simp [results, Try.results20, go_sem, numV]) rfl ⟨by rw [hr2.out, hu.out], (Below.refl _ _).alloc (Nat.le_refl _) _⟩
            · have g4 : ((byte s (x + k) : Int) == 0) = false := by rw [beq_eq_false_iff_ne]; omega
              clear hz
              by_cases hk9 : k = 9
              · have g2 : ((k : Int) == 9) = true := by rw [hk9]; rfl
                have g3 : decide (1 < (byte s (x + k) : Int)) = false := by simp; omega
                clear hk9
                by_cases hp : put7 k acc (byte s (x + k)) % 2 = 1
                · have hu : Hid (unf (put7 k acc (byte s (x + k))) = -((put7 k acc (byte s (x + k)) : Int) / 2) - 1) := unf_odd hp
                  have gp : (((put7 k acc (byte s (x + k)) : Nat) : Int) % 2 == 1) = true := by rw [beq_iff_eq]; omega
                  clear hp h9 h0
                  go_wp2
                  exact bodyPost_ret (v := numV (-((put7 k acc (byte s (x + k)) : Int) / 2) - 1, (x : Int) + k + 1, 0)) (by simp [results, Try.results20, go_sem, numV]) rfl ⟨by rw [hr2.out, hu.out], (Below.refl _ _).alloc (Nat.le_refl _) _⟩
                · have hu : Hid (unf (put7 k acc (byte s (x + k))) = (put7 k acc (byte s (x + k)) : Int) / 2) := unf_even hp
                  have gp : (((put7 k acc (byte s (x + k)) : Nat) : Int) % 2 == 1) = false := by rw [beq_eq_false_iff_ne]; omega
                  clear hp h9 h0
                  go_wp2
                  exact bodyPost_ret (v := numV ((put7 k acc (byte s (x + k)) : Int) / 2, (x : Int) + k + 1, 0)) (by simp [results, Try.results20, go_sem, numV]) rfl ⟨by rw [hr2.out, hu.out], (Below.refl _ _).alloc (Nat.le_refl _) _⟩
              · have g2 : ((k : Int) == 9) = false := by rw [beq_eq_false_iff_ne]; omega
                clear hk9
                by_cases hp : put7 k acc (byte s (x + k)) % 2 = 1
                · have hu : Hid (unf (put7 k acc (byte s (x + k))) = -((put7 k acc (byte s (x + k)) : Int) / 2) - 1) := unf_odd hp
                  have gp : (((put7 k acc (byte s (x + k)) : Nat) : Int) % 2 == 1) = true := by rw [beq_iff_eq]; omega
                  clear hp h9 h0
                  go_wp2
                  exact bodyPost_ret (v := numV (-((put7 k acc (byte s (x + k)) : Int) / 2) - 1, (x : Int) + k + 1, 0)) (by simp [results, Try.results20, go_sem, numV]) rfl ⟨by rw [hr2.out, hu.out], (Below.refl _ _).alloc (Nat.le_refl _) _⟩
                · have hu : Hid (unf (put7 k acc (byte s (x + k))) = (put7 k acc (byte s (x + k)) : Int) / 2) := unf_even hp
                  have gp : (((put7 k acc (byte s (x + k)) : Nat) : Int) % 2 == 1) = false := by rw [beq_eq_false_iff_ne]; omega
                  clear hp h9 h0
                  go_wp2
                  exact bodyPost_ret (v := numV ((put7 k acc (byte s (x + k)) : Int) / 2, (x : Int) + k + 1, 0)) (by simp [results, Try.results20, go_sem, numV]) rfl ⟨by rw [hr2.out, hu.out], (Below.refl _ _).alloc (Nat.le_refl _) _⟩
        · have hmo : Hid (k + 1 ≤ 9 ∧ Goes s x (k + 1) (put7 k acc (byte s (x + k)))) := goes_more hk hgo.out hsh h9 (by omega)
          have g7 : 128 ≤ byte s (x + k) := by omega
          have g2 : ((k : Int) == 9) = false := by rw [beq_eq_false_iff_ne]; omega
          clear h9 h128
          go_wp2
          go_round
          case rel => exact ⟨k + 1, put7 k acc (byte s (x + k)), hmo.out.1, by go_num, rfl, hmo.out.2⟩
          case measure => simp [intOf]; omega
    · have hres : Hid (scan s x 10 0 0 = (0, 0, 4)) := goes_short hk hgo.out (by omega)
      have g1 : decide (((s.size : Int) - k) ≤ x) = true := by simp; omega
      go_wp2
      exact bodyPost_ret (v := numV (0, 0, 4)) (by simp [results, Try.results20, go_sem, numV]) rfl ⟨by rw [hres.out], (Below.refl _ _).alloc (Nat.le_refl _) _⟩
/-- A place below 0; a text that is too long. -/
theorem sGetNum_neg (s : ByteArray) (x : Int) (hs : s.size ≤ 8000) (hx : x < 0) (w : World) :
    Calls Try.prog 20 #[.string s, .int .i64 x] w fun e w' => e = .returned (numV (0, 0, 1)) ∧ Below w.heap.size w w' := by
  go_enter Try.func20, Try.ntmps20
  go_wp2
  exact bodyPost_ret (v := numV (0, 0, 1)) (by simp [results, Try.results20, go_sem, numV]) rfl ⟨rfl, (Below.refl _ _).alloc (Nat.le_refl _) _⟩
theorem sGetNum_long (s : ByteArray) (x : Int) (h : 8000 < (s.size : Int)) (hs : s.size ≤ maxLen) (w : World) :
    Calls Try.prog 20 #[.string s, .int .i64 x] w fun e w' => e = .returned (numV (0, 0, 2)) ∧ Below w.heap.size w w' := by
  unfold maxLen at hs
  go_enter Try.func20, Try.ntmps20
  go_wp2
  exact bodyPost_ret (v := numV (0, 0, 2)) (by simp [results, Try.results20, go_sem, numV]) rfl ⟨rfl, (Below.refl _ _).alloc (Nat.le_refl _) _⟩
/-- Whatever the text and the place. -/
theorem sGetNum_any (s : ByteArray) (x : Int) (hs : s.size ≤ maxLen) (hx : x ≤ 9223372036854775807) (w : World) :
    Calls Try.prog 20 #[.string s, .int .i64 x] w fun e w' => e = .returned (numV (getN s x)) ∧ Below w.heap.size w w' := by
  by_cases h1 : 8000 < s.size
  · rw [getN, if_pos h1]; exact sGetNum_long s x (by omega) hs w
  · by_cases h2 : x < 0
    · rw [getN, if_neg h1, if_pos h2]; exact sGetNum_neg s x (by omega) h2 w
    · rw [getN, if_neg h1, if_neg h2]
      obtain ⟨n, rfl⟩ := Int.eq_ofNat_of_zero_le (by omega : 0 ≤ x)
      exact sGetNum_in s n (by omega) (by omega) w
end Go.Proofs.Ytddkmlkfphmdoab
