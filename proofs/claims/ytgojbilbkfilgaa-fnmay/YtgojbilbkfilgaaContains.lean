/- slices.Index and slices.Contains of numbers. -/
import Derived.Test.YtgojbilbkfilgaaCredMath
import Derived.Deep.QuietTactic
import Derived.BigQuiet
import Derived.Handy
namespace Go.Proofs.Ytgojbilbkfilgaa
open Go.RowKit Go.PlainAid
set_option linter.unusedVariables false
theorem anyG_hit {f : Nat → Int} {gid : Int} {k n : Nat} (h : k < n) (hk : f k = gid) : anyG f gid n = true := by
  induction n with
  | zero => omega
  | succ n ih =>
    by_cases e : k = n
    · subst e; simp [anyG, hk]
    · simp [anyG, ih (by omega)]
theorem anyG_next {f : Nat → Int} {gid : Int} {k : Nat} (h : anyG f gid k = false) (hk : f k ≠ gid) : anyG f gid (k + 1) = false := by simp [anyG, h, hk]
theorem index_none (a : Option Addr) (cap : Nat) (gid : Int) (w : World) :
    Calls Try.prog 143 #[.slice a 0 cap, .int .i64 gid] w fun e w' => e = .returned (.int .i64 (-1)) ∧ w' = w := by
  go_enter Try.func143, Try.ntmps143
  go_wp2
  go_rounds 1
  go_ret
  exact ⟨rfl, rfl⟩
set_option maxHeartbeats 1000000 in
theorem index_some (b off len cap : Nat) (f : Nat → Int) (gid : Int) (hl : len ≤ 1048576) (w : World) (hc : Hid (∀ i, i < len → w.cell? ⟨b, off + i, none⟩ = some (.int .i64 (f i)))) :
    Calls Try.prog 143 #[.slice (some ⟨b, off, none⟩) len cap, .int .i64 gid] w fun e w' => (∃ z : Int, e = .returned (.int .i64 z) ∧ decide (0 ≤ z) = anyG f gid len) ∧ w' = w := by
  go_enter Try.func143, Try.ntmps143
  go_wp2
  go_loop [8] (fun i => ∃ k : Nat, k ≤ len ∧ i = .int .i64 k ∧ Hid (anyG f gid k = false)) (fun i => len - (intOf i).toNat)
  case atStart => exact ⟨0, Nat.zero_le _, rfl, rfl⟩
  case round =>
    obtain ⟨k, hk, rfl, hto⟩ := hrel
    by_cases hlt : k < len
    · have g0 := hc.out k hlt
      by_cases he : f k = gid
      · have hy : Hid (anyG f gid len = true) := anyG_hit hlt he
        have q : (gid == f k) = true := by rw [he]; simp
        clear he
        go_wp2
        go_ret
        exact ⟨⟨k, rfl, by rw [hy.out]; simp⟩, rfl⟩
      · have hy : Hid (anyG f gid (k + 1) = false) := anyG_next hto.out he
        have q : (gid == f k) = false := by rw [beq_eq_false_iff_ne]; exact fun e => he e.symm
        clear he
        go_wp2
        go_round
        case rel => exact ⟨k + 1, by omega, by go_num, hy⟩
        case measure => simp [intOf]; omega
    · have : k = len := by omega
      subst this
      go_wp2
      go_ret
      exact ⟨⟨-1, rfl, by rw [hto.out]; decide⟩, rfl⟩
theorem index_any (a : Option Addr) (len cap : Nat) (f : Nat → Int) (gid : Int) (hl : len ≤ 1048576) (w : World) (hi : Ints a len f w) :
    Calls Try.prog 143 #[.slice a len cap, .int .i64 gid] w fun e w' => (∃ z : Int, e = .returned (.int .i64 z) ∧ decide (0 ≤ z) = anyG f gid len) ∧ w' = w := by
  by_cases h0 : len = 0
  · subst h0
    refine (index_none a cap gid w).mono ?_
    rintro e w' ⟨rfl, rfl⟩
    exact ⟨⟨-1, rfl, by simp [anyG]⟩, rfl⟩
  · obtain ⟨b, off, rfl, hlt, hc⟩ := hi (by omega)
    exact index_some b off len cap f gid hl w hc
/-- slices.Contains. -/
theorem contains_any (a : Option Addr) (len cap : Nat) (f : Nat → Int) (gid : Int) (hl : len ≤ 1048576) (w : World) (hi : Ints a len f w) :
    Calls Try.prog 136 #[.slice a len cap, .int .i64 gid] w fun e w' => e = .returned (.bool (anyG f gid len)) ∧ w' = w := by
  have hc : Hid (∀ w', w' = w → Calls Try.prog 143 #[.slice a len cap, .int .i64 gid] w' fun e w'' => (∃ z : Int, e = .returned (.int .i64 z) ∧ decide (0 ≤ z) = anyG f gid len) ∧ w'' = w') := (fun w' e => by subst e; exact index_any a len cap f gid hl w' hi)
  clear hi
  go_enter Try.func136, Try.ntmps136
  go_wp2_with (go_at_call 143; refine (hc.out _ rfl).mono ?_; rintro e w' ⟨⟨z, rfl, hz⟩, rfl⟩)
  go_ret
  exact ⟨rfl, rfl⟩
end Go.Proofs.Ytgojbilbkfilgaa
