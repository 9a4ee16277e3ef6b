/- laws.szCred of whatever is left. -/
import Derived.Test.YtgojbilbkfilgabLawCred
namespace Go.Proofs.Ytgojbilbkfilgab
open Go.RowKit Go.PlainAid Go.Deep
set_option linter.unusedVariables false
set_option maxHeartbeats 2000000 in
theorem szCredM_long (u g : Int) (a : Option Addr) (len cap : Nat) (r : Bool) (n : Int) (h0 : 0 ≤ n) (h1 : n ≤ 1048576) (hl : n - (len : Int) < 0) (hm : len ≤ 9223372036854775807) (w : World) :
    Calls Try.prog 5 #[.agg #[.int .i64 u, .int .i64 g, .slice a len cap, .bool r], .int .i64 n] w fun e w' => e = .returned (.int .i64 (-1)) ∧ Below w.heap.size w w' := by
  have hc : Hid (∀ w, Calls Try.prog 13 #[.slice a len cap, .int .i64 n] w fun e w' => e = .returned (.int .i64 (-1)) ∧ w' = w) := (by
    intro w
    go_enter Try.func13, Try.ntmps13
    go_wp2
    go_ret
    exact ⟨rfl, rfl⟩)
  clear hl
  go_enter Try.func5, Try.ntmps5
  go_wp2_with (go_at_call 13; refine (hc.out _).mono ?_; rintro e w' ⟨rfl, rfl⟩)
  go_ret
  exact ⟨rfl, (Below.refl _ _).alloc (Nat.le_refl _) _⟩
set_option maxHeartbeats 2000000 in
theorem szCredM_short (u g : Int) (a : Option Addr) (len cap : Nat) (r : Bool) (n : Int) (h0 : 0 ≤ n) (h1 : n ≤ 1048576) (hl : 0 ≤ n - (len : Int)) (w : World) :
    Calls Try.prog 5 #[.agg #[.int .i64 u, .int .i64 g, .slice a len cap, .bool r], .int .i64 n] w fun e w' => e = .returned (.int .i64 (n - len)) ∧ Below w.heap.size w w' := by
  have d1 : decide (n - (len : Int) < 0) = false := by simp; omega
  have hc : Hid (∀ w, Calls Try.prog 13 #[.slice a len cap, .int .i64 n] w fun e w' => e = .returned (.int .i64 (n - len)) ∧ w' = w) := (by
    intro w
    go_enter Try.func13, Try.ntmps13
    go_wp2
    go_ret
    exact ⟨rfl, rfl⟩)
  go_enter Try.func5, Try.ntmps5
  go_wp2_with (go_at_call 13; refine (hc.out _).mono ?_; rintro e w' ⟨rfl, rfl⟩)
  go_ret
  exact ⟨rfl, (Below.refl _ _).alloc (Nat.le_refl _) _⟩
end Go.Proofs.Ytgojbilbkfilgab
