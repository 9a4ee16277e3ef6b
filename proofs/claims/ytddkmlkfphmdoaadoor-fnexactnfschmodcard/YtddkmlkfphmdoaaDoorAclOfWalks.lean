/- AclOf, the program's and the specification's: of a mode its three bits. -/
import Derived.Test.YtddkmlkfphmdoaaDoorWhoIs
import Derived.Test.YtddkmlkfphmdoaaDoorHasMath
import Derived.Below
import Derived.Deep.QuietTactic
import Derived.BigQuiet
import Derived.Handy
namespace Go.Proofs.YtddkmlkfphmdoaaDoor
open Go.RowKit Go.PlainAid
set_option linter.unusedVariables false
theorem and7a (n : Nat) (h : n ≤ 4095) : bits .and .i64 (n : Int) 7 = ((n % 8 : Nat) : Int) := by
  have e : n &&& 7 = n % 8 := Nat.and_two_pow_sub_one_eq_mod n 3
  have := i64_and_nat n 7 (by omega) (by decide)
  rw [e] at this
  exact this
theorem and7k (n k : Nat) (h : n ≤ 4095) : bits .and .i64 ((n : Int) / (k : Int)) 7 = (n : Int) / (k : Int) % 8 := by
  have := and7a (n / k) (Nat.le_trans (Nat.div_le_self _ _) h)
  have e : ((n / k : Nat) : Int) = (n : Int) / (k : Int) := by omega
  rw [e] at this
  rw [this]
  omega
/-- The three bits of a mode, of whatever number. -/
def mU (n : Int) : Int := if 0 ≤ n ∧ n ≤ 4095 then n / 64 % 8 else 0
def mG (n : Int) : Int := if 0 ≤ n ∧ n ≤ 4095 then n / 8 % 8 else 0
def mO (n : Int) : Int := if 0 ≤ n ∧ n ≤ 4095 then n % 8 else 0
theorem m_in {n : Int} (h : 0 ≤ n ∧ n ≤ 4095) : mU n = n / 64 % 8 ∧ mG n = n / 8 % 8 ∧ mO n = n % 8 := by simp [mU, mG, mO, h]
theorem m_off {n : Int} (h : ¬ (0 ≤ n ∧ n ≤ 4095)) : mU n = 0 ∧ mG n = 0 ∧ mO n = 0 := by
  refine ⟨?_, ?_, ?_⟩
  · rw [mU, if_neg h]
  · rw [mG, if_neg h]
  · rw [mO, if_neg h]
set_option maxHeartbeats 1000000 in
/-- impl.threeBits of a mode. -/
theorem threeBits_in (n : Nat) (h : n ≤ 4095) (w : World) :
    Calls Tryd.prog 33 #[.int .i64 n] w fun e w' => e = .returned (.tuple #[.int .i64 ((n : Int) / 64 % 8), .int .i64 ((n : Int) / 8 % 8), .int .i64 ((n : Int) % 8)]) ∧ w' = w := by
  have a0 := and7a n h
  have a1 : bits .and .i64 ((n : Int) / 8) 7 = (n : Int) / 8 % 8 := and7k n 8 h
  have a2 : bits .and .i64 ((n : Int) / 64) 7 = (n : Int) / 64 % 8 := and7k n 64 h
  go_enter Tryd.func33, Tryd.ntmps33
  go_wp2
  go_ret3
  exact ⟨rfl, rfl⟩
end Go.Proofs.YtddkmlkfphmdoaaDoor
