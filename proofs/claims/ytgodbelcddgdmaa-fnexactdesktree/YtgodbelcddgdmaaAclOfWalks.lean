/- AclOf, the program's and the specification's: of a mode its three bits. -/
import Derived.Test.YtgodbelcddgdmaaWhoIs
import Derived.Test.YtgodbelcddgdmaaHasMath
import Derived.Below
import Derived.Deep.QuietTactic
import Derived.BigQuiet
import Derived.Handy
namespace Go.Proofs.Ytgodbelcddgdmaa
open Go.RowKit Go.PlainAid
set_option linter.unusedVariables false
theorem and7a (n : Nat) (h : n ≤ 4095) : bits .and .i64 (n : Int) 7 = ((n % 8 : Nat) : Int) := by
  have e : n &&& 7 = n % 8 := Nat.and_two_pow_sub_one_eq_mod n 3
  have := i64_and_nat n 7 (by omega) (by decide)
  rw [e] at this
  exact this
theorem and7k (n k : Nat) (h : n ≤ 4095) : bits .and .i64 ((n : Int) / (k : Int)) 7 = (n : Int) / (k : Int) % 8 := by
  have := and7a (n / k) (Nat.le_trans (Nat.div_le_self _ _) h)
  have e : ((n / k : Nat) : Int) = (n : Int) / (k : Int) := by omega
  rw [e] at this
  rw [this]
  omega
/-- The three bits of a mode, of whatever number. -/
def mU (n : Int) : Int := if 0 ≤ n ∧ n ≤ 4095 then n / 64 % 8 else 0
def mG (n : Int) : Int := if 0 ≤ n ∧ n ≤ 4095 then n / 8 % 8 else 0
def mO (n : Int) : Int := if 0 ≤ n ∧ n ≤ 4095 then n % 8 else 0
theorem m_in {n : Int} (h : 0 ≤ n ∧ n ≤ 4095) : mU n = n / 64 % 8 ∧ mG n = n / 8 % 8 ∧ mO n = n % 8 := by simp [mU, mG, mO, h]
theorem m_off {n : Int} (h : ¬ (0 ≤ n ∧ n ≤ 4095)) : mU n = 0 ∧ mG n = 0 ∧ mO n = 0 := by
  refine ⟨?_, ?_, ?_⟩
  · rw [mU, if_neg h]
  · rw [mG, if_neg h]
  · rw [mO, if_neg h]
set_option maxHeartbeats 1000000 in
/-- impl.threeBits of a mode. -/
theorem threeBits_in (n : Nat) (h : n ≤ 4095) (w : World) :
    Calls Try.prog 26 #[.int .i64 n] w fun e w' => e = .returned (.tuple #[.int .i64 ((n : Int) / 64 % 8), .int .i64 ((n : Int) / 8 % 8), .int .i64 ((n : Int) % 8)]) ∧ w' = w := by
  have a0 := and7a n h
  have a1 : bits .and .i64 ((n : Int) / 8) 7 = (n : Int) / 8 % 8 := and7k n 8 h
  have a2 : bits .and .i64 ((n : Int) / 64) 7 = (n : Int) / 64 % 8 := and7k n 64 h
  go_enter Try.func26, Try.ntmps26
  go_wp2
  go_ret3
  exact ⟨rfl, rfl⟩
set_option maxHeartbeats 1000000 in
/-- impl.AclOf. -/
theorem iAclOf_any (n : Int) (w : World) :
    Calls Try.prog 21 #[.int .i64 n] w fun e w' => e = .returned (.agg #[.int .i64 (mU n), .int .i64 (mG n), .int .i64 (mO n), .slice none 0 0, .slice none 0 0, .bool false, .int .i64 0]) ∧ Below w.heap.size w w' := by
  by_cases hin : 0 ≤ n ∧ n ≤ 4095
  · obtain ⟨e1, e2, e3⟩ := m_in hin
    rw [e1, e2, e3]
    obtain ⟨k, rfl⟩ := Int.eq_ofNat_of_zero_le hin.1
    have hi : inR 0 4095 (k : Int) = true := inR_yes hin.1 hin.2
    have hk : k ≤ 4095 := by omega
    clear e1 e2 e3
    go_enter Try.func21, Try.ntmps21
    go_wp2_with (first | (go_at_call 20; refine (isMode_any _ _).mono ?_; rintro e w' ⟨rfl, rfl⟩) | (go_at_call 26; refine (threeBits_in k hk _).mono ?_; rintro e w' ⟨rfl, rfl⟩))
    exact bodyPost_ret (v := .agg #[.int .i64 ((k : Int) / 64 % 8), .int .i64 ((k : Int) / 8 % 8), .int .i64 ((k : Int) % 8), .slice none 0 0, .slice none 0 0, .bool false, .int .i64 0]) (by simp [results, Try.results21, go_sem]) rfl ⟨rfl, (Below.refl _ _).alloc (Nat.le_refl _) _⟩
  · obtain ⟨e1, e2, e3⟩ := m_off hin
    rw [e1, e2, e3]
    have hi : inR 0 4095 n = false := inR_no hin
    clear e1 e2 e3 hin
    go_enter Try.func21, Try.ntmps21
    go_wp2_with (go_at_call 20; refine (isMode_any _ _).mono ?_; rintro e w' ⟨rfl, rfl⟩)
    exact bodyPost_ret (v := .agg #[.int .i64 0, .int .i64 0, .int .i64 0, .slice none 0 0, .slice none 0 0, .bool false, .int .i64 0]) (by simp [results, Try.results21, go_sem]) rfl ⟨rfl, (Below.refl _ _).alloc (Nat.le_refl _) _⟩
set_option maxHeartbeats 1000000 in
/-- spec.AclOf. -/
theorem sAclOf_any (n : Int) (w : World) :
    Calls Try.prog 18 #[.int .i64 n] w fun e w' => e = .returned (.agg #[.int .i64 (mU n), .int .i64 (mG n), .int .i64 (mO n), .slice none 0 0, .slice none 0 0, .bool false, .int .i64 0]) ∧ Below w.heap.size w w' := by
  by_cases hin : 0 ≤ n ∧ n ≤ 4095
  · obtain ⟨e1, e2, e3⟩ := m_in hin
    rw [e1, e2, e3]
    obtain ⟨h0, h1⟩ := hin
    have hi : inR 0 4095 n = true := inR_yes h0 h1
    clear e1 e2 e3
    go_enter Try.func18, Try.ntmps18
    go_wp2_with (go_at_call 16; refine (sMode_any _ _).mono ?_; rintro e w' ⟨rfl, rfl⟩)
    exact bodyPost_ret (v := .agg #[.int .i64 (n / 64 % 8), .int .i64 (n / 8 % 8), .int .i64 (n % 8), .slice none 0 0, .slice none 0 0, .bool false, .int .i64 0]) (by simp [results, Try.results18, go_sem]) rfl ⟨rfl, (Below.refl _ _).alloc (Nat.le_refl _) _⟩
  · obtain ⟨e1, e2, e3⟩ := m_off hin
    rw [e1, e2, e3]
    have hi : inR 0 4095 n = false := inR_no hin
    clear e1 e2 e3 hin
    go_enter Try.func18, Try.ntmps18
    go_wp2_with (go_at_call 16; refine (sMode_any _ _).mono ?_; rintro e w' ⟨rfl, rfl⟩)
    exact bodyPost_ret (v := .agg #[.int .i64 0, .int .i64 0, .int .i64 0, .slice none 0 0, .slice none 0 0, .bool false, .int .i64 0]) (by simp [results, Try.results18, go_sem]) rfl ⟨rfl, (Below.refl _ _).alloc (Nat.le_refl _) _⟩
end Go.Proofs.Ytgodbelcddgdmaa
