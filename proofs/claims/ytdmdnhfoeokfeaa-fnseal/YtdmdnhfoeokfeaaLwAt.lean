/- The contract of laws.lwAt: a number below most, or 0. -/
import Derived.Test.YtdmdnhfoeokfeaaDraws
namespace Go.Proofs.Ytdmdnhfoeokfeaa
open Go.RowKit
set_option linter.unusedVariables false
set_option maxHeartbeats 1000000 in
theorem lwAt_any (a : Option Addr) (len cap : Nat) (g : Nat → Int) (p : Nat) (at_ : Nat) (hat : at_ ≤ 1000000) (most : Int) (hm : most ≤ 9223372036854775807) (w : World) (hc : Code a len g p w) :
    Calls Try.prog 7 #[.slice a len cap, .int .i64 at_, .int .i64 most] w fun e w' => ∃ r : Int, 0 ≤ r ∧ (r < most ∨ r = 0) ∧ e = .returned (.int .i64 r) ∧ w' = w := by
  obtain ⟨hlen, hg, hrow⟩ := hc
  have HR : Hid (0 < len → ∃ b off, a = some ⟨b, off, none⟩ ∧ b < p ∧ ∀ i, i < len → w.cell? ⟨b, off + i, none⟩ = some (.int .u8 (g i))) := hrow
  have HG : Hid (∀ i, 0 ≤ g i ∧ g i ≤ 255) := hg
  clear hrow hg
  by_cases h1 : most ≤ 1
  · go_enter Try.func7, Try.ntmps7
    go_wp2
    go_ret
    exact ⟨0, Int.le_refl _, .inr rfl, rfl, rfl⟩
  · have d1 : decide (most ≤ 1) = false := by simp; omega
    by_cases h2 : len = 0
    · have d2 : ((len : Int) == 0) = true := by rw [h2]; rfl
      clear h2
      go_enter Try.func7, Try.ntmps7
      go_wp2
      go_ret
      exact ⟨0, Int.le_refl _, .inr rfl, rfl, rfl⟩
    · have d2 : ((len : Int) == 0) = false := by rw [beq_eq_false_iff_ne]; omega
      obtain ⟨b, off, hae, hbp, hcell⟩ := HR.out (by omega)
      have hmod : at_ % len < len := Nat.mod_lt _ (by omega)
      have hz := hcell (at_ % len) hmod
      obtain ⟨z1, z2⟩ := HG.out (at_ % len)
      have hpos : 0 < len := by omega
      subst hae
      clear hcell h2
      generalize g (at_ % len) = z at hz z1 z2
      have e1 : ((at_ : Int).tmod (len : Int)) = ((at_ % len : Nat) : Int) := by rw [Int.tmod_eq_emod_of_nonneg (by omega)]; rfl
      go_enter Try.func7, Try.ntmps7
      go_wp2
      go_ret
      exact ⟨z % most, Int.emod_nonneg _ (by omega), .inl (Int.emod_lt_of_pos _ (by omega)), rfl, rfl⟩
end Go.Proofs.Ytdmdnhfoeokfeaa
