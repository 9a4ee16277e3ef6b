/- Laid together: NfsBits4. -/
import Derived.Test.YthgcobglecomcaaDoorDf28
import Derived.Test.YthgcobglecomcaaDoorDf2
/- spec.l04Bits of bits: some number; spec.l04More. -/
namespace Go.Proofs.YthgcobglecomcaaDoor
open Go.RowKit Go.PlainAid Go.Deep
set_option linter.unusedVariables false
/-- What bits are in a mask. -/
def nb (b : Int) : Int := b / 4 + b / 2 % 2 * 10 + b % 2 * 4
set_option maxHeartbeats 2000000 in
theorem l04Bits_any (b : Int) (h0 : 0 ≤ b) (h1 : b ≤ 7) (w : World) :
    Calls Tryd.prog 84 #[.int .i64 b] w fun e w' => e = .returned (.int .i64 (nb b)) ∧ w' = w := by
  rcases (by omega : b = 0 ∨ b = 1 ∨ b = 2 ∨ b = 3 ∨ b = 4 ∨ b = 5 ∨ b = 6 ∨ b = 7) with rfl | rfl | rfl | rfl | rfl | rfl | rfl | rfl
  all_goals (
    go_enter Tryd.func84, Tryd.ntmps84
    go_wp2
    go_ret
    exact ⟨rfl, rfl⟩)
theorem l04Bits_some (b : Int) (h0 : 0 ≤ b) (h1 : b ≤ 7) (w : World) :
    Calls Tryd.prog 84 #[.int .i64 b] w fun e w' => (∃ z : Int, e = .returned (.int .i64 z)) ∧ w' = w :=
  (l04Bits_any b h0 h1 w).mono fun e w' ⟨h, h2⟩ => ⟨⟨_, h⟩, h2⟩
end Go.Proofs.YthgcobglecomcaaDoor
