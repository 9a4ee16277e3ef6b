/- spec.l03Drop: a list without one entry. -/
import Derived.Test.YteholdjhkdapcaiDropMath
namespace Go.Proofs.Yteholdjhkdapcai
open Go.RowKit Go.PlainAid Go.Deep
set_option linter.unusedVariables false
/-- append onto a list that the call owns, said by where the lists lie. -/
theorem append_own (w w1 : World) (a1 : Option Addr) (c1 : Nat) (acc : List (Int × Int)) (n : Nat) (hO : w1.ownsRow w.heap.size 60 2 (.slice a1 n c1) acc.length (pc acc)) (a : Option Addr) (len cap : Nat) (l : List (Int × Int)) (hp : Prs a len l w1) (hsm : acc.length + len ≤ 1000000) (hb1 : Below w.heap.size w w1) :
    ∃ a' c' w', (Builtin.append_ #[31, 31] 31 #[.slice a1 n c1, .slice a len cap]).run Try.prog w1 = .ok (.slice a' (acc ++ l).length c') w' ∧ w'.ownsRow w.heap.size 60 2 (.slice a' (acc ++ l).length c') (acc ++ l).length (pc (acc ++ l)) ∧ Below w.heap.size w w' := by
  obtain ⟨v2, w2, hr2, hO2, hg2⟩ := run_append_prs (P := Try.prog) w1 w.heap.size 31 31 60 Try.underlying31 infoNamedC _ acc hO a len cap l hp (by omega) hb1.size
  have h2 := hO2
  obtain ⟨a', c', rfl, _, _⟩ := own_of_row hO2
  exact ⟨a', c', w2, hr2, h2, hb1.grown hg2 hb1.size (own_blockN hO)⟩
end Go.Proofs.Yteholdjhkdapcai
