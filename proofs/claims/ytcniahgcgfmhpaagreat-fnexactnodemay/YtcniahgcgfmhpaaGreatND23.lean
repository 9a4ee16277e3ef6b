/- Laid together: TrN. -/
import Derived.Test.YtcniahgcgfmhpaaGreatND22
/- A node of a right tree. -/
namespace Go.Proofs.YtcniahgcgfmhpaaGreat
open Go.RowKit Go.PlainAid Go.Deep
set_option linter.unusedVariables false
theorem treeT_node {l : List Nd} {now : Int} {k : Nat} (hk : ((ndAt l k).k == 0) = false) : ∀ n, treeT l now n = true → k < n → nodeB l now k = true
  | 0, _, h => by omega
  | n + 1, ht, h => by
    simp only [treeT, Bool.and_eq_true] at ht
    by_cases e : k = n
    · subst e
      have h2 := ht.2
      simp only [hk, Bool.false_eq_true, if_false] at h2
      exact h2
    · exact treeT_node hk n ht.1 (by omega)
theorem node_is {l : List Nd} {now : Int} {k : Nat} (ht : treeB l now = true) (hth : thB l ((k : Int) + 1) = true) : nodeB l now k = true := by
  have hn := thB_num hth
  rw [thB_in hn] at hth
  have hin := inR_iff.1 hn
  exact treeT_node (by simpa using hth) _ (tree_all ht) (by omega)
theorem node_facts {l : List Nd} {now : Int} {k : Nat} (h : nodeB l now k = true) : (0 ≤ (ndAt l k).ex ∧ (ndAt l k).ex ≤ 7) ∧ aclB (ndAt l k).A.u (ndAt l k).A.g (ndAt l k).A.o (ndAt l k).A.us (ndAt l k).A.gs (ndAt l k).A.r (ndAt l k).A.m = true ∧ inR 0 9999 (ndAt l k).ow = true ∧ inR 0 9999 (ndAt l k).gr = true := by
  simp only [nodeB, Bool.and_eq_true] at h
  exact ⟨inR_iff.1 h.2.2.1, h.2.2.2.1, h.1, h.2.1⟩
end Go.Proofs.YtcniahgcgfmhpaaGreat
