/- Laid together: NofM. -/
import Derived.Test.YtgodbelcddgdmaaGreatNF16
import Derived.Test.YtgodbelcddgdmaaGreatNF17
import Derived.Test.YtgodbelcddgdmaaGreatNF19
/- NodeOf: which node; the lists of a right tree's nodes are short. Nothing here names a program. -/
namespace Go.Proofs.YtgodbelcddgdmaaGreat
open Go.RowKit Go.PlainAid
set_option linter.unusedVariables false
def nofN (l : List Nd) (now n : Int) : Nd := if treeB l now && thB l n then ndAt l (n - 1).toNat else ndZ
structure NdSm (x : Nd) : Prop where
  au : x.A.us.length ≤ 6
  ag : x.A.gs.length ≤ 6
  du : x.D.us.length ≤ 6
  dg : x.D.gs.length ≤ 6
theorem E_len {A : Al} (h : A.E = true) : A.us.length = 0 ∧ A.gs.length = 0 := by
  simp only [Al.E, Bool.and_eq_true, beq_iff_eq] at h
  exact h.2.2.2.2.2
theorem B_len {A : Al} (h : A.B = true) : A.us.length ≤ 6 ∧ A.gs.length ≤ 6 := by
  obtain ⟨_, _, _, _, h1, h2⟩ := aclB_parts h
  simp only [nmB, Bool.and_eq_true, decide_eq_true_eq] at h1 h2
  exact ⟨h1.1, h2.1⟩
theorem bare_D {x : Nd} (h : x.bare = true) : x.D.us.length = 0 ∧ x.D.gs.length = 0 := by
  simp only [Nd.bare, Bool.and_eq_true] at h
  exact E_len h.2.1
theorem node_small {l : List Nd} {now : Int} {k : Nat} (ht : treeB l now = true) (hk : k < l.length) : NdSm (ndAt l k) := by
  have h1 := treeT_at (tree_all ht) k hk
  cases h0 : ((ndAt l k).k == 0)
  · rw [h0, if_neg (by decide)] at h1
    simp only [nodeB, kindB, Bool.and_eq_true] at h1
    have hA := B_len h1.2.2.2.1
    have h2 := h1.2.2.2.2.2.2.2
    have hD : (ndAt l k).D.us.length ≤ 6 ∧ (ndAt l k).D.gs.length ≤ 6 := by
      cases k1 : ((ndAt l k).k == 1)
      · rw [k1, if_neg (by decide)] at h2
        have hbare : (ndAt l k).bare = true := by
          cases k2 : ((ndAt l k).k == 2)
          · rw [k2, if_neg (by decide)] at h2
            cases k3 : ((ndAt l k).k == 3)
            · rw [k3, if_neg (by decide)] at h2; cases h2
            · rw [k3, if_pos rfl, Bool.and_eq_true] at h2; exact h2.1
          · rw [k2, if_pos rfl, Bool.and_eq_true] at h2; exact h2.1
        have := bare_D hbare
        omega
      · rw [k1, if_pos rfl] at h2
        simp only [dirB, Bool.and_eq_true] at h2
        exact B_len h2.1
    exact ⟨hA.1, hA.2, hD.1, hD.2⟩
  · rw [h0, if_pos rfl] at h1
    simp only [Nd.zero, Bool.and_eq_true] at h1
    have q1 := bare_D h1.1
    have q2 := E_len h1.2.2.2.2.1
    exact ⟨by omega, by omega, by omega, by omega⟩
theorem al_zero {A : Al} (h : A.E = true) : A = alZ := by
  obtain ⟨u, g, o, us, gs, r, m⟩ := A
  simp only [Al.E, Bool.and_eq_true, beq_iff_eq, Bool.not_eq_true', List.length_eq_zero_iff] at h
  obtain ⟨rfl, rfl, rfl, rfl, rfl, rfl, rfl⟩ := h
  rfl
theorem bo_zero {b : ByteArray} (h : (b.toList == []) = true) : b = ⟨#[]⟩ := by
  have h1 : b.toList = [] := by simpa using h
  rw [ByteArray.toList_eq] at h1
  obtain ⟨d⟩ := b
  have : d = #[] := by simpa using h1
  rw [this]
theorem zero_is {x : Nd} (h : x.zero = true) (hk : x.k = 0) : x = ndZ := by
  obtain ⟨k, ow, gr, ex, A, sh, D, li, up, bo, ns, ti⟩ := x
  simp only [Nd.zero, Nd.bare, Bool.and_eq_true, beq_iff_eq, Bool.not_eq_true', List.length_eq_zero_iff] at h hk
  obtain ⟨⟨h1, h2, h3, h4⟩, h5, h6, h7, h8, h9, h10, h11⟩ := h
  have e1 := al_zero h2
  have e2 := al_zero h8
  have e3 : bo = ⟨#[]⟩ := bo_zero (by rw [h10]; rfl)
  subst h1 h3 h4 h5 h6 h7 h9 h11 e1 e2 e3 hk
  rfl
theorem nof_off {l : List Nd} {now n : Int} (h : (treeB l now && thB l n) = false) : nofN l now n = ndZ := by rw [nofN, h]; rfl
theorem nof_on {l : List Nd} {now : Int} {k : Nat} (ht : treeB l now = true) (hk : k < l.length) : nofN l now ((k : Int) + 1) = ndAt l k := by
  have hin : inR 1 l.length ((k : Int) + 1) = true := inR_iff.2 (by omega)
  rw [nofN, ht, thB_in hin, at_succ, Bool.true_and]
  cases h0 : ((ndAt l k).k == 0)
  · have : ((ndAt l k).k != 0) = true := by simp only [bne, h0]; rfl
    rw [this]; rfl
  · have h1 := treeT_at (tree_all ht) k hk
    rw [h0, if_pos rfl] at h1
    have hk0 : (ndAt l k).k = 0 := by simpa using h0
    rw [zero_is h1 hk0]
    rfl
theorem nof_fit {l : List Nd} {now n : Int} {M : Nat} (hf : ∀ i, i < l.length → NdFit M (ndAt l i)) : NdFit M (nofN l now n) := by
  have hz : NdFit M ndZ := ⟨Nat.zero_le _, Nat.zero_le _, Nat.zero_le _, Nat.zero_le _, Nat.zero_le _, Nat.zero_le _, fun i hi => absurd hi (by simp [ndZ])⟩
  unfold nofN
  split
  · rename_i h
    rw [Bool.and_eq_true] at h
    have := inR_iff.1 (thB_num h.2)
    exact hf _ (by omega)
  · exact hz
end Go.Proofs.YtgodbelcddgdmaaGreat
