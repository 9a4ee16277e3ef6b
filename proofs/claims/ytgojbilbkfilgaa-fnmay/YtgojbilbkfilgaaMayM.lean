/- What AclMay answers: who may all may each; a wider mask; the owner. -/
import Derived.Test.YtgojbilbkfilgaaMay
import Derived.Test.YtgojbilbkfilgaaSetMask
namespace Go.Proofs.Ytgojbilbkfilgaa
open Go.RowKit Go.PlainAid Go.Deep
set_option linter.unusedVariables false
theorem hasB_trans : ∀ x, x < 8 → ∀ v, v < 8 → ∀ n, n < 8 → hasB x v = true → hasB v n = true → hasB x n = true := by decide +kernel
theorem hasB_seven : ∀ v, v < 8 → hasB 7 v = true := by decide +kernel
theorem hasZ_trans {x v n : Int} (x0 : 0 ≤ x) (x1 : x ≤ 7) (v0 : 0 ≤ v) (v1 : v ≤ 7) (n0 : 0 ≤ n) (n1 : n ≤ 7) (h1 : hasZ x v = true) (h2 : hasZ v n = true) : hasZ x n = true := by
  obtain ⟨a, rfl⟩ := Int.eq_ofNat_of_zero_le x0
  obtain ⟨b, rfl⟩ := Int.eq_ofNat_of_zero_le v0
  obtain ⟨c, rfl⟩ := Int.eq_ofNat_of_zero_le n0
  rw [hasZ_in (by omega) (by omega)] at h1 h2 ⊢
  exact hasB_trans a (by omega) b (by omega) c (by omega) h1 h2
theorem hasZ_seven {v : Int} (v0 : 0 ≤ v) (v1 : v ≤ 7) : hasZ 7 v = true := by
  obtain ⟨b, rfl⟩ := Int.eq_ofNat_of_zero_le v0
  show hasZ ((7 : Nat) : Int) b = true
  rw [hasZ_in (by omega) (by omega)]
  exact hasB_seven b (by omega)
theorem allTo_mono {x y : Bool} {P : Int → Bool} {l : List (Int × Int)} {v n : Int} (hx : x = true → y = true) (hb : ∀ k, k < l.length → 0 ≤ btAt l k ∧ btAt l k ≤ 7) (v0 : 0 ≤ v) (v1 : v ≤ 7) (n0 : 0 ≤ n) (n1 : n ≤ 7) (hv : hasZ v n = true) : ∀ k, k ≤ l.length → allTo x P l v k = true → allTo y P l n k = true := by
  intro k
  induction k with
  | zero => intro _ h; exact hx h
  | succ k ih =>
    intro hk h
    simp only [allTo, Bool.or_eq_true, Bool.and_eq_true] at h ⊢
    rcases h with h | ⟨h1, h2⟩
    · exact .inl (ih (by omega) h)
    · exact .inr ⟨h1, hasZ_trans (hb k (by omega)).1 (hb k (by omega)).2 v0 v1 n0 n1 h2 hv⟩
theorem allTo_none {x b : Bool} {P : Int → Bool} {l : List (Int × Int)} {n : Int} : ∀ k, inTo x P l k = false → allTo (x && b) P l n k = false := by
  intro k
  induction k with
  | zero => intro h; simp only [inTo] at h; simp [allTo, h]
  | succ k ih =>
    intro h
    simp only [inTo, Bool.or_eq_false_iff] at h
    simp [allTo, ih h.1, h.2]
theorem fine_want {u g o : Int} {us gs : List (Int × Int)} {r : Bool} {m owner group cu' cg' : Int} {cl : Nat} {cf : Nat → Int} {want n : Int} (h : fineB u g o us gs r m owner group cu' cg' cl cf want = true) (n0 : 0 ≤ n) (n1 : n ≤ 7) : fineB u g o us gs r m owner group cu' cg' cl cf n = true := by
  unfold fineB at h ⊢
  simp only [Bool.and_eq_true] at h ⊢
  exact ⟨h.1, h.2.1, h.2.2.1, h.2.2.2.1, inR_yes n0 n1⟩
theorem mayB_fine {u g o : Int} {us gs : List (Int × Int)} {r : Bool} {m owner group cu' cg' : Int} {cl : Nat} {cf : Nat → Int} {want : Int} (h : fineB u g o us gs r m owner group cu' cg' cl cf want = true) : mayB u g o us gs r m owner group cu' cg' cl cf want = mayK (whichB g us gs owner group cu' (inGB cu' cg' cl cf) want) u g o us r m cu' want := by
  rw [mayB, classB, h]
  rfl
theorem class_fine {u g o : Int} {us gs : List (Int × Int)} {r : Bool} {m owner group cu' cg' : Int} {cl : Nat} {cf : Nat → Int} {want : Int} (h : classB u g o us gs r m owner group cu' cg' cl cf want ≠ 0) : fineB u g o us gs r m owner group cu' cg' cl cf want = true := by
  cases hf : fineB u g o us gs r m owner group cu' cg' cl cf want
  · rw [classB, hf] at h
    exact absurd rfl h
  · rfl
theorem may_zero {u g o : Int} {us gs : List (Int × Int)} {r : Bool} {m owner group cu' cg' : Int} {cl : Nat} {cf : Nat → Int} {want : Int} (h : classB u g o us gs r m owner group cu' cg' cl cf want = 0) : mayB u g o us gs r m owner group cu' cg' cl cf want = false := by
  rw [mayB, h]
  rfl
/-- Who may all may each. -/
theorem may_each {u g o : Int} {us gs : List (Int × Int)} {r : Bool} {m owner group cu' cg' : Int} {cl : Nat} {cf : Nat → Int} {want n : Int} (hf : fineB u g o us gs r m owner group cu' cg' cl cf want = true) (n0 : 0 ≤ n) (n1 : n ≤ 7) (hm : mayB u g o us gs r m owner group cu' cg' cl cf want = true) (hn : hasZ want n = true) : mayB u g o us gs r m owner group cu' cg' cl cf n = true := by
  have hS := fine_sound hf
  have ha : aclB u g o us gs r m = true := by
    unfold fineB at hf
    simp only [Bool.and_eq_true] at hf
    exact hf.1
  obtain ⟨_, ⟨g0, g1⟩, _, _, b1, b2⟩ := aclB_parts ha
  rw [mayB_fine hf] at hm
  rw [mayB_fine (fine_want hf n0 n1)]
  have tr : ∀ x : Int, 0 ≤ x → x ≤ 7 → hasZ x want = true → hasZ x n = true := fun x x0 x1 h => hasZ_trans x0 x1 hS.v0 hS.v1 n0 n1 h hn
  unfold whichB at hm ⊢
  cases ho : (cu' == owner)
  · cases hu : fnd us cu'
    · rw [ho, hu] at hm
      simp only [Bool.false_eq_true, if_false] at hm ⊢
      unfold goC at hm ⊢
      cases hA : allTo (inGB cu' cg' cl cf group && hasZ g want) (inGB cu' cg' cl cf) gs want gs.length
      · cases hI : inTo (inGB cu' cg' cl cf group) (inGB cu' cg' cl cf) gs gs.length
        · rw [hA, hI] at hm
          rw [allTo_none _ hI]
          simp [mayK] at hm ⊢
          exact tr o hS.o0 hS.o1 hm
        · rw [hA, hI] at hm
          simp [mayK] at hm
      · rw [hA] at hm
        have hA2 : allTo (inGB cu' cg' cl cf group && hasZ g n) (inGB cu' cg' cl cf) gs n gs.length = true := allTo_mono (fun h => by
          rw [Bool.and_eq_true] at h ⊢
          exact ⟨h.1, tr g g0 g1 h.2⟩) (nm_bt b2) hS.v0 hS.v1 n0 n1 hn _ (Nat.le_refl _) hA
        rw [hA2]
        simp [mayK] at hm ⊢
        exact tr _ hS.k0 hS.k1 hm
    · rw [ho, hu] at hm
      have hk : plc us cu' < us.length := by
        unfold fnd at hu
        rw [Bool.and_eq_true] at hu
        exact of_decide_eq_true hu.1
      obtain ⟨t0, t1⟩ := nm_bt b1 _ hk
      simp [mayK] at hm ⊢
      exact ⟨tr _ t0 t1 hm.1, tr _ hS.m0 hS.m1 hm.2⟩
  · rw [ho] at hm
    simp [mayK] at hm ⊢
    exact tr _ hS.u0 hS.u1 hm
/-- More bits in the mask. -/
theorem may_mask {u g o : Int} {us gs : List (Int × Int)} {r : Bool} {m owner group cu' cg' : Int} {cl : Nat} {cf : Nat → Int} {want : Int} (hf : fineB u g o us gs r m owner group cu' cg' cl cf want = true) (hm : mayB u g o us gs r m owner group cu' cg' cl cf want = true) : setMaskA u g o us gs r m 7 = ⟨u, g, o, us, gs, true, 7, 0⟩ ∧ mayB u g o us gs true 7 owner group cu' cg' cl cf want = true := by
  have hS := fine_sound hf
  have hf2 := hf
  unfold fineB at hf2
  simp only [Bool.and_eq_true] at hf2
  obtain ⟨ha, hrest⟩ := hf2
  obtain ⟨⟨u0, u1⟩, ⟨g0, g1⟩, ⟨o0, o1⟩, _, b1, b2⟩ := aclB_parts ha
  refine ⟨by rw [setMaskA, if_pos ⟨ha, rfl⟩], ?_⟩
  have ha7 : aclB u g o us gs true 7 = true := aclB_r (inR_yes u0 u1) (inR_yes g0 g1) (inR_yes o0 o1) rfl b1 b2
  have hf7 : fineB u g o us gs true 7 owner group cu' cg' cl cf want = true := by
    unfold fineB
    simp only [Bool.and_eq_true]
    exact ⟨ha7, hrest⟩
  rw [mayB_fine hf] at hm
  rw [mayB_fine hf7]
  have h7 := hasZ_seven hS.v0 hS.v1
  rcases which_cases g us gs owner group cu' (inGB cu' cg' cl cf) want with h | ⟨h, _⟩ | h | h | h <;> rw [h] at hm ⊢ <;> simp [mayK, clsOf, h7] at hm ⊢
  · exact hm
  · exact hm.1
  · exact hm
/-- The owner is not asked by what others may. -/
theorem may_own {u g o : Int} {us gs : List (Int × Int)} {r : Bool} {m owner group cu' cg' : Int} {cl : Nat} {cf : Nat → Int} {want : Int} (hf : fineB u g o us gs r m owner group cu' cg' cl cf want = true) : mayB u g o us gs r m owner group owner cg' cl cf want = hasZ u want := by
  have hf2 : fineB u g o us gs r m owner group owner cg' cl cf want = true := by
    unfold fineB credB at hf ⊢
    simp only [Bool.and_eq_true] at hf ⊢
    exact ⟨hf.1, hf.2.1, hf.2.2.1, ⟨hf.2.1, hf.2.2.2.1.2⟩, hf.2.2.2.2⟩
  rw [mayB_fine hf2, whichB]
  simp [mayK]
end Go.Proofs.Ytgojbilbkfilgaa
