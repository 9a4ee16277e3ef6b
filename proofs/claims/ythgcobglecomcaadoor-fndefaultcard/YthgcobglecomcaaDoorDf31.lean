/- Laid together: RegInv. -/
import Derived.WalkKit
import Derived.Orders
/- A region that draws its order, by what holds ahead of each of its operations, whatever the order. Nothing here names a program. -/
namespace Go.Proofs.YthgcobglecomcaaDoor
open Go.RowKit
set_option linter.unusedVariables false
/-- Q, but K at the ordinary end. -/
def QK (Q : Exit → Act → World → Prop) (K : Act → World → Prop) : Exit → Act → World → Prop
  | .normal, a, w => K a w
  | e, a, w => Q e a w
theorem wpOp_of_list {P : Program} {ops : Array Oper} {Q : Exit → Act → World → Prop} {K : Act → World → Prop} {i : Nat} {o : Oper} {a : Act} {w : World} (hi : ops[i]? = some o) (h : wpList P ops (QK Q K) [o] a w) : wpOp P ops Q i K a w := by
  unfold wpOp
  simp only [hi]
  unfold wpList at h
  split
  · rename_i hw
    rw [if_pos hw] at h
    rcases h with h | h
    · left
      unfold Oper.wp at h ⊢
      generalize (execOp a.eval o).run P w = r at h ⊢
      cases r with
      | ok n w' => cases n <;> exact h
      | halt x w' => cases x <;> exact h
    · exact .inr h
  · rename_i hw
    rw [if_neg hw] at h
    exact h
theorem ready_mem {md : Region.Mode} {ops : Array Oper} {l : Array Bool} {i : Nat} (hi : i ∈ Region.ready md ops l) : i < ops.size ∧ l.getD i true = false ∧ ((ops[i]?).map (·.after.all fun e => !Region.binds md e || l.getD e.on false)).getD false = true := by
  unfold Region.ready at hi
  obtain ⟨h1, h2⟩ := List.mem_filter.1 hi
  simp only [Bool.and_eq_true, Bool.not_eq_true'] at h2
  exact ⟨List.mem_range.1 h1, h2.1, h2.2⟩
/-- What an operation hangs on is listed. -/
theorem ready_dep {md : Region.Mode} {ops : Array Oper} {l : Array Bool} {i : Nat} {o : Oper} (hi : i ∈ Region.ready md ops l) (ho : ops[i]? = some o) (e : Edge) (he : e ∈ o.after) (hb : Region.binds md e = true) : l.getD e.on false = true := by
  have h := (ready_mem hi).2.2
  rw [ho] at h
  simp only [Option.map_some, Option.getD_some] at h
  have := Array.all_eq_true'.1 h e he
  rw [hb] at this
  simpa using this
/-- How many are not listed. -/
def unl (l : Array Bool) : Nat := l.toList.count false
theorem getD_false {l : Array Bool} {i : Nat} (h : l.getD i true = false) : ∃ hi : i < l.size, l[i] = false := by
  by_cases hi : i < l.size
  · refine ⟨hi, ?_⟩
    simpa [Array.getD, hi] using h
  · simp [Array.getD, hi] at h
theorem count_set : ∀ (l : List Bool) (i : Nat), l[i]? = some false → (l.set i true).count false + 1 = l.count false := by
  intro l
  induction l with
  | nil => intro i h; simp at h
  | cons x l ih =>
    intro i h
    cases i with
    | zero =>
      simp at h
      subst h
      simp
    | succ i =>
      have := ih i (by simpa using h)
      simp only [List.set_cons_succ, List.count_cons]
      omega
theorem unl_set {l : Array Bool} {i : Nat} (h : l.getD i true = false) : unl (l.setIfInBounds i true) + 1 = unl l := by
  obtain ⟨hi, he⟩ := getD_false h
  unfold unl
  rw [Array.toList_setIfInBounds]
  apply count_set
  rw [Array.getElem?_toList, Array.getElem?_eq_getElem hi, he]
theorem unl_zero {l : Array Bool} (h : unl l = 0) (i : Nat) : l.getD i true = true := by
  cases e : l.getD i true
  · have := unl_set e
    omega
  · rfl
theorem wpAny_inv {P : Program} {md : Region.Mode} {ops : Array Oper} {Q : Exit → Act → World → Prop} (Inv : Array Bool → Act → World → Prop)
    (hs : ∀ l a w, Inv l a w → ∀ i, i ∈ Region.ready md ops l → wpOp P ops Q i (fun a' w' => Inv (l.setIfInBounds i true) a' w') a w)
    (he : ∀ l a w, Inv l a w → Region.ready md ops l = [] → Q .normal a w) :
    ∀ (fuel : Nat) (l : Array Bool) (a : Act) (w : World), unl l ≤ fuel → Inv l a w → wpAny P md ops Q fuel l a w := by
  intro fuel
  induction fuel with
  | zero =>
    intro l a w hu hI
    have hn : Region.ready md ops l = [] := by
      apply List.eq_nil_iff_forall_not_mem.2
      intro i hi
      have h1 := (ready_mem hi).2.1
      rw [unl_zero (by omega) i] at h1
      cases h1
    exact ⟨hn, he l a w hI hn⟩
  | succ fuel ih =>
    intro l a w hu hI
    refine ⟨fun hn => he l a w hI hn, fun i hi => ?_⟩
    have hd := unl_set (ready_mem hi).2.1
    exact wpOp_mono (fun a' w' h => ih _ a' w' (by omega) h) (hs l a w hI i hi)
/-- The rule. -/
theorem wp_region_inv {P : Program} {ops : Array Oper} {Q : Exit → Act → World → Prop} {id : Nat} {a : Act} {w : World} (hm : P.follows .mixedOrders = true) (Inv : Array Bool → Act → World → Prop)
    (h0 : Inv (Array.replicate ops.size false) a { w with drawn := w.drawn + 1 })
    (hs : ∀ l a w, Inv l a w → ∀ i, i ∈ Region.ready .any ops l → wpOp P ops Q i (fun a' w' => Inv (l.setIfInBounds i true) a' w') a w)
    (he : ∀ l a w, Inv l a w → Region.ready .any ops l = [] → Q .normal a w) : (Code.region id ops true).wp P Q a w :=
  wp_region_any hm (wpAny_inv Inv hs he _ _ _ _ (by unfold unl; simp) h0)
theorem getD_keep {l : Array Bool} {i j : Nat} (hne : j ≠ i) (h : (l.setIfInBounds i true).getD j false = true) : l.getD j false = true := by
  by_cases hj : j < l.size
  · simpa [Array.getD, hj, Array.getElem_setIfInBounds, Ne.symm hne] using h
  · simp [Array.getD, hj] at h
end Go.Proofs.YthgcobglecomcaaDoor
