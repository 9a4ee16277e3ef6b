/- Laid together: GiveNat. -/
import Derived.Test.YtdidbaadladkpaaDoorNf41
import Derived.Test.YtdidbaadladkpaaDoorNf5
import Derived.Test.YtdidbaadladkpaaDoorNf33
/- Little laws on aces: one more, in plain numbers; a list all of whose aces are right. -/
namespace Go.Proofs.YtdidbaadladkpaaDoor
open Go.RowKit Go.PlainAid Go.Deep
set_option linter.unusedVariables false
theorem snoc_rec {α : Type} {P : List α → Prop} (nil : P []) (snoc : ∀ (L : List α) (x : α), P L → P (L ++ [x])) (L : List α) : P L := by
  have h : ∀ n, ∀ L : List α, L.length = n → P L := by
    intro n
    induction n with
    | zero => intro L h; rw [List.eq_nil_of_length_eq_zero h]; exact nil
    | succ n ih =>
      intro L h
      have hne : L ≠ [] := by intro e; rw [e] at h; cases h
      rw [← List.dropLast_concat_getLast hne]
      exact snoc _ _ (ih _ (by simp [h]))
  exact h _ L rfl
theorem inGB_not {u v w : Int} {f : Nat → Int} (h : v ≠ w) : inGB u v 0 f w = false := by
  unfold inGB
  have : (v == w) = false := by simpa using h
  simp [this, anyG]
/-- One ace more, in plain numbers. -/
theorem giveS_plain {x : Ac} {g s : Nat} (m0 : 0 ≤ x.ma) (m1 : x.ma ≤ 255) (hg : g ≤ 255) (hs : s ≤ 255) :
    giveS ((g : Int), (s : Int)) x = (if x.al then (((g ||| rmN x.ma.toNat s : Nat)) : Int) else (g : Int), ((s ||| x.ma.toNat : Nat) : Int)) := by
  obtain ⟨m, hm⟩ := Int.eq_ofNat_of_zero_le m0
  have hrl := rm_le m s
  have e1 : bits .andNot .i64 x.ma (s : Int) = ((rmN m s : Nat) : Int) := by rw [hm]; exact andNot_nat m s (by omega) (by omega)
  have e2 : bits .or .i64 (g : Int) ((rmN m s : Nat) : Int) = ((g ||| rmN m s : Nat) : Int) := by
    rw [or_bits (by omega) (by omega) (by omega) (by omega)]; simp [orI]
  have e3 : bits .or .i64 (s : Int) x.ma = ((s ||| m : Nat) : Int) := by
    rw [hm, or_bits (by omega) (by omega) (by omega) (by omega)]; simp [orI]
  have e4 : x.ma.toNat = m := by omega
  show (if x.al then bits .or .i64 (g : Int) (bits .andNot .i64 x.ma (s : Int)) else (g : Int), bits .or .i64 (s : Int) x.ma) = _
  rw [e1, e2, e3, e4]
theorem aces_all {l : List Ac} (h : l.length ≤ 32) (hm : ∀ x ∈ l, aceB x = true) : acesB l = true := by
  refine aces_yes h ?_
  have : ∀ k, k ≤ l.length → allA l k = true := by
    intro k
    induction k with
    | zero => intro _; rfl
    | succ k ih =>
      intro hk
      refine allA_next (ih (by omega)) ?_
      rw [acAt_get (by omega)]
      exact hm _ (List.getElem_mem _)
  exact this _ (Nat.le_refl _)
end Go.Proofs.YtdidbaadladkpaaDoor
