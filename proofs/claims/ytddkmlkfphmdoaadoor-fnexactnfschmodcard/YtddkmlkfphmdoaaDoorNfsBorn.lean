/- NfsBorn, the program's and the specification's. -/
import Derived.Test.YtddkmlkfphmdoaaDoorAceCat
import Derived.Test.YtddkmlkfphmdoaaDoorNfsRight
namespace Go.Proofs.YtddkmlkfphmdoaaDoor
open Go.RowKit Go.PlainAid Go.Deep
set_option linter.unusedVariables false
/-- Does an ace of these flags come into what is new? -/
def bornT (dir : Bool) (f : Int) : Bool := if dir then (decide (f / 2 % 2 = 1) || (decide (f % 2 = 1) && !decide (f / 4 % 2 = 1))) else decide (f % 2 = 1)
/-- With which flags? -/
def bornG (dir : Bool) (f : Int) : Int := if dir then (if f / 2 % 2 = 1 then (if f / 4 % 2 = 1 then 0 else f % 8) else 9) else 0
def bornX (dir : Bool) (x : Ac) : Ac := ⟨x.al, x.wh, x.id, bornG dir x.fl, x.ma⟩
def bornO (dir : Bool) (x : Ac) : List Ac := if bornT dir x.fl then [bornX dir x] else []
/-- What the first k of a list give. -/
def bornP (dir : Bool) (l : List Ac) : Nat → List Ac
  | 0 => []
  | k + 1 => bornP dir l k ++ bornO dir (acAt l k)
/-- NfsBorn. -/
def bornL (dir : Bool) (l : List Ac) : List Ac := if acesB l then bornP dir l l.length else []
theorem bornP_len (dir : Bool) (l : List Ac) (k : Nat) : (bornP dir l k).length ≤ k := by
  induction k with
  | zero => exact Nat.le_refl _
  | succ k ih =>
    have : (bornO dir (acAt l k)).length ≤ 1 := by unfold bornO; split <;> simp
    simp only [bornP, List.length_append]
    omega
theorem bornL_len (dir : Bool) (l : List Ac) : (bornL dir l).length ≤ 32 := by
  unfold bornL
  split
  · rename_i h
    have := bornP_len dir l l.length
    have h2 := aces_len h
    omega
  · simp
theorem bornP_yes {dir : Bool} {l : List Ac} {k : Nat} (h : bornT dir (acAt l k).fl = true) : bornP dir l (k + 1) = bornP dir l k ++ [bornX dir (acAt l k)] := by simp [bornP, bornO, h]
theorem bornP_no {dir : Bool} {l : List Ac} {k : Nat} (h : bornT dir (acAt l k).fl = false) : bornP dir l (k + 1) = bornP dir l k := by simp [bornP, bornO, h]
theorem ansL_nil {xs : List Ac} (h : xs = []) {w w' : World} {a : Option Addr} {c : Nat} (hin : ∀ A, a = some A → w.heap.size ≤ A.block ∧ A.block < w'.heap.size) (hb : Below w.heap.size w w') : AnsL xs w (.returned (.slice a 0 c)) w' := by
  subst h
  exact ⟨a, c, rfl, ownA_nil _ _, hin, hb⟩
theorem ansL_row {xs : List Ac} {w w' : World} {t : TypeId} {v : Value} (h : w'.ownsRow w.heap.size t 5 v xs.length (pcA xs)) (hb : Below w.heap.size w w') : AnsL xs w (.returned v) w' := by
  obtain ⟨a, c, rfl, ho, hin⟩ := ownA_of_row h
  exact ⟨a, c, rfl, ho, hin, hb⟩
end Go.Proofs.YtddkmlkfphmdoaaDoor
