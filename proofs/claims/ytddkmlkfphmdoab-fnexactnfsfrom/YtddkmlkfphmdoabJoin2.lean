/- impl.join of one text and of two, over the block that the caller has just laid. -/
import Derived.Test.YtddkmlkfphmdoabJoin
namespace Go.Proofs.Ytddkmlkfphmdoab
open Go.RowKit
set_option linter.unusedVariables false
def pick2 (s t : ByteArray) (k : Nat) : ByteArray := match k with
  | 0 => s
  | _ => t
theorem cat2 (s t : ByteArray) : (⟨(catTo (pick2 s t) 2).toArray⟩ : ByteArray) = s ++ t := by
  apply ByteArray.ext
  simp [catTo, pick2]
theorem cat1 (s : ByteArray) : (⟨(catTo (fun _ => s) 1).toArray⟩ : ByteArray) = s := by
  apply ByteArray.ext
  simp [catTo]
theorem join_two (s t : ByteArray) (w : World) (h : s.size + t.size ≤ 1099511627776) :
    Calls Try.prog 25 #[.slice (some ⟨w.heap.size, 0, none⟩) 2 2] (w.alloc (.cells #[.string s, .string t] 9)) fun e w' => e = .returned (.string (s ++ t)) ∧ Below w.heap.size w w' := by
  refine (join_any (pick2 s t) w.heap.size 0 2 2 (w.alloc (.cells #[.string s, .string t] 9)) ?_ (by simp) (by decide) (by simp [totTo, pick2]; omega)).mono ?_
  · intro k hk
    match k, hk with
    | 0, _ => simp [pick2]
    | 1, _ => simp [pick2]
  · rintro e w' ⟨rfl, hb⟩
    rw [cat2]
    exact ⟨rfl, ((Below.refl _ _).alloc (Nat.le_refl _) _).trans (hb.mono (by simp))⟩
theorem join_one (s : ByteArray) (w : World) (h : s.size ≤ 1099511627776) :
    Calls Try.prog 25 #[.slice (some ⟨w.heap.size, 0, none⟩) 1 1] (w.alloc (.cells #[.string s] 9)) fun e w' => e = .returned (.string s) ∧ Below w.heap.size w w' := by
  refine (join_any (fun _ => s) w.heap.size 0 1 1 (w.alloc (.cells #[.string s] 9)) ?_ (by simp) (by decide) (by simp [totTo]; omega)).mono ?_
  · intro k hk
    match k, hk with
    | 0, _ => simp
  · rintro e w' ⟨rfl, hb⟩
    rw [cat1]
    exact ⟨rfl, ((Below.refl _ _).alloc (Nat.le_refl _) _).trans (hb.mono (by simp))⟩
end Go.Proofs.Ytddkmlkfphmdoab
