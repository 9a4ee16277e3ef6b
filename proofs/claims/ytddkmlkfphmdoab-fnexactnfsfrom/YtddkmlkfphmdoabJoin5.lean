/- Five texts joined. -/
import Derived.Test.YtddkmlkfphmdoabJoin2
import Derived.Test.YtddkmlkfphmdoabBox7
namespace Go.Proofs.Ytddkmlkfphmdoab
open Go.RowKit Go.PlainAid
set_option linter.unusedVariables false
def pick5 (a b c d e : ByteArray) : Nat → ByteArray := fun i => if i = 0 then a else if i = 1 then b else if i = 2 then c else if i = 3 then d else e
theorem cat5 (a b c d e : ByteArray) : (⟨(catTo (pick5 a b c d e) 5).toArray⟩ : ByteArray) = a ++ b ++ c ++ d ++ e := by
  apply ByteArray.ext
  apply Array.toList_inj.1
  simp [ByteArray.data_append, catTo, pick5]
theorem tot5 (a b c d e : ByteArray) : totTo (pick5 a b c d e) 5 = a.size + b.size + c.size + d.size + e.size := by
  simp [totTo, pick5]
/-- impl.join of five texts that were just laid in a row. -/
theorem join_five (a b c d e : ByteArray) (w : World) (h : a.size + b.size + c.size + d.size + e.size ≤ 1000000) (cap : Nat) :
    Calls Try.prog 25 #[.slice (some ⟨w.heap.size, 0, none⟩) 5 cap] (w.alloc (.cells #[.string a, .string b, .string c, .string d, .string e] 9)) fun e' w' => e' = .returned (.string (a ++ b ++ c ++ d ++ e)) ∧ Below w.heap.size w w' := by
  have hb : (w.alloc (.cells #[.string a, .string b, .string c, .string d, .string e] 9)).heap[w.heap.size]? = some (.cells #[.string a, .string b, .string c, .string d, .string e] 9) := by
    rw [World.alloc]
    exact Array.getElem?_push_size
  have hc : ∀ k, k < 5 → (w.alloc (.cells #[.string a, .string b, .string c, .string d, .string e] 9)).cell? ⟨w.heap.size, 0 + k, none⟩ = some (.string (pick5 a b c d e k)) := by
    intro k hk
    simp only [World.cell?, hb, Nat.zero_add]
    match k, hk with
    | 0, _ => rfl
    | 1, _ => rfl
    | 2, _ => rfl
    | 3, _ => rfl
    | 4, _ => rfl
  refine (join_any (pick5 a b c d e) w.heap.size 0 5 cap _ hc (by simp) (by omega) (by rw [tot5]; omega)).mono ?_
  rintro e' w' ⟨rfl, hbl⟩
  exact ⟨by rw [cat5], Below.on (bel_alloc _ _) hbl⟩
end Go.Proofs.Ytddkmlkfphmdoab
