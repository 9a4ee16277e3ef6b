/- Laid together: Texts, JoinL. -/
import Derived.Test.YtgooanaacebncaaDoorRC6
import Derived.Test.YtgooanaacebncaaDoorRC7
/- Rows of texts that are owned; append of one text; the builtin append by what it runs to. -/
namespace Go.Proofs.YtgooanaacebncaaDoor
open Go.RowKit Go.PlainAid Go.Deep
set_option linter.unusedVariables false
/-- The first k texts, a comma between each two. -/
def jl (f : Nat → ByteArray) : Nat → List UInt8
  | 0 => []
  | k + 1 => jl f k ++ (if k = 0 then [] else [44]) ++ (f k).data.toList
def jlT (f : Nat → ByteArray) (k : Nat) : ByteArray := ⟨(jl f k).toArray⟩
theorem jl_len {f : Nat → ByteArray} {n m : Nat} (h : ∀ i, i < n → (f i).size ≤ m) : ∀ k, k ≤ n → (jl f k).length ≤ (m + 1) * k := by
  intro k
  induction k with
  | zero => intro _; simp [jl]
  | succ k ih =>
    intro hk
    have h1 := ih (by omega)
    have h2 := h k (by omega)
    rw [Lib.size_eq] at h2
    have h3 : (if k = 0 then ([] : List UInt8) else [44]).length ≤ 1 := by split <;> simp
    have h4 : (m + 1) * (k + 1) = (m + 1) * k + (m + 1) := by rw [Nat.mul_add, Nat.mul_one]
    simp only [jl, List.length_append]
    omega
theorem jlT_size {f : Nat → ByteArray} {n m : Nat} (h : ∀ i, i < n → (f i).size ≤ m) {k : Nat} (hk : k ≤ n) : (jlT f k).size ≤ (m + 1) * k := by
  have := jl_len h k hk
  simpa [jlT, ByteArray.size] using this
theorem jlT_first (f : Nat → ByteArray) : jlT f 0 ++ f 0 = jlT f 1 := by
  apply ByteArray.ext
  simp [ByteArray.data_append, jlT, jl]
theorem jlT_next (f : Nat → ByteArray) {k : Nat} (h : ¬ k = 0) : jlT f k ++ ⟨#[44]⟩ ++ f k = jlT f (k + 1) := by
  apply ByteArray.ext
  apply Array.toList_inj.1
  simp [ByteArray.data_append, jlT, jl, h]
end Go.Proofs.YtgooanaacebncaaDoor
