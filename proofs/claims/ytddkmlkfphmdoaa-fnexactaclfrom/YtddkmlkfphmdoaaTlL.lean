/- A text held against one; where two rows lie. -/
import Derived.Test.YtddkmlkfphmdoaaSEnt
namespace Go.Proofs.Ytddkmlkfphmdoaa
open Go.RowKit Go.PlainAid Go.Deep
set_option linter.unusedVariables false
theorem tlL_ne {c : ByteArray} {l : List UInt8} (h : ¬ c.data.toList = l) : (c.toList == l) = false := by
  rw [ByteArray.toList_eq]
  exact beq_eq_false_iff_ne.2 h
theorem tlL_eq {c : ByteArray} {l : List UInt8} (h : c.data.toList = l) : (c.toList == l) = true := by
  rw [ByteArray.toList_eq, h]
  simp
theorem tlL_empty {c : ByteArray} (h : c.data.toList = []) : c.toList.isEmpty = true := by
  rw [ByteArray.toList_eq, h]
  rfl
theorem tlL_full {c : ByteArray} (h : ¬ c.data.toList = []) : c.toList.isEmpty = false := by
  rw [ByteArray.toList_eq, List.isEmpty_eq_false_iff]
  exact h
theorem R2.low {w0 w : World} {a : Al} {aU aG : Option Addr} {cU cG : Nat} (h : R2 w0 w a aU cU aG cG) : (∀ A, aU = some A → A.block < w.heap.size) ∧ (∀ A, aG = some A → A.block < w.heap.size) :=
  ⟨fun A e => (h.ou.lt A.block (by rw [e]; rfl)).2, fun A e => (h.og.lt A.block (by rw [e]; rfl)).2⟩
end Go.Proofs.Ytddkmlkfphmdoaa
