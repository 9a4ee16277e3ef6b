/- Laid together: TxR, TxX. -/
import Derived.Test.YtgahphiabajokaaDW2
/- Rows of texts that are owned; append of one text. -/
namespace Go.Proofs.Ytgahphiabajokaa
open Go.RowKit Go.PlainAid Go.Deep
set_option linter.unusedVariables false

/-- Texts as values. -/
def tv (l : List ByteArray) : List Value := l.map Value.string
end Go.Proofs.Ytgahphiabajokaa
/- append of one text onto an owned row: where the row lies then, and that no other block is changed. -/
namespace Go.Proofs.Ytgahphiabajokaa
open Go.RowKit Go.PlainAid Go.Deep
set_option linter.unusedVariables false
/-- A row of texts as it lies. -/
def RowS (w : World) (a : Option Addr) (l : List ByteArray) : Prop := 0 < l.length → ∃ b, a = some ⟨b, 0, none⟩ ∧ b < w.heap.size ∧ ∀ (j : Nat) x, l[j]? = some x → w.cell? ⟨b, 0 + j, none⟩ = some (.string x)
theorem RowS.below {w w' : World} {a : Option Addr} {l : List ByteArray} (h : RowS w a l) (hb : Below w.heap.size w w') : RowS w' a l := by
  intro hl
  obtain ⟨b, ha, hlt, hc⟩ := h hl
  exact ⟨b, ha, Nat.lt_of_lt_of_le hlt hb.size, fun j x hj => (hb.cell (p := ⟨b, 0 + j, none⟩) hlt).trans (hc j x hj)⟩
theorem RowS.heap {w w' : World} {a : Option Addr} {l : List ByteArray} (h : RowS w a l) (hs : w.heap.size ≤ w'.heap.size) (hb : ∀ b, a = some ⟨b, 0, none⟩ → b < w.heap.size → w'.heap[b]? = w.heap[b]?) : RowS w' a l := by
  intro hl
  obtain ⟨b, ha, hlt, hc⟩ := h hl
  exact ⟨b, ha, Nat.lt_of_lt_of_le hlt hs, fun j x hj => (World.cell?_of_block (a := ⟨b, 0 + j, none⟩) (hb b ha hlt)).trans (hc j x hj)⟩
/-- The list's block is none of the row's. -/
def Apart (v : Value) (a : Option Addr) : Prop := ∀ b, a = some ⟨b, 0, none⟩ → v.ownBlock ≠ some b
end Go.Proofs.Ytgahphiabajokaa
