/- A list of names in a block of its own, ahead of an entry. -/
import Derived.Test.YtddkmlkfphmdoaaW8T
namespace Go.Proofs.Ytddkmlkfphmdoaa
open Go.RowKit Go.PlainAid Go.Deep
set_option linter.unusedVariables false
/-- The list of names lies in a block of its own. -/
def AtP (w : World) (P : Nat) (a : Al) (aU : Option Addr) (cU : Nat) (aG : Option Addr) (cG : Nat) : Prop := W7 w P (.int .i64 a.u) (.int .i64 a.g) (.int .i64 a.o) (.slice aU a.us.length cU) (.slice aG a.gs.length cG) (.bool a.r) (.int .i64 a.m)
/-- What was there is as it was, but for the list's block and its rows. -/
def ButP (P : Nat) (aU aG : Option Addr) (w w' : World) : Prop := w.heap.size ≤ w'.heap.size ∧ ∀ b, b < w.heap.size → b ≠ P → (∀ A, aU = some A → b ≠ A.block) → (∀ A, aG = some A → b ≠ A.block) → w'.heap[b]? = w.heap[b]?
theorem ButP.refl (P : Nat) (aU aG : Option Addr) (w : World) : ButP P aU aG w w := ⟨Nat.le_refl _, fun _ _ _ _ _ => rfl⟩
theorem ButP.of_below {P : Nat} {aU aG : Option Addr} {w w' : World} (h : Below w.heap.size w w') : ButP P aU aG w w' := ⟨h.size, fun b hb _ _ _ => h.block b hb⟩
theorem ButP.pre {P : Nat} {aU aG : Option Addr} {w w1 w' : World} (h : ButP P aU aG w1 w') (hb : Below w.heap.size w w1) : ButP P aU aG w w' := ⟨Nat.le_trans hb.size h.1, fun b hlt n0 n1 n2 => (h.2 b (Nat.lt_of_lt_of_le hlt hb.size) n0 n1 n2).trans (hb.block b hlt)⟩
theorem ButP.set {P : Nat} {aU aG : Option Addr} {w w' : World} {o : Nat} {v : Value} (h : ButP P aU aG w w') : ButP P aU aG w (w'.setCell ⟨P, o, none⟩ v) := ⟨by simpa using h.1, fun b hb n0 n1 n2 => (Below.heap_setCell w' ⟨P, o, none⟩ v b (by show b ≠ P; exact n0)).trans (h.2 b hb n0 n1 n2)⟩
/-- What an entry taken in by the program leaves. -/
structure EntI (w0 w w' : World) (P : Nat) (b : Al) (aU aG aU' : Option Addr) (cU' : Nat) (aG' : Option Addr) (cG' : Nat) : Prop where
  r : R2 w0 w' b aU' cU' aG' cG'
  p : AtP w' P b aU' cU' aG' cG'
  but : ButP P aU aG w w'
  fu : FromR aU aU' w
  fg : FromR aG aG' w
/-- The list of names ahead of an entry. -/
structure Ahead (w0 w : World) (P : Nat) (a : Al) (aU : Option Addr) (cU : Nat) (aG : Option Addr) (cG : Nat) : Prop where
  r : R2 w0 w a aU cU aG cG
  p : AtP w P a aU cU aG cG
  b : w0.heap.size ≤ P
  nu : ∀ A, aU = some A → P ≠ A.block
  ng : ∀ A, aG = some A → P ≠ A.block
theorem Ahead.below {w0 w w' : World} {P : Nat} {a : Al} {aU aG : Option Addr} {cU cG : Nat} (h : Ahead w0 w P a aU cU aG cG) (hb : Below w.heap.size w w') : Ahead w0 w' P a aU cU aG cG := ⟨h.r.below hb, W7.below h.p hb, h.b, h.nu, h.ng⟩
theorem Ahead.drew {w0 w : World} {P : Nat} {a : Al} {aU aG : Option Addr} {cU cG : Nat} (h : Ahead w0 w P a aU cU aG cG) : Ahead w0 w.drew P a aU cU aG cG := ⟨h.r.drew, W7.drew h.p, h.b, h.nu, h.ng⟩
end Go.Proofs.Ytddkmlkfphmdoaa
