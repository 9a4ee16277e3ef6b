/- Laid together: TlL, W8T, AhdT. -/
import Derived.Test.YtgooanaacebncaaGreatDoorAT22
import Derived.Deep.RegionLaw
/- A text held against one; where two rows lie. -/
namespace Go.Proofs.YtgooanaacebncaaGreatDoor
open Go.RowKit Go.PlainAid Go.Deep
set_option linter.unusedVariables false
theorem tlL_ne {c : ByteArray} {l : List UInt8} (h : ¬ c.data.toList = l) : (c.toList == l) = false := by
  rw [ByteArray.toList_eq]
  exact beq_eq_false_iff_ne.2 h
theorem tlL_eq {c : ByteArray} {l : List UInt8} (h : c.data.toList = l) : (c.toList == l) = true := by
  rw [ByteArray.toList_eq, h]
  simp
theorem tlL_empty {c : ByteArray} (h : c.data.toList = []) : c.toList.isEmpty = true := by
  rw [ByteArray.toList_eq, h]
  rfl
theorem tlL_full {c : ByteArray} (h : ¬ c.data.toList = []) : c.toList.isEmpty = false := by
  rw [ByteArray.toList_eq, List.isEmpty_eq_false_iff]
  exact h
theorem R2.low {w0 w : World} {a : Al} {aU aG : Option Addr} {cU cG : Nat} (h : R2 w0 w a aU cU aG cG) : (∀ A, aU = some A → A.block < w.heap.size) ∧ (∀ A, aG = some A → A.block < w.heap.size) :=
  ⟨fun A e => (h.ou.lt A.block (by rw [e]; rfl)).2, fun A e => (h.og.lt A.block (by rw [e]; rfl)).2⟩
/-- Eight cells that may be written: an empty answer. -/
structure W8 (w : World) (b : Nat) : Prop where
  lt : b < w.heap.size
  c0 : w.cell? ⟨b, 0, none⟩ = some (.int .i64 0)
  c1 : w.cell? ⟨b, 1, none⟩ = some (.int .i64 0)
  c2 : w.cell? ⟨b, 2, none⟩ = some (.int .i64 0)
  c3 : w.cell? ⟨b, 3, none⟩ = some (.slice none 0 0)
  c4 : w.cell? ⟨b, 4, none⟩ = some (.slice none 0 0)
  c5 : w.cell? ⟨b, 5, none⟩ = some (.bool false)
  c6 : w.cell? ⟨b, 6, none⟩ = some (.int .i64 0)
  c7 : w.cell? ⟨b, 7, none⟩ = some (.int .i64 0)
  z : ∀ o, w.frozen? ⟨b, o, none⟩ = false
theorem W8.below {w w' : World} {b : Nat} (h : W8 w b) (hb : Below w.heap.size w w') : W8 w' b := by
  have hc := fun o => hb.cell (p := ⟨b, o, none⟩) h.lt
  exact ⟨Nat.lt_of_lt_of_le h.lt hb.size, (hc 0).trans h.c0, (hc 1).trans h.c1, (hc 2).trans h.c2, (hc 3).trans h.c3, (hc 4).trans h.c4, (hc 5).trans h.c5, (hc 6).trans h.c6, (hc 7).trans h.c7, fun o => (hb.frozen (p := ⟨b, o, none⟩) h.lt).trans (h.z o)⟩
theorem w8_new (w : World) (t : TypeId) : W8 (w.alloc (.cells #[.int .i64 0, .int .i64 0, .int .i64 0, .slice none 0 0, .slice none 0 0, .bool false, .int .i64 0, .int .i64 0] t)) w.heap.size := by
  have hb : (w.alloc (.cells #[.int .i64 0, .int .i64 0, .int .i64 0, .slice none 0 0, .slice none 0 0, .bool false, .int .i64 0, .int .i64 0] t)).heap[w.heap.size]? = some (.cells #[.int .i64 0, .int .i64 0, .int .i64 0, .slice none 0 0, .slice none 0 0, .bool false, .int .i64 0, .int .i64 0] t) := by
    rw [World.alloc]
    exact Array.getElem?_push_size
  refine ⟨by simp, ?_, ?_, ?_, ?_, ?_, ?_, ?_, ?_, fun o => ?_⟩
  · simp only [World.cell?, hb]; rfl
  · simp only [World.cell?, hb]; rfl
  · simp only [World.cell?, hb]; rfl
  · simp only [World.cell?, hb]; rfl
  · simp only [World.cell?, hb]; rfl
  · simp only [World.cell?, hb]; rfl
  · simp only [World.cell?, hb]; rfl
  · simp only [World.cell?, hb]; rfl
  · unfold World.frozen?
    simp only [hb]
    simp
theorem R2.drew {w0 w : World} {a : Al} {aU aG : Option Addr} {cU cG : Nat} (h : R2 w0 w a aU cU aG cG) : R2 w0 w.drew a aU cU aG cG := ⟨h.ou, h.og, h.ne, bdC h.bel⟩
theorem R2.new {w0 w : World} {a : Al} {aU aG : Option Addr} {cU cG : Nat} (h : R2 w0 w a aU cU aG cG) : New w0 w aU a.us.length a.us aG a.gs.length a.gs := by
  obtain ⟨a1, c1, e1, o1, i1⟩ := own_of_row h.ou
  obtain ⟨a2, c2, e2, o2, i2⟩ := own_of_row h.og
  cases e1
  cases e2
  exact ⟨o1, o2, i1, i2, h.ne, h.bel⟩
theorem W7.drew {w : World} {b : Nat} {v0 v1 v2 v3 v4 v5 v6 : Value} (h : W7 w b v0 v1 v2 v3 v4 v5 v6) : W7 w.drew b v0 v1 v2 v3 v4 v5 v6 := h.keep (Nat.le_refl _) rfl
theorem W7.all {w : World} {b : Nat} {v0 v1 v2 v3 v4 v5 v6 : Value} (h : W7 w b v0 v1 v2 v3 v4 v5 v6) (u0 u1 u2 u3 u4 u5 u6 : Value) : W7 (((((((w.setCell ⟨b, 0, none⟩ u0).setCell ⟨b, 1, none⟩ u1).setCell ⟨b, 2, none⟩ u2).setCell ⟨b, 3, none⟩ u3).setCell ⟨b, 4, none⟩ u4).setCell ⟨b, 5, none⟩ u5).setCell ⟨b, 6, none⟩ u6) b u0 u1 u2 u3 u4 u5 u6 :=
  ((((((h.set0).set1).set2).set3).set4).set5).set6
theorem R2.all {w0 w : World} {a : Al} {aU aG : Option Addr} {cU cG b : Nat} (h : R2 w0 w a aU cU aG cG) (hb : w0.heap.size ≤ b) (h1 : ∀ A, aU = some A → b ≠ A.block) (h2 : ∀ A, aG = some A → b ≠ A.block) (u0 u1 u2 u3 u4 u5 u6 : Value) : R2 w0 (((((((w.setCell ⟨b, 0, none⟩ u0).setCell ⟨b, 1, none⟩ u1).setCell ⟨b, 2, none⟩ u2).setCell ⟨b, 3, none⟩ u3).setCell ⟨b, 4, none⟩ u4).setCell ⟨b, 5, none⟩ u5).setCell ⟨b, 6, none⟩ u6) a aU cU aG cG :=
  ((((((h.set hb h1 h2).set hb h1 h2).set hb h1 h2).set hb h1 h2).set hb h1 h2).set hb h1 h2).set hb h1 h2
/-- The list of names lies in a block of its own. -/
def AtP (w : World) (P : Nat) (a : Al) (aU : Option Addr) (cU : Nat) (aG : Option Addr) (cG : Nat) : Prop := W7 w P (.int .i64 a.u) (.int .i64 a.g) (.int .i64 a.o) (.slice aU a.us.length cU) (.slice aG a.gs.length cG) (.bool a.r) (.int .i64 a.m)
/-- What was there is as it was, but for the list's block and its rows. -/
def ButP (P : Nat) (aU aG : Option Addr) (w w' : World) : Prop := w.heap.size ≤ w'.heap.size ∧ ∀ b, b < w.heap.size → b ≠ P → (∀ A, aU = some A → b ≠ A.block) → (∀ A, aG = some A → b ≠ A.block) → w'.heap[b]? = w.heap[b]?
theorem ButP.refl (P : Nat) (aU aG : Option Addr) (w : World) : ButP P aU aG w w := ⟨Nat.le_refl _, fun _ _ _ _ _ => rfl⟩
theorem ButP.of_below {P : Nat} {aU aG : Option Addr} {w w' : World} (h : Below w.heap.size w w') : ButP P aU aG w w' := ⟨h.size, fun b hb _ _ _ => h.block b hb⟩
theorem ButP.pre {P : Nat} {aU aG : Option Addr} {w w1 w' : World} (h : ButP P aU aG w1 w') (hb : Below w.heap.size w w1) : ButP P aU aG w w' := ⟨Nat.le_trans hb.size h.1, fun b hlt n0 n1 n2 => (h.2 b (Nat.lt_of_lt_of_le hlt hb.size) n0 n1 n2).trans (hb.block b hlt)⟩
theorem ButP.set {P : Nat} {aU aG : Option Addr} {w w' : World} {o : Nat} {v : Value} (h : ButP P aU aG w w') : ButP P aU aG w (w'.setCell ⟨P, o, none⟩ v) := ⟨by simpa using h.1, fun b hb n0 n1 n2 => (Below.heap_setCell w' ⟨P, o, none⟩ v b (by show b ≠ P; exact n0)).trans (h.2 b hb n0 n1 n2)⟩
/-- What an entry taken in by the program leaves. -/
structure EntI (w0 w w' : World) (P : Nat) (b : Al) (aU aG aU' : Option Addr) (cU' : Nat) (aG' : Option Addr) (cG' : Nat) : Prop where
  r : R2 w0 w' b aU' cU' aG' cG'
  p : AtP w' P b aU' cU' aG' cG'
  but : ButP P aU aG w w'
  fu : FromR aU aU' w
  fg : FromR aG aG' w
/-- The list of names ahead of an entry. -/
structure Ahead (w0 w : World) (P : Nat) (a : Al) (aU : Option Addr) (cU : Nat) (aG : Option Addr) (cG : Nat) : Prop where
  r : R2 w0 w a aU cU aG cG
  p : AtP w P a aU cU aG cG
  b : w0.heap.size ≤ P
  nu : ∀ A, aU = some A → P ≠ A.block
  ng : ∀ A, aG = some A → P ≠ A.block
theorem Ahead.below {w0 w w' : World} {P : Nat} {a : Al} {aU aG : Option Addr} {cU cG : Nat} (h : Ahead w0 w P a aU cU aG cG) (hb : Below w.heap.size w w') : Ahead w0 w' P a aU cU aG cG := ⟨h.r.below hb, W7.below h.p hb, h.b, h.nu, h.ng⟩
theorem Ahead.drew {w0 w : World} {P : Nat} {a : Al} {aU aG : Option Addr} {cU cG : Nat} (h : Ahead w0 w P a aU cU aG cG) : Ahead w0 w.drew P a aU cU aG cG := ⟨h.r.drew, W7.drew h.p, h.b, h.nu, h.ng⟩
end Go.Proofs.YtgooanaacebncaaGreatDoor
