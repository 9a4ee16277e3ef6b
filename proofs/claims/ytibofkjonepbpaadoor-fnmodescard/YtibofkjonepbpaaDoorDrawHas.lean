/- The draw of two sets. -/
import Derived.Test.YtibofkjonepbpaaDoorDrawModes
import Derived.Test.YtibofkjonepbpaaDoorRegInv
import Derived.BigRegion
namespace Go.Proofs.YtibofkjonepbpaaDoor
open Go.RowKit
set_option linter.unusedVariables false
/-- A block that holds so many numbers. -/
def LitN (n : Nat) (w : World) (A p : Nat) : Prop := A < w.heap.size ∧ A ≠ p ∧ ∀ k, k < n → ∃ z : Int, w.cell? ⟨A, k, none⟩ = some (.int .i64 z)
/-- A cell that holds a number. -/
def Lit1 (w : World) (A k : Nat) (z : Int) (p : Nat) : Prop := A < w.heap.size ∧ A ≠ p ∧ w.cell? ⟨A, k, none⟩ = some (.int .i64 z)
theorem LitN.own {n : Nat} {w w' : World} {A p : Nat} (h : LitN n w A p) (ho : Own p w w') : LitN n w' A p :=
  ⟨Nat.lt_of_lt_of_le h.1 ho.size, h.2.1, fun k hk => by
    obtain ⟨z, hz⟩ := h.2.2 k hk
    exact ⟨z, (ho.cell h.1 h.2.1).trans hz⟩⟩
theorem Lit1.own {w w' : World} {A k : Nat} {z : Int} {p : Nat} (h : Lit1 w A k z p) (ho : Own p w w') : Lit1 w' A k z p :=
  ⟨Nat.lt_of_lt_of_le h.1 ho.size, h.2.1, (ho.cell h.1 h.2.1).trans h.2.2⟩
theorem lit3_new (w : World) (p : Nat) (hp : p < w.heap.size) : LitN 3 (w.alloc (.cells #[.int .i64 (-1), .int .i64 65535, .int .i64 65536] 2)) w.heap.size p := ⟨by simp, by omega, fun k hk => ⟨pk3 k, pk3_cell w k hk⟩⟩
theorem lit4_new (w : World) (p : Nat) (hp : p < w.heap.size) : LitN 4 (w.alloc (.cells #[.int .i64 (-1), .int .i64 65535, .int .i64 65536, .int .i64 0] 2)) w.heap.size p := ⟨by simp, by omega, fun k hk => ⟨pk4 k, pk4_cell w k hk⟩⟩
/-- What holds ahead of each operation. -/
structure HasInv (a : Option Addr) (len cap : Nat) (g : Nat → Int) (p : Nat) (w0 : World) (l : Array Bool) (w : World) (x2 x3 x10 x11 x12 x13 x14 x15 x16 x17 x18 x19 : Value) : Prop where
  sz : l.size = 12
  src : Src a len cap g p w
  own : Own p w0 w
  f0 : l.getD 0 false = true → ∃ A, x10 = .slice (some ⟨A, 0, none⟩) 3 3 ∧ LitN 3 w A p
  f1 : l.getD 1 false = true → x11 = .pointer (some ⟨p, 0, none⟩)
  f2 : l.getD 2 false = true → ∃ k : Nat, k < 3 ∧ x12 = .int .i64 k
  f3 : l.getD 3 false = true → ∃ A k z, x13 = .pointer (some ⟨A, k, none⟩) ∧ Lit1 w A k z p
  f4 : l.getD 4 false = true → ∃ z, x14 = .int .i64 z
  f5 : l.getD 5 false = true → ∃ A, x15 = .slice (some ⟨A, 0, none⟩) 4 4 ∧ LitN 4 w A p
  f6 : l.getD 6 false = true → x16 = .pointer (some ⟨p, 0, none⟩)
  f7 : l.getD 7 false = true → ∃ k : Nat, k < 4 ∧ x17 = .int .i64 k
  f8 : l.getD 8 false = true → ∃ A k z, x18 = .pointer (some ⟨A, k, none⟩) ∧ Lit1 w A k z p
  f9 : l.getD 9 false = true → ∃ z, x19 = .int .i64 z
  f10 : l.getD 10 false = true → ∃ z, x2 = .int .i64 z
  f11 : l.getD 11 false = true → ∃ z, x3 = .int .i64 z
theorem HasInv.step {a : Option Addr} {len cap : Nat} {g : Nat → Int} {p : Nat} {w0 : World} {l : Array Bool} {w w' : World} {x2 x3 x10 x11 x12 x13 x14 x15 x16 x17 x18 x19 : Value} (h : HasInv a len cap g p w0 l w x2 x3 x10 x11 x12 x13 x14 x15 x16 x17 x18 x19) (hs : Src a len cap g p w') (ho : Own p w w') : HasInv a len cap g p w0 l w' x2 x3 x10 x11 x12 x13 x14 x15 x16 x17 x18 x19 where
  sz := h.sz
  src := hs
  own := h.own.trans ho
  f0 := fun hl => by obtain ⟨A, e, hA⟩ := h.f0 hl; exact ⟨A, e, hA.own ho⟩
  f1 := h.f1
  f2 := h.f2
  f3 := fun hl => by obtain ⟨A, k, z, e, hA⟩ := h.f3 hl; exact ⟨A, k, z, e, hA.own ho⟩
  f4 := h.f4
  f5 := fun hl => by obtain ⟨A, e, hA⟩ := h.f5 hl; exact ⟨A, e, hA.own ho⟩
  f6 := h.f6
  f7 := h.f7
  f8 := fun hl => by obtain ⟨A, k, z, e, hA⟩ := h.f8 hl; exact ⟨A, k, z, e, hA.own ho⟩
  f9 := h.f9
  f10 := h.f10
  f11 := h.f11
theorem HasInv.set0 {a : Option Addr} {len cap : Nat} {g : Nat → Int} {p : Nat} {w0 : World} {l : Array Bool} {w : World} {x2 x3 x10 x11 x12 x13 x14 x15 x16 x17 x18 x19 : Value} (h : HasInv a len cap g p w0 l w x2 x3 x10 x11 x12 x13 x14 x15 x16 x17 x18 x19) (y : Value) (hy : ∃ A, y = .slice (some ⟨A, 0, none⟩) 3 3 ∧ LitN 3 w A p) : HasInv a len cap g p w0 (l.setIfInBounds 0 true) w x2 x3 y x11 x12 x13 x14 x15 x16 x17 x18 x19 where
  sz := by rw [Array.size_setIfInBounds]; exact h.sz
  src := h.src
  own := h.own
  f0 := fun hl => hy
  f1 := fun hl => h.f1 (getD_keep (by decide) hl)
  f2 := fun hl => h.f2 (getD_keep (by decide) hl)
  f3 := fun hl => h.f3 (getD_keep (by decide) hl)
  f4 := fun hl => h.f4 (getD_keep (by decide) hl)
  f5 := fun hl => h.f5 (getD_keep (by decide) hl)
  f6 := fun hl => h.f6 (getD_keep (by decide) hl)
  f7 := fun hl => h.f7 (getD_keep (by decide) hl)
  f8 := fun hl => h.f8 (getD_keep (by decide) hl)
  f9 := fun hl => h.f9 (getD_keep (by decide) hl)
  f10 := fun hl => h.f10 (getD_keep (by decide) hl)
  f11 := fun hl => h.f11 (getD_keep (by decide) hl)
theorem HasInv.set1 {a : Option Addr} {len cap : Nat} {g : Nat → Int} {p : Nat} {w0 : World} {l : Array Bool} {w : World} {x2 x3 x10 x11 x12 x13 x14 x15 x16 x17 x18 x19 : Value} (h : HasInv a len cap g p w0 l w x2 x3 x10 x11 x12 x13 x14 x15 x16 x17 x18 x19) (y : Value) (hy : y = .pointer (some ⟨p, 0, none⟩)) : HasInv a len cap g p w0 (l.setIfInBounds 1 true) w x2 x3 x10 y x12 x13 x14 x15 x16 x17 x18 x19 where
  sz := by rw [Array.size_setIfInBounds]; exact h.sz
  src := h.src
  own := h.own
  f0 := fun hl => h.f0 (getD_keep (by decide) hl)
  f1 := fun hl => hy
  f2 := fun hl => h.f2 (getD_keep (by decide) hl)
  f3 := fun hl => h.f3 (getD_keep (by decide) hl)
  f4 := fun hl => h.f4 (getD_keep (by decide) hl)
  f5 := fun hl => h.f5 (getD_keep (by decide) hl)
  f6 := fun hl => h.f6 (getD_keep (by decide) hl)
  f7 := fun hl => h.f7 (getD_keep (by decide) hl)
  f8 := fun hl => h.f8 (getD_keep (by decide) hl)
  f9 := fun hl => h.f9 (getD_keep (by decide) hl)
  f10 := fun hl => h.f10 (getD_keep (by decide) hl)
  f11 := fun hl => h.f11 (getD_keep (by decide) hl)
theorem HasInv.set2 {a : Option Addr} {len cap : Nat} {g : Nat → Int} {p : Nat} {w0 : World} {l : Array Bool} {w : World} {x2 x3 x10 x11 x12 x13 x14 x15 x16 x17 x18 x19 : Value} (h : HasInv a len cap g p w0 l w x2 x3 x10 x11 x12 x13 x14 x15 x16 x17 x18 x19) (y : Value) (hy : ∃ k : Nat, k < 3 ∧ y = .int .i64 k) : HasInv a len cap g p w0 (l.setIfInBounds 2 true) w x2 x3 x10 x11 y x13 x14 x15 x16 x17 x18 x19 where
  sz := by rw [Array.size_setIfInBounds]; exact h.sz
  src := h.src
  own := h.own
  f0 := fun hl => h.f0 (getD_keep (by decide) hl)
  f1 := fun hl => h.f1 (getD_keep (by decide) hl)
  f2 := fun hl => hy
  f3 := fun hl => h.f3 (getD_keep (by decide) hl)
  f4 := fun hl => h.f4 (getD_keep (by decide) hl)
  f5 := fun hl => h.f5 (getD_keep (by decide) hl)
  f6 := fun hl => h.f6 (getD_keep (by decide) hl)
  f7 := fun hl => h.f7 (getD_keep (by decide) hl)
  f8 := fun hl => h.f8 (getD_keep (by decide) hl)
  f9 := fun hl => h.f9 (getD_keep (by decide) hl)
  f10 := fun hl => h.f10 (getD_keep (by decide) hl)
  f11 := fun hl => h.f11 (getD_keep (by decide) hl)
theorem HasInv.set3 {a : Option Addr} {len cap : Nat} {g : Nat → Int} {p : Nat} {w0 : World} {l : Array Bool} {w : World} {x2 x3 x10 x11 x12 x13 x14 x15 x16 x17 x18 x19 : Value} (h : HasInv a len cap g p w0 l w x2 x3 x10 x11 x12 x13 x14 x15 x16 x17 x18 x19) (y : Value) (hy : ∃ A k z, y = .pointer (some ⟨A, k, none⟩) ∧ Lit1 w A k z p) : HasInv a len cap g p w0 (l.setIfInBounds 3 true) w x2 x3 x10 x11 x12 y x14 x15 x16 x17 x18 x19 where
  sz := by rw [Array.size_setIfInBounds]; exact h.sz
  src := h.src
  own := h.own
  f0 := fun hl => h.f0 (getD_keep (by decide) hl)
  f1 := fun hl => h.f1 (getD_keep (by decide) hl)
  f2 := fun hl => h.f2 (getD_keep (by decide) hl)
  f3 := fun hl => hy
  f4 := fun hl => h.f4 (getD_keep (by decide) hl)
  f5 := fun hl => h.f5 (getD_keep (by decide) hl)
  f6 := fun hl => h.f6 (getD_keep (by decide) hl)
  f7 := fun hl => h.f7 (getD_keep (by decide) hl)
  f8 := fun hl => h.f8 (getD_keep (by decide) hl)
  f9 := fun hl => h.f9 (getD_keep (by decide) hl)
  f10 := fun hl => h.f10 (getD_keep (by decide) hl)
  f11 := fun hl => h.f11 (getD_keep (by decide) hl)
theorem HasInv.set4 {a : Option Addr} {len cap : Nat} {g : Nat → Int} {p : Nat} {w0 : World} {l : Array Bool} {w : World} {x2 x3 x10 x11 x12 x13 x14 x15 x16 x17 x18 x19 : Value} (h : HasInv a len cap g p w0 l w x2 x3 x10 x11 x12 x13 x14 x15 x16 x17 x18 x19) (y : Value) (hy : ∃ z, y = .int .i64 z) : HasInv a len cap g p w0 (l.setIfInBounds 4 true) w x2 x3 x10 x11 x12 x13 y x15 x16 x17 x18 x19 where
  sz := by rw [Array.size_setIfInBounds]; exact h.sz
  src := h.src
  own := h.own
  f0 := fun hl => h.f0 (getD_keep (by decide) hl)
  f1 := fun hl => h.f1 (getD_keep (by decide) hl)
  f2 := fun hl => h.f2 (getD_keep (by decide) hl)
  f3 := fun hl => h.f3 (getD_keep (by decide) hl)
  f4 := fun hl => hy
  f5 := fun hl => h.f5 (getD_keep (by decide) hl)
  f6 := fun hl => h.f6 (getD_keep (by decide) hl)
  f7 := fun hl => h.f7 (getD_keep (by decide) hl)
  f8 := fun hl => h.f8 (getD_keep (by decide) hl)
  f9 := fun hl => h.f9 (getD_keep (by decide) hl)
  f10 := fun hl => h.f10 (getD_keep (by decide) hl)
  f11 := fun hl => h.f11 (getD_keep (by decide) hl)
theorem HasInv.set5 {a : Option Addr} {len cap : Nat} {g : Nat → Int} {p : Nat} {w0 : World} {l : Array Bool} {w : World} {x2 x3 x10 x11 x12 x13 x14 x15 x16 x17 x18 x19 : Value} (h : HasInv a len cap g p w0 l w x2 x3 x10 x11 x12 x13 x14 x15 x16 x17 x18 x19) (y : Value) (hy : ∃ A, y = .slice (some ⟨A, 0, none⟩) 4 4 ∧ LitN 4 w A p) : HasInv a len cap g p w0 (l.setIfInBounds 5 true) w x2 x3 x10 x11 x12 x13 x14 y x16 x17 x18 x19 where
  sz := by rw [Array.size_setIfInBounds]; exact h.sz
  src := h.src
  own := h.own
  f0 := fun hl => h.f0 (getD_keep (by decide) hl)
  f1 := fun hl => h.f1 (getD_keep (by decide) hl)
  f2 := fun hl => h.f2 (getD_keep (by decide) hl)
  f3 := fun hl => h.f3 (getD_keep (by decide) hl)
  f4 := fun hl => h.f4 (getD_keep (by decide) hl)
  f5 := fun hl => hy
  f6 := fun hl => h.f6 (getD_keep (by decide) hl)
  f7 := fun hl => h.f7 (getD_keep (by decide) hl)
  f8 := fun hl => h.f8 (getD_keep (by decide) hl)
  f9 := fun hl => h.f9 (getD_keep (by decide) hl)
  f10 := fun hl => h.f10 (getD_keep (by decide) hl)
  f11 := fun hl => h.f11 (getD_keep (by decide) hl)
theorem HasInv.set6 {a : Option Addr} {len cap : Nat} {g : Nat → Int} {p : Nat} {w0 : World} {l : Array Bool} {w : World} {x2 x3 x10 x11 x12 x13 x14 x15 x16 x17 x18 x19 : Value} (h : HasInv a len cap g p w0 l w x2 x3 x10 x11 x12 x13 x14 x15 x16 x17 x18 x19) (y : Value) (hy : y = .pointer (some ⟨p, 0, none⟩)) : HasInv a len cap g p w0 (l.setIfInBounds 6 true) w x2 x3 x10 x11 x12 x13 x14 x15 y x17 x18 x19 where
  sz := by rw [Array.size_setIfInBounds]; exact h.sz
  src := h.src
  own := h.own
  f0 := fun hl => h.f0 (getD_keep (by decide) hl)
  f1 := fun hl => h.f1 (getD_keep (by decide) hl)
  f2 := fun hl => h.f2 (getD_keep (by decide) hl)
  f3 := fun hl => h.f3 (getD_keep (by decide) hl)
  f4 := fun hl => h.f4 (getD_keep (by decide) hl)
  f5 := fun hl => h.f5 (getD_keep (by decide) hl)
  f6 := fun hl => hy
  f7 := fun hl => h.f7 (getD_keep (by decide) hl)
  f8 := fun hl => h.f8 (getD_keep (by decide) hl)
  f9 := fun hl => h.f9 (getD_keep (by decide) hl)
  f10 := fun hl => h.f10 (getD_keep (by decide) hl)
  f11 := fun hl => h.f11 (getD_keep (by decide) hl)
theorem HasInv.set7 {a : Option Addr} {len cap : Nat} {g : Nat → Int} {p : Nat} {w0 : World} {l : Array Bool} {w : World} {x2 x3 x10 x11 x12 x13 x14 x15 x16 x17 x18 x19 : Value} (h : HasInv a len cap g p w0 l w x2 x3 x10 x11 x12 x13 x14 x15 x16 x17 x18 x19) (y : Value) (hy : ∃ k : Nat, k < 4 ∧ y = .int .i64 k) : HasInv a len cap g p w0 (l.setIfInBounds 7 true) w x2 x3 x10 x11 x12 x13 x14 x15 x16 y x18 x19 where
  sz := by rw [Array.size_setIfInBounds]; exact h.sz
  src := h.src
  own := h.own
  f0 := fun hl => h.f0 (getD_keep (by decide) hl)
  f1 := fun hl => h.f1 (getD_keep (by decide) hl)
  f2 := fun hl => h.f2 (getD_keep (by decide) hl)
  f3 := fun hl => h.f3 (getD_keep (by decide) hl)
  f4 := fun hl => h.f4 (getD_keep (by decide) hl)
  f5 := fun hl => h.f5 (getD_keep (by decide) hl)
  f6 := fun hl => h.f6 (getD_keep (by decide) hl)
  f7 := fun hl => hy
  f8 := fun hl => h.f8 (getD_keep (by decide) hl)
  f9 := fun hl => h.f9 (getD_keep (by decide) hl)
  f10 := fun hl => h.f10 (getD_keep (by decide) hl)
  f11 := fun hl => h.f11 (getD_keep (by decide) hl)
theorem HasInv.set8 {a : Option Addr} {len cap : Nat} {g : Nat → Int} {p : Nat} {w0 : World} {l : Array Bool} {w : World} {x2 x3 x10 x11 x12 x13 x14 x15 x16 x17 x18 x19 : Value} (h : HasInv a len cap g p w0 l w x2 x3 x10 x11 x12 x13 x14 x15 x16 x17 x18 x19) (y : Value) (hy : ∃ A k z, y = .pointer (some ⟨A, k, none⟩) ∧ Lit1 w A k z p) : HasInv a len cap g p w0 (l.setIfInBounds 8 true) w x2 x3 x10 x11 x12 x13 x14 x15 x16 x17 y x19 where
  sz := by rw [Array.size_setIfInBounds]; exact h.sz
  src := h.src
  own := h.own
  f0 := fun hl => h.f0 (getD_keep (by decide) hl)
  f1 := fun hl => h.f1 (getD_keep (by decide) hl)
  f2 := fun hl => h.f2 (getD_keep (by decide) hl)
  f3 := fun hl => h.f3 (getD_keep (by decide) hl)
  f4 := fun hl => h.f4 (getD_keep (by decide) hl)
  f5 := fun hl => h.f5 (getD_keep (by decide) hl)
  f6 := fun hl => h.f6 (getD_keep (by decide) hl)
  f7 := fun hl => h.f7 (getD_keep (by decide) hl)
  f8 := fun hl => hy
  f9 := fun hl => h.f9 (getD_keep (by decide) hl)
  f10 := fun hl => h.f10 (getD_keep (by decide) hl)
  f11 := fun hl => h.f11 (getD_keep (by decide) hl)
theorem HasInv.set9 {a : Option Addr} {len cap : Nat} {g : Nat → Int} {p : Nat} {w0 : World} {l : Array Bool} {w : World} {x2 x3 x10 x11 x12 x13 x14 x15 x16 x17 x18 x19 : Value} (h : HasInv a len cap g p w0 l w x2 x3 x10 x11 x12 x13 x14 x15 x16 x17 x18 x19) (y : Value) (hy : ∃ z, y = .int .i64 z) : HasInv a len cap g p w0 (l.setIfInBounds 9 true) w x2 x3 x10 x11 x12 x13 x14 x15 x16 x17 x18 y where
  sz := by rw [Array.size_setIfInBounds]; exact h.sz
  src := h.src
  own := h.own
  f0 := fun hl => h.f0 (getD_keep (by decide) hl)
  f1 := fun hl => h.f1 (getD_keep (by decide) hl)
  f2 := fun hl => h.f2 (getD_keep (by decide) hl)
  f3 := fun hl => h.f3 (getD_keep (by decide) hl)
  f4 := fun hl => h.f4 (getD_keep (by decide) hl)
  f5 := fun hl => h.f5 (getD_keep (by decide) hl)
  f6 := fun hl => h.f6 (getD_keep (by decide) hl)
  f7 := fun hl => h.f7 (getD_keep (by decide) hl)
  f8 := fun hl => h.f8 (getD_keep (by decide) hl)
  f9 := fun hl => hy
  f10 := fun hl => h.f10 (getD_keep (by decide) hl)
  f11 := fun hl => h.f11 (getD_keep (by decide) hl)
theorem HasInv.set10 {a : Option Addr} {len cap : Nat} {g : Nat → Int} {p : Nat} {w0 : World} {l : Array Bool} {w : World} {x2 x3 x10 x11 x12 x13 x14 x15 x16 x17 x18 x19 : Value} (h : HasInv a len cap g p w0 l w x2 x3 x10 x11 x12 x13 x14 x15 x16 x17 x18 x19) (y : Value) (hy : ∃ z, y = .int .i64 z) : HasInv a len cap g p w0 (l.setIfInBounds 10 true) w y x3 x10 x11 x12 x13 x14 x15 x16 x17 x18 x19 where
  sz := by rw [Array.size_setIfInBounds]; exact h.sz
  src := h.src
  own := h.own
  f0 := fun hl => h.f0 (getD_keep (by decide) hl)
  f1 := fun hl => h.f1 (getD_keep (by decide) hl)
  f2 := fun hl => h.f2 (getD_keep (by decide) hl)
  f3 := fun hl => h.f3 (getD_keep (by decide) hl)
  f4 := fun hl => h.f4 (getD_keep (by decide) hl)
  f5 := fun hl => h.f5 (getD_keep (by decide) hl)
  f6 := fun hl => h.f6 (getD_keep (by decide) hl)
  f7 := fun hl => h.f7 (getD_keep (by decide) hl)
  f8 := fun hl => h.f8 (getD_keep (by decide) hl)
  f9 := fun hl => h.f9 (getD_keep (by decide) hl)
  f10 := fun hl => hy
  f11 := fun hl => h.f11 (getD_keep (by decide) hl)
theorem HasInv.set11 {a : Option Addr} {len cap : Nat} {g : Nat → Int} {p : Nat} {w0 : World} {l : Array Bool} {w : World} {x2 x3 x10 x11 x12 x13 x14 x15 x16 x17 x18 x19 : Value} (h : HasInv a len cap g p w0 l w x2 x3 x10 x11 x12 x13 x14 x15 x16 x17 x18 x19) (y : Value) (hy : ∃ z, y = .int .i64 z) : HasInv a len cap g p w0 (l.setIfInBounds 11 true) w x2 y x10 x11 x12 x13 x14 x15 x16 x17 x18 x19 where
  sz := by rw [Array.size_setIfInBounds]; exact h.sz
  src := h.src
  own := h.own
  f0 := fun hl => h.f0 (getD_keep (by decide) hl)
  f1 := fun hl => h.f1 (getD_keep (by decide) hl)
  f2 := fun hl => h.f2 (getD_keep (by decide) hl)
  f3 := fun hl => h.f3 (getD_keep (by decide) hl)
  f4 := fun hl => h.f4 (getD_keep (by decide) hl)
  f5 := fun hl => h.f5 (getD_keep (by decide) hl)
  f6 := fun hl => h.f6 (getD_keep (by decide) hl)
  f7 := fun hl => h.f7 (getD_keep (by decide) hl)
  f8 := fun hl => h.f8 (getD_keep (by decide) hl)
  f9 := fun hl => h.f9 (getD_keep (by decide) hl)
  f10 := fun hl => h.f10 (getD_keep (by decide) hl)
  f11 := fun hl => hy
theorem listed_of_deps {md : Region.Mode} {ops : Array Oper} {l : Array Bool} {i : Nat} {o : Oper} (hn : Region.ready md ops l = []) (hsz : l.size = ops.size) (ho : ops[i]? = some o) (hd : ∀ e ∈ o.after, Region.binds md e = true → l.getD e.on false = true) : l.getD i false = true := by
  have hi : i < ops.size := (Array.getElem?_eq_some_iff.1 ho).1
  have hil : i < l.size := by omega
  cases e : l.getD i true
  · have hm : i ∈ Region.ready md ops l := by
      unfold Region.ready
      refine List.mem_filter.2 ⟨List.mem_range.2 hi, ?_⟩
      rw [e, ho]
      simp only [Bool.not_false, Bool.true_and, Option.map_some, Option.getD_some]
      refine Array.all_eq_true'.2 fun x hx => ?_
      cases hb : Region.binds md x
      · rfl
      · rw [hd x hx hb]; rfl
    rw [hn] at hm
    cases hm
  · simpa [Array.getD, hil] using e
set_option maxRecDepth 100000 in
set_option maxHeartbeats 40000000 in
theorem dDrawHas_any (a : Option Addr) (len cap : Nat) (g : Nat → Int) (w : World) (hc : Code a len g w.heap.size w) :
    Calls Tryd.prog 24 #[.slice a len cap] w fun e w' => ∃ x y : Int, e = .returned (.tuple #[.int .i64 x, .int .i64 y]) ∧ Below w.heap.size w w' := by
  have HC : Hid (Code a len g w.heap.size w) := hc
  clear hc
  go_enter Tryd.func24, Tryd.ntmps24
  go_wp2_with fail
  refine (source_any a len cap g _ HC.out).mono ?_
  rintro e w1 ⟨rfl, hs1, hb1⟩
  go_wp2_with fail
  refine (one_any a len cap g _ _ (by decide) _ hs1).mono ?_
  rintro e w2 ⟨r, rfl, hs2, ho2⟩
  have hb2 : Below w.heap.size w w2 := ho2.below hb1 (Nat.le_refl _) hb1.size
  clear hs1 ho2 hb1 HC
  have hpz := hs2.pos
  cases r
  · go_wp2_with fail
    refine (n_any a len cap g _ _ (by decide) _ hs2).mono ?_
    rintro e w3 ⟨x, rfl, x1, x2, hs3, ho3⟩
    have hb3 : Below w.heap.size w w3 := ho3.below hb2 (Nat.le_refl _) hb2.size
    have hx : x ≤ 255 := by omega
    clear hs2 ho3 hb2 x2
    go_wp2_with fail
    refine (one_any a len cap g _ _ (by decide) _ hs3).mono ?_
    rintro e w4 ⟨r, rfl, hs4, ho4⟩
    have hb4 : Below w.heap.size w w4 := ho4.below hb3 (Nat.le_refl _) hb3.size
    clear hs3 ho4 hb3
    cases r
    · go_wp2_with fail
      refine (n_any a len cap g _ _ (by decide) _ hs4).mono ?_
      rintro e w5 ⟨y, rfl, y1, y2, hs5, ho5⟩
      have HB5 : Hid (Below w.heap.size w w5) := ho5.below hb4 (Nat.le_refl _) hb4.size
      clear hs4 ho5 hb4 y2 hs5
      go_wp2
      go_ret2
      exact ⟨x, y, rfl, HB5.out⟩
    · go_wp2_with fail
      refine (n_any a len cap g _ _ (by decide) _ hs4).mono ?_
      rintro e w5 ⟨y, rfl, y1, y2, hs5, ho5⟩
      have HB5 : Hid (Below w.heap.size w w5) := ho5.below hb4 (Nat.le_refl _) hb4.size
      have hy : y ≤ 255 := by omega
      clear hs4 ho5 hb4 y2 hs5
      go_wp2_with fail
      refine (sBoth_any x y x1 (by omega) y1 (by omega) _).mono ?_
      rintro e w6 ⟨rfl, rfl⟩
      go_wp2
      go_ret2
      exact ⟨x, _, rfl, HB5.out⟩
  · have HS2 : Hid (Src a len cap g w.heap.size w2) := hs2
    have HB2 : Hid (Below w.heap.size w w2) := hb2
    clear hs2 hb2
    go_wp2_with fail
    generalize hpp : w.heap.size = p at HS2 hpz ⊢
    refine wp_region_inv (by kernel_rfl) (fun l act w' => ∃ x2 x3 x10 x11 x12 x13 x14 x15 x16 x17 x18 x19, act = { tmps := #[.slice a len cap, undef, x2, x3, .pointer (some ⟨p, 0, none⟩), undef, .slice a len cap, .pointer (some ⟨p, 0, none⟩), .pointer (some ⟨p, 0, none⟩), .bool true, x10, x11, x12, x13, x14, x15, x16, x17, x18, x19, undef, undef, undef, undef, undef, undef, undef, undef, undef, undef, undef, undef], defers := [] } ∧ HasInv a len cap g p w2 l w' x2 x3 x10 x11 x12 x13 x14 x15 x16 x17 x18 x19) ?_ ?_ ?_
    · refine ⟨_, _, _, _, _, _, _, _, _, _, _, _, rfl, ?_⟩
      exact { sz := rfl, src := HS2.out.kept (fun _ _ => rfl), own := (Own.refl p w2).drew, f0 := fun h => absurd h (by decide), f1 := fun h => absurd h (by decide), f2 := fun h => absurd h (by decide), f3 := fun h => absurd h (by decide), f4 := fun h => absurd h (by decide), f5 := fun h => absurd h (by decide), f6 := fun h => absurd h (by decide), f7 := fun h => absurd h (by decide), f8 := fun h => absurd h (by decide), f9 := fun h => absurd h (by decide), f10 := fun h => absurd h (by decide), f11 := fun h => absurd h (by decide) }
    · intro l act w' hI i hi
      obtain ⟨x2, x3, x10, x11, x12, x13, x14, x15, x16, x17, x18, x19, rfl, hI⟩ := hI
      have hi12 : i < 12 := (ready_mem hi).1
      have hpw : p < w'.heap.size := Nat.lt_of_lt_of_le hpz hI.own.size
      match i, hi12 with
      | 0, _ =>
        refine wpOp_of_list rfl ?_
        go_wp2
        exact ⟨_, _, _, _, _, _, _, _, _, _, _, _, rfl, (hI.step (src_alloc hI.src _) ((Own.refl p w').alloc _)).set0 _ ⟨w'.heap.size, rfl, lit3_new w' p hpw⟩⟩
      | 1, _ =>
        refine wpOp_of_list rfl ?_
        go_wp2
        exact ⟨_, _, _, _, _, _, _, _, _, _, _, _, rfl, hI.set1 _ rfl⟩
      | 2, _ =>
        have d1 := ready_dep hi rfl ⟨1, .data⟩ (by simp) rfl
        refine wpOp_of_list rfl ?_
        obtain rfl := hI.f1 d1
        go_wp2_with fail
        refine (n_any a len cap g _ _ (by decide) _ hI.src).mono ?_
        rintro e wn ⟨r, rfl, r1, r2, hsn, hon⟩
        obtain ⟨k, rfl⟩ := Int.eq_ofNat_of_zero_le r1
        go_wp2
        exact ⟨_, _, _, _, _, _, _, _, _, _, _, _, rfl, (hI.step hsn hon).set2 _ ⟨k, by omega, rfl⟩⟩
      | 3, _ =>
        have d0 := ready_dep hi rfl ⟨0, .data⟩ (by simp) rfl
        have d2 := ready_dep hi rfl ⟨2, .data⟩ (by simp) rfl
        refine wpOp_of_list rfl ?_
        obtain ⟨A, rfl, hA⟩ := hI.f0 d0
        obtain ⟨k, hk, rfl⟩ := hI.f2 d2
        have hk' : (k : Int) < 3 := by omega
        obtain ⟨z, hz⟩ := hA.2.2 k hk
        go_wp2
        exact ⟨_, _, _, _, _, _, _, _, _, _, _, _, rfl, hI.set3 _ ⟨A, k, z, by simp, hA.1, hA.2.1, hz⟩⟩
      | 4, _ =>
        have d3 := ready_dep hi rfl ⟨3, .data⟩ (by simp) rfl
        refine wpOp_of_list rfl ?_
        obtain ⟨A, k, z, rfl, hA⟩ := hI.f3 d3
        have hz := hA.2.2
        go_wp2
        exact ⟨_, _, _, _, _, _, _, _, _, _, _, _, rfl, hI.set4 _ ⟨z, rfl⟩⟩
      | 5, _ =>
        refine wpOp_of_list rfl ?_
        go_wp2
        exact ⟨_, _, _, _, _, _, _, _, _, _, _, _, rfl, (hI.step (src_alloc hI.src _) ((Own.refl p w').alloc _)).set5 _ ⟨w'.heap.size, rfl, lit4_new w' p hpw⟩⟩
      | 6, _ =>
        refine wpOp_of_list rfl ?_
        go_wp2
        exact ⟨_, _, _, _, _, _, _, _, _, _, _, _, rfl, hI.set6 _ rfl⟩
      | 7, _ =>
        have d6 := ready_dep hi rfl ⟨6, .data⟩ (by simp) rfl
        refine wpOp_of_list rfl ?_
        obtain rfl := hI.f6 d6
        go_wp2_with fail
        refine (n_any a len cap g _ _ (by decide) _ hI.src).mono ?_
        rintro e wn ⟨r, rfl, r1, r2, hsn, hon⟩
        obtain ⟨k, rfl⟩ := Int.eq_ofNat_of_zero_le r1
        go_wp2
        exact ⟨_, _, _, _, _, _, _, _, _, _, _, _, rfl, (hI.step hsn hon).set7 _ ⟨k, by omega, rfl⟩⟩
      | 8, _ =>
        have d5 := ready_dep hi rfl ⟨5, .data⟩ (by simp) rfl
        have d7 := ready_dep hi rfl ⟨7, .data⟩ (by simp) rfl
        refine wpOp_of_list rfl ?_
        obtain ⟨A, rfl, hA⟩ := hI.f5 d5
        obtain ⟨k, hk, rfl⟩ := hI.f7 d7
        have hk' : (k : Int) < 4 := by omega
        obtain ⟨z, hz⟩ := hA.2.2 k hk
        go_wp2
        exact ⟨_, _, _, _, _, _, _, _, _, _, _, _, rfl, hI.set8 _ ⟨A, k, z, by simp, hA.1, hA.2.1, hz⟩⟩
      | 9, _ =>
        have d8 := ready_dep hi rfl ⟨8, .data⟩ (by simp) rfl
        refine wpOp_of_list rfl ?_
        obtain ⟨A, k, z, rfl, hA⟩ := hI.f8 d8
        have hz := hA.2.2
        go_wp2
        exact ⟨_, _, _, _, _, _, _, _, _, _, _, _, rfl, hI.set9 _ ⟨z, rfl⟩⟩
      | 10, _ =>
        have d4 := ready_dep hi rfl ⟨4, .data⟩ (by simp) rfl
        refine wpOp_of_list rfl ?_
        obtain ⟨z, rfl⟩ := hI.f4 d4
        go_wp2
        exact ⟨_, _, _, _, _, _, _, _, _, _, _, _, rfl, hI.set10 _ ⟨z, rfl⟩⟩
      | 11, _ =>
        have d9 := ready_dep hi rfl ⟨9, .data⟩ (by simp) rfl
        refine wpOp_of_list rfl ?_
        obtain ⟨z, rfl⟩ := hI.f9 d9
        go_wp2
        exact ⟨_, _, _, _, _, _, _, _, _, _, _, _, rfl, hI.set11 _ ⟨z, rfl⟩⟩
    · intro l act w' hI hn
      obtain ⟨x2, x3, x10, x11, x12, x13, x14, x15, x16, x17, x18, x19, rfl, hI⟩ := hI
      have d0 : l.getD 0 false = true := listed_of_deps hn hI.sz rfl (fun e he hb => by simp at he)
      have d1 : l.getD 1 false = true := listed_of_deps hn hI.sz rfl (fun e he hb => by simp at he)
      have d2 : l.getD 2 false = true := listed_of_deps hn hI.sz rfl (fun e he hb => by
        simp at he
        rcases he with rfl
        all_goals first | exact d0 | exact d1 | exact absurd hb (by decide))
      have d3 : l.getD 3 false = true := listed_of_deps hn hI.sz rfl (fun e he hb => by
        simp at he
        rcases he with rfl | rfl
        all_goals first | exact d0 | exact d1 | exact d2 | exact absurd hb (by decide))
      have d4 : l.getD 4 false = true := listed_of_deps hn hI.sz rfl (fun e he hb => by
        simp at he
        rcases he with rfl
        all_goals first | exact d0 | exact d1 | exact d2 | exact d3 | exact absurd hb (by decide))
      have d5 : l.getD 5 false = true := listed_of_deps hn hI.sz rfl (fun e he hb => by
        simp at he
        rcases he with rfl
        all_goals first | exact d0 | exact d1 | exact d2 | exact d3 | exact d4 | exact absurd hb (by decide))
      have d6 : l.getD 6 false = true := listed_of_deps hn hI.sz rfl (fun e he hb => by simp at he)
      have d7 : l.getD 7 false = true := listed_of_deps hn hI.sz rfl (fun e he hb => by
        simp at he
        rcases he with rfl | rfl
        all_goals first | exact d0 | exact d1 | exact d2 | exact d3 | exact d4 | exact d5 | exact d6 | exact absurd hb (by decide))
      have d8 : l.getD 8 false = true := listed_of_deps hn hI.sz rfl (fun e he hb => by
        simp at he
        rcases he with rfl | rfl | rfl
        all_goals first | exact d0 | exact d1 | exact d2 | exact d3 | exact d4 | exact d5 | exact d6 | exact d7 | exact absurd hb (by decide))
      have d9 : l.getD 9 false = true := listed_of_deps hn hI.sz rfl (fun e he hb => by
        simp at he
        rcases he with rfl | rfl
        all_goals first | exact d0 | exact d1 | exact d2 | exact d3 | exact d4 | exact d5 | exact d6 | exact d7 | exact d8 | exact absurd hb (by decide))
      have d10 : l.getD 10 false = true := listed_of_deps hn hI.sz rfl (fun e he hb => by
        simp at he
        rcases he with rfl | rfl | rfl | rfl | rfl | rfl | rfl | rfl | rfl | rfl | rfl | rfl
        all_goals first | exact d0 | exact d1 | exact d2 | exact d3 | exact d4 | exact d5 | exact d6 | exact d7 | exact d8 | exact d9 | exact absurd hb (by decide))
      have d11 : l.getD 11 false = true := listed_of_deps hn hI.sz rfl (fun e he hb => by
        simp at he
        rcases he with rfl | rfl | rfl | rfl | rfl | rfl | rfl | rfl | rfl | rfl | rfl | rfl | rfl
        all_goals first | exact d0 | exact d1 | exact d2 | exact d3 | exact d4 | exact d5 | exact d6 | exact d7 | exact d8 | exact d9 | exact d10 | exact absurd hb (by decide))
      obtain ⟨z, rfl⟩ := hI.f10 d10
      obtain ⟨y, rfl⟩ := hI.f11 d11
      have HB : Hid (Below w.heap.size w w') := hI.own.below HB2.out (by omega) HB2.out.size
      clear hI d0 d1 d2 d3 d4 d5 d6 d7 d8 d9 d10 d11 hn
      go_wp2
      go_ret2
      exact ⟨z, y, rfl, HB.out⟩
end Go.Proofs.YtibofkjonepbpaaDoor
