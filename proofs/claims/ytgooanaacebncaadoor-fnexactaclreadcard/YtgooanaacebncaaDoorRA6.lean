/- Laid together: SEnt, TlL. -/
import Derived.Test.YtgooanaacebncaaDoorRA5
/- An entry taken in by the specification: l05Entry. -/
namespace Go.Proofs.YtgooanaacebncaaDoor
open Go.RowKit Go.PlainAid Go.Deep
set_option linter.unusedVariables false
theorem bl_setL {B b o : Nat} {W w1 : World} {x : Value} (hb : Below B W w1) (h : B ≤ b) : Below B W (w1.setCell ⟨b, o, none⟩ x) := hb.setCell h _
/-- Seven cells that may be written. -/
structure W7 (w : World) (b : Nat) (v0 v1 v2 v3 v4 v5 v6 : Value) : Prop where
  lt : b < w.heap.size
  c0 : w.cell? ⟨b, 0, none⟩ = some v0
  c1 : w.cell? ⟨b, 1, none⟩ = some v1
  c2 : w.cell? ⟨b, 2, none⟩ = some v2
  c3 : w.cell? ⟨b, 3, none⟩ = some v3
  c4 : w.cell? ⟨b, 4, none⟩ = some v4
  c5 : w.cell? ⟨b, 5, none⟩ = some v5
  c6 : w.cell? ⟨b, 6, none⟩ = some v6
  z : ∀ o, w.frozen? ⟨b, o, none⟩ = false
theorem W7.keep {w w' : World} {b : Nat} {v0 v1 v2 v3 v4 v5 v6 : Value} (h : W7 w b v0 v1 v2 v3 v4 v5 v6) (hs : w.heap.size ≤ w'.heap.size) (hk : w'.heap[b]? = w.heap[b]?) : W7 w' b v0 v1 v2 v3 v4 v5 v6 := by
  have hc : ∀ o, w'.cell? ⟨b, o, none⟩ = w.cell? ⟨b, o, none⟩ := fun o => World.cell?_of_block (a := ⟨b, o, none⟩) hk
  exact ⟨Nat.lt_of_lt_of_le h.lt hs, (hc 0).trans h.c0, (hc 1).trans h.c1, (hc 2).trans h.c2, (hc 3).trans h.c3, (hc 4).trans h.c4, (hc 5).trans h.c5, (hc 6).trans h.c6, fun o => (World.frozen?_of_block (a := ⟨b, o, none⟩) hk).trans (h.z o)⟩
theorem W7.below {w w' : World} {b : Nat} {v0 v1 v2 v3 v4 v5 v6 : Value} (h : W7 w b v0 v1 v2 v3 v4 v5 v6) (hb : Below w.heap.size w w') : W7 w' b v0 v1 v2 v3 v4 v5 v6 :=
  h.keep hb.size (hb.block b h.lt)
theorem W7.other {w : World} {b b2 o : Nat} {v0 v1 v2 v3 v4 v5 v6 v : Value} (h : W7 w b v0 v1 v2 v3 v4 v5 v6) (hne : b2 ≠ b) : W7 (w.setCell ⟨b2, o, none⟩ v) b v0 v1 v2 v3 v4 v5 v6 :=
  h.keep (by simp) (Below.heap_setCell w ⟨b2, o, none⟩ v b (by show b ≠ b2; omega))
theorem w7_new (w : World) (v0 v1 v2 v3 v4 v5 v6 : Value) (t : TypeId) : W7 (w.alloc (.cells #[v0, v1, v2, v3, v4, v5, v6] t)) w.heap.size v0 v1 v2 v3 v4 v5 v6 := by
  have hb : (w.alloc (.cells #[v0, v1, v2, v3, v4, v5, v6] t)).heap[w.heap.size]? = some (.cells #[v0, v1, v2, v3, v4, v5, v6] t) := by
    rw [World.alloc]
    exact Array.getElem?_push_size
  refine ⟨by simp, ?_, ?_, ?_, ?_, ?_, ?_, ?_, fun o => ?_⟩
  · simp only [World.cell?, hb]; rfl
  · simp only [World.cell?, hb]; rfl
  · simp only [World.cell?, hb]; rfl
  · simp only [World.cell?, hb]; rfl
  · simp only [World.cell?, hb]; rfl
  · simp only [World.cell?, hb]; rfl
  · simp only [World.cell?, hb]; rfl
  · unfold World.frozen?
    simp only [hb]
    simp
theorem W7.set0 {w : World} {b : Nat} {v0 v1 v2 v3 v4 v5 v6 v : Value} (h : W7 w b v0 v1 v2 v3 v4 v5 v6) : W7 (w.setCell ⟨b, 0, none⟩ v) b v v1 v2 v3 v4 v5 v6 := by
  obtain ⟨hl, c0, c1, c2, c3, c4, c5, c6, hz⟩ := h
  refine ⟨by simpa using hl, ?_, ?_, ?_, ?_, ?_, ?_, ?_, fun o => by rw [World.frozen?_setCell]; exact hz o⟩ <;> simp [go_sem, *]
theorem W7.set1 {w : World} {b : Nat} {v0 v1 v2 v3 v4 v5 v6 v : Value} (h : W7 w b v0 v1 v2 v3 v4 v5 v6) : W7 (w.setCell ⟨b, 1, none⟩ v) b v0 v v2 v3 v4 v5 v6 := by
  obtain ⟨hl, c0, c1, c2, c3, c4, c5, c6, hz⟩ := h
  refine ⟨by simpa using hl, ?_, ?_, ?_, ?_, ?_, ?_, ?_, fun o => by rw [World.frozen?_setCell]; exact hz o⟩ <;> simp [go_sem, *]
theorem W7.set2 {w : World} {b : Nat} {v0 v1 v2 v3 v4 v5 v6 v : Value} (h : W7 w b v0 v1 v2 v3 v4 v5 v6) : W7 (w.setCell ⟨b, 2, none⟩ v) b v0 v1 v v3 v4 v5 v6 := by
  obtain ⟨hl, c0, c1, c2, c3, c4, c5, c6, hz⟩ := h
  refine ⟨by simpa using hl, ?_, ?_, ?_, ?_, ?_, ?_, ?_, fun o => by rw [World.frozen?_setCell]; exact hz o⟩ <;> simp [go_sem, *]
theorem W7.set3 {w : World} {b : Nat} {v0 v1 v2 v3 v4 v5 v6 v : Value} (h : W7 w b v0 v1 v2 v3 v4 v5 v6) : W7 (w.setCell ⟨b, 3, none⟩ v) b v0 v1 v2 v v4 v5 v6 := by
  obtain ⟨hl, c0, c1, c2, c3, c4, c5, c6, hz⟩ := h
  refine ⟨by simpa using hl, ?_, ?_, ?_, ?_, ?_, ?_, ?_, fun o => by rw [World.frozen?_setCell]; exact hz o⟩ <;> simp [go_sem, *]
theorem W7.set4 {w : World} {b : Nat} {v0 v1 v2 v3 v4 v5 v6 v : Value} (h : W7 w b v0 v1 v2 v3 v4 v5 v6) : W7 (w.setCell ⟨b, 4, none⟩ v) b v0 v1 v2 v3 v v5 v6 := by
  obtain ⟨hl, c0, c1, c2, c3, c4, c5, c6, hz⟩ := h
  refine ⟨by simpa using hl, ?_, ?_, ?_, ?_, ?_, ?_, ?_, fun o => by rw [World.frozen?_setCell]; exact hz o⟩ <;> simp [go_sem, *]
theorem W7.set5 {w : World} {b : Nat} {v0 v1 v2 v3 v4 v5 v6 v : Value} (h : W7 w b v0 v1 v2 v3 v4 v5 v6) : W7 (w.setCell ⟨b, 5, none⟩ v) b v0 v1 v2 v3 v4 v v6 := by
  obtain ⟨hl, c0, c1, c2, c3, c4, c5, c6, hz⟩ := h
  refine ⟨by simpa using hl, ?_, ?_, ?_, ?_, ?_, ?_, ?_, fun o => by rw [World.frozen?_setCell]; exact hz o⟩ <;> simp [go_sem, *]
theorem W7.set6 {w : World} {b : Nat} {v0 v1 v2 v3 v4 v5 v6 v : Value} (h : W7 w b v0 v1 v2 v3 v4 v5 v6) : W7 (w.setCell ⟨b, 6, none⟩ v) b v0 v1 v2 v3 v4 v5 v := by
  obtain ⟨hl, c0, c1, c2, c3, c4, c5, c6, hz⟩ := h
  refine ⟨by simpa using hl, ?_, ?_, ?_, ?_, ?_, ?_, ?_, fun o => by rw [World.frozen?_setCell]; exact hz o⟩ <;> simp [go_sem, *]
/-- A list of names, as a value. -/
def alV (a : Al) (aU : Option Addr) (cU : Nat) (aG : Option Addr) (cG : Nat) : Value := .agg #[.int .i64 a.u, .int .i64 a.g, .int .i64 a.o, .slice aU a.us.length cU, .slice aG a.gs.length cG, .bool a.r, .int .i64 a.m]
/-- What was there is as it was, but for the rows. -/
def ButR (aU aG : Option Addr) (w w' : World) : Prop := w.heap.size ≤ w'.heap.size ∧ ∀ b, b < w.heap.size → (∀ A, aU = some A → b ≠ A.block) → (∀ A, aG = some A → b ≠ A.block) → w'.heap[b]? = w.heap[b]?
/-- A row lies where it lay, or in new memory. -/
def FromR (a a' : Option Addr) (w : World) : Prop := ∀ A, a' = some A → (∃ A2, a = some A2 ∧ A.block = A2.block) ∨ w.heap.size ≤ A.block
theorem FromR.refl (a : Option Addr) (w : World) : FromR a a w := fun A e => .inl ⟨A, e, rfl⟩
theorem ButR.of_below {aU aG : Option Addr} {w w' : World} (h : Below w.heap.size w w') : ButR aU aG w w' := ⟨h.size, fun b hlt _ _ => h.block b hlt⟩
theorem ButR.trans {aU aG : Option Addr} {w w1 w2 : World} (h : ButR aU aG w w1) (h2 : ButR aU aG w1 w2) : ButR aU aG w w2 :=
  ⟨Nat.le_trans h.1 h2.1, fun b hlt n1 n2 => (h2.2 b (Nat.lt_of_lt_of_le hlt h.1) n1 n2).trans (h.2 b hlt n1 n2)⟩
theorem ButR.set {aU aG : Option Addr} {w w' : World} {b o : Nat} {v : Value} (h : ButR aU aG w w') (hb : w.heap.size ≤ b) : ButR aU aG w (w'.setCell ⟨b, o, none⟩ v) :=
  ⟨by simpa using h.1, fun k hlt n1 n2 => (Below.heap_setCell w' ⟨b, o, none⟩ v k (by show k ≠ b; omega)).trans (h.2 k hlt n1 n2)⟩
/-- What an entry taken in ends in. -/
structure EntW (w0 w w' : World) (a b : Al) (aU : Option Addr) (cU : Nat) (aG : Option Addr) (cG : Nat) (aU' : Option Addr) (cU' : Nat) (aG' : Option Addr) (cG' : Nat) : Prop where
  r : R2 w0 w' b aU' cU' aG' cG'
  but : ButR aU aG w w'
  fu : FromR aU aU' w
  fg : FromR aG aG' w
theorem EntW.set {w0 w w' : World} {a b : Al} {aU aG aU' aG' : Option Addr} {cU cG cU' cG' k o : Nat} {v : Value} (h : EntW w0 w w' a b aU cU aG cG aU' cU' aG' cG') (hk : w.heap.size ≤ k) (h0 : w0.heap.size ≤ k) (h1 : ∀ A, aU' = some A → k ≠ A.block) (h2 : ∀ A, aG' = some A → k ≠ A.block) : EntW w0 w (w'.setCell ⟨k, o, none⟩ v) a b aU cU aG cG aU' cU' aG' cG' :=
  ⟨h.r.set h0 h1 h2, h.but.set hk, h.fu, h.fg⟩
theorem tlL_ne {c : ByteArray} {l : List UInt8} (h : ¬ c.data.toList = l) : (c.toList == l) = false := by
  rw [ByteArray.toList_eq]
  exact beq_eq_false_iff_ne.2 h
theorem tlL_eq {c : ByteArray} {l : List UInt8} (h : c.data.toList = l) : (c.toList == l) = true := by
  rw [ByteArray.toList_eq, h]
  simp
theorem tlL_empty {c : ByteArray} (h : c.data.toList = []) : c.toList.isEmpty = true := by
  rw [ByteArray.toList_eq, h]
  rfl
theorem tlL_full {c : ByteArray} (h : ¬ c.data.toList = []) : c.toList.isEmpty = false := by
  rw [ByteArray.toList_eq, List.isEmpty_eq_false_iff]
  exact h
theorem R2.low {w0 w : World} {a : Al} {aU aG : Option Addr} {cU cG : Nat} (h : R2 w0 w a aU cU aG cG) : (∀ A, aU = some A → A.block < w.heap.size) ∧ (∀ A, aG = some A → A.block < w.heap.size) :=
  ⟨fun A e => (h.ou.lt A.block (by rw [e]; rfl)).2, fun A e => (h.og.lt A.block (by rw [e]; rfl)).2⟩
end Go.Proofs.YtgooanaacebncaaDoor
