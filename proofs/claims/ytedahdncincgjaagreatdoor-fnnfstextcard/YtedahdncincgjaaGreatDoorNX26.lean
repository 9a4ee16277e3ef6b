/- Laid together: CredMath, DrawCred, DrawWho0, Groups. -/
import Derived.Test.YtedahdncincgjaaGreatDoorNX3
import Derived.Test.YtedahdncincgjaaGreatDoorNX2
import Derived.Laws.AppendOwn
import Derived.OwnWalk
import Derived.Deep.OwnRows
import Derived.Deep.RegionLaw
import Derived.Deep.DeepCutAuto
import Derived.Deep.QuietTactic
import Derived.Handy
/- A list of numbers that lies in a world; rising ids; who asks, right or not. Nothing here names a program. -/
namespace Go.Proofs.YtedahdncincgjaaGreatDoor
open Go.RowKit Go.PlainAid
set_option linter.unusedVariables false
/-- What a world holds of a list of numbers. -/
def Ints (a : Option Addr) (len : Nat) (f : Nat → Int) (w : World) : Prop := 0 < len → ∃ b off, a = some ⟨b, off, none⟩ ∧ b < w.heap.size ∧ ∀ i, i < len → w.cell? ⟨b, off + i, none⟩ = some (.int .i64 (f i))
theorem Ints.below {a : Option Addr} {len : Nat} {f : Nat → Int} {w w' : World} (h : Ints a len f w) (hb : Below w.heap.size w w') : Ints a len f w' := by
  intro hl
  obtain ⟨b, off, ha, hlt, hc⟩ := h hl
  exact ⟨b, off, ha, Nat.lt_of_lt_of_le hlt hb.size, fun i hi => (hb.cell (p := ⟨b, off + i, none⟩) hlt).trans (hc i hi)⟩
end Go.Proofs.YtedahdncincgjaaGreatDoor
/- The draw of a Cred: some Cred, its groups a row of its own, nine at most. -/
namespace Go.Proofs.YtedahdncincgjaaGreatDoor
open Go.RowKit Go.PlainAid Go.Deep
set_option linter.unusedVariables false
/-- Numbers as values. -/
def ivD (l : List Int) : List Value := l.map fun n => Value.int .i64 n
theorem row_keepD {w w' : World} {B : Nat} {t : TypeId} {v : Value} {n : Nat} {xs : List Value} (h : w.ownsRow B t 1 v n xs) (hb : ∀ k, B ≤ k → k < w.heap.size → w'.heap[k]? = w.heap[k]?) : w'.ownsRow B t 1 v n xs := by
  obtain ⟨h0, ⟨rfl, hn⟩ | ⟨g, cap, cur, rfl, hB, hg, hc, hm, hs, ht⟩⟩ := h
  · exact ⟨h0, .inl ⟨rfl, hn⟩⟩
  · have hlt : g < w.heap.size := (Array.getElem?_eq_some_iff.1 hg).1
    exact ⟨h0, .inr ⟨g, cap, cur, rfl, hB, (hb g hB hlt).trans hg, hc, hm, hs, ht⟩⟩
/-- Four cells of a block that may be written. -/
structure Fr4 (w : World) (B : Nat) (v0 v1 v2 v3 : Value) : Prop where
  lt : B < w.heap.size
  c0 : w.cell? ⟨B, 0, none⟩ = some v0
  c1 : w.cell? ⟨B, 1, none⟩ = some v1
  c2 : w.cell? ⟨B, 2, none⟩ = some v2
  c3 : w.cell? ⟨B, 3, none⟩ = some v3
  fz : ∀ o, w.frozen? ⟨B, o, none⟩ = false
theorem Fr4.keep {w w' : World} {B : Nat} {v0 v1 v2 v3 : Value} (h : Fr4 w B v0 v1 v2 v3) (hs : w.heap.size ≤ w'.heap.size) (hb : w'.heap[B]? = w.heap[B]?) : Fr4 w' B v0 v1 v2 v3 := by
  have hc : ∀ o, w'.cell? ⟨B, o, none⟩ = w.cell? ⟨B, o, none⟩ := fun o => World.cell?_of_block hb
  exact ⟨Nat.lt_of_lt_of_le h.lt hs, (hc 0).trans h.c0, (hc 1).trans h.c1, (hc 2).trans h.c2, (hc 3).trans h.c3, fun o => (World.frozen?_of_block hb).trans (h.fz o)⟩
theorem Fr4.set2 {w : World} {B : Nat} {v0 v1 v2 v3 v : Value} (h : Fr4 w B v0 v1 v2 v3) : Fr4 (w.setCell ⟨B, 2, none⟩ v) B v0 v1 v v3 := by
  obtain ⟨hl, c0, c1, c2, c3, hf⟩ := h
  refine ⟨by simpa using hl, ?_, ?_, ?_, ?_, fun o => by rw [World.frozen?_setCell]; exact hf o⟩ <;> simp [go_sem, *]
theorem Fr4.set0 {w : World} {B : Nat} {v0 v1 v2 v3 v : Value} (h : Fr4 w B v0 v1 v2 v3) : Fr4 (w.setCell ⟨B, 0, none⟩ v) B v v1 v2 v3 := by
  obtain ⟨hl, c0, c1, c2, c3, hf⟩ := h
  refine ⟨by simpa using hl, ?_, ?_, ?_, ?_, fun o => by rw [World.frozen?_setCell]; exact hf o⟩ <;> simp [go_sem, *]
theorem Fr4.sets {w : World} {B : Nat} {v0 v1 v2 v3 : Value} (h : Fr4 w B v0 v1 v2 v3) (a0 a1 a2 a3 : Value) : Fr4 ((((w.setCell ⟨B, 0, none⟩ a0).setCell ⟨B, 1, none⟩ a1).setCell ⟨B, 2, none⟩ a2).setCell ⟨B, 3, none⟩ a3) B a0 a1 a2 a3 := by
  obtain ⟨hl, c0, c1, c2, c3, hf⟩ := h
  refine ⟨by simpa using hl, ?_, ?_, ?_, ?_, fun o => ?_⟩
  · simp [go_sem, *]
  · simp [go_sem, *]
  · simp [go_sem, *]
  · simp [go_sem, *]
  · simp only [World.frozen?_setCell]
    exact hf o
theorem set_blockD (w : World) (X o k : Nat) (v : Value) (h : k ≠ X) : (w.setCell ⟨X, o, none⟩ v).heap[k]? = w.heap[k]? := Below.heap_setCell _ _ _ _ h
/-- A Cred that is being drawn, in block X; the answer's block R. -/
structure CB (a : Option Addr) (len cap : Nat) (g : Nat → Int) (p X R : Nat) (w0 w : World) (u v : Int) (l : List Int) (x : Value) (r : Bool) : Prop where
  src : Src a len cap g p w
  own : Ownp p w0 w
  bx : Fr4 w X (.int .i64 u) (.int .i64 v) x (.bool r)
  br : Fr4 w R (.int .i64 0) (.int .i64 0) (.slice none 0 0) (.bool false)
  xr : R < X
  x0 : w0.heap.size ≤ R
  pl : p < w0.heap.size
  row : w.ownsRow (X + 1) 2 1 x l.length (ivD l)
theorem CB.call {a : Option Addr} {len cap : Nat} {g : Nat → Int} {p X R : Nat} {w0 w w' : World} {u v : Int} {l : List Int} {x : Value} {r : Bool} (h : CB a len cap g p X R w0 w u v l x r) (hs : Src a len cap g p w') (ho : Ownp p w w') : CB a len cap g p X R w0 w' u v l x r := by
  have h1 := h.xr
  have h2 := h.x0
  have h3 := h.pl
  have h4 := h.bx.lt
  exact ⟨hs, h.own.trans ho, h.bx.keep ho.size (ho.block X h4 (by simp; omega)), h.br.keep ho.size (ho.block R (by omega) (by simp; omega)), h1, h2, h3, row_keepD h.row (fun k hk hl => ho.block k hl (by simp; omega))⟩
theorem CB.drew {a : Option Addr} {len cap : Nat} {g : Nat → Int} {p X R : Nat} {w0 w : World} {u v : Int} {l : List Int} {x : Value} {r : Bool} (h : CB a len cap g p X R w0 w u v l x r) : CB a len cap g p X R w0 w.drew u v l x r :=
  h.call (h.src.kept (fun _ _ => rfl)) (Ownp.refl p w).drew
/-- Behind an append onto the groups, stored. -/
theorem CB.grow {a : Option Addr} {len cap : Nat} {g : Nat → Int} {p X R : Nat} {w0 w w' : World} {u v : Int} {l l' : List Int} {x x' : Value} {r : Bool} (h : CB a len cap g p X R w0 w u v l x r) (hb : Below (X + 1) w w') (hs : w.heap.size ≤ w'.heap.size) (hr : w'.ownsRow (X + 1) 2 1 x' l'.length (ivD l')) : CB a len cap g p X R w0 (w'.setCell ⟨X, 2, none⟩ x') u v l' x' r := by
  have h1 := h.xr
  have h2 := h.x0
  have h3 := h.pl
  have h4 := h.bx.lt
  have hk : ∀ k, k ≤ X → w'.heap[k]? = w.heap[k]? := fun k hk => hb.block k (by omega)
  refine ⟨h.src.kept (fun k hk2 => (set_blockD w' X 2 k x' (by omega)).trans (hk k (by omega))), ⟨?_, ?_, ?_, ?_, ?_⟩, (h.bx.keep hs (hk X (Nat.le_refl _))).set2, ?_, h1, h2, h3, row_keepD hr (fun k hk2 _ => set_blockD w' X 2 k x' (by omega))⟩
  · exact hb.os.trans h.own.os
  · exact hb.tape.trans h.own.tape
  · exact hb.output.trans h.own.output
  · have := h.own.size
    simp
    omega
  · intro k hk2 hne
    exact (set_blockD w' X 2 k x' (by omega)).trans ((hk k (by omega)).trans (h.own.block k hk2 hne))
  · exact (h.br.keep hs (hk R (by omega))).keep (by simp) (set_blockD w' X 2 R x' (by omega))
theorem CB.set0 {a : Option Addr} {len cap : Nat} {g : Nat → Int} {p X R : Nat} {w0 w : World} {u v u' : Int} {l : List Int} {x : Value} {r : Bool} (h : CB a len cap g p X R w0 w u v l x r) : CB a len cap g p X R w0 (w.setCell ⟨X, 0, none⟩ (.int .i64 u')) u' v l x r := by
  have h1 := h.xr
  have h2 := h.x0
  have h3 := h.pl
  refine ⟨h.src.kept (fun k hk2 => set_blockD w X 0 k _ (by omega)), ⟨h.own.os, h.own.tape, h.own.output, by have := h.own.size; simpa using this, fun k hk2 hne => (set_blockD w X 0 k _ (by omega)).trans (h.own.block k hk2 hne)⟩, h.bx.set0, h.br.keep (by simp) (set_blockD w X 0 R _ (by omega)), h1, h2, h3, row_keepD h.row (fun k hk2 _ => set_blockD w X 0 k _ (by omega))⟩
theorem Code.up {a : Option Addr} {len : Nat} {g : Nat → Int} {w w' : World} (h : Code a len g w.heap.size w) (hb : Below w.heap.size w w') : Code a len g w'.heap.size w' := by
  have h1 := h.below hb
  have hs := hb.size
  exact ⟨h1.1, h1.2.1, fun hl => by
    obtain ⟨b, off, e, hlt, hc⟩ := h1.2.2 hl
    exact ⟨b, off, e, by omega, hc⟩⟩
theorem Fr4.below {w w' : World} {B : Nat} {v0 v1 v2 v3 : Value} (h : Fr4 w B v0 v1 v2 v3) (hb : Below w.heap.size w w') : Fr4 w' B v0 v1 v2 v3 := h.keep hb.size (hb.block B h.lt)
theorem setD {B b o : Nat} {W w1 : World} {x : Value} (hb : Below B W w1) (h : B ≤ b) : Below B W (w1.setCell ⟨b, o, none⟩ x) := hb.setCell h _
end Go.Proofs.YtedahdncincgjaaGreatDoor
/- impl.groupsRight and CredRight, the program's and the specification's. -/
namespace Go.Proofs.YtedahdncincgjaaGreatDoor
open Go.RowKit Go.PlainAid
set_option linter.unusedVariables false
end Go.Proofs.YtedahdncincgjaaGreatDoor
