/- Eight cells of an answer; two rows and a list of names in new memory. -/
import Derived.Test.YtddkmlkfphmdoaaTlL
import Derived.Test.YtddkmlkfphmdoaaAnsR
import Derived.Test.YtddkmlkfphmdoaaStepA
import Derived.Deep.RegionLaw
namespace Go.Proofs.Ytddkmlkfphmdoaa
open Go.RowKit Go.PlainAid Go.Deep
set_option linter.unusedVariables false
/-- Eight cells that may be written: an empty answer. -/
structure W8 (w : World) (b : Nat) : Prop where
  lt : b < w.heap.size
  c0 : w.cell? ⟨b, 0, none⟩ = some (.int .i64 0)
  c1 : w.cell? ⟨b, 1, none⟩ = some (.int .i64 0)
  c2 : w.cell? ⟨b, 2, none⟩ = some (.int .i64 0)
  c3 : w.cell? ⟨b, 3, none⟩ = some (.slice none 0 0)
  c4 : w.cell? ⟨b, 4, none⟩ = some (.slice none 0 0)
  c5 : w.cell? ⟨b, 5, none⟩ = some (.bool false)
  c6 : w.cell? ⟨b, 6, none⟩ = some (.int .i64 0)
  c7 : w.cell? ⟨b, 7, none⟩ = some (.int .i64 0)
  z : ∀ o, w.frozen? ⟨b, o, none⟩ = false
theorem W8.below {w w' : World} {b : Nat} (h : W8 w b) (hb : Below w.heap.size w w') : W8 w' b := by
  have hc := fun o => hb.cell (p := ⟨b, o, none⟩) h.lt
  exact ⟨Nat.lt_of_lt_of_le h.lt hb.size, (hc 0).trans h.c0, (hc 1).trans h.c1, (hc 2).trans h.c2, (hc 3).trans h.c3, (hc 4).trans h.c4, (hc 5).trans h.c5, (hc 6).trans h.c6, (hc 7).trans h.c7, fun o => (hb.frozen (p := ⟨b, o, none⟩) h.lt).trans (h.z o)⟩
theorem w8_new (w : World) (t : TypeId) : W8 (w.alloc (.cells #[.int .i64 0, .int .i64 0, .int .i64 0, .slice none 0 0, .slice none 0 0, .bool false, .int .i64 0, .int .i64 0] t)) w.heap.size := by
  have hb : (w.alloc (.cells #[.int .i64 0, .int .i64 0, .int .i64 0, .slice none 0 0, .slice none 0 0, .bool false, .int .i64 0, .int .i64 0] t)).heap[w.heap.size]? = some (.cells #[.int .i64 0, .int .i64 0, .int .i64 0, .slice none 0 0, .slice none 0 0, .bool false, .int .i64 0, .int .i64 0] t) := by
    rw [World.alloc]
    exact Array.getElem?_push_size
  refine ⟨by simp, ?_, ?_, ?_, ?_, ?_, ?_, ?_, ?_, fun o => ?_⟩
  · simp only [World.cell?, hb]; rfl
  · simp only [World.cell?, hb]; rfl
  · simp only [World.cell?, hb]; rfl
  · simp only [World.cell?, hb]; rfl
  · simp only [World.cell?, hb]; rfl
  · simp only [World.cell?, hb]; rfl
  · simp only [World.cell?, hb]; rfl
  · simp only [World.cell?, hb]; rfl
  · unfold World.frozen?
    simp only [hb]
    simp
theorem R2.drew {w0 w : World} {a : Al} {aU aG : Option Addr} {cU cG : Nat} (h : R2 w0 w a aU cU aG cG) : R2 w0 w.drew a aU cU aG cG := ⟨h.ou, h.og, h.ne, bdC h.bel⟩
theorem R2.new {w0 w : World} {a : Al} {aU aG : Option Addr} {cU cG : Nat} (h : R2 w0 w a aU cU aG cG) : New w0 w aU a.us.length a.us aG a.gs.length a.gs := by
  obtain ⟨a1, c1, e1, o1, i1⟩ := own_of_row h.ou
  obtain ⟨a2, c2, e2, o2, i2⟩ := own_of_row h.og
  cases e1
  cases e2
  exact ⟨o1, o2, i1, i2, h.ne, h.bel⟩
theorem W7.drew {w : World} {b : Nat} {v0 v1 v2 v3 v4 v5 v6 : Value} (h : W7 w b v0 v1 v2 v3 v4 v5 v6) : W7 w.drew b v0 v1 v2 v3 v4 v5 v6 := h.keep (Nat.le_refl _) rfl
theorem W7.all {w : World} {b : Nat} {v0 v1 v2 v3 v4 v5 v6 : Value} (h : W7 w b v0 v1 v2 v3 v4 v5 v6) (u0 u1 u2 u3 u4 u5 u6 : Value) : W7 (((((((w.setCell ⟨b, 0, none⟩ u0).setCell ⟨b, 1, none⟩ u1).setCell ⟨b, 2, none⟩ u2).setCell ⟨b, 3, none⟩ u3).setCell ⟨b, 4, none⟩ u4).setCell ⟨b, 5, none⟩ u5).setCell ⟨b, 6, none⟩ u6) b u0 u1 u2 u3 u4 u5 u6 :=
  ((((((h.set0).set1).set2).set3).set4).set5).set6
theorem R2.all {w0 w : World} {a : Al} {aU aG : Option Addr} {cU cG b : Nat} (h : R2 w0 w a aU cU aG cG) (hb : w0.heap.size ≤ b) (h1 : ∀ A, aU = some A → b ≠ A.block) (h2 : ∀ A, aG = some A → b ≠ A.block) (u0 u1 u2 u3 u4 u5 u6 : Value) : R2 w0 (((((((w.setCell ⟨b, 0, none⟩ u0).setCell ⟨b, 1, none⟩ u1).setCell ⟨b, 2, none⟩ u2).setCell ⟨b, 3, none⟩ u3).setCell ⟨b, 4, none⟩ u4).setCell ⟨b, 5, none⟩ u5).setCell ⟨b, 6, none⟩ u6) a aU cU aG cG :=
  ((((((h.set hb h1 h2).set hb h1 h2).set hb h1 h2).set hb h1 h2).set hb h1 h2).set hb h1 h2).set hb h1 h2
end Go.Proofs.Ytddkmlkfphmdoaa
