/- Laid together: NamedTo, AclTo. -/
import Derived.Test.YtgooanaacebncaaDoorRA1
import Derived.Deep.OwnRows
import Derived.Deep.QuietTactic
import Derived.BigQuiet
import Derived.Handy
/- laws.toNamed, laws.toNamedS: a copy of a list of pairs. -/
namespace Go.Proofs.YtgooanaacebncaaDoor
open Go.RowKit Go.PlainAid
set_option linter.unusedVariables false
theorem bl_setN {B b o : Nat} {W w1 : World} {x : Value} (hb : Below B W w1) (h : B ≤ b) : Below B W (w1.setCell ⟨b, o, none⟩ x) := hb.setCell h _
theorem bl_cellN {W w1 : World} (hb : Below W.heap.size W w1) : (∀ b o, b < W.heap.size → w1.cell? ⟨b, o, none⟩ = W.cell? ⟨b, o, none⟩) ∧ (∀ b o, b < W.heap.size → w1.frozen? ⟨b, o, none⟩ = W.frozen? ⟨b, o, none⟩) :=
  ⟨fun b o h => hb.cell (p := ⟨b, o, none⟩) h, fun b o h => hb.frozen (p := ⟨b, o, none⟩) h⟩
/-- What a world holds of a row of pairs that may be written. -/
def PHold (w : World) (B : Nat) (F G : Nat → Int) (n : Nat) : Prop := ∀ i, i < n → (w.cell? ⟨B, i * 2, none⟩ = some (.int .i64 (F i)) ∧ w.cell? ⟨B, i * 2 + 1, none⟩ = some (.int .i64 (G i))) ∧ w.frozen? ⟨B, i * 2, none⟩ = false ∧ w.frozen? ⟨B, i * 2 + 1, none⟩ = false
theorem PHold.below {w w' : World} {B : Nat} {F G : Nat → Int} {n : Nat} (h : PHold w B F G n) (hlt : B < w.heap.size) (hb : Below w.heap.size w w') : PHold w' B F G n := fun i hi =>
  ⟨⟨(hb.cell (p := ⟨B, i * 2, none⟩) hlt).trans (h i hi).1.1, (hb.cell (p := ⟨B, i * 2 + 1, none⟩) hlt).trans (h i hi).1.2⟩, (hb.frozen (p := ⟨B, i * 2, none⟩) hlt).trans (h i hi).2.1, (hb.frozen (p := ⟨B, i * 2 + 1, none⟩) hlt).trans (h i hi).2.2⟩
theorem PHold.set0 {w : World} {B : Nat} {F G : Nat → Int} {n : Nat} (h : PHold w B F G n) (k : Nat) (hk : k < n) (v : Int) : PHold (w.setCell ⟨B, k * 2, none⟩ (.int .i64 v)) B (fun i => if i = k then v else F i) G n := by
  intro i hi
  have h1 := h i hi
  rw [World.frozen?_setCell, World.frozen?_setCell]
  refine ⟨⟨?_, ?_⟩, h1.2⟩
  · by_cases e : i = k
    · subst e
      simp only [if_pos]
      simp [go_sem, h1.1.1]
    · simp only [if_neg e]
      rw [← h1.1.1]
      exact World.cell?_setCell_other _ _ _ _ (by intro h; have h2 := congrArg Addr.off h; simp only at h2; omega)
  · rw [← h1.1.2]
    exact World.cell?_setCell_other _ _ _ _ (by intro h; have h2 := congrArg Addr.off h; simp only at h2; omega)
theorem PHold.set1 {w : World} {B : Nat} {F G : Nat → Int} {n : Nat} (h : PHold w B F G n) (k : Nat) (hk : k < n) (v : Int) : PHold (w.setCell ⟨B, k * 2 + 1, none⟩ (.int .i64 v)) B F (fun i => if i = k then v else G i) n := by
  intro i hi
  have h1 := h i hi
  rw [World.frozen?_setCell, World.frozen?_setCell]
  refine ⟨⟨?_, ?_⟩, h1.2⟩
  · rw [← h1.1.1]
    exact World.cell?_setCell_other _ _ _ _ (by intro h; have h2 := congrArg Addr.off h; simp only at h2; omega)
  · by_cases e : i = k
    · subst e
      simp only [if_pos]
      simp [go_sem, h1.1.2]
    · simp only [if_neg e]
      rw [← h1.1.2]
      exact World.cell?_setCell_other _ _ _ _ (by intro h; have h2 := congrArg Addr.off h; simp only at h2; omega)
/-- A list of pairs in memory of its own, that may be written. -/
def Own (a : Option Addr) (len : Nat) (l : List (Int × Int)) (w : World) : Prop :=
  l.length = len ∧ (0 < len → ∃ B, a = some ⟨B, 0, none⟩ ∧ B < w.heap.size ∧ PHold w B (idAt l) (btAt l) len)
theorem Own.prs {a : Option Addr} {len : Nat} {l : List (Int × Int)} {w : World} (h : Own a len l w) : Prs a len l w := by
  refine ⟨h.1, fun h0 => ?_⟩
  obtain ⟨B, ha, hlt, hp⟩ := h.2 h0
  exact ⟨B, 0, ha, hlt, fun i hi => by simpa using (hp i hi).1⟩
theorem Own.below {a : Option Addr} {len : Nat} {l : List (Int × Int)} {w w' : World} (h : Own a len l w) (hb : Below w.heap.size w w') : Own a len l w' := by
  refine ⟨h.1, fun h0 => ?_⟩
  obtain ⟨B, ha, hlt, hp⟩ := h.2 h0
  exact ⟨B, ha, Nat.lt_of_lt_of_le hlt hb.size, hp.below hlt hb⟩
theorem Own.set {a : Option Addr} {len : Nat} {l : List (Int × Int)} {w : World} {b o : Nat} {v : Value} (h : Own a len l w) (hne : ∀ B, a = some ⟨B, 0, none⟩ → b ≠ B) : Own a len l (w.setCell ⟨b, o, none⟩ v) := by
  refine ⟨h.1, fun h0 => ?_⟩
  obtain ⟨B, ha, hlt, hp⟩ := h.2 h0
  have hn := hne B ha
  refine ⟨B, ha, by simpa using hlt, fun i hi => ?_⟩
  have h1 := hp i hi
  rw [World.frozen?_setCell, World.frozen?_setCell]
  refine ⟨⟨?_, ?_⟩, h1.2⟩
  · rw [← h1.1.1]
    exact World.cell?_setCell_other _ _ _ _ (by intro h; have h2 := congrArg Addr.block h; simp only at h2; omega)
  · rw [← h1.1.2]
    exact World.cell?_setCell_other _ _ _ _ (by intro h; have h2 := congrArg Addr.block h; simp only at h2; omega)
end Go.Proofs.YtgooanaacebncaaDoor
