/- Laid together: AclMark, OutLaw. -/
import Derived.Test.YtedahdncincgjaaGreatDoorNX11
/- laws.markNamedS, heldNamedS, markAcl, heldAcl: a list is written over, and read again. -/
namespace Go.Proofs.YtedahdncincgjaaGreatDoor
open Go.RowKit Go.PlainAid
set_option linter.unusedVariables false
/-- The world is as it was, but for the cells of one block. -/
structure But (a : Option Addr) (w w' : World) : Prop where
  size : w'.heap.size = w.heap.size
  below : ∀ c, (∀ A, a = some A → c ≤ A.block) → Below c w w'
  cell : ∀ b o, (∀ A, a = some A → b ≠ A.block) → w'.cell? ⟨b, o, none⟩ = w.cell? ⟨b, o, none⟩ ∧ w'.frozen? ⟨b, o, none⟩ = w.frozen? ⟨b, o, none⟩
theorem But.refl (a : Option Addr) (w : World) : But a w w := ⟨rfl, fun _ _ => Below.refl _ _, fun _ _ _ => ⟨rfl, rfl⟩⟩
theorem But.set {B o : Nat} {w w' : World} {v : Value} (h : But (some ⟨B, 0, none⟩) w w') : But (some ⟨B, 0, none⟩) w (w'.setCell ⟨B, o, none⟩ v) := by
  refine ⟨by simpa using h.size, fun c hc => bl_setN (h.below c hc) (hc _ rfl), fun b o2 hb => ?_⟩
  have h1 := h.cell b o2 hb
  rw [World.frozen?_setCell, ← h1.1]
  exact ⟨World.cell?_setCell_other _ _ _ _ (by intro h; have h2 := congrArg Addr.block h; exact hb _ rfl (by simpa using h2.symm)), h1.2⟩
theorem But.own {a a2 : Option Addr} {len : Nat} {l : List (Int × Int)} {w w' : World} (h : But a w w') (ho : Own a2 len l w) (hne : ∀ A A2, a = some A → a2 = some A2 → A.block ≠ A2.block) : Own a2 len l w' := by
  refine ⟨ho.1, fun h0 => ?_⟩
  obtain ⟨B, ha, hlt, hp⟩ := ho.2 h0
  refine ⟨B, ha, by rw [h.size]; exact hlt, fun i hi => ?_⟩
  have hb : ∀ A, a = some A → B ≠ A.block := fun A e => fun e2 => hne A _ e ha (by simpa using e2.symm)
  have h0 := h.cell B (i * 2) hb
  have h1 := h.cell B (i * 2 + 1) hb
  rw [h0.1, h0.2, h1.1, h1.2]
  exact hp i hi
/-- The world is as it was, but for the cells of two blocks, and for what is new. -/
structure But2 (a a2 : Option Addr) (w w' : World) : Prop where
  size : w.heap.size ≤ w'.heap.size
  below : ∀ c, c ≤ w.heap.size → (∀ A, a = some A → c ≤ A.block) → (∀ A, a2 = some A → c ≤ A.block) → Below c w w'
  cell : ∀ b o, b < w.heap.size → (∀ A, a = some A → b ≠ A.block) → (∀ A, a2 = some A → b ≠ A.block) → w'.cell? ⟨b, o, none⟩ = w.cell? ⟨b, o, none⟩ ∧ w'.frozen? ⟨b, o, none⟩ = w.frozen? ⟨b, o, none⟩
theorem But2.own {a a2 a3 : Option Addr} {len : Nat} {l : List (Int × Int)} {w w' : World} (h : But2 a a2 w w') (ho : Own a3 len l w) (hne : ∀ A A2, a = some A → a3 = some A2 → A.block ≠ A2.block) (hne2 : ∀ A A2, a2 = some A → a3 = some A2 → A.block ≠ A2.block) : Own a3 len l w' := by
  refine ⟨ho.1, fun h0 => ?_⟩
  obtain ⟨B, ha, hlt, hp⟩ := ho.2 h0
  refine ⟨B, ha, Nat.lt_of_lt_of_le hlt h.size, fun i hi => ?_⟩
  have hb : ∀ A, a = some A → B ≠ A.block := fun A e => fun e2 => hne A _ e ha (by simpa using e2.symm)
  have hb2 : ∀ A, a2 = some A → B ≠ A.block := fun A e => fun e2 => hne2 A _ e ha (by simpa using e2.symm)
  have h0 := h.cell B (i * 2) hlt hb hb2
  have h1 := h.cell B (i * 2 + 1) hlt hb hb2
  rw [h0.1, h0.2, h1.1, h1.2]
  exact hp i hi
theorem But2.prs {a a2 a3 : Option Addr} {len : Nat} {l : List (Int × Int)} {w w' : World} (h : But2 a a2 w w') (ho : Prs a3 len l w) (hne : ∀ A A2, a = some A → a3 = some A2 → A.block ≠ A2.block) (hne2 : ∀ A A2, a2 = some A → a3 = some A2 → A.block ≠ A2.block) : Prs a3 len l w' := by
  refine ⟨ho.1, fun h0 => ?_⟩
  obtain ⟨B, off, ha, hlt, hp⟩ := ho.2 h0
  refine ⟨B, off, ha, Nat.lt_of_lt_of_le hlt h.size, fun i hi => ?_⟩
  have hb : ∀ A, a = some A → B ≠ A.block := fun A e => fun e2 => hne A _ e ha (by simpa using e2.symm)
  have hb2 : ∀ A, a2 = some A → B ≠ A.block := fun A e => fun e2 => hne2 A _ e ha (by simpa using e2.symm)
  rw [(h.cell B (off + i * 2) hlt hb hb2).1, (h.cell B (off + i * 2 + 1) hlt hb hb2).1]
  exact hp i hi
end Go.Proofs.YtedahdncincgjaaGreatDoor
/- What the laws do with an answer that holds a list of names: two of them compared, marked, read again. -/
namespace Go.Proofs.YtedahdncincgjaaGreatDoor
open Go.RowKit Go.PlainAid Go.Deep
set_option linter.unusedVariables false
theorem Answers.out {xu xg xo xm xc : Int} {xus xgs : List (Int × Int)} {xr : Bool} {w w' : World} {e : Ending} (h : Answers ⟨xu, xg, xo, xus, xgs, xr, xm, xc⟩ w e w') : ∃ a1 c1 a2 c2, e = .returned (.agg #[.int .i64 xu, .int .i64 xg, .int .i64 xo, .slice a1 xus.length c1, .slice a2 xgs.length c2, .bool xr, .int .i64 xm, .int .i64 xc]) ∧ New w w' a1 xus.length xus a2 xgs.length xgs := h
end Go.Proofs.YtedahdncincgjaaGreatDoor
