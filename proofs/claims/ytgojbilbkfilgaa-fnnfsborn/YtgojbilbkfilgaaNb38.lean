/- Laid together: AceMark, AnsL. -/
import Derived.Test.YtgojbilbkfilgaaNb6
/- laws.markAceS, heldAceS, eqNfsOut, markNfsOut, heldNfsOut: a list of aces is written over, and read again. -/
namespace Go.Proofs.Ytgojbilbkfilgaa
open Go.RowKit Go.PlainAid
set_option linter.unusedVariables false
/-- What mark writes at a place. -/
def markA (k : Int) : Ac := ⟨k % 3 == 0, k + 1, k + 1 + 1, k + 1 + 1 + 1, k + 1 + 1 + 1 + 1⟩
/-- What mark writes. -/
def marksA (k : Int) (n : Nat) : List Ac := (List.range n).map fun (i : Nat) => markA (k + 5 * (i : Int))
theorem marksA_len (k : Int) (n : Nat) : (marksA k n).length = n := by simp [marksA]
theorem marksA_at (k : Int) (n i : Nat) (h : i < n) : acAt (marksA k n) i = markA (k + 5 * i) := acAt_map _ n i h
/-- The world is as it was, but for the cells of one block. -/
structure ButA (a : Option Addr) (w w' : World) : Prop where
  size : w'.heap.size = w.heap.size
  below : ∀ c, (∀ A, a = some A → c ≤ A.block) → Below c w w'
  cell : ∀ b o, (∀ A, a = some A → b ≠ A.block) → w'.cell? ⟨b, o, none⟩ = w.cell? ⟨b, o, none⟩ ∧ w'.frozen? ⟨b, o, none⟩ = w.frozen? ⟨b, o, none⟩
theorem ButA.refl (a : Option Addr) (w : World) : ButA a w w := ⟨rfl, fun _ _ => Below.refl _ _, fun _ _ _ => ⟨rfl, rfl⟩⟩
theorem ButA.set {B o : Nat} {w w' : World} {v : Value} (h : ButA (some ⟨B, 0, none⟩) w w') : ButA (some ⟨B, 0, none⟩) w (w'.setCell ⟨B, o, none⟩ v) := by
  refine ⟨by simpa using h.size, fun c hc => bl_setA (h.below c hc) (hc _ rfl), fun b o2 hb => ?_⟩
  have h1 := h.cell b o2 hb
  rw [World.frozen?_setCell, ← h1.1]
  exact ⟨World.cell?_setCell_other _ _ _ _ (by intro h; have h2 := congrArg Addr.block h; exact hb _ rfl (by simpa using h2.symm)), h1.2⟩
theorem ButA.own {a a2 : Option Addr} {len : Nat} {l : List Ac} {w w' : World} (h : ButA a w w') (ho : OwnA a2 len l w) (hne : ∀ A A2, a = some A → a2 = some A2 → A.block ≠ A2.block) : OwnA a2 len l w' := by
  refine ⟨ho.1, fun h0 => ?_⟩
  obtain ⟨B, ha, hlt, hp⟩ := ho.2 h0
  refine ⟨B, ha, by rw [h.size]; exact hlt, fun i hi => ?_⟩
  have hb : ∀ A, a = some A → B ≠ A.block := fun A e => fun e2 => hne A _ e ha (by simpa using e2.symm)
  exact ⟨(hp i hi).1.keep (fun j => (h.cell B j hb).1), (hp i hi).2.keep (fun j => (h.cell B j hb).2)⟩
end Go.Proofs.Ytgojbilbkfilgaa
/- An answer that is a list of aces in memory of its own; one that is such a list and a code. -/
namespace Go.Proofs.Ytgojbilbkfilgaa
open Go.RowKit Go.PlainAid
set_option linter.unusedVariables false
/-- A list in memory that was made since. -/
structure NewA (w w' : World) (a : Option Addr) (n : Nat) (l : List Ac) : Prop where
  own : OwnA a n l w'
  inn : ∀ A, a = some A → w.heap.size ≤ A.block ∧ A.block < w'.heap.size
  bel : Below w.heap.size w w'
theorem NewA.on {w w' w2 : World} {a : Option Addr} {n : Nat} {l : List Ac} (h : NewA w w' a n l) (hb : Below w'.heap.size w' w2) : NewA w w2 a n l :=
  ⟨h.own.below hb, fun A e => ⟨(h.inn A e).1, Nat.lt_of_lt_of_le (h.inn A e).2 hb.size⟩, Below.on h.bel hb⟩
theorem NewA.pre {w w0 w' : World} {a : Option Addr} {n : Nat} {l : List Ac} (h : NewA w w' a n l) (hb : Below w0.heap.size w0 w) : NewA w0 w' a n l :=
  ⟨h.own, fun A e => ⟨Nat.le_trans hb.size (h.inn A e).1, (h.inn A e).2⟩, Below.on hb h.bel⟩
/-- A cell of the call's own that is not of the list is written. -/
theorem NewA.set {w w' : World} {a : Option Addr} {n : Nat} {l : List Ac} {b o : Nat} {v : Value} (h : NewA w w' a n l) (hb : w.heap.size ≤ b) (h1 : ∀ A, a = some A → b ≠ A.block) : NewA w (w'.setCell ⟨b, o, none⟩ v) a n l :=
  ⟨h.own.set h1, fun A e => by simpa using h.inn A e, bl_setA h.bel hb⟩
theorem newA_nil {w w' : World} (h : Below w.heap.size w w') : NewA w w' none 0 [] := ⟨ownA_nil _ _, (fun A e => by cases e), h⟩
/-- What a call that answers a list ends in. -/
def AnsL (xs : List Ac) (w : World) (e : Ending) (w' : World) : Prop := ∃ a c, e = .returned (.slice a xs.length c) ∧ NewA w w' a xs.length xs
/-- What a call that answers a list and a code ends in. -/
def AnsN (xs : List Ac) (code : Int) (w : World) (e : Ending) (w' : World) : Prop := ∃ a c, e = .returned (.agg #[.slice a xs.length c, .int .i64 code]) ∧ NewA w w' a xs.length xs
theorem AnsL.out {xs : List Ac} {w w' : World} {e : Ending} (h : AnsL xs w e w') : ∃ a c, e = .returned (.slice a xs.length c) ∧ NewA w w' a xs.length xs := h
theorem AnsN.out {xs : List Ac} {code : Int} {w w' : World} {e : Ending} (h : AnsN xs code w e w') : ∃ a c, e = .returned (.agg #[.slice a xs.length c, .int .i64 code]) ∧ NewA w w' a xs.length xs := h
/-- Two cells of a block. -/
structure Box2 (w : World) (B : Nat) (v0 v1 : Value) : Prop where
  lt : B < w.heap.size
  c0 : w.cell? ⟨B, 0, none⟩ = some v0
  c1 : w.cell? ⟨B, 1, none⟩ = some v1
theorem Box2.keep {w w' : World} {B : Nat} {v0 v1 : Value} (h : Box2 w B v0 v1) (hlt : B < w'.heap.size) (hc : ∀ o, w'.cell? ⟨B, o, none⟩ = w.cell? ⟨B, o, none⟩) : Box2 w' B v0 v1 := ⟨hlt, (hc 0).trans h.c0, (hc 1).trans h.c1⟩
theorem Box2.below {w w' : World} {B : Nat} {v0 v1 : Value} (h : Box2 w B v0 v1) (hb : Below w.heap.size w w') : Box2 w' B v0 v1 :=
  h.keep (Nat.lt_of_lt_of_le h.lt hb.size) (fun o => hb.cell (p := ⟨B, o, none⟩) h.lt)
theorem box2_new (w : World) (v0 v1 : Value) (t : TypeId) : Box2 (w.alloc (.cells #[v0, v1] t)) w.heap.size v0 v1 := by
  have hb : (w.alloc (.cells #[v0, v1] t)).heap[w.heap.size]? = some (.cells #[v0, v1] t) := by
    rw [World.alloc]
    exact Array.getElem?_push_size
  refine ⟨by simp, ?_, ?_⟩ <;> (simp only [World.cell?, hb]; rfl)
theorem Box2.other {w : World} {B b o : Nat} {v0 v1 v : Value} (h : Box2 w B v0 v1) (hne : b ≠ B) : Box2 (w.setCell ⟨b, o, none⟩ v) B v0 v1 :=
  h.keep (by simpa using h.lt) (fun o2 => World.cell?_setCell_other _ _ _ _ (by intro h; have h2 := congrArg Addr.block h; simp only at h2; omega))
end Go.Proofs.Ytgojbilbkfilgaa
