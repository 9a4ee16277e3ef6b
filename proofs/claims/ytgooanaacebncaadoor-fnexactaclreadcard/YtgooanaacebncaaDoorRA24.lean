/- Laid together: NewR, AnsR. -/
import Derived.Test.YtgooanaacebncaaDoorRA4
/- Two lists in memory that was made since. -/
namespace Go.Proofs.YtgooanaacebncaaDoor
open Go.RowKit Go.PlainAid Go.Deep
set_option linter.unusedVariables false
/-- Two lists in memory that was made since. -/
structure New (w w' : World) (au : Option Addr) (lu : Nat) (us : List (Int × Int)) (ag : Option Addr) (lg : Nat) (gs : List (Int × Int)) : Prop where
  ou : Own au lu us w'
  og : Own ag lg gs w'
  iu : ∀ A, au = some A → w.heap.size ≤ A.block ∧ A.block < w'.heap.size
  ig : ∀ A, ag = some A → w.heap.size ≤ A.block ∧ A.block < w'.heap.size
  ne : ∀ A A2, au = some A → ag = some A2 → A.block ≠ A2.block
  bel : Below w.heap.size w w'
theorem New.on {w w' w2 : World} {au : Option Addr} {lu : Nat} {us : List (Int × Int)} {ag : Option Addr} {lg : Nat} {gs : List (Int × Int)} (h : New w w' au lu us ag lg gs) (hb : Below w'.heap.size w' w2) : New w w2 au lu us ag lg gs :=
  ⟨h.ou.below hb, h.og.below hb, fun A e => ⟨(h.iu A e).1, Nat.lt_of_lt_of_le (h.iu A e).2 hb.size⟩, fun A e => ⟨(h.ig A e).1, Nat.lt_of_lt_of_le (h.ig A e).2 hb.size⟩, h.ne, Below.on h.bel hb⟩
theorem New.pre {w w0 w' : World} {au : Option Addr} {lu : Nat} {us : List (Int × Int)} {ag : Option Addr} {lg : Nat} {gs : List (Int × Int)} (h : New w w' au lu us ag lg gs) (hb : Below w0.heap.size w0 w) : New w0 w' au lu us ag lg gs :=
  ⟨h.ou, h.og, fun A e => ⟨Nat.le_trans hb.size (h.iu A e).1, (h.iu A e).2⟩, fun A e => ⟨Nat.le_trans hb.size (h.ig A e).1, (h.ig A e).2⟩, h.ne, Below.on hb h.bel⟩
/-- A cell of the call's own that is older than the lists is written. -/
theorem New.set {w w' : World} {au : Option Addr} {lu : Nat} {us : List (Int × Int)} {ag : Option Addr} {lg : Nat} {gs : List (Int × Int)} {b o : Nat} {v : Value} (h : New w w' au lu us ag lg gs) (hb : w.heap.size ≤ b) (h1 : ∀ A, au = some A → b ≠ A.block) (h2 : ∀ A, ag = some A → b ≠ A.block) : New w (w'.setCell ⟨b, o, none⟩ v) au lu us ag lg gs :=
  ⟨h.ou.set (fun B e => h1 _ e), h.og.set (fun B e => h2 _ e), fun A e => by simpa using h.iu A e, fun A e => by simpa using h.ig A e, h.ne, bl_setN h.bel hb⟩
/-- Eight cells of a block. -/
structure Box8 (w : World) (B : Nat) (v0 v1 v2 v3 v4 v5 v6 v7 : Value) : Prop where
  lt : B < w.heap.size
  c0 : w.cell? ⟨B, 0, none⟩ = some v0
  c1 : w.cell? ⟨B, 1, none⟩ = some v1
  c2 : w.cell? ⟨B, 2, none⟩ = some v2
  c3 : w.cell? ⟨B, 3, none⟩ = some v3
  c4 : w.cell? ⟨B, 4, none⟩ = some v4
  c5 : w.cell? ⟨B, 5, none⟩ = some v5
  c6 : w.cell? ⟨B, 6, none⟩ = some v6
  c7 : w.cell? ⟨B, 7, none⟩ = some v7
theorem Box8.keep {w w' : World} {B : Nat} {v0 v1 v2 v3 v4 v5 v6 v7 : Value} (h : Box8 w B v0 v1 v2 v3 v4 v5 v6 v7) (hlt : B < w'.heap.size) (hc : ∀ o, w'.cell? ⟨B, o, none⟩ = w.cell? ⟨B, o, none⟩) : Box8 w' B v0 v1 v2 v3 v4 v5 v6 v7 :=
  ⟨hlt, (hc 0).trans h.c0, (hc 1).trans h.c1, (hc 2).trans h.c2, (hc 3).trans h.c3, (hc 4).trans h.c4, (hc 5).trans h.c5, (hc 6).trans h.c6, (hc 7).trans h.c7⟩
theorem Box8.below {w w' : World} {B : Nat} {v0 v1 v2 v3 v4 v5 v6 v7 : Value} (h : Box8 w B v0 v1 v2 v3 v4 v5 v6 v7) (hb : Below w.heap.size w w') : Box8 w' B v0 v1 v2 v3 v4 v5 v6 v7 :=
  h.keep (Nat.lt_of_lt_of_le h.lt hb.size) (fun o => hb.cell (p := ⟨B, o, none⟩) h.lt)
theorem box8_new (w : World) (v0 v1 v2 v3 v4 v5 v6 v7 : Value) (t : TypeId) : Box8 (w.alloc (.cells #[v0, v1, v2, v3, v4, v5, v6, v7] t)) w.heap.size v0 v1 v2 v3 v4 v5 v6 v7 := by
  have hb : (w.alloc (.cells #[v0, v1, v2, v3, v4, v5, v6, v7] t)).heap[w.heap.size]? = some (.cells #[v0, v1, v2, v3, v4, v5, v6, v7] t) := by
    rw [World.alloc]
    exact Array.getElem?_push_size
  refine ⟨by simp, ?_, ?_, ?_, ?_, ?_, ?_, ?_, ?_⟩ <;> (simp only [World.cell?, hb]; rfl)
/-- An answer. -/
structure Ans where
  u : Int
  g : Int
  o : Int
  us : List (Int × Int)
  gs : List (Int × Int)
  r : Bool
  m : Int
  code : Int
def illA (c : Int) : Ans := ⟨0, 0, 0, [], [], false, 0, c⟩
/-- An answer as a value, where its lists lie. -/
def ansV (x : Ans) (a1 : Option Addr) (c1 : Nat) (a2 : Option Addr) (c2 : Nat) : Value := .agg #[.int .i64 x.u, .int .i64 x.g, .int .i64 x.o, .slice a1 x.us.length c1, .slice a2 x.gs.length c2, .bool x.r, .int .i64 x.m, .int .i64 x.code]
theorem new_nil {w w' : World} (h : Below w.heap.size w w') : New w w' none 0 [] none 0 [] :=
  ⟨⟨rfl, fun h => absurd h (by omega)⟩, ⟨rfl, fun h => absurd h (by omega)⟩, (fun A e => by cases e), (fun A e => by cases e), (fun A A2 e => by cases e), h⟩
/-- What a call that answers so ends in. -/
def Answers (x : Ans) (w : World) (e : Ending) (w' : World) : Prop := ∃ a1 c1 a2 c2, e = .returned (ansV x a1 c1 a2 c2) ∧ New w w' a1 x.us.length x.us a2 x.gs.length x.gs
theorem answers_ill {x : Ans} {c : Int} (hx : x = illA c) {w w' : World} (h : Below w.heap.size w w') : Answers x w (.returned (.agg #[.int .i64 0, .int .i64 0, .int .i64 0, .slice none 0 0, .slice none 0 0, .bool false, .int .i64 0, .int .i64 c])) w' := by
  subst hx
  exact ⟨none, 0, none, 0, rfl, new_nil h⟩
theorem answers_of {x : Ans} {w w' : World} {u g o m code : Int} {lu lg : Nat} {us gs : List (Int × Int)} {r : Bool} {a1 a2 : Option Addr} {c1 c2 : Nat} (hx : x = ⟨u, g, o, us, gs, r, m, code⟩) (h1 : us.length = lu) (h2 : gs.length = lg) (h : New w w' a1 lu us a2 lg gs) : Answers x w (.returned (.agg #[.int .i64 u, .int .i64 g, .int .i64 o, .slice a1 lu c1, .slice a2 lg c2, .bool r, .int .i64 m, .int .i64 code])) w' := by
  subst hx h1 h2
  exact ⟨a1, c1, a2, c2, rfl, h⟩
end Go.Proofs.YtgooanaacebncaaDoor
