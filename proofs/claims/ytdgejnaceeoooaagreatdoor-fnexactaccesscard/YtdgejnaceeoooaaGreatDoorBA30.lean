/- Laid together: AnsR, Ans, Remask. -/
import Derived.Test.YtdgejnaceeoooaaGreatDoorBA15
import Derived.Test.YtdgejnaceeoooaaGreatDoorBA4
import Derived.Test.YtdgejnaceeoooaaGreatDoorBA14
/- An answer: a list of names and a code. -/
namespace Go.Proofs.YtdgejnaceeoooaaGreatDoor
open Go.RowKit Go.PlainAid Go.Deep
set_option linter.unusedVariables false
/-- Eight cells of a block. -/
structure Box8 (w : World) (B : Nat) (v0 v1 v2 v3 v4 v5 v6 v7 : Value) : Prop where
  lt : B < w.heap.size
  c0 : w.cell? ⟨B, 0, none⟩ = some v0
  c1 : w.cell? ⟨B, 1, none⟩ = some v1
  c2 : w.cell? ⟨B, 2, none⟩ = some v2
  c3 : w.cell? ⟨B, 3, none⟩ = some v3
  c4 : w.cell? ⟨B, 4, none⟩ = some v4
  c5 : w.cell? ⟨B, 5, none⟩ = some v5
  c6 : w.cell? ⟨B, 6, none⟩ = some v6
  c7 : w.cell? ⟨B, 7, none⟩ = some v7
theorem Box8.keep {w w' : World} {B : Nat} {v0 v1 v2 v3 v4 v5 v6 v7 : Value} (h : Box8 w B v0 v1 v2 v3 v4 v5 v6 v7) (hlt : B < w'.heap.size) (hc : ∀ o, w'.cell? ⟨B, o, none⟩ = w.cell? ⟨B, o, none⟩) : Box8 w' B v0 v1 v2 v3 v4 v5 v6 v7 :=
  ⟨hlt, (hc 0).trans h.c0, (hc 1).trans h.c1, (hc 2).trans h.c2, (hc 3).trans h.c3, (hc 4).trans h.c4, (hc 5).trans h.c5, (hc 6).trans h.c6, (hc 7).trans h.c7⟩
theorem Box8.below {w w' : World} {B : Nat} {v0 v1 v2 v3 v4 v5 v6 v7 : Value} (h : Box8 w B v0 v1 v2 v3 v4 v5 v6 v7) (hb : Below w.heap.size w w') : Box8 w' B v0 v1 v2 v3 v4 v5 v6 v7 :=
  h.keep (Nat.lt_of_lt_of_le h.lt hb.size) (fun o => hb.cell (p := ⟨B, o, none⟩) h.lt)
/-- An answer. -/
structure Ans where
  u : Int
  g : Int
  o : Int
  us : List (Int × Int)
  gs : List (Int × Int)
  r : Bool
  m : Int
  code : Int
def illA (c : Int) : Ans := ⟨0, 0, 0, [], [], false, 0, c⟩
/-- An answer as a value, where its lists lie. -/
def ansV (x : Ans) (a1 : Option Addr) (c1 : Nat) (a2 : Option Addr) (c2 : Nat) : Value := .agg #[.int .i64 x.u, .int .i64 x.g, .int .i64 x.o, .slice a1 x.us.length c1, .slice a2 x.gs.length c2, .bool x.r, .int .i64 x.m, .int .i64 x.code]
/-- What a call that answers so ends in. -/
def Answers (x : Ans) (w : World) (e : Ending) (w' : World) : Prop := ∃ a1 c1 a2 c2, e = .returned (ansV x a1 c1 a2 c2) ∧ New w w' a1 x.us.length x.us a2 x.gs.length x.gs
end Go.Proofs.YtdgejnaceeoooaaGreatDoor
/- An answer that holds a list of names and a code. -/
namespace Go.Proofs.YtdgejnaceeoooaaGreatDoor
open Go.RowKit Go.PlainAid Go.Deep
set_option linter.unusedVariables false
end Go.Proofs.YtdgejnaceeoooaaGreatDoor
/- impl.remasked, spec.l03New: the mask reckoned anew. -/
namespace Go.Proofs.YtdgejnaceeoooaaGreatDoor
open Go.RowKit Go.PlainAid Go.Deep
set_option linter.unusedVariables false
/-- Is anybody named? -/
def hnB (us gs : List (Int × Int)) : Bool := !(us.length == 0 && gs.length == 0)
/-- The mask then. -/
def mkB (g : Int) (us gs : List (Int × Int)) : Int := if hnB us gs then maskL g us gs else 0
end Go.Proofs.YtdgejnaceeoooaaGreatDoor
