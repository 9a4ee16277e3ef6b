/- Laid together: AnsR, RoomT. -/
import Derived.Test.YtedahdncincgjaaGreatDoorNX6
/- An answer: a list of names and a code. -/
namespace Go.Proofs.YtedahdncincgjaaGreatDoor
open Go.RowKit Go.PlainAid Go.Deep
set_option linter.unusedVariables false
/-- Eight cells of a block. -/
structure Box8 (w : World) (B : Nat) (v0 v1 v2 v3 v4 v5 v6 v7 : Value) : Prop where
  lt : B < w.heap.size
  c0 : w.cell? ⟨B, 0, none⟩ = some v0
  c1 : w.cell? ⟨B, 1, none⟩ = some v1
  c2 : w.cell? ⟨B, 2, none⟩ = some v2
  c3 : w.cell? ⟨B, 3, none⟩ = some v3
  c4 : w.cell? ⟨B, 4, none⟩ = some v4
  c5 : w.cell? ⟨B, 5, none⟩ = some v5
  c6 : w.cell? ⟨B, 6, none⟩ = some v6
  c7 : w.cell? ⟨B, 7, none⟩ = some v7
theorem Box8.keep {w w' : World} {B : Nat} {v0 v1 v2 v3 v4 v5 v6 v7 : Value} (h : Box8 w B v0 v1 v2 v3 v4 v5 v6 v7) (hlt : B < w'.heap.size) (hc : ∀ o, w'.cell? ⟨B, o, none⟩ = w.cell? ⟨B, o, none⟩) : Box8 w' B v0 v1 v2 v3 v4 v5 v6 v7 :=
  ⟨hlt, (hc 0).trans h.c0, (hc 1).trans h.c1, (hc 2).trans h.c2, (hc 3).trans h.c3, (hc 4).trans h.c4, (hc 5).trans h.c5, (hc 6).trans h.c6, (hc 7).trans h.c7⟩
theorem Box8.below {w w' : World} {B : Nat} {v0 v1 v2 v3 v4 v5 v6 v7 : Value} (h : Box8 w B v0 v1 v2 v3 v4 v5 v6 v7) (hb : Below w.heap.size w w') : Box8 w' B v0 v1 v2 v3 v4 v5 v6 v7 :=
  h.keep (Nat.lt_of_lt_of_le h.lt hb.size) (fun o => hb.cell (p := ⟨B, o, none⟩) h.lt)
theorem box8_new (w : World) (v0 v1 v2 v3 v4 v5 v6 v7 : Value) (t : TypeId) : Box8 (w.alloc (.cells #[v0, v1, v2, v3, v4, v5, v6, v7] t)) w.heap.size v0 v1 v2 v3 v4 v5 v6 v7 := by
  have hb : (w.alloc (.cells #[v0, v1, v2, v3, v4, v5, v6, v7] t)).heap[w.heap.size]? = some (.cells #[v0, v1, v2, v3, v4, v5, v6, v7] t) := by
    rw [World.alloc]
    exact Array.getElem?_push_size
  refine ⟨by simp, ?_, ?_, ?_, ?_, ?_, ?_, ?_, ?_⟩ <;> (simp only [World.cell?, hb]; rfl)
/-- An answer. -/
structure Ans where
  u : Int
  g : Int
  o : Int
  us : List (Int × Int)
  gs : List (Int × Int)
  r : Bool
  m : Int
  code : Int
def illA (c : Int) : Ans := ⟨0, 0, 0, [], [], false, 0, c⟩
/-- An answer as a value, where its lists lie. -/
def ansV (x : Ans) (a1 : Option Addr) (c1 : Nat) (a2 : Option Addr) (c2 : Nat) : Value := .agg #[.int .i64 x.u, .int .i64 x.g, .int .i64 x.o, .slice a1 x.us.length c1, .slice a2 x.gs.length c2, .bool x.r, .int .i64 x.m, .int .i64 x.code]
theorem new_nil {w w' : World} (h : Below w.heap.size w w') : New w w' none 0 [] none 0 [] :=
  ⟨⟨rfl, fun h => absurd h (by omega)⟩, ⟨rfl, fun h => absurd h (by omega)⟩, (fun A e => by cases e), (fun A e => by cases e), (fun A A2 e => by cases e), h⟩
/-- What a call that answers so ends in. -/
def Answers (x : Ans) (w : World) (e : Ending) (w' : World) : Prop := ∃ a1 c1 a2 c2, e = .returned (ansV x a1 c1 a2 c2) ∧ New w w' a1 x.us.length x.us a2 x.gs.length x.gs
/-- The block behind a list has just the cells that its capacity tells. -/
def Room (w : World) (a : Option Addr) (c : Nat) : Prop := (a = none ∧ c = 0) ∨ ∃ g cur, a = some ⟨g, 0, none⟩ ∧ w.heap[g]? = some (.cells cur 116 (0, 0)) ∧ cur.size = c * 2 ∧ c ≤ maxLen
theorem Room.below {w w' : World} {a : Option Addr} {c : Nat} (h : Room w a c) (hb : Below w.heap.size w w') : Room w' a c := by
  rcases h with h | ⟨g, cur, h1, h2, h3⟩
  · exact .inl h
  · exact .inr ⟨g, cur, h1, (hb.block g (Array.getElem?_eq_some_iff.1 h2).1).trans h2, h3⟩
theorem Room.set {w : World} {a : Option Addr} {c b o : Nat} {v : Value} (h : Room w a c) (hne : ∀ A, a = some A → b ≠ A.block) : Room (w.setCell ⟨b, o, none⟩ v) a c := by
  rcases h with h | ⟨g, cur, h1, h2, h3⟩
  · exact .inl h
  · exact .inr ⟨g, cur, h1, (Below.heap_setCell _ _ _ g (fun e => hne _ h1 e.symm)).trans h2, h3⟩
theorem room_of_row {w : World} {B : Nat} {a : Option Addr} {n c m : Nat} {xs : List Value} (h : w.ownsRow B 116 2 (.slice a n c) m xs) : Room w a c := by
  obtain ⟨_, ⟨h, hn⟩ | ⟨g, cap, cur, h, _, hg, _, hm, hs, _⟩⟩ := h
  · cases h
    exact .inl ⟨rfl, rfl⟩
  · cases h
    exact .inr ⟨g, cur, rfl, hg, hs, hm⟩
theorem room_nil (w : World) : Room w none 0 := .inl ⟨rfl, rfl⟩
/-- A list in memory of its own, and its room: a row that may be appended to. -/
theorem row_of_room {w : World} {B : Nat} {a : Option Addr} {n c : Nat} {l : List (Int × Int)} (ho : Own a n l w) (hr : Room w a c) (hc : n ≤ c) (hB : ∀ A, a = some A → B ≤ A.block) : w.ownsRow B 116 2 (.slice a n c) n (pc l) := by
  obtain ⟨hl, hp⟩ := ho
  refine ⟨by rw [pc_length, hl], ?_⟩
  rcases hr with ⟨rfl, rfl⟩ | ⟨g, cur, rfl, hg, hs, hm⟩
  · have : n = 0 := by omega
    subst this
    exact .inl ⟨rfl, rfl⟩
  · refine .inr ⟨g, c, cur, rfl, hB _ rfl, hg, hc, hm, hs, ?_⟩
    apply List.ext_getElem?
    intro j
    by_cases hj : j < n * 2
    · obtain ⟨B2, e2, _, hh⟩ := hp (by omega)
      cases e2
      have hi : j / 2 < n := by omega
      obtain ⟨⟨q0, q1⟩, _⟩ := hh (j / 2) hi
      obtain ⟨p0, p1⟩ := pc_get l (j / 2) (by omega)
      have key : ∀ k v, w.cell? ⟨g, k, none⟩ = some v → cur[k]? = some v := fun k v hk => by simpa [World.cell?, hg] using hk
      rw [List.getElem?_take_of_lt hj, Array.getElem?_toList]
      rcases (by omega : j = j / 2 * 2 ∨ j = j / 2 * 2 + 1) with e | e
      · rw [e, key _ _ q0, p0]
      · rw [e, key _ _ q1, p1]
    · rw [List.getElem?_eq_none (by simp; omega), List.getElem?_eq_none (by rw [pc_length, hl]; omega)]
/-- As Own, with its room. -/
def OwnR (a : Option Addr) (c n : Nat) (l : List (Int × Int)) (w : World) : Prop := Own a n l w ∧ Room w a c ∧ n ≤ c
theorem OwnR.set {a : Option Addr} {c n : Nat} {l : List (Int × Int)} {w : World} {b o : Nat} {v : Value} (h : OwnR a c n l w) (hne : ∀ A, a = some A → b ≠ A.block) : OwnR a c n l (w.setCell ⟨b, o, none⟩ v) := ⟨h.1.set (fun B e => hne _ e), h.2.1.set hne, h.2.2⟩
theorem OwnR.below {a : Option Addr} {c n : Nat} {l : List (Int × Int)} {w w' : World} (h : OwnR a c n l w) (hb : Below w.heap.size w w') : OwnR a c n l w' := ⟨h.1.below hb, h.2.1.below hb, h.2.2⟩
/-- As New, with the rooms. -/
structure NewC (w w' : World) (au : Option Addr) (cu lu : Nat) (us : List (Int × Int)) (ag : Option Addr) (cg lg : Nat) (gs : List (Int × Int)) : Prop where
  new : New w w' au lu us ag lg gs
  ru : Room w' au cu ∧ lu ≤ cu
  rg : Room w' ag cg ∧ lg ≤ cg
theorem NewC.on {w w' w2 : World} {au : Option Addr} {cu lu : Nat} {us : List (Int × Int)} {ag : Option Addr} {cg lg : Nat} {gs : List (Int × Int)} (h : NewC w w' au cu lu us ag cg lg gs) (hb : Below w'.heap.size w' w2) : NewC w w2 au cu lu us ag cg lg gs := ⟨h.new.on hb, ⟨h.ru.1.below hb, h.ru.2⟩, ⟨h.rg.1.below hb, h.rg.2⟩⟩
theorem NewC.pre {w w0 w' : World} {au : Option Addr} {cu lu : Nat} {us : List (Int × Int)} {ag : Option Addr} {cg lg : Nat} {gs : List (Int × Int)} (h : NewC w w' au cu lu us ag cg lg gs) (hb : Below w0.heap.size w0 w) : NewC w0 w' au cu lu us ag cg lg gs := ⟨h.new.pre hb, h.ru, h.rg⟩
theorem NewC.set {w w' : World} {au : Option Addr} {cu lu : Nat} {us : List (Int × Int)} {ag : Option Addr} {cg lg : Nat} {gs : List (Int × Int)} {b o : Nat} {v : Value} (h : NewC w w' au cu lu us ag cg lg gs) (hb : w.heap.size ≤ b) (h1 : ∀ A, au = some A → b ≠ A.block) (h2 : ∀ A, ag = some A → b ≠ A.block) : NewC w (w'.setCell ⟨b, o, none⟩ v) au cu lu us ag cg lg gs := ⟨h.new.set hb h1 h2, ⟨h.ru.1.set h1, h.ru.2⟩, ⟨h.rg.1.set h2, h.rg.2⟩⟩
/-- As Answers, with the rooms. -/
def AnswersC (x : Ans) (w : World) (e : Ending) (w' : World) : Prop := ∃ a1 c1 a2 c2, e = .returned (ansV x a1 c1 a2 c2) ∧ NewC w w' a1 c1 x.us.length x.us a2 c2 x.gs.length x.gs
theorem answersC_ill {x : Ans} {c : Int} (hx : x = illA c) {w w' : World} (h : Below w.heap.size w w') : AnswersC x w (.returned (.agg #[.int .i64 0, .int .i64 0, .int .i64 0, .slice none 0 0, .slice none 0 0, .bool false, .int .i64 0, .int .i64 c])) w' := by
  subst hx
  exact ⟨none, 0, none, 0, rfl, new_nil h, ⟨room_nil _, Nat.le_refl _⟩, ⟨room_nil _, Nat.le_refl _⟩⟩
theorem answersC_of {x : Ans} {w w' : World} {u g o m code : Int} {lu lg : Nat} {us gs : List (Int × Int)} {r : Bool} {a1 a2 : Option Addr} {c1 c2 : Nat} (hx : x = ⟨u, g, o, us, gs, r, m, code⟩) (h1 : us.length = lu) (h2 : gs.length = lg) (h : NewC w w' a1 c1 lu us a2 c2 lg gs) : AnswersC x w (.returned (.agg #[.int .i64 u, .int .i64 g, .int .i64 o, .slice a1 lu c1, .slice a2 lg c2, .bool r, .int .i64 m, .int .i64 code])) w' := by
  subst hx h1 h2
  exact ⟨a1, c1, a2, c2, rfl, h⟩
end Go.Proofs.YtedahdncincgjaaGreatDoor
