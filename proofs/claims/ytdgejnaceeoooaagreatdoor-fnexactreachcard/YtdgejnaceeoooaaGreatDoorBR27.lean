/- Laid together: NewR, Fresh, AnsR. -/
import Derived.Test.YtdgejnaceeoooaaGreatDoorBR3
import Derived.Test.YtdgejnaceeoooaaGreatDoorBR4
import Derived.Test.YtdgejnaceeoooaaGreatDoorBR23
/- Two lists in memory that was made since. -/
namespace Go.Proofs.YtdgejnaceeoooaaGreatDoor
open Go.RowKit Go.PlainAid Go.Deep
set_option linter.unusedVariables false
/-- Two lists in memory that was made since. -/
structure New (w w' : World) (au : Option Addr) (lu : Nat) (us : List (Int × Int)) (ag : Option Addr) (lg : Nat) (gs : List (Int × Int)) : Prop where
  ou : Own au lu us w'
  og : Own ag lg gs w'
  iu : ∀ A, au = some A → w.heap.size ≤ A.block ∧ A.block < w'.heap.size
  ig : ∀ A, ag = some A → w.heap.size ≤ A.block ∧ A.block < w'.heap.size
  ne : ∀ A A2, au = some A → ag = some A2 → A.block ≠ A2.block
  bel : Below w.heap.size w w'
theorem New.on {w w' w2 : World} {au : Option Addr} {lu : Nat} {us : List (Int × Int)} {ag : Option Addr} {lg : Nat} {gs : List (Int × Int)} (h : New w w' au lu us ag lg gs) (hb : Below w'.heap.size w' w2) : New w w2 au lu us ag lg gs :=
  ⟨h.ou.below hb, h.og.below hb, fun A e => ⟨(h.iu A e).1, Nat.lt_of_lt_of_le (h.iu A e).2 hb.size⟩, fun A e => ⟨(h.ig A e).1, Nat.lt_of_lt_of_le (h.ig A e).2 hb.size⟩, h.ne, Below.on h.bel hb⟩
theorem New.pre {w w0 w' : World} {au : Option Addr} {lu : Nat} {us : List (Int × Int)} {ag : Option Addr} {lg : Nat} {gs : List (Int × Int)} (h : New w w' au lu us ag lg gs) (hb : Below w0.heap.size w0 w) : New w0 w' au lu us ag lg gs :=
  ⟨h.ou, h.og, fun A e => ⟨Nat.le_trans hb.size (h.iu A e).1, (h.iu A e).2⟩, fun A e => ⟨Nat.le_trans hb.size (h.ig A e).1, (h.ig A e).2⟩, h.ne, Below.on hb h.bel⟩
/-- A cell of the call's own that is older than the lists is written. -/
theorem New.set {w w' : World} {au : Option Addr} {lu : Nat} {us : List (Int × Int)} {ag : Option Addr} {lg : Nat} {gs : List (Int × Int)} {b o : Nat} {v : Value} (h : New w w' au lu us ag lg gs) (hb : w.heap.size ≤ b) (h1 : ∀ A, au = some A → b ≠ A.block) (h2 : ∀ A, ag = some A → b ≠ A.block) : New w (w'.setCell ⟨b, o, none⟩ v) au lu us ag lg gs :=
  ⟨h.ou.set (fun B e => h1 _ e), h.og.set (fun B e => h2 _ e), fun A e => by simpa using h.iu A e, fun A e => by simpa using h.ig A e, h.ne, bl_setN h.bel hb⟩
end Go.Proofs.YtdgejnaceeoooaaGreatDoor
/- A list of names in memory of its own: impl.ownAcl, spec.l03Copy. -/
namespace Go.Proofs.YtdgejnaceeoooaaGreatDoor
open Go.RowKit Go.PlainAid Go.Deep
set_option linter.unusedVariables false
theorem row1_new (w : World) (v0 : Value) (t : TypeId) : (w.alloc (.cells #[v0] t)).cell? ⟨w.heap.size, 0, none⟩ = some v0 := by
  have hb : (w.alloc (.cells #[v0] t)).heap[w.heap.size]? = some (.cells #[v0] t) := by
    rw [World.alloc]
    exact Array.getElem?_push_size
  simp only [World.cell?, hb]
  rfl
theorem cat_one (us : List (Int × Int)) : cat (fun _ => us) 1 = us := by simp [cat]
/-- slices.Concat of one list, the row of which has just been made. -/
theorem concat_one (w0 : World) (X : Nat) (hX : X = w0.heap.size) (t : TypeId) (cap : Nat) (au : Option Addr) (lu cu : Nat) (us : List (Int × Int)) (hN : lu ≤ 1000000) (hu : Prs au lu us w0) :
    Calls Tryz.prog 231 #[.slice (some ⟨X, 0, none⟩) 1 cap] (w0.alloc (.cells #[.slice au lu cu] t)) fun e w' => ∃ a c, e = .returned (.slice a lu c) ∧ lu ≤ c ∧ Own a lu us w' ∧ (∀ Ad, a = some Ad → w0.heap.size + 1 ≤ Ad.block ∧ Ad.block < w'.heap.size) ∧ Below w0.heap.size w0 w' ∧ w0.heap.size + 1 ≤ w'.heap.size := by
  subst hX
  have hb := bel_alloc w0 (.cells #[.slice au lu cu] t)
  have r0 := row1_new w0 (.slice au lu cu) t
  have e1 := hu.1
  have hl : (cat (fun _ => us) 1).length = lu := by rw [cat_one, e1]
  refine (concat_any w0.heap.size 1 cap (fun _ => au) (fun _ => cu) (fun _ => us) (by omega) (by rw [hl]; omega) _ (by simp) ?_).mono ?_
  · intro j hj
    have : j = 0 := by omega
    subst this
    refine ⟨?_, ?_⟩
    · show _ = some (Value.slice au us.length cu)
      rw [e1]
      exact r0
    · show Prs au us.length us _
      rw [e1]
      exact hu.below hb
  · rintro e w' ⟨a, c, rfl, hc, ho, hin, hbel⟩
    rw [hl] at ho hc ⊢
    rw [cat_one] at ho
    have hsz := hbel.size
    refine ⟨a, c, rfl, hc, ho, fun Ad e => ?_, Below.on hb hbel, by simpa using hsz⟩
    have := hin Ad e
    simpa using this
set_option maxRecDepth 100000 in
set_option maxHeartbeats 4000000 in
/-- impl.ownAcl, with what is known of the room. -/
theorem ownAcl_cap (u g o : Int) (au : Option Addr) (lu cu : Nat) (ag : Option Addr) (lg cg : Nat) (r : Bool) (m : Int) (us gs : List (Int × Int)) (w : World) (hu : Prs au lu us w) (hg : Prs ag lg gs w) (hl1 : lu ≤ 1000000) (hl2 : lg ≤ 1000000) :
    Calls Tryz.prog 204 #[.agg #[.int .i64 u, .int .i64 g, .int .i64 o, .slice au lu cu, .slice ag lg cg, .bool r, .int .i64 m]] w fun e w' => ∃ a1 c1 a2 c2, e = .returned (.agg #[.int .i64 u, .int .i64 g, .int .i64 o, .slice a1 lu c1, .slice a2 lg c2, .bool r, .int .i64 m]) ∧ New w w' a1 lu us a2 lg gs ∧ lu ≤ c1 ∧ lg ≤ c2 := by
  have hc : Hid (∀ w' X, X = w'.heap.size → Below w.heap.size w w' → Calls Tryz.prog 231 #[.slice (some ⟨X, 0, none⟩) 1 1] (w'.alloc (.cells #[.slice au lu cu] 79)) fun e w'' => ∃ a c, e = .returned (.slice a lu c) ∧ lu ≤ c ∧ Own a lu us w'' ∧ (∀ Ad, a = some Ad → w'.heap.size + 1 ≤ Ad.block ∧ Ad.block < w''.heap.size) ∧ Below w'.heap.size w' w'' ∧ w'.heap.size + 1 ≤ w''.heap.size) := (fun w' X hX hb => concat_one w' X hX _ 1 au lu cu us hl1 (hu.below hb))
  have hd : Hid (∀ w' X, X = w'.heap.size → Below w.heap.size w w' → Calls Tryz.prog 231 #[.slice (some ⟨X, 0, none⟩) 1 1] (w'.alloc (.cells #[.slice ag lg cg] 79)) fun e w'' => ∃ a c, e = .returned (.slice a lg c) ∧ lg ≤ c ∧ Own a lg gs w'' ∧ (∀ Ad, a = some Ad → w'.heap.size + 1 ≤ Ad.block ∧ Ad.block < w''.heap.size) ∧ Below w'.heap.size w' w'' ∧ w'.heap.size + 1 ≤ w''.heap.size) := (fun w' X hX hb => concat_one w' X hX _ 1 ag lg cg gs hl2 (hg.below hb))
  clear hu hg
  go_enter Tryz.func204, Tryz.ntmps204
  go_wp2_with fail
  refine (hc.out _ _ (by simp) (bl2N _ _ _)).mono ?_
  rintro e w1 ⟨a1, c1, rfl, hcap, hI, hin, hb, hz⟩
  have hbW : Hid (Below w.heap.size w w1) := (bl2N _ _ _).trans (hb.mono (by simp; omega))
  obtain ⟨hcl, hfz⟩ := bl_cellN hb
  have hX := ((box7_new w (.int .i64 u) (.int .i64 g) (.int .i64 o) (.slice au lu cu) (.slice ag lg cg) (.bool r) (.int .i64 m) 81).below (bel_alloc _ (.cells #[.int .i64 0, .int .i64 0, .int .i64 0, .slice none 0 0, .slice none 0 0, .bool false, .int .i64 0] 81))).below hb
  have hY := (box7_new (w.alloc (.cells #[.int .i64 u, .int .i64 g, .int .i64 o, .slice au lu cu, .slice ag lg cg, .bool r, .int .i64 m] 81)) (.int .i64 0) (.int .i64 0) (.int .i64 0) (.slice none 0 0) (.slice none 0 0) (.bool false) (.int .i64 0) 81).below hb
  have eY : (w.alloc (.cells #[.int .i64 u, .int .i64 g, .int .i64 o, .slice au lu cu, .slice ag lg cg, .bool r, .int .i64 m] 81)).heap.size = w.heap.size + 1 := by simp
  rw [eY] at hY
  clear hb hc eY
  simp at hcl hfz hz hin
  go_wp2_with fail
  refine (hd.out _ _ (by simp) (bl_setN hbW.out (Nat.le_refl _))).mono ?_
  rintro e w2 ⟨a2, c2, rfl, hcap2, hJ, hin2, hb2, hz2⟩
  have eS : (w1.setCell ⟨w.heap.size, 3, none⟩ (.slice a1 lu c1)).heap.size = w1.heap.size := by simp
  have n1 : ∀ A, a1 = some A → w.heap.size + 1 < A.block := fun A e => by have := hin A e; omega
  have hI2 : Own a1 lu us w2 := (hI.set (fun B e => by have := n1 _ e; simp only at this; omega)).below hb2
  have hW2 : Below w.heap.size w w2 := (bl_setN hbW.out (Nat.le_refl _)).trans (hb2.mono (by rw [eS]; omega))
  have hfz2 : ∀ b o, b < w.heap.size + 1 + 1 → w2.frozen? ⟨b, o, none⟩ = (w1.setCell ⟨w.heap.size, 3, none⟩ (.slice a1 lu c1)).frozen? ⟨b, o, none⟩ := fun b o h => hb2.frozen (p := ⟨b, o, none⟩) (by rw [eS]; show b < _; omega)
  rw [eS] at hin2 hz2
  have n2 : ∀ A, a2 = some A → w.heap.size + 1 < A.block := fun A e => by have := hin2 A e; omega
  have HN : Hid (New w w2 a1 lu us a2 lg gs) := ⟨hI2, hJ, fun A e => ⟨by have := n1 A e; omega, by have := hin A e; omega⟩, fun A e => ⟨by have := n2 A e; omega, (hin2 A e).2⟩, fun A A2 e e2 => by have h1 := hin A e; have h2 := hin2 A2 e2; omega, hW2⟩
  have N1 : Hid (∀ A, a1 = some A → w.heap.size + 1 < A.block) := n1
  have HCP : Hid (lu ≤ c1 ∧ lg ≤ c2) := ⟨hcap, hcap2⟩
  have N2 : Hid (∀ A, a2 = some A → w.heap.size + 1 < A.block) := n2
  obtain ⟨xl, x0, x1, x2, x3, x4, x5, x6⟩ := hX.set3.below hb2
  obtain ⟨yl, y0, y1, y2, y3, y4, y5, y6⟩ := (hY.other (by omega)).below hb2
  clear hI hJ hW2 hI2 hz hz2 hb2 eS hd hbW n1 n2 hin hin2 hX hY hcl
  go_wp2
  refine bodyPost_ret (v := .agg #[.int .i64 u, .int .i64 g, .int .i64 o, .slice a1 lu c1, .slice a2 lg c2, .bool r, .int .i64 m]) (by simp [results, Tryz.results204, go_sem, y0, y1, y2, y3, y4, y5, y6]) rfl ⟨a1, c1, a2, c2, rfl, ?_, HCP.out⟩
  iterate 8 (refine New.set ?_ (by omega) (fun A e => by have := N1.out A e; omega) (fun A e => by have := N2.out A e; omega))
  exact HN.out
/-- impl.ownAcl. -/
theorem ownAcl_any (u g o : Int) (au : Option Addr) (lu cu : Nat) (ag : Option Addr) (lg cg : Nat) (r : Bool) (m : Int) (us gs : List (Int × Int)) (w : World) (hu : Prs au lu us w) (hg : Prs ag lg gs w) (hl1 : lu ≤ 1000000) (hl2 : lg ≤ 1000000) :
    Calls Tryz.prog 204 #[.agg #[.int .i64 u, .int .i64 g, .int .i64 o, .slice au lu cu, .slice ag lg cg, .bool r, .int .i64 m]] w fun e w' => ∃ a1 c1 a2 c2, e = .returned (.agg #[.int .i64 u, .int .i64 g, .int .i64 o, .slice a1 lu c1, .slice a2 lg c2, .bool r, .int .i64 m]) ∧ New w w' a1 lu us a2 lg gs :=
  (ownAcl_cap u g o au lu cu ag lg cg r m us gs w hu hg hl1 hl2).mono fun e w' ⟨a1, c1, a2, c2, h1, h2, _⟩ => ⟨a1, c1, a2, c2, h1, h2⟩
end Go.Proofs.YtdgejnaceeoooaaGreatDoor
/- An answer: a list of names and a code. -/
namespace Go.Proofs.YtdgejnaceeoooaaGreatDoor
open Go.RowKit Go.PlainAid Go.Deep
set_option linter.unusedVariables false
/-- Eight cells of a block. -/
structure Box8 (w : World) (B : Nat) (v0 v1 v2 v3 v4 v5 v6 v7 : Value) : Prop where
  lt : B < w.heap.size
  c0 : w.cell? ⟨B, 0, none⟩ = some v0
  c1 : w.cell? ⟨B, 1, none⟩ = some v1
  c2 : w.cell? ⟨B, 2, none⟩ = some v2
  c3 : w.cell? ⟨B, 3, none⟩ = some v3
  c4 : w.cell? ⟨B, 4, none⟩ = some v4
  c5 : w.cell? ⟨B, 5, none⟩ = some v5
  c6 : w.cell? ⟨B, 6, none⟩ = some v6
  c7 : w.cell? ⟨B, 7, none⟩ = some v7
theorem Box8.keep {w w' : World} {B : Nat} {v0 v1 v2 v3 v4 v5 v6 v7 : Value} (h : Box8 w B v0 v1 v2 v3 v4 v5 v6 v7) (hlt : B < w'.heap.size) (hc : ∀ o, w'.cell? ⟨B, o, none⟩ = w.cell? ⟨B, o, none⟩) : Box8 w' B v0 v1 v2 v3 v4 v5 v6 v7 :=
  ⟨hlt, (hc 0).trans h.c0, (hc 1).trans h.c1, (hc 2).trans h.c2, (hc 3).trans h.c3, (hc 4).trans h.c4, (hc 5).trans h.c5, (hc 6).trans h.c6, (hc 7).trans h.c7⟩
theorem Box8.below {w w' : World} {B : Nat} {v0 v1 v2 v3 v4 v5 v6 v7 : Value} (h : Box8 w B v0 v1 v2 v3 v4 v5 v6 v7) (hb : Below w.heap.size w w') : Box8 w' B v0 v1 v2 v3 v4 v5 v6 v7 :=
  h.keep (Nat.lt_of_lt_of_le h.lt hb.size) (fun o => hb.cell (p := ⟨B, o, none⟩) h.lt)
theorem box8_new (w : World) (v0 v1 v2 v3 v4 v5 v6 v7 : Value) (t : TypeId) : Box8 (w.alloc (.cells #[v0, v1, v2, v3, v4, v5, v6, v7] t)) w.heap.size v0 v1 v2 v3 v4 v5 v6 v7 := by
  have hb : (w.alloc (.cells #[v0, v1, v2, v3, v4, v5, v6, v7] t)).heap[w.heap.size]? = some (.cells #[v0, v1, v2, v3, v4, v5, v6, v7] t) := by
    rw [World.alloc]
    exact Array.getElem?_push_size
  refine ⟨by simp, ?_, ?_, ?_, ?_, ?_, ?_, ?_, ?_⟩ <;> (simp only [World.cell?, hb]; rfl)
/-- An answer. -/
structure Ans where
  u : Int
  g : Int
  o : Int
  us : List (Int × Int)
  gs : List (Int × Int)
  r : Bool
  m : Int
  code : Int
def illA (c : Int) : Ans := ⟨0, 0, 0, [], [], false, 0, c⟩
/-- An answer as a value, where its lists lie. -/
def ansV (x : Ans) (a1 : Option Addr) (c1 : Nat) (a2 : Option Addr) (c2 : Nat) : Value := .agg #[.int .i64 x.u, .int .i64 x.g, .int .i64 x.o, .slice a1 x.us.length c1, .slice a2 x.gs.length c2, .bool x.r, .int .i64 x.m, .int .i64 x.code]
theorem new_nil {w w' : World} (h : Below w.heap.size w w') : New w w' none 0 [] none 0 [] :=
  ⟨⟨rfl, fun h => absurd h (by omega)⟩, ⟨rfl, fun h => absurd h (by omega)⟩, (fun A e => by cases e), (fun A e => by cases e), (fun A A2 e => by cases e), h⟩
/-- What a call that answers so ends in. -/
def Answers (x : Ans) (w : World) (e : Ending) (w' : World) : Prop := ∃ a1 c1 a2 c2, e = .returned (ansV x a1 c1 a2 c2) ∧ New w w' a1 x.us.length x.us a2 x.gs.length x.gs
theorem answers_ill {x : Ans} {c : Int} (hx : x = illA c) {w w' : World} (h : Below w.heap.size w w') : Answers x w (.returned (.agg #[.int .i64 0, .int .i64 0, .int .i64 0, .slice none 0 0, .slice none 0 0, .bool false, .int .i64 0, .int .i64 c])) w' := by
  subst hx
  exact ⟨none, 0, none, 0, rfl, new_nil h⟩
theorem answers_of {x : Ans} {w w' : World} {u g o m code : Int} {lu lg : Nat} {us gs : List (Int × Int)} {r : Bool} {a1 a2 : Option Addr} {c1 c2 : Nat} (hx : x = ⟨u, g, o, us, gs, r, m, code⟩) (h1 : us.length = lu) (h2 : gs.length = lg) (h : New w w' a1 lu us a2 lg gs) : Answers x w (.returned (.agg #[.int .i64 u, .int .i64 g, .int .i64 o, .slice a1 lu c1, .slice a2 lg c2, .bool r, .int .i64 m, .int .i64 code])) w' := by
  subst hx h1 h2
  exact ⟨a1, c1, a2, c2, rfl, h⟩
end Go.Proofs.YtdgejnaceeoooaaGreatDoor
