/- An answer that is a list of aces in memory of its own; one that is such a list and a code. -/
import Derived.Test.YtddkmlkfphmdoaaDoorAceMark
namespace Go.Proofs.YtddkmlkfphmdoaaDoor
open Go.RowKit Go.PlainAid
set_option linter.unusedVariables false
/-- A list in memory that was made since. -/
structure NewA (w w' : World) (a : Option Addr) (n : Nat) (l : List Ac) : Prop where
  own : OwnA a n l w'
  inn : ∀ A, a = some A → w.heap.size ≤ A.block ∧ A.block < w'.heap.size
  bel : Below w.heap.size w w'
theorem NewA.on {w w' w2 : World} {a : Option Addr} {n : Nat} {l : List Ac} (h : NewA w w' a n l) (hb : Below w'.heap.size w' w2) : NewA w w2 a n l :=
  ⟨h.own.below hb, fun A e => ⟨(h.inn A e).1, Nat.lt_of_lt_of_le (h.inn A e).2 hb.size⟩, Below.on h.bel hb⟩
theorem NewA.pre {w w0 w' : World} {a : Option Addr} {n : Nat} {l : List Ac} (h : NewA w w' a n l) (hb : Below w0.heap.size w0 w) : NewA w0 w' a n l :=
  ⟨h.own, fun A e => ⟨Nat.le_trans hb.size (h.inn A e).1, (h.inn A e).2⟩, Below.on hb h.bel⟩
/-- A cell of the call's own that is not of the list is written. -/
theorem NewA.set {w w' : World} {a : Option Addr} {n : Nat} {l : List Ac} {b o : Nat} {v : Value} (h : NewA w w' a n l) (hb : w.heap.size ≤ b) (h1 : ∀ A, a = some A → b ≠ A.block) : NewA w (w'.setCell ⟨b, o, none⟩ v) a n l :=
  ⟨h.own.set h1, fun A e => by simpa using h.inn A e, bl_setA h.bel hb⟩
theorem newA_nil {w w' : World} (h : Below w.heap.size w w') : NewA w w' none 0 [] := ⟨ownA_nil _ _, (fun A e => by cases e), h⟩
/-- What a call that answers a list ends in. -/
def AnsL (xs : List Ac) (w : World) (e : Ending) (w' : World) : Prop := ∃ a c, e = .returned (.slice a xs.length c) ∧ NewA w w' a xs.length xs
/-- What a call that answers a list and a code ends in. -/
def AnsN (xs : List Ac) (code : Int) (w : World) (e : Ending) (w' : World) : Prop := ∃ a c, e = .returned (.agg #[.slice a xs.length c, .int .i64 code]) ∧ NewA w w' a xs.length xs
theorem AnsL.out {xs : List Ac} {w w' : World} {e : Ending} (h : AnsL xs w e w') : ∃ a c, e = .returned (.slice a xs.length c) ∧ NewA w w' a xs.length xs := h
theorem AnsN.out {xs : List Ac} {code : Int} {w w' : World} {e : Ending} (h : AnsN xs code w e w') : ∃ a c, e = .returned (.agg #[.slice a xs.length c, .int .i64 code]) ∧ NewA w w' a xs.length xs := h
/-- Two cells of a block. -/
structure Box2 (w : World) (B : Nat) (v0 v1 : Value) : Prop where
  lt : B < w.heap.size
  c0 : w.cell? ⟨B, 0, none⟩ = some v0
  c1 : w.cell? ⟨B, 1, none⟩ = some v1
theorem Box2.keep {w w' : World} {B : Nat} {v0 v1 : Value} (h : Box2 w B v0 v1) (hlt : B < w'.heap.size) (hc : ∀ o, w'.cell? ⟨B, o, none⟩ = w.cell? ⟨B, o, none⟩) : Box2 w' B v0 v1 := ⟨hlt, (hc 0).trans h.c0, (hc 1).trans h.c1⟩
theorem Box2.below {w w' : World} {B : Nat} {v0 v1 : Value} (h : Box2 w B v0 v1) (hb : Below w.heap.size w w') : Box2 w' B v0 v1 :=
  h.keep (Nat.lt_of_lt_of_le h.lt hb.size) (fun o => hb.cell (p := ⟨B, o, none⟩) h.lt)
theorem box2_new (w : World) (v0 v1 : Value) (t : TypeId) : Box2 (w.alloc (.cells #[v0, v1] t)) w.heap.size v0 v1 := by
  have hb : (w.alloc (.cells #[v0, v1] t)).heap[w.heap.size]? = some (.cells #[v0, v1] t) := by
    rw [World.alloc]
    exact Array.getElem?_push_size
  refine ⟨by simp, ?_, ?_⟩ <;> (simp only [World.cell?, hb]; rfl)
theorem Box2.other {w : World} {B b o : Nat} {v0 v1 v : Value} (h : Box2 w B v0 v1) (hne : b ≠ B) : Box2 (w.setCell ⟨b, o, none⟩ v) B v0 v1 :=
  h.keep (by simpa using h.lt) (fun o2 => World.cell?_setCell_other _ _ _ _ (by intro h; have h2 := congrArg Addr.block h; simp only at h2; omega))
set_option maxHeartbeats 2000000 in
/-- laws.eqNfsOut of two that hold the same. -/
theorem eqNfsOut_any (a a2 : Option Addr) (len cap cap2 : Nat) (code : Int) (l : List Ac) (hl : len ≤ 1048576) (w : World) (h1 : Acs a len l w) (h2 : Acs a2 len l w) :
    Calls Tryd.prog 8 #[.agg #[.slice a len cap, .int .i64 code], .agg #[.slice a2 len cap2, .int .i64 code]] w fun e w' => e = .returned (.bool true) ∧ Below w.heap.size w w' := by
  have hc : Hid (∀ w', Below w.heap.size w w' → Calls Tryd.prog 9 #[.slice a len cap, .slice a2 len cap2] w' fun e w'' => e = .returned (.bool true) ∧ Below w'.heap.size w' w'') := (fun w' hb => eqAceS_any a a2 len cap cap2 l hl w' (h1.below hb) (h2.below hb))
  have hA := box2_new w (.slice a len cap) (.int .i64 code) 26
  have hb0 := bel_alloc (w.alloc (.cells #[.slice a len cap, .int .i64 code] 26)) (.cells #[.slice a2 len cap2, .int .i64 code] 26)
  have hA2 := hA.below hb0
  have hC := box2_new (w.alloc (.cells #[.slice a len cap, .int .i64 code] 26)) (.slice a2 len cap2) (.int .i64 code) 26
  have hz : (w.alloc (.cells #[.slice a len cap, .int .i64 code] 26)).heap.size = w.heap.size + 1 := by simp
  rw [hz] at hC
  clear h1 h2 hA hb0 hz
  go_enter Tryd.func8, Tryd.ntmps8
  go_wp2_with fail
  refine (hc.out _ (bl2A _ _ _)).mono ?_
  rintro e w1 ⟨rfl, hb⟩
  have hbW : Hid (Below w.heap.size w w1) := Below.on (bl2A _ _ _) hb
  obtain ⟨xl, x0, x1⟩ := hA2.below hb
  obtain ⟨yl, y0, y1⟩ := hC.below hb
  clear hb hc hA2 hC
  go_wp2
  go_ret
  exact ⟨rfl, hbW.out⟩
set_option maxHeartbeats 2000000 in
/-- laws.markNfsOut. -/
theorem markNfsOut_any (a : Option Addr) (len cap : Nat) (code : Int) (k : Int) (l : List Ac) (h0 : 0 ≤ k) (h1 : k ≤ 100000000) (hl : len ≤ 1048576) (w : World) (ho : OwnA a len l w) (hin : ∀ A, a = some A → A.block < w.heap.size) :
    Calls Tryd.prog 11 #[.agg #[.slice a len cap, .int .i64 code], .int .i64 k] w fun e w' => e = .returned (.int .i64 (k + 5 * len)) ∧ OwnA a len (marksA k len) w' ∧ w.heap.size ≤ w'.heap.size ∧ (∀ c, c ≤ w.heap.size → (∀ A, a = some A → c ≤ A.block) → Below c w w') ∧ (∀ b o, b < w.heap.size → (∀ A, a = some A → b ≠ A.block) → w'.cell? ⟨b, o, none⟩ = w.cell? ⟨b, o, none⟩ ∧ w'.frozen? ⟨b, o, none⟩ = w.frozen? ⟨b, o, none⟩) := by
  have hb0 := bel_alloc w (.cells #[.slice a len cap, .int .i64 code] 26)
  have hc : Hid (Calls Tryd.prog 10 #[.slice a len cap, .int .i64 k] (w.alloc (.cells #[.slice a len cap, .int .i64 code] 26)) fun e w' => e = .returned (.int .i64 (k + 5 * len)) ∧ OwnA a len (marksA k len) w' ∧ w.heap.size ≤ w'.heap.size ∧ (∀ c, c ≤ w.heap.size → (∀ A, a = some A → c ≤ A.block) → Below c w w') ∧ (∀ b o, b < w.heap.size → (∀ A, a = some A → b ≠ A.block) → w'.cell? ⟨b, o, none⟩ = w.cell? ⟨b, o, none⟩ ∧ w'.frozen? ⟨b, o, none⟩ = w.frozen? ⟨b, o, none⟩)) := (by
    refine (markAceS_any a len cap k l h0 (by omega) hl _ (ho.below hb0)).mono ?_
    rintro e w' ⟨rfl, h3, h4⟩
    have hs := hb0.size
    have h5 := h4.size
    refine ⟨rfl, h3, by omega, fun c hc hA => (hb0.mono hc).trans (h4.below c hA), fun b o hb hA => ?_⟩
    have h6 := h4.cell b o hA
    exact ⟨h6.1.trans (hb0.cell (p := ⟨b, o, none⟩) hb), h6.2.trans (hb0.frozen (p := ⟨b, o, none⟩) hb)⟩)
  clear ho hin hb0
  go_enter Tryd.func11, Tryd.ntmps11
  go_wp2_with fail
  refine hc.out.mono ?_
  rintro e w1 ⟨rfl, R⟩
  have HR : Hid (OwnA a len (marksA k len) w1 ∧ w.heap.size ≤ w1.heap.size ∧ (∀ c, c ≤ w.heap.size → (∀ A, a = some A → c ≤ A.block) → Below c w w1) ∧ (∀ b o, b < w.heap.size → (∀ A, a = some A → b ≠ A.block) → w1.cell? ⟨b, o, none⟩ = w.cell? ⟨b, o, none⟩ ∧ w1.frozen? ⟨b, o, none⟩ = w.frozen? ⟨b, o, none⟩)) := R
  clear R hc
  go_wp2
  go_ret
  exact ⟨rfl, HR.out⟩
set_option maxHeartbeats 2000000 in
/-- laws.heldNfsOut of what mark wrote. -/
theorem heldNfsOut_any (a : Option Addr) (len cap : Nat) (code : Int) (k : Int) (h0 : 0 ≤ k) (h1 : k ≤ 100000000) (hl : len ≤ 1048576) (w : World) (ho : OwnA a len (marksA k len) w) :
    Calls Tryd.prog 12 #[.agg #[.slice a len cap, .int .i64 code], .int .i64 k] w fun e w' => e = .returned (.int .i64 (k + 5 * len)) ∧ Below w.heap.size w w' := by
  have d2 : decide (k + 5 * (len : Int) < 0) = false := by simp; omega
  have hc : Hid (Calls Tryd.prog 24 #[.slice a len cap, .int .i64 k] (w.alloc (.cells #[.slice a len cap, .int .i64 code] 26)) fun e w'' => e = .returned (.int .i64 (k + 5 * len)) ∧ w'' = (w.alloc (.cells #[.slice a len cap, .int .i64 code] 26))) := heldAceS_any a len cap k h0 (by omega) hl _ (ho.below (bel_alloc _ _))
  clear ho
  go_enter Tryd.func12, Tryd.ntmps12
  go_wp2_with fail
  refine hc.out.mono ?_
  rintro e w1 ⟨rfl, rfl⟩
  clear hc
  go_wp2
  go_ret
  exact ⟨rfl, bel_alloc _ _⟩
end Go.Proofs.YtddkmlkfphmdoaaDoor
