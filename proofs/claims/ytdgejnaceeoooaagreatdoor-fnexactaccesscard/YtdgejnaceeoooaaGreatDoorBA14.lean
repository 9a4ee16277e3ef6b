/- Laid together: ModeOf, MaskOf. -/
import Derived.Test.YtdgejnaceeoooaaGreatDoorBA7
import Derived.Test.YtdgejnaceeoooaaGreatDoorBA12
import Derived.Lib.QuietBelow
import Derived.Test.YtdgejnaceeoooaaGreatDoorBA13
/- ModeOf, the program's and the specification's. -/
namespace Go.Proofs.YtdgejnaceeoooaaGreatDoor
open Go.RowKit Go.PlainAid
set_option linter.unusedVariables false
/-- The group class. -/
def clsOf (g : Int) (r : Bool) (m : Int) : Int := if r then m else g
set_option maxHeartbeats 1000000 in
/-- impl.groupClass. -/
theorem groupClass_any (u g o : Int) (au : Option Addr) (lu cu : Nat) (ag : Option Addr) (lg cg : Nat) (r : Bool) (m : Int) (w : World) :
    Calls Tryz.prog 153 #[.agg #[.int .i64 u, .int .i64 g, .int .i64 o, .slice au lu cu, .slice ag lg cg, .bool r, .int .i64 m]] w fun e w' => e = .returned (.int .i64 (clsOf g r m)) ∧ Below w.heap.size w w' := by
  cases r <;>
  · go_enter Tryz.func153, Tryz.ntmps153
    go_wp2
    go_ret
    exact ⟨rfl, bel_alloc _ _⟩
set_option maxHeartbeats 1000000 in
/-- spec.l03Class. -/
theorem sClass_any (u g o : Int) (au : Option Addr) (lu cu : Nat) (ag : Option Addr) (lg cg : Nat) (r : Bool) (m : Int) (w : World) :
    Calls Tryz.prog 88 #[.agg #[.int .i64 u, .int .i64 g, .int .i64 o, .slice au lu cu, .slice ag lg cg, .bool r, .int .i64 m]] w fun e w' => e = .returned (.int .i64 (clsOf g r m)) ∧ Below w.heap.size w w' := by
  cases r <;>
  · go_enter Tryz.func88, Tryz.ntmps88
    go_wp2
    go_ret
    exact ⟨rfl, bel_alloc _ _⟩
theorem aclB_parts {u g o : Int} {us gs : List (Int × Int)} {r : Bool} {m : Int} (h : aclB u g o us gs r m = true) : (0 ≤ u ∧ u ≤ 7) ∧ (0 ≤ g ∧ g ≤ 7) ∧ (0 ≤ o ∧ o ≤ 7) ∧ (0 ≤ m ∧ m ≤ 7) ∧ nmB us = true ∧ nmB gs = true := by
  unfold aclB at h
  simp only [Bool.and_eq_true] at h
  exact ⟨inR_iff.1 h.1, inR_iff.1 h.2.1, inR_iff.1 h.2.2.1, inR_iff.1 h.2.2.2.1, h.2.2.2.2.1, h.2.2.2.2.2.1⟩
theorem clsOf_in {u g o : Int} {us gs : List (Int × Int)} {r : Bool} {m : Int} (h : aclB u g o us gs r m = true) : 0 ≤ clsOf g r m ∧ clsOf g r m ≤ 7 := by
  obtain ⟨_, h1, _, h2, _⟩ := aclB_parts h
  cases r
  · exact h1
  · exact h2
/-- ModeOf. -/
def modeOfB (u g o : Int) (us gs : List (Int × Int)) (r : Bool) (m : Int) : Int := if aclB u g o us gs r m then 64 * u + 8 * clsOf g r m + o else 0
theorem ret_intM {a b : Int} (h : a = b) : Ending.returned (.int .i64 a) = .returned (.int .i64 b) := by rw [h]
end Go.Proofs.YtdgejnaceeoooaaGreatDoor
/- MaskOf, the program's and the specification's: the bits in Group, or in one of Users or Groups. -/
namespace Go.Proofs.YtdgejnaceeoooaaGreatDoor
open Go.RowKit Go.PlainAid Go.Deep
set_option linter.unusedVariables false
/-- Of two things the first, or the second. -/
def two {α : Type} (x y : α) (j : Nat) : α := if j = 0 then x else y
theorem cat_two (us gs : List (Int × Int)) : cat (two us gs) 2 = us ++ gs := by simp [cat, two]
theorem row2_new (w : World) (v0 v1 : Value) (t : TypeId) : (w.alloc (.cells #[v0, v1] t)).cell? ⟨w.heap.size, 0, none⟩ = some v0 ∧ (w.alloc (.cells #[v0, v1] t)).cell? ⟨w.heap.size, 1, none⟩ = some v1 := by
  have hb : (w.alloc (.cells #[v0, v1] t)).heap[w.heap.size]? = some (.cells #[v0, v1] t) := by
    rw [World.alloc]
    exact Array.getElem?_push_size
  refine ⟨?_, ?_⟩ <;> (simp only [World.cell?, hb]; rfl)
/-- slices.Concat of two lists, the row of which has just been made. -/
theorem concat_two (w0 : World) (X : Nat) (hX : X = w0.heap.size) (t : TypeId) (cap : Nat) (au : Option Addr) (lu cu : Nat) (us : List (Int × Int)) (ag : Option Addr) (lg cg : Nat) (gs : List (Int × Int)) (hN : lu + lg ≤ 1000000) (hu : Prs au lu us w0) (hg : Prs ag lg gs w0) :
    Calls Tryz.prog 231 #[.slice (some ⟨X, 0, none⟩) 2 cap] (w0.alloc (.cells #[.slice au lu cu, .slice ag lg cg] t)) fun e w' => ∃ a c, e = .returned (.slice a (lu + lg) c) ∧ lu + lg ≤ c ∧ Own a (lu + lg) (us ++ gs) w' ∧ (∀ Ad, a = some Ad → w0.heap.size ≤ Ad.block ∧ Ad.block < w'.heap.size) ∧ Below w0.heap.size w0 w' := by
  subst hX
  have hb := bel_alloc w0 (.cells #[.slice au lu cu, .slice ag lg cg] t)
  obtain ⟨r0, r1⟩ := row2_new w0 (.slice au lu cu) (.slice ag lg cg) t
  have e1 := hu.1
  have e2 := hg.1
  have hl : (cat (two us gs) 2).length = lu + lg := by rw [cat_two, List.length_append, e1, e2]
  refine (concat_any w0.heap.size 2 cap (two au ag) (two cu cg) (two us gs) (by omega) (by rw [hl]; omega) _ (by simp) ?_).mono ?_
  · intro j hj
    rcases (by omega : j = 0 ∨ j = 1) with rfl | rfl
    · refine ⟨?_, ?_⟩
      · show _ = some (Value.slice au us.length cu)
        rw [e1]
        exact r0
      · show Prs au us.length us _
        rw [e1]
        exact hu.below hb
    · refine ⟨?_, ?_⟩
      · show _ = some (Value.slice ag gs.length cg)
        rw [e2]
        exact r1
      · show Prs ag gs.length gs _
        rw [e2]
        exact hg.below hb
  · rintro e w' ⟨a, c, rfl, hc, ho, hin, hbel⟩
    rw [hl] at ho hc ⊢
    rw [cat_two] at ho
    refine ⟨a, c, rfl, hc, ho, fun Ad e => ?_, Below.on hb hbel⟩
    have := hin Ad e
    have h2 := hb.size
    exact ⟨by omega, this.2⟩
end Go.Proofs.YtdgejnaceeoooaaGreatDoor
