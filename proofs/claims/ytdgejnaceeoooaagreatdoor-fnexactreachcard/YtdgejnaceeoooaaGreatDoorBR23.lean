/- Laid together: ModeOf, MaskOf. -/
import Derived.Test.YtdgejnaceeoooaaGreatDoorBR7
import Derived.Test.YtdgejnaceeoooaaGreatDoorBR21
import Derived.Lib.QuietBelow
import Derived.Test.YtdgejnaceeoooaaGreatDoorBR22
/- ModeOf, the program's and the specification's. -/
namespace Go.Proofs.YtdgejnaceeoooaaGreatDoor
open Go.RowKit Go.PlainAid
set_option linter.unusedVariables false
/-- The group class. -/
def clsOf (g : Int) (r : Bool) (m : Int) : Int := if r then m else g
theorem clsOf_t (g m : Int) : clsOf g true m = m := rfl
theorem clsOf_f (g m : Int) : clsOf g false m = g := rfl
set_option maxHeartbeats 1000000 in
/-- impl.groupClass. -/
theorem groupClass_any (u g o : Int) (au : Option Addr) (lu cu : Nat) (ag : Option Addr) (lg cg : Nat) (r : Bool) (m : Int) (w : World) :
    Calls Tryz.prog 153 #[.agg #[.int .i64 u, .int .i64 g, .int .i64 o, .slice au lu cu, .slice ag lg cg, .bool r, .int .i64 m]] w fun e w' => e = .returned (.int .i64 (clsOf g r m)) ∧ Below w.heap.size w w' := by
  cases r <;>
  · go_enter Tryz.func153, Tryz.ntmps153
    go_wp2
    go_ret
    exact ⟨rfl, bel_alloc _ _⟩
set_option maxHeartbeats 1000000 in
/-- spec.l03Class. -/
theorem sClass_any (u g o : Int) (au : Option Addr) (lu cu : Nat) (ag : Option Addr) (lg cg : Nat) (r : Bool) (m : Int) (w : World) :
    Calls Tryz.prog 88 #[.agg #[.int .i64 u, .int .i64 g, .int .i64 o, .slice au lu cu, .slice ag lg cg, .bool r, .int .i64 m]] w fun e w' => e = .returned (.int .i64 (clsOf g r m)) ∧ Below w.heap.size w w' := by
  cases r <;>
  · go_enter Tryz.func88, Tryz.ntmps88
    go_wp2
    go_ret
    exact ⟨rfl, bel_alloc _ _⟩
theorem aclB_parts {u g o : Int} {us gs : List (Int × Int)} {r : Bool} {m : Int} (h : aclB u g o us gs r m = true) : (0 ≤ u ∧ u ≤ 7) ∧ (0 ≤ g ∧ g ≤ 7) ∧ (0 ≤ o ∧ o ≤ 7) ∧ (0 ≤ m ∧ m ≤ 7) ∧ nmB us = true ∧ nmB gs = true := by
  unfold aclB at h
  simp only [Bool.and_eq_true] at h
  exact ⟨inR_iff.1 h.1, inR_iff.1 h.2.1, inR_iff.1 h.2.2.1, inR_iff.1 h.2.2.2.1, h.2.2.2.2.1, h.2.2.2.2.2.1⟩
theorem clsOf_in {u g o : Int} {us gs : List (Int × Int)} {r : Bool} {m : Int} (h : aclB u g o us gs r m = true) : 0 ≤ clsOf g r m ∧ clsOf g r m ≤ 7 := by
  obtain ⟨_, h1, _, h2, _⟩ := aclB_parts h
  cases r
  · exact h1
  · exact h2
/-- ModeOf. -/
def modeOfB (u g o : Int) (us gs : List (Int × Int)) (r : Bool) (m : Int) : Int := if aclB u g o us gs r m then 64 * u + 8 * clsOf g r m + o else 0
theorem ret_intM {a b : Int} (h : a = b) : Ending.returned (.int .i64 a) = .returned (.int .i64 b) := by rw [h]
theorem or3 (u c o : Nat) (h1 : u ≤ 7) (h2 : c ≤ 7) (h3 : o ≤ 7) : bits .or .i64 (bits .or .i64 ((u * 64 : Nat) : Int) ((c * 8 : Nat) : Int)) (o : Int) = 64 * u + 8 * c + o := by
  rw [i64_or_nat (u * 64) (c * 8) (by omega) (by omega)]
  have e1 : u * 64 ||| c * 8 = u * 64 + c * 8 := by
    have := Nat.shiftLeft_add_eq_or_of_lt (b := c * 8) (i := 6) (by omega) u
    rw [Nat.shiftLeft_eq] at this
    exact this.symm
  rw [e1, i64_or_nat (u * 64 + c * 8) o (by omega) (by omega)]
  have e2 : (u * 64 + c * 8) ||| o = u * 64 + c * 8 + o := by
    have := Nat.shiftLeft_add_eq_or_of_lt (b := o) (i := 3) (by omega) (u * 8 + c)
    rw [Nat.shiftLeft_eq] at this
    have e : (u * 8 + c) * 2 ^ 3 = u * 64 + c * 8 := by omega
    rw [e] at this
    exact this.symm
  rw [e2]
  omega
theorem or3i (u c o : Int) (a0 : 0 ≤ u) (h1 : u ≤ 7) (b0 : 0 ≤ c) (h2 : c ≤ 7) (c0 : 0 ≤ o) (h3 : o ≤ 7) : bits .or .i64 (bits .or .i64 (u * 64) (c * 8)) o = 64 * u + 8 * c + o := by
  obtain ⟨a, rfl⟩ := Int.eq_ofNat_of_zero_le a0
  obtain ⟨b, rfl⟩ := Int.eq_ofNat_of_zero_le b0
  obtain ⟨c, rfl⟩ := Int.eq_ofNat_of_zero_le c0
  exact or3 a b c (by omega) (by omega) (by omega)
set_option maxHeartbeats 4000000 in
/-- impl.ModeOf. -/
theorem iModeOf_any (u g o : Int) (au : Option Addr) (lu cu : Nat) (ag : Option Addr) (lg cg : Nat) (r : Bool) (m : Int) (us gs : List (Int × Int)) (w : World) (hu : Prs au lu us w) (hg : Prs ag lg gs w) :
    Calls Tryz.prog 97 #[.agg #[.int .i64 u, .int .i64 g, .int .i64 o, .slice au lu cu, .slice ag lg cg, .bool r, .int .i64 m]] w fun e w' => e = .returned (.int .i64 (modeOfB u g o us gs r m)) ∧ Below w.heap.size w w' := by
  have hc : Hid (∀ w', Below w.heap.size w w' → Calls Tryz.prog 152 #[.agg #[.int .i64 u, .int .i64 g, .int .i64 o, .slice au lu cu, .slice ag lg cg, .bool r, .int .i64 m]] w' fun e w'' => e = .returned (.bool (aclB u g o us gs r m)) ∧ Below w'.heap.size w' w'') := (fun w' hb => iAclRight_any u g o au lu cu ag lg cg r m us gs w' (hu.below hb) (hg.below hb))
  clear hu hg
  go_enter Tryz.func97, Tryz.ntmps97
  go_wp2_with fail
  refine (hc.out _ (bel_alloc _ _)).mono ?_
  rintro e w1 ⟨rfl, hb⟩
  have hW1 : Hid (Below w.heap.size w w1) := Below.on (bel_alloc _ _) hb
  obtain ⟨xl, x0, x1, x2, x3, x4, x5, x6⟩ := (box7_new w (.int .i64 u) (.int .i64 g) (.int .i64 o) (.slice au lu cu) (.slice ag lg cg) (.bool r) (.int .i64 m) 81).below hb
  clear hb hc
  cases h : aclB u g o us gs r m
  · have hno : Hid (modeOfB u g o us gs r m = 0) := (by show _ = _; simp [modeOfB, h])
    clear h
    go_wp2
    go_ret
    exact ⟨by rw [hno.out]; rfl, hW1.out⟩
  · have hyes : Hid (modeOfB u g o us gs r m = 64 * u + 8 * clsOf g r m + o) := (by show _ = _; simp [modeOfB, h])
    obtain ⟨⟨u0, u1⟩, _, ⟨o0, o1⟩, _⟩ := aclB_parts h
    obtain ⟨k0, k1⟩ := clsOf_in h
    clear h
    have cA : ∀ w d os, Calls Tryz.prog 153 #[.agg #[.int .i64 u, .int .i64 g, .int .i64 o, .slice au lu cu, .slice ag lg cg, .bool r, .int .i64 m]] (Go.Sort.grow (redrawn w d) os) fun e w'' => e = .returned (.int .i64 (clsOf g r m)) ∧ ∃ p : Regrown, w'' = Go.Sort.grow (redrawn w p.d) p.os := fun w d os => Calls.regrown_of (groupClass_any u g o au lu cu ag lg cg r m _)
    have HK : Hid (clsOf g r m = clsOf g r m) := rfl
    generalize clsOf g r m = k at cA hyes k0 k1 HK
    have z0 : ∀ d os, (Go.Sort.grow (redrawn w1 d) os).cell? ⟨w.heap.size, 0, none⟩ = some (.int .i64 u) := fun d os => cell_regrown x0 d os
    have z1 : ∀ d os, (Go.Sort.grow (redrawn w1 d) os).cell? ⟨w.heap.size, 1, none⟩ = some (.int .i64 g) := fun d os => cell_regrown x1 d os
    have z2 : ∀ d os, (Go.Sort.grow (redrawn w1 d) os).cell? ⟨w.heap.size, 2, none⟩ = some (.int .i64 o) := fun d os => cell_regrown x2 d os
    have z3 : ∀ d os, (Go.Sort.grow (redrawn w1 d) os).cell? ⟨w.heap.size, 3, none⟩ = some (.slice au lu cu) := fun d os => cell_regrown x3 d os
    have z4 : ∀ d os, (Go.Sort.grow (redrawn w1 d) os).cell? ⟨w.heap.size, 4, none⟩ = some (.slice ag lg cg) := fun d os => cell_regrown x4 d os
    have z5 : ∀ d os, (Go.Sort.grow (redrawn w1 d) os).cell? ⟨w.heap.size, 5, none⟩ = some (.bool r) := fun d os => cell_regrown x5 d os
    have z6 : ∀ d os, (Go.Sort.grow (redrawn w1 d) os).cell? ⟨w.heap.size, 6, none⟩ = some (.int .i64 m) := fun d os => cell_regrown x6 d os
    clear x0 x1 x2 x3 x4 x5 x6
    go_wp2
    refine wp_region_quiet_below (by kernel_rfl) (by kernel_rfl) ?_
    repeat (go_big_quiet_step (exact cA _ _ _))
    refine wpQuiet_nil ?_
    intro _ hw'
    obtain ⟨⟨dq, osq⟩, hw''⟩ := hw'
    subst hw''
    have hbq : Hid (Below w.heap.size w (Go.Sort.grow (redrawn w1 dq) osq)) := Below.on hW1.out (below_regrown w1 dq osq)
    generalize Go.Sort.grow (redrawn w1 dq) osq = w2 at hbq ⊢
    clear z0 z1 z2 z3 z4 z5 z6 cA
    go_wp2
    go_ret
    exact ⟨ret_intM (by rw [hyes.out]; exact or3i u k o u0 u1 k0 k1 o0 o1), hbq.out⟩
set_option maxHeartbeats 4000000 in
/-- spec.l03Mode. -/
theorem sMode03_any (u g o : Int) (au : Option Addr) (lu cu : Nat) (ag : Option Addr) (lg cg : Nat) (r : Bool) (m : Int) (a0 : 0 ≤ u) (h1 : u ≤ 7) (b0 : 0 ≤ clsOf g r m) (h2 : clsOf g r m ≤ 7) (c0 : 0 ≤ o) (h3 : o ≤ 7) (w : World) :
    Calls Tryz.prog 96 #[.agg #[.int .i64 u, .int .i64 g, .int .i64 o, .slice au lu cu, .slice ag lg cg, .bool r, .int .i64 m]] w fun e w' => e = .returned (.int .i64 (64 * u + 8 * clsOf g r m + o)) ∧ Below w.heap.size w w' := by
  have cA : ∀ w d os, Calls Tryz.prog 88 #[.agg #[.int .i64 u, .int .i64 g, .int .i64 o, .slice au lu cu, .slice ag lg cg, .bool r, .int .i64 m]] (Go.Sort.grow (redrawn w d) os) fun e w'' => e = .returned (.int .i64 (clsOf g r m)) ∧ ∃ p : Regrown, w'' = Go.Sort.grow (redrawn w p.d) p.os := fun w d os => Calls.regrown_of (sClass_any u g o au lu cu ag lg cg r m _)
  generalize clsOf g r m = k at cA b0 h2 ⊢
  go_enter Tryz.func96, Tryz.ntmps96
  obtain ⟨xl, x0, x1, x2, x3, x4, x5, x6⟩ := box7_new w (.int .i64 u) (.int .i64 g) (.int .i64 o) (.slice au lu cu) (.slice ag lg cg) (.bool r) (.int .i64 m) 81
  have hW1 : Hid (Below w.heap.size w (w.alloc (.cells #[.int .i64 u, .int .i64 g, .int .i64 o, .slice au lu cu, .slice ag lg cg, .bool r, .int .i64 m] 81))) := bel_alloc _ _
  go_wp2
  generalize w.alloc (.cells #[.int .i64 u, .int .i64 g, .int .i64 o, .slice au lu cu, .slice ag lg cg, .bool r, .int .i64 m] 81) = w1 at xl x0 x1 x2 x3 x4 x5 x6 hW1 ⊢
  have z0 : ∀ d os, (Go.Sort.grow (redrawn w1 d) os).cell? ⟨w.heap.size, 0, none⟩ = some (.int .i64 u) := fun d os => cell_regrown x0 d os
  have z1 : ∀ d os, (Go.Sort.grow (redrawn w1 d) os).cell? ⟨w.heap.size, 1, none⟩ = some (.int .i64 g) := fun d os => cell_regrown x1 d os
  have z2 : ∀ d os, (Go.Sort.grow (redrawn w1 d) os).cell? ⟨w.heap.size, 2, none⟩ = some (.int .i64 o) := fun d os => cell_regrown x2 d os
  have z3 : ∀ d os, (Go.Sort.grow (redrawn w1 d) os).cell? ⟨w.heap.size, 3, none⟩ = some (.slice au lu cu) := fun d os => cell_regrown x3 d os
  have z4 : ∀ d os, (Go.Sort.grow (redrawn w1 d) os).cell? ⟨w.heap.size, 4, none⟩ = some (.slice ag lg cg) := fun d os => cell_regrown x4 d os
  have z5 : ∀ d os, (Go.Sort.grow (redrawn w1 d) os).cell? ⟨w.heap.size, 5, none⟩ = some (.bool r) := fun d os => cell_regrown x5 d os
  have z6 : ∀ d os, (Go.Sort.grow (redrawn w1 d) os).cell? ⟨w.heap.size, 6, none⟩ = some (.int .i64 m) := fun d os => cell_regrown x6 d os
  clear x0 x1 x2 x3 x4 x5 x6
  refine wp_region_quiet_below (by kernel_rfl) (by kernel_rfl) ?_
  repeat (go_big_quiet_step (exact cA _ _ _))
  refine wpQuiet_nil ?_
  intro _ hw'
  obtain ⟨⟨dq, osq⟩, hw''⟩ := hw'
  subst hw''
  have hbq : Hid (Below w.heap.size w (Go.Sort.grow (redrawn w1 dq) osq)) := Below.on hW1.out (below_regrown w1 dq osq)
  generalize Go.Sort.grow (redrawn w1 dq) osq = w2 at hbq ⊢
  clear z0 z1 z2 z3 z4 z5 z6 cA
  go_wp2
  go_ret
  exact ⟨rfl, hbq.out⟩
end Go.Proofs.YtdgejnaceeoooaaGreatDoor
/- MaskOf, the program's and the specification's: the bits in Group, or in one of Users or Groups. -/
namespace Go.Proofs.YtdgejnaceeoooaaGreatDoor
open Go.RowKit Go.PlainAid Go.Deep
set_option linter.unusedVariables false
/-- Of two things the first, or the second. -/
def two {α : Type} (x y : α) (j : Nat) : α := if j = 0 then x else y
theorem cat_two (us gs : List (Int × Int)) : cat (two us gs) 2 = us ++ gs := by simp [cat, two]
theorem row2_new (w : World) (v0 v1 : Value) (t : TypeId) : (w.alloc (.cells #[v0, v1] t)).cell? ⟨w.heap.size, 0, none⟩ = some v0 ∧ (w.alloc (.cells #[v0, v1] t)).cell? ⟨w.heap.size, 1, none⟩ = some v1 := by
  have hb : (w.alloc (.cells #[v0, v1] t)).heap[w.heap.size]? = some (.cells #[v0, v1] t) := by
    rw [World.alloc]
    exact Array.getElem?_push_size
  refine ⟨?_, ?_⟩ <;> (simp only [World.cell?, hb]; rfl)
/-- slices.Concat of two lists, the row of which has just been made. -/
theorem concat_two (w0 : World) (X : Nat) (hX : X = w0.heap.size) (t : TypeId) (cap : Nat) (au : Option Addr) (lu cu : Nat) (us : List (Int × Int)) (ag : Option Addr) (lg cg : Nat) (gs : List (Int × Int)) (hN : lu + lg ≤ 1000000) (hu : Prs au lu us w0) (hg : Prs ag lg gs w0) :
    Calls Tryz.prog 231 #[.slice (some ⟨X, 0, none⟩) 2 cap] (w0.alloc (.cells #[.slice au lu cu, .slice ag lg cg] t)) fun e w' => ∃ a c, e = .returned (.slice a (lu + lg) c) ∧ lu + lg ≤ c ∧ Own a (lu + lg) (us ++ gs) w' ∧ (∀ Ad, a = some Ad → w0.heap.size ≤ Ad.block ∧ Ad.block < w'.heap.size) ∧ Below w0.heap.size w0 w' := by
  subst hX
  have hb := bel_alloc w0 (.cells #[.slice au lu cu, .slice ag lg cg] t)
  obtain ⟨r0, r1⟩ := row2_new w0 (.slice au lu cu) (.slice ag lg cg) t
  have e1 := hu.1
  have e2 := hg.1
  have hl : (cat (two us gs) 2).length = lu + lg := by rw [cat_two, List.length_append, e1, e2]
  refine (concat_any w0.heap.size 2 cap (two au ag) (two cu cg) (two us gs) (by omega) (by rw [hl]; omega) _ (by simp) ?_).mono ?_
  · intro j hj
    rcases (by omega : j = 0 ∨ j = 1) with rfl | rfl
    · refine ⟨?_, ?_⟩
      · show _ = some (Value.slice au us.length cu)
        rw [e1]
        exact r0
      · show Prs au us.length us _
        rw [e1]
        exact hu.below hb
    · refine ⟨?_, ?_⟩
      · show _ = some (Value.slice ag gs.length cg)
        rw [e2]
        exact r1
      · show Prs ag gs.length gs _
        rw [e2]
        exact hg.below hb
  · rintro e w' ⟨a, c, rfl, hc, ho, hin, hbel⟩
    rw [hl] at ho hc ⊢
    rw [cat_two] at ho
    refine ⟨a, c, rfl, hc, ho, fun Ad e => ?_, Below.on hb hbel⟩
    have := hin Ad e
    have h2 := hb.size
    exact ⟨by omega, this.2⟩
theorem zero_len {l : List (Int × Int)} (h : l.length = 0) (g : Int) : orTo g l l.length = g := by rw [h]; rfl
end Go.Proofs.YtdgejnaceeoooaaGreatDoor
