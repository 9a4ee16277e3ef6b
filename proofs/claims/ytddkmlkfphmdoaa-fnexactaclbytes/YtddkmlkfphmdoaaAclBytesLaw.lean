/- The law FnExactAclBytes, of a list of names that is not too long, and of one that is. -/
import Derived.Test.YtddkmlkfphmdoaaIAb
import Derived.Test.YtddkmlkfphmdoaaAclEq
import Derived.Test.YtddkmlkfphmdoaaLawAid
import Derived.Deep.RegionWith
import Derived.BigRegion
namespace Go.Proofs.Ytddkmlkfphmdoaa
open Go.RowKit Go.PlainAid
set_option linter.unusedVariables false
set_option maxHeartbeats 2000000 in
theorem aclBytes_long (u g o : Int) (au : Option Addr) (lu cu : Nat) (ag : Option Addr) (lg cg : Nat) (r : Bool) (m : Int) (hl : ¬ (lu + lg ≤ 1048576)) (hm : lu ≤ 9223372036854775807) (hm2 : lg ≤ 9223372036854775807) (w : World) :
    Calls Try.prog 3 #[.agg #[.int .i64 u, .int .i64 g, .int .i64 o, .slice au lu cu, .slice ag lg cg, .bool r, .int .i64 m]] w fun e w' => e = .returned (.bool true) ∧ Below w.heap.size w w' := by
  have hc : Hid (∀ w, Calls Try.prog 6 #[.agg #[.int .i64 u, .int .i64 g, .int .i64 o, .slice au lu cu, .slice ag lg cg, .bool r, .int .i64 m], .int .i64 1048576] w fun e w' => e = .returned (.int .i64 (-1)) ∧ Below w.heap.size w w') := (by
    intro w
    have := szAcl_any u g o au lu cu ag lg cg r m 1048576 (by omega) (by omega) hm hm2 w
    rw [szB_neg hl] at this
    exact this)
  clear hl hm hm2
  go_enter Try.func3, Try.ntmps3
  go_wp2_with (go_at_call 6; refine (hc.out _).mono ?_; rintro e w1 ⟨rfl, hb1⟩)
  go_ret
  exact ⟨rfl, Below.on (bel_alloc _ _) hb1⟩
set_option maxHeartbeats 4000000 in
theorem aclBytes_short (u g o : Int) (au : Option Addr) (lu cu : Nat) (ag : Option Addr) (lg cg : Nat) (r : Bool) (m : Int) (us gs : List (Int × Int)) (hl : lu + lg ≤ 1048576) (w : World) (hu : Prs au lu us w) (hg : Prs ag lg gs w) :
    Calls Try.prog 3 #[.agg #[.int .i64 u, .int .i64 g, .int .i64 o, .slice au lu cu, .slice ag lg cg, .bool r, .int .i64 m]] w fun e w' => e = .returned (.bool true) ∧ Below w.heap.size w w' := by
  have hl1 : lu ≤ 1048576 := by omega
  have hl2 : lg ≤ 1048576 := by omega
  have hz : Hid (∀ w, Calls Try.prog 6 #[.agg #[.int .i64 u, .int .i64 g, .int .i64 o, .slice au lu cu, .slice ag lg cg, .bool r, .int .i64 m], .int .i64 1048576] w fun e w' => e = .returned (.int .i64 (1048576 - lu - lg)) ∧ Below w.heap.size w w') := (by
    intro w
    have := szAcl_any u g o au lu cu ag lg cg r m 1048576 (by omega) (by omega) (by omega) (by omega) w
    rw [szB_pos hl] at this
    exact this)
  have ht : Hid (∀ w', Below w.heap.size w w' → Calls Try.prog 8 #[.agg #[.int .i64 u, .int .i64 g, .int .i64 o, .slice au lu cu, .slice ag lg cg, .bool r, .int .i64 m]] w' fun e w'' => ∃ B1 B2, e = .returned (.agg #[.int .i64 u, .int .i64 g, .int .i64 o, .slice (some ⟨B1, 0, none⟩) lu lu, .slice (some ⟨B2, 0, none⟩) lg lg, .bool r, .int .i64 m]) ∧
      Own (some ⟨B1, 0, none⟩) lu us w'' ∧ Own (some ⟨B2, 0, none⟩) lg gs w'' ∧ w'.heap.size ≤ B1 ∧ B1 < B2 ∧ B2 < w''.heap.size ∧ Below w'.heap.size w' w'') := (fun w' hb => toAcl_any u g o au lu cu ag lg cg r m us gs hl1 hl2 w' (hu.below hb) (hg.below hb))
  have d1 : decide (1048576 - (lu : Int) - (lg : Int) < 0) = false := by simp; omega
  have hB0 : Hid (Below w.heap.size w (w.alloc (.cells #[.int .i64 u, .int .i64 g, .int .i64 o, .slice au lu cu, .slice ag lg cg, .bool r, .int .i64 m] 24))) := bel_alloc _ _
  have HL : Hid (lu ≤ 1048576 ∧ lg ≤ 1048576) := ⟨hl1, hl2⟩
  clear hu hg hl hl1 hl2
  go_enter Try.func3, Try.ntmps3
  have hX0 := box7_new w (.int .i64 u) (.int .i64 g) (.int .i64 o) (.slice au lu cu) (.slice ag lg cg) (.bool r) (.int .i64 m) 24
  go_wp2_with fail
  refine (hz.out _).mono ?_
  rintro e w1 ⟨rfl, hb1⟩
  obtain ⟨xl, x0, x1, x2, x3, x4, x5, x6⟩ := hX0.below hb1
  have hW1 : Hid (Below w.heap.size w w1) := Below.on hB0.out hb1
  clear hb1 hX0
  go_wp2_with fail
  refine (ht.out _ hW1.out).mono ?_
  rintro e w2 ⟨B1, B2, rfl, hU, hG, _, _, _, hb2⟩
  have hX2 := (Box7.mk xl x0 x1 x2 x3 x4 x5 x6).below hb2
  have hW2 : Hid (Below w.heap.size w w2) := Below.on hW1.out hb2
  clear hb2 xl x0 x1 x2 x3 x4 x5 x6 hW1
  go_wp2_with fail
  refine (sAclBytes_any u g o _ lu lu _ lg lg r m us gs HL.out.1 HL.out.2 _ hU.prs hG.prs).mono ?_
  rintro e w3 ⟨rfl, hb3⟩
  obtain ⟨xl, x0, x1, x2, x3, x4, x5, x6⟩ := hX2.below hb3
  have hW3 : Hid (Below w.heap.size w w3) := Below.on hW2.out hb3
  clear hb3 hX2 hW2 hU hG
  go_wp2_with fail
  refine (ht.out _ hW3.out).mono ?_
  rintro e w4 ⟨B3, B4, rfl, hU, hG, _, _, _, hb4⟩
  have hX4 := (Box7.mk xl x0 x1 x2 x3 x4 x5 x6).below hb4
  have hW4 : Hid (Below w.heap.size w w4) := Below.on hW3.out hb4
  clear hb4 xl x0 x1 x2 x3 x4 x5 x6 hW3
  have hb5 := bel_alloc w4 (.cells #[.int .i64 u, .int .i64 g, .int .i64 o, .slice (some ⟨B3, 0, none⟩) lu lu, .slice (some ⟨B4, 0, none⟩) lg lg, .bool r, .int .i64 m] 29)
  have hX5 := hX4.below hb5
  have hY5 := box7_new w4 (.int .i64 u) (.int .i64 g) (.int .i64 o) (.slice (some ⟨B3, 0, none⟩) lu lu) (.slice (some ⟨B4, 0, none⟩) lg lg) (.bool r) (.int .i64 m) 29
  have hU5 := hU.below hb5
  have hG5 := hG.below hb5
  have hW5 : Hid (Below w.heap.size w (w4.alloc (.cells #[.int .i64 u, .int .i64 g, .int .i64 o, .slice (some ⟨B3, 0, none⟩) lu lu, .slice (some ⟨B4, 0, none⟩) lg lg, .bool r, .int .i64 m] 29))) := Below.on hW4.out hb5
  clear hb5 hX4 hU hG hW4
  go_wp2_with fail
  refine (iAclBytes_any u g o _ lu lu _ lg lg r m us gs _ hU5.prs hG5.prs).mono ?_
  rintro e w6 ⟨rfl, hb6⟩
  have hW6 : Hid (Below w.heap.size w w6) := Below.on hW5.out hb6
  obtain ⟨xl, x0, x1, x2, x3, x4, x5, x6⟩ := hX5.below hb6
  obtain ⟨yl, y0, y1, y2, y3, y4, y5, y6⟩ := hY5.below hb6
  have hU6 : Hid (Own (some ⟨B3, 0, none⟩) lu us w6) := hU5.below hb6
  have hG6 : Hid (Own (some ⟨B4, 0, none⟩) lg gs w6) := hG5.below hb6
  clear hb6 hX5 hY5 hU5 hG5 hW5
  generalize w4.heap.size = X at yl y0 y1 y2 y3 y4 y5 y6 ⊢
  generalize abT u g o us gs r m = cb
  go_wp2_with fail
  go_region_with (first | (go_at_call 8; refine (ht.out _ (below_drewD hW6.out)).mono ?_; rintro e w7 ⟨B5, B6, rfl, hU7, hG7, _, _, _, hb7⟩; obtain ⟨hcl, hfz⟩ := bl_cellN hb7; simp at hcl hfz) | (go_at_call 10; refine (eqAcl_any u g o _ _ lu lu lu _ _ lg lg lg r m us gs HL.out.1 HL.out.2 _ (hU6.out.below (below_drewE hb7)).prs hU7.prs (hG6.out.below (below_drewE hb7)).prs hG7.prs).mono ?_; rintro e w8 ⟨rfl, hb8⟩))
  all_goals (
    go_wp2
    go_ret
    exact ⟨rfl, Below.on (Below.on hW6.out (below_drewE hb7)) hb8⟩)
end Go.Proofs.Ytddkmlkfphmdoaa
