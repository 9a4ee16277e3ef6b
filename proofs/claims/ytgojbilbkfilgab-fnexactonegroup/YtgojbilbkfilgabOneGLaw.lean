/- The law FnExactOneGroup, of lists that are not too long, and of ones that are. -/
import Derived.Test.YtgojbilbkfilgabOneG
import Derived.Test.YtgojbilbkfilgabLawAid
import Derived.Deep.RegionWith
import Derived.BigRegion
import Derived.Deep.RegionHeld3
namespace Go.Proofs.Ytgojbilbkfilgab
open Go.RowKit Go.PlainAid Go.Deep
set_option linter.unusedVariables false
set_option maxHeartbeats 2000000 in
theorem oneGroup_long (u g o : Int) (au : Option Addr) (lu cu : Nat) (ag : Option Addr) (lg cg : Nat) (r : Bool) (m : Int) (group cu' cg' : Int) (ca : Option Addr) (cl cc : Nat) (cr : Bool) (hl : ¬ (lu + lg ≤ 1048576)) (hm : lu ≤ 9223372036854775807) (hm2 : lg ≤ 9223372036854775807) (w : World) :
    Calls Try.prog 3 #[.agg #[.int .i64 u, .int .i64 g, .int .i64 o, .slice au lu cu, .slice ag lg cg, .bool r, .int .i64 m], .int .i64 group, .agg #[.int .i64 cu', .int .i64 cg', .slice ca cl cc, .bool cr]] w fun e w' => e = .returned (.bool true) ∧ Below w.heap.size w w' := by
  have hc : Hid (∀ w, Calls Try.prog 4 #[.agg #[.int .i64 u, .int .i64 g, .int .i64 o, .slice au lu cu, .slice ag lg cg, .bool r, .int .i64 m], .int .i64 1048576] w fun e w' => e = .returned (.int .i64 (-1)) ∧ Below w.heap.size w w') := (by
    intro w
    have := szAcl_any u g o au lu cu ag lg cg r m 1048576 (by omega) (by omega) hm hm2 w
    rw [szB_neg hl] at this
    exact this)
  clear hl hm hm2
  go_enter Try.func3, Try.ntmps3
  go_wp2_with (go_at_call 4; refine (hc.out _).mono ?_; rintro e w1 ⟨rfl, hb1⟩)
  go_ret
  exact ⟨rfl, Below.on (bl2N _ _ _) hb1⟩
set_option maxHeartbeats 2000000 in
theorem oneGroup_longC (u g o : Int) (au : Option Addr) (lu cu : Nat) (ag : Option Addr) (lg cg : Nat) (r : Bool) (m : Int) (group cu' cg' : Int) (ca : Option Addr) (cl cc : Nat) (cr : Bool) (hl : lu + lg ≤ 1048576) (hc2 : ¬ (lu + lg + cl ≤ 1048576)) (hm : cl ≤ 9223372036854775807) (w : World) :
    Calls Try.prog 3 #[.agg #[.int .i64 u, .int .i64 g, .int .i64 o, .slice au lu cu, .slice ag lg cg, .bool r, .int .i64 m], .int .i64 group, .agg #[.int .i64 cu', .int .i64 cg', .slice ca cl cc, .bool cr]] w fun e w' => e = .returned (.bool true) ∧ Below w.heap.size w w' := by
  have hz : Hid (∀ w, Calls Try.prog 4 #[.agg #[.int .i64 u, .int .i64 g, .int .i64 o, .slice au lu cu, .slice ag lg cg, .bool r, .int .i64 m], .int .i64 1048576] w fun e w' => e = .returned (.int .i64 (1048576 - lu - lg)) ∧ Below w.heap.size w w') := (by
    intro w
    have := szAcl_any u g o au lu cu ag lg cg r m 1048576 (by omega) (by omega) (by omega) (by omega) w
    rw [szB_pos hl] at this
    exact this)
  have hc : Hid (∀ w, Calls Try.prog 5 #[.agg #[.int .i64 cu', .int .i64 cg', .slice ca cl cc, .bool cr], .int .i64 (1048576 - (lu : Int) - (lg : Int))] w fun e w' => e = .returned (.int .i64 (-1)) ∧ Below w.heap.size w w') := szCredM_long cu' cg' ca cl cc cr _ (by omega) (by omega) (by omega) hm
  have d1 : decide (1048576 - (lu : Int) - (lg : Int) < 0) = false := by simp; omega
  have eA : (w.alloc (.cells #[.int .i64 u, .int .i64 g, .int .i64 o, .slice au lu cu, .slice ag lg cg, .bool r, .int .i64 m] 24)).heap.size = w.heap.size + 1 := by simp
  have hY := box4_new (w.alloc (.cells #[.int .i64 u, .int .i64 g, .int .i64 o, .slice au lu cu, .slice ag lg cg, .bool r, .int .i64 m] 24)) (.int .i64 cu') (.int .i64 cg') (.slice ca cl cc) (.bool cr) 27
  rw [eA] at hY
  clear hl hc2 hm eA
  go_enter Try.func3, Try.ntmps3
  go_wp2_with fail
  refine (hz.out _).mono ?_
  rintro e w1 ⟨rfl, hb1⟩
  have hW1 : Hid (Below w.heap.size w w1) := Below.on (bl2N _ _ _) hb1
  obtain ⟨yl, y0, y1, y2, y3⟩ := hY.below hb1
  clear hb1 hY hz
  go_wp2_with fail
  refine (hc.out _).mono ?_
  rintro e w2 ⟨rfl, hb⟩
  have hW2 : Hid (Below w.heap.size w w2) := Below.on hW1.out hb
  clear hb y0 y1 y2 y3 yl
  go_wp2
  go_ret
  exact ⟨rfl, hW2.out⟩
set_option maxRecDepth 100000 in
set_option maxHeartbeats 8000000 in
theorem oneGroup_short (u g o : Int) (au : Option Addr) (lu cu : Nat) (ag : Option Addr) (lg cg : Nat) (r : Bool) (m : Int) (us gs : List (Int × Int)) (group cu' cg' : Int) (ca : Option Addr) (cl cc : Nat) (cr : Bool) (cf : Nat → Int) (hl : lu + lg + cl ≤ 1048576) (w : World) (hu : Prs au lu us w) (hg : Prs ag lg gs w) (hci : Ints ca cl cf w) :
    Calls Try.prog 3 #[.agg #[.int .i64 u, .int .i64 g, .int .i64 o, .slice au lu cu, .slice ag lg cg, .bool r, .int .i64 m], .int .i64 group, .agg #[.int .i64 cu', .int .i64 cg', .slice ca cl cc, .bool cr]] w fun e w' => e = .returned (.bool true) ∧ Below w.heap.size w w' := by
  have hl1 : lu ≤ 1048576 := by omega
  have hl2 : lg ≤ 1048576 := by omega
  have hl3 : cl ≤ 1048576 := by omega
  have hz : Hid (∀ w, Calls Try.prog 4 #[.agg #[.int .i64 u, .int .i64 g, .int .i64 o, .slice au lu cu, .slice ag lg cg, .bool r, .int .i64 m], .int .i64 1048576] w fun e w' => e = .returned (.int .i64 (1048576 - lu - lg)) ∧ Below w.heap.size w w') := (by
    intro w
    have := szAcl_any u g o au lu cu ag lg cg r m 1048576 (by omega) (by omega) (by omega) (by omega) w
    rw [szB_pos (by omega)] at this
    exact this)
  have hzc : Hid (∀ w, Calls Try.prog 5 #[.agg #[.int .i64 cu', .int .i64 cg', .slice ca cl cc, .bool cr], .int .i64 (1048576 - (lu : Int) - (lg : Int))] w fun e w' => e = .returned (.int .i64 (1048576 - (lu : Int) - (lg : Int) - cl)) ∧ Below w.heap.size w w') := szCredM_short cu' cg' ca cl cc cr _ (by omega) (by omega) (by omega)
  have ht : Hid (∀ w', Below w.heap.size w w' → Calls Try.prog 7 #[.agg #[.int .i64 u, .int .i64 g, .int .i64 o, .slice au lu cu, .slice ag lg cg, .bool r, .int .i64 m]] w' fun e w'' => ∃ B1 B2, e = .returned (.agg #[.int .i64 u, .int .i64 g, .int .i64 o, .slice (some ⟨B1, 0, none⟩) lu lu, .slice (some ⟨B2, 0, none⟩) lg lg, .bool r, .int .i64 m]) ∧
      Own (some ⟨B1, 0, none⟩) lu us w'' ∧ Own (some ⟨B2, 0, none⟩) lg gs w'' ∧ w'.heap.size ≤ B1 ∧ B1 < B2 ∧ B2 < w''.heap.size ∧ Below w'.heap.size w' w'') := (fun w' hb => toAcl_any u g o au lu cu ag lg cg r m us gs hl1 hl2 w' (hu.below hb) (hg.below hb))
  have htc : Hid (∀ w', Below w.heap.size w w' → Calls Try.prog 8 #[.agg #[.int .i64 cu', .int .i64 cg', .slice ca cl cc, .bool cr]] w' fun e w'' => ∃ B, e = .returned (.agg #[.int .i64 cu', .int .i64 cg', .slice (some ⟨B, 0, none⟩) cl cl, .bool cr]) ∧ Ints (some ⟨B, 0, none⟩) cl cf w'' ∧ w'.heap.size ≤ B ∧ Below w'.heap.size w' w'') := (fun w' hb => toCred_any cu' cg' ca cl cc cr cf hl3 w' (hci.below hb))
  have d1 : decide (1048576 - (lu : Int) - (lg : Int) < 0) = false := by simp; omega
  have d2 : decide (1048576 - (lu : Int) - (lg : Int) - (cl : Int) < 0) = false := by simp; omega
  have HL : Hid (lu ≤ 1048576 ∧ lg ≤ 1048576 ∧ cl ≤ 1048576) := ⟨hl1, hl2, hl3⟩
  have hX0 := (box7_new w (.int .i64 u) (.int .i64 g) (.int .i64 o) (.slice au lu cu) (.slice ag lg cg) (.bool r) (.int .i64 m) 24).below (bel_alloc _ (.cells #[.int .i64 cu', .int .i64 cg', .slice ca cl cc, .bool cr] 27))
  have eA : (w.alloc (.cells #[.int .i64 u, .int .i64 g, .int .i64 o, .slice au lu cu, .slice ag lg cg, .bool r, .int .i64 m] 24)).heap.size = w.heap.size + 1 := by simp
  have hY0 := box4_new (w.alloc (.cells #[.int .i64 u, .int .i64 g, .int .i64 o, .slice au lu cu, .slice ag lg cg, .bool r, .int .i64 m] 24)) (.int .i64 cu') (.int .i64 cg') (.slice ca cl cc) (.bool cr) 27
  rw [eA] at hY0
  clear hu hg hci hl hl1 hl2 hl3 eA
  go_enter Try.func3, Try.ntmps3
  go_wp2_with fail
  refine (hz.out _).mono ?_
  rintro e w1 ⟨rfl, hb1⟩
  have hW1 : Hid (Below w.heap.size w w1) := Below.on (bl2N _ _ _) hb1
  have hX1 := hX0.below hb1
  obtain ⟨yl, y0, y1, y2, y3⟩ := hY0.below hb1
  clear hb1 hX0 hY0 hz
  go_wp2_with fail
  refine (hzc.out _).mono ?_
  rintro e w2 ⟨rfl, hb⟩
  have hW2 : Hid (Below w.heap.size w w2) := Below.on hW1.out hb
  have HX2 : Hid (Box7 w2 w.heap.size _ _ _ _ _ _ _) := hX1.below hb
  have HY2 : Hid (Box4 w2 (w.heap.size + 1) _ _ _ _) := (Box4.mk yl y0 y1 y2 y3).below hb
  clear hb y0 y1 y2 y3 yl hX1 hzc hW1
  obtain ⟨xl, x0, x1, x2, x3, x4, x5, x6⟩ := HX2.out
  obtain ⟨yl, y0, y1, y2, y3⟩ := HY2.out
  go_wp2_with fail
  go_region_held3 (fun w' => w'.cell? ⟨w.heap.size, 0, none⟩ = some (.int .i64 u) ∧ w'.cell? ⟨w.heap.size, 1, none⟩ = some (.int .i64 g) ∧ w'.cell? ⟨w.heap.size, 2, none⟩ = some (.int .i64 o) ∧ w'.cell? ⟨w.heap.size, 3, none⟩ = some (.slice au lu cu) ∧ w'.cell? ⟨w.heap.size, 4, none⟩ = some (.slice ag lg cg) ∧ w'.cell? ⟨w.heap.size, 5, none⟩ = some (.bool r) ∧ w'.cell? ⟨w.heap.size, 6, none⟩ = some (.int .i64 m) ∧ w'.cell? ⟨w.heap.size + 1, 0, none⟩ = some (.int .i64 cu') ∧ w'.cell? ⟨w.heap.size + 1, 1, none⟩ = some (.int .i64 cg') ∧ w'.cell? ⟨w.heap.size + 1, 2, none⟩ = some (.slice ca cl cc) ∧ w'.cell? ⟨w.heap.size + 1, 3, none⟩ = some (.bool cr)) (go_keep)
    (first
      | (go_at_call 7; refine (ht.out _ (below_drewD hW2.out)).mono ?_; rintro e w3 ⟨B1, B2, rfl, hU, hG, _, _, _, hb3⟩; have hB3 : Hid (Below w2.heap.size w2 w3) := below_drewE hb3; obtain ⟨_, xa3, xb3, xc3, xd3, xe3, xf3, xg3⟩ := HX2.out.below hB3.out; obtain ⟨_, ya3, yb3, yc3, yd3⟩ := HY2.out.below hB3.out)
      | (go_at_call 8; refine (htc.out _ (Below.on hW2.out hB3.out)).mono ?_; rintro e w4 ⟨B3, rfl, hI, _, hb4⟩; have hB4 : Hid (Below w2.heap.size w2 w4) := Below.on hB3.out hb4; obtain ⟨_, xa4, xb4, xc4, xd4, xe4, xf4, xg4⟩ := HX2.out.below hB4.out; obtain ⟨_, ya4, yb4, yc4, yd4⟩ := HY2.out.below hB4.out)
      | (go_at_call 6; refine (sOneGroup_any u g o _ lu lu _ lg lg r m us gs group cu' cg' _ cl cl cr cf HL.out.1 HL.out.2.1 _ (hU.below hb4).prs (hG.below hb4).prs hI).mono ?_; rintro e w5 ⟨rfl, hb5⟩; have hB5 : Hid (Below w2.heap.size w2 w5) := Below.on hB4.out hb5; obtain ⟨_, xa5, xb5, xc5, xd5, xe5, xf5, xg5⟩ := HX2.out.below hB5.out; obtain ⟨_, ya5, yb5, yc5, yd5⟩ := HY2.out.below hB5.out))
  have hW5 : Hid (Below w.heap.size w w5) := Below.on hW2.out hB5.out
  have HX5 : Hid (Box7 w5 w.heap.size (.int .i64 u) (.int .i64 g) (.int .i64 o) (.slice au lu cu) (.slice ag lg cg) (.bool r) (.int .i64 m)) := HX2.out.below hB5.out
  have HY5 : Hid (Box4 w5 (w.heap.size + 1) (.int .i64 cu') (.int .i64 cg') (.slice ca cl cc) (.bool cr)) := HY2.out.below hB5.out
  clear x0 x1 x2 x3 x4 x5 x6 xl y0 y1 y2 y3 yl xa3 xb3 xc3 xd3 xe3 xf3 xg3 ya3 yb3 yc3 yd3 xa4 xb4 xc4 xd4 xe4 xf4 xg4 ya4 yb4 yc4 yd4 xa5 xb5 xc5 xd5 xe5 xf5 xg5 ya5 yb5 yc5 yd5 hb3 hb4 hb5 hB3 hB4 hB5 HX2 HY2 hU hG hI hW2
  obtain ⟨xl, x0, x1, x2, x3, x4, x5, x6⟩ := HX5.out
  go_wp2_with fail
  refine (ht.out _ hW5.out).mono ?_
  rintro e w6 ⟨B1, B2, rfl, hU, hG, _, _, _, hb6⟩
  have hb7 := bel_alloc w6 (.cells #[.int .i64 u, .int .i64 g, .int .i64 o, .slice (some ⟨B1, 0, none⟩) lu lu, .slice (some ⟨B2, 0, none⟩) lg lg, .bool r, .int .i64 m] 33)
  have hW7 : Hid (Below w.heap.size w (w6.alloc (.cells #[.int .i64 u, .int .i64 g, .int .i64 o, .slice (some ⟨B1, 0, none⟩) lu lu, .slice (some ⟨B2, 0, none⟩) lg lg, .bool r, .int .i64 m] 33))) := Below.on (Below.on hW5.out hb6) hb7
  have HX7 : Hid (Box7 (w6.alloc (.cells #[.int .i64 u, .int .i64 g, .int .i64 o, .slice (some ⟨B1, 0, none⟩) lu lu, .slice (some ⟨B2, 0, none⟩) lg lg, .bool r, .int .i64 m] 33)) w.heap.size (.int .i64 u) (.int .i64 g) (.int .i64 o) (.slice au lu cu) (.slice ag lg cg) (.bool r) (.int .i64 m)) := (HX5.out.below hb6).below hb7
  have HY7 : Hid (Box4 (w6.alloc (.cells #[.int .i64 u, .int .i64 g, .int .i64 o, .slice (some ⟨B1, 0, none⟩) lu lu, .slice (some ⟨B2, 0, none⟩) lg lg, .bool r, .int .i64 m] 33)) (w.heap.size + 1) (.int .i64 cu') (.int .i64 cg') (.slice ca cl cc) (.bool cr)) := (HY5.out.below hb6).below hb7
  have HA7 : Hid (Box7 (w6.alloc (.cells #[.int .i64 u, .int .i64 g, .int .i64 o, .slice (some ⟨B1, 0, none⟩) lu lu, .slice (some ⟨B2, 0, none⟩) lg lg, .bool r, .int .i64 m] 33)) w6.heap.size (.int .i64 u) (.int .i64 g) (.int .i64 o) (.slice (some ⟨B1, 0, none⟩) lu lu) (.slice (some ⟨B2, 0, none⟩) lg lg) (.bool r) (.int .i64 m)) := box7_new w6 _ _ _ _ _ _ _ _
  have HU7 : Hid (Own (some ⟨B1, 0, none⟩) lu us (w6.alloc (.cells #[.int .i64 u, .int .i64 g, .int .i64 o, .slice (some ⟨B1, 0, none⟩) lu lu, .slice (some ⟨B2, 0, none⟩) lg lg, .bool r, .int .i64 m] 33))) := hU.below hb7
  have HG7 : Hid (Own (some ⟨B2, 0, none⟩) lg gs (w6.alloc (.cells #[.int .i64 u, .int .i64 g, .int .i64 o, .slice (some ⟨B1, 0, none⟩) lu lu, .slice (some ⟨B2, 0, none⟩) lg lg, .bool r, .int .i64 m] 33))) := hG.below hb7
  obtain ⟨yl, y0, y1, y2, y3⟩ := HY5.out.below hb6
  clear x0 x1 x2 x3 x4 x5 x6 xl hb6 hb7 hU hG HX5 HY5 hW5
  go_wp2_with fail
  refine (htc.out _ hW7.out).mono ?_
  rintro e w8 ⟨B3, rfl, hI, _, hb8⟩
  have hb9 := bel_alloc w8 (.cells #[.int .i64 cu', .int .i64 cg', .slice (some ⟨B3, 0, none⟩) cl cl, .bool cr] 35)
  have hW9 : Hid (Below w.heap.size w (w8.alloc (.cells #[.int .i64 cu', .int .i64 cg', .slice (some ⟨B3, 0, none⟩) cl cl, .bool cr] 35))) := Below.on (Below.on hW7.out hb8) hb9
  have HX9 : Hid (Box7 (w8.alloc (.cells #[.int .i64 cu', .int .i64 cg', .slice (some ⟨B3, 0, none⟩) cl cl, .bool cr] 35)) w.heap.size (.int .i64 u) (.int .i64 g) (.int .i64 o) (.slice au lu cu) (.slice ag lg cg) (.bool r) (.int .i64 m)) := (HX7.out.below hb8).below hb9
  have HY9 : Hid (Box4 (w8.alloc (.cells #[.int .i64 cu', .int .i64 cg', .slice (some ⟨B3, 0, none⟩) cl cl, .bool cr] 35)) (w.heap.size + 1) (.int .i64 cu') (.int .i64 cg') (.slice ca cl cc) (.bool cr)) := (HY7.out.below hb8).below hb9
  have HA9 : Hid (Box7 (w8.alloc (.cells #[.int .i64 cu', .int .i64 cg', .slice (some ⟨B3, 0, none⟩) cl cl, .bool cr] 35)) w6.heap.size (.int .i64 u) (.int .i64 g) (.int .i64 o) (.slice (some ⟨B1, 0, none⟩) lu lu) (.slice (some ⟨B2, 0, none⟩) lg lg) (.bool r) (.int .i64 m)) := (HA7.out.below hb8).below hb9
  have HC9 : Hid (Box4 (w8.alloc (.cells #[.int .i64 cu', .int .i64 cg', .slice (some ⟨B3, 0, none⟩) cl cl, .bool cr] 35)) w8.heap.size (.int .i64 cu') (.int .i64 cg') (.slice (some ⟨B3, 0, none⟩) cl cl) (.bool cr)) := box4_new w8 _ _ _ _ _
  have HU9 : Hid (Own (some ⟨B1, 0, none⟩) lu us (w8.alloc (.cells #[.int .i64 cu', .int .i64 cg', .slice (some ⟨B3, 0, none⟩) cl cl, .bool cr] 35))) := (HU7.out.below hb8).below hb9
  have HG9 : Hid (Own (some ⟨B2, 0, none⟩) lg gs (w8.alloc (.cells #[.int .i64 cu', .int .i64 cg', .slice (some ⟨B3, 0, none⟩) cl cl, .bool cr] 35))) := (HG7.out.below hb8).below hb9
  have HI9 : Hid (Ints (some ⟨B3, 0, none⟩) cl cf (w8.alloc (.cells #[.int .i64 cu', .int .i64 cg', .slice (some ⟨B3, 0, none⟩) cl cl, .bool cr] 35))) := hI.below hb9
  obtain ⟨xl, x0, x1, x2, x3, x4, x5, x6⟩ := HA7.out.below hb8
  clear y0 y1 y2 y3 yl hb8 hb9 HX7 HY7 HA7 HU7 HG7 hI hW7
  go_wp2_with fail
  refine (iOneGroup_any u g o _ lu lu _ lg lg r m us gs group cu' cg' _ cl cl cr cf _ HU9.out.prs HG9.out.prs HI9.out).mono ?_
  rintro e w10 ⟨rfl, hb10⟩
  have hW10 : Hid (Below w.heap.size w w10) := Below.on hW9.out hb10
  have HX10 : Hid (Box7 w10 w.heap.size (.int .i64 u) (.int .i64 g) (.int .i64 o) (.slice au lu cu) (.slice ag lg cg) (.bool r) (.int .i64 m)) := HX9.out.below hb10
  have HY10 : Hid (Box4 w10 (w.heap.size + 1) (.int .i64 cu') (.int .i64 cg') (.slice ca cl cc) (.bool cr)) := HY9.out.below hb10
  have HA10 : Hid (Box7 w10 w6.heap.size (.int .i64 u) (.int .i64 g) (.int .i64 o) (.slice (some ⟨B1, 0, none⟩) lu lu) (.slice (some ⟨B2, 0, none⟩) lg lg) (.bool r) (.int .i64 m)) := HA9.out.below hb10
  have HC10 : Hid (Box4 w10 w8.heap.size (.int .i64 cu') (.int .i64 cg') (.slice (some ⟨B3, 0, none⟩) cl cl) (.bool cr)) := HC9.out.below hb10
  have HU10 : Hid (Own (some ⟨B1, 0, none⟩) lu us w10) := HU9.out.below hb10
  have HG10 : Hid (Own (some ⟨B2, 0, none⟩) lg gs w10) := HG9.out.below hb10
  have HI10 : Hid (Ints (some ⟨B3, 0, none⟩) cl cf w10) := HI9.out.below hb10
  clear x0 x1 x2 x3 x4 x5 x6 xl hb10 HX9 HY9 HA9 HC9 HU9 HG9 HI9 hW9
  generalize w6.heap.size = A at HA10 ⊢
  generalize w8.heap.size = C at HC10 ⊢
  generalize oneB u g o us gs r m group cu' cg' cl cf = cb
  have hbb : (cb != cb) = false := by simp
  obtain ⟨_, x0, x1, x2, x3, x4, x5, x6⟩ := HX10.out
  obtain ⟨_, y0, y1, y2, y3, y4, y5, y6⟩ := HA10.out
  go_wp2_with fail
  go_region_held3 (fun w' => w'.cell? ⟨w.heap.size, 0, none⟩ = some (.int .i64 u) ∧ w'.cell? ⟨w.heap.size, 1, none⟩ = some (.int .i64 g) ∧ w'.cell? ⟨w.heap.size, 2, none⟩ = some (.int .i64 o) ∧ w'.cell? ⟨w.heap.size, 3, none⟩ = some (.slice au lu cu) ∧ w'.cell? ⟨w.heap.size, 4, none⟩ = some (.slice ag lg cg) ∧ w'.cell? ⟨w.heap.size, 5, none⟩ = some (.bool r) ∧ w'.cell? ⟨w.heap.size, 6, none⟩ = some (.int .i64 m) ∧ w'.cell? ⟨A, 0, none⟩ = some (.int .i64 u) ∧ w'.cell? ⟨A, 1, none⟩ = some (.int .i64 g) ∧ w'.cell? ⟨A, 2, none⟩ = some (.int .i64 o) ∧ w'.cell? ⟨A, 3, none⟩ = some (.slice (some ⟨B1, 0, none⟩) lu lu) ∧ w'.cell? ⟨A, 4, none⟩ = some (.slice (some ⟨B2, 0, none⟩) lg lg) ∧ w'.cell? ⟨A, 5, none⟩ = some (.bool r) ∧ w'.cell? ⟨A, 6, none⟩ = some (.int .i64 m)) (go_keep)
    (first
      | (go_at_call 7; refine (ht.out _ (below_drewD hW10.out)).mono ?_; rintro e w11 ⟨B5, B6, rfl, hU, hG, _, _, _, hb11⟩; have hB11 : Hid (Below w10.heap.size w10 w11) := below_drewE hb11; obtain ⟨_, xa1, xb1, xc1, xd1, xe1, xf1, xg1⟩ := HX10.out.below hB11.out; obtain ⟨_, ya1, yb1, yc1, yd1, ye1, yf1, yg1⟩ := HA10.out.below hB11.out)
      | (go_at_call 10; refine (eqAcl_any u g o _ _ lu lu lu _ _ lg lg lg r m us gs HL.out.1 HL.out.2.1 _ (HU10.out.below hB11.out).prs hU.prs (HG10.out.below hB11.out).prs hG.prs).mono ?_; rintro e w12 ⟨rfl, hb12⟩; have hB12 : Hid (Below w10.heap.size w10 w12) := Below.on hB11.out hb12; obtain ⟨_, xa2, xb2, xc2, xd2, xe2, xf2, xg2⟩ := HX10.out.below hB12.out; obtain ⟨_, ya2, yb2, yc2, yd2, ye2, yf2, yg2⟩ := HA10.out.below hB12.out))
  have hW12 : Hid (Below w.heap.size w w12) := Below.on hW10.out hB12.out
  have HY12 : Hid (Box4 w12 (w.heap.size + 1) (.int .i64 cu') (.int .i64 cg') (.slice ca cl cc) (.bool cr)) := HY10.out.below hB12.out
  have HC12 : Hid (Box4 w12 C (.int .i64 cu') (.int .i64 cg') (.slice (some ⟨B3, 0, none⟩) cl cl) (.bool cr)) := HC10.out.below hB12.out
  have HI12 : Hid (Ints (some ⟨B3, 0, none⟩) cl cf w12) := HI10.out.below hB12.out
  clear x0 x1 x2 x3 x4 x5 x6 y0 y1 y2 y3 y4 y5 y6 xa1 xb1 xc1 xd1 xe1 xf1 xg1 ya1 yb1 yc1 yd1 ye1 yf1 yg1 xa2 xb2 xc2 xd2 xe2 xf2 xg2 ya2 yb2 yc2 yd2 ye2 yf2 yg2 hb11 hb12 hB11 hB12 hU hG HX10 HY10 HA10 HC10 HU10 HG10 HI10 hW10
  obtain ⟨_, x0, x1, x2, x3⟩ := HY12.out
  obtain ⟨_, y0, y1, y2, y3⟩ := HC12.out
  go_wp2_with fail
  go_region_held3 (fun w' => w'.cell? ⟨w.heap.size + 1, 0, none⟩ = some (.int .i64 cu') ∧ w'.cell? ⟨w.heap.size + 1, 1, none⟩ = some (.int .i64 cg') ∧ w'.cell? ⟨w.heap.size + 1, 2, none⟩ = some (.slice ca cl cc) ∧ w'.cell? ⟨w.heap.size + 1, 3, none⟩ = some (.bool cr) ∧ w'.cell? ⟨C, 0, none⟩ = some (.int .i64 cu') ∧ w'.cell? ⟨C, 1, none⟩ = some (.int .i64 cg') ∧ w'.cell? ⟨C, 2, none⟩ = some (.slice (some ⟨B3, 0, none⟩) cl cl) ∧ w'.cell? ⟨C, 3, none⟩ = some (.bool cr)) (go_keep)
    (first
      | (go_at_call 8; refine (htc.out _ (below_drewD hW12.out)).mono ?_; rintro e w13 ⟨B5, rfl, hI, _, hb13⟩; have hB13 : Hid (Below w12.heap.size w12 w13) := below_drewE hb13; obtain ⟨_, xa1, xb1, xc1, xd1⟩ := HY12.out.below hB13.out; obtain ⟨_, ya1, yb1, yc1, yd1⟩ := HC12.out.below hB13.out)
      | (go_at_call 11; refine (eqCred_any cu' cg' _ _ cl cl cl cr cf HL.out.2.2 _ (HI12.out.below hB13.out) hI).mono ?_; rintro e w14 ⟨rfl, hb14⟩; have hB14 : Hid (Below w12.heap.size w12 w14) := Below.on hB13.out hb14; obtain ⟨_, xa2, xb2, xc2, xd2⟩ := HY12.out.below hB14.out; obtain ⟨_, ya2, yb2, yc2, yd2⟩ := HC12.out.below hB14.out))
  have hW14 : Hid (Below w.heap.size w w14) := Below.on hW12.out hB14.out
  clear x0 x1 x2 x3 y0 y1 y2 y3 xa1 xb1 xc1 xd1 ya1 yb1 yc1 yd1 xa2 xb2 xc2 xd2 ya2 yb2 yc2 yd2 hb13 hb14 hB13 hB14 hI HY12 HC12 HI12 hW12
  go_wp2
  go_ret
  exact ⟨rfl, hW14.out⟩
end Go.Proofs.Ytgojbilbkfilgab
