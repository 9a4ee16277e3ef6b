/- The law FnExactNfsMay, of lists that are not too long, and of ones that are. -/
import Derived.Test.YtibofkjonepbpabNfsMay
import Derived.Test.YtibofkjonepbpabLawCred
import Derived.Test.YtibofkjonepbpabSzCred
import Derived.Test.YtibofkjonepbpabAceTo
import Derived.Deep.RegionHeld3
namespace Go.Proofs.Ytibofkjonepbpab
open Go.RowKit Go.PlainAid Go.Deep
set_option linter.unusedVariables false
set_option maxHeartbeats 2000000 in
theorem nfsMay_long (a : Option Addr) (len cap : Nat) (owner group u g : Int) (ca : Option Addr) (cl cc : Nat) (cr : Bool)  (want : Int) (hl : ¬ len ≤ 1048576) (hm : len ≤ 9223372036854775807) (w : World) :
    Calls Try.prog 5 #[.slice a len cap, .int .i64 owner, .int .i64 group, .agg #[.int .i64 u, .int .i64 g, .slice ca cl cc, .bool cr], .int .i64 want] w fun e w' => e = .returned (.bool true) ∧ Below w.heap.size w w' := by
  have hz : Hid (∀ w, Calls Try.prog 12 #[.slice a len cap, .int .i64 1048576] w fun e w' => e = .returned (.int .i64 (-1)) ∧ w' = w) := (by
    intro w
    have := szAceS_any a len cap 1048576 (by omega) hm w
    rwa [if_pos (by omega)] at this)
  clear hl hm
  go_enter Try.func5, Try.ntmps5
  go_wp2_with (go_at_call 12; refine (hz.out _).mono ?_; rintro e w1 ⟨rfl, rfl⟩)
  go_ret
  exact ⟨rfl, bel_alloc _ _⟩
set_option maxHeartbeats 2000000 in
theorem nfsMay_longC (a : Option Addr) (len cap : Nat) (owner group u g : Int) (ca : Option Addr) (cl cc : Nat) (cr : Bool)  (want : Int) (hl : len ≤ 1048576) (hc2 : ¬ (len + cl ≤ 1048576)) (hm : cl ≤ 9223372036854775807) (w : World) :
    Calls Try.prog 5 #[.slice a len cap, .int .i64 owner, .int .i64 group, .agg #[.int .i64 u, .int .i64 g, .slice ca cl cc, .bool cr], .int .i64 want] w fun e w' => e = .returned (.bool true) ∧ Below w.heap.size w w' := by
  have hz : Hid (∀ w, Calls Try.prog 12 #[.slice a len cap, .int .i64 1048576] w fun e w' => e = .returned (.int .i64 (1048576 - len)) ∧ w' = w) := (by
    intro w
    have := szAceS_any a len cap 1048576 (by omega) (by omega) w
    rwa [if_neg (by omega)] at this)
  have hc : Hid (∀ w, Calls Try.prog 13 #[.agg #[.int .i64 u, .int .i64 g, .slice ca cl cc, .bool cr], .int .i64 (1048576 - (len : Int))] w fun e w' => e = .returned (.int .i64 (-1)) ∧ Below w.heap.size w w') := szCredM_long u g ca cl cc cr _ (by omega) (by omega) (by omega) hm
  have d1 : decide (1048576 - (len : Int) < 0) = false := by simp; omega
  obtain ⟨yl, y0, y1, y2, y3⟩ := box4A_new w (.int .i64 u) (.int .i64 g) (.slice ca cl cc) (.bool cr) 35
  clear hl hc2 hm
  go_enter Try.func5, Try.ntmps5
  go_wp2_with (first | (go_at_call 12; refine (hz.out _).mono ?_; rintro e w1 ⟨rfl, rfl⟩) | (go_at_call 13; refine (hc.out _).mono ?_; rintro e w2 ⟨rfl, hb⟩))
  go_ret
  exact ⟨rfl, Below.on (bel_alloc _ _) hb⟩
set_option maxRecDepth 100000 in
set_option maxHeartbeats 8000000 in
theorem nfsMay_short (a : Option Addr) (len cap : Nat) (l : List Ac) (owner group u g : Int) (ca : Option Addr) (cl cc : Nat) (cr : Bool) (f : Nat → Int) (want : Int) (hl : len + cl ≤ 1048576) (w : World) (hA : Acs a len l w) (hi : Ints ca cl f w) :
    Calls Try.prog 5 #[.slice a len cap, .int .i64 owner, .int .i64 group, .agg #[.int .i64 u, .int .i64 g, .slice ca cl cc, .bool cr], .int .i64 want] w fun e w' => e = .returned (.bool true) ∧ Below w.heap.size w w' := by
  have hl1 : len ≤ 1048576 := by omega
  have hl3 : cl ≤ 1048576 := by omega
  have hz : Hid (∀ w, Calls Try.prog 12 #[.slice a len cap, .int .i64 1048576] w fun e w' => e = .returned (.int .i64 (1048576 - len)) ∧ w' = w) := (by
    intro w
    have := szAceS_any a len cap 1048576 (by omega) (by omega) w
    rwa [if_neg (by omega)] at this)
  have hzc : Hid (∀ w, Calls Try.prog 13 #[.agg #[.int .i64 u, .int .i64 g, .slice ca cl cc, .bool cr], .int .i64 (1048576 - (len : Int))] w fun e w' => e = .returned (.int .i64 (1048576 - (len : Int) - cl)) ∧ Below w.heap.size w w') := szCredM_short u g ca cl cc cr _ (by omega) (by omega) (by omega)
  have ht : Hid (∀ w', Below w.heap.size w w' → Calls Try.prog 15 #[.slice a len cap] w' fun e w'' => ∃ B, e = .returned (.slice (some ⟨B, 0, none⟩) len len) ∧ OwnA (some ⟨B, 0, none⟩) len l w'' ∧ Below w'.heap.size w' w'') := (fun w' hb => (toAceS_any a len cap l hl1 w' (hA.below hb)).mono (fun e w'' ⟨h1, h2, h3, h4⟩ => ⟨_, h1, h2, h4⟩))
  have htc : Hid (∀ w', Below w.heap.size w w' → Calls Try.prog 16 #[.agg #[.int .i64 u, .int .i64 g, .slice ca cl cc, .bool cr]] w' fun e w'' => ∃ B, e = .returned (.agg #[.int .i64 u, .int .i64 g, .slice (some ⟨B, 0, none⟩) cl cl, .bool cr]) ∧ Ints (some ⟨B, 0, none⟩) cl f w'' ∧ w'.heap.size ≤ B ∧ Below w'.heap.size w' w'') := (fun w' hb => toCred_any u g ca cl cc cr f hl3 w' (hi.below hb))
  have d1 : decide (1048576 - (len : Int) < 0) = false := by simp; omega
  have d2 : decide (1048576 - (len : Int) - (cl : Int) < 0) = false := by simp; omega
  have HL : Hid (len ≤ 1048576 ∧ cl ≤ 1048576) := ⟨hl1, hl3⟩
  have HY0 : Hid (Box4A (w.alloc (.cells #[.int .i64 u, .int .i64 g, .slice ca cl cc, .bool cr] 35)) w.heap.size (.int .i64 u) (.int .i64 g) (.slice ca cl cc) (.bool cr)) := box4A_new _ _ _ _ _ _
  have hW0 : Hid (Below w.heap.size w (w.alloc (.cells #[.int .i64 u, .int .i64 g, .slice ca cl cc, .bool cr] 35))) := bel_alloc _ _
  obtain ⟨yl, y0, y1, y2, y3⟩ := HY0.out
  clear hA hi hl hl1 hl3
  go_enter Try.func5, Try.ntmps5
  go_wp2_with (go_at_call 12; refine (hz.out _).mono ?_; rintro e w1 ⟨rfl, rfl⟩)
  refine (hzc.out _).mono ?_
  rintro e w2 ⟨rfl, hb⟩
  have hW2 : Hid (Below w.heap.size w w2) := Below.on hW0.out hb
  have HY2 : Hid (Box4A w2 w.heap.size (.int .i64 u) (.int .i64 g) (.slice ca cl cc) (.bool cr)) := HY0.out.below HY0.out.lt hb
  clear hb y0 y1 y2 y3 yl HY0 hW0 hz hzc
  obtain ⟨yl, y0, y1, y2, y3⟩ := HY2.out
  go_wp2_with fail
  go_region_held3 (fun w' => w'.cell? ⟨w.heap.size, 0, none⟩ = some (.int .i64 u) ∧ w'.cell? ⟨w.heap.size, 1, none⟩ = some (.int .i64 g) ∧ w'.cell? ⟨w.heap.size, 2, none⟩ = some (.slice ca cl cc) ∧ w'.cell? ⟨w.heap.size, 3, none⟩ = some (.bool cr)) (go_keep)
    (first
      | (go_at_call 15; refine (ht.out _ (below_drewA hW2.out)).mono ?_; rintro e w3 ⟨B1, rfl, hU, hb3⟩; have hB3 : Hid (Below w2.heap.size w2 w3) := below_drewZ hb3; obtain ⟨_, ya3, yb3, yc3, yd3⟩ := HY2.out.below HY2.out.lt hB3.out)
      | (go_at_call 16; refine (htc.out _ (Below.on hW2.out hB3.out)).mono ?_; rintro e w4 ⟨B3, rfl, hI, _, hb4⟩; have hB4 : Hid (Below w2.heap.size w2 w4) := Below.on hB3.out hb4; obtain ⟨_, ya4, yb4, yc4, yd4⟩ := HY2.out.below HY2.out.lt hB4.out)
      | (go_at_call 20; refine (sNfsMay_any _ len len l owner group u g _ cl cl cr f want HL.out.1 _ (hU.below hb4).acs hI).mono ?_; rintro e w5 ⟨rfl, hb5⟩; have hB5 : Hid (Below w2.heap.size w2 w5) := Below.on hB4.out hb5; obtain ⟨_, ya5, yb5, yc5, yd5⟩ := HY2.out.below HY2.out.lt hB5.out))
  have hW5 : Hid (Below w.heap.size w w5) := Below.on hW2.out hB5.out
  have HY5 : Hid (Box4A w5 w.heap.size (.int .i64 u) (.int .i64 g) (.slice ca cl cc) (.bool cr)) := HY2.out.below HY2.out.lt hB5.out
  clear y0 y1 y2 y3 yl ya3 yb3 yc3 yd3 ya4 yb4 yc4 yd4 ya5 yb5 yc5 yd5 hb3 hb4 hb5 hB3 hB4 hB5 HY2 hU hI hW2
  go_wp2_with fail
  refine (ht.out _ hW5.out).mono ?_
  rintro e w6 ⟨B1, rfl, hU, hb6⟩
  have hW6 : Hid (Below w.heap.size w w6) := Below.on hW5.out hb6
  have HY6 : Hid (Box4A w6 w.heap.size (.int .i64 u) (.int .i64 g) (.slice ca cl cc) (.bool cr)) := HY5.out.below HY5.out.lt hb6
  have HU6 : Hid (OwnA (some ⟨B1, 0, none⟩) len l w6) := hU
  clear hb6 hU HY5 hW5
  obtain ⟨yl, y0, y1, y2, y3⟩ := HY6.out
  go_wp2_with fail
  refine (htc.out _ hW6.out).mono ?_
  rintro e w8 ⟨B3, rfl, hI, _, hb8⟩
  have hb9 := bel_alloc w8 (.cells #[.int .i64 u, .int .i64 g, .slice (some ⟨B3, 0, none⟩) cl cl, .bool cr] 40)
  have hW9 : Hid (Below w.heap.size w (w8.alloc (.cells #[.int .i64 u, .int .i64 g, .slice (some ⟨B3, 0, none⟩) cl cl, .bool cr] 40))) := Below.on (Below.on hW6.out hb8) hb9
  have HY9 : Hid (Box4A (w8.alloc (.cells #[.int .i64 u, .int .i64 g, .slice (some ⟨B3, 0, none⟩) cl cl, .bool cr] 40)) w.heap.size (.int .i64 u) (.int .i64 g) (.slice ca cl cc) (.bool cr)) := (by have h := HY6.out.below HY6.out.lt hb8; exact h.below h.lt hb9)
  have HC9 : Hid (Box4A (w8.alloc (.cells #[.int .i64 u, .int .i64 g, .slice (some ⟨B3, 0, none⟩) cl cl, .bool cr] 40)) w8.heap.size (.int .i64 u) (.int .i64 g) (.slice (some ⟨B3, 0, none⟩) cl cl) (.bool cr)) := box4A_new _ _ _ _ _ _
  have HU9 : Hid (OwnA (some ⟨B1, 0, none⟩) len l (w8.alloc (.cells #[.int .i64 u, .int .i64 g, .slice (some ⟨B3, 0, none⟩) cl cl, .bool cr] 40))) := (HU6.out.below hb8).below hb9
  have HI9 : Hid (Ints (some ⟨B3, 0, none⟩) cl f (w8.alloc (.cells #[.int .i64 u, .int .i64 g, .slice (some ⟨B3, 0, none⟩) cl cl, .bool cr] 40))) := hI.below hb9
  clear y0 y1 y2 y3 yl hb8 hb9 HY6 HU6 hI hW6
  go_wp2_with fail
  refine (iNfsMay_any _ len len l owner group u g _ cl cl cr f want _ HU9.out.acs HI9.out).mono ?_
  rintro e w10 ⟨rfl, hb10⟩
  have hW10 : Hid (Below w.heap.size w w10) := Below.on hW9.out hb10
  have HY10 : Hid (Box4A w10 w.heap.size (.int .i64 u) (.int .i64 g) (.slice ca cl cc) (.bool cr)) := HY9.out.below HY9.out.lt hb10
  have HC10 : Hid (Box4A w10 w8.heap.size (.int .i64 u) (.int .i64 g) (.slice (some ⟨B3, 0, none⟩) cl cl) (.bool cr)) := HC9.out.below HC9.out.lt hb10
  have HU10 : Hid (OwnA (some ⟨B1, 0, none⟩) len l w10) := HU9.out.below hb10
  have HI10 : Hid (Ints (some ⟨B3, 0, none⟩) cl f w10) := HI9.out.below hb10
  clear hb10 HY9 HC9 HU9 HI9 hW9
  generalize w8.heap.size = C at HC10 ⊢
  generalize nfsMayB l owner group u g cl f want = cb
  have hbb : (cb != cb) = false := by simp
  go_wp2_with fail
  refine (ht.out _ hW10.out).mono ?_
  rintro e w11 ⟨B5, rfl, hU, hb11⟩
  have hW11 : Hid (Below w.heap.size w w11) := Below.on hW10.out hb11
  have HY11 : Hid (Box4A w11 w.heap.size (.int .i64 u) (.int .i64 g) (.slice ca cl cc) (.bool cr)) := HY10.out.below HY10.out.lt hb11
  have HC11 : Hid (Box4A w11 C (.int .i64 u) (.int .i64 g) (.slice (some ⟨B3, 0, none⟩) cl cl) (.bool cr)) := HC10.out.below HC10.out.lt hb11
  have HU11 : Hid (OwnA (some ⟨B1, 0, none⟩) len l w11) := HU10.out.below hb11
  have HV11 : Hid (OwnA (some ⟨B5, 0, none⟩) len l w11) := hU
  have HI11 : Hid (Ints (some ⟨B3, 0, none⟩) cl f w11) := HI10.out.below hb11
  clear hb11 HY10 HC10 HU10 HI10 hW10 hU
  go_wp2_with fail
  refine (eqAceS_any _ _ len len len l HL.out.1 _ HU11.out.acs HV11.out.acs).mono ?_
  rintro e w12 ⟨rfl, hb12⟩
  have hW12 : Hid (Below w.heap.size w w12) := Below.on hW11.out hb12
  have HY12 : Hid (Box4A w12 w.heap.size (.int .i64 u) (.int .i64 g) (.slice ca cl cc) (.bool cr)) := HY11.out.below HY11.out.lt hb12
  have HC12 : Hid (Box4A w12 C (.int .i64 u) (.int .i64 g) (.slice (some ⟨B3, 0, none⟩) cl cl) (.bool cr)) := HC11.out.below HC11.out.lt hb12
  have HI12 : Hid (Ints (some ⟨B3, 0, none⟩) cl f w12) := HI11.out.below hb12
  clear hb12 HY11 HC11 HU11 HV11 HI11 hW11
  obtain ⟨_, x0, x1, x2, x3⟩ := HY12.out
  obtain ⟨_, y0, y1, y2, y3⟩ := HC12.out
  go_wp2_with fail
  go_region_held3 (fun w' => w'.cell? ⟨w.heap.size, 0, none⟩ = some (.int .i64 u) ∧ w'.cell? ⟨w.heap.size, 1, none⟩ = some (.int .i64 g) ∧ w'.cell? ⟨w.heap.size, 2, none⟩ = some (.slice ca cl cc) ∧ w'.cell? ⟨w.heap.size, 3, none⟩ = some (.bool cr) ∧ w'.cell? ⟨C, 0, none⟩ = some (.int .i64 u) ∧ w'.cell? ⟨C, 1, none⟩ = some (.int .i64 g) ∧ w'.cell? ⟨C, 2, none⟩ = some (.slice (some ⟨B3, 0, none⟩) cl cl) ∧ w'.cell? ⟨C, 3, none⟩ = some (.bool cr)) (go_keep)
    (first
      | (go_at_call 16; refine (htc.out _ (below_drewA hW12.out)).mono ?_; rintro e w13 ⟨B5, rfl, hI, _, hb13⟩; have hB13 : Hid (Below w12.heap.size w12 w13) := below_drewZ hb13; obtain ⟨_, xa1, xb1, xc1, xd1⟩ := HY12.out.below HY12.out.lt hB13.out; obtain ⟨_, ya1, yb1, yc1, yd1⟩ := HC12.out.below HC12.out.lt hB13.out)
      | (go_at_call 19; refine (eqCred_any u g _ _ cl cl cl cr f HL.out.2 _ (HI12.out.below hB13.out) hI).mono ?_; rintro e w14 ⟨rfl, hb14⟩; have hB14 : Hid (Below w12.heap.size w12 w14) := Below.on hB13.out hb14; obtain ⟨_, xa2, xb2, xc2, xd2⟩ := HY12.out.below HY12.out.lt hB14.out; obtain ⟨_, ya2, yb2, yc2, yd2⟩ := HC12.out.below HC12.out.lt hB14.out))
  have hW14 : Hid (Below w.heap.size w w14) := Below.on hW12.out hB14.out
  clear x0 x1 x2 x3 y0 y1 y2 y3 xa1 xb1 xc1 xd1 ya1 yb1 yc1 yd1 xa2 xb2 xc2 xd2 ya2 yb2 yc2 yd2 hb13 hb14 hB13 hB14 hI HY12 HC12 HI12 hW12
  go_wp2
  go_ret
  exact ⟨rfl, hW14.out⟩
end Go.Proofs.Ytibofkjonepbpab
