/- The law FnExactCredText, of a Cred whose list is not too long, and of one whose list is. -/
import Derived.Test.YtibofkjonepbpabDoorLawCred
import Derived.Test.YtibofkjonepbpabDoorICredText
import Derived.Deep.RegionWith
import Derived.BigRegion
namespace Go.Proofs.YtibofkjonepbpabDoor
open Go.RowKit Go.PlainAid
set_option linter.unusedVariables false
/-- Four cells of a block. -/
structure Box4 (w : World) (B : Nat) (v0 v1 v2 v3 : Value) : Prop where
  lt : B < w.heap.size
  c0 : w.cell? ⟨B, 0, none⟩ = some v0
  c1 : w.cell? ⟨B, 1, none⟩ = some v1
  c2 : w.cell? ⟨B, 2, none⟩ = some v2
  c3 : w.cell? ⟨B, 3, none⟩ = some v3
theorem Box4.below {w w' : World} {B : Nat} {v0 v1 v2 v3 : Value} (h : Box4 w B v0 v1 v2 v3) (hb : Below w.heap.size w w') : Box4 w' B v0 v1 v2 v3 :=
  ⟨Nat.lt_of_lt_of_le h.lt hb.size, (hb.cell (p := ⟨B, 0, none⟩) h.lt).trans h.c0, (hb.cell (p := ⟨B, 1, none⟩) h.lt).trans h.c1, (hb.cell (p := ⟨B, 2, none⟩) h.lt).trans h.c2, (hb.cell (p := ⟨B, 3, none⟩) h.lt).trans h.c3⟩
theorem box4_new (w : World) (v0 v1 v2 v3 : Value) (t : TypeId) : Box4 (w.alloc (.cells #[v0, v1, v2, v3] t)) w.heap.size v0 v1 v2 v3 := by
  have hb : (w.alloc (.cells #[v0, v1, v2, v3] t)).heap[w.heap.size]? = some (.cells #[v0, v1, v2, v3] t) := by
    rw [World.alloc]
    exact Array.getElem?_push_size
  refine ⟨by simp, ?_, ?_, ?_, ?_⟩ <;> (simp only [World.cell?, hb]; rfl)
theorem below_drewC {B : Nat} {w w' : World} (h : Below B w w') : Below B w w'.drew := h.trans ⟨rfl, rfl, rfl, Nat.le_refl _, fun _ _ => rfl⟩
theorem below_drew7 {w w' : World} (h : Below w.drew.heap.size w.drew w') : Below w.heap.size w w' := ⟨h.os, h.tape, h.output, h.size, h.block⟩
set_option maxHeartbeats 2000000 in
theorem credText_long (u g : Int) (a : Option Addr) (len cap : Nat) (r : Bool) (hl : 1048576 < len) (hm : len ≤ 9223372036854775807) (w : World) :
    Calls Tryd.prog 4 #[.agg #[.int .i64 u, .int .i64 g, .slice a len cap, .bool r]] w fun e w' => e = .returned (.bool true) ∧ Below w.heap.size w w' := by
  have hc : Hid (∀ w, Calls Tryd.prog 17 #[.agg #[.int .i64 u, .int .i64 g, .slice a len cap, .bool r], .int .i64 1048576] w fun e w' => e = .returned (.int .i64 (-1)) ∧ Below w.heap.size w w') := szCred_long u g a len cap r hl hm
  clear hl hm
  go_enter Tryd.func4, Tryd.ntmps4
  go_wp2_with (go_at_call 17; refine (hc.out _).mono ?_; rintro e w1 ⟨rfl, hb1⟩)
  go_ret
  exact ⟨rfl, ((Below.refl _ _).alloc (Nat.le_refl _) _).trans (hb1.mono (by simp))⟩
set_option maxHeartbeats 4000000 in
theorem credText_short (u g : Int) (a : Option Addr) (len cap : Nat) (r : Bool) (f : Nat → Int) (hl : len ≤ 1048576) (w : World) (hi : Ints a len f w) (hp : PowW w) :
    Calls Tryd.prog 4 #[.agg #[.int .i64 u, .int .i64 g, .slice a len cap, .bool r]] w fun e w' => e = .returned (.bool true) ∧ Below w.heap.size w w' := by
  have hz : Hid (∀ w, Calls Tryd.prog 17 #[.agg #[.int .i64 u, .int .i64 g, .slice a len cap, .bool r], .int .i64 1048576] w fun e w' => e = .returned (.int .i64 (1048576 - len)) ∧ Below w.heap.size w w') := szCred_short u g a len cap r hl
  have ht : Hid (∀ w', Below w.heap.size w w' → Calls Tryd.prog 19 #[.agg #[.int .i64 u, .int .i64 g, .slice a len cap, .bool r]] w' fun e w'' => ∃ B, e = .returned (.agg #[.int .i64 u, .int .i64 g, .slice (some ⟨B, 0, none⟩) len len, .bool r]) ∧ Ints (some ⟨B, 0, none⟩) len f w'' ∧ w'.heap.size ≤ B ∧ Below w'.heap.size w' w'') := (fun w' hb => toCred_any u g a len cap r f hl w' (hi.below hb))
  have d1 : decide (1048576 - (len : Int) < 0) = false := by simp; omega
  have hB0 : Hid (Below w.heap.size w (w.alloc (.cells #[.int .i64 u, .int .i64 g, .slice a len cap, .bool r] 40))) := (Below.refl _ _).alloc (Nat.le_refl _) _
  have HP : Hid (PowW w) := hp
  clear hi hp
  go_enter Tryd.func4, Tryd.ntmps4
  have hX0 : Box4 (w.alloc (.cells #[.int .i64 u, .int .i64 g, .slice a len cap, .bool r] 40)) w.heap.size (.int .i64 u) (.int .i64 g) (.slice a len cap) (.bool r) := box4_new w _ _ _ _ _
  go_wp2_with fail
  refine (hz.out _).mono ?_
  rintro e w1 ⟨rfl, hb1⟩
  obtain ⟨xh1, x10, x11, x12, x13⟩ := hX0.below hb1
  have hW1 : Hid (Below w.heap.size w w1) := hB0.out.trans (hb1.mono (by simp))
  clear hb1 hX0
  go_wp2_with fail
  refine (ht.out _ hW1.out).mono ?_
  rintro e w2 ⟨B1, rfl, hI1, hB1, hb2⟩
  have hX2 := (Box4.mk xh1 x10 x11 x12 x13).below hb2
  have hW2 : Hid (Below w.heap.size w w2) := hW1.out.trans (hb2.mono hW1.out.size)
  clear hb2 x10 x11 x12 x13 xh1 hW1
  go_wp2_with fail
  refine (sCredText_any u g _ len len r f _ hI1).mono ?_
  rintro e w3 ⟨rfl, hb3⟩
  obtain ⟨xh3, x30, x31, x32, x33⟩ := hX2.below hb3
  have hW3 : Hid (Below w.heap.size w w3) := hW2.out.trans (hb3.mono hW2.out.size)
  clear hb3 hX2 hW2 hI1 hB1
  go_wp2_with fail
  refine (ht.out _ hW3.out).mono ?_
  rintro e w4 ⟨B2, rfl, hI2, hB2, hb4⟩
  have hX4 := (Box4.mk xh3 x30 x31 x32 x33).below hb4
  have hW4 : Hid (Below w.heap.size w w4) := hW3.out.trans (hb4.mono hW3.out.size)
  clear hb4 x30 x31 x32 x33 xh3 hW3
  have hb5 : Below w4.heap.size w4 (w4.alloc (.cells #[.int .i64 u, .int .i64 g, .slice (some ⟨B2, 0, none⟩) len len, .bool r] 35)) := (Below.refl _ _).alloc (Nat.le_refl _) _
  have hX5 := hX4.below hb5
  have hY5 := box4_new w4 (.int .i64 u) (.int .i64 g) (.slice (some ⟨B2, 0, none⟩) len len) (.bool r) 35
  have hI5 := hI2.below hb5
  have hW5 : Hid (Below w.heap.size w (w4.alloc (.cells #[.int .i64 u, .int .i64 g, .slice (some ⟨B2, 0, none⟩) len len, .bool r] 35))) := hW4.out.trans (hb5.mono hW4.out.size)
  clear hb5 hX4 hI2
  go_wp2_with fail
  refine (iCredText_any u g _ len len r f _ hI5 (HP.out.below hW5.out)).mono ?_
  rintro e w6 ⟨rfl, hb6⟩
  have hW6 : Hid (Below w.heap.size w w6) := hW5.out.trans (hb6.mono hW5.out.size)
  obtain ⟨xh6, x60, x61, x62, x63⟩ := hX5.below hb6
  obtain ⟨yh6, y60, y61, y62, y63⟩ := hY5.below hb6
  have hI6 : Hid (Ints (some ⟨B2, 0, none⟩) len f w6) := hI5.below hb6
  clear hb6 hX5 hY5 hI5 hW5
  generalize w4.heap.size = X at y60 y61 y62 y63 yh6 ⊢
  generalize credT u g len f r = cb
  go_wp2_with fail
  go_region_with (first | (go_at_call 19; refine (ht.out _ (below_drewC hW6.out)).mono ?_; rintro e w7 ⟨B3, rfl, hI7, hB7, hb7⟩; obtain ⟨hcl, hfz⟩ := bl_cellC hb7; simp at hcl hfz) | (go_at_call 21; refine (eqCred_any u g _ _ len len len r f hl _ (hI6.out.below (below_drew7 hb7)) hI7).mono ?_; rintro e w8 ⟨rfl, hb8⟩))
  all_goals (
    go_wp2
    go_ret
    exact ⟨rfl, (hW6.out.trans ((below_drew7 hb7).mono hW6.out.size)).trans (hb8.mono (Nat.le_trans hW6.out.size (below_drew7 hb7).size))⟩)
end Go.Proofs.YtibofkjonepbpabDoor
