/- The law FnExactAclBorn, of a list of names that is not too long, and of one that is. -/
import Derived.Test.YtfjnabiboboipaiBornS
import Derived.Test.YtfjnabiboboipaiOutLaw
import Derived.Test.YtfjnabiboboipaiLawAid
import Derived.Deep.RegionWith
import Derived.BigRegion
namespace Go.Proofs.Ytfjnabiboboipai
open Go.RowKit Go.PlainAid Go.Deep
set_option linter.unusedVariables false
set_option maxHeartbeats 2000000 in
theorem aclBorn_long (u g o : Int) (au : Option Addr) (lu cu : Nat) (ag : Option Addr) (lg cg : Nat) (r : Bool) (m : Int) (n1 : Int) (hl : ¬ (lu + lg ≤ 1048576)) (hm : lu ≤ 9223372036854775807) (hm2 : lg ≤ 9223372036854775807) (w : World) :
    Calls Try.prog 7 #[.agg #[.int .i64 u, .int .i64 g, .int .i64 o, .slice au lu cu, .slice ag lg cg, .bool r, .int .i64 m], .int .i64 n1] w fun e w' => e = .returned (.bool true) ∧ Below w.heap.size w w' := by
  have hc : Hid (∀ w, Calls Try.prog 9 #[.agg #[.int .i64 u, .int .i64 g, .int .i64 o, .slice au lu cu, .slice ag lg cg, .bool r, .int .i64 m], .int .i64 1048576] w fun e w' => e = .returned (.int .i64 (-1)) ∧ Below w.heap.size w w') := (by
    intro w
    have := szAcl_any u g o au lu cu ag lg cg r m 1048576 (by omega) (by omega) hm hm2 w
    rw [szB_neg hl] at this
    exact this)
  clear hl hm hm2
  go_enter Try.func7, Try.ntmps7
  go_wp2_with (go_at_call 9; refine (hc.out _).mono ?_; rintro e w1 ⟨rfl, hb1⟩)
  go_ret
  exact ⟨rfl, Below.on (bel_alloc _ _) hb1⟩
set_option maxRecDepth 100000 in
set_option maxHeartbeats 8000000 in
theorem aclBorn_short (u g o : Int) (au : Option Addr) (lu cu : Nat) (ag : Option Addr) (lg cg : Nat) (r : Bool) (m : Int) (us gs : List (Int × Int)) (n1 : Int) (hl : lu + lg ≤ 1048576) (w : World) (hu : Prs au lu us w) (hg : Prs ag lg gs w) :
    Calls Try.prog 7 #[.agg #[.int .i64 u, .int .i64 g, .int .i64 o, .slice au lu cu, .slice ag lg cg, .bool r, .int .i64 m], .int .i64 n1] w fun e w' => e = .returned (.bool true) ∧ Below w.heap.size w w' := by
  have hl1 : lu ≤ 1048576 := by omega
  have hl2 : lg ≤ 1048576 := by omega
  have hz : Hid (∀ w, Calls Try.prog 9 #[.agg #[.int .i64 u, .int .i64 g, .int .i64 o, .slice au lu cu, .slice ag lg cg, .bool r, .int .i64 m], .int .i64 1048576] w fun e w' => e = .returned (.int .i64 (1048576 - lu - lg)) ∧ Below w.heap.size w w') := (by
    intro w
    have := szAcl_any u g o au lu cu ag lg cg r m 1048576 (by omega) (by omega) (by omega) (by omega) w
    rw [szB_pos hl] at this
    exact this)
  have ht : Hid (∀ w', Below w.heap.size w w' → Calls Try.prog 12 #[.agg #[.int .i64 u, .int .i64 g, .int .i64 o, .slice au lu cu, .slice ag lg cg, .bool r, .int .i64 m]] w' fun e w'' => ∃ B1 B2, e = .returned (.agg #[.int .i64 u, .int .i64 g, .int .i64 o, .slice (some ⟨B1, 0, none⟩) lu lu, .slice (some ⟨B2, 0, none⟩) lg lg, .bool r, .int .i64 m]) ∧
      Own (some ⟨B1, 0, none⟩) lu us w'' ∧ Own (some ⟨B2, 0, none⟩) lg gs w'' ∧ w'.heap.size ≤ B1 ∧ B1 < B2 ∧ B2 < w''.heap.size ∧ Below w'.heap.size w' w'') := (fun w' hb => toAcl_any u g o au lu cu ag lg cg r m us gs hl1 hl2 w' (hu.below hb) (hg.below hb))
  have HL : Hid (lu ≤ 1048576 ∧ lg ≤ 1048576) := ⟨hl1, hl2⟩
  have hx : (bornA u g o us gs r m n1).us.length ≤ 7 ∧ (bornA u g o us gs r m n1).gs.length ≤ 7 := bornA_len u g o us gs r m n1
  have hS : Hid (∀ w' B1 B2, Own (some ⟨B1, 0, none⟩) lu us w' → Own (some ⟨B2, 0, none⟩) lg gs w' → Calls Try.prog 27 #[.agg #[.int .i64 u, .int .i64 g, .int .i64 o, .slice (some ⟨B1, 0, none⟩) lu lu, .slice (some ⟨B2, 0, none⟩) lg lg, .bool r, .int .i64 m], .int .i64 n1] w' (Answers (bornA u g o us gs r m n1) w')) := (fun w' B1 B2 h1 h2 => sAclBorn_any u g o _ lu lu _ lg lg r m us gs n1 hl1 hl2 w' h1.prs h2.prs)
  have hI : Hid (∀ w' B1 B2, Own (some ⟨B1, 0, none⟩) lu us w' → Own (some ⟨B2, 0, none⟩) lg gs w' → Calls Try.prog 28 #[.agg #[.int .i64 u, .int .i64 g, .int .i64 o, .slice (some ⟨B1, 0, none⟩) lu lu, .slice (some ⟨B2, 0, none⟩) lg lg, .bool r, .int .i64 m], .int .i64 n1] w' (Answers (bornA u g o us gs r m n1) w')) := (fun w' B1 B2 h1 h2 => iAclBorn_any u g o _ lu lu _ lg lg r m us gs n1 w' h1.prs h2.prs)
  generalize bornA u g o us gs r m n1 = x at hS hI hx
  obtain ⟨xu, xg, xo, xus, xgs, xr, xm, xc⟩ := x
  have HX : Hid (xus.length ≤ 1048576 ∧ xgs.length ≤ 1048576 ∧ xus.length ≤ 7 ∧ xgs.length ≤ 7) := ⟨Nat.le_trans hx.1 (by omega), Nat.le_trans hx.2 (by omega), hx.1, hx.2⟩
  have d1 : decide (1048576 - (lu : Int) - (lg : Int) < 0) = false := by simp; omega
  have dk : decide (1 + 2 * (lu : Int) + 2 * (lg : Int) < 0) = false := by simp; omega
  have dx : decide (1 + 2 * (xus.length : Int) + 2 * (xgs.length : Int) < 0) = false := by simp; omega
  clear hu hg hl hl1 hl2 hx
  have hX0 := box7_new w (.int .i64 u) (.int .i64 g) (.int .i64 o) (.slice au lu cu) (.slice ag lg cg) (.bool r) (.int .i64 m) 24
  have hB0 : Hid (Below w.heap.size w (w.alloc (.cells #[.int .i64 u, .int .i64 g, .int .i64 o, .slice au lu cu, .slice ag lg cg, .bool r, .int .i64 m] 24))) := bel_alloc _ _
  go_enter Try.func7, Try.ntmps7
  go_wp2_with fail
  refine (hz.out _).mono ?_
  rintro e w1 ⟨rfl, hb1⟩
  obtain ⟨xl, x0, x1, x2, x3, x4, x5, x6⟩ := hX0.below hb1
  have hW1 : Hid (Below w.heap.size w w1) := Below.on hB0.out hb1
  clear hb1 hX0
  go_wp2_with fail
  refine (ht.out _ hW1.out).mono ?_
  rintro e w2 ⟨B1, B2, rfl, hU, hG, _, _, _, hb2⟩
  have hX2 := (Box7.mk xl x0 x1 x2 x3 x4 x5 x6).below hb2
  have hW2 : Hid (Below w.heap.size w w2) := Below.on hW1.out hb2
  clear hb2 xl x0 x1 x2 x3 x4 x5 x6 hW1
  go_wp2_with fail
  refine (hS.out _ B1 B2 hU hG).mono ?_
  intro e w3 hA
  obtain ⟨a1, c1, a2, c2, rfl, hN⟩ := hA.out
  have hW3 : Hid (Below w.heap.size w w3) := Below.on hW2.out hN.bel
  have hb3 := bel_alloc w3 (.cells #[.int .i64 xu, .int .i64 xg, .int .i64 xo, .slice a1 xus.length c1, .slice a2 xgs.length c2, .bool xr, .int .i64 xm, .int .i64 xc] 44)
  have hX3 := (hX2.below hN.bel).below hb3
  obtain ⟨xl, x0, x1, x2, x3, x4, x5, x6⟩ := hX2.below hN.bel
  have hO3 := box8_new w3 (.int .i64 xu) (.int .i64 xg) (.int .i64 xo) (.slice a1 xus.length c1) (.slice a2 xgs.length c2) (.bool xr) (.int .i64 xm) (.int .i64 xc) 44
  have hPW := hN.ou.below hb3
  have hQW := hN.og.below hb3
  have IW : Hid ((∀ A, a1 = some A → A.block < w3.heap.size) ∧ (∀ A, a2 = some A → A.block < w3.heap.size)) := ⟨fun A e => (hN.iu A e).2, fun A e => (hN.ig A e).2⟩
  have hW3' : Hid (Below w.heap.size w (w3.alloc (.cells #[.int .i64 xu, .int .i64 xg, .int .i64 xo, .slice a1 xus.length c1, .slice a2 xgs.length c2, .bool xr, .int .i64 xm, .int .i64 xc] 44))) := Below.on hW3.out hb3
  have hz3 : (w3.alloc (.cells #[.int .i64 xu, .int .i64 xg, .int .i64 xo, .slice a1 xus.length c1, .slice a2 xgs.length c2, .bool xr, .int .i64 xm, .int .i64 xc] 44)).heap.size = w3.heap.size + 1 := by simp
  clear hA hN hb3 hU hG hX2 hW2
  go_wp2_with fail
  refine (ht.out _ hW3'.out).mono ?_
  rintro e w4 ⟨B3, B4, rfl, hU, hG, hB3, hB34, hB4, hb4⟩
  clear xl x0 x1 x2 x3 x4 x5 x6
  have hb5 := bel_alloc w4 (.cells #[.int .i64 u, .int .i64 g, .int .i64 o, .slice (some ⟨B3, 0, none⟩) lu lu, .slice (some ⟨B4, 0, none⟩) lg lg, .bool r, .int .i64 m] 33)
  have hX5 := (hX3.below hb4).below hb5
  obtain ⟨xl, x0, x1, x2, x3, x4, x5, x6⟩ := hX3.below hb4
  have hO5 := (hO3.below hb4).below hb5
  obtain ⟨vl, v0, v1, v2, v3, v4, v5, v6, v7⟩ := hO3.below hb4
  have hV5 := box7_new w4 (.int .i64 u) (.int .i64 g) (.int .i64 o) (.slice (some ⟨B3, 0, none⟩) lu lu) (.slice (some ⟨B4, 0, none⟩) lg lg) (.bool r) (.int .i64 m) 33
  have hPW5 := (hPW.below hb4).below hb5
  have hQW5 := (hQW.below hb4).below hb5
  have hU5 := hU.below hb5
  have hG5 := hG.below hb5
  rw [hz3] at hB3
  have OX : Hid (w3.heap.size < B3 ∧ B3 < B4 ∧ B4 < w4.heap.size) := ⟨by omega, hB34, hB4⟩
  have hz4 : (w4.alloc (.cells #[.int .i64 u, .int .i64 g, .int .i64 o, .slice (some ⟨B3, 0, none⟩) lu lu, .slice (some ⟨B4, 0, none⟩) lg lg, .bool r, .int .i64 m] 33)).heap.size = w4.heap.size + 1 := by simp
  have hW5 : Hid (Below w.heap.size w (w4.alloc (.cells #[.int .i64 u, .int .i64 g, .int .i64 o, .slice (some ⟨B3, 0, none⟩) lu lu, .slice (some ⟨B4, 0, none⟩) lg lg, .bool r, .int .i64 m] 33))) := Below.on (Below.on hW3'.out hb4) hb5
  have hXw : Hid (w.heap.size ≤ w3.heap.size) := hW3.out.size
  clear hb4 hb5 hX3 hO3 hPW hQW hU hG hB3 hB34 hB4 hz3 hW3 hW3'
  generalize w3.heap.size = X1 at hO5 IW OX hXw vl v0 v1 v2 v3 v4 v5 v6 v7 ⊢
  go_wp2_with fail
  refine (hI.out _ B3 B4 hU5 hG5).mono ?_
  intro e w5 hA
  obtain ⟨b1, f1, b2, f2, rfl, hN⟩ := hA.out
  clear xl x0 x1 x2 x3 x4 x5 x6 vl v0 v1 v2 v3 v4 v5 v6 v7
  have hb6 := bel_alloc w5 (.cells #[.int .i64 xu, .int .i64 xg, .int .i64 xo, .slice b1 xus.length f1, .slice b2 xgs.length f2, .bool xr, .int .i64 xm, .int .i64 xc] 44)
  have hX6 := (hX5.below hN.bel).below hb6
  have hO6 := (hO5.below hN.bel).below hb6
  have hV6 := (hV5.below hN.bel).below hb6
  have hR6 := box8_new w5 (.int .i64 xu) (.int .i64 xg) (.int .i64 xo) (.slice b1 xus.length f1) (.slice b2 xgs.length f2) (.bool xr) (.int .i64 xm) (.int .i64 xc) 44
  obtain ⟨vl, v0, v1, v2, v3, v4, v5, v6, v7⟩ := hO5.below hN.bel
  obtain ⟨xl, x0, x1, x2, x3, x4, x5, x6⟩ := hX5.below hN.bel
  obtain ⟨yl, y0, y1, y2, y3, y4, y5, y6⟩ := hV5.below hN.bel
  have hPW6 := (hPW5.below hN.bel).below hb6
  have hQW6 := (hQW5.below hN.bel).below hb6
  have hU6 := (hU5.below hN.bel).below hb6
  have hG6 := (hG5.below hN.bel).below hb6
  have hPG6 := hN.ou.below hb6
  have hQG6 := hN.og.below hb6
  have IG : Hid ((∀ A, b1 = some A → w4.heap.size < A.block ∧ A.block < w5.heap.size) ∧ (∀ A, b2 = some A → w4.heap.size < A.block ∧ A.block < w5.heap.size)) := ⟨fun A e => by have := hN.iu A e; omega, fun A e => by have := hN.ig A e; omega⟩
  have NG : Hid (∀ A A2, b1 = some A → b2 = some A2 → A.block ≠ A2.block) := hN.ne
  have h45 : Hid (w4.heap.size < w5.heap.size) := (by have := hN.bel.size; show _ < _; omega)
  have hW6 : Hid (Below w.heap.size w (w5.alloc (.cells #[.int .i64 xu, .int .i64 xg, .int .i64 xo, .slice b1 xus.length f1, .slice b2 xgs.length f2, .bool xr, .int .i64 xm, .int .i64 xc] 44))) := Below.on (Below.on hW5.out hN.bel) hb6
  clear hA hN hb6 hX5 hO5 hV5 hPW5 hQW5 hU5 hG5 hz4 hW5
  generalize w4.heap.size = X2 at hV6 OX IG h45 yl y0 y1 y2 y3 y4 y5 y6 ⊢
  go_wp2_with fail
  refine (eqAclOut_any xu xg xo _ _ xus.length _ _ _ _ xgs.length _ _ xr xm xc xus xgs HX.out.1 HX.out.2.1 _ hPG6.prs hPW6.prs hQG6.prs hQW6.prs).mono ?_
  rintro e w6 ⟨rfl, hb⟩
  clear xl x0 x1 x2 x3 x4 x5 x6 yl y0 y1 y2 y3 y4 y5 y6 vl v0 v1 v2 v3 v4 v5 v6 v7
  have hX7 := hX6.below hb
  have hO7 := hO6.below hb
  have hV7 := hV6.below hb
  have hR7 := hR6.below hb
  have hPW7 : Hid (Own a1 xus.length xus w6) := hPW6.below hb
  have hQW7 : Hid (Own a2 xgs.length xgs w6) := hQW6.below hb
  have hU7 : Hid (Own (some ⟨B3, 0, none⟩) lu us w6) := hU6.below hb
  have hG7 : Hid (Own (some ⟨B4, 0, none⟩) lg gs w6) := hG6.below hb
  have hPG7 : Hid (Own b1 xus.length xus w6) := hPG6.below hb
  have hQG7 : Hid (Own b2 xgs.length xgs w6) := hQG6.below hb
  have hW7 : Hid (Below w.heap.size w w6) := Below.on hW6.out hb
  clear hb hX6 hO6 hV6 hR6 hPW6 hQW6 hU6 hG6 hPG6 hQG6 hW6
  generalize w5.heap.size = X3 at hR7 IG h45 ⊢
  obtain ⟨xl, x0, x1, x2, x3, x4, x5, x6⟩ := hX7
  obtain ⟨yl, y0, y1, y2, y3, y4, y5, y6⟩ := hV7
  go_wp2_with fail
  go_region_with (first | (go_at_call 12; refine (ht.out _ (below_drewD hW7.out)).mono ?_; rintro e w7 ⟨B5, B6, rfl, hU8, hG8, _, _, _, hb7⟩; obtain ⟨hcl, hfz⟩ := bl_cellN hb7; simp at hcl hfz) | (go_at_call 15; refine (eqAcl_any u g o _ _ lu lu lu _ _ lg lg lg r m us gs HL.out.1 HL.out.2 _ (hU7.out.below (below_drewE hb7)).prs hU8.prs (hG7.out.below (below_drewE hb7)).prs hG8.prs).mono ?_; rintro e w8 ⟨rfl, hb8⟩))
  all_goals (
    have hbb : Below w6.heap.size w6 w8 := Below.on (below_drewE hb7) hb8
    have hX9 := (Box7.mk xl x0 x1 x2 x3 x4 x5 x6).below hbb
    have hV9 := (Box7.mk yl y0 y1 y2 y3 y4 y5 y6).below hbb
    have hO9 := hO7.below hbb
    have hR9 := hR7.below hbb
    have hPW9 := hPW7.out.below hbb
    have hQW9 := hQW7.out.below hbb
    have hU9 := hU7.out.below hbb
    have hG9 := hG7.out.below hbb
    have hPG9 := hPG7.out.below hbb
    have hQG9 := hQG7.out.below hbb
    have hW9 : Hid (Below w.heap.size w w8) := Below.on hW7.out hbb
    clear hbb hb7 hb8 hcl hfz hU8 hG8 xl x0 x1 x2 x3 x4 x5 x6 yl y0 y1 y2 y3 y4 y5 y6 hO7 hR7 hPW7 hQW7 hU7 hG7 hPG7 hQG7 hW7
    obtain ⟨yl, y0, y1, y2, y3, y4, y5, y6⟩ := hV9
    go_wp2_with fail
    refine (markAcl_any u g o _ lu lu _ lg lg r m us gs 1 (by omega) (by omega) HL.out.1 HL.out.2 _ hU9 hG9 (fun A e => by cases e; have := OX.out; have h2 := hR9.lt; have h3 := h45.out; dsimp only; omega) (fun A e => by cases e; have := OX.out; have h2 := hR9.lt; have h3 := h45.out; dsimp only; omega) (fun A A2 e e2 => by cases e; cases e2; have := OX.out; dsimp only; omega)).mono ?_
    rintro e w9 ⟨rfl, _, _, hM⟩
    have hXA : Hid (X1 < B3 ∧ B3 < B4 ∧ B4 < X2) := OX
    have hX10 := Box7.keep hX9 (Nat.lt_of_lt_of_le hX9.lt hM.size) (fun o => (hM.cell _ o hX9.lt (fun A e => by cases e; have := OX.out; have h2 := hXw.out; dsimp only; omega) (fun A e => by cases e; have := OX.out; have h2 := hXw.out; dsimp only; omega)).1)
    have hO10 := Box8.keep hO9 (Nat.lt_of_lt_of_le hO9.lt hM.size) (fun o => (hM.cell _ o hO9.lt (fun A e => by cases e; have := OX.out; dsimp only; omega) (fun A e => by cases e; have := OX.out; dsimp only; omega)).1)
    have hR10 := Box8.keep hR9 (Nat.lt_of_lt_of_le hR9.lt hM.size) (fun o => (hM.cell _ o hR9.lt (fun A e => by cases e; have := OX.out; have h2 := h45.out; dsimp only; omega) (fun A e => by cases e; have := OX.out; have h2 := h45.out; dsimp only; omega)).1)
    have hPW10 := hM.own hPW9 (fun A A2 e e2 => by cases e; have h1 := IW.out.1 A2 e2; have := OX.out; dsimp only; omega) (fun A A2 e e2 => by cases e; have h1 := IW.out.1 A2 e2; have := OX.out; dsimp only; omega)
    have hQW10 := hM.own hQW9 (fun A A2 e e2 => by cases e; have h1 := IW.out.2 A2 e2; have := OX.out; dsimp only; omega) (fun A A2 e e2 => by cases e; have h1 := IW.out.2 A2 e2; have := OX.out; dsimp only; omega)
    have hPG10 := hM.own hPG9 (fun A A2 e e2 => by cases e; have h1 := IG.out.1 A2 e2; have := OX.out; dsimp only; omega) (fun A A2 e e2 => by cases e; have h1 := IG.out.1 A2 e2; have := OX.out; dsimp only; omega)
    have hQG10 := hM.own hQG9 (fun A A2 e e2 => by cases e; have h1 := IG.out.2 A2 e2; have := OX.out; dsimp only; omega) (fun A A2 e e2 => by cases e; have h1 := IG.out.2 A2 e2; have := OX.out; dsimp only; omega)
    have hW10 : Hid (Below w.heap.size w w9) := hW9.out.trans (hM.below _ hW9.out.size (fun A e => by cases e; have := OX.out; have h2 := hXw.out; dsimp only; omega) (fun A e => by cases e; have := OX.out; have h2 := hXw.out; dsimp only; omega))
    clear hM hXA hX9 hO9 hR9 hPW9 hQW9 hPG9 hQG9 hU9 hG9 hW9 yl y0 y1 y2 y3 y4 y5 y6
    obtain ⟨vl, v0, v1, v2, v3, v4, v5, v6, v7⟩ := hO10
    obtain ⟨zl, z0, z1, z2, z3, z4, z5, z6, z7⟩ := hR10
    go_wp2_with fail
    refine (eqAclOut_any xu xg xo _ _ xus.length _ _ _ _ xgs.length _ _ xr xm xc xus xgs HX.out.1 HX.out.2.1 _ hPG10.prs hPW10.prs hQG10.prs hQW10.prs).mono ?_
    rintro e w10 ⟨rfl, hb⟩
    have hX11 := hX10.below hb
    have hO11 := (Box8.mk vl v0 v1 v2 v3 v4 v5 v6 v7).below hb
    have hR11 := (Box8.mk zl z0 z1 z2 z3 z4 z5 z6 z7).below hb
    have hPW11 := hPW10.below hb
    have hQW11 := hQW10.below hb
    have hPG11 := hPG10.below hb
    have hQG11 := hQG10.below hb
    have hW11 : Hid (Below w.heap.size w w10) := Below.on hW10.out hb
    clear hb hX10 vl v0 v1 v2 v3 v4 v5 v6 v7 zl z0 z1 z2 z3 z4 z5 z6 z7 hPW10 hQW10 hPG10 hQG10 hW10
    obtain ⟨zl, z0, z1, z2, z3, z4, z5, z6, z7⟩ := hR11
    go_wp2_with fail
    refine (markAclOut_any xu xg xo _ xus.length _ _ xgs.length _ xr xm xc xus xgs 1 (by omega) (by omega) HX.out.1 HX.out.2.1 _ hPG11 hQG11 (fun A e => Nat.lt_trans (IG.out.1 A e).2 zl) (fun A e => Nat.lt_trans (IG.out.2 A e).2 zl) NG.out).mono ?_
    rintro e w11 ⟨rfl, hm1, hm2, hM⟩
    have hX12 := Box7.keep hX11 (Nat.lt_of_lt_of_le hX11.lt hM.size) (fun o => (hM.cell _ o hX11.lt (fun A e => by have h1 := IG.out.1 A e; have := OX.out; have h2 := hXw.out; omega) (fun A e => by have h1 := IG.out.2 A e; have := OX.out; have h2 := hXw.out; omega)).1)
    have hO12 := Box8.keep hO11 (Nat.lt_of_lt_of_le hO11.lt hM.size) (fun o => (hM.cell _ o hO11.lt (fun A e => by have h1 := IG.out.1 A e; have := OX.out; omega) (fun A e => by have h1 := IG.out.2 A e; have := OX.out; omega)).1)
    have hR12 := Box8.keep (Box8.mk zl z0 z1 z2 z3 z4 z5 z6 z7) (Nat.lt_of_lt_of_le zl hM.size) (fun o => (hM.cell _ o zl (fun A e => by have h1 := IG.out.1 A e; omega) (fun A e => by have h1 := IG.out.2 A e; omega)).1)
    have hPW12 := hM.own hPW11 (fun A A2 e e2 => by have h0 := IG.out.1 A e; have h1 := IW.out.1 A2 e2; have := OX.out; omega) (fun A A2 e e2 => by have h0 := IG.out.2 A e; have h1 := IW.out.1 A2 e2; have := OX.out; omega)
    have hQW12 := hM.own hQW11 (fun A A2 e e2 => by have h0 := IG.out.1 A e; have h1 := IW.out.2 A2 e2; have := OX.out; omega) (fun A A2 e e2 => by have h0 := IG.out.2 A e; have h1 := IW.out.2 A2 e2; have := OX.out; omega)
    have hW12 : Hid (Below w.heap.size w w11) := hW11.out.trans (hM.below _ hW11.out.size (fun A e => by have h1 := IG.out.1 A e; have := OX.out; have h2 := hXw.out; omega) (fun A e => by have h1 := IG.out.2 A e; have := OX.out; have h2 := hXw.out; omega))
    clear hM hX11 hO11 zl z0 z1 z2 z3 z4 z5 z6 z7 hPW11 hQW11 hPG11 hQG11 hW11
    obtain ⟨zl, z0, z1, z2, z3, z4, z5, z6, z7⟩ := hR12
    go_wp2_with fail
    refine (heldAclOut_any xu xg xo _ xus.length _ _ xgs.length _ xr xm xc 1 (by omega) (by omega) HX.out.1 HX.out.2.1 _ hm1 hm2).mono ?_
    rintro e w12 ⟨rfl, hb⟩
    have hX13 := hX12.below hb
    have hO13 := hO12.below hb
    have hR13 := (Box8.mk zl z0 z1 z2 z3 z4 z5 z6 z7).below hb
    have hPW13 := hPW12.below hb
    have hQW13 := hQW12.below hb
    have hm3 := hm1.below hb
    have hm4 := hm2.below hb
    have hW13 : Hid (Below w.heap.size w w12) := Below.on hW12.out hb
    clear hb hX12 hO12 zl z0 z1 z2 z3 z4 z5 z6 z7 hPW12 hQW12 hm1 hm2 hW12
    obtain ⟨xl, x0, x1, x2, x3, x4, x5, x6⟩ := hX13
    go_wp2_with fail
    refine (ht.out _ hW13.out).mono ?_
    rintro e w13 ⟨B7, B8, rfl, hU, hG, _, _, _, hb⟩
    have hO14 := hO13.below hb
    have hR14 := hR13.below hb
    have hPW14 := hPW13.below hb
    have hQW14 := hQW13.below hb
    have hm5 := hm3.below hb
    have hm6 := hm4.below hb
    have hW14 : Hid (Below w.heap.size w w13) := Below.on hW13.out hb
    clear hb hO13 hR13 xl x0 x1 x2 x3 x4 x5 x6 hPW13 hQW13 hm3 hm4 hW13
    go_wp2_with fail
    refine (hI.out _ B7 B8 hU hG).mono ?_
    intro e w14 hA
    obtain ⟨e1, p1, e2, p2, rfl, hN⟩ := hA.out
    have hb6 := bel_alloc w14 (.cells #[.int .i64 xu, .int .i64 xg, .int .i64 xo, .slice e1 xus.length p1, .slice e2 xgs.length p2, .bool xr, .int .i64 xm, .int .i64 xc] 44)
    have hR15 := (hR14.below hN.bel).below hb6
    obtain ⟨vl, v0, v1, v2, v3, v4, v5, v6, v7⟩ := hO14.below hN.bel
    have hPW15 := (hPW14.below hN.bel).below hb6
    have hQW15 := (hQW14.below hN.bel).below hb6
    have hPE15 := hN.ou.below hb6
    have hQE15 := hN.og.below hb6
    have hm7 := (hm5.below hN.bel).below hb6
    have hm8 := (hm6.below hN.bel).below hb6
    have hW15 : Hid (Below w.heap.size w (w14.alloc (.cells #[.int .i64 xu, .int .i64 xg, .int .i64 xo, .slice e1 xus.length p1, .slice e2 xgs.length p2, .bool xr, .int .i64 xm, .int .i64 xc] 44))) := Below.on (Below.on hW14.out hN.bel) hb6
    clear hA hN hb6 hU hG hO14 hR14 hPW14 hQW14 hm5 hm6 hW14
    go_wp2_with fail
    refine (eqAclOut_any xu xg xo _ _ xus.length _ _ _ _ xgs.length _ _ xr xm xc xus xgs HX.out.1 HX.out.2.1 _ hPE15.prs hPW15.prs hQE15.prs hQW15.prs).mono ?_
    rintro e w15 ⟨rfl, hb⟩
    have hm9 := hm7.below hb
    have hm10 := hm8.below hb
    have hW16 : Hid (Below w.heap.size w w15) := Below.on hW15.out hb
    obtain ⟨zl, z0, z1, z2, z3, z4, z5, z6, z7⟩ := hR15.below hb
    clear hb vl v0 v1 v2 v3 v4 v5 v6 v7 hR15 hPW15 hQW15 hPE15 hQE15 hm7 hm8 hW15
    go_wp2_with fail
    refine (heldAclOut_any xu xg xo _ xus.length _ _ xgs.length _ xr xm xc 1 (by omega) (by omega) HX.out.1 HX.out.2.1 _ hm9 hm10).mono ?_
    rintro e w16 ⟨rfl, hb⟩
    have hW17 : Hid (Below w.heap.size w w16) := Below.on hW16.out hb
    clear hb zl z0 z1 z2 z3 z4 z5 z6 z7 hW16 hm9 hm10
    go_wp2
    go_ret
    exact ⟨rfl, hW17.out⟩)
end Go.Proofs.Ytfjnabiboboipai
