/- Laid together: AclEq, Fresh, Ans, Remask. -/
import Derived.Test.YtedahdncincgjaaGreatDoorNX10
import Derived.Test.YtedahdncincgjaaGreatDoorNX7
/- laws.eqNamed, eqNamedS, eqAcl of two that hold the same. -/
namespace Go.Proofs.YtedahdncincgjaaGreatDoor
open Go.RowKit Go.PlainAid
set_option linter.unusedVariables false
theorem bl2N (w : World) (o1 o2 : Obj) : Below w.heap.size w ((w.alloc o1).alloc o2) := ((Below.refl _ _).alloc (Nat.le_refl _) _).alloc (by simp) _
end Go.Proofs.YtedahdncincgjaaGreatDoor
/- A list of names in memory of its own: impl.ownAcl, spec.l03Copy. -/
namespace Go.Proofs.YtedahdncincgjaaGreatDoor
open Go.RowKit Go.PlainAid Go.Deep
set_option linter.unusedVariables false
theorem Box7.set5 {w : World} {B : Nat} {v0 v1 v2 v3 v4 v5 v6 v : Value} (h : Box7 w B v0 v1 v2 v3 v4 v5 v6) : Box7 (w.setCell ⟨B, 5, none⟩ v) B v0 v1 v2 v3 v4 v v6 := by
  obtain ⟨hl, c0, c1, c2, c3, c4, c5, c6⟩ := h
  refine ⟨by simpa using hl, ?_, ?_, ?_, ?_, ?_, ?_, ?_⟩ <;> simp [go_sem, *]
theorem Box7.set6 {w : World} {B : Nat} {v0 v1 v2 v3 v4 v5 v6 v : Value} (h : Box7 w B v0 v1 v2 v3 v4 v5 v6) : Box7 (w.setCell ⟨B, 6, none⟩ v) B v0 v1 v2 v3 v4 v5 v := by
  obtain ⟨hl, c0, c1, c2, c3, c4, c5, c6⟩ := h
  refine ⟨by simpa using hl, ?_, ?_, ?_, ?_, ?_, ?_, ?_⟩ <;> simp [go_sem, *]
/-- Is anybody named? -/
def hnB (us gs : List (Int × Int)) : Bool := !(us.length == 0 && gs.length == 0)
/-- The mask then. -/
def mkB (g : Int) (us gs : List (Int × Int)) : Int := if hnB us gs then maskL g us gs else 0
theorem hn_no {us gs : List (Int × Int)} {lu lg : Nat} (e1 : us.length = lu) (e2 : gs.length = lg) (h : lu = 0 ∧ lg = 0) : hnB us gs = false := by simp [hnB, e1, e2, h]
theorem hn_yes {us gs : List (Int × Int)} {lu lg : Nat} (e1 : us.length = lu) (e2 : gs.length = lg) (h : ¬ (lu = 0 ∧ lg = 0)) : hnB us gs = true := by
  unfold hnB
  rw [e1, e2]
  simp
  omega
set_option maxRecDepth 100000 in
set_option maxHeartbeats 4000000 in
/-- spec.l03New. -/
theorem sNew_any (u g o : Int) (au : Option Addr) (lu cu : Nat) (ag : Option Addr) (lg cg : Nat) (r : Bool) (m : Int) (us gs : List (Int × Int)) (w : World) (hu : Prs au lu us w) (hg : Prs ag lg gs w) (g0 : 0 ≤ g) (g1 : g ≤ 7) (bu : ∀ k, k < us.length → 0 ≤ btAt us k ∧ btAt us k ≤ 7) (bg : ∀ k, k < gs.length → 0 ≤ btAt gs k ∧ btAt gs k ≤ 7) (hN : lu + lg ≤ 1000000) :
    Calls Tryz.prog 113 #[.agg #[.int .i64 u, .int .i64 g, .int .i64 o, .slice au lu cu, .slice ag lg cg, .bool r, .int .i64 m]] w fun e w' => e = .returned (.agg #[.int .i64 u, .int .i64 g, .int .i64 o, .slice au lu cu, .slice ag lg cg, .bool (hnB us gs), .int .i64 (mkB g us gs), .int .i64 0]) ∧ Below w.heap.size w w' := by
  have e1 := hu.1
  have e2 := hg.1
  have hd : Hid (∀ w', Below w.heap.size w w' → Calls Tryz.prog 125 #[.agg #[.int .i64 u, .int .i64 g, .int .i64 o, .slice au lu cu, .slice ag lg cg, .bool true, .int .i64 0]] w' fun e w'' => e = .returned (.int .i64 (maskL g us gs)) ∧ Below w'.heap.size w' w'') := (fun w' hb => sMask_any u g o au lu cu ag lg cg true 0 us gs w' (hu.below hb) (hg.below hb) g0 g1 bu bg hN)
  clear hu hg bu bg
  by_cases hz : lu = 0 ∧ lg = 0
  · have E1 : Hid (hnB us gs = false) := hn_no e1 e2 hz
    have E2 : Hid (mkB g us gs = 0) := (by show _ = _; rw [mkB, E1.out]; rfl)
    rw [E1.out, E2.out]
    obtain ⟨z1, z2⟩ := hz
    subst z1 z2
    clear E1 E2 hd e1 e2
    go_enter Tryz.func113, Tryz.ntmps113
    go_wp2
    exact bodyPost_ret (v := .agg #[.int .i64 u, .int .i64 g, .int .i64 o, .slice au 0 cu, .slice ag 0 cg, .bool false, .int .i64 0, .int .i64 0]) (by simp [results, Tryz.results113, go_sem]) rfl ⟨rfl, bl2N _ _ _⟩
  · have E1 : Hid (hnB us gs = true) := hn_yes e1 e2 hz
    have E2 : Hid (mkB g us gs = maskL g us gs) := (by show _ = _; rw [mkB, E1.out]; rfl)
    rw [E1.out, E2.out]
    clear E1 E2 e1 e2
    generalize maskL g us gs = mm at hd ⊢
    have hX := (box7_new w (.int .i64 u) (.int .i64 g) (.int .i64 o) (.slice au lu cu) (.slice ag lg cg) (.bool true) (.int .i64 0) 83).below (bel_alloc _ (.cells #[.int .i64 0, .int .i64 0, .int .i64 0, .slice none 0 0, .slice none 0 0, .bool false, .int .i64 0, .int .i64 0] 112))
    have hY := box8_new (w.alloc (.cells #[.int .i64 u, .int .i64 g, .int .i64 o, .slice au lu cu, .slice ag lg cg, .bool true, .int .i64 0] 83)) (.int .i64 0) (.int .i64 0) (.int .i64 0) (.slice none 0 0) (.slice none 0 0) (.bool false) (.int .i64 0) (.int .i64 0) 112
    have eY : (w.alloc (.cells #[.int .i64 u, .int .i64 g, .int .i64 o, .slice au lu cu, .slice ag lg cg, .bool true, .int .i64 0] 83)).heap.size = w.heap.size + 1 := by simp
    rw [eY] at hY
    clear eY
    by_cases hz1 : lu = 0
    · have d2 : 0 < (lg : Int) := by omega
      subst hz1
      clear hz
      go_enter Tryz.func113, Tryz.ntmps113
      go_wp2_with fail
      refine (hd.out _ (bl2N _ _ _)).mono ?_
      rintro e w1 ⟨rfl, hb⟩
      have hW1 : Hid (Below w.heap.size w w1) := (bl2N _ _ _).trans (hb.mono (by simp; omega))
      obtain ⟨hcl, hfz⟩ := bl_cellN hb
      obtain ⟨xl, x0, x1, x2, x3, x4, x5, x6⟩ := hX.below hb
      obtain ⟨yl, y0, y1, y2, y3, y4, y5, y6, y7⟩ := hY.below hb
      clear hb hcl hX hY hd
      simp at hfz
      go_wp2
      refine bodyPost_ret (v := .agg #[.int .i64 u, .int .i64 g, .int .i64 o, .slice au 0 cu, .slice ag lg cg, .bool true, .int .i64 mm, .int .i64 0]) (by simp [results, Tryz.results113, go_sem, y0, y1, y2, y3, y4, y5, y6, y7]) rfl ⟨rfl, ?_⟩
      iterate 9 (refine bl_setN ?_ (by omega))
      exact hW1.out
    · have d1 : 0 < (lu : Int) := by omega
      clear hz hz1
      go_enter Tryz.func113, Tryz.ntmps113
      go_wp2_with fail
      refine (hd.out _ (bl2N _ _ _)).mono ?_
      rintro e w1 ⟨rfl, hb⟩
      have hW1 : Hid (Below w.heap.size w w1) := (bl2N _ _ _).trans (hb.mono (by simp; omega))
      obtain ⟨hcl, hfz⟩ := bl_cellN hb
      obtain ⟨xl, x0, x1, x2, x3, x4, x5, x6⟩ := hX.below hb
      obtain ⟨yl, y0, y1, y2, y3, y4, y5, y6, y7⟩ := hY.below hb
      clear hb hcl hX hY hd
      simp at hfz
      go_wp2
      refine bodyPost_ret (v := .agg #[.int .i64 u, .int .i64 g, .int .i64 o, .slice au lu cu, .slice ag lg cg, .bool true, .int .i64 mm, .int .i64 0]) (by simp [results, Tryz.results113, go_sem, y0, y1, y2, y3, y4, y5, y6, y7]) rfl ⟨rfl, ?_⟩
      iterate 9 (refine bl_setN ?_ (by omega))
      exact hW1.out
end Go.Proofs.YtedahdncincgjaaGreatDoor
