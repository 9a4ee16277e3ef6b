/- Laid together: Copy, CopyR. -/
import Derived.Test.YtedahdncincgjaaGreatDoorNX11
/- spec.l03Copy: a list of names in memory of its own. -/
namespace Go.Proofs.YtedahdncincgjaaGreatDoor
open Go.RowKit Go.PlainAid Go.Deep
set_option linter.unusedVariables false
theorem own_start2 (w : World) (X : Nat) (hX : X = w.heap.size) (t : TypeId) : (w.alloc (.cells #[] t)).ownsRow X t 2 (.slice (some ⟨X, 0, none⟩) 0 0) ([] : List (Int × Int)).length (pc []) := by
  subst hX
  refine ⟨rfl, .inr ⟨w.heap.size, 0, #[], rfl, Nat.le_refl _, ?_, Nat.le_refl _, by decide, rfl, rfl⟩⟩
  rw [World.alloc]
  exact Array.getElem?_push_size
/-- append of a list onto an empty one that has just been made. -/
theorem append_copyR (w : World) (X : Nat) (hX : X = w.heap.size) (a : Option Addr) (len cap : Nat) (l : List (Int × Int)) (hp : Prs a len l w) (hN : len ≤ 1000000) :
    ∃ a' c' w', (Builtin.append_ #[81, 81] 81 #[.slice (some ⟨X, 0, none⟩) 0 0, .slice a len cap]).run Tryz.prog (w.alloc (.cells #[] 116)) = .ok (.slice a' len c') w' ∧ len ≤ c' ∧ OwnR a' c' len l w' ∧ (∀ A, a' = some A → X ≤ A.block ∧ A.block < w'.heap.size) ∧ Below w.heap.size w w' := by
  have ho := own_start2 w X hX 116
  have hb := bel_alloc w (.cells #[] 116)
  obtain ⟨v', w', hr, hO, hg⟩ := run_append_prs (P := Tryz.prog) (w.alloc (.cells #[] 116)) X 81 81 116 Tryz.underlying81 infoNamedC _ [] ho a len cap l (hp.below hb) (by simp; omega) (by simp; omega)
  rw [List.nil_append] at hO
  obtain ⟨a', c', rfl, h1, h2⟩ := own_of_row hO
  have hcp := own_cap hO
  have e := hp.1
  rw [e] at h1 hr hcp
  refine ⟨a', c', w', hr, hcp, ⟨h1, room_of_row hO, hcp⟩, h2, ?_⟩
  subst hX
  exact hb.grown hg (by simp) (own_blockN ho)
set_option maxRecDepth 100000 in
set_option maxHeartbeats 4000000 in
/-- spec.l03Copy, with what is known of the room. -/
theorem sCopyR_any (u g o : Int) (au : Option Addr) (lu cu : Nat) (ag : Option Addr) (lg cg : Nat) (r : Bool) (m : Int) (us gs : List (Int × Int)) (w : World) (hu : Prs au lu us w) (hg : Prs ag lg gs w) (hl1 : lu ≤ 1000000) (hl2 : lg ≤ 1000000) :
    Calls Tryz.prog 111 #[.agg #[.int .i64 u, .int .i64 g, .int .i64 o, .slice au lu cu, .slice ag lg cg, .bool r, .int .i64 m]] w fun e w' => ∃ a1 c1 a2 c2, e = .returned (.agg #[.int .i64 u, .int .i64 g, .int .i64 o, .slice a1 lu c1, .slice a2 lg c2, .bool r, .int .i64 m]) ∧ NewC w w' a1 c1 lu us a2 c2 lg gs := by
  have HG : Hid (Prs ag lg gs w) := hg
  have hb0 := bl2N w (.cells #[.int .i64 u, .int .i64 g, .int .i64 o, .slice au lu cu, .slice ag lg cg, .bool r, .int .i64 m] 83) (.cells #[.int .i64 0, .int .i64 0, .int .i64 0, .slice none 0 0, .slice none 0 0, .bool false, .int .i64 0] 83)
  obtain ⟨a1, c1, w1, hr1, hcp1, hO1, hin1, hb1⟩ := append_copyR ((w.alloc (.cells #[.int .i64 u, .int .i64 g, .int .i64 o, .slice au lu cu, .slice ag lg cg, .bool r, .int .i64 m] 83)).alloc (.cells #[.int .i64 0, .int .i64 0, .int .i64 0, .slice none 0 0, .slice none 0 0, .bool false, .int .i64 0] 83)) (w.heap.size + 1 + 1) (by simp) au lu cu us (hu.below hb0) hl1
  have hbW : Hid (Below w.heap.size w w1) := hb0.trans (hb1.mono (by simp; omega))
  obtain ⟨hcl, hfz⟩ := bl_cellN hb1
  have hX := ((box7_new w (.int .i64 u) (.int .i64 g) (.int .i64 o) (.slice au lu cu) (.slice ag lg cg) (.bool r) (.int .i64 m) 83).below (bel_alloc _ (.cells #[.int .i64 0, .int .i64 0, .int .i64 0, .slice none 0 0, .slice none 0 0, .bool false, .int .i64 0] 83))).below hb1
  have hY := (box7_new (w.alloc (.cells #[.int .i64 u, .int .i64 g, .int .i64 o, .slice au lu cu, .slice ag lg cg, .bool r, .int .i64 m] 83)) (.int .i64 0) (.int .i64 0) (.int .i64 0) (.slice none 0 0) (.slice none 0 0) (.bool false) (.int .i64 0) 83).below hb1
  have eY : (w.alloc (.cells #[.int .i64 u, .int .i64 g, .int .i64 o, .slice au lu cu, .slice ag lg cg, .bool r, .int .i64 m] 83)).heap.size = w.heap.size + 1 := by simp
  rw [eY] at hY
  have hz1 : w.heap.size + 1 + 1 ≤ w1.heap.size := by have := hb1.size; simp at this; omega
  clear hb1 eY hb0 hu hg hcl
  simp at hfz
  have hbW2 : Below w.heap.size w (w1.setCell ⟨w.heap.size, 3, none⟩ (.slice a1 lu c1)) := bl_setN hbW.out (Nat.le_refl _)
  obtain ⟨a2, c2, w2, hr2, hcp2, hO2, hin2, hb2⟩ := append_copyR (w1.setCell ⟨w.heap.size, 3, none⟩ (.slice a1 lu c1)) w1.heap.size (by simp) ag lg cg gs (HG.out.below hbW2) hl2
  have eS : (w1.setCell ⟨w.heap.size, 3, none⟩ (.slice a1 lu c1)).heap.size = w1.heap.size := by simp
  have n1 : ∀ A, a1 = some A → w.heap.size + 1 < A.block := fun A e => by have := hin1 A e; omega
  have n2 : ∀ A, a2 = some A → w.heap.size + 1 < A.block := fun A e => by have := hin2 A e; omega
  have hI2 : OwnR a1 c1 lu us w2 := (hO1.set (fun A e => by have := n1 A e; omega)).below hb2
  have hW2 : Below w.heap.size w w2 := hbW2.trans (hb2.mono (by rw [eS]; omega))
  have hfz2 : ∀ b o, b < w.heap.size + 1 + 1 → w2.frozen? ⟨b, o, none⟩ = (w1.setCell ⟨w.heap.size, 3, none⟩ (.slice a1 lu c1)).frozen? ⟨b, o, none⟩ := fun b o h => hb2.frozen (p := ⟨b, o, none⟩) (by rw [eS]; show b < _; omega)
  have HN : Hid (NewC w w2 a1 c1 lu us a2 c2 lg gs) := ⟨⟨hI2.1, hO2.1, fun A e => ⟨by have := n1 A e; omega, by have := hin1 A e; have h2 := hb2.size; rw [eS] at h2; omega⟩, fun A e => ⟨by have := n2 A e; omega, (hin2 A e).2⟩, fun A A2 e e2 => by have h1 := hin1 A e; have h2 := hin2 A2 e2; omega, hW2⟩, ⟨hI2.2.1, hI2.2.2⟩, ⟨hO2.2.1, hO2.2.2⟩⟩
  have N1 : Hid (∀ A, a1 = some A → w.heap.size + 1 < A.block) := n1
  have N2 : Hid (∀ A, a2 = some A → w.heap.size + 1 < A.block) := n2
  have HCP : Hid (lu ≤ c1 ∧ lg ≤ c2) := ⟨hcp1, hcp2⟩
  clear hcp1 hcp2
  obtain ⟨p0, p1, p2, p3, p4, p5, p6, p7⟩ := hX
  obtain ⟨xl, x0, x1, x2, x3, x4, x5, x6⟩ := (Box7.mk p0 p1 p2 p3 p4 p5 p6 p7).set3.below hb2
  obtain ⟨yl, y0, y1, y2, y3, y4, y5, y6⟩ := (hY.other (by omega)).below hb2
  clear hO1 hO2 hW2 hI2 hz1 hb2 eS hbW n1 n2 hin1 hin2 hY hbW2 HG
  go_enter Tryz.func111, Tryz.ntmps111
  go_wp2_with (at_builtin; first | refine wpList_append_run _ rfl (.tmp 3) (.tmp 5) 81 81 rfl _ _ _ _ rfl rfl hr1 ?_ | refine wpList_append_run _ rfl (.tmp 8) (.tmp 10) 81 81 rfl _ _ _ _ rfl rfl hr2 ?_)
  refine bodyPost_ret (v := .agg #[.int .i64 u, .int .i64 g, .int .i64 o, .slice a1 lu c1, .slice a2 lg c2, .bool r, .int .i64 m]) (by simp [results, Tryz.results111, go_sem, y0, y1, y2, y3, y4, y5, y6]) rfl ⟨a1, c1, a2, c2, rfl, ?_⟩
  iterate 8 (refine NewC.set ?_ (by omega) (fun A e => by have := N1.out A e; omega) (fun A e => by have := N2.out A e; omega))
  exact HN.out
end Go.Proofs.YtedahdncincgjaaGreatDoor
