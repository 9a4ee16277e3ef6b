/- Laid together: Ill, SetMask, SetMaskR. -/
import Derived.Test.YtedahdncincgjaaGreatDoorNX13
/- spec.l03Ill: an answer that is a code alone. -/
namespace Go.Proofs.YtedahdncincgjaaGreatDoor
open Go.RowKit Go.PlainAid Go.Deep
set_option linter.unusedVariables false
set_option maxHeartbeats 1000000 in
/-- spec.l03Ill. -/
theorem sIll_any (c : Int) (w : World) :
    Calls Tryz.prog 110 #[.int .i64 c] w fun e w' => e = .returned (.agg #[.int .i64 0, .int .i64 0, .int .i64 0, .slice none 0 0, .slice none 0 0, .bool false, .int .i64 0, .int .i64 c]) ∧ Below w.heap.size w w' := by
  go_enter Tryz.func110, Tryz.ntmps110
  go_wp2
  exact bodyPost_ret (v := .agg #[.int .i64 0, .int .i64 0, .int .i64 0, .slice none 0 0, .slice none 0 0, .bool false, .int .i64 0, .int .i64 c]) (by simp [results, Tryz.results110, go_sem]) rfl ⟨rfl, bel_alloc _ _⟩
/-- SetMask. -/
def setMaskA (u g o : Int) (us gs : List (Int × Int)) (r : Bool) (m n : Int) : Ans :=
  if aclB u g o us gs r m = true ∧ inR 0 7 n = true then ⟨u, g, o, us, gs, true, n, 0⟩ else illA 1
theorem setMaskA_no {u g o : Int} {us gs : List (Int × Int)} {r : Bool} {m n : Int} (h : ¬ (aclB u g o us gs r m = true ∧ inR 0 7 n = true)) : setMaskA u g o us gs r m n = illA 1 := by rw [setMaskA, if_neg h]
set_option maxRecDepth 100000 in
set_option maxHeartbeats 4000000 in
/-- spec.SetMask. -/
theorem sSetMaskR_any (u g o : Int) (au : Option Addr) (lu cu : Nat) (ag : Option Addr) (lg cg : Nat) (r : Bool) (m : Int) (us gs : List (Int × Int)) (n : Int) (hlu : lu ≤ 1048576) (hlg : lg ≤ 1048576) (w : World) (hu : Prs au lu us w) (hg : Prs ag lg gs w) :
    Calls Tryz.prog 92 #[.agg #[.int .i64 u, .int .i64 g, .int .i64 o, .slice au lu cu, .slice ag lg cg, .bool r, .int .i64 m], .int .i64 n] w (AnswersC (setMaskA u g o us gs r m n) w) := by
  have e1 := hu.1
  have e2 := hg.1
  have hc : Hid (∀ w', Below w.heap.size w w' → Calls Tryz.prog 87 #[.agg #[.int .i64 u, .int .i64 g, .int .i64 o, .slice au lu cu, .slice ag lg cg, .bool r, .int .i64 m]] w' fun e w'' => e = .returned (.bool (aclB u g o us gs r m)) ∧ Below w'.heap.size w' w'') := (fun w' hb => sAclRight_any u g o au lu cu ag lg cg r m us gs hlu hlg w' (hu.below hb) (hg.below hb))
  have hd : Hid (aclB u g o us gs r m = true → ∀ w', Below w.heap.size w w' → Calls Tryz.prog 111 #[.agg #[.int .i64 u, .int .i64 g, .int .i64 o, .slice au lu cu, .slice ag lg cg, .bool r, .int .i64 m]] w' fun e w'' => ∃ a1 c1 a2 c2, e = .returned (.agg #[.int .i64 u, .int .i64 g, .int .i64 o, .slice a1 lu c1, .slice a2 lg c2, .bool r, .int .i64 m]) ∧ NewC w' w'' a1 c1 lu us a2 c2 lg gs) := (fun h w' hb => by
    obtain ⟨_, _, _, _, m1, m2⟩ := aclB_parts h
    have l1 := nm_len m1
    have l2 := nm_len m2
    exact sCopyR_any u g o au lu cu ag lg cg r m us gs w' (hu.below hb) (hg.below hb) (by omega) (by omega))
  have E1 : Hid (us.length = lu ∧ gs.length = lg) := ⟨e1, e2⟩
  clear hu hg e1 e2
  go_enter Tryz.func92, Tryz.ntmps92
  go_wp2_with fail
  refine (hc.out _ (bl2N _ _ _)).mono ?_
  rintro e w1 ⟨rfl, hb⟩
  have hW1 : Hid (Below w.heap.size w w1) := (bl2N _ _ _).trans (hb.mono (by simp; omega))
  obtain ⟨hcl, hfz⟩ := bl_cellN hb
  have hX := ((box7_new w (.int .i64 u) (.int .i64 g) (.int .i64 o) (.slice au lu cu) (.slice ag lg cg) (.bool r) (.int .i64 m) 83).below (bel_alloc _ (.cells #[.int .i64 0, .int .i64 0, .int .i64 0, .slice none 0 0, .slice none 0 0, .bool false, .int .i64 0, .int .i64 0] 112))).below hb
  have hY := (box8_new (w.alloc (.cells #[.int .i64 u, .int .i64 g, .int .i64 o, .slice au lu cu, .slice ag lg cg, .bool r, .int .i64 m] 83)) (.int .i64 0) (.int .i64 0) (.int .i64 0) (.slice none 0 0) (.slice none 0 0) (.bool false) (.int .i64 0) (.int .i64 0) 112).below hb
  have eY : (w.alloc (.cells #[.int .i64 u, .int .i64 g, .int .i64 o, .slice au lu cu, .slice ag lg cg, .bool r, .int .i64 m] 83)).heap.size = w.heap.size + 1 := by simp
  rw [eY] at hY
  clear hb hc eY hcl
  simp at hfz
  cases h : aclB u g o us gs r m
  · have hno : Hid (setMaskA u g o us gs r m n = illA 1) := setMaskA_no (by simp [h])
    clear h hd hX
    go_wp2_with fail
    refine (sIll_any 1 _).mono ?_
    rintro e w2 ⟨rfl, hb2⟩
    obtain ⟨yl, y0, y1, y2, y3, y4, y5, y6, y7⟩ := hY.below hb2
    have hfz2 := fun (b o : Nat) (h : b < w.heap.size + 1 + 1) => hb2.frozen (p := (⟨b, o, none⟩ : Addr)) (by have := hY.lt; show b < _; omega)
    have hW2 : Hid (Below w.heap.size w w2) := Below.on hW1.out hb2
    clear hb2 hY
    go_wp2
    refine bodyPost_ret (v := .agg #[.int .i64 0, .int .i64 0, .int .i64 0, .slice none 0 0, .slice none 0 0, .bool false, .int .i64 0, .int .i64 1]) (by simp [results, Tryz.results92, go_sem, y0, y1, y2, y3, y4, y5, y6, y7]) rfl (answersC_ill hno.out ?_)
    iterate 8 (refine bl_setN ?_ (by omega))
    exact hW2.out
  cases hn : inR 0 7 n
  · have hno : Hid (setMaskA u g o us gs r m n = illA 1) := setMaskA_no (by simp [hn])
    clear h hd hX
    go_wp2_with (go_at_call 103; refine (sBits_any _ _).mono ?_; rintro e w' ⟨rfl, rfl⟩)
    refine (sIll_any 1 _).mono ?_
    rintro e w2 ⟨rfl, hb2⟩
    obtain ⟨yl, y0, y1, y2, y3, y4, y5, y6, y7⟩ := hY.below hb2
    have hfz2 := fun (b o : Nat) (h : b < w.heap.size + 1 + 1) => hb2.frozen (p := (⟨b, o, none⟩ : Addr)) (by have := hY.lt; show b < _; omega)
    have hW2 : Hid (Below w.heap.size w w2) := Below.on hW1.out hb2
    clear hb2 hY
    go_wp2
    refine bodyPost_ret (v := .agg #[.int .i64 0, .int .i64 0, .int .i64 0, .slice none 0 0, .slice none 0 0, .bool false, .int .i64 0, .int .i64 1]) (by simp [results, Tryz.results92, go_sem, y0, y1, y2, y3, y4, y5, y6, y7]) rfl (answersC_ill hno.out ?_)
    iterate 8 (refine bl_setN ?_ (by omega))
    exact hW2.out
  have hyes : Hid (setMaskA u g o us gs r m n = ⟨u, g, o, us, gs, true, n, 0⟩) := (by show _ = _; rw [setMaskA, if_pos ⟨h, hn⟩])
  have hd2 : Hid (∀ w', Below w.heap.size w w' → Calls Tryz.prog 111 #[.agg #[.int .i64 u, .int .i64 g, .int .i64 o, .slice au lu cu, .slice ag lg cg, .bool r, .int .i64 m]] w' fun e w'' => ∃ a1 c1 a2 c2, e = .returned (.agg #[.int .i64 u, .int .i64 g, .int .i64 o, .slice a1 lu c1, .slice a2 lg c2, .bool r, .int .i64 m]) ∧ NewC w' w'' a1 c1 lu us a2 c2 lg gs) := hd.out h
  obtain ⟨xl, x0, x1, x2, x3, x4, x5, x6⟩ := hX
  clear h hd
  go_wp2_with (go_at_call 103; refine (sBits_any _ _).mono ?_; rintro e w' ⟨rfl, rfl⟩)
  refine (hd2.out _ hW1.out).mono ?_
  rintro e w2 ⟨a1, c1, a2, c2, rfl, hNC⟩
  have hN := hNC.new
  obtain ⟨yl, y0, y1, y2, y3, y4, y5, y6, y7⟩ := hY.below hN.bel
  have hfz2 := fun (b o : Nat) (h : b < w.heap.size + 1 + 1) => hN.bel.frozen (p := (⟨b, o, none⟩ : Addr)) (by have := hY.lt; show b < _; omega)
  have N1 : Hid (∀ A, a1 = some A → w.heap.size + 1 < A.block) := (fun A e => by have := (hN.iu A e).1; have h2 := hY.lt; omega)
  have N2 : Hid (∀ A, a2 = some A → w.heap.size + 1 < A.block) := (fun A e => by have := (hN.ig A e).1; have h2 := hY.lt; omega)
  have HN : Hid (NewC w w2 a1 c1 lu us a2 c2 lg gs) := hNC.pre hW1.out
  clear hNC hN hd2 x0 x1 x2 x3 x4 x5 x6 hY
  iterate 3 go_wp21
  refine bodyPost_ret (v := .agg #[.int .i64 u, .int .i64 g, .int .i64 o, .slice a1 lu c1, .slice a2 lg c2, .bool true, .int .i64 n, .int .i64 0]) (by simp [results, Tryz.results92, go_sem, yl, y0, y1, y2, y3, y4, y5, y6, y7]) rfl (answersC_of hyes.out E1.out.1 E1.out.2 ?_)
  refine NewC.on ?_ (bel_alloc _ _)
  iterate 8 (refine NewC.set ?_ (by omega) (fun A e => by have := N1.out A e; omega) (fun A e => by have := N2.out A e; omega))
  exact HN.out
end Go.Proofs.YtedahdncincgjaaGreatDoor
