/- Laid together: PutUserR. -/
import Derived.Test.YtgooanaacebncaaGreatDoorAT20
/- spec.PutUser, with the rooms behind its lists. -/
namespace Go.Proofs.YtgooanaacebncaaGreatDoor
open Go.RowKit Go.PlainAid Go.Deep
set_option linter.unusedVariables false
set_option maxRecDepth 100000 in
set_option maxHeartbeats 8000000 in
/-- spec.PutUser. -/
theorem sPutUserR_any (u g o : Int) (au : Option Addr) (lu cu : Nat) (ag : Option Addr) (lg cg : Nat) (r : Bool) (m : Int) (us gs : List (Int × Int)) (id bt : Int) (hlu : lu ≤ 1048576) (hlg : lg ≤ 1048576) (w : World) (hu : Prs au lu us w) (hg : Prs ag lg gs w) :
    Calls Tryz.prog 41 #[.agg #[.int .i64 u, .int .i64 g, .int .i64 o, .slice au lu cu, .slice ag lg cg, .bool r, .int .i64 m], .int .i64 id, .int .i64 bt] w (AnswersC (putUA u g o us gs r m id bt) w) := by
  have e1 := hu.1
  have e2 := hg.1
  have hc : Hid (∀ w', Below w.heap.size w w' → Calls Tryz.prog 31 #[.agg #[.int .i64 u, .int .i64 g, .int .i64 o, .slice au lu cu, .slice ag lg cg, .bool r, .int .i64 m]] w' fun e w'' => e = .returned (.bool (aclB u g o us gs r m)) ∧ Below w'.heap.size w' w'') := (fun w' hb => sAclRight_any u g o au lu cu ag lg cg r m us gs hlu hlg w' (hu.below hb) (hg.below hb))
  have hown : Hid (aclB u g o us gs r m = true → ∀ w', Below w.heap.size w w' → Calls Tryz.prog 68 #[.agg #[.int .i64 u, .int .i64 g, .int .i64 o, .slice au lu cu, .slice ag lg cg, .bool r, .int .i64 m]] w' fun e w'' => ∃ a1 c1 a2 c2, e = .returned (.agg #[.int .i64 u, .int .i64 g, .int .i64 o, .slice a1 lu c1, .slice a2 lg c2, .bool r, .int .i64 m]) ∧ NewC w' w'' a1 c1 lu us a2 c2 lg gs) := (fun h w' hb => by
    obtain ⟨_, _, _, _, m1, m2⟩ := aclB_parts h
    have l1 := nm_len m1
    have l2 := nm_len m2
    exact sCopyR_any u g o au lu cu ag lg cg r m us gs w' (hu.below hb) (hg.below hb) (by omega) (by omega))
  have hwn : Hid (aclB u g o us gs r m = true → ∀ a c w', Prs a lu us w' → lu ≤ c → Calls Tryz.prog 69 #[.slice a lu c, .agg #[.int .i64 id, .int .i64 bt]] w' fun e w'' => ∃ a' c', e = .returned (.slice a' (putN us id) c') ∧ OwnR a' c' (putN us id) (putL us id bt) w'' ∧ (∀ Ad, a' = some Ad → w'.heap.size ≤ Ad.block ∧ Ad.block < w''.heap.size) ∧ Below w'.heap.size w' w'') := (fun h a c w' hp hcp => by
    obtain ⟨_, _, _, _, m1, m2⟩ := aclB_parts h
    have l1 := nm_len m1
    have l2 := nm_len m2
    exact sPutR_any a lu c us id bt hcp (by omega) w' hp)
  have hrm : Hid (aclB u g o us gs r m = true → inR 0 7 bt = true → putN us id ≤ 6 → ∀ a3 c3 a2 c2 w', Prs a3 (putN us id) (putL us id bt) w' → Prs a2 lg gs w' → Calls Tryz.prog 70 #[.agg #[.int .i64 u, .int .i64 g, .int .i64 o, .slice a3 (putN us id) c3, .slice a2 lg c2, .bool r, .int .i64 m]] w' fun e w'' => e = .returned (.agg #[.int .i64 u, .int .i64 g, .int .i64 o, .slice a3 (putN us id) c3, .slice a2 lg c2, .bool (hnB (putL us id bt) gs), .int .i64 (mkB g (putL us id bt) gs), .int .i64 0]) ∧ Below w'.heap.size w' w'') := (fun h hbt h6 a3 c3 a2 c2 w' h1 h2 => by
    obtain ⟨_, ⟨g0, g1⟩, _, _, m1, m2⟩ := aclB_parts h
    have l1 := nm_len m1
    have l2 := nm_len m2
    exact sNew_any u g o _ _ _ _ _ _ r m (putL us id bt) gs w' h1 h2 g0 g1 (bnd_putPutUser (nm_bt m1) (inR_iff.1 hbt)) (nm_bt m2) (by omega))
  have HPL : Hid ((putL us id bt).length = (putN us id)) := putL_len us id bt
  have E1 : Hid (us.length = lu ∧ gs.length = lg) := ⟨e1, e2⟩
  clear hu hg e1 e2
  go_enter Tryz.func41, Tryz.ntmps41
  go_wp2_with fail
  refine (hc.out _ (bl2N _ _ _)).mono ?_
  rintro e w1 ⟨rfl, hb⟩
  have hW1 : Hid (Below w.heap.size w w1) := (bl2N _ _ _).trans (hb.mono (by simp; omega))
  have hX := ((box7_new w (.int .i64 u) (.int .i64 g) (.int .i64 o) (.slice au lu cu) (.slice ag lg cg) (.bool r) (.int .i64 m) 25).below (bel_alloc _ (.cells #[.int .i64 0, .int .i64 0, .int .i64 0, .slice none 0 0, .slice none 0 0, .bool false, .int .i64 0, .int .i64 0] 30))).below hb
  have eA : (w.alloc (.cells #[.int .i64 u, .int .i64 g, .int .i64 o, .slice au lu cu, .slice ag lg cg, .bool r, .int .i64 m] 25)).heap.size = w.heap.size + 1 := by simp
  have hY := (box8_new (w.alloc (.cells #[.int .i64 u, .int .i64 g, .int .i64 o, .slice au lu cu, .slice ag lg cg, .bool r, .int .i64 m] 25)) (.int .i64 0) (.int .i64 0) (.int .i64 0) (.slice none 0 0) (.slice none 0 0) (.bool false) (.int .i64 0) (.int .i64 0) 30).below hb
  have fr1 : ∀ o2, w1.frozen? ⟨w.heap.size + 1, o2, none⟩ = false := fun o2 => by
    have h1 := froz_new (w.alloc (.cells #[.int .i64 u, .int .i64 g, .int .i64 o, .slice au lu cu, .slice ag lg cg, .bool r, .int .i64 m] 25)) #[.int .i64 0, .int .i64 0, .int .i64 0, .slice none 0 0, .slice none 0 0, .bool false, .int .i64 0, .int .i64 0] 30 o2
    rw [eA] at h1
    rw [hb.frozen (p := ⟨w.heap.size + 1, o2, none⟩) (by simp)]
    exact h1
  rw [eA] at hY
  clear hb hc eA
  cases h : aclB u g o us gs r m
  · have hno : Hid (putUA u g o us gs r m id bt = illA 1) := putUA_no (by simp [h])
    clear h hown hwn hrm hX
    go_wp2_with fail
    refine (sIll_any 1 _).mono ?_
    rintro e wz ⟨rfl, hbz⟩
    obtain ⟨yl, y0, y1, y2, y3, y4, y5, y6, y7⟩ := hY.below hbz
    have frz : ∀ o2, wz.frozen? ⟨w.heap.size + 1, o2, none⟩ = false := fun o2 => (hbz.frozen (p := (⟨w.heap.size + 1, o2, none⟩ : Addr)) hY.lt).trans (fr1 o2)
    have hWz : Hid (Below w.heap.size w wz) := Below.on hW1.out hbz
    clear hbz hY
    go_wp2
    refine bodyPost_ret (v := .agg #[.int .i64 0, .int .i64 0, .int .i64 0, .slice none 0 0, .slice none 0 0, .bool false, .int .i64 0, .int .i64 1]) (by simp [results, Tryz.results41, go_sem, y0, y1, y2, y3, y4, y5, y6, y7]) rfl (answersC_ill hno.out ?_)
    iterate 8 (refine bl_setN ?_ (by omega))
    exact hWz.out
  cases hn : inR 0 9999 id
  · have hno : Hid (putUA u g o us gs r m id bt = illA 1) := putUA_no (by simp [hn])
    clear h hown hwn hrm hX
    go_wp2_with (first | (go_at_call 66; refine (sId_any _ _).mono ?_; rintro e w' ⟨rfl, rfl⟩) | (go_at_call 59; refine (sBits_any _ _).mono ?_; rintro e w' ⟨rfl, rfl⟩))
    refine (sIll_any 1 _).mono ?_
    rintro e wz ⟨rfl, hbz⟩
    obtain ⟨yl, y0, y1, y2, y3, y4, y5, y6, y7⟩ := hY.below hbz
    have frz : ∀ o2, wz.frozen? ⟨w.heap.size + 1, o2, none⟩ = false := fun o2 => (hbz.frozen (p := (⟨w.heap.size + 1, o2, none⟩ : Addr)) hY.lt).trans (fr1 o2)
    have hWz : Hid (Below w.heap.size w wz) := Below.on hW1.out hbz
    clear hbz hY
    go_wp2
    refine bodyPost_ret (v := .agg #[.int .i64 0, .int .i64 0, .int .i64 0, .slice none 0 0, .slice none 0 0, .bool false, .int .i64 0, .int .i64 1]) (by simp [results, Tryz.results41, go_sem, y0, y1, y2, y3, y4, y5, y6, y7]) rfl (answersC_ill hno.out ?_)
    iterate 8 (refine bl_setN ?_ (by omega))
    exact hWz.out
  cases hn2 : inR 0 7 bt
  · have hno : Hid (putUA u g o us gs r m id bt = illA 1) := putUA_no (by simp [hn2])
    clear h hown hwn hrm hX
    go_wp2_with (first | (go_at_call 66; refine (sId_any _ _).mono ?_; rintro e w' ⟨rfl, rfl⟩) | (go_at_call 59; refine (sBits_any _ _).mono ?_; rintro e w' ⟨rfl, rfl⟩))
    refine (sIll_any 1 _).mono ?_
    rintro e wz ⟨rfl, hbz⟩
    obtain ⟨yl, y0, y1, y2, y3, y4, y5, y6, y7⟩ := hY.below hbz
    have frz : ∀ o2, wz.frozen? ⟨w.heap.size + 1, o2, none⟩ = false := fun o2 => (hbz.frozen (p := (⟨w.heap.size + 1, o2, none⟩ : Addr)) hY.lt).trans (fr1 o2)
    have hWz : Hid (Below w.heap.size w wz) := Below.on hW1.out hbz
    clear hbz hY
    go_wp2
    refine bodyPost_ret (v := .agg #[.int .i64 0, .int .i64 0, .int .i64 0, .slice none 0 0, .slice none 0 0, .bool false, .int .i64 0, .int .i64 1]) (by simp [results, Tryz.results41, go_sem, y0, y1, y2, y3, y4, y5, y6, y7]) rfl (answersC_ill hno.out ?_)
    iterate 8 (refine bl_setN ?_ (by omega))
    exact hWz.out
  have hown2 : Hid (∀ w', Below w.heap.size w w' → Calls Tryz.prog 68 #[.agg #[.int .i64 u, .int .i64 g, .int .i64 o, .slice au lu cu, .slice ag lg cg, .bool r, .int .i64 m]] w' fun e w'' => ∃ a1 c1 a2 c2, e = .returned (.agg #[.int .i64 u, .int .i64 g, .int .i64 o, .slice a1 lu c1, .slice a2 lg c2, .bool r, .int .i64 m]) ∧ NewC w' w'' a1 c1 lu us a2 c2 lg gs) := hown.out h
  have hwn2 := hwn.out h
  have hrm2 := hrm.out h hn2
  have HWN : Hid _ := hwn2
  have HRM : Hid (putN us id ≤ 6 → _) := hrm2
  have HH : Hid (aclB u g o us gs r m = true ∧ inR 0 9999 id = true ∧ inR 0 7 bt = true) := ⟨h, hn, hn2⟩
  obtain ⟨xl, x0, x1, x2, x3, x4, x5, x6⟩ := hX
  clear h hown hwn hrm hwn2 hrm2
  go_wp2_with (first | (go_at_call 66; refine (sId_any _ _).mono ?_; rintro e w' ⟨rfl, rfl⟩) | (go_at_call 59; refine (sBits_any _ _).mono ?_; rintro e w' ⟨rfl, rfl⟩))
  refine (hown2.out _ hW1.out).mono ?_
  rintro e w2 ⟨a1, c1, a2, c2, rfl, hNC⟩
  have hN := hNC.new
  have hcp1 := hNC.ru.2
  have hcp2 := hNC.rg.2
  have hRo : Room w2 a2 c2 := hNC.rg.1
  have hbA := bel_alloc w2 (.cells #[.int .i64 u, .int .i64 g, .int .i64 o, .slice a1 lu c1, .slice a2 lg c2, .bool r, .int .i64 m] 25)
  have hO2 := box7_new w2 (.int .i64 u) (.int .i64 g) (.int .i64 o) (.slice a1 lu c1) (.slice a2 lg c2) (.bool r) (.int .i64 m) 25
  have hY2 := (hY.below hN.bel).below hbA
  have hYl2 : w.heap.size + 1 < w2.heap.size := (hY.below hN.bel).lt
  have HF : Hid ((∀ o2, (w2.alloc (.cells #[.int .i64 u, .int .i64 g, .int .i64 o, .slice a1 lu c1, .slice a2 lg c2, .bool r, .int .i64 m] 25)).frozen? ⟨w.heap.size + 1, o2, none⟩ = false) ∧ (∀ o2, (w2.alloc (.cells #[.int .i64 u, .int .i64 g, .int .i64 o, .slice a1 lu c1, .slice a2 lg c2, .bool r, .int .i64 m] 25)).frozen? ⟨w2.heap.size, o2, none⟩ = false)) := ⟨fun o2 => ((hbA.frozen (p := (⟨w.heap.size + 1, o2, none⟩ : Addr)) hYl2).trans (hN.bel.frozen (p := (⟨w.heap.size + 1, o2, none⟩ : Addr)) hY.lt)).trans (fr1 o2), fun o2 => froz_new w2 #[.int .i64 u, .int .i64 g, .int .i64 o, .slice a1 lu c1, .slice a2 lg c2, .bool r, .int .i64 m] 25 o2⟩
  have HN : Hid (New w (w2.alloc (.cells #[.int .i64 u, .int .i64 g, .int .i64 o, .slice a1 lu c1, .slice a2 lg c2, .bool r, .int .i64 m] 25)) a1 lu us a2 lg gs) := (hN.pre hW1.out).on hbA
  have HX1 : Hid ((∀ A, a1 = some A → w.heap.size + 1 < A.block ∧ A.block < w2.heap.size) ∧ (∀ A, a2 = some A → w.heap.size + 1 < A.block ∧ A.block < w2.heap.size)) := ⟨fun A e => ⟨by have := (hN.iu A e).1; have h2 := hY.lt; omega, (hN.iu A e).2⟩, fun A e => ⟨by have := (hN.ig A e).1; have h2 := hY.lt; omega, (hN.ig A e).2⟩⟩
  have HC : Hid (lu ≤ c1 ∧ lg ≤ c2) := ⟨hcp1, hcp2⟩
  have hRA := hRo.below hbA
  clear hNC hRo hN hcp1 hcp2 hown2 xl x0 x1 x2 x3 x4 x5 x6 hY fr1 hbA
  go_wp2_with fail
  refine (HWN.out a1 c1 _ HN.out.ou.prs HC.out.1).mono ?_
  rintro e w5 ⟨a3, c3, rfl, hJR, hin, hb5⟩
  have hJ := hJR.1
  have hO5 := hO2.below hb5
  have hY5 := hY2.below hb5
  have pl := hO2.lt
  have fr5 : ∀ o2, w5.frozen? ⟨w.heap.size + 1, o2, none⟩ = false := fun o2 => (hb5.frozen (p := (⟨w.heap.size + 1, o2, none⟩ : Addr)) hY2.lt).trans (HF.out.1 o2)
  have fo5 : ∀ o2, w5.frozen? ⟨w2.heap.size, o2, none⟩ = false := fun o2 => (hb5.frozen (p := (⟨w2.heap.size, o2, none⟩ : Addr)) hO2.lt).trans (HF.out.2 o2)
  have hin2 : ∀ A, a3 = some A → w2.heap.size < A.block ∧ A.block < w5.heap.size := fun A e => ⟨by have := (hin A e).1; omega, (hin A e).2⟩
  have hN5 := HN.out.on hb5
  have hJ6 := hJ.set (b := w2.heap.size) (o := 3) (v := .slice a3 (putN us id) c3) (fun B e => by have := (hin2 _ e).1; simp only at this; omega)
  have hoth6 := hN5.og.set (b := w2.heap.size) (o := 3) (v := .slice a3 (putN us id) c3) (fun B e => by have := HX1.out.2 _ e; simp only at this; omega)
  have hW6 : Hid (Below w.heap.size w (w5.setCell ⟨w2.heap.size, 3, none⟩ (.slice a3 (putN us id) c3))) := bl_setN hN5.bel (by omega)
  have hY6 := hY5.other (b := w2.heap.size) (o := 3) (v := .slice a3 (putN us id) c3) (by omega)
  have hO6 := hO5.set3 (v := .slice a3 (putN us id) c3)
  have fr6 : ∀ o2, (w5.setCell ⟨w2.heap.size, 3, none⟩ (.slice a3 (putN us id) c3)).frozen? ⟨w.heap.size + 1, o2, none⟩ = false := fun o2 => by rw [World.frozen?_setCell]; exact fr5 o2
  have HN6 : Hid (NewC w (w5.setCell ⟨w2.heap.size, 3, none⟩ (.slice a3 (putN us id) c3)) a3 c3 (putN us id) (putL us id bt) a2 c2 lg gs) := ⟨⟨hJ6, hoth6, fun A e => ⟨by have := (hin2 A e).1; omega, by simpa using (hin2 A e).2⟩, fun A e => ⟨(hN5.ig A e).1, by simpa using (hN5.ig A e).2⟩, fun A A2 e e2 => by have h1 := (hin2 A e).1; have h2 := (HX1.out.2 A2 e2).2; omega, hW6.out⟩, ⟨hJR.2.1.set (fun A e => by have := (hin2 A e).1; omega), hJR.2.2⟩, ⟨(hRA.below hb5).set (fun A e => by have := HX1.out.2 A e; omega), HC.out.2⟩⟩
  have M1 : Hid (∀ A, a3 = some A → w.heap.size + 1 ≠ A.block) := (fun A e => by have := (hin2 A e).1; omega)
  have M2 : Hid (∀ A, a2 = some A → w.heap.size + 1 ≠ A.block) := (fun A e => by have := (HX1.out.2 A e).1; omega)
  have HJ : Hid (Prs a3 (putN us id) (putL us id bt) (w5.setCell ⟨w2.heap.size, 3, none⟩ (.slice a3 (putN us id) c3)) ∧ Prs a2 lg gs (w5.setCell ⟨w2.heap.size, 3, none⟩ (.slice a3 (putN us id) c3))) := ⟨hJ6.prs, hoth6.prs⟩
  obtain ⟨gl, g0, g1, g2, g3, g4, g5, g6⟩ := hO5
  obtain ⟨ql, q0, q1, q2, q3, q4, q5, q6⟩ := hO6
  clear hJR hRA hJ hJ6 hoth6 hin hin2 hb5 hN5 HN HWN HX1 HC hO2 hY2 HF hY5 fr5
  by_cases h6 : putN us id ≤ 6
  · have hyes : Hid (putUA u g o us gs r m id bt = ⟨u, g, o, (putL us id bt), gs, hnB (putL us id bt) gs, mkB g (putL us id bt) gs, 0⟩) := putUA_yes HH.out h6
    have hrm3 := HRM.out h6
    have HRM3 : Hid _ := hrm3
    have HPL2 : Hid ((putL us id bt).length = (putN us id)) := HPL
    have d6 : decide (6 < (((putN us id) : Nat) : Int)) = false := decide_eq_false (by omega)
    clear HRM hrm3 HH HPL h6
    generalize putL us id bt = pp at hyes HRM3 HPL2 HN6 HJ ⊢
    generalize putN us id = nn at hyes HRM3 HPL2 HN6 HJ hW6 hY6 fr6 d6 ql q0 q1 q2 q3 q4 q5 q6 ⊢
    go_wp2_with fail
    refine (HRM3.out a3 c3 a2 c2 _ HJ.out.1 HJ.out.2).mono ?_
    rintro e w7 ⟨rfl, hb7⟩
    obtain ⟨yl, y0, y1, y2, y3, y4, y5, y6, y7⟩ := hY6.below hb7
    have fr7 : ∀ o2, w7.frozen? ⟨w.heap.size + 1, o2, none⟩ = false := fun o2 => (hb7.frozen (p := (⟨w.heap.size + 1, o2, none⟩ : Addr)) hY6.lt).trans (fr6 o2)
    have HN7 : Hid (NewC w w7 a3 c3 nn pp a2 c2 lg gs) := HN6.out.on hb7
    clear hb7 hY6 fr6 HN6 HRM3 HJ ql q0 q1 q2 q3 q4 q5 q6 gl g0 g1 g2 g3 g4 g5 g6 fo5
    generalize hnB pp gs = hh at hyes ⊢
    generalize mkB g pp gs = mm at hyes ⊢
    go_wp2
    refine bodyPost_ret (v := .agg #[.int .i64 u, .int .i64 g, .int .i64 o, .slice a3 nn c3, .slice a2 lg c2, .bool hh, .int .i64 mm, .int .i64 0]) (by simp [results, Tryz.results41, go_sem, y0, y1, y2, y3, y4, y5, y6, y7]) rfl (answersC_of hyes.out HPL2.out E1.out.2 ?_)
    iterate 8 (refine NewC.set ?_ (by omega) (fun A e => M1.out A e) (fun A e => M2.out A e))
    exact HN7.out
  · have hno : Hid (putUA u g o us gs r m id bt = illA 9) := putUA_full HH.out h6
    have d6 : 6 < (((putN us id) : Nat) : Int) := by omega
    clear HH HPL h6 HN6 HJ
    generalize putN us id = nn at d6 hW6 hY6 fr6 ql q0 q1 q2 q3 q4 q5 q6 HRM ⊢
    clear HRM
    go_wp2_with fail
    refine (sIll_any 9 _).mono ?_
    rintro e wz ⟨rfl, hbz⟩
    obtain ⟨yl, y0, y1, y2, y3, y4, y5, y6, y7⟩ := hY6.below hbz
    have frz : ∀ o2, wz.frozen? ⟨w.heap.size + 1, o2, none⟩ = false := fun o2 => (hbz.frozen (p := (⟨w.heap.size + 1, o2, none⟩ : Addr)) hY6.lt).trans (fr6 o2)
    have hWz : Hid (Below w.heap.size w wz) := Below.on hW6.out hbz
    clear hbz hY6
    go_wp2
    refine bodyPost_ret (v := .agg #[.int .i64 0, .int .i64 0, .int .i64 0, .slice none 0 0, .slice none 0 0, .bool false, .int .i64 0, .int .i64 9]) (by simp [results, Tryz.results41, go_sem, y0, y1, y2, y3, y4, y5, y6, y7]) rfl (answersC_ill hno.out ?_)
    iterate 8 (refine bl_setN ?_ (by omega))
    exact hWz.out
end Go.Proofs.YtgooanaacebncaaGreatDoor
