/- DropUser, the program's and the specification's. -/
import Derived.Test.YteholdjhkdapcajSDrop
import Derived.Test.YteholdjhkdapcajIll
import Derived.Test.YteholdjhkdapcajOutLaw
namespace Go.Proofs.Yteholdjhkdapcaj
open Go.RowKit Go.PlainAid Go.Deep
set_option linter.unusedVariables false
/-- DropUser. -/
def dropUA (u g o : Int) (us gs : List (Int × Int)) (r : Bool) (m id : Int) : Ans :=
  if aclB u g o us gs r m = true ∧ inR 0 9999 id = true then (if fnd us id = true then ⟨u, g, o, (cutL us (plc us id)), gs, hnB (cutL us (plc us id)) gs, mkB g (cutL us (plc us id)) gs, 0⟩ else illA 6) else illA 1
theorem dropUA_no {u g o : Int} {us gs : List (Int × Int)} {r : Bool} {m id : Int} (h : ¬ (aclB u g o us gs r m = true ∧ inR 0 9999 id = true)) : dropUA u g o us gs r m id = illA 1 := by rw [dropUA, if_neg h]
theorem dropUA_none {u g o : Int} {us gs : List (Int × Int)} {r : Bool} {m id : Int} (h : aclB u g o us gs r m = true ∧ inR 0 9999 id = true) (h2 : fnd us id = false) : dropUA u g o us gs r m id = illA 6 := by rw [dropUA, if_pos h, if_neg (by simp [h2])]
theorem dropUA_yes {u g o : Int} {us gs : List (Int × Int)} {r : Bool} {m id : Int} (h : aclB u g o us gs r m = true ∧ inR 0 9999 id = true) (h2 : fnd us id = true) : dropUA u g o us gs r m id = ⟨u, g, o, (cutL us (plc us id)), gs, hnB (cutL us (plc us id)) gs, mkB g (cutL us (plc us id)) gs, 0⟩ := by rw [dropUA, if_pos h, if_pos h2]
theorem dropUA_len (u g o : Int) (us gs : List (Int × Int)) (r : Bool) (m id : Int) : (dropUA u g o us gs r m id).us.length ≤ 7 ∧ (dropUA u g o us gs r m id).gs.length ≤ 7 := by
  by_cases h : aclB u g o us gs r m = true ∧ inR 0 9999 id = true
  · obtain ⟨_, _, _, _, n1, n2⟩ := aclB_parts h.1
    have l1 := nm_len n1
    have l2 := nm_len n2
    cases hf : fnd us id
    · rw [dropUA_none h hf]
      exact ⟨by show 0 ≤ 7; omega, by show 0 ≤ 7; omega⟩
    · rw [dropUA_yes h hf]
      have h3 := cutL_len (fnd_lt hf)
      exact ⟨by show (cutL us (plc us id)).length ≤ 7; omega, by show gs.length ≤ 7; omega⟩
  · rw [dropUA_no h]
    exact ⟨by show 0 ≤ 7; omega, by show 0 ≤ 7; omega⟩
theorem bnd_cutDropUser {l : List (Int × Int)} (h : ∀ k, k < l.length → 0 ≤ btAt l k ∧ btAt l k ≤ 7) (k : Nat) : ∀ j, j < (cutL l k).length → 0 ≤ btAt (cutL l k) j ∧ btAt (cutL l k) j ≤ 7 :=
  bnd_bt (bnd_splice (bt_bnd h) (fun p hp => by cases hp) k (k + 1))
set_option maxRecDepth 100000 in
set_option maxHeartbeats 8000000 in
/-- impl.dropNamed. -/
theorem dropNamedDropUser_any (u g o : Int) (au : Option Addr) (lu cu : Nat) (ag : Option Addr) (lg cg : Nat) (r : Bool) (m : Int) (us gs : List (Int × Int)) (id : Int) (w : World) (hu : Prs au lu us w) (hg : Prs ag lg gs w) :
    Calls Try.prog 41 #[.agg #[.int .i64 u, .int .i64 g, .int .i64 o, .slice au lu cu, .slice ag lg cg, .bool r, .int .i64 m], .func (.func 42) #[] #[], .int .i64 id] w (Answers (dropUA u g o us gs r m id) w) := by
  have e1 := hu.1
  have e2 := hg.1
  have hc : Hid (∀ w', Below w.heap.size w w' → Calls Try.prog 43 #[.agg #[.int .i64 u, .int .i64 g, .int .i64 o, .slice au lu cu, .slice ag lg cg, .bool r, .int .i64 m]] w' fun e w'' => e = .returned (.bool (aclB u g o us gs r m)) ∧ Below w'.heap.size w' w'') := (fun w' hb => iAclRight_any u g o au lu cu ag lg cg r m us gs w' (hu.below hb) (hg.below hb))
  have hown : Hid (aclB u g o us gs r m = true → ∀ w', Below w.heap.size w w' → Calls Try.prog 45 #[.agg #[.int .i64 u, .int .i64 g, .int .i64 o, .slice au lu cu, .slice ag lg cg, .bool r, .int .i64 m]] w' fun e w'' => ∃ a1 c1 a2 c2, e = .returned (.agg #[.int .i64 u, .int .i64 g, .int .i64 o, .slice a1 lu c1, .slice a2 lg c2, .bool r, .int .i64 m]) ∧ New w' w'' a1 lu us a2 lg gs ∧ lu ≤ c1 ∧ lg ≤ c2) := (fun h w' hb => by
    obtain ⟨_, _, _, _, m1, m2⟩ := aclB_parts h
    have l1 := nm_len m1
    have l2 := nm_len m2
    exact ownAcl_cap u g o au lu cu ag lg cg r m us gs w' (hu.below hb) (hg.below hb) (by omega) (by omega))
  have hpl : Hid (aclB u g o us gs r m = true → ∀ a c w', Prs a lu us w' → Calls Try.prog 55 #[.slice a lu c, .int .i64 id, .func (.func 56) #[] #[]] w' fun e w'' => e = .returned (.tuple #[.int .i64 (plc us id), .bool (fnd us id)]) ∧ Below w'.heap.size w' w'') := (fun h a c w' hp => by
    obtain ⟨_, _, _, _, m1, m2⟩ := aclB_parts h
    have l1 := nm_len m1
    have l2 := nm_len m2
    exact placeOf_any a lu c us id (by omega) w' hp)
  have hsp : Hid (aclB u g o us gs r m = true → fnd us id = true → ∀ a c w', Prs a lu us w' → lu ≤ c → Calls Try.prog 57 #[.slice a lu c, .int .i64 (plc us id), .int .i64 1, .slice none 0 0] w' fun e w'' => ∃ a' c', e = .returned (.slice a' (lu - 1) c') ∧ Own a' (lu - 1) (cutL us (plc us id)) w'' ∧ (∀ Ad, a' = some Ad → w'.heap.size ≤ Ad.block ∧ Ad.block < w''.heap.size) ∧ Below w'.heap.size w' w'') := (fun h hf a c w' hp hcp => by
    obtain ⟨_, _, _, _, m1, m2⟩ := aclB_parts h
    have l1 := nm_len m1
    have l2 := nm_len m2
    have hlt := fnd_lt hf
    have := spliced_any (w0 := w') a lu c us hp (plc us id) 1 (by omega) hcp (by omega) (by omega) none 0 0 [] (by omega) (prs_nil w' 0)
    have eN : plc us id + 0 + (lu - (plc us id + 1)) = lu - 1 := by omega
    rw [eN] at this
    exact this)
  have hrm : Hid (aclB u g o us gs r m = true → fnd us id = true → ∀ a3 c3 a2 c2 w', Prs a3 (lu - 1) (cutL us (plc us id)) w' → Prs a2 lg gs w' → Calls Try.prog 52 #[.agg #[.int .i64 u, .int .i64 g, .int .i64 o, .slice a3 (lu - 1) c3, .slice a2 lg c2, .bool r, .int .i64 m]] w' fun e w'' => e = .returned (.agg #[.int .i64 u, .int .i64 g, .int .i64 o, .slice a3 (lu - 1) c3, .slice a2 lg c2, .bool (hnB (cutL us (plc us id)) gs), .int .i64 (mkB g (cutL us (plc us id)) gs)]) ∧ Below w'.heap.size w' w'') := (fun h hf a3 c3 a2 c2 w' h1 h2 => by
    obtain ⟨_, ⟨g0, g1⟩, _, _, m1, m2⟩ := aclB_parts h
    have l1 := nm_len m1
    have l2 := nm_len m2
    exact remasked_any u g o _ _ _ _ _ _ r m (cutL us (plc us id)) gs w' h1 h2 g0 g1 (bnd_cutDropUser (nm_bt m1) _) (nm_bt m2) (by omega))
  have hfl : Hid (fnd us id = true → plc us id < lu) := (fun h => by have := fnd_lt h; omega)
  have hcl0 : Hid (fnd us id = true → (cutL us (plc us id)).length = lu - 1) := (fun h => by rw [cutL_len (fnd_lt h)]; omega)
  have E1 : Hid (us.length = lu ∧ gs.length = lg) := ⟨e1, e2⟩
  have HU : Hid (Prs au lu us w ∧ Prs ag lg gs w) := ⟨hu, hg⟩
  clear hu hg e1 e2
  go_enter Try.func41, Try.ntmps41
  go_wp2_with fail
  refine (hc.out _ (bl2N _ _ _)).mono ?_
  rintro e w1 ⟨rfl, hb⟩
  have hW1 : Hid (Below w.heap.size w w1) := (bl2N _ _ _).trans (hb.mono (by simp; omega))
  have hX := ((box7_new w (.int .i64 u) (.int .i64 g) (.int .i64 o) (.slice au lu cu) (.slice ag lg cg) (.bool r) (.int .i64 m) 28).below (bel_alloc _ (.cells #[.int .i64 0, .int .i64 0, .int .i64 0, .slice none 0 0, .slice none 0 0, .bool false, .int .i64 0, .int .i64 0] 30))).below hb
  have hY := (box8_new (w.alloc (.cells #[.int .i64 u, .int .i64 g, .int .i64 o, .slice au lu cu, .slice ag lg cg, .bool r, .int .i64 m] 28)) (.int .i64 0) (.int .i64 0) (.int .i64 0) (.slice none 0 0) (.slice none 0 0) (.bool false) (.int .i64 0) (.int .i64 0) 30).below hb
  have eY : (w.alloc (.cells #[.int .i64 u, .int .i64 g, .int .i64 o, .slice au lu cu, .slice ag lg cg, .bool r, .int .i64 m] 28)).heap.size = w.heap.size + 1 := by simp
  have fr1 : ∀ o2, w1.frozen? ⟨w.heap.size + 1, o2, none⟩ = false := fun o2 => by
    have h1 := froz_new (w.alloc (.cells #[.int .i64 u, .int .i64 g, .int .i64 o, .slice au lu cu, .slice ag lg cg, .bool r, .int .i64 m] 28)) #[.int .i64 0, .int .i64 0, .int .i64 0, .slice none 0 0, .slice none 0 0, .bool false, .int .i64 0, .int .i64 0] 30 o2
    rw [eY] at h1
    rw [hb.frozen (p := ⟨w.heap.size + 1, o2, none⟩) (by simp)]
    exact h1
  rw [eY] at hY
  clear hb hc eY
  cases h : aclB u g o us gs r m
  · have hno : Hid (dropUA u g o us gs r m id = illA 1) := dropUA_no (by simp [h])
    obtain ⟨yl, y0, y1, y2, y3, y4, y5, y6, y7⟩ := hY
    clear h hown hpl hsp hrm hfl hcl0 hX HU
    go_wp2
    refine bodyPost_ret (v := .agg #[.int .i64 0, .int .i64 0, .int .i64 0, .slice none 0 0, .slice none 0 0, .bool false, .int .i64 0, .int .i64 1]) (by simp [results, Try.results41, go_sem, y0, y1, y2, y3, y4, y5, y6, y7]) rfl (answers_ill hno.out ?_)
    iterate 8 (refine bl_setN ?_ (by omega))
    exact hW1.out
  cases hn : inR 0 9999 id
  · have hno : Hid (dropUA u g o us gs r m id = illA 1) := dropUA_no (by simp [hn])
    obtain ⟨yl, y0, y1, y2, y3, y4, y5, y6, y7⟩ := hY
    clear h hown hpl hsp hrm hfl hcl0 hX HU
    go_wp2_with (go_at_call 50; refine (isId_any _ _).mono ?_; rintro e w' ⟨rfl, rfl⟩)
    refine bodyPost_ret (v := .agg #[.int .i64 0, .int .i64 0, .int .i64 0, .slice none 0 0, .slice none 0 0, .bool false, .int .i64 0, .int .i64 1]) (by simp [results, Try.results41, go_sem, y0, y1, y2, y3, y4, y5, y6, y7]) rfl (answers_ill hno.out ?_)
    iterate 8 (refine bl_setN ?_ (by omega))
    exact hW1.out
  have hown2 : Hid (∀ w', Below w.heap.size w w' → Calls Try.prog 45 #[.agg #[.int .i64 u, .int .i64 g, .int .i64 o, .slice au lu cu, .slice ag lg cg, .bool r, .int .i64 m]] w' fun e w'' => ∃ a1 c1 a2 c2, e = .returned (.agg #[.int .i64 u, .int .i64 g, .int .i64 o, .slice a1 lu c1, .slice a2 lg c2, .bool r, .int .i64 m]) ∧ New w' w'' a1 lu us a2 lg gs ∧ lu ≤ c1 ∧ lg ≤ c2) := hown.out h
  have hsp2 := hsp.out h
  have hrm2 := hrm.out h
  have hpl2 := hpl.out h
  have HSP : Hid (fnd us id = true → _) := hsp2
  have HRM : Hid (fnd us id = true → _) := hrm2
  have HPL : Hid _ := hpl2
  have HH : Hid (aclB u g o us gs r m = true ∧ inR 0 9999 id = true) := ⟨h, hn⟩
  obtain ⟨xl, x0, x1, x2, x3, x4, x5, x6⟩ := hX
  clear h hown hsp hrm hpl hsp2 hrm2 hpl2
  go_wp2_with (go_at_call 50; refine (isId_any _ _).mono ?_; rintro e w' ⟨rfl, rfl⟩)
  refine (hown2.out _ hW1.out).mono ?_
  rintro e w2 ⟨a1, c1, a2, c2, rfl, hN, hcp1, hcp2⟩
  have hbA := bel_alloc w2 (.cells #[.int .i64 u, .int .i64 g, .int .i64 o, .slice a1 lu c1, .slice a2 lg c2, .bool r, .int .i64 m] 28)
  have hO2 := box7_new w2 (.int .i64 u) (.int .i64 g) (.int .i64 o) (.slice a1 lu c1) (.slice a2 lg c2) (.bool r) (.int .i64 m) 28
  have hY2 := (hY.below hN.bel).below hbA
  have fr2 : ∀ o2, (w2.alloc (.cells #[.int .i64 u, .int .i64 g, .int .i64 o, .slice a1 lu c1, .slice a2 lg c2, .bool r, .int .i64 m] 28)).frozen? ⟨w.heap.size + 1, o2, none⟩ = false := fun o2 => ((hbA.frozen (p := (⟨w.heap.size + 1, o2, none⟩ : Addr)) (hY.below hN.bel).lt).trans (hN.bel.frozen (p := (⟨w.heap.size + 1, o2, none⟩ : Addr)) hY.lt)).trans (fr1 o2)
  have fo2 := fun o2 => froz_new w2 #[.int .i64 u, .int .i64 g, .int .i64 o, .slice a1 lu c1, .slice a2 lg c2, .bool r, .int .i64 m] 28 o2
  have hYl : w.heap.size + 1 < w2.heap.size := (hY.below hN.bel).lt
  have HN : Hid (New w (w2.alloc (.cells #[.int .i64 u, .int .i64 g, .int .i64 o, .slice a1 lu c1, .slice a2 lg c2, .bool r, .int .i64 m] 28)) a1 lu us a2 lg gs) := (hN.pre hW1.out).on hbA
  have HX1 : ∀ A, a2 = some A → w.heap.size + 1 < A.block := fun A e => by have := (hN.ig A e).1; have h2 := hY.lt; omega
  have HI : Hid ((∀ A, a1 = some A → A.block < w2.heap.size) ∧ (∀ A, a2 = some A → A.block < w2.heap.size)) := ⟨fun A e => (hN.iu A e).2, fun A e => (hN.ig A e).2⟩
  have HC : Hid (lu ≤ c1 ∧ lg ≤ c2) := ⟨hcp1, hcp2⟩
  clear hN hcp1 hcp2 hown2 x0 x1 x2 x3 x4 x5 x6 xl hY fr1
  have HF : Hid ((∀ o2, (w2.alloc (.cells #[.int .i64 u, .int .i64 g, .int .i64 o, .slice a1 lu c1, .slice a2 lg c2, .bool r, .int .i64 m] 28)).frozen? ⟨w.heap.size + 1, o2, none⟩ = false) ∧ (∀ o2, (w2.alloc (.cells #[.int .i64 u, .int .i64 g, .int .i64 o, .slice a1 lu c1, .slice a2 lg c2, .bool r, .int .i64 m] 28)).frozen? ⟨w2.heap.size, o2, none⟩ = false)) := ⟨fr2, fo2⟩
  clear fr2 fo2 hbA
  go_wp2_with (go_at_call 42; refine (usersIn_any _ _).mono ?_; rintro e w3 ⟨rfl, rfl⟩)
  refine (HPL.out a1 c1 _ HN.out.ou.prs).mono ?_
  rintro e w4 ⟨rfl, hb4⟩
  have hO4 := hO2.below hb4
  have hY4 := hY2.below hb4
  have hN4 : Hid (New w w4 a1 lu us a2 lg gs) := HN.out.on hb4
  have fr4 : ∀ o2, w4.frozen? ⟨w.heap.size + 1, o2, none⟩ = false := fun o2 => (hb4.frozen (p := (⟨w.heap.size + 1, o2, none⟩ : Addr)) hY2.lt).trans (HF.out.1 o2)
  have fo4 : ∀ o2, w4.frozen? ⟨w2.heap.size, o2, none⟩ = false := fun o2 => (hb4.frozen (p := (⟨w2.heap.size, o2, none⟩ : Addr)) hO2.lt).trans (HF.out.2 o2)
  clear hb4 HF HN hO2 hY2 HPL
  generalize w2.heap.size = O at hO4 fo4 HI hYl ⊢
  obtain ⟨pl, p0, p1, p2, p3, p4, p5, p6⟩ := hO4
  cases hf : fnd us id
  · have hno : Hid (dropUA u g o us gs r m id = illA 6) := dropUA_none HH.out hf
    obtain ⟨yl, y0, y1, y2, y3, y4, y5, y6, y7⟩ := hY4
    have hW4 : Hid (Below w.heap.size w w4) := hN4.out.bel
    clear hN4 HSP HRM hf HH HU hfl hcl0
    go_wp2
    refine bodyPost_ret (v := .agg #[.int .i64 0, .int .i64 0, .int .i64 0, .slice none 0 0, .slice none 0 0, .bool false, .int .i64 0, .int .i64 6]) (by simp [results, Try.results41, go_sem, y0, y1, y2, y3, y4, y5, y6, y7]) rfl (answers_ill hno.out ?_)
    iterate 8 (refine bl_setN ?_ (by omega))
    exact hW4.out
  have hyes : Hid (dropUA u g o us gs r m id = ⟨u, g, o, (cutL us (plc us id)), gs, hnB (cutL us (plc us id)) gs, mkB g (cutL us (plc us id)) gs, 0⟩) := dropUA_yes HH.out hf
  have hk := hfl.out hf
  have HCL : Hid ((cutL us (plc us id)).length = lu - 1) := hcl0.out hf
  have hsp3 := HSP.out hf
  have hrm3 := HRM.out hf
  have HSP3 : Hid _ := hsp3
  have HRM3 : Hid _ := hrm3
  clear HSP HRM hsp3 hrm3 HH HU hf hfl hcl0
  generalize plc us id = k at hyes hk HSP3 HRM3 HCL ⊢
  go_wp2_with fail
  refine (HSP3.out a1 c1 _ hN4.out.ou.prs HC.out.1).mono ?_
  rintro e w5 ⟨a3, c3, rfl, hJ, hin, hb5⟩
  have hO5 := (Box7.mk pl p0 p1 p2 p3 p4 p5 p6).below hb5
  have hY5 := hY4.below hb5
  have fr5 : ∀ o2, w5.frozen? ⟨w.heap.size + 1, o2, none⟩ = false := fun o2 => (hb5.frozen (p := (⟨w.heap.size + 1, o2, none⟩ : Addr)) hY4.lt).trans (fr4 o2)
  have fo5 : ∀ o2, w5.frozen? ⟨O, o2, none⟩ = false := fun o2 => (hb5.frozen (p := (⟨O, o2, none⟩ : Addr)) pl).trans (fo4 o2)
  have hN5 := hN4.out.on hb5
  have hoth : Own a2 lg gs w5 := hN5.og
  have hneO : ∀ A, a3 = some A → O < A.block := fun A e => by have := (hin A e).1; omega
  have hbW : Below w.heap.size w w5 := hN5.bel
  have hJ6 := hJ.set (b := O) (o := 3) (v := .slice a3 (lu - 1) c3) (fun B e => by have := hneO _ e; simp only at this; omega)
  have hoth6 := hoth.set (b := O) (o := 3) (v := .slice a3 (lu - 1) c3) (fun B e => by have := HI.out.2 _ e; simp only at this; omega)
  have hW6 : Hid (Below w.heap.size w (w5.setCell ⟨O, 3, none⟩ (.slice a3 (lu - 1) c3))) := bl_setN hbW (by omega)
  have hY6 := hY5.other (b := O) (o := 3) (v := .slice a3 (lu - 1) c3) (by omega)
  have HN6 : Hid (New w (w5.setCell ⟨O, 3, none⟩ (.slice a3 (lu - 1) c3)) a3 (lu - 1) (cutL us k) a2 lg gs) := ⟨hJ6, hoth6, fun A e => ⟨by have := hneO A e; omega, by simpa using (hin A e).2⟩, fun A e => ⟨(hN5.ig A e).1, by simpa using (hN5.ig A e).2⟩, fun A A2 e e2 => by have h1 := hneO A e; have h2 := HI.out.2 A2 e2; omega, hW6.out⟩
  have N1 : Hid (∀ A, a3 = some A → w.heap.size + 1 ≠ A.block) := (fun A e => by have := hneO A e; omega)
  have N2 : Hid (∀ A, a2 = some A → w.heap.size + 1 ≠ A.block) := (fun A e => by have := HX1 A e; omega)
  obtain ⟨p0', p0, p1, p2, p3, p4, p5, p6⟩ := hO5
  have HJ : Hid (Prs a3 (lu - 1) (cutL us k) (w5.setCell ⟨O, 3, none⟩ (.slice a3 (lu - 1) c3)) ∧ Prs a2 lg gs (w5.setCell ⟨O, 3, none⟩ (.slice a3 (lu - 1) c3))) := ⟨hJ6.prs, hoth6.prs⟩
  clear HX1 hJ hJ6 hoth hoth6 hin hb5 hN5 hneO hbW hN4 HSP3 HI HC
  go_wp2_with fail
  refine (HRM3.out a3 c3 a2 c2 _ HJ.out.1 HJ.out.2).mono ?_
  rintro e w6 ⟨rfl, hb6⟩
  obtain ⟨yl, y0, y1, y2, y3, y4, y5, y6, y7⟩ := hY6.below hb6
  have fr6 : ∀ o2, w6.frozen? ⟨w.heap.size + 1, o2, none⟩ = false := fun o2 => by
    rw [hb6.frozen (p := (⟨w.heap.size + 1, o2, none⟩ : Addr)) hY6.lt, World.frozen?_setCell]
    exact fr5 o2
  have HN7 : Hid (New w w6 a3 (lu - 1) (cutL us k) a2 lg gs) := HN6.out.on hb6
  clear hb6 hY6 hY5 fr5 fo5 HN6 HRM3 HJ p0' p0 p1 p2 p3 p4 p5 p6
  generalize hnB (cutL us k) gs = hh at hyes ⊢
  generalize mkB g (cutL us k) gs = mm at hyes ⊢
  go_wp2
  refine bodyPost_ret (v := .agg #[.int .i64 u, .int .i64 g, .int .i64 o, .slice a3 (lu - 1) c3, .slice a2 lg c2, .bool hh, .int .i64 mm, .int .i64 0]) (by simp [results, Try.results41, go_sem, y0, y1, y2, y3, y4, y5, y6, y7]) rfl (answers_of hyes.out HCL.out E1.out.2 ?_)
  iterate 8 (refine New.set ?_ (by omega) (fun A e => N1.out A e) (fun A e => N2.out A e))
  exact HN7.out
set_option maxHeartbeats 2000000 in
/-- impl.DropUser. -/
theorem iDropUser_any (u g o : Int) (au : Option Addr) (lu cu : Nat) (ag : Option Addr) (lg cg : Nat) (r : Bool) (m : Int) (us gs : List (Int × Int)) (id : Int) (w : World) (hu : Prs au lu us w) (hg : Prs ag lg gs w) :
    Calls Try.prog 18 #[.agg #[.int .i64 u, .int .i64 g, .int .i64 o, .slice au lu cu, .slice ag lg cg, .bool r, .int .i64 m], .int .i64 id] w (Answers (dropUA u g o us gs r m id) w) := by
  have hc : Hid (∀ w', Below w.heap.size w w' → Calls Try.prog 41 #[.agg #[.int .i64 u, .int .i64 g, .int .i64 o, .slice au lu cu, .slice ag lg cg, .bool r, .int .i64 m], .func (.func 42) #[] #[], .int .i64 id] w' (Answers (dropUA u g o us gs r m id) w')) := (fun w' hb => dropNamedDropUser_any u g o au lu cu ag lg cg r m us gs id w' (hu.below hb) (hg.below hb))
  clear hu hg
  generalize dropUA u g o us gs r m id = x at hc ⊢
  obtain ⟨xu, xg, xo, xus, xgs, xr, xm, xc⟩ := x
  go_enter Try.func18, Try.ntmps18
  go_wp2_with fail
  refine (hc.out _ (bl2N _ _ _)).mono ?_
  intro e w1 hA
  obtain ⟨a1, c1, a2, c2, rfl, hN⟩ := hA.out
  have hY := (box8_new (w.alloc (.cells #[.int .i64 u, .int .i64 g, .int .i64 o, .slice au lu cu, .slice ag lg cg, .bool r, .int .i64 m] 28)) (.int .i64 0) (.int .i64 0) (.int .i64 0) (.slice none 0 0) (.slice none 0 0) (.bool false) (.int .i64 0) (.int .i64 0) 30).below hN.bel
  have eY : (w.alloc (.cells #[.int .i64 u, .int .i64 g, .int .i64 o, .slice au lu cu, .slice ag lg cg, .bool r, .int .i64 m] 28)).heap.size = w.heap.size + 1 := by simp
  have fr1 : ∀ o2, w1.frozen? ⟨w.heap.size + 1, o2, none⟩ = false := fun o2 => by
    have h1 := froz_new (w.alloc (.cells #[.int .i64 u, .int .i64 g, .int .i64 o, .slice au lu cu, .slice ag lg cg, .bool r, .int .i64 m] 28)) #[.int .i64 0, .int .i64 0, .int .i64 0, .slice none 0 0, .slice none 0 0, .bool false, .int .i64 0, .int .i64 0] 30 o2
    rw [eY] at h1
    rw [hN.bel.frozen (p := ⟨w.heap.size + 1, o2, none⟩) (by simp)]
    exact h1
  rw [eY] at hY
  have N1 : Hid (∀ A, a1 = some A → w.heap.size + 1 < A.block) := (fun A e => by have := (hN.iu A e).1; simp at this; omega)
  have N2 : Hid (∀ A, a2 = some A → w.heap.size + 1 < A.block) := (fun A e => by have := (hN.ig A e).1; simp at this; omega)
  have HN : Hid (New w w1 a1 xus.length xus a2 xgs.length xgs) := hN.pre (bl2N _ _ _)
  obtain ⟨yl, y0, y1, y2, y3, y4, y5, y6, y7⟩ := hY
  clear hN hA hc eY
  go_wp2
  refine bodyPost_ret (v := .agg #[.int .i64 xu, .int .i64 xg, .int .i64 xo, .slice a1 xus.length c1, .slice a2 xgs.length c2, .bool xr, .int .i64 xm, .int .i64 xc]) (by simp [results, Try.results18, go_sem, y0, y1, y2, y3, y4, y5, y6, y7]) rfl (answers_of rfl rfl rfl ?_)
  iterate 8 (refine New.set ?_ (by omega) (fun A e => by have := N1.out A e; omega) (fun A e => by have := N2.out A e; omega))
  exact HN.out
set_option maxRecDepth 100000 in
set_option maxHeartbeats 8000000 in
/-- spec.DropUser. -/
theorem sDropUser_any (u g o : Int) (au : Option Addr) (lu cu : Nat) (ag : Option Addr) (lg cg : Nat) (r : Bool) (m : Int) (us gs : List (Int × Int)) (id : Int) (hlu : lu ≤ 1048576) (hlg : lg ≤ 1048576) (w : World) (hu : Prs au lu us w) (hg : Prs ag lg gs w) :
    Calls Try.prog 17 #[.agg #[.int .i64 u, .int .i64 g, .int .i64 o, .slice au lu cu, .slice ag lg cg, .bool r, .int .i64 m], .int .i64 id] w (Answers (dropUA u g o us gs r m id) w) := by
  have e1 := hu.1
  have e2 := hg.1
  have hc : Hid (∀ w', Below w.heap.size w w' → Calls Try.prog 26 #[.agg #[.int .i64 u, .int .i64 g, .int .i64 o, .slice au lu cu, .slice ag lg cg, .bool r, .int .i64 m]] w' fun e w'' => e = .returned (.bool (aclB u g o us gs r m)) ∧ Below w'.heap.size w' w'') := (fun w' hb => sAclRight_any u g o au lu cu ag lg cg r m us gs hlu hlg w' (hu.below hb) (hg.below hb))
  have hown : Hid (aclB u g o us gs r m = true → ∀ w', Below w.heap.size w w' → Calls Try.prog 30 #[.agg #[.int .i64 u, .int .i64 g, .int .i64 o, .slice au lu cu, .slice ag lg cg, .bool r, .int .i64 m]] w' fun e w'' => ∃ a1 c1 a2 c2, e = .returned (.agg #[.int .i64 u, .int .i64 g, .int .i64 o, .slice a1 lu c1, .slice a2 lg c2, .bool r, .int .i64 m]) ∧ New w' w'' a1 lu us a2 lg gs ∧ lu ≤ c1 ∧ lg ≤ c2) := (fun h w' hb => by
    obtain ⟨_, _, _, _, m1, m2⟩ := aclB_parts h
    have l1 := nm_len m1
    have l2 := nm_len m2
    exact sCopy_cap u g o au lu cu ag lg cg r m us gs w' (hu.below hb) (hg.below hb) (by omega) (by omega))
  have hpl : Hid (aclB u g o us gs r m = true → ∀ w', Below w.heap.size w w' → Calls Try.prog 39 #[.slice au lu cu, .int .i64 id] w' fun e w'' => e = .returned (.int .i64 (atI us id)) ∧ w'' = w') := (fun h w' hb => by
    obtain ⟨_, _, _, _, m1, m2⟩ := aclB_parts h
    exact sAt_any _ _ _ us id m1 w' (hu.below hb))
  have hsp : Hid (aclB u g o us gs r m = true → fnd us id = true → ∀ a c w', Prs a lu us w' → lu ≤ c → Calls Try.prog 40 #[.slice a lu c, .int .i64 (plc us id)] w' fun e w'' => ∃ a' c', e = .returned (.slice a' (lu - 1) c') ∧ Own a' (lu - 1) (cutL us (plc us id)) w'' ∧ (∀ Ad, a' = some Ad → w'.heap.size ≤ Ad.block ∧ Ad.block < w''.heap.size) ∧ Below w'.heap.size w' w'') := (fun h hf a c w' hp hcp => by
    obtain ⟨_, _, _, _, m1, m2⟩ := aclB_parts h
    have l1 := nm_len m1
    have l2 := nm_len m2
    have hlt := fnd_lt hf
    exact sDrop_any a lu c us (plc us id) (by omega) hcp (by omega) w' hp)
  have hrm : Hid (aclB u g o us gs r m = true → fnd us id = true → ∀ a3 c3 a2 c2 w', Prs a3 (lu - 1) (cutL us (plc us id)) w' → Prs a2 lg gs w' → Calls Try.prog 32 #[.agg #[.int .i64 u, .int .i64 g, .int .i64 o, .slice a3 (lu - 1) c3, .slice a2 lg c2, .bool r, .int .i64 m]] w' fun e w'' => e = .returned (.agg #[.int .i64 u, .int .i64 g, .int .i64 o, .slice a3 (lu - 1) c3, .slice a2 lg c2, .bool (hnB (cutL us (plc us id)) gs), .int .i64 (mkB g (cutL us (plc us id)) gs), .int .i64 0]) ∧ Below w'.heap.size w' w'') := (fun h hf a3 c3 a2 c2 w' h1 h2 => by
    obtain ⟨_, ⟨g0, g1⟩, _, _, m1, m2⟩ := aclB_parts h
    have l1 := nm_len m1
    have l2 := nm_len m2
    exact sNew_any u g o _ _ _ _ _ _ r m (cutL us (plc us id)) gs w' h1 h2 g0 g1 (bnd_cutDropUser (nm_bt m1) _) (nm_bt m2) (by omega))
  have hfl : Hid (fnd us id = true → plc us id < lu) := (fun h => by have := fnd_lt h; omega)
  have hcl0 : Hid (fnd us id = true → (cutL us (plc us id)).length = lu - 1) := (fun h => by rw [cutL_len (fnd_lt h)]; omega)
  have E1 : Hid (us.length = lu ∧ gs.length = lg) := ⟨e1, e2⟩
  have HU : Hid (Prs au lu us w ∧ Prs ag lg gs w) := ⟨hu, hg⟩
  clear hu hg e1 e2
  go_enter Try.func17, Try.ntmps17
  go_wp2_with fail
  refine (hc.out _ (bl2N _ _ _)).mono ?_
  rintro e w1 ⟨rfl, hb⟩
  have hW1 : Hid (Below w.heap.size w w1) := (bl2N _ _ _).trans (hb.mono (by simp; omega))
  have hX := ((box7_new w (.int .i64 u) (.int .i64 g) (.int .i64 o) (.slice au lu cu) (.slice ag lg cg) (.bool r) (.int .i64 m) 28).below (bel_alloc _ (.cells #[.int .i64 0, .int .i64 0, .int .i64 0, .slice none 0 0, .slice none 0 0, .bool false, .int .i64 0, .int .i64 0] 30))).below hb
  have hY := (box8_new (w.alloc (.cells #[.int .i64 u, .int .i64 g, .int .i64 o, .slice au lu cu, .slice ag lg cg, .bool r, .int .i64 m] 28)) (.int .i64 0) (.int .i64 0) (.int .i64 0) (.slice none 0 0) (.slice none 0 0) (.bool false) (.int .i64 0) (.int .i64 0) 30).below hb
  have eY : (w.alloc (.cells #[.int .i64 u, .int .i64 g, .int .i64 o, .slice au lu cu, .slice ag lg cg, .bool r, .int .i64 m] 28)).heap.size = w.heap.size + 1 := by simp
  have fr1 : ∀ o2, w1.frozen? ⟨w.heap.size + 1, o2, none⟩ = false := fun o2 => by
    have h1 := froz_new (w.alloc (.cells #[.int .i64 u, .int .i64 g, .int .i64 o, .slice au lu cu, .slice ag lg cg, .bool r, .int .i64 m] 28)) #[.int .i64 0, .int .i64 0, .int .i64 0, .slice none 0 0, .slice none 0 0, .bool false, .int .i64 0, .int .i64 0] 30 o2
    rw [eY] at h1
    rw [hb.frozen (p := ⟨w.heap.size + 1, o2, none⟩) (by simp)]
    exact h1
  rw [eY] at hY
  clear hb hc eY
  cases h : aclB u g o us gs r m
  · have hno : Hid (dropUA u g o us gs r m id = illA 1) := dropUA_no (by simp [h])
    clear h hown hpl hsp hrm hfl hcl0 hX HU
    go_wp2_with fail
    refine (sIll_any 1 _).mono ?_
    rintro e wz ⟨rfl, hbz⟩
    obtain ⟨yl, y0, y1, y2, y3, y4, y5, y6, y7⟩ := (hY).below hbz
    have frz : ∀ o2, wz.frozen? ⟨w.heap.size + 1, o2, none⟩ = false := fun o2 => (hbz.frozen (p := (⟨w.heap.size + 1, o2, none⟩ : Addr)) (hY).lt).trans (fr1 o2)
    have hWz : Hid (Below w.heap.size w wz) := Below.on hW1.out hbz
    clear hbz hY
    go_wp2
    refine bodyPost_ret (v := .agg #[.int .i64 0, .int .i64 0, .int .i64 0, .slice none 0 0, .slice none 0 0, .bool false, .int .i64 0, .int .i64 1]) (by simp [results, Try.results17, go_sem, y0, y1, y2, y3, y4, y5, y6, y7]) rfl (answers_ill hno.out ?_)
    iterate 8 (refine bl_setN ?_ (by omega))
    exact hWz.out
  cases hn : inR 0 9999 id
  · have hno : Hid (dropUA u g o us gs r m id = illA 1) := dropUA_no (by simp [hn])
    clear h hown hpl hsp hrm hfl hcl0 hX HU
    go_wp2_with (go_at_call 27; refine (sId_any _ _).mono ?_; rintro e w' ⟨rfl, rfl⟩)
    refine (sIll_any 1 _).mono ?_
    rintro e wz ⟨rfl, hbz⟩
    obtain ⟨yl, y0, y1, y2, y3, y4, y5, y6, y7⟩ := (hY).below hbz
    have frz : ∀ o2, wz.frozen? ⟨w.heap.size + 1, o2, none⟩ = false := fun o2 => (hbz.frozen (p := (⟨w.heap.size + 1, o2, none⟩ : Addr)) (hY).lt).trans (fr1 o2)
    have hWz : Hid (Below w.heap.size w wz) := Below.on hW1.out hbz
    clear hbz hY
    go_wp2
    refine bodyPost_ret (v := .agg #[.int .i64 0, .int .i64 0, .int .i64 0, .slice none 0 0, .slice none 0 0, .bool false, .int .i64 0, .int .i64 1]) (by simp [results, Try.results17, go_sem, y0, y1, y2, y3, y4, y5, y6, y7]) rfl (answers_ill hno.out ?_)
    iterate 8 (refine bl_setN ?_ (by omega))
    exact hWz.out
  have hown2 : Hid (∀ w', Below w.heap.size w w' → Calls Try.prog 30 #[.agg #[.int .i64 u, .int .i64 g, .int .i64 o, .slice au lu cu, .slice ag lg cg, .bool r, .int .i64 m]] w' fun e w'' => ∃ a1 c1 a2 c2, e = .returned (.agg #[.int .i64 u, .int .i64 g, .int .i64 o, .slice a1 lu c1, .slice a2 lg c2, .bool r, .int .i64 m]) ∧ New w' w'' a1 lu us a2 lg gs ∧ lu ≤ c1 ∧ lg ≤ c2) := hown.out h
  have hsp2 := hsp.out h
  have hrm2 := hrm.out h
  have hpl2 := hpl.out h
  have HSP : Hid (fnd us id = true → _) := hsp2
  have HRM : Hid (fnd us id = true → _) := hrm2
  have HPL : Hid _ := hpl2
  have HH : Hid (aclB u g o us gs r m = true ∧ inR 0 9999 id = true) := ⟨h, hn⟩
  obtain ⟨xl, x0, x1, x2, x3, x4, x5, x6⟩ := hX
  clear h hown hsp hrm hpl hsp2 hrm2 hpl2
  have hn2 := hn
  go_wp2_with (go_at_call 27; refine (sId_any _ _).mono ?_; rintro e w' ⟨rfl, rfl⟩)
  refine (HPL.out _ hW1.out).mono ?_
  rintro e wq ⟨rfl, rfl⟩
  cases hf : fnd us id
  · have hno : Hid (dropUA u g o us gs r m id = illA 6) := dropUA_none HH.out hf
    have ea : atI us id = -1 := by rw [atI, hf]; rfl
    rw [ea]
    clear HSP HRM hf HH HU hfl hcl0 hown2 HPL hn2 ea
    go_wp2_with fail
    refine (sIll_any 6 _).mono ?_
    rintro e wz ⟨rfl, hbz⟩
    obtain ⟨yl, y0, y1, y2, y3, y4, y5, y6, y7⟩ := hY.below hbz
    have frz : ∀ o2, wz.frozen? ⟨w.heap.size + 1, o2, none⟩ = false := fun o2 => (hbz.frozen (p := (⟨w.heap.size + 1, o2, none⟩ : Addr)) hY.lt).trans (fr1 o2)
    have hWz : Hid (Below w.heap.size w wz) := Below.on hW1.out hbz
    clear hbz hY
    go_wp2
    refine bodyPost_ret (v := .agg #[.int .i64 0, .int .i64 0, .int .i64 0, .slice none 0 0, .slice none 0 0, .bool false, .int .i64 0, .int .i64 6]) (by simp [results, Try.results17, go_sem, y0, y1, y2, y3, y4, y5, y6, y7]) rfl (answers_ill hno.out ?_)
    iterate 8 (refine bl_setN ?_ (by omega))
    exact hWz.out
  have hyes : Hid (dropUA u g o us gs r m id = ⟨u, g, o, (cutL us (plc us id)), gs, hnB (cutL us (plc us id)) gs, mkB g (cutL us (plc us id)) gs, 0⟩) := dropUA_yes HH.out hf
  have hk := hfl.out hf
  have HCL : Hid ((cutL us (plc us id)).length = lu - 1) := hcl0.out hf
  have ea : atI us id = (plc us id : Int) := by rw [atI, hf]; rfl
  rw [ea]
  have hsp3 := HSP.out hf
  have hrm3 := HRM.out hf
  have HSP3 : Hid _ := hsp3
  have HRM3 : Hid _ := hrm3
  clear HSP HRM hsp3 hrm3 HH HU hf hfl hcl0 ea HPL
  generalize plc us id = k at hyes hk HSP3 HRM3 HCL ⊢
  have dk : decide ((k : Int) < 0) = false := decide_eq_false (by omega)
  go_wp2_with fail
  refine (hown2.out _ hW1.out).mono ?_
  rintro e w2 ⟨a1, c1, a2, c2, rfl, hN, hcp1, hcp2⟩
  have hbA := bel_alloc w2 (.cells #[.int .i64 u, .int .i64 g, .int .i64 o, .slice a1 lu c1, .slice a2 lg c2, .bool r, .int .i64 m] 28)
  have hO2 := box7_new w2 (.int .i64 u) (.int .i64 g) (.int .i64 o) (.slice a1 lu c1) (.slice a2 lg c2) (.bool r) (.int .i64 m) 28
  have hY2 := (hY.below hN.bel).below hbA
  have fr2 : ∀ o2, (w2.alloc (.cells #[.int .i64 u, .int .i64 g, .int .i64 o, .slice a1 lu c1, .slice a2 lg c2, .bool r, .int .i64 m] 28)).frozen? ⟨w.heap.size + 1, o2, none⟩ = false := fun o2 => ((hbA.frozen (p := (⟨w.heap.size + 1, o2, none⟩ : Addr)) (hY.below hN.bel).lt).trans (hN.bel.frozen (p := (⟨w.heap.size + 1, o2, none⟩ : Addr)) hY.lt)).trans (fr1 o2)
  have fo2 := fun o2 => froz_new w2 #[.int .i64 u, .int .i64 g, .int .i64 o, .slice a1 lu c1, .slice a2 lg c2, .bool r, .int .i64 m] 28 o2
  have hYl : w.heap.size + 1 < w2.heap.size := (hY.below hN.bel).lt
  have hN4 : Hid (New w (w2.alloc (.cells #[.int .i64 u, .int .i64 g, .int .i64 o, .slice a1 lu c1, .slice a2 lg c2, .bool r, .int .i64 m] 28)) a1 lu us a2 lg gs) := (hN.pre hW1.out).on hbA
  have HX1 : ∀ A, a2 = some A → w.heap.size + 1 < A.block := fun A e => by have := (hN.ig A e).1; have h2 := hY.lt; omega
  have HI : Hid ((∀ A, a1 = some A → A.block < w2.heap.size) ∧ (∀ A, a2 = some A → A.block < w2.heap.size)) := ⟨fun A e => (hN.iu A e).2, fun A e => (hN.ig A e).2⟩
  have HC : Hid (lu ≤ c1 ∧ lg ≤ c2) := ⟨hcp1, hcp2⟩
  clear hN hcp1 hcp2 hown2 x0 x1 x2 x3 x4 x5 x6 xl hY fr1 hbA
  have HF : Hid ((∀ o2, (w2.alloc (.cells #[.int .i64 u, .int .i64 g, .int .i64 o, .slice a1 lu c1, .slice a2 lg c2, .bool r, .int .i64 m] 28)).frozen? ⟨w.heap.size + 1, o2, none⟩ = false) ∧ (∀ o2, (w2.alloc (.cells #[.int .i64 u, .int .i64 g, .int .i64 o, .slice a1 lu c1, .slice a2 lg c2, .bool r, .int .i64 m] 28)).frozen? ⟨w2.heap.size, o2, none⟩ = false)) := ⟨fr2, fo2⟩
  clear fr2 fo2
  go_wp2_with fail
  refine (HSP3.out a1 c1 _ hN4.out.ou.prs HC.out.1).mono ?_
  rintro e w5 ⟨a3, c3, rfl, hJ, hin, hb5⟩
  have hO5 := hO2.below hb5
  have hY5 := hY2.below hb5
  have pl := hO2.lt
  have fr5 : ∀ o2, w5.frozen? ⟨w.heap.size + 1, o2, none⟩ = false := fun o2 => (hb5.frozen (p := (⟨w.heap.size + 1, o2, none⟩ : Addr)) hY2.lt).trans (HF.out.1 o2)
  have fo5 : ∀ o2, w5.frozen? ⟨w2.heap.size, o2, none⟩ = false := fun o2 => (hb5.frozen (p := (⟨w2.heap.size, o2, none⟩ : Addr)) hO2.lt).trans (HF.out.2 o2)
  have hN5 := hN4.out.on hb5
  have hoth : Own a2 lg gs w5 := hN5.og
  have hneO : ∀ A, a3 = some A → w2.heap.size < A.block := fun A e => by have := (hin A e).1; omega
  have hbW : Below w.heap.size w w5 := hN5.bel
  have hJ6 := hJ.set (b := w2.heap.size) (o := 3) (v := .slice a3 (lu - 1) c3) (fun B e => by have := hneO _ e; simp only at this; omega)
  have hoth6 := hoth.set (b := w2.heap.size) (o := 3) (v := .slice a3 (lu - 1) c3) (fun B e => by have := HI.out.2 _ e; simp only at this; omega)
  have hW6 : Hid (Below w.heap.size w (w5.setCell ⟨w2.heap.size, 3, none⟩ (.slice a3 (lu - 1) c3))) := bl_setN hbW (by omega)
  have hY6 := hY5.other (b := w2.heap.size) (o := 3) (v := .slice a3 (lu - 1) c3) (by omega)
  have HN6 : Hid (New w (w5.setCell ⟨w2.heap.size, 3, none⟩ (.slice a3 (lu - 1) c3)) a3 (lu - 1) (cutL us k) a2 lg gs) := ⟨hJ6, hoth6, fun A e => ⟨by have := hneO A e; omega, by simpa using (hin A e).2⟩, fun A e => ⟨(hN5.ig A e).1, by simpa using (hN5.ig A e).2⟩, fun A A2 e e2 => by have h1 := hneO A e; have h2 := HI.out.2 A2 e2; omega, hW6.out⟩
  have N1 : Hid (∀ A, a3 = some A → w.heap.size + 1 ≠ A.block) := (fun A e => by have := hneO A e; omega)
  have N2 : Hid (∀ A, a2 = some A → w.heap.size + 1 ≠ A.block) := (fun A e => by have := HX1 A e; omega)
  obtain ⟨p0', p0, p1, p2, p3, p4, p5, p6⟩ := hO5
  have HJ : Hid (Prs a3 (lu - 1) (cutL us k) (w5.setCell ⟨w2.heap.size, 3, none⟩ (.slice a3 (lu - 1) c3)) ∧ Prs a2 lg gs (w5.setCell ⟨w2.heap.size, 3, none⟩ (.slice a3 (lu - 1) c3))) := ⟨hJ6.prs, hoth6.prs⟩
  clear HX1 hJ hJ6 hoth hoth6 hin hb5 hN5 hneO hbW hN4 HSP3 HI HC
  go_wp2_with fail
  refine (HRM3.out a3 c3 a2 c2 _ HJ.out.1 HJ.out.2).mono ?_
  rintro e w6 ⟨rfl, hb6⟩
  obtain ⟨yl, y0, y1, y2, y3, y4, y5, y6, y7⟩ := hY6.below hb6
  have fr6 : ∀ o2, w6.frozen? ⟨w.heap.size + 1, o2, none⟩ = false := fun o2 => by
    rw [hb6.frozen (p := (⟨w.heap.size + 1, o2, none⟩ : Addr)) hY6.lt, World.frozen?_setCell]
    exact fr5 o2
  have HN7 : Hid (New w w6 a3 (lu - 1) (cutL us k) a2 lg gs) := HN6.out.on hb6
  clear hb6 hY6 hY5 fr5 fo5 HN6 HRM3 HJ p0' p0 p1 p2 p3 p4 p5 p6
  generalize hnB (cutL us k) gs = hh at hyes ⊢
  generalize mkB g (cutL us k) gs = mm at hyes ⊢
  go_wp2
  refine bodyPost_ret (v := .agg #[.int .i64 u, .int .i64 g, .int .i64 o, .slice a3 (lu - 1) c3, .slice a2 lg c2, .bool hh, .int .i64 mm, .int .i64 0]) (by simp [results, Try.results17, go_sem, y0, y1, y2, y3, y4, y5, y6, y7]) rfl (answers_of hyes.out HCL.out E1.out.2 ?_)
  iterate 8 (refine New.set ?_ (by omega) (fun A e => N1.out A e) (fun A e => N2.out A e))
  exact HN7.out
end Go.Proofs.Yteholdjhkdapcaj
