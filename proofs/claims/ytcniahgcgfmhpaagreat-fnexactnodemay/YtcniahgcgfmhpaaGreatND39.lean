/- Laid together: May, LetM. -/
import Derived.Test.YtcniahgcgfmhpaaGreatND38
import Derived.Deep.RegionHeld3
import Derived.Test.YtcniahgcgfmhpaaGreatND23
/- AclMay, the program's and the specification's. -/
namespace Go.Proofs.YtcniahgcgfmhpaaGreat
open Go.RowKit Go.PlainAid Go.Deep
set_option linter.unusedVariables false
theorem hasB_both : ∀ b, b < 8 → ∀ m, m < 8 → ∀ v, v < 8 → hasB (b &&& m) v = (hasB b v && hasB m v) := by decide +kernel
theorem hasZ_both (b m v : Int) (b0 : 0 ≤ b) (b1 : b ≤ 7) (m0 : 0 ≤ m) (m1 : m ≤ 7) (v0 : 0 ≤ v) (v1 : v ≤ 7) : hasZ (bits .and .i64 b m) v = (hasZ b v && hasZ m v) := by
  obtain ⟨a, rfl⟩ := Int.eq_ofNat_of_zero_le b0
  obtain ⟨c, rfl⟩ := Int.eq_ofNat_of_zero_le m0
  obtain ⟨d, rfl⟩ := Int.eq_ofNat_of_zero_le v0
  have hx : a &&& c ≤ a := Nat.and_le_left
  rw [i64_and_nat a c (by omega) (by omega), hasZ_in (by omega) (by omega), hasZ_in (by omega) (by omega), hasZ_in (by omega) (by omega)]
  exact hasB_both a (by omega) c (by omega) d (by omega)
/-- AclMay, of a class. -/
def mayK (c u g o : Int) (us : List (Int × Int)) (r : Bool) (m cu' want : Int) : Bool :=
  if c = 1 then hasZ u want else if c = 2 then (hasZ (btAt us (plc us cu')) want && hasZ m want) else if c = 3 then hasZ (clsOf g r m) want else if c = 5 then hasZ o want else false
def mayB (u g o : Int) (us gs : List (Int × Int)) (r : Bool) (m owner group cu' cg' : Int) (cl : Nat) (cf : Nat → Int) (want : Int) : Bool :=
  mayK (classB u g o us gs r m owner group cu' cg' cl cf want) u g o us r m cu' want
theorem which_cases (g : Int) (us gs : List (Int × Int)) (owner group cu' : Int) (P : Int → Bool) (want : Int) : whichB g us gs owner group cu' P want = 1 ∨ (whichB g us gs owner group cu' P want = 2 ∧ fnd us cu' = true) ∨ whichB g us gs owner group cu' P want = 3 ∨ whichB g us gs owner group cu' P want = 4 ∨ whichB g us gs owner group cu' P want = 5 := by
  unfold whichB goC
  cases (cu' == owner)
  · cases fnd us cu'
    · cases allTo (P group && hasZ g want) P gs want gs.length <;> cases inTo (P group) P gs gs.length <;> simp
    · simp
  · simp
/-- What a class says of the numbers. -/
structure Sound (u g o : Int) (us : List (Int × Int)) (r : Bool) (m want : Int) : Prop where
  u0 : 0 ≤ u
  u1 : u ≤ 7
  o0 : 0 ≤ o
  o1 : o ≤ 7
  m0 : 0 ≤ m
  m1 : m ≤ 7
  k0 : 0 ≤ clsOf g r m
  k1 : clsOf g r m ≤ 7
  v0 : 0 ≤ want
  v1 : want ≤ 7
  nm : nmB us = true
theorem fine_sound {u g o : Int} {us gs : List (Int × Int)} {r : Bool} {m owner group cu' cg' : Int} {cl : Nat} {cf : Nat → Int} {want : Int} (h : fineB u g o us gs r m owner group cu' cg' cl cf want = true) : Sound u g o us r m want := by
  unfold fineB at h
  simp only [Bool.and_eq_true] at h
  obtain ⟨ha, _, _, _, hw⟩ := h
  obtain ⟨⟨u0, u1⟩, _, ⟨o0, o1⟩, ⟨m0, m1⟩, n1, _⟩ := aclB_parts ha
  obtain ⟨k0, k1⟩ := clsOf_in ha
  obtain ⟨v0, v1⟩ := inR_iff.1 hw
  exact ⟨u0, u1, o0, o1, m0, m1, k0, k1, v0, v1, n1⟩
theorem below_drewQ {B : Nat} {w w' : World} (h : Below B w w') : Below B w w'.drew := h.trans ⟨rfl, rfl, rfl, Nat.le_refl _, fun _ _ => rfl⟩
set_option maxRecDepth 100000 in
set_option maxHeartbeats 8000000 in
/-- impl.AclMay. -/
theorem iAclMay_any (u g o : Int) (au : Option Addr) (lu cu : Nat) (ag : Option Addr) (lg cg : Nat) (r : Bool) (m : Int) (us gs : List (Int × Int)) (owner group : Int) (cu' cg' : Int) (ca : Option Addr) (cl cc : Nat) (cr : Bool) (cf : Nat → Int) (want : Int) (w : World) (hu : Prs au lu us w) (hg : Prs ag lg gs w) (hci : Ints ca cl cf w) :
    Calls Tryz.prog 61 #[.agg #[.int .i64 u, .int .i64 g, .int .i64 o, .slice au lu cu, .slice ag lg cg, .bool r, .int .i64 m], .int .i64 owner, .int .i64 group, .agg #[.int .i64 cu', .int .i64 cg', .slice ca cl cc, .bool cr], .int .i64 want] w fun e w' => e = .returned (.bool (mayB u g o us gs r m owner group cu' cg' cl cf want)) ∧ Below w.heap.size w w' := by
  have hcl : Hid (∀ w', Below w.heap.size w w' → Calls Tryz.prog 92 #[.agg #[.int .i64 u, .int .i64 g, .int .i64 o, .slice au lu cu, .slice ag lg cg, .bool r, .int .i64 m], .int .i64 owner, .int .i64 group, .agg #[.int .i64 cu', .int .i64 cg', .slice ca cl cc, .bool cr], .int .i64 want] w' fun e w'' => e = .returned (.int .i64 (classB u g o us gs r m owner group cu' cg' cl cf want)) ∧ Below w'.heap.size w' w'') := (fun w' hb => iAclClass_any u g o au lu cu ag lg cg r m us gs owner group cu' cg' ca cl cc cr cf want w' (hu.below hb) (hg.below hb) (hci.below hb))
  have HM : Hid (mayB u g o us gs r m owner group cu' cg' cl cf want = mayK (classB u g o us gs r m owner group cu' cg' cl cf want) u g o us r m cu' want) := rfl
  have hK : (classB u g o us gs r m owner group cu' cg' cl cf want) = 0 ∨ (fineB u g o us gs r m owner group cu' cg' cl cf want = true ∧ (classB u g o us gs r m owner group cu' cg' cl cf want = 1 ∨ (classB u g o us gs r m owner group cu' cg' cl cf want = 2 ∧ fnd us cu' = true) ∨ classB u g o us gs r m owner group cu' cg' cl cf want = 3 ∨ classB u g o us gs r m owner group cu' cg' cl cf want = 4 ∨ classB u g o us gs r m owner group cu' cg' cl cf want = 5)) := by
    unfold classB
    cases fineB u g o us gs r m owner group cu' cg' cl cf want
    · exact .inl rfl
    · exact .inr ⟨rfl, which_cases g us gs owner group cu' (inGB cu' cg' cl cf) want⟩
  have hpl : Hid (nmB us = true → ∀ w', Below w.heap.size w w' → Calls Tryz.prog 93 #[.slice au lu cu, .int .i64 cu', .func (.func 94) #[] #[]] w' fun e w'' => e = .returned (.tuple #[.int .i64 (plc us cu'), .bool (fnd us cu')]) ∧ Below w'.heap.size w' w'') := (fun h w' hb => by
    have l1 := nm_len h
    have := hu.1
    exact placeOf_any au lu cu us cu' (by omega) w' (hu.below hb))
  have HU : Hid (Prs au lu us w) := hu
  clear hu hg hci
  generalize hmb : mayB u g o us gs r m owner group cu' cg' cl cf want = mb at HM ⊢
  have hfs : Hid (fineB u g o us gs r m owner group cu' cg' cl cf want = true → Sound u g o us r m want) := (fun h => fine_sound h)
  generalize fineB u g o us gs r m owner group cu' cg' cl cf want = fb at hK hfs
  generalize classB u g o us gs r m owner group cu' cg' cl cf want = cb at hcl HM hK
  clear hmb
  have hX := (box7_new w (.int .i64 u) (.int .i64 g) (.int .i64 o) (.slice au lu cu) (.slice ag lg cg) (.bool r) (.int .i64 m) 42).below (bel_alloc _ (.cells #[.int .i64 cu', .int .i64 cg', .slice ca cl cc, .bool cr] 35))
  have eA : (w.alloc (.cells #[.int .i64 u, .int .i64 g, .int .i64 o, .slice au lu cu, .slice ag lg cg, .bool r, .int .i64 m] 42)).heap.size = w.heap.size + 1 := by simp
  have hY := box4_new (w.alloc (.cells #[.int .i64 u, .int .i64 g, .int .i64 o, .slice au lu cu, .slice ag lg cg, .bool r, .int .i64 m] 42)) (.int .i64 cu') (.int .i64 cg') (.slice ca cl cc) (.bool cr) 35
  rw [eA] at hY
  clear eA
  rcases hK with rfl | ⟨hf, hK⟩
  · have hz : Hid (mb = false) := (by show _ = _; rw [HM.out]; rfl)
    clear HM hX hY hpl
    go_enter Tryz.func61, Tryz.ntmps61
    go_wp2_with fail
    refine (hcl.out _ (bl2N _ _ _)).mono ?_
    rintro e w1 ⟨rfl, hb⟩
    have hW1 : Hid (Below w.heap.size w w1) := (bl2N _ _ _).trans (hb.mono (by simp; omega))
    clear hb hcl
    go_wp2
    go_ret
    exact ⟨ret_boolW hz.out.symm, hW1.out⟩
  have HS : Hid (Sound u g o us r m want) := hfs.out hf
  clear hf hfs
  go_enter Tryz.func61, Tryz.ntmps61
  go_wp2_with fail
  refine (hcl.out _ (bl2N _ _ _)).mono ?_
  rintro e w1 ⟨rfl, hb⟩
  have hW1 : Hid (Below w.heap.size w w1) := (bl2N _ _ _).trans (hb.mono (by simp; omega))
  have HX1 : Hid (Box7 w1 w.heap.size (.int .i64 u) (.int .i64 g) (.int .i64 o) (.slice au lu cu) (.slice ag lg cg) (.bool r) (.int .i64 m)) := hX.below hb
  have HY1 : Hid (Box4 w1 (w.heap.size + 1) (.int .i64 cu') (.int .i64 cg') (.slice ca cl cc) (.bool cr)) := hY.below hb
  clear hb hX hY hcl
  rcases hK with rfl | ⟨rfl, hfn⟩ | rfl | rfl | rfl
  · have hz : Hid (mb = hasZ u want) := (by show _ = _; rw [HM.out]; rfl)
    obtain ⟨xl, x0, x1, x2, x3, x4, x5, x6⟩ := HX1.out
    clear HM hpl
    go_wp2_with (go_at_call 91; refine (iHas_any _ _ _).mono ?_; rintro e w2 ⟨rfl, rfl⟩)
    go_ret
    exact ⟨ret_boolW hz.out.symm, hW1.out⟩
  · have hz : Hid (mb = (hasZ (btAt us (plc us cu')) want && hasZ m want)) := (by show _ = _; rw [HM.out]; rfl)
    have hlt := fnd_lt hfn
    have e1 := HU.out.1
    rw [e1] at hlt
    have hpl2 := hpl.out HS.out.nm
    have HPL : Hid _ := hpl2
    have HB2 : Hid (0 ≤ btAt us (plc us cu') ∧ btAt us (plc us cu') ≤ 7) := nm_bt HS.out.nm _ (by omega)
    obtain ⟨b, off, rfl, hbl, hc⟩ := HU.out.2 (by omega)
    have HC1 : Hid (w.cell? ⟨b, off + plc us cu' * 2 + 1, none⟩ = some (.int .i64 (btAt us (plc us cu')))) := (hc _ hlt).2
    have HBL : Hid (b < w.heap.size) := hbl
    obtain ⟨xl, x0, x1, x2, x3, x4, x5, x6⟩ := HX1.out
    obtain ⟨yl, y0, y1, y2, y3⟩ := HY1.out
    clear HM hpl hpl2 hc hbl hfn e1
    generalize plc us cu' = pp at HPL HB2 HC1 hlt hz
    generalize fnd us cu' = ff at HPL
    have hlt' : (pp : Int) < (lu : Int) := by omega
    go_wp2_with fail
    refine (HPL.out _ hW1.out).mono ?_
    rintro e w2 ⟨rfl, hb⟩
    have hW2 : Hid (Below w.heap.size w w2) := Below.on hW1.out hb
    have c1 : w2.cell? ⟨b, off + pp * 2 + 1, none⟩ = some (.int .i64 (btAt us pp)) := (hW2.out.cell (p := ⟨b, off + pp * 2 + 1, none⟩) HBL.out).trans HC1.out
    clear x0 x1 x2 x3 x4 x5 x6 xl y0 y1 y2 y3 yl
    obtain ⟨xl, x0, x1, x2, x3, x4, x5, x6⟩ := HX1.out.below hb
    clear hb HPL
    have hpp : (0 : Int) ≤ (pp : Int) := by omega
    go_wp2_with fail
    go_region_held3 (fun w' => w'.cell? ⟨w.heap.size, 3, none⟩ = some (.slice (some ⟨b, off, none⟩) lu cu) ∧ w'.cell? ⟨w.heap.size, 6, none⟩ = some (.int .i64 m) ∧ w'.cell? ⟨b, off + pp * 2 + 1, none⟩ = some (.int .i64 (btAt us pp))) (go_keep)
      (first | (go_at_call 91; refine (iHas_any _ _ _).mono ?_; rintro e w3 ⟨rfl, hw3⟩; subst hw3))
    go_wp2
    go_ret
    exact ⟨ret_boolW (by rw [hz.out]; exact hasZ_both _ _ _ HB2.out.1 HB2.out.2 HS.out.m0 HS.out.m1 HS.out.v0 HS.out.v1), below_drewQ hW2.out⟩
  · have hz : Hid (mb = hasZ (clsOf g r m) want) := (by show _ = _; rw [HM.out]; rfl)
    obtain ⟨xl, x0, x1, x2, x3, x4, x5, x6⟩ := HX1.out
    clear HM hpl
    go_wp2_with fail
    refine (groupClass_any u g o au lu cu ag lg cg r m _).mono ?_
    rintro e w2 ⟨rfl, hb⟩
    have hW2 : Hid (Below w.heap.size w w2) := Below.on hW1.out hb
    clear hb x0 x1 x2 x3 x4 x5 x6 xl
    go_wp2_with (go_at_call 91; refine (iHas_any _ _ _).mono ?_; rintro e w2 ⟨rfl, rfl⟩)
    go_ret
    exact ⟨ret_boolW hz.out.symm, hW2.out⟩
  · have hz : Hid (mb = false) := (by show _ = _; rw [HM.out]; rfl)
    clear HM hpl
    go_wp2
    go_ret
    exact ⟨ret_boolW hz.out.symm, hW1.out⟩
  · have hz : Hid (mb = hasZ o want) := (by show _ = _; rw [HM.out]; rfl)
    obtain ⟨xl, x0, x1, x2, x3, x4, x5, x6⟩ := HX1.out
    clear HM hpl
    go_wp2_with (go_at_call 91; refine (iHas_any _ _ _).mono ?_; rintro e w2 ⟨rfl, rfl⟩)
    go_ret
    exact ⟨ret_boolW hz.out.symm, hW1.out⟩
set_option maxRecDepth 100000 in
set_option maxHeartbeats 8000000 in
/-- spec.l03May of what is right. -/
theorem sMay_any (u g o : Int) (au : Option Addr) (lu cu : Nat) (ag : Option Addr) (lg cg : Nat) (r : Bool) (m : Int) (us gs : List (Int × Int)) (owner group : Int) (cu' cg' : Int) (ca : Option Addr) (cl cc : Nat) (cr : Bool) (cf : Nat → Int) (want : Int) (hf : fineB u g o us gs r m owner group cu' cg' cl cf want = true) (w : World) (hu : Prs au lu us w) (hg : Prs ag lg gs w) (hci : Ints ca cl cf w) :
    Calls Tryz.prog 52 #[.agg #[.int .i64 u, .int .i64 g, .int .i64 o, .slice au lu cu, .slice ag lg cg, .bool r, .int .i64 m], .int .i64 owner, .int .i64 group, .agg #[.int .i64 cu', .int .i64 cg', .slice ca cl cc, .bool cr], .int .i64 want] w fun e w' => e = .returned (.bool (mayB u g o us gs r m owner group cu' cg' cl cf want)) ∧ Below w.heap.size w w' := by
  have hcb : classB u g o us gs r m owner group cu' cg' cl cf want = whichB g us gs owner group cu' (inGB cu' cg' cl cf) want := by rw [classB, hf]; rfl
  have hcl : Hid (∀ w', Below w.heap.size w w' → Calls Tryz.prog 78 #[.agg #[.int .i64 u, .int .i64 g, .int .i64 o, .slice au lu cu, .slice ag lg cg, .bool r, .int .i64 m], .int .i64 owner, .int .i64 group, .agg #[.int .i64 cu', .int .i64 cg', .slice ca cl cc, .bool cr], .int .i64 want] w' fun e w'' => e = .returned (.int .i64 (classB u g o us gs r m owner group cu' cg' cl cf want)) ∧ Below w'.heap.size w' w'') := (fun w' hb => by rw [hcb]; exact sWhich_any u g o au lu cu ag lg cg r m us gs owner group cu' cg' ca cl cc cr cf want hf w' (hu.below hb) (hg.below hb) (hci.below hb))
  have HM : Hid (mayB u g o us gs r m owner group cu' cg' cl cf want = mayK (classB u g o us gs r m owner group cu' cg' cl cf want) u g o us r m cu' want) := rfl
  have hK := which_cases g us gs owner group cu' (inGB cu' cg' cl cf) want
  rw [← hcb] at hK
  have HS : Hid (Sound u g o us r m want) := fine_sound hf
  have hat : Hid (∀ w', Below w.heap.size w w' → Calls Tryz.prog 80 #[.slice au lu cu, .int .i64 cu'] w' fun e w'' => e = .returned (.int .i64 (atI us cu')) ∧ w'' = w') := (fun w' hb => sAt_any au lu cu us cu' HS.out.nm w' (hu.below hb))
  have HU : Hid (Prs au lu us w) := hu
  clear hu hg hci hf hcb
  generalize hmb : mayB u g o us gs r m owner group cu' cg' cl cf want = mb at HM ⊢
  generalize classB u g o us gs r m owner group cu' cg' cl cf want = cb at hcl HM hK
  clear hmb
  have hX := (box7_new w (.int .i64 u) (.int .i64 g) (.int .i64 o) (.slice au lu cu) (.slice ag lg cg) (.bool r) (.int .i64 m) 42).below (bel_alloc _ (.cells #[.int .i64 cu', .int .i64 cg', .slice ca cl cc, .bool cr] 35))
  have eA : (w.alloc (.cells #[.int .i64 u, .int .i64 g, .int .i64 o, .slice au lu cu, .slice ag lg cg, .bool r, .int .i64 m] 42)).heap.size = w.heap.size + 1 := by simp
  have hY := box4_new (w.alloc (.cells #[.int .i64 u, .int .i64 g, .int .i64 o, .slice au lu cu, .slice ag lg cg, .bool r, .int .i64 m] 42)) (.int .i64 cu') (.int .i64 cg') (.slice ca cl cc) (.bool cr) 35
  rw [eA] at hY
  clear eA
  go_enter Tryz.func52, Tryz.ntmps52
  go_wp2_with fail
  refine (hcl.out _ (bl2N _ _ _)).mono ?_
  rintro e w1 ⟨rfl, hb⟩
  have hW1 : Hid (Below w.heap.size w w1) := (bl2N _ _ _).trans (hb.mono (by simp; omega))
  have HX1 : Hid (Box7 w1 w.heap.size (.int .i64 u) (.int .i64 g) (.int .i64 o) (.slice au lu cu) (.slice ag lg cg) (.bool r) (.int .i64 m)) := hX.below hb
  have HY1 : Hid (Box4 w1 (w.heap.size + 1) (.int .i64 cu') (.int .i64 cg') (.slice ca cl cc) (.bool cr)) := hY.below hb
  clear hb hX hY hcl
  rcases hK with rfl | ⟨rfl, hfn⟩ | rfl | rfl | rfl
  · have hz : Hid (mb = hasZ u want) := (by show _ = _; rw [HM.out]; rfl)
    obtain ⟨xl, x0, x1, x2, x3, x4, x5, x6⟩ := HX1.out
    clear HM hat
    go_wp2_with (go_at_call 79; refine (sl02Has_int _ _ HS.out.u0 HS.out.u1 HS.out.v0 HS.out.v1 _).mono ?_; rintro e w2 ⟨rfl, rfl⟩)
    go_ret
    exact ⟨ret_boolW hz.out.symm, hW1.out⟩
  · have hz : Hid (mb = (hasZ (btAt us (plc us cu')) want && hasZ m want)) := (by show _ = _; rw [HM.out]; rfl)
    have hlt := fnd_lt hfn
    have e1 := HU.out.1
    rw [e1] at hlt
    have HAT : Hid (atI us cu' = (plc us cu' : Int)) := (by show _ = _; rw [atI, hfn]; rfl)
    have HB2 : Hid (0 ≤ btAt us (plc us cu') ∧ btAt us (plc us cu') ≤ 7) := nm_bt HS.out.nm _ (by omega)
    obtain ⟨b, off, rfl, hbl, hc⟩ := HU.out.2 (by omega)
    have c1 : w1.cell? ⟨b, off + plc us cu' * 2 + 1, none⟩ = some (.int .i64 (btAt us (plc us cu'))) := (hW1.out.cell (p := ⟨b, off + plc us cu' * 2 + 1, none⟩) hbl).trans (hc _ hlt).2
    obtain ⟨xl, x0, x1, x2, x3, x4, x5, x6⟩ := HX1.out
    obtain ⟨yl, y0, y1, y2, y3⟩ := HY1.out
    rw [HAT.out] at hat
    clear HM hc hbl hfn e1 HAT
    generalize plc us cu' = pp at hat HB2 c1 hlt hz
    have hlt' : (pp : Int) < (lu : Int) := by omega
    have hpp : (0 : Int) ≤ (pp : Int) := by omega
    obtain ⟨t0, t1⟩ := HB2.out
    generalize btAt us pp = bt at c1 hz t0 t1
    have cH : Hid (∀ h w, (h = bt ∨ h = m) → Calls Tryz.prog 79 #[.int .i64 h, .int .i64 want] w fun e w' => e = .returned (.bool (hasZ h want)) ∧ w' = w) := (fun h w hh => by
      rcases hh with rfl | rfl
      · exact sl02Has_int _ _ t0 t1 HS.out.v0 HS.out.v1 w
      · exact sl02Has_int _ _ HS.out.m0 HS.out.m1 HS.out.v0 HS.out.v1 w)
    cases hH : hasZ bt want
    · have HH : Hid (hasZ bt want = false) := hH
      have z3 : ∀ d os, (Go.Sort.grow (redrawn w1 d) os).cell? ⟨w.heap.size, 3, none⟩ = some (.slice (some ⟨b, off, none⟩) lu cu) := fun d os => cell_regrown x3 d os
      have z6 : ∀ d os, (Go.Sort.grow (redrawn w1 d) os).cell? ⟨w.heap.size, 6, none⟩ = some (.int .i64 m) := fun d os => cell_regrown x6 d os
      have z0 : ∀ d os, (Go.Sort.grow (redrawn w1 d) os).cell? ⟨w.heap.size + 1, 0, none⟩ = some (.int .i64 cu') := fun d os => cell_regrown y0 d os
      have z1 : ∀ d os, (Go.Sort.grow (redrawn w1 d) os).cell? ⟨b, off + pp * 2 + 1, none⟩ = some (.int .i64 bt) := fun d os => cell_regrown c1 d os
      have cA : ∀ d os, Calls Tryz.prog 80 #[.slice (some ⟨b, off, none⟩) lu cu, .int .i64 cu'] (Go.Sort.grow (redrawn w1 d) os) fun e w'' => e = .returned (.int .i64 (pp : Int)) ∧ ∃ p : Regrown, w'' = Go.Sort.grow (redrawn w1 p.d) p.os := fun d os => Calls.regrown_of ((hat.out _ (Below.on hW1.out (below_regrown w1 d os))).mono fun e w' ⟨h1, h2⟩ => ⟨h1, by rw [h2]; exact Below.refl _ _⟩)
      have cB : ∀ d os, Calls Tryz.prog 79 #[.int .i64 bt, .int .i64 want] (Go.Sort.grow (redrawn w1 d) os) fun e w'' => e = .returned (.bool false) ∧ ∃ p : Regrown, w'' = Go.Sort.grow (redrawn w1 p.d) p.os := fun d os => Calls.regrown_of ((cH.out bt _ (.inl rfl)).mono fun e w' ⟨h1, h2⟩ => ⟨by rw [h1, hH], by rw [h2]; exact Below.refl _ _⟩)
      clear hH cH x0 x1 x2 x3 x4 x5 x6 y0 y1 y2 y3 c1
      go_wp2_with fail
      refine wp_region_quiet_below (by kernel_rfl) (by kernel_rfl) ?_
      repeat (go_big_quiet_step (first | exact cA _ _ | exact cB _ _))
      refine wpQuiet_nil ?_
      intro _ hw'
      obtain ⟨⟨dq, osq⟩, hw''⟩ := hw'
      subst hw''
      have hbq : Hid (Below w.heap.size w (Go.Sort.grow (redrawn w1 dq) osq)) := Below.on hW1.out (below_regrown w1 dq osq)
      generalize Go.Sort.grow (redrawn w1 dq) osq = w3 at hbq ⊢
      clear z0 z1 z3 z6 cA cB
      go_wp2
      go_ret
      exact ⟨ret_boolW (by rw [hz.out, HH.out]; rfl), hbq.out⟩
    · have HH : Hid (hasZ bt want = true) := hH
      clear hH
      go_wp2_with fail
      go_region_held3 (fun w' => w'.cell? ⟨w.heap.size, 3, none⟩ = some (.slice (some ⟨b, off, none⟩) lu cu) ∧ w'.cell? ⟨w.heap.size, 6, none⟩ = some (.int .i64 m) ∧ w'.cell? ⟨w.heap.size + 1, 0, none⟩ = some (.int .i64 cu') ∧ w'.cell? ⟨b, off + pp * 2 + 1, none⟩ = some (.int .i64 bt)) (go_keep)
        (first
          | (go_at_call 80; refine (hat.out _ (below_drewQ hW1.out)).mono ?_; rintro e w3 ⟨rfl, hw3⟩; subst hw3)
          | (go_at_call 79; refine (cH.out _ _ (by first | exact .inl rfl | exact .inr rfl)).mono ?_; rintro e w3 ⟨he, hw3⟩; subst hw3; (try rw [HH.out] at he); subst he))
      go_wp2
      go_ret
      exact ⟨ret_boolW (by rw [hz.out, HH.out]; rfl), below_drewQ hW1.out⟩
  · have hz : Hid (mb = hasZ (clsOf g r m) want) := (by show _ = _; rw [HM.out]; rfl)
    obtain ⟨xl, x0, x1, x2, x3, x4, x5, x6⟩ := HX1.out
    clear HM hat
    go_wp2_with fail
    refine (sClass_any u g o au lu cu ag lg cg r m _).mono ?_
    rintro e w2 ⟨rfl, hb⟩
    have hW2 : Hid (Below w.heap.size w w2) := Below.on hW1.out hb
    clear hb x0 x1 x2 x3 x4 x5 x6 xl
    go_wp2_with (go_at_call 79; refine (sl02Has_int _ _ HS.out.k0 HS.out.k1 HS.out.v0 HS.out.v1 _).mono ?_; rintro e w2 ⟨rfl, rfl⟩)
    go_ret
    exact ⟨ret_boolW hz.out.symm, hW2.out⟩
  · have hz : Hid (mb = false) := (by show _ = _; rw [HM.out]; rfl)
    clear HM hat
    go_wp2
    go_ret
    exact ⟨ret_boolW hz.out.symm, hW1.out⟩
  · have hz : Hid (mb = hasZ o want) := (by show _ = _; rw [HM.out]; rfl)
    obtain ⟨xl, x0, x1, x2, x3, x4, x5, x6⟩ := HX1.out
    clear HM hat
    go_wp2_with (go_at_call 79; refine (sl02Has_int _ _ HS.out.o0 HS.out.o1 HS.out.v0 HS.out.v1 _).mono ?_; rintro e w2 ⟨rfl, rfl⟩)
    go_ret
    exact ⟨ret_boolW hz.out.symm, hW1.out⟩
end Go.Proofs.YtcniahgcgfmhpaaGreat
/- Who a node lets do what. -/
namespace Go.Proofs.YtcniahgcgfmhpaaGreat
open Go.RowKit Go.PlainAid Go.Deep
set_option linter.unusedVariables false
def rootB (x : Nd) (want : Int) : Bool := x.k == 1 || (want % 2 == 0 || (x.A.u % 2 == 1 || (clsOf x.A.g x.A.r x.A.m % 2 == 1 || x.A.o % 2 == 1)))
def letB (x : Nd) (u g : Int) (cl : Nat) (r : Bool) (cf : Nat → Int) (want : Int) : Bool := if r then rootB x want else mayB x.A.u x.A.g x.A.o x.A.us x.A.gs x.A.r x.A.m x.ow x.gr u g cl cf want
/-- What may be asked of a node. -/
structure Ask (x : Nd) (u g : Int) (cl : Nat) (cf : Nat → Int) (want : Int) : Prop where
  fine : fineB x.A.u x.A.g x.A.o x.A.us x.A.gs x.A.r x.A.m x.ow x.gr u g cl cf want = true
theorem ask_node {l : List Nd} {now : Int} {k : Nat} {u g : Int} {cl : Nat} {cf : Nat → Int} {want : Int} (h : nodeB l now k = true) (hc : credB u g cl cf = true) (hw : inR 0 7 want = true) : Ask (ndAt l k) u g cl cf want := by
  obtain ⟨_, f2, f3, f4⟩ := node_facts h
  refine ⟨?_⟩
  simp only [fineB, f2, f3, f4, hc, hw, Bool.and_self]
theorem Ask.sound {x : Nd} {u g : Int} {cl : Nat} {cf : Nat → Int} {want : Int} (h : Ask x u g cl cf want) : Sound x.A.u x.A.g x.A.o x.A.us x.A.r x.A.m want := fine_sound h.fine
theorem par2 {n : Int} (h : 0 ≤ n) : (n.tmod 2 = 0 ∧ n % 2 = 0) ∨ (n.tmod 2 = 1 ∧ n % 2 = 1) := by
  have e : n.tmod 2 = n % 2 := Int.tmod_eq_emod_of_nonneg h
  rw [e]
  omega
theorem has_one : ∀ a, a < 8 → hasB a 1 = (a % 2 == 1) := by decide +kernel
theorem has_or3 : ∀ a, a < 8 → ∀ b, b < 8 → ∀ c, c < 8 → hasB ((a ||| b) ||| c) 1 = (a % 2 == 1 || (b % 2 == 1 || c % 2 == 1)) ∧ (a ||| b) < 8 ∧ ((a ||| b) ||| c) < 8 := by decide +kernel
theorem nat_par (a : Nat) : (a % 2 == 1) = (((a : Int) % 2) == 1) := by
  have h : a % 2 = 0 ∨ a % 2 = 1 := by omega
  rcases h with h | h
  · have : (a : Int) % 2 = 0 := by omega
    rw [h, this]; rfl
  · have : (a : Int) % 2 = 1 := by omega
    rw [h, this]; rfl
theorem hasZ_one {n : Int} (h0 : 0 ≤ n) (h1 : n ≤ 7) : hasZ n 1 = (n % 2 == 1) := by
  obtain ⟨a, rfl⟩ := Int.eq_ofNat_of_zero_le h0
  rw [show (1 : Int) = ((1 : Nat) : Int) from rfl, hasZ_in (by omega) (by omega), has_one a (by omega), nat_par]
  rfl
theorem hasZ_or3 {p q s : Int} (p0 : 0 ≤ p) (p1 : p ≤ 7) (q0 : 0 ≤ q) (q1 : q ≤ 7) (s0 : 0 ≤ s) (s1 : s ≤ 7) : hasZ (bits .or .i64 (bits .or .i64 p q) s) 1 = (p % 2 == 1 || (q % 2 == 1 || s % 2 == 1)) := by
  obtain ⟨a, rfl⟩ := Int.eq_ofNat_of_zero_le p0
  obtain ⟨b, rfl⟩ := Int.eq_ofNat_of_zero_le q0
  obtain ⟨c, rfl⟩ := Int.eq_ofNat_of_zero_le s0
  obtain ⟨h1, h2, h3⟩ := has_or3 a (by omega) b (by omega) c (by omega)
  rw [i64_or_nat a b (by omega) (by omega), i64_or_nat (a ||| b) c (by omega) (by omega), show (1 : Int) = ((1 : Nat) : Int) from rfl, hasZ_in (by omega) (by omega), h1, nat_par, nat_par, nat_par]
  rfl
theorem rootB_has {x : Nd} {u g : Int} {cl : Nat} {cf : Nat → Int} {want : Int} (h : Ask x u g cl cf want) : rootB x want = (x.k == 1 || (!hasZ want 1 || hasZ (bits .or .i64 (bits .or .i64 x.A.u (clsOf x.A.g x.A.r x.A.m)) x.A.o) 1)) := by
  have s := h.sound
  rw [hasZ_or3 s.u0 s.u1 s.k0 s.k1 s.o0 s.o1, hasZ_one s.v0 s.v1, rootB]
  have hp := par2 s.v0
  rcases hp with ⟨_, hp⟩ | ⟨_, hp⟩ <;> rw [hp] <;> rfl
end Go.Proofs.YtcniahgcgfmhpaaGreat
