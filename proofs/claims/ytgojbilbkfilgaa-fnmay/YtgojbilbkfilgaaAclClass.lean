/- AclClass, the program's and the specification's: who is what. -/
import Derived.Test.YtgojbilbkfilgaaWhich
import Derived.Test.YtgojbilbkfilgaaDropMath
namespace Go.Proofs.Ytgojbilbkfilgaa
open Go.RowKit Go.PlainAid Go.Deep
set_option linter.unusedVariables false
/-- AclClass of what is right. -/
def whichB (g : Int) (us gs : List (Int × Int)) (owner group cu' : Int) (P : Int → Bool) (want : Int) : Int :=
  if cu' == owner then 1 else if fnd us cu' then 2 else goC (allTo (P group && hasZ g want) P gs want gs.length) (inTo (P group) P gs gs.length)
/-- May it be asked? -/
def fineB (u g o : Int) (us gs : List (Int × Int)) (r : Bool) (m owner group cu' cg' : Int) (cl : Nat) (cf : Nat → Int) (want : Int) : Bool :=
  aclB u g o us gs r m && (inR 0 9999 owner && (inR 0 9999 group && (credB cu' cg' cl cf && inR 0 7 want)))
def classB (u g o : Int) (us gs : List (Int × Int)) (r : Bool) (m owner group cu' cg' : Int) (cl : Nat) (cf : Nat → Int) (want : Int) : Int :=
  if fineB u g o us gs r m owner group cu' cg' cl cf want then whichB g us gs owner group cu' (inGB cu' cg' cl cf) want else 0
theorem goC_cons (P : Int → Bool) (group g : Int) (gs : List (Int × Int)) (want : Int) (lg : Nat) (h : gs.length = lg) : goC (allTo false P ((group, g) :: gs) want (1 + lg)) (inTo false P ((group, g) :: gs) (1 + lg)) = goC (allTo (P group && hasZ g want) P gs want gs.length) (inTo (P group) P gs gs.length) := by
  rw [h, Nat.add_comm 1 lg, allTo_cons, inTo_cons]
set_option maxRecDepth 100000 in
set_option maxHeartbeats 8000000 in
/-- impl.AclClass. -/
theorem iAclClass_any (u g o : Int) (au : Option Addr) (lu cu : Nat) (ag : Option Addr) (lg cg : Nat) (r : Bool) (m : Int) (us gs : List (Int × Int)) (owner group : Int) (cu' cg' : Int) (ca : Option Addr) (cl cc : Nat) (cr : Bool) (cf : Nat → Int) (want : Int) (w : World) (hu : Prs au lu us w) (hg : Prs ag lg gs w) (hci : Ints ca cl cf w) :
    Calls Try.prog 44 #[.agg #[.int .i64 u, .int .i64 g, .int .i64 o, .slice au lu cu, .slice ag lg cg, .bool r, .int .i64 m], .int .i64 owner, .int .i64 group, .agg #[.int .i64 cu', .int .i64 cg', .slice ca cl cc, .bool cr], .int .i64 want] w fun e w' => e = .returned (.int .i64 (classB u g o us gs r m owner group cu' cg' cl cf want)) ∧ Below w.heap.size w w' := by
  have e2 := hg.1
  have hc : Hid (∀ w', Below w.heap.size w w' → Calls Try.prog 33 #[.agg #[.int .i64 u, .int .i64 g, .int .i64 o, .slice au lu cu, .slice ag lg cg, .bool r, .int .i64 m]] w' fun e w'' => e = .returned (.bool (aclB u g o us gs r m)) ∧ Below w'.heap.size w' w'') := (fun w' hb => iAclRight_any u g o au lu cu ag lg cg r m us gs w' (hu.below hb) (hg.below hb))
  have hcr : Hid (∀ w', Below w.heap.size w w' → Calls Try.prog 97 #[.agg #[.int .i64 cu', .int .i64 cg', .slice ca cl cc, .bool cr]] w' fun e w'' => e = .returned (.bool (credB cu' cg' cl cf)) ∧ Below w'.heap.size w' w'') := (fun w' hb => iCredRight_any cu' cg' ca cl cc cr cf w' (hci.below hb))
  have hpl : Hid (aclB u g o us gs r m = true → ∀ w', Below w.heap.size w w' → Calls Try.prog 98 #[.slice au lu cu, .int .i64 cu', .func (.func 99) #[] #[]] w' fun e w'' => e = .returned (.tuple #[.int .i64 (plc us cu'), .bool (fnd us cu')]) ∧ Below w'.heap.size w' w'') := (fun h w' hb => by
    obtain ⟨_, _, _, _, m1, m2⟩ := aclB_parts h
    have l1 := nm_len m1
    have := hu.1
    exact placeOf_any au lu cu us cu' (by omega) w' (hu.below hb))
  have hgo : Hid (aclB u g o us gs r m = true → ∀ w', Below w.heap.size w w' → Calls Try.prog 100 #[.agg #[.int .i64 u, .int .i64 g, .int .i64 o, .slice au lu cu, .slice ag lg cg, .bool r, .int .i64 m], .int .i64 group, .agg #[.int .i64 cu', .int .i64 cg', .slice ca cl cc, .bool cr], .int .i64 want] w' fun e w'' => e = .returned (.int .i64 (goC (allTo (inGB cu' cg' cl cf group && hasZ g want) (inGB cu' cg' cl cf) gs want gs.length) (inTo (inGB cu' cg' cl cf group) (inGB cu' cg' cl cf) gs gs.length))) ∧ Below w'.heap.size w' w'') := (fun h w' hb => by
    obtain ⟨_, _, _, _, m1, m2⟩ := aclB_parts h
    have l2 := nm_len m2
    have := groupOrOther_any u g o au lu cu ag lg cg r m gs group cu' cg' ca cl cc cr cf want w' (hg.below hb) (hci.below hb) (by omega)
    rw [goC_cons _ _ _ _ _ _ e2] at this
    exact this)
  have HF : Hid (∀ x, fineB u g o us gs r m owner group cu' cg' cl cf want = x → classB u g o us gs r m owner group cu' cg' cl cf want = if x then whichB g us gs owner group cu' (inGB cu' cg' cl cf) want else 0) := (fun x h => by rw [classB, h])
  have HFI : Hid (fineB u g o us gs r m owner group cu' cg' cl cf want = (aclB u g o us gs r m && (inR 0 9999 owner && (inR 0 9999 group && (credB cu' cg' cl cf && inR 0 7 want))))) := rfl
  have HW : Hid (whichB g us gs owner group cu' (inGB cu' cg' cl cf) want = if cu' == owner then 1 else if fnd us cu' then 2 else goC (allTo (inGB cu' cg' cl cf group && hasZ g want) (inGB cu' cg' cl cf) gs want gs.length) (inTo (inGB cu' cg' cl cf group) (inGB cu' cg' cl cf) gs gs.length)) := rfl
  clear hu hg hci e2
  generalize fineB u g o us gs r m owner group cu' cg' cl cf want = fb at HF HFI
  generalize classB u g o us gs r m owner group cu' cg' cl cf want = cb at HF ⊢
  generalize whichB g us gs owner group cu' (inGB cu' cg' cl cf) want = wb at HF HW
  generalize goC (allTo (inGB cu' cg' cl cf group && hasZ g want) (inGB cu' cg' cl cf) gs want gs.length) (inTo (inGB cu' cg' cl cf group) (inGB cu' cg' cl cf) gs gs.length) = gc at HW hgo
  go_enter Try.func44, Try.ntmps44
  go_wp2_with fail
  refine (hc.out _ (bl2N _ _ _)).mono ?_
  rintro e w1 ⟨rfl, hb⟩
  have hW1 : Hid (Below w.heap.size w w1) := (bl2N _ _ _).trans (hb.mono (by simp; omega))
  have hX := ((box7_new w (.int .i64 u) (.int .i64 g) (.int .i64 o) (.slice au lu cu) (.slice ag lg cg) (.bool r) (.int .i64 m) 25).below (bel_alloc _ (.cells #[.int .i64 cu', .int .i64 cg', .slice ca cl cc, .bool cr] 44))).below hb
  have eA : (w.alloc (.cells #[.int .i64 u, .int .i64 g, .int .i64 o, .slice au lu cu, .slice ag lg cg, .bool r, .int .i64 m] 25)).heap.size = w.heap.size + 1 := by simp
  have hY := (box4_new (w.alloc (.cells #[.int .i64 u, .int .i64 g, .int .i64 o, .slice au lu cu, .slice ag lg cg, .bool r, .int .i64 m] 25)) (.int .i64 cu') (.int .i64 cg') (.slice ca cl cc) (.bool cr) 44).below hb
  rw [eA] at hY
  clear hb hc eA
  cases h : aclB u g o us gs r m
  · have hno : Hid (cb = 0) := (by show _ = _; rw [HF.out false (by rw [HFI.out, h]; rfl)]; rfl)
    clear h hcr hpl hgo HF HFI HW hX hY
    go_wp2
    go_ret
    exact ⟨ret_intM hno.out.symm, hW1.out⟩
  cases h1 : inR 0 9999 owner
  · have hno : Hid (cb = 0) := (by show _ = _; rw [HF.out false (by rw [HFI.out, h, h1]; rfl)]; rfl)
    clear h hcr hpl hgo HF HFI HW hX hY
    go_wp2_with (go_at_call 96; refine (isId_any _ _).mono ?_; rintro e w' ⟨rfl, rfl⟩)
    go_ret
    exact ⟨ret_intM hno.out.symm, hW1.out⟩
  cases h2 : inR 0 9999 group
  · have hno : Hid (cb = 0) := (by show _ = _; rw [HF.out false (by rw [HFI.out, h, h1, h2]; rfl)]; rfl)
    clear h hcr hpl hgo HF HFI HW hX hY
    go_wp2_with (go_at_call 96; refine (isId_any _ _).mono ?_; rintro e w' ⟨rfl, rfl⟩)
    go_ret
    exact ⟨ret_intM hno.out.symm, hW1.out⟩
  obtain ⟨yl, y0, y1, y2, y3⟩ := hY
  have hpl2 := hpl.out h
  have hgo2 := hgo.out h
  have HPL : Hid _ := hpl2
  have HGO : Hid _ := hgo2
  have HFJ : Hid (fb = (credB cu' cg' cl cf && inR 0 7 want)) := (by show _ = _; rw [HFI.out, h, h1, h2]; rfl)
  clear hpl hgo hpl2 hgo2 HFI h
  go_wp2_with (go_at_call 96; refine (isId_any _ _).mono ?_; rintro e w' ⟨rfl, rfl⟩)
  refine (hcr.out _ hW1.out).mono ?_
  rintro e w2 ⟨rfl, hb⟩
  have hW2 : Hid (Below w.heap.size w w2) := Below.on hW1.out hb
  have hX2 := hX.below hb
  have hY2 := (Box4.mk yl y0 y1 y2 y3).below hb
  clear hb hcr hX y0 y1 y2 y3 yl hW1
  cases h3 : credB cu' cg' cl cf
  · have hno : Hid (cb = 0) := (by show _ = _; rw [HF.out false (by rw [HFJ.out, h3]; rfl)]; rfl)
    clear h1 h2 h3 HPL HGO HF HFJ HW hX2 hY2
    go_wp2
    go_ret
    exact ⟨ret_intM hno.out.symm, hW2.out⟩
  cases h4 : inR 0 7 want
  · have hno : Hid (cb = 0) := (by show _ = _; rw [HF.out false (by rw [HFJ.out, h3, h4]; rfl)]; rfl)
    clear h1 h2 h3 HPL HGO HF HFJ HW hX2 hY2
    go_wp2_with (go_at_call 81; refine (isBits_any _ _).mono ?_; rintro e w' ⟨rfl, rfl⟩)
    go_ret
    exact ⟨ret_intM hno.out.symm, hW2.out⟩
  have hyes : Hid (cb = wb) := (by show _ = _; rw [HF.out true (by rw [HFJ.out, h3, h4]; rfl)]; rfl)
  obtain ⟨xl, x0, x1, x2, x3, x4, x5, x6⟩ := hX2
  obtain ⟨yl, y0, y1, y2, y3⟩ := hY2
  clear h1 h2 h3 HF HFJ
  cases ho : (cu' == owner)
  · have HW2 : Hid (wb = if fnd us cu' then 2 else gc) := (by show _ = _; rw [HW.out, ho]; rfl)
    clear HW
    go_wp2_with (go_at_call 81; refine (isBits_any _ _).mono ?_; rintro e w' ⟨rfl, rfl⟩)
    refine (HPL.out _ hW2.out).mono ?_
    rintro e w3 ⟨rfl, hb⟩
    have hW3 : Hid (Below w.heap.size w w3) := Below.on hW2.out hb
    have hX3 := (Box7.mk xl x0 x1 x2 x3 x4 x5 x6).below hb
    have hY3 := (Box4.mk yl y0 y1 y2 y3).below hb
    clear hb xl x0 x1 x2 x3 x4 x5 x6 yl y0 y1 y2 y3 HPL hW2 h4 ho
    generalize plc us cu' = pp
    cases hf : fnd us cu'
    · have hz : Hid (cb = gc) := (by show _ = _; rw [hyes.out, HW2.out, hf]; rfl)
      clear hyes HW2 hf
      obtain ⟨xl, x0, x1, x2, x3, x4, x5, x6⟩ := hX3
      obtain ⟨yl, y0, y1, y2, y3⟩ := hY3
      go_wp2_with fail
      refine (HGO.out _ hW3.out).mono ?_
      rintro e w4 ⟨rfl, hb⟩
      have hW4 : Hid (Below w.heap.size w w4) := Below.on hW3.out hb
      clear hb HGO
      go_wp2
      go_ret
      exact ⟨ret_intM hz.out.symm, hW4.out⟩
    · have hz : Hid (cb = 2) := (by show _ = _; rw [hyes.out, HW2.out, hf]; rfl)
      clear hyes HW2 hf HGO hX3 hY3
      go_wp2
      go_ret
      exact ⟨ret_intM hz.out.symm, hW3.out⟩
  · have hz : Hid (cb = 1) := (by show _ = _; rw [hyes.out, HW.out, ho]; rfl)
    clear hyes HW HPL HGO
    go_wp2_with (go_at_call 81; refine (isBits_any _ _).mono ?_; rintro e w' ⟨rfl, rfl⟩)
    go_ret
    exact ⟨ret_intM hz.out.symm, hW2.out⟩
end Go.Proofs.Ytgojbilbkfilgaa
