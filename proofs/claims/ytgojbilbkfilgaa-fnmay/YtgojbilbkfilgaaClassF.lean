/- spec.AclClass; laws.szCred of whatever is left. -/
import Derived.Test.YtgojbilbkfilgaaClassS
import Derived.Test.YtgojbilbkfilgaaLawCred
namespace Go.Proofs.Ytgojbilbkfilgaa
open Go.RowKit Go.PlainAid Go.Deep
set_option linter.unusedVariables false
set_option maxRecDepth 100000 in
set_option maxHeartbeats 8000000 in
/-- spec.AclClass. -/
theorem sAclClass_any (u g o : Int) (au : Option Addr) (lu cu : Nat) (ag : Option Addr) (lg cg : Nat) (r : Bool) (m : Int) (us gs : List (Int × Int)) (owner group : Int) (cu' cg' : Int) (ca : Option Addr) (cl cc : Nat) (cr : Bool) (cf : Nat → Int) (want : Int) (hlu : lu ≤ 1048576) (hlg : lg ≤ 1048576) (w : World) (hu : Prs au lu us w) (hg : Prs ag lg gs w) (hci : Ints ca cl cf w) :
    Calls Try.prog 47 #[.agg #[.int .i64 u, .int .i64 g, .int .i64 o, .slice au lu cu, .slice ag lg cg, .bool r, .int .i64 m], .int .i64 owner, .int .i64 group, .agg #[.int .i64 cu', .int .i64 cg', .slice ca cl cc, .bool cr], .int .i64 want] w fun e w' => e = .returned (.int .i64 (classB u g o us gs r m owner group cu' cg' cl cf want)) ∧ Below w.heap.size w w' := by
  have hfi : Hid (∀ w', Below w.heap.size w w' → Calls Try.prog 101 #[.agg #[.int .i64 u, .int .i64 g, .int .i64 o, .slice au lu cu, .slice ag lg cg, .bool r, .int .i64 m], .int .i64 owner, .int .i64 group, .agg #[.int .i64 cu', .int .i64 cg', .slice ca cl cc, .bool cr], .int .i64 want] w' fun e w'' => e = .returned (.bool (fineB u g o us gs r m owner group cu' cg' cl cf want)) ∧ Below w'.heap.size w' w'') := (fun w' hb => sFine_any u g o au lu cu ag lg cg r m us gs owner group cu' cg' ca cl cc cr cf want hlu hlg w' (hu.below hb) (hg.below hb) (hci.below hb))
  have hwh : Hid (fineB u g o us gs r m owner group cu' cg' cl cf want = true → ∀ w', Below w.heap.size w w' → Calls Try.prog 103 #[.agg #[.int .i64 u, .int .i64 g, .int .i64 o, .slice au lu cu, .slice ag lg cg, .bool r, .int .i64 m], .int .i64 owner, .int .i64 group, .agg #[.int .i64 cu', .int .i64 cg', .slice ca cl cc, .bool cr], .int .i64 want] w' fun e w'' => e = .returned (.int .i64 (whichB g us gs owner group cu' (inGB cu' cg' cl cf) want)) ∧ Below w'.heap.size w' w'') := (fun h w' hb => sWhich_any u g o au lu cu ag lg cg r m us gs owner group cu' cg' ca cl cc cr cf want h w' (hu.below hb) (hg.below hb) (hci.below hb))
  have HF : Hid (∀ x, fineB u g o us gs r m owner group cu' cg' cl cf want = x → classB u g o us gs r m owner group cu' cg' cl cf want = if x then whichB g us gs owner group cu' (inGB cu' cg' cl cf) want else 0) := (fun x h => by rw [classB, h])
  clear hu hg hci
  generalize classB u g o us gs r m owner group cu' cg' cl cf want = cb at HF ⊢
  generalize whichB g us gs owner group cu' (inGB cu' cg' cl cf) want = wb at HF hwh
  generalize fineB u g o us gs r m owner group cu' cg' cl cf want = fb at HF hfi hwh
  have hX := (box7_new w (.int .i64 u) (.int .i64 g) (.int .i64 o) (.slice au lu cu) (.slice ag lg cg) (.bool r) (.int .i64 m) 25).below (bel_alloc _ (.cells #[.int .i64 cu', .int .i64 cg', .slice ca cl cc, .bool cr] 44))
  have eA : (w.alloc (.cells #[.int .i64 u, .int .i64 g, .int .i64 o, .slice au lu cu, .slice ag lg cg, .bool r, .int .i64 m] 25)).heap.size = w.heap.size + 1 := by simp
  have hY := box4_new (w.alloc (.cells #[.int .i64 u, .int .i64 g, .int .i64 o, .slice au lu cu, .slice ag lg cg, .bool r, .int .i64 m] 25)) (.int .i64 cu') (.int .i64 cg') (.slice ca cl cc) (.bool cr) 44
  rw [eA] at hY
  clear eA
  go_enter Try.func47, Try.ntmps47
  go_wp2_with fail
  refine (hfi.out _ (bl2N _ _ _)).mono ?_
  rintro e w1 ⟨rfl, hb⟩
  have hW1 : Hid (Below w.heap.size w w1) := (bl2N _ _ _).trans (hb.mono (by simp; omega))
  have hX1 := hX.below hb
  have hY1 := hY.below hb
  clear hb hX hY hfi
  cases fb
  · have hz : Hid (cb = 0) := HF.out false rfl
    clear hX1 hY1 hwh HF
    go_wp2
    go_ret
    exact ⟨ret_intM hz.out.symm, hW1.out⟩
  · have hz : Hid (cb = wb) := HF.out true rfl
    obtain ⟨xl, x0, x1, x2, x3, x4, x5, x6⟩ := hX1
    obtain ⟨yl, y0, y1, y2, y3⟩ := hY1
    have hw2 := hwh.out rfl
    have HWH : Hid _ := hw2
    clear HF hwh hw2
    go_wp2_with fail
    refine (HWH.out _ hW1.out).mono ?_
    rintro e w2 ⟨rfl, hb⟩
    have hW2 : Hid (Below w.heap.size w w2) := Below.on hW1.out hb
    clear hb HWH x0 x1 x2 x3 x4 x5 x6 y0 y1 y2 y3 xl yl
    go_wp2
    go_ret
    exact ⟨ret_intM hz.out.symm, hW2.out⟩
end Go.Proofs.Ytgojbilbkfilgaa
