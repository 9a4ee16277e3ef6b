/- Bare, the program's and the specification's. -/
import Derived.Test.YteholdjhkdapcajAclRight
namespace Go.Proofs.Yteholdjhkdapcaj
open Go.RowKit Go.PlainAid
set_option linter.unusedVariables false
/-- Bare. -/
def bareB (u g o : Int) (us gs : List (Int × Int)) (r : Bool) (m : Int) : Bool := aclB u g o us gs r m && !r
set_option maxHeartbeats 4000000 in
/-- impl.Bare. -/
theorem iBare_any (u g o : Int) (au : Option Addr) (lu cu : Nat) (ag : Option Addr) (lg cg : Nat) (r : Bool) (m : Int) (us gs : List (Int × Int)) (w : World) (hu : Prs au lu us w) (hg : Prs ag lg gs w) :
    Calls Try.prog 24 #[.agg #[.int .i64 u, .int .i64 g, .int .i64 o, .slice au lu cu, .slice ag lg cg, .bool r, .int .i64 m]] w fun e w' => e = .returned (.bool (bareB u g o us gs r m)) ∧ Below w.heap.size w w' := by
  have hc : Hid (∀ w', Below w.heap.size w w' → Calls Try.prog 43 #[.agg #[.int .i64 u, .int .i64 g, .int .i64 o, .slice au lu cu, .slice ag lg cg, .bool r, .int .i64 m]] w' fun e w'' => e = .returned (.bool (aclB u g o us gs r m)) ∧ Below w'.heap.size w' w'') := (fun w' hb => iAclRight_any u g o au lu cu ag lg cg r m us gs w' (hu.below hb) (hg.below hb))
  clear hu hg
  have hy : Hid (bareB u g o us gs r m = (aclB u g o us gs r m && !r)) := rfl
  generalize bareB u g o us gs r m = bb at hy ⊢
  go_enter Try.func24, Try.ntmps24
  go_wp2_with fail
  refine (hc.out _ (bel_alloc _ _)).mono ?_
  rintro e w1 ⟨rfl, hb⟩
  have hW1 : Hid (Below w.heap.size w w1) := Below.on (bel_alloc _ _) hb
  obtain ⟨xl, x0, x1, x2, x3, x4, x5, x6⟩ := (box7_new w (.int .i64 u) (.int .i64 g) (.int .i64 o) (.slice au lu cu) (.slice ag lg cg) (.bool r) (.int .i64 m) 28).below hb
  clear hb hc
  cases h : aclB u g o us gs r m
  · have hno : Hid (bb = false) := (by show _ = _; rw [hy.out, h]; rfl)
    clear h hy
    go_wp2
    go_ret
    exact ⟨ret_boolW hno.out.symm, hW1.out⟩
  · have hno : Hid (bb = !r) := (by show _ = _; rw [hy.out, h]; rfl)
    clear h hy
    go_wp2
    go_ret
    exact ⟨ret_boolW hno.out.symm, hW1.out⟩
set_option maxHeartbeats 4000000 in
/-- spec.Bare. -/
theorem sBare_any (u g o : Int) (au : Option Addr) (lu cu : Nat) (ag : Option Addr) (lg cg : Nat) (r : Bool) (m : Int) (us gs : List (Int × Int)) (hlu : lu ≤ 1048576) (hlg : lg ≤ 1048576) (w : World) (hu : Prs au lu us w) (hg : Prs ag lg gs w) :
    Calls Try.prog 23 #[.agg #[.int .i64 u, .int .i64 g, .int .i64 o, .slice au lu cu, .slice ag lg cg, .bool r, .int .i64 m]] w fun e w' => e = .returned (.bool (bareB u g o us gs r m)) ∧ Below w.heap.size w w' := by
  have hc : Hid (∀ w', Below w.heap.size w w' → Calls Try.prog 26 #[.agg #[.int .i64 u, .int .i64 g, .int .i64 o, .slice au lu cu, .slice ag lg cg, .bool r, .int .i64 m]] w' fun e w'' => e = .returned (.bool (aclB u g o us gs r m)) ∧ Below w'.heap.size w' w'') := (fun w' hb => sAclRight_any u g o au lu cu ag lg cg r m us gs hlu hlg w' (hu.below hb) (hg.below hb))
  clear hu hg
  have hy : Hid (bareB u g o us gs r m = (aclB u g o us gs r m && !r)) := rfl
  generalize bareB u g o us gs r m = bb at hy ⊢
  go_enter Try.func23, Try.ntmps23
  go_wp2_with fail
  refine (hc.out _ (bel_alloc _ _)).mono ?_
  rintro e w1 ⟨rfl, hb⟩
  have hW1 : Hid (Below w.heap.size w w1) := Below.on (bel_alloc _ _) hb
  obtain ⟨xl, x0, x1, x2, x3, x4, x5, x6⟩ := (box7_new w (.int .i64 u) (.int .i64 g) (.int .i64 o) (.slice au lu cu) (.slice ag lg cg) (.bool r) (.int .i64 m) 28).below hb
  clear hb hc
  cases h : aclB u g o us gs r m
  · have hno : Hid (bb = false) := (by show _ = _; rw [hy.out, h]; rfl)
    clear h hy
    go_wp2
    go_ret
    exact ⟨ret_boolW hno.out.symm, hW1.out⟩
  · have hno : Hid (bb = !r) := (by show _ = _; rw [hy.out, h]; rfl)
    clear h hy
    go_wp2
    go_ret
    exact ⟨ret_boolW hno.out.symm, hW1.out⟩
end Go.Proofs.Yteholdjhkdapcaj
