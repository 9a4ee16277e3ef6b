/- Laid together: GrY. -/
import Derived.Test.YtfhhaencigmpoaaDoorTn28
/- ToNfs, the program's and the specification's, of any list. -/
namespace Go.Proofs.YtfhhaencigmpoaaDoor
open Go.RowKit Go.PlainAid Go.Deep
set_option linter.unusedVariables false
theorem rowO_ans {w w' : World} {a : Option Addr} {c : Nat} {l : List Ac} (h : RowO w w' a c l) : AnsL l w (.returned (.slice a l.length c)) w' := by
  obtain ⟨a2, c2, e, ho, hin⟩ := ownA_of_row h.1
  cases e
  exact ⟨a, c, rfl, ⟨ho, hin, h.2⟩⟩
set_option maxRecDepth 100000 in
set_option maxHeartbeats 2000000 in
theorem iToNfs_no (A : Al) (aU : Option Addr) (cU : Nat) (aG : Option Addr) (cG : Nat) (hA : A.B = false) (w : World) (hu : Prs aU A.us.length A.us w) (hg : Prs aG A.gs.length A.gs w) :
    Calls Tryd.prog 10 #[.agg #[.int .i64 A.u, .int .i64 A.g, .int .i64 A.o, .slice aU A.us.length cU, .slice aG A.gs.length cG, .bool A.r, .int .i64 A.m]] w (AnsL [] w) := by
  have hb0 := bel_alloc w (.cells #[.int .i64 A.u, .int .i64 A.g, .int .i64 A.o, .slice aU A.us.length cU, .slice aG A.gs.length cG, .bool A.r, .int .i64 A.m] 30)
  have HB0 : Hid (Below w.heap.size w (w.alloc (.cells #[.int .i64 A.u, .int .i64 A.g, .int .i64 A.o, .slice aU A.us.length cU, .slice aG A.gs.length cG, .bool A.r, .int .i64 A.m] 30))) := hb0
  have HR : Hid (∀ W, Below w.heap.size w W → Calls Tryd.prog 34 #[.agg #[.int .i64 A.u, .int .i64 A.g, .int .i64 A.o, .slice aU A.us.length cU, .slice aG A.gs.length cG, .bool A.r, .int .i64 A.m]] W fun e w' => e = .returned (.bool false) ∧ Below W.heap.size W w') := (fun W hW => by
    have h := iAclRight_any A.u A.g A.o aU _ cU aG _ cG A.r A.m A.us A.gs W (hu.below hW) (hg.below hW)
    have hB : aclB A.u A.g A.o A.us A.gs A.r A.m = false := hA
    rw [hB] at h
    exact h)
  clear hu hg hb0 hA
  go_enter Tryd.func10, Tryd.ntmps10
  go_wp2_with fail
  refine (HR.out _ HB0.out).mono ?_
  rintro e w1 ⟨rfl, hb1⟩
  have HB1 : Hid (Below w.heap.size w w1) := Below.on HB0.out hb1
  clear hb1 HB0 HR
  go_wp2
  go_ret
  exact ⟨none, 0, rfl, ⟨ownA_nil _ _, (fun _ e => nomatch e), HB1.out⟩⟩
theorem iToNfs_any (A : Al) (aU : Option Addr) (cU : Nat) (aG : Option Addr) (cG : Nat) (w : World) (hp : PlW w) (hu : Prs aU A.us.length A.us w) (hg : Prs aG A.gs.length A.gs w) :
    Calls Tryd.prog 10 #[.agg #[.int .i64 A.u, .int .i64 A.g, .int .i64 A.o, .slice aU A.us.length cU, .slice aG A.gs.length cG, .bool A.r, .int .i64 A.m]] w (AnsL (toN A) w) := by
  cases hB : A.B
  · have e : toN A = [] := by rw [toN, hB]; rfl
    rw [e]
    exact iToNfs_no A aU cU aG cG hB w hu hg
  · have e : toN A = nfsA A := by rw [toN, if_pos hB]
    rw [e, ← all_nfs hB]
    exact iToNfs_yes A aU cU aG cG hB w hp hu hg
theorem sToNfs_ans (A : Al) (aU : Option Addr) (cU : Nat) (aG : Option Addr) (cG : Nat) (hlu : A.us.length ≤ 1048576) (hlg : A.gs.length ≤ 1048576) (w : World) (hu : Prs aU A.us.length A.us w) (hg : Prs aG A.gs.length A.gs w) :
    Calls Tryd.prog 8 #[.agg #[.int .i64 A.u, .int .i64 A.g, .int .i64 A.o, .slice aU A.us.length cU, .slice aG A.gs.length cG, .bool A.r, .int .i64 A.m]] w (AnsL (toN A) w) := by
  refine (sToNfs_any A aU cU aG cG hlu hlg w hu hg).mono ?_
  rintro e w' ⟨a, c, rfl, hR⟩
  exact rowO_ans hR
end Go.Proofs.YtfhhaencigmpoaaDoor
