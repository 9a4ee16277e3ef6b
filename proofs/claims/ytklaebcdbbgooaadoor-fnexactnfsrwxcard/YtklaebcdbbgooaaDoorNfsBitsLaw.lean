/- The laws FnExactNfsBits and FnExactNfsRwx. -/
import Derived.Test.YtklaebcdbbgooaaDoorNfsBits
namespace Go.Proofs.YtklaebcdbbgooaaDoor
open Go.RowKit Go.PlainAid
set_option linter.unusedVariables false
set_option maxHeartbeats 2000000 in
theorem nfsBits_law (n : Int) (w : World) (hp : PlW w) :
    Calls Tryd.prog 3 #[.int .i64 n] w fun e w' => e = .returned (.bool true) ∧ Below w.heap.size w w' := by
  have hS : Hid (∀ w, Calls Tryd.prog 5 #[.int .i64 n] w fun e w' => e = .returned (.int .i64 (bitsZ n)) ∧ w' = w) := sNfsBits_any n
  have hI : Hid (Calls Tryd.prog 6 #[.int .i64 n] w fun e w' => e = .returned (.int .i64 (bitsZ n)) ∧ Below w.heap.size w w') := iNfsBits_any n w hp
  generalize bitsZ n = m at hS hI
  have hbb : (m != m) = false := by simp
  clear hp
  go_enter Tryd.func3, Tryd.ntmps3
  go_wp2_with fail
  refine (hS.out _).mono ?_
  rintro e w0 ⟨rfl, h0⟩
  subst h0
  go_wp2_with fail
  refine hI.out.mono ?_
  rintro e w1 ⟨rfl, hb⟩
  have hB : Hid (Below w0.heap.size w0 w1) := hb
  clear hb
  go_wp2
  go_ret
  exact ⟨rfl, hB.out⟩
set_option maxHeartbeats 2000000 in
theorem nfsRwx_law (n : Int) (w : World) (hp : PlW w) :
    Calls Tryd.prog 4 #[.int .i64 n] w fun e w' => e = .returned (.bool true) ∧ Below w.heap.size w w' := by
  have hS : Hid (∀ w, Calls Tryd.prog 7 #[.int .i64 n] w fun e w' => e = .returned (.int .i64 (rwxZ n)) ∧ w' = w) := sNfsRwx_any n
  have hI : Hid (Calls Tryd.prog 8 #[.int .i64 n] w fun e w' => e = .returned (.int .i64 (rwxZ n)) ∧ Below w.heap.size w w') := iNfsRwx_any n w hp
  generalize rwxZ n = m at hS hI
  have hbb : (m != m) = false := by simp
  clear hp
  go_enter Tryd.func4, Tryd.ntmps4
  go_wp2_with fail
  refine (hS.out _).mono ?_
  rintro e w0 ⟨rfl, h0⟩
  subst h0
  go_wp2_with fail
  refine hI.out.mono ?_
  rintro e w1 ⟨rfl, hb⟩
  have hB : Hid (Below w0.heap.size w0 w1) := hb
  clear hb
  go_wp2
  go_ret
  exact ⟨rfl, hB.out⟩
end Go.Proofs.YtklaebcdbbgooaaDoor
