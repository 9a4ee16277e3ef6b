/- What the laws do with an answer that holds a list of names: two of them compared, marked, read again. -/
import Derived.Test.YtddkmlkfphmdoaaAnsR
import Derived.Test.YtddkmlkfphmdoaaAclEq
import Derived.Test.YtddkmlkfphmdoaaAclMark
namespace Go.Proofs.Ytddkmlkfphmdoaa
open Go.RowKit Go.PlainAid Go.Deep
set_option linter.unusedVariables false
theorem Answers.out {xu xg xo xm xc : Int} {xus xgs : List (Int × Int)} {xr : Bool} {w w' : World} {e : Ending} (h : Answers ⟨xu, xg, xo, xus, xgs, xr, xm, xc⟩ w e w') : ∃ a1 c1 a2 c2, e = .returned (.agg #[.int .i64 xu, .int .i64 xg, .int .i64 xo, .slice a1 xus.length c1, .slice a2 xgs.length c2, .bool xr, .int .i64 xm, .int .i64 xc]) ∧ New w w' a1 xus.length xus a2 xgs.length xgs := h
set_option maxHeartbeats 4000000 in
/-- laws.eqAclOut of two that hold the same. -/
theorem eqAclOut_any (u g o : Int) (au au2 : Option Addr) (lu cu cu2 : Nat) (ag ag2 : Option Addr) (lg cg cg2 : Nat) (r : Bool) (m c : Int) (us gs : List (Int × Int)) (h1 : lu ≤ 1048576) (h2 : lg ≤ 1048576) (w : World) (hu : Prs au lu us w) (hu2 : Prs au2 lu us w) (hg : Prs ag lg gs w) (hg2 : Prs ag2 lg gs w) :
    Calls Try.prog 13 #[.agg #[.int .i64 u, .int .i64 g, .int .i64 o, .slice au lu cu, .slice ag lg cg, .bool r, .int .i64 m, .int .i64 c], .agg #[.int .i64 u, .int .i64 g, .int .i64 o, .slice au2 lu cu2, .slice ag2 lg cg2, .bool r, .int .i64 m, .int .i64 c]] w fun e w' => e = .returned (.bool true) ∧ Below w.heap.size w w' := by
  have hc : Hid (∀ w', Below w.heap.size w w' → Calls Try.prog 10 #[.agg #[.int .i64 u, .int .i64 g, .int .i64 o, .slice au lu cu, .slice ag lg cg, .bool r, .int .i64 m], .agg #[.int .i64 u, .int .i64 g, .int .i64 o, .slice au2 lu cu2, .slice ag2 lg cg2, .bool r, .int .i64 m]] w' fun e w'' => e = .returned (.bool true) ∧ Below w'.heap.size w' w'') := (fun w' hb => eqAcl_any u g o au au2 lu cu cu2 ag ag2 lg cg cg2 r m us gs h1 h2 w' (hu.below hb) (hu2.below hb) (hg.below hb) (hg2.below hb))
  clear hu hu2 hg hg2
  go_enter Try.func13, Try.ntmps13
  go_wp2_with fail
  refine (hc.out _ (bl2N _ _ _)).mono ?_
  rintro e w1 ⟨rfl, hb⟩
  have hbW : Hid (Below w.heap.size w w1) := (bl2N _ _ _).trans (hb.mono (by simp; omega))
  obtain ⟨hcl, hfz⟩ := bl_cellN hb
  clear hb hc
  simp at hcl hfz
  go_wp2
  go_ret
  exact ⟨rfl, hbW.out⟩
set_option maxHeartbeats 4000000 in
/-- laws.markAclOut. -/
theorem markAclOut_any (u g o : Int) (au : Option Addr) (lu cu : Nat) (ag : Option Addr) (lg cg : Nat) (r : Bool) (m c : Int) (us gs : List (Int × Int)) (k : Int) (h0 : 0 ≤ k) (h1 : k ≤ 100000000) (hl : lu ≤ 1048576) (hl2 : lg ≤ 1048576) (w : World)
    (hu : Own au lu us w) (hg : Own ag lg gs w) (iu : ∀ A, au = some A → A.block < w.heap.size) (ig : ∀ A, ag = some A → A.block < w.heap.size) (hne : ∀ A A2, au = some A → ag = some A2 → A.block ≠ A2.block) :
    Calls Try.prog 14 #[.agg #[.int .i64 u, .int .i64 g, .int .i64 o, .slice au lu cu, .slice ag lg cg, .bool r, .int .i64 m, .int .i64 c], .int .i64 k] w fun e w' => e = .returned (.int .i64 (k + 2 * lu + 2 * lg)) ∧ Own au lu (marks k lu) w' ∧ Own ag lg (marks (k + 2 * lu) lg) w' ∧ But2 au ag w w' := by
  have hB0 : Below w.heap.size w (w.alloc (.cells #[.int .i64 u, .int .i64 g, .int .i64 o, .slice au lu cu, .slice ag lg cg, .bool r, .int .i64 m, .int .i64 c] 34)) := bel_alloc _ _
  have hc : Hid (Calls Try.prog 32 #[.agg #[.int .i64 u, .int .i64 g, .int .i64 o, .slice au lu cu, .slice ag lg cg, .bool r, .int .i64 m], .int .i64 k] (w.alloc (.cells #[.int .i64 u, .int .i64 g, .int .i64 o, .slice au lu cu, .slice ag lg cg, .bool r, .int .i64 m, .int .i64 c] 34)) fun e w' => e = .returned (.int .i64 (k + 2 * lu + 2 * lg)) ∧ Own au lu (marks k lu) w' ∧ Own ag lg (marks (k + 2 * lu) lg) w' ∧ But2 au ag w w') := (by
    refine (markAcl_any u g o au lu cu ag lg cg r m us gs k h0 h1 hl hl2 _ (hu.below hB0) (hg.below hB0) (fun A e => by have := iu A e; have h2 := hB0.size; omega) (fun A e => by have := ig A e; have h2 := hB0.size; omega) hne).mono ?_
    rintro e w' ⟨rfl, h3, h4, h5⟩
    have hs := hB0.size
    refine ⟨rfl, h3, h4, ⟨Nat.le_trans hs h5.size, fun d hd p1 p2 => (hB0.mono hd).trans (h5.below d (by omega) p1 p2), fun b o hlt p1 p2 => ?_⟩⟩
    have h6 := h5.cell b o (by omega) p1 p2
    exact ⟨h6.1.trans (hB0.cell (p := ⟨b, o, none⟩) hlt), h6.2.trans (hB0.frozen (p := ⟨b, o, none⟩) hlt)⟩)
  clear hu hg hB0 iu ig hne
  go_enter Try.func14, Try.ntmps14
  go_wp2_with fail
  refine hc.out.mono ?_
  rintro e w1 ⟨rfl, R⟩
  have HR : Hid (Own au lu (marks k lu) w1 ∧ Own ag lg (marks (k + 2 * lu) lg) w1 ∧ But2 au ag w w1) := R
  clear R hc
  go_wp2
  go_ret
  exact ⟨rfl, HR.out⟩
set_option maxHeartbeats 4000000 in
/-- laws.heldAclOut of what mark wrote. -/
theorem heldAclOut_any (u g o : Int) (au : Option Addr) (lu cu : Nat) (ag : Option Addr) (lg cg : Nat) (r : Bool) (m c : Int) (k : Int) (h0 : 0 ≤ k) (h1 : k ≤ 100000000) (hl : lu ≤ 1048576) (hl2 : lg ≤ 1048576) (w : World)
    (hu : Own au lu (marks k lu) w) (hg : Own ag lg (marks (k + 2 * lu) lg) w) :
    Calls Try.prog 15 #[.agg #[.int .i64 u, .int .i64 g, .int .i64 o, .slice au lu cu, .slice ag lg cg, .bool r, .int .i64 m, .int .i64 c], .int .i64 k] w fun e w' => e = .returned (.int .i64 (k + 2 * lu + 2 * lg)) ∧ Below w.heap.size w w' := by
  have d2 : decide (k + 2 * (lu : Int) + 2 * (lg : Int) < 0) = false := by simp; omega
  have hc : Hid (∀ w', Below w.heap.size w w' → Calls Try.prog 33 #[.agg #[.int .i64 u, .int .i64 g, .int .i64 o, .slice au lu cu, .slice ag lg cg, .bool r, .int .i64 m], .int .i64 k] w' fun e w'' => e = .returned (.int .i64 (k + 2 * lu + 2 * lg)) ∧ Below w'.heap.size w' w'') := (fun w' hb => heldAcl_any u g o au lu cu ag lg cg r m k h0 h1 hl hl2 w' (hu.below hb) (hg.below hb))
  clear hu hg
  go_enter Try.func15, Try.ntmps15
  go_wp2_with fail
  refine (hc.out _ (bel_alloc _ _)).mono ?_
  rintro e w1 ⟨rfl, hb⟩
  have hW : Hid (Below w.heap.size w w1) := Below.on (bel_alloc _ _) hb
  clear hb hc
  go_wp2
  go_ret
  exact ⟨rfl, hW.out⟩
end Go.Proofs.Ytddkmlkfphmdoaa
