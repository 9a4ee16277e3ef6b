/- The law FnExactAclBytes holds: of every list of names both sides write the same bytes; no condition. -/
import Derived.Test.YtddkmlkfphmdoaaRows
import Derived.WalkKit
import Derived.Test.YtddkmlkfphmdoaaAclBytesLaw
import Derived.WalkSpells
import Derived.WalkLawsBesides
import Derived.ProofKit
import Derived.OpenShut
import Derived.ShutString
import Derived.ChangeOld
import Derived.Below
import Derived.Lib.SmallJoins
namespace Go.Proofs.Ytddkmlkfphmdoaa.fnExactAclBytes
open Go.ChangeShapes Go.WideShapes Go.ChangeAt Go.RowKit Go.Joins
open Go.ChangeMaps (open_string shut_string)
set_option linter.unusedVariables false

theorem own : ownKnob Try.prog.godebug = none := by kernel_rfl
theorem laidOut : laidOutB Try.prog = true := by kernel_rfl
theorem cellsI : Try.prog.cellsOf 2 = 1 := by kernel_rfl
theorem cellsA : Try.prog.cellsOf 24 = 7 := by kernel_rfl

/-! ### The walk: the law returns true, and writes nothing that was there. -/
theorem walk (u0 g0 o0 : Int) (au0 : Option Addr) (lu0 cu0 : Nat) (ag0 : Option Addr) (lg0 cg0 : Nat) (r0 : Bool) (m0 : Int) (us0 gs0 : List (Int × Int)) (w : World) (pu0 : Prs au0 lu0 us0 w) (pg0 : Prs ag0 lg0 gs0 w) (bu0 : lu0 ≤ 9223372036854775807) (bg0 : lg0 ≤ 9223372036854775807) :
    Calls Try.prog 3 #[.agg #[.int .i64 u0, .int .i64 g0, .int .i64 o0, .slice au0 lu0 cu0, .slice ag0 lg0 cg0, .bool r0, .int .i64 m0]] w fun e w' => e = .returned (.bool true) ∧ Below w.heap.size w w' := by
  by_cases hl : lu0 + lg0 ≤ 1048576
  · exact aclBytes_short u0 g0 o0 au0 lu0 cu0 ag0 lg0 cg0 r0 m0 us0 gs0 hl w pu0 pg0
  · exact aclBytes_long u0 g0 o0 au0 lu0 cu0 ag0 lg0 cg0 r0 m0 hl bu0 bg0 w

/-! ### The row's step -/
set_option maxRecDepth 100000 in
set_option maxHeartbeats 2000000 in
theorem lifted (os : Os) (started : os.Started) (H : Type) (enc : TypeId × Value → H) :
    ReturnsInHanded {} Try.checked os 3 .any (Rows.fnExactAclBytesSpec.pre6 enc Try.prog Try.f3 Rows.fnExactAclBytesRow.domain false) (Rows.fnExactAclBytesSpec.post enc Try.prog Try.f3 false true false false) := by
  refine returnsInHanded_of_change (C := Try.checked) own started (by kernel_rfl) Try.func3
    (ChangeSpec.witness6 (enc := enc) (C := Try.checked) false ⟨#[], #[.agg #[.int .i64 0, .int .i64 0, .int .i64 0, .slice none 0 0, .slice none 0 0, .bool false, .int .i64 0]], []⟩ 8 (by kernel_rfl) (by kernel_rfl) (by kernel_rfl) (by kernel_rfl)) ?_
  intro W base args ds gs before hval0 hW hcnd _
  have hval : ∀ (j : Nat) t v, Try.f3.params[j]? = some t → args[j]? = some v → Value.okWide Try.prog W .any base t v := hval0
  have hW' := hW
  obtain ⟨p, q, hA0, hV, rfl, hfz, hnd⟩ := hW
  have hA : DataW.TrodAll enc Try.prog W 0 (fun _ => true) true Try.f3.params.toList args.toList ds p := hA0
  rw [Try.params3] at hA hval
  obtain ⟨v0, vs0, d0, ds0, p0, q0, hargs, rfl, rfl, h0, rr0⟩ := trodAll_cons hA
  obtain ⟨rfl, rfl, rfl⟩ := trodAll_nil rr0
  obtain rfl : args = #[v0] := by cases args; simp_all
  obtain ⟨rfl, rfl⟩ := trodVars_none hV
  have k0 := h0
  have lt0 : ∀ x ∈ p0, x.block < W.heap.size := by obtain ⟨m, hm⟩ := k0; exact DataW.trod_lt m _ _ _ hm
  obtain ⟨u0, g0, o0, au0, lu0, cu0, ag0, lg0, cg0, r0, m0, us0, gs0, rfl, pu0, pg0, bu0, bg0⟩ := open_acl Try.underlying24 (by kernel_rfl) cellsA Try.underlying2 Try.underlying2 Try.underlying2 Try.underlying22 Try.underlying22 Try.underlying4 Try.underlying2 Try.underlying75 (by kernel_rfl) rfl rfl cellsI cellsI Try.underlying2 Try.underlying2 (hval 0 24 v0 rfl rfl) h0
  unfold maxLen at bu0 bg0
  clear hA0 hval0
  refine (walk u0 g0 o0 au0 lu0 cu0 ag0 lg0 cg0 r0 m0 us0 gs0 W pu0 pg0 bu0 bg0).mono fun e W' ⟨he, bel⟩ => ?_
  subst he
  exact ⟨_, rfl, _, _, _, [], _, [], hW', trodAll_mk1 (shut_bool Try.underlying4 _), (trodAll_cons_mk (Below.trod laidOut (by kernel_rfl) (of_decide_eq_true (by kernel_rfl)) k0 bel lt0) trodAll_mk0), rfl, bel.frame _, fun h => by cases h⟩

theorem over : Rows.fnExactAclBytesRow.holds Try.pinned (OpenSpec.ofChange Rows.fnExactAclBytesSpec) :=
  OpenClaim.holds_of_wide 3 Try.f3 rfl rfl rfl rfl rfl rfl rfl ⟨rfl, rfl, rfl, rfl, rfl⟩ rfl rfl rfl rfl rfl (by kernel_rfl) Try.func3 (by kernel_rfl)
    (of_decide_eq_true (by kernel_rfl)) (by unfold Func.isWrapper; first | (rw [if_pos (by decide +kernel)]; kernel_rfl) | (rw [if_neg (by decide +kernel)]; exact ⟨rfl, rfl⟩))
    (fun os started H enc _ => lifted os started H enc)

theorem proved : Rows.FnExactAclBytesSaid := over
end Go.Proofs.Ytddkmlkfphmdoaa.fnExactAclBytes
namespace Go.Proofs.Ytddkmlkfphmdoaa
theorem fnExactAclBytes_holds : Rows.FnExactAclBytesSaid := fnExactAclBytes.proved
end Go.Proofs.Ytddkmlkfphmdoaa
