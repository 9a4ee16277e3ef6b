/- AclBorn answers as the document asks, of every list of names and every number. -/
import Derived.Test.YtfjnabiboboipaiRows
import Derived.WalkKit
import Derived.Test.YtfjnabiboboipaiAclBornLaw
import Derived.WalkSpells
import Derived.WalkLawsBesides
import Derived.ProofKit
import Derived.OpenShut
import Derived.ShutString
import Derived.ChangeOld
import Derived.Below
import Derived.Lib.SmallJoins
namespace Go.Proofs.Ytfjnabiboboipai.fnExactAclBorn
open Go.ChangeShapes Go.WideShapes Go.ChangeAt Go.RowKit Go.Joins
open Go.ChangeMaps (open_string shut_string)
set_option linter.unusedVariables false

theorem own : ownKnob Try.prog.godebug = none := by kernel_rfl
theorem laidOut : laidOutB Try.prog = true := by kernel_rfl
theorem cellsI : Try.prog.cellsOf 2 = 1 := by kernel_rfl
theorem cellsA : Try.prog.cellsOf 24 = 7 := by kernel_rfl

/-! ### The walk: the law returns true, and writes nothing that was there. -/
theorem walk (u0 g0 o0 : Int) (au0 : Option Addr) (lu0 cu0 : Nat) (ag0 : Option Addr) (lg0 cg0 : Nat) (r0 : Bool) (m0 : Int) (us0 gs0 : List (Int × Int)) (n1 : Int) (w : World) (pu0 : Prs au0 lu0 us0 w) (pg0 : Prs ag0 lg0 gs0 w) (bu0 : lu0 ≤ 9223372036854775807) (bg0 : lg0 ≤ 9223372036854775807) (w1 : (Lit.int .i64 n1).wf = true) :
    Calls Try.prog 7 #[.agg #[.int .i64 u0, .int .i64 g0, .int .i64 o0, .slice au0 lu0 cu0, .slice ag0 lg0 cg0, .bool r0, .int .i64 m0], .int .i64 n1] w fun e w' => e = .returned (.bool true) ∧ Below w.heap.size w w' := by
  by_cases hl : lu0 + lg0 ≤ 1048576
  · exact aclBorn_short u0 g0 o0 au0 lu0 cu0 ag0 lg0 cg0 r0 m0 us0 gs0 n1 hl w pu0 pg0
  · exact aclBorn_long u0 g0 o0 au0 lu0 cu0 ag0 lg0 cg0 r0 m0 n1 hl bu0 bg0 w

/-! ### The row's step -/
set_option maxRecDepth 100000 in
set_option maxHeartbeats 2000000 in
theorem lifted (os : Os) (started : os.Started) (H : Type) (enc : TypeId × Value → H) :
    ReturnsInHanded {} Try.checked os 7 .any (Rows.fnExactAclBornSpec.pre6 enc Try.prog Try.f7 Rows.fnExactAclBornRow.domain false) (Rows.fnExactAclBornSpec.post enc Try.prog Try.f7 false true false false) := by
  refine returnsInHanded_of_change (C := Try.checked) own started (by kernel_rfl) Try.func7
    (ChangeSpec.witness6 (enc := enc) (C := Try.checked) false ⟨#[], #[.agg #[.int .i64 0, .int .i64 0, .int .i64 0, .slice none 0 0, .slice none 0 0, .bool false, .int .i64 0], .int .i64 0], []⟩ 8 (by kernel_rfl) (by kernel_rfl) (by kernel_rfl) (by kernel_rfl)) ?_
  intro W base args ds gs before hval0 hW hcnd _
  have hval : ∀ (j : Nat) t v, Try.f7.params[j]? = some t → args[j]? = some v → Value.okWide Try.prog W .any base t v := hval0
  have hW' := hW
  obtain ⟨p, q, hA0, hV, rfl, hfz, hnd⟩ := hW
  have hA : DataW.TrodAll enc Try.prog W 0 (fun _ => true) true Try.f7.params.toList args.toList ds p := hA0
  rw [Try.params7] at hA hval
  obtain ⟨v0, vs0, d0, ds0, p0, q0, hargs, rfl, rfl, h0, rr0⟩ := trodAll_cons hA
  obtain ⟨v1, vs1, d1, ds1, p1, q1, rfl, rfl, rfl, h1, rr1⟩ := trodAll_cons rr0
  obtain ⟨rfl, rfl, rfl⟩ := trodAll_nil rr1
  obtain rfl : args = #[v0, v1] := by cases args; simp_all
  obtain ⟨rfl, rfl⟩ := trodVars_none hV
  have k0 := h0
  have lt0 : ∀ x ∈ p0, x.block < W.heap.size := by obtain ⟨m, hm⟩ := k0; exact DataW.trod_lt m _ _ _ hm
  obtain ⟨u0, g0, o0, au0, lu0, cu0, ag0, lg0, cg0, r0, m0, us0, gs0, rfl, pu0, pg0, bu0, bg0⟩ := open_acl Try.underlying24 (by kernel_rfl) cellsA Try.underlying2 Try.underlying2 Try.underlying2 Try.underlying22 Try.underlying22 Try.underlying4 Try.underlying2 Try.underlying81 (by kernel_rfl) rfl rfl cellsI cellsI Try.underlying2 Try.underlying2 (hval 0 24 v0 rfl rfl) h0
  unfold maxLen at bu0 bg0
  have k1 := h1
  have lt1 : ∀ x ∈ p1, x.block < W.heap.size := by obtain ⟨m, hm⟩ := k1; exact DataW.trod_lt m _ _ _ hm
  obtain ⟨n1, rfl, rfl, rfl, w1⟩ := open_int Try.underlying2 (hval 1 2 v1 rfl rfl) h1
  clear hA0 hval0
  refine (walk u0 g0 o0 au0 lu0 cu0 ag0 lg0 cg0 r0 m0 us0 gs0 n1 W pu0 pg0 bu0 bg0 w1).mono fun e W' ⟨he, bel⟩ => ?_
  subst he
  exact ⟨_, rfl, _, _, _, [], _, [], hW', trodAll_mk1 (shut_bool Try.underlying4 _), (trodAll_cons_mk (Below.trod laidOut (by kernel_rfl) (of_decide_eq_true (by kernel_rfl)) k0 bel lt0) (trodAll_cons_mk (Below.trod laidOut (by kernel_rfl) (of_decide_eq_true (by kernel_rfl)) k1 bel lt1) trodAll_mk0)), rfl, bel.frame _, fun h => by cases h⟩

theorem over : Rows.fnExactAclBornRow.holds Try.pinned (OpenSpec.ofChange Rows.fnExactAclBornSpec) :=
  OpenClaim.holds_of_wide 7 Try.f7 rfl rfl rfl rfl rfl rfl rfl ⟨rfl, rfl, rfl, rfl, rfl⟩ rfl rfl rfl rfl rfl (by kernel_rfl) Try.func7 (by kernel_rfl)
    (of_decide_eq_true (by kernel_rfl)) (by unfold Func.isWrapper; first | (rw [if_pos (by decide +kernel)]; kernel_rfl) | (rw [if_neg (by decide +kernel)]; exact ⟨rfl, rfl⟩))
    (fun os started H enc _ => lifted os started H enc)

theorem proved : Rows.FnExactAclBornSaid := over
end Go.Proofs.Ytfjnabiboboipai.fnExactAclBorn
namespace Go.Proofs.Ytfjnabiboboipai
theorem fnExactAclBorn_holds : Rows.FnExactAclBornSaid := fnExactAclBorn.proved
end Go.Proofs.Ytfjnabiboboipai
