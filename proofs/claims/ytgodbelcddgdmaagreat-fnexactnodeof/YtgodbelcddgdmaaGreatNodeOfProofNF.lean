/- At every argument NodeOf answers as the specification's, field by field; it writes into no argument and its answer owns its memory; no condition. -/
import Derived.Test.YtgodbelcddgdmaaGreatNF31
import Derived.Test.YtgodbelcddgdmaaGreatNF32
import Derived.ProofKit
import Derived.OpenShut
import Derived.ShutString
import Derived.ChangeOld
namespace Go.Proofs.YtgodbelcddgdmaaGreat.fnExactNodeOf
open Go.ChangeShapes Go.WideShapes Go.ChangeAt Go.RowKit Go.Joins
open Go.ChangeMaps (open_string shut_string)
set_option linter.unusedVariables false

theorem own : ownKnob Tryz.prog.godebug = none := by kernel_rfl
theorem laidOut : laidOutB Tryz.prog = true := by kernel_rfl
theorem cellsI : Tryz.prog.cellsOf 2 = 1 := by kernel_rfl
theorem cellsT : Tryz.prog.cellsOf 24 = 2 := by kernel_rfl
theorem two_of {cs : List Value} (h : cs.length = 2) : ∃ x y, cs = [x, y] := by
  match cs, h with
  | [x, y], _ => exact ⟨x, y, rfl⟩

/-! ### The walk: the law returns true, and writes nothing that was there. -/
theorem walk (a0 : Option Addr) (l0 c0 : Nat) (xs0 : List Nd) (now0 : Int) (n1 : Int) (w : World) (ps0 : Nds a0 l0 xs0 w) (bs0 : l0 ≤ 9223372036854775807) (fs0 : ∀ i, i < l0 → NdFit 9223372036854775807 (ndAt xs0 i)) (w1 : (Lit.int .i64 n1).wf = true) :
    Calls Tryz.prog 3 #[.agg #[.slice a0 l0 c0, .int .i64 now0], .int .i64 n1] w fun e w' => e = .returned (.bool true) ∧ Below w.heap.size w w' := by
  exact nodeOf_any a0 l0 c0 xs0 now0 n1 bs0 fs0 w ps0

/-! ### The row's step -/
set_option maxRecDepth 100000 in
set_option maxHeartbeats 2000000 in
theorem lifted (os : Os) (started : os.Started) (H : Type) (enc : TypeId × Value → H) :
    ReturnsInHanded {} Tryz.checked os 3 .any (Rows.fnExactNodeOfSpec.pre6 enc Tryz.prog Tryz.f3 Rows.fnExactNodeOfRow.domain false) (Rows.fnExactNodeOfSpec.post enc Tryz.prog Tryz.f3 false true false false) := by
  refine returnsInHanded_of_change (C := Tryz.checked) own started (by kernel_rfl) Tryz.func3
    (ChangeSpec.witness6 (enc := enc) (C := Tryz.checked) false ⟨#[], #[.agg #[.slice none 0 0, .int .i64 0], .int .i64 0], []⟩ 8 (by kernel_rfl) (by kernel_rfl) (by kernel_rfl) (by kernel_rfl)) ?_
  intro W base args ds gs before hval0 hW hcnd _
  have hval : ∀ (j : Nat) t v, Tryz.f3.params[j]? = some t → args[j]? = some v → Value.okWide Tryz.prog W .any base t v := hval0
  have hW' := hW
  obtain ⟨p, q, hA0, hV, rfl, hfz, hnd⟩ := hW
  have hA : DataW.TrodAll enc Tryz.prog W 0 (fun _ => true) true Tryz.f3.params.toList args.toList ds p := hA0
  rw [Tryz.params3] at hA hval
  obtain ⟨v0, vs0, d0, ds0, p0, q0, hargs, rfl, rfl, h0, rr0⟩ := trodAll_cons hA
  obtain ⟨v1, vs1, d1, ds1, p1, q1, rfl, rfl, rfl, h1, rr1⟩ := trodAll_cons rr0
  obtain ⟨rfl, rfl, rfl⟩ := trodAll_nil rr1
  obtain rfl : args = #[v0, v1] := by cases args; simp_all
  obtain ⟨rfl, rfl⟩ := trodVars_none hV
  have k0 := h0
  have lt0 : ∀ x ∈ p0, x.block < W.heap.size := by obtain ⟨m, hm⟩ := k0; exact DataW.trod_lt m _ _ _ hm
  obtain ⟨cs0, nn0, rfl, hcl0, hcf0⟩ := open_aggN Tryz.underlying24 (by kernel_rfl) cellsT (hval 0 24 v0 rfl rfl) h0
  obtain ⟨q0a, q0b, rfl⟩ := two_of hcl0
  obtain ⟨ya0, ta0⟩ := hcf0 0 _ q0a rfl rfl
  obtain ⟨yb0, tb0⟩ := hcf0 1 _ q0b rfl rfl
  obtain ⟨a0, l0, c0, xs0, rfl, ps0, bs0, fs0⟩ := open_nds ta0
  obtain ⟨now0, en0, _, _⟩ := DataW.trod_int Tryz.underlying2 tb0
  simp at en0
  subst en0
  have k1 := h1
  have lt1 : ∀ x ∈ p1, x.block < W.heap.size := by obtain ⟨m, hm⟩ := k1; exact DataW.trod_lt m _ _ _ hm
  obtain ⟨n1, rfl, rfl, rfl, w1⟩ := open_int Tryz.underlying2 (hval 1 2 v1 rfl rfl) h1
  clear hA0 hval0
  refine (walk a0 l0 c0 xs0 now0 n1 W ps0 bs0 fs0 w1).mono fun e W' ⟨he, bel⟩ => ?_
  subst he
  exact ⟨_, rfl, _, _, _, [], _, [], hW', trodAll_mk1 (shut_bool Tryz.underlying4 _), (trodAll_cons_mk (Below.trod laidOut (by kernel_rfl) (of_decide_eq_true (by kernel_rfl)) k0 bel lt0) (trodAll_cons_mk (Below.trod laidOut (by kernel_rfl) (of_decide_eq_true (by kernel_rfl)) k1 bel lt1) trodAll_mk0)), rfl, bel.frame _, fun h => by cases h⟩

theorem over : Rows.fnExactNodeOfRow.holds Tryz.pinned (OpenSpec.ofChange Rows.fnExactNodeOfSpec) :=
  OpenClaim.holds_of_wide 3 Tryz.f3 rfl rfl rfl rfl rfl rfl rfl ⟨rfl, rfl, rfl, rfl, rfl⟩ rfl rfl rfl rfl rfl (by kernel_rfl) Tryz.func3 (by kernel_rfl)
    (of_decide_eq_true (by kernel_rfl)) (by unfold Func.isWrapper; first | (rw [if_pos (by decide +kernel)]; kernel_rfl) | (rw [if_neg (by decide +kernel)]; exact ⟨rfl, rfl⟩))
    (fun os started H enc _ => lifted os started H enc)

theorem proved : Rows.FnExactNodeOfSaid := over
end Go.Proofs.YtgodbelcddgdmaaGreat.fnExactNodeOf
namespace Go.Proofs.YtgodbelcddgdmaaGreat
theorem fnExactNodeOf_holds : Rows.FnExactNodeOfSaid := fnExactNodeOf.proved
end Go.Proofs.YtgodbelcddgdmaaGreat
