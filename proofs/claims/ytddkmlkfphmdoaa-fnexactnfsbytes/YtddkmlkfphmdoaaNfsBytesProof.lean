/- The law FnExactNfsBytes holds: of every list in order both sides write the same bytes; no condition. -/
import Derived.Test.YtddkmlkfphmdoaaRows
import Derived.WalkKit
import Derived.Test.YtddkmlkfphmdoaaNfsBytesLaw
import Derived.WalkSpells
import Derived.WalkLawsBesides
import Derived.ProofKit
import Derived.OpenShut
import Derived.ShutString
import Derived.ChangeOld
import Derived.Below
import Derived.Lib.SmallJoins
namespace Go.Proofs.Ytddkmlkfphmdoaa.fnExactNfsBytes
open Go.ChangeShapes Go.WideShapes Go.ChangeAt Go.RowKit Go.Joins
open Go.ChangeMaps (open_string shut_string)
set_option linter.unusedVariables false

theorem own : ownKnob Try.prog.godebug = none := by kernel_rfl
theorem laidOut : laidOutB Try.prog = true := by kernel_rfl
theorem cellsI : Try.prog.cellsOf 2 = 1 := by kernel_rfl
theorem cellsX : Try.prog.cellsOf 67 = 5 := by kernel_rfl
theorem cellsB : Try.prog.cellsOf 4 = 1 := by kernel_rfl

/-! ### The walk: the law returns true, and writes nothing that was there. -/
theorem walk (a0 : Option Addr) (l0 c0 : Nat) (xs0 : List Ac) (w : World) (ps0 : Acs a0 l0 xs0 w) (bs0 : l0 ≤ 9223372036854775807) :
    Calls Try.prog 5 #[.slice a0 l0 c0] w fun e w' => e = .returned (.bool true) ∧ Below w.heap.size w w' := by
  by_cases hl : l0 ≤ 1048576
  · exact nfsBytes_short a0 l0 c0 xs0 hl w ps0
  · exact nfsBytes_long a0 l0 c0 hl bs0 w

/-! ### The row's step -/
set_option maxRecDepth 100000 in
set_option maxHeartbeats 2000000 in
theorem lifted (os : Os) (started : os.Started) (H : Type) (enc : TypeId × Value → H) :
    ReturnsInHanded {} Try.checked os 5 .any (Rows.fnExactNfsBytesSpec.pre6 enc Try.prog Try.f5 Rows.fnExactNfsBytesRow.domain false) (Rows.fnExactNfsBytesSpec.post enc Try.prog Try.f5 false true false false) := by
  refine returnsInHanded_of_change (C := Try.checked) own started (by kernel_rfl) Try.func5
    (ChangeSpec.witness6 (enc := enc) (C := Try.checked) false ⟨#[], #[.slice none 0 0], []⟩ 8 (by kernel_rfl) (by kernel_rfl) (by kernel_rfl) (by kernel_rfl)) ?_
  intro W base args ds gs before hval0 hW hcnd _
  have hval : ∀ (j : Nat) t v, Try.f5.params[j]? = some t → args[j]? = some v → Value.okWide Try.prog W .any base t v := hval0
  have hW' := hW
  obtain ⟨p, q, hA0, hV, rfl, hfz, hnd⟩ := hW
  have hA : DataW.TrodAll enc Try.prog W 0 (fun _ => true) true Try.f5.params.toList args.toList ds p := hA0
  rw [Try.params5] at hA hval
  obtain ⟨v0, vs0, d0, ds0, p0, q0, hargs, rfl, rfl, h0, rr0⟩ := trodAll_cons hA
  obtain ⟨rfl, rfl, rfl⟩ := trodAll_nil rr0
  obtain rfl : args = #[v0] := by cases args; simp_all
  obtain ⟨rfl, rfl⟩ := trodVars_none hV
  have k0 := h0
  have lt0 : ∀ x ∈ p0, x.block < W.heap.size := by obtain ⟨m, hm⟩ := k0; exact DataW.trod_lt m _ _ _ hm
  obtain ⟨za0, zl0, zc0, rfl⟩ := okWide_slice Try.underlying39 (hval 0 39 v0 rfl rfl)
  obtain ⟨a0, l0, c0, xs0, es0, ps0, bs0⟩ : ∃ (a : Option Addr) (len cap : Nat) (l : List Ac), Value.slice za0 zl0 zc0 = .slice a len cap ∧ Acs a len l W ∧ len ≤ maxLen := by
    obtain ⟨mm, hmm⟩ := h0
    exact open_aces Try.underlying39 Try.underlying67 cellsX rfl rfl rfl rfl rfl cellsB cellsI cellsI cellsI cellsI Try.underlying4 Try.underlying2 Try.underlying2 Try.underlying2 Try.underlying2 hmm
  obtain ⟨rfl, rfl, rfl⟩ := Value.slice.inj es0
  unfold maxLen at bs0
  clear hA0 hval0
  refine (walk za0 zl0 zc0 xs0 W ps0 bs0).mono fun e W' ⟨he, bel⟩ => ?_
  subst he
  exact ⟨_, rfl, _, _, _, [], _, [], hW', trodAll_mk1 (shut_bool Try.underlying4 _), (trodAll_cons_mk (Below.trod laidOut (by kernel_rfl) (of_decide_eq_true (by kernel_rfl)) k0 bel lt0) trodAll_mk0), rfl, bel.frame _, fun h => by cases h⟩

theorem over : Rows.fnExactNfsBytesRow.holds Try.pinned (OpenSpec.ofChange Rows.fnExactNfsBytesSpec) :=
  OpenClaim.holds_of_wide 5 Try.f5 rfl rfl rfl rfl rfl rfl rfl ⟨rfl, rfl, rfl, rfl, rfl⟩ rfl rfl rfl rfl rfl (by kernel_rfl) Try.func5 (by kernel_rfl)
    (of_decide_eq_true (by kernel_rfl)) (by unfold Func.isWrapper; first | (rw [if_pos (by decide +kernel)]; kernel_rfl) | (rw [if_neg (by decide +kernel)]; exact ⟨rfl, rfl⟩))
    (fun os started H enc _ => lifted os started H enc)

theorem proved : Rows.FnExactNfsBytesSaid := over
end Go.Proofs.Ytddkmlkfphmdoaa.fnExactNfsBytes
namespace Go.Proofs.Ytddkmlkfphmdoaa
theorem fnExactNfsBytes_holds : Rows.FnExactNfsBytesSaid := fnExactNfsBytes.proved
end Go.Proofs.Ytddkmlkfphmdoaa
