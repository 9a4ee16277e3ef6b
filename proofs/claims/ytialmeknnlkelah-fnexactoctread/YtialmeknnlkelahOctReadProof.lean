/- At every text of at most 2^20 bytes the program's OctRead answers as the specification's, every field (of a longer text the law asks nothing). No condition. -/
import Derived.Test.YtialmeknnlkelahRows
import Derived.WalkKit
import Derived.Test.YtialmeknnlkelahWhole
import Derived.Test.YtialmeknnlkelahSOctRead
import Derived.Test.YtialmeknnlkelahEqNum
import Derived.ProofKit
import Derived.OpenShut
import Derived.ShutString
namespace Go.Proofs.Ytialmeknnlkelah.fnExactOctRead
open Go.ChangeShapes Go.WideShapes Go.ChangeAt Go.RowKit
open Go.ChangeMaps (open_string shut_string)
set_option linter.unusedVariables false      -- a walk need not use every 'w<i>' (that an integer argument fits its kind)

theorem own : ownKnob Try.prog.godebug = none := by kernel_rfl

/-! ### STEP 1: THE WALK: the Go text returns true. the world is as it was below its old size. -/
theorem walk (a0 : ByteArray) (w0 : a0.size ≤ maxLen) (w : World) :
    Calls Try.prog 4 #[.string a0] w fun e w' => e = .returned (.bool true) ∧ Below w.heap.size w w' := by
  have hS : Hid (∀ w, Calls Try.prog 7 #[.string a0] w fun e w' => e = .returned (.agg #[.int .i64 (whN a0 (rdO a0)), .int .i64 0, .int .i64 (whC a0 (rdO a0))]) ∧ Below w.heap.size w w') := sOctRead_any a0
  have hI : Hid (∀ w, Calls Try.prog 8 #[.string a0] w fun e w' => e = .returned (.agg #[.int .i64 (whN a0 (rdO a0)), .int .i64 0, .int .i64 (whC a0 (rdO a0))]) ∧ Below w.heap.size w w') := iOctRead_any a0
  generalize whN a0 (rdO a0) = n, whC a0 (rdO a0) = c at hS hI
  unfold maxLen at w0
  by_cases hbig : 1048576 < (a0.size : Int)
  · go_enter Try.func4, Try.ntmps4
    go_wp2
    go_ret
    exact ⟨rfl, Below.refl _ _⟩
  · go_enter Try.func4, Try.ntmps4
    go_wp2_with (first | (go_at_call 7; refine (hS.out _).mono ?_; rintro e w1 ⟨rfl, hb1⟩) | (go_at_call 8; refine (hI.out _).mono ?_; rintro e w2 ⟨rfl, hb2⟩; obtain ⟨hc2, hf2⟩ := bl_cellW hb2; have hz2 := bl_sizeW hb2) | (go_at_call 9; refine (eqNumOut_same _ _ _ _).mono ?_; rintro e w3 ⟨rfl, hb3⟩))
    go_ret
    exact ⟨rfl, bl_thenW hb1 (bl_thenW (bl_overW hb2) (bl_overW hb3))⟩

/-! ### THE ROW's STEP: WRITTEN OUT: LEAVE IT -/
set_option maxRecDepth 100000 in
theorem lifted (os : Os) (started : os.Started) (H : Type) (enc : TypeId × Value → H) :
    ReturnsInHanded {} Try.checked os 4 .any (Rows.fnExactOctReadSpec.pre6 enc Try.prog Try.f4 Rows.fnExactOctReadRow.domain false) (Rows.fnExactOctReadSpec.post enc Try.prog Try.f4 false true false false) := by
  refine returnsInHanded_of_change (C := Try.checked) own started (by kernel_rfl) Try.func4
    (ChangeSpec.witness6 (enc := enc) (C := Try.checked) false ⟨#[], #[.string ByteArray.empty], []⟩ 8 (by kernel_rfl) (by kernel_rfl) (by kernel_rfl) (by kernel_rfl)) ?_
  intro W base args ds gs before hval0 hW hcnd _
  have hval : ∀ (j : Nat) t v, Try.f4.params[j]? = some t → args[j]? = some v → Value.okWide Try.prog W .any base t v := hval0
  have hW' := hW
  obtain ⟨p, q, hA0, hV, rfl, hfz, hnd⟩ := hW
  have hA : DataW.TrodAll enc Try.prog W 0 (fun _ => true) true Try.f4.params.toList args.toList ds p := hA0
  rw [Try.params4] at hA hval
  obtain ⟨v0, vs0, d0, ds0, p0, q0, hargs, rfl, rfl, h0, r0⟩ := trodAll_cons hA
  obtain ⟨rfl, rfl, rfl⟩ := trodAll_nil r0
  obtain rfl : args = #[v0] := by cases args; simp_all
  obtain ⟨rfl, rfl⟩ := trodVars_none hV
  obtain ⟨a0, rfl, rfl, rfl, w0⟩ := open_string Try.underlying9 (hval 0 9 v0 rfl rfl) h0
  clear hA0 hval0
  simp only [List.append_nil] at hW'
  refine (walk a0 w0 W).mono fun e W' ⟨he, hg⟩ => ?_
  subst he
  exact ⟨_, rfl, _, _, _, [], [], [], hW', (trodAll_cons_mk (shut_bool Try.underlying4 _) trodAll_mk0), (trodAll_cons_mk (shut_string Try.underlying9 w0) trodAll_mk0), rfl, hg.frame _, fun h => by cases h⟩

theorem over : Rows.fnExactOctReadRow.holds Try.pinned (OpenSpec.ofChange Rows.fnExactOctReadSpec) :=
  OpenClaim.holds_of_wide 4 Try.f4 rfl rfl rfl rfl rfl rfl rfl ⟨rfl, rfl, rfl, rfl, rfl⟩ rfl rfl rfl rfl rfl (by kernel_rfl) Try.func4 (by kernel_rfl)
    (of_decide_eq_true (by kernel_rfl)) (by unfold Func.isWrapper; first | (rw [if_pos (by decide +kernel)]; kernel_rfl) | (rw [if_neg (by decide +kernel)]; exact ⟨rfl, rfl⟩))
    (fun os started H enc _ => lifted os started H enc)

/-- ████ THE STATEMENT ████ -/
theorem proved : Rows.FnExactOctReadSaid :=
  over
end Go.Proofs.Ytialmeknnlkelah.fnExactOctRead
namespace Go.Proofs.Ytialmeknnlkelah
theorem fnExactOctRead_holds : Rows.FnExactOctReadSaid := fnExactOctRead.proved
end Go.Proofs.Ytialmeknnlkelah
