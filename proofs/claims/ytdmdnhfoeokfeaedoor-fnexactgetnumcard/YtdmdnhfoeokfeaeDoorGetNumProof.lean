/- Proved: at every text and place, impl.GetNum answers as the specification's GetNum (the exact law FnExactGetNum returns true and leaves its arguments as they were), where errors.errorType holds what the program's text lays there (the card ties it). -/
import Derived.Test.YtdmdnhfoeokfeaeDoorRows
import Derived.WalkKit
import Derived.Test.YtdmdnhfoeokfeaeDoorLaid
import Derived.Test.YtdmdnhfoeokfeaeDoorTie
import Derived.Test.YtdmdnhfoeokfeaeDoorCards
import Derived.SevenTiedAt
import Derived.Test.YtdmdnhfoeokfeaeDoorGetNumWalks
import Derived.Test.YtdmdnhfoeokfeaeDoorSGetNum
import Derived.Test.YtdmdnhfoeokfeaeDoorEqNum
import Derived.WalkSpells
import Derived.WalkLawsBesides
import Derived.Below
import Derived.ProofKit
import Derived.OpenShut
import Derived.ShutString
namespace Go.Proofs.YtdmdnhfoeokfeaeDoor.fnExactGetNum
open Go.ChangeShapes Go.WideShapes Go.ChangeAt Go.RowKit
open Go.ChangeMaps (open_string shut_string)
set_option linter.unusedVariables false      -- a walk need not use every 'w<i>' (that an integer argument fits its kind)

theorem own : ownKnob Tryd.prog.godebug = none := by kernel_rfl

/-! ### STEP 1: THE WALK: the Go text returns true. the world is as it was below its old size. -/
theorem walk (a0 : ByteArray) (a1 : Int) (w0 : a0.size ≤ maxLen) (w1 : (Lit.int .i64 a1).wf = true) (w : World) (he : ErrT w) :
    Calls Tryd.prog 3 #[.string a0, .int .i64 a1] w fun e w' => e = .returned (.bool true) ∧ Below w.heap.size w w' := by
  have bd := bounds_i64 w1
  have hw0 : Hid (a0.size ≤ maxLen) := w0
  have hS : Hid (∀ w, Calls Tryd.prog 5 #[.string a0, .int .i64 a1] w fun e w' => e = .returned (numV (getN a0 a1)) ∧ Below w.heap.size w w') := sGetNum_any a0 a1 hw0.out bd.2
  have hI : Hid (∀ w, ErrT w → Calls Tryd.prog 6 #[.string a0, .int .i64 a1] w fun e w' => e = .returned (numV (getN a0 a1)) ∧ Below w.heap.size w w') := fun w he => iGetNum_any a0 a1 hw0.out bd.2 w he
  have HE : Hid (ErrT w) := he
  clear he
  generalize getN a0 a1 = r at hS hI
  obtain ⟨n, a, c⟩ := r
  have hS2 : Hid (∀ w, Calls Tryd.prog 5 #[.string a0, .int .i64 a1] w fun e w' => e = .returned (.agg #[.int .i64 n, .int .i64 a, .int .i64 c]) ∧ Below w.heap.size w w') := hS
  have hI2 : Hid (∀ w, ErrT w → Calls Tryd.prog 6 #[.string a0, .int .i64 a1] w fun e w' => e = .returned (.agg #[.int .i64 n, .int .i64 a, .int .i64 c]) ∧ Below w.heap.size w w') := hI
  clear hS hI
  unfold maxLen at w0
  by_cases hbig : 1048576 < (a0.size : Int)
  · go_enter Tryd.func3, Tryd.ntmps3
    go_wp2
    go_ret
    exact ⟨rfl, Below.refl _ _⟩
  · go_enter Tryd.func3, Tryd.ntmps3
    go_wp2_with (first | (go_at_call 5; refine (hS2.out _).mono ?_; rintro e w1 ⟨rfl, hb1⟩) | (go_at_call 6; refine (hI2.out _ (errT_alloc (HE.out.below hb1) _ _)).mono ?_; rintro e w2 ⟨rfl, hb2⟩; obtain ⟨hc2, hf2⟩ := bl_cell hb2; have hz2 := bl_size hb2) | (go_at_call 7; refine (eqNumOut_same _ _ _ _).mono ?_; rintro e w3 ⟨rfl, hb3⟩))
    go_ret
    exact ⟨rfl, bl_then hb1 (bl_then (bl_over hb2) (bl_over hb3))⟩

/-! ### THE ROW's STEP: WRITTEN OUT: LEAVE IT -/
set_option maxRecDepth 100000 in
theorem lifted (os : Os) (started : os.Started) (H : Type) (enc : TypeId × Value → H) :
    ReturnsInHanded {} Tryd.checked os 3 .any (fun w args => (Rows.fnExactGetNumSpec.pre enc Tryd.prog Tryd.f3 [] false w args ∧ laidMetH Tryd.prog laidL w) ∧ sizedMet enc Tryd.prog Tryd.f3 (OpenSpec.ofChange Rows.fnExactGetNumSpec) false w args) (Rows.fnExactGetNumSpec.post enc Tryd.prog Tryd.f3 false true false false) := by
  refine returnsInHanded_of_change_and (C := Tryd.checked) (X := fun w _ => laidMetH Tryd.prog laidL w) (fun _ _ _ hh h => h.of_heap hh) own started (by kernel_rfl) Tryd.func3
    (ChangeSpec.witness_at (enc := enc) (C := Tryd.checked) (os := os) (X := fun w _ => laidMetH Tryd.prog laidL w) false (laidWorld os) #[.string ByteArray.empty, .int .i64 0] 8 rfl (by kernel_rfl) (by kernel_rfl) (by kernel_rfl) (by kernel_rfl) (by kernel_rfl) (laidWorld_met os _)) ?_
  intro W base args ds gs before hval0 hW hcnd _ hL _
  have hval : ∀ (j : Nat) t v, Tryd.f3.params[j]? = some t → args[j]? = some v → Value.okWide Tryd.prog W .any base t v := hval0
  have hW' := hW
  obtain ⟨p, q, hA0, hV, rfl, hfz, hnd⟩ := hW
  have hA : DataW.TrodAll enc Tryd.prog W 0 (fun _ => true) true Tryd.f3.params.toList args.toList ds p := hA0
  rw [Tryd.params3] at hA hval
  obtain ⟨v0, vs0, d0, ds0, p0, q0, hargs, rfl, rfl, h0, r0⟩ := trodAll_cons hA
  obtain ⟨v1, vs1, d1, ds1, p1, q1, rfl, rfl, rfl, h1, r1⟩ := trodAll_cons r0
  obtain ⟨rfl, rfl, rfl⟩ := trodAll_nil r1
  obtain rfl : args = #[v0, v1] := by cases args; simp_all
  obtain ⟨rfl, rfl⟩ := trodVars_none hV
  obtain ⟨a0, rfl, rfl, rfl, w0⟩ := open_string Tryd.underlying9 (hval 0 9 v0 rfl rfl) h0
  obtain ⟨a1, rfl, rfl, rfl, w1⟩ := open_int Tryd.underlying2 (hval 1 2 v1 rfl rfl) h1
  clear hA0 hval0
  simp only [List.append_nil] at hW'
  refine (walk a0 a1 w0 w1 W (handle_of_laid hL)).mono fun e W' ⟨he, hg⟩ => ?_
  subst he
  exact ⟨_, rfl, _, _, _, [], [], [], hW', (trodAll_cons_mk (shut_bool Tryd.underlying4 _) trodAll_mk0), (trodAll_cons_mk (shut_string Tryd.underlying9 w0) (trodAll_cons_mk (shut_int Tryd.underlying2 w1) trodAll_mk0)), rfl, hg.frame _, fun h => by cases h⟩

theorem over : Rows.fnExactGetNumRow.holds Tryd.pinned (OpenSpec.ofChange Rows.fnExactGetNumSpec) :=
  OpenClaim.holds_of_wide 3 Tryd.f3 rfl rfl rfl rfl rfl rfl rfl ⟨rfl, rfl, rfl, rfl, rfl⟩ rfl rfl rfl rfl rfl (by kernel_rfl) Tryd.func3 (by kernel_rfl)
    (of_decide_eq_true (by kernel_rfl)) (by unfold Func.isWrapper; first | (rw [if_pos (by decide +kernel)]; kernel_rfl) | (rw [if_neg (by decide +kernel)]; exact ⟨rfl, rfl⟩))
    (fun os started H enc _ => lifted os started H enc)

/-- ████ THE STATEMENT ████ -/
theorem proved : Rows.FnExactGetNumSaid :=
  over
end Go.Proofs.YtdmdnhfoeokfeaeDoor.fnExactGetNum
namespace Go.Proofs.YtdmdnhfoeokfeaeDoor
theorem fnExactGetNum_row : Rows.FnExactGetNumSaid := fnExactGetNum.proved
theorem fnExactGetNum_holds : Rows.FnExactGetNumCardSaid :=
  Claim7.holds_tied_plain_at .later [] [.handle] true (true, "b94e5542a42e4326769bd98330a7b0f4cd4dd1a4b1be007255e54b236f0b2601") true
    fnExactGetNum_row (fun _ h => by cases h) (by kernel_rfl) (fun _ h => by cases h) fnExactGetNum_row_tie rfl ⟨rfl, rfl⟩ (by kernel_rfl) rfl
    (fun f fn hf hfn => by
      obtain rfl : f = 3 := Option.some.inj ((show Tryd.prog.funcNamed "loop.example/g00622/laws.FnExactGetNum" = some 3 by kernel_rfl).symm.trans hf) |>.symm
      obtain rfl : fn = Tryd.f3 := (Option.some.inj (Tryd.func3.symm.trans hfn)).symm
      exact ⟨by kernel_rfl, fun j t ht => by
        rw [Tryd.params3] at ht
        rcases j with _ | j
        · have h3 : t = 9 := by simpa using ht.symm
          subst h3
          exact (show Tryd.prog.wantsStandIn 9 = false by kernel_rfl)
        · rcases j with _ | j
          · have h3 : t = 2 := by simpa using ht.symm
            subst h3
            exact (show Tryd.prog.wantsStandIn 2 = false by kernel_rfl)
          · simp at ht⟩)
    (by kernel_rfl)
end Go.Proofs.YtdmdnhfoeokfeaeDoor
