/- At every text of at most 2^20 bytes the program's ModeRead answers as the specification's, every field (of a longer text the law asks nothing), where the variable impl.places holds what its own text lays (the card ties it). -/
import Derived.Test.YtialmeknnlkelahDoorRows
import Derived.WalkKit
import Derived.Test.YtialmeknnlkelahDoorPlacesLaid
import Derived.Test.YtialmeknnlkelahDoorTie
import Derived.Test.YtialmeknnlkelahDoorCards
import Derived.SevenTiedAt
import Derived.Test.YtialmeknnlkelahDoorWholeMode
import Derived.Test.YtialmeknnlkelahDoorSModeRead
import Derived.Test.YtialmeknnlkelahDoorEqNum
import Derived.ProofKit
import Derived.OpenShut
import Derived.ShutString
namespace Go.Proofs.YtialmeknnlkelahDoor.fnExactModeRead
open Go.ChangeShapes Go.WideShapes Go.ChangeAt Go.RowKit
open Go.ChangeMaps (open_string shut_string)
set_option linter.unusedVariables false      -- a walk need not use every 'w<i>' (that an integer argument fits its kind)

theorem own : ownKnob Tryd.prog.godebug = none := by kernel_rfl

/-! ### STEP 1: THE WALK: the Go text returns true. the world is as it was below its old size. -/
theorem walk (a0 : ByteArray) (w0 : a0.size ≤ maxLen) (w : World) (hp : PlW w) :
    Calls Tryd.prog 3 #[.string a0] w fun e w' => e = .returned (.bool true) ∧ Below w.heap.size w w' := by
  have hS : Hid (∀ w, Calls Tryd.prog 4 #[.string a0] w fun e w' => e = .returned (.agg #[.int .i64 (whN a0 (rdM a0)), .int .i64 0, .int .i64 (whC a0 (rdM a0))]) ∧ Below w.heap.size w w') := sModeRead_any a0
  have hI : Hid (∀ w, PlW w → Calls Tryd.prog 5 #[.string a0] w fun e w' => e = .returned (.agg #[.int .i64 (whN a0 (rdM a0)), .int .i64 0, .int .i64 (whC a0 (rdM a0))]) ∧ Below w.heap.size w w')   := iModeRead_any a0
  generalize whN a0 (rdM a0) = n, whC a0 (rdM a0) = c at hS hI
  have HP : Hid (PlW w) := hp
  clear hp
  unfold maxLen at w0
  by_cases hbig : 1048576 < (a0.size : Int)
  · go_enter Tryd.func3, Tryd.ntmps3
    go_wp2
    go_ret
    exact ⟨rfl, Below.refl _ _⟩
  · go_enter Tryd.func3, Tryd.ntmps3
    go_wp2_with (first | (go_at_call 4; refine (hS.out _).mono ?_; rintro e w1 ⟨rfl, hb1⟩) | (go_at_call 5; refine (hI.out _ (HP.out.below (bl_oneW hb1))).mono ?_; rintro e w2 ⟨rfl, hb2⟩; obtain ⟨hc2, hf2⟩ := bl_cellW hb2; have hz2 := bl_sizeW hb2) | (go_at_call 6; refine (eqNumOut_same _ _ _ _).mono ?_; rintro e w3 ⟨rfl, hb3⟩))
    go_ret
    exact ⟨rfl, bl_thenW hb1 (bl_thenW (bl_overW hb2) (bl_overW hb3))⟩

/-! ### THE ROW's STEP: WRITTEN OUT: LEAVE IT -/
set_option maxRecDepth 100000 in
theorem lifted (os : Os) (started : os.Started) (H : Type) (enc : TypeId × Value → H) :
    ReturnsInHanded {} Tryd.checked os 3 .any (fun w args => (Rows.fnExactModeReadSpec.pre enc Tryd.prog Tryd.f3 [] false w args ∧ laidMetH Tryd.prog laidP w) ∧ sizedMet enc Tryd.prog Tryd.f3 (OpenSpec.ofChange Rows.fnExactModeReadSpec) false w args) (Rows.fnExactModeReadSpec.post enc Tryd.prog Tryd.f3 false true false false) := by
  refine returnsInHanded_of_change_and (C := Tryd.checked) (X := fun w _ => laidMetH Tryd.prog laidP w) (fun _ _ _ hh h => h.of_heap hh) own started (by kernel_rfl) Tryd.func3
    (ChangeSpec.witness_shaped (enc := enc) (C := Tryd.checked) (os := os) (X := fun w _ => laidMetH Tryd.prog laidP w) false (World.doorLaid Tryd.prog 400 os) #[.string ByteArray.empty] 8 rfl (World.shaped_of_RefB (by kernel_rfl) (by kernel_rfl)) (by kernel_rfl) (by kernel_rfl) (by kernel_rfl) (door_met os _)) ?_
  intro W base args ds gs before hval0 hW hcnd _ hL _
  have hval : ∀ (j : Nat) t v, Tryd.f3.params[j]? = some t → args[j]? = some v → Value.okWide Tryd.prog W .any base t v := hval0
  have hW' := hW
  obtain ⟨p, q, hA0, hV, rfl, hfz, hnd⟩ := hW
  have hA : DataW.TrodAll enc Tryd.prog W 0 (fun _ => true) true Tryd.f3.params.toList args.toList ds p := hA0
  rw [Tryd.params3] at hA hval
  obtain ⟨v0, vs0, d0, ds0, p0, q0, hargs, rfl, rfl, h0, r0⟩ := trodAll_cons hA
  obtain ⟨rfl, rfl, rfl⟩ := trodAll_nil r0
  obtain rfl : args = #[v0] := by cases args; simp_all
  obtain ⟨rfl, rfl⟩ := hV.unique (places_read _ (var_of_laid hL))
  obtain ⟨a0, rfl, rfl, rfl, w0⟩ := open_string Tryd.underlying9 (hval 0 9 v0 rfl rfl) h0
  clear hA0 hval0
  refine (walk a0 w0 W (plw_of_laid hL)).mono fun e W' ⟨he, bel⟩ => ?_
  subst he
  exact ⟨_, rfl, _, _, _, [], [], _, hW', (trodAll_cons_mk (shut_bool Tryd.underlying4 _) trodAll_mk0), (trodAll_cons_mk (shut_string Tryd.underlying9 w0) trodAll_mk0), places_read _ (Go.Joins.var_stays gP (var_of_laid hL) bel (Nat.le_refl _)), bel.frame _, fun h => by cases h⟩

theorem over : Rows.fnExactModeReadRow.holds Tryd.pinned (OpenSpec.ofChange Rows.fnExactModeReadSpec) :=
  OpenClaim.holds_of_wide 3 Tryd.f3 rfl rfl rfl rfl rfl rfl rfl ⟨rfl, rfl, rfl, rfl, rfl⟩ rfl rfl rfl rfl rfl (by kernel_rfl) Tryd.func3 (by kernel_rfl)
    (of_decide_eq_true (by kernel_rfl)) (by unfold Func.isWrapper; first | (rw [if_pos (by decide +kernel)]; kernel_rfl) | (rw [if_neg (by decide +kernel)]; exact ⟨rfl, rfl⟩))
    (fun os started H enc _ => lifted os started H enc)

/-- ████ THE STATEMENT ████ -/
theorem proved : Rows.FnExactModeReadSaid :=
  over
end Go.Proofs.YtialmeknnlkelahDoor.fnExactModeRead
namespace Go.Proofs.YtialmeknnlkelahDoor
theorem fnExactModeRead_row : Rows.FnExactModeReadSaid := fnExactModeRead.proved
theorem fnExactModeRead_holds : Rows.FnExactModeReadCardSaid :=
  Claim7.holds_tied_plain_at .later [] [.data] true (true, "487d349abc947e91bbcf32e94088335f09418e5db8662b26b0a8f36eff1369f2") false
    fnExactModeRead_row (fun _ h => by cases h) (by kernel_rfl) (fun _ h => by cases h) fnExactModeRead_row_tie rfl ⟨rfl, rfl⟩ (by kernel_rfl) rfl
    (fun f fn hf hfn => by
      obtain rfl : f = 3 := Option.some.inj ((show Tryd.prog.funcNamed "loop.example/g00622/laws.FnExactModeRead" = some 3 by kernel_rfl).symm.trans hf) |>.symm
      obtain rfl : fn = Tryd.f3 := (Option.some.inj (Tryd.func3.symm.trans hfn)).symm
      exact ⟨by kernel_rfl, fun j t ht => by
        rw [Tryd.params3] at ht
        rcases j with _ | j
        · have h3 : t = 9 := by simpa using ht.symm
          subst h3
          exact (show Tryd.prog.wantsStandIn 9 = false by kernel_rfl)
        · simp at ht⟩)
    (by kernel_rfl)
end Go.Proofs.YtialmeknnlkelahDoor
