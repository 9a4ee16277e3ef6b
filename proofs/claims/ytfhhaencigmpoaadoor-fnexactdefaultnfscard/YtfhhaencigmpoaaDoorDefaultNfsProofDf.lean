/- The law FnExactDefaultNfs. -/
import Derived.Test.YtfhhaencigmpoaaDoorRows
import Derived.WalkKit
import Derived.Test.YtfhhaencigmpoaaDoorDf1
import Derived.Test.YtfhhaencigmpoaaDoorTie
import Derived.Test.YtfhhaencigmpoaaDoorCards
import Derived.SevenTiedAt
import Derived.Test.YtfhhaencigmpoaaDoorDf31
import Derived.WalkSpells
import Derived.WalkLawsBesides
import Derived.ProofKit
import Derived.OpenShut
import Derived.ShutString
import Derived.ChangeOld
import Derived.Below
import Derived.Lib.SmallJoins
namespace Go.Proofs.YtfhhaencigmpoaaDoor.fnExactDefaultNfs
open Go.ChangeShapes Go.WideShapes Go.ChangeAt Go.RowKit Go.Joins
open Go.ChangeMaps (open_string shut_string)
set_option linter.unusedVariables false

theorem own : ownKnob Tryd.prog.godebug = none := by kernel_rfl
theorem laidOut : laidOutB Tryd.prog = true := by kernel_rfl
theorem cellsI : Tryd.prog.cellsOf 2 = 1 := by kernel_rfl
theorem cellsA : Tryd.prog.cellsOf 24 = 7 := by kernel_rfl

/-! ### The walk: the law returns true, and writes nothing that was there. -/
theorem walk (u0 g0 o0 : Int) (au0 : Option Addr) (lu0 cu0 : Nat) (ag0 : Option Addr) (lg0 cg0 : Nat) (r0 : Bool) (m0 : Int) (us0 gs0 : List (Int × Int)) (w : World) (pu0 : Prs au0 lu0 us0 w) (pg0 : Prs ag0 lg0 gs0 w) (bu0 : lu0 ≤ 9223372036854775807) (bg0 : lg0 ≤ 9223372036854775807) (hp : PlW w) :
    Calls Tryd.prog 4 #[.agg #[.int .i64 u0, .int .i64 g0, .int .i64 o0, .slice au0 lu0 cu0, .slice ag0 lg0 cg0, .bool r0, .int .i64 m0]] w fun e w' => e = .returned (.bool true) ∧ Below w.heap.size w w' := by
  by_cases hl : lu0 + lg0 ≤ 1048576
  · have e1 := pu0.1
    have e2 := pg0.1
    subst e1
    subst e2
    exact defaultNfs_short u0 g0 o0 au0 cu0 ag0 cg0 r0 m0 us0 gs0 hl w hp pu0 pg0
  · exact defaultNfs_long u0 g0 o0 au0 lu0 cu0 ag0 lg0 cg0 r0 m0 hl bu0 bg0 w

/-! ### The row's step -/
set_option maxRecDepth 100000 in
set_option maxHeartbeats 2000000 in
theorem lifted (os : Os) (started : os.Started) (H : Type) (enc : TypeId × Value → H) :
    ReturnsInHanded {} Tryd.checked os 4 .any (fun w args => (Rows.fnExactDefaultNfsSpec.pre enc Tryd.prog Tryd.f4 [] false w args ∧ laidMetH Tryd.prog laidP w) ∧ sizedMet enc Tryd.prog Tryd.f4 (OpenSpec.ofChange Rows.fnExactDefaultNfsSpec) false w args) (Rows.fnExactDefaultNfsSpec.post enc Tryd.prog Tryd.f4 false true false false) := by
  refine returnsInHanded_of_change_and (C := Tryd.checked) (X := fun w _ => laidMetH Tryd.prog laidP w) (fun _ _ _ hh h => h.of_heap hh) own started (by kernel_rfl) Tryd.func4
    (ChangeSpec.witness_shaped (enc := enc) (C := Tryd.checked) (os := os) (X := fun w _ => laidMetH Tryd.prog laidP w) false (World.doorLaid Tryd.prog 400 os) #[.agg #[.int .i64 0, .int .i64 0, .int .i64 0, .slice none 0 0, .slice none 0 0, .bool false, .int .i64 0]] 8 rfl (World.shaped_of_RefB (by kernel_rfl) (by kernel_rfl)) (by kernel_rfl) (by kernel_rfl) (by kernel_rfl) (door_met os _)) ?_
  intro W base args ds gs before hval0 hW hcnd _ hL _
  have hval : ∀ (j : Nat) t v, Tryd.f4.params[j]? = some t → args[j]? = some v → Value.okWide Tryd.prog W .any base t v := hval0
  have hW' := hW
  obtain ⟨p, q, hA0, hV, rfl, hfz, hnd⟩ := hW
  have hA : DataW.TrodAll enc Tryd.prog W 0 (fun _ => true) true Tryd.f4.params.toList args.toList ds p := hA0
  rw [Tryd.params4] at hA hval
  obtain ⟨v0, vs0, d0, ds0, p0, q0, hargs, rfl, rfl, h0, rr0⟩ := trodAll_cons hA
  obtain ⟨rfl, rfl, rfl⟩ := trodAll_nil rr0
  obtain rfl : args = #[v0] := by cases args; simp_all
  obtain ⟨rfl, rfl⟩ := hV.unique (places_read _ (var_of_laid hL))
  have k0 := h0
  have lt0 : ∀ x ∈ p0, x.block < W.heap.size := by obtain ⟨m, hm⟩ := k0; exact DataW.trod_lt m _ _ _ hm
  obtain ⟨u0, g0, o0, au0, lu0, cu0, ag0, lg0, cg0, r0, m0, us0, gs0, rfl, pu0, pg0, bu0, bg0⟩ := open_acl Tryd.underlying24 (by kernel_rfl) cellsA Tryd.underlying2 Tryd.underlying2 Tryd.underlying2 Tryd.underlying22 Tryd.underlying22 Tryd.underlying4 Tryd.underlying2 Tryd.underlying97 (by kernel_rfl) rfl rfl cellsI cellsI Tryd.underlying2 Tryd.underlying2 (hval 0 24 v0 rfl rfl) h0
  unfold maxLen at bu0 bg0
  clear hA0 hval0
  refine (walk u0 g0 o0 au0 lu0 cu0 ag0 lg0 cg0 r0 m0 us0 gs0 W pu0 pg0 bu0 bg0 (plw_of_laid hL)).mono fun e W' ⟨he, bel⟩ => ?_
  subst he
  exact ⟨_, rfl, _, _, _, [], _, _, hW', trodAll_mk1 (shut_bool Tryd.underlying4 _), (trodAll_cons_mk (Below.trod laidOut (by kernel_rfl) (of_decide_eq_true (by kernel_rfl)) k0 bel lt0) trodAll_mk0), places_read _ (Go.Joins.var_stays gP (var_of_laid hL) bel (Nat.le_refl _)), bel.frame _, fun h => by cases h⟩

theorem over : Rows.fnExactDefaultNfsRow.holds Tryd.pinned (OpenSpec.ofChange Rows.fnExactDefaultNfsSpec) :=
  OpenClaim.holds_of_wide 4 Tryd.f4 rfl rfl rfl rfl rfl rfl rfl ⟨rfl, rfl, rfl, rfl, rfl⟩ rfl rfl rfl rfl rfl (by kernel_rfl) Tryd.func4 (by kernel_rfl)
    (of_decide_eq_true (by kernel_rfl)) (by unfold Func.isWrapper; first | (rw [if_pos (by decide +kernel)]; kernel_rfl) | (rw [if_neg (by decide +kernel)]; exact ⟨rfl, rfl⟩))
    (fun os started H enc _ => lifted os started H enc)

theorem proved : Rows.FnExactDefaultNfsSaid := over
end Go.Proofs.YtfhhaencigmpoaaDoor.fnExactDefaultNfs
namespace Go.Proofs.YtfhhaencigmpoaaDoor
theorem fnExactDefaultNfs_row : Rows.FnExactDefaultNfsSaid := fnExactDefaultNfs.proved
theorem fnExactDefaultNfs_holds : Rows.FnExactDefaultNfsCardSaid :=
  Claim7.holds_tied_plain_at .later [] [.data] true (true, "08b170f32932cd3101d546158a0a3ae43e3d94bbc0dc76617a98b9cf0961010e") false
    fnExactDefaultNfs_row (fun _ h => by cases h) (by kernel_rfl) (fun _ h => by cases h) fnExactDefaultNfs_row_tie rfl ⟨rfl, rfl⟩ (by kernel_rfl) rfl
    (fun f fn hf hfn => by
      obtain rfl : f = 4 := Option.some.inj ((show Tryd.prog.funcNamed "loop.example/g00622/laws.FnExactDefaultNfs" = some 4 by kernel_rfl).symm.trans hf) |>.symm
      obtain rfl : fn = Tryd.f4 := (Option.some.inj (Tryd.func4.symm.trans hfn)).symm
      exact ⟨by kernel_rfl, fun j t ht => by
        rw [Tryd.params4] at ht
        rcases j with _ | j
        · have h3 : t = 24 := by simpa using ht.symm
          subst h3
          exact (show Tryd.prog.wantsStandIn 24 = false by kernel_rfl)
        · simp at ht⟩)
    (by kernel_rfl)
end Go.Proofs.YtfhhaencigmpoaaDoor
