/- The law FnExactNfsChmod: the frame. -/
import Derived.Test.YtddkmlkfphmdoaaDoorRows
import Derived.WalkKit
import Derived.Test.YtddkmlkfphmdoaaDoorBmLaid
import Derived.Test.YtddkmlkfphmdoaaDoorTie
import Derived.Test.YtddkmlkfphmdoaaDoorCards
import Derived.SevenTiedAt
import Derived.Test.YtddkmlkfphmdoaaDoorNfsChmodLaw
import Derived.Test.YtddkmlkfphmdoaaDoorBmLaid
import Derived.WalkSpells
import Derived.WalkLawsBesides
import Derived.ProofKit
import Derived.OpenShut
import Derived.ShutString
import Derived.ChangeOld
import Derived.Below
import Derived.Lib.SmallJoins
namespace Go.Proofs.YtddkmlkfphmdoaaDoor.fnExactNfsChmod
open Go.ChangeShapes Go.WideShapes Go.ChangeAt Go.RowKit Go.Joins
open Go.ChangeMaps (open_string shut_string)
set_option linter.unusedVariables false

theorem own : ownKnob Tryd.prog.godebug = none := by kernel_rfl
theorem laidOut : laidOutB Tryd.prog = true := by kernel_rfl
theorem cellsI : Tryd.prog.cellsOf 2 = 1 := by kernel_rfl
theorem cellsX : Tryd.prog.cellsOf 41 = 5 := by kernel_rfl
theorem cellsB : Tryd.prog.cellsOf 4 = 1 := by kernel_rfl

/-! ### The walk: the law returns true, and writes nothing that was there. -/
theorem walk (a0 : Option Addr) (l0 c0 : Nat) (xs0 : List Ac) (n1 : Int) (w : World) (ps0 : Acs a0 l0 xs0 w) (bs0 : l0 ≤ 9223372036854775807) (w1 : (Lit.int .i64 n1).wf = true) (hp : PlW w) :
    Calls Tryd.prog 3 #[.slice a0 l0 c0, .int .i64 n1] w fun e w' => e = .returned (.bool true) ∧ Below w.heap.size w w' := by
  by_cases hl : l0 ≤ 1048576
  · exact nfsChmod_short a0 l0 c0 xs0 n1 hl w ps0 hp
  · exact nfsChmod_long a0 l0 c0 n1 hl bs0 w

/-! ### The row's step -/
set_option maxRecDepth 100000 in
set_option maxHeartbeats 2000000 in
theorem lifted (os : Os) (started : os.Started) (H : Type) (enc : TypeId × Value → H) :
    ReturnsInHanded {} Tryd.checked os 3 .any (fun w args => (Rows.fnExactNfsChmodSpec.pre enc Tryd.prog Tryd.f3 [] false w args ∧ laidMetH Tryd.prog laidP w) ∧ sizedMet enc Tryd.prog Tryd.f3 (OpenSpec.ofChange Rows.fnExactNfsChmodSpec) false w args) (Rows.fnExactNfsChmodSpec.post enc Tryd.prog Tryd.f3 false true false false) := by
  refine returnsInHanded_of_change_and (C := Tryd.checked) (X := fun w _ => laidMetH Tryd.prog laidP w) (fun _ _ _ hh h => h.of_heap hh) own started (by kernel_rfl) Tryd.func3
    (ChangeSpec.witness_shaped (enc := enc) (C := Tryd.checked) (os := os) (X := fun w _ => laidMetH Tryd.prog laidP w) false (World.doorLaid Tryd.prog 400 os) #[.slice none 0 0, .int .i64 0] 8 rfl (World.shaped_of_RefB (by kernel_rfl) (by kernel_rfl)) (by kernel_rfl) (by kernel_rfl) (by kernel_rfl) (door_met os _)) ?_
  intro W base args ds gs before hval0 hW hcnd _ hL _
  have hval : ∀ (j : Nat) t v, Tryd.f3.params[j]? = some t → args[j]? = some v → Value.okWide Tryd.prog W .any base t v := hval0
  have hW' := hW
  obtain ⟨p, q, hA0, hV, rfl, hfz, hnd⟩ := hW
  have hA : DataW.TrodAll enc Tryd.prog W 0 (fun _ => true) true Tryd.f3.params.toList args.toList ds p := hA0
  rw [Tryd.params3] at hA hval
  obtain ⟨v0, vs0, d0, ds0, p0, q0, hargs, rfl, rfl, h0, rr0⟩ := trodAll_cons hA
  obtain ⟨v1, vs1, d1, ds1, p1, q1, rfl, rfl, rfl, h1, rr1⟩ := trodAll_cons rr0
  obtain ⟨rfl, rfl, rfl⟩ := trodAll_nil rr1
  obtain rfl : args = #[v0, v1] := by cases args; simp_all
  obtain ⟨rfl, rfl⟩ := hV.unique (places_read _ (var_of_laid hL))
  have k0 := h0
  have lt0 : ∀ x ∈ p0, x.block < W.heap.size := by obtain ⟨m, hm⟩ := k0; exact DataW.trod_lt m _ _ _ hm
  obtain ⟨za0, zl0, zc0, rfl⟩ := okWide_slice Tryd.underlying22 (hval 0 22 v0 rfl rfl)
  obtain ⟨a0, l0, c0, xs0, es0, ps0, bs0⟩ : ∃ (a : Option Addr) (len cap : Nat) (l : List Ac), Value.slice za0 zl0 zc0 = .slice a len cap ∧ Acs a len l W ∧ len ≤ maxLen := by
    obtain ⟨mm, hmm⟩ := h0
    exact open_aces Tryd.underlying22 Tryd.underlying41 cellsX rfl rfl rfl rfl rfl cellsB cellsI cellsI cellsI cellsI Tryd.underlying4 Tryd.underlying2 Tryd.underlying2 Tryd.underlying2 Tryd.underlying2 hmm
  obtain ⟨rfl, rfl, rfl⟩ := Value.slice.inj es0
  unfold maxLen at bs0
  have k1 := h1
  have lt1 : ∀ x ∈ p1, x.block < W.heap.size := by obtain ⟨m, hm⟩ := k1; exact DataW.trod_lt m _ _ _ hm
  obtain ⟨n1, rfl, rfl, rfl, w1⟩ := open_int Tryd.underlying2 (hval 1 2 v1 rfl rfl) h1
  clear hA0 hval0
  refine (walk za0 zl0 zc0 xs0 n1 W ps0 bs0 w1 (plw_of_laid hL)).mono fun e W' ⟨he, bel⟩ => ?_
  subst he
  exact ⟨_, rfl, _, _, _, [], _, _, hW', trodAll_mk1 (shut_bool Tryd.underlying4 _), (trodAll_cons_mk (Below.trod laidOut (by kernel_rfl) (of_decide_eq_true (by kernel_rfl)) k0 bel lt0) (trodAll_cons_mk (Below.trod laidOut (by kernel_rfl) (of_decide_eq_true (by kernel_rfl)) k1 bel lt1) trodAll_mk0)), places_read _ (Go.Joins.var_stays gP (var_of_laid hL) bel (Nat.le_refl _)), bel.frame _, fun h => by cases h⟩

theorem over : Rows.fnExactNfsChmodRow.holds Tryd.pinned (OpenSpec.ofChange Rows.fnExactNfsChmodSpec) :=
  OpenClaim.holds_of_wide 3 Tryd.f3 rfl rfl rfl rfl rfl rfl rfl ⟨rfl, rfl, rfl, rfl, rfl⟩ rfl rfl rfl rfl rfl (by kernel_rfl) Tryd.func3 (by kernel_rfl)
    (of_decide_eq_true (by kernel_rfl)) (by unfold Func.isWrapper; first | (rw [if_pos (by decide +kernel)]; kernel_rfl) | (rw [if_neg (by decide +kernel)]; exact ⟨rfl, rfl⟩))
    (fun os started H enc _ => lifted os started H enc)

theorem proved : Rows.FnExactNfsChmodSaid := over
end Go.Proofs.YtddkmlkfphmdoaaDoor.fnExactNfsChmod
namespace Go.Proofs.YtddkmlkfphmdoaaDoor
theorem fnExactNfsChmod_row : Rows.FnExactNfsChmodSaid := fnExactNfsChmod.proved
theorem fnExactNfsChmod_holds : Rows.FnExactNfsChmodCardSaid :=
  Claim7.holds_tied_plain_at .later [] [.data] true (true, "4b07f03e8a6007f9cd4da4f3c806b050f4da44ca76b8fa3e376dc043ad4cdfc7") false
    fnExactNfsChmod_row (fun _ h => by cases h) (by kernel_rfl) (fun _ h => by cases h) fnExactNfsChmod_row_tie rfl ⟨rfl, rfl⟩ (by kernel_rfl) rfl
    (fun f fn hf hfn => by
      obtain rfl : f = 3 := Option.some.inj ((show Tryd.prog.funcNamed "loop.example/g00622/laws.FnExactNfsChmod" = some 3 by kernel_rfl).symm.trans hf) |>.symm
      obtain rfl : fn = Tryd.f3 := (Option.some.inj (Tryd.func3.symm.trans hfn)).symm
      exact ⟨by kernel_rfl, fun j t ht => by
        rw [Tryd.params3] at ht
        rcases j with _ | j
        · have h3 : t = 22 := by simpa using ht.symm
          subst h3
          exact (show Tryd.prog.wantsStandIn 22 = false by kernel_rfl)
        · rcases j with _ | j
          · have h3 : t = 2 := by simpa using ht.symm
            subst h3
            exact (show Tryd.prog.wantsStandIn 2 = false by kernel_rfl)
          · simp at ht⟩)
    (by kernel_rfl)
end Go.Proofs.YtddkmlkfphmdoaaDoor
