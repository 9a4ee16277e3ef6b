/- The card of the law FnExactCredText holds: of every Cred; no condition but the tables that the card lays. -/
import Derived.Test.YtibofkjonepbpabDoorRows
import Derived.WalkKit
import Derived.Test.YtibofkjonepbpabDoorPowLaid
import Derived.Test.YtibofkjonepbpabDoorTie
import Derived.Test.YtibofkjonepbpabDoorCards
import Derived.SevenTiedAt
import Derived.Test.YtibofkjonepbpabDoorCredTextLaw
import Derived.WalkSpells
import Derived.WalkLawsBesides
import Derived.ProofKit
import Derived.OpenShut
import Derived.ShutString
import Derived.ChangeOld
import Derived.Below
import Derived.Lib.SmallJoins
namespace Go.Proofs.YtibofkjonepbpabDoor.fnExactCredText
open Go.ChangeShapes Go.WideShapes Go.ChangeAt Go.RowKit Go.Joins
open Go.ChangeMaps (open_string shut_string)
set_option linter.unusedVariables false

theorem own : ownKnob Tryd.prog.godebug = none := by kernel_rfl
theorem laidOut : laidOutB Tryd.prog = true := by kernel_rfl
theorem cellsI : Tryd.prog.cellsOf 2 = 1 := by kernel_rfl
theorem cellsC : Tryd.prog.cellsOf 40 = 4 := by kernel_rfl
/-- What is known of the list of numbers that came in: it is nil, or a row of numbers. -/
def IsRow (w : World) (a : Option Addr) (len cap : Nat) (zs : List Int) : Prop :=
  (a = none ∧ len = 0 ∧ cap = 0 ∧ zs = []) ∨
  ∃ x, a = some x ∧ len ≤ cap ∧ cap ≤ maxLen ∧ zs.length = cap ∧ (∀ i, i < zs.length → w.cell? (x.add i) = some (.int .i64 (zs.getD i 0))) ∧ ∀ n ∈ zs, (Lit.int .i64 n).wf = true
theorem ints_of {w : World} {a : Option Addr} {len cap : Nat} {zs : List Int} (h0 : IsRow w a len cap zs) : Ints a len (fun i => zs.getD i 0) w ∧ len ≤ 9223372036854775807 := by
  constructor
  · intro hp
    rcases h0 with ⟨_, rfl, _, _⟩ | ⟨⟨b, off, spot⟩, rfl, hlc, _, hz, hcell, _⟩
    · omega
    · have h0 := hcell 0 (by omega)
      have hs : spot = none := by simpa [Addr.add] using World.cell?_spot h0
      subst hs
      refine ⟨b, off, rfl, ?_, fun i hi => ?_⟩
      · have h1 : w.cell? ⟨b, off, none⟩ = some (.int .i64 (zs.getD 0 0)) := by simpa [Addr.add] using h0
        exact block_lt_of_cell h1
      · have h2 := hcell i (by omega)
        by_cases e : i = 0
        · subst e; simpa [Addr.add] using h2
        · simpa [Addr.add, e] using h2
  · rcases h0 with ⟨_, rfl, _, _⟩ | ⟨_, _, hlc, hc, _⟩
    · omega
    · unfold maxLen at hc
      omega

/-! ### The walk: the law returns true, and writes nothing that was there. -/
theorem walk (u0 g0 : Int) (a0 : Option Addr) (l0 c0 : Nat) (r0 : Bool) (f0 : Nat → Int) (w : World) (pi0 : Ints a0 l0 f0 w) (bl0 : l0 ≤ 9223372036854775807) (hp : PowW w) :
    Calls Tryd.prog 4 #[.agg #[.int .i64 u0, .int .i64 g0, .slice a0 l0 c0, .bool r0]] w fun e w' => e = .returned (.bool true) ∧ Below w.heap.size w w' := by
  by_cases hl : l0 ≤ 1048576
  · exact credText_short u0 g0 a0 l0 c0 r0 f0 hl w pi0 hp
  · exact credText_long u0 g0 a0 l0 c0 r0 (by omega) bl0 w

/-! ### The row's step -/
set_option maxRecDepth 100000 in
set_option maxHeartbeats 2000000 in
theorem lifted (os : Os) (started : os.Started) (H : Type) (enc : TypeId × Value → H) :
    ReturnsInHanded {} Tryd.checked os 4 .any (fun w args => (Rows.fnExactCredTextSpec.pre enc Tryd.prog Tryd.f4 [] false w args ∧ laidMetH Tryd.prog laidP w) ∧ sizedMet enc Tryd.prog Tryd.f4 (OpenSpec.ofChange Rows.fnExactCredTextSpec) false w args) (Rows.fnExactCredTextSpec.post enc Tryd.prog Tryd.f4 false true false false) := by
  refine returnsInHanded_of_change_and (C := Tryd.checked) (X := fun w _ => laidMetH Tryd.prog laidP w) (fun _ _ _ hh h => h.of_heap hh) own started (by kernel_rfl) Tryd.func4
    (ChangeSpec.witness_shaped (enc := enc) (C := Tryd.checked) (os := os) (X := fun w _ => laidMetH Tryd.prog laidP w) false (World.doorLaid Tryd.prog 4000 os) #[.agg #[.int .i64 0, .int .i64 0, .slice none 0 0, .bool false]] 8 rfl (World.shaped_of_RefB (by kernel_rfl) (by kernel_rfl)) (by kernel_rfl) (by kernel_rfl) (by kernel_rfl) (door_met os _)) ?_
  intro W base args ds gs before hval0 hW hcnd _ hL _
  have hval : ∀ (j : Nat) t v, Tryd.f4.params[j]? = some t → args[j]? = some v → Value.okWide Tryd.prog W .any base t v := hval0
  have hW' := hW
  obtain ⟨p, q, hA0, hV, rfl, hfz, hnd⟩ := hW
  have hA : DataW.TrodAll enc Tryd.prog W 0 (fun _ => true) true Tryd.f4.params.toList args.toList ds p := hA0
  rw [Tryd.params4] at hA hval
  obtain ⟨v0, vs0, d0, ds0, p0, q0, hargs, rfl, rfl, h0, rr0⟩ := trodAll_cons hA
  obtain ⟨rfl, rfl, rfl⟩ := trodAll_nil rr0
  obtain rfl : args = #[v0] := by cases args; simp_all
  obtain ⟨rfl, rfl⟩ := trodVars_none hV
  have k0 := h0
  have lt0 : ∀ x ∈ p0, x.block < W.heap.size := by obtain ⟨m, hm⟩ := k0; exact DataW.trod_lt m _ _ _ hm
  obtain ⟨kc0, kc1, kc2, kc3, y0, y1, y2, y3, mm, rfl, rfl, rfl, hy0, hy1, hy2, hy3⟩ := open_agg4 Tryd.underlying40 (by kernel_rfl) cellsC (hval 0 40 v0 rfl rfl) h0
  obtain ⟨u0, e0, _, wu⟩ := DataW.trod_int Tryd.underlying2 hy0
  obtain ⟨g0, e1, _, wg⟩ := DataW.trod_int Tryd.underlying2 hy1
  simp at e0 e1
  subst e0 e1
  obtain ⟨a0, l0, c0, zs0, e2, w0⟩ : ∃ a len cap zs, kc2 = .slice a len cap ∧ IsRow W a len cap zs := by
    rcases open_ints Tryd.underlying33 Tryd.underlying2 cellsI hy2 with ⟨hcs, _⟩ | ⟨x, l, c, zs, hcs, _, hl, hm, hz, _, hcell, hwz⟩
    · exact ⟨none, 0, 0, [], by simpa using hcs, .inl ⟨rfl, rfl, rfl, rfl⟩⟩
    · exact ⟨some x, l, c, zs, by simpa using hcs, .inr ⟨x, rfl, hl, hm, by simpa using hz, hcell, hwz⟩⟩
  subst e2
  obtain ⟨r0, e3⟩ : ∃ r, kc3 = .bool r := by
    obtain ⟨r, e3, _⟩ := DataW.trod_bool Tryd.underlying4 hy3
    exact ⟨r, by simpa using e3⟩
  subst e3
  obtain ⟨pi0, bl0⟩ := ints_of w0
  clear hA0 hval0
  refine (walk u0 g0 a0 l0 c0 r0 _ W pi0 bl0 (plw_of_laid hL)).mono fun e W' ⟨he, bel⟩ => ?_
  subst he
  exact ⟨_, rfl, _, _, _, [], _, [], hW', trodAll_mk1 (shut_bool Tryd.underlying4 _), (trodAll_cons_mk (Below.trod laidOut (by kernel_rfl) (of_decide_eq_true (by kernel_rfl)) k0 bel lt0) trodAll_mk0), rfl, bel.frame _, fun h => by cases h⟩

theorem over : Rows.fnExactCredTextRow.holds Tryd.pinned (OpenSpec.ofChange Rows.fnExactCredTextSpec) :=
  OpenClaim.holds_of_wide 4 Tryd.f4 rfl rfl rfl rfl rfl rfl rfl ⟨rfl, rfl, rfl, rfl, rfl⟩ rfl rfl rfl rfl rfl (by kernel_rfl) Tryd.func4 (by kernel_rfl)
    (of_decide_eq_true (by kernel_rfl)) (by unfold Func.isWrapper; first | (rw [if_pos (by decide +kernel)]; kernel_rfl) | (rw [if_neg (by decide +kernel)]; exact ⟨rfl, rfl⟩))
    (fun os started H enc _ => lifted os started H enc)

theorem proved : Rows.FnExactCredTextSaid := over
end Go.Proofs.YtibofkjonepbpabDoor.fnExactCredText
namespace Go.Proofs.YtibofkjonepbpabDoor
theorem fnExactCredText_row : Rows.FnExactCredTextSaid := fnExactCredText.proved
theorem fnExactCredText_holds : Rows.FnExactCredTextCardSaid :=
  Claim7.holds_tied_plain_at .later [] [.data, .data, .data] true (true, "d39302b3a5781bdc98467624c803fe1444f3a78252dc8066f8b85ec26499b3de") false
    fnExactCredText_row (fun _ h => by cases h) (by kernel_rfl) (fun _ h => by cases h) fnExactCredText_row_tie rfl ⟨rfl, rfl⟩ (by kernel_rfl) rfl
    (fun f fn hf hfn => by
      obtain rfl : f = 4 := Option.some.inj ((show Tryd.prog.funcNamed "loop.example/g00622/laws.FnExactCredText" = some 4 by kernel_rfl).symm.trans hf) |>.symm
      obtain rfl : fn = Tryd.f4 := (Option.some.inj (Tryd.func4.symm.trans hfn)).symm
      exact ⟨by kernel_rfl, fun j t ht => by
        rw [Tryd.params4] at ht
        rcases j with _ | j
        · have h3 : t = 40 := by simpa using ht.symm
          subst h3
          exact (show Tryd.prog.wantsStandIn 40 = false by kernel_rfl)
        · simp at ht⟩)
    (by kernel_rfl)
end Go.Proofs.YtibofkjonepbpabDoor
