/- The law FnExactNfsGives holds of every list of aces, owner, group and Cred; no condition. -/
import Derived.Test.YtibofkjonepbpabRows
import Derived.WalkKit
import Derived.Test.YtibofkjonepbpabNfsGivesLaw
import Derived.WalkSpells
import Derived.WalkLawsBesides
import Derived.ProofKit
import Derived.OpenShut
import Derived.ShutString
import Derived.ChangeOld
import Derived.Below
import Derived.Lib.SmallJoins
namespace Go.Proofs.Ytibofkjonepbpab.fnExactNfsGives
open Go.ChangeShapes Go.WideShapes Go.ChangeAt Go.RowKit Go.Joins
open Go.ChangeMaps (open_string shut_string)
set_option linter.unusedVariables false

theorem own : ownKnob Try.prog.godebug = none := by kernel_rfl
theorem laidOut : laidOutB Try.prog = true := by kernel_rfl
theorem cellsI : Try.prog.cellsOf 2 = 1 := by kernel_rfl
theorem cellsC : Try.prog.cellsOf 35 = 4 := by kernel_rfl
/-- What is known of the list of numbers that came in: it is nil, or a row of numbers. -/
def IsRow (w : World) (a : Option Addr) (len cap : Nat) (zs : List Int) : Prop :=
  (a = none ∧ len = 0 ∧ cap = 0 ∧ zs = []) ∨
  ∃ x, a = some x ∧ len ≤ cap ∧ cap ≤ maxLen ∧ zs.length = cap ∧ (∀ i, i < zs.length → w.cell? (x.add i) = some (.int .i64 (zs.getD i 0))) ∧ ∀ n ∈ zs, (Lit.int .i64 n).wf = true
theorem ints_of {w : World} {a : Option Addr} {len cap : Nat} {zs : List Int} (h0 : IsRow w a len cap zs) : Ints a len (fun i => zs.getD i 0) w ∧ len ≤ 9223372036854775807 := by
  constructor
  · intro hp
    rcases h0 with ⟨_, rfl, _, _⟩ | ⟨⟨b, off, spot⟩, rfl, hlc, _, hz, hcell, _⟩
    · omega
    · have h0 := hcell 0 (by omega)
      have hs : spot = none := by simpa [Addr.add] using World.cell?_spot h0
      subst hs
      refine ⟨b, off, rfl, ?_, fun i hi => ?_⟩
      · have h1 : w.cell? ⟨b, off, none⟩ = some (.int .i64 (zs.getD 0 0)) := by simpa [Addr.add] using h0
        exact block_lt_of_cell h1
      · have h2 := hcell i (by omega)
        by_cases e : i = 0
        · subst e; simpa [Addr.add] using h2
        · simpa [Addr.add, e] using h2
  · rcases h0 with ⟨_, rfl, _, _⟩ | ⟨_, _, hlc, hc, _⟩
    · omega
    · unfold maxLen at hc
      omega
theorem cellsX : Try.prog.cellsOf 56 = 5 := by kernel_rfl
theorem cellsB : Try.prog.cellsOf 4 = 1 := by kernel_rfl

/-! ### The walk: the law returns true, and writes nothing that was there. -/
theorem walk (a0 : Option Addr) (l0 c0 : Nat) (xs0 : List Ac) (n1 : Int) (n2 : Int) (u3 g3 : Int) (a3 : Option Addr) (l3 c3 : Nat) (r3 : Bool) (f3 : Nat → Int) (w : World) (ps0 : Acs a0 l0 xs0 w) (bs0 : l0 ≤ 9223372036854775807) (w1 : (Lit.int .i64 n1).wf = true) (w2 : (Lit.int .i64 n2).wf = true) (pi3 : Ints a3 l3 f3 w) (bl3 : l3 ≤ 9223372036854775807) :
    Calls Try.prog 4 #[.slice a0 l0 c0, .int .i64 n1, .int .i64 n2, .agg #[.int .i64 u3, .int .i64 g3, .slice a3 l3 c3, .bool r3]] w fun e w' => e = .returned (.bool true) ∧ Below w.heap.size w w' := by
  by_cases hl : l0 ≤ 1048576
  · by_cases hc : l0 + l3 ≤ 1048576
    · exact nfsGives_short a0 l0 c0 xs0 n1 n2 u3 g3 a3 l3 c3 r3 f3 hc w ps0 pi3
    · exact nfsGives_longC a0 l0 c0 n1 n2 u3 g3 a3 l3 c3 r3 hl hc bl3 w
  · exact nfsGives_long a0 l0 c0 n1 n2 u3 g3 a3 l3 c3 r3 hl bs0 w

/-! ### The row's step -/
set_option maxRecDepth 100000 in
set_option maxHeartbeats 2000000 in
theorem lifted (os : Os) (started : os.Started) (H : Type) (enc : TypeId × Value → H) :
    ReturnsInHanded {} Try.checked os 4 .any (Rows.fnExactNfsGivesSpec.pre6 enc Try.prog Try.f4 Rows.fnExactNfsGivesRow.domain false) (Rows.fnExactNfsGivesSpec.post enc Try.prog Try.f4 false true false false) := by
  refine returnsInHanded_of_change (C := Try.checked) own started (by kernel_rfl) Try.func4
    (ChangeSpec.witness6 (enc := enc) (C := Try.checked) false ⟨#[], #[.slice none 0 0, .int .i64 0, .int .i64 0, .agg #[.int .i64 0, .int .i64 0, .slice none 0 0, .bool false]], []⟩ 8 (by kernel_rfl) (by kernel_rfl) (by kernel_rfl) (by kernel_rfl)) ?_
  intro W base args ds gs before hval0 hW hcnd _
  have hval : ∀ (j : Nat) t v, Try.f4.params[j]? = some t → args[j]? = some v → Value.okWide Try.prog W .any base t v := hval0
  have hW' := hW
  obtain ⟨p, q, hA0, hV, rfl, hfz, hnd⟩ := hW
  have hA : DataW.TrodAll enc Try.prog W 0 (fun _ => true) true Try.f4.params.toList args.toList ds p := hA0
  rw [Try.params4] at hA hval
  obtain ⟨v0, vs0, d0, ds0, p0, q0, hargs, rfl, rfl, h0, rr0⟩ := trodAll_cons hA
  obtain ⟨v1, vs1, d1, ds1, p1, q1, rfl, rfl, rfl, h1, rr1⟩ := trodAll_cons rr0
  obtain ⟨v2, vs2, d2, ds2, p2, q2, rfl, rfl, rfl, h2, rr2⟩ := trodAll_cons rr1
  obtain ⟨v3, vs3, d3, ds3, p3, q3, rfl, rfl, rfl, h3, rr3⟩ := trodAll_cons rr2
  obtain ⟨rfl, rfl, rfl⟩ := trodAll_nil rr3
  obtain rfl : args = #[v0, v1, v2, v3] := by cases args; simp_all
  obtain ⟨rfl, rfl⟩ := trodVars_none hV
  have k0 := h0
  have lt0 : ∀ x ∈ p0, x.block < W.heap.size := by obtain ⟨m, hm⟩ := k0; exact DataW.trod_lt m _ _ _ hm
  obtain ⟨za0, zl0, zc0, rfl⟩ := okWide_slice Try.underlying32 (hval 0 32 v0 rfl rfl)
  obtain ⟨a0, l0, c0, xs0, es0, ps0, bs0⟩ : ∃ (a : Option Addr) (len cap : Nat) (l : List Ac), Value.slice za0 zl0 zc0 = .slice a len cap ∧ Acs a len l W ∧ len ≤ maxLen := by
    obtain ⟨mm, hmm⟩ := h0
    exact open_aces Try.underlying32 Try.underlying56 cellsX rfl rfl rfl rfl rfl cellsB cellsI cellsI cellsI cellsI Try.underlying4 Try.underlying2 Try.underlying2 Try.underlying2 Try.underlying2 hmm
  obtain ⟨rfl, rfl, rfl⟩ := Value.slice.inj es0
  unfold maxLen at bs0
  have k1 := h1
  have lt1 : ∀ x ∈ p1, x.block < W.heap.size := by obtain ⟨m, hm⟩ := k1; exact DataW.trod_lt m _ _ _ hm
  obtain ⟨n1, rfl, rfl, rfl, w1⟩ := open_int Try.underlying2 (hval 1 2 v1 rfl rfl) h1
  have k2 := h2
  have lt2 : ∀ x ∈ p2, x.block < W.heap.size := by obtain ⟨m, hm⟩ := k2; exact DataW.trod_lt m _ _ _ hm
  obtain ⟨n2, rfl, rfl, rfl, w2⟩ := open_int Try.underlying2 (hval 2 2 v2 rfl rfl) h2
  have k3 := h3
  have lt3 : ∀ x ∈ p3, x.block < W.heap.size := by obtain ⟨m, hm⟩ := k3; exact DataW.trod_lt m _ _ _ hm
  obtain ⟨kc0, kc1, kc2, kc3, y0, y1, y2, y3, mm, rfl, rfl, rfl, hy0, hy1, hy2, hy3⟩ := open_agg4 Try.underlying35 (by kernel_rfl) cellsC (hval 3 35 v3 rfl rfl) h3
  obtain ⟨u3, e0, _, wu⟩ := DataW.trod_int Try.underlying2 hy0
  obtain ⟨g3, e1, _, wg⟩ := DataW.trod_int Try.underlying2 hy1
  simp at e0 e1
  subst e0 e1
  obtain ⟨a3, l3, c3, zs3, e2, w0⟩ : ∃ a len cap zs, kc2 = .slice a len cap ∧ IsRow W a len cap zs := by
    rcases open_ints Try.underlying33 Try.underlying2 cellsI hy2 with ⟨hcs, _⟩ | ⟨x, l, c, zs, hcs, _, hl, hm, hz, _, hcell, hwz⟩
    · exact ⟨none, 0, 0, [], by simpa using hcs, .inl ⟨rfl, rfl, rfl, rfl⟩⟩
    · exact ⟨some x, l, c, zs, by simpa using hcs, .inr ⟨x, rfl, hl, hm, by simpa using hz, hcell, hwz⟩⟩
  subst e2
  obtain ⟨r3, e3⟩ : ∃ r, kc3 = .bool r := by
    obtain ⟨r, e3, _⟩ := DataW.trod_bool Try.underlying4 hy3
    exact ⟨r, by simpa using e3⟩
  subst e3
  obtain ⟨pi3, bl3⟩ := ints_of w0
  clear hA0 hval0
  refine (walk za0 zl0 zc0 xs0 n1 n2 u3 g3 a3 l3 c3 r3 _ W ps0 bs0 w1 w2 pi3 bl3).mono fun e W' ⟨he, bel⟩ => ?_
  subst he
  exact ⟨_, rfl, _, _, _, [], _, [], hW', trodAll_mk1 (shut_bool Try.underlying4 _), (trodAll_cons_mk (Below.trod laidOut (by kernel_rfl) (of_decide_eq_true (by kernel_rfl)) k0 bel lt0) (trodAll_cons_mk (Below.trod laidOut (by kernel_rfl) (of_decide_eq_true (by kernel_rfl)) k1 bel lt1) (trodAll_cons_mk (Below.trod laidOut (by kernel_rfl) (of_decide_eq_true (by kernel_rfl)) k2 bel lt2) (trodAll_cons_mk (Below.trod laidOut (by kernel_rfl) (of_decide_eq_true (by kernel_rfl)) k3 bel lt3) trodAll_mk0)))), rfl, bel.frame _, fun h => by cases h⟩

theorem over : Rows.fnExactNfsGivesRow.holds Try.pinned (OpenSpec.ofChange Rows.fnExactNfsGivesSpec) :=
  OpenClaim.holds_of_wide 4 Try.f4 rfl rfl rfl rfl rfl rfl rfl ⟨rfl, rfl, rfl, rfl, rfl⟩ rfl rfl rfl rfl rfl (by kernel_rfl) Try.func4 (by kernel_rfl)
    (of_decide_eq_true (by kernel_rfl)) (by unfold Func.isWrapper; first | (rw [if_pos (by decide +kernel)]; kernel_rfl) | (rw [if_neg (by decide +kernel)]; exact ⟨rfl, rfl⟩))
    (fun os started H enc _ => lifted os started H enc)

theorem proved : Rows.FnExactNfsGivesSaid := over
end Go.Proofs.Ytibofkjonepbpab.fnExactNfsGives
namespace Go.Proofs.Ytibofkjonepbpab
theorem fnExactNfsGives_holds : Rows.FnExactNfsGivesSaid := fnExactNfsGives.proved
end Go.Proofs.Ytibofkjonepbpab
