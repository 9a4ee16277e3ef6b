/- FnExactOneGroup holds: at every list of names, number and asker the program's OneGroup answers as the specification's, writes into no argument, and shares no memory with them. No condition besides the statement's own. -/
import Derived.Test.YtgojbilbkfilgabRows
import Derived.WalkKit
import Derived.Test.YtgojbilbkfilgabOneGLaw
import Derived.WalkSpells
import Derived.WalkLawsBesides
import Derived.ProofKit
import Derived.OpenShut
import Derived.ShutString
import Derived.ChangeOld
import Derived.Below
import Derived.Lib.SmallJoins
namespace Go.Proofs.Ytgojbilbkfilgab.fnExactOneGroup
open Go.ChangeShapes Go.WideShapes Go.ChangeAt Go.RowKit Go.Joins
open Go.ChangeMaps (open_string shut_string)
set_option linter.unusedVariables false

theorem own : ownKnob Try.prog.godebug = none := by kernel_rfl
theorem laidOut : laidOutB Try.prog = true := by kernel_rfl
theorem cellsI : Try.prog.cellsOf 2 = 1 := by kernel_rfl
theorem cellsC : Try.prog.cellsOf 27 = 4 := by kernel_rfl
/-- What is known of the list of numbers that came in: it is nil, or a row of numbers. -/
def IsRow (w : World) (a : Option Addr) (len cap : Nat) (zs : List Int) : Prop :=
  (a = none ∧ len = 0 ∧ cap = 0 ∧ zs = []) ∨
  ∃ x, a = some x ∧ len ≤ cap ∧ cap ≤ maxLen ∧ zs.length = cap ∧ (∀ i, i < zs.length → w.cell? (x.add i) = some (.int .i64 (zs.getD i 0))) ∧ ∀ n ∈ zs, (Lit.int .i64 n).wf = true
theorem ints_of {w : World} {a : Option Addr} {len cap : Nat} {zs : List Int} (h0 : IsRow w a len cap zs) : Ints a len (fun i => zs.getD i 0) w ∧ len ≤ 9223372036854775807 := by
  constructor
  · intro hp
    rcases h0 with ⟨_, rfl, _, _⟩ | ⟨⟨b, off, spot⟩, rfl, hlc, _, hz, hcell, _⟩
    · omega
    · have h0 := hcell 0 (by omega)
      have hs : spot = none := by simpa [Addr.add] using World.cell?_spot h0
      subst hs
      refine ⟨b, off, rfl, ?_, fun i hi => ?_⟩
      · have h1 : w.cell? ⟨b, off, none⟩ = some (.int .i64 (zs.getD 0 0)) := by simpa [Addr.add] using h0
        exact block_lt_of_cell h1
      · have h2 := hcell i (by omega)
        by_cases e : i = 0
        · subst e; simpa [Addr.add] using h2
        · simpa [Addr.add, e] using h2
  · rcases h0 with ⟨_, rfl, _, _⟩ | ⟨_, _, hlc, hc, _⟩
    · omega
    · unfold maxLen at hc
      omega
theorem cellsA : Try.prog.cellsOf 24 = 7 := by kernel_rfl

/-! ### The walk: the law returns true, and writes nothing that was there. -/
theorem walk (u0 g0 o0 : Int) (au0 : Option Addr) (lu0 cu0 : Nat) (ag0 : Option Addr) (lg0 cg0 : Nat) (r0 : Bool) (m0 : Int) (us0 gs0 : List (Int × Int)) (n1 : Int) (u2 g2 : Int) (a2 : Option Addr) (l2 c2 : Nat) (r2 : Bool) (f2 : Nat → Int) (w : World) (pu0 : Prs au0 lu0 us0 w) (pg0 : Prs ag0 lg0 gs0 w) (bu0 : lu0 ≤ 9223372036854775807) (bg0 : lg0 ≤ 9223372036854775807) (w1 : (Lit.int .i64 n1).wf = true) (pi2 : Ints a2 l2 f2 w) (bl2 : l2 ≤ 9223372036854775807) :
    Calls Try.prog 3 #[.agg #[.int .i64 u0, .int .i64 g0, .int .i64 o0, .slice au0 lu0 cu0, .slice ag0 lg0 cg0, .bool r0, .int .i64 m0], .int .i64 n1, .agg #[.int .i64 u2, .int .i64 g2, .slice a2 l2 c2, .bool r2]] w fun e w' => e = .returned (.bool true) ∧ Below w.heap.size w w' := by
  by_cases hl : lu0 + lg0 ≤ 1048576
  · by_cases hc : lu0 + lg0 + l2 ≤ 1048576
    · exact oneGroup_short u0 g0 o0 au0 lu0 cu0 ag0 lg0 cg0 r0 m0 us0 gs0 n1 u2 g2 a2 l2 c2 r2 f2 hc w pu0 pg0 pi2
    · exact oneGroup_longC u0 g0 o0 au0 lu0 cu0 ag0 lg0 cg0 r0 m0 n1 u2 g2 a2 l2 c2 r2 hl hc bl2 w
  · exact oneGroup_long u0 g0 o0 au0 lu0 cu0 ag0 lg0 cg0 r0 m0 n1 u2 g2 a2 l2 c2 r2 hl bu0 bg0 w

/-! ### The row's step -/
set_option maxRecDepth 100000 in
set_option maxHeartbeats 2000000 in
theorem lifted (os : Os) (started : os.Started) (H : Type) (enc : TypeId × Value → H) :
    ReturnsInHanded {} Try.checked os 3 .any (Rows.fnExactOneGroupSpec.pre6 enc Try.prog Try.f3 Rows.fnExactOneGroupRow.domain false) (Rows.fnExactOneGroupSpec.post enc Try.prog Try.f3 false true false false) := by
  refine returnsInHanded_of_change (C := Try.checked) own started (by kernel_rfl) Try.func3
    (ChangeSpec.witness6 (enc := enc) (C := Try.checked) false ⟨#[], #[.agg #[.int .i64 0, .int .i64 0, .int .i64 0, .slice none 0 0, .slice none 0 0, .bool false, .int .i64 0], .int .i64 0, .agg #[.int .i64 0, .int .i64 0, .slice none 0 0, .bool false]], []⟩ 8 (by kernel_rfl) (by kernel_rfl) (by kernel_rfl) (by kernel_rfl)) ?_
  intro W base args ds gs before hval0 hW hcnd _
  have hval : ∀ (j : Nat) t v, Try.f3.params[j]? = some t → args[j]? = some v → Value.okWide Try.prog W .any base t v := hval0
  have hW' := hW
  obtain ⟨p, q, hA0, hV, rfl, hfz, hnd⟩ := hW
  have hA : DataW.TrodAll enc Try.prog W 0 (fun _ => true) true Try.f3.params.toList args.toList ds p := hA0
  rw [Try.params3] at hA hval
  obtain ⟨v0, vs0, d0, ds0, p0, q0, hargs, rfl, rfl, h0, rr0⟩ := trodAll_cons hA
  obtain ⟨v1, vs1, d1, ds1, p1, q1, rfl, rfl, rfl, h1, rr1⟩ := trodAll_cons rr0
  obtain ⟨v2, vs2, d2, ds2, p2, q2, rfl, rfl, rfl, h2, rr2⟩ := trodAll_cons rr1
  obtain ⟨rfl, rfl, rfl⟩ := trodAll_nil rr2
  obtain rfl : args = #[v0, v1, v2] := by cases args; simp_all
  obtain ⟨rfl, rfl⟩ := trodVars_none hV
  have k0 := h0
  have lt0 : ∀ x ∈ p0, x.block < W.heap.size := by obtain ⟨m, hm⟩ := k0; exact DataW.trod_lt m _ _ _ hm
  obtain ⟨u0, g0, o0, au0, lu0, cu0, ag0, lg0, cg0, r0, m0, us0, gs0, rfl, pu0, pg0, bu0, bg0⟩ := open_acl Try.underlying24 (by kernel_rfl) cellsA Try.underlying2 Try.underlying2 Try.underlying2 Try.underlying22 Try.underlying22 Try.underlying4 Try.underlying2 Try.underlying56 (by kernel_rfl) rfl rfl cellsI cellsI Try.underlying2 Try.underlying2 (hval 0 24 v0 rfl rfl) h0
  unfold maxLen at bu0 bg0
  have k1 := h1
  have lt1 : ∀ x ∈ p1, x.block < W.heap.size := by obtain ⟨m, hm⟩ := k1; exact DataW.trod_lt m _ _ _ hm
  obtain ⟨n1, rfl, rfl, rfl, w1⟩ := open_int Try.underlying2 (hval 1 2 v1 rfl rfl) h1
  have k2 := h2
  have lt2 : ∀ x ∈ p2, x.block < W.heap.size := by obtain ⟨m, hm⟩ := k2; exact DataW.trod_lt m _ _ _ hm
  obtain ⟨kc0, kc1, kc2, kc3, y0, y1, y2, y3, mm, rfl, rfl, rfl, hy0, hy1, hy2, hy3⟩ := open_agg4 Try.underlying27 (by kernel_rfl) cellsC (hval 2 27 v2 rfl rfl) h2
  obtain ⟨u2, e0, _, wu⟩ := DataW.trod_int Try.underlying2 hy0
  obtain ⟨g2, e1, _, wg⟩ := DataW.trod_int Try.underlying2 hy1
  simp at e0 e1
  subst e0 e1
  obtain ⟨a2, l2, c2, zs2, e2, w0⟩ : ∃ a len cap zs, kc2 = .slice a len cap ∧ IsRow W a len cap zs := by
    rcases open_ints Try.underlying25 Try.underlying2 cellsI hy2 with ⟨hcs, _⟩ | ⟨x, l, c, zs, hcs, _, hl, hm, hz, _, hcell, hwz⟩
    · exact ⟨none, 0, 0, [], by simpa using hcs, .inl ⟨rfl, rfl, rfl, rfl⟩⟩
    · exact ⟨some x, l, c, zs, by simpa using hcs, .inr ⟨x, rfl, hl, hm, by simpa using hz, hcell, hwz⟩⟩
  subst e2
  obtain ⟨r2, e3⟩ : ∃ r, kc3 = .bool r := by
    obtain ⟨r, e3, _⟩ := DataW.trod_bool Try.underlying4 hy3
    exact ⟨r, by simpa using e3⟩
  subst e3
  obtain ⟨pi2, bl2⟩ := ints_of w0
  clear hA0 hval0
  refine (walk u0 g0 o0 au0 lu0 cu0 ag0 lg0 cg0 r0 m0 us0 gs0 n1 u2 g2 a2 l2 c2 r2 _ W pu0 pg0 bu0 bg0 w1 pi2 bl2).mono fun e W' ⟨he, bel⟩ => ?_
  subst he
  exact ⟨_, rfl, _, _, _, [], _, [], hW', trodAll_mk1 (shut_bool Try.underlying4 _), (trodAll_cons_mk (Below.trod laidOut (by kernel_rfl) (of_decide_eq_true (by kernel_rfl)) k0 bel lt0) (trodAll_cons_mk (Below.trod laidOut (by kernel_rfl) (of_decide_eq_true (by kernel_rfl)) k1 bel lt1) (trodAll_cons_mk (Below.trod laidOut (by kernel_rfl) (of_decide_eq_true (by kernel_rfl)) k2 bel lt2) trodAll_mk0))), rfl, bel.frame _, fun h => by cases h⟩

theorem over : Rows.fnExactOneGroupRow.holds Try.pinned (OpenSpec.ofChange Rows.fnExactOneGroupSpec) :=
  OpenClaim.holds_of_wide 3 Try.f3 rfl rfl rfl rfl rfl rfl rfl ⟨rfl, rfl, rfl, rfl, rfl⟩ rfl rfl rfl rfl rfl (by kernel_rfl) Try.func3 (by kernel_rfl)
    (of_decide_eq_true (by kernel_rfl)) (by unfold Func.isWrapper; first | (rw [if_pos (by decide +kernel)]; kernel_rfl) | (rw [if_neg (by decide +kernel)]; exact ⟨rfl, rfl⟩))
    (fun os started H enc _ => lifted os started H enc)

theorem proved : Rows.FnExactOneGroupSaid := over
end Go.Proofs.Ytgojbilbkfilgab.fnExactOneGroup
namespace Go.Proofs.Ytgojbilbkfilgab
theorem fnExactOneGroup_holds : Rows.FnExactOneGroupSaid := fnExactOneGroup.proved
end Go.Proofs.Ytgojbilbkfilgab
