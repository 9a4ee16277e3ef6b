/- At every Cred whose list holds at most 2^20 numbers, and at every number, the program's InGroup answers as the specification's, and leaves what was handed in as it was (of a longer list the law asks nothing). No condition. -/
import Derived.Test.YtialmeknnlkelafRows
import Derived.WalkKit
import Derived.Test.YtialmeknnlkelafLawInGroup
import Derived.WalkSpells
import Derived.WalkLawsBesides
import Derived.ProofKit
import Derived.OpenShut
import Derived.ShutString
import Derived.ChangeOld
import Derived.Below
import Derived.Lib.SmallJoins
namespace Go.Proofs.Ytialmeknnlkelaf.fnExactInGroup
open Go.ChangeShapes Go.WideShapes Go.ChangeAt Go.RowKit Go.Joins
open Go.ChangeMaps (open_string shut_string)
set_option linter.unusedVariables false

theorem own : ownKnob Try.prog.godebug = none := by kernel_rfl
theorem laidOut : laidOutB Try.prog = true := by kernel_rfl
theorem cellsC : Try.prog.cellsOf 33 = 4 := by kernel_rfl
theorem cellsI : Try.prog.cellsOf 2 = 1 := by kernel_rfl

/-- What is known of the list that came in: it is nil, or a row of numbers. -/
def IsRow (w : World) (a : Option Addr) (len cap : Nat) (zs : List Int) : Prop :=
  (a = none ∧ len = 0 ∧ cap = 0 ∧ zs = []) ∨
  ∃ x, a = some x ∧ len ≤ cap ∧ cap ≤ maxLen ∧ zs.length = cap ∧ (∀ i, i < zs.length → w.cell? (x.add i) = some (.int .i64 (zs.getD i 0))) ∧ ∀ n ∈ zs, (Lit.int .i64 n).wf = true

/-! ### The walk: the law returns true, and writes nothing that was there. -/
theorem walk (u g : Int) (a : Option Addr) (len cap : Nat) (r : Bool) (a1 : Int) (zs : List Int) (w : World) (h0 : IsRow w a len cap zs) (w1 : (Lit.int .i64 a1).wf = true) :
    Calls Try.prog 8 #[.agg #[.int .i64 u, .int .i64 g, .slice a len cap, .bool r], .int .i64 a1] w fun e w' => e = .returned (.bool true) ∧ Below w.heap.size w w' := by
  have hi : Ints a len (fun i => zs.getD i 0) w := by
    intro hp
    rcases h0 with ⟨_, rfl, _, _⟩ | ⟨⟨b, off, spot⟩, rfl, hlc, _, hz, hcell, _⟩
    · omega
    · have h0 := hcell 0 (by omega)
      have hs : spot = none := by simpa [Addr.add] using World.cell?_spot h0
      subst hs
      refine ⟨b, off, rfl, ?_, fun i hi => ?_⟩
      · have h1 : w.cell? ⟨b, off, none⟩ = some (.int .i64 (zs.getD 0 0)) := by simpa [Addr.add] using h0
        exact block_lt_of_cell h1
      · have h2 := hcell i (by omega)
        by_cases e : i = 0
        · subst e; simpa [Addr.add] using h2
        · simpa [Addr.add, e] using h2
  have hm : len ≤ 9223372036854775807 := by
    rcases h0 with ⟨_, rfl, _, _⟩ | ⟨_, _, hlc, hc, _⟩
    · omega
    · unfold maxLen at hc
      omega
  by_cases hl : len ≤ 1048576
  · exact inGroup_short u g a len cap r a1 (fun i => zs.getD i 0) hl w hi
  · exact inGroup_long u g a len cap r a1 (by omega) hm w

/-! ### The row's step -/
set_option maxRecDepth 100000 in
theorem lifted (os : Os) (started : os.Started) (H : Type) (enc : TypeId × Value → H) :
    ReturnsInHanded {} Try.checked os 8 .any (Rows.fnExactInGroupSpec.pre6 enc Try.prog Try.f8 Rows.fnExactInGroupRow.domain false) (Rows.fnExactInGroupSpec.post enc Try.prog Try.f8 false true false false) := by
  refine returnsInHanded_of_change (C := Try.checked) own started (by kernel_rfl) Try.func8
    (ChangeSpec.witness6 (enc := enc) (C := Try.checked) false ⟨#[], #[.agg #[.int .i64 0, .int .i64 0, .slice none 0 0, .bool false], .int .i64 0], []⟩ 8 (by kernel_rfl) (by kernel_rfl) (by kernel_rfl) (by kernel_rfl)) ?_
  intro W base args ds gs before hval0 hW hcnd _
  have hval : ∀ (j : Nat) t v, Try.f8.params[j]? = some t → args[j]? = some v → Value.okWide Try.prog W .any base t v := hval0
  have hW' := hW
  obtain ⟨p, q, hA0, hV, rfl, hfz, hnd⟩ := hW
  have hA : DataW.TrodAll enc Try.prog W 0 (fun _ => true) true Try.f8.params.toList args.toList ds p := hA0
  rw [Try.params8] at hA hval
  obtain ⟨v0, vs0, d0, ds0, p0, q0, hargs, rfl, rfl, h0, r0⟩ := trodAll_cons hA
  obtain ⟨v1, vs1, d1, ds1, p1, q1, rfl, rfl, rfl, h1, r1⟩ := trodAll_cons r0
  obtain ⟨rfl, rfl, rfl⟩ := trodAll_nil r1
  obtain rfl : args = #[v0, v1] := by cases args; simp_all
  obtain ⟨rfl, rfl⟩ := trodVars_none hV
  have k0 := h0
  have lt0 : ∀ x ∈ p0, x.block < W.heap.size := by obtain ⟨m, hm⟩ := k0; exact DataW.trod_lt m _ _ _ hm
  obtain ⟨c0, c1, c2, c3, y0, y1, y2, y3, m, rfl, rfl, rfl, hy0, hy1, hy2, hy3⟩ := open_agg4 Try.underlying33 (by kernel_rfl) cellsC (hval 0 33 v0 rfl rfl) h0
  obtain ⟨u, e0, _, wu⟩ := DataW.trod_int Try.underlying2 hy0
  obtain ⟨g, e1, _, wg⟩ := DataW.trod_int Try.underlying2 hy1
  simp at e0 e1
  subst e0 e1
  obtain ⟨a, len, cap, zs, e2, w0⟩ : ∃ a len cap zs, c2 = .slice a len cap ∧ IsRow W a len cap zs := by
    rcases open_ints Try.underlying31 Try.underlying2 cellsI hy2 with ⟨hcs, _⟩ | ⟨x, l, c, zs, hcs, _, hl, hm, hz, _, hcell, hwz⟩
    · exact ⟨none, 0, 0, [], by simpa using hcs, .inl ⟨rfl, rfl, rfl, rfl⟩⟩
    · exact ⟨some x, l, c, zs, by simpa using hcs, .inr ⟨x, rfl, hl, hm, by simpa using hz, hcell, hwz⟩⟩
  subst e2
  obtain ⟨r, e3⟩ : ∃ r, c3 = .bool r := by
    obtain ⟨r, e3, _⟩ := DataW.trod_bool Try.underlying4 hy3
    exact ⟨r, by simpa using e3⟩
  subst e3
  have k1 := h1
  have lt1 : ∀ x ∈ p1, x.block < W.heap.size := by obtain ⟨m, hm⟩ := k1; exact DataW.trod_lt m _ _ _ hm
  obtain ⟨a1, rfl, rfl, rfl, w1⟩ := open_int Try.underlying2 (hval 1 2 v1 rfl rfl) h1
  clear hA0 hval0
  refine (walk u g a len cap r a1 zs W w0 w1).mono fun e W' ⟨he, bel⟩ => ?_
  subst he
  exact ⟨_, rfl, _, _, _, [], _, [], hW', trodAll_mk1 (shut_bool Try.underlying4 _), (trodAll_cons_mk (Below.trod laidOut (by kernel_rfl) (of_decide_eq_true (by kernel_rfl)) k0 bel lt0) (trodAll_cons_mk (Below.trod laidOut (by kernel_rfl) (of_decide_eq_true (by kernel_rfl)) k1 bel lt1) trodAll_mk0)), rfl, bel.frame _, fun h => by cases h⟩

theorem over : Rows.fnExactInGroupRow.holds Try.pinned (OpenSpec.ofChange Rows.fnExactInGroupSpec) :=
  OpenClaim.holds_of_wide 8 Try.f8 rfl rfl rfl rfl rfl rfl rfl ⟨rfl, rfl, rfl, rfl, rfl⟩ rfl rfl rfl rfl rfl (by kernel_rfl) Try.func8 (by kernel_rfl)
    (of_decide_eq_true (by kernel_rfl)) (by unfold Func.isWrapper; first | (rw [if_pos (by decide +kernel)]; kernel_rfl) | (rw [if_neg (by decide +kernel)]; exact ⟨rfl, rfl⟩))
    (fun os started H enc _ => lifted os started H enc)

theorem proved : Rows.FnExactInGroupSaid := over
end Go.Proofs.Ytialmeknnlkelaf.fnExactInGroup
namespace Go.Proofs.Ytialmeknnlkelaf
theorem fnExactInGroup_holds : Rows.FnExactInGroupSaid := fnExactInGroup.proved
end Go.Proofs.Ytialmeknnlkelaf
