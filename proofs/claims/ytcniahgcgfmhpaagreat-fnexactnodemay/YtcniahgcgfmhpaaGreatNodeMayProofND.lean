/- NodeMay of the program answers as the specification does, at every tree, every Cred and every two numbers; it changes nothing of what was handed in. -/
import Derived.Test.YtcniahgcgfmhpaaGreatRows
import Derived.WalkKit
import Derived.Test.YtcniahgcgfmhpaaGreatND43
import Derived.Test.YtcniahgcgfmhpaaGreatND44
import Derived.WalkSpells
import Derived.WalkLawsBesides
import Derived.ProofKit
import Derived.OpenShut
import Derived.ShutString
import Derived.ChangeOld
import Derived.Below
import Derived.Lib.SmallJoins
namespace Go.Proofs.YtcniahgcgfmhpaaGreat.fnExactNodeMay
open Go.ChangeShapes Go.WideShapes Go.ChangeAt Go.RowKit Go.Joins
open Go.ChangeMaps (open_string shut_string)
set_option linter.unusedVariables false

theorem own : ownKnob Tryz.prog.godebug = none := by kernel_rfl
theorem laidOut : laidOutB Tryz.prog = true := by kernel_rfl
theorem cellsI : Tryz.prog.cellsOf 2 = 1 := by kernel_rfl
theorem cellsC : Tryz.prog.cellsOf 27 = 4 := by kernel_rfl
/-- What is known of the list of numbers that came in: it is nil, or a row of numbers. -/
def IsRow (w : World) (a : Option Addr) (len cap : Nat) (zs : List Int) : Prop :=
  (a = none ∧ len = 0 ∧ cap = 0 ∧ zs = []) ∨
  ∃ x, a = some x ∧ len ≤ cap ∧ cap ≤ maxLen ∧ zs.length = cap ∧ (∀ i, i < zs.length → w.cell? (x.add i) = some (.int .i64 (zs.getD i 0))) ∧ ∀ n ∈ zs, (Lit.int .i64 n).wf = true
theorem ints_of {w : World} {a : Option Addr} {len cap : Nat} {zs : List Int} (h0 : IsRow w a len cap zs) : Ints a len (fun i => zs.getD i 0) w ∧ len ≤ 9223372036854775807 := by
  constructor
  · intro hp
    rcases h0 with ⟨_, rfl, _, _⟩ | ⟨⟨b, off, spot⟩, rfl, hlc, _, hz, hcell, _⟩
    · omega
    · have h0 := hcell 0 (by omega)
      have hs : spot = none := by simpa [Addr.add] using World.cell?_spot h0
      subst hs
      refine ⟨b, off, rfl, ?_, fun i hi => ?_⟩
      · have h1 : w.cell? ⟨b, off, none⟩ = some (.int .i64 (zs.getD 0 0)) := by simpa [Addr.add] using h0
        exact block_lt_of_cell h1
      · have h2 := hcell i (by omega)
        by_cases e : i = 0
        · subst e; simpa [Addr.add] using h2
        · simpa [Addr.add, e] using h2
  · rcases h0 with ⟨_, rfl, _, _⟩ | ⟨_, _, hlc, hc, _⟩
    · omega
    · unfold maxLen at hc
      omega
theorem cellsT : Tryz.prog.cellsOf 24 = 2 := by kernel_rfl
theorem two_of {cs : List Value} (h : cs.length = 2) : ∃ x y, cs = [x, y] := by
  match cs, h with
  | [x, y], _ => exact ⟨x, y, rfl⟩

/-! ### The walk: the law returns true, and writes nothing that was there. -/
theorem walk (a0 : Option Addr) (l0 c0 : Nat) (xs0 : List Nd) (now0 : Int) (u1 g1 : Int) (a1 : Option Addr) (l1 c1 : Nat) (r1 : Bool) (f1 : Nat → Int) (n2 : Int) (n3 : Int) (w : World) (ps0 : Nds a0 l0 xs0 w) (bs0 : l0 ≤ 9223372036854775807) (fs0 : ∀ i, i < l0 → NdFit 9223372036854775807 (ndAt xs0 i)) (pi1 : Ints a1 l1 f1 w) (bl1 : l1 ≤ 9223372036854775807) (w2 : (Lit.int .i64 n2).wf = true) (w3 : (Lit.int .i64 n3).wf = true) :
    Calls Tryz.prog 3 #[.agg #[.slice a0 l0 c0, .int .i64 now0], .agg #[.int .i64 u1, .int .i64 g1, .slice a1 l1 c1, .bool r1], .int .i64 n2, .int .i64 n3] w fun e w' => e = .returned (.bool true) ∧ Below w.heap.size w w' := by
  exact nodeMay_any a0 l0 c0 xs0 now0 u1 g1 a1 l1 c1 r1 f1 n2 n3 bs0 fs0 bl1 w ps0 pi1

/-! ### The row's step -/
set_option maxRecDepth 100000 in
set_option maxHeartbeats 2000000 in
theorem lifted (os : Os) (started : os.Started) (H : Type) (enc : TypeId × Value → H) :
    ReturnsInHanded {} Tryz.checked os 3 .any (Rows.fnExactNodeMaySpec.pre6 enc Tryz.prog Tryz.f3 Rows.fnExactNodeMayRow.domain false) (Rows.fnExactNodeMaySpec.post enc Tryz.prog Tryz.f3 false true false false) := by
  refine returnsInHanded_of_change (C := Tryz.checked) own started (by kernel_rfl) Tryz.func3
    (ChangeSpec.witness6 (enc := enc) (C := Tryz.checked) false ⟨#[], #[.agg #[.slice none 0 0, .int .i64 0], .agg #[.int .i64 0, .int .i64 0, .slice none 0 0, .bool false], .int .i64 0, .int .i64 0], []⟩ 8 (by kernel_rfl) (by kernel_rfl) (by kernel_rfl) (by kernel_rfl)) ?_
  intro W base args ds gs before hval0 hW hcnd _
  have hval : ∀ (j : Nat) t v, Tryz.f3.params[j]? = some t → args[j]? = some v → Value.okWide Tryz.prog W .any base t v := hval0
  have hW' := hW
  obtain ⟨p, q, hA0, hV, rfl, hfz, hnd⟩ := hW
  have hA : DataW.TrodAll enc Tryz.prog W 0 (fun _ => true) true Tryz.f3.params.toList args.toList ds p := hA0
  rw [Tryz.params3] at hA hval
  obtain ⟨v0, vs0, d0, ds0, p0, q0, hargs, rfl, rfl, h0, rr0⟩ := trodAll_cons hA
  obtain ⟨v1, vs1, d1, ds1, p1, q1, rfl, rfl, rfl, h1, rr1⟩ := trodAll_cons rr0
  obtain ⟨v2, vs2, d2, ds2, p2, q2, rfl, rfl, rfl, h2, rr2⟩ := trodAll_cons rr1
  obtain ⟨v3, vs3, d3, ds3, p3, q3, rfl, rfl, rfl, h3, rr3⟩ := trodAll_cons rr2
  obtain ⟨rfl, rfl, rfl⟩ := trodAll_nil rr3
  obtain rfl : args = #[v0, v1, v2, v3] := by cases args; simp_all
  obtain ⟨rfl, rfl⟩ := trodVars_none hV
  have k0 := h0
  have lt0 : ∀ x ∈ p0, x.block < W.heap.size := by obtain ⟨m, hm⟩ := k0; exact DataW.trod_lt m _ _ _ hm
  obtain ⟨cs0, nn0, rfl, hcl0, hcf0⟩ := open_aggN Tryz.underlying24 (by kernel_rfl) cellsT (hval 0 24 v0 rfl rfl) h0
  obtain ⟨q0a, q0b, rfl⟩ := two_of hcl0
  obtain ⟨ya0, ta0⟩ := hcf0 0 _ q0a rfl rfl
  obtain ⟨yb0, tb0⟩ := hcf0 1 _ q0b rfl rfl
  obtain ⟨a0, l0, c0, xs0, rfl, ps0, bs0, fs0⟩ := open_nds ta0
  obtain ⟨now0, en0, _, _⟩ := DataW.trod_int Tryz.underlying2 tb0
  simp at en0
  subst en0
  have k1 := h1
  have lt1 : ∀ x ∈ p1, x.block < W.heap.size := by obtain ⟨m, hm⟩ := k1; exact DataW.trod_lt m _ _ _ hm
  obtain ⟨kc0, kc1, kc2, kc3, y0, y1, y2, y3, mm, rfl, rfl, rfl, hy0, hy1, hy2, hy3⟩ := open_agg4 Tryz.underlying27 (by kernel_rfl) cellsC (hval 1 27 v1 rfl rfl) h1
  obtain ⟨u1, e0, _, wu⟩ := DataW.trod_int Tryz.underlying2 hy0
  obtain ⟨g1, e1, _, wg⟩ := DataW.trod_int Tryz.underlying2 hy1
  simp at e0 e1
  subst e0 e1
  obtain ⟨a1, l1, c1, zs1, e2, w0⟩ : ∃ a len cap zs, kc2 = .slice a len cap ∧ IsRow W a len cap zs := by
    rcases open_ints Tryz.underlying25 Tryz.underlying2 cellsI hy2 with ⟨hcs, _⟩ | ⟨x, l, c, zs, hcs, _, hl, hm, hz, _, hcell, hwz⟩
    · exact ⟨none, 0, 0, [], by simpa using hcs, .inl ⟨rfl, rfl, rfl, rfl⟩⟩
    · exact ⟨some x, l, c, zs, by simpa using hcs, .inr ⟨x, rfl, hl, hm, by simpa using hz, hcell, hwz⟩⟩
  subst e2
  obtain ⟨r1, e3⟩ : ∃ r, kc3 = .bool r := by
    obtain ⟨r, e3, _⟩ := DataW.trod_bool Tryz.underlying4 hy3
    exact ⟨r, by simpa using e3⟩
  subst e3
  obtain ⟨pi1, bl1⟩ := ints_of w0
  have k2 := h2
  have lt2 : ∀ x ∈ p2, x.block < W.heap.size := by obtain ⟨m, hm⟩ := k2; exact DataW.trod_lt m _ _ _ hm
  obtain ⟨n2, rfl, rfl, rfl, w2⟩ := open_int Tryz.underlying2 (hval 2 2 v2 rfl rfl) h2
  have k3 := h3
  have lt3 : ∀ x ∈ p3, x.block < W.heap.size := by obtain ⟨m, hm⟩ := k3; exact DataW.trod_lt m _ _ _ hm
  obtain ⟨n3, rfl, rfl, rfl, w3⟩ := open_int Tryz.underlying2 (hval 3 2 v3 rfl rfl) h3
  clear hA0 hval0
  refine (walk a0 l0 c0 xs0 now0 u1 g1 a1 l1 c1 r1 _ n2 n3 W ps0 bs0 fs0 pi1 bl1 w2 w3).mono fun e W' ⟨he, bel⟩ => ?_
  subst he
  exact ⟨_, rfl, _, _, _, [], _, [], hW', trodAll_mk1 (shut_bool Tryz.underlying4 _), (trodAll_cons_mk (Below.trod laidOut (by kernel_rfl) (of_decide_eq_true (by kernel_rfl)) k0 bel lt0) (trodAll_cons_mk (Below.trod laidOut (by kernel_rfl) (of_decide_eq_true (by kernel_rfl)) k1 bel lt1) (trodAll_cons_mk (Below.trod laidOut (by kernel_rfl) (of_decide_eq_true (by kernel_rfl)) k2 bel lt2) (trodAll_cons_mk (Below.trod laidOut (by kernel_rfl) (of_decide_eq_true (by kernel_rfl)) k3 bel lt3) trodAll_mk0)))), rfl, bel.frame _, fun h => by cases h⟩

theorem over : Rows.fnExactNodeMayRow.holds Tryz.pinned (OpenSpec.ofChange Rows.fnExactNodeMaySpec) :=
  OpenClaim.holds_of_wide 3 Tryz.f3 rfl rfl rfl rfl rfl rfl rfl ⟨rfl, rfl, rfl, rfl, rfl⟩ rfl rfl rfl rfl rfl (by kernel_rfl) Tryz.func3 (by kernel_rfl)
    (of_decide_eq_true (by kernel_rfl)) (by unfold Func.isWrapper; first | (rw [if_pos (by decide +kernel)]; kernel_rfl) | (rw [if_neg (by decide +kernel)]; exact ⟨rfl, rfl⟩))
    (fun os started H enc _ => lifted os started H enc)

theorem proved : Rows.FnExactNodeMaySaid := over
end Go.Proofs.YtcniahgcgfmhpaaGreat.fnExactNodeMay
namespace Go.Proofs.YtcniahgcgfmhpaaGreat
theorem fnExactNodeMay_holds : Rows.FnExactNodeMaySaid := fnExactNodeMay.proved
end Go.Proofs.YtcniahgcgfmhpaaGreat
