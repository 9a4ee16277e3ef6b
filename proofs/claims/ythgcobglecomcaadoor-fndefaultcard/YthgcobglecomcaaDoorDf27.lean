/- Laid together: GrM. -/
import Derived.Test.YthgcobglecomcaaDoorRows
import Derived.WalkKit
import Derived.WalkSpells
import Derived.Maps.OwnSet
import Derived.DeepKeys4
import Derived.Below
/- What is allowed to whom, in a map: its block, by what it says of everybody. -/
namespace Go.Proofs.YthgcobglecomcaaDoor
open Go.RowKit Go.Maps
set_option linter.unusedVariables false
theorem gr_laidOut : laidOutB Tryd.prog = true := by kernel_rfl
theorem gr_row : 65 < Tryd.prog.types.size := of_decide_eq_true (by kernel_rfl)
theorem gr_wide : (match Tryd.prog.underlying 65 with | some (.array _ _) | some (.struct _) => true | _ => false) = true := by rw [Tryd.underlying65]
theorem gr_key2 : Tryd.prog.keyTypeAt 2 65 = true := by kernel_rfl
set_option maxRecDepth 100000 in
theorem gr_keyed : Keyed Tryd.prog 65 := Keyed.of_law (deep_law_laid gr_laidOut (m := 2) (by decide) gr_row gr_key2 gr_wide)
theorem gr_zero (w : World) : (zeroValue 2).run Tryd.prog w = .ok (.int .i64 0) w := by kernel_rfl
/-- Whom, as a key. -/
def kW (x y : Int) : Lit := .string (keyBytes [.int .i64 x, .int .i64 y])
theorem kW_of {x y : Int} (wx : (Lit.int .i64 x).wf = true) (wy : (Lit.int .i64 y).wf = true) : keyOf Tryd.prog 65 (.agg #[.int .i64 x, .int .i64 y]) = some (kW x y) := by
  have hkt : Tryd.prog.keyType 65 = true := by kernel_rfl
  have hc : Tryd.prog.cellsOf 65 = 2 := by kernel_rfl
  have hi : Tryd.prog.cellsOf 2 = 1 := by kernel_rfl
  obtain ⟨m, hm⟩ : ∃ m, Tryd.prog.types.size = m + 1 := ⟨Tryd.prog.types.size - 1, by kernel_rfl⟩
  unfold keyOf
  simp only [Tryd.underlying65]
  rw [if_pos (by simp [hkt, Value.formed, Tryd.underlying65, hc]), hm]
  unfold Program.keyLits
  simp only [Tryd.underlying65, Value.cells]
  simp [hc, hi, Program.keyLits, Tryd.underlying2, wx, wy, kW]
theorem kW_inj {x y x2 y2 : Int} (wx : (Lit.int .i64 x).wf = true) (wy : (Lit.int .i64 y).wf = true) (wx2 : (Lit.int .i64 x2).wf = true) (wy2 : (Lit.int .i64 y2).wf = true) (h : kW x y = kW x2 y2) : x = x2 ∧ y = y2 := by
  have h1 := kW_of wx wy
  rw [h] at h1
  have h2 := gr_keyed.inj h1 (kW_of wx2 wy2)
  simpa using h2
/-- Block b is a map of n entries at most, and says φ of everybody. -/
def GM (w : World) (b n : Nat) (φ : Int → Int → Int) : Prop := ∃ D : DataW Unit, w.ownsMap Tryd.prog 65 (plainElem Tryd.prog 2) b n D ∧ ∀ x y, (Lit.int .i64 x).wf = true → (Lit.int .i64 y).wf = true → D.atKey (kW x y) (.lit (.int .i64 0)) = .lit (.int .i64 (φ x y))
theorem gm_made (w : World) : GM (w.alloc (.map #[] 0)) w.heap.size 0 (fun _ _ => 0) := ⟨.map [], World.ownsMap_made w _ _ _, fun x y _ _ => rfl⟩
theorem GM.lt {w : World} {b n : Nat} {φ : Int → Int → Int} (h : GM w b n φ) : b < w.heap.size := by
  obtain ⟨D, h1, _⟩ := h
  exact h1.lt
theorem GM.kept {w w' : World} {b n : Nat} {φ : Int → Int → Int} (h : GM w b n φ) (hb : w'.heap[b]? = w.heap[b]?) : GM w' b n φ := by
  obtain ⟨D, ⟨es, clock, h1, h2, h3, h4⟩, h5⟩ := h
  exact ⟨D, ⟨es, clock, hb.trans h1, h2, h3, h4⟩, h5⟩
theorem GM.below {w w' : World} {b n : Nat} {φ : Int → Int → Int} (h : GM w b n φ) (hb : Below w.heap.size w w') : GM w' b n φ := h.kept (hb.block b h.lt)
theorem GM.drew {w : World} {b n : Nat} {φ : Int → Int → Int} (h : GM w b n φ) : GM w.drew b n φ := h
/-- m[k]. -/
theorem GM.look {w : World} {b n : Nat} {φ : Int → Int → Int} (h : GM w b n φ) {x y : Int} (wx : (Lit.int .i64 x).wf = true) (wy : (Lit.int .i64 y).wf = true) : (Instr.lookup 60 (.map (some b)) (.agg #[.int .i64 x, .int .i64 y]) false).run Tryd.prog w = .ok (.int .i64 (φ x y)) w := by
  obtain ⟨D, h1, h2⟩ := h
  obtain ⟨c, hrun, hat, _⟩ := h1.lookup_int gr_keyed Tryd.underlying60 Tryd.underlying2 (gr_zero w) (kW_of wx wy)
  rw [h2 x y wx wy] at hat
  have : c = φ x y := by simpa using hat.symm
  rw [hrun, this]
/-- m[k] = v. -/
theorem GM.put {w : World} {b n : Nat} {φ : Int → Int → Int} (h : GM w b n φ) (hn : n < 1000) {x y v : Int} (wx : (Lit.int .i64 x).wf = true) (wy : (Lit.int .i64 y).wf = true) (wv : (Lit.int .i64 v).wf = true) :
    ∃ w', (Instr.mapUpdate 60 (.map (some b)) (.agg #[.int .i64 x, .int .i64 y]) (.int .i64 v)).run Tryd.prog w = .ok () w' ∧ GM w' b (n + 1) (fun x2 y2 => if x2 = x ∧ y2 = y then v else φ x2 y2) ∧ w.grownBy w' (some b) := by
  obtain ⟨D, h1, h2⟩ := h
  obtain ⟨w', hrun, h3, h4⟩ := h1.update gr_keyed Tryd.underlying60 (show n < maxLen by unfold maxLen; omega) (kW_of wx wy) (plainElem_int Tryd.underlying2 wv)
  refine ⟨w', hrun, ⟨_, h3, fun x2 y2 wx2 wy2 => ?_⟩, h4⟩
  show _ = DataW.lit (Lit.int .i64 (if x2 = x ∧ y2 = y then v else φ x2 y2))
  by_cases e : x2 = x ∧ y2 = y
  · obtain ⟨rfl, rfl⟩ := e
    rw [if_pos ⟨rfl, rfl⟩]
    exact atKey_put_same h1.isMap (gr_keyed.key (kW_of wx wy)) _ _
  · rw [if_neg e, atKey_put_other (fun he => e (kW_inj wx2 wy2 wx wy he))]
    exact h2 x2 y2 wx2 wy2
/-- delete(m, k). -/
theorem GM.drop {w : World} {b n : Nat} {φ : Int → Int → Int} (h : GM w b n φ) (ty : TypeId) {x y : Int} (wx : (Lit.int .i64 x).wf = true) (wy : (Lit.int .i64 y).wf = true) :
    ∃ w', (Builtin.delete_ #[60, 65] ty #[.map (some b), .agg #[.int .i64 x, .int .i64 y]]).run Tryd.prog w = .ok (.tuple #[]) w' ∧ GM w' b n (fun x2 y2 => if x2 = x ∧ y2 = y then 0 else φ x2 y2) ∧ w.grownBy w' (some b) := by
  obtain ⟨D, h1, h2⟩ := h
  obtain ⟨w', hrun, h3, h4⟩ := h1.drop gr_keyed Tryd.underlying60 (kW_of wx wy) ty
  refine ⟨w', hrun, ⟨_, h3, fun x2 y2 wx2 wy2 => ?_⟩, h4.grown⟩
  show _ = DataW.lit (Lit.int .i64 (if x2 = x ∧ y2 = y then 0 else φ x2 y2))
  by_cases e : x2 = x ∧ y2 = y
  · obtain ⟨rfl, rfl⟩ := e
    rw [if_pos ⟨rfl, rfl⟩]
    exact atKey_del_same _
  · rw [if_neg e, atKey_del_other (fun he => e (kW_inj wx2 wy2 wx wy he))]
    exact h2 x2 y2 wx2 wy2
end Go.Proofs.YthgcobglecomcaaDoor
