/- Laid together: BmW, BmLaid. -/
import Derived.WalkKit
import Derived.Below
import Derived.Test.YtdidbaadladkpaaDoorRows
import Derived.Lib.SmallJoins
import Derived.LaidMore
import Derived.OpenShut
import Derived.ChangeVars
import Derived.MakeChecks
import Derived.Stop.Joined
import Derived.ProofKit
/- The variable impl.bitMasks, its cells. -/
namespace Go.Proofs.YtdidbaadladkpaaDoor
open Go.RowKit
/-- The variable impl.bitMasks holds what its text lays. -/
structure PlW (w : World) : Prop where
  lt : 0 < w.heap.size
  c0 : w.cell? ⟨0, 0, none⟩ = some (.int .i64 4)
  c1 : w.cell? ⟨0, 1, none⟩ = some (.int .i64 1)
  c2 : w.cell? ⟨0, 2, none⟩ = some (.int .i64 2)
  c3 : w.cell? ⟨0, 3, none⟩ = some (.int .i64 10)
  c4 : w.cell? ⟨0, 4, none⟩ = some (.int .i64 1)
  c5 : w.cell? ⟨0, 5, none⟩ = some (.int .i64 4)
theorem PlW.below {w w' : World} (h : PlW w) (hb : Below w.heap.size w w') : PlW w' :=
  ⟨Nat.lt_of_lt_of_le h.lt hb.size, (hb.cell (p := ⟨0, 0, none⟩) h.lt).trans h.c0, (hb.cell (p := ⟨0, 1, none⟩) h.lt).trans h.c1, (hb.cell (p := ⟨0, 2, none⟩) h.lt).trans h.c2, (hb.cell (p := ⟨0, 3, none⟩) h.lt).trans h.c3, (hb.cell (p := ⟨0, 4, none⟩) h.lt).trans h.c4, (hb.cell (p := ⟨0, 5, none⟩) h.lt).trans h.c5⟩
end Go.Proofs.YtdidbaadladkpaaDoor
/- What the row's condition on impl.bitMasks gives a walk: the variable's six cells; the variable read in a later world; a world that meets the condition. -/
namespace Go.Proofs.YtdidbaadladkpaaDoor
open Go.ChangeShapes Go.WideShapes Go.RowKit Go.Joins
set_option linter.unusedVariables false
abbrev laidP : List (String × DataW Unit) := [("loop.example/g00622/impl.bitMasks", Rows.laid_loop_example_g00622_impl_bitMasks)]
theorem gP : Tryd.prog.globalNamed "loop.example/g00622/impl.bitMasks" = some 0 := by kernel_rfl
theorem tP : (Tryd.prog.globals[0]?).map (·.type) = some 71 := by kernel_rfl
theorem cP1 : Tryd.prog.cellsOf 70 = 2 := by kernel_rfl
theorem cP3 : Tryd.prog.cellsOf 71 = 6 := by kernel_rfl
theorem cPi : Tryd.prog.cellsOf 2 = 1 := by kernel_rfl
theorem list6 {α : Type} {l : List α} (h : l.length = 6) : ∃ c0 c1 c2 c3 c4 c5, l = [c0, c1, c2, c3, c4, c5] := by
  match l, h with
  | [c0, c1, c2, c3, c4, c5], _ => exact ⟨c0, c1, c2, c3, c4, c5, rfl⟩
/-- The six values. -/
abbrev placesV : List Value := [.int .i64 4, .int .i64 1, .int .i64 2, .int .i64 10, .int .i64 1, .int .i64 4]
theorem place_cells {H : Type} {enc : TypeId × Value → H} {W : World} {sp : Nat → Bool} {hd : Bool} {n : Nat} {a b : Value} {y : DataW H × List MemPlace} {s x : Int}
    (h : DataW.trod enc Tryd.prog W 0 sp hd n 70 [a, b] = some y) (hy : y.1 = .agg [.lit (.int .i64 s), .lit (.int .i64 x)]) :
    a = .int .i64 s ∧ b = .int .i64 x := by
  obtain ⟨y0, y1, m, rfl, _, h0, h1⟩ := trod_struct2 Tryd.underlying70 h
  simp only [DataW.agg.injEq, List.cons.injEq, and_true] at hy
  obtain ⟨e0, e1⟩ := hy
  simp [cPi] at h0 h1
  obtain ⟨k0, l0, m0, _⟩ := DataW.trod_int Tryd.underlying2 h0
  obtain ⟨k1, l1, m1, _⟩ := DataW.trod_int Tryd.underlying2 h1
  rw [m0] at e0
  rw [m1] at e1
  simp at e0 e1 l0 l1
  subst e0 e1
  exact ⟨l0, l1⟩
theorem places_cells {H : Type} {enc : TypeId × Value → H} {W : World} {sp : Nat → Bool} {hd : Bool} {n : Nat} {cs : List Value} {p : List MemPlace}
    (h : DataW.trod enc Tryd.prog W 0 sp hd n 71 cs = some (Rows.laid_loop_example_g00622_impl_bitMasks, p)) : cs = placesV := by
  obtain ⟨xs, m, _, hx, hlen, hn, hel⟩ := DataW.trod_array Tryd.underlying71 h
  rw [cP3] at hlen
  obtain ⟨c0, c1, c2, c3, c4, c5, rfl⟩ := list6 hlen
  match xs, hn with
  | [x0, x1, x2], _ =>
    simp only [Rows.laid_loop_example_g00622_impl_bitMasks, List.map_cons, List.map_nil, Prod.mk.injEq, DataW.agg.injEq, List.cons.injEq, and_true] at hx
    obtain ⟨⟨e0, e1, e2⟩, _⟩ := hx
    have h0 := hel 0 (by decide)
    have h1 := hel 1 (by decide)
    have h2 := hel 2 (by decide)
    simp [cP1] at h0 h1 h2
    obtain ⟨rfl, rfl⟩ := place_cells h0 e0.symm
    obtain ⟨rfl, rfl⟩ := place_cells h1 e1.symm
    obtain ⟨rfl, rfl⟩ := place_cells h2 e2.symm
    rfl
theorem var_of_laid {W : World} (h : laidMetH Tryd.prog laidP W) : W.var? Tryd.prog "loop.example/g00622/impl.bitMasks" = some placesV.toArray := by
  rw [MakeChecks.laidMetH_plain _ _ _ (by kernel_rfl)] at h
  obtain ⟨ps, ⟨g0, t0, cs0, f0, p0, q0, hg0, ht0, hv0, hd0, _⟩, _, _⟩ := h
  obtain rfl := Option.some.inj (gP.symm.trans hg0)
  obtain rfl := Option.some.inj (tP.symm.trans ht0)
  have e := places_cells hd0
  rw [hv0]
  congr 1
  apply Array.toList_inj.1
  rw [e]
theorem plw_of_laid {W : World} (h : laidMetH Tryd.prog laidP W) : PlW W := by
  have hv := var_of_laid h
  have hc := fun i => World.var?_cell gP hv i
  have h0 : W.cell? ⟨0, 0, none⟩ = some (.int .i64 4) := hc 0
  exact ⟨block_lt_of_cell h0, hc 0, hc 1, hc 2, hc 3, hc 4, hc 5⟩
/-- The variable reads, in every world that holds it, as its text lays it. -/
theorem places_read {H : Type} {enc : TypeId × Value → H} {W : World} (sp : Nat → Bool) (hv : W.var? Tryd.prog "loop.example/g00622/impl.bitMasks" = some placesV.toArray) :
    DataW.TrodVars enc Tryd.prog W sp ["loop.example/g00622/impl.bitMasks"] [Rows.laid_loop_example_g00622_impl_bitMasks] (MemPlace.row ⟨0, 0, none⟩ 6 ++ []) :=
  trodVars_mk1 (fuel := 8) gP tP hv (by kernel_rfl)
/-- The door's own heap meets the condition. -/
theorem door_met (os : Os) (args : Array Value) : laidMetH Tryd.prog laidP ((World.doorLaid Tryd.prog 400 os).forCall (fun _ _ => 0) ⟨#[], args, []⟩).memory :=
  laidMetH_of_parts3 (fuel := 8) (laidMet_of_run' 8 (by kernel_rfl) (by kernel_rfl)) (by kernel_rfl) (by kernel_rfl)
end Go.Proofs.YtdidbaadladkpaaDoor
