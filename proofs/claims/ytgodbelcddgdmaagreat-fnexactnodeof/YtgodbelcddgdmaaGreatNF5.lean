/- Laid together: TrD. -/
import Derived.Test.YtgodbelcddgdmaaGreatNF4
import Derived.Deep.RegionLaw
import Derived.BigFrame
/- A directory beside its number: twenty-five cells. -/
namespace Go.Proofs.YtgodbelcddgdmaaGreat
open Go.RowKit Go.PlainAid
set_option linter.unusedVariables false
def drV (x : Nd) (y : Na) (n : Int) : List Value := [.int .i64 x.k, .int .i64 x.ow, .int .i64 x.gr, .int .i64 x.ex, .int .i64 x.A.u, .int .i64 x.A.g, .int .i64 x.A.o, .slice y.aU x.A.us.length y.cU, .slice y.aG x.A.gs.length y.cG, .bool x.A.r, .int .i64 x.A.m, .bool x.sh, .int .i64 x.D.u, .int .i64 x.D.g, .int .i64 x.D.o, .slice y.dU x.D.us.length y.eU, .slice y.dG x.D.gs.length y.eG, .bool x.D.r, .int .i64 x.D.m, .int .i64 x.li, .int .i64 x.up, .string x.bo, .slice y.nA x.ns.length y.nC, .int .i64 x.ti, .int .i64 n]
theorem drV_len (x : Nd) (y : Na) (n : Int) : (drV x y n).length = 25 := rfl
theorem drV_ones (x : Nd) (y : Na) (n : Int) : (drV x y n).toArray.all (·.oneCell') = true := all_oneCell_toArray (by simp [drV]; simp [Value.oneCell'])
theorem dr_nd {w : World} {b o : Nat} {x : Nd} {y : Na} {n : Int} (h : w.rangeAt b o (drV x y n)) : N24 w b o x y := by
  intro j v hv
  have hj : j < 24 := (List.getElem?_eq_some_iff.1 hv).1
  refine h j v ?_
  have e : drV x y n = ndV x y ++ [.int .i64 n] := rfl
  rw [e, List.getElem?_append_left (by rw [ndV_len]; exact hj)]
  exact hv
theorem built_dir (x : Nd) (y : Na) (n : Int) : Tryz.prog.built 84 [(0, .agg (ndV x y).toArray), (1, .int .i64 n)] = some (drV x y n).toArray := by kernel_rfl
theorem built_dir0 : Tryz.prog.built 84 [] = some (drV ndZ naZ 0).toArray := by kernel_rfl
theorem built_node0 : Tryz.prog.built 31 [] = some (ndV ndZ naZ).toArray := by kernel_rfl
theorem run_one_dir (x : Nd) (y : Na) (n : Int) (w : World) : (Instr.buildSlice 86 1 #[(0, .agg (drV x y n).toArray)]).run Tryz.prog w = .ok (.slice (some ⟨w.heap.size, 0, none⟩) 1 1) (w.alloc (.cells (drV x y n).toArray 84)) := by
  kernel_rfl
theorem wpList_load_want {P : Program} {ops : Array Oper} {rest : List Oper} {op : Oper} {a : Act} {w : World} {Q : Exit → Act → World → Prop} (hw : Region.wanted op (yielded ops a.tmps) = true) (ty : TypeId) (x : Operand) (ho : op.op = .load ty x)
    (b o : Nat) (hx : a.eval x = .pointer (some ⟨b, o, none⟩)) (cs : List Value) (d : TypeDesc) (hc : w.rangeAt b o cs)
    (hu : P.underlying ty = some d) (hd : d.isRow = true) (hi : (P.info? ty).map (·.size) = some cs.length)
    (h : wpList P ops Q rest (a.put op.dst (.agg cs.toArray)) w) : wpList P ops Q (op :: rest) a w :=
  Go.BigFrame.wpList_want hw fun _ hK => wp_load_mid ty x ho b o hx cs d hc hu hd hi (hK _ _ h)
end Go.Proofs.YtgodbelcddgdmaaGreat
