/- Laid together: StepA, GrW. -/
import Derived.Test.YtfhhaencigmpoaaDoorDf4
import Derived.Laws.AppendOwn
import Derived.Laws.MakeOwn
import Derived.OwnWalk
import Derived.Deep.OwnRows
import Derived.Deep.RegionHeld3
import Derived.BigQuiet
import Derived.Test.YtfhhaencigmpoaaDoorDf6
import Derived.Test.YtfhhaencigmpoaaDoorDf8
/- The builtin append, by what it runs to; worlds that drew. -/
namespace Go.Proofs.YtfhhaencigmpoaaDoor
open Go.RowKit Go.PlainAid Go.Deep
set_option linter.unusedVariables false
/-- The builtin append, by what it runs to. -/
theorem wpList_append_runT {P : Program} (w : World) {ops : Array Oper} {rest : List Oper} {o : Oper} {a : Act} {Q : Exit → Act → World → Prop} (hgd : o.guard = none) (s x : Operand) (t tx : TypeId)
    (ho : o.op = .call { callee := .builtin .append, args := #[s, x], argTypes := #[t, tx] }) (v xv v' : Value) (w' : World) (hs : a.eval s = v) (hx : a.eval x = xv)
    (hr : (Builtin.append_ #[t, tx] o.type #[v, xv]).run P w = .ok v' w') (h : wpList P ops Q rest (a.put o.dst v') w') : wpList P ops Q (o :: rest) a w :=
  wpList_plain hgd fun _ hK => by
    unfold Oper.wp execOp
    simp only [ho, resolve, invoke, builtin, Sem.run_bind, Sem.run_pure, Result.andThen_ok, List.map_toArray, List.map_cons, List.map_nil, hs, hx, hr]
    exact hK _ _ h
theorem bdC {B : Nat} {w w' : World} (h : Below B w w') : Below B w w'.drew := h.trans ⟨rfl, rfl, rfl, Nat.le_refl _, fun _ _ => rfl⟩
theorem bdZ {w w' : World} (h : Below w.drew.heap.size w.drew w') : Below w.heap.size w w' := ⟨h.os, h.tape, h.output, h.size, h.block⟩
/-- append as one step of a region that draws, by what it runs to. -/
theorem step_append_run {P : Program} {ops : Array Oper} {o : Oper} {a : Act} {w : World} {K : Act → World → Prop} {Q : Exit → Act → World → Prop} {E : Prop}
    (hg : o.guard = none) (s x : Operand) (t : TypeId) (hop : o.op = Op.call { callee := Callee.builtin Builtin.append, args := #[s, x], argTypes := #[t, t] })
    (v xv v' : Value) (w' : World) (hs : a.eval s = v) (hx : a.eval x = xv) (hr : (Builtin.append_ #[t, t] o.type #[v, xv]).run P w = .ok v' w')
    (hK : K (a.put o.dst v') w') :
    if Region.wanted o (yielded ops a.tmps) = true then Oper.wp P o a w K Q else E := by
  have hw : Region.wanted o (yielded ops a.tmps) = true := by simp [Region.wanted, hg]
  rw [if_pos hw]
  unfold Oper.wp
  simp [execOp, hop, resolve, invoke, builtin, hs, hx, hr, Result.andThen]
  exact hK
end Go.Proofs.YtfhhaencigmpoaaDoor
/- impl.whoms. -/
namespace Go.Proofs.YtfhhaencigmpoaaDoor
open Go.RowKit Go.PlainAid Go.Deep
set_option linter.unusedVariables false
theorem infoWhom : (Tryd.prog.info? 60).map (fun i => (i.zero, i.size, i.bytes)) = some (some (.agg #[.int .i64 0, .int .i64 0]), 2, 16) := by kernel_rfl
/-- append of one whom. -/
theorem append_wh (w0 w : World) (v : Value) (l : List (Int × Int)) (hown : w.ownsRow w0.heap.size 60 2 v l.length (pc l)) (hB : Below w0.heap.size w0 w) (x y : Int) (hsm : l.length ≤ 1000000) :
    ∃ v' w', (Builtin.append_ #[57, 57] 57 #[v, .slice (some ⟨w.heap.size, 0, none⟩) 1 1]).run Tryd.prog (w.alloc (.cells #[.int .i64 x, .int .i64 y] 60)) = .ok v' w' ∧ w'.ownsRow w0.heap.size 60 2 v' (l ++ [(x, y)]).length (pc (l ++ [(x, y)])) ∧ Below w0.heap.size w0 w' := by
  obtain ⟨i, hi, hzz⟩ := Option.map_eq_some_iff.1 infoWhom
  simp only [Prod.mk.injEq] at hzz
  obtain ⟨hz, hs, hb⟩ := hzz
  have hb1 := bel_alloc w (.cells #[.int .i64 x, .int .i64 y] 60)
  have hB1 := Below.on hB hb1
  have hown1 := rowP_below hown hb1
  have hnw := pairs_new w x y 60
  have hone := pc_one [(x, y)]
  obtain ⟨v', w', hr, h1, h2, _⟩ := run_append_own (P := Tryd.prog) _ w0.heap.size 57 57 60 i _ 2 16 Tryd.underlying57 hi hz hs hb rfl (by decide) v l.length (pc l) hown1 ⟨w.heap.size, 0, none⟩ 1 1 (pc [(x, y)]) rfl hnw hone (by unfold maxLen; omega) (by omega) hB1.size
  refine ⟨v', w', hr, ?_, hB1.grown h2 hB1.size (own_blockN hown1)⟩
  rw [pc_append, List.length_append]
  exact h1
theorem row_one (w : World) (x y : Int) : (w.alloc (.cells #[.int .i64 x, .int .i64 y] 60)).ownsRow w.heap.size 60 2 (.slice (some ⟨w.heap.size, 0, none⟩) 1 1) 1 (pc [(x, y)]) := by
  refine ⟨rfl, .inr ⟨w.heap.size, 1, #[.int .i64 x, .int .i64 y], rfl, Nat.le_refl _, ?_, Nat.le_refl _, by unfold maxLen; omega, rfl, rfl⟩⟩
  rw [World.alloc]
  exact Array.getElem?_push_size
/-- The first k of a list, as whom. -/
def whN (x k : Int) (l : List (Int × Int)) : Nat → List (Int × Int)
  | 0 => [(x, 0)]
  | j + 1 => whN x k l j ++ [(k, idAt l j)]
theorem whN_len (x k : Int) (l : List (Int × Int)) : ∀ j, (whN x k l j).length = j + 1 := by
  intro j
  induction j with
  | zero => rfl
  | succ j ih => simp [whN, ih]
set_option maxRecDepth 100000 in
set_option maxHeartbeats 2000000 in
theorem whoms_any (x k : Int) (a : Option Addr) (len cap : Nat) (l : List (Int × Int)) (hl : len ≤ 1000) (w : World) (hi : Prs a len l w) :
    Calls Tryd.prog 36 #[.int .i64 x, .int .i64 k, .slice a len cap] w fun e w' => ∃ a' c', e = .returned (.slice a' (len + 1) c') ∧ Own a' (len + 1) (whN x k l len) w' ∧ (∀ A, a' = some A → w.heap.size ≤ A.block ∧ A.block < w'.heap.size) ∧ Below w.heap.size w w' := by
  have HI : Hid (Prs a len l w) := hi
  have HR0 : Hid ((w.alloc (.cells #[.int .i64 x, .int .i64 0] 60)).ownsRow w.heap.size 60 2 (.slice (some ⟨w.heap.size, 0, none⟩) 1 1) (whN x k l 0).length (pc (whN x k l 0))) := row_one w x 0
  have HB0 : Hid (Below w.heap.size w (w.alloc (.cells #[.int .i64 x, .int .i64 0] 60))) := bel_alloc _ _
  clear hi
  go_enter Tryd.func36, Tryd.ntmps36
  go_wp2
  go_loopw [7, 15] (fun v i wr => ∃ j : Nat, j ≤ len ∧ i = .int .i64 j ∧ Hid (wr.ownsRow w.heap.size 60 2 v (whN x k l j).length (pc (whN x k l j))) ∧ Hid (Below w.heap.size w wr)) (fun _ i _ => len - (intOf i).toNat)
  case atStart => exact ⟨0, Nat.zero_le _, rfl, HR0, HB0⟩
  case round =>
    clear HR0 HB0
    obtain ⟨j, hj, rfl, hO, hB⟩ := hrel
    have hwl := whN_len x k l j
    by_cases hlt : j < len
    · have hlt' : (j : Int) < (len : Int) := by omega
      obtain ⟨b, off, rfl, hbl, hc⟩ := HI.out.2 (by omega)
      obtain ⟨q0, q1⟩ := hc j hlt
      have c0 : wr.cell? ⟨b, off + j * 2, none⟩ = some (.int .i64 (idAt l j)) := (hB.out.cell (p := ⟨b, off + j * 2, none⟩) hbl).trans q0
      have c1 : wr.cell? ⟨b, off + j * 2 + 1, none⟩ = some (.int .i64 (btAt l j)) := (hB.out.cell (p := ⟨b, off + j * 2 + 1, none⟩) hbl).trans q1
      have hbA := bel_alloc wr (.cells #[.int .i64 (idAt l j), .int .i64 (btAt l j)] 92)
      have hOA := rowP_below hO.out hbA
      have hBA := Below.on hB.out hbA
      have hwe : whN x k l (j + 1) = whN x k l j ++ [(k, idAt l j)] := rfl
      obtain ⟨v2, w2, hr, hO2, hB2⟩ := append_wh w _ _ (whN x k l j) hOA hBA k (idAt l j) (by omega)
      rw [← hwe] at hO2
      have ez : (wr.alloc (.cells #[.int .i64 (idAt l j), .int .i64 (btAt l j)] 92)).heap.size = wr.heap.size + 1 := by simp
      rw [ez] at hr
      clear ez
      have HO2 : Hid (w2.ownsRow w.heap.size 60 2 v2 (whN x k l (j + 1)).length (pc (whN x k l (j + 1)))) := hO2
      have HB2 : Hid (Below w.heap.size w w2) := hB2
      clear q0 q1 hc hO2 hB2 hbA hO hB hOA hBA hwe hwl
      go_wp2_with (at_builtin; refine wpList_append_runT _ rfl (.tmp 19) (.tmp 24) 57 57 rfl _ _ _ _ rfl rfl hr ?_)
      go_roundw
      case rel => exact ⟨j + 1, by omega, by go_num, HO2, HB2⟩
      case measure => simp [intOf]; omega
    · have hjj : j = len := by omega
      subst hjj
      obtain ⟨a', c', e, hown, hin⟩ := own_of_row hO.out
      rw [hwl] at e hown
      subst e
      go_wp2
      go_ret
      exact ⟨a', c', rfl, hown, hin, hB.out⟩
end Go.Proofs.YtfhhaencigmpoaaDoor
