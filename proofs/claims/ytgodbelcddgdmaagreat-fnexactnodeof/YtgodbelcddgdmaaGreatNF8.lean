/- Laid together: TrI0, TrI2. -/
import Derived.Test.YtgodbelcddgdmaaGreatNF7
import Derived.Laws.ResultCell
/- The program's sameNode of a node and the zero one, isNumber, isThere, directoryAt. -/
namespace Go.Proofs.YtgodbelcddgdmaaGreat
open Go.RowKit Go.PlainAid
set_option linter.unusedVariables false
theorem wpList_built {P : Program} {ops : Array Oper} {rest : List Oper} {o : Oper} {a : Act} {w : World} {Q : Exit → Act → World → Prop} (hg : o.guard = none) (t : TypeId) (parts : Array (Nat × Operand)) (ho : o.op = .build t parts)
    (vs : List (Nat × Value)) (hv : (parts.map fun (i, x) => (i, a.eval x)).toList = vs) (cs : Array Value) (hb : P.built t vs = some cs)
    (h : wpList P ops Q rest (a.put o.dst (.agg cs)) w) : wpList P ops Q (o :: rest) a w :=
  wpList_build hg t parts ho (by rw [hv, hb]; rfl) (by rw [hv, hb]; exact h)
theorem wpList_built2 {P : Program} {ops : Array Oper} {rest : List Oper} {o : Oper} {a : Act} {w : World} {Q : Exit → Act → World → Prop} (hg : o.guard = none) (t : TypeId) (x y : Operand) (ho : o.op = .build t #[(0, x), (1, y)])
    (u v : Value) (hx : a.eval x = u) (hy : a.eval y = v) (cs : Array Value) (hb : P.built t [(0, u), (1, v)] = some cs)
    (h : wpList P ops Q rest (a.put o.dst (.agg cs)) w) : wpList P ops Q (o :: rest) a w :=
  wpList_built hg t _ ho [(0, u), (1, v)] (by simp [hx, hy]) cs hb h
theorem results_two {fn : Func} {p u : Tmp} {ty : TypeId} (h : fn.results = #[.cell p ty, .tmp u]) {tmps : Array Value} {P : Program} {w : World} {a : Addr} {v b : Value} (ha : tmps.getD p undef = .pointer (some a)) (hu : tmps.getD u undef = b) (hl : (loadVar ty a).run P w = .ok v w) : (results fn tmps).run P w = .ok (.tuple #[v, b]) w := by
  rw [results_cell_tmp h, ha, hu]
  simp [asAddr, hl, Result.andThen]
set_option maxRecDepth 20000 in
set_option maxHeartbeats 16000000 in
/-- impl.sameNode, of a node and the zero one. -/
theorem iSameN0_any (x : Nd) (y : Na) (hf : NdFit 1048576 x) (w : World) :
    Calls Tryz.prog 59 #[.agg (ndV x y).toArray, .agg (ndV ndZ naZ).toArray] w fun e w' => e = .returned (.bool x.z0) ∧ Below w.heap.size w w' := by
  have HK : Hid (NdFit 1048576 x) := hf
  have HE : Hid (x.z0 = (x.k == 0 && (x.ow == 0 && (x.gr == 0 && (x.ex == 0 && (!x.sh && (x.li == 0 && (x.up == 0 && ((x.bo.toList == []) && (x.A.E && (x.D.E && x.ns.length == 0))))))))))) := rfl
  have HX : Hid (BoxR ((w.alloc (.cells (ndV x y).toArray 31)).alloc (.cells (ndV ndZ naZ).toArray 31)) w.heap.size (ndV x y)) := (boxR_new w (ndV x y) 31).below (bel_alloc _ _)
  have HZ : Hid (BoxR ((w.alloc (.cells (ndV x y).toArray 31)).alloc (.cells (ndV ndZ naZ).toArray 31)) (w.heap.size + 1) (ndV ndZ naZ)) := (by
    have h := boxR_new (w.alloc (.cells (ndV x y).toArray 31)) (ndV ndZ naZ) 31
    simp only [World.size_alloc] at h
    exact h)
  have HB : Hid (Below w.heap.size w ((w.alloc (.cells (ndV x y).toArray 31)).alloc (.cells (ndV ndZ naZ).toArray 31))) := bl2T _ _ _
  have H3 : Hid (∀ w, Calls Tryz.prog 80 #[.slice y.nA x.ns.length y.nC, .slice none 0 0] w fun e w' => e = .returned (.bool (x.ns.length == 0)) ∧ w' = w) := (fun w => eqE_nil _ _ _ _ _ (by have := hf.nl; omega) w)
  have hbe : (x.bo.toList == []) = x.bo.toList.isEmpty := by cases x.bo.toList <;> rfl
  rw [hbe] at HE
  clear hf hbe
  cases hbo : x.bo.toList.isEmpty
  · rw [hbo] at HE
    go_enter Tryz.func59, Tryz.ntmps59
    go_upto_region 1 with fail
    generalize ((w.alloc (.cells (ndV x y).toArray 31)).alloc (.cells (ndV ndZ naZ).toArray 31)) = w0 at HX HZ HB ⊢
    obtain ⟨X, hX⟩ : ∃ X, X = w.heap.size := ⟨_, rfl⟩
    rw [← hX] at HX HZ ⊢
    clear hX
    have e0 := NB.c0 HX.out
    have e1 := NB.c1 HX.out
    have e2 := NB.c2 HX.out
    have e3 := NB.c3 HX.out
    have e4 := NB.c4 HX.out
    have e5 := NB.c5 HX.out
    have e6 := NB.c6 HX.out
    have e7 := NB.c7 HX.out
    have e8 := NB.c8 HX.out
    have e9 := NB.c9 HX.out
    have e10 := NB.c10 HX.out
    have e11 := NB.c11 HX.out
    have e12 := NB.c12 HX.out
    have e13 := NB.c13 HX.out
    have e14 := NB.c14 HX.out
    have e15 := NB.c15 HX.out
    have e16 := NB.c16 HX.out
    have e17 := NB.c17 HX.out
    have e18 := NB.c18 HX.out
    have e19 := NB.c19 HX.out
    have e20 := NB.c20 HX.out
    have e21 := NB.c21 HX.out
    have e22 := NB.c22 HX.out
    have z0 : w0.cell? ⟨X + 1, 0, none⟩ = some (.int .i64 0) := HZ.out.at0 0 _ rfl
    have z1 : w0.cell? ⟨X + 1, 1, none⟩ = some (.int .i64 0) := HZ.out.at0 1 _ rfl
    have z2 : w0.cell? ⟨X + 1, 2, none⟩ = some (.int .i64 0) := HZ.out.at0 2 _ rfl
    have z3 : w0.cell? ⟨X + 1, 3, none⟩ = some (.int .i64 0) := HZ.out.at0 3 _ rfl
    have z4 : w0.cell? ⟨X + 1, 4, none⟩ = some (.int .i64 0) := HZ.out.at0 4 _ rfl
    have z5 : w0.cell? ⟨X + 1, 5, none⟩ = some (.int .i64 0) := HZ.out.at0 5 _ rfl
    have z6 : w0.cell? ⟨X + 1, 6, none⟩ = some (.int .i64 0) := HZ.out.at0 6 _ rfl
    have z7 : w0.cell? ⟨X + 1, 7, none⟩ = some (.slice none 0 0) := HZ.out.at0 7 _ rfl
    have z8 : w0.cell? ⟨X + 1, 8, none⟩ = some (.slice none 0 0) := HZ.out.at0 8 _ rfl
    have z9 : w0.cell? ⟨X + 1, 9, none⟩ = some (.bool false) := HZ.out.at0 9 _ rfl
    have z10 : w0.cell? ⟨X + 1, 10, none⟩ = some (.int .i64 0) := HZ.out.at0 10 _ rfl
    have z11 : w0.cell? ⟨X + 1, 11, none⟩ = some (.bool false) := HZ.out.at0 11 _ rfl
    have z12 : w0.cell? ⟨X + 1, 12, none⟩ = some (.int .i64 0) := HZ.out.at0 12 _ rfl
    have z13 : w0.cell? ⟨X + 1, 13, none⟩ = some (.int .i64 0) := HZ.out.at0 13 _ rfl
    have z14 : w0.cell? ⟨X + 1, 14, none⟩ = some (.int .i64 0) := HZ.out.at0 14 _ rfl
    have z15 : w0.cell? ⟨X + 1, 15, none⟩ = some (.slice none 0 0) := HZ.out.at0 15 _ rfl
    have z16 : w0.cell? ⟨X + 1, 16, none⟩ = some (.slice none 0 0) := HZ.out.at0 16 _ rfl
    have z17 : w0.cell? ⟨X + 1, 17, none⟩ = some (.bool false) := HZ.out.at0 17 _ rfl
    have z18 : w0.cell? ⟨X + 1, 18, none⟩ = some (.int .i64 0) := HZ.out.at0 18 _ rfl
    have z19 : w0.cell? ⟨X + 1, 19, none⟩ = some (.int .i64 0) := HZ.out.at0 19 _ rfl
    have z20 : w0.cell? ⟨X + 1, 20, none⟩ = some (.int .i64 0) := HZ.out.at0 20 _ rfl
    have z21 : w0.cell? ⟨X + 1, 21, none⟩ = some (.string ⟨#[]⟩) := HZ.out.at0 21 _ rfl
    have z22 : w0.cell? ⟨X + 1, 22, none⟩ = some (.slice none 0 0) := HZ.out.at0 22 _ rfl
    go_wp2_with (first
      | (go_at_call_of 79 (Value.slice y.aU x.A.us.length y.cU); refine (iSameL0_any x.A _ _ _ _ HK.out.au HK.out.ag _).mono ?_; rintro e w1 ⟨rfl, hb⟩; replace HB : Hid (Below w.heap.size w w1) := Below.on HB.out hb; replace HX : Hid (BoxR w1 X (ndV x y)) := HX.out.below hb; replace HZ : Hid (BoxR w1 (X + 1) (ndV ndZ naZ)) := HZ.out.below hb; clear hb; replace e0 := NB.c0 HX.out; replace e1 := NB.c1 HX.out; replace e2 := NB.c2 HX.out; replace e3 := NB.c3 HX.out; replace e4 := NB.c4 HX.out; replace e5 := NB.c5 HX.out; replace e6 := NB.c6 HX.out; replace e7 := NB.c7 HX.out; replace e8 := NB.c8 HX.out; replace e9 := NB.c9 HX.out; replace e10 := NB.c10 HX.out; replace e11 := NB.c11 HX.out; replace e12 := NB.c12 HX.out; replace e13 := NB.c13 HX.out; replace e14 := NB.c14 HX.out; replace e15 := NB.c15 HX.out; replace e16 := NB.c16 HX.out; replace e17 := NB.c17 HX.out; replace e18 := NB.c18 HX.out; replace e19 := NB.c19 HX.out; replace e20 := NB.c20 HX.out; replace e21 := NB.c21 HX.out; replace e22 := NB.c22 HX.out; replace z0 : w1.cell? ⟨X + 1, 0, none⟩ = some (.int .i64 0) := HZ.out.at0 0 _ rfl; replace z1 : w1.cell? ⟨X + 1, 1, none⟩ = some (.int .i64 0) := HZ.out.at0 1 _ rfl; replace z2 : w1.cell? ⟨X + 1, 2, none⟩ = some (.int .i64 0) := HZ.out.at0 2 _ rfl; replace z3 : w1.cell? ⟨X + 1, 3, none⟩ = some (.int .i64 0) := HZ.out.at0 3 _ rfl; replace z4 : w1.cell? ⟨X + 1, 4, none⟩ = some (.int .i64 0) := HZ.out.at0 4 _ rfl; replace z5 : w1.cell? ⟨X + 1, 5, none⟩ = some (.int .i64 0) := HZ.out.at0 5 _ rfl; replace z6 : w1.cell? ⟨X + 1, 6, none⟩ = some (.int .i64 0) := HZ.out.at0 6 _ rfl; replace z7 : w1.cell? ⟨X + 1, 7, none⟩ = some (.slice none 0 0) := HZ.out.at0 7 _ rfl; replace z8 : w1.cell? ⟨X + 1, 8, none⟩ = some (.slice none 0 0) := HZ.out.at0 8 _ rfl; replace z9 : w1.cell? ⟨X + 1, 9, none⟩ = some (.bool false) := HZ.out.at0 9 _ rfl; replace z10 : w1.cell? ⟨X + 1, 10, none⟩ = some (.int .i64 0) := HZ.out.at0 10 _ rfl; replace z11 : w1.cell? ⟨X + 1, 11, none⟩ = some (.bool false) := HZ.out.at0 11 _ rfl; replace z12 : w1.cell? ⟨X + 1, 12, none⟩ = some (.int .i64 0) := HZ.out.at0 12 _ rfl; replace z13 : w1.cell? ⟨X + 1, 13, none⟩ = some (.int .i64 0) := HZ.out.at0 13 _ rfl; replace z14 : w1.cell? ⟨X + 1, 14, none⟩ = some (.int .i64 0) := HZ.out.at0 14 _ rfl; replace z15 : w1.cell? ⟨X + 1, 15, none⟩ = some (.slice none 0 0) := HZ.out.at0 15 _ rfl; replace z16 : w1.cell? ⟨X + 1, 16, none⟩ = some (.slice none 0 0) := HZ.out.at0 16 _ rfl; replace z17 : w1.cell? ⟨X + 1, 17, none⟩ = some (.bool false) := HZ.out.at0 17 _ rfl; replace z18 : w1.cell? ⟨X + 1, 18, none⟩ = some (.int .i64 0) := HZ.out.at0 18 _ rfl; replace z19 : w1.cell? ⟨X + 1, 19, none⟩ = some (.int .i64 0) := HZ.out.at0 19 _ rfl; replace z20 : w1.cell? ⟨X + 1, 20, none⟩ = some (.int .i64 0) := HZ.out.at0 20 _ rfl; replace z21 : w1.cell? ⟨X + 1, 21, none⟩ = some (.string ⟨#[]⟩) := HZ.out.at0 21 _ rfl; replace z22 : w1.cell? ⟨X + 1, 22, none⟩ = some (.slice none 0 0) := HZ.out.at0 22 _ rfl)
      | (go_at_call_of 79 (Value.slice y.dU x.D.us.length y.eU); refine (iSameL0_any x.D _ _ _ _ HK.out.du HK.out.dg _).mono ?_; rintro e w1 ⟨rfl, hb⟩; replace HB : Hid (Below w.heap.size w w1) := Below.on HB.out hb; replace HX : Hid (BoxR w1 X (ndV x y)) := HX.out.below hb; replace HZ : Hid (BoxR w1 (X + 1) (ndV ndZ naZ)) := HZ.out.below hb; clear hb; replace e0 := NB.c0 HX.out; replace e1 := NB.c1 HX.out; replace e2 := NB.c2 HX.out; replace e3 := NB.c3 HX.out; replace e4 := NB.c4 HX.out; replace e5 := NB.c5 HX.out; replace e6 := NB.c6 HX.out; replace e7 := NB.c7 HX.out; replace e8 := NB.c8 HX.out; replace e9 := NB.c9 HX.out; replace e10 := NB.c10 HX.out; replace e11 := NB.c11 HX.out; replace e12 := NB.c12 HX.out; replace e13 := NB.c13 HX.out; replace e14 := NB.c14 HX.out; replace e15 := NB.c15 HX.out; replace e16 := NB.c16 HX.out; replace e17 := NB.c17 HX.out; replace e18 := NB.c18 HX.out; replace e19 := NB.c19 HX.out; replace e20 := NB.c20 HX.out; replace e21 := NB.c21 HX.out; replace e22 := NB.c22 HX.out; replace z0 : w1.cell? ⟨X + 1, 0, none⟩ = some (.int .i64 0) := HZ.out.at0 0 _ rfl; replace z1 : w1.cell? ⟨X + 1, 1, none⟩ = some (.int .i64 0) := HZ.out.at0 1 _ rfl; replace z2 : w1.cell? ⟨X + 1, 2, none⟩ = some (.int .i64 0) := HZ.out.at0 2 _ rfl; replace z3 : w1.cell? ⟨X + 1, 3, none⟩ = some (.int .i64 0) := HZ.out.at0 3 _ rfl; replace z4 : w1.cell? ⟨X + 1, 4, none⟩ = some (.int .i64 0) := HZ.out.at0 4 _ rfl; replace z5 : w1.cell? ⟨X + 1, 5, none⟩ = some (.int .i64 0) := HZ.out.at0 5 _ rfl; replace z6 : w1.cell? ⟨X + 1, 6, none⟩ = some (.int .i64 0) := HZ.out.at0 6 _ rfl; replace z7 : w1.cell? ⟨X + 1, 7, none⟩ = some (.slice none 0 0) := HZ.out.at0 7 _ rfl; replace z8 : w1.cell? ⟨X + 1, 8, none⟩ = some (.slice none 0 0) := HZ.out.at0 8 _ rfl; replace z9 : w1.cell? ⟨X + 1, 9, none⟩ = some (.bool false) := HZ.out.at0 9 _ rfl; replace z10 : w1.cell? ⟨X + 1, 10, none⟩ = some (.int .i64 0) := HZ.out.at0 10 _ rfl; replace z11 : w1.cell? ⟨X + 1, 11, none⟩ = some (.bool false) := HZ.out.at0 11 _ rfl; replace z12 : w1.cell? ⟨X + 1, 12, none⟩ = some (.int .i64 0) := HZ.out.at0 12 _ rfl; replace z13 : w1.cell? ⟨X + 1, 13, none⟩ = some (.int .i64 0) := HZ.out.at0 13 _ rfl; replace z14 : w1.cell? ⟨X + 1, 14, none⟩ = some (.int .i64 0) := HZ.out.at0 14 _ rfl; replace z15 : w1.cell? ⟨X + 1, 15, none⟩ = some (.slice none 0 0) := HZ.out.at0 15 _ rfl; replace z16 : w1.cell? ⟨X + 1, 16, none⟩ = some (.slice none 0 0) := HZ.out.at0 16 _ rfl; replace z17 : w1.cell? ⟨X + 1, 17, none⟩ = some (.bool false) := HZ.out.at0 17 _ rfl; replace z18 : w1.cell? ⟨X + 1, 18, none⟩ = some (.int .i64 0) := HZ.out.at0 18 _ rfl; replace z19 : w1.cell? ⟨X + 1, 19, none⟩ = some (.int .i64 0) := HZ.out.at0 19 _ rfl; replace z20 : w1.cell? ⟨X + 1, 20, none⟩ = some (.int .i64 0) := HZ.out.at0 20 _ rfl; replace z21 : w1.cell? ⟨X + 1, 21, none⟩ = some (.string ⟨#[]⟩) := HZ.out.at0 21 _ rfl; replace z22 : w1.cell? ⟨X + 1, 22, none⟩ = some (.slice none 0 0) := HZ.out.at0 22 _ rfl)
      | (go_at_call 80; refine (H3.out _).mono ?_; rintro e w2 ⟨rfl, rfl⟩))
    all_goals go_ret
    all_goals (refine ⟨ret_boolW ?_, HB.out⟩; rw [HE.out]; first | (simp [*]; done) | (simp only [bne_iff_ne, ne_eq, bne_eq_false_iff_eq] at *; simp [*]))
  · rw [hbo] at HE
    go_enter Tryz.func59, Tryz.ntmps59
    go_upto_region 1 with fail
    generalize ((w.alloc (.cells (ndV x y).toArray 31)).alloc (.cells (ndV ndZ naZ).toArray 31)) = w0 at HX HZ HB ⊢
    obtain ⟨X, hX⟩ : ∃ X, X = w.heap.size := ⟨_, rfl⟩
    rw [← hX] at HX HZ ⊢
    clear hX
    have e0 := NB.c0 HX.out
    have e1 := NB.c1 HX.out
    have e2 := NB.c2 HX.out
    have e3 := NB.c3 HX.out
    have e4 := NB.c4 HX.out
    have e5 := NB.c5 HX.out
    have e6 := NB.c6 HX.out
    have e7 := NB.c7 HX.out
    have e8 := NB.c8 HX.out
    have e9 := NB.c9 HX.out
    have e10 := NB.c10 HX.out
    have e11 := NB.c11 HX.out
    have e12 := NB.c12 HX.out
    have e13 := NB.c13 HX.out
    have e14 := NB.c14 HX.out
    have e15 := NB.c15 HX.out
    have e16 := NB.c16 HX.out
    have e17 := NB.c17 HX.out
    have e18 := NB.c18 HX.out
    have e19 := NB.c19 HX.out
    have e20 := NB.c20 HX.out
    have e21 := NB.c21 HX.out
    have e22 := NB.c22 HX.out
    have z0 : w0.cell? ⟨X + 1, 0, none⟩ = some (.int .i64 0) := HZ.out.at0 0 _ rfl
    have z1 : w0.cell? ⟨X + 1, 1, none⟩ = some (.int .i64 0) := HZ.out.at0 1 _ rfl
    have z2 : w0.cell? ⟨X + 1, 2, none⟩ = some (.int .i64 0) := HZ.out.at0 2 _ rfl
    have z3 : w0.cell? ⟨X + 1, 3, none⟩ = some (.int .i64 0) := HZ.out.at0 3 _ rfl
    have z4 : w0.cell? ⟨X + 1, 4, none⟩ = some (.int .i64 0) := HZ.out.at0 4 _ rfl
    have z5 : w0.cell? ⟨X + 1, 5, none⟩ = some (.int .i64 0) := HZ.out.at0 5 _ rfl
    have z6 : w0.cell? ⟨X + 1, 6, none⟩ = some (.int .i64 0) := HZ.out.at0 6 _ rfl
    have z7 : w0.cell? ⟨X + 1, 7, none⟩ = some (.slice none 0 0) := HZ.out.at0 7 _ rfl
    have z8 : w0.cell? ⟨X + 1, 8, none⟩ = some (.slice none 0 0) := HZ.out.at0 8 _ rfl
    have z9 : w0.cell? ⟨X + 1, 9, none⟩ = some (.bool false) := HZ.out.at0 9 _ rfl
    have z10 : w0.cell? ⟨X + 1, 10, none⟩ = some (.int .i64 0) := HZ.out.at0 10 _ rfl
    have z11 : w0.cell? ⟨X + 1, 11, none⟩ = some (.bool false) := HZ.out.at0 11 _ rfl
    have z12 : w0.cell? ⟨X + 1, 12, none⟩ = some (.int .i64 0) := HZ.out.at0 12 _ rfl
    have z13 : w0.cell? ⟨X + 1, 13, none⟩ = some (.int .i64 0) := HZ.out.at0 13 _ rfl
    have z14 : w0.cell? ⟨X + 1, 14, none⟩ = some (.int .i64 0) := HZ.out.at0 14 _ rfl
    have z15 : w0.cell? ⟨X + 1, 15, none⟩ = some (.slice none 0 0) := HZ.out.at0 15 _ rfl
    have z16 : w0.cell? ⟨X + 1, 16, none⟩ = some (.slice none 0 0) := HZ.out.at0 16 _ rfl
    have z17 : w0.cell? ⟨X + 1, 17, none⟩ = some (.bool false) := HZ.out.at0 17 _ rfl
    have z18 : w0.cell? ⟨X + 1, 18, none⟩ = some (.int .i64 0) := HZ.out.at0 18 _ rfl
    have z19 : w0.cell? ⟨X + 1, 19, none⟩ = some (.int .i64 0) := HZ.out.at0 19 _ rfl
    have z20 : w0.cell? ⟨X + 1, 20, none⟩ = some (.int .i64 0) := HZ.out.at0 20 _ rfl
    have z21 : w0.cell? ⟨X + 1, 21, none⟩ = some (.string ⟨#[]⟩) := HZ.out.at0 21 _ rfl
    have z22 : w0.cell? ⟨X + 1, 22, none⟩ = some (.slice none 0 0) := HZ.out.at0 22 _ rfl
    go_wp2_with (first
      | (go_at_call_of 79 (Value.slice y.aU x.A.us.length y.cU); refine (iSameL0_any x.A _ _ _ _ HK.out.au HK.out.ag _).mono ?_; rintro e w1 ⟨rfl, hb⟩; replace HB : Hid (Below w.heap.size w w1) := Below.on HB.out hb; replace HX : Hid (BoxR w1 X (ndV x y)) := HX.out.below hb; replace HZ : Hid (BoxR w1 (X + 1) (ndV ndZ naZ)) := HZ.out.below hb; clear hb; replace e0 := NB.c0 HX.out; replace e1 := NB.c1 HX.out; replace e2 := NB.c2 HX.out; replace e3 := NB.c3 HX.out; replace e4 := NB.c4 HX.out; replace e5 := NB.c5 HX.out; replace e6 := NB.c6 HX.out; replace e7 := NB.c7 HX.out; replace e8 := NB.c8 HX.out; replace e9 := NB.c9 HX.out; replace e10 := NB.c10 HX.out; replace e11 := NB.c11 HX.out; replace e12 := NB.c12 HX.out; replace e13 := NB.c13 HX.out; replace e14 := NB.c14 HX.out; replace e15 := NB.c15 HX.out; replace e16 := NB.c16 HX.out; replace e17 := NB.c17 HX.out; replace e18 := NB.c18 HX.out; replace e19 := NB.c19 HX.out; replace e20 := NB.c20 HX.out; replace e21 := NB.c21 HX.out; replace e22 := NB.c22 HX.out; replace z0 : w1.cell? ⟨X + 1, 0, none⟩ = some (.int .i64 0) := HZ.out.at0 0 _ rfl; replace z1 : w1.cell? ⟨X + 1, 1, none⟩ = some (.int .i64 0) := HZ.out.at0 1 _ rfl; replace z2 : w1.cell? ⟨X + 1, 2, none⟩ = some (.int .i64 0) := HZ.out.at0 2 _ rfl; replace z3 : w1.cell? ⟨X + 1, 3, none⟩ = some (.int .i64 0) := HZ.out.at0 3 _ rfl; replace z4 : w1.cell? ⟨X + 1, 4, none⟩ = some (.int .i64 0) := HZ.out.at0 4 _ rfl; replace z5 : w1.cell? ⟨X + 1, 5, none⟩ = some (.int .i64 0) := HZ.out.at0 5 _ rfl; replace z6 : w1.cell? ⟨X + 1, 6, none⟩ = some (.int .i64 0) := HZ.out.at0 6 _ rfl; replace z7 : w1.cell? ⟨X + 1, 7, none⟩ = some (.slice none 0 0) := HZ.out.at0 7 _ rfl; replace z8 : w1.cell? ⟨X + 1, 8, none⟩ = some (.slice none 0 0) := HZ.out.at0 8 _ rfl; replace z9 : w1.cell? ⟨X + 1, 9, none⟩ = some (.bool false) := HZ.out.at0 9 _ rfl; replace z10 : w1.cell? ⟨X + 1, 10, none⟩ = some (.int .i64 0) := HZ.out.at0 10 _ rfl; replace z11 : w1.cell? ⟨X + 1, 11, none⟩ = some (.bool false) := HZ.out.at0 11 _ rfl; replace z12 : w1.cell? ⟨X + 1, 12, none⟩ = some (.int .i64 0) := HZ.out.at0 12 _ rfl; replace z13 : w1.cell? ⟨X + 1, 13, none⟩ = some (.int .i64 0) := HZ.out.at0 13 _ rfl; replace z14 : w1.cell? ⟨X + 1, 14, none⟩ = some (.int .i64 0) := HZ.out.at0 14 _ rfl; replace z15 : w1.cell? ⟨X + 1, 15, none⟩ = some (.slice none 0 0) := HZ.out.at0 15 _ rfl; replace z16 : w1.cell? ⟨X + 1, 16, none⟩ = some (.slice none 0 0) := HZ.out.at0 16 _ rfl; replace z17 : w1.cell? ⟨X + 1, 17, none⟩ = some (.bool false) := HZ.out.at0 17 _ rfl; replace z18 : w1.cell? ⟨X + 1, 18, none⟩ = some (.int .i64 0) := HZ.out.at0 18 _ rfl; replace z19 : w1.cell? ⟨X + 1, 19, none⟩ = some (.int .i64 0) := HZ.out.at0 19 _ rfl; replace z20 : w1.cell? ⟨X + 1, 20, none⟩ = some (.int .i64 0) := HZ.out.at0 20 _ rfl; replace z21 : w1.cell? ⟨X + 1, 21, none⟩ = some (.string ⟨#[]⟩) := HZ.out.at0 21 _ rfl; replace z22 : w1.cell? ⟨X + 1, 22, none⟩ = some (.slice none 0 0) := HZ.out.at0 22 _ rfl)
      | (go_at_call_of 79 (Value.slice y.dU x.D.us.length y.eU); refine (iSameL0_any x.D _ _ _ _ HK.out.du HK.out.dg _).mono ?_; rintro e w1 ⟨rfl, hb⟩; replace HB : Hid (Below w.heap.size w w1) := Below.on HB.out hb; replace HX : Hid (BoxR w1 X (ndV x y)) := HX.out.below hb; replace HZ : Hid (BoxR w1 (X + 1) (ndV ndZ naZ)) := HZ.out.below hb; clear hb; replace e0 := NB.c0 HX.out; replace e1 := NB.c1 HX.out; replace e2 := NB.c2 HX.out; replace e3 := NB.c3 HX.out; replace e4 := NB.c4 HX.out; replace e5 := NB.c5 HX.out; replace e6 := NB.c6 HX.out; replace e7 := NB.c7 HX.out; replace e8 := NB.c8 HX.out; replace e9 := NB.c9 HX.out; replace e10 := NB.c10 HX.out; replace e11 := NB.c11 HX.out; replace e12 := NB.c12 HX.out; replace e13 := NB.c13 HX.out; replace e14 := NB.c14 HX.out; replace e15 := NB.c15 HX.out; replace e16 := NB.c16 HX.out; replace e17 := NB.c17 HX.out; replace e18 := NB.c18 HX.out; replace e19 := NB.c19 HX.out; replace e20 := NB.c20 HX.out; replace e21 := NB.c21 HX.out; replace e22 := NB.c22 HX.out; replace z0 : w1.cell? ⟨X + 1, 0, none⟩ = some (.int .i64 0) := HZ.out.at0 0 _ rfl; replace z1 : w1.cell? ⟨X + 1, 1, none⟩ = some (.int .i64 0) := HZ.out.at0 1 _ rfl; replace z2 : w1.cell? ⟨X + 1, 2, none⟩ = some (.int .i64 0) := HZ.out.at0 2 _ rfl; replace z3 : w1.cell? ⟨X + 1, 3, none⟩ = some (.int .i64 0) := HZ.out.at0 3 _ rfl; replace z4 : w1.cell? ⟨X + 1, 4, none⟩ = some (.int .i64 0) := HZ.out.at0 4 _ rfl; replace z5 : w1.cell? ⟨X + 1, 5, none⟩ = some (.int .i64 0) := HZ.out.at0 5 _ rfl; replace z6 : w1.cell? ⟨X + 1, 6, none⟩ = some (.int .i64 0) := HZ.out.at0 6 _ rfl; replace z7 : w1.cell? ⟨X + 1, 7, none⟩ = some (.slice none 0 0) := HZ.out.at0 7 _ rfl; replace z8 : w1.cell? ⟨X + 1, 8, none⟩ = some (.slice none 0 0) := HZ.out.at0 8 _ rfl; replace z9 : w1.cell? ⟨X + 1, 9, none⟩ = some (.bool false) := HZ.out.at0 9 _ rfl; replace z10 : w1.cell? ⟨X + 1, 10, none⟩ = some (.int .i64 0) := HZ.out.at0 10 _ rfl; replace z11 : w1.cell? ⟨X + 1, 11, none⟩ = some (.bool false) := HZ.out.at0 11 _ rfl; replace z12 : w1.cell? ⟨X + 1, 12, none⟩ = some (.int .i64 0) := HZ.out.at0 12 _ rfl; replace z13 : w1.cell? ⟨X + 1, 13, none⟩ = some (.int .i64 0) := HZ.out.at0 13 _ rfl; replace z14 : w1.cell? ⟨X + 1, 14, none⟩ = some (.int .i64 0) := HZ.out.at0 14 _ rfl; replace z15 : w1.cell? ⟨X + 1, 15, none⟩ = some (.slice none 0 0) := HZ.out.at0 15 _ rfl; replace z16 : w1.cell? ⟨X + 1, 16, none⟩ = some (.slice none 0 0) := HZ.out.at0 16 _ rfl; replace z17 : w1.cell? ⟨X + 1, 17, none⟩ = some (.bool false) := HZ.out.at0 17 _ rfl; replace z18 : w1.cell? ⟨X + 1, 18, none⟩ = some (.int .i64 0) := HZ.out.at0 18 _ rfl; replace z19 : w1.cell? ⟨X + 1, 19, none⟩ = some (.int .i64 0) := HZ.out.at0 19 _ rfl; replace z20 : w1.cell? ⟨X + 1, 20, none⟩ = some (.int .i64 0) := HZ.out.at0 20 _ rfl; replace z21 : w1.cell? ⟨X + 1, 21, none⟩ = some (.string ⟨#[]⟩) := HZ.out.at0 21 _ rfl; replace z22 : w1.cell? ⟨X + 1, 22, none⟩ = some (.slice none 0 0) := HZ.out.at0 22 _ rfl)
      | (go_at_call 80; refine (H3.out _).mono ?_; rintro e w2 ⟨rfl, rfl⟩))
    all_goals go_ret
    all_goals (refine ⟨ret_boolW ?_, HB.out⟩; rw [HE.out]; first | (simp [*]; done) | (simp only [bne_iff_ne, ne_eq, bne_eq_false_iff_eq] at *; simp [*]))
set_option maxHeartbeats 4000000 in
theorem iNumber_any (a : Option Addr) (len cap : Nat) (l : List Nd) (now : Int) (n : Int) (hl : len ≤ 1048576) (w : World) :
    Calls Tryz.prog 19 #[.agg #[.slice a len cap, .int .i64 now], .int .i64 n] w fun e w' => e = .returned (.bool (inR 1 len n)) ∧ Below w.heap.size w w' := by
  have HE : Hid (inR 1 len n = (decide (1 ≤ n) && decide (n ≤ len))) := rfl
  have HB : Hid (Below w.heap.size w (w.alloc (.cells #[.slice a len cap, .int .i64 now] 35))) := bel_alloc _ _
  have HX : Hid (BoxR (w.alloc (.cells #[.slice a len cap, .int .i64 now] 35)) w.heap.size [.slice a len cap, .int .i64 now]) := boxR_new _ _ _
  go_enter Tryz.func19, Tryz.ntmps19
  go_upto_region 1 with fail
  generalize (w.alloc (.cells #[.slice a len cap, .int .i64 now] 35)) = w0 at HB HX ⊢
  obtain ⟨X, hX⟩ : ∃ X, X = w.heap.size := ⟨_, rfl⟩
  rw [← hX] at HX ⊢
  clear hX
  have t0 : w0.cell? ⟨X, 0, none⟩ = some (.slice a len cap) := HX.out.at0 0 _ rfl
  have t1 : w0.cell? ⟨X, 1, none⟩ = some (.int .i64 now) := HX.out.at0 1 _ rfl
  go_wp2
  all_goals go_ret
  all_goals (refine ⟨ret_boolW ?_, HB.out⟩; rw [HE.out]; first | (simp [*]; done) | (simp; omega))
set_option maxHeartbeats 4000000 in
theorem iThere_any (a : Option Addr) (len cap : Nat) (l : List Nd) (now : Int) (n : Int) (hl : len ≤ 1048576) (w : World) (hi : Nds a len l w) :
    Calls Tryz.prog 98 #[.agg #[.slice a len cap, .int .i64 now], .int .i64 n] w fun e w' => e = .returned (.bool (thB l n)) ∧ Below w.heap.size w w' := by
  have HC : Hid (∀ w', Calls Tryz.prog 19 #[.agg #[.slice a len cap, .int .i64 now], .int .i64 n] w' fun e w'' => e = .returned (.bool (inR 1 len n)) ∧ Below w'.heap.size w' w'') := (fun w' => iNumber_any a len cap l now n hl w')
  have hll := hi.1
  cases h : inR 1 len n
  · have HE : Hid (thB l n = false) := thB_off (by rw [hll]; exact h)
    rw [h] at HC
    clear hi hll
    have HB : Hid (Below w.heap.size w (w.alloc (.cells #[.slice a len cap, .int .i64 now] 35))) := bel_alloc _ _
    have HX : Hid (BoxR (w.alloc (.cells #[.slice a len cap, .int .i64 now] 35)) w.heap.size [.slice a len cap, .int .i64 now]) := boxR_new _ _ _
    go_enter Tryz.func98, Tryz.ntmps98
    go_upto_region 1 with fail
    generalize (w.alloc (.cells #[.slice a len cap, .int .i64 now] 35)) = w0 at HB HX ⊢
    obtain ⟨X, hX⟩ : ∃ X, X = w.heap.size := ⟨_, rfl⟩
    rw [← hX] at HX ⊢
    clear hX
    have t0 : w0.cell? ⟨X, 0, none⟩ = some (.slice a len cap) := HX.out.at0 0 _ rfl
    have t1 : w0.cell? ⟨X, 1, none⟩ = some (.int .i64 now) := HX.out.at0 1 _ rfl
    go_wp2_with (go_at_call 19; refine (HC.out _).mono ?_; rintro e w1 ⟨rfl, hb⟩; have HB1 : Hid (Below w.heap.size w w1) := Below.on HB.out hb; have HX1 : Hid (BoxR w1 X [.slice a len cap, .int .i64 now]) := HX.out.below hb; clear hb; clear t0 t1; have t0 : w1.cell? ⟨X, 0, none⟩ = some (.slice a len cap) := HX1.out.at0 0 _ rfl; have t1 : w1.cell? ⟨X, 1, none⟩ = some (.int .i64 now) := HX1.out.at0 1 _ rfl)
    go_ret
    exact ⟨ret_boolW HE.out.symm, HB1.out⟩
  · rw [h] at HC
    have HE : Hid (∀ k : Nat, n = k + 1 → thB l n = ((ndAt l k).k != 0)) := (fun k e => by subst e; exact thB_in (by rw [hll]; exact h))
    obtain ⟨h1, h2⟩ := inR_iff.1 h
    obtain ⟨k, rfl⟩ : ∃ k : Nat, n = (k : Int) + 1 := ⟨(n - 1).toNat, by omega⟩
    have hk : k < len := by omega
    obtain ⟨b, off, Y, rfl, hb0, hc⟩ := hi.2 (by omega)
    have HN : Hid (N24 w b (off + k * 24) (ndAt l k) (Y k)) := (hc k hk).1
    clear hc hi
    have hk1 : (k : Int) < (len : Int) := by omega
    have hk0 : (0 : Int) ≤ (k : Int) := by omega
    have HE2 : Hid (thB l (k + 1) = ((ndAt l k).k != 0)) := HE.out k rfl
    clear HE hll
    have HB : Hid (Below w.heap.size w (w.alloc (.cells #[.slice (some ⟨b, off, none⟩) len cap, .int .i64 now] 35))) := bel_alloc _ _
    have HX : Hid (BoxR (w.alloc (.cells #[.slice (some ⟨b, off, none⟩) len cap, .int .i64 now] 35)) w.heap.size [.slice (some ⟨b, off, none⟩) len cap, .int .i64 now]) := boxR_new _ _ _
    go_enter Tryz.func98, Tryz.ntmps98
    go_upto_region 1 with fail
    generalize (w.alloc (.cells #[.slice (some ⟨b, off, none⟩) len cap, .int .i64 now] 35)) = w0 at HB HX ⊢
    obtain ⟨X, hX⟩ : ∃ X, X = w.heap.size := ⟨_, rfl⟩
    rw [← hX] at HX ⊢
    clear hX
    have t0 : w0.cell? ⟨X, 0, none⟩ = some (.slice (some ⟨b, off, none⟩) len cap) := HX.out.at0 0 _ rfl
    have t1 : w0.cell? ⟨X, 1, none⟩ = some (.int .i64 now) := HX.out.at0 1 _ rfl
    go_wp2_with (go_at_call 19; refine (HC.out _).mono ?_; rintro e w1 ⟨rfl, hb⟩; have HB1 : Hid (Below w.heap.size w w1) := Below.on HB.out hb; have HX1 : Hid (BoxR w1 X [.slice (some ⟨b, off, none⟩) len cap, .int .i64 now]) := HX.out.below hb; clear hb; clear t0 t1; have t0 : w1.cell? ⟨X, 0, none⟩ = some (.slice (some ⟨b, off, none⟩) len cap) := HX1.out.at0 0 _ rfl; have t1 : w1.cell? ⟨X, 1, none⟩ = some (.int .i64 now) := HX1.out.at0 1 _ rfl; have c0 := N24.c0 (range_below HN.out hb0 HB1.out); clear HN; generalize ndAt l k = x at HE2 c0)
    all_goals go_ret
    all_goals exact ⟨ret_boolW (by rw [HE2.out]), HB1.out⟩
set_option maxRecDepth 20000 in
set_option maxHeartbeats 8000000 in
/-- impl.directoryAt, of no directory. -/
theorem iDirAt_no (a : Option Addr) (len cap : Nat) (l : List Nd) (now : Int) (n : Int) (hl : len ≤ 1048576) (w : World) (hi : Nds a len l w) (hd : diB l n = false) :
    Calls Tryz.prog 88 #[.agg #[.slice a len cap, .int .i64 now], .int .i64 n] w fun e w' => e = .returned (.tuple #[.agg (drV ndZ naZ 0).toArray, .bool false]) ∧ Below w.heap.size w w' := by
  have HC : Hid (∀ w', Calls Tryz.prog 19 #[.agg #[.slice a len cap, .int .i64 now], .int .i64 n] w' fun e w'' => e = .returned (.bool (inR 1 len n)) ∧ Below w'.heap.size w' w'') := (fun w' => iNumber_any a len cap l now n hl w')
  have hll := hi.1
  cases h : inR 1 len n
  · rw [h] at HC
    clear hi hll hd
    have HX : Hid (BoxR ((w.alloc (.cells #[.slice a len cap, .int .i64 now] 35)).alloc (.cells (drV ndZ naZ 0).toArray 84)) w.heap.size [.slice a len cap, .int .i64 now]) := (boxR_new w [.slice a len cap, .int .i64 now] 35).below (bel_alloc _ _)
    have HZ : Hid (BoxW ((w.alloc (.cells #[.slice a len cap, .int .i64 now] 35)).alloc (.cells (drV ndZ naZ 0).toArray 84)) (w.heap.size + 1) (drV ndZ naZ 0)) := (by
      have h := boxW_new (w.alloc (.cells #[.slice a len cap, .int .i64 now] 35)) (drV ndZ naZ 0) 84
      simp only [World.size_alloc] at h
      exact h)
    have HB : Hid (Below w.heap.size w ((w.alloc (.cells #[.slice a len cap, .int .i64 now] 35)).alloc (.cells (drV ndZ naZ 0).toArray 84))) := bl2T _ _ _
    go_enter Tryz.func88, Tryz.ntmps88
    go_upto_region 1 with fail
    have eZ : (#[.int .i64 0, .int .i64 0, .int .i64 0, .int .i64 0, .int .i64 0, .int .i64 0, .int .i64 0, .slice none 0 0, .slice none 0 0, .bool false, .int .i64 0, .bool false, .int .i64 0, .int .i64 0, .int .i64 0, .slice none 0 0, .slice none 0 0, .bool false, .int .i64 0, .int .i64 0, .int .i64 0, .string ⟨#[]⟩, .slice none 0 0, .int .i64 0, .int .i64 0] : Array Value) = (drV ndZ naZ 0).toArray := rfl
    rw [eZ]
    clear eZ
    generalize ((w.alloc (.cells #[.slice a len cap, .int .i64 now] 35)).alloc (.cells (drV ndZ naZ 0).toArray 84)) = w0 at HX HZ HB ⊢
    obtain ⟨X, hX⟩ : ∃ X, X = w.heap.size := ⟨_, rfl⟩
    have HXw : Hid (X = w.heap.size) := hX
    rw [← hX] at HX HZ ⊢
    clear hX
    have t0 : w0.cell? ⟨X, 0, none⟩ = some (.slice a len cap) := HX.out.at0 0 _ rfl
    have t1 : w0.cell? ⟨X, 1, none⟩ = some (.int .i64 now) := HX.out.at0 1 _ rfl
    go_upto_region 2 with (go_at_call 19; refine (HC.out _).mono ?_; rintro e w1 ⟨rfl, hb⟩; have HB1 : Hid (Below w.heap.size w w1) := Below.on HB.out hb; have HX1 : Hid (BoxR w1 X [.slice a len cap, .int .i64 now]) := HX.out.below hb; have HZ1 : Hid (BoxW w1 (X + 1) (drV ndZ naZ 0)) := HZ.out.below hb; clear hb t0 t1; have t0 : w1.cell? ⟨X, 0, none⟩ = some (.slice a len cap) := HX1.out.at0 0 _ rfl; have t1 : w1.cell? ⟨X, 1, none⟩ = some (.int .i64 now) := HX1.out.at0 1 _ rfl)
    go_wp2_with (first | (refine wpList_built (by rfl) 84 _ (by rfl) [] (by rfl) _ built_dir0 ?_) | (refine wpList_store_list (by rfl) 84 _ _ (by rfl) _ _ (drV ndZ naZ 0) (by rfl) (by rfl) (HZ1.out.there 0 25 (by simp [drV_len])) (by kernel_rfl) (drV_ones _ _ _) ?_) | (refine bodyPost_ret (v := .tuple #[.agg (drV ndZ naZ 0).toArray, .bool false]) ?hres rfl ?hR; (case hres => (have hr := World.rangeAt_setCells_same w1 (X + 1) 0 (drV ndZ naZ 0) (HZ1.out.there 0 25 (by simp [drV_len])); have hl2 := run_loadVar_mid (P := Tryz.prog) _ _ _ 84 _ _ hr Tryz.underlying84 rfl (by kernel_rfl); exact results_two (a := ⟨X + 1, 0, none⟩) Tryz.results88 (by rfl) (by rfl) hl2)); (case hR => exact ⟨rfl, bl_setsT (by have := HXw.out; omega) _ _ HB1.out⟩)))
  · rw [h] at HC
    have HE : Hid (∀ k : Nat, n = k + 1 → ((ndAt l k).k == 1) = false) := (fun k e => by subst e; exact diB_not (by rw [hll]; exact h) hd)
    obtain ⟨h1, h2⟩ := inR_iff.1 h
    obtain ⟨k, rfl⟩ : ∃ k : Nat, n = (k : Int) + 1 := ⟨(n - 1).toNat, by omega⟩
    have hk : k < len := by omega
    obtain ⟨b, off, Y, rfl, hb0, hc⟩ := hi.2 (by omega)
    have HN : Hid (N24 w b (off + k * 24) (ndAt l k) (Y k)) := (hc k hk).1
    clear hc hi
    have hk1 : (k : Int) < (len : Int) := by omega
    have hk0 : (0 : Int) ≤ (k : Int) := by omega
    have HE2 : Hid (((ndAt l k).k == 1) = false) := HE.out k rfl
    clear HE hll hd
    have HX : Hid (BoxR ((w.alloc (.cells #[.slice (some ⟨b, off, none⟩) len cap, .int .i64 now] 35)).alloc (.cells (drV ndZ naZ 0).toArray 84)) w.heap.size [.slice (some ⟨b, off, none⟩) len cap, .int .i64 now]) := (boxR_new w [.slice (some ⟨b, off, none⟩) len cap, .int .i64 now] 35).below (bel_alloc _ _)
    have HZ : Hid (BoxW ((w.alloc (.cells #[.slice (some ⟨b, off, none⟩) len cap, .int .i64 now] 35)).alloc (.cells (drV ndZ naZ 0).toArray 84)) (w.heap.size + 1) (drV ndZ naZ 0)) := (by
      have h := boxW_new (w.alloc (.cells #[.slice (some ⟨b, off, none⟩) len cap, .int .i64 now] 35)) (drV ndZ naZ 0) 84
      simp only [World.size_alloc] at h
      exact h)
    have HB : Hid (Below w.heap.size w ((w.alloc (.cells #[.slice (some ⟨b, off, none⟩) len cap, .int .i64 now] 35)).alloc (.cells (drV ndZ naZ 0).toArray 84))) := bl2T _ _ _
    go_enter Tryz.func88, Tryz.ntmps88
    go_upto_region 1 with fail
    have eZ : (#[.int .i64 0, .int .i64 0, .int .i64 0, .int .i64 0, .int .i64 0, .int .i64 0, .int .i64 0, .slice none 0 0, .slice none 0 0, .bool false, .int .i64 0, .bool false, .int .i64 0, .int .i64 0, .int .i64 0, .slice none 0 0, .slice none 0 0, .bool false, .int .i64 0, .int .i64 0, .int .i64 0, .string ⟨#[]⟩, .slice none 0 0, .int .i64 0, .int .i64 0] : Array Value) = (drV ndZ naZ 0).toArray := rfl
    rw [eZ]
    clear eZ
    generalize ((w.alloc (.cells #[.slice (some ⟨b, off, none⟩) len cap, .int .i64 now] 35)).alloc (.cells (drV ndZ naZ 0).toArray 84)) = w0 at HX HZ HB ⊢
    obtain ⟨X, hX⟩ : ∃ X, X = w.heap.size := ⟨_, rfl⟩
    have HXw : Hid (X = w.heap.size) := hX
    rw [← hX] at HX HZ ⊢
    clear hX
    have t0 : w0.cell? ⟨X, 0, none⟩ = some (.slice (some ⟨b, off, none⟩) len cap) := HX.out.at0 0 _ rfl
    have t1 : w0.cell? ⟨X, 1, none⟩ = some (.int .i64 now) := HX.out.at0 1 _ rfl
    go_upto_region 2 with (go_at_call 19; refine (HC.out _).mono ?_; rintro e w1 ⟨rfl, hb⟩; have HB1 : Hid (Below w.heap.size w w1) := Below.on HB.out hb; have HX1 : Hid (BoxR w1 X [.slice (some ⟨b, off, none⟩) len cap, .int .i64 now]) := HX.out.below hb; have HZ1 : Hid (BoxW w1 (X + 1) (drV ndZ naZ 0)) := HZ.out.below hb; clear hb t0 t1; have t0 : w1.cell? ⟨X, 0, none⟩ = some (.slice (some ⟨b, off, none⟩) len cap) := HX1.out.at0 0 _ rfl; have t1 : w1.cell? ⟨X, 1, none⟩ = some (.int .i64 now) := HX1.out.at0 1 _ rfl; have c0 := N24.c0 (range_below HN.out hb0 HB1.out); clear HN; generalize ndAt l k = x at HE2 c0; have hne : (x.k != 1) = true := (by rw [bne, HE2.out]; rfl))
    go_wp2_with (first | (refine wpList_built (by rfl) 84 _ (by rfl) [] (by rfl) _ built_dir0 ?_) | (refine wpList_store_list (by rfl) 84 _ _ (by rfl) _ _ (drV ndZ naZ 0) (by rfl) (by rfl) (HZ1.out.there 0 25 (by simp [drV_len])) (by kernel_rfl) (drV_ones _ _ _) ?_) | (refine bodyPost_ret (v := .tuple #[.agg (drV ndZ naZ 0).toArray, .bool false]) ?hres rfl ?hR; (case hres => (have hr := World.rangeAt_setCells_same w1 (X + 1) 0 (drV ndZ naZ 0) (HZ1.out.there 0 25 (by simp [drV_len])); have hl2 := run_loadVar_mid (P := Tryz.prog) _ _ _ 84 _ _ hr Tryz.underlying84 rfl (by kernel_rfl); exact results_two (a := ⟨X + 1, 0, none⟩) Tryz.results88 (by rfl) (by rfl) hl2)); (case hR => exact ⟨rfl, bl_setsT (by have := HXw.out; omega) _ _ HB1.out⟩)))

set_option maxRecDepth 20000 in
set_option maxHeartbeats 8000000 in
/-- impl.directoryAt, of a directory. -/
theorem iDirAt_yes (a : Option Addr) (len cap : Nat) (l : List Nd) (now : Int) (k : Nat) (hl : len ≤ 1048576) (w : World) (hi : Nds a len l w) (hd : diB l ((k : Int) + 1) = true) :
    Calls Tryz.prog 88 #[.agg #[.slice a len cap, .int .i64 now], .int .i64 ((k : Int) + 1)] w fun e w' => ∃ y, e = .returned (.tuple #[.agg (drV (ndAt l k) y ((k : Int) + 1)).toArray, .bool true]) ∧ NdIn w' (ndAt l k) y ∧ Below w.heap.size w w' := by
  have hll := hi.1
  have h : inR 1 len ((k : Int) + 1) = true := by rw [← hll]; exact thB_num (diB_th hd)
  have HC : Hid (∀ w', Calls Tryz.prog 19 #[.agg #[.slice a len cap, .int .i64 now], .int .i64 ((k : Int) + 1)] w' fun e w'' => e = .returned (.bool true) ∧ Below w'.heap.size w' w'') := (fun w' => by have := iNumber_any a len cap l now ((k : Int) + 1) hl w'; rwa [h] at this)
  have hk1' : ((ndAt l k).k == 1) = true := by rw [← diB_in (diB_th hd)]; exact hd
  obtain ⟨h1, h2⟩ := inR_iff.1 h
  have hk : k < len := by omega
  obtain ⟨b, off, Y, rfl, hb0, hc⟩ := hi.2 (by omega)
  have HN : Hid (N24 w b (off + k * 24) (ndAt l k) (Y k)) := (hc k hk).1
  have HM : Hid (NdIn w (ndAt l k) (Y k)) := (hc k hk).2
  clear hc hi hd h h1 h2 hll
  have hk1 : (k : Int) < (len : Int) := by omega
  have hk0 : (0 : Int) ≤ (k : Int) := by omega
  obtain ⟨x, hx⟩ : ∃ x, x = ndAt l k := ⟨_, rfl⟩
  rw [← hx] at HN HM hk1' ⊢
  clear hx
  generalize Y k = y at HN HM
  have hne : (x.k != 1) = false := by rw [bne, hk1']; rfl
  have HX : Hid (BoxR ((w.alloc (.cells #[.slice (some ⟨b, off, none⟩) len cap, .int .i64 now] 35)).alloc (.cells (drV ndZ naZ 0).toArray 84)) w.heap.size [.slice (some ⟨b, off, none⟩) len cap, .int .i64 now]) := (boxR_new w [.slice (some ⟨b, off, none⟩) len cap, .int .i64 now] 35).below (bel_alloc _ _)
  have HZ : Hid (BoxW ((w.alloc (.cells #[.slice (some ⟨b, off, none⟩) len cap, .int .i64 now] 35)).alloc (.cells (drV ndZ naZ 0).toArray 84)) (w.heap.size + 1) (drV ndZ naZ 0)) := (by
    have h := boxW_new (w.alloc (.cells #[.slice (some ⟨b, off, none⟩) len cap, .int .i64 now] 35)) (drV ndZ naZ 0) 84
    simp only [World.size_alloc] at h
    exact h)
  have HB : Hid (Below w.heap.size w ((w.alloc (.cells #[.slice (some ⟨b, off, none⟩) len cap, .int .i64 now] 35)).alloc (.cells (drV ndZ naZ 0).toArray 84))) := bl2T _ _ _
  go_enter Tryz.func88, Tryz.ntmps88
  go_upto_region 1 with fail
  have eZ : (#[.int .i64 0, .int .i64 0, .int .i64 0, .int .i64 0, .int .i64 0, .int .i64 0, .int .i64 0, .slice none 0 0, .slice none 0 0, .bool false, .int .i64 0, .bool false, .int .i64 0, .int .i64 0, .int .i64 0, .slice none 0 0, .slice none 0 0, .bool false, .int .i64 0, .int .i64 0, .int .i64 0, .string ⟨#[]⟩, .slice none 0 0, .int .i64 0, .int .i64 0] : Array Value) = (drV ndZ naZ 0).toArray := rfl
  rw [eZ]
  clear eZ
  generalize ((w.alloc (.cells #[.slice (some ⟨b, off, none⟩) len cap, .int .i64 now] 35)).alloc (.cells (drV ndZ naZ 0).toArray 84)) = w0 at HX HZ HB ⊢
  obtain ⟨X, hX⟩ : ∃ X, X = w.heap.size := ⟨_, rfl⟩
  have HXw : Hid (X = w.heap.size) := hX
  rw [← hX] at HX HZ ⊢
  clear hX
  have t0 : w0.cell? ⟨X, 0, none⟩ = some (.slice (some ⟨b, off, none⟩) len cap) := HX.out.at0 0 _ rfl
  have t1 : w0.cell? ⟨X, 1, none⟩ = some (.int .i64 now) := HX.out.at0 1 _ rfl
  go_upto_region 3 with (go_at_call 19; refine (HC.out _).mono ?_; rintro e w1 ⟨rfl, hb⟩; have HB1 : Hid (Below w.heap.size w w1) := Below.on HB.out hb; have HX1 : Hid (BoxR w1 X [.slice (some ⟨b, off, none⟩) len cap, .int .i64 now]) := HX.out.below hb; have HZ1 : Hid (BoxW w1 (X + 1) (drV ndZ naZ 0)) := HZ.out.below hb; clear hb t0 t1; have t0 : w1.cell? ⟨X, 0, none⟩ = some (.slice (some ⟨b, off, none⟩) len cap) := HX1.out.at0 0 _ rfl; have t1 : w1.cell? ⟨X, 1, none⟩ = some (.int .i64 now) := HX1.out.at0 1 _ rfl; have HN1 : Hid (N24 w1 b (off + k * 24) x y) := range_below HN.out hb0 HB1.out; have c0 := N24.c0 HN1.out)
  go_wp2_with (first | (refine wpList_load_mid (by rfl) 31 _ (by rfl) _ _ (by rfl) _ _ HN1.out Tryz.underlying31 rfl (by kernel_rfl) ?_) | (refine wpList_built2 (by rfl) 84 _ _ (by rfl) _ _ (by rfl) (by rfl) _ (built_dir x y _) ?_) | (refine wpList_store_list (by rfl) 84 _ _ (by rfl) _ _ (drV x y ((k : Int) + 1)) (by rfl) (by rfl) (HZ1.out.there 0 25 (by simp [drV_len])) (by kernel_rfl) (drV_ones _ _ _) ?_) | (refine bodyPost_ret (v := .tuple #[.agg (drV x y ((k : Int) + 1)).toArray, .bool true]) ?hres rfl ?hR; (case hres => (have hr := World.rangeAt_setCells_same w1 (X + 1) 0 (drV x y ((k : Int) + 1)) (HZ1.out.there 0 25 (by simp [drV_len])); have hl2 := run_loadVar_mid (P := Tryz.prog) _ _ _ 84 _ _ hr Tryz.underlying84 rfl (by kernel_rfl); exact results_two (a := ⟨X + 1, 0, none⟩) Tryz.results88 (by rfl) (by rfl) hl2)); (case hR => exact ⟨y, rfl, HM.out.below (bl_setsT (by have := HXw.out; omega) _ _ HB1.out), bl_setsT (by have := HXw.out; omega) _ _ HB1.out⟩)))
end Go.Proofs.YtgodbelcddgdmaaGreat
