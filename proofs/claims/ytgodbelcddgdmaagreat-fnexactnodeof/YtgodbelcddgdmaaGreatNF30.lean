/- Laid together: NodeToO. -/
import Derived.Test.YtgodbelcddgdmaaGreatNF19
/- laws.toNode, toNodeS, toTree: a copy of a tree, each list in a block of its own. -/
namespace Go.Proofs.YtgodbelcddgdmaaGreat
open Go.RowKit Go.PlainAid
set_option linter.unusedVariables false
set_option maxRecDepth 20000 in
set_option maxHeartbeats 4000000 in
theorem toNodeO_any (x : Nd) (y : Na) (hf : NdFit 1048576 x) (w : World) (hi : NdIn w x y) :
    Calls Tryz.prog 35 #[.agg (ndV x y).toArray] w fun e w' => ∃ y' : Na, e = .returned (.agg (ndV x y').toArray) ∧ NdOwn w' x y' ∧ LsI w.heap.size w'.heap.size x y' ∧ Below w.heap.size w w' := by
  have HF : Hid (NdFit 1048576 x) := hf
  have HI : Hid (NdIn w x y) := hi
  clear hf hi
  have HX : Hid (BoxR (((w.alloc (.cells (ndV x y).toArray 59)).alloc (.cells #[.int .i64 0, .int .i64 0, .int .i64 0, .int .i64 0, .int .i64 0, .int .i64 0, .int .i64 0, .slice none 0 0, .slice none 0 0, .bool false, .int .i64 0, .bool false, .int .i64 0, .int .i64 0, .int .i64 0, .slice none 0 0, .slice none 0 0, .bool false, .int .i64 0, .int .i64 0, .int .i64 0, .string ⟨#[]⟩, .slice none 0 0, .int .i64 0] 31)).alloc (.cells #[.int .i64 0, .int .i64 0, .int .i64 0, .int .i64 0, .int .i64 0, .int .i64 0, .int .i64 0, .slice none 0 0, .slice none 0 0, .bool false, .int .i64 0, .bool false, .int .i64 0, .int .i64 0, .int .i64 0, .slice none 0 0, .slice none 0 0, .bool false, .int .i64 0, .int .i64 0, .int .i64 0, .string ⟨#[]⟩, .slice none 0 0, .int .i64 0] 31)) w.heap.size (ndV x y)) := ((boxR_new w (ndV x y) 59).below (bel_alloc _ _)).below (bel_alloc _ _)
  have HY : Hid (BoxW (((w.alloc (.cells (ndV x y).toArray 59)).alloc (.cells #[.int .i64 0, .int .i64 0, .int .i64 0, .int .i64 0, .int .i64 0, .int .i64 0, .int .i64 0, .slice none 0 0, .slice none 0 0, .bool false, .int .i64 0, .bool false, .int .i64 0, .int .i64 0, .int .i64 0, .slice none 0 0, .slice none 0 0, .bool false, .int .i64 0, .int .i64 0, .int .i64 0, .string ⟨#[]⟩, .slice none 0 0, .int .i64 0] 31)).alloc (.cells #[.int .i64 0, .int .i64 0, .int .i64 0, .int .i64 0, .int .i64 0, .int .i64 0, .int .i64 0, .slice none 0 0, .slice none 0 0, .bool false, .int .i64 0, .bool false, .int .i64 0, .int .i64 0, .int .i64 0, .slice none 0 0, .slice none 0 0, .bool false, .int .i64 0, .int .i64 0, .int .i64 0, .string ⟨#[]⟩, .slice none 0 0, .int .i64 0] 31)) (w.heap.size + 1) [.int .i64 0, .int .i64 0, .int .i64 0, .int .i64 0, .int .i64 0, .int .i64 0, .int .i64 0, .slice none 0 0, .slice none 0 0, .bool false, .int .i64 0, .bool false, .int .i64 0, .int .i64 0, .int .i64 0, .slice none 0 0, .slice none 0 0, .bool false, .int .i64 0, .int .i64 0, .int .i64 0, .string ⟨#[]⟩, .slice none 0 0, .int .i64 0]) := (by
    have h := (boxW_new (w.alloc (.cells (ndV x y).toArray 59)) [.int .i64 0, .int .i64 0, .int .i64 0, .int .i64 0, .int .i64 0, .int .i64 0, .int .i64 0, .slice none 0 0, .slice none 0 0, .bool false, .int .i64 0, .bool false, .int .i64 0, .int .i64 0, .int .i64 0, .slice none 0 0, .slice none 0 0, .bool false, .int .i64 0, .int .i64 0, .int .i64 0, .string ⟨#[]⟩, .slice none 0 0, .int .i64 0] 31).below (bel_alloc _ (.cells #[.int .i64 0, .int .i64 0, .int .i64 0, .int .i64 0, .int .i64 0, .int .i64 0, .int .i64 0, .slice none 0 0, .slice none 0 0, .bool false, .int .i64 0, .bool false, .int .i64 0, .int .i64 0, .int .i64 0, .slice none 0 0, .slice none 0 0, .bool false, .int .i64 0, .int .i64 0, .int .i64 0, .string ⟨#[]⟩, .slice none 0 0, .int .i64 0] 31))
    simp only [World.size_alloc] at h
    exact h)
  have HZ : Hid (BoxW (((w.alloc (.cells (ndV x y).toArray 59)).alloc (.cells #[.int .i64 0, .int .i64 0, .int .i64 0, .int .i64 0, .int .i64 0, .int .i64 0, .int .i64 0, .slice none 0 0, .slice none 0 0, .bool false, .int .i64 0, .bool false, .int .i64 0, .int .i64 0, .int .i64 0, .slice none 0 0, .slice none 0 0, .bool false, .int .i64 0, .int .i64 0, .int .i64 0, .string ⟨#[]⟩, .slice none 0 0, .int .i64 0] 31)).alloc (.cells #[.int .i64 0, .int .i64 0, .int .i64 0, .int .i64 0, .int .i64 0, .int .i64 0, .int .i64 0, .slice none 0 0, .slice none 0 0, .bool false, .int .i64 0, .bool false, .int .i64 0, .int .i64 0, .int .i64 0, .slice none 0 0, .slice none 0 0, .bool false, .int .i64 0, .int .i64 0, .int .i64 0, .string ⟨#[]⟩, .slice none 0 0, .int .i64 0] 31)) (w.heap.size + 1 + 1) [.int .i64 0, .int .i64 0, .int .i64 0, .int .i64 0, .int .i64 0, .int .i64 0, .int .i64 0, .slice none 0 0, .slice none 0 0, .bool false, .int .i64 0, .bool false, .int .i64 0, .int .i64 0, .int .i64 0, .slice none 0 0, .slice none 0 0, .bool false, .int .i64 0, .int .i64 0, .int .i64 0, .string ⟨#[]⟩, .slice none 0 0, .int .i64 0]) := (by
    have h := boxW_new ((w.alloc (.cells (ndV x y).toArray 59)).alloc (.cells #[.int .i64 0, .int .i64 0, .int .i64 0, .int .i64 0, .int .i64 0, .int .i64 0, .int .i64 0, .slice none 0 0, .slice none 0 0, .bool false, .int .i64 0, .bool false, .int .i64 0, .int .i64 0, .int .i64 0, .slice none 0 0, .slice none 0 0, .bool false, .int .i64 0, .int .i64 0, .int .i64 0, .string ⟨#[]⟩, .slice none 0 0, .int .i64 0] 31)) [.int .i64 0, .int .i64 0, .int .i64 0, .int .i64 0, .int .i64 0, .int .i64 0, .int .i64 0, .slice none 0 0, .slice none 0 0, .bool false, .int .i64 0, .bool false, .int .i64 0, .int .i64 0, .int .i64 0, .slice none 0 0, .slice none 0 0, .bool false, .int .i64 0, .int .i64 0, .int .i64 0, .string ⟨#[]⟩, .slice none 0 0, .int .i64 0] 31
    simp only [World.size_alloc] at h
    exact h)
  have HB : Hid (Below w.heap.size w (((w.alloc (.cells (ndV x y).toArray 59)).alloc (.cells #[.int .i64 0, .int .i64 0, .int .i64 0, .int .i64 0, .int .i64 0, .int .i64 0, .int .i64 0, .slice none 0 0, .slice none 0 0, .bool false, .int .i64 0, .bool false, .int .i64 0, .int .i64 0, .int .i64 0, .slice none 0 0, .slice none 0 0, .bool false, .int .i64 0, .int .i64 0, .int .i64 0, .string ⟨#[]⟩, .slice none 0 0, .int .i64 0] 31)).alloc (.cells #[.int .i64 0, .int .i64 0, .int .i64 0, .int .i64 0, .int .i64 0, .int .i64 0, .int .i64 0, .slice none 0 0, .slice none 0 0, .bool false, .int .i64 0, .bool false, .int .i64 0, .int .i64 0, .int .i64 0, .slice none 0 0, .slice none 0 0, .bool false, .int .i64 0, .int .i64 0, .int .i64 0, .string ⟨#[]⟩, .slice none 0 0, .int .i64 0] 31))) := bl3T _ _ _ _
  go_enter Tryz.func35, Tryz.ntmps35
  go_upto_region 2 with fail
  generalize (((w.alloc (.cells (ndV x y).toArray 59)).alloc (.cells #[.int .i64 0, .int .i64 0, .int .i64 0, .int .i64 0, .int .i64 0, .int .i64 0, .int .i64 0, .slice none 0 0, .slice none 0 0, .bool false, .int .i64 0, .bool false, .int .i64 0, .int .i64 0, .int .i64 0, .slice none 0 0, .slice none 0 0, .bool false, .int .i64 0, .int .i64 0, .int .i64 0, .string ⟨#[]⟩, .slice none 0 0, .int .i64 0] 31)).alloc (.cells #[.int .i64 0, .int .i64 0, .int .i64 0, .int .i64 0, .int .i64 0, .int .i64 0, .int .i64 0, .slice none 0 0, .slice none 0 0, .bool false, .int .i64 0, .bool false, .int .i64 0, .int .i64 0, .int .i64 0, .slice none 0 0, .slice none 0 0, .bool false, .int .i64 0, .int .i64 0, .int .i64 0, .string ⟨#[]⟩, .slice none 0 0, .int .i64 0] 31)) = w0 at HX HY HZ HB ⊢
  obtain ⟨X, hX⟩ : ∃ X, X = w.heap.size := ⟨_, rfl⟩
  have HXw : Hid (X = w.heap.size) := hX
  rw [← hX] at HX HY HZ ⊢
  clear hX
  have e0 := N24.c0 HX.out.at0
  have e1 := N24.c1 HX.out.at0
  have e2 := N24.c2 HX.out.at0
  have e3 := N24.c3 HX.out.at0
  have e4 := N24.c4 HX.out.at0
  have e5 := N24.c5 HX.out.at0
  have e6 := N24.c6 HX.out.at0
  have e7 := N24.c7 HX.out.at0
  have e8 := N24.c8 HX.out.at0
  have e9 := N24.c9 HX.out.at0
  have e10 := N24.c10 HX.out.at0
  simp only [Nat.zero_add] at e0 e1 e2 e3 e4 e5 e6 e7 e8 e9 e10
  have z0 : w0.cell? ⟨X + 1 + 1, 0, none⟩ = some (.int .i64 0) := HZ.out.at0 0 _ rfl
  have z1 : w0.cell? ⟨X + 1 + 1, 1, none⟩ = some (.int .i64 0) := HZ.out.at0 1 _ rfl
  have z2 : w0.cell? ⟨X + 1 + 1, 2, none⟩ = some (.int .i64 0) := HZ.out.at0 2 _ rfl
  have z3 : w0.cell? ⟨X + 1 + 1, 3, none⟩ = some (.int .i64 0) := HZ.out.at0 3 _ rfl
  have zf := HZ.out.frz
  have HBn : Hid (Below w.heap.size w ((((w0.setCell ⟨X + 1 + 1, 0, none⟩ (.int .i64 x.k)).setCell ⟨X + 1 + 1, 1, none⟩ (.int .i64 x.ow)).setCell ⟨X + 1 + 1, 2, none⟩ (.int .i64 x.gr)).setCell ⟨X + 1 + 1, 3, none⟩ (.int .i64 x.ex))) := bl_setT (bl_setT (bl_setT (bl_setT (HB.out) (by have := HXw.out; omega)) (by have := HXw.out; omega)) (by have := HXw.out; omega)) (by have := HXw.out; omega)
  have HXn : Hid (BoxR ((((w0.setCell ⟨X + 1 + 1, 0, none⟩ (.int .i64 x.k)).setCell ⟨X + 1 + 1, 1, none⟩ (.int .i64 x.ow)).setCell ⟨X + 1 + 1, 2, none⟩ (.int .i64 x.gr)).setCell ⟨X + 1 + 1, 3, none⟩ (.int .i64 x.ex)) X (ndV x y)) := ((((HX.out).other (by omega)).other (by omega)).other (by omega)).other (by omega)
  have HYn : Hid (BoxW ((((w0.setCell ⟨X + 1 + 1, 0, none⟩ (.int .i64 x.k)).setCell ⟨X + 1 + 1, 1, none⟩ (.int .i64 x.ow)).setCell ⟨X + 1 + 1, 2, none⟩ (.int .i64 x.gr)).setCell ⟨X + 1 + 1, 3, none⟩ (.int .i64 x.ex)) (X + 1) [.int .i64 0, .int .i64 0, .int .i64 0, .int .i64 0, .int .i64 0, .int .i64 0, .int .i64 0, .slice none 0 0, .slice none 0 0, .bool false, .int .i64 0, .bool false, .int .i64 0, .int .i64 0, .int .i64 0, .slice none 0 0, .slice none 0 0, .bool false, .int .i64 0, .int .i64 0, .int .i64 0, .string ⟨#[]⟩, .slice none 0 0, .int .i64 0]) := ((((HY.out).other (by omega)).other (by omega)).other (by omega)).other (by omega)
  have HZn : Hid (BoxW ((((w0.setCell ⟨X + 1 + 1, 0, none⟩ (.int .i64 x.k)).setCell ⟨X + 1 + 1, 1, none⟩ (.int .i64 x.ow)).setCell ⟨X + 1 + 1, 2, none⟩ (.int .i64 x.gr)).setCell ⟨X + 1 + 1, 3, none⟩ (.int .i64 x.ex)) (X + 1 + 1) [.int .i64 x.k, .int .i64 x.ow, .int .i64 x.gr, .int .i64 x.ex, .int .i64 0, .int .i64 0, .int .i64 0, .slice none 0 0, .slice none 0 0, .bool false, .int .i64 0, .bool false, .int .i64 0, .int .i64 0, .int .i64 0, .slice none 0 0, .slice none 0 0, .bool false, .int .i64 0, .int .i64 0, .int .i64 0, .string ⟨#[]⟩, .slice none 0 0, .int .i64 0]) := ((((HZ.out).set 0 (by simp) _).set 1 (by simp) _).set 2 (by simp) _).set 3 (by simp) _
  clear HX HY HZ HB
  go_wp2_with fail
  generalize ((((w0.setCell ⟨X + 1 + 1, 0, none⟩ (.int .i64 x.k)).setCell ⟨X + 1 + 1, 1, none⟩ (.int .i64 x.ow)).setCell ⟨X + 1 + 1, 2, none⟩ (.int .i64 x.gr)).setCell ⟨X + 1 + 1, 3, none⟩ (.int .i64 x.ex)) = wA at HBn HXn HYn HZn ⊢
  clear zf e0 e1 e2 e3 e4 e5 e6 e7 e8 e9 e10 z0 z1 z2 z3
  refine (toAcl_any x.A.u x.A.g x.A.o _ _ _ _ _ _ x.A.r x.A.m x.A.us x.A.gs HF.out.au HF.out.ag _ (HI.out.aU.below HBn.out) (HI.out.aG.below HBn.out)).mono ?_
  rintro e w1 ⟨B1, B2, rfl, hO1, hO2, hs1, hs2, hs3, hb⟩
  have HS1 : Hid (X + 1 + 1 < B1 ∧ X + 1 + 1 < B2) := ⟨Nat.lt_of_lt_of_le HZn.out.lt hs1, Nat.lt_trans (Nat.lt_of_lt_of_le HZn.out.lt hs1) hs2⟩
  have HB : Hid (Below w.heap.size w w1) := Below.on HBn.out hb
  have HX : Hid (BoxR w1 X (ndV x y)) := HXn.out.below hb
  have HY : Hid (BoxW w1 (X + 1) [.int .i64 0, .int .i64 0, .int .i64 0, .int .i64 0, .int .i64 0, .int .i64 0, .int .i64 0, .slice none 0 0, .slice none 0 0, .bool false, .int .i64 0, .bool false, .int .i64 0, .int .i64 0, .int .i64 0, .slice none 0 0, .slice none 0 0, .bool false, .int .i64 0, .int .i64 0, .int .i64 0, .string ⟨#[]⟩, .slice none 0 0, .int .i64 0]) := HYn.out.below hb
  have HZ : Hid (BoxW w1 (X + 1 + 1) [.int .i64 x.k, .int .i64 x.ow, .int .i64 x.gr, .int .i64 x.ex, .int .i64 0, .int .i64 0, .int .i64 0, .slice none 0 0, .slice none 0 0, .bool false, .int .i64 0, .bool false, .int .i64 0, .int .i64 0, .int .i64 0, .slice none 0 0, .slice none 0 0, .bool false, .int .i64 0, .int .i64 0, .int .i64 0, .string ⟨#[]⟩, .slice none 0 0, .int .i64 0]) := HZn.out.below hb
  clear hb HBn HXn HYn HZn
  have U1 : Hid (Own (some ⟨B1, 0, none⟩) x.A.us.length x.A.us w1) := hO1
  have U2 : Hid (Own (some ⟨B2, 0, none⟩) x.A.gs.length x.A.gs w1) := hO2
  have HT1 : Hid (B1 < B2) := hs2
  have L2 : Hid (LtS B2 w1) := ⟨hs3⟩
  clear hO1 hO2 hs1 hs2 hs3
  go_upto_region 7 with (refine wpList_store_list (by rfl) 28 _ _ (by rfl) (X + 1 + 1) 4 (alV x.A (some ⟨B1, 0, none⟩) x.A.us.length (some ⟨B2, 0, none⟩) x.A.gs.length) (by rfl) (by rfl) (HZ.out.there 4 7 (by simp)) (by kernel_rfl) (alV_ones _ _ _ _ _) ?_)
  have HBn : Hid (Below w.heap.size w (w1.setCells (X + 1 + 1) 4 (alV x.A (some ⟨B1, 0, none⟩) x.A.us.length (some ⟨B2, 0, none⟩) x.A.gs.length))) := bl_setsT (by have := HXw.out; omega) _ _ HB.out
  have HXn : Hid (BoxR (w1.setCells (X + 1 + 1) 4 (alV x.A (some ⟨B1, 0, none⟩) x.A.us.length (some ⟨B2, 0, none⟩) x.A.gs.length)) X (ndV x y)) := HX.out.others (by omega)
  have HYn : Hid (BoxW (w1.setCells (X + 1 + 1) 4 (alV x.A (some ⟨B1, 0, none⟩) x.A.us.length (some ⟨B2, 0, none⟩) x.A.gs.length)) (X + 1) [.int .i64 0, .int .i64 0, .int .i64 0, .int .i64 0, .int .i64 0, .int .i64 0, .int .i64 0, .slice none 0 0, .slice none 0 0, .bool false, .int .i64 0, .bool false, .int .i64 0, .int .i64 0, .int .i64 0, .slice none 0 0, .slice none 0 0, .bool false, .int .i64 0, .int .i64 0, .int .i64 0, .string ⟨#[]⟩, .slice none 0 0, .int .i64 0]) := HY.out.others (by omega)
  have HZn : Hid (BoxW (w1.setCells (X + 1 + 1) 4 (alV x.A (some ⟨B1, 0, none⟩) x.A.us.length (some ⟨B2, 0, none⟩) x.A.gs.length)) (X + 1 + 1) [.int .i64 x.k, .int .i64 x.ow, .int .i64 x.gr, .int .i64 x.ex, .int .i64 x.A.u, .int .i64 x.A.g, .int .i64 x.A.o, .slice (some ⟨B1, 0, none⟩) x.A.us.length x.A.us.length, .slice (some ⟨B2, 0, none⟩) x.A.gs.length x.A.gs.length, .bool x.A.r, .int .i64 x.A.m, .bool false, .int .i64 0, .int .i64 0, .int .i64 0, .slice none 0 0, .slice none 0 0, .bool false, .int .i64 0, .int .i64 0, .int .i64 0, .string ⟨#[]⟩, .slice none 0 0, .int .i64 0]) := HZ.out.sets 4 (alV x.A (some ⟨B1, 0, none⟩) x.A.us.length (some ⟨B2, 0, none⟩) x.A.gs.length) (by simp [alV_len])
  have U1n : Hid (Own (some ⟨B1, 0, none⟩) x.A.us.length x.A.us (w1.setCells (X + 1 + 1) 4 (alV x.A (some ⟨B1, 0, none⟩) x.A.us.length (some ⟨B2, 0, none⟩) x.A.gs.length))) := U1.out.setsA (apart_of HS1.out.1) _ _
  have U2n : Hid (Own (some ⟨B2, 0, none⟩) x.A.gs.length x.A.gs (w1.setCells (X + 1 + 1) 4 (alV x.A (some ⟨B1, 0, none⟩) x.A.us.length (some ⟨B2, 0, none⟩) x.A.gs.length))) := U2.out.setsA (apart_of HS1.out.2) _ _
  have L2n : Hid (LtS B2 (w1.setCells (X + 1 + 1) 4 (alV x.A (some ⟨B1, 0, none⟩) x.A.us.length (some ⟨B2, 0, none⟩) x.A.gs.length))) := L2.out.setsA (apart_of HS1.out.2) _ _
  clear HB HX HY HZ U1 U2 L2
  generalize (w1.setCells (X + 1 + 1) 4 (alV x.A (some ⟨B1, 0, none⟩) x.A.us.length (some ⟨B2, 0, none⟩) x.A.gs.length)) = w2 at HBn HXn HYn HZn U1n U2n L2n ⊢
  have HB := HBn
  have HX := HXn
  have HY := HYn
  have HZ := HZn
  have U1 := U1n
  have U2 := U2n
  have L2 := L2n
  clear HBn HXn HYn HZn U1n U2n L2n
  have e11 := N24.c11 HX.out.at0
  have e12 := N24.c12 HX.out.at0
  have e13 := N24.c13 HX.out.at0
  have e14 := N24.c14 HX.out.at0
  have e15 := N24.c15 HX.out.at0
  have e16 := N24.c16 HX.out.at0
  have e17 := N24.c17 HX.out.at0
  have e18 := N24.c18 HX.out.at0
  simp only [Nat.zero_add] at e11 e12 e13 e14 e15 e16 e17 e18
  have z11 : w2.cell? ⟨X + 1 + 1, 11, none⟩ = some (.bool false) := HZ.out.at0 11 _ rfl
  have zf := HZ.out.frz
  have HBn : Hid (Below w.heap.size w (w2.setCell ⟨X + 1 + 1, 11, none⟩ (.bool x.sh))) := bl_setT (HB.out) (by have := HXw.out; omega)
  have HXn : Hid (BoxR (w2.setCell ⟨X + 1 + 1, 11, none⟩ (.bool x.sh)) X (ndV x y)) := (HX.out).other (by omega)
  have HYn : Hid (BoxW (w2.setCell ⟨X + 1 + 1, 11, none⟩ (.bool x.sh)) (X + 1) [.int .i64 0, .int .i64 0, .int .i64 0, .int .i64 0, .int .i64 0, .int .i64 0, .int .i64 0, .slice none 0 0, .slice none 0 0, .bool false, .int .i64 0, .bool false, .int .i64 0, .int .i64 0, .int .i64 0, .slice none 0 0, .slice none 0 0, .bool false, .int .i64 0, .int .i64 0, .int .i64 0, .string ⟨#[]⟩, .slice none 0 0, .int .i64 0]) := (HY.out).other (by omega)
  have HZn : Hid (BoxW (w2.setCell ⟨X + 1 + 1, 11, none⟩ (.bool x.sh)) (X + 1 + 1) [.int .i64 x.k, .int .i64 x.ow, .int .i64 x.gr, .int .i64 x.ex, .int .i64 x.A.u, .int .i64 x.A.g, .int .i64 x.A.o, .slice (some ⟨B1, 0, none⟩) x.A.us.length x.A.us.length, .slice (some ⟨B2, 0, none⟩) x.A.gs.length x.A.gs.length, .bool x.A.r, .int .i64 x.A.m, .bool x.sh, .int .i64 0, .int .i64 0, .int .i64 0, .slice none 0 0, .slice none 0 0, .bool false, .int .i64 0, .int .i64 0, .int .i64 0, .string ⟨#[]⟩, .slice none 0 0, .int .i64 0]) := (HZ.out).set 11 (by simp) _
  have U1n : Hid (Own (some ⟨B1, 0, none⟩) x.A.us.length x.A.us (w2.setCell ⟨X + 1 + 1, 11, none⟩ (.bool x.sh))) := (U1.out).setA (apart_of HS1.out.1)
  have U2n : Hid (Own (some ⟨B2, 0, none⟩) x.A.gs.length x.A.gs (w2.setCell ⟨X + 1 + 1, 11, none⟩ (.bool x.sh))) := (U2.out).setA (apart_of HS1.out.2)
  have L2n : Hid (LtS B2 (w2.setCell ⟨X + 1 + 1, 11, none⟩ (.bool x.sh))) := (L2.out).setA (apart_of HS1.out.2)
  clear HX HY HZ HB U1 U2 L2
  go_wp2_with fail
  generalize (w2.setCell ⟨X + 1 + 1, 11, none⟩ (.bool x.sh)) = wB at HBn HXn HYn HZn U1n U2n L2n ⊢
  clear zf e11 e12 e13 e14 e15 e16 e17 e18 z11
  refine (toAcl_any x.D.u x.D.g x.D.o _ _ _ _ _ _ x.D.r x.D.m x.D.us x.D.gs HF.out.du HF.out.dg _ (HI.out.dU.below HBn.out) (HI.out.dG.below HBn.out)).mono ?_
  rintro e w3 ⟨B3, B4, rfl, hO1, hO2, hs1, hs2, hs3, hb⟩
  have HS2 : Hid (X + 1 + 1 < B3 ∧ X + 1 + 1 < B4) := ⟨Nat.lt_of_lt_of_le HZn.out.lt hs1, Nat.lt_trans (Nat.lt_of_lt_of_le HZn.out.lt hs1) hs2⟩
  have HT2 : Hid (B2 < B3) := Nat.lt_of_lt_of_le L2n.out.lt hs1
  have HB : Hid (Below w.heap.size w w3) := Below.on HBn.out hb
  have HX : Hid (BoxR w3 X (ndV x y)) := HXn.out.below hb
  have HY : Hid (BoxW w3 (X + 1) [.int .i64 0, .int .i64 0, .int .i64 0, .int .i64 0, .int .i64 0, .int .i64 0, .int .i64 0, .slice none 0 0, .slice none 0 0, .bool false, .int .i64 0, .bool false, .int .i64 0, .int .i64 0, .int .i64 0, .slice none 0 0, .slice none 0 0, .bool false, .int .i64 0, .int .i64 0, .int .i64 0, .string ⟨#[]⟩, .slice none 0 0, .int .i64 0]) := HYn.out.below hb
  have HZ : Hid (BoxW w3 (X + 1 + 1) [.int .i64 x.k, .int .i64 x.ow, .int .i64 x.gr, .int .i64 x.ex, .int .i64 x.A.u, .int .i64 x.A.g, .int .i64 x.A.o, .slice (some ⟨B1, 0, none⟩) x.A.us.length x.A.us.length, .slice (some ⟨B2, 0, none⟩) x.A.gs.length x.A.gs.length, .bool x.A.r, .int .i64 x.A.m, .bool x.sh, .int .i64 0, .int .i64 0, .int .i64 0, .slice none 0 0, .slice none 0 0, .bool false, .int .i64 0, .int .i64 0, .int .i64 0, .string ⟨#[]⟩, .slice none 0 0, .int .i64 0]) := HZn.out.below hb
  have U1 : Hid (Own (some ⟨B1, 0, none⟩) x.A.us.length x.A.us w3) := U1n.out.below hb
  have U2 : Hid (Own (some ⟨B2, 0, none⟩) x.A.gs.length x.A.gs w3) := U2n.out.below hb
  have L2 : Hid (LtS B2 w3) := L2n.out.below hb
  clear hb HBn HXn HYn HZn U1n U2n L2n
  have U3 : Hid (Own (some ⟨B3, 0, none⟩) x.D.us.length x.D.us w3) := hO1
  have U4 : Hid (Own (some ⟨B4, 0, none⟩) x.D.gs.length x.D.gs w3) := hO2
  have HT3 : Hid (B3 < B4) := hs2
  have L4 : Hid (LtS B4 w3) := ⟨hs3⟩
  clear hO1 hO2 hs1 hs2 hs3
  go_upto_region 9 with (refine wpList_store_list (by rfl) 28 _ _ (by rfl) (X + 1 + 1) 12 (alV x.D (some ⟨B3, 0, none⟩) x.D.us.length (some ⟨B4, 0, none⟩) x.D.gs.length) (by rfl) (by rfl) (HZ.out.there 12 7 (by simp)) (by kernel_rfl) (alV_ones _ _ _ _ _) ?_)
  have HBn : Hid (Below w.heap.size w (w3.setCells (X + 1 + 1) 12 (alV x.D (some ⟨B3, 0, none⟩) x.D.us.length (some ⟨B4, 0, none⟩) x.D.gs.length))) := bl_setsT (by have := HXw.out; omega) _ _ HB.out
  have HXn : Hid (BoxR (w3.setCells (X + 1 + 1) 12 (alV x.D (some ⟨B3, 0, none⟩) x.D.us.length (some ⟨B4, 0, none⟩) x.D.gs.length)) X (ndV x y)) := HX.out.others (by omega)
  have HYn : Hid (BoxW (w3.setCells (X + 1 + 1) 12 (alV x.D (some ⟨B3, 0, none⟩) x.D.us.length (some ⟨B4, 0, none⟩) x.D.gs.length)) (X + 1) [.int .i64 0, .int .i64 0, .int .i64 0, .int .i64 0, .int .i64 0, .int .i64 0, .int .i64 0, .slice none 0 0, .slice none 0 0, .bool false, .int .i64 0, .bool false, .int .i64 0, .int .i64 0, .int .i64 0, .slice none 0 0, .slice none 0 0, .bool false, .int .i64 0, .int .i64 0, .int .i64 0, .string ⟨#[]⟩, .slice none 0 0, .int .i64 0]) := HY.out.others (by omega)
  have HZn : Hid (BoxW (w3.setCells (X + 1 + 1) 12 (alV x.D (some ⟨B3, 0, none⟩) x.D.us.length (some ⟨B4, 0, none⟩) x.D.gs.length)) (X + 1 + 1) [.int .i64 x.k, .int .i64 x.ow, .int .i64 x.gr, .int .i64 x.ex, .int .i64 x.A.u, .int .i64 x.A.g, .int .i64 x.A.o, .slice (some ⟨B1, 0, none⟩) x.A.us.length x.A.us.length, .slice (some ⟨B2, 0, none⟩) x.A.gs.length x.A.gs.length, .bool x.A.r, .int .i64 x.A.m, .bool x.sh, .int .i64 x.D.u, .int .i64 x.D.g, .int .i64 x.D.o, .slice (some ⟨B3, 0, none⟩) x.D.us.length x.D.us.length, .slice (some ⟨B4, 0, none⟩) x.D.gs.length x.D.gs.length, .bool x.D.r, .int .i64 x.D.m, .int .i64 0, .int .i64 0, .string ⟨#[]⟩, .slice none 0 0, .int .i64 0]) := HZ.out.sets 12 (alV x.D (some ⟨B3, 0, none⟩) x.D.us.length (some ⟨B4, 0, none⟩) x.D.gs.length) (by simp [alV_len])
  have U1n : Hid (Own (some ⟨B1, 0, none⟩) x.A.us.length x.A.us (w3.setCells (X + 1 + 1) 12 (alV x.D (some ⟨B3, 0, none⟩) x.D.us.length (some ⟨B4, 0, none⟩) x.D.gs.length))) := U1.out.setsA (apart_of HS1.out.1) _ _
  have U2n : Hid (Own (some ⟨B2, 0, none⟩) x.A.gs.length x.A.gs (w3.setCells (X + 1 + 1) 12 (alV x.D (some ⟨B3, 0, none⟩) x.D.us.length (some ⟨B4, 0, none⟩) x.D.gs.length))) := U2.out.setsA (apart_of HS1.out.2) _ _
  have L2n : Hid (LtS B2 (w3.setCells (X + 1 + 1) 12 (alV x.D (some ⟨B3, 0, none⟩) x.D.us.length (some ⟨B4, 0, none⟩) x.D.gs.length))) := L2.out.setsA (apart_of HS1.out.2) _ _
  have U3n : Hid (Own (some ⟨B3, 0, none⟩) x.D.us.length x.D.us (w3.setCells (X + 1 + 1) 12 (alV x.D (some ⟨B3, 0, none⟩) x.D.us.length (some ⟨B4, 0, none⟩) x.D.gs.length))) := U3.out.setsA (apart_of HS2.out.1) _ _
  have U4n : Hid (Own (some ⟨B4, 0, none⟩) x.D.gs.length x.D.gs (w3.setCells (X + 1 + 1) 12 (alV x.D (some ⟨B3, 0, none⟩) x.D.us.length (some ⟨B4, 0, none⟩) x.D.gs.length))) := U4.out.setsA (apart_of HS2.out.2) _ _
  have L4n : Hid (LtS B4 (w3.setCells (X + 1 + 1) 12 (alV x.D (some ⟨B3, 0, none⟩) x.D.us.length (some ⟨B4, 0, none⟩) x.D.gs.length))) := L4.out.setsA (apart_of HS2.out.2) _ _
  clear HB HX HY HZ U1 U2 L2 U3 U4 L4
  generalize (w3.setCells (X + 1 + 1) 12 (alV x.D (some ⟨B3, 0, none⟩) x.D.us.length (some ⟨B4, 0, none⟩) x.D.gs.length)) = w4 at HBn HXn HYn HZn U1n U2n L2n U3n U4n L4n ⊢
  have HB := HBn
  have HX := HXn
  have HY := HYn
  have HZ := HZn
  have U1 := U1n
  have U2 := U2n
  have L2 := L2n
  have U3 := U3n
  have U4 := U4n
  have L4 := L4n
  clear HBn HXn HYn HZn U1n U2n L2n U3n U4n L4n
  have e19 := N24.c19 HX.out.at0
  have e20 := N24.c20 HX.out.at0
  have e21 := N24.c21 HX.out.at0
  have e22 := N24.c22 HX.out.at0
  simp only [Nat.zero_add] at e19 e20 e21 e22
  have z19 : w4.cell? ⟨X + 1 + 1, 19, none⟩ = some (.int .i64 0) := HZ.out.at0 19 _ rfl
  have z20 : w4.cell? ⟨X + 1 + 1, 20, none⟩ = some (.int .i64 0) := HZ.out.at0 20 _ rfl
  have z21 : w4.cell? ⟨X + 1 + 1, 21, none⟩ = some (.string ⟨#[]⟩) := HZ.out.at0 21 _ rfl
  have zf := HZ.out.frz
  have HBn : Hid (Below w.heap.size w (((w4.setCell ⟨X + 1 + 1, 19, none⟩ (.int .i64 x.li)).setCell ⟨X + 1 + 1, 20, none⟩ (.int .i64 x.up)).setCell ⟨X + 1 + 1, 21, none⟩ (.string x.bo))) := bl_setT (bl_setT (bl_setT (HB.out) (by have := HXw.out; omega)) (by have := HXw.out; omega)) (by have := HXw.out; omega)
  have HXn : Hid (BoxR (((w4.setCell ⟨X + 1 + 1, 19, none⟩ (.int .i64 x.li)).setCell ⟨X + 1 + 1, 20, none⟩ (.int .i64 x.up)).setCell ⟨X + 1 + 1, 21, none⟩ (.string x.bo)) X (ndV x y)) := (((HX.out).other (by omega)).other (by omega)).other (by omega)
  have HYn : Hid (BoxW (((w4.setCell ⟨X + 1 + 1, 19, none⟩ (.int .i64 x.li)).setCell ⟨X + 1 + 1, 20, none⟩ (.int .i64 x.up)).setCell ⟨X + 1 + 1, 21, none⟩ (.string x.bo)) (X + 1) [.int .i64 0, .int .i64 0, .int .i64 0, .int .i64 0, .int .i64 0, .int .i64 0, .int .i64 0, .slice none 0 0, .slice none 0 0, .bool false, .int .i64 0, .bool false, .int .i64 0, .int .i64 0, .int .i64 0, .slice none 0 0, .slice none 0 0, .bool false, .int .i64 0, .int .i64 0, .int .i64 0, .string ⟨#[]⟩, .slice none 0 0, .int .i64 0]) := (((HY.out).other (by omega)).other (by omega)).other (by omega)
  have HZn : Hid (BoxW (((w4.setCell ⟨X + 1 + 1, 19, none⟩ (.int .i64 x.li)).setCell ⟨X + 1 + 1, 20, none⟩ (.int .i64 x.up)).setCell ⟨X + 1 + 1, 21, none⟩ (.string x.bo)) (X + 1 + 1) [.int .i64 x.k, .int .i64 x.ow, .int .i64 x.gr, .int .i64 x.ex, .int .i64 x.A.u, .int .i64 x.A.g, .int .i64 x.A.o, .slice (some ⟨B1, 0, none⟩) x.A.us.length x.A.us.length, .slice (some ⟨B2, 0, none⟩) x.A.gs.length x.A.gs.length, .bool x.A.r, .int .i64 x.A.m, .bool x.sh, .int .i64 x.D.u, .int .i64 x.D.g, .int .i64 x.D.o, .slice (some ⟨B3, 0, none⟩) x.D.us.length x.D.us.length, .slice (some ⟨B4, 0, none⟩) x.D.gs.length x.D.gs.length, .bool x.D.r, .int .i64 x.D.m, .int .i64 x.li, .int .i64 x.up, .string x.bo, .slice none 0 0, .int .i64 0]) := (((HZ.out).set 19 (by simp) _).set 20 (by simp) _).set 21 (by simp) _
  have U1n : Hid (Own (some ⟨B1, 0, none⟩) x.A.us.length x.A.us (((w4.setCell ⟨X + 1 + 1, 19, none⟩ (.int .i64 x.li)).setCell ⟨X + 1 + 1, 20, none⟩ (.int .i64 x.up)).setCell ⟨X + 1 + 1, 21, none⟩ (.string x.bo))) := (((U1.out).setA (apart_of HS1.out.1)).setA (apart_of HS1.out.1)).setA (apart_of HS1.out.1)
  have U2n : Hid (Own (some ⟨B2, 0, none⟩) x.A.gs.length x.A.gs (((w4.setCell ⟨X + 1 + 1, 19, none⟩ (.int .i64 x.li)).setCell ⟨X + 1 + 1, 20, none⟩ (.int .i64 x.up)).setCell ⟨X + 1 + 1, 21, none⟩ (.string x.bo))) := (((U2.out).setA (apart_of HS1.out.2)).setA (apart_of HS1.out.2)).setA (apart_of HS1.out.2)
  have L2n : Hid (LtS B2 (((w4.setCell ⟨X + 1 + 1, 19, none⟩ (.int .i64 x.li)).setCell ⟨X + 1 + 1, 20, none⟩ (.int .i64 x.up)).setCell ⟨X + 1 + 1, 21, none⟩ (.string x.bo))) := (((L2.out).setA (apart_of HS1.out.2)).setA (apart_of HS1.out.2)).setA (apart_of HS1.out.2)
  have U3n : Hid (Own (some ⟨B3, 0, none⟩) x.D.us.length x.D.us (((w4.setCell ⟨X + 1 + 1, 19, none⟩ (.int .i64 x.li)).setCell ⟨X + 1 + 1, 20, none⟩ (.int .i64 x.up)).setCell ⟨X + 1 + 1, 21, none⟩ (.string x.bo))) := (((U3.out).setA (apart_of HS2.out.1)).setA (apart_of HS2.out.1)).setA (apart_of HS2.out.1)
  have U4n : Hid (Own (some ⟨B4, 0, none⟩) x.D.gs.length x.D.gs (((w4.setCell ⟨X + 1 + 1, 19, none⟩ (.int .i64 x.li)).setCell ⟨X + 1 + 1, 20, none⟩ (.int .i64 x.up)).setCell ⟨X + 1 + 1, 21, none⟩ (.string x.bo))) := (((U4.out).setA (apart_of HS2.out.2)).setA (apart_of HS2.out.2)).setA (apart_of HS2.out.2)
  have L4n : Hid (LtS B4 (((w4.setCell ⟨X + 1 + 1, 19, none⟩ (.int .i64 x.li)).setCell ⟨X + 1 + 1, 20, none⟩ (.int .i64 x.up)).setCell ⟨X + 1 + 1, 21, none⟩ (.string x.bo))) := (((L4.out).setA (apart_of HS2.out.2)).setA (apart_of HS2.out.2)).setA (apart_of HS2.out.2)
  clear HX HY HZ HB U1 U2 L2 U3 U4 L4
  go_wp2_with fail
  generalize (((w4.setCell ⟨X + 1 + 1, 19, none⟩ (.int .i64 x.li)).setCell ⟨X + 1 + 1, 20, none⟩ (.int .i64 x.up)).setCell ⟨X + 1 + 1, 21, none⟩ (.string x.bo)) = wC at HBn HXn HYn HZn U1n U2n L2n U3n U4n L4n ⊢
  clear zf e19 e20 e21 e22 z19 z20 z21
  refine (toEntryS_any _ _ _ x.ns HF.out.nl _ (HI.out.nA.below HBn.out)).mono ?_
  rintro e w5 ⟨rfl, hO1, hs1, hb⟩
  obtain ⟨B5, hB5⟩ : ∃ B5, B5 = wC.heap.size := ⟨_, rfl⟩
  rw [← hB5] at hO1 hs1 ⊢
  have HS3 : Hid (X + 1 + 1 < B5) := (by show _ < _; rw [hB5]; exact HZn.out.lt)
  have HT4 : Hid (B4 < B5) := (by show _ < _; rw [hB5]; exact L4n.out.lt)
  clear hB5
  have HB : Hid (Below w.heap.size w w5) := Below.on HBn.out hb
  have HX : Hid (BoxR w5 X (ndV x y)) := HXn.out.below hb
  have HY : Hid (BoxW w5 (X + 1) [.int .i64 0, .int .i64 0, .int .i64 0, .int .i64 0, .int .i64 0, .int .i64 0, .int .i64 0, .slice none 0 0, .slice none 0 0, .bool false, .int .i64 0, .bool false, .int .i64 0, .int .i64 0, .int .i64 0, .slice none 0 0, .slice none 0 0, .bool false, .int .i64 0, .int .i64 0, .int .i64 0, .string ⟨#[]⟩, .slice none 0 0, .int .i64 0]) := HYn.out.below hb
  have HZ : Hid (BoxW w5 (X + 1 + 1) [.int .i64 x.k, .int .i64 x.ow, .int .i64 x.gr, .int .i64 x.ex, .int .i64 x.A.u, .int .i64 x.A.g, .int .i64 x.A.o, .slice (some ⟨B1, 0, none⟩) x.A.us.length x.A.us.length, .slice (some ⟨B2, 0, none⟩) x.A.gs.length x.A.gs.length, .bool x.A.r, .int .i64 x.A.m, .bool x.sh, .int .i64 x.D.u, .int .i64 x.D.g, .int .i64 x.D.o, .slice (some ⟨B3, 0, none⟩) x.D.us.length x.D.us.length, .slice (some ⟨B4, 0, none⟩) x.D.gs.length x.D.gs.length, .bool x.D.r, .int .i64 x.D.m, .int .i64 x.li, .int .i64 x.up, .string x.bo, .slice none 0 0, .int .i64 0]) := HZn.out.below hb
  have U1 : Hid (Own (some ⟨B1, 0, none⟩) x.A.us.length x.A.us w5) := U1n.out.below hb
  have U2 : Hid (Own (some ⟨B2, 0, none⟩) x.A.gs.length x.A.gs w5) := U2n.out.below hb
  have L2 : Hid (LtS B2 w5) := L2n.out.below hb
  have U3 : Hid (Own (some ⟨B3, 0, none⟩) x.D.us.length x.D.us w5) := U3n.out.below hb
  have U4 : Hid (Own (some ⟨B4, 0, none⟩) x.D.gs.length x.D.gs w5) := U4n.out.below hb
  have L4 : Hid (LtS B4 w5) := L4n.out.below hb
  clear hb HBn HXn HYn HZn U1n U2n L2n U3n U4n L4n
  have U5 : Hid (OwnE (some ⟨B5, 0, none⟩) x.ns.length x.ns w5) := hO1
  have L5 : Hid (LtS B5 w5) := ⟨hs1⟩
  clear hO1 hs1
  have e23 := N24.c23 HX.out.at0
  simp only [Nat.zero_add] at e23
  have z22 : w5.cell? ⟨X + 1 + 1, 22, none⟩ = some (.slice none 0 0) := HZ.out.at0 22 _ rfl
  have z23 : w5.cell? ⟨X + 1 + 1, 23, none⟩ = some (.int .i64 0) := HZ.out.at0 23 _ rfl
  have zf := HZ.out.frz
  have HBn : Hid (Below w.heap.size w ((w5.setCell ⟨X + 1 + 1, 22, none⟩ (.slice (some ⟨B5, 0, none⟩) x.ns.length x.ns.length)).setCell ⟨X + 1 + 1, 23, none⟩ (.int .i64 x.ti))) := bl_setT (bl_setT (HB.out) (by have := HXw.out; omega)) (by have := HXw.out; omega)
  have HXn : Hid (BoxR ((w5.setCell ⟨X + 1 + 1, 22, none⟩ (.slice (some ⟨B5, 0, none⟩) x.ns.length x.ns.length)).setCell ⟨X + 1 + 1, 23, none⟩ (.int .i64 x.ti)) X (ndV x y)) := ((HX.out).other (by omega)).other (by omega)
  have HYn : Hid (BoxW ((w5.setCell ⟨X + 1 + 1, 22, none⟩ (.slice (some ⟨B5, 0, none⟩) x.ns.length x.ns.length)).setCell ⟨X + 1 + 1, 23, none⟩ (.int .i64 x.ti)) (X + 1) [.int .i64 0, .int .i64 0, .int .i64 0, .int .i64 0, .int .i64 0, .int .i64 0, .int .i64 0, .slice none 0 0, .slice none 0 0, .bool false, .int .i64 0, .bool false, .int .i64 0, .int .i64 0, .int .i64 0, .slice none 0 0, .slice none 0 0, .bool false, .int .i64 0, .int .i64 0, .int .i64 0, .string ⟨#[]⟩, .slice none 0 0, .int .i64 0]) := ((HY.out).other (by omega)).other (by omega)
  have HZn : Hid (BoxW ((w5.setCell ⟨X + 1 + 1, 22, none⟩ (.slice (some ⟨B5, 0, none⟩) x.ns.length x.ns.length)).setCell ⟨X + 1 + 1, 23, none⟩ (.int .i64 x.ti)) (X + 1 + 1) [.int .i64 x.k, .int .i64 x.ow, .int .i64 x.gr, .int .i64 x.ex, .int .i64 x.A.u, .int .i64 x.A.g, .int .i64 x.A.o, .slice (some ⟨B1, 0, none⟩) x.A.us.length x.A.us.length, .slice (some ⟨B2, 0, none⟩) x.A.gs.length x.A.gs.length, .bool x.A.r, .int .i64 x.A.m, .bool x.sh, .int .i64 x.D.u, .int .i64 x.D.g, .int .i64 x.D.o, .slice (some ⟨B3, 0, none⟩) x.D.us.length x.D.us.length, .slice (some ⟨B4, 0, none⟩) x.D.gs.length x.D.gs.length, .bool x.D.r, .int .i64 x.D.m, .int .i64 x.li, .int .i64 x.up, .string x.bo, .slice (some ⟨B5, 0, none⟩) x.ns.length x.ns.length, .int .i64 x.ti]) := ((HZ.out).set 22 (by simp) _).set 23 (by simp) _
  have U1n : Hid (Own (some ⟨B1, 0, none⟩) x.A.us.length x.A.us ((w5.setCell ⟨X + 1 + 1, 22, none⟩ (.slice (some ⟨B5, 0, none⟩) x.ns.length x.ns.length)).setCell ⟨X + 1 + 1, 23, none⟩ (.int .i64 x.ti))) := ((U1.out).setA (apart_of HS1.out.1)).setA (apart_of HS1.out.1)
  have U2n : Hid (Own (some ⟨B2, 0, none⟩) x.A.gs.length x.A.gs ((w5.setCell ⟨X + 1 + 1, 22, none⟩ (.slice (some ⟨B5, 0, none⟩) x.ns.length x.ns.length)).setCell ⟨X + 1 + 1, 23, none⟩ (.int .i64 x.ti))) := ((U2.out).setA (apart_of HS1.out.2)).setA (apart_of HS1.out.2)
  have L2n : Hid (LtS B2 ((w5.setCell ⟨X + 1 + 1, 22, none⟩ (.slice (some ⟨B5, 0, none⟩) x.ns.length x.ns.length)).setCell ⟨X + 1 + 1, 23, none⟩ (.int .i64 x.ti))) := ((L2.out).setA (apart_of HS1.out.2)).setA (apart_of HS1.out.2)
  have U3n : Hid (Own (some ⟨B3, 0, none⟩) x.D.us.length x.D.us ((w5.setCell ⟨X + 1 + 1, 22, none⟩ (.slice (some ⟨B5, 0, none⟩) x.ns.length x.ns.length)).setCell ⟨X + 1 + 1, 23, none⟩ (.int .i64 x.ti))) := ((U3.out).setA (apart_of HS2.out.1)).setA (apart_of HS2.out.1)
  have U4n : Hid (Own (some ⟨B4, 0, none⟩) x.D.gs.length x.D.gs ((w5.setCell ⟨X + 1 + 1, 22, none⟩ (.slice (some ⟨B5, 0, none⟩) x.ns.length x.ns.length)).setCell ⟨X + 1 + 1, 23, none⟩ (.int .i64 x.ti))) := ((U4.out).setA (apart_of HS2.out.2)).setA (apart_of HS2.out.2)
  have L4n : Hid (LtS B4 ((w5.setCell ⟨X + 1 + 1, 22, none⟩ (.slice (some ⟨B5, 0, none⟩) x.ns.length x.ns.length)).setCell ⟨X + 1 + 1, 23, none⟩ (.int .i64 x.ti))) := ((L4.out).setA (apart_of HS2.out.2)).setA (apart_of HS2.out.2)
  have U5n : Hid (OwnE (some ⟨B5, 0, none⟩) x.ns.length x.ns ((w5.setCell ⟨X + 1 + 1, 22, none⟩ (.slice (some ⟨B5, 0, none⟩) x.ns.length x.ns.length)).setCell ⟨X + 1 + 1, 23, none⟩ (.int .i64 x.ti))) := ((U5.out).setA (apart_of HS3.out)).setA (apart_of HS3.out)
  have L5n : Hid (LtS B5 ((w5.setCell ⟨X + 1 + 1, 22, none⟩ (.slice (some ⟨B5, 0, none⟩) x.ns.length x.ns.length)).setCell ⟨X + 1 + 1, 23, none⟩ (.int .i64 x.ti))) := ((L5.out).setA (apart_of HS3.out)).setA (apart_of HS3.out)
  clear HX HY HZ HB U1 U2 L2 U3 U4 L4 U5 L5
  go_upto_region 14 with fail
  generalize ((w5.setCell ⟨X + 1 + 1, 22, none⟩ (.slice (some ⟨B5, 0, none⟩) x.ns.length x.ns.length)).setCell ⟨X + 1 + 1, 23, none⟩ (.int .i64 x.ti)) = w6 at HBn HXn HYn HZn U1n U2n L2n U3n U4n L4n U5n L5n ⊢
  clear zf e23 z22 z23
  obtain ⟨y', hy⟩ : ∃ y' : Na, y' = ⟨some ⟨B1, 0, none⟩, x.A.us.length, some ⟨B2, 0, none⟩, x.A.gs.length, some ⟨B3, 0, none⟩, x.D.us.length, some ⟨B4, 0, none⟩, x.D.gs.length, some ⟨B5, 0, none⟩, x.ns.length⟩ := ⟨_, rfl⟩
  have HZ : Hid (BoxW w6 (X + 1 + 1) (ndV x y')) := (by rw [hy]; exact HZn.out)
  have HNs : Hid (NdOwn (w6.setCells (X + 1) 0 (ndV x y')) x y') := (by
    have h1 := HS1.out
    have h2 := HS2.out
    have h3 := HS3.out
    rw [hy]
    exact ⟨U1n.out.setsA (apart_of (by omega)) _ _, U2n.out.setsA (apart_of (by omega)) _ _, U3n.out.setsA (apart_of (by omega)) _ _, U4n.out.setsA (apart_of (by omega)) _ _, U5n.out.setsA (apart_of (by omega)) _ _⟩)
  have HFr : Hid (LsI w.heap.size (w6.setCells (X + 1) 0 (ndV x y')).heap.size x y') := (by
    have h0 := HXw.out
    have h1 := HS1.out
    have h5 := L5n.out.lt
    have t1 := HT1.out
    have t2 := HT2.out
    have t3 := HT3.out
    have t4 := HT4.out
    rw [hy, size_setCellsT]
    exact lsI_of (by omega) t1 t2 t3 t4 h5)
  clear hy HZn U1n U2n U3n U4n U5n L2n L4n L5n
  have HBs : Hid (Below w.heap.size w (w6.setCells (X + 1) 0 (ndV x y'))) := bl_setsT (by have := HXw.out; omega) _ _ HBn.out
  have hr : (w6.setCells (X + 1) 0 (ndV x y')).rangeAt (X + 1) 0 (ndV x y') := World.rangeAt_setCells_same _ _ _ _ (HYn.out.there 0 24 (by simp))
  have hR : Hid ((loadVar 31 ⟨X + 1, 0, none⟩).run Tryz.prog (w6.setCells (X + 1) 0 (ndV x y')) = .ok (.agg (ndV x y').toArray) (w6.setCells (X + 1) 0 (ndV x y'))) := run_loadVar_mid _ _ _ _ _ _ hr Tryz.underlying31 rfl (by kernel_rfl)
  clear hr
  go_wp2_with (first | (refine wpList_load_mid (by rfl) 31 _ (by rfl) _ _ (by rfl) _ _ HZ.out.at0 Tryz.underlying31 rfl (by kernel_rfl) ?_) | (refine wpList_store_list (by rfl) 31 _ _ (by rfl) (X + 1) 0 (ndV x y') (by rfl) (by rfl) (HYn.out.there 0 24 (by simp)) (by kernel_rfl) (ndV_ones _ _) ?_) | (refine bodyPost_ret (v := .agg (ndV x y').toArray) ?hres rfl ⟨y', rfl, HNs.out, HFr.out, HBs.out⟩))
  exact results_one Tryz.results35 (by rfl) hR.out
theorem infoNodeO : (Tryz.prog.info? 31).map (fun i => (i.zero, i.size, i.bytes)) = some (some (.agg #[.int .i64 0, .int .i64 0, .int .i64 0, .int .i64 0, .int .i64 0, .int .i64 0, .int .i64 0, .slice none 0 0, .slice none 0 0, .bool false, .int .i64 0, .bool false, .int .i64 0, .int .i64 0, .int .i64 0, .slice none 0 0, .slice none 0 0, .bool false, .int .i64 0, .int .i64 0, .int .i64 0, .string ⟨#[]⟩, .slice none 0 0, .int .i64 0]), 24, 280) := by kernel_rfl
set_option maxRecDepth 20000 in
set_option maxHeartbeats 4000000 in
/-- laws.toNodeS. -/
theorem toNodeSO_any (a : Option Addr) (len cap : Nat) (l : List Nd) (hl : len ≤ 1048576) (hf : ∀ i, i < len → NdFit 1048576 (ndAt l i)) (w : World) (hi : Nds a len l w) :
    Calls Tryz.prog 17 #[.slice a len cap] w fun e w' => e = .returned (.slice (some ⟨w.heap.size, 0, none⟩) len len) ∧ (∃ Y, NRow w' w.heap.size (ndAt l) Y len ∧ LsT w' (w.heap.size + 1) (ndAt l) Y len) ∧ w.heap.size < w'.heap.size ∧ Below w.heap.size w w' := by
  have hmk := run_make_nodes (P := Tryz.prog) 33 31 Tryz.underlying33 infoNodeO .i64 .i64 len (by omega) w
  have hH0 : Hid (NRow (w.alloc (.cells (madeCells #[.int .i64 0, .int .i64 0, .int .i64 0, .int .i64 0, .int .i64 0, .int .i64 0, .int .i64 0, .slice none 0 0, .slice none 0 0, .bool false, .int .i64 0, .bool false, .int .i64 0, .int .i64 0, .int .i64 0, .slice none 0 0, .slice none 0 0, .bool false, .int .i64 0, .int .i64 0, .int .i64 0, .string ⟨#[]⟩, .slice none 0 0, .int .i64 0] (len * 24)) 31)) w.heap.size (fun _ => ndZ) (fun _ => naZ) len) := made_nodes w len _
  have hB0 : Hid (Below w.heap.size w (w.alloc (.cells (madeCells #[.int .i64 0, .int .i64 0, .int .i64 0, .int .i64 0, .int .i64 0, .int .i64 0, .int .i64 0, .slice none 0 0, .slice none 0 0, .bool false, .int .i64 0, .bool false, .int .i64 0, .int .i64 0, .int .i64 0, .slice none 0 0, .slice none 0 0, .bool false, .int .i64 0, .int .i64 0, .int .i64 0, .string ⟨#[]⟩, .slice none 0 0, .int .i64 0] (len * 24)) 31))) := (Below.refl _ _).alloc (Nat.le_refl _) _
  have hZ0 : Hid (w.heap.size < (w.alloc (.cells (madeCells #[.int .i64 0, .int .i64 0, .int .i64 0, .int .i64 0, .int .i64 0, .int .i64 0, .int .i64 0, .slice none 0 0, .slice none 0 0, .bool false, .int .i64 0, .bool false, .int .i64 0, .int .i64 0, .int .i64 0, .slice none 0 0, .slice none 0 0, .bool false, .int .i64 0, .int .i64 0, .int .i64 0, .string ⟨#[]⟩, .slice none 0 0, .int .i64 0] (len * 24)) 31)).heap.size) := (by show _ < _; simp)
  generalize (w.alloc (.cells (madeCells #[.int .i64 0, .int .i64 0, .int .i64 0, .int .i64 0, .int .i64 0, .int .i64 0, .int .i64 0, .slice none 0 0, .slice none 0 0, .bool false, .int .i64 0, .bool false, .int .i64 0, .int .i64 0, .int .i64 0, .slice none 0 0, .slice none 0 0, .bool false, .int .i64 0, .int .i64 0, .int .i64 0, .string ⟨#[]⟩, .slice none 0 0, .int .i64 0] (len * 24)) 31)) = w0 at hmk hH0 hB0 hZ0
  have HI : Hid (Nds a len l w) := hi
  have HF : Hid (∀ i, i < len → NdFit 1048576 (ndAt l i)) := hf
  clear hi hf
  go_enter Tryz.func17, Tryz.ntmps17
  go_wp2
  go_loopw [4] (fun i wr => ∃ (k : Nat) (F : Nat → Nd) (Y : Nat → Na), k ≤ len ∧ i = .int .i64 k ∧ Hid (NRow wr w.heap.size F Y len) ∧ Hid (∀ j, j < k → F j = ndAt l j) ∧ Hid (LsT wr (w.heap.size + 1) F Y k) ∧ Hid (Below w.heap.size w wr) ∧ Hid (w.heap.size < wr.heap.size)) (fun i _ => len - (intOf i).toNat)
  case atStart => exact ⟨0, fun _ => ndZ, fun _ => naZ, Nat.zero_le _, rfl, hH0, fun j hj => absurd hj (by omega), lsT_zero _ _ _ _, hB0, hZ0⟩
  case round =>
    obtain ⟨k, F, Y, hk, rfl, hH, hg, hT, hB, hZ⟩ := hrel
    by_cases hlt : k < len
    · obtain ⟨b, off, Y0, rfl, hb, hc⟩ := HI.out.2 (by omega)
      have hlt' : (k : Int) < (len : Int) := by omega
      have HG : Hid (N24 wr b (off + k * 24) (ndAt l k) (Y0 k)) := range_below (hc k hlt).1 hb hB.out
      have HN : Hid (NdIn wr (ndAt l k) (Y0 k)) := (hc k hlt).2.below hB.out
      have HFk : Hid (NdFit 1048576 (ndAt l k)) := HF.out k hlt
      clear hc hmk hH0 hB0 hZ0 HI HF
      obtain ⟨x, hx⟩ : ∃ x, x = ndAt l k := ⟨_, rfl⟩
      rw [← hx] at HG HN HFk
      have HL : Hid (x = ndAt l k) := hx
      clear hx
      generalize Y0 k = y at HG HN
      go_wp2_with (refine wpList_load_mid (by rfl) 59 _ (by rfl) _ _ (by rfl) _ _ HG.out Tryz.underlying59 rfl (by kernel_rfl) ?_)
      refine (toNodeO_any x y HFk.out _ HN.out).mono ?_
      rintro e w1 ⟨y1, rfl, hN1, hF1, hb1⟩
      have hH1 : NRow w1 w.heap.size F Y len := hH.out.below hZ.out hb1
      have HH1 : Hid (NRow w1 w.heap.size F Y len) := hH1
      have hB1 : Below w.heap.size w w1 := Below.on hB.out hb1
      have hZ1 : w.heap.size < w1.heap.size := Nat.lt_of_lt_of_le hZ.out hb1.size
      have hH2 : Hid (NRow (w1.setCells w.heap.size (k * 24) (ndV x y1)) w.heap.size (fun i => if i = k then x else F i) (fun i => if i = k then y1 else Y i) len) := hH1.set k hlt _ _
      have hg2 : Hid (∀ j, j < k + 1 → (fun i => if i = k then x else F i) j = ndAt l j) := (fun j hj => by
        show (if j = k then x else F j) = ndAt l j
        by_cases e : j = k
        · rw [if_pos e, e]; exact HL.out
        · rw [if_neg e]; exact hg.out j (by omega))
      have hT2 : Hid (LsT (w1.setCells w.heap.size (k * 24) (ndV x y1)) (w.heap.size + 1) (fun i => if i = k then x else F i) (fun i => if i = k then y1 else Y i) (k + 1)) := (hT.out.step hb1 hN1 hF1 hZ.out).sets (Nat.lt_succ_self _) _ _
      have hB2 : Hid (Below w.heap.size w (w1.setCells w.heap.size (k * 24) (ndV x y1))) := bl_setsT (Nat.le_refl _) _ _ hB1
      have hZ2 : Hid (w.heap.size < (w1.setCells w.heap.size (k * 24) (ndV x y1)).heap.size) := (by show _ < _; rw [size_setCellsT]; exact hZ1)
      clear hH hg hT hB hH1 hb1 hB1 hN1 hF1 HG HN
      go_wp2_with (refine wpList_store_list (by rfl) 31 _ _ (by rfl) _ _ (ndV x y1) (by rfl) (by rfl) (by simpa [ndV_len] using HH1.out.there k hlt) (by kernel_rfl) (ndV_ones _ _) ?_)
      go_roundw
      case rel => exact ⟨k + 1, _, _, by omega, by go_num, hH2, hg2, hT2, hB2, hZ2⟩
      case measure => simp [intOf]; omega
    · have : k = len := by omega
      subst this
      go_wp2
      go_ret
      refine ⟨rfl, ⟨Y, ⟨fun i hi => ?_, hH.out.frz⟩, hT.out.congr hg.out⟩, hZ.out, hB.out⟩
      rw [← hg.out i hi]
      exact hH.out.at' i hi
set_option maxHeartbeats 4000000 in
/-- laws.toTree: a copy. -/
theorem toTreeO_any (a : Option Addr) (len cap : Nat) (l : List Nd) (now : Int) (hl : len ≤ 1048576) (hf : ∀ i, i < len → NdFit 1048576 (ndAt l i)) (w : World) (hi : Nds a len l w) :
    Calls Tryz.prog 6 #[.agg #[.slice a len cap, .int .i64 now]] w fun e w' => ∃ B Y, e = .returned (.agg #[.slice (some ⟨B, 0, none⟩) len len, .int .i64 now]) ∧ OwnT w' B w'.heap.size B (ndAt l) Y len ∧ w.heap.size ≤ B ∧ Below w.heap.size w w' := by
  have HF : Hid (∀ i, i < len → NdFit 1048576 (ndAt l i)) := hf
  have HI : Hid (Nds a len l w) := hi
  clear hf hi
  go_enter Tryz.func6, Tryz.ntmps6
  go_wp2_with fail
  refine (toNodeSO_any a len cap l hl HF.out _ (HI.out.below (bl3T _ _ _ _))).mono ?_
  rintro e w1 ⟨rfl, ⟨Y, hR, hN⟩, hz, hb⟩
  have hO : OwnTa w1 (((w.alloc (.cells #[.slice a len cap, .int .i64 now] 24)).alloc (.cells #[.slice none 0 0, .int .i64 0] 35)).alloc (.cells #[.slice none 0 0, .int .i64 0] 35)).heap.size (ndAt l) Y len := ⟨hz, hR, hN⟩
  have eS : (((w.alloc (.cells #[.slice a len cap, .int .i64 now] 24)).alloc (.cells #[.slice none 0 0, .int .i64 0] 35)).alloc (.cells #[.slice none 0 0, .int .i64 0] 35)).heap.size = w.heap.size + 1 + 1 + 1 := by simp
  rw [eS] at hO ⊢
  have hbW : Hid (Below w.heap.size w w1) := (bl3T _ _ _ _).trans (hb.mono (by rw [eS]; omega))
  have HO : Hid (OwnTa w1 (w.heap.size + 1 + 1 + 1) (ndAt l) Y len) := hO
  obtain ⟨hcl, hfz⟩ := bl_cellT hb
  clear hb hO hR hN hz eS HI HF
  simp at hcl hfz
  go_wp2
  refine bodyPost_ret (v := .agg #[.slice (some ⟨w.heap.size + 1 + 1 + 1, 0, none⟩) len len, .int .i64 now]) (by simp [results, Tryz.results6, go_sem, hcl]) rfl ⟨_, Y, rfl, OwnTa.ownT ?_, by omega, ?_⟩
  · iterate 4 (refine OwnTa.set ?_ (by omega))
    exact HO.out
  · iterate 4 (refine bl_setT ?_ (by omega))
    exact hbW.out
end Go.Proofs.YtgodbelcddgdmaaGreat
