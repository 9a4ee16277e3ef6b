/- Laid together: NodeTo, StatLaw0, StatLaw. -/
import Derived.Test.YtabfdidnjibdeaaGreatDoorBT45
import Derived.Test.YtabfdidnjibdeaaGreatDoorBT4
import Derived.Test.YtabfdidnjibdeaaGreatDoorBT44
import Derived.Test.YtabfdidnjibdeaaGreatDoorBT46
import Derived.Test.YtabfdidnjibdeaaGreatDoorBT32
import Derived.Deep.DeepCutAuto
import Derived.Deep.RegionHeld3
/- laws.toNode, toNodeS, toTree: a copy of a tree. -/
namespace Go.Proofs.YtabfdidnjibdeaaGreatDoor
open Go.RowKit Go.PlainAid
set_option linter.unusedVariables false
set_option maxRecDepth 20000 in
set_option maxHeartbeats 4000000 in
theorem toNode_any (x:Nd) (y:Na) (hf:NdFit 1048576 x) (w:World) (hi:NdIn w x y) :
    Calls Tryz.prog 68 #[.agg (ndV x y).toArray] w fun e w' => ∃ y':Na,e=.returned (.agg (ndV x y').toArray)∧NdIn w' x y'∧NaFrom w.heap.size y'∧Below w.heap.size w w':=by
  have HF:Hid (NdFit 1048576 x):=hf
  have HI:Hid (NdIn w x y):=hi
  clear hf hi
  have HX:Hid (BoxR (((w.alloc (.cells (ndV x y).toArray 118)).alloc (.cells #[.int .i64 0,.int .i64 0,.int .i64 0,.int .i64 0,.int .i64 0,.int .i64 0,.int .i64 0,.slice none 0 0,.slice none 0 0,.bool false,.int .i64 0,.bool false,.int .i64 0,.int .i64 0,.int .i64 0,.slice none 0 0,.slice none 0 0,.bool false,.int .i64 0,.int .i64 0,.int .i64 0,.string ⟨#[]⟩,.slice none 0 0,.int .i64 0] 84)).alloc (.cells #[.int .i64 0,.int .i64 0,.int .i64 0,.int .i64 0,.int .i64 0,.int .i64 0,.int .i64 0,.slice none 0 0,.slice none 0 0,.bool false,.int .i64 0,.bool false,.int .i64 0,.int .i64 0,.int .i64 0,.slice none 0 0,.slice none 0 0,.bool false,.int .i64 0,.int .i64 0,.int .i64 0,.string ⟨#[]⟩,.slice none 0 0,.int .i64 0] 84)) w.heap.size (ndV x y)):=((boxR_new w (ndV x y) 118).below (bel_alloc _ _)).below (bel_alloc _ _)
  have HY:Hid (BoxW (((w.alloc (.cells (ndV x y).toArray 118)).alloc (.cells #[.int .i64 0,.int .i64 0,.int .i64 0,.int .i64 0,.int .i64 0,.int .i64 0,.int .i64 0,.slice none 0 0,.slice none 0 0,.bool false,.int .i64 0,.bool false,.int .i64 0,.int .i64 0,.int .i64 0,.slice none 0 0,.slice none 0 0,.bool false,.int .i64 0,.int .i64 0,.int .i64 0,.string ⟨#[]⟩,.slice none 0 0,.int .i64 0] 84)).alloc (.cells #[.int .i64 0,.int .i64 0,.int .i64 0,.int .i64 0,.int .i64 0,.int .i64 0,.int .i64 0,.slice none 0 0,.slice none 0 0,.bool false,.int .i64 0,.bool false,.int .i64 0,.int .i64 0,.int .i64 0,.slice none 0 0,.slice none 0 0,.bool false,.int .i64 0,.int .i64 0,.int .i64 0,.string ⟨#[]⟩,.slice none 0 0,.int .i64 0] 84)) (w.heap.size + 1) [.int .i64 0,.int .i64 0,.int .i64 0,.int .i64 0,.int .i64 0,.int .i64 0,.int .i64 0,.slice none 0 0,.slice none 0 0,.bool false,.int .i64 0,.bool false,.int .i64 0,.int .i64 0,.int .i64 0,.slice none 0 0,.slice none 0 0,.bool false,.int .i64 0,.int .i64 0,.int .i64 0,.string ⟨#[]⟩,.slice none 0 0,.int .i64 0]):=(by
    have h:=(boxW_new (w.alloc (.cells (ndV x y).toArray 118)) [.int .i64 0,.int .i64 0,.int .i64 0,.int .i64 0,.int .i64 0,.int .i64 0,.int .i64 0,.slice none 0 0,.slice none 0 0,.bool false,.int .i64 0,.bool false,.int .i64 0,.int .i64 0,.int .i64 0,.slice none 0 0,.slice none 0 0,.bool false,.int .i64 0,.int .i64 0,.int .i64 0,.string ⟨#[]⟩,.slice none 0 0,.int .i64 0] 84).below (bel_alloc _ (.cells #[.int .i64 0,.int .i64 0,.int .i64 0,.int .i64 0,.int .i64 0,.int .i64 0,.int .i64 0,.slice none 0 0,.slice none 0 0,.bool false,.int .i64 0,.bool false,.int .i64 0,.int .i64 0,.int .i64 0,.slice none 0 0,.slice none 0 0,.bool false,.int .i64 0,.int .i64 0,.int .i64 0,.string ⟨#[]⟩,.slice none 0 0,.int .i64 0] 84))
    simp only [World.size_alloc] at h
    exact h)
  have HZ:Hid (BoxW (((w.alloc (.cells (ndV x y).toArray 118)).alloc (.cells #[.int .i64 0,.int .i64 0,.int .i64 0,.int .i64 0,.int .i64 0,.int .i64 0,.int .i64 0,.slice none 0 0,.slice none 0 0,.bool false,.int .i64 0,.bool false,.int .i64 0,.int .i64 0,.int .i64 0,.slice none 0 0,.slice none 0 0,.bool false,.int .i64 0,.int .i64 0,.int .i64 0,.string ⟨#[]⟩,.slice none 0 0,.int .i64 0] 84)).alloc (.cells #[.int .i64 0,.int .i64 0,.int .i64 0,.int .i64 0,.int .i64 0,.int .i64 0,.int .i64 0,.slice none 0 0,.slice none 0 0,.bool false,.int .i64 0,.bool false,.int .i64 0,.int .i64 0,.int .i64 0,.slice none 0 0,.slice none 0 0,.bool false,.int .i64 0,.int .i64 0,.int .i64 0,.string ⟨#[]⟩,.slice none 0 0,.int .i64 0] 84)) (w.heap.size + 1 + 1) [.int .i64 0,.int .i64 0,.int .i64 0,.int .i64 0,.int .i64 0,.int .i64 0,.int .i64 0,.slice none 0 0,.slice none 0 0,.bool false,.int .i64 0,.bool false,.int .i64 0,.int .i64 0,.int .i64 0,.slice none 0 0,.slice none 0 0,.bool false,.int .i64 0,.int .i64 0,.int .i64 0,.string ⟨#[]⟩,.slice none 0 0,.int .i64 0]):=(by
    have h:=boxW_new ((w.alloc (.cells (ndV x y).toArray 118)).alloc (.cells #[.int .i64 0,.int .i64 0,.int .i64 0,.int .i64 0,.int .i64 0,.int .i64 0,.int .i64 0,.slice none 0 0,.slice none 0 0,.bool false,.int .i64 0,.bool false,.int .i64 0,.int .i64 0,.int .i64 0,.slice none 0 0,.slice none 0 0,.bool false,.int .i64 0,.int .i64 0,.int .i64 0,.string ⟨#[]⟩,.slice none 0 0,.int .i64 0] 84)) [.int .i64 0,.int .i64 0,.int .i64 0,.int .i64 0,.int .i64 0,.int .i64 0,.int .i64 0,.slice none 0 0,.slice none 0 0,.bool false,.int .i64 0,.bool false,.int .i64 0,.int .i64 0,.int .i64 0,.slice none 0 0,.slice none 0 0,.bool false,.int .i64 0,.int .i64 0,.int .i64 0,.string ⟨#[]⟩,.slice none 0 0,.int .i64 0] 84
    simp only [World.size_alloc] at h
    exact h)
  have HB:Hid (Below w.heap.size w (((w.alloc (.cells (ndV x y).toArray 118)).alloc (.cells #[.int .i64 0,.int .i64 0,.int .i64 0,.int .i64 0,.int .i64 0,.int .i64 0,.int .i64 0,.slice none 0 0,.slice none 0 0,.bool false,.int .i64 0,.bool false,.int .i64 0,.int .i64 0,.int .i64 0,.slice none 0 0,.slice none 0 0,.bool false,.int .i64 0,.int .i64 0,.int .i64 0,.string ⟨#[]⟩,.slice none 0 0,.int .i64 0] 84)).alloc (.cells #[.int .i64 0,.int .i64 0,.int .i64 0,.int .i64 0,.int .i64 0,.int .i64 0,.int .i64 0,.slice none 0 0,.slice none 0 0,.bool false,.int .i64 0,.bool false,.int .i64 0,.int .i64 0,.int .i64 0,.slice none 0 0,.slice none 0 0,.bool false,.int .i64 0,.int .i64 0,.int .i64 0,.string ⟨#[]⟩,.slice none 0 0,.int .i64 0] 84))):=bl3T _ _ _ _
  go_enter Tryz.func68,Tryz.ntmps68
  go_upto_region 2 with fail
  generalize (((w.alloc (.cells (ndV x y).toArray 118)).alloc (.cells #[.int .i64 0,.int .i64 0,.int .i64 0,.int .i64 0,.int .i64 0,.int .i64 0,.int .i64 0,.slice none 0 0,.slice none 0 0,.bool false,.int .i64 0,.bool false,.int .i64 0,.int .i64 0,.int .i64 0,.slice none 0 0,.slice none 0 0,.bool false,.int .i64 0,.int .i64 0,.int .i64 0,.string ⟨#[]⟩,.slice none 0 0,.int .i64 0] 84)).alloc (.cells #[.int .i64 0,.int .i64 0,.int .i64 0,.int .i64 0,.int .i64 0,.int .i64 0,.int .i64 0,.slice none 0 0,.slice none 0 0,.bool false,.int .i64 0,.bool false,.int .i64 0,.int .i64 0,.int .i64 0,.slice none 0 0,.slice none 0 0,.bool false,.int .i64 0,.int .i64 0,.int .i64 0,.string ⟨#[]⟩,.slice none 0 0,.int .i64 0] 84))=w0 at HX HY HZ HB ⊢
  obtain ⟨X,hX⟩:∃ X,X=w.heap.size:=⟨_,rfl⟩
  have HXw:Hid (X=w.heap.size):=hX
  rw [← hX] at HX HY HZ ⊢
  clear hX
  have e0:=N24.c0 HX.out.at0
  have e1:=N24.c1 HX.out.at0
  have e2:=N24.c2 HX.out.at0
  have e3:=N24.c3 HX.out.at0
  have e4:=N24.c4 HX.out.at0
  have e5:=N24.c5 HX.out.at0
  have e6:=N24.c6 HX.out.at0
  have e7:=N24.c7 HX.out.at0
  have e8:=N24.c8 HX.out.at0
  have e9:=N24.c9 HX.out.at0
  have e10:=N24.c10 HX.out.at0
  simp only [Nat.zero_add] at e0 e1 e2 e3 e4 e5 e6 e7 e8 e9 e10
  have z0:w0.cell? ⟨X + 1 + 1,0,none⟩=some (.int .i64 0):=HZ.out.at0 0 _ rfl
  have z1:w0.cell? ⟨X + 1 + 1,1,none⟩=some (.int .i64 0):=HZ.out.at0 1 _ rfl
  have z2:w0.cell? ⟨X + 1 + 1,2,none⟩=some (.int .i64 0):=HZ.out.at0 2 _ rfl
  have z3:w0.cell? ⟨X + 1 + 1,3,none⟩=some (.int .i64 0):=HZ.out.at0 3 _ rfl
  have zf:=HZ.out.frz
  have HBn:Hid (Below w.heap.size w ((((w0.setCell ⟨X + 1 + 1,0,none⟩ (.int .i64 x.k)).setCell ⟨X + 1 + 1,1,none⟩ (.int .i64 x.ow)).setCell ⟨X + 1 + 1,2,none⟩ (.int .i64 x.gr)).setCell ⟨X + 1 + 1,3,none⟩ (.int .i64 x.ex))):=bl_setT (bl_setT (bl_setT (bl_setT (HB.out) (by have:=HXw.out; omega)) (by have:=HXw.out; omega)) (by have:=HXw.out; omega)) (by have:=HXw.out; omega)
  have HXn:Hid (BoxR ((((w0.setCell ⟨X + 1 + 1,0,none⟩ (.int .i64 x.k)).setCell ⟨X + 1 + 1,1,none⟩ (.int .i64 x.ow)).setCell ⟨X + 1 + 1,2,none⟩ (.int .i64 x.gr)).setCell ⟨X + 1 + 1,3,none⟩ (.int .i64 x.ex)) X (ndV x y)):=((((HX.out).other (by omega)).other (by omega)).other (by omega)).other (by omega)
  have HYn:Hid (BoxW ((((w0.setCell ⟨X + 1 + 1,0,none⟩ (.int .i64 x.k)).setCell ⟨X + 1 + 1,1,none⟩ (.int .i64 x.ow)).setCell ⟨X + 1 + 1,2,none⟩ (.int .i64 x.gr)).setCell ⟨X + 1 + 1,3,none⟩ (.int .i64 x.ex)) (X + 1) [.int .i64 0,.int .i64 0,.int .i64 0,.int .i64 0,.int .i64 0,.int .i64 0,.int .i64 0,.slice none 0 0,.slice none 0 0,.bool false,.int .i64 0,.bool false,.int .i64 0,.int .i64 0,.int .i64 0,.slice none 0 0,.slice none 0 0,.bool false,.int .i64 0,.int .i64 0,.int .i64 0,.string ⟨#[]⟩,.slice none 0 0,.int .i64 0]):=((((HY.out).other (by omega)).other (by omega)).other (by omega)).other (by omega)
  have HZn:Hid (BoxW ((((w0.setCell ⟨X + 1 + 1,0,none⟩ (.int .i64 x.k)).setCell ⟨X + 1 + 1,1,none⟩ (.int .i64 x.ow)).setCell ⟨X + 1 + 1,2,none⟩ (.int .i64 x.gr)).setCell ⟨X + 1 + 1,3,none⟩ (.int .i64 x.ex)) (X + 1 + 1) [.int .i64 x.k,.int .i64 x.ow,.int .i64 x.gr,.int .i64 x.ex,.int .i64 0,.int .i64 0,.int .i64 0,.slice none 0 0,.slice none 0 0,.bool false,.int .i64 0,.bool false,.int .i64 0,.int .i64 0,.int .i64 0,.slice none 0 0,.slice none 0 0,.bool false,.int .i64 0,.int .i64 0,.int .i64 0,.string ⟨#[]⟩,.slice none 0 0,.int .i64 0]):=((((HZ.out).set 0 (by simp) _).set 1 (by simp) _).set 2 (by simp) _).set 3 (by simp) _
  clear HX HY HZ HB
  go_wp2_with fail
  generalize ((((w0.setCell ⟨X + 1 + 1,0,none⟩ (.int .i64 x.k)).setCell ⟨X + 1 + 1,1,none⟩ (.int .i64 x.ow)).setCell ⟨X + 1 + 1,2,none⟩ (.int .i64 x.gr)).setCell ⟨X + 1 + 1,3,none⟩ (.int .i64 x.ex))=wA at HBn HXn HYn HZn ⊢
  clear zf e0 e1 e2 e3 e4 e5 e6 e7 e8 e9 e10 z0 z1 z2 z3
  refine (toAcl_any x.A.u x.A.g x.A.o _ _ _ _ _ _ x.A.r x.A.m x.A.us x.A.gs HF.out.au HF.out.ag _ (HI.out.aU.below HBn.out) (HI.out.aG.below HBn.out)).mono ?_
  rintro e w1 ⟨B1,B2,rfl,hO1,hO2,hs1,hs2,hs3,hb⟩
  have HS1:Hid (X + 1 + 1 < B1∧X + 1 + 1 < B2):=⟨Nat.lt_of_lt_of_le HZn.out.lt hs1,Nat.lt_trans (Nat.lt_of_lt_of_le HZn.out.lt hs1) hs2⟩
  have HB:Hid (Below w.heap.size w w1):=Below.on HBn.out hb
  have HX:Hid (BoxR w1 X (ndV x y)):=HXn.out.below hb
  have HY:Hid (BoxW w1 (X + 1) [.int .i64 0,.int .i64 0,.int .i64 0,.int .i64 0,.int .i64 0,.int .i64 0,.int .i64 0,.slice none 0 0,.slice none 0 0,.bool false,.int .i64 0,.bool false,.int .i64 0,.int .i64 0,.int .i64 0,.slice none 0 0,.slice none 0 0,.bool false,.int .i64 0,.int .i64 0,.int .i64 0,.string ⟨#[]⟩,.slice none 0 0,.int .i64 0]):=HYn.out.below hb
  have HZ:Hid (BoxW w1 (X + 1 + 1) [.int .i64 x.k,.int .i64 x.ow,.int .i64 x.gr,.int .i64 x.ex,.int .i64 0,.int .i64 0,.int .i64 0,.slice none 0 0,.slice none 0 0,.bool false,.int .i64 0,.bool false,.int .i64 0,.int .i64 0,.int .i64 0,.slice none 0 0,.slice none 0 0,.bool false,.int .i64 0,.int .i64 0,.int .i64 0,.string ⟨#[]⟩,.slice none 0 0,.int .i64 0]):=HZn.out.below hb
  clear hb HBn HXn HYn HZn
  have U1:Hid (Prs (some ⟨B1,0,none⟩) x.A.us.length x.A.us w1):=hO1.prs
  have U2:Hid (Prs (some ⟨B2,0,none⟩) x.A.gs.length x.A.gs w1):=hO2.prs
  clear hO1 hO2 hs1 hs2 hs3
  go_upto_region 7 with (refine wpList_store_list (by rfl) 81 _ _ (by rfl) (X + 1 + 1) 4 (alV x.A (some ⟨B1,0,none⟩) x.A.us.length (some ⟨B2,0,none⟩) x.A.gs.length) (by rfl) (by rfl) (HZ.out.there 4 7 (by simp)) (by kernel_rfl) (alV_ones _ _ _ _ _) ?_)
  have HBn:Hid (Below w.heap.size w (w1.setCells (X + 1 + 1) 4 (alV x.A (some ⟨B1,0,none⟩) x.A.us.length (some ⟨B2,0,none⟩) x.A.gs.length))):=bl_setsT (by have:=HXw.out; omega) _ _ HB.out
  have HXn:Hid (BoxR (w1.setCells (X + 1 + 1) 4 (alV x.A (some ⟨B1,0,none⟩) x.A.us.length (some ⟨B2,0,none⟩) x.A.gs.length)) X (ndV x y)):=HX.out.others (by omega)
  have HYn:Hid (BoxW (w1.setCells (X + 1 + 1) 4 (alV x.A (some ⟨B1,0,none⟩) x.A.us.length (some ⟨B2,0,none⟩) x.A.gs.length)) (X + 1) [.int .i64 0,.int .i64 0,.int .i64 0,.int .i64 0,.int .i64 0,.int .i64 0,.int .i64 0,.slice none 0 0,.slice none 0 0,.bool false,.int .i64 0,.bool false,.int .i64 0,.int .i64 0,.int .i64 0,.slice none 0 0,.slice none 0 0,.bool false,.int .i64 0,.int .i64 0,.int .i64 0,.string ⟨#[]⟩,.slice none 0 0,.int .i64 0]):=HY.out.others (by omega)
  have HZn:Hid (BoxW (w1.setCells (X + 1 + 1) 4 (alV x.A (some ⟨B1,0,none⟩) x.A.us.length (some ⟨B2,0,none⟩) x.A.gs.length)) (X + 1 + 1) [.int .i64 x.k,.int .i64 x.ow,.int .i64 x.gr,.int .i64 x.ex,.int .i64 x.A.u,.int .i64 x.A.g,.int .i64 x.A.o,.slice (some ⟨B1,0,none⟩) x.A.us.length x.A.us.length,.slice (some ⟨B2,0,none⟩) x.A.gs.length x.A.gs.length,.bool x.A.r,.int .i64 x.A.m,.bool false,.int .i64 0,.int .i64 0,.int .i64 0,.slice none 0 0,.slice none 0 0,.bool false,.int .i64 0,.int .i64 0,.int .i64 0,.string ⟨#[]⟩,.slice none 0 0,.int .i64 0]):=HZ.out.sets 4 (alV x.A (some ⟨B1,0,none⟩) x.A.us.length (some ⟨B2,0,none⟩) x.A.gs.length) (by simp [alV_len])
  have U1n:Hid (Prs (some ⟨B1,0,none⟩) x.A.us.length x.A.us (w1.setCells (X + 1 + 1) 4 (alV x.A (some ⟨B1,0,none⟩) x.A.us.length (some ⟨B2,0,none⟩) x.A.gs.length))):=U1.out.sets (apart_of HS1.out.1) _ _
  have U2n:Hid (Prs (some ⟨B2,0,none⟩) x.A.gs.length x.A.gs (w1.setCells (X + 1 + 1) 4 (alV x.A (some ⟨B1,0,none⟩) x.A.us.length (some ⟨B2,0,none⟩) x.A.gs.length))):=U2.out.sets (apart_of HS1.out.2) _ _
  clear HB HX HY HZ U1 U2
  generalize (w1.setCells (X + 1 + 1) 4 (alV x.A (some ⟨B1,0,none⟩) x.A.us.length (some ⟨B2,0,none⟩) x.A.gs.length))=w2 at HBn HXn HYn HZn U1n U2n ⊢
  have HB:=HBn
  have HX:=HXn
  have HY:=HYn
  have HZ:=HZn
  have U1:=U1n
  have U2:=U2n
  clear HBn HXn HYn HZn U1n U2n
  have e11:=N24.c11 HX.out.at0
  have e12:=N24.c12 HX.out.at0
  have e13:=N24.c13 HX.out.at0
  have e14:=N24.c14 HX.out.at0
  have e15:=N24.c15 HX.out.at0
  have e16:=N24.c16 HX.out.at0
  have e17:=N24.c17 HX.out.at0
  have e18:=N24.c18 HX.out.at0
  simp only [Nat.zero_add] at e11 e12 e13 e14 e15 e16 e17 e18
  have z11:w2.cell? ⟨X + 1 + 1,11,none⟩=some (.bool false):=HZ.out.at0 11 _ rfl
  have zf:=HZ.out.frz
  have HBn:Hid (Below w.heap.size w (w2.setCell ⟨X + 1 + 1,11,none⟩ (.bool x.sh))):=bl_setT (HB.out) (by have:=HXw.out; omega)
  have HXn:Hid (BoxR (w2.setCell ⟨X + 1 + 1,11,none⟩ (.bool x.sh)) X (ndV x y)):=(HX.out).other (by omega)
  have HYn:Hid (BoxW (w2.setCell ⟨X + 1 + 1,11,none⟩ (.bool x.sh)) (X + 1) [.int .i64 0,.int .i64 0,.int .i64 0,.int .i64 0,.int .i64 0,.int .i64 0,.int .i64 0,.slice none 0 0,.slice none 0 0,.bool false,.int .i64 0,.bool false,.int .i64 0,.int .i64 0,.int .i64 0,.slice none 0 0,.slice none 0 0,.bool false,.int .i64 0,.int .i64 0,.int .i64 0,.string ⟨#[]⟩,.slice none 0 0,.int .i64 0]):=(HY.out).other (by omega)
  have HZn:Hid (BoxW (w2.setCell ⟨X + 1 + 1,11,none⟩ (.bool x.sh)) (X + 1 + 1) [.int .i64 x.k,.int .i64 x.ow,.int .i64 x.gr,.int .i64 x.ex,.int .i64 x.A.u,.int .i64 x.A.g,.int .i64 x.A.o,.slice (some ⟨B1,0,none⟩) x.A.us.length x.A.us.length,.slice (some ⟨B2,0,none⟩) x.A.gs.length x.A.gs.length,.bool x.A.r,.int .i64 x.A.m,.bool x.sh,.int .i64 0,.int .i64 0,.int .i64 0,.slice none 0 0,.slice none 0 0,.bool false,.int .i64 0,.int .i64 0,.int .i64 0,.string ⟨#[]⟩,.slice none 0 0,.int .i64 0]):=(HZ.out).set 11 (by simp) _
  have U1n:Hid (Prs (some ⟨B1,0,none⟩) x.A.us.length x.A.us (w2.setCell ⟨X + 1 + 1,11,none⟩ (.bool x.sh))):=(U1.out).set (apart_of HS1.out.1)
  have U2n:Hid (Prs (some ⟨B2,0,none⟩) x.A.gs.length x.A.gs (w2.setCell ⟨X + 1 + 1,11,none⟩ (.bool x.sh))):=(U2.out).set (apart_of HS1.out.2)
  clear HX HY HZ HB U1 U2
  go_wp2_with fail
  generalize (w2.setCell ⟨X + 1 + 1,11,none⟩ (.bool x.sh))=wB at HBn HXn HYn HZn U1n U2n ⊢
  clear zf e11 e12 e13 e14 e15 e16 e17 e18 z11
  refine (toAcl_any x.D.u x.D.g x.D.o _ _ _ _ _ _ x.D.r x.D.m x.D.us x.D.gs HF.out.du HF.out.dg _ (HI.out.dU.below HBn.out) (HI.out.dG.below HBn.out)).mono ?_
  rintro e w3 ⟨B3,B4,rfl,hO1,hO2,hs1,hs2,hs3,hb⟩
  have HS2:Hid (X + 1 + 1 < B3∧X + 1 + 1 < B4):=⟨Nat.lt_of_lt_of_le HZn.out.lt hs1,Nat.lt_trans (Nat.lt_of_lt_of_le HZn.out.lt hs1) hs2⟩
  have HB:Hid (Below w.heap.size w w3):=Below.on HBn.out hb
  have HX:Hid (BoxR w3 X (ndV x y)):=HXn.out.below hb
  have HY:Hid (BoxW w3 (X + 1) [.int .i64 0,.int .i64 0,.int .i64 0,.int .i64 0,.int .i64 0,.int .i64 0,.int .i64 0,.slice none 0 0,.slice none 0 0,.bool false,.int .i64 0,.bool false,.int .i64 0,.int .i64 0,.int .i64 0,.slice none 0 0,.slice none 0 0,.bool false,.int .i64 0,.int .i64 0,.int .i64 0,.string ⟨#[]⟩,.slice none 0 0,.int .i64 0]):=HYn.out.below hb
  have HZ:Hid (BoxW w3 (X + 1 + 1) [.int .i64 x.k,.int .i64 x.ow,.int .i64 x.gr,.int .i64 x.ex,.int .i64 x.A.u,.int .i64 x.A.g,.int .i64 x.A.o,.slice (some ⟨B1,0,none⟩) x.A.us.length x.A.us.length,.slice (some ⟨B2,0,none⟩) x.A.gs.length x.A.gs.length,.bool x.A.r,.int .i64 x.A.m,.bool x.sh,.int .i64 0,.int .i64 0,.int .i64 0,.slice none 0 0,.slice none 0 0,.bool false,.int .i64 0,.int .i64 0,.int .i64 0,.string ⟨#[]⟩,.slice none 0 0,.int .i64 0]):=HZn.out.below hb
  have U1:Hid (Prs (some ⟨B1,0,none⟩) x.A.us.length x.A.us w3):=U1n.out.below hb
  have U2:Hid (Prs (some ⟨B2,0,none⟩) x.A.gs.length x.A.gs w3):=U2n.out.below hb
  clear hb HBn HXn HYn HZn U1n U2n
  have U3:Hid (Prs (some ⟨B3,0,none⟩) x.D.us.length x.D.us w3):=hO1.prs
  have U4:Hid (Prs (some ⟨B4,0,none⟩) x.D.gs.length x.D.gs w3):=hO2.prs
  clear hO1 hO2 hs1 hs2 hs3
  go_upto_region 9 with (refine wpList_store_list (by rfl) 81 _ _ (by rfl) (X + 1 + 1) 12 (alV x.D (some ⟨B3,0,none⟩) x.D.us.length (some ⟨B4,0,none⟩) x.D.gs.length) (by rfl) (by rfl) (HZ.out.there 12 7 (by simp)) (by kernel_rfl) (alV_ones _ _ _ _ _) ?_)
  have HBn:Hid (Below w.heap.size w (w3.setCells (X + 1 + 1) 12 (alV x.D (some ⟨B3,0,none⟩) x.D.us.length (some ⟨B4,0,none⟩) x.D.gs.length))):=bl_setsT (by have:=HXw.out; omega) _ _ HB.out
  have HXn:Hid (BoxR (w3.setCells (X + 1 + 1) 12 (alV x.D (some ⟨B3,0,none⟩) x.D.us.length (some ⟨B4,0,none⟩) x.D.gs.length)) X (ndV x y)):=HX.out.others (by omega)
  have HYn:Hid (BoxW (w3.setCells (X + 1 + 1) 12 (alV x.D (some ⟨B3,0,none⟩) x.D.us.length (some ⟨B4,0,none⟩) x.D.gs.length)) (X + 1) [.int .i64 0,.int .i64 0,.int .i64 0,.int .i64 0,.int .i64 0,.int .i64 0,.int .i64 0,.slice none 0 0,.slice none 0 0,.bool false,.int .i64 0,.bool false,.int .i64 0,.int .i64 0,.int .i64 0,.slice none 0 0,.slice none 0 0,.bool false,.int .i64 0,.int .i64 0,.int .i64 0,.string ⟨#[]⟩,.slice none 0 0,.int .i64 0]):=HY.out.others (by omega)
  have HZn:Hid (BoxW (w3.setCells (X + 1 + 1) 12 (alV x.D (some ⟨B3,0,none⟩) x.D.us.length (some ⟨B4,0,none⟩) x.D.gs.length)) (X + 1 + 1) [.int .i64 x.k,.int .i64 x.ow,.int .i64 x.gr,.int .i64 x.ex,.int .i64 x.A.u,.int .i64 x.A.g,.int .i64 x.A.o,.slice (some ⟨B1,0,none⟩) x.A.us.length x.A.us.length,.slice (some ⟨B2,0,none⟩) x.A.gs.length x.A.gs.length,.bool x.A.r,.int .i64 x.A.m,.bool x.sh,.int .i64 x.D.u,.int .i64 x.D.g,.int .i64 x.D.o,.slice (some ⟨B3,0,none⟩) x.D.us.length x.D.us.length,.slice (some ⟨B4,0,none⟩) x.D.gs.length x.D.gs.length,.bool x.D.r,.int .i64 x.D.m,.int .i64 0,.int .i64 0,.string ⟨#[]⟩,.slice none 0 0,.int .i64 0]):=HZ.out.sets 12 (alV x.D (some ⟨B3,0,none⟩) x.D.us.length (some ⟨B4,0,none⟩) x.D.gs.length) (by simp [alV_len])
  have U1n:Hid (Prs (some ⟨B1,0,none⟩) x.A.us.length x.A.us (w3.setCells (X + 1 + 1) 12 (alV x.D (some ⟨B3,0,none⟩) x.D.us.length (some ⟨B4,0,none⟩) x.D.gs.length))):=U1.out.sets (apart_of HS1.out.1) _ _
  have U2n:Hid (Prs (some ⟨B2,0,none⟩) x.A.gs.length x.A.gs (w3.setCells (X + 1 + 1) 12 (alV x.D (some ⟨B3,0,none⟩) x.D.us.length (some ⟨B4,0,none⟩) x.D.gs.length))):=U2.out.sets (apart_of HS1.out.2) _ _
  have U3n:Hid (Prs (some ⟨B3,0,none⟩) x.D.us.length x.D.us (w3.setCells (X + 1 + 1) 12 (alV x.D (some ⟨B3,0,none⟩) x.D.us.length (some ⟨B4,0,none⟩) x.D.gs.length))):=U3.out.sets (apart_of HS2.out.1) _ _
  have U4n:Hid (Prs (some ⟨B4,0,none⟩) x.D.gs.length x.D.gs (w3.setCells (X + 1 + 1) 12 (alV x.D (some ⟨B3,0,none⟩) x.D.us.length (some ⟨B4,0,none⟩) x.D.gs.length))):=U4.out.sets (apart_of HS2.out.2) _ _
  clear HB HX HY HZ U1 U2 U3 U4
  generalize (w3.setCells (X + 1 + 1) 12 (alV x.D (some ⟨B3,0,none⟩) x.D.us.length (some ⟨B4,0,none⟩) x.D.gs.length))=w4 at HBn HXn HYn HZn U1n U2n U3n U4n ⊢
  have HB:=HBn
  have HX:=HXn
  have HY:=HYn
  have HZ:=HZn
  have U1:=U1n
  have U2:=U2n
  have U3:=U3n
  have U4:=U4n
  clear HBn HXn HYn HZn U1n U2n U3n U4n
  have e19:=N24.c19 HX.out.at0
  have e20:=N24.c20 HX.out.at0
  have e21:=N24.c21 HX.out.at0
  have e22:=N24.c22 HX.out.at0
  simp only [Nat.zero_add] at e19 e20 e21 e22
  have z19:w4.cell? ⟨X + 1 + 1,19,none⟩=some (.int .i64 0):=HZ.out.at0 19 _ rfl
  have z20:w4.cell? ⟨X + 1 + 1,20,none⟩=some (.int .i64 0):=HZ.out.at0 20 _ rfl
  have z21:w4.cell? ⟨X + 1 + 1,21,none⟩=some (.string ⟨#[]⟩):=HZ.out.at0 21 _ rfl
  have zf:=HZ.out.frz
  have HBn:Hid (Below w.heap.size w (((w4.setCell ⟨X + 1 + 1,19,none⟩ (.int .i64 x.li)).setCell ⟨X + 1 + 1,20,none⟩ (.int .i64 x.up)).setCell ⟨X + 1 + 1,21,none⟩ (.string x.bo))):=bl_setT (bl_setT (bl_setT (HB.out) (by have:=HXw.out; omega)) (by have:=HXw.out; omega)) (by have:=HXw.out; omega)
  have HXn:Hid (BoxR (((w4.setCell ⟨X + 1 + 1,19,none⟩ (.int .i64 x.li)).setCell ⟨X + 1 + 1,20,none⟩ (.int .i64 x.up)).setCell ⟨X + 1 + 1,21,none⟩ (.string x.bo)) X (ndV x y)):=(((HX.out).other (by omega)).other (by omega)).other (by omega)
  have HYn:Hid (BoxW (((w4.setCell ⟨X + 1 + 1,19,none⟩ (.int .i64 x.li)).setCell ⟨X + 1 + 1,20,none⟩ (.int .i64 x.up)).setCell ⟨X + 1 + 1,21,none⟩ (.string x.bo)) (X + 1) [.int .i64 0,.int .i64 0,.int .i64 0,.int .i64 0,.int .i64 0,.int .i64 0,.int .i64 0,.slice none 0 0,.slice none 0 0,.bool false,.int .i64 0,.bool false,.int .i64 0,.int .i64 0,.int .i64 0,.slice none 0 0,.slice none 0 0,.bool false,.int .i64 0,.int .i64 0,.int .i64 0,.string ⟨#[]⟩,.slice none 0 0,.int .i64 0]):=(((HY.out).other (by omega)).other (by omega)).other (by omega)
  have HZn:Hid (BoxW (((w4.setCell ⟨X + 1 + 1,19,none⟩ (.int .i64 x.li)).setCell ⟨X + 1 + 1,20,none⟩ (.int .i64 x.up)).setCell ⟨X + 1 + 1,21,none⟩ (.string x.bo)) (X + 1 + 1) [.int .i64 x.k,.int .i64 x.ow,.int .i64 x.gr,.int .i64 x.ex,.int .i64 x.A.u,.int .i64 x.A.g,.int .i64 x.A.o,.slice (some ⟨B1,0,none⟩) x.A.us.length x.A.us.length,.slice (some ⟨B2,0,none⟩) x.A.gs.length x.A.gs.length,.bool x.A.r,.int .i64 x.A.m,.bool x.sh,.int .i64 x.D.u,.int .i64 x.D.g,.int .i64 x.D.o,.slice (some ⟨B3,0,none⟩) x.D.us.length x.D.us.length,.slice (some ⟨B4,0,none⟩) x.D.gs.length x.D.gs.length,.bool x.D.r,.int .i64 x.D.m,.int .i64 x.li,.int .i64 x.up,.string x.bo,.slice none 0 0,.int .i64 0]):=(((HZ.out).set 19 (by simp) _).set 20 (by simp) _).set 21 (by simp) _
  have U1n:Hid (Prs (some ⟨B1,0,none⟩) x.A.us.length x.A.us (((w4.setCell ⟨X + 1 + 1,19,none⟩ (.int .i64 x.li)).setCell ⟨X + 1 + 1,20,none⟩ (.int .i64 x.up)).setCell ⟨X + 1 + 1,21,none⟩ (.string x.bo))):=(((U1.out).set (apart_of HS1.out.1)).set (apart_of HS1.out.1)).set (apart_of HS1.out.1)
  have U2n:Hid (Prs (some ⟨B2,0,none⟩) x.A.gs.length x.A.gs (((w4.setCell ⟨X + 1 + 1,19,none⟩ (.int .i64 x.li)).setCell ⟨X + 1 + 1,20,none⟩ (.int .i64 x.up)).setCell ⟨X + 1 + 1,21,none⟩ (.string x.bo))):=(((U2.out).set (apart_of HS1.out.2)).set (apart_of HS1.out.2)).set (apart_of HS1.out.2)
  have U3n:Hid (Prs (some ⟨B3,0,none⟩) x.D.us.length x.D.us (((w4.setCell ⟨X + 1 + 1,19,none⟩ (.int .i64 x.li)).setCell ⟨X + 1 + 1,20,none⟩ (.int .i64 x.up)).setCell ⟨X + 1 + 1,21,none⟩ (.string x.bo))):=(((U3.out).set (apart_of HS2.out.1)).set (apart_of HS2.out.1)).set (apart_of HS2.out.1)
  have U4n:Hid (Prs (some ⟨B4,0,none⟩) x.D.gs.length x.D.gs (((w4.setCell ⟨X + 1 + 1,19,none⟩ (.int .i64 x.li)).setCell ⟨X + 1 + 1,20,none⟩ (.int .i64 x.up)).setCell ⟨X + 1 + 1,21,none⟩ (.string x.bo))):=(((U4.out).set (apart_of HS2.out.2)).set (apart_of HS2.out.2)).set (apart_of HS2.out.2)
  clear HX HY HZ HB U1 U2 U3 U4
  go_wp2_with fail
  generalize (((w4.setCell ⟨X + 1 + 1,19,none⟩ (.int .i64 x.li)).setCell ⟨X + 1 + 1,20,none⟩ (.int .i64 x.up)).setCell ⟨X + 1 + 1,21,none⟩ (.string x.bo))=wC at HBn HXn HYn HZn U1n U2n U3n U4n ⊢
  clear zf e19 e20 e21 e22 z19 z20 z21
  refine (toEntryS_any _ _ _ x.ns HF.out.nl _ (HI.out.nA.below HBn.out)).mono ?_
  rintro e w5 ⟨rfl,hO1,hs1,hb⟩
  obtain ⟨B5,hB5⟩:∃ B5,B5=wC.heap.size:=⟨_,rfl⟩
  rw [← hB5] at hO1 hs1 ⊢
  have HS3:Hid (X + 1 + 1 < B5):=(by show _ < _; rw [hB5]; exact HZn.out.lt)
  clear hB5
  have HB:Hid (Below w.heap.size w w5):=Below.on HBn.out hb
  have HX:Hid (BoxR w5 X (ndV x y)):=HXn.out.below hb
  have HY:Hid (BoxW w5 (X + 1) [.int .i64 0,.int .i64 0,.int .i64 0,.int .i64 0,.int .i64 0,.int .i64 0,.int .i64 0,.slice none 0 0,.slice none 0 0,.bool false,.int .i64 0,.bool false,.int .i64 0,.int .i64 0,.int .i64 0,.slice none 0 0,.slice none 0 0,.bool false,.int .i64 0,.int .i64 0,.int .i64 0,.string ⟨#[]⟩,.slice none 0 0,.int .i64 0]):=HYn.out.below hb
  have HZ:Hid (BoxW w5 (X + 1 + 1) [.int .i64 x.k,.int .i64 x.ow,.int .i64 x.gr,.int .i64 x.ex,.int .i64 x.A.u,.int .i64 x.A.g,.int .i64 x.A.o,.slice (some ⟨B1,0,none⟩) x.A.us.length x.A.us.length,.slice (some ⟨B2,0,none⟩) x.A.gs.length x.A.gs.length,.bool x.A.r,.int .i64 x.A.m,.bool x.sh,.int .i64 x.D.u,.int .i64 x.D.g,.int .i64 x.D.o,.slice (some ⟨B3,0,none⟩) x.D.us.length x.D.us.length,.slice (some ⟨B4,0,none⟩) x.D.gs.length x.D.gs.length,.bool x.D.r,.int .i64 x.D.m,.int .i64 x.li,.int .i64 x.up,.string x.bo,.slice none 0 0,.int .i64 0]):=HZn.out.below hb
  have U1:Hid (Prs (some ⟨B1,0,none⟩) x.A.us.length x.A.us w5):=U1n.out.below hb
  have U2:Hid (Prs (some ⟨B2,0,none⟩) x.A.gs.length x.A.gs w5):=U2n.out.below hb
  have U3:Hid (Prs (some ⟨B3,0,none⟩) x.D.us.length x.D.us w5):=U3n.out.below hb
  have U4:Hid (Prs (some ⟨B4,0,none⟩) x.D.gs.length x.D.gs w5):=U4n.out.below hb
  clear hb HBn HXn HYn HZn U1n U2n U3n U4n
  have U5:Hid (Ens (some ⟨B5,0,none⟩) x.ns.length x.ns w5):=hO1.ens
  clear hO1 hs1
  have e23:=N24.c23 HX.out.at0
  simp only [Nat.zero_add] at e23
  have z22:w5.cell? ⟨X + 1 + 1,22,none⟩=some (.slice none 0 0):=HZ.out.at0 22 _ rfl
  have z23:w5.cell? ⟨X + 1 + 1,23,none⟩=some (.int .i64 0):=HZ.out.at0 23 _ rfl
  have zf:=HZ.out.frz
  have HBn:Hid (Below w.heap.size w ((w5.setCell ⟨X + 1 + 1,22,none⟩ (.slice (some ⟨B5,0,none⟩) x.ns.length x.ns.length)).setCell ⟨X + 1 + 1,23,none⟩ (.int .i64 x.ti))):=bl_setT (bl_setT (HB.out) (by have:=HXw.out; omega)) (by have:=HXw.out; omega)
  have HXn:Hid (BoxR ((w5.setCell ⟨X + 1 + 1,22,none⟩ (.slice (some ⟨B5,0,none⟩) x.ns.length x.ns.length)).setCell ⟨X + 1 + 1,23,none⟩ (.int .i64 x.ti)) X (ndV x y)):=((HX.out).other (by omega)).other (by omega)
  have HYn:Hid (BoxW ((w5.setCell ⟨X + 1 + 1,22,none⟩ (.slice (some ⟨B5,0,none⟩) x.ns.length x.ns.length)).setCell ⟨X + 1 + 1,23,none⟩ (.int .i64 x.ti)) (X + 1) [.int .i64 0,.int .i64 0,.int .i64 0,.int .i64 0,.int .i64 0,.int .i64 0,.int .i64 0,.slice none 0 0,.slice none 0 0,.bool false,.int .i64 0,.bool false,.int .i64 0,.int .i64 0,.int .i64 0,.slice none 0 0,.slice none 0 0,.bool false,.int .i64 0,.int .i64 0,.int .i64 0,.string ⟨#[]⟩,.slice none 0 0,.int .i64 0]):=((HY.out).other (by omega)).other (by omega)
  have HZn:Hid (BoxW ((w5.setCell ⟨X + 1 + 1,22,none⟩ (.slice (some ⟨B5,0,none⟩) x.ns.length x.ns.length)).setCell ⟨X + 1 + 1,23,none⟩ (.int .i64 x.ti)) (X + 1 + 1) [.int .i64 x.k,.int .i64 x.ow,.int .i64 x.gr,.int .i64 x.ex,.int .i64 x.A.u,.int .i64 x.A.g,.int .i64 x.A.o,.slice (some ⟨B1,0,none⟩) x.A.us.length x.A.us.length,.slice (some ⟨B2,0,none⟩) x.A.gs.length x.A.gs.length,.bool x.A.r,.int .i64 x.A.m,.bool x.sh,.int .i64 x.D.u,.int .i64 x.D.g,.int .i64 x.D.o,.slice (some ⟨B3,0,none⟩) x.D.us.length x.D.us.length,.slice (some ⟨B4,0,none⟩) x.D.gs.length x.D.gs.length,.bool x.D.r,.int .i64 x.D.m,.int .i64 x.li,.int .i64 x.up,.string x.bo,.slice (some ⟨B5,0,none⟩) x.ns.length x.ns.length,.int .i64 x.ti]):=((HZ.out).set 22 (by simp) _).set 23 (by simp) _
  have U1n:Hid (Prs (some ⟨B1,0,none⟩) x.A.us.length x.A.us ((w5.setCell ⟨X + 1 + 1,22,none⟩ (.slice (some ⟨B5,0,none⟩) x.ns.length x.ns.length)).setCell ⟨X + 1 + 1,23,none⟩ (.int .i64 x.ti))):=((U1.out).set (apart_of HS1.out.1)).set (apart_of HS1.out.1)
  have U2n:Hid (Prs (some ⟨B2,0,none⟩) x.A.gs.length x.A.gs ((w5.setCell ⟨X + 1 + 1,22,none⟩ (.slice (some ⟨B5,0,none⟩) x.ns.length x.ns.length)).setCell ⟨X + 1 + 1,23,none⟩ (.int .i64 x.ti))):=((U2.out).set (apart_of HS1.out.2)).set (apart_of HS1.out.2)
  have U3n:Hid (Prs (some ⟨B3,0,none⟩) x.D.us.length x.D.us ((w5.setCell ⟨X + 1 + 1,22,none⟩ (.slice (some ⟨B5,0,none⟩) x.ns.length x.ns.length)).setCell ⟨X + 1 + 1,23,none⟩ (.int .i64 x.ti))):=((U3.out).set (apart_of HS2.out.1)).set (apart_of HS2.out.1)
  have U4n:Hid (Prs (some ⟨B4,0,none⟩) x.D.gs.length x.D.gs ((w5.setCell ⟨X + 1 + 1,22,none⟩ (.slice (some ⟨B5,0,none⟩) x.ns.length x.ns.length)).setCell ⟨X + 1 + 1,23,none⟩ (.int .i64 x.ti))):=((U4.out).set (apart_of HS2.out.2)).set (apart_of HS2.out.2)
  have U5n:Hid (Ens (some ⟨B5,0,none⟩) x.ns.length x.ns ((w5.setCell ⟨X + 1 + 1,22,none⟩ (.slice (some ⟨B5,0,none⟩) x.ns.length x.ns.length)).setCell ⟨X + 1 + 1,23,none⟩ (.int .i64 x.ti))):=((U5.out).set (apart_of HS3.out)).set (apart_of HS3.out)
  clear HX HY HZ HB U1 U2 U3 U4 U5
  go_upto_region 14 with fail
  generalize ((w5.setCell ⟨X + 1 + 1,22,none⟩ (.slice (some ⟨B5,0,none⟩) x.ns.length x.ns.length)).setCell ⟨X + 1 + 1,23,none⟩ (.int .i64 x.ti))=w6 at HBn HXn HYn HZn U1n U2n U3n U4n U5n ⊢
  clear zf e23 z22 z23
  obtain ⟨y',hy⟩:∃ y':Na,y'=⟨some ⟨B1,0,none⟩,x.A.us.length,some ⟨B2,0,none⟩,x.A.gs.length,some ⟨B3,0,none⟩,x.D.us.length,some ⟨B4,0,none⟩,x.D.gs.length,some ⟨B5,0,none⟩,x.ns.length⟩:=⟨_,rfl⟩
  have HZ:Hid (BoxW w6 (X + 1 + 1) (ndV x y')):=(by rw [hy]; exact HZn.out)
  have HN:Hid (NdIn w6 x y'):=(by rw [hy]; exact ⟨U1n.out,U2n.out,U3n.out,U4n.out,U5n.out⟩)
  have HNs:Hid (NdIn (w6.setCells (X + 1) 0 (ndV x y')) x y'):=(by
    have h1:=HS1.out
    have h2:=HS2.out
    have h3:=HS3.out
    rw [hy]
    exact ⟨U1n.out.sets (apart_of (by omega)) _ _,U2n.out.sets (apart_of (by omega)) _ _,U3n.out.sets (apart_of (by omega)) _ _,U4n.out.sets (apart_of (by omega)) _ _,U5n.out.sets (apart_of (by omega)) _ _⟩)
  have HFr:Hid (NaFrom w.heap.size y'):=(by
    have h0:=HXw.out
    have h1:=HS1.out
    have h2:=HS2.out
    have h3:=HS3.out
    rw [hy]
    exact ⟨le_of_some (by omega),le_of_some (by omega),le_of_some (by omega),le_of_some (by omega),le_of_some (by omega)⟩)
  clear hy HZn U1n U2n U3n U4n U5n HN
  have HBs:Hid (Below w.heap.size w (w6.setCells (X + 1) 0 (ndV x y'))):=bl_setsT (by have:=HXw.out; omega) _ _ HBn.out
  have hr:(w6.setCells (X + 1) 0 (ndV x y')).rangeAt (X + 1) 0 (ndV x y'):=World.rangeAt_setCells_same _ _ _ _ (HYn.out.there 0 24 (by simp))
  have hR:Hid ((loadVar 84 ⟨X + 1,0,none⟩).run Tryz.prog (w6.setCells (X + 1) 0 (ndV x y'))=.ok (.agg (ndV x y').toArray) (w6.setCells (X + 1) 0 (ndV x y'))):=run_loadVar_mid _ _ _ _ _ _ hr Tryz.underlying84 rfl (by kernel_rfl)
  clear hr
  go_wp2_with (first | (refine wpList_load_mid (by rfl) 84 _ (by rfl) _ _ (by rfl) _ _ HZ.out.at0 Tryz.underlying84 rfl (by kernel_rfl) ?_) | (refine wpList_store_list (by rfl) 84 _ _ (by rfl) (X + 1) 0 (ndV x y') (by rfl) (by rfl) (HYn.out.there 0 24 (by simp)) (by kernel_rfl) (ndV_ones _ _) ?_) | (refine bodyPost_ret (v:=.agg (ndV x y').toArray) ?hres rfl ⟨y',rfl,HNs.out,HFr.out,HBs.out⟩))
  exact results_one Tryz.results68 (by rfl) hR.out
theorem infoNode:(Tryz.prog.info? 84).map (fun i => (i.zero,i.size,i.bytes))=some (some (.agg #[.int .i64 0,.int .i64 0,.int .i64 0,.int .i64 0,.int .i64 0,.int .i64 0,.int .i64 0,.slice none 0 0,.slice none 0 0,.bool false,.int .i64 0,.bool false,.int .i64 0,.int .i64 0,.int .i64 0,.slice none 0 0,.slice none 0 0,.bool false,.int .i64 0,.int .i64 0,.int .i64 0,.string ⟨#[]⟩,.slice none 0 0,.int .i64 0]),24,280):=by kernel_rfl
set_option maxRecDepth 20000 in
set_option maxHeartbeats 4000000 in
/-- laws.toNodeS. -/
theorem toNodeS_any (a:Option Addr) (len cap:Nat) (l:List Nd) (hl:len≤1048576) (hf:∀ i,i < len→NdFit 1048576 (ndAt l i)) (w:World) (hi:Nds a len l w) :
    Calls Tryz.prog 36 #[.slice a len cap] w fun e w' => e=.returned (.slice (some ⟨w.heap.size,0,none⟩) len len)∧(∃ Y,NRow w' w.heap.size (ndAt l) Y len∧∀ i,i < len→NdIn w' (ndAt l i) (Y i)∧NaFrom (w.heap.size + 1) (Y i))∧w.heap.size < w'.heap.size∧Below w.heap.size w w':=by
  have hmk:=run_make_nodes (P:=Tryz.prog) 33 84 Tryz.underlying33 infoNode .i64 .i64 len (by omega) w
  have hH0:Hid (NRow (w.alloc (.cells (madeCells #[.int .i64 0,.int .i64 0,.int .i64 0,.int .i64 0,.int .i64 0,.int .i64 0,.int .i64 0,.slice none 0 0,.slice none 0 0,.bool false,.int .i64 0,.bool false,.int .i64 0,.int .i64 0,.int .i64 0,.slice none 0 0,.slice none 0 0,.bool false,.int .i64 0,.int .i64 0,.int .i64 0,.string ⟨#[]⟩,.slice none 0 0,.int .i64 0] (len * 24)) 84)) w.heap.size (fun _ => ndZ) (fun _ => naZ) len):=made_nodes w len _
  have hB0:Hid (Below w.heap.size w (w.alloc (.cells (madeCells #[.int .i64 0,.int .i64 0,.int .i64 0,.int .i64 0,.int .i64 0,.int .i64 0,.int .i64 0,.slice none 0 0,.slice none 0 0,.bool false,.int .i64 0,.bool false,.int .i64 0,.int .i64 0,.int .i64 0,.slice none 0 0,.slice none 0 0,.bool false,.int .i64 0,.int .i64 0,.int .i64 0,.string ⟨#[]⟩,.slice none 0 0,.int .i64 0] (len * 24)) 84))):=(Below.refl _ _).alloc (Nat.le_refl _) _
  have hZ0:Hid (w.heap.size < (w.alloc (.cells (madeCells #[.int .i64 0,.int .i64 0,.int .i64 0,.int .i64 0,.int .i64 0,.int .i64 0,.int .i64 0,.slice none 0 0,.slice none 0 0,.bool false,.int .i64 0,.bool false,.int .i64 0,.int .i64 0,.int .i64 0,.slice none 0 0,.slice none 0 0,.bool false,.int .i64 0,.int .i64 0,.int .i64 0,.string ⟨#[]⟩,.slice none 0 0,.int .i64 0] (len * 24)) 84)).heap.size):=(by show _ < _; simp)
  generalize (w.alloc (.cells (madeCells #[.int .i64 0,.int .i64 0,.int .i64 0,.int .i64 0,.int .i64 0,.int .i64 0,.int .i64 0,.slice none 0 0,.slice none 0 0,.bool false,.int .i64 0,.bool false,.int .i64 0,.int .i64 0,.int .i64 0,.slice none 0 0,.slice none 0 0,.bool false,.int .i64 0,.int .i64 0,.int .i64 0,.string ⟨#[]⟩,.slice none 0 0,.int .i64 0] (len * 24)) 84))=w0 at hmk hH0 hB0 hZ0
  have HI:Hid (Nds a len l w):=hi
  have HF:Hid (∀ i,i < len→NdFit 1048576 (ndAt l i)):=hf
  clear hi hf
  go_enter Tryz.func36,Tryz.ntmps36
  go_wp2
  go_loopw [4] (fun i wr => ∃ (k:Nat) (F:Nat→Nd) (Y:Nat→Na),k≤len∧i=.int .i64 k∧Hid (NRow wr w.heap.size F Y len)∧Hid (∀ j,j < k→F j=ndAt l j∧NdIn wr (F j) (Y j)∧NaFrom (w.heap.size + 1) (Y j))∧Hid (Below w.heap.size w wr)∧Hid (w.heap.size < wr.heap.size)) (fun i _ => len - (intOf i).toNat)
  case atStart => exact ⟨0,fun _ => ndZ,fun _ => naZ,Nat.zero_le _,rfl,hH0,fun j hj => absurd hj (by omega),hB0,hZ0⟩
  case round =>
    obtain ⟨k,F,Y,hk,rfl,hH,hg,hB,hZ⟩:=hrel
    by_cases hlt:k < len
    · obtain ⟨b, off, Y0, rfl, hb, hc⟩ := HI.out.2 (by omega)
      have hlt':(k:Int) < (len:Int):=by omega
      have HG:Hid (N24 wr b (off + k * 24) (ndAt l k) (Y0 k)):=range_below (hc k hlt).1 hb hB.out
      have HN:Hid (NdIn wr (ndAt l k) (Y0 k)):=(hc k hlt).2.below hB.out
      have HFk:Hid (NdFit 1048576 (ndAt l k)):=HF.out k hlt
      clear hc hmk hH0 hB0 hZ0 HI HF
      obtain ⟨x,hx⟩:∃ x,x=ndAt l k:=⟨_,rfl⟩
      rw [← hx] at HG HN HFk
      have HL:Hid (x=ndAt l k):=hx
      clear hx
      generalize Y0 k=y at HG HN
      go_wp2_with (refine wpList_load_mid (by rfl) 118 _ (by rfl) _ _ (by rfl) _ _ HG.out Tryz.underlying118 rfl (by kernel_rfl) ?_)
      refine (toNode_any x y HFk.out _ HN.out).mono ?_
      rintro e w1 ⟨y1,rfl,hN1,hF1,hb1⟩
      have hH1:NRow w1 w.heap.size F Y len:=hH.out.below hZ.out hb1
      have HH1:Hid (NRow w1 w.heap.size F Y len):=hH1
      have hB1:Below w.heap.size w w1:=Below.on hB.out hb1
      have hZ1:w.heap.size < w1.heap.size:=Nat.lt_of_lt_of_le hZ.out hb1.size
      have hH2:Hid (NRow (w1.setCells w.heap.size (k * 24) (ndV x y1)) w.heap.size (fun i => if i=k then x else F i) (fun i => if i=k then y1 else Y i) len):=hH1.set k hlt _ _
      have hg2:Hid (∀ j,j < k + 1→(fun i => if i=k then x else F i) j=ndAt l j∧NdIn (w1.setCells w.heap.size (k * 24) (ndV x y1)) ((fun i => if i=k then x else F i) j) ((fun i => if i=k then y1 else Y i) j)∧NaFrom (w.heap.size + 1) ((fun i => if i=k then y1 else Y i) j)):=(fun j hj => by
        show (if j=k then x else F j)=ndAt l j∧NdIn (w1.setCells w.heap.size (k * 24) (ndV x y1)) (if j=k then x else F j) (if j=k then y1 else Y j)∧NaFrom (w.heap.size + 1) (if j=k then y1 else Y j)
        by_cases e:j=k
        · rw [if_pos e, if_pos e, e]
          have hF2:NaFrom (w.heap.size + 1) y1:=hF1.mono hZ.out
          exact ⟨HL.out,hN1.sets hF2 (Nat.lt_succ_self _) _ _,hF2⟩
        · rw [if_neg e, if_neg e]
          obtain ⟨p1,p2,p3⟩:=hg.out j (by omega)
          exact ⟨p1,(p2.below hb1).sets p3 (Nat.lt_succ_self _) _ _,p3⟩)
      have hB2:Hid (Below w.heap.size w (w1.setCells w.heap.size (k * 24) (ndV x y1))):=bl_setsT (Nat.le_refl _) _ _ hB1
      have hZ2:Hid (w.heap.size < (w1.setCells w.heap.size (k * 24) (ndV x y1)).heap.size):=(by show _ < _; rw [size_setCellsT]; exact hZ1)
      clear hH hg hB hH1 hb1 hB1 hN1 hF1 HG HN
      go_wp2_with (refine wpList_store_list (by rfl) 84 _ _ (by rfl) _ _ (ndV x y1) (by rfl) (by rfl) (by simpa [ndV_len] using HH1.out.there k hlt) (by kernel_rfl) (ndV_ones _ _) ?_)
      go_roundw
      case rel => exact ⟨k + 1,_,_,by omega,by go_num,hH2,hg2,hB2,hZ2⟩
      case measure => simp [intOf]; omega
    · have : k = len := by omega
      subst this
      go_wp2
      go_ret
      refine ⟨rfl,⟨Y,⟨fun i hi => ?_,hH.out.frz⟩,fun i hi => ?_⟩,hZ.out,hB.out⟩
      · rw [← (hg.out i hi).1]
        exact hH.out.at' i hi
      · obtain ⟨p1, p2, p3⟩ := hg.out i hi
        rw [← p1]
        exact ⟨p2,p3⟩
set_option maxHeartbeats 4000000 in
/-- laws.toTree: a copy. -/
theorem toTree_any (a:Option Addr) (len cap:Nat) (l:List Nd) (now:Int) (hl:len≤1048576) (hf:∀ i,i < len→NdFit 1048576 (ndAt l i)) (w:World) (hi:Nds a len l w) :
    Calls Tryz.prog 11 #[.agg #[.slice a len cap,.int .i64 now]] w fun e w' => ∃ B,e=.returned (.agg #[.slice (some ⟨B,0,none⟩) len len,.int .i64 now])∧OwnN w' B l len∧Below w.heap.size w w':=by
  have HF:Hid (∀ i,i < len→NdFit 1048576 (ndAt l i)):=hf
  have HI:Hid (Nds a len l w):=hi
  clear hf hi
  go_enter Tryz.func11,Tryz.ntmps11
  go_wp2_with fail
  refine (toNodeS_any a len cap l hl HF.out _ (HI.out.below (bl3T _ _ _ _))).mono ?_
  rintro e w1 ⟨rfl,⟨Y,hR,hN⟩,hz,hb⟩
  have hO:OwnN w1 (((w.alloc (.cells #[.slice a len cap,.int .i64 now] 24)).alloc (.cells #[.slice none 0 0,.int .i64 0] 35)).alloc (.cells #[.slice none 0 0,.int .i64 0] 35)).heap.size l len:=⟨HI.out.1,hz,Y,hR,hN⟩
  have eS:(((w.alloc (.cells #[.slice a len cap,.int .i64 now] 24)).alloc (.cells #[.slice none 0 0,.int .i64 0] 35)).alloc (.cells #[.slice none 0 0,.int .i64 0] 35)).heap.size=w.heap.size + 1 + 1 + 1:=by simp
  rw [eS] at hO ⊢
  have hbW:Hid (Below w.heap.size w w1):=(bl3T _ _ _ _).trans (hb.mono (by rw [eS]; omega))
  have HO:Hid (OwnN w1 (w.heap.size + 1 + 1 + 1) l len):=hO
  obtain ⟨hcl,hfz⟩:=bl_cellT hb
  clear hb hO hR hN hz eS HI HF
  simp at hcl hfz
  go_wp2
  refine bodyPost_ret (v:=.agg #[.slice (some ⟨w.heap.size + 1 + 1 + 1,0,none⟩) len len,.int .i64 now]) (by simp [results,Tryz.results11,go_sem,hcl]) rfl ⟨_,rfl,?_,?_⟩
  · iterate 4 (refine OwnN.set ?_ (by omega))
    exact HO.out
  · iterate 4 (refine bl_setT ?_ (by omega))
    exact hbW.out
end Go.Proofs.YtabfdidnjibdeaaGreatDoor
/- Two answers of Stat compared; what holds while the law's first answer is made. -/
namespace Go.Proofs.YtabfdidnjibdeaaGreatDoor
open Go.RowKit Go.PlainAid Go.Deep
set_option linter.unusedVariables false
set_option maxRecDepth 20000 in
set_option maxHeartbeats 4000000 in
theorem eqStatOut_any (F:So) (w:World) :
    Calls Tryz.prog 23 #[.agg #[.int .i64 F.n,.int .i64 F.k,.int .i64 F.mo,.int .i64 F.ow,.int .i64 F.gr,.int .i64 F.li,.int .i64 F.c],.agg #[.int .i64 F.n,.int .i64 F.k,.int .i64 F.mo,.int .i64 F.ow,.int .i64 F.gr,.int .i64 F.li,.int .i64 F.c]] w fun e w' => e=.returned (.bool true)∧Below w.heap.size w w':=by
  have HB:Hid (Below w.heap.size w ((w.alloc (.cells #[.int .i64 F.n,.int .i64 F.k,.int .i64 F.mo,.int .i64 F.ow,.int .i64 F.gr,.int .i64 F.li,.int .i64 F.c] 47)).alloc (.cells #[.int .i64 F.n,.int .i64 F.k,.int .i64 F.mo,.int .i64 F.ow,.int .i64 F.gr,.int .i64 F.li,.int .i64 F.c] 47))):=bl2T _ _ _
  have h0:(F.n != F.n)=false:=by simp
  have h1:(F.k != F.k)=false:=by simp
  have h2:(F.mo != F.mo)=false:=by simp
  have h3:(F.ow != F.ow)=false:=by simp
  have h4:(F.gr != F.gr)=false:=by simp
  have h5:(F.li != F.li)=false:=by simp
  have h6:(F.c != F.c)=false:=by simp
  go_enter Tryz.func23,Tryz.ntmps23
  go_wp2
  go_ret
  exact ⟨rfl,HB.out⟩
/-- What holds on the way to the first answer: what is made so far. -/
structure TS (w:World) (X:Nat) (a:Option Addr) (len cap:Nat) (l:List Nd) (now:Int) (u g:Int) (ca:Option Addr) (cl cc:Nat) (r:Bool) (cf:Nat→Int) (W:World) (pt pc pz:Option Nat):Prop where
  bel:Below w.heap.size w W
  l0:BoxR W X [.slice a len cap,.int .i64 now]
  l1:BoxR W (X + 1) [.int .i64 u,.int .i64 g,.slice ca cl cc,.bool r]
  ot:∀ B,pt=some B→OwnN W B l len
  oc:∀ B,pc=some B→Ints (some ⟨B,0,none⟩) cl cf W
  bz:∀ B,pz=some B→BoxW W B [.int .i64 0,.int .i64 0,.int .i64 0,.int .i64 0,.int .i64 0,.int .i64 0,.int .i64 0]∧X + 1 < B∧w.heap.size≤B
theorem TS.below {w:World} {X:Nat} {a:Option Addr} {len cap:Nat} {l:List Nd} {now:Int} {u g:Int} {ca:Option Addr} {cl cc:Nat} {r:Bool} {cf:Nat→Int} {W W':World} {pt pc pz:Option Nat} (h:TS w X a len cap l now u g ca cl cc r cf W pt pc pz) (hb:Below W.heap.size W W'):TS w X a len cap l now u g ca cl cc r cf W' pt pc pz :=
  ⟨Below.on h.bel hb,h.l0.below hb,h.l1.below hb,fun B e => (h.ot B e).below hb,fun B e => (h.oc B e).below hb,fun B e => ⟨(h.bz B e).1.below hb,(h.bz B e).2⟩⟩
theorem TS.drew {w:World} {X:Nat} {a:Option Addr} {len cap:Nat} {l:List Nd} {now:Int} {u g:Int} {ca:Option Addr} {cl cc:Nat} {r:Bool} {cf:Nat→Int} {W:World} {pt pc pz:Option Nat} (h:TS w X a len cap l now u g ca cl cc r cf W pt pc pz):TS w X a len cap l now u g ca cl cc r cf W.drew pt pc pz:=h.below (below_drewT (Below.refl _ _))
theorem TS.box {w:World} {X:Nat} {a:Option Addr} {len cap:Nat} {l:List Nd} {now:Int} {u g:Int} {ca:Option Addr} {cl cc:Nat} {r:Bool} {cf:Nat→Int} {W:World} {pt pc pz:Option Nat} (h:TS w X a len cap l now u g ca cl cc r cf W pt pc pz):TS w X a len cap l now u g ca cl cc r cf (W.alloc (.cells #[.int .i64 0,.int .i64 0,.int .i64 0,.int .i64 0,.int .i64 0,.int .i64 0,.int .i64 0] 47)) pt pc (some W.heap.size):=by
  have h2:=h.below (bel_alloc W (.cells #[.int .i64 0,.int .i64 0,.int .i64 0,.int .i64 0,.int .i64 0,.int .i64 0,.int .i64 0] 47))
  exact ⟨h2.bel,h2.l0,h2.l1,h2.ot,h2.oc,fun B e => by cases e; exact ⟨boxW_new W [.int .i64 0,.int .i64 0,.int .i64 0,.int .i64 0,.int .i64 0,.int .i64 0,.int .i64 0] 47,h.l1.lt,h.bel.size⟩⟩
theorem TS.zc {w:World} {X:Nat} {a:Option Addr} {len cap:Nat} {l:List Nd} {now:Int} {u g:Int} {ca:Option Addr} {cl cc:Nat} {r:Bool} {cf:Nat→Int} {W:World} {pt pc:Option Nat} {Z:Nat} (h:TS w X a len cap l now u g ca cl cc r cf W pt pc (some Z)):W.cell? ⟨Z,0,none⟩=some (.int .i64 0)∧W.cell? ⟨Z,1,none⟩=some (.int .i64 0)∧W.cell? ⟨Z,2,none⟩=some (.int .i64 0)∧W.cell? ⟨Z,3,none⟩=some (.int .i64 0)∧W.cell? ⟨Z,4,none⟩=some (.int .i64 0)∧W.cell? ⟨Z,5,none⟩=some (.int .i64 0)∧W.cell? ⟨Z,6,none⟩=some (.int .i64 0)∧(∀ o,W.frozen? ⟨Z,o,none⟩=false)∧X ≠ Z∧Z ≠ X∧X + 1 ≠ Z∧Z ≠ X + 1:=by
  obtain ⟨hz,hx,hw⟩:=h.bz Z rfl
  exact ⟨hz.at0 0 _ rfl,hz.at0 1 _ rfl,hz.at0 2 _ rfl,hz.at0 3 _ rfl,hz.at0 4 _ rfl,hz.at0 5 _ rfl,hz.at0 6 _ rfl,hz.frz,by omega,by omega,by omega,by omega⟩
theorem TS.drbox {w:World} {X:Nat} {a:Option Addr} {len cap:Nat} {l:List Nd} {now:Int} {u g:Int} {ca:Option Addr} {cl cc:Nat} {r:Bool} {cf:Nat→Int} {W:World} {pt pc pz:Option Nat} (h:TS w X a len cap l now u g ca cl cc r cf W pt pc pz):TS w X a len cap l now u g ca cl cc r cf (W.drew.alloc (.cells #[.int .i64 0,.int .i64 0,.int .i64 0,.int .i64 0,.int .i64 0,.int .i64 0,.int .i64 0] 47)) pt pc (some W.heap.size):=h.drew.box
/-- The first answer lies in its box. -/
structure TF (w:World) (X:Nat) (a:Option Addr) (len cap:Nat) (l:List Nd) (now:Int) (u g:Int) (ca:Option Addr) (cl cc:Nat) (r:Bool) (cf:Nat→Int) (F:So) (W:World) (Z:Nat):Prop where
  bel:Below w.heap.size w W
  l0:BoxR W X [.slice a len cap,.int .i64 now]
  l1:BoxR W (X + 1) [.int .i64 u,.int .i64 g,.slice ca cl cc,.bool r]
  bz:BoxR W Z [.int .i64 F.n,.int .i64 F.k,.int .i64 F.mo,.int .i64 F.ow,.int .i64 F.gr,.int .i64 F.li,.int .i64 F.c]
theorem TS.fin2 {w:World} {X:Nat} {a:Option Addr} {len cap:Nat} {l:List Nd} {now:Int} {u g:Int} {ca:Option Addr} {cl cc:Nat} {r:Bool} {cf:Nat→Int} {W:World} {pt pc pz:Option Nat} (h:TS w X a len cap l now u g ca cl cc r cf W pt pc pz) (F:So):TF w X a len cap l now u g ca cl cc r cf F (W.alloc (.cells #[.int .i64 F.n,.int .i64 F.k,.int .i64 F.mo,.int .i64 F.ow,.int .i64 F.gr,.int .i64 F.li,.int .i64 F.c] 47)) W.heap.size:=by
  have h2:=h.below (bel_alloc W (.cells #[.int .i64 F.n,.int .i64 F.k,.int .i64 F.mo,.int .i64 F.ow,.int .i64 F.gr,.int .i64 F.li,.int .i64 F.c] 47))
  exact ⟨h2.bel,h2.l0,h2.l1,boxR_new W [.int .i64 F.n,.int .i64 F.k,.int .i64 F.mo,.int .i64 F.ow,.int .i64 F.gr,.int .i64 F.li,.int .i64 F.c] 47⟩
theorem TS.fin1 {w:World} {X:Nat} {a:Option Addr} {len cap:Nat} {l:List Nd} {now:Int} {u g:Int} {ca:Option Addr} {cl cc:Nat} {r:Bool} {cf:Nat→Int} {W:World} {pt pc:Option Nat} {Z:Nat} (h:TS w X a len cap l now u g ca cl cc r cf W pt pc (some Z)) (F:So):TF w X a len cap l now u g ca cl cc r cf F (((((((W.setCell ⟨Z,0,none⟩ (.int .i64 F.n)).setCell ⟨Z,1,none⟩ (.int .i64 F.k)).setCell ⟨Z,2,none⟩ (.int .i64 F.mo)).setCell ⟨Z,3,none⟩ (.int .i64 F.ow)).setCell ⟨Z,4,none⟩ (.int .i64 F.gr)).setCell ⟨Z,5,none⟩ (.int .i64 F.li)).setCell ⟨Z,6,none⟩ (.int .i64 F.c)) Z:=by
  obtain ⟨hz,hx,hw⟩:=h.bz Z rfl
  have hs:=(((((((hz.set 0 (by simp) (.int .i64 F.n)).set 1 (by simp) (.int .i64 F.k)).set 2 (by simp) (.int .i64 F.mo)).set 3 (by simp) (.int .i64 F.ow)).set 4 (by simp) (.int .i64 F.gr)).set 5 (by simp) (.int .i64 F.li)).set 6 (by simp) (.int .i64 F.c))
  refine ⟨(bl_setT (bl_setT (bl_setT (bl_setT (bl_setT (bl_setT (bl_setT h.bel hw) hw) hw) hw) hw) hw) hw),(((((((h.l0.other ?_).other ?_).other ?_).other ?_).other ?_).other ?_).other ?_),(((((((h.l1.other ?_).other ?_).other ?_).other ?_).other ?_).other ?_).other ?_),⟨hs.lt,hs.at0⟩⟩ <;> omega
end Go.Proofs.YtabfdidnjibdeaaGreatDoor
/- The law FnExactStat. -/
namespace Go.Proofs.YtabfdidnjibdeaaGreatDoor
open Go.RowKit Go.PlainAid Go.Deep
set_option linter.unusedVariables false
set_option maxRecDepth 20000 in
set_option maxHeartbeats 16000000 in
theorem stat_any (a:Option Addr) (len cap:Nat) (l:List Nd) (now:Int) (u g:Int) (ca:Option Addr) (cl cc:Nat) (r:Bool) (cf:Nat→Int) (s:ByteArray) (fo:Bool) (m:Int) (e1 e2 e3 e4:Addr) (hm:len≤9223372036854775807) (hf:∀ i,i < len→NdFit 9223372036854775807 (ndAt l i)) (hmc:cl≤9223372036854775807) (hsx:s.size≤9223372036854775807) (w:World) (hi:Nds a len l w) (hci:Ints ca cl cf w) (hmx:w.cell? ⟨4,0,none⟩=some (.int .i64 m)) (hE:Errs w e1 e2 e3 e4) :
    Calls Tryz.prog 6 #[.agg #[.slice a len cap,.int .i64 now],.agg #[.int .i64 u,.int .i64 g,.slice ca cl cc,.bool r],.string s,.bool fo] w fun e w' => e=.returned (.bool true)∧Below w.heap.size w w':=by
  have HI0:Hid (Nds a len l w):=hi
  have HF0:Hid (∀ i,i < len→NdFit 9223372036854775807 (ndAt l i)):=hf
  have HI1:Hid (Ints ca cl cf w):=hci
  have HEr:Hid (Errs w e1 e2 e3 e4):=hE
  have HMx:Hid (w.cell? ⟨4,0,none⟩=some (.int .i64 m)):=hmx
  clear hi hf hci hE hmx
  have HB:Hid (Below w.heap.size w ((w.alloc (.cells #[.slice a len cap,.int .i64 now] 24)).alloc (.cells #[.int .i64 u,.int .i64 g,.slice ca cl cc,.bool r] 27))):=bl2T _ _ _
  have HL0:Hid (BoxR ((w.alloc (.cells #[.slice a len cap,.int .i64 now] 24)).alloc (.cells #[.int .i64 u,.int .i64 g,.slice ca cl cc,.bool r] 27)) w.heap.size [.slice a len cap,.int .i64 now]):=(boxR_new w [.slice a len cap,.int .i64 now] 24).below (bel_alloc _ _)
  have HL1:Hid (BoxR ((w.alloc (.cells #[.slice a len cap,.int .i64 now] 24)).alloc (.cells #[.int .i64 u,.int .i64 g,.slice ca cl cc,.bool r] 27)) (w.heap.size + 1) [.int .i64 u,.int .i64 g,.slice ca cl cc,.bool r]):=(by
    have h:=boxR_new (w.alloc (.cells #[.slice a len cap,.int .i64 now] 24)) [.int .i64 u,.int .i64 g,.slice ca cl cc,.bool r] 27
    simp only [World.size_alloc] at h
    exact h)
  go_enter Tryz.func6,Tryz.ntmps6
  go_upto_region 1 with fail
  generalize ((w.alloc (.cells #[.slice a len cap,.int .i64 now] 24)).alloc (.cells #[.int .i64 u,.int .i64 g,.slice ca cl cc,.bool r] 27))=w0 at HB HL0 HL1 ⊢
  obtain ⟨X,hX⟩:∃ X,X=w.heap.size:=⟨_,rfl⟩
  have HXw:Hid (X=w.heap.size):=hX
  rw [← hX] at HL0 HL1 ⊢
  clear hX
  have t0_0:w0.cell? ⟨X,0,none⟩=some (.slice a len cap):=HL0.out.at0 0 _ rfl
  have t0_1:w0.cell? ⟨X,1,none⟩=some (.int .i64 now):=HL0.out.at0 1 _ rfl
  have t1_0:w0.cell? ⟨X + 1,0,none⟩=some (.int .i64 u):=HL1.out.at0 0 _ rfl
  have t1_1:w0.cell? ⟨X + 1,1,none⟩=some (.int .i64 g):=HL1.out.at0 1 _ rfl
  have t1_2:w0.cell? ⟨X + 1,2,none⟩=some (.slice ca cl cc):=HL1.out.at0 2 _ rfl
  have t1_3:w0.cell? ⟨X + 1,3,none⟩=some (.bool r):=HL1.out.at0 3 _ rfl
  by_cases hs:1048576 < s.size
  · have hs' : (1048576 : Int) < (s.size : Int) := by omega
    go_wp2
    go_ret
    exact ⟨rfl,HB.out⟩
  have hs':¬ (1048576:Int) < (s.size:Int):=by omega
  go_wp2_with fail
  refine (szTree_any a len cap l now 1048576 (by omega) (by omega) hm HF0.out _ (HI0.out.below HB.out)).mono ?_
  rintro e w1 ⟨⟨v0,rfl,hv⟩,hb⟩
  replace HB:Hid (Below w.heap.size w w1):=Below.on HB.out hb
  replace HL0:Hid (BoxR w1 X [.slice a len cap,.int .i64 now]):=HL0.out.below hb
  replace HL1:Hid (BoxR w1 (X + 1) [.int .i64 u,.int .i64 g,.slice ca cl cc,.bool r]):=HL1.out.below hb
  replace t0_0:w1.cell? ⟨X,0,none⟩=some (.slice a len cap):=HL0.out.at0 0 _ rfl
  replace t0_1:w1.cell? ⟨X,1,none⟩=some (.int .i64 now):=HL0.out.at0 1 _ rfl
  replace t1_0:w1.cell? ⟨X + 1,0,none⟩=some (.int .i64 u):=HL1.out.at0 0 _ rfl
  replace t1_1:w1.cell? ⟨X + 1,1,none⟩=some (.int .i64 g):=HL1.out.at0 1 _ rfl
  replace t1_2:w1.cell? ⟨X + 1,2,none⟩=some (.slice ca cl cc):=HL1.out.at0 2 _ rfl
  replace t1_3:w1.cell? ⟨X + 1,3,none⟩=some (.bool r):=HL1.out.at0 3 _ rfl
  clear hb
  rcases hv with rfl | ⟨v00,v01,hl0,hsm⟩
  · go_wp2
    go_ret
    exact ⟨rfl,HB.out⟩
  have d0:decide (v0 < 0)=false:=by simp; omega
  have HS0:Hid (∀ i,i < len→NdFit 1048576 (ndAt l i)):=hsm
  clear hsm HF0
  by_cases hcs:v0 - (cl:Int) < 0
  · go_wp2_with fail
    refine (szCredN_long u g ca cl cc r v0 (by omega) (by omega) hcs hmc _).mono ?_
    rintro e w1 ⟨rfl,hb⟩
    replace HB:Hid (Below w.heap.size w w1):=Below.on HB.out hb
    replace HL0:Hid (BoxR w1 X [.slice a len cap,.int .i64 now]):=HL0.out.below hb
    replace HL1:Hid (BoxR w1 (X + 1) [.int .i64 u,.int .i64 g,.slice ca cl cc,.bool r]):=HL1.out.below hb
    replace t0_0:w1.cell? ⟨X,0,none⟩=some (.slice a len cap):=HL0.out.at0 0 _ rfl
    replace t0_1:w1.cell? ⟨X,1,none⟩=some (.int .i64 now):=HL0.out.at0 1 _ rfl
    replace t1_0:w1.cell? ⟨X + 1,0,none⟩=some (.int .i64 u):=HL1.out.at0 0 _ rfl
    replace t1_1:w1.cell? ⟨X + 1,1,none⟩=some (.int .i64 g):=HL1.out.at0 1 _ rfl
    replace t1_2:w1.cell? ⟨X + 1,2,none⟩=some (.slice ca cl cc):=HL1.out.at0 2 _ rfl
    replace t1_3:w1.cell? ⟨X + 1,3,none⟩=some (.bool r):=HL1.out.at0 3 _ rfl
    clear hb
    go_wp2
    go_ret
    exact ⟨rfl,HB.out⟩
  have d1:decide (v0 - (cl:Int) < 0)=false:=by simp; omega
  have hl1:cl≤1048576:=by omega
  go_wp2_with fail
  refine (szCredN_short u g ca cl cc r v0 (by omega) (by omega) (by omega) _).mono ?_
  rintro e w1 ⟨rfl,hb⟩
  replace HB:Hid (Below w.heap.size w w1):=Below.on HB.out hb
  replace HL0:Hid (BoxR w1 X [.slice a len cap,.int .i64 now]):=HL0.out.below hb
  replace HL1:Hid (BoxR w1 (X + 1) [.int .i64 u,.int .i64 g,.slice ca cl cc,.bool r]):=HL1.out.below hb
  replace t0_0:w1.cell? ⟨X,0,none⟩=some (.slice a len cap):=HL0.out.at0 0 _ rfl
  replace t0_1:w1.cell? ⟨X,1,none⟩=some (.int .i64 now):=HL0.out.at0 1 _ rfl
  replace t1_0:w1.cell? ⟨X + 1,0,none⟩=some (.int .i64 u):=HL1.out.at0 0 _ rfl
  replace t1_1:w1.cell? ⟨X + 1,1,none⟩=some (.int .i64 g):=HL1.out.at0 1 _ rfl
  replace t1_2:w1.cell? ⟨X + 1,2,none⟩=some (.slice ca cl cc):=HL1.out.at0 2 _ rfl
  replace t1_3:w1.cell? ⟨X + 1,3,none⟩=some (.bool r):=HL1.out.at0 3 _ rfl
  clear hb hcs
  have HTo:Hid (∀ (V:World) (pt pc pz:Option Nat),TS w X a len cap l now u g ca cl cc r cf V pt pc pz→Calls Tryz.prog 11 #[.agg #[.slice a len cap,.int .i64 now]] V fun e w' => ∃ B,e=.returned (.agg #[.slice (some ⟨B,0,none⟩) len len,.int .i64 now])∧TS w X a len cap l now u g ca cl cc r cf w' (some B) pc pz):=(fun V pt pc pz h => Calls.mono (toTree_any a len cap l now hl0 HS0.out V (HI0.out.below h.bel)) (by
    rintro e w7 ⟨B,rfl,hO,hb7⟩
    have h2:=h.below hb7
    exact ⟨B,rfl,h2.bel,h2.l0,h2.l1,fun B2 e2 => by cases e2; exact hO,h2.oc,h2.bz⟩))
  have HCo:Hid (∀ (V:World) (pt pc pz:Option Nat),TS w X a len cap l now u g ca cl cc r cf V pt pc pz→Calls Tryz.prog 12 #[.agg #[.int .i64 u,.int .i64 g,.slice ca cl cc,.bool r]] V fun e w' => ∃ B,e=.returned (.agg #[.int .i64 u,.int .i64 g,.slice (some ⟨B,0,none⟩) cl cl,.bool r])∧TS w X a len cap l now u g ca cl cc r cf w' pt (some B) pz):=(fun V pt pc pz h => Calls.mono (toCred_any u g ca cl cc r cf hl1 V (HI1.out.below h.bel)) (by
    rintro e w7 ⟨B,rfl,hO,hgeO,hb7⟩
    have h2:=h.below hb7
    exact ⟨B,rfl,h2.bel,h2.l0,h2.l1,h2.ot,fun B2 e2 => by cases e2; exact hO,h2.bz⟩))
  obtain ⟨F,hF⟩:∃ F,F=stF l now u g cl r cf s fo:=⟨_,rfl⟩
  have HSp:Hid (∀ (V:World) (B0 B1:Nat) (pz:Option Nat),TS w X a len cap l now u g ca cl cc r cf V (some B0) (some B1) pz→Calls Tryz.prog 21 #[.agg #[.slice (some ⟨B0,0,none⟩) len len,.int .i64 now],.agg #[.int .i64 u,.int .i64 g,.slice (some ⟨B1,0,none⟩) cl cl,.bool r],.string s,.bool fo] V fun e w' => e=.returned (.agg #[.int .i64 F.n,.int .i64 F.k,.int .i64 F.mo,.int .i64 F.ow,.int .i64 F.gr,.int .i64 F.li,.int .i64 F.c])∧TS w X a len cap l now u g ca cl cc r cf w' (some B0) (some B1) pz):=(fun V B0 B1 pz h => Calls.mono (sStat_any _ len len l now u g _ cl cl r cf s fo hm HS0.out (by omega) V (h.ot _ rfl).nds (h.oc _ rfl)) (by
    rintro e w7 ⟨rfl,hb7⟩
    rw [← hF]
    exact ⟨rfl,h.below hb7⟩))
  have HIm:Hid (∀ (V:World) (E0 E1:Nat),Below w.heap.size w V→OwnN V E0 l len→Ints (some ⟨E1,0,none⟩) cl cf V→Calls Tryz.prog 22 #[.agg #[.slice (some ⟨E0,0,none⟩) len len,.int .i64 now],.agg #[.int .i64 u,.int .i64 g,.slice (some ⟨E1,0,none⟩) cl cl,.bool r],.string s,.bool fo] V fun e w' => e=.returned (.agg #[.int .i64 F.n,.int .i64 F.k,.int .i64 F.mo,.int .i64 F.ow,.int .i64 F.gr,.int .i64 F.li,.int .i64 F.c])∧Below V.heap.size V w'):=(fun V E0 E1 hb h0 h1 => Calls.mono (iStat_any _ len len l now u g _ cl cl r cf s fo m e1 e2 e3 e4 hm HS0.out (by omega) V h0.nds h1 ((hb.cell (p:=⟨_,0,none⟩) (block_lt_of_cell HMx.out)).trans HMx.out) (HEr.out.below hb)) (by
    rintro e w7 ⟨rfl,hb7⟩
    rw [← hF]
    exact ⟨rfl,hb7⟩))
  clear hF
  have HWs:Hid (TS w X a len cap l now u g ca cl cc r cf w1 .none .none .none):=⟨HB.out,HL0.out,HL1.out,(fun B e => by cases e),(fun B e => by cases e),(fun B e => by cases e)⟩
  go_upto_region 10 with fail
  go_cut [10] (fun t wx => ∃ Z,t=.pointer (some ⟨Z,0,none⟩)∧Hid (TF w X a len cap l now u g ca cl cc r cf F wx Z))
  case first =>
    clear HIm HB HL0 HL1 HEr HMx
    go_region_held3 (fun w' => w'.cell? ⟨X,0,none⟩=some (.slice a len cap)∧w'.cell? ⟨X,1,none⟩=some (.int .i64 now)∧w'.cell? ⟨X + 1,0,none⟩=some (.int .i64 u)∧w'.cell? ⟨X + 1,1,none⟩=some (.int .i64 g)∧w'.cell? ⟨X + 1,2,none⟩=some (.slice ca cl cc)∧w'.cell? ⟨X + 1,3,none⟩=some (.bool r)) (go_keep)
      (first
        | (go_at_call 21; refine' Calls.mono (HSp.out _ _ _ _ ?hs) ?_; (case hs => (first | exact HWs.out | exact HWs.out.drew | exact HWs.out.box | exact HWs.out.drbox | exact HWs.out.box.drew)); rintro e w7 ⟨rfl,hws⟩; replace HWs:Hid _:=hws; clear hws; replace t0_0:w7.cell? ⟨X,0,none⟩=some (.slice a len cap):=HWs.out.l0.at0 0 _ rfl; replace t0_1:w7.cell? ⟨X,1,none⟩=some (.int .i64 now):=HWs.out.l0.at0 1 _ rfl; replace t1_0:w7.cell? ⟨X + 1,0,none⟩=some (.int .i64 u):=HWs.out.l1.at0 0 _ rfl; replace t1_1:w7.cell? ⟨X + 1,1,none⟩=some (.int .i64 g):=HWs.out.l1.at0 1 _ rfl; replace t1_2:w7.cell? ⟨X + 1,2,none⟩=some (.slice ca cl cc):=HWs.out.l1.at0 2 _ rfl; replace t1_3:w7.cell? ⟨X + 1,3,none⟩=some (.bool r):=HWs.out.l1.at0 3 _ rfl; (try (obtain ⟨z0,z1,z2,z3,z4,z5,z6,fz,nz1,nz2,nz3,nz4⟩:=HWs.out.zc)))
        | (go_at_call_of 11 (Value.slice a len cap); refine' Calls.mono (HTo.out _ _ _ _ ?hs) ?_; (case hs => (first | exact HWs.out | exact HWs.out.drew | exact HWs.out.box | exact HWs.out.drbox | exact HWs.out.box.drew)); rintro e w7 ⟨B0,rfl,hws⟩; replace HWs:Hid _:=hws; clear hws; replace t0_0:w7.cell? ⟨X,0,none⟩=some (.slice a len cap):=HWs.out.l0.at0 0 _ rfl; replace t0_1:w7.cell? ⟨X,1,none⟩=some (.int .i64 now):=HWs.out.l0.at0 1 _ rfl; replace t1_0:w7.cell? ⟨X + 1,0,none⟩=some (.int .i64 u):=HWs.out.l1.at0 0 _ rfl; replace t1_1:w7.cell? ⟨X + 1,1,none⟩=some (.int .i64 g):=HWs.out.l1.at0 1 _ rfl; replace t1_2:w7.cell? ⟨X + 1,2,none⟩=some (.slice ca cl cc):=HWs.out.l1.at0 2 _ rfl; replace t1_3:w7.cell? ⟨X + 1,3,none⟩=some (.bool r):=HWs.out.l1.at0 3 _ rfl)
        | (go_at_call_of 12 (Value.slice ca cl cc); refine' Calls.mono (HCo.out _ _ _ _ ?hs) ?_; (case hs => (first | exact HWs.out | exact HWs.out.drew | exact HWs.out.box | exact HWs.out.drbox | exact HWs.out.box.drew)); rintro e w7 ⟨B1,rfl,hws⟩; replace HWs:Hid _:=hws; clear hws; replace t0_0:w7.cell? ⟨X,0,none⟩=some (.slice a len cap):=HWs.out.l0.at0 0 _ rfl; replace t0_1:w7.cell? ⟨X,1,none⟩=some (.int .i64 now):=HWs.out.l0.at0 1 _ rfl; replace t1_0:w7.cell? ⟨X + 1,0,none⟩=some (.int .i64 u):=HWs.out.l1.at0 0 _ rfl; replace t1_1:w7.cell? ⟨X + 1,1,none⟩=some (.int .i64 g):=HWs.out.l1.at0 1 _ rfl; replace t1_2:w7.cell? ⟨X + 1,2,none⟩=some (.slice ca cl cc):=HWs.out.l1.at0 2 _ rfl; replace t1_3:w7.cell? ⟨X + 1,3,none⟩=some (.bool r):=HWs.out.l1.at0 3 _ rfl))
    all_goals
      go_wp2_with fail
      go_meet
    · exact ⟨_,rfl,HWs.out.fin2 F⟩
    all_goals exact ⟨_,rfl,HWs.out.fin1 F⟩
  case rest =>
  clear HTo HCo HSp HWs
  obtain ⟨Z,rfl,hWF⟩:=hcut
  obtain ⟨wp,hwp⟩:∃ wp,wp=wc:=⟨_,rfl⟩
  subst hwp
  clear HB HL0 HL1 t0_0 t0_1 t1_0 t1_1 t1_2 t1_3
  have HB:Hid (Below w.heap.size w wp):=hWF.out.bel
  have HL0:Hid (BoxR wp X [.slice a len cap,.int .i64 now]):=hWF.out.l0
  have HL1:Hid (BoxR wp (X + 1) [.int .i64 u,.int .i64 g,.slice ca cl cc,.bool r]):=hWF.out.l1
  have HZ:Hid (BoxR wp Z [.int .i64 F.n,.int .i64 F.k,.int .i64 F.mo,.int .i64 F.ow,.int .i64 F.gr,.int .i64 F.li,.int .i64 F.c]):=hWF.out.bz
  clear hWF
  have t0_0:wp.cell? ⟨X,0,none⟩=some (.slice a len cap):=HL0.out.at0 0 _ rfl
  have t0_1:wp.cell? ⟨X,1,none⟩=some (.int .i64 now):=HL0.out.at0 1 _ rfl
  have t1_0:wp.cell? ⟨X + 1,0,none⟩=some (.int .i64 u):=HL1.out.at0 0 _ rfl
  have t1_1:wp.cell? ⟨X + 1,1,none⟩=some (.int .i64 g):=HL1.out.at0 1 _ rfl
  have t1_2:wp.cell? ⟨X + 1,2,none⟩=some (.slice ca cl cc):=HL1.out.at0 2 _ rfl
  have t1_3:wp.cell? ⟨X + 1,3,none⟩=some (.bool r):=HL1.out.at0 3 _ rfl
  go_wp2_with fail
  refine (toTree_any a len cap l now hl0 HS0.out _ (HI0.out.below HB.out)).mono ?_
  rintro e w7 ⟨E0,rfl,hO,hb7⟩
  replace HB:Hid (Below w.heap.size w w7):=Below.on HB.out hb7
  replace HL0:Hid (BoxR w7 X [.slice a len cap,.int .i64 now]):=HL0.out.below hb7
  replace HL1:Hid (BoxR w7 (X + 1) [.int .i64 u,.int .i64 g,.slice ca cl cc,.bool r]):=HL1.out.below hb7
  replace HZ:Hid (BoxR w7 Z [.int .i64 F.n,.int .i64 F.k,.int .i64 F.mo,.int .i64 F.ow,.int .i64 F.gr,.int .i64 F.li,.int .i64 F.c]):=HZ.out.below hb7
  replace t0_0:w7.cell? ⟨X,0,none⟩=some (.slice a len cap):=HL0.out.at0 0 _ rfl
  replace t0_1:w7.cell? ⟨X,1,none⟩=some (.int .i64 now):=HL0.out.at0 1 _ rfl
  replace t1_0:w7.cell? ⟨X + 1,0,none⟩=some (.int .i64 u):=HL1.out.at0 0 _ rfl
  replace t1_1:w7.cell? ⟨X + 1,1,none⟩=some (.int .i64 g):=HL1.out.at0 1 _ rfl
  replace t1_2:w7.cell? ⟨X + 1,2,none⟩=some (.slice ca cl cc):=HL1.out.at0 2 _ rfl
  replace t1_3:w7.cell? ⟨X + 1,3,none⟩=some (.bool r):=HL1.out.at0 3 _ rfl
  have hbN:Below w7.heap.size w7 (w7.alloc (.cells #[.slice (some ⟨E0,0,none⟩) len len,.int .i64 now] 35)):=bel_alloc _ _
  have HY0:Hid (BoxR (w7.alloc (.cells #[.slice (some ⟨E0,0,none⟩) len len,.int .i64 now] 35)) w7.heap.size [.slice (some ⟨E0,0,none⟩) len len,.int .i64 now]):=boxR_new _ _ _
  have HP0:Hid (OwnN (w7.alloc (.cells #[.slice (some ⟨E0,0,none⟩) len len,.int .i64 now] 35)) E0 l len):=hO.below hbN
  clear t0_0 t0_1 t1_0 t1_1 t1_2 t1_3
  replace HB:Hid (Below w.heap.size w (w7.alloc (.cells #[.slice (some ⟨E0,0,none⟩) len len,.int .i64 now] 35))):=Below.on HB.out hbN
  replace HL0:Hid (BoxR (w7.alloc (.cells #[.slice (some ⟨E0,0,none⟩) len len,.int .i64 now] 35)) X [.slice a len cap,.int .i64 now]):=HL0.out.below hbN
  replace HL1:Hid (BoxR (w7.alloc (.cells #[.slice (some ⟨E0,0,none⟩) len len,.int .i64 now] 35)) (X + 1) [.int .i64 u,.int .i64 g,.slice ca cl cc,.bool r]):=HL1.out.below hbN
  replace HZ:Hid (BoxR (w7.alloc (.cells #[.slice (some ⟨E0,0,none⟩) len len,.int .i64 now] 35)) Z [.int .i64 F.n,.int .i64 F.k,.int .i64 F.mo,.int .i64 F.ow,.int .i64 F.gr,.int .i64 F.li,.int .i64 F.c]):=HZ.out.below hbN
  clear hbN hb7 hO
  go_upto_region 12 with fail
  generalize (w7.alloc (.cells #[.slice (some ⟨E0,0,none⟩) len len,.int .i64 now] 35))=w8 at HB HL0 HL1 HZ HY0 HP0 ⊢
  generalize w7.heap.size=Y0 at HY0 ⊢
  have t0_0:w8.cell? ⟨X,0,none⟩=some (.slice a len cap):=HL0.out.at0 0 _ rfl
  have t0_1:w8.cell? ⟨X,1,none⟩=some (.int .i64 now):=HL0.out.at0 1 _ rfl
  have t1_0:w8.cell? ⟨X + 1,0,none⟩=some (.int .i64 u):=HL1.out.at0 0 _ rfl
  have t1_1:w8.cell? ⟨X + 1,1,none⟩=some (.int .i64 g):=HL1.out.at0 1 _ rfl
  have t1_2:w8.cell? ⟨X + 1,2,none⟩=some (.slice ca cl cc):=HL1.out.at0 2 _ rfl
  have t1_3:w8.cell? ⟨X + 1,3,none⟩=some (.bool r):=HL1.out.at0 3 _ rfl
  go_wp2_with fail
  refine (toCred_any u g ca cl cc r cf hl1 _ (HI1.out.below HB.out)).mono ?_
  rintro e w7 ⟨E1,rfl,hO,hgeO,hb7⟩
  replace HB:Hid (Below w.heap.size w w7):=Below.on HB.out hb7
  replace HL0:Hid (BoxR w7 X [.slice a len cap,.int .i64 now]):=HL0.out.below hb7
  replace HL1:Hid (BoxR w7 (X + 1) [.int .i64 u,.int .i64 g,.slice ca cl cc,.bool r]):=HL1.out.below hb7
  replace HZ:Hid (BoxR w7 Z [.int .i64 F.n,.int .i64 F.k,.int .i64 F.mo,.int .i64 F.ow,.int .i64 F.gr,.int .i64 F.li,.int .i64 F.c]):=HZ.out.below hb7
  replace HY0:Hid (BoxR w7 Y0 [.slice (some ⟨E0,0,none⟩) len len,.int .i64 now]):=HY0.out.below hb7
  replace HP0:Hid (OwnN w7 E0 l len):=HP0.out.below hb7
  replace t0_0:w7.cell? ⟨X,0,none⟩=some (.slice a len cap):=HL0.out.at0 0 _ rfl
  replace t0_1:w7.cell? ⟨X,1,none⟩=some (.int .i64 now):=HL0.out.at0 1 _ rfl
  replace t1_0:w7.cell? ⟨X + 1,0,none⟩=some (.int .i64 u):=HL1.out.at0 0 _ rfl
  replace t1_1:w7.cell? ⟨X + 1,1,none⟩=some (.int .i64 g):=HL1.out.at0 1 _ rfl
  replace t1_2:w7.cell? ⟨X + 1,2,none⟩=some (.slice ca cl cc):=HL1.out.at0 2 _ rfl
  replace t1_3:w7.cell? ⟨X + 1,3,none⟩=some (.bool r):=HL1.out.at0 3 _ rfl
  have hbN:Below w7.heap.size w7 (w7.alloc (.cells #[.int .i64 u,.int .i64 g,.slice (some ⟨E1,0,none⟩) cl cl,.bool r] 37)):=bel_alloc _ _
  have HY1:Hid (BoxR (w7.alloc (.cells #[.int .i64 u,.int .i64 g,.slice (some ⟨E1,0,none⟩) cl cl,.bool r] 37)) w7.heap.size [.int .i64 u,.int .i64 g,.slice (some ⟨E1,0,none⟩) cl cl,.bool r]):=boxR_new _ _ _
  have HP1:Hid (Ints (some ⟨E1,0,none⟩) cl cf (w7.alloc (.cells #[.int .i64 u,.int .i64 g,.slice (some ⟨E1,0,none⟩) cl cl,.bool r] 37))):=hO.below hbN
  clear t0_0 t0_1 t1_0 t1_1 t1_2 t1_3
  replace HB:Hid (Below w.heap.size w (w7.alloc (.cells #[.int .i64 u,.int .i64 g,.slice (some ⟨E1,0,none⟩) cl cl,.bool r] 37))):=Below.on HB.out hbN
  replace HL0:Hid (BoxR (w7.alloc (.cells #[.int .i64 u,.int .i64 g,.slice (some ⟨E1,0,none⟩) cl cl,.bool r] 37)) X [.slice a len cap,.int .i64 now]):=HL0.out.below hbN
  replace HL1:Hid (BoxR (w7.alloc (.cells #[.int .i64 u,.int .i64 g,.slice (some ⟨E1,0,none⟩) cl cl,.bool r] 37)) (X + 1) [.int .i64 u,.int .i64 g,.slice ca cl cc,.bool r]):=HL1.out.below hbN
  replace HZ:Hid (BoxR (w7.alloc (.cells #[.int .i64 u,.int .i64 g,.slice (some ⟨E1,0,none⟩) cl cl,.bool r] 37)) Z [.int .i64 F.n,.int .i64 F.k,.int .i64 F.mo,.int .i64 F.ow,.int .i64 F.gr,.int .i64 F.li,.int .i64 F.c]):=HZ.out.below hbN
  replace HY0:Hid (BoxR (w7.alloc (.cells #[.int .i64 u,.int .i64 g,.slice (some ⟨E1,0,none⟩) cl cl,.bool r] 37)) Y0 [.slice (some ⟨E0,0,none⟩) len len,.int .i64 now]):=HY0.out.below hbN
  replace HP0:Hid (OwnN (w7.alloc (.cells #[.int .i64 u,.int .i64 g,.slice (some ⟨E1,0,none⟩) cl cl,.bool r] 37)) E0 l len):=HP0.out.below hbN
  clear hbN hb7 hO
  go_upto_region 13 with fail
  generalize (w7.alloc (.cells #[.int .i64 u,.int .i64 g,.slice (some ⟨E1,0,none⟩) cl cl,.bool r] 37))=w8 at HB HL0 HL1 HZ HY0 HP0 HY1 HP1 ⊢
  generalize w7.heap.size=Y1 at HY1 ⊢
  have t0_0:w8.cell? ⟨X,0,none⟩=some (.slice a len cap):=HL0.out.at0 0 _ rfl
  have t0_1:w8.cell? ⟨X,1,none⟩=some (.int .i64 now):=HL0.out.at0 1 _ rfl
  have t1_0:w8.cell? ⟨X + 1,0,none⟩=some (.int .i64 u):=HL1.out.at0 0 _ rfl
  have t1_1:w8.cell? ⟨X + 1,1,none⟩=some (.int .i64 g):=HL1.out.at0 1 _ rfl
  have t1_2:w8.cell? ⟨X + 1,2,none⟩=some (.slice ca cl cc):=HL1.out.at0 2 _ rfl
  have t1_3:w8.cell? ⟨X + 1,3,none⟩=some (.bool r):=HL1.out.at0 3 _ rfl
  have y0_0:w8.cell? ⟨Y0,0,none⟩=some (.slice (some ⟨E0,0,none⟩) len len):=HY0.out.at0 0 _ rfl
  have y0_1:w8.cell? ⟨Y0,1,none⟩=some (.int .i64 now):=HY0.out.at0 1 _ rfl
  have y1_0:w8.cell? ⟨Y1,0,none⟩=some (.int .i64 u):=HY1.out.at0 0 _ rfl
  have y1_1:w8.cell? ⟨Y1,1,none⟩=some (.int .i64 g):=HY1.out.at0 1 _ rfl
  have y1_2:w8.cell? ⟨Y1,2,none⟩=some (.slice (some ⟨E1,0,none⟩) cl cl):=HY1.out.at0 2 _ rfl
  have y1_3:w8.cell? ⟨Y1,3,none⟩=some (.bool r):=HY1.out.at0 3 _ rfl
  go_wp2_with fail
  refine (HIm.out _ _ _ HB.out HP0.out HP1.out).mono ?_
  rintro e w7 ⟨rfl,hb7⟩
  replace HB:Hid (Below w.heap.size w w7):=Below.on HB.out hb7
  replace HL0:Hid (BoxR w7 X [.slice a len cap,.int .i64 now]):=HL0.out.below hb7
  replace HL1:Hid (BoxR w7 (X + 1) [.int .i64 u,.int .i64 g,.slice ca cl cc,.bool r]):=HL1.out.below hb7
  replace HZ:Hid (BoxR w7 Z [.int .i64 F.n,.int .i64 F.k,.int .i64 F.mo,.int .i64 F.ow,.int .i64 F.gr,.int .i64 F.li,.int .i64 F.c]):=HZ.out.below hb7
  replace HY0:Hid (BoxR w7 Y0 [.slice (some ⟨E0,0,none⟩) len len,.int .i64 now]):=HY0.out.below hb7
  replace HP0:Hid (OwnN w7 E0 l len):=HP0.out.below hb7
  replace HY1:Hid (BoxR w7 Y1 [.int .i64 u,.int .i64 g,.slice (some ⟨E1,0,none⟩) cl cl,.bool r]):=HY1.out.below hb7
  replace HP1:Hid (Ints (some ⟨E1,0,none⟩) cl cf w7):=HP1.out.below hb7
  replace t0_0:w7.cell? ⟨X,0,none⟩=some (.slice a len cap):=HL0.out.at0 0 _ rfl
  replace t0_1:w7.cell? ⟨X,1,none⟩=some (.int .i64 now):=HL0.out.at0 1 _ rfl
  replace t1_0:w7.cell? ⟨X + 1,0,none⟩=some (.int .i64 u):=HL1.out.at0 0 _ rfl
  replace t1_1:w7.cell? ⟨X + 1,1,none⟩=some (.int .i64 g):=HL1.out.at0 1 _ rfl
  replace t1_2:w7.cell? ⟨X + 1,2,none⟩=some (.slice ca cl cc):=HL1.out.at0 2 _ rfl
  replace t1_3:w7.cell? ⟨X + 1,3,none⟩=some (.bool r):=HL1.out.at0 3 _ rfl
  have hbN:Below w7.heap.size w7 (w7.alloc (.cells #[.int .i64 F.n,.int .i64 F.k,.int .i64 F.mo,.int .i64 F.ow,.int .i64 F.gr,.int .i64 F.li,.int .i64 F.c] 47)):=bel_alloc _ _
  have HU:Hid (BoxR (w7.alloc (.cells #[.int .i64 F.n,.int .i64 F.k,.int .i64 F.mo,.int .i64 F.ow,.int .i64 F.gr,.int .i64 F.li,.int .i64 F.c] 47)) w7.heap.size [.int .i64 F.n,.int .i64 F.k,.int .i64 F.mo,.int .i64 F.ow,.int .i64 F.gr,.int .i64 F.li,.int .i64 F.c]):=boxR_new _ _ _
  clear t0_0 t0_1 t1_0 t1_1 t1_2 t1_3 y0_0 y0_1 y1_0 y1_1 y1_2 y1_3
  replace HB:Hid (Below w.heap.size w (w7.alloc (.cells #[.int .i64 F.n,.int .i64 F.k,.int .i64 F.mo,.int .i64 F.ow,.int .i64 F.gr,.int .i64 F.li,.int .i64 F.c] 47))):=Below.on HB.out hbN
  replace HL0:Hid (BoxR (w7.alloc (.cells #[.int .i64 F.n,.int .i64 F.k,.int .i64 F.mo,.int .i64 F.ow,.int .i64 F.gr,.int .i64 F.li,.int .i64 F.c] 47)) X [.slice a len cap,.int .i64 now]):=HL0.out.below hbN
  replace HL1:Hid (BoxR (w7.alloc (.cells #[.int .i64 F.n,.int .i64 F.k,.int .i64 F.mo,.int .i64 F.ow,.int .i64 F.gr,.int .i64 F.li,.int .i64 F.c] 47)) (X + 1) [.int .i64 u,.int .i64 g,.slice ca cl cc,.bool r]):=HL1.out.below hbN
  replace HZ:Hid (BoxR (w7.alloc (.cells #[.int .i64 F.n,.int .i64 F.k,.int .i64 F.mo,.int .i64 F.ow,.int .i64 F.gr,.int .i64 F.li,.int .i64 F.c] 47)) Z [.int .i64 F.n,.int .i64 F.k,.int .i64 F.mo,.int .i64 F.ow,.int .i64 F.gr,.int .i64 F.li,.int .i64 F.c]):=HZ.out.below hbN
  replace HY0:Hid (BoxR (w7.alloc (.cells #[.int .i64 F.n,.int .i64 F.k,.int .i64 F.mo,.int .i64 F.ow,.int .i64 F.gr,.int .i64 F.li,.int .i64 F.c] 47)) Y0 [.slice (some ⟨E0,0,none⟩) len len,.int .i64 now]):=HY0.out.below hbN
  replace HP0:Hid (OwnN (w7.alloc (.cells #[.int .i64 F.n,.int .i64 F.k,.int .i64 F.mo,.int .i64 F.ow,.int .i64 F.gr,.int .i64 F.li,.int .i64 F.c] 47)) E0 l len):=HP0.out.below hbN
  replace HY1:Hid (BoxR (w7.alloc (.cells #[.int .i64 F.n,.int .i64 F.k,.int .i64 F.mo,.int .i64 F.ow,.int .i64 F.gr,.int .i64 F.li,.int .i64 F.c] 47)) Y1 [.int .i64 u,.int .i64 g,.slice (some ⟨E1,0,none⟩) cl cl,.bool r]):=HY1.out.below hbN
  replace HP1:Hid (Ints (some ⟨E1,0,none⟩) cl cf (w7.alloc (.cells #[.int .i64 F.n,.int .i64 F.k,.int .i64 F.mo,.int .i64 F.ow,.int .i64 F.gr,.int .i64 F.li,.int .i64 F.c] 47))):=HP1.out.below hbN
  clear hbN hb7 HIm
  go_upto_region 14 with fail
  generalize (w7.alloc (.cells #[.int .i64 F.n,.int .i64 F.k,.int .i64 F.mo,.int .i64 F.ow,.int .i64 F.gr,.int .i64 F.li,.int .i64 F.c] 47))=w8 at HB HL0 HL1 HZ HY0 HP0 HY1 HP1 HU ⊢
  generalize w7.heap.size=U at HU ⊢
  have t0_0:w8.cell? ⟨X,0,none⟩=some (.slice a len cap):=HL0.out.at0 0 _ rfl
  have t0_1:w8.cell? ⟨X,1,none⟩=some (.int .i64 now):=HL0.out.at0 1 _ rfl
  have t1_0:w8.cell? ⟨X + 1,0,none⟩=some (.int .i64 u):=HL1.out.at0 0 _ rfl
  have t1_1:w8.cell? ⟨X + 1,1,none⟩=some (.int .i64 g):=HL1.out.at0 1 _ rfl
  have t1_2:w8.cell? ⟨X + 1,2,none⟩=some (.slice ca cl cc):=HL1.out.at0 2 _ rfl
  have t1_3:w8.cell? ⟨X + 1,3,none⟩=some (.bool r):=HL1.out.at0 3 _ rfl
  have y0_0:w8.cell? ⟨Y0,0,none⟩=some (.slice (some ⟨E0,0,none⟩) len len):=HY0.out.at0 0 _ rfl
  have y0_1:w8.cell? ⟨Y0,1,none⟩=some (.int .i64 now):=HY0.out.at0 1 _ rfl
  have y1_0:w8.cell? ⟨Y1,0,none⟩=some (.int .i64 u):=HY1.out.at0 0 _ rfl
  have y1_1:w8.cell? ⟨Y1,1,none⟩=some (.int .i64 g):=HY1.out.at0 1 _ rfl
  have y1_2:w8.cell? ⟨Y1,2,none⟩=some (.slice (some ⟨E1,0,none⟩) cl cl):=HY1.out.at0 2 _ rfl
  have y1_3:w8.cell? ⟨Y1,3,none⟩=some (.bool r):=HY1.out.at0 3 _ rfl
  have z0:w8.cell? ⟨Z,0,none⟩=some (.int .i64 F.n):=HZ.out.at0 0 _ rfl
  have z1:w8.cell? ⟨Z,1,none⟩=some (.int .i64 F.k):=HZ.out.at0 1 _ rfl
  have z2:w8.cell? ⟨Z,2,none⟩=some (.int .i64 F.mo):=HZ.out.at0 2 _ rfl
  have z3:w8.cell? ⟨Z,3,none⟩=some (.int .i64 F.ow):=HZ.out.at0 3 _ rfl
  have z4:w8.cell? ⟨Z,4,none⟩=some (.int .i64 F.gr):=HZ.out.at0 4 _ rfl
  have z5:w8.cell? ⟨Z,5,none⟩=some (.int .i64 F.li):=HZ.out.at0 5 _ rfl
  have z6:w8.cell? ⟨Z,6,none⟩=some (.int .i64 F.c):=HZ.out.at0 6 _ rfl
  have q0:w8.cell? ⟨U,0,none⟩=some (.int .i64 F.n):=HU.out.at0 0 _ rfl
  have q1:w8.cell? ⟨U,1,none⟩=some (.int .i64 F.k):=HU.out.at0 1 _ rfl
  have q2:w8.cell? ⟨U,2,none⟩=some (.int .i64 F.mo):=HU.out.at0 2 _ rfl
  have q3:w8.cell? ⟨U,3,none⟩=some (.int .i64 F.ow):=HU.out.at0 3 _ rfl
  have q4:w8.cell? ⟨U,4,none⟩=some (.int .i64 F.gr):=HU.out.at0 4 _ rfl
  have q5:w8.cell? ⟨U,5,none⟩=some (.int .i64 F.li):=HU.out.at0 5 _ rfl
  have q6:w8.cell? ⟨U,6,none⟩=some (.int .i64 F.c):=HU.out.at0 6 _ rfl
  go_wp2_with fail
  refine (eqStatOut_any F _).mono ?_
  rintro e w9 ⟨rfl,hb⟩
  clear z0 z1 z2 z3 z4 z5 z6 q0 q1 q2 q3 q4 q5 q6
  clear HZ HU
  replace HB:Hid (Below w.heap.size w w9):=Below.on HB.out hb
  replace HL0:Hid (BoxR w9 X [.slice a len cap,.int .i64 now]):=HL0.out.below hb
  replace HL1:Hid (BoxR w9 (X + 1) [.int .i64 u,.int .i64 g,.slice ca cl cc,.bool r]):=HL1.out.below hb
  replace HY0:Hid (BoxR w9 Y0 [.slice (some ⟨E0,0,none⟩) len len,.int .i64 now]):=HY0.out.below hb
  replace HP0:Hid (OwnN w9 E0 l len):=HP0.out.below hb
  replace HY1:Hid (BoxR w9 Y1 [.int .i64 u,.int .i64 g,.slice (some ⟨E1,0,none⟩) cl cl,.bool r]):=HY1.out.below hb
  replace HP1:Hid (Ints (some ⟨E1,0,none⟩) cl cf w9):=HP1.out.below hb
  replace t0_0:w9.cell? ⟨X,0,none⟩=some (.slice a len cap):=HL0.out.at0 0 _ rfl
  replace t0_1:w9.cell? ⟨X,1,none⟩=some (.int .i64 now):=HL0.out.at0 1 _ rfl
  replace t1_0:w9.cell? ⟨X + 1,0,none⟩=some (.int .i64 u):=HL1.out.at0 0 _ rfl
  replace t1_1:w9.cell? ⟨X + 1,1,none⟩=some (.int .i64 g):=HL1.out.at0 1 _ rfl
  replace t1_2:w9.cell? ⟨X + 1,2,none⟩=some (.slice ca cl cc):=HL1.out.at0 2 _ rfl
  replace t1_3:w9.cell? ⟨X + 1,3,none⟩=some (.bool r):=HL1.out.at0 3 _ rfl
  replace y0_0:w9.cell? ⟨Y0,0,none⟩=some (.slice (some ⟨E0,0,none⟩) len len):=HY0.out.at0 0 _ rfl
  replace y0_1:w9.cell? ⟨Y0,1,none⟩=some (.int .i64 now):=HY0.out.at0 1 _ rfl
  replace y1_0:w9.cell? ⟨Y1,0,none⟩=some (.int .i64 u):=HY1.out.at0 0 _ rfl
  replace y1_1:w9.cell? ⟨Y1,1,none⟩=some (.int .i64 g):=HY1.out.at0 1 _ rfl
  replace y1_2:w9.cell? ⟨Y1,2,none⟩=some (.slice (some ⟨E1,0,none⟩) cl cl):=HY1.out.at0 2 _ rfl
  replace y1_3:w9.cell? ⟨Y1,3,none⟩=some (.bool r):=HY1.out.at0 3 _ rfl
  clear hb
  go_upto_region 16 with fail
  go_cut [51] (fun t wx => t=.bool false∧Hid (Below w.heap.size w wx)∧Hid (BoxR wx X [.slice a len cap,.int .i64 now])∧Hid (BoxR wx (X + 1) [.int .i64 u,.int .i64 g,.slice ca cl cc,.bool r])∧Hid (BoxR wx Y0 [.slice (some ⟨E0,0,none⟩) len len,.int .i64 now])∧Hid (OwnN wx E0 l len)∧Hid (BoxR wx Y1 [.int .i64 u,.int .i64 g,.slice (some ⟨E1,0,none⟩) cl cl,.bool r])∧Hid (Ints (some ⟨E1,0,none⟩) cl cf wx))
  case first =>
    go_region_held3 (fun w' => w'.cell? ⟨Y0,0,none⟩=some (.slice (some ⟨E0,0,none⟩) len len)∧w'.cell? ⟨Y0,1,none⟩=some (.int .i64 now)∧w'.cell? ⟨X,0,none⟩=some (.slice a len cap)∧w'.cell? ⟨X,1,none⟩=some (.int .i64 now)) (go_keep)
      (first
        | (go_at_call 15; refine Calls.mono (eqTree_any _ _ len len len l now hl0 HS0.out _ HP0.out.nds HQ.out.nds) ?_; rintro e w9 ⟨rfl,hb⟩; replace HB:Hid (Below w.heap.size w w9):=Below.on HB.out hb; replace HL0:Hid (BoxR w9 X [.slice a len cap,.int .i64 now]):=HL0.out.below hb; replace HL1:Hid (BoxR w9 (X + 1) [.int .i64 u,.int .i64 g,.slice ca cl cc,.bool r]):=HL1.out.below hb; replace HY0:Hid (BoxR w9 Y0 [.slice (some ⟨E0,0,none⟩) len len,.int .i64 now]):=HY0.out.below hb; replace HP0:Hid (OwnN w9 E0 l len):=HP0.out.below hb; replace HY1:Hid (BoxR w9 Y1 [.int .i64 u,.int .i64 g,.slice (some ⟨E1,0,none⟩) cl cl,.bool r]):=HY1.out.below hb; replace HP1:Hid (Ints (some ⟨E1,0,none⟩) cl cf w9):=HP1.out.below hb; replace t0_0:w9.cell? ⟨X,0,none⟩=some (.slice a len cap):=HL0.out.at0 0 _ rfl; replace t0_1:w9.cell? ⟨X,1,none⟩=some (.int .i64 now):=HL0.out.at0 1 _ rfl; replace t1_0:w9.cell? ⟨X + 1,0,none⟩=some (.int .i64 u):=HL1.out.at0 0 _ rfl; replace t1_1:w9.cell? ⟨X + 1,1,none⟩=some (.int .i64 g):=HL1.out.at0 1 _ rfl; replace t1_2:w9.cell? ⟨X + 1,2,none⟩=some (.slice ca cl cc):=HL1.out.at0 2 _ rfl; replace t1_3:w9.cell? ⟨X + 1,3,none⟩=some (.bool r):=HL1.out.at0 3 _ rfl; replace y0_0:w9.cell? ⟨Y0,0,none⟩=some (.slice (some ⟨E0,0,none⟩) len len):=HY0.out.at0 0 _ rfl; replace y0_1:w9.cell? ⟨Y0,1,none⟩=some (.int .i64 now):=HY0.out.at0 1 _ rfl; replace y1_0:w9.cell? ⟨Y1,0,none⟩=some (.int .i64 u):=HY1.out.at0 0 _ rfl; replace y1_1:w9.cell? ⟨Y1,1,none⟩=some (.int .i64 g):=HY1.out.at0 1 _ rfl; replace y1_2:w9.cell? ⟨Y1,2,none⟩=some (.slice (some ⟨E1,0,none⟩) cl cl):=HY1.out.at0 2 _ rfl; replace y1_3:w9.cell? ⟨Y1,3,none⟩=some (.bool r):=HY1.out.at0 3 _ rfl; clear hb HQ)
        | (go_at_call 11; refine Calls.mono (toTree_any a len cap l now hl0 HS0.out _ ?hs) ?_; (case hs => (first | exact HI0.out.below HB.out | exact HI0.out.below (below_drewT HB.out))); rintro e w7 ⟨Q,rfl,hO,hb7⟩; replace HB:Hid (Below w.heap.size w w7):=Below.on HB.out ⟨hb7.os,hb7.tape,hb7.output,hb7.size,hb7.block⟩; replace HL0:Hid (BoxR w7 X [.slice a len cap,.int .i64 now]):=HL0.out.below ⟨hb7.os,hb7.tape,hb7.output,hb7.size,hb7.block⟩; replace HL1:Hid (BoxR w7 (X + 1) [.int .i64 u,.int .i64 g,.slice ca cl cc,.bool r]):=HL1.out.below ⟨hb7.os,hb7.tape,hb7.output,hb7.size,hb7.block⟩; replace HY0:Hid (BoxR w7 Y0 [.slice (some ⟨E0,0,none⟩) len len,.int .i64 now]):=HY0.out.below ⟨hb7.os,hb7.tape,hb7.output,hb7.size,hb7.block⟩; replace HP0:Hid (OwnN w7 E0 l len):=HP0.out.below ⟨hb7.os,hb7.tape,hb7.output,hb7.size,hb7.block⟩; replace HY1:Hid (BoxR w7 Y1 [.int .i64 u,.int .i64 g,.slice (some ⟨E1,0,none⟩) cl cl,.bool r]):=HY1.out.below ⟨hb7.os,hb7.tape,hb7.output,hb7.size,hb7.block⟩; replace HP1:Hid (Ints (some ⟨E1,0,none⟩) cl cf w7):=HP1.out.below ⟨hb7.os,hb7.tape,hb7.output,hb7.size,hb7.block⟩; replace t0_0:w7.cell? ⟨X,0,none⟩=some (.slice a len cap):=HL0.out.at0 0 _ rfl; replace t0_1:w7.cell? ⟨X,1,none⟩=some (.int .i64 now):=HL0.out.at0 1 _ rfl; replace t1_0:w7.cell? ⟨X + 1,0,none⟩=some (.int .i64 u):=HL1.out.at0 0 _ rfl; replace t1_1:w7.cell? ⟨X + 1,1,none⟩=some (.int .i64 g):=HL1.out.at0 1 _ rfl; replace t1_2:w7.cell? ⟨X + 1,2,none⟩=some (.slice ca cl cc):=HL1.out.at0 2 _ rfl; replace t1_3:w7.cell? ⟨X + 1,3,none⟩=some (.bool r):=HL1.out.at0 3 _ rfl; replace y0_0:w7.cell? ⟨Y0,0,none⟩=some (.slice (some ⟨E0,0,none⟩) len len):=HY0.out.at0 0 _ rfl; replace y0_1:w7.cell? ⟨Y0,1,none⟩=some (.int .i64 now):=HY0.out.at0 1 _ rfl; replace y1_0:w7.cell? ⟨Y1,0,none⟩=some (.int .i64 u):=HY1.out.at0 0 _ rfl; replace y1_1:w7.cell? ⟨Y1,1,none⟩=some (.int .i64 g):=HY1.out.at0 1 _ rfl; replace y1_2:w7.cell? ⟨Y1,2,none⟩=some (.slice (some ⟨E1,0,none⟩) cl cl):=HY1.out.at0 2 _ rfl; replace y1_3:w7.cell? ⟨Y1,3,none⟩=some (.bool r):=HY1.out.at0 3 _ rfl; have HQ:Hid (OwnN w7 Q l len):=hO; clear hO hb7))
    all_goals go_wp2
    all_goals go_meet
    all_goals exact ⟨rfl,HB,HL0,HL1,HY0,HP0,HY1,HP1⟩
  case rest =>
  obtain ⟨rfl,HBx,HL0x,HL1x,HY0x,HP0x,HY1x,HP1x⟩:=hcut
  obtain ⟨wq,hwq⟩:∃ wq,wq=wc:=⟨_,rfl⟩
  subst hwq
  clear y0_0 y0_1 y1_0 y1_1 y1_2 y1_3 HB HL0 HL1 HY0 HP0 HY1 HP1 t0_0 t0_1 t1_0 t1_1 t1_2 t1_3
  have HB:Hid (Below w.heap.size w wq):=HBx
  have HL0:Hid (BoxR wq X [.slice a len cap,.int .i64 now]):=HL0x
  have HL1:Hid (BoxR wq (X + 1) [.int .i64 u,.int .i64 g,.slice ca cl cc,.bool r]):=HL1x
  have HY0:Hid (BoxR wq Y0 [.slice (some ⟨E0,0,none⟩) len len,.int .i64 now]):=HY0x
  have HP0:Hid (OwnN wq E0 l len):=HP0x
  have HY1:Hid (BoxR wq Y1 [.int .i64 u,.int .i64 g,.slice (some ⟨E1,0,none⟩) cl cl,.bool r]):=HY1x
  have HP1:Hid (Ints (some ⟨E1,0,none⟩) cl cf wq):=HP1x
  clear HBx HL0x HL1x HY0x HP0x HY1x HP1x
  have t0_0:wq.cell? ⟨X,0,none⟩=some (.slice a len cap):=HL0.out.at0 0 _ rfl
  have t0_1:wq.cell? ⟨X,1,none⟩=some (.int .i64 now):=HL0.out.at0 1 _ rfl
  have t1_0:wq.cell? ⟨X + 1,0,none⟩=some (.int .i64 u):=HL1.out.at0 0 _ rfl
  have t1_1:wq.cell? ⟨X + 1,1,none⟩=some (.int .i64 g):=HL1.out.at0 1 _ rfl
  have t1_2:wq.cell? ⟨X + 1,2,none⟩=some (.slice ca cl cc):=HL1.out.at0 2 _ rfl
  have t1_3:wq.cell? ⟨X + 1,3,none⟩=some (.bool r):=HL1.out.at0 3 _ rfl
  have y0_0:wq.cell? ⟨Y0,0,none⟩=some (.slice (some ⟨E0,0,none⟩) len len):=HY0.out.at0 0 _ rfl
  have y0_1:wq.cell? ⟨Y0,1,none⟩=some (.int .i64 now):=HY0.out.at0 1 _ rfl
  have y1_0:wq.cell? ⟨Y1,0,none⟩=some (.int .i64 u):=HY1.out.at0 0 _ rfl
  have y1_1:wq.cell? ⟨Y1,1,none⟩=some (.int .i64 g):=HY1.out.at0 1 _ rfl
  have y1_2:wq.cell? ⟨Y1,2,none⟩=some (.slice (some ⟨E1,0,none⟩) cl cl):=HY1.out.at0 2 _ rfl
  have y1_3:wq.cell? ⟨Y1,3,none⟩=some (.bool r):=HY1.out.at0 3 _ rfl
  go_upto_region 18 with fail
  go_region_held3 (fun w' => w'.cell? ⟨Y1,0,none⟩=some (.int .i64 u)∧w'.cell? ⟨Y1,1,none⟩=some (.int .i64 g)∧w'.cell? ⟨Y1,2,none⟩=some (.slice (some ⟨E1,0,none⟩) cl cl)∧w'.cell? ⟨Y1,3,none⟩=some (.bool r)∧w'.cell? ⟨X + 1,0,none⟩=some (.int .i64 u)∧w'.cell? ⟨X + 1,1,none⟩=some (.int .i64 g)∧w'.cell? ⟨X + 1,2,none⟩=some (.slice ca cl cc)∧w'.cell? ⟨X + 1,3,none⟩=some (.bool r)) (go_keep)
    (first
      | (go_at_call 16; refine Calls.mono (eqCred_any u g _ _ cl cl cl r cf hl1 _ HP1.out HQ.out) ?_; rintro e w9 ⟨rfl,hb⟩; replace HB:Hid (Below w.heap.size w w9):=Below.on HB.out hb; replace HL0:Hid (BoxR w9 X [.slice a len cap,.int .i64 now]):=HL0.out.below hb; replace HL1:Hid (BoxR w9 (X + 1) [.int .i64 u,.int .i64 g,.slice ca cl cc,.bool r]):=HL1.out.below hb; replace HY0:Hid (BoxR w9 Y0 [.slice (some ⟨E0,0,none⟩) len len,.int .i64 now]):=HY0.out.below hb; replace HP0:Hid (OwnN w9 E0 l len):=HP0.out.below hb; replace HY1:Hid (BoxR w9 Y1 [.int .i64 u,.int .i64 g,.slice (some ⟨E1,0,none⟩) cl cl,.bool r]):=HY1.out.below hb; replace HP1:Hid (Ints (some ⟨E1,0,none⟩) cl cf w9):=HP1.out.below hb; replace t0_0:w9.cell? ⟨X,0,none⟩=some (.slice a len cap):=HL0.out.at0 0 _ rfl; replace t0_1:w9.cell? ⟨X,1,none⟩=some (.int .i64 now):=HL0.out.at0 1 _ rfl; replace t1_0:w9.cell? ⟨X + 1,0,none⟩=some (.int .i64 u):=HL1.out.at0 0 _ rfl; replace t1_1:w9.cell? ⟨X + 1,1,none⟩=some (.int .i64 g):=HL1.out.at0 1 _ rfl; replace t1_2:w9.cell? ⟨X + 1,2,none⟩=some (.slice ca cl cc):=HL1.out.at0 2 _ rfl; replace t1_3:w9.cell? ⟨X + 1,3,none⟩=some (.bool r):=HL1.out.at0 3 _ rfl; replace y0_0:w9.cell? ⟨Y0,0,none⟩=some (.slice (some ⟨E0,0,none⟩) len len):=HY0.out.at0 0 _ rfl; replace y0_1:w9.cell? ⟨Y0,1,none⟩=some (.int .i64 now):=HY0.out.at0 1 _ rfl; replace y1_0:w9.cell? ⟨Y1,0,none⟩=some (.int .i64 u):=HY1.out.at0 0 _ rfl; replace y1_1:w9.cell? ⟨Y1,1,none⟩=some (.int .i64 g):=HY1.out.at0 1 _ rfl; replace y1_2:w9.cell? ⟨Y1,2,none⟩=some (.slice (some ⟨E1,0,none⟩) cl cl):=HY1.out.at0 2 _ rfl; replace y1_3:w9.cell? ⟨Y1,3,none⟩=some (.bool r):=HY1.out.at0 3 _ rfl; clear hb HQ)
      | (go_at_call 12; refine Calls.mono (toCred_any u g ca cl cc r cf hl1 _ ?hs) ?_; (case hs => (first | exact HI1.out.below HB.out | exact HI1.out.below (below_drewT HB.out))); rintro e w7 ⟨Q,rfl,hO,hgeO,hb7⟩; replace HB:Hid (Below w.heap.size w w7):=Below.on HB.out ⟨hb7.os,hb7.tape,hb7.output,hb7.size,hb7.block⟩; replace HL0:Hid (BoxR w7 X [.slice a len cap,.int .i64 now]):=HL0.out.below ⟨hb7.os,hb7.tape,hb7.output,hb7.size,hb7.block⟩; replace HL1:Hid (BoxR w7 (X + 1) [.int .i64 u,.int .i64 g,.slice ca cl cc,.bool r]):=HL1.out.below ⟨hb7.os,hb7.tape,hb7.output,hb7.size,hb7.block⟩; replace HY0:Hid (BoxR w7 Y0 [.slice (some ⟨E0,0,none⟩) len len,.int .i64 now]):=HY0.out.below ⟨hb7.os,hb7.tape,hb7.output,hb7.size,hb7.block⟩; replace HP0:Hid (OwnN w7 E0 l len):=HP0.out.below ⟨hb7.os,hb7.tape,hb7.output,hb7.size,hb7.block⟩; replace HY1:Hid (BoxR w7 Y1 [.int .i64 u,.int .i64 g,.slice (some ⟨E1,0,none⟩) cl cl,.bool r]):=HY1.out.below ⟨hb7.os,hb7.tape,hb7.output,hb7.size,hb7.block⟩; replace HP1:Hid (Ints (some ⟨E1,0,none⟩) cl cf w7):=HP1.out.below ⟨hb7.os,hb7.tape,hb7.output,hb7.size,hb7.block⟩; replace t0_0:w7.cell? ⟨X,0,none⟩=some (.slice a len cap):=HL0.out.at0 0 _ rfl; replace t0_1:w7.cell? ⟨X,1,none⟩=some (.int .i64 now):=HL0.out.at0 1 _ rfl; replace t1_0:w7.cell? ⟨X + 1,0,none⟩=some (.int .i64 u):=HL1.out.at0 0 _ rfl; replace t1_1:w7.cell? ⟨X + 1,1,none⟩=some (.int .i64 g):=HL1.out.at0 1 _ rfl; replace t1_2:w7.cell? ⟨X + 1,2,none⟩=some (.slice ca cl cc):=HL1.out.at0 2 _ rfl; replace t1_3:w7.cell? ⟨X + 1,3,none⟩=some (.bool r):=HL1.out.at0 3 _ rfl; replace y0_0:w7.cell? ⟨Y0,0,none⟩=some (.slice (some ⟨E0,0,none⟩) len len):=HY0.out.at0 0 _ rfl; replace y0_1:w7.cell? ⟨Y0,1,none⟩=some (.int .i64 now):=HY0.out.at0 1 _ rfl; replace y1_0:w7.cell? ⟨Y1,0,none⟩=some (.int .i64 u):=HY1.out.at0 0 _ rfl; replace y1_1:w7.cell? ⟨Y1,1,none⟩=some (.int .i64 g):=HY1.out.at0 1 _ rfl; replace y1_2:w7.cell? ⟨Y1,2,none⟩=some (.slice (some ⟨E1,0,none⟩) cl cl):=HY1.out.at0 2 _ rfl; replace y1_3:w7.cell? ⟨Y1,3,none⟩=some (.bool r):=HY1.out.at0 3 _ rfl; have HQ:Hid (Ints (some ⟨Q,0,none⟩) cl cf w7):=hO; clear hO hb7))
  all_goals go_wp2
  all_goals go_ret
  all_goals exact ⟨rfl,HB.out⟩
end Go.Proofs.YtabfdidnjibdeaaGreatDoor
