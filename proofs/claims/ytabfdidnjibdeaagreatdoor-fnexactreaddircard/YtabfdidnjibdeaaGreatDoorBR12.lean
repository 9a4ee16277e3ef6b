/- Laid together: CpW, CpL. -/
import Derived.Test.YtabfdidnjibdeaaGreatDoorBR11
namespace Go.Proofs.YtabfdidnjibdeaaGreatDoor
open Go.RowKit Go.PlainAid Go.Deep
set_option linter.unusedVariables false
set_option maxRecDepth 20000 in
set_option maxHeartbeats 8000000 in
theorem sCopyNodeL_any (x:Nd)(y:Na)(hf:NdFit 1048576 x)(w:World)(hi:NdIn w x y) :
    Calls Tryz.prog 140 #[.agg (ndV x y).toArray] w fun e w'=>∃ y':Na,e=.returned (.agg (ndV x y').toArray)∧NdIn w' x y'∧NaFrom w.heap.size y'∧Below w.heap.size w w'∧∀ b,NaAt y' b→b<w'.heap.size:=by
  have HF:Hid (NdFit 1048576 x):=hf
  have HI:Hid (NdIn w x y):=hi
  clear hf hi
  have HX:Hid (BoxW ((w.alloc (.cells (ndV x y).toArray 84)).alloc (.cells #[.int .i64 0,.int .i64 0,.int .i64 0,.int .i64 0,.int .i64 0,.int .i64 0,.int .i64 0,.slice none 0 0,.slice none 0 0,.bool false,.int .i64 0,.bool false,.int .i64 0,.int .i64 0,.int .i64 0,.slice none 0 0,.slice none 0 0,.bool false,.int .i64 0,.int .i64 0,.int .i64 0,.string ⟨#[]⟩,.slice none 0 0,.int .i64 0] 84)) w.heap.size (ndV x y)):=(boxW_new w (ndV x y) 84).below (bel_alloc _ _)
  have HZ:Hid (BoxW ((w.alloc (.cells (ndV x y).toArray 84)).alloc (.cells #[.int .i64 0,.int .i64 0,.int .i64 0,.int .i64 0,.int .i64 0,.int .i64 0,.int .i64 0,.slice none 0 0,.slice none 0 0,.bool false,.int .i64 0,.bool false,.int .i64 0,.int .i64 0,.int .i64 0,.slice none 0 0,.slice none 0 0,.bool false,.int .i64 0,.int .i64 0,.int .i64 0,.string ⟨#[]⟩,.slice none 0 0,.int .i64 0] 84)) (w.heap.size+1) [.int .i64 0,.int .i64 0,.int .i64 0,.int .i64 0,.int .i64 0,.int .i64 0,.int .i64 0,.slice none 0 0,.slice none 0 0,.bool false,.int .i64 0,.bool false,.int .i64 0,.int .i64 0,.int .i64 0,.slice none 0 0,.slice none 0 0,.bool false,.int .i64 0,.int .i64 0,.int .i64 0,.string ⟨#[]⟩,.slice none 0 0,.int .i64 0]):=(by
    have h:=boxW_new (w.alloc (.cells (ndV x y).toArray 84)) [.int .i64 0,.int .i64 0,.int .i64 0,.int .i64 0,.int .i64 0,.int .i64 0,.int .i64 0,.slice none 0 0,.slice none 0 0,.bool false,.int .i64 0,.bool false,.int .i64 0,.int .i64 0,.int .i64 0,.slice none 0 0,.slice none 0 0,.bool false,.int .i64 0,.int .i64 0,.int .i64 0,.string ⟨#[]⟩,.slice none 0 0,.int .i64 0] 84
    simp only [World.size_alloc] at h
    exact h)
  have HB:Hid (Below w.heap.size w ((w.alloc (.cells (ndV x y).toArray 84)).alloc (.cells #[.int .i64 0,.int .i64 0,.int .i64 0,.int .i64 0,.int .i64 0,.int .i64 0,.int .i64 0,.slice none 0 0,.slice none 0 0,.bool false,.int .i64 0,.bool false,.int .i64 0,.int .i64 0,.int .i64 0,.slice none 0 0,.slice none 0 0,.bool false,.int .i64 0,.int .i64 0,.int .i64 0,.string ⟨#[]⟩,.slice none 0 0,.int .i64 0] 84))):=bl2T _ _ _
  go_enter Tryz.func140,Tryz.ntmps140
  go_upto_region 1 with fail
  generalize ((w.alloc (.cells (ndV x y).toArray 84)).alloc (.cells #[.int .i64 0,.int .i64 0,.int .i64 0,.int .i64 0,.int .i64 0,.int .i64 0,.int .i64 0,.slice none 0 0,.slice none 0 0,.bool false,.int .i64 0,.bool false,.int .i64 0,.int .i64 0,.int .i64 0,.slice none 0 0,.slice none 0 0,.bool false,.int .i64 0,.int .i64 0,.int .i64 0,.string ⟨#[]⟩,.slice none 0 0,.int .i64 0] 84))=w0 at HX HZ HB ⊢
  obtain ⟨X,hX⟩:∃ X,X=w.heap.size:=⟨_,rfl⟩
  have HXw:Hid (X=w.heap.size):=hX
  rw [←hX] at HX HZ ⊢
  clear hX
  have e4:=N24.c4 HX.out.at0
  have e5:=N24.c5 HX.out.at0
  have e6:=N24.c6 HX.out.at0
  have e7:=N24.c7 HX.out.at0
  have e8:=N24.c8 HX.out.at0
  have e9:=N24.c9 HX.out.at0
  have e10:=N24.c10 HX.out.at0
  simp only [Nat.zero_add] at e4 e5 e6 e7 e8 e9 e10
  go_wp2_with fail
  refine (sCopy_capB x.A.u x.A.g x.A.o _ _ _ _ _ _ x.A.r x.A.m x.A.us x.A.gs w0 (HI.out.aU.below HB.out) (HI.out.aG.below HB.out) (by have:=HF.out.au;omega) (by have:=HF.out.ag;omega)).mono ?_
  rintro e w1 ⟨a1,c1,a2,c2,rfl,hN,_,_⟩
  have hb:=hN.bel
  have hz0:=HZ.out.lt
  have Na1:Hid (∀ b f,a1=some ⟨b,f,none⟩→X+1<b):=(fun b f e=>by have h:=(hN.iu _ e).1;simp only at h;omega)
  have Na2:Hid (∀ b f,a2=some ⟨b,f,none⟩→X+1<b):=(fun b f e=>by have h:=(hN.ig _ e).1;simp only at h;omega)
  replace HB:Hid (Below w.heap.size w w1):=Below.on HB.out hb
  replace HX:Hid (BoxW w1 X (ndV x y)):=HX.out.below hb
  replace HZ:Hid (BoxW w1 (X+1) [.int .i64 0,.int .i64 0,.int .i64 0,.int .i64 0,.int .i64 0,.int .i64 0,.int .i64 0,.slice none 0 0,.slice none 0 0,.bool false,.int .i64 0,.bool false,.int .i64 0,.int .i64 0,.int .i64 0,.slice none 0 0,.slice none 0 0,.bool false,.int .i64 0,.int .i64 0,.int .i64 0,.string ⟨#[]⟩,.slice none 0 0,.int .i64 0]):=HZ.out.below hb
  have La1:Hid (∀ b f,a1=some ⟨b,f,none⟩→b<w1.heap.size):=(fun b f e=>(hN.iu _ e).2)
  have La2:Hid (∀ b f,a2=some ⟨b,f,none⟩→b<w1.heap.size):=(fun b f e=>(hN.ig _ e).2)
  have Ua1:Hid (Prs a1 x.A.us.length x.A.us w1):=hN.ou.prs
  have Ua2:Hid (Prs a2 x.A.gs.length x.A.gs w1):=hN.og.prs
  clear hb hN hz0 e4 e5 e6 e7 e8 e9 e10
  go_upto_region 2 with (refine wpList_store_list (by rfl) 81 _ _ (by rfl) X 4 (alV x.A a1 c1 a2 c2) (by rfl) (by rfl) (HX.out.there 4 7 (by rw [ndV_len];omega)) (by kernel_rfl) (alV_ones _ _ _ _ _) ?_)
  replace HB:Hid (Below w.heap.size w (w1.setCells X 4 (alV x.A a1 c1 a2 c2))):=bl_setsT (by have:=HXw.out;omega) _ _ HB.out
  replace HX:Hid (BoxW (w1.setCells X 4 (alV x.A a1 c1 a2 c2)) X (ndV x ⟨a1,c1,a2,c2,y.dU,y.eU,y.dG,y.eG,y.nA,y.nC⟩)):=HX.out.sets 4 (alV x.A a1 c1 a2 c2) (by rw [alV_len,ndV_len];omega)
  replace HZ:Hid (BoxW (w1.setCells X 4 (alV x.A a1 c1 a2 c2)) (X+1) [.int .i64 0,.int .i64 0,.int .i64 0,.int .i64 0,.int .i64 0,.int .i64 0,.int .i64 0,.slice none 0 0,.slice none 0 0,.bool false,.int .i64 0,.bool false,.int .i64 0,.int .i64 0,.int .i64 0,.slice none 0 0,.slice none 0 0,.bool false,.int .i64 0,.int .i64 0,.int .i64 0,.string ⟨#[]⟩,.slice none 0 0,.int .i64 0]):=HZ.out.others (by omega)
  replace La1:Hid (∀ b f,a1=some ⟨b,f,none⟩→b<(w1.setCells X 4 (alV x.A a1 c1 a2 c2)).heap.size):=(fun b f e=>by rw [size_setCellsT];exact La1.out b f e)
  replace Ua1:Hid (Prs a1 x.A.us.length x.A.us (w1.setCells X 4 (alV x.A a1 c1 a2 c2))):=Ua1.out.sets (fun b f e=>by have:=Na1.out b f e;omega) _ _
  replace La2:Hid (∀ b f,a2=some ⟨b,f,none⟩→b<(w1.setCells X 4 (alV x.A a1 c1 a2 c2)).heap.size):=(fun b f e=>by rw [size_setCellsT];exact La2.out b f e)
  replace Ua2:Hid (Prs a2 x.A.gs.length x.A.gs (w1.setCells X 4 (alV x.A a1 c1 a2 c2))):=Ua2.out.sets (fun b f e=>by have:=Na2.out b f e;omega) _ _
  generalize (w1.setCells X 4 (alV x.A a1 c1 a2 c2))=w2 at HB HX HZ Ua1 La1 Ua2 La2 ⊢
  clear w1 w0
  have e12:=N24.c12 HX.out.at0
  have e13:=N24.c13 HX.out.at0
  have e14:=N24.c14 HX.out.at0
  have e15:=N24.c15 HX.out.at0
  have e16:=N24.c16 HX.out.at0
  have e17:=N24.c17 HX.out.at0
  have e18:=N24.c18 HX.out.at0
  simp only [Nat.zero_add] at e12 e13 e14 e15 e16 e17 e18
  go_wp2_with fail
  refine (sCopy_capB x.D.u x.D.g x.D.o _ _ _ _ _ _ x.D.r x.D.m x.D.us x.D.gs w2 (HI.out.dU.below HB.out) (HI.out.dG.below HB.out) (by have:=HF.out.du;omega) (by have:=HF.out.dg;omega)).mono ?_
  rintro e w3 ⟨a3,c3,a4,c4,rfl,hN,_,_⟩
  have hb:=hN.bel
  have hz0:=HZ.out.lt
  have Na3:Hid (∀ b f,a3=some ⟨b,f,none⟩→X+1<b):=(fun b f e=>by have h:=(hN.iu _ e).1;simp only at h;omega)
  have Na4:Hid (∀ b f,a4=some ⟨b,f,none⟩→X+1<b):=(fun b f e=>by have h:=(hN.ig _ e).1;simp only at h;omega)
  replace HB:Hid (Below w.heap.size w w3):=Below.on HB.out hb
  replace HX:Hid (BoxW w3 X (ndV x ⟨a1,c1,a2,c2,y.dU,y.eU,y.dG,y.eG,y.nA,y.nC⟩)):=HX.out.below hb
  replace HZ:Hid (BoxW w3 (X+1) [.int .i64 0,.int .i64 0,.int .i64 0,.int .i64 0,.int .i64 0,.int .i64 0,.int .i64 0,.slice none 0 0,.slice none 0 0,.bool false,.int .i64 0,.bool false,.int .i64 0,.int .i64 0,.int .i64 0,.slice none 0 0,.slice none 0 0,.bool false,.int .i64 0,.int .i64 0,.int .i64 0,.string ⟨#[]⟩,.slice none 0 0,.int .i64 0]):=HZ.out.below hb
  replace La1:Hid (∀ b f,a1=some ⟨b,f,none⟩→b<w3.heap.size):=(fun b f e=>Nat.lt_of_lt_of_le (La1.out b f e) hb.size)
  replace Ua1:Hid (Prs a1 x.A.us.length x.A.us w3):=Ua1.out.below hb
  replace La2:Hid (∀ b f,a2=some ⟨b,f,none⟩→b<w3.heap.size):=(fun b f e=>Nat.lt_of_lt_of_le (La2.out b f e) hb.size)
  replace Ua2:Hid (Prs a2 x.A.gs.length x.A.gs w3):=Ua2.out.below hb
  have La3:Hid (∀ b f,a3=some ⟨b,f,none⟩→b<w3.heap.size):=(fun b f e=>(hN.iu _ e).2)
  have La4:Hid (∀ b f,a4=some ⟨b,f,none⟩→b<w3.heap.size):=(fun b f e=>(hN.ig _ e).2)
  have Ua3:Hid (Prs a3 x.D.us.length x.D.us w3):=hN.ou.prs
  have Ua4:Hid (Prs a4 x.D.gs.length x.D.gs w3):=hN.og.prs
  clear hb hN hz0 e12 e13 e14 e15 e16 e17 e18
  go_upto_region 3 with (refine wpList_store_list (by rfl) 81 _ _ (by rfl) X 12 (alV x.D a3 c3 a4 c4) (by rfl) (by rfl) (HX.out.there 12 7 (by rw [ndV_len];omega)) (by kernel_rfl) (alV_ones _ _ _ _ _) ?_)
  replace HB:Hid (Below w.heap.size w (w3.setCells X 12 (alV x.D a3 c3 a4 c4))):=bl_setsT (by have:=HXw.out;omega) _ _ HB.out
  replace HX:Hid (BoxW (w3.setCells X 12 (alV x.D a3 c3 a4 c4)) X (ndV x ⟨a1,c1,a2,c2,a3,c3,a4,c4,y.nA,y.nC⟩)):=HX.out.sets 12 (alV x.D a3 c3 a4 c4) (by rw [alV_len,ndV_len];omega)
  replace HZ:Hid (BoxW (w3.setCells X 12 (alV x.D a3 c3 a4 c4)) (X+1) [.int .i64 0,.int .i64 0,.int .i64 0,.int .i64 0,.int .i64 0,.int .i64 0,.int .i64 0,.slice none 0 0,.slice none 0 0,.bool false,.int .i64 0,.bool false,.int .i64 0,.int .i64 0,.int .i64 0,.slice none 0 0,.slice none 0 0,.bool false,.int .i64 0,.int .i64 0,.int .i64 0,.string ⟨#[]⟩,.slice none 0 0,.int .i64 0]):=HZ.out.others (by omega)
  replace La1:Hid (∀ b f,a1=some ⟨b,f,none⟩→b<(w3.setCells X 12 (alV x.D a3 c3 a4 c4)).heap.size):=(fun b f e=>by rw [size_setCellsT];exact La1.out b f e)
  replace Ua1:Hid (Prs a1 x.A.us.length x.A.us (w3.setCells X 12 (alV x.D a3 c3 a4 c4))):=Ua1.out.sets (fun b f e=>by have:=Na1.out b f e;omega) _ _
  replace La2:Hid (∀ b f,a2=some ⟨b,f,none⟩→b<(w3.setCells X 12 (alV x.D a3 c3 a4 c4)).heap.size):=(fun b f e=>by rw [size_setCellsT];exact La2.out b f e)
  replace Ua2:Hid (Prs a2 x.A.gs.length x.A.gs (w3.setCells X 12 (alV x.D a3 c3 a4 c4))):=Ua2.out.sets (fun b f e=>by have:=Na2.out b f e;omega) _ _
  replace La3:Hid (∀ b f,a3=some ⟨b,f,none⟩→b<(w3.setCells X 12 (alV x.D a3 c3 a4 c4)).heap.size):=(fun b f e=>by rw [size_setCellsT];exact La3.out b f e)
  replace Ua3:Hid (Prs a3 x.D.us.length x.D.us (w3.setCells X 12 (alV x.D a3 c3 a4 c4))):=Ua3.out.sets (fun b f e=>by have:=Na3.out b f e;omega) _ _
  replace La4:Hid (∀ b f,a4=some ⟨b,f,none⟩→b<(w3.setCells X 12 (alV x.D a3 c3 a4 c4)).heap.size):=(fun b f e=>by rw [size_setCellsT];exact La4.out b f e)
  replace Ua4:Hid (Prs a4 x.D.gs.length x.D.gs (w3.setCells X 12 (alV x.D a3 c3 a4 c4))):=Ua4.out.sets (fun b f e=>by have:=Na4.out b f e;omega) _ _
  generalize (w3.setCells X 12 (alV x.D a3 c3 a4 c4))=w4 at HB HX HZ Ua1 La1 Ua2 La2 Ua3 La3 Ua4 La4 ⊢
  clear w3 w2
  obtain ⟨a5,c5,w5,hr5,hE5,hF5,hb5⟩:=append_ents w4 w4.heap.size rfl y.nA x.ns.length y.nC x.ns (HI.out.nA.below HB.out) (by have:=HF.out.nl;omega)
  have hz0:=HZ.out.lt
  have Na5:Hid (∀ b f,a5=some ⟨b,f,none⟩→X+1<b):=(fun b f e=>by have h:=(hF5 b f e).1;omega)
  have HR5:Hid _:=hr5
  have e22:(w4.alloc (.cells #[] 105)).cell? ⟨X,22,none⟩=some (.slice y.nA x.ns.length y.nC):=(by have h:=N24.c22 (HX.out.below (bel_alloc w4 (.cells #[] 105))).at0;simpa only [Nat.zero_add] using h)
  replace HB:Hid (Below w.heap.size w w5):=Below.on HB.out hb5
  replace HX:Hid (BoxW w5 X (ndV x ⟨a1,c1,a2,c2,a3,c3,a4,c4,y.nA,y.nC⟩)):=HX.out.below hb5
  replace HZ:Hid (BoxW w5 (X+1) [.int .i64 0,.int .i64 0,.int .i64 0,.int .i64 0,.int .i64 0,.int .i64 0,.int .i64 0,.slice none 0 0,.slice none 0 0,.bool false,.int .i64 0,.bool false,.int .i64 0,.int .i64 0,.int .i64 0,.slice none 0 0,.slice none 0 0,.bool false,.int .i64 0,.int .i64 0,.int .i64 0,.string ⟨#[]⟩,.slice none 0 0,.int .i64 0]):=HZ.out.below hb5
  replace La1:Hid (∀ b f,a1=some ⟨b,f,none⟩→b<w5.heap.size):=(fun b f e=>Nat.lt_of_lt_of_le (La1.out b f e) hb5.size)
  replace Ua1:Hid (Prs a1 x.A.us.length x.A.us w5):=Ua1.out.below hb5
  replace La2:Hid (∀ b f,a2=some ⟨b,f,none⟩→b<w5.heap.size):=(fun b f e=>Nat.lt_of_lt_of_le (La2.out b f e) hb5.size)
  replace Ua2:Hid (Prs a2 x.A.gs.length x.A.gs w5):=Ua2.out.below hb5
  replace La3:Hid (∀ b f,a3=some ⟨b,f,none⟩→b<w5.heap.size):=(fun b f e=>Nat.lt_of_lt_of_le (La3.out b f e) hb5.size)
  replace Ua3:Hid (Prs a3 x.D.us.length x.D.us w5):=Ua3.out.below hb5
  replace La4:Hid (∀ b f,a4=some ⟨b,f,none⟩→b<w5.heap.size):=(fun b f e=>Nat.lt_of_lt_of_le (La4.out b f e) hb5.size)
  replace Ua4:Hid (Prs a4 x.D.gs.length x.D.gs w5):=Ua4.out.below hb5
  have Ua5:Hid (Ens a5 x.ns.length x.ns w5):=hE5
  have La5:Hid (∀ b f,a5=some ⟨b,f,none⟩→b<w5.heap.size):=(fun b f e=>(hF5 b f e).2)
  have x22:w5.cell? ⟨X,22,none⟩=some (.slice y.nA x.ns.length y.nC):=(by have h:=N24.c22 HX.out.at0;simpa only [Nat.zero_add] using h)
  have fx:=HX.out.frz
  clear hr5 hE5 hF5 hb5 hz0
  go_upto_region 4 with (at_builtin;refine wpList_append_run _ rfl (.tmp 11) (.tmp 13) 82 82 rfl _ _ _ _ rfl rfl HR5.out ?_)
  replace HB:Hid (Below w.heap.size w (w5.setCell ⟨X,22,none⟩ (.slice a5 x.ns.length c5))):=bl_setT HB.out (by have:=HXw.out;omega)
  replace HX:Hid (BoxW (w5.setCell ⟨X,22,none⟩ (.slice a5 x.ns.length c5)) X (ndV x ⟨a1,c1,a2,c2,a3,c3,a4,c4,a5,c5⟩)):=HX.out.set 22 (by rw [ndV_len];omega) _
  replace HZ:Hid (BoxW (w5.setCell ⟨X,22,none⟩ (.slice a5 x.ns.length c5)) (X+1) [.int .i64 0,.int .i64 0,.int .i64 0,.int .i64 0,.int .i64 0,.int .i64 0,.int .i64 0,.slice none 0 0,.slice none 0 0,.bool false,.int .i64 0,.bool false,.int .i64 0,.int .i64 0,.int .i64 0,.slice none 0 0,.slice none 0 0,.bool false,.int .i64 0,.int .i64 0,.int .i64 0,.string ⟨#[]⟩,.slice none 0 0,.int .i64 0]):=HZ.out.other (by omega)
  replace La1:Hid (∀ b f,a1=some ⟨b,f,none⟩→b<(w5.setCell ⟨X,22,none⟩ (.slice a5 x.ns.length c5)).heap.size):=(fun b f e=>by simpa using La1.out b f e)
  replace Ua1:Hid (Prs a1 x.A.us.length x.A.us (w5.setCell ⟨X,22,none⟩ (.slice a5 x.ns.length c5))):=Ua1.out.set (fun b f e=>by have:=Na1.out b f e;omega)
  replace La2:Hid (∀ b f,a2=some ⟨b,f,none⟩→b<(w5.setCell ⟨X,22,none⟩ (.slice a5 x.ns.length c5)).heap.size):=(fun b f e=>by simpa using La2.out b f e)
  replace Ua2:Hid (Prs a2 x.A.gs.length x.A.gs (w5.setCell ⟨X,22,none⟩ (.slice a5 x.ns.length c5))):=Ua2.out.set (fun b f e=>by have:=Na2.out b f e;omega)
  replace La3:Hid (∀ b f,a3=some ⟨b,f,none⟩→b<(w5.setCell ⟨X,22,none⟩ (.slice a5 x.ns.length c5)).heap.size):=(fun b f e=>by simpa using La3.out b f e)
  replace Ua3:Hid (Prs a3 x.D.us.length x.D.us (w5.setCell ⟨X,22,none⟩ (.slice a5 x.ns.length c5))):=Ua3.out.set (fun b f e=>by have:=Na3.out b f e;omega)
  replace La4:Hid (∀ b f,a4=some ⟨b,f,none⟩→b<(w5.setCell ⟨X,22,none⟩ (.slice a5 x.ns.length c5)).heap.size):=(fun b f e=>by simpa using La4.out b f e)
  replace Ua4:Hid (Prs a4 x.D.gs.length x.D.gs (w5.setCell ⟨X,22,none⟩ (.slice a5 x.ns.length c5))):=Ua4.out.set (fun b f e=>by have:=Na4.out b f e;omega)
  replace La5:Hid (∀ b f,a5=some ⟨b,f,none⟩→b<(w5.setCell ⟨X,22,none⟩ (.slice a5 x.ns.length c5)).heap.size):=(fun b f e=>by simpa using La5.out b f e)
  replace Ua5:Hid (Ens a5 x.ns.length x.ns (w5.setCell ⟨X,22,none⟩ (.slice a5 x.ns.length c5))):=Ua5.out.set (fun b f e=>by have:=Na5.out b f e;omega)
  clear x22 e22 fx HR5
  generalize (w5.setCell ⟨X,22,none⟩ (.slice a5 x.ns.length c5))=w6 at HB HX HZ Ua1 La1 Ua2 La2 Ua3 La3 Ua4 La4 Ua5 La5 ⊢
  clear w5
  obtain ⟨y',hy⟩:∃ y':Na,y'=⟨a1,c1,a2,c2,a3,c3,a4,c4,a5,c5⟩:=⟨_,rfl⟩
  replace HX:Hid (BoxW w6 X (ndV x y')):=(by rw [hy];exact HX.out)
  replace La1:Hid (∀ b f,a1=some ⟨b,f,none⟩→b<(w6.setCells (X+1) 0 (ndV x y')).heap.size):=(fun b f e=>by rw [size_setCellsT];exact La1.out b f e)
  replace Ua1:Hid (Prs a1 x.A.us.length x.A.us (w6.setCells (X+1) 0 (ndV x y'))):=Ua1.out.sets (fun b f e=>by have:=Na1.out b f e;omega) _ _
  replace La2:Hid (∀ b f,a2=some ⟨b,f,none⟩→b<(w6.setCells (X+1) 0 (ndV x y')).heap.size):=(fun b f e=>by rw [size_setCellsT];exact La2.out b f e)
  replace Ua2:Hid (Prs a2 x.A.gs.length x.A.gs (w6.setCells (X+1) 0 (ndV x y'))):=Ua2.out.sets (fun b f e=>by have:=Na2.out b f e;omega) _ _
  replace La3:Hid (∀ b f,a3=some ⟨b,f,none⟩→b<(w6.setCells (X+1) 0 (ndV x y')).heap.size):=(fun b f e=>by rw [size_setCellsT];exact La3.out b f e)
  replace Ua3:Hid (Prs a3 x.D.us.length x.D.us (w6.setCells (X+1) 0 (ndV x y'))):=Ua3.out.sets (fun b f e=>by have:=Na3.out b f e;omega) _ _
  replace La4:Hid (∀ b f,a4=some ⟨b,f,none⟩→b<(w6.setCells (X+1) 0 (ndV x y')).heap.size):=(fun b f e=>by rw [size_setCellsT];exact La4.out b f e)
  replace Ua4:Hid (Prs a4 x.D.gs.length x.D.gs (w6.setCells (X+1) 0 (ndV x y'))):=Ua4.out.sets (fun b f e=>by have:=Na4.out b f e;omega) _ _
  replace La5:Hid (∀ b f,a5=some ⟨b,f,none⟩→b<(w6.setCells (X+1) 0 (ndV x y')).heap.size):=(fun b f e=>by rw [size_setCellsT];exact La5.out b f e)
  replace Ua5:Hid (Ens a5 x.ns.length x.ns (w6.setCells (X+1) 0 (ndV x y'))):=Ua5.out.sets (fun b f e=>by have:=Na5.out b f e;omega) _ _
  have HNs:Hid (NdIn (w6.setCells (X+1) 0 (ndV x y')) x y'):=(by have h:NdIn (w6.setCells (X+1) 0 (ndV x y')) x ⟨a1,c1,a2,c2,a3,c3,a4,c4,a5,c5⟩:=⟨Ua1.out,Ua2.out,Ua3.out,Ua4.out,Ua5.out⟩;rw [←hy] at h;exact h)
  have HFr:Hid (NaFrom w.heap.size y'):=(by rw [hy];have h0:=HXw.out;exact ⟨fun b f e=>by have:=Na1.out b f e;omega,fun b f e=>by have:=Na2.out b f e;omega,fun b f e=>by have:=Na3.out b f e;omega,fun b f e=>by have:=Na4.out b f e;omega,fun b f e=>by have:=Na5.out b f e;omega⟩)
  have HLs:Hid (∀ b,NaAt y' b→b<(w6.setCells (X+1) 0 (ndV x y')).heap.size):=(by have h:∀ b,NaAt ⟨a1,c1,a2,c2,a3,c3,a4,c4,a5,c5⟩ b→b<(w6.setCells (X+1) 0 (ndV x y')).heap.size:=(by rintro b ⟨f,e | e | e | e | e⟩<;>first | exact La1.out b f e | exact La2.out b f e | exact La3.out b f e | exact La4.out b f e | exact La5.out b f e);rw [←hy] at h;exact h)
  clear hy Ua1 Na1 La1 Ua2 Na2 La2 Ua3 Na3 La3 Ua4 Na4 La4 Ua5 Na5 La5
  have HBs:Hid (Below w.heap.size w (w6.setCells (X+1) 0 (ndV x y'))):=bl_setsT (by have:=HXw.out;omega) _ _ HB.out
  have hr:(w6.setCells (X+1) 0 (ndV x y')).rangeAt (X+1) 0 (ndV x y'):=World.rangeAt_setCells_same _ _ _ _ (HZ.out.there 0 24 (by simp))
  have hR:Hid ((loadVar 84 ⟨X+1,0,none⟩).run Tryz.prog (w6.setCells (X+1) 0 (ndV x y'))=.ok (.agg (ndV x y').toArray) (w6.setCells (X+1) 0 (ndV x y'))):=run_loadVar_mid _ _ _ _ _ _ hr Tryz.underlying84 rfl (by kernel_rfl)
  clear hr
  go_wp2_with (first | (refine wpList_load_mid (by rfl) 84 _ (by rfl) _ _ (by rfl) _ _ HX.out.at0 Tryz.underlying84 rfl (by kernel_rfl) ?_) | (refine wpList_store_list (by rfl) 84 _ _ (by rfl) (X+1) 0 (ndV x y') (by rfl) (by rfl) (HZ.out.there 0 24 (by simp)) (by kernel_rfl) (ndV_ones _ _) ?_) | (refine bodyPost_ret (v:=.agg (ndV x y').toArray) ?hres rfl ⟨y',rfl,HNs.out,HFr.out,HBs.out,HLs.out⟩))
  exact results_one Tryz.results140 (by rfl) hR.out
end Go.Proofs.YtabfdidnjibdeaaGreatDoor
namespace Go.Proofs.YtabfdidnjibdeaaGreatDoor
open Go.RowKit Go.PlainAid Go.Deep
set_option linter.unusedSimpArgs false
set_option linter.unusedVariables false
theorem Prs.keep {a:Option Addr}{len:Nat}{l:List (Int × Int)}{w w':World}(h:Prs a len l w)(hs:w.heap.size≤w'.heap.size)(hk:∀ b f,a=some ⟨b,f,none⟩→w'.heap[b]?=w.heap[b]?):Prs a len l w':=by
  refine ⟨h.1,fun hl=>?_⟩
  obtain ⟨b,off,ha,hlt,hc⟩:=h.2 hl
  have hb:=hk b off ha
  exact ⟨b,off,ha,Nat.lt_of_lt_of_le hlt hs,fun i hi=>⟨(World.cell?_of_block (a:=⟨b,off+i*2,none⟩) hb).trans (hc i hi).1,(World.cell?_of_block (a:=⟨b,off+i*2+1,none⟩) hb).trans (hc i hi).2⟩⟩
theorem Ens.keep {a:Option Addr}{len:Nat}{l:List (ByteArray × Int)}{w w':World}(h:Ens a len l w)(hs:w.heap.size≤w'.heap.size)(hk:∀ b f,a=some ⟨b,f,none⟩→w'.heap[b]?=w.heap[b]?):Ens a len l w':=by
  refine ⟨h.1,fun hl=>?_⟩
  obtain ⟨b,off,ha,hlt,hc⟩:=h.2 hl
  have hb:=hk b off ha
  exact ⟨b,off,ha,Nat.lt_of_lt_of_le hlt hs,fun i hi=>⟨(World.cell?_of_block (a:=⟨b,off+i*2,none⟩) hb).trans (hc i hi).1,(World.cell?_of_block (a:=⟨b,off+i*2+1,none⟩) hb).trans (hc i hi).2⟩⟩
theorem NdIn.keep {w w':World}{x:Nd}{y:Na}(h:NdIn w x y)(hs:w.heap.size≤w'.heap.size)(hk:∀ b,NaAt y b→w'.heap[b]?=w.heap[b]?):NdIn w' x y :=
  ⟨h.aU.keep hs (fun b f e=>hk b ⟨f,.inl e⟩),h.aG.keep hs (fun b f e=>hk b ⟨f,.inr (.inl e)⟩),h.dU.keep hs (fun b f e=>hk b ⟨f,.inr (.inr (.inl e))⟩),h.dG.keep hs (fun b f e=>hk b ⟨f,.inr (.inr (.inr (.inl e)))⟩),h.nA.keep hs (fun b f e=>hk b ⟨f,.inr (.inr (.inr (.inr e)))⟩)⟩
theorem NaFrom.le {N b:Nat}{y:Na}(h:NaFrom N y)(hb:NaAt y b):N≤b:=by
  obtain ⟨f,e | e | e | e | e⟩:=hb
  · exact h.aU b f e
  · exact h.aG b f e
  · exact h.dU b f e
  · exact h.dG b f e
  · exact h.nA b f e
theorem run_one_nd (x:Nd)(y:Na)(w:World):(Instr.buildSlice 33 1 #[(0,.agg (ndV x y).toArray)]).run Tryz.prog w=.ok (.slice (some ⟨w.heap.size,0,none⟩) 1 1) (w.alloc (.cells (ndV x y).toArray 84)):=by
  kernel_rfl
structure CpI (w:World) (B:Nat) (v:Value) (ds:List (Nd × Na)):Prop where
  own:w.ownsRow B 84 24 v ds.length (pcN ds)
  inn:∀ p ∈ ds,NdIn w p.1 p.2
  loc:∀ p ∈ ds,∀ b,NaAt p.2 b→B≤b∧b<w.heap.size∧v.ownBlock≠some b
theorem CpI.below {w w':World}{B:Nat}{v:Value}{ds:List (Nd × Na)}(h:CpI w B v ds)(hb:Below w.heap.size w w'):CpI w' B v ds :=
  ⟨rowU_below h.own hb,fun p hp=>(h.inn p hp).below hb,fun p hp b e=>⟨(h.loc p hp b e).1,Nat.lt_of_lt_of_le (h.loc p hp b e).2.1 hb.size,(h.loc p hp b e).2.2⟩⟩
theorem CpI.lt {w:World}{B:Nat}{v:Value}{ds:List (Nd × Na)}(h:CpI w B v ds):∀ k,v.ownBlock=some k→B≤k∧k<w.heap.size:=by
  obtain ⟨_,⟨rfl,_⟩ | ⟨g,cap,cur,rfl,hb,hg,_⟩⟩:=h.own
  · intro k hk;simp [Value.ownBlock] at hk
  · intro k hk
    have hlt:g<w.heap.size:=(Array.getElem?_eq_some_iff.1 hg).1
    simp [Value.ownBlock] at hk
    omega
theorem CpI.set {w:World}{B Z o:Nat}{v u:Value}{ds:List (Nd × Na)}(h:CpI w B v ds)(hz:Z<B):CpI (w.setCell ⟨Z,o,none⟩ u) B v ds:=by
  have hk:∀ b,B≤b→(w.setCell ⟨Z,o,none⟩ u).heap[b]?=w.heap[b]?:=fun b hb=>Below.heap_setCell _ _ _ _ (by show b≠Z;omega)
  refine ⟨?_,fun p hp=>(h.inn p hp).keep (by simp) (fun b e=>hk b (h.loc p hp b e).1),fun p hp b e=>⟨(h.loc p hp b e).1,by simpa using (h.loc p hp b e).2.1,(h.loc p hp b e).2.2⟩⟩
  obtain ⟨h0,⟨rfl,hn⟩ | ⟨g,cap,cur,rfl,hB,hg,hc,hm,hs,ht⟩⟩:=h.own
  · exact ⟨h0,.inl ⟨rfl,hn⟩⟩
  · exact ⟨h0,.inr ⟨g,cap,cur,rfl,hB,(hk g hB).trans hg,hc,hm,hs,ht⟩⟩
theorem CpI.step {w w1:World}{B:Nat}{v:Value}{ds:List (Nd × Na)}(h:CpI w B v ds)(hb:Below w.heap.size w w1)(hB:B≤w.heap.size)(x:Nd)(y:Na)(hn:NdIn w1 x y)(hf:NaFrom w.heap.size y)(hl:∀ b,NaAt y b→b<w1.heap.size)(hsm:ds.length≤1000000) :
    ∃ v' w',(Builtin.append_ #[33,33] 33 #[v,.slice (some ⟨w1.heap.size,0,none⟩) 1 1]).run Tryz.prog (w1.alloc (.cells (ndV x y).toArray 84))=.ok v' w'∧CpI w' B v' (ds++[(x,y)])∧Below B w1 w'∧w1.heap.size≤w'.heap.size:=by
  have h1:=h.below hb
  obtain ⟨v',w',hr,ho,hbl,hsz,hk,hid⟩:=run_append_ndK w1 B 33 v ds x y h1.own (by omega) (Nat.le_trans hB hb.size)
  have hoff:∀ p ∈ ds++[(x,y)],∀ b,NaAt p.2 b→B≤b∧b<w1.heap.size∧v.ownBlock≠some b:=by
    intro p hp b e
    rcases List.mem_append.1 hp with hp | hp
    · exact h1.loc p hp b e
    · obtain rfl := List.mem_singleton.1 hp
      have e1:=hf.le e
      refine ⟨by omega,hl b e,fun e2=>?_⟩
      have:=(h.lt b e2).2
      omega
  have hin:∀ p ∈ ds++[(x,y)],NdIn w1 p.1 p.2:=by
    intro p hp
    rcases List.mem_append.1 hp with hp | hp
    · exact h1.inn p hp
    · obtain rfl := List.mem_singleton.1 hp
      exact hn
  refine ⟨v',w',hr,⟨ho,fun p hp=>(hin p hp).keep hsz (fun b e=>hk b (hoff p hp b e).2.1 (hoff p hp b e).2.2),fun p hp b e=>⟨(hoff p hp b e).1,Nat.lt_of_lt_of_le (hoff p hp b e).2.1 hsz,fun e2=>?_⟩⟩,hbl,hsz⟩
  rcases hid b e2 with h3 | h3
  · exact (hoff p hp b e).2.2 h3
  · have := (hoff p hp b e).2.1
    omega
theorem CpI.start (w:World)(B:Nat):CpI w B (.slice none 0 0) []:=⟨⟨rfl,.inl ⟨rfl,rfl⟩⟩,(fun p hp=>by cases hp),(fun p hp=>by cases hp)⟩
theorem take_succ_nd (l:List Nd)(k:Nat)(h:k<l.length):l.take (k+1)=l.take k++[ndAt l k]:=by
  rw [List.take_succ_eq_append_getElem h]
  simp [ndAt,List.getD,h]
theorem row_slice {w:World}{B:Nat}{t:TypeId}{s:Nat}{v:Value}{n:Nat}{xs:List Value}(h:w.ownsRow B t s v n xs):∃ a l c,v=.slice a l c:=by
  obtain ⟨_,⟨rfl,_⟩ | ⟨g,cap,cur,rfl,_⟩⟩:=h
  · exact ⟨_,_,_,rfl⟩
  · exact ⟨_,_,_,rfl⟩
set_option maxRecDepth 20000 in
set_option maxHeartbeats 8000000 in
theorem sCopyT_any (tb tf len cap:Nat)(l:List Nd)(Y:Nat→Na)(now:Int)(hl:len≤12)(hll:l.length=len)(hf:∀ i,i<len→NdFit 1048576 (ndAt l i))(w:World)(htb:tb<w.heap.size)(hN:∀ i,i<len→N24 w tb (tf+i*24) (ndAt l i) (Y i)∧NdIn w (ndAt l i) (Y i)) :
    Calls Tryz.prog 93 #[.agg #[.slice (some ⟨tb,tf,none⟩) len cap,.int .i64 now]] w fun e w'=>∃ v ds,e=.returned (.agg #[v,.int .i64 now])∧Hid (CpI w' (w.heap.size+1+1+1) v ds)∧ds.map (·.1)=l∧Below w.heap.size w w':=by
  have HN:Hid (∀ i,i<len→N24 w tb (tf+i*24) (ndAt l i) (Y i)∧NdIn w (ndAt l i) (Y i)):=hN
  have HF:Hid (∀ i,i<len→NdFit 1048576 (ndAt l i)):=hf
  have HTb:Hid (tb<w.heap.size):=htb
  clear hN hf htb
  have HB:Hid (Below w.heap.size w (((w.alloc (.cells #[.slice (some ⟨tb,tf,none⟩) len cap,.int .i64 now] 35)).alloc (.cells #[.slice none 0 0,.int .i64 0] 35)).alloc (.cells #[.slice none 0 0,.int .i64 now] 35))):=Below.on (bl2T w (.cells #[.slice (some ⟨tb,tf,none⟩) len cap,.int .i64 now] 35) (.cells #[.slice none 0 0,.int .i64 0] 35)) (bel_alloc ((w.alloc (.cells #[.slice (some ⟨tb,tf,none⟩) len cap,.int .i64 now] 35)).alloc (.cells #[.slice none 0 0,.int .i64 0] 35)) (.cells #[.slice none 0 0,.int .i64 now] 35))
  have HX:Hid (BoxR (((w.alloc (.cells #[.slice (some ⟨tb,tf,none⟩) len cap,.int .i64 now] 35)).alloc (.cells #[.slice none 0 0,.int .i64 0] 35)).alloc (.cells #[.slice none 0 0,.int .i64 now] 35)) w.heap.size [.slice (some ⟨tb,tf,none⟩) len cap,.int .i64 now]):=((boxR_new w [.slice (some ⟨tb,tf,none⟩) len cap,.int .i64 now] 35).below (bel_alloc (w.alloc (.cells #[.slice (some ⟨tb,tf,none⟩) len cap,.int .i64 now] 35)) (.cells #[.slice none 0 0,.int .i64 0] 35))).below (bel_alloc ((w.alloc (.cells #[.slice (some ⟨tb,tf,none⟩) len cap,.int .i64 now] 35)).alloc (.cells #[.slice none 0 0,.int .i64 0] 35)) (.cells #[.slice none 0 0,.int .i64 now] 35))
  have HZ:Hid (BoxW (((w.alloc (.cells #[.slice (some ⟨tb,tf,none⟩) len cap,.int .i64 now] 35)).alloc (.cells #[.slice none 0 0,.int .i64 0] 35)).alloc (.cells #[.slice none 0 0,.int .i64 now] 35)) (w.heap.size+1) [.slice none 0 0,.int .i64 0]):=(by
    have h:=(boxW_new (w.alloc (.cells #[.slice (some ⟨tb,tf,none⟩) len cap,.int .i64 now] 35)) [.slice none 0 0,.int .i64 0] 35).below (bel_alloc ((w.alloc (.cells #[.slice (some ⟨tb,tf,none⟩) len cap,.int .i64 now] 35)).alloc (.cells #[.slice none 0 0,.int .i64 0] 35)) (.cells #[.slice none 0 0,.int .i64 now] 35))
    simp only [World.size_alloc] at h
    exact h)
  have HO:Hid (BoxW (((w.alloc (.cells #[.slice (some ⟨tb,tf,none⟩) len cap,.int .i64 now] 35)).alloc (.cells #[.slice none 0 0,.int .i64 0] 35)).alloc (.cells #[.slice none 0 0,.int .i64 now] 35)) (w.heap.size+1+1) [.slice none 0 0,.int .i64 now]):=(by
    have h:=boxW_new ((w.alloc (.cells #[.slice (some ⟨tb,tf,none⟩) len cap,.int .i64 now] 35)).alloc (.cells #[.slice none 0 0,.int .i64 0] 35)) [.slice none 0 0,.int .i64 now] 35
    simp only [World.size_alloc] at h
    exact h)
  have t0b:(((w.alloc (.cells #[.slice (some ⟨tb,tf,none⟩) len cap,.int .i64 now] 35)).alloc (.cells #[.slice none 0 0,.int .i64 0] 35))).cell? ⟨w.heap.size,1,none⟩=some (.int .i64 now):=((boxR_new w [.slice (some ⟨tb,tf,none⟩) len cap,.int .i64 now] 35).below (bel_alloc (w.alloc (.cells #[.slice (some ⟨tb,tf,none⟩) len cap,.int .i64 now] 35)) (.cells #[.slice none 0 0,.int .i64 0] 35))).at0 1 _ rfl
  go_enter Tryz.func93,Tryz.ntmps93
  go_upto_region 2 with fail
  generalize (((w.alloc (.cells #[.slice (some ⟨tb,tf,none⟩) len cap,.int .i64 now] 35)).alloc (.cells #[.slice none 0 0,.int .i64 0] 35)).alloc (.cells #[.slice none 0 0,.int .i64 now] 35))=w0 at HB HX HZ HO ⊢
  obtain ⟨X,hX⟩:∃ X,X=w.heap.size:=⟨_,rfl⟩
  have HXw:Hid (X=w.heap.size):=hX
  rw [←hX] at HX HZ HO ⊢
  clear hX t0b
  go_wp2
  go_loopw [4] (fun i wr=>∃ (k:Nat) (v:Value) (ds:List (Nd × Na)),k≤len∧i=.int .i64 k∧ds.length=k∧ds.map (·.1)=l.take k∧Hid (CpI wr (X+1+1+1) v ds)∧Hid (BoxW wr (X+1+1) [v,.int .i64 now])∧Hid (BoxR wr X [.slice (some ⟨tb,tf,none⟩) len cap,.int .i64 now])∧Hid (BoxW wr (X+1) [.slice none 0 0,.int .i64 0])∧Hid (Below w.heap.size w wr)) (fun i _=>len-(intOf i).toNat)
  case atStart=>exact ⟨0,_,[],Nat.zero_le _,rfl,rfl,by simp,CpI.start _ _,HO,HX,HZ,HB⟩
  case round =>
    obtain ⟨k,v,ds,hk,rfl,hdl,hdm,hC,hO,hX,hZ,hB⟩:=hrel
    clear HB HX HZ HO
    have x0:wr.cell? ⟨X,0,none⟩=some (.slice (some ⟨tb,tf,none⟩) len cap):=hX.out.at0 0 _ rfl
    have o0:wr.cell? ⟨X+1+1,0,none⟩=some v:=hO.out.at0 0 _ rfl
    by_cases hlt:k<len
    · have hlt' : (k : Int) < (len : Int) := by omega
      have hk0:(0:Int)≤(k:Int):=by omega
      have HNX:Hid (N24 wr tb (tf+k*24) (ndAt l k) (Y k)):=range_below (HN.out k hlt).1 HTb.out hB.out
      have HFx:=HF.out k hlt
      have HIx:Hid (NdIn wr (ndAt l k) (Y k)):=(HN.out k hlt).2.below hB.out
      have hmp:∀ y':Na,(ds++[(ndAt l k,y')]).map (·.1)=l.take (k+1):=fun y'=>by rw [List.map_append,hdm,take_succ_nd l k (by omega)];rfl
      have HCn:Hid (∀ w',Below wr.heap.size wr w'→Calls Tryz.prog 140 #[.agg (ndV (ndAt l k) (Y k)).toArray] w' fun e w''=>∃ y':Na,e=.returned (.agg (ndV (ndAt l k) y').toArray)∧NdIn w'' (ndAt l k) y'∧NaFrom w'.heap.size y'∧Below w'.heap.size w' w''∧∀ b,NaAt y' b→b<w''.heap.size):=(fun w' hb=>sCopyNodeL_any _ _ HFx w' (HIx.out.below hb))
      clear HFx HIx hdm
      generalize ndAt l k=x at HNX hmp HCn
      generalize Y k=y at HNX HCn
      have HMp:Hid (∀ y':Na,(ds++[(x,y')]).map (·.1)=l.take (k+1)):=hmp
      clear hmp
      have hXne:X≠X+1+1:=by omega
      have HTX:Hid (tb≠X+1+1):=(by have:=HTb.out;have:=HXw.out;show _≠_;omega)
      go_upto_region 5 with fail
      refine wp_region_held_drew (S:=(fun w'=>w'.cell? ⟨X,0,none⟩=some (.slice (some ⟨tb,tf,none⟩) len cap)∧w'.rangeAt tb (tf+k*24) (ndV x y))) (by kernel_rfl) (by exact ⟨x0,HNX.out⟩) (fun hHeld=>?_)
      refine wpAnyH_take (i:=0) (v:=.pointer (some ⟨X+1+1,0,none⟩)) rfl (by kernel_rfl) (by kernel_rfl) (by kernel_rfl) (fun _ _ _ h=>h) (Or.inl ⟨by rfl,fun _ _=>by rfl⟩) hHeld ?_
      try simp only [Act.put,List.getElem_toArray,List.getElem_cons_zero,List.getElem_cons_succ,List.setIfInBounds_toArray,List.set_cons_zero,List.set_cons_succ]
      refine wpAnyH_take (i:=2) (v:=.pointer (some ⟨X,0,none⟩)) rfl (by kernel_rfl) (by kernel_rfl) (by kernel_rfl) (fun _ _ _ h=>h) (Or.inl ⟨by rfl,fun _ _=>by rfl⟩) hHeld ?_
      try simp only [Act.put,List.getElem_toArray,List.getElem_cons_zero,List.getElem_cons_succ,List.setIfInBounds_toArray,List.set_cons_zero,List.set_cons_succ]
      refine wpAnyH_take (i:=3) (v:=.slice (some ⟨tb,tf,none⟩) len cap) rfl (by kernel_rfl) (by kernel_rfl) (by kernel_rfl) (fun _ _ _ h=>h) (Or.inl ⟨by rfl,fun _ h=>by have h0:=h.1;go_simp⟩) hHeld ?_
      try simp only [Act.put,List.getElem_toArray,List.getElem_cons_zero,List.getElem_cons_succ,List.setIfInBounds_toArray,List.set_cons_zero,List.set_cons_succ]
      refine wpAnyH_take (i:=4) (v:=.int .i64 k) rfl (by kernel_rfl) (by kernel_rfl) (by kernel_rfl) (fun _ _ _ h=>h) (Or.inl ⟨by rfl,fun _ _=>by rfl⟩) hHeld ?_
      try simp only [Act.put,List.getElem_toArray,List.getElem_cons_zero,List.getElem_cons_succ,List.setIfInBounds_toArray,List.set_cons_zero,List.set_cons_succ]
      refine wpAnyH_take (i:=5) (v:=.pointer (some ⟨tb,tf+k*24,none⟩)) rfl (by kernel_rfl) (by kernel_rfl) (by kernel_rfl) (fun _ _ _ h=>h) (Or.inl ⟨by rfl,fun _ h=>by go_simp⟩) hHeld ?_
      try simp only [Act.put,List.getElem_toArray,List.getElem_cons_zero,List.getElem_cons_succ,List.setIfInBounds_toArray,List.set_cons_zero,List.set_cons_succ]
      refine wpAnyH_take (i:=6) (v:=.agg (ndV x y).toArray) rfl (by kernel_rfl) (by kernel_rfl) (by kernel_rfl) (fun _ _ _ h=>h) (yieldsIf_load_mid (by rfl) 84 _ rfl tb (tf+k*24) rfl _ _ (fun _ h=>h.2) Tryz.underlying84 rfl (by kernel_rfl)) hHeld ?_
      try simp only [Act.put,List.getElem_toArray,List.getElem_cons_zero,List.getElem_cons_succ,List.setIfInBounds_toArray,List.set_cons_zero,List.set_cons_succ]
      refine wpAnyH_ready (rs:=[1,7]) (by kernel_rfl) (by simp) ?_
      refine AllReadyH.cons rfl (fun K hK=>?_) (AllReadyH.cons rfl (fun K hK=>?_) AllReadyH.nil)
      · rw [if_pos (by rfl)]
        have o0q:wr.drew.cell? ⟨X+1+1,0,none⟩=some v:=o0
        go_simp
        refine hK.out _ _ hHeld (fun hHeld=>?_)
        clear hK K o0q
        try simp only [Act.put,List.getElem_toArray,List.getElem_cons_zero,List.getElem_cons_succ,List.setIfInBounds_toArray,List.set_cons_zero,List.set_cons_succ]
        refine wpAnyH_ready (rs:=[7]) (by kernel_rfl) (by simp) ?_
        refine AllReadyH.cons rfl (fun K hK=>?_) AllReadyH.nil
        rw [if_pos (by rfl)]
        go_simp
        refine (HCn.out _ (below_drewT (Below.refl _ _))).mono ?_
        rintro e w1 ⟨y1,rfl,hn1,hf1,hb1,hl1⟩
        simp only []
        have hb1q:Below wr.heap.size wr w1:=⟨hb1.os,hb1.tape,hb1.output,hb1.size,hb1.block⟩
        have hHeld1:(fun w'=>w'.cell? ⟨X,0,none⟩=some (.slice (some ⟨tb,tf,none⟩) len cap)∧w'.rangeAt tb (tf+k*24) (ndV x y)) w1:=⟨(hb1q.cell (p:=⟨X,0,none⟩) hX.out.lt).trans x0,range_below HNX.out (Nat.lt_of_lt_of_le HTb.out hB.out.size) hb1q⟩
        have HO1:Hid (BoxW w1 (X+1+1) [v,.int .i64 now]):=hO.out.below hb1q
        have HB1:Hid (Below w.heap.size w w1):=Below.on hB.out hb1q
        have HX1:Hid (BoxR w1 X [.slice (some ⟨tb,tf,none⟩) len cap,.int .i64 now]):=hX.out.below hb1q
        have HZ1:Hid (BoxW w1 (X+1) [.slice none 0 0,.int .i64 0]):=hZ.out.below hb1q
        obtain ⟨v2,w2,hr2,hC2,hb2,hsz2⟩:=hC.out.step hb1q (by have:=hO.out.lt;omega) x y1 hn1 hf1 hl1 (by omega)
        have HR2:Hid _:=hr2
        have HC2:Hid (CpI w2 (X+1+1+1) v2 (ds++[(x,y1)])):=hC2
        have HL:∀ b o,b<X+1+1+1→w2.cell? ⟨b,o,none⟩=w1.cell? ⟨b,o,none⟩:=fun b o h=>hb2.cell (p:=⟨b,o,none⟩) h
        have HLf:∀ b o,b<X+1+1+1→w2.frozen? ⟨b,o,none⟩=w1.frozen? ⟨b,o,none⟩:=fun b o h=>hb2.frozen (p:=⟨b,o,none⟩) h
        have HO2:Hid (BoxW w2 (X+1+1) [v,.int .i64 now]):=⟨Nat.lt_of_lt_of_le HO1.out.lt hsz2,range_keep HO1.out.at0 (fun j=>HL _ j (by omega)),fun j=>(HLf _ j (by omega)).trans (HO1.out.frz j)⟩
        have HX2:Hid (BoxR w2 X [.slice (some ⟨tb,tf,none⟩) len cap,.int .i64 now]):=⟨Nat.lt_of_lt_of_le HX1.out.lt hsz2,range_keep HX1.out.at0 (fun j=>HL _ j (by omega))⟩
        have HZ2:Hid (BoxW w2 (X+1) [.slice none 0 0,.int .i64 0]):=⟨Nat.lt_of_lt_of_le HZ1.out.lt hsz2,range_keep HZ1.out.at0 (fun j=>HL _ j (by omega)),fun j=>(HLf _ j (by omega)).trans (HZ1.out.frz j)⟩
        have HB2:Hid (Below w.heap.size w w2):=HB1.out.trans (hb2.mono (by have:=HXw.out;omega))
        have hHeld2:(fun w'=>w'.cell? ⟨X,0,none⟩=some (.slice (some ⟨tb,tf,none⟩) len cap)∧w'.rangeAt tb (tf+k*24) (ndV x y)) w2:=⟨HX2.out.at0 0 _ rfl,range_keep hHeld1.2 (fun j=>hb2.cell (p:=⟨tb,j,none⟩) (by have:=HTb.out;have:=HXw.out;show tb<_;omega))⟩
        have o0w:w1.cell? ⟨X+1+1,0,none⟩=some v:=HO1.out.at0 0 _ rfl
        have o0a:(w1.alloc (.cells (ndV x y1).toArray 84)).cell? ⟨X+1+1,0,none⟩=some v:=(HO1.out.below (bel_alloc w1 _)).at0 0 _ rfl
        have HHa:Hid ((fun w'=>w'.cell? ⟨X,0,none⟩=some (.slice (some ⟨tb,tf,none⟩) len cap)∧w'.rangeAt tb (tf+k*24) (ndV x y)) (w1.alloc (.cells (ndV x y1).toArray 84))):=⟨(HX1.out.below (bel_alloc w1 _)).at0 0 _ rfl,World.rangeAt_alloc hHeld1.2 _⟩
        have HH2:Hid ((fun w'=>w'.cell? ⟨X,0,none⟩=some (.slice (some ⟨tb,tf,none⟩) len cap)∧w'.rangeAt tb (tf+k*24) (ndV x y)) w2):=hHeld2
        clear hr2 hC2 hb2 hn1 hf1 hb1 hb1q hl1 HL HLf HO1 HX1 HZ1 HB1 hHeld2
        refine hK.out _ _ hHeld1 (fun hHeld=>?_)
        clear hK K
        try simp only [Act.put,List.getElem_toArray,List.getElem_cons_zero,List.getElem_cons_succ,List.setIfInBounds_toArray,List.set_cons_zero,List.set_cons_succ]
        refine wpAnyH_ready (rs:=[8]) (by kernel_rfl) (by simp) ?_
        refine AllReadyH.cons rfl (fun K hK=>?_) AllReadyH.nil
        refine step_run (by rfl) _ _ (exec_slice1 33 _ (by rfl) _ _ (by rfl) (run_one_nd x y1 _)) ?_
        refine hK.out _ _ HHa.out (fun hHeld=>?_)
        clear hK K
        try simp only [Act.put,List.getElem_toArray,List.getElem_cons_zero,List.getElem_cons_succ,List.setIfInBounds_toArray,List.set_cons_zero,List.set_cons_succ]
        refine wpAnyH_ready (rs:=[9]) (by kernel_rfl) (by simp) ?_
        refine AllReadyH.cons rfl (fun K hK=>?_) AllReadyH.nil
        refine step_appendT (by rfl) _ _ 33 (by rfl) _ _ _ _ (by rfl) (by rfl) HR2.out ?_
        refine hK.out _ _ HH2.out (fun hHeld=>?_)
        clear hK K
        try simp only [Act.put,List.getElem_toArray,List.getElem_cons_zero,List.getElem_cons_succ,List.setIfInBounds_toArray,List.set_cons_zero,List.set_cons_succ]
        refine wpAnyH_take (i:=10) (v:=.pointer (some ⟨X+1+1,0,none⟩)) rfl (by kernel_rfl) (by kernel_rfl) (by kernel_rfl) (fun _ _ _ h=>h) (Or.inl ⟨by rfl,fun _ _=>by rfl⟩) hHeld ?_
        try simp only [Act.put,List.getElem_toArray,List.getElem_cons_zero,List.getElem_cons_succ,List.setIfInBounds_toArray,List.set_cons_zero,List.set_cons_succ]
        refine wpAnyH_ready (rs:=[11]) (by kernel_rfl) (by simp) ?_
        refine AllReadyH.cons rfl (fun K hK=>?_) AllReadyH.nil
        rw [if_pos (by rfl)]
        have o2c:w2.cell? ⟨X+1+1,0,none⟩=some v:=HO2.out.at0 0 _ rfl
        have o2f:w2.frozen? ⟨X+1+1,0,none⟩=false:=HO2.out.frz 0
        obtain ⟨va,vl,vc,rfl⟩:∃ va vl vc,v2=.slice va vl vc:=row_slice HC2.out.own
        go_simp
        refine hK.out _ _ (by exact ⟨(HX2.out.other (by omega)).at0 0 _ rfl,range_other HH2.out.2 (fun e=>HTX.out e.symm)⟩) (fun hHeld=>?_)
        clear hK K o2c o2f
        try simp only [Act.put,List.getElem_toArray,List.getElem_cons_zero,List.getElem_cons_succ,List.setIfInBounds_toArray,List.set_cons_zero,List.set_cons_succ]
        refine wpAnyH_done (by kernel_rfl) ?_ _
        have HC3:Hid (CpI (w2.setCell ⟨X+1+1,0,none⟩ (.slice va vl vc)) (X+1+1+1) (.slice va vl vc) (ds++[(x,y1)])):=HC2.out.set (by omega)
        have HO3:Hid (BoxW (w2.setCell ⟨X+1+1,0,none⟩ (.slice va vl vc)) (X+1+1) [.slice va vl vc,.int .i64 now]):=HO2.out.set 0 (by simp) _
        have HX3:Hid (BoxR (w2.setCell ⟨X+1+1,0,none⟩ (.slice va vl vc)) X [.slice (some ⟨tb,tf,none⟩) len cap,.int .i64 now]):=HX2.out.other (by omega)
        have HZ3:Hid (BoxW (w2.setCell ⟨X+1+1,0,none⟩ (.slice va vl vc)) (X+1) [.slice none 0 0,.int .i64 0]):=HZ2.out.other (by omega)
        have HB3:Hid (Below w.heap.size w (w2.setCell ⟨X+1+1,0,none⟩ (.slice va vl vc))):=bl_setT HB2.out (by have:=HXw.out;omega)
        have HM:=HMp.out y1
        have hl2:(ds++[(x,y1)]).length=k+1:=by rw [List.length_append,hdl];rfl
        go_wp2
        go_roundw
        case rel=>exact ⟨k+1,_,_,by omega,by go_num,hl2,HM,HC3,HO3,HX3,HZ3,HB3⟩
        case measure=>simp [intOf];omega
      · rw [if_pos (by rfl)]
        go_simp
        refine (HCn.out _ (below_drewT (Below.refl _ _))).mono ?_
        rintro e w1 ⟨y1,rfl,hn1,hf1,hb1,hl1⟩
        simp only []
        have hb1q:Below wr.heap.size wr w1:=⟨hb1.os,hb1.tape,hb1.output,hb1.size,hb1.block⟩
        have hHeld1:(fun w'=>w'.cell? ⟨X,0,none⟩=some (.slice (some ⟨tb,tf,none⟩) len cap)∧w'.rangeAt tb (tf+k*24) (ndV x y)) w1:=⟨(hb1q.cell (p:=⟨X,0,none⟩) hX.out.lt).trans x0,range_below HNX.out (Nat.lt_of_lt_of_le HTb.out hB.out.size) hb1q⟩
        have HO1:Hid (BoxW w1 (X+1+1) [v,.int .i64 now]):=hO.out.below hb1q
        have HB1:Hid (Below w.heap.size w w1):=Below.on hB.out hb1q
        have HX1:Hid (BoxR w1 X [.slice (some ⟨tb,tf,none⟩) len cap,.int .i64 now]):=hX.out.below hb1q
        have HZ1:Hid (BoxW w1 (X+1) [.slice none 0 0,.int .i64 0]):=hZ.out.below hb1q
        obtain ⟨v2,w2,hr2,hC2,hb2,hsz2⟩:=hC.out.step hb1q (by have:=hO.out.lt;omega) x y1 hn1 hf1 hl1 (by omega)
        have HR2:Hid _:=hr2
        have HC2:Hid (CpI w2 (X+1+1+1) v2 (ds++[(x,y1)])):=hC2
        have HL:∀ b o,b<X+1+1+1→w2.cell? ⟨b,o,none⟩=w1.cell? ⟨b,o,none⟩:=fun b o h=>hb2.cell (p:=⟨b,o,none⟩) h
        have HLf:∀ b o,b<X+1+1+1→w2.frozen? ⟨b,o,none⟩=w1.frozen? ⟨b,o,none⟩:=fun b o h=>hb2.frozen (p:=⟨b,o,none⟩) h
        have HO2:Hid (BoxW w2 (X+1+1) [v,.int .i64 now]):=⟨Nat.lt_of_lt_of_le HO1.out.lt hsz2,range_keep HO1.out.at0 (fun j=>HL _ j (by omega)),fun j=>(HLf _ j (by omega)).trans (HO1.out.frz j)⟩
        have HX2:Hid (BoxR w2 X [.slice (some ⟨tb,tf,none⟩) len cap,.int .i64 now]):=⟨Nat.lt_of_lt_of_le HX1.out.lt hsz2,range_keep HX1.out.at0 (fun j=>HL _ j (by omega))⟩
        have HZ2:Hid (BoxW w2 (X+1) [.slice none 0 0,.int .i64 0]):=⟨Nat.lt_of_lt_of_le HZ1.out.lt hsz2,range_keep HZ1.out.at0 (fun j=>HL _ j (by omega)),fun j=>(HLf _ j (by omega)).trans (HZ1.out.frz j)⟩
        have HB2:Hid (Below w.heap.size w w2):=HB1.out.trans (hb2.mono (by have:=HXw.out;omega))
        have hHeld2:(fun w'=>w'.cell? ⟨X,0,none⟩=some (.slice (some ⟨tb,tf,none⟩) len cap)∧w'.rangeAt tb (tf+k*24) (ndV x y)) w2:=⟨HX2.out.at0 0 _ rfl,range_keep hHeld1.2 (fun j=>hb2.cell (p:=⟨tb,j,none⟩) (by have:=HTb.out;have:=HXw.out;show tb<_;omega))⟩
        have o0w:w1.cell? ⟨X+1+1,0,none⟩=some v:=HO1.out.at0 0 _ rfl
        have o0a:(w1.alloc (.cells (ndV x y1).toArray 84)).cell? ⟨X+1+1,0,none⟩=some v:=(HO1.out.below (bel_alloc w1 _)).at0 0 _ rfl
        have HHa:Hid ((fun w'=>w'.cell? ⟨X,0,none⟩=some (.slice (some ⟨tb,tf,none⟩) len cap)∧w'.rangeAt tb (tf+k*24) (ndV x y)) (w1.alloc (.cells (ndV x y1).toArray 84))):=⟨(HX1.out.below (bel_alloc w1 _)).at0 0 _ rfl,World.rangeAt_alloc hHeld1.2 _⟩
        have HH2:Hid ((fun w'=>w'.cell? ⟨X,0,none⟩=some (.slice (some ⟨tb,tf,none⟩) len cap)∧w'.rangeAt tb (tf+k*24) (ndV x y)) w2):=hHeld2
        clear hr2 hC2 hb2 hn1 hf1 hb1 hb1q hl1 HL HLf HO1 HX1 HZ1 HB1 hHeld2
        refine hK.out _ _ hHeld1 (fun hHeld=>?_)
        clear hK K
        try simp only [Act.put,List.getElem_toArray,List.getElem_cons_zero,List.getElem_cons_succ,List.setIfInBounds_toArray,List.set_cons_zero,List.set_cons_succ]
        refine wpAnyH_ready (rs:=[1,8]) (by kernel_rfl) (by simp) ?_
        refine AllReadyH.cons rfl (fun K hK=>?_) (AllReadyH.cons rfl (fun K hK=>?_) AllReadyH.nil)
        · rw [if_pos (by rfl)]
          have o0q:w1.cell? ⟨X+1+1,0,none⟩=some v:=o0w
          go_simp
          refine hK.out _ _ hHeld (fun hHeld=>?_)
          clear hK K o0q
          try simp only [Act.put,List.getElem_toArray,List.getElem_cons_zero,List.getElem_cons_succ,List.setIfInBounds_toArray,List.set_cons_zero,List.set_cons_succ]
          refine wpAnyH_ready (rs:=[8]) (by kernel_rfl) (by simp) ?_
          refine AllReadyH.cons rfl (fun K hK=>?_) AllReadyH.nil
          refine step_run (by rfl) _ _ (exec_slice1 33 _ (by rfl) _ _ (by rfl) (run_one_nd x y1 _)) ?_
          refine hK.out _ _ HHa.out (fun hHeld=>?_)
          clear hK K
          try simp only [Act.put,List.getElem_toArray,List.getElem_cons_zero,List.getElem_cons_succ,List.setIfInBounds_toArray,List.set_cons_zero,List.set_cons_succ]
          refine wpAnyH_ready (rs:=[9]) (by kernel_rfl) (by simp) ?_
          refine AllReadyH.cons rfl (fun K hK=>?_) AllReadyH.nil
          refine step_appendT (by rfl) _ _ 33 (by rfl) _ _ _ _ (by rfl) (by rfl) HR2.out ?_
          refine hK.out _ _ HH2.out (fun hHeld=>?_)
          clear hK K
          try simp only [Act.put,List.getElem_toArray,List.getElem_cons_zero,List.getElem_cons_succ,List.setIfInBounds_toArray,List.set_cons_zero,List.set_cons_succ]
          refine wpAnyH_take (i:=10) (v:=.pointer (some ⟨X+1+1,0,none⟩)) rfl (by kernel_rfl) (by kernel_rfl) (by kernel_rfl) (fun _ _ _ h=>h) (Or.inl ⟨by rfl,fun _ _=>by rfl⟩) hHeld ?_
          try simp only [Act.put,List.getElem_toArray,List.getElem_cons_zero,List.getElem_cons_succ,List.setIfInBounds_toArray,List.set_cons_zero,List.set_cons_succ]
          refine wpAnyH_ready (rs:=[11]) (by kernel_rfl) (by simp) ?_
          refine AllReadyH.cons rfl (fun K hK=>?_) AllReadyH.nil
          rw [if_pos (by rfl)]
          have o2c:w2.cell? ⟨X+1+1,0,none⟩=some v:=HO2.out.at0 0 _ rfl
          have o2f:w2.frozen? ⟨X+1+1,0,none⟩=false:=HO2.out.frz 0
          obtain ⟨va,vl,vc,rfl⟩:∃ va vl vc,v2=.slice va vl vc:=row_slice HC2.out.own
          go_simp
          refine hK.out _ _ (by exact ⟨(HX2.out.other (by omega)).at0 0 _ rfl,range_other HH2.out.2 (fun e=>HTX.out e.symm)⟩) (fun hHeld=>?_)
          clear hK K o2c o2f
          try simp only [Act.put,List.getElem_toArray,List.getElem_cons_zero,List.getElem_cons_succ,List.setIfInBounds_toArray,List.set_cons_zero,List.set_cons_succ]
          refine wpAnyH_done (by kernel_rfl) ?_ _
          have HC3:Hid (CpI (w2.setCell ⟨X+1+1,0,none⟩ (.slice va vl vc)) (X+1+1+1) (.slice va vl vc) (ds++[(x,y1)])):=HC2.out.set (by omega)
          have HO3:Hid (BoxW (w2.setCell ⟨X+1+1,0,none⟩ (.slice va vl vc)) (X+1+1) [.slice va vl vc,.int .i64 now]):=HO2.out.set 0 (by simp) _
          have HX3:Hid (BoxR (w2.setCell ⟨X+1+1,0,none⟩ (.slice va vl vc)) X [.slice (some ⟨tb,tf,none⟩) len cap,.int .i64 now]):=HX2.out.other (by omega)
          have HZ3:Hid (BoxW (w2.setCell ⟨X+1+1,0,none⟩ (.slice va vl vc)) (X+1) [.slice none 0 0,.int .i64 0]):=HZ2.out.other (by omega)
          have HB3:Hid (Below w.heap.size w (w2.setCell ⟨X+1+1,0,none⟩ (.slice va vl vc))):=bl_setT HB2.out (by have:=HXw.out;omega)
          have HM:=HMp.out y1
          have hl2:(ds++[(x,y1)]).length=k+1:=by rw [List.length_append,hdl];rfl
          go_wp2
          go_roundw
          case rel=>exact ⟨k+1,_,_,by omega,by go_num,hl2,HM,HC3,HO3,HX3,HZ3,HB3⟩
          case measure=>simp [intOf];omega
        · refine step_run (by rfl) _ _ (exec_slice1 33 _ (by rfl) _ _ (by rfl) (run_one_nd x y1 _)) ?_
          refine hK.out _ _ HHa.out (fun hHeld=>?_)
          clear hK K
          try simp only [Act.put,List.getElem_toArray,List.getElem_cons_zero,List.getElem_cons_succ,List.setIfInBounds_toArray,List.set_cons_zero,List.set_cons_succ]
          refine wpAnyH_ready (rs:=[1]) (by kernel_rfl) (by simp) ?_
          refine AllReadyH.cons rfl (fun K hK=>?_) AllReadyH.nil
          rw [if_pos (by rfl)]
          have o0q:(w1.alloc (.cells (ndV x y1).toArray 84)).cell? ⟨X+1+1,0,none⟩=some v:=o0a
          go_simp
          refine hK.out _ _ hHeld (fun hHeld=>?_)
          clear hK K o0q
          try simp only [Act.put,List.getElem_toArray,List.getElem_cons_zero,List.getElem_cons_succ,List.setIfInBounds_toArray,List.set_cons_zero,List.set_cons_succ]
          refine wpAnyH_ready (rs:=[9]) (by kernel_rfl) (by simp) ?_
          refine AllReadyH.cons rfl (fun K hK=>?_) AllReadyH.nil
          refine step_appendT (by rfl) _ _ 33 (by rfl) _ _ _ _ (by rfl) (by rfl) HR2.out ?_
          refine hK.out _ _ HH2.out (fun hHeld=>?_)
          clear hK K
          try simp only [Act.put,List.getElem_toArray,List.getElem_cons_zero,List.getElem_cons_succ,List.setIfInBounds_toArray,List.set_cons_zero,List.set_cons_succ]
          refine wpAnyH_take (i:=10) (v:=.pointer (some ⟨X+1+1,0,none⟩)) rfl (by kernel_rfl) (by kernel_rfl) (by kernel_rfl) (fun _ _ _ h=>h) (Or.inl ⟨by rfl,fun _ _=>by rfl⟩) hHeld ?_
          try simp only [Act.put,List.getElem_toArray,List.getElem_cons_zero,List.getElem_cons_succ,List.setIfInBounds_toArray,List.set_cons_zero,List.set_cons_succ]
          refine wpAnyH_ready (rs:=[11]) (by kernel_rfl) (by simp) ?_
          refine AllReadyH.cons rfl (fun K hK=>?_) AllReadyH.nil
          rw [if_pos (by rfl)]
          have o2c:w2.cell? ⟨X+1+1,0,none⟩=some v:=HO2.out.at0 0 _ rfl
          have o2f:w2.frozen? ⟨X+1+1,0,none⟩=false:=HO2.out.frz 0
          obtain ⟨va,vl,vc,rfl⟩:∃ va vl vc,v2=.slice va vl vc:=row_slice HC2.out.own
          go_simp
          refine hK.out _ _ (by exact ⟨(HX2.out.other (by omega)).at0 0 _ rfl,range_other HH2.out.2 (fun e=>HTX.out e.symm)⟩) (fun hHeld=>?_)
          clear hK K o2c o2f
          try simp only [Act.put,List.getElem_toArray,List.getElem_cons_zero,List.getElem_cons_succ,List.setIfInBounds_toArray,List.set_cons_zero,List.set_cons_succ]
          refine wpAnyH_done (by kernel_rfl) ?_ _
          have HC3:Hid (CpI (w2.setCell ⟨X+1+1,0,none⟩ (.slice va vl vc)) (X+1+1+1) (.slice va vl vc) (ds++[(x,y1)])):=HC2.out.set (by omega)
          have HO3:Hid (BoxW (w2.setCell ⟨X+1+1,0,none⟩ (.slice va vl vc)) (X+1+1) [.slice va vl vc,.int .i64 now]):=HO2.out.set 0 (by simp) _
          have HX3:Hid (BoxR (w2.setCell ⟨X+1+1,0,none⟩ (.slice va vl vc)) X [.slice (some ⟨tb,tf,none⟩) len cap,.int .i64 now]):=HX2.out.other (by omega)
          have HZ3:Hid (BoxW (w2.setCell ⟨X+1+1,0,none⟩ (.slice va vl vc)) (X+1) [.slice none 0 0,.int .i64 0]):=HZ2.out.other (by omega)
          have HB3:Hid (Below w.heap.size w (w2.setCell ⟨X+1+1,0,none⟩ (.slice va vl vc))):=bl_setT HB2.out (by have:=HXw.out;omega)
          have HM:=HMp.out y1
          have hl2:(ds++[(x,y1)]).length=k+1:=by rw [List.length_append,hdl];rfl
          go_wp2
          go_roundw
          case rel=>exact ⟨k+1,_,_,by omega,by go_num,hl2,HM,HC3,HO3,HX3,HZ3,HB3⟩
          case measure=>simp [intOf];omega
    · have : k = len := by omega
      subst this
      rw [List.take_of_length_le (by omega)] at hdm
      have o1:wr.cell? ⟨X+1+1,1,none⟩=some (.int .i64 now):=hO.out.at0 1 _ rfl
      have z0:wr.cell? ⟨X+1,0,none⟩=some (.slice none 0 0):=hZ.out.at0 0 _ rfl
      have z1:wr.cell? ⟨X+1,1,none⟩=some (.int .i64 0):=hZ.out.at0 1 _ rfl
      have fz:=hZ.out.frz
      obtain ⟨va,vl,vc,rfl⟩:∃ va vl vc,v=.slice va vl vc:=row_slice hC.out.own
      go_wp2
      refine bodyPost_ret (v:=.agg #[.slice va vl vc,.int .i64 now]) (by simp [results,Tryz.results93,go_sem,z0,z1]) rfl ⟨_,ds,rfl,?_,hdm,bl_setT (bl_setT hB.out (by have:=HXw.out;omega)) (by have:=HXw.out;omega)⟩
      rw [←HXw.out]
      exact (hC.out.set (by omega)).set (by omega)
end Go.Proofs.YtabfdidnjibdeaaGreatDoor
