/- Laid together: TrI2, DirY. -/
import Derived.Test.YtabfdidnjibdeaaGreatDoorBR5
namespace Go.Proofs.YtabfdidnjibdeaaGreatDoor
open Go.RowKit Go.PlainAid
set_option linter.unusedVariables false
set_option maxHeartbeats 4000000 in
theorem iNumber_any (a:Option Addr)(len cap:Nat)(l:List Nd)(now:Int)(n:Int)(hl:len≤1048576)(w:World) :
    Calls Tryz.prog 130 #[.agg #[.slice a len cap,.int .i64 now],.int .i64 n] w fun e w'=>e=.returned (.bool (inR 1 len n))∧Below w.heap.size w w':=by
  have HE:Hid (inR 1 len n=(decide (1≤n)&&decide (n≤len))):=rfl
  have HB:Hid (Below w.heap.size w (w.alloc (.cells #[.slice a len cap,.int .i64 now] 35))):=bel_alloc _ _
  have HX:Hid (BoxR (w.alloc (.cells #[.slice a len cap,.int .i64 now] 35)) w.heap.size [.slice a len cap,.int .i64 now]):=boxR_new _ _ _
  go_enter Tryz.func130,Tryz.ntmps130
  go_upto_region 1 with fail
  generalize (w.alloc (.cells #[.slice a len cap,.int .i64 now] 35))=w0 at HB HX ⊢
  obtain ⟨X,hX⟩:∃ X,X=w.heap.size:=⟨_,rfl⟩
  rw [←hX] at HX ⊢
  clear hX
  have t0:w0.cell? ⟨X,0,none⟩=some (.slice a len cap):=HX.out.at0 0 _ rfl
  have t1:w0.cell? ⟨X,1,none⟩=some (.int .i64 now):=HX.out.at0 1 _ rfl
  go_wp2
  all_goals go_ret
  all_goals (refine ⟨ret_boolW ?_,HB.out⟩;rw [HE.out];first | (simp [*];done) | (simp;omega))
set_option maxHeartbeats 4000000 in
theorem iThere_any (a:Option Addr)(len cap:Nat)(l:List Nd)(now:Int)(n:Int)(hl:len≤1048576)(w:World)(hi:Nds a len l w) :
    Calls Tryz.prog 90 #[.agg #[.slice a len cap,.int .i64 now],.int .i64 n] w fun e w'=>e=.returned (.bool (thB l n))∧Below w.heap.size w w':=by
  have HC:Hid (∀ w',Calls Tryz.prog 130 #[.agg #[.slice a len cap,.int .i64 now],.int .i64 n] w' fun e w''=>e=.returned (.bool (inR 1 len n))∧Below w'.heap.size w' w''):=(fun w'=>iNumber_any a len cap l now n hl w')
  have hll:=hi.1
  cases h:inR 1 len n
  · have HE : Hid (thB l n = false) := thB_off (by rw [hll]; exact h)
    rw [h] at HC
    clear hi hll
    have HB:Hid (Below w.heap.size w (w.alloc (.cells #[.slice a len cap,.int .i64 now] 35))):=bel_alloc _ _
    have HX:Hid (BoxR (w.alloc (.cells #[.slice a len cap,.int .i64 now] 35)) w.heap.size [.slice a len cap,.int .i64 now]):=boxR_new _ _ _
    go_enter Tryz.func90,Tryz.ntmps90
    go_upto_region 1 with fail
    generalize (w.alloc (.cells #[.slice a len cap,.int .i64 now] 35))=w0 at HB HX ⊢
    obtain ⟨X,hX⟩:∃ X,X=w.heap.size:=⟨_,rfl⟩
    rw [←hX] at HX ⊢
    clear hX
    have t0:w0.cell? ⟨X,0,none⟩=some (.slice a len cap):=HX.out.at0 0 _ rfl
    have t1:w0.cell? ⟨X,1,none⟩=some (.int .i64 now):=HX.out.at0 1 _ rfl
    go_wp2_with (go_at_call 130;refine (HC.out _).mono ?_;rintro e w1 ⟨rfl,hb⟩;have HB1:Hid (Below w.heap.size w w1):=Below.on HB.out hb;have HX1:Hid (BoxR w1 X [.slice a len cap,.int .i64 now]):=HX.out.below hb;clear hb;clear t0 t1;have t0:w1.cell? ⟨X,0,none⟩=some (.slice a len cap):=HX1.out.at0 0 _ rfl;have t1:w1.cell? ⟨X,1,none⟩=some (.int .i64 now):=HX1.out.at0 1 _ rfl)
    go_ret
    exact ⟨ret_boolW HE.out.symm,HB1.out⟩
  · rw [h] at HC
    have HE:Hid (∀ k:Nat,n=k+1→thB l n=((ndAt l k).k != 0)):=(fun k e=>by subst e;exact thB_in (by rw [hll];exact h))
    obtain ⟨h1,h2⟩:=inR_iff.1 h
    obtain ⟨k,rfl⟩:∃ k:Nat,n=(k:Int)+1:=⟨(n-1).toNat,by omega⟩
    have hk:k<len:=by omega
    obtain ⟨b,off,Y,rfl,hb0,hc⟩:=hi.2 (by omega)
    have HN:Hid (N24 w b (off+k*24) (ndAt l k) (Y k)):=(hc k hk).1
    clear hc hi
    have hk1:(k:Int)<(len:Int):=by omega
    have hk0:(0:Int)≤(k:Int):=by omega
    have HE2:Hid (thB l (k+1)=((ndAt l k).k != 0)):=HE.out k rfl
    clear HE hll
    have HB:Hid (Below w.heap.size w (w.alloc (.cells #[.slice (some ⟨b,off,none⟩) len cap,.int .i64 now] 35))):=bel_alloc _ _
    have HX:Hid (BoxR (w.alloc (.cells #[.slice (some ⟨b,off,none⟩) len cap,.int .i64 now] 35)) w.heap.size [.slice (some ⟨b,off,none⟩) len cap,.int .i64 now]):=boxR_new _ _ _
    go_enter Tryz.func90,Tryz.ntmps90
    go_upto_region 1 with fail
    generalize (w.alloc (.cells #[.slice (some ⟨b,off,none⟩) len cap,.int .i64 now] 35))=w0 at HB HX ⊢
    obtain ⟨X,hX⟩:∃ X,X=w.heap.size:=⟨_,rfl⟩
    rw [←hX] at HX ⊢
    clear hX
    have t0:w0.cell? ⟨X,0,none⟩=some (.slice (some ⟨b,off,none⟩) len cap):=HX.out.at0 0 _ rfl
    have t1:w0.cell? ⟨X,1,none⟩=some (.int .i64 now):=HX.out.at0 1 _ rfl
    go_wp2_with (go_at_call 130;refine (HC.out _).mono ?_;rintro e w1 ⟨rfl,hb⟩;have HB1:Hid (Below w.heap.size w w1):=Below.on HB.out hb;have HX1:Hid (BoxR w1 X [.slice (some ⟨b,off,none⟩) len cap,.int .i64 now]):=HX.out.below hb;clear hb;clear t0 t1;have t0:w1.cell? ⟨X,0,none⟩=some (.slice (some ⟨b,off,none⟩) len cap):=HX1.out.at0 0 _ rfl;have t1:w1.cell? ⟨X,1,none⟩=some (.int .i64 now):=HX1.out.at0 1 _ rfl;have c0:=N24.c0 (range_below HN.out hb0 HB1.out);clear HN;generalize ndAt l k=x at HE2 c0)
    all_goals go_ret
    all_goals exact ⟨ret_boolW (by rw [HE2.out]),HB1.out⟩
set_option maxRecDepth 20000 in
set_option maxHeartbeats 8000000 in
theorem iDirAt_no (a:Option Addr)(len cap:Nat)(l:List Nd)(now:Int)(n:Int)(hl:len≤1048576)(w:World)(hi:Nds a len l w)(hd:diB l n=false) :
    Calls Tryz.prog 127 #[.agg #[.slice a len cap,.int .i64 now],.int .i64 n] w fun e w'=>e=.returned (.tuple #[.agg (drV ndZ naZ 0).toArray,.bool false])∧Below w.heap.size w w':=by
  have HC:Hid (∀ w',Calls Tryz.prog 130 #[.agg #[.slice a len cap,.int .i64 now],.int .i64 n] w' fun e w''=>e=.returned (.bool (inR 1 len n))∧Below w'.heap.size w' w''):=(fun w'=>iNumber_any a len cap l now n hl w')
  have hll:=hi.1
  cases h:inR 1 len n
  · rw [h] at HC
    clear hi hll hd
    have HX:Hid (BoxR ((w.alloc (.cells #[.slice a len cap,.int .i64 now] 35)).alloc (.cells (drV ndZ naZ 0).toArray 162)) w.heap.size [.slice a len cap,.int .i64 now]):=(boxR_new w [.slice a len cap,.int .i64 now] 35).below (bel_alloc _ _)
    have HZ:Hid (BoxW ((w.alloc (.cells #[.slice a len cap,.int .i64 now] 35)).alloc (.cells (drV ndZ naZ 0).toArray 162)) (w.heap.size+1) (drV ndZ naZ 0)):=(by
      have h:=boxW_new (w.alloc (.cells #[.slice a len cap,.int .i64 now] 35)) (drV ndZ naZ 0) 162
      simp only [World.size_alloc] at h
      exact h)
    have HB:Hid (Below w.heap.size w ((w.alloc (.cells #[.slice a len cap,.int .i64 now] 35)).alloc (.cells (drV ndZ naZ 0).toArray 162))):=bl2T _ _ _
    go_enter Tryz.func127,Tryz.ntmps127
    go_upto_region 1 with fail
    have eZ:(#[.int .i64 0,.int .i64 0,.int .i64 0,.int .i64 0,.int .i64 0,.int .i64 0,.int .i64 0,.slice none 0 0,.slice none 0 0,.bool false,.int .i64 0,.bool false,.int .i64 0,.int .i64 0,.int .i64 0,.slice none 0 0,.slice none 0 0,.bool false,.int .i64 0,.int .i64 0,.int .i64 0,.string ⟨#[]⟩,.slice none 0 0,.int .i64 0,.int .i64 0]:Array Value)=(drV ndZ naZ 0).toArray:=rfl
    rw [eZ]
    clear eZ
    generalize ((w.alloc (.cells #[.slice a len cap,.int .i64 now] 35)).alloc (.cells (drV ndZ naZ 0).toArray 162))=w0 at HX HZ HB ⊢
    obtain ⟨X,hX⟩:∃ X,X=w.heap.size:=⟨_,rfl⟩
    have HXw:Hid (X=w.heap.size):=hX
    rw [←hX] at HX HZ ⊢
    clear hX
    have t0:w0.cell? ⟨X,0,none⟩=some (.slice a len cap):=HX.out.at0 0 _ rfl
    have t1:w0.cell? ⟨X,1,none⟩=some (.int .i64 now):=HX.out.at0 1 _ rfl
    go_upto_region 2 with (go_at_call 130;refine (HC.out _).mono ?_;rintro e w1 ⟨rfl,hb⟩;have HB1:Hid (Below w.heap.size w w1):=Below.on HB.out hb;have HX1:Hid (BoxR w1 X [.slice a len cap,.int .i64 now]):=HX.out.below hb;have HZ1:Hid (BoxW w1 (X+1) (drV ndZ naZ 0)):=HZ.out.below hb;clear hb t0 t1;have t0:w1.cell? ⟨X,0,none⟩=some (.slice a len cap):=HX1.out.at0 0 _ rfl;have t1:w1.cell? ⟨X,1,none⟩=some (.int .i64 now):=HX1.out.at0 1 _ rfl)
    go_wp2_with (first | (refine wpList_built (by rfl) 162 _ (by rfl) [] (by rfl) _ built_dir0 ?_) | (refine wpList_store_list (by rfl) 162 _ _ (by rfl) _ _ (drV ndZ naZ 0) (by rfl) (by rfl) (HZ1.out.there 0 25 (by simp [drV_len])) (by kernel_rfl) (drV_ones _ _ _) ?_) | (refine bodyPost_ret (v:=.tuple #[.agg (drV ndZ naZ 0).toArray,.bool false]) ?hres rfl ?hR;(case hres=>(have hr:=World.rangeAt_setCells_same w1 (X+1) 0 (drV ndZ naZ 0) (HZ1.out.there 0 25 (by simp [drV_len]));have hl2:=run_loadVar_mid (P:=Tryz.prog) _ _ _ 162 _ _ hr Tryz.underlying162 rfl (by kernel_rfl);exact results_two (a:=⟨X+1,0,none⟩) Tryz.results127 (by rfl) (by rfl) hl2));(case hR=>exact ⟨rfl,bl_setsT (by have:=HXw.out;omega) _ _ HB1.out⟩)))
  · rw [h] at HC
    have HE:Hid (∀ k:Nat,n=k+1→((ndAt l k).k==1)=false):=(fun k e=>by subst e;exact diB_not (by rw [hll];exact h) hd)
    obtain ⟨h1,h2⟩:=inR_iff.1 h
    obtain ⟨k,rfl⟩:∃ k:Nat,n=(k:Int)+1:=⟨(n-1).toNat,by omega⟩
    have hk:k<len:=by omega
    obtain ⟨b,off,Y,rfl,hb0,hc⟩:=hi.2 (by omega)
    have HN:Hid (N24 w b (off+k*24) (ndAt l k) (Y k)):=(hc k hk).1
    clear hc hi
    have hk1:(k:Int)<(len:Int):=by omega
    have hk0:(0:Int)≤(k:Int):=by omega
    have HE2:Hid (((ndAt l k).k==1)=false):=HE.out k rfl
    clear HE hll hd
    have HX:Hid (BoxR ((w.alloc (.cells #[.slice (some ⟨b,off,none⟩) len cap,.int .i64 now] 35)).alloc (.cells (drV ndZ naZ 0).toArray 162)) w.heap.size [.slice (some ⟨b,off,none⟩) len cap,.int .i64 now]):=(boxR_new w [.slice (some ⟨b,off,none⟩) len cap,.int .i64 now] 35).below (bel_alloc _ _)
    have HZ:Hid (BoxW ((w.alloc (.cells #[.slice (some ⟨b,off,none⟩) len cap,.int .i64 now] 35)).alloc (.cells (drV ndZ naZ 0).toArray 162)) (w.heap.size+1) (drV ndZ naZ 0)):=(by
      have h:=boxW_new (w.alloc (.cells #[.slice (some ⟨b,off,none⟩) len cap,.int .i64 now] 35)) (drV ndZ naZ 0) 162
      simp only [World.size_alloc] at h
      exact h)
    have HB:Hid (Below w.heap.size w ((w.alloc (.cells #[.slice (some ⟨b,off,none⟩) len cap,.int .i64 now] 35)).alloc (.cells (drV ndZ naZ 0).toArray 162))):=bl2T _ _ _
    go_enter Tryz.func127,Tryz.ntmps127
    go_upto_region 1 with fail
    have eZ:(#[.int .i64 0,.int .i64 0,.int .i64 0,.int .i64 0,.int .i64 0,.int .i64 0,.int .i64 0,.slice none 0 0,.slice none 0 0,.bool false,.int .i64 0,.bool false,.int .i64 0,.int .i64 0,.int .i64 0,.slice none 0 0,.slice none 0 0,.bool false,.int .i64 0,.int .i64 0,.int .i64 0,.string ⟨#[]⟩,.slice none 0 0,.int .i64 0,.int .i64 0]:Array Value)=(drV ndZ naZ 0).toArray:=rfl
    rw [eZ]
    clear eZ
    generalize ((w.alloc (.cells #[.slice (some ⟨b,off,none⟩) len cap,.int .i64 now] 35)).alloc (.cells (drV ndZ naZ 0).toArray 162))=w0 at HX HZ HB ⊢
    obtain ⟨X,hX⟩:∃ X,X=w.heap.size:=⟨_,rfl⟩
    have HXw:Hid (X=w.heap.size):=hX
    rw [←hX] at HX HZ ⊢
    clear hX
    have t0:w0.cell? ⟨X,0,none⟩=some (.slice (some ⟨b,off,none⟩) len cap):=HX.out.at0 0 _ rfl
    have t1:w0.cell? ⟨X,1,none⟩=some (.int .i64 now):=HX.out.at0 1 _ rfl
    go_upto_region 2 with (go_at_call 130;refine (HC.out _).mono ?_;rintro e w1 ⟨rfl,hb⟩;have HB1:Hid (Below w.heap.size w w1):=Below.on HB.out hb;have HX1:Hid (BoxR w1 X [.slice (some ⟨b,off,none⟩) len cap,.int .i64 now]):=HX.out.below hb;have HZ1:Hid (BoxW w1 (X+1) (drV ndZ naZ 0)):=HZ.out.below hb;clear hb t0 t1;have t0:w1.cell? ⟨X,0,none⟩=some (.slice (some ⟨b,off,none⟩) len cap):=HX1.out.at0 0 _ rfl;have t1:w1.cell? ⟨X,1,none⟩=some (.int .i64 now):=HX1.out.at0 1 _ rfl;have c0:=N24.c0 (range_below HN.out hb0 HB1.out);clear HN;generalize ndAt l k=x at HE2 c0;have hne:(x.k != 1)=true:=(by rw [bne,HE2.out];rfl))
    go_wp2_with (first | (refine wpList_built (by rfl) 162 _ (by rfl) [] (by rfl) _ built_dir0 ?_) | (refine wpList_store_list (by rfl) 162 _ _ (by rfl) _ _ (drV ndZ naZ 0) (by rfl) (by rfl) (HZ1.out.there 0 25 (by simp [drV_len])) (by kernel_rfl) (drV_ones _ _ _) ?_) | (refine bodyPost_ret (v:=.tuple #[.agg (drV ndZ naZ 0).toArray,.bool false]) ?hres rfl ?hR;(case hres=>(have hr:=World.rangeAt_setCells_same w1 (X+1) 0 (drV ndZ naZ 0) (HZ1.out.there 0 25 (by simp [drV_len]));have hl2:=run_loadVar_mid (P:=Tryz.prog) _ _ _ 162 _ _ hr Tryz.underlying162 rfl (by kernel_rfl);exact results_two (a:=⟨X+1,0,none⟩) Tryz.results127 (by rfl) (by rfl) hl2));(case hR=>exact ⟨rfl,bl_setsT (by have:=HXw.out;omega) _ _ HB1.out⟩)))

set_option maxRecDepth 20000 in
set_option maxHeartbeats 8000000 in
theorem iDirAt_yes (a:Option Addr)(len cap:Nat)(l:List Nd)(now:Int)(k:Nat)(hl:len≤1048576)(w:World)(hi:Nds a len l w)(hd:diB l ((k:Int)+1)=true) :
    Calls Tryz.prog 127 #[.agg #[.slice a len cap,.int .i64 now],.int .i64 ((k:Int)+1)] w fun e w'=>∃ y,e=.returned (.tuple #[.agg (drV (ndAt l k) y ((k:Int)+1)).toArray,.bool true])∧NdIn w' (ndAt l k) y∧Below w.heap.size w w':=by
  have hll:=hi.1
  have h:inR 1 len ((k:Int)+1)=true:=by rw [←hll];exact thB_num (diB_th hd)
  have HC:Hid (∀ w',Calls Tryz.prog 130 #[.agg #[.slice a len cap,.int .i64 now],.int .i64 ((k:Int)+1)] w' fun e w''=>e=.returned (.bool true)∧Below w'.heap.size w' w''):=(fun w'=>by have:=iNumber_any a len cap l now ((k:Int)+1) hl w';rwa [h] at this)
  have hk1':((ndAt l k).k==1)=true:=by rw [←diB_in (diB_th hd)];exact hd
  obtain ⟨h1,h2⟩:=inR_iff.1 h
  have hk:k<len:=by omega
  obtain ⟨b,off,Y,rfl,hb0,hc⟩:=hi.2 (by omega)
  have HN:Hid (N24 w b (off+k*24) (ndAt l k) (Y k)):=(hc k hk).1
  have HM:Hid (NdIn w (ndAt l k) (Y k)):=(hc k hk).2
  clear hc hi hd h h1 h2 hll
  have hk1:(k:Int)<(len:Int):=by omega
  have hk0:(0:Int)≤(k:Int):=by omega
  obtain ⟨x,hx⟩:∃ x,x=ndAt l k:=⟨_,rfl⟩
  rw [←hx] at HN HM hk1' ⊢
  clear hx
  generalize Y k=y at HN HM
  have hne:(x.k != 1)=false:=by rw [bne,hk1'];rfl
  have HX:Hid (BoxR ((w.alloc (.cells #[.slice (some ⟨b,off,none⟩) len cap,.int .i64 now] 35)).alloc (.cells (drV ndZ naZ 0).toArray 162)) w.heap.size [.slice (some ⟨b,off,none⟩) len cap,.int .i64 now]):=(boxR_new w [.slice (some ⟨b,off,none⟩) len cap,.int .i64 now] 35).below (bel_alloc _ _)
  have HZ:Hid (BoxW ((w.alloc (.cells #[.slice (some ⟨b,off,none⟩) len cap,.int .i64 now] 35)).alloc (.cells (drV ndZ naZ 0).toArray 162)) (w.heap.size+1) (drV ndZ naZ 0)):=(by
    have h:=boxW_new (w.alloc (.cells #[.slice (some ⟨b,off,none⟩) len cap,.int .i64 now] 35)) (drV ndZ naZ 0) 162
    simp only [World.size_alloc] at h
    exact h)
  have HB:Hid (Below w.heap.size w ((w.alloc (.cells #[.slice (some ⟨b,off,none⟩) len cap,.int .i64 now] 35)).alloc (.cells (drV ndZ naZ 0).toArray 162))):=bl2T _ _ _
  go_enter Tryz.func127,Tryz.ntmps127
  go_upto_region 1 with fail
  have eZ:(#[.int .i64 0,.int .i64 0,.int .i64 0,.int .i64 0,.int .i64 0,.int .i64 0,.int .i64 0,.slice none 0 0,.slice none 0 0,.bool false,.int .i64 0,.bool false,.int .i64 0,.int .i64 0,.int .i64 0,.slice none 0 0,.slice none 0 0,.bool false,.int .i64 0,.int .i64 0,.int .i64 0,.string ⟨#[]⟩,.slice none 0 0,.int .i64 0,.int .i64 0]:Array Value)=(drV ndZ naZ 0).toArray:=rfl
  rw [eZ]
  clear eZ
  generalize ((w.alloc (.cells #[.slice (some ⟨b,off,none⟩) len cap,.int .i64 now] 35)).alloc (.cells (drV ndZ naZ 0).toArray 162))=w0 at HX HZ HB ⊢
  obtain ⟨X,hX⟩:∃ X,X=w.heap.size:=⟨_,rfl⟩
  have HXw:Hid (X=w.heap.size):=hX
  rw [←hX] at HX HZ ⊢
  clear hX
  have t0:w0.cell? ⟨X,0,none⟩=some (.slice (some ⟨b,off,none⟩) len cap):=HX.out.at0 0 _ rfl
  have t1:w0.cell? ⟨X,1,none⟩=some (.int .i64 now):=HX.out.at0 1 _ rfl
  go_upto_region 3 with (go_at_call 130;refine (HC.out _).mono ?_;rintro e w1 ⟨rfl,hb⟩;have HB1:Hid (Below w.heap.size w w1):=Below.on HB.out hb;have HX1:Hid (BoxR w1 X [.slice (some ⟨b,off,none⟩) len cap,.int .i64 now]):=HX.out.below hb;have HZ1:Hid (BoxW w1 (X+1) (drV ndZ naZ 0)):=HZ.out.below hb;clear hb t0 t1;have t0:w1.cell? ⟨X,0,none⟩=some (.slice (some ⟨b,off,none⟩) len cap):=HX1.out.at0 0 _ rfl;have t1:w1.cell? ⟨X,1,none⟩=some (.int .i64 now):=HX1.out.at0 1 _ rfl;have HN1:Hid (N24 w1 b (off+k*24) x y):=range_below HN.out hb0 HB1.out;have c0:=N24.c0 HN1.out)
  go_wp2_with (first | (refine wpList_load_mid (by rfl) 84 _ (by rfl) _ _ (by rfl) _ _ HN1.out Tryz.underlying84 rfl (by kernel_rfl) ?_) | (refine wpList_built2 (by rfl) 162 _ _ (by rfl) _ _ (by rfl) (by rfl) _ (built_dir x y _) ?_) | (refine wpList_store_list (by rfl) 162 _ _ (by rfl) _ _ (drV x y ((k:Int)+1)) (by rfl) (by rfl) (HZ1.out.there 0 25 (by simp [drV_len])) (by kernel_rfl) (drV_ones _ _ _) ?_) | (refine bodyPost_ret (v:=.tuple #[.agg (drV x y ((k:Int)+1)).toArray,.bool true]) ?hres rfl ?hR;(case hres=>(have hr:=World.rangeAt_setCells_same w1 (X+1) 0 (drV x y ((k:Int)+1)) (HZ1.out.there 0 25 (by simp [drV_len]));have hl2:=run_loadVar_mid (P:=Tryz.prog) _ _ _ 162 _ _ hr Tryz.underlying162 rfl (by kernel_rfl);exact results_two (a:=⟨X+1,0,none⟩) Tryz.results127 (by rfl) (by rfl) hl2));(case hR=>exact ⟨y,rfl,HM.out.below (bl_setsT (by have:=HXw.out;omega) _ _ HB1.out),bl_setsT (by have:=HXw.out;omega) _ _ HB1.out⟩)))
end Go.Proofs.YtabfdidnjibdeaaGreatDoor
namespace Go.Proofs.YtabfdidnjibdeaaGreatDoor
open Go.RowKit Go.PlainAid Go.Deep
set_option linter.unusedVariables false
set_option maxRecDepth 20000 in
set_option maxHeartbeats 8000000 in
theorem iDirAt_at (b off len cap:Nat)(l:List Nd)(now:Int)(k:Nat)(y:Na)(hl:len≤1048576)(hk:k<len)(hll:l.length=len)(w:World)(hb0:b<w.heap.size)(hN:N24 w b (off+k*24) (ndAt l k) y)(hk1':((ndAt l k).k==1)=true) :
    Calls Tryz.prog 127 #[.agg #[.slice (some ⟨b,off,none⟩) len cap,.int .i64 now],.int .i64 ((k:Int)+1)] w fun e w'=>e=.returned (.tuple #[.agg (drV (ndAt l k) y ((k:Int)+1)).toArray,.bool true])∧Below w.heap.size w w':=by
  have h:inR 1 len ((k:Int)+1)=true:=inR_iff.2 ⟨by omega,by omega⟩
  have HC:Hid (∀ w',Calls Tryz.prog 130 #[.agg #[.slice (some ⟨b,off,none⟩) len cap,.int .i64 now],.int .i64 ((k:Int)+1)] w' fun e w''=>e=.returned (.bool true)∧Below w'.heap.size w' w''):=(fun w'=>by have:=iNumber_any (some ⟨b,off,none⟩) len cap l now ((k:Int)+1) hl w';rwa [h] at this)
  have HN:Hid (N24 w b (off+k*24) (ndAt l k) y):=hN
  clear hN h hll
  have hk1:(k:Int)<(len:Int):=by omega
  have hk0:(0:Int)≤(k:Int):=by omega
  obtain ⟨x,hx⟩:∃ x,x=ndAt l k:=⟨_,rfl⟩
  rw [←hx] at HN hk1' ⊢
  clear hx
  have hne:(x.k != 1)=false:=by rw [bne,hk1'];rfl
  have HX:Hid (BoxR ((w.alloc (.cells #[.slice (some ⟨b,off,none⟩) len cap,.int .i64 now] 35)).alloc (.cells (drV ndZ naZ 0).toArray 162)) w.heap.size [.slice (some ⟨b,off,none⟩) len cap,.int .i64 now]):=(boxR_new w [.slice (some ⟨b,off,none⟩) len cap,.int .i64 now] 35).below (bel_alloc _ _)
  have HZ:Hid (BoxW ((w.alloc (.cells #[.slice (some ⟨b,off,none⟩) len cap,.int .i64 now] 35)).alloc (.cells (drV ndZ naZ 0).toArray 162)) (w.heap.size+1) (drV ndZ naZ 0)):=(by
    have h:=boxW_new (w.alloc (.cells #[.slice (some ⟨b,off,none⟩) len cap,.int .i64 now] 35)) (drV ndZ naZ 0) 162
    simp only [World.size_alloc] at h
    exact h)
  have HB:Hid (Below w.heap.size w ((w.alloc (.cells #[.slice (some ⟨b,off,none⟩) len cap,.int .i64 now] 35)).alloc (.cells (drV ndZ naZ 0).toArray 162))):=bl2T _ _ _
  go_enter Tryz.func127,Tryz.ntmps127
  go_upto_region 1 with fail
  have eZ:(#[.int .i64 0,.int .i64 0,.int .i64 0,.int .i64 0,.int .i64 0,.int .i64 0,.int .i64 0,.slice none 0 0,.slice none 0 0,.bool false,.int .i64 0,.bool false,.int .i64 0,.int .i64 0,.int .i64 0,.slice none 0 0,.slice none 0 0,.bool false,.int .i64 0,.int .i64 0,.int .i64 0,.string ⟨#[]⟩,.slice none 0 0,.int .i64 0,.int .i64 0]:Array Value)=(drV ndZ naZ 0).toArray:=rfl
  rw [eZ]
  clear eZ
  generalize ((w.alloc (.cells #[.slice (some ⟨b,off,none⟩) len cap,.int .i64 now] 35)).alloc (.cells (drV ndZ naZ 0).toArray 162))=w0 at HX HZ HB ⊢
  obtain ⟨X,hX⟩:∃ X,X=w.heap.size:=⟨_,rfl⟩
  have HXw:Hid (X=w.heap.size):=hX
  rw [←hX] at HX HZ ⊢
  clear hX
  have t0:w0.cell? ⟨X,0,none⟩=some (.slice (some ⟨b,off,none⟩) len cap):=HX.out.at0 0 _ rfl
  have t1:w0.cell? ⟨X,1,none⟩=some (.int .i64 now):=HX.out.at0 1 _ rfl
  go_upto_region 3 with (go_at_call 130;refine (HC.out _).mono ?_;rintro e w1 ⟨rfl,hb⟩;have HB1:Hid (Below w.heap.size w w1):=Below.on HB.out hb;have HX1:Hid (BoxR w1 X [.slice (some ⟨b,off,none⟩) len cap,.int .i64 now]):=HX.out.below hb;have HZ1:Hid (BoxW w1 (X+1) (drV ndZ naZ 0)):=HZ.out.below hb;clear hb t0 t1;have t0:w1.cell? ⟨X,0,none⟩=some (.slice (some ⟨b,off,none⟩) len cap):=HX1.out.at0 0 _ rfl;have t1:w1.cell? ⟨X,1,none⟩=some (.int .i64 now):=HX1.out.at0 1 _ rfl;have HN1:Hid (N24 w1 b (off+k*24) x y):=range_below HN.out hb0 HB1.out;have c0:=N24.c0 HN1.out)
  go_wp2_with (first | (refine wpList_load_mid (by rfl) 84 _ (by rfl) _ _ (by rfl) _ _ HN1.out Tryz.underlying84 rfl (by kernel_rfl) ?_) | (refine wpList_built2 (by rfl) 162 _ _ (by rfl) _ _ (by rfl) (by rfl) _ (built_dir x y _) ?_) | (refine wpList_store_list (by rfl) 162 _ _ (by rfl) _ _ (drV x y ((k:Int)+1)) (by rfl) (by rfl) (HZ1.out.there 0 25 (by simp [drV_len])) (by kernel_rfl) (drV_ones _ _ _) ?_) | (refine bodyPost_ret (v:=.tuple #[.agg (drV x y ((k:Int)+1)).toArray,.bool true]) ?hres rfl ?hR;(case hres=>(have hr:=World.rangeAt_setCells_same w1 (X+1) 0 (drV x y ((k:Int)+1)) (HZ1.out.there 0 25 (by simp [drV_len]));have hl2:=run_loadVar_mid (P:=Tryz.prog) _ _ _ 162 _ _ hr Tryz.underlying162 rfl (by kernel_rfl);exact results_two (a:=⟨X+1,0,none⟩) Tryz.results127 (by rfl) (by rfl) hl2));(case hR=>exact ⟨rfl,bl_setsT (by have:=HXw.out;omega) _ _ HB1.out⟩)))
end Go.Proofs.YtabfdidnjibdeaaGreatDoor
