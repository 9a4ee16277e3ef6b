/- Laid together: LetS, WkS2, WkE, WkS3. -/
import Derived.Test.YtabfdidnjibdeaaGreatDoorBR27
import Derived.Test.YtabfdidnjibdeaaGreatDoorBR21
import Derived.BigRegion
namespace Go.Proofs.YtabfdidnjibdeaaGreatDoor
open Go.RowKit Go.PlainAid Go.Deep
set_option linter.unusedVariables false
set_option maxRecDepth 20000 in
set_option maxHeartbeats 8000000 in
theorem sLet_any (x:Nd)(y:Na)(u g:Int)(ca:Option Addr)(cl cc:Nat)(r:Bool)(cf:Nat→Int)(want:Int)(ha:Ask x u g cl cf want)(w:World)(hi:NdIn w x y)(hci:Ints ca cl cf w) :
    Calls Tryz.prog 47 #[.agg (ndV x y).toArray,.agg #[.int .i64 u,.int .i64 g,.slice ca cl cc,.bool r],.int .i64 want] w fun e w'=>e=.returned (.bool (letB x u g cl r cf want))∧Below w.heap.size w w':=by
  have hs:=ha.sound
  cases r
  · have HE : Hid (letB x u g cl false cf want = mayB x.A.u x.A.g x.A.o x.A.us x.A.gs x.A.r x.A.m x.ow x.gr u g cl cf want) := rfl
    have HM:Hid (∀ w',Below w.heap.size w w'→Calls Tryz.prog 89 #[.agg #[.int .i64 x.A.u,.int .i64 x.A.g,.int .i64 x.A.o,.slice y.aU x.A.us.length y.cU,.slice y.aG x.A.gs.length y.cG,.bool x.A.r,.int .i64 x.A.m],.int .i64 x.ow,.int .i64 x.gr,.agg #[.int .i64 u,.int .i64 g,.slice ca cl cc,.bool false],.int .i64 want] w' fun e w''=>e=.returned (.bool (mayB x.A.u x.A.g x.A.o x.A.us x.A.gs x.A.r x.A.m x.ow x.gr u g cl cf want))∧Below w'.heap.size w' w''):=(fun w' hb=>sMay_any x.A.u x.A.g x.A.o _ _ _ _ _ _ x.A.r x.A.m x.A.us x.A.gs x.ow x.gr u g _ _ _ _ cf want ha.fine w' (hi.aU.below hb) (hi.aG.below hb) (hci.below hb))
    clear hi hci ha hs
    generalize mayB x.A.u x.A.g x.A.o x.A.us x.A.gs x.A.r x.A.m x.ow x.gr u g cl cf want=mb at HE HM
    have HX:Hid (BoxR ((w.alloc (.cells (ndV x y).toArray 84)).alloc (.cells #[.int .i64 u,.int .i64 g,.slice ca cl cc,.bool false] 37)) w.heap.size (ndV x y)):=(boxR_new w (ndV x y) 84).below (bel_alloc _ _)
    have HC:Hid (BoxR ((w.alloc (.cells (ndV x y).toArray 84)).alloc (.cells #[.int .i64 u,.int .i64 g,.slice ca cl cc,.bool false] 37)) (w.heap.size+1) [.int .i64 u,.int .i64 g,.slice ca cl cc,.bool false]):=(by
      have h:=boxR_new (w.alloc (.cells (ndV x y).toArray 84)) [.int .i64 u,.int .i64 g,.slice ca cl cc,.bool false] 37
      simp only [World.size_alloc] at h
      exact h)
    have HB:Hid (Below w.heap.size w ((w.alloc (.cells (ndV x y).toArray 84)).alloc (.cells #[.int .i64 u,.int .i64 g,.slice ca cl cc,.bool false] 37))):=bl2T _ _ _
    go_enter Tryz.func47,Tryz.ntmps47
    go_upto_region 1 with fail
    generalize ((w.alloc (.cells (ndV x y).toArray 84)).alloc (.cells #[.int .i64 u,.int .i64 g,.slice ca cl cc,.bool false] 37))=w0 at HX HC HB ⊢
    obtain ⟨X,hX⟩:∃ X,X=w.heap.size:=⟨_,rfl⟩
    rw [←hX] at HX HC ⊢
    clear hX
    have e0:=NB.c0 HX.out
    have e1:=NB.c1 HX.out
    have e2:=NB.c2 HX.out
    have e3:=NB.c3 HX.out
    have e4:=NB.c4 HX.out
    have e5:=NB.c5 HX.out
    have e6:=NB.c6 HX.out
    have e7:=NB.c7 HX.out
    have e8:=NB.c8 HX.out
    have e9:=NB.c9 HX.out
    have e10:=NB.c10 HX.out
    have y0:w0.cell? ⟨X+1,0,none⟩=some (.int .i64 u):=HC.out.at0 0 _ rfl
    have y1:w0.cell? ⟨X+1,1,none⟩=some (.int .i64 g):=HC.out.at0 1 _ rfl
    have y2:w0.cell? ⟨X+1,2,none⟩=some (.slice ca cl cc):=HC.out.at0 2 _ rfl
    have y3:w0.cell? ⟨X+1,3,none⟩=some (.bool false):=HC.out.at0 3 _ rfl
    go_wp2_with (go_at_call 89;refine (HM.out _ HB.out).mono ?_;rintro e w1 ⟨rfl,hb⟩;replace HB:Hid (Below w.heap.size w w1):=Below.on HB.out hb;clear hb)
    go_ret
    exact ⟨ret_boolW HE.out.symm,HB.out⟩
  have HE0:Hid (letB x u g cl true cf want=rootB x want):=rfl
  have HG:Hid (∀ w,Calls Tryz.prog 88 #[.agg #[.int .i64 x.A.u,.int .i64 x.A.g,.int .i64 x.A.o,.slice y.aU x.A.us.length y.cU,.slice y.aG x.A.gs.length y.cG,.bool x.A.r,.int .i64 x.A.m]] w fun e w'=>e=.returned (.int .i64 (clsOf x.A.g x.A.r x.A.m))∧Below w.heap.size w w'):=sClass_any x.A.u x.A.g x.A.o _ _ _ _ _ _ x.A.r x.A.m
  have p1:=par2 hs.v0
  have p2:=par2 hs.u0
  have p3:=par2 hs.k0
  have p4:=par2 hs.o0
  obtain ⟨kk,hkk⟩:∃ kk,kk=clsOf x.A.g x.A.r x.A.m:=⟨_,rfl⟩
  have hk0:=hs.k0
  have hk1:=hs.k1
  have hv0:=hs.v0
  have hv1:=hs.v1
  have hu0:=hs.u0
  have hu1:=hs.u1
  have ho0:=hs.o0
  have ho1:=hs.o1
  have HR:Hid (rootB x want=(x.k==1||(want%2==0||(x.A.u%2==1||(kk%2==1||x.A.o%2==1))))):=(by show _=_;rw [hkk];rfl)
  rw [←hkk] at p3 HG hk0 hk1
  clear hi hci ha hs hkk
  cases q0:(x.k==1)
  case true =>
    have HE:Hid (letB x u g cl true cf want=true):=(by show _=_;rw [HE0.out,HR.out,q0];rfl)
    clear p1 p2 p3 p4 HR HE0
    have HX:Hid (BoxR ((w.alloc (.cells (ndV x y).toArray 84)).alloc (.cells #[.int .i64 u,.int .i64 g,.slice ca cl cc,.bool true] 37)) w.heap.size (ndV x y)):=(boxR_new w (ndV x y) 84).below (bel_alloc _ _)
    have HC:Hid (BoxR ((w.alloc (.cells (ndV x y).toArray 84)).alloc (.cells #[.int .i64 u,.int .i64 g,.slice ca cl cc,.bool true] 37)) (w.heap.size+1) [.int .i64 u,.int .i64 g,.slice ca cl cc,.bool true]):=(by
      have h:=boxR_new (w.alloc (.cells (ndV x y).toArray 84)) [.int .i64 u,.int .i64 g,.slice ca cl cc,.bool true] 37
      simp only [World.size_alloc] at h
      exact h)
    have HB:Hid (Below w.heap.size w ((w.alloc (.cells (ndV x y).toArray 84)).alloc (.cells #[.int .i64 u,.int .i64 g,.slice ca cl cc,.bool true] 37))):=bl2T _ _ _
    go_enter Tryz.func47,Tryz.ntmps47
    go_upto_region 1 with fail
    generalize ((w.alloc (.cells (ndV x y).toArray 84)).alloc (.cells #[.int .i64 u,.int .i64 g,.slice ca cl cc,.bool true] 37))=w0 at HX HC HB ⊢
    obtain ⟨X,hX⟩:∃ X,X=w.heap.size:=⟨_,rfl⟩
    rw [←hX] at HX HC ⊢
    clear hX
    have e0:=NB.c0 HX.out
    have e1:=NB.c1 HX.out
    have e2:=NB.c2 HX.out
    have e3:=NB.c3 HX.out
    have e4:=NB.c4 HX.out
    have e5:=NB.c5 HX.out
    have e6:=NB.c6 HX.out
    have e7:=NB.c7 HX.out
    have e8:=NB.c8 HX.out
    have e9:=NB.c9 HX.out
    have e10:=NB.c10 HX.out
    have y0:w0.cell? ⟨X+1,0,none⟩=some (.int .i64 u):=HC.out.at0 0 _ rfl
    have y1:w0.cell? ⟨X+1,1,none⟩=some (.int .i64 g):=HC.out.at0 1 _ rfl
    have y2:w0.cell? ⟨X+1,2,none⟩=some (.slice ca cl cc):=HC.out.at0 2 _ rfl
    have y3:w0.cell? ⟨X+1,3,none⟩=some (.bool true):=HC.out.at0 3 _ rfl
    go_wp2
    go_ret
    exact ⟨ret_boolW HE.out.symm,HB.out⟩
  rcases p1 with ⟨q1,r1⟩ | ⟨q1,r1⟩
  · have HE : Hid (letB x u g cl true cf want = true) := (by show _ = _; rw [HE0.out, HR.out, q0, r1]; rfl)
    clear p2 p3 p4 HR HE0 r1
    have HX:Hid (BoxR ((w.alloc (.cells (ndV x y).toArray 84)).alloc (.cells #[.int .i64 u,.int .i64 g,.slice ca cl cc,.bool true] 37)) w.heap.size (ndV x y)):=(boxR_new w (ndV x y) 84).below (bel_alloc _ _)
    have HC:Hid (BoxR ((w.alloc (.cells (ndV x y).toArray 84)).alloc (.cells #[.int .i64 u,.int .i64 g,.slice ca cl cc,.bool true] 37)) (w.heap.size+1) [.int .i64 u,.int .i64 g,.slice ca cl cc,.bool true]):=(by
      have h:=boxR_new (w.alloc (.cells (ndV x y).toArray 84)) [.int .i64 u,.int .i64 g,.slice ca cl cc,.bool true] 37
      simp only [World.size_alloc] at h
      exact h)
    have HB:Hid (Below w.heap.size w ((w.alloc (.cells (ndV x y).toArray 84)).alloc (.cells #[.int .i64 u,.int .i64 g,.slice ca cl cc,.bool true] 37))):=bl2T _ _ _
    go_enter Tryz.func47,Tryz.ntmps47
    go_upto_region 1 with fail
    generalize ((w.alloc (.cells (ndV x y).toArray 84)).alloc (.cells #[.int .i64 u,.int .i64 g,.slice ca cl cc,.bool true] 37))=w0 at HX HC HB ⊢
    obtain ⟨X,hX⟩:∃ X,X=w.heap.size:=⟨_,rfl⟩
    rw [←hX] at HX HC ⊢
    clear hX
    have e0:=NB.c0 HX.out
    have e1:=NB.c1 HX.out
    have e2:=NB.c2 HX.out
    have e3:=NB.c3 HX.out
    have e4:=NB.c4 HX.out
    have e5:=NB.c5 HX.out
    have e6:=NB.c6 HX.out
    have e7:=NB.c7 HX.out
    have e8:=NB.c8 HX.out
    have e9:=NB.c9 HX.out
    have e10:=NB.c10 HX.out
    have y0:w0.cell? ⟨X+1,0,none⟩=some (.int .i64 u):=HC.out.at0 0 _ rfl
    have y1:w0.cell? ⟨X+1,1,none⟩=some (.int .i64 g):=HC.out.at0 1 _ rfl
    have y2:w0.cell? ⟨X+1,2,none⟩=some (.slice ca cl cc):=HC.out.at0 2 _ rfl
    have y3:w0.cell? ⟨X+1,3,none⟩=some (.bool true):=HC.out.at0 3 _ rfl
    go_wp2
    go_ret
    exact ⟨ret_boolW HE.out.symm,HB.out⟩
  rcases p2 with ⟨q2,r2⟩ | ⟨q2,r2⟩
  case inr =>
    have HE:Hid (letB x u g cl true cf want=true):=(by show _=_;rw [HE0.out,HR.out,q0,r1,r2];rfl)
    clear p3 p4 HR HE0 r1 r2
    have HX:Hid (BoxR ((w.alloc (.cells (ndV x y).toArray 84)).alloc (.cells #[.int .i64 u,.int .i64 g,.slice ca cl cc,.bool true] 37)) w.heap.size (ndV x y)):=(boxR_new w (ndV x y) 84).below (bel_alloc _ _)
    have HC:Hid (BoxR ((w.alloc (.cells (ndV x y).toArray 84)).alloc (.cells #[.int .i64 u,.int .i64 g,.slice ca cl cc,.bool true] 37)) (w.heap.size+1) [.int .i64 u,.int .i64 g,.slice ca cl cc,.bool true]):=(by
      have h:=boxR_new (w.alloc (.cells (ndV x y).toArray 84)) [.int .i64 u,.int .i64 g,.slice ca cl cc,.bool true] 37
      simp only [World.size_alloc] at h
      exact h)
    have HB:Hid (Below w.heap.size w ((w.alloc (.cells (ndV x y).toArray 84)).alloc (.cells #[.int .i64 u,.int .i64 g,.slice ca cl cc,.bool true] 37))):=bl2T _ _ _
    go_enter Tryz.func47,Tryz.ntmps47
    go_upto_region 1 with fail
    generalize ((w.alloc (.cells (ndV x y).toArray 84)).alloc (.cells #[.int .i64 u,.int .i64 g,.slice ca cl cc,.bool true] 37))=w0 at HX HC HB ⊢
    obtain ⟨X,hX⟩:∃ X,X=w.heap.size:=⟨_,rfl⟩
    rw [←hX] at HX HC ⊢
    clear hX
    have e0:=NB.c0 HX.out
    have e1:=NB.c1 HX.out
    have e2:=NB.c2 HX.out
    have e3:=NB.c3 HX.out
    have e4:=NB.c4 HX.out
    have e5:=NB.c5 HX.out
    have e6:=NB.c6 HX.out
    have e7:=NB.c7 HX.out
    have e8:=NB.c8 HX.out
    have e9:=NB.c9 HX.out
    have e10:=NB.c10 HX.out
    have y0:w0.cell? ⟨X+1,0,none⟩=some (.int .i64 u):=HC.out.at0 0 _ rfl
    have y1:w0.cell? ⟨X+1,1,none⟩=some (.int .i64 g):=HC.out.at0 1 _ rfl
    have y2:w0.cell? ⟨X+1,2,none⟩=some (.slice ca cl cc):=HC.out.at0 2 _ rfl
    have y3:w0.cell? ⟨X+1,3,none⟩=some (.bool true):=HC.out.at0 3 _ rfl
    go_wp2
    go_ret
    exact ⟨ret_boolW HE.out.symm,HB.out⟩
  have HE:Hid (letB x u g cl true cf want=(kk%2==1||x.A.o%2==1)):=(by show _=_;rw [HE0.out,HR.out,q0,r1,r2];rfl)
  clear HR HE0 r1 r2
  have HX:Hid (BoxR ((w.alloc (.cells (ndV x y).toArray 84)).alloc (.cells #[.int .i64 u,.int .i64 g,.slice ca cl cc,.bool true] 37)) w.heap.size (ndV x y)):=(boxR_new w (ndV x y) 84).below (bel_alloc _ _)
  have HC:Hid (BoxR ((w.alloc (.cells (ndV x y).toArray 84)).alloc (.cells #[.int .i64 u,.int .i64 g,.slice ca cl cc,.bool true] 37)) (w.heap.size+1) [.int .i64 u,.int .i64 g,.slice ca cl cc,.bool true]):=(by
    have h:=boxR_new (w.alloc (.cells (ndV x y).toArray 84)) [.int .i64 u,.int .i64 g,.slice ca cl cc,.bool true] 37
    simp only [World.size_alloc] at h
    exact h)
  have HB:Hid (Below w.heap.size w ((w.alloc (.cells (ndV x y).toArray 84)).alloc (.cells #[.int .i64 u,.int .i64 g,.slice ca cl cc,.bool true] 37))):=bl2T _ _ _
  go_enter Tryz.func47,Tryz.ntmps47
  go_upto_region 1 with fail
  generalize ((w.alloc (.cells (ndV x y).toArray 84)).alloc (.cells #[.int .i64 u,.int .i64 g,.slice ca cl cc,.bool true] 37))=w0 at HX HC HB ⊢
  obtain ⟨X,hX⟩:∃ X,X=w.heap.size:=⟨_,rfl⟩
  rw [←hX] at HX HC ⊢
  clear hX
  have e0:=NB.c0 HX.out
  have e1:=NB.c1 HX.out
  have e2:=NB.c2 HX.out
  have e3:=NB.c3 HX.out
  have e4:=NB.c4 HX.out
  have e5:=NB.c5 HX.out
  have e6:=NB.c6 HX.out
  have e7:=NB.c7 HX.out
  have e8:=NB.c8 HX.out
  have e9:=NB.c9 HX.out
  have e10:=NB.c10 HX.out
  have y0:w0.cell? ⟨X+1,0,none⟩=some (.int .i64 u):=HC.out.at0 0 _ rfl
  have y1:w0.cell? ⟨X+1,1,none⟩=some (.int .i64 g):=HC.out.at0 1 _ rfl
  have y2:w0.cell? ⟨X+1,2,none⟩=some (.slice ca cl cc):=HC.out.at0 2 _ rfl
  have y3:w0.cell? ⟨X+1,3,none⟩=some (.bool true):=HC.out.at0 3 _ rfl
  rcases p3 with ⟨q3,r3⟩ | ⟨q3,r3⟩<;>rcases p4 with ⟨q4,r4⟩ | ⟨q4,r4⟩
  all_goals rw [r3,r4] at HE
  all_goals clear r3 r4
  all_goals go_wp2_with (go_at_call 88;refine (HG.out _).mono ?_;rintro e w1 ⟨rfl,hb⟩;replace HB:Hid (Below w.heap.size w w1):=Below.on HB.out hb;replace HX:Hid (BoxR w1 X (ndV x y)):=HX.out.below hb;clear hb;replace e0:=NB.c0 HX.out;replace e1:=NB.c1 HX.out;replace e2:=NB.c2 HX.out;replace e3:=NB.c3 HX.out;replace e4:=NB.c4 HX.out;replace e5:=NB.c5 HX.out;replace e6:=NB.c6 HX.out;replace e7:=NB.c7 HX.out;replace e8:=NB.c8 HX.out;replace e9:=NB.c9 HX.out;replace e10:=NB.c10 HX.out)
  all_goals go_ret
  all_goals exact ⟨ret_boolW HE.out.symm,HB.out⟩
theorem bl_drewW {B:Nat}{w w':World}(h:Below B w w'):Below B w w'.drew:=h.trans ⟨rfl,rfl,rfl,Nat.le_refl _,fun _ _=>rfl⟩
def ltB (l:List Nd) (u g:Int) (cl:Nat) (r:Bool) (cf:Nat→Int) (k:Nat):Bool:=letB (ndAt l k) u g cl r cf 1
set_option maxRecDepth 20000 in
set_option maxHeartbeats 16000000 in
theorem sStep_any (wb:World)(P:Nat)(tb tf len cap:Nat)(l:List Nd)(now:Int)(u g:Int)(ca:Option Addr)(cl cc:Nat)(r:Bool)(sl:Bool)(cf:Nat→Int)(s:Wy)(d:Int)(p:ByteArray)(ps:List ByteArray)(pa:Option Addr)(pc:Nat)(fo:Bool)(Y:Nat→Na)(hl:len≤12)(hll:l.length=len)(ht:treeB l now=true)(hcr:credB u g cl cf=true)(hok:WyOk l s)(hps:s.ps=p :: ps)
    (htb:tb<wb.heap.size) (hN:∀ i,i<len→N24 wb tb (tf+i*24) (ndAt l i) (Y i)∧NdIn wb (ndAt l i) (Y i)) (hfit:∀ i,i<len→NdFit 1048576 (ndAt l i)) (hci:Ints ca cl cf wb) (w:World) (hB:Below wb.heap.size wb w) (hPb:wb.heap.size≤P) (hA:WyAt w P tb tf len cap l now u g ca cl cc r sl s d pa pc) :
    Calls Tryz.prog 67 #[.pointer (some ⟨P,0,none⟩),.bool fo] w fun e w'=>WyEnd w P tb tf len cap l now u g ca cl cc r sl (wst l (ltB l u g cl r cf) (fo||sl) s p ps) e w':=by
  have hat:s.at_≠0:=fun e=>by have:=hok.z e;rw [hps] at this;cases this
  have hth:=hok.th hat
  obtain ⟨k,hk,hkl⟩:=th_num hth
  have hk2:k<len:=by omega
  obtain ⟨hP,hRG,hpc⟩:=hA
  rw [hps] at hRG hpc
  obtain ⟨b,off,hpa,hbP,hR⟩:=hRG (by simp)
  have hls:s.ps.length=ps.length+1:=by rw [hps];rfl
  have hpsl:ps.length≤1000:=by have h1:=hok.len;have h2:=hok.lk;rw [hls] at h1;omega
  have hpc':ps.length+1≤pc:=hpc
  obtain ⟨nm0,hnm0⟩:∃ nm0,nm0=s.nm:=⟨_,rfl⟩
  obtain ⟨lk,hlk⟩:∃ lk,lk=s.lk:=⟨_,rfl⟩
  rw [hk,hpa,hls,←hnm0,←hlk] at hP
  have HP:Hid (BoxW w P [.slice (some ⟨tb,tf,none⟩) len cap,.int .i64 now,.int .i64 u,.int .i64 g,.slice ca cl cc,.bool r,.int .i64 ((k:Int)+1),.int .i64 d,.string nm0,.slice (some ⟨b,off,none⟩) (ps.length+1) pc,.bool sl,.int .i64 lk]):=hP
  have HR:Hid (RowB w b off (p :: ps)):=hR
  have HPne:Hid (b≠P∧ps.length+1≤pc∧tb<wb.heap.size∧wb.heap.size≤P):=⟨hbP,hpc',htb,hPb⟩
  have HBw:Hid (Below wb.heap.size wb w):=hB
  have HNx:Hid (N24 w tb (tf+k*24) (ndAt l k) (Y k)):=range_below (hN k hk2).1 htb hB
  have HLt:Hid (∀ w',Below wb.heap.size wb w'→Calls Tryz.prog 47 #[.agg (ndV (ndAt l k) (Y k)).toArray,.agg #[.int .i64 u,.int .i64 g,.slice ca cl cc,.bool r],.int .i64 1] w' fun e w''=>e=.returned (.bool (ltB l u g cl r cf k))∧Below w'.heap.size w' w''):=(fun w' hb=>sLet_any _ _ u g ca cl cc r cf 1 (ask_node (node_is ht (by rw [←hk];exact hth)) hcr (by rfl)) w' ((hN k hk2).2.below hb) (hci.below hb))
  have HFd:Hid (∀ w',Below wb.heap.size wb w'→Calls Tryz.prog 113 #[.slice (Y k).nA (ndAt l k).ns.length (Y k).nC,.string p] w' fun e w''=>e=.returned (.int .i64 (fdT (ndAt l k).ns p.toList (ndAt l k).ns.length))∧w''=w'):=(fun w' hb=>sFind_any _ _ _ _ (hfit k hk2).nl w' ((hN k hk2).2.nA.below hb))
  have hkn:((k:Int)+1-1).toNat=k:=by omega
  have HW0:Hid (wst l (ltB l u g cl r cf) (fo||sl) s p ps=(if (ndAt l k).k==1 then if ltB l u g cl r cf k then if p.toList==[46] then (0,⟨(k:Int)+1,(k:Int)+1,emp,ps,lk⟩) else if p.toList==[46,46] then (0,⟨(ndAt l k).up,(ndAt l k).up,emp,ps,lk⟩) else went l (fo||sl) s p ps (fdT (ndAt l k).ns p.toList (ndAt l k).ns.length) else (11,s) else (12,s))):=(by show _=_;unfold wst;simp only [hk,hkn,hlk])
  have HEn:Hid (((ndAt l k).k==1)=true→∀ (w':World) (d':Int) (off' pc':Nat),Below wb.heap.size wb w'→BoxW w' P [.slice (some ⟨tb,tf,none⟩) len cap,.int .i64 now,.int .i64 u,.int .i64 g,.slice ca cl cc,.bool r,.int .i64 ((k:Int)+1),.int .i64 d',.string nm0,.slice (some ⟨b,off',none⟩) ps.length pc',.bool sl,.int .i64 lk]→RowB w' b off' ps→ps.length≤pc'→Calls Tryz.prog 112 #[.pointer (some ⟨P,0,none⟩),.int .i64 (fdT (ndAt l k).ns p.toList (ndAt l k).ns.length),.string p,.bool fo] w' fun e w''=>WyEnd w' P tb tf len cap l now u g ca cl cc r sl (went l (fo||sl) s p ps (fdT (ndAt l k).ns p.toList (ndAt l k).ns.length)) e w''):=(fun hkd w' d' off' pc' hb h1 h2 h3=>by
    have hdk:diB l ((k:Int)+1)=true:=by rw [diB_in (by rw [←hk];exact hth)];exact hkd
    have hns:=(nsB_T (dir_facts ht hdk).ns).2
    rw [hnm0,hlk,←hk] at h1
    exact sEnter_any P tb tf len cap l now u g ca cl cc r sl s d' s.nm ps b off' pc' _ p fo Y hl hll hpsl hok.lk (fun e=>fdT_there _ hns e) (fun j hj hk3=>link_body ht (by rw [←hj];exact fdT_there _ hns (by omega)) hk3) w' h1 h2 hbP h3 (by omega) (Nat.lt_of_lt_of_le htb hb.size) (fun i hi=>range_below (hN i hi).1 htb hb))
  have hk1:(k:Int)<(len:Int):=by omega
  have hk0:(0:Int)≤(k:Int):=by omega
  clear hP hRG hpc hN hfit hci hB hR htb hPb hbP hok hth hat hcr ht hpc' hkl hls
  generalize hx:ndAt l k=x at HNx HLt HFd HW0 HEn
  generalize Y k=y at HNx HLt HFd
  generalize ltB l u g cl r cf k=lt at HLt HW0
  generalize fdT x.ns p.toList x.ns.length=fn at HFd HW0 HEn
  clear hx
  go_enter Tryz.func67,Tryz.ntmps67
  go_upto_region 1 with fail
  refine wp_region_held_drew (S:=fun w'=>w'.cell? ⟨P,0,none⟩=some (.slice (some ⟨tb,tf,none⟩) len cap)∧w'.cell? ⟨P,6,none⟩=some (.int .i64 ((k:Int)+1))∧w'.rangeAt tb (tf+k*24) (ndV x y)) (by kernel_rfl) (by exact ⟨HP.out.at0 0 _ rfl,HP.out.at0 6 _ rfl,HNx.out⟩) (fun hHeld=>?_)
  refine wpAnyH_take (i:=0) (v:=.pointer (some ⟨P,0,none⟩)) rfl (by kernel_rfl) (by kernel_rfl) (by kernel_rfl) (fun _ _ _ h=>h) (Or.inl ⟨by rfl,fun _ _=>by rfl⟩) hHeld ?_
  try simp only [Act.put,List.getElem_toArray,List.getElem_cons_zero,List.setIfInBounds_toArray,List.set_cons_zero,List.set_cons_succ]
  refine wpAnyH_take (i:=1) (v:=.pointer (some ⟨P,0,none⟩)) rfl (by kernel_rfl) (by kernel_rfl) (by kernel_rfl) (fun _ _ _ h=>h) (Or.inl ⟨by rfl,fun _ _=>by rfl⟩) hHeld ?_
  try simp only [Act.put,List.getElem_toArray,List.getElem_cons_zero,List.getElem_cons_succ,List.setIfInBounds_toArray,List.set_cons_zero,List.set_cons_succ]
  refine wpAnyH_take (i:=2) (v:=.pointer (some ⟨P,0,none⟩)) rfl (by kernel_rfl) (by kernel_rfl) (by kernel_rfl) (fun _ _ _ h=>h) (Or.inl ⟨by rfl,fun _ _=>by rfl⟩) hHeld ?_
  try simp only [Act.put,List.getElem_toArray,List.getElem_cons_zero,List.getElem_cons_succ,List.setIfInBounds_toArray,List.set_cons_zero,List.set_cons_succ]
  refine wpAnyH_take (i:=3) (v:=.pointer (some ⟨P,0,none⟩)) rfl (by kernel_rfl) (by kernel_rfl) (by kernel_rfl) (fun _ _ _ h=>h) (Or.inl ⟨by rfl,fun _ _=>by rfl⟩) hHeld ?_
  try simp only [Act.put,List.getElem_toArray,List.getElem_cons_zero,List.getElem_cons_succ,List.setIfInBounds_toArray,List.set_cons_zero,List.set_cons_succ]
  refine wpAnyH_take (i:=4) (v:=.slice (some ⟨tb,tf,none⟩) len cap) rfl (by kernel_rfl) (by kernel_rfl) (by kernel_rfl) (fun _ _ _ h=>h) (Or.inl ⟨by rfl,fun _ h=>by have h0:=h.1;go_simp⟩) hHeld ?_
  try simp only [Act.put,List.getElem_toArray,List.getElem_cons_zero,List.getElem_cons_succ,List.setIfInBounds_toArray,List.set_cons_zero,List.set_cons_succ]
  refine wpAnyH_take (i:=5) (v:=.pointer (some ⟨P,0,none⟩)) rfl (by kernel_rfl) (by kernel_rfl) (by kernel_rfl) (fun _ _ _ h=>h) (Or.inl ⟨by rfl,fun _ _=>by rfl⟩) hHeld ?_
  try simp only [Act.put,List.getElem_toArray,List.getElem_cons_zero,List.getElem_cons_succ,List.setIfInBounds_toArray,List.set_cons_zero,List.set_cons_succ]
  refine wpAnyH_take (i:=6) (v:=.pointer (some ⟨P,0,none⟩)) rfl (by kernel_rfl) (by kernel_rfl) (by kernel_rfl) (fun _ _ _ h=>h) (Or.inl ⟨by rfl,fun _ _=>by rfl⟩) hHeld ?_
  try simp only [Act.put,List.getElem_toArray,List.getElem_cons_zero,List.getElem_cons_succ,List.setIfInBounds_toArray,List.set_cons_zero,List.set_cons_succ]
  refine wpAnyH_take (i:=7) (v:=.pointer (some ⟨P,6,none⟩)) rfl (by kernel_rfl) (by kernel_rfl) (by kernel_rfl) (fun _ _ _ h=>h) (Or.inl ⟨by rfl,fun _ _=>by rfl⟩) hHeld ?_
  try simp only [Act.put,List.getElem_toArray,List.getElem_cons_zero,List.getElem_cons_succ,List.setIfInBounds_toArray,List.set_cons_zero,List.set_cons_succ]
  refine wpAnyH_take (i:=8) (v:=.int .i64 ((k:Int)+1)) rfl (by kernel_rfl) (by kernel_rfl) (by kernel_rfl) (fun _ _ _ h=>h) (Or.inl ⟨by rfl,fun _ h=>by have h0:=h.2.1;go_simp⟩) hHeld ?_
  try simp only [Act.put,List.getElem_toArray,List.getElem_cons_zero,List.getElem_cons_succ,List.setIfInBounds_toArray,List.set_cons_zero,List.set_cons_succ]
  refine wpAnyH_take (i:=9) (v:=.int .i64 k) rfl (by kernel_rfl) (by kernel_rfl) (by kernel_rfl) (fun _ _ _ h=>h) (Or.inl ⟨by rfl,fun _ h=>by go_simp;rw [IntKind.wrap_i64];omega⟩) hHeld ?_
  try simp only [Act.put,List.getElem_toArray,List.getElem_cons_zero,List.getElem_cons_succ,List.setIfInBounds_toArray,List.set_cons_zero,List.set_cons_succ]
  refine wpAnyH_take (i:=10) (v:=.pointer (some ⟨tb,tf+k*24,none⟩)) rfl (by kernel_rfl) (by kernel_rfl) (by kernel_rfl) (fun _ _ _ h=>h) (Or.inl ⟨by rfl,fun _ h=>by go_simp⟩) hHeld ?_
  try simp only [Act.put,List.getElem_toArray,List.getElem_cons_zero,List.getElem_cons_succ,List.setIfInBounds_toArray,List.set_cons_zero,List.set_cons_succ]
  refine wpAnyH_take (i:=11) (v:=.agg (ndV x y).toArray) rfl (by kernel_rfl) (by kernel_rfl) (by kernel_rfl) (fun _ _ _ h=>h) (yieldsIf_load_mid (by rfl) 84 _ rfl tb (tf+k*24) rfl _ _ (fun _ h=>h.2.2) Tryz.underlying84 rfl (by kernel_rfl)) hHeld ?_
  try simp only [Act.put,List.getElem_toArray,List.getElem_cons_zero,List.getElem_cons_succ,List.setIfInBounds_toArray,List.set_cons_zero,List.set_cons_succ]
  refine wpAnyH_ready (rs:=[12]) (by kernel_rfl) (by simp) ?_
  refine AllReadyH.cons rfl (fun K hK=>?_) AllReadyH.nil
  rw [if_pos (by rfl)]
  go_simp
  have hbA:Below w.heap.size w (w.alloc (.cells #[.int .i64 0,.int .i64 0,.int .i64 0,.int .i64 0,.int .i64 0,.int .i64 0,.int .i64 0,.slice none 0 0,.slice none 0 0,.bool false,.int .i64 0,.bool false,.int .i64 0,.int .i64 0,.int .i64 0,.slice none 0 0,.slice none 0 0,.bool false,.int .i64 0,.int .i64 0,.int .i64 0,.string ⟨#[]⟩,.slice none 0 0,.int .i64 0] 84)).drew:=bl_drewW (bel_alloc _ _)
  have htbw:tb<w.heap.size:=Nat.lt_of_lt_of_le HPne.out.2.2.1 HBw.out.size
  refine hK.out _ _ ⟨(HP.out.below hbA).at0 0 _ rfl,(HP.out.below hbA).at0 6 _ rfl,range_below HNx.out htbw hbA⟩ (fun hHeld=>?_)
  clear hK K
  try simp only [Act.put,List.getElem_toArray,List.getElem_cons_zero,List.getElem_cons_succ,List.setIfInBounds_toArray,List.set_cons_zero,List.set_cons_succ]
  refine wpAnyH_ready (rs:=[13]) (by kernel_rfl) (by simp) ?_
  refine AllReadyH.cons rfl (fun K hK=>?_) AllReadyH.nil
  rw [if_pos (by rfl)]
  have hbR:Below w.heap.size w ((w.alloc (.cells #[.int .i64 0,.int .i64 0,.int .i64 0,.int .i64 0,.int .i64 0,.int .i64 0,.int .i64 0,.slice none 0 0,.slice none 0 0,.bool false,.int .i64 0,.bool false,.int .i64 0,.int .i64 0,.int .i64 0,.slice none 0 0,.slice none 0 0,.bool false,.int .i64 0,.int .i64 0,.int .i64 0,.string ⟨#[]⟩,.slice none 0 0,.int .i64 0] 84)).drew.setCells w.heap.size 0 (ndV x y).toArray.toList):=bl_setsT (Nat.le_refl _) _ _ (bl_drewW (bel_alloc _ _))
  refine wp_store_mid 84 _ _ (by rfl) _ _ (ndV x y).toArray (by rfl) (by rfl) ((boxW_new w [.int .i64 0,.int .i64 0,.int .i64 0,.int .i64 0,.int .i64 0,.int .i64 0,.int .i64 0,.slice none 0 0,.slice none 0 0,.bool false,.int .i64 0,.bool false,.int .i64 0,.int .i64 0,.int .i64 0,.slice none 0 0,.slice none 0 0,.bool false,.int .i64 0,.int .i64 0,.int .i64 0,.string ⟨#[]⟩,.slice none 0 0,.int .i64 0] 84).there 0 24 (by simp)) (by kernel_rfl) (ndV_ones _ _) ?_
  refine hK.out _ _ ⟨(HP.out.below hbR).at0 0 _ rfl,(HP.out.below hbR).at0 6 _ rfl,range_below HNx.out htbw hbR⟩ (fun hHeld=>?_)
  clear hK K
  try simp only [Act.put,List.getElem_toArray,List.getElem_cons_zero,List.getElem_cons_succ]
  refine wpAnyH_done (by kernel_rfl) ?_ _
  have HZ:Hid (BoxR ((w.alloc (.cells #[.int .i64 0,.int .i64 0,.int .i64 0,.int .i64 0,.int .i64 0,.int .i64 0,.int .i64 0,.slice none 0 0,.slice none 0 0,.bool false,.int .i64 0,.bool false,.int .i64 0,.int .i64 0,.int .i64 0,.slice none 0 0,.slice none 0 0,.bool false,.int .i64 0,.int .i64 0,.int .i64 0,.string ⟨#[]⟩,.slice none 0 0,.int .i64 0] 84)).drew.setCells w.heap.size 0 (ndV x y).toArray.toList) w.heap.size (ndV x y)):=⟨by rw [size_setCellsT];simp,World.rangeAt_setCells_same _ _ _ _ ((boxW_new w [.int .i64 0,.int .i64 0,.int .i64 0,.int .i64 0,.int .i64 0,.int .i64 0,.int .i64 0,.slice none 0 0,.slice none 0 0,.bool false,.int .i64 0,.bool false,.int .i64 0,.int .i64 0,.int .i64 0,.slice none 0 0,.slice none 0 0,.bool false,.int .i64 0,.int .i64 0,.int .i64 0,.string ⟨#[]⟩,.slice none 0 0,.int .i64 0] 84).there 0 24 (by simp))⟩
  have HP2:Hid (BoxW ((w.alloc (.cells #[.int .i64 0,.int .i64 0,.int .i64 0,.int .i64 0,.int .i64 0,.int .i64 0,.int .i64 0,.slice none 0 0,.slice none 0 0,.bool false,.int .i64 0,.bool false,.int .i64 0,.int .i64 0,.int .i64 0,.slice none 0 0,.slice none 0 0,.bool false,.int .i64 0,.int .i64 0,.int .i64 0,.string ⟨#[]⟩,.slice none 0 0,.int .i64 0] 84)).drew.setCells w.heap.size 0 (ndV x y).toArray.toList) P [.slice (some ⟨tb,tf,none⟩) len cap,.int .i64 now,.int .i64 u,.int .i64 g,.slice ca cl cc,.bool r,.int .i64 ((k:Int)+1),.int .i64 d,.string nm0,.slice (some ⟨b,off,none⟩) (ps.length+1) pc,.bool sl,.int .i64 lk]):=HP.out.below hbR
  have HR2:Hid (RowB ((w.alloc (.cells #[.int .i64 0,.int .i64 0,.int .i64 0,.int .i64 0,.int .i64 0,.int .i64 0,.int .i64 0,.slice none 0 0,.slice none 0 0,.bool false,.int .i64 0,.bool false,.int .i64 0,.int .i64 0,.int .i64 0,.slice none 0 0,.slice none 0 0,.bool false,.int .i64 0,.int .i64 0,.int .i64 0,.string ⟨#[]⟩,.slice none 0 0,.int .i64 0] 84)).drew.setCells w.heap.size 0 (ndV x y).toArray.toList) b off (p :: ps)):=HR.out.below hbR
  have HU2:Hid (ButS (some ⟨P,0,none⟩) w ((w.alloc (.cells #[.int .i64 0,.int .i64 0,.int .i64 0,.int .i64 0,.int .i64 0,.int .i64 0,.int .i64 0,.slice none 0 0,.slice none 0 0,.bool false,.int .i64 0,.bool false,.int .i64 0,.int .i64 0,.int .i64 0,.slice none 0 0,.slice none 0 0,.bool false,.int .i64 0,.int .i64 0,.int .i64 0,.string ⟨#[]⟩,.slice none 0 0,.int .i64 0] 84)).drew.setCells w.heap.size 0 (ndV x y).toArray.toList)):=ButS.of hbR
  have HB2:Hid (Below wb.heap.size wb ((w.alloc (.cells #[.int .i64 0,.int .i64 0,.int .i64 0,.int .i64 0,.int .i64 0,.int .i64 0,.int .i64 0,.slice none 0 0,.slice none 0 0,.bool false,.int .i64 0,.bool false,.int .i64 0,.int .i64 0,.int .i64 0,.slice none 0 0,.slice none 0 0,.bool false,.int .i64 0,.int .i64 0,.int .i64 0,.string ⟨#[]⟩,.slice none 0 0,.int .i64 0] 84)).drew.setCells w.heap.size 0 (ndV x y).toArray.toList)):=Below.on HBw.out hbR
  have HZP:Hid (P<w.heap.size∧wb.heap.size≤P):=⟨HP.out.lt,HPne.out.2.2.2⟩
  clear hHeld hbR hbA htbw HP HR HBw HNx
  generalize ((w.alloc (.cells #[.int .i64 0,.int .i64 0,.int .i64 0,.int .i64 0,.int .i64 0,.int .i64 0,.int .i64 0,.slice none 0 0,.slice none 0 0,.bool false,.int .i64 0,.bool false,.int .i64 0,.int .i64 0,.int .i64 0,.slice none 0 0,.slice none 0 0,.bool false,.int .i64 0,.int .i64 0,.int .i64 0,.string ⟨#[]⟩,.slice none 0 0,.int .i64 0] 84)).drew.setCells w.heap.size 0 (ndV x y).toArray.toList)=w2 at HZ HP2 HR2 HU2 HB2 ⊢
  generalize w.heap.size=Z at HZ HZP ⊢
  have z0:=NB.c0 HZ.out
  cases q1:(x.k==1)
  · have q1n : (x.k != 1) = true := by rw [bne, q1]; rfl
    have HW:Hid ((wst l (ltB l u g cl r cf) (fo||sl) s p ps).1=12):=(by show _=_;rw [HW0.out,q1];rfl)
    clear HW0 HEn HFd HLt
    go_wp2
    go_ret
    refine ⟨by rw [HW.out];rfl,HU2.out,fun h=>?_⟩
    rw [HW.out] at h
    exact absurd h (by decide)
  have q1n:(x.k != 1)=false:=by rw [bne,q1];rfl
  have hEn:=HEn.out q1
  have HEN:Hid _:=hEn
  clear hEn HEn
  go_upto_region 4 with fail
  obtain ⟨cs1,hcs1⟩:∃ cs1,cs1=ndV x y:=⟨_,rfl⟩
  have hi1:(Tryz.prog.info? 84).map (·.size)=some cs1.length:=by rw [hcs1];kernel_rfl
  have hu:=Tryz.underlying84
  have R1:∀ w',(∃ q:Regrown,w'=Go.Sort.grow (redrawn w2 q.d) q.os)→w'.rangeAt Z 0 cs1:=by rw [hcs1];exact range_regrown HZ.out.at0
  have cL:∀ dd os,Calls Tryz.prog 47 #[.agg cs1.toArray,.agg #[.int .i64 u,.int .i64 g,.slice ca cl cc,.bool r],.int .i64 1] (Go.Sort.grow (redrawn w2 dd) os) fun e w''=>e=.returned (.bool lt)∧∃ q:Regrown,w''=Go.Sort.grow (redrawn w2 q.d) q.os:=fun dd os=>Calls.regrown_of (by rw [hcs1];exact HLt.out _ (Below.on HB2.out (below_regrown w2 dd os)))
  have y2:∀ dd os,(Go.Sort.grow (redrawn w2 dd) os).cell? ⟨P,2,none⟩=some (.int .i64 u):=fun dd os=>cell_regrown (HP2.out.at0 2 _ rfl) dd os
  have y3:∀ dd os,(Go.Sort.grow (redrawn w2 dd) os).cell? ⟨P,3,none⟩=some (.int .i64 g):=fun dd os=>cell_regrown (HP2.out.at0 3 _ rfl) dd os
  have y4:∀ dd os,(Go.Sort.grow (redrawn w2 dd) os).cell? ⟨P,4,none⟩=some (.slice ca cl cc):=fun dd os=>cell_regrown (HP2.out.at0 4 _ rfl) dd os
  have y5:∀ dd os,(Go.Sort.grow (redrawn w2 dd) os).cell? ⟨P,5,none⟩=some (.bool r):=fun dd os=>cell_regrown (HP2.out.at0 5 _ rfl) dd os
  clear hcs1
  refine wp_region_quiet_below (by kernel_rfl) (by kernel_rfl) ?_
  repeat (first
    | go_big_quiet_skip
    | (go_big_quiet_want;refine quiet_load_mid 84 _ rfl _ _ (by rfl) _ _ R1 hu rfl hi1 ?_;simp only [Act.put,List.setIfInBounds_toArray,List.set_cons_zero,List.set_cons_succ];go_big_quiet_on)
    | (go_big_quiet_want;go_big_quiet_op;first | go_big_quiet_on | go_big_quiet_call (exact cL _ _)))
  refine wpQuiet_nil ?_
  intro _ hw'
  obtain ⟨⟨dq,osq⟩,hw''⟩:=hw'
  subst hw''
  have hbq:=below_regrown w2 dq osq
  have HZ3:Hid (BoxR (Go.Sort.grow (redrawn w2 dq) osq) Z (ndV x y)):=HZ.out.below hbq
  have HP3:Hid (BoxW (Go.Sort.grow (redrawn w2 dq) osq) P [.slice (some ⟨tb,tf,none⟩) len cap,.int .i64 now,.int .i64 u,.int .i64 g,.slice ca cl cc,.bool r,.int .i64 ((k:Int)+1),.int .i64 d,.string nm0,.slice (some ⟨b,off,none⟩) (ps.length+1) pc,.bool sl,.int .i64 lk]):=HP2.out.below hbq
  have HR3:Hid (RowB (Go.Sort.grow (redrawn w2 dq) osq) b off (p :: ps)):=HR2.out.below hbq
  have HU3:Hid (ButS (some ⟨P,0,none⟩) w (Go.Sort.grow (redrawn w2 dq) osq)):=HU2.out.on hbq
  have HB3:Hid (Below wb.heap.size wb (Go.Sort.grow (redrawn w2 dq) osq)):=Below.on HB2.out hbq
  clear hbq y2 y3 y4 y5 R1 cL hi1 hu z0 HLt
  generalize Go.Sort.grow (redrawn w2 dq) osq=w3 at HZ3 HP3 HR3 HU3 HB3 ⊢
  clear HZ HP2 HR2 HU2 HB2
  cases lt
  · have HW : Hid ((wst l (ltB l u g cl r cf) (fo || sl) s p ps).1 = 11) := (by show _ = _; rw [HW0.out, q1]; rfl)
    clear HW0 HEN HFd
    go_wp2
    go_ret
    refine ⟨by rw [HW.out];rfl,HU3.out,fun h=>?_⟩
    rw [HW.out] at h
    exact absurd h (by decide)
  have HW1:Hid (wst l (ltB l u g cl r cf) (fo||sl) s p ps=(if p.toList==[46] then (0,⟨(k:Int)+1,(k:Int)+1,emp,ps,lk⟩) else if p.toList==[46,46] then (0,⟨x.up,x.up,emp,ps,lk⟩) else went l (fo||sl) s p ps fn)):=(by show _=_;rw [HW0.out,q1];rfl)
  clear HW0
  have hcap:pc=1∨1<pc:=by have:=HPne.out.2.1;omega
  have p9:w3.cell? ⟨P,9,none⟩=some (.slice (some ⟨b,off,none⟩) (ps.length+1) pc):=HP3.out.at0 9 _ rfl
  have r0:w3.cell? ⟨b,off,none⟩=some (.string p):=HR3.out.head
  have fz:=HP3.out.frz
  have HS2:Hid (∃ off2,(pc=1→off2=off)∧(1<pc→off2=off+1)):=(by
    rcases hcap with h | h
    · exact ⟨off,fun _=>rfl,fun h2=>by omega⟩
    · exact ⟨off+1,fun h2=>by omega,fun _=>rfl⟩)
  obtain ⟨off2,ho1,ho2⟩:=HS2.out
  have HR4:Hid (RowB w3 b off2 ps):=(by
    rcases hcap with h | h
    · have hz : ps = [] := List.eq_nil_of_length_eq_zero (by have := HPne.out.2.1; omega)
      rw [ho1 h,hz]
      exact ⟨HR3.out.1,fun j x hj=>by cases hj⟩
    · rw [ho2 h]
      exact HR3.out.tail)
  have HP4:Hid (BoxW (w3.setCell ⟨P,9,none⟩ (.slice (some ⟨b,off2,none⟩) ps.length (pc-1))) P [.slice (some ⟨tb,tf,none⟩) len cap,.int .i64 now,.int .i64 u,.int .i64 g,.slice ca cl cc,.bool r,.int .i64 ((k:Int)+1),.int .i64 d,.string nm0,.slice (some ⟨b,off2,none⟩) ps.length (pc-1),.bool sl,.int .i64 lk]):=HP3.out.set 9 (by simp) (.slice (some ⟨b,off2,none⟩) ps.length (pc-1))
  have HU4:Hid (ButS (some ⟨P,0,none⟩) w (w3.setCell ⟨P,9,none⟩ (.slice (some ⟨b,off2,none⟩) ps.length (pc-1)))):=HU3.out.set
  have HR5:Hid (RowB (w3.setCell ⟨P,9,none⟩ (.slice (some ⟨b,off2,none⟩) ps.length (pc-1))) b off2 ps):=HR4.out.but (ButS.refl (some ⟨P,0,none⟩) _).set (fun A e=>by cases e;exact HPne.out.1)
  have HZ5:Hid (BoxR (w3.setCell ⟨P,9,none⟩ (.slice (some ⟨b,off2,none⟩) ps.length (pc-1))) Z (ndV x y)):=HZ3.out.other (by have:=HZP.out;omega)
  have HB5:Hid (Below wb.heap.size wb (w3.setCell ⟨P,9,none⟩ (.slice (some ⟨b,off2,none⟩) ps.length (pc-1)))):=setS HB3.out HZP.out.2
  have hpli:(ps.length:Int)≤1000:=by omega
  rcases hcap with hcap | hcap
  · have hz : ps.length = 0 := by have := HPne.out.2.1; omega
    have HE4:Hid (w3.setCell ⟨P,9,none⟩ (.slice (some ⟨b,off,none⟩) 0 0)=(w3.setCell ⟨P,9,none⟩ (.slice (some ⟨b,off2,none⟩) ps.length (pc-1)))):=(by show _=_;rw [ho1 hcap,hz,hcap])
    rw [hz,hcap] at p9
    clear ho1 ho2 HS2 hz hcap
    go_upto_region 8 with fail
    rw [HE4.out]
    generalize (w3.setCell ⟨P,9,none⟩ (.slice (some ⟨b,off2,none⟩) ps.length (pc-1)))=w4 at HP4 HU4 HR5 HZ5 HB5 ⊢
    clear HE4 p9 r0 fz HP3 HR3 HU3 HZ3 HB3 HR4
    have p8:w4.cell? ⟨P,8,none⟩=some (.string nm0):=HP4.out.at0 8 _ rfl
    have p6:w4.cell? ⟨P,6,none⟩=some (.int .i64 ((k:Int)+1)):=HP4.out.at0 6 _ rfl
    have fz:=HP4.out.frz
    have z20:=NB.c20 HZ5.out
    have z22:=NB.c22 HZ5.out
    have HL4:Hid (ps.length≤pc-1):=(by show _≤_;have:=HPne.out.2.1;omega)
    cases e1:(p.toList==[46])
    case true =>
      have HW:Hid (wst l (ltB l u g cl r cf) (fo||sl) s p ps=(0,⟨(k:Int)+1,(k:Int)+1,emp,ps,lk⟩)):=(by show _=_;rw [HW1.out,e1];rfl)
      have HP6:Hid (BoxW (w4.setCell ⟨P,8,none⟩ (.string ⟨#[]⟩)) P [.slice (some ⟨tb,tf,none⟩) len cap,.int .i64 now,.int .i64 u,.int .i64 g,.slice ca cl cc,.bool r,.int .i64 ((k:Int)+1),.int .i64 d,.string ⟨#[]⟩,.slice (some ⟨b,off2,none⟩) ps.length (pc-1),.bool sl,.int .i64 lk]):=HP4.out.set 8 (by simp) (.string ⟨#[]⟩)
      have HU6:Hid (ButS (some ⟨P,0,none⟩) w (w4.setCell ⟨P,8,none⟩ (.string ⟨#[]⟩))):=HU4.out.set
      have HR6:Hid (RowB (w4.setCell ⟨P,8,none⟩ (.string ⟨#[]⟩)) b off2 ps):=HR5.out.but (ButS.refl (some ⟨P,0,none⟩) _).set (fun A e=>by cases e;exact HPne.out.1)
      clear HW1 HEN HFd
      go_wp2
      go_ret
      refine ⟨by rw [HW.out];rfl,HU6.out,fun _=>?_⟩
      rw [HW.out]
      exact ⟨d,some ⟨b,off2,none⟩,pc-1,⟨HP6.out,fun _=>⟨b,off2,rfl,HPne.out.1,HR6.out⟩,HL4.out⟩,fun h=>absurd emp_nil h⟩
    cases e2:(p.toList==[46,46])
    case true =>
      have HW:Hid (wst l (ltB l u g cl r cf) (fo||sl) s p ps=(0,⟨x.up,x.up,emp,ps,lk⟩)):=(by show _=_;rw [HW1.out,e1,e2];rfl)
      have HP6:Hid (BoxW ((w4.setCell ⟨P,8,none⟩ (.string ⟨#[]⟩)).setCell ⟨P,6,none⟩ (.int .i64 x.up)) P [.slice (some ⟨tb,tf,none⟩) len cap,.int .i64 now,.int .i64 u,.int .i64 g,.slice ca cl cc,.bool r,.int .i64 x.up,.int .i64 d,.string ⟨#[]⟩,.slice (some ⟨b,off2,none⟩) ps.length (pc-1),.bool sl,.int .i64 lk]):=(HP4.out.set 8 (by simp) (.string ⟨#[]⟩)).set 6 (by simp) (.int .i64 x.up)
      have HU6:Hid (ButS (some ⟨P,0,none⟩) w ((w4.setCell ⟨P,8,none⟩ (.string ⟨#[]⟩)).setCell ⟨P,6,none⟩ (.int .i64 x.up))):=HU4.out.set.set
      have HR6:Hid (RowB ((w4.setCell ⟨P,8,none⟩ (.string ⟨#[]⟩)).setCell ⟨P,6,none⟩ (.int .i64 x.up)) b off2 ps):=HR5.out.but (ButS.refl (some ⟨P,0,none⟩) _).set.set (fun A e=>by cases e;exact HPne.out.1)
      have hZP:¬ P=Z:=by have:=HZP.out;omega
      have hPZ:¬ Z=P:=by have:=HZP.out;omega
      clear HW1 HEN HFd
      go_wp2
      go_ret
      refine ⟨by rw [HW.out];rfl,HU6.out,fun _=>?_⟩
      rw [HW.out]
      exact ⟨d,some ⟨b,off2,none⟩,pc-1,⟨HP6.out,fun _=>⟨b,off2,rfl,HPne.out.1,HR6.out⟩,HL4.out⟩,fun h=>absurd emp_nil h⟩
    have HW:Hid (wst l (ltB l u g cl r cf) (fo||sl) s p ps=went l (fo||sl) s p ps fn):=(by show _=_;rw [HW1.out,e1,e2];rfl)
    have HC:Hid (Calls Tryz.prog 112 #[.pointer (some ⟨P,0,none⟩),.int .i64 fn,.string p,.bool fo] w4 fun e w''=>WyEnd w4 P tb tf len cap l now u g ca cl cc r sl (went l (fo||sl) s p ps fn) e w''):=HEN.out w4 d off2 (pc-1) HB5.out HP4.out HR5.out HL4.out
    have HF4:Hid (Calls Tryz.prog 113 #[.slice y.nA x.ns.length y.nC,.string p] w4 fun e w''=>e=.returned (.int .i64 fn)∧w''=w4):=HFd.out w4 HB5.out
    clear HW1 HEN HFd
    go_wp2_with (go_at_call 113;refine (HF4.out).mono ?_;rintro e w5 ⟨rfl,hw⟩;have hw2:=hw.symm;clear hw;subst hw2)
    refine (HC.out).mono ?_
    rintro e w6 ⟨rfl,hu6,hn6⟩
    have HEnd:Hid (ButS (some ⟨P,0,none⟩) w w6∧((went l (fo||sl) s p ps fn).1=0→∃ d pa pc,WyAt w6 P tb tf len cap l now u g ca cl cc r sl (went l (fo||sl) s p ps fn).2 d pa pc∧((went l (fo||sl) s p ps fn).2.nm.toList≠[]→d=(went l (fo||sl) s p ps fn).2.d))):=⟨HU4.out.trans hu6,hn6⟩
    clear hu6 hn6 HC HF4
    go_wp2
    go_ret
    refine ⟨by rw [HW.out];rfl,HEnd.out.1,?_⟩
    rw [HW.out]
    exact HEnd.out.2
  · have HE4 : Hid (w3.setCell ⟨P, 9, none⟩ (.slice (some ⟨b, off + 1, none⟩) ps.length (pc - 1)) = (w3.setCell ⟨P, 9, none⟩ (.slice (some ⟨b, off2, none⟩) ps.length (pc - 1)))) := (by show _ = _; rw [ho2 hcap])
    have hcapi:(1:Int)<(pc:Int):=by omega
    have hlpi:(ps.length:Int)+1≤(pc:Int):=by have:=HPne.out.2.1;omega
    clear ho1 ho2 HS2
    go_upto_region 8 with fail
    rw [HE4.out]
    generalize (w3.setCell ⟨P,9,none⟩ (.slice (some ⟨b,off2,none⟩) ps.length (pc-1)))=w4 at HP4 HU4 HR5 HZ5 HB5 ⊢
    clear HE4 p9 r0 fz HP3 HR3 HU3 HZ3 HB3 HR4 hcapi hlpi hcap
    have p8:w4.cell? ⟨P,8,none⟩=some (.string nm0):=HP4.out.at0 8 _ rfl
    have p6:w4.cell? ⟨P,6,none⟩=some (.int .i64 ((k:Int)+1)):=HP4.out.at0 6 _ rfl
    have fz:=HP4.out.frz
    have z20:=NB.c20 HZ5.out
    have z22:=NB.c22 HZ5.out
    have HL4:Hid (ps.length≤pc-1):=(by show _≤_;have:=HPne.out.2.1;omega)
    cases e1:(p.toList==[46])
    case true =>
      have HW:Hid (wst l (ltB l u g cl r cf) (fo||sl) s p ps=(0,⟨(k:Int)+1,(k:Int)+1,emp,ps,lk⟩)):=(by show _=_;rw [HW1.out,e1];rfl)
      have HP6:Hid (BoxW (w4.setCell ⟨P,8,none⟩ (.string ⟨#[]⟩)) P [.slice (some ⟨tb,tf,none⟩) len cap,.int .i64 now,.int .i64 u,.int .i64 g,.slice ca cl cc,.bool r,.int .i64 ((k:Int)+1),.int .i64 d,.string ⟨#[]⟩,.slice (some ⟨b,off2,none⟩) ps.length (pc-1),.bool sl,.int .i64 lk]):=HP4.out.set 8 (by simp) (.string ⟨#[]⟩)
      have HU6:Hid (ButS (some ⟨P,0,none⟩) w (w4.setCell ⟨P,8,none⟩ (.string ⟨#[]⟩))):=HU4.out.set
      have HR6:Hid (RowB (w4.setCell ⟨P,8,none⟩ (.string ⟨#[]⟩)) b off2 ps):=HR5.out.but (ButS.refl (some ⟨P,0,none⟩) _).set (fun A e=>by cases e;exact HPne.out.1)
      clear HW1 HEN HFd
      go_wp2
      go_ret
      refine ⟨by rw [HW.out];rfl,HU6.out,fun _=>?_⟩
      rw [HW.out]
      exact ⟨d,some ⟨b,off2,none⟩,pc-1,⟨HP6.out,fun _=>⟨b,off2,rfl,HPne.out.1,HR6.out⟩,HL4.out⟩,fun h=>absurd emp_nil h⟩
    cases e2:(p.toList==[46,46])
    case true =>
      have HW:Hid (wst l (ltB l u g cl r cf) (fo||sl) s p ps=(0,⟨x.up,x.up,emp,ps,lk⟩)):=(by show _=_;rw [HW1.out,e1,e2];rfl)
      have HP6:Hid (BoxW ((w4.setCell ⟨P,8,none⟩ (.string ⟨#[]⟩)).setCell ⟨P,6,none⟩ (.int .i64 x.up)) P [.slice (some ⟨tb,tf,none⟩) len cap,.int .i64 now,.int .i64 u,.int .i64 g,.slice ca cl cc,.bool r,.int .i64 x.up,.int .i64 d,.string ⟨#[]⟩,.slice (some ⟨b,off2,none⟩) ps.length (pc-1),.bool sl,.int .i64 lk]):=(HP4.out.set 8 (by simp) (.string ⟨#[]⟩)).set 6 (by simp) (.int .i64 x.up)
      have HU6:Hid (ButS (some ⟨P,0,none⟩) w ((w4.setCell ⟨P,8,none⟩ (.string ⟨#[]⟩)).setCell ⟨P,6,none⟩ (.int .i64 x.up))):=HU4.out.set.set
      have HR6:Hid (RowB ((w4.setCell ⟨P,8,none⟩ (.string ⟨#[]⟩)).setCell ⟨P,6,none⟩ (.int .i64 x.up)) b off2 ps):=HR5.out.but (ButS.refl (some ⟨P,0,none⟩) _).set.set (fun A e=>by cases e;exact HPne.out.1)
      have hZP:¬ P=Z:=by have:=HZP.out;omega
      have hPZ:¬ Z=P:=by have:=HZP.out;omega
      clear HW1 HEN HFd
      go_wp2
      go_ret
      refine ⟨by rw [HW.out];rfl,HU6.out,fun _=>?_⟩
      rw [HW.out]
      exact ⟨d,some ⟨b,off2,none⟩,pc-1,⟨HP6.out,fun _=>⟨b,off2,rfl,HPne.out.1,HR6.out⟩,HL4.out⟩,fun h=>absurd emp_nil h⟩
    have HW:Hid (wst l (ltB l u g cl r cf) (fo||sl) s p ps=went l (fo||sl) s p ps fn):=(by show _=_;rw [HW1.out,e1,e2];rfl)
    have HC:Hid (Calls Tryz.prog 112 #[.pointer (some ⟨P,0,none⟩),.int .i64 fn,.string p,.bool fo] w4 fun e w''=>WyEnd w4 P tb tf len cap l now u g ca cl cc r sl (went l (fo||sl) s p ps fn) e w''):=HEN.out w4 d off2 (pc-1) HB5.out HP4.out HR5.out HL4.out
    have HF4:Hid (Calls Tryz.prog 113 #[.slice y.nA x.ns.length y.nC,.string p] w4 fun e w''=>e=.returned (.int .i64 fn)∧w''=w4):=HFd.out w4 HB5.out
    clear HW1 HEN HFd
    go_wp2_with (go_at_call 113;refine (HF4.out).mono ?_;rintro e w5 ⟨rfl,hw⟩;have hw2:=hw.symm;clear hw;subst hw2)
    refine (HC.out).mono ?_
    rintro e w6 ⟨rfl,hu6,hn6⟩
    have HEnd:Hid (ButS (some ⟨P,0,none⟩) w w6∧((went l (fo||sl) s p ps fn).1=0→∃ d pa pc,WyAt w6 P tb tf len cap l now u g ca cl cc r sl (went l (fo||sl) s p ps fn).2 d pa pc∧((went l (fo||sl) s p ps fn).2.nm.toList≠[]→d=(went l (fo||sl) s p ps fn).2.d))):=⟨HU4.out.trans hu6,hn6⟩
    clear hu6 hn6 HC HF4
    go_wp2
    go_ret
    refine ⟨by rw [HW.out];rfl,HEnd.out.1,?_⟩
    rw [HW.out]
    exact HEnd.out.2
def s0W (s:ByteArray):Wy:=⟨1,1,emp,pbo s,0⟩
structure Wo where
  n:Int
  d:Int
  nm:ByteArray
  c:Int
def woC (c:Int):Wo:=⟨0,0,emp,c⟩
def wend (l:List Nd) (sl:Bool) (x:Int × Wy):Wo :=
  if x.1==0 then (if sl&&(decide (0<x.2.at_)&&!((ndAt l (x.2.at_-1).toNat).k==1)) then woC 12 else ⟨x.2.at_,x.2.d,x.2.nm,0⟩) else woC x.1
def wkO (l:List Nd) (lt:Nat→Bool) (fo:Bool) (s:ByteArray):Wo :=
  if ppC s=0 then wend l (lasB s) (wrun l lt (fo||lasB s) (wmu (s0W s)) (s0W s)) else woC (ppC s)
theorem ppC_zero {s:ByteArray}(h:ppC s=0):s.size≤60:=by
  unfold ppC at h
  split at h
  · exact absurd h (by decide)
  · split at h
    · rename_i h2
      simp only [Bool.and_eq_true] at h2
      exact (signs_len h2.1).2
    · exact absurd h (by decide)
theorem s0_ok {l:List Nd}{now:Int}{s:ByteArray}(ht:treeB l now=true)(h:ppC s=0):WyOk l (s0W s):=by
  have hone:thB l 1=true:=diB_th (di_one (tree_one ht) (by simp only [treeB,Bool.and_eq_true] at ht;exact ht.2.2.2.1))
  have h1:=pbo_len s
  have h2:=ppC_zero h
  exact ⟨fun e=>by simp [s0W] at e,fun _=>hone,fun _=>rfl,Nat.zero_le _,by simp only [s0W];omega,pbo_ne s⟩
theorem wrun_nil {l:List Nd}{lt:Nat→Bool}{fs:Bool}{s:Wy}(h:s.ps=[]):∀ f,wrun l lt fs f s=(0,s)
  | 0=>rfl
  | f+1=>by simp only [wrun,h]
theorem wrun_cons {l:List Nd}{lt:Nat→Bool}{fs:Bool}{s:Wy}{p:ByteArray}{ps:List ByteArray}(h:s.ps=p :: ps)(g:Nat):wrun l lt fs (g+1) s=if (wst l lt fs s p ps).1==0 then wrun l lt fs g (wst l lt fs s p ps).2 else wst l lt fs s p ps:=by simp only [wrun,h]
structure WyI (l:List Nd) (lt:Nat→Bool) (fs:Bool) (r:Int × Wy) (s:Wy):Prop where
  ok:WyOk l s
  run:∃ f,wmu s≤f∧r=wrun l lt fs f s
theorem wyI_start {l:List Nd}{now:Int}{lt:Nat→Bool}{fs:Bool}{s:ByteArray}(ht:treeB l now=true)(h:ppC s=0):WyI l lt fs (wrun l lt fs (wmu (s0W s)) (s0W s)) (s0W s):=⟨s0_ok ht h,_,Nat.le_refl _,rfl⟩
theorem wyI_end {l:List Nd}{lt:Nat→Bool}{fs:Bool}{r:Int × Wy}{s:Wy}(h:WyI l lt fs r s)(hp:s.ps=[]):r=(0,s):=by
  obtain ⟨f,_,hr⟩:=h.run
  rw [hr,wrun_nil hp]
theorem wyI_next {l:List Nd}{now:Int}{lt:Nat→Bool}{fs:Bool}{r:Int × Wy}{s:Wy}{p:ByteArray}{ps:List ByteArray}(ht:treeB l now=true)(h:WyI l lt fs r s)(hp:s.ps=p :: ps) :
    ((wst l lt fs s p ps).1=0→WyI l lt fs r (wst l lt fs s p ps).2∧wmu (wst l lt fs s p ps).2<wmu s)∧((wst l lt fs s p ps).1≠0→r=wst l lt fs s p ps):=by
  obtain ⟨f,hf,hr⟩:=h.run
  have hm:1≤wmu s:=by rw [wmu,hp,List.length_cons];omega
  obtain ⟨g,rfl⟩:∃ g,f=g+1:=⟨f-1,by omega⟩
  rw [wrun_cons hp] at hr
  constructor
  · intro h0
    obtain ⟨h1,h2⟩:=wst_ok ht h.ok hp h0
    have e:((wst l lt fs s p ps).1==0)=true:=by rw [h0];rfl
    rw [e] at hr
    exact ⟨⟨h1,g,by omega,hr⟩,h2⟩
  · intro h0
    have e:((wst l lt fs s p ps).1==0)=false:=by simpa using h0
    rw [e] at hr
    exact hr
def wMu (w:World) (P:Nat):Nat:=match w.cell? ⟨P,11,none⟩,w.cell? ⟨P,9,none⟩ with
  | some (.int _ k),some (.slice _ n _)=>(9-k.toNat)*1000+n
  | _,_=>0
theorem wMu_at {w:World}{P:Nat}{tb tf len cap:Nat}{l:List Nd}{now:Int}{u g:Int}{ca:Option Addr}{cl cc:Nat}{r:Bool}{sl:Bool}{s:Wy}{d:Int}{pa:Option Addr}{pc:Nat}(h:WyAt w P tb tf len cap l now u g ca cl cc r sl s d pa pc):wMu w P=wmu s:=by
  have h1:w.cell? ⟨P,11,none⟩=some (.int .i64 s.lk):=h.1.at0 11 _ rfl
  have h2:w.cell? ⟨P,9,none⟩=some (.slice pa s.ps.length pc):=h.1.at0 9 _ rfl
  simp only [wMu,h1,h2,wmu]
  simp
theorem below_drewS {B:Nat}{w w':World}(h:Below B w w')(n:Nat):Below B w (w'.drewN n):=h.trans ⟨rfl,rfl,rfl,Nat.le_refl _,fun _ _=>rfl⟩
theorem bdW {B:Nat}{w w':World}(h:Below B w w'):Below B w w'.drew:=h.trans ⟨rfl,rfl,rfl,Nat.le_refl _,fun _ _=>rfl⟩
set_option maxRecDepth 20000 in
set_option maxHeartbeats 16000000 in
theorem sL09_any (tb tf len cap:Nat)(l:List Nd)(now:Int)(u g:Int)(ca:Option Addr)(cl cc:Nat)(r:Bool)(cf:Nat→Int)(s:ByteArray)(fo:Bool)(Y:Nat→Na)(hl:len≤12)(hll:l.length=len)(ht:treeB l now=true)(hcr:credB u g cl cf=true)(hs:s.size≤1048576)(w:World)
    (htb:tb<w.heap.size) (hN:∀ i,i<len→N24 w tb (tf+i*24) (ndAt l i) (Y i)∧NdIn w (ndAt l i) (Y i)) (hfit:∀ i,i<len→NdFit 1048576 (ndAt l i)) (hci:Ints ca cl cf w) :
    Calls Tryz.prog 35 #[.agg #[.slice (some ⟨tb,tf,none⟩) len cap,.int .i64 now],.agg #[.int .i64 u,.int .i64 g,.slice ca cl cc,.bool r],.string s,.bool fo] w fun e w'=>e=.returned (.agg #[.int .i64 (wkO l (ltB l u g cl r cf) fo s).n,.int .i64 (wkO l (ltB l u g cl r cf) fo s).d,.string (wkO l (ltB l u g cl r cf) fo s).nm,.int .i64 (wkO l (ltB l u g cl r cf) fo s).c])∧Below w.heap.size w w':=by
  have HPp:Hid (∀ w,Calls Tryz.prog 66 #[.string s] w (PpEnd w s)):=(fun w=>sPathParts_any s hs w)
  have HB:Hid (Below w.heap.size w (((w.alloc (.cells #[.slice (some ⟨tb,tf,none⟩) len cap,.int .i64 now] 35)).alloc (.cells #[.int .i64 u,.int .i64 g,.slice ca cl cc,.bool r] 37)).alloc (.cells #[.int .i64 0,.int .i64 0,.string ⟨#[]⟩,.int .i64 0] 31))):=(((Below.refl _ _).alloc (Nat.le_refl _) _).alloc (by simp) _).alloc (by simp;omega) _
  have HX:Hid (BoxR (((w.alloc (.cells #[.slice (some ⟨tb,tf,none⟩) len cap,.int .i64 now] 35)).alloc (.cells #[.int .i64 u,.int .i64 g,.slice ca cl cc,.bool r] 37)).alloc (.cells #[.int .i64 0,.int .i64 0,.string ⟨#[]⟩,.int .i64 0] 31)) w.heap.size [.slice (some ⟨tb,tf,none⟩) len cap,.int .i64 now]):=((boxR_new w [.slice (some ⟨tb,tf,none⟩) len cap,.int .i64 now] 35).below (bel_alloc _ _)).below (bel_alloc _ _)
  have HC:Hid (BoxR (((w.alloc (.cells #[.slice (some ⟨tb,tf,none⟩) len cap,.int .i64 now] 35)).alloc (.cells #[.int .i64 u,.int .i64 g,.slice ca cl cc,.bool r] 37)).alloc (.cells #[.int .i64 0,.int .i64 0,.string ⟨#[]⟩,.int .i64 0] 31)) (w.heap.size+1) [.int .i64 u,.int .i64 g,.slice ca cl cc,.bool r]):=(by
    have h:=(boxR_new (w.alloc (.cells #[.slice (some ⟨tb,tf,none⟩) len cap,.int .i64 now] 35)) [.int .i64 u,.int .i64 g,.slice ca cl cc,.bool r] 37).below (bel_alloc _ (.cells #[.int .i64 0,.int .i64 0,.string ⟨#[]⟩,.int .i64 0] 31))
    simp only [World.size_alloc] at h
    exact h)
  have HO:Hid (BoxW (((w.alloc (.cells #[.slice (some ⟨tb,tf,none⟩) len cap,.int .i64 now] 35)).alloc (.cells #[.int .i64 u,.int .i64 g,.slice ca cl cc,.bool r] 37)).alloc (.cells #[.int .i64 0,.int .i64 0,.string ⟨#[]⟩,.int .i64 0] 31)) (w.heap.size+1+1) [.int .i64 0,.int .i64 0,.string ⟨#[]⟩,.int .i64 0]):=(by
    have h:=boxW_new ((w.alloc (.cells #[.slice (some ⟨tb,tf,none⟩) len cap,.int .i64 now] 35)).alloc (.cells #[.int .i64 u,.int .i64 g,.slice ca cl cc,.bool r] 37)) [.int .i64 0,.int .i64 0,.string ⟨#[]⟩,.int .i64 0] 31
    simp only [World.size_alloc] at h
    exact h)
  have HSt:Hid (∀ (P:Nat) (sl:Bool) (t:Wy) (d:Int) (p:ByteArray) (ps:List ByteArray) (pa:Option Addr) (pc:Nat) (w':World),WyOk l t→t.ps=p :: ps→Below w.heap.size w w'→w.heap.size≤P→WyAt w' P tb tf len cap l now u g ca cl cc r sl t d pa pc→Calls Tryz.prog 67 #[.pointer (some ⟨P,0,none⟩),.bool fo] w' fun e w''=>WyEnd w' P tb tf len cap l now u g ca cl cc r sl (wst l (ltB l u g cl r cf) (fo||sl) t p ps) e w''):=(fun P sl t d p ps pa pc w' h1 h2 h3 h4 h5=>sStep_any w P tb tf len cap l now u g ca cl cc r sl cf t d p ps pa pc fo Y hl hll ht hcr h1 h2 htb hN hfit hci w' h3 h4 h5)
  have HNx:Hid (∀ w',Below w.heap.size w w'→∀ i,i<len→N24 w' tb (tf+i*24) (ndAt l i) (Y i)):=(fun w' hb i hi=>range_below (hN i hi).1 htb hb)
  have HT:Hid (treeB l now=true):=ht
  have HLl:Hid (l.length=len):=hll
  clear hN hfit hci ht hcr hll htb
  generalize hlt:ltB l u g cl r cf=lt at HSt ⊢
  clear hlt
  go_enter Tryz.func35,Tryz.ntmps35
  go_upto_region 1 with fail
  generalize (((w.alloc (.cells #[.slice (some ⟨tb,tf,none⟩) len cap,.int .i64 now] 35)).alloc (.cells #[.int .i64 u,.int .i64 g,.slice ca cl cc,.bool r] 37)).alloc (.cells #[.int .i64 0,.int .i64 0,.string ⟨#[]⟩,.int .i64 0] 31))=w0 at HB HX HC HO ⊢
  obtain ⟨X,hX⟩:∃ X,X=w.heap.size:=⟨_,rfl⟩
  have HXw:Hid (X=w.heap.size):=hX
  rw [←hX] at HX HC HO ⊢
  clear hX
  go_wp2_with fail
  refine (HPp.out _).mono ?_
  intro e w1 he
  rcases he with ⟨hc0,rfl,hb1⟩ | ⟨hc0,v,rfl,hv,hb1⟩
  · have HW : Hid (wkO l lt fo s = woC (ppC s)) := (by show _ = _; rw [wkO, if_neg hc0])
    have HB1:Hid (Below w.heap.size w w1):=Below.on HB.out hb1
    have HO1:Hid (BoxW w1 (X+1+1) [.int .i64 0,.int .i64 0,.string ⟨#[]⟩,.int .i64 0]):=HO.out.below hb1
    have hcn:(ppC s==0)=false:=by simpa using hc0
    have hcn2:(ppC s != 0)=true:=by rw [bne,hcn];rfl
    generalize ppC s=pcc at HW hcn hcn2
    have hbQ:=bel_alloc w1 (.cells #[.slice none 0 0,.bool false,.int .i64 pcc] 66)
    have HQ2:Hid (BoxR (w1.alloc (.cells #[.slice none 0 0,.bool false,.int .i64 pcc] 66)) w1.heap.size [.slice none 0 0,.bool false,.int .i64 pcc]):=boxR_new _ _ _
    have HO2:Hid (BoxW (w1.alloc (.cells #[.slice none 0 0,.bool false,.int .i64 pcc] 66)) (X+1+1) [.int .i64 0,.int .i64 0,.string ⟨#[]⟩,.int .i64 0]):=HO1.out.below hbQ
    have HB2:Hid (Below w.heap.size w (w1.alloc (.cells #[.slice none 0 0,.bool false,.int .i64 pcc] 66))):=Below.on HB1.out hbQ
    clear hb1 hbQ HPp HSt HNx
    go_upto_region 2 with fail
    generalize w1.alloc (.cells #[.slice none 0 0,.bool false,.int .i64 pcc] 66)=w2 at HQ2 HO2 HB2 ⊢
    generalize w1.heap.size=Q at HQ2 ⊢
    have q2:w2.cell? ⟨Q,2,none⟩=some (.int .i64 pcc):=HQ2.out.at0 2 _ rfl
    have o0:w2.cell? ⟨X+1+1,0,none⟩=some (.int .i64 0):=HO2.out.at0 0 _ rfl
    have o1:w2.cell? ⟨X+1+1,1,none⟩=some (.int .i64 0):=HO2.out.at0 1 _ rfl
    have o2:w2.cell? ⟨X+1+1,2,none⟩=some (.string ⟨#[]⟩):=HO2.out.at0 2 _ rfl
    have o3:w2.cell? ⟨X+1+1,3,none⟩=some (.int .i64 0):=HO2.out.at0 3 _ rfl
    have fz:=HO2.out.frz
    go_wp2
    refine bodyPost_ret (v:=.agg #[.int .i64 0,.int .i64 0,.string ⟨#[]⟩,.int .i64 pcc]) (by simp [results,Tryz.results35,go_sem,o0,o1,o2,o3]) rfl ?_
    exact ⟨by rw [HW.out];rfl,(by repeat (first | exact HB2.out | refine bl_setT ?_ (by have:=HXw.out;omega)))⟩
  · have HW : Hid (wkO l lt fo s = wend l (lasB s) (wrun l lt (fo || lasB s) (wmu (s0W s)) (s0W s))) := (by show _ = _; rw [wkO, if_pos hc0])
    have HI:Hid (WyI l lt (fo||lasB s) (wrun l lt (fo||lasB s) (wmu (s0W s)) (s0W s)) (s0W s)):=wyI_start HT.out hc0
    obtain ⟨qa,qc,hvv,hqc,hrs⟩:=own_rowS (l:=pbo s) hv
    subst hvv
    have hql:(pbo s).length≤61:=by have h1:=pbo_len s;have h2:=ppC_zero hc0;omega
    have HB1:Hid (Below w.heap.size w w1):=Below.on HB.out hb1
    obtain ⟨R,hR⟩:∃ R,R=wrun l lt (fo||lasB s) (wmu (s0W s)) (s0W s):=⟨_,rfl⟩
    rw [←hR] at HW HI
    clear hR
    generalize lasB s=sl at HW HI
    have hbQ:=bel_alloc w1 (.cells #[.slice qa (pbo s).length qc,.bool sl,.int .i64 0] 66)
    have HQ2:Hid (BoxR (w1.alloc (.cells #[.slice qa (pbo s).length qc,.bool sl,.int .i64 0] 66)) w1.heap.size [.slice qa (pbo s).length qc,.bool sl,.int .i64 0]):=boxR_new _ _ _
    have HO2:Hid (BoxW (w1.alloc (.cells #[.slice qa (pbo s).length qc,.bool sl,.int .i64 0] 66)) (X+1+1) [.int .i64 0,.int .i64 0,.string ⟨#[]⟩,.int .i64 0]):=(HO.out.below hb1).below hbQ
    have HX2:Hid (BoxR (w1.alloc (.cells #[.slice qa (pbo s).length qc,.bool sl,.int .i64 0] 66)) X [.slice (some ⟨tb,tf,none⟩) len cap,.int .i64 now]):=(HX.out.below hb1).below hbQ
    have HC2:Hid (BoxR (w1.alloc (.cells #[.slice qa (pbo s).length qc,.bool sl,.int .i64 0] 66)) (X+1) [.int .i64 u,.int .i64 g,.slice ca cl cc,.bool r]):=(HC.out.below hb1).below hbQ
    have HB2:Hid (Below w.heap.size w (w1.alloc (.cells #[.slice qa (pbo s).length qc,.bool sl,.int .i64 0] 66))):=Below.on HB1.out hbQ
    have HR2:Hid (RowS (w1.alloc (.cells #[.slice qa (pbo s).length qc,.bool sl,.int .i64 0] 66)) qa (pbo s)):=hrs.below hbQ
    have HQc:Hid ((pbo s).length≤qc):=hqc
    clear hv hb1 hbQ hrs hqc HB HX HC HO HB1 HPp
    go_upto_region 2 with fail
    generalize w1.alloc (.cells #[.slice qa (pbo s).length qc,.bool sl,.int .i64 0] 66)=w2 at HQ2 HO2 HX2 HC2 HB2 HR2 ⊢
    generalize w1.heap.size=Q at HQ2 ⊢
    have q0:w2.cell? ⟨Q,0,none⟩=some (.slice qa (pbo s).length qc):=HQ2.out.at0 0 _ rfl
    have q1:w2.cell? ⟨Q,1,none⟩=some (.bool sl):=HQ2.out.at0 1 _ rfl
    have q2:w2.cell? ⟨Q,2,none⟩=some (.int .i64 0):=HQ2.out.at0 2 _ rfl
    have x0:w2.cell? ⟨X,0,none⟩=some (.slice (some ⟨tb,tf,none⟩) len cap):=HX2.out.at0 0 _ rfl
    have x1:w2.cell? ⟨X,1,none⟩=some (.int .i64 now):=HX2.out.at0 1 _ rfl
    have c0:w2.cell? ⟨X+1,0,none⟩=some (.int .i64 u):=HC2.out.at0 0 _ rfl
    have c1:w2.cell? ⟨X+1,1,none⟩=some (.int .i64 g):=HC2.out.at0 1 _ rfl
    have c2:w2.cell? ⟨X+1,2,none⟩=some (.slice ca cl cc):=HC2.out.at0 2 _ rfl
    have c3:w2.cell? ⟨X+1,3,none⟩=some (.bool r):=HC2.out.at0 3 _ rfl
    have hbP:=bel_alloc w2 (.cells #[.slice (some ⟨tb,tf,none⟩) len cap,.int .i64 now,.int .i64 u,.int .i64 g,.slice ca cl cc,.bool r,.int .i64 1,.int .i64 0,.string ⟨#[]⟩,.slice qa (pbo s).length qc,.bool sl,.int .i64 0] 122)
    have HP3:Hid (WyAt (w2.alloc (.cells #[.slice (some ⟨tb,tf,none⟩) len cap,.int .i64 now,.int .i64 u,.int .i64 g,.slice ca cl cc,.bool r,.int .i64 1,.int .i64 0,.string ⟨#[]⟩,.slice qa (pbo s).length qc,.bool sl,.int .i64 0] 122)) w2.heap.size tb tf len cap l now u g ca cl cc r sl (s0W s) 0 qa qc):=(by
      refine ⟨boxW_new w2 [.slice (some ⟨tb,tf,none⟩) len cap,.int .i64 now,.int .i64 u,.int .i64 g,.slice ca cl cc,.bool r,.int .i64 1,.int .i64 0,.string ⟨#[]⟩,.slice qa (pbo s).length qc,.bool sl,.int .i64 0] 122,fun h=>?_,HQc.out⟩
      obtain ⟨b,hb,hlt,hcell⟩:=HR2.out h
      exact ⟨b,0,hb,by omega,RowB.below ⟨hlt,hcell⟩ hbP⟩)
    have HO3:Hid (BoxW (w2.alloc (.cells #[.slice (some ⟨tb,tf,none⟩) len cap,.int .i64 now,.int .i64 u,.int .i64 g,.slice ca cl cc,.bool r,.int .i64 1,.int .i64 0,.string ⟨#[]⟩,.slice qa (pbo s).length qc,.bool sl,.int .i64 0] 122)) (X+1+1) [.int .i64 0,.int .i64 0,.string ⟨#[]⟩,.int .i64 0]):=HO2.out.below hbP
    have HX3:Hid (BoxR (w2.alloc (.cells #[.slice (some ⟨tb,tf,none⟩) len cap,.int .i64 now,.int .i64 u,.int .i64 g,.slice ca cl cc,.bool r,.int .i64 1,.int .i64 0,.string ⟨#[]⟩,.slice qa (pbo s).length qc,.bool sl,.int .i64 0] 122)) X [.slice (some ⟨tb,tf,none⟩) len cap,.int .i64 now]):=HX2.out.below hbP
    have HB3:Hid (Below w.heap.size w (w2.alloc (.cells #[.slice (some ⟨tb,tf,none⟩) len cap,.int .i64 now,.int .i64 u,.int .i64 g,.slice ca cl cc,.bool r,.int .i64 1,.int .i64 0,.string ⟨#[]⟩,.slice qa (pbo s).length qc,.bool sl,.int .i64 0] 122))):=Below.on HB2.out hbP
    have HPX:Hid (X+1+1<w2.heap.size∧w.heap.size≤w2.heap.size):=⟨HO2.out.lt,HB2.out.size⟩
    clear hbP
    go_upto_region 5 with fail
    generalize w2.alloc (.cells #[.slice (some ⟨tb,tf,none⟩) len cap,.int .i64 now,.int .i64 u,.int .i64 g,.slice ca cl cc,.bool r,.int .i64 1,.int .i64 0,.string ⟨#[]⟩,.slice qa (pbo s).length qc,.bool sl,.int .i64 0] 122)=w3 at HP3 HO3 HX3 HB3 ⊢
    generalize w2.heap.size=P at HP3 HPX ⊢
    clear q0 q1 q2 x0 x1 c0 c1 c2 c3 HQ2 HO2 HX2 HC2 HB2 HR2 HQc
    go_loopw [11] (fun v wr=>∃ (t:Wy) (d:Int) (pa:Option Addr) (pc:Nat),Hid (WyI l lt (fo||sl) R t)∧Hid (WyAt wr P tb tf len cap l now u g ca cl cc r sl t d pa pc)∧Hid (t.nm.toList≠[]→d=t.d)∧Hid (Below w.heap.size w wr)∧Hid (BoxW wr (X+1+1) [.int .i64 0,.int .i64 0,.string ⟨#[]⟩,.int .i64 0])∧Hid (BoxR wr X [.slice (some ⟨tb,tf,none⟩) len cap,.int .i64 now])) (fun _ wr=>wMu wr P)
    case atStart=>exact ⟨s0W s,0,qa,qc,HI,HP3,fun h=>absurd emp_nil h,HB3,HO3,HX3⟩
    case round =>
      obtain ⟨t,d,pa,pc,hI,hA,hd,hB,hO,hX⟩:=hrel
      have p9:wr.cell? ⟨P,9,none⟩=some (.slice pa t.ps.length pc):=hA.out.1.at0 9 _ rfl
      have o0:wr.cell? ⟨X+1+1,0,none⟩=some (.int .i64 0):=hO.out.at0 0 _ rfl
      cases hps:t.ps with
      | cons p ps =>
        have HC:Hid (Calls Tryz.prog 67 #[.pointer (some ⟨P,0,none⟩),.bool fo] wr fun e w''=>WyEnd wr P tb tf len cap l now u g ca cl cc r sl (wst l lt (fo||sl) t p ps) e w''):=HSt.out P sl t d p ps pa pc wr hI.out.ok hps hB.out HPX.out.2 hA.out
        obtain ⟨hn1,hn2⟩:=wyI_next HT.out hI.out hps
        have HN1:Hid ((wst l lt (fo||sl) t p ps).1=0→WyI l lt (fo||sl) R (wst l lt (fo||sl) t p ps).2∧wmu (wst l lt (fo||sl) t p ps).2<wmu t):=hn1
        have HN2:Hid ((wst l lt (fo||sl) t p ps).1≠0→R=wst l lt (fo||sl) t p ps):=hn2
        have HMu:Hid (wMu wr P=wmu t):=wMu_at hA.out
        have hlen:(0:Int)<(t.ps.length:Int):=by rw [hps];simp
        clear hn1 hn2 hps
        generalize t.ps.length=tn at p9 hlen
        generalize wst l lt (fo||sl) t p ps=x at HC HN1 HN2
        go_wp2_with fail
        refine (HC.out).mono ?_
        rintro e w5 ⟨rfl,hu5,hn5⟩
        have HB5:Hid (Below w.heap.size w w5):=hB.out.trans (hu5.below _ hB.out.size (fun A e=>by cases e;exact HPX.out.2))
        have HO5:Hid (BoxW w5 (X+1+1) [.int .i64 0,.int .i64 0,.string ⟨#[]⟩,.int .i64 0]):=hO.out.butS hu5 (fun A e=>by cases e;have:=HPX.out.1;show X+1+1≠P;omega)
        have HX5:Hid (BoxR w5 X [.slice (some ⟨tb,tf,none⟩) len cap,.int .i64 now]):=hX.out.butS hu5 (fun A e=>by cases e;have:=HPX.out.1;show X≠P;omega)
        have HN5:Hid (x.1=0→∃ d pa pc,WyAt w5 P tb tf len cap l now u g ca cl cc r sl x.2 d pa pc∧(x.2.nm.toList≠[]→d=x.2.d)):=hn5
        clear hu5 hn5 HC p9 o0 hO hX hB hA
        by_cases hx:x.1=0
        · obtain ⟨d5, pa5, pc5, hA5, hd5⟩ := HN5.out hx
          obtain ⟨hI5,hm5⟩:=HN1.out hx
          have HA5:Hid (WyAt w5 P tb tf len cap l now u g ca cl cc r sl x.2 d5 pa5 pc5):=hA5
          have HI5:Hid (WyI l lt (fo||sl) R x.2):=hI5
          have HD5:Hid (x.2.nm.toList≠[]→d5=x.2.d):=hd5
          have HM5:Hid (wMu w5 P<wMu wr P):=(by show _<_;rw [HMu.out,wMu_at hA5];exact hm5)
          clear hA5 hI5 hd5 hm5 HN5 HN1 HN2
          rw [hx]
          go_wp2
          go_roundw
          case rel=>exact ⟨x.2,d5,pa5,pc5,HI5,HA5,HD5,HB5,HO5,HX5⟩
          case measure=>exact HM5.out
        · have hR := HN2.out hx
          have HWo:Hid (wkO l lt fo s=woC x.1):=(by
            show _=_
            have e:(x.1==0)=false:=by simpa using hx
            rw [HW.out,hR,wend,e]
            rfl)
          have hxn:(x.1==0)=false:=by simpa using hx
          have hxn2:(x.1 != 0)=true:=by rw [bne,hxn];rfl
          generalize x.1=xc at HWo hxn hxn2 ⊢
          have o0:w5.cell? ⟨X+1+1,0,none⟩=some (.int .i64 0):=HO5.out.at0 0 _ rfl
          have o1:w5.cell? ⟨X+1+1,1,none⟩=some (.int .i64 0):=HO5.out.at0 1 _ rfl
          have o2:w5.cell? ⟨X+1+1,2,none⟩=some (.string ⟨#[]⟩):=HO5.out.at0 2 _ rfl
          have o3:w5.cell? ⟨X+1+1,3,none⟩=some (.int .i64 0):=HO5.out.at0 3 _ rfl
          have fz:=HO5.out.frz
          clear HN5 HN1 HN2 hx hR
          go_wp2
          refine bodyPost_ret (v:=.agg #[.int .i64 0,.int .i64 0,.string ⟨#[]⟩,.int .i64 xc]) (by simp [results,Tryz.results35,go_sem,o0,o1,o2,o3]) rfl ?_
          exact ⟨by rw [HWo.out];rfl,(by repeat (first | exact HB5.out | refine bl_setT ?_ (by have:=HXw.out;omega)))⟩
      | nil =>
        have HRe:Hid (R=(0,t)):=wyI_end hI.out hps
        rw [hps] at p9
        have p6:wr.cell? ⟨P,6,none⟩=some (.int .i64 t.at_):=hA.out.1.at0 6 _ rfl
        have p7:wr.cell? ⟨P,7,none⟩=some (.int .i64 d):=hA.out.1.at0 7 _ rfl
        have p8:wr.cell? ⟨P,8,none⟩=some (.string t.nm):=hA.out.1.at0 8 _ rfl
        have p10:wr.cell? ⟨P,10,none⟩=some (.bool sl):=hA.out.1.at0 10 _ rfl
        have x0:wr.cell? ⟨X,0,none⟩=some (.slice (some ⟨tb,tf,none⟩) len cap):=hX.out.at0 0 _ rfl
        have HWt:Hid (wkO l lt fo s=if sl&&(decide (0<t.at_)&&!((ndAt l (t.at_-1).toNat).k==1)) then woC 12 else ⟨t.at_,t.d,t.nm,0⟩):=(by show _=_;rw [HW.out,HRe.out];rfl)
        have HDt:Hid (t.nm.toList=[]→t.d=t.at_):=hI.out.ok.dn
        have hth:t.at_=0∨∃ k:Nat,t.at_=(k:Int)+1∧k<len:=by
          by_cases h0:t.at_=0
          · exact .inl h0
          · obtain ⟨k, hk, hkl⟩ := th_num (hI.out.ok.th h0)
            exact .inr ⟨k,hk,by have:=HLl.out;omega⟩
        have HN0:Hid (∀ i,i<len→N24 wr tb (tf+i*24) (ndAt l i) (Y i)):=HNx.out wr hB.out
        obtain ⟨cnd,hcnd⟩:∃ cnd,cnd=(sl&&(decide (0<t.at_)&&!((ndAt l (t.at_-1).toNat).k==1))):=⟨_,rfl⟩
        rw [←hcnd] at HWt
        go_upto_region 9 with fail
        go_cut [64] (fun v wx=>v=.bool cnd∧∃ n,wx=wr.drewN n)
        case first =>
          cases sl
          · go_quiet (fail)
            go_wp2
            go_meet
            exact ⟨by rw [hcnd];rfl,_,rfl⟩
          · rcases hth with h0 | ⟨k, hk, hkl⟩
            · rw [h0] at p6
              go_quiet (fail)
              go_wp2
              go_meet
              exact ⟨by rw [hcnd,h0];rfl,_,rfl⟩
            · have c0 := N24.c0 (HN0.out k hkl)
              have HCn:Hid (cnd=!((ndAt l k).k==1)):=(by show _=_;rw [hcnd,hk,at_succ];simp)
              rw [hk] at p6
              have hk1:(k:Int)<(len:Int):=by omega
              have hk0:(0:Int)≤(k:Int):=by omega
              clear hcnd HWt
              generalize ndAt l k=x at c0 HCn
              cases q:(x.k==1)
              · have qn : (x.k != 1) = true := by rw [bne, q]; rfl
                rw [q] at HCn
                go_quiet (fail)
                go_wp2
                go_meet
                exact ⟨by rw [HCn.out];rfl,_,rfl⟩
              · have qn : (x.k != 1) = false := by rw [bne, q]; rfl
                rw [q] at HCn
                go_quiet (fail)
                go_wp2
                go_meet
                exact ⟨by rw [HCn.out];rfl,_,rfl⟩
        case rest =>
        obtain ⟨rfl,nd,hwc⟩:=hcut
        have HB5:Hid (Below w.heap.size w wc):=(by show Below _ _ _;rw [hwc];exact below_drewS hB.out _)
        have HO5:Hid (BoxW wc (X+1+1) [.int .i64 0,.int .i64 0,.string ⟨#[]⟩,.int .i64 0]):=(by show BoxW _ _ _;rw [hwc];exact hO.out.below (below_drewS (Below.refl _ _) nd))
        have HA5:Hid (WyAt wc P tb tf len cap l now u g ca cl cc r sl t d pa pc):=(by
          rw [hwc]
          exact ⟨hA.out.1.below (below_drewS (Below.refl _ _) nd),hA.out.2.1.but (ButS.of (below_drewS (Below.refl _ _) nd)),hA.out.2.2⟩)
        clear hwc p6 p7 p8 p9 p10 x0 o0 hB hO hX hA HN0 hcnd hth
        have o0:wc.cell? ⟨X+1+1,0,none⟩=some (.int .i64 0):=HO5.out.at0 0 _ rfl
        have o1:wc.cell? ⟨X+1+1,1,none⟩=some (.int .i64 0):=HO5.out.at0 1 _ rfl
        have o2:wc.cell? ⟨X+1+1,2,none⟩=some (.string ⟨#[]⟩):=HO5.out.at0 2 _ rfl
        have o3:wc.cell? ⟨X+1+1,3,none⟩=some (.int .i64 0):=HO5.out.at0 3 _ rfl
        have fz:=HO5.out.frz
        cases cnd
        case true =>
          have HWo:Hid (wkO l lt fo s=woC 12):=HWt.out
          go_wp2
          refine bodyPost_ret (v:=.agg #[.int .i64 0,.int .i64 0,.string ⟨#[]⟩,.int .i64 12]) (by simp [results,Tryz.results35,go_sem,o0,o1,o2,o3]) rfl ?_
          exact ⟨by rw [HWo.out];rfl,(by repeat (first | exact HB5.out | refine bl_setT ?_ (by have:=HXw.out;omega)))⟩
        have HWo:Hid (wkO l lt fo s=⟨t.at_,t.d,t.nm,0⟩):=HWt.out
        have p6:wc.cell? ⟨P,6,none⟩=some (.int .i64 t.at_):=HA5.out.1.at0 6 _ rfl
        have p7:wc.cell? ⟨P,7,none⟩=some (.int .i64 d):=HA5.out.1.at0 7 _ rfl
        have p8:wc.cell? ⟨P,8,none⟩=some (.string t.nm):=HA5.out.1.at0 8 _ rfl
        have fzP:=HA5.out.1.frz
        have hPO:¬ P=X+1+1:=by have:=HPX.out.1;omega
        have hOP:¬ X+1+1=P:=by have:=HPX.out.1;omega
        cases e:(t.nm.toList==[])
        · have hdd : d = t.d := hd.out (by simpa using e)
          subst hdd
          have HWo2:Hid (wkO l lt fo s=⟨t.at_,t.d,t.nm,0⟩):=HWo
          clear HDt hd HWo HWt HRe HI hI
          go_upto_region 13 with fail
          go_region
          all_goals go_wp2
          all_goals refine bodyPost_ret (v:=.agg #[.int .i64 t.at_,.int .i64 t.d,.string t.nm,.int .i64 0]) (by simp [results,Tryz.results35,go_sem,o0,o1,o2,o3]) rfl ?_
          all_goals exact ⟨by rw [HWo2.out],(by repeat (first | exact HB5.out | refine bl_setT ?_ (by have:=HXw.out;omega) | refine bdW ?_))⟩
        · have hdd : t.d = t.at_ := HDt.out (by simpa using e)
          have HWo2:Hid (wkO l lt fo s=⟨t.at_,t.at_,t.nm,0⟩):=(by show _=_;rw [HWo.out,hdd])
          have HP6:Hid (Below w.heap.size w (wc.setCell ⟨P,7,none⟩ (.int .i64 t.at_))):=setS HB5.out HPX.out.2
          have o0':(wc.setCell ⟨P,7,none⟩ (.int .i64 t.at_)).cell? ⟨X+1+1,0,none⟩=some (.int .i64 0):=(HO5.out.other (b:=P) hPO).at0 0 _ rfl
          have o1':(wc.setCell ⟨P,7,none⟩ (.int .i64 t.at_)).cell? ⟨X+1+1,1,none⟩=some (.int .i64 0):=(HO5.out.other (b:=P) hPO).at0 1 _ rfl
          have o2':(wc.setCell ⟨P,7,none⟩ (.int .i64 t.at_)).cell? ⟨X+1+1,2,none⟩=some (.string ⟨#[]⟩):=(HO5.out.other (b:=P) hPO).at0 2 _ rfl
          have o3':(wc.setCell ⟨P,7,none⟩ (.int .i64 t.at_)).cell? ⟨X+1+1,3,none⟩=some (.int .i64 0):=(HO5.out.other (b:=P) hPO).at0 3 _ rfl
          have fz':∀ o,(wc.setCell ⟨P,7,none⟩ (.int .i64 t.at_)).frozen? ⟨X+1+1,o,none⟩=false:=(HO5.out.other (b:=P) hPO).frz
          have hA6:=HA5.out.1.set 7 (by simp) (.int .i64 t.at_)
          have p6':(wc.setCell ⟨P,7,none⟩ (.int .i64 t.at_)).cell? ⟨P,6,none⟩=some (.int .i64 t.at_):=hA6.at0 6 _ rfl
          have p7':(wc.setCell ⟨P,7,none⟩ (.int .i64 t.at_)).cell? ⟨P,7,none⟩=some (.int .i64 t.at_):=hA6.at0 7 _ rfl
          have p8':(wc.setCell ⟨P,7,none⟩ (.int .i64 t.at_)).cell? ⟨P,8,none⟩=some (.string t.nm):=hA6.at0 8 _ rfl
          have HS:Hid (o0'=o0'):=rfl
          clear HDt hd HWo HWt HRe HI hI hdd hA6 HS
          go_upto_region 13 with fail
          generalize wc.setCell ⟨P,7,none⟩ (.int .i64 t.at_)=w6 at HP6 o0' o1' o2' o3' fz' p6' p7' p8' ⊢
          clear o0 o1 o2 o3 fz p6 p7 p8 fzP HO5 HA5 HB5
          go_region
          all_goals go_wp2
          all_goals refine bodyPost_ret (v:=.agg #[.int .i64 t.at_,.int .i64 t.at_,.string t.nm,.int .i64 0]) (by simp [results,Tryz.results35,go_sem,o0',o1',o2',o3']) rfl ?_
          all_goals exact ⟨by rw [HWo2.out],(by repeat (first | exact HP6.out | refine bl_setT ?_ (by have:=HXw.out;omega) | refine bdW ?_))⟩
end Go.Proofs.YtabfdidnjibdeaaGreatDoor
