/- Laid together: LetI, NodeMayW, ReachM, BegW. -/
import Derived.Test.YtabfdidnjibdeaaGreatDoorBR29
import Derived.Test.YtabfdidnjibdeaaGreatDoorBR12
namespace Go.Proofs.YtabfdidnjibdeaaGreatDoor
open Go.RowKit Go.PlainAid Go.Deep
set_option linter.unusedVariables false
set_option maxRecDepth 20000 in
set_option maxHeartbeats 8000000 in
theorem iRootMay_any (x:Nd)(y:Na)(want:Int)(w:World) :
    Calls Tryz.prog 138 #[.agg (ndV x y).toArray,.int .i64 want] w fun e w'=>e=.returned (.bool (x.k==1||(!hasZ want 1||hasZ (bits .or .i64 (bits .or .i64 x.A.u (clsOf x.A.g x.A.r x.A.m)) x.A.o) 1)))∧Below w.heap.size w w':=by
  have cA:∀ w d os,Calls Tryz.prog 153 #[.agg #[.int .i64 x.A.u,.int .i64 x.A.g,.int .i64 x.A.o,.slice y.aU x.A.us.length y.cU,.slice y.aG x.A.gs.length y.cG,.bool x.A.r,.int .i64 x.A.m]] (Go.Sort.grow (redrawn w d) os) fun e w''=>e=.returned (.int .i64 (clsOf x.A.g x.A.r x.A.m))∧∃ p:Regrown,w''=Go.Sort.grow (redrawn w p.d) p.os:=fun w d os=>Calls.regrown_of (groupClass_any x.A.u x.A.g x.A.o _ _ _ _ _ _ x.A.r x.A.m _)
  have HH:Hid (∀ (h v:Int) (w:World),Calls Tryz.prog 176 #[.int .i64 h,.int .i64 v] w fun e w'=>e=.returned (.bool (hasZ h v))∧w'=w):=iHas_any
  generalize clsOf x.A.g x.A.r x.A.m=kk at cA ⊢
  have HE:Hid ((x.k==1||(!hasZ want 1||hasZ (bits .or .i64 (bits .or .i64 x.A.u kk) x.A.o) 1))=(x.k==1||(!hasZ want 1||hasZ (bits .or .i64 (bits .or .i64 x.A.u kk) x.A.o) 1))):=rfl
  generalize hbz:(x.k==1||(!hasZ want 1||hasZ (bits .or .i64 (bits .or .i64 x.A.u kk) x.A.o) 1))=bz
  have HZ:Hid (bz=(x.k==1||(!hasZ want 1||hasZ (bits .or .i64 (bits .or .i64 x.A.u kk) x.A.o) 1))):=hbz.symm
  clear hbz HE
  have HB:Hid (Below w.heap.size w (w.alloc (.cells (ndV x y).toArray 84))):=bel_alloc _ _
  have HX:Hid (BoxR (w.alloc (.cells (ndV x y).toArray 84)) w.heap.size (ndV x y)):=boxR_new _ _ _
  go_enter Tryz.func138,Tryz.ntmps138
  go_upto_region 1 with fail
  generalize w.alloc (.cells (ndV x y).toArray 84)=w0 at HB HX ⊢
  obtain ⟨X,hX⟩:∃ X,X=w.heap.size:=⟨_,rfl⟩
  rw [←hX] at HX ⊢
  clear hX
  have z4:∀ d os,(Go.Sort.grow (redrawn w0 d) os).cell? ⟨X,4,none⟩=some (.int .i64 x.A.u):=fun d os=>cell_regrown (NB.c4 HX.out) d os
  have z5:∀ d os,(Go.Sort.grow (redrawn w0 d) os).cell? ⟨X,5,none⟩=some (.int .i64 x.A.g):=fun d os=>cell_regrown (NB.c5 HX.out) d os
  have z6:∀ d os,(Go.Sort.grow (redrawn w0 d) os).cell? ⟨X,6,none⟩=some (.int .i64 x.A.o):=fun d os=>cell_regrown (NB.c6 HX.out) d os
  have z7:∀ d os,(Go.Sort.grow (redrawn w0 d) os).cell? ⟨X,7,none⟩=some (.slice y.aU x.A.us.length y.cU):=fun d os=>cell_regrown (NB.c7 HX.out) d os
  have z8:∀ d os,(Go.Sort.grow (redrawn w0 d) os).cell? ⟨X,8,none⟩=some (.slice y.aG x.A.gs.length y.cG):=fun d os=>cell_regrown (NB.c8 HX.out) d os
  have z9:∀ d os,(Go.Sort.grow (redrawn w0 d) os).cell? ⟨X,9,none⟩=some (.bool x.A.r):=fun d os=>cell_regrown (NB.c9 HX.out) d os
  have z10:∀ d os,(Go.Sort.grow (redrawn w0 d) os).cell? ⟨X,10,none⟩=some (.int .i64 x.A.m):=fun d os=>cell_regrown (NB.c10 HX.out) d os
  refine wp_region_quiet_below (by kernel_rfl) (by kernel_rfl) ?_
  repeat (go_big_quiet_step (exact cA _ _ _))
  refine wpQuiet_nil ?_
  intro _ hw'
  obtain ⟨⟨dq,osq⟩,hw''⟩:=hw'
  subst hw''
  have hbq:Hid (Below w.heap.size w (Go.Sort.grow (redrawn w0 dq) osq)):=Below.on HB.out (below_regrown w0 dq osq)
  have e0:(Go.Sort.grow (redrawn w0 dq) osq).cell? ⟨X,0,none⟩=some (.int .i64 x.k):=cell_regrown (NB.c0 HX.out) dq osq
  generalize Go.Sort.grow (redrawn w0 dq) osq=w2 at hbq e0 ⊢
  clear z4 z5 z6 z7 z8 z9 z10 cA HX HB
  generalize bits .or .i64 (bits .or .i64 x.A.u kk) x.A.o=some3 at HZ ⊢
  generalize hq1:hasZ want 1=b1 at HZ
  generalize hq2:hasZ some3 1=b2 at HZ
  have H1:Hid (∀ w,Calls Tryz.prog 176 #[.int .i64 want,.int .i64 1] w fun e w'=>e=.returned (.bool b1)∧w'=w):=(fun w=>by rw [←hq1];exact HH.out _ _ _)
  have H2:Hid (∀ w,Calls Tryz.prog 176 #[.int .i64 some3,.int .i64 1] w fun e w'=>e=.returned (.bool b2)∧w'=w):=(fun w=>by rw [←hq2];exact HH.out _ _ _)
  clear hq1 hq2 HH
  cases q0:(x.k==1)
  · cases b1
    · have HF : Hid (bz = true) := (by show _ = _; rw [HZ.out, q0]; rfl)
      clear HZ H2
      go_wp2_with (go_at_call 176;refine (H1.out _).mono ?_;rintro e w3 ⟨rfl,hw⟩;have hw2:=hw.symm;clear hw;subst hw2)
      go_ret
      exact ⟨ret_boolW HF.out.symm,hbq.out⟩
    · have HF : Hid (bz = b2) := (by show _ = _; rw [HZ.out, q0]; rfl)
      clear HZ
      go_wp2_with (first
        | (go_at_call_of 176 (Value.int IntKind.i64 want);refine (H1.out _).mono ?_;rintro e w3 ⟨rfl,hw⟩;have hw2:=hw.symm;clear hw;subst hw2)
        | (go_at_call_of 176 (Value.int IntKind.i64 some3);refine (H2.out _).mono ?_;rintro e w3 ⟨rfl,hw⟩;have hw2:=hw.symm;clear hw;subst hw2))
      go_ret
      exact ⟨ret_boolW HF.out.symm,hbq.out⟩
  · have HF : Hid (bz = true) := (by show _ = _; rw [HZ.out, q0]; rfl)
    clear HZ H1 H2
    go_wp2
    go_ret
    exact ⟨ret_boolW HF.out.symm,hbq.out⟩
set_option maxRecDepth 20000 in
set_option maxHeartbeats 8000000 in
theorem iLet_any (x:Nd)(y:Na)(u g:Int)(ca:Option Addr)(cl cc:Nat)(r:Bool)(cf:Nat→Int)(want:Int)(ha:Ask x u g cl cf want)(w:World)(hi:NdIn w x y)(hci:Ints ca cl cf w) :
    Calls Tryz.prog 92 #[.agg (ndV x y).toArray,.agg #[.int .i64 u,.int .i64 g,.slice ca cl cc,.bool r],.int .i64 want] w fun e w'=>e=.returned (.bool (letB x u g cl r cf want))∧Below w.heap.size w w':=by
  cases r
  · have HE : Hid (letB x u g cl false cf want = mayB x.A.u x.A.g x.A.o x.A.us x.A.gs x.A.r x.A.m x.ow x.gr u g cl cf want) := rfl
    have HM:Hid (∀ w',Below w.heap.size w w'→Calls Tryz.prog 139 #[.agg #[.int .i64 x.A.u,.int .i64 x.A.g,.int .i64 x.A.o,.slice y.aU x.A.us.length y.cU,.slice y.aG x.A.gs.length y.cG,.bool x.A.r,.int .i64 x.A.m],.int .i64 x.ow,.int .i64 x.gr,.agg #[.int .i64 u,.int .i64 g,.slice ca cl cc,.bool false],.int .i64 want] w' fun e w''=>e=.returned (.bool (mayB x.A.u x.A.g x.A.o x.A.us x.A.gs x.A.r x.A.m x.ow x.gr u g cl cf want))∧Below w'.heap.size w' w''):=(fun w' hb=>iAclMay_any x.A.u x.A.g x.A.o _ _ _ _ _ _ x.A.r x.A.m x.A.us x.A.gs x.ow x.gr u g _ _ _ _ cf want w' (hi.aU.below hb) (hi.aG.below hb) (hci.below hb))
    clear hi hci ha
    generalize mayB x.A.u x.A.g x.A.o x.A.us x.A.gs x.A.r x.A.m x.ow x.gr u g cl cf want=mb at HE HM
    have HX:Hid (BoxR ((w.alloc (.cells (ndV x y).toArray 84)).alloc (.cells #[.int .i64 u,.int .i64 g,.slice ca cl cc,.bool false] 37)) w.heap.size (ndV x y)):=(boxR_new w (ndV x y) 84).below (bel_alloc _ _)
    have HC:Hid (BoxR ((w.alloc (.cells (ndV x y).toArray 84)).alloc (.cells #[.int .i64 u,.int .i64 g,.slice ca cl cc,.bool false] 37)) (w.heap.size+1) [.int .i64 u,.int .i64 g,.slice ca cl cc,.bool false]):=(by
      have h:=boxR_new (w.alloc (.cells (ndV x y).toArray 84)) [.int .i64 u,.int .i64 g,.slice ca cl cc,.bool false] 37
      simp only [World.size_alloc] at h
      exact h)
    have HB:Hid (Below w.heap.size w ((w.alloc (.cells (ndV x y).toArray 84)).alloc (.cells #[.int .i64 u,.int .i64 g,.slice ca cl cc,.bool false] 37))):=bl2T _ _ _
    go_enter Tryz.func92,Tryz.ntmps92
    go_upto_region 1 with fail
    generalize ((w.alloc (.cells (ndV x y).toArray 84)).alloc (.cells #[.int .i64 u,.int .i64 g,.slice ca cl cc,.bool false] 37))=w0 at HX HC HB ⊢
    obtain ⟨X,hX⟩:∃ X,X=w.heap.size:=⟨_,rfl⟩
    rw [←hX] at HX HC ⊢
    clear hX
    have e0:=NB.c0 HX.out
    have e1:=NB.c1 HX.out
    have e2:=NB.c2 HX.out
    have e3:=NB.c3 HX.out
    have e4:=NB.c4 HX.out
    have e5:=NB.c5 HX.out
    have e6:=NB.c6 HX.out
    have e7:=NB.c7 HX.out
    have e8:=NB.c8 HX.out
    have e9:=NB.c9 HX.out
    have e10:=NB.c10 HX.out
    have y0:w0.cell? ⟨X+1,0,none⟩=some (.int .i64 u):=HC.out.at0 0 _ rfl
    have y1:w0.cell? ⟨X+1,1,none⟩=some (.int .i64 g):=HC.out.at0 1 _ rfl
    have y2:w0.cell? ⟨X+1,2,none⟩=some (.slice ca cl cc):=HC.out.at0 2 _ rfl
    have y3:w0.cell? ⟨X+1,3,none⟩=some (.bool false):=HC.out.at0 3 _ rfl
    go_wp2_with (go_at_call 139;refine (HM.out _ HB.out).mono ?_;rintro e w1 ⟨rfl,hb⟩;replace HB:Hid (Below w.heap.size w w1):=Below.on HB.out hb;clear hb)
    go_ret
    exact ⟨ret_boolW HE.out.symm,HB.out⟩
  · have HE : Hid (letB x u g cl true cf want = (x.k == 1 || (!hasZ want 1 || hasZ (bits .or .i64 (bits .or .i64 x.A.u (clsOf x.A.g x.A.r x.A.m)) x.A.o) 1))) := rootB_has ha
    have HR:Hid (∀ w,Calls Tryz.prog 138 #[.agg (ndV x y).toArray,.int .i64 want] w fun e w'=>e=.returned (.bool (x.k==1||(!hasZ want 1||hasZ (bits .or .i64 (bits .or .i64 x.A.u (clsOf x.A.g x.A.r x.A.m)) x.A.o) 1)))∧Below w.heap.size w w'):=(fun w=>iRootMay_any x y want w)
    generalize (x.k==1||(!hasZ want 1||hasZ (bits .or .i64 (bits .or .i64 x.A.u (clsOf x.A.g x.A.r x.A.m)) x.A.o) 1))=rb at HE HR
    clear hi hci ha
    have HX:Hid (BoxR ((w.alloc (.cells (ndV x y).toArray 84)).alloc (.cells #[.int .i64 u,.int .i64 g,.slice ca cl cc,.bool true] 37)) w.heap.size (ndV x y)):=(boxR_new w (ndV x y) 84).below (bel_alloc _ _)
    have HC:Hid (BoxR ((w.alloc (.cells (ndV x y).toArray 84)).alloc (.cells #[.int .i64 u,.int .i64 g,.slice ca cl cc,.bool true] 37)) (w.heap.size+1) [.int .i64 u,.int .i64 g,.slice ca cl cc,.bool true]):=(by
      have h:=boxR_new (w.alloc (.cells (ndV x y).toArray 84)) [.int .i64 u,.int .i64 g,.slice ca cl cc,.bool true] 37
      simp only [World.size_alloc] at h
      exact h)
    have HB:Hid (Below w.heap.size w ((w.alloc (.cells (ndV x y).toArray 84)).alloc (.cells #[.int .i64 u,.int .i64 g,.slice ca cl cc,.bool true] 37))):=bl2T _ _ _
    go_enter Tryz.func92,Tryz.ntmps92
    go_upto_region 1 with fail
    generalize ((w.alloc (.cells (ndV x y).toArray 84)).alloc (.cells #[.int .i64 u,.int .i64 g,.slice ca cl cc,.bool true] 37))=w0 at HX HC HB ⊢
    obtain ⟨X,hX⟩:∃ X,X=w.heap.size:=⟨_,rfl⟩
    rw [←hX] at HX HC ⊢
    clear hX
    have y0:w0.cell? ⟨X+1,0,none⟩=some (.int .i64 u):=HC.out.at0 0 _ rfl
    have y1:w0.cell? ⟨X+1,1,none⟩=some (.int .i64 g):=HC.out.at0 1 _ rfl
    have y2:w0.cell? ⟨X+1,2,none⟩=some (.slice ca cl cc):=HC.out.at0 2 _ rfl
    have y3:w0.cell? ⟨X+1,3,none⟩=some (.bool true):=HC.out.at0 3 _ rfl
    have HN:Hid (N24 w0 X 0 x y):=HX.out.at0
    go_wp2_with (first
      | (refine wpList_load_mid (by rfl) 84 _ (by rfl) _ _ (by rfl) _ _ HN.out Tryz.underlying84 rfl (by kernel_rfl) ?_)
      | (go_at_call 138;refine (HR.out _).mono ?_;rintro e w1 ⟨rfl,hb⟩;replace HB:Hid (Below w.heap.size w w1):=Below.on HB.out hb;clear hb))
    go_ret
    exact ⟨ret_boolW HE.out.symm,HB.out⟩
theorem wrun_ok {l:List Nd}{now:Int}{lt:Nat→Bool}{fs:Bool}(ht:treeB l now=true):∀ (f:Nat) (s:Wy),WyOk l s→(wrun l lt fs f s).1=0→WyOk l (wrun l lt fs f s).2
  | 0,s,h,_=>h
  | f+1,s,h,h0=>by
    cases hp:s.ps with
    | nil=>rw [wrun_nil hp];exact h
    | cons p ps =>
      rw [wrun_cons hp] at h0 ⊢
      by_cases e:(wst l lt fs s p ps).1=0
      · have e2 : ((wst l lt fs s p ps).1 == 0) = true := by rw [e]; rfl
        rw [e2] at h0 ⊢
        exact wrun_ok ht f _ (wst_ok ht h hp e).1 h0
      · have e2 : ((wst l lt fs s p ps).1 == 0) = false := by simpa using e
        rw [e2] at h0 ⊢
        exact absurd h0 e
theorem wkO_there {l:List Nd}{now:Int}{lt:Nat→Bool}{fo:Bool}{s:ByteArray}(ht:treeB l now=true):(wkO l lt fo s).n=0∨((wkO l lt fo s).c=0∧thB l (wkO l lt fo s).n=true):=by
  rw [wkO]
  split
  · rename_i h
    rw [wend]
    split
    · rename_i h1
      have h1:(wrun l lt (fo||lasB s) (wmu (s0W s)) (s0W s)).1=0:=by simpa using h1
      have hk:=wrun_ok ht _ _ (s0_ok ht h) h1
      split
      · exact .inl rfl
      · by_cases e : (wrun l lt (fo || lasB s) (wmu (s0W s)) (s0W s)).2.at_ = 0
        · exact .inl e
        · exact .inr ⟨rfl,hk.th e⟩
    · exact .inl rfl
  · exact .inl rfl
theorem wkF_there (l:List Nd)(now u g:Int)(cl:Nat)(r:Bool)(cf:Nat→Int)(s:ByteArray)(fo:Bool):(wkF l now u g cl r cf s fo).n=0∨((wkF l now u g cl r cf s fo).c=0∧treeB l now=true∧credB u g cl cf=true∧thB l (wkF l now u g cl r cf s fo).n=true):=by
  rw [wkF]
  split
  · exact .inl rfl
  · split
    · rename_i h
      simp only [Bool.and_eq_true] at h
      rcases wkO_there (lt:=ltB l u g cl r cf) (fo:=fo) (s:=s) h.1 with e | ⟨e1,e2⟩
      · exact .inl e
      · exact .inr ⟨e1,h.1,h.2,e2⟩
    · exact .inl rfl
def begC (F:Wo) (s:ByteArray) (fi:Bool):Int:=if 8000<s.size then 2 else if fi then F.c else 1
structure BegJ (N:Nat) (w':World) (l:List Nd) (now u g:Int) (ca:Option Addr) (cl cc:Nat) (r:Bool) (P:Nat) (v:Value) (ds:List (Nd × Na)):Prop where
  job:BoxW w' P [v,.int .i64 now,.int .i64 u,.int .i64 g,.slice ca cl cc,.bool r]
  pw:N≤P
  cp:∃ B,CpI w' B v ds∧N≤B∧(∀ k,v.ownBlock=some k→k<P)∧(∀ p ∈ ds,∀ b,NaAt p.2 b→b<P)
  mp:ds.map (·.1)=l
theorem BegJ.below {N:Nat}{w' w2:World}{l:List Nd}{now u g:Int}{ca:Option Addr}{cl cc:Nat}{r:Bool}{P:Nat}{v:Value}{ds:List (Nd × Na)}(h:BegJ N w' l now u g ca cl cc r P v ds)(hb:Below w'.heap.size w' w2):BegJ N w2 l now u g ca cl cc r P v ds:=by
  obtain ⟨B,h1,h2,h3,h4⟩:=h.cp
  exact ⟨h.job.below hb,h.pw,⟨B,h1.below hb,h2,h3,h4⟩,h.mp⟩
theorem BegJ.mono {N M:Nat}{w':World}{l:List Nd}{now u g:Int}{ca:Option Addr}{cl cc:Nat}{r:Bool}{P:Nat}{v:Value}{ds:List (Nd × Na)}(h:BegJ N w' l now u g ca cl cc r P v ds)(hm:M≤N):BegJ M w' l now u g ca cl cc r P v ds:=by
  obtain ⟨B,h1,h2,h3,h4⟩:=h.cp
  exact ⟨h.job,Nat.le_trans hm h.pw,⟨B,h1,Nat.le_trans hm h2,h3,h4⟩,h.mp⟩
theorem BegJ.set {N:Nat}{w':World}{l:List Nd}{now u g:Int}{ca:Option Addr}{cl cc:Nat}{r:Bool}{P:Nat}{v:Value}{ds:List (Nd × Na)}(h:BegJ N w' l now u g ca cl cc r P v ds){Z o:Nat}{x:Value}(hz:Z<N):BegJ N (w'.setCell ⟨Z,o,none⟩ x) l now u g ca cl cc r P v ds:=by
  obtain ⟨B,h1,h2,h3,h4⟩:=h.cp
  have hp:=h.pw
  exact ⟨h.job.other (by omega),h.pw,⟨B,h1.set (by omega),h2,h3,h4⟩,h.mp⟩
theorem BegJ.nds {N:Nat}{w':World}{l:List Nd}{now u g:Int}{ca:Option Addr}{cl cc:Nat}{r:Bool}{P:Nat}{v:Value}{ds:List (Nd × Na)}(h:BegJ N w' l now u g ca cl cc r P v ds):∃ a cap,v=.slice a l.length cap∧Nds a l.length l w':=by
  obtain ⟨B,h5,_,_,_⟩:=h.cp
  obtain ⟨a,cap,e,hn⟩:=nds_of_row h5.own h5.inn
  rw [h.mp] at hn
  have e2:ds.length=l.length:=by rw [←h.mp];simp
  rw [e2] at hn e
  exact ⟨a,cap,e,hn⟩
set_option maxRecDepth 20000 in
set_option maxHeartbeats 8000000 in
theorem sBegin_any (a:Option Addr)(len cap:Nat)(l:List Nd)(now:Int)(u g:Int)(ca:Option Addr)(cl cc:Nat)(r:Bool)(cf:Nat→Int)(s:ByteArray)(fi fo:Bool)(hm:len≤9223372036854775807)(hf:∀ i,i<len→NdFit 1048576 (ndAt l i))(hs:s.size≤1048576)(w:World)(hi:Nds a len l w)(hci:Ints ca cl cf w) :
    Calls Tryz.prog 49 #[.agg #[.slice a len cap,.int .i64 now],.agg #[.int .i64 u,.int .i64 g,.slice ca cl cc,.bool r],.string s,.bool fi,.bool fo] w fun e w'=>∃ (W:Wo) (p:Option Addr),e=.returned (.tuple #[.pointer p,woV W,.int .i64 (begC (wkF l now u g cl r cf s fo) s fi)])∧Below w.heap.size w w'∧(begC (wkF l now u g cl r cf s fo) s fi=0→W=wkF l now u g cl r cf s fo∧∃ P v ds,p=some ⟨P,0,none⟩∧Hid (BegJ w.heap.size w' l now u g ca cl cc r P v ds)):=by
  have HT:Hid (∀ w',Below w.heap.size w w'→Calls Tryz.prog 33 #[.agg #[.slice a len cap,.int .i64 now]] w' fun e w''=>e=.returned (.bool (treeB l now))∧Below w'.heap.size w' w''):=(fun w' hb=>sTree_any a len cap l now hm hf w' (hi.below hb))
  have HCr:Hid (∀ w',Below w.heap.size w w'→Calls Tryz.prog 34 #[.agg #[.int .i64 u,.int .i64 g,.slice ca cl cc,.bool r]] w' fun e w''=>e=.returned (.bool (credB u g cl cf))∧Below w'.heap.size w' w''):=(fun w' hb=>sCredRight_any u g ca cl cc r cf w' (hci.below hb))
  have HWk:Hid (treeB l now=true→credB u g cl cf=true→∀ w',Below w.heap.size w w'→Calls Tryz.prog 35 #[.agg #[.slice a len cap,.int .i64 now],.agg #[.int .i64 u,.int .i64 g,.slice ca cl cc,.bool r],.string s,.bool fo] w' fun e w''=>e=.returned (woV (wkO l (ltB l u g cl r cf) fo s))∧Below w'.heap.size w' w''):=(fun ht hcr w' hb=>by
    have hll:=hi.1
    have h12:len≤12:=by rw [←hll];exact tree_len ht
    have h1:1≤len:=by rw [←hll];exact tree_one ht
    obtain ⟨tb,tf,Y,rfl,htb,hc⟩:=(hi.below hb).2 (by omega)
    exact sL09_any tb tf len cap l now u g ca cl cc r cf s fo Y h12 hll ht hcr hs w' htb hc hf (hci.below hb))
  have HCp:Hid (treeB l now=true→∀ w',Below w.heap.size w w'→Calls Tryz.prog 93 #[.agg #[.slice a len cap,.int .i64 now]] w' fun e w''=>∃ v ds,e=.returned (.agg #[v,.int .i64 now])∧Hid (CpI w'' (w'.heap.size+1+1+1) v ds)∧ds.map (·.1)=l∧Below w'.heap.size w' w''):=(fun ht w' hb=>by
    have hll:=hi.1
    have h12:len≤12:=by rw [←hll];exact tree_len ht
    have h1:1≤len:=by rw [←hll];exact tree_one ht
    obtain ⟨tb,tf,Y,rfl,htb,hc⟩:=(hi.below hb).2 (by omega)
    exact sCopyT_any tb tf len cap l Y now h12 hll hf w' htb hc)
  have HW:Hid (wkF l now u g cl r cf s fo=if 8000<s.size then woC 2 else if treeB l now&&credB u g cl cf then wkO l (ltB l u g cl r cf) fo s else woC 1):=rfl
  have HE0:begC (wkF l now u g cl r cf s fo) s fi=if 8000<s.size then 2 else if fi then (wkF l now u g cl r cf s fo).c else 1:=rfl
  clear hi hci hf
  generalize begC (wkF l now u g cl r cf s fo) s fi=R at HE0 ⊢
  generalize wkF l now u g cl r cf s fo=F at HW HE0 ⊢
  generalize wkO l (ltB l u g cl r cf) fo s=O at HW HWk
  have HB:Hid (Below w.heap.size w (((w.alloc (.cells #[.slice a len cap,.int .i64 now] 35)).alloc (.cells #[.int .i64 u,.int .i64 g,.slice ca cl cc,.bool r] 37)).alloc (.cells #[.int .i64 0,.int .i64 0,.string ⟨#[]⟩,.int .i64 0] 31))):=(Below.on (Below.on (Below.on (Below.refl _ _) (bel_alloc _ _)) (bel_alloc _ _)) (bel_alloc _ _))
  have HX:Hid (BoxR (((w.alloc (.cells #[.slice a len cap,.int .i64 now] 35)).alloc (.cells #[.int .i64 u,.int .i64 g,.slice ca cl cc,.bool r] 37)).alloc (.cells #[.int .i64 0,.int .i64 0,.string ⟨#[]⟩,.int .i64 0] 31)) (w.heap.size) [.slice a len cap,.int .i64 now]):=(by
    have h:=(((boxR_new w [.slice a len cap,.int .i64 now] 35).below (bel_alloc (w.alloc (.cells #[.slice a len cap,.int .i64 now] 35)) (.cells #[.int .i64 u,.int .i64 g,.slice ca cl cc,.bool r] 37))).below (bel_alloc ((w.alloc (.cells #[.slice a len cap,.int .i64 now] 35)).alloc (.cells #[.int .i64 u,.int .i64 g,.slice ca cl cc,.bool r] 37)) (.cells #[.int .i64 0,.int .i64 0,.string ⟨#[]⟩,.int .i64 0] 31)))
    exact h)
  have HC:Hid (BoxR (((w.alloc (.cells #[.slice a len cap,.int .i64 now] 35)).alloc (.cells #[.int .i64 u,.int .i64 g,.slice ca cl cc,.bool r] 37)).alloc (.cells #[.int .i64 0,.int .i64 0,.string ⟨#[]⟩,.int .i64 0] 31)) (w.heap.size+1) [.int .i64 u,.int .i64 g,.slice ca cl cc,.bool r]):=(by
    have h:=((boxR_new (w.alloc (.cells #[.slice a len cap,.int .i64 now] 35)) [.int .i64 u,.int .i64 g,.slice ca cl cc,.bool r] 37).below (bel_alloc ((w.alloc (.cells #[.slice a len cap,.int .i64 now] 35)).alloc (.cells #[.int .i64 u,.int .i64 g,.slice ca cl cc,.bool r] 37)) (.cells #[.int .i64 0,.int .i64 0,.string ⟨#[]⟩,.int .i64 0] 31)))
    simp only [World.size_alloc] at h
    exact h)
  have HO:Hid (BoxW (((w.alloc (.cells #[.slice a len cap,.int .i64 now] 35)).alloc (.cells #[.int .i64 u,.int .i64 g,.slice ca cl cc,.bool r] 37)).alloc (.cells #[.int .i64 0,.int .i64 0,.string ⟨#[]⟩,.int .i64 0] 31)) (w.heap.size+1+1) [.int .i64 0,.int .i64 0,.string ⟨#[]⟩,.int .i64 0]):=(by
    have h:=(boxW_new ((w.alloc (.cells #[.slice a len cap,.int .i64 now] 35)).alloc (.cells #[.int .i64 u,.int .i64 g,.slice ca cl cc,.bool r] 37)) [.int .i64 0,.int .i64 0,.string ⟨#[]⟩,.int .i64 0] 31)
    simp only [World.size_alloc] at h
    exact h)
  go_enter Tryz.func49,Tryz.ntmps49
  go_upto_region 1 with fail
  generalize (((w.alloc (.cells #[.slice a len cap,.int .i64 now] 35)).alloc (.cells #[.int .i64 u,.int .i64 g,.slice ca cl cc,.bool r] 37)).alloc (.cells #[.int .i64 0,.int .i64 0,.string ⟨#[]⟩,.int .i64 0] 31))=w0 at HB HX HC HO ⊢
  obtain ⟨X,hX⟩:∃ X,X=w.heap.size:=⟨_,rfl⟩
  have HXw:Hid (X=w.heap.size):=hX
  rw [←hX] at HX HC HO ⊢
  clear hX
  have t0:w0.cell? ⟨X,0,none⟩=some (.slice a len cap):=HX.out.at0 0 _ rfl
  have t1:w0.cell? ⟨X,1,none⟩=some (.int .i64 now):=HX.out.at0 1 _ rfl
  have c0:w0.cell? ⟨X+1,0,none⟩=some (.int .i64 u):=HC.out.at0 0 _ rfl
  have c1:w0.cell? ⟨X+1,1,none⟩=some (.int .i64 g):=HC.out.at0 1 _ rfl
  have c2:w0.cell? ⟨X+1,2,none⟩=some (.slice ca cl cc):=HC.out.at0 2 _ rfl
  have c3:w0.cell? ⟨X+1,3,none⟩=some (.bool r):=HC.out.at0 3 _ rfl
  have o0:w0.cell? ⟨X+1+1,0,none⟩=some (.int .i64 0):=HO.out.at0 0 _ rfl
  have o1:w0.cell? ⟨X+1+1,1,none⟩=some (.int .i64 0):=HO.out.at0 1 _ rfl
  have o2:w0.cell? ⟨X+1+1,2,none⟩=some (.string ⟨#[]⟩):=HO.out.at0 2 _ rfl
  have o3:w0.cell? ⟨X+1+1,3,none⟩=some (.int .i64 0):=HO.out.at0 3 _ rfl
  have fz:∀ o,w0.frozen? ⟨X+1+1,o,none⟩=false:=HO.out.frz
  by_cases h8:8000<s.size
  · have HE : Hid (R = 2) := (by show _ = _; rw [HE0, if_pos h8])
    have h8':(8000:Int)<(s.size:Int):=by omega
    clear HE0 HW HWk HCp
    go_wp2
    refine bodyPost_ret (v:=.tuple #[.pointer none,.agg #[.int .i64 0,.int .i64 0,.string ⟨#[]⟩,.int .i64 0],.int .i64 (2)]) (by simp [results,Tryz.results49,go_sem,o0,o1,o2,o3]) rfl ?_
    exact ⟨⟨0,0,emp,0⟩,none,by rw [HE.out];rfl,(by repeat (first | exact HB.out | refine bl_setT ?_ (by have:=HXw.out;omega))),fun h=>absurd h (by rw [HE.out];decide)⟩
  have h8':¬ (8000:Int)<(s.size:Int):=by omega
  rw [if_neg h8] at HW HE0
  clear h8
  cases ht:treeB l now
  · have HE : Hid (R = 1) := (by show _ = _; rw [HE0, HW.out, ht]; cases fi <;> rfl)
    rw [ht] at HT
    clear HW HE0 HWk HCp
    go_wp2_with (go_at_call 33;refine (HT.out _ HB.out).mono ?_;rintro e w1 ⟨rfl,hb⟩;replace HB:Hid (Below w.heap.size w w1):=Below.on HB.out hb;replace HX:Hid (BoxR w1 (X) [.slice a len cap,.int .i64 now]):=HX.out.below hb;replace HC:Hid (BoxR w1 (X+1) [.int .i64 u,.int .i64 g,.slice ca cl cc,.bool r]):=HC.out.below hb;replace HO:Hid (BoxW w1 (X+1+1) [.int .i64 0,.int .i64 0,.string ⟨#[]⟩,.int .i64 0]):=HO.out.below hb;clear hb;replace t0:w1.cell? ⟨X,0,none⟩=some (.slice a len cap):=HX.out.at0 0 _ rfl;replace t1:w1.cell? ⟨X,1,none⟩=some (.int .i64 now):=HX.out.at0 1 _ rfl;replace c0:w1.cell? ⟨X+1,0,none⟩=some (.int .i64 u):=HC.out.at0 0 _ rfl;replace c1:w1.cell? ⟨X+1,1,none⟩=some (.int .i64 g):=HC.out.at0 1 _ rfl;replace c2:w1.cell? ⟨X+1,2,none⟩=some (.slice ca cl cc):=HC.out.at0 2 _ rfl;replace c3:w1.cell? ⟨X+1,3,none⟩=some (.bool r):=HC.out.at0 3 _ rfl;replace o0:w1.cell? ⟨X+1+1,0,none⟩=some (.int .i64 0):=HO.out.at0 0 _ rfl;replace o1:w1.cell? ⟨X+1+1,1,none⟩=some (.int .i64 0):=HO.out.at0 1 _ rfl;replace o2:w1.cell? ⟨X+1+1,2,none⟩=some (.string ⟨#[]⟩):=HO.out.at0 2 _ rfl;replace o3:w1.cell? ⟨X+1+1,3,none⟩=some (.int .i64 0):=HO.out.at0 3 _ rfl;replace fz:∀ o,w1.frozen? ⟨X+1+1,o,none⟩=false:=HO.out.frz)
    refine bodyPost_ret (v:=.tuple #[.pointer none,.agg #[.int .i64 0,.int .i64 0,.string ⟨#[]⟩,.int .i64 0],.int .i64 (1)]) (by simp [results,Tryz.results49,go_sem,o0,o1,o2,o3]) rfl ?_
    exact ⟨⟨0,0,emp,0⟩,none,by rw [HE.out];rfl,(by repeat (first | exact HB.out | refine bl_setT ?_ (by have:=HXw.out;omega))),fun h=>absurd h (by rw [HE.out];decide)⟩
  cases hcr:credB u g cl cf
  · have HE : Hid (R = 1) := (by show _ = _; rw [HE0, HW.out, ht, hcr]; cases fi <;> rfl)
    rw [ht] at HT
    rw [hcr] at HCr
    clear HW HE0 HWk HCp
    go_wp2_with (first | (go_at_call 33;refine (HT.out _ HB.out).mono ?_;rintro e w1 ⟨rfl,hb⟩;replace HB:Hid (Below w.heap.size w w1):=Below.on HB.out hb;replace HX:Hid (BoxR w1 (X) [.slice a len cap,.int .i64 now]):=HX.out.below hb;replace HC:Hid (BoxR w1 (X+1) [.int .i64 u,.int .i64 g,.slice ca cl cc,.bool r]):=HC.out.below hb;replace HO:Hid (BoxW w1 (X+1+1) [.int .i64 0,.int .i64 0,.string ⟨#[]⟩,.int .i64 0]):=HO.out.below hb;clear hb;replace t0:w1.cell? ⟨X,0,none⟩=some (.slice a len cap):=HX.out.at0 0 _ rfl;replace t1:w1.cell? ⟨X,1,none⟩=some (.int .i64 now):=HX.out.at0 1 _ rfl;replace c0:w1.cell? ⟨X+1,0,none⟩=some (.int .i64 u):=HC.out.at0 0 _ rfl;replace c1:w1.cell? ⟨X+1,1,none⟩=some (.int .i64 g):=HC.out.at0 1 _ rfl;replace c2:w1.cell? ⟨X+1,2,none⟩=some (.slice ca cl cc):=HC.out.at0 2 _ rfl;replace c3:w1.cell? ⟨X+1,3,none⟩=some (.bool r):=HC.out.at0 3 _ rfl;replace o0:w1.cell? ⟨X+1+1,0,none⟩=some (.int .i64 0):=HO.out.at0 0 _ rfl;replace o1:w1.cell? ⟨X+1+1,1,none⟩=some (.int .i64 0):=HO.out.at0 1 _ rfl;replace o2:w1.cell? ⟨X+1+1,2,none⟩=some (.string ⟨#[]⟩):=HO.out.at0 2 _ rfl;replace o3:w1.cell? ⟨X+1+1,3,none⟩=some (.int .i64 0):=HO.out.at0 3 _ rfl;replace fz:∀ o,w1.frozen? ⟨X+1+1,o,none⟩=false:=HO.out.frz) | (go_at_call 34;refine (HCr.out _ HB.out).mono ?_;rintro e w1 ⟨rfl,hb⟩;replace HB:Hid (Below w.heap.size w w1):=Below.on HB.out hb;replace HX:Hid (BoxR w1 (X) [.slice a len cap,.int .i64 now]):=HX.out.below hb;replace HC:Hid (BoxR w1 (X+1) [.int .i64 u,.int .i64 g,.slice ca cl cc,.bool r]):=HC.out.below hb;replace HO:Hid (BoxW w1 (X+1+1) [.int .i64 0,.int .i64 0,.string ⟨#[]⟩,.int .i64 0]):=HO.out.below hb;clear hb;replace t0:w1.cell? ⟨X,0,none⟩=some (.slice a len cap):=HX.out.at0 0 _ rfl;replace t1:w1.cell? ⟨X,1,none⟩=some (.int .i64 now):=HX.out.at0 1 _ rfl;replace c0:w1.cell? ⟨X+1,0,none⟩=some (.int .i64 u):=HC.out.at0 0 _ rfl;replace c1:w1.cell? ⟨X+1,1,none⟩=some (.int .i64 g):=HC.out.at0 1 _ rfl;replace c2:w1.cell? ⟨X+1,2,none⟩=some (.slice ca cl cc):=HC.out.at0 2 _ rfl;replace c3:w1.cell? ⟨X+1,3,none⟩=some (.bool r):=HC.out.at0 3 _ rfl;replace o0:w1.cell? ⟨X+1+1,0,none⟩=some (.int .i64 0):=HO.out.at0 0 _ rfl;replace o1:w1.cell? ⟨X+1+1,1,none⟩=some (.int .i64 0):=HO.out.at0 1 _ rfl;replace o2:w1.cell? ⟨X+1+1,2,none⟩=some (.string ⟨#[]⟩):=HO.out.at0 2 _ rfl;replace o3:w1.cell? ⟨X+1+1,3,none⟩=some (.int .i64 0):=HO.out.at0 3 _ rfl;replace fz:∀ o,w1.frozen? ⟨X+1+1,o,none⟩=false:=HO.out.frz))
    refine bodyPost_ret (v:=.tuple #[.pointer none,.agg #[.int .i64 0,.int .i64 0,.string ⟨#[]⟩,.int .i64 0],.int .i64 (1)]) (by simp [results,Tryz.results49,go_sem,o0,o1,o2,o3]) rfl ?_
    exact ⟨⟨0,0,emp,0⟩,none,by rw [HE.out];rfl,(by repeat (first | exact HB.out | refine bl_setT ?_ (by have:=HXw.out;omega))),fun h=>absurd h (by rw [HE.out];decide)⟩
  cases fi
  · have HE : Hid (R = 1) := (by show _ = _; rw [HE0]; rfl)
    rw [ht] at HT
    rw [hcr] at HCr
    clear HW HE0 HWk HCp
    go_wp2_with (first | (go_at_call 33;refine (HT.out _ HB.out).mono ?_;rintro e w1 ⟨rfl,hb⟩;replace HB:Hid (Below w.heap.size w w1):=Below.on HB.out hb;replace HX:Hid (BoxR w1 (X) [.slice a len cap,.int .i64 now]):=HX.out.below hb;replace HC:Hid (BoxR w1 (X+1) [.int .i64 u,.int .i64 g,.slice ca cl cc,.bool r]):=HC.out.below hb;replace HO:Hid (BoxW w1 (X+1+1) [.int .i64 0,.int .i64 0,.string ⟨#[]⟩,.int .i64 0]):=HO.out.below hb;clear hb;replace t0:w1.cell? ⟨X,0,none⟩=some (.slice a len cap):=HX.out.at0 0 _ rfl;replace t1:w1.cell? ⟨X,1,none⟩=some (.int .i64 now):=HX.out.at0 1 _ rfl;replace c0:w1.cell? ⟨X+1,0,none⟩=some (.int .i64 u):=HC.out.at0 0 _ rfl;replace c1:w1.cell? ⟨X+1,1,none⟩=some (.int .i64 g):=HC.out.at0 1 _ rfl;replace c2:w1.cell? ⟨X+1,2,none⟩=some (.slice ca cl cc):=HC.out.at0 2 _ rfl;replace c3:w1.cell? ⟨X+1,3,none⟩=some (.bool r):=HC.out.at0 3 _ rfl;replace o0:w1.cell? ⟨X+1+1,0,none⟩=some (.int .i64 0):=HO.out.at0 0 _ rfl;replace o1:w1.cell? ⟨X+1+1,1,none⟩=some (.int .i64 0):=HO.out.at0 1 _ rfl;replace o2:w1.cell? ⟨X+1+1,2,none⟩=some (.string ⟨#[]⟩):=HO.out.at0 2 _ rfl;replace o3:w1.cell? ⟨X+1+1,3,none⟩=some (.int .i64 0):=HO.out.at0 3 _ rfl;replace fz:∀ o,w1.frozen? ⟨X+1+1,o,none⟩=false:=HO.out.frz) | (go_at_call 34;refine (HCr.out _ HB.out).mono ?_;rintro e w1 ⟨rfl,hb⟩;replace HB:Hid (Below w.heap.size w w1):=Below.on HB.out hb;replace HX:Hid (BoxR w1 (X) [.slice a len cap,.int .i64 now]):=HX.out.below hb;replace HC:Hid (BoxR w1 (X+1) [.int .i64 u,.int .i64 g,.slice ca cl cc,.bool r]):=HC.out.below hb;replace HO:Hid (BoxW w1 (X+1+1) [.int .i64 0,.int .i64 0,.string ⟨#[]⟩,.int .i64 0]):=HO.out.below hb;clear hb;replace t0:w1.cell? ⟨X,0,none⟩=some (.slice a len cap):=HX.out.at0 0 _ rfl;replace t1:w1.cell? ⟨X,1,none⟩=some (.int .i64 now):=HX.out.at0 1 _ rfl;replace c0:w1.cell? ⟨X+1,0,none⟩=some (.int .i64 u):=HC.out.at0 0 _ rfl;replace c1:w1.cell? ⟨X+1,1,none⟩=some (.int .i64 g):=HC.out.at0 1 _ rfl;replace c2:w1.cell? ⟨X+1,2,none⟩=some (.slice ca cl cc):=HC.out.at0 2 _ rfl;replace c3:w1.cell? ⟨X+1,3,none⟩=some (.bool r):=HC.out.at0 3 _ rfl;replace o0:w1.cell? ⟨X+1+1,0,none⟩=some (.int .i64 0):=HO.out.at0 0 _ rfl;replace o1:w1.cell? ⟨X+1+1,1,none⟩=some (.int .i64 0):=HO.out.at0 1 _ rfl;replace o2:w1.cell? ⟨X+1+1,2,none⟩=some (.string ⟨#[]⟩):=HO.out.at0 2 _ rfl;replace o3:w1.cell? ⟨X+1+1,3,none⟩=some (.int .i64 0):=HO.out.at0 3 _ rfl;replace fz:∀ o,w1.frozen? ⟨X+1+1,o,none⟩=false:=HO.out.frz))
    refine bodyPost_ret (v:=.tuple #[.pointer none,.agg #[.int .i64 0,.int .i64 0,.string ⟨#[]⟩,.int .i64 0],.int .i64 (1)]) (by simp [results,Tryz.results49,go_sem,o0,o1,o2,o3]) rfl ?_
    exact ⟨⟨0,0,emp,0⟩,none,by rw [HE.out];rfl,(by repeat (first | exact HB.out | refine bl_setT ?_ (by have:=HXw.out;omega))),fun h=>absurd h (by rw [HE.out];decide)⟩
  have HF:Hid (F=O):=(by show _=_;rw [HW.out,ht,hcr];rfl)
  have hwk:=HWk.out ht hcr
  have HWq:Hid (∀ w',Below w.heap.size w w'→Calls Tryz.prog 35 #[.agg #[.slice a len cap,.int .i64 now],.agg #[.int .i64 u,.int .i64 g,.slice ca cl cc,.bool r],.string s,.bool fo] w' fun e w''=>e=.returned (.agg #[.int .i64 O.n,.int .i64 O.d,.string O.nm,.int .i64 O.c])∧Below w'.heap.size w' w''):=hwk
  have HCq:Hid (∀ w',Below w.heap.size w w'→Calls Tryz.prog 93 #[.agg #[.slice a len cap,.int .i64 now]] w' fun e w''=>∃ v ds,e=.returned (.agg #[v,.int .i64 now])∧Hid (CpI w'' (w'.heap.size+1+1+1) v ds)∧ds.map (·.1)=l∧Below w'.heap.size w' w''):=HCp.out ht
  have HE1:Hid (R=O.c):=(by show _=_;rw [HE0,HF.out];rfl)
  rw [ht] at HT
  rw [hcr] at HCr
  clear HW HWk hwk HE0 HCp
  go_upto_region 5 with (first | (go_at_call 33;refine (HT.out _ HB.out).mono ?_;rintro e w1 ⟨rfl,hb⟩;replace HB:Hid (Below w.heap.size w w1):=Below.on HB.out hb;replace HX:Hid (BoxR w1 (X) [.slice a len cap,.int .i64 now]):=HX.out.below hb;replace HC:Hid (BoxR w1 (X+1) [.int .i64 u,.int .i64 g,.slice ca cl cc,.bool r]):=HC.out.below hb;replace HO:Hid (BoxW w1 (X+1+1) [.int .i64 0,.int .i64 0,.string ⟨#[]⟩,.int .i64 0]):=HO.out.below hb;clear hb;replace t0:w1.cell? ⟨X,0,none⟩=some (.slice a len cap):=HX.out.at0 0 _ rfl;replace t1:w1.cell? ⟨X,1,none⟩=some (.int .i64 now):=HX.out.at0 1 _ rfl;replace c0:w1.cell? ⟨X+1,0,none⟩=some (.int .i64 u):=HC.out.at0 0 _ rfl;replace c1:w1.cell? ⟨X+1,1,none⟩=some (.int .i64 g):=HC.out.at0 1 _ rfl;replace c2:w1.cell? ⟨X+1,2,none⟩=some (.slice ca cl cc):=HC.out.at0 2 _ rfl;replace c3:w1.cell? ⟨X+1,3,none⟩=some (.bool r):=HC.out.at0 3 _ rfl;replace o0:w1.cell? ⟨X+1+1,0,none⟩=some (.int .i64 0):=HO.out.at0 0 _ rfl;replace o1:w1.cell? ⟨X+1+1,1,none⟩=some (.int .i64 0):=HO.out.at0 1 _ rfl;replace o2:w1.cell? ⟨X+1+1,2,none⟩=some (.string ⟨#[]⟩):=HO.out.at0 2 _ rfl;replace o3:w1.cell? ⟨X+1+1,3,none⟩=some (.int .i64 0):=HO.out.at0 3 _ rfl;replace fz:∀ o,w1.frozen? ⟨X+1+1,o,none⟩=false:=HO.out.frz) | (go_at_call 34;refine (HCr.out _ HB.out).mono ?_;rintro e w1 ⟨rfl,hb⟩;replace HB:Hid (Below w.heap.size w w1):=Below.on HB.out hb;replace HX:Hid (BoxR w1 (X) [.slice a len cap,.int .i64 now]):=HX.out.below hb;replace HC:Hid (BoxR w1 (X+1) [.int .i64 u,.int .i64 g,.slice ca cl cc,.bool r]):=HC.out.below hb;replace HO:Hid (BoxW w1 (X+1+1) [.int .i64 0,.int .i64 0,.string ⟨#[]⟩,.int .i64 0]):=HO.out.below hb;clear hb;replace t0:w1.cell? ⟨X,0,none⟩=some (.slice a len cap):=HX.out.at0 0 _ rfl;replace t1:w1.cell? ⟨X,1,none⟩=some (.int .i64 now):=HX.out.at0 1 _ rfl;replace c0:w1.cell? ⟨X+1,0,none⟩=some (.int .i64 u):=HC.out.at0 0 _ rfl;replace c1:w1.cell? ⟨X+1,1,none⟩=some (.int .i64 g):=HC.out.at0 1 _ rfl;replace c2:w1.cell? ⟨X+1,2,none⟩=some (.slice ca cl cc):=HC.out.at0 2 _ rfl;replace c3:w1.cell? ⟨X+1,3,none⟩=some (.bool r):=HC.out.at0 3 _ rfl;replace o0:w1.cell? ⟨X+1+1,0,none⟩=some (.int .i64 0):=HO.out.at0 0 _ rfl;replace o1:w1.cell? ⟨X+1+1,1,none⟩=some (.int .i64 0):=HO.out.at0 1 _ rfl;replace o2:w1.cell? ⟨X+1+1,2,none⟩=some (.string ⟨#[]⟩):=HO.out.at0 2 _ rfl;replace o3:w1.cell? ⟨X+1+1,3,none⟩=some (.int .i64 0):=HO.out.at0 3 _ rfl;replace fz:∀ o,w1.frozen? ⟨X+1+1,o,none⟩=false:=HO.out.frz))
  clear HT HCr
  go_wp2_with fail
  refine (HWq.out _ HB.out).mono ?_
  rintro e w2 ⟨rfl,hb⟩
  replace HB:Hid (Below w.heap.size w w2):=Below.on HB.out hb
  replace HX:Hid (BoxR w2 (X) [.slice a len cap,.int .i64 now]):=HX.out.below hb
  replace HC:Hid (BoxR w2 (X+1) [.int .i64 u,.int .i64 g,.slice ca cl cc,.bool r]):=HC.out.below hb
  replace HO:Hid (BoxW w2 (X+1+1) [.int .i64 0,.int .i64 0,.string ⟨#[]⟩,.int .i64 0]):=HO.out.below hb
  have HZl:Hid (X+1+1<w2.heap.size):=HO.out.lt
  have hbN:Below w2.heap.size w2 (w2.alloc (.cells #[.int .i64 O.n,.int .i64 O.d,.string O.nm,.int .i64 O.c] 31)):=bel_alloc _ _
  have HZ:Hid (BoxR (w2.alloc (.cells #[.int .i64 O.n,.int .i64 O.d,.string O.nm,.int .i64 O.c] 31)) w2.heap.size [.int .i64 O.n,.int .i64 O.d,.string O.nm,.int .i64 O.c]):=boxR_new _ _ _
  replace HB:Hid (Below w.heap.size w (w2.alloc (.cells #[.int .i64 O.n,.int .i64 O.d,.string O.nm,.int .i64 O.c] 31))):=Below.on HB.out hbN
  replace HX:Hid (BoxR (w2.alloc (.cells #[.int .i64 O.n,.int .i64 O.d,.string O.nm,.int .i64 O.c] 31)) (X) [.slice a len cap,.int .i64 now]):=HX.out.below hbN
  replace HC:Hid (BoxR (w2.alloc (.cells #[.int .i64 O.n,.int .i64 O.d,.string O.nm,.int .i64 O.c] 31)) (X+1) [.int .i64 u,.int .i64 g,.slice ca cl cc,.bool r]):=HC.out.below hbN
  replace HO:Hid (BoxW (w2.alloc (.cells #[.int .i64 O.n,.int .i64 O.d,.string O.nm,.int .i64 O.c] 31)) (X+1+1) [.int .i64 0,.int .i64 0,.string ⟨#[]⟩,.int .i64 0]):=HO.out.below hbN
  clear hb hbN t0 t1 c0 c1 c2 c3 o0 o1 o2 o3 fz HWq
  go_upto_region 6 with fail
  generalize (w2.alloc (.cells #[.int .i64 O.n,.int .i64 O.d,.string O.nm,.int .i64 O.c] 31))=w3 at HB HX HC HO HZ ⊢
  generalize w2.heap.size=Z at HZ HZl ⊢
  have z0:w3.cell? ⟨Z,0,none⟩=some (.int .i64 O.n):=HZ.out.at0 0 _ rfl
  have z1:w3.cell? ⟨Z,1,none⟩=some (.int .i64 O.d):=HZ.out.at0 1 _ rfl
  have z2:w3.cell? ⟨Z,2,none⟩=some (.string O.nm):=HZ.out.at0 2 _ rfl
  have z3:w3.cell? ⟨Z,3,none⟩=some (.int .i64 O.c):=HZ.out.at0 3 _ rfl
  have fz:∀ o,w3.frozen? ⟨X+1+1,o,none⟩=false:=HO.out.frz
  have o0:w3.cell? ⟨X+1+1,0,none⟩=some (.int .i64 0):=HO.out.at0 0 _ rfl
  have o1:w3.cell? ⟨X+1+1,1,none⟩=some (.int .i64 0):=HO.out.at0 1 _ rfl
  have o2:w3.cell? ⟨X+1+1,2,none⟩=some (.string ⟨#[]⟩):=HO.out.at0 2 _ rfl
  have o3:w3.cell? ⟨X+1+1,3,none⟩=some (.int .i64 0):=HO.out.at0 3 _ rfl
  have nz1:Z≠X+1+1:=(by have:=HZl.out;omega)
  have nz2:X+1+1≠Z:=fun e=>nz1 e.symm
  by_cases hc:O.c=0
  case neg =>
    have hc':(O.c != 0)=true:=by simpa [bne] using hc
    have hcn:R≠0:=by rw [HE1.out];exact hc
    go_upto_region 7 with fail
    go_region_held3 (fun w'=>w'.cell? ⟨Z,0,none⟩=some (.int .i64 O.n)∧w'.cell? ⟨Z,1,none⟩=some (.int .i64 O.d)∧w'.cell? ⟨Z,2,none⟩=some (.string O.nm)∧w'.cell? ⟨Z,3,none⟩=some (.int .i64 O.c)) (go_keep) (fail)
    go_wp2
    refine bodyPost_ret (v:=.tuple #[.pointer none,.agg #[.int .i64 O.n,.int .i64 O.d,.string O.nm,.int .i64 O.c],.int .i64 O.c]) (by simp [results,Tryz.results49,go_sem,o0,o1,o2,o3]) rfl ?_
    exact ⟨O,none,by rw [HE1.out];rfl,(by repeat (first | exact HB.out | refine below_drewT ?_ | refine bl_setT ?_ (by have:=HXw.out;omega))),fun h=>absurd h hcn⟩
  have hc':(O.c != 0)=false:=by rw [hc];rfl
  have HE:Hid (R=0):=(by show _=_;rw [HE1.out,hc])
  have t0:w3.cell? ⟨X,0,none⟩=some (.slice a len cap):=HX.out.at0 0 _ rfl
  have t1:w3.cell? ⟨X,1,none⟩=some (.int .i64 now):=HX.out.at0 1 _ rfl
  have c0:w3.cell? ⟨X+1,0,none⟩=some (.int .i64 u):=HC.out.at0 0 _ rfl
  have c1:w3.cell? ⟨X+1,1,none⟩=some (.int .i64 g):=HC.out.at0 1 _ rfl
  have c2:w3.cell? ⟨X+1,2,none⟩=some (.slice ca cl cc):=HC.out.at0 2 _ rfl
  have c3:w3.cell? ⟨X+1,3,none⟩=some (.bool r):=HC.out.at0 3 _ rfl
  have nx1:X≠X+1+1:=by omega
  have nx2:X+1+1≠X:=by omega
  have nx3:X+1≠X+1+1:=by omega
  have nx4:X+1+1≠X+1:=by omega
  clear HE1 hc
  go_upto_region 8 with fail
  go_region_held3 (fun w'=>w'.cell? ⟨X,0,none⟩=some (.slice a len cap)∧w'.cell? ⟨X,1,none⟩=some (.int .i64 now)∧w'.cell? ⟨X+1,0,none⟩=some (.int .i64 u)∧w'.cell? ⟨X+1,1,none⟩=some (.int .i64 g)∧w'.cell? ⟨X+1,2,none⟩=some (.slice ca cl cc)∧w'.cell? ⟨X+1,3,none⟩=some (.bool r)∧w'.cell? ⟨Z,0,none⟩=some (.int .i64 O.n)∧w'.cell? ⟨Z,1,none⟩=some (.int .i64 O.d)∧w'.cell? ⟨Z,2,none⟩=some (.string O.nm)∧w'.cell? ⟨Z,3,none⟩=some (.int .i64 O.c)) (go_keep)
    (first | (go_at_call 93;refine (HCq.out _ (below_drewT HB.out)).mono ?_;rintro e w4 ⟨v,ds,rfl,hCp,hmp,hb⟩;have hbq:Below w3.heap.size w3 w4:=⟨hb.os,hb.tape,hb.output,hb.size,hb.block⟩;have HX4:Hid (BoxR w4 X [.slice a len cap,.int .i64 now]):=HX.out.below hbq;have HC4:Hid (BoxR w4 (X+1) [.int .i64 u,.int .i64 g,.slice ca cl cc,.bool r]):=HC.out.below hbq;have HO4:Hid (BoxW w4 (X+1+1) [.int .i64 0,.int .i64 0,.string ⟨#[]⟩,.int .i64 0]):=HO.out.below hbq;have HZ4:Hid (BoxR w4 Z [.int .i64 O.n,.int .i64 O.d,.string O.nm,.int .i64 O.c]):=HZ.out.below hbq;have HB4:Hid (Below w.heap.size w w4):=Below.on HB.out hbq;have HSz:Hid (w.heap.size≤w3.heap.size):=HB.out.size;have HMp:Hid (ds.map (·.1)=l):=hmp;clear hmp hb hbq;have tq0:w4.cell? ⟨X,0,none⟩=some (.slice a len cap):=HX4.out.at0 0 _ rfl;have tq1:w4.cell? ⟨X,1,none⟩=some (.int .i64 now):=HX4.out.at0 1 _ rfl;have cq0:w4.cell? ⟨X+1,0,none⟩=some (.int .i64 u):=HC4.out.at0 0 _ rfl;have cq1:w4.cell? ⟨X+1,1,none⟩=some (.int .i64 g):=HC4.out.at0 1 _ rfl;have cq2:w4.cell? ⟨X+1,2,none⟩=some (.slice ca cl cc):=HC4.out.at0 2 _ rfl;have cq3:w4.cell? ⟨X+1,3,none⟩=some (.bool r):=HC4.out.at0 3 _ rfl;have zq0:w4.cell? ⟨Z,0,none⟩=some (.int .i64 O.n):=HZ4.out.at0 0 _ rfl;have zq1:w4.cell? ⟨Z,1,none⟩=some (.int .i64 O.d):=HZ4.out.at0 1 _ rfl;have zq2:w4.cell? ⟨Z,2,none⟩=some (.string O.nm):=HZ4.out.at0 2 _ rfl;have zq3:w4.cell? ⟨Z,3,none⟩=some (.int .i64 O.c):=HZ4.out.at0 3 _ rfl;have oq0:w4.cell? ⟨X+1+1,0,none⟩=some (.int .i64 0):=HO4.out.at0 0 _ rfl;have oq1:w4.cell? ⟨X+1+1,1,none⟩=some (.int .i64 0):=HO4.out.at0 1 _ rfl;have oq2:w4.cell? ⟨X+1+1,2,none⟩=some (.string ⟨#[]⟩):=HO4.out.at0 2 _ rfl;have oq3:w4.cell? ⟨X+1+1,3,none⟩=some (.int .i64 0):=HO4.out.at0 3 _ rfl;have HOa:Hid (BoxW (w4.alloc (.cells #[v,.int .i64 now,.int .i64 u,.int .i64 g,.slice ca cl cc,.bool r] 144)) (X+1+1) [.int .i64 0,.int .i64 0,.string ⟨#[]⟩,.int .i64 0]):=HO4.out.below (bel_alloc w4 (.cells #[v,.int .i64 now,.int .i64 u,.int .i64 g,.slice ca cl cc,.bool r] 144));have oa0:(w4.alloc (.cells #[v,.int .i64 now,.int .i64 u,.int .i64 g,.slice ca cl cc,.bool r] 144)).cell? ⟨X+1+1,0,none⟩=some (.int .i64 0):=HOa.out.at0 0 _ rfl;have oa1:(w4.alloc (.cells #[v,.int .i64 now,.int .i64 u,.int .i64 g,.slice ca cl cc,.bool r] 144)).cell? ⟨X+1+1,1,none⟩=some (.int .i64 0):=HOa.out.at0 1 _ rfl;have oa2:(w4.alloc (.cells #[v,.int .i64 now,.int .i64 u,.int .i64 g,.slice ca cl cc,.bool r] 144)).cell? ⟨X+1+1,2,none⟩=some (.string ⟨#[]⟩):=HOa.out.at0 2 _ rfl;have oa3:(w4.alloc (.cells #[v,.int .i64 now,.int .i64 u,.int .i64 g,.slice ca cl cc,.bool r] 144)).cell? ⟨X+1+1,3,none⟩=some (.int .i64 0):=HOa.out.at0 3 _ rfl;have fza:∀ o,(w4.alloc (.cells #[v,.int .i64 now,.int .i64 u,.int .i64 g,.slice ca cl cc,.bool r] 144)).frozen? ⟨X+1+1,o,none⟩=false:=HOa.out.frz;clear HOa;have fzq:∀ o,w4.frozen? ⟨X+1+1,o,none⟩=false:=HO4.out.frz;have nzj:w4.heap.size≠X+1+1:=(by have:=HO4.out.lt;omega);have nzk:X+1+1≠w4.heap.size:=(by have:=HO4.out.lt;omega)))
  go_wp2
  refine bodyPost_ret (v:=.tuple #[.pointer (some ⟨w4.heap.size,0,none⟩),.agg #[.int .i64 O.n,.int .i64 O.d,.string O.nm,.int .i64 O.c],.int .i64 0]) (by simp [results,Tryz.results49,go_sem,oa0,oa1,oa2,oa3]) rfl ?_
  have hJ:=((((boxW_new w4 [v,.int .i64 now,.int .i64 u,.int .i64 g,.slice ca cl cc,.bool r] 144).other (o:=0) (v:=.int .i64 O.n) nzk).other (o:=1) (v:=.int .i64 O.d) nzk).other (o:=2) (v:=.string O.nm) nzk).other (o:=3) (v:=.int .i64 O.c) nzk
  have hb4:=bel_alloc w4 (.cells #[v,.int .i64 now,.int .i64 u,.int .i64 g,.slice ca cl cc,.bool r] 144)
  have hzz:X+1+1<w3.drew.heap.size+1+1+1:=(by have h:=HO.out.lt;show X+1+1<w3.heap.size+1+1+1;omega)
  have hK:=((((hCp.out.below hb4).set (o:=0) (u:=.int .i64 O.n) hzz).set (o:=1) (u:=.int .i64 O.d) hzz).set (o:=2) (u:=.string O.nm) hzz).set (o:=3) (u:=.int .i64 O.c) hzz
  refine ⟨O,_,by rw [HE.out];rfl,?_,fun _=>⟨HF.out.symm,w4.heap.size,v,ds,rfl,⟨hJ,?_,⟨_,hK,?_,fun k e=>(hCp.out.lt k e).2,fun p hp b e=>(hCp.out.loc p hp b e).2.1⟩,HMp.out⟩⟩⟩
  · have hx := HXw.out
    exact bl_setT (bl_setT (bl_setT (bl_setT (Below.on HB4.out hb4) (by omega)) (by omega)) (by omega)) (by omega)
  · exact HB4.out.size
  · have := HSz.out
    show w.heap.size≤w3.heap.size+1+1+1
    omega
end Go.Proofs.YtabfdidnjibdeaaGreatDoor
