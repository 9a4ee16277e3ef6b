/- Laid together: WkI1, WkI2. -/
import Derived.Test.YtabfdidnjibdeaaGreatDoorBR21
namespace Go.Proofs.YtabfdidnjibdeaaGreatDoor
open Go.RowKit Go.PlainAid Go.Deep
set_option linter.unusedVariables false
theorem less_trans:∀ a b c:List UInt8,Op.bytesLess a b=true→Op.bytesLess b c=true→Op.bytesLess a c=true
  | _,b,[],_,h2=>by cases b<;>cases h2
  | [],_,_ :: _,_,_=>rfl
  | _ :: _,[],_ :: _,h1,_=>by cases h1
  | a :: x,b :: y,c :: z,h1,h2=>by
    have ih:=less_trans x y z
    simp only [Op.bytesLess,Bool.or_eq_true,decide_eq_true_eq,Bool.and_eq_true,beq_iff_eq] at h1 h2 ⊢
    rcases h1 with h1 | ⟨rfl,h1⟩
    · rcases h2 with h2 | ⟨rfl, h2⟩
      · exact .inl (UInt8.lt_trans h1 h2)
      · exact .inl h1
    · rcases h2 with h2 | ⟨rfl, h2⟩
      · exact .inl h2
      · exact .inr ⟨rfl,ih h1 h2⟩
theorem less_irr (a:List UInt8):Op.bytesLess a a=false:=by
  have h:=less_tot a a
  cases e:Op.bytesLess a a
  · rfl
  · rw [e] at h
    simp at h
def ltN (ns:List (ByteArray × Int)) (p:List UInt8):Nat→Bool
  | 0=>true
  | k+1=>ltN ns p k&&Op.bytesLess (nmAt ns k).toList p
theorem ltN_has {ns:List (ByteArray × Int)}{p:List UInt8}:∀ k,ltN ns p k=true→hasN ns p k=false
  | 0,_=>rfl
  | k+1,h=>by
    simp only [ltN,Bool.and_eq_true] at h
    have h1:((nmAt ns k).toList==p)=false:=by
      cases e:((nmAt ns k).toList==p)
      · rfl
      · have e2 : (nmAt ns k).toList = p := by simpa using e
        have h2:=h.2
        rw [e2,less_irr] at h2
        cases h2
    simp only [hasN,ltN_has k h.1,h1,Bool.or_self]
theorem rise_gt {l:List Nd}{ns:List (ByteArray × Int)}{p:List UInt8}{k:Nat}(hg:Op.bytesLess p (nmAt ns k).toList=true):∀ m,nsT l ns m=true→k<m→Op.bytesLess p (nmAt ns (m-1)).toList=true
  | 0,_,h=>by omega
  | m+1,hr,h=>by
    simp only [nsT,okE,Bool.and_eq_true] at hr
    rw [Nat.add_sub_cancel]
    by_cases e:k=m
    · rw [←e];exact hg
    · have h1 := rise_gt hg m hr.1 (by omega)
      have h2:=hr.2.2.1
      have hm:(m==0)=false:=by simp;omega
      rw [hm,Bool.false_or] at h2
      exact less_trans _ _ _ h1 h2
theorem gt_has {l:List Nd}{ns:List (ByteArray × Int)}{p:List UInt8}{k:Nat}(hl:ltN ns p k=true)(hg:Op.bytesLess p (nmAt ns k).toList=true):∀ m,nsT l ns m=true→hasN ns p m=false
  | 0,_=>rfl
  | m+1,hr=>by
    have hr1:nsT l ns m=true:=by simp only [nsT,Bool.and_eq_true] at hr;exact hr.1
    have ih:=gt_has hl hg m hr1
    have h1:((nmAt ns m).toList==p)=false:=by
      cases e:((nmAt ns m).toList==p)
      · rfl
      · have e2 : (nmAt ns m).toList = p := by simpa using e
        by_cases hk:k<m+1
        · have h2 := rise_gt hg (m + 1) hr hk
          rw [Nat.add_sub_cancel,e2,less_irr] at h2
          cases h2
        · have h3 : hasN ns p (m + 1) = true := by simp only [hasN, e, Bool.or_true]
          have h4:=hasN_next h3 (m:=k) (by omega)
          rw [ltN_has k hl] at h4
          cases h4
    simp only [hasN,ih,h1,Bool.or_self]
theorem iNameOf_any (q:ByteArray)(v:Int)(w:World) :
    Calls Tryz.prog 171 #[.agg #[.string q,.int .i64 v]] w fun e w'=>e=.returned (.string q)∧Below w.heap.size w w':=by
  go_enter Tryz.func171,Tryz.ntmps171
  go_wp2
  go_ret
  exact ⟨rfl,bel_alloc _ _⟩
def PlEnd (ns:List (ByteArray × Int)) (p:List UInt8) (k:Nat) (f:Bool):Prop:=(f=true→k<ns.length∧noAt ns k=fdT ns p ns.length)∧(f=false→fdT ns p ns.length=0)
attribute [local go_sem high] binOp_geqS
set_option maxHeartbeats 8000000 in
theorem placeE_any (l:List Nd)(nA:Option Addr)(nC:Nat)(ns:List (ByteArray × Int))(p:ByteArray)(hl:ns.length≤6)(hr:nsT l ns ns.length=true)(w:World)(hi:Ens nA ns.length ns w) :
    Calls Tryz.prog 170 #[.slice nA ns.length nC,.string p,.func (.func 171) #[] #[]] w fun e w'=>(∃ (k:Nat) (f:Bool),e=.returned (.tuple #[.int .i64 k,.bool f])∧PlEnd ns p.toList k f)∧Below w.heap.size w w':=by
  have HE:Hid (Ens nA ns.length ns w):=hi
  have HRs:Hid (nsT l ns ns.length=true):=hr
  clear hi hr
  go_enter Tryz.func170,Tryz.ntmps170
  go_wp2
  go_loopw [13] (fun j wr=>∃ m:Nat,m≤ns.length∧j=.int .i64 m∧Hid (ltN ns p.toList m=true)∧Hid (Below w.heap.size w wr)) (fun j _=>ns.length-(intOf j).toNat)
  case atStart=>exact ⟨0,Nat.zero_le _,rfl,rfl,Below.refl _ _⟩
  case round =>
    obtain ⟨m,hm,rfl,hlt,hB⟩:=hrel
    by_cases hml:m<ns.length
    · obtain ⟨b2, off2, rfl, hb2, hc2⟩ := (HE.out.below hB.out).2 (by omega)
      have hml':(m:Int)<(ns.length:Int):=by omega
      have g0:=(hc2 m hml).1
      have g1:=(hc2 m hml).2
      have HY:Hid (Op.bytesLess (nmAt ns m).toList p.toList=true→ltN ns p.toList (m+1)=true):=(fun e=>by simp only [ltN,hlt.out,e,Bool.and_self])
      have HN:Hid (Op.bytesLess (nmAt ns m).toList p.toList=false→PlEnd ns p.toList m ((nmAt ns m).toList==p.toList)):=(fun e=>by
        refine ⟨fun hf=>⟨hml,(fdT_at (ltN_has m hlt.out) hf _ hml).symm⟩,fun hf=>fdT_none _ (gt_has (l:=l) hlt.out ?_ _ HRs.out)⟩
        have h:=less_tot (nmAt ns m).toList p.toList
        rw [e,hf] at h
        simpa using h.symm)
      clear hc2
      generalize nmAt ns m=q at g0 HY HN
      generalize noAt ns m=v at g1
      have HC:Hid (∀ w,Calls Tryz.prog 171 #[.agg #[.string q,.int .i64 v]] w fun e w'=>e=.returned (.string q)∧Below w.heap.size w w'):=(fun w=>iNameOf_any q v w)
      have hbE:=bel_alloc wr (.cells #[.string q,.int .i64 v] 105)
      have HB2:Hid (Below w.heap.size w (wr.alloc (.cells #[.string q,.int .i64 v] 105))):=Below.on hB.out hbE
      clear hbE
      cases e:Op.bytesLess q.toList p.toList
      · have HEnd : Hid (PlEnd ns p.toList m (q.toList == p.toList)) := HN.out e
        clear HY HN
        go_wp2_with (go_at_call 171;refine (HC.out _).mono ?_;rintro e w3 ⟨rfl,hb3⟩;replace HB2:Hid (Below w.heap.size w w3):=Below.on HB2.out hb3;clear hb3)
        go_ret2
        exact ⟨⟨m,_,rfl,HEnd.out⟩,HB2.out⟩
      · have hyes : Hid (ltN ns p.toList (m + 1) = true) := HY.out e
        clear HY HN
        go_wp2_with (go_at_call 171;refine (HC.out _).mono ?_;rintro e w3 ⟨rfl,hb3⟩;replace HB2:Hid (Below w.heap.size w w3):=Below.on HB2.out hb3;clear hb3)
        go_roundw
        case rel=>exact ⟨m+1,by omega,by go_num,hyes,HB2⟩
        case measure=>simp [intOf];omega
    · have : m = ns.length := by omega
      subst this
      have HEnd:Hid (PlEnd ns p.toList ns.length false):=⟨(fun h=>by cases h),fun _=>fdT_none _ (ltN_has _ hlt.out)⟩
      go_wp2
      go_ret2
      exact ⟨⟨ns.length,false,rfl,HEnd.out⟩,hB.out⟩
set_option maxRecDepth 20000 in
set_option maxHeartbeats 8000000 in
theorem iNodeFor_any (l:List Nd)(x:Nd)(y:Na)(p:ByteArray)(hl:x.ns.length≤6)(hr:nsT l x.ns x.ns.length=true)(w:World)(hi:Ens y.nA x.ns.length x.ns w) :
    Calls Tryz.prog 128 #[.agg (ndV x y).toArray,.string p] w fun e w'=>e=.returned (.int .i64 (fdT x.ns p.toList x.ns.length))∧Below w.heap.size w w':=by
  have HC:Hid (∀ w',Below w.heap.size w w'→Calls Tryz.prog 170 #[.slice y.nA x.ns.length y.nC,.string p,.func (.func 171) #[] #[]] w' fun e w''=>(∃ (k:Nat) (f:Bool),e=.returned (.tuple #[.int .i64 k,.bool f])∧PlEnd x.ns p.toList k f)∧Below w'.heap.size w' w''):=(fun w' hb=>placeE_any l _ _ _ p hl hr w' (hi.below hb))
  have HE:Hid (Ens y.nA x.ns.length x.ns w):=hi
  clear hi hr
  have HB:Hid (Below w.heap.size w (w.alloc (.cells (ndV x y).toArray 84))):=bel_alloc _ _
  have HX:Hid (BoxR (w.alloc (.cells (ndV x y).toArray 84)) w.heap.size (ndV x y)):=boxR_new _ _ _
  go_enter Tryz.func128,Tryz.ntmps128
  go_upto_region 1 with fail
  generalize (w.alloc (.cells (ndV x y).toArray 84))=w0 at HB HX ⊢
  obtain ⟨X,hX⟩:∃ X,X=w.heap.size:=⟨_,rfl⟩
  rw [←hX] at HX ⊢
  clear hX
  have e22:=NB.c22 HX.out
  go_wp2_with fail
  refine (HC.out _ HB.out).mono ?_
  rintro e w1 ⟨⟨k,f,rfl,hpl⟩,hb⟩
  have HB1:Hid (Below w.heap.size w w1):=Below.on HB.out hb
  have HX1:Hid (BoxR w1 X (ndV x y)):=HX.out.below hb
  have HP:Hid (PlEnd x.ns p.toList k f):=hpl
  clear hb hpl e22
  have e22:=NB.c22 HX1.out
  cases f
  · have HF : Hid (fdT x.ns p.toList x.ns.length = 0) := HP.out.2 rfl
    go_wp2
    go_ret
    exact ⟨by rw [HF.out];rfl,HB1.out⟩
  · obtain ⟨hk, hno⟩ := HP.out.1 rfl
    have HF:Hid (noAt x.ns k=fdT x.ns p.toList x.ns.length):=hno
    obtain ⟨b2,off2,hbe,hb2,hc2⟩:=(HE.out.below HB1.out).2 (by omega)
    rw [hbe] at e22
    have g1:=(hc2 k hk).2
    have hk':(k:Int)<(x.ns.length:Int):=by omega
    have hk0:(0:Int)≤(k:Int):=by omega
    clear hc2 hbe hno HP HC
    generalize noAt x.ns k=v at g1 HF
    go_wp2
    go_ret
    exact ⟨by rw [←HF.out];rfl,HB1.out⟩
end Go.Proofs.YtabfdidnjibdeaaGreatDoor
namespace Go.Proofs.YtabfdidnjibdeaaGreatDoor
open Go.RowKit Go.PlainAid Go.Deep
set_option linter.unusedVariables false
theorem bl_drewK {B:Nat}{w w':World}(h:Below B w w')(n:Nat):Below B w (w'.drewN n):=h.trans ⟨rfl,rfl,rfl,Nat.le_refl _,fun _ _=>rfl⟩
set_option maxHeartbeats 8000000 in
theorem iStand_any (P:Nat)(tb tf len cap:Nat)(now:Int)(u g:Int)(ca:Option Addr)(cl cc:Nat)(r:Bool)(pa:Option Addr)(pn pc:Nat)(sl th:Bool)(lk nd d:Int)(nm:ByteArray)(n:Int)(w:World)(hP:BoxW w P [.slice (some ⟨tb,tf,none⟩) len cap,.int .i64 now,.int .i64 u,.int .i64 g,.slice ca cl cc,.bool r,.slice pa pn pc,.bool sl,.bool th,.int .i64 lk,.int .i64 nd,.int .i64 d,.string nm]) :
    Calls Tryz.prog 41 #[.pointer (some ⟨P,0,none⟩),.int .i64 n] w fun e w'=>e=.returned (.tuple #[])∧BoxW w' P [.slice (some ⟨tb,tf,none⟩) len cap,.int .i64 now,.int .i64 u,.int .i64 g,.slice ca cl cc,.bool r,.slice pa pn pc,.bool sl,.bool th,.int .i64 lk,.int .i64 n,.int .i64 n,.string ⟨#[]⟩]∧ButS (some ⟨P,0,none⟩) w w':=by
  have HP:Hid (BoxW w P [.slice (some ⟨tb,tf,none⟩) len cap,.int .i64 now,.int .i64 u,.int .i64 g,.slice ca cl cc,.bool r,.slice pa pn pc,.bool sl,.bool th,.int .i64 lk,.int .i64 nd,.int .i64 d,.string nm]):=hP
  have HP2:Hid (BoxW (((w.setCell ⟨P,10,none⟩ (.int .i64 n)).setCell ⟨P,11,none⟩ (.int .i64 n)).setCell ⟨P,12,none⟩ (.string ⟨#[]⟩)) P [.slice (some ⟨tb,tf,none⟩) len cap,.int .i64 now,.int .i64 u,.int .i64 g,.slice ca cl cc,.bool r,.slice pa pn pc,.bool sl,.bool th,.int .i64 lk,.int .i64 n,.int .i64 n,.string ⟨#[]⟩]):=((hP.set 10 (by simp) (.int .i64 n)).set 11 (by simp) (.int .i64 n)).set 12 (by simp) (.string ⟨#[]⟩)
  have HU2:Hid (ButS (some ⟨P,0,none⟩) w (((w.setCell ⟨P,10,none⟩ (.int .i64 n)).setCell ⟨P,11,none⟩ (.int .i64 n)).setCell ⟨P,12,none⟩ (.string ⟨#[]⟩))):=(ButS.refl _ _).set.set.set
  have p0:w.cell? ⟨P,0,none⟩=some (.slice (some ⟨tb,tf,none⟩) len cap):=HP.out.at0 0 _ rfl
  have p1:w.cell? ⟨P,1,none⟩=some (.int .i64 now):=HP.out.at0 1 _ rfl
  have p2:w.cell? ⟨P,2,none⟩=some (.int .i64 u):=HP.out.at0 2 _ rfl
  have p3:w.cell? ⟨P,3,none⟩=some (.int .i64 g):=HP.out.at0 3 _ rfl
  have p4:w.cell? ⟨P,4,none⟩=some (.slice ca cl cc):=HP.out.at0 4 _ rfl
  have p5:w.cell? ⟨P,5,none⟩=some (.bool r):=HP.out.at0 5 _ rfl
  have p6:w.cell? ⟨P,6,none⟩=some (.slice pa pn pc):=HP.out.at0 6 _ rfl
  have p7:w.cell? ⟨P,7,none⟩=some (.bool sl):=HP.out.at0 7 _ rfl
  have p8:w.cell? ⟨P,8,none⟩=some (.bool th):=HP.out.at0 8 _ rfl
  have p9:w.cell? ⟨P,9,none⟩=some (.int .i64 lk):=HP.out.at0 9 _ rfl
  have p10:w.cell? ⟨P,10,none⟩=some (.int .i64 nd):=HP.out.at0 10 _ rfl
  have p11:w.cell? ⟨P,11,none⟩=some (.int .i64 d):=HP.out.at0 11 _ rfl
  have p12:w.cell? ⟨P,12,none⟩=some (.string nm):=HP.out.at0 12 _ rfl
  have fz:=HP.out.frz
  clear hP
  go_enter Tryz.func41,Tryz.ntmps41
  go_wp2
  exact bodyPost_end (v:=.tuple #[]) (by simp [results,Tryz.results41]) rfl ⟨rfl,HP2.out,HU2.out⟩
def kndB (l:List Nd) (n:Int):Int:=if inR 1 l.length n then (ndAt l (n-1).toNat).k else 0
set_option maxRecDepth 20000 in
set_option maxHeartbeats 8000000 in
theorem iKind_any (P:Nat)(tb tf len cap:Nat)(now:Int)(u g:Int)(ca:Option Addr)(cl cc:Nat)(r:Bool)(pa:Option Addr)(pn pc:Nat)(sl th:Bool)(lk nd d:Int)(nm:ByteArray)(l:List Nd)(Y:Nat→Na)(hl:len≤12)(hll:l.length=len)(w:World)(htb:tb<w.heap.size)(hP:BoxW w P [.slice (some ⟨tb,tf,none⟩) len cap,.int .i64 now,.int .i64 u,.int .i64 g,.slice ca cl cc,.bool r,.slice pa pn pc,.bool sl,.bool th,.int .i64 lk,.int .i64 nd,.int .i64 d,.string nm])(hc:∀ i,i<len→N24 w tb (tf+i*24) (ndAt l i) (Y i)) :
    Calls Tryz.prog 84 #[.pointer (some ⟨P,0,none⟩)] w fun e w'=>e=.returned (.int .i64 (kndB l nd))∧Below w.heap.size w w':=by
  have HP:Hid (BoxW w P [.slice (some ⟨tb,tf,none⟩) len cap,.int .i64 now,.int .i64 u,.int .i64 g,.slice ca cl cc,.bool r,.slice pa pn pc,.bool sl,.bool th,.int .i64 lk,.int .i64 nd,.int .i64 d,.string nm]):=hP
  have HN:Hid (∀ i,i<len→N24 w tb (tf+i*24) (ndAt l i) (Y i)):=hc
  have cN:∀ dd os,Calls Tryz.prog 130 #[.agg #[.slice (some ⟨tb,tf,none⟩) len cap,.int .i64 now],.int .i64 nd] (Go.Sort.grow (redrawn w dd) os) fun e w''=>e=.returned (.bool (inR 1 len nd))∧∃ q:Regrown,w''=Go.Sort.grow (redrawn w q.d) q.os:=fun dd os=>Calls.regrown_of (iNumber_any (some ⟨tb,tf,none⟩) len cap l now nd (by omega) _)
  have HK:Hid (kndB l nd=if inR 1 len nd then (ndAt l (nd-1).toNat).k else 0):=(by show _=_;rw [kndB,hll])
  have r0:∀ dd os,(Go.Sort.grow (redrawn w dd) os).cell? ⟨P,0,none⟩=some (.slice (some ⟨tb,tf,none⟩) len cap):=fun dd os=>cell_regrown (HP.out.at0 0 _ rfl) dd os
  have r1:∀ dd os,(Go.Sort.grow (redrawn w dd) os).cell? ⟨P,1,none⟩=some (.int .i64 now):=fun dd os=>cell_regrown (HP.out.at0 1 _ rfl) dd os
  have r10:∀ dd os,(Go.Sort.grow (redrawn w dd) os).cell? ⟨P,10,none⟩=some (.int .i64 nd):=fun dd os=>cell_regrown (HP.out.at0 10 _ rfl) dd os
  clear hP hc
  go_enter Tryz.func84,Tryz.ntmps84
  go_upto_region 1 with fail
  refine wp_region_quiet_below (by kernel_rfl) (by kernel_rfl) ?_
  repeat (go_big_quiet_step (exact cN _ _))
  refine wpQuiet_nil ?_
  intro _ hw'
  obtain ⟨⟨dq,osq⟩,hw''⟩:=hw'
  subst hw''
  have hbq:=below_regrown w dq osq
  have HB1:Hid (Below w.heap.size w (Go.Sort.grow (redrawn w dq) osq)):=hbq
  have HP1:Hid (BoxW (Go.Sort.grow (redrawn w dq) osq) P [.slice (some ⟨tb,tf,none⟩) len cap,.int .i64 now,.int .i64 u,.int .i64 g,.slice ca cl cc,.bool r,.slice pa pn pc,.bool sl,.bool th,.int .i64 lk,.int .i64 nd,.int .i64 d,.string nm]):=HP.out.below hbq
  have HN1:Hid (∀ i,i<len→N24 (Go.Sort.grow (redrawn w dq) osq) tb (tf+i*24) (ndAt l i) (Y i)):=(fun i hi=>range_below (HN.out i hi) htb hbq)
  clear hbq cN r0 r1 r10
  generalize Go.Sort.grow (redrawn w dq) osq=w1 at HB1 HP1 HN1 ⊢
  cases hin:inR 1 len nd
  · have HF : Hid (kndB l nd = 0) := (by show _ = _; rw [HK.out, hin]; rfl)
    go_wp2
    go_ret
    exact ⟨by rw [HF.out];rfl,HB1.out⟩
  · obtain ⟨h1, h2⟩ := inR_iff.1 hin
    obtain ⟨k,rfl⟩:∃ k:Nat,nd=(k:Int)+1:=⟨(nd-1).toNat,by omega⟩
    have hk:k<len:=by omega
    have HF:Hid (kndB l ((k:Int)+1)=(ndAt l k).k):=(by show _=_;rw [HK.out,hin,at_succ];rfl)
    have c0:=N24.c0 (HN1.out k hk)
    have hk1:(k:Int)<(len:Int):=by omega
    have hk0:(0:Int)≤(k:Int):=by omega
    have p0:w1.cell? ⟨P,0,none⟩=some (.slice (some ⟨tb,tf,none⟩) len cap):=HP1.out.at0 0 _ rfl
    have p10:w1.cell? ⟨P,10,none⟩=some (.int .i64 ((k:Int)+1)):=HP1.out.at0 10 _ rfl
    clear HK hin h1 h2
    generalize ndAt l k=x at c0 HF
    go_wp2
    go_quiet (fail)
    go_wp2
    go_ret
    exact ⟨by rw [HF.out];rfl,bl_drewK HB1.out _⟩
set_option maxRecDepth 20000 in
set_option maxHeartbeats 8000000 in
theorem iLeads_any (P:Nat)(tb tf len cap:Nat)(now:Int)(u g:Int)(ca:Option Addr)(cl cc:Nat)(r:Bool)(pa:Option Addr)(pn pc:Nat)(sl th:Bool)(lk nd d:Int)(nm:ByteArray)(l:List Nd)(Y:Nat→Na)(hl:len≤12)(hll:l.length=len)(hpn:pn≤1000)(w:World)(htb:tb<w.heap.size)(hP:BoxW w P [.slice (some ⟨tb,tf,none⟩) len cap,.int .i64 now,.int .i64 u,.int .i64 g,.slice ca cl cc,.bool r,.slice pa pn pc,.bool sl,.bool th,.int .i64 lk,.int .i64 nd,.int .i64 d,.string nm])(hc:∀ i,i<len→N24 w tb (tf+i*24) (ndAt l i) (Y i)) :
    Calls Tryz.prog 82 #[.pointer (some ⟨P,0,none⟩)] w fun e w'=>e=.returned (.bool (kndB l nd==3&&(th||decide ((0:Int)<(pn:Int)))))∧Below w.heap.size w w':=by
  have HP:Hid (BoxW w P [.slice (some ⟨tb,tf,none⟩) len cap,.int .i64 now,.int .i64 u,.int .i64 g,.slice ca cl cc,.bool r,.slice pa pn pc,.bool sl,.bool th,.int .i64 lk,.int .i64 nd,.int .i64 d,.string nm]):=hP
  have HC:Hid (Calls Tryz.prog 84 #[.pointer (some ⟨P,0,none⟩)] w fun e w'=>e=.returned (.int .i64 (kndB l nd))∧Below w.heap.size w w'):=iKind_any P tb tf len cap now u g ca cl cc r pa pn pc sl th lk nd d nm l Y hl hll w htb hP hc
  clear hP hc
  generalize kndB l nd=kk at HC ⊢
  go_enter Tryz.func82,Tryz.ntmps82
  go_wp2_with fail
  refine (HC.out).mono ?_
  rintro e w1 ⟨rfl,hb⟩
  have HB1:Hid (Below w.heap.size w w1):=hb
  have p8:w1.cell? ⟨P,8,none⟩=some (.bool th):=(HP.out.below hb).at0 8 _ rfl
  have p6:w1.cell? ⟨P,6,none⟩=some (.slice pa pn pc):=(HP.out.below hb).at0 6 _ rfl
  clear hb HC HP
  cases q:(kk==3)
  · go_wp2
    go_ret
    exact ⟨ret_boolW (by rw [q];rfl),HB1.out⟩
  · cases th
    · go_wp2
      go_ret
      exact ⟨ret_boolW (by rw [q];simp),HB1.out⟩
    · go_wp2
      go_ret
      exact ⟨ret_boolW (by rw [q];rfl),HB1.out⟩
end Go.Proofs.YtabfdidnjibdeaaGreatDoor
