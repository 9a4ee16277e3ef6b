/- Laid together: ButT, WkR, WkS, CatS. -/
import Derived.Test.YtabfdidnjibdeaaGreatDoorBR20
import Derived.Deep.DeepCutAuto
import Derived.Test.YtabfdidnjibdeaaGreatDoorBR10
namespace Go.Proofs.YtabfdidnjibdeaaGreatDoor
open Go.RowKit Go.PlainAid Go.Deep
set_option linter.unusedVariables false
theorem setS {B b o:Nat}{W w1:World}{x:Value}(hb:Below B W w1)(h:B≤b):Below B W (w1.setCell ⟨b,o,none⟩ x):=hb.setCell h _
structure ButS (a:Option Addr) (w w':World):Prop where
  size:w.heap.size≤w'.heap.size
  below:∀ c,c≤w.heap.size→(∀ A,a=some A→c≤A.block)→Below c w w'
  cell:∀ b o,b<w.heap.size→(∀ A,a=some A→b≠A.block)→w'.cell? ⟨b,o,none⟩=w.cell? ⟨b,o,none⟩∧w'.frozen? ⟨b,o,none⟩=w.frozen? ⟨b,o,none⟩
theorem ButS.refl (a:Option Addr)(w:World):ButS a w w:=⟨Nat.le_refl _,fun _ _ _=>Below.refl _ _,fun _ _ _ _=>⟨rfl,rfl⟩⟩
theorem ButS.set {B o:Nat}{w w':World}{v:Value}(h:ButS (some ⟨B,0,none⟩) w w'):ButS (some ⟨B,0,none⟩) w (w'.setCell ⟨B,o,none⟩ v):=by
  refine ⟨by simpa using h.size,fun c hc1 hc=>setS (h.below c hc1 hc) (hc _ rfl),fun b o2 hb1 hb=>?_⟩
  have h1:=h.cell b o2 hb1 hb
  rw [World.frozen?_setCell,←h1.1]
  exact ⟨World.cell?_setCell_other _ _ _ _ (by intro h;have h2:=congrArg Addr.block h;exact hb _ rfl (by simpa using h2.symm)),h1.2⟩
theorem ButS.on {a:Option Addr}{w w1 w2:World}(h:ButS a w w1)(hb:Below w1.heap.size w1 w2):ButS a w w2:=by
  refine ⟨Nat.le_trans h.size hb.size,fun c h1 h2=>(h.below c h1 h2).trans (hb.mono (Nat.le_trans h1 h.size)),fun b o h1 h2=>?_⟩
  have h3:=h.cell b o h1 h2
  have hlt:=Nat.lt_of_lt_of_le h1 h.size
  exact ⟨(hb.cell (p:=⟨b,o,none⟩) hlt).trans h3.1,(hb.frozen (p:=⟨b,o,none⟩) hlt).trans h3.2⟩
theorem ButS.upon {a:Option Addr}{w w1 w2:World}(hb:Below w.heap.size w w1)(h:ButS a w1 w2):ButS a w w2:=by
  refine ⟨Nat.le_trans hb.size h.size,fun c h1 h2=>(hb.mono h1).trans (h.below c (Nat.le_trans h1 hb.size) h2),fun b o h1 h2=>?_⟩
  have h3:=h.cell b o (Nat.lt_of_lt_of_le h1 hb.size) h2
  exact ⟨h3.1.trans (hb.cell (p:=⟨b,o,none⟩) h1),h3.2.trans (hb.frozen (p:=⟨b,o,none⟩) h1)⟩
theorem ButS.trans {a:Option Addr}{w w1 w2:World}(h:ButS a w w1)(h2:ButS a w1 w2):ButS a w w2:=by
  refine ⟨Nat.le_trans h.size h2.size,fun c hc hA=>(h.below c hc hA).trans (h2.below c (Nat.le_trans hc h.size) hA),fun b o hb hA=>?_⟩
  have h3:=h.cell b o hb hA
  have h4:=h2.cell b o (Nat.lt_of_lt_of_le hb h.size) hA
  exact ⟨h4.1.trans h3.1,h4.2.trans h3.2⟩
theorem ButS.of {a:Option Addr}{w w1:World}(h:Below w.heap.size w w1):ButS a w w1:=(ButS.refl a w).on h
theorem BoxR.butS {a:Option Addr}{w w':World}{X:Nat}{cs:List Value}(h:BoxR w X cs)(hb:ButS a w w')(hne:∀ A,a=some A→X≠A.block):BoxR w' X cs:=⟨Nat.lt_of_lt_of_le h.lt hb.size,range_keep h.at0 (fun j=>(hb.cell X j h.lt hne).1)⟩
theorem BoxW.butS {a:Option Addr}{w w':World}{X:Nat}{cs:List Value}(h:BoxW w X cs)(hb:ButS a w w')(hne:∀ A,a=some A→X≠A.block):BoxW w' X cs:=⟨Nat.lt_of_lt_of_le h.lt hb.size,range_keep h.at0 (fun j=>(hb.cell X j h.lt hne).1),fun j=>(hb.cell X j h.lt hne).2.trans (h.frz j)⟩
def RowB (w:World) (b off:Nat) (l:List ByteArray):Prop:=b<w.heap.size∧∀ (j:Nat) x,l[j]?=some x→w.cell? ⟨b,off+j,none⟩=some (.string x)
theorem RowB.below {w w':World}{b off:Nat}{l:List ByteArray}(h:RowB w b off l)(hb:Below w.heap.size w w'):RowB w' b off l:=⟨Nat.lt_of_lt_of_le h.1 hb.size,fun j x hj=>(hb.cell (p:=⟨b,off+j,none⟩) h.1).trans (h.2 j x hj)⟩
theorem RowB.but {a:Option Addr}{w w':World}{b off:Nat}{l:List ByteArray}(h:RowB w b off l)(hb:ButS a w w')(hne:∀ A,a=some A→b≠A.block):RowB w' b off l:=⟨Nat.lt_of_lt_of_le h.1 hb.size,fun j x hj=>(hb.cell b (off+j) h.1 hne).1.trans (h.2 j x hj)⟩
theorem RowB.tail {w:World}{b off:Nat}{p:ByteArray}{l:List ByteArray}(h:RowB w b off (p :: l)):RowB w b (off+1) l:=⟨h.1,fun j x hj=>by
  have h1:=h.2 (j+1) x (by simpa using hj)
  rw [show off+1+j=off+(j+1) by omega]
  exact h1⟩
theorem RowB.head {w:World}{b off:Nat}{p:ByteArray}{l:List ByteArray}(h:RowB w b off (p :: l)):w.cell? ⟨b,off,none⟩=some (.string p):=h.2 0 p rfl
theorem tv_app (l k:List ByteArray):tv (l++k)=tv l++tv k:=by simp [tv]
theorem tv_len (l:List ByteArray):(tv l).length=l.length:=by simp [tv]
theorem tv_one (l:List ByteArray):∀ u ∈ tv l,u.oneCell'=true:=by
  intro u hu
  simp only [tv,List.mem_map] at hu
  obtain ⟨x,_,rfl⟩:=hu
  rfl
theorem append_row (w0 w:World)(v:Value)(l k:List ByteArray)(hown:w.ownsRow w0.heap.size 9 1 v l.length (tv l))(hB:Below w0.heap.size w0 w)(b off c:Nat)(hk:RowB w b off k)(hsm:l.length+k.length≤100000) :
    ∃ v' w',(Builtin.append_ #[50,50] 50 #[v,.slice (some ⟨b,off,none⟩) k.length c]).run Tryz.prog w=.ok v' w'∧w'.ownsRow w0.heap.size 9 1 v' (l++k).length (tv (l++k))∧Below w0.heap.size w0 w'∧(v≠.slice none 0 0→v'≠.slice none 0 0)∧w.grownBy w' v.ownBlock:=by
  obtain ⟨i,hi,hzz⟩:=Option.map_eq_some_iff.1 infoStr
  simp only [Prod.mk.injEq] at hzz
  obtain ⟨hz,hs,hb⟩:=hzz
  have hnw:∀ j u,(tv k)[j]?=some u→w.cell? ((⟨b,off,none⟩:Addr).add j)=some u:=by
    intro j u hj
    simp only [tv,List.getElem?_map,Option.map_eq_some_iff] at hj
    obtain ⟨x,hx,rfl⟩:=hj
    have h:=hk.2 j x hx
    have ea:((⟨b,off,none⟩:Addr).add j)=⟨b,off+j,none⟩:=by
      rw [Addr.add]
      split
      · rename_i e;rw [e];rfl
      · rfl
    rw [ea]
    exact h
  obtain ⟨v',w',hr,h1,h2,h3⟩:=run_append_own (P:=Tryz.prog) _ w0.heap.size 50 50 9 i _ 1 16 Tryz.underlying50 hi hz hs hb rfl (by decide) v l.length (tv l) hown ⟨b,off,none⟩ k.length c (tv k) (by rw [tv_len,Nat.mul_one]) hnw (tv_one k) (by unfold maxLen;omega) (by omega) hB.size
  refine ⟨v',w',hr,?_,hB.grown h2 hB.size (own_blockT hown),fun hv hv'=>hv (h3.1 hv').1,h2⟩
  rw [tv_app,List.length_append]
  exact h1
set_option maxHeartbeats 4000000 in
theorem sFind_any (nA:Option Addr)(nC:Nat)(ns:List (ByteArray × Int))(p:ByteArray)(hl:ns.length≤1048576)(w:World)(hi:Ens nA ns.length ns w) :
    Calls Tryz.prog 113 #[.slice nA ns.length nC,.string p] w fun e w'=>e=.returned (.int .i64 (fdT ns p.toList ns.length))∧w'=w:=by
  have HE:Hid (Ens nA ns.length ns w):=hi
  clear hi
  go_enter Tryz.func113,Tryz.ntmps113
  go_wp2
  go_loop [5] (fun j=>∃ m:Nat,m≤ns.length∧j=.int .i64 m∧Hid (hasN ns p.toList m=false)) (fun j=>ns.length-(intOf j).toNat)
  case atStart=>exact ⟨0,Nat.zero_le _,rfl,rfl⟩
  case round =>
    obtain ⟨m,hm,rfl,hno⟩:=hrel
    by_cases hml:m<ns.length
    · obtain ⟨b2, off2, rfl, hb2, hc2⟩ := HE.out.2 (by omega)
      have hml':(m:Int)<(ns.length:Int):=by omega
      have g0:=(hc2 m hml).1
      have g1:=(hc2 m hml).2
      have HY:Hid (((nmAt ns m).toList==p.toList)=true→fdT ns p.toList ns.length=noAt ns m):=(fun e=>fdT_at hno.out e _ hml)
      have HN:Hid (((nmAt ns m).toList==p.toList)=false→hasN ns p.toList (m+1)=false):=(fun e=>by simp only [hasN,hno.out,e,Bool.or_self])
      clear hc2
      generalize nmAt ns m=q at g0 HY HN
      generalize noAt ns m=v at g1 HY
      cases e:(q.toList==p.toList)
      · have hno2 : Hid (hasN ns p.toList (m + 1) = false) := HN.out e
        go_wp2
        go_round
        case rel=>exact ⟨m+1,by omega,by go_num,hno2⟩
        case measure=>simp [intOf];omega
      · have hyes : Hid (fdT ns p.toList ns.length = v) := HY.out e
        go_wp2
        go_ret
        exact ⟨by rw [hyes.out];rfl,rfl⟩
    · have : m = ns.length := by omega
      subst this
      have hyes:Hid (fdT ns p.toList ns.length=0):=fdT_none _ hno.out
      go_wp2
      go_ret
      exact ⟨by rw [hyes.out];rfl,rfl⟩
def RowG (w:World) (P:Nat) (a:Option Addr) (l:List ByteArray):Prop:=0<l.length→∃ b off,a=some ⟨b,off,none⟩∧b≠P∧RowB w b off l
theorem own_rowG {w:World}{B P:Nat}{t:TypeId}{v:Value}{l:List ByteArray}(h:w.ownsRow B t 1 v l.length (tv l))(hP:P<B):∃ a c,v=.slice a l.length c∧l.length≤c∧RowG w P a l:=by
  obtain ⟨_,⟨rfl,hn⟩ | ⟨g,cap,cur,rfl,hb,hg,hc,_,hs,ht⟩⟩:=h
  · exact ⟨none,0,by rw [hn],by omega,fun h=>absurd h (by omega)⟩
  · have hlt : g < w.heap.size := (Array.getElem?_eq_some_iff.1 hg).1
    refine ⟨some ⟨g,0,none⟩,cap,rfl,hc,fun _=>⟨g,0,rfl,by omega,hlt,fun j x hj=>?_⟩⟩
    have hj2:(tv l)[j]?=some (.string x):=by simp [tv,hj]
    have hjl:j<l.length:=(List.getElem?_eq_some_iff.1 hj).1
    rw [←ht,List.getElem?_take_of_lt (by omega)] at hj2
    have:w.cell? ⟨g,0+j,none⟩=cur[j]?:=by simp [World.cell?,hg]
    rw [this]
    simpa using hj2
theorem RowG.but {w w':World}{P:Nat}{a:Option Addr}{l:List ByteArray}(h:RowG w P a l)(hb:ButS (some ⟨P,0,none⟩) w w'):RowG w' P a l:=by
  intro hl
  obtain ⟨b,off,ha,hne,hr⟩:=h hl
  exact ⟨b,off,ha,hne,hr.but hb (fun A e=>by cases e;exact hne)⟩
def WyAt (w:World) (P:Nat) (tb tf len cap:Nat) (l:List Nd) (now:Int) (u g:Int) (ca:Option Addr) (cl cc:Nat) (r:Bool) (sl:Bool) (s:Wy) (d:Int) (pa:Option Addr) (pc:Nat):Prop :=
  BoxW w P [.slice (some ⟨tb,tf,none⟩) len cap,.int .i64 now,.int .i64 u,.int .i64 g,.slice ca cl cc,.bool r,.int .i64 s.at_,.int .i64 d,.string s.nm,.slice pa s.ps.length pc,.bool sl,.int .i64 s.lk]∧RowG w P pa s.ps∧s.ps.length≤pc
def WyEnd (w:World) (P:Nat) (tb tf len cap:Nat) (l:List Nd) (now:Int) (u g:Int) (ca:Option Addr) (cl cc:Nat) (r:Bool) (sl:Bool) (x:Int × Wy) (e:Ending) (w':World):Prop :=
  e=.returned (.int .i64 x.1)∧ButS (some ⟨P,0,none⟩) w w'∧(x.1=0→∃ d pa pc,WyAt w' P tb tf len cap l now u g ca cl cc r sl x.2 d pa pc∧(x.2.nm.toList≠[]→d=x.2.d))
theorem emp_nil:emp.toList=[]:=by
  rw [Lib.toList_data]
  rfl
set_option maxRecDepth 20000 in
set_option maxHeartbeats 8000000 in
theorem sEnter_any (P:Nat)(tb tf len cap:Nat)(l:List Nd)(now:Int)(u g:Int)(ca:Option Addr)(cl cc:Nat)(r:Bool)(sl:Bool)(s:Wy)(d:Int)(nm0:ByteArray)(ps:List ByteArray)(b off pc:Nat)(n:Int)(p:ByteArray)(fo:Bool)(Y:Nat→Na)(hl:len≤12)(hll:l.length=len)(hps:ps.length≤1000)(hlk:s.lk≤8)(hn:n≠0→thB l n=true)(hbo:∀ j,n=((j:Nat):Int)+1→((ndAt l j).k==3)=true→signsB (ndAt l j).bo 40=true)(w:World)
    (hP:BoxW w P [.slice (some ⟨tb,tf,none⟩) len cap,.int .i64 now,.int .i64 u,.int .i64 g,.slice ca cl cc,.bool r,.int .i64 s.at_,.int .i64 d,.string nm0,.slice (some ⟨b,off,none⟩) ps.length pc,.bool sl,.int .i64 s.lk]) (hR:RowB w b off ps) (hbP:b≠P) (hpc:ps.length≤pc) (htb:tb≠P) (htb2:tb<w.heap.size) (hc:∀ i,i<len→N24 w tb (tf+i*24) (ndAt l i) (Y i)) :
    Calls Tryz.prog 112 #[.pointer (some ⟨P,0,none⟩),.int .i64 n,.string p,.bool fo] w fun e w'=>WyEnd w P tb tf len cap l now u g ca cl cc r sl (went l (fo||sl) s p ps n) e w':=by
  have HP:Hid (BoxW w P [.slice (some ⟨tb,tf,none⟩) len cap,.int .i64 now,.int .i64 u,.int .i64 g,.slice ca cl cc,.bool r,.int .i64 s.at_,.int .i64 d,.string nm0,.slice (some ⟨b,off,none⟩) ps.length pc,.bool sl,.int .i64 s.lk]):=hP
  have HP1:Hid (BoxW ((w.setCell ⟨P,7,none⟩ (.int .i64 s.at_)).setCell ⟨P,8,none⟩ (.string p)) P [.slice (some ⟨tb,tf,none⟩) len cap,.int .i64 now,.int .i64 u,.int .i64 g,.slice ca cl cc,.bool r,.int .i64 s.at_,.int .i64 s.at_,.string p,.slice (some ⟨b,off,none⟩) ps.length pc,.bool sl,.int .i64 s.lk]):=(hP.set 7 (by simp) (.int .i64 s.at_)).set 8 (by simp) (.string p)
  have HU1:Hid (ButS (some ⟨P,0,none⟩) w ((w.setCell ⟨P,7,none⟩ (.int .i64 s.at_)).setCell ⟨P,8,none⟩ (.string p))):=(ButS.refl _ _).set.set
  have HR0:Hid (RowB w b off ps):=hR
  have HN0:Hid (∀ i,i<len→N24 w tb (tf+i*24) (ndAt l i) (Y i)):=hc
  have p0:w.cell? ⟨P,0,none⟩=some (.slice (some ⟨tb,tf,none⟩) len cap):=HP.out.at0 0 _ rfl
  have p1:w.cell? ⟨P,1,none⟩=some (.int .i64 now):=HP.out.at0 1 _ rfl
  have p2:w.cell? ⟨P,2,none⟩=some (.int .i64 u):=HP.out.at0 2 _ rfl
  have p3:w.cell? ⟨P,3,none⟩=some (.int .i64 g):=HP.out.at0 3 _ rfl
  have p4:w.cell? ⟨P,4,none⟩=some (.slice ca cl cc):=HP.out.at0 4 _ rfl
  have p5:w.cell? ⟨P,5,none⟩=some (.bool r):=HP.out.at0 5 _ rfl
  have p6:w.cell? ⟨P,6,none⟩=some (.int .i64 s.at_):=HP.out.at0 6 _ rfl
  have p7:w.cell? ⟨P,7,none⟩=some (.int .i64 d):=HP.out.at0 7 _ rfl
  have p8:w.cell? ⟨P,8,none⟩=some (.string nm0):=HP.out.at0 8 _ rfl
  have p9:w.cell? ⟨P,9,none⟩=some (.slice (some ⟨b,off,none⟩) ps.length pc):=HP.out.at0 9 _ rfl
  have p10:w.cell? ⟨P,10,none⟩=some (.bool sl):=HP.out.at0 10 _ rfl
  have p11:w.cell? ⟨P,11,none⟩=some (.int .i64 s.lk):=HP.out.at0 11 _ rfl
  have fz:=HP.out.frz
  have HPne:Hid (b≠P∧ps.length≤pc∧tb≠P∧tb<w.heap.size):=⟨hbP,hpc,htb,htb2⟩
  have hpsi:(ps.length:Int)≤1000:=by omega
  clear hP hR hc hbP hpc htb htb2
  go_enter Tryz.func112,Tryz.ntmps112
  go_upto_region 3 with fail
  generalize (w.setCell ⟨P,7,none⟩ (.int .i64 s.at_)).setCell ⟨P,8,none⟩ (.string p)=w1 at HP1 HU1 ⊢
  have HR1:Hid (RowB w1 b off ps):=HR0.out.but HU1.out (fun A e=>by cases e;exact HPne.out.1)
  have HN1:Hid (∀ i,i<len→N24 w1 tb (tf+i*24) (ndAt l i) (Y i)):=(fun i hi=>range_keep (HN0.out i hi) (fun j=>(HU1.out.cell tb j HPne.out.2.2.2 (fun A e=>by cases e;exact HPne.out.2.2.1)).1))
  clear p0 p1 p2 p3 p4 p5 p6 p7 p8 p9 p10 p11 fz HR0 HN0 HP
  have p0:w1.cell? ⟨P,0,none⟩=some (.slice (some ⟨tb,tf,none⟩) len cap):=HP1.out.at0 0 _ rfl
  have p1:w1.cell? ⟨P,1,none⟩=some (.int .i64 now):=HP1.out.at0 1 _ rfl
  have p2:w1.cell? ⟨P,2,none⟩=some (.int .i64 u):=HP1.out.at0 2 _ rfl
  have p3:w1.cell? ⟨P,3,none⟩=some (.int .i64 g):=HP1.out.at0 3 _ rfl
  have p4:w1.cell? ⟨P,4,none⟩=some (.slice ca cl cc):=HP1.out.at0 4 _ rfl
  have p5:w1.cell? ⟨P,5,none⟩=some (.bool r):=HP1.out.at0 5 _ rfl
  have p6:w1.cell? ⟨P,6,none⟩=some (.int .i64 s.at_):=HP1.out.at0 6 _ rfl
  have p7:w1.cell? ⟨P,7,none⟩=some (.int .i64 s.at_):=HP1.out.at0 7 _ rfl
  have p8:w1.cell? ⟨P,8,none⟩=some (.string p):=HP1.out.at0 8 _ rfl
  have p9:w1.cell? ⟨P,9,none⟩=some (.slice (some ⟨b,off,none⟩) ps.length pc):=HP1.out.at0 9 _ rfl
  have p10:w1.cell? ⟨P,10,none⟩=some (.bool sl):=HP1.out.at0 10 _ rfl
  have p11:w1.cell? ⟨P,11,none⟩=some (.int .i64 s.lk):=HP1.out.at0 11 _ rfl
  have fz:=HP1.out.frz
  by_cases hn0:n=0
  · subst hn0
    cases hpe:ps with
    | nil =>
      have HW:Hid (went l (fo||sl) s p ps 0=(0,⟨0,s.at_,p,[],s.lk⟩)):=(by show _=_;rw [hpe];rfl)
      rw [hpe] at p9 HP1
      have HP2:Hid (BoxW (w1.setCell ⟨P,6,none⟩ (.int .i64 0)) P [.slice (some ⟨tb,tf,none⟩) len cap,.int .i64 now,.int .i64 u,.int .i64 g,.slice ca cl cc,.bool r,.int .i64 0,.int .i64 s.at_,.string p,.slice (some ⟨b,off,none⟩) ([]:List ByteArray).length pc,.bool sl,.int .i64 s.lk]):=HP1.out.set 6 (by simp) (.int .i64 0)
      have HU2:Hid (ButS (some ⟨P,0,none⟩) w (w1.setCell ⟨P,6,none⟩ (.int .i64 0))):=HU1.out.set
      clear hn hbo HN1
      go_wp2
      go_ret
      refine ⟨by rw [HW.out];rfl,HU2.out,fun _=>?_⟩
      rw [HW.out]
      exact ⟨s.at_,some ⟨b,off,none⟩,pc,⟨HP2.out,fun h=>absurd h (by simp),Nat.zero_le _⟩,fun _=>rfl⟩
    | cons q qs =>
      have HW:Hid ((went l (fo||sl) s p ps 0).1=6):=(by show _=_;rw [hpe];rfl)
      rw [hpe] at p9
      have hpl:(0:Int)<((q :: qs).length:Int):=by simp
      generalize (q :: qs).length=nq at p9 hpl
      clear hn hbo HN1 hpe
      go_wp2
      go_ret
      refine ⟨by rw [HW.out];rfl,HU1.out,fun h=>?_⟩
      rw [HW.out] at h
      exact absurd h (by decide)
  · have hnb : (n == 0) = false := by simp [hn0]
    obtain ⟨j,hj,hjl⟩:=th_num (hn hn0)
    have HB40:Hid (((ndAt l j).k==3)=true→signsB (ndAt l j).bo 40=true):=hbo j hj
    have hjl2:j<len:=by omega
    have HNy0:Hid (N24 w1 tb (tf+j*24) (ndAt l j) (Y j)):=HN1.out j hjl2
    subst hj
    have HW0:Hid (went l (fo||sl) s p ps ((j:Int)+1)=(if (ndAt l j).k==3&&((fo||sl)||!ps.isEmpty) then (if 8≤s.lk then (14,s) else if firB (ndAt l j).bo then (0,⟨1,1,emp,pbo (ndAt l j).bo++ps,s.lk+1⟩) else (0,⟨s.at_,s.at_,emp,pbo (ndAt l j).bo++ps,s.lk+1⟩)) else (0,⟨(j:Int)+1,s.at_,p,ps,s.lk⟩))):=(by show _=_;rw [went,hnb];simp only [Bool.false_eq_true,if_false,at_succ])
    have hj1:(j:Int)<(len:Int):=by omega
    have hj0:(0:Int)≤(j:Int):=by omega
    have HNy:Hid (N24 w1 tb (tf+j*24) (ndAt l j) (Y j)):=HNy0
    clear hn hbo HN1 HNy0 hn0 hjl hjl2
    generalize ndAt l j=y at HNy HB40 HW0
    generalize Y j=yy at HNy
    have hbR:Below w1.heap.size w1 ((w1.alloc (.cells #[.int .i64 0,.int .i64 0,.int .i64 0,.int .i64 0,.int .i64 0,.int .i64 0,.int .i64 0,.slice none 0 0,.slice none 0 0,.bool false,.int .i64 0,.bool false,.int .i64 0,.int .i64 0,.int .i64 0,.slice none 0 0,.slice none 0 0,.bool false,.int .i64 0,.int .i64 0,.int .i64 0,.string ⟨#[]⟩,.slice none 0 0,.int .i64 0] 84)).setCells w1.heap.size 0 (ndV y yy)):=bl_setsT (Nat.le_refl _) _ _ (bel_alloc _ _)
    have HU2:Hid (ButS (some ⟨P,0,none⟩) w ((w1.alloc (.cells #[.int .i64 0,.int .i64 0,.int .i64 0,.int .i64 0,.int .i64 0,.int .i64 0,.int .i64 0,.slice none 0 0,.slice none 0 0,.bool false,.int .i64 0,.bool false,.int .i64 0,.int .i64 0,.int .i64 0,.slice none 0 0,.slice none 0 0,.bool false,.int .i64 0,.int .i64 0,.int .i64 0,.string ⟨#[]⟩,.slice none 0 0,.int .i64 0] 84)).setCells w1.heap.size 0 (ndV y yy))):=HU1.out.on hbR
    have HP2:Hid (BoxW ((w1.alloc (.cells #[.int .i64 0,.int .i64 0,.int .i64 0,.int .i64 0,.int .i64 0,.int .i64 0,.int .i64 0,.slice none 0 0,.slice none 0 0,.bool false,.int .i64 0,.bool false,.int .i64 0,.int .i64 0,.int .i64 0,.slice none 0 0,.slice none 0 0,.bool false,.int .i64 0,.int .i64 0,.int .i64 0,.string ⟨#[]⟩,.slice none 0 0,.int .i64 0] 84)).setCells w1.heap.size 0 (ndV y yy)) P [.slice (some ⟨tb,tf,none⟩) len cap,.int .i64 now,.int .i64 u,.int .i64 g,.slice ca cl cc,.bool r,.int .i64 s.at_,.int .i64 s.at_,.string p,.slice (some ⟨b,off,none⟩) ps.length pc,.bool sl,.int .i64 s.lk]):=HP1.out.below hbR
    have HR2:Hid (RowB ((w1.alloc (.cells #[.int .i64 0,.int .i64 0,.int .i64 0,.int .i64 0,.int .i64 0,.int .i64 0,.int .i64 0,.slice none 0 0,.slice none 0 0,.bool false,.int .i64 0,.bool false,.int .i64 0,.int .i64 0,.int .i64 0,.slice none 0 0,.slice none 0 0,.bool false,.int .i64 0,.int .i64 0,.int .i64 0,.string ⟨#[]⟩,.slice none 0 0,.int .i64 0] 84)).setCells w1.heap.size 0 (ndV y yy)) b off ps):=HR1.out.below hbR
    have HZ2:Hid (BoxR ((w1.alloc (.cells #[.int .i64 0,.int .i64 0,.int .i64 0,.int .i64 0,.int .i64 0,.int .i64 0,.int .i64 0,.slice none 0 0,.slice none 0 0,.bool false,.int .i64 0,.bool false,.int .i64 0,.int .i64 0,.int .i64 0,.slice none 0 0,.slice none 0 0,.bool false,.int .i64 0,.int .i64 0,.int .i64 0,.string ⟨#[]⟩,.slice none 0 0,.int .i64 0] 84)).setCells w1.heap.size 0 (ndV y yy)) w1.heap.size (ndV y yy)):=⟨by rw [size_setCellsT];simp,World.rangeAt_setCells_same _ _ _ _ ((boxW_new w1 [.int .i64 0,.int .i64 0,.int .i64 0,.int .i64 0,.int .i64 0,.int .i64 0,.int .i64 0,.slice none 0 0,.slice none 0 0,.bool false,.int .i64 0,.bool false,.int .i64 0,.int .i64 0,.int .i64 0,.slice none 0 0,.slice none 0 0,.bool false,.int .i64 0,.int .i64 0,.int .i64 0,.string ⟨#[]⟩,.slice none 0 0,.int .i64 0] 84).there 0 24 (by simp))⟩
    have HZP:Hid (P<w1.heap.size):=HP1.out.lt
    clear hbR
    go_upto_region 9 with (first | (refine wpList_load_mid (by rfl) 84 _ (by rfl) _ _ (by rfl) _ _ HNy.out Tryz.underlying84 rfl (by kernel_rfl) ?_) | (refine wpList_store_list (by rfl) 84 _ _ (by rfl) _ _ (ndV y yy) (by rfl) (by rfl) ((boxW_new w1 [.int .i64 0,.int .i64 0,.int .i64 0,.int .i64 0,.int .i64 0,.int .i64 0,.int .i64 0,.slice none 0 0,.slice none 0 0,.bool false,.int .i64 0,.bool false,.int .i64 0,.int .i64 0,.int .i64 0,.slice none 0 0,.slice none 0 0,.bool false,.int .i64 0,.int .i64 0,.int .i64 0,.string ⟨#[]⟩,.slice none 0 0,.int .i64 0] 84).there 0 24 (by simp)) (by kernel_rfl) (ndV_ones _ _) ?_))
    simp only [Act.put]
    generalize ((w1.alloc (.cells #[.int .i64 0,.int .i64 0,.int .i64 0,.int .i64 0,.int .i64 0,.int .i64 0,.int .i64 0,.slice none 0 0,.slice none 0 0,.bool false,.int .i64 0,.bool false,.int .i64 0,.int .i64 0,.int .i64 0,.slice none 0 0,.slice none 0 0,.bool false,.int .i64 0,.int .i64 0,.int .i64 0,.string ⟨#[]⟩,.slice none 0 0,.int .i64 0] 84)).setCells w1.heap.size 0 (ndV y yy))=w2 at HU2 HP2 HR2 HZ2 ⊢
    generalize w1.heap.size=Z at HZ2 HZP ⊢
    clear p0 p1 p2 p3 p4 p5 p6 p7 p8 p9 p10 p11 fz HU1 HP1 HR1 HNy
    have p0:w2.cell? ⟨P,0,none⟩=some (.slice (some ⟨tb,tf,none⟩) len cap):=HP2.out.at0 0 _ rfl
    have p1:w2.cell? ⟨P,1,none⟩=some (.int .i64 now):=HP2.out.at0 1 _ rfl
    have p2:w2.cell? ⟨P,2,none⟩=some (.int .i64 u):=HP2.out.at0 2 _ rfl
    have p3:w2.cell? ⟨P,3,none⟩=some (.int .i64 g):=HP2.out.at0 3 _ rfl
    have p4:w2.cell? ⟨P,4,none⟩=some (.slice ca cl cc):=HP2.out.at0 4 _ rfl
    have p5:w2.cell? ⟨P,5,none⟩=some (.bool r):=HP2.out.at0 5 _ rfl
    have p6:w2.cell? ⟨P,6,none⟩=some (.int .i64 s.at_):=HP2.out.at0 6 _ rfl
    have p7:w2.cell? ⟨P,7,none⟩=some (.int .i64 s.at_):=HP2.out.at0 7 _ rfl
    have p8:w2.cell? ⟨P,8,none⟩=some (.string p):=HP2.out.at0 8 _ rfl
    have p9:w2.cell? ⟨P,9,none⟩=some (.slice (some ⟨b,off,none⟩) ps.length pc):=HP2.out.at0 9 _ rfl
    have p10:w2.cell? ⟨P,10,none⟩=some (.bool sl):=HP2.out.at0 10 _ rfl
    have p11:w2.cell? ⟨P,11,none⟩=some (.int .i64 s.lk):=HP2.out.at0 11 _ rfl
    have fz:=HP2.out.frz
    have z0:=NB.c0 HZ2.out
    have z21:=NB.c21 HZ2.out
    have hpn:ps.isEmpty=true∧(ps.length:Int)=0∨ps.isEmpty=false∧(0:Int)<(ps.length:Int):=by
      cases ps with
      | nil=>exact .inl ⟨rfl,rfl⟩
      | cons q qs=>exact .inr ⟨rfl,by simp⟩
    go_cut [62] (fun t wx=>t=.bool (!(y.k==3&&((fo||sl)||!ps.isEmpty)))∧wx=w2)
    case first =>
      cases q3:(y.k==3)
      · have q3n : (y.k != 3) = true := by rw [bne, q3]; rfl
        go_wp2
        go_meet
        exact ⟨by rw [q3];rfl,rfl⟩
      · have q3n : (y.k != 3) = false := by rw [bne, q3]; rfl
        rcases hpn with ⟨he,hz⟩ | ⟨he,hz⟩
        · have hz2 : ((ps.length : Int) == 0) = true := by simp [hz]
          cases fo<;>cases sl
          all_goals go_wp2
          all_goals go_meet
          all_goals exact ⟨by rw [q3,he];rfl,rfl⟩
        · have hz2 : ((ps.length : Int) == 0) = false := beq_eq_false_iff_ne.2 (by omega)
          go_wp2
          go_meet
          exact ⟨by rw [q3,he];simp,rfl⟩
    case rest =>
    obtain ⟨rfl,hwc⟩:=hcut
    subst hwc
    cases q3:(y.k==3&&((fo||sl)||!ps.isEmpty))
    · have HW : Hid (went l (fo || sl) s p ps ((j : Int) + 1) = (0, ⟨(j : Int) + 1, s.at_, p, ps, s.lk⟩)) := (by show _ = _; rw [HW0.out, q3]; rfl)
      have HP3:Hid (BoxW (wc.setCell ⟨P,6,none⟩ (.int .i64 ((j:Int)+1))) P [.slice (some ⟨tb,tf,none⟩) len cap,.int .i64 now,.int .i64 u,.int .i64 g,.slice ca cl cc,.bool r,.int .i64 ((j:Int)+1),.int .i64 s.at_,.string p,.slice (some ⟨b,off,none⟩) ps.length pc,.bool sl,.int .i64 s.lk]):=HP2.out.set 6 (by simp) (.int .i64 ((j:Int)+1))
      have HU3:Hid (ButS (some ⟨P,0,none⟩) w (wc.setCell ⟨P,6,none⟩ (.int .i64 ((j:Int)+1)))):=HU2.out.set
      have HR3:Hid (RowB (wc.setCell ⟨P,6,none⟩ (.int .i64 ((j:Int)+1))) b off ps):=HR2.out.but (ButS.refl (some ⟨P,0,none⟩) _).set (fun A e=>by cases e;exact HPne.out.1)
      clear HW0 HB40
      go_wp2
      go_ret
      refine ⟨by rw [HW.out];rfl,HU3.out,fun _=>?_⟩
      rw [HW.out]
      exact ⟨s.at_,some ⟨b,off,none⟩,pc,⟨HP3.out,fun _=>⟨b,off,rfl,HPne.out.1,HR3.out⟩,HPne.out.2.1⟩,fun _=>rfl⟩
    · have hk3 : (y.k == 3) = true := by simp only [Bool.and_eq_true] at q3; exact q3.1
      have h40:=HB40.out hk3
      have hlki:(s.lk:Int)≤8:=by omega
      have HP3:Hid (BoxW (wc.setCell ⟨P,11,none⟩ (.int .i64 ((s.lk:Int)+1))) P [.slice (some ⟨tb,tf,none⟩) len cap,.int .i64 now,.int .i64 u,.int .i64 g,.slice ca cl cc,.bool r,.int .i64 s.at_,.int .i64 s.at_,.string p,.slice (some ⟨b,off,none⟩) ps.length pc,.bool sl,.int .i64 ((s.lk:Int)+1)]):=HP2.out.set 11 (by simp) (.int .i64 ((s.lk:Int)+1))
      have HU3:Hid (ButS (some ⟨P,0,none⟩) w (wc.setCell ⟨P,11,none⟩ (.int .i64 ((s.lk:Int)+1)))):=HU2.out.set
      have HR3:Hid (RowB (wc.setCell ⟨P,11,none⟩ (.int .i64 ((s.lk:Int)+1))) b off ps):=HR2.out.but (ButS.refl (some ⟨P,0,none⟩) _).set (fun A e=>by cases e;exact HPne.out.1)
      have HZ3:Hid (BoxR (wc.setCell ⟨P,11,none⟩ (.int .i64 ((s.lk:Int)+1))) Z (ndV y yy)):=HZ2.out.other (by have:=HZP.out;omega)
      go_upto_region 13 with fail
      generalize wc.setCell ⟨P,11,none⟩ (.int .i64 ((s.lk:Int)+1))=w3 at HP3 HU3 HR3 HZ3 ⊢
      clear p0 p1 p2 p3 p4 p5 p6 p7 p8 p9 p10 p11 fz z0 z21 HU2 HP2 HR2 HZ2
      have p0:w3.cell? ⟨P,0,none⟩=some (.slice (some ⟨tb,tf,none⟩) len cap):=HP3.out.at0 0 _ rfl
      have p1:w3.cell? ⟨P,1,none⟩=some (.int .i64 now):=HP3.out.at0 1 _ rfl
      have p2:w3.cell? ⟨P,2,none⟩=some (.int .i64 u):=HP3.out.at0 2 _ rfl
      have p3:w3.cell? ⟨P,3,none⟩=some (.int .i64 g):=HP3.out.at0 3 _ rfl
      have p4:w3.cell? ⟨P,4,none⟩=some (.slice ca cl cc):=HP3.out.at0 4 _ rfl
      have p5:w3.cell? ⟨P,5,none⟩=some (.bool r):=HP3.out.at0 5 _ rfl
      have p6:w3.cell? ⟨P,6,none⟩=some (.int .i64 s.at_):=HP3.out.at0 6 _ rfl
      have p7:w3.cell? ⟨P,7,none⟩=some (.int .i64 s.at_):=HP3.out.at0 7 _ rfl
      have p8:w3.cell? ⟨P,8,none⟩=some (.string p):=HP3.out.at0 8 _ rfl
      have p9:w3.cell? ⟨P,9,none⟩=some (.slice (some ⟨b,off,none⟩) ps.length pc):=HP3.out.at0 9 _ rfl
      have p10:w3.cell? ⟨P,10,none⟩=some (.bool sl):=HP3.out.at0 10 _ rfl
      have p11:w3.cell? ⟨P,11,none⟩=some (.int .i64 ((s.lk:Int)+1)):=HP3.out.at0 11 _ rfl
      have fz:=HP3.out.frz
      have z21:=NB.c21 HZ3.out
      by_cases h8:8≤s.lk
      · have HW : Hid ((went l (fo || sl) s p ps ((j : Int) + 1)).1 = 14) := (by show _ = _; rw [HW0.out, q3, if_pos h8]; rfl)
        have h8':(8:Int)<(s.lk:Int)+1:=by omega
        go_wp2
        go_ret
        refine ⟨by rw [HW.out];rfl,HU3.out,fun h=>?_⟩
        rw [HW.out] at h
        exact absurd h (by decide)
      · have HW1 : Hid (went l (fo || sl) s p ps ((j : Int) + 1) = (if firB y.bo then (0, ⟨1, 1, emp, pbo y.bo ++ ps, s.lk + 1⟩) else (0, ⟨s.at_, s.at_, emp, pbo y.bo ++ ps, s.lk + 1⟩))) := (by show _ = _; rw [HW0.out, q3, if_neg h8]; rfl)
        have h8':¬ (8:Int)<(s.lk:Int)+1:=by omega
        obtain ⟨hb1,hb2⟩:=signs_len h40
        have HSp:Hid (∀ w,Calls Tryz.prog 111 #[.string y.bo] w fun e w'=>∃ v,e=.returned v∧w'.ownsRow w.heap.size 9 1 v (pbo y.bo).length (tv (pbo y.bo))∧Below w.heap.size w w'):=(fun w=>sSplit9_any y.bo (by omega) w)
        have hpbl:=pbo_len y.bo
        have HPl:Hid ((pbo y.bo).length+ps.length≤100000):=(by show _≤_;omega)
        have hb0:0<y.bo.size:=hb1
        have hb1':(0:Int)<(y.bo.size:Int):=by omega
        have hq:(((y.bo[0]'hb0).toNat:Int)==47)=firB y.bo:=by rw [firB,bt,dif_pos hb0]
        have HQ:Hid ((((y.bo[0]'hb0).toNat:Int)==47)=firB y.bo):=hq
        clear hq
        go_upto_region 15 with fail
        generalize pbo y.bo=pb at HSp HPl HW1 hpbl
        go_region_law (first
          | (refine step_append_run rfl (.tmp 83) (.tmp 87) 50 rfl v4 (.slice (some ⟨b,off,none⟩) ps.length pc) (.slice a5 qs.length c5) w5 (by simp [Act.eval]) (by simp [Act.eval]) HRR.out ?_)
          | (go_simp;go_at_call 111;refine (HSp.out _).mono ?_;rintro e w4 ⟨v4,rfl,hv4,hb4⟩;have hb4':Below w3.heap.size w3 w4:=⟨hb4.os,hb4.tape,hb4.output,hb4.size,hb4.block⟩;have HP4:Hid (BoxW w4 P [.slice (some ⟨tb,tf,none⟩) len cap,.int .i64 now,.int .i64 u,.int .i64 g,.slice ca cl cc,.bool r,.int .i64 s.at_,.int .i64 s.at_,.string p,.slice (some ⟨b,off,none⟩) ps.length pc,.bool sl,.int .i64 ((s.lk:Int)+1)]):=HP3.out.below hb4';have HR4:Hid (RowB w4 b off ps):=HR3.out.below hb4';have HU4:Hid (ButS (some ⟨P,0,none⟩) w w4):=HU3.out.on hb4';have HZ4:Hid (BoxR w4 Z (ndV y yy)):=HZ3.out.below hb4';have g9:w4.cell? ⟨P,9,none⟩=some (.slice (some ⟨b,off,none⟩) ps.length pc):=HP4.out.at0 9 _ rfl;obtain ⟨v5,w5,hr5,hO5,hB5,-,hgr5⟩:=append_row w3 w4 v4 pb ps hv4 hb4' b off pc HR4.out HPl.out;obtain ⟨qs,hqs⟩:∃ qs,qs=pb++ps:=⟨_,rfl⟩;rw [←hqs] at hO5;have HQS:Hid (qs=pb++ps):=hqs;clear hqs;have HP5:Hid (BoxW w5 P [.slice (some ⟨tb,tf,none⟩) len cap,.int .i64 now,.int .i64 u,.int .i64 g,.slice ca cl cc,.bool r,.int .i64 s.at_,.int .i64 s.at_,.string p,.slice (some ⟨b,off,none⟩) ps.length pc,.bool sl,.int .i64 ((s.lk:Int)+1)]):=HP3.out.below hB5;have HU5:Hid (ButS (some ⟨P,0,none⟩) w w5):=HU3.out.on hB5;have HZ5:Hid (BoxR w5 Z (ndV y yy)):=HZ3.out.below hB5;obtain ⟨a5,c5,hv5,hac5,hrg5⟩:=own_rowG (P:=P) hO5 HP3.out.lt;subst hv5;have HRR:Hid ((Builtin.append_ #[50,50] 50 #[v4,.slice (some ⟨b,off,none⟩) ps.length pc]).run Tryz.prog w4=.ok (.slice a5 qs.length c5) w5):=hr5;have HG5:Hid (RowG w5 P a5 qs):=hrg5;have HC5:Hid (qs.length≤c5):=hac5;have k9:w5.cell? ⟨P,9,none⟩=some (.slice (some ⟨b,off,none⟩) ps.length pc):=HP5.out.at0 9 _ rfl;have k9f:w5.frozen? ⟨P,9,none⟩=false:=HP5.out.frz 9;clear hv4 hb4 hb4' hr5 hO5 hB5 hgr5 hac5 hrg5))
        all_goals
          have HP7:Hid (BoxW ((w5.setCell ⟨P,9,none⟩ (.slice a5 qs.length c5)).setCell ⟨P,8,none⟩ (.string ⟨#[]⟩)) P [.slice (some ⟨tb,tf,none⟩) len cap,.int .i64 now,.int .i64 u,.int .i64 g,.slice ca cl cc,.bool r,.int .i64 s.at_,.int .i64 s.at_,.string ⟨#[]⟩,.slice a5 qs.length c5,.bool sl,.int .i64 ((s.lk:Int)+1)]):=(HP5.out.set 9 (by simp) (.slice a5 qs.length c5)).set 8 (by simp) (.string ⟨#[]⟩)
          have HU7:Hid (ButS (some ⟨P,0,none⟩) w ((w5.setCell ⟨P,9,none⟩ (.slice a5 qs.length c5)).setCell ⟨P,8,none⟩ (.string ⟨#[]⟩))):=HU5.out.set.set
          have HG7:Hid (RowG ((w5.setCell ⟨P,9,none⟩ (.slice a5 qs.length c5)).setCell ⟨P,8,none⟩ (.string ⟨#[]⟩)) P a5 qs):=HG5.out.but (ButS.refl _ _).set.set
          have HZ7:Hid (BoxR ((w5.setCell ⟨P,9,none⟩ (.slice a5 qs.length c5)).setCell ⟨P,8,none⟩ (.string ⟨#[]⟩)) Z (ndV y yy)):=(HZ5.out.other (by have:=HZP.out;omega)).other (by have:=HZP.out;omega)
          have fz5:∀ o,w5.frozen? ⟨P,o,none⟩=false:=HP5.out.frz
          have k8:w5.cell? ⟨P,8,none⟩=some (.string p):=HP5.out.at0 8 _ rfl
          clear p0 p1 p2 p3 p4 p5 p6 p7 p8 p9 p10 p11 fz z21 g9
          go_upto_region 17 with fail
          generalize ((w5.setCell ⟨P,9,none⟩ (.slice a5 qs.length c5)).setCell ⟨P,8,none⟩ (.string ⟨#[]⟩))=w7 at HP7 HU7 HG7 HZ7 ⊢
          clear k8 k9 k9f fz5 HP5 HU5 HG5 HZ5 HP4 HR4 HU4 HZ4 HP3 HR3 HU3 HZ3 HRR HSp
          have z21:=NB.c21 HZ7.out
          have p6:w7.cell? ⟨P,6,none⟩=some (.int .i64 s.at_):=HP7.out.at0 6 _ rfl
          have fz:=HP7.out.frz
          have hq:=HQ.out
          have hlk1:((s.lk+1:Nat):Int)=(s.lk:Int)+1:=by omega
          cases hf:firB y.bo
          · have HW : Hid (went l (fo || sl) s p ps ((j : Int) + 1) = (0, ⟨s.at_, s.at_, emp, qs, s.lk + 1⟩)) := (by show _ = _; rw [HW1.out, hf, HQS.out]; rfl)
            rw [hf] at hq
            clear HW1 HQ HW0 hlk1
            go_wp2
            go_ret
            refine ⟨by rw [HW.out];rfl,HU7.out,fun _=>?_⟩
            rw [HW.out]
            exact ⟨s.at_,a5,c5,⟨HP7.out,HG7.out,HC5.out⟩,fun h=>absurd emp_nil h⟩
          · have HW : Hid (went l (fo || sl) s p ps ((j : Int) + 1) = (0, ⟨1, 1, emp, qs, s.lk + 1⟩)) := (by show _ = _; rw [HW1.out, hf, HQS.out]; rfl)
            rw [hf] at hq
            have HP8:Hid (BoxW (w7.setCell ⟨P,6,none⟩ (.int .i64 1)) P [.slice (some ⟨tb,tf,none⟩) len cap,.int .i64 now,.int .i64 u,.int .i64 g,.slice ca cl cc,.bool r,.int .i64 1,.int .i64 s.at_,.string ⟨#[]⟩,.slice a5 qs.length c5,.bool sl,.int .i64 ((s.lk:Int)+1)]):=HP7.out.set 6 (by simp) (.int .i64 1)
            have HU8:Hid (ButS (some ⟨P,0,none⟩) w (w7.setCell ⟨P,6,none⟩ (.int .i64 1))):=HU7.out.set
            have HG8:Hid (RowG (w7.setCell ⟨P,6,none⟩ (.int .i64 1)) P a5 qs):=HG7.out.but (ButS.refl _ _).set
            clear HW1 HQ HW0 hlk1
            go_wp2
            go_ret
            refine ⟨by rw [HW.out];rfl,HU8.out,fun _=>?_⟩
            rw [HW.out]
            exact ⟨s.at_,a5,c5,⟨HP8.out,HG8.out,HC5.out⟩,fun h=>absurd emp_nil h⟩
set_option maxRecDepth 100000 in
theorem append_zerosS (n:Nat)(h0:0<n)(h1:n≤1000000)(ty:TypeId)(w:World) :
    ∃ c w',(Builtin.append_ #[50,3] ty #[.slice none 0 0,.int .i64 n]).run Tryz.prog w=.ok (.slice (some ⟨w.heap.size,0,none⟩) n c) w'∧n≤c∧w'.ownsRow w.heap.size 9 1 (.slice (some ⟨w.heap.size,0,none⟩) 0 c) 0 []∧Below w.heap.size w w':=by
  obtain ⟨i,hi,hzz⟩:=Option.map_eq_some_iff.1 infoStr
  simp only [Prod.mk.injEq] at hzz
  obtain ⟨hz,hs,hb⟩:=hzz
  have hr:=Go.Lib.run_append_nil_zeros (P:=Tryz.prog) w 50 3 ty 9 i _ .i64 .i64 Tryz.underlying50 Tryz.underlying3 hi hz n h0 (by omega) (by omega) (by rw [hb];omega)
  have hge:=grownCap_ge w n 0 9
  have hcm:grownCap w n 0 9≤maxLen:=grownCap_le_maxLen w n 0 9 (by unfold maxLen;omega)
  refine ⟨_,_,hr,hge,?_,?_⟩
  · refine World.ownsRow_made w.drew _ _ (Nat.le_refl _) hcm ?_
    simp only [Array.size_append,size_zeroCells]
    rw [←Nat.add_mul]
    congr 1
    omega
  · exact Below.trans (b:=w.drew) ⟨rfl,rfl,rfl,Nat.le_refl _,fun _ _=>rfl⟩ (bel_alloc w.drew _)
set_option maxRecDepth 100000 in
set_option maxHeartbeats 2000000 in
theorem grow_nilS (n:Nat)(h1:n≤1000000)(w:World) :
    Calls Tryz.prog 172 #[.slice none 0 0,.int .i64 n] w fun e w'=>∃ v,e=.returned v∧w'.ownsRow w.heap.size 9 1 v 0 []∧Below w.heap.size w w':=by
  have d0:decide ((n:Int)<0)=false:=decide_eq_false (by omega)
  by_cases h0:n=0
  · subst h0
    go_enter Tryz.func172,Tryz.ntmps172
    go_wp2
    go_ret
    exact ⟨_,rfl,World.ownsRow_nil _ _ _ _,Below.refl _ _⟩
  · have hp : 0 < (n : Int) := by omega
    obtain ⟨c,w1,hr,hnc,hown,hbel⟩:=append_zerosS n (by omega) h1 50 w
    have hc0:(0:Int)≤(c:Int):=by omega
    have HO:Hid (w1.ownsRow w.heap.size 9 1 (.slice (some ⟨w.heap.size,0,none⟩) 0 c) 0 []):=hown
    have HB:Hid (Below w.heap.size w w1):=hbel
    clear h0 hown hbel
    go_enter Tryz.func172,Tryz.ntmps172
    go_wp2_with (at_builtin;refine wpList_append_runT _ rfl (.tmp 20) (.tmp 21) 50 3 rfl _ _ _ _ rfl rfl hr ?_)
    go_ret
    exact ⟨_,rfl,HO.out,HB.out⟩
def catS (ls:Nat→List ByteArray):Nat→List ByteArray
  | 0=>[]
  | k+1=>catS ls k++ls k
theorem catS_mono (ls:Nat→List ByteArray){j k:Nat}(h:j≤k):(catS ls j).length≤(catS ls k).length:=by
  induction k with
  | zero => have : j = 0 := by omega
            subst this;exact Nat.le_refl _
  | succ k ih =>
    by_cases e:j=k+1
    · subst e;exact Nat.le_refl _
    · have := ih (by omega)
      simp only [catS,List.length_append]
      omega
def RowZ (w:World) (a:Option Addr) (l:List ByteArray):Prop:=0<l.length→∃ b off,a=some ⟨b,off,none⟩∧RowB w b off l
theorem RowZ.below {w w':World}{a:Option Addr}{l:List ByteArray}(h:RowZ w a l)(hb:Below w.heap.size w w'):RowZ w' a l:=by
  intro hl
  obtain ⟨b,off,ha,hr⟩:=h hl
  exact ⟨b,off,ha,hr.below hb⟩
theorem run_append_txs (w:World)(base:Nat)(v:Value)(acc:List ByteArray)(hown:w.ownsRow base 9 1 v acc.length (tv acc))(a:Option Addr)(cap:Nat)(l:List ByteArray)(hp:RowZ w a l)(hsm:acc.length+l.length≤1000000)(hbase:base≤w.heap.size) :
    ∃ v' w',(Builtin.append_ #[50,50] 50 #[v,.slice a l.length cap]).run Tryz.prog w=.ok v' w'∧w'.ownsRow base 9 1 v' (acc++l).length (tv (acc++l))∧w.grownBy w' v.ownBlock:=by
  obtain ⟨i,hi,hzz⟩:=Option.map_eq_some_iff.1 infoStr
  simp only [Prod.mk.injEq] at hzz
  obtain ⟨hz,hs,hb⟩:=hzz
  have ht:=Tryz.underlying50
  by_cases h0:l.length=0
  · have hl : l = [] := List.eq_nil_of_length_eq_zero h0
    subst hl
    rw [List.append_nil]
    have hsrc:Src Tryz.prog i.size 50 (.slice a 0 cap) 0 [] w:=by
      cases a with
      | none=>exact Src.ofNil w ht cap
      | some a=>exact Src.ofSlice w ht a 0 cap [] (by simp) (fun j u h=>by simp at h) (fun u h=>by cases h)
    have hv:∃ b n c,v=.slice b n c∧n≤c:=by
      obtain ⟨_,⟨rfl,hn⟩ | ⟨g,c,cur,rfl,_,_,hc,_⟩⟩:=hown
      · exact ⟨none,0,0,rfl,Nat.le_refl _⟩
      · exact ⟨_,_,_,rfl,hc⟩
    obtain ⟨b,n,c,rfl,hnc⟩:=hv
    exact ⟨_,w,run_append_nothing w 50 50 50 9 i ht hi b n c hnc _ hsrc,hown,⟨rfl,rfl,rfl,Nat.le_refl _,fun _ _ _=>rfl⟩⟩
  · obtain ⟨b, off, rfl, hk⟩ := hp (by omega)
    have hnw:∀ j u,(tv l)[j]?=some u→w.cell? ((⟨b,off,none⟩:Addr).add j)=some u:=by
      intro j u hj
      simp only [tv,List.getElem?_map,Option.map_eq_some_iff] at hj
      obtain ⟨x,hx,rfl⟩:=hj
      have h:=hk.2 j x hx
      have ea:((⟨b,off,none⟩:Addr).add j)=⟨b,off+j,none⟩:=by
        rw [Addr.add]
        split
        · rename_i e;rw [e];rfl
        · rfl
      rw [ea]
      exact h
    obtain ⟨v',w',hr,h1,h2,_⟩:=run_append_own (P:=Tryz.prog) _ base 50 50 9 i _ 1 16 ht hi hz hs hb rfl (by decide) v acc.length (tv acc) hown ⟨b,off,none⟩ l.length cap (tv l) (by rw [tv_len,Nat.mul_one]) hnw (tv_one l) (by unfold maxLen;omega) (by omega) hbase
    refine ⟨v',w',hr,?_,h2⟩
    rw [tv_app,List.length_append]
    exact h1
set_option maxRecDepth 100000 in
set_option maxHeartbeats 4000000 in
theorem concatS_any (A n:Nat)(cap:Nat)(ads:Nat→Option Addr)(cs:Nat→Nat)(ls:Nat→List ByteArray)(hn:n≤1000)(hN:(catS ls n).length≤1000000)(w:World)(hA:A<w.heap.size)
    (hc:∀ j,j<n→w.cell? ⟨A,j,none⟩=some (.slice (ads j) (ls j).length (cs j))∧RowZ w (ads j) (ls j)) :
    Calls Tryz.prog 129 #[.slice (some ⟨A,0,none⟩) n cap] w fun e w'=>∃ v,e=.returned v∧w'.ownsRow w.heap.size 9 1 v (catS ls n).length (tv (catS ls n))∧Below w.heap.size w w':=by
  have HC:Hid (∀ j,j<n→w.cell? ⟨A,j,none⟩=some (.slice (ads j) (ls j).length (cs j))∧RowZ w (ads j) (ls j)):=hc
  have HM:Hid (∀ k,k≤n→(catS ls k).length≤1000000):=(fun k hk=>Nat.le_trans (catS_mono ls hk) hN)
  clear hc
  go_enter Tryz.func129,Tryz.ntmps129
  go_wp2
  go_loop [3,11] (fun s i=>∃ k:Nat,k≤n∧i=.int .i64 k∧s=.int .i64 ((catS ls k).length:Nat)) (fun _ i=>n-(intOf i).toNat)
  case atStart=>exact ⟨0,Nat.zero_le _,rfl,rfl⟩
  case round =>
    obtain ⟨k,hk,rfl,rfl⟩:=hrel
    by_cases hlt:k<n
    · have hlt' : (k : Int) < (n : Int) := by omega
      obtain ⟨g0,_⟩:=HC.out k hlt
      have hm:=HM.out k hk
      have hm1:=HM.out (k+1) hlt
      have el:(catS ls (k+1)).length=(catS ls k).length+(ls k).length:=by simp [catS]
      have EL:Hid ((catS ls (k+1)).length=(catS ls k).length+(ls k).length):=el
      have hsum:((catS ls k).length:Int)+((ls k).length:Int)≤1000000:=by omega
      have d1:decide (((catS ls k).length:Int)+((ls k).length:Int)<0)=false:=decide_eq_false (by omega)
      clear el hm1
      go_wp2
      go_round
      case rel=>exact ⟨k+1,by omega,by go_num,by rw [EL.out];go_num⟩
      case measure=>simp [intOf];omega
    · have : k = n := by omega
      subst this
      have hm:=HM.out k hk
      go_wp2_with fail
      refine (grow_nilS (catS ls k).length hm _).mono ?_
      rintro e w1 ⟨v,rfl,hown,hb1⟩
      have HO:Hid (w1.ownsRow w.heap.size 9 1 v 0 []):=hown
      have HB1:Hid (Below w.heap.size w w1):=hb1
      clear hown hb1
      go_wp2
      go_loopw [6,27] (fun v i wr=>∃ j:Nat,j≤k∧i=.int .i64 j∧Hid (wr.ownsRow w.heap.size 9 1 v (catS ls j).length (tv (catS ls j)))∧Hid (Below w.heap.size w wr)) (fun _ i _=>k-(intOf i).toNat)
      case atStart=>exact ⟨0,Nat.zero_le _,rfl,HO,HB1⟩
      case round =>
        obtain ⟨j,hj,rfl,hO,hB⟩:=hrel
        by_cases hlt2:j<k
        · have hlt' : (j : Int) < (k : Int) := by omega
          obtain ⟨g0,hp⟩:=HC.out j hlt2
          have g1:wr.cell? ⟨A,j,none⟩=some (.slice (ads j) (ls j).length (cs j)):=(hB.out.cell (p:=⟨A,j,none⟩) hA).trans g0
          have hm1:=HM.out (j+1) hlt2
          have el:(catS ls (j+1)).length=(catS ls j).length+(ls j).length:=by simp [catS]
          obtain ⟨v2,w2,hr,hO2,hg2⟩:=run_append_txs wr w.heap.size u6 (catS ls j) hO.out (ads j) (cs j) (ls j) (hp.below hB.out) (by omega) hB.out.size
          have HO2:Hid (w2.ownsRow w.heap.size 9 1 v2 (catS ls (j+1)).length (tv (catS ls (j+1)))):=hO2
          have HB2:Hid (Below w.heap.size w w2):=hB.out.grown hg2 hB.out.size (own_blockT hO.out)
          clear el hm1 hO2 hg2 g0 hp hO hB HO HB1
          go_wp2_with (at_builtin;refine wpList_append_runT _ rfl (.tmp 31) (.tmp 32) 50 50 rfl _ _ _ _ rfl rfl hr ?_)
          go_roundw
          case rel=>exact ⟨j+1,by omega,by go_num,HO2,HB2⟩
          case measure=>simp [intOf];omega
        · have : j = k := by omega
          subst this
          go_wp2
          go_ret
          exact ⟨_,rfl,hO.out,hB.out⟩
end Go.Proofs.YtabfdidnjibdeaaGreatDoor
