/- Laid together: PpU, WkI3, WkI4, WkI5. -/
import Derived.Test.YtabfdidnjibdeaaGreatDoorBR35
import Derived.Test.YtabfdidnjibdeaaGreatDoorBR31
import Derived.Test.YtabfdidnjibdeaaGreatDoorBR30
namespace Go.Proofs.YtabfdidnjibdeaaGreatDoor
open Go.RowKit Go.PlainAid Go.Deep
set_option linter.unusedVariables false
set_option maxHeartbeats 8000000 in
theorem iPathParts_any (s:ByteArray)(m:Int)(hs:s.size≤1048576)(w:World)(hm:w.cell? ⟨4,0,none⟩=some (.int .i64 m)) :
    Calls Tryz.prog 40 #[.string s] w fun e w'=>PpEnd w s e w':=by
  have hmx:s.size≤maxLen:=by unfold maxLen;omega
  have hlt:=block_lt_of_cell hm
  have HSg:Hid (∀ w,Calls Tryz.prog 75 #[.string s,.int .i64 60] w fun e w'=>e=.returned (.bool (signsB s 60))∧w'=w):=(fun w=>iSigns_any s 60 (by omega) hmx w)
  have HPr:Hid (∀ w,Calls Tryz.prog 76 #[.string s,.string ⟨#[47]⟩] w fun e w'=>e=.returned (.bool (Lib.hasPrefix s.data.toList [47]))∧w'=w):=(fun w=>Tryz.strings_HasPrefix s ⟨#[47]⟩ w)
  have HSu:Hid (∀ w,Calls Tryz.prog 80 #[.string s,.string ⟨#[47]⟩] w fun e w'=>e=.returned (.bool (Lib.hasSuffix s.data.toList [47]))∧w'=w):=(fun w=>Tryz.strings_HasSuffix s ⟨#[47]⟩ w (by omega))
  have HSp:Hid (s.size≤60→∀ w',Below w.heap.size w w'→Calls Tryz.prog 77 #[.string s] w' fun e w''=>∃ v,e=.returned v∧w''.ownsRow w'.heap.size 9 1 v (bts (prt s.data.toList)).length (tv (bts (prt s.data.toList)))∧Below w'.heap.size w' w''):=(fun h w' hb=>iParts_any s m (by omega) w' ((hb.cell (p:=⟨_,0,none⟩) hlt).trans hm))
  clear hmx hm hlt
  have HB:Hid (Below w.heap.size w (w.alloc (.cells #[.slice none 0 0,.bool false,.int .i64 0] 66))):=bel_alloc _ _
  have HX:Hid (BoxW (w.alloc (.cells #[.slice none 0 0,.bool false,.int .i64 0] 66)) w.heap.size [.slice none 0 0,.bool false,.int .i64 0]):=boxW_new w [.slice none 0 0,.bool false,.int .i64 0] 66
  go_enter Tryz.func40,Tryz.ntmps40
  go_upto_region 1 with fail
  generalize w.alloc (.cells #[.slice none 0 0,.bool false,.int .i64 0] 66)=w0 at HB HX ⊢
  obtain ⟨X,hX⟩:∃ X,X=w.heap.size:=⟨_,rfl⟩
  have HXw:Hid (w.heap.size≤X):=Nat.le_of_eq hX.symm
  rw [←hX] at HX ⊢
  clear hX
  have x0:w0.cell? ⟨X,0,none⟩=some (.slice none 0 0):=HX.out.at0 0 _ rfl
  have x1:w0.cell? ⟨X,1,none⟩=some (.bool false):=HX.out.at0 1 _ rfl
  have x2:w0.cell? ⟨X,2,none⟩=some (.int .i64 0):=HX.out.at0 2 _ rfl
  have fz:∀ o,w0.frozen? ⟨X,o,none⟩=false:=HX.out.frz
  by_cases h8:8000<s.size
  · have hC := ppC_size h8
    have h8':(8000:Int)<(s.size:Int):=by omega
    clear HSg
    go_wp2
    refine bodyPost_ret (v:=.agg #[.slice none 0 0,.bool false,.int .i64 2]) (by simp [results,Tryz.results40,go_sem,x0,x1,x2]) rfl ?_
    exact .inl ⟨by rw [hC];decide,by rw [hC],(by repeat (first | exact HB.out | refine bl_setT ?_ HXw.out))⟩
  have h8':¬ (8000:Int)<(s.size:Int):=by omega
  cases h6:signsB s 60
  · have hC := ppC_form h8 (by rw [h6]; rfl)
    rw [h6] at HSg
    clear h8
    go_wp2_with (go_at_call 75;refine (HSg.out _).mono ?_;rintro e w1 ⟨rfl,hw⟩;have hw2:=hw.symm;clear hw;subst hw2)
    refine bodyPost_ret (v:=.agg #[.slice none 0 0,.bool false,.int .i64 1]) (by simp [results,Tryz.results40,go_sem,x0,x1,x2]) rfl ?_
    exact .inl ⟨by rw [hC];decide,by rw [hC],(by repeat (first | exact HB.out | refine bl_setT ?_ HXw.out))⟩
  rw [h6] at HSg
  obtain ⟨hn1,hn2⟩:=signs_len h6
  rw [pre_fir hn1] at HPr
  rw [suf_las hn1] at HSu
  cases h7:firB s
  · have hC := ppC_form h8 (by rw [h6, h7]; rfl)
    rw [h7] at HPr
    clear h8 h6 h7
    go_wp2_with (first
      | (go_at_call 75;refine (HSg.out _).mono ?_;rintro e w1 ⟨rfl,hw⟩;have hw2:=hw.symm;clear hw;subst hw2)
      | (go_at_call 76;refine (HPr.out _).mono ?_;rintro e w1 ⟨rfl,hw⟩;have hw2:=hw.symm;clear hw;subst hw2))
    refine bodyPost_ret (v:=.agg #[.slice none 0 0,.bool false,.int .i64 1]) (by simp [results,Tryz.results40,go_sem,x0,x1,x2]) rfl ?_
    exact .inl ⟨by rw [hC];decide,by rw [hC],(by repeat (first | exact HB.out | refine bl_setT ?_ HXw.out))⟩
  rw [h7] at HPr
  have HCr:Hid (lng (prt s.data.toList)=true→ppC s=8):=(fun h=>ppC_range h8 (by rw [h6,h7];rfl) h)
  have HCo:Hid (lng (prt s.data.toList)=false→ppC s=0):=(fun h=>ppC_ok h8 (by rw [h6,h7];rfl) h)
  have hsp:=HSp.out hn2
  have HSq:Hid (∀ w',Below w.heap.size w w'→Calls Tryz.prog 77 #[.string s] w' fun e w''=>∃ v,e=.returned v∧w''.ownsRow w'.heap.size 9 1 v (bts (prt s.data.toList)).length (tv (bts (prt s.data.toList)))∧Below w'.heap.size w' w''):=hsp
  have hpl:(prt s.data.toList).length≤61:=by
    have h1:=prt_len s.data.toList
    have h2:s.data.toList.length=s.size:=(Lib.size_eq s).symm
    omega
  have HPE:Hid (∀ e w',(ppC s≠0∧e=.returned (.agg #[.slice none 0 0,.bool false,.int .i64 (ppC s)])∧Below w.heap.size w w')∨(ppC s=0∧∃ v,e=.returned (.agg #[v,.bool (lasB s),.int .i64 0])∧w'.ownsRow w.heap.size 9 1 v (bts (prt s.data.toList)).length (tv (bts (prt s.data.toList)))∧Below w.heap.size w w')→PpEnd w s e w'):=(fun e w' h=>h)
  generalize lasB s=lb at HSu HPE
  generalize prt s.data.toList=pp at HCr HCo HSq hpl HPE
  clear h8 h6 h7 hs hn1 hn2 HSp hsp
  go_upto_region 5 with (first
    | (go_at_call 75;refine (HSg.out _).mono ?_;rintro e w1 ⟨rfl,hw⟩;have hw2:=hw.symm;clear hw;subst hw2)
    | (go_at_call 76;refine (HPr.out _).mono ?_;rintro e w1 ⟨rfl,hw⟩;have hw2:=hw.symm;clear hw;subst hw2))
  go_wp2_with fail
  refine (HSq.out _ HB.out).mono ?_
  rintro e w1 ⟨v,rfl,hv,hb⟩
  have HB0:Hid (w.heap.size≤w0.heap.size):=HB.out.size
  have HXl:Hid (X<w0.heap.size):=HX.out.lt
  replace HB:Hid (Below w.heap.size w w1):=Below.on HB.out hb
  replace HX:Hid (BoxW w1 X [.slice none 0 0,.bool false,.int .i64 0]):=HX.out.below hb
  replace x0:w1.cell? ⟨X,0,none⟩=some (.slice none 0 0):=HX.out.at0 0 _ rfl
  replace x1:w1.cell? ⟨X,1,none⟩=some (.bool false):=HX.out.at0 1 _ rfl
  replace x2:w1.cell? ⟨X,2,none⟩=some (.int .i64 0):=HX.out.at0 2 _ rfl
  replace fz:∀ o,w1.frozen? ⟨X,o,none⟩=false:=HX.out.frz
  have HOw:Hid (w1.ownsRow w.heap.size 9 1 v (bts pp).length (tv (bts pp))):=row_base hv HB0.out
  have HNe:Hid (v.ownBlock≠some X):=(fun e=>by have h1:=own_blockT hv X e;have h2:=HXl.out;omega)
  obtain ⟨a,c,rfl,hac,hcell⟩:=own_rowS hv
  have HRw:Hid (RowS w1 a (bts pp)):=hcell
  have hbl:(bts pp).length=pp.length:=bts_len pp
  have HOw2:Hid (w1.ownsRow w.heap.size 9 1 (.slice a pp.length c) (bts pp).length (tv (bts pp))):=(by have h:=HOw.out;rw [hbl] at h;show World.ownsRow _ _ _ _ _ _ _;rw [hbl];exact h)
  rw [hbl] at HNe ⊢
  have HCt:Hid (Calls Tryz.prog 78 #[.slice a pp.length c,.func (.func 79) #[] #[]] w1 fun e w'=>e=.returned (.bool (lng pp))∧w'=w1):=ctLong_any a c pp (by omega) w1 HRw.out
  clear hv hb hcell hac HSq HSg HPr HB0 HRw
  cases hlg:lng pp
  · have hC : ppC s = 0 := HCo.out hlg
    rw [hlg] at HCt
    go_wp2_with (first
      | (go_at_call 78;refine (HCt.out).mono ?_;rintro e w1 ⟨rfl,hw⟩;have hw2:=hw.symm;clear hw;subst hw2)
      | (go_at_call 80;refine (HSu.out _).mono ?_;rintro e w1 ⟨rfl,hw⟩;have hw2:=hw.symm;clear hw;subst hw2))
    refine bodyPost_ret (v:=.agg #[.slice a pp.length c,.bool lb,.int .i64 0]) (by simp [results,Tryz.results40,go_sem,x0,x1,x2]) rfl ?_
    refine HPE.out _ _ (.inr ⟨hC,_,rfl,?_,(by repeat (first | exact HB.out | refine bl_setT ?_ HXw.out))⟩)
    exact row_set (row_set (row_set HOw2.out HNe.out) HNe.out) HNe.out
  · have hC : ppC s = 8 := HCr.out hlg
    rw [hlg] at HCt
    go_wp2_with (go_at_call 78;refine (HCt.out).mono ?_;rintro e w1 ⟨rfl,hw⟩;have hw2:=hw.symm;clear hw;subst hw2)
    refine bodyPost_ret (v:=.agg #[.slice none 0 0,.bool false,.int .i64 8]) (by simp [results,Tryz.results40,go_sem,x0,x1,x2]) rfl ?_
    exact HPE.out _ _ (.inl ⟨by rw [hC];decide,by rw [hC],(by repeat (first | exact HB.out | refine bl_setT ?_ HXw.out))⟩)
def ls2 (p q:List ByteArray):Nat→List ByteArray:=fun i=>if i=0 then p else q
theorem catS_two (p q:List ByteArray):catS (ls2 p q) 2=p++q:=by simp [catS,ls2]
theorem bl_drewL {B:Nat}{w w':World}(h:Below B w w'):Below B w w'.drew:=h.trans ⟨rfl,rfl,rfl,Nat.le_refl _,fun _ _=>rfl⟩
theorem own_rowZ {w:World}{B:Nat}{t:TypeId}{v:Value}{l:List ByteArray}(h:w.ownsRow B t 1 v l.length (tv l)):∃ a c,v=.slice a l.length c∧l.length≤c∧RowZ w a l:=by
  obtain ⟨a,c,hv,hc,hr⟩:=own_rowS h
  exact ⟨a,c,hv,hc,fun hl=>by obtain ⟨b,ha,hlt,hcell⟩:=hr hl;exact ⟨b,0,ha,hlt,hcell⟩⟩
theorem rowG_Z {w:World}{P:Nat}{a:Option Addr}{l:List ByteArray}(h:RowG w P a l):RowZ w a l:=fun hl=>by obtain ⟨b,off,ha,_,hr⟩:=h hl;exact ⟨b,off,ha,hr⟩
theorem cat_call (w:World)(a1 a2:Option Addr)(c1 c2:Nat)(p q:List ByteArray)(hn:p.length+q.length≤1000000)(h1:RowZ w a1 p)(h2:RowZ w a2 q) :
    Calls Tryz.prog 129 #[.slice (some ⟨w.heap.size,0,none⟩) 2 2] (w.alloc (.cells #[.slice a1 p.length c1,.slice a2 q.length c2] 50)) fun e w'=>∃ v,e=.returned v∧w'.ownsRow (w.alloc (.cells #[.slice a1 p.length c1,.slice a2 q.length c2] 50)).heap.size 9 1 v (catS (ls2 p q) 2).length (tv (catS (ls2 p q) 2))∧Below (w.alloc (.cells #[.slice a1 p.length c1,.slice a2 q.length c2] 50)).heap.size (w.alloc (.cells #[.slice a1 p.length c1,.slice a2 q.length c2] 50)) w':=by
  refine concatS_any w.heap.size 2 2 (fun i=>if i=0 then a1 else a2) (fun i=>if i=0 then c1 else c2) (ls2 p q) (by omega) (by rw [catS_two,List.length_append];exact hn) _ (by simp) ?_
  have hX:=boxR_new w [.slice a1 p.length c1,.slice a2 q.length c2] 50
  intro k hk
  match k,hk with
  | 0,_=>exact ⟨hX.at0 0 _ rfl,h1.below (bel_alloc _ _)⟩
  | 1,_=>exact ⟨hX.at0 1 _ rfl,h2.below (bel_alloc _ _)⟩
set_option maxRecDepth 20000 in
set_option maxHeartbeats 8000000 in
theorem iFollow_any (wb:World)(P:Nat)(tb tf len cap:Nat)(now:Int)(u g:Int)(ca:Option Addr)(cl cc:Nat)(r:Bool)(l:List Nd)(Y:Nat→Na)(j:Nat)(ps:List ByteArray)(pa:Option Addr)(pc:Nat)(sl th:Bool)(lk d:Int)(nm:ByteArray)(m:Int)(hl:len≤12)(hj:j<len)(hps:ps.length≤1000)(h40:signsB (ndAt l j).bo 40=true)
    (hm:wb.cell? ⟨4,0,none⟩=some (.int .i64 m)) (htb:tb<wb.heap.size) (hN:∀ i,i<len→N24 wb tb (tf+i*24) (ndAt l i) (Y i)) (w:World) (hB:Below wb.heap.size wb w) (hPb:wb.heap.size≤P) (hP:BoxW w P [.slice (some ⟨tb,tf,none⟩) len cap,.int .i64 now,.int .i64 u,.int .i64 g,.slice ca cl cc,.bool r,.slice pa ps.length pc,.bool sl,.bool th,.int .i64 lk,.int .i64 ((j:Int)+1),.int .i64 d,.string nm]) (hR:RowG w P pa ps) :
    Calls Tryz.prog 83 #[.pointer (some ⟨P,0,none⟩)] w fun e w'=>e=.returned (.tuple #[])∧(∃ a5 c5,BoxW w' P [.slice (some ⟨tb,tf,none⟩) len cap,.int .i64 now,.int .i64 u,.int .i64 g,.slice ca cl cc,.bool r,.slice a5 (pbo (ndAt l j).bo++ps).length c5,.bool sl,.bool th,.int .i64 lk,.int .i64 (if firB (ndAt l j).bo then 1 else d),.int .i64 (if firB (ndAt l j).bo then 1 else d),.string ⟨#[]⟩]∧RowG w' P a5 (pbo (ndAt l j).bo++ps)∧(pbo (ndAt l j).bo++ps).length≤c5)∧ButS (some ⟨P,0,none⟩) w w':=by
  have hml:=block_lt_of_cell hm
  obtain ⟨hb1,hb2⟩:=signs_len h40
  have HP:Hid (BoxW w P [.slice (some ⟨tb,tf,none⟩) len cap,.int .i64 now,.int .i64 u,.int .i64 g,.slice ca cl cc,.bool r,.slice pa ps.length pc,.bool sl,.bool th,.int .i64 lk,.int .i64 ((j:Int)+1),.int .i64 d,.string nm]):=hP
  have HR:Hid (RowG w P pa ps):=hR
  have HBw:Hid (Below wb.heap.size wb w):=hB
  have HPb:Hid (wb.heap.size≤P):=hPb
  have c21:=N24.c21 (range_below (hN j hj) htb hB)
  have HPo:Hid (∀ w',Below wb.heap.size wb w'→Calls Tryz.prog 77 #[.string (ndAt l j).bo] w' fun e w''=>∃ v,e=.returned v∧w''.ownsRow w'.heap.size 9 1 v (pbo (ndAt l j).bo).length (tv (pbo (ndAt l j).bo))∧Below w'.heap.size w' w''):=(fun w' hb=>iParts_any (ndAt l j).bo m (by omega) w' ((hb.cell (p:=⟨_,0,none⟩) hml).trans hm))
  have HPr:Hid (∀ w,Calls Tryz.prog 76 #[.string (ndAt l j).bo,.string ⟨#[47]⟩] w fun e w'=>e=.returned (.bool (firB (ndAt l j).bo))∧w'=w):=(fun w=>by rw [←pre_fir hb1];exact Tryz.strings_HasPrefix (ndAt l j).bo ⟨#[47]⟩ w)
  have hpbl:=pbo_len (ndAt l j).bo
  have hpb:(pbo (ndAt l j).bo).length≤41:=by omega
  obtain ⟨bg,hbg⟩:∃ bg:Int,bg=if firB (ndAt l j).bo then 1 else d:=⟨_,rfl⟩
  rw [←hbg]
  have HBg:Hid (bg=if firB (ndAt l j).bo then 1 else d):=hbg
  have hj1:(j:Int)<(len:Int):=by omega
  have hj0:(0:Int)≤(j:Int):=by omega
  clear hm hml htb hN hB hPb hP hR hb1 hb2 h40 hpbl hbg
  generalize (ndAt l j).bo=bo at c21 HPo HPr HBg hpb ⊢
  generalize pbo bo=pb at HPo hpb ⊢
  have p0:w.cell? ⟨P,0,none⟩=some (.slice (some ⟨tb,tf,none⟩) len cap):=HP.out.at0 0 _ rfl
  have p10:w.cell? ⟨P,10,none⟩=some (.int .i64 ((j:Int)+1)):=HP.out.at0 10 _ rfl
  go_enter Tryz.func83,Tryz.ntmps83
  have p11:w.cell? ⟨P,11,none⟩=some (.int .i64 d):=HP.out.at0 11 _ rfl
  go_wp2
  go_quiet (fail)
  cases hf:firB bo
  · have hbg : bg = d := (by rw [HBg.out, hf]; rfl)
    subst hbg
    rw [hf] at HPr
    clear HBg
    go_wp2_with (go_at_call 76;refine (HPr.out _).mono ?_;rintro e w1 ⟨rfl,hw⟩;have hw2:=hw.symm;clear hw;subst hw2)
    obtain ⟨wq,hwq⟩:∃ wq,wq=w.drewN nq:=⟨_,rfl⟩
    have HPq:Hid (BoxW wq P [.slice (some ⟨tb,tf,none⟩) len cap,.int .i64 now,.int .i64 u,.int .i64 g,.slice ca cl cc,.bool r,.slice pa ps.length pc,.bool sl,.bool th,.int .i64 lk,.int .i64 ((j:Int)+1),.int .i64 bg,.string nm]):=by rw [hwq];exact HP.out.below (bl_drewK (Below.refl _ _) _)
    have HBq:Hid (Below w.heap.size w wq):=by rw [hwq];exact bl_drewK (Below.refl _ _) _
    rw [←hwq]
    clear hwq
    refine (iStand_any P tb tf len cap now u g ca cl cc r pa ps.length pc sl th lk ((j:Int)+1) bg nm bg wq HPq.out).mono ?_
    rintro e w2 ⟨rfl,hP2,hu2⟩
    have HP2:Hid (BoxW w2 P [.slice (some ⟨tb,tf,none⟩) len cap,.int .i64 now,.int .i64 u,.int .i64 g,.slice ca cl cc,.bool r,.slice pa ps.length pc,.bool sl,.bool th,.int .i64 lk,.int .i64 bg,.int .i64 bg,.string ⟨#[]⟩]):=hP2
    have HU2:Hid (ButS (some ⟨P,0,none⟩) w w2):=ButS.upon HBq.out hu2
    have HR2:Hid (RowG w2 P pa ps):=HR.out.but HU2.out
    have HB2:Hid (Below wb.heap.size wb w2):=HBw.out.trans (HU2.out.below _ HBw.out.size (fun A e=>by cases e;exact HPb.out))
    clear hP2 hu2 p0 p10 p11 c21 HPr HP HR HBw HPq HBq
    have p6:w2.cell? ⟨P,6,none⟩=some (.slice pa ps.length pc):=HP2.out.at0 6 _ rfl
    have fz:=HP2.out.frz
    go_upto_region 5 with fail
    go_region_law (first
      | (go_simp;go_at_call 129;refine (HCc.out).mono ?_;rintro e w5 ⟨v5,rfl,hv5,hb5⟩;have hb5':Below w2.heap.size w2 w5:=Below.on HB4.out hb5;obtain ⟨qs,hqs⟩:∃ qs,qs=pb++ps:=⟨_,rfl⟩;rw [catS_two,←hqs] at hv5;have HQS:Hid (qs=pb++ps):=hqs;clear hqs;obtain ⟨a5,c5,hvv,hac5,hrg5⟩:=own_rowG (P:=P) hv5 HP5l.out;subst hvv;have HP5:Hid (BoxW w5 P [.slice (some ⟨tb,tf,none⟩) len cap,.int .i64 now,.int .i64 u,.int .i64 g,.slice ca cl cc,.bool r,.slice pa ps.length pc,.bool sl,.bool th,.int .i64 lk,.int .i64 bg,.int .i64 bg,.string ⟨#[]⟩]):=HP2.out.below hb5';have HU5:Hid (ButS (some ⟨P,0,none⟩) w w5):=HU2.out.on hb5';have HG5:Hid (RowG w5 P a5 qs):=hrg5;have HC5:Hid (qs.length≤c5):=hac5;have k6:w5.cell? ⟨P,6,none⟩=some (.slice pa ps.length pc):=HP5.out.at0 6 _ rfl;have k6f:w5.frozen? ⟨P,6,none⟩=false:=HP5.out.frz 6;clear hv5 hb5 hb5' hac5 hrg5)
      | (go_simp;go_at_call 77;refine (HPo.out _ (bl_drewL HB2.out)).mono ?_;rintro e w4 ⟨v4,rfl,hv4,hb4⟩;have hb4':Below w2.heap.size w2 w4:=⟨hb4.os,hb4.tape,hb4.output,hb4.size,hb4.block⟩;obtain ⟨a4,c4,hvv,hac4,hrz4⟩:=own_rowZ hv4;subst hvv;have HRp:Hid (RowG w4 P pa ps):=HR2.out.but (ButS.of hb4');have g6:w4.cell? ⟨P,6,none⟩=some (.slice pa ps.length pc):=(HP2.out.below hb4').at0 6 _ rfl;have HB4:Hid (Below w2.heap.size w2 (w4.alloc (.cells #[.slice a4 pb.length c4,.slice pa ps.length pc] 50))):=Below.on hb4' (bel_alloc _ _);have HP5l:Hid (P<(w4.alloc (.cells #[.slice a4 pb.length c4,.slice pa ps.length pc] 50)).heap.size):=((HP2.out.below HB4.out).lt);have HCc:Hid (Calls Tryz.prog 129 #[.slice (some ⟨w4.heap.size,0,none⟩) 2 2] (w4.alloc (.cells #[.slice a4 pb.length c4,.slice pa ps.length pc] 50)) fun e w'=>∃ v,e=.returned v∧w'.ownsRow (w4.alloc (.cells #[.slice a4 pb.length c4,.slice pa ps.length pc] 50)).heap.size 9 1 v (catS (ls2 pb ps) 2).length (tv (catS (ls2 pb ps) 2))∧Below (w4.alloc (.cells #[.slice a4 pb.length c4,.slice pa ps.length pc] 50)).heap.size (w4.alloc (.cells #[.slice a4 pb.length c4,.slice pa ps.length pc] 50)) w'):=cat_call w4 a4 pa c4 pc pb ps (by omega) hrz4 (rowG_Z HRp.out);clear hv4 hb4 hb4' hac4 hrz4 HRp))
    all_goals
      have HP6:Hid (BoxW (w5.setCell ⟨P,6,none⟩ (.slice a5 qs.length c5)) P [.slice (some ⟨tb,tf,none⟩) len cap,.int .i64 now,.int .i64 u,.int .i64 g,.slice ca cl cc,.bool r,.slice a5 qs.length c5,.bool sl,.bool th,.int .i64 lk,.int .i64 bg,.int .i64 bg,.string ⟨#[]⟩]):=HP5.out.set 6 (by simp) (.slice a5 qs.length c5)
      have HU6:Hid (ButS (some ⟨P,0,none⟩) w (w5.setCell ⟨P,6,none⟩ (.slice a5 qs.length c5))):=HU5.out.set
      have HG6:Hid (RowG (w5.setCell ⟨P,6,none⟩ (.slice a5 qs.length c5)) P a5 qs):=HG5.out.but (ButS.refl _ _).set
      clear fz p6
      go_wp2
      refine bodyPost_end (v:=.tuple #[]) (by simp [results,Tryz.results83]) rfl ⟨rfl,⟨a5,c5,?_,?_,?_⟩,HU6.out⟩
      · rw [←HQS.out];exact HP6.out
      · rw [←HQS.out];exact HG6.out
      · rw [←HQS.out];exact HC5.out
  · have hbg : bg = 1 := (by rw [HBg.out, hf]; rfl)
    subst hbg
    rw [hf] at HPr
    clear HBg
    go_wp2_with (go_at_call 76;refine (HPr.out _).mono ?_;rintro e w1 ⟨rfl,hw⟩;have hw2:=hw.symm;clear hw;subst hw2)
    obtain ⟨wq,hwq⟩:∃ wq,wq=w.drewN nq:=⟨_,rfl⟩
    have HPq:Hid (BoxW wq P [.slice (some ⟨tb,tf,none⟩) len cap,.int .i64 now,.int .i64 u,.int .i64 g,.slice ca cl cc,.bool r,.slice pa ps.length pc,.bool sl,.bool th,.int .i64 lk,.int .i64 ((j:Int)+1),.int .i64 d,.string nm]):=by rw [hwq];exact HP.out.below (bl_drewK (Below.refl _ _) _)
    have HBq:Hid (Below w.heap.size w wq):=by rw [hwq];exact bl_drewK (Below.refl _ _) _
    rw [←hwq]
    clear hwq
    refine (iStand_any P tb tf len cap now u g ca cl cc r pa ps.length pc sl th lk ((j:Int)+1) d nm 1 wq HPq.out).mono ?_
    rintro e w2 ⟨rfl,hP2,hu2⟩
    have HP2:Hid (BoxW w2 P [.slice (some ⟨tb,tf,none⟩) len cap,.int .i64 now,.int .i64 u,.int .i64 g,.slice ca cl cc,.bool r,.slice pa ps.length pc,.bool sl,.bool th,.int .i64 lk,.int .i64 1,.int .i64 1,.string ⟨#[]⟩]):=hP2
    have HU2:Hid (ButS (some ⟨P,0,none⟩) w w2):=ButS.upon HBq.out hu2
    have HR2:Hid (RowG w2 P pa ps):=HR.out.but HU2.out
    have HB2:Hid (Below wb.heap.size wb w2):=HBw.out.trans (HU2.out.below _ HBw.out.size (fun A e=>by cases e;exact HPb.out))
    clear hP2 hu2 p0 p10 p11 c21 HPr HP HR HBw HPq HBq
    have p6:w2.cell? ⟨P,6,none⟩=some (.slice pa ps.length pc):=HP2.out.at0 6 _ rfl
    have fz:=HP2.out.frz
    go_upto_region 5 with fail
    go_region_law (first
      | (go_simp;go_at_call 129;refine (HCc.out).mono ?_;rintro e w5 ⟨v5,rfl,hv5,hb5⟩;have hb5':Below w2.heap.size w2 w5:=Below.on HB4.out hb5;obtain ⟨qs,hqs⟩:∃ qs,qs=pb++ps:=⟨_,rfl⟩;rw [catS_two,←hqs] at hv5;have HQS:Hid (qs=pb++ps):=hqs;clear hqs;obtain ⟨a5,c5,hvv,hac5,hrg5⟩:=own_rowG (P:=P) hv5 HP5l.out;subst hvv;have HP5:Hid (BoxW w5 P [.slice (some ⟨tb,tf,none⟩) len cap,.int .i64 now,.int .i64 u,.int .i64 g,.slice ca cl cc,.bool r,.slice pa ps.length pc,.bool sl,.bool th,.int .i64 lk,.int .i64 1,.int .i64 1,.string ⟨#[]⟩]):=HP2.out.below hb5';have HU5:Hid (ButS (some ⟨P,0,none⟩) w w5):=HU2.out.on hb5';have HG5:Hid (RowG w5 P a5 qs):=hrg5;have HC5:Hid (qs.length≤c5):=hac5;have k6:w5.cell? ⟨P,6,none⟩=some (.slice pa ps.length pc):=HP5.out.at0 6 _ rfl;have k6f:w5.frozen? ⟨P,6,none⟩=false:=HP5.out.frz 6;clear hv5 hb5 hb5' hac5 hrg5)
      | (go_simp;go_at_call 77;refine (HPo.out _ (bl_drewL HB2.out)).mono ?_;rintro e w4 ⟨v4,rfl,hv4,hb4⟩;have hb4':Below w2.heap.size w2 w4:=⟨hb4.os,hb4.tape,hb4.output,hb4.size,hb4.block⟩;obtain ⟨a4,c4,hvv,hac4,hrz4⟩:=own_rowZ hv4;subst hvv;have HRp:Hid (RowG w4 P pa ps):=HR2.out.but (ButS.of hb4');have g6:w4.cell? ⟨P,6,none⟩=some (.slice pa ps.length pc):=(HP2.out.below hb4').at0 6 _ rfl;have HB4:Hid (Below w2.heap.size w2 (w4.alloc (.cells #[.slice a4 pb.length c4,.slice pa ps.length pc] 50))):=Below.on hb4' (bel_alloc _ _);have HP5l:Hid (P<(w4.alloc (.cells #[.slice a4 pb.length c4,.slice pa ps.length pc] 50)).heap.size):=((HP2.out.below HB4.out).lt);have HCc:Hid (Calls Tryz.prog 129 #[.slice (some ⟨w4.heap.size,0,none⟩) 2 2] (w4.alloc (.cells #[.slice a4 pb.length c4,.slice pa ps.length pc] 50)) fun e w'=>∃ v,e=.returned v∧w'.ownsRow (w4.alloc (.cells #[.slice a4 pb.length c4,.slice pa ps.length pc] 50)).heap.size 9 1 v (catS (ls2 pb ps) 2).length (tv (catS (ls2 pb ps) 2))∧Below (w4.alloc (.cells #[.slice a4 pb.length c4,.slice pa ps.length pc] 50)).heap.size (w4.alloc (.cells #[.slice a4 pb.length c4,.slice pa ps.length pc] 50)) w'):=cat_call w4 a4 pa c4 pc pb ps (by omega) hrz4 (rowG_Z HRp.out);clear hv4 hb4 hb4' hac4 hrz4 HRp))
    all_goals
      have HP6:Hid (BoxW (w5.setCell ⟨P,6,none⟩ (.slice a5 qs.length c5)) P [.slice (some ⟨tb,tf,none⟩) len cap,.int .i64 now,.int .i64 u,.int .i64 g,.slice ca cl cc,.bool r,.slice a5 qs.length c5,.bool sl,.bool th,.int .i64 lk,.int .i64 1,.int .i64 1,.string ⟨#[]⟩]):=HP5.out.set 6 (by simp) (.slice a5 qs.length c5)
      have HU6:Hid (ButS (some ⟨P,0,none⟩) w (w5.setCell ⟨P,6,none⟩ (.slice a5 qs.length c5))):=HU5.out.set
      have HG6:Hid (RowG (w5.setCell ⟨P,6,none⟩ (.slice a5 qs.length c5)) P a5 qs):=HG5.out.but (ButS.refl _ _).set
      clear fz p6
      go_wp2
      refine bodyPost_end (v:=.tuple #[]) (by simp [results,Tryz.results83]) rfl ⟨rfl,⟨a5,c5,?_,?_,?_⟩,HU6.out⟩
      · rw [←HQS.out];exact HP6.out
      · rw [←HQS.out];exact HG6.out
      · rw [←HQS.out];exact HC5.out
theorem drSt2 (x:Nd)(y:Na)(n:Int){w:World}{Z:Nat}(ht:w.there Z 0 25):Sem.run Tryz.prog (storeCells ⟨Z,0,none⟩ (drV x y n)) w=.ok () (w.setCells Z 0 (drV x y n)):=by
  have:=run_storeCells_cells (P:=Tryz.prog) Z 0 (drV x y n) 0 w (fun j hj=>by rw [Nat.add_zero];exact (ht j (by rw [drV_len] at hj;exact hj)).1) (fun j hj=>by rw [Nat.add_zero];exact (ht j (by rw [drV_len] at hj;exact hj)).2) (fun v hv=>(Array.all_eq_true_iff_forall_mem.1 (drV_ones x y n)) v (by simp only [List.mem_toArray];exact hv))
  simpa only [Nat.zero_add,Nat.add_zero] using this
theorem drSt (x:Nd)(y:Na)(n:Int)(w:World):Sem.run Tryz.prog (storeCells ⟨w.heap.size,0,none⟩ (drV x y n)) (w.alloc (.cells #[.int .i64 0,.int .i64 0,.int .i64 0,.int .i64 0,.int .i64 0,.int .i64 0,.int .i64 0,.slice none 0 0,.slice none 0 0,.bool false,.int .i64 0,.bool false,.int .i64 0,.int .i64 0,.int .i64 0,.slice none 0 0,.slice none 0 0,.bool false,.int .i64 0,.int .i64 0,.int .i64 0,.string ⟨#[]⟩,.slice none 0 0,.int .i64 0,.int .i64 0] 162))=.ok () ((w.alloc (.cells #[.int .i64 0,.int .i64 0,.int .i64 0,.int .i64 0,.int .i64 0,.int .i64 0,.int .i64 0,.slice none 0 0,.slice none 0 0,.bool false,.int .i64 0,.bool false,.int .i64 0,.int .i64 0,.int .i64 0,.slice none 0 0,.slice none 0 0,.bool false,.int .i64 0,.int .i64 0,.int .i64 0,.string ⟨#[]⟩,.slice none 0 0,.int .i64 0,.int .i64 0] 162)).setCells w.heap.size 0 (drV x y n)):=drSt2 _ _ _ (there25 w)
attribute [local go_sem] drSt drV_len
set_option maxRecDepth 20000 in
set_option maxHeartbeats 8000000 in
theorem iGoPart_no (wb:World)(P:Nat)(tb tf len cap:Nat)(now:Int)(u g:Int)(ca:Option Addr)(cl cc:Nat)(r:Bool)(l:List Nd)(ps:List ByteArray)(pa:Option Addr)(pc:Nat)(sl th:Bool)(lk n d:Int)(nm:ByteArray)(E:Value)(hl:len≤12)(hd:diB l n=false)
    (hE:wb.cell? ⟨1,0,none⟩=some E) (hi:Nds (some ⟨tb,tf,none⟩) len l wb) (w:World) (hB:Below wb.heap.size wb w) (hPb:wb.heap.size≤P) (hP:BoxW w P [.slice (some ⟨tb,tf,none⟩) len cap,.int .i64 now,.int .i64 u,.int .i64 g,.slice ca cl cc,.bool r,.slice pa (ps.length+1) pc,.bool sl,.bool th,.int .i64 lk,.int .i64 n,.int .i64 d,.string nm]) :
    Calls Tryz.prog 81 #[.pointer (some ⟨P,0,none⟩)] w fun e w'=>e=.returned E∧Below w.heap.size w w':=by
  have hel:=block_lt_of_cell hE
  have HP:Hid (BoxW w P [.slice (some ⟨tb,tf,none⟩) len cap,.int .i64 now,.int .i64 u,.int .i64 g,.slice ca cl cc,.bool r,.slice pa (ps.length+1) pc,.bool sl,.bool th,.int .i64 lk,.int .i64 n,.int .i64 d,.string nm]):=hP
  have HBw:Hid (Below wb.heap.size wb w):=hB
  have HC:Hid (∀ w',Below wb.heap.size wb w'→Calls Tryz.prog 127 #[.agg #[.slice (some ⟨tb,tf,none⟩) len cap,.int .i64 now],.int .i64 n] w' fun e w''=>e=.returned (.tuple #[.agg (drV ndZ naZ 0).toArray,.bool false])∧Below w'.heap.size w' w''):=(fun w' hb=>iDirAt_no _ len cap l now n (by omega) w' (hi.below hb) hd)
  have HE:Hid (∀ w',Below wb.heap.size wb w'→w'.cell? ⟨1,0,none⟩=some E):=(fun w' hb=>(hb.cell (p:=⟨_,0,none⟩) hel).trans hE)
  clear hE hi hB hP hel hd
  have p0:w.cell? ⟨P,0,none⟩=some (.slice (some ⟨tb,tf,none⟩) len cap):=HP.out.at0 0 _ rfl
  have p1:w.cell? ⟨P,1,none⟩=some (.int .i64 now):=HP.out.at0 1 _ rfl
  have p10:w.cell? ⟨P,10,none⟩=some (.int .i64 n):=HP.out.at0 10 _ rfl
  go_enter Tryz.func81,Tryz.ntmps81
  go_upto_region 1 with fail
  have q0:(w.alloc (.cells #[.int .i64 0,.int .i64 0,.int .i64 0,.int .i64 0,.int .i64 0,.int .i64 0,.int .i64 0,.slice none 0 0,.slice none 0 0,.bool false,.int .i64 0,.bool false,.int .i64 0,.int .i64 0,.int .i64 0,.slice none 0 0,.slice none 0 0,.bool false,.int .i64 0,.int .i64 0,.int .i64 0,.string ⟨#[]⟩,.slice none 0 0,.int .i64 0,.int .i64 0] 162)).cell? ⟨P,0,none⟩=some (.slice (some ⟨tb,tf,none⟩) len cap):=(HP.out.below (bel_alloc _ _)).at0 0 _ rfl
  have q1:(w.alloc (.cells #[.int .i64 0,.int .i64 0,.int .i64 0,.int .i64 0,.int .i64 0,.int .i64 0,.int .i64 0,.slice none 0 0,.slice none 0 0,.bool false,.int .i64 0,.bool false,.int .i64 0,.int .i64 0,.int .i64 0,.slice none 0 0,.slice none 0 0,.bool false,.int .i64 0,.int .i64 0,.int .i64 0,.string ⟨#[]⟩,.slice none 0 0,.int .i64 0,.int .i64 0] 162)).cell? ⟨P,1,none⟩=some (.int .i64 now):=(HP.out.below (bel_alloc _ _)).at0 1 _ rfl
  have q10:(w.alloc (.cells #[.int .i64 0,.int .i64 0,.int .i64 0,.int .i64 0,.int .i64 0,.int .i64 0,.int .i64 0,.slice none 0 0,.slice none 0 0,.bool false,.int .i64 0,.bool false,.int .i64 0,.int .i64 0,.int .i64 0,.slice none 0 0,.slice none 0 0,.bool false,.int .i64 0,.int .i64 0,.int .i64 0,.string ⟨#[]⟩,.slice none 0 0,.int .i64 0,.int .i64 0] 162)).cell? ⟨P,10,none⟩=some (.int .i64 n):=(HP.out.below (bel_alloc _ _)).at0 10 _ rfl
  have HA:Hid (Below w.heap.size w (w.alloc (.cells #[.int .i64 0,.int .i64 0,.int .i64 0,.int .i64 0,.int .i64 0,.int .i64 0,.int .i64 0,.slice none 0 0,.slice none 0 0,.bool false,.int .i64 0,.bool false,.int .i64 0,.int .i64 0,.int .i64 0,.slice none 0 0,.slice none 0 0,.bool false,.int .i64 0,.int .i64 0,.int .i64 0,.string ⟨#[]⟩,.slice none 0 0,.int .i64 0,.int .i64 0] 162)).drew):=bl_drewL (bel_alloc _ _)
  have HX:Hid (BoxW (w.alloc (.cells #[.int .i64 0,.int .i64 0,.int .i64 0,.int .i64 0,.int .i64 0,.int .i64 0,.int .i64 0,.slice none 0 0,.slice none 0 0,.bool false,.int .i64 0,.bool false,.int .i64 0,.int .i64 0,.int .i64 0,.slice none 0 0,.slice none 0 0,.bool false,.int .i64 0,.int .i64 0,.int .i64 0,.string ⟨#[]⟩,.slice none 0 0,.int .i64 0,.int .i64 0] 162)).drew w.heap.size (drV ndZ naZ 0)):=(boxW_new w (drV ndZ naZ 0) 162).below (bl_drewL (Below.refl _ _))
  go_region_law (first
    | (go_simp;go_at_call 127;refine (HC.out _ (bl_drewL HBw.out)).mono ?_;rintro e w4 ⟨rfl,hb4⟩;have hb4':Below w.heap.size w w4:=⟨hb4.os,hb4.tape,hb4.output,hb4.size,hb4.block⟩;have HF:Hid (Below w.heap.size w ((w4.alloc (.cells #[.int .i64 0,.int .i64 0,.int .i64 0,.int .i64 0,.int .i64 0,.int .i64 0,.int .i64 0,.slice none 0 0,.slice none 0 0,.bool false,.int .i64 0,.bool false,.int .i64 0,.int .i64 0,.int .i64 0,.slice none 0 0,.slice none 0 0,.bool false,.int .i64 0,.int .i64 0,.int .i64 0,.string ⟨#[]⟩,.slice none 0 0,.int .i64 0,.int .i64 0] 162)).setCells w4.heap.size 0 (drV ndZ naZ 0))):=bl_setsT hb4'.size _ _ (Below.on hb4' (bel_alloc _ _));clear hb4 hb4')
    | (go_simp;go_at_call 127;refine (HC.out _ (Below.on HBw.out HA.out)).mono ?_;rintro e w4 ⟨rfl,hb4⟩;have HX4:Hid (BoxW w4 w.heap.size (drV ndZ naZ 0)):=HX.out.below hb4;have hst:Sem.run Tryz.prog (storeCells ⟨w.heap.size,0,none⟩ (drV ndZ naZ 0)) w4=.ok () (w4.setCells w.heap.size 0 (drV ndZ naZ 0)):=drSt2 _ _ _ (HX4.out.there 0 25 (by simp [drV]));have HF:Hid (Below w.heap.size w (w4.setCells w.heap.size 0 (drV ndZ naZ 0))):=bl_setsT (Nat.le_refl _) _ _ (Below.on HA.out hb4);clear hb4 HX4))
  all_goals
    first
    | generalize ((w4.alloc (.cells #[.int .i64 0,.int .i64 0,.int .i64 0,.int .i64 0,.int .i64 0,.int .i64 0,.int .i64 0,.slice none 0 0,.slice none 0 0,.bool false,.int .i64 0,.bool false,.int .i64 0,.int .i64 0,.int .i64 0,.slice none 0 0,.slice none 0 0,.bool false,.int .i64 0,.int .i64 0,.int .i64 0,.string ⟨#[]⟩,.slice none 0 0,.int .i64 0,.int .i64 0] 162)).setCells w4.heap.size 0 (drV ndZ naZ 0))=w5 at HF ⊢
    | generalize (w4.setCells w.heap.size 0 (drV ndZ naZ 0))=w5 at HF ⊢
    have e5:=HE.out _ (Below.on HBw.out HF.out)
    clear HA HX q0 q1 q10 p0 p1 p10 HE HC HP
    go_wp2
    go_ret
    exact ⟨rfl,HF.out⟩
end Go.Proofs.YtabfdidnjibdeaaGreatDoor
namespace Go.Proofs.YtabfdidnjibdeaaGreatDoor
open Go.RowKit Go.PlainAid Go.Deep
set_option linter.unusedVariables false
def gp3 (x:Nd) (k:Nat) (p:ByteArray):Int × Int × ByteArray :=
  if p.toList==[46] then ((k:Int)+1,(k:Int)+1,emp) else if p.toList==[46,46] then (x.up,x.up,emp) else (fdT x.ns p.toList x.ns.length,(k:Int)+1,p)
structure GpEnd (w:World) (P:Nat) (tb tf len cap:Nat) (now:Int) (u g:Int) (ca:Option Addr) (cl cc:Nat) (r:Bool) (ps:List ByteArray) (sl th:Bool) (lk:Int) (x:Nd) (k:Nat) (p:ByteArray) (lt:Bool) (E2 E3:Value) (e:Ending) (w':World):Prop where
  but:ButS (some ⟨P,0,none⟩) w w'
  no:lt=false→e=.returned E2
  gone:lt=true→((gp3 x k p).1==0&&!ps.isEmpty)=true→e=.returned E3
  yes:lt=true→((gp3 x k p).1==0&&!ps.isEmpty)=false→e=.returned .nilIface∧∃ pa' pc',BoxW w' P [.slice (some ⟨tb,tf,none⟩) len cap,.int .i64 now,.int .i64 u,.int .i64 g,.slice ca cl cc,.bool r,.slice pa' ps.length pc',.bool sl,.bool th,.int .i64 lk,.int .i64 (gp3 x k p).1,.int .i64 (gp3 x k p).2.1,.string (gp3 x k p).2.2]∧RowG w' P pa' ps∧ps.length≤pc'
attribute [local go_sem] drSt drV_len
set_option maxRecDepth 20000 in
set_option maxHeartbeats 16000000 in
theorem iGoPart_dir (wb:World)(P:Nat)(tb tf len cap:Nat)(now:Int)(u g:Int)(ca:Option Addr)(cl cc:Nat)(r:Bool)(cf:Nat→Int)(l:List Nd)(Y:Nat→Na)(k:Nat)(p:ByteArray)(ps:List ByteArray)(b off pc:Nat)(sl th:Bool)(lk d:Int)(nm:ByteArray)(E2 E3:Value)(hl:len≤12)(hll:l.length=len)(hk:k<len)(hps:ps.length≤1000)(hpc:ps.length+1≤pc)(hd:((ndAt l k).k==1)=true)(hup:(ndAt l k).up≠0)(hn6:(ndAt l k).ns.length≤6)(hnT:nsT l (ndAt l k).ns (ndAt l k).ns.length=true)(hask:Ask (ndAt l k) u g cl cf 1)
    (hE2:wb.cell? ⟨2,0,none⟩=some E2) (hE3:wb.cell? ⟨3,0,none⟩=some E3) (htb:tb<wb.heap.size) (hN:N24 wb tb (tf+k*24) (ndAt l k) (Y k)) (hNi:NdIn wb (ndAt l k) (Y k)) (hci:Ints ca cl cf wb) (w:World) (hB:Below wb.heap.size wb w) (hPb:wb.heap.size≤P) (hP:BoxW w P [.slice (some ⟨tb,tf,none⟩) len cap,.int .i64 now,.int .i64 u,.int .i64 g,.slice ca cl cc,.bool r,.slice (some ⟨b,off,none⟩) (ps.length+1) pc,.bool sl,.bool th,.int .i64 lk,.int .i64 ((k:Int)+1),.int .i64 d,.string nm]) (hR:RowB w b off (p :: ps)) (hbP:b≠P) :
    Calls Tryz.prog 81 #[.pointer (some ⟨P,0,none⟩)] w fun e w'=>GpEnd w P tb tf len cap now u g ca cl cc r ps sl th lk (ndAt l k) k p (ltB l u g cl r cf k) E2 E3 e w':=by
  have hel2:=block_lt_of_cell hE2
  have hel3:=block_lt_of_cell hE3
  have HP:Hid (BoxW w P [.slice (some ⟨tb,tf,none⟩) len cap,.int .i64 now,.int .i64 u,.int .i64 g,.slice ca cl cc,.bool r,.slice (some ⟨b,off,none⟩) (ps.length+1) pc,.bool sl,.bool th,.int .i64 lk,.int .i64 ((k:Int)+1),.int .i64 d,.string nm]):=hP
  have HR:Hid (RowB w b off (p :: ps)):=hR
  have HBw:Hid (Below wb.heap.size wb w):=hB
  have HPb:Hid (wb.heap.size≤P∧b≠P∧ps.length+1≤pc∧ps.length≤1000∧P<w.heap.size):=⟨hPb,hbP,hpc,hps,hP.lt⟩
  have HC:Hid (∀ w',Below wb.heap.size wb w'→Calls Tryz.prog 127 #[.agg #[.slice (some ⟨tb,tf,none⟩) len cap,.int .i64 now],.int .i64 ((k:Int)+1)] w' fun e w''=>e=.returned (.tuple #[.agg (drV (ndAt l k) (Y k) ((k:Int)+1)).toArray,.bool true])∧Below w'.heap.size w' w''):=(fun w' hb=>iDirAt_at tb tf len cap l now k (Y k) (by omega) hk hll w' (Nat.lt_of_lt_of_le htb hb.size) (range_below hN htb hb) hd)
  have HLt:Hid (∀ w',Below wb.heap.size wb w'→Calls Tryz.prog 92 #[.agg (ndV (ndAt l k) (Y k)).toArray,.agg #[.int .i64 u,.int .i64 g,.slice ca cl cc,.bool r],.int .i64 1] w' fun e w''=>e=.returned (.bool (ltB l u g cl r cf k))∧Below w'.heap.size w' w''):=(fun w' hb=>iLet_any (ndAt l k) (Y k) u g ca cl cc r cf 1 hask w' (hNi.below hb) (hci.below hb))
  have HNf:Hid (∀ w',Below wb.heap.size wb w'→Calls Tryz.prog 128 #[.agg (ndV (ndAt l k) (Y k)).toArray,.string p] w' fun e w''=>e=.returned (.int .i64 (fdT (ndAt l k).ns p.toList (ndAt l k).ns.length))∧Below w'.heap.size w' w''):=(fun w' hb=>iNodeFor_any l (ndAt l k) (Y k) p hn6 hnT w' (hNi.below hb).nA)
  have HE2:Hid (∀ w',Below wb.heap.size wb w'→w'.cell? ⟨2,0,none⟩=some E2):=(fun w' hb=>(hb.cell (p:=⟨_,0,none⟩) hel2).trans hE2)
  have HE3:Hid (∀ w',Below wb.heap.size wb w'→w'.cell? ⟨3,0,none⟩=some E3):=(fun w' hb=>(hb.cell (p:=⟨_,0,none⟩) hel3).trans hE3)
  have HUp:Hid ((ndAt l k).up≠0):=hup
  generalize ltB l u g cl r cf k=lt at HLt ⊢
  clear hE2 hE3 hN hNi hci hB hP hR hbP hPb hpc hps hel2 hel3 hd hup hask htb hk hll hl hn6 hnT
  generalize ndAt l k=x at HC HLt HNf HUp ⊢
  generalize Y k=y at HC HLt HNf
  have p0:w.cell? ⟨P,0,none⟩=some (.slice (some ⟨tb,tf,none⟩) len cap):=HP.out.at0 0 _ rfl
  have p1:w.cell? ⟨P,1,none⟩=some (.int .i64 now):=HP.out.at0 1 _ rfl
  have p10:w.cell? ⟨P,10,none⟩=some (.int .i64 ((k:Int)+1)):=HP.out.at0 10 _ rfl
  go_enter Tryz.func81,Tryz.ntmps81
  go_upto_region 1 with fail
  have q0:(w.alloc (.cells #[.int .i64 0,.int .i64 0,.int .i64 0,.int .i64 0,.int .i64 0,.int .i64 0,.int .i64 0,.slice none 0 0,.slice none 0 0,.bool false,.int .i64 0,.bool false,.int .i64 0,.int .i64 0,.int .i64 0,.slice none 0 0,.slice none 0 0,.bool false,.int .i64 0,.int .i64 0,.int .i64 0,.string ⟨#[]⟩,.slice none 0 0,.int .i64 0,.int .i64 0] 162)).cell? ⟨P,0,none⟩=some (.slice (some ⟨tb,tf,none⟩) len cap):=(HP.out.below (bel_alloc _ _)).at0 0 _ rfl
  have q1:(w.alloc (.cells #[.int .i64 0,.int .i64 0,.int .i64 0,.int .i64 0,.int .i64 0,.int .i64 0,.int .i64 0,.slice none 0 0,.slice none 0 0,.bool false,.int .i64 0,.bool false,.int .i64 0,.int .i64 0,.int .i64 0,.slice none 0 0,.slice none 0 0,.bool false,.int .i64 0,.int .i64 0,.int .i64 0,.string ⟨#[]⟩,.slice none 0 0,.int .i64 0,.int .i64 0] 162)).cell? ⟨P,1,none⟩=some (.int .i64 now):=(HP.out.below (bel_alloc _ _)).at0 1 _ rfl
  have q10:(w.alloc (.cells #[.int .i64 0,.int .i64 0,.int .i64 0,.int .i64 0,.int .i64 0,.int .i64 0,.int .i64 0,.slice none 0 0,.slice none 0 0,.bool false,.int .i64 0,.bool false,.int .i64 0,.int .i64 0,.int .i64 0,.slice none 0 0,.slice none 0 0,.bool false,.int .i64 0,.int .i64 0,.int .i64 0,.string ⟨#[]⟩,.slice none 0 0,.int .i64 0,.int .i64 0] 162)).cell? ⟨P,10,none⟩=some (.int .i64 ((k:Int)+1)):=(HP.out.below (bel_alloc _ _)).at0 10 _ rfl
  have HA:Hid (Below w.heap.size w (w.alloc (.cells #[.int .i64 0,.int .i64 0,.int .i64 0,.int .i64 0,.int .i64 0,.int .i64 0,.int .i64 0,.slice none 0 0,.slice none 0 0,.bool false,.int .i64 0,.bool false,.int .i64 0,.int .i64 0,.int .i64 0,.slice none 0 0,.slice none 0 0,.bool false,.int .i64 0,.int .i64 0,.int .i64 0,.string ⟨#[]⟩,.slice none 0 0,.int .i64 0,.int .i64 0] 162)).drew):=bl_drewL (bel_alloc _ _)
  have HX:Hid (BoxW (w.alloc (.cells #[.int .i64 0,.int .i64 0,.int .i64 0,.int .i64 0,.int .i64 0,.int .i64 0,.int .i64 0,.slice none 0 0,.slice none 0 0,.bool false,.int .i64 0,.bool false,.int .i64 0,.int .i64 0,.int .i64 0,.slice none 0 0,.slice none 0 0,.bool false,.int .i64 0,.int .i64 0,.int .i64 0,.string ⟨#[]⟩,.slice none 0 0,.int .i64 0,.int .i64 0] 162)).drew w.heap.size (drV ndZ naZ 0)):=(boxW_new w (drV ndZ naZ 0) 162).below (bl_drewL (Below.refl _ _))
  go_cut [3,4] (fun z bv wx=>∃ Z:Nat,z=.pointer (some ⟨Z,0,none⟩)∧bv=.bool true∧Hid (Below w.heap.size w wx)∧Hid (BoxW wx Z (drV x y ((k:Int)+1)))∧Hid (w.heap.size≤Z))
  case first =>
   as_aux_lemma =>
    go_region_law (first
      | (go_simp;go_at_call 127;refine (HC.out _ (bl_drewL HBw.out)).mono ?_;rintro e w4 ⟨rfl,hb4⟩;have hb4':Below w.heap.size w w4:=⟨hb4.os,hb4.tape,hb4.output,hb4.size,hb4.block⟩;have HF:Hid (Below w.heap.size w ((w4.alloc (.cells #[.int .i64 0,.int .i64 0,.int .i64 0,.int .i64 0,.int .i64 0,.int .i64 0,.int .i64 0,.slice none 0 0,.slice none 0 0,.bool false,.int .i64 0,.bool false,.int .i64 0,.int .i64 0,.int .i64 0,.slice none 0 0,.slice none 0 0,.bool false,.int .i64 0,.int .i64 0,.int .i64 0,.string ⟨#[]⟩,.slice none 0 0,.int .i64 0,.int .i64 0] 162)).setCells w4.heap.size 0 (drV x y ((k:Int)+1)))):=bl_setsT hb4'.size _ _ (Below.on hb4' (bel_alloc _ _));have HZ:Hid (BoxW ((w4.alloc (.cells #[.int .i64 0,.int .i64 0,.int .i64 0,.int .i64 0,.int .i64 0,.int .i64 0,.int .i64 0,.slice none 0 0,.slice none 0 0,.bool false,.int .i64 0,.bool false,.int .i64 0,.int .i64 0,.int .i64 0,.slice none 0 0,.slice none 0 0,.bool false,.int .i64 0,.int .i64 0,.int .i64 0,.string ⟨#[]⟩,.slice none 0 0,.int .i64 0,.int .i64 0] 162)).setCells w4.heap.size 0 (drV x y ((k:Int)+1))) w4.heap.size (drV x y ((k:Int)+1))):=(boxW_new w4 (drV ndZ naZ 0) 162).whole (by rw [drV_len,drV_len]);have HS:Hid (w.heap.size≤w4.heap.size):=hb4'.size;clear hb4 hb4')
      | (go_simp;go_at_call 127;refine (HC.out _ (Below.on HBw.out HA.out)).mono ?_;rintro e w4 ⟨rfl,hb4⟩;have HX4:Hid (BoxW w4 w.heap.size (drV ndZ naZ 0)):=HX.out.below hb4;have hst:Sem.run Tryz.prog (storeCells ⟨w.heap.size,0,none⟩ (drV x y ((k:Int)+1))) w4=.ok () (w4.setCells w.heap.size 0 (drV x y ((k:Int)+1))):=drSt2 _ _ _ (HX4.out.there 0 25 (by simp [drV]));have HF:Hid (Below w.heap.size w (w4.setCells w.heap.size 0 (drV x y ((k:Int)+1)))):=bl_setsT (Nat.le_refl _) _ _ (Below.on HA.out hb4);have HZ:Hid (BoxW (w4.setCells w.heap.size 0 (drV x y ((k:Int)+1))) w.heap.size (drV x y ((k:Int)+1))):=HX4.out.whole (by rw [drV_len,drV_len]);have HS:Hid (w.heap.size≤w.heap.size):=Nat.le_refl _;clear hb4 HX4))
    all_goals go_wp2
    all_goals go_meet
    all_goals exact ⟨_,rfl,rfl,HF,HZ,HS⟩
  case rest =>
  obtain ⟨Z,rfl,rfl,HF,HZ,HS⟩:=hcut
  obtain ⟨w2,hw2⟩:∃ w2,w2=wc:=⟨_,rfl⟩
  subst hw2
  have HP2:Hid (BoxW w2 P [.slice (some ⟨tb,tf,none⟩) len cap,.int .i64 now,.int .i64 u,.int .i64 g,.slice ca cl cc,.bool r,.slice (some ⟨b,off,none⟩) (ps.length+1) pc,.bool sl,.bool th,.int .i64 lk,.int .i64 ((k:Int)+1),.int .i64 d,.string nm]):=HP.out.below HF.out
  have HR2:Hid (RowB w2 b off (p :: ps)):=HR.out.below HF.out
  have HB2:Hid (Below wb.heap.size wb w2):=Below.on HBw.out HF.out
  have HPZ:Hid (P<Z):=(by show _<_;have:=HPb.out;have:=HS.out;omega)
  have HU2:Hid (ButS (some ⟨P,0,none⟩) w w2):=ButS.of HF.out
  clear HA HX q0 q1 q10 p0 p1 p10 HC HP HR HBw HF HS
  go_upto_region 4 with fail
  obtain ⟨cs1,hcs1⟩:∃ cs1,cs1=ndV x y:=⟨_,rfl⟩
  have hi1:(Tryz.prog.info? 84).map (·.size)=some cs1.length:=by rw [hcs1];kernel_rfl
  have hu:=Tryz.underlying84
  have R1:∀ w',(∃ q:Regrown,w'=Go.Sort.grow (redrawn w2 q.d) q.os)→w'.rangeAt Z 0 cs1:=by rw [hcs1];exact range_regrown (dr_nd HZ.out.at0)
  have cL:∀ dd os,Calls Tryz.prog 92 #[.agg cs1.toArray,.agg #[.int .i64 u,.int .i64 g,.slice ca cl cc,.bool r],.int .i64 1] (Go.Sort.grow (redrawn w2 dd) os) fun e w''=>e=.returned (.bool lt)∧∃ q:Regrown,w''=Go.Sort.grow (redrawn w2 q.d) q.os:=fun dd os=>Calls.regrown_of (by rw [hcs1];exact HLt.out _ (Below.on HB2.out (below_regrown w2 dd os)))
  have y2:∀ dd os,(Go.Sort.grow (redrawn w2 dd) os).cell? ⟨P,2,none⟩=some (.int .i64 u):=fun dd os=>cell_regrown (HP2.out.at0 2 _ rfl) dd os
  have y3:∀ dd os,(Go.Sort.grow (redrawn w2 dd) os).cell? ⟨P,3,none⟩=some (.int .i64 g):=fun dd os=>cell_regrown (HP2.out.at0 3 _ rfl) dd os
  have y4:∀ dd os,(Go.Sort.grow (redrawn w2 dd) os).cell? ⟨P,4,none⟩=some (.slice ca cl cc):=fun dd os=>cell_regrown (HP2.out.at0 4 _ rfl) dd os
  have y5:∀ dd os,(Go.Sort.grow (redrawn w2 dd) os).cell? ⟨P,5,none⟩=some (.bool r):=fun dd os=>cell_regrown (HP2.out.at0 5 _ rfl) dd os
  clear hcs1
  refine wp_region_quiet_below (by kernel_rfl) (by kernel_rfl) ?_
  repeat (first
    | go_big_quiet_skip
    | (go_big_quiet_want;refine quiet_load_mid 84 _ rfl _ _ (by rfl) _ _ R1 hu rfl hi1 ?_;simp only [Act.put,List.setIfInBounds_toArray,List.set_cons_zero,List.set_cons_succ];go_big_quiet_on)
    | (go_big_quiet_want;go_big_quiet_op;first | go_big_quiet_on | go_big_quiet_call (exact cL _ _)))
  refine wpQuiet_nil ?_
  intro _ hw'
  obtain ⟨⟨dq,osq⟩,hw''⟩:=hw'
  subst hw''
  have hbq:=below_regrown w2 dq osq
  have HZ3:Hid (BoxW (Go.Sort.grow (redrawn w2 dq) osq) Z (drV x y ((k:Int)+1))):=HZ.out.below hbq
  have HP3:Hid (BoxW (Go.Sort.grow (redrawn w2 dq) osq) P [.slice (some ⟨tb,tf,none⟩) len cap,.int .i64 now,.int .i64 u,.int .i64 g,.slice ca cl cc,.bool r,.slice (some ⟨b,off,none⟩) (ps.length+1) pc,.bool sl,.bool th,.int .i64 lk,.int .i64 ((k:Int)+1),.int .i64 d,.string nm]):=HP2.out.below hbq
  have HR3:Hid (RowB (Go.Sort.grow (redrawn w2 dq) osq) b off (p :: ps)):=HR2.out.below hbq
  have HU3:Hid (ButS (some ⟨P,0,none⟩) w (Go.Sort.grow (redrawn w2 dq) osq)):=HU2.out.on hbq
  have HB3:Hid (Below wb.heap.size wb (Go.Sort.grow (redrawn w2 dq) osq)):=Below.on HB2.out hbq
  clear hbq y2 y3 y4 y5 R1 cL hi1 hu HLt
  generalize Go.Sort.grow (redrawn w2 dq) osq=w3 at HZ3 HP3 HR3 HU3 HB3 ⊢
  clear HZ HP2 HR2 HU2 HB2
  cases lt
  · have e5 := HE2.out _ HB3.out
    clear HE2 HE3 HNf
    go_wp2
    go_ret
    exact ⟨HU3.out,fun _=>rfl,(fun h=>by cases h),(fun h=>by cases h)⟩
  clear HE2
  have hcap:pc=1∨1<pc:=by have:=HPb.out;omega
  have p6:w3.cell? ⟨P,6,none⟩=some (.slice (some ⟨b,off,none⟩) (ps.length+1) pc):=HP3.out.at0 6 _ rfl
  have r0:w3.cell? ⟨b,off,none⟩=some (.string p):=HR3.out.head
  have fz:=HP3.out.frz
  have HS2:Hid (∃ off2,(pc=1→off2=off)∧(1<pc→off2=off+1)):=(by
    rcases hcap with h | h
    · exact ⟨off,fun _=>rfl,fun h2=>by omega⟩
    · exact ⟨off+1,fun h2=>by omega,fun _=>rfl⟩)
  obtain ⟨off2,ho1,ho2⟩:=HS2.out
  have HR4:Hid (RowB w3 b off2 ps):=(by
    rcases hcap with h | h
    · have hz : ps = [] := List.eq_nil_of_length_eq_zero (by have := HPb.out; omega)
      rw [ho1 h,hz]
      exact ⟨HR3.out.1,fun j x hj=>by cases hj⟩
    · rw [ho2 h]
      exact HR3.out.tail)
  have HP4:Hid (BoxW (w3.setCell ⟨P,6,none⟩ (.slice (some ⟨b,off2,none⟩) ps.length (pc-1))) P [.slice (some ⟨tb,tf,none⟩) len cap,.int .i64 now,.int .i64 u,.int .i64 g,.slice ca cl cc,.bool r,.slice (some ⟨b,off2,none⟩) ps.length (pc-1),.bool sl,.bool th,.int .i64 lk,.int .i64 ((k:Int)+1),.int .i64 d,.string nm]):=HP3.out.set 6 (by simp) (.slice (some ⟨b,off2,none⟩) ps.length (pc-1))
  have HU4:Hid (ButS (some ⟨P,0,none⟩) w (w3.setCell ⟨P,6,none⟩ (.slice (some ⟨b,off2,none⟩) ps.length (pc-1)))):=HU3.out.set
  have HR5:Hid (RowB (w3.setCell ⟨P,6,none⟩ (.slice (some ⟨b,off2,none⟩) ps.length (pc-1))) b off2 ps):=HR4.out.but (ButS.refl (some ⟨P,0,none⟩) _).set (fun A e=>by cases e;exact HPb.out.2.1)
  have HZ5:Hid (BoxW (w3.setCell ⟨P,6,none⟩ (.slice (some ⟨b,off2,none⟩) ps.length (pc-1))) Z (drV x y ((k:Int)+1))):=HZ3.out.butS (ButS.refl (some ⟨P,0,none⟩) _).set (fun A e=>by cases e;have:=HPZ.out;simp only;omega)
  have HB5:Hid (Below wb.heap.size wb (w3.setCell ⟨P,6,none⟩ (.slice (some ⟨b,off2,none⟩) ps.length (pc-1)))):=setS HB3.out HPb.out.1
  have hpli:(ps.length:Int)≤1000:=by have:=HPb.out;omega
  have HL4:Hid (ps.length≤pc-1):=(by show _≤_;have:=HPb.out;omega)
  go_upto_region 7 with fail
  go_cut [] (fun wx=>Hid (wx=(w3.setCell ⟨P,6,none⟩ (.slice (some ⟨b,off2,none⟩) ps.length (pc-1)))))
  case first =>
    rcases hcap with hcap | hcap
    · have hz : ps.length = 0 := by have := HPb.out; omega
      have HE4:Hid (w3.setCell ⟨P,6,none⟩ (.slice (some ⟨b,off,none⟩) 0 0)=(w3.setCell ⟨P,6,none⟩ (.slice (some ⟨b,off2,none⟩) ps.length (pc-1)))):=(by show _=_;rw [ho1 hcap,hz,hcap])
      rw [hz,hcap] at p6
      clear ho1 ho2 HS2 hz hcap HP4 HU4 HR5 HZ5 HB5
      go_wp2
      go_meet
      exact HE4
    · have HE4 : Hid (w3.setCell ⟨P, 6, none⟩ (.slice (some ⟨b, off + 1, none⟩) ps.length (pc - 1)) = (w3.setCell ⟨P, 6, none⟩ (.slice (some ⟨b, off2, none⟩) ps.length (pc - 1)))) := (by show _ = _; rw [ho2 hcap])
      have hcapi:(1:Int)<(pc:Int):=by omega
      have hlpi:(ps.length:Int)+1≤(pc:Int):=by have:=HPb.out;omega
      clear ho1 ho2 HS2 HP4 HU4 HR5 HZ5 HB5
      go_wp2
      go_meet
      exact HE4
  case rest =>
  have hwc:=hcut
  clear hcut
  rw [←hwc.out] at HP4 HU4 HR5 HZ5 HB5
  obtain ⟨w4,hw4⟩:∃ w4,w4=wc:=⟨_,rfl⟩
  subst hw4
  clear hwc p6 r0 fz HP3 HR3 HU3 HZ3 HB3 HR4 hcap ho1 ho2 HS2
  cases e1:(p.toList==[46])
  case true =>
    have HG:Hid (gp3 x k p=(((k:Int)+1),((k:Int)+1),emp)):=(by show _=_;unfold gp3;rw [e1];rfl)
    have HSt:Hid (Calls Tryz.prog 41 #[.pointer (some ⟨P,0,none⟩),.int .i64 ((k:Int)+1)] w4 fun e w'=>e=.returned (.tuple #[])∧BoxW w' P [.slice (some ⟨tb,tf,none⟩) len cap,.int .i64 now,.int .i64 u,.int .i64 g,.slice ca cl cc,.bool r,.slice (some ⟨b,off2,none⟩) ps.length (pc-1),.bool sl,.bool th,.int .i64 lk,.int .i64 ((k:Int)+1),.int .i64 ((k:Int)+1),.string ⟨#[]⟩]∧ButS (some ⟨P,0,none⟩) w4 w'):=iStand_any P tb tf len cap now u g ca cl cc r _ _ _ _ _ _ _ _ _ ((k:Int)+1) w4 HP4.out
    have hne:(((k:Int)+1)==0)=false:=(by simp;omega)
    have z24:w4.cell? ⟨Z,24,none⟩=some (.int .i64 ((k:Int)+1)):=HZ5.out.at0 24 _ rfl
    have z20:w4.cell? ⟨Z,20,none⟩=some (.int .i64 x.up):=HZ5.out.at0 20 _ rfl
    clear HNf HE3
    go_wp2_with (go_at_call 41;refine HSt.out.mono ?_;rintro e w5 ⟨rfl,hb5,hu5⟩;have HP5:Hid (BoxW w5 P [.slice (some ⟨tb,tf,none⟩) len cap,.int .i64 now,.int .i64 u,.int .i64 g,.slice ca cl cc,.bool r,.slice (some ⟨b,off2,none⟩) ps.length (pc-1),.bool sl,.bool th,.int .i64 lk,.int .i64 ((k:Int)+1),.int .i64 ((k:Int)+1),.string ⟨#[]⟩]):=hb5;have HU5:Hid (ButS (some ⟨P,0,none⟩) w w5):=HU4.out.trans hu5;have HR6:Hid (RowB w5 b off2 ps):=HR5.out.but hu5 (fun A e=>by cases e;exact HPb.out.2.1);have p10:w5.cell? ⟨P,10,none⟩=some (.int .i64 ((k:Int)+1)):=HP5.out.at0 10 _ rfl;clear hb5 hu5)
    go_ret
    refine ⟨HU5.out,(fun h=>by cases h),fun _ h=>?_,fun _ _=>⟨rfl,some ⟨b,off2,none⟩,pc-1,?_,fun _=>⟨b,off2,rfl,HPb.out.2.1,HR6.out⟩,HL4.out⟩⟩
    · rw [HG.out, hne] at h
      cases h
    · rw [HG.out]
      exact HP5.out
  cases e2:(p.toList==[46,46])
  case true =>
    have HG:Hid (gp3 x k p=(x.up,x.up,emp)):=(by show _=_;unfold gp3;rw [e1,e2];rfl)
    have HSt:Hid (Calls Tryz.prog 41 #[.pointer (some ⟨P,0,none⟩),.int .i64 x.up] w4 fun e w'=>e=.returned (.tuple #[])∧BoxW w' P [.slice (some ⟨tb,tf,none⟩) len cap,.int .i64 now,.int .i64 u,.int .i64 g,.slice ca cl cc,.bool r,.slice (some ⟨b,off2,none⟩) ps.length (pc-1),.bool sl,.bool th,.int .i64 lk,.int .i64 x.up,.int .i64 x.up,.string ⟨#[]⟩]∧ButS (some ⟨P,0,none⟩) w4 w'):=iStand_any P tb tf len cap now u g ca cl cc r _ _ _ _ _ _ _ _ _ x.up w4 HP4.out
    have hne:(x.up==0)=false:=(by simpa using HUp.out)
    have z24:w4.cell? ⟨Z,24,none⟩=some (.int .i64 ((k:Int)+1)):=HZ5.out.at0 24 _ rfl
    have z20:w4.cell? ⟨Z,20,none⟩=some (.int .i64 x.up):=HZ5.out.at0 20 _ rfl
    clear HNf HE3
    go_wp2_with (go_at_call 41;refine HSt.out.mono ?_;rintro e w5 ⟨rfl,hb5,hu5⟩;have HP5:Hid (BoxW w5 P [.slice (some ⟨tb,tf,none⟩) len cap,.int .i64 now,.int .i64 u,.int .i64 g,.slice ca cl cc,.bool r,.slice (some ⟨b,off2,none⟩) ps.length (pc-1),.bool sl,.bool th,.int .i64 lk,.int .i64 x.up,.int .i64 x.up,.string ⟨#[]⟩]):=hb5;have HU5:Hid (ButS (some ⟨P,0,none⟩) w w5):=HU4.out.trans hu5;have HR6:Hid (RowB w5 b off2 ps):=HR5.out.but hu5 (fun A e=>by cases e;exact HPb.out.2.1);have p10:w5.cell? ⟨P,10,none⟩=some (.int .i64 x.up):=HP5.out.at0 10 _ rfl;clear hb5 hu5)
    go_ret
    refine ⟨HU5.out,(fun h=>by cases h),fun _ h=>?_,fun _ _=>⟨rfl,some ⟨b,off2,none⟩,pc-1,?_,fun _=>⟨b,off2,rfl,HPb.out.2.1,HR6.out⟩,HL4.out⟩⟩
    · rw [HG.out, hne] at h
      cases h
    · rw [HG.out]
      exact HP5.out
  have HG:Hid (gp3 x k p=(fdT x.ns p.toList x.ns.length,(k:Int)+1,p)):=(by show _=_;unfold gp3;rw [e1,e2];rfl)
  generalize fdT x.ns p.toList x.ns.length=fn at HNf HG
  go_upto_region 9 with fail
  refine wp_region_held_drew (S:=fun w'=>w'.rangeAt Z 0 (ndV x y)∧w'.cell? ⟨Z,24,none⟩=some (.int .i64 ((k:Int)+1))) (by kernel_rfl) (by exact ⟨dr_nd HZ5.out.at0,HZ5.out.at0 24 _ rfl⟩) (fun hHeld=>?_)
  refine wpAnyH_take (i:=0) (v:=.pointer (some ⟨P,0,none⟩)) rfl (by kernel_rfl) (by kernel_rfl) (by kernel_rfl) (fun _ _ _ h=>h) (Or.inl ⟨by rfl,fun _ _=>by rfl⟩) hHeld ?_
  try simp only [Act.put,List.getElem_toArray,List.getElem_cons_zero,List.setIfInBounds_toArray,List.set_cons_zero,List.set_cons_succ]
  refine wpAnyH_take (i:=1) (v:=.pointer (some ⟨P,0,none⟩)) rfl (by kernel_rfl) (by kernel_rfl) (by kernel_rfl) (fun _ _ _ h=>h) (Or.inl ⟨by rfl,fun _ _=>by rfl⟩) hHeld ?_
  try simp only [Act.put,List.getElem_toArray,List.getElem_cons_zero,List.getElem_cons_succ,List.setIfInBounds_toArray,List.set_cons_zero,List.set_cons_succ]
  refine wpAnyH_take (i:=2) (v:=.pointer (some ⟨P,0,none⟩)) rfl (by kernel_rfl) (by kernel_rfl) (by kernel_rfl) (fun _ _ _ h=>h) (Or.inl ⟨by rfl,fun _ _=>by rfl⟩) hHeld ?_
  try simp only [Act.put,List.getElem_toArray,List.getElem_cons_zero,List.getElem_cons_succ,List.setIfInBounds_toArray,List.set_cons_zero,List.set_cons_succ]
  refine wpAnyH_take (i:=3) (v:=.pointer (some ⟨Z,0,none⟩)) rfl (by kernel_rfl) (by kernel_rfl) (by kernel_rfl) (fun _ _ _ h=>h) (Or.inl ⟨by rfl,fun _ _=>by rfl⟩) hHeld ?_
  try simp only [Act.put,List.getElem_toArray,List.getElem_cons_zero,List.getElem_cons_succ,List.setIfInBounds_toArray,List.set_cons_zero,List.set_cons_succ]
  refine wpAnyH_take (i:=4) (v:=.agg (ndV x y).toArray) rfl (by kernel_rfl) (by kernel_rfl) (by kernel_rfl) (fun _ _ _ h=>h) (yieldsIf_load_mid (by rfl) 84 _ rfl Z 0 rfl _ _ (fun _ h=>h.1) Tryz.underlying84 rfl (by kernel_rfl)) hHeld ?_
  try simp only [Act.put,List.getElem_toArray,List.getElem_cons_zero,List.getElem_cons_succ,List.setIfInBounds_toArray,List.set_cons_zero,List.set_cons_succ]
  refine wpAnyH_take (i:=5) (v:=.string p) rfl (by kernel_rfl) (by kernel_rfl) (by kernel_rfl) (fun _ _ _ h=>h) (Or.inl ⟨by rfl,fun _ _=>by rfl⟩) hHeld ?_
  try simp only [Act.put,List.getElem_toArray,List.getElem_cons_zero,List.getElem_cons_succ,List.setIfInBounds_toArray,List.set_cons_zero,List.set_cons_succ]
  refine wpAnyH_take (i:=7) (v:=.pointer (some ⟨Z,24,none⟩)) rfl (by kernel_rfl) (by kernel_rfl) (by kernel_rfl) (fun _ _ _ h=>h) (Or.inl ⟨by rfl,fun _ _=>by rfl⟩) hHeld ?_
  try simp only [Act.put,List.getElem_toArray,List.getElem_cons_zero,List.getElem_cons_succ,List.setIfInBounds_toArray,List.set_cons_zero,List.set_cons_succ]
  refine wpAnyH_take (i:=8) (v:=.int .i64 ((k:Int)+1)) rfl (by kernel_rfl) (by kernel_rfl) (by kernel_rfl) (fun _ _ _ h=>h) (Or.inl ⟨by rfl,fun _ h=>by have h0:=h.2;go_simp⟩) hHeld ?_
  try simp only [Act.put,List.getElem_toArray,List.getElem_cons_zero,List.getElem_cons_succ,List.setIfInBounds_toArray,List.set_cons_zero,List.set_cons_succ]
  refine wpAnyH_take (i:=9) (v:=.string p) rfl (by kernel_rfl) (by kernel_rfl) (by kernel_rfl) (fun _ _ _ h=>h) (Or.inl ⟨by rfl,fun _ _=>by rfl⟩) hHeld ?_
  try simp only [Act.put,List.getElem_toArray,List.getElem_cons_zero,List.getElem_cons_succ,List.setIfInBounds_toArray,List.set_cons_zero,List.set_cons_succ]
  refine wpAnyH_ready (rs:=[6]) (by kernel_rfl) (by simp) ?_
  refine AllReadyH.cons rfl (fun K hK=>?_) AllReadyH.nil
  rw [if_pos (by rfl)]
  go_simp
  refine (HNf.out _ (bl_drewL HB5.out)).mono ?_
  rintro e w5 ⟨rfl,hb5'⟩
  simp only []
  have hb5:Below w4.heap.size w4 w5:=⟨hb5'.os,hb5'.tape,hb5'.output,hb5'.size,hb5'.block⟩
  have HZ6:Hid (BoxW w5 Z (drV x y ((k:Int)+1))):=HZ5.out.below hb5
  have HP6:Hid (BoxW w5 P [.slice (some ⟨tb,tf,none⟩) len cap,.int .i64 now,.int .i64 u,.int .i64 g,.slice ca cl cc,.bool r,.slice (some ⟨b,off2,none⟩) ps.length (pc-1),.bool sl,.bool th,.int .i64 lk,.int .i64 ((k:Int)+1),.int .i64 d,.string nm]):=HP4.out.below hb5
  have HR6:Hid (RowB w5 b off2 ps):=HR5.out.below hb5
  have HU6:Hid (ButS (some ⟨P,0,none⟩) w w5):=HU4.out.on hb5
  have HB6:Hid (Below wb.heap.size wb w5):=Below.on HB5.out hb5
  clear HZ5 HP4 HR5 HU4 HB5 hb5 hb5' HNf hHeld
  refine hK.out _ _ ⟨dr_nd HZ6.out.at0,HZ6.out.at0 24 _ rfl⟩ (fun hHeld=>?_)
  clear hK K
  try simp only [Act.put,List.getElem_toArray,List.getElem_cons_zero,List.getElem_cons_succ,List.setIfInBounds_toArray,List.set_cons_zero,List.set_cons_succ]
  refine wpAnyH_take (i:=10) (v:=.pointer (some ⟨P,0,none⟩)) rfl (by kernel_rfl) (by kernel_rfl) (by kernel_rfl) (fun _ _ _ h=>h) (Or.inl ⟨by rfl,fun _ _=>by rfl⟩) hHeld ?_
  try simp only [Act.put,List.getElem_toArray,List.getElem_cons_zero,List.getElem_cons_succ,List.setIfInBounds_toArray,List.set_cons_zero,List.set_cons_succ]
  refine wpAnyH_take (i:=11) (v:=.pointer (some ⟨P,10,none⟩)) rfl (by kernel_rfl) (by kernel_rfl) (by kernel_rfl) (fun _ _ _ h=>h) (Or.inl ⟨by rfl,fun _ _=>by rfl⟩) hHeld ?_
  try simp only [Act.put,List.getElem_toArray,List.getElem_cons_zero,List.getElem_cons_succ,List.setIfInBounds_toArray,List.set_cons_zero,List.set_cons_succ]
  refine wpAnyH_ready (rs:=[12]) (by kernel_rfl) (by simp) ?_
  refine AllReadyH.cons rfl (fun K hK=>?_) AllReadyH.nil
  rw [if_pos (by rfl)]
  have c6:w5.cell? ⟨P,10,none⟩=some (.int .i64 ((k:Int)+1)):=HP6.out.at0 10 _ rfl
  have fz6:=HP6.out.frz
  go_simp
  have HZ7:Hid (BoxW (w5.setCell ⟨P,10,none⟩ (.int .i64 fn)) Z (drV x y ((k:Int)+1))):=HZ6.out.butS (ButS.refl (some ⟨P,0,none⟩) _).set (fun A e=>by cases e;have:=HPZ.out;simp only;omega)
  have HP7:Hid (BoxW (w5.setCell ⟨P,10,none⟩ (.int .i64 fn)) P [.slice (some ⟨tb,tf,none⟩) len cap,.int .i64 now,.int .i64 u,.int .i64 g,.slice ca cl cc,.bool r,.slice (some ⟨b,off2,none⟩) ps.length (pc-1),.bool sl,.bool th,.int .i64 lk,.int .i64 fn,.int .i64 d,.string nm]):=HP6.out.set 10 (by simp) (.int .i64 fn)
  have HR7:Hid (RowB (w5.setCell ⟨P,10,none⟩ (.int .i64 fn)) b off2 ps):=HR6.out.but (ButS.refl (some ⟨P,0,none⟩) _).set (fun A e=>by cases e;exact HPb.out.2.1)
  have HU7:Hid (ButS (some ⟨P,0,none⟩) w (w5.setCell ⟨P,10,none⟩ (.int .i64 fn))):=HU6.out.set
  have HB7:Hid (Below wb.heap.size wb (w5.setCell ⟨P,10,none⟩ (.int .i64 fn))):=setS HB6.out HPb.out.1
  refine hK.out _ _ ⟨dr_nd HZ7.out.at0,HZ7.out.at0 24 _ rfl⟩ (fun hHeld=>?_)
  clear hK K c6 fz6 HZ6 HP6 HR6 HU6 HB6
  generalize (w5.setCell ⟨P,10,none⟩ (.int .i64 fn))=w6 at HZ7 HP7 HR7 HU7 HB7 hHeld ⊢
  try simp only [Act.put,List.getElem_toArray,List.getElem_cons_zero,List.getElem_cons_succ,List.setIfInBounds_toArray,List.set_cons_zero,List.set_cons_succ]
  refine wpAnyH_take (i:=13) (v:=.pointer (some ⟨P,0,none⟩)) rfl (by kernel_rfl) (by kernel_rfl) (by kernel_rfl) (fun _ _ _ h=>h) (Or.inl ⟨by rfl,fun _ _=>by rfl⟩) hHeld ?_
  try simp only [Act.put,List.getElem_toArray,List.getElem_cons_zero,List.getElem_cons_succ,List.setIfInBounds_toArray,List.set_cons_zero,List.set_cons_succ]
  refine wpAnyH_take (i:=14) (v:=.pointer (some ⟨P,11,none⟩)) rfl (by kernel_rfl) (by kernel_rfl) (by kernel_rfl) (fun _ _ _ h=>h) (Or.inl ⟨by rfl,fun _ _=>by rfl⟩) hHeld ?_
  try simp only [Act.put,List.getElem_toArray,List.getElem_cons_zero,List.getElem_cons_succ,List.setIfInBounds_toArray,List.set_cons_zero,List.set_cons_succ]
  refine wpAnyH_ready (rs:=[15]) (by kernel_rfl) (by simp) ?_
  refine AllReadyH.cons rfl (fun K hK=>?_) AllReadyH.nil
  rw [if_pos (by rfl)]
  have c7:w6.cell? ⟨P,11,none⟩=some (.int .i64 d):=HP7.out.at0 11 _ rfl
  have fz7:=HP7.out.frz
  go_simp
  have HZ8:Hid (BoxW (w6.setCell ⟨P,11,none⟩ (.int .i64 ((k:Int)+1))) Z (drV x y ((k:Int)+1))):=HZ7.out.butS (ButS.refl (some ⟨P,0,none⟩) _).set (fun A e=>by cases e;have:=HPZ.out;simp only;omega)
  have HP8:Hid (BoxW (w6.setCell ⟨P,11,none⟩ (.int .i64 ((k:Int)+1))) P [.slice (some ⟨tb,tf,none⟩) len cap,.int .i64 now,.int .i64 u,.int .i64 g,.slice ca cl cc,.bool r,.slice (some ⟨b,off2,none⟩) ps.length (pc-1),.bool sl,.bool th,.int .i64 lk,.int .i64 fn,.int .i64 ((k:Int)+1),.string nm]):=HP7.out.set 11 (by simp) (.int .i64 ((k:Int)+1))
  have HR8:Hid (RowB (w6.setCell ⟨P,11,none⟩ (.int .i64 ((k:Int)+1))) b off2 ps):=HR7.out.but (ButS.refl (some ⟨P,0,none⟩) _).set (fun A e=>by cases e;exact HPb.out.2.1)
  have HU8:Hid (ButS (some ⟨P,0,none⟩) w (w6.setCell ⟨P,11,none⟩ (.int .i64 ((k:Int)+1)))):=HU7.out.set
  have HB8:Hid (Below wb.heap.size wb (w6.setCell ⟨P,11,none⟩ (.int .i64 ((k:Int)+1)))):=setS HB7.out HPb.out.1
  refine hK.out _ _ ⟨dr_nd HZ8.out.at0,HZ8.out.at0 24 _ rfl⟩ (fun hHeld=>?_)
  clear hK K c7 fz7 HZ7 HP7 HR7 HU7 HB7
  generalize (w6.setCell ⟨P,11,none⟩ (.int .i64 ((k:Int)+1)))=w7 at HZ8 HP8 HR8 HU8 HB8 hHeld ⊢
  try simp only [Act.put,List.getElem_toArray,List.getElem_cons_zero,List.getElem_cons_succ,List.setIfInBounds_toArray,List.set_cons_zero,List.set_cons_succ]
  refine wpAnyH_take (i:=16) (v:=.pointer (some ⟨P,0,none⟩)) rfl (by kernel_rfl) (by kernel_rfl) (by kernel_rfl) (fun _ _ _ h=>h) (Or.inl ⟨by rfl,fun _ _=>by rfl⟩) hHeld ?_
  try simp only [Act.put,List.getElem_toArray,List.getElem_cons_zero,List.getElem_cons_succ,List.setIfInBounds_toArray,List.set_cons_zero,List.set_cons_succ]
  refine wpAnyH_take (i:=17) (v:=.pointer (some ⟨P,12,none⟩)) rfl (by kernel_rfl) (by kernel_rfl) (by kernel_rfl) (fun _ _ _ h=>h) (Or.inl ⟨by rfl,fun _ _=>by rfl⟩) hHeld ?_
  try simp only [Act.put,List.getElem_toArray,List.getElem_cons_zero,List.getElem_cons_succ,List.setIfInBounds_toArray,List.set_cons_zero,List.set_cons_succ]
  refine wpAnyH_ready (rs:=[18]) (by kernel_rfl) (by simp) ?_
  refine AllReadyH.cons rfl (fun K hK=>?_) AllReadyH.nil
  rw [if_pos (by rfl)]
  have c8:w7.cell? ⟨P,12,none⟩=some (.string nm):=HP8.out.at0 12 _ rfl
  have fz8:=HP8.out.frz
  go_simp
  have HZ9:Hid (BoxW (w7.setCell ⟨P,12,none⟩ (.string p)) Z (drV x y ((k:Int)+1))):=HZ8.out.butS (ButS.refl (some ⟨P,0,none⟩) _).set (fun A e=>by cases e;have:=HPZ.out;simp only;omega)
  have HP9:Hid (BoxW (w7.setCell ⟨P,12,none⟩ (.string p)) P [.slice (some ⟨tb,tf,none⟩) len cap,.int .i64 now,.int .i64 u,.int .i64 g,.slice ca cl cc,.bool r,.slice (some ⟨b,off2,none⟩) ps.length (pc-1),.bool sl,.bool th,.int .i64 lk,.int .i64 fn,.int .i64 ((k:Int)+1),.string p]):=HP8.out.set 12 (by simp) (.string p)
  have HR9:Hid (RowB (w7.setCell ⟨P,12,none⟩ (.string p)) b off2 ps):=HR8.out.but (ButS.refl (some ⟨P,0,none⟩) _).set (fun A e=>by cases e;exact HPb.out.2.1)
  have HU9:Hid (ButS (some ⟨P,0,none⟩) w (w7.setCell ⟨P,12,none⟩ (.string p))):=HU8.out.set
  have HB9:Hid (Below wb.heap.size wb (w7.setCell ⟨P,12,none⟩ (.string p))):=setS HB8.out HPb.out.1
  refine hK.out _ _ ⟨dr_nd HZ9.out.at0,HZ9.out.at0 24 _ rfl⟩ (fun hHeld=>?_)
  clear hK K c8 fz8 HZ8 HP8 HR8 HU8 HB8
  generalize (w7.setCell ⟨P,12,none⟩ (.string p))=w8 at HZ9 HP9 HR9 HU9 HB9 hHeld ⊢
  try simp only [Act.put,List.getElem_toArray,List.getElem_cons_zero,List.getElem_cons_succ,List.setIfInBounds_toArray,List.set_cons_zero,List.set_cons_succ]
  refine wpAnyH_done (by kernel_rfl) ?_ _
  clear hHeld HZ9
  have p10:w8.cell? ⟨P,10,none⟩=some (.int .i64 fn):=HP9.out.at0 10 _ rfl
  have p6:w8.cell? ⟨P,6,none⟩=some (.slice (some ⟨b,off2,none⟩) ps.length (pc-1)):=HP9.out.at0 6 _ rfl
  cases hf:(fn==0)
  · clear HE3
    go_wp2
    go_ret
    refine ⟨HU9.out,(fun h=>by cases h),fun _ h=>?_,fun _ _=>⟨rfl,some ⟨b,off2,none⟩,pc-1,?_,fun _=>⟨b,off2,rfl,HPb.out.2.1,HR9.out⟩,HL4.out⟩⟩
    · rw [HG.out, hf] at h
      cases h
    · rw [HG.out]
      exact HP9.out
  · by_cases hz : ps = []
    · have hz0 : ps.length = 0 := by rw [hz]; rfl
      have hze:ps.isEmpty=true:=by rw [hz];rfl
      have hzi:(decide ((ps.length:Int) > 0))=false:=by simp [hz0]
      have p6':w8.cell? ⟨P,6,none⟩=some (.slice (some ⟨b,off2,none⟩) 0 (pc-1)):=by rw [p6,hz0]
      clear p6 HE3
      go_wp2
      go_ret
      refine ⟨HU9.out,(fun h=>by cases h),fun _ h=>?_,fun _ _=>⟨rfl,some ⟨b,off2,none⟩,pc-1,?_,fun _=>⟨b,off2,rfl,HPb.out.2.1,HR9.out⟩,HL4.out⟩⟩
      · rw [hze, Bool.not_true, Bool.and_false] at h
        cases h
      · rw [HG.out]
        exact HP9.out
    · have hzl : 0 < ps.length := List.length_pos_iff.2 hz
      have hzi:(0:Int)<(ps.length:Int):=by omega
      have hze:ps.isEmpty=false:=by cases ps with
        | nil=>exact absurd rfl hz
        | cons _ _=>rfl
      have e5:=HE3.out _ HB9.out
      clear HE3
      go_wp2
      go_ret
      refine ⟨HU9.out,(fun h=>by cases h),fun _ _=>rfl,fun _ h=>?_⟩
      rw [HG.out,hf,hze] at h
      cases h
end Go.Proofs.YtabfdidnjibdeaaGreatDoor
