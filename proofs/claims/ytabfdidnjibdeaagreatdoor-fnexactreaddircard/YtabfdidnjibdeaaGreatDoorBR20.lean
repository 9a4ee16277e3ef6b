/- Laid together: TxX, PpS, WkM, PpT. -/
import Derived.Test.YtabfdidnjibdeaaGreatDoorBR19
import Derived.Test.YtabfdidnjibdeaaGreatDoorBR17
namespace Go.Proofs.YtabfdidnjibdeaaGreatDoor
open Go.RowKit Go.PlainAid Go.Deep
set_option linter.unusedVariables false
theorem append_textX (w0 w:World)(v:Value)(l:List ByteArray)(hown:w.ownsRow w0.heap.size 9 1 v l.length (tv l))(hB:Below w0.heap.size w0 w)(x:ByteArray)(hsm:l.length≤100000) :
    ∃ v' w',(Builtin.append_ #[50,50] 50 #[v,.slice (some ⟨w.heap.size,0,none⟩) 1 1]).run Tryz.prog (w.alloc (.cells #[.string x] 9))=.ok v' w'∧w'.ownsRow w0.heap.size 9 1 v' (l++[x]).length (tv (l++[x]))∧Below w0.heap.size w0 w'∧w.heap.size≤w'.heap.size∧(∀ b,b<w.heap.size→v.ownBlock≠some b→w'.heap[b]?=w.heap[b]?)∧(∀ k,v'.ownBlock=some k→v.ownBlock=some k∨w.heap.size≤k):=by
  obtain ⟨i,hi,hzz⟩:=Option.map_eq_some_iff.1 infoStr
  simp only [Prod.mk.injEq] at hzz
  obtain ⟨hz,hs,hb⟩:=hzz
  have hb1:=bel_alloc w (.cells #[.string x] 9)
  have hB1:=Below.on hB hb1
  have hown1:=rowT_below hown hb1
  have hnw:=text_new w x 9
  have hone:=one_text x
  obtain ⟨v',w',hr,h1,h2,_⟩:=run_append_own (P:=Tryz.prog) _ w0.heap.size 50 50 9 i _ 1 16 Tryz.underlying50 hi hz hs hb rfl (by decide) v l.length (tv l) hown1 ⟨w.heap.size,0,none⟩ 1 1 [.string x] rfl hnw hone (by unfold maxLen;omega) (by omega) hB1.size
  have hsz:w.heap.size≤w'.heap.size:=Nat.le_trans (by simp) h2.size
  refine ⟨v',w',hr,?_,hB1.grown h2 hB1.size (own_blockT hown1),hsz,fun b hlt hne=>(h2.block b (by simp;omega) (fun e=>hne e.symm)).trans (hb1.block b hlt),?_⟩
  · rw [tv_snoc, List.length_append]
    exact h1
  · have hbase : w.heap.size ≤ (w.alloc (.cells #[.string x] 9)).heap.size := by simp
    generalize w.alloc (.cells #[.string x] 9)=W at *
    have hl1:[Value.string x].length=1*i.size:=by rw [hs];rfl
    have hb16:∀ n:Nat,n≤2000000→n*i.bytes≤140737488355328:=fun n hn=>by rw [hb];omega
    rcases hown1.2 with ⟨rfl,hn⟩ | ⟨g,cap,cur,rfl,hbg,hg,hnc,hcm,hcs,htake⟩
    · have hr2 := run_append_nil (P := Tryz.prog) W 50 50 9 i _ Tryz.underlying50 hi hz ⟨w.heap.size, 0, none⟩ 1 1 [.string x] hl1 hnw (by omega) (by omega) (by rw [hb]; omega)
      rw [hr2] at hr
      cases hr
      intro k hk
      simp [Value.ownBlock] at hk
      exact .inr (by omega)
    · by_cases hroom : l.length + 1 ≤ cap
      · have hr2 := run_append_room (P := Tryz.prog) W 50 50 9 i Tryz.underlying50 hi g l.length cap cur hg ⟨w.heap.size, 0, none⟩ 1 1 [.string x] hl1 hnw hone hroom (by rw [hs, hcs]; show l.length * 1 + 1 ≤ cap * 1; omega)
        rw [hr2] at hr
        cases hr
        intro k hk
        exact .inl hk
      · have hr2 := run_append_grow (P := Tryz.prog) W 50 50 9 i _ Tryz.underlying50 hi hz ⟨g, 0, none⟩ l.length cap (tv l) (by rw [hs]; exact hown1.1) (hown1.cells (g := g) rfl) ⟨w.heap.size, 0, none⟩ 1 1 [.string x] hl1 hnw (by omega) (by omega) (growslice_fits (by omega) (hb16 _ (by omega)))
        rw [hr2] at hr
        cases hr
        intro k hk
        simp [Value.ownBlock] at hk
        exact .inr (by omega)
def RowS (w:World) (a:Option Addr) (l:List ByteArray):Prop:=0<l.length→∃ b,a=some ⟨b,0,none⟩∧b<w.heap.size∧∀ (j:Nat) x,l[j]?=some x→w.cell? ⟨b,0+j,none⟩=some (.string x)
theorem RowS.below {w w':World}{a:Option Addr}{l:List ByteArray}(h:RowS w a l)(hb:Below w.heap.size w w'):RowS w' a l:=by
  intro hl
  obtain ⟨b,ha,hlt,hc⟩:=h hl
  exact ⟨b,ha,Nat.lt_of_lt_of_le hlt hb.size,fun j x hj=>(hb.cell (p:=⟨b,0+j,none⟩) hlt).trans (hc j x hj)⟩
theorem RowS.heap {w w':World}{a:Option Addr}{l:List ByteArray}(h:RowS w a l)(hs:w.heap.size≤w'.heap.size)(hb:∀ b,a=some ⟨b,0,none⟩→b<w.heap.size→w'.heap[b]?=w.heap[b]?):RowS w' a l:=by
  intro hl
  obtain ⟨b,ha,hlt,hc⟩:=h hl
  exact ⟨b,ha,Nat.lt_of_lt_of_le hlt hs,fun j x hj=>(World.cell?_of_block (a:=⟨b,0+j,none⟩) (hb b ha hlt)).trans (hc j x hj)⟩
theorem own_rowS {w:World}{B:Nat}{t:TypeId}{v:Value}{l:List ByteArray}(h:w.ownsRow B t 1 v l.length (tv l)):∃ a c,v=.slice a l.length c∧l.length≤c∧RowS w a l:=own_texts h
def Apart (v:Value) (a:Option Addr):Prop:=∀ b,a=some ⟨b,0,none⟩→v.ownBlock≠some b
theorem row_set {w:World}{B:Nat}{t:TypeId}{v:Value}{n:Nat}{xs:List Value}(h:w.ownsRow B t 1 v n xs){b o:Nat}{x:Value}(hne:v.ownBlock≠some b):(w.setCell ⟨b,o,none⟩ x).ownsRow B t 1 v n xs:=by
  obtain ⟨h0,⟨rfl,hn⟩ | ⟨g,cap,cur,rfl,hB,hg,hc,hm,hs,ht⟩⟩:=h
  · exact ⟨h0,.inl ⟨rfl,hn⟩⟩
  · have hgb : g ≠ b := fun e => hne (by simp [Value.ownBlock, e])
    exact ⟨h0,.inr ⟨g,cap,cur,rfl,hB,(Below.heap_setCell w ⟨b,o,none⟩ x g hgb).trans hg,hc,hm,hs,ht⟩⟩
theorem bts_at {l:List (List UInt8)}{k:Nat}(h:k<l.length):(bts l)[k]?=some ⟨l[k].toArray⟩:=by simp [bts,h]
theorem isE_list (x:List UInt8):((⟨x.toArray⟩:ByteArray).toList==[])=x.isEmpty:=by
  rw [Lib.toList_data]
  cases x<;>rfl
set_option maxHeartbeats 8000000 in
theorem sSplit9_any (s:ByteArray)(hs:s.size≤8000)(w:World) :
    Calls Tryz.prog 111 #[.string s] w fun e w'=>∃ v,e=.returned v∧w'.ownsRow w.heap.size 9 1 v (bts (prt s.data.toList)).length (tv (bts (prt s.data.toList)))∧Below w.heap.size w w':=by
  have hl:s.data.toList.length=s.size:=(Lib.size_eq s).symm
  have HP:Hid (prt s.data.toList=nes (spl 47 s.data.toList)):=rfl
  have hpl:(spl 47 s.data.toList).length≤8001:=by have:=spl_len 47 s.data.toList;omega
  have hO:Hid ((w.alloc (.cells #[] 9)).ownsRow w.heap.size 9 1 (.slice (some ⟨w.heap.size,0,none⟩) 0 0) (bts []).length (tv (bts []))):=World.ownsRow_made w #[] 0 (Nat.le_refl _) (by unfold maxLen;omega) rfl
  have hB0:Hid (Below w.heap.size w (w.alloc (.cells #[] 9))):=bel_alloc _ _
  have HC:Hid (∀ w,Calls Tryz.prog 160 #[.string s,.int .u8 47] w fun e w'=>∃ v,e=.returned v∧w'.ownsRow w.heap.size 9 1 v (bts (spl 47 s.data.toList)).length (tv (bts (spl 47 s.data.toList)))∧Below w.heap.size w w'):=(fun w=>sSplit_any s 47 (by omega) w)
  generalize prt s.data.toList=pp at HP ⊢
  generalize spl 47 s.data.toList=ps at HP hpl HC
  clear hl
  go_enter Tryz.func111,Tryz.ntmps111
  go_upto_region 2 with fail
  have Hsz:Hid (w.heap.size<(w.alloc (.cells #[] 9)).heap.size):=(by show _<_;simp)
  generalize w.alloc (.cells #[] 9)=w0 at hO hB0 Hsz ⊢
  go_wp2_with fail
  refine (HC.out _).mono ?_
  rintro e w1 ⟨v,rfl,hv,hb⟩
  have hB1:Hid (Below w.heap.size w w1):=Below.on hB0.out hb
  have hO1:Hid (w1.ownsRow w.heap.size 9 1 (.slice (some ⟨w.heap.size,0,none⟩) 0 0) (bts []).length (tv (bts []))):=rowT_below hO.out hb
  have hbase:∀ k,v.ownBlock=some k→w0.heap.size≤k:=own_blockT hv
  obtain ⟨a,c,rfl,hac,hcell⟩:=own_rowS hv
  have hap:Apart (.slice (some ⟨w.heap.size,0,none⟩) 0 0) a:=by
    intro b hb1 hb2
    subst hb1
    have h1:=hbase b rfl
    have h2:w.heap.size=b:=by simpa [Value.ownBlock] using hb2
    have h3:=Hsz.out
    omega
  have hbl:(bts ps).length=ps.length:=bts_len ps
  rw [hbl]
  have HRw:Hid (RowS w1 a (bts ps)):=hcell
  have HAp:Hid (Apart (.slice (some ⟨w.heap.size,0,none⟩) 0 0) a):=hap
  clear hv hb hO hB0 HC hcell hac hbase hap
  go_wp2
  go_loopw [3,5] (fun v i wr=>∃ k:Nat,k≤ps.length∧i=.int .i64 k∧Hid (wr.ownsRow w.heap.size 9 1 v (bts (nes (ps.take k))).length (tv (bts (nes (ps.take k)))))∧Hid (RowS wr a (bts ps))∧Hid (Apart v a)∧Hid (Below w.heap.size w wr)) (fun _ i _=>ps.length-(intOf i).toNat)
  case atStart=>exact ⟨0,Nat.zero_le _,rfl,hO1,HRw,HAp,hB1⟩
  case round =>
    obtain ⟨k,hk,rfl,hOw,hRw,hAp,hB⟩:=hrel
    by_cases hlt:k<ps.length
    · obtain ⟨b, rfl, hb0, hcell⟩ := hRw.out (by omega)
      have hlt':(k:Int)<(ps.length:Int):=by omega
      have h0':(0:Int)≤(k:Int):=by omega
      have g0:=hcell k _ (bts_at hlt)
      rw [Nat.zero_add] at g0
      have HNx:Hid (nes (ps.take (k+1))=nes (ps.take k)++(if ps[k].isEmpty then [] else [ps[k]])):=nes_next hlt
      have hsm:(nes (ps.take k)).length≤8001:=Nat.le_trans (nes_len _) (by rw [List.length_take];omega)
      have hE:=isE_list ps[k]
      generalize ps[k]=pk at g0 HNx hE
      clear hcell
      cases e:pk.isEmpty
      · rw [e] at hE HNx
        have hE2:=(strB_of hE).2
        obtain ⟨v2,w2,hr,hO2,hB2,hsz2,hkeep,hown2⟩:=append_textX w wr u3 (bts (nes (ps.take k))) hOw.out hB.out ⟨pk.toArray⟩ (by rw [bts_len];omega)
        have HO2:Hid (w2.ownsRow w.heap.size 9 1 v2 (bts (nes (ps.take (k+1)))).length (tv (bts (nes (ps.take (k+1)))))):=(by show World.ownsRow _ _ _ _ _ _ _;rw [HNx.out];simp only [Bool.false_eq_true,if_false];rw [bts_snoc];exact hO2)
        have HB2:Hid (Below w.heap.size w w2):=hB2
        have HR2:Hid (RowS w2 (some ⟨b,0,none⟩) (bts ps)):=hRw.out.heap hsz2 (fun b' h1 h2=>hkeep b' h2 (hAp.out b' h1))
        have HA2:Hid (Apart v2 (some ⟨b,0,none⟩)):=(fun b' h1 h2=>by
          rcases hown2 b' h2 with h3 | h3
          · exact hAp.out b' h1 h3
          · cases h1
            omega)
        generalize (⟨pk.toArray⟩:ByteArray)=x at g0 hE hE2 hr
        clear hO2 hB2 hOw hB hsz2 hkeep hown2 hRw hAp HNx
        go_wp2_with (at_builtin;refine wpList_append_runT _ rfl (.tmp 20) (.tmp 25) 50 50 rfl _ _ _ _ rfl rfl hr ?_)
        go_roundw
        case rel=>exact ⟨k+1,by omega,by go_num,HO2,HR2,HA2,HB2⟩
        case measure=>simp [intOf];omega
      · rw [e] at hE HNx
        have hE2:=(strB_of hE).2
        have HO2:Hid (wr.ownsRow w.heap.size 9 1 u3 (bts (nes (ps.take (k+1)))).length (tv (bts (nes (ps.take (k+1)))))):=(by show World.ownsRow _ _ _ _ _ _ _;rw [HNx.out];simp only [if_true,List.append_nil];exact hOw.out)
        generalize (⟨pk.toArray⟩:ByteArray)=x at g0 hE hE2
        clear HNx
        go_wp2
        go_roundw
        case rel=>exact ⟨k+1,by omega,by go_num,HO2,hRw,hAp,hB⟩
        case measure=>simp [intOf];omega
    · have : k = ps.length := by omega
      subst this
      have HEnd:Hid (wr.ownsRow w.heap.size 9 1 u3 (bts pp).length (tv (bts pp))):=(by show World.ownsRow _ _ _ _ _ _ _;have h:=hOw.out;rw [List.take_length,←HP.out] at h;exact h)
      go_wp2
      go_ret
      exact ⟨_,rfl,HEnd.out,hB.out⟩
def PpEnd (w:World) (s:ByteArray) (e:Ending) (w':World):Prop :=
  (ppC s≠0∧e=.returned (.agg #[.slice none 0 0,.bool false,.int .i64 (ppC s)])∧Below w.heap.size w w') ∨
  (ppC s=0∧∃ v,e=.returned (.agg #[v,.bool (lasB s),.int .i64 0])∧w'.ownsRow w.heap.size 9 1 v (bts (prt s.data.toList)).length (tv (bts (prt s.data.toList)))∧Below w.heap.size w w')
theorem row_base {w w0 w1:World}{t:TypeId}{v:Value}{n:Nat}{xs:List Value}(h:w1.ownsRow w0.heap.size t 1 v n xs)(hs:w.heap.size≤w0.heap.size):w1.ownsRow w.heap.size t 1 v n xs:=by
  obtain ⟨h1,h2 | ⟨g,cap,cur,hv,hb,hr⟩⟩:=h
  · exact ⟨h1,.inl h2⟩
  · exact ⟨h1,.inr ⟨g,cap,cur,hv,Nat.le_trans hs hb,hr⟩⟩
theorem bts_get {l:List (List UInt8)}{k:Nat}(h:k<l.length):l[k]=l.getD k []:=by simp [h]
def hasN (ns:List (ByteArray × Int)) (p:List UInt8):Nat→Bool
  | 0=>false
  | k+1=>hasN ns p k||((nmAt ns k).toList==p)
def fdT (ns:List (ByteArray × Int)) (p:List UInt8):Nat→Int
  | 0=>0
  | k+1=>if hasN ns p k then fdT ns p k else if (nmAt ns k).toList==p then noAt ns k else 0
theorem hasN_next {ns:List (ByteArray × Int)}{p:List UInt8}{k m:Nat}(h:hasN ns p k=true)(hk:k≤m):hasN ns p m=true:=by
  induction m with
  | zero =>
    have:k=0:=by omega
    rw [this] at h
    exact h
  | succ m ih =>
    by_cases e:k=m+1
    · rw [←e];exact h
    · simp only [hasN,ih (by omega),Bool.true_or]
theorem fdT_at {ns:List (ByteArray × Int)}{p:List UInt8}{k:Nat}(h:hasN ns p k=false)(e:((nmAt ns k).toList==p)=true):∀ m,k<m→fdT ns p m=noAt ns k
  | 0,h0=>by omega
  | m+1,h0=>by
    by_cases q:k=m
    · subst q;simp only [fdT,h,e,if_true,Bool.false_eq_true,if_false]
    · have h1 : hasN ns p m = true := hasN_next (k := k + 1) (by simp only [hasN, e, Bool.or_true]) (by omega)
      simp only [fdT,h1,if_true];exact fdT_at h e m (by omega)
theorem fdT_none {ns:List (ByteArray × Int)}{p:List UInt8}:∀ m,hasN ns p m=false→fdT ns p m=0
  | 0,_=>rfl
  | m+1,h=>by
    simp only [hasN,Bool.or_eq_false_iff] at h
    simp only [fdT,h.1,h.2,Bool.false_eq_true,if_false]
theorem fdT_there {l:List Nd}{ns:List (ByteArray × Int)}{p:List UInt8}:∀ m,nsT l ns m=true→fdT ns p m≠0→thB l (fdT ns p m)=true
  | 0,_,h=>absurd rfl h
  | m+1,h,h2=>by
    simp only [nsT,okE,Bool.and_eq_true] at h
    simp only [fdT] at h2 ⊢
    split
    · rename_i e
      rw [if_pos e] at h2
      exact fdT_there m h.1 h2
    · rename_i e
      rw [if_neg e] at h2
      split
      · exact h.2.2.2.1
      · rename_i e2
        rw [if_neg e2] at h2
        exact absurd rfl h2
structure Wy where
  at_:Int
  d:Int
  nm:ByteArray
  ps:List ByteArray
  lk:Nat
def emp:ByteArray:=⟨#[]⟩
def pbo (b:ByteArray):List ByteArray:=bts (prt b.data.toList)
def went (l:List Nd) (fs:Bool) (s:Wy) (p:ByteArray) (ps:List ByteArray) (n:Int):Int × Wy :=
  if n==0 then (if ps.isEmpty then (0,⟨0,s.at_,p,[],s.lk⟩) else (6,s))
  else if (ndAt l (n-1).toNat).k==3&&(fs||!ps.isEmpty) then
    (if 8≤s.lk then (14,s)
    else if firB (ndAt l (n-1).toNat).bo then (0,⟨1,1,emp,pbo (ndAt l (n-1).toNat).bo++ps,s.lk+1⟩)
    else (0,⟨s.at_,s.at_,emp,pbo (ndAt l (n-1).toNat).bo++ps,s.lk+1⟩))
  else (0,⟨n,s.at_,p,ps,s.lk⟩)
def wst (l:List Nd) (lt:Nat→Bool) (fs:Bool) (s:Wy) (p:ByteArray) (ps:List ByteArray):Int × Wy :=
  if (ndAt l (s.at_-1).toNat).k==1 then
    if lt (s.at_-1).toNat then
      if p.toList==[46] then (0,⟨s.at_,s.at_,emp,ps,s.lk⟩)
      else if p.toList==[46,46] then (0,⟨(ndAt l (s.at_-1).toNat).up,(ndAt l (s.at_-1).toNat).up,emp,ps,s.lk⟩)
      else went l fs s p ps (fdT (ndAt l (s.at_-1).toNat).ns p.toList (ndAt l (s.at_-1).toNat).ns.length)
    else (11,s)
  else (12,s)
def wrun (l:List Nd) (lt:Nat→Bool) (fs:Bool):Nat→Wy→Int × Wy
  | 0,s=>(0,s)
  | f+1,s=>match s.ps with
    | []=>(0,s)
    | p :: ps=>if (wst l lt fs s p ps).1==0 then wrun l lt fs f (wst l lt fs s p ps).2 else wst l lt fs s p ps
def wmu (s:Wy):Nat:=(9-s.lk)*1000+s.ps.length
structure WyOk (l:List Nd) (s:Wy):Prop where
  z:s.at_=0→s.ps=[]
  th:s.at_≠0→thB l s.at_=true
  dn:s.nm.toList=[]→s.d=s.at_
  lk:s.lk≤8
  len:s.ps.length≤61+41*s.lk
  ne:∀ p ∈ s.ps,p.toList≠[]
theorem pbo_ne (b:ByteArray):∀ p ∈ pbo b,p.toList≠[]:=by
  intro p hp
  simp only [pbo,bts,prt,nes,List.mem_map,List.mem_filter] at hp
  obtain ⟨x,⟨_,hx⟩,rfl⟩:=hp
  intro h
  rw [Lib.toList_data] at h
  simp at h
  rw [h] at hx
  simp at hx
theorem pbo_len (b:ByteArray):(pbo b).length≤b.size+1:=by
  rw [pbo,bts_len]
  have h1:=prt_len b.data.toList
  have h2:b.data.toList.length=b.size:=(Lib.size_eq b).symm
  omega
theorem link_body {l:List Nd}{now:Int}{j:Nat}(ht:treeB l now=true)(hth:thB l ((j:Int)+1)=true)(hk:((ndAt l j).k==3)=true):signsB (ndAt l j).bo 40=true:=by
  have h:=node_is ht hth
  simp only [nodeB,Bool.and_eq_true] at h
  have h2:=h.2.2.2.2.2.2.2
  have e:(ndAt l j).k=3:=by simpa using hk
  simp only [kindB,e] at h2
  simp only [show ((3:Int)==1)=false from rfl,show ((3:Int)==2)=false from rfl,show ((3:Int)==3)=true from rfl,Bool.false_eq_true,if_false,if_true,Bool.and_eq_true] at h2
  exact h2.2
theorem th_num {l:List Nd}{n:Int}(hd:thB l n=true):∃ k:Nat,n=(k:Int)+1∧k<l.length:=by
  have hin:=inR_iff.1 (thB_num hd)
  exact ⟨(n-1).toNat,by omega,by omega⟩
theorem wst_ok {l:List Nd}{now:Int}{lt:Nat→Bool}{fs:Bool}{s:Wy}{p:ByteArray}{ps:List ByteArray}(ht:treeB l now=true)(h:WyOk l s)(hp:s.ps=p :: ps)(h0:(wst l lt fs s p ps).1=0):WyOk l (wst l lt fs s p ps).2∧wmu (wst l lt fs s p ps).2<wmu s:=by
  have hlen:=h.len
  have hne:=h.ne
  have hlk:=h.lk
  rw [hp] at hlen hne
  simp only [List.length_cons] at hlen
  have hne2:∀ q ∈ ps,q.toList≠[]:=fun q hq=>hne q (List.mem_cons_of_mem _ hq)
  have hpn:p.toList≠[]:=hne p (List.mem_cons_self)
  have hmu:wmu s=(9-s.lk)*1000+(ps.length+1):=by rw [wmu,hp];rfl
  have hat:s.at_≠0:=fun e=>by have:=h.z e;rw [hp] at this;cases this
  have hth:=h.th hat
  obtain ⟨k,hk,hkl⟩:=th_num hth
  have hone:thB l 1=true:=diB_th (di_one (tree_one ht) (by simp only [treeB,Bool.and_eq_true] at ht;exact ht.2.2.2.1))
  unfold wst at h0 ⊢
  split
  · rename_i e1
    rw [if_pos e1] at h0
    have hdk:diB l ((k:Int)+1)=true:=by
      rw [hk,at_succ] at e1
      rw [diB_in (by rw [←hk];exact hth)]
      exact e1
    split
    · rename_i e2
      rw [if_pos e2] at h0
      split
      · exact ⟨⟨fun e=>absurd e hat,fun _=>hth,fun _=>rfl,hlk,by simp only;omega,hne2⟩,by rw [hmu];show (9-s.lk)*1000+ps.length<_;omega⟩
      · rename_i e3
        rw [if_neg e3] at h0
        split
        · have hup := (dir_facts ht hdk).up
          rw [hk,at_succ]
          have hu:=diB_th hup
          refine ⟨⟨fun e=>?_,fun _=>hu,fun _=>rfl,hlk,by simp only;omega,hne2⟩,by rw [hmu];show (9-s.lk)*1000+ps.length<_;omega⟩
          obtain ⟨q,hq,_⟩:=th_num hu
          simp only at e
          omega
        · rename_i e4
          rw [if_neg e4] at h0
          rw [hk,at_succ] at h0 ⊢
          have hns:=(nsB_T (dir_facts ht hdk).ns).2
          generalize hn:fdT (ndAt l k).ns p.toList (ndAt l k).ns.length=n at h0 ⊢
          unfold went at h0 ⊢
          have hnt:n≠0→thB l n=true:=fun e=>by rw [←hn];exact fdT_there _ hns (by rw [hn];exact e)
          split
          · rename_i e5
            rw [if_pos e5] at h0
            split
            · exact ⟨⟨fun _=>rfl,fun e=>absurd rfl e,fun e=>absurd e hpn,hlk,by simp only [List.length_nil];omega,fun q hq=>by cases hq⟩,by rw [hmu];show (9-s.lk)*1000+0<_;omega⟩
            · rename_i e6
              rw [if_neg e6] at h0
              exact absurd h0 (by simp)
          · rename_i e5
            rw [if_neg e5] at h0
            have hn0:n≠0:=by simpa using e5
            obtain ⟨j,hj,hjl⟩:=th_num (hnt hn0)
            split
            · rename_i e6
              rw [if_pos e6] at h0
              split
              · rename_i e7
                rw [if_pos e7] at h0
                exact absurd h0 (by simp)
              · rename_i e7
                have hb:((ndAt l (n-1).toNat).bo).size≤40:=by
                  rw [hj,at_succ] at e6 ⊢
                  simp only [Bool.and_eq_true] at e6
                  exact (signs_len (link_body ht (by rw [←hj];exact hnt hn0) e6.1)).2
                generalize (ndAt l (n-1).toNat).bo=bo at hb ⊢
                have hbl:=pbo_len bo
                have hbn:∀ q ∈ pbo bo++ps,q.toList≠[]:=fun q hq=>by
                  rcases List.mem_append.1 hq with hq | hq
                  · exact pbo_ne bo q hq
                  · exact hne2 q hq
                split
                · exact ⟨⟨fun e=>by simp only at e;omega,fun _=>hone,fun _=>rfl,by simp only;omega,by simp only [List.length_append];omega,hbn⟩,by rw [hmu];show (9-(s.lk+1))*1000+(pbo bo++ps).length<_;rw [List.length_append];omega⟩
                · exact ⟨⟨fun e=>absurd (by simp only at e;omega) hat,fun _=>hth,fun _=>rfl,by simp only;omega,by simp only [List.length_append];omega,hbn⟩,by rw [hmu];show (9-(s.lk+1))*1000+(pbo bo++ps).length<_;rw [List.length_append];omega⟩
            · exact ⟨⟨fun e=>absurd e hn0,fun _=>hnt hn0,fun e=>absurd e hpn,hlk,by simp only;omega,hne2⟩,by rw [hmu];show (9-s.lk)*1000+ps.length<_;omega⟩
    · rename_i e2
      rw [if_neg e2] at h0
      exact absurd h0 (by simp)
  · rename_i e1
    rw [if_neg e1] at h0
    exact absurd h0 (by simp)
set_option maxHeartbeats 8000000 in
theorem sPathParts_any (s:ByteArray)(hs:s.size≤1048576)(w:World) :
    Calls Tryz.prog 66 #[.string s] w fun e w'=>PpEnd w s e w':=by
  have hmx:s.size≤maxLen:=by unfold maxLen;omega
  have HSg:Hid (∀ w,Calls Tryz.prog 110 #[.string s,.int .i64 60] w fun e w'=>e=.returned (.bool (signsB s 60))∧w'=w):=(fun w=>sBytes_any s 60 (by omega) hmx w)
  clear hmx
  have HB:Hid (Below w.heap.size w (w.alloc (.cells #[.slice none 0 0,.bool false,.int .i64 0] 66))):=bel_alloc _ _
  have HX:Hid (BoxW (w.alloc (.cells #[.slice none 0 0,.bool false,.int .i64 0] 66)) w.heap.size [.slice none 0 0,.bool false,.int .i64 0]):=boxW_new w [.slice none 0 0,.bool false,.int .i64 0] 66
  go_enter Tryz.func66,Tryz.ntmps66
  go_upto_region 1 with fail
  generalize w.alloc (.cells #[.slice none 0 0,.bool false,.int .i64 0] 66)=w0 at HB HX ⊢
  obtain ⟨X,hX⟩:∃ X,X=w.heap.size:=⟨_,rfl⟩
  have HXw:Hid (w.heap.size≤X):=Nat.le_of_eq hX.symm
  rw [←hX] at HX ⊢
  clear hX
  have x0:w0.cell? ⟨X,0,none⟩=some (.slice none 0 0):=HX.out.at0 0 _ rfl
  have x1:w0.cell? ⟨X,1,none⟩=some (.bool false):=HX.out.at0 1 _ rfl
  have x2:w0.cell? ⟨X,2,none⟩=some (.int .i64 0):=HX.out.at0 2 _ rfl
  have fz:∀ o,w0.frozen? ⟨X,o,none⟩=false:=HX.out.frz
  by_cases h8:8000<s.size
  · have hC := ppC_size h8
    have h8':(8000:Int)<(s.size:Int):=by omega
    clear HSg
    go_wp2
    refine bodyPost_ret (v:=.agg #[.slice none 0 0,.bool false,.int .i64 2]) (by simp [results,Tryz.results66,go_sem,x0,x1,x2]) rfl ?_
    exact .inl ⟨by rw [hC];decide,by rw [hC],(by repeat (first | exact HB.out | refine bl_setT ?_ HXw.out))⟩
  have h8':¬ (8000:Int)<(s.size:Int):=by omega
  cases h6:signsB s 60
  · have hC := ppC_form h8 (by rw [h6]; rfl)
    rw [h6] at HSg
    clear h8
    go_wp2_with (go_at_call 110;refine (HSg.out _).mono ?_;rintro e w1 ⟨rfl,hw⟩;have hw2:=hw.symm;clear hw;subst hw2)
    refine bodyPost_ret (v:=.agg #[.slice none 0 0,.bool false,.int .i64 1]) (by simp [results,Tryz.results66,go_sem,x0,x1,x2]) rfl ?_
    exact .inl ⟨by rw [hC];decide,by rw [hC],(by repeat (first | exact HB.out | refine bl_setT ?_ HXw.out))⟩
  rw [h6] at HSg
  obtain ⟨hn1,hn2⟩:=signs_len h6
  have h1:0<s.size:=hn1
  have h1':(0:Int)<(s.size:Int):=by omega
  have hq:(((s[0]'h1).toNat:Int)==47)=firB s:=by rw [firB,bt,dif_pos h1]
  cases h7:firB s
  · have hC := ppC_form h8 (by rw [h6, h7]; rfl)
    rw [h7] at hq
    clear h8 h6 h7
    have hqn:(((s[0]'h1).toNat:Int) != 47)=true:=by rw [bne,hq];rfl
    go_wp2_with (go_at_call 110;refine (HSg.out _).mono ?_;rintro e w1 ⟨rfl,hw⟩;have hw2:=hw.symm;clear hw;subst hw2)
    refine bodyPost_ret (v:=.agg #[.slice none 0 0,.bool false,.int .i64 1]) (by simp [results,Tryz.results66,go_sem,x0,x1,x2]) rfl ?_
    exact .inl ⟨by rw [hC];decide,by rw [hC],(by repeat (first | exact HB.out | refine bl_setT ?_ HXw.out))⟩
  rw [h7] at hq
  have hqn:(((s[0]'h1).toNat:Int) != 47)=false:=by rw [bne,hq];rfl
  have HCr:Hid (lng (prt s.data.toList)=true→ppC s=8):=(fun h=>ppC_range h8 (by rw [h6,h7];rfl) h)
  have HCo:Hid (lng (prt s.data.toList)=false→ppC s=0):=(fun h=>ppC_ok h8 (by rw [h6,h7];rfl) h)
  have HSp:Hid (∀ w,Calls Tryz.prog 111 #[.string s] w fun e w'=>∃ v,e=.returned v∧w'.ownsRow w.heap.size 9 1 v (bts (prt s.data.toList)).length (tv (bts (prt s.data.toList)))∧Below w.heap.size w w'):=(fun w=>sSplit9_any s (by omega) w)
  have hpl:(prt s.data.toList).length≤61:=by
    have h1:=prt_len s.data.toList
    have h2:s.data.toList.length=s.size:=(Lib.size_eq s).symm
    omega
  obtain ⟨n,hn⟩:∃ n:Nat,s.size=n+1:=⟨s.size-1,by omega⟩
  have hnl:n<s.size:=by omega
  have hql:(((s[n]'hnl).toNat:Int)==47)=lasB s:=by
    have e:s.size-1=n:=by omega
    rw [lasB,e,bt,dif_pos hnl]
  have HLas:Hid (lasB s=lasB s):=rfl
  have HPE:Hid (∀ e w',(ppC s≠0∧e=.returned (.agg #[.slice none 0 0,.bool false,.int .i64 (ppC s)])∧Below w.heap.size w w')∨(ppC s=0∧∃ v,e=.returned (.agg #[v,.bool (lasB s),.int .i64 0])∧w'.ownsRow w.heap.size 9 1 v (bts (prt s.data.toList)).length (tv (bts (prt s.data.toList)))∧Below w.heap.size w w')→PpEnd w s e w'):=(fun e w' h=>h)
  generalize lasB s=lb at hql HPE
  generalize prt s.data.toList=pp at HCr HCo HSp hpl HPE
  have HN':Hid ((s.size:Int)=(n:Int)+1):=(by show _=_;omega)
  have HQL:Hid ((((s[n]'hnl).toNat:Int)==47)=lb):=hql
  clear h8 h6 h7 hs hn1 hn2 HLas hn hql
  go_upto_region 5 with (go_at_call 110;refine (HSg.out _).mono ?_;rintro e w1 ⟨rfl,hw⟩;have hw2:=hw.symm;clear hw;subst hw2)
  go_wp2_with fail
  refine (HSp.out _).mono ?_
  rintro e w1 ⟨v,rfl,hv,hb⟩
  have HB0:Hid (w.heap.size≤w0.heap.size):=HB.out.size
  have HXl:Hid (X<w0.heap.size):=HX.out.lt
  replace HB:Hid (Below w.heap.size w w1):=Below.on HB.out hb
  replace HX:Hid (BoxW w1 X [.slice none 0 0,.bool false,.int .i64 0]):=HX.out.below hb
  replace x0:w1.cell? ⟨X,0,none⟩=some (.slice none 0 0):=HX.out.at0 0 _ rfl
  replace x1:w1.cell? ⟨X,1,none⟩=some (.bool false):=HX.out.at0 1 _ rfl
  replace x2:w1.cell? ⟨X,2,none⟩=some (.int .i64 0):=HX.out.at0 2 _ rfl
  replace fz:∀ o,w1.frozen? ⟨X,o,none⟩=false:=HX.out.frz
  have HOw:Hid (w1.ownsRow w.heap.size 9 1 v (bts pp).length (tv (bts pp))):=row_base hv HB0.out
  have HNe:Hid (v.ownBlock≠some X):=(fun e=>by have h1:=own_blockT hv X e;have h2:=HXl.out;omega)
  obtain ⟨a,c,rfl,hac,hcell⟩:=own_rowS hv
  have HRw:Hid (RowS w1 a (bts pp)):=hcell
  have hbl:(bts pp).length=pp.length:=bts_len pp
  have HOw2:Hid (w1.ownsRow w.heap.size 9 1 (.slice a pp.length c) (bts pp).length (tv (bts pp))):=(by have h:=HOw.out;rw [hbl] at h;show World.ownsRow _ _ _ _ _ _ _;rw [hbl];exact h)
  rw [hbl] at HNe ⊢
  clear hv hb hcell hac HSp HSg HB0
  go_wp2
  go_loop [4] (fun i=>∃ k:Nat,k≤pp.length∧i=.int .i64 k∧Hid (lngTo pp k=false)) (fun i=>pp.length-(intOf i).toNat)
  case atStart=>exact ⟨0,Nat.zero_le _,rfl,rfl⟩
  case round =>
    obtain ⟨k,hk,rfl,hno⟩:=hrel
    by_cases hlt:k<pp.length
    · obtain ⟨b, rfl, hb0, hcell⟩ := HRw.out (by omega)
      have hlt':(k:Int)<(pp.length:Int):=by omega
      have h0':(0:Int)≤(k:Int):=by omega
      have g0:=hcell k _ (bts_at hlt)
      rw [Nat.zero_add] at g0
      have hgl:(⟨pp[k].toArray⟩:ByteArray).size=pp[k].length:=rfl
      have hgd:=bts_get hlt
      have HLy:Hid (12<(pp.getD k []).length→lng pp=true):=(fun h=>lngTo_yes hlt h)
      have HLn:Hid (¬ 12<(pp.getD k []).length→lngTo pp (k+1)=false):=(fun h=>lngTo_next hno.out h)
      rw [←hgd,←hgl] at HLy HLn
      generalize (⟨pp[k].toArray⟩:ByteArray)=x at g0 HLy HLn
      clear hcell hgl hgd
      by_cases h12:12<x.size
      · have hC : ppC s = 8 := HCr.out (HLy.out h12)
        have h12':(12:Int)<(x.size:Int):=by omega
        go_wp2
        refine bodyPost_ret (v:=.agg #[.slice none 0 0,.bool false,.int .i64 8]) (by simp [results,Tryz.results66,go_sem,x0,x1,x2]) rfl ?_
        exact HPE.out _ _ (.inl ⟨by rw [hC];decide,by rw [hC],(by repeat (first | exact HB.out | refine bl_setT ?_ HXw.out))⟩)
      · have hnx : Hid (lngTo pp (k + 1) = false) := HLn.out h12
        have h12':¬ (12:Int)<(x.size:Int):=by omega
        go_wp2
        go_round
        case rel=>exact ⟨k+1,by omega,by go_num,hnx⟩
        case measure=>simp [intOf];omega
    · have : k = pp.length := by omega
      subst this
      have hC:ppC s=0:=HCo.out hno.out
      have hql2:=HQL.out
      have hn':=HN'.out
      go_wp2
      refine bodyPost_ret (v:=.agg #[.slice a pp.length c,.bool lb,.int .i64 0]) (by simp [results,Tryz.results66,go_sem,x0,x1,x2]) rfl ?_
      refine HPE.out _ _ (.inr ⟨hC,_,rfl,?_,(by repeat (first | exact HB.out | refine bl_setT ?_ HXw.out))⟩)
      exact row_set (row_set (row_set HOw2.out HNe.out) HNe.out) HNe.out
end Go.Proofs.YtabfdidnjibdeaaGreatDoor
