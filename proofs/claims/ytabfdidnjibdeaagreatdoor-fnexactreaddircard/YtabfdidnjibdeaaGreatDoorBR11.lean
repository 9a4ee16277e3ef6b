/- Laid together: NewR, Fresh, Copy, CpM. -/
import Derived.Test.YtabfdidnjibdeaaGreatDoorBR10
import Derived.Test.YtabfdidnjibdeaaGreatDoorBR8
namespace Go.Proofs.YtabfdidnjibdeaaGreatDoor
open Go.RowKit Go.PlainAid Go.Deep
set_option linter.unusedVariables false
structure New (w w':World) (au:Option Addr) (lu:Nat) (us:List (Int × Int)) (ag:Option Addr) (lg:Nat) (gs:List (Int × Int)):Prop where
  ou:Own au lu us w'
  og:Own ag lg gs w'
  iu:∀ A,au=some A→w.heap.size≤A.block∧A.block<w'.heap.size
  ig:∀ A,ag=some A→w.heap.size≤A.block∧A.block<w'.heap.size
  ne:∀ A A2,au=some A→ag=some A2→A.block≠A2.block
  bel:Below w.heap.size w w'
theorem New.on {w w' w2:World}{au:Option Addr}{lu:Nat}{us:List (Int × Int)}{ag:Option Addr}{lg:Nat}{gs:List (Int × Int)}(h:New w w' au lu us ag lg gs)(hb:Below w'.heap.size w' w2):New w w2 au lu us ag lg gs :=
  ⟨h.ou.below hb,h.og.below hb,fun A e=>⟨(h.iu A e).1,Nat.lt_of_lt_of_le (h.iu A e).2 hb.size⟩,fun A e=>⟨(h.ig A e).1,Nat.lt_of_lt_of_le (h.ig A e).2 hb.size⟩,h.ne,Below.on h.bel hb⟩
theorem New.pre {w w0 w':World}{au:Option Addr}{lu:Nat}{us:List (Int × Int)}{ag:Option Addr}{lg:Nat}{gs:List (Int × Int)}(h:New w w' au lu us ag lg gs)(hb:Below w0.heap.size w0 w):New w0 w' au lu us ag lg gs :=
  ⟨h.ou,h.og,fun A e=>⟨Nat.le_trans hb.size (h.iu A e).1,(h.iu A e).2⟩,fun A e=>⟨Nat.le_trans hb.size (h.ig A e).1,(h.ig A e).2⟩,h.ne,Below.on hb h.bel⟩
theorem New.set {w w':World}{au:Option Addr}{lu:Nat}{us:List (Int × Int)}{ag:Option Addr}{lg:Nat}{gs:List (Int × Int)}{b o:Nat}{v:Value}(h:New w w' au lu us ag lg gs)(hb:w.heap.size≤b)(h1:∀ A,au=some A→b≠A.block)(h2:∀ A,ag=some A→b≠A.block):New w (w'.setCell ⟨b,o,none⟩ v) au lu us ag lg gs :=
  ⟨h.ou.set (fun B e=>h1 _ e),h.og.set (fun B e=>h2 _ e),fun A e=>by simpa using h.iu A e,fun A e=>by simpa using h.ig A e,h.ne,bl_setN h.bel hb⟩
theorem own_start2 (w:World)(X:Nat)(hX:X=w.heap.size)(t:TypeId):(w.alloc (.cells #[] t)).ownsRow X t 2 (.slice (some ⟨X,0,none⟩) 0 0) ([]:List (Int × Int)).length (pc []):=by
  subst hX
  refine ⟨rfl,.inr ⟨w.heap.size,0,#[],rfl,Nat.le_refl _,?_,Nat.le_refl _,by decide,rfl,rfl⟩⟩
  rw [World.alloc]
  exact Array.getElem?_push_size
theorem append_copyB (w:World)(X:Nat)(hX:X=w.heap.size)(a:Option Addr)(len cap:Nat)(l:List (Int × Int))(hp:Prs a len l w)(hN:len≤2000000) :
    ∃ a' c' w',(Builtin.append_ #[79,79] 79 #[.slice (some ⟨X,0,none⟩) 0 0,.slice a len cap]).run Tryz.prog (w.alloc (.cells #[] 180))=.ok (.slice a' len c') w'∧len≤c'∧Own a' len l w'∧(∀ A,a'=some A→X≤A.block∧A.block<w'.heap.size)∧Below w.heap.size w w':=by
  have ho:=own_start2 w X hX 180
  have hb:=bel_alloc w (.cells #[] 180)
  obtain ⟨v',w',hr,hO,hg⟩:=run_append_prs (P:=Tryz.prog) (w.alloc (.cells #[] 180)) X 79 79 180 Tryz.underlying79 infoNamedC _ [] ho a len cap l (hp.below hb) (by simp;omega) (by simp;omega)
  rw [List.nil_append] at hO
  obtain ⟨a',c',rfl,h1,h2⟩:=own_of_row hO
  have hcp:=own_cap hO
  have e:=hp.1
  rw [e] at h1 hr hcp
  refine ⟨a',c',w',hr,hcp,h1,h2,?_⟩
  subst hX
  exact hb.grown hg (by simp) (own_blockN ho)
set_option maxRecDepth 100000 in
set_option maxHeartbeats 4000000 in
theorem sCopy_capB (u g o:Int)(au:Option Addr)(lu cu:Nat)(ag:Option Addr)(lg cg:Nat)(r:Bool)(m:Int)(us gs:List (Int × Int))(w:World)(hu:Prs au lu us w)(hg:Prs ag lg gs w)(hl1:lu≤2000000)(hl2:lg≤2000000) :
    Calls Tryz.prog 180 #[.agg #[.int .i64 u,.int .i64 g,.int .i64 o,.slice au lu cu,.slice ag lg cg,.bool r,.int .i64 m]] w fun e w'=>∃ a1 c1 a2 c2,e=.returned (.agg #[.int .i64 u,.int .i64 g,.int .i64 o,.slice a1 lu c1,.slice a2 lg c2,.bool r,.int .i64 m])∧New w w' a1 lu us a2 lg gs∧lu≤c1∧lg≤c2:=by
  have HG:Hid (Prs ag lg gs w):=hg
  have hb0:=bl2N w (.cells #[.int .i64 u,.int .i64 g,.int .i64 o,.slice au lu cu,.slice ag lg cg,.bool r,.int .i64 m] 81) (.cells #[.int .i64 0,.int .i64 0,.int .i64 0,.slice none 0 0,.slice none 0 0,.bool false,.int .i64 0] 81)
  obtain ⟨a1,c1,w1,hr1,hcp1,hO1,hin1,hb1⟩:=append_copyB ((w.alloc (.cells #[.int .i64 u,.int .i64 g,.int .i64 o,.slice au lu cu,.slice ag lg cg,.bool r,.int .i64 m] 81)).alloc (.cells #[.int .i64 0,.int .i64 0,.int .i64 0,.slice none 0 0,.slice none 0 0,.bool false,.int .i64 0] 81)) (w.heap.size+1+1) (by simp) au lu cu us (hu.below hb0) hl1
  have hbW:Hid (Below w.heap.size w w1):=hb0.trans (hb1.mono (by simp;omega))
  obtain ⟨hcl,hfz⟩:=bl_cellN hb1
  have hX:=((box7_new w (.int .i64 u) (.int .i64 g) (.int .i64 o) (.slice au lu cu) (.slice ag lg cg) (.bool r) (.int .i64 m) 81).below (bel_alloc _ (.cells #[.int .i64 0,.int .i64 0,.int .i64 0,.slice none 0 0,.slice none 0 0,.bool false,.int .i64 0] 81))).below hb1
  have hY:=(box7_new (w.alloc (.cells #[.int .i64 u,.int .i64 g,.int .i64 o,.slice au lu cu,.slice ag lg cg,.bool r,.int .i64 m] 81)) (.int .i64 0) (.int .i64 0) (.int .i64 0) (.slice none 0 0) (.slice none 0 0) (.bool false) (.int .i64 0) 81).below hb1
  have eY:(w.alloc (.cells #[.int .i64 u,.int .i64 g,.int .i64 o,.slice au lu cu,.slice ag lg cg,.bool r,.int .i64 m] 81)).heap.size=w.heap.size+1:=by simp
  rw [eY] at hY
  have hz1:w.heap.size+1+1≤w1.heap.size:=by have:=hb1.size;simp at this;omega
  clear hb1 eY hb0 hu hg hcl
  simp at hfz
  have hbW2:Below w.heap.size w (w1.setCell ⟨w.heap.size,3,none⟩ (.slice a1 lu c1)):=bl_setN hbW.out (Nat.le_refl _)
  obtain ⟨a2,c2,w2,hr2,hcp2,hO2,hin2,hb2⟩:=append_copyB (w1.setCell ⟨w.heap.size,3,none⟩ (.slice a1 lu c1)) w1.heap.size (by simp) ag lg cg gs (HG.out.below hbW2) hl2
  have eS:(w1.setCell ⟨w.heap.size,3,none⟩ (.slice a1 lu c1)).heap.size=w1.heap.size:=by simp
  have n1:∀ A,a1=some A→w.heap.size+1<A.block:=fun A e=>by have:=hin1 A e;omega
  have n2:∀ A,a2=some A→w.heap.size+1<A.block:=fun A e=>by have:=hin2 A e;omega
  have hI2:Own a1 lu us w2:=(hO1.set (fun B e=>by have:=n1 _ e;simp only at this;omega)).below hb2
  have hW2:Below w.heap.size w w2:=hbW2.trans (hb2.mono (by rw [eS];omega))
  have hfz2:∀ b o,b<w.heap.size+1+1→w2.frozen? ⟨b,o,none⟩=(w1.setCell ⟨w.heap.size,3,none⟩ (.slice a1 lu c1)).frozen? ⟨b,o,none⟩:=fun b o h=>hb2.frozen (p:=⟨b,o,none⟩) (by rw [eS];show b<_;omega)
  have HN:Hid (New w w2 a1 lu us a2 lg gs):=⟨hI2,hO2,fun A e=>⟨by have:=n1 A e;omega,by have:=hin1 A e;have h2:=hb2.size;rw [eS] at h2;omega⟩,fun A e=>⟨by have:=n2 A e;omega,(hin2 A e).2⟩,fun A A2 e e2=>by have h1:=hin1 A e;have h2:=hin2 A2 e2;omega,hW2⟩
  have N1:Hid (∀ A,a1=some A→w.heap.size+1<A.block):=n1
  have N2:Hid (∀ A,a2=some A→w.heap.size+1<A.block):=n2
  have HCP:Hid (lu≤c1∧lg≤c2):=⟨hcp1,hcp2⟩
  clear hcp1 hcp2
  obtain ⟨p0,p1,p2,p3,p4,p5,p6,p7⟩:=hX
  obtain ⟨xl,x0,x1,x2,x3,x4,x5,x6⟩:=(Box7.mk p0 p1 p2 p3 p4 p5 p6 p7).set3.below hb2
  obtain ⟨yl,y0,y1,y2,y3,y4,y5,y6⟩:=(hY.other (by omega)).below hb2
  clear hO1 hO2 hW2 hI2 hz1 hb2 eS hbW n1 n2 hin1 hin2 hY hbW2 HG
  go_enter Tryz.func180,Tryz.ntmps180
  go_wp2_with (at_builtin;first | refine wpList_append_run _ rfl (.tmp 3) (.tmp 5) 79 79 rfl _ _ _ _ rfl rfl hr1 ?_ | refine wpList_append_run _ rfl (.tmp 8) (.tmp 10) 79 79 rfl _ _ _ _ rfl rfl hr2 ?_)
  refine bodyPost_ret (v:=.agg #[.int .i64 u,.int .i64 g,.int .i64 o,.slice a1 lu c1,.slice a2 lg c2,.bool r,.int .i64 m]) (by simp [results,Tryz.results180,go_sem,y0,y1,y2,y3,y4,y5,y6]) rfl ⟨a1,c1,a2,c2,rfl,?_,HCP.out⟩
  iterate 8 (refine New.set ?_ (by omega) (fun A e=>by have:=N1.out A e;omega) (fun A e=>by have:=N2.out A e;omega))
  exact HN.out
def pcE:List (ByteArray × Int)→List Value
  | []=>[]
  | p :: l=>.string p.1 :: .int .i64 p.2 :: pcE l
theorem pcE_length (l:List (ByteArray × Int)):(pcE l).length=l.length*2:=by
  induction l with
  | nil=>rfl
  | cons p l ih=>simp only [pcE,List.length_cons,ih];omega
theorem pcE_one (l:List (ByteArray × Int)):∀ u ∈ pcE l,u.oneCell'=true:=by
  induction l with
  | nil=>intro u h;cases h
  | cons p l ih =>
    intro u h
    simp only [pcE,List.mem_cons] at h
    rcases h with rfl | rfl | h
    · rfl
    · rfl
    · exact ih u h
theorem pcE_get (l:List (ByteArray × Int)):∀ i,i<l.length→(pcE l)[i*2]?=some (.string (nmAt l i))∧(pcE l)[i*2+1]?=some (.int .i64 (noAt l i)):=by
  induction l with
  | nil=>intro i hi;simp at hi
  | cons p l ih =>
    intro i hi
    cases i with
    | zero=>exact ⟨rfl,rfl⟩
    | succ i =>
      have h:=ih i (by simpa using hi)
      have e1:(i+1)*2=i*2+1+1:=by omega
      simp only [pcE,e1,List.getElem?_cons_succ]
      exact h
theorem ens_news {b off:Nat}{l:List (ByteArray × Int)}{w:World}(hc:∀ i,i<l.length→w.cell? ⟨b,off+i*2,none⟩=some (.string (nmAt l i))∧w.cell? ⟨b,off+i*2+1,none⟩=some (.int .i64 (noAt l i))) :
    ∀ j u,(pcE l)[j]?=some u→w.cell? ((⟨b,off,none⟩:Addr).add j)=some u:=by
  intro j u hj
  have hlt:j<l.length*2:=by
    have:=(List.getElem?_eq_some_iff.1 hj).1
    rwa [pcE_length] at this
  have hi:j/2<l.length:=by omega
  obtain ⟨h1,h2⟩:=hc (j/2) hi
  obtain ⟨g1,g2⟩:=pcE_get l (j/2) hi
  rw [Addr.add_mid]
  have hc:j=j/2*2∨j=j/2*2+1:=by omega
  rcases hc with e | e
  · rw [e] at hj ⊢
    rw [g1] at hj
    cases hj
    have e2:off+j/2*2=off+j/2*2:=rfl
    exact h1
  · rw [e] at hj ⊢
    rw [g2] at hj
    cases hj
    have e2:off+(j/2*2+1)=off+j/2*2+1:=by omega
    rw [e2]
    exact h2
theorem ens_of_row {w:World}{B:Nat}{t:TypeId}{v:Value}{l:List (ByteArray × Int)}(h:w.ownsRow B t 2 v l.length (pcE l)) :
    ∃ a cap,v=.slice a l.length cap∧Ens a l.length l w∧(∀ b f,a=some ⟨b,f,none⟩→B≤b∧b<w.heap.size):=by
  obtain ⟨_,⟨rfl,hn⟩ | ⟨g,cap,cur,rfl,hb,hg,hc,_,hs,ht⟩⟩:=h
  · exact ⟨none,0,by rw [hn],⟨rfl,fun h=>absurd h (by omega)⟩,fun b f e=>by cases e⟩
  · have hlt : g < w.heap.size := (Array.getElem?_eq_some_iff.1 hg).1
    refine ⟨some ⟨g,0,none⟩,cap,rfl,⟨rfl,fun _=>⟨g,0,rfl,hlt,fun i hi=>?_⟩⟩,fun b f e=>by cases e;exact ⟨hb,hlt⟩⟩
    obtain ⟨g1,g2⟩:=pcE_get l i hi
    rw [←ht,List.getElem?_take_of_lt (by omega)] at g1 g2
    have hcl:∀ o,w.cell? ⟨g,o,none⟩=cur[o]?:=fun o=>by simp [World.cell?,hg]
    rw [Nat.zero_add,hcl,hcl]
    exact ⟨by simpa using g1,by simpa using g2⟩
theorem infoEntryC:(Tryz.prog.info? 105).map (fun i=>(i.zero,i.size,i.bytes))=some (some (.agg #[.string ⟨#[]⟩,.int .i64 0]),2,24):=by kernel_rfl
theorem rowE_start (w:World)(X:Nat)(hX:X=w.heap.size)(t:TypeId):(w.alloc (.cells #[] t)).ownsRow X t 2 (.slice (some ⟨X,0,none⟩) 0 0) ([]:List (ByteArray × Int)).length (pcE []):=by
  subst hX
  exact World.ownsRow_made w #[] 0 (Nat.le_refl _) (by unfold maxLen;omega) rfl
theorem append_ents (w:World)(X:Nat)(hX:X=w.heap.size)(a:Option Addr)(len cap:Nat)(l:List (ByteArray × Int))(hp:Ens a len l w)(hN:len≤2000000) :
    ∃ a' c' w',(Builtin.append_ #[82,82] 82 #[.slice (some ⟨X,0,none⟩) 0 0,.slice a len cap]).run Tryz.prog (w.alloc (.cells #[] 105))=.ok (.slice a' len c') w'∧Ens a' len l w'∧(∀ b f,a'=some ⟨b,f,none⟩→X≤b∧b<w'.heap.size)∧Below w.heap.size w w':=by
  obtain ⟨i,hi,hzz⟩:=Option.map_eq_some_iff.1 infoEntryC
  simp only [Prod.mk.injEq] at hzz
  obtain ⟨hz,hs,hb⟩:=hzz
  have ho:=rowE_start w X hX 105
  have hb0:=bel_alloc w (.cells #[] 105)
  obtain ⟨hln,hp⟩:=hp.below hb0
  subst hln
  by_cases h0:l.length=0
  · have hl : l = [] := List.eq_nil_of_length_eq_zero h0
    subst hl
    have hsrc:Src Tryz.prog i.size 82 (.slice a 0 cap) 0 [] (w.alloc (.cells #[] 105)):=by
      cases a with
      | none=>exact Src.ofNil _ Tryz.underlying82 cap
      | some a=>exact Src.ofSlice _ Tryz.underlying82 a 0 cap [] (by simp) (fun j u h=>by simp at h) (fun u h=>by cases h)
    refine ⟨some ⟨X,0,none⟩,0,_,run_append_nothing _ _ _ _ _ i Tryz.underlying82 hi _ 0 0 (Nat.le_refl _) _ hsrc,⟨rfl,fun h=>absurd h (by simp)⟩,fun b f e=>by cases e;exact ⟨Nat.le_refl _,by subst hX;simp⟩,hb0⟩
  · obtain ⟨b, off, rfl, hlt, hc⟩ := hp (by omega)
    obtain ⟨v',w',hr,h1,h2,_⟩:=run_append_own (P:=Tryz.prog) _ X 82 82 105 i _ 2 24 Tryz.underlying82 hi hz hs hb rfl (by decide) _ 0 (pcE []) ho ⟨b,off,none⟩ l.length cap (pcE l) (pcE_length l) (ens_news hc) (pcE_one l) (by unfold maxLen;omega) (by omega) (by subst hX;simp)
    have h1':w'.ownsRow X 105 2 v' l.length (pcE l):=by
      have e:0+l.length=l.length:=by omega
      rw [e] at h1
      exact h1
    obtain ⟨a',c',rfl,hE,hF⟩:=ens_of_row h1'
    refine ⟨a',c',w',hr,hE,hF,?_⟩
    subst hX
    exact hb0.grown h2 (by simp) (own_blockU ho)
def NaAt (y:Na) (b:Nat):Prop:=∃ f,y.aU=some ⟨b,f,none⟩∨y.aG=some ⟨b,f,none⟩∨y.dU=some ⟨b,f,none⟩∨y.dG=some ⟨b,f,none⟩∨y.nA=some ⟨b,f,none⟩
def pcN:List (Nd × Na)→List Value
  | []=>[]
  | d :: l=>ndV d.1 d.2++pcN l
theorem pcN_append (l k:List (Nd × Na)):pcN (l++k)=pcN l++pcN k:=by
  induction l with
  | nil=>rfl
  | cons p l ih=>simp [pcN,ih]
theorem ndV_one (x:Nd)(y:Na):∀ u ∈ ndV x y,u.oneCell'=true:=by simp [ndV];simp [Value.oneCell']
theorem pcN_get:∀ (l:List (Nd × Na)) (i:Nat) (hi:i<l.length) (j:Nat),j<24→(pcN l)[i*24+j]?=(ndV (l[i]).1 (l[i]).2)[j]?
  | [],i,hi,_,_=>absurd hi (by simp)
  | d :: l,0,hi,j,hj=>by
    simp only [pcN,Nat.zero_mul,Nat.zero_add]
    rw [List.getElem?_append_left (by rw [ndV_len];exact hj)]
    rfl
  | d :: l,i+1,hi,j,hj=>by
    simp only [pcN]
    rw [List.getElem?_append_right (by rw [ndV_len];omega),ndV_len]
    have e:(i+1)*24+j-24=i*24+j:=by omega
    rw [e,pcN_get l i (by simpa using hi) j hj]
    rfl
theorem nds_of_row {w:World}{B:Nat}{t:TypeId}{v:Value}{l:List (Nd × Na)}(h:w.ownsRow B t 24 v l.length (pcN l))(hin:∀ p ∈ l,NdIn w p.1 p.2) :
    ∃ a cap,v=.slice a l.length cap∧Nds a l.length (l.map (·.1)) w:=by
  obtain ⟨_,⟨rfl,hn⟩ | ⟨g,cap,cur,rfl,hb,hg,hc,_,hs,ht⟩⟩:=h
  · exact ⟨none,0,by rw [hn],⟨by simp,fun h=>absurd h (by omega)⟩⟩
  · have hlt : g < w.heap.size := (Array.getElem?_eq_some_iff.1 hg).1
    refine ⟨some ⟨g,0,none⟩,cap,rfl,⟨by simp,fun _=>⟨g,0,fun i=>(l.getD i (ndZ,naZ)).2,rfl,hlt,fun i hi=>?_⟩⟩⟩
    have e1:ndAt (l.map (·.1)) i=(l[i]).1:=by simp [ndAt,List.getD,hi]
    have e2:(l.getD i (ndZ,naZ)).2=(l[i]).2:=by simp [List.getD,hi]
    simp only [e1,e2]
    refine ⟨fun j u hj=>?_,hin _ (List.getElem_mem hi)⟩
    have hj24:j<24:=by
      have:=(List.getElem?_eq_some_iff.1 hj).1
      rwa [ndV_len] at this
    rw [←pcN_get l i hi j hj24,←ht,List.getElem?_take_of_lt (by omega)] at hj
    have:w.cell? ⟨g,0+i*24+j,none⟩=cur[i*24+j]?:=by rw [Nat.zero_add];simp [World.cell?,hg]
    rw [this]
    simpa using hj
theorem infoNodeC:(Tryz.prog.info? 84).map (fun i=>(i.zero,i.size,i.bytes))=some (some (.agg (ndV ndZ naZ).toArray),24,280):=by kernel_rfl
theorem run_append_ndK (w:World)(B:Nat)(ty:TypeId)(v:Value)(ds:List (Nd × Na))(x:Nd)(y:Na)(hown:w.ownsRow B 84 24 v ds.length (pcN ds))(hsm:ds.length≤2000000)(hB:B≤w.heap.size) :
    ∃ v' w',(Builtin.append_ #[33,33] ty #[v,.slice (some ⟨w.heap.size,0,none⟩) 1 1]).run Tryz.prog (w.alloc (.cells (ndV x y).toArray 84))=.ok v' w'∧w'.ownsRow B 84 24 v' (ds++[(x,y)]).length (pcN (ds++[(x,y)]))∧Below B w w'∧w.heap.size≤w'.heap.size∧(∀ k,k<w.heap.size→v.ownBlock≠some k→w'.heap[k]?=w.heap[k]?)∧(∀ k,v'.ownBlock=some k→v.ownBlock=some k∨w.heap.size≤k):=by
  obtain ⟨i,hi,hzz⟩:=Option.map_eq_some_iff.1 infoNodeC
  simp only [Prod.mk.injEq] at hzz
  obtain ⟨hz,hs,hb⟩:=hzz
  have hb1:Below w.heap.size w (w.alloc (.cells (ndV x y).toArray 84)):=bel_alloc _ _
  have hown1:=rowU_below hown hb1
  have hB1:B≤(w.alloc (.cells (ndV x y).toArray 84)).heap.size:=Nat.le_trans hB hb1.size
  have hnew:=(boxR_new w (ndV x y) 84).at0
  obtain ⟨v',w',hr,h1,h2,_⟩:=run_append_own (P:=Tryz.prog) _ B 33 ty 84 i _ 24 280 Tryz.underlying33 hi hz hs hb rfl (by decide) v ds.length (pcN ds) hown1 ⟨w.heap.size,0,none⟩ 1 1 (ndV x y) rfl (fun j u hj=>by rw [Addr.add_mid];exact hnew j u hj) (ndV_one x y) (by unfold maxLen;omega) (by omega) hB1
  refine ⟨v',w',hr,?_,(hb1.mono hB).grown h2 hB1 (own_blockU hown1),Nat.le_trans hb1.size h2.size,fun k hk hne=>(h2.block k (Nat.lt_of_lt_of_le hk hb1.size) (Ne.symm hne)).trans (hb1.block k hk),?_⟩
  · rw [pcN_append, List.length_append]
    have e:pcN [(x,y)]=ndV x y:=by simp [pcN]
    rw [e]
    exact h1
  · have hnw : ∀ j u, (ndV x y)[j]? = some u → (w.alloc (.cells (ndV x y).toArray 84)).cell? ((⟨w.heap.size, 0, none⟩ : Addr).add j) = some u := fun j u hj => by rw [Addr.add_mid]; exact hnew j u hj
    have hone:=ndV_one x y
    have hbase:w.heap.size≤(w.alloc (.cells (ndV x y).toArray 84)).heap.size:=hb1.size
    clear hnew h1 h2 hb1
    generalize w.alloc (.cells (ndV x y).toArray 84)=W at *
    have hl1:(ndV x y).length=1*i.size:=by rw [hs];rfl
    have hbn:∀ n:Nat,n≤5000000→n*i.bytes≤140737488355328:=fun n hn=>by rw [hb];omega
    rcases hown1.2 with ⟨rfl,hn⟩ | ⟨g,cap,cur,rfl,hbg,hg,hnc,hcm,hcs,htake⟩
    · have hr2 := run_append_nil (P := Tryz.prog) W 33 ty 84 i _ Tryz.underlying33 hi hz ⟨w.heap.size, 0, none⟩ 1 1 (ndV x y) hl1 hnw (by omega) (by omega) (by rw [hb]; omega)
      rw [hr2] at hr
      cases hr
      intro k hk
      simp [Value.ownBlock] at hk
      exact .inr (by omega)
    · by_cases hroom : ds.length + 1 ≤ cap
      · have hr2 := run_append_room (P := Tryz.prog) W 33 ty 84 i Tryz.underlying33 hi g ds.length cap cur hg ⟨w.heap.size, 0, none⟩ 1 1 (ndV x y) hl1 hnw hone hroom (by rw [hs, ndV_len, hcs]; show ds.length * 24 + 24 ≤ cap * 24; omega)
        rw [hr2] at hr
        cases hr
        intro k hk
        exact .inl hk
      · have hr2 := run_append_grow (P := Tryz.prog) W 33 ty 84 i _ Tryz.underlying33 hi hz ⟨g, 0, none⟩ ds.length cap (pcN ds) (by rw [hs]; exact hown1.1) (hown1.cells (g := g) rfl) ⟨w.heap.size, 0, none⟩ 1 1 (ndV x y) hl1 hnw (by omega) (by omega) (growslice_fits (by omega) (hbn _ (by omega)))
        rw [hr2] at hr
        cases hr
        intro k hk
        simp [Value.ownBlock] at hk
        exact .inr (by omega)
end Go.Proofs.YtabfdidnjibdeaaGreatDoor
