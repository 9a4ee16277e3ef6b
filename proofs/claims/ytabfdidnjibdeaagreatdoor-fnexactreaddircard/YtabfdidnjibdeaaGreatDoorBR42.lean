/- Laid together: AclMark, TreeO, LsT, NodeToO. -/
import Derived.Test.YtabfdidnjibdeaaGreatDoorBR21
namespace Go.Proofs.YtabfdidnjibdeaaGreatDoor
open Go.RowKit Go.PlainAid
set_option linter.unusedVariables false
def marks (k:Int) (n:Nat):List (Int × Int):=(List.range n).map fun (i:Nat)=>(k+2*(i:Int),k+2*(i:Int)+1)
theorem marks_len (k:Int)(n:Nat):(marks k n).length=n:=by simp [marks]
theorem marks_id (k:Int)(n i:Nat)(h:i<n):idAt (marks k n) i=k+2*i:=idAt_map _ n i h
theorem marks_bt (k:Int)(n i:Nat)(h:i<n):btAt (marks k n) i=k+2*i+1:=btAt_map _ n i h
structure But (a:Option Addr) (w w':World):Prop where
  size:w'.heap.size=w.heap.size
  below:∀ c,(∀ A,a=some A→c≤A.block)→Below c w w'
  cell:∀ b o,(∀ A,a=some A→b≠A.block)→w'.cell? ⟨b,o,none⟩=w.cell? ⟨b,o,none⟩∧w'.frozen? ⟨b,o,none⟩=w.frozen? ⟨b,o,none⟩
theorem But.refl (a:Option Addr)(w:World):But a w w:=⟨rfl,fun _ _=>Below.refl _ _,fun _ _ _=>⟨rfl,rfl⟩⟩
theorem But.set {B o:Nat}{w w':World}{v:Value}(h:But (some ⟨B,0,none⟩) w w'):But (some ⟨B,0,none⟩) w (w'.setCell ⟨B,o,none⟩ v):=by
  refine ⟨by simpa using h.size,fun c hc=>bl_setN (h.below c hc) (hc _ rfl),fun b o2 hb=>?_⟩
  have h1:=h.cell b o2 hb
  rw [World.frozen?_setCell,←h1.1]
  exact ⟨World.cell?_setCell_other _ _ _ _ (by intro h;have h2:=congrArg Addr.block h;exact hb _ rfl (by simpa using h2.symm)),h1.2⟩
theorem But.own {a a2:Option Addr}{len:Nat}{l:List (Int × Int)}{w w':World}(h:But a w w')(ho:Own a2 len l w)(hne:∀ A A2,a=some A→a2=some A2→A.block≠A2.block):Own a2 len l w':=by
  refine ⟨ho.1,fun h0=>?_⟩
  obtain ⟨B,ha,hlt,hp⟩:=ho.2 h0
  refine ⟨B,ha,by rw [h.size];exact hlt,fun i hi=>?_⟩
  have hb:∀ A,a=some A→B≠A.block:=fun A e=>fun e2=>hne A _ e ha (by simpa using e2.symm)
  have h0:=h.cell B (i*2) hb
  have h1:=h.cell B (i*2+1) hb
  rw [h0.1,h0.2,h1.1,h1.2]
  exact hp i hi
set_option maxHeartbeats 2000000 in
theorem markNamedS_none (a:Option Addr)(cap:Nat)(k:Int)(w:World) :
    Calls Tryz.prog 99 #[.slice a 0 cap,.int .i64 k] w fun e w'=>e=.returned (.int .i64 k)∧w'=w:=by
  go_enter Tryz.func99,Tryz.ntmps99
  go_wp2
  go_rounds 1
  go_ret
  exact ⟨rfl,rfl⟩
set_option maxHeartbeats 2000000 in
theorem markNamedS_some (B len cap:Nat)(k:Int)(F0 G0:Nat→Int)(h0:0≤k)(h1:k≤1000000000)(hl:len≤1048576)(w:World)(hp:PHold w B F0 G0 len) :
    Calls Tryz.prog 99 #[.slice (some ⟨B,0,none⟩) len cap,.int .i64 k] w fun e w'=>e=.returned (.int .i64 (k+2*len))∧PHold w' B (fun i=>k+2*i) (fun i=>k+2*i+1) len∧But (some ⟨B,0,none⟩) w w':=by
  have HP:Hid (PHold w B F0 G0 len):=hp
  clear hp
  go_enter Tryz.func99,Tryz.ntmps99
  go_wp2
  go_loopw [5,1] (fun i q wr=>∃ (j:Nat) (F G:Nat→Int),j≤len∧i=.int .i64 j∧q=.int .i64 (k+2*j)∧Hid (PHold wr B F G len)∧Hid (∀ t,t<j→F t=k+2*t∧G t=k+2*t+1)∧Hid (But (some ⟨B,0,none⟩) w wr)) (fun i _ _=>len-(intOf i).toNat)
  case atStart=>exact ⟨0,F0,G0,Nat.zero_le _,rfl,by simp,HP,fun t ht=>absurd ht (by omega),But.refl _ _⟩
  case round =>
    obtain ⟨j,F,G,hj,rfl,rfl,hH,hg,hB⟩:=hrel
    by_cases hlt:j<len
    · have hlt' : (j : Int) < (len : Int) := by omega
      have q:=hH.out j hlt
      have g2:=q.1.1
      have g3:=q.1.2
      have g4:=q.2.1
      have g5:=q.2.2
      have hH2:Hid (PHold ((wr.setCell ⟨B,j*2,none⟩ (.int .i64 (k+2*j))).setCell ⟨B,j*2+1,none⟩ (.int .i64 (k+2*j+1))) B (fun i=>if i=j then k+2*j else F i) (fun i=>if i=j then k+2*j+1 else G i) len):=(hH.out.set0 j hlt _).set1 j hlt _
      have hg2:Hid (∀ t,t<j+1→(fun i=>if i=j then k+2*j else F i) t=k+2*t∧(fun i=>if i=j then k+2*j+1 else G i) t=k+2*t+1):=(fun t ht=>by
        show (if t=j then k+2*j else F t)=k+2*t∧(if t=j then k+2*j+1 else G t)=k+2*t+1
        by_cases e:t=j
        · rw [if_pos e,if_pos e,e];exact ⟨rfl,rfl⟩
        · rw [if_neg e,if_neg e];exact hg.out t (by omega))
      have hB2:Hid (But (some ⟨B,0,none⟩) w ((wr.setCell ⟨B,j*2,none⟩ (.int .i64 (k+2*j))).setCell ⟨B,j*2+1,none⟩ (.int .i64 (k+2*j+1)))):=hB.out.set.set
      clear q hH hg hB
      go_wp2
      go_roundw
      case rel=>exact ⟨j+1,_,_,by omega,by go_num,by go_num,hH2,hg2,hB2⟩
      case measure=>simp [intOf];omega
    · have : j = len := by omega
      subst this
      go_wp2
      go_ret
      refine ⟨rfl,fun i hi=>?_,hB.out⟩
      have h1:=hH.out i hi
      rw [(hg.out i hi).1,(hg.out i hi).2] at h1
      exact h1
theorem markNamedS_any (a:Option Addr)(len cap:Nat)(k:Int)(l:List (Int × Int))(h0:0≤k)(h1:k≤1000000000)(hl:len≤1048576)(w:World)(ho:Own a len l w) :
    Calls Tryz.prog 99 #[.slice a len cap,.int .i64 k] w fun e w'=>e=.returned (.int .i64 (k+2*len))∧Own a len (marks k len) w'∧But a w w':=by
  by_cases hz:len=0
  · subst hz
    refine (markNamedS_none a cap k w).mono ?_
    rintro e w' ⟨rfl,rfl⟩
    exact ⟨by simp,⟨marks_len _ _,fun h=>absurd h (by omega)⟩,But.refl _ _⟩
  · obtain ⟨B, rfl, hlt, hp⟩ := ho.2 (by omega)
    refine (markNamedS_some B len cap k _ _ h0 h1 hl w hp).mono ?_
    rintro e w' ⟨rfl,hp2,hb⟩
    refine ⟨rfl,⟨marks_len _ _,fun _=>⟨B,rfl,by rw [hb.size];exact hlt,fun i hi=>?_⟩⟩,hb⟩
    rw [marks_id k len i hi,marks_bt k len i hi]
    exact hp2 i hi
structure But2 (a a2:Option Addr) (w w':World):Prop where
  size:w.heap.size≤w'.heap.size
  below:∀ c,c≤w.heap.size→(∀ A,a=some A→c≤A.block)→(∀ A,a2=some A→c≤A.block)→Below c w w'
  cell:∀ b o,b<w.heap.size→(∀ A,a=some A→b≠A.block)→(∀ A,a2=some A→b≠A.block)→w'.cell? ⟨b,o,none⟩=w.cell? ⟨b,o,none⟩∧w'.frozen? ⟨b,o,none⟩=w.frozen? ⟨b,o,none⟩
theorem But2.own {a a2 a3:Option Addr}{len:Nat}{l:List (Int × Int)}{w w':World}(h:But2 a a2 w w')(ho:Own a3 len l w)(hne:∀ A A2,a=some A→a3=some A2→A.block≠A2.block)(hne2:∀ A A2,a2=some A→a3=some A2→A.block≠A2.block):Own a3 len l w':=by
  refine ⟨ho.1,fun h0=>?_⟩
  obtain ⟨B,ha,hlt,hp⟩:=ho.2 h0
  refine ⟨B,ha,Nat.lt_of_lt_of_le hlt h.size,fun i hi=>?_⟩
  have hb:∀ A,a=some A→B≠A.block:=fun A e=>fun e2=>hne A _ e ha (by simpa using e2.symm)
  have hb2:∀ A,a2=some A→B≠A.block:=fun A e=>fun e2=>hne2 A _ e ha (by simpa using e2.symm)
  have h0:=h.cell B (i*2) hlt hb hb2
  have h1:=h.cell B (i*2+1) hlt hb hb2
  rw [h0.1,h0.2,h1.1,h1.2]
  exact hp i hi
theorem But2.prs {a a2 a3:Option Addr}{len:Nat}{l:List (Int × Int)}{w w':World}(h:But2 a a2 w w')(ho:Prs a3 len l w)(hne:∀ A A2,a=some A→a3=some A2→A.block≠A2.block)(hne2:∀ A A2,a2=some A→a3=some A2→A.block≠A2.block):Prs a3 len l w':=by
  refine ⟨ho.1,fun h0=>?_⟩
  obtain ⟨B,off,ha,hlt,hp⟩:=ho.2 h0
  refine ⟨B,off,ha,Nat.lt_of_lt_of_le hlt h.size,fun i hi=>?_⟩
  have hb:∀ A,a=some A→B≠A.block:=fun A e=>fun e2=>hne A _ e ha (by simpa using e2.symm)
  have hb2:∀ A,a2=some A→B≠A.block:=fun A e=>fun e2=>hne2 A _ e ha (by simpa using e2.symm)
  rw [(h.cell B (off+i*2) hlt hb hb2).1,(h.cell B (off+i*2+1) hlt hb hb2).1]
  exact hp i hi
end Go.Proofs.YtabfdidnjibdeaaGreatDoor
namespace Go.Proofs.YtabfdidnjibdeaaGreatDoor
open Go.RowKit Go.PlainAid Go.Deep
set_option linter.unusedVariables false
structure Btw (lo hi:Nat) (w w':World):Prop where
  size:w.heap.size≤w'.heap.size
  below:∀ c,c≤w.heap.size→c≤lo→Below c w w'
  cell:∀ b o,b<w.heap.size→(b<lo∨hi≤b)→w'.cell? ⟨b,o,none⟩=w.cell? ⟨b,o,none⟩∧w'.frozen? ⟨b,o,none⟩=w.frozen? ⟨b,o,none⟩
theorem Btw.refl (lo hi:Nat)(w:World):Btw lo hi w w:=⟨Nat.le_refl _,fun _ _ _=>Below.refl _ _,fun _ _ _ _=>⟨rfl,rfl⟩⟩
theorem Btw.trans {lo hi:Nat}{w w1 w2:World}(h:Btw lo hi w w1)(h2:Btw lo hi w1 w2):Btw lo hi w w2:=by
  refine ⟨Nat.le_trans h.size h2.size,fun c hc hA=>(h.below c hc hA).trans (h2.below c (Nat.le_trans hc h.size) hA),fun b o hb hA=>?_⟩
  have h3:=h.cell b o hb hA
  have h4:=h2.cell b o (Nat.lt_of_lt_of_le hb h.size) hA
  exact ⟨h4.1.trans h3.1,h4.2.trans h3.2⟩
theorem Btw.of {lo hi:Nat}{w w1:World}(hb:Below w.heap.size w w1):Btw lo hi w w1:=⟨hb.size,fun c hc _=>hb.mono hc,fun b o h _=>⟨hb.cell (p:=⟨b,o,none⟩) h,hb.frozen (p:=⟨b,o,none⟩) h⟩⟩
theorem Btw.on {lo hi:Nat}{w w1 w2:World}(h:Btw lo hi w w1)(hb:Below w1.heap.size w1 w2):Btw lo hi w w2:=h.trans (Btw.of hb)
theorem Btw.set {lo hi B o:Nat}{w w1:World}{v:Value}(h:Btw lo hi w w1)(h1:lo≤B)(h2:B<hi):Btw lo hi w (w1.setCell ⟨B,o,none⟩ v):=by
  refine ⟨by simpa using h.size,fun c hc hA=>setS (h.below c hc hA) (Nat.le_trans hA h1),fun b o2 hb hA=>?_⟩
  have h3:=h.cell b o2 hb hA
  rw [World.frozen?_setCell,←h3.1]
  exact ⟨World.cell?_setCell_other _ _ _ _ (by intro h;have h2:=congrArg Addr.block h;simp only at h2;omega),h3.2⟩
theorem ButS.btw {lo hi:Nat}{a:Option Addr}{w w1:World}(h:ButS a w w1)(ha:∀ A,a=some A→lo≤A.block∧A.block<hi):Btw lo hi w w1 :=
  ⟨h.size,fun c hc hA=>h.below c hc (fun A e=>Nat.le_trans hA (ha A e).1),fun b o hb hA=>h.cell b o hb (fun A e=>by have:=ha A e;omega)⟩
theorem But.butS {a:Option Addr}{w w1:World}(h:But a w w1):ButS a w w1:=⟨by rw [h.size];exact Nat.le_refl _,fun c _ hA=>h.below c hA,fun b o _ hA=>h.cell b o hA⟩
theorem BoxR.btw {lo hi:Nat}{w w':World}{X:Nat}{cs:List Value}(h:BoxR w X cs)(hb:Btw lo hi w w')(hne:X<lo∨hi≤X):BoxR w' X cs:=⟨Nat.lt_of_lt_of_le h.lt hb.size,range_keep h.at0 (fun j=>(hb.cell X j h.lt hne).1)⟩
theorem BoxW.btw {lo hi:Nat}{w w':World}{X:Nat}{cs:List Value}(h:BoxW w X cs)(hb:Btw lo hi w w')(hne:X<lo∨hi≤X):BoxW w' X cs:=⟨Nat.lt_of_lt_of_le h.lt hb.size,range_keep h.at0 (fun j=>(hb.cell X j h.lt hne).1),fun j=>(hb.cell X j h.lt hne).2.trans (h.frz j)⟩
def laAt (y:Na):Nat→Option Addr | 0=>y.aU | 1=>y.aG | 2=>y.dU | 3=>y.dG | _=>y.nA
def lnAt (x:Nd):Nat→Nat | 0=>x.A.us.length | 1=>x.A.gs.length | 2=>x.D.us.length | 3=>x.D.gs.length | _=>x.ns.length
structure NdOwn (w:World) (x:Nd) (y:Na):Prop where
  aU:Own y.aU x.A.us.length x.A.us w
  aG:Own y.aG x.A.gs.length x.A.gs w
  dU:Own y.dU x.D.us.length x.D.us w
  dG:Own y.dG x.D.gs.length x.D.gs w
  nA:OwnE y.nA x.ns.length x.ns w
theorem NdOwn.ndIn {w:World}{x:Nd}{y:Na}(h:NdOwn w x y):NdIn w x y:=⟨h.aU.prs,h.aG.prs,h.dU.prs,h.dG.prs,h.nA.ens⟩
theorem NdOwn.below {w w':World}{x:Nd}{y:Na}(h:NdOwn w x y)(hb:Below w.heap.size w w'):NdOwn w' x y:=⟨h.aU.below hb,h.aG.below hb,h.dU.below hb,h.dG.below hb,h.nA.below hb⟩
theorem Own.keepS {a a2:Option Addr}{len:Nat}{l:List (Int × Int)}{w w':World}(ho:Own a2 len l w)(h:ButS a w w')(hne:0<len→∀ A A2,a=some A→a2=some A2→A.block≠A2.block):Own a2 len l w':=by
  refine ⟨ho.1,fun h0=>?_⟩
  obtain ⟨B,ha,hlt,hp⟩:=ho.2 h0
  refine ⟨B,ha,Nat.lt_of_lt_of_le hlt h.size,fun i hi=>?_⟩
  have hb:∀ A,a=some A→B≠A.block:=fun A e=>fun e2=>hne h0 A _ e ha (by simpa using e2.symm)
  have h0:=h.cell B (i*2) hlt hb
  have h1:=h.cell B (i*2+1) hlt hb
  rw [h0.1,h0.2,h1.1,h1.2]
  exact hp i hi
theorem OwnE.keepS {a a2:Option Addr}{len:Nat}{l:List (ByteArray × Int)}{w w':World}(ho:OwnE a2 len l w)(h:ButS a w w')(hne:0<len→∀ A A2,a=some A→a2=some A2→A.block≠A2.block):OwnE a2 len l w':=by
  refine ⟨ho.1,fun h0=>?_⟩
  obtain ⟨B,ha,hlt,hp⟩:=ho.2 h0
  refine ⟨B,ha,Nat.lt_of_lt_of_le hlt h.size,fun i hi=>?_⟩
  have hb:∀ A,a=some A→B≠A.block:=fun A e=>fun e2=>hne h0 A _ e ha (by simpa using e2.symm)
  have h0:=h.cell B (i*2) hlt hb
  have h1:=h.cell B (i*2+1) hlt hb
  rw [h0.1,h0.2,h1.1,h1.2]
  exact hp i hi
theorem Own.btw {lo hi:Nat}{a2:Option Addr}{len:Nat}{l:List (Int × Int)}{w w':World}(ho:Own a2 len l w)(h:Btw lo hi w w')(hne:0<len→∀ A,a2=some A→A.block<lo∨hi≤A.block):Own a2 len l w':=by
  refine ⟨ho.1,fun h0=>?_⟩
  obtain ⟨B,ha,hlt,hp⟩:=ho.2 h0
  refine ⟨B,ha,Nat.lt_of_lt_of_le hlt h.size,fun i hq=>?_⟩
  have hb:B<lo∨hi≤B:=hne h0 _ ha
  have h0:=h.cell B (i*2) hlt hb
  have h1:=h.cell B (i*2+1) hlt hb
  rw [h0.1,h0.2,h1.1,h1.2]
  exact hp i hq
theorem OwnE.btw {lo hi:Nat}{a2:Option Addr}{len:Nat}{l:List (ByteArray × Int)}{w w':World}(ho:OwnE a2 len l w)(h:Btw lo hi w w')(hne:0<len→∀ A,a2=some A→A.block<lo∨hi≤A.block):OwnE a2 len l w':=by
  refine ⟨ho.1,fun h0=>?_⟩
  obtain ⟨B,ha,hlt,hp⟩:=ho.2 h0
  refine ⟨B,ha,Nat.lt_of_lt_of_le hlt h.size,fun i hq=>?_⟩
  have hb:B<lo∨hi≤B:=hne h0 _ ha
  have h0:=h.cell B (i*2) hlt hb
  have h1:=h.cell B (i*2+1) hlt hb
  rw [h0.1,h0.2,h1.1,h1.2]
  exact hp i hq
theorem Prs.btw {lo hi:Nat}{a2:Option Addr}{len:Nat}{l:List (Int × Int)}{w w':World}(ho:Prs a2 len l w)(h:Btw lo hi w w')(hne:0<len→∀ A,a2=some A→A.block<lo∨hi≤A.block):Prs a2 len l w':=by
  refine ⟨ho.1,fun h0=>?_⟩
  obtain ⟨b,f,ha,hlt,hp⟩:=ho.2 h0
  refine ⟨b,f,ha,Nat.lt_of_lt_of_le hlt h.size,fun i hq=>?_⟩
  have hb:b<lo∨hi≤b:=hne h0 _ ha
  rw [(h.cell b (f+i*2) hlt hb).1,(h.cell b (f+i*2+1) hlt hb).1]
  exact hp i hq
theorem Ens.btw {lo hi:Nat}{a2:Option Addr}{len:Nat}{l:List (ByteArray × Int)}{w w':World}(ho:Ens a2 len l w)(h:Btw lo hi w w')(hne:0<len→∀ A,a2=some A→A.block<lo∨hi≤A.block):Ens a2 len l w':=by
  refine ⟨ho.1,fun h0=>?_⟩
  obtain ⟨b,f,ha,hlt,hp⟩:=ho.2 h0
  refine ⟨b,f,ha,Nat.lt_of_lt_of_le hlt h.size,fun i hq=>?_⟩
  have hb:b<lo∨hi≤b:=hne h0 _ ha
  rw [(h.cell b (f+i*2) hlt hb).1,(h.cell b (f+i*2+1) hlt hb).1]
  exact hp i hq
structure OwnT (w:World) (lo hi B:Nat) (F:Nat→Nd) (Y:Nat→Na) (n:Nat):Prop where
  lt:B<w.heap.size
  inB:lo≤B∧B<hi
  row:NRow w B F Y n
  own:∀ i,i<n→NdOwn w (F i) (Y i)
  rng:∀ i j A,i<n→j<5→0<lnAt (F i) j→laAt (Y i) j=some A→lo≤A.block∧A.block<hi∧A.block≠B
  inj:∀ i i' j j' A A',i<n→i'<n→j<5→j'<5→0<lnAt (F i) j→0<lnAt (F i') j'→laAt (Y i) j=some A→laAt (Y i') j'=some A'→A.block=A'.block→i=i'∧j=j'
theorem OwnT.below {w w':World}{lo hi B n:Nat}{F:Nat→Nd}{Y:Nat→Na}(h:OwnT w lo hi B F Y n)(hb:Below w.heap.size w w'):OwnT w' lo hi B F Y n :=
  ⟨Nat.lt_of_lt_of_le h.lt hb.size,h.inB,h.row.below h.lt hb,fun i hi=>(h.own i hi).below hb,h.rng,h.inj⟩
theorem OwnT.nds {w:World}{lo hi B n:Nat}{l:List Nd}{Y:Nat→Na}(h:OwnT w lo hi B (ndAt l) Y n)(hl:l.length=n):Nds (some ⟨B,0,none⟩) n l w :=
  ⟨hl,fun _=>⟨B,0,Y,rfl,h.lt,fun i hi=>⟨by rw [Nat.zero_add];exact h.row.at' i hi,(h.own i hi).ndIn⟩⟩⟩
theorem NdOwn.keepS {w w':World}{x:Nd}{y:Na}{a:Option Addr}(h:NdOwn w x y)(hb:ButS a w w')(hne:∀ j,j<5→0<lnAt x j→∀ A A2,a=some A→laAt y j=some A2→A.block≠A2.block):NdOwn w' x y :=
  ⟨h.aU.keepS hb (fun h0=>hne 0 (by omega) h0),h.aG.keepS hb (fun h0=>hne 1 (by omega) h0),h.dU.keepS hb (fun h0=>hne 2 (by omega) h0),h.dG.keepS hb (fun h0=>hne 3 (by omega) h0),h.nA.keepS hb (fun h0=>hne 4 (by omega) h0)⟩
def updN (F:Nat→Nd) (i:Nat) (x:Nd):Nat→Nd:=fun k=>if k=i then x else F k
theorem updN_at (F:Nat→Nd)(i:Nat)(x:Nd):updN F i x i=x:=by simp [updN]
theorem updN_ne {F:Nat→Nd}{i k:Nat}(x:Nd)(h:k≠i):updN F i x k=F k:=by simp [updN,h]
theorem updN_upd (F:Nat→Nd)(i:Nat)(x x2:Nd):updN (updN F i x) i x2=updN F i x2:=by
  funext k
  by_cases h:k=i
  · subst h;rw [updN_at,updN_at]
  · rw [updN_ne _ h,updN_ne _ h,updN_ne _ h]
theorem updN_ln {F:Nat→Nd}{i:Nat}{x:Nd}(h:∀ j,lnAt x j=lnAt (F i) j)(k j:Nat):lnAt (updN F i x k) j=lnAt (F k) j:=by
  by_cases e:k=i
  · subst e;rw [updN_at];exact h j
  · rw [updN_ne _ e]
theorem OwnT.cell {w:World}{lo hi B n:Nat}{F:Nat→Nd}{Y:Nat→Na}(h:OwnT w lo hi B F Y n)(i:Nat)(hi':i<n)(c:Nat)(hc:c<24)(v:Value)(x:Nd)(hV:ndV x (Y i)=(ndV (F i) (Y i)).set c v)
    (h1:x.A.us=(F i).A.us) (h2:x.A.gs=(F i).A.gs) (h3:x.D.us=(F i).D.us) (h4:x.D.gs=(F i).D.gs) (h5:x.ns=(F i).ns) :
    OwnT (w.setCell ⟨B,i*24+c,none⟩ v) lo hi B (updN F i x) Y n:=by
  have hB:ButS (some ⟨B,0,none⟩) w (w.setCell ⟨B,i*24+c,none⟩ v):=(ButS.refl _ _).set
  have hln:∀ j,lnAt x j=lnAt (F i) j:=fun j=>by
    match j with
    | 0=>exact congrArg List.length h1
    | 1=>exact congrArg List.length h2
    | 2=>exact congrArg List.length h3
    | 3=>exact congrArg List.length h4
    | _+4=>exact congrArg List.length h5
  have hk:∀ k,k<n→NdOwn (w.setCell ⟨B,i*24+c,none⟩ v) (F k) (Y k):=fun k hk=>(h.own k hk).keepS hB (fun j hj h0 A A2 e e2=>by
    have:=h.rng k j A2 hk hj h0 e2
    cases e
    exact fun e3=>this.2.2 e3.symm)
  refine ⟨by simpa using h.lt,h.inB,⟨fun k hkn=>?_,fun j=>by rw [World.frozen?_setCell];exact h.row.frz j⟩,fun k hkn=>?_,fun k j A hkn hj h0 e=>h.rng k j A hkn hj (by rwa [updN_ln hln] at h0) e,fun k k' j j' A A' hk1 hk2 hj hj' h0 h0' e e' eb=>h.inj k k' j j' A A' hk1 hk2 hj hj' (by rwa [updN_ln hln] at h0) (by rwa [updN_ln hln] at h0') e e' eb⟩
  · by_cases e : k = i
    · subst e
      rw [updN_at]
      show World.rangeAt _ _ _ _
      rw [hV]
      exact range_set (h.row.at' k hkn) c (by rw [ndV_len];exact hc) v
    · rw [updN_ne _ e]
      intro j u hu
      have hj:j<24:=(List.getElem?_eq_some_iff.1 hu).1
      rw [World.cell?_setCell_other _ _ _ _ (by intro h;have h2:=congrArg Addr.off h;simp only at h2;omega)]
      exact h.row.at' k hkn j u hu
  · by_cases e : k = i
    · subst e
      rw [updN_at]
      obtain ⟨q1,q2,q3,q4,q5⟩:=hk k hkn
      exact ⟨by rw [h1];exact q1,by rw [h2];exact q2,by rw [h3];exact q3,by rw [h4];exact q4,by rw [h5];exact q5⟩
    · rw [updN_ne _ e]
      exact hk k hkn
theorem OwnT.list {w w':World}{lo hi B n:Nat}{F:Nat→Nd}{Y:Nat→Na}(h:OwnT w lo hi B F Y n)(i:Nat)(hi':i<n)(j0:Nat)(hj0:j0<5)(x:Nd)(hb:ButS (if 0<lnAt (F i) j0 then laAt (Y i) j0 else none) w w')
    (hV:ndV x (Y i)=ndV (F i) (Y i)) (hln:∀ j,lnAt x j=lnAt (F i) j) (ho:NdOwn w' x (Y i)):OwnT w' lo hi B (updN F i x) Y n:=by
  have hBne:∀ A,(if 0<lnAt (F i) j0 then laAt (Y i) j0 else none)=some A→B≠A.block:=fun A e=>by
    by_cases h0:0<lnAt (F i) j0
    · rw [if_pos h0] at e
      exact fun e2=>(h.rng i j0 A hi' hj0 h0 e).2.2 e2.symm
    · rw [if_neg h0] at e;cases e
  refine ⟨Nat.lt_of_lt_of_le h.lt hb.size,h.inB,⟨fun k hkn=>?_,fun j=>(hb.cell B j h.lt hBne).2.trans (h.row.frz j)⟩,fun k hkn=>?_,fun k j A hkn hj h0 e=>h.rng k j A hkn hj (by rwa [updN_ln hln] at h0) e,fun k k' j j' A A' hk1 hk2 hj hj' h0 h0' e e' eb=>h.inj k k' j j' A A' hk1 hk2 hj hj' (by rwa [updN_ln hln] at h0) (by rwa [updN_ln hln] at h0') e e' eb⟩
  · have hr := range_keep (h.row.at' k hkn) (fun j => (hb.cell B j h.lt hBne).1)
    by_cases e:k=i
    · subst e
      rw [updN_at]
      show World.rangeAt _ _ _ _
      rw [hV]
      exact hr
    · rw [updN_ne _ e]
      exact hr
  · by_cases e : k = i
    · subst e
      rw [updN_at]
      exact ho
    · rw [updN_ne _ e]
      refine (h.own k hkn).keepS hb (fun j hj h0 A A2 e1 e2 eb=>?_)
      by_cases hz:0<lnAt (F i) j0
      · rw [if_pos hz] at e1
        exact e (h.inj k i j j0 A2 A hkn hi' hj hj0 h0 hz e2 e1 eb.symm).1
      · rw [if_neg hz] at e1;cases e1
theorem OwnT.others {w w':World}{lo hi B n:Nat}{F:Nat→Nd}{Y:Nat→Na}(h:OwnT w lo hi B F Y n)(i:Nat)(hi':i<n)(j0:Nat)(hj0:j0<5)(hb:ButS (if 0<lnAt (F i) j0 then laAt (Y i) j0 else none) w w') :
    (j0≠0→Own (Y i).aU (F i).A.us.length (F i).A.us w')∧(j0≠1→Own (Y i).aG (F i).A.gs.length (F i).A.gs w')∧(j0≠2→Own (Y i).dU (F i).D.us.length (F i).D.us w')∧(j0≠3→Own (Y i).dG (F i).D.gs.length (F i).D.gs w')∧(j0≠4→OwnE (Y i).nA (F i).ns.length (F i).ns w'):=by
  have hq:∀ j,j<5→j0≠j→0<lnAt (F i) j→∀ A A2,(if 0<lnAt (F i) j0 then laAt (Y i) j0 else none)=some A→laAt (Y i) j=some A2→A.block≠A2.block:=fun j hj hne h0 A A2 e1 e2 eb=>by
    by_cases hz:0<lnAt (F i) j0
    · rw [if_pos hz] at e1
      exact hne (h.inj i i j0 j A A2 hi' hi' hj0 hj hz h0 e1 e2 eb).2
    · rw [if_neg hz] at e1;cases e1
  have o:=h.own i hi'
  exact ⟨fun hn=>o.aU.keepS hb (hq 0 (by omega) hn),fun hn=>o.aG.keepS hb (hq 1 (by omega) hn),fun hn=>o.dU.keepS hb (hq 2 (by omega) hn),fun hn=>o.dG.keepS hb (hq 3 (by omega) hn),fun hn=>o.nA.keepS hb (hq 4 (by omega) hn)⟩
theorem OwnT.rngIf {w:World}{lo hi B n:Nat}{F:Nat→Nd}{Y:Nat→Na}(h:OwnT w lo hi B F Y n)(i:Nat)(hi':i<n)(j0:Nat)(hj0:j0<5):∀ A,(if 0<lnAt (F i) j0 then laAt (Y i) j0 else none)=some A→lo≤A.block∧A.block<hi:=fun A e=>by
  by_cases h0:0<lnAt (F i) j0
  · rw [if_pos h0] at e
    have:=h.rng i j0 A hi' hj0 h0 e
    exact ⟨this.1,this.2.1⟩
  · rw [if_neg h0] at e;cases e
theorem OwnT.btw {w w':World}{lo hi lo2 hi2 B n:Nat}{F:Nat→Nd}{Y:Nat→Na}(h:OwnT w lo hi B F Y n)(hb:Btw lo2 hi2 w w')(hd:hi≤lo2∨hi2≤lo):OwnT w' lo hi B F Y n:=by
  have hB:B<lo2∨hi2≤B:=by have:=h.inB;omega
  have hq:∀ i j A,i<n→j<5→0<lnAt (F i) j→laAt (Y i) j=some A→A.block<lo2∨hi2≤A.block:=fun i j A hi' hj h0 e=>by have:=h.rng i j A hi' hj h0 e;omega
  exact ⟨Nat.lt_of_lt_of_le h.lt hb.size,h.inB,⟨fun i hi'=>range_keep (h.row.at' i hi') (fun j=>(hb.cell B j h.lt hB).1),fun j=>(hb.cell B j h.lt hB).2.trans (h.row.frz j)⟩,
    fun i hi'=>⟨(h.own i hi').aU.btw hb (fun h0 A e=>hq i 0 A hi' (by omega) h0 e),(h.own i hi').aG.btw hb (fun h0 A e=>hq i 1 A hi' (by omega) h0 e),(h.own i hi').dU.btw hb (fun h0 A e=>hq i 2 A hi' (by omega) h0 e),(h.own i hi').dG.btw hb (fun h0 A e=>hq i 3 A hi' (by omega) h0 e),(h.own i hi').nA.btw hb (fun h0 A e=>hq i 4 A hi' (by omega) h0 e)⟩,h.rng,h.inj⟩
theorem block_of_some {B:Nat}{A:Addr}(h:(some ⟨B,0,none⟩:Option Addr)=some A):A.block=B:=by cases h;rfl
structure LtS (B:Nat) (w:World):Prop where
  lt:B<w.heap.size
theorem LtS.below {B:Nat}{w w':World}(h:LtS B w)(hb:Below w.heap.size w w'):LtS B w':=⟨Nat.lt_of_lt_of_le h.lt hb.size⟩
theorem LtS.setA {B:Nat}{w:World}{Z o:Nat}{v:Value}(h:LtS B w)(hne:∀ b f,(some ⟨B,0,none⟩:Option Addr)=some ⟨b,f,none⟩→b≠Z):LtS B (w.setCell ⟨Z,o,none⟩ v):=⟨by simpa using h.lt⟩
theorem LtS.setsA {B:Nat}{Z:Nat}{w:World}(h:LtS B w)(hne:∀ b f,(some ⟨B,0,none⟩:Option Addr)=some ⟨b,f,none⟩→b≠Z)(vs:List Value)(o:Nat):LtS B (w.setCells Z o vs):=⟨by rw [size_setCellsT];exact h.lt⟩
theorem butS_set {w:World}{Z o:Nat}{v:Value}:ButS (some ⟨Z,0,none⟩) w (w.setCell ⟨Z,o,none⟩ v):=(ButS.refl _ _).set
theorem Own.setA {a:Option Addr}{len:Nat}{l:List (Int × Int)}{w:World}{Z o:Nat}{v:Value}(h:Own a len l w)(hne:∀ b f,a=some ⟨b,f,none⟩→b≠Z):Own a len l (w.setCell ⟨Z,o,none⟩ v) :=
  h.set (fun B e=>(hne B 0 e).symm)
theorem OwnE.setA {a:Option Addr}{len:Nat}{l:List (ByteArray × Int)}{w:World}{Z o:Nat}{v:Value}(h:OwnE a len l w)(hne:∀ b f,a=some ⟨b,f,none⟩→b≠Z):OwnE a len l (w.setCell ⟨Z,o,none⟩ v):=by
  refine ⟨h.1,fun h0=>?_⟩
  obtain ⟨B,ha,hlt,hp⟩:=h.2 h0
  have hn:=hne B 0 ha
  refine ⟨B,ha,by simpa using hlt,fun i hi=>?_⟩
  have h1:=hp i hi
  rw [World.frozen?_setCell,World.frozen?_setCell]
  refine ⟨⟨?_,?_⟩,h1.2⟩
  · rw [← h1.1.1]
    exact World.cell?_setCell_other _ _ _ _ (by intro h;have h2:=congrArg Addr.block h;simp only at h2;omega)
  · rw [← h1.1.2]
    exact World.cell?_setCell_other _ _ _ _ (by intro h;have h2:=congrArg Addr.block h;simp only at h2;omega)
theorem Own.setsA {a:Option Addr}{len:Nat}{l:List (Int × Int)}{Z:Nat}{w:World}(h:Own a len l w)(hne:∀ b f,a=some ⟨b,f,none⟩→b≠Z):∀ (vs:List Value) (o:Nat),Own a len l (w.setCells Z o vs):=by
  intro vs
  induction vs generalizing w with
  | nil=>intro o;exact h
  | cons v r ih=>intro o;rw [World.setCells];exact ih (h.setA hne) (o+1)
theorem OwnE.setsA {a:Option Addr}{len:Nat}{l:List (ByteArray × Int)}{Z:Nat}{w:World}(h:OwnE a len l w)(hne:∀ b f,a=some ⟨b,f,none⟩→b≠Z):∀ (vs:List Value) (o:Nat),OwnE a len l (w.setCells Z o vs):=by
  intro vs
  induction vs generalizing w with
  | nil=>intro o;exact h
  | cons v r ih=>intro o;rw [World.setCells];exact ih (h.setA hne) (o+1)
structure LsI (lo hi:Nat) (x:Nd) (y:Na):Prop where
  rng:∀ j A,j<5→0<lnAt x j→laAt y j=some A→lo≤A.block∧A.block<hi
  inj:∀ j j' A A',j<5→j'<5→0<lnAt x j→0<lnAt x j'→laAt y j=some A→laAt y j'=some A'→A.block=A'.block→j=j'
theorem lsI_of {lo hi B1 B2 B3 B4 B5 c1 c2 c3 c4 c5:Nat}{x:Nd}(h0:lo≤B1)(h1:B1<B2)(h2:B2<B3)(h3:B3<B4)(h4:B4<B5)(h5:B5<hi) :
    LsI lo hi x ⟨some ⟨B1,0,none⟩,c1,some ⟨B2,0,none⟩,c2,some ⟨B3,0,none⟩,c3,some ⟨B4,0,none⟩,c4,some ⟨B5,0,none⟩,c5⟩:=by
  have hb:∀ j A,j<5→laAt ⟨some ⟨B1,0,none⟩,c1,some ⟨B2,0,none⟩,c2,some ⟨B3,0,none⟩,c3,some ⟨B4,0,none⟩,c4,some ⟨B5,0,none⟩,c5⟩ j=some A→(j=0∧A.block=B1)∨(j=1∧A.block=B2)∨(j=2∧A.block=B3)∨(j=3∧A.block=B4)∨(j=4∧A.block=B5):=fun j A hj e=>by
    match j,hj with
    | 0,_=>exact .inl ⟨rfl,block_of_some e⟩
    | 1,_=>exact .inr (.inl ⟨rfl,block_of_some e⟩)
    | 2,_=>exact .inr (.inr (.inl ⟨rfl,block_of_some e⟩))
    | 3,_=>exact .inr (.inr (.inr (.inl ⟨rfl,block_of_some e⟩)))
    | 4,_=>exact .inr (.inr (.inr (.inr ⟨rfl,block_of_some e⟩)))
  refine ⟨fun j A hj _ e=>?_,fun j j' A A' hj hj' _ _ e e' eb=>?_⟩
  · have:=hb j A hj e;omega
  · have q1 := hb j A hj e
    have q2:=hb j' A' hj' e'
    omega
structure LsT (w:World) (lo:Nat) (F:Nat→Nd) (Y:Nat→Na) (k:Nat):Prop where
  own:∀ i,i<k→NdOwn w (F i) (Y i)
  rng:∀ i j A,i<k→j<5→0<lnAt (F i) j→laAt (Y i) j=some A→lo≤A.block∧A.block<w.heap.size
  inj:∀ i i' j j' A A',i<k→i'<k→j<5→j'<5→0<lnAt (F i) j→0<lnAt (F i') j'→laAt (Y i) j=some A→laAt (Y i') j'=some A'→A.block=A'.block→i=i'∧j=j'
theorem lsT_zero (w:World)(lo:Nat)(F:Nat→Nd)(Y:Nat→Na):LsT w lo F Y 0:=⟨fun i hi=>absurd hi (by omega),fun i _ _ hi=>absurd hi (by omega),fun i _ _ _ _ _ hi=>absurd hi (by omega)⟩
theorem LsT.step {w w1:World}{lo k:Nat}{F:Nat→Nd}{Y:Nat→Na}{x:Nd}{y:Na}(h:LsT w lo F Y k)(hb:Below w.heap.size w w1)(hn:NdOwn w1 x y)(hl:LsI w.heap.size w1.heap.size x y)(hlo:lo≤w.heap.size) :
    LsT w1 lo (fun i=>if i=k then x else F i) (fun i=>if i=k then y else Y i) (k+1):=by
  refine ⟨fun i hi=>?_,fun i j A hi hj h0 e=>?_,fun i i' j j' A A' hi hi' hj hj' h0 h0' e e' eb=>?_⟩
  · by_cases e : i = k
    · simp only [if_pos e];exact hn
    · simp only [if_neg e];exact (h.own i (by omega)).below hb
  · by_cases ei : i = k
    · simp only [if_pos ei] at h0 e
      have:=hl.rng j A hj h0 e
      omega
    · simp only [if_neg ei] at h0 e
      have:=h.rng i j A (by omega) hj h0 e
      have:=hb.size
      omega
  · by_cases ei : i = k
    · simp only [if_pos ei] at h0 e
      have q1:=hl.rng j A hj h0 e
      by_cases ei':i'=k
      · simp only [if_pos ei'] at h0' e'
        exact ⟨by omega,hl.inj j j' A A' hj hj' h0 h0' e e' eb⟩
      · simp only [if_neg ei'] at h0' e'
        have q2:=h.rng i' j' A' (by omega) hj' h0' e'
        omega
    · simp only [if_neg ei] at h0 e
      have q1:=h.rng i j A (by omega) hj h0 e
      by_cases ei':i'=k
      · simp only [if_pos ei'] at h0' e'
        have q2:=hl.rng j' A' hj' h0' e'
        omega
      · simp only [if_neg ei'] at h0' e'
        exact h.inj i i' j j' A A' (by omega) (by omega) hj hj' h0 h0' e e' eb
theorem LsT.congr {w:World}{lo k:Nat}{F G:Nat→Nd}{Y:Nat→Na}(h:LsT w lo F Y k)(hg:∀ i,i<k→F i=G i):LsT w lo G Y k :=
  ⟨fun i hi=>by rw [←hg i hi];exact h.own i hi,fun i j A hi hj h0 e=>h.rng i j A hi hj (by rw [hg i hi];exact h0) e,fun i i' j j' A A' hi hi' hj hj' h0 h0' e e' eb=>h.inj i i' j j' A A' hi hi' hj hj' (by rw [hg i hi];exact h0) (by rw [hg i' hi'];exact h0') e e' eb⟩
theorem NdOwn.setB {w:World}{x:Nd}{y:Na}{Z o:Nat}{v:Value}(h:NdOwn w x y)(hne:∀ j A,j<5→0<lnAt x j→laAt y j=some A→A.block≠Z):NdOwn (w.setCell ⟨Z,o,none⟩ v) x y :=
  h.keepS butS_set (fun j hj h0 A A2 e e2=>by cases e;exact fun e3=>hne j A2 hj h0 e2 e3.symm)
theorem LsT.set {w:World}{lo k Z o:Nat}{F:Nat→Nd}{Y:Nat→Na}{v:Value}(h:LsT w lo F Y k)(hz:Z<lo):LsT (w.setCell ⟨Z,o,none⟩ v) lo F Y k :=
  ⟨fun i hi=>(h.own i hi).setB (fun j A hj h0 e=>by have:=h.rng i j A hi hj h0 e;omega),fun i j A hi hj h0 e=>by have:=h.rng i j A hi hj h0 e;simpa using this,h.inj⟩
theorem LsT.sets {lo k Z:Nat}{F:Nat→Nd}{Y:Nat→Na}{w:World}(h:LsT w lo F Y k)(hz:Z<lo):∀ (vs:List Value) (o:Nat),LsT (w.setCells Z o vs) lo F Y k:=by
  intro vs
  induction vs generalizing w with
  | nil=>intro o;exact h
  | cons v r ih=>intro o;rw [World.setCells];exact ih (h.set hz) (o+1)
structure OwnTa (w:World) (B:Nat) (F:Nat→Nd) (Y:Nat→Na) (n:Nat):Prop where
  lt:B<w.heap.size
  row:NRow w B F Y n
  ls:LsT w (B+1) F Y n
theorem OwnTa.set {w:World}{B n Z o:Nat}{F:Nat→Nd}{Y:Nat→Na}{v:Value}(h:OwnTa w B F Y n)(hz:Z<B):OwnTa (w.setCell ⟨Z,o,none⟩ v) B F Y n:=⟨by simpa using h.lt,h.row.other (by omega),h.ls.set (by omega)⟩
theorem OwnTa.ownT {w:World}{B n:Nat}{F:Nat→Nd}{Y:Nat→Na}(h:OwnTa w B F Y n):OwnT w B w.heap.size B F Y n :=
  ⟨h.lt,⟨Nat.le_refl _,h.lt⟩,h.row,h.ls.own,fun i j A hi hj h0 e=>by have:=h.ls.rng i j A hi hj h0 e;omega,h.ls.inj⟩
end Go.Proofs.YtabfdidnjibdeaaGreatDoor
namespace Go.Proofs.YtabfdidnjibdeaaGreatDoor
open Go.RowKit Go.PlainAid
set_option linter.unusedVariables false
set_option maxRecDepth 20000 in
set_option maxHeartbeats 4000000 in
theorem toNodeO_any (x:Nd)(y:Na)(hf:NdFit 1048576 x)(w:World)(hi:NdIn w x y) :
    Calls Tryz.prog 68 #[.agg (ndV x y).toArray] w fun e w'=>∃ y':Na,e=.returned (.agg (ndV x y').toArray)∧NdOwn w' x y'∧LsI w.heap.size w'.heap.size x y'∧Below w.heap.size w w':=by
  have HF:Hid (NdFit 1048576 x):=hf
  have HI:Hid (NdIn w x y):=hi
  clear hf hi
  have HX:Hid (BoxR (((w.alloc (.cells (ndV x y).toArray 118)).alloc (.cells #[.int .i64 0,.int .i64 0,.int .i64 0,.int .i64 0,.int .i64 0,.int .i64 0,.int .i64 0,.slice none 0 0,.slice none 0 0,.bool false,.int .i64 0,.bool false,.int .i64 0,.int .i64 0,.int .i64 0,.slice none 0 0,.slice none 0 0,.bool false,.int .i64 0,.int .i64 0,.int .i64 0,.string ⟨#[]⟩,.slice none 0 0,.int .i64 0] 84)).alloc (.cells #[.int .i64 0,.int .i64 0,.int .i64 0,.int .i64 0,.int .i64 0,.int .i64 0,.int .i64 0,.slice none 0 0,.slice none 0 0,.bool false,.int .i64 0,.bool false,.int .i64 0,.int .i64 0,.int .i64 0,.slice none 0 0,.slice none 0 0,.bool false,.int .i64 0,.int .i64 0,.int .i64 0,.string ⟨#[]⟩,.slice none 0 0,.int .i64 0] 84)) w.heap.size (ndV x y)):=((boxR_new w (ndV x y) 118).below (bel_alloc _ _)).below (bel_alloc _ _)
  have HY:Hid (BoxW (((w.alloc (.cells (ndV x y).toArray 118)).alloc (.cells #[.int .i64 0,.int .i64 0,.int .i64 0,.int .i64 0,.int .i64 0,.int .i64 0,.int .i64 0,.slice none 0 0,.slice none 0 0,.bool false,.int .i64 0,.bool false,.int .i64 0,.int .i64 0,.int .i64 0,.slice none 0 0,.slice none 0 0,.bool false,.int .i64 0,.int .i64 0,.int .i64 0,.string ⟨#[]⟩,.slice none 0 0,.int .i64 0] 84)).alloc (.cells #[.int .i64 0,.int .i64 0,.int .i64 0,.int .i64 0,.int .i64 0,.int .i64 0,.int .i64 0,.slice none 0 0,.slice none 0 0,.bool false,.int .i64 0,.bool false,.int .i64 0,.int .i64 0,.int .i64 0,.slice none 0 0,.slice none 0 0,.bool false,.int .i64 0,.int .i64 0,.int .i64 0,.string ⟨#[]⟩,.slice none 0 0,.int .i64 0] 84)) (w.heap.size+1) [.int .i64 0,.int .i64 0,.int .i64 0,.int .i64 0,.int .i64 0,.int .i64 0,.int .i64 0,.slice none 0 0,.slice none 0 0,.bool false,.int .i64 0,.bool false,.int .i64 0,.int .i64 0,.int .i64 0,.slice none 0 0,.slice none 0 0,.bool false,.int .i64 0,.int .i64 0,.int .i64 0,.string ⟨#[]⟩,.slice none 0 0,.int .i64 0]):=(by
    have h:=(boxW_new (w.alloc (.cells (ndV x y).toArray 118)) [.int .i64 0,.int .i64 0,.int .i64 0,.int .i64 0,.int .i64 0,.int .i64 0,.int .i64 0,.slice none 0 0,.slice none 0 0,.bool false,.int .i64 0,.bool false,.int .i64 0,.int .i64 0,.int .i64 0,.slice none 0 0,.slice none 0 0,.bool false,.int .i64 0,.int .i64 0,.int .i64 0,.string ⟨#[]⟩,.slice none 0 0,.int .i64 0] 84).below (bel_alloc _ (.cells #[.int .i64 0,.int .i64 0,.int .i64 0,.int .i64 0,.int .i64 0,.int .i64 0,.int .i64 0,.slice none 0 0,.slice none 0 0,.bool false,.int .i64 0,.bool false,.int .i64 0,.int .i64 0,.int .i64 0,.slice none 0 0,.slice none 0 0,.bool false,.int .i64 0,.int .i64 0,.int .i64 0,.string ⟨#[]⟩,.slice none 0 0,.int .i64 0] 84))
    simp only [World.size_alloc] at h
    exact h)
  have HZ:Hid (BoxW (((w.alloc (.cells (ndV x y).toArray 118)).alloc (.cells #[.int .i64 0,.int .i64 0,.int .i64 0,.int .i64 0,.int .i64 0,.int .i64 0,.int .i64 0,.slice none 0 0,.slice none 0 0,.bool false,.int .i64 0,.bool false,.int .i64 0,.int .i64 0,.int .i64 0,.slice none 0 0,.slice none 0 0,.bool false,.int .i64 0,.int .i64 0,.int .i64 0,.string ⟨#[]⟩,.slice none 0 0,.int .i64 0] 84)).alloc (.cells #[.int .i64 0,.int .i64 0,.int .i64 0,.int .i64 0,.int .i64 0,.int .i64 0,.int .i64 0,.slice none 0 0,.slice none 0 0,.bool false,.int .i64 0,.bool false,.int .i64 0,.int .i64 0,.int .i64 0,.slice none 0 0,.slice none 0 0,.bool false,.int .i64 0,.int .i64 0,.int .i64 0,.string ⟨#[]⟩,.slice none 0 0,.int .i64 0] 84)) (w.heap.size+1+1) [.int .i64 0,.int .i64 0,.int .i64 0,.int .i64 0,.int .i64 0,.int .i64 0,.int .i64 0,.slice none 0 0,.slice none 0 0,.bool false,.int .i64 0,.bool false,.int .i64 0,.int .i64 0,.int .i64 0,.slice none 0 0,.slice none 0 0,.bool false,.int .i64 0,.int .i64 0,.int .i64 0,.string ⟨#[]⟩,.slice none 0 0,.int .i64 0]):=(by
    have h:=boxW_new ((w.alloc (.cells (ndV x y).toArray 118)).alloc (.cells #[.int .i64 0,.int .i64 0,.int .i64 0,.int .i64 0,.int .i64 0,.int .i64 0,.int .i64 0,.slice none 0 0,.slice none 0 0,.bool false,.int .i64 0,.bool false,.int .i64 0,.int .i64 0,.int .i64 0,.slice none 0 0,.slice none 0 0,.bool false,.int .i64 0,.int .i64 0,.int .i64 0,.string ⟨#[]⟩,.slice none 0 0,.int .i64 0] 84)) [.int .i64 0,.int .i64 0,.int .i64 0,.int .i64 0,.int .i64 0,.int .i64 0,.int .i64 0,.slice none 0 0,.slice none 0 0,.bool false,.int .i64 0,.bool false,.int .i64 0,.int .i64 0,.int .i64 0,.slice none 0 0,.slice none 0 0,.bool false,.int .i64 0,.int .i64 0,.int .i64 0,.string ⟨#[]⟩,.slice none 0 0,.int .i64 0] 84
    simp only [World.size_alloc] at h
    exact h)
  have HB:Hid (Below w.heap.size w (((w.alloc (.cells (ndV x y).toArray 118)).alloc (.cells #[.int .i64 0,.int .i64 0,.int .i64 0,.int .i64 0,.int .i64 0,.int .i64 0,.int .i64 0,.slice none 0 0,.slice none 0 0,.bool false,.int .i64 0,.bool false,.int .i64 0,.int .i64 0,.int .i64 0,.slice none 0 0,.slice none 0 0,.bool false,.int .i64 0,.int .i64 0,.int .i64 0,.string ⟨#[]⟩,.slice none 0 0,.int .i64 0] 84)).alloc (.cells #[.int .i64 0,.int .i64 0,.int .i64 0,.int .i64 0,.int .i64 0,.int .i64 0,.int .i64 0,.slice none 0 0,.slice none 0 0,.bool false,.int .i64 0,.bool false,.int .i64 0,.int .i64 0,.int .i64 0,.slice none 0 0,.slice none 0 0,.bool false,.int .i64 0,.int .i64 0,.int .i64 0,.string ⟨#[]⟩,.slice none 0 0,.int .i64 0] 84))):=bl3T _ _ _ _
  go_enter Tryz.func68,Tryz.ntmps68
  go_upto_region 2 with fail
  generalize (((w.alloc (.cells (ndV x y).toArray 118)).alloc (.cells #[.int .i64 0,.int .i64 0,.int .i64 0,.int .i64 0,.int .i64 0,.int .i64 0,.int .i64 0,.slice none 0 0,.slice none 0 0,.bool false,.int .i64 0,.bool false,.int .i64 0,.int .i64 0,.int .i64 0,.slice none 0 0,.slice none 0 0,.bool false,.int .i64 0,.int .i64 0,.int .i64 0,.string ⟨#[]⟩,.slice none 0 0,.int .i64 0] 84)).alloc (.cells #[.int .i64 0,.int .i64 0,.int .i64 0,.int .i64 0,.int .i64 0,.int .i64 0,.int .i64 0,.slice none 0 0,.slice none 0 0,.bool false,.int .i64 0,.bool false,.int .i64 0,.int .i64 0,.int .i64 0,.slice none 0 0,.slice none 0 0,.bool false,.int .i64 0,.int .i64 0,.int .i64 0,.string ⟨#[]⟩,.slice none 0 0,.int .i64 0] 84))=w0 at HX HY HZ HB ⊢
  obtain ⟨X,hX⟩:∃ X,X=w.heap.size:=⟨_,rfl⟩
  have HXw:Hid (X=w.heap.size):=hX
  rw [←hX] at HX HY HZ ⊢
  clear hX
  have e0:=N24.c0 HX.out.at0
  have e1:=N24.c1 HX.out.at0
  have e2:=N24.c2 HX.out.at0
  have e3:=N24.c3 HX.out.at0
  have e4:=N24.c4 HX.out.at0
  have e5:=N24.c5 HX.out.at0
  have e6:=N24.c6 HX.out.at0
  have e7:=N24.c7 HX.out.at0
  have e8:=N24.c8 HX.out.at0
  have e9:=N24.c9 HX.out.at0
  have e10:=N24.c10 HX.out.at0
  simp only [Nat.zero_add] at e0 e1 e2 e3 e4 e5 e6 e7 e8 e9 e10
  have z0:w0.cell? ⟨X+1+1,0,none⟩=some (.int .i64 0):=HZ.out.at0 0 _ rfl
  have z1:w0.cell? ⟨X+1+1,1,none⟩=some (.int .i64 0):=HZ.out.at0 1 _ rfl
  have z2:w0.cell? ⟨X+1+1,2,none⟩=some (.int .i64 0):=HZ.out.at0 2 _ rfl
  have z3:w0.cell? ⟨X+1+1,3,none⟩=some (.int .i64 0):=HZ.out.at0 3 _ rfl
  have zf:=HZ.out.frz
  have HBn:Hid (Below w.heap.size w ((((w0.setCell ⟨X+1+1,0,none⟩ (.int .i64 x.k)).setCell ⟨X+1+1,1,none⟩ (.int .i64 x.ow)).setCell ⟨X+1+1,2,none⟩ (.int .i64 x.gr)).setCell ⟨X+1+1,3,none⟩ (.int .i64 x.ex))):=bl_setT (bl_setT (bl_setT (bl_setT (HB.out) (by have:=HXw.out;omega)) (by have:=HXw.out;omega)) (by have:=HXw.out;omega)) (by have:=HXw.out;omega)
  have HXn:Hid (BoxR ((((w0.setCell ⟨X+1+1,0,none⟩ (.int .i64 x.k)).setCell ⟨X+1+1,1,none⟩ (.int .i64 x.ow)).setCell ⟨X+1+1,2,none⟩ (.int .i64 x.gr)).setCell ⟨X+1+1,3,none⟩ (.int .i64 x.ex)) X (ndV x y)):=((((HX.out).other (by omega)).other (by omega)).other (by omega)).other (by omega)
  have HYn:Hid (BoxW ((((w0.setCell ⟨X+1+1,0,none⟩ (.int .i64 x.k)).setCell ⟨X+1+1,1,none⟩ (.int .i64 x.ow)).setCell ⟨X+1+1,2,none⟩ (.int .i64 x.gr)).setCell ⟨X+1+1,3,none⟩ (.int .i64 x.ex)) (X+1) [.int .i64 0,.int .i64 0,.int .i64 0,.int .i64 0,.int .i64 0,.int .i64 0,.int .i64 0,.slice none 0 0,.slice none 0 0,.bool false,.int .i64 0,.bool false,.int .i64 0,.int .i64 0,.int .i64 0,.slice none 0 0,.slice none 0 0,.bool false,.int .i64 0,.int .i64 0,.int .i64 0,.string ⟨#[]⟩,.slice none 0 0,.int .i64 0]):=((((HY.out).other (by omega)).other (by omega)).other (by omega)).other (by omega)
  have HZn:Hid (BoxW ((((w0.setCell ⟨X+1+1,0,none⟩ (.int .i64 x.k)).setCell ⟨X+1+1,1,none⟩ (.int .i64 x.ow)).setCell ⟨X+1+1,2,none⟩ (.int .i64 x.gr)).setCell ⟨X+1+1,3,none⟩ (.int .i64 x.ex)) (X+1+1) [.int .i64 x.k,.int .i64 x.ow,.int .i64 x.gr,.int .i64 x.ex,.int .i64 0,.int .i64 0,.int .i64 0,.slice none 0 0,.slice none 0 0,.bool false,.int .i64 0,.bool false,.int .i64 0,.int .i64 0,.int .i64 0,.slice none 0 0,.slice none 0 0,.bool false,.int .i64 0,.int .i64 0,.int .i64 0,.string ⟨#[]⟩,.slice none 0 0,.int .i64 0]):=((((HZ.out).set 0 (by simp) _).set 1 (by simp) _).set 2 (by simp) _).set 3 (by simp) _
  clear HX HY HZ HB
  go_wp2_with fail
  generalize ((((w0.setCell ⟨X+1+1,0,none⟩ (.int .i64 x.k)).setCell ⟨X+1+1,1,none⟩ (.int .i64 x.ow)).setCell ⟨X+1+1,2,none⟩ (.int .i64 x.gr)).setCell ⟨X+1+1,3,none⟩ (.int .i64 x.ex))=wA at HBn HXn HYn HZn ⊢
  clear zf e0 e1 e2 e3 e4 e5 e6 e7 e8 e9 e10 z0 z1 z2 z3
  refine (toAcl_any x.A.u x.A.g x.A.o _ _ _ _ _ _ x.A.r x.A.m x.A.us x.A.gs HF.out.au HF.out.ag _ (HI.out.aU.below HBn.out) (HI.out.aG.below HBn.out)).mono ?_
  rintro e w1 ⟨B1,B2,rfl,hO1,hO2,hs1,hs2,hs3,hb⟩
  have HS1:Hid (X+1+1<B1∧X+1+1<B2):=⟨Nat.lt_of_lt_of_le HZn.out.lt hs1,Nat.lt_trans (Nat.lt_of_lt_of_le HZn.out.lt hs1) hs2⟩
  have HB:Hid (Below w.heap.size w w1):=Below.on HBn.out hb
  have HX:Hid (BoxR w1 X (ndV x y)):=HXn.out.below hb
  have HY:Hid (BoxW w1 (X+1) [.int .i64 0,.int .i64 0,.int .i64 0,.int .i64 0,.int .i64 0,.int .i64 0,.int .i64 0,.slice none 0 0,.slice none 0 0,.bool false,.int .i64 0,.bool false,.int .i64 0,.int .i64 0,.int .i64 0,.slice none 0 0,.slice none 0 0,.bool false,.int .i64 0,.int .i64 0,.int .i64 0,.string ⟨#[]⟩,.slice none 0 0,.int .i64 0]):=HYn.out.below hb
  have HZ:Hid (BoxW w1 (X+1+1) [.int .i64 x.k,.int .i64 x.ow,.int .i64 x.gr,.int .i64 x.ex,.int .i64 0,.int .i64 0,.int .i64 0,.slice none 0 0,.slice none 0 0,.bool false,.int .i64 0,.bool false,.int .i64 0,.int .i64 0,.int .i64 0,.slice none 0 0,.slice none 0 0,.bool false,.int .i64 0,.int .i64 0,.int .i64 0,.string ⟨#[]⟩,.slice none 0 0,.int .i64 0]):=HZn.out.below hb
  clear hb HBn HXn HYn HZn
  have U1:Hid (Own (some ⟨B1,0,none⟩) x.A.us.length x.A.us w1):=hO1
  have U2:Hid (Own (some ⟨B2,0,none⟩) x.A.gs.length x.A.gs w1):=hO2
  have HT1:Hid (B1<B2):=hs2
  have L2:Hid (LtS B2 w1):=⟨hs3⟩
  clear hO1 hO2 hs1 hs2 hs3
  go_upto_region 7 with (refine wpList_store_list (by rfl) 81 _ _ (by rfl) (X+1+1) 4 (alV x.A (some ⟨B1,0,none⟩) x.A.us.length (some ⟨B2,0,none⟩) x.A.gs.length) (by rfl) (by rfl) (HZ.out.there 4 7 (by simp)) (by kernel_rfl) (alV_ones _ _ _ _ _) ?_)
  have HBn:Hid (Below w.heap.size w (w1.setCells (X+1+1) 4 (alV x.A (some ⟨B1,0,none⟩) x.A.us.length (some ⟨B2,0,none⟩) x.A.gs.length))):=bl_setsT (by have:=HXw.out;omega) _ _ HB.out
  have HXn:Hid (BoxR (w1.setCells (X+1+1) 4 (alV x.A (some ⟨B1,0,none⟩) x.A.us.length (some ⟨B2,0,none⟩) x.A.gs.length)) X (ndV x y)):=HX.out.others (by omega)
  have HYn:Hid (BoxW (w1.setCells (X+1+1) 4 (alV x.A (some ⟨B1,0,none⟩) x.A.us.length (some ⟨B2,0,none⟩) x.A.gs.length)) (X+1) [.int .i64 0,.int .i64 0,.int .i64 0,.int .i64 0,.int .i64 0,.int .i64 0,.int .i64 0,.slice none 0 0,.slice none 0 0,.bool false,.int .i64 0,.bool false,.int .i64 0,.int .i64 0,.int .i64 0,.slice none 0 0,.slice none 0 0,.bool false,.int .i64 0,.int .i64 0,.int .i64 0,.string ⟨#[]⟩,.slice none 0 0,.int .i64 0]):=HY.out.others (by omega)
  have HZn:Hid (BoxW (w1.setCells (X+1+1) 4 (alV x.A (some ⟨B1,0,none⟩) x.A.us.length (some ⟨B2,0,none⟩) x.A.gs.length)) (X+1+1) [.int .i64 x.k,.int .i64 x.ow,.int .i64 x.gr,.int .i64 x.ex,.int .i64 x.A.u,.int .i64 x.A.g,.int .i64 x.A.o,.slice (some ⟨B1,0,none⟩) x.A.us.length x.A.us.length,.slice (some ⟨B2,0,none⟩) x.A.gs.length x.A.gs.length,.bool x.A.r,.int .i64 x.A.m,.bool false,.int .i64 0,.int .i64 0,.int .i64 0,.slice none 0 0,.slice none 0 0,.bool false,.int .i64 0,.int .i64 0,.int .i64 0,.string ⟨#[]⟩,.slice none 0 0,.int .i64 0]):=HZ.out.sets 4 (alV x.A (some ⟨B1,0,none⟩) x.A.us.length (some ⟨B2,0,none⟩) x.A.gs.length) (by simp [alV_len])
  have U1n:Hid (Own (some ⟨B1,0,none⟩) x.A.us.length x.A.us (w1.setCells (X+1+1) 4 (alV x.A (some ⟨B1,0,none⟩) x.A.us.length (some ⟨B2,0,none⟩) x.A.gs.length))):=U1.out.setsA (apart_of HS1.out.1) _ _
  have U2n:Hid (Own (some ⟨B2,0,none⟩) x.A.gs.length x.A.gs (w1.setCells (X+1+1) 4 (alV x.A (some ⟨B1,0,none⟩) x.A.us.length (some ⟨B2,0,none⟩) x.A.gs.length))):=U2.out.setsA (apart_of HS1.out.2) _ _
  have L2n:Hid (LtS B2 (w1.setCells (X+1+1) 4 (alV x.A (some ⟨B1,0,none⟩) x.A.us.length (some ⟨B2,0,none⟩) x.A.gs.length))):=L2.out.setsA (apart_of HS1.out.2) _ _
  clear HB HX HY HZ U1 U2 L2
  generalize (w1.setCells (X+1+1) 4 (alV x.A (some ⟨B1,0,none⟩) x.A.us.length (some ⟨B2,0,none⟩) x.A.gs.length))=w2 at HBn HXn HYn HZn U1n U2n L2n ⊢
  have HB:=HBn
  have HX:=HXn
  have HY:=HYn
  have HZ:=HZn
  have U1:=U1n
  have U2:=U2n
  have L2:=L2n
  clear HBn HXn HYn HZn U1n U2n L2n
  have e11:=N24.c11 HX.out.at0
  have e12:=N24.c12 HX.out.at0
  have e13:=N24.c13 HX.out.at0
  have e14:=N24.c14 HX.out.at0
  have e15:=N24.c15 HX.out.at0
  have e16:=N24.c16 HX.out.at0
  have e17:=N24.c17 HX.out.at0
  have e18:=N24.c18 HX.out.at0
  simp only [Nat.zero_add] at e11 e12 e13 e14 e15 e16 e17 e18
  have z11:w2.cell? ⟨X+1+1,11,none⟩=some (.bool false):=HZ.out.at0 11 _ rfl
  have zf:=HZ.out.frz
  have HBn:Hid (Below w.heap.size w (w2.setCell ⟨X+1+1,11,none⟩ (.bool x.sh))):=bl_setT (HB.out) (by have:=HXw.out;omega)
  have HXn:Hid (BoxR (w2.setCell ⟨X+1+1,11,none⟩ (.bool x.sh)) X (ndV x y)):=(HX.out).other (by omega)
  have HYn:Hid (BoxW (w2.setCell ⟨X+1+1,11,none⟩ (.bool x.sh)) (X+1) [.int .i64 0,.int .i64 0,.int .i64 0,.int .i64 0,.int .i64 0,.int .i64 0,.int .i64 0,.slice none 0 0,.slice none 0 0,.bool false,.int .i64 0,.bool false,.int .i64 0,.int .i64 0,.int .i64 0,.slice none 0 0,.slice none 0 0,.bool false,.int .i64 0,.int .i64 0,.int .i64 0,.string ⟨#[]⟩,.slice none 0 0,.int .i64 0]):=(HY.out).other (by omega)
  have HZn:Hid (BoxW (w2.setCell ⟨X+1+1,11,none⟩ (.bool x.sh)) (X+1+1) [.int .i64 x.k,.int .i64 x.ow,.int .i64 x.gr,.int .i64 x.ex,.int .i64 x.A.u,.int .i64 x.A.g,.int .i64 x.A.o,.slice (some ⟨B1,0,none⟩) x.A.us.length x.A.us.length,.slice (some ⟨B2,0,none⟩) x.A.gs.length x.A.gs.length,.bool x.A.r,.int .i64 x.A.m,.bool x.sh,.int .i64 0,.int .i64 0,.int .i64 0,.slice none 0 0,.slice none 0 0,.bool false,.int .i64 0,.int .i64 0,.int .i64 0,.string ⟨#[]⟩,.slice none 0 0,.int .i64 0]):=(HZ.out).set 11 (by simp) _
  have U1n:Hid (Own (some ⟨B1,0,none⟩) x.A.us.length x.A.us (w2.setCell ⟨X+1+1,11,none⟩ (.bool x.sh))):=(U1.out).setA (apart_of HS1.out.1)
  have U2n:Hid (Own (some ⟨B2,0,none⟩) x.A.gs.length x.A.gs (w2.setCell ⟨X+1+1,11,none⟩ (.bool x.sh))):=(U2.out).setA (apart_of HS1.out.2)
  have L2n:Hid (LtS B2 (w2.setCell ⟨X+1+1,11,none⟩ (.bool x.sh))):=(L2.out).setA (apart_of HS1.out.2)
  clear HX HY HZ HB U1 U2 L2
  go_wp2_with fail
  generalize (w2.setCell ⟨X+1+1,11,none⟩ (.bool x.sh))=wB at HBn HXn HYn HZn U1n U2n L2n ⊢
  clear zf e11 e12 e13 e14 e15 e16 e17 e18 z11
  refine (toAcl_any x.D.u x.D.g x.D.o _ _ _ _ _ _ x.D.r x.D.m x.D.us x.D.gs HF.out.du HF.out.dg _ (HI.out.dU.below HBn.out) (HI.out.dG.below HBn.out)).mono ?_
  rintro e w3 ⟨B3,B4,rfl,hO1,hO2,hs1,hs2,hs3,hb⟩
  have HS2:Hid (X+1+1<B3∧X+1+1<B4):=⟨Nat.lt_of_lt_of_le HZn.out.lt hs1,Nat.lt_trans (Nat.lt_of_lt_of_le HZn.out.lt hs1) hs2⟩
  have HT2:Hid (B2<B3):=Nat.lt_of_lt_of_le L2n.out.lt hs1
  have HB:Hid (Below w.heap.size w w3):=Below.on HBn.out hb
  have HX:Hid (BoxR w3 X (ndV x y)):=HXn.out.below hb
  have HY:Hid (BoxW w3 (X+1) [.int .i64 0,.int .i64 0,.int .i64 0,.int .i64 0,.int .i64 0,.int .i64 0,.int .i64 0,.slice none 0 0,.slice none 0 0,.bool false,.int .i64 0,.bool false,.int .i64 0,.int .i64 0,.int .i64 0,.slice none 0 0,.slice none 0 0,.bool false,.int .i64 0,.int .i64 0,.int .i64 0,.string ⟨#[]⟩,.slice none 0 0,.int .i64 0]):=HYn.out.below hb
  have HZ:Hid (BoxW w3 (X+1+1) [.int .i64 x.k,.int .i64 x.ow,.int .i64 x.gr,.int .i64 x.ex,.int .i64 x.A.u,.int .i64 x.A.g,.int .i64 x.A.o,.slice (some ⟨B1,0,none⟩) x.A.us.length x.A.us.length,.slice (some ⟨B2,0,none⟩) x.A.gs.length x.A.gs.length,.bool x.A.r,.int .i64 x.A.m,.bool x.sh,.int .i64 0,.int .i64 0,.int .i64 0,.slice none 0 0,.slice none 0 0,.bool false,.int .i64 0,.int .i64 0,.int .i64 0,.string ⟨#[]⟩,.slice none 0 0,.int .i64 0]):=HZn.out.below hb
  have U1:Hid (Own (some ⟨B1,0,none⟩) x.A.us.length x.A.us w3):=U1n.out.below hb
  have U2:Hid (Own (some ⟨B2,0,none⟩) x.A.gs.length x.A.gs w3):=U2n.out.below hb
  have L2:Hid (LtS B2 w3):=L2n.out.below hb
  clear hb HBn HXn HYn HZn U1n U2n L2n
  have U3:Hid (Own (some ⟨B3,0,none⟩) x.D.us.length x.D.us w3):=hO1
  have U4:Hid (Own (some ⟨B4,0,none⟩) x.D.gs.length x.D.gs w3):=hO2
  have HT3:Hid (B3<B4):=hs2
  have L4:Hid (LtS B4 w3):=⟨hs3⟩
  clear hO1 hO2 hs1 hs2 hs3
  go_upto_region 9 with (refine wpList_store_list (by rfl) 81 _ _ (by rfl) (X+1+1) 12 (alV x.D (some ⟨B3,0,none⟩) x.D.us.length (some ⟨B4,0,none⟩) x.D.gs.length) (by rfl) (by rfl) (HZ.out.there 12 7 (by simp)) (by kernel_rfl) (alV_ones _ _ _ _ _) ?_)
  have HBn:Hid (Below w.heap.size w (w3.setCells (X+1+1) 12 (alV x.D (some ⟨B3,0,none⟩) x.D.us.length (some ⟨B4,0,none⟩) x.D.gs.length))):=bl_setsT (by have:=HXw.out;omega) _ _ HB.out
  have HXn:Hid (BoxR (w3.setCells (X+1+1) 12 (alV x.D (some ⟨B3,0,none⟩) x.D.us.length (some ⟨B4,0,none⟩) x.D.gs.length)) X (ndV x y)):=HX.out.others (by omega)
  have HYn:Hid (BoxW (w3.setCells (X+1+1) 12 (alV x.D (some ⟨B3,0,none⟩) x.D.us.length (some ⟨B4,0,none⟩) x.D.gs.length)) (X+1) [.int .i64 0,.int .i64 0,.int .i64 0,.int .i64 0,.int .i64 0,.int .i64 0,.int .i64 0,.slice none 0 0,.slice none 0 0,.bool false,.int .i64 0,.bool false,.int .i64 0,.int .i64 0,.int .i64 0,.slice none 0 0,.slice none 0 0,.bool false,.int .i64 0,.int .i64 0,.int .i64 0,.string ⟨#[]⟩,.slice none 0 0,.int .i64 0]):=HY.out.others (by omega)
  have HZn:Hid (BoxW (w3.setCells (X+1+1) 12 (alV x.D (some ⟨B3,0,none⟩) x.D.us.length (some ⟨B4,0,none⟩) x.D.gs.length)) (X+1+1) [.int .i64 x.k,.int .i64 x.ow,.int .i64 x.gr,.int .i64 x.ex,.int .i64 x.A.u,.int .i64 x.A.g,.int .i64 x.A.o,.slice (some ⟨B1,0,none⟩) x.A.us.length x.A.us.length,.slice (some ⟨B2,0,none⟩) x.A.gs.length x.A.gs.length,.bool x.A.r,.int .i64 x.A.m,.bool x.sh,.int .i64 x.D.u,.int .i64 x.D.g,.int .i64 x.D.o,.slice (some ⟨B3,0,none⟩) x.D.us.length x.D.us.length,.slice (some ⟨B4,0,none⟩) x.D.gs.length x.D.gs.length,.bool x.D.r,.int .i64 x.D.m,.int .i64 0,.int .i64 0,.string ⟨#[]⟩,.slice none 0 0,.int .i64 0]):=HZ.out.sets 12 (alV x.D (some ⟨B3,0,none⟩) x.D.us.length (some ⟨B4,0,none⟩) x.D.gs.length) (by simp [alV_len])
  have U1n:Hid (Own (some ⟨B1,0,none⟩) x.A.us.length x.A.us (w3.setCells (X+1+1) 12 (alV x.D (some ⟨B3,0,none⟩) x.D.us.length (some ⟨B4,0,none⟩) x.D.gs.length))):=U1.out.setsA (apart_of HS1.out.1) _ _
  have U2n:Hid (Own (some ⟨B2,0,none⟩) x.A.gs.length x.A.gs (w3.setCells (X+1+1) 12 (alV x.D (some ⟨B3,0,none⟩) x.D.us.length (some ⟨B4,0,none⟩) x.D.gs.length))):=U2.out.setsA (apart_of HS1.out.2) _ _
  have L2n:Hid (LtS B2 (w3.setCells (X+1+1) 12 (alV x.D (some ⟨B3,0,none⟩) x.D.us.length (some ⟨B4,0,none⟩) x.D.gs.length))):=L2.out.setsA (apart_of HS1.out.2) _ _
  have U3n:Hid (Own (some ⟨B3,0,none⟩) x.D.us.length x.D.us (w3.setCells (X+1+1) 12 (alV x.D (some ⟨B3,0,none⟩) x.D.us.length (some ⟨B4,0,none⟩) x.D.gs.length))):=U3.out.setsA (apart_of HS2.out.1) _ _
  have U4n:Hid (Own (some ⟨B4,0,none⟩) x.D.gs.length x.D.gs (w3.setCells (X+1+1) 12 (alV x.D (some ⟨B3,0,none⟩) x.D.us.length (some ⟨B4,0,none⟩) x.D.gs.length))):=U4.out.setsA (apart_of HS2.out.2) _ _
  have L4n:Hid (LtS B4 (w3.setCells (X+1+1) 12 (alV x.D (some ⟨B3,0,none⟩) x.D.us.length (some ⟨B4,0,none⟩) x.D.gs.length))):=L4.out.setsA (apart_of HS2.out.2) _ _
  clear HB HX HY HZ U1 U2 L2 U3 U4 L4
  generalize (w3.setCells (X+1+1) 12 (alV x.D (some ⟨B3,0,none⟩) x.D.us.length (some ⟨B4,0,none⟩) x.D.gs.length))=w4 at HBn HXn HYn HZn U1n U2n L2n U3n U4n L4n ⊢
  have HB:=HBn
  have HX:=HXn
  have HY:=HYn
  have HZ:=HZn
  have U1:=U1n
  have U2:=U2n
  have L2:=L2n
  have U3:=U3n
  have U4:=U4n
  have L4:=L4n
  clear HBn HXn HYn HZn U1n U2n L2n U3n U4n L4n
  have e19:=N24.c19 HX.out.at0
  have e20:=N24.c20 HX.out.at0
  have e21:=N24.c21 HX.out.at0
  have e22:=N24.c22 HX.out.at0
  simp only [Nat.zero_add] at e19 e20 e21 e22
  have z19:w4.cell? ⟨X+1+1,19,none⟩=some (.int .i64 0):=HZ.out.at0 19 _ rfl
  have z20:w4.cell? ⟨X+1+1,20,none⟩=some (.int .i64 0):=HZ.out.at0 20 _ rfl
  have z21:w4.cell? ⟨X+1+1,21,none⟩=some (.string ⟨#[]⟩):=HZ.out.at0 21 _ rfl
  have zf:=HZ.out.frz
  have HBn:Hid (Below w.heap.size w (((w4.setCell ⟨X+1+1,19,none⟩ (.int .i64 x.li)).setCell ⟨X+1+1,20,none⟩ (.int .i64 x.up)).setCell ⟨X+1+1,21,none⟩ (.string x.bo))):=bl_setT (bl_setT (bl_setT (HB.out) (by have:=HXw.out;omega)) (by have:=HXw.out;omega)) (by have:=HXw.out;omega)
  have HXn:Hid (BoxR (((w4.setCell ⟨X+1+1,19,none⟩ (.int .i64 x.li)).setCell ⟨X+1+1,20,none⟩ (.int .i64 x.up)).setCell ⟨X+1+1,21,none⟩ (.string x.bo)) X (ndV x y)):=(((HX.out).other (by omega)).other (by omega)).other (by omega)
  have HYn:Hid (BoxW (((w4.setCell ⟨X+1+1,19,none⟩ (.int .i64 x.li)).setCell ⟨X+1+1,20,none⟩ (.int .i64 x.up)).setCell ⟨X+1+1,21,none⟩ (.string x.bo)) (X+1) [.int .i64 0,.int .i64 0,.int .i64 0,.int .i64 0,.int .i64 0,.int .i64 0,.int .i64 0,.slice none 0 0,.slice none 0 0,.bool false,.int .i64 0,.bool false,.int .i64 0,.int .i64 0,.int .i64 0,.slice none 0 0,.slice none 0 0,.bool false,.int .i64 0,.int .i64 0,.int .i64 0,.string ⟨#[]⟩,.slice none 0 0,.int .i64 0]):=(((HY.out).other (by omega)).other (by omega)).other (by omega)
  have HZn:Hid (BoxW (((w4.setCell ⟨X+1+1,19,none⟩ (.int .i64 x.li)).setCell ⟨X+1+1,20,none⟩ (.int .i64 x.up)).setCell ⟨X+1+1,21,none⟩ (.string x.bo)) (X+1+1) [.int .i64 x.k,.int .i64 x.ow,.int .i64 x.gr,.int .i64 x.ex,.int .i64 x.A.u,.int .i64 x.A.g,.int .i64 x.A.o,.slice (some ⟨B1,0,none⟩) x.A.us.length x.A.us.length,.slice (some ⟨B2,0,none⟩) x.A.gs.length x.A.gs.length,.bool x.A.r,.int .i64 x.A.m,.bool x.sh,.int .i64 x.D.u,.int .i64 x.D.g,.int .i64 x.D.o,.slice (some ⟨B3,0,none⟩) x.D.us.length x.D.us.length,.slice (some ⟨B4,0,none⟩) x.D.gs.length x.D.gs.length,.bool x.D.r,.int .i64 x.D.m,.int .i64 x.li,.int .i64 x.up,.string x.bo,.slice none 0 0,.int .i64 0]):=(((HZ.out).set 19 (by simp) _).set 20 (by simp) _).set 21 (by simp) _
  have U1n:Hid (Own (some ⟨B1,0,none⟩) x.A.us.length x.A.us (((w4.setCell ⟨X+1+1,19,none⟩ (.int .i64 x.li)).setCell ⟨X+1+1,20,none⟩ (.int .i64 x.up)).setCell ⟨X+1+1,21,none⟩ (.string x.bo))):=(((U1.out).setA (apart_of HS1.out.1)).setA (apart_of HS1.out.1)).setA (apart_of HS1.out.1)
  have U2n:Hid (Own (some ⟨B2,0,none⟩) x.A.gs.length x.A.gs (((w4.setCell ⟨X+1+1,19,none⟩ (.int .i64 x.li)).setCell ⟨X+1+1,20,none⟩ (.int .i64 x.up)).setCell ⟨X+1+1,21,none⟩ (.string x.bo))):=(((U2.out).setA (apart_of HS1.out.2)).setA (apart_of HS1.out.2)).setA (apart_of HS1.out.2)
  have L2n:Hid (LtS B2 (((w4.setCell ⟨X+1+1,19,none⟩ (.int .i64 x.li)).setCell ⟨X+1+1,20,none⟩ (.int .i64 x.up)).setCell ⟨X+1+1,21,none⟩ (.string x.bo))):=(((L2.out).setA (apart_of HS1.out.2)).setA (apart_of HS1.out.2)).setA (apart_of HS1.out.2)
  have U3n:Hid (Own (some ⟨B3,0,none⟩) x.D.us.length x.D.us (((w4.setCell ⟨X+1+1,19,none⟩ (.int .i64 x.li)).setCell ⟨X+1+1,20,none⟩ (.int .i64 x.up)).setCell ⟨X+1+1,21,none⟩ (.string x.bo))):=(((U3.out).setA (apart_of HS2.out.1)).setA (apart_of HS2.out.1)).setA (apart_of HS2.out.1)
  have U4n:Hid (Own (some ⟨B4,0,none⟩) x.D.gs.length x.D.gs (((w4.setCell ⟨X+1+1,19,none⟩ (.int .i64 x.li)).setCell ⟨X+1+1,20,none⟩ (.int .i64 x.up)).setCell ⟨X+1+1,21,none⟩ (.string x.bo))):=(((U4.out).setA (apart_of HS2.out.2)).setA (apart_of HS2.out.2)).setA (apart_of HS2.out.2)
  have L4n:Hid (LtS B4 (((w4.setCell ⟨X+1+1,19,none⟩ (.int .i64 x.li)).setCell ⟨X+1+1,20,none⟩ (.int .i64 x.up)).setCell ⟨X+1+1,21,none⟩ (.string x.bo))):=(((L4.out).setA (apart_of HS2.out.2)).setA (apart_of HS2.out.2)).setA (apart_of HS2.out.2)
  clear HX HY HZ HB U1 U2 L2 U3 U4 L4
  go_wp2_with fail
  generalize (((w4.setCell ⟨X+1+1,19,none⟩ (.int .i64 x.li)).setCell ⟨X+1+1,20,none⟩ (.int .i64 x.up)).setCell ⟨X+1+1,21,none⟩ (.string x.bo))=wC at HBn HXn HYn HZn U1n U2n L2n U3n U4n L4n ⊢
  clear zf e19 e20 e21 e22 z19 z20 z21
  refine (toEntryS_any _ _ _ x.ns HF.out.nl _ (HI.out.nA.below HBn.out)).mono ?_
  rintro e w5 ⟨rfl,hO1,hs1,hb⟩
  obtain ⟨B5,hB5⟩:∃ B5,B5=wC.heap.size:=⟨_,rfl⟩
  rw [←hB5] at hO1 hs1 ⊢
  have HS3:Hid (X+1+1<B5):=(by show _<_;rw [hB5];exact HZn.out.lt)
  have HT4:Hid (B4<B5):=(by show _<_;rw [hB5];exact L4n.out.lt)
  clear hB5
  have HB:Hid (Below w.heap.size w w5):=Below.on HBn.out hb
  have HX:Hid (BoxR w5 X (ndV x y)):=HXn.out.below hb
  have HY:Hid (BoxW w5 (X+1) [.int .i64 0,.int .i64 0,.int .i64 0,.int .i64 0,.int .i64 0,.int .i64 0,.int .i64 0,.slice none 0 0,.slice none 0 0,.bool false,.int .i64 0,.bool false,.int .i64 0,.int .i64 0,.int .i64 0,.slice none 0 0,.slice none 0 0,.bool false,.int .i64 0,.int .i64 0,.int .i64 0,.string ⟨#[]⟩,.slice none 0 0,.int .i64 0]):=HYn.out.below hb
  have HZ:Hid (BoxW w5 (X+1+1) [.int .i64 x.k,.int .i64 x.ow,.int .i64 x.gr,.int .i64 x.ex,.int .i64 x.A.u,.int .i64 x.A.g,.int .i64 x.A.o,.slice (some ⟨B1,0,none⟩) x.A.us.length x.A.us.length,.slice (some ⟨B2,0,none⟩) x.A.gs.length x.A.gs.length,.bool x.A.r,.int .i64 x.A.m,.bool x.sh,.int .i64 x.D.u,.int .i64 x.D.g,.int .i64 x.D.o,.slice (some ⟨B3,0,none⟩) x.D.us.length x.D.us.length,.slice (some ⟨B4,0,none⟩) x.D.gs.length x.D.gs.length,.bool x.D.r,.int .i64 x.D.m,.int .i64 x.li,.int .i64 x.up,.string x.bo,.slice none 0 0,.int .i64 0]):=HZn.out.below hb
  have U1:Hid (Own (some ⟨B1,0,none⟩) x.A.us.length x.A.us w5):=U1n.out.below hb
  have U2:Hid (Own (some ⟨B2,0,none⟩) x.A.gs.length x.A.gs w5):=U2n.out.below hb
  have L2:Hid (LtS B2 w5):=L2n.out.below hb
  have U3:Hid (Own (some ⟨B3,0,none⟩) x.D.us.length x.D.us w5):=U3n.out.below hb
  have U4:Hid (Own (some ⟨B4,0,none⟩) x.D.gs.length x.D.gs w5):=U4n.out.below hb
  have L4:Hid (LtS B4 w5):=L4n.out.below hb
  clear hb HBn HXn HYn HZn U1n U2n L2n U3n U4n L4n
  have U5:Hid (OwnE (some ⟨B5,0,none⟩) x.ns.length x.ns w5):=hO1
  have L5:Hid (LtS B5 w5):=⟨hs1⟩
  clear hO1 hs1
  have e23:=N24.c23 HX.out.at0
  simp only [Nat.zero_add] at e23
  have z22:w5.cell? ⟨X+1+1,22,none⟩=some (.slice none 0 0):=HZ.out.at0 22 _ rfl
  have z23:w5.cell? ⟨X+1+1,23,none⟩=some (.int .i64 0):=HZ.out.at0 23 _ rfl
  have zf:=HZ.out.frz
  have HBn:Hid (Below w.heap.size w ((w5.setCell ⟨X+1+1,22,none⟩ (.slice (some ⟨B5,0,none⟩) x.ns.length x.ns.length)).setCell ⟨X+1+1,23,none⟩ (.int .i64 x.ti))):=bl_setT (bl_setT (HB.out) (by have:=HXw.out;omega)) (by have:=HXw.out;omega)
  have HXn:Hid (BoxR ((w5.setCell ⟨X+1+1,22,none⟩ (.slice (some ⟨B5,0,none⟩) x.ns.length x.ns.length)).setCell ⟨X+1+1,23,none⟩ (.int .i64 x.ti)) X (ndV x y)):=((HX.out).other (by omega)).other (by omega)
  have HYn:Hid (BoxW ((w5.setCell ⟨X+1+1,22,none⟩ (.slice (some ⟨B5,0,none⟩) x.ns.length x.ns.length)).setCell ⟨X+1+1,23,none⟩ (.int .i64 x.ti)) (X+1) [.int .i64 0,.int .i64 0,.int .i64 0,.int .i64 0,.int .i64 0,.int .i64 0,.int .i64 0,.slice none 0 0,.slice none 0 0,.bool false,.int .i64 0,.bool false,.int .i64 0,.int .i64 0,.int .i64 0,.slice none 0 0,.slice none 0 0,.bool false,.int .i64 0,.int .i64 0,.int .i64 0,.string ⟨#[]⟩,.slice none 0 0,.int .i64 0]):=((HY.out).other (by omega)).other (by omega)
  have HZn:Hid (BoxW ((w5.setCell ⟨X+1+1,22,none⟩ (.slice (some ⟨B5,0,none⟩) x.ns.length x.ns.length)).setCell ⟨X+1+1,23,none⟩ (.int .i64 x.ti)) (X+1+1) [.int .i64 x.k,.int .i64 x.ow,.int .i64 x.gr,.int .i64 x.ex,.int .i64 x.A.u,.int .i64 x.A.g,.int .i64 x.A.o,.slice (some ⟨B1,0,none⟩) x.A.us.length x.A.us.length,.slice (some ⟨B2,0,none⟩) x.A.gs.length x.A.gs.length,.bool x.A.r,.int .i64 x.A.m,.bool x.sh,.int .i64 x.D.u,.int .i64 x.D.g,.int .i64 x.D.o,.slice (some ⟨B3,0,none⟩) x.D.us.length x.D.us.length,.slice (some ⟨B4,0,none⟩) x.D.gs.length x.D.gs.length,.bool x.D.r,.int .i64 x.D.m,.int .i64 x.li,.int .i64 x.up,.string x.bo,.slice (some ⟨B5,0,none⟩) x.ns.length x.ns.length,.int .i64 x.ti]):=((HZ.out).set 22 (by simp) _).set 23 (by simp) _
  have U1n:Hid (Own (some ⟨B1,0,none⟩) x.A.us.length x.A.us ((w5.setCell ⟨X+1+1,22,none⟩ (.slice (some ⟨B5,0,none⟩) x.ns.length x.ns.length)).setCell ⟨X+1+1,23,none⟩ (.int .i64 x.ti))):=((U1.out).setA (apart_of HS1.out.1)).setA (apart_of HS1.out.1)
  have U2n:Hid (Own (some ⟨B2,0,none⟩) x.A.gs.length x.A.gs ((w5.setCell ⟨X+1+1,22,none⟩ (.slice (some ⟨B5,0,none⟩) x.ns.length x.ns.length)).setCell ⟨X+1+1,23,none⟩ (.int .i64 x.ti))):=((U2.out).setA (apart_of HS1.out.2)).setA (apart_of HS1.out.2)
  have L2n:Hid (LtS B2 ((w5.setCell ⟨X+1+1,22,none⟩ (.slice (some ⟨B5,0,none⟩) x.ns.length x.ns.length)).setCell ⟨X+1+1,23,none⟩ (.int .i64 x.ti))):=((L2.out).setA (apart_of HS1.out.2)).setA (apart_of HS1.out.2)
  have U3n:Hid (Own (some ⟨B3,0,none⟩) x.D.us.length x.D.us ((w5.setCell ⟨X+1+1,22,none⟩ (.slice (some ⟨B5,0,none⟩) x.ns.length x.ns.length)).setCell ⟨X+1+1,23,none⟩ (.int .i64 x.ti))):=((U3.out).setA (apart_of HS2.out.1)).setA (apart_of HS2.out.1)
  have U4n:Hid (Own (some ⟨B4,0,none⟩) x.D.gs.length x.D.gs ((w5.setCell ⟨X+1+1,22,none⟩ (.slice (some ⟨B5,0,none⟩) x.ns.length x.ns.length)).setCell ⟨X+1+1,23,none⟩ (.int .i64 x.ti))):=((U4.out).setA (apart_of HS2.out.2)).setA (apart_of HS2.out.2)
  have L4n:Hid (LtS B4 ((w5.setCell ⟨X+1+1,22,none⟩ (.slice (some ⟨B5,0,none⟩) x.ns.length x.ns.length)).setCell ⟨X+1+1,23,none⟩ (.int .i64 x.ti))):=((L4.out).setA (apart_of HS2.out.2)).setA (apart_of HS2.out.2)
  have U5n:Hid (OwnE (some ⟨B5,0,none⟩) x.ns.length x.ns ((w5.setCell ⟨X+1+1,22,none⟩ (.slice (some ⟨B5,0,none⟩) x.ns.length x.ns.length)).setCell ⟨X+1+1,23,none⟩ (.int .i64 x.ti))):=((U5.out).setA (apart_of HS3.out)).setA (apart_of HS3.out)
  have L5n:Hid (LtS B5 ((w5.setCell ⟨X+1+1,22,none⟩ (.slice (some ⟨B5,0,none⟩) x.ns.length x.ns.length)).setCell ⟨X+1+1,23,none⟩ (.int .i64 x.ti))):=((L5.out).setA (apart_of HS3.out)).setA (apart_of HS3.out)
  clear HX HY HZ HB U1 U2 L2 U3 U4 L4 U5 L5
  go_upto_region 14 with fail
  generalize ((w5.setCell ⟨X+1+1,22,none⟩ (.slice (some ⟨B5,0,none⟩) x.ns.length x.ns.length)).setCell ⟨X+1+1,23,none⟩ (.int .i64 x.ti))=w6 at HBn HXn HYn HZn U1n U2n L2n U3n U4n L4n U5n L5n ⊢
  clear zf e23 z22 z23
  obtain ⟨y',hy⟩:∃ y':Na,y'=⟨some ⟨B1,0,none⟩,x.A.us.length,some ⟨B2,0,none⟩,x.A.gs.length,some ⟨B3,0,none⟩,x.D.us.length,some ⟨B4,0,none⟩,x.D.gs.length,some ⟨B5,0,none⟩,x.ns.length⟩:=⟨_,rfl⟩
  have HZ:Hid (BoxW w6 (X+1+1) (ndV x y')):=(by rw [hy];exact HZn.out)
  have HNs:Hid (NdOwn (w6.setCells (X+1) 0 (ndV x y')) x y'):=(by
    have h1:=HS1.out
    have h2:=HS2.out
    have h3:=HS3.out
    rw [hy]
    exact ⟨U1n.out.setsA (apart_of (by omega)) _ _,U2n.out.setsA (apart_of (by omega)) _ _,U3n.out.setsA (apart_of (by omega)) _ _,U4n.out.setsA (apart_of (by omega)) _ _,U5n.out.setsA (apart_of (by omega)) _ _⟩)
  have HFr:Hid (LsI w.heap.size (w6.setCells (X+1) 0 (ndV x y')).heap.size x y'):=(by
    have h0:=HXw.out
    have h1:=HS1.out
    have h5:=L5n.out.lt
    have t1:=HT1.out
    have t2:=HT2.out
    have t3:=HT3.out
    have t4:=HT4.out
    rw [hy,size_setCellsT]
    exact lsI_of (by omega) t1 t2 t3 t4 h5)
  clear hy HZn U1n U2n U3n U4n U5n L2n L4n L5n
  have HBs:Hid (Below w.heap.size w (w6.setCells (X+1) 0 (ndV x y'))):=bl_setsT (by have:=HXw.out;omega) _ _ HBn.out
  have hr:(w6.setCells (X+1) 0 (ndV x y')).rangeAt (X+1) 0 (ndV x y'):=World.rangeAt_setCells_same _ _ _ _ (HYn.out.there 0 24 (by simp))
  have hR:Hid ((loadVar 84 ⟨X+1,0,none⟩).run Tryz.prog (w6.setCells (X+1) 0 (ndV x y'))=.ok (.agg (ndV x y').toArray) (w6.setCells (X+1) 0 (ndV x y'))):=run_loadVar_mid _ _ _ _ _ _ hr Tryz.underlying84 rfl (by kernel_rfl)
  clear hr
  go_wp2_with (first | (refine wpList_load_mid (by rfl) 84 _ (by rfl) _ _ (by rfl) _ _ HZ.out.at0 Tryz.underlying84 rfl (by kernel_rfl) ?_) | (refine wpList_store_list (by rfl) 84 _ _ (by rfl) (X+1) 0 (ndV x y') (by rfl) (by rfl) (HYn.out.there 0 24 (by simp)) (by kernel_rfl) (ndV_ones _ _) ?_) | (refine bodyPost_ret (v:=.agg (ndV x y').toArray) ?hres rfl ⟨y',rfl,HNs.out,HFr.out,HBs.out⟩))
  exact results_one Tryz.results68 (by rfl) hR.out
theorem infoNodeO:(Tryz.prog.info? 84).map (fun i=>(i.zero,i.size,i.bytes))=some (some (.agg #[.int .i64 0,.int .i64 0,.int .i64 0,.int .i64 0,.int .i64 0,.int .i64 0,.int .i64 0,.slice none 0 0,.slice none 0 0,.bool false,.int .i64 0,.bool false,.int .i64 0,.int .i64 0,.int .i64 0,.slice none 0 0,.slice none 0 0,.bool false,.int .i64 0,.int .i64 0,.int .i64 0,.string ⟨#[]⟩,.slice none 0 0,.int .i64 0]),24,280):=by kernel_rfl
set_option maxRecDepth 20000 in
set_option maxHeartbeats 4000000 in
theorem toNodeSO_any (a:Option Addr)(len cap:Nat)(l:List Nd)(hl:len≤1048576)(hf:∀ i,i<len→NdFit 1048576 (ndAt l i))(w:World)(hi:Nds a len l w) :
    Calls Tryz.prog 36 #[.slice a len cap] w fun e w'=>e=.returned (.slice (some ⟨w.heap.size,0,none⟩) len len)∧(∃ Y,NRow w' w.heap.size (ndAt l) Y len∧LsT w' (w.heap.size+1) (ndAt l) Y len)∧w.heap.size<w'.heap.size∧Below w.heap.size w w':=by
  have hmk:=run_make_nodes (P:=Tryz.prog) 33 84 Tryz.underlying33 infoNodeO .i64 .i64 len (by omega) w
  have hH0:Hid (NRow (w.alloc (.cells (madeCells #[.int .i64 0,.int .i64 0,.int .i64 0,.int .i64 0,.int .i64 0,.int .i64 0,.int .i64 0,.slice none 0 0,.slice none 0 0,.bool false,.int .i64 0,.bool false,.int .i64 0,.int .i64 0,.int .i64 0,.slice none 0 0,.slice none 0 0,.bool false,.int .i64 0,.int .i64 0,.int .i64 0,.string ⟨#[]⟩,.slice none 0 0,.int .i64 0] (len*24)) 84)) w.heap.size (fun _=>ndZ) (fun _=>naZ) len):=made_nodes w len _
  have hB0:Hid (Below w.heap.size w (w.alloc (.cells (madeCells #[.int .i64 0,.int .i64 0,.int .i64 0,.int .i64 0,.int .i64 0,.int .i64 0,.int .i64 0,.slice none 0 0,.slice none 0 0,.bool false,.int .i64 0,.bool false,.int .i64 0,.int .i64 0,.int .i64 0,.slice none 0 0,.slice none 0 0,.bool false,.int .i64 0,.int .i64 0,.int .i64 0,.string ⟨#[]⟩,.slice none 0 0,.int .i64 0] (len*24)) 84))):=(Below.refl _ _).alloc (Nat.le_refl _) _
  have hZ0:Hid (w.heap.size<(w.alloc (.cells (madeCells #[.int .i64 0,.int .i64 0,.int .i64 0,.int .i64 0,.int .i64 0,.int .i64 0,.int .i64 0,.slice none 0 0,.slice none 0 0,.bool false,.int .i64 0,.bool false,.int .i64 0,.int .i64 0,.int .i64 0,.slice none 0 0,.slice none 0 0,.bool false,.int .i64 0,.int .i64 0,.int .i64 0,.string ⟨#[]⟩,.slice none 0 0,.int .i64 0] (len*24)) 84)).heap.size):=(by show _<_;simp)
  generalize (w.alloc (.cells (madeCells #[.int .i64 0,.int .i64 0,.int .i64 0,.int .i64 0,.int .i64 0,.int .i64 0,.int .i64 0,.slice none 0 0,.slice none 0 0,.bool false,.int .i64 0,.bool false,.int .i64 0,.int .i64 0,.int .i64 0,.slice none 0 0,.slice none 0 0,.bool false,.int .i64 0,.int .i64 0,.int .i64 0,.string ⟨#[]⟩,.slice none 0 0,.int .i64 0] (len*24)) 84))=w0 at hmk hH0 hB0 hZ0
  have HI:Hid (Nds a len l w):=hi
  have HF:Hid (∀ i,i<len→NdFit 1048576 (ndAt l i)):=hf
  clear hi hf
  go_enter Tryz.func36,Tryz.ntmps36
  go_wp2
  go_loopw [4] (fun i wr=>∃ (k:Nat) (F:Nat→Nd) (Y:Nat→Na),k≤len∧i=.int .i64 k∧Hid (NRow wr w.heap.size F Y len)∧Hid (∀ j,j<k→F j=ndAt l j)∧Hid (LsT wr (w.heap.size+1) F Y k)∧Hid (Below w.heap.size w wr)∧Hid (w.heap.size<wr.heap.size)) (fun i _=>len-(intOf i).toNat)
  case atStart=>exact ⟨0,fun _=>ndZ,fun _=>naZ,Nat.zero_le _,rfl,hH0,fun j hj=>absurd hj (by omega),lsT_zero _ _ _ _,hB0,hZ0⟩
  case round =>
    obtain ⟨k,F,Y,hk,rfl,hH,hg,hT,hB,hZ⟩:=hrel
    by_cases hlt:k<len
    · obtain ⟨b, off, Y0, rfl, hb, hc⟩ := HI.out.2 (by omega)
      have hlt':(k:Int)<(len:Int):=by omega
      have HG:Hid (N24 wr b (off+k*24) (ndAt l k) (Y0 k)):=range_below (hc k hlt).1 hb hB.out
      have HN:Hid (NdIn wr (ndAt l k) (Y0 k)):=(hc k hlt).2.below hB.out
      have HFk:Hid (NdFit 1048576 (ndAt l k)):=HF.out k hlt
      clear hc hmk hH0 hB0 hZ0 HI HF
      obtain ⟨x,hx⟩:∃ x,x=ndAt l k:=⟨_,rfl⟩
      rw [←hx] at HG HN HFk
      have HL:Hid (x=ndAt l k):=hx
      clear hx
      generalize Y0 k=y at HG HN
      go_wp2_with (refine wpList_load_mid (by rfl) 118 _ (by rfl) _ _ (by rfl) _ _ HG.out Tryz.underlying118 rfl (by kernel_rfl) ?_)
      refine (toNodeO_any x y HFk.out _ HN.out).mono ?_
      rintro e w1 ⟨y1,rfl,hN1,hF1,hb1⟩
      have hH1:NRow w1 w.heap.size F Y len:=hH.out.below hZ.out hb1
      have HH1:Hid (NRow w1 w.heap.size F Y len):=hH1
      have hB1:Below w.heap.size w w1:=Below.on hB.out hb1
      have hZ1:w.heap.size<w1.heap.size:=Nat.lt_of_lt_of_le hZ.out hb1.size
      have hH2:Hid (NRow (w1.setCells w.heap.size (k*24) (ndV x y1)) w.heap.size (fun i=>if i=k then x else F i) (fun i=>if i=k then y1 else Y i) len):=hH1.set k hlt _ _
      have hg2:Hid (∀ j,j<k+1→(fun i=>if i=k then x else F i) j=ndAt l j):=(fun j hj=>by
        show (if j=k then x else F j)=ndAt l j
        by_cases e:j=k
        · rw [if_pos e,e];exact HL.out
        · rw [if_neg e];exact hg.out j (by omega))
      have hT2:Hid (LsT (w1.setCells w.heap.size (k*24) (ndV x y1)) (w.heap.size+1) (fun i=>if i=k then x else F i) (fun i=>if i=k then y1 else Y i) (k+1)):=(hT.out.step hb1 hN1 hF1 hZ.out).sets (Nat.lt_succ_self _) _ _
      have hB2:Hid (Below w.heap.size w (w1.setCells w.heap.size (k*24) (ndV x y1))):=bl_setsT (Nat.le_refl _) _ _ hB1
      have hZ2:Hid (w.heap.size<(w1.setCells w.heap.size (k*24) (ndV x y1)).heap.size):=(by show _<_;rw [size_setCellsT];exact hZ1)
      clear hH hg hT hB hH1 hb1 hB1 hN1 hF1 HG HN
      go_wp2_with (refine wpList_store_list (by rfl) 84 _ _ (by rfl) _ _ (ndV x y1) (by rfl) (by rfl) (by simpa [ndV_len] using HH1.out.there k hlt) (by kernel_rfl) (ndV_ones _ _) ?_)
      go_roundw
      case rel=>exact ⟨k+1,_,_,by omega,by go_num,hH2,hg2,hT2,hB2,hZ2⟩
      case measure=>simp [intOf];omega
    · have : k = len := by omega
      subst this
      go_wp2
      go_ret
      refine ⟨rfl,⟨Y,⟨fun i hi=>?_,hH.out.frz⟩,hT.out.congr hg.out⟩,hZ.out,hB.out⟩
      rw [←hg.out i hi]
      exact hH.out.at' i hi
set_option maxHeartbeats 4000000 in
theorem toTreeO_any (a:Option Addr)(len cap:Nat)(l:List Nd)(now:Int)(hl:len≤1048576)(hf:∀ i,i<len→NdFit 1048576 (ndAt l i))(w:World)(hi:Nds a len l w) :
    Calls Tryz.prog 11 #[.agg #[.slice a len cap,.int .i64 now]] w fun e w'=>∃ B Y,e=.returned (.agg #[.slice (some ⟨B,0,none⟩) len len,.int .i64 now])∧OwnT w' B w'.heap.size B (ndAt l) Y len∧w.heap.size≤B∧Below w.heap.size w w':=by
  have HF:Hid (∀ i,i<len→NdFit 1048576 (ndAt l i)):=hf
  have HI:Hid (Nds a len l w):=hi
  clear hf hi
  go_enter Tryz.func11,Tryz.ntmps11
  go_wp2_with fail
  refine (toNodeSO_any a len cap l hl HF.out _ (HI.out.below (bl3T _ _ _ _))).mono ?_
  rintro e w1 ⟨rfl,⟨Y,hR,hN⟩,hz,hb⟩
  have hO:OwnTa w1 (((w.alloc (.cells #[.slice a len cap,.int .i64 now] 24)).alloc (.cells #[.slice none 0 0,.int .i64 0] 35)).alloc (.cells #[.slice none 0 0,.int .i64 0] 35)).heap.size (ndAt l) Y len:=⟨hz,hR,hN⟩
  have eS:(((w.alloc (.cells #[.slice a len cap,.int .i64 now] 24)).alloc (.cells #[.slice none 0 0,.int .i64 0] 35)).alloc (.cells #[.slice none 0 0,.int .i64 0] 35)).heap.size=w.heap.size+1+1+1:=by simp
  rw [eS] at hO ⊢
  have hbW:Hid (Below w.heap.size w w1):=(bl3T _ _ _ _).trans (hb.mono (by rw [eS];omega))
  have HO:Hid (OwnTa w1 (w.heap.size+1+1+1) (ndAt l) Y len):=hO
  obtain ⟨hcl,hfz⟩:=bl_cellT hb
  clear hb hO hR hN hz eS HI HF
  simp at hcl hfz
  go_wp2
  refine bodyPost_ret (v:=.agg #[.slice (some ⟨w.heap.size+1+1+1,0,none⟩) len len,.int .i64 now]) (by simp [results,Tryz.results11,go_sem,hcl]) rfl ⟨_,Y,rfl,OwnTa.ownT ?_,by omega,?_⟩
  · iterate 4 (refine OwnTa.set ?_ (by omega))
    exact HO.out
  · iterate 4 (refine bl_setT ?_ (by omega))
    exact hbW.out
end Go.Proofs.YtabfdidnjibdeaaGreatDoor
