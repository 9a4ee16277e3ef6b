/- Laid together: MkSt, HdSt, RdLaw0, RdLaw. -/
import Derived.Test.YtabfdidnjibdeaaGreatDoorBR41
import Derived.Test.YtabfdidnjibdeaaGreatDoorBR44
import Derived.Test.YtabfdidnjibdeaaGreatDoorBR45
namespace Go.Proofs.YtabfdidnjibdeaaGreatDoor
open Go.RowKit Go.PlainAid Go.Deep
set_option linter.unusedVariables false
def SHolds (w:World) (B:Nat) (f:Nat→ByteArray) (n:Nat):Prop:=(∀ i,i<n→w.cell? ⟨B,i,none⟩=some (.string (f i)))∧∀ i,i<n→w.frozen? ⟨B,i,none⟩=false
theorem SHolds.set {w:World}{B:Nat}{f:Nat→ByteArray}{n:Nat}(h:SHolds w B f n)(i:Nat)(hi:i<n)(v:ByteArray):SHolds (w.setCell ⟨B,i,none⟩ (.string v)) B (fun k=>if k=i then v else f k) n:=by
  constructor
  · intro k hk
    by_cases e:k=i
    · subst e
      simp only [if_pos]
      have:=h.1 k hk
      simp [go_sem,this]
    · simp only [if_neg e]
      rw [←h.1 k hk]
      exact World.cell?_setCell_other _ _ _ _ (by intro h;cases h;exact e rfl)
  · intro k hk
    rw [World.frozen?_setCell]
    exact h.2 k hk
def OwnS (a:Option Addr) (len:Nat) (f:Nat→ByteArray) (w:World):Prop:=0<len→∃ B,a=some ⟨B,0,none⟩∧B<w.heap.size∧SHolds w B f len
theorem SHolds.below {w w':World}{B:Nat}{f:Nat→ByteArray}{n:Nat}(h:SHolds w B f n)(hlt:B<w.heap.size)(hb:Below w.heap.size w w'):SHolds w' B f n:=⟨fun i hi2=>(hb.cell (p:=⟨B,i,none⟩) hlt).trans (h.1 i hi2),fun i hi2=>(hb.frozen (p:=⟨B,i,none⟩) hlt).trans (h.2 i hi2)⟩
theorem OwnS.below {a:Option Addr}{len:Nat}{f:Nat→ByteArray}{w w':World}(h:OwnS a len f w)(hb:Below w.heap.size w w'):OwnS a len f w':=by
  intro h0
  obtain ⟨B,ha,hlt,hi⟩:=h h0
  exact ⟨B,ha,Nat.lt_of_lt_of_le hlt hb.size,hi.below hlt hb⟩
def mkF (k:Nat):Nat→ByteArray:=fun i=>mkT (k+i)
set_option maxHeartbeats 4000000 in
theorem markStr_any (a:Option Addr)(len cap k:Nat)(F0:Nat→ByteArray)(h0:0<k)(h1:k≤1000000)(hl:len≤1048576)(w:World)(hp:OwnS a len F0 w) :
    Calls Tryz.prog 59 #[.slice a len cap,.int .i64 k] w fun e w'=>e=.returned (.int .i64 ((k:Int)+len))∧OwnS a len (mkF k) w'∧ButS a w w':=by
  by_cases hz:len=0
  · subst hz
    go_enter Tryz.func59,Tryz.ntmps59
    go_wp2
    go_rounds 1
    go_ret
    exact ⟨by simp,fun h=>absurd h (by omega),ButS.refl _ _⟩
  obtain ⟨B,rfl,hB0,hp⟩:=hp (by omega)
  have HP:Hid (SHolds w B F0 len):=hp
  clear hp
  go_enter Tryz.func59,Tryz.ntmps59
  go_wp2
  go_loopw [5,1] (fun i q wr=>∃ (j:Nat) (F:Nat→ByteArray),j≤len∧i=.int .i64 j∧q=.int .i64 ((k:Int)+j)∧Hid (SHolds wr B F len)∧Hid (∀ t,t<j→F t=mkF k t)∧Hid (ButS (some ⟨B,0,none⟩) w wr)) (fun i _ _=>len-(intOf i).toNat)
  case atStart=>exact ⟨0,F0,Nat.zero_le _,rfl,by simp,HP,fun t ht=>absurd ht (by omega),ButS.refl _ _⟩
  case round =>
    obtain ⟨j,F,hj,rfl,rfl,hH,hg,hB⟩:=hrel
    by_cases hlt:j<len
    · have hlt' : (j : Int) < (len : Int) := by omega
      have h0':(0:Int)≤(j:Int):=by omega
      have hBr:Hid (B<wr.heap.size):=Nat.lt_of_lt_of_le hB0 hB.out.size
      have HM:Hid (∀ w,Calls Tryz.prog 100 #[.int .i64 ((k:Int)+j)] w fun e w'=>e=.returned (.string (mkT (k+j)))∧Below w.heap.size w w'):=(fun w=>by
        have h:=markText_any (k+j) (by omega) (by omega) w
        have e:((k+j:Nat):Int)=(k:Int)+j:=by omega
        rw [e] at h
        exact h)
      go_wp2_with fail
      refine (HM.out _).mono ?_
      rintro e w1 ⟨rfl,hb1⟩
      have hH1:Hid (SHolds w1 B F len):=hH.out.below hBr.out hb1
      have g2:=hH1.out.1 j hlt
      have g3:=hH1.out.2 j hlt
      have hH2:Hid (SHolds (w1.setCell ⟨B,j,none⟩ (.string (mkT (k+j)))) B (fun i=>if i=j then mkT (k+j) else F i) len):=hH1.out.set j hlt _
      have hg2:Hid (∀ t,t<j+1→(fun i=>if i=j then mkT (k+j) else F i) t=mkF k t):=(fun t ht=>by
        show (if t=j then mkT (k+j) else F t)=mkF k t
        by_cases e:t=j
        · rw [if_pos e,e];rfl
        · rw [if_neg e];exact hg.out t (by omega))
      have hB2:Hid (ButS (some ⟨B,0,none⟩) w (w1.setCell ⟨B,j,none⟩ (.string (mkT (k+j))))):=(hB.out.on hb1).set
      clear hH hg hB hb1 hH1 HM
      generalize mkT (k+j)=mt at hH2 hg2 hB2 ⊢
      go_wp2
      go_roundw
      case rel=>exact ⟨j+1,_,by omega,by go_num,by go_num,hH2,hg2,hB2⟩
      case measure=>simp [intOf];omega
    · have : j = len := by omega
      subst this
      go_wp2
      go_ret
      refine ⟨rfl,fun _=>⟨B,rfl,Nat.lt_of_lt_of_le hB0 hB.out.size,⟨fun i hi=>?_,hH.out.2⟩⟩,hB.out⟩
      have h1:=hH.out.1 i hi
      rw [hg.out i hi] at h1
      exact h1
theorem below_drewHd {B:Nat}{w w':World}(h:Below B w w')(n:Nat):Below B w (w'.drewN n):=h.trans ⟨rfl,rfl,rfl,Nat.le_refl _,fun _ _=>rfl⟩
set_option maxHeartbeats 4000000 in
theorem heldStr_any (a:Option Addr)(len cap k:Nat)(h0:0<k)(h1:k≤1000000)(hl:len≤1048576)(w:World)(hp:OwnS a len (mkF k) w) :
    Calls Tryz.prog 60 #[.slice a len cap,.int .i64 k] w fun e w'=>e=.returned (.int .i64 ((k:Int)+len))∧Below w.heap.size w w':=by
  by_cases hz:len=0
  · subst hz
    go_enter Tryz.func60,Tryz.ntmps60
    go_wp2
    go_rounds 1
    go_ret
    exact ⟨by simp,Below.refl _ _⟩
  obtain ⟨B,rfl,hB0,hp⟩:=hp (by omega)
  have HP:Hid (SHolds w B (mkF k) len):=hp
  clear hp
  go_enter Tryz.func60,Tryz.ntmps60
  go_wp2
  go_loopw [5,1] (fun i q wr=>∃ (j:Nat),j≤len∧i=.int .i64 j∧q=.int .i64 ((k:Int)+j)∧Hid (Below w.heap.size w wr)) (fun i _ _=>len-(intOf i).toNat)
  case atStart=>exact ⟨0,Nat.zero_le _,rfl,by simp,Below.refl _ _⟩
  case round =>
    obtain ⟨j,hj,rfl,rfl,hB⟩:=hrel
    by_cases hlt:j<len
    · have hlt' : (j : Int) < (len : Int) := by omega
      have h0':(0:Int)≤(j:Int):=by omega
      have HM:Hid (∀ w,Calls Tryz.prog 100 #[.int .i64 ((k:Int)+j)] w fun e w'=>e=.returned (.string (mkT (k+j)))∧Below w.heap.size w w'):=(fun w=>by
        have h:=markText_any (k+j) (by omega) (by omega) w
        have e:((k+j:Nat):Int)=(k:Int)+j:=by omega
        rw [e] at h
        exact h)
      have g0:∀ d os,(Go.Sort.grow (redrawn wr d) os).cell? ⟨B,j,none⟩=some (.string (mkT (k+j))):=fun d os=>cell_regrown ((hB.out.cell (p:=⟨B,j,none⟩) hB0).trans (HP.out.1 j hlt)) d os
      have cA:∀ d os,Calls Tryz.prog 100 #[.int .i64 ((k:Int)+j)] (Go.Sort.grow (redrawn wr d) os) fun e w''=>e=.returned (.string (mkT (k+j)))∧∃ p:Regrown,w''=Go.Sort.grow (redrawn wr p.d) p.os:=fun d os=>Calls.regrown_of (HM.out _)
      have hmm:((mkT (k+j)).toList != (mkT (k+j)).toList)=false:=by simp
      generalize mkT (k+j)=mt at g0 cA hmm
      clear HM
      go_upto_region 4 with fail
      refine wp_region_quiet_below (by kernel_rfl) (by kernel_rfl) ?_
      repeat (go_big_quiet_step (exact cA _ _))
      refine wpQuiet_nil ?_
      intro _ hw'
      obtain ⟨⟨dq,osq⟩,hw''⟩:=hw'
      subst hw''
      have HB2:Hid (Below w.heap.size w (Go.Sort.grow (redrawn wr dq) osq)):=Below.on hB.out (below_regrown wr dq osq)
      generalize Go.Sort.grow (redrawn wr dq) osq=w2 at HB2 ⊢
      clear g0 cA hB
      go_wp2
      go_roundw
      case rel=>exact ⟨j+1,by omega,by go_num,by go_num,HB2⟩
      case measure=>simp [intOf];omega
    · have : j = len := by omega
      subst this
      go_wp2
      go_ret
      exact ⟨rfl,hB.out⟩
set_option maxHeartbeats 4000000 in
theorem eqStr_any (a a2:Option Addr)(len cap cap2:Nat)(f:Nat→ByteArray)(hl:len≤1048576)(w:World)(hp:OwnS a len f w)(hp2:OwnS a2 len f w) :
    Calls Tryz.prog 56 #[.slice a len cap,.slice a2 len cap2] w fun e w'=>e=.returned (.bool true)∧Below w.heap.size w w':=by
  by_cases hz:len=0
  · subst hz
    go_enter Tryz.func56,Tryz.ntmps56
    go_wp2
    go_rounds 1
    go_ret
    exact ⟨rfl,Below.refl _ _⟩
  obtain ⟨B,rfl,hB0,hp⟩:=hp (by omega)
  obtain ⟨B2,rfl,hB02,hp2⟩:=hp2 (by omega)
  have HP:Hid (SHolds w B f len):=hp
  have HP2:Hid (SHolds w B2 f len):=hp2
  clear hp hp2
  go_enter Tryz.func56,Tryz.ntmps56
  go_wp2
  go_loopw [5] (fun i wr=>∃ (j:Nat),j≤len∧i=.int .i64 j∧Hid (Below w.heap.size w wr)) (fun i _=>len-(intOf i).toNat)
  case atStart=>exact ⟨0,Nat.zero_le _,rfl,Below.refl _ _⟩
  case round =>
    obtain ⟨j,hj,rfl,hB⟩:=hrel
    by_cases hlt:j<len
    · have hlt' : (j : Int) < (len : Int) := by omega
      have h0':(0:Int)≤(j:Int):=by omega
      have g0:wr.cell? ⟨B,j,none⟩=some (.string (f j)):=(hB.out.cell (p:=⟨B,j,none⟩) hB0).trans (HP.out.1 j hlt)
      have g1:wr.cell? ⟨B2,j,none⟩=some (.string (f j)):=(hB.out.cell (p:=⟨B2,j,none⟩) hB02).trans (HP2.out.1 j hlt)
      have hmm:((f j).toList != (f j).toList)=false:=by simp
      generalize f j=mt at g0 g1 hmm
      go_wp2
      go_quiet (fail)
      go_wp2
      go_roundw
      case rel=>exact ⟨j+1,by omega,by go_num,below_drewHd hB.out _⟩
      case measure=>simp [intOf];omega
    · have : j = len := by omega
      subst this
      go_wp2
      go_ret
      exact ⟨rfl,hB.out⟩
def atS (l:List ByteArray) (k:Nat):ByteArray:=l.getD k ⟨#[]⟩
theorem own_S {w:World}{B:Nat}{t:TypeId}{v:Value}{l:List ByteArray}(h:w.ownsRow B t 1 v l.length (tv l)) :
    ∃ a c,v=.slice a l.length c∧OwnS a l.length (atS l) w∧(∀ A,a=some A→B≤A.block∧A.block<w.heap.size):=by
  obtain ⟨_,⟨rfl,hn⟩ | ⟨g,cap,cur,rfl,hb,hg,hc,_,hs,ht⟩⟩:=h
  · exact ⟨none,0,by rw [hn],fun h=>absurd h (by omega),fun A e=>by cases e⟩
  · have hlt : g < w.heap.size := (Array.getElem?_eq_some_iff.1 hg).1
    refine ⟨some ⟨g,0,none⟩,cap,rfl,fun _=>⟨g,rfl,hlt,fun i hi=>?_,fun i hi=>?_⟩,fun A e=>by cases e;exact ⟨hb,hlt⟩⟩
    · have hj2 : (tv l)[i]? = some (.string (atS l i)) := by simp [tv, atS, List.getElem?_eq_getElem hi, List.getD]
      rw [←ht,List.getElem?_take_of_lt (by omega)] at hj2
      have:w.cell? ⟨g,i,none⟩=cur[i]?:=by simp [World.cell?,hg]
      rw [this]
      simpa using hj2
    · simp only [World.frozen?, hg]
      simp
theorem OwnS.btw {lo hi:Nat}{a:Option Addr}{len:Nat}{f:Nat→ByteArray}{w w':World}(h:OwnS a len f w)(hb:Btw lo hi w w')(hne:∀ A,a=some A→A.block<lo∨hi≤A.block):OwnS a len f w':=by
  intro h0
  obtain ⟨B,ha,hlt,hi⟩:=h h0
  have hc:=fun o=>hb.cell B o hlt (hne _ ha)
  exact ⟨B,ha,Nat.lt_of_lt_of_le hlt hb.size,fun i hi2=>(hc i).1.trans (hi.1 i hi2),fun i hi2=>(hc i).2.trans (hi.2 i hi2)⟩
theorem OwnS.setN {a:Option Addr}{len:Nat}{f:Nat→ByteArray}{w:World}{Z o:Nat}{v:Value}(h:OwnS a len f w)(hne:∀ A,a=some A→Z≠A.block):OwnS a len f (w.setCell ⟨Z,o,none⟩ v):=by
  intro h0
  obtain ⟨B,ha,hlt,hi⟩:=h h0
  have hn:=hne _ ha
  refine ⟨B,ha,by simpa using hlt,fun i hi2=>?_,fun i hi2=>by rw [World.frozen?_setCell];exact hi.2 i hi2⟩
  rw [World.cell?_setCell_other _ _ _ _ (by intro h;have h2:=congrArg Addr.block h;simp only at h2;exact hn h2)]
  exact hi.1 i hi2
theorem rdL_len (l:List Nd)(C:Int)(F:Wo)(hf:∀ i,i<l.length→NdFit 1048576 (ndAt l i)):(rdL l C F).length≤1048576:=by
  unfold rdL
  split
  · rw [nmsL_len]
    by_cases h:(F.n-1).toNat<l.length
    · exact (hf _ h).nl
    · have e:ndAt l (F.n-1).toNat=ndZ:=by
        rw [ndAt,List.getD,List.getElem?_eq_none (by omega:l.length≤(F.n-1).toNat)]
        rfl
      rw [e];exact Nat.zero_le _
  · exact Nat.zero_le _
set_option maxHeartbeats 4000000 in
theorem markNO_any (a:Option Addr)(len cap:Nat)(c:Int)(k:Nat)(f:Nat→ByteArray)(h0:0<k)(h1:k≤1000000)(hl:len≤1048576)(w:World)(ho:OwnS a len f w) :
    Calls Tryz.prog 29 #[.agg #[.slice a len cap,.int .i64 c],.int .i64 k] w fun e w'=>e=.returned (.int .i64 ((k:Int)+len))∧OwnS a len (mkF k) w'∧ButS a w w':=by
  have hc:Hid (∀ w',Below w.heap.size w w'→Calls Tryz.prog 59 #[.slice a len cap,.int .i64 k] w' fun e w''=>e=.returned (.int .i64 ((k:Int)+len))∧OwnS a len (mkF k) w''∧ButS a w' w''):=(fun w' hb=>markStr_any a len cap k f h0 h1 hl w' (ho.below hb))
  have HB:Hid (Below w.heap.size w (w.alloc (.cells #[.slice a len cap,.int .i64 c] 52))):=bel_alloc _ _
  clear ho
  go_enter Tryz.func29,Tryz.ntmps29
  go_wp2_with fail
  refine (hc.out _ HB.out).mono ?_
  rintro e w1 ⟨rfl,ho,hbut⟩
  have HO:Hid (OwnS a len (mkF k) w1∧ButS a w w1):=⟨ho,ButS.upon HB.out hbut⟩
  clear ho hbut
  go_wp2
  go_ret
  exact ⟨rfl,HO.out⟩
set_option maxHeartbeats 4000000 in
theorem heldNO_any (a:Option Addr)(len cap:Nat)(c:Int)(k:Nat)(h0:0<k)(h1:k≤1000000)(hl:len≤1048576)(w:World)(ho:OwnS a len (mkF k) w) :
    Calls Tryz.prog 30 #[.agg #[.slice a len cap,.int .i64 c],.int .i64 k] w fun e w'=>e=.returned (.int .i64 ((k:Int)+len))∧Below w.heap.size w w':=by
  have hc:Hid (∀ w',Below w.heap.size w w'→Calls Tryz.prog 60 #[.slice a len cap,.int .i64 k] w' fun e w''=>e=.returned (.int .i64 ((k:Int)+len))∧Below w'.heap.size w' w''):=(fun w' hb=>heldStr_any a len cap k h0 h1 hl w' (ho.below hb))
  have HB:Hid (Below w.heap.size w (w.alloc (.cells #[.slice a len cap,.int .i64 c] 52))):=bel_alloc _ _
  have hn:¬ ((k:Int)+len<0):=by omega
  clear ho
  go_enter Tryz.func30,Tryz.ntmps30
  go_wp2_with fail
  refine (hc.out _ HB.out).mono ?_
  rintro e w1 ⟨rfl,hb⟩
  have HB1:Hid (Below w.heap.size w w1):=Below.on HB.out hb
  clear hb
  go_wp2
  go_ret
  exact ⟨rfl,HB1.out⟩
set_option maxHeartbeats 4000000 in
theorem eqNO_any (a a2:Option Addr)(len cap cap2:Nat)(c:Int)(f:Nat→ByteArray)(hl:len≤1048576)(w:World)(ho:OwnS a len f w)(ho2:OwnS a2 len f w) :
    Calls Tryz.prog 26 #[.agg #[.slice a len cap,.int .i64 c],.agg #[.slice a2 len cap2,.int .i64 c]] w fun e w'=>e=.returned (.bool true)∧Below w.heap.size w w':=by
  have hc:Hid (∀ w',Below w.heap.size w w'→Calls Tryz.prog 56 #[.slice a len cap,.slice a2 len cap2] w' fun e w''=>e=.returned (.bool true)∧Below w'.heap.size w' w''):=(fun w' hb=>eqStr_any a a2 len cap cap2 f hl w' (ho.below hb) (ho2.below hb))
  have hW:((w.alloc (.cells #[.slice a len cap,.int .i64 c] 52))).heap.size=w.heap.size+1:=by simp
  have HX:Hid (BoxR ((w.alloc (.cells #[.slice a len cap,.int .i64 c] 52)).alloc (.cells #[.slice a2 len cap2,.int .i64 c] 52)) w.heap.size [.slice a len cap,.int .i64 c]):=(boxR_new w [.slice a len cap,.int .i64 c] 52).below (bel_alloc _ _)
  have HZ:Hid (BoxR ((w.alloc (.cells #[.slice a len cap,.int .i64 c] 52)).alloc (.cells #[.slice a2 len cap2,.int .i64 c] 52)) (w.heap.size+1) [.slice a2 len cap2,.int .i64 c]):=(by
    have h:=boxR_new (w.alloc (.cells #[.slice a len cap,.int .i64 c] 52)) [.slice a2 len cap2,.int .i64 c] 52
    simp only [World.size_alloc] at h
    exact h)
  have HB:Hid (Below w.heap.size w ((w.alloc (.cells #[.slice a len cap,.int .i64 c] 52)).alloc (.cells #[.slice a2 len cap2,.int .i64 c] 52))):=((Below.refl _ _).alloc (Nat.le_refl _) _).alloc (by simp) _
  clear ho ho2 hW
  go_enter Tryz.func26,Tryz.ntmps26
  go_upto_region 1 with fail
  generalize ((w.alloc (.cells #[.slice a len cap,.int .i64 c] 52)).alloc (.cells #[.slice a2 len cap2,.int .i64 c] 52))=w0 at HX HZ HB ⊢
  obtain ⟨X,hX⟩:∃ X,X=w.heap.size:=⟨_,rfl⟩
  rw [←hX] at HX HZ ⊢
  clear hX
  have x0:w0.cell? ⟨X,0,none⟩=some (.slice a len cap):=HX.out.at0 0 _ rfl
  have z0:w0.cell? ⟨X+1,0,none⟩=some (.slice a2 len cap2):=HZ.out.at0 0 _ rfl
  go_wp2_with fail
  refine (hc.out _ HB.out).mono ?_
  rintro e w1 ⟨rfl,hb⟩
  have HB1:Hid (Below w.heap.size w w1):=Below.on HB.out hb
  have x2:w1.cell? ⟨X,1,none⟩=some (.int .i64 c):=(HX.out.below hb).at0 1 _ rfl
  have z2:w1.cell? ⟨X+1,1,none⟩=some (.int .i64 c):=(HZ.out.below hb).at0 1 _ rfl
  clear hb x0 z0
  have q2:(c != c)=false:=by simp
  go_wp2
  go_ret
  exact ⟨rfl,HB1.out⟩
structure RS (w:World) (X:Nat) (a:Option Addr) (len cap:Nat) (l:List Nd) (now:Int) (u g:Int) (ca:Option Addr) (cl cc:Nat) (r:Bool) (cf:Nat→Int) (n:Nat) (f:Nat→ByteArray) (W:World) (pt pc pz:Option Nat) (pv:Option (Option Addr)):Prop where
  bel:Below w.heap.size w W
  l0:BoxR W X [.slice a len cap,.int .i64 now]
  l1:BoxR W (X+1) [.int .i64 u,.int .i64 g,.slice ca cl cc,.bool r]
  ot:∀ B,pt=some B→Nds (some ⟨B,0,none⟩) len l W
  oc:∀ B,pc=some B→Ints (some ⟨B,0,none⟩) cl cf W
  bz:∀ B,pz=some B→BoxW W B [.slice none 0 0,.int .i64 0]∧X+1<B∧w.heap.size≤B
  an:∀ v,pv=some v→OwnS v n f W∧∀ A,v=some A→w.heap.size≤A.block∧A.block<W.heap.size∧∀ B,pz=some B→B≠A.block
theorem RS.below {w:World}{X:Nat}{a:Option Addr}{len cap:Nat}{l:List Nd}{now:Int}{u g:Int}{ca:Option Addr}{cl cc:Nat}{r:Bool}{cf:Nat→Int}{n:Nat}{f:Nat→ByteArray}{W W':World}{pt pc pz:Option Nat}{pv:Option (Option Addr)}(h:RS w X a len cap l now u g ca cl cc r cf n f W pt pc pz pv)(hb:Below W.heap.size W W'):RS w X a len cap l now u g ca cl cc r cf n f W' pt pc pz pv :=
  ⟨Below.on h.bel hb,h.l0.below hb,h.l1.below hb,fun B e=>(h.ot B e).below hb,fun B e=>(h.oc B e).below hb,fun B e=>⟨(h.bz B e).1.below hb,(h.bz B e).2⟩,fun v e=>⟨(h.an v e).1.below hb,fun A e2=>by obtain ⟨q1,q2,q3⟩:=(h.an v e).2 A e2;exact ⟨q1,Nat.lt_of_lt_of_le q2 hb.size,q3⟩⟩⟩
theorem RS.drew {w:World}{X:Nat}{a:Option Addr}{len cap:Nat}{l:List Nd}{now:Int}{u g:Int}{ca:Option Addr}{cl cc:Nat}{r:Bool}{cf:Nat→Int}{n:Nat}{f:Nat→ByteArray}{W:World}{pt pc pz:Option Nat}{pv:Option (Option Addr)}(h:RS w X a len cap l now u g ca cl cc r cf n f W pt pc pz pv):RS w X a len cap l now u g ca cl cc r cf n f W.drew pt pc pz pv:=h.below (below_drewT (Below.refl _ _))
theorem RS.box {w:World}{X:Nat}{a:Option Addr}{len cap:Nat}{l:List Nd}{now:Int}{u g:Int}{ca:Option Addr}{cl cc:Nat}{r:Bool}{cf:Nat→Int}{n:Nat}{f:Nat→ByteArray}{W:World}{pt pc pz:Option Nat}{pv:Option (Option Addr)}(h:RS w X a len cap l now u g ca cl cc r cf n f W pt pc pz pv):RS w X a len cap l now u g ca cl cc r cf n f (W.alloc (.cells #[.slice none 0 0,.int .i64 0] 52)) pt pc (some W.heap.size) pv:=by
  have h2:=h.below (bel_alloc W (.cells #[.slice none 0 0,.int .i64 0] 52))
  exact ⟨h2.bel,h2.l0,h2.l1,h2.ot,h2.oc,fun B e=>by cases e;exact ⟨boxW_new W [.slice none 0 0,.int .i64 0] 52,h.l1.lt,h.bel.size⟩,fun v e=>⟨(h2.an v e).1,fun A e2=>by obtain ⟨q1,q2,q3⟩:=(h2.an v e).2 A e2;obtain ⟨_,q4,_⟩:=(h.an v e).2 A e2;exact ⟨q1,q2,fun B e3=>by cases e3;omega⟩⟩⟩
theorem RS.zc {w:World}{X:Nat}{a:Option Addr}{len cap:Nat}{l:List Nd}{now:Int}{u g:Int}{ca:Option Addr}{cl cc:Nat}{r:Bool}{cf:Nat→Int}{n:Nat}{f:Nat→ByteArray}{W:World}{pt pc:Option Nat}{Z:Nat}{pv:Option (Option Addr)}(h:RS w X a len cap l now u g ca cl cc r cf n f W pt pc (some Z) pv):W.cell? ⟨Z,0,none⟩=some (.slice none 0 0)∧W.cell? ⟨Z,1,none⟩=some (.int .i64 0)∧(∀ o,W.frozen? ⟨Z,o,none⟩=false)∧X≠Z∧Z≠X∧X+1≠Z∧Z≠X+1:=by
  obtain ⟨hz,hx,hw⟩:=h.bz Z rfl
  exact ⟨hz.at0 0 _ rfl,hz.at0 1 _ rfl,hz.frz,by omega,by omega,by omega,by omega⟩
theorem RS.drbox {w:World}{X:Nat}{a:Option Addr}{len cap:Nat}{l:List Nd}{now:Int}{u g:Int}{ca:Option Addr}{cl cc:Nat}{r:Bool}{cf:Nat→Int}{n:Nat}{f:Nat→ByteArray}{W:World}{pt pc pz:Option Nat}{pv:Option (Option Addr)}(h:RS w X a len cap l now u g ca cl cc r cf n f W pt pc pz pv):RS w X a len cap l now u g ca cl cc r cf n f (W.drew.alloc (.cells #[.slice none 0 0,.int .i64 0] 52)) pt pc (some W.heap.size) pv:=h.drew.box
structure RF (w:World) (X:Nat) (a:Option Addr) (len cap:Nat) (l:List Nd) (now:Int) (u g:Int) (ca:Option Addr) (cl cc:Nat) (r:Bool) (cf:Nat→Int) (n:Nat) (f:Nat→ByteArray) (C:Int) (va:Option Addr) (vc:Nat) (W:World) (Z:Nat):Prop where
  bel:Below w.heap.size w W
  l0:BoxR W X [.slice a len cap,.int .i64 now]
  l1:BoxR W (X+1) [.int .i64 u,.int .i64 g,.slice ca cl cc,.bool r]
  bz:BoxR W Z [.slice va n vc,.int .i64 C]
  zl:X+1<Z∧w.heap.size≤Z
  an:OwnS va n f W∧∀ A,va=some A→w.heap.size≤A.block∧A.block<W.heap.size∧Z≠A.block
theorem RS.fin2 {w:World}{X:Nat}{a:Option Addr}{len cap:Nat}{l:List Nd}{now:Int}{u g:Int}{ca:Option Addr}{cl cc:Nat}{r:Bool}{cf:Nat→Int}{n:Nat}{f:Nat→ByteArray}{W:World}{pt pc pz:Option Nat}{va:Option Addr}(h:RS w X a len cap l now u g ca cl cc r cf n f W pt pc pz (some va))(C:Int)(vc:Nat):RF w X a len cap l now u g ca cl cc r cf n f C va vc (W.alloc (.cells #[.slice va n vc,.int .i64 C] 52)) W.heap.size:=by
  have h2:=h.below (bel_alloc W (.cells #[.slice va n vc,.int .i64 C] 52))
  exact ⟨h2.bel,h2.l0,h2.l1,boxR_new W [.slice va n vc,.int .i64 C] 52,⟨h.l1.lt,h.bel.size⟩,(h2.an va rfl).1,fun A e2=>by obtain ⟨q1,q2,q3⟩:=(h2.an va rfl).2 A e2;obtain ⟨_,q4,_⟩:=(h.an va rfl).2 A e2;exact ⟨q1,q2,by omega⟩⟩
theorem RS.fin1 {w:World}{X:Nat}{a:Option Addr}{len cap:Nat}{l:List Nd}{now:Int}{u g:Int}{ca:Option Addr}{cl cc:Nat}{r:Bool}{cf:Nat→Int}{n:Nat}{f:Nat→ByteArray}{W:World}{pt pc:Option Nat}{Z:Nat}{va:Option Addr}(h:RS w X a len cap l now u g ca cl cc r cf n f W pt pc (some Z) (some va))(C:Int)(vc:Nat):RF w X a len cap l now u g ca cl cc r cf n f C va vc ((W.setCell ⟨Z,0,none⟩ (.slice va n vc)).setCell ⟨Z,1,none⟩ (.int .i64 C)) Z:=by
  obtain ⟨hz,hx,hw⟩:=h.bz Z rfl
  obtain ⟨q1,q2⟩:=h.an va rfl
  have hs:=(hz.set 0 (by simp) (.slice va n vc)).set 1 (by simp) (.int .i64 C)
  refine ⟨bl_setT (bl_setT h.bel hw) hw,(h.l0.other ?_).other ?_,(h.l1.other ?_).other ?_,⟨hs.lt,hs.at0⟩,⟨hx,hw⟩,(q1.setN ?_).setN ?_,fun A e=>?_⟩
  · omega
  · omega
  · omega
  · omega
  · exact fun A e=>(q2 A e).2.2 Z rfl
  · exact fun A e=>(q2 A e).2.2 Z rfl
  · obtain ⟨p1, p2, p3⟩ := q2 A e
    exact ⟨p1,by simpa using p2,p3 Z rfl⟩
set_option maxRecDepth 20000 in
set_option maxHeartbeats 16000000 in
theorem readDir_any (a:Option Addr)(len cap:Nat)(l:List Nd)(now:Int)(u g:Int)(ca:Option Addr)(cl cc:Nat)(r:Bool)(cf:Nat→Int)(s:ByteArray)(m:Int)(e1 e2 e3 e4:Addr)(hm:len≤9223372036854775807)(hf:∀ i,i<len→NdFit 9223372036854775807 (ndAt l i))(hmc:cl≤9223372036854775807)(hsx:s.size≤9223372036854775807)(w:World)(hi:Nds a len l w)(hci:Ints ca cl cf w)(hmx:w.cell? ⟨4,0,none⟩=some (.int .i64 m))(hE:Errs w e1 e2 e3 e4) :
    Calls Tryz.prog 7 #[.agg #[.slice a len cap,.int .i64 now],.agg #[.int .i64 u,.int .i64 g,.slice ca cl cc,.bool r],.string s] w fun e w'=>e=.returned (.bool true)∧Below w.heap.size w w':=by
  have HI0:Hid (Nds a len l w):=hi
  have HF0:Hid (∀ i,i<len→NdFit 9223372036854775807 (ndAt l i)):=hf
  have HI1:Hid (Ints ca cl cf w):=hci
  have HEr:Hid (Errs w e1 e2 e3 e4):=hE
  have HMx:Hid (w.cell? ⟨4,0,none⟩=some (.int .i64 m)):=hmx
  clear hi hf hci hE hmx
  have HB:Hid (Below w.heap.size w ((w.alloc (.cells #[.slice a len cap,.int .i64 now] 24)).alloc (.cells #[.int .i64 u,.int .i64 g,.slice ca cl cc,.bool r] 27))):=bl2T _ _ _
  have HL0:Hid (BoxR ((w.alloc (.cells #[.slice a len cap,.int .i64 now] 24)).alloc (.cells #[.int .i64 u,.int .i64 g,.slice ca cl cc,.bool r] 27)) w.heap.size [.slice a len cap,.int .i64 now]):=(boxR_new w [.slice a len cap,.int .i64 now] 24).below (bel_alloc _ _)
  have HL1:Hid (BoxR ((w.alloc (.cells #[.slice a len cap,.int .i64 now] 24)).alloc (.cells #[.int .i64 u,.int .i64 g,.slice ca cl cc,.bool r] 27)) (w.heap.size+1) [.int .i64 u,.int .i64 g,.slice ca cl cc,.bool r]):=(by
    have h:=boxR_new (w.alloc (.cells #[.slice a len cap,.int .i64 now] 24)) [.int .i64 u,.int .i64 g,.slice ca cl cc,.bool r] 27
    simp only [World.size_alloc] at h
    exact h)
  go_enter Tryz.func7,Tryz.ntmps7
  go_upto_region 1 with fail
  generalize ((w.alloc (.cells #[.slice a len cap,.int .i64 now] 24)).alloc (.cells #[.int .i64 u,.int .i64 g,.slice ca cl cc,.bool r] 27))=w0 at HB HL0 HL1 ⊢
  obtain ⟨X,hX⟩:∃ X,X=w.heap.size:=⟨_,rfl⟩
  have HXw:Hid (X=w.heap.size):=hX
  rw [←hX] at HL0 HL1 ⊢
  clear hX
  have t0_0:w0.cell? ⟨X,0,none⟩=some (.slice a len cap):=HL0.out.at0 0 _ rfl
  have t0_1:w0.cell? ⟨X,1,none⟩=some (.int .i64 now):=HL0.out.at0 1 _ rfl
  have t1_0:w0.cell? ⟨X+1,0,none⟩=some (.int .i64 u):=HL1.out.at0 0 _ rfl
  have t1_1:w0.cell? ⟨X+1,1,none⟩=some (.int .i64 g):=HL1.out.at0 1 _ rfl
  have t1_2:w0.cell? ⟨X+1,2,none⟩=some (.slice ca cl cc):=HL1.out.at0 2 _ rfl
  have t1_3:w0.cell? ⟨X+1,3,none⟩=some (.bool r):=HL1.out.at0 3 _ rfl
  by_cases hs:1048576<s.size
  · have hs' : (1048576 : Int) < (s.size : Int) := by omega
    go_wp2
    go_ret
    exact ⟨rfl,HB.out⟩
  have hs':¬ (1048576:Int)<(s.size:Int):=by omega
  go_wp2_with fail
  refine (szTreeW_any a len cap l now 1048576 (by omega) (by omega) hm HF0.out _ (HI0.out.below HB.out)).mono ?_
  rintro e w1 ⟨⟨v0,rfl,hv⟩,hb⟩
  replace HB:Hid (Below w.heap.size w w1):=Below.on HB.out hb
  replace HL0:Hid (BoxR w1 X [.slice a len cap,.int .i64 now]):=HL0.out.below hb
  replace HL1:Hid (BoxR w1 (X+1) [.int .i64 u,.int .i64 g,.slice ca cl cc,.bool r]):=HL1.out.below hb
  replace t0_0:w1.cell? ⟨X,0,none⟩=some (.slice a len cap):=HL0.out.at0 0 _ rfl
  replace t0_1:w1.cell? ⟨X,1,none⟩=some (.int .i64 now):=HL0.out.at0 1 _ rfl
  replace t1_0:w1.cell? ⟨X+1,0,none⟩=some (.int .i64 u):=HL1.out.at0 0 _ rfl
  replace t1_1:w1.cell? ⟨X+1,1,none⟩=some (.int .i64 g):=HL1.out.at0 1 _ rfl
  replace t1_2:w1.cell? ⟨X+1,2,none⟩=some (.slice ca cl cc):=HL1.out.at0 2 _ rfl
  replace t1_3:w1.cell? ⟨X+1,3,none⟩=some (.bool r):=HL1.out.at0 3 _ rfl
  clear hb
  rcases hv with rfl | ⟨v00,v01,hl0,hsm⟩
  · go_wp2
    go_ret
    exact ⟨rfl,HB.out⟩
  have d0:decide (v0<0)=false:=by simp;omega
  have HS0:Hid (∀ i,i<len→NdFit 1048576 (ndAt l i)):=hsm
  have HWt:Hid (len+wtS l len≤1048576):=(by show _≤_;omega)
  have hv01:v0≤1048576:=by omega
  clear hsm HF0 v01
  by_cases hcs:v0-(cl:Int)<0
  · go_wp2_with fail
    refine (szCredN_long u g ca cl cc r v0 (by omega) (by have:=HWt.out;omega) hcs hmc _).mono ?_
    rintro e w1 ⟨rfl,hb⟩
    replace HB:Hid (Below w.heap.size w w1):=Below.on HB.out hb
    replace HL0:Hid (BoxR w1 X [.slice a len cap,.int .i64 now]):=HL0.out.below hb
    replace HL1:Hid (BoxR w1 (X+1) [.int .i64 u,.int .i64 g,.slice ca cl cc,.bool r]):=HL1.out.below hb
    replace t0_0:w1.cell? ⟨X,0,none⟩=some (.slice a len cap):=HL0.out.at0 0 _ rfl
    replace t0_1:w1.cell? ⟨X,1,none⟩=some (.int .i64 now):=HL0.out.at0 1 _ rfl
    replace t1_0:w1.cell? ⟨X+1,0,none⟩=some (.int .i64 u):=HL1.out.at0 0 _ rfl
    replace t1_1:w1.cell? ⟨X+1,1,none⟩=some (.int .i64 g):=HL1.out.at0 1 _ rfl
    replace t1_2:w1.cell? ⟨X+1,2,none⟩=some (.slice ca cl cc):=HL1.out.at0 2 _ rfl
    replace t1_3:w1.cell? ⟨X+1,3,none⟩=some (.bool r):=HL1.out.at0 3 _ rfl
    clear hb
    go_wp2
    go_ret
    exact ⟨rfl,HB.out⟩
  have d1:decide (v0-(cl:Int)<0)=false:=by simp;omega
  have hl1:cl≤1048576:=by omega
  go_wp2_with fail
  refine (szCredN_short u g ca cl cc r v0 (by omega) (by omega) (by omega) _).mono ?_
  rintro e w1 ⟨rfl,hb⟩
  replace HB:Hid (Below w.heap.size w w1):=Below.on HB.out hb
  replace HL0:Hid (BoxR w1 X [.slice a len cap,.int .i64 now]):=HL0.out.below hb
  replace HL1:Hid (BoxR w1 (X+1) [.int .i64 u,.int .i64 g,.slice ca cl cc,.bool r]):=HL1.out.below hb
  replace t0_0:w1.cell? ⟨X,0,none⟩=some (.slice a len cap):=HL0.out.at0 0 _ rfl
  replace t0_1:w1.cell? ⟨X,1,none⟩=some (.int .i64 now):=HL0.out.at0 1 _ rfl
  replace t1_0:w1.cell? ⟨X+1,0,none⟩=some (.int .i64 u):=HL1.out.at0 0 _ rfl
  replace t1_1:w1.cell? ⟨X+1,1,none⟩=some (.int .i64 g):=HL1.out.at0 1 _ rfl
  replace t1_2:w1.cell? ⟨X+1,2,none⟩=some (.slice ca cl cc):=HL1.out.at0 2 _ rfl
  replace t1_3:w1.cell? ⟨X+1,3,none⟩=some (.bool r):=HL1.out.at0 3 _ rfl
  clear hb hcs
  have hLl:(rdL l (adC l u g cl r cf (wayN (wkF l now u g cl r cf s true))) (wayN (wkF l now u g cl r cf s true))).length≤1048576:=rdL_len l _ _ (by rw [HI0.out.1];exact HS0.out)
  have HSq:Hid (∀ (V:World) (B0 B1:Nat),Nds (some ⟨B0,0,none⟩) len l V→Ints (some ⟨B1,0,none⟩) cl cf V→Calls Tryz.prog 24 #[.agg #[.slice (some ⟨B0,0,none⟩) len len,.int .i64 now],.agg #[.int .i64 u,.int .i64 g,.slice (some ⟨B1,0,none⟩) cl cl,.bool r],.string s] V fun e w'=>∃ v,e=.returned (.agg #[v,.int .i64 (adC l u g cl r cf (wayN (wkF l now u g cl r cf s true)))])∧w'.ownsRow V.heap.size 9 1 v (rdL l (adC l u g cl r cf (wayN (wkF l now u g cl r cf s true))) (wayN (wkF l now u g cl r cf s true))).length (tv (rdL l (adC l u g cl r cf (wayN (wkF l now u g cl r cf s true))) (wayN (wkF l now u g cl r cf s true))))∧Below V.heap.size V w'):=(fun V B0 B1 h0 h1=>sReadDir_any _ len len l now u g _ cl cl r cf s hm HS0.out (by omega) V h0 h1)
  have HIq:Hid (∀ (V:World) (A0:Option Addr) (B1:Nat),Below w.heap.size w V→Nds A0 len l V→Ints (some ⟨B1,0,none⟩) cl cf V→Calls Tryz.prog 25 #[.agg #[.slice A0 len len,.int .i64 now],.agg #[.int .i64 u,.int .i64 g,.slice (some ⟨B1,0,none⟩) cl cl,.bool r],.string s] V fun e w'=>∃ v,e=.returned (.agg #[v,.int .i64 (adC l u g cl r cf (wayN (wkF l now u g cl r cf s true)))])∧w'.ownsRow V.heap.size 9 1 v (rdL l (adC l u g cl r cf (wayN (wkF l now u g cl r cf s true))) (wayN (wkF l now u g cl r cf s true))).length (tv (rdL l (adC l u g cl r cf (wayN (wkF l now u g cl r cf s true))) (wayN (wkF l now u g cl r cf s true))))∧Below V.heap.size V w'):=(fun V A0 B1 hb h0 h1=>iReadDir_any _ len len l now u g _ cl cl r cf s m e1 e2 e3 e4 hm HS0.out (by omega) V h0 h1 ((hb.cell (p:=⟨_,0,none⟩) (block_lt_of_cell HMx.out)).trans HMx.out) (HEr.out.below hb))
  generalize (rdL l (adC l u g cl r cf (wayN (wkF l now u g cl r cf s true))) (wayN (wkF l now u g cl r cf s true)))=L at hLl HSq HIq
  generalize (adC l u g cl r cf (wayN (wkF l now u g cl r cf s true)))=C at HSq HIq
  obtain ⟨n,hn0⟩:∃ n,n=L.length:=⟨_,rfl⟩
  obtain ⟨f,hf0⟩:∃ f,f=atS L:=⟨_,rfl⟩
  rw [←hn0] at hLl
  have HSr:Hid (∀ (V:World) (B0 B1:Nat),Nds (some ⟨B0,0,none⟩) len l V→Ints (some ⟨B1,0,none⟩) cl cf V→Calls Tryz.prog 24 #[.agg #[.slice (some ⟨B0,0,none⟩) len len,.int .i64 now],.agg #[.int .i64 u,.int .i64 g,.slice (some ⟨B1,0,none⟩) cl cl,.bool r],.string s] V fun e w'=>∃ va vc,e=.returned (.agg #[.slice va n vc,.int .i64 C])∧OwnS va n f w'∧(∀ A,va=some A→V.heap.size≤A.block∧A.block<w'.heap.size)∧Below V.heap.size V w'):=(fun V B0 B1 h0 h1=>Calls.mono (HSq.out V B0 B1 h0 h1) (by
    rintro e w7 ⟨v,rfl,ho,hb7⟩
    obtain ⟨va,vc,rfl,q1,q2⟩:=own_S ho
    exact ⟨va,vc,by rw [hn0],by rw [hn0,hf0];exact q1,q2,hb7⟩))
  have HIr:Hid (∀ (V:World) (A0:Option Addr) (B1:Nat),Below w.heap.size w V→Nds A0 len l V→Ints (some ⟨B1,0,none⟩) cl cf V→Calls Tryz.prog 25 #[.agg #[.slice A0 len len,.int .i64 now],.agg #[.int .i64 u,.int .i64 g,.slice (some ⟨B1,0,none⟩) cl cl,.bool r],.string s] V fun e w'=>∃ va vc,e=.returned (.agg #[.slice va n vc,.int .i64 C])∧OwnS va n f w'∧(∀ A,va=some A→V.heap.size≤A.block∧A.block<w'.heap.size)∧Below V.heap.size V w'):=(fun V A0 B1 hb h0 h1=>Calls.mono (HIq.out V A0 B1 hb h0 h1) (by
    rintro e w7 ⟨v,rfl,ho,hb7⟩
    obtain ⟨va,vc,rfl,q1,q2⟩:=own_S ho
    exact ⟨va,vc,by rw [hn0],by rw [hn0,hf0];exact q1,q2,hb7⟩))
  clear HSq HIq hn0 hf0
  have HWb:=HB
  have HIw0:Hid (Nds a len l w1):=HI0.out.below HB.out
  have HIw1:Hid (Ints ca cl cf w1):=HI1.out.below HB.out
  have HTo:Hid (∀ (V:World) (pt pc pz:Option Nat) (pv:Option (Option Addr)),RS w1 X a len cap l now u g ca cl cc r cf n f V pt pc pz pv→Calls Tryz.prog 11 #[.agg #[.slice a len cap,.int .i64 now]] V fun e w'=>∃ B,e=.returned (.agg #[.slice (some ⟨B,0,none⟩) len len,.int .i64 now])∧RS w1 X a len cap l now u g ca cl cc r cf n f w' (some B) pc pz pv):=(fun V pt pc pz pv h=>Calls.mono (toTreeO_any a len cap l now hl0 HS0.out V (HIw0.out.below h.bel)) (by
    rintro e w7 ⟨B,Y,rfl,hO,-,hb7⟩
    have h2:=h.below hb7
    exact ⟨B,rfl,h2.bel,h2.l0,h2.l1,fun B2 e2=>by cases e2;exact hO.nds HI0.out.1,h2.oc,h2.bz,h2.an⟩))
  have HCo:Hid (∀ (V:World) (pt pc pz:Option Nat) (pv:Option (Option Addr)),RS w1 X a len cap l now u g ca cl cc r cf n f V pt pc pz pv→Calls Tryz.prog 12 #[.agg #[.int .i64 u,.int .i64 g,.slice ca cl cc,.bool r]] V fun e w'=>∃ B,e=.returned (.agg #[.int .i64 u,.int .i64 g,.slice (some ⟨B,0,none⟩) cl cl,.bool r])∧RS w1 X a len cap l now u g ca cl cc r cf n f w' pt (some B) pz pv):=(fun V pt pc pz pv h=>Calls.mono (toCred_any u g ca cl cc r cf hl1 V (HIw1.out.below h.bel)) (by
    rintro e w7 ⟨B,rfl,hO,hgeO,hb7⟩
    have h2:=h.below hb7
    exact ⟨B,rfl,h2.bel,h2.l0,h2.l1,h2.ot,fun B2 e2=>by cases e2;exact hO,h2.bz,h2.an⟩))
  have HSp:Hid (∀ (V:World) (B0 B1:Nat) (pz:Option Nat),RS w1 X a len cap l now u g ca cl cc r cf n f V (some B0) (some B1) pz none→Calls Tryz.prog 24 #[.agg #[.slice (some ⟨B0,0,none⟩) len len,.int .i64 now],.agg #[.int .i64 u,.int .i64 g,.slice (some ⟨B1,0,none⟩) cl cl,.bool r],.string s] V fun e w'=>∃ va vc,e=.returned (.agg #[.slice va n vc,.int .i64 C])∧RS w1 X a len cap l now u g ca cl cc r cf n f w' (some B0) (some B1) pz (some va)):=(fun V B0 B1 pz h=>Calls.mono (HSr.out V B0 B1 (h.ot _ rfl) (h.oc _ rfl)) (by
    rintro e w7 ⟨va,vc,rfl,ho,hA,hb7⟩
    have h2:=h.below hb7
    exact ⟨va,vc,rfl,h2.bel,h2.l0,h2.l1,h2.ot,h2.oc,h2.bz,fun v e=>by cases e;exact ⟨ho,fun A e2=>by obtain ⟨q1,q2⟩:=hA A e2;exact ⟨Nat.le_trans h.bel.size q1,q2,fun B e3=>by have:=(h.bz B e3).1.lt;omega⟩⟩⟩))
  have HWs:Hid (RS w1 X a len cap l now u g ca cl cc r cf n f w1 .none .none .none .none):=⟨Below.refl _ _,HL0.out,HL1.out,(fun B e=>by cases e),(fun B e=>by cases e),(fun B e=>by cases e),(fun B e=>by cases e)⟩
  go_upto_region 10 with fail
  go_cut [8] (fun t wx=>∃ (Z:Nat) (va:Option Addr) (vc:Nat),t=.pointer (some ⟨Z,0,none⟩)∧Hid (RF w1 X a len cap l now u g ca cl cc r cf n f C va vc wx Z))
  case first =>
    go_region_held3 (fun w'=>w'.cell? ⟨X,0,none⟩=some (.slice a len cap)∧w'.cell? ⟨X,1,none⟩=some (.int .i64 now)∧w'.cell? ⟨X+1,0,none⟩=some (.int .i64 u)∧w'.cell? ⟨X+1,1,none⟩=some (.int .i64 g)∧w'.cell? ⟨X+1,2,none⟩=some (.slice ca cl cc)∧w'.cell? ⟨X+1,3,none⟩=some (.bool r)) (go_keep)
      (first
        | (go_at_call 24;refine' Calls.mono (HSp.out _ _ _ _ ?hs) ?_;(case hs=>(first | exact HWs.out | exact HWs.out.drew | exact HWs.out.box | exact HWs.out.drbox | exact HWs.out.box.drew));rintro e w7 ⟨va,vc,rfl,hws⟩;replace HWs:Hid _:=hws;clear hws;replace t0_0:w7.cell? ⟨X,0,none⟩=some (.slice a len cap):=HWs.out.l0.at0 0 _ rfl;replace t0_1:w7.cell? ⟨X,1,none⟩=some (.int .i64 now):=HWs.out.l0.at0 1 _ rfl;replace t1_0:w7.cell? ⟨X+1,0,none⟩=some (.int .i64 u):=HWs.out.l1.at0 0 _ rfl;replace t1_1:w7.cell? ⟨X+1,1,none⟩=some (.int .i64 g):=HWs.out.l1.at0 1 _ rfl;replace t1_2:w7.cell? ⟨X+1,2,none⟩=some (.slice ca cl cc):=HWs.out.l1.at0 2 _ rfl;replace t1_3:w7.cell? ⟨X+1,3,none⟩=some (.bool r):=HWs.out.l1.at0 3 _ rfl;(try (obtain ⟨z0,z1,fz,nz1,nz2,nz3,nz4⟩:=HWs.out.zc)))
        | (go_at_call_of 11 (Value.slice a len cap);refine' Calls.mono (HTo.out _ _ _ _ _ ?hs) ?_;(case hs=>(first | exact HWs.out | exact HWs.out.drew | exact HWs.out.box | exact HWs.out.drbox | exact HWs.out.box.drew));rintro e w7 ⟨B0,rfl,hws⟩;replace HWs:Hid _:=hws;clear hws;replace t0_0:w7.cell? ⟨X,0,none⟩=some (.slice a len cap):=HWs.out.l0.at0 0 _ rfl;replace t0_1:w7.cell? ⟨X,1,none⟩=some (.int .i64 now):=HWs.out.l0.at0 1 _ rfl;replace t1_0:w7.cell? ⟨X+1,0,none⟩=some (.int .i64 u):=HWs.out.l1.at0 0 _ rfl;replace t1_1:w7.cell? ⟨X+1,1,none⟩=some (.int .i64 g):=HWs.out.l1.at0 1 _ rfl;replace t1_2:w7.cell? ⟨X+1,2,none⟩=some (.slice ca cl cc):=HWs.out.l1.at0 2 _ rfl;replace t1_3:w7.cell? ⟨X+1,3,none⟩=some (.bool r):=HWs.out.l1.at0 3 _ rfl)
        | (go_at_call_of 12 (Value.slice ca cl cc);refine' Calls.mono (HCo.out _ _ _ _ _ ?hs) ?_;(case hs=>(first | exact HWs.out | exact HWs.out.drew | exact HWs.out.box | exact HWs.out.drbox | exact HWs.out.box.drew));rintro e w7 ⟨B1,rfl,hws⟩;replace HWs:Hid _:=hws;clear hws;replace t0_0:w7.cell? ⟨X,0,none⟩=some (.slice a len cap):=HWs.out.l0.at0 0 _ rfl;replace t0_1:w7.cell? ⟨X,1,none⟩=some (.int .i64 now):=HWs.out.l0.at0 1 _ rfl;replace t1_0:w7.cell? ⟨X+1,0,none⟩=some (.int .i64 u):=HWs.out.l1.at0 0 _ rfl;replace t1_1:w7.cell? ⟨X+1,1,none⟩=some (.int .i64 g):=HWs.out.l1.at0 1 _ rfl;replace t1_2:w7.cell? ⟨X+1,2,none⟩=some (.slice ca cl cc):=HWs.out.l1.at0 2 _ rfl;replace t1_3:w7.cell? ⟨X+1,3,none⟩=some (.bool r):=HWs.out.l1.at0 3 _ rfl))
    all_goals
      go_wp2_with fail
      go_meet
      first
        | exact ⟨_,va,vc,rfl,HWs.out.fin1 C vc⟩
        | exact ⟨_,va,vc,rfl,HWs.out.fin2 C vc⟩
  case rest =>
  clear HTo HCo HSp HWs
  obtain ⟨Z,va,vc,rfl,hRF⟩:=hcut
  obtain ⟨wp,hwp⟩:∃ wp,wp=wc:=⟨_,rfl⟩
  subst hwp
  clear HB HL0 HL1 t0_0 t0_1 t1_0 t1_1 t1_2 t1_3 HIw0 HIw1 HSr
  have HB:Hid (Below w.heap.size w wp):=Below.on HWb.out hRF.out.bel
  have HL0:Hid (BoxR wp X [.slice a len cap,.int .i64 now]):=hRF.out.l0
  have HL1:Hid (BoxR wp (X+1) [.int .i64 u,.int .i64 g,.slice ca cl cc,.bool r]):=hRF.out.l1
  have HZ:Hid (BoxR wp Z [.slice va n vc,.int .i64 C]):=hRF.out.bz
  have HV:Hid (OwnS va n f wp):=hRF.out.an.1
  obtain ⟨S0,hS0⟩:∃ S0,S0=wp.heap.size:=⟨_,rfl⟩
  have HN0:Hid (X+1<S0∧Z<S0∧w.heap.size≤S0∧∀ A,va=some A→A.block<S0):=(by
    show _∧_∧_∧_
    rw [hS0]
    exact ⟨HL1.out.lt,HZ.out.lt,HB.out.size,fun A e=>(hRF.out.an.2 A e).2.1⟩)
  have HS0e:Hid (S0=wp.heap.size):=hS0
  clear hRF HWb hS0
  have t0_0:wp.cell? ⟨X,0,none⟩=some (.slice a len cap):=HL0.out.at0 0 _ rfl
  have t0_1:wp.cell? ⟨X,1,none⟩=some (.int .i64 now):=HL0.out.at0 1 _ rfl
  have t1_0:wp.cell? ⟨X+1,0,none⟩=some (.int .i64 u):=HL1.out.at0 0 _ rfl
  have t1_1:wp.cell? ⟨X+1,1,none⟩=some (.int .i64 g):=HL1.out.at0 1 _ rfl
  have t1_2:wp.cell? ⟨X+1,2,none⟩=some (.slice ca cl cc):=HL1.out.at0 2 _ rfl
  have t1_3:wp.cell? ⟨X+1,3,none⟩=some (.bool r):=HL1.out.at0 3 _ rfl
  go_wp2_with fail
  refine (toTreeO_any a len cap l now hl0 HS0.out _ (HI0.out.below HB.out)).mono ?_
  rintro e w7 ⟨E0,Y,rfl,hO,hgE,hb7⟩
  replace HB:Hid (Below w.heap.size w w7):=Below.on HB.out hb7
  replace HL0:Hid (BoxR w7 X [.slice a len cap,.int .i64 now]):=HL0.out.below hb7
  replace HL1:Hid (BoxR w7 (X+1) [.int .i64 u,.int .i64 g,.slice ca cl cc,.bool r]):=HL1.out.below hb7
  replace HZ:Hid (BoxR w7 Z [.slice va n vc,.int .i64 C]):=HZ.out.below hb7
  replace HV:Hid (OwnS va n f w7):=HV.out.below hb7
  replace t0_0:w7.cell? ⟨X,0,none⟩=some (.slice a len cap):=HL0.out.at0 0 _ rfl
  replace t0_1:w7.cell? ⟨X,1,none⟩=some (.int .i64 now):=HL0.out.at0 1 _ rfl
  replace t1_0:w7.cell? ⟨X+1,0,none⟩=some (.int .i64 u):=HL1.out.at0 0 _ rfl
  replace t1_1:w7.cell? ⟨X+1,1,none⟩=some (.int .i64 g):=HL1.out.at0 1 _ rfl
  replace t1_2:w7.cell? ⟨X+1,2,none⟩=some (.slice ca cl cc):=HL1.out.at0 2 _ rfl
  replace t1_3:w7.cell? ⟨X+1,3,none⟩=some (.bool r):=HL1.out.at0 3 _ rfl
  have hbN:Below w7.heap.size w7 (w7.alloc (.cells #[.slice (some ⟨E0,0,none⟩) len len,.int .i64 now] 35)):=bel_alloc _ _
  have HY0:Hid (BoxR (w7.alloc (.cells #[.slice (some ⟨E0,0,none⟩) len len,.int .i64 now] 35)) w7.heap.size [.slice (some ⟨E0,0,none⟩) len len,.int .i64 now]):=boxR_new _ _ _
  have HP0:Hid (OwnT (w7.alloc (.cells #[.slice (some ⟨E0,0,none⟩) len len,.int .i64 now] 35)) E0 w7.heap.size E0 (ndAt l) Y len):=hO.below hbN
  have HN1:Hid (S0≤E0∧E0<w7.heap.size):=⟨by rw [HS0e.out];exact hgE,hO.inB.2⟩
  clear t0_0 t0_1 t1_0 t1_1 t1_2 t1_3
  replace HB:Hid (Below w.heap.size w (w7.alloc (.cells #[.slice (some ⟨E0,0,none⟩) len len,.int .i64 now] 35))):=Below.on HB.out hbN
  replace HL0:Hid (BoxR (w7.alloc (.cells #[.slice (some ⟨E0,0,none⟩) len len,.int .i64 now] 35)) X [.slice a len cap,.int .i64 now]):=HL0.out.below hbN
  replace HL1:Hid (BoxR (w7.alloc (.cells #[.slice (some ⟨E0,0,none⟩) len len,.int .i64 now] 35)) (X+1) [.int .i64 u,.int .i64 g,.slice ca cl cc,.bool r]):=HL1.out.below hbN
  replace HZ:Hid (BoxR (w7.alloc (.cells #[.slice (some ⟨E0,0,none⟩) len len,.int .i64 now] 35)) Z [.slice va n vc,.int .i64 C]):=HZ.out.below hbN
  replace HV:Hid (OwnS va n f (w7.alloc (.cells #[.slice (some ⟨E0,0,none⟩) len len,.int .i64 now] 35))):=HV.out.below hbN
  clear hbN hb7 hO hgE HS0e
  go_upto_region 12 with fail
  generalize (w7.alloc (.cells #[.slice (some ⟨E0,0,none⟩) len len,.int .i64 now] 35))=w8 at HB HL0 HL1 HZ HV HY0 HP0 ⊢
  generalize w7.heap.size=Y0 at HY0 HP0 HN1 ⊢
  have t0_0:w8.cell? ⟨X,0,none⟩=some (.slice a len cap):=HL0.out.at0 0 _ rfl
  have t0_1:w8.cell? ⟨X,1,none⟩=some (.int .i64 now):=HL0.out.at0 1 _ rfl
  have t1_0:w8.cell? ⟨X+1,0,none⟩=some (.int .i64 u):=HL1.out.at0 0 _ rfl
  have t1_1:w8.cell? ⟨X+1,1,none⟩=some (.int .i64 g):=HL1.out.at0 1 _ rfl
  have t1_2:w8.cell? ⟨X+1,2,none⟩=some (.slice ca cl cc):=HL1.out.at0 2 _ rfl
  have t1_3:w8.cell? ⟨X+1,3,none⟩=some (.bool r):=HL1.out.at0 3 _ rfl
  go_wp2_with fail
  refine (toCredO_any u g ca cl cc r cf hl1 _ (HI1.out.below HB.out)).mono ?_
  rintro e w7 ⟨E1,rfl,hO,hgE,hlE,hb7⟩
  have hY0l:Y0<w8.heap.size:=HY0.out.lt
  replace HB:Hid (Below w.heap.size w w7):=Below.on HB.out hb7
  replace HL0:Hid (BoxR w7 X [.slice a len cap,.int .i64 now]):=HL0.out.below hb7
  replace HL1:Hid (BoxR w7 (X+1) [.int .i64 u,.int .i64 g,.slice ca cl cc,.bool r]):=HL1.out.below hb7
  replace HZ:Hid (BoxR w7 Z [.slice va n vc,.int .i64 C]):=HZ.out.below hb7
  replace HV:Hid (OwnS va n f w7):=HV.out.below hb7
  replace HY0:Hid (BoxR w7 Y0 [.slice (some ⟨E0,0,none⟩) len len,.int .i64 now]):=HY0.out.below hb7
  replace HP0:Hid (OwnT w7 E0 Y0 E0 (ndAt l) Y len):=HP0.out.below hb7
  replace t0_0:w7.cell? ⟨X,0,none⟩=some (.slice a len cap):=HL0.out.at0 0 _ rfl
  replace t0_1:w7.cell? ⟨X,1,none⟩=some (.int .i64 now):=HL0.out.at0 1 _ rfl
  replace t1_0:w7.cell? ⟨X+1,0,none⟩=some (.int .i64 u):=HL1.out.at0 0 _ rfl
  replace t1_1:w7.cell? ⟨X+1,1,none⟩=some (.int .i64 g):=HL1.out.at0 1 _ rfl
  replace t1_2:w7.cell? ⟨X+1,2,none⟩=some (.slice ca cl cc):=HL1.out.at0 2 _ rfl
  replace t1_3:w7.cell? ⟨X+1,3,none⟩=some (.bool r):=HL1.out.at0 3 _ rfl
  have hbN:Below w7.heap.size w7 (w7.alloc (.cells #[.int .i64 u,.int .i64 g,.slice (some ⟨E1,0,none⟩) cl cl,.bool r] 37)):=bel_alloc _ _
  have HY1:Hid (BoxR (w7.alloc (.cells #[.int .i64 u,.int .i64 g,.slice (some ⟨E1,0,none⟩) cl cl,.bool r] 37)) w7.heap.size [.int .i64 u,.int .i64 g,.slice (some ⟨E1,0,none⟩) cl cl,.bool r]):=boxR_new _ _ _
  have HP1:Hid (OwnIv (some ⟨E1,0,none⟩) cl cf (w7.alloc (.cells #[.int .i64 u,.int .i64 g,.slice (some ⟨E1,0,none⟩) cl cl,.bool r] 37))):=hO.below hbN
  have HN2:Hid (Y0<E1∧E1<w7.heap.size):=⟨by omega,hlE⟩
  clear t0_0 t0_1 t1_0 t1_1 t1_2 t1_3
  replace HB:Hid (Below w.heap.size w (w7.alloc (.cells #[.int .i64 u,.int .i64 g,.slice (some ⟨E1,0,none⟩) cl cl,.bool r] 37))):=Below.on HB.out hbN
  replace HL0:Hid (BoxR (w7.alloc (.cells #[.int .i64 u,.int .i64 g,.slice (some ⟨E1,0,none⟩) cl cl,.bool r] 37)) X [.slice a len cap,.int .i64 now]):=HL0.out.below hbN
  replace HL1:Hid (BoxR (w7.alloc (.cells #[.int .i64 u,.int .i64 g,.slice (some ⟨E1,0,none⟩) cl cl,.bool r] 37)) (X+1) [.int .i64 u,.int .i64 g,.slice ca cl cc,.bool r]):=HL1.out.below hbN
  replace HZ:Hid (BoxR (w7.alloc (.cells #[.int .i64 u,.int .i64 g,.slice (some ⟨E1,0,none⟩) cl cl,.bool r] 37)) Z [.slice va n vc,.int .i64 C]):=HZ.out.below hbN
  replace HV:Hid (OwnS va n f (w7.alloc (.cells #[.int .i64 u,.int .i64 g,.slice (some ⟨E1,0,none⟩) cl cl,.bool r] 37))):=HV.out.below hbN
  replace HY0:Hid (BoxR (w7.alloc (.cells #[.int .i64 u,.int .i64 g,.slice (some ⟨E1,0,none⟩) cl cl,.bool r] 37)) Y0 [.slice (some ⟨E0,0,none⟩) len len,.int .i64 now]):=HY0.out.below hbN
  replace HP0:Hid (OwnT (w7.alloc (.cells #[.int .i64 u,.int .i64 g,.slice (some ⟨E1,0,none⟩) cl cl,.bool r] 37)) E0 Y0 E0 (ndAt l) Y len):=HP0.out.below hbN
  clear hbN hb7 hO hgE hlE hY0l
  go_upto_region 13 with fail
  generalize (w7.alloc (.cells #[.int .i64 u,.int .i64 g,.slice (some ⟨E1,0,none⟩) cl cl,.bool r] 37))=w8 at HB HL0 HL1 HZ HV HY0 HP0 HY1 HP1 ⊢
  generalize w7.heap.size=Y1 at HY1 HN2 ⊢
  have t0_0:w8.cell? ⟨X,0,none⟩=some (.slice a len cap):=HL0.out.at0 0 _ rfl
  have t0_1:w8.cell? ⟨X,1,none⟩=some (.int .i64 now):=HL0.out.at0 1 _ rfl
  have t1_0:w8.cell? ⟨X+1,0,none⟩=some (.int .i64 u):=HL1.out.at0 0 _ rfl
  have t1_1:w8.cell? ⟨X+1,1,none⟩=some (.int .i64 g):=HL1.out.at0 1 _ rfl
  have t1_2:w8.cell? ⟨X+1,2,none⟩=some (.slice ca cl cc):=HL1.out.at0 2 _ rfl
  have t1_3:w8.cell? ⟨X+1,3,none⟩=some (.bool r):=HL1.out.at0 3 _ rfl
  have y0_0:w8.cell? ⟨Y0,0,none⟩=some (.slice (some ⟨E0,0,none⟩) len len):=HY0.out.at0 0 _ rfl
  have y0_1:w8.cell? ⟨Y0,1,none⟩=some (.int .i64 now):=HY0.out.at0 1 _ rfl
  have y1_0:w8.cell? ⟨Y1,0,none⟩=some (.int .i64 u):=HY1.out.at0 0 _ rfl
  have y1_1:w8.cell? ⟨Y1,1,none⟩=some (.int .i64 g):=HY1.out.at0 1 _ rfl
  have y1_2:w8.cell? ⟨Y1,2,none⟩=some (.slice (some ⟨E1,0,none⟩) cl cl):=HY1.out.at0 2 _ rfl
  have y1_3:w8.cell? ⟨Y1,3,none⟩=some (.bool r):=HY1.out.at0 3 _ rfl
  go_wp2_with fail
  refine (HIr.out _ _ _ HB.out (HP0.out.nds HI0.out.1) HP1.out.ints).mono ?_
  rintro e w7 ⟨vb,vd,rfl,hO,hA,hb7⟩
  have hY1l:Y1<w8.heap.size:=HY1.out.lt
  replace HB:Hid (Below w.heap.size w w7):=Below.on HB.out hb7
  replace HL0:Hid (BoxR w7 X [.slice a len cap,.int .i64 now]):=HL0.out.below hb7
  replace HL1:Hid (BoxR w7 (X+1) [.int .i64 u,.int .i64 g,.slice ca cl cc,.bool r]):=HL1.out.below hb7
  replace HZ:Hid (BoxR w7 Z [.slice va n vc,.int .i64 C]):=HZ.out.below hb7
  replace HV:Hid (OwnS va n f w7):=HV.out.below hb7
  replace HY0:Hid (BoxR w7 Y0 [.slice (some ⟨E0,0,none⟩) len len,.int .i64 now]):=HY0.out.below hb7
  replace HP0:Hid (OwnT w7 E0 Y0 E0 (ndAt l) Y len):=HP0.out.below hb7
  replace HY1:Hid (BoxR w7 Y1 [.int .i64 u,.int .i64 g,.slice (some ⟨E1,0,none⟩) cl cl,.bool r]):=HY1.out.below hb7
  replace HP1:Hid (OwnIv (some ⟨E1,0,none⟩) cl cf w7):=HP1.out.below hb7
  replace t0_0:w7.cell? ⟨X,0,none⟩=some (.slice a len cap):=HL0.out.at0 0 _ rfl
  replace t0_1:w7.cell? ⟨X,1,none⟩=some (.int .i64 now):=HL0.out.at0 1 _ rfl
  replace t1_0:w7.cell? ⟨X+1,0,none⟩=some (.int .i64 u):=HL1.out.at0 0 _ rfl
  replace t1_1:w7.cell? ⟨X+1,1,none⟩=some (.int .i64 g):=HL1.out.at0 1 _ rfl
  replace t1_2:w7.cell? ⟨X+1,2,none⟩=some (.slice ca cl cc):=HL1.out.at0 2 _ rfl
  replace t1_3:w7.cell? ⟨X+1,3,none⟩=some (.bool r):=HL1.out.at0 3 _ rfl
  have hbN:Below w7.heap.size w7 (w7.alloc (.cells #[.slice vb n vd,.int .i64 C] 52)):=bel_alloc _ _
  have HU:Hid (BoxR (w7.alloc (.cells #[.slice vb n vd,.int .i64 C] 52)) w7.heap.size [.slice vb n vd,.int .i64 C]):=boxR_new _ _ _
  have HW:Hid (OwnS vb n f (w7.alloc (.cells #[.slice vb n vd,.int .i64 C] 52))):=hO.below hbN
  have HN3:Hid (Y1<w7.heap.size∧∀ A,vb=some A→Y1<A.block∧A.block<w7.heap.size):=⟨Nat.lt_of_lt_of_le hY1l hb7.size,fun A e=>by have:=hA A e;omega⟩
  clear t0_0 t0_1 t1_0 t1_1 t1_2 t1_3 y0_0 y0_1 y1_0 y1_1 y1_2 y1_3
  replace HB:Hid (Below w.heap.size w (w7.alloc (.cells #[.slice vb n vd,.int .i64 C] 52))):=Below.on HB.out hbN
  replace HL0:Hid (BoxR (w7.alloc (.cells #[.slice vb n vd,.int .i64 C] 52)) X [.slice a len cap,.int .i64 now]):=HL0.out.below hbN
  replace HL1:Hid (BoxR (w7.alloc (.cells #[.slice vb n vd,.int .i64 C] 52)) (X+1) [.int .i64 u,.int .i64 g,.slice ca cl cc,.bool r]):=HL1.out.below hbN
  replace HZ:Hid (BoxR (w7.alloc (.cells #[.slice vb n vd,.int .i64 C] 52)) Z [.slice va n vc,.int .i64 C]):=HZ.out.below hbN
  replace HV:Hid (OwnS va n f (w7.alloc (.cells #[.slice vb n vd,.int .i64 C] 52))):=HV.out.below hbN
  replace HY0:Hid (BoxR (w7.alloc (.cells #[.slice vb n vd,.int .i64 C] 52)) Y0 [.slice (some ⟨E0,0,none⟩) len len,.int .i64 now]):=HY0.out.below hbN
  replace HP0:Hid (OwnT (w7.alloc (.cells #[.slice vb n vd,.int .i64 C] 52)) E0 Y0 E0 (ndAt l) Y len):=HP0.out.below hbN
  replace HY1:Hid (BoxR (w7.alloc (.cells #[.slice vb n vd,.int .i64 C] 52)) Y1 [.int .i64 u,.int .i64 g,.slice (some ⟨E1,0,none⟩) cl cl,.bool r]):=HY1.out.below hbN
  replace HP1:Hid (OwnIv (some ⟨E1,0,none⟩) cl cf (w7.alloc (.cells #[.slice vb n vd,.int .i64 C] 52))):=HP1.out.below hbN
  clear hbN hb7 hO hA hY1l
  go_upto_region 14 with fail
  generalize (w7.alloc (.cells #[.slice vb n vd,.int .i64 C] 52))=w8 at HB HL0 HL1 HZ HV HY0 HP0 HY1 HP1 HU HW ⊢
  generalize w7.heap.size=U at HU HN3 ⊢
  have z0:w8.cell? ⟨Z,0,none⟩=some (.slice va n vc):=HZ.out.at0 0 _ rfl
  have z1:w8.cell? ⟨Z,1,none⟩=some (.int .i64 C):=HZ.out.at0 1 _ rfl
  have q0:w8.cell? ⟨U,0,none⟩=some (.slice vb n vd):=HU.out.at0 0 _ rfl
  have q1:w8.cell? ⟨U,1,none⟩=some (.int .i64 C):=HU.out.at0 1 _ rfl
  go_wp2_with fail
  refine (eqNO_any vb va n vd vc C f hLl w8 HW.out HV.out).mono ?_
  rintro e w9 ⟨rfl,hb⟩
  clear z0 z1 q0 q1
  replace HB:Hid (Below w.heap.size w w9):=Below.on HB.out hb
  replace HL0:Hid (BoxR w9 X [.slice a len cap,.int .i64 now]):=HL0.out.below hb
  replace HL1:Hid (BoxR w9 (X+1) [.int .i64 u,.int .i64 g,.slice ca cl cc,.bool r]):=HL1.out.below hb
  replace HZ:Hid (BoxR w9 Z [.slice va n vc,.int .i64 C]):=HZ.out.below hb
  replace HV:Hid (OwnS va n f w9):=HV.out.below hb
  replace HY0:Hid (BoxR w9 Y0 [.slice (some ⟨E0,0,none⟩) len len,.int .i64 now]):=HY0.out.below hb
  replace HP0:Hid (OwnT w9 E0 Y0 E0 (ndAt l) Y len):=HP0.out.below hb
  replace HY1:Hid (BoxR w9 Y1 [.int .i64 u,.int .i64 g,.slice (some ⟨E1,0,none⟩) cl cl,.bool r]):=HY1.out.below hb
  replace HP1:Hid (OwnIv (some ⟨E1,0,none⟩) cl cf w9):=HP1.out.below hb
  replace HU:Hid (BoxR w9 U [.slice vb n vd,.int .i64 C]):=HU.out.below hb
  replace HW:Hid (OwnS vb n f w9):=HW.out.below hb
  have t0_0:w9.cell? ⟨X,0,none⟩=some (.slice a len cap):=HL0.out.at0 0 _ rfl
  have t0_1:w9.cell? ⟨X,1,none⟩=some (.int .i64 now):=HL0.out.at0 1 _ rfl
  have t1_0:w9.cell? ⟨X+1,0,none⟩=some (.int .i64 u):=HL1.out.at0 0 _ rfl
  have t1_1:w9.cell? ⟨X+1,1,none⟩=some (.int .i64 g):=HL1.out.at0 1 _ rfl
  have t1_2:w9.cell? ⟨X+1,2,none⟩=some (.slice ca cl cc):=HL1.out.at0 2 _ rfl
  have t1_3:w9.cell? ⟨X+1,3,none⟩=some (.bool r):=HL1.out.at0 3 _ rfl
  have y0_0:w9.cell? ⟨Y0,0,none⟩=some (.slice (some ⟨E0,0,none⟩) len len):=HY0.out.at0 0 _ rfl
  have y0_1:w9.cell? ⟨Y0,1,none⟩=some (.int .i64 now):=HY0.out.at0 1 _ rfl
  have y1_0:w9.cell? ⟨Y1,0,none⟩=some (.int .i64 u):=HY1.out.at0 0 _ rfl
  have y1_1:w9.cell? ⟨Y1,1,none⟩=some (.int .i64 g):=HY1.out.at0 1 _ rfl
  have y1_2:w9.cell? ⟨Y1,2,none⟩=some (.slice (some ⟨E1,0,none⟩) cl cl):=HY1.out.at0 2 _ rfl
  have y1_3:w9.cell? ⟨Y1,3,none⟩=some (.bool r):=HY1.out.at0 3 _ rfl
  clear hb
  go_upto_region 16 with fail
  go_cut [51] (fun t wx=>t=.bool false∧Hid (Below w.heap.size w wx)∧Hid (BoxR wx X [.slice a len cap,.int .i64 now])∧Hid (BoxR wx (X+1) [.int .i64 u,.int .i64 g,.slice ca cl cc,.bool r])∧Hid (BoxR wx Z [.slice va n vc,.int .i64 C])∧Hid (OwnS va n f wx)∧Hid (BoxR wx Y0 [.slice (some ⟨E0,0,none⟩) len len,.int .i64 now])∧Hid (OwnT wx E0 Y0 E0 (ndAt l) Y len)∧Hid (BoxR wx Y1 [.int .i64 u,.int .i64 g,.slice (some ⟨E1,0,none⟩) cl cl,.bool r])∧Hid (OwnIv (some ⟨E1,0,none⟩) cl cf wx)∧Hid (BoxR wx U [.slice vb n vd,.int .i64 C])∧Hid (OwnS vb n f wx))
  case first =>
    go_region_held3 (fun w'=>w'.cell? ⟨Y0,0,none⟩=some (.slice (some ⟨E0,0,none⟩) len len)∧w'.cell? ⟨Y0,1,none⟩=some (.int .i64 now)∧w'.cell? ⟨X,0,none⟩=some (.slice a len cap)∧w'.cell? ⟨X,1,none⟩=some (.int .i64 now)) (go_keep)
      (first
        | (go_at_call 15;refine Calls.mono (eqTree_any _ _ len len len l now hl0 HS0.out _ (HP0.out.nds HI0.out.1) HQ.out) ?_;rintro e w9 ⟨rfl,hb⟩;replace HB:Hid (Below w.heap.size w w9):=Below.on HB.out hb;replace HL0:Hid (BoxR w9 X [.slice a len cap,.int .i64 now]):=HL0.out.below hb;replace HL1:Hid (BoxR w9 (X+1) [.int .i64 u,.int .i64 g,.slice ca cl cc,.bool r]):=HL1.out.below hb;replace HZ:Hid (BoxR w9 Z [.slice va n vc,.int .i64 C]):=HZ.out.below hb;replace HV:Hid (OwnS va n f w9):=HV.out.below hb;replace HY0:Hid (BoxR w9 Y0 [.slice (some ⟨E0,0,none⟩) len len,.int .i64 now]):=HY0.out.below hb;replace HP0:Hid (OwnT w9 E0 Y0 E0 (ndAt l) Y len):=HP0.out.below hb;replace HY1:Hid (BoxR w9 Y1 [.int .i64 u,.int .i64 g,.slice (some ⟨E1,0,none⟩) cl cl,.bool r]):=HY1.out.below hb;replace HP1:Hid (OwnIv (some ⟨E1,0,none⟩) cl cf w9):=HP1.out.below hb;replace HU:Hid (BoxR w9 U [.slice vb n vd,.int .i64 C]):=HU.out.below hb;replace HW:Hid (OwnS vb n f w9):=HW.out.below hb;replace t0_0:w9.cell? ⟨X,0,none⟩=some (.slice a len cap):=HL0.out.at0 0 _ rfl;replace t0_1:w9.cell? ⟨X,1,none⟩=some (.int .i64 now):=HL0.out.at0 1 _ rfl;replace t1_0:w9.cell? ⟨X+1,0,none⟩=some (.int .i64 u):=HL1.out.at0 0 _ rfl;replace t1_1:w9.cell? ⟨X+1,1,none⟩=some (.int .i64 g):=HL1.out.at0 1 _ rfl;replace t1_2:w9.cell? ⟨X+1,2,none⟩=some (.slice ca cl cc):=HL1.out.at0 2 _ rfl;replace t1_3:w9.cell? ⟨X+1,3,none⟩=some (.bool r):=HL1.out.at0 3 _ rfl;replace y0_0:w9.cell? ⟨Y0,0,none⟩=some (.slice (some ⟨E0,0,none⟩) len len):=HY0.out.at0 0 _ rfl;replace y0_1:w9.cell? ⟨Y0,1,none⟩=some (.int .i64 now):=HY0.out.at0 1 _ rfl;replace y1_0:w9.cell? ⟨Y1,0,none⟩=some (.int .i64 u):=HY1.out.at0 0 _ rfl;replace y1_1:w9.cell? ⟨Y1,1,none⟩=some (.int .i64 g):=HY1.out.at0 1 _ rfl;replace y1_2:w9.cell? ⟨Y1,2,none⟩=some (.slice (some ⟨E1,0,none⟩) cl cl):=HY1.out.at0 2 _ rfl;replace y1_3:w9.cell? ⟨Y1,3,none⟩=some (.bool r):=HY1.out.at0 3 _ rfl;clear hb HQ)
        | (go_at_call 11;refine Calls.mono (toTreeO_any a len cap l now hl0 HS0.out _ ?hs) ?_;(case hs=>(first | exact HI0.out.below HB.out | exact HI0.out.below (below_drewT HB.out)));rintro e w7 ⟨Q,YQ,rfl,hO,hgQ,hb7⟩;replace HB:Hid (Below w.heap.size w w7):=Below.on HB.out ⟨hb7.os,hb7.tape,hb7.output,hb7.size,hb7.block⟩;replace HL0:Hid (BoxR w7 X [.slice a len cap,.int .i64 now]):=HL0.out.below ⟨hb7.os,hb7.tape,hb7.output,hb7.size,hb7.block⟩;replace HL1:Hid (BoxR w7 (X+1) [.int .i64 u,.int .i64 g,.slice ca cl cc,.bool r]):=HL1.out.below ⟨hb7.os,hb7.tape,hb7.output,hb7.size,hb7.block⟩;replace HZ:Hid (BoxR w7 Z [.slice va n vc,.int .i64 C]):=HZ.out.below ⟨hb7.os,hb7.tape,hb7.output,hb7.size,hb7.block⟩;replace HV:Hid (OwnS va n f w7):=HV.out.below ⟨hb7.os,hb7.tape,hb7.output,hb7.size,hb7.block⟩;replace HY0:Hid (BoxR w7 Y0 [.slice (some ⟨E0,0,none⟩) len len,.int .i64 now]):=HY0.out.below ⟨hb7.os,hb7.tape,hb7.output,hb7.size,hb7.block⟩;replace HP0:Hid (OwnT w7 E0 Y0 E0 (ndAt l) Y len):=HP0.out.below ⟨hb7.os,hb7.tape,hb7.output,hb7.size,hb7.block⟩;replace HY1:Hid (BoxR w7 Y1 [.int .i64 u,.int .i64 g,.slice (some ⟨E1,0,none⟩) cl cl,.bool r]):=HY1.out.below ⟨hb7.os,hb7.tape,hb7.output,hb7.size,hb7.block⟩;replace HP1:Hid (OwnIv (some ⟨E1,0,none⟩) cl cf w7):=HP1.out.below ⟨hb7.os,hb7.tape,hb7.output,hb7.size,hb7.block⟩;replace HU:Hid (BoxR w7 U [.slice vb n vd,.int .i64 C]):=HU.out.below ⟨hb7.os,hb7.tape,hb7.output,hb7.size,hb7.block⟩;replace HW:Hid (OwnS vb n f w7):=HW.out.below ⟨hb7.os,hb7.tape,hb7.output,hb7.size,hb7.block⟩;replace t0_0:w7.cell? ⟨X,0,none⟩=some (.slice a len cap):=HL0.out.at0 0 _ rfl;replace t0_1:w7.cell? ⟨X,1,none⟩=some (.int .i64 now):=HL0.out.at0 1 _ rfl;replace t1_0:w7.cell? ⟨X+1,0,none⟩=some (.int .i64 u):=HL1.out.at0 0 _ rfl;replace t1_1:w7.cell? ⟨X+1,1,none⟩=some (.int .i64 g):=HL1.out.at0 1 _ rfl;replace t1_2:w7.cell? ⟨X+1,2,none⟩=some (.slice ca cl cc):=HL1.out.at0 2 _ rfl;replace t1_3:w7.cell? ⟨X+1,3,none⟩=some (.bool r):=HL1.out.at0 3 _ rfl;replace y0_0:w7.cell? ⟨Y0,0,none⟩=some (.slice (some ⟨E0,0,none⟩) len len):=HY0.out.at0 0 _ rfl;replace y0_1:w7.cell? ⟨Y0,1,none⟩=some (.int .i64 now):=HY0.out.at0 1 _ rfl;replace y1_0:w7.cell? ⟨Y1,0,none⟩=some (.int .i64 u):=HY1.out.at0 0 _ rfl;replace y1_1:w7.cell? ⟨Y1,1,none⟩=some (.int .i64 g):=HY1.out.at0 1 _ rfl;replace y1_2:w7.cell? ⟨Y1,2,none⟩=some (.slice (some ⟨E1,0,none⟩) cl cl):=HY1.out.at0 2 _ rfl;replace y1_3:w7.cell? ⟨Y1,3,none⟩=some (.bool r):=HY1.out.at0 3 _ rfl;have HQ:Hid (Nds (some ⟨Q,0,none⟩) len l w7):=hO.nds HI0.out.1;clear hO hb7))
    all_goals go_wp2
    all_goals go_meet
    all_goals exact ⟨rfl,HB,HL0,HL1,HZ,HV,HY0,HP0,HY1,HP1,HU,HW⟩
  case rest =>
  obtain ⟨rfl,HBx,HL0x,HL1x,HZx,HVx,HY0x,HP0x,HY1x,HP1x,HUx,HWx⟩:=hcut
  obtain ⟨wq,hwq⟩:∃ wq,wq=wc:=⟨_,rfl⟩
  subst hwq
  clear y0_0 y0_1 y1_0 y1_1 y1_2 y1_3 HB HL0 HL1 HZ HV HY0 HP0 HY1 HP1 HU HW t0_0 t0_1 t1_0 t1_1 t1_2 t1_3
  have HB:Hid (Below w.heap.size w wq):=HBx
  have HL0:Hid (BoxR wq X [.slice a len cap,.int .i64 now]):=HL0x
  have HL1:Hid (BoxR wq (X+1) [.int .i64 u,.int .i64 g,.slice ca cl cc,.bool r]):=HL1x
  have HZ:Hid (BoxR wq Z [.slice va n vc,.int .i64 C]):=HZx
  have HV:Hid (OwnS va n f wq):=HVx
  have HY0:Hid (BoxR wq Y0 [.slice (some ⟨E0,0,none⟩) len len,.int .i64 now]):=HY0x
  have HP0:Hid (OwnT wq E0 Y0 E0 (ndAt l) Y len):=HP0x
  have HY1:Hid (BoxR wq Y1 [.int .i64 u,.int .i64 g,.slice (some ⟨E1,0,none⟩) cl cl,.bool r]):=HY1x
  have HP1:Hid (OwnIv (some ⟨E1,0,none⟩) cl cf wq):=HP1x
  have HU:Hid (BoxR wq U [.slice vb n vd,.int .i64 C]):=HUx
  have HW:Hid (OwnS vb n f wq):=HWx
  clear HBx HL0x HL1x HZx HVx HY0x HP0x HY1x HP1x HUx HWx
  have t0_0:wq.cell? ⟨X,0,none⟩=some (.slice a len cap):=HL0.out.at0 0 _ rfl
  have t0_1:wq.cell? ⟨X,1,none⟩=some (.int .i64 now):=HL0.out.at0 1 _ rfl
  have t1_0:wq.cell? ⟨X+1,0,none⟩=some (.int .i64 u):=HL1.out.at0 0 _ rfl
  have t1_1:wq.cell? ⟨X+1,1,none⟩=some (.int .i64 g):=HL1.out.at0 1 _ rfl
  have t1_2:wq.cell? ⟨X+1,2,none⟩=some (.slice ca cl cc):=HL1.out.at0 2 _ rfl
  have t1_3:wq.cell? ⟨X+1,3,none⟩=some (.bool r):=HL1.out.at0 3 _ rfl
  have y0_0:wq.cell? ⟨Y0,0,none⟩=some (.slice (some ⟨E0,0,none⟩) len len):=HY0.out.at0 0 _ rfl
  have y0_1:wq.cell? ⟨Y0,1,none⟩=some (.int .i64 now):=HY0.out.at0 1 _ rfl
  have y1_0:wq.cell? ⟨Y1,0,none⟩=some (.int .i64 u):=HY1.out.at0 0 _ rfl
  have y1_1:wq.cell? ⟨Y1,1,none⟩=some (.int .i64 g):=HY1.out.at0 1 _ rfl
  have y1_2:wq.cell? ⟨Y1,2,none⟩=some (.slice (some ⟨E1,0,none⟩) cl cl):=HY1.out.at0 2 _ rfl
  have y1_3:wq.cell? ⟨Y1,3,none⟩=some (.bool r):=HY1.out.at0 3 _ rfl
  go_upto_region 18 with fail
  go_cut [56] (fun t wx=>t=.bool false∧Hid (Below w.heap.size w wx)∧Hid (BoxR wx X [.slice a len cap,.int .i64 now])∧Hid (BoxR wx (X+1) [.int .i64 u,.int .i64 g,.slice ca cl cc,.bool r])∧Hid (BoxR wx Z [.slice va n vc,.int .i64 C])∧Hid (OwnS va n f wx)∧Hid (BoxR wx Y0 [.slice (some ⟨E0,0,none⟩) len len,.int .i64 now])∧Hid (OwnT wx E0 Y0 E0 (ndAt l) Y len)∧Hid (BoxR wx Y1 [.int .i64 u,.int .i64 g,.slice (some ⟨E1,0,none⟩) cl cl,.bool r])∧Hid (OwnIv (some ⟨E1,0,none⟩) cl cf wx)∧Hid (BoxR wx U [.slice vb n vd,.int .i64 C])∧Hid (OwnS vb n f wx))
  case first =>
    go_region_held3 (fun w'=>w'.cell? ⟨Y1,0,none⟩=some (.int .i64 u)∧w'.cell? ⟨Y1,1,none⟩=some (.int .i64 g)∧w'.cell? ⟨Y1,2,none⟩=some (.slice (some ⟨E1,0,none⟩) cl cl)∧w'.cell? ⟨Y1,3,none⟩=some (.bool r)∧w'.cell? ⟨X+1,0,none⟩=some (.int .i64 u)∧w'.cell? ⟨X+1,1,none⟩=some (.int .i64 g)∧w'.cell? ⟨X+1,2,none⟩=some (.slice ca cl cc)∧w'.cell? ⟨X+1,3,none⟩=some (.bool r)) (go_keep)
      (first
        | (go_at_call 16;refine Calls.mono (eqCred_any u g _ _ cl cl cl r cf hl1 _ HP1.out.ints HQ.out) ?_;rintro e w9 ⟨rfl,hb⟩;replace HB:Hid (Below w.heap.size w w9):=Below.on HB.out hb;replace HL0:Hid (BoxR w9 X [.slice a len cap,.int .i64 now]):=HL0.out.below hb;replace HL1:Hid (BoxR w9 (X+1) [.int .i64 u,.int .i64 g,.slice ca cl cc,.bool r]):=HL1.out.below hb;replace HZ:Hid (BoxR w9 Z [.slice va n vc,.int .i64 C]):=HZ.out.below hb;replace HV:Hid (OwnS va n f w9):=HV.out.below hb;replace HY0:Hid (BoxR w9 Y0 [.slice (some ⟨E0,0,none⟩) len len,.int .i64 now]):=HY0.out.below hb;replace HP0:Hid (OwnT w9 E0 Y0 E0 (ndAt l) Y len):=HP0.out.below hb;replace HY1:Hid (BoxR w9 Y1 [.int .i64 u,.int .i64 g,.slice (some ⟨E1,0,none⟩) cl cl,.bool r]):=HY1.out.below hb;replace HP1:Hid (OwnIv (some ⟨E1,0,none⟩) cl cf w9):=HP1.out.below hb;replace HU:Hid (BoxR w9 U [.slice vb n vd,.int .i64 C]):=HU.out.below hb;replace HW:Hid (OwnS vb n f w9):=HW.out.below hb;replace t0_0:w9.cell? ⟨X,0,none⟩=some (.slice a len cap):=HL0.out.at0 0 _ rfl;replace t0_1:w9.cell? ⟨X,1,none⟩=some (.int .i64 now):=HL0.out.at0 1 _ rfl;replace t1_0:w9.cell? ⟨X+1,0,none⟩=some (.int .i64 u):=HL1.out.at0 0 _ rfl;replace t1_1:w9.cell? ⟨X+1,1,none⟩=some (.int .i64 g):=HL1.out.at0 1 _ rfl;replace t1_2:w9.cell? ⟨X+1,2,none⟩=some (.slice ca cl cc):=HL1.out.at0 2 _ rfl;replace t1_3:w9.cell? ⟨X+1,3,none⟩=some (.bool r):=HL1.out.at0 3 _ rfl;replace y0_0:w9.cell? ⟨Y0,0,none⟩=some (.slice (some ⟨E0,0,none⟩) len len):=HY0.out.at0 0 _ rfl;replace y0_1:w9.cell? ⟨Y0,1,none⟩=some (.int .i64 now):=HY0.out.at0 1 _ rfl;replace y1_0:w9.cell? ⟨Y1,0,none⟩=some (.int .i64 u):=HY1.out.at0 0 _ rfl;replace y1_1:w9.cell? ⟨Y1,1,none⟩=some (.int .i64 g):=HY1.out.at0 1 _ rfl;replace y1_2:w9.cell? ⟨Y1,2,none⟩=some (.slice (some ⟨E1,0,none⟩) cl cl):=HY1.out.at0 2 _ rfl;replace y1_3:w9.cell? ⟨Y1,3,none⟩=some (.bool r):=HY1.out.at0 3 _ rfl;clear hb HQ)
        | (go_at_call 12;refine Calls.mono (toCred_any u g ca cl cc r cf hl1 _ ?hs) ?_;(case hs=>(first | exact HI1.out.below HB.out | exact HI1.out.below (below_drewT HB.out)));rintro e w7 ⟨Q,rfl,hO,hgeO,hb7⟩;replace HB:Hid (Below w.heap.size w w7):=Below.on HB.out ⟨hb7.os,hb7.tape,hb7.output,hb7.size,hb7.block⟩;replace HL0:Hid (BoxR w7 X [.slice a len cap,.int .i64 now]):=HL0.out.below ⟨hb7.os,hb7.tape,hb7.output,hb7.size,hb7.block⟩;replace HL1:Hid (BoxR w7 (X+1) [.int .i64 u,.int .i64 g,.slice ca cl cc,.bool r]):=HL1.out.below ⟨hb7.os,hb7.tape,hb7.output,hb7.size,hb7.block⟩;replace HZ:Hid (BoxR w7 Z [.slice va n vc,.int .i64 C]):=HZ.out.below ⟨hb7.os,hb7.tape,hb7.output,hb7.size,hb7.block⟩;replace HV:Hid (OwnS va n f w7):=HV.out.below ⟨hb7.os,hb7.tape,hb7.output,hb7.size,hb7.block⟩;replace HY0:Hid (BoxR w7 Y0 [.slice (some ⟨E0,0,none⟩) len len,.int .i64 now]):=HY0.out.below ⟨hb7.os,hb7.tape,hb7.output,hb7.size,hb7.block⟩;replace HP0:Hid (OwnT w7 E0 Y0 E0 (ndAt l) Y len):=HP0.out.below ⟨hb7.os,hb7.tape,hb7.output,hb7.size,hb7.block⟩;replace HY1:Hid (BoxR w7 Y1 [.int .i64 u,.int .i64 g,.slice (some ⟨E1,0,none⟩) cl cl,.bool r]):=HY1.out.below ⟨hb7.os,hb7.tape,hb7.output,hb7.size,hb7.block⟩;replace HP1:Hid (OwnIv (some ⟨E1,0,none⟩) cl cf w7):=HP1.out.below ⟨hb7.os,hb7.tape,hb7.output,hb7.size,hb7.block⟩;replace HU:Hid (BoxR w7 U [.slice vb n vd,.int .i64 C]):=HU.out.below ⟨hb7.os,hb7.tape,hb7.output,hb7.size,hb7.block⟩;replace HW:Hid (OwnS vb n f w7):=HW.out.below ⟨hb7.os,hb7.tape,hb7.output,hb7.size,hb7.block⟩;replace t0_0:w7.cell? ⟨X,0,none⟩=some (.slice a len cap):=HL0.out.at0 0 _ rfl;replace t0_1:w7.cell? ⟨X,1,none⟩=some (.int .i64 now):=HL0.out.at0 1 _ rfl;replace t1_0:w7.cell? ⟨X+1,0,none⟩=some (.int .i64 u):=HL1.out.at0 0 _ rfl;replace t1_1:w7.cell? ⟨X+1,1,none⟩=some (.int .i64 g):=HL1.out.at0 1 _ rfl;replace t1_2:w7.cell? ⟨X+1,2,none⟩=some (.slice ca cl cc):=HL1.out.at0 2 _ rfl;replace t1_3:w7.cell? ⟨X+1,3,none⟩=some (.bool r):=HL1.out.at0 3 _ rfl;replace y0_0:w7.cell? ⟨Y0,0,none⟩=some (.slice (some ⟨E0,0,none⟩) len len):=HY0.out.at0 0 _ rfl;replace y0_1:w7.cell? ⟨Y0,1,none⟩=some (.int .i64 now):=HY0.out.at0 1 _ rfl;replace y1_0:w7.cell? ⟨Y1,0,none⟩=some (.int .i64 u):=HY1.out.at0 0 _ rfl;replace y1_1:w7.cell? ⟨Y1,1,none⟩=some (.int .i64 g):=HY1.out.at0 1 _ rfl;replace y1_2:w7.cell? ⟨Y1,2,none⟩=some (.slice (some ⟨E1,0,none⟩) cl cl):=HY1.out.at0 2 _ rfl;replace y1_3:w7.cell? ⟨Y1,3,none⟩=some (.bool r):=HY1.out.at0 3 _ rfl;have HQ:Hid (Ints (some ⟨Q,0,none⟩) cl cf w7):=hO;clear hO hb7))
    all_goals go_wp2
    all_goals go_meet
    all_goals exact ⟨rfl,HB,HL0,HL1,HZ,HV,HY0,HP0,HY1,HP1,HU,HW⟩
  case rest =>
  obtain ⟨rfl,HBx,HL0x,HL1x,HZx,HVx,HY0x,HP0x,HY1x,HP1x,HUx,HWx⟩:=hcut
  obtain ⟨wq,hwq⟩:∃ wq,wq=wc:=⟨_,rfl⟩
  subst hwq
  clear y0_0 y0_1 y1_0 y1_1 y1_2 y1_3 HB HL0 HL1 HZ HV HY0 HP0 HY1 HP1 HU HW t0_0 t0_1 t1_0 t1_1 t1_2 t1_3
  have HB:Hid (Below w.heap.size w wq):=HBx
  have HL0:Hid (BoxR wq X [.slice a len cap,.int .i64 now]):=HL0x
  have HL1:Hid (BoxR wq (X+1) [.int .i64 u,.int .i64 g,.slice ca cl cc,.bool r]):=HL1x
  have HZ:Hid (BoxR wq Z [.slice va n vc,.int .i64 C]):=HZx
  have HV:Hid (OwnS va n f wq):=HVx
  have HY0:Hid (BoxR wq Y0 [.slice (some ⟨E0,0,none⟩) len len,.int .i64 now]):=HY0x
  have HP0:Hid (OwnT wq E0 Y0 E0 (ndAt l) Y len):=HP0x
  have HY1:Hid (BoxR wq Y1 [.int .i64 u,.int .i64 g,.slice (some ⟨E1,0,none⟩) cl cl,.bool r]):=HY1x
  have HP1:Hid (OwnIv (some ⟨E1,0,none⟩) cl cf wq):=HP1x
  have HU:Hid (BoxR wq U [.slice vb n vd,.int .i64 C]):=HUx
  have HW:Hid (OwnS vb n f wq):=HWx
  clear HBx HL0x HL1x HZx HVx HY0x HP0x HY1x HP1x HUx HWx
  have t0_0:wq.cell? ⟨X,0,none⟩=some (.slice a len cap):=HL0.out.at0 0 _ rfl
  have t0_1:wq.cell? ⟨X,1,none⟩=some (.int .i64 now):=HL0.out.at0 1 _ rfl
  have t1_0:wq.cell? ⟨X+1,0,none⟩=some (.int .i64 u):=HL1.out.at0 0 _ rfl
  have t1_1:wq.cell? ⟨X+1,1,none⟩=some (.int .i64 g):=HL1.out.at0 1 _ rfl
  have t1_2:wq.cell? ⟨X+1,2,none⟩=some (.slice ca cl cc):=HL1.out.at0 2 _ rfl
  have t1_3:wq.cell? ⟨X+1,3,none⟩=some (.bool r):=HL1.out.at0 3 _ rfl
  have y0_0:wq.cell? ⟨Y0,0,none⟩=some (.slice (some ⟨E0,0,none⟩) len len):=HY0.out.at0 0 _ rfl
  have y0_1:wq.cell? ⟨Y0,1,none⟩=some (.int .i64 now):=HY0.out.at0 1 _ rfl
  have y1_0:wq.cell? ⟨Y1,0,none⟩=some (.int .i64 u):=HY1.out.at0 0 _ rfl
  have y1_1:wq.cell? ⟨Y1,1,none⟩=some (.int .i64 g):=HY1.out.at0 1 _ rfl
  have y1_2:wq.cell? ⟨Y1,2,none⟩=some (.slice (some ⟨E1,0,none⟩) cl cl):=HY1.out.at0 2 _ rfl
  have y1_3:wq.cell? ⟨Y1,3,none⟩=some (.bool r):=HY1.out.at0 3 _ rfl
  have HKb:Hid (kAt 1 (ndAt l) len≤30000000):=(by show _≤_;rw [kAt_wt];have:=HWt.out;omega)
  have hone:((1:Nat):Int)=1:=rfl
  go_upto_region 21 with fail
  clear t0_0 t0_1 t1_0 t1_1 t1_2 t1_3 y1_0 y1_1 y1_2 y1_3
  go_wp2_with fail
  refine (markTree_any E0 Y0 E0 len len 1 now (ndAt l) Y (by decide) (by have:=HKb.out;omega) hl0 HS0.out _ HP0.out).mono ?_
  rintro e w7 ⟨rfl,-,hb⟩
  clear y0_0 y0_1
  replace HB:Hid (Below w.heap.size w w7):=HB.out.trans (hb.below _ HB.out.size (by have:=HN0.out;have:=HN1.out;have:=HN2.out;have:=HN3.out.1;omega))
  replace HL0:Hid (BoxR w7 X [.slice a len cap,.int .i64 now]):=HL0.out.btw hb (by have:=HN0.out.1;have:=HN0.out.2.1;have:=HN1.out;have:=HN2.out;have:=HN3.out.1;omega)
  replace HL1:Hid (BoxR w7 (X+1) [.int .i64 u,.int .i64 g,.slice ca cl cc,.bool r]):=HL1.out.btw hb (by have:=HN0.out.1;have:=HN0.out.2.1;have:=HN1.out;have:=HN2.out;have:=HN3.out.1;omega)
  replace HZ:Hid (BoxR w7 Z [.slice va n vc,.int .i64 C]):=HZ.out.btw hb (by have:=HN0.out.1;have:=HN0.out.2.1;have:=HN1.out;have:=HN2.out;have:=HN3.out.1;omega)
  replace HV:Hid (OwnS va n f w7):=HV.out.btw hb (fun A e=>by have:=HN0.out.2.2.2 A e;have:=HN0.out.1;have:=HN1.out;have:=HN2.out;have:=HN3.out.1;omega)
  replace HY1:Hid (BoxR w7 Y1 [.int .i64 u,.int .i64 g,.slice (some ⟨E1,0,none⟩) cl cl,.bool r]):=HY1.out.btw hb (by have:=HN0.out.1;have:=HN0.out.2.1;have:=HN1.out;have:=HN2.out;have:=HN3.out.1;omega)
  replace HP1:Hid (OwnIv (some ⟨E1,0,none⟩) cl cf w7):=HP1.out.btw hb (fun _ A e=>by have:=block_of_some e;have:=HN1.out;have:=HN2.out;omega)
  replace HU:Hid (BoxR w7 U [.slice vb n vd,.int .i64 C]):=HU.out.btw hb (by have:=HN0.out.1;have:=HN0.out.2.1;have:=HN1.out;have:=HN2.out;have:=HN3.out.1;omega)
  replace HW:Hid (OwnS vb n f w7):=HW.out.btw hb (fun A e=>by have:=HN3.out.2 A e;have:=HN0.out.1;have:=HN1.out;have:=HN2.out;have:=HN3.out.1;omega)
  clear hb HP0 HY0
  obtain ⟨K,hK⟩:∃ K,K=kAt 1 (ndAt l) len:=⟨_,rfl⟩
  rw [←hK] at HKb ⊢
  have hKb:K≤30000000:=HKb.out
  clear hK HKb
  have y1_0:w7.cell? ⟨Y1,0,none⟩=some (.int .i64 u):=HY1.out.at0 0 _ rfl
  have y1_1:w7.cell? ⟨Y1,1,none⟩=some (.int .i64 g):=HY1.out.at0 1 _ rfl
  have y1_2:w7.cell? ⟨Y1,2,none⟩=some (.slice (some ⟨E1,0,none⟩) cl cl):=HY1.out.at0 2 _ rfl
  have y1_3:w7.cell? ⟨Y1,3,none⟩=some (.bool r):=HY1.out.at0 3 _ rfl
  go_wp2_with fail
  refine (markCred_any u g _ cl cl r (K:Int) cf (by omega) (by omega) hl1 _ HP1.out).mono ?_
  rintro e w8 ⟨rfl,-,hbv⟩
  have hb:Btw E1 (E1+1) w7 w8:=hbv.butS.btw (fun A e=>by have:=block_of_some e;omega)
  clear y1_0 y1_1 y1_2 y1_3 hbv
  replace HB:Hid (Below w.heap.size w w8):=HB.out.trans (hb.below _ HB.out.size (by have:=HN0.out;have:=HN1.out;have:=HN2.out;have:=HN3.out.1;omega))
  replace HL0:Hid (BoxR w8 X [.slice a len cap,.int .i64 now]):=HL0.out.btw hb (by have:=HN0.out.1;have:=HN0.out.2.1;have:=HN1.out;have:=HN2.out;have:=HN3.out.1;omega)
  replace HL1:Hid (BoxR w8 (X+1) [.int .i64 u,.int .i64 g,.slice ca cl cc,.bool r]):=HL1.out.btw hb (by have:=HN0.out.1;have:=HN0.out.2.1;have:=HN1.out;have:=HN2.out;have:=HN3.out.1;omega)
  replace HZ:Hid (BoxR w8 Z [.slice va n vc,.int .i64 C]):=HZ.out.btw hb (by have:=HN0.out.1;have:=HN0.out.2.1;have:=HN1.out;have:=HN2.out;have:=HN3.out.1;omega)
  replace HV:Hid (OwnS va n f w8):=HV.out.btw hb (fun A e=>by have:=HN0.out.2.2.2 A e;have:=HN0.out.1;have:=HN1.out;have:=HN2.out;have:=HN3.out.1;omega)
  replace HU:Hid (BoxR w8 U [.slice vb n vd,.int .i64 C]):=HU.out.btw hb (by have:=HN0.out.1;have:=HN0.out.2.1;have:=HN1.out;have:=HN2.out;have:=HN3.out.1;omega)
  replace HW:Hid (OwnS vb n f w8):=HW.out.btw hb (fun A e=>by have:=HN3.out.2 A e;have:=HN0.out.1;have:=HN1.out;have:=HN2.out;have:=HN3.out.1;omega)
  clear hb HP1 HY1
  have hk0:decide ((K:Int)+(cl:Int)<0)=false:=by simp;omega
  have z0:w8.cell? ⟨Z,0,none⟩=some (.slice va n vc):=HZ.out.at0 0 _ rfl
  have z1:w8.cell? ⟨Z,1,none⟩=some (.int .i64 C):=HZ.out.at0 1 _ rfl
  have q0:w8.cell? ⟨U,0,none⟩=some (.slice vb n vd):=HU.out.at0 0 _ rfl
  have q1:w8.cell? ⟨U,1,none⟩=some (.int .i64 C):=HU.out.at0 1 _ rfl
  go_wp2_with fail
  refine (eqNO_any vb va n vd vc C f hLl w8 HW.out HV.out).mono ?_
  rintro e w9 ⟨rfl,hb⟩
  clear z0 z1 q0 q1 hk0
  replace HB:Hid (Below w.heap.size w w9):=Below.on HB.out hb
  replace HL0:Hid (BoxR w9 X [.slice a len cap,.int .i64 now]):=HL0.out.below hb
  replace HL1:Hid (BoxR w9 (X+1) [.int .i64 u,.int .i64 g,.slice ca cl cc,.bool r]):=HL1.out.below hb
  replace HZ:Hid (BoxR w9 Z [.slice va n vc,.int .i64 C]):=HZ.out.below hb
  replace HV:Hid (OwnS va n f w9):=HV.out.below hb
  replace HU:Hid (BoxR w9 U [.slice vb n vd,.int .i64 C]):=HU.out.below hb
  replace HW:Hid (OwnS vb n f w9):=HW.out.below hb
  clear hb
  have q0:w9.cell? ⟨U,0,none⟩=some (.slice vb n vd):=HU.out.at0 0 _ rfl
  have q1:w9.cell? ⟨U,1,none⟩=some (.int .i64 C):=HU.out.at0 1 _ rfl
  go_upto_region 26 with fail
  go_wp2_with fail
  refine (markNO_any vb n vd C 1 f (by decide) (by decide) hLl w9 HW.out).mono ?_
  rintro e w7 ⟨rfl,hW7,hbs⟩
  have hbt:=hbs
  clear q0 q1
  replace HB:Hid (Below w.heap.size w w7):=HB.out.trans (hbs.below _ HB.out.size (fun A e=>by have:=HN3.out.2 A e;have:=HN0.out.2.2.1;have:=HN1.out;have:=HN2.out;omega))
  replace HL0:Hid (BoxR w7 X [.slice a len cap,.int .i64 now]):=HL0.out.butS hbs (fun A e=>by have:=HN3.out.2 A e;have:=HN3.out.1;have:=HN0.out.1;have:=HN0.out.2.1;have:=HN1.out;have:=HN2.out;omega)
  replace HL1:Hid (BoxR w7 (X+1) [.int .i64 u,.int .i64 g,.slice ca cl cc,.bool r]):=HL1.out.butS hbs (fun A e=>by have:=HN3.out.2 A e;have:=HN3.out.1;have:=HN0.out.1;have:=HN0.out.2.1;have:=HN1.out;have:=HN2.out;omega)
  replace HZ:Hid (BoxR w7 Z [.slice va n vc,.int .i64 C]):=HZ.out.butS hbs (fun A e=>by have:=HN3.out.2 A e;have:=HN3.out.1;have:=HN0.out.1;have:=HN0.out.2.1;have:=HN1.out;have:=HN2.out;omega)
  replace HV:Hid (OwnS va n f w7):=(by
      intro h0
      obtain ⟨B,ha,hlt,hi⟩:=HV.out h0
      have hc:=fun o=>hbs.cell B o hlt (fun A e=>by have:=HN3.out.2 A e;have:=HN0.out.2.2.2 _ ha;have:=HN1.out;have:=HN2.out;simp only at *;omega)
      exact ⟨B,ha,Nat.lt_of_lt_of_le hlt hbs.size,fun i hi2=>(hc i).1.trans (hi.1 i hi2),fun i hi2=>(hc i).2.trans (hi.2 i hi2)⟩)
  replace HU:Hid (BoxR w7 U [.slice vb n vd,.int .i64 C]):=HU.out.butS hbs (fun A e=>by have:=HN3.out.2 A e;have:=HN3.out.1;have:=HN0.out.1;have:=HN0.out.2.1;have:=HN1.out;have:=HN2.out;omega)
  replace HW:Hid (OwnS vb n (mkF 1) w7):=hW7
  clear hW7 hbs hbt
  have q0:w7.cell? ⟨U,0,none⟩=some (.slice vb n vd):=HU.out.at0 0 _ rfl
  have q1:w7.cell? ⟨U,1,none⟩=some (.int .i64 C):=HU.out.at0 1 _ rfl
  have hn1:¬ 1+(n:Int)<0:=by omega
  go_wp2_with fail
  refine (heldNO_any vb n vd C 1 (by decide) (by decide) hLl w7 HW.out).mono ?_
  rintro e wm ⟨rfl,hb⟩
  clear q0 q1
  replace HB:Hid (Below w.heap.size w wm):=Below.on HB.out hb
  replace HL0:Hid (BoxR wm X [.slice a len cap,.int .i64 now]):=HL0.out.below hb
  replace HL1:Hid (BoxR wm (X+1) [.int .i64 u,.int .i64 g,.slice ca cl cc,.bool r]):=HL1.out.below hb
  replace HZ:Hid (BoxR wm Z [.slice va n vc,.int .i64 C]):=HZ.out.below hb
  replace HV:Hid (OwnS va n f wm):=HV.out.below hb
  replace HU:Hid (BoxR wm U [.slice vb n vd,.int .i64 C]):=HU.out.below hb
  replace HW:Hid (OwnS vb n (mkF 1) wm):=HW.out.below hb
  clear hb
  have t0_0:wm.cell? ⟨X,0,none⟩=some (.slice a len cap):=HL0.out.at0 0 _ rfl
  have t0_1:wm.cell? ⟨X,1,none⟩=some (.int .i64 now):=HL0.out.at0 1 _ rfl
  have t1_0:wm.cell? ⟨X+1,0,none⟩=some (.int .i64 u):=HL1.out.at0 0 _ rfl
  have t1_1:wm.cell? ⟨X+1,1,none⟩=some (.int .i64 g):=HL1.out.at0 1 _ rfl
  have t1_2:wm.cell? ⟨X+1,2,none⟩=some (.slice ca cl cc):=HL1.out.at0 2 _ rfl
  have t1_3:wm.cell? ⟨X+1,3,none⟩=some (.bool r):=HL1.out.at0 3 _ rfl
  have HIm0:Hid (Nds a len l wm):=HI0.out.below HB.out
  have HIm1:Hid (Ints ca cl cf wm):=HI1.out.below HB.out
  go_upto_region 33 with fail
  have HTo:Hid (∀ (V:World) (pt pc pz:Option Nat) (pv:Option (Option Addr)),RS wm X a len cap l now u g ca cl cc r cf n f V pt pc pz pv→Calls Tryz.prog 11 #[.agg #[.slice a len cap,.int .i64 now]] V fun e w'=>∃ B,e=.returned (.agg #[.slice (some ⟨B,0,none⟩) len len,.int .i64 now])∧RS wm X a len cap l now u g ca cl cc r cf n f w' (some B) pc pz pv):=(fun V pt pc pz pv h=>Calls.mono (toTreeO_any a len cap l now hl0 HS0.out V (HIm0.out.below h.bel)) (by
    rintro e w7 ⟨B,Y,rfl,hO,-,hb7⟩
    have h2:=h.below hb7
    exact ⟨B,rfl,h2.bel,h2.l0,h2.l1,fun B2 e2=>by cases e2;exact hO.nds HI0.out.1,h2.oc,h2.bz,h2.an⟩))
  have HCo:Hid (∀ (V:World) (pt pc pz:Option Nat) (pv:Option (Option Addr)),RS wm X a len cap l now u g ca cl cc r cf n f V pt pc pz pv→Calls Tryz.prog 12 #[.agg #[.int .i64 u,.int .i64 g,.slice ca cl cc,.bool r]] V fun e w'=>∃ B,e=.returned (.agg #[.int .i64 u,.int .i64 g,.slice (some ⟨B,0,none⟩) cl cl,.bool r])∧RS wm X a len cap l now u g ca cl cc r cf n f w' pt (some B) pz pv):=(fun V pt pc pz pv h=>Calls.mono (toCred_any u g ca cl cc r cf hl1 V (HIm1.out.below h.bel)) (by
    rintro e w7 ⟨B,rfl,hO,hgeO,hb7⟩
    have h2:=h.below hb7
    exact ⟨B,rfl,h2.bel,h2.l0,h2.l1,h2.ot,fun B2 e2=>by cases e2;exact hO,h2.bz,h2.an⟩))
  have HSp:Hid (∀ (V:World) (B0 B1:Nat) (pz:Option Nat),RS wm X a len cap l now u g ca cl cc r cf n f V (some B0) (some B1) pz none→Calls Tryz.prog 25 #[.agg #[.slice (some ⟨B0,0,none⟩) len len,.int .i64 now],.agg #[.int .i64 u,.int .i64 g,.slice (some ⟨B1,0,none⟩) cl cl,.bool r],.string s] V fun e w'=>∃ va vc,e=.returned (.agg #[.slice va n vc,.int .i64 C])∧RS wm X a len cap l now u g ca cl cc r cf n f w' (some B0) (some B1) pz (some va)):=(fun V B0 B1 pz h=>Calls.mono (HIr.out V _ B1 (Below.on HB.out h.bel) (h.ot _ rfl) (h.oc _ rfl)) (by
    rintro e w7 ⟨va,vc,rfl,ho,hA,hb7⟩
    have h2:=h.below hb7
    exact ⟨va,vc,rfl,h2.bel,h2.l0,h2.l1,h2.ot,h2.oc,h2.bz,fun v e=>by cases e;exact ⟨ho,fun A e2=>by obtain ⟨q1,q2⟩:=hA A e2;exact ⟨Nat.le_trans h.bel.size q1,q2,fun B e3=>by have:=(h.bz B e3).1.lt;omega⟩⟩⟩))
  have HWs:Hid (RS wm X a len cap l now u g ca cl cc r cf n f wm .none .none .none .none):=⟨Below.refl _ _,HL0.out,HL1.out,(fun B e=>by cases e),(fun B e=>by cases e),(fun B e=>by cases e),(fun B e=>by cases e)⟩
  go_cut [15] (fun t wx=>∃ (Z:Nat) (va:Option Addr) (vc:Nat),t=.pointer (some ⟨Z,0,none⟩)∧Hid (RF wm X a len cap l now u g ca cl cc r cf n f C va vc wx Z))
  case first =>
    go_region_held3 (fun w'=>w'.cell? ⟨X,0,none⟩=some (.slice a len cap)∧w'.cell? ⟨X,1,none⟩=some (.int .i64 now)∧w'.cell? ⟨X+1,0,none⟩=some (.int .i64 u)∧w'.cell? ⟨X+1,1,none⟩=some (.int .i64 g)∧w'.cell? ⟨X+1,2,none⟩=some (.slice ca cl cc)∧w'.cell? ⟨X+1,3,none⟩=some (.bool r)) (go_keep)
      (first
        | (go_at_call 25;refine' Calls.mono (HSp.out _ _ _ _ ?hs) ?_;(case hs=>(first | exact HWs.out | exact HWs.out.drew | exact HWs.out.box | exact HWs.out.drbox | exact HWs.out.box.drew));rintro e w7 ⟨va,vc,rfl,hws⟩;replace HWs:Hid _:=hws;clear hws;replace t0_0:w7.cell? ⟨X,0,none⟩=some (.slice a len cap):=HWs.out.l0.at0 0 _ rfl;replace t0_1:w7.cell? ⟨X,1,none⟩=some (.int .i64 now):=HWs.out.l0.at0 1 _ rfl;replace t1_0:w7.cell? ⟨X+1,0,none⟩=some (.int .i64 u):=HWs.out.l1.at0 0 _ rfl;replace t1_1:w7.cell? ⟨X+1,1,none⟩=some (.int .i64 g):=HWs.out.l1.at0 1 _ rfl;replace t1_2:w7.cell? ⟨X+1,2,none⟩=some (.slice ca cl cc):=HWs.out.l1.at0 2 _ rfl;replace t1_3:w7.cell? ⟨X+1,3,none⟩=some (.bool r):=HWs.out.l1.at0 3 _ rfl;(try (obtain ⟨z0,z1,fz,nz1,nz2,nz3,nz4⟩:=HWs.out.zc)))
        | (go_at_call_of 11 (Value.slice a len cap);refine' Calls.mono (HTo.out _ _ _ _ _ ?hs) ?_;(case hs=>(first | exact HWs.out | exact HWs.out.drew | exact HWs.out.box | exact HWs.out.drbox | exact HWs.out.box.drew));rintro e w7 ⟨B0,rfl,hws⟩;replace HWs:Hid _:=hws;clear hws;replace t0_0:w7.cell? ⟨X,0,none⟩=some (.slice a len cap):=HWs.out.l0.at0 0 _ rfl;replace t0_1:w7.cell? ⟨X,1,none⟩=some (.int .i64 now):=HWs.out.l0.at0 1 _ rfl;replace t1_0:w7.cell? ⟨X+1,0,none⟩=some (.int .i64 u):=HWs.out.l1.at0 0 _ rfl;replace t1_1:w7.cell? ⟨X+1,1,none⟩=some (.int .i64 g):=HWs.out.l1.at0 1 _ rfl;replace t1_2:w7.cell? ⟨X+1,2,none⟩=some (.slice ca cl cc):=HWs.out.l1.at0 2 _ rfl;replace t1_3:w7.cell? ⟨X+1,3,none⟩=some (.bool r):=HWs.out.l1.at0 3 _ rfl)
        | (go_at_call_of 12 (Value.slice ca cl cc);refine' Calls.mono (HCo.out _ _ _ _ _ ?hs) ?_;(case hs=>(first | exact HWs.out | exact HWs.out.drew | exact HWs.out.box | exact HWs.out.drbox | exact HWs.out.box.drew));rintro e w7 ⟨B1,rfl,hws⟩;replace HWs:Hid _:=hws;clear hws;replace t0_0:w7.cell? ⟨X,0,none⟩=some (.slice a len cap):=HWs.out.l0.at0 0 _ rfl;replace t0_1:w7.cell? ⟨X,1,none⟩=some (.int .i64 now):=HWs.out.l0.at0 1 _ rfl;replace t1_0:w7.cell? ⟨X+1,0,none⟩=some (.int .i64 u):=HWs.out.l1.at0 0 _ rfl;replace t1_1:w7.cell? ⟨X+1,1,none⟩=some (.int .i64 g):=HWs.out.l1.at0 1 _ rfl;replace t1_2:w7.cell? ⟨X+1,2,none⟩=some (.slice ca cl cc):=HWs.out.l1.at0 2 _ rfl;replace t1_3:w7.cell? ⟨X+1,3,none⟩=some (.bool r):=HWs.out.l1.at0 3 _ rfl))
    all_goals
      go_wp2_with fail
      go_meet
      first
        | exact ⟨_,va,vc,rfl,HWs.out.fin1 C vc⟩
        | exact ⟨_,va,vc,rfl,HWs.out.fin2 C vc⟩
  case rest =>
  clear HTo HCo HSp HWs
  obtain ⟨Z2,vx,vy,rfl,hRF⟩:=hcut
  obtain ⟨wp,hwp⟩:∃ wp,wp=wc:=⟨_,rfl⟩
  subst hwp
  have hb:=hRF.out.bel
  have HZ2:Hid (BoxR wp Z2 [.slice vx n vy,.int .i64 C]):=hRF.out.bz
  have HV2:Hid (OwnS vx n f wp):=hRF.out.an.1
  clear hRF t0_0 t0_1 t1_0 t1_1 t1_2 t1_3 HIm0 HIm1 HIr
  replace HB:Hid (Below w.heap.size w wp):=Below.on HB.out hb
  replace HL0:Hid (BoxR wp X [.slice a len cap,.int .i64 now]):=HL0.out.below hb
  replace HL1:Hid (BoxR wp (X+1) [.int .i64 u,.int .i64 g,.slice ca cl cc,.bool r]):=HL1.out.below hb
  replace HZ:Hid (BoxR wp Z [.slice va n vc,.int .i64 C]):=HZ.out.below hb
  replace HV:Hid (OwnS va n f wp):=HV.out.below hb
  replace HU:Hid (BoxR wp U [.slice vb n vd,.int .i64 C]):=HU.out.below hb
  replace HW:Hid (OwnS vb n (mkF 1) wp):=HW.out.below hb
  clear hb
  have z0:wp.cell? ⟨Z,0,none⟩=some (.slice va n vc):=HZ.out.at0 0 _ rfl
  have z1:wp.cell? ⟨Z,1,none⟩=some (.int .i64 C):=HZ.out.at0 1 _ rfl
  have p0:wp.cell? ⟨Z2,0,none⟩=some (.slice vx n vy):=HZ2.out.at0 0 _ rfl
  have p1:wp.cell? ⟨Z2,1,none⟩=some (.int .i64 C):=HZ2.out.at0 1 _ rfl
  go_wp2_with fail
  refine (eqNO_any vx va n vy vc C f hLl wp HV2.out HV.out).mono ?_
  rintro e w9 ⟨rfl,hb⟩
  clear z0 z1 p0 p1
  replace HB:Hid (Below w.heap.size w w9):=Below.on HB.out hb
  replace HL0:Hid (BoxR w9 X [.slice a len cap,.int .i64 now]):=HL0.out.below hb
  replace HL1:Hid (BoxR w9 (X+1) [.int .i64 u,.int .i64 g,.slice ca cl cc,.bool r]):=HL1.out.below hb
  replace HZ:Hid (BoxR w9 Z [.slice va n vc,.int .i64 C]):=HZ.out.below hb
  replace HV:Hid (OwnS va n f w9):=HV.out.below hb
  replace HU:Hid (BoxR w9 U [.slice vb n vd,.int .i64 C]):=HU.out.below hb
  replace HW:Hid (OwnS vb n (mkF 1) w9):=HW.out.below hb
  clear hb HZ2 HV2
  have q0:w9.cell? ⟨U,0,none⟩=some (.slice vb n vd):=HU.out.at0 0 _ rfl
  have q1:w9.cell? ⟨U,1,none⟩=some (.int .i64 C):=HU.out.at0 1 _ rfl
  go_wp2_with fail
  refine (heldNO_any vb n vd C 1 (by decide) (by decide) hLl w9 HW.out).mono ?_
  rintro e w7 ⟨rfl,hb⟩
  replace HB:Hid (Below w.heap.size w w7):=Below.on HB.out hb
  clear hb q0 q1
  go_wp2
  go_ret
  exact ⟨rfl,HB.out⟩
end Go.Proofs.YtabfdidnjibdeaaGreatDoor
