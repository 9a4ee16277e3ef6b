/- Laid together: CrMk. -/
import Derived.Test.YtabfdidnjibdeaaGreatDoorBR27
import Derived.Test.YtabfdidnjibdeaaGreatDoorBR42
namespace Go.Proofs.YtabfdidnjibdeaaGreatDoor
open Go.RowKit Go.PlainAid
set_option linter.unusedVariables false
def OwnIv (a:Option Addr) (len:Nat) (f:Nat→Int) (w:World):Prop:=0<len→∃ B,a=some ⟨B,0,none⟩∧B<w.heap.size∧IHolds w B f len
theorem OwnIv.below {a:Option Addr}{len:Nat}{f:Nat→Int}{w w':World}(h:OwnIv a len f w)(hb:Below w.heap.size w w'):OwnIv a len f w':=by
  intro h0
  obtain ⟨B,ha,hlt,hi⟩:=h h0
  exact ⟨B,ha,Nat.lt_of_lt_of_le hlt hb.size,fun i hi2=>(hb.cell (p:=⟨B,i,none⟩) hlt).trans (hi.1 i hi2),fun i hi2=>(hb.frozen (p:=⟨B,i,none⟩) hlt).trans (hi.2 i hi2)⟩
theorem OwnIv.ints {a:Option Addr}{len:Nat}{f:Nat→Int}{w:World}(h:OwnIv a len f w):Ints a len f w:=by
  intro h0
  obtain ⟨B,ha,hlt,hi⟩:=h h0
  exact ⟨B,0,ha,hlt,fun i hi2=>by simpa using hi.1 i hi2⟩
structure ButIv (a:Option Addr) (w w':World):Prop where
  size:w'.heap.size=w.heap.size
  below:∀ c,(∀ A,a=some A→c≤A.block)→Below c w w'
  cell:∀ b o,(∀ A,a=some A→b≠A.block)→w'.cell? ⟨b,o,none⟩=w.cell? ⟨b,o,none⟩∧w'.frozen? ⟨b,o,none⟩=w.frozen? ⟨b,o,none⟩
theorem ButIv.refl (a:Option Addr)(w:World):ButIv a w w:=⟨rfl,fun _ _=>Below.refl _ _,fun _ _ _=>⟨rfl,rfl⟩⟩
theorem ButIv.set {B o:Nat}{w w':World}{v:Value}(h:ButIv (some ⟨B,0,none⟩) w w'):ButIv (some ⟨B,0,none⟩) w (w'.setCell ⟨B,o,none⟩ v):=by
  refine ⟨by simpa using h.size,fun c hc=>bl_setC (h.below c hc) (hc _ rfl),fun b o2 hb=>?_⟩
  have h1:=h.cell b o2 hb
  rw [World.frozen?_setCell,←h1.1]
  exact ⟨World.cell?_setCell_other _ _ _ _ (by intro h;have h2:=congrArg Addr.block h;exact hb _ rfl (by simpa using h2.symm)),h1.2⟩
set_option maxHeartbeats 2000000 in
theorem markInts_none (a:Option Addr)(cap:Nat)(k:Int)(w:World) :
    Calls Tryz.prog 58 #[.slice a 0 cap,.int .i64 k] w fun e w'=>e=.returned (.int .i64 k)∧w'=w:=by
  go_enter Tryz.func58,Tryz.ntmps58
  go_wp2
  go_rounds 1
  go_ret
  exact ⟨rfl,rfl⟩
set_option maxHeartbeats 2000000 in
theorem markInts_some (B len cap:Nat)(k:Int)(F0:Nat→Int)(h0:0≤k)(h1:k≤1000000000)(hl:len≤1048576)(w:World)(hp:IHolds w B F0 len) :
    Calls Tryz.prog 58 #[.slice (some ⟨B,0,none⟩) len cap,.int .i64 k] w fun e w'=>e=.returned (.int .i64 (k+len))∧IHolds w' B (fun i=>k+i) len∧ButIv (some ⟨B,0,none⟩) w w':=by
  have HP:Hid (IHolds w B F0 len):=hp
  clear hp
  go_enter Tryz.func58,Tryz.ntmps58
  go_wp2
  go_loopw [5,1] (fun i q wr=>∃ (j:Nat) (F:Nat→Int),j≤len∧i=.int .i64 j∧q=.int .i64 (k+j)∧Hid (IHolds wr B F len)∧Hid (∀ t,t<j→F t=k+t)∧Hid (ButIv (some ⟨B,0,none⟩) w wr)) (fun i _ _=>len-(intOf i).toNat)
  case atStart=>exact ⟨0,F0,Nat.zero_le _,rfl,by simp,HP,fun t ht=>absurd ht (by omega),ButIv.refl _ _⟩
  case round =>
    obtain ⟨j,F,hj,rfl,rfl,hH,hg,hB⟩:=hrel
    by_cases hlt:j<len
    · have hlt' : (j : Int) < (len : Int) := by omega
      have g2:=hH.out.1 j hlt
      have g3:=hH.out.2 j hlt
      have hH2:Hid (IHolds (wr.setCell ⟨B,j,none⟩ (.int .i64 (k+j))) B (fun i=>if i=j then k+j else F i) len):=hH.out.set j hlt _
      have hg2:Hid (∀ t,t<j+1→(fun i=>if i=j then k+j else F i) t=k+t):=(fun t ht=>by
        show (if t=j then k+j else F t)=k+t
        by_cases e:t=j
        · rw [if_pos e,e]
        · rw [if_neg e];exact hg.out t (by omega))
      have hB2:Hid (ButIv (some ⟨B,0,none⟩) w (wr.setCell ⟨B,j,none⟩ (.int .i64 (k+j)))):=hB.out.set
      clear hH hg hB
      go_wp2
      go_roundw
      case rel=>exact ⟨j+1,_,by omega,by go_num,by go_num,hH2,hg2,hB2⟩
      case measure=>simp [intOf];omega
    · have : j = len := by omega
      subst this
      go_wp2
      go_ret
      refine ⟨rfl,⟨fun i hi=>?_,hH.out.2⟩,hB.out⟩
      have h1:=hH.out.1 i hi
      rw [hg.out i hi] at h1
      exact h1
theorem markInts_any (a:Option Addr)(len cap:Nat)(k:Int)(f:Nat→Int)(h0:0≤k)(h1:k≤1000000000)(hl:len≤1048576)(w:World)(ho:OwnIv a len f w) :
    Calls Tryz.prog 58 #[.slice a len cap,.int .i64 k] w fun e w'=>e=.returned (.int .i64 (k+len))∧OwnIv a len (fun i=>k+i) w'∧ButIv a w w':=by
  by_cases hz:len=0
  · subst hz
    refine (markInts_none a cap k w).mono ?_
    rintro e w' ⟨rfl,rfl⟩
    exact ⟨by simp,fun h=>absurd h (by omega),ButIv.refl _ _⟩
  · obtain ⟨B, rfl, hlt, hp⟩ := ho (by omega)
    refine (markInts_some B len cap k _ h0 h1 hl w hp).mono ?_
    rintro e w' ⟨rfl,hp2,hb⟩
    exact ⟨rfl,fun _=>⟨B,rfl,by rw [hb.size];exact hlt,hp2⟩,hb⟩
structure ButAv (a:Option Addr) (w w':World):Prop where
  size:w.heap.size≤w'.heap.size
  below:∀ c,c≤w.heap.size→(∀ A,a=some A→c≤A.block)→Below c w w'
  cell:∀ b o,b<w.heap.size→(∀ A,a=some A→b≠A.block)→w'.cell? ⟨b,o,none⟩=w.cell? ⟨b,o,none⟩∧w'.frozen? ⟨b,o,none⟩=w.frozen? ⟨b,o,none⟩
theorem ButIv.upon {a:Option Addr}{w w1 w2:World}(hb:Below w.heap.size w w1)(h:ButIv a w1 w2):ButAv a w w2:=by
  refine ⟨by rw [h.size];exact hb.size,fun c hc ha=>(hb.mono hc).trans (h.below c ha),fun b o hlt hne=>?_⟩
  have h1:=h.cell b o hne
  exact ⟨h1.1.trans (hb.cell (p:=⟨b,o,none⟩) hlt),h1.2.trans (hb.frozen (p:=⟨b,o,none⟩) hlt)⟩
theorem ButAv.upon {a:Option Addr}{w w1 w2:World}(hb:Below w.heap.size w w1)(h:ButAv a w1 w2):ButAv a w w2:=by
  refine ⟨Nat.le_trans hb.size h.size,fun c hc ha=>(hb.mono hc).trans (h.below c (Nat.le_trans hc hb.size) ha),fun b o hlt hne=>?_⟩
  have h1:=h.cell b o (Nat.lt_of_lt_of_le hlt hb.size) hne
  exact ⟨h1.1.trans (hb.cell (p:=⟨b,o,none⟩) hlt),h1.2.trans (hb.frozen (p:=⟨b,o,none⟩) hlt)⟩
set_option maxHeartbeats 2000000 in
theorem markCred_any (u g:Int)(a:Option Addr)(len cap:Nat)(r:Bool)(k:Int)(f:Nat→Int)(h0:0≤k)(h1:k≤1000000000)(hl:len≤1048576)(w:World)(ho:OwnIv a len f w) :
    Calls Tryz.prog 28 #[.agg #[.int .i64 u,.int .i64 g,.slice a len cap,.bool r],.int .i64 k] w fun e w'=>e=.returned (.int .i64 (k+len))∧OwnIv a len (fun i=>k+i) w'∧ButAv a w w':=by
  have hc:Hid (∀ w',Below w.heap.size w w'→Calls Tryz.prog 58 #[.slice a len cap,.int .i64 k] w' fun e w''=>e=.returned (.int .i64 (k+len))∧OwnIv a len (fun i=>k+i) w''∧ButIv a w' w''):=(fun w' hb=>markInts_any a len cap k f h0 h1 hl w' (ho.below hb))
  clear ho h0 h1 hl
  go_enter Tryz.func28,Tryz.ntmps28
  go_wp2_with fail
  refine (hc.out _ (bel_alloc _ _)).mono ?_
  rintro e w2 ⟨rfl,h2,h3⟩
  have h4:Hid (ButAv a w w2):=h3.upon (bel_alloc _ _)
  have h5:Hid (OwnIv a len (fun i=>k+i) w2):=h2
  clear h2 h3 hc
  go_wp2
  go_ret
  exact ⟨rfl,h5.out,h4.out⟩
theorem ButAv.butS {a:Option Addr}{w w':World}(h:ButAv a w w'):ButS a w w':=⟨h.size,h.below,h.cell⟩
theorem OwnIv.btw {lo hi:Nat}{a2:Option Addr}{len:Nat}{f:Nat→Int}{w w':World}(ho:OwnIv a2 len f w)(h:Btw lo hi w w')(hne:0<len→∀ A,a2=some A→A.block<lo∨hi≤A.block):OwnIv a2 len f w':=by
  intro h0
  obtain ⟨B,ha,hlt,hp⟩:=ho h0
  have hb:B<lo∨hi≤B:=hne h0 _ ha
  exact ⟨B,ha,Nat.lt_of_lt_of_le hlt h.size,fun i hi=>(h.cell B i hlt hb).1.trans (hp.1 i hi),fun i hi=>(h.cell B i hlt hb).2.trans (hp.2 i hi)⟩
theorem ownIv_set {B len:Nat}{f:Nat→Int}{w:World}{b o:Nat}{v:Value}(h:OwnIv (some ⟨B,0,none⟩) len f w)(hne:b≠B):OwnIv (some ⟨B,0,none⟩) len f (w.setCell ⟨b,o,none⟩ v):=by
  intro hl
  obtain ⟨b',e,hlt,hc⟩:=h hl
  cases e
  refine ⟨B,rfl,by simpa using hlt,fun i hi=>?_,fun i hi=>by rw [World.frozen?_setCell];exact hc.2 i hi⟩
  rw [←hc.1 i hi]
  exact World.cell?_setCell_other _ _ _ _ (by intro h;cases h;exact hne rfl)
set_option maxHeartbeats 2000000 in
theorem toIntsO_any (a:Option Addr)(len cap:Nat)(f:Nat→Int)(hl:len≤1048576)(w:World)(hi:Ints a len f w) :
    Calls Tryz.prog 37 #[.slice a len cap] w fun e w'=>e=.returned (.slice (some ⟨w.heap.size,0,none⟩) len len)∧OwnIv (some ⟨w.heap.size,0,none⟩) len f w'∧w.heap.size<w'.heap.size∧Below w.heap.size w w':=by
  have hmk:=run_make_row' (P:=Tryz.prog) 25 2 (.int .i64 0) 8 Tryz.underlying25 infoI64 rfl .i64 .i64 len (by omega) (by omega) w
  have hH0:Hid (IHolds (w.alloc (.cells (madeCells #[.int .i64 0] len) 2)) w.heap.size (fun _=>0) len):=made_holds w len _
  have hB0:Hid (Below w.heap.size w (w.alloc (.cells (madeCells #[.int .i64 0] len) 2))):=(Below.refl _ _).alloc (Nat.le_refl _) _
  have hZ0:Hid (w.heap.size<(w.alloc (.cells (madeCells #[.int .i64 0] len) 2)).heap.size):=(by show _<_;simp)
  generalize w.alloc (.cells (madeCells #[.int .i64 0] len) 2)=w0 at hmk hH0 hB0 hZ0
  have HI:Hid (Ints a len f w):=hi
  clear hi
  go_enter Tryz.func37,Tryz.ntmps37
  go_wp2
  go_loopw [4] (fun i wr=>∃ (k:Nat) (g:Nat→Int),k≤len∧i=.int .i64 k∧Hid (IHolds wr w.heap.size g len)∧Hid (∀ j,j<k→g j=f j)∧Hid (Below w.heap.size w wr)∧Hid (w.heap.size<wr.heap.size)) (fun i _=>len-(intOf i).toNat)
  case atStart=>exact ⟨0,fun _=>0,Nat.zero_le _,rfl,hH0,fun j hj=>absurd hj (by omega),hB0,hZ0⟩
  case round =>
    obtain ⟨k,g,hk,rfl,hH,hg,hB,hZ⟩:=hrel
    by_cases hlt:k<len
    · obtain ⟨b, off, rfl, hb, hc⟩ := HI.out (by omega)
      have g0:wr.cell? ⟨b,off+k,none⟩=some (.int .i64 (f k)):=(hB.out.cell (p:=⟨b,off+k,none⟩) hb).trans (hc k hlt)
      have g1:=hH.out.1 k hlt
      have g2:=hH.out.2 k hlt
      have hH2:Hid (IHolds (wr.setCell ⟨w.heap.size,k,none⟩ (.int .i64 (f k))) w.heap.size (fun j=>if j=k then f k else g j) len):=hH.out.set k hlt (f k)
      have hg2:Hid (∀ j,j<k+1→(fun j=>if j=k then f k else g j) j=f j):=(fun j hj=>by
        show (if j=k then f k else g j)=f j
        by_cases e:j=k
        · rw [if_pos e,e]
        · rw [if_neg e];exact hg.out j (by omega))
      have hB2:Hid (Below w.heap.size w (wr.setCell ⟨w.heap.size,k,none⟩ (.int .i64 (f k)))):=hB.out.setCell (Nat.le_refl _) _
      have hZ2:Hid (w.heap.size<(wr.setCell ⟨w.heap.size,k,none⟩ (.int .i64 (f k))).heap.size):=(by show _<_;simp;exact hZ.out)
      clear hc hH hg hB hmk hH0 hB0 hZ0 HI
      go_wp2
      go_roundw
      case rel=>exact ⟨k+1,_,by omega,by go_num,hH2,hg2,hB2,hZ2⟩
      case measure=>simp [intOf];omega
    · have : k = len := by omega
      subst this
      go_wp2
      go_ret
      refine ⟨rfl,fun _=>⟨w.heap.size,rfl,hZ.out,⟨fun i hi=>?_,hH.out.2⟩⟩,hZ.out,hB.out⟩
      rw [hH.out.1 i hi,hg.out i hi]
set_option maxHeartbeats 4000000 in
theorem toCredO_any (u g:Int)(a:Option Addr)(len cap:Nat)(r:Bool)(f:Nat→Int)(hl:len≤1048576)(w:World)(hi:Ints a len f w) :
    Calls Tryz.prog 12 #[.agg #[.int .i64 u,.int .i64 g,.slice a len cap,.bool r]] w fun e w'=>∃ B,e=.returned (.agg #[.int .i64 u,.int .i64 g,.slice (some ⟨B,0,none⟩) len len,.bool r])∧OwnIv (some ⟨B,0,none⟩) len f w'∧w.heap.size≤B∧B<w'.heap.size∧Below w.heap.size w w':=by
  have hc:Hid (∀ w',Below w.heap.size w w'→Calls Tryz.prog 37 #[.slice a len cap] w' fun e w''=>e=.returned (.slice (some ⟨w'.heap.size,0,none⟩) len len)∧OwnIv (some ⟨w'.heap.size,0,none⟩) len f w''∧w'.heap.size<w''.heap.size∧Below w'.heap.size w' w''):=(fun w' hb=>toIntsO_any a len cap f hl w' (hi.below hb))
  clear hi
  go_enter Tryz.func12,Tryz.ntmps12
  go_wp2_with (go_at_call 37;refine (hc.out _ (bl3 _ _ _ _)).mono ?_;rintro e w1 ⟨rfl,hI,hz,hb⟩;obtain ⟨hcl,hfz⟩:=bl_cellC hb;simp at hcl hfz hz)
  have e3:(((w.alloc (Obj.cells #[Value.int IntKind.i64 u,Value.int IntKind.i64 g,Value.slice a len cap,Value.bool r] 27)).alloc (Obj.cells #[Value.int IntKind.i64 0,Value.int IntKind.i64 0,Value.slice none 0 0,Value.bool false] 37)).alloc (Obj.cells #[Value.int IntKind.i64 u,Value.int IntKind.i64 g,Value.slice none 0 0,Value.bool false] 37)).heap.size=w.heap.size+1+1+1:=bl3_size
  have hI2:OwnIv (some ⟨w.heap.size+1+1+1,0,none⟩) len f w1:=by rw [e3] at hI;exact hI
  have hb2:Below w.heap.size w w1:=(bl3 _ _ _ _).trans (hb.mono (by rw [e3];omega))
  refine bodyPost_ret (v:=.agg #[.int .i64 u,.int .i64 g,.slice (some ⟨w.heap.size+1+1+1,0,none⟩) len len,.bool r]) (by simp [results,Tryz.results12,go_sem,hcl]) rfl ⟨_,rfl,?_,by omega,?_,?_⟩
  · exact ownIv_set (ownIv_set (ownIv_set (ownIv_set (ownIv_set (ownIv_set hI2 (by omega)) (by omega)) (by omega)) (by omega)) (by omega)) (by omega)
  · have hz9 : w.heap.size + 1 + 1 + 1 < w1.heap.size := by omega
    simpa using hz9
  · exact bl_setC (bl_setC (bl_setC (bl_setC (bl_setC (bl_setC hb2 (by omega)) (by omega)) (by omega)) (by omega)) (by omega)) (by omega)
end Go.Proofs.YtabfdidnjibdeaaGreatDoor
