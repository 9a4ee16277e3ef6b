/- Laid together: TreeTo, CpM, CpW. -/
import Derived.Test.YtabfdidnjibdeaaGreatDoorBT2
import Derived.Test.YtabfdidnjibdeaaGreatDoorBT3
import Derived.Deep.OwnRows
import Derived.Deep.QuietTactic
import Derived.BigQuiet
import Derived.Handy
import Derived.Test.YtabfdidnjibdeaaGreatDoorBT10
import Derived.Test.YtabfdidnjibdeaaGreatDoorBT29
/- laws.toEntry, toEntryS: a copy of a list of entries. -/
namespace Go.Proofs.YtabfdidnjibdeaaGreatDoor
open Go.RowKit Go.PlainAid
set_option linter.unusedVariables false
theorem bl3T (w:World) (o1 o2 o3:Obj):Below w.heap.size w (((w.alloc o1).alloc o2).alloc o3):=(((Below.refl _ _).alloc (Nat.le_refl _) _).alloc (by simp) _).alloc (by simp; omega) _
theorem bl_cellT {W w1:World} (hb:Below W.heap.size W w1):(∀ b o,b < W.heap.size→w1.cell? ⟨b,o,none⟩=W.cell? ⟨b,o,none⟩)∧(∀ b o,b < W.heap.size→w1.frozen? ⟨b,o,none⟩=W.frozen? ⟨b,o,none⟩) :=
  ⟨fun b o h => hb.cell (p:=⟨b,o,none⟩) h,fun b o h => hb.frozen (p:=⟨b,o,none⟩) h⟩
/-- What a world holds of a row of pairs that may be written. -/
def EHold (w:World) (B:Nat) (F:Nat→ByteArray) (G:Nat→Int) (n:Nat):Prop:=∀ i,i < n→(w.cell? ⟨B,i * 2,none⟩=some (.string (F i))∧w.cell? ⟨B,i * 2 + 1,none⟩=some (.int .i64 (G i)))∧w.frozen? ⟨B,i * 2,none⟩=false∧w.frozen? ⟨B,i * 2 + 1,none⟩=false
theorem EHold.below {w w':World} {B:Nat} {F:Nat→ByteArray} {G:Nat→Int} {n:Nat} (h:EHold w B F G n) (hlt:B < w.heap.size) (hb:Below w.heap.size w w'):EHold w' B F G n:=fun i hi =>
  ⟨⟨(hb.cell (p:=⟨B,i * 2,none⟩) hlt).trans (h i hi).1.1,(hb.cell (p:=⟨B,i * 2 + 1,none⟩) hlt).trans (h i hi).1.2⟩,(hb.frozen (p:=⟨B,i * 2,none⟩) hlt).trans (h i hi).2.1,(hb.frozen (p:=⟨B,i * 2 + 1,none⟩) hlt).trans (h i hi).2.2⟩
theorem EHold.set0 {w:World} {B:Nat} {F:Nat→ByteArray} {G:Nat→Int} {n:Nat} (h:EHold w B F G n) (k:Nat) (hk:k < n) (v:ByteArray):EHold (w.setCell ⟨B,k * 2,none⟩ (.string v)) B (fun i => if i=k then v else F i) G n:=by
  intro i hi
  have h1:=h i hi
  rw [World.frozen?_setCell,World.frozen?_setCell]
  refine ⟨⟨?_,?_⟩,h1.2⟩
  · by_cases e : i = k
    · subst e
      simp only [if_pos]
      simp [go_sem,h1.1.1]
    · simp only [if_neg e]
      rw [← h1.1.1]
      exact World.cell?_setCell_other _ _ _ _ (by intro h; have h2:=congrArg Addr.off h; simp only at h2; omega)
  · rw [← h1.1.2]
    exact World.cell?_setCell_other _ _ _ _ (by intro h; have h2:=congrArg Addr.off h; simp only at h2; omega)
theorem EHold.set1 {w:World} {B:Nat} {F:Nat→ByteArray} {G:Nat→Int} {n:Nat} (h:EHold w B F G n) (k:Nat) (hk:k < n) (v:Int):EHold (w.setCell ⟨B,k * 2 + 1,none⟩ (.int .i64 v)) B F (fun i => if i=k then v else G i) n:=by
  intro i hi
  have h1:=h i hi
  rw [World.frozen?_setCell,World.frozen?_setCell]
  refine ⟨⟨?_,?_⟩,h1.2⟩
  · rw [← h1.1.1]
    exact World.cell?_setCell_other _ _ _ _ (by intro h; have h2:=congrArg Addr.off h; simp only at h2; omega)
  · by_cases e : i = k
    · subst e
      simp only [if_pos]
      simp [go_sem,h1.1.2]
    · simp only [if_neg e]
      rw [← h1.1.2]
      exact World.cell?_setCell_other _ _ _ _ (by intro h; have h2:=congrArg Addr.off h; simp only at h2; omega)
/-- A list of pairs in memory of its own, that may be written. -/
def OwnE (a:Option Addr) (len:Nat) (l:List (ByteArray × Int)) (w:World):Prop :=
  l.length=len∧(0 < len→∃ B,a=some ⟨B,0,none⟩∧B < w.heap.size∧EHold w B (nmAt l) (noAt l) len)
theorem OwnE.ens {a:Option Addr} {len:Nat} {l:List (ByteArray × Int)} {w:World} (h:OwnE a len l w):Ens a len l w:=by
  refine ⟨h.1,fun h0 => ?_⟩
  obtain ⟨B,ha,hlt,hp⟩:=h.2 h0
  exact ⟨B,0,ha,hlt,fun i hi => by simpa using (hp i hi).1⟩
theorem OwnE.below {a:Option Addr} {len:Nat} {l:List (ByteArray × Int)} {w w':World} (h:OwnE a len l w) (hb:Below w.heap.size w w'):OwnE a len l w':=by
  refine ⟨h.1,fun h0 => ?_⟩
  obtain ⟨B,ha,hlt,hp⟩:=h.2 h0
  exact ⟨B,ha,Nat.lt_of_lt_of_le hlt hb.size,hp.below hlt hb⟩
theorem made_ents (w:World) (n:Nat) (t:TypeId):EHold (w.alloc (.cells (madeCells #[.string ⟨#[]⟩,.int .i64 0] (n * 2)) t)) w.heap.size (fun _ => ⟨#[]⟩) (fun _ => 0) n:=by
  have hb:(w.alloc (.cells (madeCells #[.string ⟨#[]⟩,.int .i64 0] (n * 2)) t)).heap[w.heap.size]?=some (.cells (madeCells #[.string ⟨#[]⟩,.int .i64 0] (n * 2)) t):=by
    rw [World.alloc]
    exact Array.getElem?_push_size
  intro i hi
  refine ⟨⟨?_,?_⟩,?_,?_⟩
  · simp only [World.cell?, hb]
    simp [madeCells,show i * 2 < n * 2 from by omega,show i * 2 % 2=0 from by omega]
  · simp only [World.cell?, hb]
    simp [madeCells,show i * 2 + 1 < n * 2 from by omega,show (i * 2 + 1) % 2=1 from by omega]
  · simp only [World.frozen?, hb]
    simp
  · simp only [World.frozen?, hb]
    simp
theorem run_make_ents {P:Program} (t e:TypeId) (ht:P.underlying t=some (.slice e)) (hinfo:(P.info? e).map (fun i => (i.zero,i.size,i.bytes))=some (some (.agg #[.string ⟨#[]⟩,.int .i64 0]),2,24))
    (kl kc:IntKind) (n:Nat) (hbytes:24 * n≤281474976710656) (w:World) :
    (Instr.makeSlice t (.int kl (n:Int)) (.int kc (n:Int))).run P w=.ok (.slice (some ⟨w.heap.size,0,none⟩) n n) (w.alloc (.cells (madeCells #[.string ⟨#[]⟩,.int .i64 0] (n * 2)) e)):=by
  obtain ⟨i,hi,hzz⟩:=Option.map_eq_some_iff.1 hinfo
  simp only [Prod.mk.injEq] at hzz
  obtain ⟨hz,hs,hb⟩:=hzz
  have hb':(i.bytes:Int) * (n:Int)≤281474976710656:=by
    have h:((24 * n:Nat):Int)≤281474976710656:=by omega
    rw [hb]
    rwa [Int.natCast_mul] at h
  have hr:=run_make (P:=P) w t e i _ ht hi hz kl kc n n (by omega) (Int.le_refl _) hb' (by omega)
  simp only [Int.toNat_natCast,hs] at hr
  exact hr
set_option maxHeartbeats 1000000 in
theorem toEntry_any (x:ByteArray) (y:Int) (w:World) :
    Calls Tryz.prog 162 #[.agg #[.string x,.int .i64 y]] w fun e w' => e=.returned (.agg #[.string x,.int .i64 y])∧Below w.heap.size w w':=by
  go_enter Tryz.func162,Tryz.ntmps162
  go_wp2
  exact bodyPost_ret (v:=.agg #[.string x,.int .i64 y]) (by simp [results,Tryz.results162,go_sem]) rfl ⟨rfl,bl3T _ _ _ _⟩
theorem infoEntry:(Tryz.prog.info? 105).map (fun i => (i.zero,i.size,i.bytes))=some (some (.agg #[.string ⟨#[]⟩,.int .i64 0]),2,24):=by kernel_rfl
set_option maxHeartbeats 2000000 in
/-- laws.toEntryS. -/
theorem toEntryS_any (a:Option Addr) (len cap:Nat) (l:List (ByteArray × Int)) (hl:len≤1048576) (w:World) (hi:Ens a len l w) :
    Calls Tryz.prog 115 #[.slice a len cap] w fun e w' => e=.returned (.slice (some ⟨w.heap.size,0,none⟩) len len)∧OwnE (some ⟨w.heap.size,0,none⟩) len l w'∧w.heap.size < w'.heap.size∧Below w.heap.size w w':=by
  have hmk:=run_make_ents (P:=Tryz.prog) 82 105 Tryz.underlying82 infoEntry .i64 .i64 len (by omega) w
  have hH0:Hid (EHold (w.alloc (.cells (madeCells #[.string ⟨#[]⟩,.int .i64 0] (len * 2)) 105)) w.heap.size (fun _ => ⟨#[]⟩) (fun _ => 0) len):=made_ents w len _
  have hB0:Hid (Below w.heap.size w (w.alloc (.cells (madeCells #[.string ⟨#[]⟩,.int .i64 0] (len * 2)) 105))):=(Below.refl _ _).alloc (Nat.le_refl _) _
  have hZ0:Hid (w.heap.size < (w.alloc (.cells (madeCells #[.string ⟨#[]⟩,.int .i64 0] (len * 2)) 105)).heap.size):=(by show _ < _; simp)
  generalize w.alloc (.cells (madeCells #[.string ⟨#[]⟩,.int .i64 0] (len * 2)) 105)=w0 at hmk hH0 hB0 hZ0
  have HI:Hid (Ens a len l w):=hi
  clear hi
  go_enter Tryz.func115,Tryz.ntmps115
  go_wp2
  go_loopw [4] (fun i wr => ∃ (k:Nat) (F:Nat→ByteArray) (G:Nat→Int),k≤len∧i=.int .i64 k∧Hid (EHold wr w.heap.size F G len)∧Hid (∀ j,j < k→F j=nmAt l j∧G j=noAt l j)∧Hid (Below w.heap.size w wr)∧Hid (w.heap.size < wr.heap.size)) (fun i _ => len - (intOf i).toNat)
  case atStart => exact ⟨0,fun _ => ⟨#[]⟩,fun _ => 0,Nat.zero_le _,rfl,hH0,fun j hj => absurd hj (by omega),hB0,hZ0⟩
  case round =>
    obtain ⟨k,F,G,hk,rfl,hH,hg,hB,hZ⟩:=hrel
    by_cases hlt:k < len
    · obtain ⟨b, off, rfl, hb, hc⟩ := HI.out.2 (by omega)
      have hlt':(k:Int) < (len:Int):=by omega
      have g0:wr.cell? ⟨b,off + k * 2,none⟩=some (.string (nmAt l k)):=(hB.out.cell (p:=⟨b,off + k * 2,none⟩) hb).trans (hc k hlt).1
      have g1:wr.cell? ⟨b,off + k * 2 + 1,none⟩=some (.int .i64 (noAt l k)):=(hB.out.cell (p:=⟨b,off + k * 2 + 1,none⟩) hb).trans (hc k hlt).2
      clear hc hmk hH0 hB0 hZ0 HI
      go_wp2_with fail
      refine (toEntry_any _ _ _).mono ?_
      rintro e w1 ⟨rfl,hb1⟩
      have hH1:=hH.out.below hZ.out hb1
      have q:=hH1 k hlt
      have g2:=q.1.1
      have g3:=q.1.2
      have g4:=q.2.1
      have g5:=q.2.2
      have hB1:Below w.heap.size w w1:=hB.out.trans (hb1.mono hB.out.size)
      have hZ1:w.heap.size < w1.heap.size:=Nat.lt_of_lt_of_le hZ.out hb1.size
      have hH2:Hid (EHold ((w1.setCell ⟨w.heap.size,k * 2,none⟩ (.string (nmAt l k))).setCell ⟨w.heap.size,k * 2 + 1,none⟩ (.int .i64 (noAt l k))) w.heap.size (fun i => if i=k then nmAt l k else F i) (fun i => if i=k then noAt l k else G i) len):=(hH1.set0 k hlt _).set1 k hlt _
      have hg2:Hid (∀ j,j < k + 1→(fun i => if i=k then nmAt l k else F i) j=nmAt l j∧(fun i => if i=k then noAt l k else G i) j=noAt l j):=(fun j hj => by
        show (if j=k then nmAt l k else F j)=nmAt l j∧(if j=k then noAt l k else G j)=noAt l j
        by_cases e:j=k
        · rw [if_pos e,if_pos e,e]; exact ⟨rfl,rfl⟩
        · rw [if_neg e,if_neg e]; exact hg.out j (by omega))
      have hB2:Hid (Below w.heap.size w ((w1.setCell ⟨w.heap.size,k * 2,none⟩ (.string (nmAt l k))).setCell ⟨w.heap.size,k * 2 + 1,none⟩ (.int .i64 (noAt l k)))):=bl_setT (bl_setT hB1 (Nat.le_refl _)) (Nat.le_refl _)
      have hZ2:Hid (w.heap.size < ((w1.setCell ⟨w.heap.size,k * 2,none⟩ (.string (nmAt l k))).setCell ⟨w.heap.size,k * 2 + 1,none⟩ (.int .i64 (noAt l k))).heap.size):=(by show _ < _; simp; exact hZ1)
      clear q hH hg hB hH1 hb1 g0 g1 hB1
      go_wp2
      go_roundw
      case rel => exact ⟨k + 1,_,_,by omega,by go_num,hH2,hg2,hB2,hZ2⟩
      case measure => simp [intOf]; omega
    · have : k = len := by omega
      subst this
      go_wp2
      go_ret
      refine ⟨rfl,⟨HI.out.1,fun _ => ⟨w.heap.size,rfl,hZ.out,fun i hi => ?_⟩⟩,hZ.out,hB.out⟩
      have h1:=hH.out i hi
      rw [(hg.out i hi).1,(hg.out i hi).2] at h1
      exact h1
end Go.Proofs.YtabfdidnjibdeaaGreatDoor
/- Rows of nodes, and of entries, that grow by append. -/
namespace Go.Proofs.YtabfdidnjibdeaaGreatDoor
open Go.RowKit Go.PlainAid Go.Deep
set_option linter.unusedVariables false
/-- append of a list onto an empty one that has just been made. -/
theorem append_copyB (w:World) (X:Nat) (hX:X=w.heap.size) (a:Option Addr) (len cap:Nat) (l:List (Int × Int)) (hp:Prs a len l w) (hN:len≤2000000) :
    ∃ a' c' w',(Builtin.append_ #[79,79] 79 #[.slice (some ⟨X,0,none⟩) 0 0,.slice a len cap]).run Tryz.prog (w.alloc (.cells #[] 180))=.ok (.slice a' len c') w'∧len≤c'∧Own a' len l w'∧(∀ A,a'=some A→X≤A.block∧A.block < w'.heap.size)∧Below w.heap.size w w':=by
  have ho:=own_start2 w X hX 180
  have hb:=bel_alloc w (.cells #[] 180)
  obtain ⟨v',w',hr,hO,hg⟩:=run_append_prs (P:=Tryz.prog) (w.alloc (.cells #[] 180)) X 79 79 180 Tryz.underlying79 infoNamedC _ [] ho a len cap l (hp.below hb) (by simp; omega) (by simp; omega)
  rw [List.nil_append] at hO
  obtain ⟨a',c',rfl,h1,h2⟩:=own_of_row hO
  have hcp:=own_cap hO
  have e:=hp.1
  rw [e] at h1 hr hcp
  refine ⟨a',c',w',hr,hcp,h1,h2,?_⟩
  subst hX
  exact hb.grown hg (by simp) (own_blockN ho)
set_option maxRecDepth 100000 in
set_option maxHeartbeats 4000000 in
/-- spec.l03Copy, with what is known of the room. -/
theorem sCopy_capB (u g o:Int) (au:Option Addr) (lu cu:Nat) (ag:Option Addr) (lg cg:Nat) (r:Bool) (m:Int) (us gs:List (Int × Int)) (w:World) (hu:Prs au lu us w) (hg:Prs ag lg gs w) (hl1:lu≤2000000) (hl2:lg≤2000000) :
    Calls Tryz.prog 180 #[.agg #[.int .i64 u,.int .i64 g,.int .i64 o,.slice au lu cu,.slice ag lg cg,.bool r,.int .i64 m]] w fun e w' => ∃ a1 c1 a2 c2,e=.returned (.agg #[.int .i64 u,.int .i64 g,.int .i64 o,.slice a1 lu c1,.slice a2 lg c2,.bool r,.int .i64 m])∧New w w' a1 lu us a2 lg gs∧lu≤c1∧lg≤c2:=by
  have HG:Hid (Prs ag lg gs w):=hg
  have hb0:=bl2N w (.cells #[.int .i64 u,.int .i64 g,.int .i64 o,.slice au lu cu,.slice ag lg cg,.bool r,.int .i64 m] 81) (.cells #[.int .i64 0,.int .i64 0,.int .i64 0,.slice none 0 0,.slice none 0 0,.bool false,.int .i64 0] 81)
  obtain ⟨a1,c1,w1,hr1,hcp1,hO1,hin1,hb1⟩:=append_copyB ((w.alloc (.cells #[.int .i64 u,.int .i64 g,.int .i64 o,.slice au lu cu,.slice ag lg cg,.bool r,.int .i64 m] 81)).alloc (.cells #[.int .i64 0,.int .i64 0,.int .i64 0,.slice none 0 0,.slice none 0 0,.bool false,.int .i64 0] 81)) (w.heap.size + 1 + 1) (by simp) au lu cu us (hu.below hb0) hl1
  have hbW:Hid (Below w.heap.size w w1):=hb0.trans (hb1.mono (by simp; omega))
  obtain ⟨hcl,hfz⟩:=bl_cellN hb1
  have hX:=((box7_new w (.int .i64 u) (.int .i64 g) (.int .i64 o) (.slice au lu cu) (.slice ag lg cg) (.bool r) (.int .i64 m) 81).below (bel_alloc _ (.cells #[.int .i64 0,.int .i64 0,.int .i64 0,.slice none 0 0,.slice none 0 0,.bool false,.int .i64 0] 81))).below hb1
  have hY:=(box7_new (w.alloc (.cells #[.int .i64 u,.int .i64 g,.int .i64 o,.slice au lu cu,.slice ag lg cg,.bool r,.int .i64 m] 81)) (.int .i64 0) (.int .i64 0) (.int .i64 0) (.slice none 0 0) (.slice none 0 0) (.bool false) (.int .i64 0) 81).below hb1
  have eY:(w.alloc (.cells #[.int .i64 u,.int .i64 g,.int .i64 o,.slice au lu cu,.slice ag lg cg,.bool r,.int .i64 m] 81)).heap.size=w.heap.size + 1:=by simp
  rw [eY] at hY
  have hz1:w.heap.size + 1 + 1≤w1.heap.size:=by have:=hb1.size; simp at this; omega
  clear hb1 eY hb0 hu hg hcl
  simp at hfz
  have hbW2:Below w.heap.size w (w1.setCell ⟨w.heap.size,3,none⟩ (.slice a1 lu c1)):=bl_setN hbW.out (Nat.le_refl _)
  obtain ⟨a2,c2,w2,hr2,hcp2,hO2,hin2,hb2⟩:=append_copyB (w1.setCell ⟨w.heap.size,3,none⟩ (.slice a1 lu c1)) w1.heap.size (by simp) ag lg cg gs (HG.out.below hbW2) hl2
  have eS:(w1.setCell ⟨w.heap.size,3,none⟩ (.slice a1 lu c1)).heap.size=w1.heap.size:=by simp
  have n1:∀ A,a1=some A→w.heap.size + 1 < A.block:=fun A e => by have:=hin1 A e; omega
  have n2:∀ A,a2=some A→w.heap.size + 1 < A.block:=fun A e => by have:=hin2 A e; omega
  have hI2:Own a1 lu us w2:=(hO1.set (fun B e => by have:=n1 _ e; simp only at this; omega)).below hb2
  have hW2:Below w.heap.size w w2:=hbW2.trans (hb2.mono (by rw [eS]; omega))
  have hfz2:∀ b o,b < w.heap.size + 1 + 1→w2.frozen? ⟨b,o,none⟩=(w1.setCell ⟨w.heap.size,3,none⟩ (.slice a1 lu c1)).frozen? ⟨b,o,none⟩:=fun b o h => hb2.frozen (p:=⟨b,o,none⟩) (by rw [eS]; show b < _; omega)
  have HN:Hid (New w w2 a1 lu us a2 lg gs):=⟨hI2,hO2,fun A e => ⟨by have:=n1 A e; omega,by have:=hin1 A e; have h2:=hb2.size; rw [eS] at h2; omega⟩,fun A e => ⟨by have:=n2 A e; omega,(hin2 A e).2⟩,fun A A2 e e2 => by have h1:=hin1 A e; have h2:=hin2 A2 e2; omega,hW2⟩
  have N1:Hid (∀ A,a1=some A→w.heap.size + 1 < A.block):=n1
  have N2:Hid (∀ A,a2=some A→w.heap.size + 1 < A.block):=n2
  have HCP:Hid (lu≤c1∧lg≤c2):=⟨hcp1,hcp2⟩
  clear hcp1 hcp2
  obtain ⟨p0,p1,p2,p3,p4,p5,p6,p7⟩:=hX
  obtain ⟨xl,x0,x1,x2,x3,x4,x5,x6⟩:=(Box7.mk p0 p1 p2 p3 p4 p5 p6 p7).set3.below hb2
  obtain ⟨yl,y0,y1,y2,y3,y4,y5,y6⟩:=(hY.other (by omega)).below hb2
  clear hO1 hO2 hW2 hI2 hz1 hb2 eS hbW n1 n2 hin1 hin2 hY hbW2 HG
  go_enter Tryz.func180,Tryz.ntmps180
  go_wp2_with (at_builtin; first | refine wpList_append_run _ rfl (.tmp 3) (.tmp 5) 79 79 rfl _ _ _ _ rfl rfl hr1 ?_ | refine wpList_append_run _ rfl (.tmp 8) (.tmp 10) 79 79 rfl _ _ _ _ rfl rfl hr2 ?_)
  refine bodyPost_ret (v:=.agg #[.int .i64 u,.int .i64 g,.int .i64 o,.slice a1 lu c1,.slice a2 lg c2,.bool r,.int .i64 m]) (by simp [results,Tryz.results180,go_sem,y0,y1,y2,y3,y4,y5,y6]) rfl ⟨a1,c1,a2,c2,rfl,?_,HCP.out⟩
  iterate 8 (refine New.set ?_ (by omega) (fun A e => by have:=N1.out A e; omega) (fun A e => by have:=N2.out A e; omega))
  exact HN.out
/-- The cells of a list of entries. -/
def pcE:List (ByteArray × Int)→List Value
  | [] => []
  | p :: l => .string p.1 :: .int .i64 p.2 :: pcE l
theorem pcE_length (l:List (ByteArray × Int)):(pcE l).length=l.length * 2:=by
  induction l with
  | nil => rfl
  | cons p l ih => simp only [pcE,List.length_cons,ih]; omega
theorem pcE_one (l:List (ByteArray × Int)):∀ u ∈ pcE l,u.oneCell'=true:=by
  induction l with
  | nil => intro u h; cases h
  | cons p l ih =>
    intro u h
    simp only [pcE,List.mem_cons] at h
    rcases h with rfl | rfl | h
    · rfl
    · rfl
    · exact ih u h
theorem pcE_get (l:List (ByteArray × Int)):∀ i,i < l.length→(pcE l)[i * 2]?=some (.string (nmAt l i))∧(pcE l)[i * 2 + 1]?=some (.int .i64 (noAt l i)):=by
  induction l with
  | nil => intro i hi; simp at hi
  | cons p l ih =>
    intro i hi
    cases i with
    | zero => exact ⟨rfl,rfl⟩
    | succ i =>
      have h:=ih i (by simpa using hi)
      have e1:(i + 1) * 2=i * 2 + 1 + 1:=by omega
      simp only [pcE,e1,List.getElem?_cons_succ]
      exact h
theorem ens_news {b off:Nat} {l:List (ByteArray × Int)} {w:World} (hc:∀ i,i < l.length→w.cell? ⟨b,off + i * 2,none⟩=some (.string (nmAt l i))∧w.cell? ⟨b,off + i * 2 + 1,none⟩=some (.int .i64 (noAt l i))) :
    ∀ j u,(pcE l)[j]?=some u→w.cell? ((⟨b,off,none⟩:Addr).add j)=some u:=by
  intro j u hj
  have hlt:j < l.length * 2:=by
    have:=(List.getElem?_eq_some_iff.1 hj).1
    rwa [pcE_length] at this
  have hi:j / 2 < l.length:=by omega
  obtain ⟨h1,h2⟩:=hc (j / 2) hi
  obtain ⟨g1,g2⟩:=pcE_get l (j / 2) hi
  rw [Addr.add_mid]
  have hc:j=j / 2 * 2∨j=j / 2 * 2 + 1:=by omega
  rcases hc with e | e
  · rw [e] at hj ⊢
    rw [g1] at hj
    cases hj
    have e2:off + j / 2 * 2=off + j / 2 * 2:=rfl
    exact h1
  · rw [e] at hj ⊢
    rw [g2] at hj
    cases hj
    have e2:off + (j / 2 * 2 + 1)=off + j / 2 * 2 + 1:=by omega
    rw [e2]
    exact h2
/-- A row of entries that is owned, as a list. -/
theorem ens_of_row {w:World} {B:Nat} {t:TypeId} {v:Value} {l:List (ByteArray × Int)} (h:w.ownsRow B t 2 v l.length (pcE l)) :
    ∃ a cap,v=.slice a l.length cap∧Ens a l.length l w∧(∀ b f,a=some ⟨b,f,none⟩→B≤b∧b < w.heap.size):=by
  obtain ⟨_,⟨rfl,hn⟩ | ⟨g,cap,cur,rfl,hb,hg,hc,_,hs,ht⟩⟩:=h
  · exact ⟨none,0,by rw [hn],⟨rfl,fun h => absurd h (by omega)⟩,fun b f e => by cases e⟩
  · have hlt : g < w.heap.size := (Array.getElem?_eq_some_iff.1 hg).1
    refine ⟨some ⟨g,0,none⟩,cap,rfl,⟨rfl,fun _ => ⟨g,0,rfl,hlt,fun i hi => ?_⟩⟩,fun b f e => by cases e; exact ⟨hb,hlt⟩⟩
    obtain ⟨g1,g2⟩:=pcE_get l i hi
    rw [← ht,List.getElem?_take_of_lt (by omega)] at g1 g2
    have hcl:∀ o,w.cell? ⟨g,o,none⟩=cur[o]?:=fun o => by simp [World.cell?,hg]
    rw [Nat.zero_add,hcl,hcl]
    exact ⟨by simpa using g1,by simpa using g2⟩
theorem infoEntryC:(Tryz.prog.info? 105).map (fun i => (i.zero,i.size,i.bytes))=some (some (.agg #[.string ⟨#[]⟩,.int .i64 0]),2,24):=by kernel_rfl
theorem rowE_start (w:World) (X:Nat) (hX:X=w.heap.size) (t:TypeId):(w.alloc (.cells #[] t)).ownsRow X t 2 (.slice (some ⟨X,0,none⟩) 0 0) ([]:List (ByteArray × Int)).length (pcE []):=by
  subst hX
  exact World.ownsRow_made w #[] 0 (Nat.le_refl _) (by unfold maxLen; omega) rfl
/-- append of a list of entries onto an empty one that has just been made. -/
theorem append_ents (w:World) (X:Nat) (hX:X=w.heap.size) (a:Option Addr) (len cap:Nat) (l:List (ByteArray × Int)) (hp:Ens a len l w) (hN:len≤2000000) :
    ∃ a' c' w',(Builtin.append_ #[82,82] 82 #[.slice (some ⟨X,0,none⟩) 0 0,.slice a len cap]).run Tryz.prog (w.alloc (.cells #[] 105))=.ok (.slice a' len c') w'∧Ens a' len l w'∧(∀ b f,a'=some ⟨b,f,none⟩→X≤b∧b < w'.heap.size)∧Below w.heap.size w w':=by
  obtain ⟨i,hi,hzz⟩:=Option.map_eq_some_iff.1 infoEntryC
  simp only [Prod.mk.injEq] at hzz
  obtain ⟨hz,hs,hb⟩:=hzz
  have ho:=rowE_start w X hX 105
  have hb0:=bel_alloc w (.cells #[] 105)
  obtain ⟨hln,hp⟩:=hp.below hb0
  subst hln
  by_cases h0:l.length=0
  · have hl : l = [] := List.eq_nil_of_length_eq_zero h0
    subst hl
    have hsrc:Src Tryz.prog i.size 82 (.slice a 0 cap) 0 [] (w.alloc (.cells #[] 105)):=by
      cases a with
      | none => exact Src.ofNil _ Tryz.underlying82 cap
      | some a => exact Src.ofSlice _ Tryz.underlying82 a 0 cap [] (by simp) (fun j u h => by simp at h) (fun u h => by cases h)
    refine ⟨some ⟨X,0,none⟩,0,_,run_append_nothing _ _ _ _ _ i Tryz.underlying82 hi _ 0 0 (Nat.le_refl _) _ hsrc,⟨rfl,fun h => absurd h (by simp)⟩,fun b f e => by cases e; exact ⟨Nat.le_refl _,by subst hX; simp⟩,hb0⟩
  · obtain ⟨b, off, rfl, hlt, hc⟩ := hp (by omega)
    obtain ⟨v',w',hr,h1,h2,_⟩:=run_append_own (P:=Tryz.prog) _ X 82 82 105 i _ 2 24 Tryz.underlying82 hi hz hs hb rfl (by decide) _ 0 (pcE []) ho ⟨b,off,none⟩ l.length cap (pcE l) (pcE_length l) (ens_news hc) (pcE_one l) (by unfold maxLen; omega) (by omega) (by subst hX; simp)
    have h1':w'.ownsRow X 105 2 v' l.length (pcE l):=by
      have e:0 + l.length=l.length:=by omega
      rw [e] at h1
      exact h1
    obtain ⟨a',c',rfl,hE,hF⟩:=ens_of_row h1'
    refine ⟨a',c',w',hr,hE,hF,?_⟩
    subst hX
    exact hb0.grown h2 (by simp) (own_blockU ho)
/-- A list of the node lies in that block. -/
def NaAt (y:Na) (b:Nat):Prop:=∃ f,y.aU=some ⟨b,f,none⟩∨y.aG=some ⟨b,f,none⟩∨y.dU=some ⟨b,f,none⟩∨y.dG=some ⟨b,f,none⟩∨y.nA=some ⟨b,f,none⟩
/-- The cells of a list of nodes. -/
def pcN:List (Nd × Na)→List Value
  | [] => []
  | d :: l => ndV d.1 d.2 ++ pcN l
theorem pcN_append (l k:List (Nd × Na)):pcN (l ++ k)=pcN l ++ pcN k:=by
  induction l with
  | nil => rfl
  | cons p l ih => simp [pcN,ih]
theorem ndV_one (x:Nd) (y:Na):∀ u ∈ ndV x y,u.oneCell'=true:=by simp [ndV]; simp [Value.oneCell']
theorem pcN_get:∀ (l:List (Nd × Na)) (i:Nat) (hi:i < l.length) (j:Nat),j < 24→(pcN l)[i * 24 + j]?=(ndV (l[i]).1 (l[i]).2)[j]?
  | [],i,hi,_,_ => absurd hi (by simp)
  | d :: l,0,hi,j,hj => by
    simp only [pcN,Nat.zero_mul,Nat.zero_add]
    rw [List.getElem?_append_left (by rw [ndV_len]; exact hj)]
    rfl
  | d :: l,i + 1,hi,j,hj => by
    simp only [pcN]
    rw [List.getElem?_append_right (by rw [ndV_len]; omega),ndV_len]
    have e:(i + 1) * 24 + j - 24=i * 24 + j:=by omega
    rw [e,pcN_get l i (by simpa using hi) j hj]
    rfl
/-- A row of nodes that is owned, as a list. -/
theorem nds_of_row {w:World} {B:Nat} {t:TypeId} {v:Value} {l:List (Nd × Na)} (h:w.ownsRow B t 24 v l.length (pcN l)) (hin:∀ p ∈ l,NdIn w p.1 p.2) :
    ∃ a cap,v=.slice a l.length cap∧Nds a l.length (l.map (·.1)) w:=by
  obtain ⟨_,⟨rfl,hn⟩ | ⟨g,cap,cur,rfl,hb,hg,hc,_,hs,ht⟩⟩:=h
  · exact ⟨none,0,by rw [hn],⟨by simp,fun h => absurd h (by omega)⟩⟩
  · have hlt : g < w.heap.size := (Array.getElem?_eq_some_iff.1 hg).1
    refine ⟨some ⟨g,0,none⟩,cap,rfl,⟨by simp,fun _ => ⟨g,0,fun i => (l.getD i (ndZ,naZ)).2,rfl,hlt,fun i hi => ?_⟩⟩⟩
    have e1:ndAt (l.map (·.1)) i=(l[i]).1:=by simp [ndAt,List.getD,hi]
    have e2:(l.getD i (ndZ,naZ)).2=(l[i]).2:=by simp [List.getD,hi]
    simp only [e1,e2]
    refine ⟨fun j u hj => ?_,hin _ (List.getElem_mem hi)⟩
    have hj24:j < 24:=by
      have:=(List.getElem?_eq_some_iff.1 hj).1
      rwa [ndV_len] at this
    rw [← pcN_get l i hi j hj24,← ht,List.getElem?_take_of_lt (by omega)] at hj
    have:w.cell? ⟨g,0 + i * 24 + j,none⟩=cur[i * 24 + j]?:=by rw [Nat.zero_add]; simp [World.cell?,hg]
    rw [this]
    simpa using hj
theorem infoNodeC:(Tryz.prog.info? 84).map (fun i => (i.zero,i.size,i.bytes))=some (some (.agg (ndV ndZ naZ).toArray),24,280):=by kernel_rfl
/-- append of one node onto a row that was owned ahead of its making. -/
theorem run_append_ndK (w:World) (B:Nat) (ty:TypeId) (v:Value) (ds:List (Nd × Na)) (x:Nd) (y:Na) (hown:w.ownsRow B 84 24 v ds.length (pcN ds)) (hsm:ds.length≤2000000) (hB:B≤w.heap.size) :
    ∃ v' w',(Builtin.append_ #[33,33] ty #[v,.slice (some ⟨w.heap.size,0,none⟩) 1 1]).run Tryz.prog (w.alloc (.cells (ndV x y).toArray 84))=.ok v' w'∧w'.ownsRow B 84 24 v' (ds ++ [(x,y)]).length (pcN (ds ++ [(x,y)]))∧Below B w w'∧w.heap.size≤w'.heap.size∧(∀ k,k < w.heap.size→v.ownBlock ≠ some k→w'.heap[k]?=w.heap[k]?)∧(∀ k,v'.ownBlock=some k→v.ownBlock=some k∨w.heap.size≤k):=by
  obtain ⟨i,hi,hzz⟩:=Option.map_eq_some_iff.1 infoNodeC
  simp only [Prod.mk.injEq] at hzz
  obtain ⟨hz,hs,hb⟩:=hzz
  have hb1:Below w.heap.size w (w.alloc (.cells (ndV x y).toArray 84)):=bel_alloc _ _
  have hown1:=rowU_below hown hb1
  have hB1:B≤(w.alloc (.cells (ndV x y).toArray 84)).heap.size:=Nat.le_trans hB hb1.size
  have hnew:=(boxR_new w (ndV x y) 84).at0
  obtain ⟨v',w',hr,h1,h2,_⟩:=run_append_own (P:=Tryz.prog) _ B 33 ty 84 i _ 24 280 Tryz.underlying33 hi hz hs hb rfl (by decide) v ds.length (pcN ds) hown1 ⟨w.heap.size,0,none⟩ 1 1 (ndV x y) rfl (fun j u hj => by rw [Addr.add_mid]; exact hnew j u hj) (ndV_one x y) (by unfold maxLen; omega) (by omega) hB1
  refine ⟨v',w',hr,?_,(hb1.mono hB).grown h2 hB1 (own_blockU hown1),Nat.le_trans hb1.size h2.size,fun k hk hne => (h2.block k (Nat.lt_of_lt_of_le hk hb1.size) (Ne.symm hne)).trans (hb1.block k hk),?_⟩
  · rw [pcN_append, List.length_append]
    have e:pcN [(x,y)]=ndV x y:=by simp [pcN]
    rw [e]
    exact h1
  · have hnw : ∀ j u, (ndV x y)[j]? = some u → (w.alloc (.cells (ndV x y).toArray 84)).cell? ((⟨w.heap.size, 0, none⟩ : Addr).add j) = some u := fun j u hj => by rw [Addr.add_mid]; exact hnew j u hj
    have hone:=ndV_one x y
    have hbase:w.heap.size≤(w.alloc (.cells (ndV x y).toArray 84)).heap.size:=hb1.size
    clear hnew h1 h2 hb1
    generalize w.alloc (.cells (ndV x y).toArray 84)=W at *
    have hl1:(ndV x y).length=1 * i.size:=by rw [hs]; rfl
    have hbn:∀ n:Nat,n≤5000000→n * i.bytes≤140737488355328:=fun n hn => by rw [hb]; omega
    rcases hown1.2 with ⟨rfl,hn⟩ | ⟨g,cap,cur,rfl,hbg,hg,hnc,hcm,hcs,htake⟩
    · have hr2 := run_append_nil (P := Tryz.prog) W 33 ty 84 i _ Tryz.underlying33 hi hz ⟨w.heap.size, 0, none⟩ 1 1 (ndV x y) hl1 hnw (by omega) (by omega) (by rw [hb]; omega)
      rw [hr2] at hr
      cases hr
      intro k hk
      simp [Value.ownBlock] at hk
      exact .inr (by omega)
    · by_cases hroom : ds.length + 1 ≤ cap
      · have hr2 := run_append_room (P := Tryz.prog) W 33 ty 84 i Tryz.underlying33 hi g ds.length cap cur hg ⟨w.heap.size, 0, none⟩ 1 1 (ndV x y) hl1 hnw hone hroom (by rw [hs, ndV_len, hcs]; show ds.length * 24 + 24 ≤ cap * 24; omega)
        rw [hr2] at hr
        cases hr
        intro k hk
        exact .inl hk
      · have hr2 := run_append_grow (P := Tryz.prog) W 33 ty 84 i _ Tryz.underlying33 hi hz ⟨g, 0, none⟩ ds.length cap (pcN ds) (by rw [hs]; exact hown1.1) (hown1.cells (g := g) rfl) ⟨w.heap.size, 0, none⟩ 1 1 (ndV x y) hl1 hnw (by omega) (by omega) (growslice_fits (by omega) (hbn _ (by omega)))
        rw [hr2] at hr
        cases hr
        intro k hk
        simp [Value.ownBlock] at hk
        exact .inr (by omega)
end Go.Proofs.YtabfdidnjibdeaaGreatDoor
/- spec.l08CopyNode, spec.l08Copy. -/
namespace Go.Proofs.YtabfdidnjibdeaaGreatDoor
open Go.RowKit Go.PlainAid Go.Deep
set_option linter.unusedVariables false
set_option maxRecDepth 20000 in
set_option maxHeartbeats 8000000 in
theorem sCopyNodeL_any (x:Nd) (y:Na) (hf:NdFit 1048576 x) (w:World) (hi:NdIn w x y) :
    Calls Tryz.prog 140 #[.agg (ndV x y).toArray] w fun e w' => ∃ y':Na,e=.returned (.agg (ndV x y').toArray)∧NdIn w' x y'∧NaFrom w.heap.size y'∧Below w.heap.size w w'∧∀ b,NaAt y' b→b < w'.heap.size:=by
  have HF:Hid (NdFit 1048576 x):=hf
  have HI:Hid (NdIn w x y):=hi
  clear hf hi
  have HX:Hid (BoxW ((w.alloc (.cells (ndV x y).toArray 84)).alloc (.cells #[.int .i64 0,.int .i64 0,.int .i64 0,.int .i64 0,.int .i64 0,.int .i64 0,.int .i64 0,.slice none 0 0,.slice none 0 0,.bool false,.int .i64 0,.bool false,.int .i64 0,.int .i64 0,.int .i64 0,.slice none 0 0,.slice none 0 0,.bool false,.int .i64 0,.int .i64 0,.int .i64 0,.string ⟨#[]⟩,.slice none 0 0,.int .i64 0] 84)) w.heap.size (ndV x y)):=(boxW_new w (ndV x y) 84).below (bel_alloc _ _)
  have HZ:Hid (BoxW ((w.alloc (.cells (ndV x y).toArray 84)).alloc (.cells #[.int .i64 0,.int .i64 0,.int .i64 0,.int .i64 0,.int .i64 0,.int .i64 0,.int .i64 0,.slice none 0 0,.slice none 0 0,.bool false,.int .i64 0,.bool false,.int .i64 0,.int .i64 0,.int .i64 0,.slice none 0 0,.slice none 0 0,.bool false,.int .i64 0,.int .i64 0,.int .i64 0,.string ⟨#[]⟩,.slice none 0 0,.int .i64 0] 84)) (w.heap.size + 1) [.int .i64 0,.int .i64 0,.int .i64 0,.int .i64 0,.int .i64 0,.int .i64 0,.int .i64 0,.slice none 0 0,.slice none 0 0,.bool false,.int .i64 0,.bool false,.int .i64 0,.int .i64 0,.int .i64 0,.slice none 0 0,.slice none 0 0,.bool false,.int .i64 0,.int .i64 0,.int .i64 0,.string ⟨#[]⟩,.slice none 0 0,.int .i64 0]):=(by
    have h:=boxW_new (w.alloc (.cells (ndV x y).toArray 84)) [.int .i64 0,.int .i64 0,.int .i64 0,.int .i64 0,.int .i64 0,.int .i64 0,.int .i64 0,.slice none 0 0,.slice none 0 0,.bool false,.int .i64 0,.bool false,.int .i64 0,.int .i64 0,.int .i64 0,.slice none 0 0,.slice none 0 0,.bool false,.int .i64 0,.int .i64 0,.int .i64 0,.string ⟨#[]⟩,.slice none 0 0,.int .i64 0] 84
    simp only [World.size_alloc] at h
    exact h)
  have HB:Hid (Below w.heap.size w ((w.alloc (.cells (ndV x y).toArray 84)).alloc (.cells #[.int .i64 0,.int .i64 0,.int .i64 0,.int .i64 0,.int .i64 0,.int .i64 0,.int .i64 0,.slice none 0 0,.slice none 0 0,.bool false,.int .i64 0,.bool false,.int .i64 0,.int .i64 0,.int .i64 0,.slice none 0 0,.slice none 0 0,.bool false,.int .i64 0,.int .i64 0,.int .i64 0,.string ⟨#[]⟩,.slice none 0 0,.int .i64 0] 84))):=bl2T _ _ _
  go_enter Tryz.func140,Tryz.ntmps140
  go_upto_region 1 with fail
  generalize ((w.alloc (.cells (ndV x y).toArray 84)).alloc (.cells #[.int .i64 0,.int .i64 0,.int .i64 0,.int .i64 0,.int .i64 0,.int .i64 0,.int .i64 0,.slice none 0 0,.slice none 0 0,.bool false,.int .i64 0,.bool false,.int .i64 0,.int .i64 0,.int .i64 0,.slice none 0 0,.slice none 0 0,.bool false,.int .i64 0,.int .i64 0,.int .i64 0,.string ⟨#[]⟩,.slice none 0 0,.int .i64 0] 84))=w0 at HX HZ HB ⊢
  obtain ⟨X,hX⟩:∃ X,X=w.heap.size:=⟨_,rfl⟩
  have HXw:Hid (X=w.heap.size):=hX
  rw [← hX] at HX HZ ⊢
  clear hX
  have e4:=N24.c4 HX.out.at0
  have e5:=N24.c5 HX.out.at0
  have e6:=N24.c6 HX.out.at0
  have e7:=N24.c7 HX.out.at0
  have e8:=N24.c8 HX.out.at0
  have e9:=N24.c9 HX.out.at0
  have e10:=N24.c10 HX.out.at0
  simp only [Nat.zero_add] at e4 e5 e6 e7 e8 e9 e10
  go_wp2_with fail
  refine (sCopy_capB x.A.u x.A.g x.A.o _ _ _ _ _ _ x.A.r x.A.m x.A.us x.A.gs w0 (HI.out.aU.below HB.out) (HI.out.aG.below HB.out) (by have:=HF.out.au; omega) (by have:=HF.out.ag; omega)).mono ?_
  rintro e w1 ⟨a1,c1,a2,c2,rfl,hN,_,_⟩
  have hb:=hN.bel
  have hz0:=HZ.out.lt
  have Na1:Hid (∀ b f,a1=some ⟨b,f,none⟩→X + 1 < b):=(fun b f e => by have h:=(hN.iu _ e).1; simp only at h; omega)
  have Na2:Hid (∀ b f,a2=some ⟨b,f,none⟩→X + 1 < b):=(fun b f e => by have h:=(hN.ig _ e).1; simp only at h; omega)
  replace HB:Hid (Below w.heap.size w w1):=Below.on HB.out hb
  replace HX:Hid (BoxW w1 X (ndV x y)):=HX.out.below hb
  replace HZ:Hid (BoxW w1 (X + 1) [.int .i64 0,.int .i64 0,.int .i64 0,.int .i64 0,.int .i64 0,.int .i64 0,.int .i64 0,.slice none 0 0,.slice none 0 0,.bool false,.int .i64 0,.bool false,.int .i64 0,.int .i64 0,.int .i64 0,.slice none 0 0,.slice none 0 0,.bool false,.int .i64 0,.int .i64 0,.int .i64 0,.string ⟨#[]⟩,.slice none 0 0,.int .i64 0]):=HZ.out.below hb
  have La1:Hid (∀ b f,a1=some ⟨b,f,none⟩→b < w1.heap.size):=(fun b f e => (hN.iu _ e).2)
  have La2:Hid (∀ b f,a2=some ⟨b,f,none⟩→b < w1.heap.size):=(fun b f e => (hN.ig _ e).2)
  have Ua1:Hid (Prs a1 x.A.us.length x.A.us w1):=hN.ou.prs
  have Ua2:Hid (Prs a2 x.A.gs.length x.A.gs w1):=hN.og.prs
  clear hb hN hz0 e4 e5 e6 e7 e8 e9 e10
  go_upto_region 2 with (refine wpList_store_list (by rfl) 81 _ _ (by rfl) X 4 (alV x.A a1 c1 a2 c2) (by rfl) (by rfl) (HX.out.there 4 7 (by rw [ndV_len]; omega)) (by kernel_rfl) (alV_ones _ _ _ _ _) ?_)
  replace HB:Hid (Below w.heap.size w (w1.setCells X 4 (alV x.A a1 c1 a2 c2))):=bl_setsT (by have:=HXw.out; omega) _ _ HB.out
  replace HX:Hid (BoxW (w1.setCells X 4 (alV x.A a1 c1 a2 c2)) X (ndV x ⟨a1,c1,a2,c2,y.dU,y.eU,y.dG,y.eG,y.nA,y.nC⟩)):=HX.out.sets 4 (alV x.A a1 c1 a2 c2) (by rw [alV_len,ndV_len]; omega)
  replace HZ:Hid (BoxW (w1.setCells X 4 (alV x.A a1 c1 a2 c2)) (X + 1) [.int .i64 0,.int .i64 0,.int .i64 0,.int .i64 0,.int .i64 0,.int .i64 0,.int .i64 0,.slice none 0 0,.slice none 0 0,.bool false,.int .i64 0,.bool false,.int .i64 0,.int .i64 0,.int .i64 0,.slice none 0 0,.slice none 0 0,.bool false,.int .i64 0,.int .i64 0,.int .i64 0,.string ⟨#[]⟩,.slice none 0 0,.int .i64 0]):=HZ.out.others (by omega)
  replace La1:Hid (∀ b f,a1=some ⟨b,f,none⟩→b < (w1.setCells X 4 (alV x.A a1 c1 a2 c2)).heap.size):=(fun b f e => by rw [size_setCellsT]; exact La1.out b f e)
  replace Ua1:Hid (Prs a1 x.A.us.length x.A.us (w1.setCells X 4 (alV x.A a1 c1 a2 c2))):=Ua1.out.sets (fun b f e => by have:=Na1.out b f e; omega) _ _
  replace La2:Hid (∀ b f,a2=some ⟨b,f,none⟩→b < (w1.setCells X 4 (alV x.A a1 c1 a2 c2)).heap.size):=(fun b f e => by rw [size_setCellsT]; exact La2.out b f e)
  replace Ua2:Hid (Prs a2 x.A.gs.length x.A.gs (w1.setCells X 4 (alV x.A a1 c1 a2 c2))):=Ua2.out.sets (fun b f e => by have:=Na2.out b f e; omega) _ _
  generalize (w1.setCells X 4 (alV x.A a1 c1 a2 c2))=w2 at HB HX HZ Ua1 La1 Ua2 La2 ⊢
  clear w1 w0
  have e12:=N24.c12 HX.out.at0
  have e13:=N24.c13 HX.out.at0
  have e14:=N24.c14 HX.out.at0
  have e15:=N24.c15 HX.out.at0
  have e16:=N24.c16 HX.out.at0
  have e17:=N24.c17 HX.out.at0
  have e18:=N24.c18 HX.out.at0
  simp only [Nat.zero_add] at e12 e13 e14 e15 e16 e17 e18
  go_wp2_with fail
  refine (sCopy_capB x.D.u x.D.g x.D.o _ _ _ _ _ _ x.D.r x.D.m x.D.us x.D.gs w2 (HI.out.dU.below HB.out) (HI.out.dG.below HB.out) (by have:=HF.out.du; omega) (by have:=HF.out.dg; omega)).mono ?_
  rintro e w3 ⟨a3,c3,a4,c4,rfl,hN,_,_⟩
  have hb:=hN.bel
  have hz0:=HZ.out.lt
  have Na3:Hid (∀ b f,a3=some ⟨b,f,none⟩→X + 1 < b):=(fun b f e => by have h:=(hN.iu _ e).1; simp only at h; omega)
  have Na4:Hid (∀ b f,a4=some ⟨b,f,none⟩→X + 1 < b):=(fun b f e => by have h:=(hN.ig _ e).1; simp only at h; omega)
  replace HB:Hid (Below w.heap.size w w3):=Below.on HB.out hb
  replace HX:Hid (BoxW w3 X (ndV x ⟨a1,c1,a2,c2,y.dU,y.eU,y.dG,y.eG,y.nA,y.nC⟩)):=HX.out.below hb
  replace HZ:Hid (BoxW w3 (X + 1) [.int .i64 0,.int .i64 0,.int .i64 0,.int .i64 0,.int .i64 0,.int .i64 0,.int .i64 0,.slice none 0 0,.slice none 0 0,.bool false,.int .i64 0,.bool false,.int .i64 0,.int .i64 0,.int .i64 0,.slice none 0 0,.slice none 0 0,.bool false,.int .i64 0,.int .i64 0,.int .i64 0,.string ⟨#[]⟩,.slice none 0 0,.int .i64 0]):=HZ.out.below hb
  replace La1:Hid (∀ b f,a1=some ⟨b,f,none⟩→b < w3.heap.size):=(fun b f e => Nat.lt_of_lt_of_le (La1.out b f e) hb.size)
  replace Ua1:Hid (Prs a1 x.A.us.length x.A.us w3):=Ua1.out.below hb
  replace La2:Hid (∀ b f,a2=some ⟨b,f,none⟩→b < w3.heap.size):=(fun b f e => Nat.lt_of_lt_of_le (La2.out b f e) hb.size)
  replace Ua2:Hid (Prs a2 x.A.gs.length x.A.gs w3):=Ua2.out.below hb
  have La3:Hid (∀ b f,a3=some ⟨b,f,none⟩→b < w3.heap.size):=(fun b f e => (hN.iu _ e).2)
  have La4:Hid (∀ b f,a4=some ⟨b,f,none⟩→b < w3.heap.size):=(fun b f e => (hN.ig _ e).2)
  have Ua3:Hid (Prs a3 x.D.us.length x.D.us w3):=hN.ou.prs
  have Ua4:Hid (Prs a4 x.D.gs.length x.D.gs w3):=hN.og.prs
  clear hb hN hz0 e12 e13 e14 e15 e16 e17 e18
  go_upto_region 3 with (refine wpList_store_list (by rfl) 81 _ _ (by rfl) X 12 (alV x.D a3 c3 a4 c4) (by rfl) (by rfl) (HX.out.there 12 7 (by rw [ndV_len]; omega)) (by kernel_rfl) (alV_ones _ _ _ _ _) ?_)
  replace HB:Hid (Below w.heap.size w (w3.setCells X 12 (alV x.D a3 c3 a4 c4))):=bl_setsT (by have:=HXw.out; omega) _ _ HB.out
  replace HX:Hid (BoxW (w3.setCells X 12 (alV x.D a3 c3 a4 c4)) X (ndV x ⟨a1,c1,a2,c2,a3,c3,a4,c4,y.nA,y.nC⟩)):=HX.out.sets 12 (alV x.D a3 c3 a4 c4) (by rw [alV_len,ndV_len]; omega)
  replace HZ:Hid (BoxW (w3.setCells X 12 (alV x.D a3 c3 a4 c4)) (X + 1) [.int .i64 0,.int .i64 0,.int .i64 0,.int .i64 0,.int .i64 0,.int .i64 0,.int .i64 0,.slice none 0 0,.slice none 0 0,.bool false,.int .i64 0,.bool false,.int .i64 0,.int .i64 0,.int .i64 0,.slice none 0 0,.slice none 0 0,.bool false,.int .i64 0,.int .i64 0,.int .i64 0,.string ⟨#[]⟩,.slice none 0 0,.int .i64 0]):=HZ.out.others (by omega)
  replace La1:Hid (∀ b f,a1=some ⟨b,f,none⟩→b < (w3.setCells X 12 (alV x.D a3 c3 a4 c4)).heap.size):=(fun b f e => by rw [size_setCellsT]; exact La1.out b f e)
  replace Ua1:Hid (Prs a1 x.A.us.length x.A.us (w3.setCells X 12 (alV x.D a3 c3 a4 c4))):=Ua1.out.sets (fun b f e => by have:=Na1.out b f e; omega) _ _
  replace La2:Hid (∀ b f,a2=some ⟨b,f,none⟩→b < (w3.setCells X 12 (alV x.D a3 c3 a4 c4)).heap.size):=(fun b f e => by rw [size_setCellsT]; exact La2.out b f e)
  replace Ua2:Hid (Prs a2 x.A.gs.length x.A.gs (w3.setCells X 12 (alV x.D a3 c3 a4 c4))):=Ua2.out.sets (fun b f e => by have:=Na2.out b f e; omega) _ _
  replace La3:Hid (∀ b f,a3=some ⟨b,f,none⟩→b < (w3.setCells X 12 (alV x.D a3 c3 a4 c4)).heap.size):=(fun b f e => by rw [size_setCellsT]; exact La3.out b f e)
  replace Ua3:Hid (Prs a3 x.D.us.length x.D.us (w3.setCells X 12 (alV x.D a3 c3 a4 c4))):=Ua3.out.sets (fun b f e => by have:=Na3.out b f e; omega) _ _
  replace La4:Hid (∀ b f,a4=some ⟨b,f,none⟩→b < (w3.setCells X 12 (alV x.D a3 c3 a4 c4)).heap.size):=(fun b f e => by rw [size_setCellsT]; exact La4.out b f e)
  replace Ua4:Hid (Prs a4 x.D.gs.length x.D.gs (w3.setCells X 12 (alV x.D a3 c3 a4 c4))):=Ua4.out.sets (fun b f e => by have:=Na4.out b f e; omega) _ _
  generalize (w3.setCells X 12 (alV x.D a3 c3 a4 c4))=w4 at HB HX HZ Ua1 La1 Ua2 La2 Ua3 La3 Ua4 La4 ⊢
  clear w3 w2
  obtain ⟨a5,c5,w5,hr5,hE5,hF5,hb5⟩:=append_ents w4 w4.heap.size rfl y.nA x.ns.length y.nC x.ns (HI.out.nA.below HB.out) (by have:=HF.out.nl; omega)
  have hz0:=HZ.out.lt
  have Na5:Hid (∀ b f,a5=some ⟨b,f,none⟩→X + 1 < b):=(fun b f e => by have h:=(hF5 b f e).1; omega)
  have HR5:Hid _:=hr5
  have e22:(w4.alloc (.cells #[] 105)).cell? ⟨X,22,none⟩=some (.slice y.nA x.ns.length y.nC):=(by have h:=N24.c22 (HX.out.below (bel_alloc w4 (.cells #[] 105))).at0; simpa only [Nat.zero_add] using h)
  replace HB:Hid (Below w.heap.size w w5):=Below.on HB.out hb5
  replace HX:Hid (BoxW w5 X (ndV x ⟨a1,c1,a2,c2,a3,c3,a4,c4,y.nA,y.nC⟩)):=HX.out.below hb5
  replace HZ:Hid (BoxW w5 (X + 1) [.int .i64 0,.int .i64 0,.int .i64 0,.int .i64 0,.int .i64 0,.int .i64 0,.int .i64 0,.slice none 0 0,.slice none 0 0,.bool false,.int .i64 0,.bool false,.int .i64 0,.int .i64 0,.int .i64 0,.slice none 0 0,.slice none 0 0,.bool false,.int .i64 0,.int .i64 0,.int .i64 0,.string ⟨#[]⟩,.slice none 0 0,.int .i64 0]):=HZ.out.below hb5
  replace La1:Hid (∀ b f,a1=some ⟨b,f,none⟩→b < w5.heap.size):=(fun b f e => Nat.lt_of_lt_of_le (La1.out b f e) hb5.size)
  replace Ua1:Hid (Prs a1 x.A.us.length x.A.us w5):=Ua1.out.below hb5
  replace La2:Hid (∀ b f,a2=some ⟨b,f,none⟩→b < w5.heap.size):=(fun b f e => Nat.lt_of_lt_of_le (La2.out b f e) hb5.size)
  replace Ua2:Hid (Prs a2 x.A.gs.length x.A.gs w5):=Ua2.out.below hb5
  replace La3:Hid (∀ b f,a3=some ⟨b,f,none⟩→b < w5.heap.size):=(fun b f e => Nat.lt_of_lt_of_le (La3.out b f e) hb5.size)
  replace Ua3:Hid (Prs a3 x.D.us.length x.D.us w5):=Ua3.out.below hb5
  replace La4:Hid (∀ b f,a4=some ⟨b,f,none⟩→b < w5.heap.size):=(fun b f e => Nat.lt_of_lt_of_le (La4.out b f e) hb5.size)
  replace Ua4:Hid (Prs a4 x.D.gs.length x.D.gs w5):=Ua4.out.below hb5
  have Ua5:Hid (Ens a5 x.ns.length x.ns w5):=hE5
  have La5:Hid (∀ b f,a5=some ⟨b,f,none⟩→b < w5.heap.size):=(fun b f e => (hF5 b f e).2)
  have x22:w5.cell? ⟨X,22,none⟩=some (.slice y.nA x.ns.length y.nC):=(by have h:=N24.c22 HX.out.at0; simpa only [Nat.zero_add] using h)
  have fx:=HX.out.frz
  clear hr5 hE5 hF5 hb5 hz0
  go_upto_region 4 with (at_builtin; refine wpList_append_run _ rfl (.tmp 11) (.tmp 13) 82 82 rfl _ _ _ _ rfl rfl HR5.out ?_)
  replace HB:Hid (Below w.heap.size w (w5.setCell ⟨X,22,none⟩ (.slice a5 x.ns.length c5))):=bl_setT HB.out (by have:=HXw.out; omega)
  replace HX:Hid (BoxW (w5.setCell ⟨X,22,none⟩ (.slice a5 x.ns.length c5)) X (ndV x ⟨a1,c1,a2,c2,a3,c3,a4,c4,a5,c5⟩)):=HX.out.set 22 (by rw [ndV_len]; omega) _
  replace HZ:Hid (BoxW (w5.setCell ⟨X,22,none⟩ (.slice a5 x.ns.length c5)) (X + 1) [.int .i64 0,.int .i64 0,.int .i64 0,.int .i64 0,.int .i64 0,.int .i64 0,.int .i64 0,.slice none 0 0,.slice none 0 0,.bool false,.int .i64 0,.bool false,.int .i64 0,.int .i64 0,.int .i64 0,.slice none 0 0,.slice none 0 0,.bool false,.int .i64 0,.int .i64 0,.int .i64 0,.string ⟨#[]⟩,.slice none 0 0,.int .i64 0]):=HZ.out.other (by omega)
  replace La1:Hid (∀ b f,a1=some ⟨b,f,none⟩→b < (w5.setCell ⟨X,22,none⟩ (.slice a5 x.ns.length c5)).heap.size):=(fun b f e => by simpa using La1.out b f e)
  replace Ua1:Hid (Prs a1 x.A.us.length x.A.us (w5.setCell ⟨X,22,none⟩ (.slice a5 x.ns.length c5))):=Ua1.out.set (fun b f e => by have:=Na1.out b f e; omega)
  replace La2:Hid (∀ b f,a2=some ⟨b,f,none⟩→b < (w5.setCell ⟨X,22,none⟩ (.slice a5 x.ns.length c5)).heap.size):=(fun b f e => by simpa using La2.out b f e)
  replace Ua2:Hid (Prs a2 x.A.gs.length x.A.gs (w5.setCell ⟨X,22,none⟩ (.slice a5 x.ns.length c5))):=Ua2.out.set (fun b f e => by have:=Na2.out b f e; omega)
  replace La3:Hid (∀ b f,a3=some ⟨b,f,none⟩→b < (w5.setCell ⟨X,22,none⟩ (.slice a5 x.ns.length c5)).heap.size):=(fun b f e => by simpa using La3.out b f e)
  replace Ua3:Hid (Prs a3 x.D.us.length x.D.us (w5.setCell ⟨X,22,none⟩ (.slice a5 x.ns.length c5))):=Ua3.out.set (fun b f e => by have:=Na3.out b f e; omega)
  replace La4:Hid (∀ b f,a4=some ⟨b,f,none⟩→b < (w5.setCell ⟨X,22,none⟩ (.slice a5 x.ns.length c5)).heap.size):=(fun b f e => by simpa using La4.out b f e)
  replace Ua4:Hid (Prs a4 x.D.gs.length x.D.gs (w5.setCell ⟨X,22,none⟩ (.slice a5 x.ns.length c5))):=Ua4.out.set (fun b f e => by have:=Na4.out b f e; omega)
  replace La5:Hid (∀ b f,a5=some ⟨b,f,none⟩→b < (w5.setCell ⟨X,22,none⟩ (.slice a5 x.ns.length c5)).heap.size):=(fun b f e => by simpa using La5.out b f e)
  replace Ua5:Hid (Ens a5 x.ns.length x.ns (w5.setCell ⟨X,22,none⟩ (.slice a5 x.ns.length c5))):=Ua5.out.set (fun b f e => by have:=Na5.out b f e; omega)
  clear x22 e22 fx HR5
  generalize (w5.setCell ⟨X,22,none⟩ (.slice a5 x.ns.length c5))=w6 at HB HX HZ Ua1 La1 Ua2 La2 Ua3 La3 Ua4 La4 Ua5 La5 ⊢
  clear w5
  obtain ⟨y',hy⟩:∃ y':Na,y'=⟨a1,c1,a2,c2,a3,c3,a4,c4,a5,c5⟩:=⟨_,rfl⟩
  replace HX:Hid (BoxW w6 X (ndV x y')):=(by rw [hy]; exact HX.out)
  replace La1:Hid (∀ b f,a1=some ⟨b,f,none⟩→b < (w6.setCells (X + 1) 0 (ndV x y')).heap.size):=(fun b f e => by rw [size_setCellsT]; exact La1.out b f e)
  replace Ua1:Hid (Prs a1 x.A.us.length x.A.us (w6.setCells (X + 1) 0 (ndV x y'))):=Ua1.out.sets (fun b f e => by have:=Na1.out b f e; omega) _ _
  replace La2:Hid (∀ b f,a2=some ⟨b,f,none⟩→b < (w6.setCells (X + 1) 0 (ndV x y')).heap.size):=(fun b f e => by rw [size_setCellsT]; exact La2.out b f e)
  replace Ua2:Hid (Prs a2 x.A.gs.length x.A.gs (w6.setCells (X + 1) 0 (ndV x y'))):=Ua2.out.sets (fun b f e => by have:=Na2.out b f e; omega) _ _
  replace La3:Hid (∀ b f,a3=some ⟨b,f,none⟩→b < (w6.setCells (X + 1) 0 (ndV x y')).heap.size):=(fun b f e => by rw [size_setCellsT]; exact La3.out b f e)
  replace Ua3:Hid (Prs a3 x.D.us.length x.D.us (w6.setCells (X + 1) 0 (ndV x y'))):=Ua3.out.sets (fun b f e => by have:=Na3.out b f e; omega) _ _
  replace La4:Hid (∀ b f,a4=some ⟨b,f,none⟩→b < (w6.setCells (X + 1) 0 (ndV x y')).heap.size):=(fun b f e => by rw [size_setCellsT]; exact La4.out b f e)
  replace Ua4:Hid (Prs a4 x.D.gs.length x.D.gs (w6.setCells (X + 1) 0 (ndV x y'))):=Ua4.out.sets (fun b f e => by have:=Na4.out b f e; omega) _ _
  replace La5:Hid (∀ b f,a5=some ⟨b,f,none⟩→b < (w6.setCells (X + 1) 0 (ndV x y')).heap.size):=(fun b f e => by rw [size_setCellsT]; exact La5.out b f e)
  replace Ua5:Hid (Ens a5 x.ns.length x.ns (w6.setCells (X + 1) 0 (ndV x y'))):=Ua5.out.sets (fun b f e => by have:=Na5.out b f e; omega) _ _
  have HNs:Hid (NdIn (w6.setCells (X + 1) 0 (ndV x y')) x y'):=(by have h:NdIn (w6.setCells (X + 1) 0 (ndV x y')) x ⟨a1,c1,a2,c2,a3,c3,a4,c4,a5,c5⟩:=⟨Ua1.out,Ua2.out,Ua3.out,Ua4.out,Ua5.out⟩; rw [← hy] at h; exact h)
  have HFr:Hid (NaFrom w.heap.size y'):=(by rw [hy]; have h0:=HXw.out; exact ⟨fun b f e => by have:=Na1.out b f e; omega,fun b f e => by have:=Na2.out b f e; omega,fun b f e => by have:=Na3.out b f e; omega,fun b f e => by have:=Na4.out b f e; omega,fun b f e => by have:=Na5.out b f e; omega⟩)
  have HLs:Hid (∀ b,NaAt y' b→b < (w6.setCells (X + 1) 0 (ndV x y')).heap.size):=(by have h:∀ b,NaAt ⟨a1,c1,a2,c2,a3,c3,a4,c4,a5,c5⟩ b→b < (w6.setCells (X + 1) 0 (ndV x y')).heap.size:=(by rintro b ⟨f,e | e | e | e | e⟩ <;> first | exact La1.out b f e | exact La2.out b f e | exact La3.out b f e | exact La4.out b f e | exact La5.out b f e); rw [← hy] at h; exact h)
  clear hy Ua1 Na1 La1 Ua2 Na2 La2 Ua3 Na3 La3 Ua4 Na4 La4 Ua5 Na5 La5
  have HBs:Hid (Below w.heap.size w (w6.setCells (X + 1) 0 (ndV x y'))):=bl_setsT (by have:=HXw.out; omega) _ _ HB.out
  have hr:(w6.setCells (X + 1) 0 (ndV x y')).rangeAt (X + 1) 0 (ndV x y'):=World.rangeAt_setCells_same _ _ _ _ (HZ.out.there 0 24 (by simp))
  have hR:Hid ((loadVar 84 ⟨X + 1,0,none⟩).run Tryz.prog (w6.setCells (X + 1) 0 (ndV x y'))=.ok (.agg (ndV x y').toArray) (w6.setCells (X + 1) 0 (ndV x y'))):=run_loadVar_mid _ _ _ _ _ _ hr Tryz.underlying84 rfl (by kernel_rfl)
  clear hr
  go_wp2_with (first | (refine wpList_load_mid (by rfl) 84 _ (by rfl) _ _ (by rfl) _ _ HX.out.at0 Tryz.underlying84 rfl (by kernel_rfl) ?_) | (refine wpList_store_list (by rfl) 84 _ _ (by rfl) (X + 1) 0 (ndV x y') (by rfl) (by rfl) (HZ.out.there 0 24 (by simp)) (by kernel_rfl) (ndV_ones _ _) ?_) | (refine bodyPost_ret (v:=.agg (ndV x y').toArray) ?hres rfl ⟨y',rfl,HNs.out,HFr.out,HBs.out,HLs.out⟩))
  exact results_one Tryz.results140 (by rfl) hR.out
end Go.Proofs.YtabfdidnjibdeaaGreatDoor
