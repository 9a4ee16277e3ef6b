/- Laid together: LawCred, ClassF, May, LetM. -/
import Derived.Test.YtabfdidnjibdeaaGreatDoorBR26
import Derived.Test.YtabfdidnjibdeaaGreatDoorBR17
namespace Go.Proofs.YtabfdidnjibdeaaGreatDoor
open Go.RowKit Go.PlainAid
set_option linter.unusedVariables false
def IHolds (w:World) (B:Nat) (f:Nat→Int) (n:Nat):Prop:=(∀ i,i<n→w.cell? ⟨B,i,none⟩=some (.int .i64 (f i)))∧∀ i,i<n→w.frozen? ⟨B,i,none⟩=false
theorem IHolds.set {w:World}{B:Nat}{f:Nat→Int}{n:Nat}(h:IHolds w B f n)(i:Nat)(hi:i<n)(v:Int):IHolds (w.setCell ⟨B,i,none⟩ (.int .i64 v)) B (fun k=>if k=i then v else f k) n:=by
  constructor
  · intro k hk
    by_cases e:k=i
    · subst e
      simp only [if_pos]
      have:=h.1 k hk
      simp [go_sem,this]
    · simp only [if_neg e]
      rw [←h.1 k hk]
      exact World.cell?_setCell_other _ _ _ _ (by intro h;cases h;exact e rfl)
  · intro k hk
    rw [World.frozen?_setCell]
    exact h.2 k hk
theorem made_holds (w:World)(n:Nat)(t:TypeId):IHolds (w.alloc (.cells (madeCells #[.int .i64 0] n) t)) w.heap.size (fun _=>0) n:=by
  have hb:(w.alloc (.cells (madeCells #[.int .i64 0] n) t)).heap[w.heap.size]?=some (.cells (madeCells #[.int .i64 0] n) t):=by
    rw [World.alloc]
    exact Array.getElem?_push_size
  constructor
  · intro i hi
    simp only [World.cell?,hb]
    simp [madeCells,hi,Nat.mod_one]
  · intro i hi
    simp only [World.frozen?,hb]
    simp
theorem infoI64:(Tryz.prog.info? 2).map (fun i=>(i.zero,i.size,i.bytes))=some (some (.int .i64 0),1,8):=by kernel_rfl
set_option maxHeartbeats 2000000 in
theorem toInts_any (a:Option Addr)(len cap:Nat)(f:Nat→Int)(hl:len≤1048576)(w:World)(hi:Ints a len f w) :
    Calls Tryz.prog 37 #[.slice a len cap] w fun e w'=>e=.returned (.slice (some ⟨w.heap.size,0,none⟩) len len)∧Ints (some ⟨w.heap.size,0,none⟩) len f w'∧w.heap.size<w'.heap.size∧Below w.heap.size w w':=by
  have hmk:=run_make_row' (P:=Tryz.prog) 25 2 (.int .i64 0) 8 Tryz.underlying25 infoI64 rfl .i64 .i64 len (by omega) (by omega) w
  have hH0:Hid (IHolds (w.alloc (.cells (madeCells #[.int .i64 0] len) 2)) w.heap.size (fun _=>0) len):=made_holds w len _
  have hB0:Hid (Below w.heap.size w (w.alloc (.cells (madeCells #[.int .i64 0] len) 2))):=(Below.refl _ _).alloc (Nat.le_refl _) _
  have hZ0:Hid (w.heap.size<(w.alloc (.cells (madeCells #[.int .i64 0] len) 2)).heap.size):=(by show _<_;simp)
  generalize w.alloc (.cells (madeCells #[.int .i64 0] len) 2)=w0 at hmk hH0 hB0 hZ0
  have HI:Hid (Ints a len f w):=hi
  clear hi
  go_enter Tryz.func37,Tryz.ntmps37
  go_wp2
  go_loopw [4] (fun i wr=>∃ (k:Nat) (g:Nat→Int),k≤len∧i=.int .i64 k∧Hid (IHolds wr w.heap.size g len)∧Hid (∀ j,j<k→g j=f j)∧Hid (Below w.heap.size w wr)∧Hid (w.heap.size<wr.heap.size)) (fun i _=>len-(intOf i).toNat)
  case atStart=>exact ⟨0,fun _=>0,Nat.zero_le _,rfl,hH0,fun j hj=>absurd hj (by omega),hB0,hZ0⟩
  case round =>
    obtain ⟨k,g,hk,rfl,hH,hg,hB,hZ⟩:=hrel
    by_cases hlt:k<len
    · obtain ⟨b, off, rfl, hb, hc⟩ := HI.out (by omega)
      have g0:wr.cell? ⟨b,off+k,none⟩=some (.int .i64 (f k)):=(hB.out.cell (p:=⟨b,off+k,none⟩) hb).trans (hc k hlt)
      have g1:=hH.out.1 k hlt
      have g2:=hH.out.2 k hlt
      have hH2:Hid (IHolds (wr.setCell ⟨w.heap.size,k,none⟩ (.int .i64 (f k))) w.heap.size (fun j=>if j=k then f k else g j) len):=hH.out.set k hlt (f k)
      have hg2:Hid (∀ j,j<k+1→(fun j=>if j=k then f k else g j) j=f j):=(fun j hj=>by
        show (if j=k then f k else g j)=f j
        by_cases e:j=k
        · rw [if_pos e,e]
        · rw [if_neg e];exact hg.out j (by omega))
      have hB2:Hid (Below w.heap.size w (wr.setCell ⟨w.heap.size,k,none⟩ (.int .i64 (f k)))):=hB.out.setCell (Nat.le_refl _) _
      have hZ2:Hid (w.heap.size<(wr.setCell ⟨w.heap.size,k,none⟩ (.int .i64 (f k))).heap.size):=(by show _<_;simp;exact hZ.out)
      clear hc hH hg hB hmk hH0 hB0 hZ0 HI
      go_wp2
      go_roundw
      case rel=>exact ⟨k+1,_,by omega,by go_num,hH2,hg2,hB2,hZ2⟩
      case measure=>simp [intOf];omega
    · have : k = len := by omega
      subst this
      go_wp2
      go_ret
      refine ⟨rfl,fun _=>⟨w.heap.size,0,rfl,hZ.out,fun i hi=>?_⟩,hZ.out,hB.out⟩
      rw [Nat.zero_add,hH.out.1 i hi,hg.out i hi]
theorem ints_set {B len:Nat}{f:Nat→Int}{w:World}{b o:Nat}{v:Value}(h:Ints (some ⟨B,0,none⟩) len f w)(hne:b≠B):Ints (some ⟨B,0,none⟩) len f (w.setCell ⟨b,o,none⟩ v):=by
  intro hl
  obtain ⟨b',off',e,hlt,hc⟩:=h hl
  cases e
  refine ⟨B,0,rfl,by simpa using hlt,fun i hi=>?_⟩
  rw [←hc i hi]
  exact World.cell?_setCell_other _ _ _ _ (by intro h;cases h;exact hne rfl)
theorem bl_setC {B b o:Nat}{W w1:World}{x:Value}(hb:Below B W w1)(h:B≤b):Below B W (w1.setCell ⟨b,o,none⟩ x):=hb.setCell h _
theorem bl3_size {w:World}{o1 o2 o3:Obj}:(((w.alloc o1).alloc o2).alloc o3).heap.size=w.heap.size+1+1+1:=by simp
theorem bl3 (w:World)(o1 o2 o3:Obj):Below w.heap.size w (((w.alloc o1).alloc o2).alloc o3):=(((Below.refl _ _).alloc (Nat.le_refl _) _).alloc (by simp) _).alloc (by simp;omega) _
theorem bl_cellC {W w1:World}(hb:Below W.heap.size W w1):(∀ b o,b<W.heap.size→w1.cell? ⟨b,o,none⟩=W.cell? ⟨b,o,none⟩)∧(∀ b o,b<W.heap.size→w1.frozen? ⟨b,o,none⟩=W.frozen? ⟨b,o,none⟩) :=
  ⟨fun b o h=>hb.cell (p:=⟨b,o,none⟩) h,fun b o h=>hb.frozen (p:=⟨b,o,none⟩) h⟩
set_option maxHeartbeats 4000000 in
theorem toCred_any (u g:Int)(a:Option Addr)(len cap:Nat)(r:Bool)(f:Nat→Int)(hl:len≤1048576)(w:World)(hi:Ints a len f w) :
    Calls Tryz.prog 12 #[.agg #[.int .i64 u,.int .i64 g,.slice a len cap,.bool r]] w fun e w'=>∃ B,e=.returned (.agg #[.int .i64 u,.int .i64 g,.slice (some ⟨B,0,none⟩) len len,.bool r])∧Ints (some ⟨B,0,none⟩) len f w'∧w.heap.size≤B∧Below w.heap.size w w':=by
  have hc:Hid (∀ w',Below w.heap.size w w'→Calls Tryz.prog 37 #[.slice a len cap] w' fun e w''=>e=.returned (.slice (some ⟨w'.heap.size,0,none⟩) len len)∧Ints (some ⟨w'.heap.size,0,none⟩) len f w''∧w'.heap.size<w''.heap.size∧Below w'.heap.size w' w''):=(fun w' hb=>toInts_any a len cap f hl w' (hi.below hb))
  clear hi
  go_enter Tryz.func12,Tryz.ntmps12
  go_wp2_with (go_at_call 37;refine (hc.out _ (bl3 _ _ _ _)).mono ?_;rintro e w1 ⟨rfl,hI,hz,hb⟩;obtain ⟨hcl,hfz⟩:=bl_cellC hb;simp at hcl hfz hz)
  have e3:(((w.alloc (Obj.cells #[Value.int IntKind.i64 u,Value.int IntKind.i64 g,Value.slice a len cap,Value.bool r] 27)).alloc (Obj.cells #[Value.int IntKind.i64 0,Value.int IntKind.i64 0,Value.slice none 0 0,Value.bool false] 37)).alloc (Obj.cells #[Value.int IntKind.i64 u,Value.int IntKind.i64 g,Value.slice none 0 0,Value.bool false] 37)).heap.size=w.heap.size+1+1+1:=bl3_size
  have hI2:Ints (some ⟨w.heap.size+1+1+1,0,none⟩) len f w1:=by rw [e3] at hI;exact hI
  have hb2:Below w.heap.size w w1:=(bl3 _ _ _ _).trans (hb.mono (by rw [e3];omega))
  refine bodyPost_ret (v:=.agg #[.int .i64 u,.int .i64 g,.slice (some ⟨w.heap.size+1+1+1,0,none⟩) len len,.bool r]) (by simp [results,Tryz.results12,go_sem,hcl]) rfl ⟨_,rfl,?_,by omega,?_⟩
  · exact ints_set (ints_set (ints_set (ints_set (ints_set (ints_set hI2 (by omega)) (by omega)) (by omega)) (by omega)) (by omega)) (by omega)
  · exact bl_setC (bl_setC (bl_setC (bl_setC (bl_setC (bl_setC hb2 (by omega)) (by omega)) (by omega)) (by omega)) (by omega)) (by omega)
set_option maxHeartbeats 2000000 in
theorem eqInts_none (a a2:Option Addr)(cap cap2:Nat)(w:World) :
    Calls Tryz.prog 45 #[.slice a 0 cap,.slice a2 0 cap2] w fun e w'=>e=.returned (.bool true)∧Below w.heap.size w w':=by
  go_enter Tryz.func45,Tryz.ntmps45
  go_wp2
  go_rounds 1
  go_ret
  exact ⟨rfl,Below.refl _ _⟩
set_option maxHeartbeats 2000000 in
theorem eqInts_some (b off b2 off2 len cap cap2:Nat)(f:Nat→Int)(hl:len≤1048576)(w:World)(hb:b<w.heap.size)(hb2:b2<w.heap.size)(hc:Hid (∀ i,i<len→w.cell? ⟨b,off+i,none⟩=some (.int .i64 (f i))))(hc2:Hid (∀ i,i<len→w.cell? ⟨b2,off2+i,none⟩=some (.int .i64 (f i)))) :
    Calls Tryz.prog 45 #[.slice (some ⟨b,off,none⟩) len cap,.slice (some ⟨b2,off2,none⟩) len cap2] w fun e w'=>e=.returned (.bool true)∧Below w.heap.size w w':=by
  go_enter Tryz.func45,Tryz.ntmps45
  go_wp2
  go_loopw [5] (fun i wr=>∃ (k n:Nat),k≤len∧i=.int .i64 k∧wr=w.drewN n) (fun i _=>len-(intOf i).toNat)
  case atStart=>exact ⟨0,0,Nat.zero_le _,rfl,rfl⟩
  case round =>
    obtain ⟨k,n,hk,rfl,rfl⟩:=hrel
    by_cases hlt:k<len
    · have g0 : (w.drewN n).cell? ⟨b, off + k, none⟩ = some (.int .i64 (f k)) := hc.out k hlt
      have g1:(w.drewN n).cell? ⟨b2,off2+k,none⟩=some (.int .i64 (f k)):=hc2.out k hlt
      have hlt':(k:Int)<(len:Int):=by omega
      have hB:Hid (Below w.heap.size w (w.drewN n)):=below_drewN (Below.refl _ _) n
      generalize hW:w.drewN n=W at g0 g1 hB ⊢
      go_wp2
      go_quiet (fail)
      go_wp2
      go_roundw
      case rel =>
        rename_i nq
        exact ⟨k+1,n+nq,by omega,by go_num,by rw [←hW];simp⟩
      case measure=>simp [intOf];omega
    · have : k = len := by omega
      subst this
      go_wp2
      go_ret
      exact ⟨rfl,below_drewN (Below.refl _ _) n⟩
theorem eqInts_any (a a2:Option Addr)(len cap cap2:Nat)(f:Nat→Int)(hl:len≤1048576)(w:World)(h1:Ints a len f w)(h2:Ints a2 len f w) :
    Calls Tryz.prog 45 #[.slice a len cap,.slice a2 len cap2] w fun e w'=>e=.returned (.bool true)∧Below w.heap.size w w':=by
  by_cases h0:len=0
  · subst h0
    exact eqInts_none a a2 cap cap2 w
  · obtain ⟨b, off, rfl, hb, hc⟩ := h1 (by omega)
    obtain ⟨b2,off2,rfl,hb2,hc2⟩:=h2 (by omega)
    exact eqInts_some b off b2 off2 len cap cap2 f hl w hb hb2 hc hc2
theorem bl2 (w:World)(o1 o2:Obj):Below w.heap.size w ((w.alloc o1).alloc o2):=((Below.refl _ _).alloc (Nat.le_refl _) _).alloc (by simp) _
set_option maxHeartbeats 4000000 in
theorem eqCred_any (u g:Int)(a a2:Option Addr)(len cap cap2:Nat)(r:Bool)(f:Nat→Int)(hl:len≤1048576)(w:World)(h1:Ints a len f w)(h2:Ints a2 len f w) :
    Calls Tryz.prog 16 #[.agg #[.int .i64 u,.int .i64 g,.slice a len cap,.bool r],.agg #[.int .i64 u,.int .i64 g,.slice a2 len cap2,.bool r]] w fun e w'=>e=.returned (.bool true)∧Below w.heap.size w w':=by
  have hc:Hid (∀ w',Below w.heap.size w w'→Calls Tryz.prog 45 #[.slice a len cap,.slice a2 len cap2] w' fun e w''=>e=.returned (.bool true)∧Below w'.heap.size w' w''):=(fun w' hb=>eqInts_any a a2 len cap cap2 f hl w' (h1.below hb) (h2.below hb))
  clear h1 h2
  go_enter Tryz.func16,Tryz.ntmps16
  go_wp2_with (go_at_call 45;refine (hc.out _ (bl2 _ _ _)).mono ?_;rintro e w1 ⟨rfl,hb⟩;obtain ⟨hcl,hfz⟩:=bl_cellC hb;simp at hcl hfz)
  go_ret
  exact ⟨rfl,(bl2 _ _ _).trans (hb.mono (by simp;omega))⟩
end Go.Proofs.YtabfdidnjibdeaaGreatDoor
namespace Go.Proofs.YtabfdidnjibdeaaGreatDoor
open Go.RowKit Go.PlainAid Go.Deep
set_option linter.unusedVariables false
set_option maxHeartbeats 2000000 in
theorem szCredN_long (u g:Int)(a:Option Addr)(len cap:Nat)(r:Bool)(n:Int)(h0:0≤n)(h1:n≤1048576)(hl:n-(len:Int)<0)(hm:len≤9223372036854775807)(w:World) :
    Calls Tryz.prog 9 #[.agg #[.int .i64 u,.int .i64 g,.slice a len cap,.bool r],.int .i64 n] w fun e w'=>e=.returned (.int .i64 (-1))∧Below w.heap.size w w':=by
  have hc:Hid (∀ w,Calls Tryz.prog 32 #[.slice a len cap,.int .i64 n] w fun e w'=>e=.returned (.int .i64 (-1))∧w'=w):=(by
    intro w
    go_enter Tryz.func32,Tryz.ntmps32
    go_wp2
    go_ret
    exact ⟨rfl,rfl⟩)
  clear hl
  go_enter Tryz.func9,Tryz.ntmps9
  go_wp2_with (go_at_call 32;refine (hc.out _).mono ?_;rintro e w' ⟨rfl,rfl⟩)
  go_ret
  exact ⟨rfl,(Below.refl _ _).alloc (Nat.le_refl _) _⟩
set_option maxHeartbeats 2000000 in
theorem szCredN_short (u g:Int)(a:Option Addr)(len cap:Nat)(r:Bool)(n:Int)(h0:0≤n)(h1:n≤1048576)(hl:0≤n-(len:Int))(w:World) :
    Calls Tryz.prog 9 #[.agg #[.int .i64 u,.int .i64 g,.slice a len cap,.bool r],.int .i64 n] w fun e w'=>e=.returned (.int .i64 (n-len))∧Below w.heap.size w w':=by
  have d1:decide (n-(len:Int)<0)=false:=by simp;omega
  have hc:Hid (∀ w,Calls Tryz.prog 32 #[.slice a len cap,.int .i64 n] w fun e w'=>e=.returned (.int .i64 (n-len))∧w'=w):=(by
    intro w
    go_enter Tryz.func32,Tryz.ntmps32
    go_wp2
    go_ret
    exact ⟨rfl,rfl⟩)
  go_enter Tryz.func9,Tryz.ntmps9
  go_wp2_with (go_at_call 32;refine (hc.out _).mono ?_;rintro e w' ⟨rfl,rfl⟩)
  go_ret
  exact ⟨rfl,(Below.refl _ _).alloc (Nat.le_refl _) _⟩
theorem hasB_both:∀ b,b<8→∀ m,m<8→∀ v,v<8→hasB (b &&& m) v=(hasB b v&&hasB m v):=by decide +kernel
theorem hasZ_both (b m v:Int)(b0:0≤b)(b1:b≤7)(m0:0≤m)(m1:m≤7)(v0:0≤v)(v1:v≤7):hasZ (bits .and .i64 b m) v=(hasZ b v&&hasZ m v):=by
  obtain ⟨a,rfl⟩:=Int.eq_ofNat_of_zero_le b0
  obtain ⟨c,rfl⟩:=Int.eq_ofNat_of_zero_le m0
  obtain ⟨d,rfl⟩:=Int.eq_ofNat_of_zero_le v0
  have hx:a &&& c≤a:=Nat.and_le_left
  rw [i64_and_nat a c (by omega) (by omega),hasZ_in (by omega) (by omega),hasZ_in (by omega) (by omega),hasZ_in (by omega) (by omega)]
  exact hasB_both a (by omega) c (by omega) d (by omega)
def mayK (c u g o:Int) (us:List (Int × Int)) (r:Bool) (m cu' want:Int):Bool :=
  if c=1 then hasZ u want else if c=2 then (hasZ (btAt us (plc us cu')) want&&hasZ m want) else if c=3 then hasZ (clsOf g r m) want else if c=5 then hasZ o want else false
def mayB (u g o:Int) (us gs:List (Int × Int)) (r:Bool) (m owner group cu' cg':Int) (cl:Nat) (cf:Nat→Int) (want:Int):Bool :=
  mayK (classB u g o us gs r m owner group cu' cg' cl cf want) u g o us r m cu' want
theorem which_cases (g:Int)(us gs:List (Int × Int))(owner group cu':Int)(P:Int→Bool)(want:Int):whichB g us gs owner group cu' P want=1∨(whichB g us gs owner group cu' P want=2∧fnd us cu'=true)∨whichB g us gs owner group cu' P want=3∨whichB g us gs owner group cu' P want=4∨whichB g us gs owner group cu' P want=5:=by
  unfold whichB goC
  cases (cu'==owner)
  · cases fnd us cu'
    · cases allTo (P group&&hasZ g want) P gs want gs.length<;>cases inTo (P group) P gs gs.length<;>simp
    · simp
  · simp
structure Sound (u g o:Int) (us:List (Int × Int)) (r:Bool) (m want:Int):Prop where
  u0:0≤u
  u1:u≤7
  o0:0≤o
  o1:o≤7
  m0:0≤m
  m1:m≤7
  k0:0≤clsOf g r m
  k1:clsOf g r m≤7
  v0:0≤want
  v1:want≤7
  nm:nmB us=true
theorem fine_sound {u g o:Int}{us gs:List (Int × Int)}{r:Bool}{m owner group cu' cg':Int}{cl:Nat}{cf:Nat→Int}{want:Int}(h:fineB u g o us gs r m owner group cu' cg' cl cf want=true):Sound u g o us r m want:=by
  unfold fineB at h
  simp only [Bool.and_eq_true] at h
  obtain ⟨ha,_,_,_,hw⟩:=h
  obtain ⟨⟨u0,u1⟩,_,⟨o0,o1⟩,⟨m0,m1⟩,n1,_⟩:=aclB_parts ha
  obtain ⟨k0,k1⟩:=clsOf_in ha
  obtain ⟨v0,v1⟩:=inR_iff.1 hw
  exact ⟨u0,u1,o0,o1,m0,m1,k0,k1,v0,v1,n1⟩
theorem below_drewQ {B:Nat}{w w':World}(h:Below B w w'):Below B w w'.drew:=h.trans ⟨rfl,rfl,rfl,Nat.le_refl _,fun _ _=>rfl⟩
set_option maxRecDepth 100000 in
set_option maxHeartbeats 8000000 in
theorem iAclMay_any (u g o:Int)(au:Option Addr)(lu cu:Nat)(ag:Option Addr)(lg cg:Nat)(r:Bool)(m:Int)(us gs:List (Int × Int))(owner group:Int)(cu' cg':Int)(ca:Option Addr)(cl cc:Nat)(cr:Bool)(cf:Nat→Int)(want:Int)(w:World)(hu:Prs au lu us w)(hg:Prs ag lg gs w)(hci:Ints ca cl cf w) :
    Calls Tryz.prog 139 #[.agg #[.int .i64 u,.int .i64 g,.int .i64 o,.slice au lu cu,.slice ag lg cg,.bool r,.int .i64 m],.int .i64 owner,.int .i64 group,.agg #[.int .i64 cu',.int .i64 cg',.slice ca cl cc,.bool cr],.int .i64 want] w fun e w'=>e=.returned (.bool (mayB u g o us gs r m owner group cu' cg' cl cf want))∧Below w.heap.size w w':=by
  have hcl:Hid (∀ w',Below w.heap.size w w'→Calls Tryz.prog 177 #[.agg #[.int .i64 u,.int .i64 g,.int .i64 o,.slice au lu cu,.slice ag lg cg,.bool r,.int .i64 m],.int .i64 owner,.int .i64 group,.agg #[.int .i64 cu',.int .i64 cg',.slice ca cl cc,.bool cr],.int .i64 want] w' fun e w''=>e=.returned (.int .i64 (classB u g o us gs r m owner group cu' cg' cl cf want))∧Below w'.heap.size w' w''):=(fun w' hb=>iAclClass_any u g o au lu cu ag lg cg r m us gs owner group cu' cg' ca cl cc cr cf want w' (hu.below hb) (hg.below hb) (hci.below hb))
  have HM:Hid (mayB u g o us gs r m owner group cu' cg' cl cf want=mayK (classB u g o us gs r m owner group cu' cg' cl cf want) u g o us r m cu' want):=rfl
  have hK:(classB u g o us gs r m owner group cu' cg' cl cf want)=0∨(fineB u g o us gs r m owner group cu' cg' cl cf want=true∧(classB u g o us gs r m owner group cu' cg' cl cf want=1∨(classB u g o us gs r m owner group cu' cg' cl cf want=2∧fnd us cu'=true)∨classB u g o us gs r m owner group cu' cg' cl cf want=3∨classB u g o us gs r m owner group cu' cg' cl cf want=4∨classB u g o us gs r m owner group cu' cg' cl cf want=5)):=by
    unfold classB
    cases fineB u g o us gs r m owner group cu' cg' cl cf want
    · exact .inl rfl
    · exact .inr ⟨rfl,which_cases g us gs owner group cu' (inGB cu' cg' cl cf) want⟩
  have hpl:Hid (nmB us=true→∀ w',Below w.heap.size w w'→Calls Tryz.prog 178 #[.slice au lu cu,.int .i64 cu',.func (.func 179) #[] #[]] w' fun e w''=>e=.returned (.tuple #[.int .i64 (plc us cu'),.bool (fnd us cu')])∧Below w'.heap.size w' w''):=(fun h w' hb=>by
    have l1:=nm_len h
    have:=hu.1
    exact placeOf_any au lu cu us cu' (by omega) w' (hu.below hb))
  have HU:Hid (Prs au lu us w):=hu
  clear hu hg hci
  generalize hmb:mayB u g o us gs r m owner group cu' cg' cl cf want=mb at HM ⊢
  have hfs:Hid (fineB u g o us gs r m owner group cu' cg' cl cf want=true→Sound u g o us r m want):=(fun h=>fine_sound h)
  generalize fineB u g o us gs r m owner group cu' cg' cl cf want=fb at hK hfs
  generalize classB u g o us gs r m owner group cu' cg' cl cf want=cb at hcl HM hK
  clear hmb
  have hX:=(box7_new w (.int .i64 u) (.int .i64 g) (.int .i64 o) (.slice au lu cu) (.slice ag lg cg) (.bool r) (.int .i64 m) 81).below (bel_alloc _ (.cells #[.int .i64 cu',.int .i64 cg',.slice ca cl cc,.bool cr] 37))
  have eA:(w.alloc (.cells #[.int .i64 u,.int .i64 g,.int .i64 o,.slice au lu cu,.slice ag lg cg,.bool r,.int .i64 m] 81)).heap.size=w.heap.size+1:=by simp
  have hY:=box4_new (w.alloc (.cells #[.int .i64 u,.int .i64 g,.int .i64 o,.slice au lu cu,.slice ag lg cg,.bool r,.int .i64 m] 81)) (.int .i64 cu') (.int .i64 cg') (.slice ca cl cc) (.bool cr) 37
  rw [eA] at hY
  clear eA
  rcases hK with rfl | ⟨hf,hK⟩
  · have hz : Hid (mb = false) := (by show _ = _; rw [HM.out]; rfl)
    clear HM hX hY hpl
    go_enter Tryz.func139,Tryz.ntmps139
    go_wp2_with fail
    refine (hcl.out _ (bl2N _ _ _)).mono ?_
    rintro e w1 ⟨rfl,hb⟩
    have hW1:Hid (Below w.heap.size w w1):=(bl2N _ _ _).trans (hb.mono (by simp;omega))
    clear hb hcl
    go_wp2
    go_ret
    exact ⟨ret_boolW hz.out.symm,hW1.out⟩
  have HS:Hid (Sound u g o us r m want):=hfs.out hf
  clear hf hfs
  go_enter Tryz.func139,Tryz.ntmps139
  go_wp2_with fail
  refine (hcl.out _ (bl2N _ _ _)).mono ?_
  rintro e w1 ⟨rfl,hb⟩
  have hW1:Hid (Below w.heap.size w w1):=(bl2N _ _ _).trans (hb.mono (by simp;omega))
  have HX1:Hid (Box7 w1 w.heap.size (.int .i64 u) (.int .i64 g) (.int .i64 o) (.slice au lu cu) (.slice ag lg cg) (.bool r) (.int .i64 m)):=hX.below hb
  have HY1:Hid (Box4 w1 (w.heap.size+1) (.int .i64 cu') (.int .i64 cg') (.slice ca cl cc) (.bool cr)):=hY.below hb
  clear hb hX hY hcl
  rcases hK with rfl | ⟨rfl,hfn⟩ | rfl | rfl | rfl
  · have hz : Hid (mb = hasZ u want) := (by show _ = _; rw [HM.out]; rfl)
    obtain ⟨xl,x0,x1,x2,x3,x4,x5,x6⟩:=HX1.out
    clear HM hpl
    go_wp2_with (go_at_call 176;refine (iHas_any _ _ _).mono ?_;rintro e w2 ⟨rfl,rfl⟩)
    go_ret
    exact ⟨ret_boolW hz.out.symm,hW1.out⟩
  · have hz : Hid (mb = (hasZ (btAt us (plc us cu')) want && hasZ m want)) := (by show _ = _; rw [HM.out]; rfl)
    have hlt:=fnd_lt hfn
    have e1:=HU.out.1
    rw [e1] at hlt
    have hpl2:=hpl.out HS.out.nm
    have HPL:Hid _:=hpl2
    have HB2:Hid (0≤btAt us (plc us cu')∧btAt us (plc us cu')≤7):=nm_bt HS.out.nm _ (by omega)
    obtain ⟨b,off,rfl,hbl,hc⟩:=HU.out.2 (by omega)
    have HC1:Hid (w.cell? ⟨b,off+plc us cu'*2+1,none⟩=some (.int .i64 (btAt us (plc us cu')))):=(hc _ hlt).2
    have HBL:Hid (b<w.heap.size):=hbl
    obtain ⟨xl,x0,x1,x2,x3,x4,x5,x6⟩:=HX1.out
    obtain ⟨yl,y0,y1,y2,y3⟩:=HY1.out
    clear HM hpl hpl2 hc hbl hfn e1
    generalize plc us cu'=pp at HPL HB2 HC1 hlt hz
    generalize fnd us cu'=ff at HPL
    have hlt':(pp:Int)<(lu:Int):=by omega
    go_wp2_with fail
    refine (HPL.out _ hW1.out).mono ?_
    rintro e w2 ⟨rfl,hb⟩
    have hW2:Hid (Below w.heap.size w w2):=Below.on hW1.out hb
    have c1:w2.cell? ⟨b,off+pp*2+1,none⟩=some (.int .i64 (btAt us pp)):=(hW2.out.cell (p:=⟨b,off+pp*2+1,none⟩) HBL.out).trans HC1.out
    clear x0 x1 x2 x3 x4 x5 x6 xl y0 y1 y2 y3 yl
    obtain ⟨xl,x0,x1,x2,x3,x4,x5,x6⟩:=HX1.out.below hb
    clear hb HPL
    have hpp:(0:Int)≤(pp:Int):=by omega
    go_wp2_with fail
    go_region_held3 (fun w'=>w'.cell? ⟨w.heap.size,3,none⟩=some (.slice (some ⟨b,off,none⟩) lu cu)∧w'.cell? ⟨w.heap.size,6,none⟩=some (.int .i64 m)∧w'.cell? ⟨b,off+pp*2+1,none⟩=some (.int .i64 (btAt us pp))) (go_keep)
      (first | (go_at_call 176;refine (iHas_any _ _ _).mono ?_;rintro e w3 ⟨rfl,hw3⟩;subst hw3))
    go_wp2
    go_ret
    exact ⟨ret_boolW (by rw [hz.out];exact hasZ_both _ _ _ HB2.out.1 HB2.out.2 HS.out.m0 HS.out.m1 HS.out.v0 HS.out.v1),below_drewQ hW2.out⟩
  · have hz : Hid (mb = hasZ (clsOf g r m) want) := (by show _ = _; rw [HM.out]; rfl)
    obtain ⟨xl,x0,x1,x2,x3,x4,x5,x6⟩:=HX1.out
    clear HM hpl
    go_wp2_with fail
    refine (groupClass_any u g o au lu cu ag lg cg r m _).mono ?_
    rintro e w2 ⟨rfl,hb⟩
    have hW2:Hid (Below w.heap.size w w2):=Below.on hW1.out hb
    clear hb x0 x1 x2 x3 x4 x5 x6 xl
    go_wp2_with (go_at_call 176;refine (iHas_any _ _ _).mono ?_;rintro e w2 ⟨rfl,rfl⟩)
    go_ret
    exact ⟨ret_boolW hz.out.symm,hW2.out⟩
  · have hz : Hid (mb = false) := (by show _ = _; rw [HM.out]; rfl)
    clear HM hpl
    go_wp2
    go_ret
    exact ⟨ret_boolW hz.out.symm,hW1.out⟩
  · have hz : Hid (mb = hasZ o want) := (by show _ = _; rw [HM.out]; rfl)
    obtain ⟨xl,x0,x1,x2,x3,x4,x5,x6⟩:=HX1.out
    clear HM hpl
    go_wp2_with (go_at_call 176;refine (iHas_any _ _ _).mono ?_;rintro e w2 ⟨rfl,rfl⟩)
    go_ret
    exact ⟨ret_boolW hz.out.symm,hW1.out⟩
set_option maxRecDepth 100000 in
set_option maxHeartbeats 8000000 in
theorem sMay_any (u g o:Int)(au:Option Addr)(lu cu:Nat)(ag:Option Addr)(lg cg:Nat)(r:Bool)(m:Int)(us gs:List (Int × Int))(owner group:Int)(cu' cg':Int)(ca:Option Addr)(cl cc:Nat)(cr:Bool)(cf:Nat→Int)(want:Int)(hf:fineB u g o us gs r m owner group cu' cg' cl cf want=true)(w:World)(hu:Prs au lu us w)(hg:Prs ag lg gs w)(hci:Ints ca cl cf w) :
    Calls Tryz.prog 89 #[.agg #[.int .i64 u,.int .i64 g,.int .i64 o,.slice au lu cu,.slice ag lg cg,.bool r,.int .i64 m],.int .i64 owner,.int .i64 group,.agg #[.int .i64 cu',.int .i64 cg',.slice ca cl cc,.bool cr],.int .i64 want] w fun e w'=>e=.returned (.bool (mayB u g o us gs r m owner group cu' cg' cl cf want))∧Below w.heap.size w w':=by
  have hcb:classB u g o us gs r m owner group cu' cg' cl cf want=whichB g us gs owner group cu' (inGB cu' cg' cl cf) want:=by rw [classB,hf];rfl
  have hcl:Hid (∀ w',Below w.heap.size w w'→Calls Tryz.prog 135 #[.agg #[.int .i64 u,.int .i64 g,.int .i64 o,.slice au lu cu,.slice ag lg cg,.bool r,.int .i64 m],.int .i64 owner,.int .i64 group,.agg #[.int .i64 cu',.int .i64 cg',.slice ca cl cc,.bool cr],.int .i64 want] w' fun e w''=>e=.returned (.int .i64 (classB u g o us gs r m owner group cu' cg' cl cf want))∧Below w'.heap.size w' w''):=(fun w' hb=>by rw [hcb];exact sWhich_any u g o au lu cu ag lg cg r m us gs owner group cu' cg' ca cl cc cr cf want hf w' (hu.below hb) (hg.below hb) (hci.below hb))
  have HM:Hid (mayB u g o us gs r m owner group cu' cg' cl cf want=mayK (classB u g o us gs r m owner group cu' cg' cl cf want) u g o us r m cu' want):=rfl
  have hK:=which_cases g us gs owner group cu' (inGB cu' cg' cl cf) want
  rw [←hcb] at hK
  have HS:Hid (Sound u g o us r m want):=fine_sound hf
  have hat:Hid (∀ w',Below w.heap.size w w'→Calls Tryz.prog 137 #[.slice au lu cu,.int .i64 cu'] w' fun e w''=>e=.returned (.int .i64 (atI us cu'))∧w''=w'):=(fun w' hb=>sAt_any au lu cu us cu' HS.out.nm w' (hu.below hb))
  have HU:Hid (Prs au lu us w):=hu
  clear hu hg hci hf hcb
  generalize hmb:mayB u g o us gs r m owner group cu' cg' cl cf want=mb at HM ⊢
  generalize classB u g o us gs r m owner group cu' cg' cl cf want=cb at hcl HM hK
  clear hmb
  have hX:=(box7_new w (.int .i64 u) (.int .i64 g) (.int .i64 o) (.slice au lu cu) (.slice ag lg cg) (.bool r) (.int .i64 m) 81).below (bel_alloc _ (.cells #[.int .i64 cu',.int .i64 cg',.slice ca cl cc,.bool cr] 37))
  have eA:(w.alloc (.cells #[.int .i64 u,.int .i64 g,.int .i64 o,.slice au lu cu,.slice ag lg cg,.bool r,.int .i64 m] 81)).heap.size=w.heap.size+1:=by simp
  have hY:=box4_new (w.alloc (.cells #[.int .i64 u,.int .i64 g,.int .i64 o,.slice au lu cu,.slice ag lg cg,.bool r,.int .i64 m] 81)) (.int .i64 cu') (.int .i64 cg') (.slice ca cl cc) (.bool cr) 37
  rw [eA] at hY
  clear eA
  go_enter Tryz.func89,Tryz.ntmps89
  go_wp2_with fail
  refine (hcl.out _ (bl2N _ _ _)).mono ?_
  rintro e w1 ⟨rfl,hb⟩
  have hW1:Hid (Below w.heap.size w w1):=(bl2N _ _ _).trans (hb.mono (by simp;omega))
  have HX1:Hid (Box7 w1 w.heap.size (.int .i64 u) (.int .i64 g) (.int .i64 o) (.slice au lu cu) (.slice ag lg cg) (.bool r) (.int .i64 m)):=hX.below hb
  have HY1:Hid (Box4 w1 (w.heap.size+1) (.int .i64 cu') (.int .i64 cg') (.slice ca cl cc) (.bool cr)):=hY.below hb
  clear hb hX hY hcl
  rcases hK with rfl | ⟨rfl,hfn⟩ | rfl | rfl | rfl
  · have hz : Hid (mb = hasZ u want) := (by show _ = _; rw [HM.out]; rfl)
    obtain ⟨xl,x0,x1,x2,x3,x4,x5,x6⟩:=HX1.out
    clear HM hat
    go_wp2_with (go_at_call 136;refine (sl02Has_int _ _ HS.out.u0 HS.out.u1 HS.out.v0 HS.out.v1 _).mono ?_;rintro e w2 ⟨rfl,rfl⟩)
    go_ret
    exact ⟨ret_boolW hz.out.symm,hW1.out⟩
  · have hz : Hid (mb = (hasZ (btAt us (plc us cu')) want && hasZ m want)) := (by show _ = _; rw [HM.out]; rfl)
    have hlt:=fnd_lt hfn
    have e1:=HU.out.1
    rw [e1] at hlt
    have HAT:Hid (atI us cu'=(plc us cu':Int)):=(by show _=_;rw [atI,hfn];rfl)
    have HB2:Hid (0≤btAt us (plc us cu')∧btAt us (plc us cu')≤7):=nm_bt HS.out.nm _ (by omega)
    obtain ⟨b,off,rfl,hbl,hc⟩:=HU.out.2 (by omega)
    have c1:w1.cell? ⟨b,off+plc us cu'*2+1,none⟩=some (.int .i64 (btAt us (plc us cu'))):=(hW1.out.cell (p:=⟨b,off+plc us cu'*2+1,none⟩) hbl).trans (hc _ hlt).2
    obtain ⟨xl,x0,x1,x2,x3,x4,x5,x6⟩:=HX1.out
    obtain ⟨yl,y0,y1,y2,y3⟩:=HY1.out
    rw [HAT.out] at hat
    clear HM hc hbl hfn e1 HAT
    generalize plc us cu'=pp at hat HB2 c1 hlt hz
    have hlt':(pp:Int)<(lu:Int):=by omega
    have hpp:(0:Int)≤(pp:Int):=by omega
    obtain ⟨t0,t1⟩:=HB2.out
    generalize btAt us pp=bt at c1 hz t0 t1
    have cH:Hid (∀ h w,(h=bt∨h=m)→Calls Tryz.prog 136 #[.int .i64 h,.int .i64 want] w fun e w'=>e=.returned (.bool (hasZ h want))∧w'=w):=(fun h w hh=>by
      rcases hh with rfl | rfl
      · exact sl02Has_int _ _ t0 t1 HS.out.v0 HS.out.v1 w
      · exact sl02Has_int _ _ HS.out.m0 HS.out.m1 HS.out.v0 HS.out.v1 w)
    cases hH:hasZ bt want
    · have HH : Hid (hasZ bt want = false) := hH
      have z3:∀ d os,(Go.Sort.grow (redrawn w1 d) os).cell? ⟨w.heap.size,3,none⟩=some (.slice (some ⟨b,off,none⟩) lu cu):=fun d os=>cell_regrown x3 d os
      have z6:∀ d os,(Go.Sort.grow (redrawn w1 d) os).cell? ⟨w.heap.size,6,none⟩=some (.int .i64 m):=fun d os=>cell_regrown x6 d os
      have z0:∀ d os,(Go.Sort.grow (redrawn w1 d) os).cell? ⟨w.heap.size+1,0,none⟩=some (.int .i64 cu'):=fun d os=>cell_regrown y0 d os
      have z1:∀ d os,(Go.Sort.grow (redrawn w1 d) os).cell? ⟨b,off+pp*2+1,none⟩=some (.int .i64 bt):=fun d os=>cell_regrown c1 d os
      have cA:∀ d os,Calls Tryz.prog 137 #[.slice (some ⟨b,off,none⟩) lu cu,.int .i64 cu'] (Go.Sort.grow (redrawn w1 d) os) fun e w''=>e=.returned (.int .i64 (pp:Int))∧∃ p:Regrown,w''=Go.Sort.grow (redrawn w1 p.d) p.os:=fun d os=>Calls.regrown_of ((hat.out _ (Below.on hW1.out (below_regrown w1 d os))).mono fun e w' ⟨h1,h2⟩=>⟨h1,by rw [h2];exact Below.refl _ _⟩)
      have cB:∀ d os,Calls Tryz.prog 136 #[.int .i64 bt,.int .i64 want] (Go.Sort.grow (redrawn w1 d) os) fun e w''=>e=.returned (.bool false)∧∃ p:Regrown,w''=Go.Sort.grow (redrawn w1 p.d) p.os:=fun d os=>Calls.regrown_of ((cH.out bt _ (.inl rfl)).mono fun e w' ⟨h1,h2⟩=>⟨by rw [h1,hH],by rw [h2];exact Below.refl _ _⟩)
      clear hH cH x0 x1 x2 x3 x4 x5 x6 y0 y1 y2 y3 c1
      go_wp2_with fail
      refine wp_region_quiet_below (by kernel_rfl) (by kernel_rfl) ?_
      repeat (go_big_quiet_step (first | exact cA _ _ | exact cB _ _))
      refine wpQuiet_nil ?_
      intro _ hw'
      obtain ⟨⟨dq,osq⟩,hw''⟩:=hw'
      subst hw''
      have hbq:Hid (Below w.heap.size w (Go.Sort.grow (redrawn w1 dq) osq)):=Below.on hW1.out (below_regrown w1 dq osq)
      generalize Go.Sort.grow (redrawn w1 dq) osq=w3 at hbq ⊢
      clear z0 z1 z3 z6 cA cB
      go_wp2
      go_ret
      exact ⟨ret_boolW (by rw [hz.out,HH.out];rfl),hbq.out⟩
    · have HH : Hid (hasZ bt want = true) := hH
      clear hH
      go_wp2_with fail
      go_region_held3 (fun w'=>w'.cell? ⟨w.heap.size,3,none⟩=some (.slice (some ⟨b,off,none⟩) lu cu)∧w'.cell? ⟨w.heap.size,6,none⟩=some (.int .i64 m)∧w'.cell? ⟨w.heap.size+1,0,none⟩=some (.int .i64 cu')∧w'.cell? ⟨b,off+pp*2+1,none⟩=some (.int .i64 bt)) (go_keep)
        (first
          | (go_at_call 137;refine (hat.out _ (below_drewQ hW1.out)).mono ?_;rintro e w3 ⟨rfl,hw3⟩;subst hw3)
          | (go_at_call 136;refine (cH.out _ _ (by first | exact .inl rfl | exact .inr rfl)).mono ?_;rintro e w3 ⟨he,hw3⟩;subst hw3;(try rw [HH.out] at he);subst he))
      go_wp2
      go_ret
      exact ⟨ret_boolW (by rw [hz.out,HH.out];rfl),below_drewQ hW1.out⟩
  · have hz : Hid (mb = hasZ (clsOf g r m) want) := (by show _ = _; rw [HM.out]; rfl)
    obtain ⟨xl,x0,x1,x2,x3,x4,x5,x6⟩:=HX1.out
    clear HM hat
    go_wp2_with fail
    refine (sClass_any u g o au lu cu ag lg cg r m _).mono ?_
    rintro e w2 ⟨rfl,hb⟩
    have hW2:Hid (Below w.heap.size w w2):=Below.on hW1.out hb
    clear hb x0 x1 x2 x3 x4 x5 x6 xl
    go_wp2_with (go_at_call 136;refine (sl02Has_int _ _ HS.out.k0 HS.out.k1 HS.out.v0 HS.out.v1 _).mono ?_;rintro e w2 ⟨rfl,rfl⟩)
    go_ret
    exact ⟨ret_boolW hz.out.symm,hW2.out⟩
  · have hz : Hid (mb = false) := (by show _ = _; rw [HM.out]; rfl)
    clear HM hat
    go_wp2
    go_ret
    exact ⟨ret_boolW hz.out.symm,hW1.out⟩
  · have hz : Hid (mb = hasZ o want) := (by show _ = _; rw [HM.out]; rfl)
    obtain ⟨xl,x0,x1,x2,x3,x4,x5,x6⟩:=HX1.out
    clear HM hat
    go_wp2_with (go_at_call 136;refine (sl02Has_int _ _ HS.out.o0 HS.out.o1 HS.out.v0 HS.out.v1 _).mono ?_;rintro e w2 ⟨rfl,rfl⟩)
    go_ret
    exact ⟨ret_boolW hz.out.symm,hW1.out⟩
def rootB (x:Nd) (want:Int):Bool:=x.k==1||(want%2==0||(x.A.u%2==1||(clsOf x.A.g x.A.r x.A.m%2==1||x.A.o%2==1)))
def letB (x:Nd) (u g:Int) (cl:Nat) (r:Bool) (cf:Nat→Int) (want:Int):Bool:=if r then rootB x want else mayB x.A.u x.A.g x.A.o x.A.us x.A.gs x.A.r x.A.m x.ow x.gr u g cl cf want
structure Ask (x:Nd) (u g:Int) (cl:Nat) (cf:Nat→Int) (want:Int):Prop where
  fine:fineB x.A.u x.A.g x.A.o x.A.us x.A.gs x.A.r x.A.m x.ow x.gr u g cl cf want=true
theorem ask_node {l:List Nd}{now:Int}{k:Nat}{u g:Int}{cl:Nat}{cf:Nat→Int}{want:Int}(h:nodeB l now k=true)(hc:credB u g cl cf=true)(hw:inR 0 7 want=true):Ask (ndAt l k) u g cl cf want:=by
  obtain ⟨_,f2,f3,f4⟩:=node_facts h
  refine ⟨?_⟩
  simp only [fineB,f2,f3,f4,hc,hw,Bool.and_self]
theorem Ask.sound {x:Nd}{u g:Int}{cl:Nat}{cf:Nat→Int}{want:Int}(h:Ask x u g cl cf want):Sound x.A.u x.A.g x.A.o x.A.us x.A.r x.A.m want:=fine_sound h.fine
theorem par2 {n:Int}(h:0≤n):(n.tmod 2=0∧n%2=0)∨(n.tmod 2=1∧n%2=1):=by
  have e:n.tmod 2=n%2:=Int.tmod_eq_emod_of_nonneg h
  rw [e]
  omega
theorem has_one:∀ a,a<8→hasB a 1=(a%2==1):=by decide +kernel
theorem has_or3:∀ a,a<8→∀ b,b<8→∀ c,c<8→hasB ((a ||| b) ||| c) 1=(a%2==1||(b%2==1||c%2==1))∧(a ||| b)<8∧((a ||| b) ||| c)<8:=by decide +kernel
theorem nat_par (a:Nat):(a%2==1)=(((a:Int)%2)==1):=by
  have h:a%2=0∨a%2=1:=by omega
  rcases h with h | h
  · have : (a : Int) % 2 = 0 := by omega
    rw [h,this];rfl
  · have : (a : Int) % 2 = 1 := by omega
    rw [h,this];rfl
theorem hasZ_one {n:Int}(h0:0≤n)(h1:n≤7):hasZ n 1=(n%2==1):=by
  obtain ⟨a,rfl⟩:=Int.eq_ofNat_of_zero_le h0
  rw [show (1:Int)=((1:Nat):Int) from rfl,hasZ_in (by omega) (by omega),has_one a (by omega),nat_par]
  rfl
theorem hasZ_or3 {p q s:Int}(p0:0≤p)(p1:p≤7)(q0:0≤q)(q1:q≤7)(s0:0≤s)(s1:s≤7):hasZ (bits .or .i64 (bits .or .i64 p q) s) 1=(p%2==1||(q%2==1||s%2==1)):=by
  obtain ⟨a,rfl⟩:=Int.eq_ofNat_of_zero_le p0
  obtain ⟨b,rfl⟩:=Int.eq_ofNat_of_zero_le q0
  obtain ⟨c,rfl⟩:=Int.eq_ofNat_of_zero_le s0
  obtain ⟨h1,h2,h3⟩:=has_or3 a (by omega) b (by omega) c (by omega)
  rw [i64_or_nat a b (by omega) (by omega),i64_or_nat (a ||| b) c (by omega) (by omega),show (1:Int)=((1:Nat):Int) from rfl,hasZ_in (by omega) (by omega),h1,nat_par,nat_par,nat_par]
  rfl
theorem rootB_has {x:Nd}{u g:Int}{cl:Nat}{cf:Nat→Int}{want:Int}(h:Ask x u g cl cf want):rootB x want=(x.k==1||(!hasZ want 1||hasZ (bits .or .i64 (bits .or .i64 x.A.u (clsOf x.A.g x.A.r x.A.m)) x.A.o) 1)):=by
  have s:=h.sound
  rw [hasZ_or3 s.u0 s.u1 s.k0 s.k1 s.o0 s.o1,hasZ_one s.v0 s.v1,rootB]
  have hp:=par2 s.v0
  rcases hp with ⟨_,hp⟩ | ⟨_,hp⟩<;>rw [hp]<;>rfl
end Go.Proofs.YtabfdidnjibdeaaGreatDoor
