/- Laid together: Place, Splice, DropMath, AclClass. -/
import Derived.Test.YtabfdidnjibdeaaGreatDoorBR24
import Derived.Test.YtabfdidnjibdeaaGreatDoorBR23
namespace Go.Proofs.YtabfdidnjibdeaaGreatDoor
open Go.RowKit Go.PlainAid Go.Deep
set_option linter.unusedVariables false
set_option maxHeartbeats 1000000 in
theorem idOf_any (x y:Int)(w:World) :
    Calls Tryz.prog 179 #[.agg #[.int .i64 x,.int .i64 y]] w fun e w'=>e=.returned (.int .i64 x)∧Below w.heap.size w w':=by
  go_enter Tryz.func179,Tryz.ntmps179
  go_wp2
  go_ret
  exact ⟨rfl,bel_alloc _ _⟩
theorem ret_pair {a c:Int}{b d:Bool}(h:a=c)(h2:b=d):Ending.returned (.tuple #[.int .i64 a,.bool b])=Ending.returned (.tuple #[.int .i64 c,.bool d]):=by rw [h,h2]
def plc (l:List (Int × Int)) (key:Int):Nat:=l.findIdx (fun p=>decide (key≤p.1))
def fnd (l:List (Int × Int)) (key:Int):Bool:=decide (plc l key<l.length)&&decide (idAt l (plc l key)=key)
theorem idAt_get {l:List (Int × Int)}{k:Nat}(h:k<l.length):idAt l k=(l[k]).1:=by simp [idAt,List.getD,h]
theorem plc_at {l:List (Int × Int)}{key:Int}{k:Nat}(hk:k<l.length)(hlo:∀ j,j<k→idAt l j<key)(hhi:key≤idAt l k):plc l key=k:=by
  rw [plc,List.findIdx_eq hk]
  refine ⟨by rw [←idAt_get hk];simpa using hhi,fun j hj=>?_⟩
  have:=hlo j hj
  rw [idAt_get (by omega)] at this
  simp;omega
theorem plc_none {l:List (Int × Int)}{key:Int}(hlo:∀ j,j<l.length→idAt l j<key):plc l key=l.length:=by
  rw [plc,List.findIdx_eq_length]
  intro x hx
  obtain ⟨j,hj,rfl⟩:=List.mem_iff_getElem.1 hx
  have:=hlo j hj
  rw [idAt_get hj] at this
  simp;omega
theorem fnd_at {l:List (Int × Int)}{key:Int}{k:Nat}(hk:k<l.length)(h:plc l key=k):fnd l key=decide (idAt l k=key):=by simp [fnd,h,hk]
theorem fnd_none {l:List (Int × Int)}{key:Int}(h:plc l key=l.length):fnd l key=false:=by simp [fnd,h]
set_option maxHeartbeats 1000000 in
theorem placeOf_none (a:Option Addr)(cap:Nat)(key:Int)(w:World) :
    Calls Tryz.prog 178 #[.slice a 0 cap,.int .i64 key,.func (.func 179) #[] #[]] w fun e w'=>e=.returned (.tuple #[.int .i64 0,.bool false])∧w'=w:=by
  go_enter Tryz.func178,Tryz.ntmps178
  go_wp2
  go_rounds 1
  go_ret2
  exact ⟨rfl,rfl⟩
set_option maxRecDepth 100000 in
set_option maxHeartbeats 4000000 in
theorem placeOf_some (b off cap:Nat)(l:List (Int × Int))(key:Int)(hl:l.length≤1000000)(w:World)(hb:b<w.heap.size)(hc:∀ i,i<l.length→w.cell? ⟨b,off+i*2,none⟩=some (.int .i64 (idAt l i))∧w.cell? ⟨b,off+i*2+1,none⟩=some (.int .i64 (btAt l i))) :
    Calls Tryz.prog 178 #[.slice (some ⟨b,off,none⟩) l.length cap,.int .i64 key,.func (.func 179) #[] #[]] w fun e w'=>e=.returned (.tuple #[.int .i64 (plc l key),.bool (fnd l key)])∧Below w.heap.size w w':=by
  have HC:Hid (∀ i,i<l.length→w.cell? ⟨b,off+i*2,none⟩=some (.int .i64 (idAt l i))∧w.cell? ⟨b,off+i*2+1,none⟩=some (.int .i64 (btAt l i))):=hc
  have HA:Hid (∀ k,k<l.length→(∀ j,j<k→idAt l j<key)→key≤idAt l k→plc l key=k∧fnd l key=decide (idAt l k=key)):=(fun k hk h1 h2=>⟨plc_at hk h1 h2,fnd_at hk (plc_at hk h1 h2)⟩)
  have HE:Hid ((∀ j,j<l.length→idAt l j<key)→plc l key=l.length∧fnd l key=false):=(fun h=>⟨plc_none h,fnd_none (plc_none h)⟩)
  clear hc
  generalize hlen:l.length=len at hl HC HA HE ⊢
  clear hlen
  generalize plc l key=pp at HA HE ⊢
  generalize fnd l key=ff at HA HE ⊢
  go_enter Tryz.func178,Tryz.ntmps178
  go_wp2
  go_loopw [13] (fun i wr=>∃ k:Nat,k≤len∧i=.int .i64 k∧Hid (∀ j,j<k→idAt l j<key)∧Hid (Below w.heap.size w wr)) (fun i _=>len-(intOf i).toNat)
  case atStart=>exact ⟨0,Nat.zero_le _,rfl,fun j hj=>absurd hj (by omega),Below.refl _ _⟩
  case round =>
    obtain ⟨k,hk,rfl,hto,hB⟩:=hrel
    by_cases hlt:k<len
    · have hlt' : (k : Int) < (len : Int) := by omega
      have g0:wr.cell? ⟨b,off+k*2,none⟩=some (.int .i64 (idAt l k)):=(hB.out.cell (p:=⟨b,off+k*2,none⟩) hb).trans (HC.out k hlt).1
      have g1:wr.cell? ⟨b,off+k*2+1,none⟩=some (.int .i64 (btAt l k)):=(hB.out.cell (p:=⟨b,off+k*2+1,none⟩) hb).trans (HC.out k hlt).2
      have hBA:Hid (Below w.heap.size w (wr.alloc (.cells #[.int .i64 (idAt l k),.int .i64 (btAt l k)] 180))):=Below.onA hB.out
      by_cases hge:key≤idAt l k
      · obtain ⟨p1, p2⟩ := HA.out k hlt hto.out hge
        have P1:Hid (pp=k):=p1
        have P2:Hid (ff=decide (idAt l k=key)):=p2
        clear p1 p2 HA HE hto
        go_wp2_with (go_at_call 179;refine (idOf_any _ _ _).mono ?_;rintro e w2 ⟨rfl,hb2⟩)
        go_ret2
        exact ⟨ret_pair (by rw [P1.out]) (by rw [P2.out];rfl),Below.on hBA.out hb2⟩
      · have hd : decide (key ≤ idAt l k) = false := decide_eq_false hge
        have hto2:Hid (∀ j,j<k+1→idAt l j<key):=(fun j hj=>by
          by_cases e:j=k
          · subst e;omega
          · exact hto.out j (by omega))
        clear hge hto HA HE
        go_wp2_with (go_at_call 179;refine (idOf_any _ _ _).mono ?_;rintro e w2 ⟨rfl,hb2⟩)
        go_roundw
        case rel=>exact ⟨k+1,by omega,by go_num,hto2,Below.on hBA.out hb2⟩
        case measure=>simp [intOf];omega
    · have : k = len := by omega
      subst this
      obtain ⟨p1,p2⟩:=HE.out hto.out
      have P1:Hid (pp=k):=p1
      have P2:Hid (ff=false):=p2
      clear p1 p2 HA HE hto
      go_wp2
      go_ret2
      exact ⟨ret_pair (by rw [P1.out]) P2.out.symm,hB.out⟩
theorem placeOf_any (a:Option Addr)(len cap:Nat)(l:List (Int × Int))(key:Int)(hl:len≤1000000)(w:World)(hi:Prs a len l w) :
    Calls Tryz.prog 178 #[.slice a len cap,.int .i64 key,.func (.func 179) #[] #[]] w fun e w'=>e=.returned (.tuple #[.int .i64 (plc l key),.bool (fnd l key)])∧Below w.heap.size w w':=by
  obtain ⟨hln,hp⟩:=hi
  subst hln
  by_cases h0:l.length=0
  · have e : plc l key = l.length := plc_none (fun j hj => absurd hj (by omega))
    rw [fnd_none e,e,h0]
    refine (placeOf_none a cap key w).mono ?_
    rintro e w' ⟨rfl,rfl⟩
    exact ⟨rfl,Below.refl _ _⟩
  · obtain ⟨b, off, rfl, hlt, hc⟩ := hp (by omega)
    exact placeOf_some b off cap l key hl w hlt hc
theorem nmRises_at {l:List (Int × Int)}:∀ {n k:Nat},nmRises l n=true→k<n→okN l k=true:=by
  intro n
  induction n with
  | zero=>intro k _ h;omega
  | succ n ih =>
    intro k h hk
    simp only [nmRises,Bool.and_eq_true] at h
    by_cases e:k=n
    · subst e;exact h.2
    · exact ih h.1 (by omega)
theorem nm_up {l:List (Int × Int)}(h:nmB l=true):∀ j,j<l.length→∀ i,i<j→idAt l i<idAt l j:=by
  have hr:nmRises l l.length=true:=by
    simp only [nmB,Bool.and_eq_true] at h
    exact h.2
  have step:∀ k,k+1<l.length→idAt l k<idAt l (k+1):=by
    intro k hk
    have:=nmRises_at hr hk
    simp [okN] at this
    exact this.2.2
  intro j
  induction j with
  | zero=>intro _ i hi;omega
  | succ j ih =>
    intro hj i hi
    by_cases e:i=j
    · subst e;exact step i hj
    · have := ih (by omega) i (by omega)
      have h2:=step j hj
      omega
theorem fnd_eq {l:List (Int × Int)}(h:nmB l=true){key:Int}{k:Nat}(hk:k<l.length)(e:idAt l k=key):fnd l key=true∧plc l key=k:=by
  have hp:plc l key=k:=plc_at hk (fun j hj=>by have:=nm_up h k hk j hj;omega) (by omega)
  refine ⟨?_,hp⟩
  rw [fnd_at hk hp]
  simp [e]
theorem fnd_ne {l:List (Int × Int)}{key:Int}(hne:∀ j,j<l.length→idAt l j≠key):fnd l key=false:=by
  unfold fnd
  by_cases h:plc l key<l.length
  · simp [h,hne _ h]
  · simp [h]
theorem fnd_lt {l:List (Int × Int)}{key:Int}(h:fnd l key=true):plc l key<l.length:=by
  unfold fnd at h
  simp at h
  exact h.1
theorem Box8.other {w:World}{B b o:Nat}{v0 v1 v2 v3 v4 v5 v6 v7 v:Value}(h:Box8 w B v0 v1 v2 v3 v4 v5 v6 v7)(hne:b≠B):Box8 (w.setCell ⟨b,o,none⟩ v) B v0 v1 v2 v3 v4 v5 v6 v7 :=
  h.keep (by simpa using h.lt) (fun o2=>World.cell?_setCell_other _ _ _ _ (by intro h;have h2:=congrArg Addr.block h;simp only at h2;omega))
set_option maxHeartbeats 1000000 in
theorem sAt_none (a:Option Addr)(cap:Nat)(key:Int)(w:World) :
    Calls Tryz.prog 137 #[.slice a 0 cap,.int .i64 key] w fun e w'=>e=.returned (.int .i64 (-1))∧w'=w:=by
  go_enter Tryz.func137,Tryz.ntmps137
  go_wp2
  go_rounds 1
  go_ret
  exact ⟨rfl,rfl⟩
def atI (l:List (Int × Int)) (key:Int):Int:=if fnd l key then (plc l key:Int) else -1
set_option maxRecDepth 100000 in
set_option maxHeartbeats 4000000 in
theorem sAt_some (b off cap:Nat)(l:List (Int × Int))(key:Int)(hl:l.length≤1000000)(hr:nmB l=true)(w:World)(hc:∀ i,i<l.length→w.cell? ⟨b,off+i*2,none⟩=some (.int .i64 (idAt l i))∧w.cell? ⟨b,off+i*2+1,none⟩=some (.int .i64 (btAt l i))) :
    Calls Tryz.prog 137 #[.slice (some ⟨b,off,none⟩) l.length cap,.int .i64 key] w fun e w'=>e=.returned (.int .i64 (atI l key))∧w'=w:=by
  have HC:Hid (∀ i,i<l.length→w.cell? ⟨b,off+i*2,none⟩=some (.int .i64 (idAt l i))∧w.cell? ⟨b,off+i*2+1,none⟩=some (.int .i64 (btAt l i))):=hc
  have HA:Hid (∀ k,k<l.length→idAt l k=key→atI l key=(k:Int)):=(fun k hk e=>by
    obtain ⟨h1,h2⟩:=fnd_eq hr hk e
    rw [atI,h1,h2];rfl)
  have HE:Hid ((∀ j,j<l.length→(idAt l j==key)=false)→atI l key=-1):=(fun h=>by rw [atI,fnd_ne (fun j hj=>by simpa using h j hj)];rfl)
  clear hc hr
  generalize hlen:l.length=len at hl HC HA HE ⊢
  clear hlen
  generalize atI l key=pp at HA HE ⊢
  go_enter Tryz.func137,Tryz.ntmps137
  go_wp2
  go_loop [5] (fun i=>∃ k:Nat,k≤len∧i=.int .i64 k∧∀ j,j<k→Hid ((idAt l j==key)=false)) (fun i=>len-(intOf i).toNat)
  case atStart=>exact ⟨0,Nat.zero_le _,rfl,fun j hj=>absurd hj (by omega)⟩
  case round =>
    obtain ⟨k,hk,rfl,hto⟩:=hrel
    by_cases hlt:k<len
    · have hlt' : (k : Int) < (len : Int) := by omega
      obtain ⟨g0,_⟩:=HC.out k hlt
      cases he:(idAt l k==key)
      · have hto2:∀ j,j<k+1→Hid ((idAt l j==key)=false):=fun j hj=>by
          by_cases e:j=k
          · subst e;exact he
          · exact hto j (by omega)
        clear hto HA HE
        go_wp2
        go_round
        case rel=>exact ⟨k+1,by omega,by go_num,hto2⟩
        case measure=>simp [intOf];omega
      · have hy : Hid (pp = (k : Int)) := HA.out k hlt (by simpa using he)
        clear hto HA HE
        go_wp2
        go_ret
        exact ⟨ret_intM hy.out.symm,rfl⟩
    · have : k = len := by omega
      subst this
      have hy:Hid (pp=-1):=HE.out (fun j hj=>(hto j hj).out)
      clear hto HA HE
      go_wp2
      go_ret
      exact ⟨ret_intM hy.out.symm,rfl⟩
theorem sAt_any (a:Option Addr)(len cap:Nat)(l:List (Int × Int))(key:Int)(hr:nmB l=true)(w:World)(hi:Prs a len l w) :
    Calls Tryz.prog 137 #[.slice a len cap,.int .i64 key] w fun e w'=>e=.returned (.int .i64 (atI l key))∧w'=w:=by
  obtain ⟨hln,hp⟩:=hi
  subst hln
  have hlen:=nm_len hr
  by_cases h0:l.length=0
  · have e : atI l key = -1 := by rw [atI, fnd_ne (fun j hj => absurd hj (by omega))]; rfl
    rw [e,h0]
    exact sAt_none a cap key w
  · obtain ⟨b, off, rfl, hlt, hc⟩ := hp (by omega)
    exact sAt_some b off cap l key (by omega) hr w hc
def whichB (g:Int) (us gs:List (Int × Int)) (owner group cu':Int) (P:Int→Bool) (want:Int):Int :=
  if cu'==owner then 1 else if fnd us cu' then 2 else goC (allTo (P group&&hasZ g want) P gs want gs.length) (inTo (P group) P gs gs.length)
def fineB (u g o:Int) (us gs:List (Int × Int)) (r:Bool) (m owner group cu' cg':Int) (cl:Nat) (cf:Nat→Int) (want:Int):Bool :=
  aclB u g o us gs r m&&(inR 0 9999 owner&&(inR 0 9999 group&&(credB cu' cg' cl cf&&inR 0 7 want)))
def classB (u g o:Int) (us gs:List (Int × Int)) (r:Bool) (m owner group cu' cg':Int) (cl:Nat) (cf:Nat→Int) (want:Int):Int :=
  if fineB u g o us gs r m owner group cu' cg' cl cf want then whichB g us gs owner group cu' (inGB cu' cg' cl cf) want else 0
theorem goC_cons (P:Int→Bool)(group g:Int)(gs:List (Int × Int))(want:Int)(lg:Nat)(h:gs.length=lg):goC (allTo false P ((group,g) :: gs) want (1+lg)) (inTo false P ((group,g) :: gs) (1+lg))=goC (allTo (P group&&hasZ g want) P gs want gs.length) (inTo (P group) P gs gs.length):=by
  rw [h,Nat.add_comm 1 lg,allTo_cons,inTo_cons]
set_option maxRecDepth 100000 in
set_option maxHeartbeats 8000000 in
theorem iAclClass_any (u g o:Int)(au:Option Addr)(lu cu:Nat)(ag:Option Addr)(lg cg:Nat)(r:Bool)(m:Int)(us gs:List (Int × Int))(owner group:Int)(cu' cg':Int)(ca:Option Addr)(cl cc:Nat)(cr:Bool)(cf:Nat→Int)(want:Int)(w:World)(hu:Prs au lu us w)(hg:Prs ag lg gs w)(hci:Ints ca cl cf w) :
    Calls Tryz.prog 177 #[.agg #[.int .i64 u,.int .i64 g,.int .i64 o,.slice au lu cu,.slice ag lg cg,.bool r,.int .i64 m],.int .i64 owner,.int .i64 group,.agg #[.int .i64 cu',.int .i64 cg',.slice ca cl cc,.bool cr],.int .i64 want] w fun e w'=>e=.returned (.int .i64 (classB u g o us gs r m owner group cu' cg' cl cf want))∧Below w.heap.size w w':=by
  have e2:=hg.1
  have hc:Hid (∀ w',Below w.heap.size w w'→Calls Tryz.prog 152 #[.agg #[.int .i64 u,.int .i64 g,.int .i64 o,.slice au lu cu,.slice ag lg cg,.bool r,.int .i64 m]] w' fun e w''=>e=.returned (.bool (aclB u g o us gs r m))∧Below w'.heap.size w' w''):=(fun w' hb=>iAclRight_any u g o au lu cu ag lg cg r m us gs w' (hu.below hb) (hg.below hb))
  have hcr:Hid (∀ w',Below w.heap.size w w'→Calls Tryz.prog 39 #[.agg #[.int .i64 cu',.int .i64 cg',.slice ca cl cc,.bool cr]] w' fun e w''=>e=.returned (.bool (credB cu' cg' cl cf))∧Below w'.heap.size w' w''):=(fun w' hb=>iCredRight_any cu' cg' ca cl cc cr cf w' (hci.below hb))
  have hpl:Hid (aclB u g o us gs r m=true→∀ w',Below w.heap.size w w'→Calls Tryz.prog 178 #[.slice au lu cu,.int .i64 cu',.func (.func 179) #[] #[]] w' fun e w''=>e=.returned (.tuple #[.int .i64 (plc us cu'),.bool (fnd us cu')])∧Below w'.heap.size w' w''):=(fun h w' hb=>by
    obtain ⟨_,_,_,_,m1,m2⟩:=aclB_parts h
    have l1:=nm_len m1
    have:=hu.1
    exact placeOf_any au lu cu us cu' (by omega) w' (hu.below hb))
  have hgo:Hid (aclB u g o us gs r m=true→∀ w',Below w.heap.size w w'→Calls Tryz.prog 219 #[.agg #[.int .i64 u,.int .i64 g,.int .i64 o,.slice au lu cu,.slice ag lg cg,.bool r,.int .i64 m],.int .i64 group,.agg #[.int .i64 cu',.int .i64 cg',.slice ca cl cc,.bool cr],.int .i64 want] w' fun e w''=>e=.returned (.int .i64 (goC (allTo (inGB cu' cg' cl cf group&&hasZ g want) (inGB cu' cg' cl cf) gs want gs.length) (inTo (inGB cu' cg' cl cf group) (inGB cu' cg' cl cf) gs gs.length)))∧Below w'.heap.size w' w''):=(fun h w' hb=>by
    obtain ⟨_,_,_,_,m1,m2⟩:=aclB_parts h
    have l2:=nm_len m2
    have:=groupOrOther_any u g o au lu cu ag lg cg r m gs group cu' cg' ca cl cc cr cf want w' (hg.below hb) (hci.below hb) (by omega)
    rw [goC_cons _ _ _ _ _ _ e2] at this
    exact this)
  have HF:Hid (∀ x,fineB u g o us gs r m owner group cu' cg' cl cf want=x→classB u g o us gs r m owner group cu' cg' cl cf want=if x then whichB g us gs owner group cu' (inGB cu' cg' cl cf) want else 0):=(fun x h=>by rw [classB,h])
  have HFI:Hid (fineB u g o us gs r m owner group cu' cg' cl cf want=(aclB u g o us gs r m&&(inR 0 9999 owner&&(inR 0 9999 group&&(credB cu' cg' cl cf&&inR 0 7 want))))):=rfl
  have HW:Hid (whichB g us gs owner group cu' (inGB cu' cg' cl cf) want=if cu'==owner then 1 else if fnd us cu' then 2 else goC (allTo (inGB cu' cg' cl cf group&&hasZ g want) (inGB cu' cg' cl cf) gs want gs.length) (inTo (inGB cu' cg' cl cf group) (inGB cu' cg' cl cf) gs gs.length)):=rfl
  clear hu hg hci e2
  generalize fineB u g o us gs r m owner group cu' cg' cl cf want=fb at HF HFI
  generalize classB u g o us gs r m owner group cu' cg' cl cf want=cb at HF ⊢
  generalize whichB g us gs owner group cu' (inGB cu' cg' cl cf) want=wb at HF HW
  generalize goC (allTo (inGB cu' cg' cl cf group&&hasZ g want) (inGB cu' cg' cl cf) gs want gs.length) (inTo (inGB cu' cg' cl cf group) (inGB cu' cg' cl cf) gs gs.length)=gc at HW hgo
  go_enter Tryz.func177,Tryz.ntmps177
  go_wp2_with fail
  refine (hc.out _ (bl2N _ _ _)).mono ?_
  rintro e w1 ⟨rfl,hb⟩
  have hW1:Hid (Below w.heap.size w w1):=(bl2N _ _ _).trans (hb.mono (by simp;omega))
  have hX:=((box7_new w (.int .i64 u) (.int .i64 g) (.int .i64 o) (.slice au lu cu) (.slice ag lg cg) (.bool r) (.int .i64 m) 81).below (bel_alloc _ (.cells #[.int .i64 cu',.int .i64 cg',.slice ca cl cc,.bool cr] 37))).below hb
  have eA:(w.alloc (.cells #[.int .i64 u,.int .i64 g,.int .i64 o,.slice au lu cu,.slice ag lg cg,.bool r,.int .i64 m] 81)).heap.size=w.heap.size+1:=by simp
  have hY:=(box4_new (w.alloc (.cells #[.int .i64 u,.int .i64 g,.int .i64 o,.slice au lu cu,.slice ag lg cg,.bool r,.int .i64 m] 81)) (.int .i64 cu') (.int .i64 cg') (.slice ca cl cc) (.bool cr) 37).below hb
  rw [eA] at hY
  clear hb hc eA
  cases h:aclB u g o us gs r m
  · have hno : Hid (cb = 0) := (by show _ = _; rw [HF.out false (by rw [HFI.out, h]; rfl)]; rfl)
    clear h hcr hpl hgo HF HFI HW hX hY
    go_wp2
    go_ret
    exact ⟨ret_intM hno.out.symm,hW1.out⟩
  cases h1:inR 0 9999 owner
  · have hno : Hid (cb = 0) := (by show _ = _; rw [HF.out false (by rw [HFI.out, h, h1]; rfl)]; rfl)
    clear h hcr hpl hgo HF HFI HW hX hY
    go_wp2_with (go_at_call 73;refine (isId_any _ _).mono ?_;rintro e w' ⟨rfl,rfl⟩)
    go_ret
    exact ⟨ret_intM hno.out.symm,hW1.out⟩
  cases h2:inR 0 9999 group
  · have hno : Hid (cb = 0) := (by show _ = _; rw [HF.out false (by rw [HFI.out, h, h1, h2]; rfl)]; rfl)
    clear h hcr hpl hgo HF HFI HW hX hY
    go_wp2_with (go_at_call 73;refine (isId_any _ _).mono ?_;rintro e w' ⟨rfl,rfl⟩)
    go_ret
    exact ⟨ret_intM hno.out.symm,hW1.out⟩
  obtain ⟨yl,y0,y1,y2,y3⟩:=hY
  have hpl2:=hpl.out h
  have hgo2:=hgo.out h
  have HPL:Hid _:=hpl2
  have HGO:Hid _:=hgo2
  have HFJ:Hid (fb=(credB cu' cg' cl cf&&inR 0 7 want)):=(by show _=_;rw [HFI.out,h,h1,h2];rfl)
  clear hpl hgo hpl2 hgo2 HFI h
  go_wp2_with (go_at_call 73;refine (isId_any _ _).mono ?_;rintro e w' ⟨rfl,rfl⟩)
  refine (hcr.out _ hW1.out).mono ?_
  rintro e w2 ⟨rfl,hb⟩
  have hW2:Hid (Below w.heap.size w w2):=Below.on hW1.out hb
  have hX2:=hX.below hb
  have hY2:=(Box4.mk yl y0 y1 y2 y3).below hb
  clear hb hcr hX y0 y1 y2 y3 yl hW1
  cases h3:credB cu' cg' cl cf
  · have hno : Hid (cb = 0) := (by show _ = _; rw [HF.out false (by rw [HFJ.out, h3]; rfl)]; rfl)
    clear h1 h2 h3 HPL HGO HF HFJ HW hX2 hY2
    go_wp2
    go_ret
    exact ⟨ret_intM hno.out.symm,hW2.out⟩
  cases h4:inR 0 7 want
  · have hno : Hid (cb = 0) := (by show _ = _; rw [HF.out false (by rw [HFJ.out, h3, h4]; rfl)]; rfl)
    clear h1 h2 h3 HPL HGO HF HFJ HW hX2 hY2
    go_wp2_with (go_at_call 91;refine (isBits_any _ _).mono ?_;rintro e w' ⟨rfl,rfl⟩)
    go_ret
    exact ⟨ret_intM hno.out.symm,hW2.out⟩
  have hyes:Hid (cb=wb):=(by show _=_;rw [HF.out true (by rw [HFJ.out,h3,h4];rfl)];rfl)
  obtain ⟨xl,x0,x1,x2,x3,x4,x5,x6⟩:=hX2
  obtain ⟨yl,y0,y1,y2,y3⟩:=hY2
  clear h1 h2 h3 HF HFJ
  cases ho:(cu'==owner)
  · have HW2 : Hid (wb = if fnd us cu' then 2 else gc) := (by show _ = _; rw [HW.out, ho]; rfl)
    clear HW
    go_wp2_with (go_at_call 91;refine (isBits_any _ _).mono ?_;rintro e w' ⟨rfl,rfl⟩)
    refine (HPL.out _ hW2.out).mono ?_
    rintro e w3 ⟨rfl,hb⟩
    have hW3:Hid (Below w.heap.size w w3):=Below.on hW2.out hb
    have hX3:=(Box7.mk xl x0 x1 x2 x3 x4 x5 x6).below hb
    have hY3:=(Box4.mk yl y0 y1 y2 y3).below hb
    clear hb xl x0 x1 x2 x3 x4 x5 x6 yl y0 y1 y2 y3 HPL hW2 h4 ho
    generalize plc us cu'=pp
    cases hf:fnd us cu'
    · have hz : Hid (cb = gc) := (by show _ = _; rw [hyes.out, HW2.out, hf]; rfl)
      clear hyes HW2 hf
      obtain ⟨xl,x0,x1,x2,x3,x4,x5,x6⟩:=hX3
      obtain ⟨yl,y0,y1,y2,y3⟩:=hY3
      go_wp2_with fail
      refine (HGO.out _ hW3.out).mono ?_
      rintro e w4 ⟨rfl,hb⟩
      have hW4:Hid (Below w.heap.size w w4):=Below.on hW3.out hb
      clear hb HGO
      go_wp2
      go_ret
      exact ⟨ret_intM hz.out.symm,hW4.out⟩
    · have hz : Hid (cb = 2) := (by show _ = _; rw [hyes.out, HW2.out, hf]; rfl)
      clear hyes HW2 hf HGO hX3 hY3
      go_wp2
      go_ret
      exact ⟨ret_intM hz.out.symm,hW3.out⟩
  · have hz : Hid (cb = 1) := (by show _ = _; rw [hyes.out, HW.out, ho]; rfl)
    clear hyes HW HPL HGO
    go_wp2_with (go_at_call 91;refine (isBits_any _ _).mono ?_;rintro e w' ⟨rfl,rfl⟩)
    go_ret
    exact ⟨ret_intM hz.out.symm,hW2.out⟩
end Go.Proofs.YtabfdidnjibdeaaGreatDoor
