/- Laid together: NamedRight, AclRight, TrI1, TrI0. -/
import Derived.Test.YtabfdidnjibdeaaGreatDoorBR4
import Derived.Laws.ResultCell
namespace Go.Proofs.YtabfdidnjibdeaaGreatDoor
open Go.RowKit Go.PlainAid
set_option linter.unusedVariables false
theorem below_drewM {B:Nat}{w w':World}(h:Below B w w')(n:Nat):Below B w (w'.drewN n):=h.trans ⟨rfl,rfl,rfl,Nat.le_refl _,fun _ _=>rfl⟩
theorem pair_new (w:World)(v0 v1:Value)(t:TypeId):(w.alloc (.cells #[v0,v1] t)).cell? ⟨w.heap.size,0,none⟩=some v0∧(w.alloc (.cells #[v0,v1] t)).cell? ⟨w.heap.size,1,none⟩=some v1:=by
  have hb:(w.alloc (.cells #[v0,v1] t)).heap[w.heap.size]?=some (.cells #[v0,v1] t):=by
    rw [World.alloc]
    exact Array.getElem?_push_size
  refine ⟨?_,?_⟩<;>(simp only [World.cell?,hb];rfl)
set_option maxHeartbeats 1000000 in
theorem named_long (a:Option Addr)(len cap:Nat)(h:6<(len:Int))(w:World) :
    Calls Tryz.prog 206 #[.slice a len cap] w fun e w'=>e=.returned (.bool false)∧w'=w:=by
  go_enter Tryz.func206,Tryz.ntmps206
  go_wp2
  go_ret
  exact ⟨rfl,rfl⟩
set_option maxHeartbeats 1000000 in
theorem named_none (a:Option Addr)(cap:Nat)(w:World) :
    Calls Tryz.prog 206 #[.slice a 0 cap] w fun e w'=>e=.returned (.bool true)∧w'=w:=by
  go_enter Tryz.func206,Tryz.ntmps206
  go_wp2
  go_rounds 1
  go_ret
  exact ⟨rfl,rfl⟩
set_option maxHeartbeats 4000000 in
theorem named_some (b off cap:Nat)(l:List (Int × Int))(hl:l.length≤6)(w:World)(hb:b<w.heap.size)(hc:∀ i,i<l.length→w.cell? ⟨b,off+i*2,none⟩=some (.int .i64 (idAt l i))∧w.cell? ⟨b,off+i*2+1,none⟩=some (.int .i64 (btAt l i))) :
    Calls Tryz.prog 206 #[.slice (some ⟨b,off,none⟩) l.length cap] w fun e w'=>e=.returned (.bool (nmB l))∧Below w.heap.size w w':=by
  have HC:Hid (∀ i,i<l.length→w.cell? ⟨b,off+i*2,none⟩=some (.int .i64 (idAt l i))∧w.cell? ⟨b,off+i*2+1,none⟩=some (.int .i64 (btAt l i))):=hc
  have HN:Hid (∀ k,k<l.length→okN l k=false→nmB l=false):=(fun k=>nm_no)
  have HY:Hid (nmRises l l.length=true→nmB l=true):=nm_yes hl
  clear hc
  generalize hlen:l.length=len at hl HC HN HY ⊢
  clear hlen
  have d0:decide (6<(len:Int))=false:=by simp;omega
  go_enter Tryz.func206,Tryz.ntmps206
  go_wp2
  go_loopw [10] (fun i wr=>∃ k:Nat,k≤len∧i=.int .i64 k∧Hid (nmRises l k=true)∧Hid (Below w.heap.size w wr)) (fun i _=>len-(intOf i).toNat)
  case atStart=>exact ⟨0,Nat.zero_le _,rfl,rfl,Below.refl _ _⟩
  case round =>
    obtain ⟨k,hk,rfl,hto,hB⟩:=hrel
    by_cases hlt:k<len
    · have hlt' : (k : Int) < (len : Int) := by omega
      have g0:wr.cell? ⟨b,off+k*2,none⟩=some (.int .i64 (idAt l k)):=(hB.out.cell (p:=⟨b,off+k*2,none⟩) hb).trans (HC.out k hlt).1
      have g1:wr.cell? ⟨b,off+k*2+1,none⟩=some (.int .i64 (btAt l k)):=(hB.out.cell (p:=⟨b,off+k*2+1,none⟩) hb).trans (HC.out k hlt).2
      obtain ⟨n0,n1⟩:=pair_new wr (.int .i64 (idAt l k)) (.int .i64 (btAt l k)) 180
      have hBA:Hid (Below w.heap.size w (wr.alloc (.cells #[.int .i64 (idAt l k),.int .i64 (btAt l k)] 180))):=Below.onA hB.out
      cases hid:inR 0 9999 (idAt l k)
      · have hno : Hid (nmB l = false) := HN.out k hlt (okN_id hid)
        go_wp2
        generalize wr.alloc (.cells #[.int .i64 (idAt l k),.int .i64 (btAt l k)] 180)=W at n0 n1 hBA ⊢
        go_quiet ((first | (go_at_call 73;exact Calls.quiet_of_same (isId_any _ _)) | (go_at_call 91;exact Calls.quiet_of_same (isBits_any _ _))))
        go_wp2
        go_ret
        exact ⟨ret_boolW hno.out.symm,below_drewM hBA.out _⟩
      · cases hbt : inR 0 7 (btAt l k)
        · have hno : Hid (nmB l = false) := HN.out k hlt (okN_bt hbt)
          go_wp2
          generalize wr.alloc (.cells #[.int .i64 (idAt l k),.int .i64 (btAt l k)] 180)=W at n0 n1 hBA ⊢
          go_quiet ((first | (go_at_call 73;exact Calls.quiet_of_same (isId_any _ _)) | (go_at_call 91;exact Calls.quiet_of_same (isBits_any _ _))))
          go_wp2
          go_ret
          exact ⟨ret_boolW hno.out.symm,below_drewM hBA.out _⟩
        · cases k with
          | zero =>
            have hok:Hid (okN l 0=true):=okN_first hid hbt
            simp only [Nat.zero_mul,Nat.add_zero] at g0 g1
            go_wp2
            generalize wr.alloc (.cells #[.int .i64 (idAt l 0),.int .i64 (btAt l 0)] 180)=W at n0 n1 hBA ⊢
            go_quiet ((first | (go_at_call 73;exact Calls.quiet_of_same (isId_any _ _)) | (go_at_call 91;exact Calls.quiet_of_same (isBits_any _ _))))
            go_wp2
            go_roundw
            case rel=>exact ⟨1,by omega,by go_num,nmRises_next hto.out hok.out,below_drewM hBA.out _⟩
            case measure=>simp [intOf];omega
          | succ j =>
            have hj':(j:Int)<(len:Int):=by omega
            have hj2:(j:Int)+1<(len:Int):=by omega
            have hj0:(0:Int)<(j:Int)+1:=by omega
            have hj3:(j:Int)+1-1=(j:Int):=by omega
            have gp:(wr.alloc (.cells #[.int .i64 (idAt l (j+1)),.int .i64 (btAt l (j+1))] 180)).cell? ⟨b,off+j*2,none⟩=some (.int .i64 (idAt l j)):=(hBA.out.cell (p:=⟨b,off+j*2,none⟩) hb).trans (HC.out j (by omega)).1
            by_cases hup:idAt l j<idAt l (j+1)
            · have hok : Hid (okN l (j + 1) = true) := okN_up hid hbt hup
              have dd:decide (idAt l (j+1)≤idAt l j)=false:=by simp;omega
              go_wp2
              generalize wr.alloc (.cells #[.int .i64 (idAt l (j+1)),.int .i64 (btAt l (j+1))] 180)=W at n0 n1 gp hBA ⊢
              go_quiet ((first | (go_at_call 73;exact Calls.quiet_of_same (isId_any _ _)) | (go_at_call 91;exact Calls.quiet_of_same (isBits_any _ _))))
              go_wp2
              go_roundw
              case rel=>exact ⟨j+1+1,by omega,by go_num,nmRises_next hto.out hok.out,below_drewM hBA.out _⟩
              case measure=>simp [intOf];omega
            · have hno : Hid (nmB l = false) := HN.out (j + 1) hlt (okN_down hup)
              have dd:idAt l (j+1)≤idAt l j:=by omega
              clear hup
              go_wp2
              generalize wr.alloc (.cells #[.int .i64 (idAt l (j+1)),.int .i64 (btAt l (j+1))] 180)=W at n0 n1 gp hBA ⊢
              go_quiet ((first | (go_at_call 73;exact Calls.quiet_of_same (isId_any _ _)) | (go_at_call 91;exact Calls.quiet_of_same (isBits_any _ _))))
              go_wp2
              go_ret
              exact ⟨ret_boolW hno.out.symm,below_drewM hBA.out _⟩
    · have : k = len := by omega
      subst this
      have hyes:Hid (nmB l=true):=HY.out hto.out
      go_wp2
      go_ret
      exact ⟨ret_boolW hyes.out.symm,hB.out⟩
theorem named_any (a:Option Addr)(len cap:Nat)(l:List (Int × Int))(w:World)(hi:Prs a len l w) :
    Calls Tryz.prog 206 #[.slice a len cap] w fun e w'=>e=.returned (.bool (nmB l))∧Below w.heap.size w w':=by
  obtain ⟨hln,hp⟩:=hi
  subst hln
  by_cases h8:6<l.length
  · rw [nm_long h8]
    refine (named_long a l.length cap (by omega) w).mono ?_
    rintro e w' ⟨rfl,rfl⟩
    exact ⟨rfl,Below.refl _ _⟩
  · by_cases h0 : l.length = 0
    · have e : nmB l = true := nm_yes (by omega) (by rw [h0]; rfl)
      rw [e,h0]
      refine (named_none a cap w).mono ?_
      rintro e w' ⟨rfl,rfl⟩
      exact ⟨rfl,Below.refl _ _⟩
    · obtain ⟨b, off, rfl, hlt, hc⟩ := hp (by omega)
      exact named_some b off cap l (by omega) w hlt hc
set_option maxHeartbeats 1000000 in
theorem sNamed_none (a:Option Addr)(cap:Nat)(w:World) :
    Calls Tryz.prog 156 #[.slice a 0 cap] w fun e w'=>e=.returned (.bool true)∧w'=w:=by
  go_enter Tryz.func156,Tryz.ntmps156
  go_wp2
  go_rounds 1
  go_ret
  exact ⟨rfl,rfl⟩
theorem nm_end {l:List (Int × Int)}(h:nmRises l l.length=true):decide ((l.length:Int)≤6)=nmB l:=by
  by_cases e:l.length≤6
  · have : (l.length : Int) ≤ 6 := by omega
    simp [nmB,h,e,this]
  · have : ¬ (l.length : Int) ≤ 6 := by omega
    simp [nmB,h,e,this]
set_option maxHeartbeats 4000000 in
theorem sNamed_some (b off cap:Nat)(l:List (Int × Int))(hl:l.length≤1048576)(w:World)(hb:b<w.heap.size)(hc:∀ i,i<l.length→w.cell? ⟨b,off+i*2,none⟩=some (.int .i64 (idAt l i))∧w.cell? ⟨b,off+i*2+1,none⟩=some (.int .i64 (btAt l i))) :
    Calls Tryz.prog 156 #[.slice (some ⟨b,off,none⟩) l.length cap] w fun e w'=>e=.returned (.bool (nmB l))∧Below w.heap.size w w':=by
  have HC:Hid (∀ i,i<l.length→w.cell? ⟨b,off+i*2,none⟩=some (.int .i64 (idAt l i))∧w.cell? ⟨b,off+i*2+1,none⟩=some (.int .i64 (btAt l i))):=hc
  have HN:Hid (∀ k,k<l.length→okN l k=false→nmB l=false):=(fun k=>nm_no)
  have HY:Hid (nmRises l l.length=true→decide ((l.length:Int)≤6)=nmB l):=nm_end
  clear hc
  generalize hlen:l.length=len at hl HC HN HY ⊢
  clear hlen
  go_enter Tryz.func156,Tryz.ntmps156
  go_wp2
  go_loopw [3] (fun i wr=>∃ k:Nat,k≤len∧i=.int .i64 k∧Hid (nmRises l k=true)∧Hid (Below w.heap.size w wr)) (fun i _=>len-(intOf i).toNat)
  case atStart=>exact ⟨0,Nat.zero_le _,rfl,rfl,Below.refl _ _⟩
  case round =>
    obtain ⟨k,hk,rfl,hto,hB⟩:=hrel
    by_cases hlt:k<len
    · have hlt' : (k : Int) < (len : Int) := by omega
      have g0:wr.cell? ⟨b,off+k*2,none⟩=some (.int .i64 (idAt l k)):=(hB.out.cell (p:=⟨b,off+k*2,none⟩) hb).trans (HC.out k hlt).1
      have g1:wr.cell? ⟨b,off+k*2+1,none⟩=some (.int .i64 (btAt l k)):=(hB.out.cell (p:=⟨b,off+k*2+1,none⟩) hb).trans (HC.out k hlt).2
      cases hid:inR 0 9999 (idAt l k)
      · have hno : Hid (nmB l = false) := HN.out k hlt (okN_id hid)
        go_wp2
        go_quiet ((first | (go_at_call 65;exact Calls.quiet_of_same (sId_any _ _)) | (go_at_call 46;exact Calls.quiet_of_same (sBits_any _ _))))
        go_wp2
        go_ret
        exact ⟨ret_boolW hno.out.symm,below_drewM hB.out _⟩
      · cases hbt : inR 0 7 (btAt l k)
        · have hno : Hid (nmB l = false) := HN.out k hlt (okN_bt hbt)
          go_wp2
          go_quiet ((first | (go_at_call 65;exact Calls.quiet_of_same (sId_any _ _)) | (go_at_call 46;exact Calls.quiet_of_same (sBits_any _ _))))
          go_wp2
          go_ret
          exact ⟨ret_boolW hno.out.symm,below_drewM hB.out _⟩
        · cases k with
          | zero =>
            have hok:Hid (okN l 0=true):=okN_first hid hbt
            simp only [Nat.zero_mul,Nat.add_zero] at g0 g1
            go_wp2
            go_quiet ((first | (go_at_call 65;exact Calls.quiet_of_same (sId_any _ _)) | (go_at_call 46;exact Calls.quiet_of_same (sBits_any _ _))))
            go_wp2
            go_roundw
            case rel=>exact ⟨1,by omega,by go_num,nmRises_next hto.out hok.out,below_drewM hB.out _⟩
            case measure=>simp [intOf];omega
          | succ j =>
            have hj':(j:Int)<(len:Int):=by omega
            have hj2:(j:Int)+1<(len:Int):=by omega
            have hj0:(0:Int)<(j:Int)+1:=by omega
            have hj3:(j:Int)+1-1=(j:Int):=by omega
            have gp:wr.cell? ⟨b,off+j*2,none⟩=some (.int .i64 (idAt l j)):=(hB.out.cell (p:=⟨b,off+j*2,none⟩) hb).trans (HC.out j (by omega)).1
            by_cases hup:idAt l j<idAt l (j+1)
            · have hok : Hid (okN l (j + 1) = true) := okN_up hid hbt hup
              have dd:decide (idAt l (j+1)≤idAt l j)=false:=by simp;omega
              go_wp2
              go_quiet ((first | (go_at_call 65;exact Calls.quiet_of_same (sId_any _ _)) | (go_at_call 46;exact Calls.quiet_of_same (sBits_any _ _))))
              go_wp2
              go_roundw
              case rel=>exact ⟨j+1+1,by omega,by go_num,nmRises_next hto.out hok.out,below_drewM hB.out _⟩
              case measure=>simp [intOf];omega
            · have hno : Hid (nmB l = false) := HN.out (j + 1) hlt (okN_down hup)
              have dd:idAt l (j+1)≤idAt l j:=by omega
              clear hup
              go_wp2
              go_quiet ((first | (go_at_call 65;exact Calls.quiet_of_same (sId_any _ _)) | (go_at_call 46;exact Calls.quiet_of_same (sBits_any _ _))))
              go_wp2
              go_ret
              exact ⟨ret_boolW hno.out.symm,below_drewM hB.out _⟩
    · have : k = len := by omega
      subst this
      have hyes:Hid (decide ((k:Int)≤6)=nmB l):=HY.out hto.out
      go_wp2
      go_ret
      exact ⟨ret_boolW hyes.out,hB.out⟩
theorem sNamed_any (a:Option Addr)(len cap:Nat)(l:List (Int × Int))(hl:len≤1048576)(w:World)(hi:Prs a len l w) :
    Calls Tryz.prog 156 #[.slice a len cap] w fun e w'=>e=.returned (.bool (nmB l))∧Below w.heap.size w w':=by
  obtain ⟨hln,hp⟩:=hi
  subst hln
  by_cases h0:l.length=0
  · have e : nmB l = true := nm_yes (by omega) (by rw [h0]; rfl)
    rw [e,h0]
    refine (sNamed_none a cap w).mono ?_
    rintro e w' ⟨rfl,rfl⟩
    exact ⟨rfl,Below.refl _ _⟩
  · obtain ⟨b, off, rfl, hlt, hc⟩ := hp (by omega)
    exact sNamed_some b off cap l hl w hlt hc
set_option maxHeartbeats 1000000 in
theorem hasNamed_any (u g o:Int)(au:Option Addr)(lu cu:Nat)(ag:Option Addr)(lg cg:Nat)(r:Bool)(m:Int)(w:World) :
    Calls Tryz.prog 207 #[.agg #[.int .i64 u,.int .i64 g,.int .i64 o,.slice au lu cu,.slice ag lg cg,.bool r,.int .i64 m]] w fun e w'=>e=.returned (.bool (!(lu==0&&lg==0)))∧Below w.heap.size w w':=by
  by_cases h1:lu=0
  · subst h1
    by_cases h2:lg=0
    · subst h2
      go_enter Tryz.func207,Tryz.ntmps207
      go_wp2
      go_ret
      exact ⟨rfl,bel_alloc _ _⟩
    · have e : Hid ((!((0 : Nat) == 0 && lg == 0)) = true) := (by show _ = _; simp [h2])
      have d:0<(lg:Int):=by omega
      clear h2
      go_enter Tryz.func207,Tryz.ntmps207
      go_wp2
      go_ret
      exact ⟨ret_boolW (by rw [e.out];simp;omega),bel_alloc _ _⟩
  · have e : Hid ((!(lu == 0 && lg == 0)) = true) := (by show _ = _; simp [h1])
    have d:0<(lu:Int):=by omega
    clear h1
    go_enter Tryz.func207,Tryz.ntmps207
    go_wp2
    go_ret
    exact ⟨ret_boolW e.out.symm,bel_alloc _ _⟩
theorem aclB_u {u g o:Int}{us gs:List (Int × Int)}{r:Bool}{m:Int}(h:inR 0 7 u=false):aclB u g o us gs r m=false:=by simp [aclB,h]
theorem aclB_g {u g o:Int}{us gs:List (Int × Int)}{r:Bool}{m:Int}(h:inR 0 7 g=false):aclB u g o us gs r m=false:=by simp [aclB,h]
theorem aclB_o {u g o:Int}{us gs:List (Int × Int)}{r:Bool}{m:Int}(h:inR 0 7 o=false):aclB u g o us gs r m=false:=by simp [aclB,h]
theorem aclB_m {u g o:Int}{us gs:List (Int × Int)}{r:Bool}{m:Int}(h:inR 0 7 m=false):aclB u g o us gs r m=false:=by simp [aclB,h]
theorem aclB_us {u g o:Int}{us gs:List (Int × Int)}{r:Bool}{m:Int}(h:nmB us=false):aclB u g o us gs r m=false:=by simp [aclB,h]
theorem aclB_gs {u g o:Int}{us gs:List (Int × Int)}{r:Bool}{m:Int}(h:nmB gs=false):aclB u g o us gs r m=false:=by simp [aclB,h]
theorem aclB_r {u g o:Int}{us gs:List (Int × Int)}{m:Int}(h0:inR 0 7 u=true)(h1:inR 0 7 g=true)(h2:inR 0 7 o=true)(h3:inR 0 7 m=true)(h4:nmB us=true)(h5:nmB gs=true):aclB u g o us gs true m=true:=by simp [aclB, *]
theorem aclB_f {u g o:Int}{us gs:List (Int × Int)}{m:Int}(h0:inR 0 7 u=true)(h1:inR 0 7 g=true)(h2:inR 0 7 o=true)(h3:inR 0 7 m=true)(h4:nmB us=true)(h5:nmB gs=true):aclB u g o us gs false m=(m==0&&(us.length==0&&gs.length==0)):=by simp [aclB, *]
set_option maxHeartbeats 4000000 in
theorem iAclRight_any (u g o:Int)(au:Option Addr)(lu cu:Nat)(ag:Option Addr)(lg cg:Nat)(r:Bool)(m:Int)(us gs:List (Int × Int))(w:World)(hu:Prs au lu us w)(hg:Prs ag lg gs w) :
    Calls Tryz.prog 152 #[.agg #[.int .i64 u,.int .i64 g,.int .i64 o,.slice au lu cu,.slice ag lg cg,.bool r,.int .i64 m]] w fun e w'=>e=.returned (.bool (aclB u g o us gs r m))∧Below w.heap.size w w':=by
  have e1:=hu.1
  have e2:=hg.1
  have hc:Hid (∀ w',Below w.heap.size w w'→Calls Tryz.prog 206 #[.slice au lu cu] w' fun e w''=>e=.returned (.bool (nmB us))∧Below w'.heap.size w' w''):=(fun w' hb=>named_any au lu cu us w' (hu.below hb))
  have hd:Hid (∀ w',Below w.heap.size w w'→Calls Tryz.prog 206 #[.slice ag lg cg] w' fun e w''=>e=.returned (.bool (nmB gs))∧Below w'.heap.size w' w''):=(fun w' hb=>named_any ag lg cg gs w' (hg.below hb))
  clear hu hg
  cases h0:inR 0 7 u
  · have hno : Hid (aclB u g o us gs r m = false) := aclB_u h0
    go_enter Tryz.func152,Tryz.ntmps152
    go_wp2_with (go_at_call 91;refine (isBits_any _ _).mono ?_;rintro e w' ⟨rfl,rfl⟩)
    go_ret
    exact ⟨ret_boolW hno.out.symm,bel_alloc _ _⟩
  cases h1:inR 0 7 g
  · have hno : Hid (aclB u g o us gs r m = false) := aclB_g h1
    go_enter Tryz.func152,Tryz.ntmps152
    go_wp2_with (go_at_call 91;refine (isBits_any _ _).mono ?_;rintro e w' ⟨rfl,rfl⟩)
    go_ret
    exact ⟨ret_boolW hno.out.symm,bel_alloc _ _⟩
  cases h2:inR 0 7 o
  · have hno : Hid (aclB u g o us gs r m = false) := aclB_o h2
    go_enter Tryz.func152,Tryz.ntmps152
    go_wp2_with (go_at_call 91;refine (isBits_any _ _).mono ?_;rintro e w' ⟨rfl,rfl⟩)
    go_ret
    exact ⟨ret_boolW hno.out.symm,bel_alloc _ _⟩
  cases h3:inR 0 7 m
  · have hno : Hid (aclB u g o us gs r m = false) := aclB_m h3
    go_enter Tryz.func152,Tryz.ntmps152
    go_wp2_with (go_at_call 91;refine (isBits_any _ _).mono ?_;rintro e w' ⟨rfl,rfl⟩)
    go_ret
    exact ⟨ret_boolW hno.out.symm,bel_alloc _ _⟩
  have HT:Hid (nmB us=true→nmB gs=true→aclB u g o us gs true m=true∧aclB u g o us gs false m=(m==0&&(lu==0&&lg==0))):=(fun h4 h5=>⟨aclB_r h0 h1 h2 h3 h4 h5,by rw [←e1,←e2];exact aclB_f h0 h1 h2 h3 h4 h5⟩)
  clear e1 e2
  go_enter Tryz.func152,Tryz.ntmps152
  go_wp2_with (go_at_call 91;refine (isBits_any _ _).mono ?_;rintro e w' ⟨rfl,rfl⟩)
  refine (hc.out _ (bel_alloc _ _)).mono ?_
  rintro e w1 ⟨rfl,hb⟩
  have hW1:Hid (Below w.heap.size w w1):=Below.on (bel_alloc _ _) hb
  have hX:=(box7_new w (.int .i64 u) (.int .i64 g) (.int .i64 o) (.slice au lu cu) (.slice ag lg cg) (.bool r) (.int .i64 m) 81).below hb
  clear hb hc
  cases h4:nmB us
  · have hno : Hid (aclB u g o us gs r m = false) := aclB_us h4
    go_wp2
    go_ret
    exact ⟨ret_boolW hno.out.symm,hW1.out⟩
  obtain ⟨xl,x0,x1,x2,x3,x4,x5,x6⟩:=hX
  go_wp2_with fail
  refine (hd.out _ hW1.out).mono ?_
  rintro e w2 ⟨rfl,hb⟩
  have hW2:Hid (Below w.heap.size w w2):=Below.on hW1.out hb
  have hX2:=(Box7.mk xl x0 x1 x2 x3 x4 x5 x6).below hb
  clear hb hd hW1 xl x0 x1 x2 x3 x4 x5 x6
  cases h5:nmB gs
  · have hno : Hid (aclB u g o us gs r m = false) := aclB_gs h5
    go_wp2
    go_ret
    exact ⟨ret_boolW hno.out.symm,hW2.out⟩
  obtain ⟨xl,x0,x1,x2,x3,x4,x5,x6⟩:=hX2
  obtain ⟨t1,t2⟩:=HT.out h4 h5
  cases r with
  | true =>
    have hyes:Hid (aclB u g o us gs true m=true):=t1
    clear t1 t2 HT h0 h1 h2 h3 h4 h5
    go_wp2
    go_ret
    exact ⟨ret_boolW hyes.out.symm,hW2.out⟩
  | false =>
    have hyes:Hid (aclB u g o us gs false m=(m==0&&(lu==0&&lg==0))):=t2
    clear t1 t2 HT h0 h1 h2 h3 h4 h5
    by_cases hm:m=0
    · subst hm
      go_wp2_with fail
      refine (hasNamed_any u g o au lu cu ag lg cg false 0 _).mono ?_
      rintro e w3 ⟨rfl,hb⟩
      have hW3:Hid (Below w.heap.size w w3):=Below.on hW2.out hb
      have hyes2:Hid ((!!(lu==0&&lg==0))=aclB u g o us gs false 0):=(by show _=_;rw [hyes.out];simp)
      clear hb hyes
      generalize (!(lu==0&&lg==0))=bb at hyes2 ⊢
      go_wp2
      go_ret
      exact ⟨ret_boolW hyes2.out,hW3.out⟩
    · have hno : Hid (aclB u g o us gs false m = false) := (by show _ = _; rw [hyes.out]; simp [hm])
      have hm2:(m==0)=false:=by simp [hm]
      clear hm hyes
      go_wp2
      go_ret
      exact ⟨ret_boolW hno.out.symm,hW2.out⟩
set_option maxHeartbeats 4000000 in
theorem sAclRight_any (u g o:Int)(au:Option Addr)(lu cu:Nat)(ag:Option Addr)(lg cg:Nat)(r:Bool)(m:Int)(us gs:List (Int × Int))(hlu:lu≤1048576)(hlg:lg≤1048576)(w:World)(hu:Prs au lu us w)(hg:Prs ag lg gs w) :
    Calls Tryz.prog 107 #[.agg #[.int .i64 u,.int .i64 g,.int .i64 o,.slice au lu cu,.slice ag lg cg,.bool r,.int .i64 m]] w fun e w'=>e=.returned (.bool (aclB u g o us gs r m))∧Below w.heap.size w w':=by
  have e1:=hu.1
  have e2:=hg.1
  have hc:Hid (∀ w',Below w.heap.size w w'→Calls Tryz.prog 156 #[.slice au lu cu] w' fun e w''=>e=.returned (.bool (nmB us))∧Below w'.heap.size w' w''):=(fun w' hb=>sNamed_any au lu cu us hlu w' (hu.below hb))
  have hd:Hid (∀ w',Below w.heap.size w w'→Calls Tryz.prog 156 #[.slice ag lg cg] w' fun e w''=>e=.returned (.bool (nmB gs))∧Below w'.heap.size w' w''):=(fun w' hb=>sNamed_any ag lg cg gs hlg w' (hg.below hb))
  clear hu hg
  cases h0:inR 0 7 u
  · have hno : Hid (aclB u g o us gs r m = false) := aclB_u h0
    go_enter Tryz.func107,Tryz.ntmps107
    go_wp2_with (go_at_call 46;refine (sBits_any _ _).mono ?_;rintro e w' ⟨rfl,rfl⟩)
    go_ret
    exact ⟨ret_boolW hno.out.symm,bel_alloc _ _⟩
  cases h1:inR 0 7 g
  · have hno : Hid (aclB u g o us gs r m = false) := aclB_g h1
    go_enter Tryz.func107,Tryz.ntmps107
    go_wp2_with (go_at_call 46;refine (sBits_any _ _).mono ?_;rintro e w' ⟨rfl,rfl⟩)
    go_ret
    exact ⟨ret_boolW hno.out.symm,bel_alloc _ _⟩
  cases h2:inR 0 7 o
  · have hno : Hid (aclB u g o us gs r m = false) := aclB_o h2
    go_enter Tryz.func107,Tryz.ntmps107
    go_wp2_with (go_at_call 46;refine (sBits_any _ _).mono ?_;rintro e w' ⟨rfl,rfl⟩)
    go_ret
    exact ⟨ret_boolW hno.out.symm,bel_alloc _ _⟩
  cases h3:inR 0 7 m
  · have hno : Hid (aclB u g o us gs r m = false) := aclB_m h3
    go_enter Tryz.func107,Tryz.ntmps107
    go_wp2_with (go_at_call 46;refine (sBits_any _ _).mono ?_;rintro e w' ⟨rfl,rfl⟩)
    go_ret
    exact ⟨ret_boolW hno.out.symm,bel_alloc _ _⟩
  have HT:Hid (nmB us=true→nmB gs=true→aclB u g o us gs true m=true∧aclB u g o us gs false m=(m==0&&(lu==0&&lg==0))):=(fun h4 h5=>⟨aclB_r h0 h1 h2 h3 h4 h5,by rw [←e1,←e2];exact aclB_f h0 h1 h2 h3 h4 h5⟩)
  clear e1 e2
  go_enter Tryz.func107,Tryz.ntmps107
  go_wp2_with (go_at_call 46;refine (sBits_any _ _).mono ?_;rintro e w' ⟨rfl,rfl⟩)
  refine (hc.out _ (bel_alloc _ _)).mono ?_
  rintro e w1 ⟨rfl,hb⟩
  have hW1:Hid (Below w.heap.size w w1):=Below.on (bel_alloc _ _) hb
  have hX:=(box7_new w (.int .i64 u) (.int .i64 g) (.int .i64 o) (.slice au lu cu) (.slice ag lg cg) (.bool r) (.int .i64 m) 81).below hb
  clear hb hc
  cases h4:nmB us
  · have hno : Hid (aclB u g o us gs r m = false) := aclB_us h4
    go_wp2
    go_ret
    exact ⟨ret_boolW hno.out.symm,hW1.out⟩
  obtain ⟨xl,x0,x1,x2,x3,x4,x5,x6⟩:=hX
  go_wp2_with fail
  refine (hd.out _ hW1.out).mono ?_
  rintro e w2 ⟨rfl,hb⟩
  have hW2:Hid (Below w.heap.size w w2):=Below.on hW1.out hb
  have hX2:=(Box7.mk xl x0 x1 x2 x3 x4 x5 x6).below hb
  clear hb hd hW1 xl x0 x1 x2 x3 x4 x5 x6
  cases h5:nmB gs
  · have hno : Hid (aclB u g o us gs r m = false) := aclB_gs h5
    go_wp2
    go_ret
    exact ⟨ret_boolW hno.out.symm,hW2.out⟩
  obtain ⟨xl,x0,x1,x2,x3,x4,x5,x6⟩:=hX2
  obtain ⟨t1,t2⟩:=HT.out h4 h5
  cases r with
  | true =>
    have hyes:Hid (aclB u g o us gs true m=true):=t1
    clear t1 t2 HT h0 h1 h2 h3 h4 h5
    go_wp2
    go_ret
    exact ⟨ret_boolW hyes.out.symm,hW2.out⟩
  | false =>
    have hyes:Hid (aclB u g o us gs false m=(m==0&&(lu==0&&lg==0))):=t2
    clear t1 t2 HT h0 h1 h2 h3 h4 h5
    by_cases hm:m=0
    · subst hm
      by_cases hz:lu=0
      · subst hz
        by_cases hz2:lg=0
        · subst hz2
          have hy:Hid (aclB u g o us gs false 0=true):=(by show _=_;rw [hyes.out];rfl)
          clear hyes
          go_wp2
          go_ret
          exact ⟨ret_boolW hy.out.symm,hW2.out⟩
        · have hy : Hid (aclB u g o us gs false 0 = false) := (by show _ = _; rw [hyes.out]; simp [hz2])
          have d:((lg:Int)==0)=false:=by simp;omega
          clear hyes hz2
          go_wp2
          go_ret
          exact ⟨ret_boolW hy.out.symm,hW2.out⟩
      · have hy : Hid (aclB u g o us gs false 0 = false) := (by show _ = _; rw [hyes.out]; simp [hz])
        have d:((lu:Int)==0)=false:=beq_eq_false_iff_ne.2 (by omega)
        clear hyes hz
        go_wp2
        go_ret
        exact ⟨ret_boolW hy.out.symm,hW2.out⟩
    · have hno : Hid (aclB u g o us gs false m = false) := (by show _ = _; rw [hyes.out]; simp [hm])
      have hm2:(m==0)=false:=by simp [hm]
      clear hm hyes
      go_wp2
      go_ret
      exact ⟨ret_boolW hno.out.symm,hW2.out⟩
theorem iTime_any (n:Int)(w:World) :
    Calls Tryz.prog 69 #[.int .i64 n] w fun e w'=>e=.returned (.bool (inR 0 1000000 n))∧w'=w:=by
  go_enter Tryz.func69,Tryz.ntmps69
  go_wp2
  · go_ret
    exact ⟨ret_boolW (by simp [inR, *]),rfl⟩
  · go_ret
    exact ⟨ret_boolW (by have h : ¬ 0 ≤ n := by omega
                         simp [inR,h]),rfl⟩
theorem iNumAt_any (k:Nat)(hk:k≤1048576)(w:World) :
    Calls Tryz.prog 71 #[.int .i64 k] w fun e w'=>e=.returned (.int .i64 ((k:Int)+1))∧w'=w:=by
  go_enter Tryz.func71,Tryz.ntmps71
  go_wp2
  go_ret
  exact ⟨rfl,rfl⟩
set_option maxHeartbeats 2000000 in
theorem eqE_nil (a b:Option Addr)(n c d:Nat)(hn:n≤9223372036854775807)(w:World) :
    Calls Tryz.prog 164 #[.slice a n c,.slice b 0 d] w fun e w'=>e=.returned (.bool (n==0))∧w'=w:=by
  by_cases h:n=0
  · subst h
    go_enter Tryz.func164,Tryz.ntmps164
    go_wp2
    go_rounds 1
    go_ret
    exact ⟨rfl,rfl⟩
  · have e : Hid ((n == 0) = false) := (by show _ = _; simp [h])
    have e2:((n:Int)==0)=false:=by rw [beq_eq_false_iff_ne];omega
    have e3:((n:Int) != 0)=true:=by rw [bne,e2];rfl
    clear h
    go_enter Tryz.func164,Tryz.ntmps164
    go_wp2
    go_ret
    exact ⟨ret_boolW e.out.symm,rfl⟩
set_option maxHeartbeats 2000000 in
theorem eqN_nil (a b:Option Addr)(n c d:Nat)(hn:n≤9223372036854775807)(w:World) :
    Calls Tryz.prog 210 #[.slice a n c,.slice b 0 d] w fun e w'=>e=.returned (.bool (n==0))∧w'=w:=by
  by_cases h:n=0
  · subst h
    go_enter Tryz.func210,Tryz.ntmps210
    go_wp2
    go_rounds 1
    go_ret
    exact ⟨rfl,rfl⟩
  · have e : Hid ((n == 0) = false) := (by show _ = _; simp [h])
    have e2:((n:Int)==0)=false:=by rw [beq_eq_false_iff_ne];omega
    have e3:((n:Int) != 0)=true:=by rw [bne,e2];rfl
    clear h
    go_enter Tryz.func210,Tryz.ntmps210
    go_wp2
    go_ret
    exact ⟨ret_boolW e.out.symm,rfl⟩
set_option maxHeartbeats 8000000 in
theorem iSameL0_any (A:Al)(aU:Option Addr)(cU:Nat)(aG:Option Addr)(cG:Nat)(h1:A.us.length≤1048576)(h2:A.gs.length≤1048576)(w:World) :
    Calls Tryz.prog 163 #[.agg #[.int .i64 A.u,.int .i64 A.g,.int .i64 A.o,.slice aU A.us.length cU,.slice aG A.gs.length cG,.bool A.r,.int .i64 A.m],.agg #[.int .i64 0,.int .i64 0,.int .i64 0,.slice none 0 0,.slice none 0 0,.bool false,.int .i64 0]] w fun e w'=>e=.returned (.bool A.E)∧Below w.heap.size w w':=by
  have HE:Hid (A.E=(A.u==0&&(A.g==0&&(A.o==0&&(A.m==0&&(!A.r&&(A.us.length==0&&A.gs.length==0))))))):=rfl
  have H1:Hid (∀ w,Calls Tryz.prog 210 #[.slice aU A.us.length cU,.slice none 0 0] w fun e w'=>e=.returned (.bool (A.us.length==0))∧w'=w):=(fun w=>eqN_nil _ _ _ _ _ (by omega) w)
  have H2:Hid (∀ w,Calls Tryz.prog 210 #[.slice aG A.gs.length cG,.slice none 0 0] w fun e w'=>e=.returned (.bool (A.gs.length==0))∧w'=w):=(fun w=>eqN_nil _ _ _ _ _ (by omega) w)
  go_enter Tryz.func163,Tryz.ntmps163
  go_wp2_with (first | (go_at_call_of 210 (Value.slice aU A.us.length cU);refine (H1.out _).mono ?_;rintro e w1 ⟨rfl,rfl⟩) | (go_at_call_of 210 (Value.slice aG A.gs.length cG);refine (H2.out _).mono ?_;rintro e w1 ⟨rfl,rfl⟩))
  all_goals go_ret
  all_goals (refine ⟨ret_boolW ?_,bl2T _ _ _⟩;rw [HE.out];first | (simp [*];done) | (simp only [bne_iff_ne,ne_eq,bne_eq_false_iff_eq] at *;simp [*];done) | (simp only [Bool.not_eq_false',Bool.not_eq_true'] at *;simp [*]))
set_option maxHeartbeats 8000000 in
theorem iNoDir_any (x:Nd)(y:Na)(hf:NdFit 1048576 x)(w:World) :
    Calls Tryz.prog 119 #[.agg (ndV x y).toArray] w fun e w'=>e=.returned (.bool x.bare)∧Below w.heap.size w w':=by
  have HK:Hid (NdFit 1048576 x):=hf
  have HE:Hid (x.bare=(!x.sh&&(x.D.E&&(x.up==0&&((x.ns.length:Int)==0))))):=(by show _=_;rw [int_zero];rfl)
  clear hf
  have HB:Hid (Below w.heap.size w (w.alloc (.cells (ndV x y).toArray 84))):=bel_alloc _ _
  have HX:Hid (BoxR (w.alloc (.cells (ndV x y).toArray 84)) w.heap.size (ndV x y)):=boxR_new _ _ _
  go_enter Tryz.func119,Tryz.ntmps119
  go_upto_region 1 with fail
  generalize (w.alloc (.cells (ndV x y).toArray 84))=w0 at HB HX ⊢
  obtain ⟨X,hX⟩:∃ X,X=w.heap.size:=⟨_,rfl⟩
  rw [←hX] at HX ⊢
  clear hX
  have e11:=NB.c11 HX.out
  have e12:=NB.c12 HX.out
  have e13:=NB.c13 HX.out
  have e14:=NB.c14 HX.out
  have e15:=NB.c15 HX.out
  have e16:=NB.c16 HX.out
  have e17:=NB.c17 HX.out
  have e18:=NB.c18 HX.out
  have e20:=NB.c20 HX.out
  have e22:=NB.c22 HX.out
  go_wp2_with ((go_at_call 163;refine (iSameL0_any x.D _ _ _ _ HK.out.du HK.out.dg _).mono ?_;rintro e w1 ⟨rfl,hb⟩;replace HB:Hid (Below w.heap.size w w1):=Below.on HB.out hb;replace HX:Hid (BoxR w1 X (ndV x y)):=HX.out.below hb;clear hb;replace e11:=NB.c11 HX.out;replace e12:=NB.c12 HX.out;replace e13:=NB.c13 HX.out;replace e14:=NB.c14 HX.out;replace e15:=NB.c15 HX.out;replace e16:=NB.c16 HX.out;replace e17:=NB.c17 HX.out;replace e18:=NB.c18 HX.out;replace e20:=NB.c20 HX.out;replace e22:=NB.c22 HX.out))
  all_goals go_ret
  all_goals (refine ⟨ret_boolW ?_,HB.out⟩;rw [HE.out];first | (simp [*];done) | (simp only [bne_iff_ne,ne_eq,bne_eq_false_iff_eq] at *;simp [*];done) | (simp only [Bool.not_eq_false',Bool.not_eq_true'] at *;simp [*]))
set_option maxHeartbeats 8000000 in
theorem iDefault_any (x:Nd)(y:Na)(hf:NdFit 1048576 x)(w:World)(hi:NdIn w x y) :
    Calls Tryz.prog 166 #[.agg (ndV x y).toArray] w fun e w'=>e=.returned (.bool x.dB)∧Below w.heap.size w w':=by
  have HK:Hid (NdFit 1048576 x):=hf
  have HM:Hid (NdIn w x y):=hi
  have HE:Hid (x.dB=(if x.sh then aclB x.D.u x.D.g x.D.o x.D.us x.D.gs x.D.r x.D.m else x.D.E)):=rfl
  clear hf hi
  have HB:Hid (Below w.heap.size w (w.alloc (.cells (ndV x y).toArray 84))):=bel_alloc _ _
  have HX:Hid (BoxR (w.alloc (.cells (ndV x y).toArray 84)) w.heap.size (ndV x y)):=boxR_new _ _ _
  go_enter Tryz.func166,Tryz.ntmps166
  go_upto_region 1 with fail
  generalize (w.alloc (.cells (ndV x y).toArray 84))=w0 at HB HX ⊢
  obtain ⟨X,hX⟩:∃ X,X=w.heap.size:=⟨_,rfl⟩
  rw [←hX] at HX ⊢
  clear hX
  have e11:=NB.c11 HX.out
  have e12:=NB.c12 HX.out
  have e13:=NB.c13 HX.out
  have e14:=NB.c14 HX.out
  have e15:=NB.c15 HX.out
  have e16:=NB.c16 HX.out
  have e17:=NB.c17 HX.out
  have e18:=NB.c18 HX.out
  have e20:=NB.c20 HX.out
  have e22:=NB.c22 HX.out
  go_wp2_with (first
    | (go_at_call 163;refine (iSameL0_any x.D _ _ _ _ HK.out.du HK.out.dg _).mono ?_;rintro e w1 ⟨rfl,hb⟩;replace HB:Hid (Below w.heap.size w w1):=Below.on HB.out hb;replace HX:Hid (BoxR w1 X (ndV x y)):=HX.out.below hb;clear hb;replace e11:=NB.c11 HX.out;replace e12:=NB.c12 HX.out;replace e13:=NB.c13 HX.out;replace e14:=NB.c14 HX.out;replace e15:=NB.c15 HX.out;replace e16:=NB.c16 HX.out;replace e17:=NB.c17 HX.out;replace e18:=NB.c18 HX.out;replace e20:=NB.c20 HX.out;replace e22:=NB.c22 HX.out)
    | (go_at_call 152;refine (iAclRight_any x.D.u x.D.g x.D.o _ _ _ _ _ _ x.D.r x.D.m x.D.us x.D.gs _ (HM.out.dU.below HB.out) (HM.out.dG.below HB.out)).mono ?_;rintro e w1 ⟨rfl,hb⟩;replace HB:Hid (Below w.heap.size w w1):=Below.on HB.out hb;replace HX:Hid (BoxR w1 X (ndV x y)):=HX.out.below hb;clear hb;replace e11:=NB.c11 HX.out;replace e12:=NB.c12 HX.out;replace e13:=NB.c13 HX.out;replace e14:=NB.c14 HX.out;replace e15:=NB.c15 HX.out;replace e16:=NB.c16 HX.out;replace e17:=NB.c17 HX.out;replace e18:=NB.c18 HX.out;replace e20:=NB.c20 HX.out;replace e22:=NB.c22 HX.out))
  all_goals go_ret
  all_goals (refine ⟨ret_boolW ?_,HB.out⟩;rw [HE.out];first | (simp [*];done) | (simp only [bne_iff_ne,ne_eq,bne_eq_false_iff_eq] at *;simp [*];done) | (simp only [Bool.not_eq_false',Bool.not_eq_true'] at *;simp [*]))
set_option maxHeartbeats 8000000 in
theorem iTimes_any (x:Nd)(y:Na)(n:Int)(hf:x.ns.length≤1048576)(w:World)(hi:Ens y.nA x.ns.length x.ns w) :
    Calls Tryz.prog 213 #[.agg (ndV x y).toArray,.int .i64 n] w fun e w'=>e=.returned (.int .i64 (cntE x.ns n x.ns.length))∧Below w.heap.size w w':=by
  have HM:Hid (Ens y.nA x.ns.length x.ns w):=hi
  clear hi
  have HB:Hid (Below w.heap.size w (w.alloc (.cells (ndV x y).toArray 84))):=bel_alloc _ _
  have HX:Hid (BoxR (w.alloc (.cells (ndV x y).toArray 84)) w.heap.size (ndV x y)):=boxR_new _ _ _
  go_enter Tryz.func213,Tryz.ntmps213
  go_upto_region 1 with fail
  generalize (w.alloc (.cells (ndV x y).toArray 84))=w0 at HB HX ⊢
  obtain ⟨X,hX⟩:∃ X,X=w.heap.size:=⟨_,rfl⟩
  rw [←hX] at HX ⊢
  clear hX
  have e22:=NB.c22 HX.out
  have HQ:Hid (Ens y.nA x.ns.length x.ns w0):=HM.out.below HB.out
  clear HM HX
  go_wp2
  go_loopw [11,5] (fun i c wr=>∃ m:Nat,m≤x.ns.length∧i=.int .i64 m∧c=.int .i64 (cntE x.ns n m)∧Hid (Below w0.heap.size w0 wr)) (fun i _ _=>x.ns.length-(intOf i).toNat)
  case atStart=>exact ⟨0,Nat.zero_le _,rfl,rfl,Below.refl _ _⟩
  case round =>
    obtain ⟨m,hm,rfl,rfl,hB⟩:=hrel
    have hcb:=cntE_b x.ns n m
    by_cases hml:m<x.ns.length
    · obtain ⟨b2, off2, hbe, hb2, hc2⟩ := (HQ.out.below hB.out).2 (by omega)
      rw [hbe] at e22 ⊢
      have hml':(m:Int)<(x.ns.length:Int):=by omega
      have g0:=(hc2 m hml).1
      have g1:=(hc2 m hml).2
      have HS2:Hid (cntE x.ns n (m+1)=cntE x.ns n m+(if noAt x.ns m==n then 1 else 0)):=rfl
      clear hc2 hbe e22
      generalize noAt x.ns m=v at g1 HS2
      generalize nmAt x.ns m=nm at g0
      generalize cntE x.ns n m=z at hcb HS2 ⊢
      by_cases e:v=n
      · have e2 : (v == n) = true := by simp [e]
        rw [e2] at HS2
        clear e
        go_wp2
        go_roundw
        case rel=>exact ⟨m+1,by omega,by go_num,by rw [HS2.out];simp,Below.on hB.out (bel_alloc _ _)⟩
        case measure=>simp [intOf];omega
      · have e2 : (v == n) = false := by simp [e]
        rw [e2] at HS2
        clear e
        go_wp2
        go_roundw
        case rel=>exact ⟨m+1,by omega,by go_num,by rw [HS2.out];simp,Below.on hB.out (bel_alloc _ _)⟩
        case measure=>simp [intOf];omega
    · have : m = x.ns.length := by omega
      subst this
      go_wp2
      go_ret
      exact ⟨rfl,Below.on HB.out hB.out⟩
theorem wpList_built {P:Program}{ops:Array Oper}{rest:List Oper}{o:Oper}{a:Act}{w:World}{Q:Exit→Act→World→Prop}(hg:o.guard=none)(t:TypeId)(parts:Array (Nat × Operand))(ho:o.op=.build t parts)
    (vs:List (Nat × Value)) (hv:(parts.map fun (i,x)=>(i,a.eval x)).toList=vs) (cs:Array Value) (hb:P.built t vs=some cs)
    (h:wpList P ops Q rest (a.put o.dst (.agg cs)) w):wpList P ops Q (o :: rest) a w :=
  wpList_build hg t parts ho (by rw [hv,hb];rfl) (by rw [hv,hb];exact h)
theorem wpList_built2 {P:Program}{ops:Array Oper}{rest:List Oper}{o:Oper}{a:Act}{w:World}{Q:Exit→Act→World→Prop}(hg:o.guard=none)(t:TypeId)(x y:Operand)(ho:o.op=.build t #[(0,x),(1,y)])
    (u v:Value) (hx:a.eval x=u) (hy:a.eval y=v) (cs:Array Value) (hb:P.built t [(0,u),(1,v)]=some cs)
    (h:wpList P ops Q rest (a.put o.dst (.agg cs)) w):wpList P ops Q (o :: rest) a w :=
  wpList_built hg t _ ho [(0,u),(1,v)] (by simp [hx,hy]) cs hb h
theorem results_two {fn:Func}{p u:Tmp}{ty:TypeId}(h:fn.results=#[.cell p ty,.tmp u]){tmps:Array Value}{P:Program}{w:World}{a:Addr}{v b:Value}(ha:tmps.getD p undef=.pointer (some a))(hu:tmps.getD u undef=b)(hl:(loadVar ty a).run P w=.ok v w):(results fn tmps).run P w=.ok (.tuple #[v,b]) w:=by
  rw [results_cell_tmp h,ha,hu]
  simp [asAddr,hl,Result.andThen]
set_option maxRecDepth 20000 in
set_option maxHeartbeats 16000000 in
theorem iSameN0_any (x:Nd)(y:Na)(hf:NdFit 1048576 x)(w:World) :
    Calls Tryz.prog 116 #[.agg (ndV x y).toArray,.agg (ndV ndZ naZ).toArray] w fun e w'=>e=.returned (.bool x.z0)∧Below w.heap.size w w':=by
  have HK:Hid (NdFit 1048576 x):=hf
  have HE:Hid (x.z0=(x.k==0&&(x.ow==0&&(x.gr==0&&(x.ex==0&&(!x.sh&&(x.li==0&&(x.up==0&&((x.bo.toList==[])&&(x.A.E&&(x.D.E&&x.ns.length==0))))))))))):=rfl
  have HX:Hid (BoxR ((w.alloc (.cells (ndV x y).toArray 84)).alloc (.cells (ndV ndZ naZ).toArray 84)) w.heap.size (ndV x y)):=(boxR_new w (ndV x y) 84).below (bel_alloc _ _)
  have HZ:Hid (BoxR ((w.alloc (.cells (ndV x y).toArray 84)).alloc (.cells (ndV ndZ naZ).toArray 84)) (w.heap.size+1) (ndV ndZ naZ)):=(by
    have h:=boxR_new (w.alloc (.cells (ndV x y).toArray 84)) (ndV ndZ naZ) 84
    simp only [World.size_alloc] at h
    exact h)
  have HB:Hid (Below w.heap.size w ((w.alloc (.cells (ndV x y).toArray 84)).alloc (.cells (ndV ndZ naZ).toArray 84))):=bl2T _ _ _
  have H3:Hid (∀ w,Calls Tryz.prog 164 #[.slice y.nA x.ns.length y.nC,.slice none 0 0] w fun e w'=>e=.returned (.bool (x.ns.length==0))∧w'=w):=(fun w=>eqE_nil _ _ _ _ _ (by have:=hf.nl;omega) w)
  have hbe:(x.bo.toList==[])=x.bo.toList.isEmpty:=by cases x.bo.toList<;>rfl
  rw [hbe] at HE
  clear hf hbe
  cases hbo:x.bo.toList.isEmpty
  · rw [hbo] at HE
    go_enter Tryz.func116,Tryz.ntmps116
    go_upto_region 1 with fail
    generalize ((w.alloc (.cells (ndV x y).toArray 84)).alloc (.cells (ndV ndZ naZ).toArray 84))=w0 at HX HZ HB ⊢
    obtain ⟨X,hX⟩:∃ X,X=w.heap.size:=⟨_,rfl⟩
    rw [←hX] at HX HZ ⊢
    clear hX
    have e0:=NB.c0 HX.out
    have e1:=NB.c1 HX.out
    have e2:=NB.c2 HX.out
    have e3:=NB.c3 HX.out
    have e4:=NB.c4 HX.out
    have e5:=NB.c5 HX.out
    have e6:=NB.c6 HX.out
    have e7:=NB.c7 HX.out
    have e8:=NB.c8 HX.out
    have e9:=NB.c9 HX.out
    have e10:=NB.c10 HX.out
    have e11:=NB.c11 HX.out
    have e12:=NB.c12 HX.out
    have e13:=NB.c13 HX.out
    have e14:=NB.c14 HX.out
    have e15:=NB.c15 HX.out
    have e16:=NB.c16 HX.out
    have e17:=NB.c17 HX.out
    have e18:=NB.c18 HX.out
    have e19:=NB.c19 HX.out
    have e20:=NB.c20 HX.out
    have e21:=NB.c21 HX.out
    have e22:=NB.c22 HX.out
    have z0:w0.cell? ⟨X+1,0,none⟩=some (.int .i64 0):=HZ.out.at0 0 _ rfl
    have z1:w0.cell? ⟨X+1,1,none⟩=some (.int .i64 0):=HZ.out.at0 1 _ rfl
    have z2:w0.cell? ⟨X+1,2,none⟩=some (.int .i64 0):=HZ.out.at0 2 _ rfl
    have z3:w0.cell? ⟨X+1,3,none⟩=some (.int .i64 0):=HZ.out.at0 3 _ rfl
    have z4:w0.cell? ⟨X+1,4,none⟩=some (.int .i64 0):=HZ.out.at0 4 _ rfl
    have z5:w0.cell? ⟨X+1,5,none⟩=some (.int .i64 0):=HZ.out.at0 5 _ rfl
    have z6:w0.cell? ⟨X+1,6,none⟩=some (.int .i64 0):=HZ.out.at0 6 _ rfl
    have z7:w0.cell? ⟨X+1,7,none⟩=some (.slice none 0 0):=HZ.out.at0 7 _ rfl
    have z8:w0.cell? ⟨X+1,8,none⟩=some (.slice none 0 0):=HZ.out.at0 8 _ rfl
    have z9:w0.cell? ⟨X+1,9,none⟩=some (.bool false):=HZ.out.at0 9 _ rfl
    have z10:w0.cell? ⟨X+1,10,none⟩=some (.int .i64 0):=HZ.out.at0 10 _ rfl
    have z11:w0.cell? ⟨X+1,11,none⟩=some (.bool false):=HZ.out.at0 11 _ rfl
    have z12:w0.cell? ⟨X+1,12,none⟩=some (.int .i64 0):=HZ.out.at0 12 _ rfl
    have z13:w0.cell? ⟨X+1,13,none⟩=some (.int .i64 0):=HZ.out.at0 13 _ rfl
    have z14:w0.cell? ⟨X+1,14,none⟩=some (.int .i64 0):=HZ.out.at0 14 _ rfl
    have z15:w0.cell? ⟨X+1,15,none⟩=some (.slice none 0 0):=HZ.out.at0 15 _ rfl
    have z16:w0.cell? ⟨X+1,16,none⟩=some (.slice none 0 0):=HZ.out.at0 16 _ rfl
    have z17:w0.cell? ⟨X+1,17,none⟩=some (.bool false):=HZ.out.at0 17 _ rfl
    have z18:w0.cell? ⟨X+1,18,none⟩=some (.int .i64 0):=HZ.out.at0 18 _ rfl
    have z19:w0.cell? ⟨X+1,19,none⟩=some (.int .i64 0):=HZ.out.at0 19 _ rfl
    have z20:w0.cell? ⟨X+1,20,none⟩=some (.int .i64 0):=HZ.out.at0 20 _ rfl
    have z21:w0.cell? ⟨X+1,21,none⟩=some (.string ⟨#[]⟩):=HZ.out.at0 21 _ rfl
    have z22:w0.cell? ⟨X+1,22,none⟩=some (.slice none 0 0):=HZ.out.at0 22 _ rfl
    go_wp2_with (first
      | (go_at_call_of 163 (Value.slice y.aU x.A.us.length y.cU);refine (iSameL0_any x.A _ _ _ _ HK.out.au HK.out.ag _).mono ?_;rintro e w1 ⟨rfl,hb⟩;replace HB:Hid (Below w.heap.size w w1):=Below.on HB.out hb;replace HX:Hid (BoxR w1 X (ndV x y)):=HX.out.below hb;replace HZ:Hid (BoxR w1 (X+1) (ndV ndZ naZ)):=HZ.out.below hb;clear hb;replace e0:=NB.c0 HX.out;replace e1:=NB.c1 HX.out;replace e2:=NB.c2 HX.out;replace e3:=NB.c3 HX.out;replace e4:=NB.c4 HX.out;replace e5:=NB.c5 HX.out;replace e6:=NB.c6 HX.out;replace e7:=NB.c7 HX.out;replace e8:=NB.c8 HX.out;replace e9:=NB.c9 HX.out;replace e10:=NB.c10 HX.out;replace e11:=NB.c11 HX.out;replace e12:=NB.c12 HX.out;replace e13:=NB.c13 HX.out;replace e14:=NB.c14 HX.out;replace e15:=NB.c15 HX.out;replace e16:=NB.c16 HX.out;replace e17:=NB.c17 HX.out;replace e18:=NB.c18 HX.out;replace e19:=NB.c19 HX.out;replace e20:=NB.c20 HX.out;replace e21:=NB.c21 HX.out;replace e22:=NB.c22 HX.out;replace z0:w1.cell? ⟨X+1,0,none⟩=some (.int .i64 0):=HZ.out.at0 0 _ rfl;replace z1:w1.cell? ⟨X+1,1,none⟩=some (.int .i64 0):=HZ.out.at0 1 _ rfl;replace z2:w1.cell? ⟨X+1,2,none⟩=some (.int .i64 0):=HZ.out.at0 2 _ rfl;replace z3:w1.cell? ⟨X+1,3,none⟩=some (.int .i64 0):=HZ.out.at0 3 _ rfl;replace z4:w1.cell? ⟨X+1,4,none⟩=some (.int .i64 0):=HZ.out.at0 4 _ rfl;replace z5:w1.cell? ⟨X+1,5,none⟩=some (.int .i64 0):=HZ.out.at0 5 _ rfl;replace z6:w1.cell? ⟨X+1,6,none⟩=some (.int .i64 0):=HZ.out.at0 6 _ rfl;replace z7:w1.cell? ⟨X+1,7,none⟩=some (.slice none 0 0):=HZ.out.at0 7 _ rfl;replace z8:w1.cell? ⟨X+1,8,none⟩=some (.slice none 0 0):=HZ.out.at0 8 _ rfl;replace z9:w1.cell? ⟨X+1,9,none⟩=some (.bool false):=HZ.out.at0 9 _ rfl;replace z10:w1.cell? ⟨X+1,10,none⟩=some (.int .i64 0):=HZ.out.at0 10 _ rfl;replace z11:w1.cell? ⟨X+1,11,none⟩=some (.bool false):=HZ.out.at0 11 _ rfl;replace z12:w1.cell? ⟨X+1,12,none⟩=some (.int .i64 0):=HZ.out.at0 12 _ rfl;replace z13:w1.cell? ⟨X+1,13,none⟩=some (.int .i64 0):=HZ.out.at0 13 _ rfl;replace z14:w1.cell? ⟨X+1,14,none⟩=some (.int .i64 0):=HZ.out.at0 14 _ rfl;replace z15:w1.cell? ⟨X+1,15,none⟩=some (.slice none 0 0):=HZ.out.at0 15 _ rfl;replace z16:w1.cell? ⟨X+1,16,none⟩=some (.slice none 0 0):=HZ.out.at0 16 _ rfl;replace z17:w1.cell? ⟨X+1,17,none⟩=some (.bool false):=HZ.out.at0 17 _ rfl;replace z18:w1.cell? ⟨X+1,18,none⟩=some (.int .i64 0):=HZ.out.at0 18 _ rfl;replace z19:w1.cell? ⟨X+1,19,none⟩=some (.int .i64 0):=HZ.out.at0 19 _ rfl;replace z20:w1.cell? ⟨X+1,20,none⟩=some (.int .i64 0):=HZ.out.at0 20 _ rfl;replace z21:w1.cell? ⟨X+1,21,none⟩=some (.string ⟨#[]⟩):=HZ.out.at0 21 _ rfl;replace z22:w1.cell? ⟨X+1,22,none⟩=some (.slice none 0 0):=HZ.out.at0 22 _ rfl)
      | (go_at_call_of 163 (Value.slice y.dU x.D.us.length y.eU);refine (iSameL0_any x.D _ _ _ _ HK.out.du HK.out.dg _).mono ?_;rintro e w1 ⟨rfl,hb⟩;replace HB:Hid (Below w.heap.size w w1):=Below.on HB.out hb;replace HX:Hid (BoxR w1 X (ndV x y)):=HX.out.below hb;replace HZ:Hid (BoxR w1 (X+1) (ndV ndZ naZ)):=HZ.out.below hb;clear hb;replace e0:=NB.c0 HX.out;replace e1:=NB.c1 HX.out;replace e2:=NB.c2 HX.out;replace e3:=NB.c3 HX.out;replace e4:=NB.c4 HX.out;replace e5:=NB.c5 HX.out;replace e6:=NB.c6 HX.out;replace e7:=NB.c7 HX.out;replace e8:=NB.c8 HX.out;replace e9:=NB.c9 HX.out;replace e10:=NB.c10 HX.out;replace e11:=NB.c11 HX.out;replace e12:=NB.c12 HX.out;replace e13:=NB.c13 HX.out;replace e14:=NB.c14 HX.out;replace e15:=NB.c15 HX.out;replace e16:=NB.c16 HX.out;replace e17:=NB.c17 HX.out;replace e18:=NB.c18 HX.out;replace e19:=NB.c19 HX.out;replace e20:=NB.c20 HX.out;replace e21:=NB.c21 HX.out;replace e22:=NB.c22 HX.out;replace z0:w1.cell? ⟨X+1,0,none⟩=some (.int .i64 0):=HZ.out.at0 0 _ rfl;replace z1:w1.cell? ⟨X+1,1,none⟩=some (.int .i64 0):=HZ.out.at0 1 _ rfl;replace z2:w1.cell? ⟨X+1,2,none⟩=some (.int .i64 0):=HZ.out.at0 2 _ rfl;replace z3:w1.cell? ⟨X+1,3,none⟩=some (.int .i64 0):=HZ.out.at0 3 _ rfl;replace z4:w1.cell? ⟨X+1,4,none⟩=some (.int .i64 0):=HZ.out.at0 4 _ rfl;replace z5:w1.cell? ⟨X+1,5,none⟩=some (.int .i64 0):=HZ.out.at0 5 _ rfl;replace z6:w1.cell? ⟨X+1,6,none⟩=some (.int .i64 0):=HZ.out.at0 6 _ rfl;replace z7:w1.cell? ⟨X+1,7,none⟩=some (.slice none 0 0):=HZ.out.at0 7 _ rfl;replace z8:w1.cell? ⟨X+1,8,none⟩=some (.slice none 0 0):=HZ.out.at0 8 _ rfl;replace z9:w1.cell? ⟨X+1,9,none⟩=some (.bool false):=HZ.out.at0 9 _ rfl;replace z10:w1.cell? ⟨X+1,10,none⟩=some (.int .i64 0):=HZ.out.at0 10 _ rfl;replace z11:w1.cell? ⟨X+1,11,none⟩=some (.bool false):=HZ.out.at0 11 _ rfl;replace z12:w1.cell? ⟨X+1,12,none⟩=some (.int .i64 0):=HZ.out.at0 12 _ rfl;replace z13:w1.cell? ⟨X+1,13,none⟩=some (.int .i64 0):=HZ.out.at0 13 _ rfl;replace z14:w1.cell? ⟨X+1,14,none⟩=some (.int .i64 0):=HZ.out.at0 14 _ rfl;replace z15:w1.cell? ⟨X+1,15,none⟩=some (.slice none 0 0):=HZ.out.at0 15 _ rfl;replace z16:w1.cell? ⟨X+1,16,none⟩=some (.slice none 0 0):=HZ.out.at0 16 _ rfl;replace z17:w1.cell? ⟨X+1,17,none⟩=some (.bool false):=HZ.out.at0 17 _ rfl;replace z18:w1.cell? ⟨X+1,18,none⟩=some (.int .i64 0):=HZ.out.at0 18 _ rfl;replace z19:w1.cell? ⟨X+1,19,none⟩=some (.int .i64 0):=HZ.out.at0 19 _ rfl;replace z20:w1.cell? ⟨X+1,20,none⟩=some (.int .i64 0):=HZ.out.at0 20 _ rfl;replace z21:w1.cell? ⟨X+1,21,none⟩=some (.string ⟨#[]⟩):=HZ.out.at0 21 _ rfl;replace z22:w1.cell? ⟨X+1,22,none⟩=some (.slice none 0 0):=HZ.out.at0 22 _ rfl)
      | (go_at_call 164;refine (H3.out _).mono ?_;rintro e w2 ⟨rfl,rfl⟩))
    all_goals go_ret
    all_goals (refine ⟨ret_boolW ?_,HB.out⟩;rw [HE.out];first | (simp [*];done) | (simp only [bne_iff_ne,ne_eq,bne_eq_false_iff_eq] at *;simp [*]))
  · rw [hbo] at HE
    go_enter Tryz.func116,Tryz.ntmps116
    go_upto_region 1 with fail
    generalize ((w.alloc (.cells (ndV x y).toArray 84)).alloc (.cells (ndV ndZ naZ).toArray 84))=w0 at HX HZ HB ⊢
    obtain ⟨X,hX⟩:∃ X,X=w.heap.size:=⟨_,rfl⟩
    rw [←hX] at HX HZ ⊢
    clear hX
    have e0:=NB.c0 HX.out
    have e1:=NB.c1 HX.out
    have e2:=NB.c2 HX.out
    have e3:=NB.c3 HX.out
    have e4:=NB.c4 HX.out
    have e5:=NB.c5 HX.out
    have e6:=NB.c6 HX.out
    have e7:=NB.c7 HX.out
    have e8:=NB.c8 HX.out
    have e9:=NB.c9 HX.out
    have e10:=NB.c10 HX.out
    have e11:=NB.c11 HX.out
    have e12:=NB.c12 HX.out
    have e13:=NB.c13 HX.out
    have e14:=NB.c14 HX.out
    have e15:=NB.c15 HX.out
    have e16:=NB.c16 HX.out
    have e17:=NB.c17 HX.out
    have e18:=NB.c18 HX.out
    have e19:=NB.c19 HX.out
    have e20:=NB.c20 HX.out
    have e21:=NB.c21 HX.out
    have e22:=NB.c22 HX.out
    have z0:w0.cell? ⟨X+1,0,none⟩=some (.int .i64 0):=HZ.out.at0 0 _ rfl
    have z1:w0.cell? ⟨X+1,1,none⟩=some (.int .i64 0):=HZ.out.at0 1 _ rfl
    have z2:w0.cell? ⟨X+1,2,none⟩=some (.int .i64 0):=HZ.out.at0 2 _ rfl
    have z3:w0.cell? ⟨X+1,3,none⟩=some (.int .i64 0):=HZ.out.at0 3 _ rfl
    have z4:w0.cell? ⟨X+1,4,none⟩=some (.int .i64 0):=HZ.out.at0 4 _ rfl
    have z5:w0.cell? ⟨X+1,5,none⟩=some (.int .i64 0):=HZ.out.at0 5 _ rfl
    have z6:w0.cell? ⟨X+1,6,none⟩=some (.int .i64 0):=HZ.out.at0 6 _ rfl
    have z7:w0.cell? ⟨X+1,7,none⟩=some (.slice none 0 0):=HZ.out.at0 7 _ rfl
    have z8:w0.cell? ⟨X+1,8,none⟩=some (.slice none 0 0):=HZ.out.at0 8 _ rfl
    have z9:w0.cell? ⟨X+1,9,none⟩=some (.bool false):=HZ.out.at0 9 _ rfl
    have z10:w0.cell? ⟨X+1,10,none⟩=some (.int .i64 0):=HZ.out.at0 10 _ rfl
    have z11:w0.cell? ⟨X+1,11,none⟩=some (.bool false):=HZ.out.at0 11 _ rfl
    have z12:w0.cell? ⟨X+1,12,none⟩=some (.int .i64 0):=HZ.out.at0 12 _ rfl
    have z13:w0.cell? ⟨X+1,13,none⟩=some (.int .i64 0):=HZ.out.at0 13 _ rfl
    have z14:w0.cell? ⟨X+1,14,none⟩=some (.int .i64 0):=HZ.out.at0 14 _ rfl
    have z15:w0.cell? ⟨X+1,15,none⟩=some (.slice none 0 0):=HZ.out.at0 15 _ rfl
    have z16:w0.cell? ⟨X+1,16,none⟩=some (.slice none 0 0):=HZ.out.at0 16 _ rfl
    have z17:w0.cell? ⟨X+1,17,none⟩=some (.bool false):=HZ.out.at0 17 _ rfl
    have z18:w0.cell? ⟨X+1,18,none⟩=some (.int .i64 0):=HZ.out.at0 18 _ rfl
    have z19:w0.cell? ⟨X+1,19,none⟩=some (.int .i64 0):=HZ.out.at0 19 _ rfl
    have z20:w0.cell? ⟨X+1,20,none⟩=some (.int .i64 0):=HZ.out.at0 20 _ rfl
    have z21:w0.cell? ⟨X+1,21,none⟩=some (.string ⟨#[]⟩):=HZ.out.at0 21 _ rfl
    have z22:w0.cell? ⟨X+1,22,none⟩=some (.slice none 0 0):=HZ.out.at0 22 _ rfl
    go_wp2_with (first
      | (go_at_call_of 163 (Value.slice y.aU x.A.us.length y.cU);refine (iSameL0_any x.A _ _ _ _ HK.out.au HK.out.ag _).mono ?_;rintro e w1 ⟨rfl,hb⟩;replace HB:Hid (Below w.heap.size w w1):=Below.on HB.out hb;replace HX:Hid (BoxR w1 X (ndV x y)):=HX.out.below hb;replace HZ:Hid (BoxR w1 (X+1) (ndV ndZ naZ)):=HZ.out.below hb;clear hb;replace e0:=NB.c0 HX.out;replace e1:=NB.c1 HX.out;replace e2:=NB.c2 HX.out;replace e3:=NB.c3 HX.out;replace e4:=NB.c4 HX.out;replace e5:=NB.c5 HX.out;replace e6:=NB.c6 HX.out;replace e7:=NB.c7 HX.out;replace e8:=NB.c8 HX.out;replace e9:=NB.c9 HX.out;replace e10:=NB.c10 HX.out;replace e11:=NB.c11 HX.out;replace e12:=NB.c12 HX.out;replace e13:=NB.c13 HX.out;replace e14:=NB.c14 HX.out;replace e15:=NB.c15 HX.out;replace e16:=NB.c16 HX.out;replace e17:=NB.c17 HX.out;replace e18:=NB.c18 HX.out;replace e19:=NB.c19 HX.out;replace e20:=NB.c20 HX.out;replace e21:=NB.c21 HX.out;replace e22:=NB.c22 HX.out;replace z0:w1.cell? ⟨X+1,0,none⟩=some (.int .i64 0):=HZ.out.at0 0 _ rfl;replace z1:w1.cell? ⟨X+1,1,none⟩=some (.int .i64 0):=HZ.out.at0 1 _ rfl;replace z2:w1.cell? ⟨X+1,2,none⟩=some (.int .i64 0):=HZ.out.at0 2 _ rfl;replace z3:w1.cell? ⟨X+1,3,none⟩=some (.int .i64 0):=HZ.out.at0 3 _ rfl;replace z4:w1.cell? ⟨X+1,4,none⟩=some (.int .i64 0):=HZ.out.at0 4 _ rfl;replace z5:w1.cell? ⟨X+1,5,none⟩=some (.int .i64 0):=HZ.out.at0 5 _ rfl;replace z6:w1.cell? ⟨X+1,6,none⟩=some (.int .i64 0):=HZ.out.at0 6 _ rfl;replace z7:w1.cell? ⟨X+1,7,none⟩=some (.slice none 0 0):=HZ.out.at0 7 _ rfl;replace z8:w1.cell? ⟨X+1,8,none⟩=some (.slice none 0 0):=HZ.out.at0 8 _ rfl;replace z9:w1.cell? ⟨X+1,9,none⟩=some (.bool false):=HZ.out.at0 9 _ rfl;replace z10:w1.cell? ⟨X+1,10,none⟩=some (.int .i64 0):=HZ.out.at0 10 _ rfl;replace z11:w1.cell? ⟨X+1,11,none⟩=some (.bool false):=HZ.out.at0 11 _ rfl;replace z12:w1.cell? ⟨X+1,12,none⟩=some (.int .i64 0):=HZ.out.at0 12 _ rfl;replace z13:w1.cell? ⟨X+1,13,none⟩=some (.int .i64 0):=HZ.out.at0 13 _ rfl;replace z14:w1.cell? ⟨X+1,14,none⟩=some (.int .i64 0):=HZ.out.at0 14 _ rfl;replace z15:w1.cell? ⟨X+1,15,none⟩=some (.slice none 0 0):=HZ.out.at0 15 _ rfl;replace z16:w1.cell? ⟨X+1,16,none⟩=some (.slice none 0 0):=HZ.out.at0 16 _ rfl;replace z17:w1.cell? ⟨X+1,17,none⟩=some (.bool false):=HZ.out.at0 17 _ rfl;replace z18:w1.cell? ⟨X+1,18,none⟩=some (.int .i64 0):=HZ.out.at0 18 _ rfl;replace z19:w1.cell? ⟨X+1,19,none⟩=some (.int .i64 0):=HZ.out.at0 19 _ rfl;replace z20:w1.cell? ⟨X+1,20,none⟩=some (.int .i64 0):=HZ.out.at0 20 _ rfl;replace z21:w1.cell? ⟨X+1,21,none⟩=some (.string ⟨#[]⟩):=HZ.out.at0 21 _ rfl;replace z22:w1.cell? ⟨X+1,22,none⟩=some (.slice none 0 0):=HZ.out.at0 22 _ rfl)
      | (go_at_call_of 163 (Value.slice y.dU x.D.us.length y.eU);refine (iSameL0_any x.D _ _ _ _ HK.out.du HK.out.dg _).mono ?_;rintro e w1 ⟨rfl,hb⟩;replace HB:Hid (Below w.heap.size w w1):=Below.on HB.out hb;replace HX:Hid (BoxR w1 X (ndV x y)):=HX.out.below hb;replace HZ:Hid (BoxR w1 (X+1) (ndV ndZ naZ)):=HZ.out.below hb;clear hb;replace e0:=NB.c0 HX.out;replace e1:=NB.c1 HX.out;replace e2:=NB.c2 HX.out;replace e3:=NB.c3 HX.out;replace e4:=NB.c4 HX.out;replace e5:=NB.c5 HX.out;replace e6:=NB.c6 HX.out;replace e7:=NB.c7 HX.out;replace e8:=NB.c8 HX.out;replace e9:=NB.c9 HX.out;replace e10:=NB.c10 HX.out;replace e11:=NB.c11 HX.out;replace e12:=NB.c12 HX.out;replace e13:=NB.c13 HX.out;replace e14:=NB.c14 HX.out;replace e15:=NB.c15 HX.out;replace e16:=NB.c16 HX.out;replace e17:=NB.c17 HX.out;replace e18:=NB.c18 HX.out;replace e19:=NB.c19 HX.out;replace e20:=NB.c20 HX.out;replace e21:=NB.c21 HX.out;replace e22:=NB.c22 HX.out;replace z0:w1.cell? ⟨X+1,0,none⟩=some (.int .i64 0):=HZ.out.at0 0 _ rfl;replace z1:w1.cell? ⟨X+1,1,none⟩=some (.int .i64 0):=HZ.out.at0 1 _ rfl;replace z2:w1.cell? ⟨X+1,2,none⟩=some (.int .i64 0):=HZ.out.at0 2 _ rfl;replace z3:w1.cell? ⟨X+1,3,none⟩=some (.int .i64 0):=HZ.out.at0 3 _ rfl;replace z4:w1.cell? ⟨X+1,4,none⟩=some (.int .i64 0):=HZ.out.at0 4 _ rfl;replace z5:w1.cell? ⟨X+1,5,none⟩=some (.int .i64 0):=HZ.out.at0 5 _ rfl;replace z6:w1.cell? ⟨X+1,6,none⟩=some (.int .i64 0):=HZ.out.at0 6 _ rfl;replace z7:w1.cell? ⟨X+1,7,none⟩=some (.slice none 0 0):=HZ.out.at0 7 _ rfl;replace z8:w1.cell? ⟨X+1,8,none⟩=some (.slice none 0 0):=HZ.out.at0 8 _ rfl;replace z9:w1.cell? ⟨X+1,9,none⟩=some (.bool false):=HZ.out.at0 9 _ rfl;replace z10:w1.cell? ⟨X+1,10,none⟩=some (.int .i64 0):=HZ.out.at0 10 _ rfl;replace z11:w1.cell? ⟨X+1,11,none⟩=some (.bool false):=HZ.out.at0 11 _ rfl;replace z12:w1.cell? ⟨X+1,12,none⟩=some (.int .i64 0):=HZ.out.at0 12 _ rfl;replace z13:w1.cell? ⟨X+1,13,none⟩=some (.int .i64 0):=HZ.out.at0 13 _ rfl;replace z14:w1.cell? ⟨X+1,14,none⟩=some (.int .i64 0):=HZ.out.at0 14 _ rfl;replace z15:w1.cell? ⟨X+1,15,none⟩=some (.slice none 0 0):=HZ.out.at0 15 _ rfl;replace z16:w1.cell? ⟨X+1,16,none⟩=some (.slice none 0 0):=HZ.out.at0 16 _ rfl;replace z17:w1.cell? ⟨X+1,17,none⟩=some (.bool false):=HZ.out.at0 17 _ rfl;replace z18:w1.cell? ⟨X+1,18,none⟩=some (.int .i64 0):=HZ.out.at0 18 _ rfl;replace z19:w1.cell? ⟨X+1,19,none⟩=some (.int .i64 0):=HZ.out.at0 19 _ rfl;replace z20:w1.cell? ⟨X+1,20,none⟩=some (.int .i64 0):=HZ.out.at0 20 _ rfl;replace z21:w1.cell? ⟨X+1,21,none⟩=some (.string ⟨#[]⟩):=HZ.out.at0 21 _ rfl;replace z22:w1.cell? ⟨X+1,22,none⟩=some (.slice none 0 0):=HZ.out.at0 22 _ rfl)
      | (go_at_call 164;refine (H3.out _).mono ?_;rintro e w2 ⟨rfl,rfl⟩))
    all_goals go_ret
    all_goals (refine ⟨ret_boolW ?_,HB.out⟩;rw [HE.out];first | (simp [*];done) | (simp only [bne_iff_ne,ne_eq,bne_eq_false_iff_eq] at *;simp [*]))
end Go.Proofs.YtabfdidnjibdeaaGreatDoor
