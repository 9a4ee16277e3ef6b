/- Laid together: CredMath, Groups, Contains, InGroupWalks. -/
import Derived.Test.YtabfdidnjibdeaaGreatDoorBR1
import Derived.Deep.QuietTactic
import Derived.BigQuiet
import Derived.Handy
namespace Go.Proofs.YtabfdidnjibdeaaGreatDoor
open Go.RowKit Go.PlainAid
set_option linter.unusedVariables false
def Ints (a:Option Addr) (len:Nat) (f:Nat→Int) (w:World):Prop:=0<len→∃ b off,a=some ⟨b,off,none⟩∧b<w.heap.size∧∀ i,i<len→w.cell? ⟨b,off+i,none⟩=some (.int .i64 (f i))
theorem Ints.below {a:Option Addr}{len:Nat}{f:Nat→Int}{w w':World}(h:Ints a len f w)(hb:Below w.heap.size w w'):Ints a len f w':=by
  intro hl
  obtain ⟨b,off,ha,hlt,hc⟩:=h hl
  exact ⟨b,off,ha,Nat.lt_of_lt_of_le hlt hb.size,fun i hi=>(hb.cell (p:=⟨b,off+i,none⟩) hlt).trans (hc i hi)⟩
def okG (f:Nat→Int) (k:Nat):Bool:=inR 0 9999 (f k)&&(k==0||decide (f (k-1)<f k))
def risesB (f:Nat→Int):Nat→Bool
  | 0=>true
  | k+1=>risesB f k&&okG f k
def grB (len:Nat) (f:Nat→Int):Bool:=decide (len≤8)&&risesB f len
def credB (u g:Int) (len:Nat) (f:Nat→Int):Bool:=inR 0 9999 u&&(inR 0 9999 g&&grB len f)
theorem rises_false {f:Nat→Int}{k n:Nat}(h:k<n)(hk:okG f k=false):risesB f n=false:=by
  induction n with
  | zero=>omega
  | succ n ih =>
    by_cases e:k=n
    · subst e;simp [risesB,hk]
    · simp [risesB,ih (by omega)]
theorem gr_no {len:Nat}{f:Nat→Int}{k:Nat}(h:k<len)(hk:okG f k=false):grB len f=false:=by simp [grB,rises_false h hk]
theorem gr_long {len:Nat}{f:Nat→Int}(h:8<len):grB len f=false:=by
  have:¬ len≤8:=by omega
  simp [grB,this]
theorem gr_yes {len:Nat}{f:Nat→Int}(h:len≤8)(hr:risesB f len=true):grB len f=true:=by simp [grB,h,hr]
theorem rises_next {f:Nat→Int}{k:Nat}(h:risesB f k=true)(hk:okG f k=true):risesB f (k+1)=true:=by simp [risesB,h,hk]
theorem okG_id {f:Nat→Int}{k:Nat}(h:inR 0 9999 (f k)=false):okG f k=false:=by simp [okG,h]
theorem okG_first {f:Nat→Int}(h:inR 0 9999 (f 0)=true):okG f 0=true:=by simp [okG,h]
theorem okG_up {f:Nat→Int}{k:Nat}(h:inR 0 9999 (f (k+1))=true)(h1:f k<f (k+1)):okG f (k+1)=true:=by simp [okG,h,h1]
theorem okG_down {f:Nat→Int}{k:Nat}(h1:¬ f k<f (k+1)):okG f (k+1)=false:=by simp [okG,h1]
def anyG (f:Nat→Int) (gid:Int):Nat→Bool
  | 0=>false
  | k+1=>anyG f gid k||f k==gid
def inGB (u g:Int) (len:Nat) (f:Nat→Int) (gid:Int):Bool:=credB u g len f&&(g==gid||anyG f gid len)
theorem credB_iff {u g:Int}{len:Nat}{f:Nat→Int}:credB u g len f=true ↔ inR 0 9999 u=true∧inR 0 9999 g=true∧grB len f=true:=by simp [credB]
theorem gr_len {len:Nat}{f:Nat→Int}(h:grB len f=true):len≤8:=by
  simp [grB] at h
  exact h.1
set_option maxHeartbeats 1000000 in
theorem groups_long (a:Option Addr)(len cap:Nat)(h:8<(len:Int))(w:World) :
    Calls Tryz.prog 74 #[.slice a len cap] w fun e w'=>e=.returned (.bool false)∧w'=w:=by
  go_enter Tryz.func74,Tryz.ntmps74
  go_wp2
  go_ret
  exact ⟨rfl,rfl⟩
set_option maxHeartbeats 1000000 in
theorem groups_none (a:Option Addr)(cap:Nat)(w:World) :
    Calls Tryz.prog 74 #[.slice a 0 cap] w fun e w'=>e=.returned (.bool true)∧w'=w:=by
  go_enter Tryz.func74,Tryz.ntmps74
  go_wp2
  go_rounds 1
  go_ret
  exact ⟨rfl,rfl⟩
set_option maxHeartbeats 2000000 in
theorem groups_some (b off len cap:Nat)(f:Nat→Int)(hl:len≤8)(w:World)(hc:∀ i,i<len→w.cell? ⟨b,off+i,none⟩=some (.int .i64 (f i))) :
    Calls Tryz.prog 74 #[.slice (some ⟨b,off,none⟩) len cap] w fun e w'=>e=.returned (.bool (grB len f))∧w'=w:=by
  have d0:decide (8<(len:Int))=false:=by simp;omega
  go_enter Tryz.func74,Tryz.ntmps74
  go_wp2
  have HC:Hid (∀ i,i<len→w.cell? ⟨b,off+i,none⟩=some (.int .i64 (f i))):=hc
  clear hc
  go_loop [10] (fun i=>∃ k:Nat,k≤len∧i=.int .i64 k∧Hid (risesB f k=true)) (fun i=>len-(intOf i).toNat)
  case atStart=>exact ⟨0,Nat.zero_le _,rfl,rfl⟩
  case round =>
    obtain ⟨k,hk,rfl,hto⟩:=hrel
    by_cases hlt:k<len
    · have g0 := HC.out k hlt
      cases hid:inR 0 9999 (f k)
      · have hno : Hid (grB len f = false) := gr_no hlt (okG_id hid)
        go_wp2_with (go_at_call 73;refine (isId_any _ _).mono ?_;rintro e w' ⟨rfl,rfl⟩)
        go_ret
        exact ⟨ret_boolW hno.out.symm,rfl⟩
      · cases k with
        | zero =>
          have hok:Hid (okG f 0=true):=okG_first hid
          simp only [Nat.add_zero] at g0
          go_wp2_with (go_at_call 73;refine (isId_any _ _).mono ?_;rintro e w' ⟨rfl,rfl⟩)
          go_round
          case rel=>exact ⟨1,by omega,by go_num,rises_next hto.out hok.out⟩
          case measure=>simp [intOf];omega
        | succ j =>
          have g1:=HC.out j (by omega)
          by_cases hup:f j<f (j+1)
          · have hok : Hid (okG f (j + 1) = true) := okG_up hid hup
            have dd:decide (f (j+1)≤f j)=false:=by simp;omega
            go_wp2_with (go_at_call 73;refine (isId_any _ _).mono ?_;rintro e w' ⟨rfl,rfl⟩)
            go_round
            case rel=>exact ⟨j+1+1,by omega,by go_num,rises_next hto.out hok.out⟩
            case measure=>simp [intOf];omega
          · have hno : Hid (grB len f = false) := gr_no hlt (okG_down hup)
            have dd:f (j+1)≤f j:=by omega
            clear hup
            go_wp2_with (go_at_call 73;refine (isId_any _ _).mono ?_;rintro e w' ⟨rfl,rfl⟩)
            go_ret
            exact ⟨ret_boolW hno.out.symm,rfl⟩
    · have : k = len := by omega
      subst this
      have hyes:Hid (grB k f=true):=gr_yes hl hto.out
      go_wp2
      go_ret
      exact ⟨ret_boolW hyes.out.symm,rfl⟩
theorem groups_any (a:Option Addr)(len cap:Nat)(f:Nat→Int)(w:World)(hi:Ints a len f w) :
    Calls Tryz.prog 74 #[.slice a len cap] w fun e w'=>e=.returned (.bool (grB len f))∧w'=w:=by
  by_cases h8:8<len
  · rw [gr_long h8]
    exact groups_long a len cap (by omega) w
  · by_cases h0 : len = 0
    · subst h0
      exact groups_none a cap w
    · obtain ⟨b, off, rfl, hlt, hc⟩ := hi (by omega)
      exact groups_some b off len cap f (by omega) w hc
theorem below_drewN {B:Nat}{w w':World}(h:Below B w w')(n:Nat):Below B w (w'.drewN n):=h.trans ⟨rfl,rfl,rfl,Nat.le_refl _,fun _ _=>rfl⟩
theorem credB_u {u g:Int}{len:Nat}{f:Nat→Int}(h:inR 0 9999 u=false):credB u g len f=false:=by simp [credB,h]
theorem credB_g {u g:Int}{len:Nat}{f:Nat→Int}(h:inR 0 9999 g=false):credB u g len f=false:=by simp [credB,h]
theorem credB_gr {u g:Int}{len:Nat}{f:Nat→Int}(h0:inR 0 9999 u=true)(h1:inR 0 9999 g=true):credB u g len f=grB len f:=by simp [credB,h0,h1]
set_option maxHeartbeats 2000000 in
theorem iCredRight_any (u g:Int)(a:Option Addr)(len cap:Nat)(r:Bool)(f:Nat→Int)(w:World)(hi:Ints a len f w) :
    Calls Tryz.prog 39 #[.agg #[.int .i64 u,.int .i64 g,.slice a len cap,.bool r]] w fun e w'=>e=.returned (.bool (credB u g len f))∧Below w.heap.size w w':=by
  cases h0:inR 0 9999 u
  · have hno : Hid (credB u g len f = false) := credB_u h0
    go_enter Tryz.func39,Tryz.ntmps39
    go_wp2_with (go_at_call 73;refine (isId_any _ _).mono ?_;rintro e w' ⟨rfl,rfl⟩)
    go_ret
    exact ⟨ret_boolW hno.out.symm,(Below.refl _ _).alloc (Nat.le_refl _) _⟩
  · cases h1 : inR 0 9999 g
    · have hno : Hid (credB u g len f = false) := credB_g h1
      go_enter Tryz.func39,Tryz.ntmps39
      go_wp2_with (go_at_call 73;refine (isId_any _ _).mono ?_;rintro e w' ⟨rfl,rfl⟩)
      go_ret
      exact ⟨ret_boolW hno.out.symm,(Below.refl _ _).alloc (Nat.le_refl _) _⟩
    · have hyes : Hid (credB u g len f = grB len f) := credB_gr h0 h1
      have hg:Hid (∀ w',Below w.heap.size w w'→Calls Tryz.prog 74 #[.slice a len cap] w' fun e w''=>e=.returned (.bool (grB len f))∧w''=w'):=(fun w' hb=>groups_any a len cap f w' (hi.below hb))
      clear hi
      go_enter Tryz.func39,Tryz.ntmps39
      go_wp2_with (first | (go_at_call 73;refine (isId_any _ _).mono ?_;rintro e w' ⟨rfl,rfl⟩) | (go_at_call 74;refine (hg.out _ ((Below.refl _ _).alloc (Nat.le_refl _) _)).mono ?_;rintro e w' ⟨rfl,rfl⟩))
      go_ret
      exact ⟨ret_boolW hyes.out.symm,(Below.refl _ _).alloc (Nat.le_refl _) _⟩
set_option maxHeartbeats 2000000 in
theorem sCredRight_u (u g:Int)(a:Option Addr)(len cap:Nat)(r:Bool)(h0:inR 0 9999 u=false)(w:World) :
    Calls Tryz.prog 34 #[.agg #[.int .i64 u,.int .i64 g,.slice a len cap,.bool r]] w fun e w'=>e=.returned (.bool false)∧Below w.heap.size w w':=by
  go_enter Tryz.func34,Tryz.ntmps34
  go_wp2_with (go_at_call 65;refine (sId_any _ _).mono ?_;rintro e w' ⟨rfl,rfl⟩)
  go_ret
  exact ⟨rfl,(Below.refl _ _).alloc (Nat.le_refl _) _⟩
set_option maxHeartbeats 2000000 in
theorem sCredRight_g (u g:Int)(a:Option Addr)(len cap:Nat)(r:Bool)(h0:inR 0 9999 u=true)(h1:inR 0 9999 g=false)(w:World) :
    Calls Tryz.prog 34 #[.agg #[.int .i64 u,.int .i64 g,.slice a len cap,.bool r]] w fun e w'=>e=.returned (.bool false)∧Below w.heap.size w w':=by
  go_enter Tryz.func34,Tryz.ntmps34
  go_wp2_with (go_at_call 65;refine (sId_any _ _).mono ?_;rintro e w' ⟨rfl,rfl⟩)
  go_ret
  exact ⟨rfl,(Below.refl _ _).alloc (Nat.le_refl _) _⟩
set_option maxHeartbeats 2000000 in
theorem sCredRight_long (u g:Int)(a:Option Addr)(len cap:Nat)(r:Bool)(h0:inR 0 9999 u=true)(h1:inR 0 9999 g=true)(hl:8<(len:Int))(w:World) :
    Calls Tryz.prog 34 #[.agg #[.int .i64 u,.int .i64 g,.slice a len cap,.bool r]] w fun e w'=>e=.returned (.bool false)∧Below w.heap.size w w':=by
  go_enter Tryz.func34,Tryz.ntmps34
  go_wp2_with (go_at_call 65;refine (sId_any _ _).mono ?_;rintro e w' ⟨rfl,rfl⟩)
  go_ret
  exact ⟨rfl,(Below.refl _ _).alloc (Nat.le_refl _) _⟩
set_option maxHeartbeats 2000000 in
theorem sCredRight_none (u g:Int)(a:Option Addr)(cap:Nat)(r:Bool)(h0:inR 0 9999 u=true)(h1:inR 0 9999 g=true)(w:World) :
    Calls Tryz.prog 34 #[.agg #[.int .i64 u,.int .i64 g,.slice a 0 cap,.bool r]] w fun e w'=>e=.returned (.bool true)∧Below w.heap.size w w':=by
  go_enter Tryz.func34,Tryz.ntmps34
  go_wp2_with (go_at_call 65;refine (sId_any _ _).mono ?_;rintro e w' ⟨rfl,rfl⟩)
  go_rounds 1
  go_ret
  exact ⟨rfl,(Below.refl _ _).alloc (Nat.le_refl _) _⟩
set_option maxHeartbeats 4000000 in
theorem sCredRight_some (u g:Int)(b off len cap:Nat)(r:Bool)(f:Nat→Int)(h0:inR 0 9999 u=true)(h1:inR 0 9999 g=true)(hl:len≤8)(w:World)(hb:b<w.heap.size)(hc:∀ i,i<len→w.cell? ⟨b,off+i,none⟩=some (.int .i64 (f i))) :
    Calls Tryz.prog 34 #[.agg #[.int .i64 u,.int .i64 g,.slice (some ⟨b,off,none⟩) len cap,.bool r]] w fun e w'=>e=.returned (.bool (grB len f))∧Below w.heap.size w w':=by
  have d0:decide (8<(len:Int))=false:=by simp;omega
  have HC:Hid (∀ i,i<len→w.cell? ⟨b,off+i,none⟩=some (.int .i64 (f i))):=hc
  clear hc
  go_enter Tryz.func34,Tryz.ntmps34
  go_wp2_with (go_at_call 65;refine (sId_any _ _).mono ?_;rintro e w' ⟨rfl,rfl⟩)
  go_loopw [3] (fun i wr=>∃ (k:Nat),k≤len∧i=.int .i64 k∧Hid (Below w.heap.size w wr)∧Hid (w.heap.size<wr.heap.size)∧wr.cell? ⟨w.heap.size,2,none⟩=some (.slice (some ⟨b,off,none⟩) len cap)∧Hid (risesB f k=true)) (fun i _=>len-(intOf i).toNat)
  case atStart=>exact ⟨0,Nat.zero_le _,rfl,(Below.refl _ _).alloc (Nat.le_refl _) _,(by simp:w.heap.size<(w.alloc _).heap.size),by simp,rfl⟩
  case round =>
    obtain ⟨k,hk,rfl,hbel,hsz,hcl,hto⟩:=hrel
    by_cases hlt:k<len
    · have g0 : wr.cell? ⟨b, off + k, none⟩ = some (.int .i64 (f k)) := (hbel.out.cell (p := ⟨b, off + k, none⟩) hb).trans (HC.out k hlt)
      have hlt':(k:Int)<(len:Int):=by omega
      cases hid:inR 0 9999 (f k)
      · have hno : Hid (grB len f = false) := gr_no hlt (okG_id hid)
        go_wp2
        go_quiet ((go_at_call 65;exact Calls.quiet_of_same (sId_any _ _)))
        go_wp2
        go_ret
        exact ⟨ret_boolW hno.out.symm,below_drewN hbel.out _⟩
      · cases k with
        | zero =>
          have hok:Hid (okG f 0=true):=okG_first hid
          simp only [Nat.add_zero] at g0
          go_wp2
          go_quiet ((go_at_call 65;exact Calls.quiet_of_same (sId_any _ _)))
          go_wp2
          go_roundw
          case rel=>exact ⟨1,by omega,by go_num,below_drewN hbel.out _,hsz,hcl,rises_next hto.out hok.out⟩
          case measure=>simp [intOf];omega
        | succ j =>
          have g1:wr.cell? ⟨b,off+j,none⟩=some (.int .i64 (f j)):=(hbel.out.cell (p:=⟨b,off+j,none⟩) hb).trans (HC.out j (by omega))
          have hj':(j:Int)<(len:Int):=by omega
          have hj2:(j:Int)+1<(len:Int):=by omega
          have hj0:(0:Int)<(j:Int)+1:=by omega
          have hj3:(j:Int)+1-1=(j:Int):=by omega
          by_cases hup:f j<f (j+1)
          · have hok : Hid (okG f (j + 1) = true) := okG_up hid hup
            have dd:decide (f (j+1)≤f j)=false:=by simp;omega
            go_wp2
            go_quiet ((go_at_call 65;exact Calls.quiet_of_same (sId_any _ _)))
            go_wp2
            go_roundw
            case rel=>exact ⟨j+1+1,by omega,by go_num,below_drewN hbel.out _,hsz,hcl,rises_next hto.out hok.out⟩
            case measure=>simp [intOf];omega
          · have hno : Hid (grB len f = false) := gr_no hlt (okG_down hup)
            have dd:f (j+1)≤f j:=by omega
            clear hup
            go_wp2
            go_quiet ((go_at_call 65;exact Calls.quiet_of_same (sId_any _ _)))
            go_wp2
            go_ret
            exact ⟨ret_boolW hno.out.symm,below_drewN hbel.out _⟩
    · have : k = len := by omega
      subst this
      have hyes:Hid (grB k f=true):=gr_yes hl hto.out
      go_wp2
      go_ret
      exact ⟨ret_boolW hyes.out.symm,hbel.out⟩
theorem sCredRight_any (u g:Int)(a:Option Addr)(len cap:Nat)(r:Bool)(f:Nat→Int)(w:World)(hi:Ints a len f w) :
    Calls Tryz.prog 34 #[.agg #[.int .i64 u,.int .i64 g,.slice a len cap,.bool r]] w fun e w'=>e=.returned (.bool (credB u g len f))∧Below w.heap.size w w':=by
  cases h0:inR 0 9999 u
  · rw [credB_u h0]
    exact sCredRight_u u g a len cap r h0 w
  · cases h1 : inR 0 9999 g
    · rw [credB_g h1]
      exact sCredRight_g u g a len cap r h0 h1 w
    · rw [credB_gr h0 h1]
      by_cases h8:8<len
      · rw [gr_long h8]
        exact sCredRight_long u g a len cap r h0 h1 (by omega) w
      · by_cases hz : len = 0
        · subst hz
          exact sCredRight_none u g a cap r h0 h1 w
        · obtain ⟨b, off, rfl, hlt, hc⟩ := hi (by omega)
          exact sCredRight_some u g b off len cap r f h0 h1 (by omega) w hlt hc
theorem anyG_hit {f:Nat→Int}{gid:Int}{k n:Nat}(h:k<n)(hk:f k=gid):anyG f gid n=true:=by
  induction n with
  | zero=>omega
  | succ n ih =>
    by_cases e:k=n
    · subst e;simp [anyG,hk]
    · simp [anyG,ih (by omega)]
theorem anyG_next {f:Nat→Int}{gid:Int}{k:Nat}(h:anyG f gid k=false)(hk:f k≠gid):anyG f gid (k+1)=false:=by simp [anyG,h,hk]
theorem index_none (a:Option Addr)(cap:Nat)(gid:Int)(w:World) :
    Calls Tryz.prog 240 #[.slice a 0 cap,.int .i64 gid] w fun e w'=>e=.returned (.int .i64 (-1))∧w'=w:=by
  go_enter Tryz.func240,Tryz.ntmps240
  go_wp2
  go_rounds 1
  go_ret
  exact ⟨rfl,rfl⟩
set_option maxHeartbeats 1000000 in
theorem index_some (b off len cap:Nat)(f:Nat→Int)(gid:Int)(hl:len≤1048576)(w:World)(hc:Hid (∀ i,i<len→w.cell? ⟨b,off+i,none⟩=some (.int .i64 (f i)))) :
    Calls Tryz.prog 240 #[.slice (some ⟨b,off,none⟩) len cap,.int .i64 gid] w fun e w'=>(∃ z:Int,e=.returned (.int .i64 z)∧decide (0≤z)=anyG f gid len)∧w'=w:=by
  go_enter Tryz.func240,Tryz.ntmps240
  go_wp2
  go_loop [8] (fun i=>∃ k:Nat,k≤len∧i=.int .i64 k∧Hid (anyG f gid k=false)) (fun i=>len-(intOf i).toNat)
  case atStart=>exact ⟨0,Nat.zero_le _,rfl,rfl⟩
  case round =>
    obtain ⟨k,hk,rfl,hto⟩:=hrel
    by_cases hlt:k<len
    · have g0 := hc.out k hlt
      by_cases he:f k=gid
      · have hy : Hid (anyG f gid len = true) := anyG_hit hlt he
        have q:(gid==f k)=true:=by rw [he];simp
        clear he
        go_wp2
        go_ret
        exact ⟨⟨k,rfl,by rw [hy.out];simp⟩,rfl⟩
      · have hy : Hid (anyG f gid (k + 1) = false) := anyG_next hto.out he
        have q:(gid==f k)=false:=by rw [beq_eq_false_iff_ne];exact fun e=>he e.symm
        clear he
        go_wp2
        go_round
        case rel=>exact ⟨k+1,by omega,by go_num,hy⟩
        case measure=>simp [intOf];omega
    · have : k = len := by omega
      subst this
      go_wp2
      go_ret
      exact ⟨⟨-1,rfl,by rw [hto.out];decide⟩,rfl⟩
theorem index_any (a:Option Addr)(len cap:Nat)(f:Nat→Int)(gid:Int)(hl:len≤1048576)(w:World)(hi:Ints a len f w) :
    Calls Tryz.prog 240 #[.slice a len cap,.int .i64 gid] w fun e w'=>(∃ z:Int,e=.returned (.int .i64 z)∧decide (0≤z)=anyG f gid len)∧w'=w:=by
  by_cases h0:len=0
  · subst h0
    refine (index_none a cap gid w).mono ?_
    rintro e w' ⟨rfl,rfl⟩
    exact ⟨⟨-1,rfl,by simp [anyG]⟩,rfl⟩
  · obtain ⟨b, off, rfl, hlt, hc⟩ := hi (by omega)
    exact index_some b off len cap f gid hl w hc
theorem contains_any (a:Option Addr)(len cap:Nat)(f:Nat→Int)(gid:Int)(hl:len≤1048576)(w:World)(hi:Ints a len f w) :
    Calls Tryz.prog 230 #[.slice a len cap,.int .i64 gid] w fun e w'=>e=.returned (.bool (anyG f gid len))∧w'=w:=by
  have hc:Hid (∀ w',w'=w→Calls Tryz.prog 240 #[.slice a len cap,.int .i64 gid] w' fun e w''=>(∃ z:Int,e=.returned (.int .i64 z)∧decide (0≤z)=anyG f gid len)∧w''=w'):=(fun w' e=>by subst e;exact index_any a len cap f gid hl w' hi)
  clear hi
  go_enter Tryz.func230,Tryz.ntmps230
  go_wp2_with (go_at_call 240;refine (hc.out _ rfl).mono ?_;rintro e w' ⟨⟨z,rfl,hz⟩,rfl⟩)
  go_ret
  exact ⟨rfl,rfl⟩
theorem inGB_no {u g:Int}{len:Nat}{f:Nat→Int}{gid:Int}(h:credB u g len f=false):inGB u g len f gid=false:=by simp [inGB,h]
theorem inGB_yes {u g:Int}{len:Nat}{f:Nat→Int}{gid:Int}(h:credB u g len f=true):inGB u g len f gid=(g==gid||anyG f gid len):=by simp [inGB,h]
set_option maxHeartbeats 2000000 in
theorem iInGroup_any (u g:Int)(a:Option Addr)(len cap:Nat)(r:Bool)(gid:Int)(f:Nat→Int)(w:World)(hi:Ints a len f w) :
    Calls Tryz.prog 200 #[.agg #[.int .i64 u,.int .i64 g,.slice a len cap,.bool r],.int .i64 gid] w fun e w'=>e=.returned (.bool (inGB u g len f gid))∧Below w.heap.size w w':=by
  have hr:Hid (∀ w',Below w.heap.size w w'→Calls Tryz.prog 39 #[.agg #[.int .i64 u,.int .i64 g,.slice a len cap,.bool r]] w' fun e w''=>e=.returned (.bool (credB u g len f))∧Below w'.heap.size w' w''):=(fun w' hb=>iCredRight_any u g a len cap r f w' (hi.below hb))
  have hB0:Hid (Below w.heap.size w (w.alloc (.cells #[.int .i64 u,.int .i64 g,.slice a len cap,.bool r] 37))):=(Below.refl _ _).alloc (Nat.le_refl _) _
  cases h0:credB u g len f
  · have hy : Hid (inGB u g len f gid = false) := inGB_no h0
    rw [h0] at hr
    clear hi
    go_enter Tryz.func200,Tryz.ntmps200
    go_wp2_with (go_at_call 39;refine (hr.out _ hB0.out).mono ?_;rintro e w1 ⟨rfl,hb1⟩)
    go_ret
    exact ⟨ret_boolW hy.out.symm,hB0.out.trans (hb1.mono (by simp))⟩
  · have hy : Hid (inGB u g len f gid = (g == gid || anyG f gid len)) := inGB_yes h0
    have h8:len≤8:=gr_len (credB_iff.mp h0).2.2
    rw [h0] at hr
    have hc:Hid (∀ w',Below w.heap.size w w'→Calls Tryz.prog 230 #[.slice a len cap,.int .i64 gid] w' fun e w''=>e=.returned (.bool (anyG f gid len))∧w''=w'):=(fun w' hb=>contains_any a len cap f gid (by omega) w' (hi.below hb))
    clear hi
    by_cases he:g=gid
    · have q : (gid == g) = true := by rw [he]; simp
      have q2:Hid ((g==gid||anyG f gid len)=true):=(by show (g==gid||anyG f gid len)=true;rw [he];simp)
      clear he
      go_enter Tryz.func200,Tryz.ntmps200
      go_wp2_with (go_at_call 39;refine (hr.out _ hB0.out).mono ?_;rintro e w1 ⟨rfl,hb1⟩;have xc1:w1.cell? ⟨w.heap.size,1,none⟩=some (.int .i64 g):=(hb1.cell (p:=⟨w.heap.size,1,none⟩) (by simp)).trans (by simp))
      go_ret
      exact ⟨ret_boolW (q2.out.symm.trans hy.out.symm),hB0.out.trans (hb1.mono (by simp))⟩
    · have q : (gid == g) = false := by rw [beq_eq_false_iff_ne]; exact fun e => he e.symm
      have q2:Hid ((g==gid||anyG f gid len)=anyG f gid len):=(by show (g==gid||anyG f gid len)=anyG f gid len;simp [he])
      clear he
      go_enter Tryz.func200,Tryz.ntmps200
      go_wp2_with (first | (go_at_call 39;refine (hr.out _ hB0.out).mono ?_;rintro e w1 ⟨rfl,hb1⟩;have xc1:w1.cell? ⟨w.heap.size,1,none⟩=some (.int .i64 g):=(hb1.cell (p:=⟨w.heap.size,1,none⟩) (by simp)).trans (by simp);have xc2:w1.cell? ⟨w.heap.size,2,none⟩=some (.slice a len cap):=(hb1.cell (p:=⟨w.heap.size,2,none⟩) (by simp)).trans (by simp)) | (go_at_call 230;refine (hc.out _ (hB0.out.trans (hb1.mono (by simp)))).mono ?_;rintro e w2 ⟨rfl,rfl⟩))
      go_ret
      exact ⟨ret_boolW (q2.out.symm.trans hy.out.symm),hB0.out.trans (hb1.mono (by simp))⟩
set_option maxHeartbeats 2000000 in
theorem l02In_some (u g:Int)(a:Option Addr)(len cap:Nat)(r:Bool)(gid:Int)(f:Nat→Int)(hl:len≤8)(w:World)(hi:Hid (Ints a len f w)) :
    Calls Tryz.prog 175 #[.agg #[.int .i64 u,.int .i64 g,.slice a len cap,.bool r],.int .i64 gid] w fun e w'=>e=.returned (.bool (g==gid||anyG f gid len))∧Below w.heap.size w w':=by
  go_enter Tryz.func175,Tryz.ntmps175
  go_wp2
  go_loop [5,6] (fun x i=>∃ k:Nat,k≤len∧i=.int .i64 k∧x=.bool (g==gid||anyG f gid k)) (fun _ i=>len-(intOf i).toNat)
  case atStart=>exact ⟨0,Nat.zero_le _,rfl,by simp [anyG]⟩
  case round =>
    obtain ⟨k,hk,rfl,rfl⟩:=hrel
    by_cases hlt:k<len
    · obtain ⟨b, off, rfl, hb, hc⟩ := hi.out (by omega)
      have g0:(w.alloc (.cells #[.int .i64 u,.int .i64 g,.slice (some ⟨b,off,none⟩) len cap,.bool r] 37)).cell? ⟨b,off+k,none⟩=some (.int .i64 (f k)):=((((Below.refl w.heap.size w).alloc (Nat.le_refl _) _).cell (p:=⟨b,off+k,none⟩) hb)).trans (hc k hlt)
      have hn:Hid ((g==gid||anyG f gid (k+1))=((g==gid||anyG f gid k)||f k==gid)):=(by show (g==gid||anyG f gid (k+1))=((g==gid||anyG f gid k)||f k==gid);simp [anyG,Bool.or_assoc])
      clear hc
      cases hx:(g==gid||anyG f gid k)
      · rw [hx] at hn
        go_wp2
        go_round
        case rel=>exact ⟨k+1,by omega,by go_num,by rw [hn.out];simp⟩
        case measure=>simp [intOf];omega
      · rw [hx] at hn
        go_wp2
        go_round
        case rel=>exact ⟨k+1,by omega,by go_num,by rw [hn.out];simp⟩
        case measure=>simp [intOf];omega
    · have : k = len := by omega
      subst this
      obtain ⟨x,hgx⟩:∃ x,Hid ((g==gid||anyG f gid k)=x):=⟨_,rfl⟩
      rw [hgx.out]
      go_wp2
      go_ret
      exact ⟨ret_boolW hgx.out.symm,(Below.refl _ _).alloc (Nat.le_refl _) _⟩
end Go.Proofs.YtabfdidnjibdeaaGreatDoor
