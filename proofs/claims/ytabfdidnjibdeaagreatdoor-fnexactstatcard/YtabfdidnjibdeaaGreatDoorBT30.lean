/- Laid together: Place, Splice, DropMath. -/
import Derived.Test.YtabfdidnjibdeaaGreatDoorBT7
import Derived.Test.YtabfdidnjibdeaaGreatDoorBT29
import Derived.Test.YtabfdidnjibdeaaGreatDoorBT28
/- impl.placeOf at lists of pairs. -/
namespace Go.Proofs.YtabfdidnjibdeaaGreatDoor
open Go.RowKit Go.PlainAid Go.Deep
set_option linter.unusedVariables false
set_option maxHeartbeats 1000000 in
/-- impl.idOf. -/
theorem idOf_any (x y:Int) (w:World) :
    Calls Tryz.prog 179 #[.agg #[.int .i64 x,.int .i64 y]] w fun e w' => e=.returned (.int .i64 x)∧Below w.heap.size w w':=by
  go_enter Tryz.func179,Tryz.ntmps179
  go_wp2
  go_ret
  exact ⟨rfl,bel_alloc _ _⟩
theorem ret_pair {a c:Int} {b d:Bool} (h:a=c) (h2:b=d):Ending.returned (.tuple #[.int .i64 a,.bool b])=Ending.returned (.tuple #[.int .i64 c,.bool d]):=by rw [h,h2]
/-- Where the entry of an id stands, or would have to stand. -/
def plc (l:List (Int × Int)) (key:Int):Nat:=l.findIdx (fun p => decide (key≤p.1))
def fnd (l:List (Int × Int)) (key:Int):Bool:=decide (plc l key < l.length) && decide (idAt l (plc l key)=key)
theorem idAt_get {l:List (Int × Int)} {k:Nat} (h:k < l.length):idAt l k=(l[k]).1:=by simp [idAt,List.getD,h]
theorem plc_at {l:List (Int × Int)} {key:Int} {k:Nat} (hk:k < l.length) (hlo:∀ j,j < k→idAt l j < key) (hhi:key≤idAt l k):plc l key=k:=by
  rw [plc,List.findIdx_eq hk]
  refine ⟨by rw [← idAt_get hk]; simpa using hhi,fun j hj => ?_⟩
  have:=hlo j hj
  rw [idAt_get (by omega)] at this
  simp; omega
theorem plc_none {l:List (Int × Int)} {key:Int} (hlo:∀ j,j < l.length→idAt l j < key):plc l key=l.length:=by
  rw [plc,List.findIdx_eq_length]
  intro x hx
  obtain ⟨j,hj,rfl⟩:=List.mem_iff_getElem.1 hx
  have:=hlo j hj
  rw [idAt_get hj] at this
  simp; omega
theorem fnd_at {l:List (Int × Int)} {key:Int} {k:Nat} (hk:k < l.length) (h:plc l key=k):fnd l key=decide (idAt l k=key):=by simp [fnd,h,hk]
theorem fnd_none {l:List (Int × Int)} {key:Int} (h:plc l key=l.length):fnd l key=false:=by simp [fnd,h]
set_option maxHeartbeats 1000000 in
theorem placeOf_none (a:Option Addr) (cap:Nat) (key:Int) (w:World) :
    Calls Tryz.prog 178 #[.slice a 0 cap,.int .i64 key,.func (.func 179) #[] #[]] w fun e w' => e=.returned (.tuple #[.int .i64 0,.bool false])∧w'=w:=by
  go_enter Tryz.func178,Tryz.ntmps178
  go_wp2
  go_rounds 1
  go_ret2
  exact ⟨rfl,rfl⟩
set_option maxRecDepth 100000 in
set_option maxHeartbeats 4000000 in
theorem placeOf_some (b off cap:Nat) (l:List (Int × Int)) (key:Int) (hl:l.length≤1000000) (w:World) (hb:b < w.heap.size) (hc:∀ i,i < l.length→w.cell? ⟨b,off + i * 2,none⟩=some (.int .i64 (idAt l i))∧w.cell? ⟨b,off + i * 2 + 1,none⟩=some (.int .i64 (btAt l i))) :
    Calls Tryz.prog 178 #[.slice (some ⟨b,off,none⟩) l.length cap,.int .i64 key,.func (.func 179) #[] #[]] w fun e w' => e=.returned (.tuple #[.int .i64 (plc l key),.bool (fnd l key)])∧Below w.heap.size w w':=by
  have HC:Hid (∀ i,i < l.length→w.cell? ⟨b,off + i * 2,none⟩=some (.int .i64 (idAt l i))∧w.cell? ⟨b,off + i * 2 + 1,none⟩=some (.int .i64 (btAt l i))):=hc
  have HA:Hid (∀ k,k < l.length→(∀ j,j < k→idAt l j < key)→key≤idAt l k→plc l key=k∧fnd l key=decide (idAt l k=key)):=(fun k hk h1 h2 => ⟨plc_at hk h1 h2,fnd_at hk (plc_at hk h1 h2)⟩)
  have HE:Hid ((∀ j,j < l.length→idAt l j < key)→plc l key=l.length∧fnd l key=false):=(fun h => ⟨plc_none h,fnd_none (plc_none h)⟩)
  clear hc
  generalize hlen:l.length=len at hl HC HA HE ⊢
  clear hlen
  generalize plc l key=pp at HA HE ⊢
  generalize fnd l key=ff at HA HE ⊢
  go_enter Tryz.func178,Tryz.ntmps178
  go_wp2
  go_loopw [13] (fun i wr => ∃ k:Nat,k≤len∧i=.int .i64 k∧Hid (∀ j,j < k→idAt l j < key)∧Hid (Below w.heap.size w wr)) (fun i _ => len - (intOf i).toNat)
  case atStart => exact ⟨0,Nat.zero_le _,rfl,fun j hj => absurd hj (by omega),Below.refl _ _⟩
  case round =>
    obtain ⟨k,hk,rfl,hto,hB⟩:=hrel
    by_cases hlt:k < len
    · have hlt' : (k : Int) < (len : Int) := by omega
      have g0:wr.cell? ⟨b,off + k * 2,none⟩=some (.int .i64 (idAt l k)):=(hB.out.cell (p:=⟨b,off + k * 2,none⟩) hb).trans (HC.out k hlt).1
      have g1:wr.cell? ⟨b,off + k * 2 + 1,none⟩=some (.int .i64 (btAt l k)):=(hB.out.cell (p:=⟨b,off + k * 2 + 1,none⟩) hb).trans (HC.out k hlt).2
      have hBA:Hid (Below w.heap.size w (wr.alloc (.cells #[.int .i64 (idAt l k),.int .i64 (btAt l k)] 180))):=Below.onA hB.out
      by_cases hge:key≤idAt l k
      · obtain ⟨p1, p2⟩ := HA.out k hlt hto.out hge
        have P1:Hid (pp=k):=p1
        have P2:Hid (ff=decide (idAt l k=key)):=p2
        clear p1 p2 HA HE hto
        go_wp2_with (go_at_call 179; refine (idOf_any _ _ _).mono ?_; rintro e w2 ⟨rfl,hb2⟩)
        go_ret2
        exact ⟨ret_pair (by rw [P1.out]) (by rw [P2.out]; rfl),Below.on hBA.out hb2⟩
      · have hd : decide (key ≤ idAt l k) = false := decide_eq_false hge
        have hto2:Hid (∀ j,j < k + 1→idAt l j < key):=(fun j hj => by
          by_cases e:j=k
          · subst e; omega
          · exact hto.out j (by omega))
        clear hge hto HA HE
        go_wp2_with (go_at_call 179; refine (idOf_any _ _ _).mono ?_; rintro e w2 ⟨rfl,hb2⟩)
        go_roundw
        case rel => exact ⟨k + 1,by omega,by go_num,hto2,Below.on hBA.out hb2⟩
        case measure => simp [intOf]; omega
    · have : k = len := by omega
      subst this
      obtain ⟨p1,p2⟩:=HE.out hto.out
      have P1:Hid (pp=k):=p1
      have P2:Hid (ff=false):=p2
      clear p1 p2 HA HE hto
      go_wp2
      go_ret2
      exact ⟨ret_pair (by rw [P1.out]) P2.out.symm,hB.out⟩
/-- impl.placeOf. -/
theorem placeOf_any (a:Option Addr) (len cap:Nat) (l:List (Int × Int)) (key:Int) (hl:len≤1000000) (w:World) (hi:Prs a len l w) :
    Calls Tryz.prog 178 #[.slice a len cap,.int .i64 key,.func (.func 179) #[] #[]] w fun e w' => e=.returned (.tuple #[.int .i64 (plc l key),.bool (fnd l key)])∧Below w.heap.size w w':=by
  obtain ⟨hln,hp⟩:=hi
  subst hln
  by_cases h0:l.length=0
  · have e : plc l key = l.length := plc_none (fun j hj => absurd hj (by omega))
    rw [fnd_none e,e,h0]
    refine (placeOf_none a cap key w).mono ?_
    rintro e w' ⟨rfl,rfl⟩
    exact ⟨rfl,Below.refl _ _⟩
  · obtain ⟨b, off, rfl, hlt, hc⟩ := hp (by omega)
    exact placeOf_some b off cap l key hl w hlt hc
end Go.Proofs.YtabfdidnjibdeaaGreatDoor
/- impl.spliced at lists of pairs. -/
namespace Go.Proofs.YtabfdidnjibdeaaGreatDoor
open Go.RowKit Go.PlainAid Go.Deep
set_option linter.unusedVariables false
/-- Of three things one. -/
def tri {α:Type} (x y z:α) (j:Nat):α:=if j=0 then x else if j=1 then y else z
end Go.Proofs.YtabfdidnjibdeaaGreatDoor
/- What is left of a list without one entry; the place of an id in a list that rises. -/
namespace Go.Proofs.YtabfdidnjibdeaaGreatDoor
open Go.RowKit Go.PlainAid Go.Deep
set_option linter.unusedVariables false
/-- All bits are bits. -/
def bnd (l:List (Int × Int)):Prop:=∀ p ∈ l,0≤p.2∧p.2≤7
theorem nmRises_at {l:List (Int × Int)}:∀ {n k:Nat},nmRises l n=true→k < n→okN l k=true:=by
  intro n
  induction n with
  | zero => intro k _ h; omega
  | succ n ih =>
    intro k h hk
    simp only [nmRises,Bool.and_eq_true] at h
    by_cases e:k=n
    · subst e; exact h.2
    · exact ih h.1 (by omega)
theorem nm_up {l:List (Int × Int)} (h:nmB l=true):∀ j,j < l.length→∀ i,i < j→idAt l i < idAt l j:=by
  have hr:nmRises l l.length=true:=by
    simp only [nmB,Bool.and_eq_true] at h
    exact h.2
  have step:∀ k,k + 1 < l.length→idAt l k < idAt l (k + 1):=by
    intro k hk
    have:=nmRises_at hr hk
    simp [okN] at this
    exact this.2.2
  intro j
  induction j with
  | zero => intro _ i hi; omega
  | succ j ih =>
    intro hj i hi
    by_cases e:i=j
    · subst e; exact step i hj
    · have := ih (by omega) i (by omega)
      have h2:=step j hj
      omega
/-- Of a list that rises: where the id stands. -/
theorem fnd_eq {l:List (Int × Int)} (h:nmB l=true) {key:Int} {k:Nat} (hk:k < l.length) (e:idAt l k=key):fnd l key=true∧plc l key=k:=by
  have hp:plc l key=k:=plc_at hk (fun j hj => by have:=nm_up h k hk j hj; omega) (by omega)
  refine ⟨?_,hp⟩
  rw [fnd_at hk hp]
  simp [e]
theorem fnd_ne {l:List (Int × Int)} {key:Int} (hne:∀ j,j < l.length→idAt l j ≠ key):fnd l key=false:=by
  unfold fnd
  by_cases h:plc l key < l.length
  · simp [h,hne _ h]
  · simp [h]
theorem fnd_lt {l:List (Int × Int)} {key:Int} (h:fnd l key=true):plc l key < l.length:=by
  unfold fnd at h
  simp at h
  exact h.1
/-- The list without the entry at a place. -/
def cutL (l:List (Int × Int)) (k:Nat):List (Int × Int):=l.take k ++ [] ++ l.drop (k + 1)
theorem Box8.other {w:World} {B b o:Nat} {v0 v1 v2 v3 v4 v5 v6 v7 v:Value} (h:Box8 w B v0 v1 v2 v3 v4 v5 v6 v7) (hne:b ≠ B):Box8 (w.setCell ⟨b,o,none⟩ v) B v0 v1 v2 v3 v4 v5 v6 v7 :=
  h.keep (by simpa using h.lt) (fun o2 => World.cell?_setCell_other _ _ _ _ (by intro h; have h2:=congrArg Addr.block h; simp only at h2; omega))
set_option maxHeartbeats 1000000 in
theorem sAt_none (a:Option Addr) (cap:Nat) (key:Int) (w:World) :
    Calls Tryz.prog 137 #[.slice a 0 cap,.int .i64 key] w fun e w' => e=.returned (.int .i64 (-1))∧w'=w:=by
  go_enter Tryz.func137,Tryz.ntmps137
  go_wp2
  go_rounds 1
  go_ret
  exact ⟨rfl,rfl⟩
/-- The place of an id, or -1. -/
def atI (l:List (Int × Int)) (key:Int):Int:=if fnd l key then (plc l key:Int) else -1
set_option maxRecDepth 100000 in
set_option maxHeartbeats 4000000 in
theorem sAt_some (b off cap:Nat) (l:List (Int × Int)) (key:Int) (hl:l.length≤1000000) (hr:nmB l=true) (w:World) (hc:∀ i,i < l.length→w.cell? ⟨b,off + i * 2,none⟩=some (.int .i64 (idAt l i))∧w.cell? ⟨b,off + i * 2 + 1,none⟩=some (.int .i64 (btAt l i))) :
    Calls Tryz.prog 137 #[.slice (some ⟨b,off,none⟩) l.length cap,.int .i64 key] w fun e w' => e=.returned (.int .i64 (atI l key))∧w'=w:=by
  have HC:Hid (∀ i,i < l.length→w.cell? ⟨b,off + i * 2,none⟩=some (.int .i64 (idAt l i))∧w.cell? ⟨b,off + i * 2 + 1,none⟩=some (.int .i64 (btAt l i))):=hc
  have HA:Hid (∀ k,k < l.length→idAt l k=key→atI l key=(k:Int)):=(fun k hk e => by
    obtain ⟨h1,h2⟩:=fnd_eq hr hk e
    rw [atI,h1,h2]; rfl)
  have HE:Hid ((∀ j,j < l.length→(idAt l j == key)=false)→atI l key=-1):=(fun h => by rw [atI,fnd_ne (fun j hj => by simpa using h j hj)]; rfl)
  clear hc hr
  generalize hlen:l.length=len at hl HC HA HE ⊢
  clear hlen
  generalize atI l key=pp at HA HE ⊢
  go_enter Tryz.func137,Tryz.ntmps137
  go_wp2
  go_loop [5] (fun i => ∃ k:Nat,k≤len∧i=.int .i64 k∧∀ j,j < k→Hid ((idAt l j == key)=false)) (fun i => len - (intOf i).toNat)
  case atStart => exact ⟨0,Nat.zero_le _,rfl,fun j hj => absurd hj (by omega)⟩
  case round =>
    obtain ⟨k,hk,rfl,hto⟩:=hrel
    by_cases hlt:k < len
    · have hlt' : (k : Int) < (len : Int) := by omega
      obtain ⟨g0,_⟩:=HC.out k hlt
      cases he:(idAt l k == key)
      · have hto2:∀ j,j < k + 1→Hid ((idAt l j == key)=false):=fun j hj => by
          by_cases e:j=k
          · subst e; exact he
          · exact hto j (by omega)
        clear hto HA HE
        go_wp2
        go_round
        case rel => exact ⟨k + 1,by omega,by go_num,hto2⟩
        case measure => simp [intOf]; omega
      · have hy : Hid (pp = (k : Int)) := HA.out k hlt (by simpa using he)
        clear hto HA HE
        go_wp2
        go_ret
        exact ⟨ret_intM hy.out.symm,rfl⟩
    · have : k = len := by omega
      subst this
      have hy:Hid (pp=-1):=HE.out (fun j hj => (hto j hj).out)
      clear hto HA HE
      go_wp2
      go_ret
      exact ⟨ret_intM hy.out.symm,rfl⟩
/-- spec.l03At of a list that rises. -/
theorem sAt_any (a:Option Addr) (len cap:Nat) (l:List (Int × Int)) (key:Int) (hr:nmB l=true) (w:World) (hi:Prs a len l w) :
    Calls Tryz.prog 137 #[.slice a len cap,.int .i64 key] w fun e w' => e=.returned (.int .i64 (atI l key))∧w'=w:=by
  obtain ⟨hln,hp⟩:=hi
  subst hln
  have hlen:=nm_len hr
  by_cases h0:l.length=0
  · have e : atI l key = -1 := by rw [atI, fnd_ne (fun j hj => absurd hj (by omega))]; rfl
    rw [e,h0]
    exact sAt_none a cap key w
  · obtain ⟨b, off, rfl, hlt, hc⟩ := hp (by omega)
    exact sAt_some b off cap l key (by omega) hr w hc
end Go.Proofs.YtabfdidnjibdeaaGreatDoor
