/- Laid together: WkE. -/
import Derived.Test.YtabfdidnjibdeaaGreatDoorBT33
/- The whole way: mathematics. -/
namespace Go.Proofs.YtabfdidnjibdeaaGreatDoor
open Go.RowKit Go.PlainAid Go.Deep
set_option linter.unusedVariables false
def s0W (s:ByteArray):Wy:=⟨1,1,emp,pbo s,0⟩
/-- What Walk answers: the node, the directory, the name, the code. -/
structure Wo where
  n:Int
  d:Int
  nm:ByteArray
  c:Int
def woC (c:Int):Wo:=⟨0,0,emp,c⟩
def wend (l:List Nd) (sl:Bool) (x:Int × Wy):Wo :=
  if x.1 == 0 then (if sl && (decide (0 < x.2.at_) && !((ndAt l (x.2.at_ - 1).toNat).k == 1)) then woC 12 else ⟨x.2.at_,x.2.d,x.2.nm,0⟩) else woC x.1
def wkO (l:List Nd) (lt:Nat→Bool) (fo:Bool) (s:ByteArray):Wo :=
  if ppC s=0 then wend l (lasB s) (wrun l lt (fo || lasB s) (wmu (s0W s)) (s0W s)) else woC (ppC s)
theorem ppC_zero {s:ByteArray} (h:ppC s=0):s.size≤60:=by
  unfold ppC at h
  split at h
  · exact absurd h (by decide)
  · split at h
    · rename_i h2
      simp only [Bool.and_eq_true] at h2
      exact (signs_len h2.1).2
    · exact absurd h (by decide)
theorem s0_ok {l:List Nd} {now:Int} {s:ByteArray} (ht:treeB l now=true) (h:ppC s=0):WyOk l (s0W s):=by
  have hone:thB l 1=true:=diB_th (di_one (tree_one ht) (by simp only [treeB,Bool.and_eq_true] at ht; exact ht.2.2.2.1))
  have h1:=pbo_len s
  have h2:=ppC_zero h
  exact ⟨fun e => by simp [s0W] at e,fun _ => hone,fun _ => rfl,Nat.zero_le _,by simp only [s0W]; omega,pbo_ne s⟩
theorem wrun_nil {l:List Nd} {lt:Nat→Bool} {fs:Bool} {s:Wy} (h:s.ps=[]):∀ f,wrun l lt fs f s=(0,s)
  | 0 => rfl
  | f + 1 => by simp only [wrun,h]
theorem wrun_cons {l:List Nd} {lt:Nat→Bool} {fs:Bool} {s:Wy} {p:ByteArray} {ps:List ByteArray} (h:s.ps=p :: ps) (g:Nat):wrun l lt fs (g + 1) s=if (wst l lt fs s p ps).1 == 0 then wrun l lt fs g (wst l lt fs s p ps).2 else wst l lt fs s p ps:=by simp only [wrun,h]
/-- On the way: what is left to be gone leads to r. -/
structure WyI (l:List Nd) (lt:Nat→Bool) (fs:Bool) (r:Int × Wy) (s:Wy):Prop where
  ok:WyOk l s
  run:∃ f,wmu s≤f∧r=wrun l lt fs f s
theorem wyI_start {l:List Nd} {now:Int} {lt:Nat→Bool} {fs:Bool} {s:ByteArray} (ht:treeB l now=true) (h:ppC s=0):WyI l lt fs (wrun l lt fs (wmu (s0W s)) (s0W s)) (s0W s):=⟨s0_ok ht h,_,Nat.le_refl _,rfl⟩
theorem wyI_end {l:List Nd} {lt:Nat→Bool} {fs:Bool} {r:Int × Wy} {s:Wy} (h:WyI l lt fs r s) (hp:s.ps=[]):r=(0,s):=by
  obtain ⟨f,_,hr⟩:=h.run
  rw [hr,wrun_nil hp]
theorem wyI_next {l:List Nd} {now:Int} {lt:Nat→Bool} {fs:Bool} {r:Int × Wy} {s:Wy} {p:ByteArray} {ps:List ByteArray} (ht:treeB l now=true) (h:WyI l lt fs r s) (hp:s.ps=p :: ps) :
    ((wst l lt fs s p ps).1=0→WyI l lt fs r (wst l lt fs s p ps).2∧wmu (wst l lt fs s p ps).2 < wmu s)∧((wst l lt fs s p ps).1 ≠ 0→r=wst l lt fs s p ps):=by
  obtain ⟨f,hf,hr⟩:=h.run
  have hm:1≤wmu s:=by rw [wmu,hp,List.length_cons]; omega
  obtain ⟨g,rfl⟩:∃ g,f=g + 1:=⟨f - 1,by omega⟩
  rw [wrun_cons hp] at hr
  constructor
  · intro h0
    obtain ⟨h1,h2⟩:=wst_ok ht h.ok hp h0
    have e:((wst l lt fs s p ps).1 == 0)=true:=by rw [h0]; rfl
    rw [e] at hr
    exact ⟨⟨h1,g,by omega,hr⟩,h2⟩
  · intro h0
    have e:((wst l lt fs s p ps).1 == 0)=false:=by simpa using h0
    rw [e] at hr
    exact hr
/-- How much is left, by the world. -/
def wMu (w:World) (P:Nat):Nat:=match w.cell? ⟨P,11,none⟩,w.cell? ⟨P,9,none⟩ with
  | some (.int _ k),some (.slice _ n _) => (9 - k.toNat) * 1000 + n
  | _,_ => 0
theorem wMu_at {w:World} {P:Nat} {tb tf len cap:Nat} {l:List Nd} {now:Int} {u g:Int} {ca:Option Addr} {cl cc:Nat} {r:Bool} {sl:Bool} {s:Wy} {d:Int} {pa:Option Addr} {pc:Nat} (h:WyAt w P tb tf len cap l now u g ca cl cc r sl s d pa pc):wMu w P=wmu s:=by
  have h1:w.cell? ⟨P,11,none⟩=some (.int .i64 s.lk):=h.1.at0 11 _ rfl
  have h2:w.cell? ⟨P,9,none⟩=some (.slice pa s.ps.length pc):=h.1.at0 9 _ rfl
  simp only [wMu,h1,h2,wmu]
  simp
end Go.Proofs.YtabfdidnjibdeaaGreatDoor
