/- Laid together: PpM. -/
import Derived.Test.YtabfdidnjibdeaaGreatDoorBR18
namespace Go.Proofs.YtabfdidnjibdeaaGreatDoor
open Go.RowKit Go.PlainAid Go.Deep
set_option linter.unusedVariables false
theorem strB_of {s:ByteArray}{b:Bool}{l:List UInt8}(h:(s.toList==l)=b):(s.toList==l)=b∧(s.toList != l)=!b:=⟨h,by rw [bne,h]⟩
theorem piece_fold (c:UInt8)(N:Nat):∀ (l:List UInt8) (o:List (List UInt8)) (z:List UInt8),(∀ p ∈ o,p.length≤N)→z.length+l.length≤N→∀ p ∈ (l.foldl (splF c) (o,z)).1++[(l.foldl (splF c) (o,z)).2],p.length≤N
  | [],o,z,ho,hz,p,hp=>by
    simp only [List.foldl_nil,List.mem_append,List.mem_singleton] at hp
    rcases hp with hp | rfl
    · exact ho p hp
    · simp at hz;omega
  | x :: l,o,z,ho,hz,p,hp=>by
    simp only [List.foldl_cons] at hp
    by_cases e:x=c
    · have e1 : splF c (o, z) x = (o ++ [z], []) := by simp [splF, e]
      rw [e1] at hp
      refine piece_fold c N l _ _ ?_ (by simp at hz ⊢;omega) p hp
      intro q hq
      simp only [List.mem_append,List.mem_singleton] at hq
      rcases hq with hq | rfl
      · exact ho q hq
      · simp at hz;omega
    · have e1 : splF c (o, z) x = (o, z ++ [x]) := by simp [splF, e]
      rw [e1] at hp
      exact piece_fold c N l _ _ ho (by simp at hz ⊢;omega) p hp
theorem piece_len (c:UInt8)(t:List UInt8):∀ p ∈ spl c t,p.length≤t.length:=fun p hp=>piece_fold c t.length t [] [] (fun q hq=>by simp at hq) (by simp) p hp
def nes (l:List (List UInt8)):List (List UInt8):=l.filter fun x=>!x.isEmpty
theorem nes_next {l:List (List UInt8)}{k:Nat}(h:k<l.length):nes (l.take (k+1))=nes (l.take k)++(if l[k].isEmpty then [] else [l[k]]):=by
  rw [List.take_add_one,nes,List.filter_append,List.getElem?_eq_getElem h]
  cases e:l[k].isEmpty<;>simp [nes,e]
theorem nes_len (l:List (List UInt8)):(nes l).length≤l.length:=List.length_filter_le _ _
def prt (l:List UInt8):List (List UInt8):=nes (spl 47 l)
theorem prt_len (l:List UInt8):(prt l).length≤l.length+1:=Nat.le_trans (nes_len _) (spl_len 47 l)
def lngTo (l:List (List UInt8)):Nat→Bool
  | 0=>false
  | k+1=>lngTo l k||decide (12<(l.getD k []).length)
def lng (l:List (List UInt8)):Bool:=lngTo l l.length
theorem lngTo_yes {l:List (List UInt8)}{k n:Nat}(h:k<n)(hk:12<(l.getD k []).length):lngTo l n=true:=by
  induction n with
  | zero=>omega
  | succ n ih =>
    by_cases e:k=n
    · subst e;simp only [lngTo,decide_eq_true hk,Bool.or_true]
    · simp [lngTo,ih (by omega)]
theorem lngTo_next {l:List (List UInt8)}{k:Nat}(h:lngTo l k=false)(hk:¬ 12<(l.getD k []).length):lngTo l (k+1)=false:=by simp only [lngTo,h,decide_eq_false hk,Bool.or_self]
def firB (s:ByteArray):Bool:=bt s 0==47
def lasB (s:ByteArray):Bool:=bt s (s.size-1)==47
def ppC (s:ByteArray):Int:=if 8000<s.size then 2 else if signsB s 60&&firB s then (if lng (prt s.data.toList) then 8 else 0) else 1
theorem ppC_size {s:ByteArray}(h:8000<s.size):ppC s=2:=by simp [ppC,h]
theorem ppC_form {s:ByteArray}(h:¬ 8000<s.size)(h2:(signsB s 60&&firB s)=false):ppC s=1:=by simp only [ppC,if_neg h,h2,Bool.false_eq_true,if_false]
theorem ppC_range {s:ByteArray}(h:¬ 8000<s.size)(h2:(signsB s 60&&firB s)=true)(h3:lng (prt s.data.toList)=true):ppC s=8:=by simp only [ppC,if_neg h,h2,h3,if_true]
theorem ppC_ok {s:ByteArray}(h:¬ 8000<s.size)(h2:(signsB s 60&&firB s)=true)(h3:lng (prt s.data.toList)=false):ppC s=0:=by simp only [ppC,if_neg h,h2,h3,if_true,Bool.false_eq_true,if_false]
theorem bt_raw {s:ByteArray}{k:Nat}(h:k<s.size):bt s k=((s.data.toList[k]'(by rw [←Lib.size_eq];exact h)).toNat:Int):=by
  rw [bt,dif_pos h]
  rfl
theorem bt47 {s:ByteArray}{k:Nat}(h:k<s.size):(bt s k==47)=(s.data.toList[k]'(by rw [←Lib.size_eq];exact h)==(47:UInt8)):=by
  rw [bt_raw h]
  generalize s.data.toList[k]'(by rw [←Lib.size_eq];exact h)=b
  cases e:(b==(47:UInt8))
  · have h1 : b ≠ 47 := by simpa using e
    have h2:b.toNat≠47:=fun q=>h1 (UInt8.toNat_inj.1 q)
    simp
    omega
  · have h1 : b = 47 := by simpa using e
    rw [h1]
    rfl
theorem pre_l (l:List UInt8)(h:0<l.length):Lib.hasPrefix l [47]=(l[0]==(47:UInt8)):=by
  rw [←Lib.hasPrefix_of_take]
  cases l with
  | nil=>simp at h
  | cons b r=>simp
theorem suf_l (l:List UInt8)(h:0<l.length):Lib.hasSuffix l [47]=(l[l.length-1]==(47:UInt8)):=by
  rw [←Lib.hasSuffix_of_drop]
  have e1:l.drop (l.length-1)=l[l.length-1] :: l.drop (l.length-1+1):=List.drop_eq_getElem_cons (by omega)
  have e2:l.drop (l.length-1+1)=[]:=List.drop_eq_nil_of_le (by omega)
  have e3:([47]:List UInt8).length=1:=rfl
  have e4:decide (1≤l.length)=true:=by simp;omega
  rw [e3,e1,e2,e4]
  simp
theorem pre_fir {s:ByteArray}(h:1≤s.size):Lib.hasPrefix s.data.toList [47]=firB s:=by
  have hl:s.data.toList.length=s.size:=(Lib.size_eq s).symm
  rw [firB,bt47 (by omega),pre_l _ (by omega)]
theorem suf_las {s:ByteArray}(h:1≤s.size):Lib.hasSuffix s.data.toList [47]=lasB s:=by
  have hl:s.data.toList.length=s.size:=(Lib.size_eq s).symm
  rw [lasB,bt47 (by omega),suf_l _ (by omega)]
  simp only [hl]
end Go.Proofs.YtabfdidnjibdeaaGreatDoor
