/- Laid together: PpI. -/
import Derived.Test.YtabfdidnjibdeaaGreatDoorBR20
import Derived.Test.YtabfdidnjibdeaaGreatDoorBR34
namespace Go.Proofs.YtabfdidnjibdeaaGreatDoor
open Go.RowKit Go.PlainAid Go.Deep
set_option linter.unusedVariables false
theorem iLongPart_any (x:ByteArray)(w:World) :
    Calls Tryz.prog 79 #[.string x] w fun e w'=>e=.returned (.bool (decide ((12:Int)<(x.size:Int))))∧w'=w:=by
  go_enter Tryz.func79,Tryz.ntmps79
  go_wp2
  go_ret
  exact ⟨rfl,rfl⟩
set_option maxHeartbeats 4000000 in
theorem ixLong_any (a:Option Addr)(c:Nat)(pp:List (List UInt8))(hl:pp.length≤8001)(w:World)(hr:RowS w a (bts pp)) :
    Calls Tryz.prog 125 #[.slice a pp.length c,.func (.func 79) #[] #[]] w fun e w'=>(∃ r:Int,e=.returned (.int .i64 r)∧decide (0≤r)=lng pp)∧w'=w:=by
  have HRw:Hid (RowS w a (bts pp)):=hr
  have hbl:(bts pp).length=pp.length:=bts_len pp
  clear hr
  go_enter Tryz.func125,Tryz.ntmps125
  go_wp2
  go_loop [8] (fun i=>∃ k:Nat,k≤pp.length∧i=.int .i64 k∧Hid (lngTo pp k=false)) (fun i=>pp.length-(intOf i).toNat)
  case atStart=>exact ⟨0,Nat.zero_le _,rfl,rfl⟩
  case round =>
    obtain ⟨k,hk,rfl,hno⟩:=hrel
    by_cases hlt:k<pp.length
    · obtain ⟨b, rfl, hb0, hcell⟩ := HRw.out (by omega)
      have hlt':(k:Int)<(pp.length:Int):=by omega
      have h0':(0:Int)≤(k:Int):=by omega
      have g0:=hcell k _ (bts_at hlt)
      rw [Nat.zero_add] at g0
      have hgl:(⟨pp[k].toArray⟩:ByteArray).size=pp[k].length:=rfl
      have hgd:=bts_get hlt
      have HLy:Hid (12<(pp.getD k []).length→lng pp=true):=(fun h=>lngTo_yes hlt h)
      have HLn:Hid (¬ 12<(pp.getD k []).length→lngTo pp (k+1)=false):=(fun h=>lngTo_next hno.out h)
      rw [←hgd,←hgl] at HLy HLn
      generalize (⟨pp[k].toArray⟩:ByteArray)=x at g0 HLy HLn
      clear hcell hgl hgd
      by_cases h12:12<x.size
      · have HYes : Hid (decide ((0 : Int) ≤ (k : Int)) = lng pp) := (by show _ = _; rw [HLy.out h12]; exact decide_eq_true h0')
        have h12':decide ((12:Int)<(x.size:Int))=true:=by simp;omega
        have HC:Hid (∀ w,Calls Tryz.prog 79 #[.string x] w fun e w'=>e=.returned (.bool true)∧w'=w):=(fun w=>by rw [←h12'];exact iLongPart_any x w)
        clear h12 h12' HLy HLn
        go_wp2_with (go_at_call 79;refine (HC.out _).mono ?_;rintro e w1 ⟨rfl,hw⟩;have hw2:=hw.symm;clear hw;subst hw2)
        go_ret
        exact ⟨⟨(k:Int),rfl,HYes.out⟩,rfl⟩
      · have hnx : Hid (lngTo pp (k + 1) = false) := HLn.out h12
        have h12':decide ((12:Int)<(x.size:Int))=false:=by simp;omega
        have HC:Hid (∀ w,Calls Tryz.prog 79 #[.string x] w fun e w'=>e=.returned (.bool false)∧w'=w):=(fun w=>by rw [←h12'];exact iLongPart_any x w)
        clear h12 h12' HLy HLn
        go_wp2_with (go_at_call 79;refine (HC.out _).mono ?_;rintro e w1 ⟨rfl,hw⟩;have hw2:=hw.symm;clear hw;subst hw2)
        go_round
        case rel=>exact ⟨k+1,by omega,by go_num,hnx⟩
        case measure=>simp [intOf];omega
    · have : k = pp.length := by omega
      subst this
      have HNo:Hid (decide ((0:Int)≤-1)=lng pp):=(by show _=_;rw [lng,hno.out];rfl)
      go_wp2
      go_ret
      exact ⟨⟨-1,rfl,HNo.out⟩,rfl⟩
set_option maxHeartbeats 4000000 in
theorem ctLong_any (a:Option Addr)(c:Nat)(pp:List (List UInt8))(hl:pp.length≤8001)(w:World)(hr:RowS w a (bts pp)) :
    Calls Tryz.prog 78 #[.slice a pp.length c,.func (.func 79) #[] #[]] w fun e w'=>e=.returned (.bool (lng pp))∧w'=w:=by
  have HC:Hid (Calls Tryz.prog 125 #[.slice a pp.length c,.func (.func 79) #[] #[]] w fun e w'=>(∃ r:Int,e=.returned (.int .i64 r)∧decide (0≤r)=lng pp)∧w'=w):=ixLong_any a c pp hl w hr
  clear hr
  go_enter Tryz.func78,Tryz.ntmps78
  go_wp2_with (go_at_call 125;refine (HC.out).mono ?_;rintro e w1 ⟨⟨r,rfl,hr⟩,hw⟩;have hw2:=hw.symm;clear hw;subst hw2)
  go_ret
  exact ⟨rfl,rfl⟩
theorem split47_at (s:ByteArray)(m:Int)(hs:s.size≤8000)(w:World)(hm:w.cell? ⟨4,0,none⟩=some (.int .i64 m)) :
    Calls Tryz.prog 124 #[.string s,.string ⟨#[47]⟩] w fun e w'=>e=.returned (.slice (some ⟨w.heap.size,0,none⟩) (spl 47 s.data.toList).length (spl 47 s.data.toList).length)∧w'=w.alloc (.cells ((bts (spl 47 s.data.toList)).map Value.string).toArray 9):=by
  obtain ⟨hsp,hct⟩:=splitB_spl 47 s.size s (Nat.le_refl _)
  have h:=Tryz.strings_Split s ⟨#[47]⟩ m w (by omega) hm (by show 1≤1;omega)
  rw [hsp,hct] at h
  exact h
theorem rowS_new (w:World)(l:List ByteArray)(t:TypeId):RowS (w.alloc (.cells (l.map Value.string).toArray t)) (some ⟨w.heap.size,0,none⟩) l:=by
  intro _
  refine ⟨w.heap.size,rfl,by simp,fun j x hj=>?_⟩
  have hb:(w.alloc (.cells (l.map Value.string).toArray t)).heap[w.heap.size]?=some (.cells (l.map Value.string).toArray t):=by
    rw [World.alloc]
    exact Array.getElem?_push_size
  simp only [World.cell?,hb]
  simp [hj]
set_option maxHeartbeats 8000000 in
theorem iParts_any (s:ByteArray)(m:Int)(hs:s.size≤8000)(w:World)(hm:w.cell? ⟨4,0,none⟩=some (.int .i64 m)) :
    Calls Tryz.prog 77 #[.string s] w fun e w'=>∃ v,e=.returned v∧w'.ownsRow w.heap.size 9 1 v (bts (prt s.data.toList)).length (tv (bts (prt s.data.toList)))∧Below w.heap.size w w':=by
  have hl:s.data.toList.length=s.size:=(Lib.size_eq s).symm
  have HP:Hid (prt s.data.toList=nes (spl 47 s.data.toList)):=rfl
  have hpl:(spl 47 s.data.toList).length≤8001:=by have:=spl_len 47 s.data.toList;omega
  have HPs:Hid (∀ p ∈ spl 47 s.data.toList,p.length≤8000):=(fun p hp=>Nat.le_trans (piece_len 47 s.data.toList p hp) (by omega))
  have HC:=split47_at s m hs w hm
  have HC':Hid (Calls Tryz.prog 124 #[.string s,.string ⟨#[47]⟩] w fun e w'=>e=.returned (.slice (some ⟨w.heap.size,0,none⟩) (spl 47 s.data.toList).length (spl 47 s.data.toList).length)∧w'=w.alloc (.cells ((bts (spl 47 s.data.toList)).map Value.string).toArray 9)):=HC
  generalize prt s.data.toList=pp at HP ⊢
  generalize spl 47 s.data.toList=ps at HP hpl HC' HPs
  clear hl HC hm hs
  go_enter Tryz.func77,Tryz.ntmps77
  go_wp2_with fail
  refine (HC'.out).mono ?_
  rintro e w1 ⟨rfl,hw⟩
  have HRw:Hid (RowS w1 (some ⟨w.heap.size,0,none⟩) (bts ps)):=(by show RowS _ _ _;rw [hw];exact rowS_new w _ _)
  have HB1:Hid (Below w.heap.size w w1):=(by show Below _ _ _;rw [hw];exact bel_alloc _ _)
  have hO:Hid (w1.ownsRow w1.heap.size 9 1 (.slice none 0 0) (bts (nes (ps.take 0))).length (tv (bts (nes (ps.take 0))))):=World.ownsRow_nil _ _ _ _
  have hbl:(bts ps).length=ps.length:=bts_len ps
  obtain ⟨Bs,hBs⟩:∃ Bs,Bs=w.heap.size:=⟨_,rfl⟩
  rw [←hBs] at HRw ⊢
  clear hw HC' hBs
  go_wp2
  go_loopw [3,9] (fun v i wr=>∃ k:Nat,k≤ps.length∧i=.int .i64 k∧Hid (wr.ownsRow w1.heap.size 9 1 v (bts (nes (ps.take k))).length (tv (bts (nes (ps.take k)))))∧Hid (Below w1.heap.size w1 wr)) (fun _ i _=>ps.length-(intOf i).toNat)
  case atStart=>exact ⟨0,Nat.zero_le _,rfl,hO,Below.refl _ _⟩
  case round =>
    obtain ⟨k,hk,rfl,hOw,hB⟩:=hrel
    by_cases hlt:k<ps.length
    · obtain ⟨b, hbe, hb0, hcell⟩ := (HRw.out.below hB.out) (by omega)
      cases hbe
      have hlt':(k:Int)<(ps.length:Int):=by omega
      have h0':(0:Int)≤(k:Int):=by omega
      have g0:=hcell k _ (bts_at hlt)
      rw [Nat.zero_add] at g0
      have HNx:Hid (nes (ps.take (k+1))=nes (ps.take k)++(if ps[k].isEmpty then [] else [ps[k]])):=nes_next hlt
      have hsm:(nes (ps.take k)).length≤8001:=Nat.le_trans (nes_len _) (by rw [List.length_take];omega)
      have hE:=isE_list ps[k]
      have hxs:(⟨ps[k].toArray⟩:ByteArray).size≤8000:=HPs.out _ (List.getElem_mem hlt)
      generalize ps[k]=pk at g0 HNx hE hxs
      clear hcell
      cases e:pk.isEmpty
      · rw [e] at hE HNx
        have hE2:=(strB_of hE).2
        obtain ⟨x,hx⟩:∃ x,x=(⟨pk.toArray⟩:ByteArray):=⟨_,rfl⟩
        rw [←hx] at g0 hE hE2 hxs
        have HXe:Hid (x=(⟨pk.toArray⟩:ByteArray)):=hx
        clear hx
        go_wp2_with fail
        refine (join_one x _ (by omega)).mono ?_
        rintro e w2 ⟨rfl,hb2⟩
        obtain ⟨v3,w3,hr,hO3,hB3,-,-,-⟩:=append_textX w1 w2 u3 (bts (nes (ps.take k))) (rowT_below hOw.out hb2) (Below.on hB.out hb2) x (by rw [bts_len];omega)
        have HO3:Hid (w3.ownsRow w1.heap.size 9 1 v3 (bts (nes (ps.take (k+1)))).length (tv (bts (nes (ps.take (k+1)))))):=(by show World.ownsRow _ _ _ _ _ _ _;rw [HNx.out];simp only [Bool.false_eq_true,if_false];rw [bts_snoc,←HXe.out];exact hO3)
        have HB3:Hid (Below w1.heap.size w1 w3):=hB3
        clear hO3 hB3 hOw hB hb2 HNx g0 hE hE2 HXe
        go_wp2_with (at_builtin;refine wpList_append_runT _ rfl (.tmp 15) (.tmp 19) 50 50 rfl _ _ _ _ rfl rfl hr ?_)
        go_roundw
        case rel=>exact ⟨k+1,by omega,by go_num,HO3,HB3⟩
        case measure=>simp [intOf];omega
      · rw [e] at hE HNx
        have hE2:=(strB_of hE).2
        have HO2:Hid (wr.ownsRow w1.heap.size 9 1 u3 (bts (nes (ps.take (k+1)))).length (tv (bts (nes (ps.take (k+1)))))):=(by show World.ownsRow _ _ _ _ _ _ _;rw [HNx.out];simp only [if_true,List.append_nil];exact hOw.out)
        generalize (⟨pk.toArray⟩:ByteArray)=x at g0 hE hE2
        clear HNx
        go_wp2
        go_roundw
        case rel=>exact ⟨k+1,by omega,by go_num,HO2,hB⟩
        case measure=>simp [intOf];omega
    · have : k = ps.length := by omega
      subst this
      have HEnd:Hid (wr.ownsRow w.heap.size 9 1 u3 (bts pp).length (tv (bts pp))):=(by show World.ownsRow _ _ _ _ _ _ _;have h:=row_base hOw.out HB1.out.size;rw [List.take_length,←HP.out] at h;exact h)
      go_wp2
      go_ret
      exact ⟨_,rfl,HEnd.out,Below.on HB1.out hB.out⟩
end Go.Proofs.YtabfdidnjibdeaaGreatDoor
