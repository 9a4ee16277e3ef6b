/- Laid together: PpI, PpU, WkI3. -/
import Derived.Test.YtabfdidnjibdeaaGreatDoorBT19
import Derived.Test.YtabfdidnjibdeaaGreatDoorBT38
import Derived.Test.YtabfdidnjibdeaaGreatDoorBT2
import Derived.Test.YtabfdidnjibdeaaGreatDoorBT37
import Derived.Test.YtabfdidnjibdeaaGreatDoorBT22
import Derived.Test.YtabfdidnjibdeaaGreatDoorBT20
/- impl.partsOf and slices.ContainsFunc of long parts. -/
namespace Go.Proofs.YtabfdidnjibdeaaGreatDoor
open Go.RowKit Go.PlainAid Go.Deep
set_option linter.unusedVariables false
theorem iLongPart_any (x:ByteArray) (w:World) :
    Calls Tryz.prog 79 #[.string x] w fun e w' => e=.returned (.bool (decide ((12:Int) < (x.size:Int))))∧w'=w:=by
  go_enter Tryz.func79,Tryz.ntmps79
  go_wp2
  go_ret
  exact ⟨rfl,rfl⟩
set_option maxHeartbeats 4000000 in
theorem ixLong_any (a:Option Addr) (c:Nat) (pp:List (List UInt8)) (hl:pp.length≤8001) (w:World) (hr:RowS w a (bts pp)) :
    Calls Tryz.prog 125 #[.slice a pp.length c,.func (.func 79) #[] #[]] w fun e w' => (∃ r:Int,e=.returned (.int .i64 r)∧decide (0≤r)=lng pp)∧w'=w:=by
  have HRw:Hid (RowS w a (bts pp)):=hr
  have hbl:(bts pp).length=pp.length:=bts_len pp
  clear hr
  go_enter Tryz.func125,Tryz.ntmps125
  go_wp2
  go_loop [8] (fun i => ∃ k:Nat,k≤pp.length∧i=.int .i64 k∧Hid (lngTo pp k=false)) (fun i => pp.length - (intOf i).toNat)
  case atStart => exact ⟨0,Nat.zero_le _,rfl,rfl⟩
  case round =>
    obtain ⟨k,hk,rfl,hno⟩:=hrel
    by_cases hlt:k < pp.length
    · obtain ⟨b, rfl, hb0, hcell⟩ := HRw.out (by omega)
      have hlt':(k:Int) < (pp.length:Int):=by omega
      have h0':(0:Int)≤(k:Int):=by omega
      have g0:=hcell k _ (bts_at hlt)
      rw [Nat.zero_add] at g0
      have hgl:(⟨pp[k].toArray⟩:ByteArray).size=pp[k].length:=rfl
      have hgd:=bts_get hlt
      have HLy:Hid (12 < (pp.getD k []).length→lng pp=true):=(fun h => lngTo_yes hlt h)
      have HLn:Hid (¬ 12 < (pp.getD k []).length→lngTo pp (k + 1)=false):=(fun h => lngTo_next hno.out h)
      rw [← hgd,← hgl] at HLy HLn
      generalize (⟨pp[k].toArray⟩:ByteArray)=x at g0 HLy HLn
      clear hcell hgl hgd
      by_cases h12:12 < x.size
      · have HYes : Hid (decide ((0 : Int) ≤ (k : Int)) = lng pp) := (by show _ = _; rw [HLy.out h12]; exact decide_eq_true h0')
        have h12':decide ((12:Int) < (x.size:Int))=true:=by simp; omega
        have HC:Hid (∀ w,Calls Tryz.prog 79 #[.string x] w fun e w' => e=.returned (.bool true)∧w'=w):=(fun w => by rw [← h12']; exact iLongPart_any x w)
        clear h12 h12' HLy HLn
        go_wp2_with (go_at_call 79; refine (HC.out _).mono ?_; rintro e w1 ⟨rfl,hw⟩; have hw2:=hw.symm; clear hw; subst hw2)
        go_ret
        exact ⟨⟨(k:Int),rfl,HYes.out⟩,rfl⟩
      · have hnx : Hid (lngTo pp (k + 1) = false) := HLn.out h12
        have h12':decide ((12:Int) < (x.size:Int))=false:=by simp; omega
        have HC:Hid (∀ w,Calls Tryz.prog 79 #[.string x] w fun e w' => e=.returned (.bool false)∧w'=w):=(fun w => by rw [← h12']; exact iLongPart_any x w)
        clear h12 h12' HLy HLn
        go_wp2_with (go_at_call 79; refine (HC.out _).mono ?_; rintro e w1 ⟨rfl,hw⟩; have hw2:=hw.symm; clear hw; subst hw2)
        go_round
        case rel => exact ⟨k + 1,by omega,by go_num,hnx⟩
        case measure => simp [intOf]; omega
    · have : k = pp.length := by omega
      subst this
      have HNo:Hid (decide ((0:Int)≤-1)=lng pp):=(by show _=_; rw [lng,hno.out]; rfl)
      go_wp2
      go_ret
      exact ⟨⟨-1,rfl,HNo.out⟩,rfl⟩
set_option maxHeartbeats 4000000 in
theorem ctLong_any (a:Option Addr) (c:Nat) (pp:List (List UInt8)) (hl:pp.length≤8001) (w:World) (hr:RowS w a (bts pp)) :
    Calls Tryz.prog 78 #[.slice a pp.length c,.func (.func 79) #[] #[]] w fun e w' => e=.returned (.bool (lng pp))∧w'=w:=by
  have HC:Hid (Calls Tryz.prog 125 #[.slice a pp.length c,.func (.func 79) #[] #[]] w fun e w' => (∃ r:Int,e=.returned (.int .i64 r)∧decide (0≤r)=lng pp)∧w'=w):=ixLong_any a c pp hl w hr
  clear hr
  go_enter Tryz.func78,Tryz.ntmps78
  go_wp2_with (go_at_call 125; refine (HC.out).mono ?_; rintro e w1 ⟨⟨r,rfl,hr⟩,hw⟩; have hw2:=hw.symm; clear hw; subst hw2)
  go_ret
  exact ⟨rfl,rfl⟩
theorem split47_at (s:ByteArray) (m:Int) (hs:s.size≤8000) (w:World) (hm:w.cell? ⟨4,0,none⟩=some (.int .i64 m)) :
    Calls Tryz.prog 124 #[.string s,.string ⟨#[47]⟩] w fun e w' => e=.returned (.slice (some ⟨w.heap.size,0,none⟩) (spl 47 s.data.toList).length (spl 47 s.data.toList).length)∧w'=w.alloc (.cells ((bts (spl 47 s.data.toList)).map Value.string).toArray 9):=by
  obtain ⟨hsp,hct⟩:=splitB_spl 47 s.size s (Nat.le_refl _)
  have h:=Tryz.strings_Split s ⟨#[47]⟩ m w (by omega) hm (by show 1≤1; omega)
  rw [hsp,hct] at h
  exact h
theorem rowS_new (w:World) (l:List ByteArray) (t:TypeId):RowS (w.alloc (.cells (l.map Value.string).toArray t)) (some ⟨w.heap.size,0,none⟩) l:=by
  intro _
  refine ⟨w.heap.size,rfl,by simp,fun j x hj => ?_⟩
  have hb:(w.alloc (.cells (l.map Value.string).toArray t)).heap[w.heap.size]?=some (.cells (l.map Value.string).toArray t):=by
    rw [World.alloc]
    exact Array.getElem?_push_size
  simp only [World.cell?,hb]
  simp [hj]
set_option maxHeartbeats 8000000 in
theorem iParts_any (s:ByteArray) (m:Int) (hs:s.size≤8000) (w:World) (hm:w.cell? ⟨4,0,none⟩=some (.int .i64 m)) :
    Calls Tryz.prog 77 #[.string s] w fun e w' => ∃ v,e=.returned v∧w'.ownsRow w.heap.size 9 1 v (bts (prt s.data.toList)).length (tv (bts (prt s.data.toList)))∧Below w.heap.size w w':=by
  have hl:s.data.toList.length=s.size:=(Lib.size_eq s).symm
  have HP:Hid (prt s.data.toList=nes (spl 47 s.data.toList)):=rfl
  have hpl:(spl 47 s.data.toList).length≤8001:=by have:=spl_len 47 s.data.toList; omega
  have HPs:Hid (∀ p ∈ spl 47 s.data.toList,p.length≤8000):=(fun p hp => Nat.le_trans (piece_len 47 s.data.toList p hp) (by omega))
  have HC:=split47_at s m hs w hm
  have HC':Hid (Calls Tryz.prog 124 #[.string s,.string ⟨#[47]⟩] w fun e w' => e=.returned (.slice (some ⟨w.heap.size,0,none⟩) (spl 47 s.data.toList).length (spl 47 s.data.toList).length)∧w'=w.alloc (.cells ((bts (spl 47 s.data.toList)).map Value.string).toArray 9)):=HC
  generalize prt s.data.toList=pp at HP ⊢
  generalize spl 47 s.data.toList=ps at HP hpl HC' HPs
  clear hl HC hm hs
  go_enter Tryz.func77,Tryz.ntmps77
  go_wp2_with fail
  refine (HC'.out).mono ?_
  rintro e w1 ⟨rfl,hw⟩
  have HRw:Hid (RowS w1 (some ⟨w.heap.size,0,none⟩) (bts ps)):=(by show RowS _ _ _; rw [hw]; exact rowS_new w _ _)
  have HB1:Hid (Below w.heap.size w w1):=(by show Below _ _ _; rw [hw]; exact bel_alloc _ _)
  have hO:Hid (w1.ownsRow w1.heap.size 9 1 (.slice none 0 0) (bts (nes (ps.take 0))).length (tv (bts (nes (ps.take 0))))):=World.ownsRow_nil _ _ _ _
  have hbl:(bts ps).length=ps.length:=bts_len ps
  obtain ⟨Bs,hBs⟩:∃ Bs,Bs=w.heap.size:=⟨_,rfl⟩
  rw [← hBs] at HRw ⊢
  clear hw HC' hBs
  go_wp2
  go_loopw [3,9] (fun v i wr => ∃ k:Nat,k≤ps.length∧i=.int .i64 k∧Hid (wr.ownsRow w1.heap.size 9 1 v (bts (nes (ps.take k))).length (tv (bts (nes (ps.take k)))))∧Hid (Below w1.heap.size w1 wr)) (fun _ i _ => ps.length - (intOf i).toNat)
  case atStart => exact ⟨0,Nat.zero_le _,rfl,hO,Below.refl _ _⟩
  case round =>
    obtain ⟨k,hk,rfl,hOw,hB⟩:=hrel
    by_cases hlt:k < ps.length
    · obtain ⟨b, hbe, hb0, hcell⟩ := (HRw.out.below hB.out) (by omega)
      cases hbe
      have hlt':(k:Int) < (ps.length:Int):=by omega
      have h0':(0:Int)≤(k:Int):=by omega
      have g0:=hcell k _ (bts_at hlt)
      rw [Nat.zero_add] at g0
      have HNx:Hid (nes (ps.take (k + 1))=nes (ps.take k) ++ (if ps[k].isEmpty then [] else [ps[k]])):=nes_next hlt
      have hsm:(nes (ps.take k)).length≤8001:=Nat.le_trans (nes_len _) (by rw [List.length_take]; omega)
      have hE:=isE_list ps[k]
      have hxs:(⟨ps[k].toArray⟩:ByteArray).size≤8000:=HPs.out _ (List.getElem_mem hlt)
      generalize ps[k]=pk at g0 HNx hE hxs
      clear hcell
      cases e:pk.isEmpty
      · rw [e] at hE HNx
        have hE2:=(strB_of hE).2
        obtain ⟨x,hx⟩:∃ x,x=(⟨pk.toArray⟩:ByteArray):=⟨_,rfl⟩
        rw [← hx] at g0 hE hE2 hxs
        have HXe:Hid (x=(⟨pk.toArray⟩:ByteArray)):=hx
        clear hx
        go_wp2_with fail
        refine (join_one x _ (by omega)).mono ?_
        rintro e w2 ⟨rfl,hb2⟩
        obtain ⟨v3,w3,hr,hO3,hB3,-,-,-⟩:=append_textX w1 w2 u3 (bts (nes (ps.take k))) (rowT_below hOw.out hb2) (Below.on hB.out hb2) x (by rw [bts_len]; omega)
        have HO3:Hid (w3.ownsRow w1.heap.size 9 1 v3 (bts (nes (ps.take (k + 1)))).length (tv (bts (nes (ps.take (k + 1)))))):=(by show World.ownsRow _ _ _ _ _ _ _; rw [HNx.out]; simp only [Bool.false_eq_true,if_false]; rw [bts_snoc,← HXe.out]; exact hO3)
        have HB3:Hid (Below w1.heap.size w1 w3):=hB3
        clear hO3 hB3 hOw hB hb2 HNx g0 hE hE2 HXe
        go_wp2_with (at_builtin; refine wpList_append_runT _ rfl (.tmp 15) (.tmp 19) 50 50 rfl _ _ _ _ rfl rfl hr ?_)
        go_roundw
        case rel => exact ⟨k + 1,by omega,by go_num,HO3,HB3⟩
        case measure => simp [intOf]; omega
      · rw [e] at hE HNx
        have hE2:=(strB_of hE).2
        have HO2:Hid (wr.ownsRow w1.heap.size 9 1 u3 (bts (nes (ps.take (k + 1)))).length (tv (bts (nes (ps.take (k + 1)))))):=(by show World.ownsRow _ _ _ _ _ _ _; rw [HNx.out]; simp only [if_true,List.append_nil]; exact hOw.out)
        generalize (⟨pk.toArray⟩:ByteArray)=x at g0 hE hE2
        clear HNx
        go_wp2
        go_roundw
        case rel => exact ⟨k + 1,by omega,by go_num,HO2,hB⟩
        case measure => simp [intOf]; omega
    · have : k = ps.length := by omega
      subst this
      have HEnd:Hid (wr.ownsRow w.heap.size 9 1 u3 (bts pp).length (tv (bts pp))):=(by show World.ownsRow _ _ _ _ _ _ _; have h:=row_base hOw.out HB1.out.size; rw [List.take_length,← HP.out] at h; exact h)
      go_wp2
      go_ret
      exact ⟨_,rfl,HEnd.out,Below.on HB1.out hB.out⟩
end Go.Proofs.YtabfdidnjibdeaaGreatDoor
/- impl.PathParts. -/
namespace Go.Proofs.YtabfdidnjibdeaaGreatDoor
open Go.RowKit Go.PlainAid Go.Deep
set_option linter.unusedVariables false
set_option maxHeartbeats 8000000 in
theorem iPathParts_any (s:ByteArray) (m:Int) (hs:s.size≤1048576) (w:World) (hm:w.cell? ⟨4,0,none⟩=some (.int .i64 m)) :
    Calls Tryz.prog 40 #[.string s] w fun e w' => PpEnd w s e w':=by
  have hmx:s.size≤maxLen:=by unfold maxLen; omega
  have hlt:=block_lt_of_cell hm
  have HSg:Hid (∀ w,Calls Tryz.prog 75 #[.string s,.int .i64 60] w fun e w' => e=.returned (.bool (signsB s 60))∧w'=w):=(fun w => iSigns_any s 60 (by omega) hmx w)
  have HPr:Hid (∀ w,Calls Tryz.prog 76 #[.string s,.string ⟨#[47]⟩] w fun e w' => e=.returned (.bool (Lib.hasPrefix s.data.toList [47]))∧w'=w):=(fun w => Tryz.strings_HasPrefix s ⟨#[47]⟩ w)
  have HSu:Hid (∀ w,Calls Tryz.prog 80 #[.string s,.string ⟨#[47]⟩] w fun e w' => e=.returned (.bool (Lib.hasSuffix s.data.toList [47]))∧w'=w):=(fun w => Tryz.strings_HasSuffix s ⟨#[47]⟩ w (by omega))
  have HSp:Hid (s.size≤60→∀ w',Below w.heap.size w w'→Calls Tryz.prog 77 #[.string s] w' fun e w'' => ∃ v,e=.returned v∧w''.ownsRow w'.heap.size 9 1 v (bts (prt s.data.toList)).length (tv (bts (prt s.data.toList)))∧Below w'.heap.size w' w''):=(fun h w' hb => iParts_any s m (by omega) w' ((hb.cell (p:=⟨_,0,none⟩) hlt).trans hm))
  clear hmx hm hlt
  have HB:Hid (Below w.heap.size w (w.alloc (.cells #[.slice none 0 0,.bool false,.int .i64 0] 66))):=bel_alloc _ _
  have HX:Hid (BoxW (w.alloc (.cells #[.slice none 0 0,.bool false,.int .i64 0] 66)) w.heap.size [.slice none 0 0,.bool false,.int .i64 0]):=boxW_new w [.slice none 0 0,.bool false,.int .i64 0] 66
  go_enter Tryz.func40,Tryz.ntmps40
  go_upto_region 1 with fail
  generalize w.alloc (.cells #[.slice none 0 0,.bool false,.int .i64 0] 66)=w0 at HB HX ⊢
  obtain ⟨X,hX⟩:∃ X,X=w.heap.size:=⟨_,rfl⟩
  have HXw:Hid (w.heap.size≤X):=Nat.le_of_eq hX.symm
  rw [← hX] at HX ⊢
  clear hX
  have x0:w0.cell? ⟨X,0,none⟩=some (.slice none 0 0):=HX.out.at0 0 _ rfl
  have x1:w0.cell? ⟨X,1,none⟩=some (.bool false):=HX.out.at0 1 _ rfl
  have x2:w0.cell? ⟨X,2,none⟩=some (.int .i64 0):=HX.out.at0 2 _ rfl
  have fz:∀ o,w0.frozen? ⟨X,o,none⟩=false:=HX.out.frz
  by_cases h8:8000 < s.size
  · have hC := ppC_size h8
    have h8':(8000:Int) < (s.size:Int):=by omega
    clear HSg
    go_wp2
    refine bodyPost_ret (v:=.agg #[.slice none 0 0,.bool false,.int .i64 2]) (by simp [results,Tryz.results40,go_sem,x0,x1,x2]) rfl ?_
    exact .inl ⟨by rw [hC]; decide,by rw [hC],(by repeat (first | exact HB.out | refine bl_setT ?_ HXw.out))⟩
  have h8':¬ (8000:Int) < (s.size:Int):=by omega
  cases h6:signsB s 60
  · have hC := ppC_form h8 (by rw [h6]; rfl)
    rw [h6] at HSg
    clear h8
    go_wp2_with (go_at_call 75; refine (HSg.out _).mono ?_; rintro e w1 ⟨rfl,hw⟩; have hw2:=hw.symm; clear hw; subst hw2)
    refine bodyPost_ret (v:=.agg #[.slice none 0 0,.bool false,.int .i64 1]) (by simp [results,Tryz.results40,go_sem,x0,x1,x2]) rfl ?_
    exact .inl ⟨by rw [hC]; decide,by rw [hC],(by repeat (first | exact HB.out | refine bl_setT ?_ HXw.out))⟩
  rw [h6] at HSg
  obtain ⟨hn1,hn2⟩:=signs_len h6
  rw [pre_fir hn1] at HPr
  rw [suf_las hn1] at HSu
  cases h7:firB s
  · have hC := ppC_form h8 (by rw [h6, h7]; rfl)
    rw [h7] at HPr
    clear h8 h6 h7
    go_wp2_with (first
      | (go_at_call 75; refine (HSg.out _).mono ?_; rintro e w1 ⟨rfl,hw⟩; have hw2:=hw.symm; clear hw; subst hw2)
      | (go_at_call 76; refine (HPr.out _).mono ?_; rintro e w1 ⟨rfl,hw⟩; have hw2:=hw.symm; clear hw; subst hw2))
    refine bodyPost_ret (v:=.agg #[.slice none 0 0,.bool false,.int .i64 1]) (by simp [results,Tryz.results40,go_sem,x0,x1,x2]) rfl ?_
    exact .inl ⟨by rw [hC]; decide,by rw [hC],(by repeat (first | exact HB.out | refine bl_setT ?_ HXw.out))⟩
  rw [h7] at HPr
  have HCr:Hid (lng (prt s.data.toList)=true→ppC s=8):=(fun h => ppC_range h8 (by rw [h6,h7]; rfl) h)
  have HCo:Hid (lng (prt s.data.toList)=false→ppC s=0):=(fun h => ppC_ok h8 (by rw [h6,h7]; rfl) h)
  have hsp:=HSp.out hn2
  have HSq:Hid (∀ w',Below w.heap.size w w'→Calls Tryz.prog 77 #[.string s] w' fun e w'' => ∃ v,e=.returned v∧w''.ownsRow w'.heap.size 9 1 v (bts (prt s.data.toList)).length (tv (bts (prt s.data.toList)))∧Below w'.heap.size w' w''):=hsp
  have hpl:(prt s.data.toList).length≤61:=by
    have h1:=prt_len s.data.toList
    have h2:s.data.toList.length=s.size:=(Lib.size_eq s).symm
    omega
  have HPE:Hid (∀ e w',(ppC s ≠ 0∧e=.returned (.agg #[.slice none 0 0,.bool false,.int .i64 (ppC s)])∧Below w.heap.size w w')∨(ppC s=0∧∃ v,e=.returned (.agg #[v,.bool (lasB s),.int .i64 0])∧w'.ownsRow w.heap.size 9 1 v (bts (prt s.data.toList)).length (tv (bts (prt s.data.toList)))∧Below w.heap.size w w')→PpEnd w s e w'):=(fun e w' h => h)
  generalize lasB s=lb at HSu HPE
  generalize prt s.data.toList=pp at HCr HCo HSq hpl HPE
  clear h8 h6 h7 hs hn1 hn2 HSp hsp
  go_upto_region 5 with (first
    | (go_at_call 75; refine (HSg.out _).mono ?_; rintro e w1 ⟨rfl,hw⟩; have hw2:=hw.symm; clear hw; subst hw2)
    | (go_at_call 76; refine (HPr.out _).mono ?_; rintro e w1 ⟨rfl,hw⟩; have hw2:=hw.symm; clear hw; subst hw2))
  go_wp2_with fail
  refine (HSq.out _ HB.out).mono ?_
  rintro e w1 ⟨v,rfl,hv,hb⟩
  have HB0:Hid (w.heap.size≤w0.heap.size):=HB.out.size
  have HXl:Hid (X < w0.heap.size):=HX.out.lt
  replace HB:Hid (Below w.heap.size w w1):=Below.on HB.out hb
  replace HX:Hid (BoxW w1 X [.slice none 0 0,.bool false,.int .i64 0]):=HX.out.below hb
  replace x0:w1.cell? ⟨X,0,none⟩=some (.slice none 0 0):=HX.out.at0 0 _ rfl
  replace x1:w1.cell? ⟨X,1,none⟩=some (.bool false):=HX.out.at0 1 _ rfl
  replace x2:w1.cell? ⟨X,2,none⟩=some (.int .i64 0):=HX.out.at0 2 _ rfl
  replace fz:∀ o,w1.frozen? ⟨X,o,none⟩=false:=HX.out.frz
  have HOw:Hid (w1.ownsRow w.heap.size 9 1 v (bts pp).length (tv (bts pp))):=row_base hv HB0.out
  have HNe:Hid (v.ownBlock ≠ some X):=(fun e => by have h1:=own_blockT hv X e; have h2:=HXl.out; omega)
  obtain ⟨a,c,rfl,hac,hcell⟩:=own_rowS hv
  have HRw:Hid (RowS w1 a (bts pp)):=hcell
  have hbl:(bts pp).length=pp.length:=bts_len pp
  have HOw2:Hid (w1.ownsRow w.heap.size 9 1 (.slice a pp.length c) (bts pp).length (tv (bts pp))):=(by have h:=HOw.out; rw [hbl] at h; show World.ownsRow _ _ _ _ _ _ _; rw [hbl]; exact h)
  rw [hbl] at HNe ⊢
  have HCt:Hid (Calls Tryz.prog 78 #[.slice a pp.length c,.func (.func 79) #[] #[]] w1 fun e w' => e=.returned (.bool (lng pp))∧w'=w1):=ctLong_any a c pp (by omega) w1 HRw.out
  clear hv hb hcell hac HSq HSg HPr HB0 HRw
  cases hlg:lng pp
  · have hC : ppC s = 0 := HCo.out hlg
    rw [hlg] at HCt
    go_wp2_with (first
      | (go_at_call 78; refine (HCt.out).mono ?_; rintro e w1 ⟨rfl,hw⟩; have hw2:=hw.symm; clear hw; subst hw2)
      | (go_at_call 80; refine (HSu.out _).mono ?_; rintro e w1 ⟨rfl,hw⟩; have hw2:=hw.symm; clear hw; subst hw2))
    refine bodyPost_ret (v:=.agg #[.slice a pp.length c,.bool lb,.int .i64 0]) (by simp [results,Tryz.results40,go_sem,x0,x1,x2]) rfl ?_
    refine HPE.out _ _ (.inr ⟨hC,_,rfl,?_,(by repeat (first | exact HB.out | refine bl_setT ?_ HXw.out))⟩)
    exact row_set (row_set (row_set HOw2.out HNe.out) HNe.out) HNe.out
  · have hC : ppC s = 8 := HCr.out hlg
    rw [hlg] at HCt
    go_wp2_with (go_at_call 78; refine (HCt.out).mono ?_; rintro e w1 ⟨rfl,hw⟩; have hw2:=hw.symm; clear hw; subst hw2)
    refine bodyPost_ret (v:=.agg #[.slice none 0 0,.bool false,.int .i64 8]) (by simp [results,Tryz.results40,go_sem,x0,x1,x2]) rfl ?_
    exact HPE.out _ _ (.inl ⟨by rw [hC]; decide,by rw [hC],(by repeat (first | exact HB.out | refine bl_setT ?_ HXw.out))⟩)
end Go.Proofs.YtabfdidnjibdeaaGreatDoor
/- impl's way.followLink. -/
namespace Go.Proofs.YtabfdidnjibdeaaGreatDoor
open Go.RowKit Go.PlainAid Go.Deep
set_option linter.unusedVariables false
def ls2 (p q:List ByteArray):Nat→List ByteArray:=fun i => if i=0 then p else q
theorem catS_two (p q:List ByteArray):catS (ls2 p q) 2=p ++ q:=by simp [catS,ls2]
theorem bl_drewL {B:Nat} {w w':World} (h:Below B w w'):Below B w w'.drew:=h.trans ⟨rfl,rfl,rfl,Nat.le_refl _,fun _ _ => rfl⟩
theorem own_rowZ {w:World} {B:Nat} {t:TypeId} {v:Value} {l:List ByteArray} (h:w.ownsRow B t 1 v l.length (tv l)):∃ a c,v=.slice a l.length c∧l.length≤c∧RowZ w a l:=by
  obtain ⟨a,c,hv,hc,hr⟩:=own_rowS h
  exact ⟨a,c,hv,hc,fun hl => by obtain ⟨b,ha,hlt,hcell⟩:=hr hl; exact ⟨b,0,ha,hlt,hcell⟩⟩
theorem rowG_Z {w:World} {P:Nat} {a:Option Addr} {l:List ByteArray} (h:RowG w P a l):RowZ w a l:=fun hl => by obtain ⟨b,off,ha,_,hr⟩:=h hl; exact ⟨b,off,ha,hr⟩
theorem cat_call (w:World) (a1 a2:Option Addr) (c1 c2:Nat) (p q:List ByteArray) (hn:p.length + q.length≤1000000) (h1:RowZ w a1 p) (h2:RowZ w a2 q) :
    Calls Tryz.prog 129 #[.slice (some ⟨w.heap.size,0,none⟩) 2 2] (w.alloc (.cells #[.slice a1 p.length c1,.slice a2 q.length c2] 50)) fun e w' => ∃ v,e=.returned v∧w'.ownsRow (w.alloc (.cells #[.slice a1 p.length c1,.slice a2 q.length c2] 50)).heap.size 9 1 v (catS (ls2 p q) 2).length (tv (catS (ls2 p q) 2))∧Below (w.alloc (.cells #[.slice a1 p.length c1,.slice a2 q.length c2] 50)).heap.size (w.alloc (.cells #[.slice a1 p.length c1,.slice a2 q.length c2] 50)) w':=by
  refine concatS_any w.heap.size 2 2 (fun i => if i=0 then a1 else a2) (fun i => if i=0 then c1 else c2) (ls2 p q) (by omega) (by rw [catS_two,List.length_append]; exact hn) _ (by simp) ?_
  have hX:=boxR_new w [.slice a1 p.length c1,.slice a2 q.length c2] 50
  intro k hk
  match k,hk with
  | 0,_ => exact ⟨hX.at0 0 _ rfl,h1.below (bel_alloc _ _)⟩
  | 1,_ => exact ⟨hX.at0 1 _ rfl,h2.below (bel_alloc _ _)⟩
set_option maxRecDepth 20000 in
set_option maxHeartbeats 8000000 in
theorem iFollow_any (wb:World) (P:Nat) (tb tf len cap:Nat) (now:Int) (u g:Int) (ca:Option Addr) (cl cc:Nat) (r:Bool) (l:List Nd) (Y:Nat→Na) (j:Nat) (ps:List ByteArray) (pa:Option Addr) (pc:Nat) (sl th:Bool) (lk d:Int) (nm:ByteArray) (m:Int) (hl:len≤12) (hj:j < len) (hps:ps.length≤1000) (h40:signsB (ndAt l j).bo 40=true)
    (hm:wb.cell? ⟨4,0,none⟩=some (.int .i64 m)) (htb:tb < wb.heap.size) (hN:∀ i,i < len→N24 wb tb (tf + i * 24) (ndAt l i) (Y i)) (w:World) (hB:Below wb.heap.size wb w) (hPb:wb.heap.size≤P) (hP:BoxW w P [.slice (some ⟨tb,tf,none⟩) len cap,.int .i64 now,.int .i64 u,.int .i64 g,.slice ca cl cc,.bool r,.slice pa ps.length pc,.bool sl,.bool th,.int .i64 lk,.int .i64 ((j:Int) + 1),.int .i64 d,.string nm]) (hR:RowG w P pa ps) :
    Calls Tryz.prog 83 #[.pointer (some ⟨P,0,none⟩)] w fun e w' => e=.returned (.tuple #[])∧(∃ a5 c5,BoxW w' P [.slice (some ⟨tb,tf,none⟩) len cap,.int .i64 now,.int .i64 u,.int .i64 g,.slice ca cl cc,.bool r,.slice a5 (pbo (ndAt l j).bo ++ ps).length c5,.bool sl,.bool th,.int .i64 lk,.int .i64 (if firB (ndAt l j).bo then 1 else d),.int .i64 (if firB (ndAt l j).bo then 1 else d),.string ⟨#[]⟩]∧RowG w' P a5 (pbo (ndAt l j).bo ++ ps)∧(pbo (ndAt l j).bo ++ ps).length≤c5)∧ButS (some ⟨P,0,none⟩) w w':=by
  have hml:=block_lt_of_cell hm
  obtain ⟨hb1,hb2⟩:=signs_len h40
  have HP:Hid (BoxW w P [.slice (some ⟨tb,tf,none⟩) len cap,.int .i64 now,.int .i64 u,.int .i64 g,.slice ca cl cc,.bool r,.slice pa ps.length pc,.bool sl,.bool th,.int .i64 lk,.int .i64 ((j:Int) + 1),.int .i64 d,.string nm]):=hP
  have HR:Hid (RowG w P pa ps):=hR
  have HBw:Hid (Below wb.heap.size wb w):=hB
  have HPb:Hid (wb.heap.size≤P):=hPb
  have c21:=N24.c21 (range_below (hN j hj) htb hB)
  have HPo:Hid (∀ w',Below wb.heap.size wb w'→Calls Tryz.prog 77 #[.string (ndAt l j).bo] w' fun e w'' => ∃ v,e=.returned v∧w''.ownsRow w'.heap.size 9 1 v (pbo (ndAt l j).bo).length (tv (pbo (ndAt l j).bo))∧Below w'.heap.size w' w''):=(fun w' hb => iParts_any (ndAt l j).bo m (by omega) w' ((hb.cell (p:=⟨_,0,none⟩) hml).trans hm))
  have HPr:Hid (∀ w,Calls Tryz.prog 76 #[.string (ndAt l j).bo,.string ⟨#[47]⟩] w fun e w' => e=.returned (.bool (firB (ndAt l j).bo))∧w'=w):=(fun w => by rw [← pre_fir hb1]; exact Tryz.strings_HasPrefix (ndAt l j).bo ⟨#[47]⟩ w)
  have hpbl:=pbo_len (ndAt l j).bo
  have hpb:(pbo (ndAt l j).bo).length≤41:=by omega
  obtain ⟨bg,hbg⟩:∃ bg:Int,bg=if firB (ndAt l j).bo then 1 else d:=⟨_,rfl⟩
  rw [← hbg]
  have HBg:Hid (bg=if firB (ndAt l j).bo then 1 else d):=hbg
  have hj1:(j:Int) < (len:Int):=by omega
  have hj0:(0:Int)≤(j:Int):=by omega
  clear hm hml htb hN hB hPb hP hR hb1 hb2 h40 hpbl hbg
  generalize (ndAt l j).bo=bo at c21 HPo HPr HBg hpb ⊢
  generalize pbo bo=pb at HPo hpb ⊢
  have p0:w.cell? ⟨P,0,none⟩=some (.slice (some ⟨tb,tf,none⟩) len cap):=HP.out.at0 0 _ rfl
  have p10:w.cell? ⟨P,10,none⟩=some (.int .i64 ((j:Int) + 1)):=HP.out.at0 10 _ rfl
  go_enter Tryz.func83,Tryz.ntmps83
  have p11:w.cell? ⟨P,11,none⟩=some (.int .i64 d):=HP.out.at0 11 _ rfl
  go_wp2
  go_quiet (fail)
  cases hf:firB bo
  · have hbg : bg = d := (by rw [HBg.out, hf]; rfl)
    subst hbg
    rw [hf] at HPr
    clear HBg
    go_wp2_with (go_at_call 76; refine (HPr.out _).mono ?_; rintro e w1 ⟨rfl,hw⟩; have hw2:=hw.symm; clear hw; subst hw2)
    obtain ⟨wq,hwq⟩:∃ wq,wq=w.drewN nq:=⟨_,rfl⟩
    have HPq:Hid (BoxW wq P [.slice (some ⟨tb,tf,none⟩) len cap,.int .i64 now,.int .i64 u,.int .i64 g,.slice ca cl cc,.bool r,.slice pa ps.length pc,.bool sl,.bool th,.int .i64 lk,.int .i64 ((j:Int) + 1),.int .i64 bg,.string nm]):=by rw [hwq]; exact HP.out.below (bl_drewK (Below.refl _ _) _)
    have HBq:Hid (Below w.heap.size w wq):=by rw [hwq]; exact bl_drewK (Below.refl _ _) _
    rw [← hwq]
    clear hwq
    refine (iStand_any P tb tf len cap now u g ca cl cc r pa ps.length pc sl th lk ((j:Int) + 1) bg nm bg wq HPq.out).mono ?_
    rintro e w2 ⟨rfl,hP2,hu2⟩
    have HP2:Hid (BoxW w2 P [.slice (some ⟨tb,tf,none⟩) len cap,.int .i64 now,.int .i64 u,.int .i64 g,.slice ca cl cc,.bool r,.slice pa ps.length pc,.bool sl,.bool th,.int .i64 lk,.int .i64 bg,.int .i64 bg,.string ⟨#[]⟩]):=hP2
    have HU2:Hid (ButS (some ⟨P,0,none⟩) w w2):=ButS.upon HBq.out hu2
    have HR2:Hid (RowG w2 P pa ps):=HR.out.but HU2.out
    have HB2:Hid (Below wb.heap.size wb w2):=HBw.out.trans (HU2.out.below _ HBw.out.size (fun A e => by cases e; exact HPb.out))
    clear hP2 hu2 p0 p10 p11 c21 HPr HP HR HBw HPq HBq
    have p6:w2.cell? ⟨P,6,none⟩=some (.slice pa ps.length pc):=HP2.out.at0 6 _ rfl
    have fz:=HP2.out.frz
    go_upto_region 5 with fail
    go_region_law (first
      | (go_simp; go_at_call 129; refine (HCc.out).mono ?_; rintro e w5 ⟨v5,rfl,hv5,hb5⟩; have hb5':Below w2.heap.size w2 w5:=Below.on HB4.out hb5; obtain ⟨qs,hqs⟩:∃ qs,qs=pb ++ ps:=⟨_,rfl⟩; rw [catS_two,← hqs] at hv5; have HQS:Hid (qs=pb ++ ps):=hqs; clear hqs; obtain ⟨a5,c5,hvv,hac5,hrg5⟩:=own_rowG (P:=P) hv5 HP5l.out; subst hvv; have HP5:Hid (BoxW w5 P [.slice (some ⟨tb,tf,none⟩) len cap,.int .i64 now,.int .i64 u,.int .i64 g,.slice ca cl cc,.bool r,.slice pa ps.length pc,.bool sl,.bool th,.int .i64 lk,.int .i64 bg,.int .i64 bg,.string ⟨#[]⟩]):=HP2.out.below hb5'; have HU5:Hid (ButS (some ⟨P,0,none⟩) w w5):=HU2.out.on hb5'; have HG5:Hid (RowG w5 P a5 qs):=hrg5; have HC5:Hid (qs.length≤c5):=hac5; have k6:w5.cell? ⟨P,6,none⟩=some (.slice pa ps.length pc):=HP5.out.at0 6 _ rfl; have k6f:w5.frozen? ⟨P,6,none⟩=false:=HP5.out.frz 6; clear hv5 hb5 hb5' hac5 hrg5)
      | (go_simp; go_at_call 77; refine (HPo.out _ (bl_drewL HB2.out)).mono ?_; rintro e w4 ⟨v4,rfl,hv4,hb4⟩; have hb4':Below w2.heap.size w2 w4:=⟨hb4.os,hb4.tape,hb4.output,hb4.size,hb4.block⟩; obtain ⟨a4,c4,hvv,hac4,hrz4⟩:=own_rowZ hv4; subst hvv; have HRp:Hid (RowG w4 P pa ps):=HR2.out.but (ButS.of hb4'); have g6:w4.cell? ⟨P,6,none⟩=some (.slice pa ps.length pc):=(HP2.out.below hb4').at0 6 _ rfl; have HB4:Hid (Below w2.heap.size w2 (w4.alloc (.cells #[.slice a4 pb.length c4,.slice pa ps.length pc] 50))):=Below.on hb4' (bel_alloc _ _); have HP5l:Hid (P < (w4.alloc (.cells #[.slice a4 pb.length c4,.slice pa ps.length pc] 50)).heap.size):=((HP2.out.below HB4.out).lt); have HCc:Hid (Calls Tryz.prog 129 #[.slice (some ⟨w4.heap.size,0,none⟩) 2 2] (w4.alloc (.cells #[.slice a4 pb.length c4,.slice pa ps.length pc] 50)) fun e w' => ∃ v,e=.returned v∧w'.ownsRow (w4.alloc (.cells #[.slice a4 pb.length c4,.slice pa ps.length pc] 50)).heap.size 9 1 v (catS (ls2 pb ps) 2).length (tv (catS (ls2 pb ps) 2))∧Below (w4.alloc (.cells #[.slice a4 pb.length c4,.slice pa ps.length pc] 50)).heap.size (w4.alloc (.cells #[.slice a4 pb.length c4,.slice pa ps.length pc] 50)) w'):=cat_call w4 a4 pa c4 pc pb ps (by omega) hrz4 (rowG_Z HRp.out); clear hv4 hb4 hb4' hac4 hrz4 HRp))
    all_goals
      have HP6:Hid (BoxW (w5.setCell ⟨P,6,none⟩ (.slice a5 qs.length c5)) P [.slice (some ⟨tb,tf,none⟩) len cap,.int .i64 now,.int .i64 u,.int .i64 g,.slice ca cl cc,.bool r,.slice a5 qs.length c5,.bool sl,.bool th,.int .i64 lk,.int .i64 bg,.int .i64 bg,.string ⟨#[]⟩]):=HP5.out.set 6 (by simp) (.slice a5 qs.length c5)
      have HU6:Hid (ButS (some ⟨P,0,none⟩) w (w5.setCell ⟨P,6,none⟩ (.slice a5 qs.length c5))):=HU5.out.set
      have HG6:Hid (RowG (w5.setCell ⟨P,6,none⟩ (.slice a5 qs.length c5)) P a5 qs):=HG5.out.but (ButS.refl _ _).set
      clear fz p6
      go_wp2
      refine bodyPost_end (v:=.tuple #[]) (by simp [results,Tryz.results83]) rfl ⟨rfl,⟨a5,c5,?_,?_,?_⟩,HU6.out⟩
      · rw [← HQS.out]; exact HP6.out
      · rw [← HQS.out]; exact HG6.out
      · rw [← HQS.out]; exact HC5.out
  · have hbg : bg = 1 := (by rw [HBg.out, hf]; rfl)
    subst hbg
    rw [hf] at HPr
    clear HBg
    go_wp2_with (go_at_call 76; refine (HPr.out _).mono ?_; rintro e w1 ⟨rfl,hw⟩; have hw2:=hw.symm; clear hw; subst hw2)
    obtain ⟨wq,hwq⟩:∃ wq,wq=w.drewN nq:=⟨_,rfl⟩
    have HPq:Hid (BoxW wq P [.slice (some ⟨tb,tf,none⟩) len cap,.int .i64 now,.int .i64 u,.int .i64 g,.slice ca cl cc,.bool r,.slice pa ps.length pc,.bool sl,.bool th,.int .i64 lk,.int .i64 ((j:Int) + 1),.int .i64 d,.string nm]):=by rw [hwq]; exact HP.out.below (bl_drewK (Below.refl _ _) _)
    have HBq:Hid (Below w.heap.size w wq):=by rw [hwq]; exact bl_drewK (Below.refl _ _) _
    rw [← hwq]
    clear hwq
    refine (iStand_any P tb tf len cap now u g ca cl cc r pa ps.length pc sl th lk ((j:Int) + 1) d nm 1 wq HPq.out).mono ?_
    rintro e w2 ⟨rfl,hP2,hu2⟩
    have HP2:Hid (BoxW w2 P [.slice (some ⟨tb,tf,none⟩) len cap,.int .i64 now,.int .i64 u,.int .i64 g,.slice ca cl cc,.bool r,.slice pa ps.length pc,.bool sl,.bool th,.int .i64 lk,.int .i64 1,.int .i64 1,.string ⟨#[]⟩]):=hP2
    have HU2:Hid (ButS (some ⟨P,0,none⟩) w w2):=ButS.upon HBq.out hu2
    have HR2:Hid (RowG w2 P pa ps):=HR.out.but HU2.out
    have HB2:Hid (Below wb.heap.size wb w2):=HBw.out.trans (HU2.out.below _ HBw.out.size (fun A e => by cases e; exact HPb.out))
    clear hP2 hu2 p0 p10 p11 c21 HPr HP HR HBw HPq HBq
    have p6:w2.cell? ⟨P,6,none⟩=some (.slice pa ps.length pc):=HP2.out.at0 6 _ rfl
    have fz:=HP2.out.frz
    go_upto_region 5 with fail
    go_region_law (first
      | (go_simp; go_at_call 129; refine (HCc.out).mono ?_; rintro e w5 ⟨v5,rfl,hv5,hb5⟩; have hb5':Below w2.heap.size w2 w5:=Below.on HB4.out hb5; obtain ⟨qs,hqs⟩:∃ qs,qs=pb ++ ps:=⟨_,rfl⟩; rw [catS_two,← hqs] at hv5; have HQS:Hid (qs=pb ++ ps):=hqs; clear hqs; obtain ⟨a5,c5,hvv,hac5,hrg5⟩:=own_rowG (P:=P) hv5 HP5l.out; subst hvv; have HP5:Hid (BoxW w5 P [.slice (some ⟨tb,tf,none⟩) len cap,.int .i64 now,.int .i64 u,.int .i64 g,.slice ca cl cc,.bool r,.slice pa ps.length pc,.bool sl,.bool th,.int .i64 lk,.int .i64 1,.int .i64 1,.string ⟨#[]⟩]):=HP2.out.below hb5'; have HU5:Hid (ButS (some ⟨P,0,none⟩) w w5):=HU2.out.on hb5'; have HG5:Hid (RowG w5 P a5 qs):=hrg5; have HC5:Hid (qs.length≤c5):=hac5; have k6:w5.cell? ⟨P,6,none⟩=some (.slice pa ps.length pc):=HP5.out.at0 6 _ rfl; have k6f:w5.frozen? ⟨P,6,none⟩=false:=HP5.out.frz 6; clear hv5 hb5 hb5' hac5 hrg5)
      | (go_simp; go_at_call 77; refine (HPo.out _ (bl_drewL HB2.out)).mono ?_; rintro e w4 ⟨v4,rfl,hv4,hb4⟩; have hb4':Below w2.heap.size w2 w4:=⟨hb4.os,hb4.tape,hb4.output,hb4.size,hb4.block⟩; obtain ⟨a4,c4,hvv,hac4,hrz4⟩:=own_rowZ hv4; subst hvv; have HRp:Hid (RowG w4 P pa ps):=HR2.out.but (ButS.of hb4'); have g6:w4.cell? ⟨P,6,none⟩=some (.slice pa ps.length pc):=(HP2.out.below hb4').at0 6 _ rfl; have HB4:Hid (Below w2.heap.size w2 (w4.alloc (.cells #[.slice a4 pb.length c4,.slice pa ps.length pc] 50))):=Below.on hb4' (bel_alloc _ _); have HP5l:Hid (P < (w4.alloc (.cells #[.slice a4 pb.length c4,.slice pa ps.length pc] 50)).heap.size):=((HP2.out.below HB4.out).lt); have HCc:Hid (Calls Tryz.prog 129 #[.slice (some ⟨w4.heap.size,0,none⟩) 2 2] (w4.alloc (.cells #[.slice a4 pb.length c4,.slice pa ps.length pc] 50)) fun e w' => ∃ v,e=.returned v∧w'.ownsRow (w4.alloc (.cells #[.slice a4 pb.length c4,.slice pa ps.length pc] 50)).heap.size 9 1 v (catS (ls2 pb ps) 2).length (tv (catS (ls2 pb ps) 2))∧Below (w4.alloc (.cells #[.slice a4 pb.length c4,.slice pa ps.length pc] 50)).heap.size (w4.alloc (.cells #[.slice a4 pb.length c4,.slice pa ps.length pc] 50)) w'):=cat_call w4 a4 pa c4 pc pb ps (by omega) hrz4 (rowG_Z HRp.out); clear hv4 hb4 hb4' hac4 hrz4 HRp))
    all_goals
      have HP6:Hid (BoxW (w5.setCell ⟨P,6,none⟩ (.slice a5 qs.length c5)) P [.slice (some ⟨tb,tf,none⟩) len cap,.int .i64 now,.int .i64 u,.int .i64 g,.slice ca cl cc,.bool r,.slice a5 qs.length c5,.bool sl,.bool th,.int .i64 lk,.int .i64 1,.int .i64 1,.string ⟨#[]⟩]):=HP5.out.set 6 (by simp) (.slice a5 qs.length c5)
      have HU6:Hid (ButS (some ⟨P,0,none⟩) w (w5.setCell ⟨P,6,none⟩ (.slice a5 qs.length c5))):=HU5.out.set
      have HG6:Hid (RowG (w5.setCell ⟨P,6,none⟩ (.slice a5 qs.length c5)) P a5 qs):=HG5.out.but (ButS.refl _ _).set
      clear fz p6
      go_wp2
      refine bodyPost_end (v:=.tuple #[]) (by simp [results,Tryz.results83]) rfl ⟨rfl,⟨a5,c5,?_,?_,?_⟩,HU6.out⟩
      · rw [← HQS.out]; exact HP6.out
      · rw [← HQS.out]; exact HG6.out
      · rw [← HQS.out]; exact HC5.out
end Go.Proofs.YtabfdidnjibdeaaGreatDoor
