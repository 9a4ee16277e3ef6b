/- Laid together: PpT, WkS3, WkS4. -/
import Derived.Test.YtabfdidnjibdeaaGreatDoorBT19
import Derived.Test.YtabfdidnjibdeaaGreatDoorBT2
import Derived.Test.YtabfdidnjibdeaaGreatDoorBT34
import Derived.BigRegion
/- spec.PathParts. -/
namespace Go.Proofs.YtabfdidnjibdeaaGreatDoor
open Go.RowKit Go.PlainAid Go.Deep
set_option linter.unusedVariables false
set_option maxHeartbeats 8000000 in
theorem sPathParts_any (s:ByteArray) (hs:s.size≤1048576) (w:World) :
    Calls Tryz.prog 66 #[.string s] w fun e w' => PpEnd w s e w':=by
  have hmx:s.size≤maxLen:=by unfold maxLen; omega
  have HSg:Hid (∀ w,Calls Tryz.prog 110 #[.string s,.int .i64 60] w fun e w' => e=.returned (.bool (signsB s 60))∧w'=w):=(fun w => sBytes_any s 60 (by omega) hmx w)
  clear hmx
  have HB:Hid (Below w.heap.size w (w.alloc (.cells #[.slice none 0 0,.bool false,.int .i64 0] 66))):=bel_alloc _ _
  have HX:Hid (BoxW (w.alloc (.cells #[.slice none 0 0,.bool false,.int .i64 0] 66)) w.heap.size [.slice none 0 0,.bool false,.int .i64 0]):=boxW_new w [.slice none 0 0,.bool false,.int .i64 0] 66
  go_enter Tryz.func66,Tryz.ntmps66
  go_upto_region 1 with fail
  generalize w.alloc (.cells #[.slice none 0 0,.bool false,.int .i64 0] 66)=w0 at HB HX ⊢
  obtain ⟨X,hX⟩:∃ X,X=w.heap.size:=⟨_,rfl⟩
  have HXw:Hid (w.heap.size≤X):=Nat.le_of_eq hX.symm
  rw [← hX] at HX ⊢
  clear hX
  have x0:w0.cell? ⟨X,0,none⟩=some (.slice none 0 0):=HX.out.at0 0 _ rfl
  have x1:w0.cell? ⟨X,1,none⟩=some (.bool false):=HX.out.at0 1 _ rfl
  have x2:w0.cell? ⟨X,2,none⟩=some (.int .i64 0):=HX.out.at0 2 _ rfl
  have fz:∀ o,w0.frozen? ⟨X,o,none⟩=false:=HX.out.frz
  by_cases h8:8000 < s.size
  · have hC := ppC_size h8
    have h8':(8000:Int) < (s.size:Int):=by omega
    clear HSg
    go_wp2
    refine bodyPost_ret (v:=.agg #[.slice none 0 0,.bool false,.int .i64 2]) (by simp [results,Tryz.results66,go_sem,x0,x1,x2]) rfl ?_
    exact .inl ⟨by rw [hC]; decide,by rw [hC],(by repeat (first | exact HB.out | refine bl_setT ?_ HXw.out))⟩
  have h8':¬ (8000:Int) < (s.size:Int):=by omega
  cases h6:signsB s 60
  · have hC := ppC_form h8 (by rw [h6]; rfl)
    rw [h6] at HSg
    clear h8
    go_wp2_with (go_at_call 110; refine (HSg.out _).mono ?_; rintro e w1 ⟨rfl,hw⟩; have hw2:=hw.symm; clear hw; subst hw2)
    refine bodyPost_ret (v:=.agg #[.slice none 0 0,.bool false,.int .i64 1]) (by simp [results,Tryz.results66,go_sem,x0,x1,x2]) rfl ?_
    exact .inl ⟨by rw [hC]; decide,by rw [hC],(by repeat (first | exact HB.out | refine bl_setT ?_ HXw.out))⟩
  rw [h6] at HSg
  obtain ⟨hn1,hn2⟩:=signs_len h6
  have h1:0 < s.size:=hn1
  have h1':(0:Int) < (s.size:Int):=by omega
  have hq:(((s[0]'h1).toNat:Int) == 47)=firB s:=by rw [firB,bt,dif_pos h1]
  cases h7:firB s
  · have hC := ppC_form h8 (by rw [h6, h7]; rfl)
    rw [h7] at hq
    clear h8 h6 h7
    have hqn:(((s[0]'h1).toNat:Int) != 47)=true:=by rw [bne,hq]; rfl
    go_wp2_with (go_at_call 110; refine (HSg.out _).mono ?_; rintro e w1 ⟨rfl,hw⟩; have hw2:=hw.symm; clear hw; subst hw2)
    refine bodyPost_ret (v:=.agg #[.slice none 0 0,.bool false,.int .i64 1]) (by simp [results,Tryz.results66,go_sem,x0,x1,x2]) rfl ?_
    exact .inl ⟨by rw [hC]; decide,by rw [hC],(by repeat (first | exact HB.out | refine bl_setT ?_ HXw.out))⟩
  rw [h7] at hq
  have hqn:(((s[0]'h1).toNat:Int) != 47)=false:=by rw [bne,hq]; rfl
  have HCr:Hid (lng (prt s.data.toList)=true→ppC s=8):=(fun h => ppC_range h8 (by rw [h6,h7]; rfl) h)
  have HCo:Hid (lng (prt s.data.toList)=false→ppC s=0):=(fun h => ppC_ok h8 (by rw [h6,h7]; rfl) h)
  have HSp:Hid (∀ w,Calls Tryz.prog 111 #[.string s] w fun e w' => ∃ v,e=.returned v∧w'.ownsRow w.heap.size 9 1 v (bts (prt s.data.toList)).length (tv (bts (prt s.data.toList)))∧Below w.heap.size w w'):=(fun w => sSplit9_any s (by omega) w)
  have hpl:(prt s.data.toList).length≤61:=by
    have h1:=prt_len s.data.toList
    have h2:s.data.toList.length=s.size:=(Lib.size_eq s).symm
    omega
  obtain ⟨n,hn⟩:∃ n:Nat,s.size=n + 1:=⟨s.size - 1,by omega⟩
  have hnl:n < s.size:=by omega
  have hql:(((s[n]'hnl).toNat:Int) == 47)=lasB s:=by
    have e:s.size - 1=n:=by omega
    rw [lasB,e,bt,dif_pos hnl]
  have HLas:Hid (lasB s=lasB s):=rfl
  have HPE:Hid (∀ e w',(ppC s ≠ 0∧e=.returned (.agg #[.slice none 0 0,.bool false,.int .i64 (ppC s)])∧Below w.heap.size w w')∨(ppC s=0∧∃ v,e=.returned (.agg #[v,.bool (lasB s),.int .i64 0])∧w'.ownsRow w.heap.size 9 1 v (bts (prt s.data.toList)).length (tv (bts (prt s.data.toList)))∧Below w.heap.size w w')→PpEnd w s e w'):=(fun e w' h => h)
  generalize lasB s=lb at hql HPE
  generalize prt s.data.toList=pp at HCr HCo HSp hpl HPE
  have HN':Hid ((s.size:Int)=(n:Int) + 1):=(by show _=_; omega)
  have HQL:Hid ((((s[n]'hnl).toNat:Int) == 47)=lb):=hql
  clear h8 h6 h7 hs hn1 hn2 HLas hn hql
  go_upto_region 5 with (go_at_call 110; refine (HSg.out _).mono ?_; rintro e w1 ⟨rfl,hw⟩; have hw2:=hw.symm; clear hw; subst hw2)
  go_wp2_with fail
  refine (HSp.out _).mono ?_
  rintro e w1 ⟨v,rfl,hv,hb⟩
  have HB0:Hid (w.heap.size≤w0.heap.size):=HB.out.size
  have HXl:Hid (X < w0.heap.size):=HX.out.lt
  replace HB:Hid (Below w.heap.size w w1):=Below.on HB.out hb
  replace HX:Hid (BoxW w1 X [.slice none 0 0,.bool false,.int .i64 0]):=HX.out.below hb
  replace x0:w1.cell? ⟨X,0,none⟩=some (.slice none 0 0):=HX.out.at0 0 _ rfl
  replace x1:w1.cell? ⟨X,1,none⟩=some (.bool false):=HX.out.at0 1 _ rfl
  replace x2:w1.cell? ⟨X,2,none⟩=some (.int .i64 0):=HX.out.at0 2 _ rfl
  replace fz:∀ o,w1.frozen? ⟨X,o,none⟩=false:=HX.out.frz
  have HOw:Hid (w1.ownsRow w.heap.size 9 1 v (bts pp).length (tv (bts pp))):=row_base hv HB0.out
  have HNe:Hid (v.ownBlock ≠ some X):=(fun e => by have h1:=own_blockT hv X e; have h2:=HXl.out; omega)
  obtain ⟨a,c,rfl,hac,hcell⟩:=own_rowS hv
  have HRw:Hid (RowS w1 a (bts pp)):=hcell
  have hbl:(bts pp).length=pp.length:=bts_len pp
  have HOw2:Hid (w1.ownsRow w.heap.size 9 1 (.slice a pp.length c) (bts pp).length (tv (bts pp))):=(by have h:=HOw.out; rw [hbl] at h; show World.ownsRow _ _ _ _ _ _ _; rw [hbl]; exact h)
  rw [hbl] at HNe ⊢
  clear hv hb hcell hac HSp HSg HB0
  go_wp2
  go_loop [4] (fun i => ∃ k:Nat,k≤pp.length∧i=.int .i64 k∧Hid (lngTo pp k=false)) (fun i => pp.length - (intOf i).toNat)
  case atStart => exact ⟨0,Nat.zero_le _,rfl,rfl⟩
  case round =>
    obtain ⟨k,hk,rfl,hno⟩:=hrel
    by_cases hlt:k < pp.length
    · obtain ⟨b, rfl, hb0, hcell⟩ := HRw.out (by omega)
      have hlt':(k:Int) < (pp.length:Int):=by omega
      have h0':(0:Int)≤(k:Int):=by omega
      have g0:=hcell k _ (bts_at hlt)
      rw [Nat.zero_add] at g0
      have hgl:(⟨pp[k].toArray⟩:ByteArray).size=pp[k].length:=rfl
      have hgd:=bts_get hlt
      have HLy:Hid (12 < (pp.getD k []).length→lng pp=true):=(fun h => lngTo_yes hlt h)
      have HLn:Hid (¬ 12 < (pp.getD k []).length→lngTo pp (k + 1)=false):=(fun h => lngTo_next hno.out h)
      rw [← hgd,← hgl] at HLy HLn
      generalize (⟨pp[k].toArray⟩:ByteArray)=x at g0 HLy HLn
      clear hcell hgl hgd
      by_cases h12:12 < x.size
      · have hC : ppC s = 8 := HCr.out (HLy.out h12)
        have h12':(12:Int) < (x.size:Int):=by omega
        go_wp2
        refine bodyPost_ret (v:=.agg #[.slice none 0 0,.bool false,.int .i64 8]) (by simp [results,Tryz.results66,go_sem,x0,x1,x2]) rfl ?_
        exact HPE.out _ _ (.inl ⟨by rw [hC]; decide,by rw [hC],(by repeat (first | exact HB.out | refine bl_setT ?_ HXw.out))⟩)
      · have hnx : Hid (lngTo pp (k + 1) = false) := HLn.out h12
        have h12':¬ (12:Int) < (x.size:Int):=by omega
        go_wp2
        go_round
        case rel => exact ⟨k + 1,by omega,by go_num,hnx⟩
        case measure => simp [intOf]; omega
    · have : k = pp.length := by omega
      subst this
      have hC:ppC s=0:=HCo.out hno.out
      have hql2:=HQL.out
      have hn':=HN'.out
      go_wp2
      refine bodyPost_ret (v:=.agg #[.slice a pp.length c,.bool lb,.int .i64 0]) (by simp [results,Tryz.results66,go_sem,x0,x1,x2]) rfl ?_
      refine HPE.out _ _ (.inr ⟨hC,_,rfl,?_,(by repeat (first | exact HB.out | refine bl_setT ?_ HXw.out))⟩)
      exact row_set (row_set (row_set HOw2.out HNe.out) HNe.out) HNe.out
end Go.Proofs.YtabfdidnjibdeaaGreatDoor
/- spec.l09Walk and spec.Walk. -/
namespace Go.Proofs.YtabfdidnjibdeaaGreatDoor
open Go.RowKit Go.PlainAid Go.Deep
set_option linter.unusedVariables false
theorem below_drewS {B:Nat} {w w':World} (h:Below B w w') (n:Nat):Below B w (w'.drewN n):=h.trans ⟨rfl,rfl,rfl,Nat.le_refl _,fun _ _ => rfl⟩
theorem bdW {B:Nat} {w w':World} (h:Below B w w'):Below B w w'.drew:=h.trans ⟨rfl,rfl,rfl,Nat.le_refl _,fun _ _ => rfl⟩
set_option maxRecDepth 20000 in
set_option maxHeartbeats 16000000 in
theorem sL09_any (tb tf len cap:Nat) (l:List Nd) (now:Int) (u g:Int) (ca:Option Addr) (cl cc:Nat) (r:Bool) (cf:Nat→Int) (s:ByteArray) (fo:Bool) (Y:Nat→Na) (hl:len≤12) (hll:l.length=len) (ht:treeB l now=true) (hcr:credB u g cl cf=true) (hs:s.size≤1048576) (w:World)
    (htb:tb < w.heap.size) (hN:∀ i,i < len→N24 w tb (tf + i * 24) (ndAt l i) (Y i)∧NdIn w (ndAt l i) (Y i)) (hfit:∀ i,i < len→NdFit 1048576 (ndAt l i)) (hci:Ints ca cl cf w) :
    Calls Tryz.prog 35 #[.agg #[.slice (some ⟨tb,tf,none⟩) len cap,.int .i64 now],.agg #[.int .i64 u,.int .i64 g,.slice ca cl cc,.bool r],.string s,.bool fo] w fun e w' => e=.returned (.agg #[.int .i64 (wkO l (ltB l u g cl r cf) fo s).n,.int .i64 (wkO l (ltB l u g cl r cf) fo s).d,.string (wkO l (ltB l u g cl r cf) fo s).nm,.int .i64 (wkO l (ltB l u g cl r cf) fo s).c])∧Below w.heap.size w w':=by
  have HPp:Hid (∀ w,Calls Tryz.prog 66 #[.string s] w (PpEnd w s)):=(fun w => sPathParts_any s hs w)
  have HB:Hid (Below w.heap.size w (((w.alloc (.cells #[.slice (some ⟨tb,tf,none⟩) len cap,.int .i64 now] 35)).alloc (.cells #[.int .i64 u,.int .i64 g,.slice ca cl cc,.bool r] 37)).alloc (.cells #[.int .i64 0,.int .i64 0,.string ⟨#[]⟩,.int .i64 0] 31))):=(((Below.refl _ _).alloc (Nat.le_refl _) _).alloc (by simp) _).alloc (by simp; omega) _
  have HX:Hid (BoxR (((w.alloc (.cells #[.slice (some ⟨tb,tf,none⟩) len cap,.int .i64 now] 35)).alloc (.cells #[.int .i64 u,.int .i64 g,.slice ca cl cc,.bool r] 37)).alloc (.cells #[.int .i64 0,.int .i64 0,.string ⟨#[]⟩,.int .i64 0] 31)) w.heap.size [.slice (some ⟨tb,tf,none⟩) len cap,.int .i64 now]):=((boxR_new w [.slice (some ⟨tb,tf,none⟩) len cap,.int .i64 now] 35).below (bel_alloc _ _)).below (bel_alloc _ _)
  have HC:Hid (BoxR (((w.alloc (.cells #[.slice (some ⟨tb,tf,none⟩) len cap,.int .i64 now] 35)).alloc (.cells #[.int .i64 u,.int .i64 g,.slice ca cl cc,.bool r] 37)).alloc (.cells #[.int .i64 0,.int .i64 0,.string ⟨#[]⟩,.int .i64 0] 31)) (w.heap.size + 1) [.int .i64 u,.int .i64 g,.slice ca cl cc,.bool r]):=(by
    have h:=(boxR_new (w.alloc (.cells #[.slice (some ⟨tb,tf,none⟩) len cap,.int .i64 now] 35)) [.int .i64 u,.int .i64 g,.slice ca cl cc,.bool r] 37).below (bel_alloc _ (.cells #[.int .i64 0,.int .i64 0,.string ⟨#[]⟩,.int .i64 0] 31))
    simp only [World.size_alloc] at h
    exact h)
  have HO:Hid (BoxW (((w.alloc (.cells #[.slice (some ⟨tb,tf,none⟩) len cap,.int .i64 now] 35)).alloc (.cells #[.int .i64 u,.int .i64 g,.slice ca cl cc,.bool r] 37)).alloc (.cells #[.int .i64 0,.int .i64 0,.string ⟨#[]⟩,.int .i64 0] 31)) (w.heap.size + 1 + 1) [.int .i64 0,.int .i64 0,.string ⟨#[]⟩,.int .i64 0]):=(by
    have h:=boxW_new ((w.alloc (.cells #[.slice (some ⟨tb,tf,none⟩) len cap,.int .i64 now] 35)).alloc (.cells #[.int .i64 u,.int .i64 g,.slice ca cl cc,.bool r] 37)) [.int .i64 0,.int .i64 0,.string ⟨#[]⟩,.int .i64 0] 31
    simp only [World.size_alloc] at h
    exact h)
  have HSt:Hid (∀ (P:Nat) (sl:Bool) (t:Wy) (d:Int) (p:ByteArray) (ps:List ByteArray) (pa:Option Addr) (pc:Nat) (w':World),WyOk l t→t.ps=p :: ps→Below w.heap.size w w'→w.heap.size≤P→WyAt w' P tb tf len cap l now u g ca cl cc r sl t d pa pc→Calls Tryz.prog 67 #[.pointer (some ⟨P,0,none⟩),.bool fo] w' fun e w'' => WyEnd w' P tb tf len cap l now u g ca cl cc r sl (wst l (ltB l u g cl r cf) (fo || sl) t p ps) e w''):=(fun P sl t d p ps pa pc w' h1 h2 h3 h4 h5 => sStep_any w P tb tf len cap l now u g ca cl cc r sl cf t d p ps pa pc fo Y hl hll ht hcr h1 h2 htb hN hfit hci w' h3 h4 h5)
  have HNx:Hid (∀ w',Below w.heap.size w w'→∀ i,i < len→N24 w' tb (tf + i * 24) (ndAt l i) (Y i)):=(fun w' hb i hi => range_below (hN i hi).1 htb hb)
  have HT:Hid (treeB l now=true):=ht
  have HLl:Hid (l.length=len):=hll
  clear hN hfit hci ht hcr hll htb
  generalize hlt:ltB l u g cl r cf=lt at HSt ⊢
  clear hlt
  go_enter Tryz.func35,Tryz.ntmps35
  go_upto_region 1 with fail
  generalize (((w.alloc (.cells #[.slice (some ⟨tb,tf,none⟩) len cap,.int .i64 now] 35)).alloc (.cells #[.int .i64 u,.int .i64 g,.slice ca cl cc,.bool r] 37)).alloc (.cells #[.int .i64 0,.int .i64 0,.string ⟨#[]⟩,.int .i64 0] 31))=w0 at HB HX HC HO ⊢
  obtain ⟨X,hX⟩:∃ X,X=w.heap.size:=⟨_,rfl⟩
  have HXw:Hid (X=w.heap.size):=hX
  rw [← hX] at HX HC HO ⊢
  clear hX
  go_wp2_with fail
  refine (HPp.out _).mono ?_
  intro e w1 he
  rcases he with ⟨hc0,rfl,hb1⟩ | ⟨hc0,v,rfl,hv,hb1⟩
  · have HW : Hid (wkO l lt fo s = woC (ppC s)) := (by show _ = _; rw [wkO, if_neg hc0])
    have HB1:Hid (Below w.heap.size w w1):=Below.on HB.out hb1
    have HO1:Hid (BoxW w1 (X + 1 + 1) [.int .i64 0,.int .i64 0,.string ⟨#[]⟩,.int .i64 0]):=HO.out.below hb1
    have hcn:(ppC s == 0)=false:=by simpa using hc0
    have hcn2:(ppC s != 0)=true:=by rw [bne,hcn]; rfl
    generalize ppC s=pcc at HW hcn hcn2
    have hbQ:=bel_alloc w1 (.cells #[.slice none 0 0,.bool false,.int .i64 pcc] 66)
    have HQ2:Hid (BoxR (w1.alloc (.cells #[.slice none 0 0,.bool false,.int .i64 pcc] 66)) w1.heap.size [.slice none 0 0,.bool false,.int .i64 pcc]):=boxR_new _ _ _
    have HO2:Hid (BoxW (w1.alloc (.cells #[.slice none 0 0,.bool false,.int .i64 pcc] 66)) (X + 1 + 1) [.int .i64 0,.int .i64 0,.string ⟨#[]⟩,.int .i64 0]):=HO1.out.below hbQ
    have HB2:Hid (Below w.heap.size w (w1.alloc (.cells #[.slice none 0 0,.bool false,.int .i64 pcc] 66))):=Below.on HB1.out hbQ
    clear hb1 hbQ HPp HSt HNx
    go_upto_region 2 with fail
    generalize w1.alloc (.cells #[.slice none 0 0,.bool false,.int .i64 pcc] 66)=w2 at HQ2 HO2 HB2 ⊢
    generalize w1.heap.size=Q at HQ2 ⊢
    have q2:w2.cell? ⟨Q,2,none⟩=some (.int .i64 pcc):=HQ2.out.at0 2 _ rfl
    have o0:w2.cell? ⟨X + 1 + 1,0,none⟩=some (.int .i64 0):=HO2.out.at0 0 _ rfl
    have o1:w2.cell? ⟨X + 1 + 1,1,none⟩=some (.int .i64 0):=HO2.out.at0 1 _ rfl
    have o2:w2.cell? ⟨X + 1 + 1,2,none⟩=some (.string ⟨#[]⟩):=HO2.out.at0 2 _ rfl
    have o3:w2.cell? ⟨X + 1 + 1,3,none⟩=some (.int .i64 0):=HO2.out.at0 3 _ rfl
    have fz:=HO2.out.frz
    go_wp2
    refine bodyPost_ret (v:=.agg #[.int .i64 0,.int .i64 0,.string ⟨#[]⟩,.int .i64 pcc]) (by simp [results,Tryz.results35,go_sem,o0,o1,o2,o3]) rfl ?_
    exact ⟨by rw [HW.out]; rfl,(by repeat (first | exact HB2.out | refine bl_setT ?_ (by have:=HXw.out; omega)))⟩
  · have HW : Hid (wkO l lt fo s = wend l (lasB s) (wrun l lt (fo || lasB s) (wmu (s0W s)) (s0W s))) := (by show _ = _; rw [wkO, if_pos hc0])
    have HI:Hid (WyI l lt (fo || lasB s) (wrun l lt (fo || lasB s) (wmu (s0W s)) (s0W s)) (s0W s)):=wyI_start HT.out hc0
    obtain ⟨qa,qc,hvv,hqc,hrs⟩:=own_rowS (l:=pbo s) hv
    subst hvv
    have hql:(pbo s).length≤61:=by have h1:=pbo_len s; have h2:=ppC_zero hc0; omega
    have HB1:Hid (Below w.heap.size w w1):=Below.on HB.out hb1
    obtain ⟨R,hR⟩:∃ R,R=wrun l lt (fo || lasB s) (wmu (s0W s)) (s0W s):=⟨_,rfl⟩
    rw [← hR] at HW HI
    clear hR
    generalize lasB s=sl at HW HI
    have hbQ:=bel_alloc w1 (.cells #[.slice qa (pbo s).length qc,.bool sl,.int .i64 0] 66)
    have HQ2:Hid (BoxR (w1.alloc (.cells #[.slice qa (pbo s).length qc,.bool sl,.int .i64 0] 66)) w1.heap.size [.slice qa (pbo s).length qc,.bool sl,.int .i64 0]):=boxR_new _ _ _
    have HO2:Hid (BoxW (w1.alloc (.cells #[.slice qa (pbo s).length qc,.bool sl,.int .i64 0] 66)) (X + 1 + 1) [.int .i64 0,.int .i64 0,.string ⟨#[]⟩,.int .i64 0]):=(HO.out.below hb1).below hbQ
    have HX2:Hid (BoxR (w1.alloc (.cells #[.slice qa (pbo s).length qc,.bool sl,.int .i64 0] 66)) X [.slice (some ⟨tb,tf,none⟩) len cap,.int .i64 now]):=(HX.out.below hb1).below hbQ
    have HC2:Hid (BoxR (w1.alloc (.cells #[.slice qa (pbo s).length qc,.bool sl,.int .i64 0] 66)) (X + 1) [.int .i64 u,.int .i64 g,.slice ca cl cc,.bool r]):=(HC.out.below hb1).below hbQ
    have HB2:Hid (Below w.heap.size w (w1.alloc (.cells #[.slice qa (pbo s).length qc,.bool sl,.int .i64 0] 66))):=Below.on HB1.out hbQ
    have HR2:Hid (RowS (w1.alloc (.cells #[.slice qa (pbo s).length qc,.bool sl,.int .i64 0] 66)) qa (pbo s)):=hrs.below hbQ
    have HQc:Hid ((pbo s).length≤qc):=hqc
    clear hv hb1 hbQ hrs hqc HB HX HC HO HB1 HPp
    go_upto_region 2 with fail
    generalize w1.alloc (.cells #[.slice qa (pbo s).length qc,.bool sl,.int .i64 0] 66)=w2 at HQ2 HO2 HX2 HC2 HB2 HR2 ⊢
    generalize w1.heap.size=Q at HQ2 ⊢
    have q0:w2.cell? ⟨Q,0,none⟩=some (.slice qa (pbo s).length qc):=HQ2.out.at0 0 _ rfl
    have q1:w2.cell? ⟨Q,1,none⟩=some (.bool sl):=HQ2.out.at0 1 _ rfl
    have q2:w2.cell? ⟨Q,2,none⟩=some (.int .i64 0):=HQ2.out.at0 2 _ rfl
    have x0:w2.cell? ⟨X,0,none⟩=some (.slice (some ⟨tb,tf,none⟩) len cap):=HX2.out.at0 0 _ rfl
    have x1:w2.cell? ⟨X,1,none⟩=some (.int .i64 now):=HX2.out.at0 1 _ rfl
    have c0:w2.cell? ⟨X + 1,0,none⟩=some (.int .i64 u):=HC2.out.at0 0 _ rfl
    have c1:w2.cell? ⟨X + 1,1,none⟩=some (.int .i64 g):=HC2.out.at0 1 _ rfl
    have c2:w2.cell? ⟨X + 1,2,none⟩=some (.slice ca cl cc):=HC2.out.at0 2 _ rfl
    have c3:w2.cell? ⟨X + 1,3,none⟩=some (.bool r):=HC2.out.at0 3 _ rfl
    have hbP:=bel_alloc w2 (.cells #[.slice (some ⟨tb,tf,none⟩) len cap,.int .i64 now,.int .i64 u,.int .i64 g,.slice ca cl cc,.bool r,.int .i64 1,.int .i64 0,.string ⟨#[]⟩,.slice qa (pbo s).length qc,.bool sl,.int .i64 0] 122)
    have HP3:Hid (WyAt (w2.alloc (.cells #[.slice (some ⟨tb,tf,none⟩) len cap,.int .i64 now,.int .i64 u,.int .i64 g,.slice ca cl cc,.bool r,.int .i64 1,.int .i64 0,.string ⟨#[]⟩,.slice qa (pbo s).length qc,.bool sl,.int .i64 0] 122)) w2.heap.size tb tf len cap l now u g ca cl cc r sl (s0W s) 0 qa qc):=(by
      refine ⟨boxW_new w2 [.slice (some ⟨tb,tf,none⟩) len cap,.int .i64 now,.int .i64 u,.int .i64 g,.slice ca cl cc,.bool r,.int .i64 1,.int .i64 0,.string ⟨#[]⟩,.slice qa (pbo s).length qc,.bool sl,.int .i64 0] 122,fun h => ?_,HQc.out⟩
      obtain ⟨b,hb,hlt,hcell⟩:=HR2.out h
      exact ⟨b,0,hb,by omega,RowB.below ⟨hlt,hcell⟩ hbP⟩)
    have HO3:Hid (BoxW (w2.alloc (.cells #[.slice (some ⟨tb,tf,none⟩) len cap,.int .i64 now,.int .i64 u,.int .i64 g,.slice ca cl cc,.bool r,.int .i64 1,.int .i64 0,.string ⟨#[]⟩,.slice qa (pbo s).length qc,.bool sl,.int .i64 0] 122)) (X + 1 + 1) [.int .i64 0,.int .i64 0,.string ⟨#[]⟩,.int .i64 0]):=HO2.out.below hbP
    have HX3:Hid (BoxR (w2.alloc (.cells #[.slice (some ⟨tb,tf,none⟩) len cap,.int .i64 now,.int .i64 u,.int .i64 g,.slice ca cl cc,.bool r,.int .i64 1,.int .i64 0,.string ⟨#[]⟩,.slice qa (pbo s).length qc,.bool sl,.int .i64 0] 122)) X [.slice (some ⟨tb,tf,none⟩) len cap,.int .i64 now]):=HX2.out.below hbP
    have HB3:Hid (Below w.heap.size w (w2.alloc (.cells #[.slice (some ⟨tb,tf,none⟩) len cap,.int .i64 now,.int .i64 u,.int .i64 g,.slice ca cl cc,.bool r,.int .i64 1,.int .i64 0,.string ⟨#[]⟩,.slice qa (pbo s).length qc,.bool sl,.int .i64 0] 122))):=Below.on HB2.out hbP
    have HPX:Hid (X + 1 + 1 < w2.heap.size∧w.heap.size≤w2.heap.size):=⟨HO2.out.lt,HB2.out.size⟩
    clear hbP
    go_upto_region 5 with fail
    generalize w2.alloc (.cells #[.slice (some ⟨tb,tf,none⟩) len cap,.int .i64 now,.int .i64 u,.int .i64 g,.slice ca cl cc,.bool r,.int .i64 1,.int .i64 0,.string ⟨#[]⟩,.slice qa (pbo s).length qc,.bool sl,.int .i64 0] 122)=w3 at HP3 HO3 HX3 HB3 ⊢
    generalize w2.heap.size=P at HP3 HPX ⊢
    clear q0 q1 q2 x0 x1 c0 c1 c2 c3 HQ2 HO2 HX2 HC2 HB2 HR2 HQc
    go_loopw [11] (fun v wr => ∃ (t:Wy) (d:Int) (pa:Option Addr) (pc:Nat),Hid (WyI l lt (fo || sl) R t)∧Hid (WyAt wr P tb tf len cap l now u g ca cl cc r sl t d pa pc)∧Hid (t.nm.toList ≠ []→d=t.d)∧Hid (Below w.heap.size w wr)∧Hid (BoxW wr (X + 1 + 1) [.int .i64 0,.int .i64 0,.string ⟨#[]⟩,.int .i64 0])∧Hid (BoxR wr X [.slice (some ⟨tb,tf,none⟩) len cap,.int .i64 now])) (fun _ wr => wMu wr P)
    case atStart => exact ⟨s0W s,0,qa,qc,HI,HP3,fun h => absurd emp_nil h,HB3,HO3,HX3⟩
    case round =>
      obtain ⟨t,d,pa,pc,hI,hA,hd,hB,hO,hX⟩:=hrel
      have p9:wr.cell? ⟨P,9,none⟩=some (.slice pa t.ps.length pc):=hA.out.1.at0 9 _ rfl
      have o0:wr.cell? ⟨X + 1 + 1,0,none⟩=some (.int .i64 0):=hO.out.at0 0 _ rfl
      cases hps:t.ps with
      | cons p ps =>
        have HC:Hid (Calls Tryz.prog 67 #[.pointer (some ⟨P,0,none⟩),.bool fo] wr fun e w'' => WyEnd wr P tb tf len cap l now u g ca cl cc r sl (wst l lt (fo || sl) t p ps) e w''):=HSt.out P sl t d p ps pa pc wr hI.out.ok hps hB.out HPX.out.2 hA.out
        obtain ⟨hn1,hn2⟩:=wyI_next HT.out hI.out hps
        have HN1:Hid ((wst l lt (fo || sl) t p ps).1=0→WyI l lt (fo || sl) R (wst l lt (fo || sl) t p ps).2∧wmu (wst l lt (fo || sl) t p ps).2 < wmu t):=hn1
        have HN2:Hid ((wst l lt (fo || sl) t p ps).1 ≠ 0→R=wst l lt (fo || sl) t p ps):=hn2
        have HMu:Hid (wMu wr P=wmu t):=wMu_at hA.out
        have hlen:(0:Int) < (t.ps.length:Int):=by rw [hps]; simp
        clear hn1 hn2 hps
        generalize t.ps.length=tn at p9 hlen
        generalize wst l lt (fo || sl) t p ps=x at HC HN1 HN2
        go_wp2_with fail
        refine (HC.out).mono ?_
        rintro e w5 ⟨rfl,hu5,hn5⟩
        have HB5:Hid (Below w.heap.size w w5):=hB.out.trans (hu5.below _ hB.out.size (fun A e => by cases e; exact HPX.out.2))
        have HO5:Hid (BoxW w5 (X + 1 + 1) [.int .i64 0,.int .i64 0,.string ⟨#[]⟩,.int .i64 0]):=hO.out.butS hu5 (fun A e => by cases e; have:=HPX.out.1; show X + 1 + 1 ≠ P; omega)
        have HX5:Hid (BoxR w5 X [.slice (some ⟨tb,tf,none⟩) len cap,.int .i64 now]):=hX.out.butS hu5 (fun A e => by cases e; have:=HPX.out.1; show X ≠ P; omega)
        have HN5:Hid (x.1=0→∃ d pa pc,WyAt w5 P tb tf len cap l now u g ca cl cc r sl x.2 d pa pc∧(x.2.nm.toList ≠ []→d=x.2.d)):=hn5
        clear hu5 hn5 HC p9 o0 hO hX hB hA
        by_cases hx:x.1=0
        · obtain ⟨d5, pa5, pc5, hA5, hd5⟩ := HN5.out hx
          obtain ⟨hI5,hm5⟩:=HN1.out hx
          have HA5:Hid (WyAt w5 P tb tf len cap l now u g ca cl cc r sl x.2 d5 pa5 pc5):=hA5
          have HI5:Hid (WyI l lt (fo || sl) R x.2):=hI5
          have HD5:Hid (x.2.nm.toList ≠ []→d5=x.2.d):=hd5
          have HM5:Hid (wMu w5 P < wMu wr P):=(by show _ < _; rw [HMu.out,wMu_at hA5]; exact hm5)
          clear hA5 hI5 hd5 hm5 HN5 HN1 HN2
          rw [hx]
          go_wp2
          go_roundw
          case rel => exact ⟨x.2,d5,pa5,pc5,HI5,HA5,HD5,HB5,HO5,HX5⟩
          case measure => exact HM5.out
        · have hR := HN2.out hx
          have HWo:Hid (wkO l lt fo s=woC x.1):=(by
            show _=_
            have e:(x.1 == 0)=false:=by simpa using hx
            rw [HW.out,hR,wend,e]
            rfl)
          have hxn:(x.1 == 0)=false:=by simpa using hx
          have hxn2:(x.1 != 0)=true:=by rw [bne,hxn]; rfl
          generalize x.1=xc at HWo hxn hxn2 ⊢
          have o0:w5.cell? ⟨X + 1 + 1,0,none⟩=some (.int .i64 0):=HO5.out.at0 0 _ rfl
          have o1:w5.cell? ⟨X + 1 + 1,1,none⟩=some (.int .i64 0):=HO5.out.at0 1 _ rfl
          have o2:w5.cell? ⟨X + 1 + 1,2,none⟩=some (.string ⟨#[]⟩):=HO5.out.at0 2 _ rfl
          have o3:w5.cell? ⟨X + 1 + 1,3,none⟩=some (.int .i64 0):=HO5.out.at0 3 _ rfl
          have fz:=HO5.out.frz
          clear HN5 HN1 HN2 hx hR
          go_wp2
          refine bodyPost_ret (v:=.agg #[.int .i64 0,.int .i64 0,.string ⟨#[]⟩,.int .i64 xc]) (by simp [results,Tryz.results35,go_sem,o0,o1,o2,o3]) rfl ?_
          exact ⟨by rw [HWo.out]; rfl,(by repeat (first | exact HB5.out | refine bl_setT ?_ (by have:=HXw.out; omega)))⟩
      | nil =>
        have HRe:Hid (R=(0,t)):=wyI_end hI.out hps
        rw [hps] at p9
        have p6:wr.cell? ⟨P,6,none⟩=some (.int .i64 t.at_):=hA.out.1.at0 6 _ rfl
        have p7:wr.cell? ⟨P,7,none⟩=some (.int .i64 d):=hA.out.1.at0 7 _ rfl
        have p8:wr.cell? ⟨P,8,none⟩=some (.string t.nm):=hA.out.1.at0 8 _ rfl
        have p10:wr.cell? ⟨P,10,none⟩=some (.bool sl):=hA.out.1.at0 10 _ rfl
        have x0:wr.cell? ⟨X,0,none⟩=some (.slice (some ⟨tb,tf,none⟩) len cap):=hX.out.at0 0 _ rfl
        have HWt:Hid (wkO l lt fo s=if sl && (decide (0 < t.at_) && !((ndAt l (t.at_ - 1).toNat).k == 1)) then woC 12 else ⟨t.at_,t.d,t.nm,0⟩):=(by show _=_; rw [HW.out,HRe.out]; rfl)
        have HDt:Hid (t.nm.toList=[]→t.d=t.at_):=hI.out.ok.dn
        have hth:t.at_=0∨∃ k:Nat,t.at_=(k:Int) + 1∧k < len:=by
          by_cases h0:t.at_=0
          · exact .inl h0
          · obtain ⟨k, hk, hkl⟩ := th_num (hI.out.ok.th h0)
            exact .inr ⟨k,hk,by have:=HLl.out; omega⟩
        have HN0:Hid (∀ i,i < len→N24 wr tb (tf + i * 24) (ndAt l i) (Y i)):=HNx.out wr hB.out
        obtain ⟨cnd,hcnd⟩:∃ cnd,cnd=(sl && (decide (0 < t.at_) && !((ndAt l (t.at_ - 1).toNat).k == 1))):=⟨_,rfl⟩
        rw [← hcnd] at HWt
        go_upto_region 9 with fail
        go_cut [64] (fun v wx => v=.bool cnd∧∃ n,wx=wr.drewN n)
        case first =>
          cases sl
          · go_quiet (fail)
            go_wp2
            go_meet
            exact ⟨by rw [hcnd]; rfl,_,rfl⟩
          · rcases hth with h0 | ⟨k, hk, hkl⟩
            · rw [h0] at p6
              go_quiet (fail)
              go_wp2
              go_meet
              exact ⟨by rw [hcnd,h0]; rfl,_,rfl⟩
            · have c0 := N24.c0 (HN0.out k hkl)
              have HCn:Hid (cnd=!((ndAt l k).k == 1)):=(by show _=_; rw [hcnd,hk,at_succ]; simp)
              rw [hk] at p6
              have hk1:(k:Int) < (len:Int):=by omega
              have hk0:(0:Int)≤(k:Int):=by omega
              clear hcnd HWt
              generalize ndAt l k=x at c0 HCn
              cases q:(x.k == 1)
              · have qn : (x.k != 1) = true := by rw [bne, q]; rfl
                rw [q] at HCn
                go_quiet (fail)
                go_wp2
                go_meet
                exact ⟨by rw [HCn.out]; rfl,_,rfl⟩
              · have qn : (x.k != 1) = false := by rw [bne, q]; rfl
                rw [q] at HCn
                go_quiet (fail)
                go_wp2
                go_meet
                exact ⟨by rw [HCn.out]; rfl,_,rfl⟩
        case rest =>
        obtain ⟨rfl,nd,hwc⟩:=hcut
        have HB5:Hid (Below w.heap.size w wc):=(by show Below _ _ _; rw [hwc]; exact below_drewS hB.out _)
        have HO5:Hid (BoxW wc (X + 1 + 1) [.int .i64 0,.int .i64 0,.string ⟨#[]⟩,.int .i64 0]):=(by show BoxW _ _ _; rw [hwc]; exact hO.out.below (below_drewS (Below.refl _ _) nd))
        have HA5:Hid (WyAt wc P tb tf len cap l now u g ca cl cc r sl t d pa pc):=(by
          rw [hwc]
          exact ⟨hA.out.1.below (below_drewS (Below.refl _ _) nd),hA.out.2.1.but (ButS.of (below_drewS (Below.refl _ _) nd)),hA.out.2.2⟩)
        clear hwc p6 p7 p8 p9 p10 x0 o0 hB hO hX hA HN0 hcnd hth
        have o0:wc.cell? ⟨X + 1 + 1,0,none⟩=some (.int .i64 0):=HO5.out.at0 0 _ rfl
        have o1:wc.cell? ⟨X + 1 + 1,1,none⟩=some (.int .i64 0):=HO5.out.at0 1 _ rfl
        have o2:wc.cell? ⟨X + 1 + 1,2,none⟩=some (.string ⟨#[]⟩):=HO5.out.at0 2 _ rfl
        have o3:wc.cell? ⟨X + 1 + 1,3,none⟩=some (.int .i64 0):=HO5.out.at0 3 _ rfl
        have fz:=HO5.out.frz
        cases cnd
        case true =>
          have HWo:Hid (wkO l lt fo s=woC 12):=HWt.out
          go_wp2
          refine bodyPost_ret (v:=.agg #[.int .i64 0,.int .i64 0,.string ⟨#[]⟩,.int .i64 12]) (by simp [results,Tryz.results35,go_sem,o0,o1,o2,o3]) rfl ?_
          exact ⟨by rw [HWo.out]; rfl,(by repeat (first | exact HB5.out | refine bl_setT ?_ (by have:=HXw.out; omega)))⟩
        have HWo:Hid (wkO l lt fo s=⟨t.at_,t.d,t.nm,0⟩):=HWt.out
        have p6:wc.cell? ⟨P,6,none⟩=some (.int .i64 t.at_):=HA5.out.1.at0 6 _ rfl
        have p7:wc.cell? ⟨P,7,none⟩=some (.int .i64 d):=HA5.out.1.at0 7 _ rfl
        have p8:wc.cell? ⟨P,8,none⟩=some (.string t.nm):=HA5.out.1.at0 8 _ rfl
        have fzP:=HA5.out.1.frz
        have hPO:¬ P=X + 1 + 1:=by have:=HPX.out.1; omega
        have hOP:¬ X + 1 + 1=P:=by have:=HPX.out.1; omega
        cases e:(t.nm.toList == [])
        · have hdd : d = t.d := hd.out (by simpa using e)
          subst hdd
          have HWo2:Hid (wkO l lt fo s=⟨t.at_,t.d,t.nm,0⟩):=HWo
          clear HDt hd HWo HWt HRe HI hI
          go_upto_region 13 with fail
          go_region
          all_goals go_wp2
          all_goals refine bodyPost_ret (v:=.agg #[.int .i64 t.at_,.int .i64 t.d,.string t.nm,.int .i64 0]) (by simp [results,Tryz.results35,go_sem,o0,o1,o2,o3]) rfl ?_
          all_goals exact ⟨by rw [HWo2.out],(by repeat (first | exact HB5.out | refine bl_setT ?_ (by have:=HXw.out; omega) | refine bdW ?_))⟩
        · have hdd : t.d = t.at_ := HDt.out (by simpa using e)
          have HWo2:Hid (wkO l lt fo s=⟨t.at_,t.at_,t.nm,0⟩):=(by show _=_; rw [HWo.out,hdd])
          have HP6:Hid (Below w.heap.size w (wc.setCell ⟨P,7,none⟩ (.int .i64 t.at_))):=setS HB5.out HPX.out.2
          have o0':(wc.setCell ⟨P,7,none⟩ (.int .i64 t.at_)).cell? ⟨X + 1 + 1,0,none⟩=some (.int .i64 0):=(HO5.out.other (b:=P) hPO).at0 0 _ rfl
          have o1':(wc.setCell ⟨P,7,none⟩ (.int .i64 t.at_)).cell? ⟨X + 1 + 1,1,none⟩=some (.int .i64 0):=(HO5.out.other (b:=P) hPO).at0 1 _ rfl
          have o2':(wc.setCell ⟨P,7,none⟩ (.int .i64 t.at_)).cell? ⟨X + 1 + 1,2,none⟩=some (.string ⟨#[]⟩):=(HO5.out.other (b:=P) hPO).at0 2 _ rfl
          have o3':(wc.setCell ⟨P,7,none⟩ (.int .i64 t.at_)).cell? ⟨X + 1 + 1,3,none⟩=some (.int .i64 0):=(HO5.out.other (b:=P) hPO).at0 3 _ rfl
          have fz':∀ o,(wc.setCell ⟨P,7,none⟩ (.int .i64 t.at_)).frozen? ⟨X + 1 + 1,o,none⟩=false:=(HO5.out.other (b:=P) hPO).frz
          have hA6:=HA5.out.1.set 7 (by simp) (.int .i64 t.at_)
          have p6':(wc.setCell ⟨P,7,none⟩ (.int .i64 t.at_)).cell? ⟨P,6,none⟩=some (.int .i64 t.at_):=hA6.at0 6 _ rfl
          have p7':(wc.setCell ⟨P,7,none⟩ (.int .i64 t.at_)).cell? ⟨P,7,none⟩=some (.int .i64 t.at_):=hA6.at0 7 _ rfl
          have p8':(wc.setCell ⟨P,7,none⟩ (.int .i64 t.at_)).cell? ⟨P,8,none⟩=some (.string t.nm):=hA6.at0 8 _ rfl
          have HS:Hid (o0'=o0'):=rfl
          clear HDt hd HWo HWt HRe HI hI hdd hA6 HS
          go_upto_region 13 with fail
          generalize wc.setCell ⟨P,7,none⟩ (.int .i64 t.at_)=w6 at HP6 o0' o1' o2' o3' fz' p6' p7' p8' ⊢
          clear o0 o1 o2 o3 fz p6 p7 p8 fzP HO5 HA5 HB5
          go_region
          all_goals go_wp2
          all_goals refine bodyPost_ret (v:=.agg #[.int .i64 t.at_,.int .i64 t.at_,.string t.nm,.int .i64 0]) (by simp [results,Tryz.results35,go_sem,o0',o1',o2',o3']) rfl ?_
          all_goals exact ⟨by rw [HWo2.out],(by repeat (first | exact HP6.out | refine bl_setT ?_ (by have:=HXw.out; omega) | refine bdW ?_))⟩
end Go.Proofs.YtabfdidnjibdeaaGreatDoor
/- spec.Walk. -/
namespace Go.Proofs.YtabfdidnjibdeaaGreatDoor
open Go.RowKit Go.PlainAid Go.Deep
set_option linter.unusedVariables false
/-- What Walk answers of whatever is handed in. -/
def wkF (l:List Nd) (now u g:Int) (cl:Nat) (r:Bool) (cf:Nat→Int) (s:ByteArray) (fo:Bool):Wo :=
  if 8000 < s.size then woC 2 else if treeB l now && credB u g cl cf then wkO l (ltB l u g cl r cf) fo s else woC 1
def woV (o:Wo):Value:=.agg #[.int .i64 o.n,.int .i64 o.d,.string o.nm,.int .i64 o.c]
end Go.Proofs.YtabfdidnjibdeaaGreatDoor
