/- Laid together: WkI9, ClA. -/
import Derived.Test.YtabfdidnjibdeaaGreatDoorBR38
namespace Go.Proofs.YtabfdidnjibdeaaGreatDoor
open Go.RowKit Go.PlainAid Go.Deep
set_option linter.unusedVariables false
set_option maxRecDepth 20000 in
set_option maxHeartbeats 16000000 in
theorem iWalk_any (a:Option Addr)(len cap:Nat)(l:List Nd)(now:Int)(u g:Int)(ca:Option Addr)(cl cc:Nat)(r:Bool)(cf:Nat→Int)(s:ByteArray)(fo:Bool)(m:Int)(e1 e2 e3 e4:Addr)(hm:len≤9223372036854775807)(hf:∀ i,i<len→NdFit 1048576 (ndAt l i))(hs:s.size≤1048576)(w:World)(hi:Nds a len l w)(hci:Ints ca cl cf w)(hmx:w.cell? ⟨4,0,none⟩=some (.int .i64 m))(hE:Errs w e1 e2 e3 e4) :
    Calls Tryz.prog 13 #[.agg #[.slice a len cap,.int .i64 now],.agg #[.int .i64 u,.int .i64 g,.slice ca cl cc,.bool r],.string s,.bool fo] w fun e w'=>e=.returned (woV (wkF l now u g cl r cf s fo))∧Below w.heap.size w w':=by
  by_cases hok:¬ 8000<s.size∧treeB l now=true∧credB u g cl cf=true
  · obtain ⟨h8, ht, hcr⟩ := hok
    have hll:=hi.1
    have h12:len≤12:=by rw [←hll];exact tree_len ht
    have h1:1≤len:=by rw [←hll];exact tree_one ht
    have hi0:=hi
    obtain ⟨tb,tf,Y,rfl,htb,hc⟩:=hi.2 (by omega)
    have h:=iWalk_ok tb tf len cap l Y now u g ca cl cc r cf s fo m e1 e2 e3 e4 h12 hll ht hcr hf (by omega) w htb hc hi0 hci hmx hE
    have e:wkF l now u g cl r cf s fo=wkO l (ltB l u g cl r cf) fo s:=by rw [wkF,if_neg h8,ht,hcr];rfl
    rw [e]
    exact h
  have HT:Hid (∀ w',Below w.heap.size w w'→Calls Tryz.prog 38 #[.agg #[.slice a len cap,.int .i64 now]] w' fun e w''=>e=.returned (.bool (treeB l now))∧Below w'.heap.size w' w''):=(fun w' hb=>by
    have h:=iTree_any a len cap l now hm hf w' (hi.below hb)
    rw [tree_same] at h
    exact h)
  have HCr:Hid (∀ w',Below w.heap.size w w'→Calls Tryz.prog 39 #[.agg #[.int .i64 u,.int .i64 g,.slice ca cl cc,.bool r]] w' fun e w''=>e=.returned (.bool (credB u g cl cf))∧Below w'.heap.size w' w''):=(fun w' hb=>iCredRight_any u g ca cl cc r cf w' (hci.below hb))
  have HB:Hid (Below w.heap.size w (((w.alloc (.cells #[.slice a len cap,.int .i64 now] 35)).alloc (.cells #[.int .i64 u,.int .i64 g,.slice ca cl cc,.bool r] 37)).alloc (.cells #[.int .i64 0,.int .i64 0,.string ⟨#[]⟩,.int .i64 0] 31))):=(((Below.refl _ _).alloc (Nat.le_refl _) _).alloc (by simp) _).alloc (by simp;omega) _
  have HX:Hid (BoxR (((w.alloc (.cells #[.slice a len cap,.int .i64 now] 35)).alloc (.cells #[.int .i64 u,.int .i64 g,.slice ca cl cc,.bool r] 37)).alloc (.cells #[.int .i64 0,.int .i64 0,.string ⟨#[]⟩,.int .i64 0] 31)) w.heap.size [.slice a len cap,.int .i64 now]):=((boxR_new w [.slice a len cap,.int .i64 now] 35).below (bel_alloc _ _)).below (bel_alloc _ _)
  have HC:Hid (BoxR (((w.alloc (.cells #[.slice a len cap,.int .i64 now] 35)).alloc (.cells #[.int .i64 u,.int .i64 g,.slice ca cl cc,.bool r] 37)).alloc (.cells #[.int .i64 0,.int .i64 0,.string ⟨#[]⟩,.int .i64 0] 31)) (w.heap.size+1) [.int .i64 u,.int .i64 g,.slice ca cl cc,.bool r]):=(by
    have h:=(boxR_new (w.alloc (.cells #[.slice a len cap,.int .i64 now] 35)) [.int .i64 u,.int .i64 g,.slice ca cl cc,.bool r] 37).below (bel_alloc _ (.cells #[.int .i64 0,.int .i64 0,.string ⟨#[]⟩,.int .i64 0] 31))
    simp only [World.size_alloc] at h
    exact h)
  have HO:Hid (BoxW (((w.alloc (.cells #[.slice a len cap,.int .i64 now] 35)).alloc (.cells #[.int .i64 u,.int .i64 g,.slice ca cl cc,.bool r] 37)).alloc (.cells #[.int .i64 0,.int .i64 0,.string ⟨#[]⟩,.int .i64 0] 31)) (w.heap.size+1+1) [.int .i64 0,.int .i64 0,.string ⟨#[]⟩,.int .i64 0]):=(by
    have h:=boxW_new ((w.alloc (.cells #[.slice a len cap,.int .i64 now] 35)).alloc (.cells #[.int .i64 u,.int .i64 g,.slice ca cl cc,.bool r] 37)) [.int .i64 0,.int .i64 0,.string ⟨#[]⟩,.int .i64 0] 31
    simp only [World.size_alloc] at h
    exact h)
  have HW:Hid (wkF l now u g cl r cf s fo=if 8000<s.size then woC 2 else if treeB l now&&credB u g cl cf then wkO l (ltB l u g cl r cf) fo s else woC 1):=rfl
  clear hi hci hf hmx hE
  generalize wkF l now u g cl r cf s fo=F at HW ⊢
  generalize wkO l (ltB l u g cl r cf) fo s=O at HW
  go_enter Tryz.func13,Tryz.ntmps13
  go_upto_region 1 with fail
  generalize (((w.alloc (.cells #[.slice a len cap,.int .i64 now] 35)).alloc (.cells #[.int .i64 u,.int .i64 g,.slice ca cl cc,.bool r] 37)).alloc (.cells #[.int .i64 0,.int .i64 0,.string ⟨#[]⟩,.int .i64 0] 31))=w0 at HB HX HC HO ⊢
  obtain ⟨X,hX⟩:∃ X,X=w.heap.size:=⟨_,rfl⟩
  have HXw:Hid (X=w.heap.size):=hX
  rw [←hX] at HX HC HO ⊢
  clear hX
  have t0:w0.cell? ⟨X,0,none⟩=some (.slice a len cap):=HX.out.at0 0 _ rfl
  have t1:w0.cell? ⟨X,1,none⟩=some (.int .i64 now):=HX.out.at0 1 _ rfl
  have c0:w0.cell? ⟨X+1,0,none⟩=some (.int .i64 u):=HC.out.at0 0 _ rfl
  have c1:w0.cell? ⟨X+1,1,none⟩=some (.int .i64 g):=HC.out.at0 1 _ rfl
  have c2:w0.cell? ⟨X+1,2,none⟩=some (.slice ca cl cc):=HC.out.at0 2 _ rfl
  have c3:w0.cell? ⟨X+1,3,none⟩=some (.bool r):=HC.out.at0 3 _ rfl
  have o0:w0.cell? ⟨X+1+1,0,none⟩=some (.int .i64 0):=HO.out.at0 0 _ rfl
  have o1:w0.cell? ⟨X+1+1,1,none⟩=some (.int .i64 0):=HO.out.at0 1 _ rfl
  have o2:w0.cell? ⟨X+1+1,2,none⟩=some (.string ⟨#[]⟩):=HO.out.at0 2 _ rfl
  have o3:w0.cell? ⟨X+1+1,3,none⟩=some (.int .i64 0):=HO.out.at0 3 _ rfl
  have fz:∀ o,w0.frozen? ⟨X+1+1,o,none⟩=false:=HO.out.frz
  by_cases h8:8000<s.size
  · have HF : Hid (F = woC 2) := (by show _ = _; rw [HW.out, if_pos h8])
    have h8':(8000:Int)<(s.size:Int):=by omega
    go_wp2
    refine bodyPost_ret (v:=.agg #[.int .i64 0,.int .i64 0,.string ⟨#[]⟩,.int .i64 2]) (by simp [results,Tryz.results13,go_sem,o0,o1,o2,o3]) rfl ?_
    exact ⟨by rw [HF.out];rfl,(by repeat (first | exact HB.out | refine bl_setT ?_ (by have:=HXw.out;omega)))⟩
  have h8':¬ (8000:Int)<(s.size:Int):=by omega
  rw [if_neg h8] at HW
  cases ht:treeB l now
  · have HF : Hid (F = woC 1) := (by show _ = _; rw [HW.out, ht]; rfl)
    rw [ht] at HT
    clear HW h8 hok
    go_wp2_with (go_at_call 38;refine (HT.out _ HB.out).mono ?_;rintro e w1 ⟨rfl,hb⟩;replace HB:Hid (Below w.heap.size w w1):=Below.on HB.out hb;replace HX:Hid (BoxR w1 X [.slice a len cap,.int .i64 now]):=HX.out.below hb;replace HC:Hid (BoxR w1 (X+1) [.int .i64 u,.int .i64 g,.slice ca cl cc,.bool r]):=HC.out.below hb;replace HO:Hid (BoxW w1 (X+1+1) [.int .i64 0,.int .i64 0,.string ⟨#[]⟩,.int .i64 0]):=HO.out.below hb;clear hb;replace t0:w1.cell? ⟨X,0,none⟩=some (.slice a len cap):=HX.out.at0 0 _ rfl;replace t1:w1.cell? ⟨X,1,none⟩=some (.int .i64 now):=HX.out.at0 1 _ rfl;replace c0:w1.cell? ⟨X+1,0,none⟩=some (.int .i64 u):=HC.out.at0 0 _ rfl;replace c1:w1.cell? ⟨X+1,1,none⟩=some (.int .i64 g):=HC.out.at0 1 _ rfl;replace c2:w1.cell? ⟨X+1,2,none⟩=some (.slice ca cl cc):=HC.out.at0 2 _ rfl;replace c3:w1.cell? ⟨X+1,3,none⟩=some (.bool r):=HC.out.at0 3 _ rfl;replace o0:w1.cell? ⟨X+1+1,0,none⟩=some (.int .i64 0):=HO.out.at0 0 _ rfl;replace o1:w1.cell? ⟨X+1+1,1,none⟩=some (.int .i64 0):=HO.out.at0 1 _ rfl;replace o2:w1.cell? ⟨X+1+1,2,none⟩=some (.string ⟨#[]⟩):=HO.out.at0 2 _ rfl;replace o3:w1.cell? ⟨X+1+1,3,none⟩=some (.int .i64 0):=HO.out.at0 3 _ rfl;replace fz:∀ o,w1.frozen? ⟨X+1+1,o,none⟩=false:=HO.out.frz)
    refine bodyPost_ret (v:=.agg #[.int .i64 0,.int .i64 0,.string ⟨#[]⟩,.int .i64 1]) (by simp [results,Tryz.results13,go_sem,o0,o1,o2,o3]) rfl ?_
    exact ⟨by rw [HF.out];rfl,(by repeat (first | exact HB.out | refine bl_setT ?_ (by have:=HXw.out;omega)))⟩
  cases hcr:credB u g cl cf
  · have HF : Hid (F = woC 1) := (by show _ = _; rw [HW.out, ht, hcr]; rfl)
    rw [ht] at HT
    rw [hcr] at HCr
    clear HW h8 hok
    go_wp2_with (first
      | (go_at_call 38;refine (HT.out _ HB.out).mono ?_;rintro e w1 ⟨rfl,hb⟩;replace HB:Hid (Below w.heap.size w w1):=Below.on HB.out hb;replace HX:Hid (BoxR w1 X [.slice a len cap,.int .i64 now]):=HX.out.below hb;replace HC:Hid (BoxR w1 (X+1) [.int .i64 u,.int .i64 g,.slice ca cl cc,.bool r]):=HC.out.below hb;replace HO:Hid (BoxW w1 (X+1+1) [.int .i64 0,.int .i64 0,.string ⟨#[]⟩,.int .i64 0]):=HO.out.below hb;clear hb;replace t0:w1.cell? ⟨X,0,none⟩=some (.slice a len cap):=HX.out.at0 0 _ rfl;replace t1:w1.cell? ⟨X,1,none⟩=some (.int .i64 now):=HX.out.at0 1 _ rfl;replace c0:w1.cell? ⟨X+1,0,none⟩=some (.int .i64 u):=HC.out.at0 0 _ rfl;replace c1:w1.cell? ⟨X+1,1,none⟩=some (.int .i64 g):=HC.out.at0 1 _ rfl;replace c2:w1.cell? ⟨X+1,2,none⟩=some (.slice ca cl cc):=HC.out.at0 2 _ rfl;replace c3:w1.cell? ⟨X+1,3,none⟩=some (.bool r):=HC.out.at0 3 _ rfl;replace o0:w1.cell? ⟨X+1+1,0,none⟩=some (.int .i64 0):=HO.out.at0 0 _ rfl;replace o1:w1.cell? ⟨X+1+1,1,none⟩=some (.int .i64 0):=HO.out.at0 1 _ rfl;replace o2:w1.cell? ⟨X+1+1,2,none⟩=some (.string ⟨#[]⟩):=HO.out.at0 2 _ rfl;replace o3:w1.cell? ⟨X+1+1,3,none⟩=some (.int .i64 0):=HO.out.at0 3 _ rfl;replace fz:∀ o,w1.frozen? ⟨X+1+1,o,none⟩=false:=HO.out.frz)
      | (go_at_call 39;refine (HCr.out _ HB.out).mono ?_;rintro e w1 ⟨rfl,hb⟩;replace HB:Hid (Below w.heap.size w w1):=Below.on HB.out hb;replace HX:Hid (BoxR w1 X [.slice a len cap,.int .i64 now]):=HX.out.below hb;replace HC:Hid (BoxR w1 (X+1) [.int .i64 u,.int .i64 g,.slice ca cl cc,.bool r]):=HC.out.below hb;replace HO:Hid (BoxW w1 (X+1+1) [.int .i64 0,.int .i64 0,.string ⟨#[]⟩,.int .i64 0]):=HO.out.below hb;clear hb;replace t0:w1.cell? ⟨X,0,none⟩=some (.slice a len cap):=HX.out.at0 0 _ rfl;replace t1:w1.cell? ⟨X,1,none⟩=some (.int .i64 now):=HX.out.at0 1 _ rfl;replace c0:w1.cell? ⟨X+1,0,none⟩=some (.int .i64 u):=HC.out.at0 0 _ rfl;replace c1:w1.cell? ⟨X+1,1,none⟩=some (.int .i64 g):=HC.out.at0 1 _ rfl;replace c2:w1.cell? ⟨X+1,2,none⟩=some (.slice ca cl cc):=HC.out.at0 2 _ rfl;replace c3:w1.cell? ⟨X+1,3,none⟩=some (.bool r):=HC.out.at0 3 _ rfl;replace o0:w1.cell? ⟨X+1+1,0,none⟩=some (.int .i64 0):=HO.out.at0 0 _ rfl;replace o1:w1.cell? ⟨X+1+1,1,none⟩=some (.int .i64 0):=HO.out.at0 1 _ rfl;replace o2:w1.cell? ⟨X+1+1,2,none⟩=some (.string ⟨#[]⟩):=HO.out.at0 2 _ rfl;replace o3:w1.cell? ⟨X+1+1,3,none⟩=some (.int .i64 0):=HO.out.at0 3 _ rfl;replace fz:∀ o,w1.frozen? ⟨X+1+1,o,none⟩=false:=HO.out.frz))
    refine bodyPost_ret (v:=.agg #[.int .i64 0,.int .i64 0,.string ⟨#[]⟩,.int .i64 1]) (by simp [results,Tryz.results13,go_sem,o0,o1,o2,o3]) rfl ?_
    exact ⟨by rw [HF.out];rfl,(by repeat (first | exact HB.out | refine bl_setT ?_ (by have:=HXw.out;omega)))⟩
  exact absurd ⟨h8,ht,hcr⟩ hok
theorem isTooLong_any (s:ByteArray)(w:World) :
    Calls Tryz.prog 94 #[.string s] w fun e w'=>e=.returned (.bool (decide (8000<s.size)))∧w'=w:=by
  by_cases h8:8000<s.size
  · have h8' : (8000 : Int) < (s.size : Int) := by omega
    have e:decide (8000<s.size)=true:=by simp [h8]
    rw [e]
    go_enter Tryz.func94,Tryz.ntmps94
    go_wp2
    go_ret
    exact ⟨rfl,rfl⟩
  · have h8' : ¬ (8000 : Int) < (s.size : Int) := by omega
    have e:decide (8000<s.size)=false:=by simp [h8]
    rw [e]
    go_enter Tryz.func94,Tryz.ntmps94
    go_wp2
    go_ret
    exact ⟨rfl,rfl⟩
theorem idxF1_any (B cap:Nat)(s:ByteArray)(w:World)(hc:w.cell? ⟨B,0,none⟩=some (.string s)) :
    Calls Tryz.prog 125 #[.slice (some ⟨B,0,none⟩) 1 cap,.func (.func 94) #[] #[]] w fun e w'=>e=.returned (.int .i64 (if 8000<s.size then 0 else -1))∧w'=w:=by
  have HC:Hid (w.cell? ⟨B,0,none⟩=some (.string s)):=hc
  have HL:Hid (∀ w,Calls Tryz.prog 94 #[.string s] w fun e w'=>e=.returned (.bool (decide (8000<s.size)))∧w'=w):=(fun w=>isTooLong_any s w)
  by_cases h8:8000<s.size
  · have e : decide (8000 < s.size) = true := by simp [h8]
    rw [if_pos h8]
    rw [e] at HL
    clear h8 e
    go_enter Tryz.func125,Tryz.ntmps125
    go_wp2
    refine wp_loop_rounds 1 ?_
    rw [rounds_succ]
    go_wp2_with fail
    refine (HL.out _).mono ?_
    rintro e w1 ⟨rfl,hw⟩
    subst hw
    go_wp2
    go_ret
    exact ⟨rfl,rfl⟩
  · have e : decide (8000 < s.size) = false := by simp [h8]
    rw [if_neg h8]
    rw [e] at HL
    clear h8 e
    go_enter Tryz.func125,Tryz.ntmps125
    go_wp2
    refine wp_loop_rounds 2 ?_
    rw [rounds_succ]
    go_wp2_with fail
    refine (HL.out _).mono ?_
    rintro e w1 ⟨rfl,hw⟩
    subst hw
    go_wp2
    rw [rounds_succ]
    go_wp2
    go_ret
    exact ⟨rfl,rfl⟩
theorem contF1_any (B cap:Nat)(s:ByteArray)(w:World)(hc:w.cell? ⟨B,0,none⟩=some (.string s)) :
    Calls Tryz.prog 78 #[.slice (some ⟨B,0,none⟩) 1 cap,.func (.func 94) #[] #[]] w fun e w'=>e=.returned (.bool (decide (8000<s.size)))∧w'=w:=by
  have HI:=idxF1_any B cap s w hc
  by_cases h8:8000<s.size
  · have e : decide (8000 < s.size) = true := by simp [h8]
    rw [if_pos h8] at HI
    rw [e]
    have HI:Hid (Calls Tryz.prog 125 #[.slice (some ⟨B,0,none⟩) 1 cap,.func (.func 94) #[] #[]] w fun e w'=>e=.returned (.int .i64 0)∧w'=w):=HI
    clear h8 e hc
    go_enter Tryz.func78,Tryz.ntmps78
    go_wp2_with fail
    refine HI.out.mono ?_
    rintro e w1 ⟨rfl,hw⟩
    subst hw
    go_wp2
    go_ret
    exact ⟨rfl,rfl⟩
  · have e : decide (8000 < s.size) = false := by simp [h8]
    rw [if_neg h8] at HI
    rw [e]
    have HI:Hid (Calls Tryz.prog 125 #[.slice (some ⟨B,0,none⟩) 1 cap,.func (.func 94) #[] #[]] w fun e w'=>e=.returned (.int .i64 (-1))∧w'=w):=HI
    clear h8 e hc
    go_enter Tryz.func78,Tryz.ntmps78
    go_wp2_with fail
    refine HI.out.mono ?_
    rintro e w1 ⟨rfl,hw⟩
    subst hw
    go_wp2
    go_ret
    exact ⟨rfl,rfl⟩
section
variable {P:Program} {t asserted:TypeId} {fs:Array Field}
theorem run_tA_no (hu:P.underlying asserted=some (.struct fs))(hz:((P.info? asserted).bind (·.zero)).isSome=true)(hne:t≠asserted) :
    ∃ z,∀ (v:Value) (xT:TypeId) (w:World),(Instr.typeAssert (.iface t v) xT asserted true).run P w=.ok (.tuple #[z,.bool false]) w:=by
  obtain ⟨z,hz⟩:=Option.isSome_iff_exists.1 hz
  obtain ⟨j,hj,hz⟩:=Option.bind_eq_some_iff.1 hz
  exact ⟨z,fun v xT w=>by simp [Instr.typeAssert,run_underlying hu,hne,zeroValue,typeInfo,hj,hz]⟩
theorem run_tA_yes (hu:P.underlying t=some (.struct fs))(v:Value)(xT:TypeId)(w:World):(Instr.typeAssert (.iface t v) xT t true).run P w=.ok (.tuple #[v,.bool true]) w:=by
  simp [Instr.typeAssert,run_underlying hu]
end
set_option maxHeartbeats 4000000 in
theorem iTexts1_any (s:ByteArray)(w:World) :
    Calls Tryz.prog 267 #[.agg #[.string s]] w fun e w'=>∃ B,e=.returned (.slice (some ⟨B,0,none⟩) 1 1)∧w'.cell? ⟨B,0,none⟩=some (.string s)∧Below w.heap.size w w':=by
  have HB:Hid (Below w.heap.size w ((w.alloc (.cells #[.string s] 96)).alloc (.cells #[.string s] 9))):=bl2T _ _ _
  have HN:Hid (((w.alloc (.cells #[.string s] 96)).alloc (.cells #[.string s] 9)).cell? ⟨w.heap.size+1,0,none⟩=some (.string s)):=(by
    have h:=(boxR_new (w.alloc (.cells #[.string s] 96)) [.string s] 9).at0 0 _ rfl
    simp only [World.size_alloc] at h
    exact h)
  go_enter Tryz.func267,Tryz.ntmps267
  go_wp2
  go_ret
  exact ⟨_,rfl,HN.out,HB.out⟩
def wayN (F:Wo):Wo:=if F.c=0∧F.n=0 then woC 6 else F
theorem wayN_there (l:List Nd)(now u g:Int)(cl:Nat)(r:Bool)(cf:Nat→Int)(s:ByteArray)(fo:Bool):(wayN (wkF l now u g cl r cf s fo)).c≠0∨((wayN (wkF l now u g cl r cf s fo)).c=0∧treeB l now=true∧credB u g cl cf=true∧thB l (wayN (wkF l now u g cl r cf s fo)).n=true):=by
  by_cases h:(wkF l now u g cl r cf s fo).c=0∧(wkF l now u g cl r cf s fo).n=0
  · rw [wayN,if_pos h];exact .inl (by decide)
  · rw [wayN, if_neg h]
    by_cases hc:(wkF l now u g cl r cf s fo).c=0
    · rcases wkF_there l now u g cl r cf s fo with e | e
      · exact absurd ⟨hc,e⟩ h
      · exact .inr e
    · exact .inl hc
set_option maxRecDepth 20000 in
set_option maxHeartbeats 8000000 in
theorem iWayN_any (a:Option Addr)(len cap:Nat)(l:List Nd)(now:Int)(u g:Int)(ca:Option Addr)(cl cc:Nat)(r:Bool)(cf:Nat→Int)(s:ByteArray)(fo:Bool)(m:Int)(e1 e2 e3 e4:Addr)(hm:len≤9223372036854775807)(hf:∀ i,i<len→NdFit 1048576 (ndAt l i))(hs:s.size≤1048576)(w:World)(hi:Nds a len l w)(hci:Ints ca cl cf w)(hmx:w.cell? ⟨4,0,none⟩=some (.int .i64 m))(hE:Errs w e1 e2 e3 e4) :
    Calls Tryz.prog 186 #[.agg #[.slice a len cap,.int .i64 now],.agg #[.int .i64 u,.int .i64 g,.slice ca cl cc,.bool r],.string s,.bool fo] w fun e w'=>e=.returned (woV (wayN (wkF l now u g cl r cf s fo)))∧Below w.heap.size w w':=by
  have HWk:Hid (∀ w',Below w.heap.size w w'→Calls Tryz.prog 13 #[.agg #[.slice a len cap,.int .i64 now],.agg #[.int .i64 u,.int .i64 g,.slice ca cl cc,.bool r],.string s,.bool fo] w' fun e w''=>e=.returned (woV (wkF l now u g cl r cf s fo))∧Below w'.heap.size w' w''):=(fun w' hb=>iWalk_any a len cap l now u g ca cl cc r cf s fo m e1 e2 e3 e4 hm hf hs w' (hi.below hb) (hci.below hb) ((hb.cell (p:=⟨_,0,none⟩) (block_lt_of_cell hmx)).trans hmx) (hE.below hb))
  generalize wkF l now u g cl r cf s fo=F at HWk ⊢
  have HWq:Hid (∀ w',Below w.heap.size w w'→Calls Tryz.prog 13 #[.agg #[.slice a len cap,.int .i64 now],.agg #[.int .i64 u,.int .i64 g,.slice ca cl cc,.bool r],.string s,.bool fo] w' fun e w''=>e=.returned (.agg #[.int .i64 F.n,.int .i64 F.d,.string F.nm,.int .i64 F.c])∧Below w'.heap.size w' w''):=HWk
  have HE1:Hid (F.c=0→F.n=0→wayN F=woC 6):=(fun h1 h2=>by rw [wayN,if_pos ⟨h1,h2⟩])
  have HE2:Hid (¬ (F.c=0∧F.n=0)→wayN F=F):=(fun h=>by rw [wayN,if_neg h])
  clear HWk hi hci hf hmx hE
  have HB:Hid (Below w.heap.size w (((w.alloc (.cells #[.slice a len cap,.int .i64 now] 35)).alloc (.cells #[.int .i64 u,.int .i64 g,.slice ca cl cc,.bool r] 37)).alloc (.cells #[.int .i64 0,.int .i64 0,.string ⟨#[]⟩,.int .i64 0] 31))):=(Below.on (Below.on (Below.on (Below.refl _ _) (bel_alloc _ _)) (bel_alloc _ _)) (bel_alloc _ _))
  have HX:Hid (BoxR (((w.alloc (.cells #[.slice a len cap,.int .i64 now] 35)).alloc (.cells #[.int .i64 u,.int .i64 g,.slice ca cl cc,.bool r] 37)).alloc (.cells #[.int .i64 0,.int .i64 0,.string ⟨#[]⟩,.int .i64 0] 31)) (w.heap.size) [.slice a len cap,.int .i64 now]):=(by
    have h:=(((boxR_new w [.slice a len cap,.int .i64 now] 35).below (bel_alloc (w.alloc (.cells #[.slice a len cap,.int .i64 now] 35)) (.cells #[.int .i64 u,.int .i64 g,.slice ca cl cc,.bool r] 37))).below (bel_alloc ((w.alloc (.cells #[.slice a len cap,.int .i64 now] 35)).alloc (.cells #[.int .i64 u,.int .i64 g,.slice ca cl cc,.bool r] 37)) (.cells #[.int .i64 0,.int .i64 0,.string ⟨#[]⟩,.int .i64 0] 31)))
    exact h)
  have HC:Hid (BoxR (((w.alloc (.cells #[.slice a len cap,.int .i64 now] 35)).alloc (.cells #[.int .i64 u,.int .i64 g,.slice ca cl cc,.bool r] 37)).alloc (.cells #[.int .i64 0,.int .i64 0,.string ⟨#[]⟩,.int .i64 0] 31)) (w.heap.size+1) [.int .i64 u,.int .i64 g,.slice ca cl cc,.bool r]):=(by
    have h:=((boxR_new (w.alloc (.cells #[.slice a len cap,.int .i64 now] 35)) [.int .i64 u,.int .i64 g,.slice ca cl cc,.bool r] 37).below (bel_alloc ((w.alloc (.cells #[.slice a len cap,.int .i64 now] 35)).alloc (.cells #[.int .i64 u,.int .i64 g,.slice ca cl cc,.bool r] 37)) (.cells #[.int .i64 0,.int .i64 0,.string ⟨#[]⟩,.int .i64 0] 31)))
    simp only [World.size_alloc] at h
    exact h)
  have HO:Hid (BoxW (((w.alloc (.cells #[.slice a len cap,.int .i64 now] 35)).alloc (.cells #[.int .i64 u,.int .i64 g,.slice ca cl cc,.bool r] 37)).alloc (.cells #[.int .i64 0,.int .i64 0,.string ⟨#[]⟩,.int .i64 0] 31)) (w.heap.size+1+1) [.int .i64 0,.int .i64 0,.string ⟨#[]⟩,.int .i64 0]):=(by
    have h:=(boxW_new ((w.alloc (.cells #[.slice a len cap,.int .i64 now] 35)).alloc (.cells #[.int .i64 u,.int .i64 g,.slice ca cl cc,.bool r] 37)) [.int .i64 0,.int .i64 0,.string ⟨#[]⟩,.int .i64 0] 31)
    simp only [World.size_alloc] at h
    exact h)
  go_enter Tryz.func186,Tryz.ntmps186
  go_upto_region 1 with fail
  generalize (((w.alloc (.cells #[.slice a len cap,.int .i64 now] 35)).alloc (.cells #[.int .i64 u,.int .i64 g,.slice ca cl cc,.bool r] 37)).alloc (.cells #[.int .i64 0,.int .i64 0,.string ⟨#[]⟩,.int .i64 0] 31))=w0 at HB HX HC HO ⊢
  obtain ⟨X,hX⟩:∃ X,X=w.heap.size:=⟨_,rfl⟩
  have HXw:Hid (X=w.heap.size):=hX
  rw [←hX] at HX HC HO ⊢
  clear hX
  have t0:w0.cell? ⟨X,0,none⟩=some (.slice a len cap):=HX.out.at0 0 _ rfl
  have t1:w0.cell? ⟨X,1,none⟩=some (.int .i64 now):=HX.out.at0 1 _ rfl
  have c0:w0.cell? ⟨X+1,0,none⟩=some (.int .i64 u):=HC.out.at0 0 _ rfl
  have c1:w0.cell? ⟨X+1,1,none⟩=some (.int .i64 g):=HC.out.at0 1 _ rfl
  have c2:w0.cell? ⟨X+1,2,none⟩=some (.slice ca cl cc):=HC.out.at0 2 _ rfl
  have c3:w0.cell? ⟨X+1,3,none⟩=some (.bool r):=HC.out.at0 3 _ rfl
  go_wp2_with fail
  refine (HWq.out _ HB.out).mono ?_
  rintro e w1 ⟨rfl,hb⟩
  replace HB:Hid (Below w.heap.size w w1):=Below.on HB.out hb
  replace HX:Hid (BoxR w1 (X) [.slice a len cap,.int .i64 now]):=HX.out.below hb
  replace HC:Hid (BoxR w1 (X+1) [.int .i64 u,.int .i64 g,.slice ca cl cc,.bool r]):=HC.out.below hb
  replace HO:Hid (BoxW w1 (X+1+1) [.int .i64 0,.int .i64 0,.string ⟨#[]⟩,.int .i64 0]):=HO.out.below hb
  have hbN:Below w1.heap.size w1 (w1.alloc (.cells #[.int .i64 F.n,.int .i64 F.d,.string F.nm,.int .i64 F.c] 31)):=bel_alloc _ _
  have HZ:Hid (BoxR (w1.alloc (.cells #[.int .i64 F.n,.int .i64 F.d,.string F.nm,.int .i64 F.c] 31)) w1.heap.size [.int .i64 F.n,.int .i64 F.d,.string F.nm,.int .i64 F.c]):=boxR_new _ _ _
  replace HB:Hid (Below w.heap.size w (w1.alloc (.cells #[.int .i64 F.n,.int .i64 F.d,.string F.nm,.int .i64 F.c] 31))):=Below.on HB.out hbN
  replace HX:Hid (BoxR (w1.alloc (.cells #[.int .i64 F.n,.int .i64 F.d,.string F.nm,.int .i64 F.c] 31)) (X) [.slice a len cap,.int .i64 now]):=HX.out.below hbN
  replace HC:Hid (BoxR (w1.alloc (.cells #[.int .i64 F.n,.int .i64 F.d,.string F.nm,.int .i64 F.c] 31)) (X+1) [.int .i64 u,.int .i64 g,.slice ca cl cc,.bool r]):=HC.out.below hbN
  replace HO:Hid (BoxW (w1.alloc (.cells #[.int .i64 F.n,.int .i64 F.d,.string F.nm,.int .i64 F.c] 31)) (X+1+1) [.int .i64 0,.int .i64 0,.string ⟨#[]⟩,.int .i64 0]):=HO.out.below hbN
  clear hb hbN t0 t1 c0 c1 c2 c3 HWq
  go_upto_region 2 with fail
  generalize (w1.alloc (.cells #[.int .i64 F.n,.int .i64 F.d,.string F.nm,.int .i64 F.c] 31))=w3 at HB HX HC HO HZ ⊢
  generalize w1.heap.size=Z at HZ ⊢
  clear w0
  generalize w3=w0 at HB HX HC HO HZ ⊢
  have o0:w0.cell? ⟨X+1+1,0,none⟩=some (.int .i64 0):=HO.out.at0 0 _ rfl
  have o1:w0.cell? ⟨X+1+1,1,none⟩=some (.int .i64 0):=HO.out.at0 1 _ rfl
  have o2:w0.cell? ⟨X+1+1,2,none⟩=some (.string ⟨#[]⟩):=HO.out.at0 2 _ rfl
  have o3:w0.cell? ⟨X+1+1,3,none⟩=some (.int .i64 0):=HO.out.at0 3 _ rfl
  have fz:∀ o,w0.frozen? ⟨X+1+1,o,none⟩=false:=HO.out.frz
  have z0:w0.cell? ⟨Z,0,none⟩=some (.int .i64 F.n):=HZ.out.at0 0 _ rfl
  have z1:w0.cell? ⟨Z,1,none⟩=some (.int .i64 F.d):=HZ.out.at0 1 _ rfl
  have z2:w0.cell? ⟨Z,2,none⟩=some (.string F.nm):=HZ.out.at0 2 _ rfl
  have z3:w0.cell? ⟨Z,3,none⟩=some (.int .i64 F.c):=HZ.out.at0 3 _ rfl
  by_cases hc:F.c=0
  · have hc' : (F.c == 0) = true := by rw [hc]; rfl
    by_cases hn:F.n=0
    · have hn' : (F.n == 0) = true := by rw [hn]; rfl
      have HE:Hid (wayN F=woC 6):=HE1.out hc hn
      clear HE1 HE2 hc hn
      go_wp2
      refine bodyPost_ret (v:=.agg #[.int .i64 0,.int .i64 0,.string ⟨#[]⟩,.int .i64 6]) (by simp [results,Tryz.results186,go_sem,o0,o1,o2,o3]) rfl ?_
      exact ⟨by rw [HE.out];rfl,(by repeat (first | exact HB.out | refine bl_setT ?_ (by have:=HXw.out;omega)))⟩
    · have hn' : (F.n == 0) = false := by simpa using hn
      have HE:Hid (wayN F=F):=HE2.out (fun h=>hn h.2)
      clear HE1 HE2 hc hn
      go_wp2
      refine bodyPost_ret (v:=.agg #[.int .i64 F.n,.int .i64 F.d,.string F.nm,.int .i64 F.c]) (by simp [results,Tryz.results186,go_sem,o0,o1,o2,o3]) rfl ?_
      exact ⟨by rw [HE.out];rfl,(by repeat (first | exact HB.out | refine bl_setT ?_ (by have:=HXw.out;omega)))⟩
  · have hc' : (F.c == 0) = false := by simpa using hc
    have HE:Hid (wayN F=F):=HE2.out (fun h=>hc h.1)
    clear HE1 HE2 hc
    go_wp2
    refine bodyPost_ret (v:=.agg #[.int .i64 F.n,.int .i64 F.d,.string F.nm,.int .i64 F.c]) (by simp [results,Tryz.results186,go_sem,o0,o1,o2,o3]) rfl ?_
    exact ⟨by rw [HE.out];rfl,(by repeat (first | exact HB.out | refine bl_setT ?_ (by have:=HXw.out;omega)))⟩
end Go.Proofs.YtabfdidnjibdeaaGreatDoor
