/- Laid together: StI, StP, StW. -/
import Derived.Test.YtabfdidnjibdeaaGreatDoorBT43
import Derived.Test.YtabfdidnjibdeaaGreatDoorBT23
import Derived.Laws.EntriesVeiled
import Derived.Deep.RegionHeld3
/- impl.Stat. -/
namespace Go.Proofs.YtabfdidnjibdeaaGreatDoor
open Go.RowKit Go.PlainAid Go.Deep
set_option linter.unusedVariables false
/-- What Stat answers. -/
structure So where
  n:Int
  k:Int
  mo:Int
  ow:Int
  gr:Int
  li:Int
  c:Int
def soV (R:So):Value:=.agg #[.int .i64 R.n,.int .i64 R.k,.int .i64 R.mo,.int .i64 R.ow,.int .i64 R.gr,.int .i64 R.li,.int .i64 R.c]
def stN (l:List Nd) (F:Wo):So:=if F.c=0 then ⟨F.n,(ndAt l (F.n - 1).toNat).k,(ndAt l (F.n - 1).toNat).mode,(ndAt l (F.n - 1).toNat).ow,(ndAt l (F.n - 1).toNat).gr,(ndAt l (F.n - 1).toNat).li,0⟩ else ⟨0,0,0,0,0,0,F.c⟩
def stF (l:List Nd) (now u g:Int) (cl:Nat) (r:Bool) (cf:Nat→Int) (s:ByteArray) (fo:Bool):So:=stN l (wayN (wkF l now u g cl r cf s fo))
theorem way_long {l:List Nd} {now u g:Int} {cl:Nat} {r:Bool} {cf:Nat→Int} {s:ByteArray} {fo:Bool} (h:8000 < s.size):wayN (wkF l now u g cl r cf s fo)=woC 2:=by
  rw [wkF,if_pos h,wayN,if_neg (by simp [woC])]
set_option maxRecDepth 20000 in
set_option maxHeartbeats 8000000 in
theorem iAskS_any (a:Option Addr) (len cap:Nat) (l:List Nd) (now:Int) (u g:Int) (ca:Option Addr) (cl cc:Nat) (r:Bool) (cf:Nat→Int) (s:ByteArray) (fo:Bool) (m:Int) (e1 e2 e3 e4:Addr) (hm:len≤9223372036854775807) (hf:∀ i,i < len→NdFit 1048576 (ndAt l i)) (hs:s.size≤1048576) (w:World) (hi:Nds a len l w) (hci:Ints ca cl cf w) (hmx:w.cell? ⟨4,0,none⟩=some (.int .i64 m)) (hE:Errs w e1 e2 e3 e4) :
    Calls Tryz.prog 150 #[.agg #[.slice a len cap,.int .i64 now],.agg #[.int .i64 u,.int .i64 g,.slice ca cl cc,.bool r],.agg #[.string s,.bool fo]] w fun e w' => e=.returned (.agg #[.int .i64 ((wayN (wkF l now u g cl r cf s fo)).c),.int .i64 ((wayN (wkF l now u g cl r cf s fo)).n),.nilFunc,.slice none 0 0,.string ⟨#[]⟩])∧Below w.heap.size w w':=by
  have HWk:Hid (∀ w',Below w.heap.size w w'→Calls Tryz.prog 186 #[.agg #[.slice a len cap,.int .i64 now],.agg #[.int .i64 u,.int .i64 g,.slice ca cl cc,.bool r],.string s,.bool fo] w' fun e w'' => e=.returned (woV (wayN (wkF l now u g cl r cf s fo)))∧Below w'.heap.size w' w''):=(fun w' hb => iWayN_any a len cap l now u g ca cl cc r cf s fo m e1 e2 e3 e4 hm hf hs w' (hi.below hb) (hci.below hb) ((hb.cell (p:=⟨_,0,none⟩) (block_lt_of_cell hmx)).trans hmx) (hE.below hb))
  generalize wayN (wkF l now u g cl r cf s fo)=F at HWk ⊢
  have HWq:Hid (∀ w',Below w.heap.size w w'→Calls Tryz.prog 186 #[.agg #[.slice a len cap,.int .i64 now],.agg #[.int .i64 u,.int .i64 g,.slice ca cl cc,.bool r],.string s,.bool fo] w' fun e w'' => e=.returned (.agg #[.int .i64 F.n,.int .i64 F.d,.string F.nm,.int .i64 F.c])∧Below w'.heap.size w' w''):=HWk
  clear HWk hi hci hf hmx hE
  have HB:Hid (Below w.heap.size w ((((w.alloc (.cells #[.slice a len cap,.int .i64 now] 35)).alloc (.cells #[.int .i64 u,.int .i64 g,.slice ca cl cc,.bool r] 37)).alloc (.cells #[.string s,.bool fo] 101)).alloc (.cells #[.int .i64 0,.int .i64 0,.nilFunc,.slice none 0 0,.string ⟨#[]⟩] 93))):=(Below.on (Below.on (Below.on (Below.on (Below.refl _ _) (bel_alloc _ _)) (bel_alloc _ _)) (bel_alloc _ _)) (bel_alloc _ _))
  have HX:Hid (BoxR ((((w.alloc (.cells #[.slice a len cap,.int .i64 now] 35)).alloc (.cells #[.int .i64 u,.int .i64 g,.slice ca cl cc,.bool r] 37)).alloc (.cells #[.string s,.bool fo] 101)).alloc (.cells #[.int .i64 0,.int .i64 0,.nilFunc,.slice none 0 0,.string ⟨#[]⟩] 93)) (w.heap.size) [.slice a len cap,.int .i64 now]):=(by
    have h:=((((boxR_new w [.slice a len cap,.int .i64 now] 35).below (bel_alloc (w.alloc (.cells #[.slice a len cap,.int .i64 now] 35)) (.cells #[.int .i64 u,.int .i64 g,.slice ca cl cc,.bool r] 37))).below (bel_alloc ((w.alloc (.cells #[.slice a len cap,.int .i64 now] 35)).alloc (.cells #[.int .i64 u,.int .i64 g,.slice ca cl cc,.bool r] 37)) (.cells #[.string s,.bool fo] 101))).below (bel_alloc (((w.alloc (.cells #[.slice a len cap,.int .i64 now] 35)).alloc (.cells #[.int .i64 u,.int .i64 g,.slice ca cl cc,.bool r] 37)).alloc (.cells #[.string s,.bool fo] 101)) (.cells #[.int .i64 0,.int .i64 0,.nilFunc,.slice none 0 0,.string ⟨#[]⟩] 93)))
    exact h)
  have HC:Hid (BoxR ((((w.alloc (.cells #[.slice a len cap,.int .i64 now] 35)).alloc (.cells #[.int .i64 u,.int .i64 g,.slice ca cl cc,.bool r] 37)).alloc (.cells #[.string s,.bool fo] 101)).alloc (.cells #[.int .i64 0,.int .i64 0,.nilFunc,.slice none 0 0,.string ⟨#[]⟩] 93)) (w.heap.size + 1) [.int .i64 u,.int .i64 g,.slice ca cl cc,.bool r]):=(by
    have h:=(((boxR_new (w.alloc (.cells #[.slice a len cap,.int .i64 now] 35)) [.int .i64 u,.int .i64 g,.slice ca cl cc,.bool r] 37).below (bel_alloc ((w.alloc (.cells #[.slice a len cap,.int .i64 now] 35)).alloc (.cells #[.int .i64 u,.int .i64 g,.slice ca cl cc,.bool r] 37)) (.cells #[.string s,.bool fo] 101))).below (bel_alloc (((w.alloc (.cells #[.slice a len cap,.int .i64 now] 35)).alloc (.cells #[.int .i64 u,.int .i64 g,.slice ca cl cc,.bool r] 37)).alloc (.cells #[.string s,.bool fo] 101)) (.cells #[.int .i64 0,.int .i64 0,.nilFunc,.slice none 0 0,.string ⟨#[]⟩] 93)))
    simp only [World.size_alloc] at h
    exact h)
  have HA:Hid (BoxR ((((w.alloc (.cells #[.slice a len cap,.int .i64 now] 35)).alloc (.cells #[.int .i64 u,.int .i64 g,.slice ca cl cc,.bool r] 37)).alloc (.cells #[.string s,.bool fo] 101)).alloc (.cells #[.int .i64 0,.int .i64 0,.nilFunc,.slice none 0 0,.string ⟨#[]⟩] 93)) (w.heap.size + 1 + 1) [.string s,.bool fo]):=(by
    have h:=((boxR_new ((w.alloc (.cells #[.slice a len cap,.int .i64 now] 35)).alloc (.cells #[.int .i64 u,.int .i64 g,.slice ca cl cc,.bool r] 37)) [.string s,.bool fo] 101).below (bel_alloc (((w.alloc (.cells #[.slice a len cap,.int .i64 now] 35)).alloc (.cells #[.int .i64 u,.int .i64 g,.slice ca cl cc,.bool r] 37)).alloc (.cells #[.string s,.bool fo] 101)) (.cells #[.int .i64 0,.int .i64 0,.nilFunc,.slice none 0 0,.string ⟨#[]⟩] 93)))
    simp only [World.size_alloc] at h
    exact h)
  have HO:Hid (BoxW ((((w.alloc (.cells #[.slice a len cap,.int .i64 now] 35)).alloc (.cells #[.int .i64 u,.int .i64 g,.slice ca cl cc,.bool r] 37)).alloc (.cells #[.string s,.bool fo] 101)).alloc (.cells #[.int .i64 0,.int .i64 0,.nilFunc,.slice none 0 0,.string ⟨#[]⟩] 93)) (w.heap.size + 1 + 1 + 1) [.int .i64 0,.int .i64 0,.nilFunc,.slice none 0 0,.string ⟨#[]⟩]):=(by
    have h:=(boxW_new (((w.alloc (.cells #[.slice a len cap,.int .i64 now] 35)).alloc (.cells #[.int .i64 u,.int .i64 g,.slice ca cl cc,.bool r] 37)).alloc (.cells #[.string s,.bool fo] 101)) [.int .i64 0,.int .i64 0,.nilFunc,.slice none 0 0,.string ⟨#[]⟩] 93)
    simp only [World.size_alloc] at h
    exact h)
  go_enter Tryz.func150,Tryz.ntmps150
  go_upto_region 1 with fail
  generalize ((((w.alloc (.cells #[.slice a len cap,.int .i64 now] 35)).alloc (.cells #[.int .i64 u,.int .i64 g,.slice ca cl cc,.bool r] 37)).alloc (.cells #[.string s,.bool fo] 101)).alloc (.cells #[.int .i64 0,.int .i64 0,.nilFunc,.slice none 0 0,.string ⟨#[]⟩] 93))=w0 at HB HX HC HA HO ⊢
  obtain ⟨X,hX⟩:∃ X,X=w.heap.size:=⟨_,rfl⟩
  have HXw:Hid (X=w.heap.size):=hX
  rw [← hX] at HX HC HA HO ⊢
  clear hX
  have t0:w0.cell? ⟨X,0,none⟩=some (.slice a len cap):=HX.out.at0 0 _ rfl
  have t1:w0.cell? ⟨X,1,none⟩=some (.int .i64 now):=HX.out.at0 1 _ rfl
  have c0:w0.cell? ⟨X + 1,0,none⟩=some (.int .i64 u):=HC.out.at0 0 _ rfl
  have c1:w0.cell? ⟨X + 1,1,none⟩=some (.int .i64 g):=HC.out.at0 1 _ rfl
  have c2:w0.cell? ⟨X + 1,2,none⟩=some (.slice ca cl cc):=HC.out.at0 2 _ rfl
  have c3:w0.cell? ⟨X + 1,3,none⟩=some (.bool r):=HC.out.at0 3 _ rfl
  have a0:w0.cell? ⟨X + 1 + 1,0,none⟩=some (.string s):=HA.out.at0 0 _ rfl
  have a1:w0.cell? ⟨X + 1 + 1,1,none⟩=some (.bool fo):=HA.out.at0 1 _ rfl
  go_wp2_with fail
  refine (HWq.out _ HB.out).mono ?_
  rintro e w1 ⟨rfl,hb⟩
  replace HB:Hid (Below w.heap.size w w1):=Below.on HB.out hb
  replace HX:Hid (BoxR w1 (X) [.slice a len cap,.int .i64 now]):=HX.out.below hb
  replace HC:Hid (BoxR w1 (X + 1) [.int .i64 u,.int .i64 g,.slice ca cl cc,.bool r]):=HC.out.below hb
  replace HA:Hid (BoxR w1 (X + 1 + 1) [.string s,.bool fo]):=HA.out.below hb
  replace HO:Hid (BoxW w1 (X + 1 + 1 + 1) [.int .i64 0,.int .i64 0,.nilFunc,.slice none 0 0,.string ⟨#[]⟩]):=HO.out.below hb
  have hbN:Below w1.heap.size w1 (w1.alloc (.cells #[.int .i64 F.n,.int .i64 F.d,.string F.nm,.int .i64 F.c] 31)):=bel_alloc _ _
  have HZ:Hid (BoxR (w1.alloc (.cells #[.int .i64 F.n,.int .i64 F.d,.string F.nm,.int .i64 F.c] 31)) w1.heap.size [.int .i64 F.n,.int .i64 F.d,.string F.nm,.int .i64 F.c]):=boxR_new _ _ _
  replace HB:Hid (Below w.heap.size w (w1.alloc (.cells #[.int .i64 F.n,.int .i64 F.d,.string F.nm,.int .i64 F.c] 31))):=Below.on HB.out hbN
  replace HX:Hid (BoxR (w1.alloc (.cells #[.int .i64 F.n,.int .i64 F.d,.string F.nm,.int .i64 F.c] 31)) (X) [.slice a len cap,.int .i64 now]):=HX.out.below hbN
  replace HC:Hid (BoxR (w1.alloc (.cells #[.int .i64 F.n,.int .i64 F.d,.string F.nm,.int .i64 F.c] 31)) (X + 1) [.int .i64 u,.int .i64 g,.slice ca cl cc,.bool r]):=HC.out.below hbN
  replace HA:Hid (BoxR (w1.alloc (.cells #[.int .i64 F.n,.int .i64 F.d,.string F.nm,.int .i64 F.c] 31)) (X + 1 + 1) [.string s,.bool fo]):=HA.out.below hbN
  replace HO:Hid (BoxW (w1.alloc (.cells #[.int .i64 F.n,.int .i64 F.d,.string F.nm,.int .i64 F.c] 31)) (X + 1 + 1 + 1) [.int .i64 0,.int .i64 0,.nilFunc,.slice none 0 0,.string ⟨#[]⟩]):=HO.out.below hbN
  clear hb hbN t0 t1 c0 c1 c2 c3 a0 a1 HWq
  go_upto_region 2 with fail
  generalize (w1.alloc (.cells #[.int .i64 F.n,.int .i64 F.d,.string F.nm,.int .i64 F.c] 31))=w3 at HB HX HC HA HO HZ ⊢
  generalize w1.heap.size=Z at HZ ⊢
  have o0:w3.cell? ⟨X + 1 + 1 + 1,0,none⟩=some (.int .i64 0):=HO.out.at0 0 _ rfl
  have o1:w3.cell? ⟨X + 1 + 1 + 1,1,none⟩=some (.int .i64 0):=HO.out.at0 1 _ rfl
  have o2:w3.cell? ⟨X + 1 + 1 + 1,2,none⟩=some (.nilFunc):=HO.out.at0 2 _ rfl
  have o3:w3.cell? ⟨X + 1 + 1 + 1,3,none⟩=some (.slice none 0 0):=HO.out.at0 3 _ rfl
  have o4:w3.cell? ⟨X + 1 + 1 + 1,4,none⟩=some (.string ⟨#[]⟩):=HO.out.at0 4 _ rfl
  have fz:∀ o,w3.frozen? ⟨X + 1 + 1 + 1,o,none⟩=false:=HO.out.frz
  have z0:w3.cell? ⟨Z,0,none⟩=some (.int .i64 F.n):=HZ.out.at0 0 _ rfl
  have z1:w3.cell? ⟨Z,1,none⟩=some (.int .i64 F.d):=HZ.out.at0 1 _ rfl
  have z2:w3.cell? ⟨Z,2,none⟩=some (.string F.nm):=HZ.out.at0 2 _ rfl
  have z3:w3.cell? ⟨Z,3,none⟩=some (.int .i64 F.c):=HZ.out.at0 3 _ rfl
  go_wp2
  refine bodyPost_ret (v:=.agg #[.int .i64 (F.c),.int .i64 (F.n),.nilFunc,.slice none 0 0,.string ⟨#[]⟩]) (by simp [results,Tryz.results150,go_sem,o0,o1,o2,o3,o4]) rfl ?_
  exact ⟨by rw [show F=F from rfl],(by repeat (first | exact HB.out | refine bl_setT ?_ (by have:=HXw.out; omega)))⟩
set_option maxRecDepth 20000 in
set_option maxHeartbeats 8000000 in
theorem iDeedS_any (a:Option Addr) (len cap:Nat) (l:List Nd) (now:Int) (u g:Int) (ca:Option Addr) (cl cc:Nat) (r:Bool) (cf:Nat→Int) (s:ByteArray) (fo:Bool) (m:Int) (e1 e2 e3 e4:Addr) (hm:len≤9223372036854775807) (hf:∀ i,i < len→NdFit 1048576 (ndAt l i)) (hs:s.size≤1048576) (w:World) (hi:Nds a len l w) (hci:Ints ca cl cf w) (hmx:w.cell? ⟨4,0,none⟩=some (.int .i64 m)) (hE:Errs w e1 e2 e3 e4) :
    Calls Tryz.prog 95 #[.agg #[.slice a len cap,.int .i64 now],.agg #[.int .i64 u,.int .i64 g,.slice ca cl cc,.bool r],.iface 101 (.agg #[.string s,.bool fo])] w fun e w' => e=.returned (.agg #[.int .i64 ((wayN (wkF l now u g cl r cf s fo)).c),.int .i64 ((wayN (wkF l now u g cl r cf s fo)).n),.nilFunc,.slice none 0 0,.string ⟨#[]⟩])∧Below w.heap.size w w':=by
  have HK:Hid (∀ w',Below w.heap.size w w'→Calls Tryz.prog 150 #[.agg #[.slice a len cap,.int .i64 now],.agg #[.int .i64 u,.int .i64 g,.slice ca cl cc,.bool r],.agg #[.string s,.bool fo]] w' fun e w'' => e=.returned (.agg #[.int .i64 ((wayN (wkF l now u g cl r cf s fo)).c),.int .i64 ((wayN (wkF l now u g cl r cf s fo)).n),.nilFunc,.slice none 0 0,.string ⟨#[]⟩])∧Below w'.heap.size w' w''):=(fun w' hb => iAskS_any a len cap l now u g ca cl cc r cf s fo m e1 e2 e3 e4 hm hf hs w' (hi.below hb) (hci.below hb) ((hb.cell (p:=⟨_,0,none⟩) (block_lt_of_cell hmx)).trans hmx) (hE.below hb))
  generalize wayN (wkF l now u g cl r cf s fo)=F at HK ⊢
  clear hi hf hci hmx hE
  obtain ⟨zmakeCall,hmakeCall⟩:=run_tA_no (P:=Tryz.prog) (t:=101) Tryz.underlying184 (by kernel_rfl) (by decide)
  have qmakeCall:=fun w => hmakeCall ((.agg #[.string s,.bool fo])) 146 w
  clear hmakeCall
  obtain ⟨zlinkCall,hlinkCall⟩:=run_tA_no (P:=Tryz.prog) (t:=101) Tryz.underlying189 (by kernel_rfl) (by decide)
  have qlinkCall:=fun w => hlinkCall ((.agg #[.string s,.bool fo])) 146 w
  clear hlinkCall
  obtain ⟨zdropCall,hdropCall⟩:=run_tA_no (P:=Tryz.prog) (t:=101) Tryz.underlying192 (by kernel_rfl) (by decide)
  have qdropCall:=fun w => hdropCall ((.agg #[.string s,.bool fo])) 146 w
  clear hdropCall
  obtain ⟨zmoveCall,hmoveCall⟩:=run_tA_no (P:=Tryz.prog) (t:=101) Tryz.underlying194 (by kernel_rfl) (by decide)
  have qmoveCall:=fun w => hmoveCall ((.agg #[.string s,.bool fo])) 146 w
  clear hmoveCall
  obtain ⟨zmodeCall,hmodeCall⟩:=run_tA_no (P:=Tryz.prog) (t:=101) Tryz.underlying197 (by kernel_rfl) (by decide)
  have qmodeCall:=fun w => hmodeCall ((.agg #[.string s,.bool fo])) 146 w
  clear hmodeCall
  obtain ⟨zownerCall,hownerCall⟩:=run_tA_no (P:=Tryz.prog) (t:=101) Tryz.underlying200 (by kernel_rfl) (by decide)
  have qownerCall:=fun w => hownerCall ((.agg #[.string s,.bool fo])) 146 w
  clear hownerCall
  obtain ⟨zlistCall,hlistCall⟩:=run_tA_no (P:=Tryz.prog) (t:=101) Tryz.underlying203 (by kernel_rfl) (by decide)
  have qlistCall:=fun w => hlistCall ((.agg #[.string s,.bool fo])) 146 w
  clear hlistCall
  obtain ⟨zdefaultCall,hdefaultCall⟩:=run_tA_no (P:=Tryz.prog) (t:=101) Tryz.underlying206 (by kernel_rfl) (by decide)
  have qdefaultCall:=fun w => hdefaultCall ((.agg #[.string s,.bool fo])) 146 w
  clear hdefaultCall
  obtain ⟨zaccessCall,haccessCall⟩:=run_tA_no (P:=Tryz.prog) (t:=101) Tryz.underlying98 (by kernel_rfl) (by decide)
  have qaccessCall:=fun w => haccessCall ((.agg #[.string s,.bool fo])) 146 w
  clear haccessCall
  have qstatCall:∀ w,(Instr.typeAssert (.iface 101 (.agg #[.string s,.bool fo])) 146 101 true).run Tryz.prog w=.ok (.tuple #[(.agg #[.string s,.bool fo]),.bool true]) w:=fun w => run_tA_yes Tryz.underlying101 _ _ w
  have HB:Hid (Below w.heap.size w (((w.alloc (.cells #[.slice a len cap,.int .i64 now] 35)).alloc (.cells #[.int .i64 u,.int .i64 g,.slice ca cl cc,.bool r] 37)).alloc (.cells #[.int .i64 0,.int .i64 0,.nilFunc,.slice none 0 0,.string ⟨#[]⟩] 93))):=(Below.on (Below.on (Below.on (Below.refl _ _) (bel_alloc _ _)) (bel_alloc _ _)) (bel_alloc _ _))
  have HX:Hid (BoxR (((w.alloc (.cells #[.slice a len cap,.int .i64 now] 35)).alloc (.cells #[.int .i64 u,.int .i64 g,.slice ca cl cc,.bool r] 37)).alloc (.cells #[.int .i64 0,.int .i64 0,.nilFunc,.slice none 0 0,.string ⟨#[]⟩] 93)) (w.heap.size) [.slice a len cap,.int .i64 now]):=(by
    have h:=(((boxR_new w [.slice a len cap,.int .i64 now] 35).below (bel_alloc (w.alloc (.cells #[.slice a len cap,.int .i64 now] 35)) (.cells #[.int .i64 u,.int .i64 g,.slice ca cl cc,.bool r] 37))).below (bel_alloc ((w.alloc (.cells #[.slice a len cap,.int .i64 now] 35)).alloc (.cells #[.int .i64 u,.int .i64 g,.slice ca cl cc,.bool r] 37)) (.cells #[.int .i64 0,.int .i64 0,.nilFunc,.slice none 0 0,.string ⟨#[]⟩] 93)))
    exact h)
  have HC:Hid (BoxR (((w.alloc (.cells #[.slice a len cap,.int .i64 now] 35)).alloc (.cells #[.int .i64 u,.int .i64 g,.slice ca cl cc,.bool r] 37)).alloc (.cells #[.int .i64 0,.int .i64 0,.nilFunc,.slice none 0 0,.string ⟨#[]⟩] 93)) (w.heap.size + 1) [.int .i64 u,.int .i64 g,.slice ca cl cc,.bool r]):=(by
    have h:=((boxR_new (w.alloc (.cells #[.slice a len cap,.int .i64 now] 35)) [.int .i64 u,.int .i64 g,.slice ca cl cc,.bool r] 37).below (bel_alloc ((w.alloc (.cells #[.slice a len cap,.int .i64 now] 35)).alloc (.cells #[.int .i64 u,.int .i64 g,.slice ca cl cc,.bool r] 37)) (.cells #[.int .i64 0,.int .i64 0,.nilFunc,.slice none 0 0,.string ⟨#[]⟩] 93)))
    simp only [World.size_alloc] at h
    exact h)
  have HO:Hid (BoxW (((w.alloc (.cells #[.slice a len cap,.int .i64 now] 35)).alloc (.cells #[.int .i64 u,.int .i64 g,.slice ca cl cc,.bool r] 37)).alloc (.cells #[.int .i64 0,.int .i64 0,.nilFunc,.slice none 0 0,.string ⟨#[]⟩] 93)) (w.heap.size + 1 + 1) [.int .i64 0,.int .i64 0,.nilFunc,.slice none 0 0,.string ⟨#[]⟩]):=(by
    have h:=(boxW_new ((w.alloc (.cells #[.slice a len cap,.int .i64 now] 35)).alloc (.cells #[.int .i64 u,.int .i64 g,.slice ca cl cc,.bool r] 37)) [.int .i64 0,.int .i64 0,.nilFunc,.slice none 0 0,.string ⟨#[]⟩] 93)
    simp only [World.size_alloc] at h
    exact h)
  go_enter Tryz.func95,Tryz.ntmps95
  go_upto_region 1 with fail
  generalize (((w.alloc (.cells #[.slice a len cap,.int .i64 now] 35)).alloc (.cells #[.int .i64 u,.int .i64 g,.slice ca cl cc,.bool r] 37)).alloc (.cells #[.int .i64 0,.int .i64 0,.nilFunc,.slice none 0 0,.string ⟨#[]⟩] 93))=w0 at HB HX HC HO ⊢
  obtain ⟨X,hX⟩:∃ X,X=w.heap.size:=⟨_,rfl⟩
  have HXw:Hid (X=w.heap.size):=hX
  rw [← hX] at HX HC HO ⊢
  clear hX
  have t0:w0.cell? ⟨X,0,none⟩=some (.slice a len cap):=HX.out.at0 0 _ rfl
  have t1:w0.cell? ⟨X,1,none⟩=some (.int .i64 now):=HX.out.at0 1 _ rfl
  have c0:w0.cell? ⟨X + 1,0,none⟩=some (.int .i64 u):=HC.out.at0 0 _ rfl
  have c1:w0.cell? ⟨X + 1,1,none⟩=some (.int .i64 g):=HC.out.at0 1 _ rfl
  have c2:w0.cell? ⟨X + 1,2,none⟩=some (.slice ca cl cc):=HC.out.at0 2 _ rfl
  have c3:w0.cell? ⟨X + 1,3,none⟩=some (.bool r):=HC.out.at0 3 _ rfl
  have hbN:Below w0.heap.size w0 (w0.alloc (.cells #[.string s,.bool fo] 101)):=bel_alloc _ _
  have HA:Hid (BoxR (w0.alloc (.cells #[.string s,.bool fo] 101)) w0.heap.size [.string s,.bool fo]):=boxR_new _ _ _
  go_upto_region 31 with fail
  replace HB:Hid (Below w.heap.size w (w0.alloc (.cells #[.string s,.bool fo] 101))):=Below.on HB.out hbN
  replace HX:Hid (BoxR (w0.alloc (.cells #[.string s,.bool fo] 101)) (X) [.slice a len cap,.int .i64 now]):=HX.out.below hbN
  replace HC:Hid (BoxR (w0.alloc (.cells #[.string s,.bool fo] 101)) (X + 1) [.int .i64 u,.int .i64 g,.slice ca cl cc,.bool r]):=HC.out.below hbN
  replace HO:Hid (BoxW (w0.alloc (.cells #[.string s,.bool fo] 101)) (X + 1 + 1) [.int .i64 0,.int .i64 0,.nilFunc,.slice none 0 0,.string ⟨#[]⟩]):=HO.out.below hbN
  clear hbN t0 t1 c0 c1 c2 c3
  generalize (w0.alloc (.cells #[.string s,.bool fo] 101))=w3 at HB HX HC HO HA ⊢
  generalize w0.heap.size=Z at HA ⊢
  clear w0
  generalize w3=w0 at HB HX HC HO HA ⊢
  have t0:w0.cell? ⟨X,0,none⟩=some (.slice a len cap):=HX.out.at0 0 _ rfl
  have t1:w0.cell? ⟨X,1,none⟩=some (.int .i64 now):=HX.out.at0 1 _ rfl
  have c0:w0.cell? ⟨X + 1,0,none⟩=some (.int .i64 u):=HC.out.at0 0 _ rfl
  have c1:w0.cell? ⟨X + 1,1,none⟩=some (.int .i64 g):=HC.out.at0 1 _ rfl
  have c2:w0.cell? ⟨X + 1,2,none⟩=some (.slice ca cl cc):=HC.out.at0 2 _ rfl
  have c3:w0.cell? ⟨X + 1,3,none⟩=some (.bool r):=HC.out.at0 3 _ rfl
  have a0:w0.cell? ⟨Z,0,none⟩=some (.string s):=HA.out.at0 0 _ rfl
  have a1:w0.cell? ⟨Z,1,none⟩=some (.bool fo):=HA.out.at0 1 _ rfl
  go_wp2_with fail
  refine (HK.out _ HB.out).mono ?_
  rintro e w1 ⟨rfl,hb⟩
  replace HB:Hid (Below w.heap.size w w1):=Below.on HB.out hb
  replace HX:Hid (BoxR w1 (X) [.slice a len cap,.int .i64 now]):=HX.out.below hb
  replace HC:Hid (BoxR w1 (X + 1) [.int .i64 u,.int .i64 g,.slice ca cl cc,.bool r]):=HC.out.below hb
  replace HO:Hid (BoxW w1 (X + 1 + 1) [.int .i64 0,.int .i64 0,.nilFunc,.slice none 0 0,.string ⟨#[]⟩]):=HO.out.below hb
  clear hb t0 t1 c0 c1 c2 c3 a0 a1 HK HA
  have o0:w1.cell? ⟨X + 1 + 1,0,none⟩=some (.int .i64 0):=HO.out.at0 0 _ rfl
  have o1:w1.cell? ⟨X + 1 + 1,1,none⟩=some (.int .i64 0):=HO.out.at0 1 _ rfl
  have o2:w1.cell? ⟨X + 1 + 1,2,none⟩=some (.nilFunc):=HO.out.at0 2 _ rfl
  have o3:w1.cell? ⟨X + 1 + 1,3,none⟩=some (.slice none 0 0):=HO.out.at0 3 _ rfl
  have o4:w1.cell? ⟨X + 1 + 1,4,none⟩=some (.string ⟨#[]⟩):=HO.out.at0 4 _ rfl
  have fz:∀ o,w1.frozen? ⟨X + 1 + 1,o,none⟩=false:=HO.out.frz
  go_wp2
  refine bodyPost_ret (v:=.agg #[.int .i64 (F.c),.int .i64 (F.n),.nilFunc,.slice none 0 0,.string ⟨#[]⟩]) (by simp [results,Tryz.results95,go_sem,o0,o1,o2,o3,o4]) rfl ?_
  exact ⟨by rw [show F=F from rfl],(by repeat (first | exact HB.out | refine bl_setT ?_ (by have:=HXw.out; omega)))⟩
end Go.Proofs.YtabfdidnjibdeaaGreatDoor
/- impl.planned of a stat. -/
namespace Go.Proofs.YtabfdidnjibdeaaGreatDoor
open Go.RowKit Go.PlainAid Go.Deep
set_option linter.unusedVariables false
theorem iRight1_any (s:ByteArray) (w:World) :
    Calls Tryz.prog 266 #[.agg #[.string s]] w fun e w' => e=.returned (.bool true)∧Below w.heap.size w w':=by
  have HB:Hid (Below w.heap.size w (w.alloc (.cells #[.string s] 96))):=bel_alloc _ _
  go_enter Tryz.func266,Tryz.ntmps266
  go_wp2
  go_ret
  exact ⟨rfl,HB.out⟩
set_option maxRecDepth 20000 in
set_option maxHeartbeats 8000000 in
theorem iPlanS_any (a:Option Addr) (len cap:Nat) (l:List Nd) (now:Int) (u g:Int) (ca:Option Addr) (cl cc:Nat) (r:Bool) (cf:Nat→Int) (s:ByteArray) (fo:Bool) (m:Int) (e1 e2 e3 e4:Addr) (hm:len≤9223372036854775807) (hf:∀ i,i < len→NdFit 1048576 (ndAt l i)) (hs:s.size≤1048576) (w:World) (hi:Nds a len l w) (hci:Ints ca cl cf w) (hmx:w.cell? ⟨4,0,none⟩=some (.int .i64 m)) (hE:Errs w e1 e2 e3 e4) :
    Calls Tryz.prog 51 #[.agg #[.slice a len cap,.int .i64 now],.agg #[.int .i64 u,.int .i64 g,.slice ca cl cc,.bool r],.iface 101 (.agg #[.string s,.bool fo])] w fun e w' => e=.returned (.agg #[.int .i64 ((wayN (wkF l now u g cl r cf s fo)).c),.int .i64 ((wayN (wkF l now u g cl r cf s fo)).n),.nilFunc,.slice none 0 0,.string ⟨#[]⟩])∧Below w.heap.size w w':=by
  have HK:Hid (∀ w',Below w.heap.size w w'→Calls Tryz.prog 95 #[.agg #[.slice a len cap,.int .i64 now],.agg #[.int .i64 u,.int .i64 g,.slice ca cl cc,.bool r],.iface 101 (.agg #[.string s,.bool fo])] w' fun e w'' => e=.returned (.agg #[.int .i64 ((wayN (wkF l now u g cl r cf s fo)).c),.int .i64 ((wayN (wkF l now u g cl r cf s fo)).n),.nilFunc,.slice none 0 0,.string ⟨#[]⟩])∧Below w'.heap.size w' w''):=(fun w' hb => iDeedS_any a len cap l now u g ca cl cc r cf s fo m e1 e2 e3 e4 hm hf hs w' (hi.below hb) (hci.below hb) ((hb.cell (p:=⟨_,0,none⟩) (block_lt_of_cell hmx)).trans hmx) (hE.below hb))
  have HL:Hid (8000 < s.size→wayN (wkF l now u g cl r cf s fo)=woC 2):=way_long
  generalize wayN (wkF l now u g cl r cf s fo)=F at HK HL ⊢
  clear hi hf hci hmx hE
  have HB:Hid (Below w.heap.size w (((w.alloc (.cells #[.slice a len cap,.int .i64 now] 35)).alloc (.cells #[.int .i64 u,.int .i64 g,.slice ca cl cc,.bool r] 37)).alloc (.cells #[.int .i64 0,.int .i64 0,.nilFunc,.slice none 0 0,.string ⟨#[]⟩] 93))):=(Below.on (Below.on (Below.on (Below.refl _ _) (bel_alloc _ _)) (bel_alloc _ _)) (bel_alloc _ _))
  have HX:Hid (BoxR (((w.alloc (.cells #[.slice a len cap,.int .i64 now] 35)).alloc (.cells #[.int .i64 u,.int .i64 g,.slice ca cl cc,.bool r] 37)).alloc (.cells #[.int .i64 0,.int .i64 0,.nilFunc,.slice none 0 0,.string ⟨#[]⟩] 93)) (w.heap.size) [.slice a len cap,.int .i64 now]):=(by
    have h:=(((boxR_new w [.slice a len cap,.int .i64 now] 35).below (bel_alloc (w.alloc (.cells #[.slice a len cap,.int .i64 now] 35)) (.cells #[.int .i64 u,.int .i64 g,.slice ca cl cc,.bool r] 37))).below (bel_alloc ((w.alloc (.cells #[.slice a len cap,.int .i64 now] 35)).alloc (.cells #[.int .i64 u,.int .i64 g,.slice ca cl cc,.bool r] 37)) (.cells #[.int .i64 0,.int .i64 0,.nilFunc,.slice none 0 0,.string ⟨#[]⟩] 93)))
    exact h)
  have HC:Hid (BoxR (((w.alloc (.cells #[.slice a len cap,.int .i64 now] 35)).alloc (.cells #[.int .i64 u,.int .i64 g,.slice ca cl cc,.bool r] 37)).alloc (.cells #[.int .i64 0,.int .i64 0,.nilFunc,.slice none 0 0,.string ⟨#[]⟩] 93)) (w.heap.size + 1) [.int .i64 u,.int .i64 g,.slice ca cl cc,.bool r]):=(by
    have h:=((boxR_new (w.alloc (.cells #[.slice a len cap,.int .i64 now] 35)) [.int .i64 u,.int .i64 g,.slice ca cl cc,.bool r] 37).below (bel_alloc ((w.alloc (.cells #[.slice a len cap,.int .i64 now] 35)).alloc (.cells #[.int .i64 u,.int .i64 g,.slice ca cl cc,.bool r] 37)) (.cells #[.int .i64 0,.int .i64 0,.nilFunc,.slice none 0 0,.string ⟨#[]⟩] 93)))
    simp only [World.size_alloc] at h
    exact h)
  have HO:Hid (BoxW (((w.alloc (.cells #[.slice a len cap,.int .i64 now] 35)).alloc (.cells #[.int .i64 u,.int .i64 g,.slice ca cl cc,.bool r] 37)).alloc (.cells #[.int .i64 0,.int .i64 0,.nilFunc,.slice none 0 0,.string ⟨#[]⟩] 93)) (w.heap.size + 1 + 1) [.int .i64 0,.int .i64 0,.nilFunc,.slice none 0 0,.string ⟨#[]⟩]):=(by
    have h:=(boxW_new ((w.alloc (.cells #[.slice a len cap,.int .i64 now] 35)).alloc (.cells #[.int .i64 u,.int .i64 g,.slice ca cl cc,.bool r] 37)) [.int .i64 0,.int .i64 0,.nilFunc,.slice none 0 0,.string ⟨#[]⟩] 93)
    simp only [World.size_alloc] at h
    exact h)
  go_enter Tryz.func51,Tryz.ntmps51
  go_upto_region 1 with fail
  generalize (((w.alloc (.cells #[.slice a len cap,.int .i64 now] 35)).alloc (.cells #[.int .i64 u,.int .i64 g,.slice ca cl cc,.bool r] 37)).alloc (.cells #[.int .i64 0,.int .i64 0,.nilFunc,.slice none 0 0,.string ⟨#[]⟩] 93))=w0 at HB HX HC HO ⊢
  obtain ⟨X,hX⟩:∃ X,X=w.heap.size:=⟨_,rfl⟩
  have HXw:Hid (X=w.heap.size):=hX
  rw [← hX] at HX HC HO ⊢
  clear hX
  have t0:w0.cell? ⟨X,0,none⟩=some (.slice a len cap):=HX.out.at0 0 _ rfl
  have t1:w0.cell? ⟨X,1,none⟩=some (.int .i64 now):=HX.out.at0 1 _ rfl
  have c0:w0.cell? ⟨X + 1,0,none⟩=some (.int .i64 u):=HC.out.at0 0 _ rfl
  have c1:w0.cell? ⟨X + 1,1,none⟩=some (.int .i64 g):=HC.out.at0 1 _ rfl
  have c2:w0.cell? ⟨X + 1,2,none⟩=some (.slice ca cl cc):=HC.out.at0 2 _ rfl
  have c3:w0.cell? ⟨X + 1,3,none⟩=some (.bool r):=HC.out.at0 3 _ rfl
  go_wp2_with fail
  refine (iTexts1_any s _).mono ?_
  rintro e w1 ⟨B,rfl,hB,hb⟩
  replace HB:Hid (Below w.heap.size w w1):=Below.on HB.out hb
  replace HX:Hid (BoxR w1 (X) [.slice a len cap,.int .i64 now]):=HX.out.below hb
  replace HC:Hid (BoxR w1 (X + 1) [.int .i64 u,.int .i64 g,.slice ca cl cc,.bool r]):=HC.out.below hb
  replace HO:Hid (BoxW w1 (X + 1 + 1) [.int .i64 0,.int .i64 0,.nilFunc,.slice none 0 0,.string ⟨#[]⟩]):=HO.out.below hb
  have HS:Hid (w1.cell? ⟨B,0,none⟩=some (.string s)):=hB
  clear hb hB t0 t1 c0 c1 c2 c3
  go_wp2_with fail
  refine (contF1_any B 1 s _ HS.out).mono ?_
  rintro e w2 ⟨rfl,hw⟩
  have hw2:=hw.symm
  clear hw
  subst hw2
  clear HS
  have t0:w1.cell? ⟨X,0,none⟩=some (.slice a len cap):=HX.out.at0 0 _ rfl
  have t1:w1.cell? ⟨X,1,none⟩=some (.int .i64 now):=HX.out.at0 1 _ rfl
  have c0:w1.cell? ⟨X + 1,0,none⟩=some (.int .i64 u):=HC.out.at0 0 _ rfl
  have c1:w1.cell? ⟨X + 1,1,none⟩=some (.int .i64 g):=HC.out.at0 1 _ rfl
  have c2:w1.cell? ⟨X + 1,2,none⟩=some (.slice ca cl cc):=HC.out.at0 2 _ rfl
  have c3:w1.cell? ⟨X + 1,3,none⟩=some (.bool r):=HC.out.at0 3 _ rfl
  have o0:w1.cell? ⟨X + 1 + 1,0,none⟩=some (.int .i64 0):=HO.out.at0 0 _ rfl
  have o1:w1.cell? ⟨X + 1 + 1,1,none⟩=some (.int .i64 0):=HO.out.at0 1 _ rfl
  have o2:w1.cell? ⟨X + 1 + 1,2,none⟩=some (.nilFunc):=HO.out.at0 2 _ rfl
  have o3:w1.cell? ⟨X + 1 + 1,3,none⟩=some (.slice none 0 0):=HO.out.at0 3 _ rfl
  have o4:w1.cell? ⟨X + 1 + 1,4,none⟩=some (.string ⟨#[]⟩):=HO.out.at0 4 _ rfl
  have fz:∀ o,w1.frozen? ⟨X + 1 + 1,o,none⟩=false:=HO.out.frz
  by_cases h8:8000 < s.size
  · have hd : decide (8000 < s.size) = true := by simp [h8]
    have HE:Hid (F=woC 2):=HL.out h8
    rw [hd]
    clear hd h8 HK HL
    go_wp2
    refine bodyPost_ret (v:=.agg #[.int .i64 (2),.int .i64 (0),.nilFunc,.slice none 0 0,.string ⟨#[]⟩]) (by simp [results,Tryz.results51,go_sem,o0,o1,o2,o3,o4]) rfl ?_
    exact ⟨by rw [HE.out]; rfl,(by repeat (first | exact HB.out | refine bl_setT ?_ (by have:=HXw.out; omega)))⟩
  have hd:decide (8000 < s.size)=false:=by simp [h8]
  rw [hd]
  clear hd h8 HL
  go_wp2_with fail
  refine (iRight1_any s _).mono ?_
  rintro e w3 ⟨rfl,hb⟩
  clear t0 t1 c0 c1 c2 c3 o0 o1 o2 o3 o4 fz
  replace HB:Hid (Below w.heap.size w w3):=Below.on HB.out hb
  replace HX:Hid (BoxR w3 (X) [.slice a len cap,.int .i64 now]):=HX.out.below hb
  replace HC:Hid (BoxR w3 (X + 1) [.int .i64 u,.int .i64 g,.slice ca cl cc,.bool r]):=HC.out.below hb
  replace HO:Hid (BoxW w3 (X + 1 + 1) [.int .i64 0,.int .i64 0,.nilFunc,.slice none 0 0,.string ⟨#[]⟩]):=HO.out.below hb
  clear hb
  have t0:w3.cell? ⟨X,0,none⟩=some (.slice a len cap):=HX.out.at0 0 _ rfl
  have t1:w3.cell? ⟨X,1,none⟩=some (.int .i64 now):=HX.out.at0 1 _ rfl
  have c0:w3.cell? ⟨X + 1,0,none⟩=some (.int .i64 u):=HC.out.at0 0 _ rfl
  have c1:w3.cell? ⟨X + 1,1,none⟩=some (.int .i64 g):=HC.out.at0 1 _ rfl
  have c2:w3.cell? ⟨X + 1,2,none⟩=some (.slice ca cl cc):=HC.out.at0 2 _ rfl
  have c3:w3.cell? ⟨X + 1,3,none⟩=some (.bool r):=HC.out.at0 3 _ rfl
  go_wp2_with fail
  refine (HK.out _ HB.out).mono ?_
  rintro e w4 ⟨rfl,hb⟩
  clear t0 t1 c0 c1 c2 c3
  replace HB:Hid (Below w.heap.size w w4):=Below.on HB.out hb
  replace HX:Hid (BoxR w4 (X) [.slice a len cap,.int .i64 now]):=HX.out.below hb
  replace HC:Hid (BoxR w4 (X + 1) [.int .i64 u,.int .i64 g,.slice ca cl cc,.bool r]):=HC.out.below hb
  replace HO:Hid (BoxW w4 (X + 1 + 1) [.int .i64 0,.int .i64 0,.nilFunc,.slice none 0 0,.string ⟨#[]⟩]):=HO.out.below hb
  clear hb HK
  have o0:w4.cell? ⟨X + 1 + 1,0,none⟩=some (.int .i64 0):=HO.out.at0 0 _ rfl
  have o1:w4.cell? ⟨X + 1 + 1,1,none⟩=some (.int .i64 0):=HO.out.at0 1 _ rfl
  have o2:w4.cell? ⟨X + 1 + 1,2,none⟩=some (.nilFunc):=HO.out.at0 2 _ rfl
  have o3:w4.cell? ⟨X + 1 + 1,3,none⟩=some (.slice none 0 0):=HO.out.at0 3 _ rfl
  have o4:w4.cell? ⟨X + 1 + 1,4,none⟩=some (.string ⟨#[]⟩):=HO.out.at0 4 _ rfl
  have fz:∀ o,w4.frozen? ⟨X + 1 + 1,o,none⟩=false:=HO.out.frz
  go_wp2
  refine bodyPost_ret (v:=.agg #[.int .i64 (F.c),.int .i64 (F.n),.nilFunc,.slice none 0 0,.string ⟨#[]⟩]) (by simp [results,Tryz.results51,go_sem,o0,o1,o2,o3,o4]) rfl ?_
  exact ⟨by rw [show F=F from rfl],(by repeat (first | exact HB.out | refine bl_setT ?_ (by have:=HXw.out; omega)))⟩
end Go.Proofs.YtabfdidnjibdeaaGreatDoor
/- impl.Stat. -/
namespace Go.Proofs.YtabfdidnjibdeaaGreatDoor
open Go.RowKit Go.PlainAid Go.Deep
set_option linter.unusedVariables false
set_option maxRecDepth 20000 in
set_option maxHeartbeats 8000000 in
theorem iStat_any (a:Option Addr) (len cap:Nat) (l:List Nd) (now:Int) (u g:Int) (ca:Option Addr) (cl cc:Nat) (r:Bool) (cf:Nat→Int) (s:ByteArray) (fo:Bool) (m:Int) (e1 e2 e3 e4:Addr) (hm:len≤9223372036854775807) (hf:∀ i,i < len→NdFit 1048576 (ndAt l i)) (hs:s.size≤1048576) (w:World) (hi:Nds a len l w) (hci:Ints ca cl cf w) (hmx:w.cell? ⟨4,0,none⟩=some (.int .i64 m)) (hE:Errs w e1 e2 e3 e4) :
    Calls Tryz.prog 22 #[.agg #[.slice a len cap,.int .i64 now],.agg #[.int .i64 u,.int .i64 g,.slice ca cl cc,.bool r],.string s,.bool fo] w fun e w' => e=.returned (soV (stF l now u g cl r cf s fo))∧Below w.heap.size w w':=by
  have HK:Hid (∀ w',Below w.heap.size w w'→Calls Tryz.prog 51 #[.agg #[.slice a len cap,.int .i64 now],.agg #[.int .i64 u,.int .i64 g,.slice ca cl cc,.bool r],.iface 101 (.agg #[.string s,.bool fo])] w' fun e w'' => e=.returned (.agg #[.int .i64 ((wayN (wkF l now u g cl r cf s fo)).c),.int .i64 ((wayN (wkF l now u g cl r cf s fo)).n),.nilFunc,.slice none 0 0,.string ⟨#[]⟩])∧Below w'.heap.size w' w''):=(fun w' hb => iPlanS_any a len cap l now u g ca cl cc r cf s fo m e1 e2 e3 e4 hm hf hs w' (hi.below hb) (hci.below hb) ((hb.cell (p:=⟨_,0,none⟩) (block_lt_of_cell hmx)).trans hmx) (hE.below hb))
  have HMo:Hid (∀ n w',Below w.heap.size w w'→Calls Tryz.prog 53 #[.agg #[.slice a len cap,.int .i64 now],.int .i64 n] w' fun e w'' => e=.returned (.int .i64 (mdO l now n))∧Below w'.heap.size w' w''):=(fun n w' hb => iNodeMode_any a len cap l now n hm hf w' (hi.below hb))
  have hth:=wayN_there l now u g cl r cf s fo
  have HE0:stF l now u g cl r cf s fo=stN l (wayN (wkF l now u g cl r cf s fo)):=rfl
  generalize stF l now u g cl r cf s fo=R at HE0 ⊢
  generalize wayN (wkF l now u g cl r cf s fo)=F at HK HE0 hth
  obtain ⟨n,fd,fn,c⟩:=F
  simp only at hth
  have HKq:Hid (∀ w',Below w.heap.size w w'→Calls Tryz.prog 51 #[.agg #[.slice a len cap,.int .i64 now],.agg #[.int .i64 u,.int .i64 g,.slice ca cl cc,.bool r],.iface 101 (.agg #[.string s,.bool fo])] w' fun e w'' => e=.returned (.agg #[.int .i64 (c),.int .i64 (n),.nilFunc,.slice none 0 0,.string ⟨#[]⟩])∧Below w'.heap.size w' w''):=HK
  have HTh:Hid (c ≠ 0∨(c=0∧treeB l now=true∧credB u g cl cf=true∧thB l n=true)):=hth
  have HNd:Hid (Nds a len l w):=hi
  clear HK hth hf hci hmx hE hi
  have HB:Hid (Below w.heap.size w (((w.alloc (.cells #[.slice a len cap,.int .i64 now] 35)).alloc (.cells #[.int .i64 u,.int .i64 g,.slice ca cl cc,.bool r] 37)).alloc (.cells #[.int .i64 0,.int .i64 0,.int .i64 0,.int .i64 0,.int .i64 0,.int .i64 0,.int .i64 0] 47))):=(Below.on (Below.on (Below.on (Below.refl _ _) (bel_alloc _ _)) (bel_alloc _ _)) (bel_alloc _ _))
  have HX:Hid (BoxR (((w.alloc (.cells #[.slice a len cap,.int .i64 now] 35)).alloc (.cells #[.int .i64 u,.int .i64 g,.slice ca cl cc,.bool r] 37)).alloc (.cells #[.int .i64 0,.int .i64 0,.int .i64 0,.int .i64 0,.int .i64 0,.int .i64 0,.int .i64 0] 47)) (w.heap.size) [.slice a len cap,.int .i64 now]):=(by
    have h:=(((boxR_new w [.slice a len cap,.int .i64 now] 35).below (bel_alloc (w.alloc (.cells #[.slice a len cap,.int .i64 now] 35)) (.cells #[.int .i64 u,.int .i64 g,.slice ca cl cc,.bool r] 37))).below (bel_alloc ((w.alloc (.cells #[.slice a len cap,.int .i64 now] 35)).alloc (.cells #[.int .i64 u,.int .i64 g,.slice ca cl cc,.bool r] 37)) (.cells #[.int .i64 0,.int .i64 0,.int .i64 0,.int .i64 0,.int .i64 0,.int .i64 0,.int .i64 0] 47)))
    exact h)
  have HC:Hid (BoxR (((w.alloc (.cells #[.slice a len cap,.int .i64 now] 35)).alloc (.cells #[.int .i64 u,.int .i64 g,.slice ca cl cc,.bool r] 37)).alloc (.cells #[.int .i64 0,.int .i64 0,.int .i64 0,.int .i64 0,.int .i64 0,.int .i64 0,.int .i64 0] 47)) (w.heap.size + 1) [.int .i64 u,.int .i64 g,.slice ca cl cc,.bool r]):=(by
    have h:=((boxR_new (w.alloc (.cells #[.slice a len cap,.int .i64 now] 35)) [.int .i64 u,.int .i64 g,.slice ca cl cc,.bool r] 37).below (bel_alloc ((w.alloc (.cells #[.slice a len cap,.int .i64 now] 35)).alloc (.cells #[.int .i64 u,.int .i64 g,.slice ca cl cc,.bool r] 37)) (.cells #[.int .i64 0,.int .i64 0,.int .i64 0,.int .i64 0,.int .i64 0,.int .i64 0,.int .i64 0] 47)))
    simp only [World.size_alloc] at h
    exact h)
  have HO:Hid (BoxW (((w.alloc (.cells #[.slice a len cap,.int .i64 now] 35)).alloc (.cells #[.int .i64 u,.int .i64 g,.slice ca cl cc,.bool r] 37)).alloc (.cells #[.int .i64 0,.int .i64 0,.int .i64 0,.int .i64 0,.int .i64 0,.int .i64 0,.int .i64 0] 47)) (w.heap.size + 1 + 1) [.int .i64 0,.int .i64 0,.int .i64 0,.int .i64 0,.int .i64 0,.int .i64 0,.int .i64 0]):=(by
    have h:=(boxW_new ((w.alloc (.cells #[.slice a len cap,.int .i64 now] 35)).alloc (.cells #[.int .i64 u,.int .i64 g,.slice ca cl cc,.bool r] 37)) [.int .i64 0,.int .i64 0,.int .i64 0,.int .i64 0,.int .i64 0,.int .i64 0,.int .i64 0] 47)
    simp only [World.size_alloc] at h
    exact h)
  go_enter Tryz.func22,Tryz.ntmps22
  go_upto_region 1 with fail
  generalize (((w.alloc (.cells #[.slice a len cap,.int .i64 now] 35)).alloc (.cells #[.int .i64 u,.int .i64 g,.slice ca cl cc,.bool r] 37)).alloc (.cells #[.int .i64 0,.int .i64 0,.int .i64 0,.int .i64 0,.int .i64 0,.int .i64 0,.int .i64 0] 47))=w0 at HB HX HC HO ⊢
  obtain ⟨X,hX⟩:∃ X,X=w.heap.size:=⟨_,rfl⟩
  have HXw:Hid (X=w.heap.size):=hX
  rw [← hX] at HX HC HO ⊢
  clear hX
  have t0:w0.cell? ⟨X,0,none⟩=some (.slice a len cap):=HX.out.at0 0 _ rfl
  have t1:w0.cell? ⟨X,1,none⟩=some (.int .i64 now):=HX.out.at0 1 _ rfl
  have c0:w0.cell? ⟨X + 1,0,none⟩=some (.int .i64 u):=HC.out.at0 0 _ rfl
  have c1:w0.cell? ⟨X + 1,1,none⟩=some (.int .i64 g):=HC.out.at0 1 _ rfl
  have c2:w0.cell? ⟨X + 1,2,none⟩=some (.slice ca cl cc):=HC.out.at0 2 _ rfl
  have c3:w0.cell? ⟨X + 1,3,none⟩=some (.bool r):=HC.out.at0 3 _ rfl
  go_wp2_with fail
  refine (HKq.out _ HB.out).mono ?_
  rintro e w1 ⟨rfl,hb⟩
  replace HB:Hid (Below w.heap.size w w1):=Below.on HB.out hb
  replace HX:Hid (BoxR w1 (X) [.slice a len cap,.int .i64 now]):=HX.out.below hb
  replace HC:Hid (BoxR w1 (X + 1) [.int .i64 u,.int .i64 g,.slice ca cl cc,.bool r]):=HC.out.below hb
  replace HO:Hid (BoxW w1 (X + 1 + 1) [.int .i64 0,.int .i64 0,.int .i64 0,.int .i64 0,.int .i64 0,.int .i64 0,.int .i64 0]):=HO.out.below hb
  have hbN:Below w1.heap.size w1 (w1.alloc (.cells #[.int .i64 (c),.int .i64 (n),.nilFunc,.slice none 0 0,.string ⟨#[]⟩] 93)):=bel_alloc _ _
  have HD:Hid (BoxR (w1.alloc (.cells #[.int .i64 (c),.int .i64 (n),.nilFunc,.slice none 0 0,.string ⟨#[]⟩] 93)) w1.heap.size [.int .i64 (c),.int .i64 (n),.nilFunc,.slice none 0 0,.string ⟨#[]⟩]):=boxR_new _ _ _
  have HDl:Hid (X + 1 + 1 < w1.heap.size):=HO.out.lt
  replace HB:Hid (Below w.heap.size w (w1.alloc (.cells #[.int .i64 (c),.int .i64 (n),.nilFunc,.slice none 0 0,.string ⟨#[]⟩] 93))):=Below.on HB.out hbN
  replace HX:Hid (BoxR (w1.alloc (.cells #[.int .i64 (c),.int .i64 (n),.nilFunc,.slice none 0 0,.string ⟨#[]⟩] 93)) (X) [.slice a len cap,.int .i64 now]):=HX.out.below hbN
  replace HC:Hid (BoxR (w1.alloc (.cells #[.int .i64 (c),.int .i64 (n),.nilFunc,.slice none 0 0,.string ⟨#[]⟩] 93)) (X + 1) [.int .i64 u,.int .i64 g,.slice ca cl cc,.bool r]):=HC.out.below hbN
  replace HO:Hid (BoxW (w1.alloc (.cells #[.int .i64 (c),.int .i64 (n),.nilFunc,.slice none 0 0,.string ⟨#[]⟩] 93)) (X + 1 + 1) [.int .i64 0,.int .i64 0,.int .i64 0,.int .i64 0,.int .i64 0,.int .i64 0,.int .i64 0]):=HO.out.below hbN
  clear hb hbN t0 t1 c0 c1 c2 c3 HKq
  go_upto_region 2 with fail
  generalize (w1.alloc (.cells #[.int .i64 (c),.int .i64 (n),.nilFunc,.slice none 0 0,.string ⟨#[]⟩] 93))=w3 at HB HX HC HO HD ⊢
  generalize w1.heap.size=D at HD HDl ⊢
  have d0:w3.cell? ⟨D,0,none⟩=some (.int .i64 (c)):=HD.out.at0 0 _ rfl
  have d1:w3.cell? ⟨D,1,none⟩=some (.int .i64 (n)):=HD.out.at0 1 _ rfl
  by_cases hc:c=0
  case neg =>
    have hc':(c != 0)=true:=by simpa [bne] using hc
    have HE:Hid (R=⟨0,0,0,0,0,0,c⟩):=(by show _=_; rw [HE0,stN,if_neg hc])
    clear HE0 HTh HNd HMo hc
    have o0:w3.cell? ⟨X + 1 + 1,0,none⟩=some (.int .i64 0):=HO.out.at0 0 _ rfl
    have o1:w3.cell? ⟨X + 1 + 1,1,none⟩=some (.int .i64 0):=HO.out.at0 1 _ rfl
    have o2:w3.cell? ⟨X + 1 + 1,2,none⟩=some (.int .i64 0):=HO.out.at0 2 _ rfl
    have o3:w3.cell? ⟨X + 1 + 1,3,none⟩=some (.int .i64 0):=HO.out.at0 3 _ rfl
    have o4:w3.cell? ⟨X + 1 + 1,4,none⟩=some (.int .i64 0):=HO.out.at0 4 _ rfl
    have o5:w3.cell? ⟨X + 1 + 1,5,none⟩=some (.int .i64 0):=HO.out.at0 5 _ rfl
    have o6:w3.cell? ⟨X + 1 + 1,6,none⟩=some (.int .i64 0):=HO.out.at0 6 _ rfl
    have fz:∀ o,w3.frozen? ⟨X + 1 + 1,o,none⟩=false:=HO.out.frz
    go_wp2
    refine bodyPost_ret (v:=.agg #[.int .i64 0,.int .i64 0,.int .i64 0,.int .i64 0,.int .i64 0,.int .i64 0,.int .i64 c]) (by simp [results,Tryz.results22,go_sem,o0,o1,o2,o3,o4,o5,o6]) rfl ?_
    exact ⟨by rw [HE.out]; rfl,(bl_setT (bl_setT (bl_setT (bl_setT (bl_setT (bl_setT (bl_setT HB.out (by have:=HXw.out; omega)) (by have:=HXw.out; omega)) (by have:=HXw.out; omega)) (by have:=HXw.out; omega)) (by have:=HXw.out; omega)) (by have:=HXw.out; omega)) (by have:=HXw.out; omega))⟩
  subst hc
  obtain ⟨_,ht,hcr,hth⟩:=HTh.out.resolve_left (fun h => h rfl)
  have hll:=HNd.out.1
  have h12:len≤12:=by rw [← hll]; exact tree_len ht
  obtain ⟨h1,h2⟩:=inR_iff.1 (thB_num hth)
  obtain ⟨k,rfl⟩:∃ k:Nat,n=(k:Int) + 1:=⟨(n - 1).toNat,by omega⟩
  have hk:k < len:=by omega
  have hk1:(k:Int) < (len:Int):=by omega
  have hk0:(0:Int)≤(k:Int):=by omega
  obtain ⟨tb,off,Y,rfl,hb0,hcN⟩:=HNd.out.2 (by omega)
  have HNx:Hid (N24 w3 tb (off + k * 24) (ndAt l k) (Y k)):=range_below (hcN k hk).1 hb0 HB.out
  have hmo:mdO l now ((k:Int) + 1)=(ndAt l k).mode:=by rw [mdO,ht,hth,at_succ]; rfl
  have HMq:Hid (∀ w',Below w.heap.size w w'→Calls Tryz.prog 53 #[.agg #[.slice (some ⟨tb,off,none⟩) len cap,.int .i64 now],.int .i64 ((k:Int) + 1)] w' fun e w'' => e=.returned (.int .i64 (ndAt l k).mode)∧Below w'.heap.size w' w''):=(by rw [← hmo]; exact HMo.out _)
  have HE:Hid (R=⟨(k:Int) + 1,(ndAt l k).k,(ndAt l k).mode,(ndAt l k).ow,(ndAt l k).gr,(ndAt l k).li,0⟩):=(by show _=_; rw [HE0,stN,if_pos rfl]; simp only [at_succ])
  clear HE0 HTh HMo ht hcr hth hll h12 h1 h2 hcN hmo HNd
  generalize ndAt l k=x at HNx HMq HE
  generalize Y k=y at HNx
  have t0:w3.cell? ⟨X,0,none⟩=some (.slice (some ⟨tb,off,none⟩) len cap):=HX.out.at0 0 _ rfl
  have t1:w3.cell? ⟨X,1,none⟩=some (.int .i64 now):=HX.out.at0 1 _ rfl
  have hbN:Below w3.heap.size w3 ((w3.alloc (.cells #[.int .i64 0,.int .i64 0,.int .i64 0,.int .i64 0,.int .i64 0,.int .i64 0,.int .i64 0,.slice none 0 0,.slice none 0 0,.bool false,.int .i64 0,.bool false,.int .i64 0,.int .i64 0,.int .i64 0,.slice none 0 0,.slice none 0 0,.bool false,.int .i64 0,.int .i64 0,.int .i64 0,.string ⟨#[]⟩,.slice none 0 0,.int .i64 0] 84)).setCells w3.heap.size 0 (ndV x y)):=bl_setsT (Nat.le_refl _) _ _ (bel_alloc _ _)
  have HZn:Hid (BoxR ((w3.alloc (.cells #[.int .i64 0,.int .i64 0,.int .i64 0,.int .i64 0,.int .i64 0,.int .i64 0,.int .i64 0,.slice none 0 0,.slice none 0 0,.bool false,.int .i64 0,.bool false,.int .i64 0,.int .i64 0,.int .i64 0,.slice none 0 0,.slice none 0 0,.bool false,.int .i64 0,.int .i64 0,.int .i64 0,.string ⟨#[]⟩,.slice none 0 0,.int .i64 0] 84)).setCells w3.heap.size 0 (ndV x y)) w3.heap.size (ndV x y)):=⟨by rw [size_setCellsT]; simp,World.rangeAt_setCells_same _ _ _ _ ((boxW_new w3 [.int .i64 0,.int .i64 0,.int .i64 0,.int .i64 0,.int .i64 0,.int .i64 0,.int .i64 0,.slice none 0 0,.slice none 0 0,.bool false,.int .i64 0,.bool false,.int .i64 0,.int .i64 0,.int .i64 0,.slice none 0 0,.slice none 0 0,.bool false,.int .i64 0,.int .i64 0,.int .i64 0,.string ⟨#[]⟩,.slice none 0 0,.int .i64 0] 84).there 0 24 (by simp))⟩
  have HZl:Hid (X + 1 + 1 < w3.heap.size):=HO.out.lt
  replace HB:Hid (Below w.heap.size w ((w3.alloc (.cells #[.int .i64 0,.int .i64 0,.int .i64 0,.int .i64 0,.int .i64 0,.int .i64 0,.int .i64 0,.slice none 0 0,.slice none 0 0,.bool false,.int .i64 0,.bool false,.int .i64 0,.int .i64 0,.int .i64 0,.slice none 0 0,.slice none 0 0,.bool false,.int .i64 0,.int .i64 0,.int .i64 0,.string ⟨#[]⟩,.slice none 0 0,.int .i64 0] 84)).setCells w3.heap.size 0 (ndV x y))):=Below.on HB.out hbN
  replace HX:Hid (BoxR ((w3.alloc (.cells #[.int .i64 0,.int .i64 0,.int .i64 0,.int .i64 0,.int .i64 0,.int .i64 0,.int .i64 0,.slice none 0 0,.slice none 0 0,.bool false,.int .i64 0,.bool false,.int .i64 0,.int .i64 0,.int .i64 0,.slice none 0 0,.slice none 0 0,.bool false,.int .i64 0,.int .i64 0,.int .i64 0,.string ⟨#[]⟩,.slice none 0 0,.int .i64 0] 84)).setCells w3.heap.size 0 (ndV x y)) (X) [.slice (some ⟨tb,off,none⟩) len cap,.int .i64 now]):=HX.out.below hbN
  replace HC:Hid (BoxR ((w3.alloc (.cells #[.int .i64 0,.int .i64 0,.int .i64 0,.int .i64 0,.int .i64 0,.int .i64 0,.int .i64 0,.slice none 0 0,.slice none 0 0,.bool false,.int .i64 0,.bool false,.int .i64 0,.int .i64 0,.int .i64 0,.slice none 0 0,.slice none 0 0,.bool false,.int .i64 0,.int .i64 0,.int .i64 0,.string ⟨#[]⟩,.slice none 0 0,.int .i64 0] 84)).setCells w3.heap.size 0 (ndV x y)) (X + 1) [.int .i64 u,.int .i64 g,.slice ca cl cc,.bool r]):=HC.out.below hbN
  replace HO:Hid (BoxW ((w3.alloc (.cells #[.int .i64 0,.int .i64 0,.int .i64 0,.int .i64 0,.int .i64 0,.int .i64 0,.int .i64 0,.slice none 0 0,.slice none 0 0,.bool false,.int .i64 0,.bool false,.int .i64 0,.int .i64 0,.int .i64 0,.slice none 0 0,.slice none 0 0,.bool false,.int .i64 0,.int .i64 0,.int .i64 0,.string ⟨#[]⟩,.slice none 0 0,.int .i64 0] 84)).setCells w3.heap.size 0 (ndV x y)) (X + 1 + 1) [.int .i64 0,.int .i64 0,.int .i64 0,.int .i64 0,.int .i64 0,.int .i64 0,.int .i64 0]):=HO.out.below hbN
  replace HD:Hid (BoxR ((w3.alloc (.cells #[.int .i64 0,.int .i64 0,.int .i64 0,.int .i64 0,.int .i64 0,.int .i64 0,.int .i64 0,.slice none 0 0,.slice none 0 0,.bool false,.int .i64 0,.bool false,.int .i64 0,.int .i64 0,.int .i64 0,.slice none 0 0,.slice none 0 0,.bool false,.int .i64 0,.int .i64 0,.int .i64 0,.string ⟨#[]⟩,.slice none 0 0,.int .i64 0] 84)).setCells w3.heap.size 0 (ndV x y)) D [.int .i64 (0),.int .i64 ((k:Int) + 1),.nilFunc,.slice none 0 0,.string ⟨#[]⟩]):=HD.out.below hbN
  clear hbN
  go_upto_region 5 with (first | (refine wpList_load_mid (by rfl) 84 _ (by rfl) _ _ (by rfl) _ _ HNx.out Tryz.underlying84 rfl (by kernel_rfl) ?_) | (refine wpList_store_list (by rfl) 84 _ _ (by rfl) _ _ (ndV x y) (by rfl) (by rfl) ((boxW_new w3 [.int .i64 0,.int .i64 0,.int .i64 0,.int .i64 0,.int .i64 0,.int .i64 0,.int .i64 0,.slice none 0 0,.slice none 0 0,.bool false,.int .i64 0,.bool false,.int .i64 0,.int .i64 0,.int .i64 0,.slice none 0 0,.slice none 0 0,.bool false,.int .i64 0,.int .i64 0,.int .i64 0,.string ⟨#[]⟩,.slice none 0 0,.int .i64 0] 84).there 0 24 (by simp)) (by kernel_rfl) (ndV_ones _ _) ?_))
  clear t0 t1 d0 d1 HNx
  generalize ((w3.alloc (.cells #[.int .i64 0,.int .i64 0,.int .i64 0,.int .i64 0,.int .i64 0,.int .i64 0,.int .i64 0,.slice none 0 0,.slice none 0 0,.bool false,.int .i64 0,.bool false,.int .i64 0,.int .i64 0,.int .i64 0,.slice none 0 0,.slice none 0 0,.bool false,.int .i64 0,.int .i64 0,.int .i64 0,.string ⟨#[]⟩,.slice none 0 0,.int .i64 0] 84)).setCells w3.heap.size 0 (ndV x y))=w4 at HB HX HC HO HD HZn ⊢
  generalize w3.heap.size=Z at HZn HZl ⊢
  clear w3
  have t0:w4.cell? ⟨X,0,none⟩=some (.slice (some ⟨tb,off,none⟩) len cap):=HX.out.at0 0 _ rfl
  have t1:w4.cell? ⟨X,1,none⟩=some (.int .i64 now):=HX.out.at0 1 _ rfl
  have d1:w4.cell? ⟨D,1,none⟩=some (.int .i64 ((k:Int) + 1)):=HD.out.at0 1 _ rfl
  have e0:w4.cell? ⟨Z,0,none⟩=some (.int .i64 x.k):=NB.c0 HZn.out
  have e1:w4.cell? ⟨Z,1,none⟩=some (.int .i64 x.ow):=NB.c1 HZn.out
  have e2:w4.cell? ⟨Z,2,none⟩=some (.int .i64 x.gr):=NB.c2 HZn.out
  have e19:w4.cell? ⟨Z,19,none⟩=some (.int .i64 x.li):=NB.c19 HZn.out
  have o0:w4.cell? ⟨X + 1 + 1,0,none⟩=some (.int .i64 0):=HO.out.at0 0 _ rfl
  have o1:w4.cell? ⟨X + 1 + 1,1,none⟩=some (.int .i64 0):=HO.out.at0 1 _ rfl
  have o2:w4.cell? ⟨X + 1 + 1,2,none⟩=some (.int .i64 0):=HO.out.at0 2 _ rfl
  have o3:w4.cell? ⟨X + 1 + 1,3,none⟩=some (.int .i64 0):=HO.out.at0 3 _ rfl
  have o4:w4.cell? ⟨X + 1 + 1,4,none⟩=some (.int .i64 0):=HO.out.at0 4 _ rfl
  have o5:w4.cell? ⟨X + 1 + 1,5,none⟩=some (.int .i64 0):=HO.out.at0 5 _ rfl
  have o6:w4.cell? ⟨X + 1 + 1,6,none⟩=some (.int .i64 0):=HO.out.at0 6 _ rfl
  have fz:∀ o,w4.frozen? ⟨X + 1 + 1,o,none⟩=false:=HO.out.frz
  have nx1:X ≠ X + 1 + 1:=by omega
  have nx2:X + 1 + 1 ≠ X:=by omega
  have nd1:D ≠ X + 1 + 1:=(by have:=HDl.out; omega)
  have nd2:X + 1 + 1 ≠ D:=(by have:=HDl.out; omega)
  have nz1:Z ≠ X + 1 + 1:=(by have:=HZl.out; omega)
  have nz2:X + 1 + 1 ≠ Z:=(by have:=HZl.out; omega)
  go_region_held3 (fun w' => w'.cell? ⟨X,0,none⟩=some (.slice (some ⟨tb,off,none⟩) len cap)∧w'.cell? ⟨X,1,none⟩=some (.int .i64 now)∧w'.cell? ⟨D,1,none⟩=some (.int .i64 ((k:Int) + 1))∧w'.cell? ⟨Z,0,none⟩=some (.int .i64 x.k)∧w'.cell? ⟨Z,1,none⟩=some (.int .i64 x.ow)∧w'.cell? ⟨Z,2,none⟩=some (.int .i64 x.gr)∧w'.cell? ⟨Z,19,none⟩=some (.int .i64 x.li)) (go_keep)
    (first | (go_at_call 53; refine (HMq.out _ (below_drewT HB.out)).mono ?_; rintro e w5 ⟨rfl,hb⟩; have hbq:Below w4.heap.size w4 w5:=⟨hb.os,hb.tape,hb.output,hb.size,hb.block⟩; have HB5:Hid (Below w.heap.size w w5):=Below.on HB.out hbq; have HO5:Hid (BoxW w5 (X + 1 + 1) [.int .i64 0,.int .i64 0,.int .i64 0,.int .i64 0,.int .i64 0,.int .i64 0,.int .i64 0]):=HO.out.below hbq; have HX5:Hid (BoxR w5 X [.slice (some ⟨tb,off,none⟩) len cap,.int .i64 now]):=HX.out.below hbq; have HD5:Hid (BoxR w5 D [.int .i64 (0),.int .i64 ((k:Int) + 1),.nilFunc,.slice none 0 0,.string ⟨#[]⟩]):=HD.out.below hbq; have HZ5:Hid (BoxR w5 Z (ndV x y)):=HZn.out.below hbq; clear hb hbq; have tq0:w5.cell? ⟨X,0,none⟩=some (.slice (some ⟨tb,off,none⟩) len cap):=HX5.out.at0 0 _ rfl; have tq1:w5.cell? ⟨X,1,none⟩=some (.int .i64 now):=HX5.out.at0 1 _ rfl; have dq1:w5.cell? ⟨D,1,none⟩=some (.int .i64 ((k:Int) + 1)):=HD5.out.at0 1 _ rfl; have eq0:w5.cell? ⟨Z,0,none⟩=some (.int .i64 x.k):=NB.c0 HZ5.out; have eq1:w5.cell? ⟨Z,1,none⟩=some (.int .i64 x.ow):=NB.c1 HZ5.out; have eq2:w5.cell? ⟨Z,2,none⟩=some (.int .i64 x.gr):=NB.c2 HZ5.out; have eq19:w5.cell? ⟨Z,19,none⟩=some (.int .i64 x.li):=NB.c19 HZ5.out; have oq0:w5.cell? ⟨X + 1 + 1,0,none⟩=some (.int .i64 0):=HO5.out.at0 0 _ rfl; have oq1:w5.cell? ⟨X + 1 + 1,1,none⟩=some (.int .i64 0):=HO5.out.at0 1 _ rfl; have oq2:w5.cell? ⟨X + 1 + 1,2,none⟩=some (.int .i64 0):=HO5.out.at0 2 _ rfl; have oq3:w5.cell? ⟨X + 1 + 1,3,none⟩=some (.int .i64 0):=HO5.out.at0 3 _ rfl; have oq4:w5.cell? ⟨X + 1 + 1,4,none⟩=some (.int .i64 0):=HO5.out.at0 4 _ rfl; have oq5:w5.cell? ⟨X + 1 + 1,5,none⟩=some (.int .i64 0):=HO5.out.at0 5 _ rfl; have oq6:w5.cell? ⟨X + 1 + 1,6,none⟩=some (.int .i64 0):=HO5.out.at0 6 _ rfl; have fzq:∀ o,w5.frozen? ⟨X + 1 + 1,o,none⟩=false:=HO5.out.frz))
  go_wp2
  refine bodyPost_ret (v:=.agg #[.int .i64 ((k:Int) + 1),.int .i64 x.k,.int .i64 x.mode,.int .i64 x.ow,.int .i64 x.gr,.int .i64 x.li,.int .i64 0]) (by simp [results,Tryz.results22,go_sem,oq0,oq1,oq2,oq3,oq4,oq5,oq6]) rfl ?_
  exact ⟨by rw [HE.out]; rfl,(bl_setT (bl_setT (bl_setT (bl_setT (bl_setT (bl_setT (bl_setT HB5.out (by have:=HXw.out; omega)) (by have:=HXw.out; omega)) (by have:=HXw.out; omega)) (by have:=HXw.out; omega)) (by have:=HXw.out; omega)) (by have:=HXw.out; omega)) (by have:=HXw.out; omega))⟩
end Go.Proofs.YtabfdidnjibdeaaGreatDoor
