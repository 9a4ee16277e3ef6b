/- Laid together: NodeModeW, RdI, RdP, RdW. -/
import Derived.Test.YtabfdidnjibdeaaGreatDoorBR39
import Derived.Laws.EntriesVeiled
namespace Go.Proofs.YtabfdidnjibdeaaGreatDoor
open Go.RowKit Go.PlainAid Go.Deep
set_option linter.unusedVariables false
def adC (l:List Nd) (u g:Int) (cl:Nat) (r:Bool) (cf:Nat→Int) (F:Wo):Int:=if F.c=0 then (if (ndAt l (F.n-1).toNat).k=1 then (if letB (ndAt l (F.n-1).toNat) u g cl r cf 4 then 0 else 11) else 12) else F.c
def adN (l:List Nd) (u g:Int) (cl:Nat) (r:Bool) (cf:Nat→Int) (F:Wo):Int:=if adC l u g cl r cf F=0 then F.n else 0
theorem adN_of {l:List Nd}{u g:Int}{cl:Nat}{r:Bool}{cf:Nat→Int}{F:Wo}(h:adC l u g cl r cf F≠0):adN l u g cl r cf F=0:=by rw [adN,if_neg h]
theorem way_longR {l:List Nd}{now u g:Int}{cl:Nat}{r:Bool}{cf:Nat→Int}{s:ByteArray}{fo:Bool}(h:8000<s.size):wayN (wkF l now u g cl r cf s fo)=woC 2:=by
  rw [wkF,if_pos h,wayN,if_neg (by simp [woC])]
set_option maxRecDepth 20000 in
set_option maxHeartbeats 8000000 in
theorem iAskN_any (a:Option Addr)(len cap:Nat)(l:List Nd)(now:Int)(u g:Int)(ca:Option Addr)(cl cc:Nat)(r:Bool)(cf:Nat→Int)(s:ByteArray)(m:Int)(e1 e2 e3 e4:Addr)(hm:len≤9223372036854775807)(hf:∀ i,i<len→NdFit 1048576 (ndAt l i))(hs:s.size≤1048576)(w:World)(hi:Nds a len l w)(hci:Ints ca cl cf w)(hmx:w.cell? ⟨4,0,none⟩=some (.int .i64 m))(hE:Errs w e1 e2 e3 e4) :
    Calls Tryz.prog 151 #[.agg #[.slice a len cap,.int .i64 now],.agg #[.int .i64 u,.int .i64 g,.slice ca cl cc,.bool r],.agg #[.string s]] w fun e w'=>e=.returned (.agg #[.int .i64 ((adC l u g cl r cf (wayN (wkF l now u g cl r cf s true)))),.int .i64 ((adN l u g cl r cf (wayN (wkF l now u g cl r cf s true)))),.nilFunc,.slice none 0 0,.string ⟨#[]⟩])∧Below w.heap.size w w':=by
  have HWk:Hid (∀ w',Below w.heap.size w w'→Calls Tryz.prog 186 #[.agg #[.slice a len cap,.int .i64 now],.agg #[.int .i64 u,.int .i64 g,.slice ca cl cc,.bool r],.string s,.bool true] w' fun e w''=>e=.returned (woV (wayN (wkF l now u g cl r cf s true)))∧Below w'.heap.size w' w''):=(fun w' hb=>iWayN_any a len cap l now u g ca cl cc r cf s true m e1 e2 e3 e4 hm hf hs w' (hi.below hb) (hci.below hb) ((hb.cell (p:=⟨_,0,none⟩) (block_lt_of_cell hmx)).trans hmx) (hE.below hb))
  have hth0:=wayN_there l now u g cl r cf s true
  have HE0:(adC l u g cl r cf (wayN (wkF l now u g cl r cf s true)))=(adC l u g cl r cf (wayN (wkF l now u g cl r cf s true))):=rfl
  have HE1:(adN l u g cl r cf (wayN (wkF l now u g cl r cf s true)))=(adN l u g cl r cf (wayN (wkF l now u g cl r cf s true))):=rfl
  generalize wayN (wkF l now u g cl r cf s true)=F at HWk hth0 HE0 HE1 ⊢
  obtain ⟨n,fd,fn,c⟩:=F
  clear HE0 HE1
  simp only at hth0
  have HWq:Hid (∀ w',Below w.heap.size w w'→Calls Tryz.prog 186 #[.agg #[.slice a len cap,.int .i64 now],.agg #[.int .i64 u,.int .i64 g,.slice ca cl cc,.bool r],.string s,.bool true] w' fun e w''=>e=.returned (.agg #[.int .i64 n,.int .i64 fd,.string fn,.int .i64 c])∧Below w'.heap.size w' w''):=HWk
  have HTh:Hid (c≠0∨(c=0∧treeB l now=true∧credB u g cl cf=true∧thB l n=true)):=hth0
  have HNd:Hid (Nds a len l w):=hi
  have HCi:Hid (Ints ca cl cf w):=hci
  clear HWk hth0 hi hci hf hmx hE
  have HB:Hid (Below w.heap.size w ((((w.alloc (.cells #[.slice a len cap,.int .i64 now] 35)).alloc (.cells #[.int .i64 u,.int .i64 g,.slice ca cl cc,.bool r] 37)).alloc (.cells #[.string s] 107)).alloc (.cells #[.int .i64 0,.int .i64 0,.nilFunc,.slice none 0 0,.string ⟨#[]⟩] 93))):=(Below.on (Below.on (Below.on (Below.on (Below.refl _ _) (bel_alloc _ _)) (bel_alloc _ _)) (bel_alloc _ _)) (bel_alloc _ _))
  have HX:Hid (BoxR ((((w.alloc (.cells #[.slice a len cap,.int .i64 now] 35)).alloc (.cells #[.int .i64 u,.int .i64 g,.slice ca cl cc,.bool r] 37)).alloc (.cells #[.string s] 107)).alloc (.cells #[.int .i64 0,.int .i64 0,.nilFunc,.slice none 0 0,.string ⟨#[]⟩] 93)) (w.heap.size) [.slice a len cap,.int .i64 now]):=(by
    have h:=((((boxR_new w [.slice a len cap,.int .i64 now] 35).below (bel_alloc (w.alloc (.cells #[.slice a len cap,.int .i64 now] 35)) (.cells #[.int .i64 u,.int .i64 g,.slice ca cl cc,.bool r] 37))).below (bel_alloc ((w.alloc (.cells #[.slice a len cap,.int .i64 now] 35)).alloc (.cells #[.int .i64 u,.int .i64 g,.slice ca cl cc,.bool r] 37)) (.cells #[.string s] 107))).below (bel_alloc (((w.alloc (.cells #[.slice a len cap,.int .i64 now] 35)).alloc (.cells #[.int .i64 u,.int .i64 g,.slice ca cl cc,.bool r] 37)).alloc (.cells #[.string s] 107)) (.cells #[.int .i64 0,.int .i64 0,.nilFunc,.slice none 0 0,.string ⟨#[]⟩] 93)))
    exact h)
  have HC:Hid (BoxR ((((w.alloc (.cells #[.slice a len cap,.int .i64 now] 35)).alloc (.cells #[.int .i64 u,.int .i64 g,.slice ca cl cc,.bool r] 37)).alloc (.cells #[.string s] 107)).alloc (.cells #[.int .i64 0,.int .i64 0,.nilFunc,.slice none 0 0,.string ⟨#[]⟩] 93)) (w.heap.size+1) [.int .i64 u,.int .i64 g,.slice ca cl cc,.bool r]):=(by
    have h:=(((boxR_new (w.alloc (.cells #[.slice a len cap,.int .i64 now] 35)) [.int .i64 u,.int .i64 g,.slice ca cl cc,.bool r] 37).below (bel_alloc ((w.alloc (.cells #[.slice a len cap,.int .i64 now] 35)).alloc (.cells #[.int .i64 u,.int .i64 g,.slice ca cl cc,.bool r] 37)) (.cells #[.string s] 107))).below (bel_alloc (((w.alloc (.cells #[.slice a len cap,.int .i64 now] 35)).alloc (.cells #[.int .i64 u,.int .i64 g,.slice ca cl cc,.bool r] 37)).alloc (.cells #[.string s] 107)) (.cells #[.int .i64 0,.int .i64 0,.nilFunc,.slice none 0 0,.string ⟨#[]⟩] 93)))
    simp only [World.size_alloc] at h
    exact h)
  have HA:Hid (BoxR ((((w.alloc (.cells #[.slice a len cap,.int .i64 now] 35)).alloc (.cells #[.int .i64 u,.int .i64 g,.slice ca cl cc,.bool r] 37)).alloc (.cells #[.string s] 107)).alloc (.cells #[.int .i64 0,.int .i64 0,.nilFunc,.slice none 0 0,.string ⟨#[]⟩] 93)) (w.heap.size+1+1) [.string s]):=(by
    have h:=((boxR_new ((w.alloc (.cells #[.slice a len cap,.int .i64 now] 35)).alloc (.cells #[.int .i64 u,.int .i64 g,.slice ca cl cc,.bool r] 37)) [.string s] 107).below (bel_alloc (((w.alloc (.cells #[.slice a len cap,.int .i64 now] 35)).alloc (.cells #[.int .i64 u,.int .i64 g,.slice ca cl cc,.bool r] 37)).alloc (.cells #[.string s] 107)) (.cells #[.int .i64 0,.int .i64 0,.nilFunc,.slice none 0 0,.string ⟨#[]⟩] 93)))
    simp only [World.size_alloc] at h
    exact h)
  have HO:Hid (BoxW ((((w.alloc (.cells #[.slice a len cap,.int .i64 now] 35)).alloc (.cells #[.int .i64 u,.int .i64 g,.slice ca cl cc,.bool r] 37)).alloc (.cells #[.string s] 107)).alloc (.cells #[.int .i64 0,.int .i64 0,.nilFunc,.slice none 0 0,.string ⟨#[]⟩] 93)) (w.heap.size+1+1+1) [.int .i64 0,.int .i64 0,.nilFunc,.slice none 0 0,.string ⟨#[]⟩]):=(by
    have h:=(boxW_new (((w.alloc (.cells #[.slice a len cap,.int .i64 now] 35)).alloc (.cells #[.int .i64 u,.int .i64 g,.slice ca cl cc,.bool r] 37)).alloc (.cells #[.string s] 107)) [.int .i64 0,.int .i64 0,.nilFunc,.slice none 0 0,.string ⟨#[]⟩] 93)
    simp only [World.size_alloc] at h
    exact h)
  go_enter Tryz.func151,Tryz.ntmps151
  go_upto_region 1 with fail
  generalize ((((w.alloc (.cells #[.slice a len cap,.int .i64 now] 35)).alloc (.cells #[.int .i64 u,.int .i64 g,.slice ca cl cc,.bool r] 37)).alloc (.cells #[.string s] 107)).alloc (.cells #[.int .i64 0,.int .i64 0,.nilFunc,.slice none 0 0,.string ⟨#[]⟩] 93))=w0 at HB HX HC HA HO ⊢
  obtain ⟨X,hX⟩:∃ X,X=w.heap.size:=⟨_,rfl⟩
  have HXw:Hid (X=w.heap.size):=hX
  rw [←hX] at HX HC HA HO ⊢
  clear hX
  have t0:w0.cell? ⟨X,0,none⟩=some (.slice a len cap):=HX.out.at0 0 _ rfl
  have t1:w0.cell? ⟨X,1,none⟩=some (.int .i64 now):=HX.out.at0 1 _ rfl
  have c0:w0.cell? ⟨X+1,0,none⟩=some (.int .i64 u):=HC.out.at0 0 _ rfl
  have c1:w0.cell? ⟨X+1,1,none⟩=some (.int .i64 g):=HC.out.at0 1 _ rfl
  have c2:w0.cell? ⟨X+1,2,none⟩=some (.slice ca cl cc):=HC.out.at0 2 _ rfl
  have c3:w0.cell? ⟨X+1,3,none⟩=some (.bool r):=HC.out.at0 3 _ rfl
  have a0:w0.cell? ⟨X+1+1,0,none⟩=some (.string s):=HA.out.at0 0 _ rfl
  go_wp2_with fail
  refine (HWq.out _ HB.out).mono ?_
  rintro e w1 ⟨rfl,hb⟩
  replace HB:Hid (Below w.heap.size w w1):=Below.on HB.out hb
  replace HX:Hid (BoxR w1 (X) [.slice a len cap,.int .i64 now]):=HX.out.below hb
  replace HC:Hid (BoxR w1 (X+1) [.int .i64 u,.int .i64 g,.slice ca cl cc,.bool r]):=HC.out.below hb
  replace HA:Hid (BoxR w1 (X+1+1) [.string s]):=HA.out.below hb
  replace HO:Hid (BoxW w1 (X+1+1+1) [.int .i64 0,.int .i64 0,.nilFunc,.slice none 0 0,.string ⟨#[]⟩]):=HO.out.below hb
  have HOl:Hid (X+1+1+1<w1.heap.size):=HO.out.lt
  have hbN:Below w1.heap.size w1 (w1.alloc (.cells #[.int .i64 n,.int .i64 fd,.string fn,.int .i64 c] 31)):=bel_alloc _ _
  have HZ:Hid (BoxR (w1.alloc (.cells #[.int .i64 n,.int .i64 fd,.string fn,.int .i64 c] 31)) w1.heap.size [.int .i64 n,.int .i64 fd,.string fn,.int .i64 c]):=boxR_new _ _ _
  replace HB:Hid (Below w.heap.size w (w1.alloc (.cells #[.int .i64 n,.int .i64 fd,.string fn,.int .i64 c] 31))):=Below.on HB.out hbN
  replace HX:Hid (BoxR (w1.alloc (.cells #[.int .i64 n,.int .i64 fd,.string fn,.int .i64 c] 31)) (X) [.slice a len cap,.int .i64 now]):=HX.out.below hbN
  replace HC:Hid (BoxR (w1.alloc (.cells #[.int .i64 n,.int .i64 fd,.string fn,.int .i64 c] 31)) (X+1) [.int .i64 u,.int .i64 g,.slice ca cl cc,.bool r]):=HC.out.below hbN
  replace HA:Hid (BoxR (w1.alloc (.cells #[.int .i64 n,.int .i64 fd,.string fn,.int .i64 c] 31)) (X+1+1) [.string s]):=HA.out.below hbN
  replace HO:Hid (BoxW (w1.alloc (.cells #[.int .i64 n,.int .i64 fd,.string fn,.int .i64 c] 31)) (X+1+1+1) [.int .i64 0,.int .i64 0,.nilFunc,.slice none 0 0,.string ⟨#[]⟩]):=HO.out.below hbN
  have HZl:Hid (X+1+1+1<w1.heap.size):=HOl.out
  clear hb hbN t0 t1 c0 c1 c2 c3 a0 HWq HOl
  go_upto_region 2 with fail
  generalize (w1.alloc (.cells #[.int .i64 n,.int .i64 fd,.string fn,.int .i64 c] 31))=w3 at HB HX HC HA HO HZ ⊢
  generalize w1.heap.size=Z at HZ HZl ⊢
  clear HA
  have z0:w3.cell? ⟨Z,0,none⟩=some (.int .i64 n):=HZ.out.at0 0 _ rfl
  have z3:w3.cell? ⟨Z,3,none⟩=some (.int .i64 c):=HZ.out.at0 3 _ rfl
  by_cases hc:c=0
  case neg =>
    have hc':(c != 0)=true:=by simpa [bne] using hc
    have HE:Hid (adC l u g cl r cf ⟨n,fd,fn,c⟩=c):=(by show _=_;rw [adC,if_neg hc])
    have HE2:Hid (adN l u g cl r cf ⟨n,fd,fn,c⟩=0):=adN_of (by rw [HE.out];exact hc)
    clear HTh HNd HCi hc
    have o0:w3.cell? ⟨X+1+1+1,0,none⟩=some (.int .i64 0):=HO.out.at0 0 _ rfl
    have o1:w3.cell? ⟨X+1+1+1,1,none⟩=some (.int .i64 0):=HO.out.at0 1 _ rfl
    have o2:w3.cell? ⟨X+1+1+1,2,none⟩=some (.nilFunc):=HO.out.at0 2 _ rfl
    have o3:w3.cell? ⟨X+1+1+1,3,none⟩=some (.slice none 0 0):=HO.out.at0 3 _ rfl
    have o4:w3.cell? ⟨X+1+1+1,4,none⟩=some (.string ⟨#[]⟩):=HO.out.at0 4 _ rfl
    have fz:∀ o,w3.frozen? ⟨X+1+1+1,o,none⟩=false:=HO.out.frz
    go_wp2
    refine bodyPost_ret (v:=.agg #[.int .i64 (c),.int .i64 (0),.nilFunc,.slice none 0 0,.string ⟨#[]⟩]) (by simp [results,Tryz.results151,go_sem,o0,o1,o2,o3,o4]) rfl ?_
    exact ⟨by rw [HE.out,HE2.out],(bl_setT (bl_setT (bl_setT (bl_setT (bl_setT HB.out (by have:=HXw.out;omega)) (by have:=HXw.out;omega)) (by have:=HXw.out;omega)) (by have:=HXw.out;omega)) (by have:=HXw.out;omega))⟩
  subst hc
  obtain ⟨_,ht,hcr,hth⟩:=HTh.out.resolve_left (fun h=>h rfl)
  have hll:=HNd.out.1
  have h12:len≤12:=by rw [←hll];exact tree_len ht
  obtain ⟨h1,h2⟩:=inR_iff.1 (thB_num hth)
  obtain ⟨k,rfl⟩:∃ k:Nat,n=(k:Int)+1:=⟨(n-1).toNat,by omega⟩
  have hk:k<len:=by omega
  have hk1:(k:Int)<(len:Int):=by omega
  have hk0:(0:Int)≤(k:Int):=by omega
  obtain ⟨tb,off,Y,rfl,hb0,hcN⟩:=HNd.out.2 (by omega)
  have HNx:Hid (N24 w3 tb (off+k*24) (ndAt l k) (Y k)):=range_below (hcN k hk).1 hb0 HB.out
  have HL:Hid (∀ w',Below w.heap.size w w'→Calls Tryz.prog 92 #[.agg (ndV (ndAt l k) (Y k)).toArray,.agg #[.int .i64 u,.int .i64 g,.slice ca cl cc,.bool r],.int .i64 4] w' fun e w''=>e=.returned (.bool (letB (ndAt l k) u g cl r cf 4))∧Below w'.heap.size w' w''):=(fun w' hb=>iLet_any _ _ u g ca cl cc r cf 4 (ask_node (node_is ht hth) hcr (by decide)) w' ((hcN k hk).2.below hb) (HCi.out.below hb))
  have HE:Hid (adC l u g cl r cf ⟨(k:Int)+1,fd,fn,0⟩=if (ndAt l k).k=1 then (if letB (ndAt l k) u g cl r cf 4 then 0 else 11) else 12):=(by show _=_;rw [adC,if_pos rfl];simp only [at_succ])
  have HE2:Hid (adC l u g cl r cf ⟨(k:Int)+1,fd,fn,0⟩=0→adN l u g cl r cf ⟨(k:Int)+1,fd,fn,0⟩=(k:Int)+1):=(fun h=>by rw [adN,if_pos h])
  have HE3:Hid (adC l u g cl r cf ⟨(k:Int)+1,fd,fn,0⟩≠0→adN l u g cl r cf ⟨(k:Int)+1,fd,fn,0⟩=0):=(fun h=>adN_of h)
  clear HTh ht hcr hth hll h12 h1 h2 hcN HNd HCi
  generalize letB (ndAt l k) u g cl r cf 4=lb at HL HE
  generalize ndAt l k=x at HNx HL HE
  generalize Y k=y at HNx HL
  have t0:w3.cell? ⟨X,0,none⟩=some (.slice (some ⟨tb,off,none⟩) len cap):=HX.out.at0 0 _ rfl
  have t1:w3.cell? ⟨X,1,none⟩=some (.int .i64 now):=HX.out.at0 1 _ rfl
  have hbN:Below w3.heap.size w3 ((w3.alloc (.cells #[.int .i64 0,.int .i64 0,.int .i64 0,.int .i64 0,.int .i64 0,.int .i64 0,.int .i64 0,.slice none 0 0,.slice none 0 0,.bool false,.int .i64 0,.bool false,.int .i64 0,.int .i64 0,.int .i64 0,.slice none 0 0,.slice none 0 0,.bool false,.int .i64 0,.int .i64 0,.int .i64 0,.string ⟨#[]⟩,.slice none 0 0,.int .i64 0] 84)).setCells w3.heap.size 0 (ndV x y)):=bl_setsT (Nat.le_refl _) _ _ (bel_alloc _ _)
  have HZn:Hid (BoxR ((w3.alloc (.cells #[.int .i64 0,.int .i64 0,.int .i64 0,.int .i64 0,.int .i64 0,.int .i64 0,.int .i64 0,.slice none 0 0,.slice none 0 0,.bool false,.int .i64 0,.bool false,.int .i64 0,.int .i64 0,.int .i64 0,.slice none 0 0,.slice none 0 0,.bool false,.int .i64 0,.int .i64 0,.int .i64 0,.string ⟨#[]⟩,.slice none 0 0,.int .i64 0] 84)).setCells w3.heap.size 0 (ndV x y)) w3.heap.size (ndV x y)):=⟨by rw [size_setCellsT];simp,World.rangeAt_setCells_same _ _ _ _ ((boxW_new w3 [.int .i64 0,.int .i64 0,.int .i64 0,.int .i64 0,.int .i64 0,.int .i64 0,.int .i64 0,.slice none 0 0,.slice none 0 0,.bool false,.int .i64 0,.bool false,.int .i64 0,.int .i64 0,.int .i64 0,.slice none 0 0,.slice none 0 0,.bool false,.int .i64 0,.int .i64 0,.int .i64 0,.string ⟨#[]⟩,.slice none 0 0,.int .i64 0] 84).there 0 24 (by simp))⟩
  replace HB:Hid (Below w.heap.size w ((w3.alloc (.cells #[.int .i64 0,.int .i64 0,.int .i64 0,.int .i64 0,.int .i64 0,.int .i64 0,.int .i64 0,.slice none 0 0,.slice none 0 0,.bool false,.int .i64 0,.bool false,.int .i64 0,.int .i64 0,.int .i64 0,.slice none 0 0,.slice none 0 0,.bool false,.int .i64 0,.int .i64 0,.int .i64 0,.string ⟨#[]⟩,.slice none 0 0,.int .i64 0] 84)).setCells w3.heap.size 0 (ndV x y))):=Below.on HB.out hbN
  replace HX:Hid (BoxR ((w3.alloc (.cells #[.int .i64 0,.int .i64 0,.int .i64 0,.int .i64 0,.int .i64 0,.int .i64 0,.int .i64 0,.slice none 0 0,.slice none 0 0,.bool false,.int .i64 0,.bool false,.int .i64 0,.int .i64 0,.int .i64 0,.slice none 0 0,.slice none 0 0,.bool false,.int .i64 0,.int .i64 0,.int .i64 0,.string ⟨#[]⟩,.slice none 0 0,.int .i64 0] 84)).setCells w3.heap.size 0 (ndV x y)) (X) [.slice (some ⟨tb,off,none⟩) len cap,.int .i64 now]):=HX.out.below hbN
  replace HC:Hid (BoxR ((w3.alloc (.cells #[.int .i64 0,.int .i64 0,.int .i64 0,.int .i64 0,.int .i64 0,.int .i64 0,.int .i64 0,.slice none 0 0,.slice none 0 0,.bool false,.int .i64 0,.bool false,.int .i64 0,.int .i64 0,.int .i64 0,.slice none 0 0,.slice none 0 0,.bool false,.int .i64 0,.int .i64 0,.int .i64 0,.string ⟨#[]⟩,.slice none 0 0,.int .i64 0] 84)).setCells w3.heap.size 0 (ndV x y)) (X+1) [.int .i64 u,.int .i64 g,.slice ca cl cc,.bool r]):=HC.out.below hbN
  replace HO:Hid (BoxW ((w3.alloc (.cells #[.int .i64 0,.int .i64 0,.int .i64 0,.int .i64 0,.int .i64 0,.int .i64 0,.int .i64 0,.slice none 0 0,.slice none 0 0,.bool false,.int .i64 0,.bool false,.int .i64 0,.int .i64 0,.int .i64 0,.slice none 0 0,.slice none 0 0,.bool false,.int .i64 0,.int .i64 0,.int .i64 0,.string ⟨#[]⟩,.slice none 0 0,.int .i64 0] 84)).setCells w3.heap.size 0 (ndV x y)) (X+1+1+1) [.int .i64 0,.int .i64 0,.nilFunc,.slice none 0 0,.string ⟨#[]⟩]):=HO.out.below hbN
  replace HZ:Hid (BoxR ((w3.alloc (.cells #[.int .i64 0,.int .i64 0,.int .i64 0,.int .i64 0,.int .i64 0,.int .i64 0,.int .i64 0,.slice none 0 0,.slice none 0 0,.bool false,.int .i64 0,.bool false,.int .i64 0,.int .i64 0,.int .i64 0,.slice none 0 0,.slice none 0 0,.bool false,.int .i64 0,.int .i64 0,.int .i64 0,.string ⟨#[]⟩,.slice none 0 0,.int .i64 0] 84)).setCells w3.heap.size 0 (ndV x y)) Z [.int .i64 ((k:Int)+1),.int .i64 fd,.string fn,.int .i64 0]):=HZ.out.below hbN
  clear hbN
  go_upto_region 5 with (first | (refine wpList_load_mid (by rfl) 84 _ (by rfl) _ _ (by rfl) _ _ HNx.out Tryz.underlying84 rfl (by kernel_rfl) ?_) | (refine wpList_store_list (by rfl) 84 _ _ (by rfl) _ _ (ndV x y) (by rfl) (by rfl) ((boxW_new w3 [.int .i64 0,.int .i64 0,.int .i64 0,.int .i64 0,.int .i64 0,.int .i64 0,.int .i64 0,.slice none 0 0,.slice none 0 0,.bool false,.int .i64 0,.bool false,.int .i64 0,.int .i64 0,.int .i64 0,.slice none 0 0,.slice none 0 0,.bool false,.int .i64 0,.int .i64 0,.int .i64 0,.string ⟨#[]⟩,.slice none 0 0,.int .i64 0] 84).there 0 24 (by simp)) (by kernel_rfl) (ndV_ones _ _) ?_))
  clear t0 t1 z0 z3 HNx
  generalize ((w3.alloc (.cells #[.int .i64 0,.int .i64 0,.int .i64 0,.int .i64 0,.int .i64 0,.int .i64 0,.int .i64 0,.slice none 0 0,.slice none 0 0,.bool false,.int .i64 0,.bool false,.int .i64 0,.int .i64 0,.int .i64 0,.slice none 0 0,.slice none 0 0,.bool false,.int .i64 0,.int .i64 0,.int .i64 0,.string ⟨#[]⟩,.slice none 0 0,.int .i64 0] 84)).setCells w3.heap.size 0 (ndV x y))=w4 at HB HX HC HO HZ HZn ⊢
  generalize w3.heap.size=N at HZn ⊢
  clear w3
  have e0:w4.cell? ⟨N,0,none⟩=some (.int .i64 x.k):=NB.c0 HZn.out
  by_cases hk1x:x.k=1
  case neg =>
    have hkx:(x.k != 1)=true:=by simpa [bne] using hk1x
    have hR:Hid (adC l u g cl r cf ⟨(k:Int)+1,fd,fn,0⟩=12):=(by show _=_;rw [HE.out,if_neg hk1x])
    have hRn:Hid (adN l u g cl r cf ⟨(k:Int)+1,fd,fn,0⟩=0):=HE3.out (by rw [hR.out];decide)
    clear HE HE2 HE3 HL hk1x
    have o0:w4.cell? ⟨X+1+1+1,0,none⟩=some (.int .i64 0):=HO.out.at0 0 _ rfl
    have o1:w4.cell? ⟨X+1+1+1,1,none⟩=some (.int .i64 0):=HO.out.at0 1 _ rfl
    have o2:w4.cell? ⟨X+1+1+1,2,none⟩=some (.nilFunc):=HO.out.at0 2 _ rfl
    have o3:w4.cell? ⟨X+1+1+1,3,none⟩=some (.slice none 0 0):=HO.out.at0 3 _ rfl
    have o4:w4.cell? ⟨X+1+1+1,4,none⟩=some (.string ⟨#[]⟩):=HO.out.at0 4 _ rfl
    have fz:∀ o,w4.frozen? ⟨X+1+1+1,o,none⟩=false:=HO.out.frz
    go_wp2
    refine bodyPost_ret (v:=.agg #[.int .i64 (12),.int .i64 (0),.nilFunc,.slice none 0 0,.string ⟨#[]⟩]) (by simp [results,Tryz.results151,go_sem,o0,o1,o2,o3,o4]) rfl ?_
    exact ⟨by rw [hR.out,hRn.out],(bl_setT (bl_setT (bl_setT (bl_setT (bl_setT HB.out (by have:=HXw.out;omega)) (by have:=HXw.out;omega)) (by have:=HXw.out;omega)) (by have:=HXw.out;omega)) (by have:=HXw.out;omega))⟩
  have hkx:(x.k != 1)=false:=by rw [hk1x];rfl
  have HEl:Hid (adC l u g cl r cf ⟨(k:Int)+1,fd,fn,0⟩=if lb then 0 else 11):=(by show _=_;rw [HE.out,if_pos hk1x])
  clear HE
  have c0:w4.cell? ⟨X+1,0,none⟩=some (.int .i64 u):=HC.out.at0 0 _ rfl
  have c1:w4.cell? ⟨X+1,1,none⟩=some (.int .i64 g):=HC.out.at0 1 _ rfl
  have c2:w4.cell? ⟨X+1,2,none⟩=some (.slice ca cl cc):=HC.out.at0 2 _ rfl
  have c3:w4.cell? ⟨X+1,3,none⟩=some (.bool r):=HC.out.at0 3 _ rfl
  go_wp2_with (first | (refine wpList_load_mid (by rfl) 84 _ (by rfl) _ _ (by rfl) _ _ HZn.out.at0 Tryz.underlying84 rfl (by kernel_rfl) ?_))
  refine (HL.out _ HB.out).mono ?_
  rintro e w5 ⟨rfl,hb⟩
  replace HB:Hid (Below w.heap.size w w5):=Below.on HB.out hb
  replace HX:Hid (BoxR w5 (X) [.slice (some ⟨tb,off,none⟩) len cap,.int .i64 now]):=HX.out.below hb
  replace HC:Hid (BoxR w5 (X+1) [.int .i64 u,.int .i64 g,.slice ca cl cc,.bool r]):=HC.out.below hb
  replace HO:Hid (BoxW w5 (X+1+1+1) [.int .i64 0,.int .i64 0,.nilFunc,.slice none 0 0,.string ⟨#[]⟩]):=HO.out.below hb
  replace HZ:Hid (BoxR w5 Z [.int .i64 ((k:Int)+1),.int .i64 fd,.string fn,.int .i64 0]):=HZ.out.below hb
  clear hb c0 c1 c2 c3 e0 HL HZn hkx hk1x
  cases lb
  · have hR : Hid (adC l u g cl r cf ⟨(k : Int) + 1, fd, fn, 0⟩ = 11) := HEl.out
    have hRn:Hid (adN l u g cl r cf ⟨(k:Int)+1,fd,fn,0⟩=0):=HE3.out (by rw [hR.out];decide)
    clear HEl HE2 HE3
    have o0:w5.cell? ⟨X+1+1+1,0,none⟩=some (.int .i64 0):=HO.out.at0 0 _ rfl
    have o1:w5.cell? ⟨X+1+1+1,1,none⟩=some (.int .i64 0):=HO.out.at0 1 _ rfl
    have o2:w5.cell? ⟨X+1+1+1,2,none⟩=some (.nilFunc):=HO.out.at0 2 _ rfl
    have o3:w5.cell? ⟨X+1+1+1,3,none⟩=some (.slice none 0 0):=HO.out.at0 3 _ rfl
    have o4:w5.cell? ⟨X+1+1+1,4,none⟩=some (.string ⟨#[]⟩):=HO.out.at0 4 _ rfl
    have fz:∀ o,w5.frozen? ⟨X+1+1+1,o,none⟩=false:=HO.out.frz
    go_wp2
    refine bodyPost_ret (v:=.agg #[.int .i64 (11),.int .i64 (0),.nilFunc,.slice none 0 0,.string ⟨#[]⟩]) (by simp [results,Tryz.results151,go_sem,o0,o1,o2,o3,o4]) rfl ?_
    exact ⟨by rw [hR.out,hRn.out],(bl_setT (bl_setT (bl_setT (bl_setT (bl_setT HB.out (by have:=HXw.out;omega)) (by have:=HXw.out;omega)) (by have:=HXw.out;omega)) (by have:=HXw.out;omega)) (by have:=HXw.out;omega))⟩
  · have hR : Hid (adC l u g cl r cf ⟨(k : Int) + 1, fd, fn, 0⟩ = 0) := HEl.out
    have hRn:Hid (adN l u g cl r cf ⟨(k:Int)+1,fd,fn,0⟩=(k:Int)+1):=HE2.out hR.out
    clear HEl HE2 HE3
    have o0:w5.cell? ⟨X+1+1+1,0,none⟩=some (.int .i64 0):=HO.out.at0 0 _ rfl
    have o1:w5.cell? ⟨X+1+1+1,1,none⟩=some (.int .i64 0):=HO.out.at0 1 _ rfl
    have o2:w5.cell? ⟨X+1+1+1,2,none⟩=some (.nilFunc):=HO.out.at0 2 _ rfl
    have o3:w5.cell? ⟨X+1+1+1,3,none⟩=some (.slice none 0 0):=HO.out.at0 3 _ rfl
    have o4:w5.cell? ⟨X+1+1+1,4,none⟩=some (.string ⟨#[]⟩):=HO.out.at0 4 _ rfl
    have fz:∀ o,w5.frozen? ⟨X+1+1+1,o,none⟩=false:=HO.out.frz
    have z0:w5.cell? ⟨Z,0,none⟩=some (.int .i64 ((k:Int)+1)):=HZ.out.at0 0 _ rfl
    go_wp2
    refine bodyPost_ret (v:=.agg #[.int .i64 (0),.int .i64 ((k:Int)+1),.nilFunc,.slice none 0 0,.string ⟨#[]⟩]) (by simp [results,Tryz.results151,go_sem,o0,o1,o2,o3,o4]) rfl ?_
    exact ⟨by rw [hR.out,hRn.out],(bl_setT (bl_setT (bl_setT (bl_setT (bl_setT HB.out (by have:=HXw.out;omega)) (by have:=HXw.out;omega)) (by have:=HXw.out;omega)) (by have:=HXw.out;omega)) (by have:=HXw.out;omega))⟩
set_option maxRecDepth 20000 in
set_option maxHeartbeats 8000000 in
theorem iDeedN_any (a:Option Addr)(len cap:Nat)(l:List Nd)(now:Int)(u g:Int)(ca:Option Addr)(cl cc:Nat)(r:Bool)(cf:Nat→Int)(s:ByteArray)(m:Int)(e1 e2 e3 e4:Addr)(hm:len≤9223372036854775807)(hf:∀ i,i<len→NdFit 1048576 (ndAt l i))(hs:s.size≤1048576)(w:World)(hi:Nds a len l w)(hci:Ints ca cl cf w)(hmx:w.cell? ⟨4,0,none⟩=some (.int .i64 m))(hE:Errs w e1 e2 e3 e4) :
    Calls Tryz.prog 95 #[.agg #[.slice a len cap,.int .i64 now],.agg #[.int .i64 u,.int .i64 g,.slice ca cl cc,.bool r],.iface 107 (.agg #[.string s])] w fun e w'=>e=.returned (.agg #[.int .i64 ((adC l u g cl r cf (wayN (wkF l now u g cl r cf s true)))),.int .i64 ((adN l u g cl r cf (wayN (wkF l now u g cl r cf s true)))),.nilFunc,.slice none 0 0,.string ⟨#[]⟩])∧Below w.heap.size w w':=by
  have HK:Hid (∀ w',Below w.heap.size w w'→Calls Tryz.prog 151 #[.agg #[.slice a len cap,.int .i64 now],.agg #[.int .i64 u,.int .i64 g,.slice ca cl cc,.bool r],.agg #[.string s]] w' fun e w''=>e=.returned (.agg #[.int .i64 ((adC l u g cl r cf (wayN (wkF l now u g cl r cf s true)))),.int .i64 ((adN l u g cl r cf (wayN (wkF l now u g cl r cf s true)))),.nilFunc,.slice none 0 0,.string ⟨#[]⟩])∧Below w'.heap.size w' w''):=(fun w' hb=>iAskN_any a len cap l now u g ca cl cc r cf s m e1 e2 e3 e4 hm hf hs w' (hi.below hb) (hci.below hb) ((hb.cell (p:=⟨_,0,none⟩) (block_lt_of_cell hmx)).trans hmx) (hE.below hb))
  generalize (adN l u g cl r cf (wayN (wkF l now u g cl r cf s true)))=Rn at HK ⊢
  generalize (adC l u g cl r cf (wayN (wkF l now u g cl r cf s true)))=R at HK ⊢
  clear hi hf hci hmx hE
  obtain ⟨zmakeCall,hmakeCall⟩:=run_tA_no (P:=Tryz.prog) (t:=107) Tryz.underlying184 (by kernel_rfl) (by decide)
  have qmakeCall:=fun w=>hmakeCall ((.agg #[.string s])) 146 w
  clear hmakeCall
  obtain ⟨zlinkCall,hlinkCall⟩:=run_tA_no (P:=Tryz.prog) (t:=107) Tryz.underlying189 (by kernel_rfl) (by decide)
  have qlinkCall:=fun w=>hlinkCall ((.agg #[.string s])) 146 w
  clear hlinkCall
  obtain ⟨zdropCall,hdropCall⟩:=run_tA_no (P:=Tryz.prog) (t:=107) Tryz.underlying192 (by kernel_rfl) (by decide)
  have qdropCall:=fun w=>hdropCall ((.agg #[.string s])) 146 w
  clear hdropCall
  obtain ⟨zmoveCall,hmoveCall⟩:=run_tA_no (P:=Tryz.prog) (t:=107) Tryz.underlying194 (by kernel_rfl) (by decide)
  have qmoveCall:=fun w=>hmoveCall ((.agg #[.string s])) 146 w
  clear hmoveCall
  obtain ⟨zmodeCall,hmodeCall⟩:=run_tA_no (P:=Tryz.prog) (t:=107) Tryz.underlying197 (by kernel_rfl) (by decide)
  have qmodeCall:=fun w=>hmodeCall ((.agg #[.string s])) 146 w
  clear hmodeCall
  obtain ⟨zownerCall,hownerCall⟩:=run_tA_no (P:=Tryz.prog) (t:=107) Tryz.underlying200 (by kernel_rfl) (by decide)
  have qownerCall:=fun w=>hownerCall ((.agg #[.string s])) 146 w
  clear hownerCall
  obtain ⟨zlistCall,hlistCall⟩:=run_tA_no (P:=Tryz.prog) (t:=107) Tryz.underlying203 (by kernel_rfl) (by decide)
  have qlistCall:=fun w=>hlistCall ((.agg #[.string s])) 146 w
  clear hlistCall
  obtain ⟨zdefaultCall,hdefaultCall⟩:=run_tA_no (P:=Tryz.prog) (t:=107) Tryz.underlying206 (by kernel_rfl) (by decide)
  have qdefaultCall:=fun w=>hdefaultCall ((.agg #[.string s])) 146 w
  clear hdefaultCall
  obtain ⟨zaccessCall,haccessCall⟩:=run_tA_no (P:=Tryz.prog) (t:=107) Tryz.underlying98 (by kernel_rfl) (by decide)
  have qaccessCall:=fun w=>haccessCall ((.agg #[.string s])) 146 w
  clear haccessCall
  obtain ⟨zstatCall,hstatCall⟩:=run_tA_no (P:=Tryz.prog) (t:=107) Tryz.underlying101 (by kernel_rfl) (by decide)
  have qstatCall:=fun w=>hstatCall ((.agg #[.string s])) 146 w
  clear hstatCall
  have qnamesCall:∀ w,(Instr.typeAssert (.iface 107 (.agg #[.string s])) 146 107 true).run Tryz.prog w=.ok (.tuple #[(.agg #[.string s]),.bool true]) w:=fun w=>run_tA_yes Tryz.underlying107 _ _ w
  have HB:Hid (Below w.heap.size w (((w.alloc (.cells #[.slice a len cap,.int .i64 now] 35)).alloc (.cells #[.int .i64 u,.int .i64 g,.slice ca cl cc,.bool r] 37)).alloc (.cells #[.int .i64 0,.int .i64 0,.nilFunc,.slice none 0 0,.string ⟨#[]⟩] 93))):=(Below.on (Below.on (Below.on (Below.refl _ _) (bel_alloc _ _)) (bel_alloc _ _)) (bel_alloc _ _))
  have HX:Hid (BoxR (((w.alloc (.cells #[.slice a len cap,.int .i64 now] 35)).alloc (.cells #[.int .i64 u,.int .i64 g,.slice ca cl cc,.bool r] 37)).alloc (.cells #[.int .i64 0,.int .i64 0,.nilFunc,.slice none 0 0,.string ⟨#[]⟩] 93)) (w.heap.size) [.slice a len cap,.int .i64 now]):=(by
    have h:=(((boxR_new w [.slice a len cap,.int .i64 now] 35).below (bel_alloc (w.alloc (.cells #[.slice a len cap,.int .i64 now] 35)) (.cells #[.int .i64 u,.int .i64 g,.slice ca cl cc,.bool r] 37))).below (bel_alloc ((w.alloc (.cells #[.slice a len cap,.int .i64 now] 35)).alloc (.cells #[.int .i64 u,.int .i64 g,.slice ca cl cc,.bool r] 37)) (.cells #[.int .i64 0,.int .i64 0,.nilFunc,.slice none 0 0,.string ⟨#[]⟩] 93)))
    exact h)
  have HC:Hid (BoxR (((w.alloc (.cells #[.slice a len cap,.int .i64 now] 35)).alloc (.cells #[.int .i64 u,.int .i64 g,.slice ca cl cc,.bool r] 37)).alloc (.cells #[.int .i64 0,.int .i64 0,.nilFunc,.slice none 0 0,.string ⟨#[]⟩] 93)) (w.heap.size+1) [.int .i64 u,.int .i64 g,.slice ca cl cc,.bool r]):=(by
    have h:=((boxR_new (w.alloc (.cells #[.slice a len cap,.int .i64 now] 35)) [.int .i64 u,.int .i64 g,.slice ca cl cc,.bool r] 37).below (bel_alloc ((w.alloc (.cells #[.slice a len cap,.int .i64 now] 35)).alloc (.cells #[.int .i64 u,.int .i64 g,.slice ca cl cc,.bool r] 37)) (.cells #[.int .i64 0,.int .i64 0,.nilFunc,.slice none 0 0,.string ⟨#[]⟩] 93)))
    simp only [World.size_alloc] at h
    exact h)
  have HO:Hid (BoxW (((w.alloc (.cells #[.slice a len cap,.int .i64 now] 35)).alloc (.cells #[.int .i64 u,.int .i64 g,.slice ca cl cc,.bool r] 37)).alloc (.cells #[.int .i64 0,.int .i64 0,.nilFunc,.slice none 0 0,.string ⟨#[]⟩] 93)) (w.heap.size+1+1) [.int .i64 0,.int .i64 0,.nilFunc,.slice none 0 0,.string ⟨#[]⟩]):=(by
    have h:=(boxW_new ((w.alloc (.cells #[.slice a len cap,.int .i64 now] 35)).alloc (.cells #[.int .i64 u,.int .i64 g,.slice ca cl cc,.bool r] 37)) [.int .i64 0,.int .i64 0,.nilFunc,.slice none 0 0,.string ⟨#[]⟩] 93)
    simp only [World.size_alloc] at h
    exact h)
  go_enter Tryz.func95,Tryz.ntmps95
  go_upto_region 1 with fail
  generalize (((w.alloc (.cells #[.slice a len cap,.int .i64 now] 35)).alloc (.cells #[.int .i64 u,.int .i64 g,.slice ca cl cc,.bool r] 37)).alloc (.cells #[.int .i64 0,.int .i64 0,.nilFunc,.slice none 0 0,.string ⟨#[]⟩] 93))=w0 at HB HX HC HO ⊢
  obtain ⟨X,hX⟩:∃ X,X=w.heap.size:=⟨_,rfl⟩
  have HXw:Hid (X=w.heap.size):=hX
  rw [←hX] at HX HC HO ⊢
  clear hX
  have t0:w0.cell? ⟨X,0,none⟩=some (.slice a len cap):=HX.out.at0 0 _ rfl
  have t1:w0.cell? ⟨X,1,none⟩=some (.int .i64 now):=HX.out.at0 1 _ rfl
  have c0:w0.cell? ⟨X+1,0,none⟩=some (.int .i64 u):=HC.out.at0 0 _ rfl
  have c1:w0.cell? ⟨X+1,1,none⟩=some (.int .i64 g):=HC.out.at0 1 _ rfl
  have c2:w0.cell? ⟨X+1,2,none⟩=some (.slice ca cl cc):=HC.out.at0 2 _ rfl
  have c3:w0.cell? ⟨X+1,3,none⟩=some (.bool r):=HC.out.at0 3 _ rfl
  have hbN:Below w0.heap.size w0 (w0.alloc (.cells #[.string s] 107)):=bel_alloc _ _
  have HA:Hid (BoxR (w0.alloc (.cells #[.string s] 107)) w0.heap.size [.string s]):=boxR_new _ _ _
  go_upto_region 34 with fail
  replace HB:Hid (Below w.heap.size w (w0.alloc (.cells #[.string s] 107))):=Below.on HB.out hbN
  replace HX:Hid (BoxR (w0.alloc (.cells #[.string s] 107)) (X) [.slice a len cap,.int .i64 now]):=HX.out.below hbN
  replace HC:Hid (BoxR (w0.alloc (.cells #[.string s] 107)) (X+1) [.int .i64 u,.int .i64 g,.slice ca cl cc,.bool r]):=HC.out.below hbN
  replace HO:Hid (BoxW (w0.alloc (.cells #[.string s] 107)) (X+1+1) [.int .i64 0,.int .i64 0,.nilFunc,.slice none 0 0,.string ⟨#[]⟩]):=HO.out.below hbN
  clear hbN t0 t1 c0 c1 c2 c3
  generalize (w0.alloc (.cells #[.string s] 107))=w3 at HB HX HC HO HA ⊢
  generalize w0.heap.size=Z at HA ⊢
  clear w0
  generalize w3=w0 at HB HX HC HO HA ⊢
  have t0:w0.cell? ⟨X,0,none⟩=some (.slice a len cap):=HX.out.at0 0 _ rfl
  have t1:w0.cell? ⟨X,1,none⟩=some (.int .i64 now):=HX.out.at0 1 _ rfl
  have c0:w0.cell? ⟨X+1,0,none⟩=some (.int .i64 u):=HC.out.at0 0 _ rfl
  have c1:w0.cell? ⟨X+1,1,none⟩=some (.int .i64 g):=HC.out.at0 1 _ rfl
  have c2:w0.cell? ⟨X+1,2,none⟩=some (.slice ca cl cc):=HC.out.at0 2 _ rfl
  have c3:w0.cell? ⟨X+1,3,none⟩=some (.bool r):=HC.out.at0 3 _ rfl
  have a0:w0.cell? ⟨Z,0,none⟩=some (.string s):=HA.out.at0 0 _ rfl
  go_wp2_with fail
  refine (HK.out _ HB.out).mono ?_
  rintro e w1 ⟨rfl,hb⟩
  replace HB:Hid (Below w.heap.size w w1):=Below.on HB.out hb
  replace HX:Hid (BoxR w1 (X) [.slice a len cap,.int .i64 now]):=HX.out.below hb
  replace HC:Hid (BoxR w1 (X+1) [.int .i64 u,.int .i64 g,.slice ca cl cc,.bool r]):=HC.out.below hb
  replace HO:Hid (BoxW w1 (X+1+1) [.int .i64 0,.int .i64 0,.nilFunc,.slice none 0 0,.string ⟨#[]⟩]):=HO.out.below hb
  clear hb t0 t1 c0 c1 c2 c3 a0 HK HA
  have o0:w1.cell? ⟨X+1+1,0,none⟩=some (.int .i64 0):=HO.out.at0 0 _ rfl
  have o1:w1.cell? ⟨X+1+1,1,none⟩=some (.int .i64 0):=HO.out.at0 1 _ rfl
  have o2:w1.cell? ⟨X+1+1,2,none⟩=some (.nilFunc):=HO.out.at0 2 _ rfl
  have o3:w1.cell? ⟨X+1+1,3,none⟩=some (.slice none 0 0):=HO.out.at0 3 _ rfl
  have o4:w1.cell? ⟨X+1+1,4,none⟩=some (.string ⟨#[]⟩):=HO.out.at0 4 _ rfl
  have fz:∀ o,w1.frozen? ⟨X+1+1,o,none⟩=false:=HO.out.frz
  go_wp2
  refine bodyPost_ret (v:=.agg #[.int .i64 (R),.int .i64 (Rn),.nilFunc,.slice none 0 0,.string ⟨#[]⟩]) (by simp [results,Tryz.results95,go_sem,o0,o1,o2,o3,o4]) rfl ?_
  exact ⟨by rw [show R=R from rfl],(by repeat (first | exact HB.out | refine bl_setT ?_ (by have:=HXw.out;omega)))⟩
theorem iRight1_any (s:ByteArray)(w:World) :
    Calls Tryz.prog 266 #[.agg #[.string s]] w fun e w'=>e=.returned (.bool true)∧Below w.heap.size w w':=by
  have HB:Hid (Below w.heap.size w (w.alloc (.cells #[.string s] 96))):=bel_alloc _ _
  go_enter Tryz.func266,Tryz.ntmps266
  go_wp2
  go_ret
  exact ⟨rfl,HB.out⟩
set_option maxRecDepth 20000 in
set_option maxHeartbeats 8000000 in
theorem iPlanN_any (a:Option Addr)(len cap:Nat)(l:List Nd)(now:Int)(u g:Int)(ca:Option Addr)(cl cc:Nat)(r:Bool)(cf:Nat→Int)(s:ByteArray)(m:Int)(e1 e2 e3 e4:Addr)(hm:len≤9223372036854775807)(hf:∀ i,i<len→NdFit 1048576 (ndAt l i))(hs:s.size≤1048576)(w:World)(hi:Nds a len l w)(hci:Ints ca cl cf w)(hmx:w.cell? ⟨4,0,none⟩=some (.int .i64 m))(hE:Errs w e1 e2 e3 e4) :
    Calls Tryz.prog 51 #[.agg #[.slice a len cap,.int .i64 now],.agg #[.int .i64 u,.int .i64 g,.slice ca cl cc,.bool r],.iface 107 (.agg #[.string s])] w fun e w'=>e=.returned (.agg #[.int .i64 ((adC l u g cl r cf (wayN (wkF l now u g cl r cf s true)))),.int .i64 ((adN l u g cl r cf (wayN (wkF l now u g cl r cf s true)))),.nilFunc,.slice none 0 0,.string ⟨#[]⟩])∧Below w.heap.size w w':=by
  have HK:Hid (∀ w',Below w.heap.size w w'→Calls Tryz.prog 95 #[.agg #[.slice a len cap,.int .i64 now],.agg #[.int .i64 u,.int .i64 g,.slice ca cl cc,.bool r],.iface 107 (.agg #[.string s])] w' fun e w''=>e=.returned (.agg #[.int .i64 ((adC l u g cl r cf (wayN (wkF l now u g cl r cf s true)))),.int .i64 ((adN l u g cl r cf (wayN (wkF l now u g cl r cf s true)))),.nilFunc,.slice none 0 0,.string ⟨#[]⟩])∧Below w'.heap.size w' w''):=(fun w' hb=>iDeedN_any a len cap l now u g ca cl cc r cf s m e1 e2 e3 e4 hm hf hs w' (hi.below hb) (hci.below hb) ((hb.cell (p:=⟨_,0,none⟩) (block_lt_of_cell hmx)).trans hmx) (hE.below hb))
  have HL:Hid (8000<s.size→(adC l u g cl r cf (wayN (wkF l now u g cl r cf s true)))=2∧(adN l u g cl r cf (wayN (wkF l now u g cl r cf s true)))=0):=(fun h=>by rw [way_longR h];exact ⟨by simp [adC,woC],by simp [adN,adC,woC]⟩)
  generalize (adN l u g cl r cf (wayN (wkF l now u g cl r cf s true)))=Rn at HK HL ⊢
  generalize (adC l u g cl r cf (wayN (wkF l now u g cl r cf s true)))=R at HK HL ⊢
  clear hi hf hci hmx hE
  have HB:Hid (Below w.heap.size w (((w.alloc (.cells #[.slice a len cap,.int .i64 now] 35)).alloc (.cells #[.int .i64 u,.int .i64 g,.slice ca cl cc,.bool r] 37)).alloc (.cells #[.int .i64 0,.int .i64 0,.nilFunc,.slice none 0 0,.string ⟨#[]⟩] 93))):=(Below.on (Below.on (Below.on (Below.refl _ _) (bel_alloc _ _)) (bel_alloc _ _)) (bel_alloc _ _))
  have HX:Hid (BoxR (((w.alloc (.cells #[.slice a len cap,.int .i64 now] 35)).alloc (.cells #[.int .i64 u,.int .i64 g,.slice ca cl cc,.bool r] 37)).alloc (.cells #[.int .i64 0,.int .i64 0,.nilFunc,.slice none 0 0,.string ⟨#[]⟩] 93)) (w.heap.size) [.slice a len cap,.int .i64 now]):=(by
    have h:=(((boxR_new w [.slice a len cap,.int .i64 now] 35).below (bel_alloc (w.alloc (.cells #[.slice a len cap,.int .i64 now] 35)) (.cells #[.int .i64 u,.int .i64 g,.slice ca cl cc,.bool r] 37))).below (bel_alloc ((w.alloc (.cells #[.slice a len cap,.int .i64 now] 35)).alloc (.cells #[.int .i64 u,.int .i64 g,.slice ca cl cc,.bool r] 37)) (.cells #[.int .i64 0,.int .i64 0,.nilFunc,.slice none 0 0,.string ⟨#[]⟩] 93)))
    exact h)
  have HC:Hid (BoxR (((w.alloc (.cells #[.slice a len cap,.int .i64 now] 35)).alloc (.cells #[.int .i64 u,.int .i64 g,.slice ca cl cc,.bool r] 37)).alloc (.cells #[.int .i64 0,.int .i64 0,.nilFunc,.slice none 0 0,.string ⟨#[]⟩] 93)) (w.heap.size+1) [.int .i64 u,.int .i64 g,.slice ca cl cc,.bool r]):=(by
    have h:=((boxR_new (w.alloc (.cells #[.slice a len cap,.int .i64 now] 35)) [.int .i64 u,.int .i64 g,.slice ca cl cc,.bool r] 37).below (bel_alloc ((w.alloc (.cells #[.slice a len cap,.int .i64 now] 35)).alloc (.cells #[.int .i64 u,.int .i64 g,.slice ca cl cc,.bool r] 37)) (.cells #[.int .i64 0,.int .i64 0,.nilFunc,.slice none 0 0,.string ⟨#[]⟩] 93)))
    simp only [World.size_alloc] at h
    exact h)
  have HO:Hid (BoxW (((w.alloc (.cells #[.slice a len cap,.int .i64 now] 35)).alloc (.cells #[.int .i64 u,.int .i64 g,.slice ca cl cc,.bool r] 37)).alloc (.cells #[.int .i64 0,.int .i64 0,.nilFunc,.slice none 0 0,.string ⟨#[]⟩] 93)) (w.heap.size+1+1) [.int .i64 0,.int .i64 0,.nilFunc,.slice none 0 0,.string ⟨#[]⟩]):=(by
    have h:=(boxW_new ((w.alloc (.cells #[.slice a len cap,.int .i64 now] 35)).alloc (.cells #[.int .i64 u,.int .i64 g,.slice ca cl cc,.bool r] 37)) [.int .i64 0,.int .i64 0,.nilFunc,.slice none 0 0,.string ⟨#[]⟩] 93)
    simp only [World.size_alloc] at h
    exact h)
  go_enter Tryz.func51,Tryz.ntmps51
  go_upto_region 1 with fail
  generalize (((w.alloc (.cells #[.slice a len cap,.int .i64 now] 35)).alloc (.cells #[.int .i64 u,.int .i64 g,.slice ca cl cc,.bool r] 37)).alloc (.cells #[.int .i64 0,.int .i64 0,.nilFunc,.slice none 0 0,.string ⟨#[]⟩] 93))=w0 at HB HX HC HO ⊢
  obtain ⟨X,hX⟩:∃ X,X=w.heap.size:=⟨_,rfl⟩
  have HXw:Hid (X=w.heap.size):=hX
  rw [←hX] at HX HC HO ⊢
  clear hX
  have t0:w0.cell? ⟨X,0,none⟩=some (.slice a len cap):=HX.out.at0 0 _ rfl
  have t1:w0.cell? ⟨X,1,none⟩=some (.int .i64 now):=HX.out.at0 1 _ rfl
  have c0:w0.cell? ⟨X+1,0,none⟩=some (.int .i64 u):=HC.out.at0 0 _ rfl
  have c1:w0.cell? ⟨X+1,1,none⟩=some (.int .i64 g):=HC.out.at0 1 _ rfl
  have c2:w0.cell? ⟨X+1,2,none⟩=some (.slice ca cl cc):=HC.out.at0 2 _ rfl
  have c3:w0.cell? ⟨X+1,3,none⟩=some (.bool r):=HC.out.at0 3 _ rfl
  go_wp2_with fail
  refine (iTexts1_any s _).mono ?_
  rintro e w1 ⟨B,rfl,hB,hb⟩
  replace HB:Hid (Below w.heap.size w w1):=Below.on HB.out hb
  replace HX:Hid (BoxR w1 (X) [.slice a len cap,.int .i64 now]):=HX.out.below hb
  replace HC:Hid (BoxR w1 (X+1) [.int .i64 u,.int .i64 g,.slice ca cl cc,.bool r]):=HC.out.below hb
  replace HO:Hid (BoxW w1 (X+1+1) [.int .i64 0,.int .i64 0,.nilFunc,.slice none 0 0,.string ⟨#[]⟩]):=HO.out.below hb
  have HS:Hid (w1.cell? ⟨B,0,none⟩=some (.string s)):=hB
  clear hb hB t0 t1 c0 c1 c2 c3
  go_wp2_with fail
  refine (contF1_any B 1 s _ HS.out).mono ?_
  rintro e w2 ⟨rfl,hw⟩
  have hw2:=hw.symm
  clear hw
  subst hw2
  clear HS
  have t0:w1.cell? ⟨X,0,none⟩=some (.slice a len cap):=HX.out.at0 0 _ rfl
  have t1:w1.cell? ⟨X,1,none⟩=some (.int .i64 now):=HX.out.at0 1 _ rfl
  have c0:w1.cell? ⟨X+1,0,none⟩=some (.int .i64 u):=HC.out.at0 0 _ rfl
  have c1:w1.cell? ⟨X+1,1,none⟩=some (.int .i64 g):=HC.out.at0 1 _ rfl
  have c2:w1.cell? ⟨X+1,2,none⟩=some (.slice ca cl cc):=HC.out.at0 2 _ rfl
  have c3:w1.cell? ⟨X+1,3,none⟩=some (.bool r):=HC.out.at0 3 _ rfl
  have o0:w1.cell? ⟨X+1+1,0,none⟩=some (.int .i64 0):=HO.out.at0 0 _ rfl
  have o1:w1.cell? ⟨X+1+1,1,none⟩=some (.int .i64 0):=HO.out.at0 1 _ rfl
  have o2:w1.cell? ⟨X+1+1,2,none⟩=some (.nilFunc):=HO.out.at0 2 _ rfl
  have o3:w1.cell? ⟨X+1+1,3,none⟩=some (.slice none 0 0):=HO.out.at0 3 _ rfl
  have o4:w1.cell? ⟨X+1+1,4,none⟩=some (.string ⟨#[]⟩):=HO.out.at0 4 _ rfl
  have fz:∀ o,w1.frozen? ⟨X+1+1,o,none⟩=false:=HO.out.frz
  by_cases h8:8000<s.size
  · have hd : decide (8000 < s.size) = true := by simp [h8]
    have HE:Hid (R=2):=(HL.out h8).1
    have HE2:Hid (Rn=0):=(HL.out h8).2
    rw [hd]
    clear hd h8 HK HL
    go_wp2
    refine bodyPost_ret (v:=.agg #[.int .i64 (2),.int .i64 (0),.nilFunc,.slice none 0 0,.string ⟨#[]⟩]) (by simp [results,Tryz.results51,go_sem,o0,o1,o2,o3,o4]) rfl ?_
    exact ⟨by rw [HE.out,HE2.out],(by repeat (first | exact HB.out | refine bl_setT ?_ (by have:=HXw.out;omega)))⟩
  have hd:decide (8000<s.size)=false:=by simp [h8]
  rw [hd]
  clear hd h8 HL
  go_wp2_with fail
  refine (iRight1_any s _).mono ?_
  rintro e w3 ⟨rfl,hb⟩
  clear t0 t1 c0 c1 c2 c3 o0 o1 o2 o3 o4 fz
  replace HB:Hid (Below w.heap.size w w3):=Below.on HB.out hb
  replace HX:Hid (BoxR w3 (X) [.slice a len cap,.int .i64 now]):=HX.out.below hb
  replace HC:Hid (BoxR w3 (X+1) [.int .i64 u,.int .i64 g,.slice ca cl cc,.bool r]):=HC.out.below hb
  replace HO:Hid (BoxW w3 (X+1+1) [.int .i64 0,.int .i64 0,.nilFunc,.slice none 0 0,.string ⟨#[]⟩]):=HO.out.below hb
  clear hb
  have t0:w3.cell? ⟨X,0,none⟩=some (.slice a len cap):=HX.out.at0 0 _ rfl
  have t1:w3.cell? ⟨X,1,none⟩=some (.int .i64 now):=HX.out.at0 1 _ rfl
  have c0:w3.cell? ⟨X+1,0,none⟩=some (.int .i64 u):=HC.out.at0 0 _ rfl
  have c1:w3.cell? ⟨X+1,1,none⟩=some (.int .i64 g):=HC.out.at0 1 _ rfl
  have c2:w3.cell? ⟨X+1,2,none⟩=some (.slice ca cl cc):=HC.out.at0 2 _ rfl
  have c3:w3.cell? ⟨X+1,3,none⟩=some (.bool r):=HC.out.at0 3 _ rfl
  go_wp2_with fail
  refine (HK.out _ HB.out).mono ?_
  rintro e w4 ⟨rfl,hb⟩
  clear t0 t1 c0 c1 c2 c3
  replace HB:Hid (Below w.heap.size w w4):=Below.on HB.out hb
  replace HX:Hid (BoxR w4 (X) [.slice a len cap,.int .i64 now]):=HX.out.below hb
  replace HC:Hid (BoxR w4 (X+1) [.int .i64 u,.int .i64 g,.slice ca cl cc,.bool r]):=HC.out.below hb
  replace HO:Hid (BoxW w4 (X+1+1) [.int .i64 0,.int .i64 0,.nilFunc,.slice none 0 0,.string ⟨#[]⟩]):=HO.out.below hb
  clear hb HK
  have o0:w4.cell? ⟨X+1+1,0,none⟩=some (.int .i64 0):=HO.out.at0 0 _ rfl
  have o1:w4.cell? ⟨X+1+1,1,none⟩=some (.int .i64 0):=HO.out.at0 1 _ rfl
  have o2:w4.cell? ⟨X+1+1,2,none⟩=some (.nilFunc):=HO.out.at0 2 _ rfl
  have o3:w4.cell? ⟨X+1+1,3,none⟩=some (.slice none 0 0):=HO.out.at0 3 _ rfl
  have o4:w4.cell? ⟨X+1+1,4,none⟩=some (.string ⟨#[]⟩):=HO.out.at0 4 _ rfl
  have fz:∀ o,w4.frozen? ⟨X+1+1,o,none⟩=false:=HO.out.frz
  go_wp2
  refine bodyPost_ret (v:=.agg #[.int .i64 (R),.int .i64 (Rn),.nilFunc,.slice none 0 0,.string ⟨#[]⟩]) (by simp [results,Tryz.results51,go_sem,o0,o1,o2,o3,o4]) rfl ?_
  exact ⟨by rw [show R=R from rfl],(by repeat (first | exact HB.out | refine bl_setT ?_ (by have:=HXw.out;omega)))⟩
def nmsL (ns:List (ByteArray × Int)):List ByteArray:=ns.map Prod.fst
theorem nmsL_len (ns:List (ByteArray × Int)):(nmsL ns).length=ns.length:=by simp [nmsL]
theorem nmsL_next {ns:List (ByteArray × Int)}{k:Nat}(h:k<ns.length):nmsL (ns.take (k+1))=nmsL (ns.take k)++[nmAt ns k]:=by
  simp only [nmsL,List.map_take]
  rw [List.take_succ_eq_append_getElem (by simpa using h)]
  simp [nmAt,List.getD,h]
theorem nmsL_all (ns:List (ByteArray × Int)):nmsL (ns.take ns.length)=nmsL ns:=by rw [List.take_length]
def rdL (l:List Nd) (C:Int) (F:Wo):List ByteArray:=if C=0 then nmsL (ndAt l (F.n-1).toNat).ns else []
theorem names_six {l:List Nd}{now:Int}{k:Nat}(h:nodeB l now k=true)(hk:(ndAt l k).k=1):(ndAt l k).ns.length≤6:=by
  simp only [nodeB,kindB,hk,dirB,nsB,Bool.and_eq_true] at h
  have h2:=h.2.2.2.2.2.2.2
  simp only [beq_self_eq_true,if_true,Bool.and_eq_true,decide_eq_true_eq] at h2
  exact h2.2.2.2.2.1.1
theorem row_sliceT {w:World}{B:Nat}{t:TypeId}{v:Value}{n:Nat}{xs:List Value}(h:w.ownsRow B t 1 v n xs):∃ a l c,v=.slice a l c:=by
  obtain ⟨_,⟨rfl,_⟩ | ⟨g,cap,cur,rfl,_⟩⟩:=h
  · exact ⟨_,_,_,rfl⟩
  · exact ⟨_,_,_,rfl⟩
theorem adC_zero {l:List Nd}{u g:Int}{cl:Nat}{r:Bool}{cf:Nat→Int}{F:Wo}(h:adC l u g cl r cf F=0):F.c=0∧(ndAt l (F.n-1).toNat).k=1:=by
  unfold adC at h
  by_cases hc:F.c=0
  · rw [if_pos hc] at h
    by_cases hk:(ndAt l (F.n-1).toNat).k=1
    · exact ⟨hc,hk⟩
    · rw [if_neg hk] at h;exact absurd h (by decide)
  · rw [if_neg hc] at h;exact absurd h hc
set_option maxRecDepth 20000 in
set_option maxHeartbeats 8000000 in
theorem iReadDir_any (a:Option Addr)(len cap:Nat)(l:List Nd)(now:Int)(u g:Int)(ca:Option Addr)(cl cc:Nat)(r:Bool)(cf:Nat→Int)(s:ByteArray)(m:Int)(e1 e2 e3 e4:Addr)(hm:len≤9223372036854775807)(hf:∀ i,i<len→NdFit 1048576 (ndAt l i))(hs:s.size≤1048576)(w:World)(hi:Nds a len l w)(hci:Ints ca cl cf w)(hmx:w.cell? ⟨4,0,none⟩=some (.int .i64 m))(hE:Errs w e1 e2 e3 e4) :
    Calls Tryz.prog 25 #[.agg #[.slice a len cap,.int .i64 now],.agg #[.int .i64 u,.int .i64 g,.slice ca cl cc,.bool r],.string s] w fun e w'=>∃ v,e=.returned (.agg #[v,.int .i64 (adC l u g cl r cf (wayN (wkF l now u g cl r cf s true)))])∧w'.ownsRow w.heap.size 9 1 v (rdL l (adC l u g cl r cf (wayN (wkF l now u g cl r cf s true))) (wayN (wkF l now u g cl r cf s true))).length (tv (rdL l (adC l u g cl r cf (wayN (wkF l now u g cl r cf s true))) (wayN (wkF l now u g cl r cf s true))))∧Below w.heap.size w w':=by
  have HK:Hid (∀ w',Below w.heap.size w w'→Calls Tryz.prog 51 #[.agg #[.slice a len cap,.int .i64 now],.agg #[.int .i64 u,.int .i64 g,.slice ca cl cc,.bool r],.iface 107 (.agg #[.string s])] w' fun e w''=>e=.returned (.agg #[.int .i64 ((adC l u g cl r cf (wayN (wkF l now u g cl r cf s true)))),.int .i64 ((adN l u g cl r cf (wayN (wkF l now u g cl r cf s true)))),.nilFunc,.slice none 0 0,.string ⟨#[]⟩])∧Below w'.heap.size w' w''):=(fun w' hb=>iPlanN_any a len cap l now u g ca cl cc r cf s m e1 e2 e3 e4 hm hf hs w' (hi.below hb) (hci.below hb) ((hb.cell (p:=⟨_,0,none⟩) (block_lt_of_cell hmx)).trans hmx) (hE.below hb))
  have hth:=wayN_there l now u g cl r cf s true
  have HFt:Hid (∀ i,i<len→NdFit 1048576 (ndAt l i)):=hf
  generalize wayN (wkF l now u g cl r cf s true)=F at HK hth ⊢
  have HZc:Hid (adC l u g cl r cf F=0→F.c=0∧(ndAt l (F.n-1).toNat).k=1):=adC_zero
  have HAn:Hid (adC l u g cl r cf F=0→adN l u g cl r cf F=F.n):=(fun h=>by rw [adN,if_pos h])
  generalize adN l u g cl r cf F=Rn at HK HAn
  generalize adC l u g cl r cf F=R at HK HZc HAn ⊢
  have HKq:Hid (∀ w',Below w.heap.size w w'→Calls Tryz.prog 51 #[.agg #[.slice a len cap,.int .i64 now],.agg #[.int .i64 u,.int .i64 g,.slice ca cl cc,.bool r],.iface 107 (.agg #[.string s])] w' fun e w''=>e=.returned (.agg #[.int .i64 (R),.int .i64 (Rn),.nilFunc,.slice none 0 0,.string ⟨#[]⟩])∧Below w'.heap.size w' w''):=HK
  have HTh:Hid (F.c≠0∨(F.c=0∧treeB l now=true∧credB u g cl cf=true∧thB l F.n=true)):=hth
  have HNd:Hid (Nds a len l w):=hi
  clear HK hth hf hci hmx hE hi
  have HB:Hid (Below w.heap.size w (((w.alloc (.cells #[.slice a len cap,.int .i64 now] 35)).alloc (.cells #[.int .i64 u,.int .i64 g,.slice ca cl cc,.bool r] 37)).alloc (.cells #[.slice none 0 0,.int .i64 0] 52))):=(Below.on (Below.on (Below.on (Below.refl _ _) (bel_alloc _ _)) (bel_alloc _ _)) (bel_alloc _ _))
  have HX:Hid (BoxR (((w.alloc (.cells #[.slice a len cap,.int .i64 now] 35)).alloc (.cells #[.int .i64 u,.int .i64 g,.slice ca cl cc,.bool r] 37)).alloc (.cells #[.slice none 0 0,.int .i64 0] 52)) (w.heap.size) [.slice a len cap,.int .i64 now]):=(by
    have h:=(((boxR_new w [.slice a len cap,.int .i64 now] 35).below (bel_alloc (w.alloc (.cells #[.slice a len cap,.int .i64 now] 35)) (.cells #[.int .i64 u,.int .i64 g,.slice ca cl cc,.bool r] 37))).below (bel_alloc ((w.alloc (.cells #[.slice a len cap,.int .i64 now] 35)).alloc (.cells #[.int .i64 u,.int .i64 g,.slice ca cl cc,.bool r] 37)) (.cells #[.slice none 0 0,.int .i64 0] 52)))
    exact h)
  have HC:Hid (BoxR (((w.alloc (.cells #[.slice a len cap,.int .i64 now] 35)).alloc (.cells #[.int .i64 u,.int .i64 g,.slice ca cl cc,.bool r] 37)).alloc (.cells #[.slice none 0 0,.int .i64 0] 52)) (w.heap.size+1) [.int .i64 u,.int .i64 g,.slice ca cl cc,.bool r]):=(by
    have h:=((boxR_new (w.alloc (.cells #[.slice a len cap,.int .i64 now] 35)) [.int .i64 u,.int .i64 g,.slice ca cl cc,.bool r] 37).below (bel_alloc ((w.alloc (.cells #[.slice a len cap,.int .i64 now] 35)).alloc (.cells #[.int .i64 u,.int .i64 g,.slice ca cl cc,.bool r] 37)) (.cells #[.slice none 0 0,.int .i64 0] 52)))
    simp only [World.size_alloc] at h
    exact h)
  have HO:Hid (BoxW (((w.alloc (.cells #[.slice a len cap,.int .i64 now] 35)).alloc (.cells #[.int .i64 u,.int .i64 g,.slice ca cl cc,.bool r] 37)).alloc (.cells #[.slice none 0 0,.int .i64 0] 52)) (w.heap.size+1+1) [.slice none 0 0,.int .i64 0]):=(by
    have h:=(boxW_new ((w.alloc (.cells #[.slice a len cap,.int .i64 now] 35)).alloc (.cells #[.int .i64 u,.int .i64 g,.slice ca cl cc,.bool r] 37)) [.slice none 0 0,.int .i64 0] 52)
    simp only [World.size_alloc] at h
    exact h)
  go_enter Tryz.func25,Tryz.ntmps25
  go_upto_region 1 with fail
  generalize (((w.alloc (.cells #[.slice a len cap,.int .i64 now] 35)).alloc (.cells #[.int .i64 u,.int .i64 g,.slice ca cl cc,.bool r] 37)).alloc (.cells #[.slice none 0 0,.int .i64 0] 52))=w0 at HB HX HC HO ⊢
  obtain ⟨X,hX⟩:∃ X,X=w.heap.size:=⟨_,rfl⟩
  have HXw:Hid (X=w.heap.size):=hX
  rw [←hX] at HX HC HO ⊢
  clear hX
  have t0:w0.cell? ⟨X,0,none⟩=some (.slice a len cap):=HX.out.at0 0 _ rfl
  have t1:w0.cell? ⟨X,1,none⟩=some (.int .i64 now):=HX.out.at0 1 _ rfl
  have c0:w0.cell? ⟨X+1,0,none⟩=some (.int .i64 u):=HC.out.at0 0 _ rfl
  have c1:w0.cell? ⟨X+1,1,none⟩=some (.int .i64 g):=HC.out.at0 1 _ rfl
  have c2:w0.cell? ⟨X+1,2,none⟩=some (.slice ca cl cc):=HC.out.at0 2 _ rfl
  have c3:w0.cell? ⟨X+1,3,none⟩=some (.bool r):=HC.out.at0 3 _ rfl
  go_wp2_with fail
  refine (HKq.out _ HB.out).mono ?_
  rintro e w1 ⟨rfl,hb⟩
  replace HB:Hid (Below w.heap.size w w1):=Below.on HB.out hb
  replace HX:Hid (BoxR w1 (X) [.slice a len cap,.int .i64 now]):=HX.out.below hb
  replace HC:Hid (BoxR w1 (X+1) [.int .i64 u,.int .i64 g,.slice ca cl cc,.bool r]):=HC.out.below hb
  replace HO:Hid (BoxW w1 (X+1+1) [.slice none 0 0,.int .i64 0]):=HO.out.below hb
  have hbN:Below w1.heap.size w1 (w1.alloc (.cells #[.int .i64 (R),.int .i64 (Rn),.nilFunc,.slice none 0 0,.string ⟨#[]⟩] 93)):=bel_alloc _ _
  have HD:Hid (BoxR (w1.alloc (.cells #[.int .i64 (R),.int .i64 (Rn),.nilFunc,.slice none 0 0,.string ⟨#[]⟩] 93)) w1.heap.size [.int .i64 (R),.int .i64 (Rn),.nilFunc,.slice none 0 0,.string ⟨#[]⟩]):=boxR_new _ _ _
  have HDl:Hid (X+1+1<w1.heap.size):=HO.out.lt
  replace HB:Hid (Below w.heap.size w (w1.alloc (.cells #[.int .i64 (R),.int .i64 (Rn),.nilFunc,.slice none 0 0,.string ⟨#[]⟩] 93))):=Below.on HB.out hbN
  replace HX:Hid (BoxR (w1.alloc (.cells #[.int .i64 (R),.int .i64 (Rn),.nilFunc,.slice none 0 0,.string ⟨#[]⟩] 93)) (X) [.slice a len cap,.int .i64 now]):=HX.out.below hbN
  replace HC:Hid (BoxR (w1.alloc (.cells #[.int .i64 (R),.int .i64 (Rn),.nilFunc,.slice none 0 0,.string ⟨#[]⟩] 93)) (X+1) [.int .i64 u,.int .i64 g,.slice ca cl cc,.bool r]):=HC.out.below hbN
  replace HO:Hid (BoxW (w1.alloc (.cells #[.int .i64 (R),.int .i64 (Rn),.nilFunc,.slice none 0 0,.string ⟨#[]⟩] 93)) (X+1+1) [.slice none 0 0,.int .i64 0]):=HO.out.below hbN
  clear hb hbN t0 t1 c0 c1 c2 c3 HKq
  go_upto_region 2 with fail
  generalize (w1.alloc (.cells #[.int .i64 (R),.int .i64 (Rn),.nilFunc,.slice none 0 0,.string ⟨#[]⟩] 93))=w3 at HB HX HC HO HD ⊢
  generalize w1.heap.size=D at HD HDl ⊢
  have d0:w3.cell? ⟨D,0,none⟩=some (.int .i64 (R)):=HD.out.at0 0 _ rfl
  have d1:w3.cell? ⟨D,1,none⟩=some (.int .i64 (Rn)):=HD.out.at0 1 _ rfl
  by_cases hc:R=0
  case neg =>
    have hc':(R != 0)=true:=by simpa [bne] using hc
    have HE:Hid (rdL l R F=[]):=(by show _=_;rw [rdL,if_neg hc])
    clear HTh HNd HZc HAn hc
    have o0:w3.cell? ⟨X+1+1,0,none⟩=some (.slice none 0 0):=HO.out.at0 0 _ rfl
    have o1:w3.cell? ⟨X+1+1,1,none⟩=some (.int .i64 0):=HO.out.at0 1 _ rfl
    have fz:∀ o,w3.frozen? ⟨X+1+1,o,none⟩=false:=HO.out.frz
    go_wp2
    refine bodyPost_ret (v:=.agg #[.slice none 0 0,.int .i64 R]) (by simp [results,Tryz.results25,go_sem,o0,o1]) rfl ?_
    exact ⟨_,rfl,(by rw [HE.out];exact World.ownsRow_nil _ _ _ _),(bl_setT (bl_setT HB.out (by have:=HXw.out;omega)) (by have:=HXw.out;omega))⟩
  subst hc
  obtain ⟨hFc,hFk⟩:=HZc.out rfl
  obtain rfl:Rn=F.n:=HAn.out rfl
  obtain ⟨_,ht,hcr,hth⟩:=HTh.out.resolve_left (fun h=>h hFc)
  have hll:=HNd.out.1
  have h12:len≤12:=by rw [←hll];exact tree_len ht
  obtain ⟨h1,h2⟩:=inR_iff.1 (thB_num hth)
  obtain ⟨k,hkn⟩:∃ k:Nat,F.n=(k:Int)+1:=⟨(F.n-1).toNat,by omega⟩
  have hk:k<len:=by omega
  have hk1:(k:Int)<(len:Int):=by omega
  have hk0:(0:Int)≤(k:Int):=by omega
  obtain ⟨tb,off,Y,rfl,hb0,hcN⟩:=HNd.out.2 (by omega)
  have HNx:Hid (N24 w3 tb (off+k*24) (ndAt l k) (Y k)):=range_below (hcN k hk).1 hb0 HB.out
  have hEn:Ens (Y k).nA (ndAt l k).ns.length (ndAt l k).ns w3:=(hcN k hk).2.nA.below HB.out
  have HEn:Hid (Ens (Y k).nA (ndAt l k).ns.length (ndAt l k).ns w3):=hEn
  rw [hkn] at hFk hth d1
  rw [at_succ] at hFk
  have h6:(ndAt l k).ns.length≤6:=names_six (node_is ht hth) hFk
  have hRd:rdL l 0 F=nmsL (ndAt l k).ns:=by rw [rdL,if_pos rfl,hkn,at_succ]
  have HRd:Hid (rdL l 0 F=nmsL (ndAt l k).ns):=hRd
  have HFit:Hid (∀ i,i<(ndAt l k).ns.length→(nmAt (ndAt l k).ns i).size≤1048576):=(HFt.out k hk).nm
  clear HTh ht hcr hth hll h12 h1 h2 hcN HNd hEn hRd HZc HAn hFc HFt hFk hkn
  have n22:=N24.c22 HNx.out
  generalize (ndAt l k).ns=ns at HEn h6 HRd HFit n22
  generalize (Y k).nA=nA at HEn n22
  generalize (Y k).nC=nC at n22
  clear HNx
  have t0:w3.cell? ⟨X,0,none⟩=some (.slice (some ⟨tb,off,none⟩) len cap):=HX.out.at0 0 _ rfl
  have t1:w3.cell? ⟨X,1,none⟩=some (.int .i64 now):=HX.out.at0 1 _ rfl
  have hO:Hid (w3.ownsRow w3.heap.size 9 1 (.slice none 0 0) (nmsL (ns.take 0)).length (tv (nmsL (ns.take 0)))):=World.ownsRow_nil _ _ _ _
  go_wp2
  go_loopw [8,33] (fun v i wr=>∃ j:Nat,j≤ns.length∧i=.int .i64 j∧Hid (wr.ownsRow w3.heap.size 9 1 v (nmsL (ns.take j)).length (tv (nmsL (ns.take j))))∧Hid (Below w3.heap.size w3 wr)) (fun _ i _=>ns.length-(intOf i).toNat)
  case atStart=>exact ⟨0,Nat.zero_le _,rfl,hO,Below.refl _ _⟩
  case round =>
    obtain ⟨j,hj,rfl,hOw,hB⟩:=hrel
    by_cases hlt:j<ns.length
    · have hlt' : (j : Int) < (ns.length : Int) := by omega
      have hj0:(0:Int)≤(j:Int):=by omega
      obtain ⟨nb,nf,rfl,hnb,hcell⟩:=HEn.out.2 (by omega)
      have g0:wr.cell? ⟨nb,nf+j*2,none⟩=some (.string (nmAt ns j)):=(hB.out.cell (p:=⟨nb,nf+j*2,none⟩) hnb).trans (hcell j hlt).1
      have g1:wr.cell? ⟨nb,nf+j*2+1,none⟩=some (.int .i64 (noAt ns j)):=(hB.out.cell (p:=⟨nb,nf+j*2+1,none⟩) hnb).trans (hcell j hlt).2
      have HNx:Hid (nmsL (ns.take (j+1))=nmsL (ns.take j)++[nmAt ns j]):=nmsL_next hlt
      have hsm:(nmsL (ns.take j)).length≤6:=by rw [nmsL_len,List.length_take];omega
      have hsz:(nmAt ns j).size≤1048576:=HFit.out j hlt
      have HBj:Hid (Below w3.heap.size w3 (wr.alloc (.cells #[.string (nmAt ns j),.int .i64 (noAt ns j)] 105))):=Below.on hB.out (bel_alloc _ _)
      have HOj:Hid ((wr.alloc (.cells #[.string (nmAt ns j),.int .i64 (noAt ns j)] 105)).ownsRow w3.heap.size 9 1 u8 (nmsL (ns.take j)).length (tv (nmsL (ns.take j)))):=rowT_below hOw.out (bel_alloc _ _)
      generalize nmAt ns j=x at g0 HNx hsz HBj HOj
      generalize noAt ns j=y at g1 HBj HOj
      clear hcell hOw hB HX HC HO HD HEn
      go_wp2_with fail
      obtain ⟨W,hW⟩:∃ W,W=wr.alloc (.cells #[.string x,.int .i64 y] 105):=⟨_,rfl⟩
      have hWs:wr.heap.size+1=W.heap.size:=by rw [hW];simp
      rw [←hW] at HBj HOj ⊢
      rw [hWs]
      clear hW g0 g1 hWs
      refine (join_one x W (by omega)).mono ?_
      rintro e w5 ⟨rfl,hb5⟩
      obtain ⟨v6,w6,hr,hO6,hB6,-,-,-⟩:=append_textX w3 w5 u8 (nmsL (ns.take j)) (rowT_below HOj.out hb5) (Below.on HBj.out hb5) x (by omega)
      have HO6:Hid (w6.ownsRow w3.heap.size 9 1 v6 (nmsL (ns.take (j+1))).length (tv (nmsL (ns.take (j+1))))):=(by show World.ownsRow _ _ _ _ _ _ _;rw [HNx.out];exact hO6)
      have HB6:Hid (Below w3.heap.size w3 w6):=hB6
      clear hO6 hB6 HBj HOj hb5 HNx
      go_wp2_with (at_builtin;refine wpList_append_runT _ rfl (.tmp 37) (.tmp 42) 50 50 rfl _ _ _ _ rfl rfl hr ?_)
      go_roundw
      case rel=>exact ⟨j+1,by omega,by go_num,HO6,HB6⟩
      case measure=>simp [intOf];omega
    · have : j = ns.length := by omega
      subst this
      have hOw2:=hOw.out
      rw [nmsL_all,←HRd.out] at hOw2
      have hne:u8.ownBlock≠some (X+1+1):=(fun e=>by have h1:=own_blockT hOw2 _ e;have h2:=HO.out.lt;omega)
      have HRw:Hid (wr.ownsRow w.heap.size 9 1 u8 (rdL l 0 F).length (tv (rdL l 0 F))):=row_base hOw2 HB.out.size
      have HBf:Hid (Below w.heap.size w wr):=Below.on HB.out hB.out
      have HO2:Hid (BoxW wr (X+1+1) [.slice none 0 0,.int .i64 0]):=HO.out.below hB.out
      obtain ⟨va,vl,vc,rfl⟩:=row_sliceT hOw2
      clear hOw2 hOw hB HO HX HC HD HEn HRd
      have o0:wr.cell? ⟨X+1+1,0,none⟩=some (.slice none 0 0):=HO2.out.at0 0 _ rfl
      have o1:wr.cell? ⟨X+1+1,1,none⟩=some (.int .i64 0):=HO2.out.at0 1 _ rfl
      have fz:∀ o,wr.frozen? ⟨X+1+1,o,none⟩=false:=HO2.out.frz
      go_wp2
      refine bodyPost_ret (v:=.agg #[.slice va vl vc,.int .i64 0]) (by simp [results,Tryz.results25,go_sem,o0,o1]) rfl ?_
      exact ⟨_,rfl,row_set (row_set HRw.out hne) hne,(bl_setT (bl_setT HBf.out (by have:=HXw.out;omega)) (by have:=HXw.out;omega))⟩
end Go.Proofs.YtabfdidnjibdeaaGreatDoor
