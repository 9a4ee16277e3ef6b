/- Laid together: StJ, RdS. -/
import Derived.Test.YtabfdidnjibdeaaGreatDoorBR40
namespace Go.Proofs.YtabfdidnjibdeaaGreatDoor
open Go.RowKit Go.PlainAid Go.Deep
set_option linter.unusedVariables false
set_option linter.unusedSimpArgs false
theorem sJobNodeS_any (P b off k len cap:Nat)(w:World)(hp:w.cell? ⟨P,0,none⟩=some (.slice (some ⟨b,off,none⟩) len cap))(hk:k<len)(hl:len≤12) :
    Calls Tryz.prog 50 #[.pointer (some ⟨P,0,none⟩),.int .i64 ((k:Int)+1)] w fun e w'=>e=.returned (.pointer (some ⟨b,off+k*24,none⟩))∧w'=w:=by
  have hk1:(k:Int)<(len:Int):=by omega
  have hk0:(0:Int)≤(k:Int):=by omega
  have hk3:(k:Int)≤12:=by omega
  go_enter Tryz.func50,Tryz.ntmps50
  go_wp2
  go_ret
  have e:(IntKind.i64.wrap (k:Int)).toNat=k:=by rw [IntKind.wrap_i64]<;>omega
  refine ⟨?_,rfl⟩
  first
    | rfl
    | (show Ending.returned (.pointer (some ⟨b,off+(IntKind.i64.wrap (k:Int)).toNat*24,none⟩))=_;rw [e])
theorem begC_true (l:List Nd)(now u g:Int)(cl:Nat)(r:Bool)(cf:Nat→Int)(s:ByteArray)(fo:Bool):begC (wkF l now u g cl r cf s fo) s true=(wkF l now u g cl r cf s fo).c:=by
  by_cases h:8000<s.size
  · rw [begC,if_pos h,wkF,if_pos h];rfl
  · rw [begC,if_neg h];rfl
theorem di_there {l:List Nd}{k:Nat}(h:thB l ((k:Int)+1)=true):diB l ((k:Int)+1)=((ndAt l k).k==1):=by
  have hn:=thB_num h
  simp only [diB,h,Bool.true_and]
  try rw [at_succ]
set_option maxRecDepth 20000 in
set_option maxHeartbeats 8000000 in
theorem sReadDir_any (a:Option Addr)(len cap:Nat)(l:List Nd)(now:Int)(u g:Int)(ca:Option Addr)(cl cc:Nat)(r:Bool)(cf:Nat→Int)(s:ByteArray)(hm:len≤9223372036854775807)(hf:∀ i,i<len→NdFit 1048576 (ndAt l i))(hs:s.size≤1048576)(w:World)(hi:Nds a len l w)(hci:Ints ca cl cf w) :
    Calls Tryz.prog 24 #[.agg #[.slice a len cap,.int .i64 now],.agg #[.int .i64 u,.int .i64 g,.slice ca cl cc,.bool r],.string s] w fun e w'=>∃ v,e=.returned (.agg #[v,.int .i64 (adC l u g cl r cf (wayN (wkF l now u g cl r cf s true)))])∧w'.ownsRow w.heap.size 9 1 v (rdL l (adC l u g cl r cf (wayN (wkF l now u g cl r cf s true))) (wayN (wkF l now u g cl r cf s true))).length (tv (rdL l (adC l u g cl r cf (wayN (wkF l now u g cl r cf s true))) (wayN (wkF l now u g cl r cf s true))))∧Below w.heap.size w w':=by
  have HBg0:Hid (∀ (V:World),Below w.heap.size w V→Calls Tryz.prog 49 #[.agg #[.slice a len cap,.int .i64 now],.agg #[.int .i64 u,.int .i64 g,.slice ca cl cc,.bool r],.string s,.bool true,.bool true] V fun e w'=>∃ (W:Wo) (p:Option Addr),e=.returned (.tuple #[.pointer p,woV W,.int .i64 (begC (wkF l now u g cl r cf s true) s true)])∧Below V.heap.size V w'∧(begC (wkF l now u g cl r cf s true) s true=0→W=wkF l now u g cl r cf s true∧∃ P v ds,p=some ⟨P,0,none⟩∧Hid (BegJ V.heap.size w' l now u g ca cl cc r P v ds))):=(fun V hb=>sBegin_any a len cap l now u g ca cl cc r cf s true true hm hf hs V (hi.below hb) (hci.below hb))
  have hth:=wkF_there l now u g cl r cf s true
  rw [begC_true] at HBg0
  generalize wkF l now u g cl r cf s true=F at HBg0 hth ⊢
  have HTh:Hid _:=hth
  have HBg:Hid (∀ (V:World),Below w.heap.size w V→Calls Tryz.prog 49 #[.agg #[.slice a len cap,.int .i64 now],.agg #[.int .i64 u,.int .i64 g,.slice ca cl cc,.bool r],.string s,.bool true,.bool true] V fun e w'=>∃ (W:Wo) (p:Option Addr),e=.returned (.tuple #[.pointer p,.agg #[.int .i64 W.n,.int .i64 W.d,.string W.nm,.int .i64 W.c],.int .i64 F.c])∧Below V.heap.size V w'∧(F.c=0→W=F∧∃ P v ds,p=some ⟨P,0,none⟩∧Hid (BegJ V.heap.size w' l now u g ca cl cc r P v ds))):=HBg0
  have HNd0:Hid (Nds a len l w):=hi
  have HCi:Hid (Ints ca cl cf w):=hci
  have hll:=hi.1
  clear HBg0 hth hi hci hf
  have HB:Hid (Below w.heap.size w (((w.alloc (.cells #[.slice a len cap,.int .i64 now] 35)).alloc (.cells #[.int .i64 u,.int .i64 g,.slice ca cl cc,.bool r] 37)).alloc (.cells #[.slice none 0 0,.int .i64 0] 52))):=(Below.on (Below.on (Below.on (Below.refl _ _) (bel_alloc _ _)) (bel_alloc _ _)) (bel_alloc _ _))
  have HX:Hid (BoxR (((w.alloc (.cells #[.slice a len cap,.int .i64 now] 35)).alloc (.cells #[.int .i64 u,.int .i64 g,.slice ca cl cc,.bool r] 37)).alloc (.cells #[.slice none 0 0,.int .i64 0] 52)) (w.heap.size) [.slice a len cap,.int .i64 now]):=(by
    have h:=(((boxR_new w [.slice a len cap,.int .i64 now] 35).below (bel_alloc (w.alloc (.cells #[.slice a len cap,.int .i64 now] 35)) (.cells #[.int .i64 u,.int .i64 g,.slice ca cl cc,.bool r] 37))).below (bel_alloc ((w.alloc (.cells #[.slice a len cap,.int .i64 now] 35)).alloc (.cells #[.int .i64 u,.int .i64 g,.slice ca cl cc,.bool r] 37)) (.cells #[.slice none 0 0,.int .i64 0] 52)))
    exact h)
  have HC:Hid (BoxR (((w.alloc (.cells #[.slice a len cap,.int .i64 now] 35)).alloc (.cells #[.int .i64 u,.int .i64 g,.slice ca cl cc,.bool r] 37)).alloc (.cells #[.slice none 0 0,.int .i64 0] 52)) (w.heap.size+1) [.int .i64 u,.int .i64 g,.slice ca cl cc,.bool r]):=(by
    have h:=((boxR_new (w.alloc (.cells #[.slice a len cap,.int .i64 now] 35)) [.int .i64 u,.int .i64 g,.slice ca cl cc,.bool r] 37).below (bel_alloc ((w.alloc (.cells #[.slice a len cap,.int .i64 now] 35)).alloc (.cells #[.int .i64 u,.int .i64 g,.slice ca cl cc,.bool r] 37)) (.cells #[.slice none 0 0,.int .i64 0] 52)))
    simp only [World.size_alloc] at h
    exact h)
  have HO:Hid (BoxW (((w.alloc (.cells #[.slice a len cap,.int .i64 now] 35)).alloc (.cells #[.int .i64 u,.int .i64 g,.slice ca cl cc,.bool r] 37)).alloc (.cells #[.slice none 0 0,.int .i64 0] 52)) (w.heap.size+1+1) [.slice none 0 0,.int .i64 0]):=(by
    have h:=(boxW_new ((w.alloc (.cells #[.slice a len cap,.int .i64 now] 35)).alloc (.cells #[.int .i64 u,.int .i64 g,.slice ca cl cc,.bool r] 37)) [.slice none 0 0,.int .i64 0] 52)
    simp only [World.size_alloc] at h
    exact h)
  go_enter Tryz.func24,Tryz.ntmps24
  go_upto_region 1 with fail
  generalize (((w.alloc (.cells #[.slice a len cap,.int .i64 now] 35)).alloc (.cells #[.int .i64 u,.int .i64 g,.slice ca cl cc,.bool r] 37)).alloc (.cells #[.slice none 0 0,.int .i64 0] 52))=w0 at HB HX HC HO ⊢
  obtain ⟨X,hX⟩:∃ X,X=w.heap.size:=⟨_,rfl⟩
  have HXw:Hid (X=w.heap.size):=hX
  rw [←hX] at HX HC HO ⊢
  clear hX
  have t0:w0.cell? ⟨X,0,none⟩=some (.slice a len cap):=HX.out.at0 0 _ rfl
  have t1:w0.cell? ⟨X,1,none⟩=some (.int .i64 now):=HX.out.at0 1 _ rfl
  have c0:w0.cell? ⟨X+1,0,none⟩=some (.int .i64 u):=HC.out.at0 0 _ rfl
  have c1:w0.cell? ⟨X+1,1,none⟩=some (.int .i64 g):=HC.out.at0 1 _ rfl
  have c2:w0.cell? ⟨X+1,2,none⟩=some (.slice ca cl cc):=HC.out.at0 2 _ rfl
  have c3:w0.cell? ⟨X+1,3,none⟩=some (.bool r):=HC.out.at0 3 _ rfl
  go_wp2_with fail
  refine (HBg.out _ HB.out).mono ?_
  rintro e w1 ⟨W,p,rfl,hb,hj⟩
  replace HB:Hid (Below w.heap.size w w1):=Below.on HB.out hb
  replace HX:Hid (BoxR w1 (X) [.slice a len cap,.int .i64 now]):=HX.out.below hb
  replace HC:Hid (BoxR w1 (X+1) [.int .i64 u,.int .i64 g,.slice ca cl cc,.bool r]):=HC.out.below hb
  replace HO:Hid (BoxW w1 (X+1+1) [.slice none 0 0,.int .i64 0]):=HO.out.below hb
  have HO1l:Hid (X+1+1<w1.heap.size):=HO.out.lt
  have hbN:Below w1.heap.size w1 (w1.alloc (.cells #[.int .i64 W.n,.int .i64 W.d,.string W.nm,.int .i64 W.c] 31)):=bel_alloc _ _
  have HZ:Hid (BoxR (w1.alloc (.cells #[.int .i64 W.n,.int .i64 W.d,.string W.nm,.int .i64 W.c] 31)) w1.heap.size [.int .i64 W.n,.int .i64 W.d,.string W.nm,.int .i64 W.c]):=boxR_new _ _ _
  have HJ:Hid (F.c=0→W=F∧∃ P v ds,p=some ⟨P,0,none⟩∧BegJ 0 (w1.alloc (.cells #[.int .i64 W.n,.int .i64 W.d,.string W.nm,.int .i64 W.c] 31)) l now u g ca cl cc r P v ds):=(fun h=>by obtain ⟨h1,P,v,ds,h2,h3⟩:=hj h;exact ⟨h1,P,v,ds,h2,(h3.out.mono (Nat.zero_le _)).below hbN⟩)
  replace HB:Hid (Below w.heap.size w (w1.alloc (.cells #[.int .i64 W.n,.int .i64 W.d,.string W.nm,.int .i64 W.c] 31))):=Below.on HB.out hbN
  replace HX:Hid (BoxR (w1.alloc (.cells #[.int .i64 W.n,.int .i64 W.d,.string W.nm,.int .i64 W.c] 31)) (X) [.slice a len cap,.int .i64 now]):=HX.out.below hbN
  replace HC:Hid (BoxR (w1.alloc (.cells #[.int .i64 W.n,.int .i64 W.d,.string W.nm,.int .i64 W.c] 31)) (X+1) [.int .i64 u,.int .i64 g,.slice ca cl cc,.bool r]):=HC.out.below hbN
  replace HO:Hid (BoxW (w1.alloc (.cells #[.int .i64 W.n,.int .i64 W.d,.string W.nm,.int .i64 W.c] 31)) (X+1+1) [.slice none 0 0,.int .i64 0]):=HO.out.below hbN
  clear hb hbN hj t0 t1 c0 c1 c2 c3 HBg
  have HZo:Hid (X+1+1<w1.heap.size):=HO1l.out
  go_upto_region 2 with fail
  generalize (w1.alloc (.cells #[.int .i64 W.n,.int .i64 W.d,.string W.nm,.int .i64 W.c] 31))=w3 at HB HX HC HO HZ HJ ⊢
  generalize w1.heap.size=Z at HZ HZo ⊢
  have z0:w3.cell? ⟨Z,0,none⟩=some (.int .i64 W.n):=HZ.out.at0 0 _ rfl
  by_cases hc:F.c=0
  case neg =>
    have hc':(F.c==0)=false:=by simpa using hc
    have hc2:(F.c != 0)=true:=by simpa [bne] using hc
    have HE:Hid (adC l u g cl r cf (wayN F)=F.c):=(by show _=_;rw [wayN,if_neg (fun h=>hc h.1),adC,if_neg hc])
    have hcq:=hc
    clear HTh HJ hc
    go_upto_region 6 with fail
    refine wp_region_quiet_below (by kernel_rfl) (by kernel_rfl) ?_
    repeat (first
        | go_big_quiet_skip
        | (go_big_quiet_want;go_big_quiet_op;first | go_big_quiet_on))
    refine wpQuiet_nil ?_
    intro _ hw'
    obtain ⟨⟨dq,osq⟩,hw''⟩:=hw'
    subst hw''
    have hbq:Below w3.heap.size w3 (Go.Sort.grow (redrawn w3 dq) osq):=below_regrown w3 dq osq
    replace HB:Hid (Below w.heap.size w (Go.Sort.grow (redrawn w3 dq) osq)):=Below.on HB.out hbq
    replace HX:Hid (BoxR (Go.Sort.grow (redrawn w3 dq) osq) (X) [.slice a len cap,.int .i64 now]):=HX.out.below hbq
    replace HC:Hid (BoxR (Go.Sort.grow (redrawn w3 dq) osq) (X+1) [.int .i64 u,.int .i64 g,.slice ca cl cc,.bool r]):=HC.out.below hbq
    replace HO:Hid (BoxW (Go.Sort.grow (redrawn w3 dq) osq) (X+1+1) [.slice none 0 0,.int .i64 0]):=HO.out.below hbq
    replace HZ:Hid (BoxR (Go.Sort.grow (redrawn w3 dq) osq) Z [.int .i64 W.n,.int .i64 W.d,.string W.nm,.int .i64 W.c]):=HZ.out.below hbq
    clear hbq
    generalize Go.Sort.grow (redrawn w3 dq) osq=w5 at HB HX HC HO HZ ⊢
    clear z0
    have o0:w5.cell? ⟨X+1+1,0,none⟩=some (.slice none 0 0):=HO.out.at0 0 _ rfl
    have o1:w5.cell? ⟨X+1+1,1,none⟩=some (.int .i64 0):=HO.out.at0 1 _ rfl
    have fz:∀ o,w5.frozen? ⟨X+1+1,o,none⟩=false:=HO.out.frz
    go_wp2
    refine bodyPost_ret (v:=.agg #[.slice none 0 0,.int .i64 (F.c)]) (by simp [results,Tryz.results24,go_sem,o0,o1]) rfl ?_
    exact ⟨_,by rw [HE.out],(by rw [rdL,if_neg (by rw [HE.out];exact hcq)];exact World.ownsRow_nil _ _ _ _),(bl_setT (bl_setT HB.out (by have:=HXw.out;omega)) (by have:=HXw.out;omega))⟩
  have hc':(F.c==0)=true:=by rw [hc];rfl
  obtain ⟨rfl,P,v,ds,rfl,hJb⟩:=HJ.out hc
  have HJb:Hid (BegJ 0 w3 l now u g ca cl cc r P v ds):=hJb
  have hth:=HTh.out
  clear hJb HJ HTh
  obtain ⟨n,fd,fn,fc⟩:=W
  simp only at hc hth z0
  subst hc
  by_cases hn:n=0
  · have hn' : (n == 0) = true := by rw [hn]; rfl
    have HE:Hid (adC l u g cl r cf (wayN ⟨n,fd,fn,0⟩)=6):=(by show _=_;rw [wayN,if_pos ⟨rfl,hn⟩];rfl)
    clear hth HJb hn
    go_upto_region 6 with fail
    refine wp_region_quiet_below (by kernel_rfl) (by kernel_rfl) ?_
    repeat (first
        | go_big_quiet_skip
        | (go_big_quiet_want;go_big_quiet_op;first | go_big_quiet_on))
    refine wpQuiet_nil ?_
    intro _ hw'
    obtain ⟨⟨dq,osq⟩,hw''⟩:=hw'
    subst hw''
    have hbq:Below w3.heap.size w3 (Go.Sort.grow (redrawn w3 dq) osq):=below_regrown w3 dq osq
    replace HB:Hid (Below w.heap.size w (Go.Sort.grow (redrawn w3 dq) osq)):=Below.on HB.out hbq
    replace HX:Hid (BoxR (Go.Sort.grow (redrawn w3 dq) osq) (X) [.slice a len cap,.int .i64 now]):=HX.out.below hbq
    replace HC:Hid (BoxR (Go.Sort.grow (redrawn w3 dq) osq) (X+1) [.int .i64 u,.int .i64 g,.slice ca cl cc,.bool r]):=HC.out.below hbq
    replace HO:Hid (BoxW (Go.Sort.grow (redrawn w3 dq) osq) (X+1+1) [.slice none 0 0,.int .i64 0]):=HO.out.below hbq
    replace HZ:Hid (BoxR (Go.Sort.grow (redrawn w3 dq) osq) Z [.int .i64 n,.int .i64 fd,.string fn,.int .i64 0]):=HZ.out.below hbq
    clear hbq
    generalize Go.Sort.grow (redrawn w3 dq) osq=w5 at HB HX HC HO HZ ⊢
    clear z0
    have o0:w5.cell? ⟨X+1+1,0,none⟩=some (.slice none 0 0):=HO.out.at0 0 _ rfl
    have o1:w5.cell? ⟨X+1+1,1,none⟩=some (.int .i64 0):=HO.out.at0 1 _ rfl
    have fz:∀ o,w5.frozen? ⟨X+1+1,o,none⟩=false:=HO.out.frz
    go_wp2
    refine bodyPost_ret (v:=.agg #[.slice none 0 0,.int .i64 (6)]) (by simp [results,Tryz.results24,go_sem,o0,o1]) rfl ?_
    exact ⟨_,by rw [HE.out],(by rw [rdL,if_neg (by rw [HE.out];decide)];exact World.ownsRow_nil _ _ _ _),(bl_setT (bl_setT HB.out (by have:=HXw.out;omega)) (by have:=HXw.out;omega))⟩
  have hn':(n==0)=false:=by simpa using hn
  obtain ⟨_,ht,hcr,hthn⟩:=hth.resolve_left hn
  obtain ⟨h1,h2⟩:=inR_iff.1 (thB_num hthn)
  obtain ⟨k,rfl⟩:∃ k:Nat,n=(k:Int)+1:=⟨(n-1).toNat,by omega⟩
  have hk:k<l.length:=by omega
  have h12:l.length≤12:=tree_len ht
  obtain ⟨ja,jc,rfl,hNd⟩:=HJb.out.nds
  obtain ⟨b,off,Y,rfl,hb0,hcN⟩:=hNd.2 (by omega)
  have HP:Hid (BoxR w3 P [.slice (some ⟨b,off,none⟩) l.length jc]):=⟨HJb.out.job.lt,fun j v hv=>HJb.out.job.at0 j v (by
    match j,hv with
    | 0,hv=>exact hv)⟩
  have HN:Hid (N24 w3 b (off+k*24) (ndAt l k) (Y k)):=(hcN k hk).1
  have HNi:Hid (NdIn w3 (ndAt l k) (Y k)):=(hcN k hk).2
  have HDi:Hid (∀ w',Below w.heap.size w w'→Calls Tryz.prog 54 #[.agg #[.slice a len cap,.int .i64 now],.int .i64 ((k:Int)+1)] w' fun e w''=>e=.returned (.bool (diB l ((k:Int)+1)))∧Below w'.heap.size w' w''):=(fun w' hb=>sIsDir_any a len cap l now _ (by omega) w' (HNd0.out.below hb))
  rw [di_there hthn] at HDi
  have HL:Hid (∀ w',Below w.heap.size w w'→NdIn w' (ndAt l k) (Y k)→Calls Tryz.prog 47 #[.agg (ndV (ndAt l k) (Y k)).toArray,.agg #[.int .i64 u,.int .i64 g,.slice ca cl cc,.bool r],.int .i64 4] w' fun e w''=>e=.returned (.bool (letB (ndAt l k) u g cl r cf 4))∧Below w'.heap.size w' w''):=(fun w' hb hn=>sLet_any _ _ u g ca cl cc r cf 4 (ask_node (node_is ht hthn) hcr (by decide)) w' hn (HCi.out.below hb))
  have HE0:Hid (adC l u g cl r cf (wayN ⟨(k:Int)+1,fd,fn,0⟩)=if (ndAt l k).k=1 then (if letB (ndAt l k) u g cl r cf 4 then 0 else 11) else 12):=(by show _=_;rw [wayN,if_neg (fun h=>hn h.2),adC,if_pos rfl];simp only [at_succ])
  have HRd:Hid (rdL l 0 (wayN ⟨(k:Int)+1,fd,fn,0⟩)=nmsL (ndAt l k).ns):=(by show _=_;rw [wayN,if_neg (fun h=>hn h.2),rdL,if_pos rfl];simp only [at_succ])
  have H6:Hid ((ndAt l k).k=1→(ndAt l k).ns.length≤6):=names_six (node_is ht hthn)
  have HNo:Hid (∀ w',Below w3.heap.size w3 w'→Calls Tryz.prog 50 #[.pointer (some ⟨P,0,none⟩),.int .i64 ((k:Int)+1)] w' fun e w''=>e=.returned (.pointer (some ⟨b,off+k*24,none⟩))∧w''=w'):=(fun w' hb=>sJobNodeS_any P b off k l.length jc w' ((HP.out.below hb).at0 0 _ rfl) hk h12)
  clear hth hthn ht hcr h1 h2 h12 hNd hcN HJb hk hn
  by_cases hkx:(ndAt l k).k=1
  case neg =>
    have HE:Hid (adC l u g cl r cf (wayN ⟨(k:Int)+1,fd,fn,0⟩)=12):=(by show _=_;rw [HE0.out,if_neg hkx])
    have hkb:((ndAt l k).k==1)=false:=by simpa using hkx
    rw [hkb] at HDi
    clear HE0 HRd H6 HNo HL HN HNi HP hkx hkb
    have t0:w3.cell? ⟨X,0,none⟩=some (.slice a len cap):=HX.out.at0 0 _ rfl
    have t1:w3.cell? ⟨X,1,none⟩=some (.int .i64 now):=HX.out.at0 1 _ rfl
    go_wp2_with fail
    refine (HDi.out _ HB.out).mono ?_
    rintro e w4 ⟨rfl,hb⟩
    replace HB:Hid (Below w.heap.size w w4):=Below.on HB.out hb
    replace HX:Hid (BoxR w4 (X) [.slice a len cap,.int .i64 now]):=HX.out.below hb
    replace HC:Hid (BoxR w4 (X+1) [.int .i64 u,.int .i64 g,.slice ca cl cc,.bool r]):=HC.out.below hb
    replace HO:Hid (BoxW w4 (X+1+1) [.slice none 0 0,.int .i64 0]):=HO.out.below hb
    replace HZ:Hid (BoxR w4 Z [.int .i64 ((k:Int)+1),.int .i64 fd,.string fn,.int .i64 0]):=HZ.out.below hb
    clear hb t0 t1 z0 HDi
    go_upto_region 6 with fail
    refine wp_region_quiet_below (by kernel_rfl) (by kernel_rfl) ?_
    repeat (first
        | go_big_quiet_skip
        | (go_big_quiet_want;go_big_quiet_op;first | go_big_quiet_on))
    refine wpQuiet_nil ?_
    intro _ hw'
    obtain ⟨⟨dq,osq⟩,hw''⟩:=hw'
    subst hw''
    have hbq:Below w4.heap.size w4 (Go.Sort.grow (redrawn w4 dq) osq):=below_regrown w4 dq osq
    replace HB:Hid (Below w.heap.size w (Go.Sort.grow (redrawn w4 dq) osq)):=Below.on HB.out hbq
    replace HX:Hid (BoxR (Go.Sort.grow (redrawn w4 dq) osq) (X) [.slice a len cap,.int .i64 now]):=HX.out.below hbq
    replace HC:Hid (BoxR (Go.Sort.grow (redrawn w4 dq) osq) (X+1) [.int .i64 u,.int .i64 g,.slice ca cl cc,.bool r]):=HC.out.below hbq
    replace HO:Hid (BoxW (Go.Sort.grow (redrawn w4 dq) osq) (X+1+1) [.slice none 0 0,.int .i64 0]):=HO.out.below hbq
    replace HZ:Hid (BoxR (Go.Sort.grow (redrawn w4 dq) osq) Z [.int .i64 ((k:Int)+1),.int .i64 fd,.string fn,.int .i64 0]):=HZ.out.below hbq
    clear hbq
    generalize Go.Sort.grow (redrawn w4 dq) osq=w5 at HB HX HC HO HZ ⊢
    have o0:w5.cell? ⟨X+1+1,0,none⟩=some (.slice none 0 0):=HO.out.at0 0 _ rfl
    have o1:w5.cell? ⟨X+1+1,1,none⟩=some (.int .i64 0):=HO.out.at0 1 _ rfl
    have fz:∀ o,w5.frozen? ⟨X+1+1,o,none⟩=false:=HO.out.frz
    go_wp2
    refine bodyPost_ret (v:=.agg #[.slice none 0 0,.int .i64 (12)]) (by simp [results,Tryz.results24,go_sem,o0,o1]) rfl ?_
    exact ⟨_,by rw [HE.out],(by rw [rdL,if_neg (by rw [HE.out];decide)];exact World.ownsRow_nil _ _ _ _),(bl_setT (bl_setT HB.out (by have:=HXw.out;omega)) (by have:=HXw.out;omega))⟩
  have hkb:((ndAt l k).k==1)=true:=by rw [hkx];rfl
  rw [hkb] at HDi
  have HEl:Hid (adC l u g cl r cf (wayN ⟨(k:Int)+1,fd,fn,0⟩)=if letB (ndAt l k) u g cl r cf 4 then 0 else 11):=(by show _=_;rw [HE0.out,if_pos hkx])
  have h6:=H6.out hkx
  clear HE0 H6 hkx hkb
  have HNs:Hid (Ens (Y k).nA (ndAt l k).ns.length (ndAt l k).ns w3):=HNi.out.nA
  have n22:=N24.c22 HN.out
  have HN22:Hid (w3.cell? ⟨b,off+k*24+22,none⟩=some (.slice (Y k).nA (ndAt l k).ns.length (Y k).nC)):=n22
  clear n22
  have t0:w3.cell? ⟨X,0,none⟩=some (.slice a len cap):=HX.out.at0 0 _ rfl
  have t1:w3.cell? ⟨X,1,none⟩=some (.int .i64 now):=HX.out.at0 1 _ rfl
  go_wp2_with fail
  refine (HDi.out _ HB.out).mono ?_
  rintro e w4 ⟨rfl,hb⟩
  replace HB:Hid (Below w.heap.size w w4):=Below.on HB.out hb
  replace HX:Hid (BoxR w4 (X) [.slice a len cap,.int .i64 now]):=HX.out.below hb
  replace HC:Hid (BoxR w4 (X+1) [.int .i64 u,.int .i64 g,.slice ca cl cc,.bool r]):=HC.out.below hb
  replace HO:Hid (BoxW w4 (X+1+1) [.slice none 0 0,.int .i64 0]):=HO.out.below hb
  replace HZ:Hid (BoxR w4 Z [.int .i64 ((k:Int)+1),.int .i64 fd,.string fn,.int .i64 0]):=HZ.out.below hb
  replace HN:Hid (N24 w4 b (off+k*24) (ndAt l k) (Y k)):=range_below HN.out hb0 hb
  have hw34:Hid (Below w3.heap.size w3 w4):=hb
  have HNi4:Hid (NdIn w4 (ndAt l k) (Y k)):=HNi.out.below hb
  have hb04:b<w4.heap.size:=Nat.lt_of_lt_of_le hb0 hb.size
  clear hb t0 t1 z0 HDi HNi
  go_upto_region 6 with fail
  have z0:∀ d os,(Go.Sort.grow (redrawn w4 d) os).cell? ⟨Z,0,none⟩=some (.int .i64 ((k:Int)+1)):=fun d os=>cell_regrown (HZ.out.at0 0 _ rfl) d os
  have y0:∀ d os,(Go.Sort.grow (redrawn w4 d) os).cell? ⟨X+1,0,none⟩=some (.int .i64 u):=fun d os=>cell_regrown (HC.out.at0 0 _ rfl) d os
  have y1:∀ d os,(Go.Sort.grow (redrawn w4 d) os).cell? ⟨X+1,1,none⟩=some (.int .i64 g):=fun d os=>cell_regrown (HC.out.at0 1 _ rfl) d os
  have y2:∀ d os,(Go.Sort.grow (redrawn w4 d) os).cell? ⟨X+1,2,none⟩=some (.slice ca cl cc):=fun d os=>cell_regrown (HC.out.at0 2 _ rfl) d os
  have y3:∀ d os,(Go.Sort.grow (redrawn w4 d) os).cell? ⟨X+1,3,none⟩=some (.bool r):=fun d os=>cell_regrown (HC.out.at0 3 _ rfl) d os
  have cHN:∀ d os,Calls Tryz.prog 50 #[.pointer (some ⟨P,0,none⟩),.int .i64 ((k:Int)+1)] (Go.Sort.grow (redrawn w4 d) os) fun e w''=>e=.returned (.pointer (some ⟨b,off+k*24,none⟩))∧∃ p:Regrown,w''=Go.Sort.grow (redrawn w4 p.d) p.os:=fun d os=>Calls.regrown_of ((HNo.out _ (Below.on hw34.out (below_regrown w4 d os))).mono (fun e w'' h=>⟨h.1,by rw [h.2];exact Below.refl _ _⟩))
  have cHL:∀ d os,Calls Tryz.prog 47 #[.agg (ndV (ndAt l k) (Y k)).toArray,.agg #[.int .i64 u,.int .i64 g,.slice ca cl cc,.bool r],.int .i64 4] (Go.Sort.grow (redrawn w4 d) os) fun e w''=>e=.returned (.bool (letB (ndAt l k) u g cl r cf 4))∧∃ p:Regrown,w''=Go.Sort.grow (redrawn w4 p.d) p.os:=fun d os=>Calls.regrown_of (HL.out _ (Below.on HB.out (below_regrown w4 d os)) (HNi4.out.below (below_regrown w4 d os)))
  generalize letB (ndAt l k) u g cl r cf 4=lb at cHL HEl
  obtain ⟨cs1,hcs1⟩:∃ cs1,cs1=ndV (ndAt l k) (Y k):=⟨_,rfl⟩
  have hi1:(Tryz.prog.info? 84).map (·.size)=some cs1.length:=by rw [hcs1];kernel_rfl
  have hu:=Tryz.underlying84
  have R1:=range_regrown (show w4.rangeAt b (off+k*24) cs1 by rw [hcs1];exact HN.out)
  rw [←hcs1] at cHL
  clear hcs1 HL HN HNi4
  have HP4:Hid (Below w3.heap.size w3 w4):=hw34.out
  refine wp_region_quiet_below (by kernel_rfl) (by kernel_rfl) ?_
  repeat (first
      | go_big_quiet_skip
      | (go_big_quiet_want;refine quiet_load_mid 84 _ rfl _ _ (by rfl) _ _ R1 hu rfl hi1 ?_;simp only [Act.put,List.setIfInBounds_toArray,List.set_cons_zero,List.set_cons_succ];go_big_quiet_on)
      | (go_big_quiet_want;go_big_quiet_op;first | go_big_quiet_on | go_big_quiet_call (first | exact cHN _ _ | exact cHL _ _)))
  refine wpQuiet_nil ?_
  intro _ hw'
  obtain ⟨⟨dq,osq⟩,hw''⟩:=hw'
  subst hw''
  have hbq:Below w4.heap.size w4 (Go.Sort.grow (redrawn w4 dq) osq):=below_regrown w4 dq osq
  replace HB:Hid (Below w.heap.size w (Go.Sort.grow (redrawn w4 dq) osq)):=Below.on HB.out hbq
  replace HX:Hid (BoxR (Go.Sort.grow (redrawn w4 dq) osq) (X) [.slice a len cap,.int .i64 now]):=HX.out.below hbq
  replace HC:Hid (BoxR (Go.Sort.grow (redrawn w4 dq) osq) (X+1) [.int .i64 u,.int .i64 g,.slice ca cl cc,.bool r]):=HC.out.below hbq
  replace HO:Hid (BoxW (Go.Sort.grow (redrawn w4 dq) osq) (X+1+1) [.slice none 0 0,.int .i64 0]):=HO.out.below hbq
  replace HZ:Hid (BoxR (Go.Sort.grow (redrawn w4 dq) osq) Z [.int .i64 ((k:Int)+1),.int .i64 fd,.string fn,.int .i64 0]):=HZ.out.below hbq
  replace HP4:Hid (Below w3.heap.size w3 (Go.Sort.grow (redrawn w4 dq) osq)):=Below.on HP4.out hbq
  clear hbq
  generalize Go.Sort.grow (redrawn w4 dq) osq=w5 at HB HX HC HO HZ HP4 ⊢
  clear z0 y0 y1 y2 y3 cHN cHL R1 hi1 hu hw34
  cases lb
  · have HE : Hid (adC l u g cl r cf (wayN ⟨(k : Int) + 1, fd, fn, 0⟩) = 11) := HEl.out
    clear HEl HRd HNo HNs HN22
    have o0:w5.cell? ⟨X+1+1,0,none⟩=some (.slice none 0 0):=HO.out.at0 0 _ rfl
    have o1:w5.cell? ⟨X+1+1,1,none⟩=some (.int .i64 0):=HO.out.at0 1 _ rfl
    have fz:∀ o,w5.frozen? ⟨X+1+1,o,none⟩=false:=HO.out.frz
    go_wp2
    refine bodyPost_ret (v:=.agg #[.slice none 0 0,.int .i64 (11)]) (by simp [results,Tryz.results24,go_sem,o0,o1]) rfl ?_
    exact ⟨_,by rw [HE.out],(by rw [rdL,if_neg (by rw [HE.out];decide)];exact World.ownsRow_nil _ _ _ _),(bl_setT (bl_setT HB.out (by have:=HXw.out;omega)) (by have:=HXw.out;omega))⟩
  have HE:Hid (adC l u g cl r cf (wayN ⟨(k:Int)+1,fd,fn,0⟩)=0):=HEl.out
  clear HEl
  generalize (ndAt l k).ns=ns at HNs h6 HRd HN22
  generalize (Y k).nA=nA at HNs HN22
  generalize (Y k).nC=nC at HN22
  go_upto_region 11 with fail
  have hz0:Hid (BoxR (w5.alloc (.cells #[] 9)) Z [.int .i64 ((k:Int)+1),.int .i64 fd,.string fn,.int .i64 0]):=HZ.out.below (bel_alloc _ _)
  have hO0:Hid ((w5.alloc (.cells #[] 9)).ownsRow w5.heap.size 9 1 (.slice (some ⟨w5.heap.size,0,none⟩) 0 0) (nmsL (ns.take 0)).length (tv (nmsL (ns.take 0)))):=World.ownsRow_made w5 #[] 0 (Nat.le_refl _) (by unfold maxLen;omega) rfl
  have HB5:Hid (Below w5.heap.size w5 (w5.alloc (.cells #[] 9))):=bel_alloc _ _
  generalize w5.alloc (.cells #[] 9)=w6 at hz0 hO0 HB5 ⊢
  obtain ⟨S5,hS5⟩:∃ S5,S5=w5.heap.size:=⟨_,rfl⟩
  rw [←hS5] at hO0 ⊢
  have HS5:Hid (S5=w5.heap.size):=hS5
  clear hS5
  have z0:w6.cell? ⟨Z,0,none⟩=some (.int .i64 ((k:Int)+1)):=hz0.out.at0 0 _ rfl
  have g22:w6.cell? ⟨b,off+k*24+22,none⟩=some (.slice nA ns.length nC):=((Below.on HP4.out HB5.out).cell (p:=⟨b,off+k*24+22,none⟩) hb0).trans HN22.out
  go_wp2_with fail
  refine (HNo.out _ (Below.on HP4.out HB5.out)).mono ?_
  rintro e w7 ⟨rfl,rfl⟩
  go_wp2
  go_loopw [10,12] (fun v i wr=>∃ j:Nat,j≤ns.length∧i=.int .i64 j∧Hid (wr.ownsRow S5 9 1 v (nmsL (ns.take j)).length (tv (nmsL (ns.take j))))∧Hid (Below S5 w5 wr)∧Hid (S5≤wr.heap.size)) (fun _ i _=>ns.length-(intOf i).toNat)
  case atStart=>exact ⟨0,Nat.zero_le _,rfl,hO0,(by show Below _ _ _;rw [HS5.out];exact HB5.out),(by show _≤_;rw [HS5.out];exact HB5.out.size)⟩
  case round =>
    obtain ⟨j,hj,rfl,hOw,hB,hSz⟩:=hrel
    by_cases hlt:j<ns.length
    · have hlt' : (j : Int) < (ns.length : Int) := by omega
      have hj0:(0:Int)≤(j:Int):=by omega
      have hEn5:Ens nA ns.length ns w5:=HNs.out.below HP4.out
      obtain ⟨nb,nf,rfl,hnb,hcell⟩:=hEn5.2 (by omega)
      have g0:wr.cell? ⟨nb,nf+j*2,none⟩=some (.string (nmAt ns j)):=(hB.out.cell (p:=⟨nb,nf+j*2,none⟩) (by rw [HS5.out];exact hnb)).trans (hcell j hlt).1
      have HNx:Hid (nmsL (ns.take (j+1))=nmsL (ns.take j)++[nmAt ns j]):=nmsL_next hlt
      have hsm:(nmsL (ns.take j)).length≤6:=by rw [nmsL_len,List.length_take];omega
      generalize nmAt ns j=x at g0 HNx
      obtain ⟨v6,w8,hr,hO6,hB6,hs6,-,-⟩:=append_textX w5 wr u10 (nmsL (ns.take j)) (by rw [←HS5.out];exact hOw.out) (by rw [←HS5.out];exact hB.out) x (by omega)
      have HO6:Hid (w8.ownsRow S5 9 1 v6 (nmsL (ns.take (j+1))).length (tv (nmsL (ns.take (j+1))))):=(by show World.ownsRow _ _ _ _ _ _ _;rw [HNx.out,HS5.out];exact hO6)
      have HB6:Hid (Below S5 w5 w8):=(by show Below _ _ _;rw [HS5.out];exact hB6)
      have HS6:Hid (S5≤w8.heap.size):=Nat.le_trans hSz.out hs6
      clear hO6 hB6 hs6 hOw hB HNx hcell hEn5 hnb
      go_wp2_with (at_builtin;refine wpList_append_runT _ rfl (.tmp 68) (.tmp 74) 50 50 rfl _ _ _ _ rfl rfl hr ?_)
      go_roundw
      case rel=>exact ⟨j+1,by omega,by go_num,HO6,HB6,HS6⟩
      case measure=>simp [intOf];omega
    · have : j = ns.length := by omega
      subst this
      have hOw2:=hOw.out
      rw [nmsL_all,←HRd.out] at hOw2
      have hX5:X+1+1<w5.heap.size:=HO.out.lt
      have hne:u10.ownBlock≠some (X+1+1):=(fun e=>by have h1:=own_blockT hOw2 _ e;have h2:=HS5.out;omega)
      have HRw:Hid (wr.ownsRow w.heap.size 9 1 u10 (rdL l 0 (wayN ⟨(k:Int)+1,fd,fn,0⟩)).length (tv (rdL l 0 (wayN ⟨(k:Int)+1,fd,fn,0⟩)))):=row_base (w0:=w5) (by rw [←HS5.out];exact hOw2) HB.out.size
      have hB5:Below w5.heap.size w5 wr:=by rw [←HS5.out];exact hB.out
      have HBf:Hid (Below w.heap.size w wr):=Below.on HB.out hB5
      have HO2:Hid (BoxW wr (X+1+1) [.slice none 0 0,.int .i64 0]):=HO.out.below hB5
      obtain ⟨va,vl,vc,rfl⟩:=row_sliceT hOw2
      clear hOw2 hOw hB HO HX HC HRd hB5 hO0 HNo HNs HN22
      have o0:wr.cell? ⟨X+1+1,0,none⟩=some (.slice none 0 0):=HO2.out.at0 0 _ rfl
      have o1:wr.cell? ⟨X+1+1,1,none⟩=some (.int .i64 0):=HO2.out.at0 1 _ rfl
      have fz:∀ o,wr.frozen? ⟨X+1+1,o,none⟩=false:=HO2.out.frz
      go_wp2
      refine bodyPost_ret (v:=.agg #[.slice va vl vc,.int .i64 0]) (by simp [results,Tryz.results24,go_sem,o0,o1]) rfl ?_
      exact ⟨_,by rw [HE.out],(by rw [HE.out];exact row_set (row_set HRw.out hne) hne),(bl_setT (bl_setT HBf.out (by have:=HXw.out;omega)) (by have:=HXw.out;omega))⟩
end Go.Proofs.YtabfdidnjibdeaaGreatDoor
