/- Laid together: LetI, NodeMayW, ReachM. -/
import Derived.Test.YtabfdidnjibdeaaGreatDoorBT33
import Derived.Test.YtabfdidnjibdeaaGreatDoorBT26
import Derived.Test.YtabfdidnjibdeaaGreatDoorBT4
import Derived.Test.YtabfdidnjibdeaaGreatDoorBT34
import Derived.Test.YtabfdidnjibdeaaGreatDoorBT35
/- impl's Node.rootMay and Node.lets. -/
namespace Go.Proofs.YtabfdidnjibdeaaGreatDoor
open Go.RowKit Go.PlainAid Go.Deep
set_option linter.unusedVariables false
set_option maxRecDepth 20000 in
set_option maxHeartbeats 8000000 in
theorem iRootMay_any (x:Nd) (y:Na) (want:Int) (w:World) :
    Calls Tryz.prog 138 #[.agg (ndV x y).toArray,.int .i64 want] w fun e w' => e=.returned (.bool (x.k == 1 || (!hasZ want 1 || hasZ (bits .or .i64 (bits .or .i64 x.A.u (clsOf x.A.g x.A.r x.A.m)) x.A.o) 1)))∧Below w.heap.size w w':=by
  have cA:∀ w d os,Calls Tryz.prog 153 #[.agg #[.int .i64 x.A.u,.int .i64 x.A.g,.int .i64 x.A.o,.slice y.aU x.A.us.length y.cU,.slice y.aG x.A.gs.length y.cG,.bool x.A.r,.int .i64 x.A.m]] (Go.Sort.grow (redrawn w d) os) fun e w'' => e=.returned (.int .i64 (clsOf x.A.g x.A.r x.A.m))∧∃ p:Regrown,w''=Go.Sort.grow (redrawn w p.d) p.os:=fun w d os => Calls.regrown_of (groupClass_any x.A.u x.A.g x.A.o _ _ _ _ _ _ x.A.r x.A.m _)
  have HH:Hid (∀ (h v:Int) (w:World),Calls Tryz.prog 176 #[.int .i64 h,.int .i64 v] w fun e w' => e=.returned (.bool (hasZ h v))∧w'=w):=iHas_any
  generalize clsOf x.A.g x.A.r x.A.m=kk at cA ⊢
  have HE:Hid ((x.k == 1 || (!hasZ want 1 || hasZ (bits .or .i64 (bits .or .i64 x.A.u kk) x.A.o) 1))=(x.k == 1 || (!hasZ want 1 || hasZ (bits .or .i64 (bits .or .i64 x.A.u kk) x.A.o) 1))):=rfl
  generalize hbz:(x.k == 1 || (!hasZ want 1 || hasZ (bits .or .i64 (bits .or .i64 x.A.u kk) x.A.o) 1))=bz
  have HZ:Hid (bz=(x.k == 1 || (!hasZ want 1 || hasZ (bits .or .i64 (bits .or .i64 x.A.u kk) x.A.o) 1))):=hbz.symm
  clear hbz HE
  have HB:Hid (Below w.heap.size w (w.alloc (.cells (ndV x y).toArray 84))):=bel_alloc _ _
  have HX:Hid (BoxR (w.alloc (.cells (ndV x y).toArray 84)) w.heap.size (ndV x y)):=boxR_new _ _ _
  go_enter Tryz.func138,Tryz.ntmps138
  go_upto_region 1 with fail
  generalize w.alloc (.cells (ndV x y).toArray 84)=w0 at HB HX ⊢
  obtain ⟨X,hX⟩:∃ X,X=w.heap.size:=⟨_,rfl⟩
  rw [← hX] at HX ⊢
  clear hX
  have z4:∀ d os,(Go.Sort.grow (redrawn w0 d) os).cell? ⟨X,4,none⟩=some (.int .i64 x.A.u):=fun d os => cell_regrown (NB.c4 HX.out) d os
  have z5:∀ d os,(Go.Sort.grow (redrawn w0 d) os).cell? ⟨X,5,none⟩=some (.int .i64 x.A.g):=fun d os => cell_regrown (NB.c5 HX.out) d os
  have z6:∀ d os,(Go.Sort.grow (redrawn w0 d) os).cell? ⟨X,6,none⟩=some (.int .i64 x.A.o):=fun d os => cell_regrown (NB.c6 HX.out) d os
  have z7:∀ d os,(Go.Sort.grow (redrawn w0 d) os).cell? ⟨X,7,none⟩=some (.slice y.aU x.A.us.length y.cU):=fun d os => cell_regrown (NB.c7 HX.out) d os
  have z8:∀ d os,(Go.Sort.grow (redrawn w0 d) os).cell? ⟨X,8,none⟩=some (.slice y.aG x.A.gs.length y.cG):=fun d os => cell_regrown (NB.c8 HX.out) d os
  have z9:∀ d os,(Go.Sort.grow (redrawn w0 d) os).cell? ⟨X,9,none⟩=some (.bool x.A.r):=fun d os => cell_regrown (NB.c9 HX.out) d os
  have z10:∀ d os,(Go.Sort.grow (redrawn w0 d) os).cell? ⟨X,10,none⟩=some (.int .i64 x.A.m):=fun d os => cell_regrown (NB.c10 HX.out) d os
  refine wp_region_quiet_below (by kernel_rfl) (by kernel_rfl) ?_
  repeat (go_big_quiet_step (exact cA _ _ _))
  refine wpQuiet_nil ?_
  intro _ hw'
  obtain ⟨⟨dq,osq⟩,hw''⟩:=hw'
  subst hw''
  have hbq:Hid (Below w.heap.size w (Go.Sort.grow (redrawn w0 dq) osq)):=Below.on HB.out (below_regrown w0 dq osq)
  have e0:(Go.Sort.grow (redrawn w0 dq) osq).cell? ⟨X,0,none⟩=some (.int .i64 x.k):=cell_regrown (NB.c0 HX.out) dq osq
  generalize Go.Sort.grow (redrawn w0 dq) osq=w2 at hbq e0 ⊢
  clear z4 z5 z6 z7 z8 z9 z10 cA HX HB
  generalize bits .or .i64 (bits .or .i64 x.A.u kk) x.A.o=some3 at HZ ⊢
  generalize hq1:hasZ want 1=b1 at HZ
  generalize hq2:hasZ some3 1=b2 at HZ
  have H1:Hid (∀ w,Calls Tryz.prog 176 #[.int .i64 want,.int .i64 1] w fun e w' => e=.returned (.bool b1)∧w'=w):=(fun w => by rw [← hq1]; exact HH.out _ _ _)
  have H2:Hid (∀ w,Calls Tryz.prog 176 #[.int .i64 some3,.int .i64 1] w fun e w' => e=.returned (.bool b2)∧w'=w):=(fun w => by rw [← hq2]; exact HH.out _ _ _)
  clear hq1 hq2 HH
  cases q0:(x.k == 1)
  · cases b1
    · have HF : Hid (bz = true) := (by show _ = _; rw [HZ.out, q0]; rfl)
      clear HZ H2
      go_wp2_with (go_at_call 176; refine (H1.out _).mono ?_; rintro e w3 ⟨rfl,hw⟩; have hw2:=hw.symm; clear hw; subst hw2)
      go_ret
      exact ⟨ret_boolW HF.out.symm,hbq.out⟩
    · have HF : Hid (bz = b2) := (by show _ = _; rw [HZ.out, q0]; rfl)
      clear HZ
      go_wp2_with (first
        | (go_at_call_of 176 (Value.int IntKind.i64 want); refine (H1.out _).mono ?_; rintro e w3 ⟨rfl,hw⟩; have hw2:=hw.symm; clear hw; subst hw2)
        | (go_at_call_of 176 (Value.int IntKind.i64 some3); refine (H2.out _).mono ?_; rintro e w3 ⟨rfl,hw⟩; have hw2:=hw.symm; clear hw; subst hw2))
      go_ret
      exact ⟨ret_boolW HF.out.symm,hbq.out⟩
  · have HF : Hid (bz = true) := (by show _ = _; rw [HZ.out, q0]; rfl)
    clear HZ H1 H2
    go_wp2
    go_ret
    exact ⟨ret_boolW HF.out.symm,hbq.out⟩
set_option maxRecDepth 20000 in
set_option maxHeartbeats 8000000 in
theorem iLet_any (x:Nd) (y:Na) (u g:Int) (ca:Option Addr) (cl cc:Nat) (r:Bool) (cf:Nat→Int) (want:Int) (ha:Ask x u g cl cf want) (w:World) (hi:NdIn w x y) (hci:Ints ca cl cf w) :
    Calls Tryz.prog 92 #[.agg (ndV x y).toArray,.agg #[.int .i64 u,.int .i64 g,.slice ca cl cc,.bool r],.int .i64 want] w fun e w' => e=.returned (.bool (letB x u g cl r cf want))∧Below w.heap.size w w':=by
  cases r
  · have HE : Hid (letB x u g cl false cf want = mayB x.A.u x.A.g x.A.o x.A.us x.A.gs x.A.r x.A.m x.ow x.gr u g cl cf want) := rfl
    have HM:Hid (∀ w',Below w.heap.size w w'→Calls Tryz.prog 139 #[.agg #[.int .i64 x.A.u,.int .i64 x.A.g,.int .i64 x.A.o,.slice y.aU x.A.us.length y.cU,.slice y.aG x.A.gs.length y.cG,.bool x.A.r,.int .i64 x.A.m],.int .i64 x.ow,.int .i64 x.gr,.agg #[.int .i64 u,.int .i64 g,.slice ca cl cc,.bool false],.int .i64 want] w' fun e w'' => e=.returned (.bool (mayB x.A.u x.A.g x.A.o x.A.us x.A.gs x.A.r x.A.m x.ow x.gr u g cl cf want))∧Below w'.heap.size w' w''):=(fun w' hb => iAclMay_any x.A.u x.A.g x.A.o _ _ _ _ _ _ x.A.r x.A.m x.A.us x.A.gs x.ow x.gr u g _ _ _ _ cf want w' (hi.aU.below hb) (hi.aG.below hb) (hci.below hb))
    clear hi hci ha
    generalize mayB x.A.u x.A.g x.A.o x.A.us x.A.gs x.A.r x.A.m x.ow x.gr u g cl cf want=mb at HE HM
    have HX:Hid (BoxR ((w.alloc (.cells (ndV x y).toArray 84)).alloc (.cells #[.int .i64 u,.int .i64 g,.slice ca cl cc,.bool false] 37)) w.heap.size (ndV x y)):=(boxR_new w (ndV x y) 84).below (bel_alloc _ _)
    have HC:Hid (BoxR ((w.alloc (.cells (ndV x y).toArray 84)).alloc (.cells #[.int .i64 u,.int .i64 g,.slice ca cl cc,.bool false] 37)) (w.heap.size + 1) [.int .i64 u,.int .i64 g,.slice ca cl cc,.bool false]):=(by
      have h:=boxR_new (w.alloc (.cells (ndV x y).toArray 84)) [.int .i64 u,.int .i64 g,.slice ca cl cc,.bool false] 37
      simp only [World.size_alloc] at h
      exact h)
    have HB:Hid (Below w.heap.size w ((w.alloc (.cells (ndV x y).toArray 84)).alloc (.cells #[.int .i64 u,.int .i64 g,.slice ca cl cc,.bool false] 37))):=bl2T _ _ _
    go_enter Tryz.func92,Tryz.ntmps92
    go_upto_region 1 with fail
    generalize ((w.alloc (.cells (ndV x y).toArray 84)).alloc (.cells #[.int .i64 u,.int .i64 g,.slice ca cl cc,.bool false] 37))=w0 at HX HC HB ⊢
    obtain ⟨X,hX⟩:∃ X,X=w.heap.size:=⟨_,rfl⟩
    rw [← hX] at HX HC ⊢
    clear hX
    have e0:=NB.c0 HX.out
    have e1:=NB.c1 HX.out
    have e2:=NB.c2 HX.out
    have e3:=NB.c3 HX.out
    have e4:=NB.c4 HX.out
    have e5:=NB.c5 HX.out
    have e6:=NB.c6 HX.out
    have e7:=NB.c7 HX.out
    have e8:=NB.c8 HX.out
    have e9:=NB.c9 HX.out
    have e10:=NB.c10 HX.out
    have y0:w0.cell? ⟨X + 1,0,none⟩=some (.int .i64 u):=HC.out.at0 0 _ rfl
    have y1:w0.cell? ⟨X + 1,1,none⟩=some (.int .i64 g):=HC.out.at0 1 _ rfl
    have y2:w0.cell? ⟨X + 1,2,none⟩=some (.slice ca cl cc):=HC.out.at0 2 _ rfl
    have y3:w0.cell? ⟨X + 1,3,none⟩=some (.bool false):=HC.out.at0 3 _ rfl
    go_wp2_with (go_at_call 139; refine (HM.out _ HB.out).mono ?_; rintro e w1 ⟨rfl,hb⟩; replace HB:Hid (Below w.heap.size w w1):=Below.on HB.out hb; clear hb)
    go_ret
    exact ⟨ret_boolW HE.out.symm,HB.out⟩
  · have HE : Hid (letB x u g cl true cf want = (x.k == 1 || (!hasZ want 1 || hasZ (bits .or .i64 (bits .or .i64 x.A.u (clsOf x.A.g x.A.r x.A.m)) x.A.o) 1))) := rootB_has ha
    have HR:Hid (∀ w,Calls Tryz.prog 138 #[.agg (ndV x y).toArray,.int .i64 want] w fun e w' => e=.returned (.bool (x.k == 1 || (!hasZ want 1 || hasZ (bits .or .i64 (bits .or .i64 x.A.u (clsOf x.A.g x.A.r x.A.m)) x.A.o) 1)))∧Below w.heap.size w w'):=(fun w => iRootMay_any x y want w)
    generalize (x.k == 1 || (!hasZ want 1 || hasZ (bits .or .i64 (bits .or .i64 x.A.u (clsOf x.A.g x.A.r x.A.m)) x.A.o) 1))=rb at HE HR
    clear hi hci ha
    have HX:Hid (BoxR ((w.alloc (.cells (ndV x y).toArray 84)).alloc (.cells #[.int .i64 u,.int .i64 g,.slice ca cl cc,.bool true] 37)) w.heap.size (ndV x y)):=(boxR_new w (ndV x y) 84).below (bel_alloc _ _)
    have HC:Hid (BoxR ((w.alloc (.cells (ndV x y).toArray 84)).alloc (.cells #[.int .i64 u,.int .i64 g,.slice ca cl cc,.bool true] 37)) (w.heap.size + 1) [.int .i64 u,.int .i64 g,.slice ca cl cc,.bool true]):=(by
      have h:=boxR_new (w.alloc (.cells (ndV x y).toArray 84)) [.int .i64 u,.int .i64 g,.slice ca cl cc,.bool true] 37
      simp only [World.size_alloc] at h
      exact h)
    have HB:Hid (Below w.heap.size w ((w.alloc (.cells (ndV x y).toArray 84)).alloc (.cells #[.int .i64 u,.int .i64 g,.slice ca cl cc,.bool true] 37))):=bl2T _ _ _
    go_enter Tryz.func92,Tryz.ntmps92
    go_upto_region 1 with fail
    generalize ((w.alloc (.cells (ndV x y).toArray 84)).alloc (.cells #[.int .i64 u,.int .i64 g,.slice ca cl cc,.bool true] 37))=w0 at HX HC HB ⊢
    obtain ⟨X,hX⟩:∃ X,X=w.heap.size:=⟨_,rfl⟩
    rw [← hX] at HX HC ⊢
    clear hX
    have y0:w0.cell? ⟨X + 1,0,none⟩=some (.int .i64 u):=HC.out.at0 0 _ rfl
    have y1:w0.cell? ⟨X + 1,1,none⟩=some (.int .i64 g):=HC.out.at0 1 _ rfl
    have y2:w0.cell? ⟨X + 1,2,none⟩=some (.slice ca cl cc):=HC.out.at0 2 _ rfl
    have y3:w0.cell? ⟨X + 1,3,none⟩=some (.bool true):=HC.out.at0 3 _ rfl
    have HN:Hid (N24 w0 X 0 x y):=HX.out.at0
    go_wp2_with (first
      | (refine wpList_load_mid (by rfl) 84 _ (by rfl) _ _ (by rfl) _ _ HN.out Tryz.underlying84 rfl (by kernel_rfl) ?_)
      | (go_at_call 138; refine (HR.out _).mono ?_; rintro e w1 ⟨rfl,hb⟩; replace HB:Hid (Below w.heap.size w w1):=Below.on HB.out hb; clear hb))
    go_ret
    exact ⟨ret_boolW HE.out.symm,HB.out⟩
end Go.Proofs.YtabfdidnjibdeaaGreatDoor
/- NodeMay, the program's and the specification's. -/
namespace Go.Proofs.YtabfdidnjibdeaaGreatDoor
open Go.RowKit Go.PlainAid Go.Deep
set_option linter.unusedVariables false
def mayO (l:List Nd) (now u g:Int) (cl:Nat) (r:Bool) (cf:Nat→Int) (n want:Int):Bool:=treeB l now && (thB l n && (credB u g cl cf && (inR 0 7 want && letB (ndAt l (n - 1).toNat) u g cl r cf want)))
end Go.Proofs.YtabfdidnjibdeaaGreatDoor
/- What Walk answers: its node is there. -/
namespace Go.Proofs.YtabfdidnjibdeaaGreatDoor
open Go.RowKit Go.PlainAid Go.Deep
set_option linter.unusedVariables false
theorem wrun_ok {l:List Nd} {now:Int} {lt:Nat→Bool} {fs:Bool} (ht:treeB l now=true):∀ (f:Nat) (s:Wy),WyOk l s→(wrun l lt fs f s).1=0→WyOk l (wrun l lt fs f s).2
  | 0,s,h,_ => h
  | f + 1,s,h,h0 => by
    cases hp:s.ps with
    | nil => rw [wrun_nil hp]; exact h
    | cons p ps =>
      rw [wrun_cons hp] at h0 ⊢
      by_cases e:(wst l lt fs s p ps).1=0
      · have e2 : ((wst l lt fs s p ps).1 == 0) = true := by rw [e]; rfl
        rw [e2] at h0 ⊢
        exact wrun_ok ht f _ (wst_ok ht h hp e).1 h0
      · have e2 : ((wst l lt fs s p ps).1 == 0) = false := by simpa using e
        rw [e2] at h0 ⊢
        exact absurd h0 e
theorem wkO_there {l:List Nd} {now:Int} {lt:Nat→Bool} {fo:Bool} {s:ByteArray} (ht:treeB l now=true):(wkO l lt fo s).n=0∨((wkO l lt fo s).c=0∧thB l (wkO l lt fo s).n=true):=by
  rw [wkO]
  split
  · rename_i h
    rw [wend]
    split
    · rename_i h1
      have h1:(wrun l lt (fo || lasB s) (wmu (s0W s)) (s0W s)).1=0:=by simpa using h1
      have hk:=wrun_ok ht _ _ (s0_ok ht h) h1
      split
      · exact .inl rfl
      · by_cases e : (wrun l lt (fo || lasB s) (wmu (s0W s)) (s0W s)).2.at_ = 0
        · exact .inl e
        · exact .inr ⟨rfl,hk.th e⟩
    · exact .inl rfl
  · exact .inl rfl
/-- What Walk answers of whatever is handed in: no node, or a tree and a Cred that are right, and a node that is there. -/
theorem wkF_there (l:List Nd) (now u g:Int) (cl:Nat) (r:Bool) (cf:Nat→Int) (s:ByteArray) (fo:Bool):(wkF l now u g cl r cf s fo).n=0∨((wkF l now u g cl r cf s fo).c=0∧treeB l now=true∧credB u g cl cf=true∧thB l (wkF l now u g cl r cf s fo).n=true):=by
  rw [wkF]
  split
  · exact .inl rfl
  · split
    · rename_i h
      simp only [Bool.and_eq_true] at h
      rcases wkO_there (lt:=ltB l u g cl r cf) (fo:=fo) (s:=s) h.1 with e | ⟨e1,e2⟩
      · exact .inl e
      · exact .inr ⟨e1,h.1,h.2,e2⟩
    · exact .inl rfl
def rchO (l:List Nd) (now u g:Int) (cl:Nat) (r:Bool) (cf:Nat→Int) (s:ByteArray) (want:Int):Bool:=mayO l now u g cl r cf (wkF l now u g cl r cf s true).n want
end Go.Proofs.YtabfdidnjibdeaaGreatDoor
