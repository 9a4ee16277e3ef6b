/- Laid together: ModeOf, MaskOf, NodeModeW. -/
import Derived.Test.YtabfdidnjibdeaaGreatDoorBT7
import Derived.Test.YtabfdidnjibdeaaGreatDoorBT21
import Derived.Lib.QuietBelow
import Derived.Test.YtabfdidnjibdeaaGreatDoorBT22
import Derived.Test.YtabfdidnjibdeaaGreatDoorBT16
/- ModeOf, the program's and the specification's. -/
namespace Go.Proofs.YtabfdidnjibdeaaGreatDoor
open Go.RowKit Go.PlainAid
set_option linter.unusedVariables false
/-- The group class. -/
def clsOf (g:Int) (r:Bool) (m:Int):Int:=if r then m else g
set_option maxHeartbeats 1000000 in
/-- impl.groupClass. -/
theorem groupClass_any (u g o:Int) (au:Option Addr) (lu cu:Nat) (ag:Option Addr) (lg cg:Nat) (r:Bool) (m:Int) (w:World) :
    Calls Tryz.prog 153 #[.agg #[.int .i64 u,.int .i64 g,.int .i64 o,.slice au lu cu,.slice ag lg cg,.bool r,.int .i64 m]] w fun e w' => e=.returned (.int .i64 (clsOf g r m))∧Below w.heap.size w w':=by
  cases r <;>
  · go_enter Tryz.func153, Tryz.ntmps153
    go_wp2
    go_ret
    exact ⟨rfl,bel_alloc _ _⟩
set_option maxHeartbeats 1000000 in
/-- spec.l03Class. -/
theorem sClass_any (u g o:Int) (au:Option Addr) (lu cu:Nat) (ag:Option Addr) (lg cg:Nat) (r:Bool) (m:Int) (w:World) :
    Calls Tryz.prog 88 #[.agg #[.int .i64 u,.int .i64 g,.int .i64 o,.slice au lu cu,.slice ag lg cg,.bool r,.int .i64 m]] w fun e w' => e=.returned (.int .i64 (clsOf g r m))∧Below w.heap.size w w':=by
  cases r <;>
  · go_enter Tryz.func88, Tryz.ntmps88
    go_wp2
    go_ret
    exact ⟨rfl,bel_alloc _ _⟩
theorem aclB_parts {u g o:Int} {us gs:List (Int × Int)} {r:Bool} {m:Int} (h:aclB u g o us gs r m=true):(0≤u∧u≤7)∧(0≤g∧g≤7)∧(0≤o∧o≤7)∧(0≤m∧m≤7)∧nmB us=true∧nmB gs=true:=by
  unfold aclB at h
  simp only [Bool.and_eq_true] at h
  exact ⟨inR_iff.1 h.1,inR_iff.1 h.2.1,inR_iff.1 h.2.2.1,inR_iff.1 h.2.2.2.1,h.2.2.2.2.1,h.2.2.2.2.2.1⟩
theorem clsOf_in {u g o:Int} {us gs:List (Int × Int)} {r:Bool} {m:Int} (h:aclB u g o us gs r m=true):0≤clsOf g r m∧clsOf g r m≤7:=by
  obtain ⟨_,h1,_,h2,_⟩:=aclB_parts h
  cases r
  · exact h1
  · exact h2
/-- ModeOf. -/
def modeOfB (u g o:Int) (us gs:List (Int × Int)) (r:Bool) (m:Int):Int:=if aclB u g o us gs r m then 64 * u + 8 * clsOf g r m + o else 0
theorem ret_intM {a b:Int} (h:a=b):Ending.returned (.int .i64 a)=.returned (.int .i64 b):=by rw [h]
theorem or3 (u c o:Nat) (h1:u≤7) (h2:c≤7) (h3:o≤7):bits .or .i64 (bits .or .i64 ((u * 64:Nat):Int) ((c * 8:Nat):Int)) (o:Int)=64 * u + 8 * c + o:=by
  rw [i64_or_nat (u * 64) (c * 8) (by omega) (by omega)]
  have e1:u * 64 ||| c * 8=u * 64 + c * 8:=by
    have:=Nat.shiftLeft_add_eq_or_of_lt (b:=c * 8) (i:=6) (by omega) u
    rw [Nat.shiftLeft_eq] at this
    exact this.symm
  rw [e1,i64_or_nat (u * 64 + c * 8) o (by omega) (by omega)]
  have e2:(u * 64 + c * 8) ||| o=u * 64 + c * 8 + o:=by
    have:=Nat.shiftLeft_add_eq_or_of_lt (b:=o) (i:=3) (by omega) (u * 8 + c)
    rw [Nat.shiftLeft_eq] at this
    have e:(u * 8 + c) * 2 ^ 3=u * 64 + c * 8:=by omega
    rw [e] at this
    exact this.symm
  rw [e2]
  omega
theorem or3i (u c o:Int) (a0:0≤u) (h1:u≤7) (b0:0≤c) (h2:c≤7) (c0:0≤o) (h3:o≤7):bits .or .i64 (bits .or .i64 (u * 64) (c * 8)) o=64 * u + 8 * c + o:=by
  obtain ⟨a,rfl⟩:=Int.eq_ofNat_of_zero_le a0
  obtain ⟨b,rfl⟩:=Int.eq_ofNat_of_zero_le b0
  obtain ⟨c,rfl⟩:=Int.eq_ofNat_of_zero_le c0
  exact or3 a b c (by omega) (by omega) (by omega)
set_option maxHeartbeats 4000000 in
/-- impl.ModeOf. -/
theorem iModeOf_any (u g o:Int) (au:Option Addr) (lu cu:Nat) (ag:Option Addr) (lg cg:Nat) (r:Bool) (m:Int) (us gs:List (Int × Int)) (w:World) (hu:Prs au lu us w) (hg:Prs ag lg gs w) :
    Calls Tryz.prog 97 #[.agg #[.int .i64 u,.int .i64 g,.int .i64 o,.slice au lu cu,.slice ag lg cg,.bool r,.int .i64 m]] w fun e w' => e=.returned (.int .i64 (modeOfB u g o us gs r m))∧Below w.heap.size w w':=by
  have hc:Hid (∀ w',Below w.heap.size w w'→Calls Tryz.prog 152 #[.agg #[.int .i64 u,.int .i64 g,.int .i64 o,.slice au lu cu,.slice ag lg cg,.bool r,.int .i64 m]] w' fun e w'' => e=.returned (.bool (aclB u g o us gs r m))∧Below w'.heap.size w' w''):=(fun w' hb => iAclRight_any u g o au lu cu ag lg cg r m us gs w' (hu.below hb) (hg.below hb))
  clear hu hg
  go_enter Tryz.func97,Tryz.ntmps97
  go_wp2_with fail
  refine (hc.out _ (bel_alloc _ _)).mono ?_
  rintro e w1 ⟨rfl,hb⟩
  have hW1:Hid (Below w.heap.size w w1):=Below.on (bel_alloc _ _) hb
  obtain ⟨xl,x0,x1,x2,x3,x4,x5,x6⟩:=(box7_new w (.int .i64 u) (.int .i64 g) (.int .i64 o) (.slice au lu cu) (.slice ag lg cg) (.bool r) (.int .i64 m) 81).below hb
  clear hb hc
  cases h:aclB u g o us gs r m
  · have hno : Hid (modeOfB u g o us gs r m = 0) := (by show _ = _; simp [modeOfB, h])
    clear h
    go_wp2
    go_ret
    exact ⟨by rw [hno.out]; rfl,hW1.out⟩
  · have hyes : Hid (modeOfB u g o us gs r m = 64 * u + 8 * clsOf g r m + o) := (by show _ = _; simp [modeOfB, h])
    obtain ⟨⟨u0,u1⟩,_,⟨o0,o1⟩,_⟩:=aclB_parts h
    obtain ⟨k0,k1⟩:=clsOf_in h
    clear h
    have cA:∀ w d os,Calls Tryz.prog 153 #[.agg #[.int .i64 u,.int .i64 g,.int .i64 o,.slice au lu cu,.slice ag lg cg,.bool r,.int .i64 m]] (Go.Sort.grow (redrawn w d) os) fun e w'' => e=.returned (.int .i64 (clsOf g r m))∧∃ p:Regrown,w''=Go.Sort.grow (redrawn w p.d) p.os:=fun w d os => Calls.regrown_of (groupClass_any u g o au lu cu ag lg cg r m _)
    have HK:Hid (clsOf g r m=clsOf g r m):=rfl
    generalize clsOf g r m=k at cA hyes k0 k1 HK
    have z0:∀ d os,(Go.Sort.grow (redrawn w1 d) os).cell? ⟨w.heap.size,0,none⟩=some (.int .i64 u):=fun d os => cell_regrown x0 d os
    have z1:∀ d os,(Go.Sort.grow (redrawn w1 d) os).cell? ⟨w.heap.size,1,none⟩=some (.int .i64 g):=fun d os => cell_regrown x1 d os
    have z2:∀ d os,(Go.Sort.grow (redrawn w1 d) os).cell? ⟨w.heap.size,2,none⟩=some (.int .i64 o):=fun d os => cell_regrown x2 d os
    have z3:∀ d os,(Go.Sort.grow (redrawn w1 d) os).cell? ⟨w.heap.size,3,none⟩=some (.slice au lu cu):=fun d os => cell_regrown x3 d os
    have z4:∀ d os,(Go.Sort.grow (redrawn w1 d) os).cell? ⟨w.heap.size,4,none⟩=some (.slice ag lg cg):=fun d os => cell_regrown x4 d os
    have z5:∀ d os,(Go.Sort.grow (redrawn w1 d) os).cell? ⟨w.heap.size,5,none⟩=some (.bool r):=fun d os => cell_regrown x5 d os
    have z6:∀ d os,(Go.Sort.grow (redrawn w1 d) os).cell? ⟨w.heap.size,6,none⟩=some (.int .i64 m):=fun d os => cell_regrown x6 d os
    clear x0 x1 x2 x3 x4 x5 x6
    go_wp2
    refine wp_region_quiet_below (by kernel_rfl) (by kernel_rfl) ?_
    repeat (go_big_quiet_step (exact cA _ _ _))
    refine wpQuiet_nil ?_
    intro _ hw'
    obtain ⟨⟨dq,osq⟩,hw''⟩:=hw'
    subst hw''
    have hbq:Hid (Below w.heap.size w (Go.Sort.grow (redrawn w1 dq) osq)):=Below.on hW1.out (below_regrown w1 dq osq)
    generalize Go.Sort.grow (redrawn w1 dq) osq=w2 at hbq ⊢
    clear z0 z1 z2 z3 z4 z5 z6 cA
    go_wp2
    go_ret
    exact ⟨ret_intM (by rw [hyes.out]; exact or3i u k o u0 u1 k0 k1 o0 o1),hbq.out⟩
set_option maxHeartbeats 4000000 in
/-- spec.l03Mode. -/
theorem sMode03_any (u g o:Int) (au:Option Addr) (lu cu:Nat) (ag:Option Addr) (lg cg:Nat) (r:Bool) (m:Int) (a0:0≤u) (h1:u≤7) (b0:0≤clsOf g r m) (h2:clsOf g r m≤7) (c0:0≤o) (h3:o≤7) (w:World) :
    Calls Tryz.prog 96 #[.agg #[.int .i64 u,.int .i64 g,.int .i64 o,.slice au lu cu,.slice ag lg cg,.bool r,.int .i64 m]] w fun e w' => e=.returned (.int .i64 (64 * u + 8 * clsOf g r m + o))∧Below w.heap.size w w':=by
  have cA:∀ w d os,Calls Tryz.prog 88 #[.agg #[.int .i64 u,.int .i64 g,.int .i64 o,.slice au lu cu,.slice ag lg cg,.bool r,.int .i64 m]] (Go.Sort.grow (redrawn w d) os) fun e w'' => e=.returned (.int .i64 (clsOf g r m))∧∃ p:Regrown,w''=Go.Sort.grow (redrawn w p.d) p.os:=fun w d os => Calls.regrown_of (sClass_any u g o au lu cu ag lg cg r m _)
  generalize clsOf g r m=k at cA b0 h2 ⊢
  go_enter Tryz.func96,Tryz.ntmps96
  obtain ⟨xl,x0,x1,x2,x3,x4,x5,x6⟩:=box7_new w (.int .i64 u) (.int .i64 g) (.int .i64 o) (.slice au lu cu) (.slice ag lg cg) (.bool r) (.int .i64 m) 81
  have hW1:Hid (Below w.heap.size w (w.alloc (.cells #[.int .i64 u,.int .i64 g,.int .i64 o,.slice au lu cu,.slice ag lg cg,.bool r,.int .i64 m] 81))):=bel_alloc _ _
  go_wp2
  generalize w.alloc (.cells #[.int .i64 u,.int .i64 g,.int .i64 o,.slice au lu cu,.slice ag lg cg,.bool r,.int .i64 m] 81)=w1 at xl x0 x1 x2 x3 x4 x5 x6 hW1 ⊢
  have z0:∀ d os,(Go.Sort.grow (redrawn w1 d) os).cell? ⟨w.heap.size,0,none⟩=some (.int .i64 u):=fun d os => cell_regrown x0 d os
  have z1:∀ d os,(Go.Sort.grow (redrawn w1 d) os).cell? ⟨w.heap.size,1,none⟩=some (.int .i64 g):=fun d os => cell_regrown x1 d os
  have z2:∀ d os,(Go.Sort.grow (redrawn w1 d) os).cell? ⟨w.heap.size,2,none⟩=some (.int .i64 o):=fun d os => cell_regrown x2 d os
  have z3:∀ d os,(Go.Sort.grow (redrawn w1 d) os).cell? ⟨w.heap.size,3,none⟩=some (.slice au lu cu):=fun d os => cell_regrown x3 d os
  have z4:∀ d os,(Go.Sort.grow (redrawn w1 d) os).cell? ⟨w.heap.size,4,none⟩=some (.slice ag lg cg):=fun d os => cell_regrown x4 d os
  have z5:∀ d os,(Go.Sort.grow (redrawn w1 d) os).cell? ⟨w.heap.size,5,none⟩=some (.bool r):=fun d os => cell_regrown x5 d os
  have z6:∀ d os,(Go.Sort.grow (redrawn w1 d) os).cell? ⟨w.heap.size,6,none⟩=some (.int .i64 m):=fun d os => cell_regrown x6 d os
  clear x0 x1 x2 x3 x4 x5 x6
  refine wp_region_quiet_below (by kernel_rfl) (by kernel_rfl) ?_
  repeat (go_big_quiet_step (exact cA _ _ _))
  refine wpQuiet_nil ?_
  intro _ hw'
  obtain ⟨⟨dq,osq⟩,hw''⟩:=hw'
  subst hw''
  have hbq:Hid (Below w.heap.size w (Go.Sort.grow (redrawn w1 dq) osq)):=Below.on hW1.out (below_regrown w1 dq osq)
  generalize Go.Sort.grow (redrawn w1 dq) osq=w2 at hbq ⊢
  clear z0 z1 z2 z3 z4 z5 z6 cA
  go_wp2
  go_ret
  exact ⟨rfl,hbq.out⟩
end Go.Proofs.YtabfdidnjibdeaaGreatDoor
/- MaskOf, the program's and the specification's: the bits in Group, or in one of Users or Groups. -/
namespace Go.Proofs.YtabfdidnjibdeaaGreatDoor
open Go.RowKit Go.PlainAid Go.Deep
set_option linter.unusedVariables false
/-- Of two things the first, or the second. -/
def two {α:Type} (x y:α) (j:Nat):α:=if j=0 then x else y
theorem cat_two (us gs:List (Int × Int)):cat (two us gs) 2=us ++ gs:=by simp [cat,two]
theorem row2_new (w:World) (v0 v1:Value) (t:TypeId):(w.alloc (.cells #[v0,v1] t)).cell? ⟨w.heap.size,0,none⟩=some v0∧(w.alloc (.cells #[v0,v1] t)).cell? ⟨w.heap.size,1,none⟩=some v1:=by
  have hb:(w.alloc (.cells #[v0,v1] t)).heap[w.heap.size]?=some (.cells #[v0,v1] t):=by
    rw [World.alloc]
    exact Array.getElem?_push_size
  refine ⟨?_,?_⟩ <;> (simp only [World.cell?,hb]; rfl)
/-- slices.Concat of two lists, the row of which has just been made. -/
theorem concat_two (w0:World) (X:Nat) (hX:X=w0.heap.size) (t:TypeId) (cap:Nat) (au:Option Addr) (lu cu:Nat) (us:List (Int × Int)) (ag:Option Addr) (lg cg:Nat) (gs:List (Int × Int)) (hN:lu + lg≤1000000) (hu:Prs au lu us w0) (hg:Prs ag lg gs w0) :
    Calls Tryz.prog 231 #[.slice (some ⟨X,0,none⟩) 2 cap] (w0.alloc (.cells #[.slice au lu cu,.slice ag lg cg] t)) fun e w' => ∃ a c,e=.returned (.slice a (lu + lg) c)∧lu + lg≤c∧Own a (lu + lg) (us ++ gs) w'∧(∀ Ad,a=some Ad→w0.heap.size≤Ad.block∧Ad.block < w'.heap.size)∧Below w0.heap.size w0 w':=by
  subst hX
  have hb:=bel_alloc w0 (.cells #[.slice au lu cu,.slice ag lg cg] t)
  obtain ⟨r0,r1⟩:=row2_new w0 (.slice au lu cu) (.slice ag lg cg) t
  have e1:=hu.1
  have e2:=hg.1
  have hl:(cat (two us gs) 2).length=lu + lg:=by rw [cat_two,List.length_append,e1,e2]
  refine (concat_any w0.heap.size 2 cap (two au ag) (two cu cg) (two us gs) (by omega) (by rw [hl]; omega) _ (by simp) ?_).mono ?_
  · intro j hj
    rcases (by omega:j=0∨j=1) with rfl | rfl
    · refine ⟨?_, ?_⟩
      · show _ = some (Value.slice au us.length cu)
        rw [e1]
        exact r0
      · show Prs au us.length us _
        rw [e1]
        exact hu.below hb
    · refine ⟨?_, ?_⟩
      · show _ = some (Value.slice ag gs.length cg)
        rw [e2]
        exact r1
      · show Prs ag gs.length gs _
        rw [e2]
        exact hg.below hb
  · rintro e w' ⟨a, c, rfl, hc, ho, hin, hbel⟩
    rw [hl] at ho hc ⊢
    rw [cat_two] at ho
    refine ⟨a,c,rfl,hc,ho,fun Ad e => ?_,Below.on hb hbel⟩
    have:=hin Ad e
    have h2:=hb.size
    exact ⟨by omega,this.2⟩
end Go.Proofs.YtabfdidnjibdeaaGreatDoor
/- NodeMode, the program's and the specification's. -/
namespace Go.Proofs.YtabfdidnjibdeaaGreatDoor
open Go.RowKit Go.PlainAid Go.Deep
set_option linter.unusedVariables false
def Nd.mode (x:Nd):Int:=512 * x.ex + (64 * x.A.u + 8 * clsOf x.A.g x.A.r x.A.m + x.A.o)
def mdO (l:List Nd) (now n:Int):Int:=if treeB l now && thB l n then (ndAt l (n - 1).toNat).mode else 0
theorem or2i (e m:Int) (a0:0≤e) (h1:e≤7) (b0:0≤m) (h2:m≤511):bits .or .i64 (e * 512) m=512 * e + m:=by
  obtain ⟨a,rfl⟩:=Int.eq_ofNat_of_zero_le a0
  obtain ⟨b,rfl⟩:=Int.eq_ofNat_of_zero_le b0
  have e0:((a:Int) * 512)=((a * 512:Nat):Int):=by omega
  rw [e0,i64_or_nat (a * 512) b (by omega) (by omega)]
  have e1:a * 512 ||| b=a * 512 + b:=by
    have:=Nat.shiftLeft_add_eq_or_of_lt (b:=b) (i:=9) (by omega) a
    rw [Nat.shiftLeft_eq] at this
    exact this.symm
  rw [e1]
  omega
set_option maxRecDepth 20000 in
set_option maxHeartbeats 4000000 in
theorem sMode08_any (x:Nd) (y:Na) (hx:0≤x.ex∧x.ex≤7) (hA:aclB x.A.u x.A.g x.A.o x.A.us x.A.gs x.A.r x.A.m=true) (w:World) :
    Calls Tryz.prog 52 #[.agg (ndV x y).toArray] w fun e w' => e=.returned (.int .i64 x.mode)∧Below w.heap.size w w':=by
  obtain ⟨x0,x7⟩:=hx
  obtain ⟨⟨u0,u1⟩,_,⟨o0,o1⟩,_⟩:=aclB_parts hA
  obtain ⟨k0,k1⟩:=clsOf_in hA
  have HE:Hid (x.mode=512 * x.ex + (64 * x.A.u + 8 * clsOf x.A.g x.A.r x.A.m + x.A.o)):=rfl
  have cA:∀ w d os,Calls Tryz.prog 96 #[.agg #[.int .i64 x.A.u,.int .i64 x.A.g,.int .i64 x.A.o,.slice y.aU x.A.us.length y.cU,.slice y.aG x.A.gs.length y.cG,.bool x.A.r,.int .i64 x.A.m]] (Go.Sort.grow (redrawn w d) os) fun e w'' => e=.returned (.int .i64 (64 * x.A.u + 8 * clsOf x.A.g x.A.r x.A.m + x.A.o))∧∃ p:Regrown,w''=Go.Sort.grow (redrawn w p.d) p.os:=fun w d os => Calls.regrown_of (sMode03_any _ _ _ _ _ _ _ _ _ _ _ u0 u1 k0 k1 o0 o1 _)
  obtain ⟨m,hm⟩:∃ m,m=64 * x.A.u + 8 * clsOf x.A.g x.A.r x.A.m + x.A.o:=⟨_,rfl⟩
  rw [← hm] at cA HE
  have m0:0≤m:=by omega
  have m1:m≤511:=by omega
  clear hm hA
  have HB:Hid (Below w.heap.size w (w.alloc (.cells (ndV x y).toArray 84))):=bel_alloc _ _
  have HX:Hid (BoxR (w.alloc (.cells (ndV x y).toArray 84)) w.heap.size (ndV x y)):=boxR_new _ _ _
  go_enter Tryz.func52,Tryz.ntmps52
  go_upto_region 1 with fail
  generalize w.alloc (.cells (ndV x y).toArray 84)=w0 at HB HX ⊢
  obtain ⟨X,hX⟩:∃ X,X=w.heap.size:=⟨_,rfl⟩
  rw [← hX] at HX ⊢
  clear hX
  have z3:∀ d os,(Go.Sort.grow (redrawn w0 d) os).cell? ⟨X,3,none⟩=some (.int .i64 x.ex):=fun d os => cell_regrown (NB.c3 HX.out) d os
  have z4:∀ d os,(Go.Sort.grow (redrawn w0 d) os).cell? ⟨X,4,none⟩=some (.int .i64 x.A.u):=fun d os => cell_regrown (NB.c4 HX.out) d os
  have z5:∀ d os,(Go.Sort.grow (redrawn w0 d) os).cell? ⟨X,5,none⟩=some (.int .i64 x.A.g):=fun d os => cell_regrown (NB.c5 HX.out) d os
  have z6:∀ d os,(Go.Sort.grow (redrawn w0 d) os).cell? ⟨X,6,none⟩=some (.int .i64 x.A.o):=fun d os => cell_regrown (NB.c6 HX.out) d os
  have z7:∀ d os,(Go.Sort.grow (redrawn w0 d) os).cell? ⟨X,7,none⟩=some (.slice y.aU x.A.us.length y.cU):=fun d os => cell_regrown (NB.c7 HX.out) d os
  have z8:∀ d os,(Go.Sort.grow (redrawn w0 d) os).cell? ⟨X,8,none⟩=some (.slice y.aG x.A.gs.length y.cG):=fun d os => cell_regrown (NB.c8 HX.out) d os
  have z9:∀ d os,(Go.Sort.grow (redrawn w0 d) os).cell? ⟨X,9,none⟩=some (.bool x.A.r):=fun d os => cell_regrown (NB.c9 HX.out) d os
  have z10:∀ d os,(Go.Sort.grow (redrawn w0 d) os).cell? ⟨X,10,none⟩=some (.int .i64 x.A.m):=fun d os => cell_regrown (NB.c10 HX.out) d os
  refine wp_region_quiet_below (by kernel_rfl) (by kernel_rfl) ?_
  repeat (go_big_quiet_step (exact cA _ _ _))
  refine wpQuiet_nil ?_
  intro _ hw'
  obtain ⟨⟨dq,osq⟩,hw''⟩:=hw'
  subst hw''
  have hbq:Hid (Below w.heap.size w (Go.Sort.grow (redrawn w0 dq) osq)):=Below.on HB.out (below_regrown w0 dq osq)
  generalize Go.Sort.grow (redrawn w0 dq) osq=w2 at hbq ⊢
  clear z3 z4 z5 z6 z7 z8 z9 z10 cA
  go_wp2
  go_ret
  exact ⟨ret_intM HE.out.symm,hbq.out⟩
set_option maxRecDepth 20000 in
set_option maxHeartbeats 8000000 in
theorem iNodeMode_any (a:Option Addr) (len cap:Nat) (l:List Nd) (now:Int) (n:Int) (hm:len≤9223372036854775807) (hf:∀ i,i < len→NdFit 1048576 (ndAt l i)) (w:World) (hi:Nds a len l w) :
    Calls Tryz.prog 53 #[.agg #[.slice a len cap,.int .i64 now],.int .i64 n] w fun e w' => e=.returned (.int .i64 (mdO l now n))∧Below w.heap.size w w':=by
  have HT:Hid (∀ w',Below w.heap.size w w'→Calls Tryz.prog 38 #[.agg #[.slice a len cap,.int .i64 now]] w' fun e w'' => e=.returned (.bool (treeB l now))∧Below w'.heap.size w' w''):=(fun w' hb => by rw [← tree_same]; exact iTree_any a len cap l now hm hf w' (hi.below hb))
  have hll:=hi.1
  cases ht:treeB l now
  · have HE : Hid (mdO l now n = 0) := (by show _ = _; simp [mdO, ht])
    rw [ht] at HT
    clear hi hf hll
    have HB:Hid (Below w.heap.size w (w.alloc (.cells #[.slice a len cap,.int .i64 now] 35))):=bel_alloc _ _
    have HX:Hid (BoxR (w.alloc (.cells #[.slice a len cap,.int .i64 now] 35)) w.heap.size [.slice a len cap,.int .i64 now]):=boxR_new _ _ _
    go_enter Tryz.func53,Tryz.ntmps53
    go_upto_region 1 with fail
    generalize (w.alloc (.cells #[.slice a len cap,.int .i64 now] 35))=w0 at HB HX ⊢
    obtain ⟨X,hX⟩:∃ X,X=w.heap.size:=⟨_,rfl⟩
    rw [← hX] at HX ⊢
    clear hX
    have t0:w0.cell? ⟨X,0,none⟩=some (.slice a len cap):=HX.out.at0 0 _ rfl
    have t1:w0.cell? ⟨X,1,none⟩=some (.int .i64 now):=HX.out.at0 1 _ rfl
    go_wp2_with (go_at_call 38; refine (HT.out _ HB.out).mono ?_; rintro e w1 ⟨rfl,hb⟩; replace HB:Hid (Below w.heap.size w w1):=Below.on HB.out hb; replace HX:Hid (BoxR w1 X [.slice a len cap,.int .i64 now]):=HX.out.below hb; clear hb; replace t0:w1.cell? ⟨X,0,none⟩=some (.slice a len cap):=HX.out.at0 0 _ rfl; replace t1:w1.cell? ⟨X,1,none⟩=some (.int .i64 now):=HX.out.at0 1 _ rfl)
    go_ret
    exact ⟨by rw [HE.out]; rfl,HB.out⟩
  have hlen:len≤12:=by rw [← hll]; exact tree_len ht
  have HC:Hid (∀ w',Below w.heap.size w w'→Calls Tryz.prog 90 #[.agg #[.slice a len cap,.int .i64 now],.int .i64 n] w' fun e w'' => e=.returned (.bool (thB l n))∧Below w'.heap.size w' w''):=(fun w' hb => iThere_any a len cap l now n (by omega) w' (hi.below hb))
  rw [ht] at HT
  cases hth:thB l n
  · have HE : Hid (mdO l now n = 0) := (by show _ = _; simp [mdO, ht, hth])
    rw [hth] at HC
    clear hi hf hll ht
    have HB:Hid (Below w.heap.size w (w.alloc (.cells #[.slice a len cap,.int .i64 now] 35))):=bel_alloc _ _
    have HX:Hid (BoxR (w.alloc (.cells #[.slice a len cap,.int .i64 now] 35)) w.heap.size [.slice a len cap,.int .i64 now]):=boxR_new _ _ _
    go_enter Tryz.func53,Tryz.ntmps53
    go_upto_region 1 with fail
    generalize (w.alloc (.cells #[.slice a len cap,.int .i64 now] 35))=w0 at HB HX ⊢
    obtain ⟨X,hX⟩:∃ X,X=w.heap.size:=⟨_,rfl⟩
    rw [← hX] at HX ⊢
    clear hX
    have t0:w0.cell? ⟨X,0,none⟩=some (.slice a len cap):=HX.out.at0 0 _ rfl
    have t1:w0.cell? ⟨X,1,none⟩=some (.int .i64 now):=HX.out.at0 1 _ rfl
    go_wp2_with (first
      | (go_at_call 38; refine (HT.out _ HB.out).mono ?_; rintro e w1 ⟨rfl,hb⟩; replace HB:Hid (Below w.heap.size w w1):=Below.on HB.out hb; replace HX:Hid (BoxR w1 X [.slice a len cap,.int .i64 now]):=HX.out.below hb; clear hb; replace t0:w1.cell? ⟨X,0,none⟩=some (.slice a len cap):=HX.out.at0 0 _ rfl; replace t1:w1.cell? ⟨X,1,none⟩=some (.int .i64 now):=HX.out.at0 1 _ rfl)
      | (go_at_call 90; refine (HC.out _ HB.out).mono ?_; rintro e w1 ⟨rfl,hb⟩; replace HB:Hid (Below w.heap.size w w1):=Below.on HB.out hb; replace HX:Hid (BoxR w1 X [.slice a len cap,.int .i64 now]):=HX.out.below hb; clear hb; replace t0:w1.cell? ⟨X,0,none⟩=some (.slice a len cap):=HX.out.at0 0 _ rfl; replace t1:w1.cell? ⟨X,1,none⟩=some (.int .i64 now):=HX.out.at0 1 _ rfl))
    go_ret
    exact ⟨by rw [HE.out]; rfl,HB.out⟩
  · have HE0 : Hid (mdO l now n = (ndAt l (n - 1).toNat).mode) := (by show _ = _; simp [mdO, ht, hth])
    rw [hth] at HC
    obtain ⟨h1,h2⟩:=inR_iff.1 (thB_num hth)
    obtain ⟨k,rfl⟩:∃ k:Nat,n=(k:Int) + 1:=⟨(n - 1).toNat,by omega⟩
    have hk:k < len:=by omega
    obtain ⟨b,off,Y,rfl,hb0,hc⟩:=hi.2 (by omega)
    have HN:Hid (N24 w b (off + k * 24) (ndAt l k) (Y k)):=(hc k hk).1
    have HM:Hid (NdIn w (ndAt l k) (Y k)):=(hc k hk).2
    have hk1:(k:Int) < (len:Int):=by omega
    have hk0:(0:Int)≤(k:Int):=by omega
    rw [at_succ] at HE0
    obtain ⟨⟨x0,x7⟩,f2,-,-⟩:=node_facts (node_is ht hth)
    clear hi hf hll ht hth hc h1 h2
    generalize ndAt l k=x at HN HM HE0 x0 x7 f2
    generalize Y k=y at HN HM
    obtain ⟨⟨u0,u1⟩,_,⟨o0,o1⟩,_⟩:=aclB_parts f2
    obtain ⟨k0,k1⟩:=clsOf_in f2
    have HMd:Hid (∀ w',Below w.heap.size w w'→Calls Tryz.prog 97 #[.agg #[.int .i64 x.A.u,.int .i64 x.A.g,.int .i64 x.A.o,.slice y.aU x.A.us.length y.cU,.slice y.aG x.A.gs.length y.cG,.bool x.A.r,.int .i64 x.A.m]] w' fun e w'' => e=.returned (.int .i64 (64 * x.A.u + 8 * clsOf x.A.g x.A.r x.A.m + x.A.o))∧Below w'.heap.size w' w''):=(fun w' hb => by
      have h:=iModeOf_any x.A.u x.A.g x.A.o y.aU x.A.us.length y.cU y.aG x.A.gs.length y.cG x.A.r x.A.m x.A.us x.A.gs w' (HM.out.aU.below hb) (HM.out.aG.below hb)
      simpa only [modeOfB,f2,if_true] using h)
    have HE:Hid (mdO l now ((k:Int) + 1)=512 * x.ex + (64 * x.A.u + 8 * clsOf x.A.g x.A.r x.A.m + x.A.o)):=HE0.out
    obtain ⟨m,hm⟩:∃ m,m=64 * x.A.u + 8 * clsOf x.A.g x.A.r x.A.m + x.A.o:=⟨_,rfl⟩
    rw [← hm] at HMd HE
    have m0:0≤m:=by omega
    have m1:m≤511:=by omega
    clear hm f2 HE0 u0 u1 o0 o1 k0 k1 HM
    have HB:Hid (Below w.heap.size w (w.alloc (.cells #[.slice (some ⟨b,off,none⟩) len cap,.int .i64 now] 35))):=bel_alloc _ _
    have HX:Hid (BoxR (w.alloc (.cells #[.slice (some ⟨b,off,none⟩) len cap,.int .i64 now] 35)) w.heap.size [.slice (some ⟨b,off,none⟩) len cap,.int .i64 now]):=boxR_new _ _ _
    go_enter Tryz.func53,Tryz.ntmps53
    go_upto_region 1 with fail
    generalize (w.alloc (.cells #[.slice (some ⟨b,off,none⟩) len cap,.int .i64 now] 35))=w0 at HB HX ⊢
    obtain ⟨X,hX⟩:∃ X,X=w.heap.size:=⟨_,rfl⟩
    rw [← hX] at HX ⊢
    clear hX
    have t0:w0.cell? ⟨X,0,none⟩=some (.slice (some ⟨b,off,none⟩) len cap):=HX.out.at0 0 _ rfl
    have t1:w0.cell? ⟨X,1,none⟩=some (.int .i64 now):=HX.out.at0 1 _ rfl
    go_upto_region 3 with (first
      | (go_at_call 38; refine (HT.out _ HB.out).mono ?_; rintro e w1 ⟨rfl,hb⟩; replace HB:Hid (Below w.heap.size w w1):=Below.on HB.out hb; replace HX:Hid (BoxR w1 X [.slice (some ⟨b,off,none⟩) len cap,.int .i64 now]):=HX.out.below hb; clear hb; replace t0:w1.cell? ⟨X,0,none⟩=some (.slice (some ⟨b,off,none⟩) len cap):=HX.out.at0 0 _ rfl; replace t1:w1.cell? ⟨X,1,none⟩=some (.int .i64 now):=HX.out.at0 1 _ rfl)
      | (go_at_call 90; refine (HC.out _ HB.out).mono ?_; rintro e w1 ⟨rfl,hb⟩; replace HB:Hid (Below w.heap.size w w1):=Below.on HB.out hb; replace HX:Hid (BoxR w1 X [.slice (some ⟨b,off,none⟩) len cap,.int .i64 now]):=HX.out.below hb; clear hb; replace t0:w1.cell? ⟨X,0,none⟩=some (.slice (some ⟨b,off,none⟩) len cap):=HX.out.at0 0 _ rfl; replace t1:w1.cell? ⟨X,1,none⟩=some (.int .i64 now):=HX.out.at0 1 _ rfl))
    have HNk:Hid (N24 w1 b (off + k * 24) x y):=range_below HN.out hb0 HB.out
    have hbR:Below w1.heap.size w1 ((w1.alloc (.cells #[.int .i64 0,.int .i64 0,.int .i64 0,.int .i64 0,.int .i64 0,.int .i64 0,.int .i64 0,.slice none 0 0,.slice none 0 0,.bool false,.int .i64 0,.bool false,.int .i64 0,.int .i64 0,.int .i64 0,.slice none 0 0,.slice none 0 0,.bool false,.int .i64 0,.int .i64 0,.int .i64 0,.string ⟨#[]⟩,.slice none 0 0,.int .i64 0] 84)).setCells w1.heap.size 0 (ndV x y)):=bl_setsT (Nat.le_refl _) _ _ (bel_alloc _ _)
    have HBr:Hid (Below w.heap.size w ((w1.alloc (.cells #[.int .i64 0,.int .i64 0,.int .i64 0,.int .i64 0,.int .i64 0,.int .i64 0,.int .i64 0,.slice none 0 0,.slice none 0 0,.bool false,.int .i64 0,.bool false,.int .i64 0,.int .i64 0,.int .i64 0,.slice none 0 0,.slice none 0 0,.bool false,.int .i64 0,.int .i64 0,.int .i64 0,.string ⟨#[]⟩,.slice none 0 0,.int .i64 0] 84)).setCells w1.heap.size 0 (ndV x y))):=Below.on HB.out hbR
    have HZr:Hid (BoxR ((w1.alloc (.cells #[.int .i64 0,.int .i64 0,.int .i64 0,.int .i64 0,.int .i64 0,.int .i64 0,.int .i64 0,.slice none 0 0,.slice none 0 0,.bool false,.int .i64 0,.bool false,.int .i64 0,.int .i64 0,.int .i64 0,.slice none 0 0,.slice none 0 0,.bool false,.int .i64 0,.int .i64 0,.int .i64 0,.string ⟨#[]⟩,.slice none 0 0,.int .i64 0] 84)).setCells w1.heap.size 0 (ndV x y)) w1.heap.size (ndV x y)):=⟨by rw [size_setCellsT]; simp,World.rangeAt_setCells_same _ _ _ _ ((boxW_new w1 [.int .i64 0,.int .i64 0,.int .i64 0,.int .i64 0,.int .i64 0,.int .i64 0,.int .i64 0,.slice none 0 0,.slice none 0 0,.bool false,.int .i64 0,.bool false,.int .i64 0,.int .i64 0,.int .i64 0,.slice none 0 0,.slice none 0 0,.bool false,.int .i64 0,.int .i64 0,.int .i64 0,.string ⟨#[]⟩,.slice none 0 0,.int .i64 0] 84).there 0 24 (by simp))⟩
    clear hbR HB HX HN
    go_upto_region 4 with (first | (refine wpList_load_mid (by rfl) 84 _ (by rfl) _ _ (by rfl) _ _ HNk.out Tryz.underlying84 rfl (by kernel_rfl) ?_) | (refine wpList_store_list (by rfl) 84 _ _ (by rfl) _ _ (ndV x y) (by rfl) (by rfl) ((boxW_new w1 [.int .i64 0,.int .i64 0,.int .i64 0,.int .i64 0,.int .i64 0,.int .i64 0,.int .i64 0,.slice none 0 0,.slice none 0 0,.bool false,.int .i64 0,.bool false,.int .i64 0,.int .i64 0,.int .i64 0,.slice none 0 0,.slice none 0 0,.bool false,.int .i64 0,.int .i64 0,.int .i64 0,.string ⟨#[]⟩,.slice none 0 0,.int .i64 0] 84).there 0 24 (by simp)) (by kernel_rfl) (ndV_ones _ _) ?_))
    simp only [Act.put]
    generalize ((w1.alloc (.cells #[.int .i64 0,.int .i64 0,.int .i64 0,.int .i64 0,.int .i64 0,.int .i64 0,.int .i64 0,.slice none 0 0,.slice none 0 0,.bool false,.int .i64 0,.bool false,.int .i64 0,.int .i64 0,.int .i64 0,.slice none 0 0,.slice none 0 0,.bool false,.int .i64 0,.int .i64 0,.int .i64 0,.string ⟨#[]⟩,.slice none 0 0,.int .i64 0] 84)).setCells w1.heap.size 0 (ndV x y))=wn at HBr HZr ⊢
    generalize w1.heap.size=Z at HZr ⊢
    have cA:∀ d os,Calls Tryz.prog 97 #[.agg #[.int .i64 x.A.u,.int .i64 x.A.g,.int .i64 x.A.o,.slice y.aU x.A.us.length y.cU,.slice y.aG x.A.gs.length y.cG,.bool x.A.r,.int .i64 x.A.m]] (Go.Sort.grow (redrawn wn d) os) fun e w'' => e=.returned (.int .i64 m)∧∃ p:Regrown,w''=Go.Sort.grow (redrawn wn p.d) p.os:=fun d os => Calls.regrown_of (HMd.out _ (Below.on HBr.out (below_regrown wn d os)))
    have z3:∀ d os,(Go.Sort.grow (redrawn wn d) os).cell? ⟨Z,3,none⟩=some (.int .i64 x.ex):=fun d os => cell_regrown (NB.c3 HZr.out) d os
    have z4:∀ d os,(Go.Sort.grow (redrawn wn d) os).cell? ⟨Z,4,none⟩=some (.int .i64 x.A.u):=fun d os => cell_regrown (NB.c4 HZr.out) d os
    have z5:∀ d os,(Go.Sort.grow (redrawn wn d) os).cell? ⟨Z,5,none⟩=some (.int .i64 x.A.g):=fun d os => cell_regrown (NB.c5 HZr.out) d os
    have z6:∀ d os,(Go.Sort.grow (redrawn wn d) os).cell? ⟨Z,6,none⟩=some (.int .i64 x.A.o):=fun d os => cell_regrown (NB.c6 HZr.out) d os
    have z7:∀ d os,(Go.Sort.grow (redrawn wn d) os).cell? ⟨Z,7,none⟩=some (.slice y.aU x.A.us.length y.cU):=fun d os => cell_regrown (NB.c7 HZr.out) d os
    have z8:∀ d os,(Go.Sort.grow (redrawn wn d) os).cell? ⟨Z,8,none⟩=some (.slice y.aG x.A.gs.length y.cG):=fun d os => cell_regrown (NB.c8 HZr.out) d os
    have z9:∀ d os,(Go.Sort.grow (redrawn wn d) os).cell? ⟨Z,9,none⟩=some (.bool x.A.r):=fun d os => cell_regrown (NB.c9 HZr.out) d os
    have z10:∀ d os,(Go.Sort.grow (redrawn wn d) os).cell? ⟨Z,10,none⟩=some (.int .i64 x.A.m):=fun d os => cell_regrown (NB.c10 HZr.out) d os
    refine wp_region_quiet_below (by kernel_rfl) (by kernel_rfl) ?_
    repeat (go_big_quiet_step (exact cA _ _))
    refine wpQuiet_nil ?_
    intro _ hw'
    obtain ⟨⟨dq,osq⟩,hw''⟩:=hw'
    subst hw''
    have hbq:Hid (Below w.heap.size w (Go.Sort.grow (redrawn wn dq) osq)):=Below.on HBr.out (below_regrown wn dq osq)
    generalize Go.Sort.grow (redrawn wn dq) osq=w3 at hbq ⊢
    clear z3 z4 z5 z6 z7 z8 z9 z10 cA
    go_wp2
    go_ret
    exact ⟨ret_intM (by rw [HE.out]; exact or2i _ _ x0 x7 m0 m1),hbq.out⟩
end Go.Proofs.YtabfdidnjibdeaaGreatDoor
