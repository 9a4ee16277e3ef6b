/- Laid together: TrI8. -/
import Derived.Test.YtabfdidnjibdeaaGreatDoorBR8
namespace Go.Proofs.YtabfdidnjibdeaaGreatDoor
open Go.RowKit Go.PlainAid Go.Deep
set_option linter.unusedVariables false
theorem wpList_built2w {P:Program}{ops:Array Oper}{rest:List Oper}{o:Oper}{a:Act}{w:World}{Q:Exit→Act→World→Prop}(hw:Region.wanted o (yielded ops a.tmps)=true)(t:TypeId)(x y:Operand)(ho:o.op=.build t #[(0,x),(1,y)])
    (u v:Value) (hx:a.eval x=u) (hy:a.eval y=v) (cs:Array Value) (hb:P.built t [(0,u),(1,v)]=some cs)
    (h:wpList P ops Q rest (a.put o.dst (.agg cs)) w):wpList P ops Q (o :: rest) a w:=by
  have e:(#[(0,x),(1,y)].map fun (i,z)=>(i,a.eval z)).toList=[(0,u),(1,v)]:=by simp [hx,hy]
  exact Go.BigFrame.wpList_want hw fun K hK=>wp_build t _ ho (by rw [e,hb];rfl) (by rw [e,hb];exact hK _ _ h)
def Nd.nI (x:Nd) (al dI:Bool):Bool:=if x.k==0 then x.z0&&x.ti==0 else if x.k==1 then al&&dI else if x.k==2 then al&&(x.bare&&x.bo.toList.isEmpty) else if x.k==3 then al&&(x.bare&&signsB x.bo 40) else false
set_option maxRecDepth 20000 in
set_option maxHeartbeats 16000000 in
theorem iNode_any (a:Option Addr)(len cap:Nat)(l:List Nd)(now:Int)(x:Nd)(y:Na)(n:Int)(al dI:Bool)(hf:NdFit 1048576 x)(w:World)
    (hAl:∀ w',Below w.heap.size w w'→Calls Tryz.prog 117 #[.agg #[.slice a len cap,.int .i64 now],.agg (ndV x y).toArray,.int .i64 n] w' fun e w''=>e=.returned (.bool al)∧Below w'.heap.size w' w'')
    (hDr:∀ w',Below w.heap.size w w'→Calls Tryz.prog 118 #[.agg #[.slice a len cap,.int .i64 now],.agg (drV x y n).toArray] w' fun e w''=>e=.returned (.bool dI)∧Below w'.heap.size w' w'') :
    Calls Tryz.prog 70 #[.agg #[.slice a len cap,.int .i64 now],.agg (ndV x y).toArray,.int .i64 n] w fun e w'=>e=.returned (.bool (x.nI al dI))∧Below w.heap.size w w':=by
  have HAl:Hid (∀ w',Below w.heap.size w w'→Calls Tryz.prog 117 #[.agg #[.slice a len cap,.int .i64 now],.agg (ndV x y).toArray,.int .i64 n] w' fun e w''=>e=.returned (.bool al)∧Below w'.heap.size w' w''):=hAl
  have HDr:Hid (∀ w',Below w.heap.size w w'→Calls Tryz.prog 118 #[.agg #[.slice a len cap,.int .i64 now],.agg (drV x y n).toArray] w' fun e w''=>e=.returned (.bool dI)∧Below w'.heap.size w' w''):=hDr
  have H0:Hid (∀ w',Calls Tryz.prog 116 #[.agg (ndV x y).toArray,.agg (ndV ndZ naZ).toArray] w' fun e w''=>e=.returned (.bool x.z0)∧Below w'.heap.size w' w''):=(fun w'=>iSameN0_any x y hf w')
  have HNo:Hid (∀ w',Calls Tryz.prog 119 #[.agg (ndV x y).toArray] w' fun e w''=>e=.returned (.bool x.bare)∧Below w'.heap.size w' w''):=(fun w'=>iNoDir_any x y hf w')
  have HLb:Hid (∀ w',Calls Tryz.prog 120 #[.string x.bo] w' fun e w''=>e=.returned (.bool (signsB x.bo 40))∧w''=w'):=(fun w'=>iLink_any x.bo (by have:=hf.bo;unfold maxLen;omega) w')
  have HE:Hid (x.nI al dI=(if x.k==0 then x.z0&&x.ti==0 else if x.k==1 then al&&dI else if x.k==2 then al&&(x.bare&&x.bo.toList.isEmpty) else if x.k==3 then al&&(x.bare&&signsB x.bo 40) else false)):=rfl
  clear hAl hDr hf
  generalize x.z0=z at HE H0
  generalize x.bare=bz at HE HNo
  generalize signsB x.bo 40=sg at HE HLb
  cases k0:(x.k==0)
  case true =>
    rw [k0,if_pos rfl] at HE
    cases z
    · skip
      have HX:Hid (BoxR ((w.alloc (.cells #[.slice a len cap,.int .i64 now] 35)).alloc (.cells (ndV x y).toArray 84)) w.heap.size [.slice a len cap,.int .i64 now]):=(boxR_new w [.slice a len cap,.int .i64 now] 35).below (bel_alloc _ _)
      have HZ:Hid (BoxR ((w.alloc (.cells #[.slice a len cap,.int .i64 now] 35)).alloc (.cells (ndV x y).toArray 84)) (w.heap.size+1) (ndV x y)):=(by
        have h:=boxR_new (w.alloc (.cells #[.slice a len cap,.int .i64 now] 35)) (ndV x y) 84
        simp only [World.size_alloc] at h
        exact h)
      have HB:Hid (Below w.heap.size w ((w.alloc (.cells #[.slice a len cap,.int .i64 now] 35)).alloc (.cells (ndV x y).toArray 84))):=bl2T _ _ _
      go_enter Tryz.func70,Tryz.ntmps70
      go_upto_region 1 with fail
      generalize ((w.alloc (.cells #[.slice a len cap,.int .i64 now] 35)).alloc (.cells (ndV x y).toArray 84))=w0 at HX HZ HB ⊢
      obtain ⟨X,hX⟩:∃ X,X=w.heap.size:=⟨_,rfl⟩
      rw [←hX] at HX HZ ⊢
      clear hX
      have t0:w0.cell? ⟨X,0,none⟩=some (.slice a len cap):=HX.out.at0 0 _ rfl
      have t1:w0.cell? ⟨X,1,none⟩=some (.int .i64 now):=HX.out.at0 1 _ rfl
      have e0:=NB.c0 HZ.out
      have e21:=NB.c21 HZ.out
      have e23:=NB.c23 HZ.out
      go_wp2_with (first
        | (refine wpList_load_mid (by rfl) 84 _ (by rfl) _ _ (by rfl) _ _ HZ.out.at0 Tryz.underlying84 rfl (by kernel_rfl) ?_)
        | (refine wpList_built (by rfl) 84 _ (by rfl) [] (by rfl) _ built_node0 ?_)
        | (go_at_call 116;refine (H0.out _).mono ?_;rintro e w1 ⟨rfl,hb⟩;replace HB:Hid (Below w.heap.size w w1):=Below.on HB.out hb;replace HX:Hid (BoxR w1 X [.slice a len cap,.int .i64 now]):=HX.out.below hb;replace HZ:Hid (BoxR w1 (X+1) (ndV x y)):=HZ.out.below hb;clear hb;replace t0:w1.cell? ⟨X,0,none⟩=some (.slice a len cap):=HX.out.at0 0 _ rfl;replace t1:w1.cell? ⟨X,1,none⟩=some (.int .i64 now):=HX.out.at0 1 _ rfl;replace e0:=NB.c0 HZ.out;replace e21:=NB.c21 HZ.out;replace e23:=NB.c23 HZ.out))
      go_ret
      exact ⟨ret_boolW (by rw [HE.out];first | done | simp),HB.out⟩
    · cases ct : (x.ti == 0)
      · rw [ct] at HE
        have HX:Hid (BoxR ((w.alloc (.cells #[.slice a len cap,.int .i64 now] 35)).alloc (.cells (ndV x y).toArray 84)) w.heap.size [.slice a len cap,.int .i64 now]):=(boxR_new w [.slice a len cap,.int .i64 now] 35).below (bel_alloc _ _)
        have HZ:Hid (BoxR ((w.alloc (.cells #[.slice a len cap,.int .i64 now] 35)).alloc (.cells (ndV x y).toArray 84)) (w.heap.size+1) (ndV x y)):=(by
          have h:=boxR_new (w.alloc (.cells #[.slice a len cap,.int .i64 now] 35)) (ndV x y) 84
          simp only [World.size_alloc] at h
          exact h)
        have HB:Hid (Below w.heap.size w ((w.alloc (.cells #[.slice a len cap,.int .i64 now] 35)).alloc (.cells (ndV x y).toArray 84))):=bl2T _ _ _
        go_enter Tryz.func70,Tryz.ntmps70
        go_upto_region 1 with fail
        generalize ((w.alloc (.cells #[.slice a len cap,.int .i64 now] 35)).alloc (.cells (ndV x y).toArray 84))=w0 at HX HZ HB ⊢
        obtain ⟨X,hX⟩:∃ X,X=w.heap.size:=⟨_,rfl⟩
        rw [←hX] at HX HZ ⊢
        clear hX
        have t0:w0.cell? ⟨X,0,none⟩=some (.slice a len cap):=HX.out.at0 0 _ rfl
        have t1:w0.cell? ⟨X,1,none⟩=some (.int .i64 now):=HX.out.at0 1 _ rfl
        have e0:=NB.c0 HZ.out
        have e21:=NB.c21 HZ.out
        have e23:=NB.c23 HZ.out
        go_wp2_with (first
          | (refine wpList_load_mid (by rfl) 84 _ (by rfl) _ _ (by rfl) _ _ HZ.out.at0 Tryz.underlying84 rfl (by kernel_rfl) ?_)
          | (refine wpList_built (by rfl) 84 _ (by rfl) [] (by rfl) _ built_node0 ?_)
          | (go_at_call 116;refine (H0.out _).mono ?_;rintro e w1 ⟨rfl,hb⟩;replace HB:Hid (Below w.heap.size w w1):=Below.on HB.out hb;replace HX:Hid (BoxR w1 X [.slice a len cap,.int .i64 now]):=HX.out.below hb;replace HZ:Hid (BoxR w1 (X+1) (ndV x y)):=HZ.out.below hb;clear hb;replace t0:w1.cell? ⟨X,0,none⟩=some (.slice a len cap):=HX.out.at0 0 _ rfl;replace t1:w1.cell? ⟨X,1,none⟩=some (.int .i64 now):=HX.out.at0 1 _ rfl;replace e0:=NB.c0 HZ.out;replace e21:=NB.c21 HZ.out;replace e23:=NB.c23 HZ.out))
        go_ret
        exact ⟨ret_boolW (by rw [HE.out];first | done | simp),HB.out⟩
      · rw [ct] at HE
        have HX:Hid (BoxR ((w.alloc (.cells #[.slice a len cap,.int .i64 now] 35)).alloc (.cells (ndV x y).toArray 84)) w.heap.size [.slice a len cap,.int .i64 now]):=(boxR_new w [.slice a len cap,.int .i64 now] 35).below (bel_alloc _ _)
        have HZ:Hid (BoxR ((w.alloc (.cells #[.slice a len cap,.int .i64 now] 35)).alloc (.cells (ndV x y).toArray 84)) (w.heap.size+1) (ndV x y)):=(by
          have h:=boxR_new (w.alloc (.cells #[.slice a len cap,.int .i64 now] 35)) (ndV x y) 84
          simp only [World.size_alloc] at h
          exact h)
        have HB:Hid (Below w.heap.size w ((w.alloc (.cells #[.slice a len cap,.int .i64 now] 35)).alloc (.cells (ndV x y).toArray 84))):=bl2T _ _ _
        go_enter Tryz.func70,Tryz.ntmps70
        go_upto_region 1 with fail
        generalize ((w.alloc (.cells #[.slice a len cap,.int .i64 now] 35)).alloc (.cells (ndV x y).toArray 84))=w0 at HX HZ HB ⊢
        obtain ⟨X,hX⟩:∃ X,X=w.heap.size:=⟨_,rfl⟩
        rw [←hX] at HX HZ ⊢
        clear hX
        have t0:w0.cell? ⟨X,0,none⟩=some (.slice a len cap):=HX.out.at0 0 _ rfl
        have t1:w0.cell? ⟨X,1,none⟩=some (.int .i64 now):=HX.out.at0 1 _ rfl
        have e0:=NB.c0 HZ.out
        have e21:=NB.c21 HZ.out
        have e23:=NB.c23 HZ.out
        go_wp2_with (first
          | (refine wpList_load_mid (by rfl) 84 _ (by rfl) _ _ (by rfl) _ _ HZ.out.at0 Tryz.underlying84 rfl (by kernel_rfl) ?_)
          | (refine wpList_built (by rfl) 84 _ (by rfl) [] (by rfl) _ built_node0 ?_)
          | (go_at_call 116;refine (H0.out _).mono ?_;rintro e w1 ⟨rfl,hb⟩;replace HB:Hid (Below w.heap.size w w1):=Below.on HB.out hb;replace HX:Hid (BoxR w1 X [.slice a len cap,.int .i64 now]):=HX.out.below hb;replace HZ:Hid (BoxR w1 (X+1) (ndV x y)):=HZ.out.below hb;clear hb;replace t0:w1.cell? ⟨X,0,none⟩=some (.slice a len cap):=HX.out.at0 0 _ rfl;replace t1:w1.cell? ⟨X,1,none⟩=some (.int .i64 now):=HX.out.at0 1 _ rfl;replace e0:=NB.c0 HZ.out;replace e21:=NB.c21 HZ.out;replace e23:=NB.c23 HZ.out))
        go_ret
        exact ⟨ret_boolW (by rw [HE.out];first | done | simp),HB.out⟩
  rw [k0,if_neg (by decide)] at HE
  cases k1:(x.k==1)
  case true =>
    rw [k1,if_pos rfl] at HE
    cases al
    · skip
      have HX:Hid (BoxR ((w.alloc (.cells #[.slice a len cap,.int .i64 now] 35)).alloc (.cells (ndV x y).toArray 84)) w.heap.size [.slice a len cap,.int .i64 now]):=(boxR_new w [.slice a len cap,.int .i64 now] 35).below (bel_alloc _ _)
      have HZ:Hid (BoxR ((w.alloc (.cells #[.slice a len cap,.int .i64 now] 35)).alloc (.cells (ndV x y).toArray 84)) (w.heap.size+1) (ndV x y)):=(by
        have h:=boxR_new (w.alloc (.cells #[.slice a len cap,.int .i64 now] 35)) (ndV x y) 84
        simp only [World.size_alloc] at h
        exact h)
      have HB:Hid (Below w.heap.size w ((w.alloc (.cells #[.slice a len cap,.int .i64 now] 35)).alloc (.cells (ndV x y).toArray 84))):=bl2T _ _ _
      go_enter Tryz.func70,Tryz.ntmps70
      go_upto_region 1 with fail
      generalize ((w.alloc (.cells #[.slice a len cap,.int .i64 now] 35)).alloc (.cells (ndV x y).toArray 84))=w0 at HX HZ HB ⊢
      obtain ⟨X,hX⟩:∃ X,X=w.heap.size:=⟨_,rfl⟩
      rw [←hX] at HX HZ ⊢
      clear hX
      have t0:w0.cell? ⟨X,0,none⟩=some (.slice a len cap):=HX.out.at0 0 _ rfl
      have t1:w0.cell? ⟨X,1,none⟩=some (.int .i64 now):=HX.out.at0 1 _ rfl
      have e0:=NB.c0 HZ.out
      have e21:=NB.c21 HZ.out
      have e23:=NB.c23 HZ.out
      go_wp2_with (first
        | (refine wpList_load_mid (by rfl) 84 _ (by rfl) _ _ (by rfl) _ _ HZ.out.at0 Tryz.underlying84 rfl (by kernel_rfl) ?_)
        | (refine wpList_load_want (by rfl) 84 _ (by rfl) _ _ (by rfl) _ _ HZ.out.at0 Tryz.underlying84 rfl (by kernel_rfl) ?_)
        | (refine wpList_built2w (by rfl) 162 _ _ (by rfl) _ _ (by rfl) (by rfl) _ (built_dir x y _) ?_)
        | (go_at_call 117;refine (HAl.out _ HB.out).mono ?_;rintro e w1 ⟨rfl,hb⟩;replace HB:Hid (Below w.heap.size w w1):=Below.on HB.out hb;replace HX:Hid (BoxR w1 X [.slice a len cap,.int .i64 now]):=HX.out.below hb;replace HZ:Hid (BoxR w1 (X+1) (ndV x y)):=HZ.out.below hb;clear hb;replace t0:w1.cell? ⟨X,0,none⟩=some (.slice a len cap):=HX.out.at0 0 _ rfl;replace t1:w1.cell? ⟨X,1,none⟩=some (.int .i64 now):=HX.out.at0 1 _ rfl;replace e0:=NB.c0 HZ.out;replace e21:=NB.c21 HZ.out;replace e23:=NB.c23 HZ.out)
        | (go_at_call 118;refine (HDr.out _ HB.out).mono ?_;rintro e w1 ⟨rfl,hb⟩;replace HB:Hid (Below w.heap.size w w1):=Below.on HB.out hb;replace HX:Hid (BoxR w1 X [.slice a len cap,.int .i64 now]):=HX.out.below hb;replace HZ:Hid (BoxR w1 (X+1) (ndV x y)):=HZ.out.below hb;clear hb;replace t0:w1.cell? ⟨X,0,none⟩=some (.slice a len cap):=HX.out.at0 0 _ rfl;replace t1:w1.cell? ⟨X,1,none⟩=some (.int .i64 now):=HX.out.at0 1 _ rfl;replace e0:=NB.c0 HZ.out;replace e21:=NB.c21 HZ.out;replace e23:=NB.c23 HZ.out))
      go_ret
      exact ⟨ret_boolW (by rw [HE.out];first | done | simp),HB.out⟩
    · cases dI
      · skip
        have HX:Hid (BoxR ((w.alloc (.cells #[.slice a len cap,.int .i64 now] 35)).alloc (.cells (ndV x y).toArray 84)) w.heap.size [.slice a len cap,.int .i64 now]):=(boxR_new w [.slice a len cap,.int .i64 now] 35).below (bel_alloc _ _)
        have HZ:Hid (BoxR ((w.alloc (.cells #[.slice a len cap,.int .i64 now] 35)).alloc (.cells (ndV x y).toArray 84)) (w.heap.size+1) (ndV x y)):=(by
          have h:=boxR_new (w.alloc (.cells #[.slice a len cap,.int .i64 now] 35)) (ndV x y) 84
          simp only [World.size_alloc] at h
          exact h)
        have HB:Hid (Below w.heap.size w ((w.alloc (.cells #[.slice a len cap,.int .i64 now] 35)).alloc (.cells (ndV x y).toArray 84))):=bl2T _ _ _
        go_enter Tryz.func70,Tryz.ntmps70
        go_upto_region 1 with fail
        generalize ((w.alloc (.cells #[.slice a len cap,.int .i64 now] 35)).alloc (.cells (ndV x y).toArray 84))=w0 at HX HZ HB ⊢
        obtain ⟨X,hX⟩:∃ X,X=w.heap.size:=⟨_,rfl⟩
        rw [←hX] at HX HZ ⊢
        clear hX
        have t0:w0.cell? ⟨X,0,none⟩=some (.slice a len cap):=HX.out.at0 0 _ rfl
        have t1:w0.cell? ⟨X,1,none⟩=some (.int .i64 now):=HX.out.at0 1 _ rfl
        have e0:=NB.c0 HZ.out
        have e21:=NB.c21 HZ.out
        have e23:=NB.c23 HZ.out
        go_wp2_with (first
          | (refine wpList_load_mid (by rfl) 84 _ (by rfl) _ _ (by rfl) _ _ HZ.out.at0 Tryz.underlying84 rfl (by kernel_rfl) ?_)
          | (refine wpList_load_want (by rfl) 84 _ (by rfl) _ _ (by rfl) _ _ HZ.out.at0 Tryz.underlying84 rfl (by kernel_rfl) ?_)
          | (refine wpList_built2w (by rfl) 162 _ _ (by rfl) _ _ (by rfl) (by rfl) _ (built_dir x y _) ?_)
          | (go_at_call 117;refine (HAl.out _ HB.out).mono ?_;rintro e w1 ⟨rfl,hb⟩;replace HB:Hid (Below w.heap.size w w1):=Below.on HB.out hb;replace HX:Hid (BoxR w1 X [.slice a len cap,.int .i64 now]):=HX.out.below hb;replace HZ:Hid (BoxR w1 (X+1) (ndV x y)):=HZ.out.below hb;clear hb;replace t0:w1.cell? ⟨X,0,none⟩=some (.slice a len cap):=HX.out.at0 0 _ rfl;replace t1:w1.cell? ⟨X,1,none⟩=some (.int .i64 now):=HX.out.at0 1 _ rfl;replace e0:=NB.c0 HZ.out;replace e21:=NB.c21 HZ.out;replace e23:=NB.c23 HZ.out)
          | (go_at_call 118;refine (HDr.out _ HB.out).mono ?_;rintro e w1 ⟨rfl,hb⟩;replace HB:Hid (Below w.heap.size w w1):=Below.on HB.out hb;replace HX:Hid (BoxR w1 X [.slice a len cap,.int .i64 now]):=HX.out.below hb;replace HZ:Hid (BoxR w1 (X+1) (ndV x y)):=HZ.out.below hb;clear hb;replace t0:w1.cell? ⟨X,0,none⟩=some (.slice a len cap):=HX.out.at0 0 _ rfl;replace t1:w1.cell? ⟨X,1,none⟩=some (.int .i64 now):=HX.out.at0 1 _ rfl;replace e0:=NB.c0 HZ.out;replace e21:=NB.c21 HZ.out;replace e23:=NB.c23 HZ.out))
        go_ret
        exact ⟨ret_boolW (by rw [HE.out];first | done | simp),HB.out⟩
      · skip
        have HX:Hid (BoxR ((w.alloc (.cells #[.slice a len cap,.int .i64 now] 35)).alloc (.cells (ndV x y).toArray 84)) w.heap.size [.slice a len cap,.int .i64 now]):=(boxR_new w [.slice a len cap,.int .i64 now] 35).below (bel_alloc _ _)
        have HZ:Hid (BoxR ((w.alloc (.cells #[.slice a len cap,.int .i64 now] 35)).alloc (.cells (ndV x y).toArray 84)) (w.heap.size+1) (ndV x y)):=(by
          have h:=boxR_new (w.alloc (.cells #[.slice a len cap,.int .i64 now] 35)) (ndV x y) 84
          simp only [World.size_alloc] at h
          exact h)
        have HB:Hid (Below w.heap.size w ((w.alloc (.cells #[.slice a len cap,.int .i64 now] 35)).alloc (.cells (ndV x y).toArray 84))):=bl2T _ _ _
        go_enter Tryz.func70,Tryz.ntmps70
        go_upto_region 1 with fail
        generalize ((w.alloc (.cells #[.slice a len cap,.int .i64 now] 35)).alloc (.cells (ndV x y).toArray 84))=w0 at HX HZ HB ⊢
        obtain ⟨X,hX⟩:∃ X,X=w.heap.size:=⟨_,rfl⟩
        rw [←hX] at HX HZ ⊢
        clear hX
        have t0:w0.cell? ⟨X,0,none⟩=some (.slice a len cap):=HX.out.at0 0 _ rfl
        have t1:w0.cell? ⟨X,1,none⟩=some (.int .i64 now):=HX.out.at0 1 _ rfl
        have e0:=NB.c0 HZ.out
        have e21:=NB.c21 HZ.out
        have e23:=NB.c23 HZ.out
        go_wp2_with (first
          | (refine wpList_load_mid (by rfl) 84 _ (by rfl) _ _ (by rfl) _ _ HZ.out.at0 Tryz.underlying84 rfl (by kernel_rfl) ?_)
          | (refine wpList_load_want (by rfl) 84 _ (by rfl) _ _ (by rfl) _ _ HZ.out.at0 Tryz.underlying84 rfl (by kernel_rfl) ?_)
          | (refine wpList_built2w (by rfl) 162 _ _ (by rfl) _ _ (by rfl) (by rfl) _ (built_dir x y _) ?_)
          | (go_at_call 117;refine (HAl.out _ HB.out).mono ?_;rintro e w1 ⟨rfl,hb⟩;replace HB:Hid (Below w.heap.size w w1):=Below.on HB.out hb;replace HX:Hid (BoxR w1 X [.slice a len cap,.int .i64 now]):=HX.out.below hb;replace HZ:Hid (BoxR w1 (X+1) (ndV x y)):=HZ.out.below hb;clear hb;replace t0:w1.cell? ⟨X,0,none⟩=some (.slice a len cap):=HX.out.at0 0 _ rfl;replace t1:w1.cell? ⟨X,1,none⟩=some (.int .i64 now):=HX.out.at0 1 _ rfl;replace e0:=NB.c0 HZ.out;replace e21:=NB.c21 HZ.out;replace e23:=NB.c23 HZ.out)
          | (go_at_call 118;refine (HDr.out _ HB.out).mono ?_;rintro e w1 ⟨rfl,hb⟩;replace HB:Hid (Below w.heap.size w w1):=Below.on HB.out hb;replace HX:Hid (BoxR w1 X [.slice a len cap,.int .i64 now]):=HX.out.below hb;replace HZ:Hid (BoxR w1 (X+1) (ndV x y)):=HZ.out.below hb;clear hb;replace t0:w1.cell? ⟨X,0,none⟩=some (.slice a len cap):=HX.out.at0 0 _ rfl;replace t1:w1.cell? ⟨X,1,none⟩=some (.int .i64 now):=HX.out.at0 1 _ rfl;replace e0:=NB.c0 HZ.out;replace e21:=NB.c21 HZ.out;replace e23:=NB.c23 HZ.out))
        go_ret
        exact ⟨ret_boolW (by rw [HE.out];first | done | simp),HB.out⟩
  rw [k1,if_neg (by decide)] at HE
  cases k2:(x.k==2)
  case true =>
    rw [k2,if_pos rfl] at HE
    cases al
    · skip
      have HX:Hid (BoxR ((w.alloc (.cells #[.slice a len cap,.int .i64 now] 35)).alloc (.cells (ndV x y).toArray 84)) w.heap.size [.slice a len cap,.int .i64 now]):=(boxR_new w [.slice a len cap,.int .i64 now] 35).below (bel_alloc _ _)
      have HZ:Hid (BoxR ((w.alloc (.cells #[.slice a len cap,.int .i64 now] 35)).alloc (.cells (ndV x y).toArray 84)) (w.heap.size+1) (ndV x y)):=(by
        have h:=boxR_new (w.alloc (.cells #[.slice a len cap,.int .i64 now] 35)) (ndV x y) 84
        simp only [World.size_alloc] at h
        exact h)
      have HB:Hid (Below w.heap.size w ((w.alloc (.cells #[.slice a len cap,.int .i64 now] 35)).alloc (.cells (ndV x y).toArray 84))):=bl2T _ _ _
      go_enter Tryz.func70,Tryz.ntmps70
      go_upto_region 1 with fail
      generalize ((w.alloc (.cells #[.slice a len cap,.int .i64 now] 35)).alloc (.cells (ndV x y).toArray 84))=w0 at HX HZ HB ⊢
      obtain ⟨X,hX⟩:∃ X,X=w.heap.size:=⟨_,rfl⟩
      rw [←hX] at HX HZ ⊢
      clear hX
      have t0:w0.cell? ⟨X,0,none⟩=some (.slice a len cap):=HX.out.at0 0 _ rfl
      have t1:w0.cell? ⟨X,1,none⟩=some (.int .i64 now):=HX.out.at0 1 _ rfl
      have e0:=NB.c0 HZ.out
      have e21:=NB.c21 HZ.out
      have e23:=NB.c23 HZ.out
      go_wp2_with (first
        | (refine wpList_load_mid (by rfl) 84 _ (by rfl) _ _ (by rfl) _ _ HZ.out.at0 Tryz.underlying84 rfl (by kernel_rfl) ?_)
        | (refine wpList_load_want (by rfl) 84 _ (by rfl) _ _ (by rfl) _ _ HZ.out.at0 Tryz.underlying84 rfl (by kernel_rfl) ?_)
        | (go_at_call 117;refine (HAl.out _ HB.out).mono ?_;rintro e w1 ⟨rfl,hb⟩;replace HB:Hid (Below w.heap.size w w1):=Below.on HB.out hb;replace HX:Hid (BoxR w1 X [.slice a len cap,.int .i64 now]):=HX.out.below hb;replace HZ:Hid (BoxR w1 (X+1) (ndV x y)):=HZ.out.below hb;clear hb;replace t0:w1.cell? ⟨X,0,none⟩=some (.slice a len cap):=HX.out.at0 0 _ rfl;replace t1:w1.cell? ⟨X,1,none⟩=some (.int .i64 now):=HX.out.at0 1 _ rfl;replace e0:=NB.c0 HZ.out;replace e21:=NB.c21 HZ.out;replace e23:=NB.c23 HZ.out)
        | (go_at_call 119;refine (HNo.out _).mono ?_;rintro e w1 ⟨rfl,hb⟩;replace HB:Hid (Below w.heap.size w w1):=Below.on HB.out hb;replace HX:Hid (BoxR w1 X [.slice a len cap,.int .i64 now]):=HX.out.below hb;replace HZ:Hid (BoxR w1 (X+1) (ndV x y)):=HZ.out.below hb;clear hb;replace t0:w1.cell? ⟨X,0,none⟩=some (.slice a len cap):=HX.out.at0 0 _ rfl;replace t1:w1.cell? ⟨X,1,none⟩=some (.int .i64 now):=HX.out.at0 1 _ rfl;replace e0:=NB.c0 HZ.out;replace e21:=NB.c21 HZ.out;replace e23:=NB.c23 HZ.out))
      go_ret
      exact ⟨ret_boolW (by rw [HE.out];first | done | simp),HB.out⟩
    · cases bz
      · skip
        have HX:Hid (BoxR ((w.alloc (.cells #[.slice a len cap,.int .i64 now] 35)).alloc (.cells (ndV x y).toArray 84)) w.heap.size [.slice a len cap,.int .i64 now]):=(boxR_new w [.slice a len cap,.int .i64 now] 35).below (bel_alloc _ _)
        have HZ:Hid (BoxR ((w.alloc (.cells #[.slice a len cap,.int .i64 now] 35)).alloc (.cells (ndV x y).toArray 84)) (w.heap.size+1) (ndV x y)):=(by
          have h:=boxR_new (w.alloc (.cells #[.slice a len cap,.int .i64 now] 35)) (ndV x y) 84
          simp only [World.size_alloc] at h
          exact h)
        have HB:Hid (Below w.heap.size w ((w.alloc (.cells #[.slice a len cap,.int .i64 now] 35)).alloc (.cells (ndV x y).toArray 84))):=bl2T _ _ _
        go_enter Tryz.func70,Tryz.ntmps70
        go_upto_region 1 with fail
        generalize ((w.alloc (.cells #[.slice a len cap,.int .i64 now] 35)).alloc (.cells (ndV x y).toArray 84))=w0 at HX HZ HB ⊢
        obtain ⟨X,hX⟩:∃ X,X=w.heap.size:=⟨_,rfl⟩
        rw [←hX] at HX HZ ⊢
        clear hX
        have t0:w0.cell? ⟨X,0,none⟩=some (.slice a len cap):=HX.out.at0 0 _ rfl
        have t1:w0.cell? ⟨X,1,none⟩=some (.int .i64 now):=HX.out.at0 1 _ rfl
        have e0:=NB.c0 HZ.out
        have e21:=NB.c21 HZ.out
        have e23:=NB.c23 HZ.out
        go_wp2_with (first
          | (refine wpList_load_mid (by rfl) 84 _ (by rfl) _ _ (by rfl) _ _ HZ.out.at0 Tryz.underlying84 rfl (by kernel_rfl) ?_)
          | (refine wpList_load_want (by rfl) 84 _ (by rfl) _ _ (by rfl) _ _ HZ.out.at0 Tryz.underlying84 rfl (by kernel_rfl) ?_)
          | (go_at_call 117;refine (HAl.out _ HB.out).mono ?_;rintro e w1 ⟨rfl,hb⟩;replace HB:Hid (Below w.heap.size w w1):=Below.on HB.out hb;replace HX:Hid (BoxR w1 X [.slice a len cap,.int .i64 now]):=HX.out.below hb;replace HZ:Hid (BoxR w1 (X+1) (ndV x y)):=HZ.out.below hb;clear hb;replace t0:w1.cell? ⟨X,0,none⟩=some (.slice a len cap):=HX.out.at0 0 _ rfl;replace t1:w1.cell? ⟨X,1,none⟩=some (.int .i64 now):=HX.out.at0 1 _ rfl;replace e0:=NB.c0 HZ.out;replace e21:=NB.c21 HZ.out;replace e23:=NB.c23 HZ.out)
          | (go_at_call 119;refine (HNo.out _).mono ?_;rintro e w1 ⟨rfl,hb⟩;replace HB:Hid (Below w.heap.size w w1):=Below.on HB.out hb;replace HX:Hid (BoxR w1 X [.slice a len cap,.int .i64 now]):=HX.out.below hb;replace HZ:Hid (BoxR w1 (X+1) (ndV x y)):=HZ.out.below hb;clear hb;replace t0:w1.cell? ⟨X,0,none⟩=some (.slice a len cap):=HX.out.at0 0 _ rfl;replace t1:w1.cell? ⟨X,1,none⟩=some (.int .i64 now):=HX.out.at0 1 _ rfl;replace e0:=NB.c0 HZ.out;replace e21:=NB.c21 HZ.out;replace e23:=NB.c23 HZ.out))
        go_ret
        exact ⟨ret_boolW (by rw [HE.out];first | done | simp),HB.out⟩
      · cases ct : x.bo.toList.isEmpty
        · rw [ct] at HE
          have HX:Hid (BoxR ((w.alloc (.cells #[.slice a len cap,.int .i64 now] 35)).alloc (.cells (ndV x y).toArray 84)) w.heap.size [.slice a len cap,.int .i64 now]):=(boxR_new w [.slice a len cap,.int .i64 now] 35).below (bel_alloc _ _)
          have HZ:Hid (BoxR ((w.alloc (.cells #[.slice a len cap,.int .i64 now] 35)).alloc (.cells (ndV x y).toArray 84)) (w.heap.size+1) (ndV x y)):=(by
            have h:=boxR_new (w.alloc (.cells #[.slice a len cap,.int .i64 now] 35)) (ndV x y) 84
            simp only [World.size_alloc] at h
            exact h)
          have HB:Hid (Below w.heap.size w ((w.alloc (.cells #[.slice a len cap,.int .i64 now] 35)).alloc (.cells (ndV x y).toArray 84))):=bl2T _ _ _
          go_enter Tryz.func70,Tryz.ntmps70
          go_upto_region 1 with fail
          generalize ((w.alloc (.cells #[.slice a len cap,.int .i64 now] 35)).alloc (.cells (ndV x y).toArray 84))=w0 at HX HZ HB ⊢
          obtain ⟨X,hX⟩:∃ X,X=w.heap.size:=⟨_,rfl⟩
          rw [←hX] at HX HZ ⊢
          clear hX
          have t0:w0.cell? ⟨X,0,none⟩=some (.slice a len cap):=HX.out.at0 0 _ rfl
          have t1:w0.cell? ⟨X,1,none⟩=some (.int .i64 now):=HX.out.at0 1 _ rfl
          have e0:=NB.c0 HZ.out
          have e21:=NB.c21 HZ.out
          have e23:=NB.c23 HZ.out
          go_wp2_with (first
            | (refine wpList_load_mid (by rfl) 84 _ (by rfl) _ _ (by rfl) _ _ HZ.out.at0 Tryz.underlying84 rfl (by kernel_rfl) ?_)
            | (refine wpList_load_want (by rfl) 84 _ (by rfl) _ _ (by rfl) _ _ HZ.out.at0 Tryz.underlying84 rfl (by kernel_rfl) ?_)
            | (go_at_call 117;refine (HAl.out _ HB.out).mono ?_;rintro e w1 ⟨rfl,hb⟩;replace HB:Hid (Below w.heap.size w w1):=Below.on HB.out hb;replace HX:Hid (BoxR w1 X [.slice a len cap,.int .i64 now]):=HX.out.below hb;replace HZ:Hid (BoxR w1 (X+1) (ndV x y)):=HZ.out.below hb;clear hb;replace t0:w1.cell? ⟨X,0,none⟩=some (.slice a len cap):=HX.out.at0 0 _ rfl;replace t1:w1.cell? ⟨X,1,none⟩=some (.int .i64 now):=HX.out.at0 1 _ rfl;replace e0:=NB.c0 HZ.out;replace e21:=NB.c21 HZ.out;replace e23:=NB.c23 HZ.out)
            | (go_at_call 119;refine (HNo.out _).mono ?_;rintro e w1 ⟨rfl,hb⟩;replace HB:Hid (Below w.heap.size w w1):=Below.on HB.out hb;replace HX:Hid (BoxR w1 X [.slice a len cap,.int .i64 now]):=HX.out.below hb;replace HZ:Hid (BoxR w1 (X+1) (ndV x y)):=HZ.out.below hb;clear hb;replace t0:w1.cell? ⟨X,0,none⟩=some (.slice a len cap):=HX.out.at0 0 _ rfl;replace t1:w1.cell? ⟨X,1,none⟩=some (.int .i64 now):=HX.out.at0 1 _ rfl;replace e0:=NB.c0 HZ.out;replace e21:=NB.c21 HZ.out;replace e23:=NB.c23 HZ.out))
          go_ret
          exact ⟨ret_boolW (by rw [HE.out];first | done | simp),HB.out⟩
        · rw [ct] at HE
          have HX:Hid (BoxR ((w.alloc (.cells #[.slice a len cap,.int .i64 now] 35)).alloc (.cells (ndV x y).toArray 84)) w.heap.size [.slice a len cap,.int .i64 now]):=(boxR_new w [.slice a len cap,.int .i64 now] 35).below (bel_alloc _ _)
          have HZ:Hid (BoxR ((w.alloc (.cells #[.slice a len cap,.int .i64 now] 35)).alloc (.cells (ndV x y).toArray 84)) (w.heap.size+1) (ndV x y)):=(by
            have h:=boxR_new (w.alloc (.cells #[.slice a len cap,.int .i64 now] 35)) (ndV x y) 84
            simp only [World.size_alloc] at h
            exact h)
          have HB:Hid (Below w.heap.size w ((w.alloc (.cells #[.slice a len cap,.int .i64 now] 35)).alloc (.cells (ndV x y).toArray 84))):=bl2T _ _ _
          go_enter Tryz.func70,Tryz.ntmps70
          go_upto_region 1 with fail
          generalize ((w.alloc (.cells #[.slice a len cap,.int .i64 now] 35)).alloc (.cells (ndV x y).toArray 84))=w0 at HX HZ HB ⊢
          obtain ⟨X,hX⟩:∃ X,X=w.heap.size:=⟨_,rfl⟩
          rw [←hX] at HX HZ ⊢
          clear hX
          have t0:w0.cell? ⟨X,0,none⟩=some (.slice a len cap):=HX.out.at0 0 _ rfl
          have t1:w0.cell? ⟨X,1,none⟩=some (.int .i64 now):=HX.out.at0 1 _ rfl
          have e0:=NB.c0 HZ.out
          have e21:=NB.c21 HZ.out
          have e23:=NB.c23 HZ.out
          go_wp2_with (first
            | (refine wpList_load_mid (by rfl) 84 _ (by rfl) _ _ (by rfl) _ _ HZ.out.at0 Tryz.underlying84 rfl (by kernel_rfl) ?_)
            | (refine wpList_load_want (by rfl) 84 _ (by rfl) _ _ (by rfl) _ _ HZ.out.at0 Tryz.underlying84 rfl (by kernel_rfl) ?_)
            | (go_at_call 117;refine (HAl.out _ HB.out).mono ?_;rintro e w1 ⟨rfl,hb⟩;replace HB:Hid (Below w.heap.size w w1):=Below.on HB.out hb;replace HX:Hid (BoxR w1 X [.slice a len cap,.int .i64 now]):=HX.out.below hb;replace HZ:Hid (BoxR w1 (X+1) (ndV x y)):=HZ.out.below hb;clear hb;replace t0:w1.cell? ⟨X,0,none⟩=some (.slice a len cap):=HX.out.at0 0 _ rfl;replace t1:w1.cell? ⟨X,1,none⟩=some (.int .i64 now):=HX.out.at0 1 _ rfl;replace e0:=NB.c0 HZ.out;replace e21:=NB.c21 HZ.out;replace e23:=NB.c23 HZ.out)
            | (go_at_call 119;refine (HNo.out _).mono ?_;rintro e w1 ⟨rfl,hb⟩;replace HB:Hid (Below w.heap.size w w1):=Below.on HB.out hb;replace HX:Hid (BoxR w1 X [.slice a len cap,.int .i64 now]):=HX.out.below hb;replace HZ:Hid (BoxR w1 (X+1) (ndV x y)):=HZ.out.below hb;clear hb;replace t0:w1.cell? ⟨X,0,none⟩=some (.slice a len cap):=HX.out.at0 0 _ rfl;replace t1:w1.cell? ⟨X,1,none⟩=some (.int .i64 now):=HX.out.at0 1 _ rfl;replace e0:=NB.c0 HZ.out;replace e21:=NB.c21 HZ.out;replace e23:=NB.c23 HZ.out))
          go_ret
          exact ⟨ret_boolW (by rw [HE.out];first | done | simp),HB.out⟩
  rw [k2,if_neg (by decide)] at HE
  cases k3:(x.k==3)
  case true =>
    rw [k3,if_pos rfl] at HE
    cases al
    · skip
      have HX:Hid (BoxR ((w.alloc (.cells #[.slice a len cap,.int .i64 now] 35)).alloc (.cells (ndV x y).toArray 84)) w.heap.size [.slice a len cap,.int .i64 now]):=(boxR_new w [.slice a len cap,.int .i64 now] 35).below (bel_alloc _ _)
      have HZ:Hid (BoxR ((w.alloc (.cells #[.slice a len cap,.int .i64 now] 35)).alloc (.cells (ndV x y).toArray 84)) (w.heap.size+1) (ndV x y)):=(by
        have h:=boxR_new (w.alloc (.cells #[.slice a len cap,.int .i64 now] 35)) (ndV x y) 84
        simp only [World.size_alloc] at h
        exact h)
      have HB:Hid (Below w.heap.size w ((w.alloc (.cells #[.slice a len cap,.int .i64 now] 35)).alloc (.cells (ndV x y).toArray 84))):=bl2T _ _ _
      go_enter Tryz.func70,Tryz.ntmps70
      go_upto_region 1 with fail
      generalize ((w.alloc (.cells #[.slice a len cap,.int .i64 now] 35)).alloc (.cells (ndV x y).toArray 84))=w0 at HX HZ HB ⊢
      obtain ⟨X,hX⟩:∃ X,X=w.heap.size:=⟨_,rfl⟩
      rw [←hX] at HX HZ ⊢
      clear hX
      have t0:w0.cell? ⟨X,0,none⟩=some (.slice a len cap):=HX.out.at0 0 _ rfl
      have t1:w0.cell? ⟨X,1,none⟩=some (.int .i64 now):=HX.out.at0 1 _ rfl
      have e0:=NB.c0 HZ.out
      have e21:=NB.c21 HZ.out
      have e23:=NB.c23 HZ.out
      go_wp2_with (first
        | (refine wpList_load_mid (by rfl) 84 _ (by rfl) _ _ (by rfl) _ _ HZ.out.at0 Tryz.underlying84 rfl (by kernel_rfl) ?_)
        | (refine wpList_load_want (by rfl) 84 _ (by rfl) _ _ (by rfl) _ _ HZ.out.at0 Tryz.underlying84 rfl (by kernel_rfl) ?_)
        | (go_at_call 117;refine (HAl.out _ HB.out).mono ?_;rintro e w1 ⟨rfl,hb⟩;replace HB:Hid (Below w.heap.size w w1):=Below.on HB.out hb;replace HX:Hid (BoxR w1 X [.slice a len cap,.int .i64 now]):=HX.out.below hb;replace HZ:Hid (BoxR w1 (X+1) (ndV x y)):=HZ.out.below hb;clear hb;replace t0:w1.cell? ⟨X,0,none⟩=some (.slice a len cap):=HX.out.at0 0 _ rfl;replace t1:w1.cell? ⟨X,1,none⟩=some (.int .i64 now):=HX.out.at0 1 _ rfl;replace e0:=NB.c0 HZ.out;replace e21:=NB.c21 HZ.out;replace e23:=NB.c23 HZ.out)
        | (go_at_call 119;refine (HNo.out _).mono ?_;rintro e w1 ⟨rfl,hb⟩;replace HB:Hid (Below w.heap.size w w1):=Below.on HB.out hb;replace HX:Hid (BoxR w1 X [.slice a len cap,.int .i64 now]):=HX.out.below hb;replace HZ:Hid (BoxR w1 (X+1) (ndV x y)):=HZ.out.below hb;clear hb;replace t0:w1.cell? ⟨X,0,none⟩=some (.slice a len cap):=HX.out.at0 0 _ rfl;replace t1:w1.cell? ⟨X,1,none⟩=some (.int .i64 now):=HX.out.at0 1 _ rfl;replace e0:=NB.c0 HZ.out;replace e21:=NB.c21 HZ.out;replace e23:=NB.c23 HZ.out)
        | (go_at_call 120;refine (HLb.out _).mono ?_;rintro e w1 ⟨rfl,rfl⟩))
      go_ret
      exact ⟨ret_boolW (by rw [HE.out];first | done | simp),HB.out⟩
    · cases bz
      · skip
        have HX:Hid (BoxR ((w.alloc (.cells #[.slice a len cap,.int .i64 now] 35)).alloc (.cells (ndV x y).toArray 84)) w.heap.size [.slice a len cap,.int .i64 now]):=(boxR_new w [.slice a len cap,.int .i64 now] 35).below (bel_alloc _ _)
        have HZ:Hid (BoxR ((w.alloc (.cells #[.slice a len cap,.int .i64 now] 35)).alloc (.cells (ndV x y).toArray 84)) (w.heap.size+1) (ndV x y)):=(by
          have h:=boxR_new (w.alloc (.cells #[.slice a len cap,.int .i64 now] 35)) (ndV x y) 84
          simp only [World.size_alloc] at h
          exact h)
        have HB:Hid (Below w.heap.size w ((w.alloc (.cells #[.slice a len cap,.int .i64 now] 35)).alloc (.cells (ndV x y).toArray 84))):=bl2T _ _ _
        go_enter Tryz.func70,Tryz.ntmps70
        go_upto_region 1 with fail
        generalize ((w.alloc (.cells #[.slice a len cap,.int .i64 now] 35)).alloc (.cells (ndV x y).toArray 84))=w0 at HX HZ HB ⊢
        obtain ⟨X,hX⟩:∃ X,X=w.heap.size:=⟨_,rfl⟩
        rw [←hX] at HX HZ ⊢
        clear hX
        have t0:w0.cell? ⟨X,0,none⟩=some (.slice a len cap):=HX.out.at0 0 _ rfl
        have t1:w0.cell? ⟨X,1,none⟩=some (.int .i64 now):=HX.out.at0 1 _ rfl
        have e0:=NB.c0 HZ.out
        have e21:=NB.c21 HZ.out
        have e23:=NB.c23 HZ.out
        go_wp2_with (first
          | (refine wpList_load_mid (by rfl) 84 _ (by rfl) _ _ (by rfl) _ _ HZ.out.at0 Tryz.underlying84 rfl (by kernel_rfl) ?_)
          | (refine wpList_load_want (by rfl) 84 _ (by rfl) _ _ (by rfl) _ _ HZ.out.at0 Tryz.underlying84 rfl (by kernel_rfl) ?_)
          | (go_at_call 117;refine (HAl.out _ HB.out).mono ?_;rintro e w1 ⟨rfl,hb⟩;replace HB:Hid (Below w.heap.size w w1):=Below.on HB.out hb;replace HX:Hid (BoxR w1 X [.slice a len cap,.int .i64 now]):=HX.out.below hb;replace HZ:Hid (BoxR w1 (X+1) (ndV x y)):=HZ.out.below hb;clear hb;replace t0:w1.cell? ⟨X,0,none⟩=some (.slice a len cap):=HX.out.at0 0 _ rfl;replace t1:w1.cell? ⟨X,1,none⟩=some (.int .i64 now):=HX.out.at0 1 _ rfl;replace e0:=NB.c0 HZ.out;replace e21:=NB.c21 HZ.out;replace e23:=NB.c23 HZ.out)
          | (go_at_call 119;refine (HNo.out _).mono ?_;rintro e w1 ⟨rfl,hb⟩;replace HB:Hid (Below w.heap.size w w1):=Below.on HB.out hb;replace HX:Hid (BoxR w1 X [.slice a len cap,.int .i64 now]):=HX.out.below hb;replace HZ:Hid (BoxR w1 (X+1) (ndV x y)):=HZ.out.below hb;clear hb;replace t0:w1.cell? ⟨X,0,none⟩=some (.slice a len cap):=HX.out.at0 0 _ rfl;replace t1:w1.cell? ⟨X,1,none⟩=some (.int .i64 now):=HX.out.at0 1 _ rfl;replace e0:=NB.c0 HZ.out;replace e21:=NB.c21 HZ.out;replace e23:=NB.c23 HZ.out)
          | (go_at_call 120;refine (HLb.out _).mono ?_;rintro e w1 ⟨rfl,rfl⟩))
        go_ret
        exact ⟨ret_boolW (by rw [HE.out];first | done | simp),HB.out⟩
      · cases sg
        · skip
          have HX:Hid (BoxR ((w.alloc (.cells #[.slice a len cap,.int .i64 now] 35)).alloc (.cells (ndV x y).toArray 84)) w.heap.size [.slice a len cap,.int .i64 now]):=(boxR_new w [.slice a len cap,.int .i64 now] 35).below (bel_alloc _ _)
          have HZ:Hid (BoxR ((w.alloc (.cells #[.slice a len cap,.int .i64 now] 35)).alloc (.cells (ndV x y).toArray 84)) (w.heap.size+1) (ndV x y)):=(by
            have h:=boxR_new (w.alloc (.cells #[.slice a len cap,.int .i64 now] 35)) (ndV x y) 84
            simp only [World.size_alloc] at h
            exact h)
          have HB:Hid (Below w.heap.size w ((w.alloc (.cells #[.slice a len cap,.int .i64 now] 35)).alloc (.cells (ndV x y).toArray 84))):=bl2T _ _ _
          go_enter Tryz.func70,Tryz.ntmps70
          go_upto_region 1 with fail
          generalize ((w.alloc (.cells #[.slice a len cap,.int .i64 now] 35)).alloc (.cells (ndV x y).toArray 84))=w0 at HX HZ HB ⊢
          obtain ⟨X,hX⟩:∃ X,X=w.heap.size:=⟨_,rfl⟩
          rw [←hX] at HX HZ ⊢
          clear hX
          have t0:w0.cell? ⟨X,0,none⟩=some (.slice a len cap):=HX.out.at0 0 _ rfl
          have t1:w0.cell? ⟨X,1,none⟩=some (.int .i64 now):=HX.out.at0 1 _ rfl
          have e0:=NB.c0 HZ.out
          have e21:=NB.c21 HZ.out
          have e23:=NB.c23 HZ.out
          go_wp2_with (first
            | (refine wpList_load_mid (by rfl) 84 _ (by rfl) _ _ (by rfl) _ _ HZ.out.at0 Tryz.underlying84 rfl (by kernel_rfl) ?_)
            | (refine wpList_load_want (by rfl) 84 _ (by rfl) _ _ (by rfl) _ _ HZ.out.at0 Tryz.underlying84 rfl (by kernel_rfl) ?_)
            | (go_at_call 117;refine (HAl.out _ HB.out).mono ?_;rintro e w1 ⟨rfl,hb⟩;replace HB:Hid (Below w.heap.size w w1):=Below.on HB.out hb;replace HX:Hid (BoxR w1 X [.slice a len cap,.int .i64 now]):=HX.out.below hb;replace HZ:Hid (BoxR w1 (X+1) (ndV x y)):=HZ.out.below hb;clear hb;replace t0:w1.cell? ⟨X,0,none⟩=some (.slice a len cap):=HX.out.at0 0 _ rfl;replace t1:w1.cell? ⟨X,1,none⟩=some (.int .i64 now):=HX.out.at0 1 _ rfl;replace e0:=NB.c0 HZ.out;replace e21:=NB.c21 HZ.out;replace e23:=NB.c23 HZ.out)
            | (go_at_call 119;refine (HNo.out _).mono ?_;rintro e w1 ⟨rfl,hb⟩;replace HB:Hid (Below w.heap.size w w1):=Below.on HB.out hb;replace HX:Hid (BoxR w1 X [.slice a len cap,.int .i64 now]):=HX.out.below hb;replace HZ:Hid (BoxR w1 (X+1) (ndV x y)):=HZ.out.below hb;clear hb;replace t0:w1.cell? ⟨X,0,none⟩=some (.slice a len cap):=HX.out.at0 0 _ rfl;replace t1:w1.cell? ⟨X,1,none⟩=some (.int .i64 now):=HX.out.at0 1 _ rfl;replace e0:=NB.c0 HZ.out;replace e21:=NB.c21 HZ.out;replace e23:=NB.c23 HZ.out)
            | (go_at_call 120;refine (HLb.out _).mono ?_;rintro e w1 ⟨rfl,rfl⟩))
          go_ret
          exact ⟨ret_boolW (by rw [HE.out];first | done | simp),HB.out⟩
        · skip
          have HX:Hid (BoxR ((w.alloc (.cells #[.slice a len cap,.int .i64 now] 35)).alloc (.cells (ndV x y).toArray 84)) w.heap.size [.slice a len cap,.int .i64 now]):=(boxR_new w [.slice a len cap,.int .i64 now] 35).below (bel_alloc _ _)
          have HZ:Hid (BoxR ((w.alloc (.cells #[.slice a len cap,.int .i64 now] 35)).alloc (.cells (ndV x y).toArray 84)) (w.heap.size+1) (ndV x y)):=(by
            have h:=boxR_new (w.alloc (.cells #[.slice a len cap,.int .i64 now] 35)) (ndV x y) 84
            simp only [World.size_alloc] at h
            exact h)
          have HB:Hid (Below w.heap.size w ((w.alloc (.cells #[.slice a len cap,.int .i64 now] 35)).alloc (.cells (ndV x y).toArray 84))):=bl2T _ _ _
          go_enter Tryz.func70,Tryz.ntmps70
          go_upto_region 1 with fail
          generalize ((w.alloc (.cells #[.slice a len cap,.int .i64 now] 35)).alloc (.cells (ndV x y).toArray 84))=w0 at HX HZ HB ⊢
          obtain ⟨X,hX⟩:∃ X,X=w.heap.size:=⟨_,rfl⟩
          rw [←hX] at HX HZ ⊢
          clear hX
          have t0:w0.cell? ⟨X,0,none⟩=some (.slice a len cap):=HX.out.at0 0 _ rfl
          have t1:w0.cell? ⟨X,1,none⟩=some (.int .i64 now):=HX.out.at0 1 _ rfl
          have e0:=NB.c0 HZ.out
          have e21:=NB.c21 HZ.out
          have e23:=NB.c23 HZ.out
          go_wp2_with (first
            | (refine wpList_load_mid (by rfl) 84 _ (by rfl) _ _ (by rfl) _ _ HZ.out.at0 Tryz.underlying84 rfl (by kernel_rfl) ?_)
            | (refine wpList_load_want (by rfl) 84 _ (by rfl) _ _ (by rfl) _ _ HZ.out.at0 Tryz.underlying84 rfl (by kernel_rfl) ?_)
            | (go_at_call 117;refine (HAl.out _ HB.out).mono ?_;rintro e w1 ⟨rfl,hb⟩;replace HB:Hid (Below w.heap.size w w1):=Below.on HB.out hb;replace HX:Hid (BoxR w1 X [.slice a len cap,.int .i64 now]):=HX.out.below hb;replace HZ:Hid (BoxR w1 (X+1) (ndV x y)):=HZ.out.below hb;clear hb;replace t0:w1.cell? ⟨X,0,none⟩=some (.slice a len cap):=HX.out.at0 0 _ rfl;replace t1:w1.cell? ⟨X,1,none⟩=some (.int .i64 now):=HX.out.at0 1 _ rfl;replace e0:=NB.c0 HZ.out;replace e21:=NB.c21 HZ.out;replace e23:=NB.c23 HZ.out)
            | (go_at_call 119;refine (HNo.out _).mono ?_;rintro e w1 ⟨rfl,hb⟩;replace HB:Hid (Below w.heap.size w w1):=Below.on HB.out hb;replace HX:Hid (BoxR w1 X [.slice a len cap,.int .i64 now]):=HX.out.below hb;replace HZ:Hid (BoxR w1 (X+1) (ndV x y)):=HZ.out.below hb;clear hb;replace t0:w1.cell? ⟨X,0,none⟩=some (.slice a len cap):=HX.out.at0 0 _ rfl;replace t1:w1.cell? ⟨X,1,none⟩=some (.int .i64 now):=HX.out.at0 1 _ rfl;replace e0:=NB.c0 HZ.out;replace e21:=NB.c21 HZ.out;replace e23:=NB.c23 HZ.out)
            | (go_at_call 120;refine (HLb.out _).mono ?_;rintro e w1 ⟨rfl,rfl⟩))
          go_ret
          exact ⟨ret_boolW (by rw [HE.out];first | done | simp),HB.out⟩
  rw [k3,if_neg (by decide)] at HE
  have HX:Hid (BoxR ((w.alloc (.cells #[.slice a len cap,.int .i64 now] 35)).alloc (.cells (ndV x y).toArray 84)) w.heap.size [.slice a len cap,.int .i64 now]):=(boxR_new w [.slice a len cap,.int .i64 now] 35).below (bel_alloc _ _)
  have HZ:Hid (BoxR ((w.alloc (.cells #[.slice a len cap,.int .i64 now] 35)).alloc (.cells (ndV x y).toArray 84)) (w.heap.size+1) (ndV x y)):=(by
    have h:=boxR_new (w.alloc (.cells #[.slice a len cap,.int .i64 now] 35)) (ndV x y) 84
    simp only [World.size_alloc] at h
    exact h)
  have HB:Hid (Below w.heap.size w ((w.alloc (.cells #[.slice a len cap,.int .i64 now] 35)).alloc (.cells (ndV x y).toArray 84))):=bl2T _ _ _
  go_enter Tryz.func70,Tryz.ntmps70
  go_upto_region 1 with fail
  generalize ((w.alloc (.cells #[.slice a len cap,.int .i64 now] 35)).alloc (.cells (ndV x y).toArray 84))=w0 at HX HZ HB ⊢
  obtain ⟨X,hX⟩:∃ X,X=w.heap.size:=⟨_,rfl⟩
  rw [←hX] at HX HZ ⊢
  clear hX
  have t0:w0.cell? ⟨X,0,none⟩=some (.slice a len cap):=HX.out.at0 0 _ rfl
  have t1:w0.cell? ⟨X,1,none⟩=some (.int .i64 now):=HX.out.at0 1 _ rfl
  have e0:=NB.c0 HZ.out
  have e21:=NB.c21 HZ.out
  have e23:=NB.c23 HZ.out
  go_wp2_with (first
    | (refine wpList_load_mid (by rfl) 84 _ (by rfl) _ _ (by rfl) _ _ HZ.out.at0 Tryz.underlying84 rfl (by kernel_rfl) ?_))
  go_ret
  exact ⟨ret_boolW (by rw [HE.out];first | done | simp),HB.out⟩
end Go.Proofs.YtabfdidnjibdeaaGreatDoor
