/- Laid together: ClassS. -/
import Derived.Test.YtabfdidnjibdeaaGreatDoorBR25
namespace Go.Proofs.YtabfdidnjibdeaaGreatDoor
open Go.RowKit Go.PlainAid Go.Deep
set_option linter.unusedVariables false
theorem sl02Has_int (h v:Int)(h0:0≤h)(h1:h≤7)(v0:0≤v)(v1:v≤7)(w:World) :
    Calls Tryz.prog 136 #[.int .i64 h,.int .i64 v] w fun e w'=>e=.returned (.bool (hasZ h v))∧w'=w:=by
  obtain ⟨a,rfl⟩:=Int.eq_ofNat_of_zero_le h0
  obtain ⟨b,rfl⟩:=Int.eq_ofNat_of_zero_le v0
  have e:hasZ (a:Int) (b:Int)=hasB a b:=hasZ_in (by omega) (by omega)
  rw [e]
  exact sl02Has_any a b (by omega) (by omega) w
set_option maxRecDepth 100000 in
set_option maxHeartbeats 8000000 in
theorem sWhich_any (u g o:Int)(au:Option Addr)(lu cu:Nat)(ag:Option Addr)(lg cg:Nat)(r:Bool)(m:Int)(us gs:List (Int × Int))(owner group:Int)(cu' cg':Int)(ca:Option Addr)(cl cc:Nat)(cr:Bool)(cf:Nat→Int)(want:Int)(hf:fineB u g o us gs r m owner group cu' cg' cl cf want=true)(w:World)(hu:Prs au lu us w)(hg:Prs ag lg gs w)(hci:Ints ca cl cf w) :
    Calls Tryz.prog 135 #[.agg #[.int .i64 u,.int .i64 g,.int .i64 o,.slice au lu cu,.slice ag lg cg,.bool r,.int .i64 m],.int .i64 owner,.int .i64 group,.agg #[.int .i64 cu',.int .i64 cg',.slice ca cl cc,.bool cr],.int .i64 want] w fun e w'=>e=.returned (.int .i64 (whichB g us gs owner group cu' (inGB cu' cg' cl cf) want))∧Below w.heap.size w w':=by
  have hf2:aclB u g o us gs r m=true∧inR 0 9999 owner=true∧inR 0 9999 group=true∧credB cu' cg' cl cf=true∧inR 0 7 want=true:=by
    unfold fineB at hf
    simpa only [Bool.and_eq_true] using hf
  obtain ⟨ha,_,_,hcd,hw7⟩:=hf2
  obtain ⟨_,⟨g0,g1⟩,_,_,m1,m2⟩:=aclB_parts ha
  have hl1:=nm_len m1
  have hl2:=nm_len m2
  have hcl:cl≤8:=gr_len (credB_iff.mp hcd).2.2
  obtain ⟨v0,v1⟩:=inR_iff.1 hw7
  have e2:=hg.1
  have hin:Hid (∀ gid w',Below w.heap.size w w'→Calls Tryz.prog 175 #[.agg #[.int .i64 cu',.int .i64 cg',.slice ca cl cc,.bool cr],.int .i64 gid] w' fun e w''=>e=.returned (.bool (inGB cu' cg' cl cf gid))∧Below w'.heap.size w' w''):=(fun gid w' hb=>by
    rw [inGB_yes hcd]
    exact l02In_some cu' cg' ca cl cc cr gid cf hcl w' (hci.below hb))
  have hat:Hid (∀ w',Below w.heap.size w w'→Calls Tryz.prog 137 #[.slice au lu cu,.int .i64 cu'] w' fun e w''=>e=.returned (.int .i64 (atI us cu'))∧w''=w'):=(fun w' hb=>sAt_any au lu cu us cu' m1 w' (hu.below hb))
  have BG:Hid (∀ k,k<lg→0≤btAt gs k∧btAt gs k≤7):=(by show ∀ k,_;rw [←e2];exact nm_bt m2)
  have HG:Hid (Prs ag lg gs w):=hg
  have HW:Hid (whichB g us gs owner group cu' (inGB cu' cg' cl cf) want=if cu'==owner then 1 else if fnd us cu' then 2 else goC (allTo (inGB cu' cg' cl cf group&&hasZ g want) (inGB cu' cg' cl cf) gs want lg) (inTo (inGB cu' cg' cl cf group) (inGB cu' cg' cl cf) gs lg)):=(by show _=_;rw [←e2];rfl)
  have hlg:lg≤6:=by omega
  have HA1:Hid (fnd us cu'=false→atI us cu'=-1):=(fun h=>by rw [atI,h];rfl)
  have HA2:Hid (fnd us cu'=true→0≤atI us cu'):=(fun h=>by rw [atI,h];simp)
  clear hu hg hci hf ha hcd hw7 m1 m2 e2 hl1 hl2 hcl
  generalize whichB g us gs owner group cu' (inGB cu' cg' cl cf) want=wb at HW ⊢
  generalize inGB cu' cg' cl cf=P at hin HW
  have hX0:=(box7_new w (.int .i64 u) (.int .i64 g) (.int .i64 o) (.slice au lu cu) (.slice ag lg cg) (.bool r) (.int .i64 m) 81).below (bel_alloc _ (.cells #[.int .i64 cu',.int .i64 cg',.slice ca cl cc,.bool cr] 37))
  have eA:(w.alloc (.cells #[.int .i64 u,.int .i64 g,.int .i64 o,.slice au lu cu,.slice ag lg cg,.bool r,.int .i64 m] 81)).heap.size=w.heap.size+1:=by simp
  have hY0:=box4_new (w.alloc (.cells #[.int .i64 u,.int .i64 g,.int .i64 o,.slice au lu cu,.slice ag lg cg,.bool r,.int .i64 m] 81)) (.int .i64 cu') (.int .i64 cg') (.slice ca cl cc) (.bool cr) 37
  rw [eA] at hY0
  clear eA
  cases ho:(cu'==owner)
  · have HW2 : Hid (wb = if fnd us cu' then 2 else goC (allTo (P group && hasZ g want) P gs want lg) (inTo (P group) P gs lg)) := (by show _ = _; rw [HW.out, ho]; rfl)
    clear HW
    go_enter Tryz.func135,Tryz.ntmps135
    go_wp2_with fail
    refine (hat.out _ (bl2N _ _ _)).mono ?_
    rintro e w1 ⟨rfl,rfl⟩
    have hW1:Hid (Below w.heap.size w ((w.alloc (.cells #[.int .i64 u,.int .i64 g,.int .i64 o,.slice au lu cu,.slice ag lg cg,.bool r,.int .i64 m] 81)).alloc (.cells #[.int .i64 cu',.int .i64 cg',.slice ca cl cc,.bool cr] 37))):=bl2N _ _ _
    generalize (w.alloc (.cells #[.int .i64 u,.int .i64 g,.int .i64 o,.slice au lu cu,.slice ag lg cg,.bool r,.int .i64 m] 81)).alloc (.cells #[.int .i64 cu',.int .i64 cg',.slice ca cl cc,.bool cr] 37)=w1 at hX0 hY0 hW1 ⊢
    cases hfn:fnd us cu'
    · have hz : Hid (wb = goC (allTo (P group && hasZ g want) P gs want lg) (inTo (P group) P gs lg)) := (by show _ = _; rw [HW2.out, hfn]; rfl)
      have hm1:=HA1.out hfn
      rw [hm1]
      obtain ⟨xl,x0,x1,x2,x3,x4,x5,x6⟩:=hX0
      obtain ⟨yl,y0,y1,y2,y3⟩:=hY0
      clear HA1 HA2 hm1 HW2 hfn hat
      go_wp2_with fail
      refine (hin.out group _ hW1.out).mono ?_
      rintro e w2 ⟨rfl,hb⟩
      have hW2:Hid (Below w.heap.size w w2):=Below.on hW1.out hb
      have hX2:=(Box7.mk xl x0 x1 x2 x3 x4 x5 x6).below hb
      have hY2:=(Box4.mk yl y0 y1 y2 y3).below hb
      clear hb xl x0 x1 x2 x3 x4 x5 x6 yl y0 y1 y2 y3 hW1
      have HX2:Hid (Box7 w2 w.heap.size (.int .i64 u) (.int .i64 g) (.int .i64 o) (.slice au lu cu) (.slice ag lg cg) (.bool r) (.int .i64 m)):=hX2
      have HY2:Hid (Box4 w2 (w.heap.size+1) (.int .i64 cu') (.int .i64 cg') (.slice ca cl cc) (.bool cr)):=hY2
      clear hX2 hY2
      obtain ⟨xl,x0,x1,x2,x3,x4,x5,x6⟩:=HX2.out
      cases hPg:P group
      all_goals
        have HPG:Hid (P group=_):=hPg
        clear hPg ho
        go_wp2_with (go_at_call 136;refine (sl02Has_int _ _ g0 g1 v0 v1 _).mono ?_;rintro e w2 ⟨rfl,rfl⟩)
        clear x0 x1 x2 x3 x4 x5 x6 xl
        go_loopw [11,12,13] (fun s t i wr=>∃ k:Nat,k≤lg∧i=.int .i64 k∧s=.bool (inTo (P group) P gs k)∧t=.bool (allTo (P group&&hasZ g want) P gs want k)∧Hid (Below w2.heap.size w2 wr)) (fun _ _ i _=>lg-(intOf i).toNat)
        case atStart=>exact ⟨0,Nat.zero_le _,rfl,by simp [inTo,HPG.out],by simp [allTo,HPG.out],Below.refl _ _⟩
        case round =>
          obtain ⟨k,hk,rfl,rfl,rfl,hB⟩:=hrel
          obtain ⟨xl,x0,x1,x2,x3,x4,x5,x6⟩:=HX2.out.below hB.out
          by_cases hlt:k<lg
          · have hlt' : (k : Int) < (lg : Int) := by omega
            obtain ⟨b,off,rfl,hbl,hc⟩:=HG.out.2 (by omega)
            have hBB:=Below.on hW2.out hB.out
            obtain ⟨yl,y0,y1,y2,y3⟩:=HY2.out.below hB.out
            have z4:∀ d os,(Go.Sort.grow (redrawn wr d) os).cell? ⟨w.heap.size,4,none⟩=some (.slice (some ⟨b,off,none⟩) lg cg):=fun d os=>cell_regrown x4 d os
            have q0:∀ d os,(Go.Sort.grow (redrawn wr d) os).cell? ⟨w.heap.size+1,0,none⟩=some (.int .i64 cu'):=fun d os=>cell_regrown y0 d os
            have q1:∀ d os,(Go.Sort.grow (redrawn wr d) os).cell? ⟨w.heap.size+1,1,none⟩=some (.int .i64 cg'):=fun d os=>cell_regrown y1 d os
            have q2:∀ d os,(Go.Sort.grow (redrawn wr d) os).cell? ⟨w.heap.size+1,2,none⟩=some (.slice ca cl cc):=fun d os=>cell_regrown y2 d os
            have q3:∀ d os,(Go.Sort.grow (redrawn wr d) os).cell? ⟨w.heap.size+1,3,none⟩=some (.bool cr):=fun d os=>cell_regrown y3 d os
            have e0:∀ d os,(Go.Sort.grow (redrawn wr d) os).cell? ⟨b,off+k*2,none⟩=some (.int .i64 (idAt gs k)):=fun d os=>cell_regrown ((hBB.cell (p:=⟨b,off+k*2,none⟩) hbl).trans (hc k hlt).1) d os
            have cA:∀ d os,Calls Tryz.prog 175 #[.agg #[.int .i64 cu',.int .i64 cg',.slice ca cl cc,.bool cr],.int .i64 (idAt gs k)] (Go.Sort.grow (redrawn wr d) os) fun e w''=>e=.returned (.bool (P (idAt gs k)))∧∃ p:Regrown,w''=Go.Sort.grow (redrawn wr p.d) p.os:=fun d os=>Calls.regrown_of (hin.out _ _ (Below.on hBB (below_regrown wr d os)))
            have HC1:Hid (w.cell? ⟨b,off+k*2+1,none⟩=some (.int .i64 (btAt gs k))):=(hc k hlt).2
            have HBL:Hid (b<w.heap.size):=hbl
            have HBB:Hid (Below w.heap.size w wr):=hBB
            clear hc hBB hbl y0 y1 y2 y3 yl x0 x1 x2 x3 x5 x6 xl
            go_wp2
            refine wp_region_quiet_below (by kernel_rfl) (by kernel_rfl) ?_
            repeat (go_big_quiet_step (exact cA _ _))
            refine wpQuiet_nil ?_
            intro _ hw'
            obtain ⟨⟨dq,osq⟩,hw''⟩:=hw'
            subst hw''
            have hbq:=below_regrown wr dq osq
            have hbW:Hid (Below w.heap.size w (Go.Sort.grow (redrawn wr dq) osq)):=Below.on HBB.out hbq
            have hb2:Hid (Below w2.heap.size w2 (Go.Sort.grow (redrawn wr dq) osq)):=Below.on hB.out hbq
            generalize Go.Sort.grow (redrawn wr dq) osq=w3 at hbq hbW hb2 ⊢
            clear z4 q0 q1 q2 q3 e0 cA x4 hB hbq
            cases hP:P (idAt gs k)
            · have ei : Hid (inTo (P group) P gs (k + 1) = inTo (P group) P gs k) := (by show _ = _; simp [inTo, hP])
              have ea:Hid (allTo (P group&&hasZ g want) P gs want (k+1)=allTo (P group&&hasZ g want) P gs want k):=(by show _=_;simp [allTo,hP])
              clear hP
              go_wp2
              go_roundw
              case rel=>exact ⟨k+1,by omega,by go_num,by rw [ei.out],by rw [ea.out],hb2⟩
              case measure=>simp [intOf];omega
            · obtain ⟨xl, x0, x1, x2, x3, x4, x5, x6⟩ := HX2.out.below hb2.out
              have e1:w3.cell? ⟨b,off+k*2+1,none⟩=some (.int .i64 (btAt gs k)):=(hbW.out.cell (p:=⟨b,off+k*2+1,none⟩) HBL.out).trans HC1.out
              obtain ⟨t0,t1⟩:=BG.out k hlt
              have ei:Hid (inTo (P group) P gs (k+1)=true):=(by show _=_;simp [inTo,hP])
              cases hA:allTo (P group&&hasZ g want) P gs want k
              · have ea : Hid (allTo (P group && hasZ g want) P gs want (k + 1) = hasZ (btAt gs k) want) := (by show _ = _; simp [allTo, hP, hA])
                clear hP hA
                go_wp2_with (go_at_call 136;refine (sl02Has_int _ _ t0 t1 v0 v1 _).mono ?_;rintro e w3 ⟨rfl,rfl⟩)
                go_roundw
                case rel=>exact ⟨k+1,by omega,by go_num,by rw [ei.out],by rw [ea.out],hb2⟩
                case measure=>simp [intOf];omega
              · have ea : Hid (allTo (P group && hasZ g want) P gs want (k + 1) = true) := (by show _ = _; simp [allTo, hA])
                clear hP hA
                go_wp2
                go_roundw
                case rel=>exact ⟨k+1,by omega,by go_num,by rw [ei.out],by rw [ea.out],hb2⟩
                case measure=>simp [intOf];omega
          · have : k = lg := by omega
            subst this
            have hBB:Hid (Below w.heap.size w wr):=Below.on hW2.out hB.out
            generalize allTo (P group&&hasZ g want) P gs want k=al at hz ⊢
            generalize inTo (P group) P gs k=nn at hz ⊢
            clear x0 x1 x2 x3 x5 x6
            cases al
            · cases nn
              · go_wp2
                go_ret
                exact ⟨ret_intM hz.out.symm,hBB.out⟩
              · go_wp2
                go_ret
                exact ⟨ret_intM hz.out.symm,hBB.out⟩
            · go_wp2
              go_ret
              exact ⟨ret_intM hz.out.symm,hBB.out⟩
    · have hz : Hid (wb = 2) := (by show _ = _; rw [HW2.out, hfn]; rfl)
      have hp:=HA2.out hfn
      clear HA1 HA2 HW2 hfn hin hX0 hY0
      generalize atI us cu'=ii at hp ⊢
      go_wp2
      go_ret
      exact ⟨ret_intM hz.out.symm,hW1.out⟩
  · have hz : Hid (wb = 1) := (by show _ = _; rw [HW.out, ho]; rfl)
    clear HW hin hat
    go_enter Tryz.func135,Tryz.ntmps135
    go_wp2
    go_ret
    exact ⟨ret_intM hz.out.symm,bl2N _ _ _⟩
end Go.Proofs.YtabfdidnjibdeaaGreatDoor
