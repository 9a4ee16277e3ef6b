/- Laid together: Scope, WkI6, WkI7, WkI8. -/
import Derived.Scope
import Derived.ScopeJumps
import Derived.Tactics
import Derived.Test.YtabfdidnjibdeaaGreatDoorBR37
import Derived.WalkMore
namespace Go.Proofs.YtabfdidnjibdeaaGreatDoor
open Go
def labels (J:Nat→Act→World→Prop) (Q:Exit→Act→World→Prop):Exit→Act→World→Prop
  | .goto l,a,w=>J l a w
  | e,a,w=>Q e a w
theorem wp_scope_labels {P:Program}{a:Act}{w:World}{Q:Exit→Act→World→Prop}{c:Go.Code}(J:Nat→Act→World→Prop)(μ:Nat→Act→World→Nat)
    (first:c.wp P (labels J Q) a w)
    (pass:∀ l a w,J l a w→∃ rest,findLabel c l=some rest∧rest.wp P (labels (fun l' a' w'=>J l' a' w'∧μ l' a' w'<μ l a w) Q) a w):(Go.Code.scope c).wp P Q a w:=by
  intro b k cs
  have key:∀ n l a w,μ l a w=n→J l a w→∃ rest,findLabel c l=some rest∧∃ e a' w',Q e a' w'∧Arrives P (lone (b.at a (.code rest :: .inScope c :: k)) cs w) b k cs e a' w':=by
    intro n
    induction n using Nat.strongRecOn with
    | _ n ih =>
      intro l a w hn hJ
      obtain ⟨rest,hf,hp⟩:=pass l a w hJ
      refine ⟨rest,hf,?_⟩
      obtain ⟨e,a₁,w₁,hq,harr⟩:=hp b (.inScope c :: k) cs
      cases e with
      | normal=>exact ⟨.normal,a₁,w₁,hq,Steps.trans harr (.one step_inScope)⟩
      | exit id=>exact ⟨.exit id,a₁,w₁,hq,fun k' hk=>harr k' (by simp [exitTo,hk])⟩
      | goto l' =>
        obtain ⟨hJ',hlt⟩:=hq
        obtain ⟨rest',hf',e₂,a₂,w₂,hq₂,harr₂⟩:=ih _ (by omega) l' a₁ w₁ rfl hJ'
        have hg:gotoIn l' (.inScope c :: k)=some (.code rest' :: .inScope c :: k):=by simp [gotoIn,hf']
        exact ⟨e₂,a₂,w₂,hq₂,.of_steps (harr _ hg) harr₂⟩
      | ret=>exact ⟨_,a₁,w₁,hq,harr⟩
      | panic ch=>exact ⟨_,a₁,w₁,hq,harr⟩
      | outgrown=>exact ⟨_,a₁,w₁,hq,harr⟩
  obtain ⟨e,a₁,w₁,hq,harr⟩:=first b (.inScope c :: k) cs
  cases e with
  | normal=>exact ⟨.normal,a₁,w₁,hq,.head step_scope (Steps.trans harr (.one step_inScope))⟩
  | exit id=>exact ⟨.exit id,a₁,w₁,hq,fun k' hk=>.head step_scope (harr k' (by simp [exitTo,hk]))⟩
  | goto l' =>
    obtain ⟨rest',hf',e₂,a₂,w₂,hq₂,harr₂⟩:=key _ l' a₁ w₁ rfl hq
    have hg:gotoIn l' (.inScope c :: k)=some (.code rest' :: .inScope c :: k):=by simp [gotoIn,hf']
    exact ⟨e₂,a₂,w₂,hq₂,.of_steps (.head step_scope (harr _ hg)) harr₂⟩
  | ret=>exact ⟨_,a₁,w₁,hq,.of_steps (.one step_scope) harr⟩
  | panic ch=>exact ⟨_,a₁,w₁,hq,.of_steps (.one step_scope) harr⟩
  | outgrown=>exact ⟨_,a₁,w₁,hq,.of_steps (.one step_scope) harr⟩
end Go.Proofs.YtabfdidnjibdeaaGreatDoor
namespace Go.Proofs.YtabfdidnjibdeaaGreatDoor
open Go.RowKit Go.PlainAid Go.Deep
set_option linter.unusedVariables false
structure GaW (w:World) (P:Nat) (tb tf len cap:Nat) (now:Int) (u g:Int) (ca:Option Addr) (cl cc:Nat) (r:Bool) (l:List Nd) (lt:Nat→Bool) (sl th:Bool) (q:Int × Wy) (wr:World) (s:Wy) (pa:Option Addr) (pc:Nat) (nd d:Int) (nm:ByteArray) (qs:List ByteArray):Prop where
  box:BoxW wr P [.slice (some ⟨tb,tf,none⟩) len cap,.int .i64 now,.int .i64 u,.int .i64 g,.slice ca cl cc,.bool r,.slice pa qs.length pc,.bool sl,.bool th,.int .i64 (s.lk:Int),.int .i64 nd,.int .i64 d,.string nm]
  row:RowG wr P pa qs
  cap:qs.length≤pc
  but:ButS (some ⟨P,0,none⟩) w wr
  on:WyI l lt th q s
def GaL (l:List Nd) (lt:Nat→Bool) (th:Bool) (lb:Nat) (s:Wy) (nd d:Int) (nm:ByteArray) (qs:List ByteArray):Prop :=
  (lb=1∧qs=s.ps∧nd=s.at_∧d=s.d∧nm=s.nm)∨(lb=0∧s.ps=[]∧qs=s.ps∧nd=s.at_∧d=s.d∧nm=s.nm) ∨
    (lb=2∧∃ (p:ByteArray) (j:Nat),s.ps=p :: qs∧nd=(j:Int)+1∧thB l ((j:Int)+1)=true∧((ndAt l j).k==3)=true∧d=s.at_∧wst l lt th s p qs=if 8≤s.lk then (14,s) else (0,wlk l s j qs))
def JG (w:World) (P:Nat) (tb tf len cap:Nat) (now:Int) (u g:Int) (ca:Option Addr) (cl cc:Nat) (r:Bool) (l:List Nd) (lt:Nat→Bool) (sl th:Bool) (q:Int × Wy) (lb:Nat) (a:Act) (wr:World):Prop:=∃ (s:Wy) (pa:Option Addr) (pc:Nat) (nd d:Int) (nm:ByteArray) (qs:List ByteArray) (v1 v3 u4_ u5_ u6_ u7_ u8_ u9_ u10_ u11_ u12_ u13_ u14_ u15_ u16_ u17_ u18_ u19_ u20_ u21_ u22_ u23_ u24_ u25_ u26_ u27_ u28_ u29_ u30_ u31_ u32_ u33_ u34_ u35_ u36_ u37_ u38_ u39_ u40_ u41_ u42_ u43_ u44_ u45_ u46_ u47_ u48_:Value),Hid (GaW w P tb tf len cap now u g ca cl cc r l lt sl th q wr s pa pc nd d nm qs)∧Hid (GaL l lt th lb s nd d nm qs)∧a={ tmps:=#[.pointer (some ⟨P,0,none⟩),v1,.nilIface,v3,u4_,u5_,u6_,u7_,u8_,u9_,u10_,u11_,u12_,u13_,u14_,u15_,u16_,u17_,u18_,u19_,u20_,u21_,u22_,u23_,u24_,u25_,u26_,u27_,u28_,u29_,u30_,u31_,u32_,u33_,u34_,u35_,u36_,u37_,u38_,u39_,u40_,u41_,u42_,u43_,u44_,u45_,u46_,u47_,u48_],defers:=[] }
def muG (P:Nat) (lb:Nat) (_:Act) (wr:World):Nat:=if lb=0 then 0 else 2*wMi wr P+(if lb=1 then 1 else 0)
structure GaEnd (w:World) (P:Nat) (tb tf len cap:Nat) (now:Int) (u g:Int) (ca:Option Addr) (cl cc:Nat) (r:Bool) (l:List Nd) (sl th:Bool) (q:Int × Wy) (e1 e2 e3 e4:Addr) (e:Ending) (w':World):Prop where
  but:ButS (some ⟨P,0,none⟩) w w'
  bad:(wend l sl q).c≠0→e=.returned (eOf (.iface 289 (.pointer (some e1))) (.iface 289 (.pointer (some e2))) (.iface 289 (.pointer (some e3))) (.iface 289 (.pointer (some e4))) (wend l sl q).c)
  good:(wend l sl q).c=0→e=.returned .nilIface∧∃ pa' n' pc' lk',BoxW w' P [.slice (some ⟨tb,tf,none⟩) len cap,.int .i64 now,.int .i64 u,.int .i64 g,.slice ca cl cc,.bool r,.slice pa' n' pc',.bool sl,.bool th,.int .i64 lk',.int .i64 (wend l sl q).n,.int .i64 (wend l sl q).d,.string (wend l sl q).nm]
theorem wend_c {l:List Nd}{sl:Bool}{c:Int}{s:Wy}(h:c≠0):wend l sl (c,s)=woC c:=by
  have e:(c==0)=false:=by simpa using h
  simp only [wend,e,Bool.false_eq_true,if_false]
theorem gaW_mu {w:World}{P:Nat}{tb tf len cap:Nat}{now u g:Int}{ca:Option Addr}{cl cc:Nat}{r:Bool}{l:List Nd}{lt:Nat→Bool}{sl th:Bool}{q:Int × Wy}{wr:World}{s:Wy}{pa:Option Addr}{pc:Nat}{nd d:Int}{nm:ByteArray}{qs:List ByteArray}(h:GaW w P tb tf len cap now u g ca cl cc r l lt sl th q wr s pa pc nd d nm qs):wMi wr P=(9-s.lk)*1000+qs.length:=by
  rw [wMi_at (h.box.at0 9 _ rfl) (h.box.at0 6 _ rfl)]
  simp
theorem dec_len (ps:List ByteArray):decide ((0:Int)<(ps.length:Int))=!ps.isEmpty:=by
  cases ps with
  | nil=>rfl
  | cons x xs =>
    simp only [List.length_cons,List.isEmpty_cons,Bool.not_false,decide_eq_true_eq]
    omega
set_option maxRecDepth 100000 in
set_option maxHeartbeats 16000000 in
theorem iGoAll_any (wb:World)(P:Nat)(tb tf len cap:Nat)(now:Int)(u g:Int)(ca:Option Addr)(cl cc:Nat)(r:Bool)(cf:Nat→Int)(l:List Nd)(Y:Nat→Na)(t:ByteArray)(pa0:Option Addr)(pc0:Nat)(sl th:Bool)(m:Int)(e1 e2 e3 e4:Addr)(hl:len≤12)(hll:l.length=len)(ht:treeB l now=true)(hask:∀ k,k<len→thB l ((k:Int)+1)=true→Ask (ndAt l k) u g cl cf 1)(hpp:ppC t=0)
    (hE1:wb.cell? ⟨1,0,none⟩=some (.iface 289 (.pointer (some e1)))) (hE2:wb.cell? ⟨2,0,none⟩=some (.iface 289 (.pointer (some e2)))) (hE3:wb.cell? ⟨3,0,none⟩=some (.iface 289 (.pointer (some e3)))) (hE4:wb.cell? ⟨0,0,none⟩=some (.iface 289 (.pointer (some e4))))
    (hm:wb.cell? ⟨4,0,none⟩=some (.int .i64 m)) (htb:tb<wb.heap.size) (hN:∀ i,i<len→N24 wb tb (tf+i*24) (ndAt l i) (Y i)∧NdIn wb (ndAt l i) (Y i)) (hNds:Nds (some ⟨tb,tf,none⟩) len l wb) (hci:Ints ca cl cf wb) (w:World) (hB:Below wb.heap.size wb w) (hPb:wb.heap.size≤P) (hP:BoxW w P [.slice (some ⟨tb,tf,none⟩) len cap,.int .i64 now,.int .i64 u,.int .i64 g,.slice ca cl cc,.bool r,.slice pa0 (pbo t).length pc0,.bool sl,.bool th,.int .i64 ((s0W t).lk:Int),.int .i64 1,.int .i64 1,.string emp]) (hR:RowG w P pa0 (pbo t)) (hpc0:(pbo t).length≤pc0) :
    Calls Tryz.prog 42 #[.pointer (some ⟨P,0,none⟩)] w fun e w'=>GaEnd w P tb tf len cap now u g ca cl cc r l sl th (wrun l (ltB l u g cl r cf) th (wmu (s0W t)) (s0W t)) e1 e2 e3 e4 e w':=by
  have HW0:Hid (GaW w P tb tf len cap now u g ca cl cc r l (ltB l u g cl r cf) sl th (wrun l (ltB l u g cl r cf) th (wmu (s0W t)) (s0W t)) w (s0W t) pa0 pc0 (s0W t).at_ (s0W t).d (s0W t).nm (s0W t).ps):=⟨hP,hR,hpc0,ButS.refl _ _,wyI_start ht hpp⟩
  generalize wrun l (ltB l u g cl r cf) th (wmu (s0W t)) (s0W t)=q at HW0 ⊢
  have HPw:Hid (P<w.heap.size∧wb.heap.size≤P∧len≤12∧l.length=len∧tb<wb.heap.size):=⟨hP.lt,hPb,hl,hll,htb⟩
  have HBw:Hid (∀ wr,ButS (some ⟨P,0,none⟩) w wr→Below wb.heap.size wb wr):=(fun wr h=>Below.trans hB (h.below _ hB.size (fun A e=>by cases e;exact hPb)))
  have HT:Hid (treeB l now=true):=ht
  have HE:Hid (∀ wr,Below wb.heap.size wb wr→wr.cell? ⟨1,0,none⟩=some (.iface 289 (.pointer (some e1)))∧wr.cell? ⟨0,0,none⟩=some (.iface 289 (.pointer (some e4)))):=(fun wr hb=>⟨(hb.cell (p:=⟨_,0,none⟩) (block_lt_of_cell hE1)).trans hE1,(hb.cell (p:=⟨_,0,none⟩) (block_lt_of_cell hE4)).trans hE4⟩)
  have HNo:Hid (∀ (p:ByteArray) (ps:List ByteArray) (pa:Option Addr) (pc:Nat) (lk n d:Int) (nm:ByteArray) (wr:World),diB l n=false→Below wb.heap.size wb wr→BoxW wr P [.slice (some ⟨tb,tf,none⟩) len cap,.int .i64 now,.int .i64 u,.int .i64 g,.slice ca cl cc,.bool r,.slice pa (ps.length+1) pc,.bool sl,.bool th,.int .i64 lk,.int .i64 n,.int .i64 d,.string nm]→Calls Tryz.prog 81 #[.pointer (some ⟨P,0,none⟩)] wr fun e w'=>e=.returned (.iface 289 (.pointer (some e1)))∧Below wr.heap.size wr w'):=(fun p ps pa pc lk n d nm wr hd hb hbx=>iGoPart_no wb P tb tf len cap now u g ca cl cc r l ps pa pc sl th lk n d nm (.iface 289 (.pointer (some e1))) hl hd hE1 hNds wr hb hPb hbx)
  have HDi:Hid (∀ (k:Nat) (p:ByteArray) (ps:List ByteArray) (b off pc:Nat) (lk d:Int) (nm:ByteArray) (wr:World),diB l ((k:Int)+1)=true→ps.length≤1000→ps.length+1≤pc→Below wb.heap.size wb wr→BoxW wr P [.slice (some ⟨tb,tf,none⟩) len cap,.int .i64 now,.int .i64 u,.int .i64 g,.slice ca cl cc,.bool r,.slice (some ⟨b,off,none⟩) (ps.length+1) pc,.bool sl,.bool th,.int .i64 lk,.int .i64 ((k:Int)+1),.int .i64 d,.string nm]→RowB wr b off (p :: ps)→b≠P→Calls Tryz.prog 81 #[.pointer (some ⟨P,0,none⟩)] wr fun e w'=>GpEnd wr P tb tf len cap now u g ca cl cc r ps sl th lk (ndAt l k) k p (ltB l u g cl r cf k) (.iface 289 (.pointer (some e2))) (.iface 289 (.pointer (some e3))) e w'):=(fun k p ps b off pc lk d nm wr hd h1 h2 hb hbx hrow hbP=>by
    have hth:=diB_th hd
    have hkl:k<len:=by
      have h:=inR_iff.1 (thB_num hth)
      omega
    have hup:(ndAt l k).up≠0:=fun e0=>by
      obtain ⟨j,hj,_⟩:=th_num (diB_th (dir_facts ht hd).up)
      omega
    have hk1:((ndAt l k).k==1)=true:=by
      have h:=hd
      rw [diB_in hth] at h
      exact h
    have hns:=nsB_T (dir_facts ht hd).ns
    exact iGoPart_dir wb P tb tf len cap now u g ca cl cc r cf l Y k p ps b off pc sl th lk d nm (.iface 289 (.pointer (some e2))) (.iface 289 (.pointer (some e3))) hl hll hkl h1 h2 hk1 hup hns.1 hns.2 (hask k hkl hth) hE2 hE3 htb (hN k hkl).1 (hN k hkl).2 hci wr hb hPb hbx hrow hbP)
  have HNx:Hid (∀ wr,Below wb.heap.size wb wr→∀ i,i<len→N24 wr tb (tf+i*24) (ndAt l i) (Y i)):=(fun wr hb i hi=>range_below (hN i hi).1 htb hb)
  have HFo:Hid (∀ (j:Nat) (ps:List ByteArray) (pa:Option Addr) (pc:Nat) (lk d:Int) (nm:ByteArray) (wr:World),thB l ((j:Int)+1)=true→((ndAt l j).k==3)=true→ps.length≤1000→Below wb.heap.size wb wr→BoxW wr P [.slice (some ⟨tb,tf,none⟩) len cap,.int .i64 now,.int .i64 u,.int .i64 g,.slice ca cl cc,.bool r,.slice pa ps.length pc,.bool sl,.bool th,.int .i64 lk,.int .i64 ((j:Int)+1),.int .i64 d,.string nm]→RowG wr P pa ps→Calls Tryz.prog 83 #[.pointer (some ⟨P,0,none⟩)] wr fun e w'=>e=.returned (.tuple #[])∧(∃ a5 c5,BoxW w' P [.slice (some ⟨tb,tf,none⟩) len cap,.int .i64 now,.int .i64 u,.int .i64 g,.slice ca cl cc,.bool r,.slice a5 (pbo (ndAt l j).bo++ps).length c5,.bool sl,.bool th,.int .i64 lk,.int .i64 (if firB (ndAt l j).bo then 1 else d),.int .i64 (if firB (ndAt l j).bo then 1 else d),.string ⟨#[]⟩]∧RowG w' P a5 (pbo (ndAt l j).bo++ps)∧(pbo (ndAt l j).bo++ps).length≤c5)∧ButS (some ⟨P,0,none⟩) wr w'):=(fun j ps pa pc lk d nm wr hth hk3 h1 hb hbx hrow=>by
    have hjl:j<len:=by
      have h:=inR_iff.1 (thB_num hth)
      omega
    exact iFollow_any wb P tb tf len cap now u g ca cl cc r l Y j ps pa pc sl th lk d nm m hl hjl h1 (link_body ht hth hk3) hm htb (fun i hi=>(hN i hi).1) wr hb hPb hbx hrow)
  clear hP hR hpc0 hE1 hE2 hE3 hE4 hm htb hN hNds hci hB hPb hask hpp hl hll ht
  go_enter Tryz.func42,Tryz.ntmps42
  go_wp2_with fail
  refine wp_scope_labels (JG w P tb tf len cap now u g ca cl cc r l (ltB l u g cl r cf) sl th q) (muG P) ?first ?pass
  case first =>
    have hW:=HW0
    clear HW0
    generalize s0W t=s at hW
    generalize pa0=pa at hW
    generalize pc0=pc at hW
    go_wp2_with fail
    go_step3
    have HBr:Hid (Below wb.heap.size wb w):=HBw.out w hW.out.but
    have p6:w.cell? ⟨P,6,none⟩=some (.slice pa s.ps.length pc):=hW.out.box.at0 6 _ rfl
    by_cases hnil:s.ps=[]
    · have p6n : w.cell? ⟨P, 6, none⟩ = some (.slice pa 0 pc) := by rw [p6, hnil]; rfl
      clear p6 HNo HDi HFo
      go_wp2
      go_step3
      exact ⟨s,pa,pc,_,_,_,s.ps,_,_,_,_,_,_,_,_,_,_,_,_,_,_,_,_,_,_,_,_,_,_,_,_,_,_,_,_,_,_,_,_,_,_,_,_,_,_,_,_,_,_,_,_,_,_,_,hW,.inr (.inl ⟨rfl,hnil,rfl,rfl,rfl,rfl⟩),rfl⟩
    obtain ⟨p,ps,hps⟩:∃ p ps,s.ps=p :: ps:=(by
      cases hh:s.ps with
      | nil=>exact absurd hh hnil
      | cons p ps=>exact ⟨p,ps,rfl⟩)
    have hok:=hW.out.on.ok
    have hat:s.at_≠0:=fun e=>by have:=hok.z e;rw [hps] at this;cases this
    have hth:=hok.th hat
    obtain ⟨k,hk,hkl⟩:=th_num hth
    have hls:s.ps.length=ps.length+1:=by rw [hps];rfl
    have hle1:ps.length≤1000:=by have h1:=hok.len;have h2:=hok.lk;rw [hls] at h1;omega
    have hpos:(0:Int)<((ps.length+1:Nat):Int):=by omega
    rw [hls] at p6
    have hbox:=hW.out.box
    rw [hls] at hbox
    have hnx:=wyI_next HT.out hW.out.on hps
    have hcap:=hW.out.cap
    rw [hls] at hcap
    cases hd:diB l s.at_
    · have HC : Hid (Calls Tryz.prog 81 #[.pointer (some ⟨P, 0, none⟩)] w fun e w' => e = .returned (.iface 289 (.pointer (some e1))) ∧ Below w.heap.size w w') := HNo.out p ps pa pc s.lk s.at_ s.d s.nm w hd HBr.out hbox
      have hw12:wst l (ltB l u g cl r cf) th s p ps=(12,s):=(by
        have hkd:((ndAt l k).k==1)=false:=by
          have h:=hd
          rw [hk,diB_in (by rw [←hk];exact hth)] at h
          exact h
        unfold wst
        rw [hk,at_succ,hkd]
        rfl)
      have HQ:Hid (q=(12,s)):=(by show _=_;rw [hnx.2 (by rw [hw12];show (12:Int)≠0;decide),hw12])
      clear hnx hw12 HNo HDi HFo hok hbox hcap
      go_wp2_with (go_at_call 81;refine HC.out.mono ?_;rintro e w2 ⟨rfl,hb2⟩;have HU2:Hid (ButS (some ⟨P,0,none⟩) w w2):=hW.out.but.on hb2;clear hb2)
      simp only [labels]
      go_ret
      refine ⟨HU2.out,fun _=>?_,fun h=>?_⟩
      · rw [HQ.out, wend_c (by decide)]
        rfl
      · rw [HQ.out, wend_c (by decide)] at h
        exact absurd h (by decide)
    have hd':diB l ((k:Int)+1)=true:=by rw [←hk];exact hd
    obtain ⟨b,off,hpa,hbP,hrow⟩:=hW.out.row (by rw [hls];omega)
    rw [hps] at hrow
    rw [hpa,hk] at hbox
    rw [hpa] at p6
    have HC:Hid (Calls Tryz.prog 81 #[.pointer (some ⟨P,0,none⟩)] w fun e w'=>GpEnd w P tb tf len cap now u g ca cl cc r ps sl th s.lk (ndAt l k) k p (ltB l u g cl r cf k) (.iface 289 (.pointer (some e2))) (.iface 289 (.pointer (some e3))) e w'):=HDi.out k p ps b off pc s.lk s.d s.nm w hd' hle1 hcap HBr.out hbox hrow hbP
    have HM:Hid (ltB l u g cl r cf k=true→GpM l th s ps (gp3 (ndAt l k) k p) (wst l (ltB l u g cl r cf) th s p ps)):=(fun hlt=>gp_math HT.out hk hd' hlt)
    have hw11:ltB l u g cl r cf k=false→wst l (ltB l u g cl r cf) th s p ps=(11,s):=(fun hlt=>by
      have hkd:((ndAt l k).k==1)=true:=by
        have h:=hd'
        rw [diB_in (diB_th hd')] at h
        exact h
      have hkn:((k:Int)+1-1).toNat=k:=by omega
      unfold wst
      rw [hk,hkn,hkd,hlt]
      rfl)
    have HX:Hid _:=hnx
    have H11:Hid _:=hw11
    have HLk:Hid (s.lk≤8):=hok.lk
    clear hnx hw11 HNo HDi HFo hok hbox hcap hrow hbP hd' hd
    go_wp2_with fail
    refine HC.out.mono ?_
    rintro e w2 hG
    have HU2:Hid (ButS (some ⟨P,0,none⟩) w w2):=hW.out.but.trans hG.but
    have HB2:Hid (Below wb.heap.size wb w2):=HBw.out w2 HU2.out
    cases hlt:ltB l u g cl r cf k
    · have he := hG.no hlt
      subst he
      have HQ:Hid (q=(11,s)):=(by show _=_;rw [HX.out.2 (by rw [H11.out hlt];show (11:Int)≠0;decide),H11.out hlt])
      clear hG HM HC H11 HX p6
      go_wp2
      simp only [labels]
      go_ret
      refine ⟨HU2.out,fun _=>?_,fun h=>?_⟩
      · rw [HQ.out, wend_c (by decide)]
        rfl
      · rw [HQ.out, wend_c (by decide)] at h
        exact absurd h (by decide)
    have HM2:=HM.out hlt
    have hdec:=dec_len ps
    cases hg:((gp3 (ndAt l k) k p).1==0&&!ps.isEmpty)
    · obtain ⟨he, pa', pc', hbx, hrow2, hcap2⟩ := hG.yes hlt hg
      subst he
      have HLe:Hid (Calls Tryz.prog 82 #[.pointer (some ⟨P,0,none⟩)] w2 fun e w'=>e=.returned (.bool (kndB l (gp3 (ndAt l k) k p).1==3&&(th||decide ((0:Int)<(ps.length:Int)))))∧Below w2.heap.size w2 w'):=iLeads_any P tb tf len cap now u g ca cl cc r pa' ps.length pc' sl th s.lk _ _ _ l Y HPw.out.2.2.1 HPw.out.2.2.2.1 hle1 w2 (Nat.lt_of_lt_of_le HPw.out.2.2.2.2 HB2.out.size) hbx (HNx.out w2 HB2.out)
      rw [hdec] at HLe
      have HBx:Hid _:=hbx
      have HRx:Hid (RowG w2 P pa' ps∧ps.length≤pc'):=⟨hrow2,hcap2⟩
      cases hle:(kndB l (gp3 (ndAt l k) k p).1==3&&(th||!ps.isEmpty))
      · have hq := HM2.on hg hle
        have hx1:=HX.out.1 (by rw [hq])
        rw [hq] at hx1
        rw [hle] at HLe
        have HI:Hid _:=hx1.1
        clear hx1 hq hG HM HC H11 HX HM2 hbx hrow2 hcap2 hle hg
        generalize gp3 (ndAt l k) k p=g3 at HBx HI HLe
        go_wp2_with fail
        refine HLe.out.mono ?_
        rintro e w3 ⟨rfl,hb3⟩
        have HW3:Hid (GaW w P tb tf len cap now u g ca cl cc r l (ltB l u g cl r cf) sl th q w3 ⟨g3.1,g3.2.1,g3.2.2,ps,s.lk⟩ pa' pc' g3.1 g3.2.1 g3.2.2 ps):=⟨HBx.out.below hb3,HRx.out.1.but (ButS.of hb3),HRx.out.2,HU2.out.on hb3,HI.out⟩
        have hmv:=gaW_mu HW3.out
        have HMv:Hid (wMi w3 P=(9-s.lk)*1000+ps.length):=hmv
        clear hmv
        clear hb3 HBx HI HLe p6
        go_wp2
        go_step3
        exact ⟨⟨g3.1,g3.2.1,g3.2.2,ps,s.lk⟩,pa',pc',_,_,_,ps,_,_,_,_,_,_,_,_,_,_,_,_,_,_,_,_,_,_,_,_,_,_,_,_,_,_,_,_,_,_,_,_,_,_,_,_,_,_,_,_,_,_,_,_,_,_,_,HW3,.inl ⟨rfl,rfl,rfl,rfl,rfl⟩,rfl⟩
      · obtain ⟨j, hj, hth3, hk33, hd3, hq⟩ := HM2.link hle
        rw [hle] at HLe
        have HL3:Hid (GaL l (ltB l u g cl r cf) th 2 s (gp3 (ndAt l k) k p).1 (gp3 (ndAt l k) k p).2.1 (gp3 (ndAt l k) k p).2.2 ps):=.inr (.inr ⟨rfl,p,j,hps,hj,hth3,hk33,hd3,hq⟩)
        clear hj hth3 hk33 hd3 hq hG HM HC H11 HX HM2 hbx hrow2 hcap2 hle hg
        generalize gp3 (ndAt l k) k p=g3 at HBx HLe HL3
        go_wp2_with fail
        refine HLe.out.mono ?_
        rintro e w3 ⟨rfl,hb3⟩
        have HW3:Hid (GaW w P tb tf len cap now u g ca cl cc r l (ltB l u g cl r cf) sl th q w3 s pa' pc' g3.1 g3.2.1 g3.2.2 ps):=⟨HBx.out.below hb3,HRx.out.1.but (ButS.of hb3),HRx.out.2,HU2.out.on hb3,hW.out.on⟩
        have hmv:=gaW_mu HW3.out
        have HMv:Hid (wMi w3 P=(9-s.lk)*1000+ps.length):=hmv
        clear hmv
        clear hb3 HBx HLe p6
        go_wp2
        go_step3
        exact ⟨s,pa',pc',_,_,_,ps,_,_,_,_,_,_,_,_,_,_,_,_,_,_,_,_,_,_,_,_,_,_,_,_,_,_,_,_,_,_,_,_,_,_,_,_,_,_,_,_,_,_,_,_,_,_,_,HW3,HL3,rfl⟩
    · have he := hG.gone hlt hg
      subst he
      have hq:=HM2.gone hg
      have HQ:Hid (q=(6,s)):=(by show _=_;rw [HX.out.2 (by rw [hq];show (6:Int)≠0;decide),hq])
      clear hG HM HC H11 HX p6 HM2 hq hg
      go_wp2
      simp only [labels]
      go_ret
      refine ⟨HU2.out,fun _=>?_,fun h=>?_⟩
      · rw [HQ.out, wend_c (by decide)]
        rfl
      · rw [HQ.out, wend_c (by decide)] at h
        exact absurd h (by decide)
  case pass =>
    clear HW0
    intro lb a' wr hJ
    obtain ⟨s,pa,pc,nd,d,nm,qs,v1,v3,u4_,u5_,u6_,u7_,u8_,u9_,u10_,u11_,u12_,u13_,u14_,u15_,u16_,u17_,u18_,u19_,u20_,u21_,u22_,u23_,u24_,u25_,u26_,u27_,u28_,u29_,u30_,u31_,u32_,u33_,u34_,u35_,u36_,u37_,u38_,u39_,u40_,u41_,u42_,u43_,u44_,u45_,u46_,u47_,u48_,hW,hL,rfl⟩:=hJ
    have HMu:Hid (wMi wr P=(9-s.lk)*1000+qs.length):=gaW_mu hW.out
    rcases hL.out with ⟨rfl,rfl,rfl,rfl,rfl⟩ | ⟨rfl,hz,rfl,rfl,rfl,rfl⟩ | ⟨rfl,p,j,hps,rfl,hth,hk3,rfl,hws⟩
    · clear hL
      refine ⟨_,rfl,?_⟩
      have HBr:Hid (Below wb.heap.size wb wr):=HBw.out wr hW.out.but
      have p6:wr.cell? ⟨P,6,none⟩=some (.slice pa s.ps.length pc):=hW.out.box.at0 6 _ rfl
      by_cases hnil:s.ps=[]
      · have p6n : wr.cell? ⟨P, 6, none⟩ = some (.slice pa 0 pc) := by rw [p6, hnil]; rfl
        clear p6 HNo HDi HFo
        go_wp2
        go_step3
        exact ⟨⟨s,pa,pc,_,_,_,s.ps,_,_,_,_,_,_,_,_,_,_,_,_,_,_,_,_,_,_,_,_,_,_,_,_,_,_,_,_,_,_,_,_,_,_,_,_,_,_,_,_,_,_,_,_,_,_,_,hW,.inr (.inl ⟨rfl,hnil,rfl,rfl,rfl,rfl⟩),rfl⟩,(by simp [muG])⟩
      obtain ⟨p,ps,hps⟩:∃ p ps,s.ps=p :: ps:=(by
        cases hh:s.ps with
        | nil=>exact absurd hh hnil
        | cons p ps=>exact ⟨p,ps,rfl⟩)
      have hok:=hW.out.on.ok
      have hat:s.at_≠0:=fun e=>by have:=hok.z e;rw [hps] at this;cases this
      have hth:=hok.th hat
      obtain ⟨k,hk,hkl⟩:=th_num hth
      have hls:s.ps.length=ps.length+1:=by rw [hps];rfl
      have hle1:ps.length≤1000:=by have h1:=hok.len;have h2:=hok.lk;rw [hls] at h1;omega
      have hpos:(0:Int)<((ps.length+1:Nat):Int):=by omega
      rw [hls] at p6
      have hbox:=hW.out.box
      rw [hls] at hbox
      have hnx:=wyI_next HT.out hW.out.on hps
      have hcap:=hW.out.cap
      rw [hls] at hcap
      cases hd:diB l s.at_
      · have HC : Hid (Calls Tryz.prog 81 #[.pointer (some ⟨P, 0, none⟩)] wr fun e w' => e = .returned (.iface 289 (.pointer (some e1))) ∧ Below wr.heap.size wr w') := HNo.out p ps pa pc s.lk s.at_ s.d s.nm wr hd HBr.out hbox
        have hw12:wst l (ltB l u g cl r cf) th s p ps=(12,s):=(by
          have hkd:((ndAt l k).k==1)=false:=by
            have h:=hd
            rw [hk,diB_in (by rw [←hk];exact hth)] at h
            exact h
          unfold wst
          rw [hk,at_succ,hkd]
          rfl)
        have HQ:Hid (q=(12,s)):=(by show _=_;rw [hnx.2 (by rw [hw12];show (12:Int)≠0;decide),hw12])
        clear hnx hw12 HNo HDi HFo hok hbox hcap
        go_wp2_with (go_at_call 81;refine HC.out.mono ?_;rintro e w2 ⟨rfl,hb2⟩;have HU2:Hid (ButS (some ⟨P,0,none⟩) w w2):=hW.out.but.on hb2;clear hb2)
        simp only [labels]
        go_ret
        refine ⟨HU2.out,fun _=>?_,fun h=>?_⟩
        · rw [HQ.out, wend_c (by decide)]
          rfl
        · rw [HQ.out, wend_c (by decide)] at h
          exact absurd h (by decide)
      have hd':diB l ((k:Int)+1)=true:=by rw [←hk];exact hd
      obtain ⟨b,off,hpa,hbP,hrow⟩:=hW.out.row (by rw [hls];omega)
      rw [hps] at hrow
      rw [hpa,hk] at hbox
      rw [hpa] at p6
      have HC:Hid (Calls Tryz.prog 81 #[.pointer (some ⟨P,0,none⟩)] wr fun e w'=>GpEnd wr P tb tf len cap now u g ca cl cc r ps sl th s.lk (ndAt l k) k p (ltB l u g cl r cf k) (.iface 289 (.pointer (some e2))) (.iface 289 (.pointer (some e3))) e w'):=HDi.out k p ps b off pc s.lk s.d s.nm wr hd' hle1 hcap HBr.out hbox hrow hbP
      have HM:Hid (ltB l u g cl r cf k=true→GpM l th s ps (gp3 (ndAt l k) k p) (wst l (ltB l u g cl r cf) th s p ps)):=(fun hlt=>gp_math HT.out hk hd' hlt)
      have hw11:ltB l u g cl r cf k=false→wst l (ltB l u g cl r cf) th s p ps=(11,s):=(fun hlt=>by
        have hkd:((ndAt l k).k==1)=true:=by
          have h:=hd'
          rw [diB_in (diB_th hd')] at h
          exact h
        have hkn:((k:Int)+1-1).toNat=k:=by omega
        unfold wst
        rw [hk,hkn,hkd,hlt]
        rfl)
      have HX:Hid _:=hnx
      have H11:Hid _:=hw11
      have HLk:Hid (s.lk≤8):=hok.lk
      clear hnx hw11 HNo HDi HFo hok hbox hcap hrow hbP hd' hd
      go_wp2_with fail
      refine HC.out.mono ?_
      rintro e w2 hG
      have HU2:Hid (ButS (some ⟨P,0,none⟩) w w2):=hW.out.but.trans hG.but
      have HB2:Hid (Below wb.heap.size wb w2):=HBw.out w2 HU2.out
      cases hlt:ltB l u g cl r cf k
      · have he := hG.no hlt
        subst he
        have HQ:Hid (q=(11,s)):=(by show _=_;rw [HX.out.2 (by rw [H11.out hlt];show (11:Int)≠0;decide),H11.out hlt])
        clear hG HM HC H11 HX p6
        go_wp2
        simp only [labels]
        go_ret
        refine ⟨HU2.out,fun _=>?_,fun h=>?_⟩
        · rw [HQ.out, wend_c (by decide)]
          rfl
        · rw [HQ.out, wend_c (by decide)] at h
          exact absurd h (by decide)
      have HM2:=HM.out hlt
      have hdec:=dec_len ps
      cases hg:((gp3 (ndAt l k) k p).1==0&&!ps.isEmpty)
      · obtain ⟨he, pa', pc', hbx, hrow2, hcap2⟩ := hG.yes hlt hg
        subst he
        have HLe:Hid (Calls Tryz.prog 82 #[.pointer (some ⟨P,0,none⟩)] w2 fun e w'=>e=.returned (.bool (kndB l (gp3 (ndAt l k) k p).1==3&&(th||decide ((0:Int)<(ps.length:Int)))))∧Below w2.heap.size w2 w'):=iLeads_any P tb tf len cap now u g ca cl cc r pa' ps.length pc' sl th s.lk _ _ _ l Y HPw.out.2.2.1 HPw.out.2.2.2.1 hle1 w2 (Nat.lt_of_lt_of_le HPw.out.2.2.2.2 HB2.out.size) hbx (HNx.out w2 HB2.out)
        rw [hdec] at HLe
        have HBx:Hid _:=hbx
        have HRx:Hid (RowG w2 P pa' ps∧ps.length≤pc'):=⟨hrow2,hcap2⟩
        cases hle:(kndB l (gp3 (ndAt l k) k p).1==3&&(th||!ps.isEmpty))
        · have hq := HM2.on hg hle
          have hx1:=HX.out.1 (by rw [hq])
          rw [hq] at hx1
          rw [hle] at HLe
          have HI:Hid _:=hx1.1
          clear hx1 hq hG HM HC H11 HX HM2 hbx hrow2 hcap2 hle hg
          generalize gp3 (ndAt l k) k p=g3 at HBx HI HLe
          go_wp2_with fail
          refine HLe.out.mono ?_
          rintro e w3 ⟨rfl,hb3⟩
          have HW3:Hid (GaW w P tb tf len cap now u g ca cl cc r l (ltB l u g cl r cf) sl th q w3 ⟨g3.1,g3.2.1,g3.2.2,ps,s.lk⟩ pa' pc' g3.1 g3.2.1 g3.2.2 ps):=⟨HBx.out.below hb3,HRx.out.1.but (ButS.of hb3),HRx.out.2,HU2.out.on hb3,HI.out⟩
          have hmv:=gaW_mu HW3.out
          have HMv:Hid (wMi w3 P=(9-s.lk)*1000+ps.length):=hmv
          clear hmv
          clear hb3 HBx HI HLe p6
          go_wp2
          go_step3
          exact ⟨⟨⟨g3.1,g3.2.1,g3.2.2,ps,s.lk⟩,pa',pc',_,_,_,ps,_,_,_,_,_,_,_,_,_,_,_,_,_,_,_,_,_,_,_,_,_,_,_,_,_,_,_,_,_,_,_,_,_,_,_,_,_,_,_,_,_,_,_,_,_,_,_,HW3,.inl ⟨rfl,rfl,rfl,rfl,rfl⟩,rfl⟩,(by have h1:=HMu.out;have h2:=HMv.out;simp only [muG];rw [h1,h2,hls];simp;try omega)⟩
        · obtain ⟨j, hj, hth3, hk33, hd3, hq⟩ := HM2.link hle
          rw [hle] at HLe
          have HL3:Hid (GaL l (ltB l u g cl r cf) th 2 s (gp3 (ndAt l k) k p).1 (gp3 (ndAt l k) k p).2.1 (gp3 (ndAt l k) k p).2.2 ps):=.inr (.inr ⟨rfl,p,j,hps,hj,hth3,hk33,hd3,hq⟩)
          clear hj hth3 hk33 hd3 hq hG HM HC H11 HX HM2 hbx hrow2 hcap2 hle hg
          generalize gp3 (ndAt l k) k p=g3 at HBx HLe HL3
          go_wp2_with fail
          refine HLe.out.mono ?_
          rintro e w3 ⟨rfl,hb3⟩
          have HW3:Hid (GaW w P tb tf len cap now u g ca cl cc r l (ltB l u g cl r cf) sl th q w3 s pa' pc' g3.1 g3.2.1 g3.2.2 ps):=⟨HBx.out.below hb3,HRx.out.1.but (ButS.of hb3),HRx.out.2,HU2.out.on hb3,hW.out.on⟩
          have hmv:=gaW_mu HW3.out
          have HMv:Hid (wMi w3 P=(9-s.lk)*1000+ps.length):=hmv
          clear hmv
          clear hb3 HBx HLe p6
          go_wp2
          go_step3
          exact ⟨⟨s,pa',pc',_,_,_,ps,_,_,_,_,_,_,_,_,_,_,_,_,_,_,_,_,_,_,_,_,_,_,_,_,_,_,_,_,_,_,_,_,_,_,_,_,_,_,_,_,_,_,_,_,_,_,_,HW3,HL3,rfl⟩,(by have h1:=HMu.out;have h2:=HMv.out;simp only [muG];rw [h1,h2,hls];simp;try omega)⟩
      · have he := hG.gone hlt hg
        subst he
        have hq:=HM2.gone hg
        have HQ:Hid (q=(6,s)):=(by show _=_;rw [HX.out.2 (by rw [hq];show (6:Int)≠0;decide),hq])
        clear hG HM HC H11 HX p6 HM2 hq hg
        go_wp2
        simp only [labels]
        go_ret
        refine ⟨HU2.out,fun _=>?_,fun h=>?_⟩
        · rw [HQ.out, wend_c (by decide)]
          rfl
        · rw [HQ.out, wend_c (by decide)] at h
          exact absurd h (by decide)
    · clear hL
      refine ⟨_,rfl,?_⟩
      have hq:=wyI_end hW.out.on hz
      subst hq
      have p7:wr.cell? ⟨P,7,none⟩=some (.bool sl):=hW.out.box.at0 7 _ rfl
      have p10:wr.cell? ⟨P,10,none⟩=some (.int .i64 s.at_):=hW.out.box.at0 10 _ rfl
      have HBr:Hid (Below wb.heap.size wb wr):=HBw.out wr hW.out.but
      have HKi:Hid (Calls Tryz.prog 84 #[.pointer (some ⟨P,0,none⟩)] wr fun e w'=>e=.returned (.int .i64 (kndB l s.at_))∧Below wr.heap.size wr w'):=iKind_any P tb tf len cap now u g ca cl cc r pa s.ps.length pc sl th s.lk s.at_ s.d s.nm l Y HPw.out.2.2.1 HPw.out.2.2.2.1 wr (Nat.lt_of_lt_of_le HPw.out.2.2.2.2 HBr.out.size) hW.out.box (HNx.out wr HBr.out)
      have HE1:Hid (∀ wr,Below wb.heap.size wb wr→wr.cell? ⟨1,0,none⟩=some (.iface 289 (.pointer (some e1)))):=(fun wr hb=>(HE.out wr hb).1)
      clear HNo HDi HFo HE
      cases sl
      · go_wp2
        simp only [labels]
        go_ret
        exact ⟨hW.out.but,fun h=>absurd rfl h,fun _=>⟨rfl,pa,s.ps.length,pc,s.lk,hW.out.box⟩⟩
      by_cases hat:s.at_=0
      · have p10z : wr.cell? ⟨P, 10, none⟩ = some (.int .i64 0) := by rw [p10, hat]
        have hE0:wend l true (0,s)=⟨s.at_,s.d,s.nm,0⟩:=by simp [wend,hat]
        clear p10
        go_wp2
        simp only [labels]
        go_ret
        refine ⟨hW.out.but,fun h=>?_,fun _=>⟨rfl,pa,s.ps.length,pc,s.lk,?_⟩⟩
        · rw [hE0] at h
          exact absurd rfl h
        · rw [hE0]
          exact hW.out.box
      obtain ⟨k,hk,hkl⟩:=th_num (hW.out.on.ok.th hat)
      have hkn:kndB l s.at_=(ndAt l k).k:=by
        have h:=hW.out.on.ok.th hat
        rw [hk] at h ⊢
        exact knd_th h
      have hE0:wend l true (0,s)=if (ndAt l k).k==1 then ⟨s.at_,s.d,s.nm,0⟩ else woC 12:=(by
        have h0:decide (0<(k:Int)+1)=true:=decide_eq_true (by omega)
        simp only [wend,hk,h0,at_succ,Bool.true_and]
        cases ((ndAt l k).k==1)<;>rfl)
      have hatb:(s.at_ != 0)=true:=by simpa using hat
      rw [hkn] at HKi
      cases hk1:((ndAt l k).k==1)
      · have hk1n : ((ndAt l k).k != 1) = true := by rw [bne, hk1]; rfl
        rw [hk1] at hE0
        go_wp2_with (go_at_call 84;refine HKi.out.mono ?_;rintro e w2 ⟨rfl,hb2⟩;have HU2:Hid (ButS (some ⟨P,0,none⟩) w w2):=hW.out.but.on hb2;have e5:=HE1.out w2 (HBw.out w2 HU2.out);clear hb2)
        simp only [labels]
        go_ret
        refine ⟨HU2.out,fun _=>?_,fun h=>?_⟩
        · rw [hE0]
          rfl
        · rw [hE0] at h
          exact absurd h (by show (12:Int)≠0;decide)
      · have hk1n : ((ndAt l k).k != 1) = false := by rw [bne, hk1]; rfl
        rw [hk1] at hE0
        go_wp2_with (go_at_call 84;refine HKi.out.mono ?_;rintro e w2 ⟨rfl,hb2⟩;have HU2:Hid (ButS (some ⟨P,0,none⟩) w w2):=hW.out.but.on hb2;have HX2:Hid _:=hW.out.box.below hb2;clear hb2)
        simp only [labels]
        go_ret
        refine ⟨HU2.out,fun h=>?_,fun _=>⟨rfl,pa,s.ps.length,pc,s.lk,?_⟩⟩
        · rw [hE0] at h
          exact absurd rfl h
        · rw [hE0]
          exact HX2.out
    · clear hL
      refine ⟨_,rfl,?_⟩
      have hlk:=hW.out.on.ok.lk
      have hnx:=wyI_next HT.out hW.out.on hps
      have hlen:=hW.out.on.ok.len
      have hls:s.ps.length=qs.length+1:=by rw [hps];rfl
      have hle1:qs.length≤1000:=by rw [hls] at hlen;omega
      have p9:wr.cell? ⟨P,9,none⟩=some (.int .i64 (s.lk:Int)):=hW.out.box.at0 9 _ rfl
      have fz:=hW.out.box.frz
      have HX9:Hid (BoxW (wr.setCell ⟨P,9,none⟩ (.int .i64 ((s.lk:Int)+1))) P [.slice (some ⟨tb,tf,none⟩) len cap,.int .i64 now,.int .i64 u,.int .i64 g,.slice ca cl cc,.bool r,.slice pa qs.length pc,.bool sl,.bool th,.int .i64 ((s.lk:Int)+1),.int .i64 ((j:Int)+1),.int .i64 s.at_,.string nm]):=hW.out.box.set 9 (by simp) (.int .i64 ((s.lk:Int)+1))
      have HU9:Hid (ButS (some ⟨P,0,none⟩) w (wr.setCell ⟨P,9,none⟩ (.int .i64 ((s.lk:Int)+1)))):=hW.out.but.set
      have HR9:Hid (RowG (wr.setCell ⟨P,9,none⟩ (.int .i64 ((s.lk:Int)+1))) P pa qs):=hW.out.row.but (ButS.refl (some ⟨P,0,none⟩) _).set
      have hlki:(s.lk:Int)≤8:=by omega
      have hlk0:(0:Int)≤(s.lk:Int):=by omega
      clear HNo HDi
      go_upto_region 8 with fail
      generalize (wr.setCell ⟨P,9,none⟩ (.int .i64 ((s.lk:Int)+1)))=w2 at HX9 HU9 HR9 ⊢
      have q9:w2.cell? ⟨P,9,none⟩=some (.int .i64 ((s.lk:Int)+1)):=HX9.out.at0 9 _ rfl
      have HB2:Hid (Below wb.heap.size wb w2):=HBw.out w2 HU9.out
      clear p9 fz
      by_cases h8:8≤s.lk
      · rw [if_pos h8] at hws
        have HQ:Hid (q=(14,s)):=(by show _=_;rw [hnx.2 (by rw [hws];show (14:Int)≠0;decide),hws])
        have e5:=(HE.out w2 HB2.out).2
        have g8:(8:Int)<(s.lk:Int)+1:=by omega
        clear hnx hws HFo HE
        go_wp2
        simp only [labels]
        go_ret
        refine ⟨HU9.out,fun _=>?_,fun h=>?_⟩
        · rw [HQ.out, wend_c (by decide)]
          rfl
        · rw [HQ.out, wend_c (by decide)] at h
          exact absurd h (by decide)
      · rw [if_neg h8] at hws
        have hx1:=hnx.1 (by rw [hws])
        rw [hws] at hx1
        have HI:Hid _:=hx1.1
        have g8:¬ (8:Int)<(s.lk:Int)+1:=by omega
        have HC:Hid _:=HFo.out j qs pa pc ((s.lk:Int)+1) s.at_ nm w2 hth hk3 hle1 HB2.out HX9.out HR9.out
        have hpb:=(signs_len (link_body HT.out hth hk3)).2
        have hpl:=pbo_len (ndAt l j).bo
        clear hnx hws hx1 HFo HE
        go_wp2_with fail
        refine Calls.mono HC.out ?_
        rintro e w3 ⟨rfl,⟨a5,c5,hbx,hrow,hcp⟩,hbu⟩
        have e9:(s.lk:Int)+1=((s.lk+1:Nat):Int):=by omega
        rw [e9] at hbx
        clear e9
        have HW3:Hid (GaW w P tb tf len cap now u g ca cl cc r l (ltB l u g cl r cf) sl th q w3 (wlk l s j qs) a5 c5 (wlk l s j qs).at_ (wlk l s j qs).d (wlk l s j qs).nm (wlk l s j qs).ps):=⟨hbx,hrow,hcp,HU9.out.trans hbu,HI.out⟩
        have hmv:=gaW_mu HW3.out
        have HMv:Hid (wMi w3 P=(9-(s.lk+1))*1000+(pbo (ndAt l j).bo++qs).length):=hmv
        clear hmv
        clear hbx hrow hcp hbu HI HC q9 HX9 HR9
        go_wp2
        go_step3
        exact ⟨⟨wlk l s j qs,a5,c5,_,_,_,_,_,_,_,_,_,_,_,_,_,_,_,_,_,_,_,_,_,_,_,_,_,_,_,_,_,_,_,_,_,_,_,_,_,_,_,_,_,_,_,_,_,_,_,_,_,_,_,HW3,.inl ⟨rfl,rfl,rfl,rfl,rfl⟩,rfl⟩,(by have h1:=HMu.out;have h2:=HMv.out;simp only [muG];rw [h1,h2,List.length_append];simp;omega)⟩
structure Errs (w:World) (e1 e2 e3 e4:Addr):Prop where
  v1:w.cell? ⟨1,0,none⟩=some (.iface 289 (.pointer (some e1)))
  v2:w.cell? ⟨2,0,none⟩=some (.iface 289 (.pointer (some e2)))
  v3:w.cell? ⟨3,0,none⟩=some (.iface 289 (.pointer (some e3)))
  v4:w.cell? ⟨0,0,none⟩=some (.iface 289 (.pointer (some e4)))
  h1:∃ (c:Array Value) (t:TypeId),w.heap[e1.block]?=some (.cells c t (0,0))
  h2:∃ (c:Array Value) (t:TypeId),w.heap[e2.block]?=some (.cells c t (0,0))
  h3:∃ (c:Array Value) (t:TypeId),w.heap[e3.block]?=some (.cells c t (0,0))
  h4:∃ (c:Array Value) (t:TypeId),w.heap[e4.block]?=some (.cells c t (0,0))
  n21:e2≠e1
  n31:e3≠e1
  n32:e3≠e2
  n41:e4≠e1
  n42:e4≠e2
  n43:e4≠e3
set_option maxRecDepth 20000 in
set_option maxHeartbeats 4000000 in
theorem iCode_any (e1 e2 e3 e4:Addr)(c:Int)(hc:c=12∨c=11∨c=6∨c=14)(w:World)(hE:Errs w e1 e2 e3 e4) :
    Calls Tryz.prog 43 #[eOf (.iface 289 (.pointer (some e1))) (.iface 289 (.pointer (some e2))) (.iface 289 (.pointer (some e3))) (.iface 289 (.pointer (some e4))) c] w fun e w'=>e=.returned (.int .i64 c)∧w'=w:=by
  have v1:=hE.v1
  obtain ⟨c1,t1,b1⟩:=hE.h1
  have v2:=hE.v2
  obtain ⟨c2,t2,b2⟩:=hE.h2
  have v3:=hE.v3
  obtain ⟨c3,t3,b3⟩:=hE.h3
  have v4:=hE.v4
  obtain ⟨c4,t4,b4⟩:=hE.h4
  rcases hc with rfl | rfl | rfl | rfl
  · have n0 := hE
    clear hE
    show Calls Tryz.prog 43 #[(.iface 289 (.pointer (some e1)))] w _
    clear n0
    go_enter Tryz.func43,Tryz.ntmps43
    go_wp2_with fail
    refine Calls.mono (eIs_same e1 _) ?_
    rintro e w2 ⟨rfl,hw⟩
    subst hw
    go_wp2
    go_ret
    exact ⟨rfl,rfl⟩
  · have n0 := hE
    clear hE
    show Calls Tryz.prog 43 #[(.iface 289 (.pointer (some e2)))] w _
    have o1:=eIs_other e2 e1 c2 c1 t2 t1 w n0.n21 b2 b1
    have O1:Hid _:=o1
    clear o1
    clear n0
    go_enter Tryz.func43,Tryz.ntmps43
    go_wp2_with fail
    refine Calls.mono O1.out ?_
    rintro e w2 ⟨rfl,hw⟩
    subst hw
    go_wp2_with fail
    refine Calls.mono (eIs_same e2 _) ?_
    rintro e w2 ⟨rfl,hw⟩
    subst hw
    go_wp2
    go_ret
    exact ⟨rfl,rfl⟩
  · have n0 := hE
    clear hE
    show Calls Tryz.prog 43 #[(.iface 289 (.pointer (some e3)))] w _
    have o1:=eIs_other e3 e1 c3 c1 t3 t1 w n0.n31 b3 b1
    have O1:Hid _:=o1
    clear o1
    have o2:=eIs_other e3 e2 c3 c2 t3 t2 w n0.n32 b3 b2
    have O2:Hid _:=o2
    clear o2
    clear n0
    go_enter Tryz.func43,Tryz.ntmps43
    go_wp2_with fail
    refine Calls.mono O1.out ?_
    rintro e w2 ⟨rfl,hw⟩
    subst hw
    go_wp2_with fail
    refine Calls.mono O2.out ?_
    rintro e w2 ⟨rfl,hw⟩
    subst hw
    go_wp2_with fail
    refine Calls.mono (eIs_same e3 _) ?_
    rintro e w2 ⟨rfl,hw⟩
    subst hw
    go_wp2
    go_ret
    exact ⟨rfl,rfl⟩
  · have n0 := hE
    clear hE
    show Calls Tryz.prog 43 #[(.iface 289 (.pointer (some e4)))] w _
    have o1:=eIs_other e4 e1 c4 c1 t4 t1 w n0.n41 b4 b1
    have O1:Hid _:=o1
    clear o1
    have o2:=eIs_other e4 e2 c4 c2 t4 t2 w n0.n42 b4 b2
    have O2:Hid _:=o2
    clear o2
    have o3:=eIs_other e4 e3 c4 c3 t4 t3 w n0.n43 b4 b3
    have O3:Hid _:=o3
    clear o3
    clear n0
    go_enter Tryz.func43,Tryz.ntmps43
    go_wp2_with fail
    refine Calls.mono O1.out ?_
    rintro e w2 ⟨rfl,hw⟩
    subst hw
    go_wp2_with fail
    refine Calls.mono O2.out ?_
    rintro e w2 ⟨rfl,hw⟩
    subst hw
    go_wp2_with fail
    refine Calls.mono O3.out ?_
    rintro e w2 ⟨rfl,hw⟩
    subst hw
    go_wp2_with fail
    refine Calls.mono (eIs_same e4 _) ?_
    rintro e w2 ⟨rfl,hw⟩
    subst hw
    go_wp2
    go_ret
    exact ⟨rfl,rfl⟩
theorem Errs.below {w w':World}{e1 e2 e3 e4:Addr}(h:Errs w e1 e2 e3 e4)(hb:Below w.heap.size w w'):Errs w' e1 e2 e3 e4:=by
  obtain ⟨c1,t1,b1⟩:=h.h1
  obtain ⟨c2,t2,b2⟩:=h.h2
  obtain ⟨c3,t3,b3⟩:=h.h3
  obtain ⟨c4,t4,b4⟩:=h.h4
  have k:∀ {i:Nat} {x},w.heap[i]?=some x→w'.heap[i]?=some x:=fun e=>(hb.block _ (Array.getElem?_eq_some_iff.1 e).1).trans e
  exact ⟨(hb.cell (p:=⟨_,0,none⟩) (block_lt_of_cell h.v1)).trans h.v1,(hb.cell (p:=⟨_,0,none⟩) (block_lt_of_cell h.v2)).trans h.v2,(hb.cell (p:=⟨_,0,none⟩) (block_lt_of_cell h.v3)).trans h.v3,(hb.cell (p:=⟨_,0,none⟩) (block_lt_of_cell h.v4)).trans h.v4,⟨c1,t1,k b1⟩,⟨c2,t2,k b2⟩,⟨c3,t3,k b3⟩,⟨c4,t4,k b4⟩,h.n21,h.n31,h.n32,h.n41,h.n42,h.n43⟩
def CodesW (c:Int):Prop:=c=0∨c=12∨c=11∨c=6∨c=14
theorem went_code (l:List Nd)(fs:Bool)(s:Wy)(p:ByteArray)(ps:List ByteArray)(n:Int):CodesW (went l fs s p ps n).1:=by
  unfold went CodesW
  repeat' split
  all_goals simp
theorem wst_code (l:List Nd)(lt:Nat→Bool)(fs:Bool)(s:Wy)(p:ByteArray)(ps:List ByteArray):CodesW (wst l lt fs s p ps).1:=by
  unfold wst
  split
  · split
    · split
      · exact .inl rfl
      · split
        · exact .inl rfl
        · exact went_code _ _ _ _ _ _
    · exact .inr (.inr (.inl rfl))
  · exact .inr (.inl rfl)
theorem wrun_code {l:List Nd}{lt:Nat→Bool}{fs:Bool}:∀ (f:Nat) (s:Wy),CodesW (wrun l lt fs f s).1
  | 0,_=>.inl rfl
  | f+1,s=>by
    simp only [wrun]
    split
    · exact .inl rfl
    · split
      · exact wrun_code f _
      · exact wst_code _ _ _ _ _ _
theorem wend_code {l:List Nd}{sl:Bool}{q:Int × Wy}(h:CodesW q.1)(hz:(wend l sl q).c≠0):(wend l sl q).c=12∨(wend l sl q).c=11∨(wend l sl q).c=6∨(wend l sl q).c=14:=by
  rcases h with h | h
  · have e : (q.1 == 0) = true := by rw [h]; rfl
    simp only [wend,e,if_true] at hz ⊢
    split at hz
    · rename_i h2
      simp only [h2,if_true]
      exact .inl rfl
    · exact absurd rfl hz
  · have e : (q.1 == 0) = false := by rcases h with h | h | h | h <;> rw [h] <;> rfl
    simp only [wend,e,Bool.false_eq_true,if_false]
    exact h
theorem wend_bad {l:List Nd}{sl:Bool}{q:Int × Wy}(hz:(wend l sl q).c≠0):wend l sl q=woC (wend l sl q).c:=by
  unfold wend at hz ⊢
  split
  · rename_i h1
    rw [if_pos h1] at hz
    split
    · rfl
    · rename_i h2
      rw [if_neg h2] at hz
      exact absurd rfl hz
  · rfl
theorem eOf_at {EE:TypeId}(e1 e2 e3 e4:Addr)(c:Int):∃ a,eOf (.iface EE (.pointer (some e1))) (.iface EE (.pointer (some e2))) (.iface EE (.pointer (some e3))) (.iface EE (.pointer (some e4))) c=.iface EE (.pointer (some a)):=by
  unfold eOf
  repeat' split
  all_goals exact ⟨_,rfl⟩
set_option maxRecDepth 20000 in
set_option maxHeartbeats 16000000 in
theorem iWalk_ok (tb tf len cap:Nat)(l:List Nd)(Y:Nat→Na)(now:Int)(u g:Int)(ca:Option Addr)(cl cc:Nat)(r:Bool)(cf:Nat→Int)(s:ByteArray)(fo:Bool)(m:Int)(e1 e2 e3 e4:Addr)(hl:len≤12)(hll:l.length=len)(ht:treeB l now=true)(hcr:credB u g cl cf=true)(hf:∀ i,i<len→NdFit 1048576 (ndAt l i))(hs:s.size≤8000)(w:World)(htb:tb<w.heap.size)(hN:∀ i,i<len→N24 w tb (tf+i*24) (ndAt l i) (Y i)∧NdIn w (ndAt l i) (Y i))(hi:Nds (some ⟨tb,tf,none⟩) len l w)(hci:Ints ca cl cf w)(hmx:w.cell? ⟨4,0,none⟩=some (.int .i64 m))(hE:Errs w e1 e2 e3 e4) :
    Calls Tryz.prog 13 #[.agg #[.slice (some ⟨tb,tf,none⟩) len cap,.int .i64 now],.agg #[.int .i64 u,.int .i64 g,.slice ca cl cc,.bool r],.string s,.bool fo] w fun e w'=>e=.returned (woV (wkO l (ltB l u g cl r cf) fo s))∧Below w.heap.size w w':=by
  have hmz:=block_lt_of_cell hmx
  have HT:Hid (∀ w',Below w.heap.size w w'→Calls Tryz.prog 38 #[.agg #[.slice (some ⟨tb,tf,none⟩) len cap,.int .i64 now]] w' fun e w''=>e=.returned (.bool true)∧Below w'.heap.size w' w''):=(fun w' hb=>by
    have h:=iTree_any (some ⟨tb,tf,none⟩) len cap l now (by omega) hf w' (hi.below hb)
    rw [tree_same,ht] at h
    exact h)
  have HCr:Hid (∀ w',Below w.heap.size w w'→Calls Tryz.prog 39 #[.agg #[.int .i64 u,.int .i64 g,.slice ca cl cc,.bool r]] w' fun e w''=>e=.returned (.bool true)∧Below w'.heap.size w' w''):=(fun w' hb=>by
    have h:=iCredRight_any u g ca cl cc r cf w' (hci.below hb)
    rw [hcr] at h
    exact h)
  have HPp:Hid (∀ w',Below w.heap.size w w'→Calls Tryz.prog 40 #[.string s] w' (PpEnd w' s)):=(fun w' hb=>iPathParts_any s m (by omega) w' ((hb.cell (p:=⟨_,0,none⟩) hmz).trans hmx))
  have HCo:Hid (∀ (c:Int),(c=12∨c=11∨c=6∨c=14)→∀ w',Below w.heap.size w w'→Calls Tryz.prog 43 #[eOf (.iface 289 (.pointer (some e1))) (.iface 289 (.pointer (some e2))) (.iface 289 (.pointer (some e3))) (.iface 289 (.pointer (some e4))) c] w' fun e w''=>e=.returned (.int .i64 c)∧w''=w'):=(fun c hc w' hb=>iCode_any e1 e2 e3 e4 c hc w' (hE.below hb))
  have HGo:Hid (ppC s=0→∀ (P:Nat) (qa:Option Addr) (qc:Nat) (th:Bool) (w':World),Below w.heap.size w w'→w.heap.size≤P→BoxW w' P [.slice (some ⟨tb,tf,none⟩) len cap,.int .i64 now,.int .i64 u,.int .i64 g,.slice ca cl cc,.bool r,.slice qa (pbo s).length qc,.bool (lasB s),.bool th,.int .i64 0,.int .i64 1,.int .i64 1,.string ⟨#[]⟩]→RowG w' P qa (pbo s)→(pbo s).length≤qc→Calls Tryz.prog 42 #[.pointer (some ⟨P,0,none⟩)] w' fun e w''=>GaEnd w' P tb tf len cap now u g ca cl cc r l (lasB s) th (wrun l (ltB l u g cl r cf) th (wmu (s0W s)) (s0W s)) e1 e2 e3 e4 e w''):=(fun hpp P qa qc th w' hb hP hbx hrow hqc=>iGoAll_any w P tb tf len cap now u g ca cl cc r cf l Y s qa qc (lasB s) th m e1 e2 e3 e4 hl hll ht (fun k hk hth=>ask_node (node_is ht hth) hcr rfl) hpp hE.v1 hE.v2 hE.v3 hE.v4 hmx htb hN hi hci w' hb hP hbx hrow hqc)
  have HB:Hid (Below w.heap.size w (((w.alloc (.cells #[.slice (some ⟨tb,tf,none⟩) len cap,.int .i64 now] 35)).alloc (.cells #[.int .i64 u,.int .i64 g,.slice ca cl cc,.bool r] 37)).alloc (.cells #[.int .i64 0,.int .i64 0,.string ⟨#[]⟩,.int .i64 0] 31))):=(((Below.refl _ _).alloc (Nat.le_refl _) _).alloc (by simp) _).alloc (by simp;omega) _
  have HX:Hid (BoxR (((w.alloc (.cells #[.slice (some ⟨tb,tf,none⟩) len cap,.int .i64 now] 35)).alloc (.cells #[.int .i64 u,.int .i64 g,.slice ca cl cc,.bool r] 37)).alloc (.cells #[.int .i64 0,.int .i64 0,.string ⟨#[]⟩,.int .i64 0] 31)) w.heap.size [.slice (some ⟨tb,tf,none⟩) len cap,.int .i64 now]):=((boxR_new w [.slice (some ⟨tb,tf,none⟩) len cap,.int .i64 now] 35).below (bel_alloc _ _)).below (bel_alloc _ _)
  have HC:Hid (BoxR (((w.alloc (.cells #[.slice (some ⟨tb,tf,none⟩) len cap,.int .i64 now] 35)).alloc (.cells #[.int .i64 u,.int .i64 g,.slice ca cl cc,.bool r] 37)).alloc (.cells #[.int .i64 0,.int .i64 0,.string ⟨#[]⟩,.int .i64 0] 31)) (w.heap.size+1) [.int .i64 u,.int .i64 g,.slice ca cl cc,.bool r]):=(by
    have h:=(boxR_new (w.alloc (.cells #[.slice (some ⟨tb,tf,none⟩) len cap,.int .i64 now] 35)) [.int .i64 u,.int .i64 g,.slice ca cl cc,.bool r] 37).below (bel_alloc _ (.cells #[.int .i64 0,.int .i64 0,.string ⟨#[]⟩,.int .i64 0] 31))
    simp only [World.size_alloc] at h
    exact h)
  have HO:Hid (BoxW (((w.alloc (.cells #[.slice (some ⟨tb,tf,none⟩) len cap,.int .i64 now] 35)).alloc (.cells #[.int .i64 u,.int .i64 g,.slice ca cl cc,.bool r] 37)).alloc (.cells #[.int .i64 0,.int .i64 0,.string ⟨#[]⟩,.int .i64 0] 31)) (w.heap.size+1+1) [.int .i64 0,.int .i64 0,.string ⟨#[]⟩,.int .i64 0]):=(by
    have h:=boxW_new ((w.alloc (.cells #[.slice (some ⟨tb,tf,none⟩) len cap,.int .i64 now] 35)).alloc (.cells #[.int .i64 u,.int .i64 g,.slice ca cl cc,.bool r] 37)) [.int .i64 0,.int .i64 0,.string ⟨#[]⟩,.int .i64 0] 31
    simp only [World.size_alloc] at h
    exact h)
  have h8':¬ (8000:Int)<(s.size:Int):=by omega
  clear hi hci hf hN htb ht hcr hE hmx hmz hl hll hs
  generalize hlt:ltB l u g cl r cf=lt at HGo ⊢
  clear hlt
  obtain ⟨F,HF⟩:∃ F,Hid (F=wkO l lt fo s):=⟨_,rfl⟩
  rw [←HF.out]
  go_enter Tryz.func13,Tryz.ntmps13
  go_upto_region 1 with fail
  generalize (((w.alloc (.cells #[.slice (some ⟨tb,tf,none⟩) len cap,.int .i64 now] 35)).alloc (.cells #[.int .i64 u,.int .i64 g,.slice ca cl cc,.bool r] 37)).alloc (.cells #[.int .i64 0,.int .i64 0,.string ⟨#[]⟩,.int .i64 0] 31))=w0 at HB HX HC HO ⊢
  obtain ⟨X,hX⟩:∃ X,X=w.heap.size:=⟨_,rfl⟩
  have HXw:Hid (X=w.heap.size):=hX
  rw [←hX] at HX HC HO ⊢
  clear hX
  have t0:w0.cell? ⟨X,0,none⟩=some (.slice (some ⟨tb,tf,none⟩) len cap):=HX.out.at0 0 _ rfl
  have t1:w0.cell? ⟨X,1,none⟩=some (.int .i64 now):=HX.out.at0 1 _ rfl
  have c0:w0.cell? ⟨X+1,0,none⟩=some (.int .i64 u):=HC.out.at0 0 _ rfl
  have c1:w0.cell? ⟨X+1,1,none⟩=some (.int .i64 g):=HC.out.at0 1 _ rfl
  have c2:w0.cell? ⟨X+1,2,none⟩=some (.slice ca cl cc):=HC.out.at0 2 _ rfl
  have c3:w0.cell? ⟨X+1,3,none⟩=some (.bool r):=HC.out.at0 3 _ rfl
  have o0:w0.cell? ⟨X+1+1,0,none⟩=some (.int .i64 0):=HO.out.at0 0 _ rfl
  have o1:w0.cell? ⟨X+1+1,1,none⟩=some (.int .i64 0):=HO.out.at0 1 _ rfl
  have o2:w0.cell? ⟨X+1+1,2,none⟩=some (.string ⟨#[]⟩):=HO.out.at0 2 _ rfl
  have o3:w0.cell? ⟨X+1+1,3,none⟩=some (.int .i64 0):=HO.out.at0 3 _ rfl
  have fz:∀ o,w0.frozen? ⟨X+1+1,o,none⟩=false:=HO.out.frz
  go_upto_region 5 with (first
    | (go_at_call 38;refine (HT.out _ HB.out).mono ?_;rintro e w1 ⟨rfl,hb⟩;replace HB:Hid (Below w.heap.size w w1):=Below.on HB.out hb;replace HX:Hid (BoxR w1 X [.slice (some ⟨tb,tf,none⟩) len cap,.int .i64 now]):=HX.out.below hb;replace HC:Hid (BoxR w1 (X+1) [.int .i64 u,.int .i64 g,.slice ca cl cc,.bool r]):=HC.out.below hb;replace HO:Hid (BoxW w1 (X+1+1) [.int .i64 0,.int .i64 0,.string ⟨#[]⟩,.int .i64 0]):=HO.out.below hb;clear hb;replace t0:w1.cell? ⟨X,0,none⟩=some (.slice (some ⟨tb,tf,none⟩) len cap):=HX.out.at0 0 _ rfl;replace t1:w1.cell? ⟨X,1,none⟩=some (.int .i64 now):=HX.out.at0 1 _ rfl;replace c0:w1.cell? ⟨X+1,0,none⟩=some (.int .i64 u):=HC.out.at0 0 _ rfl;replace c1:w1.cell? ⟨X+1,1,none⟩=some (.int .i64 g):=HC.out.at0 1 _ rfl;replace c2:w1.cell? ⟨X+1,2,none⟩=some (.slice ca cl cc):=HC.out.at0 2 _ rfl;replace c3:w1.cell? ⟨X+1,3,none⟩=some (.bool r):=HC.out.at0 3 _ rfl;replace o0:w1.cell? ⟨X+1+1,0,none⟩=some (.int .i64 0):=HO.out.at0 0 _ rfl;replace o1:w1.cell? ⟨X+1+1,1,none⟩=some (.int .i64 0):=HO.out.at0 1 _ rfl;replace o2:w1.cell? ⟨X+1+1,2,none⟩=some (.string ⟨#[]⟩):=HO.out.at0 2 _ rfl;replace o3:w1.cell? ⟨X+1+1,3,none⟩=some (.int .i64 0):=HO.out.at0 3 _ rfl;replace fz:∀ o,w1.frozen? ⟨X+1+1,o,none⟩=false:=HO.out.frz)
    | (go_at_call 39;refine (HCr.out _ HB.out).mono ?_;rintro e w1 ⟨rfl,hb⟩;replace HB:Hid (Below w.heap.size w w1):=Below.on HB.out hb;replace HX:Hid (BoxR w1 X [.slice (some ⟨tb,tf,none⟩) len cap,.int .i64 now]):=HX.out.below hb;replace HC:Hid (BoxR w1 (X+1) [.int .i64 u,.int .i64 g,.slice ca cl cc,.bool r]):=HC.out.below hb;replace HO:Hid (BoxW w1 (X+1+1) [.int .i64 0,.int .i64 0,.string ⟨#[]⟩,.int .i64 0]):=HO.out.below hb;clear hb;replace t0:w1.cell? ⟨X,0,none⟩=some (.slice (some ⟨tb,tf,none⟩) len cap):=HX.out.at0 0 _ rfl;replace t1:w1.cell? ⟨X,1,none⟩=some (.int .i64 now):=HX.out.at0 1 _ rfl;replace c0:w1.cell? ⟨X+1,0,none⟩=some (.int .i64 u):=HC.out.at0 0 _ rfl;replace c1:w1.cell? ⟨X+1,1,none⟩=some (.int .i64 g):=HC.out.at0 1 _ rfl;replace c2:w1.cell? ⟨X+1,2,none⟩=some (.slice ca cl cc):=HC.out.at0 2 _ rfl;replace c3:w1.cell? ⟨X+1,3,none⟩=some (.bool r):=HC.out.at0 3 _ rfl;replace o0:w1.cell? ⟨X+1+1,0,none⟩=some (.int .i64 0):=HO.out.at0 0 _ rfl;replace o1:w1.cell? ⟨X+1+1,1,none⟩=some (.int .i64 0):=HO.out.at0 1 _ rfl;replace o2:w1.cell? ⟨X+1+1,2,none⟩=some (.string ⟨#[]⟩):=HO.out.at0 2 _ rfl;replace o3:w1.cell? ⟨X+1+1,3,none⟩=some (.int .i64 0):=HO.out.at0 3 _ rfl;replace fz:∀ o,w1.frozen? ⟨X+1+1,o,none⟩=false:=HO.out.frz))
  clear HT HCr h8'
  go_wp2_with fail
  refine (HPp.out _ HB.out).mono ?_
  intro e w2 he
  clear HPp t0 t1 c0 c1 c2 c3 o0 o1 o2 o3 fz
  rcases he with ⟨hc0,rfl,hb2⟩ | ⟨hc0,v,rfl,hv,hb2⟩
  · have HW : Hid (wkO l lt fo s = woC (ppC s)) := (by show _ = _; rw [wkO, if_neg hc0])
    have hcn:(ppC s==0)=false:=by simpa using hc0
    have hcn2:(ppC s != 0)=true:=by rw [bne,hcn];rfl
    generalize ppC s=pcc at HW hcn hcn2
    have hbQ:=bel_alloc w2 (.cells #[.slice none 0 0,.bool false,.int .i64 pcc] 66)
    have HQ3:Hid (BoxR (w2.alloc (.cells #[.slice none 0 0,.bool false,.int .i64 pcc] 66)) w2.heap.size [.slice none 0 0,.bool false,.int .i64 pcc]):=boxR_new _ _ _
    have HO3:Hid (BoxW (w2.alloc (.cells #[.slice none 0 0,.bool false,.int .i64 pcc] 66)) (X+1+1) [.int .i64 0,.int .i64 0,.string ⟨#[]⟩,.int .i64 0]):=(HO.out.below hb2).below hbQ
    have HB3:Hid (Below w.heap.size w (w2.alloc (.cells #[.slice none 0 0,.bool false,.int .i64 pcc] 66))):=Below.on (Below.on HB.out hb2) hbQ
    clear hb2 hbQ HGo HCo HB HX HC HO
    go_upto_region 6 with fail
    generalize w2.alloc (.cells #[.slice none 0 0,.bool false,.int .i64 pcc] 66)=w3 at HQ3 HO3 HB3 ⊢
    generalize w2.heap.size=Q at HQ3 ⊢
    have q2:w3.cell? ⟨Q,2,none⟩=some (.int .i64 pcc):=HQ3.out.at0 2 _ rfl
    have o0:w3.cell? ⟨X+1+1,0,none⟩=some (.int .i64 0):=HO3.out.at0 0 _ rfl
    have o1:w3.cell? ⟨X+1+1,1,none⟩=some (.int .i64 0):=HO3.out.at0 1 _ rfl
    have o2:w3.cell? ⟨X+1+1,2,none⟩=some (.string ⟨#[]⟩):=HO3.out.at0 2 _ rfl
    have o3:w3.cell? ⟨X+1+1,3,none⟩=some (.int .i64 0):=HO3.out.at0 3 _ rfl
    have fz:∀ o,w3.frozen? ⟨X+1+1,o,none⟩=false:=HO3.out.frz
    go_wp2
    refine bodyPost_ret (v:=.agg #[.int .i64 0,.int .i64 0,.string ⟨#[]⟩,.int .i64 pcc]) (by simp [results,Tryz.results13,go_sem,o0,o1,o2,o3]) rfl ?_
    exact ⟨by rw [HF.out,HW.out];rfl,(by repeat (first | exact HB3.out | refine bl_setT ?_ (by have:=HXw.out;omega)))⟩
  · have HW : wkO l lt fo s = wend l (lasB s) (wrun l lt (fo || lasB s) (wmu (s0W s)) (s0W s)) := (by rw [wkO, if_pos hc0])
    obtain ⟨qa,qc,hvv,hqc,hrs⟩:=own_rowS (l:=pbo s) hv
    subst hvv
    have hgo:=HGo.out hc0
    have hql:(pbo s).length≤61:=by have h1:=pbo_len s;have h2:=ppC_zero hc0;omega
    replace HGo:Hid _:=hgo
    clear hgo hc0
    generalize lasB s=sl at HW HGo
    have hbQ:=bel_alloc w2 (.cells #[.slice qa (pbo s).length qc,.bool sl,.int .i64 0] 66)
    have HQ3:Hid (BoxR (w2.alloc (.cells #[.slice qa (pbo s).length qc,.bool sl,.int .i64 0] 66)) w2.heap.size [.slice qa (pbo s).length qc,.bool sl,.int .i64 0]):=boxR_new _ _ _
    have HO3:Hid (BoxW (w2.alloc (.cells #[.slice qa (pbo s).length qc,.bool sl,.int .i64 0] 66)) (X+1+1) [.int .i64 0,.int .i64 0,.string ⟨#[]⟩,.int .i64 0]):=(HO.out.below hb2).below hbQ
    have HX3:Hid (BoxR (w2.alloc (.cells #[.slice qa (pbo s).length qc,.bool sl,.int .i64 0] 66)) X [.slice (some ⟨tb,tf,none⟩) len cap,.int .i64 now]):=(HX.out.below hb2).below hbQ
    have HC3:Hid (BoxR (w2.alloc (.cells #[.slice qa (pbo s).length qc,.bool sl,.int .i64 0] 66)) (X+1) [.int .i64 u,.int .i64 g,.slice ca cl cc,.bool r]):=(HC.out.below hb2).below hbQ
    have HB3:Hid (Below w.heap.size w (w2.alloc (.cells #[.slice qa (pbo s).length qc,.bool sl,.int .i64 0] 66))):=Below.on (Below.on HB.out hb2) hbQ
    have HR3:Hid (RowS (w2.alloc (.cells #[.slice qa (pbo s).length qc,.bool sl,.int .i64 0] 66)) qa (pbo s)):=hrs.below hbQ
    have HQc:Hid ((pbo s).length≤qc):=hqc
    clear hv hb2 hbQ hrs hqc HB HX HC HO
    go_upto_region 6 with fail
    generalize w2.alloc (.cells #[.slice qa (pbo s).length qc,.bool sl,.int .i64 0] 66)=w3 at HQ3 HO3 HX3 HC3 HB3 HR3 ⊢
    generalize w2.heap.size=Q at HQ3 ⊢
    have q0:w3.cell? ⟨Q,0,none⟩=some (.slice qa (pbo s).length qc):=HQ3.out.at0 0 _ rfl
    have q1:w3.cell? ⟨Q,1,none⟩=some (.bool sl):=HQ3.out.at0 1 _ rfl
    have q2:w3.cell? ⟨Q,2,none⟩=some (.int .i64 0):=HQ3.out.at0 2 _ rfl
    have t0:w3.cell? ⟨X,0,none⟩=some (.slice (some ⟨tb,tf,none⟩) len cap):=HX3.out.at0 0 _ rfl
    have t1:w3.cell? ⟨X,1,none⟩=some (.int .i64 now):=HX3.out.at0 1 _ rfl
    have c0:w3.cell? ⟨X+1,0,none⟩=some (.int .i64 u):=HC3.out.at0 0 _ rfl
    have c1:w3.cell? ⟨X+1,1,none⟩=some (.int .i64 g):=HC3.out.at0 1 _ rfl
    have c2:w3.cell? ⟨X+1,2,none⟩=some (.slice ca cl cc):=HC3.out.at0 2 _ rfl
    have c3:w3.cell? ⟨X+1,3,none⟩=some (.bool r):=HC3.out.at0 3 _ rfl
    cases fo
    case false =>
      have hbP:=bel_alloc w3 (.cells #[.slice (some ⟨tb,tf,none⟩) len cap,.int .i64 now,.int .i64 u,.int .i64 g,.slice ca cl cc,.bool r,.slice qa (pbo s).length qc,.bool sl,.bool sl,.int .i64 0,.int .i64 0,.int .i64 0,.string ⟨#[]⟩] 69)
      have HP4:Hid (BoxW (w3.alloc (.cells #[.slice (some ⟨tb,tf,none⟩) len cap,.int .i64 now,.int .i64 u,.int .i64 g,.slice ca cl cc,.bool r,.slice qa (pbo s).length qc,.bool sl,.bool sl,.int .i64 0,.int .i64 0,.int .i64 0,.string ⟨#[]⟩] 69)) w3.heap.size [.slice (some ⟨tb,tf,none⟩) len cap,.int .i64 now,.int .i64 u,.int .i64 g,.slice ca cl cc,.bool r,.slice qa (pbo s).length qc,.bool sl,.bool sl,.int .i64 0,.int .i64 0,.int .i64 0,.string ⟨#[]⟩]):=boxW_new w3 [.slice (some ⟨tb,tf,none⟩) len cap,.int .i64 now,.int .i64 u,.int .i64 g,.slice ca cl cc,.bool r,.slice qa (pbo s).length qc,.bool sl,.bool sl,.int .i64 0,.int .i64 0,.int .i64 0,.string ⟨#[]⟩] 69
      have HR4:Hid (RowG (w3.alloc (.cells #[.slice (some ⟨tb,tf,none⟩) len cap,.int .i64 now,.int .i64 u,.int .i64 g,.slice ca cl cc,.bool r,.slice qa (pbo s).length qc,.bool sl,.bool sl,.int .i64 0,.int .i64 0,.int .i64 0,.string ⟨#[]⟩] 69)) w3.heap.size qa (pbo s)):=(fun h=>by
        obtain ⟨b,hb,hlt,hcell⟩:=HR3.out h
        exact ⟨b,0,hb,by omega,RowB.below ⟨hlt,hcell⟩ hbP⟩)
      have HO4:Hid (BoxW (w3.alloc (.cells #[.slice (some ⟨tb,tf,none⟩) len cap,.int .i64 now,.int .i64 u,.int .i64 g,.slice ca cl cc,.bool r,.slice qa (pbo s).length qc,.bool sl,.bool sl,.int .i64 0,.int .i64 0,.int .i64 0,.string ⟨#[]⟩] 69)) (X+1+1) [.int .i64 0,.int .i64 0,.string ⟨#[]⟩,.int .i64 0]):=HO3.out.below hbP
      have HB4:Hid (Below w.heap.size w (w3.alloc (.cells #[.slice (some ⟨tb,tf,none⟩) len cap,.int .i64 now,.int .i64 u,.int .i64 g,.slice ca cl cc,.bool r,.slice qa (pbo s).length qc,.bool sl,.bool sl,.int .i64 0,.int .i64 0,.int .i64 0,.string ⟨#[]⟩] 69))):=Below.on HB3.out hbP
      have HPX:Hid (X+1+1<w3.heap.size∧w.heap.size≤w3.heap.size):=⟨HO3.out.lt,HB3.out.size⟩
      clear hbP
      go_upto_region 9 with fail
      generalize w3.alloc (.cells #[.slice (some ⟨tb,tf,none⟩) len cap,.int .i64 now,.int .i64 u,.int .i64 g,.slice ca cl cc,.bool r,.slice qa (pbo s).length qc,.bool sl,.bool sl,.int .i64 0,.int .i64 0,.int .i64 0,.string ⟨#[]⟩] 69)=w4 at HP4 HR4 HO4 HB4 ⊢
      generalize w3.heap.size=P at HP4 HR4 HPX ⊢
      clear q0 q1 q2 t0 t1 c0 c1 c2 c3 HQ3 HO3 HX3 HC3 HB3 HR3
      go_wp2_with fail
      refine (iStand_any P tb tf len cap now u g ca cl cc r qa (pbo s).length qc sl sl 0 0 0 ⟨#[]⟩ 1 w4 HP4.out).mono ?_
      rintro e w5 ⟨rfl,hbx,hbu⟩
      have HP5:Hid (BoxW w5 P [.slice (some ⟨tb,tf,none⟩) len cap,.int .i64 now,.int .i64 u,.int .i64 g,.slice ca cl cc,.bool r,.slice qa (pbo s).length qc,.bool sl,.bool sl,.int .i64 0,.int .i64 1,.int .i64 1,.string ⟨#[]⟩]):=hbx
      have HB5:Hid (Below w.heap.size w w5):=HB4.out.trans (hbu.below _ HB4.out.size (fun A e=>by cases e;exact HPX.out.2))
      have HO5:Hid (BoxW w5 (X+1+1) [.int .i64 0,.int .i64 0,.string ⟨#[]⟩,.int .i64 0]):=HO4.out.butS hbu (fun A e=>by cases e;have:=HPX.out.1;show X+1+1≠P;omega)
      have HR5:Hid (RowG w5 P qa (pbo s)):=HR4.out.but hbu
      clear hbx hbu HP4 HB4 HO4 HR4
      have HC5:Hid _:=HGo.out P qa qc sl w5 HB5.out HPX.out.2 HP5.out HR5.out HQc.out
      clear HGo HP5 HR5
      go_wp2_with fail
      refine Calls.mono HC5.out ?_
      rintro e w6 hG
      have HB6:Hid (Below w.heap.size w w6):=HB5.out.trans (hG.but.below _ HB5.out.size (fun A e=>by cases e;exact HPX.out.2))
      have HO6:Hid (BoxW w6 (X+1+1) [.int .i64 0,.int .i64 0,.string ⟨#[]⟩,.int .i64 0]):=HO5.out.butS hG.but (fun A e=>by cases e;have:=HPX.out.1;show X+1+1≠P;omega)
      clear HB5 HO5 HC5
      have HQ:Hid (CodesW (wrun l lt sl (wmu (s0W s)) (s0W s)).1):=wrun_code _ _
      have HW2:wkO l lt false s=wend l sl (wrun l lt sl (wmu (s0W s)) (s0W s)):=HW
      clear HW
      have HW:=HW2
      clear HW2
      generalize wrun l lt sl (wmu (s0W s)) (s0W s)=q at HW hG HQ
      have o0:w6.cell? ⟨X+1+1,0,none⟩=some (.int .i64 0):=HO6.out.at0 0 _ rfl
      have o1:w6.cell? ⟨X+1+1,1,none⟩=some (.int .i64 0):=HO6.out.at0 1 _ rfl
      have o2:w6.cell? ⟨X+1+1,2,none⟩=some (.string ⟨#[]⟩):=HO6.out.at0 2 _ rfl
      have o3:w6.cell? ⟨X+1+1,3,none⟩=some (.int .i64 0):=HO6.out.at0 3 _ rfl
      have fz:=HO6.out.frz
      by_cases hz:(wend l sl q).c=0
      · obtain ⟨rfl, pa', n', pc', lk', hbx⟩ := hG.good hz
        have p10:=hbx.at0 10 _ rfl
        have p11:=hbx.at0 11 _ rfl
        have p12:=hbx.at0 12 _ rfl
        clear hbx hG HQ
        generalize wend l sl q=oq at HW hz p10 p11 p12
        go_wp2
        refine bodyPost_ret (v:=.agg #[.int .i64 oq.n,.int .i64 oq.d,.string oq.nm,.int .i64 0]) (by simp [results,Tryz.results13,go_sem,o0,o1,o2,o3]) rfl ?_
        exact ⟨by rw [HF.out,HW,woV,hz],(by repeat (first | exact HB6.out | refine bl_setT ?_ (by have:=HXw.out;omega)))⟩
      · have hwb := wend_bad hz
        have he:=hG.bad hz
        have hcs:=wend_code HQ.out hz
        rw [hwb] at HW
        generalize (wend l sl q).c=c at he hcs HW hz
        subst he
        have HK:Hid _:=HCo.out c hcs w6 HB6.out
        obtain ⟨ae,hae⟩:=eOf_at (EE:=289) e1 e2 e3 e4 c
        rw [hae] at HK ⊢
        clear hG HQ hwb hae HCo
        go_wp2_with fail
        refine Calls.mono HK.out ?_
        rintro e w7 ⟨rfl,hw⟩
        have hw2:=hw.symm
        clear hw
        subst hw2
        go_wp2
        refine bodyPost_ret (v:=.agg #[.int .i64 0,.int .i64 0,.string ⟨#[]⟩,.int .i64 c]) (by simp [results,Tryz.results13,go_sem,o0,o1,o2,o3]) rfl ?_
        exact ⟨by rw [HF.out,HW];rfl,(by repeat (first | exact HB6.out | refine bl_setT ?_ (by have:=HXw.out;omega)))⟩
    case true =>
      have hbP:=bel_alloc w3 (.cells #[.slice (some ⟨tb,tf,none⟩) len cap,.int .i64 now,.int .i64 u,.int .i64 g,.slice ca cl cc,.bool r,.slice qa (pbo s).length qc,.bool sl,.bool true,.int .i64 0,.int .i64 0,.int .i64 0,.string ⟨#[]⟩] 69)
      have HP4:Hid (BoxW (w3.alloc (.cells #[.slice (some ⟨tb,tf,none⟩) len cap,.int .i64 now,.int .i64 u,.int .i64 g,.slice ca cl cc,.bool r,.slice qa (pbo s).length qc,.bool sl,.bool true,.int .i64 0,.int .i64 0,.int .i64 0,.string ⟨#[]⟩] 69)) w3.heap.size [.slice (some ⟨tb,tf,none⟩) len cap,.int .i64 now,.int .i64 u,.int .i64 g,.slice ca cl cc,.bool r,.slice qa (pbo s).length qc,.bool sl,.bool true,.int .i64 0,.int .i64 0,.int .i64 0,.string ⟨#[]⟩]):=boxW_new w3 [.slice (some ⟨tb,tf,none⟩) len cap,.int .i64 now,.int .i64 u,.int .i64 g,.slice ca cl cc,.bool r,.slice qa (pbo s).length qc,.bool sl,.bool true,.int .i64 0,.int .i64 0,.int .i64 0,.string ⟨#[]⟩] 69
      have HR4:Hid (RowG (w3.alloc (.cells #[.slice (some ⟨tb,tf,none⟩) len cap,.int .i64 now,.int .i64 u,.int .i64 g,.slice ca cl cc,.bool r,.slice qa (pbo s).length qc,.bool sl,.bool true,.int .i64 0,.int .i64 0,.int .i64 0,.string ⟨#[]⟩] 69)) w3.heap.size qa (pbo s)):=(fun h=>by
        obtain ⟨b,hb,hlt,hcell⟩:=HR3.out h
        exact ⟨b,0,hb,by omega,RowB.below ⟨hlt,hcell⟩ hbP⟩)
      have HO4:Hid (BoxW (w3.alloc (.cells #[.slice (some ⟨tb,tf,none⟩) len cap,.int .i64 now,.int .i64 u,.int .i64 g,.slice ca cl cc,.bool r,.slice qa (pbo s).length qc,.bool sl,.bool true,.int .i64 0,.int .i64 0,.int .i64 0,.string ⟨#[]⟩] 69)) (X+1+1) [.int .i64 0,.int .i64 0,.string ⟨#[]⟩,.int .i64 0]):=HO3.out.below hbP
      have HB4:Hid (Below w.heap.size w (w3.alloc (.cells #[.slice (some ⟨tb,tf,none⟩) len cap,.int .i64 now,.int .i64 u,.int .i64 g,.slice ca cl cc,.bool r,.slice qa (pbo s).length qc,.bool sl,.bool true,.int .i64 0,.int .i64 0,.int .i64 0,.string ⟨#[]⟩] 69))):=Below.on HB3.out hbP
      have HPX:Hid (X+1+1<w3.heap.size∧w.heap.size≤w3.heap.size):=⟨HO3.out.lt,HB3.out.size⟩
      clear hbP
      go_upto_region 9 with fail
      generalize w3.alloc (.cells #[.slice (some ⟨tb,tf,none⟩) len cap,.int .i64 now,.int .i64 u,.int .i64 g,.slice ca cl cc,.bool r,.slice qa (pbo s).length qc,.bool sl,.bool true,.int .i64 0,.int .i64 0,.int .i64 0,.string ⟨#[]⟩] 69)=w4 at HP4 HR4 HO4 HB4 ⊢
      generalize w3.heap.size=P at HP4 HR4 HPX ⊢
      clear q0 q1 q2 t0 t1 c0 c1 c2 c3 HQ3 HO3 HX3 HC3 HB3 HR3
      go_wp2_with fail
      refine (iStand_any P tb tf len cap now u g ca cl cc r qa (pbo s).length qc sl true 0 0 0 ⟨#[]⟩ 1 w4 HP4.out).mono ?_
      rintro e w5 ⟨rfl,hbx,hbu⟩
      have HP5:Hid (BoxW w5 P [.slice (some ⟨tb,tf,none⟩) len cap,.int .i64 now,.int .i64 u,.int .i64 g,.slice ca cl cc,.bool r,.slice qa (pbo s).length qc,.bool sl,.bool true,.int .i64 0,.int .i64 1,.int .i64 1,.string ⟨#[]⟩]):=hbx
      have HB5:Hid (Below w.heap.size w w5):=HB4.out.trans (hbu.below _ HB4.out.size (fun A e=>by cases e;exact HPX.out.2))
      have HO5:Hid (BoxW w5 (X+1+1) [.int .i64 0,.int .i64 0,.string ⟨#[]⟩,.int .i64 0]):=HO4.out.butS hbu (fun A e=>by cases e;have:=HPX.out.1;show X+1+1≠P;omega)
      have HR5:Hid (RowG w5 P qa (pbo s)):=HR4.out.but hbu
      clear hbx hbu HP4 HB4 HO4 HR4
      have HC5:Hid _:=HGo.out P qa qc true w5 HB5.out HPX.out.2 HP5.out HR5.out HQc.out
      clear HGo HP5 HR5
      go_wp2_with fail
      refine Calls.mono HC5.out ?_
      rintro e w6 hG
      have HB6:Hid (Below w.heap.size w w6):=HB5.out.trans (hG.but.below _ HB5.out.size (fun A e=>by cases e;exact HPX.out.2))
      have HO6:Hid (BoxW w6 (X+1+1) [.int .i64 0,.int .i64 0,.string ⟨#[]⟩,.int .i64 0]):=HO5.out.butS hG.but (fun A e=>by cases e;have:=HPX.out.1;show X+1+1≠P;omega)
      clear HB5 HO5 HC5
      have HQ:Hid (CodesW (wrun l lt true (wmu (s0W s)) (s0W s)).1):=wrun_code _ _
      have HW2:wkO l lt true s=wend l sl (wrun l lt true (wmu (s0W s)) (s0W s)):=HW
      clear HW
      have HW:=HW2
      clear HW2
      generalize wrun l lt true (wmu (s0W s)) (s0W s)=q at HW hG HQ
      have o0:w6.cell? ⟨X+1+1,0,none⟩=some (.int .i64 0):=HO6.out.at0 0 _ rfl
      have o1:w6.cell? ⟨X+1+1,1,none⟩=some (.int .i64 0):=HO6.out.at0 1 _ rfl
      have o2:w6.cell? ⟨X+1+1,2,none⟩=some (.string ⟨#[]⟩):=HO6.out.at0 2 _ rfl
      have o3:w6.cell? ⟨X+1+1,3,none⟩=some (.int .i64 0):=HO6.out.at0 3 _ rfl
      have fz:=HO6.out.frz
      by_cases hz:(wend l sl q).c=0
      · obtain ⟨rfl, pa', n', pc', lk', hbx⟩ := hG.good hz
        have p10:=hbx.at0 10 _ rfl
        have p11:=hbx.at0 11 _ rfl
        have p12:=hbx.at0 12 _ rfl
        clear hbx hG HQ
        generalize wend l sl q=oq at HW hz p10 p11 p12
        go_wp2
        refine bodyPost_ret (v:=.agg #[.int .i64 oq.n,.int .i64 oq.d,.string oq.nm,.int .i64 0]) (by simp [results,Tryz.results13,go_sem,o0,o1,o2,o3]) rfl ?_
        exact ⟨by rw [HF.out,HW,woV,hz],(by repeat (first | exact HB6.out | refine bl_setT ?_ (by have:=HXw.out;omega)))⟩
      · have hwb := wend_bad hz
        have he:=hG.bad hz
        have hcs:=wend_code HQ.out hz
        rw [hwb] at HW
        generalize (wend l sl q).c=c at he hcs HW hz
        subst he
        have HK:Hid _:=HCo.out c hcs w6 HB6.out
        obtain ⟨ae,hae⟩:=eOf_at (EE:=289) e1 e2 e3 e4 c
        rw [hae] at HK ⊢
        clear hG HQ hwb hae HCo
        go_wp2_with fail
        refine Calls.mono HK.out ?_
        rintro e w7 ⟨rfl,hw⟩
        have hw2:=hw.symm
        clear hw
        subst hw2
        go_wp2
        refine bodyPost_ret (v:=.agg #[.int .i64 0,.int .i64 0,.string ⟨#[]⟩,.int .i64 c]) (by simp [results,Tryz.results13,go_sem,o0,o1,o2,o3]) rfl ?_
        exact ⟨by rw [HF.out,HW];rfl,(by repeat (first | exact HB6.out | refine bl_setT ?_ (by have:=HXw.out;omega)))⟩
end Go.Proofs.YtabfdidnjibdeaaGreatDoor
