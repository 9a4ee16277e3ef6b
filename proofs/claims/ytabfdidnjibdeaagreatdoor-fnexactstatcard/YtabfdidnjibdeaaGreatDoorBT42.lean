/- Laid together: Scope, WkI6, WkI7. -/
import Derived.Scope
import Derived.ScopeJumps
import Derived.Tactics
import Derived.Test.YtabfdidnjibdeaaGreatDoorBT40
import Derived.WalkMore
import Derived.Test.YtabfdidnjibdeaaGreatDoorBT41
/- A law for a body with several labels: what holds at each jump, and a measure that every jump lowers (after the guide's law for one label). -/
namespace Go.Proofs.YtabfdidnjibdeaaGreatDoor
open Go
/-- As Q; by a goto to label l: J l. -/
def labels (J:Nat→Act→World→Prop) (Q:Exit→Act→World→Prop):Exit→Act→World→Prop
  | .goto l,a,w => J l a w
  | e,a,w => Q e a w
theorem wp_scope_labels {P:Program} {a:Act} {w:World} {Q:Exit→Act→World→Prop} {c:Go.Code} (J:Nat→Act→World→Prop) (μ:Nat→Act→World→Nat)
    (first:c.wp P (labels J Q) a w)
    (pass:∀ l a w,J l a w→∃ rest,findLabel c l=some rest∧rest.wp P (labels (fun l' a' w' => J l' a' w'∧μ l' a' w' < μ l a w) Q) a w):(Go.Code.scope c).wp P Q a w:=by
  intro b k cs
  have key:∀ n l a w,μ l a w=n→J l a w→∃ rest,findLabel c l=some rest∧∃ e a' w',Q e a' w'∧Arrives P (lone (b.at a (.code rest :: .inScope c :: k)) cs w) b k cs e a' w':=by
    intro n
    induction n using Nat.strongRecOn with
    | _ n ih =>
      intro l a w hn hJ
      obtain ⟨rest,hf,hp⟩:=pass l a w hJ
      refine ⟨rest,hf,?_⟩
      obtain ⟨e,a₁,w₁,hq,harr⟩:=hp b (.inScope c :: k) cs
      cases e with
      | normal => exact ⟨.normal,a₁,w₁,hq,Steps.trans harr (.one step_inScope)⟩
      | exit id => exact ⟨.exit id,a₁,w₁,hq,fun k' hk => harr k' (by simp [exitTo,hk])⟩
      | goto l' =>
        obtain ⟨hJ',hlt⟩:=hq
        obtain ⟨rest',hf',e₂,a₂,w₂,hq₂,harr₂⟩:=ih _ (by omega) l' a₁ w₁ rfl hJ'
        have hg:gotoIn l' (.inScope c :: k)=some (.code rest' :: .inScope c :: k):=by simp [gotoIn,hf']
        exact ⟨e₂,a₂,w₂,hq₂,.of_steps (harr _ hg) harr₂⟩
      | ret => exact ⟨_,a₁,w₁,hq,harr⟩
      | panic ch => exact ⟨_,a₁,w₁,hq,harr⟩
      | outgrown => exact ⟨_,a₁,w₁,hq,harr⟩
  obtain ⟨e,a₁,w₁,hq,harr⟩:=first b (.inScope c :: k) cs
  cases e with
  | normal => exact ⟨.normal,a₁,w₁,hq,.head step_scope (Steps.trans harr (.one step_inScope))⟩
  | exit id => exact ⟨.exit id,a₁,w₁,hq,fun k' hk => .head step_scope (harr k' (by simp [exitTo,hk]))⟩
  | goto l' =>
    obtain ⟨rest',hf',e₂,a₂,w₂,hq₂,harr₂⟩:=key _ l' a₁ w₁ rfl hq
    have hg:gotoIn l' (.inScope c :: k)=some (.code rest' :: .inScope c :: k):=by simp [gotoIn,hf']
    exact ⟨e₂,a₂,w₂,hq₂,.of_steps (.head step_scope (harr _ hg)) harr₂⟩
  | ret => exact ⟨_,a₁,w₁,hq,.of_steps (.one step_scope) harr⟩
  | panic ch => exact ⟨_,a₁,w₁,hq,.of_steps (.one step_scope) harr⟩
  | outgrown => exact ⟨_,a₁,w₁,hq,.of_steps (.one step_scope) harr⟩
end Go.Proofs.YtabfdidnjibdeaaGreatDoor
/- impl's way.goAll. -/
namespace Go.Proofs.YtabfdidnjibdeaaGreatDoor
open Go.RowKit Go.PlainAid Go.Deep
set_option linter.unusedVariables false
/-- What holds at a label of goAll: of the way as it lies. -/
structure GaW (w:World) (P:Nat) (tb tf len cap:Nat) (now:Int) (u g:Int) (ca:Option Addr) (cl cc:Nat) (r:Bool) (l:List Nd) (lt:Nat→Bool) (sl th:Bool) (q:Int × Wy) (wr:World) (s:Wy) (pa:Option Addr) (pc:Nat) (nd d:Int) (nm:ByteArray) (qs:List ByteArray):Prop where
  box:BoxW wr P [.slice (some ⟨tb,tf,none⟩) len cap,.int .i64 now,.int .i64 u,.int .i64 g,.slice ca cl cc,.bool r,.slice pa qs.length pc,.bool sl,.bool th,.int .i64 (s.lk:Int),.int .i64 nd,.int .i64 d,.string nm]
  row:RowG wr P pa qs
  cap:qs.length≤pc
  but:ButS (some ⟨P,0,none⟩) w wr
  on:WyI l lt th q s
/-- Where one is: at 1 the whole state, at 0 its end, at 2 a link that is to be followed. -/
def GaL (l:List Nd) (lt:Nat→Bool) (th:Bool) (lb:Nat) (s:Wy) (nd d:Int) (nm:ByteArray) (qs:List ByteArray):Prop :=
  (lb=1∧qs=s.ps∧nd=s.at_∧d=s.d∧nm=s.nm)∨(lb=0∧s.ps=[]∧qs=s.ps∧nd=s.at_∧d=s.d∧nm=s.nm) ∨
    (lb=2∧∃ (p:ByteArray) (j:Nat),s.ps=p :: qs∧nd=(j:Int) + 1∧thB l ((j:Int) + 1)=true∧((ndAt l j).k == 3)=true∧d=s.at_∧wst l lt th s p qs=if 8≤s.lk then (14,s) else (0,wlk l s j qs))
def JG (w:World) (P:Nat) (tb tf len cap:Nat) (now:Int) (u g:Int) (ca:Option Addr) (cl cc:Nat) (r:Bool) (l:List Nd) (lt:Nat→Bool) (sl th:Bool) (q:Int × Wy) (lb:Nat) (a:Act) (wr:World):Prop:=∃ (s:Wy) (pa:Option Addr) (pc:Nat) (nd d:Int) (nm:ByteArray) (qs:List ByteArray) (v1 v3 u4_ u5_ u6_ u7_ u8_ u9_ u10_ u11_ u12_ u13_ u14_ u15_ u16_ u17_ u18_ u19_ u20_ u21_ u22_ u23_ u24_ u25_ u26_ u27_ u28_ u29_ u30_ u31_ u32_ u33_ u34_ u35_ u36_ u37_ u38_ u39_ u40_ u41_ u42_ u43_ u44_ u45_ u46_ u47_ u48_:Value),Hid (GaW w P tb tf len cap now u g ca cl cc r l lt sl th q wr s pa pc nd d nm qs)∧Hid (GaL l lt th lb s nd d nm qs)∧a={ tmps:=#[.pointer (some ⟨P,0,none⟩),v1,.nilIface,v3,u4_,u5_,u6_,u7_,u8_,u9_,u10_,u11_,u12_,u13_,u14_,u15_,u16_,u17_,u18_,u19_,u20_,u21_,u22_,u23_,u24_,u25_,u26_,u27_,u28_,u29_,u30_,u31_,u32_,u33_,u34_,u35_,u36_,u37_,u38_,u39_,u40_,u41_,u42_,u43_,u44_,u45_,u46_,u47_,u48_],defers:=[] }
def muG (P:Nat) (lb:Nat) (_:Act) (wr:World):Nat:=if lb=0 then 0 else 2 * wMi wr P + (if lb=1 then 1 else 0)
/-- What goAll answers. -/
structure GaEnd (w:World) (P:Nat) (tb tf len cap:Nat) (now:Int) (u g:Int) (ca:Option Addr) (cl cc:Nat) (r:Bool) (l:List Nd) (sl th:Bool) (q:Int × Wy) (e1 e2 e3 e4:Addr) (e:Ending) (w':World):Prop where
  but:ButS (some ⟨P,0,none⟩) w w'
  bad:(wend l sl q).c ≠ 0→e=.returned (eOf (.iface 289 (.pointer (some e1))) (.iface 289 (.pointer (some e2))) (.iface 289 (.pointer (some e3))) (.iface 289 (.pointer (some e4))) (wend l sl q).c)
  good:(wend l sl q).c=0→e=.returned .nilIface∧∃ pa' n' pc' lk',BoxW w' P [.slice (some ⟨tb,tf,none⟩) len cap,.int .i64 now,.int .i64 u,.int .i64 g,.slice ca cl cc,.bool r,.slice pa' n' pc',.bool sl,.bool th,.int .i64 lk',.int .i64 (wend l sl q).n,.int .i64 (wend l sl q).d,.string (wend l sl q).nm]
theorem wend_c {l:List Nd} {sl:Bool} {c:Int} {s:Wy} (h:c ≠ 0):wend l sl (c,s)=woC c:=by
  have e:(c == 0)=false:=by simpa using h
  simp only [wend,e,Bool.false_eq_true,if_false]
theorem gaW_mu {w:World} {P:Nat} {tb tf len cap:Nat} {now u g:Int} {ca:Option Addr} {cl cc:Nat} {r:Bool} {l:List Nd} {lt:Nat→Bool} {sl th:Bool} {q:Int × Wy} {wr:World} {s:Wy} {pa:Option Addr} {pc:Nat} {nd d:Int} {nm:ByteArray} {qs:List ByteArray} (h:GaW w P tb tf len cap now u g ca cl cc r l lt sl th q wr s pa pc nd d nm qs):wMi wr P=(9 - s.lk) * 1000 + qs.length:=by
  rw [wMi_at (h.box.at0 9 _ rfl) (h.box.at0 6 _ rfl)]
  simp
theorem dec_len (ps:List ByteArray):decide ((0:Int) < (ps.length:Int))=!ps.isEmpty:=by
  cases ps with
  | nil => rfl
  | cons x xs =>
    simp only [List.length_cons,List.isEmpty_cons,Bool.not_false,decide_eq_true_eq]
    omega
set_option maxRecDepth 100000 in
set_option maxHeartbeats 16000000 in
theorem iGoAll_any (wb:World) (P:Nat) (tb tf len cap:Nat) (now:Int) (u g:Int) (ca:Option Addr) (cl cc:Nat) (r:Bool) (cf:Nat→Int) (l:List Nd) (Y:Nat→Na) (t:ByteArray) (pa0:Option Addr) (pc0:Nat) (sl th:Bool) (m:Int) (e1 e2 e3 e4:Addr) (hl:len≤12) (hll:l.length=len) (ht:treeB l now=true) (hask:∀ k,k < len→thB l ((k:Int) + 1)=true→Ask (ndAt l k) u g cl cf 1) (hpp:ppC t=0)
    (hE1:wb.cell? ⟨1,0,none⟩=some (.iface 289 (.pointer (some e1)))) (hE2:wb.cell? ⟨2,0,none⟩=some (.iface 289 (.pointer (some e2)))) (hE3:wb.cell? ⟨3,0,none⟩=some (.iface 289 (.pointer (some e3)))) (hE4:wb.cell? ⟨0,0,none⟩=some (.iface 289 (.pointer (some e4))))
    (hm:wb.cell? ⟨4,0,none⟩=some (.int .i64 m)) (htb:tb < wb.heap.size) (hN:∀ i,i < len→N24 wb tb (tf + i * 24) (ndAt l i) (Y i)∧NdIn wb (ndAt l i) (Y i)) (hNds:Nds (some ⟨tb,tf,none⟩) len l wb) (hci:Ints ca cl cf wb) (w:World) (hB:Below wb.heap.size wb w) (hPb:wb.heap.size≤P) (hP:BoxW w P [.slice (some ⟨tb,tf,none⟩) len cap,.int .i64 now,.int .i64 u,.int .i64 g,.slice ca cl cc,.bool r,.slice pa0 (pbo t).length pc0,.bool sl,.bool th,.int .i64 ((s0W t).lk:Int),.int .i64 1,.int .i64 1,.string emp]) (hR:RowG w P pa0 (pbo t)) (hpc0:(pbo t).length≤pc0) :
    Calls Tryz.prog 42 #[.pointer (some ⟨P,0,none⟩)] w fun e w' => GaEnd w P tb tf len cap now u g ca cl cc r l sl th (wrun l (ltB l u g cl r cf) th (wmu (s0W t)) (s0W t)) e1 e2 e3 e4 e w':=by
  have HW0:Hid (GaW w P tb tf len cap now u g ca cl cc r l (ltB l u g cl r cf) sl th (wrun l (ltB l u g cl r cf) th (wmu (s0W t)) (s0W t)) w (s0W t) pa0 pc0 (s0W t).at_ (s0W t).d (s0W t).nm (s0W t).ps):=⟨hP,hR,hpc0,ButS.refl _ _,wyI_start ht hpp⟩
  generalize wrun l (ltB l u g cl r cf) th (wmu (s0W t)) (s0W t)=q at HW0 ⊢
  have HPw:Hid (P < w.heap.size∧wb.heap.size≤P∧len≤12∧l.length=len∧tb < wb.heap.size):=⟨hP.lt,hPb,hl,hll,htb⟩
  have HBw:Hid (∀ wr,ButS (some ⟨P,0,none⟩) w wr→Below wb.heap.size wb wr):=(fun wr h => Below.trans hB (h.below _ hB.size (fun A e => by cases e; exact hPb)))
  have HT:Hid (treeB l now=true):=ht
  have HE:Hid (∀ wr,Below wb.heap.size wb wr→wr.cell? ⟨1,0,none⟩=some (.iface 289 (.pointer (some e1)))∧wr.cell? ⟨0,0,none⟩=some (.iface 289 (.pointer (some e4)))):=(fun wr hb => ⟨(hb.cell (p:=⟨_,0,none⟩) (block_lt_of_cell hE1)).trans hE1,(hb.cell (p:=⟨_,0,none⟩) (block_lt_of_cell hE4)).trans hE4⟩)
  have HNo:Hid (∀ (p:ByteArray) (ps:List ByteArray) (pa:Option Addr) (pc:Nat) (lk n d:Int) (nm:ByteArray) (wr:World),diB l n=false→Below wb.heap.size wb wr→BoxW wr P [.slice (some ⟨tb,tf,none⟩) len cap,.int .i64 now,.int .i64 u,.int .i64 g,.slice ca cl cc,.bool r,.slice pa (ps.length + 1) pc,.bool sl,.bool th,.int .i64 lk,.int .i64 n,.int .i64 d,.string nm]→Calls Tryz.prog 81 #[.pointer (some ⟨P,0,none⟩)] wr fun e w' => e=.returned (.iface 289 (.pointer (some e1)))∧Below wr.heap.size wr w'):=(fun p ps pa pc lk n d nm wr hd hb hbx => iGoPart_no wb P tb tf len cap now u g ca cl cc r l ps pa pc sl th lk n d nm (.iface 289 (.pointer (some e1))) hl hd hE1 hNds wr hb hPb hbx)
  have HDi:Hid (∀ (k:Nat) (p:ByteArray) (ps:List ByteArray) (b off pc:Nat) (lk d:Int) (nm:ByteArray) (wr:World),diB l ((k:Int) + 1)=true→ps.length≤1000→ps.length + 1≤pc→Below wb.heap.size wb wr→BoxW wr P [.slice (some ⟨tb,tf,none⟩) len cap,.int .i64 now,.int .i64 u,.int .i64 g,.slice ca cl cc,.bool r,.slice (some ⟨b,off,none⟩) (ps.length + 1) pc,.bool sl,.bool th,.int .i64 lk,.int .i64 ((k:Int) + 1),.int .i64 d,.string nm]→RowB wr b off (p :: ps)→b ≠ P→Calls Tryz.prog 81 #[.pointer (some ⟨P,0,none⟩)] wr fun e w' => GpEnd wr P tb tf len cap now u g ca cl cc r ps sl th lk (ndAt l k) k p (ltB l u g cl r cf k) (.iface 289 (.pointer (some e2))) (.iface 289 (.pointer (some e3))) e w'):=(fun k p ps b off pc lk d nm wr hd h1 h2 hb hbx hrow hbP => by
    have hth:=diB_th hd
    have hkl:k < len:=by
      have h:=inR_iff.1 (thB_num hth)
      omega
    have hup:(ndAt l k).up ≠ 0:=fun e0 => by
      obtain ⟨j,hj,_⟩:=th_num (diB_th (dir_facts ht hd).up)
      omega
    have hk1:((ndAt l k).k == 1)=true:=by
      have h:=hd
      rw [diB_in hth] at h
      exact h
    have hns:=nsB_T (dir_facts ht hd).ns
    exact iGoPart_dir wb P tb tf len cap now u g ca cl cc r cf l Y k p ps b off pc sl th lk d nm (.iface 289 (.pointer (some e2))) (.iface 289 (.pointer (some e3))) hl hll hkl h1 h2 hk1 hup hns.1 hns.2 (hask k hkl hth) hE2 hE3 htb (hN k hkl).1 (hN k hkl).2 hci wr hb hPb hbx hrow hbP)
  have HNx:Hid (∀ wr,Below wb.heap.size wb wr→∀ i,i < len→N24 wr tb (tf + i * 24) (ndAt l i) (Y i)):=(fun wr hb i hi => range_below (hN i hi).1 htb hb)
  have HFo:Hid (∀ (j:Nat) (ps:List ByteArray) (pa:Option Addr) (pc:Nat) (lk d:Int) (nm:ByteArray) (wr:World),thB l ((j:Int) + 1)=true→((ndAt l j).k == 3)=true→ps.length≤1000→Below wb.heap.size wb wr→BoxW wr P [.slice (some ⟨tb,tf,none⟩) len cap,.int .i64 now,.int .i64 u,.int .i64 g,.slice ca cl cc,.bool r,.slice pa ps.length pc,.bool sl,.bool th,.int .i64 lk,.int .i64 ((j:Int) + 1),.int .i64 d,.string nm]→RowG wr P pa ps→Calls Tryz.prog 83 #[.pointer (some ⟨P,0,none⟩)] wr fun e w' => e=.returned (.tuple #[])∧(∃ a5 c5,BoxW w' P [.slice (some ⟨tb,tf,none⟩) len cap,.int .i64 now,.int .i64 u,.int .i64 g,.slice ca cl cc,.bool r,.slice a5 (pbo (ndAt l j).bo ++ ps).length c5,.bool sl,.bool th,.int .i64 lk,.int .i64 (if firB (ndAt l j).bo then 1 else d),.int .i64 (if firB (ndAt l j).bo then 1 else d),.string ⟨#[]⟩]∧RowG w' P a5 (pbo (ndAt l j).bo ++ ps)∧(pbo (ndAt l j).bo ++ ps).length≤c5)∧ButS (some ⟨P,0,none⟩) wr w'):=(fun j ps pa pc lk d nm wr hth hk3 h1 hb hbx hrow => by
    have hjl:j < len:=by
      have h:=inR_iff.1 (thB_num hth)
      omega
    exact iFollow_any wb P tb tf len cap now u g ca cl cc r l Y j ps pa pc sl th lk d nm m hl hjl h1 (link_body ht hth hk3) hm htb (fun i hi => (hN i hi).1) wr hb hPb hbx hrow)
  clear hP hR hpc0 hE1 hE2 hE3 hE4 hm htb hN hNds hci hB hPb hask hpp hl hll ht
  go_enter Tryz.func42,Tryz.ntmps42
  go_wp2_with fail
  refine wp_scope_labels (JG w P tb tf len cap now u g ca cl cc r l (ltB l u g cl r cf) sl th q) (muG P) ?first ?pass
  case first =>
    have hW:=HW0
    clear HW0
    generalize s0W t=s at hW
    generalize pa0=pa at hW
    generalize pc0=pc at hW
    go_wp2_with fail
    go_step3
    have HBr:Hid (Below wb.heap.size wb w):=HBw.out w hW.out.but
    have p6:w.cell? ⟨P,6,none⟩=some (.slice pa s.ps.length pc):=hW.out.box.at0 6 _ rfl
    by_cases hnil:s.ps=[]
    · have p6n : w.cell? ⟨P, 6, none⟩ = some (.slice pa 0 pc) := by rw [p6, hnil]; rfl
      clear p6 HNo HDi HFo
      go_wp2
      go_step3
      exact ⟨s,pa,pc,_,_,_,s.ps,_,_,_,_,_,_,_,_,_,_,_,_,_,_,_,_,_,_,_,_,_,_,_,_,_,_,_,_,_,_,_,_,_,_,_,_,_,_,_,_,_,_,_,_,_,_,_,hW,.inr (.inl ⟨rfl,hnil,rfl,rfl,rfl,rfl⟩),rfl⟩
    obtain ⟨p,ps,hps⟩:∃ p ps,s.ps=p :: ps:=(by
      cases hh:s.ps with
      | nil => exact absurd hh hnil
      | cons p ps => exact ⟨p,ps,rfl⟩)
    have hok:=hW.out.on.ok
    have hat:s.at_ ≠ 0:=fun e => by have:=hok.z e; rw [hps] at this; cases this
    have hth:=hok.th hat
    obtain ⟨k,hk,hkl⟩:=th_num hth
    have hls:s.ps.length=ps.length + 1:=by rw [hps]; rfl
    have hle1:ps.length≤1000:=by have h1:=hok.len; have h2:=hok.lk; rw [hls] at h1; omega
    have hpos:(0:Int) < ((ps.length + 1:Nat):Int):=by omega
    rw [hls] at p6
    have hbox:=hW.out.box
    rw [hls] at hbox
    have hnx:=wyI_next HT.out hW.out.on hps
    have hcap:=hW.out.cap
    rw [hls] at hcap
    cases hd:diB l s.at_
    · have HC : Hid (Calls Tryz.prog 81 #[.pointer (some ⟨P, 0, none⟩)] w fun e w' => e = .returned (.iface 289 (.pointer (some e1))) ∧ Below w.heap.size w w') := HNo.out p ps pa pc s.lk s.at_ s.d s.nm w hd HBr.out hbox
      have hw12:wst l (ltB l u g cl r cf) th s p ps=(12,s):=(by
        have hkd:((ndAt l k).k == 1)=false:=by
          have h:=hd
          rw [hk,diB_in (by rw [← hk]; exact hth)] at h
          exact h
        unfold wst
        rw [hk,at_succ,hkd]
        rfl)
      have HQ:Hid (q=(12,s)):=(by show _=_; rw [hnx.2 (by rw [hw12]; show (12:Int) ≠ 0; decide),hw12])
      clear hnx hw12 HNo HDi HFo hok hbox hcap
      go_wp2_with (go_at_call 81; refine HC.out.mono ?_; rintro e w2 ⟨rfl,hb2⟩; have HU2:Hid (ButS (some ⟨P,0,none⟩) w w2):=hW.out.but.on hb2; clear hb2)
      simp only [labels]
      go_ret
      refine ⟨HU2.out,fun _ => ?_,fun h => ?_⟩
      · rw [HQ.out, wend_c (by decide)]
        rfl
      · rw [HQ.out, wend_c (by decide)] at h
        exact absurd h (by decide)
    have hd':diB l ((k:Int) + 1)=true:=by rw [← hk]; exact hd
    obtain ⟨b,off,hpa,hbP,hrow⟩:=hW.out.row (by rw [hls]; omega)
    rw [hps] at hrow
    rw [hpa,hk] at hbox
    rw [hpa] at p6
    have HC:Hid (Calls Tryz.prog 81 #[.pointer (some ⟨P,0,none⟩)] w fun e w' => GpEnd w P tb tf len cap now u g ca cl cc r ps sl th s.lk (ndAt l k) k p (ltB l u g cl r cf k) (.iface 289 (.pointer (some e2))) (.iface 289 (.pointer (some e3))) e w'):=HDi.out k p ps b off pc s.lk s.d s.nm w hd' hle1 hcap HBr.out hbox hrow hbP
    have HM:Hid (ltB l u g cl r cf k=true→GpM l th s ps (gp3 (ndAt l k) k p) (wst l (ltB l u g cl r cf) th s p ps)):=(fun hlt => gp_math HT.out hk hd' hlt)
    have hw11:ltB l u g cl r cf k=false→wst l (ltB l u g cl r cf) th s p ps=(11,s):=(fun hlt => by
      have hkd:((ndAt l k).k == 1)=true:=by
        have h:=hd'
        rw [diB_in (diB_th hd')] at h
        exact h
      have hkn:((k:Int) + 1 - 1).toNat=k:=by omega
      unfold wst
      rw [hk,hkn,hkd,hlt]
      rfl)
    have HX:Hid _:=hnx
    have H11:Hid _:=hw11
    have HLk:Hid (s.lk≤8):=hok.lk
    clear hnx hw11 HNo HDi HFo hok hbox hcap hrow hbP hd' hd
    go_wp2_with fail
    refine HC.out.mono ?_
    rintro e w2 hG
    have HU2:Hid (ButS (some ⟨P,0,none⟩) w w2):=hW.out.but.trans hG.but
    have HB2:Hid (Below wb.heap.size wb w2):=HBw.out w2 HU2.out
    cases hlt:ltB l u g cl r cf k
    · have he := hG.no hlt
      subst he
      have HQ:Hid (q=(11,s)):=(by show _=_; rw [HX.out.2 (by rw [H11.out hlt]; show (11:Int) ≠ 0; decide),H11.out hlt])
      clear hG HM HC H11 HX p6
      go_wp2
      simp only [labels]
      go_ret
      refine ⟨HU2.out,fun _ => ?_,fun h => ?_⟩
      · rw [HQ.out, wend_c (by decide)]
        rfl
      · rw [HQ.out, wend_c (by decide)] at h
        exact absurd h (by decide)
    have HM2:=HM.out hlt
    have hdec:=dec_len ps
    cases hg:((gp3 (ndAt l k) k p).1 == 0 && !ps.isEmpty)
    · obtain ⟨he, pa', pc', hbx, hrow2, hcap2⟩ := hG.yes hlt hg
      subst he
      have HLe:Hid (Calls Tryz.prog 82 #[.pointer (some ⟨P,0,none⟩)] w2 fun e w' => e=.returned (.bool (kndB l (gp3 (ndAt l k) k p).1 == 3 && (th || decide ((0:Int) < (ps.length:Int)))))∧Below w2.heap.size w2 w'):=iLeads_any P tb tf len cap now u g ca cl cc r pa' ps.length pc' sl th s.lk _ _ _ l Y HPw.out.2.2.1 HPw.out.2.2.2.1 hle1 w2 (Nat.lt_of_lt_of_le HPw.out.2.2.2.2 HB2.out.size) hbx (HNx.out w2 HB2.out)
      rw [hdec] at HLe
      have HBx:Hid _:=hbx
      have HRx:Hid (RowG w2 P pa' ps∧ps.length≤pc'):=⟨hrow2,hcap2⟩
      cases hle:(kndB l (gp3 (ndAt l k) k p).1 == 3 && (th || !ps.isEmpty))
      · have hq := HM2.on hg hle
        have hx1:=HX.out.1 (by rw [hq])
        rw [hq] at hx1
        rw [hle] at HLe
        have HI:Hid _:=hx1.1
        clear hx1 hq hG HM HC H11 HX HM2 hbx hrow2 hcap2 hle hg
        generalize gp3 (ndAt l k) k p=g3 at HBx HI HLe
        go_wp2_with fail
        refine HLe.out.mono ?_
        rintro e w3 ⟨rfl,hb3⟩
        have HW3:Hid (GaW w P tb tf len cap now u g ca cl cc r l (ltB l u g cl r cf) sl th q w3 ⟨g3.1,g3.2.1,g3.2.2,ps,s.lk⟩ pa' pc' g3.1 g3.2.1 g3.2.2 ps):=⟨HBx.out.below hb3,HRx.out.1.but (ButS.of hb3),HRx.out.2,HU2.out.on hb3,HI.out⟩
        have hmv:=gaW_mu HW3.out
        have HMv:Hid (wMi w3 P=(9 - s.lk) * 1000 + ps.length):=hmv
        clear hmv
        clear hb3 HBx HI HLe p6
        go_wp2
        go_step3
        exact ⟨⟨g3.1,g3.2.1,g3.2.2,ps,s.lk⟩,pa',pc',_,_,_,ps,_,_,_,_,_,_,_,_,_,_,_,_,_,_,_,_,_,_,_,_,_,_,_,_,_,_,_,_,_,_,_,_,_,_,_,_,_,_,_,_,_,_,_,_,_,_,_,HW3,.inl ⟨rfl,rfl,rfl,rfl,rfl⟩,rfl⟩
      · obtain ⟨j, hj, hth3, hk33, hd3, hq⟩ := HM2.link hle
        rw [hle] at HLe
        have HL3:Hid (GaL l (ltB l u g cl r cf) th 2 s (gp3 (ndAt l k) k p).1 (gp3 (ndAt l k) k p).2.1 (gp3 (ndAt l k) k p).2.2 ps):=.inr (.inr ⟨rfl,p,j,hps,hj,hth3,hk33,hd3,hq⟩)
        clear hj hth3 hk33 hd3 hq hG HM HC H11 HX HM2 hbx hrow2 hcap2 hle hg
        generalize gp3 (ndAt l k) k p=g3 at HBx HLe HL3
        go_wp2_with fail
        refine HLe.out.mono ?_
        rintro e w3 ⟨rfl,hb3⟩
        have HW3:Hid (GaW w P tb tf len cap now u g ca cl cc r l (ltB l u g cl r cf) sl th q w3 s pa' pc' g3.1 g3.2.1 g3.2.2 ps):=⟨HBx.out.below hb3,HRx.out.1.but (ButS.of hb3),HRx.out.2,HU2.out.on hb3,hW.out.on⟩
        have hmv:=gaW_mu HW3.out
        have HMv:Hid (wMi w3 P=(9 - s.lk) * 1000 + ps.length):=hmv
        clear hmv
        clear hb3 HBx HLe p6
        go_wp2
        go_step3
        exact ⟨s,pa',pc',_,_,_,ps,_,_,_,_,_,_,_,_,_,_,_,_,_,_,_,_,_,_,_,_,_,_,_,_,_,_,_,_,_,_,_,_,_,_,_,_,_,_,_,_,_,_,_,_,_,_,_,HW3,HL3,rfl⟩
    · have he := hG.gone hlt hg
      subst he
      have hq:=HM2.gone hg
      have HQ:Hid (q=(6,s)):=(by show _=_; rw [HX.out.2 (by rw [hq]; show (6:Int) ≠ 0; decide),hq])
      clear hG HM HC H11 HX p6 HM2 hq hg
      go_wp2
      simp only [labels]
      go_ret
      refine ⟨HU2.out,fun _ => ?_,fun h => ?_⟩
      · rw [HQ.out, wend_c (by decide)]
        rfl
      · rw [HQ.out, wend_c (by decide)] at h
        exact absurd h (by decide)
  case pass =>
    clear HW0
    intro lb a' wr hJ
    obtain ⟨s,pa,pc,nd,d,nm,qs,v1,v3,u4_,u5_,u6_,u7_,u8_,u9_,u10_,u11_,u12_,u13_,u14_,u15_,u16_,u17_,u18_,u19_,u20_,u21_,u22_,u23_,u24_,u25_,u26_,u27_,u28_,u29_,u30_,u31_,u32_,u33_,u34_,u35_,u36_,u37_,u38_,u39_,u40_,u41_,u42_,u43_,u44_,u45_,u46_,u47_,u48_,hW,hL,rfl⟩:=hJ
    have HMu:Hid (wMi wr P=(9 - s.lk) * 1000 + qs.length):=gaW_mu hW.out
    rcases hL.out with ⟨rfl,rfl,rfl,rfl,rfl⟩ | ⟨rfl,hz,rfl,rfl,rfl,rfl⟩ | ⟨rfl,p,j,hps,rfl,hth,hk3,rfl,hws⟩
    · clear hL
      refine ⟨_,rfl,?_⟩
      have HBr:Hid (Below wb.heap.size wb wr):=HBw.out wr hW.out.but
      have p6:wr.cell? ⟨P,6,none⟩=some (.slice pa s.ps.length pc):=hW.out.box.at0 6 _ rfl
      by_cases hnil:s.ps=[]
      · have p6n : wr.cell? ⟨P, 6, none⟩ = some (.slice pa 0 pc) := by rw [p6, hnil]; rfl
        clear p6 HNo HDi HFo
        go_wp2
        go_step3
        exact ⟨⟨s,pa,pc,_,_,_,s.ps,_,_,_,_,_,_,_,_,_,_,_,_,_,_,_,_,_,_,_,_,_,_,_,_,_,_,_,_,_,_,_,_,_,_,_,_,_,_,_,_,_,_,_,_,_,_,_,hW,.inr (.inl ⟨rfl,hnil,rfl,rfl,rfl,rfl⟩),rfl⟩,(by simp [muG])⟩
      obtain ⟨p,ps,hps⟩:∃ p ps,s.ps=p :: ps:=(by
        cases hh:s.ps with
        | nil => exact absurd hh hnil
        | cons p ps => exact ⟨p,ps,rfl⟩)
      have hok:=hW.out.on.ok
      have hat:s.at_ ≠ 0:=fun e => by have:=hok.z e; rw [hps] at this; cases this
      have hth:=hok.th hat
      obtain ⟨k,hk,hkl⟩:=th_num hth
      have hls:s.ps.length=ps.length + 1:=by rw [hps]; rfl
      have hle1:ps.length≤1000:=by have h1:=hok.len; have h2:=hok.lk; rw [hls] at h1; omega
      have hpos:(0:Int) < ((ps.length + 1:Nat):Int):=by omega
      rw [hls] at p6
      have hbox:=hW.out.box
      rw [hls] at hbox
      have hnx:=wyI_next HT.out hW.out.on hps
      have hcap:=hW.out.cap
      rw [hls] at hcap
      cases hd:diB l s.at_
      · have HC : Hid (Calls Tryz.prog 81 #[.pointer (some ⟨P, 0, none⟩)] wr fun e w' => e = .returned (.iface 289 (.pointer (some e1))) ∧ Below wr.heap.size wr w') := HNo.out p ps pa pc s.lk s.at_ s.d s.nm wr hd HBr.out hbox
        have hw12:wst l (ltB l u g cl r cf) th s p ps=(12,s):=(by
          have hkd:((ndAt l k).k == 1)=false:=by
            have h:=hd
            rw [hk,diB_in (by rw [← hk]; exact hth)] at h
            exact h
          unfold wst
          rw [hk,at_succ,hkd]
          rfl)
        have HQ:Hid (q=(12,s)):=(by show _=_; rw [hnx.2 (by rw [hw12]; show (12:Int) ≠ 0; decide),hw12])
        clear hnx hw12 HNo HDi HFo hok hbox hcap
        go_wp2_with (go_at_call 81; refine HC.out.mono ?_; rintro e w2 ⟨rfl,hb2⟩; have HU2:Hid (ButS (some ⟨P,0,none⟩) w w2):=hW.out.but.on hb2; clear hb2)
        simp only [labels]
        go_ret
        refine ⟨HU2.out,fun _ => ?_,fun h => ?_⟩
        · rw [HQ.out, wend_c (by decide)]
          rfl
        · rw [HQ.out, wend_c (by decide)] at h
          exact absurd h (by decide)
      have hd':diB l ((k:Int) + 1)=true:=by rw [← hk]; exact hd
      obtain ⟨b,off,hpa,hbP,hrow⟩:=hW.out.row (by rw [hls]; omega)
      rw [hps] at hrow
      rw [hpa,hk] at hbox
      rw [hpa] at p6
      have HC:Hid (Calls Tryz.prog 81 #[.pointer (some ⟨P,0,none⟩)] wr fun e w' => GpEnd wr P tb tf len cap now u g ca cl cc r ps sl th s.lk (ndAt l k) k p (ltB l u g cl r cf k) (.iface 289 (.pointer (some e2))) (.iface 289 (.pointer (some e3))) e w'):=HDi.out k p ps b off pc s.lk s.d s.nm wr hd' hle1 hcap HBr.out hbox hrow hbP
      have HM:Hid (ltB l u g cl r cf k=true→GpM l th s ps (gp3 (ndAt l k) k p) (wst l (ltB l u g cl r cf) th s p ps)):=(fun hlt => gp_math HT.out hk hd' hlt)
      have hw11:ltB l u g cl r cf k=false→wst l (ltB l u g cl r cf) th s p ps=(11,s):=(fun hlt => by
        have hkd:((ndAt l k).k == 1)=true:=by
          have h:=hd'
          rw [diB_in (diB_th hd')] at h
          exact h
        have hkn:((k:Int) + 1 - 1).toNat=k:=by omega
        unfold wst
        rw [hk,hkn,hkd,hlt]
        rfl)
      have HX:Hid _:=hnx
      have H11:Hid _:=hw11
      have HLk:Hid (s.lk≤8):=hok.lk
      clear hnx hw11 HNo HDi HFo hok hbox hcap hrow hbP hd' hd
      go_wp2_with fail
      refine HC.out.mono ?_
      rintro e w2 hG
      have HU2:Hid (ButS (some ⟨P,0,none⟩) w w2):=hW.out.but.trans hG.but
      have HB2:Hid (Below wb.heap.size wb w2):=HBw.out w2 HU2.out
      cases hlt:ltB l u g cl r cf k
      · have he := hG.no hlt
        subst he
        have HQ:Hid (q=(11,s)):=(by show _=_; rw [HX.out.2 (by rw [H11.out hlt]; show (11:Int) ≠ 0; decide),H11.out hlt])
        clear hG HM HC H11 HX p6
        go_wp2
        simp only [labels]
        go_ret
        refine ⟨HU2.out,fun _ => ?_,fun h => ?_⟩
        · rw [HQ.out, wend_c (by decide)]
          rfl
        · rw [HQ.out, wend_c (by decide)] at h
          exact absurd h (by decide)
      have HM2:=HM.out hlt
      have hdec:=dec_len ps
      cases hg:((gp3 (ndAt l k) k p).1 == 0 && !ps.isEmpty)
      · obtain ⟨he, pa', pc', hbx, hrow2, hcap2⟩ := hG.yes hlt hg
        subst he
        have HLe:Hid (Calls Tryz.prog 82 #[.pointer (some ⟨P,0,none⟩)] w2 fun e w' => e=.returned (.bool (kndB l (gp3 (ndAt l k) k p).1 == 3 && (th || decide ((0:Int) < (ps.length:Int)))))∧Below w2.heap.size w2 w'):=iLeads_any P tb tf len cap now u g ca cl cc r pa' ps.length pc' sl th s.lk _ _ _ l Y HPw.out.2.2.1 HPw.out.2.2.2.1 hle1 w2 (Nat.lt_of_lt_of_le HPw.out.2.2.2.2 HB2.out.size) hbx (HNx.out w2 HB2.out)
        rw [hdec] at HLe
        have HBx:Hid _:=hbx
        have HRx:Hid (RowG w2 P pa' ps∧ps.length≤pc'):=⟨hrow2,hcap2⟩
        cases hle:(kndB l (gp3 (ndAt l k) k p).1 == 3 && (th || !ps.isEmpty))
        · have hq := HM2.on hg hle
          have hx1:=HX.out.1 (by rw [hq])
          rw [hq] at hx1
          rw [hle] at HLe
          have HI:Hid _:=hx1.1
          clear hx1 hq hG HM HC H11 HX HM2 hbx hrow2 hcap2 hle hg
          generalize gp3 (ndAt l k) k p=g3 at HBx HI HLe
          go_wp2_with fail
          refine HLe.out.mono ?_
          rintro e w3 ⟨rfl,hb3⟩
          have HW3:Hid (GaW w P tb tf len cap now u g ca cl cc r l (ltB l u g cl r cf) sl th q w3 ⟨g3.1,g3.2.1,g3.2.2,ps,s.lk⟩ pa' pc' g3.1 g3.2.1 g3.2.2 ps):=⟨HBx.out.below hb3,HRx.out.1.but (ButS.of hb3),HRx.out.2,HU2.out.on hb3,HI.out⟩
          have hmv:=gaW_mu HW3.out
          have HMv:Hid (wMi w3 P=(9 - s.lk) * 1000 + ps.length):=hmv
          clear hmv
          clear hb3 HBx HI HLe p6
          go_wp2
          go_step3
          exact ⟨⟨⟨g3.1,g3.2.1,g3.2.2,ps,s.lk⟩,pa',pc',_,_,_,ps,_,_,_,_,_,_,_,_,_,_,_,_,_,_,_,_,_,_,_,_,_,_,_,_,_,_,_,_,_,_,_,_,_,_,_,_,_,_,_,_,_,_,_,_,_,_,_,HW3,.inl ⟨rfl,rfl,rfl,rfl,rfl⟩,rfl⟩,(by have h1:=HMu.out; have h2:=HMv.out; simp only [muG]; rw [h1,h2,hls]; simp; try omega)⟩
        · obtain ⟨j, hj, hth3, hk33, hd3, hq⟩ := HM2.link hle
          rw [hle] at HLe
          have HL3:Hid (GaL l (ltB l u g cl r cf) th 2 s (gp3 (ndAt l k) k p).1 (gp3 (ndAt l k) k p).2.1 (gp3 (ndAt l k) k p).2.2 ps):=.inr (.inr ⟨rfl,p,j,hps,hj,hth3,hk33,hd3,hq⟩)
          clear hj hth3 hk33 hd3 hq hG HM HC H11 HX HM2 hbx hrow2 hcap2 hle hg
          generalize gp3 (ndAt l k) k p=g3 at HBx HLe HL3
          go_wp2_with fail
          refine HLe.out.mono ?_
          rintro e w3 ⟨rfl,hb3⟩
          have HW3:Hid (GaW w P tb tf len cap now u g ca cl cc r l (ltB l u g cl r cf) sl th q w3 s pa' pc' g3.1 g3.2.1 g3.2.2 ps):=⟨HBx.out.below hb3,HRx.out.1.but (ButS.of hb3),HRx.out.2,HU2.out.on hb3,hW.out.on⟩
          have hmv:=gaW_mu HW3.out
          have HMv:Hid (wMi w3 P=(9 - s.lk) * 1000 + ps.length):=hmv
          clear hmv
          clear hb3 HBx HLe p6
          go_wp2
          go_step3
          exact ⟨⟨s,pa',pc',_,_,_,ps,_,_,_,_,_,_,_,_,_,_,_,_,_,_,_,_,_,_,_,_,_,_,_,_,_,_,_,_,_,_,_,_,_,_,_,_,_,_,_,_,_,_,_,_,_,_,_,HW3,HL3,rfl⟩,(by have h1:=HMu.out; have h2:=HMv.out; simp only [muG]; rw [h1,h2,hls]; simp; try omega)⟩
      · have he := hG.gone hlt hg
        subst he
        have hq:=HM2.gone hg
        have HQ:Hid (q=(6,s)):=(by show _=_; rw [HX.out.2 (by rw [hq]; show (6:Int) ≠ 0; decide),hq])
        clear hG HM HC H11 HX p6 HM2 hq hg
        go_wp2
        simp only [labels]
        go_ret
        refine ⟨HU2.out,fun _ => ?_,fun h => ?_⟩
        · rw [HQ.out, wend_c (by decide)]
          rfl
        · rw [HQ.out, wend_c (by decide)] at h
          exact absurd h (by decide)
    · clear hL
      refine ⟨_,rfl,?_⟩
      have hq:=wyI_end hW.out.on hz
      subst hq
      have p7:wr.cell? ⟨P,7,none⟩=some (.bool sl):=hW.out.box.at0 7 _ rfl
      have p10:wr.cell? ⟨P,10,none⟩=some (.int .i64 s.at_):=hW.out.box.at0 10 _ rfl
      have HBr:Hid (Below wb.heap.size wb wr):=HBw.out wr hW.out.but
      have HKi:Hid (Calls Tryz.prog 84 #[.pointer (some ⟨P,0,none⟩)] wr fun e w' => e=.returned (.int .i64 (kndB l s.at_))∧Below wr.heap.size wr w'):=iKind_any P tb tf len cap now u g ca cl cc r pa s.ps.length pc sl th s.lk s.at_ s.d s.nm l Y HPw.out.2.2.1 HPw.out.2.2.2.1 wr (Nat.lt_of_lt_of_le HPw.out.2.2.2.2 HBr.out.size) hW.out.box (HNx.out wr HBr.out)
      have HE1:Hid (∀ wr,Below wb.heap.size wb wr→wr.cell? ⟨1,0,none⟩=some (.iface 289 (.pointer (some e1)))):=(fun wr hb => (HE.out wr hb).1)
      clear HNo HDi HFo HE
      cases sl
      · go_wp2
        simp only [labels]
        go_ret
        exact ⟨hW.out.but,fun h => absurd rfl h,fun _ => ⟨rfl,pa,s.ps.length,pc,s.lk,hW.out.box⟩⟩
      by_cases hat:s.at_=0
      · have p10z : wr.cell? ⟨P, 10, none⟩ = some (.int .i64 0) := by rw [p10, hat]
        have hE0:wend l true (0,s)=⟨s.at_,s.d,s.nm,0⟩:=by simp [wend,hat]
        clear p10
        go_wp2
        simp only [labels]
        go_ret
        refine ⟨hW.out.but,fun h => ?_,fun _ => ⟨rfl,pa,s.ps.length,pc,s.lk,?_⟩⟩
        · rw [hE0] at h
          exact absurd rfl h
        · rw [hE0]
          exact hW.out.box
      obtain ⟨k,hk,hkl⟩:=th_num (hW.out.on.ok.th hat)
      have hkn:kndB l s.at_=(ndAt l k).k:=by
        have h:=hW.out.on.ok.th hat
        rw [hk] at h ⊢
        exact knd_th h
      have hE0:wend l true (0,s)=if (ndAt l k).k == 1 then ⟨s.at_,s.d,s.nm,0⟩ else woC 12:=(by
        have h0:decide (0 < (k:Int) + 1)=true:=decide_eq_true (by omega)
        simp only [wend,hk,h0,at_succ,Bool.true_and]
        cases ((ndAt l k).k == 1) <;> rfl)
      have hatb:(s.at_ != 0)=true:=by simpa using hat
      rw [hkn] at HKi
      cases hk1:((ndAt l k).k == 1)
      · have hk1n : ((ndAt l k).k != 1) = true := by rw [bne, hk1]; rfl
        rw [hk1] at hE0
        go_wp2_with (go_at_call 84; refine HKi.out.mono ?_; rintro e w2 ⟨rfl,hb2⟩; have HU2:Hid (ButS (some ⟨P,0,none⟩) w w2):=hW.out.but.on hb2; have e5:=HE1.out w2 (HBw.out w2 HU2.out); clear hb2)
        simp only [labels]
        go_ret
        refine ⟨HU2.out,fun _ => ?_,fun h => ?_⟩
        · rw [hE0]
          rfl
        · rw [hE0] at h
          exact absurd h (by show (12:Int) ≠ 0; decide)
      · have hk1n : ((ndAt l k).k != 1) = false := by rw [bne, hk1]; rfl
        rw [hk1] at hE0
        go_wp2_with (go_at_call 84; refine HKi.out.mono ?_; rintro e w2 ⟨rfl,hb2⟩; have HU2:Hid (ButS (some ⟨P,0,none⟩) w w2):=hW.out.but.on hb2; have HX2:Hid _:=hW.out.box.below hb2; clear hb2)
        simp only [labels]
        go_ret
        refine ⟨HU2.out,fun h => ?_,fun _ => ⟨rfl,pa,s.ps.length,pc,s.lk,?_⟩⟩
        · rw [hE0] at h
          exact absurd rfl h
        · rw [hE0]
          exact HX2.out
    · clear hL
      refine ⟨_,rfl,?_⟩
      have hlk:=hW.out.on.ok.lk
      have hnx:=wyI_next HT.out hW.out.on hps
      have hlen:=hW.out.on.ok.len
      have hls:s.ps.length=qs.length + 1:=by rw [hps]; rfl
      have hle1:qs.length≤1000:=by rw [hls] at hlen; omega
      have p9:wr.cell? ⟨P,9,none⟩=some (.int .i64 (s.lk:Int)):=hW.out.box.at0 9 _ rfl
      have fz:=hW.out.box.frz
      have HX9:Hid (BoxW (wr.setCell ⟨P,9,none⟩ (.int .i64 ((s.lk:Int) + 1))) P [.slice (some ⟨tb,tf,none⟩) len cap,.int .i64 now,.int .i64 u,.int .i64 g,.slice ca cl cc,.bool r,.slice pa qs.length pc,.bool sl,.bool th,.int .i64 ((s.lk:Int) + 1),.int .i64 ((j:Int) + 1),.int .i64 s.at_,.string nm]):=hW.out.box.set 9 (by simp) (.int .i64 ((s.lk:Int) + 1))
      have HU9:Hid (ButS (some ⟨P,0,none⟩) w (wr.setCell ⟨P,9,none⟩ (.int .i64 ((s.lk:Int) + 1)))):=hW.out.but.set
      have HR9:Hid (RowG (wr.setCell ⟨P,9,none⟩ (.int .i64 ((s.lk:Int) + 1))) P pa qs):=hW.out.row.but (ButS.refl (some ⟨P,0,none⟩) _).set
      have hlki:(s.lk:Int)≤8:=by omega
      have hlk0:(0:Int)≤(s.lk:Int):=by omega
      clear HNo HDi
      go_upto_region 8 with fail
      generalize (wr.setCell ⟨P,9,none⟩ (.int .i64 ((s.lk:Int) + 1)))=w2 at HX9 HU9 HR9 ⊢
      have q9:w2.cell? ⟨P,9,none⟩=some (.int .i64 ((s.lk:Int) + 1)):=HX9.out.at0 9 _ rfl
      have HB2:Hid (Below wb.heap.size wb w2):=HBw.out w2 HU9.out
      clear p9 fz
      by_cases h8:8≤s.lk
      · rw [if_pos h8] at hws
        have HQ:Hid (q=(14,s)):=(by show _=_; rw [hnx.2 (by rw [hws]; show (14:Int) ≠ 0; decide),hws])
        have e5:=(HE.out w2 HB2.out).2
        have g8:(8:Int) < (s.lk:Int) + 1:=by omega
        clear hnx hws HFo HE
        go_wp2
        simp only [labels]
        go_ret
        refine ⟨HU9.out,fun _ => ?_,fun h => ?_⟩
        · rw [HQ.out, wend_c (by decide)]
          rfl
        · rw [HQ.out, wend_c (by decide)] at h
          exact absurd h (by decide)
      · rw [if_neg h8] at hws
        have hx1:=hnx.1 (by rw [hws])
        rw [hws] at hx1
        have HI:Hid _:=hx1.1
        have g8:¬ (8:Int) < (s.lk:Int) + 1:=by omega
        have HC:Hid _:=HFo.out j qs pa pc ((s.lk:Int) + 1) s.at_ nm w2 hth hk3 hle1 HB2.out HX9.out HR9.out
        have hpb:=(signs_len (link_body HT.out hth hk3)).2
        have hpl:=pbo_len (ndAt l j).bo
        clear hnx hws hx1 HFo HE
        go_wp2_with fail
        refine Calls.mono HC.out ?_
        rintro e w3 ⟨rfl,⟨a5,c5,hbx,hrow,hcp⟩,hbu⟩
        have e9:(s.lk:Int) + 1=((s.lk + 1:Nat):Int):=by omega
        rw [e9] at hbx
        clear e9
        have HW3:Hid (GaW w P tb tf len cap now u g ca cl cc r l (ltB l u g cl r cf) sl th q w3 (wlk l s j qs) a5 c5 (wlk l s j qs).at_ (wlk l s j qs).d (wlk l s j qs).nm (wlk l s j qs).ps):=⟨hbx,hrow,hcp,HU9.out.trans hbu,HI.out⟩
        have hmv:=gaW_mu HW3.out
        have HMv:Hid (wMi w3 P=(9 - (s.lk + 1)) * 1000 + (pbo (ndAt l j).bo ++ qs).length):=hmv
        clear hmv
        clear hbx hrow hcp hbu HI HC q9 HX9 HR9
        go_wp2
        go_step3
        exact ⟨⟨wlk l s j qs,a5,c5,_,_,_,_,_,_,_,_,_,_,_,_,_,_,_,_,_,_,_,_,_,_,_,_,_,_,_,_,_,_,_,_,_,_,_,_,_,_,_,_,_,_,_,_,_,_,_,_,_,_,_,HW3,.inl ⟨rfl,rfl,rfl,rfl,rfl⟩,rfl⟩,(by have h1:=HMu.out; have h2:=HMv.out; simp only [muG]; rw [h1,h2,List.length_append]; simp; omega)⟩
end Go.Proofs.YtabfdidnjibdeaaGreatDoor
/- impl.codeOfWay. -/
namespace Go.Proofs.YtabfdidnjibdeaaGreatDoor
open Go.RowKit Go.PlainAid Go.Deep
set_option linter.unusedVariables false
/-- Four errors of errors.New's make, each at its own place, in the four variables. -/
structure Errs (w:World) (e1 e2 e3 e4:Addr):Prop where
  v1:w.cell? ⟨1,0,none⟩=some (.iface 289 (.pointer (some e1)))
  v2:w.cell? ⟨2,0,none⟩=some (.iface 289 (.pointer (some e2)))
  v3:w.cell? ⟨3,0,none⟩=some (.iface 289 (.pointer (some e3)))
  v4:w.cell? ⟨0,0,none⟩=some (.iface 289 (.pointer (some e4)))
  h1:∃ (c:Array Value) (t:TypeId),w.heap[e1.block]?=some (.cells c t (0,0))
  h2:∃ (c:Array Value) (t:TypeId),w.heap[e2.block]?=some (.cells c t (0,0))
  h3:∃ (c:Array Value) (t:TypeId),w.heap[e3.block]?=some (.cells c t (0,0))
  h4:∃ (c:Array Value) (t:TypeId),w.heap[e4.block]?=some (.cells c t (0,0))
  n21:e2 ≠ e1
  n31:e3 ≠ e1
  n32:e3 ≠ e2
  n41:e4 ≠ e1
  n42:e4 ≠ e2
  n43:e4 ≠ e3
set_option maxRecDepth 20000 in
set_option maxHeartbeats 4000000 in
theorem iCode_any (e1 e2 e3 e4:Addr) (c:Int) (hc:c=12∨c=11∨c=6∨c=14) (w:World) (hE:Errs w e1 e2 e3 e4) :
    Calls Tryz.prog 43 #[eOf (.iface 289 (.pointer (some e1))) (.iface 289 (.pointer (some e2))) (.iface 289 (.pointer (some e3))) (.iface 289 (.pointer (some e4))) c] w fun e w' => e=.returned (.int .i64 c)∧w'=w:=by
  have v1:=hE.v1
  obtain ⟨c1,t1,b1⟩:=hE.h1
  have v2:=hE.v2
  obtain ⟨c2,t2,b2⟩:=hE.h2
  have v3:=hE.v3
  obtain ⟨c3,t3,b3⟩:=hE.h3
  have v4:=hE.v4
  obtain ⟨c4,t4,b4⟩:=hE.h4
  rcases hc with rfl | rfl | rfl | rfl
  · have n0 := hE
    clear hE
    show Calls Tryz.prog 43 #[(.iface 289 (.pointer (some e1)))] w _
    clear n0
    go_enter Tryz.func43,Tryz.ntmps43
    go_wp2_with fail
    refine Calls.mono (eIs_same e1 _) ?_
    rintro e w2 ⟨rfl,hw⟩
    subst hw
    go_wp2
    go_ret
    exact ⟨rfl,rfl⟩
  · have n0 := hE
    clear hE
    show Calls Tryz.prog 43 #[(.iface 289 (.pointer (some e2)))] w _
    have o1:=eIs_other e2 e1 c2 c1 t2 t1 w n0.n21 b2 b1
    have O1:Hid _:=o1
    clear o1
    clear n0
    go_enter Tryz.func43,Tryz.ntmps43
    go_wp2_with fail
    refine Calls.mono O1.out ?_
    rintro e w2 ⟨rfl,hw⟩
    subst hw
    go_wp2_with fail
    refine Calls.mono (eIs_same e2 _) ?_
    rintro e w2 ⟨rfl,hw⟩
    subst hw
    go_wp2
    go_ret
    exact ⟨rfl,rfl⟩
  · have n0 := hE
    clear hE
    show Calls Tryz.prog 43 #[(.iface 289 (.pointer (some e3)))] w _
    have o1:=eIs_other e3 e1 c3 c1 t3 t1 w n0.n31 b3 b1
    have O1:Hid _:=o1
    clear o1
    have o2:=eIs_other e3 e2 c3 c2 t3 t2 w n0.n32 b3 b2
    have O2:Hid _:=o2
    clear o2
    clear n0
    go_enter Tryz.func43,Tryz.ntmps43
    go_wp2_with fail
    refine Calls.mono O1.out ?_
    rintro e w2 ⟨rfl,hw⟩
    subst hw
    go_wp2_with fail
    refine Calls.mono O2.out ?_
    rintro e w2 ⟨rfl,hw⟩
    subst hw
    go_wp2_with fail
    refine Calls.mono (eIs_same e3 _) ?_
    rintro e w2 ⟨rfl,hw⟩
    subst hw
    go_wp2
    go_ret
    exact ⟨rfl,rfl⟩
  · have n0 := hE
    clear hE
    show Calls Tryz.prog 43 #[(.iface 289 (.pointer (some e4)))] w _
    have o1:=eIs_other e4 e1 c4 c1 t4 t1 w n0.n41 b4 b1
    have O1:Hid _:=o1
    clear o1
    have o2:=eIs_other e4 e2 c4 c2 t4 t2 w n0.n42 b4 b2
    have O2:Hid _:=o2
    clear o2
    have o3:=eIs_other e4 e3 c4 c3 t4 t3 w n0.n43 b4 b3
    have O3:Hid _:=o3
    clear o3
    clear n0
    go_enter Tryz.func43,Tryz.ntmps43
    go_wp2_with fail
    refine Calls.mono O1.out ?_
    rintro e w2 ⟨rfl,hw⟩
    subst hw
    go_wp2_with fail
    refine Calls.mono O2.out ?_
    rintro e w2 ⟨rfl,hw⟩
    subst hw
    go_wp2_with fail
    refine Calls.mono O3.out ?_
    rintro e w2 ⟨rfl,hw⟩
    subst hw
    go_wp2_with fail
    refine Calls.mono (eIs_same e4 _) ?_
    rintro e w2 ⟨rfl,hw⟩
    subst hw
    go_wp2
    go_ret
    exact ⟨rfl,rfl⟩
end Go.Proofs.YtabfdidnjibdeaaGreatDoor
