/- Laid together: WkG, ErrIs. -/
import Derived.Test.YtabfdidnjibdeaaGreatDoorBR36
import Derived.Test.YtabfdidnjibdeaaGreatDoorChecked
import Derived.LaidEql
import Derived.LoopN
import Derived.Stop.Asserts
import Derived.RowKitTokens
namespace Go.Proofs.YtabfdidnjibdeaaGreatDoor
open Go.RowKit Go.PlainAid Go.Deep
set_option linter.unusedVariables false
theorem knd_th {l:List Nd}{j:Nat}(h:thB l ((j:Int)+1)=true):kndB l ((j:Int)+1)=(ndAt l j).k:=by
  rw [kndB,thB_num h,at_succ]
  rfl
theorem knd_zero (l:List Nd):kndB l 0=0:=by
  have h:inR 1 l.length 0=false:=by
    cases e:inR 1 l.length 0
    · rfl
    · have := inR_iff.1 e
      omega
  rw [kndB,h]
  rfl
theorem knd_dir {l:List Nd}{n:Int}(h:diB l n=true):kndB l n=1:=by
  have ht:=diB_th h
  obtain ⟨j,hj,_⟩:=th_num ht
  subst hj
  rw [knd_th ht]
  rw [diB_in ht] at h
  simpa using h
def wlk (l:List Nd) (s:Wy) (j:Nat) (ps:List ByteArray):Wy:=⟨if firB (ndAt l j).bo then 1 else s.at_,if firB (ndAt l j).bo then 1 else s.at_,emp,pbo (ndAt l j).bo++ps,s.lk+1⟩
structure GpM (l:List Nd) (fs:Bool) (s:Wy) (ps:List ByteArray) (g:Int × Int × ByteArray) (q:Int × Wy):Prop where
  gone:(g.1==0&&!ps.isEmpty)=true→q=(6,s)
  on:(g.1==0&&!ps.isEmpty)=false→(kndB l g.1==3&&(fs||!ps.isEmpty))=false→q=(0,⟨g.1,g.2.1,g.2.2,ps,s.lk⟩)
  link:(kndB l g.1==3&&(fs||!ps.isEmpty))=true→∃ j:Nat,g.1=(j:Int)+1∧thB l ((j:Int)+1)=true∧((ndAt l j).k==3)=true∧g.2.1=s.at_∧q=if 8≤s.lk then (14,s) else (0,wlk l s j ps)
theorem GpM.stay {l:List Nd}{fs:Bool}{s:Wy}{ps:List ByteArray}{g:Int × Int × ByteArray}{q:Int × Wy}(h0:(g.1==0)=false)(hk:kndB l g.1=1)(hq:q=(0,⟨g.1,g.2.1,g.2.2,ps,s.lk⟩)):GpM l fs s ps g q :=
  ⟨fun h=>(by rw [h0] at h;cases h),fun _ _=>hq,fun h=>(by rw [hk] at h;cases h)⟩
theorem gp_math {l:List Nd}{now:Int}{lt:Nat→Bool}{fs:Bool}{s:Wy}{k:Nat}{p:ByteArray}{ps:List ByteArray}(ht:treeB l now=true)(hk:s.at_=(k:Int)+1)(hd:diB l ((k:Int)+1)=true)(hlt:lt k=true):GpM l fs s ps (gp3 (ndAt l k) k p) (wst l lt fs s p ps):=by
  have hkk:((ndAt l k).k==1)=true:=by
    have h:=hd
    rw [diB_in (diB_th hd)] at h
    exact h
  have hW:wst l lt fs s p ps=(if p.toList==[46] then (0,⟨s.at_,s.at_,emp,ps,s.lk⟩) else if p.toList==[46,46] then (0,⟨(ndAt l k).up,(ndAt l k).up,emp,ps,s.lk⟩) else went l fs s p ps (fdT (ndAt l k).ns p.toList (ndAt l k).ns.length)):=by
    unfold wst
    have hkn:((k:Int)+1-1).toNat=k:=by omega
    rw [hk,hkn,hkk,hlt]
    rfl
  rw [hW]
  unfold gp3
  cases e1:(p.toList==[46])
  case true =>
    have h1:kndB l ((k:Int)+1)=1:=knd_dir hd
    have h0:((k:Int)+1==0)=false:=by simp;omega
    exact GpM.stay h0 h1 (by rw [hk];rfl)
  cases e2:(p.toList==[46,46])
  case true =>
    have hup:=(dir_facts ht hd).up
    have h1:kndB l (ndAt l k).up=1:=knd_dir hup
    have h0:((ndAt l k).up==0)=false:=by
      obtain ⟨j,hj,_⟩:=th_num (diB_th hup)
      rw [hj]
      simp
      omega
    exact GpM.stay h0 h1 rfl
  simp only [Bool.false_eq_true,if_false]
  have hns:=(nsB_T (dir_facts ht hd).ns).2
  have hnt:fdT (ndAt l k).ns p.toList (ndAt l k).ns.length≠0→thB l (fdT (ndAt l k).ns p.toList (ndAt l k).ns.length)=true:=fun e=>fdT_there _ hns e
  generalize fdT (ndAt l k).ns p.toList (ndAt l k).ns.length=n at hnt ⊢
  unfold went
  cases e3:(n==0)
  case true =>
    have hn:n=0:=by simpa using e3
    subst hn
    have hno:∀ b:Bool,(kndB l 0==3&&b)=true→False:=fun b h=>by
      rw [knd_zero] at h
      cases h
    cases e4:ps.isEmpty
    · exact ⟨fun _=>rfl,(fun h=>by rw [e4] at h;cases h),(fun h=>(hno _ h).elim)⟩
    · have hz : ps = [] := by simpa using e4
      subst hz
      exact ⟨(fun h=>by cases h),fun _ _=>by rw [hk];rfl,(fun h=>(hno _ h).elim)⟩
  have hn0:n≠0:=by simpa using e3
  obtain ⟨j,hj,_⟩:=th_num (hnt hn0)
  have hth:=hnt hn0
  subst hj
  rw [at_succ]
  have hkn:=knd_th hth
  refine ⟨(fun h=>by simp only [e3,Bool.false_and] at h;cases h),fun _ h=>?_,fun h=>⟨j,rfl,hth,?_,by rw [hk],?_⟩⟩
  all_goals simp only [hkn] at h
  · simp only [Bool.false_eq_true, if_false]
    rw [h]
    simp only [Bool.false_eq_true,if_false]
    rw [hk]
  · simp only [Bool.and_eq_true] at h
    exact h.1
  · simp only [Bool.false_eq_true, if_false]
    rw [h]
    simp only [if_true,wlk]
    split
    · rfl
    · split<;>rfl
def eOf (E1 E2 E3 E4:Value) (c:Int):Value:=if c==12 then E1 else if c==11 then E2 else if c==6 then E3 else E4
def wMi (w:World) (P:Nat):Nat:=match w.cell? ⟨P,9,none⟩,w.cell? ⟨P,6,none⟩ with
  | some (.int _ k),some (.slice _ n _)=>(9-k.toNat)*1000+n
  | _,_=>0
theorem wMi_at {w:World}{P:Nat}{k:IntKind}{lk:Int}{pa:Option Addr}{n c:Nat}(h9:w.cell? ⟨P,9,none⟩=some (.int k lk))(h6:w.cell? ⟨P,6,none⟩=some (.slice pa n c)):wMi w P=(9-lk.toNat)*1000+n:=by
  simp only [wMi,h9,h6]
end Go.Proofs.YtabfdidnjibdeaaGreatDoor
namespace Go.Proofs.YtabfdidnjibdeaaGreatDoor
open Go.RowKit Go.Extern.Stop Go.Stop Go.Extern Go.PlainAid Go.Deep
set_option linter.unusedVariables false
theorem eTypeOf (v:Value)(w:World):(Extern.ReflectliteType.typeOf #[.iface 289 v]).run Tryz.prog w=.ok (.iface 227 (.agg #[.pointer (some ⟨7,289,none⟩)])) w:=by kernel_rfl
def cmpF:TypeId→Sem Value:=fun t=>do
  Go.Extern.Rtype.noPackHeld "Comparable" t
  pure (.bool (←typeInfo t).comparable)
theorem eComparable (w:World):(Extern.ReflectliteType.method cmpF #[.agg #[.pointer (some ⟨7,289,none⟩)]]).run Tryz.prog w=.ok (.bool true) w:=by kernel_rfl
theorem eMethod (v : Value) (w : World) : (Go.method 172 227 v "Comparable").run Tryz.prog w = .ok (280, v) w := by kernel_rfl
theorem eComp:(Tryz.prog.info? 289).map (·.comparable)=some true:=by kernel_rfl
theorem eSize:(Tryz.prog.info? 314).map (·.size)=some 1:=by kernel_rfl
theorem eNoIs (v:Value)(xT:TypeId)(w:World):(Instr.typeAssert (.iface 289 v) xT 229 true).run Tryz.prog w=.ok (.tuple #[.nilIface,.bool false]) w:=run_typeAssert_lacksB Tryz.underlying229 (by kernel_rfl) (by kernel_rfl) v xT w
theorem eNoUnwrap (v:Value)(xT:TypeId)(w:World):(Instr.typeAssert (.iface 289 v) xT 232 true).run Tryz.prog w=.ok (.tuple #[.nilIface,.bool false]) w:=run_typeAssert_lacksB Tryz.underlying232 (by kernel_rfl) (by kernel_rfl) v xT w
theorem eNoUnwraps (v:Value)(xT:TypeId)(w:World):(Instr.typeAssert (.iface 289 v) xT 233 true).run Tryz.prog w=.ok (.tuple #[.nilIface,.bool false]) w:=run_typeAssert_lacksB Tryz.underlying233 (by kernel_rfl) (by kernel_rfl) v xT w
set_option maxRecDepth 20000 in
set_option maxHeartbeats 4000000 in
theorem eIs_same (a:Addr)(w:World) :
    Calls Tryz.prog 85 #[.iface 289 (.pointer (some a)),.iface 289 (.pointer (some a))] w fun e w'=>e=.returned (.bool true)∧w'=w:=by
  obtain ⟨i,hi,hcmp⟩:=Option.map_eq_some_iff.1 eComp
  obtain ⟨j,hj,hjs⟩:=Option.map_eq_some_iff.1 eSize
  have h8:=@run_callFunc_extern Tryz.prog 131 _ Extern.ReflectliteType.typeOf Tryz.func131 (by kernel_rfl) (by kernel_rfl) (by kernel_rfl) (by kernel_rfl)
  have h32:=@run_callFunc_extern Tryz.prog 280 _ (Extern.ReflectliteType.method cmpF) Tryz.func280 (by kernel_rfl) (by kernel_rfl) (by kernel_rfl) (by kernel_rfl)
  have tT:=eTypeOf
  have cT:=eComparable
  have mR:=eMethod
  have heq:=run_eql_iface_ptr_same (P:=Tryz.prog) w a Tryz.underlying72 Tryz.underlying289 hi hcmp hj
  go_enter Tryz.func85,Tryz.ntmps85
  go_wp2
  refine wp_loop_rounds 1 ?_
  rw [rounds_succ]
  go_wp2
  go_ret
  exact ⟨rfl,rfl⟩
set_option maxRecDepth 20000 in
set_option maxHeartbeats 4000000 in
theorem eIs_other (a b:Addr)(ca cb:Array Value)(ta tb:TypeId)(w:World)(hne:a≠b)(ha:w.heap[a.block]?=some (.cells ca ta (0,0)))(hb:w.heap[b.block]?=some (.cells cb tb (0,0))) :
    Calls Tryz.prog 85 #[.iface 289 (.pointer (some a)),.iface 289 (.pointer (some b))] w fun e w'=>e=.returned (.bool false)∧w'=w:=by
  obtain ⟨i,hi,hcmp⟩:=Option.map_eq_some_iff.1 eComp
  obtain ⟨j,hj,hjs⟩:=Option.map_eq_some_iff.1 eSize
  have h8:=@run_callFunc_extern Tryz.prog 131 _ Extern.ReflectliteType.typeOf Tryz.func131 (by kernel_rfl) (by kernel_rfl) (by kernel_rfl) (by kernel_rfl)
  have h32:=@run_callFunc_extern Tryz.prog 280 _ (Extern.ReflectliteType.method cmpF) Tryz.func280 (by kernel_rfl) (by kernel_rfl) (by kernel_rfl) (by kernel_rfl)
  have tT:=eTypeOf
  have cT:=eComparable
  have mR:=eMethod
  have nE:=eNoIs
  have uE:=eNoUnwrap
  have vE:=eNoUnwraps
  have heq:=run_eql_iface_ptr_other (P:=Tryz.prog) w Tryz.underlying72 Tryz.underlying289 hi hcmp hj (by rw [hjs];decide) hne ha hb
  go_enter Tryz.func85,Tryz.ntmps85
  go_wp2
  refine wp_loop_rounds 1 ?_
  rw [rounds_succ]
  go_wp2
  go_ret
  exact ⟨rfl,rfl⟩
end Go.Proofs.YtabfdidnjibdeaaGreatDoor
