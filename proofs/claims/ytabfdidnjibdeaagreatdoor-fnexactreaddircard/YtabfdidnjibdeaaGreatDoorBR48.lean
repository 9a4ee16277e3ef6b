/- Laid together: Sent4. -/
import Derived.Stop.LaidErr
namespace Go.Proofs.YtabfdidnjibdeaaGreatDoor
open Go Go.RowKit Go.ChangeShapes
theorem laid_sent4 {P:Program}{n0 n1 n2 n3 nm:String}{x0 x1 x2 x3:List UInt8}{r:List (String × DataW Unit)}{W:World}{g0 g1 g2 g3:Nat}{ti tp te ts:TypeId}{ms:Array (String × TypeId)}{f:Field}
    (h:laidMet P ((n0,.iface nm (.ptr (.agg [.lit (.string x0)]))) :: (n1,.iface nm (.ptr (.agg [.lit (.string x1)]))) :: (n2,.iface nm (.ptr (.agg [.lit (.string x2)]))) :: (n3,.iface nm (.ptr (.agg [.lit (.string x3)]))) :: r) W)
    (hg0:P.globalNamed n0=some g0) (ht0:(P.globals[g0]?).map (·.type)=some ti) (hg1:P.globalNamed n1=some g1) (ht1:(P.globals[g1]?).map (·.type)=some ti)
    (hg2:P.globalNamed n2=some g2) (ht2:(P.globals[g2]?).map (·.type)=some ti) (hg3:P.globalNamed n3=some g3) (ht3:(P.globals[g3]?).map (·.type)=some ti)
    (hi:P.underlying ti=some (.interface ms)) (hrow:∀ u,P.typeName? 3 u=some nm→u=tp)
    (hp:P.underlying tp=some (.pointer te)) (he:P.underlying te=some (.struct #[f])) (hft:f.type=ts) (hfo:f.offset=0) (hs:P.underlying ts=some .string) (hc:P.cellsOf te=1) (hcs:P.cellsOf ts=1) :
    ∃ a0 a1 a2 a3:Addr,(W.cell? ⟨g0,0,none⟩=some (.iface tp (.pointer (some a0)))∧W.cell? ⟨g1,0,none⟩=some (.iface tp (.pointer (some a1)))∧W.cell? ⟨g2,0,none⟩=some (.iface tp (.pointer (some a2)))∧W.cell? ⟨g3,0,none⟩=some (.iface tp (.pointer (some a3)))) ∧
      ((∃ c t,W.heap[a0.block]?=some (.cells c t (0,0)))∧(∃ c t,W.heap[a1.block]?=some (.cells c t (0,0)))∧(∃ c t,W.heap[a2.block]?=some (.cells c t (0,0)))∧∃ c t,W.heap[a3.block]?=some (.cells c t (0,0))) ∧
      (W.var? P n0=some #[.iface tp (.pointer (some a0))]∧W.var? P n1=some #[.iface tp (.pointer (some a1))]∧W.var? P n2=some #[.iface tp (.pointer (some a2))]∧W.var? P n3=some #[.iface tp (.pointer (some a3))]) ∧
      (a1≠a0∧a2≠a0∧a2≠a1∧a3≠a0∧a3≠a1∧a3≠a2):=by
  obtain ⟨ps,⟨k0,u0,d0,_,p0,_,hk0,hu0,hv0,hd0,⟨k1,u1,d1,_,p1,_,hk1,hu1,hv1,hd1,⟨k2,u2,d2,_,p2,_,hk2,hu2,hv2,hd2,⟨k3,u3,d3,_,p3,_,hk3,hu3,hv3,hd3,_,e3⟩,e2⟩,e1⟩,e0⟩,hnd,hrows⟩:=h
  obtain rfl:=Option.some.inj (hg0.symm.trans hk0)
  obtain rfl:=Option.some.inj (hg1.symm.trans hk1)
  obtain rfl:=Option.some.inj (hg2.symm.trans hk2)
  obtain rfl:=Option.some.inj (hg3.symm.trans hk3)
  obtain rfl:=Option.some.inj (ht0.symm.trans hu0)
  obtain rfl:=Option.some.inj (ht1.symm.trans hu1)
  obtain rfl:=Option.some.inj (ht2.symm.trans hu2)
  obtain rfl:=Option.some.inj (ht3.symm.trans hu3)
  subst e3;subst e2;subst e1;subst e0
  obtain ⟨l0⟩:=d0
  obtain ⟨l1⟩:=d1
  obtain ⟨l2⟩:=d2
  obtain ⟨l3⟩:=d3
  have c0:=fun i=>World.var?_cell hk0 hv0 i
  have c1:=fun i=>World.var?_cell hk1 hv1 i
  have c2:=fun i=>World.var?_cell hk2 hv2 i
  have c3:=fun i=>World.var?_cell hk3 hv3 i
  have ok0:∀ u v,l0=[.iface u v]→Value.okWide P W .any 0 u v:=fun u v e=>by
    subst e;exact (hrows g0 0 (by simp [MemPlace.row])).2 u v (by simpa using c0 0)
  have ok1:∀ u v,l1=[.iface u v]→Value.okWide P W .any 0 u v:=fun u v e=>by
    subst e;exact (hrows g1 0 (by simp [MemPlace.row])).2 u v (by simpa using c1 0)
  have ok2:∀ u v,l2=[.iface u v]→Value.okWide P W .any 0 u v:=fun u v e=>by
    subst e;exact (hrows g2 0 (by simp [MemPlace.row])).2 u v (by simpa using c2 0)
  have ok3:∀ u v,l3=[.iface u v]→Value.okWide P W .any 0 u v:=fun u v e=>by
    subst e;exact (hrows g3 0 (by simp [MemPlace.row])).2 u v (by simpa using c3 0)
  obtain ⟨a0,s0,rfl,_,_,_,rfl⟩:=errorString_of_trod hi hrow hp he hft hfo hs hc hcs hd0 ok0
  obtain ⟨a1,s1,rfl,_,_,_,rfl⟩:=errorString_of_trod hi hrow hp he hft hfo hs hc hcs hd1 ok1
  obtain ⟨a2,s2,rfl,_,_,_,rfl⟩:=errorString_of_trod hi hrow hp he hft hfo hs hc hcs hd2 ok2
  obtain ⟨a3,s3,rfl,_,_,_,rfl⟩:=errorString_of_trod hi hrow hp he hft hfo hs hc hcs hd3 ok3
  refine ⟨a0,a1,a2,a3,⟨by simpa using c0 0,by simpa using c1 0,by simpa using c2 0,by simpa using c3 0⟩,⟨(hrows a0.block a0.off (by simp [MemPlace.row])).1,(hrows a1.block a1.off (by simp [MemPlace.row])).1,(hrows a2.block a2.off (by simp [MemPlace.row])).1,(hrows a3.block a3.off (by simp [MemPlace.row])).1⟩,⟨hv0,hv1,hv2,hv3⟩,?_⟩
  clear hrows ok0 ok1 ok2 ok3 c0 c1 c2 c3 hd0 hd1 hd2 hd3 hv0 hv1 hv2 hv3
  refine ⟨?_,?_,?_,?_,?_,?_⟩<;>(rintro rfl;simp [MemPlace.row] at hnd)
theorem vars_read4 {H:Type}(enc:TypeId × Value→H){P:Program}{W:World}{n0 n1 n2 n3:String}{g0 g1 g2 g3:Nat}{ti:TypeId}{ms:Array (String × TypeId)}{x0 x1 x2 x3:Value}
    (hi:P.underlying ti=some (.interface ms))
    (hg0:P.globalNamed n0=some g0) (ht0:(P.globals[g0]?).map (·.type)=some ti) (h0:W.var? P n0=some #[x0]) (i0:IsIface x0)
    (hg1:P.globalNamed n1=some g1) (ht1:(P.globals[g1]?).map (·.type)=some ti) (h1:W.var? P n1=some #[x1]) (i1:IsIface x1)
    (hg2:P.globalNamed n2=some g2) (ht2:(P.globals[g2]?).map (·.type)=some ti) (h2:W.var? P n2=some #[x2]) (i2:IsIface x2)
    (hg3:P.globalNamed n3=some g3) (ht3:(P.globals[g3]?).map (·.type)=some ti) (h3:W.var? P n3=some #[x3]) (i3:IsIface x3) (sp:Nat→Bool) :
    DataW.TrodVars enc P W sp [n0,n1,n2,n3] [tok enc x0,tok enc x1,tok enc x2,tok enc x3] [.cell g0 0,.cell g1 0,.cell g2 0,.cell g3 0] :=
  ⟨g0,ti,#[x0],1,[],[.cell g1 0,.cell g2 0,.cell g3 0],hg0,ht0,h0,trod_held hi i0 0,⟨g1,ti,#[x1],1,[],[.cell g2 0,.cell g3 0],hg1,ht1,h1,trod_held hi i1 0,⟨g2,ti,#[x2],1,[],[.cell g3 0],hg2,ht2,h2,trod_held hi i2 0,⟨g3,ti,#[x3],1,[],[],hg3,ht3,h3,trod_held hi i3 0,rfl,rfl⟩,rfl⟩,rfl⟩,rfl⟩
end Go.Proofs.YtabfdidnjibdeaaGreatDoor
