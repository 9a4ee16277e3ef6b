/- Laid together: ReadDirLift. -/
import Derived.Test.YtabfdidnjibdeaaGreatDoorBR46
import Derived.Test.YtabfdidnjibdeaaGreatDoorBR47
import Derived.Test.YtabfdidnjibdeaaGreatDoorTie
import Derived.Test.YtabfdidnjibdeaaGreatDoorCards
import Derived.SevenTiedAt
import Derived.HandedShaped
import Derived.LaidMore
import Derived.Lay
import Derived.ChangeVars
import Derived.MakeChecks
import Derived.Stop.Joined
import Derived.Test.YtabfdidnjibdeaaGreatDoorBR48
import Derived.ProofKit
import Derived.OpenShut
import Derived.ShutString
import Derived.ChangeOld
namespace Go.Proofs.YtabfdidnjibdeaaGreatDoor.fnExactReadDir
open Go.ChangeShapes Go.WideShapes Go.ChangeAt Go.RowKit Go.Joins
open Go.ChangeMaps (open_string shut_string)
set_option linter.unusedVariables false

theorem own:ownKnob Tryz.prog.godebug=none:=by kernel_rfl
theorem laidOut:laidOutB Tryz.prog=true:=by kernel_rfl
theorem cellsI:Tryz.prog.cellsOf 2=1:=by kernel_rfl
theorem returns_shaped_and {H:Type}{enc:TypeId × Value→H}{a:Assume}{C:Checked}{os:Os}{f:FuncId}{fn:Func}{s:ChangeSpec}{apart fresh handsOn again:Bool}{X:World→Array Value→Prop}
    (hX:∀ (w w':World) (args:Array Value),w.heap=w'.heap→X w args→X w' args)
    (own:ownKnob C.prog.godebug=none) (started:os.Started) (noInit:C.prog.inits.idxOf? f=none) (hfn:C.prog.funcs[f]?=some fn)
    (witness:∃ (w:World) (tape:Tape) (i:Input),w.os=os∧(w.forCall tape i).Shaped C.prog∧i.vars=[]∧Input.okWide C.prog (w.forCall tape i) .any w.heap.size f i ∧
      ((s.pre enc C.prog fn [] apart (w.forCall tape i).memory i.args∧X (w.forCall tape i).memory i.args)∧sizedMet enc C.prog fn (OpenSpec.ofChange s) apart (w.forCall tape i).memory i.args)∧a.holds C.prog (lone (Frame.enter C.prog f i.args .normal) [] (w.forCall tape i)))
    (contract:∀ (W:World) (base:Nat) (args:Array Value) (ds gs:List (DataW H)) (before:List MemPlace),
      (∀ (j:Nat) t v,fn.params[j]?=some t→args[j]?=some v→Value.okWide C.prog W .any base t v) →
      DataW.Whole enc C.prog fn.params.toList s.vars apart W args.toList ds gs before→W.ShapedOpen C.prog→X W args →
      Calls C.prog f args W fun e W'=>∃ v,e=.returned v∧s.post enc C.prog fn apart fresh handsOn again W args v W') :
    ReturnsInHanded a C os f .any (fun w args=>(s.pre enc C.prog fn [] apart w args∧X w args)∧sizedMet enc C.prog fn (OpenSpec.ofChange s) apart w args) (s.post enc C.prog fn apart fresh handsOn again):=by
  refine returnsInHanded_of_calls own started noInit witness ?_
  intro w tape i _ hsh _ hok hpre hholds
  obtain ⟨_,_,_,fn',hfn',_,_,_,_,hval⟩:=hok
  obtain rfl:fn'=fn:=Option.some.inj (hfn'.symm.trans hfn)
  obtain ⟨⟨⟨ds,gs,before,hw,hc⟩,hx⟩,hz⟩:=hpre
  have hw':=DataW.Whole.of_heap (w':=w.forCall tape i) (by rfl) hw
  refine (contract (w.forCall tape i) w.heap.size i.args ds gs before hval hw' hsh (hX _ _ _ (by rfl) hx)).mono fun e W' ⟨v,he,hp⟩=>?_
  subst he
  exact ChangeSpec.post_blind hp
abbrev laidP : List (String × DataW Unit) := [("unicode/utf8.acceptRanges", Rows.laid_unicode_utf8_acceptRanges), ("loop.example/g00622/impl.errNoDirectory", Rows.laid_loop_example_g00622_impl_errNoDirectory), ("loop.example/g00622/impl.errNotLetIn", Rows.laid_loop_example_g00622_impl_errNotLetIn), ("loop.example/g00622/impl.errNoEntry", Rows.laid_loop_example_g00622_impl_errNoEntry), ("loop.example/g00622/impl.errManyLinks", Rows.laid_loop_example_g00622_impl_errManyLinks), ("unicode/utf8.first", Rows.laid_unicode_utf8_first)]
theorem cellsC:Tryz.prog.cellsOf 27=4:=by kernel_rfl
def IsRow (w:World) (a:Option Addr) (len cap:Nat) (zs:List Int):Prop :=
  (a=none∧len=0∧cap=0∧zs=[]) ∨
  ∃ x,a=some x∧len≤cap∧cap≤maxLen∧zs.length=cap∧(∀ i,i<zs.length→w.cell? (x.add i)=some (.int .i64 (zs.getD i 0)))∧∀ n ∈ zs,(Lit.int .i64 n).wf=true
theorem ints_of {w:World}{a:Option Addr}{len cap:Nat}{zs:List Int}(h0:IsRow w a len cap zs):Ints a len (fun i=>zs.getD i 0) w∧len≤9223372036854775807:=by
  constructor
  · intro hp
    rcases h0 with ⟨_,rfl,_,_⟩ | ⟨⟨b,off,spot⟩,rfl,hlc,_,hz,hcell,_⟩
    · omega
    · have h0 := hcell 0 (by omega)
      have hs:spot=none:=by simpa [Addr.add] using World.cell?_spot h0
      subst hs
      refine ⟨b,off,rfl,?_,fun i hi=>?_⟩
      · have h1 : w.cell? ⟨b, off, none⟩ = some (.int .i64 (zs.getD 0 0)) := by simpa [Addr.add] using h0
        exact block_lt_of_cell h1
      · have h2 := hcell i (by omega)
        by_cases e:i=0
        · subst e;simpa [Addr.add] using h2
        · simpa [Addr.add,e] using h2
  · rcases h0 with ⟨_, rfl, _, _⟩ | ⟨_, _, hlc, hc, _⟩
    · omega
    · unfold maxLen at hc
      omega
theorem cellsT:Tryz.prog.cellsOf 24=2:=by kernel_rfl
theorem two_of {cs:List Value}(h:cs.length=2):∃ x y,cs=[x,y]:=by
  match cs,h with
  | [x,y],_=>exact ⟨x,y,rfl⟩
theorem starE : "*" ++ "errors.errorString" = "*errors.errorString" := by decide
theorem rowE (u : TypeId) (h : Tryz.prog.typeName? 3 u = some "*errors.errorString") : u = 289 :=
  typeName_ptr_named (nm := "errors.errorString") (by rw [starE]; kernel_rfl) (by kernel_rfl) (by decide) u (by rw [starE]; exact h)
theorem cellsE:Tryz.prog.cellsOf 314=1:=by kernel_rfl
theorem cellsG:Tryz.prog.cellsOf 9=1:=by kernel_rfl
theorem gN0 : Tryz.prog.globalNamed "loop.example/g00622/impl.errNoDirectory" = some 1 := by kernel_rfl
theorem gT0:(Tryz.prog.globals[1]?).map (·.type)=some 72:=by kernel_rfl
theorem gN1 : Tryz.prog.globalNamed "loop.example/g00622/impl.errNotLetIn" = some 2 := by kernel_rfl
theorem gT1:(Tryz.prog.globals[2]?).map (·.type)=some 72:=by kernel_rfl
theorem gN2 : Tryz.prog.globalNamed "loop.example/g00622/impl.errNoEntry" = some 3 := by kernel_rfl
theorem gT2:(Tryz.prog.globals[3]?).map (·.type)=some 72:=by kernel_rfl
theorem gN3 : Tryz.prog.globalNamed "loop.example/g00622/impl.errManyLinks" = some 0 := by kernel_rfl
theorem gT3:(Tryz.prog.globals[0]?).map (·.type)=some 72:=by kernel_rfl

/-! ### The walk: the law returns true, and writes nothing that was there. -/
theorem walk (a0:Option Addr)(l0 c0:Nat)(xs0:List Nd)(now0:Int)(u1 g1:Int)(a1:Option Addr)(l1 c1:Nat)(r1:Bool)(f1:Nat→Int)(s2:ByteArray)(w:World)(ps0:Nds a0 l0 xs0 w)(bs0:l0≤9223372036854775807)(fs0:∀ i,i<l0→NdFit 9223372036854775807 (ndAt xs0 i))(pi1:Ints a1 l1 f1 w)(bl1:l1≤9223372036854775807)(w2:s2.size≤maxLen)(m:Int)(hm:w.cell? ⟨4,0,none⟩=some (.int .i64 m))(e1 e2 e3 e4:Addr)(hE:Errs w e1 e2 e3 e4) :
    Calls Tryz.prog 7 #[.agg #[.slice a0 l0 c0,.int .i64 now0],.agg #[.int .i64 u1,.int .i64 g1,.slice a1 l1 c1,.bool r1],.string s2] w fun e w'=>e=.returned (.bool true)∧Below w.heap.size w w':=by
  exact readDir_any a0 l0 c0 xs0 now0 u1 g1 a1 l1 c1 r1 f1 s2 m e1 e2 e3 e4 bs0 fs0 bl1 (by unfold maxLen at w2;omega) w ps0 pi1 hm hE

/-! ### The row's step -/
set_option maxRecDepth 100000 in
set_option maxHeartbeats 2000000 in
theorem lifted (os:Os)(started:os.Started)(H:Type)(enc:TypeId × Value→H) :
    ReturnsInHanded {} Tryz.checked os 7 .any (fun w args=>(Rows.fnExactReadDirSpec.pre enc Tryz.prog Tryz.f7 [] false w args∧laidMetH Tryz.prog laidP w)∧sizedMet enc Tryz.prog Tryz.f7 (OpenSpec.ofChange Rows.fnExactReadDirSpec) false w args) (Rows.fnExactReadDirSpec.post enc Tryz.prog Tryz.f7 false true false false):=by
  refine returns_shaped_and (C:=Tryz.checked) (X:=fun w _=>laidMetH Tryz.prog laidP w) (fun _ _ _ hh h=>h.of_heap hh) own started (by kernel_rfl) Tryz.func7
    (ChangeSpec.witness_shaped (enc:=enc) (C:=Tryz.checked) (os:=os) (X:=fun w _=>laidMetH Tryz.prog laidP w) false (World.laidAll Tryz.prog os laidP) #[.agg #[.slice none 0 0,.int .i64 0],.agg #[.int .i64 0,.int .i64 0,.slice none 0 0,.bool false],.string ByteArray.empty] 8 (World.laidAll_os _ _ _)
      (World.shaped_of_ZipB (by kernel_rfl) (by kernel_rfl)) (by kernel_rfl) (by kernel_rfl) (by kernel_rfl)
      (by rw [MakeChecks.laidMetH_plain _ _ _ (by kernel_rfl)];exact laidMet_laidAll _ (by kernel_rfl) (by kernel_rfl))) ?_
  intro W base args ds gs before hval0 hW hsh hL
  have hval:∀ (j:Nat) t v,Tryz.f7.params[j]?=some t→args[j]?=some v→Value.okWide Tryz.prog W .any base t v:=hval0
  have hW':=hW
  obtain ⟨p,q,hA0,hV,rfl,hfz,hnd⟩:=hW
  have hA:DataW.TrodAll enc Tryz.prog W 0 (fun _=>true) true Tryz.f7.params.toList args.toList ds p:=hA0
  rw [Tryz.params7] at hA hval
  obtain ⟨v0,vs0,d0,ds0,p0,q0,hargs,rfl,rfl,h0,rr0⟩:=trodAll_cons hA
  obtain ⟨v1,vs1,d1,ds1,p1,q1,rfl,rfl,rfl,h1,rr1⟩:=trodAll_cons rr0
  obtain ⟨v2,vs2,d2,ds2,p2,q2,rfl,rfl,rfl,h2,rr2⟩:=trodAll_cons rr1
  obtain ⟨rfl,rfl,rfl⟩:=trodAll_nil rr2
  obtain rfl:args=#[v0,v1,v2]:=by cases args;simp_all
  rw [MakeChecks.laidMetH_plain _ _ _ (by kernel_rfl)] at hL
  obtain ⟨b0,b1,b2,b3,⟨hv0,hv1,hv2,hv3⟩,⟨hh0,hh1,hh2,hh3⟩,⟨vv0,vv1,vv2,vv3⟩,n10,n20,n21,n30,n31,n32⟩:=laid_sent4 (tp:=289) (laidMet.tail hL) gN0 gT0 gN1 gT1 gN2 gT2 gN3 gT3 Tryz.underlying72 rowE Tryz.underlying289 Tryz.underlying314 rfl rfl Tryz.underlying9 cellsE cellsG
  have hE:Errs W b0 b1 b2 b3:=⟨hv0,hv1,hv2,hv3,hh0,hh1,hh2,hh3,n10,n20,n21,n30,n31,n32⟩
  have vr : ∀ {X : World}, X.var? Tryz.prog "loop.example/g00622/impl.errManyLinks" = some #[.iface 289 (.pointer (some b3))] → X.var? Tryz.prog "loop.example/g00622/impl.errNoDirectory" = some #[.iface 289 (.pointer (some b0))] → X.var? Tryz.prog "loop.example/g00622/impl.errNotLetIn" = some #[.iface 289 (.pointer (some b1))] → X.var? Tryz.prog "loop.example/g00622/impl.errNoEntry" = some #[.iface 289 (.pointer (some b2))] → ∀ sp : Nat → Bool, DataW.TrodVars enc Tryz.prog X sp ["loop.example/g00622/impl.errManyLinks", "loop.example/g00622/impl.errNoDirectory", "loop.example/g00622/impl.errNotLetIn", "loop.example/g00622/impl.errNoEntry"] [tok enc (.iface 289 (.pointer (some b3))), tok enc (.iface 289 (.pointer (some b0))), tok enc (.iface 289 (.pointer (some b1))), tok enc (.iface 289 (.pointer (some b2)))] [.cell 0 0, .cell 1 0, .cell 2 0, .cell 3 0] :=
    fun z0 z1 z2 z3 sp=>vars_read4 enc Tryz.underlying72 gN3 gT3 z0 trivial gN0 gT0 z1 trivial gN1 gT1 z2 trivial gN2 gT2 z3 trivial sp
  obtain ⟨rfl,rfl⟩:=hV.unique (vr vv3 vv0 vv1 vv2 _)
  have k0:=h0
  have lt0:∀ x ∈ p0,x.block<W.heap.size:=by obtain ⟨m,hm⟩:=k0;exact DataW.trod_lt m _ _ _ hm
  obtain ⟨cs0,nn0,rfl,hcl0,hcf0⟩:=open_aggN Tryz.underlying24 (by kernel_rfl) cellsT (hval 0 24 v0 rfl rfl) h0
  obtain ⟨q0a,q0b,rfl⟩:=two_of hcl0
  obtain ⟨ya0,ta0⟩:=hcf0 0 _ q0a rfl rfl
  obtain ⟨yb0,tb0⟩:=hcf0 1 _ q0b rfl rfl
  obtain ⟨a0,l0,c0,xs0,rfl,ps0,bs0,fs0⟩:=open_nds ta0
  obtain ⟨now0,en0,_,_⟩:=DataW.trod_int Tryz.underlying2 tb0
  simp at en0
  subst en0
  have k1:=h1
  have lt1:∀ x ∈ p1,x.block<W.heap.size:=by obtain ⟨m,hm⟩:=k1;exact DataW.trod_lt m _ _ _ hm
  obtain ⟨kc0,kc1,kc2,kc3,y0,y1,y2,y3,mm,rfl,rfl,rfl,hy0,hy1,hy2,hy3⟩:=open_agg4 Tryz.underlying27 (by kernel_rfl) cellsC (hval 1 27 v1 rfl rfl) h1
  obtain ⟨u1,e0,_,wu⟩:=DataW.trod_int Tryz.underlying2 hy0
  obtain ⟨g1,e1,_,wg⟩:=DataW.trod_int Tryz.underlying2 hy1
  simp at e0 e1
  subst e0 e1
  obtain ⟨a1,l1,c1,zs1,e2,w0⟩:∃ a len cap zs,kc2=.slice a len cap∧IsRow W a len cap zs:=by
    rcases open_ints Tryz.underlying25 Tryz.underlying2 cellsI hy2 with ⟨hcs,_⟩ | ⟨x,l,c,zs,hcs,_,hl,hm,hz,_,hcell,hwz⟩
    · exact ⟨none,0,0,[],by simpa using hcs,.inl ⟨rfl,rfl,rfl,rfl⟩⟩
    · exact ⟨some x,l,c,zs,by simpa using hcs,.inr ⟨x,rfl,hl,hm,by simpa using hz,hcell,hwz⟩⟩
  subst e2
  obtain ⟨r1,e3⟩:∃ r,kc3=.bool r:=by
    obtain ⟨r,e3,_⟩:=DataW.trod_bool Tryz.underlying4 hy3
    exact ⟨r,by simpa using e3⟩
  subst e3
  obtain ⟨pi1,bl1⟩:=ints_of w0
  have k2:=h2
  have lt2:∀ x ∈ p2,x.block<W.heap.size:=by obtain ⟨m,hm⟩:=k2;exact DataW.trod_lt m _ _ _ hm
  obtain ⟨s2,rfl,rfl,rfl,w2⟩:=open_string Tryz.underlying9 (hval 2 9 v2 rfl rfl) h2
  obtain ⟨m,hm⟩:∃ m,W.cell? ⟨4,0,none⟩=some (.int .i64 m):=Tryz.laysM146.s1_3 W hsh
  clear hA0 hval0
  refine (walk a0 l0 c0 xs0 now0 u1 g1 a1 l1 c1 r1 _ s2 W ps0 bs0 fs0 pi1 bl1 w2 m hm _ _ _ _ hE).mono fun e W' ⟨he,bel⟩=>?_
  subst he
  exact ⟨_,rfl,_,_,_,[],_,_,hW',trodAll_mk1 (shut_bool Tryz.underlying4 _),(trodAll_cons_mk (Below.trod laidOut (by kernel_rfl) (of_decide_eq_true (by kernel_rfl)) k0 bel lt0) (trodAll_cons_mk (Below.trod laidOut (by kernel_rfl) (of_decide_eq_true (by kernel_rfl)) k1 bel lt1) (trodAll_cons_mk (Below.trod laidOut (by kernel_rfl) (of_decide_eq_true (by kernel_rfl)) k2 bel lt2) trodAll_mk0))),(vr (Go.Joins.var_stays gN3 vv3 bel (Nat.le_refl _)) (Go.Joins.var_stays gN0 vv0 bel (Nat.le_refl _)) (Go.Joins.var_stays gN1 vv1 bel (Nat.le_refl _)) (Go.Joins.var_stays gN2 vv2 bel (Nat.le_refl _)) _),bel.frame _,fun h=>by cases h⟩

end Go.Proofs.YtabfdidnjibdeaaGreatDoor.fnExactReadDir
