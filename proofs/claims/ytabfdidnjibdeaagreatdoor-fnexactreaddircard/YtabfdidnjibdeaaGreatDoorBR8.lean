/- Laid together: TrDs, TrI5, TrI6, TrI7. -/
import Derived.Test.YtabfdidnjibdeaaGreatDoorBR7
import Derived.Laws.AppendOwn
import Derived.Deep.AppendSrc
import Derived.Deep.Upon
namespace Go.Proofs.YtabfdidnjibdeaaGreatDoor
open Go.RowKit Go.PlainAid Go.Deep
set_option linter.unusedVariables false
def dsV:List (Nd × Na × Int)→List Value
  | []=>[]
  | d :: l=>drV d.1 d.2.1 d.2.2++dsV l
theorem dsV_append (l k:List (Nd × Na × Int)):dsV (l++k)=dsV l++dsV k:=by
  induction l with
  | nil=>rfl
  | cons p l ih=>simp [dsV,ih]
theorem drV_one (x:Nd)(y:Na)(n:Int):∀ u ∈ drV x y n,u.oneCell'=true:=by simp [drV];simp [Value.oneCell']
theorem dsV_get:∀ (l:List (Nd × Na × Int)) (i:Nat) (hi:i<l.length) (j:Nat),j<25→(dsV l)[i*25+j]?=(drV (l[i]).1 (l[i]).2.1 (l[i]).2.2)[j]?
  | [],i,hi,_,_=>absurd hi (by simp)
  | d :: l,0,hi,j,hj=>by
    simp only [dsV,Nat.zero_mul,Nat.zero_add]
    rw [List.getElem?_append_left (by rw [drV_len];exact hj)]
    rfl
  | d :: l,i+1,hi,j,hj=>by
    simp only [dsV]
    rw [List.getElem?_append_right (by rw [drV_len];omega),drV_len]
    have e:(i+1)*25+j-25=i*25+j:=by omega
    rw [e,dsV_get l i (by simpa using hi) j hj]
    rfl
theorem ds_of_row {w:World}{B:Nat}{t:TypeId}{v:Value}{l:List (Nd × Na × Int)}(h:w.ownsRow B t 25 v l.length (dsV l)) :
    ∃ a cap,v=.slice a l.length cap∧(∀ i (hi:i<l.length),∃ g,a=some ⟨g,0,none⟩∧g<w.heap.size∧w.rangeAt g (i*25) (drV (l[i]).1 (l[i]).2.1 (l[i]).2.2)):=by
  obtain ⟨_,⟨rfl,hn⟩ | ⟨g,cap,cur,rfl,hb,hg,hc,_,hs,ht⟩⟩:=h
  · exact ⟨none,0,by rw [hn],fun i hi=>absurd hi (by omega)⟩
  · have hlt : g < w.heap.size := (Array.getElem?_eq_some_iff.1 hg).1
    refine ⟨some ⟨g,0,none⟩,cap,rfl,fun i hi=>⟨g,rfl,hlt,fun j u hj=>?_⟩⟩
    have hj25:j<25:=by
      have:=(List.getElem?_eq_some_iff.1 hj).1
      rwa [drV_len] at this
    rw [←dsV_get l i hi j hj25,←ht,List.getElem?_take_of_lt (by omega)] at hj
    have:w.cell? ⟨g,i*25+j,none⟩=cur[i*25+j]?:=by simp [World.cell?,hg]
    rw [this]
    simpa using hj
theorem own_blockU {w:World}{B:Nat}{t:TypeId}{s:Nat}{v:Value}{n:Nat}{xs:List Value}(h:w.ownsRow B t s v n xs):∀ k,v.ownBlock=some k→B≤k:=by
  obtain ⟨_,⟨rfl,_⟩ | ⟨g,cap,cur,rfl,hb,_⟩⟩:=h
  · intro k hk;simp [Value.ownBlock] at hk
  · intro k hk;simp [Value.ownBlock] at hk;omega
theorem rowU_below {w w':World}{B:Nat}{t:TypeId}{s:Nat}{v:Value}{n:Nat}{xs:List Value}(h:w.ownsRow B t s v n xs)(hb:Below w.heap.size w w'):w'.ownsRow B t s v n xs:=by
  obtain ⟨h0,⟨rfl,hn⟩ | ⟨g,cap,cur,rfl,hB,hg,hc,hm,hs,ht⟩⟩:=h
  · exact ⟨h0,.inl ⟨rfl,hn⟩⟩
  · have hlt : g < w.heap.size := (Array.getElem?_eq_some_iff.1 hg).1
    exact ⟨h0,.inr ⟨g,cap,cur,rfl,hB,(hb.block g hlt).trans hg,hc,hm,hs,ht⟩⟩
theorem row_apart {w:World}{B:Nat}{t:TypeId}{s:Nat}{v:Value}{n:Nat}{xs:List Value}(h:w.ownsRow B t s v n xs):v.ownBlock≠some w.heap.size:=by
  obtain ⟨_,⟨rfl,_⟩ | ⟨g,cap,cur,rfl,_,hg,_⟩⟩:=h
  · simp [Value.ownBlock]
  · have hlt : g < w.heap.size := (Array.getElem?_eq_some_iff.1 hg).1
    simp [Value.ownBlock]
    omega
theorem infoDir:(Tryz.prog.info? 162).map (fun i=>(i.zero,i.size,i.bytes))=some (some (.agg (drV ndZ naZ 0).toArray),25,288):=by kernel_rfl
theorem run_append_dir (w:World)(B:Nat)(ty:TypeId)(v:Value)(ds:List (Nd × Na × Int))(x:Nd)(y:Na)(n:Int)(hown:w.ownsRow B 162 25 v ds.length (dsV ds))(hsm:ds.length≤100000)(hB:B≤w.heap.size) :
    ∃ v' w',(Builtin.append_ #[163,163] ty #[v,.slice (some ⟨w.heap.size,0,none⟩) 1 1]).run Tryz.prog (w.alloc (.cells (drV x y n).toArray 162))=.ok v' w'∧w'.ownsRow B 162 25 v' (ds++[(x,y,n)]).length (dsV (ds++[(x,y,n)]))∧Below B w w'∧w.heap.size≤w'.heap.size∧(∀ k,k<w.heap.size→v.ownBlock≠some k→w'.heap[k]?=w.heap[k]?):=by
  obtain ⟨i,hi,hzz⟩:=Option.map_eq_some_iff.1 infoDir
  simp only [Prod.mk.injEq] at hzz
  obtain ⟨hz,hs,hb⟩:=hzz
  have hb1:Below w.heap.size w (w.alloc (.cells (drV x y n).toArray 162)):=bel_alloc _ _
  have hown1:=rowU_below hown hb1
  have hB1:B≤(w.alloc (.cells (drV x y n).toArray 162)).heap.size:=Nat.le_trans hB hb1.size
  have hnew:=(boxR_new w (drV x y n) 162).at0
  obtain ⟨v',w',hr,h1,h2,_⟩:=run_append_own (P:=Tryz.prog) _ B 163 ty 162 i _ 25 288 Tryz.underlying163 hi hz hs hb rfl (by decide) v ds.length (dsV ds) hown1 ⟨w.heap.size,0,none⟩ 1 1 (drV x y n) rfl (fun j u hj=>by rw [Addr.add_mid];exact hnew j u hj) (drV_one x y n) (by unfold maxLen;omega) (by omega) hB1
  refine ⟨v',w',hr,?_,(hb1.mono hB).grown h2 hB1 (own_blockU hown1),Nat.le_trans hb1.size h2.size,fun k hk hne=>(h2.block k (Nat.lt_of_lt_of_le hk hb1.size) (Ne.symm hne)).trans (hb1.block k hk)⟩
  rw [dsV_append,List.length_append]
  have e:dsV [(x,y,n)]=drV x y n:=by simp [dsV]
  rw [e]
  exact h1
theorem step_run {P:Program}{ops:Array Oper}{o:Oper}{a:Act}{w:World}{K:Act→World→Prop}{Q:Exit→Act→World→Prop}{E:Prop}(hw:Region.wanted o (yielded ops a.tmps)=true)(v:Value)(w':World)
    (hr:(execOp a.eval o).run P w=.ok (.value v) w') (hK:K (a.put o.dst v) w'):if Region.wanted o (yielded ops a.tmps)=true then Oper.wp P o a w K Q else E:=by
  rw [if_pos hw]
  unfold Oper.wp
  rw [hr]
  exact hK
theorem exec_build2 {P:Program}{o:Oper}{a:Act}{w:World}(t:TypeId)(x y:Operand)(ho:o.op=.build t #[(0,x),(1,y)])(u v:Value)(hx:a.eval x=u)(hy:a.eval y=v)(cs:Array Value)(hb:P.built t [(0,u),(1,v)]=some cs):(execOp a.eval o).run P w=.ok (.value (.agg cs)) w:=by
  have h1:(Instr.build t #[(0,u),(1,v)]).run P w=.ok (.agg cs) w:=run_build w t _ cs hb
  subst hx
  subst hy
  unfold execOp
  simp only [ho,Sem.run_bind,List.map_toArray,List.map_cons,List.map_nil,h1,Result.andThen_ok]
  rfl
theorem exec_slice1 {P:Program}{o:Oper}{a:Act}{w w':World}(t:TypeId)(x:Operand)(ho:o.op=.buildSlice t 1 #[(0,x)])(u v:Value)(hx:a.eval x=u)(hr:(Instr.buildSlice t 1 #[(0,u)]).run P w=.ok v w'):(execOp a.eval o).run P w=.ok (.value v) w':=by
  subst hx
  unfold execOp
  simp only [ho,Sem.run_bind,List.map_toArray,List.map_cons,List.map_nil,hr,Result.andThen_ok]
  rfl
theorem step_appendT {P:Program}{ops:Array Oper}{o:Oper}{a:Act}{w:World}{K:Act→World→Prop}{Q:Exit→Act→World→Prop}{E:Prop}
    (hg:o.guard=none) (s x:Operand) (t:TypeId) (hop:o.op=Op.call { callee:=Callee.builtin Builtin.append,args:=#[s,x],argTypes:=#[t,t] })
    (v xv v':Value) (w':World) (hs:a.eval s=v) (hx:a.eval x=xv) (hr:(Builtin.append_ #[t,t] o.type #[v,xv]).run P w=.ok v' w')
    (hK:K (a.put o.dst v') w') :
    if Region.wanted o (yielded ops a.tmps)=true then Oper.wp P o a w K Q else E:=by
  have hw:Region.wanted o (yielded ops a.tmps)=true:=by simp [Region.wanted,hg]
  rw [if_pos hw]
  unfold Oper.wp
  simp [execOp,hop,resolve,invoke,builtin,hs,hx,hr,Result.andThen]
  exact hK
end Go.Proofs.YtabfdidnjibdeaaGreatDoor
namespace Go.Proofs.YtabfdidnjibdeaaGreatDoor
open Go.RowKit Go.PlainAid Go.Deep
set_option linter.unusedSimpArgs false
set_option linter.unusedVariables false
def dirsOf (l:List Nd) (Y:Nat→Na):Nat→List (Nd × Na × Int)
  | 0=>[]
  | k+1=>if (ndAt l k).k==1 then dirsOf l Y k++[(ndAt l k,Y k,(k:Int)+1)] else dirsOf l Y k
theorem dirsOf_len (l:List Nd)(Y:Nat→Na):∀ k,(dirsOf l Y k).length≤k
  | 0=>Nat.le_refl _
  | k+1=>by
    have:=dirsOf_len l Y k
    simp only [dirsOf]
    split
    · simp;omega
    · omega
theorem range_heap {w w':World}{b o:Nat}{cs:List Value}(h:w.rangeAt b o cs)(hb:w'.heap[b]?=w.heap[b]?):w'.rangeAt b o cs:=range_keep h (fun j=>World.cell?_of_block (a:=⟨b,j,none⟩) hb)
set_option maxRecDepth 20000 in
set_option maxHeartbeats 8000000 in
theorem iDirs_any (a:Option Addr)(len cap:Nat)(l:List Nd)(now:Int)(Y:Nat→Na)(b off:Nat)(hl:len≤12)(w:World)(ha:0<len→a=some ⟨b,off,none⟩∧b<w.heap.size)(hc:∀ i,i<len→N24 w b (off+i*24) (ndAt l i) (Y i)) :
    Calls Tryz.prog 121 #[.agg #[.slice a len cap,.int .i64 now]] w fun e w'=>∃ v,e=.returned v∧w'.ownsRow w.heap.size 162 25 v (dirsOf l Y len).length (dsV (dirsOf l Y len))∧Below w.heap.size w w':=by
  have HA:Hid (0<len→a=some ⟨b,off,none⟩∧b<w.heap.size):=ha
  have HC:Hid (∀ i,i<len→N24 w b (off+i*24) (ndAt l i) (Y i)):=hc
  clear ha hc
  have HB:Hid (Below w.heap.size w (w.alloc (.cells #[.slice a len cap,.int .i64 now] 35))):=bel_alloc _ _
  have HX:Hid (BoxR (w.alloc (.cells #[.slice a len cap,.int .i64 now] 35)) w.heap.size [.slice a len cap,.int .i64 now]):=boxR_new _ _ _
  go_enter Tryz.func121,Tryz.ntmps121
  go_upto_region 1 with fail
  generalize (w.alloc (.cells #[.slice a len cap,.int .i64 now] 35))=w0 at HB HX ⊢
  obtain ⟨X,hX⟩:∃ X,X=w.heap.size:=⟨_,rfl⟩
  rw [←hX] at HX ⊢
  clear hX
  have t0:w0.cell? ⟨X,0,none⟩=some (.slice a len cap):=HX.out.at0 0 _ rfl
  have t1:w0.cell? ⟨X,1,none⟩=some (.int .i64 now):=HX.out.at0 1 _ rfl
  go_wp2
  go_loopw [9,3] (fun i v wr=>∃ k:Nat,k≤len∧i=.int .i64 k∧Hid (wr.ownsRow w.heap.size 162 25 v (dirsOf l Y k).length (dsV (dirsOf l Y k)))∧Hid (Below w.heap.size w wr)) (fun i _ _=>len-(intOf i).toNat)
  case atStart=>exact ⟨0,Nat.zero_le _,rfl,⟨rfl,.inl ⟨rfl,rfl⟩⟩,HB⟩
  case round =>
    obtain ⟨k,hk,rfl,hO,hB⟩:=hrel
    by_cases hlt:k<len
    · have hlt' : (k : Int) < (len : Int) := by omega
      have hk0:(0:Int)≤(k:Int):=by omega
      obtain ⟨hae,hb0⟩:=HA.out (by omega)
      subst hae
      have HNX:Hid (N24 wr b (off+k*24) (ndAt l k) (Y k)):=range_below (HC.out k hlt) hb0 hB.out
      have HD1:Hid (dirsOf l Y (k+1)=(if (ndAt l k).k==1 then dirsOf l Y k++[(ndAt l k,Y k,(k:Int)+1)] else dirsOf l Y k)):=rfl
      have hdl:=dirsOf_len l Y k
      generalize dirsOf l Y k=ds at hO HD1 hdl
      generalize ndAt l k=x at HNX HD1
      generalize Y k=y at HNX HD1
      have hbN:Below wr.heap.size wr ((wr.alloc (.cells #[.int .i64 0,.int .i64 0,.int .i64 0,.int .i64 0,.int .i64 0,.int .i64 0,.int .i64 0,.slice none 0 0,.slice none 0 0,.bool false,.int .i64 0,.bool false,.int .i64 0,.int .i64 0,.int .i64 0,.slice none 0 0,.slice none 0 0,.bool false,.int .i64 0,.int .i64 0,.int .i64 0,.string ⟨#[]⟩,.slice none 0 0,.int .i64 0] 84)).setCells wr.heap.size 0 (ndV x y)):=bl_setsT (Nat.le_refl _) _ _ (bel_alloc _ _)
      have HBn:Hid (Below w.heap.size w ((wr.alloc (.cells #[.int .i64 0,.int .i64 0,.int .i64 0,.int .i64 0,.int .i64 0,.int .i64 0,.int .i64 0,.slice none 0 0,.slice none 0 0,.bool false,.int .i64 0,.bool false,.int .i64 0,.int .i64 0,.int .i64 0,.slice none 0 0,.slice none 0 0,.bool false,.int .i64 0,.int .i64 0,.int .i64 0,.string ⟨#[]⟩,.slice none 0 0,.int .i64 0] 84)).setCells wr.heap.size 0 (ndV x y))):=Below.on hB.out hbN
      have HZn:Hid (BoxR ((wr.alloc (.cells #[.int .i64 0,.int .i64 0,.int .i64 0,.int .i64 0,.int .i64 0,.int .i64 0,.int .i64 0,.slice none 0 0,.slice none 0 0,.bool false,.int .i64 0,.bool false,.int .i64 0,.int .i64 0,.int .i64 0,.slice none 0 0,.slice none 0 0,.bool false,.int .i64 0,.int .i64 0,.int .i64 0,.string ⟨#[]⟩,.slice none 0 0,.int .i64 0] 84)).setCells wr.heap.size 0 (ndV x y)) wr.heap.size (ndV x y)):=⟨by rw [size_setCellsT];simp,World.rangeAt_setCells_same _ _ _ _ ((boxW_new wr [.int .i64 0,.int .i64 0,.int .i64 0,.int .i64 0,.int .i64 0,.int .i64 0,.int .i64 0,.slice none 0 0,.slice none 0 0,.bool false,.int .i64 0,.bool false,.int .i64 0,.int .i64 0,.int .i64 0,.slice none 0 0,.slice none 0 0,.bool false,.int .i64 0,.int .i64 0,.int .i64 0,.string ⟨#[]⟩,.slice none 0 0,.int .i64 0] 84).there 0 24 (by simp))⟩
      have HOn:Hid (((wr.alloc (.cells #[.int .i64 0,.int .i64 0,.int .i64 0,.int .i64 0,.int .i64 0,.int .i64 0,.int .i64 0,.slice none 0 0,.slice none 0 0,.bool false,.int .i64 0,.bool false,.int .i64 0,.int .i64 0,.int .i64 0,.slice none 0 0,.slice none 0 0,.bool false,.int .i64 0,.int .i64 0,.int .i64 0,.string ⟨#[]⟩,.slice none 0 0,.int .i64 0] 84)).setCells wr.heap.size 0 (ndV x y)).ownsRow w.heap.size 162 25 u3 ds.length (dsV ds)):=rowU_below hO.out hbN
      have HNe:Hid (u3.ownBlock≠some wr.heap.size):=row_apart hO.out
      clear hbN hO
      go_upto_region 5 with (first | (refine wpList_load_mid (by rfl) 84 _ (by rfl) _ _ (by rfl) _ _ HNX.out Tryz.underlying84 rfl (by kernel_rfl) ?_) | (refine wpList_store_list (by rfl) 84 _ _ (by rfl) _ _ (ndV x y) (by rfl) (by rfl) ((boxW_new wr [.int .i64 0,.int .i64 0,.int .i64 0,.int .i64 0,.int .i64 0,.int .i64 0,.int .i64 0,.slice none 0 0,.slice none 0 0,.bool false,.int .i64 0,.bool false,.int .i64 0,.int .i64 0,.int .i64 0,.slice none 0 0,.slice none 0 0,.bool false,.int .i64 0,.int .i64 0,.int .i64 0,.string ⟨#[]⟩,.slice none 0 0,.int .i64 0] 84).there 0 24 (by simp)) (by kernel_rfl) (ndV_ones _ _) ?_))
      generalize ((wr.alloc (.cells #[.int .i64 0,.int .i64 0,.int .i64 0,.int .i64 0,.int .i64 0,.int .i64 0,.int .i64 0,.slice none 0 0,.slice none 0 0,.bool false,.int .i64 0,.bool false,.int .i64 0,.int .i64 0,.int .i64 0,.slice none 0 0,.slice none 0 0,.bool false,.int .i64 0,.int .i64 0,.int .i64 0,.string ⟨#[]⟩,.slice none 0 0,.int .i64 0] 84)).setCells wr.heap.size 0 (ndV x y))=wn at HBn HZn HOn ⊢
      generalize wr.heap.size=Z at HZn HNe ⊢
      have e0:=NB.c0 HZn.out
      cases hx1:(x.k==1)
      · rw [hx1] at HD1
        have HO2:Hid (wn.ownsRow w.heap.size 162 25 u3 (dirsOf l Y (k+1)).length (dsV (dirsOf l Y (k+1)))):=(by show _;rw [HD1.out];exact HOn.out)
        clear HD1 HOn
        go_wp2
        go_roundw
        case rel=>exact ⟨k+1,by omega,by go_num,HO2,HBn⟩
        case measure=>simp [intOf];omega
      · rw [hx1] at HD1
        obtain ⟨v',w',hr,hO',hb',hsz,hblk⟩:=run_append_dir wn.drew w.heap.size 163 u3 ds x y ((k:Int)+1) HOn.out (by omega) (HBn.out.size)
        have HR:Hid _:=hr
        have HO2:Hid (w'.ownsRow w.heap.size 162 25 v' (dirsOf l Y (k+1)).length (dsV (dirsOf l Y (k+1)))):=(by show _;rw [HD1.out];exact hO')
        have HB2:Hid (Below w.heap.size w w'):=HBn.out.trans ⟨hb'.os,hb'.tape,hb'.output,hb'.size,hb'.block⟩
        have HS2:Hid (w'.rangeAt Z 0 (ndV x y)):=range_heap HZn.out.at0 (hblk Z HZn.out.lt HNe.out)
        clear hr hO' hb' hsz hblk HD1 HOn
        go_upto_region 6 with fail
        refine wp_region_held_drew (S:=fun w'=>w'.rangeAt Z 0 (ndV x y)) (by kernel_rfl) (by simpa using HZn.out.at0) (fun hHeld=>?_)
        refine wpAnyH_take (i:=0) (v:=u3) rfl (by kernel_rfl) (by kernel_rfl) (by kernel_rfl) (fun _ _ _ h=>h) (Or.inl ⟨by rfl,fun _ _=>by rfl⟩) hHeld ?_
        try simp only [Act.put,List.getElem_toArray,List.getElem_cons_zero,List.getElem_cons_succ,List.setIfInBounds_toArray,List.set_cons_zero,List.set_cons_succ]
        refine wpAnyH_take (i:=2) (v:=.int .i64 k) rfl (by kernel_rfl) (by kernel_rfl) (by kernel_rfl) (fun _ _ _ h=>h) (Or.inl ⟨by rfl,fun _ _=>by rfl⟩) hHeld ?_
        try simp only [Act.put,List.getElem_toArray,List.getElem_cons_zero,List.getElem_cons_succ,List.setIfInBounds_toArray,List.set_cons_zero,List.set_cons_succ]
        refine wpAnyH_take (i:=1) (v:=.agg (ndV x y).toArray) rfl (by kernel_rfl) (by kernel_rfl) (by kernel_rfl) (fun _ _ _ h=>h) (yieldsIf_load_mid (by rfl) 84 _ rfl Z 0 rfl _ _ (fun _ h=>h) Tryz.underlying84 rfl (by kernel_rfl)) hHeld ?_
        try simp only [Act.put,List.getElem_toArray,List.getElem_cons_zero,List.getElem_cons_succ,List.setIfInBounds_toArray,List.set_cons_zero,List.set_cons_succ]
        refine wpAnyH_ready (rs:=[3]) (by kernel_rfl) (by simp) ?_
        refine AllReadyH.cons rfl (fun K hK=>?_) AllReadyH.nil
        rw [if_pos (by rfl)]
        go_simp
        refine (iNumAt_any k (by omega) _).mono ?_
        rintro e w1 ⟨rfl,rfl⟩
        simp only []
        refine hK.out _ _ hHeld (fun hHeld=>?_)
        clear hK K
        try simp only [Act.put,List.getElem_toArray,List.getElem_cons_zero,List.getElem_cons_succ,List.setIfInBounds_toArray,List.set_cons_zero,List.set_cons_succ]
        refine wpAnyH_take (i:=4) (v:=.agg (drV x y ((k:Int)+1)).toArray) rfl (by kernel_rfl) (by kernel_rfl) (by kernel_rfl) (fun _ _ _ h=>h) (Or.inl ⟨by rfl,fun _ _=>exec_build2 162 _ _ (by rfl) _ _ (by rfl) (by rfl) _ (built_dir x y _)⟩) hHeld ?_
        try simp only [Act.put,List.getElem_toArray,List.getElem_cons_zero,List.getElem_cons_succ,List.setIfInBounds_toArray,List.set_cons_zero,List.set_cons_succ]
        refine wpAnyH_ready (rs:=[5]) (by kernel_rfl) (by simp) ?_
        refine AllReadyH.cons rfl (fun K hK=>?_) AllReadyH.nil
        refine step_run (by rfl) _ _ (exec_slice1 163 _ (by rfl) _ _ (by rfl) (run_one_dir x y _ _)) ?_
        refine hK.out _ _ (World.rangeAt_alloc hHeld _) (fun hHeld=>?_)
        clear hK K
        try simp only [Act.put,List.getElem_toArray,List.getElem_cons_zero,List.getElem_cons_succ,List.setIfInBounds_toArray,List.set_cons_zero,List.set_cons_succ]
        refine wpAnyH_ready (rs:=[6]) (by kernel_rfl) (by simp) ?_
        refine AllReadyH.cons rfl (fun K hK=>?_) AllReadyH.nil
        refine step_appendT (by rfl) _ _ 163 (by rfl) _ _ _ _ (by rfl) (by rfl) HR.out ?_
        refine hK.out _ _ HS2.out (fun hHeld=>?_)
        clear hK K
        try simp only [Act.put,List.getElem_toArray,List.getElem_cons_zero,List.getElem_cons_succ,List.setIfInBounds_toArray,List.set_cons_zero,List.set_cons_succ]
        refine wpAnyH_take (i:=7) (v:=v') rfl (by kernel_rfl) (by kernel_rfl) (by kernel_rfl) (fun _ _ _ h=>h) (Or.inl ⟨by rfl,fun _ _=>by rfl⟩) hHeld ?_
        try simp only [Act.put,List.getElem_toArray,List.getElem_cons_zero,List.getElem_cons_succ,List.setIfInBounds_toArray,List.set_cons_zero,List.set_cons_succ]
        refine wpAnyH_done (by kernel_rfl) ?_ _
        go_wp2
        go_roundw
        case rel=>exact ⟨k+1,by omega,by go_num,HO2,HB2⟩
        case measure=>simp [intOf];omega
    · have : k = len := by omega
      subst this
      go_wp2
      go_ret
      exact ⟨_,rfl,hO.out,hB.out⟩
end Go.Proofs.YtabfdidnjibdeaaGreatDoor
namespace Go.Proofs.YtabfdidnjibdeaaGreatDoor
open Go.RowKit Go.PlainAid Go.Deep
set_option linter.unusedVariables false
def cdD (l:List Nd) (n:Int):Nat→Int
  | 0=>0
  | k+1=>cdD l n k+(if (ndAt l k).k==1 then cntE (ndAt l k).ns n (ndAt l k).ns.length else 0)
def sumD (n:Int):List (Nd × Na × Int)→Int
  | []=>0
  | d :: l=>cntE d.1.ns n d.1.ns.length+sumD n l
theorem sumD_append (n:Int)(l k:List (Nd × Na × Int)):sumD n (l++k)=sumD n l+sumD n k:=by
  induction l with
  | nil=>simp [sumD]
  | cons d l ih=>simp only [List.cons_append,sumD,ih];omega
theorem sumD_dirs (l:List Nd)(Y:Nat→Na)(n:Int):∀ k,sumD n (dirsOf l Y k)=cdD l n k
  | 0=>rfl
  | k+1=>by
    simp only [dirsOf,cdD]
    cases h:((ndAt l k).k==1)
    · simp [sumD_dirs l Y n k]
    · simp only [if_true, sumD_append, sumD_dirs l Y n k]
      simp [sumD]
theorem dirsOf_mem (l:List Nd)(Y:Nat→Na):∀ k j (hj:j<(dirsOf l Y k).length),∃ i,i<k∧(dirsOf l Y k)[j]=(ndAt l i,Y i,(i:Int)+1)∧((ndAt l i).k==1)=true
  | 0,j,hj=>absurd hj (by simp [dirsOf])
  | k+1,j,hj=>by
    cases h:((ndAt l k).k==1)
    · have e : dirsOf l Y (k + 1) = dirsOf l Y k := by simp [dirsOf, h]
      have hj2:j<(dirsOf l Y k).length:=by rw [←e];exact hj
      obtain ⟨i,h1,h2,h3⟩:=dirsOf_mem l Y k j hj2
      exact ⟨i,by omega,by simp only [e];exact h2,h3⟩
    · have e : dirsOf l Y (k + 1) = dirsOf l Y k ++ [(ndAt l k, Y k, (k : Int) + 1)] := by simp [dirsOf, h]
      by_cases hj2:j<(dirsOf l Y k).length
      · obtain ⟨i, h1, h2, h3⟩ := dirsOf_mem l Y k j hj2
        refine ⟨i,by omega,?_,h3⟩
        simp only [e]
        rw [List.getElem_append_left hj2]
        exact h2
      · refine ⟨k, by omega, ?_, h⟩
        have hjl:j=(dirsOf l Y k).length:=by
          rw [e] at hj
          simp at hj
          omega
        subst hjl
        simp only [e]
        simp
theorem sumD_take {n:Int}{ds:List (Nd × Na × Int)}{j:Nat}(hj:j<ds.length):sumD n (ds.take (j+1))=sumD n (ds.take j)+cntE (ds[j]).1.ns n (ds[j]).1.ns.length:=by
  rw [←List.take_append_getElem hj,sumD_append]
  simp [sumD]
theorem sumD_b {n:Int}{ds:List (Nd × Na × Int)}(h:∀ j (hj:j<ds.length),(ds[j]).1.ns.length≤1048576):∀ j,j≤ds.length→0≤sumD n (ds.take j)∧sumD n (ds.take j)≤j*1048576
  | 0,_=>by simp [sumD]
  | j+1,hj=>by
    have ih:=sumD_b (n:=n) h j (by omega)
    have h1:=h j (by omega)
    have h2:=cntE_b (ds[j]).1.ns n (ds[j]).1.ns.length
    rw [sumD_take (by omega)]
    constructor
    · omega
    · rw [show ((j + 1 : Nat) : Int) * 1048576 = j * 1048576 + 1048576 by omega]
      omega
set_option maxRecDepth 20000 in
set_option maxHeartbeats 8000000 in
theorem iNamesIn_any (a:Option Addr)(len cap:Nat)(l:List Nd)(now:Int)(n:Int)(hl:len≤12)(hf:∀ i,i<len→NdFit 1048576 (ndAt l i))(w:World)(hi:Nds a len l w) :
    Calls Tryz.prog 211 #[.agg #[.slice a len cap,.int .i64 now],.int .i64 n] w fun e w'=>e=.returned (.int .i64 (cdD l n len))∧Below w.heap.size w w':=by
  obtain ⟨b,off,Y,hY⟩:∃ (b off:Nat) (Y:Nat→Na),(0<len→a=some ⟨b,off,none⟩∧b<w.heap.size)∧∀ i,i<len→N24 w b (off+i*24) (ndAt l i) (Y i)∧NdIn w (ndAt l i) (Y i):=by
    by_cases h0:0<len
    · obtain ⟨b, off, Y, h1, h2, h3⟩ := hi.2 h0
      exact ⟨b,off,Y,fun _=>⟨h1,h2⟩,h3⟩
    · exact ⟨0,0,fun _=>naZ,fun h=>absurd h h0,fun i hi=>absurd hi (by omega)⟩
  have HA:Hid (∀ w',Below w.heap.size w w'→(0<len→a=some ⟨b,off,none⟩∧b<w'.heap.size)):=(fun w' hb h=>⟨(hY.1 h).1,Nat.lt_of_lt_of_le (hY.1 h).2 hb.size⟩)
  have HC:Hid (∀ w',Below w.heap.size w w'→∀ i,i<len→N24 w' b (off+i*24) (ndAt l i) (Y i)):=(fun w' hb i hi=>range_below (hY.2 i hi).1 (hY.1 (by omega)).2 hb)
  have HM:Hid (∀ j (hj:j<(dirsOf l Y len).length),NdIn w ((dirsOf l Y len)[j]).1 ((dirsOf l Y len)[j]).2.1∧((dirsOf l Y len)[j]).1.ns.length≤1048576):=(fun j hj=>by
    obtain ⟨i,h1,h2,_⟩:=dirsOf_mem l Y len j hj
    rw [h2]
    exact ⟨(hY.2 i h1).2,(hf i h1).nl⟩)
  have HE:Hid (sumD n (dirsOf l Y len)=cdD l n len):=sumD_dirs l Y n len
  have hdl:=dirsOf_len l Y len
  clear hi hf hY
  have HB:Hid (Below w.heap.size w (w.alloc (.cells #[.slice a len cap,.int .i64 now] 35))):=bel_alloc _ _
  have HX:Hid (BoxR (w.alloc (.cells #[.slice a len cap,.int .i64 now] 35)) w.heap.size [.slice a len cap,.int .i64 now]):=boxR_new _ _ _
  go_enter Tryz.func211,Tryz.ntmps211
  go_upto_region 1 with fail
  generalize (w.alloc (.cells #[.slice a len cap,.int .i64 now] 35))=w0 at HB HX ⊢
  obtain ⟨X,hX⟩:∃ X,X=w.heap.size:=⟨_,rfl⟩
  rw [←hX] at HX ⊢
  clear hX
  have t0:w0.cell? ⟨X,0,none⟩=some (.slice a len cap):=HX.out.at0 0 _ rfl
  have t1:w0.cell? ⟨X,1,none⟩=some (.int .i64 now):=HX.out.at0 1 _ rfl
  clear t0 t1
  have t0:w0.cell? ⟨X,0,none⟩=some (.slice a len cap):=HX.out.at0 0 _ rfl
  have t1:w0.cell? ⟨X,1,none⟩=some (.int .i64 now):=HX.out.at0 1 _ rfl
  go_wp2_with fail
  refine (iDirs_any a len cap l now Y b off hl _ (HA.out _ HB.out) (HC.out _ HB.out)).mono ?_
  rintro e w1 ⟨v,rfl,hO,hb⟩
  have HB1:Hid (Below w.heap.size w w1):=Below.on HB.out hb
  obtain ⟨a1,cap1,rfl,hrow⟩:=ds_of_row hO
  have HR:Hid _:=hrow
  clear hb hO hrow HB HX t0 t1 HA HC
  generalize dirsOf l Y len=ds at HM HE hdl HR ⊢
  have HQ:Hid (∀ j,j≤ds.length→0≤sumD n (ds.take j)∧sumD n (ds.take j)≤j*1048576):=(fun j hj=>sumD_b (fun j hj=>(HM.out j hj).2) j hj)
  go_wp2
  go_loopw [11,5] (fun i c wr=>∃ j:Nat,j≤ds.length∧i=.int .i64 j∧c=.int .i64 (sumD n (ds.take j))∧Hid (Below w1.heap.size w1 wr)) (fun i _ _=>ds.length-(intOf i).toNat)
  case atStart=>exact ⟨0,Nat.zero_le _,rfl,by simp [sumD],Below.refl _ _⟩
  case round =>
    obtain ⟨j,hj,rfl,rfl,hB⟩:=hrel
    by_cases hlt:j<ds.length
    · obtain ⟨g, rfl, hg, hr⟩ := HR.out j hlt
      have hlt':(j:Int)<(ds.length:Int):=by omega
      have hj0:(0:Int)≤(j:Int):=by omega
      have HG:Hid (wr.rangeAt g (j*25) (drV (ds[j]).1 (ds[j]).2.1 (ds[j]).2.2)):=range_below hr hg hB.out
      have HN:Hid (Ens (ds[j]).2.1.nA (ds[j]).1.ns.length (ds[j]).1.ns wr):=((HM.out j hlt).1.below (Below.on HB1.out hB.out)).nA
      have hnl:=(HM.out j hlt).2
      have HS:Hid (sumD n (ds.take (j+1))=sumD n (ds.take j)+cntE (ds[j]).1.ns n (ds[j]).1.ns.length):=sumD_take hlt
      obtain ⟨q0,q1⟩:=HQ.out j hj
      have q2:=cntE_b (ds[j]).1.ns n (ds[j]).1.ns.length
      clear hr
      generalize (ds[j]).1=x at HG HN HS hnl q2
      generalize (ds[j]).2.1=y at HG HN
      generalize (ds[j]).2.2=m at HG
      generalize sumD n (ds.take j)=q at HS q0 q1 ⊢
      have hbN:Below wr.heap.size wr ((wr.alloc (.cells #[.int .i64 0,.int .i64 0,.int .i64 0,.int .i64 0,.int .i64 0,.int .i64 0,.int .i64 0,.slice none 0 0,.slice none 0 0,.bool false,.int .i64 0,.bool false,.int .i64 0,.int .i64 0,.int .i64 0,.slice none 0 0,.slice none 0 0,.bool false,.int .i64 0,.int .i64 0,.int .i64 0,.string ⟨#[]⟩,.slice none 0 0,.int .i64 0,.int .i64 0] 162)).setCells wr.heap.size 0 (drV x y m)):=bl_setsT (Nat.le_refl _) _ _ (bel_alloc _ _)
      have HBn:Hid (Below w1.heap.size w1 ((wr.alloc (.cells #[.int .i64 0,.int .i64 0,.int .i64 0,.int .i64 0,.int .i64 0,.int .i64 0,.int .i64 0,.slice none 0 0,.slice none 0 0,.bool false,.int .i64 0,.bool false,.int .i64 0,.int .i64 0,.int .i64 0,.slice none 0 0,.slice none 0 0,.bool false,.int .i64 0,.int .i64 0,.int .i64 0,.string ⟨#[]⟩,.slice none 0 0,.int .i64 0,.int .i64 0] 162)).setCells wr.heap.size 0 (drV x y m))):=Below.on hB.out hbN
      have HUn:Hid (BoxR ((wr.alloc (.cells #[.int .i64 0,.int .i64 0,.int .i64 0,.int .i64 0,.int .i64 0,.int .i64 0,.int .i64 0,.slice none 0 0,.slice none 0 0,.bool false,.int .i64 0,.bool false,.int .i64 0,.int .i64 0,.int .i64 0,.slice none 0 0,.slice none 0 0,.bool false,.int .i64 0,.int .i64 0,.int .i64 0,.string ⟨#[]⟩,.slice none 0 0,.int .i64 0,.int .i64 0] 162)).setCells wr.heap.size 0 (drV x y m)) wr.heap.size (drV x y m)):=⟨by rw [size_setCellsT];simp,World.rangeAt_setCells_same _ _ _ _ (by rw [drV_len];exact there25 _)⟩
      have HNn:Hid (Ens y.nA x.ns.length x.ns ((wr.alloc (.cells #[.int .i64 0,.int .i64 0,.int .i64 0,.int .i64 0,.int .i64 0,.int .i64 0,.int .i64 0,.slice none 0 0,.slice none 0 0,.bool false,.int .i64 0,.bool false,.int .i64 0,.int .i64 0,.int .i64 0,.slice none 0 0,.slice none 0 0,.bool false,.int .i64 0,.int .i64 0,.int .i64 0,.string ⟨#[]⟩,.slice none 0 0,.int .i64 0,.int .i64 0] 162)).setCells wr.heap.size 0 (drV x y m))):=HN.out.below hbN
      clear hbN HN
      go_upto_region 5 with (first | (refine wpList_load_mid (by rfl) 162 _ (by rfl) _ _ (by rfl) _ _ HG.out Tryz.underlying162 rfl (by kernel_rfl) ?_) | (refine wpList_store_list (by rfl) 162 _ _ (by rfl) _ _ (drV x y m) (by rfl) (by rfl) (by rw [drV_len];exact there25 _) (by kernel_rfl) (drV_ones _ _ _) ?_))
      generalize ((wr.alloc (.cells #[.int .i64 0,.int .i64 0,.int .i64 0,.int .i64 0,.int .i64 0,.int .i64 0,.int .i64 0,.slice none 0 0,.slice none 0 0,.bool false,.int .i64 0,.bool false,.int .i64 0,.int .i64 0,.int .i64 0,.slice none 0 0,.slice none 0 0,.bool false,.int .i64 0,.int .i64 0,.int .i64 0,.string ⟨#[]⟩,.slice none 0 0,.int .i64 0,.int .i64 0] 162)).setCells wr.heap.size 0 (drV x y m))=wn at HBn HUn HNn ⊢
      generalize wr.heap.size=U at HUn ⊢
      go_wp2_with (first | (refine wpList_load_mid (by rfl) 84 _ (by rfl) _ _ (by rfl) _ _ (DB.nd HUn.out) Tryz.underlying84 rfl (by kernel_rfl) ?_) | (go_at_call 213;refine (iTimes_any x y n hnl _ HNn.out).mono ?_;rintro e w3 ⟨rfl,hb⟩;have HB3:Hid (Below w1.heap.size w1 w3):=Below.on HBn.out hb;clear hb;generalize cntE x.ns n x.ns.length=z at HS q2))
      go_roundw
      case rel=>exact ⟨j+1,by omega,by go_num,by rw [HS.out],HB3⟩
      case measure=>simp [intOf];omega
    · have : j = ds.length := by omega
      subst this
      go_wp2
      go_ret
      refine ⟨?_,Below.on HB1.out hB.out⟩
      show Ending.returned (.int .i64 (sumD n (ds.take ds.length)))=_
      rw [←HE.out,List.take_length]
set_option maxHeartbeats 4000000 in
theorem iLinks_any (a:Option Addr)(len cap:Nat)(l:List Nd)(now:Int)(d:Nat)(hl:len≤12)(hf:∀ i,i<len→NdFit 1048576 (ndAt l i))(w:World)(hi:Nds a len l w)(hb:cdD l ((d:Int)+1) len≤100000000)(hb0:0≤cdD l ((d:Int)+1) len) :
    Calls Tryz.prog 165 #[.agg #[.slice a len cap,.int .i64 now],.int .i64 ((d:Int)+1)] w fun e w'=>e=.returned (.int .i64 (cdD l ((d:Int)+1) len+(if d=0 then 1 else 0)))∧Below w.heap.size w w':=by
  have HC:Hid (∀ w',Below w.heap.size w w'→Calls Tryz.prog 211 #[.agg #[.slice a len cap,.int .i64 now],.int .i64 ((d:Int)+1)] w' fun e w''=>e=.returned (.int .i64 (cdD l ((d:Int)+1) len))∧Below w'.heap.size w' w''):=(fun w' hb=>iNamesIn_any a len cap l now _ hl hf w' (hi.below hb))
  clear hi hf
  generalize cdD l ((d:Int)+1) len=q at HC hb hb0 ⊢
  by_cases hz:d=0
  · subst hz
    have HB:Hid (Below w.heap.size w (w.alloc (.cells #[.slice a len cap,.int .i64 now] 35))):=bel_alloc _ _
    have HX:Hid (BoxR (w.alloc (.cells #[.slice a len cap,.int .i64 now] 35)) w.heap.size [.slice a len cap,.int .i64 now]):=boxR_new _ _ _
    go_enter Tryz.func165,Tryz.ntmps165
    go_upto_region 1 with fail
    generalize (w.alloc (.cells #[.slice a len cap,.int .i64 now] 35))=w0 at HB HX ⊢
    obtain ⟨X,hX⟩:∃ X,X=w.heap.size:=⟨_,rfl⟩
    rw [←hX] at HX ⊢
    clear hX
    have t0:w0.cell? ⟨X,0,none⟩=some (.slice a len cap):=HX.out.at0 0 _ rfl
    have t1:w0.cell? ⟨X,1,none⟩=some (.int .i64 now):=HX.out.at0 1 _ rfl
    go_wp2_with (go_at_call 211;refine (HC.out _ HB.out).mono ?_;rintro e w1 ⟨rfl,hb⟩;have HB1:Hid (Below w.heap.size w w1):=Below.on HB.out hb;have HX1:Hid (BoxR w1 X [.slice a len cap,.int .i64 now]):=HX.out.below hb;clear hb)
    go_ret
    exact ⟨rfl,HB1.out⟩
  · rw [if_neg hz, Int.add_zero]
    have hz1:((d:Int)+1==1)=false:=by rw [beq_eq_false_iff_ne];omega
    clear hz
    have HB:Hid (Below w.heap.size w (w.alloc (.cells #[.slice a len cap,.int .i64 now] 35))):=bel_alloc _ _
    have HX:Hid (BoxR (w.alloc (.cells #[.slice a len cap,.int .i64 now] 35)) w.heap.size [.slice a len cap,.int .i64 now]):=boxR_new _ _ _
    go_enter Tryz.func165,Tryz.ntmps165
    go_upto_region 1 with fail
    generalize (w.alloc (.cells #[.slice a len cap,.int .i64 now] 35))=w0 at HB HX ⊢
    obtain ⟨X,hX⟩:∃ X,X=w.heap.size:=⟨_,rfl⟩
    rw [←hX] at HX ⊢
    clear hX
    have t0:w0.cell? ⟨X,0,none⟩=some (.slice a len cap):=HX.out.at0 0 _ rfl
    have t1:w0.cell? ⟨X,1,none⟩=some (.int .i64 now):=HX.out.at0 1 _ rfl
    go_wp2_with (go_at_call 211;refine (HC.out _ HB.out).mono ?_;rintro e w1 ⟨rfl,hb⟩;have HB1:Hid (Below w.heap.size w w1):=Below.on HB.out hb;have HX1:Hid (BoxR w1 X [.slice a len cap,.int .i64 now]):=HX.out.below hb;clear hb)
    go_ret
    exact ⟨rfl,HB1.out⟩
def Nd.alI (x:Nd) (now lk:Int):Bool:=inR 0 9999 x.ow&&(inR 0 9999 x.gr&&(!decide (x.ex<0)&&(!decide (7<x.ex)&&(x.A.B&&(inR 0 1000000 x.ti&&(!decide (now<x.ti)&&(decide (1≤x.li)&&(decide (x.li≤5)&&x.li==lk))))))))
set_option maxRecDepth 20000 in
set_option maxHeartbeats 16000000 in
theorem iAlike_any (a:Option Addr)(len cap:Nat)(l:List Nd)(now:Int)(x:Nd)(y:Na)(n lk:Int)(w:World)(hy:NdIn w x y)
    (hlk:∀ w',Below w.heap.size w w'→Calls Tryz.prog 165 #[.agg #[.slice a len cap,.int .i64 now],.int .i64 n] w' fun e w''=>e=.returned (.int .i64 lk)∧Below w'.heap.size w' w'') :
    Calls Tryz.prog 117 #[.agg #[.slice a len cap,.int .i64 now],.agg (ndV x y).toArray,.int .i64 n] w fun e w'=>e=.returned (.bool (x.alI now lk))∧Below w.heap.size w w':=by
  have HM:Hid (NdIn w x y):=hy
  have HL:Hid (∀ w',Below w.heap.size w w'→Calls Tryz.prog 165 #[.agg #[.slice a len cap,.int .i64 now],.int .i64 n] w' fun e w''=>e=.returned (.int .i64 lk)∧Below w'.heap.size w' w''):=hlk
  clear hy hlk
  have HE:Hid (x.alI now lk=(inR 0 9999 x.ow&&(inR 0 9999 x.gr&&(!decide (x.ex<0)&&(!decide (7<x.ex)&&(aclB x.A.u x.A.g x.A.o x.A.us x.A.gs x.A.r x.A.m&&(inR 0 1000000 x.ti&&(!decide (now<x.ti)&&(decide (1≤x.li)&&(decide (x.li≤5)&&x.li==lk)))))))))):=rfl
  have H1:Hid (∀ w,Calls Tryz.prog 73 #[.int .i64 x.ow] w fun e w'=>e=.returned (.bool (inR 0 9999 x.ow))∧w'=w):=(fun w=>isId_any _ w)
  have H2:Hid (∀ w,Calls Tryz.prog 73 #[.int .i64 x.gr] w fun e w'=>e=.returned (.bool (inR 0 9999 x.gr))∧w'=w):=(fun w=>isId_any _ w)
  have H3:Hid (∀ w,Calls Tryz.prog 69 #[.int .i64 x.ti] w fun e w'=>e=.returned (.bool (inR 0 1000000 x.ti))∧w'=w):=(fun w=>iTime_any _ w)
  have H4:Hid (∀ w',Below w.heap.size w w'→Calls Tryz.prog 152 #[.agg #[.int .i64 x.A.u,.int .i64 x.A.g,.int .i64 x.A.o,.slice y.aU x.A.us.length y.cU,.slice y.aG x.A.gs.length y.cG,.bool x.A.r,.int .i64 x.A.m]] w' fun e w''=>e=.returned (.bool (aclB x.A.u x.A.g x.A.o x.A.us x.A.gs x.A.r x.A.m))∧Below w'.heap.size w' w''):=(fun w' hb=>iAclRight_any _ _ _ _ _ _ _ _ _ _ _ _ _ w' (HM.out.aU.below hb) (HM.out.aG.below hb))
  generalize inR 0 9999 x.ow=c1 at HE H1
  generalize inR 0 9999 x.gr=c2 at HE H2
  generalize inR 0 1000000 x.ti=c5 at HE H3
  generalize aclB x.A.u x.A.g x.A.o x.A.us x.A.gs x.A.r x.A.m=c4 at HE H4
  cases c1
  · skip
    have HX:Hid (BoxR ((w.alloc (.cells #[.slice a len cap,.int .i64 now] 35)).alloc (.cells (ndV x y).toArray 84)) w.heap.size [.slice a len cap,.int .i64 now]):=(boxR_new w [.slice a len cap,.int .i64 now] 35).below (bel_alloc _ _)
    have HZ:Hid (BoxR ((w.alloc (.cells #[.slice a len cap,.int .i64 now] 35)).alloc (.cells (ndV x y).toArray 84)) (w.heap.size+1) (ndV x y)):=(by
      have h:=boxR_new (w.alloc (.cells #[.slice a len cap,.int .i64 now] 35)) (ndV x y) 84
      simp only [World.size_alloc] at h
      exact h)
    have HB:Hid (Below w.heap.size w ((w.alloc (.cells #[.slice a len cap,.int .i64 now] 35)).alloc (.cells (ndV x y).toArray 84))):=bl2T _ _ _
    go_enter Tryz.func117,Tryz.ntmps117
    go_upto_region 1 with fail
    generalize ((w.alloc (.cells #[.slice a len cap,.int .i64 now] 35)).alloc (.cells (ndV x y).toArray 84))=w0 at HX HZ HB ⊢
    obtain ⟨X,hX⟩:∃ X,X=w.heap.size:=⟨_,rfl⟩
    rw [←hX] at HX HZ ⊢
    clear hX
    have t0:w0.cell? ⟨X,0,none⟩=some (.slice a len cap):=HX.out.at0 0 _ rfl
    have t1:w0.cell? ⟨X,1,none⟩=some (.int .i64 now):=HX.out.at0 1 _ rfl
    have e1:=NB.c1 HZ.out
    have e2:=NB.c2 HZ.out
    have e3:=NB.c3 HZ.out
    have e4:=NB.c4 HZ.out
    have e5:=NB.c5 HZ.out
    have e6:=NB.c6 HZ.out
    have e7:=NB.c7 HZ.out
    have e8:=NB.c8 HZ.out
    have e9:=NB.c9 HZ.out
    have e10:=NB.c10 HZ.out
    have e19:=NB.c19 HZ.out
    have e23:=NB.c23 HZ.out
    go_wp2_with (first
      | (go_at_call_of 73 (Value.int IntKind.i64 x.ow);refine (H1.out _).mono ?_;rintro e w1 ⟨rfl,rfl⟩)
      | (go_at_call 73;refine (H2.out _).mono ?_;rintro e w1 ⟨rfl,rfl⟩)
      | (go_at_call 69;refine (H3.out _).mono ?_;rintro e w1 ⟨rfl,rfl⟩)
      | (go_at_call 152;refine (H4.out _ HB.out).mono ?_;rintro e w1 ⟨rfl,hb⟩;replace HB:Hid (Below w.heap.size w w1):=Below.on HB.out hb;replace HX:Hid (BoxR w1 X [.slice a len cap,.int .i64 now]):=HX.out.below hb;replace HZ:Hid (BoxR w1 (X+1) (ndV x y)):=HZ.out.below hb;clear hb;replace t0:w1.cell? ⟨X,0,none⟩=some (.slice a len cap):=HX.out.at0 0 _ rfl;replace t1:w1.cell? ⟨X,1,none⟩=some (.int .i64 now):=HX.out.at0 1 _ rfl;replace e1:=NB.c1 HZ.out;replace e2:=NB.c2 HZ.out;replace e3:=NB.c3 HZ.out;replace e4:=NB.c4 HZ.out;replace e5:=NB.c5 HZ.out;replace e6:=NB.c6 HZ.out;replace e7:=NB.c7 HZ.out;replace e8:=NB.c8 HZ.out;replace e9:=NB.c9 HZ.out;replace e10:=NB.c10 HZ.out;replace e19:=NB.c19 HZ.out;replace e23:=NB.c23 HZ.out))
    go_ret
    exact ⟨ret_boolW (by rw [HE.out];first | done | simp),HB.out⟩
  cases c2
  · skip
    have HX:Hid (BoxR ((w.alloc (.cells #[.slice a len cap,.int .i64 now] 35)).alloc (.cells (ndV x y).toArray 84)) w.heap.size [.slice a len cap,.int .i64 now]):=(boxR_new w [.slice a len cap,.int .i64 now] 35).below (bel_alloc _ _)
    have HZ:Hid (BoxR ((w.alloc (.cells #[.slice a len cap,.int .i64 now] 35)).alloc (.cells (ndV x y).toArray 84)) (w.heap.size+1) (ndV x y)):=(by
      have h:=boxR_new (w.alloc (.cells #[.slice a len cap,.int .i64 now] 35)) (ndV x y) 84
      simp only [World.size_alloc] at h
      exact h)
    have HB:Hid (Below w.heap.size w ((w.alloc (.cells #[.slice a len cap,.int .i64 now] 35)).alloc (.cells (ndV x y).toArray 84))):=bl2T _ _ _
    go_enter Tryz.func117,Tryz.ntmps117
    go_upto_region 1 with fail
    generalize ((w.alloc (.cells #[.slice a len cap,.int .i64 now] 35)).alloc (.cells (ndV x y).toArray 84))=w0 at HX HZ HB ⊢
    obtain ⟨X,hX⟩:∃ X,X=w.heap.size:=⟨_,rfl⟩
    rw [←hX] at HX HZ ⊢
    clear hX
    have t0:w0.cell? ⟨X,0,none⟩=some (.slice a len cap):=HX.out.at0 0 _ rfl
    have t1:w0.cell? ⟨X,1,none⟩=some (.int .i64 now):=HX.out.at0 1 _ rfl
    have e1:=NB.c1 HZ.out
    have e2:=NB.c2 HZ.out
    have e3:=NB.c3 HZ.out
    have e4:=NB.c4 HZ.out
    have e5:=NB.c5 HZ.out
    have e6:=NB.c6 HZ.out
    have e7:=NB.c7 HZ.out
    have e8:=NB.c8 HZ.out
    have e9:=NB.c9 HZ.out
    have e10:=NB.c10 HZ.out
    have e19:=NB.c19 HZ.out
    have e23:=NB.c23 HZ.out
    go_wp2_with (first
      | (go_at_call_of 73 (Value.int IntKind.i64 x.ow);refine (H1.out _).mono ?_;rintro e w1 ⟨rfl,rfl⟩)
      | (go_at_call 73;refine (H2.out _).mono ?_;rintro e w1 ⟨rfl,rfl⟩)
      | (go_at_call 69;refine (H3.out _).mono ?_;rintro e w1 ⟨rfl,rfl⟩)
      | (go_at_call 152;refine (H4.out _ HB.out).mono ?_;rintro e w1 ⟨rfl,hb⟩;replace HB:Hid (Below w.heap.size w w1):=Below.on HB.out hb;replace HX:Hid (BoxR w1 X [.slice a len cap,.int .i64 now]):=HX.out.below hb;replace HZ:Hid (BoxR w1 (X+1) (ndV x y)):=HZ.out.below hb;clear hb;replace t0:w1.cell? ⟨X,0,none⟩=some (.slice a len cap):=HX.out.at0 0 _ rfl;replace t1:w1.cell? ⟨X,1,none⟩=some (.int .i64 now):=HX.out.at0 1 _ rfl;replace e1:=NB.c1 HZ.out;replace e2:=NB.c2 HZ.out;replace e3:=NB.c3 HZ.out;replace e4:=NB.c4 HZ.out;replace e5:=NB.c5 HZ.out;replace e6:=NB.c6 HZ.out;replace e7:=NB.c7 HZ.out;replace e8:=NB.c8 HZ.out;replace e9:=NB.c9 HZ.out;replace e10:=NB.c10 HZ.out;replace e19:=NB.c19 HZ.out;replace e23:=NB.c23 HZ.out))
    go_ret
    exact ⟨ret_boolW (by rw [HE.out];first | done | simp),HB.out⟩
  cases c3:decide (x.ex<0)
  case true =>
    rw [c3] at HE
    have HX:Hid (BoxR ((w.alloc (.cells #[.slice a len cap,.int .i64 now] 35)).alloc (.cells (ndV x y).toArray 84)) w.heap.size [.slice a len cap,.int .i64 now]):=(boxR_new w [.slice a len cap,.int .i64 now] 35).below (bel_alloc _ _)
    have HZ:Hid (BoxR ((w.alloc (.cells #[.slice a len cap,.int .i64 now] 35)).alloc (.cells (ndV x y).toArray 84)) (w.heap.size+1) (ndV x y)):=(by
      have h:=boxR_new (w.alloc (.cells #[.slice a len cap,.int .i64 now] 35)) (ndV x y) 84
      simp only [World.size_alloc] at h
      exact h)
    have HB:Hid (Below w.heap.size w ((w.alloc (.cells #[.slice a len cap,.int .i64 now] 35)).alloc (.cells (ndV x y).toArray 84))):=bl2T _ _ _
    go_enter Tryz.func117,Tryz.ntmps117
    go_upto_region 1 with fail
    generalize ((w.alloc (.cells #[.slice a len cap,.int .i64 now] 35)).alloc (.cells (ndV x y).toArray 84))=w0 at HX HZ HB ⊢
    obtain ⟨X,hX⟩:∃ X,X=w.heap.size:=⟨_,rfl⟩
    rw [←hX] at HX HZ ⊢
    clear hX
    have t0:w0.cell? ⟨X,0,none⟩=some (.slice a len cap):=HX.out.at0 0 _ rfl
    have t1:w0.cell? ⟨X,1,none⟩=some (.int .i64 now):=HX.out.at0 1 _ rfl
    have e1:=NB.c1 HZ.out
    have e2:=NB.c2 HZ.out
    have e3:=NB.c3 HZ.out
    have e4:=NB.c4 HZ.out
    have e5:=NB.c5 HZ.out
    have e6:=NB.c6 HZ.out
    have e7:=NB.c7 HZ.out
    have e8:=NB.c8 HZ.out
    have e9:=NB.c9 HZ.out
    have e10:=NB.c10 HZ.out
    have e19:=NB.c19 HZ.out
    have e23:=NB.c23 HZ.out
    go_wp2_with (first
      | (go_at_call_of 73 (Value.int IntKind.i64 x.ow);refine (H1.out _).mono ?_;rintro e w1 ⟨rfl,rfl⟩)
      | (go_at_call 73;refine (H2.out _).mono ?_;rintro e w1 ⟨rfl,rfl⟩)
      | (go_at_call 69;refine (H3.out _).mono ?_;rintro e w1 ⟨rfl,rfl⟩)
      | (go_at_call 152;refine (H4.out _ HB.out).mono ?_;rintro e w1 ⟨rfl,hb⟩;replace HB:Hid (Below w.heap.size w w1):=Below.on HB.out hb;replace HX:Hid (BoxR w1 X [.slice a len cap,.int .i64 now]):=HX.out.below hb;replace HZ:Hid (BoxR w1 (X+1) (ndV x y)):=HZ.out.below hb;clear hb;replace t0:w1.cell? ⟨X,0,none⟩=some (.slice a len cap):=HX.out.at0 0 _ rfl;replace t1:w1.cell? ⟨X,1,none⟩=some (.int .i64 now):=HX.out.at0 1 _ rfl;replace e1:=NB.c1 HZ.out;replace e2:=NB.c2 HZ.out;replace e3:=NB.c3 HZ.out;replace e4:=NB.c4 HZ.out;replace e5:=NB.c5 HZ.out;replace e6:=NB.c6 HZ.out;replace e7:=NB.c7 HZ.out;replace e8:=NB.c8 HZ.out;replace e9:=NB.c9 HZ.out;replace e10:=NB.c10 HZ.out;replace e19:=NB.c19 HZ.out;replace e23:=NB.c23 HZ.out))
    go_ret
    exact ⟨ret_boolW (by rw [HE.out];first | done | simp),HB.out⟩
  rw [c3] at HE
  cases c6:decide (7<x.ex)
  case true =>
    rw [c6] at HE
    have HX:Hid (BoxR ((w.alloc (.cells #[.slice a len cap,.int .i64 now] 35)).alloc (.cells (ndV x y).toArray 84)) w.heap.size [.slice a len cap,.int .i64 now]):=(boxR_new w [.slice a len cap,.int .i64 now] 35).below (bel_alloc _ _)
    have HZ:Hid (BoxR ((w.alloc (.cells #[.slice a len cap,.int .i64 now] 35)).alloc (.cells (ndV x y).toArray 84)) (w.heap.size+1) (ndV x y)):=(by
      have h:=boxR_new (w.alloc (.cells #[.slice a len cap,.int .i64 now] 35)) (ndV x y) 84
      simp only [World.size_alloc] at h
      exact h)
    have HB:Hid (Below w.heap.size w ((w.alloc (.cells #[.slice a len cap,.int .i64 now] 35)).alloc (.cells (ndV x y).toArray 84))):=bl2T _ _ _
    go_enter Tryz.func117,Tryz.ntmps117
    go_upto_region 1 with fail
    generalize ((w.alloc (.cells #[.slice a len cap,.int .i64 now] 35)).alloc (.cells (ndV x y).toArray 84))=w0 at HX HZ HB ⊢
    obtain ⟨X,hX⟩:∃ X,X=w.heap.size:=⟨_,rfl⟩
    rw [←hX] at HX HZ ⊢
    clear hX
    have t0:w0.cell? ⟨X,0,none⟩=some (.slice a len cap):=HX.out.at0 0 _ rfl
    have t1:w0.cell? ⟨X,1,none⟩=some (.int .i64 now):=HX.out.at0 1 _ rfl
    have e1:=NB.c1 HZ.out
    have e2:=NB.c2 HZ.out
    have e3:=NB.c3 HZ.out
    have e4:=NB.c4 HZ.out
    have e5:=NB.c5 HZ.out
    have e6:=NB.c6 HZ.out
    have e7:=NB.c7 HZ.out
    have e8:=NB.c8 HZ.out
    have e9:=NB.c9 HZ.out
    have e10:=NB.c10 HZ.out
    have e19:=NB.c19 HZ.out
    have e23:=NB.c23 HZ.out
    go_wp2_with (first
      | (go_at_call_of 73 (Value.int IntKind.i64 x.ow);refine (H1.out _).mono ?_;rintro e w1 ⟨rfl,rfl⟩)
      | (go_at_call 73;refine (H2.out _).mono ?_;rintro e w1 ⟨rfl,rfl⟩)
      | (go_at_call 69;refine (H3.out _).mono ?_;rintro e w1 ⟨rfl,rfl⟩)
      | (go_at_call 152;refine (H4.out _ HB.out).mono ?_;rintro e w1 ⟨rfl,hb⟩;replace HB:Hid (Below w.heap.size w w1):=Below.on HB.out hb;replace HX:Hid (BoxR w1 X [.slice a len cap,.int .i64 now]):=HX.out.below hb;replace HZ:Hid (BoxR w1 (X+1) (ndV x y)):=HZ.out.below hb;clear hb;replace t0:w1.cell? ⟨X,0,none⟩=some (.slice a len cap):=HX.out.at0 0 _ rfl;replace t1:w1.cell? ⟨X,1,none⟩=some (.int .i64 now):=HX.out.at0 1 _ rfl;replace e1:=NB.c1 HZ.out;replace e2:=NB.c2 HZ.out;replace e3:=NB.c3 HZ.out;replace e4:=NB.c4 HZ.out;replace e5:=NB.c5 HZ.out;replace e6:=NB.c6 HZ.out;replace e7:=NB.c7 HZ.out;replace e8:=NB.c8 HZ.out;replace e9:=NB.c9 HZ.out;replace e10:=NB.c10 HZ.out;replace e19:=NB.c19 HZ.out;replace e23:=NB.c23 HZ.out))
    go_ret
    exact ⟨ret_boolW (by rw [HE.out];first | done | simp),HB.out⟩
  rw [c6] at HE
  cases c4
  · skip
    have HX:Hid (BoxR ((w.alloc (.cells #[.slice a len cap,.int .i64 now] 35)).alloc (.cells (ndV x y).toArray 84)) w.heap.size [.slice a len cap,.int .i64 now]):=(boxR_new w [.slice a len cap,.int .i64 now] 35).below (bel_alloc _ _)
    have HZ:Hid (BoxR ((w.alloc (.cells #[.slice a len cap,.int .i64 now] 35)).alloc (.cells (ndV x y).toArray 84)) (w.heap.size+1) (ndV x y)):=(by
      have h:=boxR_new (w.alloc (.cells #[.slice a len cap,.int .i64 now] 35)) (ndV x y) 84
      simp only [World.size_alloc] at h
      exact h)
    have HB:Hid (Below w.heap.size w ((w.alloc (.cells #[.slice a len cap,.int .i64 now] 35)).alloc (.cells (ndV x y).toArray 84))):=bl2T _ _ _
    go_enter Tryz.func117,Tryz.ntmps117
    go_upto_region 1 with fail
    generalize ((w.alloc (.cells #[.slice a len cap,.int .i64 now] 35)).alloc (.cells (ndV x y).toArray 84))=w0 at HX HZ HB ⊢
    obtain ⟨X,hX⟩:∃ X,X=w.heap.size:=⟨_,rfl⟩
    rw [←hX] at HX HZ ⊢
    clear hX
    have t0:w0.cell? ⟨X,0,none⟩=some (.slice a len cap):=HX.out.at0 0 _ rfl
    have t1:w0.cell? ⟨X,1,none⟩=some (.int .i64 now):=HX.out.at0 1 _ rfl
    have e1:=NB.c1 HZ.out
    have e2:=NB.c2 HZ.out
    have e3:=NB.c3 HZ.out
    have e4:=NB.c4 HZ.out
    have e5:=NB.c5 HZ.out
    have e6:=NB.c6 HZ.out
    have e7:=NB.c7 HZ.out
    have e8:=NB.c8 HZ.out
    have e9:=NB.c9 HZ.out
    have e10:=NB.c10 HZ.out
    have e19:=NB.c19 HZ.out
    have e23:=NB.c23 HZ.out
    go_wp2_with (first
      | (go_at_call_of 73 (Value.int IntKind.i64 x.ow);refine (H1.out _).mono ?_;rintro e w1 ⟨rfl,rfl⟩)
      | (go_at_call 73;refine (H2.out _).mono ?_;rintro e w1 ⟨rfl,rfl⟩)
      | (go_at_call 69;refine (H3.out _).mono ?_;rintro e w1 ⟨rfl,rfl⟩)
      | (go_at_call 152;refine (H4.out _ HB.out).mono ?_;rintro e w1 ⟨rfl,hb⟩;replace HB:Hid (Below w.heap.size w w1):=Below.on HB.out hb;replace HX:Hid (BoxR w1 X [.slice a len cap,.int .i64 now]):=HX.out.below hb;replace HZ:Hid (BoxR w1 (X+1) (ndV x y)):=HZ.out.below hb;clear hb;replace t0:w1.cell? ⟨X,0,none⟩=some (.slice a len cap):=HX.out.at0 0 _ rfl;replace t1:w1.cell? ⟨X,1,none⟩=some (.int .i64 now):=HX.out.at0 1 _ rfl;replace e1:=NB.c1 HZ.out;replace e2:=NB.c2 HZ.out;replace e3:=NB.c3 HZ.out;replace e4:=NB.c4 HZ.out;replace e5:=NB.c5 HZ.out;replace e6:=NB.c6 HZ.out;replace e7:=NB.c7 HZ.out;replace e8:=NB.c8 HZ.out;replace e9:=NB.c9 HZ.out;replace e10:=NB.c10 HZ.out;replace e19:=NB.c19 HZ.out;replace e23:=NB.c23 HZ.out))
    go_ret
    exact ⟨ret_boolW (by rw [HE.out];first | done | simp),HB.out⟩
  cases c5
  · skip
    have HX:Hid (BoxR ((w.alloc (.cells #[.slice a len cap,.int .i64 now] 35)).alloc (.cells (ndV x y).toArray 84)) w.heap.size [.slice a len cap,.int .i64 now]):=(boxR_new w [.slice a len cap,.int .i64 now] 35).below (bel_alloc _ _)
    have HZ:Hid (BoxR ((w.alloc (.cells #[.slice a len cap,.int .i64 now] 35)).alloc (.cells (ndV x y).toArray 84)) (w.heap.size+1) (ndV x y)):=(by
      have h:=boxR_new (w.alloc (.cells #[.slice a len cap,.int .i64 now] 35)) (ndV x y) 84
      simp only [World.size_alloc] at h
      exact h)
    have HB:Hid (Below w.heap.size w ((w.alloc (.cells #[.slice a len cap,.int .i64 now] 35)).alloc (.cells (ndV x y).toArray 84))):=bl2T _ _ _
    go_enter Tryz.func117,Tryz.ntmps117
    go_upto_region 1 with fail
    generalize ((w.alloc (.cells #[.slice a len cap,.int .i64 now] 35)).alloc (.cells (ndV x y).toArray 84))=w0 at HX HZ HB ⊢
    obtain ⟨X,hX⟩:∃ X,X=w.heap.size:=⟨_,rfl⟩
    rw [←hX] at HX HZ ⊢
    clear hX
    have t0:w0.cell? ⟨X,0,none⟩=some (.slice a len cap):=HX.out.at0 0 _ rfl
    have t1:w0.cell? ⟨X,1,none⟩=some (.int .i64 now):=HX.out.at0 1 _ rfl
    have e1:=NB.c1 HZ.out
    have e2:=NB.c2 HZ.out
    have e3:=NB.c3 HZ.out
    have e4:=NB.c4 HZ.out
    have e5:=NB.c5 HZ.out
    have e6:=NB.c6 HZ.out
    have e7:=NB.c7 HZ.out
    have e8:=NB.c8 HZ.out
    have e9:=NB.c9 HZ.out
    have e10:=NB.c10 HZ.out
    have e19:=NB.c19 HZ.out
    have e23:=NB.c23 HZ.out
    go_wp2_with (first
      | (go_at_call_of 73 (Value.int IntKind.i64 x.ow);refine (H1.out _).mono ?_;rintro e w1 ⟨rfl,rfl⟩)
      | (go_at_call 73;refine (H2.out _).mono ?_;rintro e w1 ⟨rfl,rfl⟩)
      | (go_at_call 69;refine (H3.out _).mono ?_;rintro e w1 ⟨rfl,rfl⟩)
      | (go_at_call 152;refine (H4.out _ HB.out).mono ?_;rintro e w1 ⟨rfl,hb⟩;replace HB:Hid (Below w.heap.size w w1):=Below.on HB.out hb;replace HX:Hid (BoxR w1 X [.slice a len cap,.int .i64 now]):=HX.out.below hb;replace HZ:Hid (BoxR w1 (X+1) (ndV x y)):=HZ.out.below hb;clear hb;replace t0:w1.cell? ⟨X,0,none⟩=some (.slice a len cap):=HX.out.at0 0 _ rfl;replace t1:w1.cell? ⟨X,1,none⟩=some (.int .i64 now):=HX.out.at0 1 _ rfl;replace e1:=NB.c1 HZ.out;replace e2:=NB.c2 HZ.out;replace e3:=NB.c3 HZ.out;replace e4:=NB.c4 HZ.out;replace e5:=NB.c5 HZ.out;replace e6:=NB.c6 HZ.out;replace e7:=NB.c7 HZ.out;replace e8:=NB.c8 HZ.out;replace e9:=NB.c9 HZ.out;replace e10:=NB.c10 HZ.out;replace e19:=NB.c19 HZ.out;replace e23:=NB.c23 HZ.out))
    go_ret
    exact ⟨ret_boolW (by rw [HE.out];first | done | simp),HB.out⟩
  cases c7:decide (now<x.ti)
  case true =>
    rw [c7] at HE
    have HX:Hid (BoxR ((w.alloc (.cells #[.slice a len cap,.int .i64 now] 35)).alloc (.cells (ndV x y).toArray 84)) w.heap.size [.slice a len cap,.int .i64 now]):=(boxR_new w [.slice a len cap,.int .i64 now] 35).below (bel_alloc _ _)
    have HZ:Hid (BoxR ((w.alloc (.cells #[.slice a len cap,.int .i64 now] 35)).alloc (.cells (ndV x y).toArray 84)) (w.heap.size+1) (ndV x y)):=(by
      have h:=boxR_new (w.alloc (.cells #[.slice a len cap,.int .i64 now] 35)) (ndV x y) 84
      simp only [World.size_alloc] at h
      exact h)
    have HB:Hid (Below w.heap.size w ((w.alloc (.cells #[.slice a len cap,.int .i64 now] 35)).alloc (.cells (ndV x y).toArray 84))):=bl2T _ _ _
    go_enter Tryz.func117,Tryz.ntmps117
    go_upto_region 1 with fail
    generalize ((w.alloc (.cells #[.slice a len cap,.int .i64 now] 35)).alloc (.cells (ndV x y).toArray 84))=w0 at HX HZ HB ⊢
    obtain ⟨X,hX⟩:∃ X,X=w.heap.size:=⟨_,rfl⟩
    rw [←hX] at HX HZ ⊢
    clear hX
    have t0:w0.cell? ⟨X,0,none⟩=some (.slice a len cap):=HX.out.at0 0 _ rfl
    have t1:w0.cell? ⟨X,1,none⟩=some (.int .i64 now):=HX.out.at0 1 _ rfl
    have e1:=NB.c1 HZ.out
    have e2:=NB.c2 HZ.out
    have e3:=NB.c3 HZ.out
    have e4:=NB.c4 HZ.out
    have e5:=NB.c5 HZ.out
    have e6:=NB.c6 HZ.out
    have e7:=NB.c7 HZ.out
    have e8:=NB.c8 HZ.out
    have e9:=NB.c9 HZ.out
    have e10:=NB.c10 HZ.out
    have e19:=NB.c19 HZ.out
    have e23:=NB.c23 HZ.out
    go_wp2_with (first
      | (go_at_call_of 73 (Value.int IntKind.i64 x.ow);refine (H1.out _).mono ?_;rintro e w1 ⟨rfl,rfl⟩)
      | (go_at_call 73;refine (H2.out _).mono ?_;rintro e w1 ⟨rfl,rfl⟩)
      | (go_at_call 69;refine (H3.out _).mono ?_;rintro e w1 ⟨rfl,rfl⟩)
      | (go_at_call 152;refine (H4.out _ HB.out).mono ?_;rintro e w1 ⟨rfl,hb⟩;replace HB:Hid (Below w.heap.size w w1):=Below.on HB.out hb;replace HX:Hid (BoxR w1 X [.slice a len cap,.int .i64 now]):=HX.out.below hb;replace HZ:Hid (BoxR w1 (X+1) (ndV x y)):=HZ.out.below hb;clear hb;replace t0:w1.cell? ⟨X,0,none⟩=some (.slice a len cap):=HX.out.at0 0 _ rfl;replace t1:w1.cell? ⟨X,1,none⟩=some (.int .i64 now):=HX.out.at0 1 _ rfl;replace e1:=NB.c1 HZ.out;replace e2:=NB.c2 HZ.out;replace e3:=NB.c3 HZ.out;replace e4:=NB.c4 HZ.out;replace e5:=NB.c5 HZ.out;replace e6:=NB.c6 HZ.out;replace e7:=NB.c7 HZ.out;replace e8:=NB.c8 HZ.out;replace e9:=NB.c9 HZ.out;replace e10:=NB.c10 HZ.out;replace e19:=NB.c19 HZ.out;replace e23:=NB.c23 HZ.out))
    go_ret
    exact ⟨ret_boolW (by rw [HE.out];first | done | simp),HB.out⟩
  rw [c7] at HE
  cases c8:decide (1≤x.li)
  · rw [c8] at HE
    have HX:Hid (BoxR ((w.alloc (.cells #[.slice a len cap,.int .i64 now] 35)).alloc (.cells (ndV x y).toArray 84)) w.heap.size [.slice a len cap,.int .i64 now]):=(boxR_new w [.slice a len cap,.int .i64 now] 35).below (bel_alloc _ _)
    have HZ:Hid (BoxR ((w.alloc (.cells #[.slice a len cap,.int .i64 now] 35)).alloc (.cells (ndV x y).toArray 84)) (w.heap.size+1) (ndV x y)):=(by
      have h:=boxR_new (w.alloc (.cells #[.slice a len cap,.int .i64 now] 35)) (ndV x y) 84
      simp only [World.size_alloc] at h
      exact h)
    have HB:Hid (Below w.heap.size w ((w.alloc (.cells #[.slice a len cap,.int .i64 now] 35)).alloc (.cells (ndV x y).toArray 84))):=bl2T _ _ _
    go_enter Tryz.func117,Tryz.ntmps117
    go_upto_region 1 with fail
    generalize ((w.alloc (.cells #[.slice a len cap,.int .i64 now] 35)).alloc (.cells (ndV x y).toArray 84))=w0 at HX HZ HB ⊢
    obtain ⟨X,hX⟩:∃ X,X=w.heap.size:=⟨_,rfl⟩
    rw [←hX] at HX HZ ⊢
    clear hX
    have t0:w0.cell? ⟨X,0,none⟩=some (.slice a len cap):=HX.out.at0 0 _ rfl
    have t1:w0.cell? ⟨X,1,none⟩=some (.int .i64 now):=HX.out.at0 1 _ rfl
    have e1:=NB.c1 HZ.out
    have e2:=NB.c2 HZ.out
    have e3:=NB.c3 HZ.out
    have e4:=NB.c4 HZ.out
    have e5:=NB.c5 HZ.out
    have e6:=NB.c6 HZ.out
    have e7:=NB.c7 HZ.out
    have e8:=NB.c8 HZ.out
    have e9:=NB.c9 HZ.out
    have e10:=NB.c10 HZ.out
    have e19:=NB.c19 HZ.out
    have e23:=NB.c23 HZ.out
    go_upto_region 5 with (first
      | (go_at_call_of 73 (Value.int IntKind.i64 x.ow);refine (H1.out _).mono ?_;rintro e w1 ⟨rfl,rfl⟩)
      | (go_at_call 73;refine (H2.out _).mono ?_;rintro e w1 ⟨rfl,rfl⟩)
      | (go_at_call 69;refine (H3.out _).mono ?_;rintro e w1 ⟨rfl,rfl⟩)
      | (go_at_call 152;refine (H4.out _ HB.out).mono ?_;rintro e w1 ⟨rfl,hb⟩;replace HB:Hid (Below w.heap.size w w1):=Below.on HB.out hb;replace HX:Hid (BoxR w1 X [.slice a len cap,.int .i64 now]):=HX.out.below hb;replace HZ:Hid (BoxR w1 (X+1) (ndV x y)):=HZ.out.below hb;clear hb;replace t0:w1.cell? ⟨X,0,none⟩=some (.slice a len cap):=HX.out.at0 0 _ rfl;replace t1:w1.cell? ⟨X,1,none⟩=some (.int .i64 now):=HX.out.at0 1 _ rfl;replace e1:=NB.c1 HZ.out;replace e2:=NB.c2 HZ.out;replace e3:=NB.c3 HZ.out;replace e4:=NB.c4 HZ.out;replace e5:=NB.c5 HZ.out;replace e6:=NB.c6 HZ.out;replace e7:=NB.c7 HZ.out;replace e8:=NB.c8 HZ.out;replace e9:=NB.c9 HZ.out;replace e10:=NB.c10 HZ.out;replace e19:=NB.c19 HZ.out;replace e23:=NB.c23 HZ.out))
    clear t0 t1 e1 e2 e3 e4 e5 e6 e7 e8 e9 e10 e19 e23
    have z19:∀ d os,(Go.Sort.grow (redrawn w1 d) os).cell? ⟨X+1,19,none⟩=some (.int .i64 x.li):=fun d os=>cell_regrown (NB.c19 HZ.out) d os
    have y0:∀ d os,(Go.Sort.grow (redrawn w1 d) os).cell? ⟨X,0,none⟩=some (.slice a len cap):=fun d os=>cell_regrown (HX.out.at0 0 _ rfl) d os
    have y1:∀ d os,(Go.Sort.grow (redrawn w1 d) os).cell? ⟨X,1,none⟩=some (.int .i64 now):=fun d os=>cell_regrown (HX.out.at0 1 _ rfl) d os
    have cL:∀ d os,Calls Tryz.prog 165 #[.agg #[.slice a len cap,.int .i64 now],.int .i64 n] (Go.Sort.grow (redrawn w1 d) os) fun e w''=>e=.returned (.int .i64 lk)∧∃ p:Regrown,w''=Go.Sort.grow (redrawn w1 p.d) p.os:=fun d os=>Calls.regrown_of (HL.out _ (HB.out.trans ((below_regrown w1 d os).mono HB.out.size)))
    refine wp_region_quiet_below (by kernel_rfl) (by kernel_rfl) ?_
    repeat (go_big_quiet_step (exact cL _ _))
    refine wpQuiet_nil ?_
    intro _ hw'
    obtain ⟨⟨dq,osq⟩,hw''⟩:=hw'
    subst hw''
    have HB2:Hid (Below w.heap.size w (Go.Sort.grow (redrawn w1 dq) osq)):=HB.out.trans ((below_regrown w1 dq osq).mono HB.out.size)
    generalize Go.Sort.grow (redrawn w1 dq) osq=w2 at HB2 ⊢
    clear z19 y0 y1 cL
    go_wp2
    go_ret
    exact ⟨ret_boolW (by rw [HE.out];first | done | simp),HB2.out⟩
  rw [c8] at HE
  cases c9:decide (x.li≤5)
  · rw [c9] at HE
    have HX:Hid (BoxR ((w.alloc (.cells #[.slice a len cap,.int .i64 now] 35)).alloc (.cells (ndV x y).toArray 84)) w.heap.size [.slice a len cap,.int .i64 now]):=(boxR_new w [.slice a len cap,.int .i64 now] 35).below (bel_alloc _ _)
    have HZ:Hid (BoxR ((w.alloc (.cells #[.slice a len cap,.int .i64 now] 35)).alloc (.cells (ndV x y).toArray 84)) (w.heap.size+1) (ndV x y)):=(by
      have h:=boxR_new (w.alloc (.cells #[.slice a len cap,.int .i64 now] 35)) (ndV x y) 84
      simp only [World.size_alloc] at h
      exact h)
    have HB:Hid (Below w.heap.size w ((w.alloc (.cells #[.slice a len cap,.int .i64 now] 35)).alloc (.cells (ndV x y).toArray 84))):=bl2T _ _ _
    go_enter Tryz.func117,Tryz.ntmps117
    go_upto_region 1 with fail
    generalize ((w.alloc (.cells #[.slice a len cap,.int .i64 now] 35)).alloc (.cells (ndV x y).toArray 84))=w0 at HX HZ HB ⊢
    obtain ⟨X,hX⟩:∃ X,X=w.heap.size:=⟨_,rfl⟩
    rw [←hX] at HX HZ ⊢
    clear hX
    have t0:w0.cell? ⟨X,0,none⟩=some (.slice a len cap):=HX.out.at0 0 _ rfl
    have t1:w0.cell? ⟨X,1,none⟩=some (.int .i64 now):=HX.out.at0 1 _ rfl
    have e1:=NB.c1 HZ.out
    have e2:=NB.c2 HZ.out
    have e3:=NB.c3 HZ.out
    have e4:=NB.c4 HZ.out
    have e5:=NB.c5 HZ.out
    have e6:=NB.c6 HZ.out
    have e7:=NB.c7 HZ.out
    have e8:=NB.c8 HZ.out
    have e9:=NB.c9 HZ.out
    have e10:=NB.c10 HZ.out
    have e19:=NB.c19 HZ.out
    have e23:=NB.c23 HZ.out
    go_upto_region 5 with (first
      | (go_at_call_of 73 (Value.int IntKind.i64 x.ow);refine (H1.out _).mono ?_;rintro e w1 ⟨rfl,rfl⟩)
      | (go_at_call 73;refine (H2.out _).mono ?_;rintro e w1 ⟨rfl,rfl⟩)
      | (go_at_call 69;refine (H3.out _).mono ?_;rintro e w1 ⟨rfl,rfl⟩)
      | (go_at_call 152;refine (H4.out _ HB.out).mono ?_;rintro e w1 ⟨rfl,hb⟩;replace HB:Hid (Below w.heap.size w w1):=Below.on HB.out hb;replace HX:Hid (BoxR w1 X [.slice a len cap,.int .i64 now]):=HX.out.below hb;replace HZ:Hid (BoxR w1 (X+1) (ndV x y)):=HZ.out.below hb;clear hb;replace t0:w1.cell? ⟨X,0,none⟩=some (.slice a len cap):=HX.out.at0 0 _ rfl;replace t1:w1.cell? ⟨X,1,none⟩=some (.int .i64 now):=HX.out.at0 1 _ rfl;replace e1:=NB.c1 HZ.out;replace e2:=NB.c2 HZ.out;replace e3:=NB.c3 HZ.out;replace e4:=NB.c4 HZ.out;replace e5:=NB.c5 HZ.out;replace e6:=NB.c6 HZ.out;replace e7:=NB.c7 HZ.out;replace e8:=NB.c8 HZ.out;replace e9:=NB.c9 HZ.out;replace e10:=NB.c10 HZ.out;replace e19:=NB.c19 HZ.out;replace e23:=NB.c23 HZ.out))
    clear t0 t1 e1 e2 e3 e4 e5 e6 e7 e8 e9 e10 e19 e23
    have z19:∀ d os,(Go.Sort.grow (redrawn w1 d) os).cell? ⟨X+1,19,none⟩=some (.int .i64 x.li):=fun d os=>cell_regrown (NB.c19 HZ.out) d os
    have y0:∀ d os,(Go.Sort.grow (redrawn w1 d) os).cell? ⟨X,0,none⟩=some (.slice a len cap):=fun d os=>cell_regrown (HX.out.at0 0 _ rfl) d os
    have y1:∀ d os,(Go.Sort.grow (redrawn w1 d) os).cell? ⟨X,1,none⟩=some (.int .i64 now):=fun d os=>cell_regrown (HX.out.at0 1 _ rfl) d os
    have cL:∀ d os,Calls Tryz.prog 165 #[.agg #[.slice a len cap,.int .i64 now],.int .i64 n] (Go.Sort.grow (redrawn w1 d) os) fun e w''=>e=.returned (.int .i64 lk)∧∃ p:Regrown,w''=Go.Sort.grow (redrawn w1 p.d) p.os:=fun d os=>Calls.regrown_of (HL.out _ (HB.out.trans ((below_regrown w1 d os).mono HB.out.size)))
    refine wp_region_quiet_below (by kernel_rfl) (by kernel_rfl) ?_
    repeat (go_big_quiet_step (exact cL _ _))
    refine wpQuiet_nil ?_
    intro _ hw'
    obtain ⟨⟨dq,osq⟩,hw''⟩:=hw'
    subst hw''
    have HB2:Hid (Below w.heap.size w (Go.Sort.grow (redrawn w1 dq) osq)):=HB.out.trans ((below_regrown w1 dq osq).mono HB.out.size)
    generalize Go.Sort.grow (redrawn w1 dq) osq=w2 at HB2 ⊢
    clear z19 y0 y1 cL
    go_wp2
    go_ret
    exact ⟨ret_boolW (by rw [HE.out];first | done | simp),HB2.out⟩
  rw [c9] at HE
  have HX:Hid (BoxR ((w.alloc (.cells #[.slice a len cap,.int .i64 now] 35)).alloc (.cells (ndV x y).toArray 84)) w.heap.size [.slice a len cap,.int .i64 now]):=(boxR_new w [.slice a len cap,.int .i64 now] 35).below (bel_alloc _ _)
  have HZ:Hid (BoxR ((w.alloc (.cells #[.slice a len cap,.int .i64 now] 35)).alloc (.cells (ndV x y).toArray 84)) (w.heap.size+1) (ndV x y)):=(by
    have h:=boxR_new (w.alloc (.cells #[.slice a len cap,.int .i64 now] 35)) (ndV x y) 84
    simp only [World.size_alloc] at h
    exact h)
  have HB:Hid (Below w.heap.size w ((w.alloc (.cells #[.slice a len cap,.int .i64 now] 35)).alloc (.cells (ndV x y).toArray 84))):=bl2T _ _ _
  go_enter Tryz.func117,Tryz.ntmps117
  go_upto_region 1 with fail
  generalize ((w.alloc (.cells #[.slice a len cap,.int .i64 now] 35)).alloc (.cells (ndV x y).toArray 84))=w0 at HX HZ HB ⊢
  obtain ⟨X,hX⟩:∃ X,X=w.heap.size:=⟨_,rfl⟩
  rw [←hX] at HX HZ ⊢
  clear hX
  have t0:w0.cell? ⟨X,0,none⟩=some (.slice a len cap):=HX.out.at0 0 _ rfl
  have t1:w0.cell? ⟨X,1,none⟩=some (.int .i64 now):=HX.out.at0 1 _ rfl
  have e1:=NB.c1 HZ.out
  have e2:=NB.c2 HZ.out
  have e3:=NB.c3 HZ.out
  have e4:=NB.c4 HZ.out
  have e5:=NB.c5 HZ.out
  have e6:=NB.c6 HZ.out
  have e7:=NB.c7 HZ.out
  have e8:=NB.c8 HZ.out
  have e9:=NB.c9 HZ.out
  have e10:=NB.c10 HZ.out
  have e19:=NB.c19 HZ.out
  have e23:=NB.c23 HZ.out
  go_upto_region 5 with (first
    | (go_at_call_of 73 (Value.int IntKind.i64 x.ow);refine (H1.out _).mono ?_;rintro e w1 ⟨rfl,rfl⟩)
    | (go_at_call 73;refine (H2.out _).mono ?_;rintro e w1 ⟨rfl,rfl⟩)
    | (go_at_call 69;refine (H3.out _).mono ?_;rintro e w1 ⟨rfl,rfl⟩)
    | (go_at_call 152;refine (H4.out _ HB.out).mono ?_;rintro e w1 ⟨rfl,hb⟩;replace HB:Hid (Below w.heap.size w w1):=Below.on HB.out hb;replace HX:Hid (BoxR w1 X [.slice a len cap,.int .i64 now]):=HX.out.below hb;replace HZ:Hid (BoxR w1 (X+1) (ndV x y)):=HZ.out.below hb;clear hb;replace t0:w1.cell? ⟨X,0,none⟩=some (.slice a len cap):=HX.out.at0 0 _ rfl;replace t1:w1.cell? ⟨X,1,none⟩=some (.int .i64 now):=HX.out.at0 1 _ rfl;replace e1:=NB.c1 HZ.out;replace e2:=NB.c2 HZ.out;replace e3:=NB.c3 HZ.out;replace e4:=NB.c4 HZ.out;replace e5:=NB.c5 HZ.out;replace e6:=NB.c6 HZ.out;replace e7:=NB.c7 HZ.out;replace e8:=NB.c8 HZ.out;replace e9:=NB.c9 HZ.out;replace e10:=NB.c10 HZ.out;replace e19:=NB.c19 HZ.out;replace e23:=NB.c23 HZ.out))
  clear t0 t1 e1 e2 e3 e4 e5 e6 e7 e8 e9 e10 e19 e23
  have z19:∀ d os,(Go.Sort.grow (redrawn w1 d) os).cell? ⟨X+1,19,none⟩=some (.int .i64 x.li):=fun d os=>cell_regrown (NB.c19 HZ.out) d os
  have y0:∀ d os,(Go.Sort.grow (redrawn w1 d) os).cell? ⟨X,0,none⟩=some (.slice a len cap):=fun d os=>cell_regrown (HX.out.at0 0 _ rfl) d os
  have y1:∀ d os,(Go.Sort.grow (redrawn w1 d) os).cell? ⟨X,1,none⟩=some (.int .i64 now):=fun d os=>cell_regrown (HX.out.at0 1 _ rfl) d os
  have cL:∀ d os,Calls Tryz.prog 165 #[.agg #[.slice a len cap,.int .i64 now],.int .i64 n] (Go.Sort.grow (redrawn w1 d) os) fun e w''=>e=.returned (.int .i64 lk)∧∃ p:Regrown,w''=Go.Sort.grow (redrawn w1 p.d) p.os:=fun d os=>Calls.regrown_of (HL.out _ (HB.out.trans ((below_regrown w1 d os).mono HB.out.size)))
  refine wp_region_quiet_below (by kernel_rfl) (by kernel_rfl) ?_
  repeat (go_big_quiet_step (exact cL _ _))
  refine wpQuiet_nil ?_
  intro _ hw'
  obtain ⟨⟨dq,osq⟩,hw''⟩:=hw'
  subst hw''
  have HB2:Hid (Below w.heap.size w (Go.Sort.grow (redrawn w1 dq) osq)):=HB.out.trans ((below_regrown w1 dq osq).mono HB.out.size)
  generalize Go.Sort.grow (redrawn w1 dq) osq=w2 at HB2 ⊢
  clear z19 y0 y1 cL
  go_wp2
  go_ret
  exact ⟨ret_boolW (by rw [HE.out];first | done | simp),HB2.out⟩
end Go.Proofs.YtabfdidnjibdeaaGreatDoor
