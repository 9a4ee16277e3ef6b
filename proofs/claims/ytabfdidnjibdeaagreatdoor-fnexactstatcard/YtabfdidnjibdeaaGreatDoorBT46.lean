/- Laid together: CpL, BegW, StS. -/
import Derived.Test.YtabfdidnjibdeaaGreatDoorBT45
import Derived.Test.YtabfdidnjibdeaaGreatDoorBT10
import Derived.Test.YtabfdidnjibdeaaGreatDoorBT36
import Derived.Deep.RegionHeld3
import Derived.Deep.DeepCutAuto
import Derived.Test.YtabfdidnjibdeaaGreatDoorBT44
/- spec.l08Copy: a tree in memory of its own. -/
namespace Go.Proofs.YtabfdidnjibdeaaGreatDoor
open Go.RowKit Go.PlainAid Go.Deep
set_option linter.unusedSimpArgs false
set_option linter.unusedVariables false
theorem Prs.keep {a:Option Addr} {len:Nat} {l:List (Int × Int)} {w w':World} (h:Prs a len l w) (hs:w.heap.size≤w'.heap.size) (hk:∀ b f,a=some ⟨b,f,none⟩→w'.heap[b]?=w.heap[b]?):Prs a len l w':=by
  refine ⟨h.1,fun hl => ?_⟩
  obtain ⟨b,off,ha,hlt,hc⟩:=h.2 hl
  have hb:=hk b off ha
  exact ⟨b,off,ha,Nat.lt_of_lt_of_le hlt hs,fun i hi => ⟨(World.cell?_of_block (a:=⟨b,off + i * 2,none⟩) hb).trans (hc i hi).1,(World.cell?_of_block (a:=⟨b,off + i * 2 + 1,none⟩) hb).trans (hc i hi).2⟩⟩
theorem Ens.keep {a:Option Addr} {len:Nat} {l:List (ByteArray × Int)} {w w':World} (h:Ens a len l w) (hs:w.heap.size≤w'.heap.size) (hk:∀ b f,a=some ⟨b,f,none⟩→w'.heap[b]?=w.heap[b]?):Ens a len l w':=by
  refine ⟨h.1,fun hl => ?_⟩
  obtain ⟨b,off,ha,hlt,hc⟩:=h.2 hl
  have hb:=hk b off ha
  exact ⟨b,off,ha,Nat.lt_of_lt_of_le hlt hs,fun i hi => ⟨(World.cell?_of_block (a:=⟨b,off + i * 2,none⟩) hb).trans (hc i hi).1,(World.cell?_of_block (a:=⟨b,off + i * 2 + 1,none⟩) hb).trans (hc i hi).2⟩⟩
theorem NdIn.keep {w w':World} {x:Nd} {y:Na} (h:NdIn w x y) (hs:w.heap.size≤w'.heap.size) (hk:∀ b,NaAt y b→w'.heap[b]?=w.heap[b]?):NdIn w' x y :=
  ⟨h.aU.keep hs (fun b f e => hk b ⟨f,.inl e⟩),h.aG.keep hs (fun b f e => hk b ⟨f,.inr (.inl e)⟩),h.dU.keep hs (fun b f e => hk b ⟨f,.inr (.inr (.inl e))⟩),h.dG.keep hs (fun b f e => hk b ⟨f,.inr (.inr (.inr (.inl e)))⟩),h.nA.keep hs (fun b f e => hk b ⟨f,.inr (.inr (.inr (.inr e)))⟩)⟩
theorem NaFrom.le {N b:Nat} {y:Na} (h:NaFrom N y) (hb:NaAt y b):N≤b:=by
  obtain ⟨f,e | e | e | e | e⟩:=hb
  · exact h.aU b f e
  · exact h.aG b f e
  · exact h.dU b f e
  · exact h.dG b f e
  · exact h.nA b f e
theorem run_one_nd (x:Nd) (y:Na) (w:World):(Instr.buildSlice 33 1 #[(0,.agg (ndV x y).toArray)]).run Tryz.prog w=.ok (.slice (some ⟨w.heap.size,0,none⟩) 1 1) (w.alloc (.cells (ndV x y).toArray 84)):=by
  kernel_rfl
/-- Nodes that are being copied: v is the row so far. -/
structure CpI (w:World) (B:Nat) (v:Value) (ds:List (Nd × Na)):Prop where
  own:w.ownsRow B 84 24 v ds.length (pcN ds)
  inn:∀ p ∈ ds,NdIn w p.1 p.2
  loc:∀ p ∈ ds,∀ b,NaAt p.2 b→B≤b∧b < w.heap.size∧v.ownBlock ≠ some b
theorem CpI.below {w w':World} {B:Nat} {v:Value} {ds:List (Nd × Na)} (h:CpI w B v ds) (hb:Below w.heap.size w w'):CpI w' B v ds :=
  ⟨rowU_below h.own hb,fun p hp => (h.inn p hp).below hb,fun p hp b e => ⟨(h.loc p hp b e).1,Nat.lt_of_lt_of_le (h.loc p hp b e).2.1 hb.size,(h.loc p hp b e).2.2⟩⟩
theorem CpI.lt {w:World} {B:Nat} {v:Value} {ds:List (Nd × Na)} (h:CpI w B v ds):∀ k,v.ownBlock=some k→B≤k∧k < w.heap.size:=by
  obtain ⟨_,⟨rfl,_⟩ | ⟨g,cap,cur,rfl,hb,hg,_⟩⟩:=h.own
  · intro k hk; simp [Value.ownBlock] at hk
  · intro k hk
    have hlt:g < w.heap.size:=(Array.getElem?_eq_some_iff.1 hg).1
    simp [Value.ownBlock] at hk
    omega
theorem CpI.set {w:World} {B Z o:Nat} {v u:Value} {ds:List (Nd × Na)} (h:CpI w B v ds) (hz:Z < B):CpI (w.setCell ⟨Z,o,none⟩ u) B v ds:=by
  have hk:∀ b,B≤b→(w.setCell ⟨Z,o,none⟩ u).heap[b]?=w.heap[b]?:=fun b hb => Below.heap_setCell _ _ _ _ (by show b ≠ Z; omega)
  refine ⟨?_,fun p hp => (h.inn p hp).keep (by simp) (fun b e => hk b (h.loc p hp b e).1),fun p hp b e => ⟨(h.loc p hp b e).1,by simpa using (h.loc p hp b e).2.1,(h.loc p hp b e).2.2⟩⟩
  obtain ⟨h0,⟨rfl,hn⟩ | ⟨g,cap,cur,rfl,hB,hg,hc,hm,hs,ht⟩⟩:=h.own
  · exact ⟨h0,.inl ⟨rfl,hn⟩⟩
  · exact ⟨h0,.inr ⟨g,cap,cur,rfl,hB,(hk g hB).trans hg,hc,hm,hs,ht⟩⟩
/-- One more. -/
theorem CpI.step {w w1:World} {B:Nat} {v:Value} {ds:List (Nd × Na)} (h:CpI w B v ds) (hb:Below w.heap.size w w1) (hB:B≤w.heap.size) (x:Nd) (y:Na) (hn:NdIn w1 x y) (hf:NaFrom w.heap.size y) (hl:∀ b,NaAt y b→b < w1.heap.size) (hsm:ds.length≤1000000) :
    ∃ v' w',(Builtin.append_ #[33,33] 33 #[v,.slice (some ⟨w1.heap.size,0,none⟩) 1 1]).run Tryz.prog (w1.alloc (.cells (ndV x y).toArray 84))=.ok v' w'∧CpI w' B v' (ds ++ [(x,y)])∧Below B w1 w'∧w1.heap.size≤w'.heap.size:=by
  have h1:=h.below hb
  obtain ⟨v',w',hr,ho,hbl,hsz,hk,hid⟩:=run_append_ndK w1 B 33 v ds x y h1.own (by omega) (Nat.le_trans hB hb.size)
  have hoff:∀ p ∈ ds ++ [(x,y)],∀ b,NaAt p.2 b→B≤b∧b < w1.heap.size∧v.ownBlock ≠ some b:=by
    intro p hp b e
    rcases List.mem_append.1 hp with hp | hp
    · exact h1.loc p hp b e
    · obtain rfl := List.mem_singleton.1 hp
      have e1:=hf.le e
      refine ⟨by omega,hl b e,fun e2 => ?_⟩
      have:=(h.lt b e2).2
      omega
  have hin:∀ p ∈ ds ++ [(x,y)],NdIn w1 p.1 p.2:=by
    intro p hp
    rcases List.mem_append.1 hp with hp | hp
    · exact h1.inn p hp
    · obtain rfl := List.mem_singleton.1 hp
      exact hn
  refine ⟨v',w',hr,⟨ho,fun p hp => (hin p hp).keep hsz (fun b e => hk b (hoff p hp b e).2.1 (hoff p hp b e).2.2),fun p hp b e => ⟨(hoff p hp b e).1,Nat.lt_of_lt_of_le (hoff p hp b e).2.1 hsz,fun e2 => ?_⟩⟩,hbl,hsz⟩
  rcases hid b e2 with h3 | h3
  · exact (hoff p hp b e).2.2 h3
  · have := (hoff p hp b e).2.1
    omega
theorem CpI.start (w:World) (B:Nat):CpI w B (.slice none 0 0) []:=⟨⟨rfl,.inl ⟨rfl,rfl⟩⟩,(fun p hp => by cases hp),(fun p hp => by cases hp)⟩
theorem take_succ_nd (l:List Nd) (k:Nat) (h:k < l.length):l.take (k + 1)=l.take k ++ [ndAt l k]:=by
  rw [List.take_succ_eq_append_getElem h]
  simp [ndAt,List.getD,h]
theorem row_slice {w:World} {B:Nat} {t:TypeId} {s:Nat} {v:Value} {n:Nat} {xs:List Value} (h:w.ownsRow B t s v n xs):∃ a l c,v=.slice a l c:=by
  obtain ⟨_,⟨rfl,_⟩ | ⟨g,cap,cur,rfl,_⟩⟩:=h
  · exact ⟨_,_,_,rfl⟩
  · exact ⟨_,_,_,rfl⟩
set_option maxRecDepth 20000 in
set_option maxHeartbeats 8000000 in
theorem sCopyT_any (tb tf len cap:Nat) (l:List Nd) (Y:Nat→Na) (now:Int) (hl:len≤12) (hll:l.length=len) (hf:∀ i,i < len→NdFit 1048576 (ndAt l i)) (w:World) (htb:tb < w.heap.size) (hN:∀ i,i < len→N24 w tb (tf + i * 24) (ndAt l i) (Y i)∧NdIn w (ndAt l i) (Y i)) :
    Calls Tryz.prog 93 #[.agg #[.slice (some ⟨tb,tf,none⟩) len cap,.int .i64 now]] w fun e w' => ∃ v ds,e=.returned (.agg #[v,.int .i64 now])∧Hid (CpI w' (w.heap.size + 1 + 1 + 1) v ds)∧ds.map (·.1)=l∧Below w.heap.size w w':=by
  have HN:Hid (∀ i,i < len→N24 w tb (tf + i * 24) (ndAt l i) (Y i)∧NdIn w (ndAt l i) (Y i)):=hN
  have HF:Hid (∀ i,i < len→NdFit 1048576 (ndAt l i)):=hf
  have HTb:Hid (tb < w.heap.size):=htb
  clear hN hf htb
  have HB:Hid (Below w.heap.size w (((w.alloc (.cells #[.slice (some ⟨tb,tf,none⟩) len cap,.int .i64 now] 35)).alloc (.cells #[.slice none 0 0,.int .i64 0] 35)).alloc (.cells #[.slice none 0 0,.int .i64 now] 35))):=Below.on (bl2T w (.cells #[.slice (some ⟨tb,tf,none⟩) len cap,.int .i64 now] 35) (.cells #[.slice none 0 0,.int .i64 0] 35)) (bel_alloc ((w.alloc (.cells #[.slice (some ⟨tb,tf,none⟩) len cap,.int .i64 now] 35)).alloc (.cells #[.slice none 0 0,.int .i64 0] 35)) (.cells #[.slice none 0 0,.int .i64 now] 35))
  have HX:Hid (BoxR (((w.alloc (.cells #[.slice (some ⟨tb,tf,none⟩) len cap,.int .i64 now] 35)).alloc (.cells #[.slice none 0 0,.int .i64 0] 35)).alloc (.cells #[.slice none 0 0,.int .i64 now] 35)) w.heap.size [.slice (some ⟨tb,tf,none⟩) len cap,.int .i64 now]):=((boxR_new w [.slice (some ⟨tb,tf,none⟩) len cap,.int .i64 now] 35).below (bel_alloc (w.alloc (.cells #[.slice (some ⟨tb,tf,none⟩) len cap,.int .i64 now] 35)) (.cells #[.slice none 0 0,.int .i64 0] 35))).below (bel_alloc ((w.alloc (.cells #[.slice (some ⟨tb,tf,none⟩) len cap,.int .i64 now] 35)).alloc (.cells #[.slice none 0 0,.int .i64 0] 35)) (.cells #[.slice none 0 0,.int .i64 now] 35))
  have HZ:Hid (BoxW (((w.alloc (.cells #[.slice (some ⟨tb,tf,none⟩) len cap,.int .i64 now] 35)).alloc (.cells #[.slice none 0 0,.int .i64 0] 35)).alloc (.cells #[.slice none 0 0,.int .i64 now] 35)) (w.heap.size + 1) [.slice none 0 0,.int .i64 0]):=(by
    have h:=(boxW_new (w.alloc (.cells #[.slice (some ⟨tb,tf,none⟩) len cap,.int .i64 now] 35)) [.slice none 0 0,.int .i64 0] 35).below (bel_alloc ((w.alloc (.cells #[.slice (some ⟨tb,tf,none⟩) len cap,.int .i64 now] 35)).alloc (.cells #[.slice none 0 0,.int .i64 0] 35)) (.cells #[.slice none 0 0,.int .i64 now] 35))
    simp only [World.size_alloc] at h
    exact h)
  have HO:Hid (BoxW (((w.alloc (.cells #[.slice (some ⟨tb,tf,none⟩) len cap,.int .i64 now] 35)).alloc (.cells #[.slice none 0 0,.int .i64 0] 35)).alloc (.cells #[.slice none 0 0,.int .i64 now] 35)) (w.heap.size + 1 + 1) [.slice none 0 0,.int .i64 now]):=(by
    have h:=boxW_new ((w.alloc (.cells #[.slice (some ⟨tb,tf,none⟩) len cap,.int .i64 now] 35)).alloc (.cells #[.slice none 0 0,.int .i64 0] 35)) [.slice none 0 0,.int .i64 now] 35
    simp only [World.size_alloc] at h
    exact h)
  have t0b:(((w.alloc (.cells #[.slice (some ⟨tb,tf,none⟩) len cap,.int .i64 now] 35)).alloc (.cells #[.slice none 0 0,.int .i64 0] 35))).cell? ⟨w.heap.size,1,none⟩=some (.int .i64 now):=((boxR_new w [.slice (some ⟨tb,tf,none⟩) len cap,.int .i64 now] 35).below (bel_alloc (w.alloc (.cells #[.slice (some ⟨tb,tf,none⟩) len cap,.int .i64 now] 35)) (.cells #[.slice none 0 0,.int .i64 0] 35))).at0 1 _ rfl
  go_enter Tryz.func93,Tryz.ntmps93
  go_upto_region 2 with fail
  generalize (((w.alloc (.cells #[.slice (some ⟨tb,tf,none⟩) len cap,.int .i64 now] 35)).alloc (.cells #[.slice none 0 0,.int .i64 0] 35)).alloc (.cells #[.slice none 0 0,.int .i64 now] 35))=w0 at HB HX HZ HO ⊢
  obtain ⟨X,hX⟩:∃ X,X=w.heap.size:=⟨_,rfl⟩
  have HXw:Hid (X=w.heap.size):=hX
  rw [← hX] at HX HZ HO ⊢
  clear hX t0b
  go_wp2
  go_loopw [4] (fun i wr => ∃ (k:Nat) (v:Value) (ds:List (Nd × Na)),k≤len∧i=.int .i64 k∧ds.length=k∧ds.map (·.1)=l.take k∧Hid (CpI wr (X + 1 + 1 + 1) v ds)∧Hid (BoxW wr (X + 1 + 1) [v,.int .i64 now])∧Hid (BoxR wr X [.slice (some ⟨tb,tf,none⟩) len cap,.int .i64 now])∧Hid (BoxW wr (X + 1) [.slice none 0 0,.int .i64 0])∧Hid (Below w.heap.size w wr)) (fun i _ => len - (intOf i).toNat)
  case atStart => exact ⟨0,_,[],Nat.zero_le _,rfl,rfl,by simp,CpI.start _ _,HO,HX,HZ,HB⟩
  case round =>
    obtain ⟨k,v,ds,hk,rfl,hdl,hdm,hC,hO,hX,hZ,hB⟩:=hrel
    clear HB HX HZ HO
    have x0:wr.cell? ⟨X,0,none⟩=some (.slice (some ⟨tb,tf,none⟩) len cap):=hX.out.at0 0 _ rfl
    have o0:wr.cell? ⟨X + 1 + 1,0,none⟩=some v:=hO.out.at0 0 _ rfl
    by_cases hlt:k < len
    · have hlt' : (k : Int) < (len : Int) := by omega
      have hk0:(0:Int)≤(k:Int):=by omega
      have HNX:Hid (N24 wr tb (tf + k * 24) (ndAt l k) (Y k)):=range_below (HN.out k hlt).1 HTb.out hB.out
      have HFx:=HF.out k hlt
      have HIx:Hid (NdIn wr (ndAt l k) (Y k)):=(HN.out k hlt).2.below hB.out
      have hmp:∀ y':Na,(ds ++ [(ndAt l k,y')]).map (·.1)=l.take (k + 1):=fun y' => by rw [List.map_append,hdm,take_succ_nd l k (by omega)]; rfl
      have HCn:Hid (∀ w',Below wr.heap.size wr w'→Calls Tryz.prog 140 #[.agg (ndV (ndAt l k) (Y k)).toArray] w' fun e w'' => ∃ y':Na,e=.returned (.agg (ndV (ndAt l k) y').toArray)∧NdIn w'' (ndAt l k) y'∧NaFrom w'.heap.size y'∧Below w'.heap.size w' w''∧∀ b,NaAt y' b→b < w''.heap.size):=(fun w' hb => sCopyNodeL_any _ _ HFx w' (HIx.out.below hb))
      clear HFx HIx hdm
      generalize ndAt l k=x at HNX hmp HCn
      generalize Y k=y at HNX HCn
      have HMp:Hid (∀ y':Na,(ds ++ [(x,y')]).map (·.1)=l.take (k + 1)):=hmp
      clear hmp
      have hXne:X ≠ X + 1 + 1:=by omega
      have HTX:Hid (tb ≠ X + 1 + 1):=(by have:=HTb.out; have:=HXw.out; show _ ≠ _; omega)
      go_upto_region 5 with fail
      refine wp_region_held_drew (S:=(fun w' => w'.cell? ⟨X,0,none⟩=some (.slice (some ⟨tb,tf,none⟩) len cap)∧w'.rangeAt tb (tf + k * 24) (ndV x y))) (by kernel_rfl) (by exact ⟨x0,HNX.out⟩) (fun hHeld => ?_)
      refine wpAnyH_take (i:=0) (v:=.pointer (some ⟨X + 1 + 1,0,none⟩)) rfl (by kernel_rfl) (by kernel_rfl) (by kernel_rfl) (fun _ _ _ h => h) (Or.inl ⟨by rfl,fun _ _ => by rfl⟩) hHeld ?_
      try simp only [Act.put,List.getElem_toArray,List.getElem_cons_zero,List.getElem_cons_succ,List.setIfInBounds_toArray,List.set_cons_zero,List.set_cons_succ]
      refine wpAnyH_take (i:=2) (v:=.pointer (some ⟨X,0,none⟩)) rfl (by kernel_rfl) (by kernel_rfl) (by kernel_rfl) (fun _ _ _ h => h) (Or.inl ⟨by rfl,fun _ _ => by rfl⟩) hHeld ?_
      try simp only [Act.put,List.getElem_toArray,List.getElem_cons_zero,List.getElem_cons_succ,List.setIfInBounds_toArray,List.set_cons_zero,List.set_cons_succ]
      refine wpAnyH_take (i:=3) (v:=.slice (some ⟨tb,tf,none⟩) len cap) rfl (by kernel_rfl) (by kernel_rfl) (by kernel_rfl) (fun _ _ _ h => h) (Or.inl ⟨by rfl,fun _ h => by have h0:=h.1; go_simp⟩) hHeld ?_
      try simp only [Act.put,List.getElem_toArray,List.getElem_cons_zero,List.getElem_cons_succ,List.setIfInBounds_toArray,List.set_cons_zero,List.set_cons_succ]
      refine wpAnyH_take (i:=4) (v:=.int .i64 k) rfl (by kernel_rfl) (by kernel_rfl) (by kernel_rfl) (fun _ _ _ h => h) (Or.inl ⟨by rfl,fun _ _ => by rfl⟩) hHeld ?_
      try simp only [Act.put,List.getElem_toArray,List.getElem_cons_zero,List.getElem_cons_succ,List.setIfInBounds_toArray,List.set_cons_zero,List.set_cons_succ]
      refine wpAnyH_take (i:=5) (v:=.pointer (some ⟨tb,tf + k * 24,none⟩)) rfl (by kernel_rfl) (by kernel_rfl) (by kernel_rfl) (fun _ _ _ h => h) (Or.inl ⟨by rfl,fun _ h => by go_simp⟩) hHeld ?_
      try simp only [Act.put,List.getElem_toArray,List.getElem_cons_zero,List.getElem_cons_succ,List.setIfInBounds_toArray,List.set_cons_zero,List.set_cons_succ]
      refine wpAnyH_take (i:=6) (v:=.agg (ndV x y).toArray) rfl (by kernel_rfl) (by kernel_rfl) (by kernel_rfl) (fun _ _ _ h => h) (yieldsIf_load_mid (by rfl) 84 _ rfl tb (tf + k * 24) rfl _ _ (fun _ h => h.2) Tryz.underlying84 rfl (by kernel_rfl)) hHeld ?_
      try simp only [Act.put,List.getElem_toArray,List.getElem_cons_zero,List.getElem_cons_succ,List.setIfInBounds_toArray,List.set_cons_zero,List.set_cons_succ]
      refine wpAnyH_ready (rs:=[1,7]) (by kernel_rfl) (by simp) ?_
      refine AllReadyH.cons rfl (fun K hK => ?_) (AllReadyH.cons rfl (fun K hK => ?_) AllReadyH.nil)
      · rw [if_pos (by rfl)]
        have o0q:wr.drew.cell? ⟨X + 1 + 1,0,none⟩=some v:=o0
        go_simp
        refine hK.out _ _ hHeld (fun hHeld => ?_)
        clear hK K o0q
        try simp only [Act.put,List.getElem_toArray,List.getElem_cons_zero,List.getElem_cons_succ,List.setIfInBounds_toArray,List.set_cons_zero,List.set_cons_succ]
        refine wpAnyH_ready (rs:=[7]) (by kernel_rfl) (by simp) ?_
        refine AllReadyH.cons rfl (fun K hK => ?_) AllReadyH.nil
        rw [if_pos (by rfl)]
        go_simp
        refine (HCn.out _ (below_drewT (Below.refl _ _))).mono ?_
        rintro e w1 ⟨y1,rfl,hn1,hf1,hb1,hl1⟩
        simp only []
        have hb1q:Below wr.heap.size wr w1:=⟨hb1.os,hb1.tape,hb1.output,hb1.size,hb1.block⟩
        have hHeld1:(fun w' => w'.cell? ⟨X,0,none⟩=some (.slice (some ⟨tb,tf,none⟩) len cap)∧w'.rangeAt tb (tf + k * 24) (ndV x y)) w1:=⟨(hb1q.cell (p:=⟨X,0,none⟩) hX.out.lt).trans x0,range_below HNX.out (Nat.lt_of_lt_of_le HTb.out hB.out.size) hb1q⟩
        have HO1:Hid (BoxW w1 (X + 1 + 1) [v,.int .i64 now]):=hO.out.below hb1q
        have HB1:Hid (Below w.heap.size w w1):=Below.on hB.out hb1q
        have HX1:Hid (BoxR w1 X [.slice (some ⟨tb,tf,none⟩) len cap,.int .i64 now]):=hX.out.below hb1q
        have HZ1:Hid (BoxW w1 (X + 1) [.slice none 0 0,.int .i64 0]):=hZ.out.below hb1q
        obtain ⟨v2,w2,hr2,hC2,hb2,hsz2⟩:=hC.out.step hb1q (by have:=hO.out.lt; omega) x y1 hn1 hf1 hl1 (by omega)
        have HR2:Hid _:=hr2
        have HC2:Hid (CpI w2 (X + 1 + 1 + 1) v2 (ds ++ [(x,y1)])):=hC2
        have HL:∀ b o,b < X + 1 + 1 + 1→w2.cell? ⟨b,o,none⟩=w1.cell? ⟨b,o,none⟩:=fun b o h => hb2.cell (p:=⟨b,o,none⟩) h
        have HLf:∀ b o,b < X + 1 + 1 + 1→w2.frozen? ⟨b,o,none⟩=w1.frozen? ⟨b,o,none⟩:=fun b o h => hb2.frozen (p:=⟨b,o,none⟩) h
        have HO2:Hid (BoxW w2 (X + 1 + 1) [v,.int .i64 now]):=⟨Nat.lt_of_lt_of_le HO1.out.lt hsz2,range_keep HO1.out.at0 (fun j => HL _ j (by omega)),fun j => (HLf _ j (by omega)).trans (HO1.out.frz j)⟩
        have HX2:Hid (BoxR w2 X [.slice (some ⟨tb,tf,none⟩) len cap,.int .i64 now]):=⟨Nat.lt_of_lt_of_le HX1.out.lt hsz2,range_keep HX1.out.at0 (fun j => HL _ j (by omega))⟩
        have HZ2:Hid (BoxW w2 (X + 1) [.slice none 0 0,.int .i64 0]):=⟨Nat.lt_of_lt_of_le HZ1.out.lt hsz2,range_keep HZ1.out.at0 (fun j => HL _ j (by omega)),fun j => (HLf _ j (by omega)).trans (HZ1.out.frz j)⟩
        have HB2:Hid (Below w.heap.size w w2):=HB1.out.trans (hb2.mono (by have:=HXw.out; omega))
        have hHeld2:(fun w' => w'.cell? ⟨X,0,none⟩=some (.slice (some ⟨tb,tf,none⟩) len cap)∧w'.rangeAt tb (tf + k * 24) (ndV x y)) w2:=⟨HX2.out.at0 0 _ rfl,range_keep hHeld1.2 (fun j => hb2.cell (p:=⟨tb,j,none⟩) (by have:=HTb.out; have:=HXw.out; show tb < _; omega))⟩
        have o0w:w1.cell? ⟨X + 1 + 1,0,none⟩=some v:=HO1.out.at0 0 _ rfl
        have o0a:(w1.alloc (.cells (ndV x y1).toArray 84)).cell? ⟨X + 1 + 1,0,none⟩=some v:=(HO1.out.below (bel_alloc w1 _)).at0 0 _ rfl
        have HHa:Hid ((fun w' => w'.cell? ⟨X,0,none⟩=some (.slice (some ⟨tb,tf,none⟩) len cap)∧w'.rangeAt tb (tf + k * 24) (ndV x y)) (w1.alloc (.cells (ndV x y1).toArray 84))):=⟨(HX1.out.below (bel_alloc w1 _)).at0 0 _ rfl,World.rangeAt_alloc hHeld1.2 _⟩
        have HH2:Hid ((fun w' => w'.cell? ⟨X,0,none⟩=some (.slice (some ⟨tb,tf,none⟩) len cap)∧w'.rangeAt tb (tf + k * 24) (ndV x y)) w2):=hHeld2
        clear hr2 hC2 hb2 hn1 hf1 hb1 hb1q hl1 HL HLf HO1 HX1 HZ1 HB1 hHeld2
        refine hK.out _ _ hHeld1 (fun hHeld => ?_)
        clear hK K
        try simp only [Act.put,List.getElem_toArray,List.getElem_cons_zero,List.getElem_cons_succ,List.setIfInBounds_toArray,List.set_cons_zero,List.set_cons_succ]
        refine wpAnyH_ready (rs:=[8]) (by kernel_rfl) (by simp) ?_
        refine AllReadyH.cons rfl (fun K hK => ?_) AllReadyH.nil
        refine step_run (by rfl) _ _ (exec_slice1 33 _ (by rfl) _ _ (by rfl) (run_one_nd x y1 _)) ?_
        refine hK.out _ _ HHa.out (fun hHeld => ?_)
        clear hK K
        try simp only [Act.put,List.getElem_toArray,List.getElem_cons_zero,List.getElem_cons_succ,List.setIfInBounds_toArray,List.set_cons_zero,List.set_cons_succ]
        refine wpAnyH_ready (rs:=[9]) (by kernel_rfl) (by simp) ?_
        refine AllReadyH.cons rfl (fun K hK => ?_) AllReadyH.nil
        refine step_appendT (by rfl) _ _ 33 (by rfl) _ _ _ _ (by rfl) (by rfl) HR2.out ?_
        refine hK.out _ _ HH2.out (fun hHeld => ?_)
        clear hK K
        try simp only [Act.put,List.getElem_toArray,List.getElem_cons_zero,List.getElem_cons_succ,List.setIfInBounds_toArray,List.set_cons_zero,List.set_cons_succ]
        refine wpAnyH_take (i:=10) (v:=.pointer (some ⟨X + 1 + 1,0,none⟩)) rfl (by kernel_rfl) (by kernel_rfl) (by kernel_rfl) (fun _ _ _ h => h) (Or.inl ⟨by rfl,fun _ _ => by rfl⟩) hHeld ?_
        try simp only [Act.put,List.getElem_toArray,List.getElem_cons_zero,List.getElem_cons_succ,List.setIfInBounds_toArray,List.set_cons_zero,List.set_cons_succ]
        refine wpAnyH_ready (rs:=[11]) (by kernel_rfl) (by simp) ?_
        refine AllReadyH.cons rfl (fun K hK => ?_) AllReadyH.nil
        rw [if_pos (by rfl)]
        have o2c:w2.cell? ⟨X + 1 + 1,0,none⟩=some v:=HO2.out.at0 0 _ rfl
        have o2f:w2.frozen? ⟨X + 1 + 1,0,none⟩=false:=HO2.out.frz 0
        obtain ⟨va,vl,vc,rfl⟩:∃ va vl vc,v2=.slice va vl vc:=row_slice HC2.out.own
        go_simp
        refine hK.out _ _ (by exact ⟨(HX2.out.other (by omega)).at0 0 _ rfl,range_other HH2.out.2 (fun e => HTX.out e.symm)⟩) (fun hHeld => ?_)
        clear hK K o2c o2f
        try simp only [Act.put,List.getElem_toArray,List.getElem_cons_zero,List.getElem_cons_succ,List.setIfInBounds_toArray,List.set_cons_zero,List.set_cons_succ]
        refine wpAnyH_done (by kernel_rfl) ?_ _
        have HC3:Hid (CpI (w2.setCell ⟨X + 1 + 1,0,none⟩ (.slice va vl vc)) (X + 1 + 1 + 1) (.slice va vl vc) (ds ++ [(x,y1)])):=HC2.out.set (by omega)
        have HO3:Hid (BoxW (w2.setCell ⟨X + 1 + 1,0,none⟩ (.slice va vl vc)) (X + 1 + 1) [.slice va vl vc,.int .i64 now]):=HO2.out.set 0 (by simp) _
        have HX3:Hid (BoxR (w2.setCell ⟨X + 1 + 1,0,none⟩ (.slice va vl vc)) X [.slice (some ⟨tb,tf,none⟩) len cap,.int .i64 now]):=HX2.out.other (by omega)
        have HZ3:Hid (BoxW (w2.setCell ⟨X + 1 + 1,0,none⟩ (.slice va vl vc)) (X + 1) [.slice none 0 0,.int .i64 0]):=HZ2.out.other (by omega)
        have HB3:Hid (Below w.heap.size w (w2.setCell ⟨X + 1 + 1,0,none⟩ (.slice va vl vc))):=bl_setT HB2.out (by have:=HXw.out; omega)
        have HM:=HMp.out y1
        have hl2:(ds ++ [(x,y1)]).length=k + 1:=by rw [List.length_append,hdl]; rfl
        go_wp2
        go_roundw
        case rel => exact ⟨k + 1,_,_,by omega,by go_num,hl2,HM,HC3,HO3,HX3,HZ3,HB3⟩
        case measure => simp [intOf]; omega
      · rw [if_pos (by rfl)]
        go_simp
        refine (HCn.out _ (below_drewT (Below.refl _ _))).mono ?_
        rintro e w1 ⟨y1,rfl,hn1,hf1,hb1,hl1⟩
        simp only []
        have hb1q:Below wr.heap.size wr w1:=⟨hb1.os,hb1.tape,hb1.output,hb1.size,hb1.block⟩
        have hHeld1:(fun w' => w'.cell? ⟨X,0,none⟩=some (.slice (some ⟨tb,tf,none⟩) len cap)∧w'.rangeAt tb (tf + k * 24) (ndV x y)) w1:=⟨(hb1q.cell (p:=⟨X,0,none⟩) hX.out.lt).trans x0,range_below HNX.out (Nat.lt_of_lt_of_le HTb.out hB.out.size) hb1q⟩
        have HO1:Hid (BoxW w1 (X + 1 + 1) [v,.int .i64 now]):=hO.out.below hb1q
        have HB1:Hid (Below w.heap.size w w1):=Below.on hB.out hb1q
        have HX1:Hid (BoxR w1 X [.slice (some ⟨tb,tf,none⟩) len cap,.int .i64 now]):=hX.out.below hb1q
        have HZ1:Hid (BoxW w1 (X + 1) [.slice none 0 0,.int .i64 0]):=hZ.out.below hb1q
        obtain ⟨v2,w2,hr2,hC2,hb2,hsz2⟩:=hC.out.step hb1q (by have:=hO.out.lt; omega) x y1 hn1 hf1 hl1 (by omega)
        have HR2:Hid _:=hr2
        have HC2:Hid (CpI w2 (X + 1 + 1 + 1) v2 (ds ++ [(x,y1)])):=hC2
        have HL:∀ b o,b < X + 1 + 1 + 1→w2.cell? ⟨b,o,none⟩=w1.cell? ⟨b,o,none⟩:=fun b o h => hb2.cell (p:=⟨b,o,none⟩) h
        have HLf:∀ b o,b < X + 1 + 1 + 1→w2.frozen? ⟨b,o,none⟩=w1.frozen? ⟨b,o,none⟩:=fun b o h => hb2.frozen (p:=⟨b,o,none⟩) h
        have HO2:Hid (BoxW w2 (X + 1 + 1) [v,.int .i64 now]):=⟨Nat.lt_of_lt_of_le HO1.out.lt hsz2,range_keep HO1.out.at0 (fun j => HL _ j (by omega)),fun j => (HLf _ j (by omega)).trans (HO1.out.frz j)⟩
        have HX2:Hid (BoxR w2 X [.slice (some ⟨tb,tf,none⟩) len cap,.int .i64 now]):=⟨Nat.lt_of_lt_of_le HX1.out.lt hsz2,range_keep HX1.out.at0 (fun j => HL _ j (by omega))⟩
        have HZ2:Hid (BoxW w2 (X + 1) [.slice none 0 0,.int .i64 0]):=⟨Nat.lt_of_lt_of_le HZ1.out.lt hsz2,range_keep HZ1.out.at0 (fun j => HL _ j (by omega)),fun j => (HLf _ j (by omega)).trans (HZ1.out.frz j)⟩
        have HB2:Hid (Below w.heap.size w w2):=HB1.out.trans (hb2.mono (by have:=HXw.out; omega))
        have hHeld2:(fun w' => w'.cell? ⟨X,0,none⟩=some (.slice (some ⟨tb,tf,none⟩) len cap)∧w'.rangeAt tb (tf + k * 24) (ndV x y)) w2:=⟨HX2.out.at0 0 _ rfl,range_keep hHeld1.2 (fun j => hb2.cell (p:=⟨tb,j,none⟩) (by have:=HTb.out; have:=HXw.out; show tb < _; omega))⟩
        have o0w:w1.cell? ⟨X + 1 + 1,0,none⟩=some v:=HO1.out.at0 0 _ rfl
        have o0a:(w1.alloc (.cells (ndV x y1).toArray 84)).cell? ⟨X + 1 + 1,0,none⟩=some v:=(HO1.out.below (bel_alloc w1 _)).at0 0 _ rfl
        have HHa:Hid ((fun w' => w'.cell? ⟨X,0,none⟩=some (.slice (some ⟨tb,tf,none⟩) len cap)∧w'.rangeAt tb (tf + k * 24) (ndV x y)) (w1.alloc (.cells (ndV x y1).toArray 84))):=⟨(HX1.out.below (bel_alloc w1 _)).at0 0 _ rfl,World.rangeAt_alloc hHeld1.2 _⟩
        have HH2:Hid ((fun w' => w'.cell? ⟨X,0,none⟩=some (.slice (some ⟨tb,tf,none⟩) len cap)∧w'.rangeAt tb (tf + k * 24) (ndV x y)) w2):=hHeld2
        clear hr2 hC2 hb2 hn1 hf1 hb1 hb1q hl1 HL HLf HO1 HX1 HZ1 HB1 hHeld2
        refine hK.out _ _ hHeld1 (fun hHeld => ?_)
        clear hK K
        try simp only [Act.put,List.getElem_toArray,List.getElem_cons_zero,List.getElem_cons_succ,List.setIfInBounds_toArray,List.set_cons_zero,List.set_cons_succ]
        refine wpAnyH_ready (rs:=[1,8]) (by kernel_rfl) (by simp) ?_
        refine AllReadyH.cons rfl (fun K hK => ?_) (AllReadyH.cons rfl (fun K hK => ?_) AllReadyH.nil)
        · rw [if_pos (by rfl)]
          have o0q:w1.cell? ⟨X + 1 + 1,0,none⟩=some v:=o0w
          go_simp
          refine hK.out _ _ hHeld (fun hHeld => ?_)
          clear hK K o0q
          try simp only [Act.put,List.getElem_toArray,List.getElem_cons_zero,List.getElem_cons_succ,List.setIfInBounds_toArray,List.set_cons_zero,List.set_cons_succ]
          refine wpAnyH_ready (rs:=[8]) (by kernel_rfl) (by simp) ?_
          refine AllReadyH.cons rfl (fun K hK => ?_) AllReadyH.nil
          refine step_run (by rfl) _ _ (exec_slice1 33 _ (by rfl) _ _ (by rfl) (run_one_nd x y1 _)) ?_
          refine hK.out _ _ HHa.out (fun hHeld => ?_)
          clear hK K
          try simp only [Act.put,List.getElem_toArray,List.getElem_cons_zero,List.getElem_cons_succ,List.setIfInBounds_toArray,List.set_cons_zero,List.set_cons_succ]
          refine wpAnyH_ready (rs:=[9]) (by kernel_rfl) (by simp) ?_
          refine AllReadyH.cons rfl (fun K hK => ?_) AllReadyH.nil
          refine step_appendT (by rfl) _ _ 33 (by rfl) _ _ _ _ (by rfl) (by rfl) HR2.out ?_
          refine hK.out _ _ HH2.out (fun hHeld => ?_)
          clear hK K
          try simp only [Act.put,List.getElem_toArray,List.getElem_cons_zero,List.getElem_cons_succ,List.setIfInBounds_toArray,List.set_cons_zero,List.set_cons_succ]
          refine wpAnyH_take (i:=10) (v:=.pointer (some ⟨X + 1 + 1,0,none⟩)) rfl (by kernel_rfl) (by kernel_rfl) (by kernel_rfl) (fun _ _ _ h => h) (Or.inl ⟨by rfl,fun _ _ => by rfl⟩) hHeld ?_
          try simp only [Act.put,List.getElem_toArray,List.getElem_cons_zero,List.getElem_cons_succ,List.setIfInBounds_toArray,List.set_cons_zero,List.set_cons_succ]
          refine wpAnyH_ready (rs:=[11]) (by kernel_rfl) (by simp) ?_
          refine AllReadyH.cons rfl (fun K hK => ?_) AllReadyH.nil
          rw [if_pos (by rfl)]
          have o2c:w2.cell? ⟨X + 1 + 1,0,none⟩=some v:=HO2.out.at0 0 _ rfl
          have o2f:w2.frozen? ⟨X + 1 + 1,0,none⟩=false:=HO2.out.frz 0
          obtain ⟨va,vl,vc,rfl⟩:∃ va vl vc,v2=.slice va vl vc:=row_slice HC2.out.own
          go_simp
          refine hK.out _ _ (by exact ⟨(HX2.out.other (by omega)).at0 0 _ rfl,range_other HH2.out.2 (fun e => HTX.out e.symm)⟩) (fun hHeld => ?_)
          clear hK K o2c o2f
          try simp only [Act.put,List.getElem_toArray,List.getElem_cons_zero,List.getElem_cons_succ,List.setIfInBounds_toArray,List.set_cons_zero,List.set_cons_succ]
          refine wpAnyH_done (by kernel_rfl) ?_ _
          have HC3:Hid (CpI (w2.setCell ⟨X + 1 + 1,0,none⟩ (.slice va vl vc)) (X + 1 + 1 + 1) (.slice va vl vc) (ds ++ [(x,y1)])):=HC2.out.set (by omega)
          have HO3:Hid (BoxW (w2.setCell ⟨X + 1 + 1,0,none⟩ (.slice va vl vc)) (X + 1 + 1) [.slice va vl vc,.int .i64 now]):=HO2.out.set 0 (by simp) _
          have HX3:Hid (BoxR (w2.setCell ⟨X + 1 + 1,0,none⟩ (.slice va vl vc)) X [.slice (some ⟨tb,tf,none⟩) len cap,.int .i64 now]):=HX2.out.other (by omega)
          have HZ3:Hid (BoxW (w2.setCell ⟨X + 1 + 1,0,none⟩ (.slice va vl vc)) (X + 1) [.slice none 0 0,.int .i64 0]):=HZ2.out.other (by omega)
          have HB3:Hid (Below w.heap.size w (w2.setCell ⟨X + 1 + 1,0,none⟩ (.slice va vl vc))):=bl_setT HB2.out (by have:=HXw.out; omega)
          have HM:=HMp.out y1
          have hl2:(ds ++ [(x,y1)]).length=k + 1:=by rw [List.length_append,hdl]; rfl
          go_wp2
          go_roundw
          case rel => exact ⟨k + 1,_,_,by omega,by go_num,hl2,HM,HC3,HO3,HX3,HZ3,HB3⟩
          case measure => simp [intOf]; omega
        · refine step_run (by rfl) _ _ (exec_slice1 33 _ (by rfl) _ _ (by rfl) (run_one_nd x y1 _)) ?_
          refine hK.out _ _ HHa.out (fun hHeld => ?_)
          clear hK K
          try simp only [Act.put,List.getElem_toArray,List.getElem_cons_zero,List.getElem_cons_succ,List.setIfInBounds_toArray,List.set_cons_zero,List.set_cons_succ]
          refine wpAnyH_ready (rs:=[1]) (by kernel_rfl) (by simp) ?_
          refine AllReadyH.cons rfl (fun K hK => ?_) AllReadyH.nil
          rw [if_pos (by rfl)]
          have o0q:(w1.alloc (.cells (ndV x y1).toArray 84)).cell? ⟨X + 1 + 1,0,none⟩=some v:=o0a
          go_simp
          refine hK.out _ _ hHeld (fun hHeld => ?_)
          clear hK K o0q
          try simp only [Act.put,List.getElem_toArray,List.getElem_cons_zero,List.getElem_cons_succ,List.setIfInBounds_toArray,List.set_cons_zero,List.set_cons_succ]
          refine wpAnyH_ready (rs:=[9]) (by kernel_rfl) (by simp) ?_
          refine AllReadyH.cons rfl (fun K hK => ?_) AllReadyH.nil
          refine step_appendT (by rfl) _ _ 33 (by rfl) _ _ _ _ (by rfl) (by rfl) HR2.out ?_
          refine hK.out _ _ HH2.out (fun hHeld => ?_)
          clear hK K
          try simp only [Act.put,List.getElem_toArray,List.getElem_cons_zero,List.getElem_cons_succ,List.setIfInBounds_toArray,List.set_cons_zero,List.set_cons_succ]
          refine wpAnyH_take (i:=10) (v:=.pointer (some ⟨X + 1 + 1,0,none⟩)) rfl (by kernel_rfl) (by kernel_rfl) (by kernel_rfl) (fun _ _ _ h => h) (Or.inl ⟨by rfl,fun _ _ => by rfl⟩) hHeld ?_
          try simp only [Act.put,List.getElem_toArray,List.getElem_cons_zero,List.getElem_cons_succ,List.setIfInBounds_toArray,List.set_cons_zero,List.set_cons_succ]
          refine wpAnyH_ready (rs:=[11]) (by kernel_rfl) (by simp) ?_
          refine AllReadyH.cons rfl (fun K hK => ?_) AllReadyH.nil
          rw [if_pos (by rfl)]
          have o2c:w2.cell? ⟨X + 1 + 1,0,none⟩=some v:=HO2.out.at0 0 _ rfl
          have o2f:w2.frozen? ⟨X + 1 + 1,0,none⟩=false:=HO2.out.frz 0
          obtain ⟨va,vl,vc,rfl⟩:∃ va vl vc,v2=.slice va vl vc:=row_slice HC2.out.own
          go_simp
          refine hK.out _ _ (by exact ⟨(HX2.out.other (by omega)).at0 0 _ rfl,range_other HH2.out.2 (fun e => HTX.out e.symm)⟩) (fun hHeld => ?_)
          clear hK K o2c o2f
          try simp only [Act.put,List.getElem_toArray,List.getElem_cons_zero,List.getElem_cons_succ,List.setIfInBounds_toArray,List.set_cons_zero,List.set_cons_succ]
          refine wpAnyH_done (by kernel_rfl) ?_ _
          have HC3:Hid (CpI (w2.setCell ⟨X + 1 + 1,0,none⟩ (.slice va vl vc)) (X + 1 + 1 + 1) (.slice va vl vc) (ds ++ [(x,y1)])):=HC2.out.set (by omega)
          have HO3:Hid (BoxW (w2.setCell ⟨X + 1 + 1,0,none⟩ (.slice va vl vc)) (X + 1 + 1) [.slice va vl vc,.int .i64 now]):=HO2.out.set 0 (by simp) _
          have HX3:Hid (BoxR (w2.setCell ⟨X + 1 + 1,0,none⟩ (.slice va vl vc)) X [.slice (some ⟨tb,tf,none⟩) len cap,.int .i64 now]):=HX2.out.other (by omega)
          have HZ3:Hid (BoxW (w2.setCell ⟨X + 1 + 1,0,none⟩ (.slice va vl vc)) (X + 1) [.slice none 0 0,.int .i64 0]):=HZ2.out.other (by omega)
          have HB3:Hid (Below w.heap.size w (w2.setCell ⟨X + 1 + 1,0,none⟩ (.slice va vl vc))):=bl_setT HB2.out (by have:=HXw.out; omega)
          have HM:=HMp.out y1
          have hl2:(ds ++ [(x,y1)]).length=k + 1:=by rw [List.length_append,hdl]; rfl
          go_wp2
          go_roundw
          case rel => exact ⟨k + 1,_,_,by omega,by go_num,hl2,HM,HC3,HO3,HX3,HZ3,HB3⟩
          case measure => simp [intOf]; omega
    · have : k = len := by omega
      subst this
      rw [List.take_of_length_le (by omega)] at hdm
      have o1:wr.cell? ⟨X + 1 + 1,1,none⟩=some (.int .i64 now):=hO.out.at0 1 _ rfl
      have z0:wr.cell? ⟨X + 1,0,none⟩=some (.slice none 0 0):=hZ.out.at0 0 _ rfl
      have z1:wr.cell? ⟨X + 1,1,none⟩=some (.int .i64 0):=hZ.out.at0 1 _ rfl
      have fz:=hZ.out.frz
      obtain ⟨va,vl,vc,rfl⟩:∃ va vl vc,v=.slice va vl vc:=row_slice hC.out.own
      go_wp2
      refine bodyPost_ret (v:=.agg #[.slice va vl vc,.int .i64 now]) (by simp [results,Tryz.results93,go_sem,z0,z1]) rfl ⟨_,ds,rfl,?_,hdm,bl_setT (bl_setT hB.out (by have:=HXw.out; omega)) (by have:=HXw.out; omega)⟩
      rw [← HXw.out]
      exact (hC.out.set (by omega)).set (by omega)
end Go.Proofs.YtabfdidnjibdeaaGreatDoor
/- spec.l10Begin. -/
namespace Go.Proofs.YtabfdidnjibdeaaGreatDoor
open Go.RowKit Go.PlainAid Go.Deep
set_option linter.unusedVariables false
def begC (F:Wo) (s:ByteArray) (fi:Bool):Int:=if 8000 < s.size then 2 else if fi then F.c else 1
/-- A call at work: a tree of its own, and who asks. -/
structure BegJ (N:Nat) (w':World) (l:List Nd) (now u g:Int) (ca:Option Addr) (cl cc:Nat) (r:Bool) (P:Nat) (v:Value) (ds:List (Nd × Na)):Prop where
  job:BoxW w' P [v,.int .i64 now,.int .i64 u,.int .i64 g,.slice ca cl cc,.bool r]
  pw:N≤P
  cp:∃ B,CpI w' B v ds∧N≤B∧(∀ k,v.ownBlock=some k→k < P)∧(∀ p ∈ ds,∀ b,NaAt p.2 b→b < P)
  mp:ds.map (·.1)=l
theorem BegJ.below {N:Nat} {w' w2:World} {l:List Nd} {now u g:Int} {ca:Option Addr} {cl cc:Nat} {r:Bool} {P:Nat} {v:Value} {ds:List (Nd × Na)} (h:BegJ N w' l now u g ca cl cc r P v ds) (hb:Below w'.heap.size w' w2):BegJ N w2 l now u g ca cl cc r P v ds:=by
  obtain ⟨B,h1,h2,h3,h4⟩:=h.cp
  exact ⟨h.job.below hb,h.pw,⟨B,h1.below hb,h2,h3,h4⟩,h.mp⟩
/-- What it holds may be read. -/
theorem BegJ.mono {N M:Nat} {w':World} {l:List Nd} {now u g:Int} {ca:Option Addr} {cl cc:Nat} {r:Bool} {P:Nat} {v:Value} {ds:List (Nd × Na)} (h:BegJ N w' l now u g ca cl cc r P v ds) (hm:M≤N):BegJ M w' l now u g ca cl cc r P v ds:=by
  obtain ⟨B,h1,h2,h3,h4⟩:=h.cp
  exact ⟨h.job,Nat.le_trans hm h.pw,⟨B,h1,Nat.le_trans hm h2,h3,h4⟩,h.mp⟩
theorem BegJ.set {N:Nat} {w':World} {l:List Nd} {now u g:Int} {ca:Option Addr} {cl cc:Nat} {r:Bool} {P:Nat} {v:Value} {ds:List (Nd × Na)} (h:BegJ N w' l now u g ca cl cc r P v ds) {Z o:Nat} {x:Value} (hz:Z < N):BegJ N (w'.setCell ⟨Z,o,none⟩ x) l now u g ca cl cc r P v ds:=by
  obtain ⟨B,h1,h2,h3,h4⟩:=h.cp
  have hp:=h.pw
  exact ⟨h.job.other (by omega),h.pw,⟨B,h1.set (by omega),h2,h3,h4⟩,h.mp⟩
theorem BegJ.nds {N:Nat} {w':World} {l:List Nd} {now u g:Int} {ca:Option Addr} {cl cc:Nat} {r:Bool} {P:Nat} {v:Value} {ds:List (Nd × Na)} (h:BegJ N w' l now u g ca cl cc r P v ds):∃ a cap,v=.slice a l.length cap∧Nds a l.length l w':=by
  obtain ⟨B,h5,_,_,_⟩:=h.cp
  obtain ⟨a,cap,e,hn⟩:=nds_of_row h5.own h5.inn
  rw [h.mp] at hn
  have e2:ds.length=l.length:=by rw [← h.mp]; simp
  rw [e2] at hn e
  exact ⟨a,cap,e,hn⟩
set_option maxRecDepth 20000 in
set_option maxHeartbeats 8000000 in
theorem sBegin_any (a:Option Addr) (len cap:Nat) (l:List Nd) (now:Int) (u g:Int) (ca:Option Addr) (cl cc:Nat) (r:Bool) (cf:Nat→Int) (s:ByteArray) (fi fo:Bool) (hm:len≤9223372036854775807) (hf:∀ i,i < len→NdFit 1048576 (ndAt l i)) (hs:s.size≤1048576) (w:World) (hi:Nds a len l w) (hci:Ints ca cl cf w) :
    Calls Tryz.prog 49 #[.agg #[.slice a len cap,.int .i64 now],.agg #[.int .i64 u,.int .i64 g,.slice ca cl cc,.bool r],.string s,.bool fi,.bool fo] w fun e w' => ∃ (W:Wo) (p:Option Addr),e=.returned (.tuple #[.pointer p,woV W,.int .i64 (begC (wkF l now u g cl r cf s fo) s fi)])∧Below w.heap.size w w'∧(begC (wkF l now u g cl r cf s fo) s fi=0→W=wkF l now u g cl r cf s fo∧∃ P v ds,p=some ⟨P,0,none⟩∧Hid (BegJ w.heap.size w' l now u g ca cl cc r P v ds)):=by
  have HT:Hid (∀ w',Below w.heap.size w w'→Calls Tryz.prog 33 #[.agg #[.slice a len cap,.int .i64 now]] w' fun e w'' => e=.returned (.bool (treeB l now))∧Below w'.heap.size w' w''):=(fun w' hb => sTree_any a len cap l now hm hf w' (hi.below hb))
  have HCr:Hid (∀ w',Below w.heap.size w w'→Calls Tryz.prog 34 #[.agg #[.int .i64 u,.int .i64 g,.slice ca cl cc,.bool r]] w' fun e w'' => e=.returned (.bool (credB u g cl cf))∧Below w'.heap.size w' w''):=(fun w' hb => sCredRight_any u g ca cl cc r cf w' (hci.below hb))
  have HWk:Hid (treeB l now=true→credB u g cl cf=true→∀ w',Below w.heap.size w w'→Calls Tryz.prog 35 #[.agg #[.slice a len cap,.int .i64 now],.agg #[.int .i64 u,.int .i64 g,.slice ca cl cc,.bool r],.string s,.bool fo] w' fun e w'' => e=.returned (woV (wkO l (ltB l u g cl r cf) fo s))∧Below w'.heap.size w' w''):=(fun ht hcr w' hb => by
    have hll:=hi.1
    have h12:len≤12:=by rw [← hll]; exact tree_len ht
    have h1:1≤len:=by rw [← hll]; exact tree_one ht
    obtain ⟨tb,tf,Y,rfl,htb,hc⟩:=(hi.below hb).2 (by omega)
    exact sL09_any tb tf len cap l now u g ca cl cc r cf s fo Y h12 hll ht hcr hs w' htb hc hf (hci.below hb))
  have HCp:Hid (treeB l now=true→∀ w',Below w.heap.size w w'→Calls Tryz.prog 93 #[.agg #[.slice a len cap,.int .i64 now]] w' fun e w'' => ∃ v ds,e=.returned (.agg #[v,.int .i64 now])∧Hid (CpI w'' (w'.heap.size + 1 + 1 + 1) v ds)∧ds.map (·.1)=l∧Below w'.heap.size w' w''):=(fun ht w' hb => by
    have hll:=hi.1
    have h12:len≤12:=by rw [← hll]; exact tree_len ht
    have h1:1≤len:=by rw [← hll]; exact tree_one ht
    obtain ⟨tb,tf,Y,rfl,htb,hc⟩:=(hi.below hb).2 (by omega)
    exact sCopyT_any tb tf len cap l Y now h12 hll hf w' htb hc)
  have HW:Hid (wkF l now u g cl r cf s fo=if 8000 < s.size then woC 2 else if treeB l now && credB u g cl cf then wkO l (ltB l u g cl r cf) fo s else woC 1):=rfl
  have HE0:begC (wkF l now u g cl r cf s fo) s fi=if 8000 < s.size then 2 else if fi then (wkF l now u g cl r cf s fo).c else 1:=rfl
  clear hi hci hf
  generalize begC (wkF l now u g cl r cf s fo) s fi=R at HE0 ⊢
  generalize wkF l now u g cl r cf s fo=F at HW HE0 ⊢
  generalize wkO l (ltB l u g cl r cf) fo s=O at HW HWk
  have HB:Hid (Below w.heap.size w (((w.alloc (.cells #[.slice a len cap,.int .i64 now] 35)).alloc (.cells #[.int .i64 u,.int .i64 g,.slice ca cl cc,.bool r] 37)).alloc (.cells #[.int .i64 0,.int .i64 0,.string ⟨#[]⟩,.int .i64 0] 31))):=(Below.on (Below.on (Below.on (Below.refl _ _) (bel_alloc _ _)) (bel_alloc _ _)) (bel_alloc _ _))
  have HX:Hid (BoxR (((w.alloc (.cells #[.slice a len cap,.int .i64 now] 35)).alloc (.cells #[.int .i64 u,.int .i64 g,.slice ca cl cc,.bool r] 37)).alloc (.cells #[.int .i64 0,.int .i64 0,.string ⟨#[]⟩,.int .i64 0] 31)) (w.heap.size) [.slice a len cap,.int .i64 now]):=(by
    have h:=(((boxR_new w [.slice a len cap,.int .i64 now] 35).below (bel_alloc (w.alloc (.cells #[.slice a len cap,.int .i64 now] 35)) (.cells #[.int .i64 u,.int .i64 g,.slice ca cl cc,.bool r] 37))).below (bel_alloc ((w.alloc (.cells #[.slice a len cap,.int .i64 now] 35)).alloc (.cells #[.int .i64 u,.int .i64 g,.slice ca cl cc,.bool r] 37)) (.cells #[.int .i64 0,.int .i64 0,.string ⟨#[]⟩,.int .i64 0] 31)))
    exact h)
  have HC:Hid (BoxR (((w.alloc (.cells #[.slice a len cap,.int .i64 now] 35)).alloc (.cells #[.int .i64 u,.int .i64 g,.slice ca cl cc,.bool r] 37)).alloc (.cells #[.int .i64 0,.int .i64 0,.string ⟨#[]⟩,.int .i64 0] 31)) (w.heap.size + 1) [.int .i64 u,.int .i64 g,.slice ca cl cc,.bool r]):=(by
    have h:=((boxR_new (w.alloc (.cells #[.slice a len cap,.int .i64 now] 35)) [.int .i64 u,.int .i64 g,.slice ca cl cc,.bool r] 37).below (bel_alloc ((w.alloc (.cells #[.slice a len cap,.int .i64 now] 35)).alloc (.cells #[.int .i64 u,.int .i64 g,.slice ca cl cc,.bool r] 37)) (.cells #[.int .i64 0,.int .i64 0,.string ⟨#[]⟩,.int .i64 0] 31)))
    simp only [World.size_alloc] at h
    exact h)
  have HO:Hid (BoxW (((w.alloc (.cells #[.slice a len cap,.int .i64 now] 35)).alloc (.cells #[.int .i64 u,.int .i64 g,.slice ca cl cc,.bool r] 37)).alloc (.cells #[.int .i64 0,.int .i64 0,.string ⟨#[]⟩,.int .i64 0] 31)) (w.heap.size + 1 + 1) [.int .i64 0,.int .i64 0,.string ⟨#[]⟩,.int .i64 0]):=(by
    have h:=(boxW_new ((w.alloc (.cells #[.slice a len cap,.int .i64 now] 35)).alloc (.cells #[.int .i64 u,.int .i64 g,.slice ca cl cc,.bool r] 37)) [.int .i64 0,.int .i64 0,.string ⟨#[]⟩,.int .i64 0] 31)
    simp only [World.size_alloc] at h
    exact h)
  go_enter Tryz.func49,Tryz.ntmps49
  go_upto_region 1 with fail
  generalize (((w.alloc (.cells #[.slice a len cap,.int .i64 now] 35)).alloc (.cells #[.int .i64 u,.int .i64 g,.slice ca cl cc,.bool r] 37)).alloc (.cells #[.int .i64 0,.int .i64 0,.string ⟨#[]⟩,.int .i64 0] 31))=w0 at HB HX HC HO ⊢
  obtain ⟨X,hX⟩:∃ X,X=w.heap.size:=⟨_,rfl⟩
  have HXw:Hid (X=w.heap.size):=hX
  rw [← hX] at HX HC HO ⊢
  clear hX
  have t0:w0.cell? ⟨X,0,none⟩=some (.slice a len cap):=HX.out.at0 0 _ rfl
  have t1:w0.cell? ⟨X,1,none⟩=some (.int .i64 now):=HX.out.at0 1 _ rfl
  have c0:w0.cell? ⟨X + 1,0,none⟩=some (.int .i64 u):=HC.out.at0 0 _ rfl
  have c1:w0.cell? ⟨X + 1,1,none⟩=some (.int .i64 g):=HC.out.at0 1 _ rfl
  have c2:w0.cell? ⟨X + 1,2,none⟩=some (.slice ca cl cc):=HC.out.at0 2 _ rfl
  have c3:w0.cell? ⟨X + 1,3,none⟩=some (.bool r):=HC.out.at0 3 _ rfl
  have o0:w0.cell? ⟨X + 1 + 1,0,none⟩=some (.int .i64 0):=HO.out.at0 0 _ rfl
  have o1:w0.cell? ⟨X + 1 + 1,1,none⟩=some (.int .i64 0):=HO.out.at0 1 _ rfl
  have o2:w0.cell? ⟨X + 1 + 1,2,none⟩=some (.string ⟨#[]⟩):=HO.out.at0 2 _ rfl
  have o3:w0.cell? ⟨X + 1 + 1,3,none⟩=some (.int .i64 0):=HO.out.at0 3 _ rfl
  have fz:∀ o,w0.frozen? ⟨X + 1 + 1,o,none⟩=false:=HO.out.frz
  by_cases h8:8000 < s.size
  · have HE : Hid (R = 2) := (by show _ = _; rw [HE0, if_pos h8])
    have h8':(8000:Int) < (s.size:Int):=by omega
    clear HE0 HW HWk HCp
    go_wp2
    refine bodyPost_ret (v:=.tuple #[.pointer none,.agg #[.int .i64 0,.int .i64 0,.string ⟨#[]⟩,.int .i64 0],.int .i64 (2)]) (by simp [results,Tryz.results49,go_sem,o0,o1,o2,o3]) rfl ?_
    exact ⟨⟨0,0,emp,0⟩,none,by rw [HE.out]; rfl,(by repeat (first | exact HB.out | refine bl_setT ?_ (by have:=HXw.out; omega))),fun h => absurd h (by rw [HE.out]; decide)⟩
  have h8':¬ (8000:Int) < (s.size:Int):=by omega
  rw [if_neg h8] at HW HE0
  clear h8
  cases ht:treeB l now
  · have HE : Hid (R = 1) := (by show _ = _; rw [HE0, HW.out, ht]; cases fi <;> rfl)
    rw [ht] at HT
    clear HW HE0 HWk HCp
    go_wp2_with (go_at_call 33; refine (HT.out _ HB.out).mono ?_; rintro e w1 ⟨rfl,hb⟩; replace HB:Hid (Below w.heap.size w w1):=Below.on HB.out hb; replace HX:Hid (BoxR w1 (X) [.slice a len cap,.int .i64 now]):=HX.out.below hb; replace HC:Hid (BoxR w1 (X + 1) [.int .i64 u,.int .i64 g,.slice ca cl cc,.bool r]):=HC.out.below hb; replace HO:Hid (BoxW w1 (X + 1 + 1) [.int .i64 0,.int .i64 0,.string ⟨#[]⟩,.int .i64 0]):=HO.out.below hb; clear hb; replace t0:w1.cell? ⟨X,0,none⟩=some (.slice a len cap):=HX.out.at0 0 _ rfl; replace t1:w1.cell? ⟨X,1,none⟩=some (.int .i64 now):=HX.out.at0 1 _ rfl; replace c0:w1.cell? ⟨X + 1,0,none⟩=some (.int .i64 u):=HC.out.at0 0 _ rfl; replace c1:w1.cell? ⟨X + 1,1,none⟩=some (.int .i64 g):=HC.out.at0 1 _ rfl; replace c2:w1.cell? ⟨X + 1,2,none⟩=some (.slice ca cl cc):=HC.out.at0 2 _ rfl; replace c3:w1.cell? ⟨X + 1,3,none⟩=some (.bool r):=HC.out.at0 3 _ rfl; replace o0:w1.cell? ⟨X + 1 + 1,0,none⟩=some (.int .i64 0):=HO.out.at0 0 _ rfl; replace o1:w1.cell? ⟨X + 1 + 1,1,none⟩=some (.int .i64 0):=HO.out.at0 1 _ rfl; replace o2:w1.cell? ⟨X + 1 + 1,2,none⟩=some (.string ⟨#[]⟩):=HO.out.at0 2 _ rfl; replace o3:w1.cell? ⟨X + 1 + 1,3,none⟩=some (.int .i64 0):=HO.out.at0 3 _ rfl; replace fz:∀ o,w1.frozen? ⟨X + 1 + 1,o,none⟩=false:=HO.out.frz)
    refine bodyPost_ret (v:=.tuple #[.pointer none,.agg #[.int .i64 0,.int .i64 0,.string ⟨#[]⟩,.int .i64 0],.int .i64 (1)]) (by simp [results,Tryz.results49,go_sem,o0,o1,o2,o3]) rfl ?_
    exact ⟨⟨0,0,emp,0⟩,none,by rw [HE.out]; rfl,(by repeat (first | exact HB.out | refine bl_setT ?_ (by have:=HXw.out; omega))),fun h => absurd h (by rw [HE.out]; decide)⟩
  cases hcr:credB u g cl cf
  · have HE : Hid (R = 1) := (by show _ = _; rw [HE0, HW.out, ht, hcr]; cases fi <;> rfl)
    rw [ht] at HT
    rw [hcr] at HCr
    clear HW HE0 HWk HCp
    go_wp2_with (first | (go_at_call 33; refine (HT.out _ HB.out).mono ?_; rintro e w1 ⟨rfl,hb⟩; replace HB:Hid (Below w.heap.size w w1):=Below.on HB.out hb; replace HX:Hid (BoxR w1 (X) [.slice a len cap,.int .i64 now]):=HX.out.below hb; replace HC:Hid (BoxR w1 (X + 1) [.int .i64 u,.int .i64 g,.slice ca cl cc,.bool r]):=HC.out.below hb; replace HO:Hid (BoxW w1 (X + 1 + 1) [.int .i64 0,.int .i64 0,.string ⟨#[]⟩,.int .i64 0]):=HO.out.below hb; clear hb; replace t0:w1.cell? ⟨X,0,none⟩=some (.slice a len cap):=HX.out.at0 0 _ rfl; replace t1:w1.cell? ⟨X,1,none⟩=some (.int .i64 now):=HX.out.at0 1 _ rfl; replace c0:w1.cell? ⟨X + 1,0,none⟩=some (.int .i64 u):=HC.out.at0 0 _ rfl; replace c1:w1.cell? ⟨X + 1,1,none⟩=some (.int .i64 g):=HC.out.at0 1 _ rfl; replace c2:w1.cell? ⟨X + 1,2,none⟩=some (.slice ca cl cc):=HC.out.at0 2 _ rfl; replace c3:w1.cell? ⟨X + 1,3,none⟩=some (.bool r):=HC.out.at0 3 _ rfl; replace o0:w1.cell? ⟨X + 1 + 1,0,none⟩=some (.int .i64 0):=HO.out.at0 0 _ rfl; replace o1:w1.cell? ⟨X + 1 + 1,1,none⟩=some (.int .i64 0):=HO.out.at0 1 _ rfl; replace o2:w1.cell? ⟨X + 1 + 1,2,none⟩=some (.string ⟨#[]⟩):=HO.out.at0 2 _ rfl; replace o3:w1.cell? ⟨X + 1 + 1,3,none⟩=some (.int .i64 0):=HO.out.at0 3 _ rfl; replace fz:∀ o,w1.frozen? ⟨X + 1 + 1,o,none⟩=false:=HO.out.frz) | (go_at_call 34; refine (HCr.out _ HB.out).mono ?_; rintro e w1 ⟨rfl,hb⟩; replace HB:Hid (Below w.heap.size w w1):=Below.on HB.out hb; replace HX:Hid (BoxR w1 (X) [.slice a len cap,.int .i64 now]):=HX.out.below hb; replace HC:Hid (BoxR w1 (X + 1) [.int .i64 u,.int .i64 g,.slice ca cl cc,.bool r]):=HC.out.below hb; replace HO:Hid (BoxW w1 (X + 1 + 1) [.int .i64 0,.int .i64 0,.string ⟨#[]⟩,.int .i64 0]):=HO.out.below hb; clear hb; replace t0:w1.cell? ⟨X,0,none⟩=some (.slice a len cap):=HX.out.at0 0 _ rfl; replace t1:w1.cell? ⟨X,1,none⟩=some (.int .i64 now):=HX.out.at0 1 _ rfl; replace c0:w1.cell? ⟨X + 1,0,none⟩=some (.int .i64 u):=HC.out.at0 0 _ rfl; replace c1:w1.cell? ⟨X + 1,1,none⟩=some (.int .i64 g):=HC.out.at0 1 _ rfl; replace c2:w1.cell? ⟨X + 1,2,none⟩=some (.slice ca cl cc):=HC.out.at0 2 _ rfl; replace c3:w1.cell? ⟨X + 1,3,none⟩=some (.bool r):=HC.out.at0 3 _ rfl; replace o0:w1.cell? ⟨X + 1 + 1,0,none⟩=some (.int .i64 0):=HO.out.at0 0 _ rfl; replace o1:w1.cell? ⟨X + 1 + 1,1,none⟩=some (.int .i64 0):=HO.out.at0 1 _ rfl; replace o2:w1.cell? ⟨X + 1 + 1,2,none⟩=some (.string ⟨#[]⟩):=HO.out.at0 2 _ rfl; replace o3:w1.cell? ⟨X + 1 + 1,3,none⟩=some (.int .i64 0):=HO.out.at0 3 _ rfl; replace fz:∀ o,w1.frozen? ⟨X + 1 + 1,o,none⟩=false:=HO.out.frz))
    refine bodyPost_ret (v:=.tuple #[.pointer none,.agg #[.int .i64 0,.int .i64 0,.string ⟨#[]⟩,.int .i64 0],.int .i64 (1)]) (by simp [results,Tryz.results49,go_sem,o0,o1,o2,o3]) rfl ?_
    exact ⟨⟨0,0,emp,0⟩,none,by rw [HE.out]; rfl,(by repeat (first | exact HB.out | refine bl_setT ?_ (by have:=HXw.out; omega))),fun h => absurd h (by rw [HE.out]; decide)⟩
  cases fi
  · have HE : Hid (R = 1) := (by show _ = _; rw [HE0]; rfl)
    rw [ht] at HT
    rw [hcr] at HCr
    clear HW HE0 HWk HCp
    go_wp2_with (first | (go_at_call 33; refine (HT.out _ HB.out).mono ?_; rintro e w1 ⟨rfl,hb⟩; replace HB:Hid (Below w.heap.size w w1):=Below.on HB.out hb; replace HX:Hid (BoxR w1 (X) [.slice a len cap,.int .i64 now]):=HX.out.below hb; replace HC:Hid (BoxR w1 (X + 1) [.int .i64 u,.int .i64 g,.slice ca cl cc,.bool r]):=HC.out.below hb; replace HO:Hid (BoxW w1 (X + 1 + 1) [.int .i64 0,.int .i64 0,.string ⟨#[]⟩,.int .i64 0]):=HO.out.below hb; clear hb; replace t0:w1.cell? ⟨X,0,none⟩=some (.slice a len cap):=HX.out.at0 0 _ rfl; replace t1:w1.cell? ⟨X,1,none⟩=some (.int .i64 now):=HX.out.at0 1 _ rfl; replace c0:w1.cell? ⟨X + 1,0,none⟩=some (.int .i64 u):=HC.out.at0 0 _ rfl; replace c1:w1.cell? ⟨X + 1,1,none⟩=some (.int .i64 g):=HC.out.at0 1 _ rfl; replace c2:w1.cell? ⟨X + 1,2,none⟩=some (.slice ca cl cc):=HC.out.at0 2 _ rfl; replace c3:w1.cell? ⟨X + 1,3,none⟩=some (.bool r):=HC.out.at0 3 _ rfl; replace o0:w1.cell? ⟨X + 1 + 1,0,none⟩=some (.int .i64 0):=HO.out.at0 0 _ rfl; replace o1:w1.cell? ⟨X + 1 + 1,1,none⟩=some (.int .i64 0):=HO.out.at0 1 _ rfl; replace o2:w1.cell? ⟨X + 1 + 1,2,none⟩=some (.string ⟨#[]⟩):=HO.out.at0 2 _ rfl; replace o3:w1.cell? ⟨X + 1 + 1,3,none⟩=some (.int .i64 0):=HO.out.at0 3 _ rfl; replace fz:∀ o,w1.frozen? ⟨X + 1 + 1,o,none⟩=false:=HO.out.frz) | (go_at_call 34; refine (HCr.out _ HB.out).mono ?_; rintro e w1 ⟨rfl,hb⟩; replace HB:Hid (Below w.heap.size w w1):=Below.on HB.out hb; replace HX:Hid (BoxR w1 (X) [.slice a len cap,.int .i64 now]):=HX.out.below hb; replace HC:Hid (BoxR w1 (X + 1) [.int .i64 u,.int .i64 g,.slice ca cl cc,.bool r]):=HC.out.below hb; replace HO:Hid (BoxW w1 (X + 1 + 1) [.int .i64 0,.int .i64 0,.string ⟨#[]⟩,.int .i64 0]):=HO.out.below hb; clear hb; replace t0:w1.cell? ⟨X,0,none⟩=some (.slice a len cap):=HX.out.at0 0 _ rfl; replace t1:w1.cell? ⟨X,1,none⟩=some (.int .i64 now):=HX.out.at0 1 _ rfl; replace c0:w1.cell? ⟨X + 1,0,none⟩=some (.int .i64 u):=HC.out.at0 0 _ rfl; replace c1:w1.cell? ⟨X + 1,1,none⟩=some (.int .i64 g):=HC.out.at0 1 _ rfl; replace c2:w1.cell? ⟨X + 1,2,none⟩=some (.slice ca cl cc):=HC.out.at0 2 _ rfl; replace c3:w1.cell? ⟨X + 1,3,none⟩=some (.bool r):=HC.out.at0 3 _ rfl; replace o0:w1.cell? ⟨X + 1 + 1,0,none⟩=some (.int .i64 0):=HO.out.at0 0 _ rfl; replace o1:w1.cell? ⟨X + 1 + 1,1,none⟩=some (.int .i64 0):=HO.out.at0 1 _ rfl; replace o2:w1.cell? ⟨X + 1 + 1,2,none⟩=some (.string ⟨#[]⟩):=HO.out.at0 2 _ rfl; replace o3:w1.cell? ⟨X + 1 + 1,3,none⟩=some (.int .i64 0):=HO.out.at0 3 _ rfl; replace fz:∀ o,w1.frozen? ⟨X + 1 + 1,o,none⟩=false:=HO.out.frz))
    refine bodyPost_ret (v:=.tuple #[.pointer none,.agg #[.int .i64 0,.int .i64 0,.string ⟨#[]⟩,.int .i64 0],.int .i64 (1)]) (by simp [results,Tryz.results49,go_sem,o0,o1,o2,o3]) rfl ?_
    exact ⟨⟨0,0,emp,0⟩,none,by rw [HE.out]; rfl,(by repeat (first | exact HB.out | refine bl_setT ?_ (by have:=HXw.out; omega))),fun h => absurd h (by rw [HE.out]; decide)⟩
  have HF:Hid (F=O):=(by show _=_; rw [HW.out,ht,hcr]; rfl)
  have hwk:=HWk.out ht hcr
  have HWq:Hid (∀ w',Below w.heap.size w w'→Calls Tryz.prog 35 #[.agg #[.slice a len cap,.int .i64 now],.agg #[.int .i64 u,.int .i64 g,.slice ca cl cc,.bool r],.string s,.bool fo] w' fun e w'' => e=.returned (.agg #[.int .i64 O.n,.int .i64 O.d,.string O.nm,.int .i64 O.c])∧Below w'.heap.size w' w''):=hwk
  have HCq:Hid (∀ w',Below w.heap.size w w'→Calls Tryz.prog 93 #[.agg #[.slice a len cap,.int .i64 now]] w' fun e w'' => ∃ v ds,e=.returned (.agg #[v,.int .i64 now])∧Hid (CpI w'' (w'.heap.size + 1 + 1 + 1) v ds)∧ds.map (·.1)=l∧Below w'.heap.size w' w''):=HCp.out ht
  have HE1:Hid (R=O.c):=(by show _=_; rw [HE0,HF.out]; rfl)
  rw [ht] at HT
  rw [hcr] at HCr
  clear HW HWk hwk HE0 HCp
  go_upto_region 5 with (first | (go_at_call 33; refine (HT.out _ HB.out).mono ?_; rintro e w1 ⟨rfl,hb⟩; replace HB:Hid (Below w.heap.size w w1):=Below.on HB.out hb; replace HX:Hid (BoxR w1 (X) [.slice a len cap,.int .i64 now]):=HX.out.below hb; replace HC:Hid (BoxR w1 (X + 1) [.int .i64 u,.int .i64 g,.slice ca cl cc,.bool r]):=HC.out.below hb; replace HO:Hid (BoxW w1 (X + 1 + 1) [.int .i64 0,.int .i64 0,.string ⟨#[]⟩,.int .i64 0]):=HO.out.below hb; clear hb; replace t0:w1.cell? ⟨X,0,none⟩=some (.slice a len cap):=HX.out.at0 0 _ rfl; replace t1:w1.cell? ⟨X,1,none⟩=some (.int .i64 now):=HX.out.at0 1 _ rfl; replace c0:w1.cell? ⟨X + 1,0,none⟩=some (.int .i64 u):=HC.out.at0 0 _ rfl; replace c1:w1.cell? ⟨X + 1,1,none⟩=some (.int .i64 g):=HC.out.at0 1 _ rfl; replace c2:w1.cell? ⟨X + 1,2,none⟩=some (.slice ca cl cc):=HC.out.at0 2 _ rfl; replace c3:w1.cell? ⟨X + 1,3,none⟩=some (.bool r):=HC.out.at0 3 _ rfl; replace o0:w1.cell? ⟨X + 1 + 1,0,none⟩=some (.int .i64 0):=HO.out.at0 0 _ rfl; replace o1:w1.cell? ⟨X + 1 + 1,1,none⟩=some (.int .i64 0):=HO.out.at0 1 _ rfl; replace o2:w1.cell? ⟨X + 1 + 1,2,none⟩=some (.string ⟨#[]⟩):=HO.out.at0 2 _ rfl; replace o3:w1.cell? ⟨X + 1 + 1,3,none⟩=some (.int .i64 0):=HO.out.at0 3 _ rfl; replace fz:∀ o,w1.frozen? ⟨X + 1 + 1,o,none⟩=false:=HO.out.frz) | (go_at_call 34; refine (HCr.out _ HB.out).mono ?_; rintro e w1 ⟨rfl,hb⟩; replace HB:Hid (Below w.heap.size w w1):=Below.on HB.out hb; replace HX:Hid (BoxR w1 (X) [.slice a len cap,.int .i64 now]):=HX.out.below hb; replace HC:Hid (BoxR w1 (X + 1) [.int .i64 u,.int .i64 g,.slice ca cl cc,.bool r]):=HC.out.below hb; replace HO:Hid (BoxW w1 (X + 1 + 1) [.int .i64 0,.int .i64 0,.string ⟨#[]⟩,.int .i64 0]):=HO.out.below hb; clear hb; replace t0:w1.cell? ⟨X,0,none⟩=some (.slice a len cap):=HX.out.at0 0 _ rfl; replace t1:w1.cell? ⟨X,1,none⟩=some (.int .i64 now):=HX.out.at0 1 _ rfl; replace c0:w1.cell? ⟨X + 1,0,none⟩=some (.int .i64 u):=HC.out.at0 0 _ rfl; replace c1:w1.cell? ⟨X + 1,1,none⟩=some (.int .i64 g):=HC.out.at0 1 _ rfl; replace c2:w1.cell? ⟨X + 1,2,none⟩=some (.slice ca cl cc):=HC.out.at0 2 _ rfl; replace c3:w1.cell? ⟨X + 1,3,none⟩=some (.bool r):=HC.out.at0 3 _ rfl; replace o0:w1.cell? ⟨X + 1 + 1,0,none⟩=some (.int .i64 0):=HO.out.at0 0 _ rfl; replace o1:w1.cell? ⟨X + 1 + 1,1,none⟩=some (.int .i64 0):=HO.out.at0 1 _ rfl; replace o2:w1.cell? ⟨X + 1 + 1,2,none⟩=some (.string ⟨#[]⟩):=HO.out.at0 2 _ rfl; replace o3:w1.cell? ⟨X + 1 + 1,3,none⟩=some (.int .i64 0):=HO.out.at0 3 _ rfl; replace fz:∀ o,w1.frozen? ⟨X + 1 + 1,o,none⟩=false:=HO.out.frz))
  clear HT HCr
  go_wp2_with fail
  refine (HWq.out _ HB.out).mono ?_
  rintro e w2 ⟨rfl,hb⟩
  replace HB:Hid (Below w.heap.size w w2):=Below.on HB.out hb
  replace HX:Hid (BoxR w2 (X) [.slice a len cap,.int .i64 now]):=HX.out.below hb
  replace HC:Hid (BoxR w2 (X + 1) [.int .i64 u,.int .i64 g,.slice ca cl cc,.bool r]):=HC.out.below hb
  replace HO:Hid (BoxW w2 (X + 1 + 1) [.int .i64 0,.int .i64 0,.string ⟨#[]⟩,.int .i64 0]):=HO.out.below hb
  have HZl:Hid (X + 1 + 1 < w2.heap.size):=HO.out.lt
  have hbN:Below w2.heap.size w2 (w2.alloc (.cells #[.int .i64 O.n,.int .i64 O.d,.string O.nm,.int .i64 O.c] 31)):=bel_alloc _ _
  have HZ:Hid (BoxR (w2.alloc (.cells #[.int .i64 O.n,.int .i64 O.d,.string O.nm,.int .i64 O.c] 31)) w2.heap.size [.int .i64 O.n,.int .i64 O.d,.string O.nm,.int .i64 O.c]):=boxR_new _ _ _
  replace HB:Hid (Below w.heap.size w (w2.alloc (.cells #[.int .i64 O.n,.int .i64 O.d,.string O.nm,.int .i64 O.c] 31))):=Below.on HB.out hbN
  replace HX:Hid (BoxR (w2.alloc (.cells #[.int .i64 O.n,.int .i64 O.d,.string O.nm,.int .i64 O.c] 31)) (X) [.slice a len cap,.int .i64 now]):=HX.out.below hbN
  replace HC:Hid (BoxR (w2.alloc (.cells #[.int .i64 O.n,.int .i64 O.d,.string O.nm,.int .i64 O.c] 31)) (X + 1) [.int .i64 u,.int .i64 g,.slice ca cl cc,.bool r]):=HC.out.below hbN
  replace HO:Hid (BoxW (w2.alloc (.cells #[.int .i64 O.n,.int .i64 O.d,.string O.nm,.int .i64 O.c] 31)) (X + 1 + 1) [.int .i64 0,.int .i64 0,.string ⟨#[]⟩,.int .i64 0]):=HO.out.below hbN
  clear hb hbN t0 t1 c0 c1 c2 c3 o0 o1 o2 o3 fz HWq
  go_upto_region 6 with fail
  generalize (w2.alloc (.cells #[.int .i64 O.n,.int .i64 O.d,.string O.nm,.int .i64 O.c] 31))=w3 at HB HX HC HO HZ ⊢
  generalize w2.heap.size=Z at HZ HZl ⊢
  have z0:w3.cell? ⟨Z,0,none⟩=some (.int .i64 O.n):=HZ.out.at0 0 _ rfl
  have z1:w3.cell? ⟨Z,1,none⟩=some (.int .i64 O.d):=HZ.out.at0 1 _ rfl
  have z2:w3.cell? ⟨Z,2,none⟩=some (.string O.nm):=HZ.out.at0 2 _ rfl
  have z3:w3.cell? ⟨Z,3,none⟩=some (.int .i64 O.c):=HZ.out.at0 3 _ rfl
  have fz:∀ o,w3.frozen? ⟨X + 1 + 1,o,none⟩=false:=HO.out.frz
  have o0:w3.cell? ⟨X + 1 + 1,0,none⟩=some (.int .i64 0):=HO.out.at0 0 _ rfl
  have o1:w3.cell? ⟨X + 1 + 1,1,none⟩=some (.int .i64 0):=HO.out.at0 1 _ rfl
  have o2:w3.cell? ⟨X + 1 + 1,2,none⟩=some (.string ⟨#[]⟩):=HO.out.at0 2 _ rfl
  have o3:w3.cell? ⟨X + 1 + 1,3,none⟩=some (.int .i64 0):=HO.out.at0 3 _ rfl
  have nz1:Z ≠ X + 1 + 1:=(by have:=HZl.out; omega)
  have nz2:X + 1 + 1 ≠ Z:=fun e => nz1 e.symm
  by_cases hc:O.c=0
  case neg =>
    have hc':(O.c != 0)=true:=by simpa [bne] using hc
    have hcn:R ≠ 0:=by rw [HE1.out]; exact hc
    go_upto_region 7 with fail
    go_region_held3 (fun w' => w'.cell? ⟨Z,0,none⟩=some (.int .i64 O.n)∧w'.cell? ⟨Z,1,none⟩=some (.int .i64 O.d)∧w'.cell? ⟨Z,2,none⟩=some (.string O.nm)∧w'.cell? ⟨Z,3,none⟩=some (.int .i64 O.c)) (go_keep) (fail)
    go_wp2
    refine bodyPost_ret (v:=.tuple #[.pointer none,.agg #[.int .i64 O.n,.int .i64 O.d,.string O.nm,.int .i64 O.c],.int .i64 O.c]) (by simp [results,Tryz.results49,go_sem,o0,o1,o2,o3]) rfl ?_
    exact ⟨O,none,by rw [HE1.out]; rfl,(by repeat (first | exact HB.out | refine below_drewT ?_ | refine bl_setT ?_ (by have:=HXw.out; omega))),fun h => absurd h hcn⟩
  have hc':(O.c != 0)=false:=by rw [hc]; rfl
  have HE:Hid (R=0):=(by show _=_; rw [HE1.out,hc])
  have t0:w3.cell? ⟨X,0,none⟩=some (.slice a len cap):=HX.out.at0 0 _ rfl
  have t1:w3.cell? ⟨X,1,none⟩=some (.int .i64 now):=HX.out.at0 1 _ rfl
  have c0:w3.cell? ⟨X + 1,0,none⟩=some (.int .i64 u):=HC.out.at0 0 _ rfl
  have c1:w3.cell? ⟨X + 1,1,none⟩=some (.int .i64 g):=HC.out.at0 1 _ rfl
  have c2:w3.cell? ⟨X + 1,2,none⟩=some (.slice ca cl cc):=HC.out.at0 2 _ rfl
  have c3:w3.cell? ⟨X + 1,3,none⟩=some (.bool r):=HC.out.at0 3 _ rfl
  have nx1:X ≠ X + 1 + 1:=by omega
  have nx2:X + 1 + 1 ≠ X:=by omega
  have nx3:X + 1 ≠ X + 1 + 1:=by omega
  have nx4:X + 1 + 1 ≠ X + 1:=by omega
  clear HE1 hc
  go_upto_region 8 with fail
  go_region_held3 (fun w' => w'.cell? ⟨X,0,none⟩=some (.slice a len cap)∧w'.cell? ⟨X,1,none⟩=some (.int .i64 now)∧w'.cell? ⟨X + 1,0,none⟩=some (.int .i64 u)∧w'.cell? ⟨X + 1,1,none⟩=some (.int .i64 g)∧w'.cell? ⟨X + 1,2,none⟩=some (.slice ca cl cc)∧w'.cell? ⟨X + 1,3,none⟩=some (.bool r)∧w'.cell? ⟨Z,0,none⟩=some (.int .i64 O.n)∧w'.cell? ⟨Z,1,none⟩=some (.int .i64 O.d)∧w'.cell? ⟨Z,2,none⟩=some (.string O.nm)∧w'.cell? ⟨Z,3,none⟩=some (.int .i64 O.c)) (go_keep)
    (first | (go_at_call 93; refine (HCq.out _ (below_drewT HB.out)).mono ?_; rintro e w4 ⟨v,ds,rfl,hCp,hmp,hb⟩; have hbq:Below w3.heap.size w3 w4:=⟨hb.os,hb.tape,hb.output,hb.size,hb.block⟩; have HX4:Hid (BoxR w4 X [.slice a len cap,.int .i64 now]):=HX.out.below hbq; have HC4:Hid (BoxR w4 (X + 1) [.int .i64 u,.int .i64 g,.slice ca cl cc,.bool r]):=HC.out.below hbq; have HO4:Hid (BoxW w4 (X + 1 + 1) [.int .i64 0,.int .i64 0,.string ⟨#[]⟩,.int .i64 0]):=HO.out.below hbq; have HZ4:Hid (BoxR w4 Z [.int .i64 O.n,.int .i64 O.d,.string O.nm,.int .i64 O.c]):=HZ.out.below hbq; have HB4:Hid (Below w.heap.size w w4):=Below.on HB.out hbq; have HSz:Hid (w.heap.size≤w3.heap.size):=HB.out.size; have HMp:Hid (ds.map (·.1)=l):=hmp; clear hmp hb hbq; have tq0:w4.cell? ⟨X,0,none⟩=some (.slice a len cap):=HX4.out.at0 0 _ rfl; have tq1:w4.cell? ⟨X,1,none⟩=some (.int .i64 now):=HX4.out.at0 1 _ rfl; have cq0:w4.cell? ⟨X + 1,0,none⟩=some (.int .i64 u):=HC4.out.at0 0 _ rfl; have cq1:w4.cell? ⟨X + 1,1,none⟩=some (.int .i64 g):=HC4.out.at0 1 _ rfl; have cq2:w4.cell? ⟨X + 1,2,none⟩=some (.slice ca cl cc):=HC4.out.at0 2 _ rfl; have cq3:w4.cell? ⟨X + 1,3,none⟩=some (.bool r):=HC4.out.at0 3 _ rfl; have zq0:w4.cell? ⟨Z,0,none⟩=some (.int .i64 O.n):=HZ4.out.at0 0 _ rfl; have zq1:w4.cell? ⟨Z,1,none⟩=some (.int .i64 O.d):=HZ4.out.at0 1 _ rfl; have zq2:w4.cell? ⟨Z,2,none⟩=some (.string O.nm):=HZ4.out.at0 2 _ rfl; have zq3:w4.cell? ⟨Z,3,none⟩=some (.int .i64 O.c):=HZ4.out.at0 3 _ rfl; have oq0:w4.cell? ⟨X + 1 + 1,0,none⟩=some (.int .i64 0):=HO4.out.at0 0 _ rfl; have oq1:w4.cell? ⟨X + 1 + 1,1,none⟩=some (.int .i64 0):=HO4.out.at0 1 _ rfl; have oq2:w4.cell? ⟨X + 1 + 1,2,none⟩=some (.string ⟨#[]⟩):=HO4.out.at0 2 _ rfl; have oq3:w4.cell? ⟨X + 1 + 1,3,none⟩=some (.int .i64 0):=HO4.out.at0 3 _ rfl; have HOa:Hid (BoxW (w4.alloc (.cells #[v,.int .i64 now,.int .i64 u,.int .i64 g,.slice ca cl cc,.bool r] 144)) (X + 1 + 1) [.int .i64 0,.int .i64 0,.string ⟨#[]⟩,.int .i64 0]):=HO4.out.below (bel_alloc w4 (.cells #[v,.int .i64 now,.int .i64 u,.int .i64 g,.slice ca cl cc,.bool r] 144)); have oa0:(w4.alloc (.cells #[v,.int .i64 now,.int .i64 u,.int .i64 g,.slice ca cl cc,.bool r] 144)).cell? ⟨X + 1 + 1,0,none⟩=some (.int .i64 0):=HOa.out.at0 0 _ rfl; have oa1:(w4.alloc (.cells #[v,.int .i64 now,.int .i64 u,.int .i64 g,.slice ca cl cc,.bool r] 144)).cell? ⟨X + 1 + 1,1,none⟩=some (.int .i64 0):=HOa.out.at0 1 _ rfl; have oa2:(w4.alloc (.cells #[v,.int .i64 now,.int .i64 u,.int .i64 g,.slice ca cl cc,.bool r] 144)).cell? ⟨X + 1 + 1,2,none⟩=some (.string ⟨#[]⟩):=HOa.out.at0 2 _ rfl; have oa3:(w4.alloc (.cells #[v,.int .i64 now,.int .i64 u,.int .i64 g,.slice ca cl cc,.bool r] 144)).cell? ⟨X + 1 + 1,3,none⟩=some (.int .i64 0):=HOa.out.at0 3 _ rfl; have fza:∀ o,(w4.alloc (.cells #[v,.int .i64 now,.int .i64 u,.int .i64 g,.slice ca cl cc,.bool r] 144)).frozen? ⟨X + 1 + 1,o,none⟩=false:=HOa.out.frz; clear HOa; have fzq:∀ o,w4.frozen? ⟨X + 1 + 1,o,none⟩=false:=HO4.out.frz; have nzj:w4.heap.size ≠ X + 1 + 1:=(by have:=HO4.out.lt; omega); have nzk:X + 1 + 1 ≠ w4.heap.size:=(by have:=HO4.out.lt; omega)))
  go_wp2
  refine bodyPost_ret (v:=.tuple #[.pointer (some ⟨w4.heap.size,0,none⟩),.agg #[.int .i64 O.n,.int .i64 O.d,.string O.nm,.int .i64 O.c],.int .i64 0]) (by simp [results,Tryz.results49,go_sem,oa0,oa1,oa2,oa3]) rfl ?_
  have hJ:=((((boxW_new w4 [v,.int .i64 now,.int .i64 u,.int .i64 g,.slice ca cl cc,.bool r] 144).other (o:=0) (v:=.int .i64 O.n) nzk).other (o:=1) (v:=.int .i64 O.d) nzk).other (o:=2) (v:=.string O.nm) nzk).other (o:=3) (v:=.int .i64 O.c) nzk
  have hb4:=bel_alloc w4 (.cells #[v,.int .i64 now,.int .i64 u,.int .i64 g,.slice ca cl cc,.bool r] 144)
  have hzz:X + 1 + 1 < w3.drew.heap.size + 1 + 1 + 1:=(by have h:=HO.out.lt; show X + 1 + 1 < w3.heap.size + 1 + 1 + 1; omega)
  have hK:=((((hCp.out.below hb4).set (o:=0) (u:=.int .i64 O.n) hzz).set (o:=1) (u:=.int .i64 O.d) hzz).set (o:=2) (u:=.string O.nm) hzz).set (o:=3) (u:=.int .i64 O.c) hzz
  refine ⟨O,_,by rw [HE.out]; rfl,?_,fun _ => ⟨HF.out.symm,w4.heap.size,v,ds,rfl,⟨hJ,?_,⟨_,hK,?_,fun k e => (hCp.out.lt k e).2,fun p hp b e => (hCp.out.loc p hp b e).2.1⟩,HMp.out⟩⟩⟩
  · have hx := HXw.out
    exact bl_setT (bl_setT (bl_setT (bl_setT (Below.on HB4.out hb4) (by omega)) (by omega)) (by omega)) (by omega)
  · exact HB4.out.size
  · have := HSz.out
    show w.heap.size≤w3.heap.size + 1 + 1 + 1
    omega
end Go.Proofs.YtabfdidnjibdeaaGreatDoor
/- spec.Stat. -/
namespace Go.Proofs.YtabfdidnjibdeaaGreatDoor
open Go.RowKit Go.PlainAid Go.Deep
set_option linter.unusedVariables false
set_option linter.unusedSimpArgs false
theorem sJobNodeS_any (P b off k len cap:Nat) (w:World) (hp:w.cell? ⟨P,0,none⟩=some (.slice (some ⟨b,off,none⟩) len cap)) (hk:k < len) (hl:len≤12) :
    Calls Tryz.prog 50 #[.pointer (some ⟨P,0,none⟩),.int .i64 ((k:Int) + 1)] w fun e w' => e=.returned (.pointer (some ⟨b,off + k * 24,none⟩))∧w'=w:=by
  have hk1:(k:Int) < (len:Int):=by omega
  have hk0:(0:Int)≤(k:Int):=by omega
  have hk3:(k:Int)≤12:=by omega
  go_enter Tryz.func50,Tryz.ntmps50
  go_wp2
  go_ret
  have e:(IntKind.i64.wrap (k:Int)).toNat=k:=by rw [IntKind.wrap_i64] <;> omega
  refine ⟨?_,rfl⟩
  first
    | rfl
    | (show Ending.returned (.pointer (some ⟨b,off + (IntKind.i64.wrap (k:Int)).toNat * 24,none⟩))=_; rw [e])
theorem begC_true (l:List Nd) (now u g:Int) (cl:Nat) (r:Bool) (cf:Nat→Int) (s:ByteArray) (fo:Bool):begC (wkF l now u g cl r cf s fo) s true=(wkF l now u g cl r cf s fo).c:=by
  by_cases h:8000 < s.size
  · rw [begC,if_pos h,wkF,if_pos h]; rfl
  · rw [begC,if_neg h]; rfl
set_option maxRecDepth 20000 in
set_option maxHeartbeats 8000000 in
theorem sStat_any (a:Option Addr) (len cap:Nat) (l:List Nd) (now:Int) (u g:Int) (ca:Option Addr) (cl cc:Nat) (r:Bool) (cf:Nat→Int) (s:ByteArray) (fo:Bool) (hm:len≤9223372036854775807) (hf:∀ i,i < len→NdFit 1048576 (ndAt l i)) (hs:s.size≤1048576) (w:World) (hi:Nds a len l w) (hci:Ints ca cl cf w) :
    Calls Tryz.prog 21 #[.agg #[.slice a len cap,.int .i64 now],.agg #[.int .i64 u,.int .i64 g,.slice ca cl cc,.bool r],.string s,.bool fo] w fun e w' => e=.returned (soV (stF l now u g cl r cf s fo))∧Below w.heap.size w w':=by
  have HBg0:Hid (∀ (V:World),Below w.heap.size w V→Calls Tryz.prog 49 #[.agg #[.slice a len cap,.int .i64 now],.agg #[.int .i64 u,.int .i64 g,.slice ca cl cc,.bool r],.string s,.bool true,.bool fo] V fun e w' => ∃ (W:Wo) (p:Option Addr),e=.returned (.tuple #[.pointer p,woV W,.int .i64 (begC (wkF l now u g cl r cf s fo) s true)])∧Below V.heap.size V w'∧(begC (wkF l now u g cl r cf s fo) s true=0→W=wkF l now u g cl r cf s fo∧∃ P v ds,p=some ⟨P,0,none⟩∧Hid (BegJ V.heap.size w' l now u g ca cl cc r P v ds))):=(fun V hb => sBegin_any a len cap l now u g ca cl cc r cf s true fo hm hf hs V (hi.below hb) (hci.below hb))
  have hth:=wkF_there l now u g cl r cf s fo
  have HE0:stF l now u g cl r cf s fo=stN l (wayN (wkF l now u g cl r cf s fo)):=rfl
  rw [begC_true] at HBg0
  generalize stF l now u g cl r cf s fo=R at HE0 ⊢
  generalize wkF l now u g cl r cf s fo=F at HBg0 HE0 hth
  have HTh:Hid _:=hth
  have HBg:Hid (∀ (V:World),Below w.heap.size w V→Calls Tryz.prog 49 #[.agg #[.slice a len cap,.int .i64 now],.agg #[.int .i64 u,.int .i64 g,.slice ca cl cc,.bool r],.string s,.bool true,.bool fo] V fun e w' => ∃ (W:Wo) (p:Option Addr),e=.returned (.tuple #[.pointer p,.agg #[.int .i64 W.n,.int .i64 W.d,.string W.nm,.int .i64 W.c],.int .i64 F.c])∧Below V.heap.size V w'∧(F.c=0→W=F∧∃ P v ds,p=some ⟨P,0,none⟩∧Hid (BegJ V.heap.size w' l now u g ca cl cc r P v ds))):=HBg0
  clear HBg0 hth hi hci hf
  have HB:Hid (Below w.heap.size w (((w.alloc (.cells #[.slice a len cap,.int .i64 now] 35)).alloc (.cells #[.int .i64 u,.int .i64 g,.slice ca cl cc,.bool r] 37)).alloc (.cells #[.int .i64 0,.int .i64 0,.int .i64 0,.int .i64 0,.int .i64 0,.int .i64 0,.int .i64 0] 47))):=(Below.on (Below.on (Below.on (Below.refl _ _) (bel_alloc _ _)) (bel_alloc _ _)) (bel_alloc _ _))
  have HX:Hid (BoxR (((w.alloc (.cells #[.slice a len cap,.int .i64 now] 35)).alloc (.cells #[.int .i64 u,.int .i64 g,.slice ca cl cc,.bool r] 37)).alloc (.cells #[.int .i64 0,.int .i64 0,.int .i64 0,.int .i64 0,.int .i64 0,.int .i64 0,.int .i64 0] 47)) (w.heap.size) [.slice a len cap,.int .i64 now]):=(by
    have h:=(((boxR_new w [.slice a len cap,.int .i64 now] 35).below (bel_alloc (w.alloc (.cells #[.slice a len cap,.int .i64 now] 35)) (.cells #[.int .i64 u,.int .i64 g,.slice ca cl cc,.bool r] 37))).below (bel_alloc ((w.alloc (.cells #[.slice a len cap,.int .i64 now] 35)).alloc (.cells #[.int .i64 u,.int .i64 g,.slice ca cl cc,.bool r] 37)) (.cells #[.int .i64 0,.int .i64 0,.int .i64 0,.int .i64 0,.int .i64 0,.int .i64 0,.int .i64 0] 47)))
    exact h)
  have HC:Hid (BoxR (((w.alloc (.cells #[.slice a len cap,.int .i64 now] 35)).alloc (.cells #[.int .i64 u,.int .i64 g,.slice ca cl cc,.bool r] 37)).alloc (.cells #[.int .i64 0,.int .i64 0,.int .i64 0,.int .i64 0,.int .i64 0,.int .i64 0,.int .i64 0] 47)) (w.heap.size + 1) [.int .i64 u,.int .i64 g,.slice ca cl cc,.bool r]):=(by
    have h:=((boxR_new (w.alloc (.cells #[.slice a len cap,.int .i64 now] 35)) [.int .i64 u,.int .i64 g,.slice ca cl cc,.bool r] 37).below (bel_alloc ((w.alloc (.cells #[.slice a len cap,.int .i64 now] 35)).alloc (.cells #[.int .i64 u,.int .i64 g,.slice ca cl cc,.bool r] 37)) (.cells #[.int .i64 0,.int .i64 0,.int .i64 0,.int .i64 0,.int .i64 0,.int .i64 0,.int .i64 0] 47)))
    simp only [World.size_alloc] at h
    exact h)
  have HO:Hid (BoxW (((w.alloc (.cells #[.slice a len cap,.int .i64 now] 35)).alloc (.cells #[.int .i64 u,.int .i64 g,.slice ca cl cc,.bool r] 37)).alloc (.cells #[.int .i64 0,.int .i64 0,.int .i64 0,.int .i64 0,.int .i64 0,.int .i64 0,.int .i64 0] 47)) (w.heap.size + 1 + 1) [.int .i64 0,.int .i64 0,.int .i64 0,.int .i64 0,.int .i64 0,.int .i64 0,.int .i64 0]):=(by
    have h:=(boxW_new ((w.alloc (.cells #[.slice a len cap,.int .i64 now] 35)).alloc (.cells #[.int .i64 u,.int .i64 g,.slice ca cl cc,.bool r] 37)) [.int .i64 0,.int .i64 0,.int .i64 0,.int .i64 0,.int .i64 0,.int .i64 0,.int .i64 0] 47)
    simp only [World.size_alloc] at h
    exact h)
  go_enter Tryz.func21,Tryz.ntmps21
  go_upto_region 1 with fail
  generalize (((w.alloc (.cells #[.slice a len cap,.int .i64 now] 35)).alloc (.cells #[.int .i64 u,.int .i64 g,.slice ca cl cc,.bool r] 37)).alloc (.cells #[.int .i64 0,.int .i64 0,.int .i64 0,.int .i64 0,.int .i64 0,.int .i64 0,.int .i64 0] 47))=w0 at HB HX HC HO ⊢
  obtain ⟨X,hX⟩:∃ X,X=w.heap.size:=⟨_,rfl⟩
  have HXw:Hid (X=w.heap.size):=hX
  rw [← hX] at HX HC HO ⊢
  clear hX
  have t0:w0.cell? ⟨X,0,none⟩=some (.slice a len cap):=HX.out.at0 0 _ rfl
  have t1:w0.cell? ⟨X,1,none⟩=some (.int .i64 now):=HX.out.at0 1 _ rfl
  have c0:w0.cell? ⟨X + 1,0,none⟩=some (.int .i64 u):=HC.out.at0 0 _ rfl
  have c1:w0.cell? ⟨X + 1,1,none⟩=some (.int .i64 g):=HC.out.at0 1 _ rfl
  have c2:w0.cell? ⟨X + 1,2,none⟩=some (.slice ca cl cc):=HC.out.at0 2 _ rfl
  have c3:w0.cell? ⟨X + 1,3,none⟩=some (.bool r):=HC.out.at0 3 _ rfl
  go_wp2_with fail
  refine (HBg.out _ HB.out).mono ?_
  rintro e w1 ⟨W,p,rfl,hb,hj⟩
  replace HB:Hid (Below w.heap.size w w1):=Below.on HB.out hb
  replace HX:Hid (BoxR w1 (X) [.slice a len cap,.int .i64 now]):=HX.out.below hb
  replace HC:Hid (BoxR w1 (X + 1) [.int .i64 u,.int .i64 g,.slice ca cl cc,.bool r]):=HC.out.below hb
  replace HO:Hid (BoxW w1 (X + 1 + 1) [.int .i64 0,.int .i64 0,.int .i64 0,.int .i64 0,.int .i64 0,.int .i64 0,.int .i64 0]):=HO.out.below hb
  have HO1l:Hid (X + 1 + 1 < w1.heap.size):=HO.out.lt
  have hbN:Below w1.heap.size w1 (w1.alloc (.cells #[.int .i64 W.n,.int .i64 W.d,.string W.nm,.int .i64 W.c] 31)):=bel_alloc _ _
  have HZ:Hid (BoxR (w1.alloc (.cells #[.int .i64 W.n,.int .i64 W.d,.string W.nm,.int .i64 W.c] 31)) w1.heap.size [.int .i64 W.n,.int .i64 W.d,.string W.nm,.int .i64 W.c]):=boxR_new _ _ _
  have HJ:Hid (F.c=0→W=F∧∃ P v ds,p=some ⟨P,0,none⟩∧BegJ 0 (w1.alloc (.cells #[.int .i64 W.n,.int .i64 W.d,.string W.nm,.int .i64 W.c] 31)) l now u g ca cl cc r P v ds):=(fun h => by obtain ⟨h1,P,v,ds,h2,h3⟩:=hj h; exact ⟨h1,P,v,ds,h2,(h3.out.mono (Nat.zero_le _)).below hbN⟩)
  replace HB:Hid (Below w.heap.size w (w1.alloc (.cells #[.int .i64 W.n,.int .i64 W.d,.string W.nm,.int .i64 W.c] 31))):=Below.on HB.out hbN
  replace HX:Hid (BoxR (w1.alloc (.cells #[.int .i64 W.n,.int .i64 W.d,.string W.nm,.int .i64 W.c] 31)) (X) [.slice a len cap,.int .i64 now]):=HX.out.below hbN
  replace HC:Hid (BoxR (w1.alloc (.cells #[.int .i64 W.n,.int .i64 W.d,.string W.nm,.int .i64 W.c] 31)) (X + 1) [.int .i64 u,.int .i64 g,.slice ca cl cc,.bool r]):=HC.out.below hbN
  replace HO:Hid (BoxW (w1.alloc (.cells #[.int .i64 W.n,.int .i64 W.d,.string W.nm,.int .i64 W.c] 31)) (X + 1 + 1) [.int .i64 0,.int .i64 0,.int .i64 0,.int .i64 0,.int .i64 0,.int .i64 0,.int .i64 0]):=HO.out.below hbN
  clear hb hbN hj t0 t1 c0 c1 c2 c3 HBg
  have HZo:Hid (X + 1 + 1 < w1.heap.size):=HO1l.out
  go_upto_region 2 with fail
  generalize (w1.alloc (.cells #[.int .i64 W.n,.int .i64 W.d,.string W.nm,.int .i64 W.c] 31))=w3 at HB HX HC HO HZ HJ ⊢
  generalize w1.heap.size=Z at HZ HZo ⊢
  have z0:w3.cell? ⟨Z,0,none⟩=some (.int .i64 W.n):=HZ.out.at0 0 _ rfl
  by_cases hc:F.c=0
  case neg =>
    have hc':(F.c == 0)=false:=by simpa using hc
    have hc2:(F.c != 0)=true:=by simpa [bne] using hc
    have HE:Hid (R=⟨0,0,0,0,0,0,F.c⟩):=(by show _=_; rw [HE0,wayN,if_neg (fun h => hc h.1),stN,if_neg hc])
    clear HE0 HTh HJ hc
    have o0:w3.cell? ⟨X + 1 + 1,0,none⟩=some (.int .i64 0):=HO.out.at0 0 _ rfl
    have o1:w3.cell? ⟨X + 1 + 1,1,none⟩=some (.int .i64 0):=HO.out.at0 1 _ rfl
    have o2:w3.cell? ⟨X + 1 + 1,2,none⟩=some (.int .i64 0):=HO.out.at0 2 _ rfl
    have o3:w3.cell? ⟨X + 1 + 1,3,none⟩=some (.int .i64 0):=HO.out.at0 3 _ rfl
    have o4:w3.cell? ⟨X + 1 + 1,4,none⟩=some (.int .i64 0):=HO.out.at0 4 _ rfl
    have o5:w3.cell? ⟨X + 1 + 1,5,none⟩=some (.int .i64 0):=HO.out.at0 5 _ rfl
    have o6:w3.cell? ⟨X + 1 + 1,6,none⟩=some (.int .i64 0):=HO.out.at0 6 _ rfl
    have fz:∀ o,w3.frozen? ⟨X + 1 + 1,o,none⟩=false:=HO.out.frz
    go_wp2
    refine bodyPost_ret (v:=.agg #[.int .i64 0,.int .i64 0,.int .i64 0,.int .i64 0,.int .i64 0,.int .i64 0,.int .i64 F.c]) (by simp [results,Tryz.results21,go_sem,o0,o1,o2,o3,o4,o5,o6]) rfl ?_
    exact ⟨by rw [HE.out]; rfl,(bl_setT (bl_setT (bl_setT (bl_setT (bl_setT (bl_setT (bl_setT HB.out (by have:=HXw.out; omega)) (by have:=HXw.out; omega)) (by have:=HXw.out; omega)) (by have:=HXw.out; omega)) (by have:=HXw.out; omega)) (by have:=HXw.out; omega)) (by have:=HXw.out; omega))⟩
  have hc':(F.c == 0)=true:=by rw [hc]; rfl
  obtain ⟨rfl,P,v,ds,rfl,hJb⟩:=HJ.out hc
  have HJb:Hid (BegJ 0 w3 l now u g ca cl cc r P v ds):=hJb
  have hth:=HTh.out
  clear hJb HJ HTh
  obtain ⟨n,fd,fn,fc⟩:=W
  simp only at hc hth z0
  subst hc
  by_cases hn:n=0
  · have hn' : (n == 0) = true := by rw [hn]; rfl
    have HE:Hid (R=⟨0,0,0,0,0,0,6⟩):=(by show _=_; rw [HE0,wayN,if_pos ⟨rfl,hn⟩]; rfl)
    clear HE0 hth HJb hn
    have o0:w3.cell? ⟨X + 1 + 1,0,none⟩=some (.int .i64 0):=HO.out.at0 0 _ rfl
    have o1:w3.cell? ⟨X + 1 + 1,1,none⟩=some (.int .i64 0):=HO.out.at0 1 _ rfl
    have o2:w3.cell? ⟨X + 1 + 1,2,none⟩=some (.int .i64 0):=HO.out.at0 2 _ rfl
    have o3:w3.cell? ⟨X + 1 + 1,3,none⟩=some (.int .i64 0):=HO.out.at0 3 _ rfl
    have o4:w3.cell? ⟨X + 1 + 1,4,none⟩=some (.int .i64 0):=HO.out.at0 4 _ rfl
    have o5:w3.cell? ⟨X + 1 + 1,5,none⟩=some (.int .i64 0):=HO.out.at0 5 _ rfl
    have o6:w3.cell? ⟨X + 1 + 1,6,none⟩=some (.int .i64 0):=HO.out.at0 6 _ rfl
    have fz:∀ o,w3.frozen? ⟨X + 1 + 1,o,none⟩=false:=HO.out.frz
    go_wp2
    refine bodyPost_ret (v:=.agg #[.int .i64 0,.int .i64 0,.int .i64 0,.int .i64 0,.int .i64 0,.int .i64 0,.int .i64 6]) (by simp [results,Tryz.results21,go_sem,o0,o1,o2,o3,o4,o5,o6]) rfl ?_
    exact ⟨by rw [HE.out]; rfl,(bl_setT (bl_setT (bl_setT (bl_setT (bl_setT (bl_setT (bl_setT HB.out (by have:=HXw.out; omega)) (by have:=HXw.out; omega)) (by have:=HXw.out; omega)) (by have:=HXw.out; omega)) (by have:=HXw.out; omega)) (by have:=HXw.out; omega)) (by have:=HXw.out; omega))⟩
  have hn':(n == 0)=false:=by simpa using hn
  obtain ⟨_,ht,hcr,hthn⟩:=hth.resolve_left hn
  obtain ⟨h1,h2⟩:=inR_iff.1 (thB_num hthn)
  obtain ⟨k,rfl⟩:∃ k:Nat,n=(k:Int) + 1:=⟨(n - 1).toNat,by omega⟩
  have hk:k < l.length:=by omega
  have h12:l.length≤12:=tree_len ht
  obtain ⟨ja,jc,rfl,hNd⟩:=HJb.out.nds
  obtain ⟨b,off,Y,rfl,hb0,hcN⟩:=hNd.2 (by omega)
  have HP0:Hid (w3.cell? ⟨P,0,none⟩=some (.slice (some ⟨b,off,none⟩) l.length jc)):=HJb.out.job.at0 0 _ rfl
  have HN:Hid (N24 w3 b (off + k * 24) (ndAt l k) (Y k)):=(hcN k hk).1
  have HE:Hid (R=⟨(k:Int) + 1,(ndAt l k).k,(ndAt l k).mode,(ndAt l k).ow,(ndAt l k).gr,(ndAt l k).li,0⟩):=(by show _=_; rw [HE0,wayN,if_neg (fun h => hn h.2),stN,if_pos rfl]; simp only [at_succ])
  obtain ⟨f1,f2,_,_⟩:=node_facts (node_is ht hthn)
  have HMd:Hid (∀ w',Calls Tryz.prog 52 #[.agg (ndV (ndAt l k) (Y k)).toArray] w' fun e w'' => e=.returned (.int .i64 (ndAt l k).mode)∧Below w'.heap.size w' w''):=(fun w' => sMode08_any _ _ f1 f2 w')
  have HNo:Hid (Calls Tryz.prog 50 #[.pointer (some ⟨P,0,none⟩),.int .i64 ((k:Int) + 1)] w3 fun e w'' => e=.returned (.pointer (some ⟨b,off + k * 24,none⟩))∧w''=w3):=sJobNodeS_any P b off k l.length jc w3 HP0.out hk h12
  clear HE0 hth hthn ht hcr h1 h2 h12 hNd hcN HJb HP0 hk f1 f2 hn
  generalize ndAt l k=x at HN HE HMd
  generalize Y k=y at HN HMd
  go_wp2_with fail
  refine HNo.out.mono ?_
  rintro e w2 ⟨rfl,rfl⟩
  clear HNo
  have HOl:Hid (X + 1 + 1 < w2.heap.size):=HO.out.lt
  have hbN:Below w2.heap.size w2 ((w2.alloc (.cells #[.int .i64 0,.int .i64 0,.int .i64 0,.int .i64 0,.int .i64 0,.int .i64 0,.int .i64 0,.slice none 0 0,.slice none 0 0,.bool false,.int .i64 0,.bool false,.int .i64 0,.int .i64 0,.int .i64 0,.slice none 0 0,.slice none 0 0,.bool false,.int .i64 0,.int .i64 0,.int .i64 0,.string ⟨#[]⟩,.slice none 0 0,.int .i64 0] 84)).setCells w2.heap.size 0 (ndV x y)):=bl_setsT (Nat.le_refl _) _ _ (bel_alloc _ _)
  have HZn:Hid (BoxR ((w2.alloc (.cells #[.int .i64 0,.int .i64 0,.int .i64 0,.int .i64 0,.int .i64 0,.int .i64 0,.int .i64 0,.slice none 0 0,.slice none 0 0,.bool false,.int .i64 0,.bool false,.int .i64 0,.int .i64 0,.int .i64 0,.slice none 0 0,.slice none 0 0,.bool false,.int .i64 0,.int .i64 0,.int .i64 0,.string ⟨#[]⟩,.slice none 0 0,.int .i64 0] 84)).setCells w2.heap.size 0 (ndV x y)) w2.heap.size (ndV x y)):=⟨by rw [size_setCellsT]; simp,World.rangeAt_setCells_same _ _ _ _ ((boxW_new w2 [.int .i64 0,.int .i64 0,.int .i64 0,.int .i64 0,.int .i64 0,.int .i64 0,.int .i64 0,.slice none 0 0,.slice none 0 0,.bool false,.int .i64 0,.bool false,.int .i64 0,.int .i64 0,.int .i64 0,.slice none 0 0,.slice none 0 0,.bool false,.int .i64 0,.int .i64 0,.int .i64 0,.string ⟨#[]⟩,.slice none 0 0,.int .i64 0] 84).there 0 24 (by simp))⟩
  replace HB:Hid (Below w.heap.size w ((w2.alloc (.cells #[.int .i64 0,.int .i64 0,.int .i64 0,.int .i64 0,.int .i64 0,.int .i64 0,.int .i64 0,.slice none 0 0,.slice none 0 0,.bool false,.int .i64 0,.bool false,.int .i64 0,.int .i64 0,.int .i64 0,.slice none 0 0,.slice none 0 0,.bool false,.int .i64 0,.int .i64 0,.int .i64 0,.string ⟨#[]⟩,.slice none 0 0,.int .i64 0] 84)).setCells w2.heap.size 0 (ndV x y))):=Below.on HB.out hbN
  replace HX:Hid (BoxR ((w2.alloc (.cells #[.int .i64 0,.int .i64 0,.int .i64 0,.int .i64 0,.int .i64 0,.int .i64 0,.int .i64 0,.slice none 0 0,.slice none 0 0,.bool false,.int .i64 0,.bool false,.int .i64 0,.int .i64 0,.int .i64 0,.slice none 0 0,.slice none 0 0,.bool false,.int .i64 0,.int .i64 0,.int .i64 0,.string ⟨#[]⟩,.slice none 0 0,.int .i64 0] 84)).setCells w2.heap.size 0 (ndV x y)) (X) [.slice a len cap,.int .i64 now]):=HX.out.below hbN
  replace HC:Hid (BoxR ((w2.alloc (.cells #[.int .i64 0,.int .i64 0,.int .i64 0,.int .i64 0,.int .i64 0,.int .i64 0,.int .i64 0,.slice none 0 0,.slice none 0 0,.bool false,.int .i64 0,.bool false,.int .i64 0,.int .i64 0,.int .i64 0,.slice none 0 0,.slice none 0 0,.bool false,.int .i64 0,.int .i64 0,.int .i64 0,.string ⟨#[]⟩,.slice none 0 0,.int .i64 0] 84)).setCells w2.heap.size 0 (ndV x y)) (X + 1) [.int .i64 u,.int .i64 g,.slice ca cl cc,.bool r]):=HC.out.below hbN
  replace HO:Hid (BoxW ((w2.alloc (.cells #[.int .i64 0,.int .i64 0,.int .i64 0,.int .i64 0,.int .i64 0,.int .i64 0,.int .i64 0,.slice none 0 0,.slice none 0 0,.bool false,.int .i64 0,.bool false,.int .i64 0,.int .i64 0,.int .i64 0,.slice none 0 0,.slice none 0 0,.bool false,.int .i64 0,.int .i64 0,.int .i64 0,.string ⟨#[]⟩,.slice none 0 0,.int .i64 0] 84)).setCells w2.heap.size 0 (ndV x y)) (X + 1 + 1) [.int .i64 0,.int .i64 0,.int .i64 0,.int .i64 0,.int .i64 0,.int .i64 0,.int .i64 0]):=HO.out.below hbN
  replace HZ:Hid (BoxR ((w2.alloc (.cells #[.int .i64 0,.int .i64 0,.int .i64 0,.int .i64 0,.int .i64 0,.int .i64 0,.int .i64 0,.slice none 0 0,.slice none 0 0,.bool false,.int .i64 0,.bool false,.int .i64 0,.int .i64 0,.int .i64 0,.slice none 0 0,.slice none 0 0,.bool false,.int .i64 0,.int .i64 0,.int .i64 0,.string ⟨#[]⟩,.slice none 0 0,.int .i64 0] 84)).setCells w2.heap.size 0 (ndV x y)) Z [.int .i64 ((k:Int) + 1),.int .i64 fd,.string fn,.int .i64 0]):=HZ.out.below hbN
  have HZl:Hid (X + 1 + 1 < w2.heap.size):=HOl.out
  clear hbN
  go_upto_region 7 with (first | (refine wpList_load_mid (by rfl) 84 _ (by rfl) _ _ (by rfl) _ _ HN.out Tryz.underlying84 rfl (by kernel_rfl) ?_) | (refine wpList_store_list (by rfl) 84 _ _ (by rfl) _ _ (ndV x y) (by rfl) (by rfl) ((boxW_new w2 [.int .i64 0,.int .i64 0,.int .i64 0,.int .i64 0,.int .i64 0,.int .i64 0,.int .i64 0,.slice none 0 0,.slice none 0 0,.bool false,.int .i64 0,.bool false,.int .i64 0,.int .i64 0,.int .i64 0,.slice none 0 0,.slice none 0 0,.bool false,.int .i64 0,.int .i64 0,.int .i64 0,.string ⟨#[]⟩,.slice none 0 0,.int .i64 0] 84).there 0 24 (by simp)) (by kernel_rfl) (ndV_ones _ _) ?_))
  clear HN z0
  generalize ((w2.alloc (.cells #[.int .i64 0,.int .i64 0,.int .i64 0,.int .i64 0,.int .i64 0,.int .i64 0,.int .i64 0,.slice none 0 0,.slice none 0 0,.bool false,.int .i64 0,.bool false,.int .i64 0,.int .i64 0,.int .i64 0,.slice none 0 0,.slice none 0 0,.bool false,.int .i64 0,.int .i64 0,.int .i64 0,.string ⟨#[]⟩,.slice none 0 0,.int .i64 0] 84)).setCells w2.heap.size 0 (ndV x y))=w4 at HB HX HC HO HZ HZn ⊢
  generalize w2.heap.size=N at HZn HZl ⊢
  refine wp_region_held_drew (S:=(fun w' => w'.cell? ⟨Z,0,none⟩=some (.int .i64 ((k:Int) + 1))∧w'.rangeAt N 0 (ndV x y))) (by kernel_rfl) (by exact ⟨HZ.out.at0 0 _ rfl,HZn.out.at0⟩) (fun hHeld => ?_)
  refine wpAnyH_take (i:=0) (v:=.pointer (some ⟨Z,0,none⟩)) rfl (by kernel_rfl) (by kernel_rfl) (by kernel_rfl) (fun _ _ _ h => h) (Or.inl ⟨by rfl,fun _ _ => by rfl⟩) hHeld ?_
  try simp only [Act.put,List.getElem_toArray,List.getElem_cons_zero,List.getElem_cons_succ,List.setIfInBounds_toArray,List.set_cons_zero,List.set_cons_succ]
  refine wpAnyH_take (i:=1) (v:=.int .i64 ((k:Int) + 1)) rfl (by kernel_rfl) (by kernel_rfl) (by kernel_rfl) (fun _ _ _ h => h) (Or.inl ⟨by rfl,fun _ h => by have h0:=h.1; go_simp⟩) hHeld ?_
  try simp only [Act.put,List.getElem_toArray,List.getElem_cons_zero,List.getElem_cons_succ,List.setIfInBounds_toArray,List.set_cons_zero,List.set_cons_succ]
  refine wpAnyH_take (i:=2) (v:=.pointer (some ⟨N,0,none⟩)) rfl (by kernel_rfl) (by kernel_rfl) (by kernel_rfl) (fun _ _ _ h => h) (Or.inl ⟨by rfl,fun _ _ => by rfl⟩) hHeld ?_
  try simp only [Act.put,List.getElem_toArray,List.getElem_cons_zero,List.getElem_cons_succ,List.setIfInBounds_toArray,List.set_cons_zero,List.set_cons_succ]
  refine wpAnyH_take (i:=3) (v:=.int .i64 x.k) rfl (by kernel_rfl) (by kernel_rfl) (by kernel_rfl) (fun _ _ _ h => h) (Or.inl ⟨by rfl,fun _ h => by have h0:=N24.c0 h.2; (try simp only [Nat.zero_add] at h0); go_simp⟩) hHeld ?_
  try simp only [Act.put,List.getElem_toArray,List.getElem_cons_zero,List.getElem_cons_succ,List.setIfInBounds_toArray,List.set_cons_zero,List.set_cons_succ]
  refine wpAnyH_take (i:=4) (v:=.agg (ndV x y).toArray) rfl (by kernel_rfl) (by kernel_rfl) (by kernel_rfl) (fun _ _ _ h => h) (yieldsIf_load_mid (by rfl) 84 _ rfl N 0 rfl _ _ (fun _ h => h.2) Tryz.underlying84 rfl (by kernel_rfl)) hHeld ?_
  try simp only [Act.put,List.getElem_toArray,List.getElem_cons_zero,List.getElem_cons_succ,List.setIfInBounds_toArray,List.set_cons_zero,List.set_cons_succ]
  refine wpAnyH_take (i:=6) (v:=.pointer (some ⟨N,1,none⟩)) rfl (by kernel_rfl) (by kernel_rfl) (by kernel_rfl) (fun _ _ _ h => h) (Or.inl ⟨by rfl,fun _ _ => by rfl⟩) hHeld ?_
  try simp only [Act.put,List.getElem_toArray,List.getElem_cons_zero,List.getElem_cons_succ,List.setIfInBounds_toArray,List.set_cons_zero,List.set_cons_succ]
  refine wpAnyH_take (i:=7) (v:=.int .i64 x.ow) rfl (by kernel_rfl) (by kernel_rfl) (by kernel_rfl) (fun _ _ _ h => h) (Or.inl ⟨by rfl,fun _ h => by have h0:=N24.c1 h.2; (try simp only [Nat.zero_add] at h0); go_simp⟩) hHeld ?_
  try simp only [Act.put,List.getElem_toArray,List.getElem_cons_zero,List.getElem_cons_succ,List.setIfInBounds_toArray,List.set_cons_zero,List.set_cons_succ]
  refine wpAnyH_take (i:=8) (v:=.pointer (some ⟨N,2,none⟩)) rfl (by kernel_rfl) (by kernel_rfl) (by kernel_rfl) (fun _ _ _ h => h) (Or.inl ⟨by rfl,fun _ _ => by rfl⟩) hHeld ?_
  try simp only [Act.put,List.getElem_toArray,List.getElem_cons_zero,List.getElem_cons_succ,List.setIfInBounds_toArray,List.set_cons_zero,List.set_cons_succ]
  refine wpAnyH_take (i:=9) (v:=.int .i64 x.gr) rfl (by kernel_rfl) (by kernel_rfl) (by kernel_rfl) (fun _ _ _ h => h) (Or.inl ⟨by rfl,fun _ h => by have h0:=N24.c2 h.2; (try simp only [Nat.zero_add] at h0); go_simp⟩) hHeld ?_
  try simp only [Act.put,List.getElem_toArray,List.getElem_cons_zero,List.getElem_cons_succ,List.setIfInBounds_toArray,List.set_cons_zero,List.set_cons_succ]
  refine wpAnyH_take (i:=10) (v:=.pointer (some ⟨N,19,none⟩)) rfl (by kernel_rfl) (by kernel_rfl) (by kernel_rfl) (fun _ _ _ h => h) (Or.inl ⟨by rfl,fun _ _ => by rfl⟩) hHeld ?_
  try simp only [Act.put,List.getElem_toArray,List.getElem_cons_zero,List.getElem_cons_succ,List.setIfInBounds_toArray,List.set_cons_zero,List.set_cons_succ]
  refine wpAnyH_take (i:=11) (v:=.int .i64 x.li) rfl (by kernel_rfl) (by kernel_rfl) (by kernel_rfl) (fun _ _ _ h => h) (Or.inl ⟨by rfl,fun _ h => by have h0:=N24.c19 h.2; (try simp only [Nat.zero_add] at h0); go_simp⟩) hHeld ?_
  try simp only [Act.put,List.getElem_toArray,List.getElem_cons_zero,List.getElem_cons_succ,List.setIfInBounds_toArray,List.set_cons_zero,List.set_cons_succ]
  refine wpAnyH_ready (rs:=[5]) (by kernel_rfl) (by simp) ?_
  refine AllReadyH.cons rfl (fun K hK => ?_) AllReadyH.nil
  rw [if_pos (by rfl)]
  go_simp
  refine (HMd.out _).mono ?_
  rintro e w5 ⟨rfl,hb5⟩
  simp only []
  have hbq:Below w4.heap.size w4 w5:=⟨hb5.os,hb5.tape,hb5.output,hb5.size,hb5.block⟩
  have HB5:Hid (Below w.heap.size w w5):=Below.on HB.out hbq
  have HO5:Hid (BoxW w5 (X + 1 + 1) [.int .i64 0,.int .i64 0,.int .i64 0,.int .i64 0,.int .i64 0,.int .i64 0,.int .i64 0]):=HO.out.below hbq
  have HH5:(fun w' => w'.cell? ⟨Z,0,none⟩=some (.int .i64 ((k:Int) + 1))∧w'.rangeAt N 0 (ndV x y)) w5:=⟨(HZ.out.below hbq).at0 0 _ rfl,(HZn.out.below hbq).at0⟩
  refine hK.out _ _ HH5 (fun hHeld => ?_)
  clear hK K
  try simp only [Act.put,List.getElem_toArray,List.getElem_cons_zero,List.getElem_cons_succ,List.setIfInBounds_toArray,List.set_cons_zero,List.set_cons_succ]
  refine wpAnyH_take (i:=12) (v:=.agg #[.int .i64 ((k:Int) + 1),.int .i64 x.k,.int .i64 x.mode,.int .i64 x.ow,.int .i64 x.gr,.int .i64 x.li,.int .i64 0]) rfl (by kernel_rfl) (by kernel_rfl) (by kernel_rfl) (fun _ _ _ h => h) (Or.inl ⟨by rfl,fun _ h => by go_simp⟩) hHeld ?_
  try simp only [Act.put,List.getElem_toArray,List.getElem_cons_zero,List.getElem_cons_succ,List.setIfInBounds_toArray,List.set_cons_zero,List.set_cons_succ]
  refine wpAnyH_ready (rs:=[13]) (by kernel_rfl) (by simp) ?_
  refine AllReadyH.cons rfl (fun K hK => ?_) AllReadyH.nil
  rw [if_pos (by rfl)]
  have o0:w5.cell? ⟨X + 1 + 1,0,none⟩=some (.int .i64 0):=HO5.out.at0 0 _ rfl
  have o1:w5.cell? ⟨X + 1 + 1,1,none⟩=some (.int .i64 0):=HO5.out.at0 1 _ rfl
  have o2:w5.cell? ⟨X + 1 + 1,2,none⟩=some (.int .i64 0):=HO5.out.at0 2 _ rfl
  have o3:w5.cell? ⟨X + 1 + 1,3,none⟩=some (.int .i64 0):=HO5.out.at0 3 _ rfl
  have o4:w5.cell? ⟨X + 1 + 1,4,none⟩=some (.int .i64 0):=HO5.out.at0 4 _ rfl
  have o5:w5.cell? ⟨X + 1 + 1,5,none⟩=some (.int .i64 0):=HO5.out.at0 5 _ rfl
  have o6:w5.cell? ⟨X + 1 + 1,6,none⟩=some (.int .i64 0):=HO5.out.at0 6 _ rfl
  have fz:∀ o,w5.frozen? ⟨X + 1 + 1,o,none⟩=false:=HO5.out.frz
  go_simp
  have HH7:(fun w' => w'.cell? ⟨Z,0,none⟩=some (.int .i64 ((k:Int) + 1))∧w'.rangeAt N 0 (ndV x y)) (((((((w5.setCell ⟨X + 1 + 1,0,none⟩ (.int .i64 ((k:Int) + 1))).setCell ⟨X + 1 + 1,1,none⟩ (.int .i64 x.k)).setCell ⟨X + 1 + 1,2,none⟩ (.int .i64 x.mode)).setCell ⟨X + 1 + 1,3,none⟩ (.int .i64 x.ow)).setCell ⟨X + 1 + 1,4,none⟩ (.int .i64 x.gr)).setCell ⟨X + 1 + 1,5,none⟩ (.int .i64 x.li)).setCell ⟨X + 1 + 1,6,none⟩ (.int .i64 0)):=⟨((((((((HZ.out.below hbq).other (by have:=HZo.out; omega)).other (by have:=HZo.out; omega)).other (by have:=HZo.out; omega)).other (by have:=HZo.out; omega)).other (by have:=HZo.out; omega)).other (by have:=HZo.out; omega)).other (by have:=HZo.out; omega)).at0 0 _ rfl,((((((((HZn.out.below hbq).other (by have:=HZl.out; omega)).other (by have:=HZl.out; omega)).other (by have:=HZl.out; omega)).other (by have:=HZl.out; omega)).other (by have:=HZl.out; omega)).other (by have:=HZl.out; omega)).other (by have:=HZl.out; omega)).at0⟩
  refine hK.out _ _ HH7 (fun hHeld => ?_)
  clear hK K HH5 HH7 hHeld
  try simp only [Act.put,List.getElem_toArray,List.getElem_cons_zero,List.getElem_cons_succ,List.setIfInBounds_toArray,List.set_cons_zero,List.set_cons_succ]
  refine wpAnyH_done (by kernel_rfl) ?_ _
  go_wp2
  refine bodyPost_ret (v:=.agg #[.int .i64 ((k:Int) + 1),.int .i64 x.k,.int .i64 x.mode,.int .i64 x.ow,.int .i64 x.gr,.int .i64 x.li,.int .i64 0]) (by simp [results,Tryz.results21,go_sem,o0,o1,o2,o3,o4,o5,o6]) rfl ?_
  exact ⟨by rw [HE.out]; rfl,(bl_setT (bl_setT (bl_setT (bl_setT (bl_setT (bl_setT (bl_setT HB5.out (by have:=HXw.out; omega)) (by have:=HXw.out; omega)) (by have:=HXw.out; omega)) (by have:=HXw.out; omega)) (by have:=HXw.out; omega)) (by have:=HXw.out; omega)) (by have:=HXw.out; omega))⟩
end Go.Proofs.YtabfdidnjibdeaaGreatDoor
