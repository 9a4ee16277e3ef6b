/- Laid together: TrS7, TrG, TrN, PathM. -/
import Derived.Test.YtabfdidnjibdeaaGreatDoorBR16
import Derived.Test.YtabfdidnjibdeaaGreatDoorBR15
namespace Go.Proofs.YtabfdidnjibdeaaGreatDoor
open Go.RowKit Go.PlainAid
set_option linter.unusedVariables false
theorem sTime_any (n:Int)(w:World) :
    Calls Tryz.prog 62 #[.int .i64 n] w fun e w'=>e=.returned (.bool (inR 0 1000000 n))∧w'=w:=by
  go_enter Tryz.func62,Tryz.ntmps62
  go_wp2_with (go_at_call 87;refine (sIs_any _ _ _ _).mono ?_;rintro e w' ⟨rfl,rfl⟩)
  go_ret
  exact ⟨rfl,rfl⟩
theorem treeT_false {l:List Nd}{now:Int}{k n:Nat}(h:k<n)(hk:(if (ndAt l k).k==0 then (ndAt l k).zero else nodeB l now k)=false):treeT l now n=false:=by
  induction n with
  | zero=>omega
  | succ n ih =>
    by_cases e:k=n
    · subst e;simp only [treeT,hk,Bool.and_false]
    · simp only [treeT,ih (by omega),Bool.false_and]
theorem treeB_no {l:List Nd}{now:Int}{k:Nat}(h:k<l.length)(hk:(if (ndAt l k).k==0 then (ndAt l k).zero else nodeB l now k)=false):treeB l now=false:=by simp only [treeB,treeT_false h hk,Bool.and_false]
theorem treeB_short {l:List Nd}{now:Int}(h:l.length<1):treeB l now=false:=by
  have:¬ 1≤l.length:=by omega
  simp [treeB,this]
theorem treeB_long {l:List Nd}{now:Int}(h:12<l.length):treeB l now=false:=by
  have:¬ l.length≤12:=by omega
  simp [treeB,this]
theorem treeB_now {l:List Nd}{now:Int}(h:inR 0 1000000 now=false):treeB l now=false:=by simp [treeB,h]
theorem treeB_top {l:List Nd}{now:Int}(h:((ndAt l 0).k==1)=false):treeB l now=false:=by simp only [treeB,h,Bool.false_and,Bool.and_false]
theorem treeB_yes {l:List Nd}{now:Int}(h1:1≤l.length)(h2:l.length≤12)(h3:inR 0 1000000 now=true)(h4:((ndAt l 0).k==1)=true)(h5:treeT l now l.length=true):treeB l now=true:=by simp only [treeB,h1,h2,h3,h4,h5,decide_true,Bool.and_self]
theorem treeT_next {l:List Nd}{now:Int}{k:Nat}(h:treeT l now k=true)(hk:(if (ndAt l k).k==0 then (ndAt l k).zero else nodeB l now k)=true):treeT l now (k+1)=true:=by simp only [treeT,h,hk,Bool.and_self]
set_option maxHeartbeats 8000000 in
theorem sTree_any (a:Option Addr)(len cap:Nat)(l:List Nd)(now:Int)(hm:len≤9223372036854775807)(hf:∀ i,i<len→NdFit 1048576 (ndAt l i))(w:World)(hi:Nds a len l w) :
    Calls Tryz.prog 33 #[.agg #[.slice a len cap,.int .i64 now]] w fun e w'=>e=.returned (.bool (treeB l now))∧Below w.heap.size w w':=by
  have hll:=hi.1
  by_cases h1:len<1
  · have hno : Hid (treeB l now = false) := treeB_short (by omega)
    have h1':(len:Int)<1:=by omega
    have HB:Hid (Below w.heap.size w (w.alloc (.cells #[.slice a len cap,.int .i64 now] 35))):=bel_alloc _ _
    have HX:Hid (BoxR (w.alloc (.cells #[.slice a len cap,.int .i64 now] 35)) w.heap.size [.slice a len cap,.int .i64 now]):=boxR_new _ _ _
    go_enter Tryz.func33,Tryz.ntmps33
    go_upto_region 1 with fail
    generalize (w.alloc (.cells #[.slice a len cap,.int .i64 now] 35))=w0 at HB HX ⊢
    obtain ⟨X,hX⟩:∃ X,X=w.heap.size:=⟨_,rfl⟩
    rw [←hX] at HX ⊢
    clear hX
    have t0:w0.cell? ⟨X,0,none⟩=some (.slice a len cap):=HX.out.at0 0 _ rfl
    have t1:w0.cell? ⟨X,1,none⟩=some (.int .i64 now):=HX.out.at0 1 _ rfl
    go_wp2
    go_ret
    exact ⟨ret_boolW hno.out.symm,HB.out⟩
  have h1':decide ((len:Int)<1)=false:=by simp;omega
  by_cases h2:12<len
  · have hno : Hid (treeB l now = false) := treeB_long (by omega)
    have h2':(12:Int)<(len:Int):=by omega
    have HB:Hid (Below w.heap.size w (w.alloc (.cells #[.slice a len cap,.int .i64 now] 35))):=bel_alloc _ _
    have HX:Hid (BoxR (w.alloc (.cells #[.slice a len cap,.int .i64 now] 35)) w.heap.size [.slice a len cap,.int .i64 now]):=boxR_new _ _ _
    go_enter Tryz.func33,Tryz.ntmps33
    go_upto_region 1 with fail
    generalize (w.alloc (.cells #[.slice a len cap,.int .i64 now] 35))=w0 at HB HX ⊢
    obtain ⟨X,hX⟩:∃ X,X=w.heap.size:=⟨_,rfl⟩
    rw [←hX] at HX ⊢
    clear hX
    have t0:w0.cell? ⟨X,0,none⟩=some (.slice a len cap):=HX.out.at0 0 _ rfl
    have t1:w0.cell? ⟨X,1,none⟩=some (.int .i64 now):=HX.out.at0 1 _ rfl
    go_wp2
    go_ret
    exact ⟨ret_boolW hno.out.symm,HB.out⟩
  have h2':decide ((12:Int)<(len:Int))=false:=by simp;omega
  cases h3:inR 0 1000000 now
  · have hno : Hid (treeB l now = false) := treeB_now h3
    have HT:Hid (∀ w,Calls Tryz.prog 62 #[.int .i64 now] w fun e w'=>e=.returned (.bool false)∧w'=w):=(fun w=>by have h:=sTime_any now w;rwa [h3] at h)
    have HB:Hid (Below w.heap.size w (w.alloc (.cells #[.slice a len cap,.int .i64 now] 35))):=bel_alloc _ _
    have HX:Hid (BoxR (w.alloc (.cells #[.slice a len cap,.int .i64 now] 35)) w.heap.size [.slice a len cap,.int .i64 now]):=boxR_new _ _ _
    go_enter Tryz.func33,Tryz.ntmps33
    go_upto_region 1 with fail
    generalize (w.alloc (.cells #[.slice a len cap,.int .i64 now] 35))=w0 at HB HX ⊢
    obtain ⟨X,hX⟩:∃ X,X=w.heap.size:=⟨_,rfl⟩
    rw [←hX] at HX ⊢
    clear hX
    have t0:w0.cell? ⟨X,0,none⟩=some (.slice a len cap):=HX.out.at0 0 _ rfl
    have t1:w0.cell? ⟨X,1,none⟩=some (.int .i64 now):=HX.out.at0 1 _ rfl
    go_wp2_with (go_at_call 62;refine (HT.out _).mono ?_;rintro e w1 ⟨rfl,rfl⟩)
    go_ret
    exact ⟨ret_boolW hno.out.symm,HB.out⟩
  have HT:Hid (∀ w,Calls Tryz.prog 62 #[.int .i64 now] w fun e w'=>e=.returned (.bool true)∧w'=w):=(fun w=>by have h:=sTime_any now w;rwa [h3] at h)
  have HI:Hid (Nds a len l w):=hi
  have HF:Hid (∀ i,i<len→NdFit 1048576 (ndAt l i)):=hf
  have HL:Hid (l.length=len):=hll
  have H3:Hid (inR 0 1000000 now=true):=h3
  obtain ⟨b,off,Y,rfl,hb0,hc⟩:=hi.2 (by omega)
  have HN0:Hid (N24 w b (off+0*24) (ndAt l 0) (Y 0)):=(hc 0 (by omega)).1
  clear hc hi hf hll h3
  have hlen1:(0:Int)<(len:Int):=by omega
  cases h4:((ndAt l 0).k==1)
  · have hno : Hid (treeB l now = false) := treeB_top h4
    have h4':((ndAt l 0).k != 1)=true:=by rw [bne,h4];rfl
    have HB:Hid (Below w.heap.size w (w.alloc (.cells #[.slice (some ⟨b,off,none⟩) len cap,.int .i64 now] 35))):=bel_alloc _ _
    have HX:Hid (BoxR (w.alloc (.cells #[.slice (some ⟨b,off,none⟩) len cap,.int .i64 now] 35)) w.heap.size [.slice (some ⟨b,off,none⟩) len cap,.int .i64 now]):=boxR_new _ _ _
    go_enter Tryz.func33,Tryz.ntmps33
    go_upto_region 1 with fail
    generalize (w.alloc (.cells #[.slice (some ⟨b,off,none⟩) len cap,.int .i64 now] 35))=w0 at HB HX ⊢
    obtain ⟨X,hX⟩:∃ X,X=w.heap.size:=⟨_,rfl⟩
    rw [←hX] at HX ⊢
    clear hX
    have t0:w0.cell? ⟨X,0,none⟩=some (.slice (some ⟨b,off,none⟩) len cap):=HX.out.at0 0 _ rfl
    have t1:w0.cell? ⟨X,1,none⟩=some (.int .i64 now):=HX.out.at0 1 _ rfl
    have c0:=N24.c0 (range_below HN0.out hb0 HB.out)
    simp only [Nat.zero_mul,Nat.add_zero] at c0
    go_wp2_with (go_at_call 62;refine (HT.out _).mono ?_;rintro e w1 ⟨rfl,rfl⟩)
    go_ret
    exact ⟨ret_boolW hno.out.symm,HB.out⟩
  have H4:Hid (((ndAt l 0).k==1)=true):=h4
  have h4':((ndAt l 0).k != 1)=false:=by rw [bne,h4];rfl
  clear h4
  have HB:Hid (Below w.heap.size w (w.alloc (.cells #[.slice (some ⟨b,off,none⟩) len cap,.int .i64 now] 35))):=bel_alloc _ _
  have HX:Hid (BoxR (w.alloc (.cells #[.slice (some ⟨b,off,none⟩) len cap,.int .i64 now] 35)) w.heap.size [.slice (some ⟨b,off,none⟩) len cap,.int .i64 now]):=boxR_new _ _ _
  go_enter Tryz.func33,Tryz.ntmps33
  go_upto_region 1 with fail
  generalize (w.alloc (.cells #[.slice (some ⟨b,off,none⟩) len cap,.int .i64 now] 35))=w0 at HB HX ⊢
  obtain ⟨X,hX⟩:∃ X,X=w.heap.size:=⟨_,rfl⟩
  rw [←hX] at HX ⊢
  clear hX
  have t0:w0.cell? ⟨X,0,none⟩=some (.slice (some ⟨b,off,none⟩) len cap):=HX.out.at0 0 _ rfl
  have t1:w0.cell? ⟨X,1,none⟩=some (.int .i64 now):=HX.out.at0 1 _ rfl
  have c0:=N24.c0 (range_below HN0.out hb0 HB.out)
  simp only [Nat.zero_mul,Nat.add_zero] at c0
  go_wp2_with (go_at_call 62;refine (HT.out _).mono ?_;rintro e w1 ⟨rfl,rfl⟩)
  clear c0 t0 t1 h4' HN0
  go_loopw [3] (fun i wr=>∃ k:Nat,k≤len∧i=.int .i64 k∧Hid (treeT l now k=true)∧Hid (Below w.heap.size w wr)∧Hid (BoxR wr X [.slice (some ⟨b,off,none⟩) len cap,.int .i64 now])) (fun i _=>len-(intOf i).toNat)
  case atStart=>exact ⟨0,Nat.zero_le _,rfl,rfl,HB,HX⟩
  case round =>
    obtain ⟨k,hk,rfl,hto,hB,hX⟩:=hrel
    have t0:wr.cell? ⟨X,0,none⟩=some (.slice (some ⟨b,off,none⟩) len cap):=hX.out.at0 0 _ rfl
    have t1:wr.cell? ⟨X,1,none⟩=some (.int .i64 now):=hX.out.at0 1 _ rfl
    by_cases hlt:k<len
    · have hlt' : (k : Int) < (len : Int) := by omega
      have hk0:(0:Int)≤(k:Int):=by omega
      obtain ⟨b',off',Y',hbe,hb',hc⟩:=(HI.out.below hB.out).2 (by omega)
      simp only [Option.some.injEq,Addr.mk.injEq] at hbe
      obtain ⟨rfl,rfl,_⟩:=hbe
      have HN:Hid (N24 wr b (off+k*24) (ndAt l k) (Y' k)):=(hc k hlt).1
      have c0:=N24.c0 HN.out
      clear hc
      cases hz:((ndAt l k).k==0)
      · have HS : Hid (Calls Tryz.prog 64 #[.agg #[.slice (some ⟨b, off, none⟩) len cap, .int .i64 now], .int .i64 ((k : Int) + 1)] wr fun e w'' => e = .returned (.bool (nodeB l now k)) ∧ Below wr.heap.size wr w'') := sNode_any (some ⟨b, off, none⟩) len cap l now k (by omega) hlt HF.out wr (HI.out.below hB.out)
        cases hn:nodeB l now k
        · have hno : Hid (treeB l now = false) := treeB_no (k := k) (by rw [HL.out]; exact hlt) (by rw [hz, hn]; rfl)
          rw [hn] at HS
          go_wp2_with (go_at_call 64;refine (HS.out).mono ?_;rintro e w1 ⟨rfl,hb⟩;have HB1:Hid (Below w.heap.size w w1):=Below.on hB.out hb;clear hb)
          go_ret
          exact ⟨ret_boolW hno.out.symm,HB1.out⟩
        · have hyes : Hid (treeT l now (k + 1) = true) := treeT_next hto.out (by rw [hz, hn]; rfl)
          rw [hn] at HS
          go_wp2_with (go_at_call 64;refine (HS.out).mono ?_;rintro e w1 ⟨rfl,hb⟩;have HB1:Hid (Below w.heap.size w w1):=Below.on hB.out hb;have HX1:Hid (BoxR w1 X [.slice (some ⟨b,off,none⟩) len cap,.int .i64 now]):=hX.out.below hb;clear hb)
          go_roundw
          case rel=>exact ⟨k+1,by omega,by go_num,hyes,HB1,HX1⟩
          case measure=>simp [intOf];omega
      · have HS : Hid (Calls Tryz.prog 63 #[.agg (ndV (ndAt l k) (Y' k)).toArray] wr fun e w'' => e = .returned (.bool (ndAt l k).zero) ∧ Below wr.heap.size wr w'') := sZero_any _ _ _
        cases hn:(ndAt l k).zero
        · have hno : Hid (treeB l now = false) := treeB_no (k := k) (by rw [HL.out]; exact hlt) (by rw [hz, hn]; rfl)
          rw [hn] at HS
          go_wp2_with (first | (refine wpList_load_mid (by rfl) 84 _ (by rfl) _ _ (by rfl) _ _ HN.out Tryz.underlying84 rfl (by kernel_rfl) ?_) | (go_at_call 63;refine (HS.out).mono ?_;rintro e w1 ⟨rfl,hb⟩;have HB1:Hid (Below w.heap.size w w1):=Below.on hB.out hb;clear hb))
          go_ret
          exact ⟨ret_boolW hno.out.symm,HB1.out⟩
        · have hyes : Hid (treeT l now (k + 1) = true) := treeT_next hto.out (by rw [hz, hn]; rfl)
          rw [hn] at HS
          go_wp2_with (first | (refine wpList_load_mid (by rfl) 84 _ (by rfl) _ _ (by rfl) _ _ HN.out Tryz.underlying84 rfl (by kernel_rfl) ?_) | (go_at_call 63;refine (HS.out).mono ?_;rintro e w1 ⟨rfl,hb⟩;have HB1:Hid (Below w.heap.size w w1):=Below.on hB.out hb;have HX1:Hid (BoxR w1 X [.slice (some ⟨b,off,none⟩) len cap,.int .i64 now]):=hX.out.below hb;clear hb))
          go_roundw
          case rel=>exact ⟨k+1,by omega,by go_num,hyes,HB1,HX1⟩
          case measure=>simp [intOf];omega
    · have : k = len := by omega
      subst this
      have hyes:Hid (treeB l now=true):=treeB_yes (by rw [HL.out];omega) (by rw [HL.out];omega) H3.out H4.out (by rw [HL.out];exact hto.out)
      go_wp2
      go_ret
      exact ⟨ret_boolW hyes.out.symm,hB.out⟩
end Go.Proofs.YtabfdidnjibdeaaGreatDoor
namespace Go.Proofs.YtabfdidnjibdeaaGreatDoor
open Go.RowKit Go.PlainAid Go.Deep
set_option linter.unusedVariables false
theorem tree_len {l:List Nd}{now:Int}(h:treeB l now=true):l.length≤12:=by
  simp only [treeB,Bool.and_eq_true,decide_eq_true_eq] at h
  exact h.2.1
theorem tree_all {l:List Nd}{now:Int}(h:treeB l now=true):treeT l now l.length=true:=by
  simp only [treeB,Bool.and_eq_true,decide_eq_true_eq] at h
  exact h.2.2.2.2
theorem tree_one {l:List Nd}{now:Int}(h:treeB l now=true):1≤l.length:=by
  simp only [treeB,Bool.and_eq_true,decide_eq_true_eq] at h
  exact h.1
theorem treeT_node {l:List Nd}{now:Int}{k:Nat}(hk:((ndAt l k).k==0)=false):∀ n,treeT l now n=true→k<n→nodeB l now k=true
  | 0,_,h=>by omega
  | n+1,ht,h=>by
    simp only [treeT,Bool.and_eq_true] at ht
    by_cases e:k=n
    · subst e
      have h2:=ht.2
      simp only [hk,Bool.false_eq_true,if_false] at h2
      exact h2
    · exact treeT_node hk n ht.1 (by omega)
theorem node_is {l:List Nd}{now:Int}{k:Nat}(ht:treeB l now=true)(hth:thB l ((k:Int)+1)=true):nodeB l now k=true:=by
  have hn:=thB_num hth
  rw [thB_in hn] at hth
  have hin:=inR_iff.1 hn
  exact treeT_node (by simpa using hth) _ (tree_all ht) (by omega)
theorem node_facts {l:List Nd}{now:Int}{k:Nat}(h:nodeB l now k=true):(0≤(ndAt l k).ex∧(ndAt l k).ex≤7)∧aclB (ndAt l k).A.u (ndAt l k).A.g (ndAt l k).A.o (ndAt l k).A.us (ndAt l k).A.gs (ndAt l k).A.r (ndAt l k).A.m=true∧inR 0 9999 (ndAt l k).ow=true∧inR 0 9999 (ndAt l k).gr=true:=by
  simp only [nodeB,Bool.and_eq_true] at h
  exact ⟨inR_iff.1 h.2.2.1,h.2.2.2.1,h.1,h.2.1⟩
theorem dir_is {l:List Nd}{now:Int}{k:Nat}(ht:treeB l now=true)(hd:diB l ((k:Int)+1)=true):dirB l k=true:=by
  have h:=node_is ht (diB_th hd)
  have hk:=diB_in (diB_th hd)
  rw [hd] at hk
  simp only [nodeB,Bool.and_eq_true] at h
  have h2:=h.2.2.2.2.2.2.2
  simp only [kindB,←hk,if_true] at h2
  exact h2
structure DirF (l:List Nd) (k:Nat):Prop where
  ns:nsB l (ndAt l k).ns=true
  up:diB l (ndAt l k).up=true
  du:dirU l k (ndAt l k).up=true
theorem dir_facts {l:List Nd}{now:Int}{k:Nat}(ht:treeB l now=true)(hd:diB l ((k:Int)+1)=true):DirF l k:=by
  have h:=dir_is ht hd
  simp only [dirB,Bool.and_eq_true] at h
  exact ⟨h.2.2.2.2.1,h.2.2.2.2.2.1,h.2.2.2.2.2.2⟩
theorem nsB_T {l:List Nd}{ns:List (ByteArray × Int)}(h:nsB l ns=true):ns.length≤6∧nsT l ns ns.length=true:=by
  simp only [nsB,Bool.and_eq_true,decide_eq_true_eq] at h
  exact h
end Go.Proofs.YtabfdidnjibdeaaGreatDoor
