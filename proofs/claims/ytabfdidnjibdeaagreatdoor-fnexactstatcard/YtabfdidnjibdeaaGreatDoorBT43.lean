/- Laid together: WkI8, WkI9, ClA. -/
import Derived.Test.YtabfdidnjibdeaaGreatDoorBT42
import Derived.Test.YtabfdidnjibdeaaGreatDoorBT35
import Derived.Test.YtabfdidnjibdeaaGreatDoorBT13
import Derived.Test.YtabfdidnjibdeaaGreatDoorBT39
import Derived.Test.YtabfdidnjibdeaaGreatDoorBT36
/- impl.Walk. -/
namespace Go.Proofs.YtabfdidnjibdeaaGreatDoor
open Go.RowKit Go.PlainAid Go.Deep
set_option linter.unusedVariables false
theorem Errs.below {w w':World} {e1 e2 e3 e4:Addr} (h:Errs w e1 e2 e3 e4) (hb:Below w.heap.size w w'):Errs w' e1 e2 e3 e4:=by
  obtain ⟨c1,t1,b1⟩:=h.h1
  obtain ⟨c2,t2,b2⟩:=h.h2
  obtain ⟨c3,t3,b3⟩:=h.h3
  obtain ⟨c4,t4,b4⟩:=h.h4
  have k:∀ {i:Nat} {x},w.heap[i]?=some x→w'.heap[i]?=some x:=fun e => (hb.block _ (Array.getElem?_eq_some_iff.1 e).1).trans e
  exact ⟨(hb.cell (p:=⟨_,0,none⟩) (block_lt_of_cell h.v1)).trans h.v1,(hb.cell (p:=⟨_,0,none⟩) (block_lt_of_cell h.v2)).trans h.v2,(hb.cell (p:=⟨_,0,none⟩) (block_lt_of_cell h.v3)).trans h.v3,(hb.cell (p:=⟨_,0,none⟩) (block_lt_of_cell h.v4)).trans h.v4,⟨c1,t1,k b1⟩,⟨c2,t2,k b2⟩,⟨c3,t3,k b3⟩,⟨c4,t4,k b4⟩,h.n21,h.n31,h.n32,h.n41,h.n42,h.n43⟩
def CodesW (c:Int):Prop:=c=0∨c=12∨c=11∨c=6∨c=14
theorem went_code (l:List Nd) (fs:Bool) (s:Wy) (p:ByteArray) (ps:List ByteArray) (n:Int):CodesW (went l fs s p ps n).1:=by
  unfold went CodesW
  repeat' split
  all_goals simp
theorem wst_code (l:List Nd) (lt:Nat→Bool) (fs:Bool) (s:Wy) (p:ByteArray) (ps:List ByteArray):CodesW (wst l lt fs s p ps).1:=by
  unfold wst
  split
  · split
    · split
      · exact .inl rfl
      · split
        · exact .inl rfl
        · exact went_code _ _ _ _ _ _
    · exact .inr (.inr (.inl rfl))
  · exact .inr (.inl rfl)
theorem wrun_code {l:List Nd} {lt:Nat→Bool} {fs:Bool}:∀ (f:Nat) (s:Wy),CodesW (wrun l lt fs f s).1
  | 0,_ => .inl rfl
  | f + 1,s => by
    simp only [wrun]
    split
    · exact .inl rfl
    · split
      · exact wrun_code f _
      · exact wst_code _ _ _ _ _ _
theorem wend_code {l:List Nd} {sl:Bool} {q:Int × Wy} (h:CodesW q.1) (hz:(wend l sl q).c ≠ 0):(wend l sl q).c=12∨(wend l sl q).c=11∨(wend l sl q).c=6∨(wend l sl q).c=14:=by
  rcases h with h | h
  · have e : (q.1 == 0) = true := by rw [h]; rfl
    simp only [wend,e,if_true] at hz ⊢
    split at hz
    · rename_i h2
      simp only [h2,if_true]
      exact .inl rfl
    · exact absurd rfl hz
  · have e : (q.1 == 0) = false := by rcases h with h | h | h | h <;> rw [h] <;> rfl
    simp only [wend,e,Bool.false_eq_true,if_false]
    exact h
theorem wend_bad {l:List Nd} {sl:Bool} {q:Int × Wy} (hz:(wend l sl q).c ≠ 0):wend l sl q=woC (wend l sl q).c:=by
  unfold wend at hz ⊢
  split
  · rename_i h1
    rw [if_pos h1] at hz
    split
    · rfl
    · rename_i h2
      rw [if_neg h2] at hz
      exact absurd rfl hz
  · rfl
theorem eOf_at {EE:TypeId} (e1 e2 e3 e4:Addr) (c:Int):∃ a,eOf (.iface EE (.pointer (some e1))) (.iface EE (.pointer (some e2))) (.iface EE (.pointer (some e3))) (.iface EE (.pointer (some e4))) c=.iface EE (.pointer (some a)):=by
  unfold eOf
  repeat' split
  all_goals exact ⟨_,rfl⟩
set_option maxRecDepth 20000 in
set_option maxHeartbeats 16000000 in
/-- Walk of a right tree and a right Cred, its text no longer than may be. -/
theorem iWalk_ok (tb tf len cap:Nat) (l:List Nd) (Y:Nat→Na) (now:Int) (u g:Int) (ca:Option Addr) (cl cc:Nat) (r:Bool) (cf:Nat→Int) (s:ByteArray) (fo:Bool) (m:Int) (e1 e2 e3 e4:Addr) (hl:len≤12) (hll:l.length=len) (ht:treeB l now=true) (hcr:credB u g cl cf=true) (hf:∀ i,i < len→NdFit 1048576 (ndAt l i)) (hs:s.size≤8000) (w:World) (htb:tb < w.heap.size) (hN:∀ i,i < len→N24 w tb (tf + i * 24) (ndAt l i) (Y i)∧NdIn w (ndAt l i) (Y i)) (hi:Nds (some ⟨tb,tf,none⟩) len l w) (hci:Ints ca cl cf w) (hmx:w.cell? ⟨4,0,none⟩=some (.int .i64 m)) (hE:Errs w e1 e2 e3 e4) :
    Calls Tryz.prog 13 #[.agg #[.slice (some ⟨tb,tf,none⟩) len cap,.int .i64 now],.agg #[.int .i64 u,.int .i64 g,.slice ca cl cc,.bool r],.string s,.bool fo] w fun e w' => e=.returned (woV (wkO l (ltB l u g cl r cf) fo s))∧Below w.heap.size w w':=by
  have hmz:=block_lt_of_cell hmx
  have HT:Hid (∀ w',Below w.heap.size w w'→Calls Tryz.prog 38 #[.agg #[.slice (some ⟨tb,tf,none⟩) len cap,.int .i64 now]] w' fun e w'' => e=.returned (.bool true)∧Below w'.heap.size w' w''):=(fun w' hb => by
    have h:=iTree_any (some ⟨tb,tf,none⟩) len cap l now (by omega) hf w' (hi.below hb)
    rw [tree_same,ht] at h
    exact h)
  have HCr:Hid (∀ w',Below w.heap.size w w'→Calls Tryz.prog 39 #[.agg #[.int .i64 u,.int .i64 g,.slice ca cl cc,.bool r]] w' fun e w'' => e=.returned (.bool true)∧Below w'.heap.size w' w''):=(fun w' hb => by
    have h:=iCredRight_any u g ca cl cc r cf w' (hci.below hb)
    rw [hcr] at h
    exact h)
  have HPp:Hid (∀ w',Below w.heap.size w w'→Calls Tryz.prog 40 #[.string s] w' (PpEnd w' s)):=(fun w' hb => iPathParts_any s m (by omega) w' ((hb.cell (p:=⟨_,0,none⟩) hmz).trans hmx))
  have HCo:Hid (∀ (c:Int),(c=12∨c=11∨c=6∨c=14)→∀ w',Below w.heap.size w w'→Calls Tryz.prog 43 #[eOf (.iface 289 (.pointer (some e1))) (.iface 289 (.pointer (some e2))) (.iface 289 (.pointer (some e3))) (.iface 289 (.pointer (some e4))) c] w' fun e w'' => e=.returned (.int .i64 c)∧w''=w'):=(fun c hc w' hb => iCode_any e1 e2 e3 e4 c hc w' (hE.below hb))
  have HGo:Hid (ppC s=0→∀ (P:Nat) (qa:Option Addr) (qc:Nat) (th:Bool) (w':World),Below w.heap.size w w'→w.heap.size≤P→BoxW w' P [.slice (some ⟨tb,tf,none⟩) len cap,.int .i64 now,.int .i64 u,.int .i64 g,.slice ca cl cc,.bool r,.slice qa (pbo s).length qc,.bool (lasB s),.bool th,.int .i64 0,.int .i64 1,.int .i64 1,.string ⟨#[]⟩]→RowG w' P qa (pbo s)→(pbo s).length≤qc→Calls Tryz.prog 42 #[.pointer (some ⟨P,0,none⟩)] w' fun e w'' => GaEnd w' P tb tf len cap now u g ca cl cc r l (lasB s) th (wrun l (ltB l u g cl r cf) th (wmu (s0W s)) (s0W s)) e1 e2 e3 e4 e w''):=(fun hpp P qa qc th w' hb hP hbx hrow hqc => iGoAll_any w P tb tf len cap now u g ca cl cc r cf l Y s qa qc (lasB s) th m e1 e2 e3 e4 hl hll ht (fun k hk hth => ask_node (node_is ht hth) hcr rfl) hpp hE.v1 hE.v2 hE.v3 hE.v4 hmx htb hN hi hci w' hb hP hbx hrow hqc)
  have HB:Hid (Below w.heap.size w (((w.alloc (.cells #[.slice (some ⟨tb,tf,none⟩) len cap,.int .i64 now] 35)).alloc (.cells #[.int .i64 u,.int .i64 g,.slice ca cl cc,.bool r] 37)).alloc (.cells #[.int .i64 0,.int .i64 0,.string ⟨#[]⟩,.int .i64 0] 31))):=(((Below.refl _ _).alloc (Nat.le_refl _) _).alloc (by simp) _).alloc (by simp; omega) _
  have HX:Hid (BoxR (((w.alloc (.cells #[.slice (some ⟨tb,tf,none⟩) len cap,.int .i64 now] 35)).alloc (.cells #[.int .i64 u,.int .i64 g,.slice ca cl cc,.bool r] 37)).alloc (.cells #[.int .i64 0,.int .i64 0,.string ⟨#[]⟩,.int .i64 0] 31)) w.heap.size [.slice (some ⟨tb,tf,none⟩) len cap,.int .i64 now]):=((boxR_new w [.slice (some ⟨tb,tf,none⟩) len cap,.int .i64 now] 35).below (bel_alloc _ _)).below (bel_alloc _ _)
  have HC:Hid (BoxR (((w.alloc (.cells #[.slice (some ⟨tb,tf,none⟩) len cap,.int .i64 now] 35)).alloc (.cells #[.int .i64 u,.int .i64 g,.slice ca cl cc,.bool r] 37)).alloc (.cells #[.int .i64 0,.int .i64 0,.string ⟨#[]⟩,.int .i64 0] 31)) (w.heap.size + 1) [.int .i64 u,.int .i64 g,.slice ca cl cc,.bool r]):=(by
    have h:=(boxR_new (w.alloc (.cells #[.slice (some ⟨tb,tf,none⟩) len cap,.int .i64 now] 35)) [.int .i64 u,.int .i64 g,.slice ca cl cc,.bool r] 37).below (bel_alloc _ (.cells #[.int .i64 0,.int .i64 0,.string ⟨#[]⟩,.int .i64 0] 31))
    simp only [World.size_alloc] at h
    exact h)
  have HO:Hid (BoxW (((w.alloc (.cells #[.slice (some ⟨tb,tf,none⟩) len cap,.int .i64 now] 35)).alloc (.cells #[.int .i64 u,.int .i64 g,.slice ca cl cc,.bool r] 37)).alloc (.cells #[.int .i64 0,.int .i64 0,.string ⟨#[]⟩,.int .i64 0] 31)) (w.heap.size + 1 + 1) [.int .i64 0,.int .i64 0,.string ⟨#[]⟩,.int .i64 0]):=(by
    have h:=boxW_new ((w.alloc (.cells #[.slice (some ⟨tb,tf,none⟩) len cap,.int .i64 now] 35)).alloc (.cells #[.int .i64 u,.int .i64 g,.slice ca cl cc,.bool r] 37)) [.int .i64 0,.int .i64 0,.string ⟨#[]⟩,.int .i64 0] 31
    simp only [World.size_alloc] at h
    exact h)
  have h8':¬ (8000:Int) < (s.size:Int):=by omega
  clear hi hci hf hN htb ht hcr hE hmx hmz hl hll hs
  generalize hlt:ltB l u g cl r cf=lt at HGo ⊢
  clear hlt
  obtain ⟨F,HF⟩:∃ F,Hid (F=wkO l lt fo s):=⟨_,rfl⟩
  rw [← HF.out]
  go_enter Tryz.func13,Tryz.ntmps13
  go_upto_region 1 with fail
  generalize (((w.alloc (.cells #[.slice (some ⟨tb,tf,none⟩) len cap,.int .i64 now] 35)).alloc (.cells #[.int .i64 u,.int .i64 g,.slice ca cl cc,.bool r] 37)).alloc (.cells #[.int .i64 0,.int .i64 0,.string ⟨#[]⟩,.int .i64 0] 31))=w0 at HB HX HC HO ⊢
  obtain ⟨X,hX⟩:∃ X,X=w.heap.size:=⟨_,rfl⟩
  have HXw:Hid (X=w.heap.size):=hX
  rw [← hX] at HX HC HO ⊢
  clear hX
  have t0:w0.cell? ⟨X,0,none⟩=some (.slice (some ⟨tb,tf,none⟩) len cap):=HX.out.at0 0 _ rfl
  have t1:w0.cell? ⟨X,1,none⟩=some (.int .i64 now):=HX.out.at0 1 _ rfl
  have c0:w0.cell? ⟨X + 1,0,none⟩=some (.int .i64 u):=HC.out.at0 0 _ rfl
  have c1:w0.cell? ⟨X + 1,1,none⟩=some (.int .i64 g):=HC.out.at0 1 _ rfl
  have c2:w0.cell? ⟨X + 1,2,none⟩=some (.slice ca cl cc):=HC.out.at0 2 _ rfl
  have c3:w0.cell? ⟨X + 1,3,none⟩=some (.bool r):=HC.out.at0 3 _ rfl
  have o0:w0.cell? ⟨X + 1 + 1,0,none⟩=some (.int .i64 0):=HO.out.at0 0 _ rfl
  have o1:w0.cell? ⟨X + 1 + 1,1,none⟩=some (.int .i64 0):=HO.out.at0 1 _ rfl
  have o2:w0.cell? ⟨X + 1 + 1,2,none⟩=some (.string ⟨#[]⟩):=HO.out.at0 2 _ rfl
  have o3:w0.cell? ⟨X + 1 + 1,3,none⟩=some (.int .i64 0):=HO.out.at0 3 _ rfl
  have fz:∀ o,w0.frozen? ⟨X + 1 + 1,o,none⟩=false:=HO.out.frz
  go_upto_region 5 with (first
    | (go_at_call 38; refine (HT.out _ HB.out).mono ?_; rintro e w1 ⟨rfl,hb⟩; replace HB:Hid (Below w.heap.size w w1):=Below.on HB.out hb; replace HX:Hid (BoxR w1 X [.slice (some ⟨tb,tf,none⟩) len cap,.int .i64 now]):=HX.out.below hb; replace HC:Hid (BoxR w1 (X + 1) [.int .i64 u,.int .i64 g,.slice ca cl cc,.bool r]):=HC.out.below hb; replace HO:Hid (BoxW w1 (X + 1 + 1) [.int .i64 0,.int .i64 0,.string ⟨#[]⟩,.int .i64 0]):=HO.out.below hb; clear hb; replace t0:w1.cell? ⟨X,0,none⟩=some (.slice (some ⟨tb,tf,none⟩) len cap):=HX.out.at0 0 _ rfl; replace t1:w1.cell? ⟨X,1,none⟩=some (.int .i64 now):=HX.out.at0 1 _ rfl; replace c0:w1.cell? ⟨X + 1,0,none⟩=some (.int .i64 u):=HC.out.at0 0 _ rfl; replace c1:w1.cell? ⟨X + 1,1,none⟩=some (.int .i64 g):=HC.out.at0 1 _ rfl; replace c2:w1.cell? ⟨X + 1,2,none⟩=some (.slice ca cl cc):=HC.out.at0 2 _ rfl; replace c3:w1.cell? ⟨X + 1,3,none⟩=some (.bool r):=HC.out.at0 3 _ rfl; replace o0:w1.cell? ⟨X + 1 + 1,0,none⟩=some (.int .i64 0):=HO.out.at0 0 _ rfl; replace o1:w1.cell? ⟨X + 1 + 1,1,none⟩=some (.int .i64 0):=HO.out.at0 1 _ rfl; replace o2:w1.cell? ⟨X + 1 + 1,2,none⟩=some (.string ⟨#[]⟩):=HO.out.at0 2 _ rfl; replace o3:w1.cell? ⟨X + 1 + 1,3,none⟩=some (.int .i64 0):=HO.out.at0 3 _ rfl; replace fz:∀ o,w1.frozen? ⟨X + 1 + 1,o,none⟩=false:=HO.out.frz)
    | (go_at_call 39; refine (HCr.out _ HB.out).mono ?_; rintro e w1 ⟨rfl,hb⟩; replace HB:Hid (Below w.heap.size w w1):=Below.on HB.out hb; replace HX:Hid (BoxR w1 X [.slice (some ⟨tb,tf,none⟩) len cap,.int .i64 now]):=HX.out.below hb; replace HC:Hid (BoxR w1 (X + 1) [.int .i64 u,.int .i64 g,.slice ca cl cc,.bool r]):=HC.out.below hb; replace HO:Hid (BoxW w1 (X + 1 + 1) [.int .i64 0,.int .i64 0,.string ⟨#[]⟩,.int .i64 0]):=HO.out.below hb; clear hb; replace t0:w1.cell? ⟨X,0,none⟩=some (.slice (some ⟨tb,tf,none⟩) len cap):=HX.out.at0 0 _ rfl; replace t1:w1.cell? ⟨X,1,none⟩=some (.int .i64 now):=HX.out.at0 1 _ rfl; replace c0:w1.cell? ⟨X + 1,0,none⟩=some (.int .i64 u):=HC.out.at0 0 _ rfl; replace c1:w1.cell? ⟨X + 1,1,none⟩=some (.int .i64 g):=HC.out.at0 1 _ rfl; replace c2:w1.cell? ⟨X + 1,2,none⟩=some (.slice ca cl cc):=HC.out.at0 2 _ rfl; replace c3:w1.cell? ⟨X + 1,3,none⟩=some (.bool r):=HC.out.at0 3 _ rfl; replace o0:w1.cell? ⟨X + 1 + 1,0,none⟩=some (.int .i64 0):=HO.out.at0 0 _ rfl; replace o1:w1.cell? ⟨X + 1 + 1,1,none⟩=some (.int .i64 0):=HO.out.at0 1 _ rfl; replace o2:w1.cell? ⟨X + 1 + 1,2,none⟩=some (.string ⟨#[]⟩):=HO.out.at0 2 _ rfl; replace o3:w1.cell? ⟨X + 1 + 1,3,none⟩=some (.int .i64 0):=HO.out.at0 3 _ rfl; replace fz:∀ o,w1.frozen? ⟨X + 1 + 1,o,none⟩=false:=HO.out.frz))
  clear HT HCr h8'
  go_wp2_with fail
  refine (HPp.out _ HB.out).mono ?_
  intro e w2 he
  clear HPp t0 t1 c0 c1 c2 c3 o0 o1 o2 o3 fz
  rcases he with ⟨hc0,rfl,hb2⟩ | ⟨hc0,v,rfl,hv,hb2⟩
  · have HW : Hid (wkO l lt fo s = woC (ppC s)) := (by show _ = _; rw [wkO, if_neg hc0])
    have hcn:(ppC s == 0)=false:=by simpa using hc0
    have hcn2:(ppC s != 0)=true:=by rw [bne,hcn]; rfl
    generalize ppC s=pcc at HW hcn hcn2
    have hbQ:=bel_alloc w2 (.cells #[.slice none 0 0,.bool false,.int .i64 pcc] 66)
    have HQ3:Hid (BoxR (w2.alloc (.cells #[.slice none 0 0,.bool false,.int .i64 pcc] 66)) w2.heap.size [.slice none 0 0,.bool false,.int .i64 pcc]):=boxR_new _ _ _
    have HO3:Hid (BoxW (w2.alloc (.cells #[.slice none 0 0,.bool false,.int .i64 pcc] 66)) (X + 1 + 1) [.int .i64 0,.int .i64 0,.string ⟨#[]⟩,.int .i64 0]):=(HO.out.below hb2).below hbQ
    have HB3:Hid (Below w.heap.size w (w2.alloc (.cells #[.slice none 0 0,.bool false,.int .i64 pcc] 66))):=Below.on (Below.on HB.out hb2) hbQ
    clear hb2 hbQ HGo HCo HB HX HC HO
    go_upto_region 6 with fail
    generalize w2.alloc (.cells #[.slice none 0 0,.bool false,.int .i64 pcc] 66)=w3 at HQ3 HO3 HB3 ⊢
    generalize w2.heap.size=Q at HQ3 ⊢
    have q2:w3.cell? ⟨Q,2,none⟩=some (.int .i64 pcc):=HQ3.out.at0 2 _ rfl
    have o0:w3.cell? ⟨X + 1 + 1,0,none⟩=some (.int .i64 0):=HO3.out.at0 0 _ rfl
    have o1:w3.cell? ⟨X + 1 + 1,1,none⟩=some (.int .i64 0):=HO3.out.at0 1 _ rfl
    have o2:w3.cell? ⟨X + 1 + 1,2,none⟩=some (.string ⟨#[]⟩):=HO3.out.at0 2 _ rfl
    have o3:w3.cell? ⟨X + 1 + 1,3,none⟩=some (.int .i64 0):=HO3.out.at0 3 _ rfl
    have fz:∀ o,w3.frozen? ⟨X + 1 + 1,o,none⟩=false:=HO3.out.frz
    go_wp2
    refine bodyPost_ret (v:=.agg #[.int .i64 0,.int .i64 0,.string ⟨#[]⟩,.int .i64 pcc]) (by simp [results,Tryz.results13,go_sem,o0,o1,o2,o3]) rfl ?_
    exact ⟨by rw [HF.out,HW.out]; rfl,(by repeat (first | exact HB3.out | refine bl_setT ?_ (by have:=HXw.out; omega)))⟩
  · have HW : wkO l lt fo s = wend l (lasB s) (wrun l lt (fo || lasB s) (wmu (s0W s)) (s0W s)) := (by rw [wkO, if_pos hc0])
    obtain ⟨qa,qc,hvv,hqc,hrs⟩:=own_rowS (l:=pbo s) hv
    subst hvv
    have hgo:=HGo.out hc0
    have hql:(pbo s).length≤61:=by have h1:=pbo_len s; have h2:=ppC_zero hc0; omega
    replace HGo:Hid _:=hgo
    clear hgo hc0
    generalize lasB s=sl at HW HGo
    have hbQ:=bel_alloc w2 (.cells #[.slice qa (pbo s).length qc,.bool sl,.int .i64 0] 66)
    have HQ3:Hid (BoxR (w2.alloc (.cells #[.slice qa (pbo s).length qc,.bool sl,.int .i64 0] 66)) w2.heap.size [.slice qa (pbo s).length qc,.bool sl,.int .i64 0]):=boxR_new _ _ _
    have HO3:Hid (BoxW (w2.alloc (.cells #[.slice qa (pbo s).length qc,.bool sl,.int .i64 0] 66)) (X + 1 + 1) [.int .i64 0,.int .i64 0,.string ⟨#[]⟩,.int .i64 0]):=(HO.out.below hb2).below hbQ
    have HX3:Hid (BoxR (w2.alloc (.cells #[.slice qa (pbo s).length qc,.bool sl,.int .i64 0] 66)) X [.slice (some ⟨tb,tf,none⟩) len cap,.int .i64 now]):=(HX.out.below hb2).below hbQ
    have HC3:Hid (BoxR (w2.alloc (.cells #[.slice qa (pbo s).length qc,.bool sl,.int .i64 0] 66)) (X + 1) [.int .i64 u,.int .i64 g,.slice ca cl cc,.bool r]):=(HC.out.below hb2).below hbQ
    have HB3:Hid (Below w.heap.size w (w2.alloc (.cells #[.slice qa (pbo s).length qc,.bool sl,.int .i64 0] 66))):=Below.on (Below.on HB.out hb2) hbQ
    have HR3:Hid (RowS (w2.alloc (.cells #[.slice qa (pbo s).length qc,.bool sl,.int .i64 0] 66)) qa (pbo s)):=hrs.below hbQ
    have HQc:Hid ((pbo s).length≤qc):=hqc
    clear hv hb2 hbQ hrs hqc HB HX HC HO
    go_upto_region 6 with fail
    generalize w2.alloc (.cells #[.slice qa (pbo s).length qc,.bool sl,.int .i64 0] 66)=w3 at HQ3 HO3 HX3 HC3 HB3 HR3 ⊢
    generalize w2.heap.size=Q at HQ3 ⊢
    have q0:w3.cell? ⟨Q,0,none⟩=some (.slice qa (pbo s).length qc):=HQ3.out.at0 0 _ rfl
    have q1:w3.cell? ⟨Q,1,none⟩=some (.bool sl):=HQ3.out.at0 1 _ rfl
    have q2:w3.cell? ⟨Q,2,none⟩=some (.int .i64 0):=HQ3.out.at0 2 _ rfl
    have t0:w3.cell? ⟨X,0,none⟩=some (.slice (some ⟨tb,tf,none⟩) len cap):=HX3.out.at0 0 _ rfl
    have t1:w3.cell? ⟨X,1,none⟩=some (.int .i64 now):=HX3.out.at0 1 _ rfl
    have c0:w3.cell? ⟨X + 1,0,none⟩=some (.int .i64 u):=HC3.out.at0 0 _ rfl
    have c1:w3.cell? ⟨X + 1,1,none⟩=some (.int .i64 g):=HC3.out.at0 1 _ rfl
    have c2:w3.cell? ⟨X + 1,2,none⟩=some (.slice ca cl cc):=HC3.out.at0 2 _ rfl
    have c3:w3.cell? ⟨X + 1,3,none⟩=some (.bool r):=HC3.out.at0 3 _ rfl
    cases fo
    case false =>
      have hbP:=bel_alloc w3 (.cells #[.slice (some ⟨tb,tf,none⟩) len cap,.int .i64 now,.int .i64 u,.int .i64 g,.slice ca cl cc,.bool r,.slice qa (pbo s).length qc,.bool sl,.bool sl,.int .i64 0,.int .i64 0,.int .i64 0,.string ⟨#[]⟩] 69)
      have HP4:Hid (BoxW (w3.alloc (.cells #[.slice (some ⟨tb,tf,none⟩) len cap,.int .i64 now,.int .i64 u,.int .i64 g,.slice ca cl cc,.bool r,.slice qa (pbo s).length qc,.bool sl,.bool sl,.int .i64 0,.int .i64 0,.int .i64 0,.string ⟨#[]⟩] 69)) w3.heap.size [.slice (some ⟨tb,tf,none⟩) len cap,.int .i64 now,.int .i64 u,.int .i64 g,.slice ca cl cc,.bool r,.slice qa (pbo s).length qc,.bool sl,.bool sl,.int .i64 0,.int .i64 0,.int .i64 0,.string ⟨#[]⟩]):=boxW_new w3 [.slice (some ⟨tb,tf,none⟩) len cap,.int .i64 now,.int .i64 u,.int .i64 g,.slice ca cl cc,.bool r,.slice qa (pbo s).length qc,.bool sl,.bool sl,.int .i64 0,.int .i64 0,.int .i64 0,.string ⟨#[]⟩] 69
      have HR4:Hid (RowG (w3.alloc (.cells #[.slice (some ⟨tb,tf,none⟩) len cap,.int .i64 now,.int .i64 u,.int .i64 g,.slice ca cl cc,.bool r,.slice qa (pbo s).length qc,.bool sl,.bool sl,.int .i64 0,.int .i64 0,.int .i64 0,.string ⟨#[]⟩] 69)) w3.heap.size qa (pbo s)):=(fun h => by
        obtain ⟨b,hb,hlt,hcell⟩:=HR3.out h
        exact ⟨b,0,hb,by omega,RowB.below ⟨hlt,hcell⟩ hbP⟩)
      have HO4:Hid (BoxW (w3.alloc (.cells #[.slice (some ⟨tb,tf,none⟩) len cap,.int .i64 now,.int .i64 u,.int .i64 g,.slice ca cl cc,.bool r,.slice qa (pbo s).length qc,.bool sl,.bool sl,.int .i64 0,.int .i64 0,.int .i64 0,.string ⟨#[]⟩] 69)) (X + 1 + 1) [.int .i64 0,.int .i64 0,.string ⟨#[]⟩,.int .i64 0]):=HO3.out.below hbP
      have HB4:Hid (Below w.heap.size w (w3.alloc (.cells #[.slice (some ⟨tb,tf,none⟩) len cap,.int .i64 now,.int .i64 u,.int .i64 g,.slice ca cl cc,.bool r,.slice qa (pbo s).length qc,.bool sl,.bool sl,.int .i64 0,.int .i64 0,.int .i64 0,.string ⟨#[]⟩] 69))):=Below.on HB3.out hbP
      have HPX:Hid (X + 1 + 1 < w3.heap.size∧w.heap.size≤w3.heap.size):=⟨HO3.out.lt,HB3.out.size⟩
      clear hbP
      go_upto_region 9 with fail
      generalize w3.alloc (.cells #[.slice (some ⟨tb,tf,none⟩) len cap,.int .i64 now,.int .i64 u,.int .i64 g,.slice ca cl cc,.bool r,.slice qa (pbo s).length qc,.bool sl,.bool sl,.int .i64 0,.int .i64 0,.int .i64 0,.string ⟨#[]⟩] 69)=w4 at HP4 HR4 HO4 HB4 ⊢
      generalize w3.heap.size=P at HP4 HR4 HPX ⊢
      clear q0 q1 q2 t0 t1 c0 c1 c2 c3 HQ3 HO3 HX3 HC3 HB3 HR3
      go_wp2_with fail
      refine (iStand_any P tb tf len cap now u g ca cl cc r qa (pbo s).length qc sl sl 0 0 0 ⟨#[]⟩ 1 w4 HP4.out).mono ?_
      rintro e w5 ⟨rfl,hbx,hbu⟩
      have HP5:Hid (BoxW w5 P [.slice (some ⟨tb,tf,none⟩) len cap,.int .i64 now,.int .i64 u,.int .i64 g,.slice ca cl cc,.bool r,.slice qa (pbo s).length qc,.bool sl,.bool sl,.int .i64 0,.int .i64 1,.int .i64 1,.string ⟨#[]⟩]):=hbx
      have HB5:Hid (Below w.heap.size w w5):=HB4.out.trans (hbu.below _ HB4.out.size (fun A e => by cases e; exact HPX.out.2))
      have HO5:Hid (BoxW w5 (X + 1 + 1) [.int .i64 0,.int .i64 0,.string ⟨#[]⟩,.int .i64 0]):=HO4.out.butS hbu (fun A e => by cases e; have:=HPX.out.1; show X + 1 + 1 ≠ P; omega)
      have HR5:Hid (RowG w5 P qa (pbo s)):=HR4.out.but hbu
      clear hbx hbu HP4 HB4 HO4 HR4
      have HC5:Hid _:=HGo.out P qa qc sl w5 HB5.out HPX.out.2 HP5.out HR5.out HQc.out
      clear HGo HP5 HR5
      go_wp2_with fail
      refine Calls.mono HC5.out ?_
      rintro e w6 hG
      have HB6:Hid (Below w.heap.size w w6):=HB5.out.trans (hG.but.below _ HB5.out.size (fun A e => by cases e; exact HPX.out.2))
      have HO6:Hid (BoxW w6 (X + 1 + 1) [.int .i64 0,.int .i64 0,.string ⟨#[]⟩,.int .i64 0]):=HO5.out.butS hG.but (fun A e => by cases e; have:=HPX.out.1; show X + 1 + 1 ≠ P; omega)
      clear HB5 HO5 HC5
      have HQ:Hid (CodesW (wrun l lt sl (wmu (s0W s)) (s0W s)).1):=wrun_code _ _
      have HW2:wkO l lt false s=wend l sl (wrun l lt sl (wmu (s0W s)) (s0W s)):=HW
      clear HW
      have HW:=HW2
      clear HW2
      generalize wrun l lt sl (wmu (s0W s)) (s0W s)=q at HW hG HQ
      have o0:w6.cell? ⟨X + 1 + 1,0,none⟩=some (.int .i64 0):=HO6.out.at0 0 _ rfl
      have o1:w6.cell? ⟨X + 1 + 1,1,none⟩=some (.int .i64 0):=HO6.out.at0 1 _ rfl
      have o2:w6.cell? ⟨X + 1 + 1,2,none⟩=some (.string ⟨#[]⟩):=HO6.out.at0 2 _ rfl
      have o3:w6.cell? ⟨X + 1 + 1,3,none⟩=some (.int .i64 0):=HO6.out.at0 3 _ rfl
      have fz:=HO6.out.frz
      by_cases hz:(wend l sl q).c=0
      · obtain ⟨rfl, pa', n', pc', lk', hbx⟩ := hG.good hz
        have p10:=hbx.at0 10 _ rfl
        have p11:=hbx.at0 11 _ rfl
        have p12:=hbx.at0 12 _ rfl
        clear hbx hG HQ
        generalize wend l sl q=oq at HW hz p10 p11 p12
        go_wp2
        refine bodyPost_ret (v:=.agg #[.int .i64 oq.n,.int .i64 oq.d,.string oq.nm,.int .i64 0]) (by simp [results,Tryz.results13,go_sem,o0,o1,o2,o3]) rfl ?_
        exact ⟨by rw [HF.out,HW,woV,hz],(by repeat (first | exact HB6.out | refine bl_setT ?_ (by have:=HXw.out; omega)))⟩
      · have hwb := wend_bad hz
        have he:=hG.bad hz
        have hcs:=wend_code HQ.out hz
        rw [hwb] at HW
        generalize (wend l sl q).c=c at he hcs HW hz
        subst he
        have HK:Hid _:=HCo.out c hcs w6 HB6.out
        obtain ⟨ae,hae⟩:=eOf_at (EE:=289) e1 e2 e3 e4 c
        rw [hae] at HK ⊢
        clear hG HQ hwb hae HCo
        go_wp2_with fail
        refine Calls.mono HK.out ?_
        rintro e w7 ⟨rfl,hw⟩
        have hw2:=hw.symm
        clear hw
        subst hw2
        go_wp2
        refine bodyPost_ret (v:=.agg #[.int .i64 0,.int .i64 0,.string ⟨#[]⟩,.int .i64 c]) (by simp [results,Tryz.results13,go_sem,o0,o1,o2,o3]) rfl ?_
        exact ⟨by rw [HF.out,HW]; rfl,(by repeat (first | exact HB6.out | refine bl_setT ?_ (by have:=HXw.out; omega)))⟩
    case true =>
      have hbP:=bel_alloc w3 (.cells #[.slice (some ⟨tb,tf,none⟩) len cap,.int .i64 now,.int .i64 u,.int .i64 g,.slice ca cl cc,.bool r,.slice qa (pbo s).length qc,.bool sl,.bool true,.int .i64 0,.int .i64 0,.int .i64 0,.string ⟨#[]⟩] 69)
      have HP4:Hid (BoxW (w3.alloc (.cells #[.slice (some ⟨tb,tf,none⟩) len cap,.int .i64 now,.int .i64 u,.int .i64 g,.slice ca cl cc,.bool r,.slice qa (pbo s).length qc,.bool sl,.bool true,.int .i64 0,.int .i64 0,.int .i64 0,.string ⟨#[]⟩] 69)) w3.heap.size [.slice (some ⟨tb,tf,none⟩) len cap,.int .i64 now,.int .i64 u,.int .i64 g,.slice ca cl cc,.bool r,.slice qa (pbo s).length qc,.bool sl,.bool true,.int .i64 0,.int .i64 0,.int .i64 0,.string ⟨#[]⟩]):=boxW_new w3 [.slice (some ⟨tb,tf,none⟩) len cap,.int .i64 now,.int .i64 u,.int .i64 g,.slice ca cl cc,.bool r,.slice qa (pbo s).length qc,.bool sl,.bool true,.int .i64 0,.int .i64 0,.int .i64 0,.string ⟨#[]⟩] 69
      have HR4:Hid (RowG (w3.alloc (.cells #[.slice (some ⟨tb,tf,none⟩) len cap,.int .i64 now,.int .i64 u,.int .i64 g,.slice ca cl cc,.bool r,.slice qa (pbo s).length qc,.bool sl,.bool true,.int .i64 0,.int .i64 0,.int .i64 0,.string ⟨#[]⟩] 69)) w3.heap.size qa (pbo s)):=(fun h => by
        obtain ⟨b,hb,hlt,hcell⟩:=HR3.out h
        exact ⟨b,0,hb,by omega,RowB.below ⟨hlt,hcell⟩ hbP⟩)
      have HO4:Hid (BoxW (w3.alloc (.cells #[.slice (some ⟨tb,tf,none⟩) len cap,.int .i64 now,.int .i64 u,.int .i64 g,.slice ca cl cc,.bool r,.slice qa (pbo s).length qc,.bool sl,.bool true,.int .i64 0,.int .i64 0,.int .i64 0,.string ⟨#[]⟩] 69)) (X + 1 + 1) [.int .i64 0,.int .i64 0,.string ⟨#[]⟩,.int .i64 0]):=HO3.out.below hbP
      have HB4:Hid (Below w.heap.size w (w3.alloc (.cells #[.slice (some ⟨tb,tf,none⟩) len cap,.int .i64 now,.int .i64 u,.int .i64 g,.slice ca cl cc,.bool r,.slice qa (pbo s).length qc,.bool sl,.bool true,.int .i64 0,.int .i64 0,.int .i64 0,.string ⟨#[]⟩] 69))):=Below.on HB3.out hbP
      have HPX:Hid (X + 1 + 1 < w3.heap.size∧w.heap.size≤w3.heap.size):=⟨HO3.out.lt,HB3.out.size⟩
      clear hbP
      go_upto_region 9 with fail
      generalize w3.alloc (.cells #[.slice (some ⟨tb,tf,none⟩) len cap,.int .i64 now,.int .i64 u,.int .i64 g,.slice ca cl cc,.bool r,.slice qa (pbo s).length qc,.bool sl,.bool true,.int .i64 0,.int .i64 0,.int .i64 0,.string ⟨#[]⟩] 69)=w4 at HP4 HR4 HO4 HB4 ⊢
      generalize w3.heap.size=P at HP4 HR4 HPX ⊢
      clear q0 q1 q2 t0 t1 c0 c1 c2 c3 HQ3 HO3 HX3 HC3 HB3 HR3
      go_wp2_with fail
      refine (iStand_any P tb tf len cap now u g ca cl cc r qa (pbo s).length qc sl true 0 0 0 ⟨#[]⟩ 1 w4 HP4.out).mono ?_
      rintro e w5 ⟨rfl,hbx,hbu⟩
      have HP5:Hid (BoxW w5 P [.slice (some ⟨tb,tf,none⟩) len cap,.int .i64 now,.int .i64 u,.int .i64 g,.slice ca cl cc,.bool r,.slice qa (pbo s).length qc,.bool sl,.bool true,.int .i64 0,.int .i64 1,.int .i64 1,.string ⟨#[]⟩]):=hbx
      have HB5:Hid (Below w.heap.size w w5):=HB4.out.trans (hbu.below _ HB4.out.size (fun A e => by cases e; exact HPX.out.2))
      have HO5:Hid (BoxW w5 (X + 1 + 1) [.int .i64 0,.int .i64 0,.string ⟨#[]⟩,.int .i64 0]):=HO4.out.butS hbu (fun A e => by cases e; have:=HPX.out.1; show X + 1 + 1 ≠ P; omega)
      have HR5:Hid (RowG w5 P qa (pbo s)):=HR4.out.but hbu
      clear hbx hbu HP4 HB4 HO4 HR4
      have HC5:Hid _:=HGo.out P qa qc true w5 HB5.out HPX.out.2 HP5.out HR5.out HQc.out
      clear HGo HP5 HR5
      go_wp2_with fail
      refine Calls.mono HC5.out ?_
      rintro e w6 hG
      have HB6:Hid (Below w.heap.size w w6):=HB5.out.trans (hG.but.below _ HB5.out.size (fun A e => by cases e; exact HPX.out.2))
      have HO6:Hid (BoxW w6 (X + 1 + 1) [.int .i64 0,.int .i64 0,.string ⟨#[]⟩,.int .i64 0]):=HO5.out.butS hG.but (fun A e => by cases e; have:=HPX.out.1; show X + 1 + 1 ≠ P; omega)
      clear HB5 HO5 HC5
      have HQ:Hid (CodesW (wrun l lt true (wmu (s0W s)) (s0W s)).1):=wrun_code _ _
      have HW2:wkO l lt true s=wend l sl (wrun l lt true (wmu (s0W s)) (s0W s)):=HW
      clear HW
      have HW:=HW2
      clear HW2
      generalize wrun l lt true (wmu (s0W s)) (s0W s)=q at HW hG HQ
      have o0:w6.cell? ⟨X + 1 + 1,0,none⟩=some (.int .i64 0):=HO6.out.at0 0 _ rfl
      have o1:w6.cell? ⟨X + 1 + 1,1,none⟩=some (.int .i64 0):=HO6.out.at0 1 _ rfl
      have o2:w6.cell? ⟨X + 1 + 1,2,none⟩=some (.string ⟨#[]⟩):=HO6.out.at0 2 _ rfl
      have o3:w6.cell? ⟨X + 1 + 1,3,none⟩=some (.int .i64 0):=HO6.out.at0 3 _ rfl
      have fz:=HO6.out.frz
      by_cases hz:(wend l sl q).c=0
      · obtain ⟨rfl, pa', n', pc', lk', hbx⟩ := hG.good hz
        have p10:=hbx.at0 10 _ rfl
        have p11:=hbx.at0 11 _ rfl
        have p12:=hbx.at0 12 _ rfl
        clear hbx hG HQ
        generalize wend l sl q=oq at HW hz p10 p11 p12
        go_wp2
        refine bodyPost_ret (v:=.agg #[.int .i64 oq.n,.int .i64 oq.d,.string oq.nm,.int .i64 0]) (by simp [results,Tryz.results13,go_sem,o0,o1,o2,o3]) rfl ?_
        exact ⟨by rw [HF.out,HW,woV,hz],(by repeat (first | exact HB6.out | refine bl_setT ?_ (by have:=HXw.out; omega)))⟩
      · have hwb := wend_bad hz
        have he:=hG.bad hz
        have hcs:=wend_code HQ.out hz
        rw [hwb] at HW
        generalize (wend l sl q).c=c at he hcs HW hz
        subst he
        have HK:Hid _:=HCo.out c hcs w6 HB6.out
        obtain ⟨ae,hae⟩:=eOf_at (EE:=289) e1 e2 e3 e4 c
        rw [hae] at HK ⊢
        clear hG HQ hwb hae HCo
        go_wp2_with fail
        refine Calls.mono HK.out ?_
        rintro e w7 ⟨rfl,hw⟩
        have hw2:=hw.symm
        clear hw
        subst hw2
        go_wp2
        refine bodyPost_ret (v:=.agg #[.int .i64 0,.int .i64 0,.string ⟨#[]⟩,.int .i64 c]) (by simp [results,Tryz.results13,go_sem,o0,o1,o2,o3]) rfl ?_
        exact ⟨by rw [HF.out,HW]; rfl,(by repeat (first | exact HB6.out | refine bl_setT ?_ (by have:=HXw.out; omega)))⟩
end Go.Proofs.YtabfdidnjibdeaaGreatDoor
/- impl.Walk of whatever is handed in. -/
namespace Go.Proofs.YtabfdidnjibdeaaGreatDoor
open Go.RowKit Go.PlainAid Go.Deep
set_option linter.unusedVariables false
set_option maxRecDepth 20000 in
set_option maxHeartbeats 16000000 in
theorem iWalk_any (a:Option Addr) (len cap:Nat) (l:List Nd) (now:Int) (u g:Int) (ca:Option Addr) (cl cc:Nat) (r:Bool) (cf:Nat→Int) (s:ByteArray) (fo:Bool) (m:Int) (e1 e2 e3 e4:Addr) (hm:len≤9223372036854775807) (hf:∀ i,i < len→NdFit 1048576 (ndAt l i)) (hs:s.size≤1048576) (w:World) (hi:Nds a len l w) (hci:Ints ca cl cf w) (hmx:w.cell? ⟨4,0,none⟩=some (.int .i64 m)) (hE:Errs w e1 e2 e3 e4) :
    Calls Tryz.prog 13 #[.agg #[.slice a len cap,.int .i64 now],.agg #[.int .i64 u,.int .i64 g,.slice ca cl cc,.bool r],.string s,.bool fo] w fun e w' => e=.returned (woV (wkF l now u g cl r cf s fo))∧Below w.heap.size w w':=by
  by_cases hok:¬ 8000 < s.size∧treeB l now=true∧credB u g cl cf=true
  · obtain ⟨h8, ht, hcr⟩ := hok
    have hll:=hi.1
    have h12:len≤12:=by rw [← hll]; exact tree_len ht
    have h1:1≤len:=by rw [← hll]; exact tree_one ht
    have hi0:=hi
    obtain ⟨tb,tf,Y,rfl,htb,hc⟩:=hi.2 (by omega)
    have h:=iWalk_ok tb tf len cap l Y now u g ca cl cc r cf s fo m e1 e2 e3 e4 h12 hll ht hcr hf (by omega) w htb hc hi0 hci hmx hE
    have e:wkF l now u g cl r cf s fo=wkO l (ltB l u g cl r cf) fo s:=by rw [wkF,if_neg h8,ht,hcr]; rfl
    rw [e]
    exact h
  have HT:Hid (∀ w',Below w.heap.size w w'→Calls Tryz.prog 38 #[.agg #[.slice a len cap,.int .i64 now]] w' fun e w'' => e=.returned (.bool (treeB l now))∧Below w'.heap.size w' w''):=(fun w' hb => by
    have h:=iTree_any a len cap l now hm hf w' (hi.below hb)
    rw [tree_same] at h
    exact h)
  have HCr:Hid (∀ w',Below w.heap.size w w'→Calls Tryz.prog 39 #[.agg #[.int .i64 u,.int .i64 g,.slice ca cl cc,.bool r]] w' fun e w'' => e=.returned (.bool (credB u g cl cf))∧Below w'.heap.size w' w''):=(fun w' hb => iCredRight_any u g ca cl cc r cf w' (hci.below hb))
  have HB:Hid (Below w.heap.size w (((w.alloc (.cells #[.slice a len cap,.int .i64 now] 35)).alloc (.cells #[.int .i64 u,.int .i64 g,.slice ca cl cc,.bool r] 37)).alloc (.cells #[.int .i64 0,.int .i64 0,.string ⟨#[]⟩,.int .i64 0] 31))):=(((Below.refl _ _).alloc (Nat.le_refl _) _).alloc (by simp) _).alloc (by simp; omega) _
  have HX:Hid (BoxR (((w.alloc (.cells #[.slice a len cap,.int .i64 now] 35)).alloc (.cells #[.int .i64 u,.int .i64 g,.slice ca cl cc,.bool r] 37)).alloc (.cells #[.int .i64 0,.int .i64 0,.string ⟨#[]⟩,.int .i64 0] 31)) w.heap.size [.slice a len cap,.int .i64 now]):=((boxR_new w [.slice a len cap,.int .i64 now] 35).below (bel_alloc _ _)).below (bel_alloc _ _)
  have HC:Hid (BoxR (((w.alloc (.cells #[.slice a len cap,.int .i64 now] 35)).alloc (.cells #[.int .i64 u,.int .i64 g,.slice ca cl cc,.bool r] 37)).alloc (.cells #[.int .i64 0,.int .i64 0,.string ⟨#[]⟩,.int .i64 0] 31)) (w.heap.size + 1) [.int .i64 u,.int .i64 g,.slice ca cl cc,.bool r]):=(by
    have h:=(boxR_new (w.alloc (.cells #[.slice a len cap,.int .i64 now] 35)) [.int .i64 u,.int .i64 g,.slice ca cl cc,.bool r] 37).below (bel_alloc _ (.cells #[.int .i64 0,.int .i64 0,.string ⟨#[]⟩,.int .i64 0] 31))
    simp only [World.size_alloc] at h
    exact h)
  have HO:Hid (BoxW (((w.alloc (.cells #[.slice a len cap,.int .i64 now] 35)).alloc (.cells #[.int .i64 u,.int .i64 g,.slice ca cl cc,.bool r] 37)).alloc (.cells #[.int .i64 0,.int .i64 0,.string ⟨#[]⟩,.int .i64 0] 31)) (w.heap.size + 1 + 1) [.int .i64 0,.int .i64 0,.string ⟨#[]⟩,.int .i64 0]):=(by
    have h:=boxW_new ((w.alloc (.cells #[.slice a len cap,.int .i64 now] 35)).alloc (.cells #[.int .i64 u,.int .i64 g,.slice ca cl cc,.bool r] 37)) [.int .i64 0,.int .i64 0,.string ⟨#[]⟩,.int .i64 0] 31
    simp only [World.size_alloc] at h
    exact h)
  have HW:Hid (wkF l now u g cl r cf s fo=if 8000 < s.size then woC 2 else if treeB l now && credB u g cl cf then wkO l (ltB l u g cl r cf) fo s else woC 1):=rfl
  clear hi hci hf hmx hE
  generalize wkF l now u g cl r cf s fo=F at HW ⊢
  generalize wkO l (ltB l u g cl r cf) fo s=O at HW
  go_enter Tryz.func13,Tryz.ntmps13
  go_upto_region 1 with fail
  generalize (((w.alloc (.cells #[.slice a len cap,.int .i64 now] 35)).alloc (.cells #[.int .i64 u,.int .i64 g,.slice ca cl cc,.bool r] 37)).alloc (.cells #[.int .i64 0,.int .i64 0,.string ⟨#[]⟩,.int .i64 0] 31))=w0 at HB HX HC HO ⊢
  obtain ⟨X,hX⟩:∃ X,X=w.heap.size:=⟨_,rfl⟩
  have HXw:Hid (X=w.heap.size):=hX
  rw [← hX] at HX HC HO ⊢
  clear hX
  have t0:w0.cell? ⟨X,0,none⟩=some (.slice a len cap):=HX.out.at0 0 _ rfl
  have t1:w0.cell? ⟨X,1,none⟩=some (.int .i64 now):=HX.out.at0 1 _ rfl
  have c0:w0.cell? ⟨X + 1,0,none⟩=some (.int .i64 u):=HC.out.at0 0 _ rfl
  have c1:w0.cell? ⟨X + 1,1,none⟩=some (.int .i64 g):=HC.out.at0 1 _ rfl
  have c2:w0.cell? ⟨X + 1,2,none⟩=some (.slice ca cl cc):=HC.out.at0 2 _ rfl
  have c3:w0.cell? ⟨X + 1,3,none⟩=some (.bool r):=HC.out.at0 3 _ rfl
  have o0:w0.cell? ⟨X + 1 + 1,0,none⟩=some (.int .i64 0):=HO.out.at0 0 _ rfl
  have o1:w0.cell? ⟨X + 1 + 1,1,none⟩=some (.int .i64 0):=HO.out.at0 1 _ rfl
  have o2:w0.cell? ⟨X + 1 + 1,2,none⟩=some (.string ⟨#[]⟩):=HO.out.at0 2 _ rfl
  have o3:w0.cell? ⟨X + 1 + 1,3,none⟩=some (.int .i64 0):=HO.out.at0 3 _ rfl
  have fz:∀ o,w0.frozen? ⟨X + 1 + 1,o,none⟩=false:=HO.out.frz
  by_cases h8:8000 < s.size
  · have HF : Hid (F = woC 2) := (by show _ = _; rw [HW.out, if_pos h8])
    have h8':(8000:Int) < (s.size:Int):=by omega
    go_wp2
    refine bodyPost_ret (v:=.agg #[.int .i64 0,.int .i64 0,.string ⟨#[]⟩,.int .i64 2]) (by simp [results,Tryz.results13,go_sem,o0,o1,o2,o3]) rfl ?_
    exact ⟨by rw [HF.out]; rfl,(by repeat (first | exact HB.out | refine bl_setT ?_ (by have:=HXw.out; omega)))⟩
  have h8':¬ (8000:Int) < (s.size:Int):=by omega
  rw [if_neg h8] at HW
  cases ht:treeB l now
  · have HF : Hid (F = woC 1) := (by show _ = _; rw [HW.out, ht]; rfl)
    rw [ht] at HT
    clear HW h8 hok
    go_wp2_with (go_at_call 38; refine (HT.out _ HB.out).mono ?_; rintro e w1 ⟨rfl,hb⟩; replace HB:Hid (Below w.heap.size w w1):=Below.on HB.out hb; replace HX:Hid (BoxR w1 X [.slice a len cap,.int .i64 now]):=HX.out.below hb; replace HC:Hid (BoxR w1 (X + 1) [.int .i64 u,.int .i64 g,.slice ca cl cc,.bool r]):=HC.out.below hb; replace HO:Hid (BoxW w1 (X + 1 + 1) [.int .i64 0,.int .i64 0,.string ⟨#[]⟩,.int .i64 0]):=HO.out.below hb; clear hb; replace t0:w1.cell? ⟨X,0,none⟩=some (.slice a len cap):=HX.out.at0 0 _ rfl; replace t1:w1.cell? ⟨X,1,none⟩=some (.int .i64 now):=HX.out.at0 1 _ rfl; replace c0:w1.cell? ⟨X + 1,0,none⟩=some (.int .i64 u):=HC.out.at0 0 _ rfl; replace c1:w1.cell? ⟨X + 1,1,none⟩=some (.int .i64 g):=HC.out.at0 1 _ rfl; replace c2:w1.cell? ⟨X + 1,2,none⟩=some (.slice ca cl cc):=HC.out.at0 2 _ rfl; replace c3:w1.cell? ⟨X + 1,3,none⟩=some (.bool r):=HC.out.at0 3 _ rfl; replace o0:w1.cell? ⟨X + 1 + 1,0,none⟩=some (.int .i64 0):=HO.out.at0 0 _ rfl; replace o1:w1.cell? ⟨X + 1 + 1,1,none⟩=some (.int .i64 0):=HO.out.at0 1 _ rfl; replace o2:w1.cell? ⟨X + 1 + 1,2,none⟩=some (.string ⟨#[]⟩):=HO.out.at0 2 _ rfl; replace o3:w1.cell? ⟨X + 1 + 1,3,none⟩=some (.int .i64 0):=HO.out.at0 3 _ rfl; replace fz:∀ o,w1.frozen? ⟨X + 1 + 1,o,none⟩=false:=HO.out.frz)
    refine bodyPost_ret (v:=.agg #[.int .i64 0,.int .i64 0,.string ⟨#[]⟩,.int .i64 1]) (by simp [results,Tryz.results13,go_sem,o0,o1,o2,o3]) rfl ?_
    exact ⟨by rw [HF.out]; rfl,(by repeat (first | exact HB.out | refine bl_setT ?_ (by have:=HXw.out; omega)))⟩
  cases hcr:credB u g cl cf
  · have HF : Hid (F = woC 1) := (by show _ = _; rw [HW.out, ht, hcr]; rfl)
    rw [ht] at HT
    rw [hcr] at HCr
    clear HW h8 hok
    go_wp2_with (first
      | (go_at_call 38; refine (HT.out _ HB.out).mono ?_; rintro e w1 ⟨rfl,hb⟩; replace HB:Hid (Below w.heap.size w w1):=Below.on HB.out hb; replace HX:Hid (BoxR w1 X [.slice a len cap,.int .i64 now]):=HX.out.below hb; replace HC:Hid (BoxR w1 (X + 1) [.int .i64 u,.int .i64 g,.slice ca cl cc,.bool r]):=HC.out.below hb; replace HO:Hid (BoxW w1 (X + 1 + 1) [.int .i64 0,.int .i64 0,.string ⟨#[]⟩,.int .i64 0]):=HO.out.below hb; clear hb; replace t0:w1.cell? ⟨X,0,none⟩=some (.slice a len cap):=HX.out.at0 0 _ rfl; replace t1:w1.cell? ⟨X,1,none⟩=some (.int .i64 now):=HX.out.at0 1 _ rfl; replace c0:w1.cell? ⟨X + 1,0,none⟩=some (.int .i64 u):=HC.out.at0 0 _ rfl; replace c1:w1.cell? ⟨X + 1,1,none⟩=some (.int .i64 g):=HC.out.at0 1 _ rfl; replace c2:w1.cell? ⟨X + 1,2,none⟩=some (.slice ca cl cc):=HC.out.at0 2 _ rfl; replace c3:w1.cell? ⟨X + 1,3,none⟩=some (.bool r):=HC.out.at0 3 _ rfl; replace o0:w1.cell? ⟨X + 1 + 1,0,none⟩=some (.int .i64 0):=HO.out.at0 0 _ rfl; replace o1:w1.cell? ⟨X + 1 + 1,1,none⟩=some (.int .i64 0):=HO.out.at0 1 _ rfl; replace o2:w1.cell? ⟨X + 1 + 1,2,none⟩=some (.string ⟨#[]⟩):=HO.out.at0 2 _ rfl; replace o3:w1.cell? ⟨X + 1 + 1,3,none⟩=some (.int .i64 0):=HO.out.at0 3 _ rfl; replace fz:∀ o,w1.frozen? ⟨X + 1 + 1,o,none⟩=false:=HO.out.frz)
      | (go_at_call 39; refine (HCr.out _ HB.out).mono ?_; rintro e w1 ⟨rfl,hb⟩; replace HB:Hid (Below w.heap.size w w1):=Below.on HB.out hb; replace HX:Hid (BoxR w1 X [.slice a len cap,.int .i64 now]):=HX.out.below hb; replace HC:Hid (BoxR w1 (X + 1) [.int .i64 u,.int .i64 g,.slice ca cl cc,.bool r]):=HC.out.below hb; replace HO:Hid (BoxW w1 (X + 1 + 1) [.int .i64 0,.int .i64 0,.string ⟨#[]⟩,.int .i64 0]):=HO.out.below hb; clear hb; replace t0:w1.cell? ⟨X,0,none⟩=some (.slice a len cap):=HX.out.at0 0 _ rfl; replace t1:w1.cell? ⟨X,1,none⟩=some (.int .i64 now):=HX.out.at0 1 _ rfl; replace c0:w1.cell? ⟨X + 1,0,none⟩=some (.int .i64 u):=HC.out.at0 0 _ rfl; replace c1:w1.cell? ⟨X + 1,1,none⟩=some (.int .i64 g):=HC.out.at0 1 _ rfl; replace c2:w1.cell? ⟨X + 1,2,none⟩=some (.slice ca cl cc):=HC.out.at0 2 _ rfl; replace c3:w1.cell? ⟨X + 1,3,none⟩=some (.bool r):=HC.out.at0 3 _ rfl; replace o0:w1.cell? ⟨X + 1 + 1,0,none⟩=some (.int .i64 0):=HO.out.at0 0 _ rfl; replace o1:w1.cell? ⟨X + 1 + 1,1,none⟩=some (.int .i64 0):=HO.out.at0 1 _ rfl; replace o2:w1.cell? ⟨X + 1 + 1,2,none⟩=some (.string ⟨#[]⟩):=HO.out.at0 2 _ rfl; replace o3:w1.cell? ⟨X + 1 + 1,3,none⟩=some (.int .i64 0):=HO.out.at0 3 _ rfl; replace fz:∀ o,w1.frozen? ⟨X + 1 + 1,o,none⟩=false:=HO.out.frz))
    refine bodyPost_ret (v:=.agg #[.int .i64 0,.int .i64 0,.string ⟨#[]⟩,.int .i64 1]) (by simp [results,Tryz.results13,go_sem,o0,o1,o2,o3]) rfl ?_
    exact ⟨by rw [HF.out]; rfl,(by repeat (first | exact HB.out | refine bl_setT ?_ (by have:=HXw.out; omega)))⟩
  exact absurd ⟨h8,ht,hcr⟩ hok
end Go.Proofs.YtabfdidnjibdeaaGreatDoor
/- What all calls of chapter 11 begin with: too long a text, the way to a node. -/
namespace Go.Proofs.YtabfdidnjibdeaaGreatDoor
open Go.RowKit Go.PlainAid Go.Deep
set_option linter.unusedVariables false
theorem isTooLong_any (s:ByteArray) (w:World) :
    Calls Tryz.prog 94 #[.string s] w fun e w' => e=.returned (.bool (decide (8000 < s.size)))∧w'=w:=by
  by_cases h8:8000 < s.size
  · have h8' : (8000 : Int) < (s.size : Int) := by omega
    have e:decide (8000 < s.size)=true:=by simp [h8]
    rw [e]
    go_enter Tryz.func94,Tryz.ntmps94
    go_wp2
    go_ret
    exact ⟨rfl,rfl⟩
  · have h8' : ¬ (8000 : Int) < (s.size : Int) := by omega
    have e:decide (8000 < s.size)=false:=by simp [h8]
    rw [e]
    go_enter Tryz.func94,Tryz.ntmps94
    go_wp2
    go_ret
    exact ⟨rfl,rfl⟩
/-- Is the one text of a row too long? -/
theorem idxF1_any (B cap:Nat) (s:ByteArray) (w:World) (hc:w.cell? ⟨B,0,none⟩=some (.string s)) :
    Calls Tryz.prog 125 #[.slice (some ⟨B,0,none⟩) 1 cap,.func (.func 94) #[] #[]] w fun e w' => e=.returned (.int .i64 (if 8000 < s.size then 0 else -1))∧w'=w:=by
  have HC:Hid (w.cell? ⟨B,0,none⟩=some (.string s)):=hc
  have HL:Hid (∀ w,Calls Tryz.prog 94 #[.string s] w fun e w' => e=.returned (.bool (decide (8000 < s.size)))∧w'=w):=(fun w => isTooLong_any s w)
  by_cases h8:8000 < s.size
  · have e : decide (8000 < s.size) = true := by simp [h8]
    rw [if_pos h8]
    rw [e] at HL
    clear h8 e
    go_enter Tryz.func125,Tryz.ntmps125
    go_wp2
    refine wp_loop_rounds 1 ?_
    rw [rounds_succ]
    go_wp2_with fail
    refine (HL.out _).mono ?_
    rintro e w1 ⟨rfl,hw⟩
    subst hw
    go_wp2
    go_ret
    exact ⟨rfl,rfl⟩
  · have e : decide (8000 < s.size) = false := by simp [h8]
    rw [if_neg h8]
    rw [e] at HL
    clear h8 e
    go_enter Tryz.func125,Tryz.ntmps125
    go_wp2
    refine wp_loop_rounds 2 ?_
    rw [rounds_succ]
    go_wp2_with fail
    refine (HL.out _).mono ?_
    rintro e w1 ⟨rfl,hw⟩
    subst hw
    go_wp2
    rw [rounds_succ]
    go_wp2
    go_ret
    exact ⟨rfl,rfl⟩
theorem contF1_any (B cap:Nat) (s:ByteArray) (w:World) (hc:w.cell? ⟨B,0,none⟩=some (.string s)) :
    Calls Tryz.prog 78 #[.slice (some ⟨B,0,none⟩) 1 cap,.func (.func 94) #[] #[]] w fun e w' => e=.returned (.bool (decide (8000 < s.size)))∧w'=w:=by
  have HI:=idxF1_any B cap s w hc
  by_cases h8:8000 < s.size
  · have e : decide (8000 < s.size) = true := by simp [h8]
    rw [if_pos h8] at HI
    rw [e]
    have HI:Hid (Calls Tryz.prog 125 #[.slice (some ⟨B,0,none⟩) 1 cap,.func (.func 94) #[] #[]] w fun e w' => e=.returned (.int .i64 0)∧w'=w):=HI
    clear h8 e hc
    go_enter Tryz.func78,Tryz.ntmps78
    go_wp2_with fail
    refine HI.out.mono ?_
    rintro e w1 ⟨rfl,hw⟩
    subst hw
    go_wp2
    go_ret
    exact ⟨rfl,rfl⟩
  · have e : decide (8000 < s.size) = false := by simp [h8]
    rw [if_neg h8] at HI
    rw [e]
    have HI:Hid (Calls Tryz.prog 125 #[.slice (some ⟨B,0,none⟩) 1 cap,.func (.func 94) #[] #[]] w fun e w' => e=.returned (.int .i64 (-1))∧w'=w):=HI
    clear h8 e hc
    go_enter Tryz.func78,Tryz.ntmps78
    go_wp2_with fail
    refine HI.out.mono ?_
    rintro e w1 ⟨rfl,hw⟩
    subst hw
    go_wp2
    go_ret
    exact ⟨rfl,rfl⟩
section
variable {P:Program} {t asserted:TypeId} {fs:Array Field}
/-- 'x, ok := e.(T)', T a struct, e's dynamic type another one. -/
theorem run_tA_no (hu:P.underlying asserted=some (.struct fs)) (hz:((P.info? asserted).bind (·.zero)).isSome=true) (hne:t ≠ asserted) :
    ∃ z,∀ (v:Value) (xT:TypeId) (w:World),(Instr.typeAssert (.iface t v) xT asserted true).run P w=.ok (.tuple #[z,.bool false]) w:=by
  obtain ⟨z,hz⟩:=Option.isSome_iff_exists.1 hz
  obtain ⟨j,hj,hz⟩:=Option.bind_eq_some_iff.1 hz
  exact ⟨z,fun v xT w => by simp [Instr.typeAssert,run_underlying hu,hne,zeroValue,typeInfo,hj,hz]⟩
theorem run_tA_yes (hu:P.underlying t=some (.struct fs)) (v:Value) (xT:TypeId) (w:World):(Instr.typeAssert (.iface t v) xT t true).run P w=.ok (.tuple #[v,.bool true]) w:=by
  simp [Instr.typeAssert,run_underlying hu]
end
set_option maxHeartbeats 4000000 in
theorem iTexts1_any (s:ByteArray) (w:World) :
    Calls Tryz.prog 267 #[.agg #[.string s]] w fun e w' => ∃ B,e=.returned (.slice (some ⟨B,0,none⟩) 1 1)∧w'.cell? ⟨B,0,none⟩=some (.string s)∧Below w.heap.size w w':=by
  have HB:Hid (Below w.heap.size w ((w.alloc (.cells #[.string s] 96)).alloc (.cells #[.string s] 9))):=bl2T _ _ _
  have HN:Hid (((w.alloc (.cells #[.string s] 96)).alloc (.cells #[.string s] 9)).cell? ⟨w.heap.size + 1,0,none⟩=some (.string s)):=(by
    have h:=(boxR_new (w.alloc (.cells #[.string s] 96)) [.string s] 9).at0 0 _ rfl
    simp only [World.size_alloc] at h
    exact h)
  go_enter Tryz.func267,Tryz.ntmps267
  go_wp2
  go_ret
  exact ⟨_,rfl,HN.out,HB.out⟩
def wayN (F:Wo):Wo:=if F.c=0∧F.n=0 then woC 6 else F
/-- The way to a node: no node, or one that is there. -/
theorem wayN_there (l:List Nd) (now u g:Int) (cl:Nat) (r:Bool) (cf:Nat→Int) (s:ByteArray) (fo:Bool):(wayN (wkF l now u g cl r cf s fo)).c ≠ 0∨((wayN (wkF l now u g cl r cf s fo)).c=0∧treeB l now=true∧credB u g cl cf=true∧thB l (wayN (wkF l now u g cl r cf s fo)).n=true):=by
  by_cases h:(wkF l now u g cl r cf s fo).c=0∧(wkF l now u g cl r cf s fo).n=0
  · rw [wayN,if_pos h]; exact .inl (by decide)
  · rw [wayN, if_neg h]
    by_cases hc:(wkF l now u g cl r cf s fo).c=0
    · rcases wkF_there l now u g cl r cf s fo with e | e
      · exact absurd ⟨hc,e⟩ h
      · exact .inr e
    · exact .inl hc
set_option maxRecDepth 20000 in
set_option maxHeartbeats 8000000 in
theorem iWayN_any (a:Option Addr) (len cap:Nat) (l:List Nd) (now:Int) (u g:Int) (ca:Option Addr) (cl cc:Nat) (r:Bool) (cf:Nat→Int) (s:ByteArray) (fo:Bool) (m:Int) (e1 e2 e3 e4:Addr) (hm:len≤9223372036854775807) (hf:∀ i,i < len→NdFit 1048576 (ndAt l i)) (hs:s.size≤1048576) (w:World) (hi:Nds a len l w) (hci:Ints ca cl cf w) (hmx:w.cell? ⟨4,0,none⟩=some (.int .i64 m)) (hE:Errs w e1 e2 e3 e4) :
    Calls Tryz.prog 186 #[.agg #[.slice a len cap,.int .i64 now],.agg #[.int .i64 u,.int .i64 g,.slice ca cl cc,.bool r],.string s,.bool fo] w fun e w' => e=.returned (woV (wayN (wkF l now u g cl r cf s fo)))∧Below w.heap.size w w':=by
  have HWk:Hid (∀ w',Below w.heap.size w w'→Calls Tryz.prog 13 #[.agg #[.slice a len cap,.int .i64 now],.agg #[.int .i64 u,.int .i64 g,.slice ca cl cc,.bool r],.string s,.bool fo] w' fun e w'' => e=.returned (woV (wkF l now u g cl r cf s fo))∧Below w'.heap.size w' w''):=(fun w' hb => iWalk_any a len cap l now u g ca cl cc r cf s fo m e1 e2 e3 e4 hm hf hs w' (hi.below hb) (hci.below hb) ((hb.cell (p:=⟨_,0,none⟩) (block_lt_of_cell hmx)).trans hmx) (hE.below hb))
  generalize wkF l now u g cl r cf s fo=F at HWk ⊢
  have HWq:Hid (∀ w',Below w.heap.size w w'→Calls Tryz.prog 13 #[.agg #[.slice a len cap,.int .i64 now],.agg #[.int .i64 u,.int .i64 g,.slice ca cl cc,.bool r],.string s,.bool fo] w' fun e w'' => e=.returned (.agg #[.int .i64 F.n,.int .i64 F.d,.string F.nm,.int .i64 F.c])∧Below w'.heap.size w' w''):=HWk
  have HE1:Hid (F.c=0→F.n=0→wayN F=woC 6):=(fun h1 h2 => by rw [wayN,if_pos ⟨h1,h2⟩])
  have HE2:Hid (¬ (F.c=0∧F.n=0)→wayN F=F):=(fun h => by rw [wayN,if_neg h])
  clear HWk hi hci hf hmx hE
  have HB:Hid (Below w.heap.size w (((w.alloc (.cells #[.slice a len cap,.int .i64 now] 35)).alloc (.cells #[.int .i64 u,.int .i64 g,.slice ca cl cc,.bool r] 37)).alloc (.cells #[.int .i64 0,.int .i64 0,.string ⟨#[]⟩,.int .i64 0] 31))):=(Below.on (Below.on (Below.on (Below.refl _ _) (bel_alloc _ _)) (bel_alloc _ _)) (bel_alloc _ _))
  have HX:Hid (BoxR (((w.alloc (.cells #[.slice a len cap,.int .i64 now] 35)).alloc (.cells #[.int .i64 u,.int .i64 g,.slice ca cl cc,.bool r] 37)).alloc (.cells #[.int .i64 0,.int .i64 0,.string ⟨#[]⟩,.int .i64 0] 31)) (w.heap.size) [.slice a len cap,.int .i64 now]):=(by
    have h:=(((boxR_new w [.slice a len cap,.int .i64 now] 35).below (bel_alloc (w.alloc (.cells #[.slice a len cap,.int .i64 now] 35)) (.cells #[.int .i64 u,.int .i64 g,.slice ca cl cc,.bool r] 37))).below (bel_alloc ((w.alloc (.cells #[.slice a len cap,.int .i64 now] 35)).alloc (.cells #[.int .i64 u,.int .i64 g,.slice ca cl cc,.bool r] 37)) (.cells #[.int .i64 0,.int .i64 0,.string ⟨#[]⟩,.int .i64 0] 31)))
    exact h)
  have HC:Hid (BoxR (((w.alloc (.cells #[.slice a len cap,.int .i64 now] 35)).alloc (.cells #[.int .i64 u,.int .i64 g,.slice ca cl cc,.bool r] 37)).alloc (.cells #[.int .i64 0,.int .i64 0,.string ⟨#[]⟩,.int .i64 0] 31)) (w.heap.size + 1) [.int .i64 u,.int .i64 g,.slice ca cl cc,.bool r]):=(by
    have h:=((boxR_new (w.alloc (.cells #[.slice a len cap,.int .i64 now] 35)) [.int .i64 u,.int .i64 g,.slice ca cl cc,.bool r] 37).below (bel_alloc ((w.alloc (.cells #[.slice a len cap,.int .i64 now] 35)).alloc (.cells #[.int .i64 u,.int .i64 g,.slice ca cl cc,.bool r] 37)) (.cells #[.int .i64 0,.int .i64 0,.string ⟨#[]⟩,.int .i64 0] 31)))
    simp only [World.size_alloc] at h
    exact h)
  have HO:Hid (BoxW (((w.alloc (.cells #[.slice a len cap,.int .i64 now] 35)).alloc (.cells #[.int .i64 u,.int .i64 g,.slice ca cl cc,.bool r] 37)).alloc (.cells #[.int .i64 0,.int .i64 0,.string ⟨#[]⟩,.int .i64 0] 31)) (w.heap.size + 1 + 1) [.int .i64 0,.int .i64 0,.string ⟨#[]⟩,.int .i64 0]):=(by
    have h:=(boxW_new ((w.alloc (.cells #[.slice a len cap,.int .i64 now] 35)).alloc (.cells #[.int .i64 u,.int .i64 g,.slice ca cl cc,.bool r] 37)) [.int .i64 0,.int .i64 0,.string ⟨#[]⟩,.int .i64 0] 31)
    simp only [World.size_alloc] at h
    exact h)
  go_enter Tryz.func186,Tryz.ntmps186
  go_upto_region 1 with fail
  generalize (((w.alloc (.cells #[.slice a len cap,.int .i64 now] 35)).alloc (.cells #[.int .i64 u,.int .i64 g,.slice ca cl cc,.bool r] 37)).alloc (.cells #[.int .i64 0,.int .i64 0,.string ⟨#[]⟩,.int .i64 0] 31))=w0 at HB HX HC HO ⊢
  obtain ⟨X,hX⟩:∃ X,X=w.heap.size:=⟨_,rfl⟩
  have HXw:Hid (X=w.heap.size):=hX
  rw [← hX] at HX HC HO ⊢
  clear hX
  have t0:w0.cell? ⟨X,0,none⟩=some (.slice a len cap):=HX.out.at0 0 _ rfl
  have t1:w0.cell? ⟨X,1,none⟩=some (.int .i64 now):=HX.out.at0 1 _ rfl
  have c0:w0.cell? ⟨X + 1,0,none⟩=some (.int .i64 u):=HC.out.at0 0 _ rfl
  have c1:w0.cell? ⟨X + 1,1,none⟩=some (.int .i64 g):=HC.out.at0 1 _ rfl
  have c2:w0.cell? ⟨X + 1,2,none⟩=some (.slice ca cl cc):=HC.out.at0 2 _ rfl
  have c3:w0.cell? ⟨X + 1,3,none⟩=some (.bool r):=HC.out.at0 3 _ rfl
  go_wp2_with fail
  refine (HWq.out _ HB.out).mono ?_
  rintro e w1 ⟨rfl,hb⟩
  replace HB:Hid (Below w.heap.size w w1):=Below.on HB.out hb
  replace HX:Hid (BoxR w1 (X) [.slice a len cap,.int .i64 now]):=HX.out.below hb
  replace HC:Hid (BoxR w1 (X + 1) [.int .i64 u,.int .i64 g,.slice ca cl cc,.bool r]):=HC.out.below hb
  replace HO:Hid (BoxW w1 (X + 1 + 1) [.int .i64 0,.int .i64 0,.string ⟨#[]⟩,.int .i64 0]):=HO.out.below hb
  have hbN:Below w1.heap.size w1 (w1.alloc (.cells #[.int .i64 F.n,.int .i64 F.d,.string F.nm,.int .i64 F.c] 31)):=bel_alloc _ _
  have HZ:Hid (BoxR (w1.alloc (.cells #[.int .i64 F.n,.int .i64 F.d,.string F.nm,.int .i64 F.c] 31)) w1.heap.size [.int .i64 F.n,.int .i64 F.d,.string F.nm,.int .i64 F.c]):=boxR_new _ _ _
  replace HB:Hid (Below w.heap.size w (w1.alloc (.cells #[.int .i64 F.n,.int .i64 F.d,.string F.nm,.int .i64 F.c] 31))):=Below.on HB.out hbN
  replace HX:Hid (BoxR (w1.alloc (.cells #[.int .i64 F.n,.int .i64 F.d,.string F.nm,.int .i64 F.c] 31)) (X) [.slice a len cap,.int .i64 now]):=HX.out.below hbN
  replace HC:Hid (BoxR (w1.alloc (.cells #[.int .i64 F.n,.int .i64 F.d,.string F.nm,.int .i64 F.c] 31)) (X + 1) [.int .i64 u,.int .i64 g,.slice ca cl cc,.bool r]):=HC.out.below hbN
  replace HO:Hid (BoxW (w1.alloc (.cells #[.int .i64 F.n,.int .i64 F.d,.string F.nm,.int .i64 F.c] 31)) (X + 1 + 1) [.int .i64 0,.int .i64 0,.string ⟨#[]⟩,.int .i64 0]):=HO.out.below hbN
  clear hb hbN t0 t1 c0 c1 c2 c3 HWq
  go_upto_region 2 with fail
  generalize (w1.alloc (.cells #[.int .i64 F.n,.int .i64 F.d,.string F.nm,.int .i64 F.c] 31))=w3 at HB HX HC HO HZ ⊢
  generalize w1.heap.size=Z at HZ ⊢
  clear w0
  generalize w3=w0 at HB HX HC HO HZ ⊢
  have o0:w0.cell? ⟨X + 1 + 1,0,none⟩=some (.int .i64 0):=HO.out.at0 0 _ rfl
  have o1:w0.cell? ⟨X + 1 + 1,1,none⟩=some (.int .i64 0):=HO.out.at0 1 _ rfl
  have o2:w0.cell? ⟨X + 1 + 1,2,none⟩=some (.string ⟨#[]⟩):=HO.out.at0 2 _ rfl
  have o3:w0.cell? ⟨X + 1 + 1,3,none⟩=some (.int .i64 0):=HO.out.at0 3 _ rfl
  have fz:∀ o,w0.frozen? ⟨X + 1 + 1,o,none⟩=false:=HO.out.frz
  have z0:w0.cell? ⟨Z,0,none⟩=some (.int .i64 F.n):=HZ.out.at0 0 _ rfl
  have z1:w0.cell? ⟨Z,1,none⟩=some (.int .i64 F.d):=HZ.out.at0 1 _ rfl
  have z2:w0.cell? ⟨Z,2,none⟩=some (.string F.nm):=HZ.out.at0 2 _ rfl
  have z3:w0.cell? ⟨Z,3,none⟩=some (.int .i64 F.c):=HZ.out.at0 3 _ rfl
  by_cases hc:F.c=0
  · have hc' : (F.c == 0) = true := by rw [hc]; rfl
    by_cases hn:F.n=0
    · have hn' : (F.n == 0) = true := by rw [hn]; rfl
      have HE:Hid (wayN F=woC 6):=HE1.out hc hn
      clear HE1 HE2 hc hn
      go_wp2
      refine bodyPost_ret (v:=.agg #[.int .i64 0,.int .i64 0,.string ⟨#[]⟩,.int .i64 6]) (by simp [results,Tryz.results186,go_sem,o0,o1,o2,o3]) rfl ?_
      exact ⟨by rw [HE.out]; rfl,(by repeat (first | exact HB.out | refine bl_setT ?_ (by have:=HXw.out; omega)))⟩
    · have hn' : (F.n == 0) = false := by simpa using hn
      have HE:Hid (wayN F=F):=HE2.out (fun h => hn h.2)
      clear HE1 HE2 hc hn
      go_wp2
      refine bodyPost_ret (v:=.agg #[.int .i64 F.n,.int .i64 F.d,.string F.nm,.int .i64 F.c]) (by simp [results,Tryz.results186,go_sem,o0,o1,o2,o3]) rfl ?_
      exact ⟨by rw [HE.out]; rfl,(by repeat (first | exact HB.out | refine bl_setT ?_ (by have:=HXw.out; omega)))⟩
  · have hc' : (F.c == 0) = false := by simpa using hc
    have HE:Hid (wayN F=F):=HE2.out (fun h => hc h.1)
    clear HE1 HE2 hc
    go_wp2
    refine bodyPost_ret (v:=.agg #[.int .i64 F.n,.int .i64 F.d,.string F.nm,.int .i64 F.c]) (by simp [results,Tryz.results186,go_sem,o0,o1,o2,o3]) rfl ?_
    exact ⟨by rw [HE.out]; rfl,(by repeat (first | exact HB.out | refine bl_setT ?_ (by have:=HXw.out; omega)))⟩
end Go.Proofs.YtabfdidnjibdeaaGreatDoor
