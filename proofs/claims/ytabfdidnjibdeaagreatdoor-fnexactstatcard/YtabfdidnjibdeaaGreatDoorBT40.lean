/- Laid together: WkI4, WkI5, WkG. -/
import Derived.Test.YtabfdidnjibdeaaGreatDoorBT39
import Derived.Test.YtabfdidnjibdeaaGreatDoorBT8
import Derived.Test.YtabfdidnjibdeaaGreatDoorBT36
import Derived.Test.YtabfdidnjibdeaaGreatDoorBT33
import Derived.Test.YtabfdidnjibdeaaGreatDoorBT34
/- impl's way.goPart, where no directory is. -/

namespace Go.Proofs.YtabfdidnjibdeaaGreatDoor
open Go.RowKit Go.PlainAid Go.Deep
set_option linter.unusedVariables false
theorem drSt2 (x:Nd) (y:Na) (n:Int) {w:World} {Z:Nat} (ht:w.there Z 0 25):Sem.run Tryz.prog (storeCells ⟨Z,0,none⟩ (drV x y n)) w=.ok () (w.setCells Z 0 (drV x y n)):=by
  have:=run_storeCells_cells (P:=Tryz.prog) Z 0 (drV x y n) 0 w (fun j hj => by rw [Nat.add_zero]; exact (ht j (by rw [drV_len] at hj; exact hj)).1) (fun j hj => by rw [Nat.add_zero]; exact (ht j (by rw [drV_len] at hj; exact hj)).2) (fun v hv => (Array.all_eq_true_iff_forall_mem.1 (drV_ones x y n)) v (by simp only [List.mem_toArray]; exact hv))
  simpa only [Nat.zero_add,Nat.add_zero] using this
theorem drSt (x:Nd) (y:Na) (n:Int) (w:World):Sem.run Tryz.prog (storeCells ⟨w.heap.size,0,none⟩ (drV x y n)) (w.alloc (.cells #[.int .i64 0,.int .i64 0,.int .i64 0,.int .i64 0,.int .i64 0,.int .i64 0,.int .i64 0,.slice none 0 0,.slice none 0 0,.bool false,.int .i64 0,.bool false,.int .i64 0,.int .i64 0,.int .i64 0,.slice none 0 0,.slice none 0 0,.bool false,.int .i64 0,.int .i64 0,.int .i64 0,.string ⟨#[]⟩,.slice none 0 0,.int .i64 0,.int .i64 0] 162))=.ok () ((w.alloc (.cells #[.int .i64 0,.int .i64 0,.int .i64 0,.int .i64 0,.int .i64 0,.int .i64 0,.int .i64 0,.slice none 0 0,.slice none 0 0,.bool false,.int .i64 0,.bool false,.int .i64 0,.int .i64 0,.int .i64 0,.slice none 0 0,.slice none 0 0,.bool false,.int .i64 0,.int .i64 0,.int .i64 0,.string ⟨#[]⟩,.slice none 0 0,.int .i64 0,.int .i64 0] 162)).setCells w.heap.size 0 (drV x y n)):=drSt2 _ _ _ (there25 w)
attribute [local go_sem] drSt drV_len
set_option maxRecDepth 20000 in
set_option maxHeartbeats 8000000 in
theorem iGoPart_no (wb:World) (P:Nat) (tb tf len cap:Nat) (now:Int) (u g:Int) (ca:Option Addr) (cl cc:Nat) (r:Bool) (l:List Nd) (ps:List ByteArray) (pa:Option Addr) (pc:Nat) (sl th:Bool) (lk n d:Int) (nm:ByteArray) (E:Value) (hl:len≤12) (hd:diB l n=false)
    (hE:wb.cell? ⟨1,0,none⟩=some E) (hi:Nds (some ⟨tb,tf,none⟩) len l wb) (w:World) (hB:Below wb.heap.size wb w) (hPb:wb.heap.size≤P) (hP:BoxW w P [.slice (some ⟨tb,tf,none⟩) len cap,.int .i64 now,.int .i64 u,.int .i64 g,.slice ca cl cc,.bool r,.slice pa (ps.length + 1) pc,.bool sl,.bool th,.int .i64 lk,.int .i64 n,.int .i64 d,.string nm]) :
    Calls Tryz.prog 81 #[.pointer (some ⟨P,0,none⟩)] w fun e w' => e=.returned E∧Below w.heap.size w w':=by
  have hel:=block_lt_of_cell hE
  have HP:Hid (BoxW w P [.slice (some ⟨tb,tf,none⟩) len cap,.int .i64 now,.int .i64 u,.int .i64 g,.slice ca cl cc,.bool r,.slice pa (ps.length + 1) pc,.bool sl,.bool th,.int .i64 lk,.int .i64 n,.int .i64 d,.string nm]):=hP
  have HBw:Hid (Below wb.heap.size wb w):=hB
  have HC:Hid (∀ w',Below wb.heap.size wb w'→Calls Tryz.prog 127 #[.agg #[.slice (some ⟨tb,tf,none⟩) len cap,.int .i64 now],.int .i64 n] w' fun e w'' => e=.returned (.tuple #[.agg (drV ndZ naZ 0).toArray,.bool false])∧Below w'.heap.size w' w''):=(fun w' hb => iDirAt_no _ len cap l now n (by omega) w' (hi.below hb) hd)
  have HE:Hid (∀ w',Below wb.heap.size wb w'→w'.cell? ⟨1,0,none⟩=some E):=(fun w' hb => (hb.cell (p:=⟨_,0,none⟩) hel).trans hE)
  clear hE hi hB hP hel hd
  have p0:w.cell? ⟨P,0,none⟩=some (.slice (some ⟨tb,tf,none⟩) len cap):=HP.out.at0 0 _ rfl
  have p1:w.cell? ⟨P,1,none⟩=some (.int .i64 now):=HP.out.at0 1 _ rfl
  have p10:w.cell? ⟨P,10,none⟩=some (.int .i64 n):=HP.out.at0 10 _ rfl
  go_enter Tryz.func81,Tryz.ntmps81
  go_upto_region 1 with fail
  have q0:(w.alloc (.cells #[.int .i64 0,.int .i64 0,.int .i64 0,.int .i64 0,.int .i64 0,.int .i64 0,.int .i64 0,.slice none 0 0,.slice none 0 0,.bool false,.int .i64 0,.bool false,.int .i64 0,.int .i64 0,.int .i64 0,.slice none 0 0,.slice none 0 0,.bool false,.int .i64 0,.int .i64 0,.int .i64 0,.string ⟨#[]⟩,.slice none 0 0,.int .i64 0,.int .i64 0] 162)).cell? ⟨P,0,none⟩=some (.slice (some ⟨tb,tf,none⟩) len cap):=(HP.out.below (bel_alloc _ _)).at0 0 _ rfl
  have q1:(w.alloc (.cells #[.int .i64 0,.int .i64 0,.int .i64 0,.int .i64 0,.int .i64 0,.int .i64 0,.int .i64 0,.slice none 0 0,.slice none 0 0,.bool false,.int .i64 0,.bool false,.int .i64 0,.int .i64 0,.int .i64 0,.slice none 0 0,.slice none 0 0,.bool false,.int .i64 0,.int .i64 0,.int .i64 0,.string ⟨#[]⟩,.slice none 0 0,.int .i64 0,.int .i64 0] 162)).cell? ⟨P,1,none⟩=some (.int .i64 now):=(HP.out.below (bel_alloc _ _)).at0 1 _ rfl
  have q10:(w.alloc (.cells #[.int .i64 0,.int .i64 0,.int .i64 0,.int .i64 0,.int .i64 0,.int .i64 0,.int .i64 0,.slice none 0 0,.slice none 0 0,.bool false,.int .i64 0,.bool false,.int .i64 0,.int .i64 0,.int .i64 0,.slice none 0 0,.slice none 0 0,.bool false,.int .i64 0,.int .i64 0,.int .i64 0,.string ⟨#[]⟩,.slice none 0 0,.int .i64 0,.int .i64 0] 162)).cell? ⟨P,10,none⟩=some (.int .i64 n):=(HP.out.below (bel_alloc _ _)).at0 10 _ rfl
  have HA:Hid (Below w.heap.size w (w.alloc (.cells #[.int .i64 0,.int .i64 0,.int .i64 0,.int .i64 0,.int .i64 0,.int .i64 0,.int .i64 0,.slice none 0 0,.slice none 0 0,.bool false,.int .i64 0,.bool false,.int .i64 0,.int .i64 0,.int .i64 0,.slice none 0 0,.slice none 0 0,.bool false,.int .i64 0,.int .i64 0,.int .i64 0,.string ⟨#[]⟩,.slice none 0 0,.int .i64 0,.int .i64 0] 162)).drew):=bl_drewL (bel_alloc _ _)
  have HX:Hid (BoxW (w.alloc (.cells #[.int .i64 0,.int .i64 0,.int .i64 0,.int .i64 0,.int .i64 0,.int .i64 0,.int .i64 0,.slice none 0 0,.slice none 0 0,.bool false,.int .i64 0,.bool false,.int .i64 0,.int .i64 0,.int .i64 0,.slice none 0 0,.slice none 0 0,.bool false,.int .i64 0,.int .i64 0,.int .i64 0,.string ⟨#[]⟩,.slice none 0 0,.int .i64 0,.int .i64 0] 162)).drew w.heap.size (drV ndZ naZ 0)):=(boxW_new w (drV ndZ naZ 0) 162).below (bl_drewL (Below.refl _ _))
  go_region_law (first
    | (go_simp; go_at_call 127; refine (HC.out _ (bl_drewL HBw.out)).mono ?_; rintro e w4 ⟨rfl,hb4⟩; have hb4':Below w.heap.size w w4:=⟨hb4.os,hb4.tape,hb4.output,hb4.size,hb4.block⟩; have HF:Hid (Below w.heap.size w ((w4.alloc (.cells #[.int .i64 0,.int .i64 0,.int .i64 0,.int .i64 0,.int .i64 0,.int .i64 0,.int .i64 0,.slice none 0 0,.slice none 0 0,.bool false,.int .i64 0,.bool false,.int .i64 0,.int .i64 0,.int .i64 0,.slice none 0 0,.slice none 0 0,.bool false,.int .i64 0,.int .i64 0,.int .i64 0,.string ⟨#[]⟩,.slice none 0 0,.int .i64 0,.int .i64 0] 162)).setCells w4.heap.size 0 (drV ndZ naZ 0))):=bl_setsT hb4'.size _ _ (Below.on hb4' (bel_alloc _ _)); clear hb4 hb4')
    | (go_simp; go_at_call 127; refine (HC.out _ (Below.on HBw.out HA.out)).mono ?_; rintro e w4 ⟨rfl,hb4⟩; have HX4:Hid (BoxW w4 w.heap.size (drV ndZ naZ 0)):=HX.out.below hb4; have hst:Sem.run Tryz.prog (storeCells ⟨w.heap.size,0,none⟩ (drV ndZ naZ 0)) w4=.ok () (w4.setCells w.heap.size 0 (drV ndZ naZ 0)):=drSt2 _ _ _ (HX4.out.there 0 25 (by simp [drV])); have HF:Hid (Below w.heap.size w (w4.setCells w.heap.size 0 (drV ndZ naZ 0))):=bl_setsT (Nat.le_refl _) _ _ (Below.on HA.out hb4); clear hb4 HX4))
  all_goals
    first
    | generalize ((w4.alloc (.cells #[.int .i64 0,.int .i64 0,.int .i64 0,.int .i64 0,.int .i64 0,.int .i64 0,.int .i64 0,.slice none 0 0,.slice none 0 0,.bool false,.int .i64 0,.bool false,.int .i64 0,.int .i64 0,.int .i64 0,.slice none 0 0,.slice none 0 0,.bool false,.int .i64 0,.int .i64 0,.int .i64 0,.string ⟨#[]⟩,.slice none 0 0,.int .i64 0,.int .i64 0] 162)).setCells w4.heap.size 0 (drV ndZ naZ 0))=w5 at HF ⊢
    | generalize (w4.setCells w.heap.size 0 (drV ndZ naZ 0))=w5 at HF ⊢
    have e5:=HE.out _ (Below.on HBw.out HF.out)
    clear HA HX q0 q1 q10 p0 p1 p10 HE HC HP
    go_wp2
    go_ret
    exact ⟨rfl,HF.out⟩
end Go.Proofs.YtabfdidnjibdeaaGreatDoor
/- impl's way.goPart at a directory. -/
namespace Go.Proofs.YtabfdidnjibdeaaGreatDoor
open Go.RowKit Go.PlainAid Go.Deep
set_option linter.unusedVariables false
/-- Where a part leads: the node, the directory, the name. -/
def gp3 (x:Nd) (k:Nat) (p:ByteArray):Int × Int × ByteArray :=
  if p.toList == [46] then ((k:Int) + 1,(k:Int) + 1,emp) else if p.toList == [46,46] then (x.up,x.up,emp) else (fdT x.ns p.toList x.ns.length,(k:Int) + 1,p)
/-- What goPart answers at a directory. -/
structure GpEnd (w:World) (P:Nat) (tb tf len cap:Nat) (now:Int) (u g:Int) (ca:Option Addr) (cl cc:Nat) (r:Bool) (ps:List ByteArray) (sl th:Bool) (lk:Int) (x:Nd) (k:Nat) (p:ByteArray) (lt:Bool) (E2 E3:Value) (e:Ending) (w':World):Prop where
  but:ButS (some ⟨P,0,none⟩) w w'
  no:lt=false→e=.returned E2
  gone:lt=true→((gp3 x k p).1 == 0 && !ps.isEmpty)=true→e=.returned E3
  yes:lt=true→((gp3 x k p).1 == 0 && !ps.isEmpty)=false→e=.returned .nilIface∧∃ pa' pc',BoxW w' P [.slice (some ⟨tb,tf,none⟩) len cap,.int .i64 now,.int .i64 u,.int .i64 g,.slice ca cl cc,.bool r,.slice pa' ps.length pc',.bool sl,.bool th,.int .i64 lk,.int .i64 (gp3 x k p).1,.int .i64 (gp3 x k p).2.1,.string (gp3 x k p).2.2]∧RowG w' P pa' ps∧ps.length≤pc'
attribute [local go_sem] drSt drV_len
set_option maxRecDepth 20000 in
set_option maxHeartbeats 16000000 in
theorem iGoPart_dir (wb:World) (P:Nat) (tb tf len cap:Nat) (now:Int) (u g:Int) (ca:Option Addr) (cl cc:Nat) (r:Bool) (cf:Nat→Int) (l:List Nd) (Y:Nat→Na) (k:Nat) (p:ByteArray) (ps:List ByteArray) (b off pc:Nat) (sl th:Bool) (lk d:Int) (nm:ByteArray) (E2 E3:Value) (hl:len≤12) (hll:l.length=len) (hk:k < len) (hps:ps.length≤1000) (hpc:ps.length + 1≤pc) (hd:((ndAt l k).k == 1)=true) (hup:(ndAt l k).up ≠ 0) (hn6:(ndAt l k).ns.length≤6) (hnT:nsT l (ndAt l k).ns (ndAt l k).ns.length=true) (hask:Ask (ndAt l k) u g cl cf 1)
    (hE2:wb.cell? ⟨2,0,none⟩=some E2) (hE3:wb.cell? ⟨3,0,none⟩=some E3) (htb:tb < wb.heap.size) (hN:N24 wb tb (tf + k * 24) (ndAt l k) (Y k)) (hNi:NdIn wb (ndAt l k) (Y k)) (hci:Ints ca cl cf wb) (w:World) (hB:Below wb.heap.size wb w) (hPb:wb.heap.size≤P) (hP:BoxW w P [.slice (some ⟨tb,tf,none⟩) len cap,.int .i64 now,.int .i64 u,.int .i64 g,.slice ca cl cc,.bool r,.slice (some ⟨b,off,none⟩) (ps.length + 1) pc,.bool sl,.bool th,.int .i64 lk,.int .i64 ((k:Int) + 1),.int .i64 d,.string nm]) (hR:RowB w b off (p :: ps)) (hbP:b ≠ P) :
    Calls Tryz.prog 81 #[.pointer (some ⟨P,0,none⟩)] w fun e w' => GpEnd w P tb tf len cap now u g ca cl cc r ps sl th lk (ndAt l k) k p (ltB l u g cl r cf k) E2 E3 e w':=by
  have hel2:=block_lt_of_cell hE2
  have hel3:=block_lt_of_cell hE3
  have HP:Hid (BoxW w P [.slice (some ⟨tb,tf,none⟩) len cap,.int .i64 now,.int .i64 u,.int .i64 g,.slice ca cl cc,.bool r,.slice (some ⟨b,off,none⟩) (ps.length + 1) pc,.bool sl,.bool th,.int .i64 lk,.int .i64 ((k:Int) + 1),.int .i64 d,.string nm]):=hP
  have HR:Hid (RowB w b off (p :: ps)):=hR
  have HBw:Hid (Below wb.heap.size wb w):=hB
  have HPb:Hid (wb.heap.size≤P∧b ≠ P∧ps.length + 1≤pc∧ps.length≤1000∧P < w.heap.size):=⟨hPb,hbP,hpc,hps,hP.lt⟩
  have HC:Hid (∀ w',Below wb.heap.size wb w'→Calls Tryz.prog 127 #[.agg #[.slice (some ⟨tb,tf,none⟩) len cap,.int .i64 now],.int .i64 ((k:Int) + 1)] w' fun e w'' => e=.returned (.tuple #[.agg (drV (ndAt l k) (Y k) ((k:Int) + 1)).toArray,.bool true])∧Below w'.heap.size w' w''):=(fun w' hb => iDirAt_at tb tf len cap l now k (Y k) (by omega) hk hll w' (Nat.lt_of_lt_of_le htb hb.size) (range_below hN htb hb) hd)
  have HLt:Hid (∀ w',Below wb.heap.size wb w'→Calls Tryz.prog 92 #[.agg (ndV (ndAt l k) (Y k)).toArray,.agg #[.int .i64 u,.int .i64 g,.slice ca cl cc,.bool r],.int .i64 1] w' fun e w'' => e=.returned (.bool (ltB l u g cl r cf k))∧Below w'.heap.size w' w''):=(fun w' hb => iLet_any (ndAt l k) (Y k) u g ca cl cc r cf 1 hask w' (hNi.below hb) (hci.below hb))
  have HNf:Hid (∀ w',Below wb.heap.size wb w'→Calls Tryz.prog 128 #[.agg (ndV (ndAt l k) (Y k)).toArray,.string p] w' fun e w'' => e=.returned (.int .i64 (fdT (ndAt l k).ns p.toList (ndAt l k).ns.length))∧Below w'.heap.size w' w''):=(fun w' hb => iNodeFor_any l (ndAt l k) (Y k) p hn6 hnT w' (hNi.below hb).nA)
  have HE2:Hid (∀ w',Below wb.heap.size wb w'→w'.cell? ⟨2,0,none⟩=some E2):=(fun w' hb => (hb.cell (p:=⟨_,0,none⟩) hel2).trans hE2)
  have HE3:Hid (∀ w',Below wb.heap.size wb w'→w'.cell? ⟨3,0,none⟩=some E3):=(fun w' hb => (hb.cell (p:=⟨_,0,none⟩) hel3).trans hE3)
  have HUp:Hid ((ndAt l k).up ≠ 0):=hup
  generalize ltB l u g cl r cf k=lt at HLt ⊢
  clear hE2 hE3 hN hNi hci hB hP hR hbP hPb hpc hps hel2 hel3 hd hup hask htb hk hll hl hn6 hnT
  generalize ndAt l k=x at HC HLt HNf HUp ⊢
  generalize Y k=y at HC HLt HNf
  have p0:w.cell? ⟨P,0,none⟩=some (.slice (some ⟨tb,tf,none⟩) len cap):=HP.out.at0 0 _ rfl
  have p1:w.cell? ⟨P,1,none⟩=some (.int .i64 now):=HP.out.at0 1 _ rfl
  have p10:w.cell? ⟨P,10,none⟩=some (.int .i64 ((k:Int) + 1)):=HP.out.at0 10 _ rfl
  go_enter Tryz.func81,Tryz.ntmps81
  go_upto_region 1 with fail
  have q0:(w.alloc (.cells #[.int .i64 0,.int .i64 0,.int .i64 0,.int .i64 0,.int .i64 0,.int .i64 0,.int .i64 0,.slice none 0 0,.slice none 0 0,.bool false,.int .i64 0,.bool false,.int .i64 0,.int .i64 0,.int .i64 0,.slice none 0 0,.slice none 0 0,.bool false,.int .i64 0,.int .i64 0,.int .i64 0,.string ⟨#[]⟩,.slice none 0 0,.int .i64 0,.int .i64 0] 162)).cell? ⟨P,0,none⟩=some (.slice (some ⟨tb,tf,none⟩) len cap):=(HP.out.below (bel_alloc _ _)).at0 0 _ rfl
  have q1:(w.alloc (.cells #[.int .i64 0,.int .i64 0,.int .i64 0,.int .i64 0,.int .i64 0,.int .i64 0,.int .i64 0,.slice none 0 0,.slice none 0 0,.bool false,.int .i64 0,.bool false,.int .i64 0,.int .i64 0,.int .i64 0,.slice none 0 0,.slice none 0 0,.bool false,.int .i64 0,.int .i64 0,.int .i64 0,.string ⟨#[]⟩,.slice none 0 0,.int .i64 0,.int .i64 0] 162)).cell? ⟨P,1,none⟩=some (.int .i64 now):=(HP.out.below (bel_alloc _ _)).at0 1 _ rfl
  have q10:(w.alloc (.cells #[.int .i64 0,.int .i64 0,.int .i64 0,.int .i64 0,.int .i64 0,.int .i64 0,.int .i64 0,.slice none 0 0,.slice none 0 0,.bool false,.int .i64 0,.bool false,.int .i64 0,.int .i64 0,.int .i64 0,.slice none 0 0,.slice none 0 0,.bool false,.int .i64 0,.int .i64 0,.int .i64 0,.string ⟨#[]⟩,.slice none 0 0,.int .i64 0,.int .i64 0] 162)).cell? ⟨P,10,none⟩=some (.int .i64 ((k:Int) + 1)):=(HP.out.below (bel_alloc _ _)).at0 10 _ rfl
  have HA:Hid (Below w.heap.size w (w.alloc (.cells #[.int .i64 0,.int .i64 0,.int .i64 0,.int .i64 0,.int .i64 0,.int .i64 0,.int .i64 0,.slice none 0 0,.slice none 0 0,.bool false,.int .i64 0,.bool false,.int .i64 0,.int .i64 0,.int .i64 0,.slice none 0 0,.slice none 0 0,.bool false,.int .i64 0,.int .i64 0,.int .i64 0,.string ⟨#[]⟩,.slice none 0 0,.int .i64 0,.int .i64 0] 162)).drew):=bl_drewL (bel_alloc _ _)
  have HX:Hid (BoxW (w.alloc (.cells #[.int .i64 0,.int .i64 0,.int .i64 0,.int .i64 0,.int .i64 0,.int .i64 0,.int .i64 0,.slice none 0 0,.slice none 0 0,.bool false,.int .i64 0,.bool false,.int .i64 0,.int .i64 0,.int .i64 0,.slice none 0 0,.slice none 0 0,.bool false,.int .i64 0,.int .i64 0,.int .i64 0,.string ⟨#[]⟩,.slice none 0 0,.int .i64 0,.int .i64 0] 162)).drew w.heap.size (drV ndZ naZ 0)):=(boxW_new w (drV ndZ naZ 0) 162).below (bl_drewL (Below.refl _ _))
  go_cut [3,4] (fun z bv wx => ∃ Z:Nat,z=.pointer (some ⟨Z,0,none⟩)∧bv=.bool true∧Hid (Below w.heap.size w wx)∧Hid (BoxW wx Z (drV x y ((k:Int) + 1)))∧Hid (w.heap.size≤Z))
  case first =>
   as_aux_lemma =>
    go_region_law (first
      | (go_simp; go_at_call 127; refine (HC.out _ (bl_drewL HBw.out)).mono ?_; rintro e w4 ⟨rfl,hb4⟩; have hb4':Below w.heap.size w w4:=⟨hb4.os,hb4.tape,hb4.output,hb4.size,hb4.block⟩; have HF:Hid (Below w.heap.size w ((w4.alloc (.cells #[.int .i64 0,.int .i64 0,.int .i64 0,.int .i64 0,.int .i64 0,.int .i64 0,.int .i64 0,.slice none 0 0,.slice none 0 0,.bool false,.int .i64 0,.bool false,.int .i64 0,.int .i64 0,.int .i64 0,.slice none 0 0,.slice none 0 0,.bool false,.int .i64 0,.int .i64 0,.int .i64 0,.string ⟨#[]⟩,.slice none 0 0,.int .i64 0,.int .i64 0] 162)).setCells w4.heap.size 0 (drV x y ((k:Int) + 1)))):=bl_setsT hb4'.size _ _ (Below.on hb4' (bel_alloc _ _)); have HZ:Hid (BoxW ((w4.alloc (.cells #[.int .i64 0,.int .i64 0,.int .i64 0,.int .i64 0,.int .i64 0,.int .i64 0,.int .i64 0,.slice none 0 0,.slice none 0 0,.bool false,.int .i64 0,.bool false,.int .i64 0,.int .i64 0,.int .i64 0,.slice none 0 0,.slice none 0 0,.bool false,.int .i64 0,.int .i64 0,.int .i64 0,.string ⟨#[]⟩,.slice none 0 0,.int .i64 0,.int .i64 0] 162)).setCells w4.heap.size 0 (drV x y ((k:Int) + 1))) w4.heap.size (drV x y ((k:Int) + 1))):=(boxW_new w4 (drV ndZ naZ 0) 162).whole (by rw [drV_len,drV_len]); have HS:Hid (w.heap.size≤w4.heap.size):=hb4'.size; clear hb4 hb4')
      | (go_simp; go_at_call 127; refine (HC.out _ (Below.on HBw.out HA.out)).mono ?_; rintro e w4 ⟨rfl,hb4⟩; have HX4:Hid (BoxW w4 w.heap.size (drV ndZ naZ 0)):=HX.out.below hb4; have hst:Sem.run Tryz.prog (storeCells ⟨w.heap.size,0,none⟩ (drV x y ((k:Int) + 1))) w4=.ok () (w4.setCells w.heap.size 0 (drV x y ((k:Int) + 1))):=drSt2 _ _ _ (HX4.out.there 0 25 (by simp [drV])); have HF:Hid (Below w.heap.size w (w4.setCells w.heap.size 0 (drV x y ((k:Int) + 1)))):=bl_setsT (Nat.le_refl _) _ _ (Below.on HA.out hb4); have HZ:Hid (BoxW (w4.setCells w.heap.size 0 (drV x y ((k:Int) + 1))) w.heap.size (drV x y ((k:Int) + 1))):=HX4.out.whole (by rw [drV_len,drV_len]); have HS:Hid (w.heap.size≤w.heap.size):=Nat.le_refl _; clear hb4 HX4))
    all_goals go_wp2
    all_goals go_meet
    all_goals exact ⟨_,rfl,rfl,HF,HZ,HS⟩
  case rest =>
  obtain ⟨Z,rfl,rfl,HF,HZ,HS⟩:=hcut
  obtain ⟨w2,hw2⟩:∃ w2,w2=wc:=⟨_,rfl⟩
  subst hw2
  have HP2:Hid (BoxW w2 P [.slice (some ⟨tb,tf,none⟩) len cap,.int .i64 now,.int .i64 u,.int .i64 g,.slice ca cl cc,.bool r,.slice (some ⟨b,off,none⟩) (ps.length + 1) pc,.bool sl,.bool th,.int .i64 lk,.int .i64 ((k:Int) + 1),.int .i64 d,.string nm]):=HP.out.below HF.out
  have HR2:Hid (RowB w2 b off (p :: ps)):=HR.out.below HF.out
  have HB2:Hid (Below wb.heap.size wb w2):=Below.on HBw.out HF.out
  have HPZ:Hid (P < Z):=(by show _ < _; have:=HPb.out; have:=HS.out; omega)
  have HU2:Hid (ButS (some ⟨P,0,none⟩) w w2):=ButS.of HF.out
  clear HA HX q0 q1 q10 p0 p1 p10 HC HP HR HBw HF HS
  go_upto_region 4 with fail
  obtain ⟨cs1,hcs1⟩:∃ cs1,cs1=ndV x y:=⟨_,rfl⟩
  have hi1:(Tryz.prog.info? 84).map (·.size)=some cs1.length:=by rw [hcs1]; kernel_rfl
  have hu:=Tryz.underlying84
  have R1:∀ w',(∃ q:Regrown,w'=Go.Sort.grow (redrawn w2 q.d) q.os)→w'.rangeAt Z 0 cs1:=by rw [hcs1]; exact range_regrown (dr_nd HZ.out.at0)
  have cL:∀ dd os,Calls Tryz.prog 92 #[.agg cs1.toArray,.agg #[.int .i64 u,.int .i64 g,.slice ca cl cc,.bool r],.int .i64 1] (Go.Sort.grow (redrawn w2 dd) os) fun e w'' => e=.returned (.bool lt)∧∃ q:Regrown,w''=Go.Sort.grow (redrawn w2 q.d) q.os:=fun dd os => Calls.regrown_of (by rw [hcs1]; exact HLt.out _ (Below.on HB2.out (below_regrown w2 dd os)))
  have y2:∀ dd os,(Go.Sort.grow (redrawn w2 dd) os).cell? ⟨P,2,none⟩=some (.int .i64 u):=fun dd os => cell_regrown (HP2.out.at0 2 _ rfl) dd os
  have y3:∀ dd os,(Go.Sort.grow (redrawn w2 dd) os).cell? ⟨P,3,none⟩=some (.int .i64 g):=fun dd os => cell_regrown (HP2.out.at0 3 _ rfl) dd os
  have y4:∀ dd os,(Go.Sort.grow (redrawn w2 dd) os).cell? ⟨P,4,none⟩=some (.slice ca cl cc):=fun dd os => cell_regrown (HP2.out.at0 4 _ rfl) dd os
  have y5:∀ dd os,(Go.Sort.grow (redrawn w2 dd) os).cell? ⟨P,5,none⟩=some (.bool r):=fun dd os => cell_regrown (HP2.out.at0 5 _ rfl) dd os
  clear hcs1
  refine wp_region_quiet_below (by kernel_rfl) (by kernel_rfl) ?_
  repeat (first
    | go_big_quiet_skip
    | (go_big_quiet_want; refine quiet_load_mid 84 _ rfl _ _ (by rfl) _ _ R1 hu rfl hi1 ?_; simp only [Act.put,List.setIfInBounds_toArray,List.set_cons_zero,List.set_cons_succ]; go_big_quiet_on)
    | (go_big_quiet_want; go_big_quiet_op; first | go_big_quiet_on | go_big_quiet_call (exact cL _ _)))
  refine wpQuiet_nil ?_
  intro _ hw'
  obtain ⟨⟨dq,osq⟩,hw''⟩:=hw'
  subst hw''
  have hbq:=below_regrown w2 dq osq
  have HZ3:Hid (BoxW (Go.Sort.grow (redrawn w2 dq) osq) Z (drV x y ((k:Int) + 1))):=HZ.out.below hbq
  have HP3:Hid (BoxW (Go.Sort.grow (redrawn w2 dq) osq) P [.slice (some ⟨tb,tf,none⟩) len cap,.int .i64 now,.int .i64 u,.int .i64 g,.slice ca cl cc,.bool r,.slice (some ⟨b,off,none⟩) (ps.length + 1) pc,.bool sl,.bool th,.int .i64 lk,.int .i64 ((k:Int) + 1),.int .i64 d,.string nm]):=HP2.out.below hbq
  have HR3:Hid (RowB (Go.Sort.grow (redrawn w2 dq) osq) b off (p :: ps)):=HR2.out.below hbq
  have HU3:Hid (ButS (some ⟨P,0,none⟩) w (Go.Sort.grow (redrawn w2 dq) osq)):=HU2.out.on hbq
  have HB3:Hid (Below wb.heap.size wb (Go.Sort.grow (redrawn w2 dq) osq)):=Below.on HB2.out hbq
  clear hbq y2 y3 y4 y5 R1 cL hi1 hu HLt
  generalize Go.Sort.grow (redrawn w2 dq) osq=w3 at HZ3 HP3 HR3 HU3 HB3 ⊢
  clear HZ HP2 HR2 HU2 HB2
  cases lt
  · have e5 := HE2.out _ HB3.out
    clear HE2 HE3 HNf
    go_wp2
    go_ret
    exact ⟨HU3.out,fun _ => rfl,(fun h => by cases h),(fun h => by cases h)⟩
  clear HE2
  have hcap:pc=1∨1 < pc:=by have:=HPb.out; omega
  have p6:w3.cell? ⟨P,6,none⟩=some (.slice (some ⟨b,off,none⟩) (ps.length + 1) pc):=HP3.out.at0 6 _ rfl
  have r0:w3.cell? ⟨b,off,none⟩=some (.string p):=HR3.out.head
  have fz:=HP3.out.frz
  have HS2:Hid (∃ off2,(pc=1→off2=off)∧(1 < pc→off2=off + 1)):=(by
    rcases hcap with h | h
    · exact ⟨off,fun _ => rfl,fun h2 => by omega⟩
    · exact ⟨off + 1,fun h2 => by omega,fun _ => rfl⟩)
  obtain ⟨off2,ho1,ho2⟩:=HS2.out
  have HR4:Hid (RowB w3 b off2 ps):=(by
    rcases hcap with h | h
    · have hz : ps = [] := List.eq_nil_of_length_eq_zero (by have := HPb.out; omega)
      rw [ho1 h,hz]
      exact ⟨HR3.out.1,fun j x hj => by cases hj⟩
    · rw [ho2 h]
      exact HR3.out.tail)
  have HP4:Hid (BoxW (w3.setCell ⟨P,6,none⟩ (.slice (some ⟨b,off2,none⟩) ps.length (pc - 1))) P [.slice (some ⟨tb,tf,none⟩) len cap,.int .i64 now,.int .i64 u,.int .i64 g,.slice ca cl cc,.bool r,.slice (some ⟨b,off2,none⟩) ps.length (pc - 1),.bool sl,.bool th,.int .i64 lk,.int .i64 ((k:Int) + 1),.int .i64 d,.string nm]):=HP3.out.set 6 (by simp) (.slice (some ⟨b,off2,none⟩) ps.length (pc - 1))
  have HU4:Hid (ButS (some ⟨P,0,none⟩) w (w3.setCell ⟨P,6,none⟩ (.slice (some ⟨b,off2,none⟩) ps.length (pc - 1)))):=HU3.out.set
  have HR5:Hid (RowB (w3.setCell ⟨P,6,none⟩ (.slice (some ⟨b,off2,none⟩) ps.length (pc - 1))) b off2 ps):=HR4.out.but (ButS.refl (some ⟨P,0,none⟩) _).set (fun A e => by cases e; exact HPb.out.2.1)
  have HZ5:Hid (BoxW (w3.setCell ⟨P,6,none⟩ (.slice (some ⟨b,off2,none⟩) ps.length (pc - 1))) Z (drV x y ((k:Int) + 1))):=HZ3.out.butS (ButS.refl (some ⟨P,0,none⟩) _).set (fun A e => by cases e; have:=HPZ.out; simp only; omega)
  have HB5:Hid (Below wb.heap.size wb (w3.setCell ⟨P,6,none⟩ (.slice (some ⟨b,off2,none⟩) ps.length (pc - 1)))):=setS HB3.out HPb.out.1
  have hpli:(ps.length:Int)≤1000:=by have:=HPb.out; omega
  have HL4:Hid (ps.length≤pc - 1):=(by show _≤_; have:=HPb.out; omega)
  go_upto_region 7 with fail
  go_cut [] (fun wx => Hid (wx=(w3.setCell ⟨P,6,none⟩ (.slice (some ⟨b,off2,none⟩) ps.length (pc - 1)))))
  case first =>
    rcases hcap with hcap | hcap
    · have hz : ps.length = 0 := by have := HPb.out; omega
      have HE4:Hid (w3.setCell ⟨P,6,none⟩ (.slice (some ⟨b,off,none⟩) 0 0)=(w3.setCell ⟨P,6,none⟩ (.slice (some ⟨b,off2,none⟩) ps.length (pc - 1)))):=(by show _=_; rw [ho1 hcap,hz,hcap])
      rw [hz,hcap] at p6
      clear ho1 ho2 HS2 hz hcap HP4 HU4 HR5 HZ5 HB5
      go_wp2
      go_meet
      exact HE4
    · have HE4 : Hid (w3.setCell ⟨P, 6, none⟩ (.slice (some ⟨b, off + 1, none⟩) ps.length (pc - 1)) = (w3.setCell ⟨P, 6, none⟩ (.slice (some ⟨b, off2, none⟩) ps.length (pc - 1)))) := (by show _ = _; rw [ho2 hcap])
      have hcapi:(1:Int) < (pc:Int):=by omega
      have hlpi:(ps.length:Int) + 1≤(pc:Int):=by have:=HPb.out; omega
      clear ho1 ho2 HS2 HP4 HU4 HR5 HZ5 HB5
      go_wp2
      go_meet
      exact HE4
  case rest =>
  have hwc:=hcut
  clear hcut
  rw [← hwc.out] at HP4 HU4 HR5 HZ5 HB5
  obtain ⟨w4,hw4⟩:∃ w4,w4=wc:=⟨_,rfl⟩
  subst hw4
  clear hwc p6 r0 fz HP3 HR3 HU3 HZ3 HB3 HR4 hcap ho1 ho2 HS2
  cases e1:(p.toList == [46])
  case true =>
    have HG:Hid (gp3 x k p=(((k:Int) + 1),((k:Int) + 1),emp)):=(by show _=_; unfold gp3; rw [e1]; rfl)
    have HSt:Hid (Calls Tryz.prog 41 #[.pointer (some ⟨P,0,none⟩),.int .i64 ((k:Int) + 1)] w4 fun e w' => e=.returned (.tuple #[])∧BoxW w' P [.slice (some ⟨tb,tf,none⟩) len cap,.int .i64 now,.int .i64 u,.int .i64 g,.slice ca cl cc,.bool r,.slice (some ⟨b,off2,none⟩) ps.length (pc - 1),.bool sl,.bool th,.int .i64 lk,.int .i64 ((k:Int) + 1),.int .i64 ((k:Int) + 1),.string ⟨#[]⟩]∧ButS (some ⟨P,0,none⟩) w4 w'):=iStand_any P tb tf len cap now u g ca cl cc r _ _ _ _ _ _ _ _ _ ((k:Int) + 1) w4 HP4.out
    have hne:(((k:Int) + 1) == 0)=false:=(by simp; omega)
    have z24:w4.cell? ⟨Z,24,none⟩=some (.int .i64 ((k:Int) + 1)):=HZ5.out.at0 24 _ rfl
    have z20:w4.cell? ⟨Z,20,none⟩=some (.int .i64 x.up):=HZ5.out.at0 20 _ rfl
    clear HNf HE3
    go_wp2_with (go_at_call 41; refine HSt.out.mono ?_; rintro e w5 ⟨rfl,hb5,hu5⟩; have HP5:Hid (BoxW w5 P [.slice (some ⟨tb,tf,none⟩) len cap,.int .i64 now,.int .i64 u,.int .i64 g,.slice ca cl cc,.bool r,.slice (some ⟨b,off2,none⟩) ps.length (pc - 1),.bool sl,.bool th,.int .i64 lk,.int .i64 ((k:Int) + 1),.int .i64 ((k:Int) + 1),.string ⟨#[]⟩]):=hb5; have HU5:Hid (ButS (some ⟨P,0,none⟩) w w5):=HU4.out.trans hu5; have HR6:Hid (RowB w5 b off2 ps):=HR5.out.but hu5 (fun A e => by cases e; exact HPb.out.2.1); have p10:w5.cell? ⟨P,10,none⟩=some (.int .i64 ((k:Int) + 1)):=HP5.out.at0 10 _ rfl; clear hb5 hu5)
    go_ret
    refine ⟨HU5.out,(fun h => by cases h),fun _ h => ?_,fun _ _ => ⟨rfl,some ⟨b,off2,none⟩,pc - 1,?_,fun _ => ⟨b,off2,rfl,HPb.out.2.1,HR6.out⟩,HL4.out⟩⟩
    · rw [HG.out, hne] at h
      cases h
    · rw [HG.out]
      exact HP5.out
  cases e2:(p.toList == [46,46])
  case true =>
    have HG:Hid (gp3 x k p=(x.up,x.up,emp)):=(by show _=_; unfold gp3; rw [e1,e2]; rfl)
    have HSt:Hid (Calls Tryz.prog 41 #[.pointer (some ⟨P,0,none⟩),.int .i64 x.up] w4 fun e w' => e=.returned (.tuple #[])∧BoxW w' P [.slice (some ⟨tb,tf,none⟩) len cap,.int .i64 now,.int .i64 u,.int .i64 g,.slice ca cl cc,.bool r,.slice (some ⟨b,off2,none⟩) ps.length (pc - 1),.bool sl,.bool th,.int .i64 lk,.int .i64 x.up,.int .i64 x.up,.string ⟨#[]⟩]∧ButS (some ⟨P,0,none⟩) w4 w'):=iStand_any P tb tf len cap now u g ca cl cc r _ _ _ _ _ _ _ _ _ x.up w4 HP4.out
    have hne:(x.up == 0)=false:=(by simpa using HUp.out)
    have z24:w4.cell? ⟨Z,24,none⟩=some (.int .i64 ((k:Int) + 1)):=HZ5.out.at0 24 _ rfl
    have z20:w4.cell? ⟨Z,20,none⟩=some (.int .i64 x.up):=HZ5.out.at0 20 _ rfl
    clear HNf HE3
    go_wp2_with (go_at_call 41; refine HSt.out.mono ?_; rintro e w5 ⟨rfl,hb5,hu5⟩; have HP5:Hid (BoxW w5 P [.slice (some ⟨tb,tf,none⟩) len cap,.int .i64 now,.int .i64 u,.int .i64 g,.slice ca cl cc,.bool r,.slice (some ⟨b,off2,none⟩) ps.length (pc - 1),.bool sl,.bool th,.int .i64 lk,.int .i64 x.up,.int .i64 x.up,.string ⟨#[]⟩]):=hb5; have HU5:Hid (ButS (some ⟨P,0,none⟩) w w5):=HU4.out.trans hu5; have HR6:Hid (RowB w5 b off2 ps):=HR5.out.but hu5 (fun A e => by cases e; exact HPb.out.2.1); have p10:w5.cell? ⟨P,10,none⟩=some (.int .i64 x.up):=HP5.out.at0 10 _ rfl; clear hb5 hu5)
    go_ret
    refine ⟨HU5.out,(fun h => by cases h),fun _ h => ?_,fun _ _ => ⟨rfl,some ⟨b,off2,none⟩,pc - 1,?_,fun _ => ⟨b,off2,rfl,HPb.out.2.1,HR6.out⟩,HL4.out⟩⟩
    · rw [HG.out, hne] at h
      cases h
    · rw [HG.out]
      exact HP5.out
  have HG:Hid (gp3 x k p=(fdT x.ns p.toList x.ns.length,(k:Int) + 1,p)):=(by show _=_; unfold gp3; rw [e1,e2]; rfl)
  generalize fdT x.ns p.toList x.ns.length=fn at HNf HG
  go_upto_region 9 with fail
  refine wp_region_held_drew (S:=fun w' => w'.rangeAt Z 0 (ndV x y)∧w'.cell? ⟨Z,24,none⟩=some (.int .i64 ((k:Int) + 1))) (by kernel_rfl) (by exact ⟨dr_nd HZ5.out.at0,HZ5.out.at0 24 _ rfl⟩) (fun hHeld => ?_)
  refine wpAnyH_take (i:=0) (v:=.pointer (some ⟨P,0,none⟩)) rfl (by kernel_rfl) (by kernel_rfl) (by kernel_rfl) (fun _ _ _ h => h) (Or.inl ⟨by rfl,fun _ _ => by rfl⟩) hHeld ?_
  try simp only [Act.put,List.getElem_toArray,List.getElem_cons_zero,List.setIfInBounds_toArray,List.set_cons_zero,List.set_cons_succ]
  refine wpAnyH_take (i:=1) (v:=.pointer (some ⟨P,0,none⟩)) rfl (by kernel_rfl) (by kernel_rfl) (by kernel_rfl) (fun _ _ _ h => h) (Or.inl ⟨by rfl,fun _ _ => by rfl⟩) hHeld ?_
  try simp only [Act.put,List.getElem_toArray,List.getElem_cons_zero,List.getElem_cons_succ,List.setIfInBounds_toArray,List.set_cons_zero,List.set_cons_succ]
  refine wpAnyH_take (i:=2) (v:=.pointer (some ⟨P,0,none⟩)) rfl (by kernel_rfl) (by kernel_rfl) (by kernel_rfl) (fun _ _ _ h => h) (Or.inl ⟨by rfl,fun _ _ => by rfl⟩) hHeld ?_
  try simp only [Act.put,List.getElem_toArray,List.getElem_cons_zero,List.getElem_cons_succ,List.setIfInBounds_toArray,List.set_cons_zero,List.set_cons_succ]
  refine wpAnyH_take (i:=3) (v:=.pointer (some ⟨Z,0,none⟩)) rfl (by kernel_rfl) (by kernel_rfl) (by kernel_rfl) (fun _ _ _ h => h) (Or.inl ⟨by rfl,fun _ _ => by rfl⟩) hHeld ?_
  try simp only [Act.put,List.getElem_toArray,List.getElem_cons_zero,List.getElem_cons_succ,List.setIfInBounds_toArray,List.set_cons_zero,List.set_cons_succ]
  refine wpAnyH_take (i:=4) (v:=.agg (ndV x y).toArray) rfl (by kernel_rfl) (by kernel_rfl) (by kernel_rfl) (fun _ _ _ h => h) (yieldsIf_load_mid (by rfl) 84 _ rfl Z 0 rfl _ _ (fun _ h => h.1) Tryz.underlying84 rfl (by kernel_rfl)) hHeld ?_
  try simp only [Act.put,List.getElem_toArray,List.getElem_cons_zero,List.getElem_cons_succ,List.setIfInBounds_toArray,List.set_cons_zero,List.set_cons_succ]
  refine wpAnyH_take (i:=5) (v:=.string p) rfl (by kernel_rfl) (by kernel_rfl) (by kernel_rfl) (fun _ _ _ h => h) (Or.inl ⟨by rfl,fun _ _ => by rfl⟩) hHeld ?_
  try simp only [Act.put,List.getElem_toArray,List.getElem_cons_zero,List.getElem_cons_succ,List.setIfInBounds_toArray,List.set_cons_zero,List.set_cons_succ]
  refine wpAnyH_take (i:=7) (v:=.pointer (some ⟨Z,24,none⟩)) rfl (by kernel_rfl) (by kernel_rfl) (by kernel_rfl) (fun _ _ _ h => h) (Or.inl ⟨by rfl,fun _ _ => by rfl⟩) hHeld ?_
  try simp only [Act.put,List.getElem_toArray,List.getElem_cons_zero,List.getElem_cons_succ,List.setIfInBounds_toArray,List.set_cons_zero,List.set_cons_succ]
  refine wpAnyH_take (i:=8) (v:=.int .i64 ((k:Int) + 1)) rfl (by kernel_rfl) (by kernel_rfl) (by kernel_rfl) (fun _ _ _ h => h) (Or.inl ⟨by rfl,fun _ h => by have h0:=h.2; go_simp⟩) hHeld ?_
  try simp only [Act.put,List.getElem_toArray,List.getElem_cons_zero,List.getElem_cons_succ,List.setIfInBounds_toArray,List.set_cons_zero,List.set_cons_succ]
  refine wpAnyH_take (i:=9) (v:=.string p) rfl (by kernel_rfl) (by kernel_rfl) (by kernel_rfl) (fun _ _ _ h => h) (Or.inl ⟨by rfl,fun _ _ => by rfl⟩) hHeld ?_
  try simp only [Act.put,List.getElem_toArray,List.getElem_cons_zero,List.getElem_cons_succ,List.setIfInBounds_toArray,List.set_cons_zero,List.set_cons_succ]
  refine wpAnyH_ready (rs:=[6]) (by kernel_rfl) (by simp) ?_
  refine AllReadyH.cons rfl (fun K hK => ?_) AllReadyH.nil
  rw [if_pos (by rfl)]
  go_simp
  refine (HNf.out _ (bl_drewL HB5.out)).mono ?_
  rintro e w5 ⟨rfl,hb5'⟩
  simp only []
  have hb5:Below w4.heap.size w4 w5:=⟨hb5'.os,hb5'.tape,hb5'.output,hb5'.size,hb5'.block⟩
  have HZ6:Hid (BoxW w5 Z (drV x y ((k:Int) + 1))):=HZ5.out.below hb5
  have HP6:Hid (BoxW w5 P [.slice (some ⟨tb,tf,none⟩) len cap,.int .i64 now,.int .i64 u,.int .i64 g,.slice ca cl cc,.bool r,.slice (some ⟨b,off2,none⟩) ps.length (pc - 1),.bool sl,.bool th,.int .i64 lk,.int .i64 ((k:Int) + 1),.int .i64 d,.string nm]):=HP4.out.below hb5
  have HR6:Hid (RowB w5 b off2 ps):=HR5.out.below hb5
  have HU6:Hid (ButS (some ⟨P,0,none⟩) w w5):=HU4.out.on hb5
  have HB6:Hid (Below wb.heap.size wb w5):=Below.on HB5.out hb5
  clear HZ5 HP4 HR5 HU4 HB5 hb5 hb5' HNf hHeld
  refine hK.out _ _ ⟨dr_nd HZ6.out.at0,HZ6.out.at0 24 _ rfl⟩ (fun hHeld => ?_)
  clear hK K
  try simp only [Act.put,List.getElem_toArray,List.getElem_cons_zero,List.getElem_cons_succ,List.setIfInBounds_toArray,List.set_cons_zero,List.set_cons_succ]
  refine wpAnyH_take (i:=10) (v:=.pointer (some ⟨P,0,none⟩)) rfl (by kernel_rfl) (by kernel_rfl) (by kernel_rfl) (fun _ _ _ h => h) (Or.inl ⟨by rfl,fun _ _ => by rfl⟩) hHeld ?_
  try simp only [Act.put,List.getElem_toArray,List.getElem_cons_zero,List.getElem_cons_succ,List.setIfInBounds_toArray,List.set_cons_zero,List.set_cons_succ]
  refine wpAnyH_take (i:=11) (v:=.pointer (some ⟨P,10,none⟩)) rfl (by kernel_rfl) (by kernel_rfl) (by kernel_rfl) (fun _ _ _ h => h) (Or.inl ⟨by rfl,fun _ _ => by rfl⟩) hHeld ?_
  try simp only [Act.put,List.getElem_toArray,List.getElem_cons_zero,List.getElem_cons_succ,List.setIfInBounds_toArray,List.set_cons_zero,List.set_cons_succ]
  refine wpAnyH_ready (rs:=[12]) (by kernel_rfl) (by simp) ?_
  refine AllReadyH.cons rfl (fun K hK => ?_) AllReadyH.nil
  rw [if_pos (by rfl)]
  have c6:w5.cell? ⟨P,10,none⟩=some (.int .i64 ((k:Int) + 1)):=HP6.out.at0 10 _ rfl
  have fz6:=HP6.out.frz
  go_simp
  have HZ7:Hid (BoxW (w5.setCell ⟨P,10,none⟩ (.int .i64 fn)) Z (drV x y ((k:Int) + 1))):=HZ6.out.butS (ButS.refl (some ⟨P,0,none⟩) _).set (fun A e => by cases e; have:=HPZ.out; simp only; omega)
  have HP7:Hid (BoxW (w5.setCell ⟨P,10,none⟩ (.int .i64 fn)) P [.slice (some ⟨tb,tf,none⟩) len cap,.int .i64 now,.int .i64 u,.int .i64 g,.slice ca cl cc,.bool r,.slice (some ⟨b,off2,none⟩) ps.length (pc - 1),.bool sl,.bool th,.int .i64 lk,.int .i64 fn,.int .i64 d,.string nm]):=HP6.out.set 10 (by simp) (.int .i64 fn)
  have HR7:Hid (RowB (w5.setCell ⟨P,10,none⟩ (.int .i64 fn)) b off2 ps):=HR6.out.but (ButS.refl (some ⟨P,0,none⟩) _).set (fun A e => by cases e; exact HPb.out.2.1)
  have HU7:Hid (ButS (some ⟨P,0,none⟩) w (w5.setCell ⟨P,10,none⟩ (.int .i64 fn))):=HU6.out.set
  have HB7:Hid (Below wb.heap.size wb (w5.setCell ⟨P,10,none⟩ (.int .i64 fn))):=setS HB6.out HPb.out.1
  refine hK.out _ _ ⟨dr_nd HZ7.out.at0,HZ7.out.at0 24 _ rfl⟩ (fun hHeld => ?_)
  clear hK K c6 fz6 HZ6 HP6 HR6 HU6 HB6
  generalize (w5.setCell ⟨P,10,none⟩ (.int .i64 fn))=w6 at HZ7 HP7 HR7 HU7 HB7 hHeld ⊢
  try simp only [Act.put,List.getElem_toArray,List.getElem_cons_zero,List.getElem_cons_succ,List.setIfInBounds_toArray,List.set_cons_zero,List.set_cons_succ]
  refine wpAnyH_take (i:=13) (v:=.pointer (some ⟨P,0,none⟩)) rfl (by kernel_rfl) (by kernel_rfl) (by kernel_rfl) (fun _ _ _ h => h) (Or.inl ⟨by rfl,fun _ _ => by rfl⟩) hHeld ?_
  try simp only [Act.put,List.getElem_toArray,List.getElem_cons_zero,List.getElem_cons_succ,List.setIfInBounds_toArray,List.set_cons_zero,List.set_cons_succ]
  refine wpAnyH_take (i:=14) (v:=.pointer (some ⟨P,11,none⟩)) rfl (by kernel_rfl) (by kernel_rfl) (by kernel_rfl) (fun _ _ _ h => h) (Or.inl ⟨by rfl,fun _ _ => by rfl⟩) hHeld ?_
  try simp only [Act.put,List.getElem_toArray,List.getElem_cons_zero,List.getElem_cons_succ,List.setIfInBounds_toArray,List.set_cons_zero,List.set_cons_succ]
  refine wpAnyH_ready (rs:=[15]) (by kernel_rfl) (by simp) ?_
  refine AllReadyH.cons rfl (fun K hK => ?_) AllReadyH.nil
  rw [if_pos (by rfl)]
  have c7:w6.cell? ⟨P,11,none⟩=some (.int .i64 d):=HP7.out.at0 11 _ rfl
  have fz7:=HP7.out.frz
  go_simp
  have HZ8:Hid (BoxW (w6.setCell ⟨P,11,none⟩ (.int .i64 ((k:Int) + 1))) Z (drV x y ((k:Int) + 1))):=HZ7.out.butS (ButS.refl (some ⟨P,0,none⟩) _).set (fun A e => by cases e; have:=HPZ.out; simp only; omega)
  have HP8:Hid (BoxW (w6.setCell ⟨P,11,none⟩ (.int .i64 ((k:Int) + 1))) P [.slice (some ⟨tb,tf,none⟩) len cap,.int .i64 now,.int .i64 u,.int .i64 g,.slice ca cl cc,.bool r,.slice (some ⟨b,off2,none⟩) ps.length (pc - 1),.bool sl,.bool th,.int .i64 lk,.int .i64 fn,.int .i64 ((k:Int) + 1),.string nm]):=HP7.out.set 11 (by simp) (.int .i64 ((k:Int) + 1))
  have HR8:Hid (RowB (w6.setCell ⟨P,11,none⟩ (.int .i64 ((k:Int) + 1))) b off2 ps):=HR7.out.but (ButS.refl (some ⟨P,0,none⟩) _).set (fun A e => by cases e; exact HPb.out.2.1)
  have HU8:Hid (ButS (some ⟨P,0,none⟩) w (w6.setCell ⟨P,11,none⟩ (.int .i64 ((k:Int) + 1)))):=HU7.out.set
  have HB8:Hid (Below wb.heap.size wb (w6.setCell ⟨P,11,none⟩ (.int .i64 ((k:Int) + 1)))):=setS HB7.out HPb.out.1
  refine hK.out _ _ ⟨dr_nd HZ8.out.at0,HZ8.out.at0 24 _ rfl⟩ (fun hHeld => ?_)
  clear hK K c7 fz7 HZ7 HP7 HR7 HU7 HB7
  generalize (w6.setCell ⟨P,11,none⟩ (.int .i64 ((k:Int) + 1)))=w7 at HZ8 HP8 HR8 HU8 HB8 hHeld ⊢
  try simp only [Act.put,List.getElem_toArray,List.getElem_cons_zero,List.getElem_cons_succ,List.setIfInBounds_toArray,List.set_cons_zero,List.set_cons_succ]
  refine wpAnyH_take (i:=16) (v:=.pointer (some ⟨P,0,none⟩)) rfl (by kernel_rfl) (by kernel_rfl) (by kernel_rfl) (fun _ _ _ h => h) (Or.inl ⟨by rfl,fun _ _ => by rfl⟩) hHeld ?_
  try simp only [Act.put,List.getElem_toArray,List.getElem_cons_zero,List.getElem_cons_succ,List.setIfInBounds_toArray,List.set_cons_zero,List.set_cons_succ]
  refine wpAnyH_take (i:=17) (v:=.pointer (some ⟨P,12,none⟩)) rfl (by kernel_rfl) (by kernel_rfl) (by kernel_rfl) (fun _ _ _ h => h) (Or.inl ⟨by rfl,fun _ _ => by rfl⟩) hHeld ?_
  try simp only [Act.put,List.getElem_toArray,List.getElem_cons_zero,List.getElem_cons_succ,List.setIfInBounds_toArray,List.set_cons_zero,List.set_cons_succ]
  refine wpAnyH_ready (rs:=[18]) (by kernel_rfl) (by simp) ?_
  refine AllReadyH.cons rfl (fun K hK => ?_) AllReadyH.nil
  rw [if_pos (by rfl)]
  have c8:w7.cell? ⟨P,12,none⟩=some (.string nm):=HP8.out.at0 12 _ rfl
  have fz8:=HP8.out.frz
  go_simp
  have HZ9:Hid (BoxW (w7.setCell ⟨P,12,none⟩ (.string p)) Z (drV x y ((k:Int) + 1))):=HZ8.out.butS (ButS.refl (some ⟨P,0,none⟩) _).set (fun A e => by cases e; have:=HPZ.out; simp only; omega)
  have HP9:Hid (BoxW (w7.setCell ⟨P,12,none⟩ (.string p)) P [.slice (some ⟨tb,tf,none⟩) len cap,.int .i64 now,.int .i64 u,.int .i64 g,.slice ca cl cc,.bool r,.slice (some ⟨b,off2,none⟩) ps.length (pc - 1),.bool sl,.bool th,.int .i64 lk,.int .i64 fn,.int .i64 ((k:Int) + 1),.string p]):=HP8.out.set 12 (by simp) (.string p)
  have HR9:Hid (RowB (w7.setCell ⟨P,12,none⟩ (.string p)) b off2 ps):=HR8.out.but (ButS.refl (some ⟨P,0,none⟩) _).set (fun A e => by cases e; exact HPb.out.2.1)
  have HU9:Hid (ButS (some ⟨P,0,none⟩) w (w7.setCell ⟨P,12,none⟩ (.string p))):=HU8.out.set
  have HB9:Hid (Below wb.heap.size wb (w7.setCell ⟨P,12,none⟩ (.string p))):=setS HB8.out HPb.out.1
  refine hK.out _ _ ⟨dr_nd HZ9.out.at0,HZ9.out.at0 24 _ rfl⟩ (fun hHeld => ?_)
  clear hK K c8 fz8 HZ8 HP8 HR8 HU8 HB8
  generalize (w7.setCell ⟨P,12,none⟩ (.string p))=w8 at HZ9 HP9 HR9 HU9 HB9 hHeld ⊢
  try simp only [Act.put,List.getElem_toArray,List.getElem_cons_zero,List.getElem_cons_succ,List.setIfInBounds_toArray,List.set_cons_zero,List.set_cons_succ]
  refine wpAnyH_done (by kernel_rfl) ?_ _
  clear hHeld HZ9
  have p10:w8.cell? ⟨P,10,none⟩=some (.int .i64 fn):=HP9.out.at0 10 _ rfl
  have p6:w8.cell? ⟨P,6,none⟩=some (.slice (some ⟨b,off2,none⟩) ps.length (pc - 1)):=HP9.out.at0 6 _ rfl
  cases hf:(fn == 0)
  · clear HE3
    go_wp2
    go_ret
    refine ⟨HU9.out,(fun h => by cases h),fun _ h => ?_,fun _ _ => ⟨rfl,some ⟨b,off2,none⟩,pc - 1,?_,fun _ => ⟨b,off2,rfl,HPb.out.2.1,HR9.out⟩,HL4.out⟩⟩
    · rw [HG.out, hf] at h
      cases h
    · rw [HG.out]
      exact HP9.out
  · by_cases hz : ps = []
    · have hz0 : ps.length = 0 := by rw [hz]; rfl
      have hze:ps.isEmpty=true:=by rw [hz]; rfl
      have hzi:(decide ((ps.length:Int) > 0))=false:=by simp [hz0]
      have p6':w8.cell? ⟨P,6,none⟩=some (.slice (some ⟨b,off2,none⟩) 0 (pc - 1)):=by rw [p6,hz0]
      clear p6 HE3
      go_wp2
      go_ret
      refine ⟨HU9.out,(fun h => by cases h),fun _ h => ?_,fun _ _ => ⟨rfl,some ⟨b,off2,none⟩,pc - 1,?_,fun _ => ⟨b,off2,rfl,HPb.out.2.1,HR9.out⟩,HL4.out⟩⟩
      · rw [hze, Bool.not_true, Bool.and_false] at h
        cases h
      · rw [HG.out]
        exact HP9.out
    · have hzl : 0 < ps.length := List.length_pos_iff.2 hz
      have hzi:(0:Int) < (ps.length:Int):=by omega
      have hze:ps.isEmpty=false:=by cases ps with
        | nil => exact absurd rfl hz
        | cons _ _ => rfl
      have e5:=HE3.out _ HB9.out
      clear HE3
      go_wp2
      go_ret
      refine ⟨HU9.out,(fun h => by cases h),fun _ _ => rfl,fun _ h => ?_⟩
      rw [HG.out,hf,hze] at h
      cases h
end Go.Proofs.YtabfdidnjibdeaaGreatDoor
/- A part of a way, as impl goes it, and as it is told: mathematics. -/
namespace Go.Proofs.YtabfdidnjibdeaaGreatDoor
open Go.RowKit Go.PlainAid Go.Deep
set_option linter.unusedVariables false
theorem knd_th {l:List Nd} {j:Nat} (h:thB l ((j:Int) + 1)=true):kndB l ((j:Int) + 1)=(ndAt l j).k:=by
  rw [kndB,thB_num h,at_succ]
  rfl
theorem knd_zero (l:List Nd):kndB l 0=0:=by
  have h:inR 1 l.length 0=false:=by
    cases e:inR 1 l.length 0
    · rfl
    · have := inR_iff.1 e
      omega
  rw [kndB,h]
  rfl
theorem knd_dir {l:List Nd} {n:Int} (h:diB l n=true):kndB l n=1:=by
  have ht:=diB_th h
  obtain ⟨j,hj,_⟩:=th_num ht
  subst hj
  rw [knd_th ht]
  rw [diB_in ht] at h
  simpa using h
/-- The link's way on. -/
def wlk (l:List Nd) (s:Wy) (j:Nat) (ps:List ByteArray):Wy:=⟨if firB (ndAt l j).bo then 1 else s.at_,if firB (ndAt l j).bo then 1 else s.at_,emp,pbo (ndAt l j).bo ++ ps,s.lk + 1⟩
/-- What a part comes to at a directory that lets one in. -/
structure GpM (l:List Nd) (fs:Bool) (s:Wy) (ps:List ByteArray) (g:Int × Int × ByteArray) (q:Int × Wy):Prop where
  gone:(g.1 == 0 && !ps.isEmpty)=true→q=(6,s)
  on:(g.1 == 0 && !ps.isEmpty)=false→(kndB l g.1 == 3 && (fs || !ps.isEmpty))=false→q=(0,⟨g.1,g.2.1,g.2.2,ps,s.lk⟩)
  link:(kndB l g.1 == 3 && (fs || !ps.isEmpty))=true→∃ j:Nat,g.1=(j:Int) + 1∧thB l ((j:Int) + 1)=true∧((ndAt l j).k == 3)=true∧g.2.1=s.at_∧q=if 8≤s.lk then (14,s) else (0,wlk l s j ps)
theorem GpM.stay {l:List Nd} {fs:Bool} {s:Wy} {ps:List ByteArray} {g:Int × Int × ByteArray} {q:Int × Wy} (h0:(g.1 == 0)=false) (hk:kndB l g.1=1) (hq:q=(0,⟨g.1,g.2.1,g.2.2,ps,s.lk⟩)):GpM l fs s ps g q :=
  ⟨fun h => (by rw [h0] at h; cases h),fun _ _ => hq,fun h => (by rw [hk] at h; cases h)⟩
theorem gp_math {l:List Nd} {now:Int} {lt:Nat→Bool} {fs:Bool} {s:Wy} {k:Nat} {p:ByteArray} {ps:List ByteArray} (ht:treeB l now=true) (hk:s.at_=(k:Int) + 1) (hd:diB l ((k:Int) + 1)=true) (hlt:lt k=true):GpM l fs s ps (gp3 (ndAt l k) k p) (wst l lt fs s p ps):=by
  have hkk:((ndAt l k).k == 1)=true:=by
    have h:=hd
    rw [diB_in (diB_th hd)] at h
    exact h
  have hW:wst l lt fs s p ps=(if p.toList == [46] then (0,⟨s.at_,s.at_,emp,ps,s.lk⟩) else if p.toList == [46,46] then (0,⟨(ndAt l k).up,(ndAt l k).up,emp,ps,s.lk⟩) else went l fs s p ps (fdT (ndAt l k).ns p.toList (ndAt l k).ns.length)):=by
    unfold wst
    have hkn:((k:Int) + 1 - 1).toNat=k:=by omega
    rw [hk,hkn,hkk,hlt]
    rfl
  rw [hW]
  unfold gp3
  cases e1:(p.toList == [46])
  case true =>
    have h1:kndB l ((k:Int) + 1)=1:=knd_dir hd
    have h0:((k:Int) + 1 == 0)=false:=by simp; omega
    exact GpM.stay h0 h1 (by rw [hk]; rfl)
  cases e2:(p.toList == [46,46])
  case true =>
    have hup:=(dir_facts ht hd).up
    have h1:kndB l (ndAt l k).up=1:=knd_dir hup
    have h0:((ndAt l k).up == 0)=false:=by
      obtain ⟨j,hj,_⟩:=th_num (diB_th hup)
      rw [hj]
      simp
      omega
    exact GpM.stay h0 h1 rfl
  simp only [Bool.false_eq_true,if_false]
  have hns:=(nsB_T (dir_facts ht hd).ns).2
  have hnt:fdT (ndAt l k).ns p.toList (ndAt l k).ns.length ≠ 0→thB l (fdT (ndAt l k).ns p.toList (ndAt l k).ns.length)=true:=fun e => fdT_there _ hns e
  generalize fdT (ndAt l k).ns p.toList (ndAt l k).ns.length=n at hnt ⊢
  unfold went
  cases e3:(n == 0)
  case true =>
    have hn:n=0:=by simpa using e3
    subst hn
    have hno:∀ b:Bool,(kndB l 0 == 3 && b)=true→False:=fun b h => by
      rw [knd_zero] at h
      cases h
    cases e4:ps.isEmpty
    · exact ⟨fun _ => rfl,(fun h => by rw [e4] at h; cases h),(fun h => (hno _ h).elim)⟩
    · have hz : ps = [] := by simpa using e4
      subst hz
      exact ⟨(fun h => by cases h),fun _ _ => by rw [hk]; rfl,(fun h => (hno _ h).elim)⟩
  have hn0:n ≠ 0:=by simpa using e3
  obtain ⟨j,hj,_⟩:=th_num (hnt hn0)
  have hth:=hnt hn0
  subst hj
  rw [at_succ]
  have hkn:=knd_th hth
  refine ⟨(fun h => by simp only [e3,Bool.false_and] at h; cases h),fun _ h => ?_,fun h => ⟨j,rfl,hth,?_,by rw [hk],?_⟩⟩
  all_goals simp only [hkn] at h
  · simp only [Bool.false_eq_true, if_false]
    rw [h]
    simp only [Bool.false_eq_true,if_false]
    rw [hk]
  · simp only [Bool.and_eq_true] at h
    exact h.1
  · simp only [Bool.false_eq_true, if_false]
    rw [h]
    simp only [if_true,wlk]
    split
    · rfl
    · split <;> rfl
/-- Why a way ends, as an error. -/
def eOf (E1 E2 E3 E4:Value) (c:Int):Value:=if c == 12 then E1 else if c == 11 then E2 else if c == 6 then E3 else E4
/-- How much is left, by impl's way. -/
def wMi (w:World) (P:Nat):Nat:=match w.cell? ⟨P,9,none⟩,w.cell? ⟨P,6,none⟩ with
  | some (.int _ k),some (.slice _ n _) => (9 - k.toNat) * 1000 + n
  | _,_ => 0
theorem wMi_at {w:World} {P:Nat} {k:IntKind} {lk:Int} {pa:Option Addr} {n c:Nat} (h9:w.cell? ⟨P,9,none⟩=some (.int k lk)) (h6:w.cell? ⟨P,6,none⟩=some (.slice pa n c)):wMi w P=(9 - lk.toNat) * 1000 + n:=by
  simp only [wMi,h9,h6]
end Go.Proofs.YtabfdidnjibdeaaGreatDoor
