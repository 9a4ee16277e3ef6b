/- Laid together: WkI4. -/
import Derived.Test.YtdgejnaceeoooaaGreatDoorBW24
/- impl's way.goPart, where no directory is. -/

namespace Go.Proofs.YtdgejnaceeoooaaGreatDoor
open Go.RowKit Go.PlainAid Go.Deep
set_option linter.unusedVariables false
theorem drSt2 (x : Nd) (y : Na) (n : Int) {w : World} {Z : Nat} (ht : w.there Z 0 25) : Sem.run Tryz.prog (storeCells ⟨Z, 0, none⟩ (drV x y n)) w = .ok () (w.setCells Z 0 (drV x y n)) := by
  have := run_storeCells_cells (P := Tryz.prog) Z 0 (drV x y n) 0 w (fun j hj => by rw [Nat.add_zero]; exact (ht j (by rw [drV_len] at hj; exact hj)).1) (fun j hj => by rw [Nat.add_zero]; exact (ht j (by rw [drV_len] at hj; exact hj)).2) (fun v hv => (Array.all_eq_true_iff_forall_mem.1 (drV_ones x y n)) v (by simp only [List.mem_toArray]; exact hv))
  simpa only [Nat.zero_add, Nat.add_zero] using this
theorem drSt (x : Nd) (y : Na) (n : Int) (w : World) : Sem.run Tryz.prog (storeCells ⟨w.heap.size, 0, none⟩ (drV x y n)) (w.alloc (.cells #[.int .i64 0, .int .i64 0, .int .i64 0, .int .i64 0, .int .i64 0, .int .i64 0, .int .i64 0, .slice none 0 0, .slice none 0 0, .bool false, .int .i64 0, .bool false, .int .i64 0, .int .i64 0, .int .i64 0, .slice none 0 0, .slice none 0 0, .bool false, .int .i64 0, .int .i64 0, .int .i64 0, .string ⟨#[]⟩, .slice none 0 0, .int .i64 0, .int .i64 0] 162)) = .ok () ((w.alloc (.cells #[.int .i64 0, .int .i64 0, .int .i64 0, .int .i64 0, .int .i64 0, .int .i64 0, .int .i64 0, .slice none 0 0, .slice none 0 0, .bool false, .int .i64 0, .bool false, .int .i64 0, .int .i64 0, .int .i64 0, .slice none 0 0, .slice none 0 0, .bool false, .int .i64 0, .int .i64 0, .int .i64 0, .string ⟨#[]⟩, .slice none 0 0, .int .i64 0, .int .i64 0] 162)).setCells w.heap.size 0 (drV x y n)) := drSt2 _ _ _ (there25 w)
attribute [local go_sem] drSt drV_len
set_option maxRecDepth 20000 in
set_option maxHeartbeats 8000000 in
theorem iGoPart_no (wb : World) (P : Nat) (tb tf len cap : Nat) (now : Int) (u g : Int) (ca : Option Addr) (cl cc : Nat) (r : Bool) (l : List Nd) (ps : List ByteArray) (pa : Option Addr) (pc : Nat) (sl th : Bool) (lk n d : Int) (nm : ByteArray) (E : Value) (hl : len ≤ 12) (hd : diB l n = false)
    (hE : wb.cell? ⟨1, 0, none⟩ = some E) (hi : Nds (some ⟨tb, tf, none⟩) len l wb) (w : World) (hB : Below wb.heap.size wb w) (hPb : wb.heap.size ≤ P) (hP : BoxW w P [.slice (some ⟨tb, tf, none⟩) len cap, .int .i64 now, .int .i64 u, .int .i64 g, .slice ca cl cc, .bool r, .slice pa (ps.length + 1) pc, .bool sl, .bool th, .int .i64 lk, .int .i64 n, .int .i64 d, .string nm]) :
    Calls Tryz.prog 81 #[.pointer (some ⟨P, 0, none⟩)] w fun e w' => e = .returned E ∧ Below w.heap.size w w' := by
  have hel := block_lt_of_cell hE
  have HP : Hid (BoxW w P [.slice (some ⟨tb, tf, none⟩) len cap, .int .i64 now, .int .i64 u, .int .i64 g, .slice ca cl cc, .bool r, .slice pa (ps.length + 1) pc, .bool sl, .bool th, .int .i64 lk, .int .i64 n, .int .i64 d, .string nm]) := hP
  have HBw : Hid (Below wb.heap.size wb w) := hB
  have HC : Hid (∀ w', Below wb.heap.size wb w' → Calls Tryz.prog 127 #[.agg #[.slice (some ⟨tb, tf, none⟩) len cap, .int .i64 now], .int .i64 n] w' fun e w'' => e = .returned (.tuple #[.agg (drV ndZ naZ 0).toArray, .bool false]) ∧ Below w'.heap.size w' w'') := (fun w' hb => iDirAt_no _ len cap l now n (by omega) w' (hi.below hb) hd)
  have HE : Hid (∀ w', Below wb.heap.size wb w' → w'.cell? ⟨1, 0, none⟩ = some E) := (fun w' hb => (hb.cell (p := ⟨_, 0, none⟩) hel).trans hE)
  clear hE hi hB hP hel hd
  have p0 : w.cell? ⟨P, 0, none⟩ = some (.slice (some ⟨tb, tf, none⟩) len cap) := HP.out.at0 0 _ rfl
  have p1 : w.cell? ⟨P, 1, none⟩ = some (.int .i64 now) := HP.out.at0 1 _ rfl
  have p10 : w.cell? ⟨P, 10, none⟩ = some (.int .i64 n) := HP.out.at0 10 _ rfl
  go_enter Tryz.func81, Tryz.ntmps81
  go_upto_region 1 with fail
  have q0 : (w.alloc (.cells #[.int .i64 0, .int .i64 0, .int .i64 0, .int .i64 0, .int .i64 0, .int .i64 0, .int .i64 0, .slice none 0 0, .slice none 0 0, .bool false, .int .i64 0, .bool false, .int .i64 0, .int .i64 0, .int .i64 0, .slice none 0 0, .slice none 0 0, .bool false, .int .i64 0, .int .i64 0, .int .i64 0, .string ⟨#[]⟩, .slice none 0 0, .int .i64 0, .int .i64 0] 162)).cell? ⟨P, 0, none⟩ = some (.slice (some ⟨tb, tf, none⟩) len cap) := (HP.out.below (bel_alloc _ _)).at0 0 _ rfl
  have q1 : (w.alloc (.cells #[.int .i64 0, .int .i64 0, .int .i64 0, .int .i64 0, .int .i64 0, .int .i64 0, .int .i64 0, .slice none 0 0, .slice none 0 0, .bool false, .int .i64 0, .bool false, .int .i64 0, .int .i64 0, .int .i64 0, .slice none 0 0, .slice none 0 0, .bool false, .int .i64 0, .int .i64 0, .int .i64 0, .string ⟨#[]⟩, .slice none 0 0, .int .i64 0, .int .i64 0] 162)).cell? ⟨P, 1, none⟩ = some (.int .i64 now) := (HP.out.below (bel_alloc _ _)).at0 1 _ rfl
  have q10 : (w.alloc (.cells #[.int .i64 0, .int .i64 0, .int .i64 0, .int .i64 0, .int .i64 0, .int .i64 0, .int .i64 0, .slice none 0 0, .slice none 0 0, .bool false, .int .i64 0, .bool false, .int .i64 0, .int .i64 0, .int .i64 0, .slice none 0 0, .slice none 0 0, .bool false, .int .i64 0, .int .i64 0, .int .i64 0, .string ⟨#[]⟩, .slice none 0 0, .int .i64 0, .int .i64 0] 162)).cell? ⟨P, 10, none⟩ = some (.int .i64 n) := (HP.out.below (bel_alloc _ _)).at0 10 _ rfl
  have HA : Hid (Below w.heap.size w (w.alloc (.cells #[.int .i64 0, .int .i64 0, .int .i64 0, .int .i64 0, .int .i64 0, .int .i64 0, .int .i64 0, .slice none 0 0, .slice none 0 0, .bool false, .int .i64 0, .bool false, .int .i64 0, .int .i64 0, .int .i64 0, .slice none 0 0, .slice none 0 0, .bool false, .int .i64 0, .int .i64 0, .int .i64 0, .string ⟨#[]⟩, .slice none 0 0, .int .i64 0, .int .i64 0] 162)).drew) := bl_drewL (bel_alloc _ _)
  have HX : Hid (BoxW (w.alloc (.cells #[.int .i64 0, .int .i64 0, .int .i64 0, .int .i64 0, .int .i64 0, .int .i64 0, .int .i64 0, .slice none 0 0, .slice none 0 0, .bool false, .int .i64 0, .bool false, .int .i64 0, .int .i64 0, .int .i64 0, .slice none 0 0, .slice none 0 0, .bool false, .int .i64 0, .int .i64 0, .int .i64 0, .string ⟨#[]⟩, .slice none 0 0, .int .i64 0, .int .i64 0] 162)).drew w.heap.size (drV ndZ naZ 0)) := (boxW_new w (drV ndZ naZ 0) 162).below (bl_drewL (Below.refl _ _))
  go_region_law (first
    | (go_simp; go_at_call 127; refine (HC.out _ (bl_drewL HBw.out)).mono ?_; rintro e w4 ⟨rfl, hb4⟩; have hb4' : Below w.heap.size w w4 := ⟨hb4.os, hb4.tape, hb4.output, hb4.size, hb4.block⟩; have HF : Hid (Below w.heap.size w ((w4.alloc (.cells #[.int .i64 0, .int .i64 0, .int .i64 0, .int .i64 0, .int .i64 0, .int .i64 0, .int .i64 0, .slice none 0 0, .slice none 0 0, .bool false, .int .i64 0, .bool false, .int .i64 0, .int .i64 0, .int .i64 0, .slice none 0 0, .slice none 0 0, .bool false, .int .i64 0, .int .i64 0, .int .i64 0, .string ⟨#[]⟩, .slice none 0 0, .int .i64 0, .int .i64 0] 162)).setCells w4.heap.size 0 (drV ndZ naZ 0))) := bl_setsT hb4'.size _ _ (Below.on hb4' (bel_alloc _ _)); clear hb4 hb4')
    | (go_simp; go_at_call 127; refine (HC.out _ (Below.on HBw.out HA.out)).mono ?_; rintro e w4 ⟨rfl, hb4⟩; have HX4 : Hid (BoxW w4 w.heap.size (drV ndZ naZ 0)) := HX.out.below hb4; have hst : Sem.run Tryz.prog (storeCells ⟨w.heap.size, 0, none⟩ (drV ndZ naZ 0)) w4 = .ok () (w4.setCells w.heap.size 0 (drV ndZ naZ 0)) := drSt2 _ _ _ (HX4.out.there 0 25 (by simp [drV])); have HF : Hid (Below w.heap.size w (w4.setCells w.heap.size 0 (drV ndZ naZ 0))) := bl_setsT (Nat.le_refl _) _ _ (Below.on HA.out hb4); clear hb4 HX4))
  all_goals
    first
    | generalize ((w4.alloc (.cells #[.int .i64 0, .int .i64 0, .int .i64 0, .int .i64 0, .int .i64 0, .int .i64 0, .int .i64 0, .slice none 0 0, .slice none 0 0, .bool false, .int .i64 0, .bool false, .int .i64 0, .int .i64 0, .int .i64 0, .slice none 0 0, .slice none 0 0, .bool false, .int .i64 0, .int .i64 0, .int .i64 0, .string ⟨#[]⟩, .slice none 0 0, .int .i64 0, .int .i64 0] 162)).setCells w4.heap.size 0 (drV ndZ naZ 0)) = w5 at HF ⊢
    | generalize (w4.setCells w.heap.size 0 (drV ndZ naZ 0)) = w5 at HF ⊢
    have e5 := HE.out _ (Below.on HBw.out HF.out)
    clear HA HX q0 q1 q10 p0 p1 p10 HE HC HP
    go_wp2
    go_ret
    exact ⟨rfl, HF.out⟩
end Go.Proofs.YtdgejnaceeoooaaGreatDoor
