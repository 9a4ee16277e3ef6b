/- TreeNew, both sides. -/
import Derived.Test.YtgodbelcddgdmaaTnM
import Derived.Deep.RegionHeld3
namespace Go.Proofs.Ytgodbelcddgdmaa
open Go.RowKit Go.PlainAid Go.Deep
set_option linter.unusedVariables false
set_option linter.unusedSimpArgs false
theorem infoNodeT : (Try.prog.info? 43).map (fun i => (i.zero, i.size, i.bytes)) = some (some (.agg #[.int .i64 0, .int .i64 0, .int .i64 0, .int .i64 0, .int .i64 0, .int .i64 0, .int .i64 0, .slice none 0 0, .slice none 0 0, .bool false, .int .i64 0, .bool false, .int .i64 0, .int .i64 0, .int .i64 0, .slice none 0 0, .slice none 0 0, .bool false, .int .i64 0, .int .i64 0, .int .i64 0, .string ⟨#[]⟩, .slice none 0 0, .int .i64 0]), 24, 280) := by kernel_rfl
set_option maxRecDepth 20000 in
set_option maxHeartbeats 8000000 in
theorem iTreeNew_any (o g m : Int) (w : World) :
    Calls Try.prog 6 #[.int .i64 o, .int .i64 g, .int .i64 m] w (TnEnd w o g m) := by
  have HE : Hid (tnO o g m = (inR 0 9999 o && (inR 0 9999 g && inR 0 4095 m))) := rfl
  have HId : Hid (∀ n w, Calls Try.prog 19 #[.int .i64 n] w fun e w' => e = .returned (.bool (inR 0 9999 n)) ∧ w' = w) := (fun n w => isId_any n w)
  have HMo : Hid (∀ n w, Calls Try.prog 20 #[.int .i64 n] w fun e w' => e = .returned (.bool (inR 0 4095 n)) ∧ w' = w) := (fun n w => isMode_any n w)
  have HMn : Hid (inR 0 4095 m = true → 0 ≤ m ∧ m ≤ 4095) := (fun h => inR_iff.1 h)
  have HB : Hid (Below w.heap.size w (w.alloc (.cells #[.slice none 0 0, .int .i64 0, .int .i64 0, .int .i64 0] 26))) := bel_alloc _ _
  have HX : Hid (BoxW (w.alloc (.cells #[.slice none 0 0, .int .i64 0, .int .i64 0, .int .i64 0] 26)) w.heap.size [.slice none 0 0, .int .i64 0, .int .i64 0, .int .i64 0]) := boxW_new w [.slice none 0 0, .int .i64 0, .int .i64 0, .int .i64 0] 26
  go_enter Try.func6, Try.ntmps6
  go_upto_region 1 with fail
  generalize w.alloc (.cells #[.slice none 0 0, .int .i64 0, .int .i64 0, .int .i64 0] 26) = w0 at HB HX ⊢
  obtain ⟨X, hX⟩ : ∃ X, X = w.heap.size := ⟨_, rfl⟩
  have HXw : Hid (X = w.heap.size) := hX
  rw [← hX] at HX ⊢
  clear hX
  have x0 : w0.cell? ⟨X, 0, none⟩ = some (.slice none 0 0) := HX.out.at0 0 _ rfl
  have x1 : w0.cell? ⟨X, 1, none⟩ = some (.int .i64 0) := HX.out.at0 1 _ rfl
  have x2 : w0.cell? ⟨X, 2, none⟩ = some (.int .i64 0) := HX.out.at0 2 _ rfl
  have x3 : w0.cell? ⟨X, 3, none⟩ = some (.int .i64 0) := HX.out.at0 3 _ rfl
  have fz : ∀ k, w0.frozen? ⟨X, k, none⟩ = false := HX.out.frz
  have HI1 := HId.out o
  have HI2 := HId.out g
  have HM1 := HMo.out m
  have HI1h : Hid _ := HI1
  have HI2h : Hid _ := HI2
  have HM1h : Hid _ := HM1
  clear HI1 HI2 HM1 HId HMo
  cases ho : inR 0 9999 o
  · rw [ho] at HI1h
    have HT : Hid (tnO o g m = false) := (by show _ = _; rw [HE.out, ho]; rfl)
    clear ho HE HMn HI2h HM1h
    go_wp2_with (first | (go_at_call 19; refine (HI1h.out _).mono ?_; rintro e w1 ⟨rfl, hw⟩; have hw2 := hw.symm; clear hw; subst hw2))
    refine bodyPost_ret (v := .agg #[.slice none 0 0, .int .i64 0, .int .i64 0, .int .i64 1]) (by simp [results, Try.results6, go_sem, x0, x1, x2, x3]) rfl (tnEnd_no HT.out rfl ?_)
    first | exact HB.out | exact bl_setT (bl_setT (bl_setT (bl_setT HB.out (by have := HXw.out; omega)) (by have := HXw.out; omega)) (by have := HXw.out; omega)) (by have := HXw.out; omega)
  rw [ho] at HI1h
  cases hg : inR 0 9999 g
  · rw [hg] at HI2h
    have HT : Hid (tnO o g m = false) := (by show _ = _; rw [HE.out, hg]; simp)
    clear ho hg HE HMn HM1h
    go_wp2_with (first | (go_at_call_of 19 (Value.int .i64 o); refine (HI1h.out _).mono ?_; rintro e w1 ⟨rfl, hw⟩; have hw2 := hw.symm; clear hw; subst hw2) | (go_at_call 19; refine (HI2h.out _).mono ?_; rintro e w1 ⟨rfl, hw⟩; have hw2 := hw.symm; clear hw; subst hw2))
    refine bodyPost_ret (v := .agg #[.slice none 0 0, .int .i64 0, .int .i64 0, .int .i64 1]) (by simp [results, Try.results6, go_sem, x0, x1, x2, x3]) rfl (tnEnd_no HT.out rfl ?_)
    first | exact HB.out | exact bl_setT (bl_setT (bl_setT (bl_setT HB.out (by have := HXw.out; omega)) (by have := HXw.out; omega)) (by have := HXw.out; omega)) (by have := HXw.out; omega)
  rw [hg] at HI2h
  cases hmm : inR 0 4095 m
  · rw [hmm] at HM1h
    have HT : Hid (tnO o g m = false) := (by show _ = _; rw [HE.out, hmm]; simp)
    clear ho hg hmm HE HMn
    go_wp2_with (first | (go_at_call_of 19 (Value.int .i64 o); refine (HI1h.out _).mono ?_; rintro e w1 ⟨rfl, hw⟩; have hw2 := hw.symm; clear hw; subst hw2) | (go_at_call 19; refine (HI2h.out _).mono ?_; rintro e w1 ⟨rfl, hw⟩; have hw2 := hw.symm; clear hw; subst hw2) | (go_at_call 20; refine (HM1h.out _).mono ?_; rintro e w1 ⟨rfl, hw⟩; have hw2 := hw.symm; clear hw; subst hw2))
    refine bodyPost_ret (v := .agg #[.slice none 0 0, .int .i64 0, .int .i64 0, .int .i64 1]) (by simp [results, Try.results6, go_sem, x0, x1, x2, x3]) rfl (tnEnd_no HT.out rfl ?_)
    first | exact HB.out | exact bl_setT (bl_setT (bl_setT (bl_setT HB.out (by have := HXw.out; omega)) (by have := HXw.out; omega)) (by have := HXw.out; omega)) (by have := HXw.out; omega)
  rw [hmm] at HM1h
  have HT : Hid (tnO o g m = true) := (by show _ = _; rw [HE.out, ho, hg, hmm]; rfl)
  obtain ⟨hm0, hm1⟩ := HMn.out hmm
  clear ho hg hmm HE HMn
  have hmk : (Instr.makeSlice 22 (.int .i64 12) (.int .i64 12)).run Try.prog w0 = .ok (.slice (some ⟨w0.heap.size, 0, none⟩) 12 12) (w0.alloc (.cells (madeCells #[.int .i64 0, .int .i64 0, .int .i64 0, .int .i64 0, .int .i64 0, .int .i64 0, .int .i64 0, .slice none 0 0, .slice none 0 0, .bool false, .int .i64 0, .bool false, .int .i64 0, .int .i64 0, .int .i64 0, .slice none 0 0, .slice none 0 0, .bool false, .int .i64 0, .int .i64 0, .int .i64 0, .string ⟨#[]⟩, .slice none 0 0, .int .i64 0] (12 * 24)) 43)) := run_make_nodes (P := Try.prog) 22 43 Try.underlying22 infoNodeT .i64 .i64 12 (by omega) w0
  have HR : Hid (NRow (w0.alloc (.cells (madeCells #[.int .i64 0, .int .i64 0, .int .i64 0, .int .i64 0, .int .i64 0, .int .i64 0, .int .i64 0, .slice none 0 0, .slice none 0 0, .bool false, .int .i64 0, .bool false, .int .i64 0, .int .i64 0, .int .i64 0, .slice none 0 0, .slice none 0 0, .bool false, .int .i64 0, .int .i64 0, .int .i64 0, .string ⟨#[]⟩, .slice none 0 0, .int .i64 0] (12 * 24)) 43)) w0.heap.size (fun _ => ndZ) (fun _ => naZ) 12) := made_nodes w0 12 _
  have HBm : Below w0.heap.size w0 (w0.alloc (.cells (madeCells #[.int .i64 0, .int .i64 0, .int .i64 0, .int .i64 0, .int .i64 0, .int .i64 0, .int .i64 0, .slice none 0 0, .slice none 0 0, .bool false, .int .i64 0, .bool false, .int .i64 0, .int .i64 0, .int .i64 0, .slice none 0 0, .slice none 0 0, .bool false, .int .i64 0, .int .i64 0, .int .i64 0, .string ⟨#[]⟩, .slice none 0 0, .int .i64 0] (12 * 24)) 43)) := bel_alloc _ _
  have HBl : Hid (w0.heap.size < (w0.alloc (.cells (madeCells #[.int .i64 0, .int .i64 0, .int .i64 0, .int .i64 0, .int .i64 0, .int .i64 0, .int .i64 0, .slice none 0 0, .slice none 0 0, .bool false, .int .i64 0, .bool false, .int .i64 0, .int .i64 0, .int .i64 0, .slice none 0 0, .slice none 0 0, .bool false, .int .i64 0, .int .i64 0, .int .i64 0, .string ⟨#[]⟩, .slice none 0 0, .int .i64 0] (12 * 24)) 43)).heap.size) := (by show _ < _; simp)
  have HX1 : Hid (BoxW (w0.alloc (.cells (madeCells #[.int .i64 0, .int .i64 0, .int .i64 0, .int .i64 0, .int .i64 0, .int .i64 0, .int .i64 0, .slice none 0 0, .slice none 0 0, .bool false, .int .i64 0, .bool false, .int .i64 0, .int .i64 0, .int .i64 0, .slice none 0 0, .slice none 0 0, .bool false, .int .i64 0, .int .i64 0, .int .i64 0, .string ⟨#[]⟩, .slice none 0 0, .int .i64 0] (12 * 24)) 43)) X [.slice none 0 0, .int .i64 0, .int .i64 0, .int .i64 0]) := HX.out.below HBm
  have HB1 : Hid (Below w.heap.size w (w0.alloc (.cells (madeCells #[.int .i64 0, .int .i64 0, .int .i64 0, .int .i64 0, .int .i64 0, .int .i64 0, .int .i64 0, .slice none 0 0, .slice none 0 0, .bool false, .int .i64 0, .bool false, .int .i64 0, .int .i64 0, .int .i64 0, .slice none 0 0, .slice none 0 0, .bool false, .int .i64 0, .int .i64 0, .int .i64 0, .string ⟨#[]⟩, .slice none 0 0, .int .i64 0] (12 * 24)) 43))) := Below.on HB.out HBm
  have HXl : Hid (X < w0.heap.size) := HX.out.lt
  clear HBm HX HB x0 x1 x2 x3 fz
  obtain ⟨w1, hw1⟩ : ∃ w1, w1 = (w0.alloc (.cells (madeCells #[.int .i64 0, .int .i64 0, .int .i64 0, .int .i64 0, .int .i64 0, .int .i64 0, .int .i64 0, .slice none 0 0, .slice none 0 0, .bool false, .int .i64 0, .bool false, .int .i64 0, .int .i64 0, .int .i64 0, .slice none 0 0, .slice none 0 0, .bool false, .int .i64 0, .int .i64 0, .int .i64 0, .string ⟨#[]⟩, .slice none 0 0, .int .i64 0] (12 * 24)) 43)) := ⟨_, rfl⟩
  rw [← hw1] at hmk HR HX1 HB1 HBl
  clear hw1
  obtain ⟨B, hBe⟩ : ∃ B, B = w0.heap.size := ⟨_, rfl⟩
  rw [← hBe] at hmk HR HXl HBl
  have HBw : Hid (w.heap.size ≤ B) := (by show _ ≤ _; have := HXw.out; have := HXl.out; omega)
  clear hBe
  have x0 : w1.cell? ⟨X, 0, none⟩ = some (.slice none 0 0) := HX1.out.at0 0 _ rfl
  have x1 : w1.cell? ⟨X, 1, none⟩ = some (.int .i64 0) := HX1.out.at0 1 _ rfl
  have x2 : w1.cell? ⟨X, 2, none⟩ = some (.int .i64 0) := HX1.out.at0 2 _ rfl
  have x3 : w1.cell? ⟨X, 3, none⟩ = some (.int .i64 0) := HX1.out.at0 3 _ rfl
  have fz : ∀ k, w1.frozen? ⟨X, k, none⟩ = false := HX1.out.frz
  go_upto_region 4 with (first | (go_at_call_of 19 (Value.int .i64 o); refine (HI1h.out _).mono ?_; rintro e w2 ⟨rfl, hw⟩; have hw2 := hw.symm; clear hw; subst hw2) | (go_at_call 19; refine (HI2h.out _).mono ?_; rintro e w2 ⟨rfl, hw⟩; have hw2 := hw.symm; clear hw; subst hw2) | (go_at_call 20; refine (HM1h.out _).mono ?_; rintro e w2 ⟨rfl, hw⟩; have hw2 := hw.symm; clear hw; subst hw2))
  go_wp2_with fail
  refine (iAclOf_any m _).mono ?_
  rintro e w2 ⟨rfl, hb⟩
  replace HB1 : Hid (Below w.heap.size w w2) := Below.on HB1.out hb
  replace HX1 : Hid (BoxW w2 X [.slice none 0 0, .int .i64 0, .int .i64 0, .int .i64 0]) := HX1.out.below hb
  replace HR : Hid (NRow w2 B (fun _ => ndZ) (fun _ => naZ) 12) := HR.out.below HBl.out hb
  replace HBl : Hid (B < w2.heap.size) := Nat.lt_of_lt_of_le HBl.out hb.size
  clear hb x0 x1 x2 x3 fz
  have HS : Hid (NRow (w2.setCells B 0 (ndV (rtN o g m) naZ)) B (tnF o g m) (fun _ => naZ) 12) := tn_store HR.out
  have HXs : Hid (BoxW (w2.setCells B 0 (ndV (rtN o g m) naZ)) X [.slice none 0 0, .int .i64 0, .int .i64 0, .int .i64 0]) := HX1.out.others (by have := HXl.out; omega)
  have HBs : Hid (Below w.heap.size w (w2.setCells B 0 (ndV (rtN o g m) naZ))) := bl_setsT HBw.out _ _ HB1.out
  have HBls : Hid (B < (w2.setCells B 0 (ndV (rtN o g m) naZ)).heap.size) := (by show _ < _; rw [size_setCellsT]; exact HBl.out)
  have HTh : Hid (w2.there B 0 (ndV (rtN o g m) naZ).length) := (by have h := HR.out.there 0 (by decide); rw [Nat.zero_mul] at h; exact h)
  go_upto_region 5 with (refine wpList_store_list (by rfl) 43 _ _ (by rfl) B 0 (ndV (rtN o g m) naZ) (by rfl) (by rfl) HTh.out (by kernel_rfl) (ndV_ones _ _) ?_)
  generalize w2.setCells B 0 (ndV (rtN o g m) naZ) = w5 at HS HXs HBs HBls ⊢
  clear HR HX1 HB1 HBl hmk
  have x0 : w5.cell? ⟨X, 0, none⟩ = some (.slice none 0 0) := HXs.out.at0 0 _ rfl
  have x1 : w5.cell? ⟨X, 1, none⟩ = some (.int .i64 0) := HXs.out.at0 1 _ rfl
  have x2 : w5.cell? ⟨X, 2, none⟩ = some (.int .i64 0) := HXs.out.at0 2 _ rfl
  have x3 : w5.cell? ⟨X, 3, none⟩ = some (.int .i64 0) := HXs.out.at0 3 _ rfl
  have fz : ∀ k, w5.frozen? ⟨X, k, none⟩ = false := HXs.out.frz
  have hXB : X ≠ B := by have := HXl.out; omega
  go_wp2
  refine bodyPost_ret (v := .agg #[.slice (some ⟨B, 0, none⟩) 12 12, .int .i64 0, .int .i64 1, .int .i64 0]) (by simp [results, Try.results6, go_sem, x0, x1, x2, x3]) rfl (tnEnd_yes HT.out rfl HBw.out ?_ ?_ ?_)
  · simpa using HBls.out
  · exact (((HS.out.other hXB).other hXB).other hXB).other hXB
  · exact bl_setT (bl_setT (bl_setT (bl_setT HBs.out (by have := HXw.out; omega)) (by have := HXw.out; omega)) (by have := HXw.out; omega)) (by have := HXw.out; omega)
theorem sIllT_any (c : Int) (w : World) :
    Calls Try.prog 17 #[.int .i64 c] w fun e w' => e = .returned (.agg #[.slice none 0 0, .int .i64 0, .int .i64 0, .int .i64 c]) ∧ Below w.heap.size w w' := by
  go_enter Try.func17, Try.ntmps17
  go_wp2
  exact bodyPost_ret (v := .agg #[.slice none 0 0, .int .i64 0, .int .i64 0, .int .i64 c]) (by simp [results, Try.results17, go_sem]) rfl ⟨rfl, bel_alloc _ _⟩
set_option maxRecDepth 20000 in
set_option maxHeartbeats 8000000 in
theorem sTreeNew_any (o g m : Int) (w : World) :
    Calls Try.prog 5 #[.int .i64 o, .int .i64 g, .int .i64 m] w (TnEnd w o g m) := by
  have HE : Hid (tnO o g m = (inR 0 9999 o && (inR 0 9999 g && inR 0 4095 m))) := rfl
  have HId : Hid (∀ n w, Calls Try.prog 15 #[.int .i64 n] w fun e w' => e = .returned (.bool (inR 0 9999 n)) ∧ w' = w) := (fun n w => sId_any n w)
  have HMo : Hid (∀ n w, Calls Try.prog 16 #[.int .i64 n] w fun e w' => e = .returned (.bool (inR 0 4095 n)) ∧ w' = w) := (fun n w => sMode_any n w)
  have HMn : Hid (inR 0 4095 m = true → 0 ≤ m ∧ m ≤ 4095) := (fun h => inR_iff.1 h)
  have HB : Hid (Below w.heap.size w (w.alloc (.cells #[.slice none 0 0, .int .i64 0, .int .i64 0, .int .i64 0] 26))) := bel_alloc _ _
  have HX : Hid (BoxW (w.alloc (.cells #[.slice none 0 0, .int .i64 0, .int .i64 0, .int .i64 0] 26)) w.heap.size [.slice none 0 0, .int .i64 0, .int .i64 0, .int .i64 0]) := boxW_new w [.slice none 0 0, .int .i64 0, .int .i64 0, .int .i64 0] 26
  go_enter Try.func5, Try.ntmps5
  go_upto_region 1 with fail
  generalize w.alloc (.cells #[.slice none 0 0, .int .i64 0, .int .i64 0, .int .i64 0] 26) = w0 at HB HX ⊢
  obtain ⟨X, hX⟩ : ∃ X, X = w.heap.size := ⟨_, rfl⟩
  have HXw : Hid (X = w.heap.size) := hX
  rw [← hX] at HX ⊢
  clear hX
  have x0 : w0.cell? ⟨X, 0, none⟩ = some (.slice none 0 0) := HX.out.at0 0 _ rfl
  have x1 : w0.cell? ⟨X, 1, none⟩ = some (.int .i64 0) := HX.out.at0 1 _ rfl
  have x2 : w0.cell? ⟨X, 2, none⟩ = some (.int .i64 0) := HX.out.at0 2 _ rfl
  have x3 : w0.cell? ⟨X, 3, none⟩ = some (.int .i64 0) := HX.out.at0 3 _ rfl
  have fz : ∀ k, w0.frozen? ⟨X, k, none⟩ = false := HX.out.frz
  have HI1 := HId.out o
  have HI2 := HId.out g
  have HM1 := HMo.out m
  have HI1h : Hid _ := HI1
  have HI2h : Hid _ := HI2
  have HM1h : Hid _ := HM1
  clear HI1 HI2 HM1 HId HMo
  cases ho : inR 0 9999 o
  · rw [ho] at HI1h
    have HT : Hid (tnO o g m = false) := (by show _ = _; rw [HE.out, ho]; rfl)
    clear ho HE HMn HI2h HM1h
    go_wp2_with (first | (go_at_call 15; refine (HI1h.out _).mono ?_; rintro e w1 ⟨rfl, hw⟩; have hw2 := hw.symm; clear hw; subst hw2) | (go_at_call 17; refine (sIllT_any _ _).mono ?_; rintro e w1 ⟨rfl, hb⟩; replace HB : Hid (Below w.heap.size w w1) := Below.on HB.out hb; replace HX : Hid (BoxW w1 X [.slice none 0 0, .int .i64 0, .int .i64 0, .int .i64 0]) := HX.out.below hb; clear hb; replace x0 : w1.cell? ⟨X, 0, none⟩ = some (.slice none 0 0) := HX.out.at0 0 _ rfl; replace x1 : w1.cell? ⟨X, 1, none⟩ = some (.int .i64 0) := HX.out.at0 1 _ rfl; replace x2 : w1.cell? ⟨X, 2, none⟩ = some (.int .i64 0) := HX.out.at0 2 _ rfl; replace x3 : w1.cell? ⟨X, 3, none⟩ = some (.int .i64 0) := HX.out.at0 3 _ rfl; replace fz : ∀ k, w1.frozen? ⟨X, k, none⟩ = false := HX.out.frz))
    refine bodyPost_ret (v := .agg #[.slice none 0 0, .int .i64 0, .int .i64 0, .int .i64 1]) (by simp [results, Try.results5, go_sem, x0, x1, x2, x3]) rfl (tnEnd_no HT.out rfl ?_)
    first | exact HB.out | exact bl_setT (bl_setT (bl_setT (bl_setT HB.out (by have := HXw.out; omega)) (by have := HXw.out; omega)) (by have := HXw.out; omega)) (by have := HXw.out; omega)
  rw [ho] at HI1h
  cases hg : inR 0 9999 g
  · rw [hg] at HI2h
    have HT : Hid (tnO o g m = false) := (by show _ = _; rw [HE.out, hg]; simp)
    clear ho hg HE HMn HM1h
    go_wp2_with (first | (go_at_call_of 15 (Value.int .i64 o); refine (HI1h.out _).mono ?_; rintro e w1 ⟨rfl, hw⟩; have hw2 := hw.symm; clear hw; subst hw2) | (go_at_call 15; refine (HI2h.out _).mono ?_; rintro e w1 ⟨rfl, hw⟩; have hw2 := hw.symm; clear hw; subst hw2) | (go_at_call 17; refine (sIllT_any _ _).mono ?_; rintro e w1 ⟨rfl, hb⟩; replace HB : Hid (Below w.heap.size w w1) := Below.on HB.out hb; replace HX : Hid (BoxW w1 X [.slice none 0 0, .int .i64 0, .int .i64 0, .int .i64 0]) := HX.out.below hb; clear hb; replace x0 : w1.cell? ⟨X, 0, none⟩ = some (.slice none 0 0) := HX.out.at0 0 _ rfl; replace x1 : w1.cell? ⟨X, 1, none⟩ = some (.int .i64 0) := HX.out.at0 1 _ rfl; replace x2 : w1.cell? ⟨X, 2, none⟩ = some (.int .i64 0) := HX.out.at0 2 _ rfl; replace x3 : w1.cell? ⟨X, 3, none⟩ = some (.int .i64 0) := HX.out.at0 3 _ rfl; replace fz : ∀ k, w1.frozen? ⟨X, k, none⟩ = false := HX.out.frz))
    refine bodyPost_ret (v := .agg #[.slice none 0 0, .int .i64 0, .int .i64 0, .int .i64 1]) (by simp [results, Try.results5, go_sem, x0, x1, x2, x3]) rfl (tnEnd_no HT.out rfl ?_)
    first | exact HB.out | exact bl_setT (bl_setT (bl_setT (bl_setT HB.out (by have := HXw.out; omega)) (by have := HXw.out; omega)) (by have := HXw.out; omega)) (by have := HXw.out; omega)
  rw [hg] at HI2h
  cases hmm : inR 0 4095 m
  · rw [hmm] at HM1h
    have HT : Hid (tnO o g m = false) := (by show _ = _; rw [HE.out, hmm]; simp)
    clear ho hg hmm HE HMn
    go_wp2_with (first | (go_at_call_of 15 (Value.int .i64 o); refine (HI1h.out _).mono ?_; rintro e w1 ⟨rfl, hw⟩; have hw2 := hw.symm; clear hw; subst hw2) | (go_at_call 15; refine (HI2h.out _).mono ?_; rintro e w1 ⟨rfl, hw⟩; have hw2 := hw.symm; clear hw; subst hw2) | (go_at_call 16; refine (HM1h.out _).mono ?_; rintro e w1 ⟨rfl, hw⟩; have hw2 := hw.symm; clear hw; subst hw2) | (go_at_call 17; refine (sIllT_any _ _).mono ?_; rintro e w1 ⟨rfl, hb⟩; replace HB : Hid (Below w.heap.size w w1) := Below.on HB.out hb; replace HX : Hid (BoxW w1 X [.slice none 0 0, .int .i64 0, .int .i64 0, .int .i64 0]) := HX.out.below hb; clear hb; replace x0 : w1.cell? ⟨X, 0, none⟩ = some (.slice none 0 0) := HX.out.at0 0 _ rfl; replace x1 : w1.cell? ⟨X, 1, none⟩ = some (.int .i64 0) := HX.out.at0 1 _ rfl; replace x2 : w1.cell? ⟨X, 2, none⟩ = some (.int .i64 0) := HX.out.at0 2 _ rfl; replace x3 : w1.cell? ⟨X, 3, none⟩ = some (.int .i64 0) := HX.out.at0 3 _ rfl; replace fz : ∀ k, w1.frozen? ⟨X, k, none⟩ = false := HX.out.frz))
    refine bodyPost_ret (v := .agg #[.slice none 0 0, .int .i64 0, .int .i64 0, .int .i64 1]) (by simp [results, Try.results5, go_sem, x0, x1, x2, x3]) rfl (tnEnd_no HT.out rfl ?_)
    first | exact HB.out | exact bl_setT (bl_setT (bl_setT (bl_setT HB.out (by have := HXw.out; omega)) (by have := HXw.out; omega)) (by have := HXw.out; omega)) (by have := HXw.out; omega)
  rw [hmm] at HM1h
  have HT : Hid (tnO o g m = true) := (by show _ = _; rw [HE.out, ho, hg, hmm]; rfl)
  obtain ⟨hm0, hm1⟩ := HMn.out hmm
  clear ho hg hmm HE HMn
  have hmk : (Instr.makeSlice 22 (.int .i64 12) (.int .i64 12)).run Try.prog w0 = .ok (.slice (some ⟨w0.heap.size, 0, none⟩) 12 12) (w0.alloc (.cells (madeCells #[.int .i64 0, .int .i64 0, .int .i64 0, .int .i64 0, .int .i64 0, .int .i64 0, .int .i64 0, .slice none 0 0, .slice none 0 0, .bool false, .int .i64 0, .bool false, .int .i64 0, .int .i64 0, .int .i64 0, .slice none 0 0, .slice none 0 0, .bool false, .int .i64 0, .int .i64 0, .int .i64 0, .string ⟨#[]⟩, .slice none 0 0, .int .i64 0] (12 * 24)) 43)) := run_make_nodes (P := Try.prog) 22 43 Try.underlying22 infoNodeT .i64 .i64 12 (by omega) w0
  have HR : Hid (NRow (w0.alloc (.cells (madeCells #[.int .i64 0, .int .i64 0, .int .i64 0, .int .i64 0, .int .i64 0, .int .i64 0, .int .i64 0, .slice none 0 0, .slice none 0 0, .bool false, .int .i64 0, .bool false, .int .i64 0, .int .i64 0, .int .i64 0, .slice none 0 0, .slice none 0 0, .bool false, .int .i64 0, .int .i64 0, .int .i64 0, .string ⟨#[]⟩, .slice none 0 0, .int .i64 0] (12 * 24)) 43)) w0.heap.size (fun _ => ndZ) (fun _ => naZ) 12) := made_nodes w0 12 _
  have HBm : Below w0.heap.size w0 (w0.alloc (.cells (madeCells #[.int .i64 0, .int .i64 0, .int .i64 0, .int .i64 0, .int .i64 0, .int .i64 0, .int .i64 0, .slice none 0 0, .slice none 0 0, .bool false, .int .i64 0, .bool false, .int .i64 0, .int .i64 0, .int .i64 0, .slice none 0 0, .slice none 0 0, .bool false, .int .i64 0, .int .i64 0, .int .i64 0, .string ⟨#[]⟩, .slice none 0 0, .int .i64 0] (12 * 24)) 43)) := bel_alloc _ _
  have HBl : Hid (w0.heap.size < (w0.alloc (.cells (madeCells #[.int .i64 0, .int .i64 0, .int .i64 0, .int .i64 0, .int .i64 0, .int .i64 0, .int .i64 0, .slice none 0 0, .slice none 0 0, .bool false, .int .i64 0, .bool false, .int .i64 0, .int .i64 0, .int .i64 0, .slice none 0 0, .slice none 0 0, .bool false, .int .i64 0, .int .i64 0, .int .i64 0, .string ⟨#[]⟩, .slice none 0 0, .int .i64 0] (12 * 24)) 43)).heap.size) := (by show _ < _; simp)
  have HX1 : Hid (BoxW (w0.alloc (.cells (madeCells #[.int .i64 0, .int .i64 0, .int .i64 0, .int .i64 0, .int .i64 0, .int .i64 0, .int .i64 0, .slice none 0 0, .slice none 0 0, .bool false, .int .i64 0, .bool false, .int .i64 0, .int .i64 0, .int .i64 0, .slice none 0 0, .slice none 0 0, .bool false, .int .i64 0, .int .i64 0, .int .i64 0, .string ⟨#[]⟩, .slice none 0 0, .int .i64 0] (12 * 24)) 43)) X [.slice none 0 0, .int .i64 0, .int .i64 0, .int .i64 0]) := HX.out.below HBm
  have HB1 : Hid (Below w.heap.size w (w0.alloc (.cells (madeCells #[.int .i64 0, .int .i64 0, .int .i64 0, .int .i64 0, .int .i64 0, .int .i64 0, .int .i64 0, .slice none 0 0, .slice none 0 0, .bool false, .int .i64 0, .bool false, .int .i64 0, .int .i64 0, .int .i64 0, .slice none 0 0, .slice none 0 0, .bool false, .int .i64 0, .int .i64 0, .int .i64 0, .string ⟨#[]⟩, .slice none 0 0, .int .i64 0] (12 * 24)) 43))) := Below.on HB.out HBm
  have HXl : Hid (X < w0.heap.size) := HX.out.lt
  clear HBm HX HB x0 x1 x2 x3 fz
  obtain ⟨w1, hw1⟩ : ∃ w1, w1 = (w0.alloc (.cells (madeCells #[.int .i64 0, .int .i64 0, .int .i64 0, .int .i64 0, .int .i64 0, .int .i64 0, .int .i64 0, .slice none 0 0, .slice none 0 0, .bool false, .int .i64 0, .bool false, .int .i64 0, .int .i64 0, .int .i64 0, .slice none 0 0, .slice none 0 0, .bool false, .int .i64 0, .int .i64 0, .int .i64 0, .string ⟨#[]⟩, .slice none 0 0, .int .i64 0] (12 * 24)) 43)) := ⟨_, rfl⟩
  rw [← hw1] at hmk HR HX1 HB1 HBl
  clear hw1
  obtain ⟨B, hBe⟩ : ∃ B, B = w0.heap.size := ⟨_, rfl⟩
  rw [← hBe] at hmk HR HXl HBl
  have HBw : Hid (w.heap.size ≤ B) := (by show _ ≤ _; have := HXw.out; have := HXl.out; omega)
  clear hBe
  have x0 : w1.cell? ⟨X, 0, none⟩ = some (.slice none 0 0) := HX1.out.at0 0 _ rfl
  have x1 : w1.cell? ⟨X, 1, none⟩ = some (.int .i64 0) := HX1.out.at0 1 _ rfl
  have x2 : w1.cell? ⟨X, 2, none⟩ = some (.int .i64 0) := HX1.out.at0 2 _ rfl
  have x3 : w1.cell? ⟨X, 3, none⟩ = some (.int .i64 0) := HX1.out.at0 3 _ rfl
  have fz : ∀ k, w1.frozen? ⟨X, k, none⟩ = false := HX1.out.frz
  have HAo : Hid (∀ w', Calls Try.prog 18 #[.int .i64 m] w' fun e w'' => e = .returned (.agg #[.int .i64 (mU m), .int .i64 (mG m), .int .i64 (mO m), .slice none 0 0, .slice none 0 0, .bool false, .int .i64 0]) ∧ Below w'.heap.size w' w'') := (fun w' => sAclOf_any m w')
  have hbN : Below w1.heap.size w1 (w1.alloc (.cells #[.slice (some ⟨B, 0, none⟩) 12 12, .int .i64 0] 24)) := bel_alloc _ _
  have HTb : Hid (BoxR (w1.alloc (.cells #[.slice (some ⟨B, 0, none⟩) 12 12, .int .i64 0] 24)) w1.heap.size [.slice (some ⟨B, 0, none⟩) 12 12, .int .i64 0]) := boxR_new _ _ _
  have HTl : Hid (B < w1.heap.size) := HBl.out
  replace HB1 : Hid (Below w.heap.size w (w1.alloc (.cells #[.slice (some ⟨B, 0, none⟩) 12 12, .int .i64 0] 24))) := Below.on HB1.out hbN
  replace HX1 : Hid (BoxW (w1.alloc (.cells #[.slice (some ⟨B, 0, none⟩) 12 12, .int .i64 0] 24)) X [.slice none 0 0, .int .i64 0, .int .i64 0, .int .i64 0]) := HX1.out.below hbN
  replace HR : Hid (NRow (w1.alloc (.cells #[.slice (some ⟨B, 0, none⟩) 12 12, .int .i64 0] 24)) B (fun _ => ndZ) (fun _ => naZ) 12) := HR.out.below HBl.out hbN
  replace HBl : Hid (B < (w1.alloc (.cells #[.slice (some ⟨B, 0, none⟩) 12 12, .int .i64 0] 24)).heap.size) := Nat.lt_of_lt_of_le HBl.out hbN.size
  clear hbN
  go_upto_region 4 with (first | (go_at_call_of 15 (Value.int .i64 o); refine (HI1h.out _).mono ?_; rintro e w2 ⟨rfl, hw⟩; have hw2 := hw.symm; clear hw; subst hw2) | (go_at_call 15; refine (HI2h.out _).mono ?_; rintro e w2 ⟨rfl, hw⟩; have hw2 := hw.symm; clear hw; subst hw2) | (go_at_call 16; refine (HM1h.out _).mono ?_; rintro e w2 ⟨rfl, hw⟩; have hw2 := hw.symm; clear hw; subst hw2))
  clear x0 x1 x2 x3 fz hmk
  generalize (w1.alloc (.cells #[.slice (some ⟨B, 0, none⟩) 12 12, .int .i64 0] 24)) = w4 at HTb HB1 HX1 HR HBl ⊢
  generalize w1.heap.size = Tb at HTb HTl ⊢
  refine wp_region_held_drew (S := (fun w' => w'.cell? ⟨Tb, 0, none⟩ = some (.slice (some ⟨B, 0, none⟩) 12 12))) (by kernel_rfl) (by exact HTb.out.at0 0 _ rfl) (fun hHeld => ?_)
  refine wpAnyH_take (i := 0) (v := .pointer (some ⟨Tb, 0, none⟩)) rfl (by kernel_rfl) (by kernel_rfl) (by kernel_rfl) (fun _ _ _ h => h) (Or.inl ⟨by rfl, fun _ _ => by rfl⟩) hHeld ?_
  try simp only [Act.put, List.getElem_toArray, List.getElem_cons_zero, List.getElem_cons_succ, List.setIfInBounds_toArray, List.set_cons_zero, List.set_cons_succ]
  refine wpAnyH_take (i := 1) (v := .slice (some ⟨B, 0, none⟩) 12 12) rfl (by kernel_rfl) (by kernel_rfl) (by kernel_rfl) (fun _ _ _ h => h) (Or.inl ⟨by rfl, fun _ h => by have h0 := h; go_simp⟩) hHeld ?_
  try simp only [Act.put, List.getElem_toArray, List.getElem_cons_zero, List.getElem_cons_succ, List.setIfInBounds_toArray, List.set_cons_zero, List.set_cons_succ]
  refine wpAnyH_take (i := 2) (v := .int .i64 o) rfl (by kernel_rfl) (by kernel_rfl) (by kernel_rfl) (fun _ _ _ h => h) (Or.inl ⟨by rfl, fun _ _ => by rfl⟩) hHeld ?_
  try simp only [Act.put, List.getElem_toArray, List.getElem_cons_zero, List.getElem_cons_succ, List.setIfInBounds_toArray, List.set_cons_zero, List.set_cons_succ]
  refine wpAnyH_take (i := 3) (v := .int .i64 g) rfl (by kernel_rfl) (by kernel_rfl) (by kernel_rfl) (fun _ _ _ h => h) (Or.inl ⟨by rfl, fun _ _ => by rfl⟩) hHeld ?_
  try simp only [Act.put, List.getElem_toArray, List.getElem_cons_zero, List.getElem_cons_succ, List.setIfInBounds_toArray, List.set_cons_zero, List.set_cons_succ]
  refine wpAnyH_take (i := 4) (v := .int .i64 m) rfl (by kernel_rfl) (by kernel_rfl) (by kernel_rfl) (fun _ _ _ h => h) (Or.inl ⟨by rfl, fun _ _ => by rfl⟩) hHeld ?_
  try simp only [Act.put, List.getElem_toArray, List.getElem_cons_zero, List.getElem_cons_succ, List.setIfInBounds_toArray, List.set_cons_zero, List.set_cons_succ]
  refine wpAnyH_take (i := 5) (v := .int .i64 (m / 512)) rfl (by kernel_rfl) (by kernel_rfl) (by kernel_rfl) (fun _ _ _ h => h) (Or.inl ⟨by rfl, fun _ _ => by go_simp; rw [Int.tdiv_eq_ediv_of_nonneg hm0, IntKind.wrap_i64] <;> omega⟩) hHeld ?_
  try simp only [Act.put, List.getElem_toArray, List.getElem_cons_zero, List.getElem_cons_succ, List.setIfInBounds_toArray, List.set_cons_zero, List.set_cons_succ]
  refine wpAnyH_take (i := 6) (v := .int .i64 m) rfl (by kernel_rfl) (by kernel_rfl) (by kernel_rfl) (fun _ _ _ h => h) (Or.inl ⟨by rfl, fun _ _ => by rfl⟩) hHeld ?_
  try simp only [Act.put, List.getElem_toArray, List.getElem_cons_zero, List.getElem_cons_succ, List.setIfInBounds_toArray, List.set_cons_zero, List.set_cons_succ]
  refine wpAnyH_ready (rs := [7]) (by kernel_rfl) (by simp) ?_
  refine AllReadyH.cons rfl (fun K hK => ?_) AllReadyH.nil
  rw [if_pos (by rfl)]
  go_simp
  refine (HAo.out _).mono ?_
  rintro e w2 ⟨rfl, hb⟩
  simp only []
  have hbq : Below w4.heap.size w4 w2 := ⟨hb.os, hb.tape, hb.output, hb.size, hb.block⟩
  replace HB1 : Hid (Below w.heap.size w w2) := Below.on HB1.out hbq
  replace HX1 : Hid (BoxW w2 X [.slice none 0 0, .int .i64 0, .int .i64 0, .int .i64 0]) := HX1.out.below hbq
  replace HR : Hid (NRow w2 B (fun _ => ndZ) (fun _ => naZ) 12) := HR.out.below HBl.out hbq
  replace HBl : Hid (B < w2.heap.size) := Nat.lt_of_lt_of_le HBl.out hbq.size
  replace HTb : Hid (BoxR w2 Tb [.slice (some ⟨B, 0, none⟩) 12 12, .int .i64 0]) := HTb.out.below hbq
  clear hbq hb
  refine hK.out _ _ (show (fun w' => w'.cell? ⟨Tb, 0, none⟩ = some (.slice (some ⟨B, 0, none⟩) 12 12)) w2 from HTb.out.at0 0 _ rfl) (fun hHeld => ?_)
  clear hK K
  try simp only [Act.put, List.getElem_toArray, List.getElem_cons_zero, List.getElem_cons_succ, List.setIfInBounds_toArray, List.set_cons_zero, List.set_cons_succ]
  refine wpAnyH_take (i := 8) (v := .agg (ndV (rtN o g m) naZ).toArray) rfl (by kernel_rfl) (by kernel_rfl) (by kernel_rfl) (fun _ _ _ h => h) (Or.inl ⟨by rfl, fun _ _ => by first | (go_simp; done) | (go_simp; rfl)⟩) hHeld ?_
  try simp only [Act.put, List.getElem_toArray, List.getElem_cons_zero, List.getElem_cons_succ, List.setIfInBounds_toArray, List.set_cons_zero, List.set_cons_succ]
  refine wpAnyH_take (i := 9) (v := .pointer (some ⟨B, 0, none⟩)) rfl (by kernel_rfl) (by kernel_rfl) (by kernel_rfl) (fun _ _ _ h => h) (Or.inl ⟨by rfl, fun _ _ => by go_simp⟩) hHeld ?_
  try simp only [Act.put, List.getElem_toArray, List.getElem_cons_zero, List.getElem_cons_succ, List.setIfInBounds_toArray, List.set_cons_zero, List.set_cons_succ]
  have HTh : Hid (w2.there B 0 (ndV (rtN o g m) naZ).length) := (by have h := HR.out.there 0 (by decide); rw [Nat.zero_mul] at h; exact h)
  have HS : Hid (NRow (w2.setCells B 0 (ndV (rtN o g m) naZ)) B (tnF o g m) (fun _ => naZ) 12) := tn_store HR.out
  have HXs : Hid (BoxW (w2.setCells B 0 (ndV (rtN o g m) naZ)) X [.slice none 0 0, .int .i64 0, .int .i64 0, .int .i64 0]) := HX1.out.others (by have := HXl.out; omega)
  have HBs : Hid (Below w.heap.size w (w2.setCells B 0 (ndV (rtN o g m) naZ))) := bl_setsT HBw.out _ _ HB1.out
  have HBls : Hid (B < (w2.setCells B 0 (ndV (rtN o g m) naZ)).heap.size) := (by show _ < _; rw [size_setCellsT]; exact HBl.out)
  have HTs : Hid (BoxR (w2.setCells B 0 (ndV (rtN o g m) naZ)) Tb [.slice (some ⟨B, 0, none⟩) 12 12, .int .i64 0]) := HTb.out.others (by have := HTl.out; omega)
  refine wpAnyH_ready (rs := [10]) (by kernel_rfl) (by simp) ?_
  refine AllReadyH.cons rfl (fun K hK => ?_) AllReadyH.nil
  rw [if_pos (by rfl)]
  refine wp_store_mid 43 _ _ (by rfl) _ _ (ndV (rtN o g m) naZ).toArray (by rfl) (by rfl) HTh.out (by kernel_rfl) (ndV_ones _ _) ?_
  refine hK.out _ _ (show (fun w' => w'.cell? ⟨Tb, 0, none⟩ = some (.slice (some ⟨B, 0, none⟩) 12 12)) (w2.setCells B 0 (ndV (rtN o g m) naZ)) from HTs.out.at0 0 _ rfl) (fun hHeld => ?_)
  clear hK K hHeld HTh
  try simp only [Act.put, List.getElem_toArray, List.getElem_cons_zero, List.getElem_cons_succ, List.setIfInBounds_toArray, List.set_cons_zero, List.set_cons_succ]
  refine wpAnyH_done (by kernel_rfl) ?_ _
  generalize w2.setCells B 0 (ndV (rtN o g m) naZ) = w5 at HS HXs HBs HBls HTs ⊢
  clear HR HX1 HB1 HBl
  have q0 : w5.cell? ⟨Tb, 0, none⟩ = some (.slice (some ⟨B, 0, none⟩) 12 12) := HTs.out.at0 0 _ rfl
  have q1 : w5.cell? ⟨Tb, 1, none⟩ = some (.int .i64 0) := HTs.out.at0 1 _ rfl
  have x0 : w5.cell? ⟨X, 0, none⟩ = some (.slice none 0 0) := HXs.out.at0 0 _ rfl
  have x1 : w5.cell? ⟨X, 1, none⟩ = some (.int .i64 0) := HXs.out.at0 1 _ rfl
  have x2 : w5.cell? ⟨X, 2, none⟩ = some (.int .i64 0) := HXs.out.at0 2 _ rfl
  have x3 : w5.cell? ⟨X, 3, none⟩ = some (.int .i64 0) := HXs.out.at0 3 _ rfl
  have fz : ∀ k, w5.frozen? ⟨X, k, none⟩ = false := HXs.out.frz
  have hXB : X ≠ B := by have := HXl.out; omega
  go_wp2
  refine bodyPost_ret (v := .agg #[.slice (some ⟨B, 0, none⟩) 12 12, .int .i64 0, .int .i64 1, .int .i64 0]) (by simp [results, Try.results5, go_sem, x0, x1, x2, x3]) rfl (tnEnd_yes HT.out rfl HBw.out ?_ ?_ ?_)
  · simpa using HBls.out
  · exact (((HS.out.other hXB).other hXB).other hXB).other hXB
  · exact bl_setT (bl_setT (bl_setT (bl_setT HBs.out (by have := HXw.out; omega)) (by have := HXw.out; omega)) (by have := HXw.out; omega)) (by have := HXw.out; omega)
end Go.Proofs.Ytgodbelcddgdmaa
