/- Laid together: TrI4, TrDs, TrI5. -/
import Derived.Test.YtgodbelcddgdmaaGreatNF9
import Derived.Laws.AppendOwn
import Derived.Deep.AppendSrc
import Derived.Deep.Upon
/- The program's isNamedByUp, directoryRight, isReached. -/
namespace Go.Proofs.YtgodbelcddgdmaaGreat
open Go.RowKit Go.PlainAid
set_option linter.unusedVariables false
theorem DB.c19 {w : World} {B : Nat} {x : Nd} {y : Na} {n : Int} (h : BoxR w B (drV x y n)) : w.cell? ⟨B, 19, none⟩ = some (.int .i64 x.li) := h.at0 19 _ rfl
theorem DB.c20 {w : World} {B : Nat} {x : Nd} {y : Na} {n : Int} (h : BoxR w B (drV x y n)) : w.cell? ⟨B, 20, none⟩ = some (.int .i64 x.up) := h.at0 20 _ rfl
theorem DB.c21 {w : World} {B : Nat} {x : Nd} {y : Na} {n : Int} (h : BoxR w B (drV x y n)) : w.cell? ⟨B, 21, none⟩ = some (.string x.bo) := h.at0 21 _ rfl
theorem DB.c22 {w : World} {B : Nat} {x : Nd} {y : Na} {n : Int} (h : BoxR w B (drV x y n)) : w.cell? ⟨B, 22, none⟩ = some (.slice y.nA x.ns.length y.nC) := h.at0 22 _ rfl
theorem DB.c24 {w : World} {B : Nat} {x : Nd} {y : Na} {n : Int} (h : BoxR w B (drV x y n)) : w.cell? ⟨B, 24, none⟩ = some (.int .i64 n) := h.at0 24 _ rfl
theorem DB.nd {w : World} {B : Nat} {x : Nd} {y : Na} {n : Int} (h : BoxR w B (drV x y n)) : N24 w B 0 x y := dr_nd h.at0
theorem there25 (w : World) : (w.alloc (.cells #[.int .i64 0, .int .i64 0, .int .i64 0, .int .i64 0, .int .i64 0, .int .i64 0, .int .i64 0, .slice none 0 0, .slice none 0 0, .bool false, .int .i64 0, .bool false, .int .i64 0, .int .i64 0, .int .i64 0, .slice none 0 0, .slice none 0 0, .bool false, .int .i64 0, .int .i64 0, .int .i64 0, .string ⟨#[]⟩, .slice none 0 0, .int .i64 0, .int .i64 0] 84)).there w.heap.size 0 25 := (boxW_new w [.int .i64 0, .int .i64 0, .int .i64 0, .int .i64 0, .int .i64 0, .int .i64 0, .int .i64 0, .slice none 0 0, .slice none 0 0, .bool false, .int .i64 0, .bool false, .int .i64 0, .int .i64 0, .int .i64 0, .slice none 0 0, .slice none 0 0, .bool false, .int .i64 0, .int .i64 0, .int .i64 0, .string ⟨#[]⟩, .slice none 0 0, .int .i64 0, .int .i64 0] 84).there 0 25 (by simp)
set_option maxRecDepth 20000 in
set_option maxHeartbeats 8000000 in
/-- impl.isNamedByUp. -/
theorem iNamedUp_any (a : Option Addr) (len cap : Nat) (l : List Nd) (now : Int) (x : Nd) (y : Na) (n : Int) (hl : len ≤ 1048576) (hf : ∀ i, i < len → NdFit 1048576 (ndAt l i)) (w : World) (hi : Nds a len l w) :
    Calls Tryz.prog 86 #[.agg #[.slice a len cap, .int .i64 now], .agg (drV x y n).toArray] w fun e w' => e = .returned (.bool (diB l x.up && hasE (ndAt l (x.up - 1).toNat).ns n (ndAt l (x.up - 1).toNat).ns.length)) ∧ Below w.heap.size w w' := by
  have HI : Hid (Nds a len l w) := hi
  have HF : Hid (∀ i, i < len → NdFit 1048576 (ndAt l i)) := hf
  have hll := hi.1
  clear hi hf
  cases hd : diB l x.up
  · have HC : Hid (∀ w', Below w.heap.size w w' → Calls Tryz.prog 88 #[.agg #[.slice a len cap, .int .i64 now], .int .i64 x.up] w' fun e w'' => e = .returned (.tuple #[.agg (drV ndZ naZ 0).toArray, .bool false]) ∧ Below w'.heap.size w' w'') := (fun w' hb => iDirAt_no a len cap l now x.up hl w' (HI.out.below hb) hd)
    have HX : Hid (BoxR ((w.alloc (.cells #[.slice a len cap, .int .i64 now] 35)).alloc (.cells (drV x y n).toArray 84)) w.heap.size [.slice a len cap, .int .i64 now]) := (boxR_new w [.slice a len cap, .int .i64 now] 35).below (bel_alloc _ _)
    have HZ : Hid (BoxR ((w.alloc (.cells #[.slice a len cap, .int .i64 now] 35)).alloc (.cells (drV x y n).toArray 84)) (w.heap.size + 1) (drV x y n)) := (by
      have h := boxR_new (w.alloc (.cells #[.slice a len cap, .int .i64 now] 35)) (drV x y n) 84
      simp only [World.size_alloc] at h
      exact h)
    have HB : Hid (Below w.heap.size w ((w.alloc (.cells #[.slice a len cap, .int .i64 now] 35)).alloc (.cells (drV x y n).toArray 84))) := bl2T _ _ _
    go_enter Tryz.func86, Tryz.ntmps86
    go_upto_region 1 with fail
    generalize ((w.alloc (.cells #[.slice a len cap, .int .i64 now] 35)).alloc (.cells (drV x y n).toArray 84)) = w0 at HX HZ HB ⊢
    obtain ⟨X, hX⟩ : ∃ X, X = w.heap.size := ⟨_, rfl⟩
    have HXw : Hid (X = w.heap.size) := hX
    rw [← hX] at HX HZ ⊢
    clear hX
    have t0 : w0.cell? ⟨X, 0, none⟩ = some (.slice a len cap) := HX.out.at0 0 _ rfl
    have t1 : w0.cell? ⟨X, 1, none⟩ = some (.int .i64 now) := HX.out.at0 1 _ rfl
    have e20 := DB.c20 HZ.out
    go_wp2_with fail
    refine (HC.out _ HB.out).mono ?_
    rintro e w1 ⟨rfl, hb⟩
    replace HB : Hid (Below w.heap.size w w1) := Below.on HB.out hb
    replace HX : Hid (BoxR w1 X [.slice a len cap, .int .i64 now]) := HX.out.below hb
    replace HZ : Hid (BoxR w1 (X + 1) (drV x y n)) := HZ.out.below hb
    replace t0 : w1.cell? ⟨X, 0, none⟩ = some (.slice a len cap) := HX.out.at0 0 _ rfl
    replace t1 : w1.cell? ⟨X, 1, none⟩ = some (.int .i64 now) := HX.out.at0 1 _ rfl
    replace e20 := DB.c20 HZ.out
    clear hb
    go_upto_region 2 with (refine wpList_store_list (by rfl) 84 _ _ (by rfl) _ _ (drV ndZ naZ 0) (by rfl) (by rfl) (by rw [drV_len]; exact there25 _) (by kernel_rfl) (drV_ones _ _ _) ?_)
    go_wp2
    go_ret
    exact ⟨by simp, bl_setsT (by have := HB.out.size; omega) _ _ ((HB.out).trans ((bel_alloc _ _).mono HB.out.size))⟩
  · have hin := inR_iff.1 (thB_num (diB_th hd))
    obtain ⟨k, hk⟩ : ∃ k : Nat, x.up = (k : Int) + 1 := ⟨(x.up - 1).toNat, by omega⟩
    have HE : Hid ((true && hasE (ndAt l (x.up - 1).toNat).ns n (ndAt l (x.up - 1).toNat).ns.length) = decide (0 < cntE (ndAt l k).ns n (ndAt l k).ns.length)) := (by show _ = _; rw [hk, at_succ, hasE_cnt]; rfl)
    rw [hk] at hd
    have HC : Hid (∀ w', Below w.heap.size w w' → Calls Tryz.prog 88 #[.agg #[.slice a len cap, .int .i64 now], .int .i64 x.up] w' fun e w'' => ∃ yu, e = .returned (.tuple #[.agg (drV (ndAt l k) yu ((k : Int) + 1)).toArray, .bool true]) ∧ NdIn w'' (ndAt l k) yu ∧ Below w'.heap.size w' w'') := (fun w' hb => by rw [hk]; exact iDirAt_yes a len cap l now k hl w' (HI.out.below hb) hd)
    have HFk : Hid (NdFit 1048576 (ndAt l k)) := HF.out k (by omega)
    clear hin hk hd hll
    generalize (true && hasE (ndAt l (x.up - 1).toNat).ns n (ndAt l (x.up - 1).toNat).ns.length) = res at HE ⊢
    generalize ndAt l k = u at HE HC HFk
    generalize ((k : Int) + 1) = nu at HC
    have HX : Hid (BoxR ((w.alloc (.cells #[.slice a len cap, .int .i64 now] 35)).alloc (.cells (drV x y n).toArray 84)) w.heap.size [.slice a len cap, .int .i64 now]) := (boxR_new w [.slice a len cap, .int .i64 now] 35).below (bel_alloc _ _)
    have HZ : Hid (BoxR ((w.alloc (.cells #[.slice a len cap, .int .i64 now] 35)).alloc (.cells (drV x y n).toArray 84)) (w.heap.size + 1) (drV x y n)) := (by
      have h := boxR_new (w.alloc (.cells #[.slice a len cap, .int .i64 now] 35)) (drV x y n) 84
      simp only [World.size_alloc] at h
      exact h)
    have HB : Hid (Below w.heap.size w ((w.alloc (.cells #[.slice a len cap, .int .i64 now] 35)).alloc (.cells (drV x y n).toArray 84))) := bl2T _ _ _
    go_enter Tryz.func86, Tryz.ntmps86
    go_upto_region 1 with fail
    generalize ((w.alloc (.cells #[.slice a len cap, .int .i64 now] 35)).alloc (.cells (drV x y n).toArray 84)) = w0 at HX HZ HB ⊢
    obtain ⟨X, hX⟩ : ∃ X, X = w.heap.size := ⟨_, rfl⟩
    have HXw : Hid (X = w.heap.size) := hX
    rw [← hX] at HX HZ ⊢
    clear hX
    have t0 : w0.cell? ⟨X, 0, none⟩ = some (.slice a len cap) := HX.out.at0 0 _ rfl
    have t1 : w0.cell? ⟨X, 1, none⟩ = some (.int .i64 now) := HX.out.at0 1 _ rfl
    have e20 := DB.c20 HZ.out
    go_wp2_with fail
    refine (HC.out _ HB.out).mono ?_
    rintro e w1 ⟨yu, rfl, hNu, hb⟩
    replace HB : Hid (Below w.heap.size w w1) := Below.on HB.out hb
    replace HX : Hid (BoxR w1 X [.slice a len cap, .int .i64 now]) := HX.out.below hb
    replace HZ : Hid (BoxR w1 (X + 1) (drV x y n)) := HZ.out.below hb
    replace t0 : w1.cell? ⟨X, 0, none⟩ = some (.slice a len cap) := HX.out.at0 0 _ rfl
    replace t1 : w1.cell? ⟨X, 1, none⟩ = some (.int .i64 now) := HX.out.at0 1 _ rfl
    replace e20 := DB.c20 HZ.out
    have HNu : Hid (NdIn w1 u yu) := hNu
    clear hNu
    clear hb
    go_upto_region 2 with (refine wpList_store_list (by rfl) 84 _ _ (by rfl) _ _ (drV u yu nu) (by rfl) (by rfl) (by rw [drV_len]; exact there25 _) (by kernel_rfl) (drV_ones _ _ _) ?_)
    have hbN : Below w1.heap.size w1 ((w1.alloc (.cells #[.int .i64 0, .int .i64 0, .int .i64 0, .int .i64 0, .int .i64 0, .int .i64 0, .int .i64 0, .slice none 0 0, .slice none 0 0, .bool false, .int .i64 0, .bool false, .int .i64 0, .int .i64 0, .int .i64 0, .slice none 0 0, .slice none 0 0, .bool false, .int .i64 0, .int .i64 0, .int .i64 0, .string ⟨#[]⟩, .slice none 0 0, .int .i64 0, .int .i64 0] 84)).setCells w1.heap.size 0 (drV u yu nu)) := bl_setsT (Nat.le_refl _) _ _ (bel_alloc _ _)
    have HBn : Hid (Below w.heap.size w ((w1.alloc (.cells #[.int .i64 0, .int .i64 0, .int .i64 0, .int .i64 0, .int .i64 0, .int .i64 0, .int .i64 0, .slice none 0 0, .slice none 0 0, .bool false, .int .i64 0, .bool false, .int .i64 0, .int .i64 0, .int .i64 0, .slice none 0 0, .slice none 0 0, .bool false, .int .i64 0, .int .i64 0, .int .i64 0, .string ⟨#[]⟩, .slice none 0 0, .int .i64 0, .int .i64 0] 84)).setCells w1.heap.size 0 (drV u yu nu))) := Below.on HB.out hbN
    have HZn : Hid (BoxR ((w1.alloc (.cells #[.int .i64 0, .int .i64 0, .int .i64 0, .int .i64 0, .int .i64 0, .int .i64 0, .int .i64 0, .slice none 0 0, .slice none 0 0, .bool false, .int .i64 0, .bool false, .int .i64 0, .int .i64 0, .int .i64 0, .slice none 0 0, .slice none 0 0, .bool false, .int .i64 0, .int .i64 0, .int .i64 0, .string ⟨#[]⟩, .slice none 0 0, .int .i64 0, .int .i64 0] 84)).setCells w1.heap.size 0 (drV u yu nu)) (X + 1) (drV x y n)) := HZ.out.below hbN
    have HUn : Hid (BoxR ((w1.alloc (.cells #[.int .i64 0, .int .i64 0, .int .i64 0, .int .i64 0, .int .i64 0, .int .i64 0, .int .i64 0, .slice none 0 0, .slice none 0 0, .bool false, .int .i64 0, .bool false, .int .i64 0, .int .i64 0, .int .i64 0, .slice none 0 0, .slice none 0 0, .bool false, .int .i64 0, .int .i64 0, .int .i64 0, .string ⟨#[]⟩, .slice none 0 0, .int .i64 0, .int .i64 0] 84)).setCells w1.heap.size 0 (drV u yu nu)) w1.heap.size (drV u yu nu)) := ⟨by rw [size_setCellsT]; simp, World.rangeAt_setCells_same _ _ _ _ ((boxW_new w1 [.int .i64 0, .int .i64 0, .int .i64 0, .int .i64 0, .int .i64 0, .int .i64 0, .int .i64 0, .slice none 0 0, .slice none 0 0, .bool false, .int .i64 0, .bool false, .int .i64 0, .int .i64 0, .int .i64 0, .slice none 0 0, .slice none 0 0, .bool false, .int .i64 0, .int .i64 0, .int .i64 0, .string ⟨#[]⟩, .slice none 0 0, .int .i64 0, .int .i64 0] 84).there 0 25 (by simp))⟩
    have HNu2 : Hid (NdIn ((w1.alloc (.cells #[.int .i64 0, .int .i64 0, .int .i64 0, .int .i64 0, .int .i64 0, .int .i64 0, .int .i64 0, .slice none 0 0, .slice none 0 0, .bool false, .int .i64 0, .bool false, .int .i64 0, .int .i64 0, .int .i64 0, .slice none 0 0, .slice none 0 0, .bool false, .int .i64 0, .int .i64 0, .int .i64 0, .string ⟨#[]⟩, .slice none 0 0, .int .i64 0, .int .i64 0] 84)).setCells w1.heap.size 0 (drV u yu nu)) u yu) := HNu.out.below hbN
    clear hbN HNu HB HX HZ t0 t1 e20
    generalize ((w1.alloc (.cells #[.int .i64 0, .int .i64 0, .int .i64 0, .int .i64 0, .int .i64 0, .int .i64 0, .int .i64 0, .slice none 0 0, .slice none 0 0, .bool false, .int .i64 0, .bool false, .int .i64 0, .int .i64 0, .int .i64 0, .slice none 0 0, .slice none 0 0, .bool false, .int .i64 0, .int .i64 0, .int .i64 0, .string ⟨#[]⟩, .slice none 0 0, .int .i64 0, .int .i64 0] 84)).setCells w1.heap.size 0 (drV u yu nu)) = w2 at HBn HZn HUn HNu2 ⊢
    generalize w1.heap.size = U at HUn ⊢
    have e24 := DB.c24 HZn.out
    have HTm : Hid (Calls Tryz.prog 99 #[.agg (ndV u yu).toArray, .int .i64 n] w2 fun e w'' => e = .returned (.int .i64 (cntE u.ns n u.ns.length)) ∧ Below w2.heap.size w2 w'') := iTimes_any u yu n HFk.out.nl _ HNu2.out.nA
    go_wp2_with (first | (refine wpList_load_want (by rfl) 31 _ (by rfl) _ _ (by rfl) _ _ (DB.nd HUn.out) Tryz.underlying31 rfl (by kernel_rfl) ?_) | (go_at_call 99; refine (HTm.out).mono ?_; rintro e w3 ⟨rfl, hb⟩; have HB3 : Hid (Below w.heap.size w w3) := Below.on HBn.out hb; clear hb))
    go_ret
    exact ⟨ret_boolW (by rw [HE.out]), HB3.out⟩
set_option maxRecDepth 20000 in
set_option maxHeartbeats 8000000 in
/-- impl.directoryRight. -/
theorem iDirR_any (a : Option Addr) (len cap : Nat) (l : List Nd) (now : Int) (x : Nd) (y : Na) (n : Int) (hl : len ≤ 1048576) (hf : ∀ i, i < len → NdFit 1048576 (ndAt l i)) (hx : NdFit 1048576 x) (w : World) (hi : Nds a len l w) (hy : NdIn w x y) :
    Calls Tryz.prog 61 #[.agg #[.slice a len cap, .int .i64 now], .agg (drV x y n).toArray] w fun e w' => e = .returned (.bool (x.dirI l n)) ∧ Below w.heap.size w w' := by
  have HI : Hid (Nds a len l w) := hi
  have HF : Hid (∀ i, i < len → NdFit 1048576 (ndAt l i)) := hf
  have HK : Hid (NdFit 1048576 x) := hx
  have HM : Hid (NdIn w x y) := hy
  clear hi hf hx hy
  have HE : Hid (x.dirI l n = (x.li == 1 && (x.bo.toList.isEmpty && (x.dB && (nsB l x.ns && (n == 1 || (diB l x.up && hasE (ndAt l (x.up - 1).toNat).ns n (ndAt l (x.up - 1).toNat).ns.length))))))) := (by
    have hbe : (x.bo.toList == []) = x.bo.toList.isEmpty := by cases x.bo.toList <;> rfl
    show _ = _
    rw [← hbe]
    rfl)
  have HU : Hid (∀ w', Below w.heap.size w w' → Calls Tryz.prog 86 #[.agg #[.slice a len cap, .int .i64 now], .agg (drV x y n).toArray] w' fun e w'' => e = .returned (.bool (diB l x.up && hasE (ndAt l (x.up - 1).toNat).ns n (ndAt l (x.up - 1).toNat).ns.length)) ∧ Below w'.heap.size w' w'') := (fun w' hb => iNamedUp_any a len cap l now x y n hl HF.out w' (HI.out.below hb))
  generalize (diB l x.up && hasE (ndAt l (x.up - 1).toNat).ns n (ndAt l (x.up - 1).toNat).ns.length) = up at HE HU
  have HB1 : Hid (∀ w', Below w.heap.size w w' → Calls Tryz.prog 84 #[.agg (ndV x y).toArray] w' fun e w'' => e = .returned (.bool x.dB) ∧ Below w'.heap.size w' w'') := (fun w' hb => iDefault_any x y HK.out _ (HM.out.below hb))
  have HB2 : Hid (∀ w', Below w.heap.size w w' → Calls Tryz.prog 85 #[.agg #[.slice a len cap, .int .i64 now], .slice y.nA x.ns.length y.nC] w' fun e w'' => e = .returned (.bool (nsB l x.ns)) ∧ Below w'.heap.size w' w'') := (fun w' hb => iNames_any a len cap l now _ _ x.ns hl HK.out.nl HK.out.nm _ (HI.out.below hb) (HM.out.nA.below hb))
  generalize x.dB = cD at HE HB1
  generalize nsB l x.ns = cN at HE HB2
  cases c1 : (x.li == 1)
  · rw [c1] at HE
    have d1 : (x.li != 1) = true := by rw [bne, c1]; rfl
    have HX : Hid (BoxR ((w.alloc (.cells #[.slice a len cap, .int .i64 now] 35)).alloc (.cells (drV x y n).toArray 84)) w.heap.size [.slice a len cap, .int .i64 now]) := (boxR_new w [.slice a len cap, .int .i64 now] 35).below (bel_alloc _ _)
    have HZ : Hid (BoxR ((w.alloc (.cells #[.slice a len cap, .int .i64 now] 35)).alloc (.cells (drV x y n).toArray 84)) (w.heap.size + 1) (drV x y n)) := (by
      have h := boxR_new (w.alloc (.cells #[.slice a len cap, .int .i64 now] 35)) (drV x y n) 84
      simp only [World.size_alloc] at h
      exact h)
    have HB : Hid (Below w.heap.size w ((w.alloc (.cells #[.slice a len cap, .int .i64 now] 35)).alloc (.cells (drV x y n).toArray 84))) := bl2T _ _ _
    go_enter Tryz.func61, Tryz.ntmps61
    go_upto_region 1 with fail
    generalize ((w.alloc (.cells #[.slice a len cap, .int .i64 now] 35)).alloc (.cells (drV x y n).toArray 84)) = w0 at HX HZ HB ⊢
    obtain ⟨X, hX⟩ : ∃ X, X = w.heap.size := ⟨_, rfl⟩
    have HXw : Hid (X = w.heap.size) := hX
    rw [← hX] at HX HZ ⊢
    clear hX
    have t0 : w0.cell? ⟨X, 0, none⟩ = some (.slice a len cap) := HX.out.at0 0 _ rfl
    have t1 : w0.cell? ⟨X, 1, none⟩ = some (.int .i64 now) := HX.out.at0 1 _ rfl
    have e19 := DB.c19 HZ.out
    have e20 := DB.c20 HZ.out
    have e21 := DB.c21 HZ.out
    have e22 := DB.c22 HZ.out
    have e24 := DB.c24 HZ.out
    go_wp2_with (first
      | fail)
    go_ret
    exact ⟨ret_boolW (by rw [HE.out]; first | done | simp), HB.out⟩
  have d1 : (x.li != 1) = false := by rw [bne, c1]; rfl
  rw [c1] at HE
  cases c2 : x.bo.toList.isEmpty
  · rw [c2] at HE
    have HX : Hid (BoxR ((w.alloc (.cells #[.slice a len cap, .int .i64 now] 35)).alloc (.cells (drV x y n).toArray 84)) w.heap.size [.slice a len cap, .int .i64 now]) := (boxR_new w [.slice a len cap, .int .i64 now] 35).below (bel_alloc _ _)
    have HZ : Hid (BoxR ((w.alloc (.cells #[.slice a len cap, .int .i64 now] 35)).alloc (.cells (drV x y n).toArray 84)) (w.heap.size + 1) (drV x y n)) := (by
      have h := boxR_new (w.alloc (.cells #[.slice a len cap, .int .i64 now] 35)) (drV x y n) 84
      simp only [World.size_alloc] at h
      exact h)
    have HB : Hid (Below w.heap.size w ((w.alloc (.cells #[.slice a len cap, .int .i64 now] 35)).alloc (.cells (drV x y n).toArray 84))) := bl2T _ _ _
    go_enter Tryz.func61, Tryz.ntmps61
    go_upto_region 1 with fail
    generalize ((w.alloc (.cells #[.slice a len cap, .int .i64 now] 35)).alloc (.cells (drV x y n).toArray 84)) = w0 at HX HZ HB ⊢
    obtain ⟨X, hX⟩ : ∃ X, X = w.heap.size := ⟨_, rfl⟩
    have HXw : Hid (X = w.heap.size) := hX
    rw [← hX] at HX HZ ⊢
    clear hX
    have t0 : w0.cell? ⟨X, 0, none⟩ = some (.slice a len cap) := HX.out.at0 0 _ rfl
    have t1 : w0.cell? ⟨X, 1, none⟩ = some (.int .i64 now) := HX.out.at0 1 _ rfl
    have e19 := DB.c19 HZ.out
    have e20 := DB.c20 HZ.out
    have e21 := DB.c21 HZ.out
    have e22 := DB.c22 HZ.out
    have e24 := DB.c24 HZ.out
    go_wp2_with (first
      | fail)
    go_ret
    exact ⟨ret_boolW (by rw [HE.out]; first | done | simp), HB.out⟩
  rw [c2] at HE
  cases cD
  · skip
    have HX : Hid (BoxR ((w.alloc (.cells #[.slice a len cap, .int .i64 now] 35)).alloc (.cells (drV x y n).toArray 84)) w.heap.size [.slice a len cap, .int .i64 now]) := (boxR_new w [.slice a len cap, .int .i64 now] 35).below (bel_alloc _ _)
    have HZ : Hid (BoxR ((w.alloc (.cells #[.slice a len cap, .int .i64 now] 35)).alloc (.cells (drV x y n).toArray 84)) (w.heap.size + 1) (drV x y n)) := (by
      have h := boxR_new (w.alloc (.cells #[.slice a len cap, .int .i64 now] 35)) (drV x y n) 84
      simp only [World.size_alloc] at h
      exact h)
    have HB : Hid (Below w.heap.size w ((w.alloc (.cells #[.slice a len cap, .int .i64 now] 35)).alloc (.cells (drV x y n).toArray 84))) := bl2T _ _ _
    go_enter Tryz.func61, Tryz.ntmps61
    go_upto_region 1 with fail
    generalize ((w.alloc (.cells #[.slice a len cap, .int .i64 now] 35)).alloc (.cells (drV x y n).toArray 84)) = w0 at HX HZ HB ⊢
    obtain ⟨X, hX⟩ : ∃ X, X = w.heap.size := ⟨_, rfl⟩
    have HXw : Hid (X = w.heap.size) := hX
    rw [← hX] at HX HZ ⊢
    clear hX
    have t0 : w0.cell? ⟨X, 0, none⟩ = some (.slice a len cap) := HX.out.at0 0 _ rfl
    have t1 : w0.cell? ⟨X, 1, none⟩ = some (.int .i64 now) := HX.out.at0 1 _ rfl
    have e19 := DB.c19 HZ.out
    have e20 := DB.c20 HZ.out
    have e21 := DB.c21 HZ.out
    have e22 := DB.c22 HZ.out
    have e24 := DB.c24 HZ.out
    go_wp2_with (first
      | (refine wpList_load_want (by rfl) 31 _ (by rfl) _ _ (by rfl) _ _ (DB.nd HZ.out) Tryz.underlying31 rfl (by kernel_rfl) ?_)
      | (refine wpList_load_want (by rfl) 84 _ (by rfl) _ _ (by rfl) _ _ HZ.out.at0 Tryz.underlying84 rfl (by kernel_rfl) ?_)
      | (go_at_call 84; refine (HB1.out _ HB.out).mono ?_; rintro e w1 ⟨rfl, hb⟩; replace HB : Hid (Below w.heap.size w w1) := Below.on HB.out hb; replace HX : Hid (BoxR w1 X [.slice a len cap, .int .i64 now]) := HX.out.below hb; replace HZ : Hid (BoxR w1 (X + 1) (drV x y n)) := HZ.out.below hb; replace t0 : w1.cell? ⟨X, 0, none⟩ = some (.slice a len cap) := HX.out.at0 0 _ rfl; replace t1 : w1.cell? ⟨X, 1, none⟩ = some (.int .i64 now) := HX.out.at0 1 _ rfl; replace e19 := DB.c19 HZ.out; replace e20 := DB.c20 HZ.out; replace e21 := DB.c21 HZ.out; replace e22 := DB.c22 HZ.out; replace e24 := DB.c24 HZ.out; clear hb))
    go_ret
    exact ⟨ret_boolW (by rw [HE.out]; first | done | simp), HB.out⟩
  cases cN
  · skip
    have HX : Hid (BoxR ((w.alloc (.cells #[.slice a len cap, .int .i64 now] 35)).alloc (.cells (drV x y n).toArray 84)) w.heap.size [.slice a len cap, .int .i64 now]) := (boxR_new w [.slice a len cap, .int .i64 now] 35).below (bel_alloc _ _)
    have HZ : Hid (BoxR ((w.alloc (.cells #[.slice a len cap, .int .i64 now] 35)).alloc (.cells (drV x y n).toArray 84)) (w.heap.size + 1) (drV x y n)) := (by
      have h := boxR_new (w.alloc (.cells #[.slice a len cap, .int .i64 now] 35)) (drV x y n) 84
      simp only [World.size_alloc] at h
      exact h)
    have HB : Hid (Below w.heap.size w ((w.alloc (.cells #[.slice a len cap, .int .i64 now] 35)).alloc (.cells (drV x y n).toArray 84))) := bl2T _ _ _
    go_enter Tryz.func61, Tryz.ntmps61
    go_upto_region 1 with fail
    generalize ((w.alloc (.cells #[.slice a len cap, .int .i64 now] 35)).alloc (.cells (drV x y n).toArray 84)) = w0 at HX HZ HB ⊢
    obtain ⟨X, hX⟩ : ∃ X, X = w.heap.size := ⟨_, rfl⟩
    have HXw : Hid (X = w.heap.size) := hX
    rw [← hX] at HX HZ ⊢
    clear hX
    have t0 : w0.cell? ⟨X, 0, none⟩ = some (.slice a len cap) := HX.out.at0 0 _ rfl
    have t1 : w0.cell? ⟨X, 1, none⟩ = some (.int .i64 now) := HX.out.at0 1 _ rfl
    have e19 := DB.c19 HZ.out
    have e20 := DB.c20 HZ.out
    have e21 := DB.c21 HZ.out
    have e22 := DB.c22 HZ.out
    have e24 := DB.c24 HZ.out
    go_wp2_with (first
      | (refine wpList_load_want (by rfl) 31 _ (by rfl) _ _ (by rfl) _ _ (DB.nd HZ.out) Tryz.underlying31 rfl (by kernel_rfl) ?_)
      | (refine wpList_load_want (by rfl) 84 _ (by rfl) _ _ (by rfl) _ _ HZ.out.at0 Tryz.underlying84 rfl (by kernel_rfl) ?_)
      | (go_at_call 84; refine (HB1.out _ HB.out).mono ?_; rintro e w1 ⟨rfl, hb⟩; replace HB : Hid (Below w.heap.size w w1) := Below.on HB.out hb; replace HX : Hid (BoxR w1 X [.slice a len cap, .int .i64 now]) := HX.out.below hb; replace HZ : Hid (BoxR w1 (X + 1) (drV x y n)) := HZ.out.below hb; replace t0 : w1.cell? ⟨X, 0, none⟩ = some (.slice a len cap) := HX.out.at0 0 _ rfl; replace t1 : w1.cell? ⟨X, 1, none⟩ = some (.int .i64 now) := HX.out.at0 1 _ rfl; replace e19 := DB.c19 HZ.out; replace e20 := DB.c20 HZ.out; replace e21 := DB.c21 HZ.out; replace e22 := DB.c22 HZ.out; replace e24 := DB.c24 HZ.out; clear hb)
      | (go_at_call 85; refine (HB2.out _ HB.out).mono ?_; rintro e w1 ⟨rfl, hb⟩; replace HB : Hid (Below w.heap.size w w1) := Below.on HB.out hb; replace HX : Hid (BoxR w1 X [.slice a len cap, .int .i64 now]) := HX.out.below hb; replace HZ : Hid (BoxR w1 (X + 1) (drV x y n)) := HZ.out.below hb; replace t0 : w1.cell? ⟨X, 0, none⟩ = some (.slice a len cap) := HX.out.at0 0 _ rfl; replace t1 : w1.cell? ⟨X, 1, none⟩ = some (.int .i64 now) := HX.out.at0 1 _ rfl; replace e19 := DB.c19 HZ.out; replace e20 := DB.c20 HZ.out; replace e21 := DB.c21 HZ.out; replace e22 := DB.c22 HZ.out; replace e24 := DB.c24 HZ.out; clear hb))
    go_ret
    exact ⟨ret_boolW (by rw [HE.out]; first | done | simp), HB.out⟩
  cases c5 : (n == 1)
  · rw [c5] at HE
    cases up
    · skip
      have HX : Hid (BoxR ((w.alloc (.cells #[.slice a len cap, .int .i64 now] 35)).alloc (.cells (drV x y n).toArray 84)) w.heap.size [.slice a len cap, .int .i64 now]) := (boxR_new w [.slice a len cap, .int .i64 now] 35).below (bel_alloc _ _)
      have HZ : Hid (BoxR ((w.alloc (.cells #[.slice a len cap, .int .i64 now] 35)).alloc (.cells (drV x y n).toArray 84)) (w.heap.size + 1) (drV x y n)) := (by
        have h := boxR_new (w.alloc (.cells #[.slice a len cap, .int .i64 now] 35)) (drV x y n) 84
        simp only [World.size_alloc] at h
        exact h)
      have HB : Hid (Below w.heap.size w ((w.alloc (.cells #[.slice a len cap, .int .i64 now] 35)).alloc (.cells (drV x y n).toArray 84))) := bl2T _ _ _
      go_enter Tryz.func61, Tryz.ntmps61
      go_upto_region 1 with fail
      generalize ((w.alloc (.cells #[.slice a len cap, .int .i64 now] 35)).alloc (.cells (drV x y n).toArray 84)) = w0 at HX HZ HB ⊢
      obtain ⟨X, hX⟩ : ∃ X, X = w.heap.size := ⟨_, rfl⟩
      have HXw : Hid (X = w.heap.size) := hX
      rw [← hX] at HX HZ ⊢
      clear hX
      have t0 : w0.cell? ⟨X, 0, none⟩ = some (.slice a len cap) := HX.out.at0 0 _ rfl
      have t1 : w0.cell? ⟨X, 1, none⟩ = some (.int .i64 now) := HX.out.at0 1 _ rfl
      have e19 := DB.c19 HZ.out
      have e20 := DB.c20 HZ.out
      have e21 := DB.c21 HZ.out
      have e22 := DB.c22 HZ.out
      have e24 := DB.c24 HZ.out
      go_wp2_with (first
        | (refine wpList_load_want (by rfl) 31 _ (by rfl) _ _ (by rfl) _ _ (DB.nd HZ.out) Tryz.underlying31 rfl (by kernel_rfl) ?_)
        | (refine wpList_load_want (by rfl) 84 _ (by rfl) _ _ (by rfl) _ _ HZ.out.at0 Tryz.underlying84 rfl (by kernel_rfl) ?_)
        | (go_at_call 84; refine (HB1.out _ HB.out).mono ?_; rintro e w1 ⟨rfl, hb⟩; replace HB : Hid (Below w.heap.size w w1) := Below.on HB.out hb; replace HX : Hid (BoxR w1 X [.slice a len cap, .int .i64 now]) := HX.out.below hb; replace HZ : Hid (BoxR w1 (X + 1) (drV x y n)) := HZ.out.below hb; replace t0 : w1.cell? ⟨X, 0, none⟩ = some (.slice a len cap) := HX.out.at0 0 _ rfl; replace t1 : w1.cell? ⟨X, 1, none⟩ = some (.int .i64 now) := HX.out.at0 1 _ rfl; replace e19 := DB.c19 HZ.out; replace e20 := DB.c20 HZ.out; replace e21 := DB.c21 HZ.out; replace e22 := DB.c22 HZ.out; replace e24 := DB.c24 HZ.out; clear hb)
        | (go_at_call 85; refine (HB2.out _ HB.out).mono ?_; rintro e w1 ⟨rfl, hb⟩; replace HB : Hid (Below w.heap.size w w1) := Below.on HB.out hb; replace HX : Hid (BoxR w1 X [.slice a len cap, .int .i64 now]) := HX.out.below hb; replace HZ : Hid (BoxR w1 (X + 1) (drV x y n)) := HZ.out.below hb; replace t0 : w1.cell? ⟨X, 0, none⟩ = some (.slice a len cap) := HX.out.at0 0 _ rfl; replace t1 : w1.cell? ⟨X, 1, none⟩ = some (.int .i64 now) := HX.out.at0 1 _ rfl; replace e19 := DB.c19 HZ.out; replace e20 := DB.c20 HZ.out; replace e21 := DB.c21 HZ.out; replace e22 := DB.c22 HZ.out; replace e24 := DB.c24 HZ.out; clear hb)
        | (go_at_call 86; refine (HU.out _ HB.out).mono ?_; rintro e w1 ⟨rfl, hb⟩; replace HB : Hid (Below w.heap.size w w1) := Below.on HB.out hb; replace HX : Hid (BoxR w1 X [.slice a len cap, .int .i64 now]) := HX.out.below hb; replace HZ : Hid (BoxR w1 (X + 1) (drV x y n)) := HZ.out.below hb; replace t0 : w1.cell? ⟨X, 0, none⟩ = some (.slice a len cap) := HX.out.at0 0 _ rfl; replace t1 : w1.cell? ⟨X, 1, none⟩ = some (.int .i64 now) := HX.out.at0 1 _ rfl; replace e19 := DB.c19 HZ.out; replace e20 := DB.c20 HZ.out; replace e21 := DB.c21 HZ.out; replace e22 := DB.c22 HZ.out; replace e24 := DB.c24 HZ.out; clear hb))
      go_ret
      exact ⟨ret_boolW (by rw [HE.out]; first | done | simp), HB.out⟩
    · skip
      have HX : Hid (BoxR ((w.alloc (.cells #[.slice a len cap, .int .i64 now] 35)).alloc (.cells (drV x y n).toArray 84)) w.heap.size [.slice a len cap, .int .i64 now]) := (boxR_new w [.slice a len cap, .int .i64 now] 35).below (bel_alloc _ _)
      have HZ : Hid (BoxR ((w.alloc (.cells #[.slice a len cap, .int .i64 now] 35)).alloc (.cells (drV x y n).toArray 84)) (w.heap.size + 1) (drV x y n)) := (by
        have h := boxR_new (w.alloc (.cells #[.slice a len cap, .int .i64 now] 35)) (drV x y n) 84
        simp only [World.size_alloc] at h
        exact h)
      have HB : Hid (Below w.heap.size w ((w.alloc (.cells #[.slice a len cap, .int .i64 now] 35)).alloc (.cells (drV x y n).toArray 84))) := bl2T _ _ _
      go_enter Tryz.func61, Tryz.ntmps61
      go_upto_region 1 with fail
      generalize ((w.alloc (.cells #[.slice a len cap, .int .i64 now] 35)).alloc (.cells (drV x y n).toArray 84)) = w0 at HX HZ HB ⊢
      obtain ⟨X, hX⟩ : ∃ X, X = w.heap.size := ⟨_, rfl⟩
      have HXw : Hid (X = w.heap.size) := hX
      rw [← hX] at HX HZ ⊢
      clear hX
      have t0 : w0.cell? ⟨X, 0, none⟩ = some (.slice a len cap) := HX.out.at0 0 _ rfl
      have t1 : w0.cell? ⟨X, 1, none⟩ = some (.int .i64 now) := HX.out.at0 1 _ rfl
      have e19 := DB.c19 HZ.out
      have e20 := DB.c20 HZ.out
      have e21 := DB.c21 HZ.out
      have e22 := DB.c22 HZ.out
      have e24 := DB.c24 HZ.out
      go_wp2_with (first
        | (refine wpList_load_want (by rfl) 31 _ (by rfl) _ _ (by rfl) _ _ (DB.nd HZ.out) Tryz.underlying31 rfl (by kernel_rfl) ?_)
        | (refine wpList_load_want (by rfl) 84 _ (by rfl) _ _ (by rfl) _ _ HZ.out.at0 Tryz.underlying84 rfl (by kernel_rfl) ?_)
        | (go_at_call 84; refine (HB1.out _ HB.out).mono ?_; rintro e w1 ⟨rfl, hb⟩; replace HB : Hid (Below w.heap.size w w1) := Below.on HB.out hb; replace HX : Hid (BoxR w1 X [.slice a len cap, .int .i64 now]) := HX.out.below hb; replace HZ : Hid (BoxR w1 (X + 1) (drV x y n)) := HZ.out.below hb; replace t0 : w1.cell? ⟨X, 0, none⟩ = some (.slice a len cap) := HX.out.at0 0 _ rfl; replace t1 : w1.cell? ⟨X, 1, none⟩ = some (.int .i64 now) := HX.out.at0 1 _ rfl; replace e19 := DB.c19 HZ.out; replace e20 := DB.c20 HZ.out; replace e21 := DB.c21 HZ.out; replace e22 := DB.c22 HZ.out; replace e24 := DB.c24 HZ.out; clear hb)
        | (go_at_call 85; refine (HB2.out _ HB.out).mono ?_; rintro e w1 ⟨rfl, hb⟩; replace HB : Hid (Below w.heap.size w w1) := Below.on HB.out hb; replace HX : Hid (BoxR w1 X [.slice a len cap, .int .i64 now]) := HX.out.below hb; replace HZ : Hid (BoxR w1 (X + 1) (drV x y n)) := HZ.out.below hb; replace t0 : w1.cell? ⟨X, 0, none⟩ = some (.slice a len cap) := HX.out.at0 0 _ rfl; replace t1 : w1.cell? ⟨X, 1, none⟩ = some (.int .i64 now) := HX.out.at0 1 _ rfl; replace e19 := DB.c19 HZ.out; replace e20 := DB.c20 HZ.out; replace e21 := DB.c21 HZ.out; replace e22 := DB.c22 HZ.out; replace e24 := DB.c24 HZ.out; clear hb)
        | (go_at_call 86; refine (HU.out _ HB.out).mono ?_; rintro e w1 ⟨rfl, hb⟩; replace HB : Hid (Below w.heap.size w w1) := Below.on HB.out hb; replace HX : Hid (BoxR w1 X [.slice a len cap, .int .i64 now]) := HX.out.below hb; replace HZ : Hid (BoxR w1 (X + 1) (drV x y n)) := HZ.out.below hb; replace t0 : w1.cell? ⟨X, 0, none⟩ = some (.slice a len cap) := HX.out.at0 0 _ rfl; replace t1 : w1.cell? ⟨X, 1, none⟩ = some (.int .i64 now) := HX.out.at0 1 _ rfl; replace e19 := DB.c19 HZ.out; replace e20 := DB.c20 HZ.out; replace e21 := DB.c21 HZ.out; replace e22 := DB.c22 HZ.out; replace e24 := DB.c24 HZ.out; clear hb))
      go_ret
      exact ⟨ret_boolW (by rw [HE.out]; first | done | simp), HB.out⟩
  · rw [c5] at HE
    have HX : Hid (BoxR ((w.alloc (.cells #[.slice a len cap, .int .i64 now] 35)).alloc (.cells (drV x y n).toArray 84)) w.heap.size [.slice a len cap, .int .i64 now]) := (boxR_new w [.slice a len cap, .int .i64 now] 35).below (bel_alloc _ _)
    have HZ : Hid (BoxR ((w.alloc (.cells #[.slice a len cap, .int .i64 now] 35)).alloc (.cells (drV x y n).toArray 84)) (w.heap.size + 1) (drV x y n)) := (by
      have h := boxR_new (w.alloc (.cells #[.slice a len cap, .int .i64 now] 35)) (drV x y n) 84
      simp only [World.size_alloc] at h
      exact h)
    have HB : Hid (Below w.heap.size w ((w.alloc (.cells #[.slice a len cap, .int .i64 now] 35)).alloc (.cells (drV x y n).toArray 84))) := bl2T _ _ _
    go_enter Tryz.func61, Tryz.ntmps61
    go_upto_region 1 with fail
    generalize ((w.alloc (.cells #[.slice a len cap, .int .i64 now] 35)).alloc (.cells (drV x y n).toArray 84)) = w0 at HX HZ HB ⊢
    obtain ⟨X, hX⟩ : ∃ X, X = w.heap.size := ⟨_, rfl⟩
    have HXw : Hid (X = w.heap.size) := hX
    rw [← hX] at HX HZ ⊢
    clear hX
    have t0 : w0.cell? ⟨X, 0, none⟩ = some (.slice a len cap) := HX.out.at0 0 _ rfl
    have t1 : w0.cell? ⟨X, 1, none⟩ = some (.int .i64 now) := HX.out.at0 1 _ rfl
    have e19 := DB.c19 HZ.out
    have e20 := DB.c20 HZ.out
    have e21 := DB.c21 HZ.out
    have e22 := DB.c22 HZ.out
    have e24 := DB.c24 HZ.out
    go_wp2_with (first
      | (refine wpList_load_want (by rfl) 31 _ (by rfl) _ _ (by rfl) _ _ (DB.nd HZ.out) Tryz.underlying31 rfl (by kernel_rfl) ?_)
      | (refine wpList_load_want (by rfl) 84 _ (by rfl) _ _ (by rfl) _ _ HZ.out.at0 Tryz.underlying84 rfl (by kernel_rfl) ?_)
      | (go_at_call 84; refine (HB1.out _ HB.out).mono ?_; rintro e w1 ⟨rfl, hb⟩; replace HB : Hid (Below w.heap.size w w1) := Below.on HB.out hb; replace HX : Hid (BoxR w1 X [.slice a len cap, .int .i64 now]) := HX.out.below hb; replace HZ : Hid (BoxR w1 (X + 1) (drV x y n)) := HZ.out.below hb; replace t0 : w1.cell? ⟨X, 0, none⟩ = some (.slice a len cap) := HX.out.at0 0 _ rfl; replace t1 : w1.cell? ⟨X, 1, none⟩ = some (.int .i64 now) := HX.out.at0 1 _ rfl; replace e19 := DB.c19 HZ.out; replace e20 := DB.c20 HZ.out; replace e21 := DB.c21 HZ.out; replace e22 := DB.c22 HZ.out; replace e24 := DB.c24 HZ.out; clear hb)
      | (go_at_call 85; refine (HB2.out _ HB.out).mono ?_; rintro e w1 ⟨rfl, hb⟩; replace HB : Hid (Below w.heap.size w w1) := Below.on HB.out hb; replace HX : Hid (BoxR w1 X [.slice a len cap, .int .i64 now]) := HX.out.below hb; replace HZ : Hid (BoxR w1 (X + 1) (drV x y n)) := HZ.out.below hb; replace t0 : w1.cell? ⟨X, 0, none⟩ = some (.slice a len cap) := HX.out.at0 0 _ rfl; replace t1 : w1.cell? ⟨X, 1, none⟩ = some (.int .i64 now) := HX.out.at0 1 _ rfl; replace e19 := DB.c19 HZ.out; replace e20 := DB.c20 HZ.out; replace e21 := DB.c21 HZ.out; replace e22 := DB.c22 HZ.out; replace e24 := DB.c24 HZ.out; clear hb)
      | (go_at_call 86; refine (HU.out _ HB.out).mono ?_; rintro e w1 ⟨rfl, hb⟩; replace HB : Hid (Below w.heap.size w w1) := Below.on HB.out hb; replace HX : Hid (BoxR w1 X [.slice a len cap, .int .i64 now]) := HX.out.below hb; replace HZ : Hid (BoxR w1 (X + 1) (drV x y n)) := HZ.out.below hb; replace t0 : w1.cell? ⟨X, 0, none⟩ = some (.slice a len cap) := HX.out.at0 0 _ rfl; replace t1 : w1.cell? ⟨X, 1, none⟩ = some (.int .i64 now) := HX.out.at0 1 _ rfl; replace e19 := DB.c19 HZ.out; replace e20 := DB.c20 HZ.out; replace e21 := DB.c21 HZ.out; replace e22 := DB.c22 HZ.out; replace e24 := DB.c24 HZ.out; clear hb))
    go_ret
    exact ⟨ret_boolW (by rw [HE.out]; first | done | simp), HB.out⟩
end Go.Proofs.YtgodbelcddgdmaaGreat
/- Rows of directories beside their numbers. -/
namespace Go.Proofs.YtgodbelcddgdmaaGreat
open Go.RowKit Go.PlainAid Go.Deep
set_option linter.unusedVariables false
/-- The cells of a list of directories. -/
def dsV : List (Nd × Na × Int) → List Value
  | [] => []
  | d :: l => drV d.1 d.2.1 d.2.2 ++ dsV l
theorem dsV_append (l k : List (Nd × Na × Int)) : dsV (l ++ k) = dsV l ++ dsV k := by
  induction l with
  | nil => rfl
  | cons p l ih => simp [dsV, ih]
theorem drV_one (x : Nd) (y : Na) (n : Int) : ∀ u ∈ drV x y n, u.oneCell' = true := by simp [drV]; simp [Value.oneCell']
theorem dsV_get : ∀ (l : List (Nd × Na × Int)) (i : Nat) (hi : i < l.length) (j : Nat), j < 25 → (dsV l)[i * 25 + j]? = (drV (l[i]).1 (l[i]).2.1 (l[i]).2.2)[j]?
  | [], i, hi, _, _ => absurd hi (by simp)
  | d :: l, 0, hi, j, hj => by
    simp only [dsV, Nat.zero_mul, Nat.zero_add]
    rw [List.getElem?_append_left (by rw [drV_len]; exact hj)]
    rfl
  | d :: l, i + 1, hi, j, hj => by
    simp only [dsV]
    rw [List.getElem?_append_right (by rw [drV_len]; omega), drV_len]
    have e : (i + 1) * 25 + j - 25 = i * 25 + j := by omega
    rw [e, dsV_get l i (by simpa using hi) j hj]
    rfl
/-- A row that is owned, as a list of directories. -/
theorem ds_of_row {w : World} {B : Nat} {t : TypeId} {v : Value} {l : List (Nd × Na × Int)} (h : w.ownsRow B t 25 v l.length (dsV l)) :
    ∃ a cap, v = .slice a l.length cap ∧ (∀ i (hi : i < l.length), ∃ g, a = some ⟨g, 0, none⟩ ∧ g < w.heap.size ∧ w.rangeAt g (i * 25) (drV (l[i]).1 (l[i]).2.1 (l[i]).2.2)) := by
  obtain ⟨_, ⟨rfl, hn⟩ | ⟨g, cap, cur, rfl, hb, hg, hc, _, hs, ht⟩⟩ := h
  · exact ⟨none, 0, by rw [hn], fun i hi => absurd hi (by omega)⟩
  · have hlt : g < w.heap.size := (Array.getElem?_eq_some_iff.1 hg).1
    refine ⟨some ⟨g, 0, none⟩, cap, rfl, fun i hi => ⟨g, rfl, hlt, fun j u hj => ?_⟩⟩
    have hj25 : j < 25 := by
      have := (List.getElem?_eq_some_iff.1 hj).1
      rwa [drV_len] at this
    rw [← dsV_get l i hi j hj25, ← ht, List.getElem?_take_of_lt (by omega)] at hj
    have : w.cell? ⟨g, i * 25 + j, none⟩ = cur[i * 25 + j]? := by simp [World.cell?, hg]
    rw [this]
    simpa using hj
theorem own_blockU {w : World} {B : Nat} {t : TypeId} {s : Nat} {v : Value} {n : Nat} {xs : List Value} (h : w.ownsRow B t s v n xs) : ∀ k, v.ownBlock = some k → B ≤ k := by
  obtain ⟨_, ⟨rfl, _⟩ | ⟨g, cap, cur, rfl, hb, _⟩⟩ := h
  · intro k hk; simp [Value.ownBlock] at hk
  · intro k hk; simp [Value.ownBlock] at hk; omega
theorem rowU_below {w w' : World} {B : Nat} {t : TypeId} {s : Nat} {v : Value} {n : Nat} {xs : List Value} (h : w.ownsRow B t s v n xs) (hb : Below w.heap.size w w') : w'.ownsRow B t s v n xs := by
  obtain ⟨h0, ⟨rfl, hn⟩ | ⟨g, cap, cur, rfl, hB, hg, hc, hm, hs, ht⟩⟩ := h
  · exact ⟨h0, .inl ⟨rfl, hn⟩⟩
  · have hlt : g < w.heap.size := (Array.getElem?_eq_some_iff.1 hg).1
    exact ⟨h0, .inr ⟨g, cap, cur, rfl, hB, (hb.block g hlt).trans hg, hc, hm, hs, ht⟩⟩
theorem row_apart {w : World} {B : Nat} {t : TypeId} {s : Nat} {v : Value} {n : Nat} {xs : List Value} (h : w.ownsRow B t s v n xs) : v.ownBlock ≠ some w.heap.size := by
  obtain ⟨_, ⟨rfl, _⟩ | ⟨g, cap, cur, rfl, _, hg, _⟩⟩ := h
  · simp [Value.ownBlock]
  · have hlt : g < w.heap.size := (Array.getElem?_eq_some_iff.1 hg).1
    simp [Value.ownBlock]
    omega
theorem infoDir : (Tryz.prog.info? 84).map (fun i => (i.zero, i.size, i.bytes)) = some (some (.agg (drV ndZ naZ 0).toArray), 25, 288) := by kernel_rfl
/-- append of one directory onto a row that was owned ahead of its making. -/
theorem run_append_dir (w : World) (B : Nat) (ty : TypeId) (v : Value) (ds : List (Nd × Na × Int)) (x : Nd) (y : Na) (n : Int) (hown : w.ownsRow B 84 25 v ds.length (dsV ds)) (hsm : ds.length ≤ 100000) (hB : B ≤ w.heap.size) :
    ∃ v' w', (Builtin.append_ #[86, 86] ty #[v, .slice (some ⟨w.heap.size, 0, none⟩) 1 1]).run Tryz.prog (w.alloc (.cells (drV x y n).toArray 84)) = .ok v' w' ∧ w'.ownsRow B 84 25 v' (ds ++ [(x, y, n)]).length (dsV (ds ++ [(x, y, n)])) ∧ Below B w w' ∧ w.heap.size ≤ w'.heap.size ∧ (∀ k, k < w.heap.size → v.ownBlock ≠ some k → w'.heap[k]? = w.heap[k]?) := by
  obtain ⟨i, hi, hzz⟩ := Option.map_eq_some_iff.1 infoDir
  simp only [Prod.mk.injEq] at hzz
  obtain ⟨hz, hs, hb⟩ := hzz
  have hb1 : Below w.heap.size w (w.alloc (.cells (drV x y n).toArray 84)) := bel_alloc _ _
  have hown1 := rowU_below hown hb1
  have hB1 : B ≤ (w.alloc (.cells (drV x y n).toArray 84)).heap.size := Nat.le_trans hB hb1.size
  have hnew := (boxR_new w (drV x y n) 84).at0
  obtain ⟨v', w', hr, h1, h2, _⟩ := run_append_own (P := Tryz.prog) _ B 86 ty 84 i _ 25 288 Tryz.underlying86 hi hz hs hb rfl (by decide) v ds.length (dsV ds) hown1 ⟨w.heap.size, 0, none⟩ 1 1 (drV x y n) rfl (fun j u hj => by rw [Addr.add_mid]; exact hnew j u hj) (drV_one x y n) (by unfold maxLen; omega) (by omega) hB1
  refine ⟨v', w', hr, ?_, (hb1.mono hB).grown h2 hB1 (own_blockU hown1), Nat.le_trans hb1.size h2.size, fun k hk hne => (h2.block k (Nat.lt_of_lt_of_le hk hb1.size) (Ne.symm hne)).trans (hb1.block k hk)⟩
  rw [dsV_append, List.length_append]
  have e : dsV [(x, y, n)] = drV x y n := by simp [dsV]
  rw [e]
  exact h1
theorem step_run {P : Program} {ops : Array Oper} {o : Oper} {a : Act} {w : World} {K : Act → World → Prop} {Q : Exit → Act → World → Prop} {E : Prop} (hw : Region.wanted o (yielded ops a.tmps) = true) (v : Value) (w' : World)
    (hr : (execOp a.eval o).run P w = .ok (.value v) w') (hK : K (a.put o.dst v) w') : if Region.wanted o (yielded ops a.tmps) = true then Oper.wp P o a w K Q else E := by
  rw [if_pos hw]
  unfold Oper.wp
  rw [hr]
  exact hK
theorem exec_build2 {P : Program} {o : Oper} {a : Act} {w : World} (t : TypeId) (x y : Operand) (ho : o.op = .build t #[(0, x), (1, y)]) (u v : Value) (hx : a.eval x = u) (hy : a.eval y = v) (cs : Array Value) (hb : P.built t [(0, u), (1, v)] = some cs) : (execOp a.eval o).run P w = .ok (.value (.agg cs)) w := by
  have h1 : (Instr.build t #[(0, u), (1, v)]).run P w = .ok (.agg cs) w := run_build w t _ cs hb
  subst hx
  subst hy
  unfold execOp
  simp only [ho, Sem.run_bind, List.map_toArray, List.map_cons, List.map_nil, h1, Result.andThen_ok]
  rfl
theorem exec_slice1 {P : Program} {o : Oper} {a : Act} {w w' : World} (t : TypeId) (x : Operand) (ho : o.op = .buildSlice t 1 #[(0, x)]) (u v : Value) (hx : a.eval x = u) (hr : (Instr.buildSlice t 1 #[(0, u)]).run P w = .ok v w') : (execOp a.eval o).run P w = .ok (.value v) w' := by
  subst hx
  unfold execOp
  simp only [ho, Sem.run_bind, List.map_toArray, List.map_cons, List.map_nil, hr, Result.andThen_ok]
  rfl
theorem step_appendT {P : Program} {ops : Array Oper} {o : Oper} {a : Act} {w : World} {K : Act → World → Prop} {Q : Exit → Act → World → Prop} {E : Prop}
    (hg : o.guard = none) (s x : Operand) (t : TypeId) (hop : o.op = Op.call { callee := Callee.builtin Builtin.append, args := #[s, x], argTypes := #[t, t] })
    (v xv v' : Value) (w' : World) (hs : a.eval s = v) (hx : a.eval x = xv) (hr : (Builtin.append_ #[t, t] o.type #[v, xv]).run P w = .ok v' w')
    (hK : K (a.put o.dst v') w') :
    if Region.wanted o (yielded ops a.tmps) = true then Oper.wp P o a w K Q else E := by
  have hw : Region.wanted o (yielded ops a.tmps) = true := by simp [Region.wanted, hg]
  rw [if_pos hw]
  unfold Oper.wp
  simp [execOp, hop, resolve, invoke, builtin, hs, hx, hr, Result.andThen]
  exact hK
end Go.Proofs.YtgodbelcddgdmaaGreat
/- The program's directories: a list of the directories beside their numbers. -/
namespace Go.Proofs.YtgodbelcddgdmaaGreat
open Go.RowKit Go.PlainAid Go.Deep
set_option linter.unusedSimpArgs false
set_option linter.unusedVariables false
/-- The directories among the first k nodes. -/
def dirsOf (l : List Nd) (Y : Nat → Na) : Nat → List (Nd × Na × Int)
  | 0 => []
  | k + 1 => if (ndAt l k).k == 1 then dirsOf l Y k ++ [(ndAt l k, Y k, (k : Int) + 1)] else dirsOf l Y k
theorem dirsOf_len (l : List Nd) (Y : Nat → Na) : ∀ k, (dirsOf l Y k).length ≤ k
  | 0 => Nat.le_refl _
  | k + 1 => by
    have := dirsOf_len l Y k
    simp only [dirsOf]
    split
    · simp; omega
    · omega
theorem range_heap {w w' : World} {b o : Nat} {cs : List Value} (h : w.rangeAt b o cs) (hb : w'.heap[b]? = w.heap[b]?) : w'.rangeAt b o cs := range_keep h (fun j => World.cell?_of_block (a := ⟨b, j, none⟩) hb)
set_option maxRecDepth 20000 in
set_option maxHeartbeats 8000000 in
/-- impl.directories. -/
theorem iDirs_any (a : Option Addr) (len cap : Nat) (l : List Nd) (now : Int) (Y : Nat → Na) (b off : Nat) (hl : len ≤ 12) (w : World) (ha : 0 < len → a = some ⟨b, off, none⟩ ∧ b < w.heap.size) (hc : ∀ i, i < len → N24 w b (off + i * 24) (ndAt l i) (Y i)) :
    Calls Tryz.prog 64 #[.agg #[.slice a len cap, .int .i64 now]] w fun e w' => ∃ v, e = .returned v ∧ w'.ownsRow w.heap.size 84 25 v (dirsOf l Y len).length (dsV (dirsOf l Y len)) ∧ Below w.heap.size w w' := by
  have HA : Hid (0 < len → a = some ⟨b, off, none⟩ ∧ b < w.heap.size) := ha
  have HC : Hid (∀ i, i < len → N24 w b (off + i * 24) (ndAt l i) (Y i)) := hc
  clear ha hc
  have HB : Hid (Below w.heap.size w (w.alloc (.cells #[.slice a len cap, .int .i64 now] 35))) := bel_alloc _ _
  have HX : Hid (BoxR (w.alloc (.cells #[.slice a len cap, .int .i64 now] 35)) w.heap.size [.slice a len cap, .int .i64 now]) := boxR_new _ _ _
  go_enter Tryz.func64, Tryz.ntmps64
  go_upto_region 1 with fail
  generalize (w.alloc (.cells #[.slice a len cap, .int .i64 now] 35)) = w0 at HB HX ⊢
  obtain ⟨X, hX⟩ : ∃ X, X = w.heap.size := ⟨_, rfl⟩
  rw [← hX] at HX ⊢
  clear hX
  have t0 : w0.cell? ⟨X, 0, none⟩ = some (.slice a len cap) := HX.out.at0 0 _ rfl
  have t1 : w0.cell? ⟨X, 1, none⟩ = some (.int .i64 now) := HX.out.at0 1 _ rfl
  go_wp2
  go_loopw [9, 3] (fun i v wr => ∃ k : Nat, k ≤ len ∧ i = .int .i64 k ∧ Hid (wr.ownsRow w.heap.size 84 25 v (dirsOf l Y k).length (dsV (dirsOf l Y k))) ∧ Hid (Below w.heap.size w wr)) (fun i _ _ => len - (intOf i).toNat)
  case atStart => exact ⟨0, Nat.zero_le _, rfl, ⟨rfl, .inl ⟨rfl, rfl⟩⟩, HB⟩
  case round =>
    obtain ⟨k, hk, rfl, hO, hB⟩ := hrel
    by_cases hlt : k < len
    · have hlt' : (k : Int) < (len : Int) := by omega
      have hk0 : (0 : Int) ≤ (k : Int) := by omega
      obtain ⟨hae, hb0⟩ := HA.out (by omega)
      subst hae
      have HNX : Hid (N24 wr b (off + k * 24) (ndAt l k) (Y k)) := range_below (HC.out k hlt) hb0 hB.out
      have HD1 : Hid (dirsOf l Y (k + 1) = (if (ndAt l k).k == 1 then dirsOf l Y k ++ [(ndAt l k, Y k, (k : Int) + 1)] else dirsOf l Y k)) := rfl
      have hdl := dirsOf_len l Y k
      generalize dirsOf l Y k = ds at hO HD1 hdl
      generalize ndAt l k = x at HNX HD1
      generalize Y k = y at HNX HD1
      have hbN : Below wr.heap.size wr ((wr.alloc (.cells #[.int .i64 0, .int .i64 0, .int .i64 0, .int .i64 0, .int .i64 0, .int .i64 0, .int .i64 0, .slice none 0 0, .slice none 0 0, .bool false, .int .i64 0, .bool false, .int .i64 0, .int .i64 0, .int .i64 0, .slice none 0 0, .slice none 0 0, .bool false, .int .i64 0, .int .i64 0, .int .i64 0, .string ⟨#[]⟩, .slice none 0 0, .int .i64 0] 31)).setCells wr.heap.size 0 (ndV x y)) := bl_setsT (Nat.le_refl _) _ _ (bel_alloc _ _)
      have HBn : Hid (Below w.heap.size w ((wr.alloc (.cells #[.int .i64 0, .int .i64 0, .int .i64 0, .int .i64 0, .int .i64 0, .int .i64 0, .int .i64 0, .slice none 0 0, .slice none 0 0, .bool false, .int .i64 0, .bool false, .int .i64 0, .int .i64 0, .int .i64 0, .slice none 0 0, .slice none 0 0, .bool false, .int .i64 0, .int .i64 0, .int .i64 0, .string ⟨#[]⟩, .slice none 0 0, .int .i64 0] 31)).setCells wr.heap.size 0 (ndV x y))) := Below.on hB.out hbN
      have HZn : Hid (BoxR ((wr.alloc (.cells #[.int .i64 0, .int .i64 0, .int .i64 0, .int .i64 0, .int .i64 0, .int .i64 0, .int .i64 0, .slice none 0 0, .slice none 0 0, .bool false, .int .i64 0, .bool false, .int .i64 0, .int .i64 0, .int .i64 0, .slice none 0 0, .slice none 0 0, .bool false, .int .i64 0, .int .i64 0, .int .i64 0, .string ⟨#[]⟩, .slice none 0 0, .int .i64 0] 31)).setCells wr.heap.size 0 (ndV x y)) wr.heap.size (ndV x y)) := ⟨by rw [size_setCellsT]; simp, World.rangeAt_setCells_same _ _ _ _ ((boxW_new wr [.int .i64 0, .int .i64 0, .int .i64 0, .int .i64 0, .int .i64 0, .int .i64 0, .int .i64 0, .slice none 0 0, .slice none 0 0, .bool false, .int .i64 0, .bool false, .int .i64 0, .int .i64 0, .int .i64 0, .slice none 0 0, .slice none 0 0, .bool false, .int .i64 0, .int .i64 0, .int .i64 0, .string ⟨#[]⟩, .slice none 0 0, .int .i64 0] 31).there 0 24 (by simp))⟩
      have HOn : Hid (((wr.alloc (.cells #[.int .i64 0, .int .i64 0, .int .i64 0, .int .i64 0, .int .i64 0, .int .i64 0, .int .i64 0, .slice none 0 0, .slice none 0 0, .bool false, .int .i64 0, .bool false, .int .i64 0, .int .i64 0, .int .i64 0, .slice none 0 0, .slice none 0 0, .bool false, .int .i64 0, .int .i64 0, .int .i64 0, .string ⟨#[]⟩, .slice none 0 0, .int .i64 0] 31)).setCells wr.heap.size 0 (ndV x y)).ownsRow w.heap.size 84 25 u3 ds.length (dsV ds)) := rowU_below hO.out hbN
      have HNe : Hid (u3.ownBlock ≠ some wr.heap.size) := row_apart hO.out
      clear hbN hO
      go_upto_region 5 with (first | (refine wpList_load_mid (by rfl) 31 _ (by rfl) _ _ (by rfl) _ _ HNX.out Tryz.underlying31 rfl (by kernel_rfl) ?_) | (refine wpList_store_list (by rfl) 31 _ _ (by rfl) _ _ (ndV x y) (by rfl) (by rfl) ((boxW_new wr [.int .i64 0, .int .i64 0, .int .i64 0, .int .i64 0, .int .i64 0, .int .i64 0, .int .i64 0, .slice none 0 0, .slice none 0 0, .bool false, .int .i64 0, .bool false, .int .i64 0, .int .i64 0, .int .i64 0, .slice none 0 0, .slice none 0 0, .bool false, .int .i64 0, .int .i64 0, .int .i64 0, .string ⟨#[]⟩, .slice none 0 0, .int .i64 0] 31).there 0 24 (by simp)) (by kernel_rfl) (ndV_ones _ _) ?_))
      generalize ((wr.alloc (.cells #[.int .i64 0, .int .i64 0, .int .i64 0, .int .i64 0, .int .i64 0, .int .i64 0, .int .i64 0, .slice none 0 0, .slice none 0 0, .bool false, .int .i64 0, .bool false, .int .i64 0, .int .i64 0, .int .i64 0, .slice none 0 0, .slice none 0 0, .bool false, .int .i64 0, .int .i64 0, .int .i64 0, .string ⟨#[]⟩, .slice none 0 0, .int .i64 0] 31)).setCells wr.heap.size 0 (ndV x y)) = wn at HBn HZn HOn ⊢
      generalize wr.heap.size = Z at HZn HNe ⊢
      have e0 := NB.c0 HZn.out
      cases hx1 : (x.k == 1)
      · rw [hx1] at HD1
        have HO2 : Hid (wn.ownsRow w.heap.size 84 25 u3 (dirsOf l Y (k + 1)).length (dsV (dirsOf l Y (k + 1)))) := (by show _; rw [HD1.out]; exact HOn.out)
        clear HD1 HOn
        go_wp2
        go_roundw
        case rel => exact ⟨k + 1, by omega, by go_num, HO2, HBn⟩
        case measure => simp [intOf]; omega
      · rw [hx1] at HD1
        obtain ⟨v', w', hr, hO', hb', hsz, hblk⟩ := run_append_dir wn.drew w.heap.size 86 u3 ds x y ((k : Int) + 1) HOn.out (by omega) (HBn.out.size)
        have HR : Hid _ := hr
        have HO2 : Hid (w'.ownsRow w.heap.size 84 25 v' (dirsOf l Y (k + 1)).length (dsV (dirsOf l Y (k + 1)))) := (by show _; rw [HD1.out]; exact hO')
        have HB2 : Hid (Below w.heap.size w w') := HBn.out.trans ⟨hb'.os, hb'.tape, hb'.output, hb'.size, hb'.block⟩
        have HS2 : Hid (w'.rangeAt Z 0 (ndV x y)) := range_heap HZn.out.at0 (hblk Z HZn.out.lt HNe.out)
        clear hr hO' hb' hsz hblk HD1 HOn
        go_upto_region 6 with fail
        refine wp_region_held_drew (S := fun w' => w'.rangeAt Z 0 (ndV x y)) (by kernel_rfl) (by simpa using HZn.out.at0) (fun hHeld => ?_)
        refine wpAnyH_take (i := 0) (v := u3) rfl (by kernel_rfl) (by kernel_rfl) (by kernel_rfl) (fun _ _ _ h => h) (Or.inl ⟨by rfl, fun _ _ => by rfl⟩) hHeld ?_
        try simp only [Act.put, List.getElem_toArray, List.getElem_cons_zero, List.getElem_cons_succ, List.setIfInBounds_toArray, List.set_cons_zero, List.set_cons_succ]
        refine wpAnyH_take (i := 2) (v := .int .i64 k) rfl (by kernel_rfl) (by kernel_rfl) (by kernel_rfl) (fun _ _ _ h => h) (Or.inl ⟨by rfl, fun _ _ => by rfl⟩) hHeld ?_
        try simp only [Act.put, List.getElem_toArray, List.getElem_cons_zero, List.getElem_cons_succ, List.setIfInBounds_toArray, List.set_cons_zero, List.set_cons_succ]
        refine wpAnyH_take (i := 1) (v := .agg (ndV x y).toArray) rfl (by kernel_rfl) (by kernel_rfl) (by kernel_rfl) (fun _ _ _ h => h) (yieldsIf_load_mid (by rfl) 31 _ rfl Z 0 rfl _ _ (fun _ h => h) Tryz.underlying31 rfl (by kernel_rfl)) hHeld ?_
        try simp only [Act.put, List.getElem_toArray, List.getElem_cons_zero, List.getElem_cons_succ, List.setIfInBounds_toArray, List.set_cons_zero, List.set_cons_succ]
        refine wpAnyH_ready (rs := [3]) (by kernel_rfl) (by simp) ?_
        refine AllReadyH.cons rfl (fun K hK => ?_) AllReadyH.nil
        rw [if_pos (by rfl)]
        go_simp
        refine (iNumAt_any k (by omega) _).mono ?_
        rintro e w1 ⟨rfl, rfl⟩
        simp only []
        refine hK.out _ _ hHeld (fun hHeld => ?_)
        clear hK K
        try simp only [Act.put, List.getElem_toArray, List.getElem_cons_zero, List.getElem_cons_succ, List.setIfInBounds_toArray, List.set_cons_zero, List.set_cons_succ]
        refine wpAnyH_take (i := 4) (v := .agg (drV x y ((k : Int) + 1)).toArray) rfl (by kernel_rfl) (by kernel_rfl) (by kernel_rfl) (fun _ _ _ h => h) (Or.inl ⟨by rfl, fun _ _ => exec_build2 84 _ _ (by rfl) _ _ (by rfl) (by rfl) _ (built_dir x y _)⟩) hHeld ?_
        try simp only [Act.put, List.getElem_toArray, List.getElem_cons_zero, List.getElem_cons_succ, List.setIfInBounds_toArray, List.set_cons_zero, List.set_cons_succ]
        refine wpAnyH_ready (rs := [5]) (by kernel_rfl) (by simp) ?_
        refine AllReadyH.cons rfl (fun K hK => ?_) AllReadyH.nil
        refine step_run (by rfl) _ _ (exec_slice1 86 _ (by rfl) _ _ (by rfl) (run_one_dir x y _ _)) ?_
        refine hK.out _ _ (World.rangeAt_alloc hHeld _) (fun hHeld => ?_)
        clear hK K
        try simp only [Act.put, List.getElem_toArray, List.getElem_cons_zero, List.getElem_cons_succ, List.setIfInBounds_toArray, List.set_cons_zero, List.set_cons_succ]
        refine wpAnyH_ready (rs := [6]) (by kernel_rfl) (by simp) ?_
        refine AllReadyH.cons rfl (fun K hK => ?_) AllReadyH.nil
        refine step_appendT (by rfl) _ _ 86 (by rfl) _ _ _ _ (by rfl) (by rfl) HR.out ?_
        refine hK.out _ _ HS2.out (fun hHeld => ?_)
        clear hK K
        try simp only [Act.put, List.getElem_toArray, List.getElem_cons_zero, List.getElem_cons_succ, List.setIfInBounds_toArray, List.set_cons_zero, List.set_cons_succ]
        refine wpAnyH_take (i := 7) (v := v') rfl (by kernel_rfl) (by kernel_rfl) (by kernel_rfl) (fun _ _ _ h => h) (Or.inl ⟨by rfl, fun _ _ => by rfl⟩) hHeld ?_
        try simp only [Act.put, List.getElem_toArray, List.getElem_cons_zero, List.getElem_cons_succ, List.setIfInBounds_toArray, List.set_cons_zero, List.set_cons_succ]
        refine wpAnyH_done (by kernel_rfl) ?_ _
        go_wp2
        go_roundw
        case rel => exact ⟨k + 1, by omega, by go_num, HO2, HB2⟩
        case measure => simp [intOf]; omega
    · have : k = len := by omega
      subst this
      go_wp2
      go_ret
      exact ⟨_, rfl, hO.out, hB.out⟩
end Go.Proofs.YtgodbelcddgdmaaGreat
