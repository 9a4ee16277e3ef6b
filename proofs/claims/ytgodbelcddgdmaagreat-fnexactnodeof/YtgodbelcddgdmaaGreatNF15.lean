/- Laid together: TrS5, TrS6, TrS7. -/
import Derived.Test.YtgodbelcddgdmaaGreatNF14
import Derived.Test.YtgodbelcddgdmaaGreatNF7
/- The specification's l08Dir. -/
namespace Go.Proofs.YtgodbelcddgdmaaGreat
open Go.RowKit Go.PlainAid
set_option linter.unusedVariables false
theorem sHolds_num (a : Option Addr) (len cap : Nat) (l : List Nd) (now : Int) (m n : Int) (hl : len ≤ 1048576) (hm : thB l m = true) (hf : ∀ i, i < len → NdFit 1048576 (ndAt l i)) (w : World) (hi : Nds a len l w) :
    Calls Tryz.prog 74 #[.agg #[.slice a len cap, .int .i64 now], .int .i64 m, .int .i64 n] w fun e w' => e = .returned (.bool (hasE (ndAt l (m - 1).toNat).ns n (ndAt l (m - 1).toNat).ns.length)) ∧ Below w.heap.size w w' := by
  have h := inR_iff.1 (thB_num hm)
  have hll := hi.1
  obtain ⟨d, rfl⟩ : ∃ d : Nat, m = (d : Int) + 1 := ⟨(m - 1).toNat, by omega⟩
  rw [at_succ]
  exact sHolds_any a len cap l now d n hl (by omega) hf w hi
set_option maxRecDepth 20000 in
set_option maxHeartbeats 16000000 in
theorem sDir_any (a : Option Addr) (len cap : Nat) (l : List Nd) (now : Int) (d : Nat) (hl : len ≤ 12) (hd : d < len) (hf : ∀ i, i < len → NdFit 1048576 (ndAt l i)) (w : World) (hi : Nds a len l w) :
    Calls Tryz.prog 55 #[.agg #[.slice a len cap, .int .i64 now], .int .i64 ((d : Int) + 1)] w fun e w' => e = .returned (.bool (dirB l d)) ∧ Below w.heap.size w w' := by
  have hlm : len ≤ 1048576 := by omega
  have HI0 : Hid (Nds a len l w) := hi
  have HF : Hid (∀ i, i < len → NdFit 1048576 (ndAt l i)) := hf
  obtain ⟨b, off, Y, rfl, hb0, hc⟩ := hi.2 (by omega)
  have HN : Hid (N24 w b (off + d * 24) (ndAt l d) (Y d)) := (hc d hd).1
  have HM : Hid (NdIn w (ndAt l d) (Y d)) := (hc d hd).2
  have HK : Hid (NdFit 1048576 (ndAt l d)) := hf d hd
  clear hc hi hf
  have HI : Hid (Nds (some ⟨b, off, none⟩) len l w) := HI0
  clear HI0
  have hd1 : (d : Int) < (len : Int) := by omega
  have hd0 : (0 : Int) ≤ (d : Int) := by omega
  have HE : Hid (dirB l d = ((ndAt l d).D.B && (((ndAt l d).sh || (ndAt l d).D.E) && (((ndAt l d).bo.toList == []) && ((ndAt l d).li == 1 && (nsB l (ndAt l d).ns && (diB l (ndAt l d).up && dirU l d (ndAt l d).up))))))) := rfl
  have HQ : Hid (∀ m, dirU l 0 m = (m == 1)) := (fun m => rfl)
  have HQ2 : Hid (∀ m, 0 < d → dirU l d m = (hasE (ndAt l (m - 1).toNat).ns ((d : Int) + 1) (ndAt l (m - 1).toNat).ns.length && rtB l 13 ((d : Int) + 1))) := (fun m h => dirU_pos h)
  obtain ⟨x, hx⟩ : ∃ x, x = ndAt l d := ⟨_, rfl⟩
  obtain ⟨y, hy⟩ : ∃ y, y = Y d := ⟨_, rfl⟩
  rw [← hx, ← hy] at HN HM
  rw [← hx] at HK HE
  clear hx hy
  unfold Al.B at HE
  cases hdi : diB l x.up
  · rw [hdi] at HE
    have HB : Hid (Below w.heap.size w (w.alloc (.cells #[.slice (some ⟨b, off, none⟩) len cap, .int .i64 now] 35))) := bel_alloc _ _
    have HX : Hid (BoxR (w.alloc (.cells #[.slice (some ⟨b, off, none⟩) len cap, .int .i64 now] 35)) w.heap.size [.slice (some ⟨b, off, none⟩) len cap, .int .i64 now]) := boxR_new _ _ _
    go_enter Tryz.func55, Tryz.ntmps55
    go_upto_region 1 with fail
    generalize (w.alloc (.cells #[.slice (some ⟨b, off, none⟩) len cap, .int .i64 now] 35)) = w0 at HB HX ⊢
    obtain ⟨X, hX⟩ : ∃ X, X = w.heap.size := ⟨_, rfl⟩
    rw [← hX] at HX ⊢
    clear hX
    have t0 : w0.cell? ⟨X, 0, none⟩ = some (.slice (some ⟨b, off, none⟩) len cap) := HX.out.at0 0 _ rfl
    have t1 : w0.cell? ⟨X, 1, none⟩ = some (.int .i64 now) := HX.out.at0 1 _ rfl
    have HNX : Hid (N24 w0 b (off + d * 24) x y) := range_below HN.out hb0 HB.out
    have hbN : Below w0.heap.size w0 ((w0.alloc (.cells #[.int .i64 0, .int .i64 0, .int .i64 0, .int .i64 0, .int .i64 0, .int .i64 0, .int .i64 0, .slice none 0 0, .slice none 0 0, .bool false, .int .i64 0, .bool false, .int .i64 0, .int .i64 0, .int .i64 0, .slice none 0 0, .slice none 0 0, .bool false, .int .i64 0, .int .i64 0, .int .i64 0, .string ⟨#[]⟩, .slice none 0 0, .int .i64 0] 31)).setCells w0.heap.size 0 (ndV x y)) := bl_setsT (Nat.le_refl _) _ _ (bel_alloc _ _)
    have HBn : Hid (Below w.heap.size w ((w0.alloc (.cells #[.int .i64 0, .int .i64 0, .int .i64 0, .int .i64 0, .int .i64 0, .int .i64 0, .int .i64 0, .slice none 0 0, .slice none 0 0, .bool false, .int .i64 0, .bool false, .int .i64 0, .int .i64 0, .int .i64 0, .slice none 0 0, .slice none 0 0, .bool false, .int .i64 0, .int .i64 0, .int .i64 0, .string ⟨#[]⟩, .slice none 0 0, .int .i64 0] 31)).setCells w0.heap.size 0 (ndV x y))) := Below.on HB.out hbN
    have HXn : Hid (BoxR ((w0.alloc (.cells #[.int .i64 0, .int .i64 0, .int .i64 0, .int .i64 0, .int .i64 0, .int .i64 0, .int .i64 0, .slice none 0 0, .slice none 0 0, .bool false, .int .i64 0, .bool false, .int .i64 0, .int .i64 0, .int .i64 0, .slice none 0 0, .slice none 0 0, .bool false, .int .i64 0, .int .i64 0, .int .i64 0, .string ⟨#[]⟩, .slice none 0 0, .int .i64 0] 31)).setCells w0.heap.size 0 (ndV x y)) X [.slice (some ⟨b, off, none⟩) len cap, .int .i64 now]) := HX.out.below hbN
    have HZn : Hid (BoxR ((w0.alloc (.cells #[.int .i64 0, .int .i64 0, .int .i64 0, .int .i64 0, .int .i64 0, .int .i64 0, .int .i64 0, .slice none 0 0, .slice none 0 0, .bool false, .int .i64 0, .bool false, .int .i64 0, .int .i64 0, .int .i64 0, .slice none 0 0, .slice none 0 0, .bool false, .int .i64 0, .int .i64 0, .int .i64 0, .string ⟨#[]⟩, .slice none 0 0, .int .i64 0] 31)).setCells w0.heap.size 0 (ndV x y)) w0.heap.size (ndV x y)) := ⟨by rw [size_setCellsT]; simp, World.rangeAt_setCells_same _ _ _ _ ((boxW_new w0 [.int .i64 0, .int .i64 0, .int .i64 0, .int .i64 0, .int .i64 0, .int .i64 0, .int .i64 0, .slice none 0 0, .slice none 0 0, .bool false, .int .i64 0, .bool false, .int .i64 0, .int .i64 0, .int .i64 0, .slice none 0 0, .slice none 0 0, .bool false, .int .i64 0, .int .i64 0, .int .i64 0, .string ⟨#[]⟩, .slice none 0 0, .int .i64 0] 31).there 0 24 (by simp))⟩
    clear hbN HX HB
    go_upto_region 2 with (first | (refine wpList_load_mid (by rfl) 31 _ (by rfl) _ _ (by rfl) _ _ HNX.out Tryz.underlying31 rfl (by kernel_rfl) ?_) | (refine wpList_store_list (by rfl) 31 _ _ (by rfl) _ _ (ndV x y) (by rfl) (by rfl) ((boxW_new w0 [.int .i64 0, .int .i64 0, .int .i64 0, .int .i64 0, .int .i64 0, .int .i64 0, .int .i64 0, .slice none 0 0, .slice none 0 0, .bool false, .int .i64 0, .bool false, .int .i64 0, .int .i64 0, .int .i64 0, .slice none 0 0, .slice none 0 0, .bool false, .int .i64 0, .int .i64 0, .int .i64 0, .string ⟨#[]⟩, .slice none 0 0, .int .i64 0] 31).there 0 24 (by simp)) (by kernel_rfl) (ndV_ones _ _) ?_))
    generalize ((w0.alloc (.cells #[.int .i64 0, .int .i64 0, .int .i64 0, .int .i64 0, .int .i64 0, .int .i64 0, .int .i64 0, .slice none 0 0, .slice none 0 0, .bool false, .int .i64 0, .bool false, .int .i64 0, .int .i64 0, .int .i64 0, .slice none 0 0, .slice none 0 0, .bool false, .int .i64 0, .int .i64 0, .int .i64 0, .string ⟨#[]⟩, .slice none 0 0, .int .i64 0] 31)).setCells w0.heap.size 0 (ndV x y)) = w2 at HBn HXn HZn ⊢
    generalize w0.heap.size = Z at HZn ⊢
    have HB := HBn
    have HX := HXn
    have HZ := HZn
    clear HBn HXn HZn HNX t0 t1
    have t0 : w2.cell? ⟨X, 0, none⟩ = some (.slice (some ⟨b, off, none⟩) len cap) := HX.out.at0 0 _ rfl
    have t1 : w2.cell? ⟨X, 1, none⟩ = some (.int .i64 now) := HX.out.at0 1 _ rfl
    have e11 := NB.c11 HZ.out
    have e12 := NB.c12 HZ.out
    have e13 := NB.c13 HZ.out
    have e14 := NB.c14 HZ.out
    have e15 := NB.c15 HZ.out
    have e16 := NB.c16 HZ.out
    have e17 := NB.c17 HZ.out
    have e18 := NB.c18 HZ.out
    have e19 := NB.c19 HZ.out
    have e20 := NB.c20 HZ.out
    have e21 := NB.c21 HZ.out
    have e22 := NB.c22 HZ.out
    go_wp2_with (first
      | (go_at_call 54; refine (sAclRight_any x.D.u x.D.g x.D.o _ _ _ _ _ _ x.D.r x.D.m x.D.us x.D.gs HK.out.du HK.out.dg _ (HM.out.dU.below HB.out) (HM.out.dG.below HB.out)).mono ?_; rintro e w1 ⟨rfl, hb⟩; replace HB : Hid (Below w.heap.size w w1) := Below.on HB.out hb; replace HX : Hid (BoxR w1 X [.slice (some ⟨b, off, none⟩) len cap, .int .i64 now]) := HX.out.below hb; replace HZ : Hid (BoxR w1 Z (ndV x y)) := HZ.out.below hb; clear hb; replace t0 : w1.cell? ⟨X, 0, none⟩ = some (.slice (some ⟨b, off, none⟩) len cap) := HX.out.at0 0 _ rfl; replace t1 : w1.cell? ⟨X, 1, none⟩ = some (.int .i64 now) := HX.out.at0 1 _ rfl; replace e11 := NB.c11 HZ.out; replace e12 := NB.c12 HZ.out; replace e13 := NB.c13 HZ.out; replace e14 := NB.c14 HZ.out; replace e15 := NB.c15 HZ.out; replace e16 := NB.c16 HZ.out; replace e17 := NB.c17 HZ.out; replace e18 := NB.c18 HZ.out; replace e19 := NB.c19 HZ.out; replace e20 := NB.c20 HZ.out; replace e21 := NB.c21 HZ.out; replace e22 := NB.c22 HZ.out)
      | (go_at_call 51; refine (sEmpty_any x.D _ _ _ _ _).mono ?_; rintro e w1 ⟨rfl, hb⟩; replace HB : Hid (Below w.heap.size w w1) := Below.on HB.out hb; replace HX : Hid (BoxR w1 X [.slice (some ⟨b, off, none⟩) len cap, .int .i64 now]) := HX.out.below hb; replace HZ : Hid (BoxR w1 Z (ndV x y)) := HZ.out.below hb; clear hb; replace t0 : w1.cell? ⟨X, 0, none⟩ = some (.slice (some ⟨b, off, none⟩) len cap) := HX.out.at0 0 _ rfl; replace t1 : w1.cell? ⟨X, 1, none⟩ = some (.int .i64 now) := HX.out.at0 1 _ rfl; replace e11 := NB.c11 HZ.out; replace e12 := NB.c12 HZ.out; replace e13 := NB.c13 HZ.out; replace e14 := NB.c14 HZ.out; replace e15 := NB.c15 HZ.out; replace e16 := NB.c16 HZ.out; replace e17 := NB.c17 HZ.out; replace e18 := NB.c18 HZ.out; replace e19 := NB.c19 HZ.out; replace e20 := NB.c20 HZ.out; replace e21 := NB.c21 HZ.out; replace e22 := NB.c22 HZ.out)
      | (go_at_call 72; refine (sNames_any (some ⟨b, off, none⟩) len cap l now _ _ x.ns hlm HK.out.nl HK.out.nm _ (HI.out.below HB.out) (HM.out.nA.below HB.out)).mono ?_; rintro e w1 ⟨rfl, hb⟩; replace HB : Hid (Below w.heap.size w w1) := Below.on HB.out hb; replace HX : Hid (BoxR w1 X [.slice (some ⟨b, off, none⟩) len cap, .int .i64 now]) := HX.out.below hb; replace HZ : Hid (BoxR w1 Z (ndV x y)) := HZ.out.below hb; clear hb; replace t0 : w1.cell? ⟨X, 0, none⟩ = some (.slice (some ⟨b, off, none⟩) len cap) := HX.out.at0 0 _ rfl; replace t1 : w1.cell? ⟨X, 1, none⟩ = some (.int .i64 now) := HX.out.at0 1 _ rfl; replace e11 := NB.c11 HZ.out; replace e12 := NB.c12 HZ.out; replace e13 := NB.c13 HZ.out; replace e14 := NB.c14 HZ.out; replace e15 := NB.c15 HZ.out; replace e16 := NB.c16 HZ.out; replace e17 := NB.c17 HZ.out; replace e18 := NB.c18 HZ.out; replace e19 := NB.c19 HZ.out; replace e20 := NB.c20 HZ.out; replace e21 := NB.c21 HZ.out; replace e22 := NB.c22 HZ.out)
      | (go_at_call 73; refine (sIsDir_any (some ⟨b, off, none⟩) len cap l now x.up hlm _ (HI.out.below HB.out)).mono ?_; rintro e w1 ⟨rfl, hb⟩; replace HB : Hid (Below w.heap.size w w1) := Below.on HB.out hb; replace HX : Hid (BoxR w1 X [.slice (some ⟨b, off, none⟩) len cap, .int .i64 now]) := HX.out.below hb; replace HZ : Hid (BoxR w1 Z (ndV x y)) := HZ.out.below hb; clear hb; replace t0 : w1.cell? ⟨X, 0, none⟩ = some (.slice (some ⟨b, off, none⟩) len cap) := HX.out.at0 0 _ rfl; replace t1 : w1.cell? ⟨X, 1, none⟩ = some (.int .i64 now) := HX.out.at0 1 _ rfl; replace e11 := NB.c11 HZ.out; replace e12 := NB.c12 HZ.out; replace e13 := NB.c13 HZ.out; replace e14 := NB.c14 HZ.out; replace e15 := NB.c15 HZ.out; replace e16 := NB.c16 HZ.out; replace e17 := NB.c17 HZ.out; replace e18 := NB.c18 HZ.out; replace e19 := NB.c19 HZ.out; replace e20 := NB.c20 HZ.out; replace e21 := NB.c21 HZ.out; replace e22 := NB.c22 HZ.out))
    all_goals go_ret
    all_goals (refine ⟨ret_boolW ?_, HB.out⟩; rw [HE.out]; first | (simp [*]; done) | (simp only [Bool.not_eq_false', Bool.not_eq_true'] at *; simp [*]))
  · have HU : Hid (thB l x.up = true) := diB_th hdi
    rw [hdi] at HE
    by_cases hz : d = 0
    · subst hz
      rw [HQ.out] at HE
      have HB : Hid (Below w.heap.size w (w.alloc (.cells #[.slice (some ⟨b, off, none⟩) len cap, .int .i64 now] 35))) := bel_alloc _ _
      have HX : Hid (BoxR (w.alloc (.cells #[.slice (some ⟨b, off, none⟩) len cap, .int .i64 now] 35)) w.heap.size [.slice (some ⟨b, off, none⟩) len cap, .int .i64 now]) := boxR_new _ _ _
      go_enter Tryz.func55, Tryz.ntmps55
      go_upto_region 1 with fail
      generalize (w.alloc (.cells #[.slice (some ⟨b, off, none⟩) len cap, .int .i64 now] 35)) = w0 at HB HX ⊢
      obtain ⟨X, hX⟩ : ∃ X, X = w.heap.size := ⟨_, rfl⟩
      rw [← hX] at HX ⊢
      clear hX
      have t0 : w0.cell? ⟨X, 0, none⟩ = some (.slice (some ⟨b, off, none⟩) len cap) := HX.out.at0 0 _ rfl
      have t1 : w0.cell? ⟨X, 1, none⟩ = some (.int .i64 now) := HX.out.at0 1 _ rfl
      have HNX : Hid (N24 w0 b (off + 0 * 24) x y) := range_below HN.out hb0 HB.out
      have hbN : Below w0.heap.size w0 ((w0.alloc (.cells #[.int .i64 0, .int .i64 0, .int .i64 0, .int .i64 0, .int .i64 0, .int .i64 0, .int .i64 0, .slice none 0 0, .slice none 0 0, .bool false, .int .i64 0, .bool false, .int .i64 0, .int .i64 0, .int .i64 0, .slice none 0 0, .slice none 0 0, .bool false, .int .i64 0, .int .i64 0, .int .i64 0, .string ⟨#[]⟩, .slice none 0 0, .int .i64 0] 31)).setCells w0.heap.size 0 (ndV x y)) := bl_setsT (Nat.le_refl _) _ _ (bel_alloc _ _)
      have HBn : Hid (Below w.heap.size w ((w0.alloc (.cells #[.int .i64 0, .int .i64 0, .int .i64 0, .int .i64 0, .int .i64 0, .int .i64 0, .int .i64 0, .slice none 0 0, .slice none 0 0, .bool false, .int .i64 0, .bool false, .int .i64 0, .int .i64 0, .int .i64 0, .slice none 0 0, .slice none 0 0, .bool false, .int .i64 0, .int .i64 0, .int .i64 0, .string ⟨#[]⟩, .slice none 0 0, .int .i64 0] 31)).setCells w0.heap.size 0 (ndV x y))) := Below.on HB.out hbN
      have HXn : Hid (BoxR ((w0.alloc (.cells #[.int .i64 0, .int .i64 0, .int .i64 0, .int .i64 0, .int .i64 0, .int .i64 0, .int .i64 0, .slice none 0 0, .slice none 0 0, .bool false, .int .i64 0, .bool false, .int .i64 0, .int .i64 0, .int .i64 0, .slice none 0 0, .slice none 0 0, .bool false, .int .i64 0, .int .i64 0, .int .i64 0, .string ⟨#[]⟩, .slice none 0 0, .int .i64 0] 31)).setCells w0.heap.size 0 (ndV x y)) X [.slice (some ⟨b, off, none⟩) len cap, .int .i64 now]) := HX.out.below hbN
      have HZn : Hid (BoxR ((w0.alloc (.cells #[.int .i64 0, .int .i64 0, .int .i64 0, .int .i64 0, .int .i64 0, .int .i64 0, .int .i64 0, .slice none 0 0, .slice none 0 0, .bool false, .int .i64 0, .bool false, .int .i64 0, .int .i64 0, .int .i64 0, .slice none 0 0, .slice none 0 0, .bool false, .int .i64 0, .int .i64 0, .int .i64 0, .string ⟨#[]⟩, .slice none 0 0, .int .i64 0] 31)).setCells w0.heap.size 0 (ndV x y)) w0.heap.size (ndV x y)) := ⟨by rw [size_setCellsT]; simp, World.rangeAt_setCells_same _ _ _ _ ((boxW_new w0 [.int .i64 0, .int .i64 0, .int .i64 0, .int .i64 0, .int .i64 0, .int .i64 0, .int .i64 0, .slice none 0 0, .slice none 0 0, .bool false, .int .i64 0, .bool false, .int .i64 0, .int .i64 0, .int .i64 0, .slice none 0 0, .slice none 0 0, .bool false, .int .i64 0, .int .i64 0, .int .i64 0, .string ⟨#[]⟩, .slice none 0 0, .int .i64 0] 31).there 0 24 (by simp))⟩
      clear hbN HX HB
      go_upto_region 2 with (first | (refine wpList_load_mid (by rfl) 31 _ (by rfl) _ _ (by rfl) _ _ HNX.out Tryz.underlying31 rfl (by kernel_rfl) ?_) | (refine wpList_store_list (by rfl) 31 _ _ (by rfl) _ _ (ndV x y) (by rfl) (by rfl) ((boxW_new w0 [.int .i64 0, .int .i64 0, .int .i64 0, .int .i64 0, .int .i64 0, .int .i64 0, .int .i64 0, .slice none 0 0, .slice none 0 0, .bool false, .int .i64 0, .bool false, .int .i64 0, .int .i64 0, .int .i64 0, .slice none 0 0, .slice none 0 0, .bool false, .int .i64 0, .int .i64 0, .int .i64 0, .string ⟨#[]⟩, .slice none 0 0, .int .i64 0] 31).there 0 24 (by simp)) (by kernel_rfl) (ndV_ones _ _) ?_))
      generalize ((w0.alloc (.cells #[.int .i64 0, .int .i64 0, .int .i64 0, .int .i64 0, .int .i64 0, .int .i64 0, .int .i64 0, .slice none 0 0, .slice none 0 0, .bool false, .int .i64 0, .bool false, .int .i64 0, .int .i64 0, .int .i64 0, .slice none 0 0, .slice none 0 0, .bool false, .int .i64 0, .int .i64 0, .int .i64 0, .string ⟨#[]⟩, .slice none 0 0, .int .i64 0] 31)).setCells w0.heap.size 0 (ndV x y)) = w2 at HBn HXn HZn ⊢
      generalize w0.heap.size = Z at HZn ⊢
      have HB := HBn
      have HX := HXn
      have HZ := HZn
      clear HBn HXn HZn HNX t0 t1
      have t0 : w2.cell? ⟨X, 0, none⟩ = some (.slice (some ⟨b, off, none⟩) len cap) := HX.out.at0 0 _ rfl
      have t1 : w2.cell? ⟨X, 1, none⟩ = some (.int .i64 now) := HX.out.at0 1 _ rfl
      have e11 := NB.c11 HZ.out
      have e12 := NB.c12 HZ.out
      have e13 := NB.c13 HZ.out
      have e14 := NB.c14 HZ.out
      have e15 := NB.c15 HZ.out
      have e16 := NB.c16 HZ.out
      have e17 := NB.c17 HZ.out
      have e18 := NB.c18 HZ.out
      have e19 := NB.c19 HZ.out
      have e20 := NB.c20 HZ.out
      have e21 := NB.c21 HZ.out
      have e22 := NB.c22 HZ.out
      go_wp2_with (first
        | (go_at_call 54; refine (sAclRight_any x.D.u x.D.g x.D.o _ _ _ _ _ _ x.D.r x.D.m x.D.us x.D.gs HK.out.du HK.out.dg _ (HM.out.dU.below HB.out) (HM.out.dG.below HB.out)).mono ?_; rintro e w1 ⟨rfl, hb⟩; replace HB : Hid (Below w.heap.size w w1) := Below.on HB.out hb; replace HX : Hid (BoxR w1 X [.slice (some ⟨b, off, none⟩) len cap, .int .i64 now]) := HX.out.below hb; replace HZ : Hid (BoxR w1 Z (ndV x y)) := HZ.out.below hb; clear hb; replace t0 : w1.cell? ⟨X, 0, none⟩ = some (.slice (some ⟨b, off, none⟩) len cap) := HX.out.at0 0 _ rfl; replace t1 : w1.cell? ⟨X, 1, none⟩ = some (.int .i64 now) := HX.out.at0 1 _ rfl; replace e11 := NB.c11 HZ.out; replace e12 := NB.c12 HZ.out; replace e13 := NB.c13 HZ.out; replace e14 := NB.c14 HZ.out; replace e15 := NB.c15 HZ.out; replace e16 := NB.c16 HZ.out; replace e17 := NB.c17 HZ.out; replace e18 := NB.c18 HZ.out; replace e19 := NB.c19 HZ.out; replace e20 := NB.c20 HZ.out; replace e21 := NB.c21 HZ.out; replace e22 := NB.c22 HZ.out)
        | (go_at_call 51; refine (sEmpty_any x.D _ _ _ _ _).mono ?_; rintro e w1 ⟨rfl, hb⟩; replace HB : Hid (Below w.heap.size w w1) := Below.on HB.out hb; replace HX : Hid (BoxR w1 X [.slice (some ⟨b, off, none⟩) len cap, .int .i64 now]) := HX.out.below hb; replace HZ : Hid (BoxR w1 Z (ndV x y)) := HZ.out.below hb; clear hb; replace t0 : w1.cell? ⟨X, 0, none⟩ = some (.slice (some ⟨b, off, none⟩) len cap) := HX.out.at0 0 _ rfl; replace t1 : w1.cell? ⟨X, 1, none⟩ = some (.int .i64 now) := HX.out.at0 1 _ rfl; replace e11 := NB.c11 HZ.out; replace e12 := NB.c12 HZ.out; replace e13 := NB.c13 HZ.out; replace e14 := NB.c14 HZ.out; replace e15 := NB.c15 HZ.out; replace e16 := NB.c16 HZ.out; replace e17 := NB.c17 HZ.out; replace e18 := NB.c18 HZ.out; replace e19 := NB.c19 HZ.out; replace e20 := NB.c20 HZ.out; replace e21 := NB.c21 HZ.out; replace e22 := NB.c22 HZ.out)
        | (go_at_call 72; refine (sNames_any (some ⟨b, off, none⟩) len cap l now _ _ x.ns hlm HK.out.nl HK.out.nm _ (HI.out.below HB.out) (HM.out.nA.below HB.out)).mono ?_; rintro e w1 ⟨rfl, hb⟩; replace HB : Hid (Below w.heap.size w w1) := Below.on HB.out hb; replace HX : Hid (BoxR w1 X [.slice (some ⟨b, off, none⟩) len cap, .int .i64 now]) := HX.out.below hb; replace HZ : Hid (BoxR w1 Z (ndV x y)) := HZ.out.below hb; clear hb; replace t0 : w1.cell? ⟨X, 0, none⟩ = some (.slice (some ⟨b, off, none⟩) len cap) := HX.out.at0 0 _ rfl; replace t1 : w1.cell? ⟨X, 1, none⟩ = some (.int .i64 now) := HX.out.at0 1 _ rfl; replace e11 := NB.c11 HZ.out; replace e12 := NB.c12 HZ.out; replace e13 := NB.c13 HZ.out; replace e14 := NB.c14 HZ.out; replace e15 := NB.c15 HZ.out; replace e16 := NB.c16 HZ.out; replace e17 := NB.c17 HZ.out; replace e18 := NB.c18 HZ.out; replace e19 := NB.c19 HZ.out; replace e20 := NB.c20 HZ.out; replace e21 := NB.c21 HZ.out; replace e22 := NB.c22 HZ.out)
        | (go_at_call 73; refine (sIsDir_any (some ⟨b, off, none⟩) len cap l now x.up hlm _ (HI.out.below HB.out)).mono ?_; rintro e w1 ⟨rfl, hb⟩; replace HB : Hid (Below w.heap.size w w1) := Below.on HB.out hb; replace HX : Hid (BoxR w1 X [.slice (some ⟨b, off, none⟩) len cap, .int .i64 now]) := HX.out.below hb; replace HZ : Hid (BoxR w1 Z (ndV x y)) := HZ.out.below hb; clear hb; replace t0 : w1.cell? ⟨X, 0, none⟩ = some (.slice (some ⟨b, off, none⟩) len cap) := HX.out.at0 0 _ rfl; replace t1 : w1.cell? ⟨X, 1, none⟩ = some (.int .i64 now) := HX.out.at0 1 _ rfl; replace e11 := NB.c11 HZ.out; replace e12 := NB.c12 HZ.out; replace e13 := NB.c13 HZ.out; replace e14 := NB.c14 HZ.out; replace e15 := NB.c15 HZ.out; replace e16 := NB.c16 HZ.out; replace e17 := NB.c17 HZ.out; replace e18 := NB.c18 HZ.out; replace e19 := NB.c19 HZ.out; replace e20 := NB.c20 HZ.out; replace e21 := NB.c21 HZ.out; replace e22 := NB.c22 HZ.out)
        | (go_at_call 74; refine (sHolds_num (some ⟨b, off, none⟩) len cap l now x.up _ hlm HU.out HF.out _ (HI.out.below HB.out)).mono ?_; rintro e w1 ⟨rfl, hb⟩; replace HB : Hid (Below w.heap.size w w1) := Below.on HB.out hb; replace HX : Hid (BoxR w1 X [.slice (some ⟨b, off, none⟩) len cap, .int .i64 now]) := HX.out.below hb; replace HZ : Hid (BoxR w1 Z (ndV x y)) := HZ.out.below hb; clear hb; replace t0 : w1.cell? ⟨X, 0, none⟩ = some (.slice (some ⟨b, off, none⟩) len cap) := HX.out.at0 0 _ rfl; replace t1 : w1.cell? ⟨X, 1, none⟩ = some (.int .i64 now) := HX.out.at0 1 _ rfl; replace e11 := NB.c11 HZ.out; replace e12 := NB.c12 HZ.out; replace e13 := NB.c13 HZ.out; replace e14 := NB.c14 HZ.out; replace e15 := NB.c15 HZ.out; replace e16 := NB.c16 HZ.out; replace e17 := NB.c17 HZ.out; replace e18 := NB.c18 HZ.out; replace e19 := NB.c19 HZ.out; replace e20 := NB.c20 HZ.out; replace e21 := NB.c21 HZ.out; replace e22 := NB.c22 HZ.out)
        | (go_at_call 75; refine (sRooted_any (some ⟨b, off, none⟩) len cap l now _ hlm _ (HI.out.below HB.out)).mono ?_; rintro e w1 ⟨rfl, hb⟩; replace HB : Hid (Below w.heap.size w w1) := Below.on HB.out hb; replace HX : Hid (BoxR w1 X [.slice (some ⟨b, off, none⟩) len cap, .int .i64 now]) := HX.out.below hb; replace HZ : Hid (BoxR w1 Z (ndV x y)) := HZ.out.below hb; clear hb; replace t0 : w1.cell? ⟨X, 0, none⟩ = some (.slice (some ⟨b, off, none⟩) len cap) := HX.out.at0 0 _ rfl; replace t1 : w1.cell? ⟨X, 1, none⟩ = some (.int .i64 now) := HX.out.at0 1 _ rfl; replace e11 := NB.c11 HZ.out; replace e12 := NB.c12 HZ.out; replace e13 := NB.c13 HZ.out; replace e14 := NB.c14 HZ.out; replace e15 := NB.c15 HZ.out; replace e16 := NB.c16 HZ.out; replace e17 := NB.c17 HZ.out; replace e18 := NB.c18 HZ.out; replace e19 := NB.c19 HZ.out; replace e20 := NB.c20 HZ.out; replace e21 := NB.c21 HZ.out; replace e22 := NB.c22 HZ.out))
      all_goals go_ret
      all_goals (refine ⟨ret_boolW ?_, HB.out⟩; rw [HE.out]; first | (simp [*]; done) | (simp only [Bool.not_eq_false', Bool.not_eq_true'] at *; simp [*]))
    · rw [HQ2.out _ (by omega)] at HE
      have hz1 : ((d : Int) + 1 == 1) = false := by rw [beq_eq_false_iff_ne]; omega
      clear hz
      have HB : Hid (Below w.heap.size w (w.alloc (.cells #[.slice (some ⟨b, off, none⟩) len cap, .int .i64 now] 35))) := bel_alloc _ _
      have HX : Hid (BoxR (w.alloc (.cells #[.slice (some ⟨b, off, none⟩) len cap, .int .i64 now] 35)) w.heap.size [.slice (some ⟨b, off, none⟩) len cap, .int .i64 now]) := boxR_new _ _ _
      go_enter Tryz.func55, Tryz.ntmps55
      go_upto_region 1 with fail
      generalize (w.alloc (.cells #[.slice (some ⟨b, off, none⟩) len cap, .int .i64 now] 35)) = w0 at HB HX ⊢
      obtain ⟨X, hX⟩ : ∃ X, X = w.heap.size := ⟨_, rfl⟩
      rw [← hX] at HX ⊢
      clear hX
      have t0 : w0.cell? ⟨X, 0, none⟩ = some (.slice (some ⟨b, off, none⟩) len cap) := HX.out.at0 0 _ rfl
      have t1 : w0.cell? ⟨X, 1, none⟩ = some (.int .i64 now) := HX.out.at0 1 _ rfl
      have HNX : Hid (N24 w0 b (off + d * 24) x y) := range_below HN.out hb0 HB.out
      have hbN : Below w0.heap.size w0 ((w0.alloc (.cells #[.int .i64 0, .int .i64 0, .int .i64 0, .int .i64 0, .int .i64 0, .int .i64 0, .int .i64 0, .slice none 0 0, .slice none 0 0, .bool false, .int .i64 0, .bool false, .int .i64 0, .int .i64 0, .int .i64 0, .slice none 0 0, .slice none 0 0, .bool false, .int .i64 0, .int .i64 0, .int .i64 0, .string ⟨#[]⟩, .slice none 0 0, .int .i64 0] 31)).setCells w0.heap.size 0 (ndV x y)) := bl_setsT (Nat.le_refl _) _ _ (bel_alloc _ _)
      have HBn : Hid (Below w.heap.size w ((w0.alloc (.cells #[.int .i64 0, .int .i64 0, .int .i64 0, .int .i64 0, .int .i64 0, .int .i64 0, .int .i64 0, .slice none 0 0, .slice none 0 0, .bool false, .int .i64 0, .bool false, .int .i64 0, .int .i64 0, .int .i64 0, .slice none 0 0, .slice none 0 0, .bool false, .int .i64 0, .int .i64 0, .int .i64 0, .string ⟨#[]⟩, .slice none 0 0, .int .i64 0] 31)).setCells w0.heap.size 0 (ndV x y))) := Below.on HB.out hbN
      have HXn : Hid (BoxR ((w0.alloc (.cells #[.int .i64 0, .int .i64 0, .int .i64 0, .int .i64 0, .int .i64 0, .int .i64 0, .int .i64 0, .slice none 0 0, .slice none 0 0, .bool false, .int .i64 0, .bool false, .int .i64 0, .int .i64 0, .int .i64 0, .slice none 0 0, .slice none 0 0, .bool false, .int .i64 0, .int .i64 0, .int .i64 0, .string ⟨#[]⟩, .slice none 0 0, .int .i64 0] 31)).setCells w0.heap.size 0 (ndV x y)) X [.slice (some ⟨b, off, none⟩) len cap, .int .i64 now]) := HX.out.below hbN
      have HZn : Hid (BoxR ((w0.alloc (.cells #[.int .i64 0, .int .i64 0, .int .i64 0, .int .i64 0, .int .i64 0, .int .i64 0, .int .i64 0, .slice none 0 0, .slice none 0 0, .bool false, .int .i64 0, .bool false, .int .i64 0, .int .i64 0, .int .i64 0, .slice none 0 0, .slice none 0 0, .bool false, .int .i64 0, .int .i64 0, .int .i64 0, .string ⟨#[]⟩, .slice none 0 0, .int .i64 0] 31)).setCells w0.heap.size 0 (ndV x y)) w0.heap.size (ndV x y)) := ⟨by rw [size_setCellsT]; simp, World.rangeAt_setCells_same _ _ _ _ ((boxW_new w0 [.int .i64 0, .int .i64 0, .int .i64 0, .int .i64 0, .int .i64 0, .int .i64 0, .int .i64 0, .slice none 0 0, .slice none 0 0, .bool false, .int .i64 0, .bool false, .int .i64 0, .int .i64 0, .int .i64 0, .slice none 0 0, .slice none 0 0, .bool false, .int .i64 0, .int .i64 0, .int .i64 0, .string ⟨#[]⟩, .slice none 0 0, .int .i64 0] 31).there 0 24 (by simp))⟩
      clear hbN HX HB
      go_upto_region 2 with (first | (refine wpList_load_mid (by rfl) 31 _ (by rfl) _ _ (by rfl) _ _ HNX.out Tryz.underlying31 rfl (by kernel_rfl) ?_) | (refine wpList_store_list (by rfl) 31 _ _ (by rfl) _ _ (ndV x y) (by rfl) (by rfl) ((boxW_new w0 [.int .i64 0, .int .i64 0, .int .i64 0, .int .i64 0, .int .i64 0, .int .i64 0, .int .i64 0, .slice none 0 0, .slice none 0 0, .bool false, .int .i64 0, .bool false, .int .i64 0, .int .i64 0, .int .i64 0, .slice none 0 0, .slice none 0 0, .bool false, .int .i64 0, .int .i64 0, .int .i64 0, .string ⟨#[]⟩, .slice none 0 0, .int .i64 0] 31).there 0 24 (by simp)) (by kernel_rfl) (ndV_ones _ _) ?_))
      generalize ((w0.alloc (.cells #[.int .i64 0, .int .i64 0, .int .i64 0, .int .i64 0, .int .i64 0, .int .i64 0, .int .i64 0, .slice none 0 0, .slice none 0 0, .bool false, .int .i64 0, .bool false, .int .i64 0, .int .i64 0, .int .i64 0, .slice none 0 0, .slice none 0 0, .bool false, .int .i64 0, .int .i64 0, .int .i64 0, .string ⟨#[]⟩, .slice none 0 0, .int .i64 0] 31)).setCells w0.heap.size 0 (ndV x y)) = w2 at HBn HXn HZn ⊢
      generalize w0.heap.size = Z at HZn ⊢
      have HB := HBn
      have HX := HXn
      have HZ := HZn
      clear HBn HXn HZn HNX t0 t1
      have t0 : w2.cell? ⟨X, 0, none⟩ = some (.slice (some ⟨b, off, none⟩) len cap) := HX.out.at0 0 _ rfl
      have t1 : w2.cell? ⟨X, 1, none⟩ = some (.int .i64 now) := HX.out.at0 1 _ rfl
      have e11 := NB.c11 HZ.out
      have e12 := NB.c12 HZ.out
      have e13 := NB.c13 HZ.out
      have e14 := NB.c14 HZ.out
      have e15 := NB.c15 HZ.out
      have e16 := NB.c16 HZ.out
      have e17 := NB.c17 HZ.out
      have e18 := NB.c18 HZ.out
      have e19 := NB.c19 HZ.out
      have e20 := NB.c20 HZ.out
      have e21 := NB.c21 HZ.out
      have e22 := NB.c22 HZ.out
      go_wp2_with (first
        | (go_at_call 54; refine (sAclRight_any x.D.u x.D.g x.D.o _ _ _ _ _ _ x.D.r x.D.m x.D.us x.D.gs HK.out.du HK.out.dg _ (HM.out.dU.below HB.out) (HM.out.dG.below HB.out)).mono ?_; rintro e w1 ⟨rfl, hb⟩; replace HB : Hid (Below w.heap.size w w1) := Below.on HB.out hb; replace HX : Hid (BoxR w1 X [.slice (some ⟨b, off, none⟩) len cap, .int .i64 now]) := HX.out.below hb; replace HZ : Hid (BoxR w1 Z (ndV x y)) := HZ.out.below hb; clear hb; replace t0 : w1.cell? ⟨X, 0, none⟩ = some (.slice (some ⟨b, off, none⟩) len cap) := HX.out.at0 0 _ rfl; replace t1 : w1.cell? ⟨X, 1, none⟩ = some (.int .i64 now) := HX.out.at0 1 _ rfl; replace e11 := NB.c11 HZ.out; replace e12 := NB.c12 HZ.out; replace e13 := NB.c13 HZ.out; replace e14 := NB.c14 HZ.out; replace e15 := NB.c15 HZ.out; replace e16 := NB.c16 HZ.out; replace e17 := NB.c17 HZ.out; replace e18 := NB.c18 HZ.out; replace e19 := NB.c19 HZ.out; replace e20 := NB.c20 HZ.out; replace e21 := NB.c21 HZ.out; replace e22 := NB.c22 HZ.out)
        | (go_at_call 51; refine (sEmpty_any x.D _ _ _ _ _).mono ?_; rintro e w1 ⟨rfl, hb⟩; replace HB : Hid (Below w.heap.size w w1) := Below.on HB.out hb; replace HX : Hid (BoxR w1 X [.slice (some ⟨b, off, none⟩) len cap, .int .i64 now]) := HX.out.below hb; replace HZ : Hid (BoxR w1 Z (ndV x y)) := HZ.out.below hb; clear hb; replace t0 : w1.cell? ⟨X, 0, none⟩ = some (.slice (some ⟨b, off, none⟩) len cap) := HX.out.at0 0 _ rfl; replace t1 : w1.cell? ⟨X, 1, none⟩ = some (.int .i64 now) := HX.out.at0 1 _ rfl; replace e11 := NB.c11 HZ.out; replace e12 := NB.c12 HZ.out; replace e13 := NB.c13 HZ.out; replace e14 := NB.c14 HZ.out; replace e15 := NB.c15 HZ.out; replace e16 := NB.c16 HZ.out; replace e17 := NB.c17 HZ.out; replace e18 := NB.c18 HZ.out; replace e19 := NB.c19 HZ.out; replace e20 := NB.c20 HZ.out; replace e21 := NB.c21 HZ.out; replace e22 := NB.c22 HZ.out)
        | (go_at_call 72; refine (sNames_any (some ⟨b, off, none⟩) len cap l now _ _ x.ns hlm HK.out.nl HK.out.nm _ (HI.out.below HB.out) (HM.out.nA.below HB.out)).mono ?_; rintro e w1 ⟨rfl, hb⟩; replace HB : Hid (Below w.heap.size w w1) := Below.on HB.out hb; replace HX : Hid (BoxR w1 X [.slice (some ⟨b, off, none⟩) len cap, .int .i64 now]) := HX.out.below hb; replace HZ : Hid (BoxR w1 Z (ndV x y)) := HZ.out.below hb; clear hb; replace t0 : w1.cell? ⟨X, 0, none⟩ = some (.slice (some ⟨b, off, none⟩) len cap) := HX.out.at0 0 _ rfl; replace t1 : w1.cell? ⟨X, 1, none⟩ = some (.int .i64 now) := HX.out.at0 1 _ rfl; replace e11 := NB.c11 HZ.out; replace e12 := NB.c12 HZ.out; replace e13 := NB.c13 HZ.out; replace e14 := NB.c14 HZ.out; replace e15 := NB.c15 HZ.out; replace e16 := NB.c16 HZ.out; replace e17 := NB.c17 HZ.out; replace e18 := NB.c18 HZ.out; replace e19 := NB.c19 HZ.out; replace e20 := NB.c20 HZ.out; replace e21 := NB.c21 HZ.out; replace e22 := NB.c22 HZ.out)
        | (go_at_call 73; refine (sIsDir_any (some ⟨b, off, none⟩) len cap l now x.up hlm _ (HI.out.below HB.out)).mono ?_; rintro e w1 ⟨rfl, hb⟩; replace HB : Hid (Below w.heap.size w w1) := Below.on HB.out hb; replace HX : Hid (BoxR w1 X [.slice (some ⟨b, off, none⟩) len cap, .int .i64 now]) := HX.out.below hb; replace HZ : Hid (BoxR w1 Z (ndV x y)) := HZ.out.below hb; clear hb; replace t0 : w1.cell? ⟨X, 0, none⟩ = some (.slice (some ⟨b, off, none⟩) len cap) := HX.out.at0 0 _ rfl; replace t1 : w1.cell? ⟨X, 1, none⟩ = some (.int .i64 now) := HX.out.at0 1 _ rfl; replace e11 := NB.c11 HZ.out; replace e12 := NB.c12 HZ.out; replace e13 := NB.c13 HZ.out; replace e14 := NB.c14 HZ.out; replace e15 := NB.c15 HZ.out; replace e16 := NB.c16 HZ.out; replace e17 := NB.c17 HZ.out; replace e18 := NB.c18 HZ.out; replace e19 := NB.c19 HZ.out; replace e20 := NB.c20 HZ.out; replace e21 := NB.c21 HZ.out; replace e22 := NB.c22 HZ.out)
        | (go_at_call 74; refine (sHolds_num (some ⟨b, off, none⟩) len cap l now x.up _ hlm HU.out HF.out _ (HI.out.below HB.out)).mono ?_; rintro e w1 ⟨rfl, hb⟩; replace HB : Hid (Below w.heap.size w w1) := Below.on HB.out hb; replace HX : Hid (BoxR w1 X [.slice (some ⟨b, off, none⟩) len cap, .int .i64 now]) := HX.out.below hb; replace HZ : Hid (BoxR w1 Z (ndV x y)) := HZ.out.below hb; clear hb; replace t0 : w1.cell? ⟨X, 0, none⟩ = some (.slice (some ⟨b, off, none⟩) len cap) := HX.out.at0 0 _ rfl; replace t1 : w1.cell? ⟨X, 1, none⟩ = some (.int .i64 now) := HX.out.at0 1 _ rfl; replace e11 := NB.c11 HZ.out; replace e12 := NB.c12 HZ.out; replace e13 := NB.c13 HZ.out; replace e14 := NB.c14 HZ.out; replace e15 := NB.c15 HZ.out; replace e16 := NB.c16 HZ.out; replace e17 := NB.c17 HZ.out; replace e18 := NB.c18 HZ.out; replace e19 := NB.c19 HZ.out; replace e20 := NB.c20 HZ.out; replace e21 := NB.c21 HZ.out; replace e22 := NB.c22 HZ.out)
        | (go_at_call 75; refine (sRooted_any (some ⟨b, off, none⟩) len cap l now _ hlm _ (HI.out.below HB.out)).mono ?_; rintro e w1 ⟨rfl, hb⟩; replace HB : Hid (Below w.heap.size w w1) := Below.on HB.out hb; replace HX : Hid (BoxR w1 X [.slice (some ⟨b, off, none⟩) len cap, .int .i64 now]) := HX.out.below hb; replace HZ : Hid (BoxR w1 Z (ndV x y)) := HZ.out.below hb; clear hb; replace t0 : w1.cell? ⟨X, 0, none⟩ = some (.slice (some ⟨b, off, none⟩) len cap) := HX.out.at0 0 _ rfl; replace t1 : w1.cell? ⟨X, 1, none⟩ = some (.int .i64 now) := HX.out.at0 1 _ rfl; replace e11 := NB.c11 HZ.out; replace e12 := NB.c12 HZ.out; replace e13 := NB.c13 HZ.out; replace e14 := NB.c14 HZ.out; replace e15 := NB.c15 HZ.out; replace e16 := NB.c16 HZ.out; replace e17 := NB.c17 HZ.out; replace e18 := NB.c18 HZ.out; replace e19 := NB.c19 HZ.out; replace e20 := NB.c20 HZ.out; replace e21 := NB.c21 HZ.out; replace e22 := NB.c22 HZ.out))
      all_goals go_ret
      all_goals (refine ⟨ret_boolW ?_, HB.out⟩; rw [HE.out]; first | (simp [*]; done) | (simp only [Bool.not_eq_false', Bool.not_eq_true'] at *; simp [*]))

set_option maxRecDepth 20000 in
set_option maxHeartbeats 16000000 in
theorem sNode_any (a : Option Addr) (len cap : Nat) (l : List Nd) (now : Int) (d : Nat) (hl : len ≤ 12) (hd : d < len) (hf : ∀ i, i < len → NdFit 1048576 (ndAt l i)) (w : World) (hi : Nds a len l w) :
    Calls Tryz.prog 32 #[.agg #[.slice a len cap, .int .i64 now], .int .i64 ((d : Int) + 1)] w fun e w' => e = .returned (.bool (nodeB l now d)) ∧ Below w.heap.size w w' := by
  have hlm : len ≤ 1048576 := by omega
  have HI0 : Hid (Nds a len l w) := hi
  have HF : Hid (∀ i, i < len → NdFit 1048576 (ndAt l i)) := hf
  obtain ⟨b, off, Y, rfl, hb0, hc⟩ := hi.2 (by omega)
  have HN : Hid (N24 w b (off + d * 24) (ndAt l d) (Y d)) := (hc d hd).1
  have HM : Hid (NdIn w (ndAt l d) (Y d)) := (hc d hd).2
  have HK : Hid (NdFit 1048576 (ndAt l d)) := hf d hd
  clear hc hi hf
  have HI : Hid (Nds (some ⟨b, off, none⟩) len l w) := HI0
  clear HI0
  have hd1 : (d : Int) < (len : Int) := by omega
  have hd0 : (0 : Int) ≤ (d : Int) := by omega
  have hll := HI.out.1
  have HD : Hid (∀ w', Below w.heap.size w w' → Calls Tryz.prog 55 #[.agg #[.slice (some ⟨b, off, none⟩) len cap, .int .i64 now], .int .i64 ((d : Int) + 1)] w' fun e w'' => e = .returned (.bool (dirB l d)) ∧ Below w'.heap.size w' w'') := (fun w' hb => sDir_any (some ⟨b, off, none⟩) len cap l now d hl hd HF.out w' (HI.out.below hb))
  have HC : Hid (∀ w', Below w.heap.size w w' → Calls Tryz.prog 52 #[.agg #[.slice (some ⟨b, off, none⟩) len cap, .int .i64 now], .int .i64 ((d : Int) + 1)] w' fun e w'' => e = .returned (.int .i64 (cntN l ((d : Int) + 1) len)) ∧ Below w'.heap.size w' w'') := (fun w' hb => sCount_any (some ⟨b, off, none⟩) len cap l now _ hlm HF.out w' (HI.out.below hb))
  obtain ⟨q0, q1⟩ := cntN_b l ((d : Int) + 1) len (by omega) (fun i hi => (HF.out i (by omega)).nl)
  have hq2 : cntN l ((d : Int) + 1) len ≤ 12582912 := by omega
  have HE : Hid (nodeB l now d = (inR 0 9999 (ndAt l d).ow && (inR 0 9999 (ndAt l d).gr && (inR 0 7 (ndAt l d).ex && ((ndAt l d).A.B && (inR 0 now (ndAt l d).ti && ((ndAt l d).li == (cntN l ((d : Int) + 1) len + (if d = 0 then 1 else 0)) && (inR 1 5 (cntN l ((d : Int) + 1) len + (if d = 0 then 1 else 0)) && kindB l d (ndAt l d))))))))) := (by show _ = _; rw [← hll]; rfl)
  have HKd : Hid (∀ x, kindB l d x = (if x.k == 1 then dirB l d else if x.k == 2 then x.bare && (x.bo.toList == []) else if x.k == 3 then x.bare && signsB x.bo 40 else false)) := (fun x => rfl)
  clear hll q1
  obtain ⟨x, hx⟩ : ∃ x, x = ndAt l d := ⟨_, rfl⟩
  obtain ⟨y, hy⟩ : ∃ y, y = Y d := ⟨_, rfl⟩
  rw [← hx, ← hy] at HN HM
  rw [← hx] at HK HE
  clear hx hy
  unfold Al.B at HE
  rw [HKd.out] at HE
  clear HKd
  generalize cntN l ((d : Int) + 1) len = q at q0 hq2 HE HC
  generalize dirB l d = db at HD HE
  by_cases hz : d = 0
  · subst hz
    rw [if_pos rfl] at HE
    have HB : Hid (Below w.heap.size w (w.alloc (.cells #[.slice (some ⟨b, off, none⟩) len cap, .int .i64 now] 35))) := bel_alloc _ _
    have HX : Hid (BoxR (w.alloc (.cells #[.slice (some ⟨b, off, none⟩) len cap, .int .i64 now] 35)) w.heap.size [.slice (some ⟨b, off, none⟩) len cap, .int .i64 now]) := boxR_new _ _ _
    go_enter Tryz.func32, Tryz.ntmps32
    go_upto_region 1 with fail
    generalize (w.alloc (.cells #[.slice (some ⟨b, off, none⟩) len cap, .int .i64 now] 35)) = w0 at HB HX ⊢
    obtain ⟨X, hX⟩ : ∃ X, X = w.heap.size := ⟨_, rfl⟩
    rw [← hX] at HX ⊢
    clear hX
    have t0 : w0.cell? ⟨X, 0, none⟩ = some (.slice (some ⟨b, off, none⟩) len cap) := HX.out.at0 0 _ rfl
    have t1 : w0.cell? ⟨X, 1, none⟩ = some (.int .i64 now) := HX.out.at0 1 _ rfl
    have HNX : Hid (N24 w0 b (off + 0 * 24) x y) := range_below HN.out hb0 HB.out
    have hbN : Below w0.heap.size w0 ((w0.alloc (.cells #[.int .i64 0, .int .i64 0, .int .i64 0, .int .i64 0, .int .i64 0, .int .i64 0, .int .i64 0, .slice none 0 0, .slice none 0 0, .bool false, .int .i64 0, .bool false, .int .i64 0, .int .i64 0, .int .i64 0, .slice none 0 0, .slice none 0 0, .bool false, .int .i64 0, .int .i64 0, .int .i64 0, .string ⟨#[]⟩, .slice none 0 0, .int .i64 0] 31)).setCells w0.heap.size 0 (ndV x y)) := bl_setsT (Nat.le_refl _) _ _ (bel_alloc _ _)
    have HBn : Hid (Below w.heap.size w ((w0.alloc (.cells #[.int .i64 0, .int .i64 0, .int .i64 0, .int .i64 0, .int .i64 0, .int .i64 0, .int .i64 0, .slice none 0 0, .slice none 0 0, .bool false, .int .i64 0, .bool false, .int .i64 0, .int .i64 0, .int .i64 0, .slice none 0 0, .slice none 0 0, .bool false, .int .i64 0, .int .i64 0, .int .i64 0, .string ⟨#[]⟩, .slice none 0 0, .int .i64 0] 31)).setCells w0.heap.size 0 (ndV x y))) := Below.on HB.out hbN
    have HXn : Hid (BoxR ((w0.alloc (.cells #[.int .i64 0, .int .i64 0, .int .i64 0, .int .i64 0, .int .i64 0, .int .i64 0, .int .i64 0, .slice none 0 0, .slice none 0 0, .bool false, .int .i64 0, .bool false, .int .i64 0, .int .i64 0, .int .i64 0, .slice none 0 0, .slice none 0 0, .bool false, .int .i64 0, .int .i64 0, .int .i64 0, .string ⟨#[]⟩, .slice none 0 0, .int .i64 0] 31)).setCells w0.heap.size 0 (ndV x y)) X [.slice (some ⟨b, off, none⟩) len cap, .int .i64 now]) := HX.out.below hbN
    have HZn : Hid (BoxR ((w0.alloc (.cells #[.int .i64 0, .int .i64 0, .int .i64 0, .int .i64 0, .int .i64 0, .int .i64 0, .int .i64 0, .slice none 0 0, .slice none 0 0, .bool false, .int .i64 0, .bool false, .int .i64 0, .int .i64 0, .int .i64 0, .slice none 0 0, .slice none 0 0, .bool false, .int .i64 0, .int .i64 0, .int .i64 0, .string ⟨#[]⟩, .slice none 0 0, .int .i64 0] 31)).setCells w0.heap.size 0 (ndV x y)) w0.heap.size (ndV x y)) := ⟨by rw [size_setCellsT]; simp, World.rangeAt_setCells_same _ _ _ _ ((boxW_new w0 [.int .i64 0, .int .i64 0, .int .i64 0, .int .i64 0, .int .i64 0, .int .i64 0, .int .i64 0, .slice none 0 0, .slice none 0 0, .bool false, .int .i64 0, .bool false, .int .i64 0, .int .i64 0, .int .i64 0, .slice none 0 0, .slice none 0 0, .bool false, .int .i64 0, .int .i64 0, .int .i64 0, .string ⟨#[]⟩, .slice none 0 0, .int .i64 0] 31).there 0 24 (by simp))⟩
    clear hbN HX HB
    go_upto_region 2 with (first | (refine wpList_load_mid (by rfl) 31 _ (by rfl) _ _ (by rfl) _ _ HNX.out Tryz.underlying31 rfl (by kernel_rfl) ?_) | (refine wpList_store_list (by rfl) 31 _ _ (by rfl) _ _ (ndV x y) (by rfl) (by rfl) ((boxW_new w0 [.int .i64 0, .int .i64 0, .int .i64 0, .int .i64 0, .int .i64 0, .int .i64 0, .int .i64 0, .slice none 0 0, .slice none 0 0, .bool false, .int .i64 0, .bool false, .int .i64 0, .int .i64 0, .int .i64 0, .slice none 0 0, .slice none 0 0, .bool false, .int .i64 0, .int .i64 0, .int .i64 0, .string ⟨#[]⟩, .slice none 0 0, .int .i64 0] 31).there 0 24 (by simp)) (by kernel_rfl) (ndV_ones _ _) ?_))
    generalize ((w0.alloc (.cells #[.int .i64 0, .int .i64 0, .int .i64 0, .int .i64 0, .int .i64 0, .int .i64 0, .int .i64 0, .slice none 0 0, .slice none 0 0, .bool false, .int .i64 0, .bool false, .int .i64 0, .int .i64 0, .int .i64 0, .slice none 0 0, .slice none 0 0, .bool false, .int .i64 0, .int .i64 0, .int .i64 0, .string ⟨#[]⟩, .slice none 0 0, .int .i64 0] 31)).setCells w0.heap.size 0 (ndV x y)) = w2 at HBn HXn HZn ⊢
    generalize w0.heap.size = Z at HZn ⊢
    have HB := HBn
    have HX := HXn
    have HZ := HZn
    clear HBn HXn HZn HNX t0 t1
    have t0 : w2.cell? ⟨X, 0, none⟩ = some (.slice (some ⟨b, off, none⟩) len cap) := HX.out.at0 0 _ rfl
    have t1 : w2.cell? ⟨X, 1, none⟩ = some (.int .i64 now) := HX.out.at0 1 _ rfl
    have e0 := NB.c0 HZ.out
    have e1 := NB.c1 HZ.out
    have e2 := NB.c2 HZ.out
    have e3 := NB.c3 HZ.out
    have e4 := NB.c4 HZ.out
    have e5 := NB.c5 HZ.out
    have e6 := NB.c6 HZ.out
    have e7 := NB.c7 HZ.out
    have e8 := NB.c8 HZ.out
    have e9 := NB.c9 HZ.out
    have e10 := NB.c10 HZ.out
    have e19 := NB.c19 HZ.out
    have e21 := NB.c21 HZ.out
    have e23 := NB.c23 HZ.out
    go_wp2_with (first
      | (refine wpList_load_mid (by rfl) 31 _ (by rfl) _ _ (by rfl) _ _ HZ.out.at0 Tryz.underlying31 rfl (by kernel_rfl) ?_)
      | (go_at_call 52; refine (HC.out _ HB.out).mono ?_; rintro e w1 ⟨rfl, hb⟩; replace HB : Hid (Below w.heap.size w w1) := Below.on HB.out hb; replace HX : Hid (BoxR w1 X [.slice (some ⟨b, off, none⟩) len cap, .int .i64 now]) := HX.out.below hb; replace HZ : Hid (BoxR w1 Z (ndV x y)) := HZ.out.below hb; clear hb; replace t0 : w1.cell? ⟨X, 0, none⟩ = some (.slice (some ⟨b, off, none⟩) len cap) := HX.out.at0 0 _ rfl; replace t1 : w1.cell? ⟨X, 1, none⟩ = some (.int .i64 now) := HX.out.at0 1 _ rfl; replace e0 := NB.c0 HZ.out; replace e1 := NB.c1 HZ.out; replace e2 := NB.c2 HZ.out; replace e3 := NB.c3 HZ.out; replace e4 := NB.c4 HZ.out; replace e5 := NB.c5 HZ.out; replace e6 := NB.c6 HZ.out; replace e7 := NB.c7 HZ.out; replace e8 := NB.c8 HZ.out; replace e9 := NB.c9 HZ.out; replace e10 := NB.c10 HZ.out; replace e19 := NB.c19 HZ.out; replace e21 := NB.c21 HZ.out; replace e23 := NB.c23 HZ.out)
      | (go_at_call 53; refine (sId_any _ _).mono ?_; rintro e w1 ⟨rfl, rfl⟩)
      | (go_at_call 33; refine (sIs_any _ _ _ _).mono ?_; rintro e w1 ⟨rfl, rfl⟩)
      | (go_at_call 54; refine (sAclRight_any x.A.u x.A.g x.A.o _ _ _ _ _ _ x.A.r x.A.m x.A.us x.A.gs HK.out.au HK.out.ag _ (HM.out.aU.below HB.out) (HM.out.aG.below HB.out)).mono ?_; rintro e w1 ⟨rfl, hb⟩; replace HB : Hid (Below w.heap.size w w1) := Below.on HB.out hb; replace HX : Hid (BoxR w1 X [.slice (some ⟨b, off, none⟩) len cap, .int .i64 now]) := HX.out.below hb; replace HZ : Hid (BoxR w1 Z (ndV x y)) := HZ.out.below hb; clear hb; replace t0 : w1.cell? ⟨X, 0, none⟩ = some (.slice (some ⟨b, off, none⟩) len cap) := HX.out.at0 0 _ rfl; replace t1 : w1.cell? ⟨X, 1, none⟩ = some (.int .i64 now) := HX.out.at0 1 _ rfl; replace e0 := NB.c0 HZ.out; replace e1 := NB.c1 HZ.out; replace e2 := NB.c2 HZ.out; replace e3 := NB.c3 HZ.out; replace e4 := NB.c4 HZ.out; replace e5 := NB.c5 HZ.out; replace e6 := NB.c6 HZ.out; replace e7 := NB.c7 HZ.out; replace e8 := NB.c8 HZ.out; replace e9 := NB.c9 HZ.out; replace e10 := NB.c10 HZ.out; replace e19 := NB.c19 HZ.out; replace e21 := NB.c21 HZ.out; replace e23 := NB.c23 HZ.out)
      | (go_at_call 55; refine (HD.out _ HB.out).mono ?_; rintro e w1 ⟨rfl, hb⟩; replace HB : Hid (Below w.heap.size w w1) := Below.on HB.out hb; replace HX : Hid (BoxR w1 X [.slice (some ⟨b, off, none⟩) len cap, .int .i64 now]) := HX.out.below hb; replace HZ : Hid (BoxR w1 Z (ndV x y)) := HZ.out.below hb; clear hb; replace t0 : w1.cell? ⟨X, 0, none⟩ = some (.slice (some ⟨b, off, none⟩) len cap) := HX.out.at0 0 _ rfl; replace t1 : w1.cell? ⟨X, 1, none⟩ = some (.int .i64 now) := HX.out.at0 1 _ rfl; replace e0 := NB.c0 HZ.out; replace e1 := NB.c1 HZ.out; replace e2 := NB.c2 HZ.out; replace e3 := NB.c3 HZ.out; replace e4 := NB.c4 HZ.out; replace e5 := NB.c5 HZ.out; replace e6 := NB.c6 HZ.out; replace e7 := NB.c7 HZ.out; replace e8 := NB.c8 HZ.out; replace e9 := NB.c9 HZ.out; replace e10 := NB.c10 HZ.out; replace e19 := NB.c19 HZ.out; replace e21 := NB.c21 HZ.out; replace e23 := NB.c23 HZ.out)
      | (go_at_call 50; refine (sBare_any x y _).mono ?_; rintro e w1 ⟨rfl, hb⟩; replace HB : Hid (Below w.heap.size w w1) := Below.on HB.out hb; replace HX : Hid (BoxR w1 X [.slice (some ⟨b, off, none⟩) len cap, .int .i64 now]) := HX.out.below hb; replace HZ : Hid (BoxR w1 Z (ndV x y)) := HZ.out.below hb; clear hb; replace t0 : w1.cell? ⟨X, 0, none⟩ = some (.slice (some ⟨b, off, none⟩) len cap) := HX.out.at0 0 _ rfl; replace t1 : w1.cell? ⟨X, 1, none⟩ = some (.int .i64 now) := HX.out.at0 1 _ rfl; replace e0 := NB.c0 HZ.out; replace e1 := NB.c1 HZ.out; replace e2 := NB.c2 HZ.out; replace e3 := NB.c3 HZ.out; replace e4 := NB.c4 HZ.out; replace e5 := NB.c5 HZ.out; replace e6 := NB.c6 HZ.out; replace e7 := NB.c7 HZ.out; replace e8 := NB.c8 HZ.out; replace e9 := NB.c9 HZ.out; replace e10 := NB.c10 HZ.out; replace e19 := NB.c19 HZ.out; replace e21 := NB.c21 HZ.out; replace e23 := NB.c23 HZ.out)
      | (go_at_call 56; refine (sLink_any _ (by have := HK.out.bo; unfold maxLen; omega) _).mono ?_; rintro e w1 ⟨rfl, rfl⟩))
    all_goals go_ret
    all_goals (refine ⟨ret_boolW ?_, HB.out⟩; rw [HE.out]; first | (simp [*]; done) | (simp only [Bool.not_eq_false', Bool.not_eq_true'] at *; simp [*]))
  · rw [if_neg hz, Int.add_zero] at HE
    have hz1 : ((d : Int) + 1 == 1) = false := by rw [beq_eq_false_iff_ne]; omega
    clear hz
    have HB : Hid (Below w.heap.size w (w.alloc (.cells #[.slice (some ⟨b, off, none⟩) len cap, .int .i64 now] 35))) := bel_alloc _ _
    have HX : Hid (BoxR (w.alloc (.cells #[.slice (some ⟨b, off, none⟩) len cap, .int .i64 now] 35)) w.heap.size [.slice (some ⟨b, off, none⟩) len cap, .int .i64 now]) := boxR_new _ _ _
    go_enter Tryz.func32, Tryz.ntmps32
    go_upto_region 1 with fail
    generalize (w.alloc (.cells #[.slice (some ⟨b, off, none⟩) len cap, .int .i64 now] 35)) = w0 at HB HX ⊢
    obtain ⟨X, hX⟩ : ∃ X, X = w.heap.size := ⟨_, rfl⟩
    rw [← hX] at HX ⊢
    clear hX
    have t0 : w0.cell? ⟨X, 0, none⟩ = some (.slice (some ⟨b, off, none⟩) len cap) := HX.out.at0 0 _ rfl
    have t1 : w0.cell? ⟨X, 1, none⟩ = some (.int .i64 now) := HX.out.at0 1 _ rfl
    have HNX : Hid (N24 w0 b (off + d * 24) x y) := range_below HN.out hb0 HB.out
    have hbN : Below w0.heap.size w0 ((w0.alloc (.cells #[.int .i64 0, .int .i64 0, .int .i64 0, .int .i64 0, .int .i64 0, .int .i64 0, .int .i64 0, .slice none 0 0, .slice none 0 0, .bool false, .int .i64 0, .bool false, .int .i64 0, .int .i64 0, .int .i64 0, .slice none 0 0, .slice none 0 0, .bool false, .int .i64 0, .int .i64 0, .int .i64 0, .string ⟨#[]⟩, .slice none 0 0, .int .i64 0] 31)).setCells w0.heap.size 0 (ndV x y)) := bl_setsT (Nat.le_refl _) _ _ (bel_alloc _ _)
    have HBn : Hid (Below w.heap.size w ((w0.alloc (.cells #[.int .i64 0, .int .i64 0, .int .i64 0, .int .i64 0, .int .i64 0, .int .i64 0, .int .i64 0, .slice none 0 0, .slice none 0 0, .bool false, .int .i64 0, .bool false, .int .i64 0, .int .i64 0, .int .i64 0, .slice none 0 0, .slice none 0 0, .bool false, .int .i64 0, .int .i64 0, .int .i64 0, .string ⟨#[]⟩, .slice none 0 0, .int .i64 0] 31)).setCells w0.heap.size 0 (ndV x y))) := Below.on HB.out hbN
    have HXn : Hid (BoxR ((w0.alloc (.cells #[.int .i64 0, .int .i64 0, .int .i64 0, .int .i64 0, .int .i64 0, .int .i64 0, .int .i64 0, .slice none 0 0, .slice none 0 0, .bool false, .int .i64 0, .bool false, .int .i64 0, .int .i64 0, .int .i64 0, .slice none 0 0, .slice none 0 0, .bool false, .int .i64 0, .int .i64 0, .int .i64 0, .string ⟨#[]⟩, .slice none 0 0, .int .i64 0] 31)).setCells w0.heap.size 0 (ndV x y)) X [.slice (some ⟨b, off, none⟩) len cap, .int .i64 now]) := HX.out.below hbN
    have HZn : Hid (BoxR ((w0.alloc (.cells #[.int .i64 0, .int .i64 0, .int .i64 0, .int .i64 0, .int .i64 0, .int .i64 0, .int .i64 0, .slice none 0 0, .slice none 0 0, .bool false, .int .i64 0, .bool false, .int .i64 0, .int .i64 0, .int .i64 0, .slice none 0 0, .slice none 0 0, .bool false, .int .i64 0, .int .i64 0, .int .i64 0, .string ⟨#[]⟩, .slice none 0 0, .int .i64 0] 31)).setCells w0.heap.size 0 (ndV x y)) w0.heap.size (ndV x y)) := ⟨by rw [size_setCellsT]; simp, World.rangeAt_setCells_same _ _ _ _ ((boxW_new w0 [.int .i64 0, .int .i64 0, .int .i64 0, .int .i64 0, .int .i64 0, .int .i64 0, .int .i64 0, .slice none 0 0, .slice none 0 0, .bool false, .int .i64 0, .bool false, .int .i64 0, .int .i64 0, .int .i64 0, .slice none 0 0, .slice none 0 0, .bool false, .int .i64 0, .int .i64 0, .int .i64 0, .string ⟨#[]⟩, .slice none 0 0, .int .i64 0] 31).there 0 24 (by simp))⟩
    clear hbN HX HB
    go_upto_region 2 with (first | (refine wpList_load_mid (by rfl) 31 _ (by rfl) _ _ (by rfl) _ _ HNX.out Tryz.underlying31 rfl (by kernel_rfl) ?_) | (refine wpList_store_list (by rfl) 31 _ _ (by rfl) _ _ (ndV x y) (by rfl) (by rfl) ((boxW_new w0 [.int .i64 0, .int .i64 0, .int .i64 0, .int .i64 0, .int .i64 0, .int .i64 0, .int .i64 0, .slice none 0 0, .slice none 0 0, .bool false, .int .i64 0, .bool false, .int .i64 0, .int .i64 0, .int .i64 0, .slice none 0 0, .slice none 0 0, .bool false, .int .i64 0, .int .i64 0, .int .i64 0, .string ⟨#[]⟩, .slice none 0 0, .int .i64 0] 31).there 0 24 (by simp)) (by kernel_rfl) (ndV_ones _ _) ?_))
    generalize ((w0.alloc (.cells #[.int .i64 0, .int .i64 0, .int .i64 0, .int .i64 0, .int .i64 0, .int .i64 0, .int .i64 0, .slice none 0 0, .slice none 0 0, .bool false, .int .i64 0, .bool false, .int .i64 0, .int .i64 0, .int .i64 0, .slice none 0 0, .slice none 0 0, .bool false, .int .i64 0, .int .i64 0, .int .i64 0, .string ⟨#[]⟩, .slice none 0 0, .int .i64 0] 31)).setCells w0.heap.size 0 (ndV x y)) = w2 at HBn HXn HZn ⊢
    generalize w0.heap.size = Z at HZn ⊢
    have HB := HBn
    have HX := HXn
    have HZ := HZn
    clear HBn HXn HZn HNX t0 t1
    have t0 : w2.cell? ⟨X, 0, none⟩ = some (.slice (some ⟨b, off, none⟩) len cap) := HX.out.at0 0 _ rfl
    have t1 : w2.cell? ⟨X, 1, none⟩ = some (.int .i64 now) := HX.out.at0 1 _ rfl
    have e0 := NB.c0 HZ.out
    have e1 := NB.c1 HZ.out
    have e2 := NB.c2 HZ.out
    have e3 := NB.c3 HZ.out
    have e4 := NB.c4 HZ.out
    have e5 := NB.c5 HZ.out
    have e6 := NB.c6 HZ.out
    have e7 := NB.c7 HZ.out
    have e8 := NB.c8 HZ.out
    have e9 := NB.c9 HZ.out
    have e10 := NB.c10 HZ.out
    have e19 := NB.c19 HZ.out
    have e21 := NB.c21 HZ.out
    have e23 := NB.c23 HZ.out
    go_wp2_with (first
      | (refine wpList_load_mid (by rfl) 31 _ (by rfl) _ _ (by rfl) _ _ HZ.out.at0 Tryz.underlying31 rfl (by kernel_rfl) ?_)
      | (go_at_call 52; refine (HC.out _ HB.out).mono ?_; rintro e w1 ⟨rfl, hb⟩; replace HB : Hid (Below w.heap.size w w1) := Below.on HB.out hb; replace HX : Hid (BoxR w1 X [.slice (some ⟨b, off, none⟩) len cap, .int .i64 now]) := HX.out.below hb; replace HZ : Hid (BoxR w1 Z (ndV x y)) := HZ.out.below hb; clear hb; replace t0 : w1.cell? ⟨X, 0, none⟩ = some (.slice (some ⟨b, off, none⟩) len cap) := HX.out.at0 0 _ rfl; replace t1 : w1.cell? ⟨X, 1, none⟩ = some (.int .i64 now) := HX.out.at0 1 _ rfl; replace e0 := NB.c0 HZ.out; replace e1 := NB.c1 HZ.out; replace e2 := NB.c2 HZ.out; replace e3 := NB.c3 HZ.out; replace e4 := NB.c4 HZ.out; replace e5 := NB.c5 HZ.out; replace e6 := NB.c6 HZ.out; replace e7 := NB.c7 HZ.out; replace e8 := NB.c8 HZ.out; replace e9 := NB.c9 HZ.out; replace e10 := NB.c10 HZ.out; replace e19 := NB.c19 HZ.out; replace e21 := NB.c21 HZ.out; replace e23 := NB.c23 HZ.out)
      | (go_at_call 53; refine (sId_any _ _).mono ?_; rintro e w1 ⟨rfl, rfl⟩)
      | (go_at_call 33; refine (sIs_any _ _ _ _).mono ?_; rintro e w1 ⟨rfl, rfl⟩)
      | (go_at_call 54; refine (sAclRight_any x.A.u x.A.g x.A.o _ _ _ _ _ _ x.A.r x.A.m x.A.us x.A.gs HK.out.au HK.out.ag _ (HM.out.aU.below HB.out) (HM.out.aG.below HB.out)).mono ?_; rintro e w1 ⟨rfl, hb⟩; replace HB : Hid (Below w.heap.size w w1) := Below.on HB.out hb; replace HX : Hid (BoxR w1 X [.slice (some ⟨b, off, none⟩) len cap, .int .i64 now]) := HX.out.below hb; replace HZ : Hid (BoxR w1 Z (ndV x y)) := HZ.out.below hb; clear hb; replace t0 : w1.cell? ⟨X, 0, none⟩ = some (.slice (some ⟨b, off, none⟩) len cap) := HX.out.at0 0 _ rfl; replace t1 : w1.cell? ⟨X, 1, none⟩ = some (.int .i64 now) := HX.out.at0 1 _ rfl; replace e0 := NB.c0 HZ.out; replace e1 := NB.c1 HZ.out; replace e2 := NB.c2 HZ.out; replace e3 := NB.c3 HZ.out; replace e4 := NB.c4 HZ.out; replace e5 := NB.c5 HZ.out; replace e6 := NB.c6 HZ.out; replace e7 := NB.c7 HZ.out; replace e8 := NB.c8 HZ.out; replace e9 := NB.c9 HZ.out; replace e10 := NB.c10 HZ.out; replace e19 := NB.c19 HZ.out; replace e21 := NB.c21 HZ.out; replace e23 := NB.c23 HZ.out)
      | (go_at_call 55; refine (HD.out _ HB.out).mono ?_; rintro e w1 ⟨rfl, hb⟩; replace HB : Hid (Below w.heap.size w w1) := Below.on HB.out hb; replace HX : Hid (BoxR w1 X [.slice (some ⟨b, off, none⟩) len cap, .int .i64 now]) := HX.out.below hb; replace HZ : Hid (BoxR w1 Z (ndV x y)) := HZ.out.below hb; clear hb; replace t0 : w1.cell? ⟨X, 0, none⟩ = some (.slice (some ⟨b, off, none⟩) len cap) := HX.out.at0 0 _ rfl; replace t1 : w1.cell? ⟨X, 1, none⟩ = some (.int .i64 now) := HX.out.at0 1 _ rfl; replace e0 := NB.c0 HZ.out; replace e1 := NB.c1 HZ.out; replace e2 := NB.c2 HZ.out; replace e3 := NB.c3 HZ.out; replace e4 := NB.c4 HZ.out; replace e5 := NB.c5 HZ.out; replace e6 := NB.c6 HZ.out; replace e7 := NB.c7 HZ.out; replace e8 := NB.c8 HZ.out; replace e9 := NB.c9 HZ.out; replace e10 := NB.c10 HZ.out; replace e19 := NB.c19 HZ.out; replace e21 := NB.c21 HZ.out; replace e23 := NB.c23 HZ.out)
      | (go_at_call 50; refine (sBare_any x y _).mono ?_; rintro e w1 ⟨rfl, hb⟩; replace HB : Hid (Below w.heap.size w w1) := Below.on HB.out hb; replace HX : Hid (BoxR w1 X [.slice (some ⟨b, off, none⟩) len cap, .int .i64 now]) := HX.out.below hb; replace HZ : Hid (BoxR w1 Z (ndV x y)) := HZ.out.below hb; clear hb; replace t0 : w1.cell? ⟨X, 0, none⟩ = some (.slice (some ⟨b, off, none⟩) len cap) := HX.out.at0 0 _ rfl; replace t1 : w1.cell? ⟨X, 1, none⟩ = some (.int .i64 now) := HX.out.at0 1 _ rfl; replace e0 := NB.c0 HZ.out; replace e1 := NB.c1 HZ.out; replace e2 := NB.c2 HZ.out; replace e3 := NB.c3 HZ.out; replace e4 := NB.c4 HZ.out; replace e5 := NB.c5 HZ.out; replace e6 := NB.c6 HZ.out; replace e7 := NB.c7 HZ.out; replace e8 := NB.c8 HZ.out; replace e9 := NB.c9 HZ.out; replace e10 := NB.c10 HZ.out; replace e19 := NB.c19 HZ.out; replace e21 := NB.c21 HZ.out; replace e23 := NB.c23 HZ.out)
      | (go_at_call 56; refine (sLink_any _ (by have := HK.out.bo; unfold maxLen; omega) _).mono ?_; rintro e w1 ⟨rfl, rfl⟩))
    all_goals go_ret
    all_goals (refine ⟨ret_boolW ?_, HB.out⟩; rw [HE.out]; first | (simp [*]; done) | (simp only [Bool.not_eq_false', Bool.not_eq_true'] at *; simp [*]))

theorem sTime_any (n : Int) (w : World) :
    Calls Tryz.prog 30 #[.int .i64 n] w fun e w' => e = .returned (.bool (inR 0 1000000 n)) ∧ w' = w := by
  go_enter Tryz.func30, Tryz.ntmps30
  go_wp2_with (go_at_call 33; refine (sIs_any _ _ _ _).mono ?_; rintro e w' ⟨rfl, rfl⟩)
  go_ret
  exact ⟨rfl, rfl⟩
theorem treeT_false {l : List Nd} {now : Int} {k n : Nat} (h : k < n) (hk : (if (ndAt l k).k == 0 then (ndAt l k).zero else nodeB l now k) = false) : treeT l now n = false := by
  induction n with
  | zero => omega
  | succ n ih =>
    by_cases e : k = n
    · subst e; simp only [treeT, hk, Bool.and_false]
    · simp only [treeT, ih (by omega), Bool.false_and]
theorem treeB_no {l : List Nd} {now : Int} {k : Nat} (h : k < l.length) (hk : (if (ndAt l k).k == 0 then (ndAt l k).zero else nodeB l now k) = false) : treeB l now = false := by simp only [treeB, treeT_false h hk, Bool.and_false]
theorem treeB_short {l : List Nd} {now : Int} (h : l.length < 1) : treeB l now = false := by
  have : ¬ 1 ≤ l.length := by omega
  simp [treeB, this]
theorem treeB_long {l : List Nd} {now : Int} (h : 12 < l.length) : treeB l now = false := by
  have : ¬ l.length ≤ 12 := by omega
  simp [treeB, this]
theorem treeB_now {l : List Nd} {now : Int} (h : inR 0 1000000 now = false) : treeB l now = false := by simp [treeB, h]
theorem treeB_top {l : List Nd} {now : Int} (h : ((ndAt l 0).k == 1) = false) : treeB l now = false := by simp only [treeB, h, Bool.false_and, Bool.and_false]
theorem treeB_yes {l : List Nd} {now : Int} (h1 : 1 ≤ l.length) (h2 : l.length ≤ 12) (h3 : inR 0 1000000 now = true) (h4 : ((ndAt l 0).k == 1) = true) (h5 : treeT l now l.length = true) : treeB l now = true := by simp only [treeB, h1, h2, h3, h4, h5, decide_true, Bool.and_self]
theorem treeT_next {l : List Nd} {now : Int} {k : Nat} (h : treeT l now k = true) (hk : (if (ndAt l k).k == 0 then (ndAt l k).zero else nodeB l now k) = true) : treeT l now (k + 1) = true := by simp only [treeT, h, hk, Bool.and_self]
set_option maxHeartbeats 8000000 in
theorem sTree_any (a : Option Addr) (len cap : Nat) (l : List Nd) (now : Int) (hm : len ≤ 9223372036854775807) (hf : ∀ i, i < len → NdFit 1048576 (ndAt l i)) (w : World) (hi : Nds a len l w) :
    Calls Tryz.prog 14 #[.agg #[.slice a len cap, .int .i64 now]] w fun e w' => e = .returned (.bool (treeB l now)) ∧ Below w.heap.size w w' := by
  have hll := hi.1
  by_cases h1 : len < 1
  · have hno : Hid (treeB l now = false) := treeB_short (by omega)
    have h1' : (len : Int) < 1 := by omega
    have HB : Hid (Below w.heap.size w (w.alloc (.cells #[.slice a len cap, .int .i64 now] 35))) := bel_alloc _ _
    have HX : Hid (BoxR (w.alloc (.cells #[.slice a len cap, .int .i64 now] 35)) w.heap.size [.slice a len cap, .int .i64 now]) := boxR_new _ _ _
    go_enter Tryz.func14, Tryz.ntmps14
    go_upto_region 1 with fail
    generalize (w.alloc (.cells #[.slice a len cap, .int .i64 now] 35)) = w0 at HB HX ⊢
    obtain ⟨X, hX⟩ : ∃ X, X = w.heap.size := ⟨_, rfl⟩
    rw [← hX] at HX ⊢
    clear hX
    have t0 : w0.cell? ⟨X, 0, none⟩ = some (.slice a len cap) := HX.out.at0 0 _ rfl
    have t1 : w0.cell? ⟨X, 1, none⟩ = some (.int .i64 now) := HX.out.at0 1 _ rfl
    go_wp2
    go_ret
    exact ⟨ret_boolW hno.out.symm, HB.out⟩
  have h1' : decide ((len : Int) < 1) = false := by simp; omega
  by_cases h2 : 12 < len
  · have hno : Hid (treeB l now = false) := treeB_long (by omega)
    have h2' : (12 : Int) < (len : Int) := by omega
    have HB : Hid (Below w.heap.size w (w.alloc (.cells #[.slice a len cap, .int .i64 now] 35))) := bel_alloc _ _
    have HX : Hid (BoxR (w.alloc (.cells #[.slice a len cap, .int .i64 now] 35)) w.heap.size [.slice a len cap, .int .i64 now]) := boxR_new _ _ _
    go_enter Tryz.func14, Tryz.ntmps14
    go_upto_region 1 with fail
    generalize (w.alloc (.cells #[.slice a len cap, .int .i64 now] 35)) = w0 at HB HX ⊢
    obtain ⟨X, hX⟩ : ∃ X, X = w.heap.size := ⟨_, rfl⟩
    rw [← hX] at HX ⊢
    clear hX
    have t0 : w0.cell? ⟨X, 0, none⟩ = some (.slice a len cap) := HX.out.at0 0 _ rfl
    have t1 : w0.cell? ⟨X, 1, none⟩ = some (.int .i64 now) := HX.out.at0 1 _ rfl
    go_wp2
    go_ret
    exact ⟨ret_boolW hno.out.symm, HB.out⟩
  have h2' : decide ((12 : Int) < (len : Int)) = false := by simp; omega
  cases h3 : inR 0 1000000 now
  · have hno : Hid (treeB l now = false) := treeB_now h3
    have HT : Hid (∀ w, Calls Tryz.prog 30 #[.int .i64 now] w fun e w' => e = .returned (.bool false) ∧ w' = w) := (fun w => by have h := sTime_any now w; rwa [h3] at h)
    have HB : Hid (Below w.heap.size w (w.alloc (.cells #[.slice a len cap, .int .i64 now] 35))) := bel_alloc _ _
    have HX : Hid (BoxR (w.alloc (.cells #[.slice a len cap, .int .i64 now] 35)) w.heap.size [.slice a len cap, .int .i64 now]) := boxR_new _ _ _
    go_enter Tryz.func14, Tryz.ntmps14
    go_upto_region 1 with fail
    generalize (w.alloc (.cells #[.slice a len cap, .int .i64 now] 35)) = w0 at HB HX ⊢
    obtain ⟨X, hX⟩ : ∃ X, X = w.heap.size := ⟨_, rfl⟩
    rw [← hX] at HX ⊢
    clear hX
    have t0 : w0.cell? ⟨X, 0, none⟩ = some (.slice a len cap) := HX.out.at0 0 _ rfl
    have t1 : w0.cell? ⟨X, 1, none⟩ = some (.int .i64 now) := HX.out.at0 1 _ rfl
    go_wp2_with (go_at_call 30; refine (HT.out _).mono ?_; rintro e w1 ⟨rfl, rfl⟩)
    go_ret
    exact ⟨ret_boolW hno.out.symm, HB.out⟩
  have HT : Hid (∀ w, Calls Tryz.prog 30 #[.int .i64 now] w fun e w' => e = .returned (.bool true) ∧ w' = w) := (fun w => by have h := sTime_any now w; rwa [h3] at h)
  have HI : Hid (Nds a len l w) := hi
  have HF : Hid (∀ i, i < len → NdFit 1048576 (ndAt l i)) := hf
  have HL : Hid (l.length = len) := hll
  have H3 : Hid (inR 0 1000000 now = true) := h3
  obtain ⟨b, off, Y, rfl, hb0, hc⟩ := hi.2 (by omega)
  have HN0 : Hid (N24 w b (off + 0 * 24) (ndAt l 0) (Y 0)) := (hc 0 (by omega)).1
  clear hc hi hf hll h3
  have hlen1 : (0 : Int) < (len : Int) := by omega
  cases h4 : ((ndAt l 0).k == 1)
  · have hno : Hid (treeB l now = false) := treeB_top h4
    have h4' : ((ndAt l 0).k != 1) = true := by rw [bne, h4]; rfl
    have HB : Hid (Below w.heap.size w (w.alloc (.cells #[.slice (some ⟨b, off, none⟩) len cap, .int .i64 now] 35))) := bel_alloc _ _
    have HX : Hid (BoxR (w.alloc (.cells #[.slice (some ⟨b, off, none⟩) len cap, .int .i64 now] 35)) w.heap.size [.slice (some ⟨b, off, none⟩) len cap, .int .i64 now]) := boxR_new _ _ _
    go_enter Tryz.func14, Tryz.ntmps14
    go_upto_region 1 with fail
    generalize (w.alloc (.cells #[.slice (some ⟨b, off, none⟩) len cap, .int .i64 now] 35)) = w0 at HB HX ⊢
    obtain ⟨X, hX⟩ : ∃ X, X = w.heap.size := ⟨_, rfl⟩
    rw [← hX] at HX ⊢
    clear hX
    have t0 : w0.cell? ⟨X, 0, none⟩ = some (.slice (some ⟨b, off, none⟩) len cap) := HX.out.at0 0 _ rfl
    have t1 : w0.cell? ⟨X, 1, none⟩ = some (.int .i64 now) := HX.out.at0 1 _ rfl
    have c0 := N24.c0 (range_below HN0.out hb0 HB.out)
    simp only [Nat.zero_mul, Nat.add_zero] at c0
    go_wp2_with (go_at_call 30; refine (HT.out _).mono ?_; rintro e w1 ⟨rfl, rfl⟩)
    go_ret
    exact ⟨ret_boolW hno.out.symm, HB.out⟩
  have H4 : Hid (((ndAt l 0).k == 1) = true) := h4
  have h4' : ((ndAt l 0).k != 1) = false := by rw [bne, h4]; rfl
  clear h4
  have HB : Hid (Below w.heap.size w (w.alloc (.cells #[.slice (some ⟨b, off, none⟩) len cap, .int .i64 now] 35))) := bel_alloc _ _
  have HX : Hid (BoxR (w.alloc (.cells #[.slice (some ⟨b, off, none⟩) len cap, .int .i64 now] 35)) w.heap.size [.slice (some ⟨b, off, none⟩) len cap, .int .i64 now]) := boxR_new _ _ _
  go_enter Tryz.func14, Tryz.ntmps14
  go_upto_region 1 with fail
  generalize (w.alloc (.cells #[.slice (some ⟨b, off, none⟩) len cap, .int .i64 now] 35)) = w0 at HB HX ⊢
  obtain ⟨X, hX⟩ : ∃ X, X = w.heap.size := ⟨_, rfl⟩
  rw [← hX] at HX ⊢
  clear hX
  have t0 : w0.cell? ⟨X, 0, none⟩ = some (.slice (some ⟨b, off, none⟩) len cap) := HX.out.at0 0 _ rfl
  have t1 : w0.cell? ⟨X, 1, none⟩ = some (.int .i64 now) := HX.out.at0 1 _ rfl
  have c0 := N24.c0 (range_below HN0.out hb0 HB.out)
  simp only [Nat.zero_mul, Nat.add_zero] at c0
  go_wp2_with (go_at_call 30; refine (HT.out _).mono ?_; rintro e w1 ⟨rfl, rfl⟩)
  clear c0 t0 t1 h4' HN0
  go_loopw [3] (fun i wr => ∃ k : Nat, k ≤ len ∧ i = .int .i64 k ∧ Hid (treeT l now k = true) ∧ Hid (Below w.heap.size w wr) ∧ Hid (BoxR wr X [.slice (some ⟨b, off, none⟩) len cap, .int .i64 now])) (fun i _ => len - (intOf i).toNat)
  case atStart => exact ⟨0, Nat.zero_le _, rfl, rfl, HB, HX⟩
  case round =>
    obtain ⟨k, hk, rfl, hto, hB, hX⟩ := hrel
    have t0 : wr.cell? ⟨X, 0, none⟩ = some (.slice (some ⟨b, off, none⟩) len cap) := hX.out.at0 0 _ rfl
    have t1 : wr.cell? ⟨X, 1, none⟩ = some (.int .i64 now) := hX.out.at0 1 _ rfl
    by_cases hlt : k < len
    · have hlt' : (k : Int) < (len : Int) := by omega
      have hk0 : (0 : Int) ≤ (k : Int) := by omega
      obtain ⟨b', off', Y', hbe, hb', hc⟩ := (HI.out.below hB.out).2 (by omega)
      simp only [Option.some.injEq, Addr.mk.injEq] at hbe
      obtain ⟨rfl, rfl, _⟩ := hbe
      have HN : Hid (N24 wr b (off + k * 24) (ndAt l k) (Y' k)) := (hc k hlt).1
      have c0 := N24.c0 HN.out
      clear hc
      cases hz : ((ndAt l k).k == 0)
      · have HS : Hid (Calls Tryz.prog 32 #[.agg #[.slice (some ⟨b, off, none⟩) len cap, .int .i64 now], .int .i64 ((k : Int) + 1)] wr fun e w'' => e = .returned (.bool (nodeB l now k)) ∧ Below wr.heap.size wr w'') := sNode_any (some ⟨b, off, none⟩) len cap l now k (by omega) hlt HF.out wr (HI.out.below hB.out)
        cases hn : nodeB l now k
        · have hno : Hid (treeB l now = false) := treeB_no (k := k) (by rw [HL.out]; exact hlt) (by rw [hz, hn]; rfl)
          rw [hn] at HS
          go_wp2_with (go_at_call 32; refine (HS.out).mono ?_; rintro e w1 ⟨rfl, hb⟩; have HB1 : Hid (Below w.heap.size w w1) := Below.on hB.out hb; clear hb)
          go_ret
          exact ⟨ret_boolW hno.out.symm, HB1.out⟩
        · have hyes : Hid (treeT l now (k + 1) = true) := treeT_next hto.out (by rw [hz, hn]; rfl)
          rw [hn] at HS
          go_wp2_with (go_at_call 32; refine (HS.out).mono ?_; rintro e w1 ⟨rfl, hb⟩; have HB1 : Hid (Below w.heap.size w w1) := Below.on hB.out hb; have HX1 : Hid (BoxR w1 X [.slice (some ⟨b, off, none⟩) len cap, .int .i64 now]) := hX.out.below hb; clear hb)
          go_roundw
          case rel => exact ⟨k + 1, by omega, by go_num, hyes, HB1, HX1⟩
          case measure => simp [intOf]; omega
      · have HS : Hid (Calls Tryz.prog 31 #[.agg (ndV (ndAt l k) (Y' k)).toArray] wr fun e w'' => e = .returned (.bool (ndAt l k).zero) ∧ Below wr.heap.size wr w'') := sZero_any _ _ _
        cases hn : (ndAt l k).zero
        · have hno : Hid (treeB l now = false) := treeB_no (k := k) (by rw [HL.out]; exact hlt) (by rw [hz, hn]; rfl)
          rw [hn] at HS
          go_wp2_with (first | (refine wpList_load_mid (by rfl) 31 _ (by rfl) _ _ (by rfl) _ _ HN.out Tryz.underlying31 rfl (by kernel_rfl) ?_) | (go_at_call 31; refine (HS.out).mono ?_; rintro e w1 ⟨rfl, hb⟩; have HB1 : Hid (Below w.heap.size w w1) := Below.on hB.out hb; clear hb))
          go_ret
          exact ⟨ret_boolW hno.out.symm, HB1.out⟩
        · have hyes : Hid (treeT l now (k + 1) = true) := treeT_next hto.out (by rw [hz, hn]; rfl)
          rw [hn] at HS
          go_wp2_with (first | (refine wpList_load_mid (by rfl) 31 _ (by rfl) _ _ (by rfl) _ _ HN.out Tryz.underlying31 rfl (by kernel_rfl) ?_) | (go_at_call 31; refine (HS.out).mono ?_; rintro e w1 ⟨rfl, hb⟩; have HB1 : Hid (Below w.heap.size w w1) := Below.on hB.out hb; have HX1 : Hid (BoxR w1 X [.slice (some ⟨b, off, none⟩) len cap, .int .i64 now]) := hX.out.below hb; clear hb))
          go_roundw
          case rel => exact ⟨k + 1, by omega, by go_num, hyes, HB1, HX1⟩
          case measure => simp [intOf]; omega
    · have : k = len := by omega
      subst this
      have hyes : Hid (treeB l now = true) := treeB_yes (by rw [HL.out]; omega) (by rw [HL.out]; omega) H3.out H4.out (by rw [HL.out]; exact hto.out)
      go_wp2
      go_ret
      exact ⟨ret_boolW hyes.out.symm, hB.out⟩
end Go.Proofs.YtgodbelcddgdmaaGreat
