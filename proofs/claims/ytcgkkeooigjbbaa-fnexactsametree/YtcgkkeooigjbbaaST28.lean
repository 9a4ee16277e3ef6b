/- Laid together: SameTreeLaw. -/
import Derived.Test.YtcgkkeooigjbbaaST26
import Derived.Test.YtcgkkeooigjbbaaST27
import Derived.Test.YtcgkkeooigjbbaaST5
import Derived.Deep.DeepCutAuto
import Derived.Deep.RegionHeld3
/- The law FnExactSameTree. -/
namespace Go.Proofs.Ytcgkkeooigjbbaa
open Go.RowKit Go.PlainAid Go.Deep
set_option linter.unusedVariables false
set_option maxRecDepth 20000 in
set_option maxHeartbeats 8000000 in
theorem sameTree_any (a : Option Addr) (len cap : Nat) (l : List Nd) (now : Int) (a2 : Option Addr) (len2 cap2 : Nat) (l2 : List Nd) (now2 : Int) (hm : len ≤ 9223372036854775807) (hf : ∀ i, i < len → NdFit 9223372036854775807 (ndAt l i)) (hm2 : len2 ≤ 9223372036854775807) (hf2 : ∀ i, i < len2 → NdFit 9223372036854775807 (ndAt l2 i)) (w : World) (hi : Nds a len l w) (hi2 : Nds a2 len2 l2 w) :
    Calls Try.prog 7 #[.agg #[.slice a len cap, .int .i64 now], .agg #[.slice a2 len2 cap2, .int .i64 now2]] w fun e w' => e = .returned (.bool true) ∧ Below w.heap.size w w' := by
  have HI0 : Hid (Nds a len l w) := hi
  have HF0 : Hid (∀ i, i < len → NdFit 9223372036854775807 (ndAt l i)) := hf
  have HI1 : Hid (Nds a2 len2 l2 w) := hi2
  have HF1 : Hid (∀ i, i < len2 → NdFit 9223372036854775807 (ndAt l2 i)) := hf2
  clear hi hf hi2 hf2
  have HB : Hid (Below w.heap.size w ((w.alloc (.cells #[.slice a len cap, .int .i64 now] 24)).alloc (.cells #[.slice a2 len2 cap2, .int .i64 now2] 24))) := bl2T _ _ _
  have HL0 : Hid (BoxR ((w.alloc (.cells #[.slice a len cap, .int .i64 now] 24)).alloc (.cells #[.slice a2 len2 cap2, .int .i64 now2] 24)) w.heap.size [.slice a len cap, .int .i64 now]) := (boxR_new w [.slice a len cap, .int .i64 now] 24).below (bel_alloc _ _)
  have HL1 : Hid (BoxR ((w.alloc (.cells #[.slice a len cap, .int .i64 now] 24)).alloc (.cells #[.slice a2 len2 cap2, .int .i64 now2] 24)) (w.heap.size + 1) [.slice a2 len2 cap2, .int .i64 now2]) := (by
    have h := boxR_new (w.alloc (.cells #[.slice a len cap, .int .i64 now] 24)) [.slice a2 len2 cap2, .int .i64 now2] 24
    simp only [World.size_alloc] at h
    exact h)
  go_enter Try.func7, Try.ntmps7
  go_upto_region 1 with fail
  generalize ((w.alloc (.cells #[.slice a len cap, .int .i64 now] 24)).alloc (.cells #[.slice a2 len2 cap2, .int .i64 now2] 24)) = w0 at HB HL0 HL1 ⊢
  obtain ⟨X, hX⟩ : ∃ X, X = w.heap.size := ⟨_, rfl⟩
  have HXw : Hid (X = w.heap.size) := hX
  rw [← hX] at HL0 HL1 ⊢
  clear hX
  have t0_0 : w0.cell? ⟨X, 0, none⟩ = some (.slice a len cap) := HL0.out.at0 0 _ rfl
  have t0_1 : w0.cell? ⟨X, 1, none⟩ = some (.int .i64 now) := HL0.out.at0 1 _ rfl
  have t1_0 : w0.cell? ⟨X + 1, 0, none⟩ = some (.slice a2 len2 cap2) := HL1.out.at0 0 _ rfl
  have t1_1 : w0.cell? ⟨X + 1, 1, none⟩ = some (.int .i64 now2) := HL1.out.at0 1 _ rfl
  go_wp2_with fail
  refine (szTree_any a len cap l now 1048576 (by omega) (by omega) hm HF0.out _ (HI0.out.below HB.out)).mono ?_
  rintro e w1 ⟨⟨v0, rfl, hv⟩, hb⟩
  replace HB : Hid (Below w.heap.size w w1) := Below.on HB.out hb
  replace HL0 : Hid (BoxR w1 (X) [.slice a len cap, .int .i64 now]) := HL0.out.below hb
  replace HL1 : Hid (BoxR w1 (X + 1) [.slice a2 len2 cap2, .int .i64 now2]) := HL1.out.below hb
  replace t0_0 : w1.cell? ⟨X, 0, none⟩ = some (.slice a len cap) := HL0.out.at0 0 _ rfl
  replace t0_1 : w1.cell? ⟨X, 1, none⟩ = some (.int .i64 now) := HL0.out.at0 1 _ rfl
  replace t1_0 : w1.cell? ⟨X + 1, 0, none⟩ = some (.slice a2 len2 cap2) := HL1.out.at0 0 _ rfl
  replace t1_1 : w1.cell? ⟨X + 1, 1, none⟩ = some (.int .i64 now2) := HL1.out.at0 1 _ rfl
  clear hb
  rcases hv with rfl | ⟨v00, v01, hl0, hsm⟩
  · go_wp2
    go_ret
    exact ⟨rfl, HB.out⟩
  have d0 : decide (v0 < 0) = false := by simp; omega
  have HS0 : Hid (∀ i, i < len → NdFit 1048576 (ndAt l i)) := hsm
  clear hsm HF0
  go_wp2_with fail
  refine (szTree_any a2 len2 cap2 l2 now2 v0 (by omega) (by omega) hm2 HF1.out _ (HI1.out.below HB.out)).mono ?_
  rintro e w1 ⟨⟨v1, rfl, hv⟩, hb⟩
  replace HB : Hid (Below w.heap.size w w1) := Below.on HB.out hb
  replace HL0 : Hid (BoxR w1 (X) [.slice a len cap, .int .i64 now]) := HL0.out.below hb
  replace HL1 : Hid (BoxR w1 (X + 1) [.slice a2 len2 cap2, .int .i64 now2]) := HL1.out.below hb
  replace t0_0 : w1.cell? ⟨X, 0, none⟩ = some (.slice a len cap) := HL0.out.at0 0 _ rfl
  replace t0_1 : w1.cell? ⟨X, 1, none⟩ = some (.int .i64 now) := HL0.out.at0 1 _ rfl
  replace t1_0 : w1.cell? ⟨X + 1, 0, none⟩ = some (.slice a2 len2 cap2) := HL1.out.at0 0 _ rfl
  replace t1_1 : w1.cell? ⟨X + 1, 1, none⟩ = some (.int .i64 now2) := HL1.out.at0 1 _ rfl
  clear hb
  rcases hv with rfl | ⟨v10, v11, hl1, hsm⟩
  · go_wp2
    go_ret
    exact ⟨rfl, HB.out⟩
  have d1 : decide (v1 < 0) = false := by simp; omega
  have HS1 : Hid (∀ i, i < len2 → NdFit 1048576 (ndAt l2 i)) := hsm
  clear hsm HF1
  go_upto_region 8 with fail
  go_cut [6] (fun t wx => t = .bool (smO l now l2 now2) ∧ Hid (Below w.heap.size w wx) ∧ Hid (BoxR wx (X) [.slice a len cap, .int .i64 now]) ∧ Hid (BoxR wx (X + 1) [.slice a2 len2 cap2, .int .i64 now2]))
  case first =>
    go_region_held3 (fun w' => w'.cell? ⟨X, 0, none⟩ = some (.slice a len cap) ∧ w'.cell? ⟨X, 1, none⟩ = some (.int .i64 now) ∧ w'.cell? ⟨X + 1, 0, none⟩ = some (.slice a2 len2 cap2) ∧ w'.cell? ⟨X + 1, 1, none⟩ = some (.int .i64 now2)) (go_keep)
      (first
        | (go_at_call 22; refine Calls.mono (sSameTree_any _ _ len len len2 len2 l now l2 now2 hm HS0.out hm2 HS1.out _ HO0.out.nds HO1.out.nds) ?_; rintro e w9 ⟨rfl, hb⟩; replace HB : Hid (Below w.heap.size w w9) := Below.on HB.out hb; replace HL0 : Hid (BoxR w9 (X) [.slice a len cap, .int .i64 now]) := HL0.out.below hb; replace HL1 : Hid (BoxR w9 (X + 1) [.slice a2 len2 cap2, .int .i64 now2]) := HL1.out.below hb; replace t0_0 : w9.cell? ⟨X, 0, none⟩ = some (.slice a len cap) := HL0.out.at0 0 _ rfl; replace t0_1 : w9.cell? ⟨X, 1, none⟩ = some (.int .i64 now) := HL0.out.at0 1 _ rfl; replace t1_0 : w9.cell? ⟨X + 1, 0, none⟩ = some (.slice a2 len2 cap2) := HL1.out.at0 0 _ rfl; replace t1_1 : w9.cell? ⟨X + 1, 1, none⟩ = some (.int .i64 now2) := HL1.out.at0 1 _ rfl; clear hb)
        | (go_at_call_of 10 (Value.slice a len cap); refine Calls.mono (toTree_any a len cap l now hl0 HS0.out _ ?hs) ?_; (case hs => (first | exact HI0.out.below HB.out | exact HI0.out.below (below_drewT HB.out))); rintro e w7 ⟨B0, rfl, hO, hb7⟩; (try (replace HO1 : Hid _ := HO1.out.below ⟨hb7.os, hb7.tape, hb7.output, hb7.size, hb7.block⟩)); replace HB : Hid (Below w.heap.size w w7) := Below.on HB.out ⟨hb7.os, hb7.tape, hb7.output, hb7.size, hb7.block⟩; replace HL0 : Hid (BoxR w7 (X) [.slice a len cap, .int .i64 now]) := HL0.out.below ⟨hb7.os, hb7.tape, hb7.output, hb7.size, hb7.block⟩; replace HL1 : Hid (BoxR w7 (X + 1) [.slice a2 len2 cap2, .int .i64 now2]) := HL1.out.below ⟨hb7.os, hb7.tape, hb7.output, hb7.size, hb7.block⟩; replace t0_0 : w7.cell? ⟨X, 0, none⟩ = some (.slice a len cap) := HL0.out.at0 0 _ rfl; replace t0_1 : w7.cell? ⟨X, 1, none⟩ = some (.int .i64 now) := HL0.out.at0 1 _ rfl; replace t1_0 : w7.cell? ⟨X + 1, 0, none⟩ = some (.slice a2 len2 cap2) := HL1.out.at0 0 _ rfl; replace t1_1 : w7.cell? ⟨X + 1, 1, none⟩ = some (.int .i64 now2) := HL1.out.at0 1 _ rfl; have HO0 : Hid (OwnN w7 B0 l len) := hO; clear hO hb7)
        | (go_at_call_of 10 (Value.slice a2 len2 cap2); refine Calls.mono (toTree_any a2 len2 cap2 l2 now2 hl1 HS1.out _ ?hs) ?_; (case hs => (first | exact HI1.out.below HB.out | exact HI1.out.below (below_drewT HB.out))); rintro e w7 ⟨B1, rfl, hO, hb7⟩; (try (replace HO0 : Hid _ := HO0.out.below ⟨hb7.os, hb7.tape, hb7.output, hb7.size, hb7.block⟩)); replace HB : Hid (Below w.heap.size w w7) := Below.on HB.out ⟨hb7.os, hb7.tape, hb7.output, hb7.size, hb7.block⟩; replace HL0 : Hid (BoxR w7 (X) [.slice a len cap, .int .i64 now]) := HL0.out.below ⟨hb7.os, hb7.tape, hb7.output, hb7.size, hb7.block⟩; replace HL1 : Hid (BoxR w7 (X + 1) [.slice a2 len2 cap2, .int .i64 now2]) := HL1.out.below ⟨hb7.os, hb7.tape, hb7.output, hb7.size, hb7.block⟩; replace t0_0 : w7.cell? ⟨X, 0, none⟩ = some (.slice a len cap) := HL0.out.at0 0 _ rfl; replace t0_1 : w7.cell? ⟨X, 1, none⟩ = some (.int .i64 now) := HL0.out.at0 1 _ rfl; replace t1_0 : w7.cell? ⟨X + 1, 0, none⟩ = some (.slice a2 len2 cap2) := HL1.out.at0 0 _ rfl; replace t1_1 : w7.cell? ⟨X + 1, 1, none⟩ = some (.int .i64 now2) := HL1.out.at0 1 _ rfl; have HO1 : Hid (OwnN w7 B1 l2 len2) := hO; clear hO hb7))
    all_goals go_wp2
    all_goals go_meet
    all_goals exact ⟨rfl, HB, HL0, HL1⟩
  case rest =>
  obtain ⟨rfl, HBx, HL0x, HL1x⟩ := hcut
  obtain ⟨wp, hwp⟩ : ∃ wp, wp = wc := ⟨_, rfl⟩
  subst hwp
  clear HB HL0 HL1 t0_0 t0_1 t1_0 t1_1
  have HB : Hid (Below w.heap.size w wp) := HBx
  have HL0 : Hid (BoxR wp (X) [.slice a len cap, .int .i64 now]) := HL0x
  have HL1 : Hid (BoxR wp (X + 1) [.slice a2 len2 cap2, .int .i64 now2]) := HL1x
  clear HBx HL0x HL1x
  have t0_0 : wp.cell? ⟨X, 0, none⟩ = some (.slice a len cap) := HL0.out.at0 0 _ rfl
  have t0_1 : wp.cell? ⟨X, 1, none⟩ = some (.int .i64 now) := HL0.out.at0 1 _ rfl
  have t1_0 : wp.cell? ⟨X + 1, 0, none⟩ = some (.slice a2 len2 cap2) := HL1.out.at0 0 _ rfl
  have t1_1 : wp.cell? ⟨X + 1, 1, none⟩ = some (.int .i64 now2) := HL1.out.at0 1 _ rfl
  go_wp2_with fail
  refine (toTree_any a len cap l now hl0 HS0.out _ (HI0.out.below HB.out)).mono ?_
  rintro e w7 ⟨E0, rfl, hO, hb7⟩
  replace HB : Hid (Below w.heap.size w w7) := Below.on HB.out hb7
  replace HL0 : Hid (BoxR w7 (X) [.slice a len cap, .int .i64 now]) := HL0.out.below hb7
  replace HL1 : Hid (BoxR w7 (X + 1) [.slice a2 len2 cap2, .int .i64 now2]) := HL1.out.below hb7
  replace t0_0 : w7.cell? ⟨X, 0, none⟩ = some (.slice a len cap) := HL0.out.at0 0 _ rfl
  replace t0_1 : w7.cell? ⟨X, 1, none⟩ = some (.int .i64 now) := HL0.out.at0 1 _ rfl
  replace t1_0 : w7.cell? ⟨X + 1, 0, none⟩ = some (.slice a2 len2 cap2) := HL1.out.at0 0 _ rfl
  replace t1_1 : w7.cell? ⟨X + 1, 1, none⟩ = some (.int .i64 now2) := HL1.out.at0 1 _ rfl
  have hbN : Below w7.heap.size w7 (w7.alloc (.cells #[.slice (some ⟨E0, 0, none⟩) len len, .int .i64 now] 29)) := bel_alloc _ _
  have HY0 : Hid (BoxR (w7.alloc (.cells #[.slice (some ⟨E0, 0, none⟩) len len, .int .i64 now] 29)) w7.heap.size [.slice (some ⟨E0, 0, none⟩) len len, .int .i64 now]) := boxR_new _ _ _
  have HP0 : Hid (OwnN (w7.alloc (.cells #[.slice (some ⟨E0, 0, none⟩) len len, .int .i64 now] 29)) E0 l len) := hO.below hbN
  clear t0_0 t0_1 t1_0 t1_1
  replace HB : Hid (Below w.heap.size w (w7.alloc (.cells #[.slice (some ⟨E0, 0, none⟩) len len, .int .i64 now] 29))) := Below.on HB.out hbN
  replace HL0 : Hid (BoxR (w7.alloc (.cells #[.slice (some ⟨E0, 0, none⟩) len len, .int .i64 now] 29)) (X) [.slice a len cap, .int .i64 now]) := HL0.out.below hbN
  replace HL1 : Hid (BoxR (w7.alloc (.cells #[.slice (some ⟨E0, 0, none⟩) len len, .int .i64 now] 29)) (X + 1) [.slice a2 len2 cap2, .int .i64 now2]) := HL1.out.below hbN
  clear hbN hb7 hO
  go_upto_region 10 with fail
  generalize (w7.alloc (.cells #[.slice (some ⟨E0, 0, none⟩) len len, .int .i64 now] 29)) = w8 at HB HL0 HL1 HY0 HP0 ⊢
  generalize w7.heap.size = Y0 at HY0 ⊢
  have t0_0 : w8.cell? ⟨X, 0, none⟩ = some (.slice a len cap) := HL0.out.at0 0 _ rfl
  have t0_1 : w8.cell? ⟨X, 1, none⟩ = some (.int .i64 now) := HL0.out.at0 1 _ rfl
  have t1_0 : w8.cell? ⟨X + 1, 0, none⟩ = some (.slice a2 len2 cap2) := HL1.out.at0 0 _ rfl
  have t1_1 : w8.cell? ⟨X + 1, 1, none⟩ = some (.int .i64 now2) := HL1.out.at0 1 _ rfl
  go_wp2_with fail
  refine (toTree_any a2 len2 cap2 l2 now2 hl1 HS1.out _ (HI1.out.below HB.out)).mono ?_
  rintro e w7 ⟨E1, rfl, hO, hb7⟩
  replace HB : Hid (Below w.heap.size w w7) := Below.on HB.out hb7
  replace HL0 : Hid (BoxR w7 (X) [.slice a len cap, .int .i64 now]) := HL0.out.below hb7
  replace HL1 : Hid (BoxR w7 (X + 1) [.slice a2 len2 cap2, .int .i64 now2]) := HL1.out.below hb7
  replace HY0 : Hid (BoxR w7 Y0 [.slice (some ⟨E0, 0, none⟩) len len, .int .i64 now]) := HY0.out.below hb7
  replace HP0 : Hid (OwnN w7 E0 l len) := HP0.out.below hb7
  replace t0_0 : w7.cell? ⟨X, 0, none⟩ = some (.slice a len cap) := HL0.out.at0 0 _ rfl
  replace t0_1 : w7.cell? ⟨X, 1, none⟩ = some (.int .i64 now) := HL0.out.at0 1 _ rfl
  replace t1_0 : w7.cell? ⟨X + 1, 0, none⟩ = some (.slice a2 len2 cap2) := HL1.out.at0 0 _ rfl
  replace t1_1 : w7.cell? ⟨X + 1, 1, none⟩ = some (.int .i64 now2) := HL1.out.at0 1 _ rfl
  have hbN : Below w7.heap.size w7 (w7.alloc (.cells #[.slice (some ⟨E1, 0, none⟩) len2 len2, .int .i64 now2] 29)) := bel_alloc _ _
  have HY1 : Hid (BoxR (w7.alloc (.cells #[.slice (some ⟨E1, 0, none⟩) len2 len2, .int .i64 now2] 29)) w7.heap.size [.slice (some ⟨E1, 0, none⟩) len2 len2, .int .i64 now2]) := boxR_new _ _ _
  have HP1 : Hid (OwnN (w7.alloc (.cells #[.slice (some ⟨E1, 0, none⟩) len2 len2, .int .i64 now2] 29)) E1 l2 len2) := hO.below hbN
  clear t0_0 t0_1 t1_0 t1_1
  replace HB : Hid (Below w.heap.size w (w7.alloc (.cells #[.slice (some ⟨E1, 0, none⟩) len2 len2, .int .i64 now2] 29))) := Below.on HB.out hbN
  replace HL0 : Hid (BoxR (w7.alloc (.cells #[.slice (some ⟨E1, 0, none⟩) len2 len2, .int .i64 now2] 29)) (X) [.slice a len cap, .int .i64 now]) := HL0.out.below hbN
  replace HL1 : Hid (BoxR (w7.alloc (.cells #[.slice (some ⟨E1, 0, none⟩) len2 len2, .int .i64 now2] 29)) (X + 1) [.slice a2 len2 cap2, .int .i64 now2]) := HL1.out.below hbN
  replace HY0 : Hid (BoxR (w7.alloc (.cells #[.slice (some ⟨E1, 0, none⟩) len2 len2, .int .i64 now2] 29)) Y0 [.slice (some ⟨E0, 0, none⟩) len len, .int .i64 now]) := HY0.out.below hbN
  replace HP0 : Hid (OwnN (w7.alloc (.cells #[.slice (some ⟨E1, 0, none⟩) len2 len2, .int .i64 now2] 29)) E0 l len) := HP0.out.below hbN
  clear hbN hb7 hO
  go_upto_region 11 with fail
  generalize (w7.alloc (.cells #[.slice (some ⟨E1, 0, none⟩) len2 len2, .int .i64 now2] 29)) = w8 at HB HL0 HL1 HY0 HP0 HY1 HP1 ⊢
  generalize w7.heap.size = Y1 at HY1 ⊢
  have t0_0 : w8.cell? ⟨X, 0, none⟩ = some (.slice a len cap) := HL0.out.at0 0 _ rfl
  have t0_1 : w8.cell? ⟨X, 1, none⟩ = some (.int .i64 now) := HL0.out.at0 1 _ rfl
  have t1_0 : w8.cell? ⟨X + 1, 0, none⟩ = some (.slice a2 len2 cap2) := HL1.out.at0 0 _ rfl
  have t1_1 : w8.cell? ⟨X + 1, 1, none⟩ = some (.int .i64 now2) := HL1.out.at0 1 _ rfl
  have y0_0 : w8.cell? ⟨Y0, 0, none⟩ = some (.slice (some ⟨E0, 0, none⟩) len len) := HY0.out.at0 0 _ rfl
  have y0_1 : w8.cell? ⟨Y0, 1, none⟩ = some (.int .i64 now) := HY0.out.at0 1 _ rfl
  have y1_0 : w8.cell? ⟨Y1, 0, none⟩ = some (.slice (some ⟨E1, 0, none⟩) len2 len2) := HY1.out.at0 0 _ rfl
  have y1_1 : w8.cell? ⟨Y1, 1, none⟩ = some (.int .i64 now2) := HY1.out.at0 1 _ rfl
  go_wp2_with fail
  refine (iSameTree_any _ _ len len len2 len2 l now l2 now2 hm HS0.out hm2 HS1.out _ HP0.out.nds HP1.out.nds).mono ?_
  rintro e w9 ⟨rfl, hb⟩
  replace HB : Hid (Below w.heap.size w w9) := Below.on HB.out hb
  replace HL0 : Hid (BoxR w9 (X) [.slice a len cap, .int .i64 now]) := HL0.out.below hb
  replace HL1 : Hid (BoxR w9 (X + 1) [.slice a2 len2 cap2, .int .i64 now2]) := HL1.out.below hb
  replace HY0 : Hid (BoxR w9 Y0 [.slice (some ⟨E0, 0, none⟩) len len, .int .i64 now]) := HY0.out.below hb
  replace HY1 : Hid (BoxR w9 Y1 [.slice (some ⟨E1, 0, none⟩) len2 len2, .int .i64 now2]) := HY1.out.below hb
  replace HP0 : Hid (OwnN w9 E0 l len) := HP0.out.below hb
  replace HP1 : Hid (OwnN w9 E1 l2 len2) := HP1.out.below hb
  replace t0_0 : w9.cell? ⟨X, 0, none⟩ = some (.slice a len cap) := HL0.out.at0 0 _ rfl
  replace t0_1 : w9.cell? ⟨X, 1, none⟩ = some (.int .i64 now) := HL0.out.at0 1 _ rfl
  replace t1_0 : w9.cell? ⟨X + 1, 0, none⟩ = some (.slice a2 len2 cap2) := HL1.out.at0 0 _ rfl
  replace t1_1 : w9.cell? ⟨X + 1, 1, none⟩ = some (.int .i64 now2) := HL1.out.at0 1 _ rfl
  replace y0_0 : w9.cell? ⟨Y0, 0, none⟩ = some (.slice (some ⟨E0, 0, none⟩) len len) := HY0.out.at0 0 _ rfl
  replace y0_1 : w9.cell? ⟨Y0, 1, none⟩ = some (.int .i64 now) := HY0.out.at0 1 _ rfl
  replace y1_0 : w9.cell? ⟨Y1, 0, none⟩ = some (.slice (some ⟨E1, 0, none⟩) len2 len2) := HY1.out.at0 0 _ rfl
  replace y1_1 : w9.cell? ⟨Y1, 1, none⟩ = some (.int .i64 now2) := HY1.out.at0 1 _ rfl
  clear hb
  generalize smO l now l2 now2 = cb
  have hbb : (cb != cb) = false := by simp
  go_upto_region 14 with fail
  go_cut [39] (fun t wx => t = .bool false ∧ Hid (Below w.heap.size w wx) ∧ Hid (BoxR wx (X) [.slice a len cap, .int .i64 now]) ∧ Hid (BoxR wx (X + 1) [.slice a2 len2 cap2, .int .i64 now2]) ∧ Hid (BoxR wx Y0 [.slice (some ⟨E0, 0, none⟩) len len, .int .i64 now]) ∧ Hid (BoxR wx Y1 [.slice (some ⟨E1, 0, none⟩) len2 len2, .int .i64 now2]) ∧ Hid (OwnN wx E0 l len) ∧ Hid (OwnN wx E1 l2 len2))
  case first =>
    go_region_held3 (fun w' => w'.cell? ⟨Y0, 0, none⟩ = some (.slice (some ⟨E0, 0, none⟩) len len) ∧ w'.cell? ⟨Y0, 1, none⟩ = some (.int .i64 now) ∧ w'.cell? ⟨X, 0, none⟩ = some (.slice a len cap) ∧ w'.cell? ⟨X, 1, none⟩ = some (.int .i64 now)) (go_keep)
      (first
        | (go_at_call 12; refine Calls.mono (eqTree_any _ _ len len len l now hl0 HS0.out _ HP0.out.nds HQ.out.nds) ?_; rintro e w9 ⟨rfl, hb⟩; replace HB : Hid (Below w.heap.size w w9) := Below.on HB.out hb; replace HL0 : Hid (BoxR w9 (X) [.slice a len cap, .int .i64 now]) := HL0.out.below hb; replace HL1 : Hid (BoxR w9 (X + 1) [.slice a2 len2 cap2, .int .i64 now2]) := HL1.out.below hb; replace HY0 : Hid (BoxR w9 Y0 [.slice (some ⟨E0, 0, none⟩) len len, .int .i64 now]) := HY0.out.below hb; replace HY1 : Hid (BoxR w9 Y1 [.slice (some ⟨E1, 0, none⟩) len2 len2, .int .i64 now2]) := HY1.out.below hb; replace HP0 : Hid (OwnN w9 E0 l len) := HP0.out.below hb; replace HP1 : Hid (OwnN w9 E1 l2 len2) := HP1.out.below hb; replace t0_0 : w9.cell? ⟨X, 0, none⟩ = some (.slice a len cap) := HL0.out.at0 0 _ rfl; replace t0_1 : w9.cell? ⟨X, 1, none⟩ = some (.int .i64 now) := HL0.out.at0 1 _ rfl; replace t1_0 : w9.cell? ⟨X + 1, 0, none⟩ = some (.slice a2 len2 cap2) := HL1.out.at0 0 _ rfl; replace t1_1 : w9.cell? ⟨X + 1, 1, none⟩ = some (.int .i64 now2) := HL1.out.at0 1 _ rfl; replace y0_0 : w9.cell? ⟨Y0, 0, none⟩ = some (.slice (some ⟨E0, 0, none⟩) len len) := HY0.out.at0 0 _ rfl; replace y0_1 : w9.cell? ⟨Y0, 1, none⟩ = some (.int .i64 now) := HY0.out.at0 1 _ rfl; replace y1_0 : w9.cell? ⟨Y1, 0, none⟩ = some (.slice (some ⟨E1, 0, none⟩) len2 len2) := HY1.out.at0 0 _ rfl; replace y1_1 : w9.cell? ⟨Y1, 1, none⟩ = some (.int .i64 now2) := HY1.out.at0 1 _ rfl; clear hb HQ)
        | (go_at_call 10; refine Calls.mono (toTree_any a len cap l now hl0 HS0.out _ ?hs) ?_; (case hs => (first | exact HI0.out.below HB.out | exact HI0.out.below (below_drewT HB.out))); rintro e w7 ⟨Q, rfl, hO, hb7⟩; replace HB : Hid (Below w.heap.size w w7) := Below.on HB.out ⟨hb7.os, hb7.tape, hb7.output, hb7.size, hb7.block⟩; replace HL0 : Hid (BoxR w7 (X) [.slice a len cap, .int .i64 now]) := HL0.out.below ⟨hb7.os, hb7.tape, hb7.output, hb7.size, hb7.block⟩; replace HL1 : Hid (BoxR w7 (X + 1) [.slice a2 len2 cap2, .int .i64 now2]) := HL1.out.below ⟨hb7.os, hb7.tape, hb7.output, hb7.size, hb7.block⟩; replace HY0 : Hid (BoxR w7 Y0 [.slice (some ⟨E0, 0, none⟩) len len, .int .i64 now]) := HY0.out.below ⟨hb7.os, hb7.tape, hb7.output, hb7.size, hb7.block⟩; replace HY1 : Hid (BoxR w7 Y1 [.slice (some ⟨E1, 0, none⟩) len2 len2, .int .i64 now2]) := HY1.out.below ⟨hb7.os, hb7.tape, hb7.output, hb7.size, hb7.block⟩; replace HP0 : Hid (OwnN w7 E0 l len) := HP0.out.below ⟨hb7.os, hb7.tape, hb7.output, hb7.size, hb7.block⟩; replace HP1 : Hid (OwnN w7 E1 l2 len2) := HP1.out.below ⟨hb7.os, hb7.tape, hb7.output, hb7.size, hb7.block⟩; replace t0_0 : w7.cell? ⟨X, 0, none⟩ = some (.slice a len cap) := HL0.out.at0 0 _ rfl; replace t0_1 : w7.cell? ⟨X, 1, none⟩ = some (.int .i64 now) := HL0.out.at0 1 _ rfl; replace t1_0 : w7.cell? ⟨X + 1, 0, none⟩ = some (.slice a2 len2 cap2) := HL1.out.at0 0 _ rfl; replace t1_1 : w7.cell? ⟨X + 1, 1, none⟩ = some (.int .i64 now2) := HL1.out.at0 1 _ rfl; replace y0_0 : w7.cell? ⟨Y0, 0, none⟩ = some (.slice (some ⟨E0, 0, none⟩) len len) := HY0.out.at0 0 _ rfl; replace y0_1 : w7.cell? ⟨Y0, 1, none⟩ = some (.int .i64 now) := HY0.out.at0 1 _ rfl; replace y1_0 : w7.cell? ⟨Y1, 0, none⟩ = some (.slice (some ⟨E1, 0, none⟩) len2 len2) := HY1.out.at0 0 _ rfl; replace y1_1 : w7.cell? ⟨Y1, 1, none⟩ = some (.int .i64 now2) := HY1.out.at0 1 _ rfl; have HQ : Hid (OwnN w7 Q l len) := hO; clear hO hb7))
    all_goals go_wp2
    all_goals go_meet
    all_goals exact ⟨rfl, HB, HL0, HL1, HY0, HY1, HP0, HP1⟩
  case rest =>
  obtain ⟨rfl, HBx, HL0x, HL1x, HY0x, HY1x, HP0x, HP1x⟩ := hcut
  obtain ⟨wp, hwp⟩ : ∃ wp, wp = wc := ⟨_, rfl⟩
  subst hwp
  clear y0_0 y0_1 y1_0 y1_1 HB HL0 HL1 HY0 HY1 HP0 HP1 t0_0 t0_1 t1_0 t1_1
  have HB : Hid (Below w.heap.size w wp) := HBx
  have HL0 : Hid (BoxR wp (X) [.slice a len cap, .int .i64 now]) := HL0x
  have HL1 : Hid (BoxR wp (X + 1) [.slice a2 len2 cap2, .int .i64 now2]) := HL1x
  have HY0 : Hid (BoxR wp Y0 [.slice (some ⟨E0, 0, none⟩) len len, .int .i64 now]) := HY0x
  have HY1 : Hid (BoxR wp Y1 [.slice (some ⟨E1, 0, none⟩) len2 len2, .int .i64 now2]) := HY1x
  have HP0 : Hid (OwnN wp E0 l len) := HP0x
  have HP1 : Hid (OwnN wp E1 l2 len2) := HP1x
  clear HBx HL0x HL1x HY0x HY1x HP0x HP1x
  have t0_0 : wp.cell? ⟨X, 0, none⟩ = some (.slice a len cap) := HL0.out.at0 0 _ rfl
  have t0_1 : wp.cell? ⟨X, 1, none⟩ = some (.int .i64 now) := HL0.out.at0 1 _ rfl
  have t1_0 : wp.cell? ⟨X + 1, 0, none⟩ = some (.slice a2 len2 cap2) := HL1.out.at0 0 _ rfl
  have t1_1 : wp.cell? ⟨X + 1, 1, none⟩ = some (.int .i64 now2) := HL1.out.at0 1 _ rfl
  have y0_0 : wp.cell? ⟨Y0, 0, none⟩ = some (.slice (some ⟨E0, 0, none⟩) len len) := HY0.out.at0 0 _ rfl
  have y0_1 : wp.cell? ⟨Y0, 1, none⟩ = some (.int .i64 now) := HY0.out.at0 1 _ rfl
  have y1_0 : wp.cell? ⟨Y1, 0, none⟩ = some (.slice (some ⟨E1, 0, none⟩) len2 len2) := HY1.out.at0 0 _ rfl
  have y1_1 : wp.cell? ⟨Y1, 1, none⟩ = some (.int .i64 now2) := HY1.out.at0 1 _ rfl
  go_upto_region 16 with fail
  go_region_held3 (fun w' => w'.cell? ⟨Y1, 0, none⟩ = some (.slice (some ⟨E1, 0, none⟩) len2 len2) ∧ w'.cell? ⟨Y1, 1, none⟩ = some (.int .i64 now2) ∧ w'.cell? ⟨X + 1, 0, none⟩ = some (.slice a2 len2 cap2) ∧ w'.cell? ⟨X + 1, 1, none⟩ = some (.int .i64 now2)) (go_keep)
    (first
      | (go_at_call 12; refine Calls.mono (eqTree_any _ _ len2 len2 len2 l2 now2 hl1 HS1.out _ HP1.out.nds HQ.out.nds) ?_; rintro e w9 ⟨rfl, hb⟩; replace HB : Hid (Below w.heap.size w w9) := Below.on HB.out hb; replace HL0 : Hid (BoxR w9 (X) [.slice a len cap, .int .i64 now]) := HL0.out.below hb; replace HL1 : Hid (BoxR w9 (X + 1) [.slice a2 len2 cap2, .int .i64 now2]) := HL1.out.below hb; replace HY0 : Hid (BoxR w9 Y0 [.slice (some ⟨E0, 0, none⟩) len len, .int .i64 now]) := HY0.out.below hb; replace HY1 : Hid (BoxR w9 Y1 [.slice (some ⟨E1, 0, none⟩) len2 len2, .int .i64 now2]) := HY1.out.below hb; replace HP0 : Hid (OwnN w9 E0 l len) := HP0.out.below hb; replace HP1 : Hid (OwnN w9 E1 l2 len2) := HP1.out.below hb; replace t0_0 : w9.cell? ⟨X, 0, none⟩ = some (.slice a len cap) := HL0.out.at0 0 _ rfl; replace t0_1 : w9.cell? ⟨X, 1, none⟩ = some (.int .i64 now) := HL0.out.at0 1 _ rfl; replace t1_0 : w9.cell? ⟨X + 1, 0, none⟩ = some (.slice a2 len2 cap2) := HL1.out.at0 0 _ rfl; replace t1_1 : w9.cell? ⟨X + 1, 1, none⟩ = some (.int .i64 now2) := HL1.out.at0 1 _ rfl; replace y0_0 : w9.cell? ⟨Y0, 0, none⟩ = some (.slice (some ⟨E0, 0, none⟩) len len) := HY0.out.at0 0 _ rfl; replace y0_1 : w9.cell? ⟨Y0, 1, none⟩ = some (.int .i64 now) := HY0.out.at0 1 _ rfl; replace y1_0 : w9.cell? ⟨Y1, 0, none⟩ = some (.slice (some ⟨E1, 0, none⟩) len2 len2) := HY1.out.at0 0 _ rfl; replace y1_1 : w9.cell? ⟨Y1, 1, none⟩ = some (.int .i64 now2) := HY1.out.at0 1 _ rfl; clear hb HQ)
      | (go_at_call 10; refine Calls.mono (toTree_any a2 len2 cap2 l2 now2 hl1 HS1.out _ ?hs) ?_; (case hs => (first | exact HI1.out.below HB.out | exact HI1.out.below (below_drewT HB.out))); rintro e w7 ⟨Q, rfl, hO, hb7⟩; replace HB : Hid (Below w.heap.size w w7) := Below.on HB.out ⟨hb7.os, hb7.tape, hb7.output, hb7.size, hb7.block⟩; replace HL0 : Hid (BoxR w7 (X) [.slice a len cap, .int .i64 now]) := HL0.out.below ⟨hb7.os, hb7.tape, hb7.output, hb7.size, hb7.block⟩; replace HL1 : Hid (BoxR w7 (X + 1) [.slice a2 len2 cap2, .int .i64 now2]) := HL1.out.below ⟨hb7.os, hb7.tape, hb7.output, hb7.size, hb7.block⟩; replace HY0 : Hid (BoxR w7 Y0 [.slice (some ⟨E0, 0, none⟩) len len, .int .i64 now]) := HY0.out.below ⟨hb7.os, hb7.tape, hb7.output, hb7.size, hb7.block⟩; replace HY1 : Hid (BoxR w7 Y1 [.slice (some ⟨E1, 0, none⟩) len2 len2, .int .i64 now2]) := HY1.out.below ⟨hb7.os, hb7.tape, hb7.output, hb7.size, hb7.block⟩; replace HP0 : Hid (OwnN w7 E0 l len) := HP0.out.below ⟨hb7.os, hb7.tape, hb7.output, hb7.size, hb7.block⟩; replace HP1 : Hid (OwnN w7 E1 l2 len2) := HP1.out.below ⟨hb7.os, hb7.tape, hb7.output, hb7.size, hb7.block⟩; replace t0_0 : w7.cell? ⟨X, 0, none⟩ = some (.slice a len cap) := HL0.out.at0 0 _ rfl; replace t0_1 : w7.cell? ⟨X, 1, none⟩ = some (.int .i64 now) := HL0.out.at0 1 _ rfl; replace t1_0 : w7.cell? ⟨X + 1, 0, none⟩ = some (.slice a2 len2 cap2) := HL1.out.at0 0 _ rfl; replace t1_1 : w7.cell? ⟨X + 1, 1, none⟩ = some (.int .i64 now2) := HL1.out.at0 1 _ rfl; replace y0_0 : w7.cell? ⟨Y0, 0, none⟩ = some (.slice (some ⟨E0, 0, none⟩) len len) := HY0.out.at0 0 _ rfl; replace y0_1 : w7.cell? ⟨Y0, 1, none⟩ = some (.int .i64 now) := HY0.out.at0 1 _ rfl; replace y1_0 : w7.cell? ⟨Y1, 0, none⟩ = some (.slice (some ⟨E1, 0, none⟩) len2 len2) := HY1.out.at0 0 _ rfl; replace y1_1 : w7.cell? ⟨Y1, 1, none⟩ = some (.int .i64 now2) := HY1.out.at0 1 _ rfl; have HQ : Hid (OwnN w7 Q l2 len2) := hO; clear hO hb7))
  all_goals go_wp2
  all_goals go_ret
  all_goals exact ⟨rfl, HB.out⟩
end Go.Proofs.Ytcgkkeooigjbbaa
