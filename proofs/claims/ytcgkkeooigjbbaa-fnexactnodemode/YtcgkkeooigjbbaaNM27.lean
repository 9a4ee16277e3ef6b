/- Laid together: NodeModeLaw. -/
import Derived.Test.YtcgkkeooigjbbaaNM25
import Derived.Test.YtcgkkeooigjbbaaNM26
/- The law FnExactNodeMode. -/
namespace Go.Proofs.Ytcgkkeooigjbbaa
open Go.RowKit Go.PlainAid Go.Deep
set_option linter.unusedVariables false
set_option maxRecDepth 20000 in
set_option maxHeartbeats 8000000 in
theorem nodeMode_any (a : Option Addr) (len cap : Nat) (l : List Nd) (now n : Int) (hm : len ≤ 9223372036854775807) (hf : ∀ i, i < len → NdFit 9223372036854775807 (ndAt l i)) (w : World) (hi : Nds a len l w) :
    Calls Try.prog 4 #[.agg #[.slice a len cap, .int .i64 now], .int .i64 n] w fun e w' => e = .returned (.bool true) ∧ Below w.heap.size w w' := by
  have HI : Hid (Nds a len l w) := hi
  have HF : Hid (∀ i, i < len → NdFit 9223372036854775807 (ndAt l i)) := hf
  have HB : Hid (Below w.heap.size w (w.alloc (.cells #[.slice a len cap, .int .i64 now] 24))) := bel_alloc _ _
  have HX : Hid (BoxR (w.alloc (.cells #[.slice a len cap, .int .i64 now] 24)) w.heap.size [.slice a len cap, .int .i64 now]) := boxR_new _ _ _
  clear hi hf
  go_enter Try.func4, Try.ntmps4
  go_upto_region 1 with fail
  generalize w.alloc (.cells #[.slice a len cap, .int .i64 now] 24) = w0 at HB HX ⊢
  obtain ⟨X, hX⟩ : ∃ X, X = w.heap.size := ⟨_, rfl⟩
  rw [← hX] at HX ⊢
  clear hX
  have t0 : w0.cell? ⟨X, 0, none⟩ = some (.slice a len cap) := HX.out.at0 0 _ rfl
  have t1 : w0.cell? ⟨X, 1, none⟩ = some (.int .i64 now) := HX.out.at0 1 _ rfl
  go_wp2_with fail
  refine (szTree_any a len cap l now 1048576 (by omega) (by omega) hm HF.out _ (HI.out.below HB.out)).mono ?_
  rintro e w1 ⟨⟨v, rfl, hv⟩, hb⟩
  have HB1 : Hid (Below w.heap.size w w1) := Below.on HB.out hb
  have HX1 : Hid (BoxR w1 X [.slice a len cap, .int .i64 now]) := HX.out.below hb
  clear hb t0 t1 HB HX
  have t0 : w1.cell? ⟨X, 0, none⟩ = some (.slice a len cap) := HX1.out.at0 0 _ rfl
  have t1 : w1.cell? ⟨X, 1, none⟩ = some (.int .i64 now) := HX1.out.at0 1 _ rfl
  rcases hv with rfl | ⟨v0, v1, hl, hsm⟩
  · go_wp2
    go_ret
    exact ⟨rfl, HB1.out⟩
  have d1 : decide (v < 0) = false := by simp; omega
  have HS : Hid (∀ i, i < len → NdFit 1048576 (ndAt l i)) := hsm
  clear hsm HF
  go_wp2_with fail
  refine (toTree_any a len cap l now hl HS.out _ (HI.out.below HB1.out)).mono ?_
  rintro e w2 ⟨B2, rfl, hO, hb⟩
  have HB2 : Hid (Below w.heap.size w w2) := Below.on HB1.out hb
  have HX2 : Hid (BoxR w2 X [.slice a len cap, .int .i64 now]) := HX1.out.below hb
  clear hb t0 t1 HB1 HX1
  have t0 : w2.cell? ⟨X, 0, none⟩ = some (.slice a len cap) := HX2.out.at0 0 _ rfl
  have t1 : w2.cell? ⟨X, 1, none⟩ = some (.int .i64 now) := HX2.out.at0 1 _ rfl
  have HO : Hid (OwnN w2 B2 l len) := hO
  clear hO
  go_wp2_with fail
  refine (sNodeMode_any _ len len l now n hm HS.out _ HO.out.nds).mono ?_
  rintro e w3 ⟨rfl, hb⟩
  have HB3 : Hid (Below w.heap.size w w3) := Below.on HB2.out hb
  have HX3 : Hid (BoxR w3 X [.slice a len cap, .int .i64 now]) := HX2.out.below hb
  clear hb t0 t1 HB2 HX2
  have t0 : w3.cell? ⟨X, 0, none⟩ = some (.slice a len cap) := HX3.out.at0 0 _ rfl
  have t1 : w3.cell? ⟨X, 1, none⟩ = some (.int .i64 now) := HX3.out.at0 1 _ rfl
  clear HO
  go_wp2_with fail
  refine (toTree_any a len cap l now hl HS.out _ (HI.out.below HB3.out)).mono ?_
  rintro e w4 ⟨B4, rfl, hO, hb⟩
  have HB4 : Hid (Below w.heap.size w w4) := Below.on HB3.out hb
  have HX4 : Hid (BoxR w4 X [.slice a len cap, .int .i64 now]) := HX3.out.below hb
  clear hb t0 t1 HB3 HX3
  have t0 : w4.cell? ⟨X, 0, none⟩ = some (.slice a len cap) := HX4.out.at0 0 _ rfl
  have t1 : w4.cell? ⟨X, 1, none⟩ = some (.int .i64 now) := HX4.out.at0 1 _ rfl
  have hbN : Below w4.heap.size w4 (w4.alloc (.cells #[.slice (some ⟨B4, 0, none⟩) len len, .int .i64 now] 29)) := bel_alloc _ _
  have HB5 : Hid (Below w.heap.size w (w4.alloc (.cells #[.slice (some ⟨B4, 0, none⟩) len len, .int .i64 now] 29))) := Below.on HB4.out hbN
  have HX5 : Hid (BoxR (w4.alloc (.cells #[.slice (some ⟨B4, 0, none⟩) len len, .int .i64 now] 29)) X [.slice a len cap, .int .i64 now]) := HX4.out.below hbN
  have HY5 : Hid (BoxR (w4.alloc (.cells #[.slice (some ⟨B4, 0, none⟩) len len, .int .i64 now] 29)) w4.heap.size [.slice (some ⟨B4, 0, none⟩) len len, .int .i64 now]) := boxR_new _ _ _
  have HO5 : Hid (OwnN (w4.alloc (.cells #[.slice (some ⟨B4, 0, none⟩) len len, .int .i64 now] 29)) B4 l len) := hO.below hbN
  clear hO hbN
  go_upto_region 7 with fail
  generalize (w4.alloc (.cells #[.slice (some ⟨B4, 0, none⟩) len len, .int .i64 now] 29)) = w5 at HB5 HX5 HY5 HO5 ⊢
  generalize w4.heap.size = Y at HY5 ⊢
  clear t0 t1
  have t0 : w5.cell? ⟨Y, 0, none⟩ = some (.slice (some ⟨B4, 0, none⟩) len len) := HY5.out.at0 0 _ rfl
  have t1 : w5.cell? ⟨Y, 1, none⟩ = some (.int .i64 now) := HY5.out.at0 1 _ rfl
  go_wp2_with fail
  refine (iNodeMode_any _ len len l now n hm HS.out _ HO5.out.nds).mono ?_
  rintro e w6 ⟨rfl, hb⟩
  have HB6 : Hid (Below w.heap.size w w6) := Below.on HB5.out hb
  have HX6 : Hid (BoxR w6 X [.slice a len cap, .int .i64 now]) := HX5.out.below hb
  have HY6 : Hid (BoxR w6 Y [.slice (some ⟨B4, 0, none⟩) len len, .int .i64 now]) := HY5.out.below hb
  have HO6 : Hid (OwnN w6 B4 l len) := HO5.out.below hb
  clear hb t0 t1 HB5 HX5 HY5 HO5
  generalize mdO l now n = cb
  have hbb : (cb != cb) = false := by simp
  have t0 : w6.cell? ⟨Y, 0, none⟩ = some (.slice (some ⟨B4, 0, none⟩) len len) := HY6.out.at0 0 _ rfl
  have t1 : w6.cell? ⟨Y, 1, none⟩ = some (.int .i64 now) := HY6.out.at0 1 _ rfl
  have s0 : w6.cell? ⟨X, 0, none⟩ = some (.slice a len cap) := HX6.out.at0 0 _ rfl
  have s1 : w6.cell? ⟨X, 1, none⟩ = some (.int .i64 now) := HX6.out.at0 1 _ rfl
  go_upto_region 10 with fail
  go_region_held3 (fun w' => w'.cell? ⟨Y, 0, none⟩ = some (.slice (some ⟨B4, 0, none⟩) len len) ∧ w'.cell? ⟨Y, 1, none⟩ = some (.int .i64 now) ∧ w'.cell? ⟨X, 0, none⟩ = some (.slice a len cap) ∧ w'.cell? ⟨X, 1, none⟩ = some (.int .i64 now)) (go_keep)
    (first
      | (go_at_call 12; refine Calls.mono (eqTree_any _ _ len len len l now hl HS.out _ HO7.out.nds HP7.out.nds) ?_; rintro e w8 ⟨rfl, hb8⟩; have HB8 : Hid (Below w.heap.size w w8) := Below.on HB7.out hb8; have HX8 : Hid (BoxR w8 X [.slice a len cap, .int .i64 now]) := HX7.out.below hb8; have HY8 : Hid (BoxR w8 Y [.slice (some ⟨B4, 0, none⟩) len len, .int .i64 now]) := HY7.out.below hb8; clear hb8; have q0 : w8.cell? ⟨Y, 0, none⟩ = some (.slice (some ⟨B4, 0, none⟩) len len) := HY8.out.at0 0 _ rfl; have q1 : w8.cell? ⟨Y, 1, none⟩ = some (.int .i64 now) := HY8.out.at0 1 _ rfl; have q2 : w8.cell? ⟨X, 0, none⟩ = some (.slice a len cap) := HX8.out.at0 0 _ rfl; have q3 : w8.cell? ⟨X, 1, none⟩ = some (.int .i64 now) := HX8.out.at0 1 _ rfl)
      | (go_at_call 10; refine Calls.mono (toTree_any a len cap l now hl HS.out _ ?hs) ?_; (case hs => (first | exact HI.out.below HB6.out | exact HI.out.below (below_drewT HB6.out))); rintro e w7 ⟨B7, rfl, hO7, hb7⟩; have hb6 : Below w6.heap.size w6 w7 := ⟨hb7.os, hb7.tape, hb7.output, hb7.size, hb7.block⟩; have HB7 : Hid (Below w.heap.size w w7) := Below.on HB6.out hb6; have HX7 : Hid (BoxR w7 X [.slice a len cap, .int .i64 now]) := HX6.out.below hb6; have HY7 : Hid (BoxR w7 Y [.slice (some ⟨B4, 0, none⟩) len len, .int .i64 now]) := HY6.out.below hb6; have HO7 : Hid (OwnN w7 B4 l len) := HO6.out.below hb6; have HP7 : Hid (OwnN w7 B7 l len) := hO7; clear hb7 hb6 hO7; have p0 : w7.cell? ⟨Y, 0, none⟩ = some (.slice (some ⟨B4, 0, none⟩) len len) := HY7.out.at0 0 _ rfl; have p1 : w7.cell? ⟨Y, 1, none⟩ = some (.int .i64 now) := HY7.out.at0 1 _ rfl; have p2 : w7.cell? ⟨X, 0, none⟩ = some (.slice a len cap) := HX7.out.at0 0 _ rfl; have p3 : w7.cell? ⟨X, 1, none⟩ = some (.int .i64 now) := HX7.out.at0 1 _ rfl))
  all_goals go_wp2
  all_goals go_ret
  all_goals exact ⟨rfl, HB8.out⟩
end Go.Proofs.Ytcgkkeooigjbbaa
