/- Laid together: AccessLaw. -/
import Derived.Test.YtdgejnaceeoooaaGreatDoorBA46
import Derived.Test.YtdgejnaceeoooaaGreatDoorBA11
import Derived.Test.YtdgejnaceeoooaaGreatDoorBA4
import Derived.Test.YtdgejnaceeoooaaGreatDoorBA33
import Derived.Deep.DeepCutAuto
import Derived.Deep.RegionHeld3
/- The law FnExactAccess. -/
namespace Go.Proofs.YtdgejnaceeoooaaGreatDoor
open Go.RowKit Go.PlainAid Go.Deep
set_option linter.unusedVariables false
set_option maxRecDepth 20000 in
set_option maxHeartbeats 8000000 in
theorem access_any (a : Option Addr) (len cap : Nat) (l : List Nd) (now : Int) (u g : Int) (ca : Option Addr) (cl cc : Nat) (r : Bool) (cf : Nat → Int) (s : ByteArray) (want : Int) (m : Int) (e1 e2 e3 e4 : Addr) (hm : len ≤ 9223372036854775807) (hf : ∀ i, i < len → NdFit 9223372036854775807 (ndAt l i)) (hmc : cl ≤ 9223372036854775807) (hsxs : s.size ≤ 9223372036854775807) (w : World) (hi : Nds a len l w) (hci : Ints ca cl cf w) (hmx : w.cell? ⟨4, 0, none⟩ = some (.int .i64 m)) (hE : Errs w e1 e2 e3 e4) :
    Calls Tryz.prog 5 #[.agg #[.slice a len cap, .int .i64 now], .agg #[.int .i64 u, .int .i64 g, .slice ca cl cc, .bool r], .string s, .int .i64 want] w fun e w' => e = .returned (.bool true) ∧ Below w.heap.size w w' := by
  have HI0 : Hid (Nds a len l w) := hi
  have HF0 : Hid (∀ i, i < len → NdFit 9223372036854775807 (ndAt l i)) := hf
  have HI1 : Hid (Ints ca cl cf w) := hci
  have HEr : Hid (Errs w e1 e2 e3 e4) := hE
  have HMx : Hid (w.cell? ⟨4, 0, none⟩ = some (.int .i64 m)) := hmx
  clear hi hf hci hE hmx
  have HB : Hid (Below w.heap.size w ((w.alloc (.cells #[.slice a len cap, .int .i64 now] 24)).alloc (.cells #[.int .i64 u, .int .i64 g, .slice ca cl cc, .bool r] 27))) := bl2T _ _ _
  have HL0 : Hid (BoxR ((w.alloc (.cells #[.slice a len cap, .int .i64 now] 24)).alloc (.cells #[.int .i64 u, .int .i64 g, .slice ca cl cc, .bool r] 27)) w.heap.size [.slice a len cap, .int .i64 now]) := (boxR_new w [.slice a len cap, .int .i64 now] 24).below (bel_alloc _ _)
  have HL1 : Hid (BoxR ((w.alloc (.cells #[.slice a len cap, .int .i64 now] 24)).alloc (.cells #[.int .i64 u, .int .i64 g, .slice ca cl cc, .bool r] 27)) (w.heap.size + 1) [.int .i64 u, .int .i64 g, .slice ca cl cc, .bool r]) := (by
    have h := boxR_new (w.alloc (.cells #[.slice a len cap, .int .i64 now] 24)) [.int .i64 u, .int .i64 g, .slice ca cl cc, .bool r] 27
    simp only [World.size_alloc] at h
    exact h)
  go_enter Tryz.func5, Tryz.ntmps5
  go_upto_region 1 with fail
  generalize ((w.alloc (.cells #[.slice a len cap, .int .i64 now] 24)).alloc (.cells #[.int .i64 u, .int .i64 g, .slice ca cl cc, .bool r] 27)) = w0 at HB HL0 HL1 ⊢
  obtain ⟨X, hX⟩ : ∃ X, X = w.heap.size := ⟨_, rfl⟩
  have HXw : Hid (X = w.heap.size) := hX
  rw [← hX] at HL0 HL1 ⊢
  clear hX
  have t0_0 : w0.cell? ⟨X, 0, none⟩ = some (.slice a len cap) := HL0.out.at0 0 _ rfl
  have t0_1 : w0.cell? ⟨X, 1, none⟩ = some (.int .i64 now) := HL0.out.at0 1 _ rfl
  have t1_0 : w0.cell? ⟨X + 1, 0, none⟩ = some (.int .i64 u) := HL1.out.at0 0 _ rfl
  have t1_1 : w0.cell? ⟨X + 1, 1, none⟩ = some (.int .i64 g) := HL1.out.at0 1 _ rfl
  have t1_2 : w0.cell? ⟨X + 1, 2, none⟩ = some (.slice ca cl cc) := HL1.out.at0 2 _ rfl
  have t1_3 : w0.cell? ⟨X + 1, 3, none⟩ = some (.bool r) := HL1.out.at0 3 _ rfl
  by_cases hss : 1048576 < s.size
  · have hss' : (1048576 : Int) < (s.size : Int) := by omega
    go_wp2
    go_ret
    exact ⟨rfl, HB.out⟩
  have hss' : ¬ (1048576 : Int) < (s.size : Int) := by omega
  go_wp2_with fail
  refine (szTree_any a len cap l now 1048576 (by omega) (by omega) hm HF0.out _ (HI0.out.below HB.out)).mono ?_
  rintro e w1 ⟨⟨v0, rfl, hv⟩, hb⟩
  replace HB : Hid (Below w.heap.size w w1) := Below.on HB.out hb
  replace HL0 : Hid (BoxR w1 (X) [.slice a len cap, .int .i64 now]) := HL0.out.below hb
  replace HL1 : Hid (BoxR w1 (X + 1) [.int .i64 u, .int .i64 g, .slice ca cl cc, .bool r]) := HL1.out.below hb
  replace t0_0 : w1.cell? ⟨X, 0, none⟩ = some (.slice a len cap) := HL0.out.at0 0 _ rfl
  replace t0_1 : w1.cell? ⟨X, 1, none⟩ = some (.int .i64 now) := HL0.out.at0 1 _ rfl
  replace t1_0 : w1.cell? ⟨X + 1, 0, none⟩ = some (.int .i64 u) := HL1.out.at0 0 _ rfl
  replace t1_1 : w1.cell? ⟨X + 1, 1, none⟩ = some (.int .i64 g) := HL1.out.at0 1 _ rfl
  replace t1_2 : w1.cell? ⟨X + 1, 2, none⟩ = some (.slice ca cl cc) := HL1.out.at0 2 _ rfl
  replace t1_3 : w1.cell? ⟨X + 1, 3, none⟩ = some (.bool r) := HL1.out.at0 3 _ rfl
  clear hb
  rcases hv with rfl | ⟨v00, v01, hl0, hsm⟩
  · go_wp2
    go_ret
    exact ⟨rfl, HB.out⟩
  have d0 : decide (v0 < 0) = false := by simp; omega
  have HS0 : Hid (∀ i, i < len → NdFit 1048576 (ndAt l i)) := hsm
  clear hsm HF0
  by_cases hcs : v0 - (cl : Int) < 0
  · go_wp2_with fail
    refine (szCredN_long u g ca cl cc r v0 (by omega) (by omega) hcs hmc _).mono ?_
    rintro e w1 ⟨rfl, hb⟩
    replace HB : Hid (Below w.heap.size w w1) := Below.on HB.out hb
    replace HL0 : Hid (BoxR w1 (X) [.slice a len cap, .int .i64 now]) := HL0.out.below hb
    replace HL1 : Hid (BoxR w1 (X + 1) [.int .i64 u, .int .i64 g, .slice ca cl cc, .bool r]) := HL1.out.below hb
    replace t0_0 : w1.cell? ⟨X, 0, none⟩ = some (.slice a len cap) := HL0.out.at0 0 _ rfl
    replace t0_1 : w1.cell? ⟨X, 1, none⟩ = some (.int .i64 now) := HL0.out.at0 1 _ rfl
    replace t1_0 : w1.cell? ⟨X + 1, 0, none⟩ = some (.int .i64 u) := HL1.out.at0 0 _ rfl
    replace t1_1 : w1.cell? ⟨X + 1, 1, none⟩ = some (.int .i64 g) := HL1.out.at0 1 _ rfl
    replace t1_2 : w1.cell? ⟨X + 1, 2, none⟩ = some (.slice ca cl cc) := HL1.out.at0 2 _ rfl
    replace t1_3 : w1.cell? ⟨X + 1, 3, none⟩ = some (.bool r) := HL1.out.at0 3 _ rfl
    clear hb
    go_wp2
    go_ret
    exact ⟨rfl, HB.out⟩
  have d1 : decide (v0 - (cl : Int) < 0) = false := by simp; omega
  have hl1 : cl ≤ 1048576 := by omega
  go_wp2_with fail
  refine (szCredN_short u g ca cl cc r v0 (by omega) (by omega) (by omega) _).mono ?_
  rintro e w1 ⟨rfl, hb⟩
  replace HB : Hid (Below w.heap.size w w1) := Below.on HB.out hb
  replace HL0 : Hid (BoxR w1 (X) [.slice a len cap, .int .i64 now]) := HL0.out.below hb
  replace HL1 : Hid (BoxR w1 (X + 1) [.int .i64 u, .int .i64 g, .slice ca cl cc, .bool r]) := HL1.out.below hb
  replace t0_0 : w1.cell? ⟨X, 0, none⟩ = some (.slice a len cap) := HL0.out.at0 0 _ rfl
  replace t0_1 : w1.cell? ⟨X, 1, none⟩ = some (.int .i64 now) := HL0.out.at0 1 _ rfl
  replace t1_0 : w1.cell? ⟨X + 1, 0, none⟩ = some (.int .i64 u) := HL1.out.at0 0 _ rfl
  replace t1_1 : w1.cell? ⟨X + 1, 1, none⟩ = some (.int .i64 g) := HL1.out.at0 1 _ rfl
  replace t1_2 : w1.cell? ⟨X + 1, 2, none⟩ = some (.slice ca cl cc) := HL1.out.at0 2 _ rfl
  replace t1_3 : w1.cell? ⟨X + 1, 3, none⟩ = some (.bool r) := HL1.out.at0 3 _ rfl
  clear hb
  clear hcs
  go_upto_region 10 with fail
  go_cut [10] (fun t wx => t = .int .i64 (accC l now u g cl r cf s want) ∧ Hid (Below w.heap.size w wx) ∧ Hid (BoxR wx (X) [.slice a len cap, .int .i64 now]) ∧ Hid (BoxR wx (X + 1) [.int .i64 u, .int .i64 g, .slice ca cl cc, .bool r]))
  case first =>
    go_region_held3 (fun w' => w'.cell? ⟨X, 0, none⟩ = some (.slice a len cap) ∧ w'.cell? ⟨X, 1, none⟩ = some (.int .i64 now) ∧ w'.cell? ⟨X + 1, 0, none⟩ = some (.int .i64 u) ∧ w'.cell? ⟨X + 1, 1, none⟩ = some (.int .i64 g) ∧ w'.cell? ⟨X + 1, 2, none⟩ = some (.slice ca cl cc) ∧ w'.cell? ⟨X + 1, 3, none⟩ = some (.bool r)) (go_keep)
      (first
        | (go_at_call 19; refine Calls.mono (sAccess_any _ len len l now u g _ cl cl r cf s want hm HS0.out (by omega) _ HO0.out.nds HO1.out) ?_; rintro e w9 ⟨rfl, hb⟩; replace HB : Hid (Below w.heap.size w w9) := Below.on HB.out hb; replace HL0 : Hid (BoxR w9 (X) [.slice a len cap, .int .i64 now]) := HL0.out.below hb; replace HL1 : Hid (BoxR w9 (X + 1) [.int .i64 u, .int .i64 g, .slice ca cl cc, .bool r]) := HL1.out.below hb; replace t0_0 : w9.cell? ⟨X, 0, none⟩ = some (.slice a len cap) := HL0.out.at0 0 _ rfl; replace t0_1 : w9.cell? ⟨X, 1, none⟩ = some (.int .i64 now) := HL0.out.at0 1 _ rfl; replace t1_0 : w9.cell? ⟨X + 1, 0, none⟩ = some (.int .i64 u) := HL1.out.at0 0 _ rfl; replace t1_1 : w9.cell? ⟨X + 1, 1, none⟩ = some (.int .i64 g) := HL1.out.at0 1 _ rfl; replace t1_2 : w9.cell? ⟨X + 1, 2, none⟩ = some (.slice ca cl cc) := HL1.out.at0 2 _ rfl; replace t1_3 : w9.cell? ⟨X + 1, 3, none⟩ = some (.bool r) := HL1.out.at0 3 _ rfl; clear hb)
        | (go_at_call_of 11 (Value.slice a len cap); refine Calls.mono (toTree_any a len cap l now hl0 HS0.out _ ?hs) ?_; (case hs => (first | exact HI0.out.below HB.out | exact HI0.out.below (below_drewT HB.out))); rintro e w7 ⟨B0, rfl, hO, hb7⟩; (try (replace HO1 : Hid _ := HO1.out.below ⟨hb7.os, hb7.tape, hb7.output, hb7.size, hb7.block⟩)); replace HB : Hid (Below w.heap.size w w7) := Below.on HB.out ⟨hb7.os, hb7.tape, hb7.output, hb7.size, hb7.block⟩; replace HL0 : Hid (BoxR w7 (X) [.slice a len cap, .int .i64 now]) := HL0.out.below ⟨hb7.os, hb7.tape, hb7.output, hb7.size, hb7.block⟩; replace HL1 : Hid (BoxR w7 (X + 1) [.int .i64 u, .int .i64 g, .slice ca cl cc, .bool r]) := HL1.out.below ⟨hb7.os, hb7.tape, hb7.output, hb7.size, hb7.block⟩; replace t0_0 : w7.cell? ⟨X, 0, none⟩ = some (.slice a len cap) := HL0.out.at0 0 _ rfl; replace t0_1 : w7.cell? ⟨X, 1, none⟩ = some (.int .i64 now) := HL0.out.at0 1 _ rfl; replace t1_0 : w7.cell? ⟨X + 1, 0, none⟩ = some (.int .i64 u) := HL1.out.at0 0 _ rfl; replace t1_1 : w7.cell? ⟨X + 1, 1, none⟩ = some (.int .i64 g) := HL1.out.at0 1 _ rfl; replace t1_2 : w7.cell? ⟨X + 1, 2, none⟩ = some (.slice ca cl cc) := HL1.out.at0 2 _ rfl; replace t1_3 : w7.cell? ⟨X + 1, 3, none⟩ = some (.bool r) := HL1.out.at0 3 _ rfl; have HO0 : Hid (OwnN w7 B0 l len) := hO; clear hO hb7)
        | (go_at_call_of 12 (Value.slice ca cl cc); refine Calls.mono (toCred_any u g ca cl cc r cf hl1 _ ?hs) ?_; (case hs => (first | exact HI1.out.below HB.out | exact HI1.out.below (below_drewT HB.out))); rintro e w7 ⟨B1, rfl, hO, hgeO, hb7⟩; (try (replace HO0 : Hid _ := HO0.out.below ⟨hb7.os, hb7.tape, hb7.output, hb7.size, hb7.block⟩)); replace HB : Hid (Below w.heap.size w w7) := Below.on HB.out ⟨hb7.os, hb7.tape, hb7.output, hb7.size, hb7.block⟩; replace HL0 : Hid (BoxR w7 (X) [.slice a len cap, .int .i64 now]) := HL0.out.below ⟨hb7.os, hb7.tape, hb7.output, hb7.size, hb7.block⟩; replace HL1 : Hid (BoxR w7 (X + 1) [.int .i64 u, .int .i64 g, .slice ca cl cc, .bool r]) := HL1.out.below ⟨hb7.os, hb7.tape, hb7.output, hb7.size, hb7.block⟩; replace t0_0 : w7.cell? ⟨X, 0, none⟩ = some (.slice a len cap) := HL0.out.at0 0 _ rfl; replace t0_1 : w7.cell? ⟨X, 1, none⟩ = some (.int .i64 now) := HL0.out.at0 1 _ rfl; replace t1_0 : w7.cell? ⟨X + 1, 0, none⟩ = some (.int .i64 u) := HL1.out.at0 0 _ rfl; replace t1_1 : w7.cell? ⟨X + 1, 1, none⟩ = some (.int .i64 g) := HL1.out.at0 1 _ rfl; replace t1_2 : w7.cell? ⟨X + 1, 2, none⟩ = some (.slice ca cl cc) := HL1.out.at0 2 _ rfl; replace t1_3 : w7.cell? ⟨X + 1, 3, none⟩ = some (.bool r) := HL1.out.at0 3 _ rfl; have HO1 : Hid (Ints (some ⟨B1, 0, none⟩) cl cf w7) := hO; clear hO hb7))
    all_goals go_wp2
    all_goals go_meet
    all_goals exact ⟨rfl, HB, HL0, HL1⟩
  case rest =>
  obtain ⟨rfl, HBx, HL0x, HL1x⟩ := hcut
  obtain ⟨wp, hwp⟩ : ∃ wp, wp = wc := ⟨_, rfl⟩
  subst hwp
  clear HB HL0 HL1 t0_0 t0_1 t1_0 t1_1 t1_2 t1_3
  have HB : Hid (Below w.heap.size w wp) := HBx
  have HL0 : Hid (BoxR wp (X) [.slice a len cap, .int .i64 now]) := HL0x
  have HL1 : Hid (BoxR wp (X + 1) [.int .i64 u, .int .i64 g, .slice ca cl cc, .bool r]) := HL1x
  clear HBx HL0x HL1x
  have t0_0 : wp.cell? ⟨X, 0, none⟩ = some (.slice a len cap) := HL0.out.at0 0 _ rfl
  have t0_1 : wp.cell? ⟨X, 1, none⟩ = some (.int .i64 now) := HL0.out.at0 1 _ rfl
  have t1_0 : wp.cell? ⟨X + 1, 0, none⟩ = some (.int .i64 u) := HL1.out.at0 0 _ rfl
  have t1_1 : wp.cell? ⟨X + 1, 1, none⟩ = some (.int .i64 g) := HL1.out.at0 1 _ rfl
  have t1_2 : wp.cell? ⟨X + 1, 2, none⟩ = some (.slice ca cl cc) := HL1.out.at0 2 _ rfl
  have t1_3 : wp.cell? ⟨X + 1, 3, none⟩ = some (.bool r) := HL1.out.at0 3 _ rfl
  go_wp2_with fail
  refine (toTree_any a len cap l now hl0 HS0.out _ (HI0.out.below HB.out)).mono ?_
  rintro e w7 ⟨E0, rfl, hO, hb7⟩
  replace HB : Hid (Below w.heap.size w w7) := Below.on HB.out hb7
  replace HL0 : Hid (BoxR w7 (X) [.slice a len cap, .int .i64 now]) := HL0.out.below hb7
  replace HL1 : Hid (BoxR w7 (X + 1) [.int .i64 u, .int .i64 g, .slice ca cl cc, .bool r]) := HL1.out.below hb7
  replace t0_0 : w7.cell? ⟨X, 0, none⟩ = some (.slice a len cap) := HL0.out.at0 0 _ rfl
  replace t0_1 : w7.cell? ⟨X, 1, none⟩ = some (.int .i64 now) := HL0.out.at0 1 _ rfl
  replace t1_0 : w7.cell? ⟨X + 1, 0, none⟩ = some (.int .i64 u) := HL1.out.at0 0 _ rfl
  replace t1_1 : w7.cell? ⟨X + 1, 1, none⟩ = some (.int .i64 g) := HL1.out.at0 1 _ rfl
  replace t1_2 : w7.cell? ⟨X + 1, 2, none⟩ = some (.slice ca cl cc) := HL1.out.at0 2 _ rfl
  replace t1_3 : w7.cell? ⟨X + 1, 3, none⟩ = some (.bool r) := HL1.out.at0 3 _ rfl
  have hbN : Below w7.heap.size w7 (w7.alloc (.cells #[.slice (some ⟨E0, 0, none⟩) len len, .int .i64 now] 35)) := bel_alloc _ _
  have HY0 : Hid (BoxR (w7.alloc (.cells #[.slice (some ⟨E0, 0, none⟩) len len, .int .i64 now] 35)) w7.heap.size [.slice (some ⟨E0, 0, none⟩) len len, .int .i64 now]) := boxR_new _ _ _
  have HP0 : Hid (OwnN (w7.alloc (.cells #[.slice (some ⟨E0, 0, none⟩) len len, .int .i64 now] 35)) E0 l len) := hO.below hbN
  clear t0_0 t0_1 t1_0 t1_1 t1_2 t1_3
  replace HB : Hid (Below w.heap.size w (w7.alloc (.cells #[.slice (some ⟨E0, 0, none⟩) len len, .int .i64 now] 35))) := Below.on HB.out hbN
  replace HL0 : Hid (BoxR (w7.alloc (.cells #[.slice (some ⟨E0, 0, none⟩) len len, .int .i64 now] 35)) (X) [.slice a len cap, .int .i64 now]) := HL0.out.below hbN
  replace HL1 : Hid (BoxR (w7.alloc (.cells #[.slice (some ⟨E0, 0, none⟩) len len, .int .i64 now] 35)) (X + 1) [.int .i64 u, .int .i64 g, .slice ca cl cc, .bool r]) := HL1.out.below hbN
  clear hbN hb7 hO
  go_upto_region 12 with fail
  generalize (w7.alloc (.cells #[.slice (some ⟨E0, 0, none⟩) len len, .int .i64 now] 35)) = w8 at HB HL0 HL1 HY0 HP0 ⊢
  generalize w7.heap.size = Y0 at HY0 ⊢
  have t0_0 : w8.cell? ⟨X, 0, none⟩ = some (.slice a len cap) := HL0.out.at0 0 _ rfl
  have t0_1 : w8.cell? ⟨X, 1, none⟩ = some (.int .i64 now) := HL0.out.at0 1 _ rfl
  have t1_0 : w8.cell? ⟨X + 1, 0, none⟩ = some (.int .i64 u) := HL1.out.at0 0 _ rfl
  have t1_1 : w8.cell? ⟨X + 1, 1, none⟩ = some (.int .i64 g) := HL1.out.at0 1 _ rfl
  have t1_2 : w8.cell? ⟨X + 1, 2, none⟩ = some (.slice ca cl cc) := HL1.out.at0 2 _ rfl
  have t1_3 : w8.cell? ⟨X + 1, 3, none⟩ = some (.bool r) := HL1.out.at0 3 _ rfl
  go_wp2_with fail
  refine (toCred_any u g ca cl cc r cf hl1 _ (HI1.out.below HB.out)).mono ?_
  rintro e w7 ⟨E1, rfl, hO, hgeO, hb7⟩
  replace HB : Hid (Below w.heap.size w w7) := Below.on HB.out hb7
  replace HL0 : Hid (BoxR w7 (X) [.slice a len cap, .int .i64 now]) := HL0.out.below hb7
  replace HL1 : Hid (BoxR w7 (X + 1) [.int .i64 u, .int .i64 g, .slice ca cl cc, .bool r]) := HL1.out.below hb7
  replace HY0 : Hid (BoxR w7 Y0 [.slice (some ⟨E0, 0, none⟩) len len, .int .i64 now]) := HY0.out.below hb7
  replace HP0 : Hid (OwnN w7 E0 l len) := HP0.out.below hb7
  replace t0_0 : w7.cell? ⟨X, 0, none⟩ = some (.slice a len cap) := HL0.out.at0 0 _ rfl
  replace t0_1 : w7.cell? ⟨X, 1, none⟩ = some (.int .i64 now) := HL0.out.at0 1 _ rfl
  replace t1_0 : w7.cell? ⟨X + 1, 0, none⟩ = some (.int .i64 u) := HL1.out.at0 0 _ rfl
  replace t1_1 : w7.cell? ⟨X + 1, 1, none⟩ = some (.int .i64 g) := HL1.out.at0 1 _ rfl
  replace t1_2 : w7.cell? ⟨X + 1, 2, none⟩ = some (.slice ca cl cc) := HL1.out.at0 2 _ rfl
  replace t1_3 : w7.cell? ⟨X + 1, 3, none⟩ = some (.bool r) := HL1.out.at0 3 _ rfl
  have hbN : Below w7.heap.size w7 (w7.alloc (.cells #[.int .i64 u, .int .i64 g, .slice (some ⟨E1, 0, none⟩) cl cl, .bool r] 37)) := bel_alloc _ _
  have HY1 : Hid (BoxR (w7.alloc (.cells #[.int .i64 u, .int .i64 g, .slice (some ⟨E1, 0, none⟩) cl cl, .bool r] 37)) w7.heap.size [.int .i64 u, .int .i64 g, .slice (some ⟨E1, 0, none⟩) cl cl, .bool r]) := boxR_new _ _ _
  have HP1 : Hid (Ints (some ⟨E1, 0, none⟩) cl cf (w7.alloc (.cells #[.int .i64 u, .int .i64 g, .slice (some ⟨E1, 0, none⟩) cl cl, .bool r] 37))) := hO.below hbN
  clear t0_0 t0_1 t1_0 t1_1 t1_2 t1_3
  replace HB : Hid (Below w.heap.size w (w7.alloc (.cells #[.int .i64 u, .int .i64 g, .slice (some ⟨E1, 0, none⟩) cl cl, .bool r] 37))) := Below.on HB.out hbN
  replace HL0 : Hid (BoxR (w7.alloc (.cells #[.int .i64 u, .int .i64 g, .slice (some ⟨E1, 0, none⟩) cl cl, .bool r] 37)) (X) [.slice a len cap, .int .i64 now]) := HL0.out.below hbN
  replace HL1 : Hid (BoxR (w7.alloc (.cells #[.int .i64 u, .int .i64 g, .slice (some ⟨E1, 0, none⟩) cl cl, .bool r] 37)) (X + 1) [.int .i64 u, .int .i64 g, .slice ca cl cc, .bool r]) := HL1.out.below hbN
  replace HY0 : Hid (BoxR (w7.alloc (.cells #[.int .i64 u, .int .i64 g, .slice (some ⟨E1, 0, none⟩) cl cl, .bool r] 37)) Y0 [.slice (some ⟨E0, 0, none⟩) len len, .int .i64 now]) := HY0.out.below hbN
  replace HP0 : Hid (OwnN (w7.alloc (.cells #[.int .i64 u, .int .i64 g, .slice (some ⟨E1, 0, none⟩) cl cl, .bool r] 37)) E0 l len) := HP0.out.below hbN
  clear hbN hb7 hO
  go_upto_region 13 with fail
  generalize (w7.alloc (.cells #[.int .i64 u, .int .i64 g, .slice (some ⟨E1, 0, none⟩) cl cl, .bool r] 37)) = w8 at HB HL0 HL1 HY0 HP0 HY1 HP1 ⊢
  generalize w7.heap.size = Y1 at HY1 ⊢
  have t0_0 : w8.cell? ⟨X, 0, none⟩ = some (.slice a len cap) := HL0.out.at0 0 _ rfl
  have t0_1 : w8.cell? ⟨X, 1, none⟩ = some (.int .i64 now) := HL0.out.at0 1 _ rfl
  have t1_0 : w8.cell? ⟨X + 1, 0, none⟩ = some (.int .i64 u) := HL1.out.at0 0 _ rfl
  have t1_1 : w8.cell? ⟨X + 1, 1, none⟩ = some (.int .i64 g) := HL1.out.at0 1 _ rfl
  have t1_2 : w8.cell? ⟨X + 1, 2, none⟩ = some (.slice ca cl cc) := HL1.out.at0 2 _ rfl
  have t1_3 : w8.cell? ⟨X + 1, 3, none⟩ = some (.bool r) := HL1.out.at0 3 _ rfl
  have y0_0 : w8.cell? ⟨Y0, 0, none⟩ = some (.slice (some ⟨E0, 0, none⟩) len len) := HY0.out.at0 0 _ rfl
  have y0_1 : w8.cell? ⟨Y0, 1, none⟩ = some (.int .i64 now) := HY0.out.at0 1 _ rfl
  have y1_0 : w8.cell? ⟨Y1, 0, none⟩ = some (.int .i64 u) := HY1.out.at0 0 _ rfl
  have y1_1 : w8.cell? ⟨Y1, 1, none⟩ = some (.int .i64 g) := HY1.out.at0 1 _ rfl
  have y1_2 : w8.cell? ⟨Y1, 2, none⟩ = some (.slice (some ⟨E1, 0, none⟩) cl cl) := HY1.out.at0 2 _ rfl
  have y1_3 : w8.cell? ⟨Y1, 3, none⟩ = some (.bool r) := HY1.out.at0 3 _ rfl
  go_wp2_with fail
  refine (iAccess_any _ len len l now u g _ cl cl r cf s want m e1 e2 e3 e4 hm HS0.out (by omega) _ HP0.out.nds HP1.out ((HB.out.cell (p := ⟨_, 0, none⟩) (block_lt_of_cell HMx.out)).trans HMx.out) (HEr.out.below HB.out)).mono ?_
  rintro e w9 ⟨rfl, hb⟩
  replace HB : Hid (Below w.heap.size w w9) := Below.on HB.out hb
  replace HL0 : Hid (BoxR w9 (X) [.slice a len cap, .int .i64 now]) := HL0.out.below hb
  replace HL1 : Hid (BoxR w9 (X + 1) [.int .i64 u, .int .i64 g, .slice ca cl cc, .bool r]) := HL1.out.below hb
  replace HY0 : Hid (BoxR w9 Y0 [.slice (some ⟨E0, 0, none⟩) len len, .int .i64 now]) := HY0.out.below hb
  replace HY1 : Hid (BoxR w9 Y1 [.int .i64 u, .int .i64 g, .slice (some ⟨E1, 0, none⟩) cl cl, .bool r]) := HY1.out.below hb
  replace HP0 : Hid (OwnN w9 E0 l len) := HP0.out.below hb
  replace HP1 : Hid (Ints (some ⟨E1, 0, none⟩) cl cf w9) := HP1.out.below hb
  replace t0_0 : w9.cell? ⟨X, 0, none⟩ = some (.slice a len cap) := HL0.out.at0 0 _ rfl
  replace t0_1 : w9.cell? ⟨X, 1, none⟩ = some (.int .i64 now) := HL0.out.at0 1 _ rfl
  replace t1_0 : w9.cell? ⟨X + 1, 0, none⟩ = some (.int .i64 u) := HL1.out.at0 0 _ rfl
  replace t1_1 : w9.cell? ⟨X + 1, 1, none⟩ = some (.int .i64 g) := HL1.out.at0 1 _ rfl
  replace t1_2 : w9.cell? ⟨X + 1, 2, none⟩ = some (.slice ca cl cc) := HL1.out.at0 2 _ rfl
  replace t1_3 : w9.cell? ⟨X + 1, 3, none⟩ = some (.bool r) := HL1.out.at0 3 _ rfl
  replace y0_0 : w9.cell? ⟨Y0, 0, none⟩ = some (.slice (some ⟨E0, 0, none⟩) len len) := HY0.out.at0 0 _ rfl
  replace y0_1 : w9.cell? ⟨Y0, 1, none⟩ = some (.int .i64 now) := HY0.out.at0 1 _ rfl
  replace y1_0 : w9.cell? ⟨Y1, 0, none⟩ = some (.int .i64 u) := HY1.out.at0 0 _ rfl
  replace y1_1 : w9.cell? ⟨Y1, 1, none⟩ = some (.int .i64 g) := HY1.out.at0 1 _ rfl
  replace y1_2 : w9.cell? ⟨Y1, 2, none⟩ = some (.slice (some ⟨E1, 0, none⟩) cl cl) := HY1.out.at0 2 _ rfl
  replace y1_3 : w9.cell? ⟨Y1, 3, none⟩ = some (.bool r) := HY1.out.at0 3 _ rfl
  clear hb
  generalize accC l now u g cl r cf s want = cb
  have hbb : (cb != cb) = false := by simp
  go_upto_region 16 with fail
  go_cut [50] (fun t wx => t = .bool false ∧ Hid (Below w.heap.size w wx) ∧ Hid (BoxR wx (X) [.slice a len cap, .int .i64 now]) ∧ Hid (BoxR wx (X + 1) [.int .i64 u, .int .i64 g, .slice ca cl cc, .bool r]) ∧ Hid (BoxR wx Y0 [.slice (some ⟨E0, 0, none⟩) len len, .int .i64 now]) ∧ Hid (BoxR wx Y1 [.int .i64 u, .int .i64 g, .slice (some ⟨E1, 0, none⟩) cl cl, .bool r]) ∧ Hid (OwnN wx E0 l len) ∧ Hid (Ints (some ⟨E1, 0, none⟩) cl cf wx))
  case first =>
    go_region_held3 (fun w' => w'.cell? ⟨Y0, 0, none⟩ = some (.slice (some ⟨E0, 0, none⟩) len len) ∧ w'.cell? ⟨Y0, 1, none⟩ = some (.int .i64 now) ∧ w'.cell? ⟨X, 0, none⟩ = some (.slice a len cap) ∧ w'.cell? ⟨X, 1, none⟩ = some (.int .i64 now)) (go_keep)
      (first
        | (go_at_call 15; refine Calls.mono (eqTree_any _ _ len len len l now hl0 HS0.out _ HP0.out.nds HQ.out.nds) ?_; rintro e w9 ⟨rfl, hb⟩; replace HB : Hid (Below w.heap.size w w9) := Below.on HB.out hb; replace HL0 : Hid (BoxR w9 (X) [.slice a len cap, .int .i64 now]) := HL0.out.below hb; replace HL1 : Hid (BoxR w9 (X + 1) [.int .i64 u, .int .i64 g, .slice ca cl cc, .bool r]) := HL1.out.below hb; replace HY0 : Hid (BoxR w9 Y0 [.slice (some ⟨E0, 0, none⟩) len len, .int .i64 now]) := HY0.out.below hb; replace HY1 : Hid (BoxR w9 Y1 [.int .i64 u, .int .i64 g, .slice (some ⟨E1, 0, none⟩) cl cl, .bool r]) := HY1.out.below hb; replace HP0 : Hid (OwnN w9 E0 l len) := HP0.out.below hb; replace HP1 : Hid (Ints (some ⟨E1, 0, none⟩) cl cf w9) := HP1.out.below hb; replace t0_0 : w9.cell? ⟨X, 0, none⟩ = some (.slice a len cap) := HL0.out.at0 0 _ rfl; replace t0_1 : w9.cell? ⟨X, 1, none⟩ = some (.int .i64 now) := HL0.out.at0 1 _ rfl; replace t1_0 : w9.cell? ⟨X + 1, 0, none⟩ = some (.int .i64 u) := HL1.out.at0 0 _ rfl; replace t1_1 : w9.cell? ⟨X + 1, 1, none⟩ = some (.int .i64 g) := HL1.out.at0 1 _ rfl; replace t1_2 : w9.cell? ⟨X + 1, 2, none⟩ = some (.slice ca cl cc) := HL1.out.at0 2 _ rfl; replace t1_3 : w9.cell? ⟨X + 1, 3, none⟩ = some (.bool r) := HL1.out.at0 3 _ rfl; replace y0_0 : w9.cell? ⟨Y0, 0, none⟩ = some (.slice (some ⟨E0, 0, none⟩) len len) := HY0.out.at0 0 _ rfl; replace y0_1 : w9.cell? ⟨Y0, 1, none⟩ = some (.int .i64 now) := HY0.out.at0 1 _ rfl; replace y1_0 : w9.cell? ⟨Y1, 0, none⟩ = some (.int .i64 u) := HY1.out.at0 0 _ rfl; replace y1_1 : w9.cell? ⟨Y1, 1, none⟩ = some (.int .i64 g) := HY1.out.at0 1 _ rfl; replace y1_2 : w9.cell? ⟨Y1, 2, none⟩ = some (.slice (some ⟨E1, 0, none⟩) cl cl) := HY1.out.at0 2 _ rfl; replace y1_3 : w9.cell? ⟨Y1, 3, none⟩ = some (.bool r) := HY1.out.at0 3 _ rfl; clear hb HQ)
        | (go_at_call 11; refine Calls.mono (toTree_any a len cap l now hl0 HS0.out _ ?hs) ?_; (case hs => (first | exact HI0.out.below HB.out | exact HI0.out.below (below_drewT HB.out))); rintro e w7 ⟨Q, rfl, hO, hb7⟩; replace HB : Hid (Below w.heap.size w w7) := Below.on HB.out ⟨hb7.os, hb7.tape, hb7.output, hb7.size, hb7.block⟩; replace HL0 : Hid (BoxR w7 (X) [.slice a len cap, .int .i64 now]) := HL0.out.below ⟨hb7.os, hb7.tape, hb7.output, hb7.size, hb7.block⟩; replace HL1 : Hid (BoxR w7 (X + 1) [.int .i64 u, .int .i64 g, .slice ca cl cc, .bool r]) := HL1.out.below ⟨hb7.os, hb7.tape, hb7.output, hb7.size, hb7.block⟩; replace HY0 : Hid (BoxR w7 Y0 [.slice (some ⟨E0, 0, none⟩) len len, .int .i64 now]) := HY0.out.below ⟨hb7.os, hb7.tape, hb7.output, hb7.size, hb7.block⟩; replace HY1 : Hid (BoxR w7 Y1 [.int .i64 u, .int .i64 g, .slice (some ⟨E1, 0, none⟩) cl cl, .bool r]) := HY1.out.below ⟨hb7.os, hb7.tape, hb7.output, hb7.size, hb7.block⟩; replace HP0 : Hid (OwnN w7 E0 l len) := HP0.out.below ⟨hb7.os, hb7.tape, hb7.output, hb7.size, hb7.block⟩; replace HP1 : Hid (Ints (some ⟨E1, 0, none⟩) cl cf w7) := HP1.out.below ⟨hb7.os, hb7.tape, hb7.output, hb7.size, hb7.block⟩; replace t0_0 : w7.cell? ⟨X, 0, none⟩ = some (.slice a len cap) := HL0.out.at0 0 _ rfl; replace t0_1 : w7.cell? ⟨X, 1, none⟩ = some (.int .i64 now) := HL0.out.at0 1 _ rfl; replace t1_0 : w7.cell? ⟨X + 1, 0, none⟩ = some (.int .i64 u) := HL1.out.at0 0 _ rfl; replace t1_1 : w7.cell? ⟨X + 1, 1, none⟩ = some (.int .i64 g) := HL1.out.at0 1 _ rfl; replace t1_2 : w7.cell? ⟨X + 1, 2, none⟩ = some (.slice ca cl cc) := HL1.out.at0 2 _ rfl; replace t1_3 : w7.cell? ⟨X + 1, 3, none⟩ = some (.bool r) := HL1.out.at0 3 _ rfl; replace y0_0 : w7.cell? ⟨Y0, 0, none⟩ = some (.slice (some ⟨E0, 0, none⟩) len len) := HY0.out.at0 0 _ rfl; replace y0_1 : w7.cell? ⟨Y0, 1, none⟩ = some (.int .i64 now) := HY0.out.at0 1 _ rfl; replace y1_0 : w7.cell? ⟨Y1, 0, none⟩ = some (.int .i64 u) := HY1.out.at0 0 _ rfl; replace y1_1 : w7.cell? ⟨Y1, 1, none⟩ = some (.int .i64 g) := HY1.out.at0 1 _ rfl; replace y1_2 : w7.cell? ⟨Y1, 2, none⟩ = some (.slice (some ⟨E1, 0, none⟩) cl cl) := HY1.out.at0 2 _ rfl; replace y1_3 : w7.cell? ⟨Y1, 3, none⟩ = some (.bool r) := HY1.out.at0 3 _ rfl; have HQ : Hid (OwnN w7 Q l len) := hO; clear hO hb7))
    all_goals go_wp2
    all_goals go_meet
    all_goals exact ⟨rfl, HB, HL0, HL1, HY0, HY1, HP0, HP1⟩
  case rest =>
  obtain ⟨rfl, HBx, HL0x, HL1x, HY0x, HY1x, HP0x, HP1x⟩ := hcut
  obtain ⟨wp, hwp⟩ : ∃ wp, wp = wc := ⟨_, rfl⟩
  subst hwp
  clear y0_0 y0_1 y1_0 y1_1 y1_2 y1_3 HB HL0 HL1 HY0 HY1 HP0 HP1 t0_0 t0_1 t1_0 t1_1 t1_2 t1_3
  have HB : Hid (Below w.heap.size w wp) := HBx
  have HL0 : Hid (BoxR wp (X) [.slice a len cap, .int .i64 now]) := HL0x
  have HL1 : Hid (BoxR wp (X + 1) [.int .i64 u, .int .i64 g, .slice ca cl cc, .bool r]) := HL1x
  have HY0 : Hid (BoxR wp Y0 [.slice (some ⟨E0, 0, none⟩) len len, .int .i64 now]) := HY0x
  have HY1 : Hid (BoxR wp Y1 [.int .i64 u, .int .i64 g, .slice (some ⟨E1, 0, none⟩) cl cl, .bool r]) := HY1x
  have HP0 : Hid (OwnN wp E0 l len) := HP0x
  have HP1 : Hid (Ints (some ⟨E1, 0, none⟩) cl cf wp) := HP1x
  clear HBx HL0x HL1x HY0x HY1x HP0x HP1x
  have t0_0 : wp.cell? ⟨X, 0, none⟩ = some (.slice a len cap) := HL0.out.at0 0 _ rfl
  have t0_1 : wp.cell? ⟨X, 1, none⟩ = some (.int .i64 now) := HL0.out.at0 1 _ rfl
  have t1_0 : wp.cell? ⟨X + 1, 0, none⟩ = some (.int .i64 u) := HL1.out.at0 0 _ rfl
  have t1_1 : wp.cell? ⟨X + 1, 1, none⟩ = some (.int .i64 g) := HL1.out.at0 1 _ rfl
  have t1_2 : wp.cell? ⟨X + 1, 2, none⟩ = some (.slice ca cl cc) := HL1.out.at0 2 _ rfl
  have t1_3 : wp.cell? ⟨X + 1, 3, none⟩ = some (.bool r) := HL1.out.at0 3 _ rfl
  have y0_0 : wp.cell? ⟨Y0, 0, none⟩ = some (.slice (some ⟨E0, 0, none⟩) len len) := HY0.out.at0 0 _ rfl
  have y0_1 : wp.cell? ⟨Y0, 1, none⟩ = some (.int .i64 now) := HY0.out.at0 1 _ rfl
  have y1_0 : wp.cell? ⟨Y1, 0, none⟩ = some (.int .i64 u) := HY1.out.at0 0 _ rfl
  have y1_1 : wp.cell? ⟨Y1, 1, none⟩ = some (.int .i64 g) := HY1.out.at0 1 _ rfl
  have y1_2 : wp.cell? ⟨Y1, 2, none⟩ = some (.slice (some ⟨E1, 0, none⟩) cl cl) := HY1.out.at0 2 _ rfl
  have y1_3 : wp.cell? ⟨Y1, 3, none⟩ = some (.bool r) := HY1.out.at0 3 _ rfl
  go_upto_region 18 with fail
  go_region_held3 (fun w' => w'.cell? ⟨Y1, 0, none⟩ = some (.int .i64 u) ∧ w'.cell? ⟨Y1, 1, none⟩ = some (.int .i64 g) ∧ w'.cell? ⟨Y1, 2, none⟩ = some (.slice (some ⟨E1, 0, none⟩) cl cl) ∧ w'.cell? ⟨Y1, 3, none⟩ = some (.bool r) ∧ w'.cell? ⟨X + 1, 0, none⟩ = some (.int .i64 u) ∧ w'.cell? ⟨X + 1, 1, none⟩ = some (.int .i64 g) ∧ w'.cell? ⟨X + 1, 2, none⟩ = some (.slice ca cl cc) ∧ w'.cell? ⟨X + 1, 3, none⟩ = some (.bool r)) (go_keep)
    (first
      | (go_at_call 16; refine Calls.mono (eqCred_any u g _ _ cl cl cl r cf hl1 _ HP1.out HQ.out) ?_; rintro e w9 ⟨rfl, hb⟩; replace HB : Hid (Below w.heap.size w w9) := Below.on HB.out hb; replace HL0 : Hid (BoxR w9 (X) [.slice a len cap, .int .i64 now]) := HL0.out.below hb; replace HL1 : Hid (BoxR w9 (X + 1) [.int .i64 u, .int .i64 g, .slice ca cl cc, .bool r]) := HL1.out.below hb; replace HY0 : Hid (BoxR w9 Y0 [.slice (some ⟨E0, 0, none⟩) len len, .int .i64 now]) := HY0.out.below hb; replace HY1 : Hid (BoxR w9 Y1 [.int .i64 u, .int .i64 g, .slice (some ⟨E1, 0, none⟩) cl cl, .bool r]) := HY1.out.below hb; replace HP0 : Hid (OwnN w9 E0 l len) := HP0.out.below hb; replace HP1 : Hid (Ints (some ⟨E1, 0, none⟩) cl cf w9) := HP1.out.below hb; replace t0_0 : w9.cell? ⟨X, 0, none⟩ = some (.slice a len cap) := HL0.out.at0 0 _ rfl; replace t0_1 : w9.cell? ⟨X, 1, none⟩ = some (.int .i64 now) := HL0.out.at0 1 _ rfl; replace t1_0 : w9.cell? ⟨X + 1, 0, none⟩ = some (.int .i64 u) := HL1.out.at0 0 _ rfl; replace t1_1 : w9.cell? ⟨X + 1, 1, none⟩ = some (.int .i64 g) := HL1.out.at0 1 _ rfl; replace t1_2 : w9.cell? ⟨X + 1, 2, none⟩ = some (.slice ca cl cc) := HL1.out.at0 2 _ rfl; replace t1_3 : w9.cell? ⟨X + 1, 3, none⟩ = some (.bool r) := HL1.out.at0 3 _ rfl; replace y0_0 : w9.cell? ⟨Y0, 0, none⟩ = some (.slice (some ⟨E0, 0, none⟩) len len) := HY0.out.at0 0 _ rfl; replace y0_1 : w9.cell? ⟨Y0, 1, none⟩ = some (.int .i64 now) := HY0.out.at0 1 _ rfl; replace y1_0 : w9.cell? ⟨Y1, 0, none⟩ = some (.int .i64 u) := HY1.out.at0 0 _ rfl; replace y1_1 : w9.cell? ⟨Y1, 1, none⟩ = some (.int .i64 g) := HY1.out.at0 1 _ rfl; replace y1_2 : w9.cell? ⟨Y1, 2, none⟩ = some (.slice (some ⟨E1, 0, none⟩) cl cl) := HY1.out.at0 2 _ rfl; replace y1_3 : w9.cell? ⟨Y1, 3, none⟩ = some (.bool r) := HY1.out.at0 3 _ rfl; clear hb HQ)
      | (go_at_call 12; refine Calls.mono (toCred_any u g ca cl cc r cf hl1 _ ?hs) ?_; (case hs => (first | exact HI1.out.below HB.out | exact HI1.out.below (below_drewT HB.out))); rintro e w7 ⟨Q, rfl, hO, hgeO, hb7⟩; replace HB : Hid (Below w.heap.size w w7) := Below.on HB.out ⟨hb7.os, hb7.tape, hb7.output, hb7.size, hb7.block⟩; replace HL0 : Hid (BoxR w7 (X) [.slice a len cap, .int .i64 now]) := HL0.out.below ⟨hb7.os, hb7.tape, hb7.output, hb7.size, hb7.block⟩; replace HL1 : Hid (BoxR w7 (X + 1) [.int .i64 u, .int .i64 g, .slice ca cl cc, .bool r]) := HL1.out.below ⟨hb7.os, hb7.tape, hb7.output, hb7.size, hb7.block⟩; replace HY0 : Hid (BoxR w7 Y0 [.slice (some ⟨E0, 0, none⟩) len len, .int .i64 now]) := HY0.out.below ⟨hb7.os, hb7.tape, hb7.output, hb7.size, hb7.block⟩; replace HY1 : Hid (BoxR w7 Y1 [.int .i64 u, .int .i64 g, .slice (some ⟨E1, 0, none⟩) cl cl, .bool r]) := HY1.out.below ⟨hb7.os, hb7.tape, hb7.output, hb7.size, hb7.block⟩; replace HP0 : Hid (OwnN w7 E0 l len) := HP0.out.below ⟨hb7.os, hb7.tape, hb7.output, hb7.size, hb7.block⟩; replace HP1 : Hid (Ints (some ⟨E1, 0, none⟩) cl cf w7) := HP1.out.below ⟨hb7.os, hb7.tape, hb7.output, hb7.size, hb7.block⟩; replace t0_0 : w7.cell? ⟨X, 0, none⟩ = some (.slice a len cap) := HL0.out.at0 0 _ rfl; replace t0_1 : w7.cell? ⟨X, 1, none⟩ = some (.int .i64 now) := HL0.out.at0 1 _ rfl; replace t1_0 : w7.cell? ⟨X + 1, 0, none⟩ = some (.int .i64 u) := HL1.out.at0 0 _ rfl; replace t1_1 : w7.cell? ⟨X + 1, 1, none⟩ = some (.int .i64 g) := HL1.out.at0 1 _ rfl; replace t1_2 : w7.cell? ⟨X + 1, 2, none⟩ = some (.slice ca cl cc) := HL1.out.at0 2 _ rfl; replace t1_3 : w7.cell? ⟨X + 1, 3, none⟩ = some (.bool r) := HL1.out.at0 3 _ rfl; replace y0_0 : w7.cell? ⟨Y0, 0, none⟩ = some (.slice (some ⟨E0, 0, none⟩) len len) := HY0.out.at0 0 _ rfl; replace y0_1 : w7.cell? ⟨Y0, 1, none⟩ = some (.int .i64 now) := HY0.out.at0 1 _ rfl; replace y1_0 : w7.cell? ⟨Y1, 0, none⟩ = some (.int .i64 u) := HY1.out.at0 0 _ rfl; replace y1_1 : w7.cell? ⟨Y1, 1, none⟩ = some (.int .i64 g) := HY1.out.at0 1 _ rfl; replace y1_2 : w7.cell? ⟨Y1, 2, none⟩ = some (.slice (some ⟨E1, 0, none⟩) cl cl) := HY1.out.at0 2 _ rfl; replace y1_3 : w7.cell? ⟨Y1, 3, none⟩ = some (.bool r) := HY1.out.at0 3 _ rfl; have HQ : Hid (Ints (some ⟨Q, 0, none⟩) cl cf w7) := hO; clear hO hb7))
  all_goals go_wp2
  all_goals go_ret
  all_goals exact ⟨rfl, HB.out⟩
end Go.Proofs.YtdgejnaceeoooaaGreatDoor
