/- Laid together: WalkLaw. -/
import Derived.Test.YtdgejnaceeoooaaGreatDoorBW43
import Derived.Deep.DeepCutAuto
import Derived.Deep.RegionHeld3
/- The law FnExactWalk. -/
namespace Go.Proofs.YtdgejnaceeoooaaGreatDoor
open Go.RowKit Go.PlainAid Go.Deep
set_option linter.unusedVariables false
set_option maxRecDepth 20000 in
set_option maxHeartbeats 16000000 in
theorem walk_any (a : Option Addr) (len cap : Nat) (l : List Nd) (now : Int) (u g : Int) (ca : Option Addr) (cl cc : Nat) (r : Bool) (cf : Nat → Int) (s : ByteArray) (fo : Bool) (m : Int) (e1 e2 e3 e4 : Addr) (hm : len ≤ 9223372036854775807) (hf : ∀ i, i < len → NdFit 9223372036854775807 (ndAt l i)) (hmc : cl ≤ 9223372036854775807) (hsx : s.size ≤ 9223372036854775807) (w : World) (hi : Nds a len l w) (hci : Ints ca cl cf w) (hmx : w.cell? ⟨4, 0, none⟩ = some (.int .i64 m)) (hE : Errs w e1 e2 e3 e4) :
    Calls Tryz.prog 3 #[.agg #[.slice a len cap, .int .i64 now], .agg #[.int .i64 u, .int .i64 g, .slice ca cl cc, .bool r], .string s, .bool fo] w fun e w' => e = .returned (.bool true) ∧ Below w.heap.size w w' := by
  have HI0 : Hid (Nds a len l w) := hi
  have HF0 : Hid (∀ i, i < len → NdFit 9223372036854775807 (ndAt l i)) := hf
  have HI1 : Hid (Ints ca cl cf w) := hci
  have HEr : Hid (Errs w e1 e2 e3 e4) := hE
  have HMx : Hid (w.cell? ⟨4, 0, none⟩ = some (.int .i64 m)) := hmx
  clear hi hf hci hE hmx
  have HB : Hid (Below w.heap.size w ((w.alloc (.cells #[.slice a len cap, .int .i64 now] 24)).alloc (.cells #[.int .i64 u, .int .i64 g, .slice ca cl cc, .bool r] 27))) := bl2T _ _ _
  have HL0 : Hid (BoxR ((w.alloc (.cells #[.slice a len cap, .int .i64 now] 24)).alloc (.cells #[.int .i64 u, .int .i64 g, .slice ca cl cc, .bool r] 27)) w.heap.size [.slice a len cap, .int .i64 now]) := (boxR_new w [.slice a len cap, .int .i64 now] 24).below (bel_alloc _ _)
  have HL1 : Hid (BoxR ((w.alloc (.cells #[.slice a len cap, .int .i64 now] 24)).alloc (.cells #[.int .i64 u, .int .i64 g, .slice ca cl cc, .bool r] 27)) (w.heap.size + 1) [.int .i64 u, .int .i64 g, .slice ca cl cc, .bool r]) := (by
    have h := boxR_new (w.alloc (.cells #[.slice a len cap, .int .i64 now] 24)) [.int .i64 u, .int .i64 g, .slice ca cl cc, .bool r] 27
    simp only [World.size_alloc] at h
    exact h)
  go_enter Tryz.func3, Tryz.ntmps3
  go_upto_region 1 with fail
  generalize ((w.alloc (.cells #[.slice a len cap, .int .i64 now] 24)).alloc (.cells #[.int .i64 u, .int .i64 g, .slice ca cl cc, .bool r] 27)) = w0 at HB HL0 HL1 ⊢
  obtain ⟨X, hX⟩ : ∃ X, X = w.heap.size := ⟨_, rfl⟩
  have HXw : Hid (X = w.heap.size) := hX
  rw [← hX] at HL0 HL1 ⊢
  clear hX
  have t0_0 : w0.cell? ⟨X, 0, none⟩ = some (.slice a len cap) := HL0.out.at0 0 _ rfl
  have t0_1 : w0.cell? ⟨X, 1, none⟩ = some (.int .i64 now) := HL0.out.at0 1 _ rfl
  have t1_0 : w0.cell? ⟨X + 1, 0, none⟩ = some (.int .i64 u) := HL1.out.at0 0 _ rfl
  have t1_1 : w0.cell? ⟨X + 1, 1, none⟩ = some (.int .i64 g) := HL1.out.at0 1 _ rfl
  have t1_2 : w0.cell? ⟨X + 1, 2, none⟩ = some (.slice ca cl cc) := HL1.out.at0 2 _ rfl
  have t1_3 : w0.cell? ⟨X + 1, 3, none⟩ = some (.bool r) := HL1.out.at0 3 _ rfl
  by_cases hs : 1048576 < s.size
  · have hs' : (1048576 : Int) < (s.size : Int) := by omega
    go_wp2
    go_ret
    exact ⟨rfl, HB.out⟩
  have hs' : ¬ (1048576 : Int) < (s.size : Int) := by omega
  go_wp2_with fail
  refine (szTree_any a len cap l now 1048576 (by omega) (by omega) hm HF0.out _ (HI0.out.below HB.out)).mono ?_
  rintro e w1 ⟨⟨v0, rfl, hv⟩, hb⟩
  replace HB : Hid (Below w.heap.size w w1) := Below.on HB.out hb
  replace HL0 : Hid (BoxR w1 X [.slice a len cap, .int .i64 now]) := HL0.out.below hb
  replace HL1 : Hid (BoxR w1 (X + 1) [.int .i64 u, .int .i64 g, .slice ca cl cc, .bool r]) := HL1.out.below hb
  replace t0_0 : w1.cell? ⟨X, 0, none⟩ = some (.slice a len cap) := HL0.out.at0 0 _ rfl
  replace t0_1 : w1.cell? ⟨X, 1, none⟩ = some (.int .i64 now) := HL0.out.at0 1 _ rfl
  replace t1_0 : w1.cell? ⟨X + 1, 0, none⟩ = some (.int .i64 u) := HL1.out.at0 0 _ rfl
  replace t1_1 : w1.cell? ⟨X + 1, 1, none⟩ = some (.int .i64 g) := HL1.out.at0 1 _ rfl
  replace t1_2 : w1.cell? ⟨X + 1, 2, none⟩ = some (.slice ca cl cc) := HL1.out.at0 2 _ rfl
  replace t1_3 : w1.cell? ⟨X + 1, 3, none⟩ = some (.bool r) := HL1.out.at0 3 _ rfl
  clear hb
  rcases hv with rfl | ⟨v00, v01, hl0, hsm⟩
  · go_wp2
    go_ret
    exact ⟨rfl, HB.out⟩
  have d0 : decide (v0 < 0) = false := by simp; omega
  have HS0 : Hid (∀ i, i < len → NdFit 1048576 (ndAt l i)) := hsm
  clear hsm HF0
  by_cases hcs : v0 - (cl : Int) < 0
  · go_wp2_with fail
    refine (szCredN_long u g ca cl cc r v0 (by omega) (by omega) hcs hmc _).mono ?_
    rintro e w1 ⟨rfl, hb⟩
    replace HB : Hid (Below w.heap.size w w1) := Below.on HB.out hb
    replace HL0 : Hid (BoxR w1 X [.slice a len cap, .int .i64 now]) := HL0.out.below hb
    replace HL1 : Hid (BoxR w1 (X + 1) [.int .i64 u, .int .i64 g, .slice ca cl cc, .bool r]) := HL1.out.below hb
    replace t0_0 : w1.cell? ⟨X, 0, none⟩ = some (.slice a len cap) := HL0.out.at0 0 _ rfl
    replace t0_1 : w1.cell? ⟨X, 1, none⟩ = some (.int .i64 now) := HL0.out.at0 1 _ rfl
    replace t1_0 : w1.cell? ⟨X + 1, 0, none⟩ = some (.int .i64 u) := HL1.out.at0 0 _ rfl
    replace t1_1 : w1.cell? ⟨X + 1, 1, none⟩ = some (.int .i64 g) := HL1.out.at0 1 _ rfl
    replace t1_2 : w1.cell? ⟨X + 1, 2, none⟩ = some (.slice ca cl cc) := HL1.out.at0 2 _ rfl
    replace t1_3 : w1.cell? ⟨X + 1, 3, none⟩ = some (.bool r) := HL1.out.at0 3 _ rfl
    clear hb
    go_wp2
    go_ret
    exact ⟨rfl, HB.out⟩
  have d1 : decide (v0 - (cl : Int) < 0) = false := by simp; omega
  have hl1 : cl ≤ 1048576 := by omega
  go_wp2_with fail
  refine (szCredN_short u g ca cl cc r v0 (by omega) (by omega) (by omega) _).mono ?_
  rintro e w1 ⟨rfl, hb⟩
  replace HB : Hid (Below w.heap.size w w1) := Below.on HB.out hb
  replace HL0 : Hid (BoxR w1 X [.slice a len cap, .int .i64 now]) := HL0.out.below hb
  replace HL1 : Hid (BoxR w1 (X + 1) [.int .i64 u, .int .i64 g, .slice ca cl cc, .bool r]) := HL1.out.below hb
  replace t0_0 : w1.cell? ⟨X, 0, none⟩ = some (.slice a len cap) := HL0.out.at0 0 _ rfl
  replace t0_1 : w1.cell? ⟨X, 1, none⟩ = some (.int .i64 now) := HL0.out.at0 1 _ rfl
  replace t1_0 : w1.cell? ⟨X + 1, 0, none⟩ = some (.int .i64 u) := HL1.out.at0 0 _ rfl
  replace t1_1 : w1.cell? ⟨X + 1, 1, none⟩ = some (.int .i64 g) := HL1.out.at0 1 _ rfl
  replace t1_2 : w1.cell? ⟨X + 1, 2, none⟩ = some (.slice ca cl cc) := HL1.out.at0 2 _ rfl
  replace t1_3 : w1.cell? ⟨X + 1, 3, none⟩ = some (.bool r) := HL1.out.at0 3 _ rfl
  clear hb hcs
  have HTo : Hid (∀ (V : World) (pt pc pz : Option Nat), WS w X a len cap l now u g ca cl cc r cf V pt pc pz → Calls Tryz.prog 11 #[.agg #[.slice a len cap, .int .i64 now]] V fun e w' => ∃ B, e = .returned (.agg #[.slice (some ⟨B, 0, none⟩) len len, .int .i64 now]) ∧ WS w X a len cap l now u g ca cl cc r cf w' (some B) pc pz) := (fun V pt pc pz h => Calls.mono (toTree_any a len cap l now hl0 HS0.out V (HI0.out.below h.bel)) (by
    rintro e w7 ⟨B, rfl, hO, hb7⟩
    have h2 := h.below hb7
    exact ⟨B, rfl, h2.bel, h2.l0, h2.l1, fun B2 e2 => by cases e2; exact hO, h2.oc, h2.bz⟩))
  have HCo : Hid (∀ (V : World) (pt pc pz : Option Nat), WS w X a len cap l now u g ca cl cc r cf V pt pc pz → Calls Tryz.prog 12 #[.agg #[.int .i64 u, .int .i64 g, .slice ca cl cc, .bool r]] V fun e w' => ∃ B, e = .returned (.agg #[.int .i64 u, .int .i64 g, .slice (some ⟨B, 0, none⟩) cl cl, .bool r]) ∧ WS w X a len cap l now u g ca cl cc r cf w' pt (some B) pz) := (fun V pt pc pz h => Calls.mono (toCred_any u g ca cl cc r cf hl1 V (HI1.out.below h.bel)) (by
    rintro e w7 ⟨B, rfl, hO, hgeO, hb7⟩
    have h2 := h.below hb7
    exact ⟨B, rfl, h2.bel, h2.l0, h2.l1, h2.ot, fun B2 e2 => by cases e2; exact hO, h2.bz⟩))
  obtain ⟨F, hF⟩ : ∃ F, F = wkF l now u g cl r cf s fo := ⟨_, rfl⟩
  have HSp : Hid (∀ (V : World) (B0 B1 : Nat) (pz : Option Nat), WS w X a len cap l now u g ca cl cc r cf V (some B0) (some B1) pz → Calls Tryz.prog 10 #[.agg #[.slice (some ⟨B0, 0, none⟩) len len, .int .i64 now], .agg #[.int .i64 u, .int .i64 g, .slice (some ⟨B1, 0, none⟩) cl cl, .bool r], .string s, .bool fo] V fun e w' => e = .returned (.agg #[.int .i64 F.n, .int .i64 F.d, .string F.nm, .int .i64 F.c]) ∧ WS w X a len cap l now u g ca cl cc r cf w' (some B0) (some B1) pz) := (fun V B0 B1 pz h => Calls.mono (sWalk_any _ len len l now u g _ cl cl r cf s fo hm HS0.out (by omega) V (h.ot _ rfl).nds (h.oc _ rfl)) (by
    rintro e w7 ⟨rfl, hb7⟩
    rw [← hF]
    exact ⟨rfl, h.below hb7⟩))
  have HIm : Hid (∀ (V : World) (E0 E1 : Nat), Below w.heap.size w V → OwnN V E0 l len → Ints (some ⟨E1, 0, none⟩) cl cf V → Calls Tryz.prog 13 #[.agg #[.slice (some ⟨E0, 0, none⟩) len len, .int .i64 now], .agg #[.int .i64 u, .int .i64 g, .slice (some ⟨E1, 0, none⟩) cl cl, .bool r], .string s, .bool fo] V fun e w' => e = .returned (.agg #[.int .i64 F.n, .int .i64 F.d, .string F.nm, .int .i64 F.c]) ∧ Below V.heap.size V w') := (fun V E0 E1 hb h0 h1 => Calls.mono (iWalk_any _ len len l now u g _ cl cl r cf s fo m e1 e2 e3 e4 hm HS0.out (by omega) V h0.nds h1 ((hb.cell (p := ⟨_, 0, none⟩) (block_lt_of_cell HMx.out)).trans HMx.out) (HEr.out.below hb)) (by
    rintro e w7 ⟨rfl, hb7⟩
    rw [← hF]
    exact ⟨rfl, hb7⟩))
  clear hF
  have HWs : Hid (WS w X a len cap l now u g ca cl cc r cf w1 .none .none .none) := ⟨HB.out, HL0.out, HL1.out, (fun B e => by cases e), (fun B e => by cases e), (fun B e => by cases e)⟩
  go_upto_region 10 with fail
  go_cut [10] (fun t wx => ∃ Z, t = .pointer (some ⟨Z, 0, none⟩) ∧ Hid (WF w X a len cap l now u g ca cl cc r cf F wx Z))
  case first =>
    clear HIm HB HL0 HL1 HEr HMx
    go_region_held3 (fun w' => w'.cell? ⟨X, 0, none⟩ = some (.slice a len cap) ∧ w'.cell? ⟨X, 1, none⟩ = some (.int .i64 now) ∧ w'.cell? ⟨X + 1, 0, none⟩ = some (.int .i64 u) ∧ w'.cell? ⟨X + 1, 1, none⟩ = some (.int .i64 g) ∧ w'.cell? ⟨X + 1, 2, none⟩ = some (.slice ca cl cc) ∧ w'.cell? ⟨X + 1, 3, none⟩ = some (.bool r)) (go_keep)
      (first
        | (go_at_call 10; refine' Calls.mono (HSp.out _ _ _ _ ?hs) ?_; (case hs => (first | exact HWs.out | exact HWs.out.drew | exact HWs.out.box | exact HWs.out.drbox | exact HWs.out.box.drew)); rintro e w7 ⟨rfl, hws⟩; replace HWs : Hid _ := hws; clear hws; replace t0_0 : w7.cell? ⟨X, 0, none⟩ = some (.slice a len cap) := HWs.out.l0.at0 0 _ rfl; replace t0_1 : w7.cell? ⟨X, 1, none⟩ = some (.int .i64 now) := HWs.out.l0.at0 1 _ rfl; replace t1_0 : w7.cell? ⟨X + 1, 0, none⟩ = some (.int .i64 u) := HWs.out.l1.at0 0 _ rfl; replace t1_1 : w7.cell? ⟨X + 1, 1, none⟩ = some (.int .i64 g) := HWs.out.l1.at0 1 _ rfl; replace t1_2 : w7.cell? ⟨X + 1, 2, none⟩ = some (.slice ca cl cc) := HWs.out.l1.at0 2 _ rfl; replace t1_3 : w7.cell? ⟨X + 1, 3, none⟩ = some (.bool r) := HWs.out.l1.at0 3 _ rfl; (try (obtain ⟨z0, z1, z2, z3, fz, nz1, nz2, nz3, nz4⟩ := HWs.out.zc)))
        | (go_at_call_of 11 (Value.slice a len cap); refine' Calls.mono (HTo.out _ _ _ _ ?hs) ?_; (case hs => (first | exact HWs.out | exact HWs.out.drew | exact HWs.out.box | exact HWs.out.drbox | exact HWs.out.box.drew)); rintro e w7 ⟨B0, rfl, hws⟩; replace HWs : Hid _ := hws; clear hws; replace t0_0 : w7.cell? ⟨X, 0, none⟩ = some (.slice a len cap) := HWs.out.l0.at0 0 _ rfl; replace t0_1 : w7.cell? ⟨X, 1, none⟩ = some (.int .i64 now) := HWs.out.l0.at0 1 _ rfl; replace t1_0 : w7.cell? ⟨X + 1, 0, none⟩ = some (.int .i64 u) := HWs.out.l1.at0 0 _ rfl; replace t1_1 : w7.cell? ⟨X + 1, 1, none⟩ = some (.int .i64 g) := HWs.out.l1.at0 1 _ rfl; replace t1_2 : w7.cell? ⟨X + 1, 2, none⟩ = some (.slice ca cl cc) := HWs.out.l1.at0 2 _ rfl; replace t1_3 : w7.cell? ⟨X + 1, 3, none⟩ = some (.bool r) := HWs.out.l1.at0 3 _ rfl)
        | (go_at_call_of 12 (Value.slice ca cl cc); refine' Calls.mono (HCo.out _ _ _ _ ?hs) ?_; (case hs => (first | exact HWs.out | exact HWs.out.drew | exact HWs.out.box | exact HWs.out.drbox | exact HWs.out.box.drew)); rintro e w7 ⟨B1, rfl, hws⟩; replace HWs : Hid _ := hws; clear hws; replace t0_0 : w7.cell? ⟨X, 0, none⟩ = some (.slice a len cap) := HWs.out.l0.at0 0 _ rfl; replace t0_1 : w7.cell? ⟨X, 1, none⟩ = some (.int .i64 now) := HWs.out.l0.at0 1 _ rfl; replace t1_0 : w7.cell? ⟨X + 1, 0, none⟩ = some (.int .i64 u) := HWs.out.l1.at0 0 _ rfl; replace t1_1 : w7.cell? ⟨X + 1, 1, none⟩ = some (.int .i64 g) := HWs.out.l1.at0 1 _ rfl; replace t1_2 : w7.cell? ⟨X + 1, 2, none⟩ = some (.slice ca cl cc) := HWs.out.l1.at0 2 _ rfl; replace t1_3 : w7.cell? ⟨X + 1, 3, none⟩ = some (.bool r) := HWs.out.l1.at0 3 _ rfl))
    all_goals
      go_wp2_with fail
      go_meet
      first
        | exact ⟨_, rfl, HWs.out.fin1 F⟩
        | exact ⟨_, rfl, HWs.out.fin2 F⟩
  case rest =>
  clear HTo HCo HSp HWs
  obtain ⟨Z, rfl, hWF⟩ := hcut
  obtain ⟨wp, hwp⟩ : ∃ wp, wp = wc := ⟨_, rfl⟩
  subst hwp
  clear HB HL0 HL1 t0_0 t0_1 t1_0 t1_1 t1_2 t1_3
  have HB : Hid (Below w.heap.size w wp) := hWF.out.bel
  have HL0 : Hid (BoxR wp X [.slice a len cap, .int .i64 now]) := hWF.out.l0
  have HL1 : Hid (BoxR wp (X + 1) [.int .i64 u, .int .i64 g, .slice ca cl cc, .bool r]) := hWF.out.l1
  have HZ : Hid (BoxR wp Z [.int .i64 F.n, .int .i64 F.d, .string F.nm, .int .i64 F.c]) := hWF.out.bz
  clear hWF
  have t0_0 : wp.cell? ⟨X, 0, none⟩ = some (.slice a len cap) := HL0.out.at0 0 _ rfl
  have t0_1 : wp.cell? ⟨X, 1, none⟩ = some (.int .i64 now) := HL0.out.at0 1 _ rfl
  have t1_0 : wp.cell? ⟨X + 1, 0, none⟩ = some (.int .i64 u) := HL1.out.at0 0 _ rfl
  have t1_1 : wp.cell? ⟨X + 1, 1, none⟩ = some (.int .i64 g) := HL1.out.at0 1 _ rfl
  have t1_2 : wp.cell? ⟨X + 1, 2, none⟩ = some (.slice ca cl cc) := HL1.out.at0 2 _ rfl
  have t1_3 : wp.cell? ⟨X + 1, 3, none⟩ = some (.bool r) := HL1.out.at0 3 _ rfl
  go_wp2_with fail
  refine (toTree_any a len cap l now hl0 HS0.out _ (HI0.out.below HB.out)).mono ?_
  rintro e w7 ⟨E0, rfl, hO, hb7⟩
  replace HB : Hid (Below w.heap.size w w7) := Below.on HB.out hb7
  replace HL0 : Hid (BoxR w7 X [.slice a len cap, .int .i64 now]) := HL0.out.below hb7
  replace HL1 : Hid (BoxR w7 (X + 1) [.int .i64 u, .int .i64 g, .slice ca cl cc, .bool r]) := HL1.out.below hb7
  replace HZ : Hid (BoxR w7 Z [.int .i64 F.n, .int .i64 F.d, .string F.nm, .int .i64 F.c]) := HZ.out.below hb7
  replace t0_0 : w7.cell? ⟨X, 0, none⟩ = some (.slice a len cap) := HL0.out.at0 0 _ rfl
  replace t0_1 : w7.cell? ⟨X, 1, none⟩ = some (.int .i64 now) := HL0.out.at0 1 _ rfl
  replace t1_0 : w7.cell? ⟨X + 1, 0, none⟩ = some (.int .i64 u) := HL1.out.at0 0 _ rfl
  replace t1_1 : w7.cell? ⟨X + 1, 1, none⟩ = some (.int .i64 g) := HL1.out.at0 1 _ rfl
  replace t1_2 : w7.cell? ⟨X + 1, 2, none⟩ = some (.slice ca cl cc) := HL1.out.at0 2 _ rfl
  replace t1_3 : w7.cell? ⟨X + 1, 3, none⟩ = some (.bool r) := HL1.out.at0 3 _ rfl
  have hbN : Below w7.heap.size w7 (w7.alloc (.cells #[.slice (some ⟨E0, 0, none⟩) len len, .int .i64 now] 35)) := bel_alloc _ _
  have HY0 : Hid (BoxR (w7.alloc (.cells #[.slice (some ⟨E0, 0, none⟩) len len, .int .i64 now] 35)) w7.heap.size [.slice (some ⟨E0, 0, none⟩) len len, .int .i64 now]) := boxR_new _ _ _
  have HP0 : Hid (OwnN (w7.alloc (.cells #[.slice (some ⟨E0, 0, none⟩) len len, .int .i64 now] 35)) E0 l len) := hO.below hbN
  clear t0_0 t0_1 t1_0 t1_1 t1_2 t1_3
  replace HB : Hid (Below w.heap.size w (w7.alloc (.cells #[.slice (some ⟨E0, 0, none⟩) len len, .int .i64 now] 35))) := Below.on HB.out hbN
  replace HL0 : Hid (BoxR (w7.alloc (.cells #[.slice (some ⟨E0, 0, none⟩) len len, .int .i64 now] 35)) X [.slice a len cap, .int .i64 now]) := HL0.out.below hbN
  replace HL1 : Hid (BoxR (w7.alloc (.cells #[.slice (some ⟨E0, 0, none⟩) len len, .int .i64 now] 35)) (X + 1) [.int .i64 u, .int .i64 g, .slice ca cl cc, .bool r]) := HL1.out.below hbN
  replace HZ : Hid (BoxR (w7.alloc (.cells #[.slice (some ⟨E0, 0, none⟩) len len, .int .i64 now] 35)) Z [.int .i64 F.n, .int .i64 F.d, .string F.nm, .int .i64 F.c]) := HZ.out.below hbN
  clear hbN hb7 hO
  go_upto_region 12 with fail
  generalize (w7.alloc (.cells #[.slice (some ⟨E0, 0, none⟩) len len, .int .i64 now] 35)) = w8 at HB HL0 HL1 HZ HY0 HP0 ⊢
  generalize w7.heap.size = Y0 at HY0 ⊢
  have t0_0 : w8.cell? ⟨X, 0, none⟩ = some (.slice a len cap) := HL0.out.at0 0 _ rfl
  have t0_1 : w8.cell? ⟨X, 1, none⟩ = some (.int .i64 now) := HL0.out.at0 1 _ rfl
  have t1_0 : w8.cell? ⟨X + 1, 0, none⟩ = some (.int .i64 u) := HL1.out.at0 0 _ rfl
  have t1_1 : w8.cell? ⟨X + 1, 1, none⟩ = some (.int .i64 g) := HL1.out.at0 1 _ rfl
  have t1_2 : w8.cell? ⟨X + 1, 2, none⟩ = some (.slice ca cl cc) := HL1.out.at0 2 _ rfl
  have t1_3 : w8.cell? ⟨X + 1, 3, none⟩ = some (.bool r) := HL1.out.at0 3 _ rfl
  go_wp2_with fail
  refine (toCred_any u g ca cl cc r cf hl1 _ (HI1.out.below HB.out)).mono ?_
  rintro e w7 ⟨E1, rfl, hO, hgeO, hb7⟩
  replace HB : Hid (Below w.heap.size w w7) := Below.on HB.out hb7
  replace HL0 : Hid (BoxR w7 X [.slice a len cap, .int .i64 now]) := HL0.out.below hb7
  replace HL1 : Hid (BoxR w7 (X + 1) [.int .i64 u, .int .i64 g, .slice ca cl cc, .bool r]) := HL1.out.below hb7
  replace HZ : Hid (BoxR w7 Z [.int .i64 F.n, .int .i64 F.d, .string F.nm, .int .i64 F.c]) := HZ.out.below hb7
  replace HY0 : Hid (BoxR w7 Y0 [.slice (some ⟨E0, 0, none⟩) len len, .int .i64 now]) := HY0.out.below hb7
  replace HP0 : Hid (OwnN w7 E0 l len) := HP0.out.below hb7
  replace t0_0 : w7.cell? ⟨X, 0, none⟩ = some (.slice a len cap) := HL0.out.at0 0 _ rfl
  replace t0_1 : w7.cell? ⟨X, 1, none⟩ = some (.int .i64 now) := HL0.out.at0 1 _ rfl
  replace t1_0 : w7.cell? ⟨X + 1, 0, none⟩ = some (.int .i64 u) := HL1.out.at0 0 _ rfl
  replace t1_1 : w7.cell? ⟨X + 1, 1, none⟩ = some (.int .i64 g) := HL1.out.at0 1 _ rfl
  replace t1_2 : w7.cell? ⟨X + 1, 2, none⟩ = some (.slice ca cl cc) := HL1.out.at0 2 _ rfl
  replace t1_3 : w7.cell? ⟨X + 1, 3, none⟩ = some (.bool r) := HL1.out.at0 3 _ rfl
  have hbN : Below w7.heap.size w7 (w7.alloc (.cells #[.int .i64 u, .int .i64 g, .slice (some ⟨E1, 0, none⟩) cl cl, .bool r] 37)) := bel_alloc _ _
  have HY1 : Hid (BoxR (w7.alloc (.cells #[.int .i64 u, .int .i64 g, .slice (some ⟨E1, 0, none⟩) cl cl, .bool r] 37)) w7.heap.size [.int .i64 u, .int .i64 g, .slice (some ⟨E1, 0, none⟩) cl cl, .bool r]) := boxR_new _ _ _
  have HP1 : Hid (Ints (some ⟨E1, 0, none⟩) cl cf (w7.alloc (.cells #[.int .i64 u, .int .i64 g, .slice (some ⟨E1, 0, none⟩) cl cl, .bool r] 37))) := hO.below hbN
  clear t0_0 t0_1 t1_0 t1_1 t1_2 t1_3
  replace HB : Hid (Below w.heap.size w (w7.alloc (.cells #[.int .i64 u, .int .i64 g, .slice (some ⟨E1, 0, none⟩) cl cl, .bool r] 37))) := Below.on HB.out hbN
  replace HL0 : Hid (BoxR (w7.alloc (.cells #[.int .i64 u, .int .i64 g, .slice (some ⟨E1, 0, none⟩) cl cl, .bool r] 37)) X [.slice a len cap, .int .i64 now]) := HL0.out.below hbN
  replace HL1 : Hid (BoxR (w7.alloc (.cells #[.int .i64 u, .int .i64 g, .slice (some ⟨E1, 0, none⟩) cl cl, .bool r] 37)) (X + 1) [.int .i64 u, .int .i64 g, .slice ca cl cc, .bool r]) := HL1.out.below hbN
  replace HZ : Hid (BoxR (w7.alloc (.cells #[.int .i64 u, .int .i64 g, .slice (some ⟨E1, 0, none⟩) cl cl, .bool r] 37)) Z [.int .i64 F.n, .int .i64 F.d, .string F.nm, .int .i64 F.c]) := HZ.out.below hbN
  replace HY0 : Hid (BoxR (w7.alloc (.cells #[.int .i64 u, .int .i64 g, .slice (some ⟨E1, 0, none⟩) cl cl, .bool r] 37)) Y0 [.slice (some ⟨E0, 0, none⟩) len len, .int .i64 now]) := HY0.out.below hbN
  replace HP0 : Hid (OwnN (w7.alloc (.cells #[.int .i64 u, .int .i64 g, .slice (some ⟨E1, 0, none⟩) cl cl, .bool r] 37)) E0 l len) := HP0.out.below hbN
  clear hbN hb7 hO
  go_upto_region 13 with fail
  generalize (w7.alloc (.cells #[.int .i64 u, .int .i64 g, .slice (some ⟨E1, 0, none⟩) cl cl, .bool r] 37)) = w8 at HB HL0 HL1 HZ HY0 HP0 HY1 HP1 ⊢
  generalize w7.heap.size = Y1 at HY1 ⊢
  have t0_0 : w8.cell? ⟨X, 0, none⟩ = some (.slice a len cap) := HL0.out.at0 0 _ rfl
  have t0_1 : w8.cell? ⟨X, 1, none⟩ = some (.int .i64 now) := HL0.out.at0 1 _ rfl
  have t1_0 : w8.cell? ⟨X + 1, 0, none⟩ = some (.int .i64 u) := HL1.out.at0 0 _ rfl
  have t1_1 : w8.cell? ⟨X + 1, 1, none⟩ = some (.int .i64 g) := HL1.out.at0 1 _ rfl
  have t1_2 : w8.cell? ⟨X + 1, 2, none⟩ = some (.slice ca cl cc) := HL1.out.at0 2 _ rfl
  have t1_3 : w8.cell? ⟨X + 1, 3, none⟩ = some (.bool r) := HL1.out.at0 3 _ rfl
  have y0_0 : w8.cell? ⟨Y0, 0, none⟩ = some (.slice (some ⟨E0, 0, none⟩) len len) := HY0.out.at0 0 _ rfl
  have y0_1 : w8.cell? ⟨Y0, 1, none⟩ = some (.int .i64 now) := HY0.out.at0 1 _ rfl
  have y1_0 : w8.cell? ⟨Y1, 0, none⟩ = some (.int .i64 u) := HY1.out.at0 0 _ rfl
  have y1_1 : w8.cell? ⟨Y1, 1, none⟩ = some (.int .i64 g) := HY1.out.at0 1 _ rfl
  have y1_2 : w8.cell? ⟨Y1, 2, none⟩ = some (.slice (some ⟨E1, 0, none⟩) cl cl) := HY1.out.at0 2 _ rfl
  have y1_3 : w8.cell? ⟨Y1, 3, none⟩ = some (.bool r) := HY1.out.at0 3 _ rfl
  go_wp2_with fail
  refine (HIm.out _ _ _ HB.out HP0.out HP1.out).mono ?_
  rintro e w7 ⟨rfl, hb7⟩
  replace HB : Hid (Below w.heap.size w w7) := Below.on HB.out hb7
  replace HL0 : Hid (BoxR w7 X [.slice a len cap, .int .i64 now]) := HL0.out.below hb7
  replace HL1 : Hid (BoxR w7 (X + 1) [.int .i64 u, .int .i64 g, .slice ca cl cc, .bool r]) := HL1.out.below hb7
  replace HZ : Hid (BoxR w7 Z [.int .i64 F.n, .int .i64 F.d, .string F.nm, .int .i64 F.c]) := HZ.out.below hb7
  replace HY0 : Hid (BoxR w7 Y0 [.slice (some ⟨E0, 0, none⟩) len len, .int .i64 now]) := HY0.out.below hb7
  replace HP0 : Hid (OwnN w7 E0 l len) := HP0.out.below hb7
  replace HY1 : Hid (BoxR w7 Y1 [.int .i64 u, .int .i64 g, .slice (some ⟨E1, 0, none⟩) cl cl, .bool r]) := HY1.out.below hb7
  replace HP1 : Hid (Ints (some ⟨E1, 0, none⟩) cl cf w7) := HP1.out.below hb7
  replace t0_0 : w7.cell? ⟨X, 0, none⟩ = some (.slice a len cap) := HL0.out.at0 0 _ rfl
  replace t0_1 : w7.cell? ⟨X, 1, none⟩ = some (.int .i64 now) := HL0.out.at0 1 _ rfl
  replace t1_0 : w7.cell? ⟨X + 1, 0, none⟩ = some (.int .i64 u) := HL1.out.at0 0 _ rfl
  replace t1_1 : w7.cell? ⟨X + 1, 1, none⟩ = some (.int .i64 g) := HL1.out.at0 1 _ rfl
  replace t1_2 : w7.cell? ⟨X + 1, 2, none⟩ = some (.slice ca cl cc) := HL1.out.at0 2 _ rfl
  replace t1_3 : w7.cell? ⟨X + 1, 3, none⟩ = some (.bool r) := HL1.out.at0 3 _ rfl
  have hbN : Below w7.heap.size w7 (w7.alloc (.cells #[.int .i64 F.n, .int .i64 F.d, .string F.nm, .int .i64 F.c] 31)) := bel_alloc _ _
  have HU : Hid (BoxR (w7.alloc (.cells #[.int .i64 F.n, .int .i64 F.d, .string F.nm, .int .i64 F.c] 31)) w7.heap.size [.int .i64 F.n, .int .i64 F.d, .string F.nm, .int .i64 F.c]) := boxR_new _ _ _
  clear t0_0 t0_1 t1_0 t1_1 t1_2 t1_3 y0_0 y0_1 y1_0 y1_1 y1_2 y1_3
  replace HB : Hid (Below w.heap.size w (w7.alloc (.cells #[.int .i64 F.n, .int .i64 F.d, .string F.nm, .int .i64 F.c] 31))) := Below.on HB.out hbN
  replace HL0 : Hid (BoxR (w7.alloc (.cells #[.int .i64 F.n, .int .i64 F.d, .string F.nm, .int .i64 F.c] 31)) X [.slice a len cap, .int .i64 now]) := HL0.out.below hbN
  replace HL1 : Hid (BoxR (w7.alloc (.cells #[.int .i64 F.n, .int .i64 F.d, .string F.nm, .int .i64 F.c] 31)) (X + 1) [.int .i64 u, .int .i64 g, .slice ca cl cc, .bool r]) := HL1.out.below hbN
  replace HZ : Hid (BoxR (w7.alloc (.cells #[.int .i64 F.n, .int .i64 F.d, .string F.nm, .int .i64 F.c] 31)) Z [.int .i64 F.n, .int .i64 F.d, .string F.nm, .int .i64 F.c]) := HZ.out.below hbN
  replace HY0 : Hid (BoxR (w7.alloc (.cells #[.int .i64 F.n, .int .i64 F.d, .string F.nm, .int .i64 F.c] 31)) Y0 [.slice (some ⟨E0, 0, none⟩) len len, .int .i64 now]) := HY0.out.below hbN
  replace HP0 : Hid (OwnN (w7.alloc (.cells #[.int .i64 F.n, .int .i64 F.d, .string F.nm, .int .i64 F.c] 31)) E0 l len) := HP0.out.below hbN
  replace HY1 : Hid (BoxR (w7.alloc (.cells #[.int .i64 F.n, .int .i64 F.d, .string F.nm, .int .i64 F.c] 31)) Y1 [.int .i64 u, .int .i64 g, .slice (some ⟨E1, 0, none⟩) cl cl, .bool r]) := HY1.out.below hbN
  replace HP1 : Hid (Ints (some ⟨E1, 0, none⟩) cl cf (w7.alloc (.cells #[.int .i64 F.n, .int .i64 F.d, .string F.nm, .int .i64 F.c] 31))) := HP1.out.below hbN
  clear hbN hb7 HIm
  go_upto_region 14 with fail
  generalize (w7.alloc (.cells #[.int .i64 F.n, .int .i64 F.d, .string F.nm, .int .i64 F.c] 31)) = w8 at HB HL0 HL1 HZ HY0 HP0 HY1 HP1 HU ⊢
  generalize w7.heap.size = U at HU ⊢
  have t0_0 : w8.cell? ⟨X, 0, none⟩ = some (.slice a len cap) := HL0.out.at0 0 _ rfl
  have t0_1 : w8.cell? ⟨X, 1, none⟩ = some (.int .i64 now) := HL0.out.at0 1 _ rfl
  have t1_0 : w8.cell? ⟨X + 1, 0, none⟩ = some (.int .i64 u) := HL1.out.at0 0 _ rfl
  have t1_1 : w8.cell? ⟨X + 1, 1, none⟩ = some (.int .i64 g) := HL1.out.at0 1 _ rfl
  have t1_2 : w8.cell? ⟨X + 1, 2, none⟩ = some (.slice ca cl cc) := HL1.out.at0 2 _ rfl
  have t1_3 : w8.cell? ⟨X + 1, 3, none⟩ = some (.bool r) := HL1.out.at0 3 _ rfl
  have y0_0 : w8.cell? ⟨Y0, 0, none⟩ = some (.slice (some ⟨E0, 0, none⟩) len len) := HY0.out.at0 0 _ rfl
  have y0_1 : w8.cell? ⟨Y0, 1, none⟩ = some (.int .i64 now) := HY0.out.at0 1 _ rfl
  have y1_0 : w8.cell? ⟨Y1, 0, none⟩ = some (.int .i64 u) := HY1.out.at0 0 _ rfl
  have y1_1 : w8.cell? ⟨Y1, 1, none⟩ = some (.int .i64 g) := HY1.out.at0 1 _ rfl
  have y1_2 : w8.cell? ⟨Y1, 2, none⟩ = some (.slice (some ⟨E1, 0, none⟩) cl cl) := HY1.out.at0 2 _ rfl
  have y1_3 : w8.cell? ⟨Y1, 3, none⟩ = some (.bool r) := HY1.out.at0 3 _ rfl
  have z0 : w8.cell? ⟨Z, 0, none⟩ = some (.int .i64 F.n) := HZ.out.at0 0 _ rfl
  have z1 : w8.cell? ⟨Z, 1, none⟩ = some (.int .i64 F.d) := HZ.out.at0 1 _ rfl
  have z2 : w8.cell? ⟨Z, 2, none⟩ = some (.string F.nm) := HZ.out.at0 2 _ rfl
  have z3 : w8.cell? ⟨Z, 3, none⟩ = some (.int .i64 F.c) := HZ.out.at0 3 _ rfl
  have q0 : w8.cell? ⟨U, 0, none⟩ = some (.int .i64 F.n) := HU.out.at0 0 _ rfl
  have q1 : w8.cell? ⟨U, 1, none⟩ = some (.int .i64 F.d) := HU.out.at0 1 _ rfl
  have q2 : w8.cell? ⟨U, 2, none⟩ = some (.string F.nm) := HU.out.at0 2 _ rfl
  have q3 : w8.cell? ⟨U, 3, none⟩ = some (.int .i64 F.c) := HU.out.at0 3 _ rfl
  go_wp2_with fail
  refine (eqWalkOut_any F _).mono ?_
  rintro e w9 ⟨rfl, hb⟩
  clear z0 z1 z2 z3 q0 q1 q2 q3
  clear HZ HU
  replace HB : Hid (Below w.heap.size w w9) := Below.on HB.out hb
  replace HL0 : Hid (BoxR w9 X [.slice a len cap, .int .i64 now]) := HL0.out.below hb
  replace HL1 : Hid (BoxR w9 (X + 1) [.int .i64 u, .int .i64 g, .slice ca cl cc, .bool r]) := HL1.out.below hb
  replace HY0 : Hid (BoxR w9 Y0 [.slice (some ⟨E0, 0, none⟩) len len, .int .i64 now]) := HY0.out.below hb
  replace HP0 : Hid (OwnN w9 E0 l len) := HP0.out.below hb
  replace HY1 : Hid (BoxR w9 Y1 [.int .i64 u, .int .i64 g, .slice (some ⟨E1, 0, none⟩) cl cl, .bool r]) := HY1.out.below hb
  replace HP1 : Hid (Ints (some ⟨E1, 0, none⟩) cl cf w9) := HP1.out.below hb
  replace t0_0 : w9.cell? ⟨X, 0, none⟩ = some (.slice a len cap) := HL0.out.at0 0 _ rfl
  replace t0_1 : w9.cell? ⟨X, 1, none⟩ = some (.int .i64 now) := HL0.out.at0 1 _ rfl
  replace t1_0 : w9.cell? ⟨X + 1, 0, none⟩ = some (.int .i64 u) := HL1.out.at0 0 _ rfl
  replace t1_1 : w9.cell? ⟨X + 1, 1, none⟩ = some (.int .i64 g) := HL1.out.at0 1 _ rfl
  replace t1_2 : w9.cell? ⟨X + 1, 2, none⟩ = some (.slice ca cl cc) := HL1.out.at0 2 _ rfl
  replace t1_3 : w9.cell? ⟨X + 1, 3, none⟩ = some (.bool r) := HL1.out.at0 3 _ rfl
  replace y0_0 : w9.cell? ⟨Y0, 0, none⟩ = some (.slice (some ⟨E0, 0, none⟩) len len) := HY0.out.at0 0 _ rfl
  replace y0_1 : w9.cell? ⟨Y0, 1, none⟩ = some (.int .i64 now) := HY0.out.at0 1 _ rfl
  replace y1_0 : w9.cell? ⟨Y1, 0, none⟩ = some (.int .i64 u) := HY1.out.at0 0 _ rfl
  replace y1_1 : w9.cell? ⟨Y1, 1, none⟩ = some (.int .i64 g) := HY1.out.at0 1 _ rfl
  replace y1_2 : w9.cell? ⟨Y1, 2, none⟩ = some (.slice (some ⟨E1, 0, none⟩) cl cl) := HY1.out.at0 2 _ rfl
  replace y1_3 : w9.cell? ⟨Y1, 3, none⟩ = some (.bool r) := HY1.out.at0 3 _ rfl
  clear hb
  go_upto_region 16 with fail
  go_cut [51] (fun t wx => t = .bool false ∧ Hid (Below w.heap.size w wx) ∧ Hid (BoxR wx X [.slice a len cap, .int .i64 now]) ∧ Hid (BoxR wx (X + 1) [.int .i64 u, .int .i64 g, .slice ca cl cc, .bool r]) ∧ Hid (BoxR wx Y0 [.slice (some ⟨E0, 0, none⟩) len len, .int .i64 now]) ∧ Hid (OwnN wx E0 l len) ∧ Hid (BoxR wx Y1 [.int .i64 u, .int .i64 g, .slice (some ⟨E1, 0, none⟩) cl cl, .bool r]) ∧ Hid (Ints (some ⟨E1, 0, none⟩) cl cf wx))
  case first =>
    go_region_held3 (fun w' => w'.cell? ⟨Y0, 0, none⟩ = some (.slice (some ⟨E0, 0, none⟩) len len) ∧ w'.cell? ⟨Y0, 1, none⟩ = some (.int .i64 now) ∧ w'.cell? ⟨X, 0, none⟩ = some (.slice a len cap) ∧ w'.cell? ⟨X, 1, none⟩ = some (.int .i64 now)) (go_keep)
      (first
        | (go_at_call 15; refine Calls.mono (eqTree_any _ _ len len len l now hl0 HS0.out _ HP0.out.nds HQ.out.nds) ?_; rintro e w9 ⟨rfl, hb⟩; replace HB : Hid (Below w.heap.size w w9) := Below.on HB.out hb; replace HL0 : Hid (BoxR w9 X [.slice a len cap, .int .i64 now]) := HL0.out.below hb; replace HL1 : Hid (BoxR w9 (X + 1) [.int .i64 u, .int .i64 g, .slice ca cl cc, .bool r]) := HL1.out.below hb; replace HY0 : Hid (BoxR w9 Y0 [.slice (some ⟨E0, 0, none⟩) len len, .int .i64 now]) := HY0.out.below hb; replace HP0 : Hid (OwnN w9 E0 l len) := HP0.out.below hb; replace HY1 : Hid (BoxR w9 Y1 [.int .i64 u, .int .i64 g, .slice (some ⟨E1, 0, none⟩) cl cl, .bool r]) := HY1.out.below hb; replace HP1 : Hid (Ints (some ⟨E1, 0, none⟩) cl cf w9) := HP1.out.below hb; replace t0_0 : w9.cell? ⟨X, 0, none⟩ = some (.slice a len cap) := HL0.out.at0 0 _ rfl; replace t0_1 : w9.cell? ⟨X, 1, none⟩ = some (.int .i64 now) := HL0.out.at0 1 _ rfl; replace t1_0 : w9.cell? ⟨X + 1, 0, none⟩ = some (.int .i64 u) := HL1.out.at0 0 _ rfl; replace t1_1 : w9.cell? ⟨X + 1, 1, none⟩ = some (.int .i64 g) := HL1.out.at0 1 _ rfl; replace t1_2 : w9.cell? ⟨X + 1, 2, none⟩ = some (.slice ca cl cc) := HL1.out.at0 2 _ rfl; replace t1_3 : w9.cell? ⟨X + 1, 3, none⟩ = some (.bool r) := HL1.out.at0 3 _ rfl; replace y0_0 : w9.cell? ⟨Y0, 0, none⟩ = some (.slice (some ⟨E0, 0, none⟩) len len) := HY0.out.at0 0 _ rfl; replace y0_1 : w9.cell? ⟨Y0, 1, none⟩ = some (.int .i64 now) := HY0.out.at0 1 _ rfl; replace y1_0 : w9.cell? ⟨Y1, 0, none⟩ = some (.int .i64 u) := HY1.out.at0 0 _ rfl; replace y1_1 : w9.cell? ⟨Y1, 1, none⟩ = some (.int .i64 g) := HY1.out.at0 1 _ rfl; replace y1_2 : w9.cell? ⟨Y1, 2, none⟩ = some (.slice (some ⟨E1, 0, none⟩) cl cl) := HY1.out.at0 2 _ rfl; replace y1_3 : w9.cell? ⟨Y1, 3, none⟩ = some (.bool r) := HY1.out.at0 3 _ rfl; clear hb HQ)
        | (go_at_call 11; refine Calls.mono (toTree_any a len cap l now hl0 HS0.out _ ?hs) ?_; (case hs => (first | exact HI0.out.below HB.out | exact HI0.out.below (below_drewT HB.out))); rintro e w7 ⟨Q, rfl, hO, hb7⟩; replace HB : Hid (Below w.heap.size w w7) := Below.on HB.out ⟨hb7.os, hb7.tape, hb7.output, hb7.size, hb7.block⟩; replace HL0 : Hid (BoxR w7 X [.slice a len cap, .int .i64 now]) := HL0.out.below ⟨hb7.os, hb7.tape, hb7.output, hb7.size, hb7.block⟩; replace HL1 : Hid (BoxR w7 (X + 1) [.int .i64 u, .int .i64 g, .slice ca cl cc, .bool r]) := HL1.out.below ⟨hb7.os, hb7.tape, hb7.output, hb7.size, hb7.block⟩; replace HY0 : Hid (BoxR w7 Y0 [.slice (some ⟨E0, 0, none⟩) len len, .int .i64 now]) := HY0.out.below ⟨hb7.os, hb7.tape, hb7.output, hb7.size, hb7.block⟩; replace HP0 : Hid (OwnN w7 E0 l len) := HP0.out.below ⟨hb7.os, hb7.tape, hb7.output, hb7.size, hb7.block⟩; replace HY1 : Hid (BoxR w7 Y1 [.int .i64 u, .int .i64 g, .slice (some ⟨E1, 0, none⟩) cl cl, .bool r]) := HY1.out.below ⟨hb7.os, hb7.tape, hb7.output, hb7.size, hb7.block⟩; replace HP1 : Hid (Ints (some ⟨E1, 0, none⟩) cl cf w7) := HP1.out.below ⟨hb7.os, hb7.tape, hb7.output, hb7.size, hb7.block⟩; replace t0_0 : w7.cell? ⟨X, 0, none⟩ = some (.slice a len cap) := HL0.out.at0 0 _ rfl; replace t0_1 : w7.cell? ⟨X, 1, none⟩ = some (.int .i64 now) := HL0.out.at0 1 _ rfl; replace t1_0 : w7.cell? ⟨X + 1, 0, none⟩ = some (.int .i64 u) := HL1.out.at0 0 _ rfl; replace t1_1 : w7.cell? ⟨X + 1, 1, none⟩ = some (.int .i64 g) := HL1.out.at0 1 _ rfl; replace t1_2 : w7.cell? ⟨X + 1, 2, none⟩ = some (.slice ca cl cc) := HL1.out.at0 2 _ rfl; replace t1_3 : w7.cell? ⟨X + 1, 3, none⟩ = some (.bool r) := HL1.out.at0 3 _ rfl; replace y0_0 : w7.cell? ⟨Y0, 0, none⟩ = some (.slice (some ⟨E0, 0, none⟩) len len) := HY0.out.at0 0 _ rfl; replace y0_1 : w7.cell? ⟨Y0, 1, none⟩ = some (.int .i64 now) := HY0.out.at0 1 _ rfl; replace y1_0 : w7.cell? ⟨Y1, 0, none⟩ = some (.int .i64 u) := HY1.out.at0 0 _ rfl; replace y1_1 : w7.cell? ⟨Y1, 1, none⟩ = some (.int .i64 g) := HY1.out.at0 1 _ rfl; replace y1_2 : w7.cell? ⟨Y1, 2, none⟩ = some (.slice (some ⟨E1, 0, none⟩) cl cl) := HY1.out.at0 2 _ rfl; replace y1_3 : w7.cell? ⟨Y1, 3, none⟩ = some (.bool r) := HY1.out.at0 3 _ rfl; have HQ : Hid (OwnN w7 Q l len) := hO; clear hO hb7))
    all_goals go_wp2
    all_goals go_meet
    all_goals exact ⟨rfl, HB, HL0, HL1, HY0, HP0, HY1, HP1⟩
  case rest =>
  obtain ⟨rfl, HBx, HL0x, HL1x, HY0x, HP0x, HY1x, HP1x⟩ := hcut
  obtain ⟨wq, hwq⟩ : ∃ wq, wq = wc := ⟨_, rfl⟩
  subst hwq
  clear y0_0 y0_1 y1_0 y1_1 y1_2 y1_3 HB HL0 HL1 HY0 HP0 HY1 HP1 t0_0 t0_1 t1_0 t1_1 t1_2 t1_3
  have HB : Hid (Below w.heap.size w wq) := HBx
  have HL0 : Hid (BoxR wq X [.slice a len cap, .int .i64 now]) := HL0x
  have HL1 : Hid (BoxR wq (X + 1) [.int .i64 u, .int .i64 g, .slice ca cl cc, .bool r]) := HL1x
  have HY0 : Hid (BoxR wq Y0 [.slice (some ⟨E0, 0, none⟩) len len, .int .i64 now]) := HY0x
  have HP0 : Hid (OwnN wq E0 l len) := HP0x
  have HY1 : Hid (BoxR wq Y1 [.int .i64 u, .int .i64 g, .slice (some ⟨E1, 0, none⟩) cl cl, .bool r]) := HY1x
  have HP1 : Hid (Ints (some ⟨E1, 0, none⟩) cl cf wq) := HP1x
  clear HBx HL0x HL1x HY0x HP0x HY1x HP1x
  have t0_0 : wq.cell? ⟨X, 0, none⟩ = some (.slice a len cap) := HL0.out.at0 0 _ rfl
  have t0_1 : wq.cell? ⟨X, 1, none⟩ = some (.int .i64 now) := HL0.out.at0 1 _ rfl
  have t1_0 : wq.cell? ⟨X + 1, 0, none⟩ = some (.int .i64 u) := HL1.out.at0 0 _ rfl
  have t1_1 : wq.cell? ⟨X + 1, 1, none⟩ = some (.int .i64 g) := HL1.out.at0 1 _ rfl
  have t1_2 : wq.cell? ⟨X + 1, 2, none⟩ = some (.slice ca cl cc) := HL1.out.at0 2 _ rfl
  have t1_3 : wq.cell? ⟨X + 1, 3, none⟩ = some (.bool r) := HL1.out.at0 3 _ rfl
  have y0_0 : wq.cell? ⟨Y0, 0, none⟩ = some (.slice (some ⟨E0, 0, none⟩) len len) := HY0.out.at0 0 _ rfl
  have y0_1 : wq.cell? ⟨Y0, 1, none⟩ = some (.int .i64 now) := HY0.out.at0 1 _ rfl
  have y1_0 : wq.cell? ⟨Y1, 0, none⟩ = some (.int .i64 u) := HY1.out.at0 0 _ rfl
  have y1_1 : wq.cell? ⟨Y1, 1, none⟩ = some (.int .i64 g) := HY1.out.at0 1 _ rfl
  have y1_2 : wq.cell? ⟨Y1, 2, none⟩ = some (.slice (some ⟨E1, 0, none⟩) cl cl) := HY1.out.at0 2 _ rfl
  have y1_3 : wq.cell? ⟨Y1, 3, none⟩ = some (.bool r) := HY1.out.at0 3 _ rfl
  go_upto_region 18 with fail
  go_region_held3 (fun w' => w'.cell? ⟨Y1, 0, none⟩ = some (.int .i64 u) ∧ w'.cell? ⟨Y1, 1, none⟩ = some (.int .i64 g) ∧ w'.cell? ⟨Y1, 2, none⟩ = some (.slice (some ⟨E1, 0, none⟩) cl cl) ∧ w'.cell? ⟨Y1, 3, none⟩ = some (.bool r) ∧ w'.cell? ⟨X + 1, 0, none⟩ = some (.int .i64 u) ∧ w'.cell? ⟨X + 1, 1, none⟩ = some (.int .i64 g) ∧ w'.cell? ⟨X + 1, 2, none⟩ = some (.slice ca cl cc) ∧ w'.cell? ⟨X + 1, 3, none⟩ = some (.bool r)) (go_keep)
    (first
      | (go_at_call 16; refine Calls.mono (eqCred_any u g _ _ cl cl cl r cf hl1 _ HP1.out HQ.out) ?_; rintro e w9 ⟨rfl, hb⟩; replace HB : Hid (Below w.heap.size w w9) := Below.on HB.out hb; replace HL0 : Hid (BoxR w9 X [.slice a len cap, .int .i64 now]) := HL0.out.below hb; replace HL1 : Hid (BoxR w9 (X + 1) [.int .i64 u, .int .i64 g, .slice ca cl cc, .bool r]) := HL1.out.below hb; replace HY0 : Hid (BoxR w9 Y0 [.slice (some ⟨E0, 0, none⟩) len len, .int .i64 now]) := HY0.out.below hb; replace HP0 : Hid (OwnN w9 E0 l len) := HP0.out.below hb; replace HY1 : Hid (BoxR w9 Y1 [.int .i64 u, .int .i64 g, .slice (some ⟨E1, 0, none⟩) cl cl, .bool r]) := HY1.out.below hb; replace HP1 : Hid (Ints (some ⟨E1, 0, none⟩) cl cf w9) := HP1.out.below hb; replace t0_0 : w9.cell? ⟨X, 0, none⟩ = some (.slice a len cap) := HL0.out.at0 0 _ rfl; replace t0_1 : w9.cell? ⟨X, 1, none⟩ = some (.int .i64 now) := HL0.out.at0 1 _ rfl; replace t1_0 : w9.cell? ⟨X + 1, 0, none⟩ = some (.int .i64 u) := HL1.out.at0 0 _ rfl; replace t1_1 : w9.cell? ⟨X + 1, 1, none⟩ = some (.int .i64 g) := HL1.out.at0 1 _ rfl; replace t1_2 : w9.cell? ⟨X + 1, 2, none⟩ = some (.slice ca cl cc) := HL1.out.at0 2 _ rfl; replace t1_3 : w9.cell? ⟨X + 1, 3, none⟩ = some (.bool r) := HL1.out.at0 3 _ rfl; replace y0_0 : w9.cell? ⟨Y0, 0, none⟩ = some (.slice (some ⟨E0, 0, none⟩) len len) := HY0.out.at0 0 _ rfl; replace y0_1 : w9.cell? ⟨Y0, 1, none⟩ = some (.int .i64 now) := HY0.out.at0 1 _ rfl; replace y1_0 : w9.cell? ⟨Y1, 0, none⟩ = some (.int .i64 u) := HY1.out.at0 0 _ rfl; replace y1_1 : w9.cell? ⟨Y1, 1, none⟩ = some (.int .i64 g) := HY1.out.at0 1 _ rfl; replace y1_2 : w9.cell? ⟨Y1, 2, none⟩ = some (.slice (some ⟨E1, 0, none⟩) cl cl) := HY1.out.at0 2 _ rfl; replace y1_3 : w9.cell? ⟨Y1, 3, none⟩ = some (.bool r) := HY1.out.at0 3 _ rfl; clear hb HQ)
      | (go_at_call 12; refine Calls.mono (toCred_any u g ca cl cc r cf hl1 _ ?hs) ?_; (case hs => (first | exact HI1.out.below HB.out | exact HI1.out.below (below_drewT HB.out))); rintro e w7 ⟨Q, rfl, hO, hgeO, hb7⟩; replace HB : Hid (Below w.heap.size w w7) := Below.on HB.out ⟨hb7.os, hb7.tape, hb7.output, hb7.size, hb7.block⟩; replace HL0 : Hid (BoxR w7 X [.slice a len cap, .int .i64 now]) := HL0.out.below ⟨hb7.os, hb7.tape, hb7.output, hb7.size, hb7.block⟩; replace HL1 : Hid (BoxR w7 (X + 1) [.int .i64 u, .int .i64 g, .slice ca cl cc, .bool r]) := HL1.out.below ⟨hb7.os, hb7.tape, hb7.output, hb7.size, hb7.block⟩; replace HY0 : Hid (BoxR w7 Y0 [.slice (some ⟨E0, 0, none⟩) len len, .int .i64 now]) := HY0.out.below ⟨hb7.os, hb7.tape, hb7.output, hb7.size, hb7.block⟩; replace HP0 : Hid (OwnN w7 E0 l len) := HP0.out.below ⟨hb7.os, hb7.tape, hb7.output, hb7.size, hb7.block⟩; replace HY1 : Hid (BoxR w7 Y1 [.int .i64 u, .int .i64 g, .slice (some ⟨E1, 0, none⟩) cl cl, .bool r]) := HY1.out.below ⟨hb7.os, hb7.tape, hb7.output, hb7.size, hb7.block⟩; replace HP1 : Hid (Ints (some ⟨E1, 0, none⟩) cl cf w7) := HP1.out.below ⟨hb7.os, hb7.tape, hb7.output, hb7.size, hb7.block⟩; replace t0_0 : w7.cell? ⟨X, 0, none⟩ = some (.slice a len cap) := HL0.out.at0 0 _ rfl; replace t0_1 : w7.cell? ⟨X, 1, none⟩ = some (.int .i64 now) := HL0.out.at0 1 _ rfl; replace t1_0 : w7.cell? ⟨X + 1, 0, none⟩ = some (.int .i64 u) := HL1.out.at0 0 _ rfl; replace t1_1 : w7.cell? ⟨X + 1, 1, none⟩ = some (.int .i64 g) := HL1.out.at0 1 _ rfl; replace t1_2 : w7.cell? ⟨X + 1, 2, none⟩ = some (.slice ca cl cc) := HL1.out.at0 2 _ rfl; replace t1_3 : w7.cell? ⟨X + 1, 3, none⟩ = some (.bool r) := HL1.out.at0 3 _ rfl; replace y0_0 : w7.cell? ⟨Y0, 0, none⟩ = some (.slice (some ⟨E0, 0, none⟩) len len) := HY0.out.at0 0 _ rfl; replace y0_1 : w7.cell? ⟨Y0, 1, none⟩ = some (.int .i64 now) := HY0.out.at0 1 _ rfl; replace y1_0 : w7.cell? ⟨Y1, 0, none⟩ = some (.int .i64 u) := HY1.out.at0 0 _ rfl; replace y1_1 : w7.cell? ⟨Y1, 1, none⟩ = some (.int .i64 g) := HY1.out.at0 1 _ rfl; replace y1_2 : w7.cell? ⟨Y1, 2, none⟩ = some (.slice (some ⟨E1, 0, none⟩) cl cl) := HY1.out.at0 2 _ rfl; replace y1_3 : w7.cell? ⟨Y1, 3, none⟩ = some (.bool r) := HY1.out.at0 3 _ rfl; have HQ : Hid (Ints (some ⟨Q, 0, none⟩) cl cf w7) := hO; clear hO hb7))
  all_goals go_wp2
  all_goals go_ret
  all_goals exact ⟨rfl, HB.out⟩
end Go.Proofs.YtdgejnaceeoooaaGreatDoor
