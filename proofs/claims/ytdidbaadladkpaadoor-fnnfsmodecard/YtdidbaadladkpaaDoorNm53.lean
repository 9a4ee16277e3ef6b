/- Laid together: LwAt, NfsModeW. -/
import Derived.Test.YtdidbaadladkpaaDoorNm2
import Derived.Test.YtdidbaadladkpaaDoorNm36
import Derived.Test.YtdidbaadladkpaaDoorNm50
import Derived.Test.YtdidbaadladkpaaDoorNm51
import Derived.Test.YtdidbaadladkpaaDoorNm52
import Derived.Deep.DeepCutAuto
import Derived.Deep.RegionHeld3
/- The contract of laws.lwAt: a number below most, or 0. -/
namespace Go.Proofs.YtdidbaadladkpaaDoor
open Go.RowKit
set_option linter.unusedVariables false
set_option maxHeartbeats 1000000 in
theorem lwAt_any (a : Option Addr) (len cap : Nat) (g : Nat → Int) (p : Nat) (at_ : Nat) (hat : at_ ≤ 1000000) (most : Int) (hm : most ≤ 9223372036854775807) (w : World) (hc : Code a len g p w) :
    Calls Tryd.prog 31 #[.slice a len cap, .int .i64 at_, .int .i64 most] w fun e w' => ∃ r : Int, 0 ≤ r ∧ (r < most ∨ r = 0) ∧ e = .returned (.int .i64 r) ∧ w' = w := by
  obtain ⟨hlen, hg, hrow⟩ := hc
  have HR : Hid (0 < len → ∃ b off, a = some ⟨b, off, none⟩ ∧ b < p ∧ ∀ i, i < len → w.cell? ⟨b, off + i, none⟩ = some (.int .u8 (g i))) := hrow
  have HG : Hid (∀ i, 0 ≤ g i ∧ g i ≤ 255) := hg
  clear hrow hg
  by_cases h1 : most ≤ 1
  · go_enter Tryd.func31, Tryd.ntmps31
    go_wp2
    go_ret
    exact ⟨0, Int.le_refl _, .inr rfl, rfl, rfl⟩
  · have d1 : decide (most ≤ 1) = false := by simp; omega
    by_cases h2 : len = 0
    · have d2 : ((len : Int) == 0) = true := by rw [h2]; rfl
      clear h2
      go_enter Tryd.func31, Tryd.ntmps31
      go_wp2
      go_ret
      exact ⟨0, Int.le_refl _, .inr rfl, rfl, rfl⟩
    · have d2 : ((len : Int) == 0) = false := by rw [beq_eq_false_iff_ne]; omega
      obtain ⟨b, off, hae, hbp, hcell⟩ := HR.out (by omega)
      have hmod : at_ % len < len := Nat.mod_lt _ (by omega)
      have hz := hcell (at_ % len) hmod
      obtain ⟨z1, z2⟩ := HG.out (at_ % len)
      have hpos : 0 < len := by omega
      subst hae
      clear hcell h2
      generalize g (at_ % len) = z at hz z1 z2
      have e1 : ((at_ : Int).tmod (len : Int)) = ((at_ % len : Nat) : Int) := by rw [Int.tmod_eq_emod_of_nonneg (by omega)]; rfl
      go_enter Tryd.func31, Tryd.ntmps31
      go_wp2
      go_ret
      exact ⟨z % most, Int.emod_nonneg _ (by omega), .inl (Int.emod_lt_of_pos _ (by omega)), rfl, rfl⟩
end Go.Proofs.YtdidbaadladkpaaDoor
/- The law FnNfsMode. -/
namespace Go.Proofs.YtdidbaadladkpaaDoor
open Go.RowKit Go.PlainAid Go.Deep
set_option linter.unusedVariables false
theorem below_drewNm {B : Nat} {w w' : World} (h : Below B w w') : Below B w w'.drew := h.trans ⟨rfl, rfl, rfl, Nat.le_refl _, fun _ _ => rfl⟩
theorem Code.upM {a : Option Addr} {len : Nat} {g : Nat → Int} {w w' : World} (h : Code a len g w.heap.size w) (hb : Below w.heap.size w w') : Code a len g w'.heap.size w' := by
  have h1 := h.below hb
  have hs := hb.size
  exact ⟨h1.1, h1.2.1, fun hl => by
    obtain ⟨b, off, e, hlt, hc⟩ := h1.2.2 hl
    exact ⟨b, off, e, by omega, hc⟩⟩
set_option maxRecDepth 100000 in
theorem nmode_long0 (a0 : Option Addr) (len0 cap0 : Nat) (a1 : Option Addr) (len1 cap1 : Nat) (h0 : 1048576 < (len0 : Int)) (w : World) :
    Calls Tryd.prog 4 #[.slice a0 len0 cap0, .slice a1 len1 cap1] w fun e w' => e = .returned (.bool true) ∧ Below w.heap.size w w' := by
  go_enter Tryd.func4, Tryd.ntmps4
  go_wp2
  go_ret
  exact ⟨rfl, Below.refl _ _⟩
set_option maxRecDepth 100000 in
theorem nmode_long1 (a0 : Option Addr) (len0 cap0 : Nat) (a1 : Option Addr) (len1 cap1 : Nat) (d0 : decide (1048576 < (len0 : Int)) = false) (h1 : 1048576 < (len1 : Int)) (w : World) :
    Calls Tryd.prog 4 #[.slice a0 len0 cap0, .slice a1 len1 cap1] w fun e w' => e = .returned (.bool true) ∧ Below w.heap.size w w' := by
  go_enter Tryd.func4, Tryd.ntmps4
  go_wp2
  go_ret
  exact ⟨rfl, Below.refl _ _⟩
set_option maxRecDepth 100000 in
set_option maxHeartbeats 8000000 in
theorem nmode_short (a b : Option Addr) (la lb ca cb : Nat) (f g : Nat → Int) (w : World) (hp : PlW w) (hc : Code a la f w.heap.size w) (hd : Code b lb g w.heap.size w) :
    Calls Tryd.prog 4 #[.slice a la ca, .slice b lb cb] w fun e w' => e = .returned (.bool true) ∧ Below w.heap.size w w' := by
  have h1 := hc.1
  have h2 := hd.1
  have n1 : ¬ (1048576 : Int) < (la : Int) := by omega
  have n2 : ¬ (1048576 : Int) < (lb : Int) := by omega
  have HC : Hid (Code a la f w.heap.size w) := hc
  have HD : Hid (Code b lb g w.heap.size w) := hd
  have HP : Hid (PlW w) := hp
  clear hc hd h1 h2 hp
  go_enter Tryd.func4, Tryd.ntmps4
  go_wp2_with fail
  refine (dDrawNfsChmod_any a la ca f _ HC.out).mono ?_
  rintro e w1 ⟨xa, xc, l, n, rfl, hcap, hA, hl, nn0, nn1, hb1⟩
  have HA1 : Hid (Acs xa l.length l w1) := hA
  have HB1 : Hid (Below w.heap.size w w1) := hb1
  clear hA hb1 HC
  go_wp2_with fail
  refine (iNfsChmod_any xa _ xc l n hcap (by omega) _ HA1.out (HP.out.below HB1.out)).mono ?_
  intro e w2 hA
  obtain ⟨ya, yc, rfl, hN⟩ := hA.out
  have hbY := bel_alloc w2 (.cells #[.slice ya (chP l n).1.length yc, .int .i64 (chP l n).2] 37)
  have hY3 : Hid (Box2 (w2.alloc (.cells #[.slice ya (chP l n).1.length yc, .int .i64 (chP l n).2] 37)) w2.heap.size (.slice ya (chP l n).1.length yc) (.int .i64 (chP l n).2)) := box2_new w2 _ _ _
  have HA3 : Hid (Acs xa l.length l (w2.alloc (.cells #[.slice ya (chP l n).1.length yc, .int .i64 (chP l n).2] 37))) := (HA1.out.below hN.bel).below hbY
  have HB3 : Hid (Below w.heap.size w (w2.alloc (.cells #[.slice ya (chP l n).1.length yc, .int .i64 (chP l n).2] 37))) := Below.on (Below.on HB1.out hN.bel) hbY
  have HY3 : Hid (Acs ya (chP l n).1.length (chP l n).1 (w2.alloc (.cells #[.slice ya (chP l n).1.length yc, .int .i64 (chP l n).2] 37))) := hN.own.acs.below hbY
  have hyl := chP_len l n
  clear hA hN hbY HA1 HB1
  go_upto_region 5 with fail
  generalize w2.alloc (.cells #[.slice ya (chP l n).1.length yc, .int .i64 (chP l n).2] 37) = w3 at hY3 HA3 HB3 HY3 ⊢
  generalize w2.heap.size = Y at hY3 ⊢
  go_wp2_with fail
  refine (dDrawNfsMode_any b lb cb g _ (HD.out.upM HB3.out)).mono ?_
  rintro e w4 ⟨ma, mc, m, rfl, hM, hml, hb4⟩
  have HM4 : Hid (Acs ma m.length m w4) := hM
  have HA4 : Hid (Acs xa l.length l w4) := HA3.out.below hb4
  have HY4 : Hid (Acs ya (chP l n).1.length (chP l n).1 w4) := HY3.out.below hb4
  have hY4 : Hid (Box2 w4 Y (.slice ya (chP l n).1.length yc) (.int .i64 (chP l n).2)) := hY3.out.below hb4
  have HB4 : Hid (Below w.heap.size w w4) := Below.on HB3.out hb4
  clear hM hb4 HA3 HY3 hY3 HB3
  have CS : Hid (∀ w', Below w4.heap.size w4 w' → Calls Tryd.prog 36 #[.slice xa l.length xc, .int .i64 n] w' fun e w'' => ∃ sa sc, e = .returned (.agg #[.slice sa (chP l n).1.length sc, .int .i64 (chP l n).2]) ∧ Acs sa (chP l n).1.length (chP l n).1 w'' ∧ Below w'.heap.size w' w'') := (fun w' hb => (sNfsChmod_any xa _ xc l n hcap (by omega) w' (HA4.out.below hb)).mono (fun e w'' ⟨p, c, he, hN⟩ => ⟨p, c, he, hN.own.acs, hN.bel⟩))
  have CL : Hid (∀ (sa : Option Addr) (sc : Nat) w', Acs sa (chP l n).1.length (chP l n).1 w' → Below w4.heap.size w4 w' → Calls Tryd.prog 17 #[.agg #[.slice ya (chP l n).1.length yc, .int .i64 (chP l n).2], .agg #[.slice sa (chP l n).1.length sc, .int .i64 (chP l n).2]] w' fun e w'' => e = .returned (.bool true) ∧ Below w'.heap.size w' w'') := (fun sa sc w' hs hb => lwNfs_any ya sa _ yc sc _ (chP l n).1 (by omega) (fun h => (chP_mode h).1) w' (HY4.out.below hb) hs)
  have CI : Hid (∀ w', Below w4.heap.size w4 w' → Calls Tryd.prog 37 #[.slice ma m.length mc] w' fun e w'' => e = .returned (.int .i64 (modeI m)) ∧ Below w'.heap.size w' w'') := (fun w' hb => iNfsMode_any ma _ mc m w' (HM4.out.below hb) (HP.out.below (Below.on HB4.out hb)))
  have CM : Hid (∀ w', Below w4.heap.size w4 w' → Calls Tryd.prog 38 #[.slice ma m.length mc] w' fun e w'' => e = .returned (.int .i64 (modeI m)) ∧ Below w'.heap.size w' w'') := (fun w' hb => sNfsMode_any ma _ mc m (by omega) w' (HM4.out.below hb))
  have CX : Hid (∀ w', Below w4.heap.size w4 w' → Calls Tryd.prog 37 #[.slice ya (chP l n).1.length yc] w' fun e w'' => e = .returned (.int .i64 (modeI (chP l n).1)) ∧ Below w'.heap.size w' w'') := (fun w' hb => iNfsMode_any ya _ yc (chP l n).1 w' (HY4.out.below hb) (HP.out.below (Below.on HB4.out hb)))
  have ZM : Hid ((chP l n).2 = 0 → modeI (chP l n).1 = n % 512) := (fun h => (chP_mode h).2)
  have ZN : Hid ((chP l n).2 = 0 → 0 ≤ n ∧ n ≤ 4095) := (fun h => chP_in h)
  have CG : Hid (∀ (u v : Int) w', Below w4.heap.size w4 w' → Calls Tryd.prog 6 #[.slice ya (chP l n).1.length yc, .int .i64 77, .int .i64 88, .agg #[.int .i64 u, .int .i64 v, .slice none 0 0, .bool false]] w' fun e w'' => e = .returned (.int .i64 (givesI (chP l n).1 77 88 u v 0 (fun _ => 0))) ∧ Below w'.heap.size w' w'') := (fun u v w' hb => iNfsGives_any ya _ yc (chP l n).1 77 88 u v none 0 0 false (fun _ => 0) w' (HY4.out.below hb) (fun h => absurd h (by omega)))
  have ZG : Hid (∀ u v : Int, (chP l n).2 = 0 → u ≠ 77 → v ≠ 88 → ∀ q : Int, q = 1 ∨ q = 2 ∨ q = 4 → hasZ (rwxZ (givesI (chP l n).1 77 88 u v 0 (fun _ => 0))) q = true → hasZ (n / 8 % 8) q = false → hasZ (n % 8) q = false → False) := (fun u v h hu hv q hq hg h1 h2 => by
    obtain ⟨z1, z2, z4⟩ := ch_gives (f := fun _ => 0) h hu hv
    rcases hq with rfl | rfl | rfl
    · rw [z1 h1 h2] at hg; cases hg
    · rw [z2 h1 h2] at hg; cases hg
    · rw [z4 h1 h2] at hg; cases hg)
  clear HA4 HY4 HM4 hl hml hyl hcap
  generalize (chP l n).2 = k at hY4 CS CL ZM ZN ZG ⊢
  generalize (chP l n).1 = L at hY4 CS CL CX ZM CG ZG ⊢
  generalize modeI m = mm at CI CM
  have hmm : (mm != mm) = false := by simp
  have hme : (mm == mm) = true := by simp
  have YY := hY4
  obtain ⟨yl, y0, y1⟩ := hY4.out
  clear hY4
  go_upto_region 6 with fail
  go_region_held3 (fun w' => w'.cell? ⟨Y, 0, none⟩ = some (.slice ya L.length yc) ∧ w'.cell? ⟨Y, 1, none⟩ = some (.int .i64 k)) (go_keep)
    (first
      | (go_at_call 38; refine Calls.mono (CM.out _ hBc.out) ?_; rintro e wd ⟨rfl, hbd⟩; have hBd : Hid (Below w4.heap.size w4 wd) := Below.on hBc.out hbd; obtain ⟨_, yd0, yd1⟩ := YY.out.below hBd.out)
      | (go_at_call 37; refine Calls.mono (CI.out _ hBb.out) ?_; rintro e wc ⟨rfl, hbc⟩; have hBc : Hid (Below w4.heap.size w4 wc) := Below.on hBb.out hbc; obtain ⟨_, yc0, yc1⟩ := YY.out.below hBc.out)
      | (go_at_call 17; refine Calls.mono (CL.out sa sc _ HSa.out hBa.out) ?_; rintro e wb ⟨rfl, hbb⟩; have hBb : Hid (Below w4.heap.size w4 wb) := Below.on hBa.out hbb; obtain ⟨_, yb0, yb1⟩ := YY.out.below hBb.out)
      | (go_at_call 36; refine Calls.mono (CS.out _ ?hs) ?_; (case hs => (first | exact Below.refl _ _ | exact below_drewNm (Below.refl _ _))); rintro e wa ⟨sa, sc, rfl, hsa, hba⟩; have HSa : Hid (Acs sa L.length L wa) := hsa; have hBa : Hid (Below w4.heap.size w4 wa) := Below.on (below_drewNm (Below.refl _ _)) ⟨hba.os, hba.tape, hba.output, hba.size, hba.block⟩; obtain ⟨_, ya0, ya1⟩ := YY.out.below hBa.out))
  have HBD : Hid (Below w4.heap.size w4 wd) := hBd
  have HY5 : Hid (Box2 wd Y (.slice ya L.length yc) (.int .i64 k)) := YY.out.below hBd.out
  clear hBd hbd hBc hbc hBb hbb hBa hba hsa HSa ya0 ya1 yb0 yb1 yc0 yc1 yd0 yd1 y0 y1 yl
  obtain ⟨yl, y0, y1⟩ := HY5.out
  by_cases hk : k = 0
  · have hkd : (k != 0) = false := by simp [hk]
    have hkd2 : decide (k ≠ 0) = false := by simp [hk]
    obtain ⟨z0, z1⟩ := ZN.out hk
    have hmod : modeI L = n % 512 := ZM.out hk
    rw [hmod] at CX
    obtain ⟨nn, rfl⟩ := Int.eq_ofNat_of_zero_le z0
    have hnn : nn ≤ 4095 := by omega
    clear CS CL CI CM ZN ZM hmod z0 z1 nn0 nn1
    have e512 : ((nn : Int)).tmod 512 = (nn : Int) % 512 := Int.tmod_eq_emod_of_nonneg (by omega)
    have hne5 : ((nn : Int) % 512 != (nn : Int) % 512) = false := by simp
    go_wp2_with fail
    refine (CX.out _ HBD.out).mono ?_
    rintro e w6 ⟨rfl, hb6⟩
    have HB6 : Hid (Below w4.heap.size w4 w6) := Below.on HBD.out hb6
    obtain ⟨zl, q0, q1⟩ := HY5.out.below hb6
    clear y0 y1 yl CX
    go_wp2_with fail
    refine (lwAt_any b lb cb g _ 0 (by decide) 6 (by decide) _ (HD.out.upM (Below.on HB4.out HB6.out))).mono ?_
    rintro e w7 ⟨u, u0, u1, rfl, rfl⟩
    go_wp2_with fail
    refine (lwAt_any b lb cb g _ 1 (by decide) 6 (by decide) _ (HD.out.upM (Below.on HB4.out HB6.out))).mono ?_
    rintro e w7' ⟨v, v0, v1, rfl, rfl⟩
    have hZG := ZG.out u v hk (by omega) (by omega)
    have hbZ := bel_alloc w7' (.cells #[.int .i64 u, .int .i64 v, .slice none 0 0, .bool false] 26)
    have HZ8 : Hid (Box4 (w7'.alloc (.cells #[.int .i64 u, .int .i64 v, .slice none 0 0, .bool false] 26)) w7'.heap.size (.int .i64 u) (.int .i64 v) (.slice none 0 0) (.bool false)) := box4_new w7' _ _ _ _ _
    have HY8 : Hid (Box2 (w7'.alloc (.cells #[.int .i64 u, .int .i64 v, .slice none 0 0, .bool false] 26)) Y (.slice ya L.length yc) (.int .i64 k)) := (HY5.out.below hb6).below hbZ
    have HB8 : Hid (Below w4.heap.size w4 (w7'.alloc (.cells #[.int .i64 u, .int .i64 v, .slice none 0 0, .bool false] 26))) := Below.on HB6.out hbZ
    have CG2 := CG.out u v
    have HCG : Hid _ := CG2
    have HZG : Hid _ := hZG
    clear q0 q1 zl hb6 hbZ HB6 HBD HY5 HD ZG hZG CG CG2 hk u0 u1 v0 v1
    go_upto_region 11 with fail
    generalize w7'.alloc (.cells #[.int .i64 u, .int .i64 v, .slice none 0 0, .bool false] 26) = w8 at HZ8 HY8 HB8 ⊢
    generalize w7'.heap.size = Z at HZ8 ⊢
    obtain ⟨zl, z0, z1, z2, z3⟩ := HZ8.out
    obtain ⟨yl, y0, y1⟩ := HY8.out
    go_wp2_with fail
    refine (HCG.out _ HB8.out).mono ?_
    rintro e w9 ⟨rfl, hb9⟩
    have HB9 : Hid (Below w4.heap.size w4 w9) := Below.on HB8.out hb9
    clear hb9 z0 z1 z2 z3 zl y0 y1 yl HZ8 HY8 HB8
    go_wp2_with fail
    refine (iNfsRwx_any _ _ (HP.out.below (Below.on HB4.out HB9.out))).mono ?_
    rintro e w10 ⟨rfl, hb10⟩
    have HB10 : Hid (Below w4.heap.size w4 w10) := Below.on HB9.out hb10
    clear hb10 HB9 HP HCG
    generalize rwxZ (givesI L 77 88 u v 0 (fun _ => 0)) = gt at HZG ⊢
    have e8 : IntKind.i64.wrap (((nn : Int)).tdiv 8) = (nn : Int) / 8 := by
      rw [Int.tdiv_eq_ediv_of_nonneg (by omega), IntKind.wrap_i64]
      omega
    have e88 : ((nn : Int) / 8).tmod 8 = (nn : Int) / 8 % 8 := Int.tmod_eq_emod_of_nonneg (by omega)
    have e08 : ((nn : Int)).tmod 8 = (nn : Int) % 8 := Int.tmod_eq_emod_of_nonneg (by omega)
    go_upto_region 13 with fail
    generalize (nn : Int) / 8 % 8 = gg at HZG ⊢
    generalize (nn : Int) % 8 = oo at HZG ⊢
    clear e8 e88 e08 e512 hne5 hnn
    go_wp2
    go_loopw [13] (fun i wr => (i = .int .i64 1 ∨ i = .int .i64 2 ∨ i = .int .i64 4 ∨ i = .int .i64 8) ∧ Hid (wr = w10)) (fun i _ => 8 - (intOf i).toNat)
    case atStart => exact ⟨.inl rfl, rfl⟩
    case round =>
      obtain ⟨hi, hwr0⟩ := hrel
      have hwr := hwr0.out
      subst hwr
      clear hwr0
      have fin : ∀ q : Int, q = 1 ∨ q = 2 ∨ q = 4 → hasZ gt q = true → hasZ gg q = false → hasZ oo q = false → False := HZG.out
      have HFin : Hid _ := fin
      clear fin HZG
      rcases hi with rfl | rfl | rfl | rfl
      · cases h1 : hasZ gt 1
        · go_wp2_with (go_at_call 32; refine (iHas_any _ _ _).mono ?_; rintro e w' ⟨rfl, rfl⟩)
          go_roundw
          case rel => exact ⟨.inr (.inl rfl), (by first | exact (trivial : True) | exact rfl)⟩
          case measure => simp [intOf]
        · cases h2 : hasZ gg 1
          · cases h3 : hasZ oo 1
            · exact absurd (HFin.out 1 (.inl rfl) h1 h2 h3) id
            · go_wp2_with (go_at_call 32; refine (iHas_any _ _ _).mono ?_; rintro e w' ⟨rfl, rfl⟩)
              go_roundw
              case rel => exact ⟨.inr (.inl rfl), (by first | exact (trivial : True) | exact rfl)⟩
              case measure => simp [intOf]
          · go_wp2_with (go_at_call 32; refine (iHas_any _ _ _).mono ?_; rintro e w' ⟨rfl, rfl⟩)
            go_roundw
            case rel => exact ⟨.inr (.inl rfl), (by first | exact (trivial : True) | exact rfl)⟩
            case measure => simp [intOf]
      · cases h1 : hasZ gt 2
        · go_wp2_with (go_at_call 32; refine (iHas_any _ _ _).mono ?_; rintro e w' ⟨rfl, rfl⟩)
          go_roundw
          case rel => exact ⟨.inr (.inr (.inl rfl)), (by first | exact (trivial : True) | exact rfl)⟩
          case measure => simp [intOf]
        · cases h2 : hasZ gg 2
          · cases h3 : hasZ oo 2
            · exact absurd (HFin.out 2 (.inr (.inl rfl)) h1 h2 h3) id
            · go_wp2_with (go_at_call 32; refine (iHas_any _ _ _).mono ?_; rintro e w' ⟨rfl, rfl⟩)
              go_roundw
              case rel => exact ⟨.inr (.inr (.inl rfl)), (by first | exact (trivial : True) | exact rfl)⟩
              case measure => simp [intOf]
          · go_wp2_with (go_at_call 32; refine (iHas_any _ _ _).mono ?_; rintro e w' ⟨rfl, rfl⟩)
            go_roundw
            case rel => exact ⟨.inr (.inr (.inl rfl)), (by first | exact (trivial : True) | exact rfl)⟩
            case measure => simp [intOf]
      · cases h1 : hasZ gt 4
        · go_wp2_with (go_at_call 32; refine (iHas_any _ _ _).mono ?_; rintro e w' ⟨rfl, rfl⟩)
          go_roundw
          case rel => exact ⟨.inr (.inr (.inr rfl)), (by first | exact (trivial : True) | exact rfl)⟩
          case measure => simp [intOf]
        · cases h2 : hasZ gg 4
          · cases h3 : hasZ oo 4
            · exact absurd (HFin.out 4 (.inr (.inr rfl)) h1 h2 h3) id
            · go_wp2_with (go_at_call 32; refine (iHas_any _ _ _).mono ?_; rintro e w' ⟨rfl, rfl⟩)
              go_roundw
              case rel => exact ⟨.inr (.inr (.inr rfl)), (by first | exact (trivial : True) | exact rfl)⟩
              case measure => simp [intOf]
          · go_wp2_with (go_at_call 32; refine (iHas_any _ _ _).mono ?_; rintro e w' ⟨rfl, rfl⟩)
            go_roundw
            case rel => exact ⟨.inr (.inr (.inr rfl)), (by first | exact (trivial : True) | exact rfl)⟩
            case measure => simp [intOf]
      · go_wp2
        go_ret
        exact ⟨rfl, Below.on HB4.out HB10.out⟩
  · have hkd : (k != 0) = true := by simp [hk]
    have hkd2 : (k == 0) = false := by simp [hk]
    clear ZM ZN ZG CG CX
    obtain ⟨yl, y0, y1⟩ := HY5.out
    go_upto_region 7 with fail
    go_region_held3 (fun w' => w'.cell? ⟨Y, 0, none⟩ = some (.slice ya L.length yc) ∧ w'.cell? ⟨Y, 1, none⟩ = some (.int .i64 k)) (go_keep)
      (first
        | (go_at_call 38; refine Calls.mono (CM.out _ hBc.out) ?_; rintro e wf ⟨rfl, hbd⟩; have hBd : Hid (Below w4.heap.size w4 wf) := Below.on hBc.out hbd; obtain ⟨_, yd0, yd1⟩ := YY.out.below hBd.out)
        | (go_at_call 37; refine Calls.mono (CI.out _ hBb.out) ?_; rintro e wc ⟨rfl, hbc⟩; have hBc : Hid (Below w4.heap.size w4 wc) := Below.on hBb.out hbc; obtain ⟨_, yc0, yc1⟩ := YY.out.below hBc.out)
        | (go_at_call 17; refine Calls.mono (CL.out sa sc _ HSa.out hBa.out) ?_; rintro e wb ⟨rfl, hbb⟩; have hBb : Hid (Below w4.heap.size w4 wb) := Below.on hBa.out hbb; obtain ⟨_, yb0, yb1⟩ := YY.out.below hBb.out)
        | (go_at_call 36; refine Calls.mono (CS.out _ ?hs) ?_; (case hs => (first | exact HBD.out | exact below_drewNm HBD.out)); rintro e wa ⟨sa, sc, rfl, hsa, hba⟩; have HSa : Hid (Acs sa L.length L wa) := hsa; have hBa : Hid (Below w4.heap.size w4 wa) := Below.on (below_drewNm HBD.out) ⟨hba.os, hba.tape, hba.output, hba.size, hba.block⟩; obtain ⟨_, ya0, ya1⟩ := YY.out.below hBa.out))
    go_wp2
    go_ret
    exact ⟨rfl, Below.on HB4.out hBd.out⟩
end Go.Proofs.YtdidbaadladkpaaDoor
