/- Laid together: HdSt, DeskWordsLaw. -/
import Derived.Test.YtgahphiabajokaaDW6
import Derived.Lib.QuietBelow
import Derived.BigQuiet
import Derived.Deep.Cut
/- laws.heldStringS, eqStringS; marks of a PartsOut. -/
namespace Go.Proofs.Ytgahphiabajokaa
open Go.RowKit Go.PlainAid Go.Deep
set_option linter.unusedVariables false
theorem below_drewS {B : Nat} {w w' : World} (h : Below B w w') (n : Nat) : Below B w (w'.drewN n) := h.trans ⟨rfl, rfl, rfl, Nat.le_refl _, fun _ _ => rfl⟩
set_option maxHeartbeats 4000000 in
theorem heldStr_any (a : Option Addr) (len cap k : Nat) (h0 : 0 < k) (h1 : k ≤ 1000000) (hl : len ≤ 1048576) (w : World) (hp : OwnS a len (mkF k) w) :
    Calls Try.prog 20 #[.slice a len cap, .int .i64 k] w fun e w' => e = .returned (.int .i64 ((k : Int) + len)) ∧ Below w.heap.size w w' := by
  by_cases hz : len = 0
  · subst hz
    go_enter Try.func20, Try.ntmps20
    go_wp2
    go_rounds 1
    go_ret
    exact ⟨by simp, Below.refl _ _⟩
  obtain ⟨B, rfl, hB0, hp⟩ := hp (by omega)
  have HP : Hid (SHolds w B (mkF k) len) := hp
  clear hp
  go_enter Try.func20, Try.ntmps20
  go_wp2
  go_loopw [5, 1] (fun i q wr => ∃ (j : Nat), j ≤ len ∧ i = .int .i64 j ∧ q = .int .i64 ((k : Int) + j) ∧ Hid (Below w.heap.size w wr)) (fun i _ _ => len - (intOf i).toNat)
  case atStart => exact ⟨0, Nat.zero_le _, rfl, by simp, Below.refl _ _⟩
  case round =>
    obtain ⟨j, hj, rfl, rfl, hB⟩ := hrel
    by_cases hlt : j < len
    · have hlt' : (j : Int) < (len : Int) := by omega
      have h0' : (0 : Int) ≤ (j : Int) := by omega
      have HM : Hid (∀ w, Calls Try.prog 31 #[.int .i64 ((k : Int) + j)] w fun e w' => e = .returned (.string (mkT (k + j))) ∧ Below w.heap.size w w') := (fun w => by
        have h := markText_any (k + j) (by omega) (by omega) w
        have e : ((k + j : Nat) : Int) = (k : Int) + j := by omega
        rw [e] at h
        exact h)
      have g0 : ∀ d os, (Go.Sort.grow (redrawn wr d) os).cell? ⟨B, j, none⟩ = some (.string (mkT (k + j))) := fun d os => cell_regrown ((hB.out.cell (p := ⟨B, j, none⟩) hB0).trans (HP.out.1 j hlt)) d os
      have cA : ∀ d os, Calls Try.prog 31 #[.int .i64 ((k : Int) + j)] (Go.Sort.grow (redrawn wr d) os) fun e w'' => e = .returned (.string (mkT (k + j))) ∧ ∃ p : Regrown, w'' = Go.Sort.grow (redrawn wr p.d) p.os := fun d os => Calls.regrown_of (HM.out _)
      have hmm : ((mkT (k + j)).toList != (mkT (k + j)).toList) = false := by simp
      generalize mkT (k + j) = mt at g0 cA hmm
      clear HM
      go_upto_region 4 with fail
      refine wp_region_quiet_below (by kernel_rfl) (by kernel_rfl) ?_
      repeat (go_big_quiet_step (exact cA _ _))
      refine wpQuiet_nil ?_
      intro _ hw'
      obtain ⟨⟨dq, osq⟩, hw''⟩ := hw'
      subst hw''
      have HB2 : Hid (Below w.heap.size w (Go.Sort.grow (redrawn wr dq) osq)) := Below.on hB.out (below_regrown wr dq osq)
      generalize Go.Sort.grow (redrawn wr dq) osq = w2 at HB2 ⊢
      clear g0 cA hB
      go_wp2
      go_roundw
      case rel => exact ⟨j + 1, by omega, by go_num, by go_num, HB2⟩
      case measure => simp [intOf]; omega
    · have : j = len := by omega
      subst this
      go_wp2
      go_ret
      exact ⟨rfl, hB.out⟩
set_option maxHeartbeats 4000000 in
theorem eqStr_any (a a2 : Option Addr) (len cap cap2 : Nat) (f : Nat → ByteArray) (hl : len ≤ 1048576) (w : World) (hp : OwnS a len f w) (hp2 : OwnS a2 len f w) :
    Calls Try.prog 18 #[.slice a len cap, .slice a2 len cap2] w fun e w' => e = .returned (.bool true) ∧ Below w.heap.size w w' := by
  by_cases hz : len = 0
  · subst hz
    go_enter Try.func18, Try.ntmps18
    go_wp2
    go_rounds 1
    go_ret
    exact ⟨rfl, Below.refl _ _⟩
  obtain ⟨B, rfl, hB0, hp⟩ := hp (by omega)
  obtain ⟨B2, rfl, hB02, hp2⟩ := hp2 (by omega)
  have HP : Hid (SHolds w B f len) := hp
  have HP2 : Hid (SHolds w B2 f len) := hp2
  clear hp hp2
  go_enter Try.func18, Try.ntmps18
  go_wp2
  go_loopw [5] (fun i wr => ∃ (j : Nat), j ≤ len ∧ i = .int .i64 j ∧ Hid (Below w.heap.size w wr)) (fun i _ => len - (intOf i).toNat)
  case atStart => exact ⟨0, Nat.zero_le _, rfl, Below.refl _ _⟩
  case round =>
    obtain ⟨j, hj, rfl, hB⟩ := hrel
    by_cases hlt : j < len
    · have hlt' : (j : Int) < (len : Int) := by omega
      have h0' : (0 : Int) ≤ (j : Int) := by omega
      have g0 : wr.cell? ⟨B, j, none⟩ = some (.string (f j)) := (hB.out.cell (p := ⟨B, j, none⟩) hB0).trans (HP.out.1 j hlt)
      have g1 : wr.cell? ⟨B2, j, none⟩ = some (.string (f j)) := (hB.out.cell (p := ⟨B2, j, none⟩) hB02).trans (HP2.out.1 j hlt)
      have hmm : ((f j).toList != (f j).toList) = false := by simp
      generalize f j = mt at g0 g1 hmm
      go_wp2
      go_quiet (fail)
      go_wp2
      go_roundw
      case rel => exact ⟨j + 1, by omega, by go_num, below_drewS hB.out _⟩
      case measure => simp [intOf]; omega
    · have : j = len := by omega
      subst this
      go_wp2
      go_ret
      exact ⟨rfl, hB.out⟩
end Go.Proofs.Ytgahphiabajokaa
/- The law FnExactDeskWords. -/
namespace Go.Proofs.Ytgahphiabajokaa
open Go.RowKit Go.PlainAid Go.Deep
set_option linter.unusedVariables false
def dwF (i : Nat) : ByteArray := ([⟨#[97, 115]⟩, ⟨#[100, 111]⟩, ⟨#[110, 102, 115]⟩, ⟨#[117, 109, 97, 115, 107]⟩] : List ByteArray).getD i ⟨#[]⟩
theorem dw_own (w : World) (t : TypeId) : OwnS (some ⟨w.heap.size, 0, none⟩) 4 dwF (w.alloc (.cells #[.string ⟨#[97, 115]⟩, .string ⟨#[100, 111]⟩, .string ⟨#[110, 102, 115]⟩, .string ⟨#[117, 109, 97, 115, 107]⟩] t)) := by
  have h := boxW_new w [.string ⟨#[97, 115]⟩, .string ⟨#[100, 111]⟩, .string ⟨#[110, 102, 115]⟩, .string ⟨#[117, 109, 97, 115, 107]⟩] t
  intro _
  refine ⟨w.heap.size, rfl, h.lt, ⟨fun i hi => ?_, fun i hi => h.frz i⟩⟩
  have hq : i = 0 ∨ i = 1 ∨ i = 2 ∨ i = 3 := by omega
  rcases hq with rfl | rfl | rfl | rfl
  · exact h.at0 0 _ rfl
  · exact h.at0 1 _ rfl
  · exact h.at0 2 _ rfl
  · exact h.at0 3 _ rfl
theorem OwnS.butW {a a2 : Option Addr} {len : Nat} {f : Nat → ByteArray} {w w' : World} (h : OwnS a2 len f w) (hb : ButS a w w') (hne : ∀ A A2, a = some A → a2 = some A2 → A2.block ≠ A.block) : OwnS a2 len f w' := by
  intro h0
  obtain ⟨B, ha, hlt, hi⟩ := h h0
  have hc := fun o => hb.cell B o hlt (fun A e => hne A _ e ha)
  exact ⟨B, ha, Nat.lt_of_lt_of_le hlt hb.size, fun i hi2 => (hc i).1.trans (hi.1 i hi2), fun i hi2 => (hc i).2.trans (hi.2 i hi2)⟩
def DwEnd (w : World) (e : Ending) (w' : World) : Prop := ∃ B, e = .returned (.slice (some ⟨B, 0, none⟩) 4 4) ∧ w.heap.size ≤ B ∧ B < w'.heap.size ∧ OwnS (some ⟨B, 0, none⟩) 4 dwF w' ∧ Below w.heap.size w w'
theorem sDw_any (w : World) : Calls Try.prog 16 #[] w (DwEnd w) := by
  have HO : Hid (OwnS (some ⟨w.heap.size, 0, none⟩) 4 dwF (w.alloc (.cells #[.string ⟨#[97, 115]⟩, .string ⟨#[100, 111]⟩, .string ⟨#[110, 102, 115]⟩, .string ⟨#[117, 109, 97, 115, 107]⟩] 9))) := dw_own w 9
  have HB : Hid (Below w.heap.size w (w.alloc (.cells #[.string ⟨#[97, 115]⟩, .string ⟨#[100, 111]⟩, .string ⟨#[110, 102, 115]⟩, .string ⟨#[117, 109, 97, 115, 107]⟩] 9))) := bel_alloc _ _
  go_enter Try.func16, Try.ntmps16
  go_wp2
  go_ret
  exact ⟨_, rfl, Nat.le_refl _, by simp, HO.out, HB.out⟩
theorem iDw_any (w : World) : Calls Try.prog 17 #[] w (DwEnd w) := by
  have HO : Hid (OwnS (some ⟨w.heap.size, 0, none⟩) 4 dwF (w.alloc (.cells #[.string ⟨#[97, 115]⟩, .string ⟨#[100, 111]⟩, .string ⟨#[110, 102, 115]⟩, .string ⟨#[117, 109, 97, 115, 107]⟩] 9))) := dw_own w 9
  have HB : Hid (Below w.heap.size w (w.alloc (.cells #[.string ⟨#[97, 115]⟩, .string ⟨#[100, 111]⟩, .string ⟨#[110, 102, 115]⟩, .string ⟨#[117, 109, 97, 115, 107]⟩] 9))) := bel_alloc _ _
  go_enter Try.func17, Try.ntmps17
  go_wp2
  go_ret
  exact ⟨_, rfl, Nat.le_refl _, by simp, HO.out, HB.out⟩
set_option maxHeartbeats 4000000 in
theorem deskWords_any (w : World) : Calls Try.prog 5 #[] w fun e w' => e = .returned (.bool true) ∧ Below w.heap.size w w' := by
  have HS : Hid (∀ w, Calls Try.prog 16 #[] w (DwEnd w)) := sDw_any
  have HI : Hid (∀ w, Calls Try.prog 17 #[] w (DwEnd w)) := iDw_any
  go_enter Try.func5, Try.ntmps5
  go_wp2_with fail
  refine (HS.out _).mono ?_
  rintro e w1 ⟨B1, rfl, h11, h12, hO1, hb1⟩
  have HO1 : Hid (OwnS (some ⟨B1, 0, none⟩) 4 dwF w1) := hO1
  have HW1 : Hid (Below w.heap.size w w1) := hb1
  have HL1 : Hid (w.heap.size ≤ B1 ∧ B1 < w1.heap.size) := ⟨h11, h12⟩
  clear h11 h12 hO1 hb1 HS
  go_wp2_with fail
  refine (HI.out _).mono ?_
  rintro e w2 ⟨B2, rfl, h21, h22, hO2, hb2⟩
  have HO2 : Hid (OwnS (some ⟨B2, 0, none⟩) 4 dwF w2) := hO2
  have HP2 : Hid (OwnS (some ⟨B1, 0, none⟩) 4 dwF w2) := HO1.out.below hb2
  have HW2 : Hid (Below w.heap.size w w2) := Below.on HW1.out hb2
  have HL2 : Hid (B1 < B2 ∧ B2 < w2.heap.size ∧ w.heap.size ≤ B2) := (by have h1 := HL1.out; exact ⟨by omega, h22, by omega⟩)
  clear h21 h22 hO2 hb2 HO1 HW1 HL1
  go_wp2_with fail
  refine (eqStr_any (some ⟨B2, 0, none⟩) (some ⟨B1, 0, none⟩) 4 4 4 dwF (by decide) w2 HO2.out HP2.out).mono ?_
  rintro e w3 ⟨rfl, hb3⟩
  have HO3 : Hid (OwnS (some ⟨B2, 0, none⟩) 4 dwF w3) := HO2.out.below hb3
  have HP3 : Hid (OwnS (some ⟨B1, 0, none⟩) 4 dwF w3) := HP2.out.below hb3
  have HW3 : Hid (Below w.heap.size w w3) := Below.on HW2.out hb3
  clear hb3 HO2 HP2 HW2
  go_wp2_with fail
  refine (markStr_any (some ⟨B2, 0, none⟩) 4 4 1 dwF (by decide) (by decide) (by decide) w3 HO3.out).mono ?_
  rintro e w4 ⟨rfl, hO4, hbut⟩
  have HO4 : Hid (OwnS (some ⟨B2, 0, none⟩) 4 (mkF 1) w4) := hO4
  have HP4 : Hid (OwnS (some ⟨B1, 0, none⟩) 4 dwF w4) := HP3.out.butW hbut (fun A A2 e e2 => by have h := HL2.out; cases e; cases e2; show B1 ≠ B2; omega)
  have HW4 : Hid (Below w.heap.size w w4) := HW3.out.trans (hbut.below _ HW3.out.size (fun A e => by have h := HL2.out; cases e; show w.heap.size ≤ B2; omega))
  clear hO4 hbut HO3 HP3 HW3
  go_wp2_with fail
  refine (heldStr_any (some ⟨B2, 0, none⟩) 4 4 1 (by decide) (by decide) (by decide) w4 HO4.out).mono ?_
  rintro e w5 ⟨rfl, hb5⟩
  have HO5 : Hid (OwnS (some ⟨B2, 0, none⟩) 4 (mkF 1) w5) := HO4.out.below hb5
  have HP5 : Hid (OwnS (some ⟨B1, 0, none⟩) 4 dwF w5) := HP4.out.below hb5
  have HW5 : Hid (Below w.heap.size w w5) := Below.on HW4.out hb5
  clear hb5 HO4 HP4 HW4
  go_wp2_with fail
  refine (HI.out _).mono ?_
  rintro e w6 ⟨B3, rfl, h31, h32, hO6, hb6⟩
  have HO6 : Hid (OwnS (some ⟨B2, 0, none⟩) 4 (mkF 1) w6) := HO5.out.below hb6
  have HP6 : Hid (OwnS (some ⟨B1, 0, none⟩) 4 dwF w6) := HP5.out.below hb6
  have HQ6 : Hid (OwnS (some ⟨B3, 0, none⟩) 4 dwF w6) := hO6
  have HW6 : Hid (Below w.heap.size w w6) := Below.on HW5.out hb6
  clear h31 h32 hO6 hb6 HO5 HP5 HW5 HI
  go_wp2_with fail
  refine (eqStr_any (some ⟨B3, 0, none⟩) (some ⟨B1, 0, none⟩) 4 4 4 dwF (by decide) w6 HQ6.out HP6.out).mono ?_
  rintro e w7 ⟨rfl, hb7⟩
  have HO7 : Hid (OwnS (some ⟨B2, 0, none⟩) 4 (mkF 1) w7) := HO6.out.below hb7
  have HW7 : Hid (Below w.heap.size w w7) := Below.on HW6.out hb7
  clear hb7 HO6 HP6 HQ6 HW6
  go_wp2_with fail
  refine (heldStr_any (some ⟨B2, 0, none⟩) 4 4 1 (by decide) (by decide) (by decide) w7 HO7.out).mono ?_
  rintro e w8 ⟨rfl, hb8⟩
  have HW8 : Hid (Below w.heap.size w w8) := Below.on HW7.out hb8
  clear hb8 HO7 HW7
  go_wp2
  go_ret
  exact ⟨rfl, HW8.out⟩
end Go.Proofs.Ytgahphiabajokaa
