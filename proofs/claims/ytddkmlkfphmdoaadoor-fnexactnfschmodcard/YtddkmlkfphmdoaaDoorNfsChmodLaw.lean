/- The law FnExactNfsChmod, of a list that is not too long, and of one that is. -/
import Derived.Test.YtddkmlkfphmdoaaDoorChmodF
import Derived.Test.YtddkmlkfphmdoaaDoorAceMark
import Derived.Test.YtddkmlkfphmdoaaDoorAnsL
namespace Go.Proofs.YtddkmlkfphmdoaaDoor
open Go.RowKit Go.PlainAid
set_option linter.unusedVariables false
set_option maxHeartbeats 2000000 in
theorem nfsChmod_long (a : Option Addr) (len cap : Nat) (n1 : Int) (hl : ¬ len ≤ 1048576) (hm : len ≤ 9223372036854775807) (w : World) :
    Calls Tryd.prog 3 #[.slice a len cap, .int .i64 n1] w fun e w' => e = .returned (.bool true) ∧ Below w.heap.size w w' := by
  have hz : Hid (∀ w, Calls Tryd.prog 4 #[.slice a len cap, .int .i64 1048576] w fun e w' => e = .returned (.int .i64 (-1)) ∧ w' = w) := (by
    intro w
    have := szAceS_any a len cap 1048576 (by omega) hm w
    rwa [if_pos (by omega)] at this)
  clear hl hm
  go_enter Tryd.func3, Tryd.ntmps3
  go_wp2_with (go_at_call 4; refine (hz.out _).mono ?_; rintro e w1 ⟨rfl, rfl⟩)
  go_ret
  exact ⟨rfl, Below.refl _ _⟩
set_option maxRecDepth 100000 in
set_option maxHeartbeats 8000000 in
theorem nfsChmod_short (a : Option Addr) (len cap : Nat) (l : List Ac) (n1 : Int) (hl : len ≤ 1048576) (w : World) (hi : Acs a len l w) (hp : PlW w) :
    Calls Tryd.prog 3 #[.slice a len cap, .int .i64 n1] w fun e w' => e = .returned (.bool true) ∧ Below w.heap.size w w' := by
  have hz : Hid (∀ w, Calls Tryd.prog 4 #[.slice a len cap, .int .i64 1048576] w fun e w' => e = .returned (.int .i64 (1048576 - len)) ∧ w' = w) := (by
    intro w
    have := szAceS_any a len cap 1048576 (by omega) (by omega) w
    rwa [if_neg (by omega)] at this)
  have ht : Hid (∀ w', Below w.heap.size w w' → Calls Tryd.prog 6 #[.slice a len cap] w' fun e w'' => ∃ B, e = .returned (.slice (some ⟨B, 0, none⟩) len len) ∧ OwnA (some ⟨B, 0, none⟩) len l w'' ∧ w'.heap.size ≤ B ∧ B < w''.heap.size ∧ Below w'.heap.size w' w'') := (fun w' hb => (toAceS_any a len cap l hl w' (hi.below hb)).mono (fun e w'' ⟨h1, h2, h3, h4⟩ => ⟨_, h1, h2, Nat.le_refl _, h3, h4⟩))
  have hx : (chP l n1).1.length ≤ 1000 := Nat.le_trans (chP_len l n1) (by omega)
  have hS : Hid (∀ w' B, OwnA (some ⟨B, 0, none⟩) len l w' → Calls Tryd.prog 5 #[.slice (some ⟨B, 0, none⟩) len len, .int .i64 n1] w' (AnsP (chP l n1) w')) := (fun w' B h1 => sNfsChmod_any _ len len l n1 (Nat.le_refl _) hl w' h1.acs)
  have hI : Hid (∀ w' B, Below w.heap.size w w' → OwnA (some ⟨B, 0, none⟩) len l w' → Calls Tryd.prog 7 #[.slice (some ⟨B, 0, none⟩) len len, .int .i64 n1] w' (AnsP (chP l n1) w')) := (fun w' B hb h1 => iNfsChmod_any _ len len l n1 (Nat.le_refl _) hl w' h1.acs (hp.below hb))
  generalize chP l n1 = p at hS hI hx
  obtain ⟨xs, code⟩ := p
  have hx : xs.length ≤ 1000 := hx
  have HX : Hid (xs.length ≤ 1048576) := (by show xs.length ≤ 1048576; omega)
  have d1 : decide (1048576 - (len : Int) < 0) = false := by simp; omega
  have dk : decide (1 + 5 * (len : Int) < 0) = false := by simp; omega
  have dx : decide (1 + 5 * (xs.length : Int) < 0) = false := by simp; omega
  have HL : Hid (len ≤ 1048576) := hl
  clear hi hl hx hp
  go_enter Tryd.func3, Tryd.ntmps3
  go_wp2_with (go_at_call 4; refine (hz.out _).mono ?_; rintro e w ⟨rfl, rfl⟩)
  refine (ht.out _ (Below.refl _ _)).mono ?_
  rintro e w1 ⟨B1, rfl, hO1, _, _, hb1⟩
  have hW1 : Hid (Below w.heap.size w w1) := hb1
  have HO1 : Hid (OwnA (some ⟨B1, 0, none⟩) len l w1) := hO1
  clear hb1 hO1
  go_wp2_with fail
  refine (hS.out _ B1 HO1.out).mono ?_
  intro e w2 hA
  obtain ⟨a1, c1, rfl, hN⟩ := AnsN.out hA
  have hb2 := bel_alloc w2 (.cells #[.slice a1 xs.length c1, .int .i64 code] 26)
  have hV2 := box2_new w2 (.slice a1 xs.length c1) (.int .i64 code) 26
  have hW2 : Hid (Below w.heap.size w (w2.alloc (.cells #[.slice a1 xs.length c1, .int .i64 code] 26))) := Below.on (Below.on hW1.out hN.bel) hb2
  have HS2 : Hid (OwnA a1 xs.length xs (w2.alloc (.cells #[.slice a1 xs.length c1, .int .i64 code] 26))) := hN.own.below hb2
  have IW : Hid (∀ A, a1 = some A → A.block < w2.heap.size) := (fun A e => (hN.inn A e).2)
  have hz2 : (w2.alloc (.cells #[.slice a1 xs.length c1, .int .i64 code] 26)).heap.size = w2.heap.size + 1 := by simp
  have hw2 : Hid (w.heap.size ≤ w2.heap.size) := (Below.on hW1.out hN.bel).size
  clear hA hN hW1 HO1 hb2
  go_wp2_with fail
  refine (ht.out _ hW2.out).mono ?_
  rintro e w3 ⟨B3, rfl, hO3, hB3, hB3', hb3⟩
  have hW3 : Hid (Below w.heap.size w w3) := Below.on hW2.out hb3
  have HO3 : Hid (OwnA (some ⟨B3, 0, none⟩) len l w3) := hO3
  have HS3 : Hid (OwnA a1 xs.length xs w3) := HS2.out.below hb3
  have hV3 := hV2.below hb3
  rw [hz2] at hB3
  have IX : Hid ((∀ A, a1 = some A → A.block < w2.heap.size) ∧ w.heap.size ≤ w2.heap.size ∧ w2.heap.size < B3) := ⟨IW.out, hw2.out, by omega⟩
  have IZ : Hid (B3 < w3.heap.size) := hB3'
  clear hb3 hO3 hW2 HS2 IW hB3 hB3' hV2 hz2 hw2
  generalize w2.heap.size = X1 at hV3 IX ⊢
  obtain ⟨vl, v0, v1⟩ := hV3
  go_wp2_with fail
  refine (hI.out _ B3 hW3.out HO3.out).mono ?_
  intro e w4 hA
  obtain ⟨b1, f1, rfl, hN⟩ := AnsN.out hA
  have hb4 := bel_alloc w4 (.cells #[.slice b1 xs.length f1, .int .i64 code] 26)
  have hR4 := box2_new w4 (.slice b1 xs.length f1) (.int .i64 code) 26
  have hV4 := ((Box2.mk vl v0 v1).below hN.bel).below hb4
  have hW4 : Hid (Below w.heap.size w (w4.alloc (.cells #[.slice b1 xs.length f1, .int .i64 code] 26))) := Below.on (Below.on hW3.out hN.bel) hb4
  have HO4 : Hid (OwnA (some ⟨B3, 0, none⟩) len l (w4.alloc (.cells #[.slice b1 xs.length f1, .int .i64 code] 26))) := (HO3.out.below hN.bel).below hb4
  have HS4 : Hid (OwnA a1 xs.length xs (w4.alloc (.cells #[.slice b1 xs.length f1, .int .i64 code] 26))) := (HS3.out.below hN.bel).below hb4
  have HG4 : Hid (OwnA b1 xs.length xs (w4.alloc (.cells #[.slice b1 xs.length f1, .int .i64 code] 26))) := hN.own.below hb4
  have IG : Hid ((∀ A, b1 = some A → B3 < A.block ∧ A.block < w4.heap.size) ∧ B3 < w4.heap.size) := ⟨fun A e => ⟨Nat.lt_of_lt_of_le IZ.out (hN.inn A e).1, (hN.inn A e).2⟩, Nat.lt_of_lt_of_le IZ.out hN.bel.size⟩
  obtain ⟨vl, v0, v1⟩ := (Box2.mk vl v0 v1).below hN.bel
  clear hA hN hW3 HO3 HS3 IZ hb4
  go_wp2_with fail
  refine (eqNfsOut_any _ _ xs.length _ _ code xs HX.out _ HG4.out.acs HS4.out.acs).mono ?_
  rintro e w5 ⟨rfl, hb5⟩
  have hW5 : Hid (Below w.heap.size w w5) := Below.on hW4.out hb5
  have HO5 : Hid (OwnA (some ⟨B3, 0, none⟩) len l w5) := HO4.out.below hb5
  have HS5 : Hid (OwnA a1 xs.length xs w5) := HS4.out.below hb5
  have HG5 : Hid (OwnA b1 xs.length xs w5) := HG4.out.below hb5
  have hV5 := hV4.below hb5
  have hR5 := hR4.below hb5
  clear hb5 hW4 HO4 HS4 HG4 vl v0 v1 hV4 hR4
  generalize w4.heap.size = X2 at hR5 IG ⊢
  go_wp2_with fail
  refine (ht.out _ hW5.out).mono ?_
  rintro e w6 ⟨B6, rfl, hO6, _, _, hb6⟩
  have hW6 : Hid (Below w.heap.size w w6) := Below.on hW5.out hb6
  have HO6 : Hid (OwnA (some ⟨B3, 0, none⟩) len l w6) := HO5.out.below hb6
  have HS6 : Hid (OwnA a1 xs.length xs w6) := HS5.out.below hb6
  have HG6 : Hid (OwnA b1 xs.length xs w6) := HG5.out.below hb6
  have HT6 : Hid (OwnA (some ⟨B6, 0, none⟩) len l w6) := hO6
  have hV6 := hV5.below hb6
  have hR6 := hR5.below hb6
  clear hb6 hO6 hW5 HO5 HS5 HG5 hV5 hR5
  go_wp2_with fail
  refine (eqAceS_any _ _ len _ _ l HL.out _ HO6.out.acs HT6.out.acs).mono ?_
  rintro e w7 ⟨rfl, hb7⟩
  have hW7 : Hid (Below w.heap.size w w7) := Below.on hW6.out hb7
  have HO7 : Hid (OwnA (some ⟨B3, 0, none⟩) len l w7) := HO6.out.below hb7
  have HS7 : Hid (OwnA a1 xs.length xs w7) := HS6.out.below hb7
  have HG7 : Hid (OwnA b1 xs.length xs w7) := HG6.out.below hb7
  have hV7 := hV6.below hb7
  have hR7 := hR6.below hb7
  clear hb7 hW6 HO6 HS6 HG6 HT6 hV6 hR6
  go_wp2_with fail
  refine (markAceS_any _ len _ 1 l (by omega) (by omega) HL.out _ HO7.out).mono ?_
  rintro e w8 ⟨rfl, _, hM⟩
  have hW8 : Hid (Below w.heap.size w w8) := hW7.out.trans (hM.below _ (fun A e => by cases e; have := IX.out.2; dsimp only; omega))
  have HS8 : Hid (OwnA a1 xs.length xs w8) := hM.own HS7.out (fun A A2 e e2 => by cases e; have := IX.out.1 A2 e2; have h2 := IX.out.2; dsimp only; omega)
  have HG8 : Hid (OwnA b1 xs.length xs w8) := hM.own HG7.out (fun A A2 e e2 => by cases e; have := IG.out.1 A2 e2; dsimp only; omega)
  have hV8 := hV7.keep (by rw [hM.size]; exact hV7.lt) (fun o => (hM.cell X1 o (fun A e => by cases e; have := IX.out.2; dsimp only; omega)).1)
  have hR8 := hR7.keep (by rw [hM.size]; exact hR7.lt) (fun o => (hM.cell X2 o (fun A e => by cases e; have := IG.out.2; dsimp only; omega)).1)
  clear hM hW7 HO7 HS7 HG7 hV7 hR7
  obtain ⟨vl, v0, v1⟩ := hV8
  obtain ⟨zl, z0, z1⟩ := hR8
  go_wp2_with fail
  refine (eqNfsOut_any _ _ xs.length _ _ code xs HX.out _ HG8.out.acs HS8.out.acs).mono ?_
  rintro e w9 ⟨rfl, hb9⟩
  have hW9 : Hid (Below w.heap.size w w9) := Below.on hW8.out hb9
  have HS9 : Hid (OwnA a1 xs.length xs w9) := HS8.out.below hb9
  have HG9 : Hid (OwnA b1 xs.length xs w9) := HG8.out.below hb9
  have hV9 := (Box2.mk vl v0 v1).below hb9
  have hR9 := (Box2.mk zl z0 z1).below hb9
  clear hb9 hW8 HS8 HG8 vl v0 v1 zl z0 z1
  obtain ⟨zl, z0, z1⟩ := hR9
  go_wp2_with fail
  refine (markNfsOut_any _ xs.length _ code 1 xs (by omega) (by omega) HX.out _ HG9.out (fun A e => Nat.lt_trans (IG.out.1 A e).2 zl)).mono ?_
  rintro e w10 ⟨rfl, hm1, hMs, hMb, hMc⟩
  have hW10 : Hid (Below w.heap.size w w10) := hW9.out.trans (hMb _ hW9.out.size (fun A e => by have h1 := IG.out.1 A e; have h2 := IX.out.2; omega))
  have HS10 : Hid (OwnA a1 xs.length xs w10) := ⟨HS9.out.1, fun h0 => by
    obtain ⟨B, ha, hlt, hp⟩ := HS9.out.2 h0
    have hb : ∀ A, b1 = some A → B ≠ A.block := fun A e => by have h1 := IG.out.1 A e; have h2 := IX.out.1 _ ha; have h3 := IX.out.2; dsimp only at h2; omega
    exact ⟨B, ha, Nat.lt_of_lt_of_le hlt hMs, fun i hi => ⟨(hp i hi).1.keep (fun j => (hMc B j hlt hb).1), (hp i hi).2.keep (fun j => (hMc B j hlt hb).2)⟩⟩⟩
  have HM10 : Hid (OwnA b1 xs.length (marksA 1 xs.length) w10) := hm1
  have hV10 := hV9.keep (Nat.lt_of_lt_of_le hV9.lt hMs) (fun o => (hMc X1 o hV9.lt (fun A e => by have h1 := IG.out.1 A e; have h2 := IX.out.2; omega)).1)
  have hR10 := (Box2.mk zl z0 z1).keep (Nat.lt_of_lt_of_le zl hMs) (fun o => (hMc X2 o zl (fun A e => by have h1 := IG.out.1 A e; omega)).1)
  clear hMs hMb hMc hm1 hW9 HS9 HG9 hV9 zl z0 z1
  obtain ⟨zl, z0, z1⟩ := hR10
  go_wp2_with fail
  refine (heldNfsOut_any _ xs.length _ code 1 (by omega) (by omega) HX.out _ HM10.out).mono ?_
  rintro e w11 ⟨rfl, hb11⟩
  have hW11 : Hid (Below w.heap.size w w11) := Below.on hW10.out hb11
  have HS11 : Hid (OwnA a1 xs.length xs w11) := HS10.out.below hb11
  have HM11 : Hid (OwnA b1 xs.length (marksA 1 xs.length) w11) := HM10.out.below hb11
  have hV11 := hV10.below hb11
  have hR11 := (Box2.mk zl z0 z1).below hb11
  clear hb11 hW10 HS10 HM10 hV10 zl z0 z1
  go_wp2_with fail
  refine (ht.out _ hW11.out).mono ?_
  rintro e w12 ⟨B7, rfl, hO12, _, _, hb12⟩
  have hW12 : Hid (Below w.heap.size w w12) := Below.on hW11.out hb12
  have HS12 : Hid (OwnA a1 xs.length xs w12) := HS11.out.below hb12
  have HM12 : Hid (OwnA b1 xs.length (marksA 1 xs.length) w12) := HM11.out.below hb12
  have HO12 : Hid (OwnA (some ⟨B7, 0, none⟩) len l w12) := hO12
  have hV12 := hV11.below hb12
  have hR12 := hR11.below hb12
  clear hb12 hO12 hW11 HS11 HM11 hV11 hR11
  go_wp2_with fail
  refine (hI.out _ B7 hW12.out HO12.out).mono ?_
  intro e w13 hA
  obtain ⟨d1, g1, rfl, hN⟩ := AnsN.out hA
  have hb13 := bel_alloc w13 (.cells #[.slice d1 xs.length g1, .int .i64 code] 26)
  have hW13 : Hid (Below w.heap.size w (w13.alloc (.cells #[.slice d1 xs.length g1, .int .i64 code] 26))) := Below.on (Below.on hW12.out hN.bel) hb13
  have HS13 : Hid (OwnA a1 xs.length xs (w13.alloc (.cells #[.slice d1 xs.length g1, .int .i64 code] 26))) := (HS12.out.below hN.bel).below hb13
  have HM13 : Hid (OwnA b1 xs.length (marksA 1 xs.length) (w13.alloc (.cells #[.slice d1 xs.length g1, .int .i64 code] 26))) := (HM12.out.below hN.bel).below hb13
  have HH13 : Hid (OwnA d1 xs.length xs (w13.alloc (.cells #[.slice d1 xs.length g1, .int .i64 code] 26))) := hN.own.below hb13
  obtain ⟨vl, v0, v1⟩ := hV12.below hN.bel
  have hR13 := (hR12.below hN.bel).below hb13
  clear hA hN hW12 HS12 HM12 HO12 hb13 hV12 hR12
  go_wp2_with fail
  refine (eqNfsOut_any _ _ xs.length _ _ code xs HX.out _ HH13.out.acs HS13.out.acs).mono ?_
  rintro e w14 ⟨rfl, hb14⟩
  have hW14 : Hid (Below w.heap.size w w14) := Below.on hW13.out hb14
  have HM14 : Hid (OwnA b1 xs.length (marksA 1 xs.length) w14) := HM13.out.below hb14
  obtain ⟨zl, z0, z1⟩ := hR13.below hb14
  clear hb14 hW13 HS13 HM13 HH13 hR13 vl v0 v1
  go_wp2_with fail
  refine (heldNfsOut_any _ xs.length _ code 1 (by omega) (by omega) HX.out _ HM14.out).mono ?_
  rintro e w15 ⟨rfl, hb15⟩
  have hW15 : Hid (Below w.heap.size w w15) := Below.on hW14.out hb15
  clear hb15 hW14 HM14 zl z0 z1
  go_wp2
  go_ret
  exact ⟨rfl, hW15.out⟩
end Go.Proofs.YtddkmlkfphmdoaaDoor
