/- The law FnExactNfsTrim, of a list that is not too long, and of one that is. -/
import Derived.Test.YtklaebcdbbgooabNfsTrimS
namespace Go.Proofs.Ytklaebcdbbgooab
open Go.RowKit Go.PlainAid
set_option linter.unusedVariables false
set_option maxHeartbeats 2000000 in
theorem nfsTrim_long (a : Option Addr) (len cap : Nat) (hl : ¬ len ≤ 1048576) (hm : len ≤ 9223372036854775807) (w : World) :
    Calls Try.prog 6 #[.slice a len cap] w fun e w' => e = .returned (.bool true) ∧ Below w.heap.size w w' := by
  have hz : Hid (∀ w, Calls Try.prog 7 #[.slice a len cap, .int .i64 1048576] w fun e w' => e = .returned (.int .i64 (-1)) ∧ w' = w) := (by
    intro w
    have := szAceS_any a len cap 1048576 (by omega) hm w
    rwa [if_pos (by omega)] at this)
  clear hl hm
  go_enter Try.func6, Try.ntmps6
  go_wp2_with (go_at_call 7; refine (hz.out _).mono ?_; rintro e w1 ⟨rfl, rfl⟩)
  go_ret
  exact ⟨rfl, Below.refl _ _⟩
set_option maxRecDepth 100000 in
set_option maxHeartbeats 8000000 in
theorem nfsTrim_short (a : Option Addr) (len cap : Nat) (l : List Ac) (hl : len ≤ 1048576) (w : World) (hi : Acs a len l w) :
    Calls Try.prog 6 #[.slice a len cap] w fun e w' => e = .returned (.bool true) ∧ Below w.heap.size w w' := by
  have hz : Hid (∀ w, Calls Try.prog 7 #[.slice a len cap, .int .i64 1048576] w fun e w' => e = .returned (.int .i64 (1048576 - len)) ∧ w' = w) := (by
    intro w
    have := szAceS_any a len cap 1048576 (by omega) (by omega) w
    rwa [if_neg (by omega)] at this)
  have ht : Hid (∀ w', Below w.heap.size w w' → Calls Try.prog 9 #[.slice a len cap] w' fun e w'' => ∃ B, e = .returned (.slice (some ⟨B, 0, none⟩) len len) ∧ OwnA (some ⟨B, 0, none⟩) len l w'' ∧ w'.heap.size ≤ B ∧ B < w''.heap.size ∧ Below w'.heap.size w' w'') := (fun w' hb => (toAceS_any a len cap l hl w' (hi.below hb)).mono (fun e w'' ⟨h1, h2, h3, h4⟩ => ⟨_, h1, h2, Nat.le_refl _, h3, h4⟩))
  have hx : (trimL l).length ≤ 1000 := Nat.le_trans (trimL_len l) (by omega)
  have hS : Hid (∀ w' B, OwnA (some ⟨B, 0, none⟩) len l w' → Calls Try.prog 22 #[.slice (some ⟨B, 0, none⟩) len len] w' (AnsL (trimL l) w')) := (fun w' B h1 => sNfsTrim_any _ len len l  hl w' h1.acs)
  have hI : Hid (∀ w' B, OwnA (some ⟨B, 0, none⟩) len l w' → Calls Try.prog 23 #[.slice (some ⟨B, 0, none⟩) len len] w' (AnsL (trimL l) w')) := (fun w' B h1 => iNfsTrim_any _ len len l (Nat.le_refl _) w' h1.acs)
  generalize trimL l = xs at hS hI hx
  have HX : Hid (xs.length ≤ 1048576) := (by show xs.length ≤ 1048576; omega)
  have d1 : decide (1048576 - (len : Int) < 0) = false := by simp; omega
  have dk : decide (1 + 5 * (len : Int) < 0) = false := by simp; omega
  have dx : decide (1 + 5 * (xs.length : Int) < 0) = false := by simp; omega
  have HL : Hid (len ≤ 1048576) := hl
  clear hi hl hx
  go_enter Try.func6, Try.ntmps6
  go_wp2_with (go_at_call 7; refine (hz.out _).mono ?_; rintro e w ⟨rfl, rfl⟩)
  refine (ht.out _ (Below.refl _ _)).mono ?_
  rintro e w1 ⟨B1, rfl, hO1, _, _, hb1⟩
  have hW1 : Hid (Below w.heap.size w w1) := hb1
  have HO1 : Hid (OwnA (some ⟨B1, 0, none⟩) len l w1) := hO1
  clear hb1 hO1
  go_wp2_with fail
  refine (hS.out _ B1 HO1.out).mono ?_
  intro e w2 hA
  obtain ⟨a1, c1, rfl, hN⟩ := hA.out
  have hW2 : Hid (Below w.heap.size w w2) := Below.on hW1.out hN.bel
  have HS2 : Hid (OwnA a1 xs.length xs w2) := hN.own
  have IW : Hid (∀ A, a1 = some A → A.block < w2.heap.size) := (fun A e => (hN.inn A e).2)
  clear hA hN hW1 HO1
  go_wp2_with fail
  refine (ht.out _ hW2.out).mono ?_
  rintro e w3 ⟨B3, rfl, hO3, hB3, hB3', hb3⟩
  have hW3 : Hid (Below w.heap.size w w3) := Below.on hW2.out hb3
  have HO3 : Hid (OwnA (some ⟨B3, 0, none⟩) len l w3) := hO3
  have HS3 : Hid (OwnA a1 xs.length xs w3) := HS2.out.below hb3
  have IX : Hid ((∀ A, a1 = some A → A.block < B3) ∧ w.heap.size ≤ B3) := ⟨fun A e => Nat.lt_of_lt_of_le (IW.out A e) hB3, Nat.le_trans hW2.out.size hB3⟩
  have IZ : Hid (B3 < w3.heap.size) := hB3'
  clear hb3 hO3 hW2 HS2 IW hB3 hB3'
  go_wp2_with fail
  refine (hI.out _ B3 HO3.out).mono ?_
  intro e w4 hA
  obtain ⟨b1, f1, rfl, hN⟩ := hA.out
  have hW4 : Hid (Below w.heap.size w w4) := Below.on hW3.out hN.bel
  have HO4 : Hid (OwnA (some ⟨B3, 0, none⟩) len l w4) := HO3.out.below hN.bel
  have HS4 : Hid (OwnA a1 xs.length xs w4) := HS3.out.below hN.bel
  have HG4 : Hid (OwnA b1 xs.length xs w4) := hN.own
  have IG : Hid (∀ A, b1 = some A → B3 < A.block ∧ A.block < w4.heap.size) := (fun A e => ⟨Nat.lt_of_lt_of_le IZ.out (hN.inn A e).1, (hN.inn A e).2⟩)
  clear hA hN hW3 HO3 HS3 IZ
  go_wp2_with fail
  refine (eqAceS_any _ _ xs.length _ _ xs HX.out _ HG4.out.acs HS4.out.acs).mono ?_
  rintro e w5 ⟨rfl, hb5⟩
  have hW5 : Hid (Below w.heap.size w w5) := Below.on hW4.out hb5
  have HO5 : Hid (OwnA (some ⟨B3, 0, none⟩) len l w5) := HO4.out.below hb5
  have HS5 : Hid (OwnA a1 xs.length xs w5) := HS4.out.below hb5
  have HG5 : Hid (OwnA b1 xs.length xs w5) := HG4.out.below hb5
  clear hb5 hW4 HO4 HS4 HG4
  go_wp2_with fail
  refine (ht.out _ hW5.out).mono ?_
  rintro e w6 ⟨B6, rfl, hO6, _, _, hb6⟩
  have hW6 : Hid (Below w.heap.size w w6) := Below.on hW5.out hb6
  have HO6 : Hid (OwnA (some ⟨B3, 0, none⟩) len l w6) := HO5.out.below hb6
  have HS6 : Hid (OwnA a1 xs.length xs w6) := HS5.out.below hb6
  have HG6 : Hid (OwnA b1 xs.length xs w6) := HG5.out.below hb6
  have HT6 : Hid (OwnA (some ⟨B6, 0, none⟩) len l w6) := hO6
  clear hb6 hO6 hW5 HO5 HS5 HG5
  go_wp2_with fail
  refine (eqAceS_any _ _ len _ _ l HL.out _ HO6.out.acs HT6.out.acs).mono ?_
  rintro e w7 ⟨rfl, hb7⟩
  have hW7 : Hid (Below w.heap.size w w7) := Below.on hW6.out hb7
  have HO7 : Hid (OwnA (some ⟨B3, 0, none⟩) len l w7) := HO6.out.below hb7
  have HS7 : Hid (OwnA a1 xs.length xs w7) := HS6.out.below hb7
  have HG7 : Hid (OwnA b1 xs.length xs w7) := HG6.out.below hb7
  clear hb7 hW6 HO6 HS6 HG6 HT6
  go_wp2_with fail
  refine (markAceS_any _ len _ 1 l (by omega) (by omega) HL.out _ HO7.out).mono ?_
  rintro e w8 ⟨rfl, _, hM⟩
  have hW8 : Hid (Below w.heap.size w w8) := hW7.out.trans (hM.below _ (fun A e => by cases e; exact IX.out.2))
  have HS8 : Hid (OwnA a1 xs.length xs w8) := hM.own HS7.out (fun A A2 e e2 => by cases e; have := IX.out.1 A2 e2; dsimp only; omega)
  have HG8 : Hid (OwnA b1 xs.length xs w8) := hM.own HG7.out (fun A A2 e e2 => by cases e; have := IG.out A2 e2; dsimp only; omega)
  clear hM hW7 HO7 HS7 HG7
  go_wp2_with fail
  refine (eqAceS_any _ _ xs.length _ _ xs HX.out _ HG8.out.acs HS8.out.acs).mono ?_
  rintro e w9 ⟨rfl, hb9⟩
  have hW9 : Hid (Below w.heap.size w w9) := Below.on hW8.out hb9
  have HS9 : Hid (OwnA a1 xs.length xs w9) := HS8.out.below hb9
  have HG9 : Hid (OwnA b1 xs.length xs w9) := HG8.out.below hb9
  clear hb9 hW8 HS8 HG8
  go_wp2_with fail
  refine (markAceS_any _ xs.length _ 1 xs (by omega) (by omega) HX.out _ HG9.out).mono ?_
  rintro e w10 ⟨rfl, hm1, hM⟩
  have hW10 : Hid (Below w.heap.size w w10) := hW9.out.trans (hM.below _ (fun A e => by have h1 := IG.out A e; have h2 := IX.out.2; omega))
  have HS10 : Hid (OwnA a1 xs.length xs w10) := hM.own HS9.out (fun A A2 e e2 => by have h1 := IG.out A e; have := IX.out.1 A2 e2; omega)
  have HM10 : Hid (OwnA b1 xs.length (marksA 1 xs.length) w10) := hm1
  clear hM hm1 hW9 HS9 HG9
  go_wp2_with fail
  refine (heldAceS_any _ xs.length _ 1 (by omega) (by omega) HX.out _ HM10.out).mono ?_
  rintro e w10 ⟨rfl, rfl⟩
  go_wp2_with fail
  refine (ht.out _ hW10.out).mono ?_
  rintro e w11 ⟨B7, rfl, hO11, _, _, hb11⟩
  have hW11 : Hid (Below w.heap.size w w11) := Below.on hW10.out hb11
  have HS11 : Hid (OwnA a1 xs.length xs w11) := HS10.out.below hb11
  have HM11 : Hid (OwnA b1 xs.length (marksA 1 xs.length) w11) := HM10.out.below hb11
  have HO11 : Hid (OwnA (some ⟨B7, 0, none⟩) len l w11) := hO11
  clear hb11 hO11 hW10 HS10 HM10
  go_wp2_with fail
  refine (hI.out _ B7 HO11.out).mono ?_
  intro e w12 hA
  obtain ⟨d1, g1, rfl, hN⟩ := hA.out
  have hW12 : Hid (Below w.heap.size w w12) := Below.on hW11.out hN.bel
  have HS12 : Hid (OwnA a1 xs.length xs w12) := HS11.out.below hN.bel
  have HM12 : Hid (OwnA b1 xs.length (marksA 1 xs.length) w12) := HM11.out.below hN.bel
  have HH12 : Hid (OwnA d1 xs.length xs w12) := hN.own
  clear hA hN hW11 HS11 HM11 HO11
  go_wp2_with fail
  refine (eqAceS_any _ _ xs.length _ _ xs HX.out _ HH12.out.acs HS12.out.acs).mono ?_
  rintro e w13 ⟨rfl, hb13⟩
  have hW13 : Hid (Below w.heap.size w w13) := Below.on hW12.out hb13
  have HM13 : Hid (OwnA b1 xs.length (marksA 1 xs.length) w13) := HM12.out.below hb13
  clear hb13 hW12 HS12 HM12 HH12
  go_wp2_with fail
  refine (heldAceS_any _ xs.length _ 1 (by omega) (by omega) HX.out _ HM13.out).mono ?_
  rintro e w13 ⟨rfl, rfl⟩
  go_wp2
  go_ret
  exact ⟨rfl, hW13.out⟩
end Go.Proofs.Ytklaebcdbbgooab
