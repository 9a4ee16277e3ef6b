/- spec.l04Alone. -/
import Derived.Test.YtklaebcdbbgooabDoorGiveMath
namespace Go.Proofs.YtklaebcdbbgooabDoor
open Go.RowKit Go.PlainAid Go.Deep
set_option linter.unusedVariables false
/-- It is of a kind, or of all. -/
def kindB (who : Int) (x : Ac) : Bool := x.wh == who || x.wh == 3
theorem ret_intJ {a b : Int} (h : a = b) : Ending.returned (.int .i64 a) = .returned (.int .i64 b) := by rw [h]
theorem aces_partsJ {l : List Ac} (h : acesB l = true) : l.length ≤ 32 ∧ ∀ i, i < l.length → aceB (acAt l i) = true := by
  simp only [acesB, Bool.and_eq_true, decide_eq_true_eq] at h
  exact ⟨h.1, fun i hi => allA_at hi h.2⟩
set_option maxRecDepth 100000 in
set_option maxHeartbeats 8000000 in
/-- spec.l04Alone of a right list that is not empty. -/
theorem sAlone_some (b off cap : Nat) (l : List Ac) (who : Int) (R : Int → Int) (ha : acesB l = true) (w : World) (hb : b < w.heap.size) (hc : ∀ i, i < l.length → Five w b (off + i * 5) (acAt l i))
    (hR : ∀ (m : Nat) w', m ≤ 255 → Calls Tryd.prog 35 #[.int .i64 (m : Int)] w' fun e w'' => e = .returned (.int .i64 (R (m : Int))) ∧ Below w'.heap.size w' w'') :
    Calls Tryd.prog 17 #[.slice (some ⟨b, off, none⟩) l.length cap, .int .i64 who] w fun e w' => e = .returned (.int .i64 (R (giveI (fltP (kindB who) l l.length)).1)) ∧ Below w.heap.size w w' := by
  obtain ⟨hl, hRt⟩ := aces_partsJ ha
  have hma : ∀ i, i < l.length → 0 ≤ (acAt l i).ma ∧ (acAt l i).ma ≤ 255 := fun i hi => by have := (aceB_iff.1 (hRt i hi)).2.2.2.2; omega
  have HMA : Hid (∀ i, i < l.length → 0 ≤ (acAt l i).ma ∧ (acAt l i).ma ≤ 255) := hma
  have HGN := giveI_nat hma (kindB who)
  have HNX : Hid (∀ k, k < l.length → (hldB (acAt l k) && kindB who (acAt l k)) = true → giveI (fltP (kindB who) l (k + 1)) = (takeP (acAt l k).al (giveI (fltP (kindB who) l k)).1 ((acAt l k).ma - andI (acAt l k).ma (giveI (fltP (kindB who) l k)).2), (giveI (fltP (kindB who) l k)).2 + ((acAt l k).ma - andI (acAt l k).ma (giveI (fltP (kindB who) l k)).2))) := (fun k hk h => giveI_next hma _ hk h)
  have HC : Hid (∀ i, i < l.length → Five w b (off + i * 5) (acAt l i)) := hc
  have HG : Hid (∀ k, k ≤ l.length → ∃ g' s : Nat, giveI (fltP (kindB who) l k) = ((g' : Int), (s : Int)) ∧ g' ≤ 255 ∧ s ≤ 255 ∧ s ||| g' = s) := HGN
  have HK : Hid (∀ x, kindB who x = (x.wh == who || x.wh == 3)) := (fun x => rfl)
  have HR : Hid (∀ (m : Nat) w', m ≤ 255 → Calls Tryd.prog 35 #[.int .i64 (m : Int)] w' fun e w'' => e = .returned (.int .i64 (R (m : Int))) ∧ Below w'.heap.size w' w'') := hR
  clear HGN hma hc hRt ha hR
  generalize kindB who = p at HG HNX HK ⊢
  generalize hlen : l.length = len at hl HMA HC HNX HG ⊢
  clear hlen
  go_enter Tryd.func17, Tryd.ntmps17
  go_wp2
  go_loopw [5, 6, 7] (fun s q i wr => ∃ (k gN sN : Nat), k ≤ len ∧ i = .int .i64 k ∧ s = .int .i64 (sN : Int) ∧ q = .int .i64 (gN : Int) ∧ Hid (giveI (fltP p l k) = ((gN : Int), (sN : Int)) ∧ gN ≤ 255 ∧ sN ≤ 255) ∧ Hid (Below w.heap.size w wr)) (fun _ _ i _ => len - (intOf i).toNat)
  case atStart => exact ⟨0, 0, 0, Nat.zero_le _, rfl, rfl, rfl, ⟨rfl, by omega, by omega⟩, Below.refl _ _⟩
  case round =>
    obtain ⟨k, gN, sN, hk, rfl, rfl, rfl, hGS, hB⟩ := hrel
    by_cases hlt : k < len
    · have hlt' : (k : Int) < (len : Int) := by omega
      have HF : Hid (Five w b (off + k * 5) (acAt l k)) := HC.out k hlt
      obtain ⟨c0, c1, c2, c3, c4⟩ := HF.out.below hb hB.out
      have HM := HMA.out k hlt
      have HN := HNX.out k hlt
      rw [hGS.out.1] at HN
      have HNO : (hldB (acAt l k) && p (acAt l k)) = false → fltP p l (k + 1) = fltP p l k := fltP_no
      have HK1 : Hid (∃ g' s : Nat, giveI (fltP p l (k + 1)) = ((g' : Int), (s : Int)) ∧ g' ≤ 255 ∧ s ≤ 255 ∧ s ||| g' = s) := HG.out (k + 1) (by omega)
      generalize acAt l k = x at HF c0 c1 c2 c3 c4 HM HN HNO
      obtain ⟨hm0, hm1⟩ := HM
      have HKX : Hid (p x = (x.wh == who || x.wh == 3)) := HK.out x
      cases hh : hldB x
      · have HO : Hid (fltP p l (k + 1) = fltP p l k) := HNO (by rw [hh]; rfl)
        clear HN HNO
        go_wp2_with (go_at_call 33; refine (sl04HoldsG x _).mono ?_; rintro e w3 ⟨rfl, hb3⟩; obtain ⟨d0, d1, d2, d3, d4⟩ := HF.out.below hb (Below.on hB.out hb3))
        go_roundw
        case rel => exact ⟨k + 1, gN, sN, by omega, by go_num, rfl, rfl, ⟨by rw [HO.out]; exact hGS.out.1, hGS.out.2⟩, Below.on hB.out hb3⟩
        case measure => simp [intOf]; omega
      · cases h1 : (x.wh == who)
        · cases h2 : (x.wh == 3)
          · have HO : Hid (fltP p l (k + 1) = fltP p l k) := HNO (by rw [hh, HKX.out, h1, h2]; rfl)
            clear HN HNO
            go_wp2_with (go_at_call 33; refine (sl04HoldsG x _).mono ?_; rintro e w3 ⟨rfl, hb3⟩; obtain ⟨d0, d1, d2, d3, d4⟩ := HF.out.below hb (Below.on hB.out hb3))
            go_roundw
            case rel => exact ⟨k + 1, gN, sN, by omega, by go_num, rfl, rfl, ⟨by rw [HO.out]; exact hGS.out.1, hGS.out.2⟩, Below.on hB.out hb3⟩
            case measure => simp [intOf]; omega
          · have HO : Hid (giveI (fltP p l (k + 1)) = (takeP x.al (gN : Int) (x.ma - andI x.ma (sN : Int)), (sN : Int) + (x.ma - andI x.ma (sN : Int)))) := HN (by rw [hh, HKX.out, h1, h2]; rfl)
            clear HN HNO
            go_wp2_with (first | (go_at_call 33; refine (sl04HoldsG x _).mono ?_; rintro e w3 ⟨rfl, hb3⟩; obtain ⟨d0, d1, d2, d3, d4⟩ := HF.out.below hb (Below.on hB.out hb3)) | (go_at_call 34; refine (sTake_any x _ _ hm0 hm1 (by omega) (by have := hGS.out.2.2; omega) (by omega) (by have := hGS.out.2.1; omega) _).mono ?_; rintro e w4 ⟨rfl, hb4⟩))
            obtain ⟨g', s', e1, e2, e3, _⟩ := HK1.out
            have e4 := HO.out.symm.trans e1
            have e5 := congrArg Prod.fst e4
            have e6 := congrArg Prod.snd e4
            simp only at e5 e6
            go_roundw
            case rel => exact ⟨k + 1, g', s', by omega, by go_num, by rw [e6], by rw [e5], ⟨e1, e2, e3⟩, Below.on (Below.on hB.out hb3) hb4⟩
            case measure => simp [intOf]; omega
        · have HO : Hid (giveI (fltP p l (k + 1)) = (takeP x.al (gN : Int) (x.ma - andI x.ma (sN : Int)), (sN : Int) + (x.ma - andI x.ma (sN : Int)))) := HN (by rw [hh, HKX.out, h1]; rfl)
          clear HN HNO
          go_wp2_with (first | (go_at_call 33; refine (sl04HoldsG x _).mono ?_; rintro e w3 ⟨rfl, hb3⟩; obtain ⟨d0, d1, d2, d3, d4⟩ := HF.out.below hb (Below.on hB.out hb3)) | (go_at_call 34; refine (sTake_any x _ _ hm0 hm1 (by omega) (by have := hGS.out.2.2; omega) (by omega) (by have := hGS.out.2.1; omega) _).mono ?_; rintro e w4 ⟨rfl, hb4⟩))
          obtain ⟨g', s', e1, e2, e3, _⟩ := HK1.out
          have e4 := HO.out.symm.trans e1
          have e5 := congrArg Prod.fst e4
          have e6 := congrArg Prod.snd e4
          simp only at e5 e6
          go_roundw
          case rel => exact ⟨k + 1, g', s', by omega, by go_num, by rw [e6], by rw [e5], ⟨e1, e2, e3⟩, Below.on (Below.on hB.out hb3) hb4⟩
          case measure => simp [intOf]; omega
    · have : k = len := by omega
      subst this
      obtain ⟨b1, b2, b3⟩ := hGS.out
      have HQ : Hid ((giveI (fltP p l k)).1 = (gN : Int)) := (by show _ = _; rw [b1])
      clear b1
      go_wp2_with (go_at_call 35; refine (HR.out gN _ b2).mono ?_; rintro e w3 ⟨rfl, hb3⟩)
      go_ret
      exact ⟨ret_intJ (by rw [HQ.out]), Below.on hB.out hb3⟩
end Go.Proofs.YtklaebcdbbgooabDoor
