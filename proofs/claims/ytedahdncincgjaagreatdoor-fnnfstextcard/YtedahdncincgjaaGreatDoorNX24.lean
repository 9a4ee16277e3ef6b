/- Laid together: AceRight, NfsRight, ChmodS, ChmodS2. -/
import Derived.Test.YtedahdncincgjaaGreatDoorNX22
import Derived.Test.YtedahdncincgjaaGreatDoorNX23
import Derived.Deep.RegionLaw
/- AceRight, the program's and the specification's. -/
namespace Go.Proofs.YtedahdncincgjaaGreatDoor
open Go.RowKit Go.PlainAid
set_option linter.unusedVariables false
theorem and3 {f : Int} (h0 : 0 ≤ f) (h1 : f ≤ 15) : bits .and .i64 f 3 = f % 4 := by
  rcases (by omega : f = 0 ∨ f = 1 ∨ f = 2 ∨ f = 3 ∨ f = 4 ∨ f = 5 ∨ f = 6 ∨ f = 7 ∨ f = 8 ∨ f = 9 ∨ f = 10 ∨ f = 11 ∨ f = 12 ∨ f = 13 ∨ f = 14 ∨ f = 15) with rfl | rfl | rfl | rfl | rfl | rfl | rfl | rfl | rfl | rfl | rfl | rfl | rfl | rfl | rfl | rfl <;> decide
set_option maxHeartbeats 1000000 in
theorem flagsRight_any (f : Int) (w : World) :
    Calls Tryz.prog 57 #[.int .i64 f] w fun e w' => e = .returned (.bool (flB f)) ∧ w' = w := by
  cases h : inR 0 15 f
  · have hb : Hid (flB f = false) := (by show _ = _; simp [flB, h])
    have h2 := inR_off h
    rcases h2 with h2 | h2
    · clear h
      go_enter Tryz.func57, Tryz.ntmps57
      go_wp2
      go_ret
      exact ⟨ret_boolW hb.out.symm, rfl⟩
    · have h3 : ¬ f < 0 := by omega
      clear h
      go_enter Tryz.func57, Tryz.ntmps57
      go_wp2
      go_ret
      exact ⟨ret_boolW hb.out.symm, rfl⟩
  · obtain ⟨h0, h1⟩ := inR_iff.1 h
    have h3 : ¬ f < 0 := by omega
    have h4 : ¬ 15 < f := by omega
    have e := and3 h0 h1
    by_cases hz : f = 0
    · subst hz
      go_enter Tryz.func57, Tryz.ntmps57
      go_wp2
      go_ret
      exact ⟨rfl, rfl⟩
    · have hb : Hid ((!decide (f % 4 = 0)) = flB f) := (by show _ = _; by_cases h5 : f % 4 = 0 <;> by_cases h6 : f < 4 <;> simp [flB, h, h5, h6] <;> omega)
      clear h
      go_enter Tryz.func57, Tryz.ntmps57
      go_wp2
      go_ret
      refine ⟨ret_boolW ?_, rfl⟩
      rw [← hb.out]
      show (decide (f = 0) || !decide (f % 4 = 0)) = _
      rw [decide_eq_false hz]
      rfl
set_option maxHeartbeats 1000000 in
theorem names_any (x : Ac) (w : World) :
    Calls Tryz.prog 81 #[.agg #[.bool x.al, .int .i64 x.wh, .int .i64 x.id, .int .i64 x.fl, .int .i64 x.ma]] w fun e w' => e = .returned (.bool (decide (x.wh = 4) || decide (x.wh = 5))) ∧ Below w.heap.size w w' := by
  by_cases h4 : x.wh = 4
  · go_enter Tryz.func81, Tryz.ntmps81
    go_wp2
    go_ret
    exact ⟨ret_boolW (by simp [h4]), bel_alloc _ _⟩
  · have h4' : (x.wh == 4) = false := by simpa using h4
    go_enter Tryz.func81, Tryz.ntmps81
    go_wp2
    go_ret
    refine ⟨ret_boolW ?_, bel_alloc _ _⟩
    rw [decide_eq_false h4]
    rfl
set_option maxHeartbeats 1000000 in
theorem aceIdRight_any (x : Ac) (w : World) :
    Calls Tryz.prog 56 #[.agg #[.bool x.al, .int .i64 x.wh, .int .i64 x.id, .int .i64 x.fl, .int .i64 x.ma]] w fun e w' => e = .returned (.bool (if decide (x.wh = 4) || decide (x.wh = 5) then inR 0 9999 x.id else decide (x.id = 0))) ∧ Below w.heap.size w w' := by
  have hn : Hid (∀ w, Calls Tryz.prog 81 #[.agg #[.bool x.al, .int .i64 x.wh, .int .i64 x.id, .int .i64 x.fl, .int .i64 x.ma]] w fun e w' => e = .returned (.bool (decide (x.wh = 4) || decide (x.wh = 5))) ∧ Below w.heap.size w w') := names_any x
  generalize (decide (x.wh = 4) || decide (x.wh = 5)) = b at hn ⊢
  go_enter Tryz.func56, Tryz.ntmps56
  have hF := five_new w x 24
  go_wp2_with fail
  refine (hn.out _).mono ?_
  rintro e w1 ⟨rfl, hb⟩
  obtain ⟨c0, c1, c2, c3, c4⟩ := hF.below (by simp) hb
  simp only [Nat.zero_add] at c1 c2 c3 c4
  have hB : Hid (Below w.heap.size w w1) := Below.on (bel_alloc _ _) hb
  clear hF hb hn
  cases b
  · go_wp2
    go_ret
    exact ⟨ret_boolW rfl, hB.out⟩
  · go_wp2_with (go_at_call 82; refine (isId_any _ _).mono ?_; rintro e w1 ⟨rfl, rfl⟩)
    go_ret
    exact ⟨rfl, hB.out⟩
theorem aceB_wh {x : Ac} (h : ¬ (1 ≤ x.wh ∧ x.wh ≤ 5)) : aceB x = false := by simp [aceB, inR_no h]
theorem aceB_id {x : Ac} (h1 : 1 ≤ x.wh) (h5 : x.wh ≤ 5) (h : (if decide (x.wh = 4) || decide (x.wh = 5) then inR 0 9999 x.id else decide (x.id = 0)) = false) : aceB x = false := by
  rcases (by omega : x.wh = 4 ∨ x.wh = 5 ∨ x.wh < 4) with e | e | e
  · rw [e] at h
    have : inR 0 9999 x.id = false := h
    simp [aceB, this]
  · rw [e] at h
    have : inR 0 9999 x.id = false := h
    simp [aceB, this]
  · have n4 : ¬ x.wh = 4 := by omega
    have n5 : ¬ x.wh = 5 := by omega
    rw [decide_eq_false n4, decide_eq_false n5] at h
    have h : decide (x.id = 0) = false := h
    simp [aceB, e, h]
theorem aceB_fl {x : Ac} (h : flB x.fl = false) : aceB x = false := by simp [aceB, h]
theorem aceB_ma {x : Ac} (h1 : 1 ≤ x.wh) (h5 : x.wh ≤ 5) (h : (if decide (x.wh = 4) || decide (x.wh = 5) then inR 0 9999 x.id else decide (x.id = 0)) = true) (hf : flB x.fl = true) : aceB x = inR 1 255 x.ma := by
  have hw := inR_yes h1 h5
  rcases (by omega : x.wh = 4 ∨ x.wh = 5 ∨ x.wh < 4) with e | e | e
  · rw [e] at h
    have : inR 0 9999 x.id = true := h
    simp only [aceB, this, hw, hf, decide_eq_false (by omega : ¬ x.wh < 4), Bool.not_false, Bool.true_or, Bool.true_and]
  · rw [e] at h
    have : inR 0 9999 x.id = true := h
    simp only [aceB, this, hw, hf, decide_eq_false (by omega : ¬ x.wh < 4), Bool.not_false, Bool.true_or, Bool.true_and]
  · have n4 : ¬ x.wh = 4 := by omega
    have n5 : ¬ x.wh = 5 := by omega
    rw [decide_eq_false n4, decide_eq_false n5] at h
    have h : decide (x.id = 0) = true := h
    have h2 : x.id = 0 := by simpa using h
    have h3 : inR 0 9999 x.id = true := by rw [h2]; rfl
    simp only [aceB, h3, hw, hf, h, Bool.or_true, Bool.true_and]
set_option maxHeartbeats 4000000 in
/-- impl.AceRight. -/
theorem iAceRight_any (x : Ac) (w : World) :
    Calls Tryz.prog 26 #[.agg #[.bool x.al, .int .i64 x.wh, .int .i64 x.id, .int .i64 x.fl, .int .i64 x.ma]] w fun e w' => e = .returned (.bool (aceB x)) ∧ Below w.heap.size w w' := by
  have hn : Hid (∀ w, Calls Tryz.prog 56 #[.agg #[.bool x.al, .int .i64 x.wh, .int .i64 x.id, .int .i64 x.fl, .int .i64 x.ma]] w fun e w' => e = .returned (.bool (if decide (x.wh = 4) || decide (x.wh = 5) then inR 0 9999 x.id else decide (x.id = 0))) ∧ Below w.heap.size w w') := aceIdRight_any x
  have hF := five_new w x 24
  by_cases h1 : 1 ≤ x.wh
  case neg =>
    have hno : Hid (aceB x = false) := aceB_wh (fun h => h1 h.1)
    go_enter Tryz.func26, Tryz.ntmps26
    go_wp2
    go_ret
    exact ⟨ret_boolW hno.out.symm, bel_alloc _ _⟩
  by_cases h5 : x.wh ≤ 5
  case neg =>
    have hno : Hid (aceB x = false) := aceB_wh (fun h => h5 h.2)
    go_enter Tryz.func26, Tryz.ntmps26
    go_wp2
    go_ret
    exact ⟨ret_boolW hno.out.symm, bel_alloc _ _⟩
  have hid : Hid ((if decide (x.wh = 4) || decide (x.wh = 5) then inR 0 9999 x.id else decide (x.id = 0)) = false → aceB x = false) := aceB_id h1 h5
  have hma : Hid ((if decide (x.wh = 4) || decide (x.wh = 5) then inR 0 9999 x.id else decide (x.id = 0)) = true → flB x.fl = true → aceB x = inR 1 255 x.ma) := aceB_ma h1 h5
  generalize (if decide (x.wh = 4) || decide (x.wh = 5) then inR 0 9999 x.id else decide (x.id = 0)) = b at hn hid hma
  go_enter Tryz.func26, Tryz.ntmps26
  go_wp2_with fail
  refine (hn.out _).mono ?_
  rintro e w1 ⟨rfl, hb⟩
  obtain ⟨c0, c1, c2, c3, c4⟩ := hF.below (by simp) hb
  simp only [Nat.zero_add] at c1 c2 c3 c4
  have hB : Hid (Below w.heap.size w w1) := Below.on (bel_alloc _ _) hb
  clear hF hb hn
  cases b
  · have hno : Hid (aceB x = false) := hid.out rfl
    clear hid hma
    go_wp2
    go_ret
    exact ⟨ret_boolW hno.out.symm, hB.out⟩
  · cases hf : flB x.fl
    · have hno : Hid (aceB x = false) := aceB_fl hf
      clear hid hma
      go_wp2_with (go_at_call 57; refine (flagsRight_any _ _).mono ?_; rintro e w1 ⟨rfl, rfl⟩)
      go_ret
      exact ⟨ret_boolW hno.out.symm, hB.out⟩
    · have hyes : Hid (aceB x = inR 1 255 x.ma) := hma.out rfl hf
      clear hid hma
      by_cases h6 : 1 ≤ x.ma
      · go_wp2_with (go_at_call 57; refine (flagsRight_any _ _).mono ?_; rintro e w1 ⟨rfl, rfl⟩)
        go_ret
        exact ⟨ret_boolW (by rw [hyes.out]; simp [inR, h6]), hB.out⟩
      · go_wp2_with (go_at_call 57; refine (flagsRight_any _ _).mono ?_; rintro e w1 ⟨rfl, rfl⟩)
        go_ret
        exact ⟨ret_boolW (by rw [hyes.out, inR_no (by omega)]), hB.out⟩
set_option maxHeartbeats 4000000 in
/-- spec.AceRight. -/
theorem sAceRight_any (x : Ac) (w : World) :
    Calls Tryz.prog 45 #[.agg #[.bool x.al, .int .i64 x.wh, .int .i64 x.id, .int .i64 x.fl, .int .i64 x.ma]] w fun e w' => e = .returned (.bool (aceB x)) ∧ Below w.heap.size w w' := by
  cases h1 : inR 1 5 x.wh
  · have hno : Hid (aceB x = false) := (by show _ = _; simp [aceB, h1])
    go_enter Tryz.func45, Tryz.ntmps45
    go_wp2_with (first | (go_at_call 73; refine (sIs_any _ _ _ _).mono ?_; rintro e w' ⟨rfl, rfl⟩) | (go_at_call 74; refine (sId_any _ _).mono ?_; rintro e w' ⟨rfl, rfl⟩))
    go_ret
    exact ⟨ret_boolW hno.out.symm, bel_alloc _ _⟩
  cases h2 : inR 0 9999 x.id
  · have hno : Hid (aceB x = false) := (by show _ = _; simp [aceB, h2])
    go_enter Tryz.func45, Tryz.ntmps45
    go_wp2_with (first | (go_at_call 73; refine (sIs_any _ _ _ _).mono ?_; rintro e w' ⟨rfl, rfl⟩) | (go_at_call 74; refine (sId_any _ _).mono ?_; rintro e w' ⟨rfl, rfl⟩))
    go_ret
    exact ⟨ret_boolW hno.out.symm, bel_alloc _ _⟩
  by_cases h3 : x.wh < 4 ∧ x.id ≠ 0
  · have hno : Hid (aceB x = false) := (by show _ = _; simp [aceB, h3.1, h3.2])
    have h4 := h3.1
    have h5 : (x.id != 0) = true := by simpa using h3.2
    go_enter Tryz.func45, Tryz.ntmps45
    go_wp2_with (first | (go_at_call 73; refine (sIs_any _ _ _ _).mono ?_; rintro e w' ⟨rfl, rfl⟩) | (go_at_call 74; refine (sId_any _ _).mono ?_; rintro e w' ⟨rfl, rfl⟩))
    go_ret
    exact ⟨ret_boolW hno.out.symm, bel_alloc _ _⟩
  have h6 : (!decide (x.wh < 4) || decide (x.id = 0)) = true := by
    by_cases h4 : x.wh < 4
    · have : x.id = 0 := Decidable.byContradiction fun h => h3 ⟨h4, h⟩
      simp [this]
    · simp [h4]
  have hyes : Hid (aceB x = (flB x.fl && inR 1 255 x.ma)) := (by show _ = _; simp only [aceB, h1, h2, h6, Bool.true_and])
  go_enter Tryz.func45, Tryz.ntmps45
  go_wp2_with (first | (go_at_call 73; refine (sIs_any _ _ _ _).mono ?_; rintro e w' ⟨rfl, rfl⟩) | (go_at_call 74; refine (sId_any _ _).mono ?_; rintro e w' ⟨rfl, rfl⟩))
  all_goals (
    go_ret
    refine ⟨ret_boolW ?_, bel_alloc _ _⟩
    rw [hyes.out]
    clear hyes
    first
      | (simp_all [flB]; done)
      | (have h9 : ¬ (x.fl < 4 ∨ ¬ x.fl % 4 = 0) := by assumption
         have h8 : flB x.fl = false := by simp only [flB, decide_eq_false (show ¬ x.fl < 4 by omega), decide_eq_true (show x.fl % 4 = 0 by omega), Bool.not_true, Bool.or_false, Bool.and_false]
         rw [h8]; rfl)
      | (show ((decide (x.fl < 4) || !decide (x.fl % 4 = 0)) && inR 1 255 x.ma) = (flB x.fl && inR 1 255 x.ma)
         have h9 : inR 0 15 x.fl = true := by assumption
         simp only [flB, h9, Bool.true_and]))
theorem aces_end {l : List Ac} {k : Nat} (h : k = l.length ∨ 32 < l.length) (hk : allA l k = true) : decide ((l.length : Int) ≤ 32) = acesB l := by
  rcases h with rfl | h
  · by_cases e : l.length ≤ 32
    · have : (l.length : Int) ≤ 32 := by omega
      simp [acesB, hk, e, this]
    · have : ¬ (l.length : Int) ≤ 32 := by omega
      simp [acesB, e, this]
  · have : ¬ (l.length : Int) ≤ 32 := by omega
    rw [aces_long h]
    simp [this]
set_option maxHeartbeats 1000000 in
theorem iNfsRight_long (a : Option Addr) (len cap : Nat) (h : 32 < len) (w : World) :
    Calls Tryz.prog 35 #[.slice a len cap] w fun e w' => e = .returned (.bool false) ∧ w' = w := by
  have h1 : (32 : Int) < (len : Int) := by omega
  go_enter Tryz.func35, Tryz.ntmps35
  go_wp2
  go_ret
  exact ⟨rfl, rfl⟩
set_option maxHeartbeats 1000000 in
theorem iNfsRight_none (a : Option Addr) (cap : Nat) (w : World) :
    Calls Tryz.prog 35 #[.slice a 0 cap] w fun e w' => e = .returned (.bool true) ∧ w' = w := by
  go_enter Tryz.func35, Tryz.ntmps35
  go_wp2
  go_rounds 1
  go_ret
  exact ⟨rfl, rfl⟩
set_option maxHeartbeats 4000000 in
theorem iNfsRight_some (b off cap : Nat) (l : List Ac) (hl : l.length ≤ 32) (w : World) (hb : b < w.heap.size) (hc : ∀ i, i < l.length → Five w b (off + i * 5) (acAt l i)) :
    Calls Tryz.prog 35 #[.slice (some ⟨b, off, none⟩) l.length cap] w fun e w' => e = .returned (.bool (acesB l)) ∧ Below w.heap.size w w' := by
  have HC : Hid (∀ i, i < l.length → Five w b (off + i * 5) (acAt l i)) := hc
  have HN : Hid (∀ k, k < l.length → aceB (acAt l k) = false → acesB l = false) := (fun k => aces_no)
  have HY : Hid (allA l l.length = true → acesB l = true) := aces_yes hl
  clear hc
  generalize hlen : l.length = len at hl HC HN HY ⊢
  clear hlen
  have hl' : (len : Int) ≤ 32 := by omega
  go_enter Tryz.func35, Tryz.ntmps35
  go_wp2
  go_loopw [10] (fun i wr => ∃ k : Nat, k ≤ len ∧ i = .int .i64 k ∧ Hid (allA l k = true) ∧ Hid (Below w.heap.size w wr)) (fun i _ => len - (intOf i).toNat)
  case atStart => exact ⟨0, Nat.zero_le _, rfl, rfl, Below.refl _ _⟩
  case round =>
    obtain ⟨k, hk, rfl, hto, hB⟩ := hrel
    by_cases hlt : k < len
    · have hlt' : (k : Int) < (len : Int) := by omega
      obtain ⟨g0, g1, g2, g3, g4⟩ := (HC.out k hlt).keep (fun j => hB.out.cell (p := ⟨b, j, none⟩) hb)
      have hR : Hid (∀ w, Calls Tryz.prog 26 #[.agg #[.bool (acAt l k).al, .int .i64 (acAt l k).wh, .int .i64 (acAt l k).id, .int .i64 (acAt l k).fl, .int .i64 (acAt l k).ma]] w fun e w' => e = .returned (.bool (aceB (acAt l k))) ∧ Below w.heap.size w w') := iAceRight_any (acAt l k)
      have hno := fun h => HN.out k hlt h
      have HNO : Hid (aceB (acAt l k) = false → acesB l = false) := hno
      have HYE : Hid (aceB (acAt l k) = true → allA l (k + 1) = true) := allA_next hto.out
      clear hno
      generalize aceB (acAt l k) = ok at hR HNO HYE
      generalize acAt l k = x at g0 g1 g2 g3 g4 hR
      have hBA : Hid (Below w.heap.size w (wr.alloc (.cells #[.bool x.al, .int .i64 x.wh, .int .i64 x.id, .int .i64 x.fl, .int .i64 x.ma] 24))) := Below.onA hB.out
      clear HC
      go_wp2_with fail
      refine (hR.out _).mono ?_
      rintro e w1 ⟨rfl, hb1⟩
      have hB1 : Hid (Below w.heap.size w w1) := Below.on hBA.out hb1
      clear g0 g1 g2 g3 g4 hR hBA hb1
      cases ok
      · have hno : Hid (acesB l = false) := HNO.out rfl
        clear HNO HYE
        go_wp2
        go_ret
        exact ⟨ret_boolW hno.out.symm, hB1.out⟩
      · have hye : Hid (allA l (k + 1) = true) := HYE.out rfl
        clear HNO HYE
        go_wp2
        go_roundw
        case rel => exact ⟨k + 1, by omega, by go_num, hye, hB1⟩
        case measure => simp [intOf]; omega
    · have : k = len := by omega
      subst this
      have hyes : Hid (acesB l = true) := HY.out hto.out
      go_wp2
      go_ret
      exact ⟨ret_boolW hyes.out.symm, hB.out⟩
/-- impl.NfsRight. -/
theorem iNfsRight_any (a : Option Addr) (len cap : Nat) (l : List Ac) (w : World) (hi : Acs a len l w) :
    Calls Tryz.prog 35 #[.slice a len cap] w fun e w' => e = .returned (.bool (acesB l)) ∧ Below w.heap.size w w' := by
  obtain ⟨hln, hp⟩ := hi
  subst hln
  by_cases h8 : 32 < l.length
  · rw [aces_long h8]
    refine (iNfsRight_long a l.length cap h8 w).mono ?_
    rintro e w' ⟨rfl, rfl⟩
    exact ⟨rfl, Below.refl _ _⟩
  · by_cases h0 : l.length = 0
    · have e : acesB l = true := aces_yes (by omega) (by rw [h0]; rfl)
      rw [e, h0]
      refine (iNfsRight_none a cap w).mono ?_
      rintro e w' ⟨rfl, rfl⟩
      exact ⟨rfl, Below.refl _ _⟩
    · obtain ⟨b, off, rfl, hlt, hc⟩ := hp (by omega)
      exact iNfsRight_some b off cap l (by omega) w hlt hc
set_option maxHeartbeats 1000000 in
theorem sNfsRight_none (a : Option Addr) (cap : Nat) (w : World) :
    Calls Tryz.prog 48 #[.slice a 0 cap] w fun e w' => e = .returned (.bool true) ∧ w' = w := by
  go_enter Tryz.func48, Tryz.ntmps48
  go_wp2
  go_rounds 1
  go_ret
  exact ⟨rfl, rfl⟩
set_option maxHeartbeats 4000000 in
theorem sNfsRight_some (b off cap : Nat) (l : List Ac) (hl : l.length ≤ 1048576) (w : World) (hb : b < w.heap.size) (hc : ∀ i, i < l.length → Five w b (off + i * 5) (acAt l i)) :
    Calls Tryz.prog 48 #[.slice (some ⟨b, off, none⟩) l.length cap] w fun e w' => e = .returned (.bool (acesB l)) ∧ Below w.heap.size w w' := by
  have HC : Hid (∀ i, i < l.length → Five w b (off + i * 5) (acAt l i)) := hc
  have HN : Hid (∀ k, k < l.length → aceB (acAt l k) = false → acesB l = false) := (fun k => aces_no)
  have HE : Hid (∀ k, (k = l.length ∨ 32 < l.length) → allA l k = true → decide ((l.length : Int) ≤ 32) = acesB l) := (fun k => aces_end)
  clear hc
  generalize hlen : l.length = len at hl HC HN HE ⊢
  clear hlen
  go_enter Tryz.func48, Tryz.ntmps48
  go_wp2
  go_loopw [3] (fun i wr => ∃ k : Nat, k ≤ len ∧ k ≤ 33 ∧ i = .int .i64 k ∧ Hid (allA l k = true) ∧ Hid (Below w.heap.size w wr)) (fun i _ => len - (intOf i).toNat)
  case atStart => exact ⟨0, Nat.zero_le _, by omega, rfl, rfl, Below.refl _ _⟩
  case round =>
    obtain ⟨k, hk, hk3, rfl, hto, hB⟩ := hrel
    by_cases hlt : k < len
    · have hlt' : (k : Int) < (len : Int) := by omega
      by_cases h33 : k ≤ 32
      · have h33' : (k : Int) ≤ 32 := by omega
        obtain ⟨g0, g1, g2, g3, g4⟩ := (HC.out k hlt).keep (fun j => hB.out.cell (p := ⟨b, j, none⟩) hb)
        have hR : Hid (∀ w, Calls Tryz.prog 45 #[.agg #[.bool (acAt l k).al, .int .i64 (acAt l k).wh, .int .i64 (acAt l k).id, .int .i64 (acAt l k).fl, .int .i64 (acAt l k).ma]] w fun e w' => e = .returned (.bool (aceB (acAt l k))) ∧ Below w.heap.size w w') := sAceRight_any (acAt l k)
        have hno := fun h => HN.out k hlt h
        have HNO : Hid (aceB (acAt l k) = false → acesB l = false) := hno
        have HYE : Hid (aceB (acAt l k) = true → allA l (k + 1) = true) := allA_next hto.out
        clear hno
        generalize aceB (acAt l k) = ok at hR HNO HYE
        generalize acAt l k = x at g0 g1 g2 g3 g4 hR
        clear HC
        go_wp2_with fail
        refine (hR.out _).mono ?_
        rintro e w1 ⟨rfl, hb1⟩
        have hB1 : Hid (Below w.heap.size w w1) := Below.on hB.out hb1
        clear g0 g1 g2 g3 g4 hR hb1
        cases ok
        · have hno : Hid (acesB l = false) := HNO.out rfl
          clear HNO HYE
          go_wp2
          go_ret
          exact ⟨ret_boolW hno.out.symm, hB1.out⟩
        · have hye : Hid (allA l (k + 1) = true) := HYE.out rfl
          clear HNO HYE
          go_wp2
          go_roundw
          case rel => exact ⟨k + 1, by omega, by omega, by go_num, hye, hB1⟩
          case measure => simp [intOf]; omega
      · have h33' : ¬ (k : Int) ≤ 32 := by omega
        have hyes : Hid (decide ((len : Int) ≤ 32) = acesB l) := HE.out k (by omega) hto.out
        go_wp2
        go_ret
        exact ⟨ret_boolW hyes.out, hB.out⟩
    · have : k = len := by omega
      subst this
      have hyes : Hid (decide ((k : Int) ≤ 32) = acesB l) := HE.out k (by omega) hto.out
      go_wp2
      go_ret
      exact ⟨ret_boolW hyes.out, hB.out⟩
/-- spec.NfsRight. -/
theorem sNfsRight_any (a : Option Addr) (len cap : Nat) (l : List Ac) (hl : len ≤ 1048576) (w : World) (hi : Acs a len l w) :
    Calls Tryz.prog 48 #[.slice a len cap] w fun e w' => e = .returned (.bool (acesB l)) ∧ Below w.heap.size w w' := by
  obtain ⟨hln, hp⟩ := hi
  subst hln
  by_cases h0 : l.length = 0
  · have e : acesB l = true := aces_yes (by omega) (by rw [h0]; rfl)
    rw [e, h0]
    refine (sNfsRight_none a cap w).mono ?_
    rintro e w' ⟨rfl, rfl⟩
    exact ⟨rfl, Below.refl _ _⟩
  · obtain ⟨b, off, rfl, hlt, hc⟩ := hp (by omega)
    exact sNfsRight_some b off cap l hl w hlt hc
end Go.Proofs.YtedahdncincgjaaGreatDoor
/- NfsChmod of the specification. -/
namespace Go.Proofs.YtedahdncincgjaaGreatDoor
open Go.RowKit Go.PlainAid Go.Deep
set_option linter.unusedVariables false
def hnd (x : Ac) : Ac := { x with fl := x.fl % 8 + 8 }
def moreA (l : List Ac) (al : Bool) (wh id ma : Int) : List Ac := if ma = 0 then l else l ++ [⟨al, wh, id, 0, ma⟩]
theorem more_len (l : List Ac) (al : Bool) (wh id ma : Int) : (moreA l al wh id ma).length ≤ l.length + 1 := by
  unfold moreA
  split
  · omega
  · simp
set_option maxRecDepth 100000 in
set_option maxHeartbeats 2000000 in
/-- spec.l04More. -/
theorem sMore_any (w0 w : World) (a : Option Addr) (c : Nat) (acc : List Ac) (ho : w.ownsRow w0.heap.size 24 5 (.slice a acc.length c) acc.length (pcA acc)) (hB : Below w0.heap.size w0 w) (hl : acc.length ≤ 1000000) (al : Bool) (wh id ma : Int) :
    Calls Tryz.prog 108 #[.slice a acc.length c, .bool al, .int .i64 wh, .int .i64 id, .int .i64 ma] w fun e w' => ∃ a' c', e = .returned (.slice a' (moreA acc al wh id ma).length c') ∧ w'.ownsRow w0.heap.size 24 5 (.slice a' (moreA acc al wh id ma).length c') (moreA acc al wh id ma).length (pcA (moreA acc al wh id ma)) ∧ Below w0.heap.size w0 w' := by
  by_cases h0 : ma = 0
  · have hm : moreA acc al wh id ma = acc := by rw [moreA, if_pos h0]
    rw [hm]
    have e0 : (ma == 0) = true := by rw [h0]; rfl
    have HO : Hid _ := ho
    have HB : Hid _ := hB
    clear hm h0 ho hB
    generalize acc.length = n at HO hl ⊢
    go_enter Tryz.func108, Tryz.ntmps108
    go_wp2
    go_ret
    exact ⟨a, c, rfl, HO.out, HB.out⟩
  · have hm : moreA acc al wh id ma = acc ++ [⟨al, wh, id, 0, ma⟩] := by rw [moreA, if_neg h0]
    rw [hm]
    have e0 : (ma == 0) = false := by simpa using h0
    obtain ⟨v2, w2, hr, hO2, hB2⟩ := append_one (P := Tryz.prog) w0 w 31 31 24 Tryz.underlying31 infoAce _ acc ho hB ⟨al, wh, id, 0, ma⟩ (by omega)
    obtain ⟨a', c', hv, _⟩ := ownA_of_row hO2
    subst hv
    have HO : Hid _ := hO2
    have HB : Hid _ := hB2
    generalize hGL : (acc ++ [(⟨al, wh, id, 0, ma⟩ : Ac)]).length = GL at hr HO ⊢
    generalize acc.length = n at hr hl ⊢
    clear hm h0 ho hB hO2 hB2 hGL
    go_enter Tryz.func108, Tryz.ntmps108
    go_wp2_with (at_builtin; refine wpList_append_runA _ rfl (.tmp 14) (.tmp 20) 31 31 rfl _ _ _ _ rfl rfl hr ?_)
    go_ret
    exact ⟨a', c', rfl, HO.out, HB.out⟩
/-- A row that is owned since w0. -/
def RowO (w0 w : World) (a : Option Addr) (c : Nat) (l : List Ac) : Prop := w.ownsRow w0.heap.size 24 5 (.slice a l.length c) l.length (pcA l) ∧ Below w0.heap.size w0 w
theorem RowO.below {w0 w w' : World} {a : Option Addr} {c : Nat} {l : List Ac} (h : RowO w0 w a c l) (hb : Below w.heap.size w w') : RowO w0 w' a c l := ⟨rowA_below h.1 hb, Below.on h.2 hb⟩
theorem RowO.drew {w0 w : World} {a : Option Addr} {c : Nat} {l : List Ac} (h : RowO w0 w a c l) : RowO w0 w.drew a c l := ⟨h.1, below_drewA h.2⟩
theorem more_row {w0 w : World} {a : Option Addr} {c : Nat} {acc : List Ac} (h : RowO w0 w a c acc) (hl : acc.length ≤ 1000000) (al : Bool) (wh id ma : Int) :
    Calls Tryz.prog 108 #[.slice a acc.length c, .bool al, .int .i64 wh, .int .i64 id, .int .i64 ma] w fun e w' => ∃ a' c', e = .returned (.slice a' (moreA acc al wh id ma).length c') ∧ RowO w0 w' a' c' (moreA acc al wh id ma) :=
  (sMore_any w0 w a c acc h.1 h.2 hl al wh id ma).mono (fun e w' ⟨a', c', h1, h2, h3⟩ => ⟨a', c', h1, h2, h3⟩)
theorem append_row {w0 w : World} {a : Option Addr} {c : Nat} {acc : List Ac} (h : RowO w0 w a c acc) (hl : acc.length ≤ 1000000) (x : Ac) :
    ∃ a' c' w', (Builtin.append_ #[31, 31] 31 #[.slice a acc.length c, .slice (some ⟨w.heap.size, 0, none⟩) 1 1]).run Tryz.prog (w.alloc (.cells #[.bool x.al, .int .i64 x.wh, .int .i64 x.id, .int .i64 x.fl, .int .i64 x.ma] 24)) = .ok (.slice a' (acc ++ [x]).length c') w' ∧ RowO w0 w' a' c' (acc ++ [x]) := by
  obtain ⟨v2, w2, hr, hO2, hB2⟩ := append_one (P := Tryz.prog) w0 w 31 31 24 Tryz.underlying31 infoAce _ acc h.1 h.2 x (by omega)
  obtain ⟨a', c', hv, _⟩ := ownA_of_row hO2
  subst hv
  exact ⟨a', c', w2, hr, hO2, hB2⟩
theorem RowO.set {w0 w : World} {a : Option Addr} {c : Nat} {l : List Ac} {b o : Nat} {v : Value} (h : RowO w0 w a c l) (hb : w0.heap.size ≤ b) (hne : ∀ A, a = some A → A.block ≠ b) : RowO w0 (w.setCell ⟨b, o, none⟩ v) a c l := by
  refine ⟨?_, h.2.setCell hb _⟩
  obtain ⟨h0, ⟨e, hn⟩ | ⟨g, cap, cur, e, hB, hg, hc, hm, hs, ht⟩⟩ := h.1
  · exact ⟨h0, .inl ⟨e, hn⟩⟩
  · have hg2 : a = some ⟨g, 0, none⟩ := by cases e; rfl
    have := hne _ hg2
    exact ⟨h0, .inr ⟨g, cap, cur, e, hB, (Below.heap_setCell w ⟨b, o, none⟩ v g (by show g ≠ b; exact this)).trans hg, hc, hm, hs, ht⟩⟩
end Go.Proofs.YtedahdncincgjaaGreatDoor
