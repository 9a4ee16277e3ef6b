/- Laid together: AceRight, AceTx. -/
import Derived.Test.YtgooanaacebncaaDoorRB12
import Derived.Test.YtgooanaacebncaaDoorRB11
/- AceRight, the program's and the specification's. -/
namespace Go.Proofs.YtgooanaacebncaaDoor
open Go.RowKit Go.PlainAid
set_option linter.unusedVariables false
theorem and3 {f : Int} (h0 : 0 ≤ f) (h1 : f ≤ 15) : bits .and .i64 f 3 = f % 4 := by
  rcases (by omega : f = 0 ∨ f = 1 ∨ f = 2 ∨ f = 3 ∨ f = 4 ∨ f = 5 ∨ f = 6 ∨ f = 7 ∨ f = 8 ∨ f = 9 ∨ f = 10 ∨ f = 11 ∨ f = 12 ∨ f = 13 ∨ f = 14 ∨ f = 15) with rfl | rfl | rfl | rfl | rfl | rfl | rfl | rfl | rfl | rfl | rfl | rfl | rfl | rfl | rfl | rfl <;> decide
set_option maxHeartbeats 1000000 in
theorem flagsRight_any (f : Int) (w : World) :
    Calls Tryd.prog 124 #[.int .i64 f] w fun e w' => e = .returned (.bool (flB f)) ∧ w' = w := by
  cases h : inR 0 15 f
  · have hb : Hid (flB f = false) := (by show _ = _; simp [flB, h])
    have h2 := inR_off h
    rcases h2 with h2 | h2
    · clear h
      go_enter Tryd.func124, Tryd.ntmps124
      go_wp2
      go_ret
      exact ⟨ret_boolW hb.out.symm, rfl⟩
    · have h3 : ¬ f < 0 := by omega
      clear h
      go_enter Tryd.func124, Tryd.ntmps124
      go_wp2
      go_ret
      exact ⟨ret_boolW hb.out.symm, rfl⟩
  · obtain ⟨h0, h1⟩ := inR_iff.1 h
    have h3 : ¬ f < 0 := by omega
    have h4 : ¬ 15 < f := by omega
    have e := and3 h0 h1
    by_cases hz : f = 0
    · subst hz
      go_enter Tryd.func124, Tryd.ntmps124
      go_wp2
      go_ret
      exact ⟨rfl, rfl⟩
    · have hb : Hid ((!decide (f % 4 = 0)) = flB f) := (by show _ = _; by_cases h5 : f % 4 = 0 <;> by_cases h6 : f < 4 <;> simp [flB, h, h5, h6] <;> omega)
      clear h
      go_enter Tryd.func124, Tryd.ntmps124
      go_wp2
      go_ret
      refine ⟨ret_boolW ?_, rfl⟩
      rw [← hb.out]
      show (decide (f = 0) || !decide (f % 4 = 0)) = _
      rw [decide_eq_false hz]
      rfl
set_option maxHeartbeats 1000000 in
theorem names_any (x : Ac) (w : World) :
    Calls Tryd.prog 139 #[.agg #[.bool x.al, .int .i64 x.wh, .int .i64 x.id, .int .i64 x.fl, .int .i64 x.ma]] w fun e w' => e = .returned (.bool (decide (x.wh = 4) || decide (x.wh = 5))) ∧ Below w.heap.size w w' := by
  by_cases h4 : x.wh = 4
  · go_enter Tryd.func139, Tryd.ntmps139
    go_wp2
    go_ret
    exact ⟨ret_boolW (by simp [h4]), bel_alloc _ _⟩
  · have h4' : (x.wh == 4) = false := by simpa using h4
    go_enter Tryd.func139, Tryd.ntmps139
    go_wp2
    go_ret
    refine ⟨ret_boolW ?_, bel_alloc _ _⟩
    rw [decide_eq_false h4]
    rfl
set_option maxHeartbeats 1000000 in
theorem aceIdRight_any (x : Ac) (w : World) :
    Calls Tryd.prog 123 #[.agg #[.bool x.al, .int .i64 x.wh, .int .i64 x.id, .int .i64 x.fl, .int .i64 x.ma]] w fun e w' => e = .returned (.bool (if decide (x.wh = 4) || decide (x.wh = 5) then inR 0 9999 x.id else decide (x.id = 0))) ∧ Below w.heap.size w w' := by
  have hn : Hid (∀ w, Calls Tryd.prog 139 #[.agg #[.bool x.al, .int .i64 x.wh, .int .i64 x.id, .int .i64 x.fl, .int .i64 x.ma]] w fun e w' => e = .returned (.bool (decide (x.wh = 4) || decide (x.wh = 5))) ∧ Below w.heap.size w w') := names_any x
  generalize (decide (x.wh = 4) || decide (x.wh = 5)) = b at hn ⊢
  go_enter Tryd.func123, Tryd.ntmps123
  have hF := five_new w x 50
  go_wp2_with fail
  refine (hn.out _).mono ?_
  rintro e w1 ⟨rfl, hb⟩
  obtain ⟨c0, c1, c2, c3, c4⟩ := hF.below (by simp) hb
  simp only [Nat.zero_add] at c1 c2 c3 c4
  have hB : Hid (Below w.heap.size w w1) := Below.on (bel_alloc _ _) hb
  clear hF hb hn
  cases b
  · go_wp2
    go_ret
    exact ⟨ret_boolW rfl, hB.out⟩
  · go_wp2_with (go_at_call 47; refine (isId_any _ _).mono ?_; rintro e w1 ⟨rfl, rfl⟩)
    go_ret
    exact ⟨rfl, hB.out⟩
theorem aceB_wh {x : Ac} (h : ¬ (1 ≤ x.wh ∧ x.wh ≤ 5)) : aceB x = false := by simp [aceB, inR_no h]
theorem aceB_id {x : Ac} (h1 : 1 ≤ x.wh) (h5 : x.wh ≤ 5) (h : (if decide (x.wh = 4) || decide (x.wh = 5) then inR 0 9999 x.id else decide (x.id = 0)) = false) : aceB x = false := by
  rcases (by omega : x.wh = 4 ∨ x.wh = 5 ∨ x.wh < 4) with e | e | e
  · rw [e] at h
    have : inR 0 9999 x.id = false := h
    simp [aceB, this]
  · rw [e] at h
    have : inR 0 9999 x.id = false := h
    simp [aceB, this]
  · have n4 : ¬ x.wh = 4 := by omega
    have n5 : ¬ x.wh = 5 := by omega
    rw [decide_eq_false n4, decide_eq_false n5] at h
    have h : decide (x.id = 0) = false := h
    simp [aceB, e, h]
theorem aceB_fl {x : Ac} (h : flB x.fl = false) : aceB x = false := by simp [aceB, h]
theorem aceB_ma {x : Ac} (h1 : 1 ≤ x.wh) (h5 : x.wh ≤ 5) (h : (if decide (x.wh = 4) || decide (x.wh = 5) then inR 0 9999 x.id else decide (x.id = 0)) = true) (hf : flB x.fl = true) : aceB x = inR 1 255 x.ma := by
  have hw := inR_yes h1 h5
  rcases (by omega : x.wh = 4 ∨ x.wh = 5 ∨ x.wh < 4) with e | e | e
  · rw [e] at h
    have : inR 0 9999 x.id = true := h
    simp only [aceB, this, hw, hf, decide_eq_false (by omega : ¬ x.wh < 4), Bool.not_false, Bool.true_or, Bool.true_and]
  · rw [e] at h
    have : inR 0 9999 x.id = true := h
    simp only [aceB, this, hw, hf, decide_eq_false (by omega : ¬ x.wh < 4), Bool.not_false, Bool.true_or, Bool.true_and]
  · have n4 : ¬ x.wh = 4 := by omega
    have n5 : ¬ x.wh = 5 := by omega
    rw [decide_eq_false n4, decide_eq_false n5] at h
    have h : decide (x.id = 0) = true := h
    have h2 : x.id = 0 := by simpa using h
    have h3 : inR 0 9999 x.id = true := by rw [h2]; rfl
    simp only [aceB, h3, hw, hf, h, Bool.or_true, Bool.true_and]
set_option maxHeartbeats 4000000 in
/-- impl.AceRight. -/
theorem iAceRight_any (x : Ac) (w : World) :
    Calls Tryd.prog 102 #[.agg #[.bool x.al, .int .i64 x.wh, .int .i64 x.id, .int .i64 x.fl, .int .i64 x.ma]] w fun e w' => e = .returned (.bool (aceB x)) ∧ Below w.heap.size w w' := by
  have hn : Hid (∀ w, Calls Tryd.prog 123 #[.agg #[.bool x.al, .int .i64 x.wh, .int .i64 x.id, .int .i64 x.fl, .int .i64 x.ma]] w fun e w' => e = .returned (.bool (if decide (x.wh = 4) || decide (x.wh = 5) then inR 0 9999 x.id else decide (x.id = 0))) ∧ Below w.heap.size w w') := aceIdRight_any x
  have hF := five_new w x 50
  by_cases h1 : 1 ≤ x.wh
  case neg =>
    have hno : Hid (aceB x = false) := aceB_wh (fun h => h1 h.1)
    go_enter Tryd.func102, Tryd.ntmps102
    go_wp2
    go_ret
    exact ⟨ret_boolW hno.out.symm, bel_alloc _ _⟩
  by_cases h5 : x.wh ≤ 5
  case neg =>
    have hno : Hid (aceB x = false) := aceB_wh (fun h => h5 h.2)
    go_enter Tryd.func102, Tryd.ntmps102
    go_wp2
    go_ret
    exact ⟨ret_boolW hno.out.symm, bel_alloc _ _⟩
  have hid : Hid ((if decide (x.wh = 4) || decide (x.wh = 5) then inR 0 9999 x.id else decide (x.id = 0)) = false → aceB x = false) := aceB_id h1 h5
  have hma : Hid ((if decide (x.wh = 4) || decide (x.wh = 5) then inR 0 9999 x.id else decide (x.id = 0)) = true → flB x.fl = true → aceB x = inR 1 255 x.ma) := aceB_ma h1 h5
  generalize (if decide (x.wh = 4) || decide (x.wh = 5) then inR 0 9999 x.id else decide (x.id = 0)) = b at hn hid hma
  go_enter Tryd.func102, Tryd.ntmps102
  go_wp2_with fail
  refine (hn.out _).mono ?_
  rintro e w1 ⟨rfl, hb⟩
  obtain ⟨c0, c1, c2, c3, c4⟩ := hF.below (by simp) hb
  simp only [Nat.zero_add] at c1 c2 c3 c4
  have hB : Hid (Below w.heap.size w w1) := Below.on (bel_alloc _ _) hb
  clear hF hb hn
  cases b
  · have hno : Hid (aceB x = false) := hid.out rfl
    clear hid hma
    go_wp2
    go_ret
    exact ⟨ret_boolW hno.out.symm, hB.out⟩
  · cases hf : flB x.fl
    · have hno : Hid (aceB x = false) := aceB_fl hf
      clear hid hma
      go_wp2_with (go_at_call 124; refine (flagsRight_any _ _).mono ?_; rintro e w1 ⟨rfl, rfl⟩)
      go_ret
      exact ⟨ret_boolW hno.out.symm, hB.out⟩
    · have hyes : Hid (aceB x = inR 1 255 x.ma) := hma.out rfl hf
      clear hid hma
      by_cases h6 : 1 ≤ x.ma
      · go_wp2_with (go_at_call 124; refine (flagsRight_any _ _).mono ?_; rintro e w1 ⟨rfl, rfl⟩)
        go_ret
        exact ⟨ret_boolW (by rw [hyes.out]; simp [inR, h6]), hB.out⟩
      · go_wp2_with (go_at_call 124; refine (flagsRight_any _ _).mono ?_; rintro e w1 ⟨rfl, rfl⟩)
        go_ret
        exact ⟨ret_boolW (by rw [hyes.out, inR_no (by omega)]), hB.out⟩
set_option maxHeartbeats 4000000 in
/-- spec.AceRight. -/
theorem sAceRight_any (x : Ac) (w : World) :
    Calls Tryd.prog 98 #[.agg #[.bool x.al, .int .i64 x.wh, .int .i64 x.id, .int .i64 x.fl, .int .i64 x.ma]] w fun e w' => e = .returned (.bool (aceB x)) ∧ Below w.heap.size w w' := by
  cases h1 : inR 1 5 x.wh
  · have hno : Hid (aceB x = false) := (by show _ = _; simp [aceB, h1])
    go_enter Tryd.func98, Tryd.ntmps98
    go_wp2_with (first | (go_at_call 83; refine (sIs_any _ _ _ _).mono ?_; rintro e w' ⟨rfl, rfl⟩) | (go_at_call 49; refine (sId_any _ _).mono ?_; rintro e w' ⟨rfl, rfl⟩))
    go_ret
    exact ⟨ret_boolW hno.out.symm, bel_alloc _ _⟩
  cases h2 : inR 0 9999 x.id
  · have hno : Hid (aceB x = false) := (by show _ = _; simp [aceB, h2])
    go_enter Tryd.func98, Tryd.ntmps98
    go_wp2_with (first | (go_at_call 83; refine (sIs_any _ _ _ _).mono ?_; rintro e w' ⟨rfl, rfl⟩) | (go_at_call 49; refine (sId_any _ _).mono ?_; rintro e w' ⟨rfl, rfl⟩))
    go_ret
    exact ⟨ret_boolW hno.out.symm, bel_alloc _ _⟩
  by_cases h3 : x.wh < 4 ∧ x.id ≠ 0
  · have hno : Hid (aceB x = false) := (by show _ = _; simp [aceB, h3.1, h3.2])
    have h4 := h3.1
    have h5 : (x.id != 0) = true := by simpa using h3.2
    go_enter Tryd.func98, Tryd.ntmps98
    go_wp2_with (first | (go_at_call 83; refine (sIs_any _ _ _ _).mono ?_; rintro e w' ⟨rfl, rfl⟩) | (go_at_call 49; refine (sId_any _ _).mono ?_; rintro e w' ⟨rfl, rfl⟩))
    go_ret
    exact ⟨ret_boolW hno.out.symm, bel_alloc _ _⟩
  have h6 : (!decide (x.wh < 4) || decide (x.id = 0)) = true := by
    by_cases h4 : x.wh < 4
    · have : x.id = 0 := Decidable.byContradiction fun h => h3 ⟨h4, h⟩
      simp [this]
    · simp [h4]
  have hyes : Hid (aceB x = (flB x.fl && inR 1 255 x.ma)) := (by show _ = _; simp only [aceB, h1, h2, h6, Bool.true_and])
  go_enter Tryd.func98, Tryd.ntmps98
  go_wp2_with (first | (go_at_call 83; refine (sIs_any _ _ _ _).mono ?_; rintro e w' ⟨rfl, rfl⟩) | (go_at_call 49; refine (sId_any _ _).mono ?_; rintro e w' ⟨rfl, rfl⟩))
  all_goals (
    go_ret
    refine ⟨ret_boolW ?_, bel_alloc _ _⟩
    rw [hyes.out]
    clear hyes
    first
      | (simp_all [flB]; done)
      | (have h9 : ¬ (x.fl < 4 ∨ ¬ x.fl % 4 = 0) := by assumption
         have h8 : flB x.fl = false := by simp only [flB, decide_eq_false (show ¬ x.fl < 4 by omega), decide_eq_true (show x.fl % 4 = 0 by omega), Bool.not_true, Bool.or_false, Bool.and_false]
         rw [h8]; rfl)
      | (show ((decide (x.fl < 4) || !decide (x.fl % 4 = 0)) && inR 1 255 x.ma) = (flB x.fl && inR 1 255 x.ma)
         have h9 : inR 0 15 x.fl = true := by assumption
         simp only [flB, h9, Bool.true_and]))
end Go.Proofs.YtgooanaacebncaaDoor
/- An ace as text: l05Who, whoText, l05Ace, AceText of both sides. -/
namespace Go.Proofs.YtgooanaacebncaaDoor
open Go.RowKit Go.PlainAid Go.Deep
set_option linter.unusedVariables false
def fdni : ByteArray := ⟨#[102, 100, 110, 105]⟩
def rwxs : ByteArray := ⟨#[114, 119, 120, 97, 100, 99, 67, 111]⟩
/-- Of whom an ace is. -/
def whoT (wh id : Nat) : ByteArray :=
  if wh = 1 then ⟨#[79, 87, 78, 69, 82, 64]⟩ else if wh = 2 then ⟨#[71, 82, 79, 85, 80, 64]⟩ else if wh = 3 then ⟨#[69, 86, 69, 82, 89, 79, 78, 69, 64]⟩ else if wh = 4 then ⟨#[117]⟩ ++ decT id else ⟨#[103]⟩ ++ decT id
theorem whoT_size {wh id : Nat} (h : id ≤ 9999) : (whoT wh id).size ≤ 9 := by
  have h1 := (decT_size h).2
  have e1 : (⟨#[79, 87, 78, 69, 82, 64]⟩ : ByteArray).size = 6 := rfl
  have e2 : (⟨#[71, 82, 79, 85, 80, 64]⟩ : ByteArray).size = 6 := rfl
  have e3 : (⟨#[69, 86, 69, 82, 89, 79, 78, 69, 64]⟩ : ByteArray).size = 9 := rfl
  have e4 : (⟨#[117]⟩ : ByteArray).size = 1 := rfl
  have e5 : (⟨#[103]⟩ : ByteArray).size = 1 := rfl
  unfold whoT
  split
  · omega
  split
  · omega
  split
  · omega
  split
  · rw [ByteArray.size_append]; omega
  · rw [ByteArray.size_append]; omega
/-- The text of an ace. -/
def aceTx (al : Bool) (wh id fl ma : Nat) : ByteArray := (if al then ⟨#[65, 58]⟩ else ⟨#[68, 58]⟩) ++ sgT fl fdni ++ ⟨#[58]⟩ ++ whoT wh id ++ ⟨#[58]⟩ ++ sgT ma rwxs
/-- AceText. -/
def aceT (x : Ac) : ByteArray := if aceB x then aceTx x.al x.wh.toNat x.id.toNat x.fl.toNat x.ma.toNat else ⟨#[]⟩
theorem ret_txt {a b : ByteArray} (h : a = b) : Ending.returned (.string a) = .returned (.string b) := by rw [h]
set_option maxRecDepth 100000 in
set_option maxHeartbeats 2000000 in
/-- spec.l05Who. -/
theorem sWho_any (al : Bool) (wh id : Nat) (fl ma : Int) (h1 : 1 ≤ wh) (h5 : wh ≤ 5) (hid : id ≤ 9999) (w : World) :
    Calls Tryd.prog 122 #[.agg #[.bool al, .int .i64 wh, .int .i64 id, .int .i64 fl, .int .i64 ma]] w fun e w' => e = .returned (.string (whoT wh id)) ∧ Below w.heap.size w w' := by
  have hd : Hid (∀ w, Calls Tryd.prog 46 #[.int .i64 id] w fun e w' => e = .returned (.string (decT id)) ∧ Below w.heap.size w w') := sDec_any id hid
  have sd := decT_size hid
  have hF : Hid (Five (w.alloc (.cells #[.bool al, .int .i64 wh, .int .i64 id, .int .i64 fl, .int .i64 ma] 50)) w.heap.size 0 ⟨al, wh, id, fl, ma⟩) := five_new w ⟨al, wh, id, fl, ma⟩ 50
  have hB : Hid (Below w.heap.size w (w.alloc (.cells #[.bool al, .int .i64 wh, .int .i64 id, .int .i64 fl, .int .i64 ma] 50))) := bel_alloc _ _
  obtain ⟨c0, c1, c2, c3, c4⟩ := hF.out
  simp only [Nat.zero_add] at c0 c1 c2 c3 c4
  rcases (by omega : wh = 1 ∨ wh = 2 ∨ wh = 3 ∨ wh = 4 ∨ wh = 5) with rfl | rfl | rfl | rfl | rfl
  all_goals (
    clear h1 h5 hF
    go_enter Tryd.func122, Tryd.ntmps122
    go_wp2_with (go_at_call 46; refine (hd.out _).mono ?_; rintro e w1 ⟨rfl, hb1⟩)
    go_ret
    first
      | exact ⟨ret_txt rfl, hB.out⟩
      | exact ⟨ret_txt rfl, Below.on hB.out hb1⟩)
end Go.Proofs.YtgooanaacebncaaDoor
