/- l05Ace, AceText of both sides. -/
import Derived.Test.YtlngfaplimpilaaDoorAceTx
namespace Go.Proofs.YtlngfaplimpilaaDoor
open Go.RowKit Go.PlainAid Go.Deep
set_option linter.unusedVariables false
theorem cell_regrownA {w : World} {p : Addr} {v : Value} (h : w.cell? p = some v) (d : Nat) (os : Array Obj) : (Go.Sort.grow (redrawn w d) os).cell? p = some v := cell_regrown h d os
set_option maxRecDepth 100000 in
set_option maxHeartbeats 4000000 in
/-- spec.l05Ace. -/
theorem sAce_in (al : Bool) (wh id fl ma : Nat) (h1 : 1 ≤ wh) (h5 : wh ≤ 5) (hid : id ≤ 9999) (hf : fl ≤ 15) (hm : ma ≤ 255) (w : World) :
    Calls Tryd.prog 62 #[.agg #[.bool al, .int .i64 wh, .int .i64 id, .int .i64 fl, .int .i64 ma]] w fun e w' => e = .returned (.string (aceTx al wh id fl ma)) ∧ Below w.heap.size w w' := by
  have hS1 : Hid (∀ w, Calls Tryd.prog 95 #[.int .i64 fl, .string ⟨#[102, 100, 110, 105]⟩] w fun e w' => e = .returned (.string (sgT fl fdni)) ∧ Below w.heap.size w w') := sSigns_any fl (by omega) fdni (by decide)
  have hS2 : Hid (∀ w, Calls Tryd.prog 95 #[.int .i64 ma, .string ⟨#[114, 119, 120, 97, 100, 99, 67, 111]⟩] w fun e w' => e = .returned (.string (sgT ma rwxs)) ∧ Below w.heap.size w w') := sSigns_any ma (by omega) rwxs (by decide)
  have hWh : Hid (∀ w, Calls Tryd.prog 96 #[.agg #[.bool al, .int .i64 wh, .int .i64 id, .int .i64 fl, .int .i64 ma]] w fun e w' => e = .returned (.string (whoT wh id)) ∧ Below w.heap.size w w') := sWho_any al wh id fl ma h1 h5 hid
  have HT : Hid (aceTx al wh id fl ma = (if al then ⟨#[65, 58]⟩ else ⟨#[68, 58]⟩) ++ sgT fl fdni ++ ⟨#[58]⟩ ++ whoT wh id ++ ⟨#[58]⟩ ++ sgT ma rwxs) := rfl
  have z1 : (sgT fl fdni).size ≤ 4 := sgT_size fl fdni
  have z2 : (sgT ma rwxs).size ≤ 8 := sgT_size ma rwxs
  have z3 : (whoT wh id).size ≤ 9 := whoT_size hid
  have hF : Hid (Five (w.alloc (.cells #[.bool al, .int .i64 wh, .int .i64 id, .int .i64 fl, .int .i64 ma] 41)) w.heap.size 0 ⟨al, wh, id, fl, ma⟩) := five_new w ⟨al, wh, id, fl, ma⟩ 41
  have hW1 : Hid (Below w.heap.size w (w.alloc (.cells #[.bool al, .int .i64 wh, .int .i64 id, .int .i64 fl, .int .i64 ma] 41))) := bel_alloc _ _
  clear h1 h5 hid hf hm
  generalize sgT fl fdni = A1 at hS1 HT z1
  generalize sgT ma rwxs = A2 at hS2 HT z2
  generalize whoT wh id = A3 at hWh HT z3
  generalize aceTx al wh id fl ma = R at HT ⊢
  go_enter Tryd.func62, Tryd.ntmps62
  obtain ⟨c0, c1, c2, c3, c4⟩ := hF.out
  simp only [Nat.zero_add] at c0 c1 c2 c3 c4
  have k0 : (⟨#[58]⟩ : ByteArray).size = 1 := rfl
  have y1 : (⟨#[65, 58]⟩ : ByteArray).size = 2 := rfl
  have y2 : (⟨#[68, 58]⟩ : ByteArray).size = 2 := rfl
  cases al
  · go_wp2_with fail
    clear c0 c1 c2 c3 c4
    generalize w.alloc (.cells #[.bool false, .int .i64 wh, .int .i64 id, .int .i64 fl, .int .i64 ma] 41) = w1 at hF hW1 ⊢
    obtain ⟨c0, c1, c2, c3, c4⟩ := hF.out
    simp only [Nat.zero_add] at c0 c1 c2 c3 c4
    have q0 := fun d os => cell_regrownA c0 d os
    have q1 := fun d os => cell_regrownA c1 d os
    have q2 := fun d os => cell_regrownA c2 d os
    have q3 := fun d os => cell_regrownA c3 d os
    have q4 := fun d os => cell_regrownA c4 d os
    have r1 : ∀ d os, Calls Tryd.prog 95 #[.int .i64 fl, .string ⟨#[102, 100, 110, 105]⟩] (Go.Sort.grow (redrawn w1 d) os) fun e w'' => e = .returned (.string A1) ∧ ∃ p : Regrown, w'' = Go.Sort.grow (redrawn w1 p.d) p.os := fun d os => Calls.regrown_of (hS1.out _)
    have r2 : ∀ d os, Calls Tryd.prog 95 #[.int .i64 ma, .string ⟨#[114, 119, 120, 97, 100, 99, 67, 111]⟩] (Go.Sort.grow (redrawn w1 d) os) fun e w'' => e = .returned (.string A2) ∧ ∃ p : Regrown, w'' = Go.Sort.grow (redrawn w1 p.d) p.os := fun d os => Calls.regrown_of (hS2.out _)
    have r3 : ∀ d os, Calls Tryd.prog 96 #[.agg #[.bool false, .int .i64 wh, .int .i64 id, .int .i64 fl, .int .i64 ma]] (Go.Sort.grow (redrawn w1 d) os) fun e w'' => e = .returned (.string A3) ∧ ∃ p : Regrown, w'' = Go.Sort.grow (redrawn w1 p.d) p.os := fun d os => Calls.regrown_of (hWh.out _)
    refine wp_region_quiet_below (by kernel_rfl) (by kernel_rfl) ?_
    repeat (go_big_quiet_step (fail))
    go_big_quiet_step (exact r1 _ _)
    repeat (go_big_quiet_step (fail))
    go_big_quiet_step (exact r3 _ _)
    repeat (go_big_quiet_step (fail))
    go_big_quiet_step (exact r2 _ _)
    repeat (go_big_quiet_step (fail))
    refine wpQuiet_nil ?_
    intro _ hw'
    obtain ⟨⟨dq, osq⟩, hw''⟩ := hw'
    subst hw''
    have hbq := below_regrown w1 dq osq
    have hW2 : Hid (Below w.heap.size w (Go.Sort.grow (redrawn w1 dq) osq)) := Below.on hW1.out hbq
    generalize Go.Sort.grow (redrawn w1 dq) osq = w2 at hW2 ⊢
    clear q0 q1 q2 q3 q4 r1 r2 r3 hbq c0 c1 c2 c3 c4
    go_wp2
    go_ret
    exact ⟨ret_txt HT.out.symm, hW2.out⟩
  · go_wp2_with fail
    clear c0 c1 c2 c3 c4
    generalize w.alloc (.cells #[.bool true, .int .i64 wh, .int .i64 id, .int .i64 fl, .int .i64 ma] 41) = w1 at hF hW1 ⊢
    obtain ⟨c0, c1, c2, c3, c4⟩ := hF.out
    simp only [Nat.zero_add] at c0 c1 c2 c3 c4
    have q0 := fun d os => cell_regrownA c0 d os
    have q1 := fun d os => cell_regrownA c1 d os
    have q2 := fun d os => cell_regrownA c2 d os
    have q3 := fun d os => cell_regrownA c3 d os
    have q4 := fun d os => cell_regrownA c4 d os
    have r1 : ∀ d os, Calls Tryd.prog 95 #[.int .i64 fl, .string ⟨#[102, 100, 110, 105]⟩] (Go.Sort.grow (redrawn w1 d) os) fun e w'' => e = .returned (.string A1) ∧ ∃ p : Regrown, w'' = Go.Sort.grow (redrawn w1 p.d) p.os := fun d os => Calls.regrown_of (hS1.out _)
    have r2 : ∀ d os, Calls Tryd.prog 95 #[.int .i64 ma, .string ⟨#[114, 119, 120, 97, 100, 99, 67, 111]⟩] (Go.Sort.grow (redrawn w1 d) os) fun e w'' => e = .returned (.string A2) ∧ ∃ p : Regrown, w'' = Go.Sort.grow (redrawn w1 p.d) p.os := fun d os => Calls.regrown_of (hS2.out _)
    have r3 : ∀ d os, Calls Tryd.prog 96 #[.agg #[.bool true, .int .i64 wh, .int .i64 id, .int .i64 fl, .int .i64 ma]] (Go.Sort.grow (redrawn w1 d) os) fun e w'' => e = .returned (.string A3) ∧ ∃ p : Regrown, w'' = Go.Sort.grow (redrawn w1 p.d) p.os := fun d os => Calls.regrown_of (hWh.out _)
    refine wp_region_quiet_below (by kernel_rfl) (by kernel_rfl) ?_
    repeat (go_big_quiet_step (fail))
    go_big_quiet_step (exact r1 _ _)
    repeat (go_big_quiet_step (fail))
    go_big_quiet_step (exact r3 _ _)
    repeat (go_big_quiet_step (fail))
    go_big_quiet_step (exact r2 _ _)
    repeat (go_big_quiet_step (fail))
    refine wpQuiet_nil ?_
    intro _ hw'
    obtain ⟨⟨dq, osq⟩, hw''⟩ := hw'
    subst hw''
    have hbq := below_regrown w1 dq osq
    have hW2 : Hid (Below w.heap.size w (Go.Sort.grow (redrawn w1 dq) osq)) := Below.on hW1.out hbq
    generalize Go.Sort.grow (redrawn w1 dq) osq = w2 at hW2 ⊢
    clear q0 q1 q2 q3 q4 r1 r2 r3 hbq c0 c1 c2 c3 c4
    go_wp2
    go_ret
    exact ⟨ret_txt HT.out.symm, hW2.out⟩
/-- spec.l05Ace of a right ace. -/
theorem sAce_any (x : Ac) (h : aceB x = true) (w : World) :
    Calls Tryd.prog 62 #[.agg #[.bool x.al, .int .i64 x.wh, .int .i64 x.id, .int .i64 x.fl, .int .i64 x.ma]] w fun e w' => e = .returned (.string (aceT x)) ∧ Below w.heap.size w w' := by
  obtain ⟨⟨w1, w5⟩, ⟨i0, i9⟩, hz, ⟨⟨f0, f15⟩, hf⟩, m1, m255⟩ := aceB_iff.1 h
  rw [aceT, if_pos h]
  obtain ⟨al, wh, id, fl, ma⟩ := x
  simp only at w1 w5 i0 i9 f0 f15 m1 m255 ⊢
  clear h hz hf
  obtain ⟨wh, rfl⟩ := Int.eq_ofNat_of_zero_le (by omega : 0 ≤ wh)
  obtain ⟨id, rfl⟩ := Int.eq_ofNat_of_zero_le i0
  obtain ⟨fl, rfl⟩ := Int.eq_ofNat_of_zero_le f0
  obtain ⟨ma, rfl⟩ := Int.eq_ofNat_of_zero_le (by omega : 0 ≤ ma)
  simp only [Int.toNat_natCast]
  exact sAce_in al wh id fl ma (by omega) (by omega) (by omega) (by omega) (by omega) w
set_option maxRecDepth 100000 in
set_option maxHeartbeats 2000000 in
/-- spec.AceText. -/
theorem sAceText_any (x : Ac) (w : World) :
    Calls Tryd.prog 21 #[.agg #[.bool x.al, .int .i64 x.wh, .int .i64 x.id, .int .i64 x.fl, .int .i64 x.ma]] w fun e w' => e = .returned (.string (aceT x)) ∧ Below w.heap.size w w' := by
  have hR : Hid (∀ w, Calls Tryd.prog 61 #[.agg #[.bool x.al, .int .i64 x.wh, .int .i64 x.id, .int .i64 x.fl, .int .i64 x.ma]] w fun e w' => e = .returned (.bool (aceB x)) ∧ Below w.heap.size w w') := sAceRight_any x
  have hF : Hid (Five (w.alloc (.cells #[.bool x.al, .int .i64 x.wh, .int .i64 x.id, .int .i64 x.fl, .int .i64 x.ma] 41)) w.heap.size 0 x) := five_new w x 41
  have hB : Hid (Below w.heap.size w (w.alloc (.cells #[.bool x.al, .int .i64 x.wh, .int .i64 x.id, .int .i64 x.fl, .int .i64 x.ma] 41))) := bel_alloc _ _
  have hA : Hid (aceB x = true → ∀ w, Calls Tryd.prog 62 #[.agg #[.bool x.al, .int .i64 x.wh, .int .i64 x.id, .int .i64 x.fl, .int .i64 x.ma]] w fun e w' => e = .returned (.string (aceT x)) ∧ Below w.heap.size w w') := (fun h w => sAce_any x h w)
  have hN : Hid (aceB x = false → aceT x = ⟨#[]⟩) := (fun h => by rw [aceT, h]; rfl)
  generalize aceT x = R at hA hN ⊢
  generalize aceB x = b at hR hA hN
  go_enter Tryd.func21, Tryd.ntmps21
  obtain ⟨c0, c1, c2, c3, c4⟩ := hF.out
  simp only [Nat.zero_add] at c0 c1 c2 c3 c4
  go_wp2_with fail
  refine (hR.out _).mono ?_
  rintro e w1 ⟨rfl, hb1⟩
  have hF1 : Hid (Five w1 w.heap.size 0 x) := hF.out.below (by simp) hb1
  have hW1 : Hid (Below w.heap.size w w1) := Below.on hB.out hb1
  clear c0 c1 c2 c3 c4 hb1 hF hB hR
  cases b
  · have hn := hN.out rfl
    subst hn
    go_wp2
    go_ret
    exact ⟨rfl, hW1.out⟩
  · have hA1 : Hid (∀ w, Calls Tryd.prog 62 #[.agg #[.bool x.al, .int .i64 x.wh, .int .i64 x.id, .int .i64 x.fl, .int .i64 x.ma]] w fun e w' => e = .returned (.string R) ∧ Below w.heap.size w w') := hA.out rfl
    obtain ⟨c0, c1, c2, c3, c4⟩ := hF1.out
    simp only [Nat.zero_add] at c0 c1 c2 c3 c4
    clear hA hN
    go_wp2_with fail
    refine (hA1.out _).mono ?_
    rintro e w2 ⟨rfl, hb2⟩
    have hW2 : Hid (Below w.heap.size w w2) := Below.on hW1.out hb2
    clear hb2 c0 c1 c2 c3 c4
    go_wp2
    go_ret
    exact ⟨rfl, hW2.out⟩
theorem sign_split (al : Bool) : (if al then (⟨#[65]⟩ : ByteArray) else ⟨#[68]⟩) ++ ⟨#[58]⟩ = (if al then ⟨#[65, 58]⟩ else ⟨#[68, 58]⟩) := by
  cases al <;> rfl
set_option maxRecDepth 100000 in
set_option maxHeartbeats 4000000 in
/-- impl.AceText of a right ace. -/
theorem iAce_in (al : Bool) (wh id fl ma : Nat) (hb : aceB ⟨al, wh, id, fl, ma⟩ = true) (h1 : 1 ≤ wh) (h5 : wh ≤ 5) (hid : id ≤ 9999) (hf : fl ≤ 15) (hm : ma ≤ 255) (w : World) (hp : PowW w) :
    Calls Tryd.prog 23 #[.agg #[.bool al, .int .i64 wh, .int .i64 id, .int .i64 fl, .int .i64 ma]] w fun e w' => e = .returned (.string (aceTx al wh id fl ma)) ∧ Below w.heap.size w w' := by
  have hR : Hid (∀ w, Calls Tryd.prog 63 #[.agg #[.bool al, .int .i64 wh, .int .i64 id, .int .i64 fl, .int .i64 ma]] w fun e w' => e = .returned (.bool true) ∧ Below w.heap.size w w') := (fun w => by have := iAceRight_any ⟨al, wh, id, fl, ma⟩ w; rwa [hb] at this)
  have hS1 : Hid (∀ w, Calls Tryd.prog 64 #[.int .i64 fl, .string ⟨#[102, 100, 110, 105]⟩] w fun e w' => e = .returned (.string (sgT fl fdni)) ∧ Below w.heap.size w w') := iSigns_any fl (by omega) fdni (by decide)
  have hS2 : Hid (∀ w, Calls Tryd.prog 64 #[.int .i64 ma, .string ⟨#[114, 119, 120, 97, 100, 99, 67, 111]⟩] w fun e w' => e = .returned (.string (sgT ma rwxs)) ∧ Below w.heap.size w w') := iSigns_any ma (by omega) rwxs (by decide)
  have hWh : Hid (∀ w', Below w.heap.size w w' → Calls Tryd.prog 65 #[.agg #[.bool al, .int .i64 wh, .int .i64 id, .int .i64 fl, .int .i64 ma]] w' fun e w'' => e = .returned (.string (whoT wh id)) ∧ Below w'.heap.size w' w'') := (fun w' hb => iWho_any al wh id fl ma h1 h5 hid w' (hp.below hb))
  have HT : Hid (aceTx al wh id fl ma = (if al then ⟨#[65]⟩ else ⟨#[68]⟩) ++ ⟨#[58]⟩ ++ sgT fl fdni ++ ⟨#[58]⟩ ++ whoT wh id ++ ⟨#[58]⟩ ++ sgT ma rwxs) := (by show _ = _; rw [sign_split]; rfl)
  have z1 : (sgT fl fdni).size ≤ 4 := sgT_size fl fdni
  have z2 : (sgT ma rwxs).size ≤ 8 := sgT_size ma rwxs
  have z3 : (whoT wh id).size ≤ 9 := whoT_size hid
  have hF : Hid (Five (w.alloc (.cells #[.bool al, .int .i64 wh, .int .i64 id, .int .i64 fl, .int .i64 ma] 41)) w.heap.size 0 ⟨al, wh, id, fl, ma⟩) := five_new w ⟨al, wh, id, fl, ma⟩ 41
  have hW0 : Hid (Below w.heap.size w (w.alloc (.cells #[.bool al, .int .i64 wh, .int .i64 id, .int .i64 fl, .int .i64 ma] 41))) := bel_alloc _ _
  clear h1 h5 hid hf hm hp hb
  have J7 : Hid (∀ w (s : ByteArray), s.size = 1 → Calls Tryd.prog 45 #[.slice (some ⟨w.heap.size, 0, none⟩) 7 7] (w.alloc (.cells #[.string s, .string ⟨#[58]⟩, .string (sgT fl fdni), .string ⟨#[58]⟩, .string (whoT wh id), .string ⟨#[58]⟩, .string (sgT ma rwxs)] 9)) fun e' w' => e' = .returned (.string (s ++ ⟨#[58]⟩ ++ sgT fl fdni ++ ⟨#[58]⟩ ++ whoT wh id ++ ⟨#[58]⟩ ++ sgT ma rwxs)) ∧ Below w.heap.size w w') := (fun w s hs => join_seven s _ _ _ _ _ _ w (by have k0 : (⟨#[58]⟩ : ByteArray).size = 1 := rfl; omega) 7)
  generalize sgT fl fdni = A1 at hS1 HT J7
  generalize sgT ma rwxs = A2 at hS2 HT J7
  generalize whoT wh id = A3 at hWh HT J7
  generalize aceTx al wh id fl ma = R at HT ⊢
  clear z1 z2 z3
  go_enter Tryd.func23, Tryd.ntmps23
  obtain ⟨c0, c1, c2, c3, c4⟩ := hF.out
  simp only [Nat.zero_add] at c0 c1 c2 c3 c4
  go_wp2_with fail
  refine (hR.out _).mono ?_
  rintro e w1 ⟨rfl, hb1⟩
  have hF1 : Hid (Five w1 w.heap.size 0 ⟨al, wh, id, fl, ma⟩) := hF.out.below (by simp) hb1
  have hW1 : Hid (Below w.heap.size w w1) := Below.on hW0.out hb1
  have hlt : w.heap.size < w1.heap.size := Nat.lt_of_lt_of_le (by simp) hb1.size
  have HLT : Hid (w.heap.size < w1.heap.size) := hlt
  clear c0 c1 c2 c3 c4 hb1 hF hW0 hR hlt
  obtain ⟨c0, c1, c2, c3, c4⟩ := hF1.out
  simp only [Nat.zero_add] at c0 c1 c2 c3 c4
  cases al
  · go_wp2_with fail
    go_region_held3 (fun w' => w'.cell? ⟨w.heap.size, 0, none⟩ = some (.bool false) ∧ w'.cell? ⟨w.heap.size, 1, none⟩ = some (.int .i64 wh) ∧ w'.cell? ⟨w.heap.size, 2, none⟩ = some (.int .i64 id) ∧ w'.cell? ⟨w.heap.size, 3, none⟩ = some (.int .i64 fl) ∧ w'.cell? ⟨w.heap.size, 4, none⟩ = some (.int .i64 ma)) (go_keep)
      (first
        | (go_at_call 64; refine (hS1.out _).mono ?_; rintro e wa ⟨rfl, hba⟩; clear hS1; have hA : Hid (Below w1.heap.size w1 wa) := bdZ hba; obtain ⟨ya0, ya1, ya2, ya3, ya4⟩ := hF1.out.below HLT.out hA.out; simp only [Nat.zero_add] at ya0 ya1 ya2 ya3 ya4)
        | (go_at_call 65; refine (hWh.out _ (Below.on hW1.out hA.out)).mono ?_; rintro e wb ⟨rfl, hbb⟩; have hBb : Hid (Below w1.heap.size w1 wb) := Below.on hA.out hbb; obtain ⟨yb0, yb1, yb2, yb3, yb4⟩ := hF1.out.below HLT.out hBb.out; simp only [Nat.zero_add] at yb0 yb1 yb2 yb3 yb4)
        | (go_at_call 64; refine (hS2.out _).mono ?_; rintro e wc ⟨rfl, hbc⟩; clear hS2; have hC : Hid (Below w1.heap.size w1 wc) := Below.on hBb.out hbc; obtain ⟨yc0, yc1, yc2, yc3, yc4⟩ := hF1.out.below HLT.out hC.out; simp only [Nat.zero_add] at yc0 yc1 yc2 yc3 yc4)
        | (go_at_call 45; refine (J7.out _ _ rfl).mono ?_; rintro e wd ⟨rfl, hbd⟩; have hD : Hid (Below w1.heap.size w1 wd) := Below.on hC.out hbd; obtain ⟨yd0, yd1, yd2, yd3, yd4⟩ := hF1.out.below HLT.out hD.out; simp only [Nat.zero_add] at yd0 yd1 yd2 yd3 yd4))
    have hW2 : Hid (Below w.heap.size w wd) := Below.on hW1.out hD.out
    clear c0 c1 c2 c3 c4 ya0 ya1 ya2 ya3 ya4 yb0 yb1 yb2 yb3 yb4 yc0 yc1 yc2 yc3 yc4 yd0 yd1 yd2 yd3 yd4 hba hbb hbc hbd hA hBb hC hD
    go_wp2
    go_ret
    exact ⟨ret_txt HT.out.symm, hW2.out⟩
  · go_wp2_with fail
    go_region_held3 (fun w' => w'.cell? ⟨w.heap.size, 0, none⟩ = some (.bool true) ∧ w'.cell? ⟨w.heap.size, 1, none⟩ = some (.int .i64 wh) ∧ w'.cell? ⟨w.heap.size, 2, none⟩ = some (.int .i64 id) ∧ w'.cell? ⟨w.heap.size, 3, none⟩ = some (.int .i64 fl) ∧ w'.cell? ⟨w.heap.size, 4, none⟩ = some (.int .i64 ma)) (go_keep)
      (first
        | (go_at_call 64; refine (hS1.out _).mono ?_; rintro e wa ⟨rfl, hba⟩; clear hS1; have hA : Hid (Below w1.heap.size w1 wa) := bdZ hba; obtain ⟨ya0, ya1, ya2, ya3, ya4⟩ := hF1.out.below HLT.out hA.out; simp only [Nat.zero_add] at ya0 ya1 ya2 ya3 ya4)
        | (go_at_call 65; refine (hWh.out _ (Below.on hW1.out hA.out)).mono ?_; rintro e wb ⟨rfl, hbb⟩; have hBb : Hid (Below w1.heap.size w1 wb) := Below.on hA.out hbb; obtain ⟨yb0, yb1, yb2, yb3, yb4⟩ := hF1.out.below HLT.out hBb.out; simp only [Nat.zero_add] at yb0 yb1 yb2 yb3 yb4)
        | (go_at_call 64; refine (hS2.out _).mono ?_; rintro e wc ⟨rfl, hbc⟩; clear hS2; have hC : Hid (Below w1.heap.size w1 wc) := Below.on hBb.out hbc; obtain ⟨yc0, yc1, yc2, yc3, yc4⟩ := hF1.out.below HLT.out hC.out; simp only [Nat.zero_add] at yc0 yc1 yc2 yc3 yc4)
        | (go_at_call 45; refine (J7.out _ _ rfl).mono ?_; rintro e wd ⟨rfl, hbd⟩; have hD : Hid (Below w1.heap.size w1 wd) := Below.on hC.out hbd; obtain ⟨yd0, yd1, yd2, yd3, yd4⟩ := hF1.out.below HLT.out hD.out; simp only [Nat.zero_add] at yd0 yd1 yd2 yd3 yd4))
    have hW2 : Hid (Below w.heap.size w wd) := Below.on hW1.out hD.out
    clear c0 c1 c2 c3 c4 ya0 ya1 ya2 ya3 ya4 yb0 yb1 yb2 yb3 yb4 yc0 yc1 yc2 yc3 yc4 yd0 yd1 yd2 yd3 yd4 hba hbb hbc hbd hA hBb hC hD
    go_wp2
    go_ret
    exact ⟨ret_txt HT.out.symm, hW2.out⟩
set_option maxRecDepth 100000 in
set_option maxHeartbeats 2000000 in
/-- impl.AceText. -/
theorem iAceText_any (x : Ac) (w : World) (hp : PowW w) :
    Calls Tryd.prog 23 #[.agg #[.bool x.al, .int .i64 x.wh, .int .i64 x.id, .int .i64 x.fl, .int .i64 x.ma]] w fun e w' => e = .returned (.string (aceT x)) ∧ Below w.heap.size w w' := by
  cases h : aceB x
  · have hR : Hid (∀ w, Calls Tryd.prog 63 #[.agg #[.bool x.al, .int .i64 x.wh, .int .i64 x.id, .int .i64 x.fl, .int .i64 x.ma]] w fun e w' => e = .returned (.bool false) ∧ Below w.heap.size w w') := (fun w => by have := iAceRight_any x w; rwa [h] at this)
    have hB : Hid (Below w.heap.size w (w.alloc (.cells #[.bool x.al, .int .i64 x.wh, .int .i64 x.id, .int .i64 x.fl, .int .i64 x.ma] 41))) := bel_alloc _ _
    obtain ⟨c0, c1, c2, c3, c4⟩ := five_new w x 41
    simp only [Nat.zero_add] at c0 c1 c2 c3 c4
    have hn : aceT x = ⟨#[]⟩ := by rw [aceT, h]; rfl
    rw [hn]
    clear hn h hp
    go_enter Tryd.func23, Tryd.ntmps23
    go_wp2_with fail
    refine (hR.out _).mono ?_
    rintro e w1 ⟨rfl, hb1⟩
    have hW1 : Hid (Below w.heap.size w w1) := Below.on hB.out hb1
    clear c0 c1 c2 c3 c4 hb1 hB hR
    go_wp2
    go_ret
    exact ⟨rfl, hW1.out⟩
  · obtain ⟨⟨w1, w5⟩, ⟨i0, i9⟩, hz, ⟨⟨f0, f15⟩, hf⟩, m1, m255⟩ := aceB_iff.1 h
    rw [aceT, if_pos h]
    obtain ⟨al, wh, id, fl, ma⟩ := x
    simp only at w1 w5 i0 i9 f0 f15 m1 m255 ⊢
    clear hz hf
    obtain ⟨wh, rfl⟩ := Int.eq_ofNat_of_zero_le (by omega : 0 ≤ wh)
    obtain ⟨id, rfl⟩ := Int.eq_ofNat_of_zero_le i0
    obtain ⟨fl, rfl⟩ := Int.eq_ofNat_of_zero_le f0
    obtain ⟨ma, rfl⟩ := Int.eq_ofNat_of_zero_le (by omega : 0 ≤ ma)
    simp only [Int.toNat_natCast]
    exact iAce_in al wh id fl ma h (by omega) (by omega) (by omega) (by omega) (by omega) w hp
end Go.Proofs.YtlngfaplimpilaaDoor
