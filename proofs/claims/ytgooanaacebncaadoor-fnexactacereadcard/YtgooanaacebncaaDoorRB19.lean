/- Laid together: AceTx2, IReadA. -/
import Derived.Test.YtgooanaacebncaaDoorRB18
/- l05Ace, AceText of both sides. -/
namespace Go.Proofs.YtgooanaacebncaaDoor
open Go.RowKit Go.PlainAid Go.Deep
set_option linter.unusedVariables false
theorem cell_regrownA {w : World} {p : Addr} {v : Value} (h : w.cell? p = some v) (d : Nat) (os : Array Obj) : (Go.Sort.grow (redrawn w d) os).cell? p = some v := cell_regrown h d os
set_option maxRecDepth 100000 in
set_option maxHeartbeats 4000000 in
/-- spec.l05Ace. -/
theorem sAce_in (al : Bool) (wh id fl ma : Nat) (h1 : 1 ≤ wh) (h5 : wh ≤ 5) (hid : id ≤ 9999) (hf : fl ≤ 15) (hm : ma ≤ 255) (w : World) :
    Calls Tryd.prog 99 #[.agg #[.bool al, .int .i64 wh, .int .i64 id, .int .i64 fl, .int .i64 ma]] w fun e w' => e = .returned (.string (aceTx al wh id fl ma)) ∧ Below w.heap.size w w' := by
  have hS1 : Hid (∀ w, Calls Tryd.prog 121 #[.int .i64 fl, .string ⟨#[102, 100, 110, 105]⟩] w fun e w' => e = .returned (.string (sgT fl fdni)) ∧ Below w.heap.size w w') := sSigns_any fl (by omega) fdni (by decide)
  have hS2 : Hid (∀ w, Calls Tryd.prog 121 #[.int .i64 ma, .string ⟨#[114, 119, 120, 97, 100, 99, 67, 111]⟩] w fun e w' => e = .returned (.string (sgT ma rwxs)) ∧ Below w.heap.size w w') := sSigns_any ma (by omega) rwxs (by decide)
  have hWh : Hid (∀ w, Calls Tryd.prog 122 #[.agg #[.bool al, .int .i64 wh, .int .i64 id, .int .i64 fl, .int .i64 ma]] w fun e w' => e = .returned (.string (whoT wh id)) ∧ Below w.heap.size w w') := sWho_any al wh id fl ma h1 h5 hid
  have HT : Hid (aceTx al wh id fl ma = (if al then ⟨#[65, 58]⟩ else ⟨#[68, 58]⟩) ++ sgT fl fdni ++ ⟨#[58]⟩ ++ whoT wh id ++ ⟨#[58]⟩ ++ sgT ma rwxs) := rfl
  have z1 : (sgT fl fdni).size ≤ 4 := sgT_size fl fdni
  have z2 : (sgT ma rwxs).size ≤ 8 := sgT_size ma rwxs
  have z3 : (whoT wh id).size ≤ 9 := whoT_size hid
  have hF : Hid (Five (w.alloc (.cells #[.bool al, .int .i64 wh, .int .i64 id, .int .i64 fl, .int .i64 ma] 50)) w.heap.size 0 ⟨al, wh, id, fl, ma⟩) := five_new w ⟨al, wh, id, fl, ma⟩ 50
  have hW1 : Hid (Below w.heap.size w (w.alloc (.cells #[.bool al, .int .i64 wh, .int .i64 id, .int .i64 fl, .int .i64 ma] 50))) := bel_alloc _ _
  clear h1 h5 hid hf hm
  generalize sgT fl fdni = A1 at hS1 HT z1
  generalize sgT ma rwxs = A2 at hS2 HT z2
  generalize whoT wh id = A3 at hWh HT z3
  generalize aceTx al wh id fl ma = R at HT ⊢
  go_enter Tryd.func99, Tryd.ntmps99
  obtain ⟨c0, c1, c2, c3, c4⟩ := hF.out
  simp only [Nat.zero_add] at c0 c1 c2 c3 c4
  have k0 : (⟨#[58]⟩ : ByteArray).size = 1 := rfl
  have y1 : (⟨#[65, 58]⟩ : ByteArray).size = 2 := rfl
  have y2 : (⟨#[68, 58]⟩ : ByteArray).size = 2 := rfl
  cases al
  · go_wp2_with fail
    clear c0 c1 c2 c3 c4
    generalize w.alloc (.cells #[.bool false, .int .i64 wh, .int .i64 id, .int .i64 fl, .int .i64 ma] 50) = w1 at hF hW1 ⊢
    obtain ⟨c0, c1, c2, c3, c4⟩ := hF.out
    simp only [Nat.zero_add] at c0 c1 c2 c3 c4
    have q0 := fun d os => cell_regrownA c0 d os
    have q1 := fun d os => cell_regrownA c1 d os
    have q2 := fun d os => cell_regrownA c2 d os
    have q3 := fun d os => cell_regrownA c3 d os
    have q4 := fun d os => cell_regrownA c4 d os
    have r1 : ∀ d os, Calls Tryd.prog 121 #[.int .i64 fl, .string ⟨#[102, 100, 110, 105]⟩] (Go.Sort.grow (redrawn w1 d) os) fun e w'' => e = .returned (.string A1) ∧ ∃ p : Regrown, w'' = Go.Sort.grow (redrawn w1 p.d) p.os := fun d os => Calls.regrown_of (hS1.out _)
    have r2 : ∀ d os, Calls Tryd.prog 121 #[.int .i64 ma, .string ⟨#[114, 119, 120, 97, 100, 99, 67, 111]⟩] (Go.Sort.grow (redrawn w1 d) os) fun e w'' => e = .returned (.string A2) ∧ ∃ p : Regrown, w'' = Go.Sort.grow (redrawn w1 p.d) p.os := fun d os => Calls.regrown_of (hS2.out _)
    have r3 : ∀ d os, Calls Tryd.prog 122 #[.agg #[.bool false, .int .i64 wh, .int .i64 id, .int .i64 fl, .int .i64 ma]] (Go.Sort.grow (redrawn w1 d) os) fun e w'' => e = .returned (.string A3) ∧ ∃ p : Regrown, w'' = Go.Sort.grow (redrawn w1 p.d) p.os := fun d os => Calls.regrown_of (hWh.out _)
    refine wp_region_quiet_below (by kernel_rfl) (by kernel_rfl) ?_
    repeat (go_big_quiet_step (fail))
    go_big_quiet_step (exact r1 _ _)
    repeat (go_big_quiet_step (fail))
    go_big_quiet_step (exact r3 _ _)
    repeat (go_big_quiet_step (fail))
    go_big_quiet_step (exact r2 _ _)
    repeat (go_big_quiet_step (fail))
    refine wpQuiet_nil ?_
    intro _ hw'
    obtain ⟨⟨dq, osq⟩, hw''⟩ := hw'
    subst hw''
    have hbq := below_regrown w1 dq osq
    have hW2 : Hid (Below w.heap.size w (Go.Sort.grow (redrawn w1 dq) osq)) := Below.on hW1.out hbq
    generalize Go.Sort.grow (redrawn w1 dq) osq = w2 at hW2 ⊢
    clear q0 q1 q2 q3 q4 r1 r2 r3 hbq c0 c1 c2 c3 c4
    go_wp2
    go_ret
    exact ⟨ret_txt HT.out.symm, hW2.out⟩
  · go_wp2_with fail
    clear c0 c1 c2 c3 c4
    generalize w.alloc (.cells #[.bool true, .int .i64 wh, .int .i64 id, .int .i64 fl, .int .i64 ma] 50) = w1 at hF hW1 ⊢
    obtain ⟨c0, c1, c2, c3, c4⟩ := hF.out
    simp only [Nat.zero_add] at c0 c1 c2 c3 c4
    have q0 := fun d os => cell_regrownA c0 d os
    have q1 := fun d os => cell_regrownA c1 d os
    have q2 := fun d os => cell_regrownA c2 d os
    have q3 := fun d os => cell_regrownA c3 d os
    have q4 := fun d os => cell_regrownA c4 d os
    have r1 : ∀ d os, Calls Tryd.prog 121 #[.int .i64 fl, .string ⟨#[102, 100, 110, 105]⟩] (Go.Sort.grow (redrawn w1 d) os) fun e w'' => e = .returned (.string A1) ∧ ∃ p : Regrown, w'' = Go.Sort.grow (redrawn w1 p.d) p.os := fun d os => Calls.regrown_of (hS1.out _)
    have r2 : ∀ d os, Calls Tryd.prog 121 #[.int .i64 ma, .string ⟨#[114, 119, 120, 97, 100, 99, 67, 111]⟩] (Go.Sort.grow (redrawn w1 d) os) fun e w'' => e = .returned (.string A2) ∧ ∃ p : Regrown, w'' = Go.Sort.grow (redrawn w1 p.d) p.os := fun d os => Calls.regrown_of (hS2.out _)
    have r3 : ∀ d os, Calls Tryd.prog 122 #[.agg #[.bool true, .int .i64 wh, .int .i64 id, .int .i64 fl, .int .i64 ma]] (Go.Sort.grow (redrawn w1 d) os) fun e w'' => e = .returned (.string A3) ∧ ∃ p : Regrown, w'' = Go.Sort.grow (redrawn w1 p.d) p.os := fun d os => Calls.regrown_of (hWh.out _)
    refine wp_region_quiet_below (by kernel_rfl) (by kernel_rfl) ?_
    repeat (go_big_quiet_step (fail))
    go_big_quiet_step (exact r1 _ _)
    repeat (go_big_quiet_step (fail))
    go_big_quiet_step (exact r3 _ _)
    repeat (go_big_quiet_step (fail))
    go_big_quiet_step (exact r2 _ _)
    repeat (go_big_quiet_step (fail))
    refine wpQuiet_nil ?_
    intro _ hw'
    obtain ⟨⟨dq, osq⟩, hw''⟩ := hw'
    subst hw''
    have hbq := below_regrown w1 dq osq
    have hW2 : Hid (Below w.heap.size w (Go.Sort.grow (redrawn w1 dq) osq)) := Below.on hW1.out hbq
    generalize Go.Sort.grow (redrawn w1 dq) osq = w2 at hW2 ⊢
    clear q0 q1 q2 q3 q4 r1 r2 r3 hbq c0 c1 c2 c3 c4
    go_wp2
    go_ret
    exact ⟨ret_txt HT.out.symm, hW2.out⟩
/-- spec.l05Ace of a right ace. -/
theorem sAce_any (x : Ac) (h : aceB x = true) (w : World) :
    Calls Tryd.prog 99 #[.agg #[.bool x.al, .int .i64 x.wh, .int .i64 x.id, .int .i64 x.fl, .int .i64 x.ma]] w fun e w' => e = .returned (.string (aceT x)) ∧ Below w.heap.size w w' := by
  obtain ⟨⟨w1, w5⟩, ⟨i0, i9⟩, hz, ⟨⟨f0, f15⟩, hf⟩, m1, m255⟩ := aceB_iff.1 h
  rw [aceT, if_pos h]
  obtain ⟨al, wh, id, fl, ma⟩ := x
  simp only at w1 w5 i0 i9 f0 f15 m1 m255 ⊢
  clear h hz hf
  obtain ⟨wh, rfl⟩ := Int.eq_ofNat_of_zero_le (by omega : 0 ≤ wh)
  obtain ⟨id, rfl⟩ := Int.eq_ofNat_of_zero_le i0
  obtain ⟨fl, rfl⟩ := Int.eq_ofNat_of_zero_le f0
  obtain ⟨ma, rfl⟩ := Int.eq_ofNat_of_zero_le (by omega : 0 ≤ ma)
  simp only [Int.toNat_natCast]
  exact sAce_in al wh id fl ma (by omega) (by omega) (by omega) (by omega) (by omega) w
set_option maxRecDepth 100000 in
set_option maxHeartbeats 2000000 in
/-- spec.AceText. -/
theorem sAceText_any (x : Ac) (w : World) :
    Calls Tryd.prog 65 #[.agg #[.bool x.al, .int .i64 x.wh, .int .i64 x.id, .int .i64 x.fl, .int .i64 x.ma]] w fun e w' => e = .returned (.string (aceT x)) ∧ Below w.heap.size w w' := by
  have hR : Hid (∀ w, Calls Tryd.prog 98 #[.agg #[.bool x.al, .int .i64 x.wh, .int .i64 x.id, .int .i64 x.fl, .int .i64 x.ma]] w fun e w' => e = .returned (.bool (aceB x)) ∧ Below w.heap.size w w') := sAceRight_any x
  have hF : Hid (Five (w.alloc (.cells #[.bool x.al, .int .i64 x.wh, .int .i64 x.id, .int .i64 x.fl, .int .i64 x.ma] 50)) w.heap.size 0 x) := five_new w x 50
  have hB : Hid (Below w.heap.size w (w.alloc (.cells #[.bool x.al, .int .i64 x.wh, .int .i64 x.id, .int .i64 x.fl, .int .i64 x.ma] 50))) := bel_alloc _ _
  have hA : Hid (aceB x = true → ∀ w, Calls Tryd.prog 99 #[.agg #[.bool x.al, .int .i64 x.wh, .int .i64 x.id, .int .i64 x.fl, .int .i64 x.ma]] w fun e w' => e = .returned (.string (aceT x)) ∧ Below w.heap.size w w') := (fun h w => sAce_any x h w)
  have hN : Hid (aceB x = false → aceT x = ⟨#[]⟩) := (fun h => by rw [aceT, h]; rfl)
  generalize aceT x = R at hA hN ⊢
  generalize aceB x = b at hR hA hN
  go_enter Tryd.func65, Tryd.ntmps65
  obtain ⟨c0, c1, c2, c3, c4⟩ := hF.out
  simp only [Nat.zero_add] at c0 c1 c2 c3 c4
  go_wp2_with fail
  refine (hR.out _).mono ?_
  rintro e w1 ⟨rfl, hb1⟩
  have hF1 : Hid (Five w1 w.heap.size 0 x) := hF.out.below (by simp) hb1
  have hW1 : Hid (Below w.heap.size w w1) := Below.on hB.out hb1
  clear c0 c1 c2 c3 c4 hb1 hF hB hR
  cases b
  · have hn := hN.out rfl
    subst hn
    go_wp2
    go_ret
    exact ⟨rfl, hW1.out⟩
  · have hA1 : Hid (∀ w, Calls Tryd.prog 99 #[.agg #[.bool x.al, .int .i64 x.wh, .int .i64 x.id, .int .i64 x.fl, .int .i64 x.ma]] w fun e w' => e = .returned (.string R) ∧ Below w.heap.size w w') := hA.out rfl
    obtain ⟨c0, c1, c2, c3, c4⟩ := hF1.out
    simp only [Nat.zero_add] at c0 c1 c2 c3 c4
    clear hA hN
    go_wp2_with fail
    refine (hA1.out _).mono ?_
    rintro e w2 ⟨rfl, hb2⟩
    have hW2 : Hid (Below w.heap.size w w2) := Below.on hW1.out hb2
    clear hb2 c0 c1 c2 c3 c4
    go_wp2
    go_ret
    exact ⟨rfl, hW2.out⟩
/-- What readAce ends in. -/
def AceEnd (t : List UInt8) (w : World) (e : Ending) (w' : World) : Prop := Below w.heap.size w w' ∧ ((aceI t = none ∧ e = .returned (.tuple #[.agg #[.bool false, .int .i64 0, .int .i64 0, .int .i64 0, .int .i64 0], .bool false])) ∨ ∃ x, aceI t = some x ∧ e = .returned (.tuple #[.agg #[.bool x.al, .int .i64 x.wh, .int .i64 x.id, .int .i64 x.fl, .int .i64 x.ma], .bool true]))
theorem aceEnd_no {t : List UInt8} {w w' : World} (h : aceI t = none) (hb : Below w.heap.size w w') : AceEnd t w (.returned (.tuple #[.agg #[.bool false, .int .i64 0, .int .i64 0, .int .i64 0, .int .i64 0], .bool false])) w' := ⟨hb, .inl ⟨h, rfl⟩⟩
theorem aceI_not {t : List UInt8} (h : (spl 58 t).length ≠ 4) : aceI t = none := by
  unfold aceI
  split
  next e => rw [e] at h; simp at h
  · rfl
theorem aceI_yes {t a b c d : List UInt8} {f wh id m : Nat} (h : spl 58 t = [a, b, c, d]) (ha : a = [65] ∨ a = [68]) (hf : rsI b fdni.data.toList = some f) (hw : whoI c = some (wh, id)) (hm : rsI d rwxs.data.toList = some m) :
    aceI t = if aceB ⟨decide (a = [65]), wh, id, f, m⟩ then some ⟨decide (a = [65]), wh, id, f, m⟩ else none := by simp only [aceI, h, if_pos ha, hf, hw, hm]
theorem aceI_a {t a b c d : List UInt8} (h : spl 58 t = [a, b, c, d]) (ha : ¬ (a = [65] ∨ a = [68])) : aceI t = none := by simp only [aceI, h, if_neg ha]
theorem aceI_f {t a b c d : List UInt8} (h : spl 58 t = [a, b, c, d]) (hf : rsI b fdni.data.toList = none) : aceI t = none := by simp [aceI, h, hf]
theorem aceI_w {t a b c d : List UInt8} (h : spl 58 t = [a, b, c, d]) (hf : whoI c = none) : aceI t = none := by simp [aceI, h, hf]
theorem aceI_m {t a b c d : List UInt8} (h : spl 58 t = [a, b, c, d]) (hf : rsI d rwxs.data.toList = none) : aceI t = none := by simp [aceI, h, hf]
theorem rsI_eq (t : ByteArray) (S : ByteArray) : rsI t.data.toList S.data.toList = if (rsTo t.data.toList S.data.toList S.size).2 = t.size then some (rsTo t.data.toList S.data.toList S.size).1 else none := by
  have h1 : S.data.toList.length = S.size := (Lib.size_eq S).symm
  have h2 : t.data.toList.length = t.size := (Lib.size_eq t).symm
  rw [rsI, h1, h2]
/-- The library's cut of a text at a byte. -/
theorem split_at (c : UInt8) (s : ByteArray) (m : Int) (hs : s.size ≤ 8000) (w : World) (hm : w.cell? ⟨1, 0, none⟩ = some (.int .i64 m)) :
    Calls Tryd.prog 80 #[.string s, .string ⟨#[c]⟩] w fun e w' => e = .returned (.slice (some ⟨w.heap.size, 0, none⟩) (spl c s.data.toList).length (spl c s.data.toList).length) ∧ w' = w.alloc (.cells ((bts (spl c s.data.toList)).map Value.string).toArray 9) := by
  obtain ⟨hsp, hct⟩ := splitB_spl c s.size s (Nat.le_refl _)
  have h := Tryd.strings_Split s ⟨#[c]⟩ m w (by omega) hm (by show 1 ≤ 1; omega)
  rw [hsp, hct] at h
  exact h
theorem cells_at4 (w : World) (l : List ByteArray) (t : TypeId) {k : Nat} {x : ByteArray} (h : l[k]? = some x) : (w.alloc (.cells (l.map Value.string).toArray t)).cell? ⟨w.heap.size, k, none⟩ = some (.string x) := by
  have hb : (w.alloc (.cells (l.map Value.string).toArray t)).heap[w.heap.size]? = some (.cells (l.map Value.string).toArray t) := by
    rw [World.alloc]
    exact Array.getElem?_push_size
  simp only [World.cell?, hb]
  simp [h]
set_option maxRecDepth 100000 in
set_option maxHeartbeats 2000000 in
/-- impl.readAce of a text that is not of four pieces. -/
theorem iReadA_not (s : ByteArray) (m : Int) (hs : s.size ≤ 8000) (h4 : (spl 58 s.data.toList).length ≠ 4) (w : World) (hm : w.cell? ⟨1, 0, none⟩ = some (.int .i64 m)) :
    Calls Tryd.prog 66 #[.string s] w (AceEnd s.data.toList w) := by
  have hn : Hid (aceI s.data.toList = none) := aceI_not h4
  have hlt := block_lt_of_cell hm
  have hY : Hid (Wr5 (w.alloc (.cells #[.bool false, .int .i64 0, .int .i64 0, .int .i64 0, .int .i64 0] 50)) w.heap.size acZ) := wr5_new w acZ _
  have hW0 : Hid (Below w.heap.size w (w.alloc (.cells #[.bool false, .int .i64 0, .int .i64 0, .int .i64 0, .int .i64 0] 50))) := bel_alloc _ _
  have hS : Hid (Calls Tryd.prog 80 #[.string s, .string ⟨#[58]⟩] (w.alloc (.cells #[.bool false, .int .i64 0, .int .i64 0, .int .i64 0, .int .i64 0] 50)) fun e w' => e = .returned (.slice (some ⟨(w.alloc (.cells #[.bool false, .int .i64 0, .int .i64 0, .int .i64 0, .int .i64 0] 50)).heap.size, 0, none⟩) (spl 58 s.data.toList).length (spl 58 s.data.toList).length) ∧ w' = (w.alloc (.cells #[.bool false, .int .i64 0, .int .i64 0, .int .i64 0, .int .i64 0] 50)).alloc (.cells ((bts (spl 58 s.data.toList)).map Value.string).toArray 9)) := split_at 58 s m hs _ ((hW0.out.cell (p := ⟨_, 0, none⟩) hlt).trans hm)
  have hne : (((spl 58 s.data.toList).length : Int) != 4) = true := by rw [bne_iff_ne]; omega
  clear hlt hm h4
  go_enter Tryd.func66, Tryd.ntmps66
  go_wp2_with fail
  refine hS.out.mono ?_
  rintro e w1 ⟨rfl, rfl⟩
  have hY1 := hY.out.below (bel_alloc _ (.cells ((bts (spl 58 s.data.toList)).map Value.string).toArray 9))
  have hW1 : Hid (Below w.heap.size w ((w.alloc (.cells #[.bool false, .int .i64 0, .int .i64 0, .int .i64 0, .int .i64 0] 50)).alloc (.cells ((bts (spl 58 s.data.toList)).map Value.string).toArray 9))) := Below.on hW0.out (bel_alloc _ _)
  have HY1 : Hid _ := hY1
  generalize (w.alloc (.cells #[.bool false, .int .i64 0, .int .i64 0, .int .i64 0, .int .i64 0] 50)).alloc (.cells ((bts (spl 58 s.data.toList)).map Value.string).toArray 9) = w1 at HY1 hW1 ⊢
  generalize (spl 58 s.data.toList).length = n at hne ⊢
  clear hY1 hS hY hW0
  obtain ⟨yl, ⟨y0, y1, y2, y3, y4⟩, yz⟩ := HY1.out
  simp only [Nat.zero_add] at y0 y1 y2 y3 y4
  have yz0 := yz 0
  have yz1 := yz 1
  have yz2 := yz 2
  have yz3 := yz 3
  have yz4 := yz 4
  clear yz
  go_wp2
  refine bodyPost_ret (v := .tuple #[.agg #[.bool false, .int .i64 0, .int .i64 0, .int .i64 0, .int .i64 0], .bool false]) (by simp [results, Tryd.results66, go_sem, y0, y1, y2, y3, y4]) rfl (aceEnd_no hn.out ?_)
  repeat (refine bl_setA ?_ (Nat.le_refl _))
  exact hW1.out
theorem rdsg_ex (t S : ByteArray) (hS : S.size ≤ 8) : ∃ (v : Nat) (ok : Bool), (∀ w, Calls Tryd.prog 100 #[.string t, .string S] w fun e w' => e = .returned (.tuple #[.int .i64 v, .bool ok]) ∧ Below w.heap.size w w') ∧ rsI t.data.toList S.data.toList = if ok then some v else none := by
  refine ⟨_, _, iRdSg_any t S hS, ?_⟩
  rw [rsI_eq]
  simp
theorem four_cells (w : World) (ta tb tc td : ByteArray) (t : TypeId) : Tx4 (w.alloc (.cells ([ta, tb, tc, td].map Value.string).toArray t)) w.heap.size ta tb tc td :=
  ⟨by simp, cells_at4 w [ta, tb, tc, td] t rfl, cells_at4 w [ta, tb, tc, td] t rfl, cells_at4 w [ta, tb, tc, td] t rfl, cells_at4 w [ta, tb, tc, td] t rfl⟩
set_option maxRecDepth 100000 in
set_option maxHeartbeats 4000000 in
/-- impl.readAce of four pieces. -/
theorem iReadA_four (s ta tb tc td : ByteArray) (m : Int) (hs : s.size ≤ 8000) (h : spl 58 s.data.toList = [ta.data.toList, tb.data.toList, tc.data.toList, td.data.toList]) (w : World) (hm : w.cell? ⟨1, 0, none⟩ = some (.int .i64 m)) :
    Calls Tryd.prog 66 #[.string s] w (AceEnd s.data.toList w) := by
  have hlt := block_lt_of_cell hm
  obtain ⟨_, _, lc, _⟩ := piece_len h
  have hls : s.data.toList.length = s.size := (Lib.size_eq s).symm
  have hlc : tc.data.toList.length = tc.size := (Lib.size_eq tc).symm
  obtain ⟨fv, fo, hF0, hF1⟩ := rdsg_ex tb fdni (by decide)
  obtain ⟨mv, mo, hM0, hM1⟩ := rdsg_ex td rwxs (by decide)
  have HF : Hid (∀ w, Calls Tryd.prog 100 #[.string tb, .string ⟨#[102, 100, 110, 105]⟩] w fun e w' => e = .returned (.tuple #[.int .i64 fv, .bool fo]) ∧ Below w.heap.size w w') := hF0
  have HM : Hid (∀ w, Calls Tryd.prog 100 #[.string td, .string ⟨#[114, 119, 120, 97, 100, 99, 67, 111]⟩] w fun e w' => e = .returned (.tuple #[.int .i64 mv, .bool mo]) ∧ Below w.heap.size w w') := hM0
  have HWH : Hid (∀ w, Calls Tryd.prog 101 #[.string tc] w (WhoEnd tc.data.toList w)) := (fun w => iRdWho_any tc (by omega) w)
  have HAN : Hid (¬ (ta.data.toList = [65] ∨ ta.data.toList = [68]) → aceI s.data.toList = none) := aceI_a h
  have HFN : Hid (fo = false → aceI s.data.toList = none) := (fun e => aceI_f h (by rw [hF1, e]; rfl))
  have HMN : Hid (mo = false → aceI s.data.toList = none) := (fun e => aceI_m h (by rw [hM1, e]; rfl))
  have HWN : Hid (whoI tc.data.toList = none → aceI s.data.toList = none) := aceI_w h
  have HYS : Hid ((ta.data.toList = [65] ∨ ta.data.toList = [68]) → fo = true → mo = true → ∀ wh id : Nat, whoI tc.data.toList = some (wh, id) → aceI s.data.toList = if aceB ⟨decide (ta.data.toList = [65]), wh, id, fv, mv⟩ then some ⟨decide (ta.data.toList = [65]), wh, id, fv, mv⟩ else none) := (fun ha ef em wh id hw => aceI_yes h ha (by rw [hF1, ef]; rfl) hw (by rw [hM1, em]; rfl))
  have hY : Hid (Wr5 (w.alloc (.cells #[.bool false, .int .i64 0, .int .i64 0, .int .i64 0, .int .i64 0] 50)) w.heap.size acZ) := wr5_new w acZ _
  have hW0 : Hid (Below w.heap.size w (w.alloc (.cells #[.bool false, .int .i64 0, .int .i64 0, .int .i64 0, .int .i64 0] 50))) := bel_alloc _ _
  have hS : Hid (Calls Tryd.prog 80 #[.string s, .string ⟨#[58]⟩] (w.alloc (.cells #[.bool false, .int .i64 0, .int .i64 0, .int .i64 0, .int .i64 0] 50)) fun e w' => e = .returned (.slice (some ⟨w.heap.size + 1, 0, none⟩) 4 4) ∧ w' = (w.alloc (.cells #[.bool false, .int .i64 0, .int .i64 0, .int .i64 0, .int .i64 0] 50)).alloc (.cells ([ta, tb, tc, td].map Value.string).toArray 9)) := (by
    have h1 := split_at 58 s m hs _ ((hW0.out.cell (p := ⟨_, 0, none⟩) hlt).trans hm)
    have e : bts (spl 58 s.data.toList) = [ta, tb, tc, td] := by
      rw [h]
      simp [bts]
    rw [e, h] at h1
    show Calls _ _ _ _ _
    simpa using h1)
  have hT : Hid (Tx4 ((w.alloc (.cells #[.bool false, .int .i64 0, .int .i64 0, .int .i64 0, .int .i64 0] 50)).alloc (.cells ([ta, tb, tc, td].map Value.string).toArray 9)) (w.heap.size + 1) ta tb tc td) := (by
    have := four_cells (w.alloc (.cells #[.bool false, .int .i64 0, .int .i64 0, .int .i64 0, .int .i64 0] 50)) ta tb tc td 9
    show Tx4 _ _ _ _ _ _
    simpa using this)
  have hY1 : Hid (Wr5 ((w.alloc (.cells #[.bool false, .int .i64 0, .int .i64 0, .int .i64 0, .int .i64 0] 50)).alloc (.cells ([ta, tb, tc, td].map Value.string).toArray 9)) w.heap.size acZ) := hY.out.below (bel_alloc _ _)
  have hW1 : Hid (Below w.heap.size w ((w.alloc (.cells #[.bool false, .int .i64 0, .int .i64 0, .int .i64 0, .int .i64 0] 50)).alloc (.cells ([ta, tb, tc, td].map Value.string).toArray 9))) := Below.on hW0.out (bel_alloc _ _)
  have eA : (ta.toList == [65]) = decide (ta.data.toList = [65]) := by
    by_cases e : ta.data.toList = [65]
    · rw [decide_eq_true e]; exact tl_eq e
    · rw [decide_eq_false e]; exact tl_ne e
  have eD : (ta.toList == [68]) = decide (ta.data.toList = [68]) := by
    by_cases e : ta.data.toList = [68]
    · rw [decide_eq_true e]; exact tl_eq e
    · rw [decide_eq_false e]; exact tl_ne e
  clear lc hls hlc hF0 hF1 hM0 hM1 hlt hm h hs hY hW0
  go_enter Tryd.func66, Tryd.ntmps66
  go_wp2_with fail
  refine hS.out.mono ?_
  rintro e w1 ⟨rfl, hw1⟩
  rw [← hw1] at hT hY1 hW1
  clear hw1 hS
  obtain ⟨yl, ⟨y0, y1, y2, y3, y4⟩, yz⟩ := hY1.out
  simp only [Nat.zero_add, acZ] at y0 y1 y2 y3 y4
  have yz0 := yz 0
  have yz1 := yz 1
  have yz2 := yz 2
  have yz3 := yz 3
  have yz4 := yz 4
  clear yz
  obtain ⟨tl, t0, t1, t2, t3⟩ := hT.out
  by_cases hA : ta.data.toList = [65] ∨ ta.data.toList = [68]
  case neg =>
    have hn : Hid (aceI s.data.toList = none) := HAN.out hA
    have a1 : (ta.toList == [65]) = false := tl_ne (fun e => hA (.inl e))
    have a2 : (ta.toList == [68]) = false := tl_ne (fun e => hA (.inr e))
    clear hA eA eD HAN HFN HMN HWN HYS HF HM HWH
    go_wp2
    refine bodyPost_ret (v := .tuple #[.agg #[.bool false, .int .i64 0, .int .i64 0, .int .i64 0, .int .i64 0], .bool false]) (by simp [results, Tryd.results66, go_sem, y0, y1, y2, y3, y4]) rfl (aceEnd_no hn.out ?_)
    repeat (refine bl_setA ?_ (Nat.le_refl _))
    exact hW1.out
  have HYA : Hid (fo = true → mo = true → ∀ wh id : Nat, whoI tc.data.toList = some (wh, id) → aceI s.data.toList = if aceB ⟨decide (ta.data.toList = [65]), wh, id, fv, mv⟩ then some ⟨decide (ta.data.toList = [65]), wh, id, fv, mv⟩ else none) := HYS.out hA
  have hor : (ta.toList == [65]) = true ∨ ((ta.toList == [65]) = false ∧ (ta.toList == [68]) = true) := by
    rcases hA with e | e
    · exact .inl (tl_eq e)
    · refine .inr ⟨tl_ne (fun e2 => by rw [e] at e2; cases e2), tl_eq e⟩
  clear HYS HAN hA eD
  generalize decide (ta.data.toList = [65]) = AL at eA HYA
  rcases hor with a1 | ⟨a1, a2⟩
  · rw [a1] at eA
    subst eA
    go_wp2_with fail
    refine (HF.out _).mono ?_
    rintro e w2 ⟨rfl, hb2⟩
    have hT2 : Hid (Tx4 w2 (w.heap.size + 1) ta tb tc td) := hT.out.below hb2
    have hY2 : Hid (Wr5 w2 w.heap.size acZ) := hY1.out.below hb2
    have hW2 : Hid (Below w.heap.size w w2) := Below.on hW1.out hb2
    clear yl y0 y1 y2 y3 y4 yz0 yz1 yz2 yz3 yz4 tl t0 t1 t2 t3
    clear hb2 hT hY1 hW1
    obtain ⟨yl, ⟨y0, y1, y2, y3, y4⟩, yz⟩ := hY2.out
    simp only [Nat.zero_add, acZ] at y0 y1 y2 y3 y4
    have yz0 := yz 0
    have yz1 := yz 1
    have yz2 := yz 2
    have yz3 := yz 3
    have yz4 := yz 4
    clear yz
    obtain ⟨tl, t0, t1, t2, t3⟩ := hT2.out
    go_wp2_with fail
    refine (HWH.out _).mono ?_
    rintro e w3 ⟨⟨wh, id, wo, rfl, hwo⟩, hb3⟩
    have HWO : Hid _ := hwo
    clear hwo
    have hT3 : Hid (Tx4 w3 (w.heap.size + 1) ta tb tc td) := hT2.out.below hb3
    have hY3 : Hid (Wr5 w3 w.heap.size acZ) := hY2.out.below hb3
    have hW3 : Hid (Below w.heap.size w w3) := Below.on hW2.out hb3
    clear yl y0 y1 y2 y3 y4 yz0 yz1 yz2 yz3 yz4 tl t0 t1 t2 t3
    clear hb3 hT2 hY2 hW2
    obtain ⟨yl, ⟨y0, y1, y2, y3, y4⟩, yz⟩ := hY3.out
    simp only [Nat.zero_add, acZ] at y0 y1 y2 y3 y4
    have yz0 := yz 0
    have yz1 := yz 1
    have yz2 := yz 2
    have yz3 := yz 3
    have yz4 := yz 4
    clear yz
    obtain ⟨tl, t0, t1, t2, t3⟩ := hT3.out
    go_wp2_with fail
    refine (HM.out _).mono ?_
    rintro e w4 ⟨rfl, hb4⟩
    have hT4 : Hid (Tx4 w4 (w.heap.size + 1) ta tb tc td) := hT3.out.below hb4
    have hY4 : Hid (Wr5 w4 w.heap.size acZ) := hY3.out.below hb4
    have hW4 : Hid (Below w.heap.size w w4) := Below.on hW3.out hb4
    clear yl y0 y1 y2 y3 y4 yz0 yz1 yz2 yz3 yz4 tl t0 t1 t2 t3
    clear hb4 hT3 hY3 hW3
    obtain ⟨yl, ⟨y0, y1, y2, y3, y4⟩, yz⟩ := hY4.out
    simp only [Nat.zero_add, acZ] at y0 y1 y2 y3 y4
    have yz0 := yz 0
    have yz1 := yz 1
    have yz2 := yz 2
    have yz3 := yz 3
    have yz4 := yz 4
    clear yz
    obtain ⟨tl, t0, t1, t2, t3⟩ := hT4.out
    clear HF HM HWH
    go_upto_region 8 with fail
    have hF5 : Hid (Five (w4.alloc (.cells #[.bool true, .int .i64 wh, .int .i64 id, .int .i64 fv, .int .i64 mv] 50)) w4.heap.size 0 ⟨true, wh, id, fv, mv⟩) := five_new w4 ⟨true, wh, id, fv, mv⟩ 50
    have hY5 : Hid (Wr5 (w4.alloc (.cells #[.bool true, .int .i64 wh, .int .i64 id, .int .i64 fv, .int .i64 mv] 50)) w.heap.size acZ) := hY4.out.below (bel_alloc _ _)
    have hW5 : Hid (Below w.heap.size w (w4.alloc (.cells #[.bool true, .int .i64 wh, .int .i64 id, .int .i64 fv, .int .i64 mv] 50))) := Below.onA hW4.out
    have hz5 : Hid (w4.heap.size < (w4.alloc (.cells #[.bool true, .int .i64 wh, .int .i64 id, .int .i64 fv, .int .i64 mv] 50)).heap.size) := (show _ < _ by simp)
    clear yl y0 y1 y2 y3 y4 yz0 yz1 yz2 yz3 yz4 tl t0 t1 t2 t3 hY4 hW4 hT4
    generalize w4.alloc (.cells #[.bool true, .int .i64 wh, .int .i64 id, .int .i64 fv, .int .i64 mv] 50) = w5 at hF5 hY5 hW5 hz5 ⊢
    generalize w4.heap.size = B4 at hF5 hz5 ⊢
    obtain ⟨yl, ⟨y0, y1, y2, y3, y4⟩, yz⟩ := hY5.out
    simp only [Nat.zero_add, acZ] at y0 y1 y2 y3 y4
    have yz0 := yz 0
    have yz1 := yz 1
    have yz2 := yz 2
    have yz3 := yz 3
    have yz4 := yz 4
    clear yz
    obtain ⟨c0, c1, c2, c3, c4⟩ := hF5.out
    simp only [Nat.zero_add] at c0 c1 c2 c3 c4
    cases fo
    case false =>
      have hn : Hid (aceI s.data.toList = none) := HFN.out rfl
      clear HFN HMN HWN HYA HWO
      go_wp2
      refine bodyPost_ret (v := .tuple #[.agg #[.bool false, .int .i64 0, .int .i64 0, .int .i64 0, .int .i64 0], .bool false]) (by simp [results, Tryd.results66, go_sem, y0, y1, y2, y3, y4]) rfl (aceEnd_no hn.out ?_)
      repeat (refine bl_setA ?_ (Nat.le_refl _))
      exact hW5.out
    cases wo
    case false =>
      have hn : Hid (aceI s.data.toList = none) := HWN.out HWO.out
      clear HFN HMN HWN HYA HWO
      go_wp2
      refine bodyPost_ret (v := .tuple #[.agg #[.bool false, .int .i64 0, .int .i64 0, .int .i64 0, .int .i64 0], .bool false]) (by simp [results, Tryd.results66, go_sem, y0, y1, y2, y3, y4]) rfl (aceEnd_no hn.out ?_)
      repeat (refine bl_setA ?_ (Nat.le_refl _))
      exact hW5.out
    cases mo
    case false =>
      have hn : Hid (aceI s.data.toList = none) := HMN.out rfl
      clear HFN HMN HWN HYA HWO
      go_wp2
      refine bodyPost_ret (v := .tuple #[.agg #[.bool false, .int .i64 0, .int .i64 0, .int .i64 0, .int .i64 0], .bool false]) (by simp [results, Tryd.results66, go_sem, y0, y1, y2, y3, y4]) rfl (aceEnd_no hn.out ?_)
      repeat (refine bl_setA ?_ (Nat.le_refl _))
      exact hW5.out
    have HYE : Hid (aceI s.data.toList = if aceB ⟨true, wh, id, fv, mv⟩ then some ⟨true, wh, id, fv, mv⟩ else none) := HYA.out rfl rfl wh id HWO.out
    have HAR : Hid (∀ w, Calls Tryd.prog 102 #[.agg #[.bool true, .int .i64 wh, .int .i64 id, .int .i64 fv, .int .i64 mv]] w fun e w' => e = .returned (.bool (aceB ⟨true, wh, id, fv, mv⟩)) ∧ Below w.heap.size w w') := iAceRight_any ⟨true, wh, id, fv, mv⟩
    clear HFN HMN HWN HYA HWO
    generalize aceB ⟨true, wh, id, fv, mv⟩ = ok at HYE HAR
    go_wp2_with fail
    refine (HAR.out _).mono ?_
    rintro e w6 ⟨rfl, hb6⟩
    have hY6 : Hid (Wr5 w6 w.heap.size acZ) := hY5.out.below hb6
    have hF6 : Hid (Five w6 B4 0 ⟨true, wh, id, fv, mv⟩) := hF5.out.below hz5.out hb6
    have hW6 : Hid (Below w.heap.size w w6) := Below.on hW5.out hb6
    clear yl y0 y1 y2 y3 y4 yz0 yz1 yz2 yz3 yz4 c0 c1 c2 c3 c4 hb6 hY5 hF5 hW5
    obtain ⟨yl, ⟨y0, y1, y2, y3, y4⟩, yz⟩ := hY6.out
    simp only [Nat.zero_add, acZ] at y0 y1 y2 y3 y4
    have yz0 := yz 0
    have yz1 := yz 1
    have yz2 := yz 2
    have yz3 := yz 3
    have yz4 := yz 4
    clear yz
    obtain ⟨c0, c1, c2, c3, c4⟩ := hF6.out
    simp only [Nat.zero_add] at c0 c1 c2 c3 c4
    cases ok
    · have hn : Hid (aceI s.data.toList = none) := (by show _ = _; rw [HYE.out]; rfl)
      clear HYE
      go_wp2
      refine bodyPost_ret (v := .tuple #[.agg #[.bool false, .int .i64 0, .int .i64 0, .int .i64 0, .int .i64 0], .bool false]) (by simp [results, Tryd.results66, go_sem, y0, y1, y2, y3, y4]) rfl (aceEnd_no hn.out ?_)
      repeat (refine bl_setA ?_ (Nat.le_refl _))
      exact hW6.out
    · have hn : Hid (aceI s.data.toList = some ⟨true, wh, id, fv, mv⟩) := (by show _ = _; rw [HYE.out]; rfl)
      clear HYE
      go_wp2
      refine bodyPost_ret (v := .tuple #[.agg #[.bool true, .int .i64 wh, .int .i64 id, .int .i64 fv, .int .i64 mv], .bool true]) (by simp [results, Tryd.results66, go_sem, y0, y1, y2, y3, y4]) rfl ⟨?_, .inr ⟨⟨true, wh, id, fv, mv⟩, hn.out, rfl⟩⟩
      repeat (refine bl_setA ?_ (Nat.le_refl _))
      exact hW6.out
  · rw [a1] at eA
    subst eA
    go_wp2_with fail
    refine (HF.out _).mono ?_
    rintro e w2 ⟨rfl, hb2⟩
    have hT2 : Hid (Tx4 w2 (w.heap.size + 1) ta tb tc td) := hT.out.below hb2
    have hY2 : Hid (Wr5 w2 w.heap.size acZ) := hY1.out.below hb2
    have hW2 : Hid (Below w.heap.size w w2) := Below.on hW1.out hb2
    clear yl y0 y1 y2 y3 y4 yz0 yz1 yz2 yz3 yz4 tl t0 t1 t2 t3
    clear hb2 hT hY1 hW1
    obtain ⟨yl, ⟨y0, y1, y2, y3, y4⟩, yz⟩ := hY2.out
    simp only [Nat.zero_add, acZ] at y0 y1 y2 y3 y4
    have yz0 := yz 0
    have yz1 := yz 1
    have yz2 := yz 2
    have yz3 := yz 3
    have yz4 := yz 4
    clear yz
    obtain ⟨tl, t0, t1, t2, t3⟩ := hT2.out
    go_wp2_with fail
    refine (HWH.out _).mono ?_
    rintro e w3 ⟨⟨wh, id, wo, rfl, hwo⟩, hb3⟩
    have HWO : Hid _ := hwo
    clear hwo
    have hT3 : Hid (Tx4 w3 (w.heap.size + 1) ta tb tc td) := hT2.out.below hb3
    have hY3 : Hid (Wr5 w3 w.heap.size acZ) := hY2.out.below hb3
    have hW3 : Hid (Below w.heap.size w w3) := Below.on hW2.out hb3
    clear yl y0 y1 y2 y3 y4 yz0 yz1 yz2 yz3 yz4 tl t0 t1 t2 t3
    clear hb3 hT2 hY2 hW2
    obtain ⟨yl, ⟨y0, y1, y2, y3, y4⟩, yz⟩ := hY3.out
    simp only [Nat.zero_add, acZ] at y0 y1 y2 y3 y4
    have yz0 := yz 0
    have yz1 := yz 1
    have yz2 := yz 2
    have yz3 := yz 3
    have yz4 := yz 4
    clear yz
    obtain ⟨tl, t0, t1, t2, t3⟩ := hT3.out
    go_wp2_with fail
    refine (HM.out _).mono ?_
    rintro e w4 ⟨rfl, hb4⟩
    have hT4 : Hid (Tx4 w4 (w.heap.size + 1) ta tb tc td) := hT3.out.below hb4
    have hY4 : Hid (Wr5 w4 w.heap.size acZ) := hY3.out.below hb4
    have hW4 : Hid (Below w.heap.size w w4) := Below.on hW3.out hb4
    clear yl y0 y1 y2 y3 y4 yz0 yz1 yz2 yz3 yz4 tl t0 t1 t2 t3
    clear hb4 hT3 hY3 hW3
    obtain ⟨yl, ⟨y0, y1, y2, y3, y4⟩, yz⟩ := hY4.out
    simp only [Nat.zero_add, acZ] at y0 y1 y2 y3 y4
    have yz0 := yz 0
    have yz1 := yz 1
    have yz2 := yz 2
    have yz3 := yz 3
    have yz4 := yz 4
    clear yz
    obtain ⟨tl, t0, t1, t2, t3⟩ := hT4.out
    clear HF HM HWH
    go_upto_region 8 with fail
    have hF5 : Hid (Five (w4.alloc (.cells #[.bool false, .int .i64 wh, .int .i64 id, .int .i64 fv, .int .i64 mv] 50)) w4.heap.size 0 ⟨false, wh, id, fv, mv⟩) := five_new w4 ⟨false, wh, id, fv, mv⟩ 50
    have hY5 : Hid (Wr5 (w4.alloc (.cells #[.bool false, .int .i64 wh, .int .i64 id, .int .i64 fv, .int .i64 mv] 50)) w.heap.size acZ) := hY4.out.below (bel_alloc _ _)
    have hW5 : Hid (Below w.heap.size w (w4.alloc (.cells #[.bool false, .int .i64 wh, .int .i64 id, .int .i64 fv, .int .i64 mv] 50))) := Below.onA hW4.out
    have hz5 : Hid (w4.heap.size < (w4.alloc (.cells #[.bool false, .int .i64 wh, .int .i64 id, .int .i64 fv, .int .i64 mv] 50)).heap.size) := (show _ < _ by simp)
    clear yl y0 y1 y2 y3 y4 yz0 yz1 yz2 yz3 yz4 tl t0 t1 t2 t3 hY4 hW4 hT4
    generalize w4.alloc (.cells #[.bool false, .int .i64 wh, .int .i64 id, .int .i64 fv, .int .i64 mv] 50) = w5 at hF5 hY5 hW5 hz5 ⊢
    generalize w4.heap.size = B4 at hF5 hz5 ⊢
    obtain ⟨yl, ⟨y0, y1, y2, y3, y4⟩, yz⟩ := hY5.out
    simp only [Nat.zero_add, acZ] at y0 y1 y2 y3 y4
    have yz0 := yz 0
    have yz1 := yz 1
    have yz2 := yz 2
    have yz3 := yz 3
    have yz4 := yz 4
    clear yz
    obtain ⟨c0, c1, c2, c3, c4⟩ := hF5.out
    simp only [Nat.zero_add] at c0 c1 c2 c3 c4
    cases fo
    case false =>
      have hn : Hid (aceI s.data.toList = none) := HFN.out rfl
      clear HFN HMN HWN HYA HWO
      go_wp2
      refine bodyPost_ret (v := .tuple #[.agg #[.bool false, .int .i64 0, .int .i64 0, .int .i64 0, .int .i64 0], .bool false]) (by simp [results, Tryd.results66, go_sem, y0, y1, y2, y3, y4]) rfl (aceEnd_no hn.out ?_)
      repeat (refine bl_setA ?_ (Nat.le_refl _))
      exact hW5.out
    cases wo
    case false =>
      have hn : Hid (aceI s.data.toList = none) := HWN.out HWO.out
      clear HFN HMN HWN HYA HWO
      go_wp2
      refine bodyPost_ret (v := .tuple #[.agg #[.bool false, .int .i64 0, .int .i64 0, .int .i64 0, .int .i64 0], .bool false]) (by simp [results, Tryd.results66, go_sem, y0, y1, y2, y3, y4]) rfl (aceEnd_no hn.out ?_)
      repeat (refine bl_setA ?_ (Nat.le_refl _))
      exact hW5.out
    cases mo
    case false =>
      have hn : Hid (aceI s.data.toList = none) := HMN.out rfl
      clear HFN HMN HWN HYA HWO
      go_wp2
      refine bodyPost_ret (v := .tuple #[.agg #[.bool false, .int .i64 0, .int .i64 0, .int .i64 0, .int .i64 0], .bool false]) (by simp [results, Tryd.results66, go_sem, y0, y1, y2, y3, y4]) rfl (aceEnd_no hn.out ?_)
      repeat (refine bl_setA ?_ (Nat.le_refl _))
      exact hW5.out
    have HYE : Hid (aceI s.data.toList = if aceB ⟨false, wh, id, fv, mv⟩ then some ⟨false, wh, id, fv, mv⟩ else none) := HYA.out rfl rfl wh id HWO.out
    have HAR : Hid (∀ w, Calls Tryd.prog 102 #[.agg #[.bool false, .int .i64 wh, .int .i64 id, .int .i64 fv, .int .i64 mv]] w fun e w' => e = .returned (.bool (aceB ⟨false, wh, id, fv, mv⟩)) ∧ Below w.heap.size w w') := iAceRight_any ⟨false, wh, id, fv, mv⟩
    clear HFN HMN HWN HYA HWO
    generalize aceB ⟨false, wh, id, fv, mv⟩ = ok at HYE HAR
    go_wp2_with fail
    refine (HAR.out _).mono ?_
    rintro e w6 ⟨rfl, hb6⟩
    have hY6 : Hid (Wr5 w6 w.heap.size acZ) := hY5.out.below hb6
    have hF6 : Hid (Five w6 B4 0 ⟨false, wh, id, fv, mv⟩) := hF5.out.below hz5.out hb6
    have hW6 : Hid (Below w.heap.size w w6) := Below.on hW5.out hb6
    clear yl y0 y1 y2 y3 y4 yz0 yz1 yz2 yz3 yz4 c0 c1 c2 c3 c4 hb6 hY5 hF5 hW5
    obtain ⟨yl, ⟨y0, y1, y2, y3, y4⟩, yz⟩ := hY6.out
    simp only [Nat.zero_add, acZ] at y0 y1 y2 y3 y4
    have yz0 := yz 0
    have yz1 := yz 1
    have yz2 := yz 2
    have yz3 := yz 3
    have yz4 := yz 4
    clear yz
    obtain ⟨c0, c1, c2, c3, c4⟩ := hF6.out
    simp only [Nat.zero_add] at c0 c1 c2 c3 c4
    cases ok
    · have hn : Hid (aceI s.data.toList = none) := (by show _ = _; rw [HYE.out]; rfl)
      clear HYE
      go_wp2
      refine bodyPost_ret (v := .tuple #[.agg #[.bool false, .int .i64 0, .int .i64 0, .int .i64 0, .int .i64 0], .bool false]) (by simp [results, Tryd.results66, go_sem, y0, y1, y2, y3, y4]) rfl (aceEnd_no hn.out ?_)
      repeat (refine bl_setA ?_ (Nat.le_refl _))
      exact hW6.out
    · have hn : Hid (aceI s.data.toList = some ⟨false, wh, id, fv, mv⟩) := (by show _ = _; rw [HYE.out]; rfl)
      clear HYE
      go_wp2
      refine bodyPost_ret (v := .tuple #[.agg #[.bool false, .int .i64 wh, .int .i64 id, .int .i64 fv, .int .i64 mv], .bool true]) (by simp [results, Tryd.results66, go_sem, y0, y1, y2, y3, y4]) rfl ⟨?_, .inr ⟨⟨false, wh, id, fv, mv⟩, hn.out, rfl⟩⟩
      repeat (refine bl_setA ?_ (Nat.le_refl _))
      exact hW6.out
end Go.Proofs.YtgooanaacebncaaDoor
