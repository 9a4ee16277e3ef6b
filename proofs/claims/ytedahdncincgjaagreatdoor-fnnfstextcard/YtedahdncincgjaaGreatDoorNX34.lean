/- Laid together: IReadA, AceRd. -/
import Derived.Test.YtedahdncincgjaaGreatDoorNX33
/- An ace read by the program: impl.readAce. -/
namespace Go.Proofs.YtedahdncincgjaaGreatDoor
open Go.RowKit Go.PlainAid Go.Deep
set_option linter.unusedVariables false
/-- What readAce ends in. -/
def AceEnd (t : List UInt8) (w : World) (e : Ending) (w' : World) : Prop := Below w.heap.size w w' ∧ ((aceI t = none ∧ e = .returned (.tuple #[.agg #[.bool false, .int .i64 0, .int .i64 0, .int .i64 0, .int .i64 0], .bool false])) ∨ ∃ x, aceI t = some x ∧ e = .returned (.tuple #[.agg #[.bool x.al, .int .i64 x.wh, .int .i64 x.id, .int .i64 x.fl, .int .i64 x.ma], .bool true]))
theorem aceEnd_no {t : List UInt8} {w w' : World} (h : aceI t = none) (hb : Below w.heap.size w w') : AceEnd t w (.returned (.tuple #[.agg #[.bool false, .int .i64 0, .int .i64 0, .int .i64 0, .int .i64 0], .bool false])) w' := ⟨hb, .inl ⟨h, rfl⟩⟩
theorem aceI_not {t : List UInt8} (h : (spl 58 t).length ≠ 4) : aceI t = none := by
  unfold aceI
  split
  next e => rw [e] at h; simp at h
  · rfl
theorem aceI_yes {t a b c d : List UInt8} {f wh id m : Nat} (h : spl 58 t = [a, b, c, d]) (ha : a = [65] ∨ a = [68]) (hf : rsI b fdni.data.toList = some f) (hw : whoI c = some (wh, id)) (hm : rsI d rwxs.data.toList = some m) :
    aceI t = if aceB ⟨decide (a = [65]), wh, id, f, m⟩ then some ⟨decide (a = [65]), wh, id, f, m⟩ else none := by simp only [aceI, h, if_pos ha, hf, hw, hm]
theorem aceI_a {t a b c d : List UInt8} (h : spl 58 t = [a, b, c, d]) (ha : ¬ (a = [65] ∨ a = [68])) : aceI t = none := by simp only [aceI, h, if_neg ha]
theorem aceI_f {t a b c d : List UInt8} (h : spl 58 t = [a, b, c, d]) (hf : rsI b fdni.data.toList = none) : aceI t = none := by simp [aceI, h, hf]
theorem aceI_w {t a b c d : List UInt8} (h : spl 58 t = [a, b, c, d]) (hf : whoI c = none) : aceI t = none := by simp [aceI, h, hf]
theorem aceI_m {t a b c d : List UInt8} (h : spl 58 t = [a, b, c, d]) (hf : rsI d rwxs.data.toList = none) : aceI t = none := by simp [aceI, h, hf]
theorem rsI_eq (t : ByteArray) (S : ByteArray) : rsI t.data.toList S.data.toList = if (rsTo t.data.toList S.data.toList S.size).2 = t.size then some (rsTo t.data.toList S.data.toList S.size).1 else none := by
  have h1 : S.data.toList.length = S.size := (Lib.size_eq S).symm
  have h2 : t.data.toList.length = t.size := (Lib.size_eq t).symm
  rw [rsI, h1, h2]
/-- The library's cut of a text at a byte. -/
theorem split_at (c : UInt8) (s : ByteArray) (m : Int) (hs : s.size ≤ 8000) (w : World) (hm : w.cell? ⟨0, 0, none⟩ = some (.int .i64 m)) :
    Calls Tryz.prog 60 #[.string s, .string ⟨#[c]⟩] w fun e w' => e = .returned (.slice (some ⟨w.heap.size, 0, none⟩) (spl c s.data.toList).length (spl c s.data.toList).length) ∧ w' = w.alloc (.cells ((bts (spl c s.data.toList)).map Value.string).toArray 9) := by
  obtain ⟨hsp, hct⟩ := splitB_spl c s.size s (Nat.le_refl _)
  have h := Tryz.strings_Split s ⟨#[c]⟩ m w (by omega) hm (by show 1 ≤ 1; omega)
  rw [hsp, hct] at h
  exact h
theorem cells_at4 (w : World) (l : List ByteArray) (t : TypeId) {k : Nat} {x : ByteArray} (h : l[k]? = some x) : (w.alloc (.cells (l.map Value.string).toArray t)).cell? ⟨w.heap.size, k, none⟩ = some (.string x) := by
  have hb : (w.alloc (.cells (l.map Value.string).toArray t)).heap[w.heap.size]? = some (.cells (l.map Value.string).toArray t) := by
    rw [World.alloc]
    exact Array.getElem?_push_size
  simp only [World.cell?, hb]
  simp [h]
set_option maxRecDepth 100000 in
set_option maxHeartbeats 2000000 in
/-- impl.readAce of a text that is not of four pieces. -/
theorem iReadA_not (s : ByteArray) (m : Int) (hs : s.size ≤ 8000) (h4 : (spl 58 s.data.toList).length ≠ 4) (w : World) (hm : w.cell? ⟨0, 0, none⟩ = some (.int .i64 m)) :
    Calls Tryz.prog 33 #[.string s] w (AceEnd s.data.toList w) := by
  have hn : Hid (aceI s.data.toList = none) := aceI_not h4
  have hlt := block_lt_of_cell hm
  have hY : Hid (Wr5 (w.alloc (.cells #[.bool false, .int .i64 0, .int .i64 0, .int .i64 0, .int .i64 0] 24)) w.heap.size acZ) := wr5_new w acZ _
  have hW0 : Hid (Below w.heap.size w (w.alloc (.cells #[.bool false, .int .i64 0, .int .i64 0, .int .i64 0, .int .i64 0] 24))) := bel_alloc _ _
  have hS : Hid (Calls Tryz.prog 60 #[.string s, .string ⟨#[58]⟩] (w.alloc (.cells #[.bool false, .int .i64 0, .int .i64 0, .int .i64 0, .int .i64 0] 24)) fun e w' => e = .returned (.slice (some ⟨(w.alloc (.cells #[.bool false, .int .i64 0, .int .i64 0, .int .i64 0, .int .i64 0] 24)).heap.size, 0, none⟩) (spl 58 s.data.toList).length (spl 58 s.data.toList).length) ∧ w' = (w.alloc (.cells #[.bool false, .int .i64 0, .int .i64 0, .int .i64 0, .int .i64 0] 24)).alloc (.cells ((bts (spl 58 s.data.toList)).map Value.string).toArray 9)) := split_at 58 s m hs _ ((hW0.out.cell (p := ⟨_, 0, none⟩) hlt).trans hm)
  have hne : (((spl 58 s.data.toList).length : Int) != 4) = true := by rw [bne_iff_ne]; omega
  clear hlt hm h4
  go_enter Tryz.func33, Tryz.ntmps33
  go_wp2_with fail
  refine hS.out.mono ?_
  rintro e w1 ⟨rfl, rfl⟩
  have hY1 := hY.out.below (bel_alloc _ (.cells ((bts (spl 58 s.data.toList)).map Value.string).toArray 9))
  have hW1 : Hid (Below w.heap.size w ((w.alloc (.cells #[.bool false, .int .i64 0, .int .i64 0, .int .i64 0, .int .i64 0] 24)).alloc (.cells ((bts (spl 58 s.data.toList)).map Value.string).toArray 9))) := Below.on hW0.out (bel_alloc _ _)
  have HY1 : Hid _ := hY1
  generalize (w.alloc (.cells #[.bool false, .int .i64 0, .int .i64 0, .int .i64 0, .int .i64 0] 24)).alloc (.cells ((bts (spl 58 s.data.toList)).map Value.string).toArray 9) = w1 at HY1 hW1 ⊢
  generalize (spl 58 s.data.toList).length = n at hne ⊢
  clear hY1 hS hY hW0
  obtain ⟨yl, ⟨y0, y1, y2, y3, y4⟩, yz⟩ := HY1.out
  simp only [Nat.zero_add] at y0 y1 y2 y3 y4
  have yz0 := yz 0
  have yz1 := yz 1
  have yz2 := yz 2
  have yz3 := yz 3
  have yz4 := yz 4
  clear yz
  go_wp2
  refine bodyPost_ret (v := .tuple #[.agg #[.bool false, .int .i64 0, .int .i64 0, .int .i64 0, .int .i64 0], .bool false]) (by simp [results, Tryz.results33, go_sem, y0, y1, y2, y3, y4]) rfl (aceEnd_no hn.out ?_)
  repeat (refine bl_setA ?_ (Nat.le_refl _))
  exact hW1.out
theorem rdsg_ex (t S : ByteArray) (hS : S.size ≤ 8) : ∃ (v : Nat) (ok : Bool), (∀ w, Calls Tryz.prog 61 #[.string t, .string S] w fun e w' => e = .returned (.tuple #[.int .i64 v, .bool ok]) ∧ Below w.heap.size w w') ∧ rsI t.data.toList S.data.toList = if ok then some v else none := by
  refine ⟨_, _, iRdSg_any t S hS, ?_⟩
  rw [rsI_eq]
  simp
theorem four_cells (w : World) (ta tb tc td : ByteArray) (t : TypeId) : Tx4 (w.alloc (.cells ([ta, tb, tc, td].map Value.string).toArray t)) w.heap.size ta tb tc td :=
  ⟨by simp, cells_at4 w [ta, tb, tc, td] t rfl, cells_at4 w [ta, tb, tc, td] t rfl, cells_at4 w [ta, tb, tc, td] t rfl, cells_at4 w [ta, tb, tc, td] t rfl⟩
set_option maxRecDepth 100000 in
set_option maxHeartbeats 4000000 in
/-- impl.readAce of four pieces. -/
theorem iReadA_four (s ta tb tc td : ByteArray) (m : Int) (hs : s.size ≤ 8000) (h : spl 58 s.data.toList = [ta.data.toList, tb.data.toList, tc.data.toList, td.data.toList]) (w : World) (hm : w.cell? ⟨0, 0, none⟩ = some (.int .i64 m)) :
    Calls Tryz.prog 33 #[.string s] w (AceEnd s.data.toList w) := by
  have hlt := block_lt_of_cell hm
  obtain ⟨_, _, lc, _⟩ := piece_len h
  have hls : s.data.toList.length = s.size := (Lib.size_eq s).symm
  have hlc : tc.data.toList.length = tc.size := (Lib.size_eq tc).symm
  obtain ⟨fv, fo, hF0, hF1⟩ := rdsg_ex tb fdni (by decide)
  obtain ⟨mv, mo, hM0, hM1⟩ := rdsg_ex td rwxs (by decide)
  have HF : Hid (∀ w, Calls Tryz.prog 61 #[.string tb, .string ⟨#[102, 100, 110, 105]⟩] w fun e w' => e = .returned (.tuple #[.int .i64 fv, .bool fo]) ∧ Below w.heap.size w w') := hF0
  have HM : Hid (∀ w, Calls Tryz.prog 61 #[.string td, .string ⟨#[114, 119, 120, 97, 100, 99, 67, 111]⟩] w fun e w' => e = .returned (.tuple #[.int .i64 mv, .bool mo]) ∧ Below w.heap.size w w') := hM0
  have HWH : Hid (∀ w, Calls Tryz.prog 62 #[.string tc] w (WhoEnd tc.data.toList w)) := (fun w => iRdWho_any tc (by omega) w)
  have HAN : Hid (¬ (ta.data.toList = [65] ∨ ta.data.toList = [68]) → aceI s.data.toList = none) := aceI_a h
  have HFN : Hid (fo = false → aceI s.data.toList = none) := (fun e => aceI_f h (by rw [hF1, e]; rfl))
  have HMN : Hid (mo = false → aceI s.data.toList = none) := (fun e => aceI_m h (by rw [hM1, e]; rfl))
  have HWN : Hid (whoI tc.data.toList = none → aceI s.data.toList = none) := aceI_w h
  have HYS : Hid ((ta.data.toList = [65] ∨ ta.data.toList = [68]) → fo = true → mo = true → ∀ wh id : Nat, whoI tc.data.toList = some (wh, id) → aceI s.data.toList = if aceB ⟨decide (ta.data.toList = [65]), wh, id, fv, mv⟩ then some ⟨decide (ta.data.toList = [65]), wh, id, fv, mv⟩ else none) := (fun ha ef em wh id hw => aceI_yes h ha (by rw [hF1, ef]; rfl) hw (by rw [hM1, em]; rfl))
  have hY : Hid (Wr5 (w.alloc (.cells #[.bool false, .int .i64 0, .int .i64 0, .int .i64 0, .int .i64 0] 24)) w.heap.size acZ) := wr5_new w acZ _
  have hW0 : Hid (Below w.heap.size w (w.alloc (.cells #[.bool false, .int .i64 0, .int .i64 0, .int .i64 0, .int .i64 0] 24))) := bel_alloc _ _
  have hS : Hid (Calls Tryz.prog 60 #[.string s, .string ⟨#[58]⟩] (w.alloc (.cells #[.bool false, .int .i64 0, .int .i64 0, .int .i64 0, .int .i64 0] 24)) fun e w' => e = .returned (.slice (some ⟨w.heap.size + 1, 0, none⟩) 4 4) ∧ w' = (w.alloc (.cells #[.bool false, .int .i64 0, .int .i64 0, .int .i64 0, .int .i64 0] 24)).alloc (.cells ([ta, tb, tc, td].map Value.string).toArray 9)) := (by
    have h1 := split_at 58 s m hs _ ((hW0.out.cell (p := ⟨_, 0, none⟩) hlt).trans hm)
    have e : bts (spl 58 s.data.toList) = [ta, tb, tc, td] := by
      rw [h]
      simp [bts]
    rw [e, h] at h1
    show Calls _ _ _ _ _
    simpa using h1)
  have hT : Hid (Tx4 ((w.alloc (.cells #[.bool false, .int .i64 0, .int .i64 0, .int .i64 0, .int .i64 0] 24)).alloc (.cells ([ta, tb, tc, td].map Value.string).toArray 9)) (w.heap.size + 1) ta tb tc td) := (by
    have := four_cells (w.alloc (.cells #[.bool false, .int .i64 0, .int .i64 0, .int .i64 0, .int .i64 0] 24)) ta tb tc td 9
    show Tx4 _ _ _ _ _ _
    simpa using this)
  have hY1 : Hid (Wr5 ((w.alloc (.cells #[.bool false, .int .i64 0, .int .i64 0, .int .i64 0, .int .i64 0] 24)).alloc (.cells ([ta, tb, tc, td].map Value.string).toArray 9)) w.heap.size acZ) := hY.out.below (bel_alloc _ _)
  have hW1 : Hid (Below w.heap.size w ((w.alloc (.cells #[.bool false, .int .i64 0, .int .i64 0, .int .i64 0, .int .i64 0] 24)).alloc (.cells ([ta, tb, tc, td].map Value.string).toArray 9))) := Below.on hW0.out (bel_alloc _ _)
  have eA : (ta.toList == [65]) = decide (ta.data.toList = [65]) := by
    by_cases e : ta.data.toList = [65]
    · rw [decide_eq_true e]; exact tl_eq e
    · rw [decide_eq_false e]; exact tl_ne e
  have eD : (ta.toList == [68]) = decide (ta.data.toList = [68]) := by
    by_cases e : ta.data.toList = [68]
    · rw [decide_eq_true e]; exact tl_eq e
    · rw [decide_eq_false e]; exact tl_ne e
  clear lc hls hlc hF0 hF1 hM0 hM1 hlt hm h hs hY hW0
  go_enter Tryz.func33, Tryz.ntmps33
  go_wp2_with fail
  refine hS.out.mono ?_
  rintro e w1 ⟨rfl, hw1⟩
  rw [← hw1] at hT hY1 hW1
  clear hw1 hS
  obtain ⟨yl, ⟨y0, y1, y2, y3, y4⟩, yz⟩ := hY1.out
  simp only [Nat.zero_add, acZ] at y0 y1 y2 y3 y4
  have yz0 := yz 0
  have yz1 := yz 1
  have yz2 := yz 2
  have yz3 := yz 3
  have yz4 := yz 4
  clear yz
  obtain ⟨tl, t0, t1, t2, t3⟩ := hT.out
  by_cases hA : ta.data.toList = [65] ∨ ta.data.toList = [68]
  case neg =>
    have hn : Hid (aceI s.data.toList = none) := HAN.out hA
    have a1 : (ta.toList == [65]) = false := tl_ne (fun e => hA (.inl e))
    have a2 : (ta.toList == [68]) = false := tl_ne (fun e => hA (.inr e))
    clear hA eA eD HAN HFN HMN HWN HYS HF HM HWH
    go_wp2
    refine bodyPost_ret (v := .tuple #[.agg #[.bool false, .int .i64 0, .int .i64 0, .int .i64 0, .int .i64 0], .bool false]) (by simp [results, Tryz.results33, go_sem, y0, y1, y2, y3, y4]) rfl (aceEnd_no hn.out ?_)
    repeat (refine bl_setA ?_ (Nat.le_refl _))
    exact hW1.out
  have HYA : Hid (fo = true → mo = true → ∀ wh id : Nat, whoI tc.data.toList = some (wh, id) → aceI s.data.toList = if aceB ⟨decide (ta.data.toList = [65]), wh, id, fv, mv⟩ then some ⟨decide (ta.data.toList = [65]), wh, id, fv, mv⟩ else none) := HYS.out hA
  have hor : (ta.toList == [65]) = true ∨ ((ta.toList == [65]) = false ∧ (ta.toList == [68]) = true) := by
    rcases hA with e | e
    · exact .inl (tl_eq e)
    · refine .inr ⟨tl_ne (fun e2 => by rw [e] at e2; cases e2), tl_eq e⟩
  clear HYS HAN hA eD
  generalize decide (ta.data.toList = [65]) = AL at eA HYA
  rcases hor with a1 | ⟨a1, a2⟩
  · rw [a1] at eA
    subst eA
    go_wp2_with fail
    refine (HF.out _).mono ?_
    rintro e w2 ⟨rfl, hb2⟩
    have hT2 : Hid (Tx4 w2 (w.heap.size + 1) ta tb tc td) := hT.out.below hb2
    have hY2 : Hid (Wr5 w2 w.heap.size acZ) := hY1.out.below hb2
    have hW2 : Hid (Below w.heap.size w w2) := Below.on hW1.out hb2
    clear yl y0 y1 y2 y3 y4 yz0 yz1 yz2 yz3 yz4 tl t0 t1 t2 t3
    clear hb2 hT hY1 hW1
    obtain ⟨yl, ⟨y0, y1, y2, y3, y4⟩, yz⟩ := hY2.out
    simp only [Nat.zero_add, acZ] at y0 y1 y2 y3 y4
    have yz0 := yz 0
    have yz1 := yz 1
    have yz2 := yz 2
    have yz3 := yz 3
    have yz4 := yz 4
    clear yz
    obtain ⟨tl, t0, t1, t2, t3⟩ := hT2.out
    go_wp2_with fail
    refine (HWH.out _).mono ?_
    rintro e w3 ⟨⟨wh, id, wo, rfl, hwo⟩, hb3⟩
    have HWO : Hid _ := hwo
    clear hwo
    have hT3 : Hid (Tx4 w3 (w.heap.size + 1) ta tb tc td) := hT2.out.below hb3
    have hY3 : Hid (Wr5 w3 w.heap.size acZ) := hY2.out.below hb3
    have hW3 : Hid (Below w.heap.size w w3) := Below.on hW2.out hb3
    clear yl y0 y1 y2 y3 y4 yz0 yz1 yz2 yz3 yz4 tl t0 t1 t2 t3
    clear hb3 hT2 hY2 hW2
    obtain ⟨yl, ⟨y0, y1, y2, y3, y4⟩, yz⟩ := hY3.out
    simp only [Nat.zero_add, acZ] at y0 y1 y2 y3 y4
    have yz0 := yz 0
    have yz1 := yz 1
    have yz2 := yz 2
    have yz3 := yz 3
    have yz4 := yz 4
    clear yz
    obtain ⟨tl, t0, t1, t2, t3⟩ := hT3.out
    go_wp2_with fail
    refine (HM.out _).mono ?_
    rintro e w4 ⟨rfl, hb4⟩
    have hT4 : Hid (Tx4 w4 (w.heap.size + 1) ta tb tc td) := hT3.out.below hb4
    have hY4 : Hid (Wr5 w4 w.heap.size acZ) := hY3.out.below hb4
    have hW4 : Hid (Below w.heap.size w w4) := Below.on hW3.out hb4
    clear yl y0 y1 y2 y3 y4 yz0 yz1 yz2 yz3 yz4 tl t0 t1 t2 t3
    clear hb4 hT3 hY3 hW3
    obtain ⟨yl, ⟨y0, y1, y2, y3, y4⟩, yz⟩ := hY4.out
    simp only [Nat.zero_add, acZ] at y0 y1 y2 y3 y4
    have yz0 := yz 0
    have yz1 := yz 1
    have yz2 := yz 2
    have yz3 := yz 3
    have yz4 := yz 4
    clear yz
    obtain ⟨tl, t0, t1, t2, t3⟩ := hT4.out
    clear HF HM HWH
    go_upto_region 8 with fail
    have hF5 : Hid (Five (w4.alloc (.cells #[.bool true, .int .i64 wh, .int .i64 id, .int .i64 fv, .int .i64 mv] 24)) w4.heap.size 0 ⟨true, wh, id, fv, mv⟩) := five_new w4 ⟨true, wh, id, fv, mv⟩ 24
    have hY5 : Hid (Wr5 (w4.alloc (.cells #[.bool true, .int .i64 wh, .int .i64 id, .int .i64 fv, .int .i64 mv] 24)) w.heap.size acZ) := hY4.out.below (bel_alloc _ _)
    have hW5 : Hid (Below w.heap.size w (w4.alloc (.cells #[.bool true, .int .i64 wh, .int .i64 id, .int .i64 fv, .int .i64 mv] 24))) := Below.onA hW4.out
    have hz5 : Hid (w4.heap.size < (w4.alloc (.cells #[.bool true, .int .i64 wh, .int .i64 id, .int .i64 fv, .int .i64 mv] 24)).heap.size) := (show _ < _ by simp)
    clear yl y0 y1 y2 y3 y4 yz0 yz1 yz2 yz3 yz4 tl t0 t1 t2 t3 hY4 hW4 hT4
    generalize w4.alloc (.cells #[.bool true, .int .i64 wh, .int .i64 id, .int .i64 fv, .int .i64 mv] 24) = w5 at hF5 hY5 hW5 hz5 ⊢
    generalize w4.heap.size = B4 at hF5 hz5 ⊢
    obtain ⟨yl, ⟨y0, y1, y2, y3, y4⟩, yz⟩ := hY5.out
    simp only [Nat.zero_add, acZ] at y0 y1 y2 y3 y4
    have yz0 := yz 0
    have yz1 := yz 1
    have yz2 := yz 2
    have yz3 := yz 3
    have yz4 := yz 4
    clear yz
    obtain ⟨c0, c1, c2, c3, c4⟩ := hF5.out
    simp only [Nat.zero_add] at c0 c1 c2 c3 c4
    cases fo
    case false =>
      have hn : Hid (aceI s.data.toList = none) := HFN.out rfl
      clear HFN HMN HWN HYA HWO
      go_wp2
      refine bodyPost_ret (v := .tuple #[.agg #[.bool false, .int .i64 0, .int .i64 0, .int .i64 0, .int .i64 0], .bool false]) (by simp [results, Tryz.results33, go_sem, y0, y1, y2, y3, y4]) rfl (aceEnd_no hn.out ?_)
      repeat (refine bl_setA ?_ (Nat.le_refl _))
      exact hW5.out
    cases wo
    case false =>
      have hn : Hid (aceI s.data.toList = none) := HWN.out HWO.out
      clear HFN HMN HWN HYA HWO
      go_wp2
      refine bodyPost_ret (v := .tuple #[.agg #[.bool false, .int .i64 0, .int .i64 0, .int .i64 0, .int .i64 0], .bool false]) (by simp [results, Tryz.results33, go_sem, y0, y1, y2, y3, y4]) rfl (aceEnd_no hn.out ?_)
      repeat (refine bl_setA ?_ (Nat.le_refl _))
      exact hW5.out
    cases mo
    case false =>
      have hn : Hid (aceI s.data.toList = none) := HMN.out rfl
      clear HFN HMN HWN HYA HWO
      go_wp2
      refine bodyPost_ret (v := .tuple #[.agg #[.bool false, .int .i64 0, .int .i64 0, .int .i64 0, .int .i64 0], .bool false]) (by simp [results, Tryz.results33, go_sem, y0, y1, y2, y3, y4]) rfl (aceEnd_no hn.out ?_)
      repeat (refine bl_setA ?_ (Nat.le_refl _))
      exact hW5.out
    have HYE : Hid (aceI s.data.toList = if aceB ⟨true, wh, id, fv, mv⟩ then some ⟨true, wh, id, fv, mv⟩ else none) := HYA.out rfl rfl wh id HWO.out
    have HAR : Hid (∀ w, Calls Tryz.prog 26 #[.agg #[.bool true, .int .i64 wh, .int .i64 id, .int .i64 fv, .int .i64 mv]] w fun e w' => e = .returned (.bool (aceB ⟨true, wh, id, fv, mv⟩)) ∧ Below w.heap.size w w') := iAceRight_any ⟨true, wh, id, fv, mv⟩
    clear HFN HMN HWN HYA HWO
    generalize aceB ⟨true, wh, id, fv, mv⟩ = ok at HYE HAR
    go_wp2_with fail
    refine (HAR.out _).mono ?_
    rintro e w6 ⟨rfl, hb6⟩
    have hY6 : Hid (Wr5 w6 w.heap.size acZ) := hY5.out.below hb6
    have hF6 : Hid (Five w6 B4 0 ⟨true, wh, id, fv, mv⟩) := hF5.out.below hz5.out hb6
    have hW6 : Hid (Below w.heap.size w w6) := Below.on hW5.out hb6
    clear yl y0 y1 y2 y3 y4 yz0 yz1 yz2 yz3 yz4 c0 c1 c2 c3 c4 hb6 hY5 hF5 hW5
    obtain ⟨yl, ⟨y0, y1, y2, y3, y4⟩, yz⟩ := hY6.out
    simp only [Nat.zero_add, acZ] at y0 y1 y2 y3 y4
    have yz0 := yz 0
    have yz1 := yz 1
    have yz2 := yz 2
    have yz3 := yz 3
    have yz4 := yz 4
    clear yz
    obtain ⟨c0, c1, c2, c3, c4⟩ := hF6.out
    simp only [Nat.zero_add] at c0 c1 c2 c3 c4
    cases ok
    · have hn : Hid (aceI s.data.toList = none) := (by show _ = _; rw [HYE.out]; rfl)
      clear HYE
      go_wp2
      refine bodyPost_ret (v := .tuple #[.agg #[.bool false, .int .i64 0, .int .i64 0, .int .i64 0, .int .i64 0], .bool false]) (by simp [results, Tryz.results33, go_sem, y0, y1, y2, y3, y4]) rfl (aceEnd_no hn.out ?_)
      repeat (refine bl_setA ?_ (Nat.le_refl _))
      exact hW6.out
    · have hn : Hid (aceI s.data.toList = some ⟨true, wh, id, fv, mv⟩) := (by show _ = _; rw [HYE.out]; rfl)
      clear HYE
      go_wp2
      refine bodyPost_ret (v := .tuple #[.agg #[.bool true, .int .i64 wh, .int .i64 id, .int .i64 fv, .int .i64 mv], .bool true]) (by simp [results, Tryz.results33, go_sem, y0, y1, y2, y3, y4]) rfl ⟨?_, .inr ⟨⟨true, wh, id, fv, mv⟩, hn.out, rfl⟩⟩
      repeat (refine bl_setA ?_ (Nat.le_refl _))
      exact hW6.out
  · rw [a1] at eA
    subst eA
    go_wp2_with fail
    refine (HF.out _).mono ?_
    rintro e w2 ⟨rfl, hb2⟩
    have hT2 : Hid (Tx4 w2 (w.heap.size + 1) ta tb tc td) := hT.out.below hb2
    have hY2 : Hid (Wr5 w2 w.heap.size acZ) := hY1.out.below hb2
    have hW2 : Hid (Below w.heap.size w w2) := Below.on hW1.out hb2
    clear yl y0 y1 y2 y3 y4 yz0 yz1 yz2 yz3 yz4 tl t0 t1 t2 t3
    clear hb2 hT hY1 hW1
    obtain ⟨yl, ⟨y0, y1, y2, y3, y4⟩, yz⟩ := hY2.out
    simp only [Nat.zero_add, acZ] at y0 y1 y2 y3 y4
    have yz0 := yz 0
    have yz1 := yz 1
    have yz2 := yz 2
    have yz3 := yz 3
    have yz4 := yz 4
    clear yz
    obtain ⟨tl, t0, t1, t2, t3⟩ := hT2.out
    go_wp2_with fail
    refine (HWH.out _).mono ?_
    rintro e w3 ⟨⟨wh, id, wo, rfl, hwo⟩, hb3⟩
    have HWO : Hid _ := hwo
    clear hwo
    have hT3 : Hid (Tx4 w3 (w.heap.size + 1) ta tb tc td) := hT2.out.below hb3
    have hY3 : Hid (Wr5 w3 w.heap.size acZ) := hY2.out.below hb3
    have hW3 : Hid (Below w.heap.size w w3) := Below.on hW2.out hb3
    clear yl y0 y1 y2 y3 y4 yz0 yz1 yz2 yz3 yz4 tl t0 t1 t2 t3
    clear hb3 hT2 hY2 hW2
    obtain ⟨yl, ⟨y0, y1, y2, y3, y4⟩, yz⟩ := hY3.out
    simp only [Nat.zero_add, acZ] at y0 y1 y2 y3 y4
    have yz0 := yz 0
    have yz1 := yz 1
    have yz2 := yz 2
    have yz3 := yz 3
    have yz4 := yz 4
    clear yz
    obtain ⟨tl, t0, t1, t2, t3⟩ := hT3.out
    go_wp2_with fail
    refine (HM.out _).mono ?_
    rintro e w4 ⟨rfl, hb4⟩
    have hT4 : Hid (Tx4 w4 (w.heap.size + 1) ta tb tc td) := hT3.out.below hb4
    have hY4 : Hid (Wr5 w4 w.heap.size acZ) := hY3.out.below hb4
    have hW4 : Hid (Below w.heap.size w w4) := Below.on hW3.out hb4
    clear yl y0 y1 y2 y3 y4 yz0 yz1 yz2 yz3 yz4 tl t0 t1 t2 t3
    clear hb4 hT3 hY3 hW3
    obtain ⟨yl, ⟨y0, y1, y2, y3, y4⟩, yz⟩ := hY4.out
    simp only [Nat.zero_add, acZ] at y0 y1 y2 y3 y4
    have yz0 := yz 0
    have yz1 := yz 1
    have yz2 := yz 2
    have yz3 := yz 3
    have yz4 := yz 4
    clear yz
    obtain ⟨tl, t0, t1, t2, t3⟩ := hT4.out
    clear HF HM HWH
    go_upto_region 8 with fail
    have hF5 : Hid (Five (w4.alloc (.cells #[.bool false, .int .i64 wh, .int .i64 id, .int .i64 fv, .int .i64 mv] 24)) w4.heap.size 0 ⟨false, wh, id, fv, mv⟩) := five_new w4 ⟨false, wh, id, fv, mv⟩ 24
    have hY5 : Hid (Wr5 (w4.alloc (.cells #[.bool false, .int .i64 wh, .int .i64 id, .int .i64 fv, .int .i64 mv] 24)) w.heap.size acZ) := hY4.out.below (bel_alloc _ _)
    have hW5 : Hid (Below w.heap.size w (w4.alloc (.cells #[.bool false, .int .i64 wh, .int .i64 id, .int .i64 fv, .int .i64 mv] 24))) := Below.onA hW4.out
    have hz5 : Hid (w4.heap.size < (w4.alloc (.cells #[.bool false, .int .i64 wh, .int .i64 id, .int .i64 fv, .int .i64 mv] 24)).heap.size) := (show _ < _ by simp)
    clear yl y0 y1 y2 y3 y4 yz0 yz1 yz2 yz3 yz4 tl t0 t1 t2 t3 hY4 hW4 hT4
    generalize w4.alloc (.cells #[.bool false, .int .i64 wh, .int .i64 id, .int .i64 fv, .int .i64 mv] 24) = w5 at hF5 hY5 hW5 hz5 ⊢
    generalize w4.heap.size = B4 at hF5 hz5 ⊢
    obtain ⟨yl, ⟨y0, y1, y2, y3, y4⟩, yz⟩ := hY5.out
    simp only [Nat.zero_add, acZ] at y0 y1 y2 y3 y4
    have yz0 := yz 0
    have yz1 := yz 1
    have yz2 := yz 2
    have yz3 := yz 3
    have yz4 := yz 4
    clear yz
    obtain ⟨c0, c1, c2, c3, c4⟩ := hF5.out
    simp only [Nat.zero_add] at c0 c1 c2 c3 c4
    cases fo
    case false =>
      have hn : Hid (aceI s.data.toList = none) := HFN.out rfl
      clear HFN HMN HWN HYA HWO
      go_wp2
      refine bodyPost_ret (v := .tuple #[.agg #[.bool false, .int .i64 0, .int .i64 0, .int .i64 0, .int .i64 0], .bool false]) (by simp [results, Tryz.results33, go_sem, y0, y1, y2, y3, y4]) rfl (aceEnd_no hn.out ?_)
      repeat (refine bl_setA ?_ (Nat.le_refl _))
      exact hW5.out
    cases wo
    case false =>
      have hn : Hid (aceI s.data.toList = none) := HWN.out HWO.out
      clear HFN HMN HWN HYA HWO
      go_wp2
      refine bodyPost_ret (v := .tuple #[.agg #[.bool false, .int .i64 0, .int .i64 0, .int .i64 0, .int .i64 0], .bool false]) (by simp [results, Tryz.results33, go_sem, y0, y1, y2, y3, y4]) rfl (aceEnd_no hn.out ?_)
      repeat (refine bl_setA ?_ (Nat.le_refl _))
      exact hW5.out
    cases mo
    case false =>
      have hn : Hid (aceI s.data.toList = none) := HMN.out rfl
      clear HFN HMN HWN HYA HWO
      go_wp2
      refine bodyPost_ret (v := .tuple #[.agg #[.bool false, .int .i64 0, .int .i64 0, .int .i64 0, .int .i64 0], .bool false]) (by simp [results, Tryz.results33, go_sem, y0, y1, y2, y3, y4]) rfl (aceEnd_no hn.out ?_)
      repeat (refine bl_setA ?_ (Nat.le_refl _))
      exact hW5.out
    have HYE : Hid (aceI s.data.toList = if aceB ⟨false, wh, id, fv, mv⟩ then some ⟨false, wh, id, fv, mv⟩ else none) := HYA.out rfl rfl wh id HWO.out
    have HAR : Hid (∀ w, Calls Tryz.prog 26 #[.agg #[.bool false, .int .i64 wh, .int .i64 id, .int .i64 fv, .int .i64 mv]] w fun e w' => e = .returned (.bool (aceB ⟨false, wh, id, fv, mv⟩)) ∧ Below w.heap.size w w') := iAceRight_any ⟨false, wh, id, fv, mv⟩
    clear HFN HMN HWN HYA HWO
    generalize aceB ⟨false, wh, id, fv, mv⟩ = ok at HYE HAR
    go_wp2_with fail
    refine (HAR.out _).mono ?_
    rintro e w6 ⟨rfl, hb6⟩
    have hY6 : Hid (Wr5 w6 w.heap.size acZ) := hY5.out.below hb6
    have hF6 : Hid (Five w6 B4 0 ⟨false, wh, id, fv, mv⟩) := hF5.out.below hz5.out hb6
    have hW6 : Hid (Below w.heap.size w w6) := Below.on hW5.out hb6
    clear yl y0 y1 y2 y3 y4 yz0 yz1 yz2 yz3 yz4 c0 c1 c2 c3 c4 hb6 hY5 hF5 hW5
    obtain ⟨yl, ⟨y0, y1, y2, y3, y4⟩, yz⟩ := hY6.out
    simp only [Nat.zero_add, acZ] at y0 y1 y2 y3 y4
    have yz0 := yz 0
    have yz1 := yz 1
    have yz2 := yz 2
    have yz3 := yz 3
    have yz4 := yz 4
    clear yz
    obtain ⟨c0, c1, c2, c3, c4⟩ := hF6.out
    simp only [Nat.zero_add] at c0 c1 c2 c3 c4
    cases ok
    · have hn : Hid (aceI s.data.toList = none) := (by show _ = _; rw [HYE.out]; rfl)
      clear HYE
      go_wp2
      refine bodyPost_ret (v := .tuple #[.agg #[.bool false, .int .i64 0, .int .i64 0, .int .i64 0, .int .i64 0], .bool false]) (by simp [results, Tryz.results33, go_sem, y0, y1, y2, y3, y4]) rfl (aceEnd_no hn.out ?_)
      repeat (refine bl_setA ?_ (Nat.le_refl _))
      exact hW6.out
    · have hn : Hid (aceI s.data.toList = some ⟨false, wh, id, fv, mv⟩) := (by show _ = _; rw [HYE.out]; rfl)
      clear HYE
      go_wp2
      refine bodyPost_ret (v := .tuple #[.agg #[.bool false, .int .i64 wh, .int .i64 id, .int .i64 fv, .int .i64 mv], .bool true]) (by simp [results, Tryz.results33, go_sem, y0, y1, y2, y3, y4]) rfl ⟨?_, .inr ⟨⟨false, wh, id, fv, mv⟩, hn.out, rfl⟩⟩
      repeat (refine bl_setA ?_ (Nat.le_refl _))
      exact hW6.out
/-- AceRead. -/
def aceO (t : List UInt8) : Ac × Int := if 8000 < t.length then (acZ, 2) else match aceI t with
  | some x => (x, 0)
  | none => (acZ, 3)
theorem aceO_long {t : List UInt8} (h : 8000 < t.length) : aceO t = (acZ, 2) := by rw [aceO, if_pos h]
theorem aceO_yes {t : List UInt8} {x : Ac} (h : ¬ 8000 < t.length) (hx : aceI t = some x) : aceO t = (x, 0) := by rw [aceO, if_neg h, hx]
theorem aceO_no {t : List UInt8} (h : ¬ 8000 < t.length) (hx : aceI t = none) : aceO t = (acZ, 3) := by rw [aceO, if_neg h, hx]
/-- Six cells that may be written, all zero. -/
structure Wr6 (w : World) (b : Nat) : Prop where
  lt : b < w.heap.size
  c0 : w.cell? ⟨b, 0, none⟩ = some (.bool false)
  c1 : w.cell? ⟨b, 1, none⟩ = some (.int .i64 0)
  c2 : w.cell? ⟨b, 2, none⟩ = some (.int .i64 0)
  c3 : w.cell? ⟨b, 3, none⟩ = some (.int .i64 0)
  c4 : w.cell? ⟨b, 4, none⟩ = some (.int .i64 0)
  c5 : w.cell? ⟨b, 5, none⟩ = some (.int .i64 0)
  z : ∀ o, w.frozen? ⟨b, o, none⟩ = false
theorem Wr6.below {w w' : World} {b : Nat} (h : Wr6 w b) (hb : Below w.heap.size w w') : Wr6 w' b := by
  have hc := fun o => hb.cell (p := ⟨b, o, none⟩) h.lt
  exact ⟨Nat.lt_of_lt_of_le h.lt hb.size, (hc 0).trans h.c0, (hc 1).trans h.c1, (hc 2).trans h.c2, (hc 3).trans h.c3, (hc 4).trans h.c4, (hc 5).trans h.c5, fun o => (hb.frozen (p := ⟨b, o, none⟩) h.lt).trans (h.z o)⟩
theorem wr6_new (w : World) (t : TypeId) : Wr6 (w.alloc (.cells #[.bool false, .int .i64 0, .int .i64 0, .int .i64 0, .int .i64 0, .int .i64 0] t)) w.heap.size := by
  have hb : (w.alloc (.cells #[.bool false, .int .i64 0, .int .i64 0, .int .i64 0, .int .i64 0, .int .i64 0] t)).heap[w.heap.size]? = some (.cells #[.bool false, .int .i64 0, .int .i64 0, .int .i64 0, .int .i64 0, .int .i64 0] t) := by
    rw [World.alloc]
    exact Array.getElem?_push_size
  refine ⟨by simp, ?_, ?_, ?_, ?_, ?_, ?_, fun o => ?_⟩
  · simp only [World.cell?, hb]; rfl
  · simp only [World.cell?, hb]; rfl
  · simp only [World.cell?, hb]; rfl
  · simp only [World.cell?, hb]; rfl
  · simp only [World.cell?, hb]; rfl
  · simp only [World.cell?, hb]; rfl
  · unfold World.frozen?
    simp only [hb]
    simp
set_option maxRecDepth 100000 in
set_option maxHeartbeats 4000000 in
/-- spec.AceRead. -/
theorem sAceRead_any (s : ByteArray) (hs : s.size ≤ 1048576) (w : World) :
    Calls Tryz.prog 17 #[.string s] w fun e w' => e = .returned (.agg #[.bool (aceO s.data.toList).1.al, .int .i64 (aceO s.data.toList).1.wh, .int .i64 (aceO s.data.toList).1.id, .int .i64 (aceO s.data.toList).1.fl, .int .i64 (aceO s.data.toList).1.ma, .int .i64 (aceO s.data.toList).2]) ∧ Below w.heap.size w w' := by
  have hls : s.data.toList.length = s.size := (Lib.size_eq s).symm
  have hY : Hid (Wr6 (w.alloc (.cells #[.bool false, .int .i64 0, .int .i64 0, .int .i64 0, .int .i64 0, .int .i64 0] 29)) w.heap.size) := wr6_new w _
  have hW0 : Hid (Below w.heap.size w (w.alloc (.cells #[.bool false, .int .i64 0, .int .i64 0, .int .i64 0, .int .i64 0, .int .i64 0] 29))) := bel_alloc _ _
  by_cases h8 : 8000 < s.size
  · have hO : Hid (aceO s.data.toList = (acZ, 2)) := aceO_long (by omega)
    have h8' : (8000 : Int) < (s.size : Int) := by omega
    clear hls h8
    go_enter Tryz.func17, Tryz.ntmps17
    go_wp2
    refine bodyPost_ret (v := .agg #[.bool false, .int .i64 0, .int .i64 0, .int .i64 0, .int .i64 0, .int .i64 2]) (by simp [results, Tryz.results17, go_sem]) rfl ⟨by rw [hO.out]; rfl, ?_⟩
    repeat (refine bl_setA ?_ (Nat.le_refl _))
    exact bel_alloc _ _
  have h8' : ¬ (8000 : Int) < (s.size : Int) := by omega
  have HR : Hid (∀ w, Calls Tryz.prog 47 #[.string s] w fun e w' => e = .returned (.agg #[.bool (aceS s.data.toList).al, .int .i64 (aceS s.data.toList).wh, .int .i64 (aceS s.data.toList).id, .int .i64 (aceS s.data.toList).fl, .int .i64 (aceS s.data.toList).ma]) ∧ Below w.heap.size w w') := sRead_any s (by omega)
  have HT : Hid (∀ w, Calls Tryz.prog 16 #[.agg #[.bool (aceS s.data.toList).al, .int .i64 (aceS s.data.toList).wh, .int .i64 (aceS s.data.toList).id, .int .i64 (aceS s.data.toList).fl, .int .i64 (aceS s.data.toList).ma]] w fun e w' => e = .returned (.string (aceT (aceS s.data.toList))) ∧ Below w.heap.size w w') := sAceText_any _
  have hend : (s.data.toList ≠ [] ∧ aceT (aceS s.data.toList) = s ∧ aceO s.data.toList = (aceS s.data.toList, 0)) ∨ (s.data.toList = [] ∧ aceO s.data.toList = (acZ, 3)) ∨ (s.data.toList ≠ [] ∧ aceT (aceS s.data.toList) ≠ s ∧ aceO s.data.toList = (acZ, 3)) := by
    rcases ace_key s.data.toList with ⟨x, h1, h2, h3, h4⟩ | ⟨h1, h2⟩
    · left
      have e1 : aceT x = s := by
        apply ByteArray.ext
        apply Array.toList_inj.1
        exact h2.symm
      refine ⟨fun e => (ace_back h1).2.2 (by rw [e1]; apply ByteArray.ext; apply Array.toList_inj.1; simpa using e), by rw [h4]; exact e1, by rw [h4]; exact aceO_yes (by omega) h3⟩
    · right
      have hno := aceO_no (t := s.data.toList) (by omega) h1
      by_cases h0 : s.data.toList = []
      · exact .inl ⟨h0, hno⟩
      · refine .inr ⟨h0, fun e => ?_, hno⟩
        cases hb : aceB (aceS s.data.toList)
        · rw [aceT, hb] at e
          exact h0 (by rw [← e]; rfl)
        · exact h2 _ hb (by rw [e])
  have HE : Hid _ := hend
  clear hend hls h8 hs
  go_enter Tryz.func17, Tryz.ntmps17
  go_wp2_with fail
  refine (HR.out _).mono ?_
  rintro e w1 ⟨rfl, hb1⟩
  have hY1 : Hid (Wr6 w1 w.heap.size) := hY.out.below hb1
  have hW1 : Hid (Below w.heap.size w w1) := Below.on hW0.out hb1
  clear hb1 hY hW0 HR
  generalize aceS s.data.toList = x at HT HE ⊢
  go_upto_region 4 with fail
  have hF2 : Hid (Five (w1.alloc (.cells #[.bool x.al, .int .i64 x.wh, .int .i64 x.id, .int .i64 x.fl, .int .i64 x.ma] 24)) w1.heap.size 0 x) := five_new w1 x _
  have hY2 : Hid (Wr6 (w1.alloc (.cells #[.bool x.al, .int .i64 x.wh, .int .i64 x.id, .int .i64 x.fl, .int .i64 x.ma] 24)) w.heap.size) := hY1.out.below (bel_alloc _ _)
  have hW2 : Hid (Below w.heap.size w (w1.alloc (.cells #[.bool x.al, .int .i64 x.wh, .int .i64 x.id, .int .i64 x.fl, .int .i64 x.ma] 24))) := Below.onA hW1.out
  have hz2 : Hid (w1.heap.size < (w1.alloc (.cells #[.bool x.al, .int .i64 x.wh, .int .i64 x.id, .int .i64 x.fl, .int .i64 x.ma] 24)).heap.size) := (show _ < _ by simp)
  generalize w1.alloc (.cells #[.bool x.al, .int .i64 x.wh, .int .i64 x.id, .int .i64 x.fl, .int .i64 x.ma] 24) = w2 at hF2 hY2 hW2 hz2 ⊢
  generalize w1.heap.size = X at hF2 hz2 ⊢
  clear hY1 hW1
  obtain ⟨c0, c1, c2, c3, c4⟩ := hF2.out
  simp only [Nat.zero_add] at c0 c1 c2 c3 c4
  rcases HE.out with ⟨h0, h1, h2⟩ | ⟨h0, h2⟩ | ⟨h0, h1, h2⟩
  · have e0 : s.toList.isEmpty = false := by
      rw [ByteArray.toList_eq, List.isEmpty_eq_false_iff]
      exact h0
    rw [h1] at HT
    have hO : Hid (aceO s.data.toList = (x, 0)) := h2
    clear h0 h1 h2 HE
    go_wp2_with fail
    refine (HT.out _).mono ?_
    rintro e w3 ⟨rfl, hb3⟩
    have hY3 : Hid (Wr6 w3 w.heap.size) := hY2.out.below hb3
    have hF3 : Hid (Five w3 X 0 x) := hF2.out.below hz2.out hb3
    have hW3 : Hid (Below w.heap.size w w3) := Below.on hW2.out hb3
    clear hb3 c0 c1 c2 c3 c4 hY2 hF2 hW2
    obtain ⟨c0, c1, c2, c3, c4⟩ := hF3.out
    simp only [Nat.zero_add] at c0 c1 c2 c3 c4
    obtain ⟨yl, y0, y1, y2, y3, y4, y5, yz⟩ := hY3.out
    have yz0 := yz 0
    have yz1 := yz 1
    have yz2 := yz 2
    have yz3 := yz 3
    have yz4 := yz 4
    have yz5 := yz 5
    clear yz
    go_wp2
    refine bodyPost_ret (v := .agg #[.bool x.al, .int .i64 x.wh, .int .i64 x.id, .int .i64 x.fl, .int .i64 x.ma, .int .i64 0]) (by simp [results, Tryz.results17, go_sem, y0, y1, y2, y3, y4, y5]) rfl ⟨by rw [hO.out], ?_⟩
    repeat (refine bl_setA ?_ (Nat.le_refl _))
    exact hW3.out
  · have e0 : s.toList.isEmpty = true := tl_empty h0
    have hO : Hid (aceO s.data.toList = (acZ, 3)) := h2
    clear h0 h2 HE HT
    obtain ⟨yl, y0, y1, y2, y3, y4, y5, yz⟩ := hY2.out
    have yz0 := yz 0
    have yz1 := yz 1
    have yz2 := yz 2
    have yz3 := yz 3
    have yz4 := yz 4
    have yz5 := yz 5
    clear yz
    go_wp2
    refine bodyPost_ret (v := .agg #[.bool false, .int .i64 0, .int .i64 0, .int .i64 0, .int .i64 0, .int .i64 3]) (by simp [results, Tryz.results17, go_sem, y0, y1, y2, y3, y4, y5]) rfl ⟨by rw [hO.out, acZ], ?_⟩
    repeat (refine bl_setA ?_ (Nat.le_refl _))
    exact hW2.out
  · have e0 : s.toList.isEmpty = false := by
      rw [ByteArray.toList_eq, List.isEmpty_eq_false_iff]
      exact h0
    have e1 : ((aceT x).toList == s.toList) = false := by
      rw [ByteArray.toList_eq, ByteArray.toList_eq]
      exact beq_eq_false_iff_ne.2 (fun e => h1 (by apply ByteArray.ext; apply Array.toList_inj.1; exact e))
    have hO : Hid (aceO s.data.toList = (acZ, 3)) := h2
    clear h0 h2 HE
    generalize aceT x = TX at HT e1 h1
    go_wp2_with fail
    refine (HT.out _).mono ?_
    rintro e w3 ⟨rfl, hb3⟩
    have hY3 : Hid (Wr6 w3 w.heap.size) := hY2.out.below hb3
    have hW3 : Hid (Below w.heap.size w w3) := Below.on hW2.out hb3
    clear hb3 c0 c1 c2 c3 c4 hY2 hF2 hW2
    obtain ⟨yl, y0, y1, y2, y3, y4, y5, yz⟩ := hY3.out
    have yz0 := yz 0
    have yz1 := yz 1
    have yz2 := yz 2
    have yz3 := yz 3
    have yz4 := yz 4
    have yz5 := yz 5
    clear yz
    go_wp2
    refine bodyPost_ret (v := .agg #[.bool false, .int .i64 0, .int .i64 0, .int .i64 0, .int .i64 0, .int .i64 3]) (by simp [results, Tryz.results17, go_sem, y0, y1, y2, y3, y4, y5]) rfl ⟨by rw [hO.out, acZ], ?_⟩
    repeat (refine bl_setA ?_ (Nat.le_refl _))
    exact hW3.out
/-- impl.readAce. -/
theorem iReadA_any (s : ByteArray) (m : Int) (hs : s.size ≤ 8000) (w : World) (hm : w.cell? ⟨0, 0, none⟩ = some (.int .i64 m)) :
    Calls Tryz.prog 33 #[.string s] w (AceEnd s.data.toList w) := by
  by_cases h4 : (spl 58 s.data.toList).length = 4
  · match e : spl 58 s.data.toList, h4 with
    | [a, b, c, d], _ => exact iReadA_four s ⟨a.toArray⟩ ⟨b.toArray⟩ ⟨c.toArray⟩ ⟨d.toArray⟩ m hs (by rw [e]) w hm
  · exact iReadA_not s m hs h4 w hm
set_option maxRecDepth 100000 in
set_option maxHeartbeats 4000000 in
/-- impl.AceRead. -/
theorem iAceRead_any (s : ByteArray) (m : Int) (hs : s.size ≤ 1048576) (w : World) (hm : w.cell? ⟨0, 0, none⟩ = some (.int .i64 m)) :
    Calls Tryz.prog 7 #[.string s] w fun e w' => e = .returned (.agg #[.bool (aceO s.data.toList).1.al, .int .i64 (aceO s.data.toList).1.wh, .int .i64 (aceO s.data.toList).1.id, .int .i64 (aceO s.data.toList).1.fl, .int .i64 (aceO s.data.toList).1.ma, .int .i64 (aceO s.data.toList).2]) ∧ Below w.heap.size w w' := by
  have hlt := block_lt_of_cell hm
  have hls : s.data.toList.length = s.size := (Lib.size_eq s).symm
  have hY : Hid (Wr6 (w.alloc (.cells #[.bool false, .int .i64 0, .int .i64 0, .int .i64 0, .int .i64 0, .int .i64 0] 29)) w.heap.size) := wr6_new w _
  have hW0 : Hid (Below w.heap.size w (w.alloc (.cells #[.bool false, .int .i64 0, .int .i64 0, .int .i64 0, .int .i64 0, .int .i64 0] 29))) := bel_alloc _ _
  by_cases h8 : 8000 < s.size
  · have hO : Hid (aceO s.data.toList = (acZ, 2)) := aceO_long (by omega)
    have h8' : (8000 : Int) < (s.size : Int) := by omega
    clear hls h8 hm hlt
    go_enter Tryz.func7, Tryz.ntmps7
    go_wp2
    refine bodyPost_ret (v := .agg #[.bool false, .int .i64 0, .int .i64 0, .int .i64 0, .int .i64 0, .int .i64 2]) (by simp [results, Tryz.results7, go_sem]) rfl ⟨by rw [hO.out]; rfl, ?_⟩
    repeat (refine bl_setA ?_ (Nat.le_refl _))
    exact bel_alloc _ _
  have h8' : ¬ (8000 : Int) < (s.size : Int) := by omega
  have HR : Hid (Calls Tryz.prog 33 #[.string s] (w.alloc (.cells #[.bool false, .int .i64 0, .int .i64 0, .int .i64 0, .int .i64 0, .int .i64 0] 29)) (AceEnd s.data.toList (w.alloc (.cells #[.bool false, .int .i64 0, .int .i64 0, .int .i64 0, .int .i64 0, .int .i64 0] 29)))) := iReadA_any s m (by omega) _ ((hW0.out.cell (p := ⟨_, 0, none⟩) hlt).trans hm)
  have HY : Hid (∀ x, aceI s.data.toList = some x → aceO s.data.toList = (x, 0)) := (fun x hx => aceO_yes (by omega) hx)
  have HN : Hid (aceI s.data.toList = none → aceO s.data.toList = (acZ, 3)) := (fun hx => aceO_no (by omega) hx)
  clear hlt hm hls h8 hs
  go_enter Tryz.func7, Tryz.ntmps7
  go_wp2_with fail
  refine HR.out.mono ?_
  rintro e w1 ⟨hb1, ⟨hn, rfl⟩ | ⟨x, hx, rfl⟩⟩
  · have hO : Hid (aceO s.data.toList = (acZ, 3)) := HN.out hn
    have hY1 : Hid (Wr6 w1 w.heap.size) := hY.out.below hb1
    have hW1 : Hid (Below w.heap.size w w1) := Below.on hW0.out hb1
    clear hb1 hY hW0 HR HY HN hn
    go_upto_region 4 with fail
    have hY2 : Hid (Wr6 (w1.alloc (.cells #[.bool false, .int .i64 0, .int .i64 0, .int .i64 0, .int .i64 0] 24)) w.heap.size) := hY1.out.below (bel_alloc _ _)
    have hW2 : Hid (Below w.heap.size w (w1.alloc (.cells #[.bool false, .int .i64 0, .int .i64 0, .int .i64 0, .int .i64 0] 24))) := Below.onA hW1.out
    generalize w1.alloc (.cells #[.bool false, .int .i64 0, .int .i64 0, .int .i64 0, .int .i64 0] 24) = w2 at hY2 hW2 ⊢
    clear hY1 hW1
    obtain ⟨yl, y0, y1, y2, y3, y4, y5, yz⟩ := hY2.out
    have yz0 := yz 0
    have yz1 := yz 1
    have yz2 := yz 2
    have yz3 := yz 3
    have yz4 := yz 4
    have yz5 := yz 5
    clear yz
    go_wp2
    refine bodyPost_ret (v := .agg #[.bool false, .int .i64 0, .int .i64 0, .int .i64 0, .int .i64 0, .int .i64 3]) (by simp [results, Tryz.results7, go_sem, y0, y1, y2, y3, y4, y5]) rfl ⟨by rw [hO.out, acZ], ?_⟩
    repeat (refine bl_setA ?_ (Nat.le_refl _))
    exact hW2.out
  · have hO : Hid (aceO s.data.toList = (x, 0)) := HY.out x hx
    have hY1 : Hid (Wr6 w1 w.heap.size) := hY.out.below hb1
    have hW1 : Hid (Below w.heap.size w w1) := Below.on hW0.out hb1
    clear hb1 hY hW0 HR HY HN hx
    go_upto_region 4 with fail
    have hF2 : Hid (Five (w1.alloc (.cells #[.bool x.al, .int .i64 x.wh, .int .i64 x.id, .int .i64 x.fl, .int .i64 x.ma] 24)) w1.heap.size 0 x) := five_new w1 x _
    have hY2 : Hid (Wr6 (w1.alloc (.cells #[.bool x.al, .int .i64 x.wh, .int .i64 x.id, .int .i64 x.fl, .int .i64 x.ma] 24)) w.heap.size) := hY1.out.below (bel_alloc _ _)
    have hW2 : Hid (Below w.heap.size w (w1.alloc (.cells #[.bool x.al, .int .i64 x.wh, .int .i64 x.id, .int .i64 x.fl, .int .i64 x.ma] 24))) := Below.onA hW1.out
    generalize w1.alloc (.cells #[.bool x.al, .int .i64 x.wh, .int .i64 x.id, .int .i64 x.fl, .int .i64 x.ma] 24) = w2 at hF2 hY2 hW2 ⊢
    generalize w1.heap.size = X at hF2 ⊢
    clear hY1 hW1
    obtain ⟨c0, c1, c2, c3, c4⟩ := hF2.out
    simp only [Nat.zero_add] at c0 c1 c2 c3 c4
    obtain ⟨yl, y0, y1, y2, y3, y4, y5, yz⟩ := hY2.out
    have yz0 := yz 0
    have yz1 := yz 1
    have yz2 := yz 2
    have yz3 := yz 3
    have yz4 := yz 4
    have yz5 := yz 5
    clear yz
    go_wp2
    refine bodyPost_ret (v := .agg #[.bool x.al, .int .i64 x.wh, .int .i64 x.id, .int .i64 x.fl, .int .i64 x.ma, .int .i64 0]) (by simp [results, Tryz.results7, go_sem, y0, y1, y2, y3, y4, y5]) rfl ⟨by rw [hO.out], ?_⟩
    repeat (refine bl_setA ?_ (Nat.le_refl _))
    exact hW2.out
end Go.Proofs.YtedahdncincgjaaGreatDoor
