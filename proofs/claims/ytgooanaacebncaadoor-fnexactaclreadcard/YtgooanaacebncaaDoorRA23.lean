/- Laid together: SEnt2. -/
import Derived.Test.YtgooanaacebncaaDoorRA6
import Derived.Test.YtgooanaacebncaaDoorRA22
/- An entry taken in by the specification: the walk of l05Entry. -/
namespace Go.Proofs.YtgooanaacebncaaDoor
open Go.RowKit Go.PlainAid Go.Deep
set_option linter.unusedVariables false
theorem fld_num (x y z : Int) (W : World) : (Instr.field 123 (.agg #[.int .i64 x, .int .i64 y, .int .i64 z]) 0).run Tryd.prog W = .ok (.int .i64 x) W := by kernel_rfl
structure Tx3 (w : World) (b : Nat) (ta tb tc : ByteArray) : Prop where
  lt : b < w.heap.size
  c0 : w.cell? ⟨b, 0, none⟩ = some (.string ta)
  c1 : w.cell? ⟨b, 1, none⟩ = some (.string tb)
  c2 : w.cell? ⟨b, 2, none⟩ = some (.string tc)
theorem Tx3.below {w w' : World} {b : Nat} {ta tb tc : ByteArray} (h : Tx3 w b ta tb tc) (hb : Below w.heap.size w w') : Tx3 w' b ta tb tc :=
  ⟨Nat.lt_of_lt_of_le h.lt hb.size, (hb.cell (p := ⟨b, 0, none⟩) h.lt).trans h.c0, (hb.cell (p := ⟨b, 1, none⟩) h.lt).trans h.c1, (hb.cell (p := ⟨b, 2, none⟩) h.lt).trans h.c2⟩
theorem piece3 {t a b c : List UInt8} (h : spl 58 t = [a, b, c]) : a.length ≤ t.length ∧ b.length ≤ t.length ∧ c.length ≤ t.length := by
  have h1 : unspl 58 [a, b, c] = t := by rw [← h, unspl_spl]
  have h2 := congrArg List.length h1
  simp [unspl] at h2
  omega
theorem whN_bits {s : ByteArray} (h : s.size ≤ 8000) : whN s (rdB s) = bitsN s.data.toList := by
  have e : (⟨s.data.toList.toArray⟩ : ByteArray) = s := by apply ByteArray.ext; simp
  rw [whN, if_neg (by omega), bitsN, e]
set_option maxRecDepth 100000 in
set_option maxHeartbeats 2000000 in
theorem sEntry_not (w0 w : World) (a : Al) (aU : Option Addr) (cU : Nat) (aG : Option Addr) (cG : Nat) (h : R2 w0 w a aU cU aG cG) (s : ByteArray) (hs : s.size ≤ 100000000) (h3 : (spl 58 s.data.toList).length ≠ 3) :
    Calls Tryd.prog 58 #[.agg #[.int .i64 a.u, .int .i64 a.g, .int .i64 a.o, .slice aU a.us.length cU, .slice aG a.gs.length cG, .bool a.r, .int .i64 a.m], .string s] w (fun e w' => ∃ aU' cU' aG' cG', e = .returned (alV (a) aU' cU' aG' cG') ∧ EntW w0 w w' a (a) aU cU aG cG aU' cU' aG' cG') := by
  have hlow := h.low
  have hbs := h.bel.size
  have hP0 : Hid (W7 ((w.alloc (.cells #[.int .i64 a.u, .int .i64 a.g, .int .i64 a.o, .slice aU a.us.length cU, .slice aG a.gs.length cG, .bool a.r, .int .i64 a.m] 43)).alloc (.cells #[.int .i64 0, .int .i64 0, .int .i64 0, .slice none 0 0, .slice none 0 0, .bool false, .int .i64 0] 43)) w.heap.size (.int .i64 a.u) (.int .i64 a.g) (.int .i64 a.o) (.slice aU a.us.length cU) (.slice aG a.gs.length cG) (.bool a.r) (.int .i64 a.m)) := (w7_new w _ _ _ _ _ _ _ 43).below (bel_alloc _ _)
  have hY0 : Hid (W7 ((w.alloc (.cells #[.int .i64 a.u, .int .i64 a.g, .int .i64 a.o, .slice aU a.us.length cU, .slice aG a.gs.length cG, .bool a.r, .int .i64 a.m] 43)).alloc (.cells #[.int .i64 0, .int .i64 0, .int .i64 0, .slice none 0 0, .slice none 0 0, .bool false, .int .i64 0] 43)) (w.heap.size + 1) (.int .i64 0) (.int .i64 0) (.int .i64 0) (.slice none 0 0) (.slice none 0 0) (.bool false) (.int .i64 0)) := (by
    have := w7_new (w.alloc (.cells #[.int .i64 a.u, .int .i64 a.g, .int .i64 a.o, .slice aU a.us.length cU, .slice aG a.gs.length cG, .bool a.r, .int .i64 a.m] 43)) (.int .i64 0) (.int .i64 0) (.int .i64 0) (.slice none 0 0) (.slice none 0 0) (.bool false) (.int .i64 0) 43
    show W7 _ _ _ _ _ _ _ _ _
    simpa using this)
  have hW0 : Hid (Below w.heap.size w ((w.alloc (.cells #[.int .i64 a.u, .int .i64 a.g, .int .i64 a.o, .slice aU a.us.length cU, .slice aG a.gs.length cG, .bool a.r, .int .i64 a.m] 43)).alloc (.cells #[.int .i64 0, .int .i64 0, .int .i64 0, .slice none 0 0, .slice none 0 0, .bool false, .int .i64 0] 43))) := Below.on (bel_alloc _ _) (bel_alloc _ _)
  have HYb : Hid (w0.heap.size ≤ w.heap.size + 1) := (show _ ≤ _ by omega)
  have HYU : Hid (∀ A, aU = some A → w.heap.size + 1 ≠ A.block) := (fun A e => by have := hlow.1 A e; omega)
  have HYG : Hid (∀ A, aG = some A → w.heap.size + 1 ≠ A.block) := (fun A e => by have := hlow.2 A e; omega)
  have HPU : Hid (∀ A, aU = some A → w.heap.size ≠ A.block) := (fun A e => by have := hlow.1 A e; omega)
  have HPG : Hid (∀ A, aG = some A → w.heap.size ≠ A.block) := (fun A e => by have := hlow.2 A e; omega)
  have HBS : Hid (w0.heap.size ≤ w.heap.size) := hbs
  have H : Hid (R2 w0 w a aU cU aG cG) := h
  have HK : Hid (a = a) := rfl
  have hS : Hid (∀ w, Calls Tryd.prog 50 #[.string s, .int .u8 58] w fun e w' => ∃ v, e = .returned v ∧ w'.ownsRow w.heap.size 9 1 v (bts (spl 58 s.data.toList)).length (tv (bts (spl 58 s.data.toList))) ∧ Below w.heap.size w w') := sSplit_any s 58 hs
  rw [← bts_len] at h3
  clear hlow hbs h
  go_enter Tryd.func58, Tryd.ntmps58
  go_wp2_with fail
  refine (hS.out _).mono ?_
  rintro e w1 ⟨v, rfl, hO, hb1⟩
  obtain ⟨ta, tcp, rfl, hc, _⟩ := own_texts hO
  have hne : (((bts (spl 58 s.data.toList)).length : Int) != 3) = true := by rw [bne_iff_ne]; omega
  have hP1 : Hid (W7 w1 w.heap.size (.int .i64 a.u) (.int .i64 a.g) (.int .i64 a.o) (.slice aU a.us.length cU) (.slice aG a.gs.length cG) (.bool a.r) (.int .i64 a.m)) := hP0.out.below hb1
  have hY1 : Hid (W7 w1 (w.heap.size + 1) (.int .i64 0) (.int .i64 0) (.int .i64 0) (.slice none 0 0) (.slice none 0 0) (.bool false) (.int .i64 0)) := hY0.out.below hb1
  have hE1 : Hid (EntW w0 w w1 a a aU cU aG cG aU cU aG cG) := ⟨H.out.below (Below.on hW0.out hb1), ButR.of_below (Below.on hW0.out hb1), FromR.refl _ _, FromR.refl _ _⟩
  generalize (bts (spl 58 s.data.toList)).length = n at hne ⊢
  clear hO hc hb1 h3 hP0 hY0 hW0 hS
  obtain ⟨pl, p0, p1, p2, p3, p4, p5, p6, pz⟩ := hP1.out
  have pz0 := pz 0
  have pz1 := pz 1
  have pz2 := pz 2
  have pz3 := pz 3
  have pz4 := pz 4
  have pz5 := pz 5
  have pz6 := pz 6
  clear pz
  obtain ⟨yl, y0, y1, y2, y3, y4, y5, y6, yz⟩ := hY1.out
  have yz0 := yz 0
  have yz1 := yz 1
  have yz2 := yz 2
  have yz3 := yz 3
  have yz4 := yz 4
  have yz5 := yz 5
  have yz6 := yz 6
  clear yz
  go_wp2
  refine bodyPost_ret (v := .agg #[.int .i64 a.u, .int .i64 a.g, .int .i64 a.o, .slice aU a.us.length cU, .slice aG a.gs.length cG, .bool a.r, .int .i64 a.m]) (by simp [results, Tryd.results58, go_sem, y0, y1, y2, y3, y4, y5, y6]) rfl ⟨aU, cU, aG, cG, rfl, ?_⟩
  repeat (refine EntW.set ?_ (by omega) HYb.out HYU.out HYG.out)
  exact hE1.out
set_option maxRecDepth 100000 in
set_option maxHeartbeats 4000000 in
theorem sEntry_three (w0 w : World) (a : Al) (aU : Option Addr) (cU : Nat) (aG : Option Addr) (cG : Nat) (h : R2 w0 w a aU cU aG cG) (hlu : a.us.length ≤ 1000) (hlg : a.gs.length ≤ 1000) (s ta tb tc : ByteArray) (hs : s.size ≤ 8000) (hsp : spl 58 s.data.toList = [ta.data.toList, tb.data.toList, tc.data.toList]) :
    Calls Tryd.prog 58 #[.agg #[.int .i64 a.u, .int .i64 a.g, .int .i64 a.o, .slice aU a.us.length cU, .slice aG a.gs.length cG, .bool a.r, .int .i64 a.m], .string s] w (fun e w' => ∃ aU' cU' aG' cG', e = .returned (alV (entK a ta.data.toList tb.data.toList tc.data.toList) aU' cU' aG' cG') ∧ EntW w0 w w' a (entK a ta.data.toList tb.data.toList tc.data.toList) aU cU aG cG aU' cU' aG' cG') := by
  have hlow := h.low
  have hbs := h.bel.size
  have hP0 : Hid (W7 ((w.alloc (.cells #[.int .i64 a.u, .int .i64 a.g, .int .i64 a.o, .slice aU a.us.length cU, .slice aG a.gs.length cG, .bool a.r, .int .i64 a.m] 43)).alloc (.cells #[.int .i64 0, .int .i64 0, .int .i64 0, .slice none 0 0, .slice none 0 0, .bool false, .int .i64 0] 43)) w.heap.size (.int .i64 a.u) (.int .i64 a.g) (.int .i64 a.o) (.slice aU a.us.length cU) (.slice aG a.gs.length cG) (.bool a.r) (.int .i64 a.m)) := (w7_new w _ _ _ _ _ _ _ 43).below (bel_alloc _ _)
  have hY0 : Hid (W7 ((w.alloc (.cells #[.int .i64 a.u, .int .i64 a.g, .int .i64 a.o, .slice aU a.us.length cU, .slice aG a.gs.length cG, .bool a.r, .int .i64 a.m] 43)).alloc (.cells #[.int .i64 0, .int .i64 0, .int .i64 0, .slice none 0 0, .slice none 0 0, .bool false, .int .i64 0] 43)) (w.heap.size + 1) (.int .i64 0) (.int .i64 0) (.int .i64 0) (.slice none 0 0) (.slice none 0 0) (.bool false) (.int .i64 0)) := (by
    have := w7_new (w.alloc (.cells #[.int .i64 a.u, .int .i64 a.g, .int .i64 a.o, .slice aU a.us.length cU, .slice aG a.gs.length cG, .bool a.r, .int .i64 a.m] 43)) (.int .i64 0) (.int .i64 0) (.int .i64 0) (.slice none 0 0) (.slice none 0 0) (.bool false) (.int .i64 0) 43
    show W7 _ _ _ _ _ _ _ _ _
    simpa using this)
  have hW0 : Hid (Below w.heap.size w ((w.alloc (.cells #[.int .i64 a.u, .int .i64 a.g, .int .i64 a.o, .slice aU a.us.length cU, .slice aG a.gs.length cG, .bool a.r, .int .i64 a.m] 43)).alloc (.cells #[.int .i64 0, .int .i64 0, .int .i64 0, .slice none 0 0, .slice none 0 0, .bool false, .int .i64 0] 43))) := Below.on (bel_alloc _ _) (bel_alloc _ _)
  have HYb : Hid (w0.heap.size ≤ w.heap.size + 1) := (show _ ≤ _ by omega)
  have HYU : Hid (∀ A, aU = some A → w.heap.size + 1 ≠ A.block) := (fun A e => by have := hlow.1 A e; omega)
  have HYG : Hid (∀ A, aG = some A → w.heap.size + 1 ≠ A.block) := (fun A e => by have := hlow.2 A e; omega)
  have HPU : Hid (∀ A, aU = some A → w.heap.size ≠ A.block) := (fun A e => by have := hlow.1 A e; omega)
  have HPG : Hid (∀ A, aG = some A → w.heap.size ≠ A.block) := (fun A e => by have := hlow.2 A e; omega)
  have HBS : Hid (w0.heap.size ≤ w.heap.size) := hbs
  have H : Hid (R2 w0 w a aU cU aG cG) := h
  obtain ⟨_, lb, lc⟩ := piece3 hsp
  have hls : s.data.toList.length = s.size := (Lib.size_eq s).symm
  have hlb : tb.data.toList.length = tb.size := (Lib.size_eq tb).symm
  have hlc : tc.data.toList.length = tc.size := (Lib.size_eq tc).symm
  have hS : Hid (∀ w, Calls Tryd.prog 50 #[.string s, .int .u8 58] w fun e w' => ∃ v, e = .returned v ∧ w'.ownsRow w.heap.size 9 1 v ([ta, tb, tc] : List ByteArray).length (tv [ta, tb, tc]) ∧ Below w.heap.size w w') := (fun w => by
    have h1 := sSplit_any s 58 (by omega) w
    have e : bts (spl 58 s.data.toList) = [ta, tb, tc] := by
      rw [hsp]
      simp [bts]
    rwa [e] at h1)
  have HB := sBitsRead_any tc
  rw [whN_bits (by omega)] at HB
  have HN : Hid (∀ w, Calls Tryd.prog 51 #[.string tb] w fun e w' => e = .returned (.int .i64 (numI tb.data.toList)) ∧ w' = w) := (fun w => sNum_any tb (by omega) w)
  have HKD : Hid (∀ x, entK a ta.data.toList tb.data.toList tc.data.toList = x → entK a ta.data.toList tb.data.toList tc.data.toList = x) := (fun _ e => e)
  clear HKD
  generalize hk : entK a ta.data.toList tb.data.toList tc.data.toList = K
  unfold entK at hk
  generalize bitsN tc.data.toList = BI at HB hk
  generalize numI tb.data.toList = NI at HN hk
  generalize whC tc (rdB tc) = CI at HB
  have HBR : Hid (∀ w, Calls Tryd.prog 88 #[.string tc] w fun e w' => e = .returned (.agg #[.int .i64 BI, .int .i64 0, .int .i64 CI]) ∧ Below w.heap.size w w') := HB
  have HK0 : Hid _ := hk
  clear hlow hbs h hk HB lb lc hls hlb hlc hsp hs
  go_enter Tryd.func58, Tryd.ntmps58
  go_wp2_with fail
  refine (hS.out _).mono ?_
  rintro e w1 ⟨v, rfl, hO, hb1⟩
  obtain ⟨tad, tcp, hv, hcp, hcl⟩ := own_texts hO
  obtain ⟨b, rfl, hbl, hcell⟩ := hcl (by simp)
  have hv : v = .slice (some ⟨b, 0, none⟩) 3 tcp := hv
  subst hv
  have hT1 : Hid (Tx3 w1 b ta tb tc) := ⟨hbl, hcell 0 ta rfl, hcell 1 tb rfl, hcell 2 tc rfl⟩
  have hP1 : Hid (W7 w1 w.heap.size (.int .i64 a.u) (.int .i64 a.g) (.int .i64 a.o) (.slice aU a.us.length cU) (.slice aG a.gs.length cG) (.bool a.r) (.int .i64 a.m)) := hP0.out.below hb1
  have hY1 : Hid (W7 w1 (w.heap.size + 1) (.int .i64 0) (.int .i64 0) (.int .i64 0) (.slice none 0 0) (.slice none 0 0) (.bool false) (.int .i64 0)) := hY0.out.below hb1
  have hW1 : Hid (Below w.heap.size w w1) := Below.on hW0.out hb1
  clear hcl hcell hO hbl hb1 hP0 hY0 hW0 hS hcp
  obtain ⟨tl, t0, t1, t2⟩ := hT1.out
  go_wp2_with fail
  refine (HBR.out _).mono ?_
  rintro e w2 ⟨rfl, hb2⟩
  have hT2 : Hid (Tx3 w2 b ta tb tc) := hT1.out.below hb2
  have hP2 : Hid (W7 w2 w.heap.size (.int .i64 a.u) (.int .i64 a.g) (.int .i64 a.o) (.slice aU a.us.length cU) (.slice aG a.gs.length cG) (.bool a.r) (.int .i64 a.m)) := hP1.out.below hb2
  have hY2 : Hid (W7 w2 (w.heap.size + 1) (.int .i64 0) (.int .i64 0) (.int .i64 0) (.slice none 0 0) (.slice none 0 0) (.bool false) (.int .i64 0)) := hY1.out.below hb2
  have hW2 : Hid (Below w.heap.size w w2) := Below.on hW1.out hb2
  clear tl t0 t1 t2 hb2 hT1 hP1 hY1 hW1 HBR
  obtain ⟨tl, t0, t1, t2⟩ := hT2.out
  have hfld : ∀ W : World, (Instr.field 123 (.agg #[.int .i64 BI, .int .i64 0, .int .i64 CI]) 0).run Tryd.prog W = .ok (.int .i64 BI) W := fld_num BI 0 CI
  go_wp2_with fail
  refine (HN.out _).mono ?_
  rintro e w2x ⟨rfl, hw2x⟩
  subst hw2x
  go_upto_region 6 with fail
  obtain ⟨x0, x1⟩ := pair_new w2x (.int .i64 NI) (.int .i64 BI) 126
  have hT3 : Hid (Tx3 (w2x.alloc (.cells #[.int .i64 NI, .int .i64 BI] 126)) b ta tb tc) := hT2.out.below (bel_alloc _ _)
  have hP3 : Hid (W7 (w2x.alloc (.cells #[.int .i64 NI, .int .i64 BI] 126)) w.heap.size (.int .i64 a.u) (.int .i64 a.g) (.int .i64 a.o) (.slice aU a.us.length cU) (.slice aG a.gs.length cG) (.bool a.r) (.int .i64 a.m)) := hP2.out.below (bel_alloc _ _)
  have hY3 : Hid (W7 (w2x.alloc (.cells #[.int .i64 NI, .int .i64 BI] 126)) (w.heap.size + 1) (.int .i64 0) (.int .i64 0) (.int .i64 0) (.slice none 0 0) (.slice none 0 0) (.bool false) (.int .i64 0)) := hY2.out.below (bel_alloc _ _)
  have hW3 : Hid (Below w.heap.size w (w2x.alloc (.cells #[.int .i64 NI, .int .i64 BI] 126))) := Below.on hW2.out (bel_alloc _ _)
  have X0 : Hid _ := x0
  have X1 : Hid _ := x1
  clear tl t0 t1 t2 hT2 hP2 hY2 hW2 HN x0 x1
  generalize w2x.alloc (.cells #[.int .i64 NI, .int .i64 BI] 126) = w3 at hT3 hP3 hY3 hW3 X0 X1 ⊢
  generalize w2x.heap.size = X at X0 X1 ⊢
  obtain ⟨tl, t0, t1, t2⟩ := hT3.out
  have x0 := X0.out
  have x1 := X1.out
  have hR3 : Hid (R2 w0 w3 a aU cU aG cG) := H.out.below hW3.out
  have hE3 : Hid (EntW w0 w w3 a a aU cU aG cG aU cU aG cG) := ⟨hR3.out, ButR.of_below hW3.out, FromR.refl _ _, FromR.refl _ _⟩
  obtain ⟨pl, p0, p1, p2, p3, p4, p5, p6, pz⟩ := hP3.out
  have pz0 := pz 0
  have pz1 := pz 1
  have pz2 := pz 2
  have pz3 := pz 3
  have pz4 := pz 4
  have pz5 := pz 5
  have pz6 := pz 6
  clear pz
  by_cases hU : ta.data.toList = [117, 115, 101, 114]
  · have eU : (ta.toList == [117, 115, 101, 114]) = true := tlL_eq hU
    have eG : (ta.toList == [103, 114, 111, 117, 112]) = false := tlL_ne (fun e => by rw [hU] at e; revert e; decide)
    have hG : ¬ ta.data.toList = [103, 114, 111, 117, 112] := fun e => by rw [hU] at e; revert e; decide
    by_cases h0 : tb.data.toList = []
    · have e0 := tlL_empty h0
      have HK : Hid (K = { a with u := BI }) := (by
        have := HK0.out
        rw [if_pos ⟨hU, h0⟩] at this
        exact this.symm)
      clear HK0 hU h0 hG
      go_upto_region 19 with fail
      have hP4 : Hid (W7 (w3.setCell ⟨w.heap.size, 0, none⟩ (.int .i64 BI)) w.heap.size (.int .i64 BI) (.int .i64 a.g) (.int .i64 a.o) (.slice aU a.us.length cU) (.slice aG a.gs.length cG) (.bool a.r) (.int .i64 a.m)) := (hP3.out).set0
      have hY4 : Hid (W7 (w3.setCell ⟨w.heap.size, 0, none⟩ (.int .i64 BI)) (w.heap.size + 1) (.int .i64 0) (.int .i64 0) (.int .i64 0) (.slice none 0 0) (.slice none 0 0) (.bool false) (.int .i64 0)) := (hY3.out).other (by omega)
      have hEs0 : EntW w0 w (w3.setCell ⟨w.heap.size, 0, none⟩ (.int .i64 BI)) a a aU cU aG cG aU cU aG cG := EntW.set (hE3.out) (Nat.le_refl _) HBS.out HPU.out HPG.out
      have hE4 : Hid (EntW w0 w (w3.setCell ⟨w.heap.size, 0, none⟩ (.int .i64 BI)) a K aU cU aG cG aU cU aG cG) := (by
        rw [HK.out]
        exact ⟨(hEs0).r.as rfl rfl, (hEs0).but, (hEs0).fu, (hEs0).fg⟩)
      clear pl p0 p1 p2 p3 p4 p5 p6 pz0 pz1 pz2 pz3 pz4 pz5 pz6 hEs0
      generalize (w3.setCell ⟨w.heap.size, 0, none⟩ (.int .i64 BI)) = w4 at hP4 hY4 hE4 ⊢
      clear hP3 hY3 hE3 hR3 hW3 tl t0 t1 t2 x0 x1 X0 X1 hT3
      obtain ⟨pl, p0, p1, p2, p3, p4, p5, p6, pz⟩ := hP4.out
      have pz0 := pz 0
      have pz1 := pz 1
      have pz2 := pz 2
      have pz3 := pz 3
      have pz4 := pz 4
      have pz5 := pz 5
      have pz6 := pz 6
      clear pz
      obtain ⟨yl, y0, y1, y2, y3, y4, y5, y6, yz⟩ := hY4.out
      have yz0 := yz 0
      have yz1 := yz 1
      have yz2 := yz 2
      have yz3 := yz 3
      have yz4 := yz 4
      have yz5 := yz 5
      have yz6 := yz 6
      clear yz
      go_wp2
      refine bodyPost_ret (v := .agg #[.int .i64 BI, .int .i64 a.g, .int .i64 a.o, .slice aU a.us.length cU, .slice aG a.gs.length cG, .bool a.r, .int .i64 a.m]) (by simp [results, Tryd.results58, go_sem, y0, y1, y2, y3, y4, y5, y6]) rfl ⟨aU, cU, aG, cG, by rw [HK.out]; rfl, ?_⟩
      repeat (refine EntW.set ?_ (by omega) HYb.out HYU.out HYG.out)
      exact hE4.out
    · have e0 := tlL_full h0
      have HK : Hid (K = { a with us := a.us ++ [(NI, BI)] }) := (by
        have := HK0.out
        rw [if_neg (fun e => h0 e.2), if_neg (fun e => h0 e.2), if_pos (show ta.data.toList = usrW.data.toList from hU)] at this
        exact this.symm)
      clear HK0 hU h0 hG
      obtain ⟨a', c', w4, hr, hR4, hsz4, hk4, hf4⟩ := hR3.out.addU NI BI (by omega)
      generalize hGL : (a.us ++ [(NI, BI)]).length = GL at hr
      have HGL : Hid ((a.us ++ [(NI, BI)]).length = GL) := hGL
      clear hGL
      have HPN : Hid (∀ A, a' = some A → w.heap.size ≠ A.block) := (fun A e => by
        rcases hf4 A e with ⟨A2, e2, e3⟩ | h1
        · rw [e3]; exact HPU.out A2 e2
        · have := pl; omega)
      have HYN : Hid (∀ A, a' = some A → w.heap.size + 1 ≠ A.block) := (fun A e => by
        rcases hf4 A e with ⟨A2, e2, e3⟩ | h1
        · rw [e3]; exact HYU.out A2 e2
        · have := hY3.out.lt; omega)
      have hP5 : Hid (W7 w4 w.heap.size (.int .i64 a.u) (.int .i64 a.g) (.int .i64 a.o) (.slice aU a.us.length cU) (.slice aG a.gs.length cG) (.bool a.r) (.int .i64 a.m)) := hP3.out.keep hsz4 (hk4 _ pl HPU.out)
      have hY5 : Hid (W7 w4 (w.heap.size + 1) (.int .i64 0) (.int .i64 0) (.int .i64 0) (.slice none 0 0) (.slice none 0 0) (.bool false) (.int .i64 0)) := hY3.out.keep hsz4 (hk4 _ hY3.out.lt HYU.out)
      have hE5 : Hid (EntW w0 w w4 a K aU cU aG cG a' c' aG cG) := (by
        rw [HK.out]
        refine ⟨hR4, ⟨Nat.le_trans hW3.out.size hsz4, fun b hb n1 n2 => (hk4 b (Nat.lt_of_lt_of_le hb hW3.out.size) n1).trans (hW3.out.block b hb)⟩, fun A e => (hf4 A e).imp id (fun h1 => Nat.le_trans hW3.out.size h1), FromR.refl _ _⟩)
      have HRR : Hid _ := hr
      clear hR4 hk4 hf4
      obtain ⟨ql, q0, q1, q2, q3, q4, q5, q6, qz⟩ := hP5.out
      have qz0 := qz 0
      have qz1 := qz 1
      have qz2 := qz 2
      have qz3 := qz 3
      have qz4 := qz 4
      have qz5 := qz 5
      have qz6 := qz 6
      clear qz
      go_upto_region 19 with (at_builtin; refine wpList_append_run _ rfl (.tmp 57) (.tmp 59) 41 41 rfl _ _ _ _ rfl rfl hr ?_)
      have hP4 : Hid (W7 (w4.setCell ⟨w.heap.size, 3, none⟩ (.slice a' GL c')) w.heap.size (.int .i64 a.u) (.int .i64 a.g) (.int .i64 a.o) (.slice a' GL c') (.slice aG a.gs.length cG) (.bool a.r) (.int .i64 a.m)) := hP5.out.set3
      have hY4 : Hid (W7 (w4.setCell ⟨w.heap.size, 3, none⟩ (.slice a' GL c')) (w.heap.size + 1) (.int .i64 0) (.int .i64 0) (.int .i64 0) (.slice none 0 0) (.slice none 0 0) (.bool false) (.int .i64 0)) := hY5.out.other (by omega)
      have hE4 : Hid (EntW w0 w (w4.setCell ⟨w.heap.size, 3, none⟩ (.slice a' GL c')) a K aU cU aG cG a' c' aG cG) := EntW.set hE5.out (Nat.le_refl _) HBS.out HPN.out HPG.out
      clear pl p0 p1 p2 p3 p4 p5 p6 pz0 pz1 pz2 pz3 pz4 pz5 pz6 ql q0 q1 q2 q3 q4 q5 q6 qz0 qz1 qz2 qz3 qz4 qz5 qz6
      generalize (w4.setCell ⟨w.heap.size, 3, none⟩ (.slice a' GL c')) = w5 at hP4 hY4 hE4 ⊢
      clear hP3 hY3 hE3 hR3 hW3 tl t0 t1 t2 x0 x1 X0 X1 hT3 hP5 hY5 hE5 HRR hr
      obtain ⟨pl, p0, p1, p2, p3, p4, p5, p6, pz⟩ := hP4.out
      have pz0 := pz 0
      have pz1 := pz 1
      have pz2 := pz 2
      have pz3 := pz 3
      have pz4 := pz 4
      have pz5 := pz 5
      have pz6 := pz 6
      clear pz
      obtain ⟨yl, y0, y1, y2, y3, y4, y5, y6, yz⟩ := hY4.out
      have yz0 := yz 0
      have yz1 := yz 1
      have yz2 := yz 2
      have yz3 := yz 3
      have yz4 := yz 4
      have yz5 := yz 5
      have yz6 := yz 6
      clear yz
      go_wp2
      refine bodyPost_ret (v := .agg #[.int .i64 a.u, .int .i64 a.g, .int .i64 a.o, .slice a' GL c', .slice aG a.gs.length cG, .bool a.r, .int .i64 a.m]) (by simp [results, Tryd.results58, go_sem, y0, y1, y2, y3, y4, y5, y6]) rfl ⟨a', c', aG, cG, by rw [HK.out, ← HGL.out]; rfl, ?_⟩
      repeat (refine EntW.set ?_ (by omega) HYb.out HYN.out HYG.out)
      exact hE4.out
  have eU : (ta.toList == [117, 115, 101, 114]) = false := tlL_ne hU
  by_cases hG : ta.data.toList = [103, 114, 111, 117, 112]
  · have eG : (ta.toList == [103, 114, 111, 117, 112]) = true := tlL_eq hG
    by_cases h0 : tb.data.toList = []
    · have e0 := tlL_empty h0
      have HK : Hid (K = { a with g := BI }) := (by
        have := HK0.out
        rw [if_neg (fun e => (show ¬ ta.data.toList = usrW.data.toList from hU) e.1), if_pos ⟨hG, h0⟩] at this
        exact this.symm)
      clear HK0 hU h0 hG
      go_upto_region 19 with fail
      have hP4 : Hid (W7 (w3.setCell ⟨w.heap.size, 1, none⟩ (.int .i64 BI)) w.heap.size (.int .i64 a.u) (.int .i64 BI) (.int .i64 a.o) (.slice aU a.us.length cU) (.slice aG a.gs.length cG) (.bool a.r) (.int .i64 a.m)) := (hP3.out).set1
      have hY4 : Hid (W7 (w3.setCell ⟨w.heap.size, 1, none⟩ (.int .i64 BI)) (w.heap.size + 1) (.int .i64 0) (.int .i64 0) (.int .i64 0) (.slice none 0 0) (.slice none 0 0) (.bool false) (.int .i64 0)) := (hY3.out).other (by omega)
      have hEs0 : EntW w0 w (w3.setCell ⟨w.heap.size, 1, none⟩ (.int .i64 BI)) a a aU cU aG cG aU cU aG cG := EntW.set (hE3.out) (Nat.le_refl _) HBS.out HPU.out HPG.out
      have hE4 : Hid (EntW w0 w (w3.setCell ⟨w.heap.size, 1, none⟩ (.int .i64 BI)) a K aU cU aG cG aU cU aG cG) := (by
        rw [HK.out]
        exact ⟨(hEs0).r.as rfl rfl, (hEs0).but, (hEs0).fu, (hEs0).fg⟩)
      clear pl p0 p1 p2 p3 p4 p5 p6 pz0 pz1 pz2 pz3 pz4 pz5 pz6 hEs0
      generalize (w3.setCell ⟨w.heap.size, 1, none⟩ (.int .i64 BI)) = w4 at hP4 hY4 hE4 ⊢
      clear hP3 hY3 hE3 hR3 hW3 tl t0 t1 t2 x0 x1 X0 X1 hT3
      obtain ⟨pl, p0, p1, p2, p3, p4, p5, p6, pz⟩ := hP4.out
      have pz0 := pz 0
      have pz1 := pz 1
      have pz2 := pz 2
      have pz3 := pz 3
      have pz4 := pz 4
      have pz5 := pz 5
      have pz6 := pz 6
      clear pz
      obtain ⟨yl, y0, y1, y2, y3, y4, y5, y6, yz⟩ := hY4.out
      have yz0 := yz 0
      have yz1 := yz 1
      have yz2 := yz 2
      have yz3 := yz 3
      have yz4 := yz 4
      have yz5 := yz 5
      have yz6 := yz 6
      clear yz
      go_wp2
      refine bodyPost_ret (v := .agg #[.int .i64 a.u, .int .i64 BI, .int .i64 a.o, .slice aU a.us.length cU, .slice aG a.gs.length cG, .bool a.r, .int .i64 a.m]) (by simp [results, Tryd.results58, go_sem, y0, y1, y2, y3, y4, y5, y6]) rfl ⟨aU, cU, aG, cG, by rw [HK.out]; rfl, ?_⟩
      repeat (refine EntW.set ?_ (by omega) HYb.out HYU.out HYG.out)
      exact hE4.out
    · have e0 := tlL_full h0
      have HK : Hid (K = { a with gs := a.gs ++ [(NI, BI)] }) := (by
        have := HK0.out
        rw [if_neg (fun e => (show ¬ ta.data.toList = usrW.data.toList from hU) e.1), if_neg (fun e => h0 e.2), if_neg (show ¬ ta.data.toList = usrW.data.toList from hU), if_pos (show ta.data.toList = grpW.data.toList from hG)] at this
        exact this.symm)
      clear HK0 hU h0 hG
      obtain ⟨a', c', w4, hr, hR4, hsz4, hk4, hf4⟩ := hR3.out.addG NI BI (by omega)
      generalize hGL : (a.gs ++ [(NI, BI)]).length = GL at hr
      have HGL : Hid ((a.gs ++ [(NI, BI)]).length = GL) := hGL
      clear hGL
      have HPN : Hid (∀ A, a' = some A → w.heap.size ≠ A.block) := (fun A e => by
        rcases hf4 A e with ⟨A2, e2, e3⟩ | h1
        · rw [e3]; exact HPG.out A2 e2
        · have := pl; omega)
      have HYN : Hid (∀ A, a' = some A → w.heap.size + 1 ≠ A.block) := (fun A e => by
        rcases hf4 A e with ⟨A2, e2, e3⟩ | h1
        · rw [e3]; exact HYG.out A2 e2
        · have := hY3.out.lt; omega)
      have hP5 : Hid (W7 w4 w.heap.size (.int .i64 a.u) (.int .i64 a.g) (.int .i64 a.o) (.slice aU a.us.length cU) (.slice aG a.gs.length cG) (.bool a.r) (.int .i64 a.m)) := hP3.out.keep hsz4 (hk4 _ pl HPG.out)
      have hY5 : Hid (W7 w4 (w.heap.size + 1) (.int .i64 0) (.int .i64 0) (.int .i64 0) (.slice none 0 0) (.slice none 0 0) (.bool false) (.int .i64 0)) := hY3.out.keep hsz4 (hk4 _ hY3.out.lt HYG.out)
      have hE5 : Hid (EntW w0 w w4 a K aU cU aG cG aU cU a' c') := (by
        rw [HK.out]
        refine ⟨hR4, ⟨Nat.le_trans hW3.out.size hsz4, fun b hb n1 n2 => (hk4 b (Nat.lt_of_lt_of_le hb hW3.out.size) n2).trans (hW3.out.block b hb)⟩, FromR.refl _ _, fun A e => (hf4 A e).imp id (fun h1 => Nat.le_trans hW3.out.size h1)⟩)
      have HRR : Hid _ := hr
      clear hR4 hk4 hf4
      obtain ⟨ql, q0, q1, q2, q3, q4, q5, q6, qz⟩ := hP5.out
      have qz0 := qz 0
      have qz1 := qz 1
      have qz2 := qz 2
      have qz3 := qz 3
      have qz4 := qz 4
      have qz5 := qz 5
      have qz6 := qz 6
      clear qz
      go_upto_region 19 with (at_builtin; refine wpList_append_run _ rfl (.tmp 68) (.tmp 70) 41 41 rfl _ _ _ _ rfl rfl hr ?_)
      have hP4 : Hid (W7 (w4.setCell ⟨w.heap.size, 4, none⟩ (.slice a' GL c')) w.heap.size (.int .i64 a.u) (.int .i64 a.g) (.int .i64 a.o) (.slice aU a.us.length cU) (.slice a' GL c') (.bool a.r) (.int .i64 a.m)) := hP5.out.set4
      have hY4 : Hid (W7 (w4.setCell ⟨w.heap.size, 4, none⟩ (.slice a' GL c')) (w.heap.size + 1) (.int .i64 0) (.int .i64 0) (.int .i64 0) (.slice none 0 0) (.slice none 0 0) (.bool false) (.int .i64 0)) := hY5.out.other (by omega)
      have hE4 : Hid (EntW w0 w (w4.setCell ⟨w.heap.size, 4, none⟩ (.slice a' GL c')) a K aU cU aG cG aU cU a' c') := EntW.set hE5.out (Nat.le_refl _) HBS.out HPU.out HPN.out
      clear pl p0 p1 p2 p3 p4 p5 p6 pz0 pz1 pz2 pz3 pz4 pz5 pz6 ql q0 q1 q2 q3 q4 q5 q6 qz0 qz1 qz2 qz3 qz4 qz5 qz6
      generalize (w4.setCell ⟨w.heap.size, 4, none⟩ (.slice a' GL c')) = w5 at hP4 hY4 hE4 ⊢
      clear hP3 hY3 hE3 hR3 hW3 tl t0 t1 t2 x0 x1 X0 X1 hT3 hP5 hY5 hE5 HRR hr
      obtain ⟨pl, p0, p1, p2, p3, p4, p5, p6, pz⟩ := hP4.out
      have pz0 := pz 0
      have pz1 := pz 1
      have pz2 := pz 2
      have pz3 := pz 3
      have pz4 := pz 4
      have pz5 := pz 5
      have pz6 := pz 6
      clear pz
      obtain ⟨yl, y0, y1, y2, y3, y4, y5, y6, yz⟩ := hY4.out
      have yz0 := yz 0
      have yz1 := yz 1
      have yz2 := yz 2
      have yz3 := yz 3
      have yz4 := yz 4
      have yz5 := yz 5
      have yz6 := yz 6
      clear yz
      go_wp2
      refine bodyPost_ret (v := .agg #[.int .i64 a.u, .int .i64 a.g, .int .i64 a.o, .slice aU a.us.length cU, .slice a' GL c', .bool a.r, .int .i64 a.m]) (by simp [results, Tryd.results58, go_sem, y0, y1, y2, y3, y4, y5, y6]) rfl ⟨aU, cU, a', c', by rw [HK.out, ← HGL.out]; rfl, ?_⟩
      repeat (refine EntW.set ?_ (by omega) HYb.out HYU.out HYN.out)
      exact hE4.out
  have eG : (ta.toList == [103, 114, 111, 117, 112]) = false := tlL_ne hG
  by_cases hM : ta.data.toList = [109, 97, 115, 107]
  · have eM : (ta.toList == [109, 97, 115, 107]) = true := tlL_eq hM
    have HK : Hid (K = { a with r := true, m := BI }) := (by
      have := HK0.out
      rw [if_neg (fun e => (show ¬ ta.data.toList = usrW.data.toList from hU) e.1), if_neg (fun e => (show ¬ ta.data.toList = grpW.data.toList from hG) e.1), if_neg (show ¬ ta.data.toList = usrW.data.toList from hU), if_neg (show ¬ ta.data.toList = grpW.data.toList from hG), if_pos (show ta.data.toList = mskW.data.toList from hM)] at this
      exact this.symm)
    clear HK0 hU hG hM
    go_upto_region 19 with fail
    have hP4 : Hid (W7 ((w3.setCell ⟨w.heap.size, 5, none⟩ (.bool true)).setCell ⟨w.heap.size, 6, none⟩ (.int .i64 BI)) w.heap.size (.int .i64 a.u) (.int .i64 a.g) (.int .i64 a.o) (.slice aU a.us.length cU) (.slice aG a.gs.length cG) (.bool true) (.int .i64 BI)) := ((hP3.out).set5).set6
    have hY4 : Hid (W7 ((w3.setCell ⟨w.heap.size, 5, none⟩ (.bool true)).setCell ⟨w.heap.size, 6, none⟩ (.int .i64 BI)) (w.heap.size + 1) (.int .i64 0) (.int .i64 0) (.int .i64 0) (.slice none 0 0) (.slice none 0 0) (.bool false) (.int .i64 0)) := ((hY3.out).other (by omega)).other (by omega)
    have hEs0 : EntW w0 w (w3.setCell ⟨w.heap.size, 5, none⟩ (.bool true)) a a aU cU aG cG aU cU aG cG := EntW.set (hE3.out) (Nat.le_refl _) HBS.out HPU.out HPG.out
    have hEs1 : EntW w0 w ((w3.setCell ⟨w.heap.size, 5, none⟩ (.bool true)).setCell ⟨w.heap.size, 6, none⟩ (.int .i64 BI)) a a aU cU aG cG aU cU aG cG := EntW.set (hEs0) (Nat.le_refl _) HBS.out HPU.out HPG.out
    have hE4 : Hid (EntW w0 w ((w3.setCell ⟨w.heap.size, 5, none⟩ (.bool true)).setCell ⟨w.heap.size, 6, none⟩ (.int .i64 BI)) a K aU cU aG cG aU cU aG cG) := (by
      rw [HK.out]
      exact ⟨(hEs1).r.as rfl rfl, (hEs1).but, (hEs1).fu, (hEs1).fg⟩)
    clear pl p0 p1 p2 p3 p4 p5 p6 pz0 pz1 pz2 pz3 pz4 pz5 pz6 hEs0 hEs1
    generalize ((w3.setCell ⟨w.heap.size, 5, none⟩ (.bool true)).setCell ⟨w.heap.size, 6, none⟩ (.int .i64 BI)) = w4 at hP4 hY4 hE4 ⊢
    clear hP3 hY3 hE3 hR3 hW3 tl t0 t1 t2 x0 x1 X0 X1 hT3
    obtain ⟨pl, p0, p1, p2, p3, p4, p5, p6, pz⟩ := hP4.out
    have pz0 := pz 0
    have pz1 := pz 1
    have pz2 := pz 2
    have pz3 := pz 3
    have pz4 := pz 4
    have pz5 := pz 5
    have pz6 := pz 6
    clear pz
    obtain ⟨yl, y0, y1, y2, y3, y4, y5, y6, yz⟩ := hY4.out
    have yz0 := yz 0
    have yz1 := yz 1
    have yz2 := yz 2
    have yz3 := yz 3
    have yz4 := yz 4
    have yz5 := yz 5
    have yz6 := yz 6
    clear yz
    go_wp2
    refine bodyPost_ret (v := .agg #[.int .i64 a.u, .int .i64 a.g, .int .i64 a.o, .slice aU a.us.length cU, .slice aG a.gs.length cG, .bool true, .int .i64 BI]) (by simp [results, Tryd.results58, go_sem, y0, y1, y2, y3, y4, y5, y6]) rfl ⟨aU, cU, aG, cG, by rw [HK.out]; rfl, ?_⟩
    repeat (refine EntW.set ?_ (by omega) HYb.out HYU.out HYG.out)
    exact hE4.out
  have eM : (ta.toList == [109, 97, 115, 107]) = false := tlL_ne hM
  by_cases hO : ta.data.toList = [111, 116, 104, 101, 114]
  · have eO : (ta.toList == [111, 116, 104, 101, 114]) = true := tlL_eq hO
    have HK : Hid (K = { a with o := BI }) := (by
      have := HK0.out
      rw [if_neg (fun e => (show ¬ ta.data.toList = usrW.data.toList from hU) e.1), if_neg (fun e => (show ¬ ta.data.toList = grpW.data.toList from hG) e.1), if_neg (show ¬ ta.data.toList = usrW.data.toList from hU), if_neg (show ¬ ta.data.toList = grpW.data.toList from hG), if_neg (show ¬ ta.data.toList = mskW.data.toList from hM), if_pos (show ta.data.toList = othW.data.toList from hO)] at this
      exact this.symm)
    clear HK0 hU hG hM hO
    go_upto_region 19 with fail
    have hP4 : Hid (W7 (w3.setCell ⟨w.heap.size, 2, none⟩ (.int .i64 BI)) w.heap.size (.int .i64 a.u) (.int .i64 a.g) (.int .i64 BI) (.slice aU a.us.length cU) (.slice aG a.gs.length cG) (.bool a.r) (.int .i64 a.m)) := (hP3.out).set2
    have hY4 : Hid (W7 (w3.setCell ⟨w.heap.size, 2, none⟩ (.int .i64 BI)) (w.heap.size + 1) (.int .i64 0) (.int .i64 0) (.int .i64 0) (.slice none 0 0) (.slice none 0 0) (.bool false) (.int .i64 0)) := (hY3.out).other (by omega)
    have hEs0 : EntW w0 w (w3.setCell ⟨w.heap.size, 2, none⟩ (.int .i64 BI)) a a aU cU aG cG aU cU aG cG := EntW.set (hE3.out) (Nat.le_refl _) HBS.out HPU.out HPG.out
    have hE4 : Hid (EntW w0 w (w3.setCell ⟨w.heap.size, 2, none⟩ (.int .i64 BI)) a K aU cU aG cG aU cU aG cG) := (by
      rw [HK.out]
      exact ⟨(hEs0).r.as rfl rfl, (hEs0).but, (hEs0).fu, (hEs0).fg⟩)
    clear pl p0 p1 p2 p3 p4 p5 p6 pz0 pz1 pz2 pz3 pz4 pz5 pz6 hEs0
    generalize (w3.setCell ⟨w.heap.size, 2, none⟩ (.int .i64 BI)) = w4 at hP4 hY4 hE4 ⊢
    clear hP3 hY3 hE3 hR3 hW3 tl t0 t1 t2 x0 x1 X0 X1 hT3
    obtain ⟨pl, p0, p1, p2, p3, p4, p5, p6, pz⟩ := hP4.out
    have pz0 := pz 0
    have pz1 := pz 1
    have pz2 := pz 2
    have pz3 := pz 3
    have pz4 := pz 4
    have pz5 := pz 5
    have pz6 := pz 6
    clear pz
    obtain ⟨yl, y0, y1, y2, y3, y4, y5, y6, yz⟩ := hY4.out
    have yz0 := yz 0
    have yz1 := yz 1
    have yz2 := yz 2
    have yz3 := yz 3
    have yz4 := yz 4
    have yz5 := yz 5
    have yz6 := yz 6
    clear yz
    go_wp2
    refine bodyPost_ret (v := .agg #[.int .i64 a.u, .int .i64 a.g, .int .i64 BI, .slice aU a.us.length cU, .slice aG a.gs.length cG, .bool a.r, .int .i64 a.m]) (by simp [results, Tryd.results58, go_sem, y0, y1, y2, y3, y4, y5, y6]) rfl ⟨aU, cU, aG, cG, by rw [HK.out]; rfl, ?_⟩
    repeat (refine EntW.set ?_ (by omega) HYb.out HYU.out HYG.out)
    exact hE4.out
  have eO : (ta.toList == [111, 116, 104, 101, 114]) = false := tlL_ne hO
  have HK : Hid (K = a) := (by
    have := HK0.out
    rw [if_neg (fun e => (show ¬ ta.data.toList = usrW.data.toList from hU) e.1), if_neg (fun e => (show ¬ ta.data.toList = grpW.data.toList from hG) e.1), if_neg (show ¬ ta.data.toList = usrW.data.toList from hU), if_neg (show ¬ ta.data.toList = grpW.data.toList from hG), if_neg (show ¬ ta.data.toList = mskW.data.toList from hM), if_neg (show ¬ ta.data.toList = othW.data.toList from hO)] at this
    exact this.symm)
  clear HK0 hU hG hM hO
  go_upto_region 19 with fail
  have hP4 : Hid (W7 w3 w.heap.size (.int .i64 a.u) (.int .i64 a.g) (.int .i64 a.o) (.slice aU a.us.length cU) (.slice aG a.gs.length cG) (.bool a.r) (.int .i64 a.m)) := hP3.out
  have hY4 : Hid (W7 w3 (w.heap.size + 1) (.int .i64 0) (.int .i64 0) (.int .i64 0) (.slice none 0 0) (.slice none 0 0) (.bool false) (.int .i64 0)) := hY3.out
  have hE4 : Hid (EntW w0 w w3 a K aU cU aG cG aU cU aG cG) := (by
    rw [HK.out]
    exact ⟨(hE3.out).r.as rfl rfl, (hE3.out).but, (hE3.out).fu, (hE3.out).fg⟩)
  clear pl p0 p1 p2 p3 p4 p5 p6 pz0 pz1 pz2 pz3 pz4 pz5 pz6
  clear hP3 hY3 hE3 hR3 hW3 tl t0 t1 t2 x0 x1 X0 X1 hT3
  obtain ⟨pl, p0, p1, p2, p3, p4, p5, p6, pz⟩ := hP4.out
  have pz0 := pz 0
  have pz1 := pz 1
  have pz2 := pz 2
  have pz3 := pz 3
  have pz4 := pz 4
  have pz5 := pz 5
  have pz6 := pz 6
  clear pz
  obtain ⟨yl, y0, y1, y2, y3, y4, y5, y6, yz⟩ := hY4.out
  have yz0 := yz 0
  have yz1 := yz 1
  have yz2 := yz 2
  have yz3 := yz 3
  have yz4 := yz 4
  have yz5 := yz 5
  have yz6 := yz 6
  clear yz
  go_wp2
  refine bodyPost_ret (v := .agg #[.int .i64 a.u, .int .i64 a.g, .int .i64 a.o, .slice aU a.us.length cU, .slice aG a.gs.length cG, .bool a.r, .int .i64 a.m]) (by simp [results, Tryd.results58, go_sem, y0, y1, y2, y3, y4, y5, y6]) rfl ⟨aU, cU, aG, cG, by rw [HK.out]; rfl, ?_⟩
  repeat (refine EntW.set ?_ (by omega) HYb.out HYU.out HYG.out)
  exact hE4.out
/-- spec.l05Entry. -/
theorem sEntry_any (w0 w : World) (a : Al) (aU : Option Addr) (cU : Nat) (aG : Option Addr) (cG : Nat) (h : R2 w0 w a aU cU aG cG) (hlu : a.us.length ≤ 1000) (hlg : a.gs.length ≤ 1000) (s : ByteArray) (hs : s.size ≤ 8000) :
    Calls Tryd.prog 58 #[.agg #[.int .i64 a.u, .int .i64 a.g, .int .i64 a.o, .slice aU a.us.length cU, .slice aG a.gs.length cG, .bool a.r, .int .i64 a.m], .string s] w (fun e w' => ∃ aU' cU' aG' cG', e = .returned (alV (entS a s.data.toList) aU' cU' aG' cG') ∧ EntW w0 w w' a (entS a s.data.toList) aU cU aG cG aU' cU' aG' cG') := by
  by_cases h3 : (spl 58 s.data.toList).length = 3
  · match e : spl 58 s.data.toList, h3 with
    | [x, y, z], _ =>
      have h1 := sEntry_three w0 w a aU cU aG cG h hlu hlg s ⟨x.toArray⟩ ⟨y.toArray⟩ ⟨z.toArray⟩ hs (by rw [e])
      have h2 : entS a s.data.toList = entK a x y z := by simp only [entS, e]
      rw [h2]
      exact h1
  · have h2 : entS a s.data.toList = a := by
      unfold entS
      split
      next e => rw [e] at h3; simp at h3
      · rfl
    rw [h2]
    exact sEntry_not w0 w a aU cU aG cG h s (by omega) h3
end Go.Proofs.YtgooanaacebncaaDoor
