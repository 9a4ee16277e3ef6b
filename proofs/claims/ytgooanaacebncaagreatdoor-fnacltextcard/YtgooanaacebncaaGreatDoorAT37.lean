/- Laid together: SBitsRead, SEnt2, SAclRd. -/
import Derived.Test.YtgooanaacebncaaGreatDoorAT33
import Derived.Test.YtgooanaacebncaaGreatDoorAT35
/- spec.BitsRead: the bits whose three signs a text is, found by trying all eight. -/
namespace Go.Proofs.YtgooanaacebncaaGreatDoor
open Go.RowKit Go.PlainAid
set_option linter.unusedVariables false
set_option maxHeartbeats 1000000 in
theorem sBitsRead_long (s : ByteArray) (h : 8000 < (s.size : Int)) (w : World) :
    Calls Tryz.prog 63 #[.string s] w fun e w' => e = .returned (numW 0 0 2) ∧ Below w.heap.size w w' := by
  go_enter Tryz.func63, Tryz.ntmps63
  go_wp2
  exact bodyPost_ret (v := numW 0 0 2) (by simp [results, Tryz.results63, go_sem, numW]) rfl ⟨rfl, (Below.refl _ _).alloc (Nat.le_refl _) _⟩
set_option maxHeartbeats 2000000 in
theorem sBitsRead_short (s : ByteArray) (h : ¬ 8000 < (s.size : Int)) (w : World) :
    Calls Tryz.prog 63 #[.string s] w fun e w' => e = .returned (numW (whN s (rdB s)) 0 (whC s (rdB s))) ∧ Below w.heap.size w w' := by
  go_enter Tryz.func63, Tryz.ntmps63
  go_wp2
  go_loop [3] (fun i => ∃ k : Nat, k ≤ 8 ∧ i = .int .i64 k ∧ Hid (∀ n, n < k → bitsT n ≠ s)) (fun i => 8 - (intOf i).toNat)
  case atStart => exact ⟨0, by decide, rfl, fun n hn => absurd hn (by omega)⟩
  case round =>
    obtain ⟨k, hk, rfl, hno⟩ := hrel
    by_cases h8 : k = 8
    · subst h8
      have hr : Hid (rdB s = none) := rdB_none (fun n hn => hno.out n (by omega))
      go_wp2
      refine bodyPost_ret (v := numW 0 0 3) (by simp [results, Tryz.results63, go_sem, numW]) rfl ⟨?_, (Below.refl _ _).alloc (Nat.le_refl _) _⟩
      rw [(wh_none (by omega) hr.out).1, (wh_none (by omega) hr.out).2]
    · have h7 : k < 8 := by omega
      have hS : Hid (bitsS k = bitsT k) := bitsS_in (by omega)
      by_cases he : bitsT k = s
      · have hr : Hid (rdB s = some k) := rdB_some (by omega) he
        have hc : Hid (∀ w, Calls Tryz.prog 32 #[.int .i64 k] w fun e w' => e = .returned (.string s) ∧ w' = w) := (by intro w; have := sBitsText_any k w; rw [hS.out, he] at this; exact this)
        clear he h8
        go_wp2_with (go_at_call 32; refine (hc.out _).mono ?_; rintro e w1 ⟨rfl, rfl⟩)
        refine bodyPost_ret (v := numW k 0 0) (by simp [results, Tryz.results63, go_sem, numW]) rfl ⟨?_, (Below.refl _ _).alloc (Nat.le_refl _) _⟩
        rw [(wh_some (by omega) hr.out).1, (wh_some (by omega) hr.out).2]
      · have hc : Hid (∀ w, Calls Tryz.prog 32 #[.int .i64 k] w fun e w' => e = .returned (.string (bitsT k)) ∧ w' = w) := (by intro w; have := sBitsText_any k w; rw [hS.out] at this; exact this)
        have hb : ((bitsT k).toList == s.toList) = false := str_ne he
        have hn : Hid (∀ n, n < k + 1 → bitsT n ≠ s) := (fun n hn => by
          by_cases e : n = k
          · subst e; exact he
          · exact hno.out n (by omega))
        clear he h8
        go_wp2_with (go_at_call 32; refine (hc.out _).mono ?_; rintro e w1 ⟨rfl, rfl⟩)
        go_round
        case rel => exact ⟨k + 1, by omega, by go_num, hn⟩
        case measure => simp [intOf]; omega
/-- spec.BitsRead. -/
theorem sBitsRead_any (s : ByteArray) (w : World) :
    Calls Tryz.prog 63 #[.string s] w fun e w' => e = .returned (numW (whN s (rdB s)) 0 (whC s (rdB s))) ∧ Below w.heap.size w w' := by
  by_cases h : 8000 < s.size
  · rw [(wh_long h _).1, (wh_long h _).2]
    exact sBitsRead_long s (by omega) w
  · exact sBitsRead_short s (by omega) w
end Go.Proofs.YtgooanaacebncaaGreatDoor
/- An entry taken in by the specification: the walk of l05Entry. -/
namespace Go.Proofs.YtgooanaacebncaaGreatDoor
open Go.RowKit Go.PlainAid Go.Deep
set_option linter.unusedVariables false
theorem fld_num (x y z : Int) (W : World) : (Instr.field 85 (.agg #[.int .i64 x, .int .i64 y, .int .i64 z]) 0).run Tryz.prog W = .ok (.int .i64 x) W := by kernel_rfl
structure Tx3 (w : World) (b : Nat) (ta tb tc : ByteArray) : Prop where
  lt : b < w.heap.size
  c0 : w.cell? ⟨b, 0, none⟩ = some (.string ta)
  c1 : w.cell? ⟨b, 1, none⟩ = some (.string tb)
  c2 : w.cell? ⟨b, 2, none⟩ = some (.string tc)
theorem Tx3.below {w w' : World} {b : Nat} {ta tb tc : ByteArray} (h : Tx3 w b ta tb tc) (hb : Below w.heap.size w w') : Tx3 w' b ta tb tc :=
  ⟨Nat.lt_of_lt_of_le h.lt hb.size, (hb.cell (p := ⟨b, 0, none⟩) h.lt).trans h.c0, (hb.cell (p := ⟨b, 1, none⟩) h.lt).trans h.c1, (hb.cell (p := ⟨b, 2, none⟩) h.lt).trans h.c2⟩
theorem piece3 {t a b c : List UInt8} (h : spl 58 t = [a, b, c]) : a.length ≤ t.length ∧ b.length ≤ t.length ∧ c.length ≤ t.length := by
  have h1 : unspl 58 [a, b, c] = t := by rw [← h, unspl_spl]
  have h2 := congrArg List.length h1
  simp [unspl] at h2
  omega
theorem whN_bits {s : ByteArray} (h : s.size ≤ 8000) : whN s (rdB s) = bitsN s.data.toList := by
  have e : (⟨s.data.toList.toArray⟩ : ByteArray) = s := by apply ByteArray.ext; simp
  rw [whN, if_neg (by omega), bitsN, e]
set_option maxRecDepth 100000 in
set_option maxHeartbeats 2000000 in
theorem sEntry_not (w0 w : World) (a : Al) (aU : Option Addr) (cU : Nat) (aG : Option Addr) (cG : Nat) (h : R2 w0 w a aU cU aG cG) (s : ByteArray) (hs : s.size ≤ 100000000) (h3 : (spl 58 s.data.toList).length ≠ 3) :
    Calls Tryz.prog 37 #[.agg #[.int .i64 a.u, .int .i64 a.g, .int .i64 a.o, .slice aU a.us.length cU, .slice aG a.gs.length cG, .bool a.r, .int .i64 a.m], .string s] w (fun e w' => ∃ aU' cU' aG' cG', e = .returned (alV (a) aU' cU' aG' cG') ∧ EntW w0 w w' a (a) aU cU aG cG aU' cU' aG' cG') := by
  have hlow := h.low
  have hbs := h.bel.size
  have hP0 : Hid (W7 ((w.alloc (.cells #[.int .i64 a.u, .int .i64 a.g, .int .i64 a.o, .slice aU a.us.length cU, .slice aG a.gs.length cG, .bool a.r, .int .i64 a.m] 25)).alloc (.cells #[.int .i64 0, .int .i64 0, .int .i64 0, .slice none 0 0, .slice none 0 0, .bool false, .int .i64 0] 25)) w.heap.size (.int .i64 a.u) (.int .i64 a.g) (.int .i64 a.o) (.slice aU a.us.length cU) (.slice aG a.gs.length cG) (.bool a.r) (.int .i64 a.m)) := (w7_new w _ _ _ _ _ _ _ 25).below (bel_alloc _ _)
  have hY0 : Hid (W7 ((w.alloc (.cells #[.int .i64 a.u, .int .i64 a.g, .int .i64 a.o, .slice aU a.us.length cU, .slice aG a.gs.length cG, .bool a.r, .int .i64 a.m] 25)).alloc (.cells #[.int .i64 0, .int .i64 0, .int .i64 0, .slice none 0 0, .slice none 0 0, .bool false, .int .i64 0] 25)) (w.heap.size + 1) (.int .i64 0) (.int .i64 0) (.int .i64 0) (.slice none 0 0) (.slice none 0 0) (.bool false) (.int .i64 0)) := (by
    have := w7_new (w.alloc (.cells #[.int .i64 a.u, .int .i64 a.g, .int .i64 a.o, .slice aU a.us.length cU, .slice aG a.gs.length cG, .bool a.r, .int .i64 a.m] 25)) (.int .i64 0) (.int .i64 0) (.int .i64 0) (.slice none 0 0) (.slice none 0 0) (.bool false) (.int .i64 0) 25
    show W7 _ _ _ _ _ _ _ _ _
    simpa using this)
  have hW0 : Hid (Below w.heap.size w ((w.alloc (.cells #[.int .i64 a.u, .int .i64 a.g, .int .i64 a.o, .slice aU a.us.length cU, .slice aG a.gs.length cG, .bool a.r, .int .i64 a.m] 25)).alloc (.cells #[.int .i64 0, .int .i64 0, .int .i64 0, .slice none 0 0, .slice none 0 0, .bool false, .int .i64 0] 25))) := Below.on (bel_alloc _ _) (bel_alloc _ _)
  have HYb : Hid (w0.heap.size ≤ w.heap.size + 1) := (show _ ≤ _ by omega)
  have HYU : Hid (∀ A, aU = some A → w.heap.size + 1 ≠ A.block) := (fun A e => by have := hlow.1 A e; omega)
  have HYG : Hid (∀ A, aG = some A → w.heap.size + 1 ≠ A.block) := (fun A e => by have := hlow.2 A e; omega)
  have HPU : Hid (∀ A, aU = some A → w.heap.size ≠ A.block) := (fun A e => by have := hlow.1 A e; omega)
  have HPG : Hid (∀ A, aG = some A → w.heap.size ≠ A.block) := (fun A e => by have := hlow.2 A e; omega)
  have HBS : Hid (w0.heap.size ≤ w.heap.size) := hbs
  have H : Hid (R2 w0 w a aU cU aG cG) := h
  have HK : Hid (a = a) := rfl
  have hS : Hid (∀ w, Calls Tryz.prog 36 #[.string s, .int .u8 58] w fun e w' => ∃ v, e = .returned v ∧ w'.ownsRow w.heap.size 9 1 v (bts (spl 58 s.data.toList)).length (tv (bts (spl 58 s.data.toList))) ∧ Below w.heap.size w w') := sSplit_any s 58 hs
  rw [← bts_len] at h3
  clear hlow hbs h
  go_enter Tryz.func37, Tryz.ntmps37
  go_wp2_with fail
  refine (hS.out _).mono ?_
  rintro e w1 ⟨v, rfl, hO, hb1⟩
  obtain ⟨ta, tcp, rfl, hc, _⟩ := own_texts hO
  have hne : (((bts (spl 58 s.data.toList)).length : Int) != 3) = true := by rw [bne_iff_ne]; omega
  have hP1 : Hid (W7 w1 w.heap.size (.int .i64 a.u) (.int .i64 a.g) (.int .i64 a.o) (.slice aU a.us.length cU) (.slice aG a.gs.length cG) (.bool a.r) (.int .i64 a.m)) := hP0.out.below hb1
  have hY1 : Hid (W7 w1 (w.heap.size + 1) (.int .i64 0) (.int .i64 0) (.int .i64 0) (.slice none 0 0) (.slice none 0 0) (.bool false) (.int .i64 0)) := hY0.out.below hb1
  have hE1 : Hid (EntW w0 w w1 a a aU cU aG cG aU cU aG cG) := ⟨H.out.below (Below.on hW0.out hb1), ButR.of_below (Below.on hW0.out hb1), FromR.refl _ _, FromR.refl _ _⟩
  generalize (bts (spl 58 s.data.toList)).length = n at hne ⊢
  clear hO hc hb1 h3 hP0 hY0 hW0 hS
  obtain ⟨pl, p0, p1, p2, p3, p4, p5, p6, pz⟩ := hP1.out
  have pz0 := pz 0
  have pz1 := pz 1
  have pz2 := pz 2
  have pz3 := pz 3
  have pz4 := pz 4
  have pz5 := pz 5
  have pz6 := pz 6
  clear pz
  obtain ⟨yl, y0, y1, y2, y3, y4, y5, y6, yz⟩ := hY1.out
  have yz0 := yz 0
  have yz1 := yz 1
  have yz2 := yz 2
  have yz3 := yz 3
  have yz4 := yz 4
  have yz5 := yz 5
  have yz6 := yz 6
  clear yz
  go_wp2
  refine bodyPost_ret (v := .agg #[.int .i64 a.u, .int .i64 a.g, .int .i64 a.o, .slice aU a.us.length cU, .slice aG a.gs.length cG, .bool a.r, .int .i64 a.m]) (by simp [results, Tryz.results37, go_sem, y0, y1, y2, y3, y4, y5, y6]) rfl ⟨aU, cU, aG, cG, rfl, ?_⟩
  repeat (refine EntW.set ?_ (by omega) HYb.out HYU.out HYG.out)
  exact hE1.out
set_option maxRecDepth 100000 in
set_option maxHeartbeats 4000000 in
theorem sEntry_three (w0 w : World) (a : Al) (aU : Option Addr) (cU : Nat) (aG : Option Addr) (cG : Nat) (h : R2 w0 w a aU cU aG cG) (hlu : a.us.length ≤ 1000) (hlg : a.gs.length ≤ 1000) (s ta tb tc : ByteArray) (hs : s.size ≤ 8000) (hsp : spl 58 s.data.toList = [ta.data.toList, tb.data.toList, tc.data.toList]) :
    Calls Tryz.prog 37 #[.agg #[.int .i64 a.u, .int .i64 a.g, .int .i64 a.o, .slice aU a.us.length cU, .slice aG a.gs.length cG, .bool a.r, .int .i64 a.m], .string s] w (fun e w' => ∃ aU' cU' aG' cG', e = .returned (alV (entK a ta.data.toList tb.data.toList tc.data.toList) aU' cU' aG' cG') ∧ EntW w0 w w' a (entK a ta.data.toList tb.data.toList tc.data.toList) aU cU aG cG aU' cU' aG' cG') := by
  have hlow := h.low
  have hbs := h.bel.size
  have hP0 : Hid (W7 ((w.alloc (.cells #[.int .i64 a.u, .int .i64 a.g, .int .i64 a.o, .slice aU a.us.length cU, .slice aG a.gs.length cG, .bool a.r, .int .i64 a.m] 25)).alloc (.cells #[.int .i64 0, .int .i64 0, .int .i64 0, .slice none 0 0, .slice none 0 0, .bool false, .int .i64 0] 25)) w.heap.size (.int .i64 a.u) (.int .i64 a.g) (.int .i64 a.o) (.slice aU a.us.length cU) (.slice aG a.gs.length cG) (.bool a.r) (.int .i64 a.m)) := (w7_new w _ _ _ _ _ _ _ 25).below (bel_alloc _ _)
  have hY0 : Hid (W7 ((w.alloc (.cells #[.int .i64 a.u, .int .i64 a.g, .int .i64 a.o, .slice aU a.us.length cU, .slice aG a.gs.length cG, .bool a.r, .int .i64 a.m] 25)).alloc (.cells #[.int .i64 0, .int .i64 0, .int .i64 0, .slice none 0 0, .slice none 0 0, .bool false, .int .i64 0] 25)) (w.heap.size + 1) (.int .i64 0) (.int .i64 0) (.int .i64 0) (.slice none 0 0) (.slice none 0 0) (.bool false) (.int .i64 0)) := (by
    have := w7_new (w.alloc (.cells #[.int .i64 a.u, .int .i64 a.g, .int .i64 a.o, .slice aU a.us.length cU, .slice aG a.gs.length cG, .bool a.r, .int .i64 a.m] 25)) (.int .i64 0) (.int .i64 0) (.int .i64 0) (.slice none 0 0) (.slice none 0 0) (.bool false) (.int .i64 0) 25
    show W7 _ _ _ _ _ _ _ _ _
    simpa using this)
  have hW0 : Hid (Below w.heap.size w ((w.alloc (.cells #[.int .i64 a.u, .int .i64 a.g, .int .i64 a.o, .slice aU a.us.length cU, .slice aG a.gs.length cG, .bool a.r, .int .i64 a.m] 25)).alloc (.cells #[.int .i64 0, .int .i64 0, .int .i64 0, .slice none 0 0, .slice none 0 0, .bool false, .int .i64 0] 25))) := Below.on (bel_alloc _ _) (bel_alloc _ _)
  have HYb : Hid (w0.heap.size ≤ w.heap.size + 1) := (show _ ≤ _ by omega)
  have HYU : Hid (∀ A, aU = some A → w.heap.size + 1 ≠ A.block) := (fun A e => by have := hlow.1 A e; omega)
  have HYG : Hid (∀ A, aG = some A → w.heap.size + 1 ≠ A.block) := (fun A e => by have := hlow.2 A e; omega)
  have HPU : Hid (∀ A, aU = some A → w.heap.size ≠ A.block) := (fun A e => by have := hlow.1 A e; omega)
  have HPG : Hid (∀ A, aG = some A → w.heap.size ≠ A.block) := (fun A e => by have := hlow.2 A e; omega)
  have HBS : Hid (w0.heap.size ≤ w.heap.size) := hbs
  have H : Hid (R2 w0 w a aU cU aG cG) := h
  obtain ⟨_, lb, lc⟩ := piece3 hsp
  have hls : s.data.toList.length = s.size := (Lib.size_eq s).symm
  have hlb : tb.data.toList.length = tb.size := (Lib.size_eq tb).symm
  have hlc : tc.data.toList.length = tc.size := (Lib.size_eq tc).symm
  have hS : Hid (∀ w, Calls Tryz.prog 36 #[.string s, .int .u8 58] w fun e w' => ∃ v, e = .returned v ∧ w'.ownsRow w.heap.size 9 1 v ([ta, tb, tc] : List ByteArray).length (tv [ta, tb, tc]) ∧ Below w.heap.size w w') := (fun w => by
    have h1 := sSplit_any s 58 (by omega) w
    have e : bts (spl 58 s.data.toList) = [ta, tb, tc] := by
      rw [hsp]
      simp [bts]
    rwa [e] at h1)
  have HB := sBitsRead_any tc
  rw [whN_bits (by omega)] at HB
  have HN : Hid (∀ w, Calls Tryz.prog 64 #[.string tb] w fun e w' => e = .returned (.int .i64 (numI tb.data.toList)) ∧ w' = w) := (fun w => sNum_any tb (by omega) w)
  have HKD : Hid (∀ x, entK a ta.data.toList tb.data.toList tc.data.toList = x → entK a ta.data.toList tb.data.toList tc.data.toList = x) := (fun _ e => e)
  clear HKD
  generalize hk : entK a ta.data.toList tb.data.toList tc.data.toList = K
  unfold entK at hk
  generalize bitsN tc.data.toList = BI at HB hk
  generalize numI tb.data.toList = NI at HN hk
  generalize whC tc (rdB tc) = CI at HB
  have HBR : Hid (∀ w, Calls Tryz.prog 63 #[.string tc] w fun e w' => e = .returned (.agg #[.int .i64 BI, .int .i64 0, .int .i64 CI]) ∧ Below w.heap.size w w') := HB
  have HK0 : Hid _ := hk
  clear hlow hbs h hk HB lb lc hls hlb hlc hsp hs
  go_enter Tryz.func37, Tryz.ntmps37
  go_wp2_with fail
  refine (hS.out _).mono ?_
  rintro e w1 ⟨v, rfl, hO, hb1⟩
  obtain ⟨tad, tcp, hv, hcp, hcl⟩ := own_texts hO
  obtain ⟨b, rfl, hbl, hcell⟩ := hcl (by simp)
  have hv : v = .slice (some ⟨b, 0, none⟩) 3 tcp := hv
  subst hv
  have hT1 : Hid (Tx3 w1 b ta tb tc) := ⟨hbl, hcell 0 ta rfl, hcell 1 tb rfl, hcell 2 tc rfl⟩
  have hP1 : Hid (W7 w1 w.heap.size (.int .i64 a.u) (.int .i64 a.g) (.int .i64 a.o) (.slice aU a.us.length cU) (.slice aG a.gs.length cG) (.bool a.r) (.int .i64 a.m)) := hP0.out.below hb1
  have hY1 : Hid (W7 w1 (w.heap.size + 1) (.int .i64 0) (.int .i64 0) (.int .i64 0) (.slice none 0 0) (.slice none 0 0) (.bool false) (.int .i64 0)) := hY0.out.below hb1
  have hW1 : Hid (Below w.heap.size w w1) := Below.on hW0.out hb1
  clear hcl hcell hO hbl hb1 hP0 hY0 hW0 hS hcp
  obtain ⟨tl, t0, t1, t2⟩ := hT1.out
  go_wp2_with fail
  refine (HBR.out _).mono ?_
  rintro e w2 ⟨rfl, hb2⟩
  have hT2 : Hid (Tx3 w2 b ta tb tc) := hT1.out.below hb2
  have hP2 : Hid (W7 w2 w.heap.size (.int .i64 a.u) (.int .i64 a.g) (.int .i64 a.o) (.slice aU a.us.length cU) (.slice aG a.gs.length cG) (.bool a.r) (.int .i64 a.m)) := hP1.out.below hb2
  have hY2 : Hid (W7 w2 (w.heap.size + 1) (.int .i64 0) (.int .i64 0) (.int .i64 0) (.slice none 0 0) (.slice none 0 0) (.bool false) (.int .i64 0)) := hY1.out.below hb2
  have hW2 : Hid (Below w.heap.size w w2) := Below.on hW1.out hb2
  clear tl t0 t1 t2 hb2 hT1 hP1 hY1 hW1 HBR
  obtain ⟨tl, t0, t1, t2⟩ := hT2.out
  have hfld : ∀ W : World, (Instr.field 85 (.agg #[.int .i64 BI, .int .i64 0, .int .i64 CI]) 0).run Tryz.prog W = .ok (.int .i64 BI) W := fld_num BI 0 CI
  go_wp2_with fail
  refine (HN.out _).mono ?_
  rintro e w2x ⟨rfl, hw2x⟩
  subst hw2x
  go_upto_region 6 with fail
  obtain ⟨x0, x1⟩ := pair_new w2x (.int .i64 NI) (.int .i64 BI) 45
  have hT3 : Hid (Tx3 (w2x.alloc (.cells #[.int .i64 NI, .int .i64 BI] 45)) b ta tb tc) := hT2.out.below (bel_alloc _ _)
  have hP3 : Hid (W7 (w2x.alloc (.cells #[.int .i64 NI, .int .i64 BI] 45)) w.heap.size (.int .i64 a.u) (.int .i64 a.g) (.int .i64 a.o) (.slice aU a.us.length cU) (.slice aG a.gs.length cG) (.bool a.r) (.int .i64 a.m)) := hP2.out.below (bel_alloc _ _)
  have hY3 : Hid (W7 (w2x.alloc (.cells #[.int .i64 NI, .int .i64 BI] 45)) (w.heap.size + 1) (.int .i64 0) (.int .i64 0) (.int .i64 0) (.slice none 0 0) (.slice none 0 0) (.bool false) (.int .i64 0)) := hY2.out.below (bel_alloc _ _)
  have hW3 : Hid (Below w.heap.size w (w2x.alloc (.cells #[.int .i64 NI, .int .i64 BI] 45))) := Below.on hW2.out (bel_alloc _ _)
  have X0 : Hid _ := x0
  have X1 : Hid _ := x1
  clear tl t0 t1 t2 hT2 hP2 hY2 hW2 HN x0 x1
  generalize w2x.alloc (.cells #[.int .i64 NI, .int .i64 BI] 45) = w3 at hT3 hP3 hY3 hW3 X0 X1 ⊢
  generalize w2x.heap.size = X at X0 X1 ⊢
  obtain ⟨tl, t0, t1, t2⟩ := hT3.out
  have x0 := X0.out
  have x1 := X1.out
  have hR3 : Hid (R2 w0 w3 a aU cU aG cG) := H.out.below hW3.out
  have hE3 : Hid (EntW w0 w w3 a a aU cU aG cG aU cU aG cG) := ⟨hR3.out, ButR.of_below hW3.out, FromR.refl _ _, FromR.refl _ _⟩
  obtain ⟨pl, p0, p1, p2, p3, p4, p5, p6, pz⟩ := hP3.out
  have pz0 := pz 0
  have pz1 := pz 1
  have pz2 := pz 2
  have pz3 := pz 3
  have pz4 := pz 4
  have pz5 := pz 5
  have pz6 := pz 6
  clear pz
  by_cases hU : ta.data.toList = [117, 115, 101, 114]
  · have eU : (ta.toList == [117, 115, 101, 114]) = true := tlL_eq hU
    have eG : (ta.toList == [103, 114, 111, 117, 112]) = false := tlL_ne (fun e => by rw [hU] at e; revert e; decide)
    have hG : ¬ ta.data.toList = [103, 114, 111, 117, 112] := fun e => by rw [hU] at e; revert e; decide
    by_cases h0 : tb.data.toList = []
    · have e0 := tlL_empty h0
      have HK : Hid (K = { a with u := BI }) := (by
        have := HK0.out
        rw [if_pos ⟨hU, h0⟩] at this
        exact this.symm)
      clear HK0 hU h0 hG
      go_upto_region 19 with fail
      have hP4 : Hid (W7 (w3.setCell ⟨w.heap.size, 0, none⟩ (.int .i64 BI)) w.heap.size (.int .i64 BI) (.int .i64 a.g) (.int .i64 a.o) (.slice aU a.us.length cU) (.slice aG a.gs.length cG) (.bool a.r) (.int .i64 a.m)) := (hP3.out).set0
      have hY4 : Hid (W7 (w3.setCell ⟨w.heap.size, 0, none⟩ (.int .i64 BI)) (w.heap.size + 1) (.int .i64 0) (.int .i64 0) (.int .i64 0) (.slice none 0 0) (.slice none 0 0) (.bool false) (.int .i64 0)) := (hY3.out).other (by omega)
      have hEs0 : EntW w0 w (w3.setCell ⟨w.heap.size, 0, none⟩ (.int .i64 BI)) a a aU cU aG cG aU cU aG cG := EntW.set (hE3.out) (Nat.le_refl _) HBS.out HPU.out HPG.out
      have hE4 : Hid (EntW w0 w (w3.setCell ⟨w.heap.size, 0, none⟩ (.int .i64 BI)) a K aU cU aG cG aU cU aG cG) := (by
        rw [HK.out]
        exact ⟨(hEs0).r.as rfl rfl, (hEs0).but, (hEs0).fu, (hEs0).fg⟩)
      clear pl p0 p1 p2 p3 p4 p5 p6 pz0 pz1 pz2 pz3 pz4 pz5 pz6 hEs0
      generalize (w3.setCell ⟨w.heap.size, 0, none⟩ (.int .i64 BI)) = w4 at hP4 hY4 hE4 ⊢
      clear hP3 hY3 hE3 hR3 hW3 tl t0 t1 t2 x0 x1 X0 X1 hT3
      obtain ⟨pl, p0, p1, p2, p3, p4, p5, p6, pz⟩ := hP4.out
      have pz0 := pz 0
      have pz1 := pz 1
      have pz2 := pz 2
      have pz3 := pz 3
      have pz4 := pz 4
      have pz5 := pz 5
      have pz6 := pz 6
      clear pz
      obtain ⟨yl, y0, y1, y2, y3, y4, y5, y6, yz⟩ := hY4.out
      have yz0 := yz 0
      have yz1 := yz 1
      have yz2 := yz 2
      have yz3 := yz 3
      have yz4 := yz 4
      have yz5 := yz 5
      have yz6 := yz 6
      clear yz
      go_wp2
      refine bodyPost_ret (v := .agg #[.int .i64 BI, .int .i64 a.g, .int .i64 a.o, .slice aU a.us.length cU, .slice aG a.gs.length cG, .bool a.r, .int .i64 a.m]) (by simp [results, Tryz.results37, go_sem, y0, y1, y2, y3, y4, y5, y6]) rfl ⟨aU, cU, aG, cG, by rw [HK.out]; rfl, ?_⟩
      repeat (refine EntW.set ?_ (by omega) HYb.out HYU.out HYG.out)
      exact hE4.out
    · have e0 := tlL_full h0
      have HK : Hid (K = { a with us := a.us ++ [(NI, BI)] }) := (by
        have := HK0.out
        rw [if_neg (fun e => h0 e.2), if_neg (fun e => h0 e.2), if_pos (show ta.data.toList = usrW.data.toList from hU)] at this
        exact this.symm)
      clear HK0 hU h0 hG
      obtain ⟨a', c', w4, hr, hR4, hsz4, hk4, hf4⟩ := hR3.out.addU NI BI (by omega)
      generalize hGL : (a.us ++ [(NI, BI)]).length = GL at hr
      have HGL : Hid ((a.us ++ [(NI, BI)]).length = GL) := hGL
      clear hGL
      have HPN : Hid (∀ A, a' = some A → w.heap.size ≠ A.block) := (fun A e => by
        rcases hf4 A e with ⟨A2, e2, e3⟩ | h1
        · rw [e3]; exact HPU.out A2 e2
        · have := pl; omega)
      have HYN : Hid (∀ A, a' = some A → w.heap.size + 1 ≠ A.block) := (fun A e => by
        rcases hf4 A e with ⟨A2, e2, e3⟩ | h1
        · rw [e3]; exact HYU.out A2 e2
        · have := hY3.out.lt; omega)
      have hP5 : Hid (W7 w4 w.heap.size (.int .i64 a.u) (.int .i64 a.g) (.int .i64 a.o) (.slice aU a.us.length cU) (.slice aG a.gs.length cG) (.bool a.r) (.int .i64 a.m)) := hP3.out.keep hsz4 (hk4 _ pl HPU.out)
      have hY5 : Hid (W7 w4 (w.heap.size + 1) (.int .i64 0) (.int .i64 0) (.int .i64 0) (.slice none 0 0) (.slice none 0 0) (.bool false) (.int .i64 0)) := hY3.out.keep hsz4 (hk4 _ hY3.out.lt HYU.out)
      have hE5 : Hid (EntW w0 w w4 a K aU cU aG cG a' c' aG cG) := (by
        rw [HK.out]
        refine ⟨hR4, ⟨Nat.le_trans hW3.out.size hsz4, fun b hb n1 n2 => (hk4 b (Nat.lt_of_lt_of_le hb hW3.out.size) n1).trans (hW3.out.block b hb)⟩, fun A e => (hf4 A e).imp id (fun h1 => Nat.le_trans hW3.out.size h1), FromR.refl _ _⟩)
      have HRR : Hid _ := hr
      clear hR4 hk4 hf4
      obtain ⟨ql, q0, q1, q2, q3, q4, q5, q6, qz⟩ := hP5.out
      have qz0 := qz 0
      have qz1 := qz 1
      have qz2 := qz 2
      have qz3 := qz 3
      have qz4 := qz 4
      have qz5 := qz 5
      have qz6 := qz 6
      clear qz
      go_upto_region 19 with (at_builtin; refine wpList_append_run _ rfl (.tmp 57) (.tmp 59) 23 23 rfl _ _ _ _ rfl rfl hr ?_)
      have hP4 : Hid (W7 (w4.setCell ⟨w.heap.size, 3, none⟩ (.slice a' GL c')) w.heap.size (.int .i64 a.u) (.int .i64 a.g) (.int .i64 a.o) (.slice a' GL c') (.slice aG a.gs.length cG) (.bool a.r) (.int .i64 a.m)) := hP5.out.set3
      have hY4 : Hid (W7 (w4.setCell ⟨w.heap.size, 3, none⟩ (.slice a' GL c')) (w.heap.size + 1) (.int .i64 0) (.int .i64 0) (.int .i64 0) (.slice none 0 0) (.slice none 0 0) (.bool false) (.int .i64 0)) := hY5.out.other (by omega)
      have hE4 : Hid (EntW w0 w (w4.setCell ⟨w.heap.size, 3, none⟩ (.slice a' GL c')) a K aU cU aG cG a' c' aG cG) := EntW.set hE5.out (Nat.le_refl _) HBS.out HPN.out HPG.out
      clear pl p0 p1 p2 p3 p4 p5 p6 pz0 pz1 pz2 pz3 pz4 pz5 pz6 ql q0 q1 q2 q3 q4 q5 q6 qz0 qz1 qz2 qz3 qz4 qz5 qz6
      generalize (w4.setCell ⟨w.heap.size, 3, none⟩ (.slice a' GL c')) = w5 at hP4 hY4 hE4 ⊢
      clear hP3 hY3 hE3 hR3 hW3 tl t0 t1 t2 x0 x1 X0 X1 hT3 hP5 hY5 hE5 HRR hr
      obtain ⟨pl, p0, p1, p2, p3, p4, p5, p6, pz⟩ := hP4.out
      have pz0 := pz 0
      have pz1 := pz 1
      have pz2 := pz 2
      have pz3 := pz 3
      have pz4 := pz 4
      have pz5 := pz 5
      have pz6 := pz 6
      clear pz
      obtain ⟨yl, y0, y1, y2, y3, y4, y5, y6, yz⟩ := hY4.out
      have yz0 := yz 0
      have yz1 := yz 1
      have yz2 := yz 2
      have yz3 := yz 3
      have yz4 := yz 4
      have yz5 := yz 5
      have yz6 := yz 6
      clear yz
      go_wp2
      refine bodyPost_ret (v := .agg #[.int .i64 a.u, .int .i64 a.g, .int .i64 a.o, .slice a' GL c', .slice aG a.gs.length cG, .bool a.r, .int .i64 a.m]) (by simp [results, Tryz.results37, go_sem, y0, y1, y2, y3, y4, y5, y6]) rfl ⟨a', c', aG, cG, by rw [HK.out, ← HGL.out]; rfl, ?_⟩
      repeat (refine EntW.set ?_ (by omega) HYb.out HYN.out HYG.out)
      exact hE4.out
  have eU : (ta.toList == [117, 115, 101, 114]) = false := tlL_ne hU
  by_cases hG : ta.data.toList = [103, 114, 111, 117, 112]
  · have eG : (ta.toList == [103, 114, 111, 117, 112]) = true := tlL_eq hG
    by_cases h0 : tb.data.toList = []
    · have e0 := tlL_empty h0
      have HK : Hid (K = { a with g := BI }) := (by
        have := HK0.out
        rw [if_neg (fun e => (show ¬ ta.data.toList = usrW.data.toList from hU) e.1), if_pos ⟨hG, h0⟩] at this
        exact this.symm)
      clear HK0 hU h0 hG
      go_upto_region 19 with fail
      have hP4 : Hid (W7 (w3.setCell ⟨w.heap.size, 1, none⟩ (.int .i64 BI)) w.heap.size (.int .i64 a.u) (.int .i64 BI) (.int .i64 a.o) (.slice aU a.us.length cU) (.slice aG a.gs.length cG) (.bool a.r) (.int .i64 a.m)) := (hP3.out).set1
      have hY4 : Hid (W7 (w3.setCell ⟨w.heap.size, 1, none⟩ (.int .i64 BI)) (w.heap.size + 1) (.int .i64 0) (.int .i64 0) (.int .i64 0) (.slice none 0 0) (.slice none 0 0) (.bool false) (.int .i64 0)) := (hY3.out).other (by omega)
      have hEs0 : EntW w0 w (w3.setCell ⟨w.heap.size, 1, none⟩ (.int .i64 BI)) a a aU cU aG cG aU cU aG cG := EntW.set (hE3.out) (Nat.le_refl _) HBS.out HPU.out HPG.out
      have hE4 : Hid (EntW w0 w (w3.setCell ⟨w.heap.size, 1, none⟩ (.int .i64 BI)) a K aU cU aG cG aU cU aG cG) := (by
        rw [HK.out]
        exact ⟨(hEs0).r.as rfl rfl, (hEs0).but, (hEs0).fu, (hEs0).fg⟩)
      clear pl p0 p1 p2 p3 p4 p5 p6 pz0 pz1 pz2 pz3 pz4 pz5 pz6 hEs0
      generalize (w3.setCell ⟨w.heap.size, 1, none⟩ (.int .i64 BI)) = w4 at hP4 hY4 hE4 ⊢
      clear hP3 hY3 hE3 hR3 hW3 tl t0 t1 t2 x0 x1 X0 X1 hT3
      obtain ⟨pl, p0, p1, p2, p3, p4, p5, p6, pz⟩ := hP4.out
      have pz0 := pz 0
      have pz1 := pz 1
      have pz2 := pz 2
      have pz3 := pz 3
      have pz4 := pz 4
      have pz5 := pz 5
      have pz6 := pz 6
      clear pz
      obtain ⟨yl, y0, y1, y2, y3, y4, y5, y6, yz⟩ := hY4.out
      have yz0 := yz 0
      have yz1 := yz 1
      have yz2 := yz 2
      have yz3 := yz 3
      have yz4 := yz 4
      have yz5 := yz 5
      have yz6 := yz 6
      clear yz
      go_wp2
      refine bodyPost_ret (v := .agg #[.int .i64 a.u, .int .i64 BI, .int .i64 a.o, .slice aU a.us.length cU, .slice aG a.gs.length cG, .bool a.r, .int .i64 a.m]) (by simp [results, Tryz.results37, go_sem, y0, y1, y2, y3, y4, y5, y6]) rfl ⟨aU, cU, aG, cG, by rw [HK.out]; rfl, ?_⟩
      repeat (refine EntW.set ?_ (by omega) HYb.out HYU.out HYG.out)
      exact hE4.out
    · have e0 := tlL_full h0
      have HK : Hid (K = { a with gs := a.gs ++ [(NI, BI)] }) := (by
        have := HK0.out
        rw [if_neg (fun e => (show ¬ ta.data.toList = usrW.data.toList from hU) e.1), if_neg (fun e => h0 e.2), if_neg (show ¬ ta.data.toList = usrW.data.toList from hU), if_pos (show ta.data.toList = grpW.data.toList from hG)] at this
        exact this.symm)
      clear HK0 hU h0 hG
      obtain ⟨a', c', w4, hr, hR4, hsz4, hk4, hf4⟩ := hR3.out.addG NI BI (by omega)
      generalize hGL : (a.gs ++ [(NI, BI)]).length = GL at hr
      have HGL : Hid ((a.gs ++ [(NI, BI)]).length = GL) := hGL
      clear hGL
      have HPN : Hid (∀ A, a' = some A → w.heap.size ≠ A.block) := (fun A e => by
        rcases hf4 A e with ⟨A2, e2, e3⟩ | h1
        · rw [e3]; exact HPG.out A2 e2
        · have := pl; omega)
      have HYN : Hid (∀ A, a' = some A → w.heap.size + 1 ≠ A.block) := (fun A e => by
        rcases hf4 A e with ⟨A2, e2, e3⟩ | h1
        · rw [e3]; exact HYG.out A2 e2
        · have := hY3.out.lt; omega)
      have hP5 : Hid (W7 w4 w.heap.size (.int .i64 a.u) (.int .i64 a.g) (.int .i64 a.o) (.slice aU a.us.length cU) (.slice aG a.gs.length cG) (.bool a.r) (.int .i64 a.m)) := hP3.out.keep hsz4 (hk4 _ pl HPG.out)
      have hY5 : Hid (W7 w4 (w.heap.size + 1) (.int .i64 0) (.int .i64 0) (.int .i64 0) (.slice none 0 0) (.slice none 0 0) (.bool false) (.int .i64 0)) := hY3.out.keep hsz4 (hk4 _ hY3.out.lt HYG.out)
      have hE5 : Hid (EntW w0 w w4 a K aU cU aG cG aU cU a' c') := (by
        rw [HK.out]
        refine ⟨hR4, ⟨Nat.le_trans hW3.out.size hsz4, fun b hb n1 n2 => (hk4 b (Nat.lt_of_lt_of_le hb hW3.out.size) n2).trans (hW3.out.block b hb)⟩, FromR.refl _ _, fun A e => (hf4 A e).imp id (fun h1 => Nat.le_trans hW3.out.size h1)⟩)
      have HRR : Hid _ := hr
      clear hR4 hk4 hf4
      obtain ⟨ql, q0, q1, q2, q3, q4, q5, q6, qz⟩ := hP5.out
      have qz0 := qz 0
      have qz1 := qz 1
      have qz2 := qz 2
      have qz3 := qz 3
      have qz4 := qz 4
      have qz5 := qz 5
      have qz6 := qz 6
      clear qz
      go_upto_region 19 with (at_builtin; refine wpList_append_run _ rfl (.tmp 68) (.tmp 70) 23 23 rfl _ _ _ _ rfl rfl hr ?_)
      have hP4 : Hid (W7 (w4.setCell ⟨w.heap.size, 4, none⟩ (.slice a' GL c')) w.heap.size (.int .i64 a.u) (.int .i64 a.g) (.int .i64 a.o) (.slice aU a.us.length cU) (.slice a' GL c') (.bool a.r) (.int .i64 a.m)) := hP5.out.set4
      have hY4 : Hid (W7 (w4.setCell ⟨w.heap.size, 4, none⟩ (.slice a' GL c')) (w.heap.size + 1) (.int .i64 0) (.int .i64 0) (.int .i64 0) (.slice none 0 0) (.slice none 0 0) (.bool false) (.int .i64 0)) := hY5.out.other (by omega)
      have hE4 : Hid (EntW w0 w (w4.setCell ⟨w.heap.size, 4, none⟩ (.slice a' GL c')) a K aU cU aG cG aU cU a' c') := EntW.set hE5.out (Nat.le_refl _) HBS.out HPU.out HPN.out
      clear pl p0 p1 p2 p3 p4 p5 p6 pz0 pz1 pz2 pz3 pz4 pz5 pz6 ql q0 q1 q2 q3 q4 q5 q6 qz0 qz1 qz2 qz3 qz4 qz5 qz6
      generalize (w4.setCell ⟨w.heap.size, 4, none⟩ (.slice a' GL c')) = w5 at hP4 hY4 hE4 ⊢
      clear hP3 hY3 hE3 hR3 hW3 tl t0 t1 t2 x0 x1 X0 X1 hT3 hP5 hY5 hE5 HRR hr
      obtain ⟨pl, p0, p1, p2, p3, p4, p5, p6, pz⟩ := hP4.out
      have pz0 := pz 0
      have pz1 := pz 1
      have pz2 := pz 2
      have pz3 := pz 3
      have pz4 := pz 4
      have pz5 := pz 5
      have pz6 := pz 6
      clear pz
      obtain ⟨yl, y0, y1, y2, y3, y4, y5, y6, yz⟩ := hY4.out
      have yz0 := yz 0
      have yz1 := yz 1
      have yz2 := yz 2
      have yz3 := yz 3
      have yz4 := yz 4
      have yz5 := yz 5
      have yz6 := yz 6
      clear yz
      go_wp2
      refine bodyPost_ret (v := .agg #[.int .i64 a.u, .int .i64 a.g, .int .i64 a.o, .slice aU a.us.length cU, .slice a' GL c', .bool a.r, .int .i64 a.m]) (by simp [results, Tryz.results37, go_sem, y0, y1, y2, y3, y4, y5, y6]) rfl ⟨aU, cU, a', c', by rw [HK.out, ← HGL.out]; rfl, ?_⟩
      repeat (refine EntW.set ?_ (by omega) HYb.out HYU.out HYN.out)
      exact hE4.out
  have eG : (ta.toList == [103, 114, 111, 117, 112]) = false := tlL_ne hG
  by_cases hM : ta.data.toList = [109, 97, 115, 107]
  · have eM : (ta.toList == [109, 97, 115, 107]) = true := tlL_eq hM
    have HK : Hid (K = { a with r := true, m := BI }) := (by
      have := HK0.out
      rw [if_neg (fun e => (show ¬ ta.data.toList = usrW.data.toList from hU) e.1), if_neg (fun e => (show ¬ ta.data.toList = grpW.data.toList from hG) e.1), if_neg (show ¬ ta.data.toList = usrW.data.toList from hU), if_neg (show ¬ ta.data.toList = grpW.data.toList from hG), if_pos (show ta.data.toList = mskW.data.toList from hM)] at this
      exact this.symm)
    clear HK0 hU hG hM
    go_upto_region 19 with fail
    have hP4 : Hid (W7 ((w3.setCell ⟨w.heap.size, 5, none⟩ (.bool true)).setCell ⟨w.heap.size, 6, none⟩ (.int .i64 BI)) w.heap.size (.int .i64 a.u) (.int .i64 a.g) (.int .i64 a.o) (.slice aU a.us.length cU) (.slice aG a.gs.length cG) (.bool true) (.int .i64 BI)) := ((hP3.out).set5).set6
    have hY4 : Hid (W7 ((w3.setCell ⟨w.heap.size, 5, none⟩ (.bool true)).setCell ⟨w.heap.size, 6, none⟩ (.int .i64 BI)) (w.heap.size + 1) (.int .i64 0) (.int .i64 0) (.int .i64 0) (.slice none 0 0) (.slice none 0 0) (.bool false) (.int .i64 0)) := ((hY3.out).other (by omega)).other (by omega)
    have hEs0 : EntW w0 w (w3.setCell ⟨w.heap.size, 5, none⟩ (.bool true)) a a aU cU aG cG aU cU aG cG := EntW.set (hE3.out) (Nat.le_refl _) HBS.out HPU.out HPG.out
    have hEs1 : EntW w0 w ((w3.setCell ⟨w.heap.size, 5, none⟩ (.bool true)).setCell ⟨w.heap.size, 6, none⟩ (.int .i64 BI)) a a aU cU aG cG aU cU aG cG := EntW.set (hEs0) (Nat.le_refl _) HBS.out HPU.out HPG.out
    have hE4 : Hid (EntW w0 w ((w3.setCell ⟨w.heap.size, 5, none⟩ (.bool true)).setCell ⟨w.heap.size, 6, none⟩ (.int .i64 BI)) a K aU cU aG cG aU cU aG cG) := (by
      rw [HK.out]
      exact ⟨(hEs1).r.as rfl rfl, (hEs1).but, (hEs1).fu, (hEs1).fg⟩)
    clear pl p0 p1 p2 p3 p4 p5 p6 pz0 pz1 pz2 pz3 pz4 pz5 pz6 hEs0 hEs1
    generalize ((w3.setCell ⟨w.heap.size, 5, none⟩ (.bool true)).setCell ⟨w.heap.size, 6, none⟩ (.int .i64 BI)) = w4 at hP4 hY4 hE4 ⊢
    clear hP3 hY3 hE3 hR3 hW3 tl t0 t1 t2 x0 x1 X0 X1 hT3
    obtain ⟨pl, p0, p1, p2, p3, p4, p5, p6, pz⟩ := hP4.out
    have pz0 := pz 0
    have pz1 := pz 1
    have pz2 := pz 2
    have pz3 := pz 3
    have pz4 := pz 4
    have pz5 := pz 5
    have pz6 := pz 6
    clear pz
    obtain ⟨yl, y0, y1, y2, y3, y4, y5, y6, yz⟩ := hY4.out
    have yz0 := yz 0
    have yz1 := yz 1
    have yz2 := yz 2
    have yz3 := yz 3
    have yz4 := yz 4
    have yz5 := yz 5
    have yz6 := yz 6
    clear yz
    go_wp2
    refine bodyPost_ret (v := .agg #[.int .i64 a.u, .int .i64 a.g, .int .i64 a.o, .slice aU a.us.length cU, .slice aG a.gs.length cG, .bool true, .int .i64 BI]) (by simp [results, Tryz.results37, go_sem, y0, y1, y2, y3, y4, y5, y6]) rfl ⟨aU, cU, aG, cG, by rw [HK.out]; rfl, ?_⟩
    repeat (refine EntW.set ?_ (by omega) HYb.out HYU.out HYG.out)
    exact hE4.out
  have eM : (ta.toList == [109, 97, 115, 107]) = false := tlL_ne hM
  by_cases hO : ta.data.toList = [111, 116, 104, 101, 114]
  · have eO : (ta.toList == [111, 116, 104, 101, 114]) = true := tlL_eq hO
    have HK : Hid (K = { a with o := BI }) := (by
      have := HK0.out
      rw [if_neg (fun e => (show ¬ ta.data.toList = usrW.data.toList from hU) e.1), if_neg (fun e => (show ¬ ta.data.toList = grpW.data.toList from hG) e.1), if_neg (show ¬ ta.data.toList = usrW.data.toList from hU), if_neg (show ¬ ta.data.toList = grpW.data.toList from hG), if_neg (show ¬ ta.data.toList = mskW.data.toList from hM), if_pos (show ta.data.toList = othW.data.toList from hO)] at this
      exact this.symm)
    clear HK0 hU hG hM hO
    go_upto_region 19 with fail
    have hP4 : Hid (W7 (w3.setCell ⟨w.heap.size, 2, none⟩ (.int .i64 BI)) w.heap.size (.int .i64 a.u) (.int .i64 a.g) (.int .i64 BI) (.slice aU a.us.length cU) (.slice aG a.gs.length cG) (.bool a.r) (.int .i64 a.m)) := (hP3.out).set2
    have hY4 : Hid (W7 (w3.setCell ⟨w.heap.size, 2, none⟩ (.int .i64 BI)) (w.heap.size + 1) (.int .i64 0) (.int .i64 0) (.int .i64 0) (.slice none 0 0) (.slice none 0 0) (.bool false) (.int .i64 0)) := (hY3.out).other (by omega)
    have hEs0 : EntW w0 w (w3.setCell ⟨w.heap.size, 2, none⟩ (.int .i64 BI)) a a aU cU aG cG aU cU aG cG := EntW.set (hE3.out) (Nat.le_refl _) HBS.out HPU.out HPG.out
    have hE4 : Hid (EntW w0 w (w3.setCell ⟨w.heap.size, 2, none⟩ (.int .i64 BI)) a K aU cU aG cG aU cU aG cG) := (by
      rw [HK.out]
      exact ⟨(hEs0).r.as rfl rfl, (hEs0).but, (hEs0).fu, (hEs0).fg⟩)
    clear pl p0 p1 p2 p3 p4 p5 p6 pz0 pz1 pz2 pz3 pz4 pz5 pz6 hEs0
    generalize (w3.setCell ⟨w.heap.size, 2, none⟩ (.int .i64 BI)) = w4 at hP4 hY4 hE4 ⊢
    clear hP3 hY3 hE3 hR3 hW3 tl t0 t1 t2 x0 x1 X0 X1 hT3
    obtain ⟨pl, p0, p1, p2, p3, p4, p5, p6, pz⟩ := hP4.out
    have pz0 := pz 0
    have pz1 := pz 1
    have pz2 := pz 2
    have pz3 := pz 3
    have pz4 := pz 4
    have pz5 := pz 5
    have pz6 := pz 6
    clear pz
    obtain ⟨yl, y0, y1, y2, y3, y4, y5, y6, yz⟩ := hY4.out
    have yz0 := yz 0
    have yz1 := yz 1
    have yz2 := yz 2
    have yz3 := yz 3
    have yz4 := yz 4
    have yz5 := yz 5
    have yz6 := yz 6
    clear yz
    go_wp2
    refine bodyPost_ret (v := .agg #[.int .i64 a.u, .int .i64 a.g, .int .i64 BI, .slice aU a.us.length cU, .slice aG a.gs.length cG, .bool a.r, .int .i64 a.m]) (by simp [results, Tryz.results37, go_sem, y0, y1, y2, y3, y4, y5, y6]) rfl ⟨aU, cU, aG, cG, by rw [HK.out]; rfl, ?_⟩
    repeat (refine EntW.set ?_ (by omega) HYb.out HYU.out HYG.out)
    exact hE4.out
  have eO : (ta.toList == [111, 116, 104, 101, 114]) = false := tlL_ne hO
  have HK : Hid (K = a) := (by
    have := HK0.out
    rw [if_neg (fun e => (show ¬ ta.data.toList = usrW.data.toList from hU) e.1), if_neg (fun e => (show ¬ ta.data.toList = grpW.data.toList from hG) e.1), if_neg (show ¬ ta.data.toList = usrW.data.toList from hU), if_neg (show ¬ ta.data.toList = grpW.data.toList from hG), if_neg (show ¬ ta.data.toList = mskW.data.toList from hM), if_neg (show ¬ ta.data.toList = othW.data.toList from hO)] at this
    exact this.symm)
  clear HK0 hU hG hM hO
  go_upto_region 19 with fail
  have hP4 : Hid (W7 w3 w.heap.size (.int .i64 a.u) (.int .i64 a.g) (.int .i64 a.o) (.slice aU a.us.length cU) (.slice aG a.gs.length cG) (.bool a.r) (.int .i64 a.m)) := hP3.out
  have hY4 : Hid (W7 w3 (w.heap.size + 1) (.int .i64 0) (.int .i64 0) (.int .i64 0) (.slice none 0 0) (.slice none 0 0) (.bool false) (.int .i64 0)) := hY3.out
  have hE4 : Hid (EntW w0 w w3 a K aU cU aG cG aU cU aG cG) := (by
    rw [HK.out]
    exact ⟨(hE3.out).r.as rfl rfl, (hE3.out).but, (hE3.out).fu, (hE3.out).fg⟩)
  clear pl p0 p1 p2 p3 p4 p5 p6 pz0 pz1 pz2 pz3 pz4 pz5 pz6
  clear hP3 hY3 hE3 hR3 hW3 tl t0 t1 t2 x0 x1 X0 X1 hT3
  obtain ⟨pl, p0, p1, p2, p3, p4, p5, p6, pz⟩ := hP4.out
  have pz0 := pz 0
  have pz1 := pz 1
  have pz2 := pz 2
  have pz3 := pz 3
  have pz4 := pz 4
  have pz5 := pz 5
  have pz6 := pz 6
  clear pz
  obtain ⟨yl, y0, y1, y2, y3, y4, y5, y6, yz⟩ := hY4.out
  have yz0 := yz 0
  have yz1 := yz 1
  have yz2 := yz 2
  have yz3 := yz 3
  have yz4 := yz 4
  have yz5 := yz 5
  have yz6 := yz 6
  clear yz
  go_wp2
  refine bodyPost_ret (v := .agg #[.int .i64 a.u, .int .i64 a.g, .int .i64 a.o, .slice aU a.us.length cU, .slice aG a.gs.length cG, .bool a.r, .int .i64 a.m]) (by simp [results, Tryz.results37, go_sem, y0, y1, y2, y3, y4, y5, y6]) rfl ⟨aU, cU, aG, cG, by rw [HK.out]; rfl, ?_⟩
  repeat (refine EntW.set ?_ (by omega) HYb.out HYU.out HYG.out)
  exact hE4.out
/-- spec.l05Entry. -/
theorem sEntry_any (w0 w : World) (a : Al) (aU : Option Addr) (cU : Nat) (aG : Option Addr) (cG : Nat) (h : R2 w0 w a aU cU aG cG) (hlu : a.us.length ≤ 1000) (hlg : a.gs.length ≤ 1000) (s : ByteArray) (hs : s.size ≤ 8000) :
    Calls Tryz.prog 37 #[.agg #[.int .i64 a.u, .int .i64 a.g, .int .i64 a.o, .slice aU a.us.length cU, .slice aG a.gs.length cG, .bool a.r, .int .i64 a.m], .string s] w (fun e w' => ∃ aU' cU' aG' cG', e = .returned (alV (entS a s.data.toList) aU' cU' aG' cG') ∧ EntW w0 w w' a (entS a s.data.toList) aU cU aG cG aU' cU' aG' cG') := by
  by_cases h3 : (spl 58 s.data.toList).length = 3
  · match e : spl 58 s.data.toList, h3 with
    | [x, y, z], _ =>
      have h1 := sEntry_three w0 w a aU cU aG cG h hlu hlg s ⟨x.toArray⟩ ⟨y.toArray⟩ ⟨z.toArray⟩ hs (by rw [e])
      have h2 : entS a s.data.toList = entK a x y z := by simp only [entS, e]
      rw [h2]
      exact h1
  · have h2 : entS a s.data.toList = a := by
      unfold entS
      split
      next e => rw [e] at h3; simp at h3
      · rfl
    rw [h2]
    exact sEntry_not w0 w a aU cU aG cG h s (by omega) h3
/-- AclRead. -/
def aclO (t : List UInt8) : Ans := if 8000 < t.length then illA 2 else if (∀ p ∈ spl 44 t, okE p = true) ∧ (rdA t).T.data.toList = t then ⟨(rdA t).u, (rdA t).g, (rdA t).o, (rdA t).us, (rdA t).gs, (rdA t).r, (rdA t).m, 0⟩ else illA 3
theorem aclO_long {t : List UInt8} (h : 8000 < t.length) : aclO t = illA 2 := by rw [aclO, if_pos h]
theorem aclO_cases {t : List UInt8} (h : ¬ 8000 < t.length) : (∃ a : Al, t ≠ [] ∧ (∀ p ∈ spl 44 t, okE p = true) ∧ rdA t = a ∧ rdS t = a ∧ a.T.data.toList = t ∧ aclO t = ⟨a.u, a.g, a.o, a.us, a.gs, a.r, a.m, 0⟩) ∨ (¬ ((∀ p ∈ spl 44 t, okE p = true) ∧ (rdA t).T.data.toList = t) ∧ (t = [] ∨ (rdS t).T.data.toList ≠ t) ∧ aclO t = illA 3) := by
  rcases acl_key t with ⟨a, h1, h2, h3, h4, h5, h6⟩ | ⟨h1, h2⟩
  · left
    refine ⟨a, h6, h3, h4, h5, h2, ?_⟩
    rw [aclO, if_neg h, if_pos ⟨h3, by rw [h4]; exact h2⟩, h4]
  · right
    refine ⟨h1, h2, ?_⟩
    rw [aclO, if_neg h, if_neg h1]
theorem entS_len (a : Al) (t : List UInt8) : (entS a t).us.length ≤ a.us.length + 1 ∧ (entS a t).gs.length ≤ a.gs.length + 1 := by
  unfold entS
  split
  · unfold entK
    repeat' split
    all_goals simp
  · simp
/-- The list behind k entries. -/
def foldK (ps : List (List UInt8)) (k : Nat) : Al := (ps.take k).foldl entS alZ
theorem foldK_len (ps : List (List UInt8)) : ∀ k, k ≤ ps.length → (foldK ps k).us.length ≤ k ∧ (foldK ps k).gs.length ≤ k := by
  intro k
  induction k with
  | zero => intro _; simp [foldK, alZ]
  | succ k ih =>
    intro hk
    obtain ⟨h1, h2⟩ := ih (by omega)
    have e : foldK ps (k + 1) = entS (foldK ps k) ps[k] := by
      unfold foldK
      rw [← List.take_append_getElem (by omega), List.foldl_append]
      rfl
    have h3 := entS_len (foldK ps k) ps[k]
    rw [e]
    omega
theorem foldK_next (ps : List (List UInt8)) {k : Nat} (h : k < ps.length) : foldK ps (k + 1) = entS (foldK ps k) ps[k] := by
  unfold foldK
  rw [← List.take_append_getElem h, List.foldl_append]
  rfl
theorem piece_leL (c : UInt8) (t : List UInt8) : ∀ p ∈ spl c t, p.length ≤ t.length := by
  have key : ∀ (ps : List (List UInt8)), ∀ p ∈ ps, p.length ≤ (unspl c ps).length := by
    intro ps
    induction ps with
    | nil => intro p hp; cases hp
    | cons x r ih =>
      intro p hp
      cases r with
      | nil => simp at hp; subst hp; simp [unspl]
      | cons y r =>
        simp only [unspl, List.length_append, List.length_cons]
        rcases List.mem_cons.1 hp with rfl | hp
        · omega
        · have := ih p hp
          omega
  intro p hp
  have := key _ p hp
  rwa [unspl_spl] at this
theorem btsL_at {ps : List (List UInt8)} {k : Nat} (h : k < ps.length) : (bts ps)[k]? = some ⟨(ps[k]).toArray⟩ := by simp [bts, h]
set_option maxRecDepth 100000 in
set_option maxHeartbeats 4000000 in
/-- spec.AclRead. -/
theorem sAclRead_any (s : ByteArray) (hs : s.size ≤ 1048576) (w : World) :
    Calls Tryz.prog 15 #[.string s] w (Answers (aclO s.data.toList) w) := by
  have hls : s.data.toList.length = s.size := (Lib.size_eq s).symm
  have hY : Hid (W8 (w.alloc (.cells #[.int .i64 0, .int .i64 0, .int .i64 0, .slice none 0 0, .slice none 0 0, .bool false, .int .i64 0, .int .i64 0] 30)) w.heap.size) := w8_new w _
  have hW0 : Hid (Below w.heap.size w (w.alloc (.cells #[.int .i64 0, .int .i64 0, .int .i64 0, .slice none 0 0, .slice none 0 0, .bool false, .int .i64 0, .int .i64 0] 30))) := bel_alloc _ _
  by_cases h8 : 8000 < s.size
  · have hO : Hid (aclO s.data.toList = illA 2) := aclO_long (by omega)
    have h8' : (8000 : Int) < (s.size : Int) := by omega
    clear hls h8
    go_enter Tryz.func15, Tryz.ntmps15
    go_wp2
    refine bodyPost_ret (v := .agg #[.int .i64 0, .int .i64 0, .int .i64 0, .slice none 0 0, .slice none 0 0, .bool false, .int .i64 0, .int .i64 2]) (by simp [results, Tryz.results15, go_sem]) rfl (answers_ill hO.out ?_)
    repeat (refine bl_setL ?_ (Nat.le_refl _))
    exact bel_alloc _ _
  have h8' : ¬ (8000 : Int) < (s.size : Int) := by omega
  have hlen := spl_len 44 s.data.toList
  have hS : Hid (∀ w, Calls Tryz.prog 36 #[.string s, .int .u8 44] w fun e w' => ∃ v, e = .returned v ∧ w'.ownsRow w.heap.size 9 1 v (bts (spl 44 s.data.toList)).length (tv (bts (spl 44 s.data.toList))) ∧ Below w.heap.size w w') := sSplit_any s 44 (by omega)
  have HPL : Hid (∀ p ∈ spl 44 s.data.toList, p.length ≤ 8000) := (fun p hp => by have := piece_leL 44 s.data.toList p hp; omega)
  have hend : Hid ((s.data.toList ≠ [] ∧ (rdS s.data.toList).T = s ∧ aclO s.data.toList = ⟨(rdS s.data.toList).u, (rdS s.data.toList).g, (rdS s.data.toList).o, (rdS s.data.toList).us, (rdS s.data.toList).gs, (rdS s.data.toList).r, (rdS s.data.toList).m, 0⟩) ∨ (s.data.toList = [] ∧ aclO s.data.toList = illA 3) ∨ (s.data.toList ≠ [] ∧ (rdS s.data.toList).T ≠ s ∧ aclO s.data.toList = illA 3)) := (by
    rcases aclO_cases (t := s.data.toList) (by omega) with ⟨a, h1, _, _, h4, h5, h6⟩ | ⟨_, h2, h3⟩
    · left
      refine ⟨h1, ?_, by rw [h4]; exact h6⟩
      rw [h4]
      apply ByteArray.ext
      apply Array.toList_inj.1
      exact h5
    · right
      by_cases h0 : s.data.toList = []
      · exact .inl ⟨h0, h3⟩
      · exact .inr ⟨h0, fun e => h2.elim h0 (fun h => h (by rw [e])), h3⟩)
  have HRS : Hid (∀ k, k ≤ (spl 44 s.data.toList).length → k ≤ 20 → ¬ (k < (spl 44 s.data.toList).length ∧ k < 20) → foldK (spl 44 s.data.toList) k = rdS s.data.toList) := (fun k h1 h2 h3 => by
    unfold foldK rdS
    by_cases e : k = 20
    · rw [e]
    · have : k = (spl 44 s.data.toList).length := by omega
      rw [this, List.take_length, List.take_of_length_le (by omega)])
  have hpl : (spl 44 s.data.toList).length ≤ 8001 := by omega
  clear hls hlen hs h8
  generalize rdS s.data.toList = RS at hend HRS
  generalize spl 44 s.data.toList = ps at hS HPL HRS hpl
  go_enter Tryz.func15, Tryz.ntmps15
  go_wp2_with fail
  refine (hS.out _).mono ?_
  rintro e w1 ⟨v, rfl, hOt, hb1⟩
  obtain ⟨ta, tcp, rfl, htc, hcl⟩ := own_texts hOt
  rw [bts_len] at htc hcl ⊢
  have HC : Hid (∀ k (h : k < ps.length), ∃ b, ta = some ⟨b, 0, none⟩ ∧ b < w1.heap.size ∧ w1.cell? ⟨b, k, none⟩ = some (.string ⟨(ps[k]).toArray⟩)) := (fun k h => by
    obtain ⟨b, e1, e2, e3⟩ := hcl (by omega)
    have := e3 k _ (btsL_at h)
    rw [Nat.zero_add] at this
    exact ⟨b, e1, e2, this⟩)
  have hY1 : Hid (W8 w1 w.heap.size) := hY.out.below hb1
  have hW1 : Hid (Below w.heap.size w w1) := Below.on hW0.out hb1
  have hP1 : Hid (W7 (w1.alloc (.cells #[.int .i64 0, .int .i64 0, .int .i64 0, .slice none 0 0, .slice none 0 0, .bool false, .int .i64 0] 25)) w1.heap.size (.int .i64 (foldK ps 0).u) (.int .i64 (foldK ps 0).g) (.int .i64 (foldK ps 0).o) (.slice none (foldK ps 0).us.length 0) (.slice none (foldK ps 0).gs.length 0) (.bool (foldK ps 0).r) (.int .i64 (foldK ps 0).m)) := w7_new w1 _ _ _ _ _ _ _ 25
  have hR1 : Hid (R2 w1 (w1.alloc (.cells #[.int .i64 0, .int .i64 0, .int .i64 0, .slice none 0 0, .slice none 0 0, .bool false, .int .i64 0] 25)) (foldK ps 0) none 0 none 0) := (r2_start w1).below (bel_alloc _ _)
  clear hcl hOt hb1 hY hW0 hS htc
  go_wp2
  go_loopw [5] (fun i wr => ∃ (k : Nat) (aU : Option Addr) (cU : Nat) (aG : Option Addr) (cG : Nat), k ≤ ps.length ∧ k ≤ 20 ∧ i = .int .i64 k ∧ Hid (W7 wr w1.heap.size (.int .i64 (foldK ps k).u) (.int .i64 (foldK ps k).g) (.int .i64 (foldK ps k).o) (.slice aU (foldK ps k).us.length cU) (.slice aG (foldK ps k).gs.length cG) (.bool (foldK ps k).r) (.int .i64 (foldK ps k).m)) ∧ Hid (R2 w1 wr (foldK ps k) aU cU aG cG) ∧ Hid ((∀ A, aU = some A → w1.heap.size < A.block) ∧ (∀ A, aG = some A → w1.heap.size < A.block))) (fun i _ => 20 - (intOf i).toNat)
  case atStart => exact ⟨0, none, 0, none, 0, Nat.zero_le _, by omega, rfl, hP1, hR1, ⟨fun A e => (by cases e), fun A e => (by cases e)⟩⟩
  case round =>
    obtain ⟨k, aU, cU, aG, cG, hk, h20, rfl, hP, hR, hN⟩ := hrel
    obtain ⟨lu, lg⟩ := foldK_len ps k hk
    by_cases hgo : k < ps.length ∧ k < 20
    · obtain ⟨g1, g2⟩ := hgo
      have g1' : (k : Int) < (ps.length : Int) := by omega
      have g2' : (k : Int) < 20 := by omega
      obtain ⟨b, rfl, hbl, hcell⟩ := HC.out k g1
      have hcz : wr.cell? ⟨b, k, none⟩ = some (.string ⟨(ps[k]).toArray⟩) := (hR.out.bel.cell (p := ⟨b, k, none⟩) hbl).trans hcell
      have HEN : Hid (∀ w', R2 w1 w' (foldK ps k) aU cU aG cG → Calls Tryz.prog 37 #[.agg #[.int .i64 (foldK ps k).u, .int .i64 (foldK ps k).g, .int .i64 (foldK ps k).o, .slice aU (foldK ps k).us.length cU, .slice aG (foldK ps k).gs.length cG, .bool (foldK ps k).r, .int .i64 (foldK ps k).m], .string ⟨(ps[k]).toArray⟩] w' (fun e w'' => ∃ aU' cU' aG' cG', e = .returned (alV (foldK ps (k + 1)) aU' cU' aG' cG') ∧ EntW w1 w' w'' (foldK ps k) (foldK ps (k + 1)) aU cU aG cG aU' cU' aG' cG')) := (fun w' hr => by
        have := sEntry_any w1 w' (foldK ps k) aU cU aG cG hr (by omega) (by omega) ⟨(ps[k]).toArray⟩ (by have := HPL.out _ (List.getElem_mem g1); simpa [ByteArray.size] using this)
        rw [foldK_next ps g1]
        simpa using this)
      have HBB : Hid (foldK ps (k + 1) = foldK ps (k + 1)) := rfl
      generalize hbb : foldK ps (k + 1) = bb at HEN
      generalize foldK ps k = aa at hP hR HEN lu lg
      have HC0 : Hid _ := hcz
      have HBE : Hid (foldK ps (k + 1) = bb) := hbb
      clear hbb HBB
      obtain ⟨pl, p0, p1, p2, p3, p4, p5, p6, pz⟩ := hP.out
      have pz0 := pz 0
      have pz1 := pz 1
      have pz2 := pz 2
      have pz3 := pz 3
      have pz4 := pz 4
      have pz5 := pz 5
      have pz6 := pz 6
      clear pz
      go_upto_region 8 with fail
      go_region_law (go_simp; go_at_call 37; refine (HEN.out _ hR.out.drew).mono ?_; rintro e w4 ⟨aU', cU', aG', cG', rfl, hE⟩; simp only [alV]; have hP4 : W7 w4 w1.heap.size (.int .i64 aa.u) (.int .i64 aa.g) (.int .i64 aa.o) (.slice aU aa.us.length cU) (.slice aG aa.gs.length cG) (.bool aa.r) (.int .i64 aa.m) := hP.out.drew.keep hE.but.1 (hE.but.2 _ hP.out.lt (fun A e => by have := hN.out.1 A e; omega) (fun A e => by have := hN.out.2 A e; omega)); have HN4 : Hid ((∀ A, aU' = some A → w1.heap.size < A.block) ∧ (∀ A, aG' = some A → w1.heap.size < A.block)) := ⟨fun A e => by rcases hE.fu A e with ⟨A2, e2, e3⟩ | h1; (· rw [e3]; exact hN.out.1 A2 e2); (· exact Nat.lt_of_lt_of_le hP.out.lt h1), fun A e => by rcases hE.fg A e with ⟨A2, e2, e3⟩ | h1; (· rw [e3]; exact hN.out.2 A2 e2); (· exact Nat.lt_of_lt_of_le hP.out.lt h1)⟩; have HP4 : Hid (W7 (((((((w4.setCell ⟨w1.heap.size, 0, none⟩ (.int .i64 bb.u)).setCell ⟨w1.heap.size, 1, none⟩ (.int .i64 bb.g)).setCell ⟨w1.heap.size, 2, none⟩ (.int .i64 bb.o)).setCell ⟨w1.heap.size, 3, none⟩ (.slice aU' bb.us.length cU')).setCell ⟨w1.heap.size, 4, none⟩ (.slice aG' bb.gs.length cG')).setCell ⟨w1.heap.size, 5, none⟩ (.bool bb.r)).setCell ⟨w1.heap.size, 6, none⟩ (.int .i64 bb.m)) w1.heap.size (.int .i64 bb.u) (.int .i64 bb.g) (.int .i64 bb.o) (.slice aU' bb.us.length cU') (.slice aG' bb.gs.length cG') (.bool bb.r) (.int .i64 bb.m)) := hP4.all _ _ _ _ _ _ _; have HR4 : Hid (R2 w1 (((((((w4.setCell ⟨w1.heap.size, 0, none⟩ (.int .i64 bb.u)).setCell ⟨w1.heap.size, 1, none⟩ (.int .i64 bb.g)).setCell ⟨w1.heap.size, 2, none⟩ (.int .i64 bb.o)).setCell ⟨w1.heap.size, 3, none⟩ (.slice aU' bb.us.length cU')).setCell ⟨w1.heap.size, 4, none⟩ (.slice aG' bb.gs.length cG')).setCell ⟨w1.heap.size, 5, none⟩ (.bool bb.r)).setCell ⟨w1.heap.size, 6, none⟩ (.int .i64 bb.m)) bb aU' cU' aG' cG') := hE.r.all (Nat.le_refl _) (fun A e => by have := HN4.out.1 A e; omega) (fun A e => by have := HN4.out.2 A e; omega) _ _ _ _ _ _ _; obtain ⟨rl, r0, r1, r2, r3, r4, r5, r6, rz⟩ := hP4; have rz0 := rz 0; have rz1 := rz 1; have rz2 := rz 2; have rz3 := rz 3; have rz4 := rz 4; have rz5 := rz 5; have rz6 := rz 6; clear rz hE)
      all_goals
        generalize (((((((w4.setCell ⟨w1.heap.size, 0, none⟩ (.int .i64 bb.u)).setCell ⟨w1.heap.size, 1, none⟩ (.int .i64 bb.g)).setCell ⟨w1.heap.size, 2, none⟩ (.int .i64 bb.o)).setCell ⟨w1.heap.size, 3, none⟩ (.slice aU' bb.us.length cU')).setCell ⟨w1.heap.size, 4, none⟩ (.slice aG' bb.gs.length cG')).setCell ⟨w1.heap.size, 5, none⟩ (.bool bb.r)).setCell ⟨w1.heap.size, 6, none⟩ (.int .i64 bb.m)) = w5 at HP4 HR4 ⊢
        clear pl p0 p1 p2 p3 p4 p5 p6 pz0 pz1 pz2 pz3 pz4 pz5 pz6 rl r0 r1 r2 r3 r4 r5 r6 rz0 rz1 rz2 rz3 rz4 rz5 rz6 hcz HC0
        go_wp2
        go_roundw
        case rel => exact ⟨k + 1, aU', cU', aG', cG', by omega, by omega, by go_num, by rw [HBE.out]; exact HP4, by rw [HBE.out]; exact HR4, HN4⟩
        case measure => simp [intOf]; omega
    · have hE := HRS.out k hk h20 hgo
      rw [hE] at hP hR lu lg
      have hstop : Hid ((¬ (k : Int) < (ps.length : Int)) ∨ ((k : Int) < (ps.length : Int) ∧ ¬ (k : Int) < 20)) := (by
        by_cases g1 : k < ps.length
        · exact .inr ⟨by omega, fun g2 => hgo ⟨g1, by omega⟩⟩
        · exact .inl (by omega))
      have HT : Hid (∀ w', Below wr.heap.size wr w' → Calls Tryz.prog 12 #[.agg #[.int .i64 RS.u, .int .i64 RS.g, .int .i64 RS.o, .slice aU RS.us.length cU, .slice aG RS.gs.length cG, .bool RS.r, .int .i64 RS.m]] w' fun e w'' => e = .returned (.string RS.T) ∧ Below w'.heap.size w' w'') := (fun w' hb => sAclText_any RS.u RS.g RS.o aU RS.us.length cU aG RS.gs.length cG RS.r RS.m RS.us RS.gs (by omega) (by omega) w' (hR.out.prsU.below hb) (hR.out.prsG.below hb))
      have hYr : Hid (W8 wr w.heap.size) := hY1.out.below hR.out.bel
      have hWr : Hid (Below w.heap.size w wr) := Below.on hW1.out hR.out.bel
      have HNA : Hid (New w wr aU RS.us.length RS.us aG RS.gs.length RS.gs) := hR.out.new.pre hW1.out
      have HNE : Hid ((∀ A, aU = some A → w.heap.size ≠ A.block) ∧ (∀ A, aG = some A → w.heap.size ≠ A.block)) := ⟨fun A e => by have := hN.out.1 A e; have := hY1.out.lt; omega, fun A e => by have := hN.out.2 A e; have := hY1.out.lt; omega⟩
      clear hE hgo HC HPL HRS hR hN hY1 hW1 hP1 hR1 hk h20
      rcases hstop.out with q | ⟨q, q2⟩
      all_goals (
        clear hstop
        obtain ⟨pl, p0, p1, p2, p3, p4, p5, p6, pz⟩ := hP.out
        have pz0 := pz 0
        have pz1 := pz 1
        have pz2 := pz 2
        have pz3 := pz 3
        have pz4 := pz 4
        have pz5 := pz 5
        have pz6 := pz 6
        clear pz
        rcases hend.out with ⟨h0, h1, h2⟩ | ⟨h0, h2⟩ | ⟨h0, h1, h2⟩
        · have e0 := tlL_full h0
          rw [h1] at HT
          have hO2 : Hid _ := h2
          clear h0 h1 h2 hend
          go_wp2_with fail
          refine (HT.out _ (Below.refl _ _)).mono ?_
          rintro e w4 ⟨rfl, hb4⟩
          have hP4 : Hid (W7 w4 w1.heap.size (.int .i64 RS.u) (.int .i64 RS.g) (.int .i64 RS.o) (.slice aU RS.us.length cU) (.slice aG RS.gs.length cG) (.bool RS.r) (.int .i64 RS.m)) := hP.out.below hb4
          have hY4 : Hid (W8 w4 w.heap.size) := hYr.out.below hb4
          have HNZ : Hid (New w w4 aU RS.us.length RS.us aG RS.gs.length RS.gs) := HNA.out.on hb4
          clear pl p0 p1 p2 p3 p4 p5 p6 pz0 pz1 pz2 pz3 pz4 pz5 pz6 hb4 HT
          obtain ⟨pl, p0, p1, p2, p3, p4, p5, p6, pz⟩ := hP4.out
          have pz0 := pz 0
          have pz1 := pz 1
          have pz2 := pz 2
          have pz3 := pz 3
          have pz4 := pz 4
          have pz5 := pz 5
          have pz6 := pz 6
          clear pz
          obtain ⟨yl, y0, y1, y2, y3, y4, y5, y6, y7, yz⟩ := hY4.out
          have yz0 := yz 0
          have yz1 := yz 1
          have yz2 := yz 2
          have yz3 := yz 3
          have yz4 := yz 4
          have yz5 := yz 5
          have yz6 := yz 6
          have yz7 := yz 7
          clear yz
          go_wp2
          refine bodyPost_ret (v := .agg #[.int .i64 RS.u, .int .i64 RS.g, .int .i64 RS.o, .slice aU RS.us.length cU, .slice aG RS.gs.length cG, .bool RS.r, .int .i64 RS.m, .int .i64 0]) (by simp [results, Tryz.results15, go_sem, y0, y1, y2, y3, y4, y5, y6, y7]) rfl (answers_of hO2.out rfl rfl ?_)
          repeat (refine New.set ?_ (Nat.le_refl _) HNE.out.1 HNE.out.2)
          exact HNZ.out
        · have e0 := tlL_empty h0
          have hO2 : Hid (aclO s.data.toList = illA 3) := h2
          clear h0 h2 hend HT
          obtain ⟨yl, y0, y1, y2, y3, y4, y5, y6, y7, yz⟩ := hYr.out
          have yz0 := yz 0
          have yz1 := yz 1
          have yz2 := yz 2
          have yz3 := yz 3
          have yz4 := yz 4
          have yz5 := yz 5
          have yz6 := yz 6
          have yz7 := yz 7
          clear yz
          go_wp2
          refine bodyPost_ret (v := .agg #[.int .i64 0, .int .i64 0, .int .i64 0, .slice none 0 0, .slice none 0 0, .bool false, .int .i64 0, .int .i64 3]) (by simp [results, Tryz.results15, go_sem, y0, y1, y2, y3, y4, y5, y6, y7]) rfl (answers_ill hO2.out ?_)
          repeat (refine bl_setL ?_ (Nat.le_refl _))
          exact hWr.out
        · have e0 := tlL_full h0
          have e1 : (RS.T.toList == s.toList) = false := by
            rw [ByteArray.toList_eq, ByteArray.toList_eq]
            exact beq_eq_false_iff_ne.2 (fun e => h1 (by apply ByteArray.ext; apply Array.toList_inj.1; exact e))
          have hO2 : Hid (aclO s.data.toList = illA 3) := h2
          clear h0 h1 h2 hend
          generalize RS.T = TX at HT e1
          go_wp2_with fail
          refine (HT.out _ (Below.refl _ _)).mono ?_
          rintro e w4 ⟨rfl, hb4⟩
          have hY4 : Hid (W8 w4 w.heap.size) := hYr.out.below hb4
          have hW4 : Hid (Below w.heap.size w w4) := Below.on hWr.out hb4
          clear pl p0 p1 p2 p3 p4 p5 p6 pz0 pz1 pz2 pz3 pz4 pz5 pz6 hb4 HT
          obtain ⟨yl, y0, y1, y2, y3, y4, y5, y6, y7, yz⟩ := hY4.out
          have yz0 := yz 0
          have yz1 := yz 1
          have yz2 := yz 2
          have yz3 := yz 3
          have yz4 := yz 4
          have yz5 := yz 5
          have yz6 := yz 6
          have yz7 := yz 7
          clear yz
          go_wp2
          refine bodyPost_ret (v := .agg #[.int .i64 0, .int .i64 0, .int .i64 0, .slice none 0 0, .slice none 0 0, .bool false, .int .i64 0, .int .i64 3]) (by simp [results, Tryz.results15, go_sem, y0, y1, y2, y3, y4, y5, y6, y7]) rfl (answers_ill hO2.out ?_)
          repeat (refine bl_setL ?_ (Nat.le_refl _))
          exact hW4.out)
end Go.Proofs.YtgooanaacebncaaGreatDoor
