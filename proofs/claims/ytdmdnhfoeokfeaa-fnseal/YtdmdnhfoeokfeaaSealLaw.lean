/- The walk of laws.FnSeal over bytes that came in. -/
import Derived.Test.YtdmdnhfoeokfeaaDrawSeal
import Derived.Test.YtdmdnhfoeokfeaaSealMath
import Derived.Test.YtdmdnhfoeokfeaaLwAt
import Derived.Test.YtdmdnhfoeokfeaaStrBytes
import Derived.Deep.RegionWith
namespace Go.Proofs.Ytdmdnhfoeokfeaa
open Go.RowKit Go.PlainAid
set_option linter.unusedVariables false
theorem Code.later {a : Option Addr} {len : Nat} {g : Nat → Int} {w w' : World} (h : Code a len g w.heap.size w) (hb : Below w.heap.size w w') : Code a len g w'.heap.size w' :=
  ⟨h.1, h.2.1, fun hl => by
    obtain ⟨b, off, e, hlt, hc⟩ := h.2.2 hl
    exact ⟨b, off, e, Nat.lt_of_lt_of_le hlt hb.size, fun i hi => (hb.cell (p := ⟨b, off + i, none⟩) hlt).trans (hc i hi)⟩⟩
/-- Both CrcMores answer one and the same. -/
theorem crcMore_both (c : Int) (s : ByteArray) (hs : s.size ≤ maxLen) : ∃ v : Int,
    Hid (∀ w, Calls Try.prog 10 #[.int .i64 c, .string s] w fun e w' => e = .returned (.int .i64 v) ∧ w' = w) ∧
    Hid (∀ w, Calls Try.prog 11 #[.int .i64 c, .string s] w fun e w' => e = .returned (.int .i64 v) ∧ w' = w) := by
  by_cases h : 8000 < (s.size : Int) ∨ c < 0 ∨ 4294967295 < c
  · exact ⟨0, fun w => iCrcMore_no c s h hs w, fun w => sCrcMore_no c s h hs w⟩
  · exact ⟨crcOf s c, fun w => iCrcMore_yes c s ⟨by omega, by omega⟩ (by omega) w, fun w => sCrcMore_yes c s ⟨by omega, by omega⟩ (by omega) w⟩
/-- '[]byte(s)'. -/
theorem conv_new (w : World) (s : ByteArray) : ∃ (W : World) (cap : Nat), (convert 9 22 (.string s)).run Try.prog w = .ok (.slice (some ⟨w.heap.size, 0, none⟩) s.size cap) W ∧
    Hid (Holds W w.heap.size (bt s) s.size ∧ Below w.heap.size w W ∧ w.heap.size < W.heap.size) :=
  ⟨_, _, run_bytes_of_string (P := Try.prog) w 9 22 5 s Try.underlying9 Try.underlying22 Try.underlying5,
    conv_holds w s _ _, ((Below.refl _ _).drew).alloc (Nat.le_refl _) _, by rw [World.alloc]; exact Nat.lt_of_lt_of_eq (Nat.lt_succ_self _) (Array.size_push _).symm⟩
/-- Both Seals answer one and the same. -/
def sealT (t : ByteArray) : ByteArray := if t.size ≤ 7996 then sealOf t else ⟨#[]⟩
theorem iSeal_t (t : ByteArray) (ht : t.size ≤ 20000) (w : World) : Calls Try.prog 5 #[.string t] w fun e w' => e = .returned (.string (sealT t)) ∧ Below w.heap.size w w' := by
  by_cases h : t.size ≤ 7996
  · rw [sealT, if_pos h]; exact iSeal_yes t h w
  · rw [sealT, if_neg h]; exact iSeal_no t (by omega) (by unfold maxLen; omega) w
theorem sSeal_t (t : ByteArray) (ht : t.size ≤ 20000) (w : World) : Calls Try.prog 6 #[.string t] w fun e w' => e = .returned (.string (sealT t)) ∧ Below w.heap.size w w' := by
  by_cases h : t.size ≤ 7996
  · rw [sealT, if_pos h]; exact sSeal_yes t h w
  · rw [sealT, if_neg h]; exact sSeal_no t (by omega) (by unfold maxLen; omega) w
theorem turn_byte {x r : Int} (h1 : 0 ≤ x) (h2 : x ≤ 255) (h3 : 0 ≤ r) (h4 : r ≤ 254) :
    0 ≤ bits BinOp.xor IntKind.u8 x (IntKind.u8.wrap (IntKind.i64.wrap (1 + r))) ∧ bits BinOp.xor IntKind.u8 x (IntKind.u8.wrap (IntKind.i64.wrap (1 + r))) ≤ 255 ∧ bits BinOp.xor IntKind.u8 x (IntKind.u8.wrap (IntKind.i64.wrap (1 + r))) ≠ x := by
  have e : IntKind.u8.wrap (IntKind.i64.wrap (1 + r)) = 1 + r := by rw [IntKind.wrap_i64, IntKind.wrap_u8]; omega
  rw [e]
  obtain ⟨b1, b2⟩ := bounds_u8 (wf_bits .xor .u8 x (1 + r))
  refine ⟨b1, b2, ?_⟩
  rw [u8_xor x (1 + r) h1 (by omega) (by omega) (by omega)]
  intro e2
  have e3 : x.toNat ^^^ (1 + r).toNat = x.toNat ^^^ 0 := by rw [Nat.xor_zero]; omega
  have := xorL e3
  omega
theorem fieldCode (x : ByteArray) (a c : Int) (w : World) : (Instr.field 27 (.agg #[.string x, .int .i64 a, .int .i64 c]) 2).run Try.prog w = .ok (.int .i64 c) w := by kernel_rfl
theorem uns_back (t : ByteArray) (h : t.size ≤ 7996) (w : World) : Calls Try.prog 8 #[.string (sealOf t)] w fun e w' => e = .returned (.agg #[.string t, .int .i64 0, .int .i64 0]) ∧ Below w.heap.size w w' := by
  have hz := sealOf_size t
  have hb := seal_body t
  have e1 : unsT (sealOf t) = t := by unfold unsT; rw [if_pos ⟨by omega, by omega, by rw [hb]⟩]; exact hb
  have e2 : unsC (sealOf t) = 0 := by unfold unsC; rw [if_neg (by omega), if_neg (by omega), if_pos (by rw [hb])]
  have := iUnseal_any (sealOf t) (by unfold maxLen; omega) w
  rw [e1, e2] at this
  exact this
theorem uns_turned (t : ByteArray) (h : t.size ≤ 7996) (i : Nat) (hi : i < (sealOf t).size) (V : Int) (hf : ∀ k, k < (sealOf t).size → 0 ≤ (if k = i then V else bt (sealOf t) k) ∧ (if k = i then V else bt (sealOf t) k) ≤ 255) (hd : V ≠ bt (sealOf t) i) (w : World) :
    Calls Try.prog 8 #[.string (txtOf (fun k => if k = i then V else bt (sealOf t) k) (sealOf t).size)] w fun e w' => e = .returned (.agg #[.string ⟨#[]⟩, .int .i64 0, .int .i64 5]) ∧ Below w.heap.size w w' := by
  have hz := sealOf_size t
  have zs := txtOf_size (fun k => if k = i then V else bt (sealOf t) k) (sealOf t).size
  have hno : ¬ sealOf (bodyOf (txtOf (fun k => if k = i then V else bt (sealOf t) k) (sealOf t).size)) = txtOf (fun k => if k = i then V else bt (sealOf t) k) (sealOf t).size := by
    refine seal_turn (t := t) (i := i) zs (by omega) (fun k hk => ?_) ?_
    · by_cases hks : k < (sealOf t).size
      · rw [txtOf_bt hks (hf k hks)]; exact if_neg hk
      · rw [bt_end _ (by omega), bt_end _ (by omega)]
    · rw [txtOf_bt hi (hf i hi)]
      simp only [if_pos]
      exact hd
  generalize txtOf (fun k => if k = i then V else bt (sealOf t) k) (sealOf t).size = s' at zs hno ⊢
  have e1 : unsT s' = ⟨#[]⟩ := by unfold unsT; rw [if_neg (fun h => hno h.2.2)]
  have e2 : unsC s' = 5 := by unfold unsC; rw [if_neg (by omega), if_neg (by omega), if_neg hno]
  have := iUnseal_any s' (by unfold maxLen; omega) w
  rw [e1, e2] at this
  exact this
set_option maxRecDepth 100000 in
set_option maxHeartbeats 4000000 in
theorem sealLaw (a0 : Option Addr) (len0 cap0 : Nat) (g0 : Nat → Int) (a1 : Option Addr) (len1 cap1 : Nat) (g1 : Nat → Int) (w : World) (c0 : Code a0 len0 g0 w.heap.size w) (c1 : Code a1 len1 g1 w.heap.size w) :
    Calls Try.prog 3 #[.slice a0 len0 cap0, .slice a1 len1 cap1] w fun e w' => e = .returned (.bool true) ∧ Below w.heap.size w w' := by
  have HC0 : Hid (Code a0 len0 g0 w.heap.size w) := c0
  have HC1 : Hid (Code a1 len1 g1 w.heap.size w) := c1
  have l0 : decide (1048576 < (len0 : Int)) = false := by have := c0.1; simp; omega
  have l1 : decide (1048576 < (len1 : Int)) = false := by have := c1.1; simp; omega
  clear c0 c1
  go_enter Try.func3, Try.ntmps3
  go_wp2_with (go_at_call 4; refine (drawSeal_any a0 len0 cap0 g0 _ HC0.out).mono ?_; rintro e w1 ⟨t, ht, rfl, hb1⟩)
  refine (iSeal_t t ht _).mono ?_
  rintro e w2 ⟨rfl, hb2'⟩
  have hb2 := hb1.trans (hb2'.mono hb1.size)
  clear hb2' hb1
  by_cases h7 : t.size ≤ 7996
  · have es : sealT t = sealOf t := by rw [sealT, if_pos h7]
    have hz := sealOf_size t
    have hne : (sealOf t).toList.isEmpty = false := by
      rw [ByteArray.toList_eq, List.isEmpty_eq_false_iff]
      intro e
      have : (sealOf t).data.toList.length = 0 := by rw [e]; rfl
      have h2 : (sealOf t).size = (sealOf t).data.toList.length := Lib.size_eq _
      omega
    have hsz : (sealOf t).size ≤ 8000 := by omega
    have hsz4 : 4 ≤ (sealOf t).size := by omega
    have HZ : Hid ((sealOf t).size = t.size + 4) := hz
    clear hz
    rw [es]
    have hsb : Hid (∀ w, Calls Try.prog 6 #[.string t] w fun e w' => e = .returned (.string (sealOf t)) ∧ Below w.heap.size w w') := fun w => by have := sSeal_t t ht w; rw [es] at this; exact this
    clear es
    go_wp2_with (first | (go_at_call 6; refine (hsb.out _).mono ?_; rintro e w3 ⟨rfl, hb3'⟩; have HB3 : Hid (Below w.heap.size w w3) := hb2.trans (hb3'.mono hb2.size); obtain ⟨W, cap, hcv, hW⟩ := conv_new w3 (sealOf t); clear hb2 hb3') | (go_at_call 7; refine (lwAt_any a1 len1 cap1 g1 _ 0 (by decide) _ (by omega) _ ((HC1.out.later HB3.out).later hW.out.2.1)).mono ?_; rintro e w4 ⟨r, r0, r1, rfl, rfl⟩; obtain ⟨i, hi⟩ := Int.eq_ofNat_of_zero_le r0; subst hi; have hil : i < (sealOf t).size := (by omega)))
    have hcell := hW.out.1.1 i hil
    have hfr := hW.out.1.2 i hil
    have z1 := bt_nonneg (sealOf t) i
    have z2 := bt_le (sealOf t) i
    have hC4 : Hid (Code a1 len1 g1 w4.heap.size w4) := (HC1.out.later HB3.out).later hW.out.2.1
    have hiZ : (i : Int) < ((sealOf t).size : Int) := by omega
    go_region_with (go_at_call 7; refine (lwAt_any a1 len1 cap1 g1 w4.heap.size 1 (by decide) 255 (by decide) _ (by exact hC4.out)).mono ?_; rintro e w5 ⟨r2, r3, r4, rfl, rfl⟩)
    all_goals
      have r5 : r2 ≤ 254 := by omega
      have hV := turn_byte (x := bt (sealOf t) i) z1 z2 r3 r5
      generalize bits BinOp.xor IntKind.u8 (bt (sealOf t) i) (IntKind.u8.wrap (IntKind.i64.wrap (1 + r2))) = V at hV ⊢
      have HH : Hid (Holds (w4.setCell ⟨w3.heap.size, i, none⟩ (.int .u8 V)).drew w3.heap.size (fun k => if k = i then V else bt (sealOf t) k) (sealOf t).size) := (hW.out.1.set i hil V).drew
      have HB5 : Hid (Below w.heap.size w (w4.setCell ⟨w3.heap.size, i, none⟩ (.int .u8 V)).drew) := ((HB3.out.trans (hW.out.2.1.mono HB3.out.size)).setCell HB3.out.size _).drew
      have hS5 : w3.heap.size < (w4.setCell ⟨w3.heap.size, i, none⟩ (.int .u8 V)).drew.heap.size := by have := hW.out.2.2; simpa using this
      generalize (w4.setCell ⟨w3.heap.size, i, none⟩ (.int .u8 V)).drew = w6 at HH HB5 hS5 ⊢
      have hf' : Hid (∀ k, k < (sealOf t).size → 0 ≤ (if k = i then V else bt (sealOf t) k) ∧ (if k = i then V else bt (sealOf t) k) ≤ 255) := by
        intro k hk
        by_cases e : k = i
        · simp only [if_pos e]; exact ⟨hV.1, hV.2.1⟩
        · simp only [if_neg e]; exact ⟨bt_nonneg _ _, bt_le _ _⟩
      have hU1 : Hid (∀ w, Calls Try.prog 8 #[.string (sealOf t)] w fun e w' => e = .returned (.agg #[.string t, .int .i64 0, .int .i64 0]) ∧ Below w.heap.size w w') := uns_back t h7
      have hU2 : Hid (∀ w, Calls Try.prog 8 #[.string (txtOf (fun k => if k = i then V else bt (sealOf t) k) (sealOf t).size)] w fun e w' => e = .returned (.agg #[.string ⟨#[]⟩, .int .i64 0, .int .i64 5]) ∧ Below w.heap.size w w') := uns_turned t h7 i hil V hf'.out hV.2.2
      clear hcell hfr hcv hW hC4 r0 r1 r3 r4 r5
      go_wp2_with fail
      refine (hU1.out _).mono ?_
      rintro e w7 ⟨rfl, hb7⟩
      have hcv2 := Holds.text (P := Try.prog) 22 5 9 Try.underlying22 Try.underlying5 Try.underlying9 (HH.out.below hS5 hb7) hf'.out cap
      have HB7 : Hid (Below w.heap.size w w7) := HB5.out.trans (hb7.mono HB5.out.size)
      clear hb7 HH
      go_wp2_with fail
      refine (hU2.out _).mono ?_
      rintro e w8 ⟨rfl, hb8⟩
      have hfl := fieldCode
      have HB8 : Hid (Below w.heap.size w w8) := HB7.out.trans (hb8.mono HB7.out.size)
      clear hb8 hcv2 hU1 hU2 hf'
      go_wp2_with fail
      refine (drawCrcMore_any a1 len1 cap1 g1 _ (HC1.out.later HB8.out)).mono ?_
      rintro e w9 ⟨c, u, c1, c2, hu, rfl, hb9'⟩
      have HB9 : Hid (Below w.heap.size w w9) := (HB8.out).trans (hb9'.mono (HB8.out).size)
      obtain ⟨v, hI, hS⟩ := crcMore_both c u (by unfold maxLen; omega)
      clear hb9'
      by_cases h8 : 8000 < (t.size : Int) + (u.size : Int)
      · go_wp2
        go_ret
        exact ⟨rfl, HB9.out⟩
      · have ht8 : t.size ≤ 8000 := by omega
        have hu8 : u.size ≤ 8000 := by omega
        have htu : (t ++ u).size ≤ 8000 := by rw [ByteArray.size_append]; omega
        have hR : Hid (Reg (crcOf t 0)) := crcOf_Reg t 0
        have HM : Hid (crcOf u (crcOf t 0) = crcOf (t ++ u) 0) := crc_more t u
        have hM2 : Hid (∀ w, Calls Try.prog 10 #[.int .i64 (crcOf t 0), .string u] w fun e w' => e = .returned (.int .i64 (crcOf (t ++ u) 0)) ∧ w' = w) := fun w => by
          have := iCrcMore_yes (crcOf t 0) u hR.out hu8 w
          rw [HM.out] at this
          exact this
        have hC1 : Hid (∀ w, Calls Try.prog 12 #[.string t] w fun e w' => e = .returned (.int .i64 (crcOf t 0)) ∧ w' = w) := iCrc_yes t ht8
        have hC2 : Hid (∀ w, Calls Try.prog 12 #[.string (t ++ u)] w fun e w' => e = .returned (.int .i64 (crcOf (t ++ u) 0)) ∧ w' = w) := iCrc_yes (t ++ u) htu
        have hno : ¬ 9223372036854775807 < t.size + u.size := by omega
        go_wp2_with (first | (go_at_call 11; refine (hS.out _).mono ?_; rintro e w' ⟨rfl, rfl⟩) | (go_at_call 10; refine (hI.out _).mono ?_; rintro e w' ⟨rfl, rfl⟩))
        refine (hC1.out _).mono ?_
        rintro e w' ⟨rfl, rfl⟩
        go_wp2_with fail
        refine (hM2.out _).mono ?_
        rintro e w' ⟨rfl, rfl⟩
        go_wp2_with fail
        refine (hC2.out _).mono ?_
        rintro e w' ⟨rfl, rfl⟩
        go_wp2
        go_ret
        exact ⟨rfl, HB9.out⟩
  · have es : sealT t = ⟨#[]⟩ := by rw [sealT, if_neg h7]
    rw [es]
    have hsb : Hid (∀ w, Calls Try.prog 6 #[.string t] w fun e w' => e = .returned (.string ⟨#[]⟩) ∧ Below w.heap.size w w') := fun w => by have := sSeal_t t ht w; rw [es] at this; exact this
    clear es
    go_wp2_with (go_at_call 6; refine (hsb.out _).mono ?_; rintro e w3 ⟨rfl, hb3'⟩; have HB3 : Hid (Below w.heap.size w w3) := hb2.trans (hb3'.mono hb2.size); clear hb2 hb3')
    refine (drawCrcMore_any a1 len1 cap1 g1 _ (HC1.out.later HB3.out)).mono ?_
    rintro e w9 ⟨c, u, c1, c2, hu, rfl, hb9'⟩
    have HB9 : Hid (Below w.heap.size w w9) := (HB3.out).trans (hb9'.mono (HB3.out).size)
    obtain ⟨v, hI, hS⟩ := crcMore_both c u (by unfold maxLen; omega)
    clear hb9'
    by_cases h8 : 8000 < (t.size : Int) + (u.size : Int)
    · go_wp2
      go_ret
      exact ⟨rfl, HB9.out⟩
    · have ht8 : t.size ≤ 8000 := by omega
      have hu8 : u.size ≤ 8000 := by omega
      have htu : (t ++ u).size ≤ 8000 := by rw [ByteArray.size_append]; omega
      have hR : Hid (Reg (crcOf t 0)) := crcOf_Reg t 0
      have HM : Hid (crcOf u (crcOf t 0) = crcOf (t ++ u) 0) := crc_more t u
      have hM2 : Hid (∀ w, Calls Try.prog 10 #[.int .i64 (crcOf t 0), .string u] w fun e w' => e = .returned (.int .i64 (crcOf (t ++ u) 0)) ∧ w' = w) := fun w => by
        have := iCrcMore_yes (crcOf t 0) u hR.out hu8 w
        rw [HM.out] at this
        exact this
      have hC1 : Hid (∀ w, Calls Try.prog 12 #[.string t] w fun e w' => e = .returned (.int .i64 (crcOf t 0)) ∧ w' = w) := iCrc_yes t ht8
      have hC2 : Hid (∀ w, Calls Try.prog 12 #[.string (t ++ u)] w fun e w' => e = .returned (.int .i64 (crcOf (t ++ u) 0)) ∧ w' = w) := iCrc_yes (t ++ u) htu
      have hno : ¬ 9223372036854775807 < t.size + u.size := by omega
      go_wp2_with (first | (go_at_call 11; refine (hS.out _).mono ?_; rintro e w' ⟨rfl, rfl⟩) | (go_at_call 10; refine (hI.out _).mono ?_; rintro e w' ⟨rfl, rfl⟩))
      refine (hC1.out _).mono ?_
      rintro e w' ⟨rfl, rfl⟩
      go_wp2_with fail
      refine (hM2.out _).mono ?_
      rintro e w' ⟨rfl, rfl⟩
      go_wp2_with fail
      refine (hC2.out _).mono ?_
      rintro e w' ⟨rfl, rfl⟩
      go_wp2
      go_ret
      exact ⟨rfl, HB9.out⟩
end Go.Proofs.Ytdmdnhfoeokfeaa
