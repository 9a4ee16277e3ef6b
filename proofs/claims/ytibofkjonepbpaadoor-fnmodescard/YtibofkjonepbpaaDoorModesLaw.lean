/- The walk of laws.FnModes over bytes that came in. -/
import Derived.Test.YtibofkjonepbpaaDoorDrawModes
import Derived.Test.YtibofkjonepbpaaDoorHasWalks
import Derived.Test.YtibofkjonepbpaaDoorWhole
import Derived.Test.YtibofkjonepbpaaDoorWholeMode
import Derived.Test.YtibofkjonepbpaaDoorSBitsRead
import Derived.Test.YtibofkjonepbpaaDoorSModeRead
import Derived.Test.YtibofkjonepbpaaDoorSOctRead
import Derived.Test.YtibofkjonepbpaaDoorIModeText
import Derived.Lib.QuietBelow
import Derived.Deep.DeepCutAuto
namespace Go.Proofs.YtibofkjonepbpaaDoor
open Go.RowKit Go.PlainAid Go.Deep
set_option linter.unusedVariables false
theorem Code.later {a : Option Addr} {len : Nat} {g : Nat → Int} {w w' : World} (h : Code a len g w.heap.size w) (hb : Below w.heap.size w w') : Code a len g w'.heap.size w' :=
  ⟨h.1, h.2.1, fun hl => by
    obtain ⟨b, off, e, hlt, hc⟩ := h.2.2 hl
    exact ⟨b, off, e, Nat.lt_of_lt_of_le hlt hb.size, fun i hi => (hb.cell (p := ⟨b, off + i, none⟩) hlt).trans (hc i hi)⟩⟩
theorem not_empty {t : ByteArray} (h : 0 < t.size) : t.toList.isEmpty = false := by
  rw [ByteArray.toList_eq, List.isEmpty_eq_false_iff]
  intro e
  have h3 : t.data.toList.length = 0 := by rw [e]; rfl
  have h2 : t.size = t.data.toList.length := Lib.size_eq _
  omega
/-- Three cells of a number and a code. -/
structure Box3N (w : World) (B : Nat) (n c : Int) : Prop where
  lt : B < w.heap.size
  c0 : w.cell? ⟨B, 0, none⟩ = some (.int .i64 n)
  c1 : w.cell? ⟨B, 1, none⟩ = some (.int .i64 0)
  c2 : w.cell? ⟨B, 2, none⟩ = some (.int .i64 c)
theorem Box3N.below {w w' : World} {B : Nat} {n c : Int} (h : Box3N w B n c) (hb : Below w.heap.size w w') : Box3N w' B n c :=
  ⟨Nat.lt_of_lt_of_le h.lt hb.size, (hb.cell (p := ⟨B, 0, none⟩) h.lt).trans h.c0, (hb.cell (p := ⟨B, 1, none⟩) h.lt).trans h.c1, (hb.cell (p := ⟨B, 2, none⟩) h.lt).trans h.c2⟩
theorem box3N_new (w : World) (n c : Int) (t : TypeId) : Box3N (w.alloc (.cells #[.int .i64 n, .int .i64 0, .int .i64 c] t)) w.heap.size n c := by
  refine ⟨by simp, ?_, ?_, ?_⟩ <;> (rw [lit_cell]; rfl)
theorem back_bits {b : Int} (h : bitsS b = ⟨#[]⟩ → False) : 0 ≤ b ∧ b ≤ 7 := Decidable.byContradiction fun e => h (bitsS_off e)
theorem wh_back {s : ByteArray} {o : Option Nat} {n : Nat} (h : s.size ≤ 8000) (e : o = some n) : whN s o = n ∧ whC s o = 0 := wh_some (by omega) e
theorem empty_or {t : ByteArray} : t = ⟨#[]⟩ ∨ 0 < t.size := by
  by_cases h : t.size = 0
  · exact .inl (empty_of h)
  · exact .inr (by omega)
/-- What comes back from the text of bits. -/
theorem bits_back (b : Int) : bitsS b = ⟨#[]⟩ ∨ ((bitsS b).toList.isEmpty = false ∧ ∀ w, Calls Tryd.prog 28 #[.string (bitsS b)] w fun e w' => e = .returned (.agg #[.int .i64 b, .int .i64 0, .int .i64 0]) ∧ Below w.heap.size w w') := by
  by_cases hb : 0 ≤ b ∧ b ≤ 7
  · obtain ⟨n, rfl⟩ := Int.eq_ofNat_of_zero_le hb.1
    have hn : n ≤ 7 := by omega
    rw [bitsS_in hn]
    refine .inr ⟨not_empty (by rw [bitsT_size]; omega), fun w => ?_⟩
    have h := iBitsRead_any (bitsT n) w
    have hw := wh_back (s := bitsT n) (by rw [bitsT_size]; omega) (rdB_some hn rfl)
    rw [numW, hw.1, hw.2] at h
    exact h
  · exact .inl (bitsS_off hb)
theorem mode_back (b : Int) : modeS b = ⟨#[]⟩ ∨ ((modeS b).toList.isEmpty = false ∧ ∀ w, PlW w → Calls Tryd.prog 29 #[.string (modeS b)] w fun e w' => e = .returned (.agg #[.int .i64 b, .int .i64 0, .int .i64 0]) ∧ Below w.heap.size w w') := by
  by_cases hb : 0 ≤ b ∧ b ≤ 4095
  · obtain ⟨n, rfl⟩ := Int.eq_ofNat_of_zero_le hb.1
    have hn : n ≤ 4095 := by omega
    have hz : (modeT n).size = 9 := by simp only [modeT, m1, m2, m3, ByteArray.size_append, thr_size]
    rw [modeS_in hn]
    refine .inr ⟨not_empty (by omega), fun w hp => ?_⟩
    have h := iModeRead_any (modeT n) w hp
    have hw := wh_back (s := modeT n) (by omega) (rdM_modeT hn)
    rw [numW, hw.1, hw.2] at h
    exact h
  · exact .inl (modeS_off hb)
theorem oct_back (b : Int) : octS b = ⟨#[]⟩ ∨ ((octS b).toList.isEmpty = false ∧ ∀ w, Calls Tryd.prog 30 #[.string (octS b)] w fun e w' => e = .returned (.agg #[.int .i64 b, .int .i64 0, .int .i64 0]) ∧ Below w.heap.size w w') := by
  by_cases hb : 0 ≤ b ∧ b ≤ 4095
  · obtain ⟨n, rfl⟩ := Int.eq_ofNat_of_zero_le hb.1
    have hn : n ≤ 4095 := by omega
    rw [octS_in hn]
    refine .inr ⟨not_empty (by rw [octT_size]; omega), fun w => ?_⟩
    have h := iOctRead_any (octT n) w
    have hw := wh_back (s := octT n) (by rw [octT_size]; omega) (rdO_octT hn)
    rw [numW, hw.1, hw.2] at h
    exact h
  · exact .inl (octS_off hb)
theorem whC_zero {s : ByteArray} {o : Option Nat} : (∃ n, o = some n ∧ whN s o = n ∧ whC s o = 0) ∨ (whC s o == 0) = false := by
  by_cases h : 8000 < s.size
  · exact .inr (by rw [(wh_long h o).2]; rfl)
  · cases o with
    | none => exact .inr (by rw [(wh_none h rfl).2]; rfl)
    | some n => exact .inl ⟨n, rfl, (wh_some h rfl).1, (wh_some h rfl).2⟩
theorem bits_told (s : ByteArray) : (whC s (rdB s) = 0 ∧ ∀ w, Calls Tryd.prog 25 #[.int .i64 (whN s (rdB s))] w fun e w' => e = .returned (.string s) ∧ Below w.heap.size w w') ∨ (whC s (rdB s) == 0) = false := by
  rcases whC_zero (s := s) (o := rdB s) with ⟨n, h1, h2, h3⟩ | h
  · refine .inl ⟨h3, fun w => ?_⟩
    obtain ⟨h4, h5⟩ := rdB_inv h1
    have h := iBitsText_any (n : Int) w
    rw [bitsS_in h4, h5] at h
    rw [h2]
    exact h
  · exact .inr h
theorem mode_told (s : ByteArray) : (whC s (rdM s) = 0 ∧ ∀ w, PlW w → Calls Tryd.prog 26 #[.int .i64 (whN s (rdM s))] w fun e w' => e = .returned (.string s) ∧ Below w.heap.size w w') ∨ (whC s (rdM s) == 0) = false := by
  rcases whC_zero (s := s) (o := rdM s) with ⟨n, h1, h2, h3⟩ | h
  · refine .inl ⟨h3, fun w hp => ?_⟩
    obtain ⟨h4, h5⟩ := rdM_inv h1
    have h := iModeText_any (n : Int) w hp
    rw [modeS_in h4, h5] at h
    rw [h2]
    exact h
  · exact .inr h
theorem oct_told (s : ByteArray) : (whC s (rdO s) = 0 ∧ ∀ w, Calls Tryd.prog 27 #[.int .i64 (whN s (rdO s))] w fun e w' => e = .returned (.string s) ∧ Below w.heap.size w w') ∨ (whC s (rdO s) == 0) = false := by
  rcases whC_zero (s := s) (o := rdO s) with ⟨n, h1, h2, h3⟩ | h
  · refine .inl ⟨h3, fun w => ?_⟩
    obtain ⟨h4, h5, _⟩ := rdO_inv h1
    have h := iOctText_any (n : Int) w
    rw [octS_in h4, h5] at h
    rw [h2]
    exact h
  · exact .inr h
set_option maxRecDepth 100000 in
set_option maxHeartbeats 4000000 in
theorem modesLaw (hDH : ∀ (a : Option Addr) (len cap : Nat) (g : Nat → Int) (w : World), Code a len g w.heap.size w → Calls Tryd.prog 24 #[.slice a len cap] w fun e w' => ∃ x y : Int, e = .returned (.tuple #[.int .i64 x, .int .i64 y]) ∧ Below w.heap.size w w')
    (a0 : Option Addr) (len0 cap0 : Nat) (g0 : Nat → Int) (a1 : Option Addr) (len1 cap1 : Nat) (g1 : Nat → Int) (w : World) (hp : PlW w) (c0 : Code a0 len0 g0 w.heap.size w) (c1 : Code a1 len1 g1 w.heap.size w) :
    Calls Tryd.prog 4 #[.slice a0 len0 cap0, .slice a1 len1 cap1] w fun e w' => e = .returned (.bool true) ∧ Below w.heap.size w w' := by
  have HC0 : Hid (Code a0 len0 g0 w.heap.size w) := c0
  have HC1 : Hid (Code a1 len1 g1 w.heap.size w) := c1
  have HP : Hid (PlW w) := hp
  have HD : Hid (∀ (a : Option Addr) (len cap : Nat) (g : Nat → Int) (w : World), Code a len g w.heap.size w → Calls Tryd.prog 24 #[.slice a len cap] w fun e w' => ∃ x y : Int, e = .returned (.tuple #[.int .i64 x, .int .i64 y]) ∧ Below w.heap.size w w') := hDH
  have l0 : decide (1048576 < (len0 : Int)) = false := by have := c0.1; simp; omega
  have l1 : decide (1048576 < (len1 : Int)) = false := by have := c1.1; simp; omega
  clear c0 c1 hp hDH
  go_enter Tryd.func4, Tryd.ntmps4
  go_wp2_with fail
  refine (dDrawBitsText_any a0 len0 cap0 g0 _ HC0.out).mono ?_
  rintro e w1 ⟨b, rfl, b1, b2, hb1⟩
  have HB1 : Hid (Below w.heap.size w w1) := hb1
  clear hb1
  go_wp2_with fail
  refine (dDrawModeText_any a0 len0 cap0 g0 _ (HC0.out.later HB1.out)).mono ?_
  rintro e w2 ⟨m, rfl, m1, m2, hb⟩
  have HB2 : Hid (Below w.heap.size w w2) := bl_thenW HB1.out hb
  clear hb HB1
  go_wp2_with fail
  refine (dDrawOctText_any a1 len1 cap1 g1 _ (HC1.out.later HB2.out)).mono ?_
  rintro e w3 ⟨o, rfl, o1, o2, hb⟩
  have HB3 : Hid (Below w.heap.size w w3) := bl_thenW HB2.out hb
  clear hb HB2
  go_wp2_with fail
  refine (dDrawBitsRead_any a1 len1 cap1 g1 _ (HC1.out.later HB3.out)).mono ?_
  rintro e w4 ⟨p, p1, rfl, hb⟩
  have HB4 : Hid (Below w.heap.size w w4) := bl_thenW HB3.out hb
  clear hb HB3
  go_wp2_with fail
  refine (dDrawModeRead_any a1 len1 cap1 g1 _ (HC1.out.later HB4.out)).mono ?_
  rintro e w5 ⟨q, q1, rfl, hb⟩
  have HB5 : Hid (Below w.heap.size w w5) := bl_thenW HB4.out hb
  clear hb HB4
  go_wp2_with fail
  refine (dDrawOctRead_any a0 len0 cap0 g0 _ (HC0.out.later HB5.out)).mono ?_
  rintro e w6 ⟨r, r1, rfl, hb⟩
  have HB6 : Hid (Below w.heap.size w w6) := bl_thenW HB5.out hb
  clear hb HB5
  go_wp2_with fail
  refine (HD.out a1 len1 cap1 g1 _ (HC1.out.later HB6.out)).mono ?_
  rintro e w7 ⟨h, v, rfl, hb⟩
  have HB7 : Hid (Below w.heap.size w w7) := bl_thenW HB6.out hb
  clear hb HB6 HD HC0 HC1
  have iB : Hid (∀ w, Calls Tryd.prog 25 #[.int .i64 b] w fun e w' => e = .returned (.string (bitsS b)) ∧ Below w.heap.size w w') := iBitsText_any b
  have iM : Hid (∀ w, PlW w → Calls Tryd.prog 26 #[.int .i64 m] w fun e w' => e = .returned (.string (modeS m)) ∧ Below w.heap.size w w') := iModeText_any m
  have iO : Hid (∀ w, Calls Tryd.prog 27 #[.int .i64 o] w fun e w' => e = .returned (.string (octS o)) ∧ Below w.heap.size w w') := iOctText_any o
  have sB : Hid (∀ w, Calls Tryd.prog 31 #[.int .i64 b] w fun e w' => e = .returned (.string (bitsS b)) ∧ w' = w) := sBitsText_any b
  have sM : Hid (∀ w, Calls Tryd.prog 32 #[.int .i64 m] w fun e w' => e = .returned (.string (modeS m)) ∧ w' = w) := sModeText_any m
  have sO : Hid (∀ w, Calls Tryd.prog 33 #[.int .i64 o] w fun e w' => e = .returned (.string (octS o)) ∧ Below w.heap.size w w') := sOctText_any o
  have kB : Hid (bitsS b = ⟨#[]⟩ ∨ ((bitsS b).toList.isEmpty = false ∧ ∀ w, Calls Tryd.prog 28 #[.string (bitsS b)] w fun e w' => e = .returned (.agg #[.int .i64 b, .int .i64 0, .int .i64 0]) ∧ Below w.heap.size w w')) := bits_back b
  have kM : Hid (modeS m = ⟨#[]⟩ ∨ ((modeS m).toList.isEmpty = false ∧ ∀ w, PlW w → Calls Tryd.prog 29 #[.string (modeS m)] w fun e w' => e = .returned (.agg #[.int .i64 m, .int .i64 0, .int .i64 0]) ∧ Below w.heap.size w w')) := mode_back m
  have kO : Hid (octS o = ⟨#[]⟩ ∨ ((octS o).toList.isEmpty = false ∧ ∀ w, Calls Tryd.prog 30 #[.string (octS o)] w fun e w' => e = .returned (.agg #[.int .i64 o, .int .i64 0, .int .i64 0]) ∧ Below w.heap.size w w')) := oct_back o
  generalize bitsS b = T at iB sB kB
  generalize modeS m = U at iM sM kM
  generalize octS o = V at iO sO kO
  have jB : Hid (∀ w, Calls Tryd.prog 28 #[.string p] w fun e w' => e = .returned (.agg #[.int .i64 (whN p (rdB p)), .int .i64 0, .int .i64 (whC p (rdB p))]) ∧ Below w.heap.size w w') := iBitsRead_any p
  have jM : Hid (∀ w, PlW w → Calls Tryd.prog 29 #[.string q] w fun e w' => e = .returned (.agg #[.int .i64 (whN q (rdM q)), .int .i64 0, .int .i64 (whC q (rdM q))]) ∧ Below w.heap.size w w') := iModeRead_any q
  have jO : Hid (∀ w, Calls Tryd.prog 30 #[.string r] w fun e w' => e = .returned (.agg #[.int .i64 (whN r (rdO r)), .int .i64 0, .int .i64 (whC r (rdO r))]) ∧ Below w.heap.size w w') := iOctRead_any r
  have tB : Hid (∀ w, Calls Tryd.prog 34 #[.string p] w fun e w' => e = .returned (.agg #[.int .i64 (whN p (rdB p)), .int .i64 0, .int .i64 (whC p (rdB p))]) ∧ Below w.heap.size w w') := sBitsRead_any p
  have tM : Hid (∀ w, Calls Tryd.prog 35 #[.string q] w fun e w' => e = .returned (.agg #[.int .i64 (whN q (rdM q)), .int .i64 0, .int .i64 (whC q (rdM q))]) ∧ Below w.heap.size w w') := sModeRead_any q
  have tO : Hid (∀ w, Calls Tryd.prog 36 #[.string r] w fun e w' => e = .returned (.agg #[.int .i64 (whN r (rdO r)), .int .i64 0, .int .i64 (whC r (rdO r))]) ∧ Below w.heap.size w w') := sOctRead_any r
  have eB : Hid ((whC p (rdB p) = 0 ∧ ∀ w, Calls Tryd.prog 25 #[.int .i64 (whN p (rdB p))] w fun e w' => e = .returned (.string p) ∧ Below w.heap.size w w') ∨ (whC p (rdB p) == 0) = false) := bits_told p
  have eM : Hid ((whC q (rdM q) = 0 ∧ ∀ w, PlW w → Calls Tryd.prog 26 #[.int .i64 (whN q (rdM q))] w fun e w' => e = .returned (.string q) ∧ Below w.heap.size w w') ∨ (whC q (rdM q) == 0) = false) := mode_told q
  have eO : Hid ((whC r (rdO r) = 0 ∧ ∀ w, Calls Tryd.prog 27 #[.int .i64 (whN r (rdO r))] w fun e w' => e = .returned (.string r) ∧ Below w.heap.size w w') ∨ (whC r (rdO r) == 0) = false) := oct_told r
  generalize whN p (rdB p) = xn, whC p (rdB p) = xc at jB tB eB
  generalize whN q (rdM q) = yn, whC q (rdM q) = yc at jM tM eM
  generalize whN r (rdO r) = zn, whC r (rdO r) = zc at jO tO eO
  clear b1 b2 m1 m2 o1 o2 p1 q1 r1
  go_wp2_with fail
  refine (iB.out _).mono ?_
  rintro e w8 ⟨rfl, hb⟩
  have HB8 : Hid (Below w.heap.size w w8) := bl_thenW HB7.out hb
  clear hb HB7 iB
  go_wp2_with fail
  refine (iM.out _ (HP.out.below HB8.out)).mono ?_
  rintro e w9 ⟨rfl, hb⟩
  have HB9 : Hid (Below w.heap.size w w9) := bl_thenW HB8.out hb
  clear hb HB8 iM
  go_wp2_with fail
  refine (iO.out _).mono ?_
  rintro e w10 ⟨rfl, hb⟩
  have HB10 : Hid (Below w.heap.size w w10) := bl_thenW HB9.out hb
  clear hb HB9 iO
  go_wp2_with fail
  refine (jB.out _).mono ?_
  rintro e w11 ⟨rfl, hb⟩
  have HB11 : Hid (Below w.heap.size w w11) := bl_thenW HB10.out hb
  clear hb HB10 jB
  go_wp2_with fail
  refine (jM.out _ (HP.out.below HB11.out)).mono ?_
  rintro e w12 ⟨rfl, hb⟩
  have HB12 : Hid (Below w.heap.size w w12) := bl_thenW HB11.out hb
  clear hb HB11 jM
  go_wp2_with fail
  refine (jO.out _).mono ?_
  rintro e w13 ⟨rfl, hb⟩
  have HB13 : Hid (Below w.heap.size w w13) := bl_thenW HB12.out hb
  clear hb HB12 jO
  go_wp2_with fail
  have HX : Hid (Box3N (((w13.alloc (.cells #[.int .i64 xn, .int .i64 0, .int .i64 xc] 43)).alloc (.cells #[.int .i64 yn, .int .i64 0, .int .i64 yc] 43)).alloc (.cells #[.int .i64 zn, .int .i64 0, .int .i64 zc] 43)) w13.heap.size xn xc) := ((box3N_new w13 xn xc 43).below (bl_thenW (bl_oneP) (bl_oneP)))
  have HY : Hid (Box3N (((w13.alloc (.cells #[.int .i64 xn, .int .i64 0, .int .i64 xc] 43)).alloc (.cells #[.int .i64 yn, .int .i64 0, .int .i64 yc] 43)).alloc (.cells #[.int .i64 zn, .int .i64 0, .int .i64 zc] 43)) (w13.heap.size + 1) yn yc) := (by
    have h := (box3N_new (w13.alloc (.cells #[.int .i64 xn, .int .i64 0, .int .i64 xc] 43)) yn yc 43).below (w' := (((w13.alloc (.cells #[.int .i64 xn, .int .i64 0, .int .i64 xc] 43)).alloc (.cells #[.int .i64 yn, .int .i64 0, .int .i64 yc] 43)).alloc (.cells #[.int .i64 zn, .int .i64 0, .int .i64 zc] 43))) bl_oneP
    have e : (w13.alloc (.cells #[.int .i64 xn, .int .i64 0, .int .i64 xc] 43)).heap.size = w13.heap.size + 1 := (by simp)
    rw [e] at h
    exact h)
  have HZ : Hid (Box3N (((w13.alloc (.cells #[.int .i64 xn, .int .i64 0, .int .i64 xc] 43)).alloc (.cells #[.int .i64 yn, .int .i64 0, .int .i64 yc] 43)).alloc (.cells #[.int .i64 zn, .int .i64 0, .int .i64 zc] 43)) (w13.heap.size + 1 + 1) zn zc) := (by
    have h := box3N_new ((w13.alloc (.cells #[.int .i64 xn, .int .i64 0, .int .i64 xc] 43)).alloc (.cells #[.int .i64 yn, .int .i64 0, .int .i64 yc] 43)) zn zc 43
    have e : ((w13.alloc (.cells #[.int .i64 xn, .int .i64 0, .int .i64 xc] 43)).alloc (.cells #[.int .i64 yn, .int .i64 0, .int .i64 yc] 43)).heap.size = w13.heap.size + 1 + 1 := (by simp)
    rw [e] at h
    exact h)
  have HB14 : Hid (Below w.heap.size w (((w13.alloc (.cells #[.int .i64 xn, .int .i64 0, .int .i64 xc] 43)).alloc (.cells #[.int .i64 yn, .int .i64 0, .int .i64 yc] 43)).alloc (.cells #[.int .i64 zn, .int .i64 0, .int .i64 zc] 43))) := bl_thenW HB13.out (bl_thenW (bl_thenW bl_oneP bl_oneP) bl_oneP)
  generalize (((w13.alloc (.cells #[.int .i64 xn, .int .i64 0, .int .i64 xc] 43)).alloc (.cells #[.int .i64 yn, .int .i64 0, .int .i64 yc] 43)).alloc (.cells #[.int .i64 zn, .int .i64 0, .int .i64 zc] 43)) = w14 at HX HY HZ HB14 ⊢
  generalize w13.heap.size = B at HX HY HZ ⊢
  clear HB13
  have x0 : ∀ d os, (Go.Sort.grow (redrawn w14 d) os).cell? ⟨B, 0, none⟩ = some (.int .i64 xn) := fun d os => cell_regrown HX.out.c0 d os
  have x1 : ∀ d os, (Go.Sort.grow (redrawn w14 d) os).cell? ⟨B, 1, none⟩ = some (.int .i64 0) := fun d os => cell_regrown HX.out.c1 d os
  have x2 : ∀ d os, (Go.Sort.grow (redrawn w14 d) os).cell? ⟨B, 2, none⟩ = some (.int .i64 xc) := fun d os => cell_regrown HX.out.c2 d os
  have y0 : ∀ d os, (Go.Sort.grow (redrawn w14 d) os).cell? ⟨B + 1, 0, none⟩ = some (.int .i64 yn) := fun d os => cell_regrown HY.out.c0 d os
  have y1 : ∀ d os, (Go.Sort.grow (redrawn w14 d) os).cell? ⟨B + 1, 1, none⟩ = some (.int .i64 0) := fun d os => cell_regrown HY.out.c1 d os
  have y2 : ∀ d os, (Go.Sort.grow (redrawn w14 d) os).cell? ⟨B + 1, 2, none⟩ = some (.int .i64 yc) := fun d os => cell_regrown HY.out.c2 d os
  have z0 : ∀ d os, (Go.Sort.grow (redrawn w14 d) os).cell? ⟨B + 1 + 1, 0, none⟩ = some (.int .i64 zn) := fun d os => cell_regrown HZ.out.c0 d os
  have z1 : ∀ d os, (Go.Sort.grow (redrawn w14 d) os).cell? ⟨B + 1 + 1, 1, none⟩ = some (.int .i64 0) := fun d os => cell_regrown HZ.out.c1 d os
  have z2 : ∀ d os, (Go.Sort.grow (redrawn w14 d) os).cell? ⟨B + 1 + 1, 2, none⟩ = some (.int .i64 zc) := fun d os => cell_regrown HZ.out.c2 d os
  have cB : ∀ d os, Calls Tryd.prog 31 #[.int .i64 b] (Go.Sort.grow (redrawn w14 d) os) fun e w'' => e = .returned (.string T) ∧ ∃ p : Regrown, w'' = Go.Sort.grow (redrawn w14 p.d) p.os := fun d os => Calls.regrown_of ((sB.out _).mono fun e w' ⟨h1, h2⟩ => ⟨h1, by rw [h2]; exact Below.refl _ _⟩)
  have cM : ∀ d os, Calls Tryd.prog 32 #[.int .i64 m] (Go.Sort.grow (redrawn w14 d) os) fun e w'' => e = .returned (.string U) ∧ ∃ p : Regrown, w'' = Go.Sort.grow (redrawn w14 p.d) p.os := fun d os => Calls.regrown_of ((sM.out _).mono fun e w' ⟨h1, h2⟩ => ⟨h1, by rw [h2]; exact Below.refl _ _⟩)
  have cO : ∀ d os, Calls Tryd.prog 33 #[.int .i64 o] (Go.Sort.grow (redrawn w14 d) os) fun e w'' => e = .returned (.string V) ∧ ∃ p : Regrown, w'' = Go.Sort.grow (redrawn w14 p.d) p.os := fun d os => Calls.regrown_of (sO.out _)
  have rB : ∀ d os, Calls Tryd.prog 34 #[.string p] (Go.Sort.grow (redrawn w14 d) os) fun e w'' => e = .returned (.agg #[.int .i64 xn, .int .i64 0, .int .i64 xc]) ∧ ∃ p : Regrown, w'' = Go.Sort.grow (redrawn w14 p.d) p.os := fun d os => Calls.regrown_of (tB.out _)
  have rM : ∀ d os, Calls Tryd.prog 35 #[.string q] (Go.Sort.grow (redrawn w14 d) os) fun e w'' => e = .returned (.agg #[.int .i64 yn, .int .i64 0, .int .i64 yc]) ∧ ∃ p : Regrown, w'' = Go.Sort.grow (redrawn w14 p.d) p.os := fun d os => Calls.regrown_of (tM.out _)
  have rO : ∀ d os, Calls Tryd.prog 36 #[.string r] (Go.Sort.grow (redrawn w14 d) os) fun e w'' => e = .returned (.agg #[.int .i64 zn, .int .i64 0, .int .i64 zc]) ∧ ∃ p : Regrown, w'' = Go.Sort.grow (redrawn w14 p.d) p.os := fun d os => Calls.regrown_of (tO.out _)
  have hI : ∀ d os, Calls Tryd.prog 37 #[.int .i64 h, .int .i64 v] (Go.Sort.grow (redrawn w14 d) os) fun e w'' => e = .returned (.bool (hasZ h v)) ∧ ∃ p : Regrown, w'' = Go.Sort.grow (redrawn w14 p.d) p.os := fun d os => Calls.regrown_of ((iHas_any h v _).mono fun e w' ⟨h1, h2⟩ => ⟨h1, by rw [h2]; exact Below.refl _ _⟩)
  have hS : ∀ d os, Calls Tryd.prog 38 #[.int .i64 h, .int .i64 v] (Go.Sort.grow (redrawn w14 d) os) fun e w'' => e = .returned (.bool (hasZ h v)) ∧ ∃ p : Regrown, w'' = Go.Sort.grow (redrawn w14 p.d) p.os := fun d os => Calls.regrown_of ((sHas_any h v _).mono fun e w' ⟨h1, h2⟩ => ⟨h1, by rw [h2]; exact Below.refl _ _⟩)
  generalize hasZ h v = hv at hI hS
  have hvv : (hv != hv) = false := by simp
  refine wp_region_quiet_below (by kernel_rfl) (by kernel_rfl) ?_
  repeat (go_big_quiet_step (first | exact cB _ _ | exact cM _ _ | exact cO _ _ | exact rB _ _ | exact rM _ _ | exact rO _ _ | exact hI _ _ | exact hS _ _))
  refine wpQuiet_nil ?_
  intro _ hw'
  obtain ⟨⟨dq, osq⟩, hw''⟩ := hw'
  subst hw''
  have hbq := below_regrown w14 dq osq
  have HB15 : Hid (Below w.heap.size w (Go.Sort.grow (redrawn w14 dq) osq)) := bl_thenW HB14.out hbq
  have HX5 : Hid (Box3N (Go.Sort.grow (redrawn w14 dq) osq) B xn xc) := HX.out.below hbq
  have HY5 : Hid (Box3N (Go.Sort.grow (redrawn w14 dq) osq) (B + 1) yn yc) := HY.out.below hbq
  have HZ5 : Hid (Box3N (Go.Sort.grow (redrawn w14 dq) osq) (B + 1 + 1) zn zc) := HZ.out.below hbq
  clear hbq
  generalize Go.Sort.grow (redrawn w14 dq) osq = w15 at HB15 HX5 HY5 HZ5 ⊢
  clear x0 x1 x2 y0 y1 y2 z0 z1 z2 cB cM cO rB rM rO hI hS HX HY HZ HB14 sB sM sO tB tM tO hvv
  go_upto_region 10 with fail
  go_cut [129] (fun c wx => c = .bool false ∧ Hid (Below w15.heap.size w15 wx))
  case first =>
    have HA0 : Hid (Below w15.heap.size w15 w15) := Below.refl _ _
    clear HX5 HY5 HZ5 eB eM eO
    rcases kB.out with hT | ⟨hT, kT⟩
    · subst hT
      clear kB
      rcases kM.out with hU | ⟨hU, kU⟩
      · subst hU
        clear kM
        rcases kO.out with hV | ⟨hV, kV⟩
        · subst hV
          clear kO
          go_wp2
          go_meet
          exact ⟨rfl, HA0⟩
        · have KV : Hid _ := kV
          clear kV kO
          go_wp2_with (first | (go_at_call 30; refine (KV.out _).mono ?_; rintro e wV ⟨rfl, hV⟩; have HV : Hid (Below w15.heap.size w15 wV) := bl_thenW HA0.out hV; clear hV))
          go_meet
          exact ⟨rfl, HV⟩
      · have KU : Hid _ := kU
        clear kU kM
        rcases kO.out with hV | ⟨hV, kV⟩
        · subst hV
          clear kO
          go_wp2_with (first | (go_at_call 29; refine (KU.out _ (HP.out.below (bl_thenW HB15.out HA0.out))).mono ?_; rintro e wU ⟨rfl, hU⟩; have HU : Hid (Below w15.heap.size w15 wU) := bl_thenW HA0.out hU; clear hU))
          go_meet
          exact ⟨rfl, HU⟩
        · have KV : Hid _ := kV
          clear kV kO
          go_wp2_with (first | (go_at_call 29; refine (KU.out _ (HP.out.below (bl_thenW HB15.out HA0.out))).mono ?_; rintro e wU ⟨rfl, hU⟩; have HU : Hid (Below w15.heap.size w15 wU) := bl_thenW HA0.out hU; clear hU) | (go_at_call 30; refine (KV.out _).mono ?_; rintro e wV ⟨rfl, hV⟩; have HV : Hid (Below w15.heap.size w15 wV) := bl_thenW HU.out hV; clear hV))
          go_meet
          exact ⟨rfl, HV⟩
    · have KT : Hid _ := kT
      clear kT kB
      rcases kM.out with hU | ⟨hU, kU⟩
      · subst hU
        clear kM
        rcases kO.out with hV | ⟨hV, kV⟩
        · subst hV
          clear kO
          go_wp2_with (first | (go_at_call 28; refine (KT.out _).mono ?_; rintro e wT ⟨rfl, hT⟩; have HT : Hid (Below w15.heap.size w15 wT) := bl_thenW HA0.out hT; clear hT))
          go_meet
          exact ⟨rfl, HT⟩
        · have KV : Hid _ := kV
          clear kV kO
          go_wp2_with (first | (go_at_call 28; refine (KT.out _).mono ?_; rintro e wT ⟨rfl, hT⟩; have HT : Hid (Below w15.heap.size w15 wT) := bl_thenW HA0.out hT; clear hT) | (go_at_call 30; refine (KV.out _).mono ?_; rintro e wV ⟨rfl, hV⟩; have HV : Hid (Below w15.heap.size w15 wV) := bl_thenW HT.out hV; clear hV))
          go_meet
          exact ⟨rfl, HV⟩
      · have KU : Hid _ := kU
        clear kU kM
        rcases kO.out with hV | ⟨hV, kV⟩
        · subst hV
          clear kO
          go_wp2_with (first | (go_at_call 28; refine (KT.out _).mono ?_; rintro e wT ⟨rfl, hT⟩; have HT : Hid (Below w15.heap.size w15 wT) := bl_thenW HA0.out hT; clear hT) | (go_at_call 29; refine (KU.out _ (HP.out.below (bl_thenW HB15.out HT.out))).mono ?_; rintro e wU ⟨rfl, hU⟩; have HU : Hid (Below w15.heap.size w15 wU) := bl_thenW HT.out hU; clear hU))
          go_meet
          exact ⟨rfl, HU⟩
        · have KV : Hid _ := kV
          clear kV kO
          go_wp2_with (first | (go_at_call 28; refine (KT.out _).mono ?_; rintro e wT ⟨rfl, hT⟩; have HT : Hid (Below w15.heap.size w15 wT) := bl_thenW HA0.out hT; clear hT) | (go_at_call 29; refine (KU.out _ (HP.out.below (bl_thenW HB15.out HT.out))).mono ?_; rintro e wU ⟨rfl, hU⟩; have HU : Hid (Below w15.heap.size w15 wU) := bl_thenW HT.out hU; clear hU) | (go_at_call 30; refine (KV.out _).mono ?_; rintro e wV ⟨rfl, hV⟩; have HV : Hid (Below w15.heap.size w15 wV) := bl_thenW HU.out hV; clear hV))
          go_meet
          exact ⟨rfl, HV⟩
  case rest =>
  obtain ⟨rfl, hcw⟩ := hcut
  have HB16 : Hid (Below w.heap.size w wc) := bl_thenW HB15.out hcw.out
  have HX6 : Hid (Box3N wc B xn xc) := HX5.out.below hcw.out
  have HY6 : Hid (Box3N wc (B + 1) yn yc) := HY5.out.below hcw.out
  have HZ6 : Hid (Box3N wc (B + 1 + 1) zn zc) := HZ5.out.below hcw.out
  clear hcw HX5 HY5 HZ5 HB15 kB kM kO
  obtain ⟨w16, hw16⟩ : ∃ w16, w16 = wc := ⟨_, rfl⟩
  subst hw16
  go_upto_region 12 with fail
  go_cut [163] (fun c wx => c = .bool false ∧ Hid (Below w16.heap.size w16 wx))
  case first =>
    have HA0 : Hid (Below w16.heap.size w16 w16) := Below.refl _ _
    rcases eB.out with ⟨hT, kT⟩ | hT
    · subst hT
      have KT : Hid _ := kT
      clear kT eB
      rcases eM.out with ⟨hU, kU⟩ | hU
      · subst hU
        have KU : Hid _ := kU
        clear kU eM
        rcases eO.out with ⟨hV, kV⟩ | hV
        · subst hV
          have KV : Hid _ := kV
          clear kV eO
          obtain ⟨xl, x0, x1, x2⟩ := HX6.out
          obtain ⟨yl, y0, y1, y2⟩ := HY6.out
          obtain ⟨zl, z0, z1, z2⟩ := HZ6.out
          go_wp2_with (first | (go_at_call 25; refine (KT.out _).mono ?_; rintro e wT ⟨rfl, hT⟩; have HT : Hid (Below w16.heap.size w16 wT) := bl_thenW HA0.out hT; clear hT; obtain ⟨xlT, x0T, x1T, x2T⟩ := HX6.out.below HT.out; obtain ⟨ylT, y0T, y1T, y2T⟩ := HY6.out.below HT.out; obtain ⟨zlT, z0T, z1T, z2T⟩ := HZ6.out.below HT.out) | (go_at_call 26; refine (KU.out _ (HP.out.below (bl_thenW HB16.out HT.out))).mono ?_; rintro e wU ⟨rfl, hU⟩; have HU : Hid (Below w16.heap.size w16 wU) := bl_thenW HT.out hU; clear hU; obtain ⟨xlU, x0U, x1U, x2U⟩ := HX6.out.below HU.out; obtain ⟨ylU, y0U, y1U, y2U⟩ := HY6.out.below HU.out; obtain ⟨zlU, z0U, z1U, z2U⟩ := HZ6.out.below HU.out) | (go_at_call 27; refine (KV.out _).mono ?_; rintro e wV ⟨rfl, hV⟩; have HV : Hid (Below w16.heap.size w16 wV) := bl_thenW HU.out hV; clear hV; obtain ⟨xlV, x0V, x1V, x2V⟩ := HX6.out.below HV.out; obtain ⟨ylV, y0V, y1V, y2V⟩ := HY6.out.below HV.out; obtain ⟨zlV, z0V, z1V, z2V⟩ := HZ6.out.below HV.out))
          go_meet
          exact ⟨rfl, HV⟩
        · clear eO
          obtain ⟨xl, x0, x1, x2⟩ := HX6.out
          obtain ⟨yl, y0, y1, y2⟩ := HY6.out
          obtain ⟨zl, z0, z1, z2⟩ := HZ6.out
          go_wp2_with (first | (go_at_call 25; refine (KT.out _).mono ?_; rintro e wT ⟨rfl, hT⟩; have HT : Hid (Below w16.heap.size w16 wT) := bl_thenW HA0.out hT; clear hT; obtain ⟨xlT, x0T, x1T, x2T⟩ := HX6.out.below HT.out; obtain ⟨ylT, y0T, y1T, y2T⟩ := HY6.out.below HT.out; obtain ⟨zlT, z0T, z1T, z2T⟩ := HZ6.out.below HT.out) | (go_at_call 26; refine (KU.out _ (HP.out.below (bl_thenW HB16.out HT.out))).mono ?_; rintro e wU ⟨rfl, hU⟩; have HU : Hid (Below w16.heap.size w16 wU) := bl_thenW HT.out hU; clear hU; obtain ⟨xlU, x0U, x1U, x2U⟩ := HX6.out.below HU.out; obtain ⟨ylU, y0U, y1U, y2U⟩ := HY6.out.below HU.out; obtain ⟨zlU, z0U, z1U, z2U⟩ := HZ6.out.below HU.out))
          go_meet
          exact ⟨rfl, HU⟩
      · clear eM
        rcases eO.out with ⟨hV, kV⟩ | hV
        · subst hV
          have KV : Hid _ := kV
          clear kV eO
          obtain ⟨xl, x0, x1, x2⟩ := HX6.out
          obtain ⟨yl, y0, y1, y2⟩ := HY6.out
          obtain ⟨zl, z0, z1, z2⟩ := HZ6.out
          go_wp2_with (first | (go_at_call 25; refine (KT.out _).mono ?_; rintro e wT ⟨rfl, hT⟩; have HT : Hid (Below w16.heap.size w16 wT) := bl_thenW HA0.out hT; clear hT; obtain ⟨xlT, x0T, x1T, x2T⟩ := HX6.out.below HT.out; obtain ⟨ylT, y0T, y1T, y2T⟩ := HY6.out.below HT.out; obtain ⟨zlT, z0T, z1T, z2T⟩ := HZ6.out.below HT.out) | (go_at_call 27; refine (KV.out _).mono ?_; rintro e wV ⟨rfl, hV⟩; have HV : Hid (Below w16.heap.size w16 wV) := bl_thenW HT.out hV; clear hV; obtain ⟨xlV, x0V, x1V, x2V⟩ := HX6.out.below HV.out; obtain ⟨ylV, y0V, y1V, y2V⟩ := HY6.out.below HV.out; obtain ⟨zlV, z0V, z1V, z2V⟩ := HZ6.out.below HV.out))
          go_meet
          exact ⟨rfl, HV⟩
        · clear eO
          obtain ⟨xl, x0, x1, x2⟩ := HX6.out
          obtain ⟨yl, y0, y1, y2⟩ := HY6.out
          obtain ⟨zl, z0, z1, z2⟩ := HZ6.out
          go_wp2_with (first | (go_at_call 25; refine (KT.out _).mono ?_; rintro e wT ⟨rfl, hT⟩; have HT : Hid (Below w16.heap.size w16 wT) := bl_thenW HA0.out hT; clear hT; obtain ⟨xlT, x0T, x1T, x2T⟩ := HX6.out.below HT.out; obtain ⟨ylT, y0T, y1T, y2T⟩ := HY6.out.below HT.out; obtain ⟨zlT, z0T, z1T, z2T⟩ := HZ6.out.below HT.out))
          go_meet
          exact ⟨rfl, HT⟩
    · clear eB
      rcases eM.out with ⟨hU, kU⟩ | hU
      · subst hU
        have KU : Hid _ := kU
        clear kU eM
        rcases eO.out with ⟨hV, kV⟩ | hV
        · subst hV
          have KV : Hid _ := kV
          clear kV eO
          obtain ⟨xl, x0, x1, x2⟩ := HX6.out
          obtain ⟨yl, y0, y1, y2⟩ := HY6.out
          obtain ⟨zl, z0, z1, z2⟩ := HZ6.out
          go_wp2_with (first | (go_at_call 26; refine (KU.out _ (HP.out.below (bl_thenW HB16.out HA0.out))).mono ?_; rintro e wU ⟨rfl, hU⟩; have HU : Hid (Below w16.heap.size w16 wU) := bl_thenW HA0.out hU; clear hU; obtain ⟨xlU, x0U, x1U, x2U⟩ := HX6.out.below HU.out; obtain ⟨ylU, y0U, y1U, y2U⟩ := HY6.out.below HU.out; obtain ⟨zlU, z0U, z1U, z2U⟩ := HZ6.out.below HU.out) | (go_at_call 27; refine (KV.out _).mono ?_; rintro e wV ⟨rfl, hV⟩; have HV : Hid (Below w16.heap.size w16 wV) := bl_thenW HU.out hV; clear hV; obtain ⟨xlV, x0V, x1V, x2V⟩ := HX6.out.below HV.out; obtain ⟨ylV, y0V, y1V, y2V⟩ := HY6.out.below HV.out; obtain ⟨zlV, z0V, z1V, z2V⟩ := HZ6.out.below HV.out))
          go_meet
          exact ⟨rfl, HV⟩
        · clear eO
          obtain ⟨xl, x0, x1, x2⟩ := HX6.out
          obtain ⟨yl, y0, y1, y2⟩ := HY6.out
          obtain ⟨zl, z0, z1, z2⟩ := HZ6.out
          go_wp2_with (first | (go_at_call 26; refine (KU.out _ (HP.out.below (bl_thenW HB16.out HA0.out))).mono ?_; rintro e wU ⟨rfl, hU⟩; have HU : Hid (Below w16.heap.size w16 wU) := bl_thenW HA0.out hU; clear hU; obtain ⟨xlU, x0U, x1U, x2U⟩ := HX6.out.below HU.out; obtain ⟨ylU, y0U, y1U, y2U⟩ := HY6.out.below HU.out; obtain ⟨zlU, z0U, z1U, z2U⟩ := HZ6.out.below HU.out))
          go_meet
          exact ⟨rfl, HU⟩
      · clear eM
        rcases eO.out with ⟨hV, kV⟩ | hV
        · subst hV
          have KV : Hid _ := kV
          clear kV eO
          obtain ⟨xl, x0, x1, x2⟩ := HX6.out
          obtain ⟨yl, y0, y1, y2⟩ := HY6.out
          obtain ⟨zl, z0, z1, z2⟩ := HZ6.out
          go_wp2_with (first | (go_at_call 27; refine (KV.out _).mono ?_; rintro e wV ⟨rfl, hV⟩; have HV : Hid (Below w16.heap.size w16 wV) := bl_thenW HA0.out hV; clear hV; obtain ⟨xlV, x0V, x1V, x2V⟩ := HX6.out.below HV.out; obtain ⟨ylV, y0V, y1V, y2V⟩ := HY6.out.below HV.out; obtain ⟨zlV, z0V, z1V, z2V⟩ := HZ6.out.below HV.out))
          go_meet
          exact ⟨rfl, HV⟩
        · clear eO
          obtain ⟨xl, x0, x1, x2⟩ := HX6.out
          obtain ⟨yl, y0, y1, y2⟩ := HY6.out
          obtain ⟨zl, z0, z1, z2⟩ := HZ6.out
          go_wp2
          go_meet
          exact ⟨rfl, HA0⟩
  case rest =>
  obtain ⟨rfl, hcw⟩ := hcut
  have HB17 : Hid (Below w.heap.size w wc) := bl_thenW HB16.out hcw.out
  clear hcw HX6 HY6 HZ6 HB16 eB eM eO
  by_cases h0 : h < 0
  · go_wp2
    go_ret
    exact ⟨rfl, HB17.out⟩
  · by_cases h1 : 65535 < h
    · go_wp2
      go_ret
      exact ⟨rfl, HB17.out⟩
    · have k0 : Hid (∀ w, Calls Tryd.prog 37 #[.int .i64 h, .int .i64 h] w fun e w' => e = .returned (.bool true) ∧ w' = w) := (fun w => by
        have := iHas_any h h w
        obtain ⟨n, rfl⟩ := Int.eq_ofNat_of_zero_le (show 0 ≤ h by omega)
        rwa [hasZ_in (by omega) (by omega), hasB_self] at this)
      have k1 : Hid (∀ w, Calls Tryd.prog 37 #[.int .i64 h, .int .i64 0] w fun e w' => e = .returned (.bool true) ∧ w' = w) := (fun w => by
        have := iHas_any h 0 w
        obtain ⟨n, rfl⟩ := Int.eq_ofNat_of_zero_le (show 0 ≤ h by omega)
        have e := hasZ_in (h := n) (w := 0) (by omega) (by omega)
        rw [hasB_zero] at e
        have e' : hasZ (n : Int) 0 = true := e
        rwa [e'] at this)
      go_wp2_with fail
      refine (k0.out _).mono ?_
      rintro e wd ⟨rfl, rfl⟩
      go_wp2_with fail
      refine (k1.out _).mono ?_
      rintro e we ⟨rfl, rfl⟩
      go_wp2
      go_ret
      exact ⟨rfl, HB17.out⟩
end Go.Proofs.YtibofkjonepbpaaDoor
