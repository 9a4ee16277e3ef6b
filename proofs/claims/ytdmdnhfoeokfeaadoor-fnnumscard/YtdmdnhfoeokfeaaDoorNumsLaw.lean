/- The walk of laws.FnNums over bytes that came in. -/
import Derived.Test.YtdmdnhfoeokfeaaDoorNumsMath
import Derived.Test.YtdmdnhfoeokfeaaDoorDrawNums
import Derived.Test.YtdmdnhfoeokfeaaDoorLaid
namespace Go.Proofs.YtdmdnhfoeokfeaaDoor
open Go.RowKit
set_option linter.unusedVariables false
theorem Code.later {a : Option Addr} {len : Nat} {g : Nat → Int} {w w' : World} (h : Code a len g w.heap.size w) (hb : Below w.heap.size w w') : Code a len g w'.heap.size w' :=
  ⟨h.1, h.2.1, fun hl => by
    obtain ⟨b, off, e, hlt, hc⟩ := h.2.2 hl
    exact ⟨b, off, e, Nat.lt_of_lt_of_le hlt hb.size, fun i hi => (hb.cell (p := ⟨b, off + i, none⟩) hlt).trans (hc i hi)⟩⟩
theorem fieldNum (n a c : Int) (w : World) : (Instr.field 26 (.agg #[.int .i64 n, .int .i64 a, .int .i64 c]) 2).run Tryd.prog w = .ok (.int .i64 c) w := by kernel_rfl
theorem fieldTxt (x : ByteArray) (a c : Int) (w : World) : (Instr.field 31 (.agg #[.string x, .int .i64 a, .int .i64 c]) 2).run Tryd.prog w = .ok (.int .i64 c) w := by kernel_rfl
theorem numT_pos (n : Int) : 0 < (numT n).size := by
  have := enc_pos (foldN n)
  have e : (numT n).size = (enc (foldN n)).length := size_list _
  omega
theorem get_mid {n : Int} (h1 : -9223372036854775808 ≤ n) (h2 : n ≤ 9223372036854775807) (w : World) (he : ErrT w) :
    Calls Tryd.prog 7 #[.string (⟨#[120, 121]⟩ ++ numT n ++ ⟨#[122]⟩), .int .i64 2] w fun e w' => e = .returned (.agg #[.int .i64 n, .int .i64 ((numT n).size + 2), .int .i64 0]) ∧ Below w.heap.size w w' := by
  have hz := numT_size h1 h2
  have hs : (⟨#[120, 121]⟩ ++ numT n ++ ⟨#[122]⟩ : ByteArray).size ≤ 8000 := by
    rw [ByteArray.size_append, ByteArray.size_append]
    have a1 : (⟨#[120, 121]⟩ : ByteArray).size = 2 := rfl
    have a2 : (⟨#[122]⟩ : ByteArray).size = 1 := rfl
    omega
  have hb := num_back h1 h2 ⟨#[120, 121]⟩ ⟨#[122]⟩ hs
  have := iGetNum_any (⟨#[120, 121]⟩ ++ numT n ++ ⟨#[122]⟩) 2 (by unfold maxLen; omega) (by decide) w he
  have e2 : (((⟨#[120, 121]⟩ : ByteArray).size : Nat) : Int) = 2 := rfl
  rw [e2] at hb
  rw [hb] at this
  have e3 : (2 : Int) + (numT n).size = (numT n).size + 2 := by omega
  rw [e3] at this
  exact this
theorem get_cut {n : Int} (h1 : -9223372036854775808 ≤ n) (h2 : n ≤ 9223372036854775807) (w : World) (he : ErrT w) :
    Calls Tryd.prog 7 #[.string ((numT n).extract 0 ((numT n).size - 1)), .int .i64 0] w fun e w' => e = .returned (.agg #[.int .i64 0, .int .i64 0, .int .i64 4]) ∧ Below w.heap.size w w' := by
  have hz := numT_size h1 h2
  have := iGetNum_any ((numT n).extract 0 ((numT n).size - 1)) 0 (by simp [maxLen]; omega) (by decide) w he
  rw [num_short h1 h2] at this
  exact this
theorem txt_mid {u : ByteArray} (h8 : u.size ≤ 8000) (hs : (numT u.size ++ u).size + 1 ≤ 8000) (w : World) (he : ErrT w) :
    Calls Tryd.prog 11 #[.string (⟨#[120]⟩ ++ (numT u.size ++ u)), .int .i64 1] w fun e w' => e = .returned (.agg #[.string u, .int .i64 ((numT u.size ++ u).size + 1), .int .i64 0]) ∧ Below w.heap.size w w' := by
  have a1 : (⟨#[120]⟩ : ByteArray).size = 1 := rfl
  have hz : (⟨#[120]⟩ ++ (numT u.size ++ u) : ByteArray).size ≤ 8000 := by rw [ByteArray.size_append]; omega
  have hb := text_back (u := u) (x := ⟨#[120]⟩) h8 hz
  have := iGetText_any (⟨#[120]⟩ ++ (numT u.size ++ u)) 1 (by unfold maxLen; omega) (by decide) w he
  have e2 : (((⟨#[120]⟩ : ByteArray).size : Nat) : Int) = 1 := rfl
  rw [e2] at hb
  rw [hb] at this
  have e3 : (1 : Int) + (numT u.size ++ u).size = (numT u.size ++ u).size + 1 := by omega
  rw [e3] at this
  exact this
theorem txt_cut {u : ByteArray} (hs : (numT u.size ++ u).size ≤ 8000) : ∃ (x : ByteArray) (y : Int), ∀ (w : World), ErrT w →
    Calls Tryd.prog 11 #[.string ((numT u.size ++ u).extract 0 ((numT u.size ++ u).size - 1)), .int .i64 0] w fun e w' => e = .returned (.agg #[.string x, .int .i64 y, .int .i64 4]) ∧ Below w.heap.size w w' := by
  refine ⟨(getT ((numT u.size ++ u).extract 0 ((numT u.size ++ u).size - 1)) 0).1, (getT ((numT u.size ++ u).extract 0 ((numT u.size ++ u).size - 1)) 0).2.1, fun w he => ?_⟩
  have := iGetText_any ((numT u.size ++ u).extract 0 ((numT u.size ++ u).size - 1)) 0 (by simp only [maxLen]; rw [size_cut (by omega)]; omega) (by decide) w he
  rw [txtV, text_short hs] at this
  exact this
set_option maxRecDepth 100000 in
set_option maxHeartbeats 4000000 in
theorem numsLaw (a0 : Option Addr) (len0 cap0 : Nat) (g0 : Nat → Int) (a1 : Option Addr) (len1 cap1 : Nat) (g1 : Nat → Int) (w : World) (he : ErrT w) (c0 : Code a0 len0 g0 w.heap.size w) (c1 : Code a1 len1 g1 w.heap.size w) :
    Calls Tryd.prog 3 #[.slice a0 len0 cap0, .slice a1 len1 cap1] w fun e w' => e = .returned (.bool true) ∧ Below w.heap.size w w' := by
  have HC0 : Hid (Code a0 len0 g0 w.heap.size w) := c0
  have HC1 : Hid (Code a1 len1 g1 w.heap.size w) := c1
  have HE : Hid (ErrT w) := he
  have l0 : decide (1048576 < (len0 : Int)) = false := by have := c0.1; simp; omega
  have l1 : decide (1048576 < (len1 : Int)) = false := by have := c1.1; simp; omega
  clear c0 c1 he
  have hf1 := fieldNum
  have hf2 := fieldTxt
  go_enter Tryd.func3, Tryd.ntmps3
  go_wp2_with (go_at_call 4; refine (drawPutNum_any a0 len0 cap0 g0 _ HC0.out).mono ?_; rintro e w1 ⟨n, rfl, n1, n2, hb1⟩)
  refine (iPutNum_t n n1 n2 _).mono ?_
  rintro e w2 ⟨rfl, hb2'⟩
  have hb2 := hb1.trans (hb2'.mono hb1.size)
  clear hb2' hb1
  have hz1 := numT_size n1 n2
  have hz0 := numT_pos n
  have hG1 : Hid (∀ w, ErrT w → Calls Tryd.prog 7 #[.string (⟨#[120, 121]⟩ ++ numT n ++ ⟨#[122]⟩), .int .i64 2] w fun e w' => e = .returned (.agg #[.int .i64 n, .int .i64 ((numT n).size + 2), .int .i64 0]) ∧ Below w.heap.size w w') := fun w he => get_mid n1 n2 w he
  have hG2 : Hid (∀ w, ErrT w → Calls Tryd.prog 7 #[.string ((numT n).extract 0 ((numT n).size - 1)), .int .i64 0] w fun e w' => e = .returned (.agg #[.int .i64 0, .int .i64 0, .int .i64 4]) ∧ Below w.heap.size w w') := fun w he => get_cut n1 n2 w he
  have HP : Hid (∀ w, Calls Tryd.prog 6 #[.int .i64 n] w fun e w' => e = .returned (.string (numT n)) ∧ Below w.heap.size w w') := fun w => sPutNum_t n n1 n2 w
  generalize numT n = T at *
  go_wp2_with (go_at_call 6; refine (HP.out _).mono ?_; rintro e w3 ⟨rfl, hb3'⟩; have HB3 : Hid (Below w.heap.size w w3) := hb2.trans (hb3'.mono hb2.size); clear hb2 hb3')
  refine (hG1.out _ (HE.out.below HB3.out)).mono ?_
  rintro e w4 ⟨rfl, hb4'⟩
  have HB4 : Hid (Below w.heap.size w w4) := HB3.out.trans (hb4'.mono HB3.out.size)
  clear hb4' hG1 HP HB3
  go_wp2_with fail
  refine (hG2.out _ (errT_alloc (HE.out.below HB4.out) _ _)).mono ?_
  rintro e w5 ⟨rfl, hb5'⟩
  have HB5 : Hid (Below w.heap.size w w5) := (HB4.out.alloc HB4.out.size _).trans (hb5'.mono (by have := HB4.out.size; simp; omega))
  clear hb5' hG2 HB4
  go_wp2_with (go_at_call 8; refine (drawPutText_any a1 len1 cap1 g1 _ (HC1.out.later HB5.out)).mono ?_; rintro e w6 ⟨u, hu, rfl, hb6'⟩; have HB6 : Hid (Below w.heap.size w w6) := HB5.out.trans (hb6'.mono HB5.out.size); clear hb6')
  clear HB5
  by_cases h8 : u.size ≤ 8000
  · have HI : Hid (∀ w, Calls Tryd.prog 9 #[.string u] w fun e w' => e = .returned (.string (numT u.size ++ u)) ∧ Below w.heap.size w w') := fun w => iPutText_yes u h8 w
    have HS : Hid (∀ w, Calls Tryd.prog 10 #[.string u] w fun e w' => e = .returned (.string (numT u.size ++ u)) ∧ Below w.heap.size w w') := fun w => sPutText_yes u h8 w
    have hpz : (numT u.size ++ u).size = (numT u.size).size + u.size := ByteArray.size_append
    have hn1 := numT_size (n := (u.size : Int)) (by omega) (by omega)
    have hn0 := numT_pos (u.size : Int)
    have hp0 : 0 < (numT u.size ++ u).size := by omega
    have hp1 : (numT u.size ++ u).size ≤ 8010 := by omega
    have hT1 : Hid ((numT u.size ++ u).size + 1 ≤ 8000 → ∀ w, ErrT w → Calls Tryd.prog 11 #[.string (⟨#[120]⟩ ++ (numT u.size ++ u)), .int .i64 1] w fun e w' => e = .returned (.agg #[.string u, .int .i64 ((numT u.size ++ u).size + 1), .int .i64 0]) ∧ Below w.heap.size w w') := fun h w he => txt_mid h8 h w he
    have hT2 : Hid ((numT u.size ++ u).size + 1 ≤ 8000 → ∃ x y, ∀ w, ErrT w → Calls Tryd.prog 11 #[.string ((numT u.size ++ u).extract 0 ((numT u.size ++ u).size - 1)), .int .i64 0] w fun e w' => e = .returned (.agg #[.string x, .int .i64 y, .int .i64 4]) ∧ Below w.heap.size w w') := fun h => txt_cut (by omega)
    clear hpz hn1 hn0
    generalize numT u.size ++ u = p at *
    have hne : p.toList.isEmpty = false := by
      rw [ByteArray.toList_eq, List.isEmpty_eq_false_iff]
      intro e
      have h3 : p.data.toList.length = 0 := by rw [e]; rfl
      have h2 : p.size = p.data.toList.length := Lib.size_eq _
      omega
    by_cases hq : 8000 < (p.size : Int) + 1
    · clear hT1 hT2
      refine (HI.out _).mono ?_
      rintro e w7 ⟨rfl, hb7'⟩
      have HB7 : Hid (Below w.heap.size w w7) := HB6.out.trans (hb7'.mono HB6.out.size)
      clear hb7' HI HB6
      go_wp2_with (go_at_call 10; refine (HS.out _).mono ?_; rintro e w8 ⟨rfl, hb8'⟩; have HB8 : Hid (Below w.heap.size w w8) := HB7.out.trans (hb8'.mono HB7.out.size); clear hb8')
      go_ret
      exact ⟨rfl, HB8.out⟩
    · have dq : decide (8000 < (p.size : Int) + 1) = false := by simp; omega
      obtain ⟨x2, y2, hT3⟩ := hT2.out (by omega)
      have HT3 : Hid (∀ w, ErrT w → Calls Tryd.prog 11 #[.string (p.extract 0 (p.size - 1)), .int .i64 0] w fun e w' => e = .returned (.agg #[.string x2, .int .i64 y2, .int .i64 4]) ∧ Below w.heap.size w w') := hT3
      have HT1 : Hid (∀ w, ErrT w → Calls Tryd.prog 11 #[.string (⟨#[120]⟩ ++ p), .int .i64 1] w fun e w' => e = .returned (.agg #[.string u, .int .i64 (p.size + 1), .int .i64 0]) ∧ Below w.heap.size w w') := hT1.out (by omega)
      clear hT1 hT2 hT3 hq
      refine (HI.out _).mono ?_
      rintro e w7 ⟨rfl, hb7'⟩
      have HB7 : Hid (Below w.heap.size w w7) := HB6.out.trans (hb7'.mono HB6.out.size)
      clear hb7' HI HB6
      go_wp2_with (go_at_call 10; refine (HS.out _).mono ?_; rintro e w8 ⟨rfl, hb8'⟩; have HB8 : Hid (Below w.heap.size w w8) := HB7.out.trans (hb8'.mono HB7.out.size); clear hb8')
      refine (HT1.out _ (HE.out.below HB8.out)).mono ?_
      rintro e w9 ⟨rfl, hb9'⟩
      have HB9 : Hid (Below w.heap.size w w9) := HB8.out.trans (hb9'.mono HB8.out.size)
      clear hb9'
      go_wp2_with fail
      refine (HT3.out _ (HE.out.below HB9.out)).mono ?_
      rintro e w10 ⟨rfl, hb10'⟩
      have HB10 : Hid (Below w.heap.size w w10) := HB9.out.trans (hb10'.mono HB9.out.size)
      clear hb10'
      go_wp2
      go_ret
      exact ⟨rfl, HB10.out⟩
  · have HI : Hid (∀ w, Calls Tryd.prog 9 #[.string u] w fun e w' => e = .returned (.string ⟨#[]⟩) ∧ Below w.heap.size w w') := fun w => iPutText_no u (by omega) (by unfold maxLen; omega) w
    have HS : Hid (∀ w, Calls Tryd.prog 10 #[.string u] w fun e w' => e = .returned (.string ⟨#[]⟩) ∧ Below w.heap.size w w') := fun w => sPutText_no u (by omega) (by unfold maxLen; omega) w
    refine (HI.out _).mono ?_
    rintro e w7 ⟨rfl, hb7'⟩
    have HB7 : Hid (Below w.heap.size w w7) := HB6.out.trans (hb7'.mono HB6.out.size)
    clear hb7' HI HB6
    go_wp2_with fail
    refine (HS.out _).mono ?_
    rintro e w8 ⟨rfl, hb8'⟩
    have HB8 : Hid (Below w.heap.size w w8) := HB7.out.trans (hb8'.mono HB7.out.size)
    clear hb8'
    go_wp2_with fail
    refine (HS.out _).mono ?_
    rintro e w9 ⟨rfl, hb9'⟩
    have HB9 : Hid (Below w.heap.size w w9) := HB8.out.trans (hb9'.mono HB8.out.size)
    clear hb9'
    go_wp2
    go_ret
    exact ⟨rfl, HB9.out⟩
end Go.Proofs.YtdmdnhfoeokfeaaDoor
