/- impl.readOct: of a text that is four digits to the base of eight that number, of any other text none. -/
import Derived.Test.YtibofkjonepbpaaDoorRows
import Derived.Test.YtibofkjonepbpaaDoorRdMath
import Derived.Test.YtibofkjonepbpaaDoorRdOMath
import Derived.Test.YtibofkjonepbpaaDoorRunes
import Derived.Handy
import Derived.WalkKit
import Derived.WalkSpells
import Derived.WalkLawsBesides
namespace Go.Proofs.YtibofkjonepbpaaDoor
open Go.RowKit Go.PlainAid
set_option linter.unusedVariables false
set_option maxHeartbeats 1000000 in
theorem readOct_size (s : ByteArray) (h : (s.size : Int) ≠ 4) (w : World) :
    Calls Tryd.prog 95 #[.string s] w fun e w' => e = .returned (optV (rdO s)) ∧ Below w.heap.size w w' := by
  have hy : Hid (rdO s = none) := rdO_size (by omega)
  have c1 : ((s.size : Int) != 4) = true := by rw [bne_iff_ne]; exact h
  clear h
  go_enter Tryd.func95, Tryd.ntmps95
  go_wp2
  go_ret2
  exact ⟨by rw [hy.out]; rfl, Below.refl _ _⟩
/-- What a sign that is no digit gives: a rune below 48, or above 55. -/
theorem odd_rune (w : World) (s : ByteArray) (k : Nat) (hk : k < s.size) (h : ¬ (48 ≤ bt s k ∧ bt s k ≤ 55)) :
    ∃ (r p : Nat), ((r : Int) < 48 ∨ 55 < (r : Int)) ∧ ∀ ty, (Instr.next (.pointer (some ⟨w.heap.size, 0, none⟩)) true ty).run Tryd.prog (w.iter s k) = .ok (.tuple #[.bool true, .int .i64 k, .int .i32 r]) (w.iter s p) := by
  obtain ⟨r, p, -, h1, h2, hn⟩ := run_other Tryd.prog w s k hk
  refine ⟨r, p, ?_, hn⟩
  by_cases e : bt s k < 128
  · have := h1 e
    omega
  · have := h2 (by omega)
    omega
set_option maxHeartbeats 4000000 in
theorem readOct_good (s : ByteArray) (a b c d : Nat) (hsz : s.size = 4) (ha : a ≤ 7) (hb : b ≤ 7) (hc : c ≤ 7) (hd : d ≤ 7) (h0 : bt s 0 = ((48 + a : Nat) : Int)) (h1 : bt s 1 = ((48 + b : Nat) : Int)) (h2 : bt s 2 = ((48 + c : Nat) : Int)) (h3 : bt s 3 = ((48 + d : Nat) : Int)) (w : World) :
    Calls Tryd.prog 95 #[.string s] w fun e w' => e = .returned (optV (rdO s)) ∧ Below w.heap.size w w' := by
  have hy : Hid (rdO s = some (8 * (8 * (8 * a + b) + c) + d)) := rdO_some hsz ha hb hc hd h0 h1 h2 h3
  have n0 := run_sign Tryd.prog w s 0 _ (by omega) h0 (by omega)
  have n1 := run_sign Tryd.prog w s 1 _ (by omega) h1 (by omega)
  have n2 := run_sign Tryd.prog w s 2 _ (by omega) h2 (by omega)
  have n3 := run_sign Tryd.prog w s 3 _ (by omega) h3 (by omega)
  have n4 := run_signs_end Tryd.prog w s 4 (by omega)
  have o0 : bits .or .i64 0 (a : Int) = (a : Int) := by have := or8 0 a (by decide) ha; simpa using this
  have o1 := or8 a b (by omega) hb
  have o2 := or8 (8 * a + b) c (by omega) hc
  have o3 := or8 (8 * (8 * a + b) + c) d (by omega) hd
  have hv : Hid (8 * (8 * (8 * a + b) + c) + d = 8 * (8 * (8 * a + b) + c) + d) := rfl
  generalize hg1 : 8 * a + b = x at *
  generalize hg2 : 8 * x + c = y at *
  generalize hg3 : 8 * y + d = z at *
  have hx : x ≤ 63 := by omega
  have hyy : y ≤ 511 := by omega
  have hz : z ≤ 4095 := by omega
  have ea : (48 : Int) + (a : Int) - 48 = (a : Int) := by omega
  have eb : (48 : Int) + (b : Int) - 48 = (b : Int) := by omega
  have ec : (48 : Int) + (c : Int) - 48 = (c : Int) := by omega
  have ed : (48 : Int) + (d : Int) - 48 = (d : Int) := by omega
  clear h0 h1 h2 h3 hg1 hg2 hg3 hv
  go_enter Tryd.func95, Tryd.ntmps95
  go_wp2
  go_rounds 5
  go_ret2
  exact ⟨by rw [hy.out]; rfl, iter_below _ _ _⟩
set_option maxHeartbeats 4000000 in
theorem readOct_bad0 (s : ByteArray) (hsz : s.size = 4)  (h : ¬ (48 ≤ bt s 0 ∧ bt s 0 ≤ 55)) (w : World) :
    Calls Tryd.prog 95 #[.string s] w fun e w' => e = .returned (optV (rdO s)) ∧ Below w.heap.size w w' := by
  have hy : Hid (rdO s = none) := rdO_none (fun e => h e.2.1)
  obtain ⟨r, p, hr, m0⟩ := odd_rune w s 0 (by omega) h
  clear h
  rcases hr with hr | hr
  all_goals (
    go_enter Tryd.func95, Tryd.ntmps95
    go_wp2
    go_rounds 1
    go_ret2
    exact ⟨by rw [hy.out]; rfl, iter_below _ _ _⟩)
set_option maxHeartbeats 4000000 in
theorem readOct_bad1 (s : ByteArray) (a : Nat) (hsz : s.size = 4) (h0 : bt s 0 = ((48 + a : Nat) : Int)) (H0 : a ≤ 7) (h : ¬ (48 ≤ bt s 1 ∧ bt s 1 ≤ 55)) (w : World) :
    Calls Tryd.prog 95 #[.string s] w fun e w' => e = .returned (optV (rdO s)) ∧ Below w.heap.size w w' := by
  have hy : Hid (rdO s = none) := rdO_none (fun e => h e.2.2.1)
  obtain ⟨r, p, hr, m1⟩ := odd_rune w s 1 (by omega) h
  clear h
  have n0 := run_sign Tryd.prog w s 0 _ (by omega) h0 (by omega)
  have e0 : (48 : Int) + (a : Int) - 48 = (a : Int) := by omega
  have o0 : bits .or .i64 0 (a : Int) = (a : Int) := by have := or8 0 a (by decide) H0; simpa using this
  clear h0
  rcases hr with hr | hr
  all_goals (
    go_enter Tryd.func95, Tryd.ntmps95
    go_wp2
    go_rounds 2
    go_ret2
    exact ⟨by rw [hy.out]; rfl, iter_below _ _ _⟩)
set_option maxHeartbeats 4000000 in
theorem readOct_bad2 (s : ByteArray) (a b : Nat) (hsz : s.size = 4) (h0 : bt s 0 = ((48 + a : Nat) : Int)) (H0 : a ≤ 7) (h1 : bt s 1 = ((48 + b : Nat) : Int)) (H1 : b ≤ 7) (h : ¬ (48 ≤ bt s 2 ∧ bt s 2 ≤ 55)) (w : World) :
    Calls Tryd.prog 95 #[.string s] w fun e w' => e = .returned (optV (rdO s)) ∧ Below w.heap.size w w' := by
  have hy : Hid (rdO s = none) := rdO_none (fun e => h e.2.2.2.1)
  obtain ⟨r, p, hr, m2⟩ := odd_rune w s 2 (by omega) h
  clear h
  have n0 := run_sign Tryd.prog w s 0 _ (by omega) h0 (by omega)
  have e0 : (48 : Int) + (a : Int) - 48 = (a : Int) := by omega
  have n1 := run_sign Tryd.prog w s 1 _ (by omega) h1 (by omega)
  have e1 : (48 : Int) + (b : Int) - 48 = (b : Int) := by omega
  have o0 : bits .or .i64 0 (a : Int) = (a : Int) := by have := or8 0 a (by decide) H0; simpa using this
  have o1 := or8 a b (by omega) H1
  generalize hg1 : 8 * a + b = x at *
  have hx : x ≤ 63 := by omega
  clear h0 h1 hg1
  rcases hr with hr | hr
  all_goals (
    go_enter Tryd.func95, Tryd.ntmps95
    go_wp2
    go_rounds 3
    go_ret2
    exact ⟨by rw [hy.out]; rfl, iter_below _ _ _⟩)
set_option maxHeartbeats 4000000 in
theorem readOct_bad3 (s : ByteArray) (a b c : Nat) (hsz : s.size = 4) (h0 : bt s 0 = ((48 + a : Nat) : Int)) (H0 : a ≤ 7) (h1 : bt s 1 = ((48 + b : Nat) : Int)) (H1 : b ≤ 7) (h2 : bt s 2 = ((48 + c : Nat) : Int)) (H2 : c ≤ 7) (h : ¬ (48 ≤ bt s 3 ∧ bt s 3 ≤ 55)) (w : World) :
    Calls Tryd.prog 95 #[.string s] w fun e w' => e = .returned (optV (rdO s)) ∧ Below w.heap.size w w' := by
  have hy : Hid (rdO s = none) := rdO_none (fun e => h e.2.2.2.2)
  obtain ⟨r, p, hr, m3⟩ := odd_rune w s 3 (by omega) h
  clear h
  have n0 := run_sign Tryd.prog w s 0 _ (by omega) h0 (by omega)
  have e0 : (48 : Int) + (a : Int) - 48 = (a : Int) := by omega
  have n1 := run_sign Tryd.prog w s 1 _ (by omega) h1 (by omega)
  have e1 : (48 : Int) + (b : Int) - 48 = (b : Int) := by omega
  have n2 := run_sign Tryd.prog w s 2 _ (by omega) h2 (by omega)
  have e2 : (48 : Int) + (c : Int) - 48 = (c : Int) := by omega
  have o0 : bits .or .i64 0 (a : Int) = (a : Int) := by have := or8 0 a (by decide) H0; simpa using this
  have o1 := or8 a b (by omega) H1
  have o2 := or8 (8 * a + b) c (by omega) H2
  generalize hg1 : 8 * a + b = x at *
  generalize hg2 : 8 * x + c = y at *
  have hx : x ≤ 63 := by omega
  have hyy : y ≤ 511 := by omega
  clear h0 h1 h2 hg1 hg2
  rcases hr with hr | hr
  all_goals (
    go_enter Tryd.func95, Tryd.ntmps95
    go_wp2
    go_rounds 4
    go_ret2
    exact ⟨by rw [hy.out]; rfl, iter_below _ _ _⟩)
theorem digit_of {b : Int} (h : 48 ≤ b ∧ b ≤ 55) : ∃ k : Nat, k ≤ 7 ∧ b = ((48 + k : Nat) : Int) := ⟨(b - 48).toNat, by omega, by omega⟩
/-- impl.readOct, of whatever text. -/
theorem readOct_any (s : ByteArray) (w : World) :
    Calls Tryd.prog 95 #[.string s] w fun e w' => e = .returned (optV (rdO s)) ∧ Below w.heap.size w w' := by
  by_cases hsz : s.size = 4
  · by_cases a0 : 48 ≤ bt s 0 ∧ bt s 0 ≤ 55
    · obtain ⟨a, ha, ea⟩ := digit_of a0
      by_cases a1 : 48 ≤ bt s 1 ∧ bt s 1 ≤ 55
      · obtain ⟨b, hb, eb⟩ := digit_of a1
        by_cases a2 : 48 ≤ bt s 2 ∧ bt s 2 ≤ 55
        · obtain ⟨c, hc, ec⟩ := digit_of a2
          by_cases a3 : 48 ≤ bt s 3 ∧ bt s 3 ≤ 55
          · obtain ⟨d, hd, ed⟩ := digit_of a3
            exact readOct_good s a b c d hsz ha hb hc hd ea eb ec ed w
          · exact readOct_bad3 s a b c hsz ea ha eb hb ec hc a3 w
        · exact readOct_bad2 s a b hsz ea ha eb hb a2 w
      · exact readOct_bad1 s a hsz ea ha a1 w
    · exact readOct_bad0 s hsz a0 w
  · exact readOct_size s (by omega) w
end Go.Proofs.YtibofkjonepbpaaDoor
