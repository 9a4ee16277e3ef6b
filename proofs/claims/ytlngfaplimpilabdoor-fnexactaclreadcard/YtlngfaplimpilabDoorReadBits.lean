/- impl.readBits: of a text that is three signs of bits those bits, of any other text none. -/
import Derived.Test.YtlngfaplimpilabDoorRows
import Derived.Test.YtlngfaplimpilabDoorRdMath
import Derived.Test.YtlngfaplimpilabDoorRunes
import Derived.Handy
import Derived.WalkKit
import Derived.WalkSpells
import Derived.WalkLawsBesides
namespace Go.Proofs.YtlngfaplimpilabDoor
open Go.RowKit Go.PlainAid
set_option linter.unusedVariables false
theorem rwx_at : (∀ h, wrap32 (((⟨#[114, 119, 120]⟩ : ByteArray)[0]'h).toNat : Int) = 114) ∧ (∀ h, wrap32 (((⟨#[114, 119, 120]⟩ : ByteArray)[1]'h).toNat : Int) = 119) ∧ (∀ h, wrap32 (((⟨#[114, 119, 120]⟩ : ByteArray)[2]'h).toNat : Int) = 120) := by
  refine ⟨fun h => ?_, fun h => ?_, fun h => ?_⟩
  · rw [show ((⟨#[114, 119, 120]⟩ : ByteArray)[0]'h) = 114 from rfl]; exact IntWalk.wrap32_in 114 (by decide)
  · rw [show ((⟨#[114, 119, 120]⟩ : ByteArray)[1]'h) = 119 from rfl]; exact IntWalk.wrap32_in 119 (by decide)
  · rw [show ((⟨#[114, 119, 120]⟩ : ByteArray)[2]'h) = 120 from rfl]; exact IntWalk.wrap32_in 120 (by decide)
set_option maxHeartbeats 1000000 in
theorem readBits_size (s : ByteArray) (h : (s.size : Int) ≠ 3) (w : World) :
    Calls Tryd.prog 67 #[.string s] w fun e w' => e = .returned (optV (rdB s)) ∧ Below w.heap.size w w' := by
  have hy : Hid (rdB s = none) := rdB_size (by omega)
  have c1 : ((s.size : Int) != 3) = true := by rw [bne_iff_ne]; exact h
  clear h
  go_enter Tryd.func67, Tryd.ntmps67
  go_wp2
  go_ret2
  exact ⟨by rw [hy.out]; rfl, Below.refl _ _⟩
set_option maxHeartbeats 4000000 in
theorem readBits_good (s : ByteArray) (n : Nat) (hn : n ≤ 7) (hs : bitsT n = s) (w : World) :
    Calls Tryd.prog 67 #[.string s] w fun e w' => e = .returned (optV (rdB s)) ∧ Below w.heap.size w w' := by
  have hy : Hid (rdB s = some n) := rdB_some hn hs
  have hsz : s.size = 3 := by rw [← hs]; rfl
  have q0 := (bitsT_bt n).1
  have q1 := (bitsT_bt n).2.1
  have q2 := (bitsT_bt n).2.2
  rw [hs] at q0 q1 q2
  clear hs
  rcases eight hn with rfl | rfl | rfl | rfl | rfl | rfl | rfl | rfl
  all_goals (
    have n0 := run_sign Tryd.prog w s 0 _ (by omega) q0 (by decide)
    have n1 := run_sign Tryd.prog w s 1 _ (by omega) q1 (by decide)
    have n2 := run_sign Tryd.prog w s 2 _ (by omega) q2 (by decide)
    have n3 := run_signs_end Tryd.prog w s 3 (by omega)
    simp [sg, b4, b2, b1] at n0 n1 n2
    have o1 : bits .or .i64 0 4 = 4 := by decide
    have o2 : bits .or .i64 0 2 = 2 := by decide
    have o3 : bits .or .i64 0 1 = 1 := by decide
    have o4 : bits .or .i64 4 2 = 6 := by decide
    have o5 : bits .or .i64 4 1 = 5 := by decide
    have o6 : bits .or .i64 2 1 = 3 := by decide
    have o7 : bits .or .i64 6 1 = 7 := by decide
    clear q0 q1 q2 hn
    obtain ⟨g0, g1, g2⟩ := rwx_at
    go_enter Tryd.func67, Tryd.ntmps67
    go_wp2
    go_rounds 4
    go_ret2
    exact ⟨by rw [hy.out]; rfl, iter_below _ _ _⟩)
set_option maxHeartbeats 4000000 in
theorem readBits_bad0 (s : ByteArray) (hsz : s.size = 3) (h1 : bt s 0 ≠ 114) (h2 : bt s 0 ≠ 45) (w : World) :
    Calls Tryd.prog 67 #[.string s] w fun e w' => e = .returned (optV (rdB s)) ∧ Below w.heap.size w w' := by
  have hy : Hid (rdB s = none) := rd_bad0 h1 h2
  obtain ⟨r, p, hr, -, -, n0⟩ := run_other Tryd.prog w s 0 (by omega)
  have c1 := hr 114 (by decide) h1
  have c2 : (((r : Nat) : Int) != 45) = true := by have := hr 45 (by decide) h2; simpa using this
  clear hr h1 h2
  obtain ⟨g0, g1, g2⟩ := rwx_at
  go_enter Tryd.func67, Tryd.ntmps67
  go_wp2
  go_rounds 1
  go_ret2
  exact ⟨by rw [hy.out]; rfl, iter_below _ _ _⟩
set_option maxHeartbeats 4000000 in
theorem readBits_bad1 (s : ByteArray) (hsz : s.size = 3) (h0 : bt s 0 = 114 ∨ bt s 0 = 45) (h1 : bt s 1 ≠ 119) (h2 : bt s 1 ≠ 45) (w : World) :
    Calls Tryd.prog 67 #[.string s] w fun e w' => e = .returned (optV (rdB s)) ∧ Below w.heap.size w w' := by
  have hy : Hid (rdB s = none) := rd_bad1 h1 h2
  have o1 : bits .or .i64 0 4 = 4 := by decide
  obtain ⟨r, p, hr, -, -, n1⟩ := run_other Tryd.prog w s 1 (by omega)
  have c1 := hr 119 (by decide) h1
  have c2 : (((r : Nat) : Int) != 45) = true := by have := hr 45 (by decide) h2; simpa using this
  clear hr h1 h2
  rcases h0 with h0 | h0
  all_goals (
    have n0 := run_sign Tryd.prog w s 0 _ (by omega) h0 (by decide)
    clear h0
    obtain ⟨g0, g1, g2⟩ := rwx_at
    go_enter Tryd.func67, Tryd.ntmps67
    go_wp2
    go_rounds 2
    go_ret2
    exact ⟨by rw [hy.out]; rfl, iter_below _ _ _⟩)
set_option maxHeartbeats 4000000 in
theorem readBits_bad2 (s : ByteArray) (hsz : s.size = 3) (h0 : bt s 0 = 114 ∨ bt s 0 = 45) (h3 : bt s 1 = 119 ∨ bt s 1 = 45) (h1 : bt s 2 ≠ 120) (h2 : bt s 2 ≠ 45) (w : World) :
    Calls Tryd.prog 67 #[.string s] w fun e w' => e = .returned (optV (rdB s)) ∧ Below w.heap.size w w' := by
  have hy : Hid (rdB s = none) := rd_bad2 h1 h2
  have o1 : bits .or .i64 0 4 = 4 := by decide
  have o2 : bits .or .i64 0 2 = 2 := by decide
  have o4 : bits .or .i64 4 2 = 6 := by decide
  obtain ⟨r, p, hr, -, -, n2⟩ := run_other Tryd.prog w s 2 (by omega)
  have c1 := hr 120 (by decide) h1
  have c2 : (((r : Nat) : Int) != 45) = true := by have := hr 45 (by decide) h2; simpa using this
  clear hr h1 h2
  rcases h0 with h0 | h0 <;> rcases h3 with h3 | h3
  all_goals (
    have n0 := run_sign Tryd.prog w s 0 _ (by omega) h0 (by decide)
    have n1 := run_sign Tryd.prog w s 1 _ (by omega) h3 (by decide)
    clear h0 h3
    obtain ⟨g0, g1, g2⟩ := rwx_at
    go_enter Tryd.func67, Tryd.ntmps67
    go_wp2
    go_rounds 3
    go_ret2
    exact ⟨by rw [hy.out]; rfl, iter_below _ _ _⟩)
/-- impl.readBits, of whatever text. -/
theorem readBits_any (s : ByteArray) (w : World) :
    Calls Tryd.prog 67 #[.string s] w fun e w' => e = .returned (optV (rdB s)) ∧ Below w.heap.size w w' := by
  by_cases hsz : s.size = 3
  · by_cases a0 : bt s 0 = 114 ∨ bt s 0 = 45
    · by_cases a1 : bt s 1 = 119 ∨ bt s 1 = 45
      · by_cases a2 : bt s 2 = 120 ∨ bt s 2 = 45
        · rcases a0 with a0 | a0 <;> rcases a1 with a1 | a1 <;> rcases a2 with a2 | a2
          · exact readBits_good s 7 (by decide) (ext3 (a := 114) (b := 119) (c := 120) hsz a0 a1 a2).symm w
          · exact readBits_good s 6 (by decide) (ext3 (a := 114) (b := 119) (c := 45) hsz a0 a1 a2).symm w
          · exact readBits_good s 5 (by decide) (ext3 (a := 114) (b := 45) (c := 120) hsz a0 a1 a2).symm w
          · exact readBits_good s 4 (by decide) (ext3 (a := 114) (b := 45) (c := 45) hsz a0 a1 a2).symm w
          · exact readBits_good s 3 (by decide) (ext3 (a := 45) (b := 119) (c := 120) hsz a0 a1 a2).symm w
          · exact readBits_good s 2 (by decide) (ext3 (a := 45) (b := 119) (c := 45) hsz a0 a1 a2).symm w
          · exact readBits_good s 1 (by decide) (ext3 (a := 45) (b := 45) (c := 120) hsz a0 a1 a2).symm w
          · exact readBits_good s 0 (by decide) (ext3 (a := 45) (b := 45) (c := 45) hsz a0 a1 a2).symm w
        · exact readBits_bad2 s hsz a0 a1 (fun e => a2 (.inl e)) (fun e => a2 (.inr e)) w
      · exact readBits_bad1 s hsz a0 (fun e => a1 (.inl e)) (fun e => a1 (.inr e)) w
    · exact readBits_bad0 s hsz (fun e => a0 (.inl e)) (fun e => a0 (.inr e)) w
  · exact readBits_size s (by omega) w
end Go.Proofs.YtlngfaplimpilabDoor
