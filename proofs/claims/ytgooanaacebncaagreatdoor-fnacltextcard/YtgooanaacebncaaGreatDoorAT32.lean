/- Laid together: DecRd. -/
import Derived.Test.YtgooanaacebncaaGreatDoorAT31
/- The digits of an id are read back as that id. -/
namespace Go.Proofs.YtgooanaacebncaaGreatDoor
open Go.RowKit Go.PlainAid
set_option linter.unusedVariables false
/-- Digits of a number: digits alone, none ahead that is 0, and the number again. -/
theorem dec_right : ∀ (m n : Nat), n ≤ m → (∀ x ∈ Lib.decDigits n, dgB x = true) ∧ valD (Lib.decDigits n) = n ∧ (0 < n → (Lib.decDigits n).headD 0 ≠ 48) ∧ Lib.decDigits n ≠ [] := by
  intro m
  induction m with
  | zero =>
    intro n hn
    have : n = 0 := by omega
    subst this
    rw [dec_one (by omega)]
    exact ⟨by decide, by decide, by omega, by decide⟩
  | succ m ih =>
    intro n hn
    have hd : ∀ k, k < 10 → dgB (UInt8.ofNat (48 + k)) = true ∧ (UInt8.ofNat (48 + k)).toNat - 48 = k ∧ (0 < k → UInt8.ofNat (48 + k) ≠ 48) := by decide
    by_cases h : n < 10
    · rw [dec_one h]
      obtain ⟨h1, h2, h3⟩ := hd n h
      refine ⟨fun x hx => ?_, ?_, fun h0 => h3 h0, by simp⟩
      · rw [List.mem_singleton.1 hx]; exact h1
      · simp only [valD, List.foldl_cons, List.foldl_nil]
        omega
    · rw [dec_more h]
      obtain ⟨i1, i2, i3, i4⟩ := ih (n / 10) (by omega)
      obtain ⟨h1, h2, _⟩ := hd (n % 10) (by omega)
      refine ⟨fun x hx => ?_, ?_, fun _ => ?_, by simp⟩
      · rcases List.mem_append.1 hx with hx | hx
        · exact i1 x hx
        · rw [List.mem_singleton.1 hx]; exact h1
      · rw [valD_snoc, i2, h2]
        omega
      · cases e : Lib.decDigits (n / 10) with
        | nil => exact absurd e i4
        | cons y t =>
          have := i3 (by omega)
          rw [e] at this
          exact this
theorem dec_read {n : Nat} (h : n ≤ 9999) : rdI (Lib.decDigits n) = some n ∧ numI (Lib.decDigits n) = n := by
  obtain ⟨h1, h2, h3, h4⟩ := dec_right n n (Nat.le_refl _)
  have hl := dec_len h
  have hok : okD 4 (Lib.decDigits n) = true := okD_iff.2 ⟨hl.1, hl.2, fun ⟨q1, q2⟩ => by
    by_cases h0 : 0 < n
    · exact h3 h0 q2
    · have : n = 0 := by omega
      subst this
      rw [dec_one (by omega)] at q1
      simp at q1, h1⟩
  refine ⟨by rw [rdI, if_pos hok, h2], ?_⟩
  rw [numI, if_pos (okD_more hok).1, h2]
theorem dec_no {n : Nat} {c : UInt8} (hc : dgB c = false) : c ∉ Lib.decDigits n := fun hm => by
  rw [(dec_right n n (Nat.le_refl _)).1 c hm] at hc
  cases hc
end Go.Proofs.YtgooanaacebncaaGreatDoor
