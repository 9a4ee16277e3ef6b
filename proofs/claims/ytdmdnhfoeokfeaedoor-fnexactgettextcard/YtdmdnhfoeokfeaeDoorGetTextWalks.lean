/- The contract of spec.GetText, and laws.eqTextOut of twice the same. -/
import Derived.Test.YtdmdnhfoeokfeaeDoorGetTextI
import Derived.Test.YtdmdnhfoeokfeaeDoorSGetNum
import Derived.BigRegion
namespace Go.Proofs.YtdmdnhfoeokfeaeDoor
open Go.RowKit
set_option linter.unusedVariables false
set_option maxRecDepth 100000 in
set_option maxHeartbeats 2000000 in
theorem sGetText_any (s : ByteArray) (x : Int) (hs : s.size ≤ maxLen) (hx : x ≤ 9223372036854775807) (w : World) :
    Calls Tryd.prog 8 #[.string s, .int .i64 x] w fun e w' => e = .returned (txtV (getT s x)) ∧ Below w.heap.size w w' := by
  have hG : Hid (∀ w, Calls Tryd.prog 5 #[.string s, .int .i64 x] w fun e w' => e = .returned (numV (getN s x)) ∧ Below w.heap.size w w') := sGetNum_any s x hs hx
  have hend : Hid (∀ n a, getN s x = (n, a, 0) → 0 ≤ a ∧ a ≤ (s.size : Int) ∧ s.size ≤ 8000) := by
    intro n a h
    unfold getN at h
    split at h
    · simp at h
    · rename_i h8
      split at h
      · simp at h
      · have := scan_ends s x.toNat 10 0 0
        rw [h] at this
        exact ⟨(this rfl).1, (this rfl).2, by omega⟩
  unfold getT
  generalize getN s x = r at hG hend ⊢
  obtain ⟨n, a, c⟩ := r
  have hG2 : Hid (∀ w, Calls Tryd.prog 5 #[.string s, .int .i64 x] w fun e w' => e = .returned (.agg #[.int .i64 n, .int .i64 a, .int .i64 c]) ∧ Below w.heap.size w w') := hG
  clear hG
  by_cases hc : c = 0
  · subst hc
    obtain ⟨ha1, ha2, ha3⟩ := hend.out n a rfl
    clear hend
    by_cases h1 : n < 0 ∨ 8000 < n
    · have ht : Hid (textOf s (n, a, 0) = (⟨#[]⟩, 0, 3)) := by simp [textOf, h1, Hid]
      by_cases h2 : n < 0
      · clear h1
        go_enter Tryd.func8, Tryd.ntmps8
        go_wp2_with (go_at_call 5; refine (hG2.out _).mono ?_; rintro e w1 ⟨rfl, hb⟩; obtain ⟨hcl, hfl⟩ := bl_cell hb; have hz := bl_size hb)
        exact bodyPost_ret (v := txtV (⟨#[]⟩, 0, 3)) (by simp [results, Tryd.results8, go_sem, hcl, hz, txtV]) rfl ⟨by rw [ht.out], (bl_set3 (bl_over hb)).alloc (by simp; omega) _⟩
      · have h3 : 8000 < n := by omega
        have h4 : decide (n < 0) = false := by simp; omega
        clear h1 h2
        go_enter Tryd.func8, Tryd.ntmps8
        go_wp2_with (go_at_call 5; refine (hG2.out _).mono ?_; rintro e w1 ⟨rfl, hb⟩; obtain ⟨hcl, hfl⟩ := bl_cell hb; have hz := bl_size hb)
        exact bodyPost_ret (v := txtV (⟨#[]⟩, 0, 3)) (by simp [results, Tryd.results8, go_sem, hcl, hz, txtV]) rfl ⟨by rw [ht.out], (bl_set3 (bl_over hb)).alloc (by simp; omega) _⟩
    · have h2 : decide (n < 0) = false := by simp; omega
      have h3 : decide (8000 < n) = false := by simp; omega
      have h5 : 0 ≤ n := by omega
      have h6 : n ≤ 8000 := by omega
      by_cases h4 : (s.size : Int) - n < a
      · have ht : Hid (textOf s (n, a, 0) = (⟨#[]⟩, 0, 4)) := by
          show _ = _
          unfold textOf
          rw [if_neg (by simp), if_neg h1, if_pos h4]
        clear h1
        go_enter Tryd.func8, Tryd.ntmps8
        go_wp2_with (go_at_call 5; refine (hG2.out _).mono ?_; rintro e w1 ⟨rfl, hb⟩; obtain ⟨hcl, hfl⟩ := bl_cell hb; have hz := bl_size hb)
        exact bodyPost_ret (v := txtV (⟨#[]⟩, 0, 4)) (by simp [results, Tryd.results8, go_sem, hcl, hz, txtV]) rfl ⟨by rw [ht.out], (bl_set3 (bl_over hb)).alloc (by simp; omega) _⟩
      · have ht : Hid (textOf s (n, a, 0) = (s.extract a.toNat (a.toNat + n.toNat), a + n, 0)) := by
          show _ = _
          unfold textOf
          rw [if_neg (by simp), if_neg h1, if_neg h4]
        have e1 : (a + n).toNat = a.toNat + n.toNat := by omega
        have h7 : a + n ≤ (s.size : Int) := by omega
        clear h1
        go_enter Tryd.func8, Tryd.ntmps8
        go_wp2_with (go_at_call 5; refine (hG2.out _).mono ?_; rintro e w1 ⟨rfl, hb⟩; obtain ⟨hcl, hfl⟩ := bl_cell hb; have hz := bl_size hb)
        go_region
        go_wp2
        exact bodyPost_ret (v := txtV (s.extract a.toNat (a.toNat + n.toNat), a + n, 0)) (by simp [results, Tryd.results8, go_sem, hcl, hz, txtV]) rfl ⟨by rw [ht.out], ((bl_set3 (bl_over hb)).alloc (by simp; omega) _).drew⟩
  · have ht : Hid (textOf s (n, a, c) = (⟨#[]⟩, 0, c)) := by simp [textOf, hc, Hid]
    have h1 : (c != 0) = true := by rw [bne_iff_ne]; exact hc
    clear hend
    go_enter Tryd.func8, Tryd.ntmps8
    go_wp2_with (go_at_call 5; refine (hG2.out _).mono ?_; rintro e w1 ⟨rfl, hb⟩; obtain ⟨hcl, hfl⟩ := bl_cell hb; have hz := bl_size hb)
    exact bodyPost_ret (v := txtV (⟨#[]⟩, 0, c)) (by simp [results, Tryd.results8, go_sem, hcl, hz, txtV]) rfl ⟨by rw [ht.out], (bl_set3 (bl_over hb)).alloc (by simp; omega) _⟩
/-- laws.eqTextOut of twice the same. -/
theorem eqTextOut_same (t : ByteArray) (a c : Int) (w : World) :
    Calls Tryd.prog 10 #[.agg #[.string t, .int .i64 a, .int .i64 c], .agg #[.string t, .int .i64 a, .int .i64 c]] w fun e w' => e = .returned (.bool true) ∧ Below w.heap.size w w' := by
  go_enter Tryd.func10, Tryd.ntmps10
  go_wp2
  go_ret
  exact ⟨rfl, ((Below.refl _ _).alloc (Nat.le_refl _) _).alloc (by simp) _⟩
end Go.Proofs.YtdmdnhfoeokfeaeDoor
