/- The contract of impl.GetNum: at every text and place it answers what spec.GetNum answers. -/
import Derived.Test.YtdmdnhfoeokfeaeDoorReadNum
import Derived.Test.YtdmdnhfoeokfeaeDoorCodeOf
import Derived.Test.YtdmdnhfoeokfeaeDoorSmall
namespace Go.Proofs.YtdmdnhfoeokfeaeDoor
open Go.RowKit
set_option linter.unusedVariables false
theorem errT_alloc {w : World} (h : ErrT w) (c : Array Value) (t : TypeId) : ErrT (w.alloc (.cells c t)) := h.below ((Below.refl _ _).alloc (Nat.le_refl _) _)
set_option maxHeartbeats 1000000 in
theorem iGetNum_in (s : ByteArray) (x : Int) (hs : s.size ≤ 8000) (hx : x ≤ 9223372036854775807) (w : World) (he : ErrT w) :
    Calls Tryd.prog 6 #[.string s, .int .i64 x] w fun e w' => e = .returned (numV (readN s x)) ∧ Below w.heap.size w w' := by
  have hR : Hid (∀ w, Calls Tryd.prog 11 #[.string s, .int .i64 x] w fun e w' => e = .returned (readV (readN s x)) ∧ w' = w) := readNum_any s x hs hx
  have heA : Hid (ErrT (w.alloc (.cells #[.int .i64 0, .int .i64 0, .int .i64 0] 23))) := errT_alloc he _ _
  generalize readN s x = r at hR ⊢
  obtain ⟨n, a, c⟩ := r
  by_cases hc : c = 0
  · subst hc
    have hR2 : Hid (∀ w, Calls Tryd.prog 11 #[.string s, .int .i64 x] w fun e w' => e = .returned (.tuple #[.int .i64 n, .int .i64 a, .nilIface]) ∧ w' = w) := hR
    clear hR he
    go_enter Tryd.func6, Tryd.ntmps6
    go_wp2_with (first | (go_at_call 11; refine (hR2.out _).mono ?_; rintro e w1 ⟨rfl, rfl⟩) | (go_at_call 12; refine (codeOf_nil _).mono ?_; rintro e w2 ⟨rfl, hb⟩; obtain ⟨hcl, hfl⟩ := bl_cell hb))
    exact bodyPost_ret (v := numV (n, a, 0)) (by simp [results, Tryd.results6, go_sem, hcl, numV]) rfl ⟨rfl, bl_set3 (bl_over hb)⟩
  · have hR2 : Hid (∀ w, Calls Tryd.prog 11 #[.string s, .int .i64 x] w fun e w' => e = .returned (.tuple #[.int .i64 n, .int .i64 a, .iface 41 (.agg #[.int .i64 c])]) ∧ w' = w) := by
      have := hR.out
      simp only [readV, errV_no hc] at this
      exact this
    clear hR he hc
    go_enter Tryd.func6, Tryd.ntmps6
    go_wp2_with (first | (go_at_call 11; refine (hR2.out _).mono ?_; rintro e w1 ⟨rfl, rfl⟩) | (go_at_call 12; refine (codeOf_hit _ _ heA.out).mono ?_; rintro e w2 ⟨rfl, hb⟩; obtain ⟨hcl, hfl⟩ := bl_cell hb))
    exact bodyPost_ret (v := numV (n, a, c)) (by simp [results, Tryd.results6, go_sem, hcl, numV]) rfl ⟨rfl, bl_set3 (bl_over hb)⟩
theorem iGetNum_long (s : ByteArray) (x : Int) (h : 8000 < (s.size : Int)) (hs : s.size ≤ maxLen) (w : World) :
    Calls Tryd.prog 6 #[.string s, .int .i64 x] w fun e w' => e = .returned (numV (0, 0, 2)) ∧ Below w.heap.size w w' := by
  unfold maxLen at hs
  go_enter Tryd.func6, Tryd.ntmps6
  go_wp2
  exact bodyPost_ret (v := numV (0, 0, 2)) (by simp [results, Tryd.results6, go_sem, numV]) rfl ⟨rfl, (Below.refl _ _).alloc (Nat.le_refl _) _⟩
/-- Whatever the text and the place. -/
theorem iGetNum_any (s : ByteArray) (x : Int) (hs : s.size ≤ maxLen) (hx : x ≤ 9223372036854775807) (w : World) (he : ErrT w) :
    Calls Tryd.prog 6 #[.string s, .int .i64 x] w fun e w' => e = .returned (numV (getN s x)) ∧ Below w.heap.size w w' := by
  by_cases h1 : 8000 < s.size
  · rw [getN, if_pos h1]; exact iGetNum_long s x (by omega) hs w
  · have e : getN s x = readN s x := by rw [getN, if_neg h1, readN]
    rw [e]
    exact iGetNum_in s x (by omega) hx w he
end Go.Proofs.YtdmdnhfoeokfeaeDoor
