/- impl.readWhole and the readers over it: the number that is read, or the code of what is wrong. -/
import Derived.Test.YtialmeknnlkelahRows
import Derived.Test.YtialmeknnlkelahWholeV
import Derived.Test.YtialmeknnlkelahReadOct
import Derived.Handy
import Derived.WalkKit
import Derived.WalkSpells
import Derived.WalkLawsBesides
namespace Go.Proofs.Ytialmeknnlkelah
open Go.RowKit Go.PlainAid
set_option linter.unusedVariables false
set_option linter.unusedSimpArgs false
set_option maxHeartbeats 1000000 in
theorem wholeOct_long (s : ByteArray) (h : 8000 < (s.size : Int)) (w : World) :
    Calls Try.prog 12 #[.string s, .func (.func 13) #[] #[]] w fun e w' => e = .returned (numW 0 0 2) ∧ Below w.heap.size w w' := by
  go_enter Try.func12, Try.ntmps12
  go_wp2
  exact bodyPost_ret (v := numW 0 0 2) (by simp [results, Try.results12, go_sem, numW]) rfl ⟨rfl, (Below.refl _ _).alloc (Nat.le_refl _) _⟩
set_option maxHeartbeats 1000000 in
theorem wholeOct_none (s : ByteArray) (h : ¬ 8000 < (s.size : Int)) (ho : rdO s = none) (w : World) :
    Calls Try.prog 12 #[.string s, .func (.func 13) #[] #[]] w fun e w' => e = .returned (numW 0 0 3) ∧ Below w.heap.size w w' := by
  have hc : Hid (∀ w, Calls Try.prog 13 #[.string s] w fun e w' => e = .returned (.tuple #[.int .i64 0, .bool false]) ∧ Below w.heap.size w w') := (by intro w; have := readOct_any s w; rw [ho] at this; exact this)
  clear ho
  go_enter Try.func12, Try.ntmps12
  go_wp2_with (go_at_call 13; refine (hc.out _).mono ?_; rintro e w1 ⟨rfl, hb⟩; obtain ⟨hcl, hfz⟩ := bl_cellW hb; have hz := bl_sizeW hb; simp at hcl hfz)
  exact bodyPost_ret (v := numW 0 0 3) (by simp [results, Try.results12, go_sem, numW, hcl, hz]) rfl ⟨rfl, bl_set3W (bl_overW hb)⟩
set_option maxHeartbeats 1000000 in
theorem wholeOct_some (s : ByteArray) (n : Nat) (h : ¬ 8000 < (s.size : Int)) (ho : rdO s = some n) (w : World) :
    Calls Try.prog 12 #[.string s, .func (.func 13) #[] #[]] w fun e w' => e = .returned (numW n 0 0) ∧ Below w.heap.size w w' := by
  have hc : Hid (∀ w, Calls Try.prog 13 #[.string s] w fun e w' => e = .returned (.tuple #[.int .i64 n, .bool true]) ∧ Below w.heap.size w w') := (by intro w; have := readOct_any s w; rw [ho] at this; exact this)
  clear ho
  go_enter Try.func12, Try.ntmps12
  go_wp2_with (go_at_call 13; refine (hc.out _).mono ?_; rintro e w1 ⟨rfl, hb⟩; obtain ⟨hcl, hfz⟩ := bl_cellW hb; have hz := bl_sizeW hb; simp at hcl hfz)
  exact bodyPost_ret (v := numW n 0 0) (by simp [results, Try.results12, go_sem, numW, hcl, hz]) rfl ⟨rfl, bl_set3W (bl_overW hb)⟩
theorem wholeOct_any (s : ByteArray) (w : World) :
    Calls Try.prog 12 #[.string s, .func (.func 13) #[] #[]] w fun e w' => e = .returned (numW (whN s (rdO s)) 0 (whC s (rdO s))) ∧ Below w.heap.size w w' := by
  by_cases h : 8000 < s.size
  · rw [(wh_long h _).1, (wh_long h _).2]
    exact wholeOct_long s (by omega) w
  · cases ho : rdO s with
    | none =>
      rw [(wh_none h rfl).1, (wh_none h rfl).2]
      exact wholeOct_none s (by omega) ho w
    | some n =>
      rw [(wh_some h rfl).1, (wh_some h rfl).2]
      exact wholeOct_some s n (by omega) ho w
set_option maxHeartbeats 1000000 in
/-- impl.OctRead. -/
theorem iOctRead_any (s : ByteArray) (w : World) :
    Calls Try.prog 8 #[.string s] w fun e w' => e = .returned (numW (whN s (rdO s)) 0 (whC s (rdO s))) ∧ Below w.heap.size w w' := by
  have hc : Hid (∀ w, Calls Try.prog 12 #[.string s, .func (.func 13) #[] #[]] w fun e w' => e = .returned (.agg #[.int .i64 (whN s (rdO s)), .int .i64 0, .int .i64 (whC s (rdO s))]) ∧ Below w.heap.size w w') := wholeOct_any s
  generalize whN s (rdO s) = n, whC s (rdO s) = c at hc ⊢
  go_enter Try.func8, Try.ntmps8
  go_wp2_with (go_at_call 12; refine (hc.out _).mono ?_; rintro e w1 ⟨rfl, hb⟩; obtain ⟨hcl, hfz⟩ := bl_cellW hb; have hz := bl_sizeW hb; simp at hcl hfz)
  exact bodyPost_ret (v := numW n 0 c) (by simp [results, Try.results8, go_sem, numW, hcl, hz]) rfl ⟨rfl, bl_set3W (bl_overW hb)⟩
end Go.Proofs.Ytialmeknnlkelah
