/- impl.readWhole and the readers over it: the number that is read, or the code of what is wrong. -/
import Derived.Test.YtialmeknnlkelagRows
import Derived.Test.YtialmeknnlkelagWholeV
import Derived.Test.YtialmeknnlkelagReadBits
import Derived.Handy
import Derived.WalkKit
import Derived.WalkSpells
import Derived.WalkLawsBesides
namespace Go.Proofs.Ytialmeknnlkelag
open Go.RowKit Go.PlainAid
set_option linter.unusedVariables false
set_option linter.unusedSimpArgs false
set_option maxHeartbeats 1000000 in
theorem wholeBits_long (s : ByteArray) (h : 8000 < (s.size : Int)) (w : World) :
    Calls Try.prog 20 #[.string s, .func (.func 21) #[] #[]] w fun e w' => e = .returned (numW 0 0 2) ∧ Below w.heap.size w w' := by
  go_enter Try.func20, Try.ntmps20
  go_wp2
  exact bodyPost_ret (v := numW 0 0 2) (by simp [results, Try.results20, go_sem, numW]) rfl ⟨rfl, (Below.refl _ _).alloc (Nat.le_refl _) _⟩
set_option maxHeartbeats 1000000 in
theorem wholeBits_none (s : ByteArray) (h : ¬ 8000 < (s.size : Int)) (ho : rdB s = none) (w : World) :
    Calls Try.prog 20 #[.string s, .func (.func 21) #[] #[]] w fun e w' => e = .returned (numW 0 0 3) ∧ Below w.heap.size w w' := by
  have hc : Hid (∀ w, Calls Try.prog 21 #[.string s] w fun e w' => e = .returned (.tuple #[.int .i64 0, .bool false]) ∧ Below w.heap.size w w') := (by intro w; have := readBits_any s w; rw [ho] at this; exact this)
  clear ho
  go_enter Try.func20, Try.ntmps20
  go_wp2_with (go_at_call 21; refine (hc.out _).mono ?_; rintro e w1 ⟨rfl, hb⟩; obtain ⟨hcl, hfz⟩ := bl_cellW hb; have hz := bl_sizeW hb; simp at hcl hfz)
  exact bodyPost_ret (v := numW 0 0 3) (by simp [results, Try.results20, go_sem, numW, hcl, hz]) rfl ⟨rfl, bl_set3W (bl_overW hb)⟩
set_option maxHeartbeats 1000000 in
theorem wholeBits_some (s : ByteArray) (n : Nat) (h : ¬ 8000 < (s.size : Int)) (ho : rdB s = some n) (w : World) :
    Calls Try.prog 20 #[.string s, .func (.func 21) #[] #[]] w fun e w' => e = .returned (numW n 0 0) ∧ Below w.heap.size w w' := by
  have hc : Hid (∀ w, Calls Try.prog 21 #[.string s] w fun e w' => e = .returned (.tuple #[.int .i64 n, .bool true]) ∧ Below w.heap.size w w') := (by intro w; have := readBits_any s w; rw [ho] at this; exact this)
  clear ho
  go_enter Try.func20, Try.ntmps20
  go_wp2_with (go_at_call 21; refine (hc.out _).mono ?_; rintro e w1 ⟨rfl, hb⟩; obtain ⟨hcl, hfz⟩ := bl_cellW hb; have hz := bl_sizeW hb; simp at hcl hfz)
  exact bodyPost_ret (v := numW n 0 0) (by simp [results, Try.results20, go_sem, numW, hcl, hz]) rfl ⟨rfl, bl_set3W (bl_overW hb)⟩
theorem wholeBits_any (s : ByteArray) (w : World) :
    Calls Try.prog 20 #[.string s, .func (.func 21) #[] #[]] w fun e w' => e = .returned (numW (whN s (rdB s)) 0 (whC s (rdB s))) ∧ Below w.heap.size w w' := by
  by_cases h : 8000 < s.size
  · rw [(wh_long h _).1, (wh_long h _).2]
    exact wholeBits_long s (by omega) w
  · cases ho : rdB s with
    | none =>
      rw [(wh_none h rfl).1, (wh_none h rfl).2]
      exact wholeBits_none s (by omega) ho w
    | some n =>
      rw [(wh_some h rfl).1, (wh_some h rfl).2]
      exact wholeBits_some s n (by omega) ho w
set_option maxHeartbeats 1000000 in
/-- impl.BitsRead. -/
theorem iBitsRead_any (s : ByteArray) (w : World) :
    Calls Try.prog 11 #[.string s] w fun e w' => e = .returned (numW (whN s (rdB s)) 0 (whC s (rdB s))) ∧ Below w.heap.size w w' := by
  have hc : Hid (∀ w, Calls Try.prog 20 #[.string s, .func (.func 21) #[] #[]] w fun e w' => e = .returned (.agg #[.int .i64 (whN s (rdB s)), .int .i64 0, .int .i64 (whC s (rdB s))]) ∧ Below w.heap.size w w') := wholeBits_any s
  generalize whN s (rdB s) = n, whC s (rdB s) = c at hc ⊢
  go_enter Try.func11, Try.ntmps11
  go_wp2_with (go_at_call 20; refine (hc.out _).mono ?_; rintro e w1 ⟨rfl, hb⟩; obtain ⟨hcl, hfz⟩ := bl_cellW hb; have hz := bl_sizeW hb; simp at hcl hfz)
  exact bodyPost_ret (v := numW n 0 c) (by simp [results, Try.results11, go_sem, numW, hcl, hz]) rfl ⟨rfl, bl_set3W (bl_overW hb)⟩
end Go.Proofs.Ytialmeknnlkelag
