/- impl.readWhole and the readers over it: the number that is read, or the code of what is wrong. -/
import Derived.Test.YtibofkjonepbpaaDoorRows
import Derived.Test.YtibofkjonepbpaaDoorWholeV
import Derived.Test.YtibofkjonepbpaaDoorReadBits
import Derived.Test.YtibofkjonepbpaaDoorReadOct
import Derived.Handy
import Derived.WalkKit
import Derived.WalkSpells
import Derived.WalkLawsBesides
namespace Go.Proofs.YtibofkjonepbpaaDoor
open Go.RowKit Go.PlainAid
set_option linter.unusedVariables false
set_option linter.unusedSimpArgs false
set_option maxHeartbeats 1000000 in
theorem wholeBits_long (s : ByteArray) (h : 8000 < (s.size : Int)) (w : World) :
    Calls Tryd.prog 92 #[.string s, .func (.func 93) #[] #[]] w fun e w' => e = .returned (numW 0 0 2) ∧ Below w.heap.size w w' := by
  go_enter Tryd.func92, Tryd.ntmps92
  go_wp2
  exact bodyPost_ret (v := numW 0 0 2) (by simp [results, Tryd.results92, go_sem, numW]) rfl ⟨rfl, (Below.refl _ _).alloc (Nat.le_refl _) _⟩
set_option maxHeartbeats 1000000 in
theorem wholeBits_none (s : ByteArray) (h : ¬ 8000 < (s.size : Int)) (ho : rdB s = none) (w : World) :
    Calls Tryd.prog 92 #[.string s, .func (.func 93) #[] #[]] w fun e w' => e = .returned (numW 0 0 3) ∧ Below w.heap.size w w' := by
  have hc : Hid (∀ w, Calls Tryd.prog 93 #[.string s] w fun e w' => e = .returned (.tuple #[.int .i64 0, .bool false]) ∧ Below w.heap.size w w') := (by intro w; have := readBits_any s w; rw [ho] at this; exact this)
  clear ho
  go_enter Tryd.func92, Tryd.ntmps92
  go_wp2_with (go_at_call 93; refine (hc.out _).mono ?_; rintro e w1 ⟨rfl, hb⟩; obtain ⟨hcl, hfz⟩ := bl_cellW hb; have hz := bl_sizeW hb; simp at hcl hfz)
  exact bodyPost_ret (v := numW 0 0 3) (by simp [results, Tryd.results92, go_sem, numW, hcl, hz]) rfl ⟨rfl, bl_set3W (bl_overW hb)⟩
set_option maxHeartbeats 1000000 in
theorem wholeBits_some (s : ByteArray) (n : Nat) (h : ¬ 8000 < (s.size : Int)) (ho : rdB s = some n) (w : World) :
    Calls Tryd.prog 92 #[.string s, .func (.func 93) #[] #[]] w fun e w' => e = .returned (numW n 0 0) ∧ Below w.heap.size w w' := by
  have hc : Hid (∀ w, Calls Tryd.prog 93 #[.string s] w fun e w' => e = .returned (.tuple #[.int .i64 n, .bool true]) ∧ Below w.heap.size w w') := (by intro w; have := readBits_any s w; rw [ho] at this; exact this)
  clear ho
  go_enter Tryd.func92, Tryd.ntmps92
  go_wp2_with (go_at_call 93; refine (hc.out _).mono ?_; rintro e w1 ⟨rfl, hb⟩; obtain ⟨hcl, hfz⟩ := bl_cellW hb; have hz := bl_sizeW hb; simp at hcl hfz)
  exact bodyPost_ret (v := numW n 0 0) (by simp [results, Tryd.results92, go_sem, numW, hcl, hz]) rfl ⟨rfl, bl_set3W (bl_overW hb)⟩
theorem wholeBits_any (s : ByteArray) (w : World) :
    Calls Tryd.prog 92 #[.string s, .func (.func 93) #[] #[]] w fun e w' => e = .returned (numW (whN s (rdB s)) 0 (whC s (rdB s))) ∧ Below w.heap.size w w' := by
  by_cases h : 8000 < s.size
  · rw [(wh_long h _).1, (wh_long h _).2]
    exact wholeBits_long s (by omega) w
  · cases ho : rdB s with
    | none =>
      rw [(wh_none h rfl).1, (wh_none h rfl).2]
      exact wholeBits_none s (by omega) ho w
    | some n =>
      rw [(wh_some h rfl).1, (wh_some h rfl).2]
      exact wholeBits_some s n (by omega) ho w
set_option maxHeartbeats 1000000 in
/-- impl.BitsRead. -/
theorem iBitsRead_any (s : ByteArray) (w : World) :
    Calls Tryd.prog 28 #[.string s] w fun e w' => e = .returned (numW (whN s (rdB s)) 0 (whC s (rdB s))) ∧ Below w.heap.size w w' := by
  have hc : Hid (∀ w, Calls Tryd.prog 92 #[.string s, .func (.func 93) #[] #[]] w fun e w' => e = .returned (.agg #[.int .i64 (whN s (rdB s)), .int .i64 0, .int .i64 (whC s (rdB s))]) ∧ Below w.heap.size w w') := wholeBits_any s
  generalize whN s (rdB s) = n, whC s (rdB s) = c at hc ⊢
  go_enter Tryd.func28, Tryd.ntmps28
  go_wp2_with (go_at_call 92; refine (hc.out _).mono ?_; rintro e w1 ⟨rfl, hb⟩; obtain ⟨hcl, hfz⟩ := bl_cellW hb; have hz := bl_sizeW hb; simp at hcl hfz)
  exact bodyPost_ret (v := numW n 0 c) (by simp [results, Tryd.results28, go_sem, numW, hcl, hz]) rfl ⟨rfl, bl_set3W (bl_overW hb)⟩
set_option maxHeartbeats 1000000 in
theorem wholeOct_long (s : ByteArray) (h : 8000 < (s.size : Int)) (w : World) :
    Calls Tryd.prog 92 #[.string s, .func (.func 95) #[] #[]] w fun e w' => e = .returned (numW 0 0 2) ∧ Below w.heap.size w w' := by
  go_enter Tryd.func92, Tryd.ntmps92
  go_wp2
  exact bodyPost_ret (v := numW 0 0 2) (by simp [results, Tryd.results92, go_sem, numW]) rfl ⟨rfl, (Below.refl _ _).alloc (Nat.le_refl _) _⟩
set_option maxHeartbeats 1000000 in
theorem wholeOct_none (s : ByteArray) (h : ¬ 8000 < (s.size : Int)) (ho : rdO s = none) (w : World) :
    Calls Tryd.prog 92 #[.string s, .func (.func 95) #[] #[]] w fun e w' => e = .returned (numW 0 0 3) ∧ Below w.heap.size w w' := by
  have hc : Hid (∀ w, Calls Tryd.prog 95 #[.string s] w fun e w' => e = .returned (.tuple #[.int .i64 0, .bool false]) ∧ Below w.heap.size w w') := (by intro w; have := readOct_any s w; rw [ho] at this; exact this)
  clear ho
  go_enter Tryd.func92, Tryd.ntmps92
  go_wp2_with (go_at_call 95; refine (hc.out _).mono ?_; rintro e w1 ⟨rfl, hb⟩; obtain ⟨hcl, hfz⟩ := bl_cellW hb; have hz := bl_sizeW hb; simp at hcl hfz)
  exact bodyPost_ret (v := numW 0 0 3) (by simp [results, Tryd.results92, go_sem, numW, hcl, hz]) rfl ⟨rfl, bl_set3W (bl_overW hb)⟩
set_option maxHeartbeats 1000000 in
theorem wholeOct_some (s : ByteArray) (n : Nat) (h : ¬ 8000 < (s.size : Int)) (ho : rdO s = some n) (w : World) :
    Calls Tryd.prog 92 #[.string s, .func (.func 95) #[] #[]] w fun e w' => e = .returned (numW n 0 0) ∧ Below w.heap.size w w' := by
  have hc : Hid (∀ w, Calls Tryd.prog 95 #[.string s] w fun e w' => e = .returned (.tuple #[.int .i64 n, .bool true]) ∧ Below w.heap.size w w') := (by intro w; have := readOct_any s w; rw [ho] at this; exact this)
  clear ho
  go_enter Tryd.func92, Tryd.ntmps92
  go_wp2_with (go_at_call 95; refine (hc.out _).mono ?_; rintro e w1 ⟨rfl, hb⟩; obtain ⟨hcl, hfz⟩ := bl_cellW hb; have hz := bl_sizeW hb; simp at hcl hfz)
  exact bodyPost_ret (v := numW n 0 0) (by simp [results, Tryd.results92, go_sem, numW, hcl, hz]) rfl ⟨rfl, bl_set3W (bl_overW hb)⟩
theorem wholeOct_any (s : ByteArray) (w : World) :
    Calls Tryd.prog 92 #[.string s, .func (.func 95) #[] #[]] w fun e w' => e = .returned (numW (whN s (rdO s)) 0 (whC s (rdO s))) ∧ Below w.heap.size w w' := by
  by_cases h : 8000 < s.size
  · rw [(wh_long h _).1, (wh_long h _).2]
    exact wholeOct_long s (by omega) w
  · cases ho : rdO s with
    | none =>
      rw [(wh_none h rfl).1, (wh_none h rfl).2]
      exact wholeOct_none s (by omega) ho w
    | some n =>
      rw [(wh_some h rfl).1, (wh_some h rfl).2]
      exact wholeOct_some s n (by omega) ho w
set_option maxHeartbeats 1000000 in
/-- impl.OctRead. -/
theorem iOctRead_any (s : ByteArray) (w : World) :
    Calls Tryd.prog 30 #[.string s] w fun e w' => e = .returned (numW (whN s (rdO s)) 0 (whC s (rdO s))) ∧ Below w.heap.size w w' := by
  have hc : Hid (∀ w, Calls Tryd.prog 92 #[.string s, .func (.func 95) #[] #[]] w fun e w' => e = .returned (.agg #[.int .i64 (whN s (rdO s)), .int .i64 0, .int .i64 (whC s (rdO s))]) ∧ Below w.heap.size w w') := wholeOct_any s
  generalize whN s (rdO s) = n, whC s (rdO s) = c at hc ⊢
  go_enter Tryd.func30, Tryd.ntmps30
  go_wp2_with (go_at_call 92; refine (hc.out _).mono ?_; rintro e w1 ⟨rfl, hb⟩; obtain ⟨hcl, hfz⟩ := bl_cellW hb; have hz := bl_sizeW hb; simp at hcl hfz)
  exact bodyPost_ret (v := numW n 0 c) (by simp [results, Tryd.results30, go_sem, numW, hcl, hz]) rfl ⟨rfl, bl_set3W (bl_overW hb)⟩
end Go.Proofs.YtibofkjonepbpaaDoor
