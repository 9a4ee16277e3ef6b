/- impl.readWhole over readMode, and impl.ModeRead. -/
import Derived.Test.YtibofkjonepbpaaDoorWholeV
import Derived.Test.YtibofkjonepbpaaDoorReadMode
namespace Go.Proofs.YtibofkjonepbpaaDoor
open Go.RowKit Go.PlainAid
set_option linter.unusedVariables false
set_option linter.unusedSimpArgs false
set_option maxHeartbeats 1000000 in
theorem wholeMode_long (s : ByteArray) (h : 8000 < (s.size : Int)) (w : World) :
    Calls Tryd.prog 92 #[.string s, .func (.func 94) #[] #[]] w fun e w' => e = .returned (numW 0 0 2) ∧ Below w.heap.size w w' := by
  go_enter Tryd.func92, Tryd.ntmps92
  go_wp2
  exact bodyPost_ret (v := numW 0 0 2) (by simp [results, Tryd.results92, go_sem, numW]) rfl ⟨rfl, (Below.refl _ _).alloc (Nat.le_refl _) _⟩
set_option maxHeartbeats 1000000 in
theorem wholeMode_none (s : ByteArray) (h : ¬ 8000 < (s.size : Int)) (ho : rdM s = none) (w : World) (hp : PlW w) :
    Calls Tryd.prog 92 #[.string s, .func (.func 94) #[] #[]] w fun e w' => e = .returned (numW 0 0 3) ∧ Below w.heap.size w w' := by
  have hc : Hid (∀ w, PlW w → Calls Tryd.prog 94 #[.string s] w fun e w' => e = .returned (.tuple #[.int .i64 0, .bool false]) ∧ Below w.heap.size w w') := (by intro w hp; have := readMode_any s w hp; rw [ho] at this; exact this)
  have hp2 : Hid (PlW (w.alloc (.cells #[.int .i64 0, .int .i64 0, .int .i64 0] 43))) := hp.below ((Below.refl _ _).alloc (Nat.le_refl _) _)
  clear ho hp
  go_enter Tryd.func92, Tryd.ntmps92
  go_wp2_with (go_at_call 94; refine (hc.out _ hp2.out).mono ?_; rintro e w1 ⟨rfl, hb⟩; obtain ⟨hcl, hfz⟩ := bl_cellW hb; have hz := bl_sizeW hb; simp at hcl hfz)
  exact bodyPost_ret (v := numW 0 0 3) (by simp [results, Tryd.results92, go_sem, numW, hcl, hz]) rfl ⟨rfl, bl_set3W (bl_overW hb)⟩
set_option maxHeartbeats 1000000 in
theorem wholeMode_some (s : ByteArray) (n : Nat) (h : ¬ 8000 < (s.size : Int)) (ho : rdM s = some n) (w : World) (hp : PlW w) :
    Calls Tryd.prog 92 #[.string s, .func (.func 94) #[] #[]] w fun e w' => e = .returned (numW n 0 0) ∧ Below w.heap.size w w' := by
  have hc : Hid (∀ w, PlW w → Calls Tryd.prog 94 #[.string s] w fun e w' => e = .returned (.tuple #[.int .i64 n, .bool true]) ∧ Below w.heap.size w w') := (by intro w hp; have := readMode_any s w hp; rw [ho] at this; exact this)
  have hp2 : Hid (PlW (w.alloc (.cells #[.int .i64 0, .int .i64 0, .int .i64 0] 43))) := hp.below ((Below.refl _ _).alloc (Nat.le_refl _) _)
  clear ho hp
  go_enter Tryd.func92, Tryd.ntmps92
  go_wp2_with (go_at_call 94; refine (hc.out _ hp2.out).mono ?_; rintro e w1 ⟨rfl, hb⟩; obtain ⟨hcl, hfz⟩ := bl_cellW hb; have hz := bl_sizeW hb; simp at hcl hfz)
  exact bodyPost_ret (v := numW n 0 0) (by simp [results, Tryd.results92, go_sem, numW, hcl, hz]) rfl ⟨rfl, bl_set3W (bl_overW hb)⟩
theorem wholeMode_any (s : ByteArray) (w : World) (hp : PlW w) :
    Calls Tryd.prog 92 #[.string s, .func (.func 94) #[] #[]] w fun e w' => e = .returned (numW (whN s (rdM s)) 0 (whC s (rdM s))) ∧ Below w.heap.size w w' := by
  by_cases h : 8000 < s.size
  · rw [(wh_long h _).1, (wh_long h _).2]
    exact wholeMode_long s (by omega) w
  · cases ho : rdM s with
    | none =>
      rw [(wh_none h rfl).1, (wh_none h rfl).2]
      exact wholeMode_none s (by omega) ho w hp
    | some n =>
      rw [(wh_some h rfl).1, (wh_some h rfl).2]
      exact wholeMode_some s n (by omega) ho w hp
set_option maxHeartbeats 1000000 in
/-- impl.ModeRead. -/
theorem iModeRead_any (s : ByteArray) (w : World) (hp : PlW w) :
    Calls Tryd.prog 29 #[.string s] w fun e w' => e = .returned (numW (whN s (rdM s)) 0 (whC s (rdM s))) ∧ Below w.heap.size w w' := by
  have hc : Hid (∀ w, PlW w → Calls Tryd.prog 92 #[.string s, .func (.func 94) #[] #[]] w fun e w' => e = .returned (.agg #[.int .i64 (whN s (rdM s)), .int .i64 0, .int .i64 (whC s (rdM s))]) ∧ Below w.heap.size w w') := wholeMode_any s
  have hp2 : Hid (PlW (w.alloc (.cells #[.int .i64 0, .int .i64 0, .int .i64 0] 43))) := hp.below ((Below.refl _ _).alloc (Nat.le_refl _) _)
  clear hp
  generalize whN s (rdM s) = n, whC s (rdM s) = c at hc ⊢
  go_enter Tryd.func29, Tryd.ntmps29
  go_wp2_with (go_at_call 92; refine (hc.out _ hp2.out).mono ?_; rintro e w1 ⟨rfl, hb⟩; obtain ⟨hcl, hfz⟩ := bl_cellW hb; have hz := bl_sizeW hb; simp at hcl hfz)
  exact bodyPost_ret (v := numW n 0 c) (by simp [results, Tryd.results29, go_sem, numW, hcl, hz]) rfl ⟨rfl, bl_set3W (bl_overW hb)⟩
end Go.Proofs.YtibofkjonepbpaaDoor
