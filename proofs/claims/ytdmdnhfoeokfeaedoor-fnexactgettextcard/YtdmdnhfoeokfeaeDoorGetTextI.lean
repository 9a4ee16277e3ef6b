/- The contracts of impl.readText and impl.GetText. -/
import Derived.Test.YtdmdnhfoeokfeaeDoorGetNumWalks
import Derived.Test.YtdmdnhfoeokfeaeDoorJoin2
namespace Go.Proofs.YtdmdnhfoeokfeaeDoor
open Go.RowKit
set_option linter.unusedVariables false
/-- A number that is there ends within the text. -/
theorem scan_ends (s : ByteArray) (a : Nat) : ∀ f k acc, (scan s a f k acc).2.2 = 0 → 0 ≤ (scan s a f k acc).2.1 ∧ (scan s a f k acc).2.1 ≤ s.size := by
  intro f
  induction f with
  | zero => intro k acc h; simp [scan] at h
  | succ f ih =>
    intro k acc
    unfold scan
    split
    · intro h; simp at h
    · split
      · intro h; simp at h
      · split
        · split
          · intro h; simp at h
          · intro _; simp only []; omega
        · exact ih _ _
theorem readN_ends {s : ByteArray} {x n a : Int} (h : readN s x = (n, a, 0)) : 0 ≤ a ∧ a ≤ s.size := by
  unfold readN at h
  split at h
  · simp at h
  · have := scan_ends s x.toNat 10 0 0
    rw [h] at this
    exact this rfl
/-- What GetText comes to, of what readNum says. -/
def textOf (s : ByteArray) (r : Int × Int × Int) : ByteArray × Int × Int :=
  if r.2.2 ≠ 0 then (⟨#[]⟩, 0, r.2.2) else if r.1 < 0 ∨ 8000 < r.1 then (⟨#[]⟩, 0, 3) else if (s.size : Int) - r.1 < r.2.1 then (⟨#[]⟩, 0, 4)
  else (s.extract r.2.1.toNat (r.2.1.toNat + r.1.toNat), r.2.1 + r.1, 0)
/-- An answer of type TextOut. -/
def txtV (r : ByteArray × Int × Int) : Value := .agg #[.string r.1, .int .i64 r.2.1, .int .i64 r.2.2]
def getT (s : ByteArray) (x : Int) : ByteArray × Int × Int := textOf s (getN s x)
/-- The answer of readText. -/
def readTV (r : ByteArray × Int × Int) : Value := .tuple #[.string r.1, .int .i64 r.2.1, errV r.2.2]
set_option maxRecDepth 100000 in
set_option maxHeartbeats 2000000 in
theorem readText_any (s : ByteArray) (x : Int) (hs : s.size ≤ 8000) (hx : x ≤ 9223372036854775807) (w : World) :
    Calls Tryd.prog 13 #[.string s, .int .i64 x] w fun e w' => e = .returned (readTV (textOf s (readN s x))) ∧ Below w.heap.size w w' := by
  have hR : Hid (∀ w, Calls Tryd.prog 11 #[.string s, .int .i64 x] w fun e w' => e = .returned (readV (readN s x)) ∧ w' = w) := readNum_any s x hs hx
  have hend : Hid (∀ n a, readN s x = (n, a, 0) → 0 ≤ a ∧ a ≤ (s.size : Int)) := fun n a h => readN_ends h
  generalize readN s x = r at hR hend ⊢
  obtain ⟨n, a, c⟩ := r
  by_cases hc : c = 0
  · subst hc
    obtain ⟨ha1, ha2⟩ := hend.out n a rfl
    have hR2 : Hid (∀ w, Calls Tryd.prog 11 #[.string s, .int .i64 x] w fun e w' => e = .returned (.tuple #[.int .i64 n, .int .i64 a, .nilIface]) ∧ w' = w) := hR
    clear hend hR
    by_cases h1 : n < 0 ∨ 8000 < n
    · have ht : Hid (readTV (textOf s (n, a, 0)) = .tuple #[.string ⟨#[]⟩, .int .i64 0, .iface 41 (.agg #[.int .i64 3])]) := by simp [textOf, h1, Hid, readTV, errV]
      by_cases h2 : n < 0
      · clear h1
        go_enter Tryd.func13, Tryd.ntmps13
        go_wp2_with (go_at_call 11; refine (hR2.out _).mono ?_; rintro e w1 ⟨rfl, rfl⟩)
        go_ret3
        exact ⟨by rw [ht.out]; rfl, Below.refl _ _⟩
      · have h3 : 8000 < n := by omega
        have h4 : decide (n < 0) = false := by simp; omega
        clear h1 h2
        go_enter Tryd.func13, Tryd.ntmps13
        go_wp2_with (go_at_call 11; refine (hR2.out _).mono ?_; rintro e w1 ⟨rfl, rfl⟩)
        go_ret3
        exact ⟨by rw [ht.out]; rfl, Below.refl _ _⟩
    · have h2 : decide (n < 0) = false := by simp; omega
      have h3 : decide (8000 < n) = false := by simp; omega
      have h5 : 0 ≤ n := by omega
      have h6 : n ≤ 8000 := by omega
      by_cases h4 : (s.size : Int) - n < a
      · have ht : Hid (readTV (textOf s (n, a, 0)) = .tuple #[.string ⟨#[]⟩, .int .i64 0, .iface 41 (.agg #[.int .i64 4])]) := by
          show _ = _
          unfold textOf
          rw [if_neg (by simp), if_neg h1, if_pos h4]
          rfl
        have h8 : (s.size : Int) - a < n := by omega
        clear h1
        go_enter Tryd.func13, Tryd.ntmps13
        go_wp2_with (go_at_call 11; refine (hR2.out _).mono ?_; rintro e w1 ⟨rfl, rfl⟩)
        go_ret3
        exact ⟨by rw [ht.out]; rfl, Below.refl _ _⟩
      · have ht : Hid (readTV (textOf s (n, a, 0)) = .tuple #[.string (s.extract a.toNat (a.toNat + n.toNat)), .int .i64 (a + n), .nilIface]) := by
          show _ = _
          unfold textOf
          rw [if_neg (by simp), if_neg h1, if_neg h4]
          rfl
        have e1 : (a + n).toNat = a.toNat + n.toNat := by omega
        have h7 : a + n ≤ (s.size : Int) := by omega
        have h8 : n ≤ (s.size : Int) - a := by omega
        have h9 : (s.extract a.toNat (a.toNat + n.toNat)).size ≤ 1099511627776 := by simp; omega
        clear h1
        go_enter Tryd.func13, Tryd.ntmps13
        go_wp2_with (first | (go_at_call 11; refine (hR2.out _).mono ?_; rintro e w1 ⟨rfl, rfl⟩) | (go_at_call 15; refine (join_one _ _ h9).mono ?_; rintro e w2 ⟨rfl, hb2⟩))
        go_ret3
        exact ⟨by rw [ht.out]; rfl, hb2⟩
  · have hR2 : Hid (∀ w, Calls Tryd.prog 11 #[.string s, .int .i64 x] w fun e w' => e = .returned (.tuple #[.int .i64 n, .int .i64 a, .iface 41 (.agg #[.int .i64 c])]) ∧ w' = w) := by
      have := hR.out
      simp only [readV, errV_no hc] at this
      exact this
    have ht : Hid (readTV (textOf s (n, a, c)) = .tuple #[.string ⟨#[]⟩, .int .i64 0, .iface 41 (.agg #[.int .i64 c])]) := by
      show _ = _
      unfold textOf
      rw [if_pos hc]
      simp only [readTV, errV_no hc]
    clear hend hR hc
    go_enter Tryd.func13, Tryd.ntmps13
    go_wp2_with (go_at_call 11; refine (hR2.out _).mono ?_; rintro e w1 ⟨rfl, rfl⟩)
    go_ret3
    exact ⟨by rw [ht.out]; rfl, Below.refl _ _⟩
set_option maxHeartbeats 1000000 in
theorem iGetText_in (s : ByteArray) (x : Int) (hs : s.size ≤ 8000) (hx : x ≤ 9223372036854775807) (w : World) (he : ErrT w) :
    Calls Tryd.prog 9 #[.string s, .int .i64 x] w fun e w' => e = .returned (txtV (textOf s (readN s x))) ∧ Below w.heap.size w w' := by
  have hR : Hid (∀ w, Calls Tryd.prog 13 #[.string s, .int .i64 x] w fun e w' => e = .returned (readTV (textOf s (readN s x))) ∧ Below w.heap.size w w') := readText_any s x hs hx
  have heA : Hid (ErrT (w.alloc (.cells #[.string ⟨#[]⟩, .int .i64 0, .int .i64 0] 28))) := errT_alloc he _ _
  generalize textOf s (readN s x) = r at hR ⊢
  obtain ⟨t, a, c⟩ := r
  by_cases hc : c = 0
  · subst hc
    have hR2 : Hid (∀ w, Calls Tryd.prog 13 #[.string s, .int .i64 x] w fun e w' => e = .returned (.tuple #[.string t, .int .i64 a, .nilIface]) ∧ Below w.heap.size w w') := hR
    clear hR he
    go_enter Tryd.func9, Tryd.ntmps9
    go_wp2_with (first | (go_at_call 13; refine (hR2.out _).mono ?_; rintro e w1 ⟨rfl, hb1⟩; obtain ⟨hcl1, hfl1⟩ := bl_cell hb1; have hz1 := bl_size hb1) | (go_at_call 12; refine (codeOf_nil _).mono ?_; rintro e w2 ⟨rfl, hb⟩; obtain ⟨hcl, hfl⟩ := bl_cell hb))
    exact bodyPost_ret (v := txtV (t, a, 0)) (by simp [results, Tryd.results9, go_sem, hcl, hcl1, hz1, txtV]) rfl ⟨rfl, bl_set3 (bl_then (bl_over hb1) hb)⟩
  · have hR2 : Hid (∀ w, Calls Tryd.prog 13 #[.string s, .int .i64 x] w fun e w' => e = .returned (.tuple #[.string t, .int .i64 a, .iface 41 (.agg #[.int .i64 c])]) ∧ Below w.heap.size w w') := by
      have := hR.out
      simp only [readTV, errV_no hc] at this
      exact this
    clear hR he hc
    go_enter Tryd.func9, Tryd.ntmps9
    go_wp2_with (first | (go_at_call 13; refine (hR2.out _).mono ?_; rintro e w1 ⟨rfl, hb1⟩; obtain ⟨hcl1, hfl1⟩ := bl_cell hb1; have hz1 := bl_size hb1) | (go_at_call 12; refine (codeOf_hit _ _ (heA.out.below hb1)).mono ?_; rintro e w2 ⟨rfl, hb⟩; obtain ⟨hcl, hfl⟩ := bl_cell hb))
    exact bodyPost_ret (v := txtV (t, a, c)) (by simp [results, Tryd.results9, go_sem, hcl, hcl1, hz1, txtV]) rfl ⟨rfl, bl_set3 (bl_then (bl_over hb1) hb)⟩
theorem iGetText_long (s : ByteArray) (x : Int) (h : 8000 < (s.size : Int)) (hs : s.size ≤ maxLen) (w : World) :
    Calls Tryd.prog 9 #[.string s, .int .i64 x] w fun e w' => e = .returned (txtV (⟨#[]⟩, 0, 2)) ∧ Below w.heap.size w w' := by
  unfold maxLen at hs
  go_enter Tryd.func9, Tryd.ntmps9
  go_wp2
  exact bodyPost_ret (v := txtV (⟨#[]⟩, 0, 2)) (by simp [results, Tryd.results9, go_sem, txtV]) rfl ⟨rfl, (Below.refl _ _).alloc (Nat.le_refl _) _⟩
/-- Whatever the text and the place. -/
theorem iGetText_any (s : ByteArray) (x : Int) (hs : s.size ≤ maxLen) (hx : x ≤ 9223372036854775807) (w : World) (he : ErrT w) :
    Calls Tryd.prog 9 #[.string s, .int .i64 x] w fun e w' => e = .returned (txtV (getT s x)) ∧ Below w.heap.size w w' := by
  by_cases h1 : 8000 < s.size
  · have e : getT s x = (⟨#[]⟩, 0, 2) := by simp [getT, getN, h1, textOf]
    rw [e]
    exact iGetText_long s x (by omega) hs w
  · have e : getT s x = textOf s (readN s x) := by rw [getT, getN, if_neg h1, readN]
    rw [e]
    exact iGetText_in s x (by omega) hx w he
end Go.Proofs.YtdmdnhfoeokfeaeDoor
