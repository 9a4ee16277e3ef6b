/- Laid together: Contains, InGroupWalks. -/
import Derived.Test.YtgooanaacebncaaDoorRE11
/- slices.Index and slices.Contains of numbers. -/
namespace Go.Proofs.YtgooanaacebncaaDoor
open Go.RowKit Go.PlainAid
set_option linter.unusedVariables false
theorem anyG_hit {f : Nat → Int} {gid : Int} {k n : Nat} (h : k < n) (hk : f k = gid) : anyG f gid n = true := by
  induction n with
  | zero => omega
  | succ n ih =>
    by_cases e : k = n
    · subst e; simp [anyG, hk]
    · simp [anyG, ih (by omega)]
theorem anyG_next {f : Nat → Int} {gid : Int} {k : Nat} (h : anyG f gid k = false) (hk : f k ≠ gid) : anyG f gid (k + 1) = false := by simp [anyG, h, hk]
theorem index_none (a : Option Addr) (cap : Nat) (gid : Int) (w : World) :
    Calls Tryd.prog 84 #[.slice a 0 cap, .int .i64 gid] w fun e w' => e = .returned (.int .i64 (-1)) ∧ w' = w := by
  go_enter Tryd.func84, Tryd.ntmps84
  go_wp2
  go_rounds 1
  go_ret
  exact ⟨rfl, rfl⟩
set_option maxHeartbeats 1000000 in
theorem index_some (b off len cap : Nat) (f : Nat → Int) (gid : Int) (hl : len ≤ 1048576) (w : World) (hc : Hid (∀ i, i < len → w.cell? ⟨b, off + i, none⟩ = some (.int .i64 (f i)))) :
    Calls Tryd.prog 84 #[.slice (some ⟨b, off, none⟩) len cap, .int .i64 gid] w fun e w' => (∃ z : Int, e = .returned (.int .i64 z) ∧ decide (0 ≤ z) = anyG f gid len) ∧ w' = w := by
  go_enter Tryd.func84, Tryd.ntmps84
  go_wp2
  go_loop [8] (fun i => ∃ k : Nat, k ≤ len ∧ i = .int .i64 k ∧ Hid (anyG f gid k = false)) (fun i => len - (intOf i).toNat)
  case atStart => exact ⟨0, Nat.zero_le _, rfl, rfl⟩
  case round =>
    obtain ⟨k, hk, rfl, hto⟩ := hrel
    by_cases hlt : k < len
    · have g0 := hc.out k hlt
      by_cases he : f k = gid
      · have hy : Hid (anyG f gid len = true) := anyG_hit hlt he
        have q : (gid == f k) = true := by rw [he]; simp
        clear he
        go_wp2
        go_ret
        exact ⟨⟨k, rfl, by rw [hy.out]; simp⟩, rfl⟩
      · have hy : Hid (anyG f gid (k + 1) = false) := anyG_next hto.out he
        have q : (gid == f k) = false := by rw [beq_eq_false_iff_ne]; exact fun e => he e.symm
        clear he
        go_wp2
        go_round
        case rel => exact ⟨k + 1, by omega, by go_num, hy⟩
        case measure => simp [intOf]; omega
    · have : k = len := by omega
      subst this
      go_wp2
      go_ret
      exact ⟨⟨-1, rfl, by rw [hto.out]; decide⟩, rfl⟩
theorem index_any (a : Option Addr) (len cap : Nat) (f : Nat → Int) (gid : Int) (hl : len ≤ 1048576) (w : World) (hi : Ints a len f w) :
    Calls Tryd.prog 84 #[.slice a len cap, .int .i64 gid] w fun e w' => (∃ z : Int, e = .returned (.int .i64 z) ∧ decide (0 ≤ z) = anyG f gid len) ∧ w' = w := by
  by_cases h0 : len = 0
  · subst h0
    refine (index_none a cap gid w).mono ?_
    rintro e w' ⟨rfl, rfl⟩
    exact ⟨⟨-1, rfl, by simp [anyG]⟩, rfl⟩
  · obtain ⟨b, off, rfl, hlt, hc⟩ := hi (by omega)
    exact index_some b off len cap f gid hl w hc
/-- slices.Contains. -/
theorem contains_any (a : Option Addr) (len cap : Nat) (f : Nat → Int) (gid : Int) (hl : len ≤ 1048576) (w : World) (hi : Ints a len f w) :
    Calls Tryd.prog 53 #[.slice a len cap, .int .i64 gid] w fun e w' => e = .returned (.bool (anyG f gid len)) ∧ w' = w := by
  have hc : Hid (∀ w', w' = w → Calls Tryd.prog 84 #[.slice a len cap, .int .i64 gid] w' fun e w'' => (∃ z : Int, e = .returned (.int .i64 z) ∧ decide (0 ≤ z) = anyG f gid len) ∧ w'' = w') := (fun w' e => by subst e; exact index_any a len cap f gid hl w' hi)
  clear hi
  go_enter Tryd.func53, Tryd.ntmps53
  go_wp2_with (go_at_call 84; refine (hc.out _ rfl).mono ?_; rintro e w' ⟨⟨z, rfl, hz⟩, rfl⟩)
  go_ret
  exact ⟨rfl, rfl⟩
theorem inGB_no {u g : Int} {len : Nat} {f : Nat → Int} {gid : Int} (h : credB u g len f = false) : inGB u g len f gid = false := by simp [inGB, h]
theorem inGB_yes {u g : Int} {len : Nat} {f : Nat → Int} {gid : Int} (h : credB u g len f = true) : inGB u g len f gid = (g == gid || anyG f gid len) := by simp [inGB, h]
set_option maxHeartbeats 2000000 in
/-- impl.InGroup. -/
theorem iInGroup_any (u g : Int) (a : Option Addr) (len cap : Nat) (r : Bool) (gid : Int) (f : Nat → Int) (w : World) (hi : Ints a len f w) :
    Calls Tryd.prog 18 #[.agg #[.int .i64 u, .int .i64 g, .slice a len cap, .bool r], .int .i64 gid] w fun e w' => e = .returned (.bool (inGB u g len f gid)) ∧ Below w.heap.size w w' := by
  have hr : Hid (∀ w', Below w.heap.size w w' → Calls Tryd.prog 14 #[.agg #[.int .i64 u, .int .i64 g, .slice a len cap, .bool r]] w' fun e w'' => e = .returned (.bool (credB u g len f)) ∧ Below w'.heap.size w' w'') := (fun w' hb => iCredRight_any u g a len cap r f w' (hi.below hb))
  have hB0 : Hid (Below w.heap.size w (w.alloc (.cells #[.int .i64 u, .int .i64 g, .slice a len cap, .bool r] 25))) := (Below.refl _ _).alloc (Nat.le_refl _) _
  cases h0 : credB u g len f
  · have hy : Hid (inGB u g len f gid = false) := inGB_no h0
    rw [h0] at hr
    clear hi
    go_enter Tryd.func18, Tryd.ntmps18
    go_wp2_with (go_at_call 14; refine (hr.out _ hB0.out).mono ?_; rintro e w1 ⟨rfl, hb1⟩)
    go_ret
    exact ⟨ret_boolW hy.out.symm, hB0.out.trans (hb1.mono (by simp))⟩
  · have hy : Hid (inGB u g len f gid = (g == gid || anyG f gid len)) := inGB_yes h0
    have h8 : len ≤ 8 := gr_len (credB_iff.mp h0).2.2
    rw [h0] at hr
    have hc : Hid (∀ w', Below w.heap.size w w' → Calls Tryd.prog 53 #[.slice a len cap, .int .i64 gid] w' fun e w'' => e = .returned (.bool (anyG f gid len)) ∧ w'' = w') := (fun w' hb => contains_any a len cap f gid (by omega) w' (hi.below hb))
    clear hi
    by_cases he : g = gid
    · have q : (gid == g) = true := by rw [he]; simp
      have q2 : Hid ((g == gid || anyG f gid len) = true) := (by show (g == gid || anyG f gid len) = true; rw [he]; simp)
      clear he
      go_enter Tryd.func18, Tryd.ntmps18
      go_wp2_with (go_at_call 14; refine (hr.out _ hB0.out).mono ?_; rintro e w1 ⟨rfl, hb1⟩; have xc1 : w1.cell? ⟨w.heap.size, 1, none⟩ = some (.int .i64 g) := (hb1.cell (p := ⟨w.heap.size, 1, none⟩) (by simp)).trans (by simp))
      go_ret
      exact ⟨ret_boolW (q2.out.symm.trans hy.out.symm), hB0.out.trans (hb1.mono (by simp))⟩
    · have q : (gid == g) = false := by rw [beq_eq_false_iff_ne]; exact fun e => he e.symm
      have q2 : Hid ((g == gid || anyG f gid len) = anyG f gid len) := (by show (g == gid || anyG f gid len) = anyG f gid len; simp [he])
      clear he
      go_enter Tryd.func18, Tryd.ntmps18
      go_wp2_with (first | (go_at_call 14; refine (hr.out _ hB0.out).mono ?_; rintro e w1 ⟨rfl, hb1⟩; have xc1 : w1.cell? ⟨w.heap.size, 1, none⟩ = some (.int .i64 g) := (hb1.cell (p := ⟨w.heap.size, 1, none⟩) (by simp)).trans (by simp); have xc2 : w1.cell? ⟨w.heap.size, 2, none⟩ = some (.slice a len cap) := (hb1.cell (p := ⟨w.heap.size, 2, none⟩) (by simp)).trans (by simp)) | (go_at_call 53; refine (hc.out _ (hB0.out.trans (hb1.mono (by simp)))).mono ?_; rintro e w2 ⟨rfl, rfl⟩))
      go_ret
      exact ⟨ret_boolW (q2.out.symm.trans hy.out.symm), hB0.out.trans (hb1.mono (by simp))⟩
set_option maxHeartbeats 2000000 in
/-- spec.l02In, of a Cred of few groups. -/
theorem l02In_some (u g : Int) (a : Option Addr) (len cap : Nat) (r : Bool) (gid : Int) (f : Nat → Int) (hl : len ≤ 8) (w : World) (hi : Hid (Ints a len f w)) :
    Calls Tryd.prog 54 #[.agg #[.int .i64 u, .int .i64 g, .slice a len cap, .bool r], .int .i64 gid] w fun e w' => e = .returned (.bool (g == gid || anyG f gid len)) ∧ Below w.heap.size w w' := by
  go_enter Tryd.func54, Tryd.ntmps54
  go_wp2
  go_loop [5, 6] (fun x i => ∃ k : Nat, k ≤ len ∧ i = .int .i64 k ∧ x = .bool (g == gid || anyG f gid k)) (fun _ i => len - (intOf i).toNat)
  case atStart => exact ⟨0, Nat.zero_le _, rfl, by simp [anyG]⟩
  case round =>
    obtain ⟨k, hk, rfl, rfl⟩ := hrel
    by_cases hlt : k < len
    · obtain ⟨b, off, rfl, hb, hc⟩ := hi.out (by omega)
      have g0 : (w.alloc (.cells #[.int .i64 u, .int .i64 g, .slice (some ⟨b, off, none⟩) len cap, .bool r] 25)).cell? ⟨b, off + k, none⟩ = some (.int .i64 (f k)) := ((((Below.refl w.heap.size w).alloc (Nat.le_refl _) _).cell (p := ⟨b, off + k, none⟩) hb)).trans (hc k hlt)
      have hn : Hid ((g == gid || anyG f gid (k + 1)) = ((g == gid || anyG f gid k) || f k == gid)) := (by show (g == gid || anyG f gid (k + 1)) = ((g == gid || anyG f gid k) || f k == gid); simp [anyG, Bool.or_assoc])
      clear hc
      cases hx : (g == gid || anyG f gid k)
      · rw [hx] at hn
        go_wp2
        go_round
        case rel => exact ⟨k + 1, by omega, by go_num, by rw [hn.out]; simp⟩
        case measure => simp [intOf]; omega
      · rw [hx] at hn
        go_wp2
        go_round
        case rel => exact ⟨k + 1, by omega, by go_num, by rw [hn.out]; simp⟩
        case measure => simp [intOf]; omega
    · have : k = len := by omega
      subst this
      obtain ⟨x, hgx⟩ : ∃ x, Hid ((g == gid || anyG f gid k) = x) := ⟨_, rfl⟩
      rw [hgx.out]
      go_wp2
      go_ret
      exact ⟨ret_boolW hgx.out.symm, (Below.refl _ _).alloc (Nat.le_refl _) _⟩
set_option maxHeartbeats 2000000 in
/-- spec.InGroup. -/
theorem sInGroup_any (u g : Int) (a : Option Addr) (len cap : Nat) (r : Bool) (gid : Int) (f : Nat → Int) (w : World) (hi : Ints a len f w) :
    Calls Tryd.prog 19 #[.agg #[.int .i64 u, .int .i64 g, .slice a len cap, .bool r], .int .i64 gid] w fun e w' => e = .returned (.bool (inGB u g len f gid)) ∧ Below w.heap.size w w' := by
  have hr : Hid (∀ w', Below w.heap.size w w' → Calls Tryd.prog 15 #[.agg #[.int .i64 u, .int .i64 g, .slice a len cap, .bool r]] w' fun e w'' => e = .returned (.bool (credB u g len f)) ∧ Below w'.heap.size w' w'') := (fun w' hb => sCredRight_any u g a len cap r f w' (hi.below hb))
  cases h0 : credB u g len f
  · have hy : Hid (inGB u g len f gid = false) := inGB_no h0
    rw [h0] at hr
    clear hi
    go_enter Tryd.func19, Tryd.ntmps19
    go_wp2_with (go_at_call 15; refine (hr.out _ (by first | exact Below.refl _ _ | exact (Below.refl _ _).alloc (Nat.le_refl _) _)).mono ?_; rintro e w1 ⟨rfl, hb1⟩)
    go_ret
    exact ⟨ret_boolW hy.out.symm, by first | exact hb1 | exact ((Below.refl _ _).alloc (Nat.le_refl _) _).trans (hb1.mono (by simp))⟩
  · have hy : Hid (inGB u g len f gid = (g == gid || anyG f gid len)) := inGB_yes h0
    have h8 : len ≤ 8 := gr_len (credB_iff.mp h0).2.2
    rw [h0] at hr
    have hc : Hid (∀ w', Below w.heap.size w w' → Calls Tryd.prog 54 #[.agg #[.int .i64 u, .int .i64 g, .slice a len cap, .bool r], .int .i64 gid] w' fun e w'' => e = .returned (.bool (g == gid || anyG f gid len)) ∧ Below w'.heap.size w' w'') := (fun w' hb => l02In_some u g a len cap r gid f h8 w' (hi.below hb))
    clear hi
    obtain ⟨x, hgx⟩ : ∃ x, Hid ((g == gid || anyG f gid len) = x) := ⟨_, rfl⟩
    rw [hgx.out] at hc hy
    have hB0 : Hid (Below w.heap.size w (w.alloc (.cells #[.int .i64 u, .int .i64 g, .slice a len cap, .bool r] 25))) := (Below.refl _ _).alloc (Nat.le_refl _) _
    go_enter Tryd.func19, Tryd.ntmps19
    go_wp2_with (first | (go_at_call 15; refine (hr.out _ hB0.out).mono ?_; rintro e w1 ⟨rfl, hb1⟩; have xc0 : w1.cell? ⟨w.heap.size, 0, none⟩ = some (.int .i64 u) := (hb1.cell (p := ⟨w.heap.size, 0, none⟩) (by simp)).trans (by simp); have xc1 : w1.cell? ⟨w.heap.size, 1, none⟩ = some (.int .i64 g) := (hb1.cell (p := ⟨w.heap.size, 1, none⟩) (by simp)).trans (by simp); have xc2 : w1.cell? ⟨w.heap.size, 2, none⟩ = some (.slice a len cap) := (hb1.cell (p := ⟨w.heap.size, 2, none⟩) (by simp)).trans (by simp); have xc3 : w1.cell? ⟨w.heap.size, 3, none⟩ = some (.bool r) := (hb1.cell (p := ⟨w.heap.size, 3, none⟩) (by simp)).trans (by simp)) | (go_at_call 54; refine (hc.out _ (hB0.out.trans (hb1.mono (by simp)))).mono ?_; rintro e w2 ⟨rfl, hb2⟩))
    go_ret
    exact ⟨ret_boolW hy.out.symm, (hB0.out.trans (hb1.mono (by simp))).trans (hb2.mono (Nat.le_trans (by simp) hb1.size))⟩
end Go.Proofs.YtgooanaacebncaaDoor
