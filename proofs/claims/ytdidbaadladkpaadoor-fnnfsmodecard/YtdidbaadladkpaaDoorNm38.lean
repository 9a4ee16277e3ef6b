/- Laid together: NfsBits. -/
import Derived.Test.YtdidbaadladkpaaDoorNm36
import Derived.Test.YtdidbaadladkpaaDoorNm1
import Derived.Test.YtdidbaadladkpaaDoorNm4
/- NfsBits and NfsRwx, the program's and the specification's. -/
namespace Go.Proofs.YtdidbaadladkpaaDoor
open Go.RowKit Go.PlainAid
set_option linter.unusedVariables false
theorem belA (w : World) (o : Obj) : Below w.heap.size w (w.alloc o) := (Below.refl _ _).alloc (Nat.le_refl _) _
theorem BelB {w w1 : World} {o : Obj} (h1 : Below w.heap.size w w1) : Below w.heap.size w (w1.alloc o) := h1.trans ((belA w1 o).mono h1.size)
/-- NfsBits of bits. -/
def bitsN (n : Int) : Int := n / 4 * 1 + n / 2 % 2 * 10 + n % 2 * 4
/-- NfsBits. -/
def bitsZ (n : Int) : Int := if inR 0 7 n then bitsN n else 0
/-- NfsRwx of a mask. -/
def rwxN (n : Int) : Int := (if hasZ n 4 then 1 else 0) + (if hasZ n 10 then 2 else 0) + (if hasZ n 1 then 4 else 0)
/-- NfsRwx. -/
def rwxZ (n : Int) : Int := if inR 0 255 n then rwxN n else 0
theorem bx0 (w : World) : (Instr.index 71 (.agg #[.int .i64 4, .int .i64 1, .int .i64 2, .int .i64 10, .int .i64 1, .int .i64 4]) (.int .i64 0)).run Tryd.prog w = .ok (.agg #[.int .i64 4, .int .i64 1]) w := by
  kernel_rfl
theorem bx1 (w : World) : (Instr.index 71 (.agg #[.int .i64 4, .int .i64 1, .int .i64 2, .int .i64 10, .int .i64 1, .int .i64 4]) (.int .i64 1)).run Tryd.prog w = .ok (.agg #[.int .i64 2, .int .i64 10]) w := by
  kernel_rfl
theorem bx2 (w : World) : (Instr.index 71 (.agg #[.int .i64 4, .int .i64 1, .int .i64 2, .int .i64 10, .int .i64 1, .int .i64 4]) (.int .i64 2)).run Tryd.prog w = .ok (.agg #[.int .i64 1, .int .i64 4]) w := by
  kernel_rfl
def btsA (p q r : Bool) (k : Nat) : Int := (if p && decide (0 < k) then 1 else 0) + (if q && decide (1 < k) then 10 else 0) + (if r && decide (2 < k) then 4 else 0)
set_option maxRecDepth 100000 in
set_option maxHeartbeats 8000000 in
/-- impl.NfsBits of what is in its limits. -/
theorem iNfsBits_in (n : Int) (h : inR 0 7 n = true) (w : World) (hp : PlW w) :
    Calls Tryd.prog 25 #[.int .i64 n] w fun e w' => e = .returned (.int .i64 (btsA (hasZ n 4) (hasZ n 2) (hasZ n 1) 3)) ∧ Below w.heap.size w w' := by
  have HP : Hid (PlW w) := hp
  obtain ⟨pl, c0, c1, c2, c3, c4, c5⟩ := hp
  have hH : Hid (∀ v w, Calls Tryd.prog 32 #[.int .i64 n, .int .i64 v] w fun e w' => e = .returned (.bool (hasZ n v)) ∧ w' = w) := (fun v => iHas_any n v)
  have H1 : Hid (∀ w, Calls Tryd.prog 32 #[.int .i64 n, .int .i64 4] w fun e w' => e = .returned (.bool (hasZ n 4)) ∧ w' = w) := iHas_any n 4
  have H2 : Hid (∀ w, Calls Tryd.prog 32 #[.int .i64 n, .int .i64 2] w fun e w' => e = .returned (.bool (hasZ n 2)) ∧ w' = w) := iHas_any n 2
  have H3 : Hid (∀ w, Calls Tryd.prog 32 #[.int .i64 n, .int .i64 1] w fun e w' => e = .returned (.bool (hasZ n 1)) ∧ w' = w) := iHas_any n 1
  generalize hasZ n 4 = b1 at H1 ⊢
  generalize hasZ n 2 = b2 at H2 ⊢
  generalize hasZ n 1 = b3 at H3 ⊢
  clear hH
  have i0 := bx0
  have i1 := bx1
  have i2 := bx2
  cases b1 <;> cases b2 <;> cases b3
  all_goals (
    go_enter Tryd.func25, Tryd.ntmps25
    go_wp2_with (go_at_call 59; refine (isBits_any _ _).mono ?_; rintro e w ⟨rfl, rfl⟩)
    refine wp_loop_rounds 4 ?_
    rw [rounds_succ]
    go_wp2_with fail
    refine (H1.out _).mono ?_
    rintro e w1 ⟨rfl, h1⟩
    subst h1
    go_wp2_with fail
    rw [rounds_succ]
    go_wp2_with fail
    refine (H2.out _).mono ?_
    rintro e w2 ⟨rfl, h2⟩
    subst h2
    go_wp2_with fail
    rw [rounds_succ]
    go_wp2_with fail
    refine (H3.out _).mono ?_
    rintro e w3 ⟨rfl, h3⟩
    subst h3
    go_wp2_with fail
    rw [rounds_succ]
    go_wp2
    go_ret
    exact ⟨rfl, BelB (BelB (belA _ _))⟩)
theorem bitsZ_in (n : Int) (h : inR 0 7 n = true) : btsA (hasZ n 4) (hasZ n 2) (hasZ n 1) 3 = bitsZ n := by
  obtain ⟨h0, h1⟩ := inR_iff.1 h
  rcases (by omega : n = 0 ∨ n = 1 ∨ n = 2 ∨ n = 3 ∨ n = 4 ∨ n = 5 ∨ n = 6 ∨ n = 7) with rfl | rfl | rfl | rfl | rfl | rfl | rfl | rfl <;> decide
set_option maxHeartbeats 2000000 in
theorem iNfsBits_no (n : Int) (h : inR 0 7 n = false) (w : World) :
    Calls Tryd.prog 25 #[.int .i64 n] w fun e w' => e = .returned (.int .i64 0) ∧ Below w.heap.size w w' := by
  go_enter Tryd.func25, Tryd.ntmps25
  go_wp2_with (go_at_call 59; refine (isBits_any _ _).mono ?_; rintro e w ⟨rfl, rfl⟩)
  go_ret
  exact ⟨rfl, Below.refl _ _⟩
/-- impl.NfsBits. -/
theorem iNfsBits_any (n : Int) (w : World) (hp : PlW w) :
    Calls Tryd.prog 25 #[.int .i64 n] w fun e w' => e = .returned (.int .i64 (bitsZ n)) ∧ Below w.heap.size w w' := by
  cases h : inR 0 7 n
  · have e : bitsZ n = 0 := by simp [bitsZ, h]
    rw [e]
    exact iNfsBits_no n h w
  · rw [← bitsZ_in n h]
    exact iNfsBits_in n h w hp
def rwxA (p q r : Bool) (k : Nat) : Int := (if p && decide (0 < k) then 4 else 0) + (if q && decide (1 < k) then 2 else 0) + (if r && decide (2 < k) then 1 else 0)
set_option maxRecDepth 100000 in
set_option maxHeartbeats 8000000 in
/-- impl.NfsRwx of what is in its limits. -/
theorem iNfsRwx_in (n : Int) (h : inR 0 255 n = true) (w : World) (hp : PlW w) :
    Calls Tryd.prog 27 #[.int .i64 n] w fun e w' => e = .returned (.int .i64 (rwxA (hasZ n 1) (hasZ n 10) (hasZ n 4) 3)) ∧ Below w.heap.size w w' := by
  have HP : Hid (PlW w) := hp
  obtain ⟨pl, c0, c1, c2, c3, c4, c5⟩ := hp
  have hH : Hid (∀ v w, Calls Tryd.prog 32 #[.int .i64 n, .int .i64 v] w fun e w' => e = .returned (.bool (hasZ n v)) ∧ w' = w) := (fun v => iHas_any n v)
  have H1 : Hid (∀ w, Calls Tryd.prog 32 #[.int .i64 n, .int .i64 1] w fun e w' => e = .returned (.bool (hasZ n 1)) ∧ w' = w) := iHas_any n 1
  have H2 : Hid (∀ w, Calls Tryd.prog 32 #[.int .i64 n, .int .i64 10] w fun e w' => e = .returned (.bool (hasZ n 10)) ∧ w' = w) := iHas_any n 10
  have H3 : Hid (∀ w, Calls Tryd.prog 32 #[.int .i64 n, .int .i64 4] w fun e w' => e = .returned (.bool (hasZ n 4)) ∧ w' = w) := iHas_any n 4
  generalize hasZ n 1 = b1 at H1 ⊢
  generalize hasZ n 10 = b2 at H2 ⊢
  generalize hasZ n 4 = b3 at H3 ⊢
  clear hH
  obtain ⟨h0, h1⟩ := inR_iff.1 h
  have g0 : ¬ n < 0 := by omega
  have g1 : ¬ 255 < n := by omega
  clear h h0 h1
  have i0 := bx0
  have i1 := bx1
  have i2 := bx2
  cases b1 <;> cases b2 <;> cases b3
  all_goals (
    go_enter Tryd.func27, Tryd.ntmps27
    go_wp2_with fail
    refine wp_loop_rounds 4 ?_
    rw [rounds_succ]
    go_wp2_with fail
    refine (H1.out _).mono ?_
    rintro e w1 ⟨rfl, h1⟩
    subst h1
    go_wp2_with fail
    rw [rounds_succ]
    go_wp2_with fail
    refine (H2.out _).mono ?_
    rintro e w2 ⟨rfl, h2⟩
    subst h2
    go_wp2_with fail
    rw [rounds_succ]
    go_wp2_with fail
    refine (H3.out _).mono ?_
    rintro e w3 ⟨rfl, h3⟩
    subst h3
    go_wp2_with fail
    rw [rounds_succ]
    go_wp2
    go_ret
    exact ⟨rfl, BelB (BelB (belA _ _))⟩)
theorem rwxZ_in (n : Int) (h : inR 0 255 n = true) : rwxA (hasZ n 1) (hasZ n 10) (hasZ n 4) 3 = rwxZ n := by
  unfold rwxZ
  rw [if_pos h]
  unfold rwxN
  cases hasZ n 1 <;> cases hasZ n 10 <;> cases hasZ n 4 <;> rfl
set_option maxHeartbeats 2000000 in
theorem iNfsRwx_no (n : Int) (h : inR 0 255 n = false) (w : World) :
    Calls Tryd.prog 27 #[.int .i64 n] w fun e w' => e = .returned (.int .i64 0) ∧ Below w.heap.size w w' := by
  rcases inR_off h with h1 | h1
  · clear h
    go_enter Tryd.func27, Tryd.ntmps27
    go_wp2
    go_ret
    exact ⟨rfl, Below.refl _ _⟩
  · have h2 : ¬ n < 0 := by omega
    clear h
    go_enter Tryd.func27, Tryd.ntmps27
    go_wp2
    go_ret
    exact ⟨rfl, Below.refl _ _⟩
/-- impl.NfsRwx. -/
theorem iNfsRwx_any (n : Int) (w : World) (hp : PlW w) :
    Calls Tryd.prog 27 #[.int .i64 n] w fun e w' => e = .returned (.int .i64 (rwxZ n)) ∧ Below w.heap.size w w' := by
  cases h : inR 0 255 n
  · have e : rwxZ n = 0 := by simp [rwxZ, h]
    rw [e]
    exact iNfsRwx_no n h w
  · rw [← rwxZ_in n h]
    exact iNfsRwx_in n h w hp
set_option maxHeartbeats 2000000 in
/-- spec.l04Bits of bits. -/
theorem sl04Bits_in (n : Int) (h0 : 0 ≤ n) (h1 : n ≤ 7) (w : World) :
    Calls Tryd.prog 48 #[.int .i64 n] w fun e w' => e = .returned (.int .i64 (bitsN n)) ∧ w' = w := by
  rcases (by omega : n = 0 ∨ n = 1 ∨ n = 2 ∨ n = 3 ∨ n = 4 ∨ n = 5 ∨ n = 6 ∨ n = 7) with rfl | rfl | rfl | rfl | rfl | rfl | rfl | rfl
  all_goals (
    go_enter Tryd.func48, Tryd.ntmps48
    go_wp2
    go_ret
    exact ⟨rfl, rfl⟩)
set_option maxHeartbeats 2000000 in
/-- spec.NfsBits. -/
theorem sNfsBits_any (n : Int) (w : World) :
    Calls Tryd.prog 26 #[.int .i64 n] w fun e w' => e = .returned (.int .i64 (bitsZ n)) ∧ w' = w := by
  cases h : inR 0 7 n
  · have e : bitsZ n = 0 := by simp [bitsZ, h]
    rw [e]
    go_enter Tryd.func26, Tryd.ntmps26
    go_wp2_with (go_at_call 60; refine (sBits_any _ _).mono ?_; rintro e w ⟨rfl, rfl⟩)
    go_ret
    exact ⟨rfl, rfl⟩
  · have e : bitsZ n = bitsN n := by simp [bitsZ, h]
    rw [e]
    obtain ⟨h0, h1⟩ := inR_iff.1 h
    have hB : Hid (∀ w, Calls Tryd.prog 48 #[.int .i64 n] w fun e w' => e = .returned (.int .i64 (bitsN n)) ∧ w' = w) := sl04Bits_in n h0 h1
    generalize bitsN n = m at hB ⊢
    go_enter Tryd.func26, Tryd.ntmps26
    go_wp2_with (first | (go_at_call 60; refine (sBits_any _ _).mono ?_; rintro e w ⟨rfl, rfl⟩) | (go_at_call 48; refine (hB.out _).mono ?_; rintro e w ⟨rfl, rfl⟩))
    go_ret
    exact ⟨rfl, rfl⟩
def rwS (p q r : Bool) (k : Nat) : Int := (if p && decide (0 < k) then 1 else 0) + (if q && decide (1 < k) then 2 else 0) + (if r && decide (2 < k) then 4 else 0)
set_option maxRecDepth 100000 in
set_option maxHeartbeats 8000000 in
/-- spec.l04Rwx of a mask. -/
theorem sl04Rwx_in (n : Nat) (hn : n ≤ 255) (w : World) :
    Calls Tryd.prog 61 #[.int .i64 n] w fun e w' => e = .returned (.int .i64 (rwxN n)) ∧ w' = w := by
  have H1 : Hid (∀ w, Calls Tryd.prog 55 #[.int .i64 n, .int .i64 4] w fun e w' => e = .returned (.bool (hasZ n 4)) ∧ w' = w) := (fun w => by have := sl02Has_any n 4 (by omega) (by omega) w; rw [← hasZ_in (by omega) (by omega)] at this; exact this)
  have H2 : Hid (∀ w, Calls Tryd.prog 55 #[.int .i64 n, .int .i64 10] w fun e w' => e = .returned (.bool (hasZ n 10)) ∧ w' = w) := (fun w => by have := sl02Has_any n 10 (by omega) (by omega) w; rw [← hasZ_in (by omega) (by omega)] at this; exact this)
  have H3 : Hid (∀ w, Calls Tryd.prog 55 #[.int .i64 n, .int .i64 1] w fun e w' => e = .returned (.bool (hasZ n 1)) ∧ w' = w) := (fun w => by have := sl02Has_any n 1 (by omega) (by omega) w; rw [← hasZ_in (by omega) (by omega)] at this; exact this)
  have hB1 : Hid (∀ w, Calls Tryd.prog 48 #[.int .i64 1] w fun e w' => e = .returned (.int .i64 4) ∧ w' = w) := sl04Bits_in 1 (by omega) (by omega)
  have hB2 : Hid (∀ w, Calls Tryd.prog 48 #[.int .i64 2] w fun e w' => e = .returned (.int .i64 10) ∧ w' = w) := sl04Bits_in 2 (by omega) (by omega)
  have hB3 : Hid (∀ w, Calls Tryd.prog 48 #[.int .i64 4] w fun e w' => e = .returned (.int .i64 1) ∧ w' = w) := sl04Bits_in 4 (by omega) (by omega)
  have hres : rwxN n = rwS (hasZ n 4) (hasZ n 10) (hasZ n 1) 3 := by
    unfold rwxN
    cases hasZ n 4 <;> cases hasZ n 10 <;> cases hasZ n 1 <;> rfl
  rw [hres]
  clear hres
  generalize hasZ n 4 = b1 at H1 ⊢
  generalize hasZ n 10 = b2 at H2 ⊢
  generalize hasZ n 1 = b3 at H3 ⊢
  cases b1 <;> cases b2 <;> cases b3
  all_goals (
    go_enter Tryd.func61, Tryd.ntmps61
    go_wp2_with fail
    refine wp_loop_rounds 4 ?_
    rw [rounds_succ]
    go_wp2_with fail
    refine (hB1.out _).mono ?_
    rintro e w1 ⟨rfl, h1⟩
    subst h1
    go_wp2_with fail
    refine (H1.out _).mono ?_
    rintro e w1 ⟨rfl, h1⟩
    subst h1
    go_wp2_with fail
    rw [rounds_succ]
    go_wp2_with fail
    refine (hB2.out _).mono ?_
    rintro e w1 ⟨rfl, h1⟩
    subst h1
    go_wp2_with fail
    refine (H2.out _).mono ?_
    rintro e w1 ⟨rfl, h1⟩
    subst h1
    go_wp2_with fail
    rw [rounds_succ]
    go_wp2_with fail
    refine (hB3.out _).mono ?_
    rintro e w1 ⟨rfl, h1⟩
    subst h1
    go_wp2_with fail
    refine (H3.out _).mono ?_
    rintro e w1 ⟨rfl, h1⟩
    subst h1
    go_wp2_with fail
    rw [rounds_succ]
    go_wp2
    go_ret
    exact ⟨rfl, rfl⟩)
set_option maxHeartbeats 2000000 in
/-- spec.NfsRwx. -/
theorem sNfsRwx_any (n : Int) (w : World) :
    Calls Tryd.prog 28 #[.int .i64 n] w fun e w' => e = .returned (.int .i64 (rwxZ n)) ∧ w' = w := by
  cases h : inR 0 255 n
  · have e : rwxZ n = 0 := by simp [rwxZ, h]
    rw [e]
    go_enter Tryd.func28, Tryd.ntmps28
    go_wp2_with (go_at_call 54; refine (sIs_any _ _ _ _).mono ?_; rintro e w ⟨rfl, rfl⟩)
    go_ret
    exact ⟨rfl, rfl⟩
  · have e : rwxZ n = rwxN n := by simp [rwxZ, h]
    rw [e]
    obtain ⟨h0, h1⟩ := inR_iff.1 h
    obtain ⟨m, rfl⟩ := Int.eq_ofNat_of_zero_le h0
    have hB : Hid (∀ w, Calls Tryd.prog 61 #[.int .i64 m] w fun e w' => e = .returned (.int .i64 (rwxN m)) ∧ w' = w) := sl04Rwx_in m (by omega)
    generalize rwxN m = q at hB ⊢
    go_enter Tryd.func28, Tryd.ntmps28
    go_wp2_with (first | (go_at_call 54; refine (sIs_any _ _ _ _).mono ?_; rintro e w ⟨rfl, rfl⟩) | (go_at_call 61; refine (hB.out _).mono ?_; rintro e w ⟨rfl, rfl⟩))
    go_ret
    exact ⟨rfl, rfl⟩
end Go.Proofs.YtdidbaadladkpaaDoor
