/- Laid together: HasWalks, NfsBits, GrA. -/
import Derived.Test.YthgcobglecomcaaDoorDf2
import Derived.Test.YthgcobglecomcaaDoorDf9
import Derived.Test.YthgcobglecomcaaDoorDf1
import Derived.Test.YthgcobglecomcaaDoorDf28
import Derived.Test.YthgcobglecomcaaDoorDf31
import Derived.Test.YthgcobglecomcaaDoorDf10
import Derived.Test.YthgcobglecomcaaDoorDf6
/- The contracts of Has: the program's and the specification's both answer whether each number of the one set is in the other. -/
namespace Go.Proofs.YthgcobglecomcaaDoor
open Go.RowKit Go.PlainAid
set_option linter.unusedVariables false
set_option maxHeartbeats 1000000 in
theorem sl02Has_any (h v : Nat) (h1 : h ≤ 65535) (h2 : v ≤ 65535) (w : World) :
    Calls Tryd.prog 99 #[.int .i64 h, .int .i64 v] w fun e w' => e = .returned (.bool (hasB h v)) ∧ w' = w := by
  go_enter Tryd.func99, Tryd.ntmps99
  go_wp2
  go_loop [0, 1] (fun x y => ∃ a b : Nat, a ≤ 65535 ∧ b ≤ 65535 ∧ x = .int .i64 a ∧ y = .int .i64 b ∧ Hid (hasB a b = hasB h v)) (fun _ y => (intOf y).toNat)
  case atStart => exact ⟨h, v, h1, h2, rfl, rfl, rfl⟩
  case round =>
    obtain ⟨a, b, ha, hb, rfl, rfl, he⟩ := hrel
    by_cases hz : b = 0
    · subst hz
      have hy : Hid (hasB h v = true) := (he.out.symm.trans (hasB_zero a))
      go_wp2
      go_ret
      exact ⟨ret_boolW hy.out.symm, rfl⟩
    · have hp : 0 < (b : Int) := by omega
      clear hz
      by_cases hb1 : b % 2 = 1
      · have q1 : (b : Int) % 2 = 1 := by omega
        by_cases ha0 : a % 2 = 0
        · have hy : Hid (hasB h v = false) := (he.out.symm.trans (hasB_no ha0 hb1))
          have q2 : (a : Int) % 2 = 0 := by omega
          clear hb1 ha0
          go_wp2
          go_ret
          exact ⟨ret_boolW hy.out.symm, rfl⟩
        · have hy : Hid (hasB (a / 2) (b / 2) = hasB h v) := ((hasB_half (fun e => ha0 e.1)).symm.trans he.out)
          have q2 : (a : Int) % 2 = 1 := by omega
          clear hb1 ha0
          go_wp2
          go_round
          case rel => exact ⟨a / 2, b / 2, by omega, by omega, by go_num, by go_num, hy⟩
          case measure => simp [intOf]; omega
      · have hy : Hid (hasB (a / 2) (b / 2) = hasB h v) := ((hasB_half (fun e => hb1 e.2)).symm.trans he.out)
        have q1 : (b : Int) % 2 = 0 := by omega
        clear hb1
        go_wp2
        go_round
        case rel => exact ⟨a / 2, b / 2, by omega, by omega, by go_num, by go_num, hy⟩
        case measure => simp [intOf]; omega
theorem hasZ_def (h v : Int) (h0 : inR 0 65535 h = true) (h1 : inR 0 65535 v = true) : hasZ h v = hasB h.toNat v.toNat := by
  rw [inR_iff] at h0 h1
  simp [hasZ, h0, h1]
theorem and_i64 (a b : Nat) (h1 : a ≤ 65535) (h2 : b ≤ 65535) : bits .and .i64 (a : Int) (b : Int) = ((a &&& b : Nat) : Int) := i64_and_nat a b (by omega) (by omega)
set_option maxHeartbeats 1000000 in
theorem iHas_any (h v : Int) (w : World) :
    Calls Tryd.prog 98 #[.int .i64 h, .int .i64 v] w fun e w' => e = .returned (.bool (hasZ h v)) ∧ w' = w := by
  cases e1 : inR 0 65535 h
  · have hy : Hid (hasZ h v = false) := hasZ_off (fun e => by rw [inR_yes e.1 e.2] at e1; cases e1)
    go_enter Tryd.func98, Tryd.ntmps98
    go_wp2_with (go_at_call 108; refine (isSet_any _ _).mono ?_; rintro e w' ⟨rfl, rfl⟩)
    go_ret
    exact ⟨ret_boolW hy.out.symm, rfl⟩
  · cases e2 : inR 0 65535 v
    · have hy : Hid (hasZ h v = false) := hasZ_off2 (fun e => by rw [inR_yes e.1 e.2] at e2; cases e2)
      go_enter Tryd.func98, Tryd.ntmps98
      go_wp2_with (go_at_call 108; refine (isSet_any _ _).mono ?_; rintro e w' ⟨rfl, rfl⟩)
      go_ret
      exact ⟨ret_boolW hy.out.symm, rfl⟩
    · have hy : Hid (hasZ h v = hasB h.toNat v.toNat) := hasZ_def h v e1 e2
      obtain ⟨a, rfl⟩ := Int.eq_ofNat_of_zero_le (inR_iff.mp e1).1
      obtain ⟨b, rfl⟩ := Int.eq_ofNat_of_zero_le (inR_iff.mp e2).1
      have hab := and_i64 a b (by have := (inR_iff.mp e1).2; omega) (by have := (inR_iff.mp e2).2; omega)
      have hz : Hid ((((a &&& b : Nat) : Int) == (b : Int)) = hasB a b) := (show (((a &&& b : Nat) : Int) == (b : Int)) = hasB a b by unfold hasB; rw [Bool.eq_iff_iff]; simp only [beq_iff_eq]; omega)
      go_enter Tryd.func98, Tryd.ntmps98
      go_wp2_with (go_at_call 108; refine (isSet_any _ _).mono ?_; rintro e w' ⟨rfl, rfl⟩)
      go_ret
      exact ⟨ret_boolW (hz.out.trans hy.out.symm), rfl⟩
end Go.Proofs.YthgcobglecomcaaDoor
/- NfsBits and NfsRwx, the program's and the specification's. -/
namespace Go.Proofs.YthgcobglecomcaaDoor
open Go.RowKit Go.PlainAid
set_option linter.unusedVariables false
theorem belA (w : World) (o : Obj) : Below w.heap.size w (w.alloc o) := (Below.refl _ _).alloc (Nat.le_refl _) _
theorem BelB {w w1 : World} {o : Obj} (h1 : Below w.heap.size w w1) : Below w.heap.size w (w1.alloc o) := h1.trans ((belA w1 o).mono h1.size)
/-- NfsBits of bits. -/
def bitsN (n : Int) : Int := n / 4 * 1 + n / 2 % 2 * 10 + n % 2 * 4
/-- NfsBits. -/
def bitsZ (n : Int) : Int := if inR 0 7 n then bitsN n else 0
/-- NfsRwx of a mask. -/
def rwxN (n : Int) : Int := (if hasZ n 4 then 1 else 0) + (if hasZ n 10 then 2 else 0) + (if hasZ n 1 then 4 else 0)
/-- NfsRwx. -/
def rwxZ (n : Int) : Int := if inR 0 255 n then rwxN n else 0
theorem bx0 (w : World) : (Instr.index 106 (.agg #[.int .i64 4, .int .i64 1, .int .i64 2, .int .i64 10, .int .i64 1, .int .i64 4]) (.int .i64 0)).run Tryd.prog w = .ok (.agg #[.int .i64 4, .int .i64 1]) w := by
  kernel_rfl
theorem bx1 (w : World) : (Instr.index 106 (.agg #[.int .i64 4, .int .i64 1, .int .i64 2, .int .i64 10, .int .i64 1, .int .i64 4]) (.int .i64 1)).run Tryd.prog w = .ok (.agg #[.int .i64 2, .int .i64 10]) w := by
  kernel_rfl
theorem bx2 (w : World) : (Instr.index 106 (.agg #[.int .i64 4, .int .i64 1, .int .i64 2, .int .i64 10, .int .i64 1, .int .i64 4]) (.int .i64 2)).run Tryd.prog w = .ok (.agg #[.int .i64 1, .int .i64 4]) w := by
  kernel_rfl
def btsA (p q r : Bool) (k : Nat) : Int := (if p && decide (0 < k) then 1 else 0) + (if q && decide (1 < k) then 10 else 0) + (if r && decide (2 < k) then 4 else 0)
set_option maxRecDepth 100000 in
set_option maxHeartbeats 8000000 in
/-- impl.NfsBits of what is in its limits. -/
theorem iNfsBits_in (n : Int) (h : inR 0 7 n = true) (w : World) (hp : PlW w) :
    Calls Tryd.prog 73 #[.int .i64 n] w fun e w' => e = .returned (.int .i64 (btsA (hasZ n 4) (hasZ n 2) (hasZ n 1) 3)) ∧ Below w.heap.size w w' := by
  have HP : Hid (PlW w) := hp
  obtain ⟨pl, c0, c1, c2, c3, c4, c5⟩ := hp
  have hH : Hid (∀ v w, Calls Tryd.prog 98 #[.int .i64 n, .int .i64 v] w fun e w' => e = .returned (.bool (hasZ n v)) ∧ w' = w) := (fun v => iHas_any n v)
  have H1 : Hid (∀ w, Calls Tryd.prog 98 #[.int .i64 n, .int .i64 4] w fun e w' => e = .returned (.bool (hasZ n 4)) ∧ w' = w) := iHas_any n 4
  have H2 : Hid (∀ w, Calls Tryd.prog 98 #[.int .i64 n, .int .i64 2] w fun e w' => e = .returned (.bool (hasZ n 2)) ∧ w' = w) := iHas_any n 2
  have H3 : Hid (∀ w, Calls Tryd.prog 98 #[.int .i64 n, .int .i64 1] w fun e w' => e = .returned (.bool (hasZ n 1)) ∧ w' = w) := iHas_any n 1
  generalize hasZ n 4 = b1 at H1 ⊢
  generalize hasZ n 2 = b2 at H2 ⊢
  generalize hasZ n 1 = b3 at H3 ⊢
  clear hH
  have i0 := bx0
  have i1 := bx1
  have i2 := bx2
  cases b1 <;> cases b2 <;> cases b3
  all_goals (
    go_enter Tryd.func73, Tryd.ntmps73
    go_wp2_with (go_at_call 68; refine (isBits_any _ _).mono ?_; rintro e w ⟨rfl, rfl⟩)
    refine wp_loop_rounds 4 ?_
    rw [rounds_succ]
    go_wp2_with fail
    refine (H1.out _).mono ?_
    rintro e w1 ⟨rfl, h1⟩
    subst h1
    go_wp2_with fail
    rw [rounds_succ]
    go_wp2_with fail
    refine (H2.out _).mono ?_
    rintro e w2 ⟨rfl, h2⟩
    subst h2
    go_wp2_with fail
    rw [rounds_succ]
    go_wp2_with fail
    refine (H3.out _).mono ?_
    rintro e w3 ⟨rfl, h3⟩
    subst h3
    go_wp2_with fail
    rw [rounds_succ]
    go_wp2
    go_ret
    exact ⟨rfl, BelB (BelB (belA _ _))⟩)
theorem bitsZ_in (n : Int) (h : inR 0 7 n = true) : btsA (hasZ n 4) (hasZ n 2) (hasZ n 1) 3 = bitsZ n := by
  obtain ⟨h0, h1⟩ := inR_iff.1 h
  rcases (by omega : n = 0 ∨ n = 1 ∨ n = 2 ∨ n = 3 ∨ n = 4 ∨ n = 5 ∨ n = 6 ∨ n = 7) with rfl | rfl | rfl | rfl | rfl | rfl | rfl | rfl <;> decide
set_option maxHeartbeats 2000000 in
theorem iNfsBits_no (n : Int) (h : inR 0 7 n = false) (w : World) :
    Calls Tryd.prog 73 #[.int .i64 n] w fun e w' => e = .returned (.int .i64 0) ∧ Below w.heap.size w w' := by
  go_enter Tryd.func73, Tryd.ntmps73
  go_wp2_with (go_at_call 68; refine (isBits_any _ _).mono ?_; rintro e w ⟨rfl, rfl⟩)
  go_ret
  exact ⟨rfl, Below.refl _ _⟩
/-- impl.NfsBits. -/
theorem iNfsBits_any (n : Int) (w : World) (hp : PlW w) :
    Calls Tryd.prog 73 #[.int .i64 n] w fun e w' => e = .returned (.int .i64 (bitsZ n)) ∧ Below w.heap.size w w' := by
  cases h : inR 0 7 n
  · have e : bitsZ n = 0 := by simp [bitsZ, h]
    rw [e]
    exact iNfsBits_no n h w
  · rw [← bitsZ_in n h]
    exact iNfsBits_in n h w hp
def rwxA (p q r : Bool) (k : Nat) : Int := (if p && decide (0 < k) then 4 else 0) + (if q && decide (1 < k) then 2 else 0) + (if r && decide (2 < k) then 1 else 0)
set_option maxRecDepth 100000 in
set_option maxHeartbeats 8000000 in
/-- impl.NfsRwx of what is in its limits. -/
theorem iNfsRwx_in (n : Int) (h : inR 0 255 n = true) (w : World) (hp : PlW w) :
    Calls Tryd.prog 85 #[.int .i64 n] w fun e w' => e = .returned (.int .i64 (rwxA (hasZ n 1) (hasZ n 10) (hasZ n 4) 3)) ∧ Below w.heap.size w w' := by
  have HP : Hid (PlW w) := hp
  obtain ⟨pl, c0, c1, c2, c3, c4, c5⟩ := hp
  have hH : Hid (∀ v w, Calls Tryd.prog 98 #[.int .i64 n, .int .i64 v] w fun e w' => e = .returned (.bool (hasZ n v)) ∧ w' = w) := (fun v => iHas_any n v)
  have H1 : Hid (∀ w, Calls Tryd.prog 98 #[.int .i64 n, .int .i64 1] w fun e w' => e = .returned (.bool (hasZ n 1)) ∧ w' = w) := iHas_any n 1
  have H2 : Hid (∀ w, Calls Tryd.prog 98 #[.int .i64 n, .int .i64 10] w fun e w' => e = .returned (.bool (hasZ n 10)) ∧ w' = w) := iHas_any n 10
  have H3 : Hid (∀ w, Calls Tryd.prog 98 #[.int .i64 n, .int .i64 4] w fun e w' => e = .returned (.bool (hasZ n 4)) ∧ w' = w) := iHas_any n 4
  generalize hasZ n 1 = b1 at H1 ⊢
  generalize hasZ n 10 = b2 at H2 ⊢
  generalize hasZ n 4 = b3 at H3 ⊢
  clear hH
  obtain ⟨h0, h1⟩ := inR_iff.1 h
  have g0 : ¬ n < 0 := by omega
  have g1 : ¬ 255 < n := by omega
  clear h h0 h1
  have i0 := bx0
  have i1 := bx1
  have i2 := bx2
  cases b1 <;> cases b2 <;> cases b3
  all_goals (
    go_enter Tryd.func85, Tryd.ntmps85
    go_wp2_with fail
    refine wp_loop_rounds 4 ?_
    rw [rounds_succ]
    go_wp2_with fail
    refine (H1.out _).mono ?_
    rintro e w1 ⟨rfl, h1⟩
    subst h1
    go_wp2_with fail
    rw [rounds_succ]
    go_wp2_with fail
    refine (H2.out _).mono ?_
    rintro e w2 ⟨rfl, h2⟩
    subst h2
    go_wp2_with fail
    rw [rounds_succ]
    go_wp2_with fail
    refine (H3.out _).mono ?_
    rintro e w3 ⟨rfl, h3⟩
    subst h3
    go_wp2_with fail
    rw [rounds_succ]
    go_wp2
    go_ret
    exact ⟨rfl, BelB (BelB (belA _ _))⟩)
theorem rwxZ_in (n : Int) (h : inR 0 255 n = true) : rwxA (hasZ n 1) (hasZ n 10) (hasZ n 4) 3 = rwxZ n := by
  unfold rwxZ
  rw [if_pos h]
  unfold rwxN
  cases hasZ n 1 <;> cases hasZ n 10 <;> cases hasZ n 4 <;> rfl
set_option maxHeartbeats 2000000 in
theorem iNfsRwx_no (n : Int) (h : inR 0 255 n = false) (w : World) :
    Calls Tryd.prog 85 #[.int .i64 n] w fun e w' => e = .returned (.int .i64 0) ∧ Below w.heap.size w w' := by
  rcases inR_off h with h1 | h1
  · clear h
    go_enter Tryd.func85, Tryd.ntmps85
    go_wp2
    go_ret
    exact ⟨rfl, Below.refl _ _⟩
  · have h2 : ¬ n < 0 := by omega
    clear h
    go_enter Tryd.func85, Tryd.ntmps85
    go_wp2
    go_ret
    exact ⟨rfl, Below.refl _ _⟩
/-- impl.NfsRwx. -/
theorem iNfsRwx_any (n : Int) (w : World) (hp : PlW w) :
    Calls Tryd.prog 85 #[.int .i64 n] w fun e w' => e = .returned (.int .i64 (rwxZ n)) ∧ Below w.heap.size w w' := by
  cases h : inR 0 255 n
  · have e : rwxZ n = 0 := by simp [rwxZ, h]
    rw [e]
    exact iNfsRwx_no n h w
  · rw [← rwxZ_in n h]
    exact iNfsRwx_in n h w hp
set_option maxHeartbeats 2000000 in
/-- spec.l04Bits of bits. -/
theorem sl04Bits_in (n : Int) (h0 : 0 ≤ n) (h1 : n ≤ 7) (w : World) :
    Calls Tryd.prog 84 #[.int .i64 n] w fun e w' => e = .returned (.int .i64 (bitsN n)) ∧ w' = w := by
  rcases (by omega : n = 0 ∨ n = 1 ∨ n = 2 ∨ n = 3 ∨ n = 4 ∨ n = 5 ∨ n = 6 ∨ n = 7) with rfl | rfl | rfl | rfl | rfl | rfl | rfl | rfl
  all_goals (
    go_enter Tryd.func84, Tryd.ntmps84
    go_wp2
    go_ret
    exact ⟨rfl, rfl⟩)
def rwS (p q r : Bool) (k : Nat) : Int := (if p && decide (0 < k) then 1 else 0) + (if q && decide (1 < k) then 2 else 0) + (if r && decide (2 < k) then 4 else 0)
set_option maxRecDepth 100000 in
set_option maxHeartbeats 8000000 in
/-- spec.l04Rwx of a mask. -/
theorem sl04Rwx_in (n : Nat) (hn : n ≤ 255) (w : World) :
    Calls Tryd.prog 77 #[.int .i64 n] w fun e w' => e = .returned (.int .i64 (rwxN n)) ∧ w' = w := by
  have H1 : Hid (∀ w, Calls Tryd.prog 99 #[.int .i64 n, .int .i64 4] w fun e w' => e = .returned (.bool (hasZ n 4)) ∧ w' = w) := (fun w => by have := sl02Has_any n 4 (by omega) (by omega) w; rw [← hasZ_in (by omega) (by omega)] at this; exact this)
  have H2 : Hid (∀ w, Calls Tryd.prog 99 #[.int .i64 n, .int .i64 10] w fun e w' => e = .returned (.bool (hasZ n 10)) ∧ w' = w) := (fun w => by have := sl02Has_any n 10 (by omega) (by omega) w; rw [← hasZ_in (by omega) (by omega)] at this; exact this)
  have H3 : Hid (∀ w, Calls Tryd.prog 99 #[.int .i64 n, .int .i64 1] w fun e w' => e = .returned (.bool (hasZ n 1)) ∧ w' = w) := (fun w => by have := sl02Has_any n 1 (by omega) (by omega) w; rw [← hasZ_in (by omega) (by omega)] at this; exact this)
  have hB1 : Hid (∀ w, Calls Tryd.prog 84 #[.int .i64 1] w fun e w' => e = .returned (.int .i64 4) ∧ w' = w) := sl04Bits_in 1 (by omega) (by omega)
  have hB2 : Hid (∀ w, Calls Tryd.prog 84 #[.int .i64 2] w fun e w' => e = .returned (.int .i64 10) ∧ w' = w) := sl04Bits_in 2 (by omega) (by omega)
  have hB3 : Hid (∀ w, Calls Tryd.prog 84 #[.int .i64 4] w fun e w' => e = .returned (.int .i64 1) ∧ w' = w) := sl04Bits_in 4 (by omega) (by omega)
  have hres : rwxN n = rwS (hasZ n 4) (hasZ n 10) (hasZ n 1) 3 := by
    unfold rwxN
    cases hasZ n 4 <;> cases hasZ n 10 <;> cases hasZ n 1 <;> rfl
  rw [hres]
  clear hres
  generalize hasZ n 4 = b1 at H1 ⊢
  generalize hasZ n 10 = b2 at H2 ⊢
  generalize hasZ n 1 = b3 at H3 ⊢
  cases b1 <;> cases b2 <;> cases b3
  all_goals (
    go_enter Tryd.func77, Tryd.ntmps77
    go_wp2_with fail
    refine wp_loop_rounds 4 ?_
    rw [rounds_succ]
    go_wp2_with fail
    refine (hB1.out _).mono ?_
    rintro e w1 ⟨rfl, h1⟩
    subst h1
    go_wp2_with fail
    refine (H1.out _).mono ?_
    rintro e w1 ⟨rfl, h1⟩
    subst h1
    go_wp2_with fail
    rw [rounds_succ]
    go_wp2_with fail
    refine (hB2.out _).mono ?_
    rintro e w1 ⟨rfl, h1⟩
    subst h1
    go_wp2_with fail
    refine (H2.out _).mono ?_
    rintro e w1 ⟨rfl, h1⟩
    subst h1
    go_wp2_with fail
    rw [rounds_succ]
    go_wp2_with fail
    refine (hB3.out _).mono ?_
    rintro e w1 ⟨rfl, h1⟩
    subst h1
    go_wp2_with fail
    refine (H3.out _).mono ?_
    rintro e w1 ⟨rfl, h1⟩
    subst h1
    go_wp2_with fail
    rw [rounds_succ]
    go_wp2
    go_ret
    exact ⟨rfl, rfl⟩)
end Go.Proofs.YthgcobglecomcaaDoor
/- impl.grantsOfAcl: the three that have no name. -/
namespace Go.Proofs.YthgcobglecomcaaDoor
open Go.RowKit Go.PlainAid Go.Deep
set_option linter.unusedVariables false
/-- What is known of the slots, operation by operation. -/
def grT (X : Nat) (A : Al) (i : Nat) (v : Value) : Prop := match i with
  | 1 => v = .agg #[.int .i64 1, .int .i64 0]
  | 2 => v = .pointer (some ⟨X, 0, none⟩)
  | 3 => v = .int .i64 A.u
  | 4 => v = .int .i64 (bitsZ A.u)
  | 6 => v = .agg #[.int .i64 2, .int .i64 0]
  | 7 => v = .pointer (some ⟨X, 1, none⟩)
  | 8 => v = .int .i64 A.g
  | 9 => v = .int .i64 (clsOf A.g A.r A.m)
  | 10 => v = .int .i64 (bits .and .i64 A.g (clsOf A.g A.r A.m))
  | 11 => v = .int .i64 (bitsZ (bits .and .i64 A.g (clsOf A.g A.r A.m)))
  | 13 => v = .agg #[.int .i64 3, .int .i64 0]
  | 14 => v = .pointer (some ⟨X, 2, none⟩)
  | 15 => v = .int .i64 A.o
  | 16 => v = .int .i64 (bitsZ A.o)
  | _ => True
/-- What the map says, by what is put in so far. -/
def grP (A : Al) (l : Array Bool) : Int → Int → Int := fun x y => if l.getD 17 false = true ∧ x = 3 ∧ y = 0 then bitsZ A.o else if l.getD 12 false = true ∧ x = 2 ∧ y = 0 then bitsZ (bits .and .i64 A.g (clsOf A.g A.r A.m)) else if l.getD 5 false = true ∧ x = 1 ∧ y = 0 then bitsZ A.u else 0
theorem getD_same {l : Array Bool} {i : Nat} (h : i < l.size) : (l.setIfInBounds i true).getD i false = true := by simp [Array.getD, h]
theorem getD_other {l : Array Bool} {i j : Nat} (h : j ≠ i) : (l.setIfInBounds i true).getD j false = l.getD j false := by
  by_cases hj : j < l.size
  · simp [Array.getD, hj, Ne.symm h]
  · simp [Array.getD, hj]
/-- What holds ahead of each operation. -/
structure GI (X : Nat) (A : Al) (w0 : World) (l : Array Bool) (w : World) (V : Nat → Value) : Prop where
  sz : l.size = 20
  bel : Below w0.heap.size w0 w
  val : ∀ i, l.getD i false = true → grT X A i (V i)
  map : l.getD 0 false = true → ∃ b n, V 0 = .map (some b) ∧ w0.heap.size ≤ b ∧ n + unl l ≤ 40 ∧ GM w b n (grP A l)
  m18 : l.getD 18 false = true → V 18 = V 0
  m19 : l.getD 19 false = true → V 19 = V 0
  non : l.getD 0 false = false → l.getD 5 false = false ∧ l.getD 12 false = false ∧ l.getD 17 false = false ∧ l.getD 18 false = false ∧ l.getD 19 false = false
def upV (V : Nat → Value) (i : Nat) (v : Value) : Nat → Value := fun j => if j = i then v else V j
theorem grP_keep {A : Al} {l : Array Bool} {i : Nat} (h5 : i ≠ 5) (h12 : i ≠ 12) (h17 : i ≠ 17) : grP A (l.setIfInBounds i true) = grP A l := by
  unfold grP
  rw [getD_other (Ne.symm h17), getD_other (Ne.symm h12), getD_other (Ne.symm h5)]
variable {X : Nat} {A : Al} {w0 w w' : World} {l : Array Bool} {V : Nat → Value}
/-- A step that makes new memory at most, and writes a slot. -/
theorem GI.step (h : GI X A w0 l w V) (i : Nat) (hi : l.getD i true = false) (v : Value) (hb : Below w.heap.size w w') (hv : grT X A i v) (h0 : i ≠ 0) (h5 : i ≠ 5) (h12 : i ≠ 12) (h17 : i ≠ 17) (h18 : i = 18 → l.getD 0 false = true ∧ v = V 0) (h19 : i = 19 → l.getD 0 false = true ∧ v = V 0) : GI X A w0 (l.setIfInBounds i true) w' (upV V i v) := by
  have hu := unl_set hi
  refine ⟨by rw [Array.size_setIfInBounds]; exact h.sz, Below.on h.bel hb, fun j hj => ?_, fun hl => ?_, fun hl => ?_, fun hl => ?_, fun hl => ?_⟩
  · by_cases e : j = i
    · subst e; simpa [upV] using hv
    · rw [getD_other e] at hj
      simpa [upV, e] using h.val j hj
  · rw [getD_other (Ne.symm h0)] at hl
    obtain ⟨b, n, e, hbb, hn, hG⟩ := h.map hl
    refine ⟨b, n, by simpa [upV, Ne.symm h0] using e, hbb, by omega, ?_⟩
    rw [grP_keep h5 h12 h17]
    exact hG.below hb
  · by_cases e : (18 : Nat) = i
    · subst e
      have := (h18 rfl).2
      simp [upV, this]
    · rw [getD_other e] at hl
      simpa [upV, e, Ne.symm h0] using h.m18 hl
  · by_cases e : (19 : Nat) = i
    · subst e
      have := (h19 rfl).2
      simp [upV, this]
    · rw [getD_other e] at hl
      simpa [upV, e, Ne.symm h0] using h.m19 hl
  · rw [getD_other (Ne.symm h0)] at hl
    obtain ⟨n1, n2, n3, n4, n5⟩ := h.non hl
    have e18 : i ≠ 18 := fun e => by rw [(h18 e).1] at hl; cases hl
    have e19 : i ≠ 19 := fun e => by rw [(h19 e).1] at hl; cases hl
    rw [getD_other (Ne.symm h5), getD_other (Ne.symm h12), getD_other (Ne.symm h17), getD_other (Ne.symm e18), getD_other (Ne.symm e19)]
    exact ⟨n1, n2, n3, n4, n5⟩
theorem GI.made (h : GI X A w0 l w V) (hi : l.getD 0 true = false) (hi2 : l.getD 0 false = false) : GI X A w0 (l.setIfInBounds 0 true) (w.alloc (.map #[] 0)) (upV V 0 (.map (some w.heap.size))) := by
  have hu := unl_set hi
  have hb : Below w.heap.size w (w.alloc (.map #[] 0)) := (Below.refl _ _).alloc (Nat.le_refl _) _
  obtain ⟨n1, n2, n3, n4, n5⟩ := h.non hi2
  have hun : unl l ≤ 20 := by
    unfold unl
    have h1 : l.toList.count false ≤ l.toList.length := List.count_le_length
    have h2 : l.toList.length = 20 := by simpa using h.sz
    omega
  refine ⟨by rw [Array.size_setIfInBounds]; exact h.sz, Below.on h.bel hb, fun j hj => ?_, fun hl => ?_, fun hl => ?_, fun hl => ?_, fun hl => ?_⟩
  · by_cases e : j = 0
    · subst e; trivial
    · rw [getD_other e] at hj
      simpa [upV, e] using h.val j hj
  · refine ⟨w.heap.size, 0, by simp [upV], h.bel.size, by omega, ?_⟩
    have e0 : grP A (l.setIfInBounds 0 true) = fun _ _ => 0 := by
      rw [grP_keep (by decide) (by decide) (by decide)]
      funext x y
      simp [grP, n1, n2, n3]
    rw [e0]
    exact gm_made w
  · rw [getD_other (by decide)] at hl
    rw [n4] at hl
    cases hl
  · rw [getD_other (by decide)] at hl
    rw [n5] at hl
    cases hl
  · rw [getD_same (by rw [h.sz]; decide)] at hl
    cases hl
/-- One is put in. -/
theorem GI.put (h : GI X A w0 l w V) (i : Nat) (hi : l.getD i true = false) (hl0 : l.getD 0 false = true) (x v : Int) (wx : (Lit.int .i64 x).wf = true) (wv : (Lit.int .i64 v).wf = true) (hix : (i = 5 ∧ x = 1 ∧ v = bitsZ A.u) ∨ (i = 12 ∧ x = 2 ∧ v = bitsZ (bits .and .i64 A.g (clsOf A.g A.r A.m))) ∨ (i = 17 ∧ x = 3 ∧ v = bitsZ A.o)) :
    ∃ b w', V 0 = .map (some b) ∧ (Instr.mapUpdate 60 (.map (some b)) (.agg #[.int .i64 x, .int .i64 0]) (.int .i64 v)).run Tryd.prog w = .ok () w' ∧ GI X A w0 (l.setIfInBounds i true) w' V := by
  obtain ⟨b, n, e, hbb, hn, hG⟩ := h.map hl0
  have hu := unl_set hi
  obtain ⟨w', hr, hG', hg⟩ := hG.put (by omega) wx (show (Lit.int .i64 0).wf = true by decide) wv
  have hne : i ≠ 0 ∧ i ≠ 18 ∧ i ≠ 19 := by omega
  have hgT : ∀ y, grT X A i y := fun y => by rcases hix with ⟨rfl, _⟩ | ⟨rfl, _⟩ | ⟨rfl, _⟩ <;> trivial
  have his : i < l.size := by rw [h.sz]; omega
  have hφ : (fun x2 y2 => if x2 = x ∧ y2 = 0 then v else grP A l x2 y2) = grP A (l.setIfInBounds i true) := by
    funext x2 y2
    rcases hix with ⟨rfl, rfl, rfl⟩ | ⟨rfl, rfl, rfl⟩ | ⟨rfl, rfl, rfl⟩
    · unfold grP
      rw [getD_other (show (17 : Nat) ≠ 5 by decide), getD_other (show (12 : Nat) ≠ 5 by decide), getD_same his]
      by_cases e1 : x2 = 1 ∧ y2 = 0
      · obtain ⟨rfl, rfl⟩ := e1; simp
      · rw [if_neg e1]
        have : ¬ (true = true ∧ x2 = 1 ∧ y2 = 0) := fun h => e1 h.2
        rw [if_neg this]
        have h5 : ¬ (l.getD 5 false = true ∧ x2 = 1 ∧ y2 = 0) := fun h => e1 h.2
        rw [if_neg h5]
    · unfold grP
      rw [getD_other (show (17 : Nat) ≠ 12 by decide), getD_other (show (5 : Nat) ≠ 12 by decide), getD_same his]
      by_cases e1 : x2 = 2 ∧ y2 = 0
      · obtain ⟨rfl, rfl⟩ := e1; simp
      · rw [if_neg e1]
        have : ¬ (true = true ∧ x2 = 2 ∧ y2 = 0) := fun h => e1 h.2
        rw [if_neg this]
        have h5 : ¬ (l.getD 12 false = true ∧ x2 = 2 ∧ y2 = 0) := fun h => e1 h.2
        rw [if_neg h5]
    · unfold grP
      rw [getD_other (show (12 : Nat) ≠ 17 by decide), getD_other (show (5 : Nat) ≠ 17 by decide), getD_same his]
      by_cases e1 : x2 = 3 ∧ y2 = 0
      · obtain ⟨rfl, rfl⟩ := e1; simp
      · rw [if_neg e1]
        have : ¬ (true = true ∧ x2 = 3 ∧ y2 = 0) := fun h => e1 h.2
        rw [if_neg this]
        have h5 : ¬ (l.getD 17 false = true ∧ x2 = 3 ∧ y2 = 0) := fun h => e1 h.2
        rw [if_neg h5]
  rw [hφ] at hG'
  have hB' : Below w0.heap.size w0 w' := ⟨hg.os.trans h.bel.os, hg.tape.trans h.bel.tape, hg.output.trans h.bel.output, Nat.le_trans h.bel.size hg.size, fun k hk => (hg.block k (by have := h.bel.size; omega) (by simp; omega)).trans (h.bel.block k hk)⟩
  refine ⟨b, w', e, hr, ⟨by rw [Array.size_setIfInBounds]; exact h.sz, hB', fun j hj => ?_, fun _ => ⟨b, n + 1, e, hbb, by omega, hG'⟩, fun hl => ?_, fun hl => ?_, fun hl => ?_⟩⟩
  · by_cases ej : j = i
    · subst ej; exact hgT _
    · rw [getD_other ej] at hj
      exact h.val j hj
  · rw [getD_other (Ne.symm hne.2.1)] at hl
    exact h.m18 hl
  · rw [getD_other (Ne.symm hne.2.2)] at hl
    exact h.m19 hl
  · rw [getD_other (Ne.symm hne.1), hl0] at hl
    cases hl
end Go.Proofs.YthgcobglecomcaaDoor
