/- Laid together: NfsBits, NfsM. -/
import Derived.Test.YtdidbaadladkpaaDoorNf36
import Derived.Test.YtdidbaadladkpaaDoorNf1
import Derived.Test.YtdidbaadladkpaaDoorNf4
import Derived.Test.YtdidbaadladkpaaDoorNf40
import Derived.Test.YtdidbaadladkpaaDoorNf44
import Derived.Test.YtdidbaadladkpaaDoorNf42
import Derived.Test.YtdidbaadladkpaaDoorNf41
import Derived.Test.YtdidbaadladkpaaDoorNf45
/- NfsBits and NfsRwx, the program's and the specification's. -/
namespace Go.Proofs.YtdidbaadladkpaaDoor
open Go.RowKit Go.PlainAid
set_option linter.unusedVariables false
theorem belA (w : World) (o : Obj) : Below w.heap.size w (w.alloc o) := (Below.refl _ _).alloc (Nat.le_refl _) _
theorem BelB {w w1 : World} {o : Obj} (h1 : Below w.heap.size w w1) : Below w.heap.size w (w1.alloc o) := h1.trans ((belA w1 o).mono h1.size)
/-- NfsBits of bits. -/
def bitsN (n : Int) : Int := n / 4 * 1 + n / 2 % 2 * 10 + n % 2 * 4
/-- NfsBits. -/
def bitsZ (n : Int) : Int := if inR 0 7 n then bitsN n else 0
/-- NfsRwx of a mask. -/
def rwxN (n : Int) : Int := (if hasZ n 4 then 1 else 0) + (if hasZ n 10 then 2 else 0) + (if hasZ n 1 then 4 else 0)
/-- NfsRwx. -/
def rwxZ (n : Int) : Int := if inR 0 255 n then rwxN n else 0
theorem bx0 (w : World) : (Instr.index 71 (.agg #[.int .i64 4, .int .i64 1, .int .i64 2, .int .i64 10, .int .i64 1, .int .i64 4]) (.int .i64 0)).run Tryd.prog w = .ok (.agg #[.int .i64 4, .int .i64 1]) w := by
  kernel_rfl
theorem bx1 (w : World) : (Instr.index 71 (.agg #[.int .i64 4, .int .i64 1, .int .i64 2, .int .i64 10, .int .i64 1, .int .i64 4]) (.int .i64 1)).run Tryd.prog w = .ok (.agg #[.int .i64 2, .int .i64 10]) w := by
  kernel_rfl
theorem bx2 (w : World) : (Instr.index 71 (.agg #[.int .i64 4, .int .i64 1, .int .i64 2, .int .i64 10, .int .i64 1, .int .i64 4]) (.int .i64 2)).run Tryd.prog w = .ok (.agg #[.int .i64 1, .int .i64 4]) w := by
  kernel_rfl
def btsA (p q r : Bool) (k : Nat) : Int := (if p && decide (0 < k) then 1 else 0) + (if q && decide (1 < k) then 10 else 0) + (if r && decide (2 < k) then 4 else 0)
set_option maxRecDepth 100000 in
set_option maxHeartbeats 8000000 in
/-- impl.NfsBits of what is in its limits. -/
theorem iNfsBits_in (n : Int) (h : inR 0 7 n = true) (w : World) (hp : PlW w) :
    Calls Tryd.prog 25 #[.int .i64 n] w fun e w' => e = .returned (.int .i64 (btsA (hasZ n 4) (hasZ n 2) (hasZ n 1) 3)) ∧ Below w.heap.size w w' := by
  have HP : Hid (PlW w) := hp
  obtain ⟨pl, c0, c1, c2, c3, c4, c5⟩ := hp
  have hH : Hid (∀ v w, Calls Tryd.prog 32 #[.int .i64 n, .int .i64 v] w fun e w' => e = .returned (.bool (hasZ n v)) ∧ w' = w) := (fun v => iHas_any n v)
  have H1 : Hid (∀ w, Calls Tryd.prog 32 #[.int .i64 n, .int .i64 4] w fun e w' => e = .returned (.bool (hasZ n 4)) ∧ w' = w) := iHas_any n 4
  have H2 : Hid (∀ w, Calls Tryd.prog 32 #[.int .i64 n, .int .i64 2] w fun e w' => e = .returned (.bool (hasZ n 2)) ∧ w' = w) := iHas_any n 2
  have H3 : Hid (∀ w, Calls Tryd.prog 32 #[.int .i64 n, .int .i64 1] w fun e w' => e = .returned (.bool (hasZ n 1)) ∧ w' = w) := iHas_any n 1
  generalize hasZ n 4 = b1 at H1 ⊢
  generalize hasZ n 2 = b2 at H2 ⊢
  generalize hasZ n 1 = b3 at H3 ⊢
  clear hH
  have i0 := bx0
  have i1 := bx1
  have i2 := bx2
  cases b1 <;> cases b2 <;> cases b3
  all_goals (
    go_enter Tryd.func25, Tryd.ntmps25
    go_wp2_with (go_at_call 59; refine (isBits_any _ _).mono ?_; rintro e w ⟨rfl, rfl⟩)
    refine wp_loop_rounds 4 ?_
    rw [rounds_succ]
    go_wp2_with fail
    refine (H1.out _).mono ?_
    rintro e w1 ⟨rfl, h1⟩
    subst h1
    go_wp2_with fail
    rw [rounds_succ]
    go_wp2_with fail
    refine (H2.out _).mono ?_
    rintro e w2 ⟨rfl, h2⟩
    subst h2
    go_wp2_with fail
    rw [rounds_succ]
    go_wp2_with fail
    refine (H3.out _).mono ?_
    rintro e w3 ⟨rfl, h3⟩
    subst h3
    go_wp2_with fail
    rw [rounds_succ]
    go_wp2
    go_ret
    exact ⟨rfl, BelB (BelB (belA _ _))⟩)
theorem bitsZ_in (n : Int) (h : inR 0 7 n = true) : btsA (hasZ n 4) (hasZ n 2) (hasZ n 1) 3 = bitsZ n := by
  obtain ⟨h0, h1⟩ := inR_iff.1 h
  rcases (by omega : n = 0 ∨ n = 1 ∨ n = 2 ∨ n = 3 ∨ n = 4 ∨ n = 5 ∨ n = 6 ∨ n = 7) with rfl | rfl | rfl | rfl | rfl | rfl | rfl | rfl <;> decide
set_option maxHeartbeats 2000000 in
theorem iNfsBits_no (n : Int) (h : inR 0 7 n = false) (w : World) :
    Calls Tryd.prog 25 #[.int .i64 n] w fun e w' => e = .returned (.int .i64 0) ∧ Below w.heap.size w w' := by
  go_enter Tryd.func25, Tryd.ntmps25
  go_wp2_with (go_at_call 59; refine (isBits_any _ _).mono ?_; rintro e w ⟨rfl, rfl⟩)
  go_ret
  exact ⟨rfl, Below.refl _ _⟩
/-- impl.NfsBits. -/
theorem iNfsBits_any (n : Int) (w : World) (hp : PlW w) :
    Calls Tryd.prog 25 #[.int .i64 n] w fun e w' => e = .returned (.int .i64 (bitsZ n)) ∧ Below w.heap.size w w' := by
  cases h : inR 0 7 n
  · have e : bitsZ n = 0 := by simp [bitsZ, h]
    rw [e]
    exact iNfsBits_no n h w
  · rw [← bitsZ_in n h]
    exact iNfsBits_in n h w hp
def rwxA (p q r : Bool) (k : Nat) : Int := (if p && decide (0 < k) then 4 else 0) + (if q && decide (1 < k) then 2 else 0) + (if r && decide (2 < k) then 1 else 0)
set_option maxRecDepth 100000 in
set_option maxHeartbeats 8000000 in
/-- impl.NfsRwx of what is in its limits. -/
theorem iNfsRwx_in (n : Int) (h : inR 0 255 n = true) (w : World) (hp : PlW w) :
    Calls Tryd.prog 27 #[.int .i64 n] w fun e w' => e = .returned (.int .i64 (rwxA (hasZ n 1) (hasZ n 10) (hasZ n 4) 3)) ∧ Below w.heap.size w w' := by
  have HP : Hid (PlW w) := hp
  obtain ⟨pl, c0, c1, c2, c3, c4, c5⟩ := hp
  have hH : Hid (∀ v w, Calls Tryd.prog 32 #[.int .i64 n, .int .i64 v] w fun e w' => e = .returned (.bool (hasZ n v)) ∧ w' = w) := (fun v => iHas_any n v)
  have H1 : Hid (∀ w, Calls Tryd.prog 32 #[.int .i64 n, .int .i64 1] w fun e w' => e = .returned (.bool (hasZ n 1)) ∧ w' = w) := iHas_any n 1
  have H2 : Hid (∀ w, Calls Tryd.prog 32 #[.int .i64 n, .int .i64 10] w fun e w' => e = .returned (.bool (hasZ n 10)) ∧ w' = w) := iHas_any n 10
  have H3 : Hid (∀ w, Calls Tryd.prog 32 #[.int .i64 n, .int .i64 4] w fun e w' => e = .returned (.bool (hasZ n 4)) ∧ w' = w) := iHas_any n 4
  generalize hasZ n 1 = b1 at H1 ⊢
  generalize hasZ n 10 = b2 at H2 ⊢
  generalize hasZ n 4 = b3 at H3 ⊢
  clear hH
  obtain ⟨h0, h1⟩ := inR_iff.1 h
  have g0 : ¬ n < 0 := by omega
  have g1 : ¬ 255 < n := by omega
  clear h h0 h1
  have i0 := bx0
  have i1 := bx1
  have i2 := bx2
  cases b1 <;> cases b2 <;> cases b3
  all_goals (
    go_enter Tryd.func27, Tryd.ntmps27
    go_wp2_with fail
    refine wp_loop_rounds 4 ?_
    rw [rounds_succ]
    go_wp2_with fail
    refine (H1.out _).mono ?_
    rintro e w1 ⟨rfl, h1⟩
    subst h1
    go_wp2_with fail
    rw [rounds_succ]
    go_wp2_with fail
    refine (H2.out _).mono ?_
    rintro e w2 ⟨rfl, h2⟩
    subst h2
    go_wp2_with fail
    rw [rounds_succ]
    go_wp2_with fail
    refine (H3.out _).mono ?_
    rintro e w3 ⟨rfl, h3⟩
    subst h3
    go_wp2_with fail
    rw [rounds_succ]
    go_wp2
    go_ret
    exact ⟨rfl, BelB (BelB (belA _ _))⟩)
theorem rwxZ_in (n : Int) (h : inR 0 255 n = true) : rwxA (hasZ n 1) (hasZ n 10) (hasZ n 4) 3 = rwxZ n := by
  unfold rwxZ
  rw [if_pos h]
  unfold rwxN
  cases hasZ n 1 <;> cases hasZ n 10 <;> cases hasZ n 4 <;> rfl
set_option maxHeartbeats 2000000 in
theorem iNfsRwx_no (n : Int) (h : inR 0 255 n = false) (w : World) :
    Calls Tryd.prog 27 #[.int .i64 n] w fun e w' => e = .returned (.int .i64 0) ∧ Below w.heap.size w w' := by
  rcases inR_off h with h1 | h1
  · clear h
    go_enter Tryd.func27, Tryd.ntmps27
    go_wp2
    go_ret
    exact ⟨rfl, Below.refl _ _⟩
  · have h2 : ¬ n < 0 := by omega
    clear h
    go_enter Tryd.func27, Tryd.ntmps27
    go_wp2
    go_ret
    exact ⟨rfl, Below.refl _ _⟩
/-- impl.NfsRwx. -/
theorem iNfsRwx_any (n : Int) (w : World) (hp : PlW w) :
    Calls Tryd.prog 27 #[.int .i64 n] w fun e w' => e = .returned (.int .i64 (rwxZ n)) ∧ Below w.heap.size w w' := by
  cases h : inR 0 255 n
  · have e : rwxZ n = 0 := by simp [rwxZ, h]
    rw [e]
    exact iNfsRwx_no n h w
  · rw [← rwxZ_in n h]
    exact iNfsRwx_in n h w hp
set_option maxHeartbeats 2000000 in
/-- spec.l04Bits of bits. -/
theorem sl04Bits_in (n : Int) (h0 : 0 ≤ n) (h1 : n ≤ 7) (w : World) :
    Calls Tryd.prog 48 #[.int .i64 n] w fun e w' => e = .returned (.int .i64 (bitsN n)) ∧ w' = w := by
  rcases (by omega : n = 0 ∨ n = 1 ∨ n = 2 ∨ n = 3 ∨ n = 4 ∨ n = 5 ∨ n = 6 ∨ n = 7) with rfl | rfl | rfl | rfl | rfl | rfl | rfl | rfl
  all_goals (
    go_enter Tryd.func48, Tryd.ntmps48
    go_wp2
    go_ret
    exact ⟨rfl, rfl⟩)
set_option maxHeartbeats 2000000 in
/-- spec.NfsBits. -/
theorem sNfsBits_any (n : Int) (w : World) :
    Calls Tryd.prog 26 #[.int .i64 n] w fun e w' => e = .returned (.int .i64 (bitsZ n)) ∧ w' = w := by
  cases h : inR 0 7 n
  · have e : bitsZ n = 0 := by simp [bitsZ, h]
    rw [e]
    go_enter Tryd.func26, Tryd.ntmps26
    go_wp2_with (go_at_call 60; refine (sBits_any _ _).mono ?_; rintro e w ⟨rfl, rfl⟩)
    go_ret
    exact ⟨rfl, rfl⟩
  · have e : bitsZ n = bitsN n := by simp [bitsZ, h]
    rw [e]
    obtain ⟨h0, h1⟩ := inR_iff.1 h
    have hB : Hid (∀ w, Calls Tryd.prog 48 #[.int .i64 n] w fun e w' => e = .returned (.int .i64 (bitsN n)) ∧ w' = w) := sl04Bits_in n h0 h1
    generalize bitsN n = m at hB ⊢
    go_enter Tryd.func26, Tryd.ntmps26
    go_wp2_with (first | (go_at_call 60; refine (sBits_any _ _).mono ?_; rintro e w ⟨rfl, rfl⟩) | (go_at_call 48; refine (hB.out _).mono ?_; rintro e w ⟨rfl, rfl⟩))
    go_ret
    exact ⟨rfl, rfl⟩
def rwS (p q r : Bool) (k : Nat) : Int := (if p && decide (0 < k) then 1 else 0) + (if q && decide (1 < k) then 2 else 0) + (if r && decide (2 < k) then 4 else 0)
set_option maxRecDepth 100000 in
set_option maxHeartbeats 8000000 in
/-- spec.l04Rwx of a mask. -/
theorem sl04Rwx_in (n : Nat) (hn : n ≤ 255) (w : World) :
    Calls Tryd.prog 61 #[.int .i64 n] w fun e w' => e = .returned (.int .i64 (rwxN n)) ∧ w' = w := by
  have H1 : Hid (∀ w, Calls Tryd.prog 55 #[.int .i64 n, .int .i64 4] w fun e w' => e = .returned (.bool (hasZ n 4)) ∧ w' = w) := (fun w => by have := sl02Has_any n 4 (by omega) (by omega) w; rw [← hasZ_in (by omega) (by omega)] at this; exact this)
  have H2 : Hid (∀ w, Calls Tryd.prog 55 #[.int .i64 n, .int .i64 10] w fun e w' => e = .returned (.bool (hasZ n 10)) ∧ w' = w) := (fun w => by have := sl02Has_any n 10 (by omega) (by omega) w; rw [← hasZ_in (by omega) (by omega)] at this; exact this)
  have H3 : Hid (∀ w, Calls Tryd.prog 55 #[.int .i64 n, .int .i64 1] w fun e w' => e = .returned (.bool (hasZ n 1)) ∧ w' = w) := (fun w => by have := sl02Has_any n 1 (by omega) (by omega) w; rw [← hasZ_in (by omega) (by omega)] at this; exact this)
  have hB1 : Hid (∀ w, Calls Tryd.prog 48 #[.int .i64 1] w fun e w' => e = .returned (.int .i64 4) ∧ w' = w) := sl04Bits_in 1 (by omega) (by omega)
  have hB2 : Hid (∀ w, Calls Tryd.prog 48 #[.int .i64 2] w fun e w' => e = .returned (.int .i64 10) ∧ w' = w) := sl04Bits_in 2 (by omega) (by omega)
  have hB3 : Hid (∀ w, Calls Tryd.prog 48 #[.int .i64 4] w fun e w' => e = .returned (.int .i64 1) ∧ w' = w) := sl04Bits_in 4 (by omega) (by omega)
  have hres : rwxN n = rwS (hasZ n 4) (hasZ n 10) (hasZ n 1) 3 := by
    unfold rwxN
    cases hasZ n 4 <;> cases hasZ n 10 <;> cases hasZ n 1 <;> rfl
  rw [hres]
  clear hres
  generalize hasZ n 4 = b1 at H1 ⊢
  generalize hasZ n 10 = b2 at H2 ⊢
  generalize hasZ n 1 = b3 at H3 ⊢
  cases b1 <;> cases b2 <;> cases b3
  all_goals (
    go_enter Tryd.func61, Tryd.ntmps61
    go_wp2_with fail
    refine wp_loop_rounds 4 ?_
    rw [rounds_succ]
    go_wp2_with fail
    refine (hB1.out _).mono ?_
    rintro e w1 ⟨rfl, h1⟩
    subst h1
    go_wp2_with fail
    refine (H1.out _).mono ?_
    rintro e w1 ⟨rfl, h1⟩
    subst h1
    go_wp2_with fail
    rw [rounds_succ]
    go_wp2_with fail
    refine (hB2.out _).mono ?_
    rintro e w1 ⟨rfl, h1⟩
    subst h1
    go_wp2_with fail
    refine (H2.out _).mono ?_
    rintro e w1 ⟨rfl, h1⟩
    subst h1
    go_wp2_with fail
    rw [rounds_succ]
    go_wp2_with fail
    refine (hB3.out _).mono ?_
    rintro e w1 ⟨rfl, h1⟩
    subst h1
    go_wp2_with fail
    refine (H3.out _).mono ?_
    rintro e w1 ⟨rfl, h1⟩
    subst h1
    go_wp2_with fail
    rw [rounds_succ]
    go_wp2
    go_ret
    exact ⟨rfl, rfl⟩)
set_option maxHeartbeats 2000000 in
/-- spec.NfsRwx. -/
theorem sNfsRwx_any (n : Int) (w : World) :
    Calls Tryd.prog 28 #[.int .i64 n] w fun e w' => e = .returned (.int .i64 (rwxZ n)) ∧ w' = w := by
  cases h : inR 0 255 n
  · have e : rwxZ n = 0 := by simp [rwxZ, h]
    rw [e]
    go_enter Tryd.func28, Tryd.ntmps28
    go_wp2_with (go_at_call 54; refine (sIs_any _ _ _ _).mono ?_; rintro e w ⟨rfl, rfl⟩)
    go_ret
    exact ⟨rfl, rfl⟩
  · have e : rwxZ n = rwxN n := by simp [rwxZ, h]
    rw [e]
    obtain ⟨h0, h1⟩ := inR_iff.1 h
    obtain ⟨m, rfl⟩ := Int.eq_ofNat_of_zero_le h0
    have hB : Hid (∀ w, Calls Tryd.prog 61 #[.int .i64 m] w fun e w' => e = .returned (.int .i64 (rwxN m)) ∧ w' = w) := sl04Rwx_in m (by omega)
    generalize rwxN m = q at hB ⊢
    go_enter Tryd.func28, Tryd.ntmps28
    go_wp2_with (first | (go_at_call 54; refine (sIs_any _ _ _ _).mono ?_; rintro e w ⟨rfl, rfl⟩) | (go_at_call 61; refine (hB.out _).mono ?_; rintro e w ⟨rfl, rfl⟩))
    go_ret
    exact ⟨rfl, rfl⟩
end Go.Proofs.YtdidbaadladkpaaDoor
/- The mathematics of FnNfs. -/
namespace Go.Proofs.YtdidbaadladkpaaDoor
open Go.RowKit Go.PlainAid Go.Deep
set_option linter.unusedVariables false
theorem hasB_selfN (n : Nat) : hasB n n = true := by simp [hasB]
theorem hasB_or (n m : Nat) : hasB (n ||| m) n = true := by
  unfold hasB
  simp only [beq_iff_eq]
  apply Nat.eq_of_testBit_eq
  intro i
  simp only [Nat.testBit_and, Nat.testBit_or]
  cases n.testBit i <;> simp
theorem inR_yesN {a b n : Int} (h0 : a ≤ n) (h1 : n ≤ b) : inR a b n = true := by simp [inR, h0, h1]
/-- All that is given may be asked. -/
theorem may_gives {l : List Ac} {owner group u g : Int} {cl : Nat} {f : Nat → Int} (h : askR l owner group u g cl f = true) : nfsMayB l owner group u g cl f (givesI l owner group u g cl f) = true := by
  obtain ⟨n, e, hn⟩ := givesI_nat (l := l) (owner := owner) (group := group) (u := u) (g := g) (cl := cl) (f := f)
  rw [nfsMayB_in h (by rw [e]; exact inR_yesN (by omega) (by omega)), e, hasZ_in (by omega) (by omega)]
  exact hasB_selfN n
/-- Who may all is given all. -/
theorem may_all {l : List Ac} {owner group u g : Int} {cl : Nat} {f : Nat → Int} (h : givesI l owner group u g cl f ≠ 255) : nfsMayB l owner group u g cl f 255 = false := by
  cases ha : askR l owner group u g cl f
  · exact nfsMayB_no ha
  · obtain ⟨n, e, hn⟩ := givesI_nat (l := l) (owner := owner) (group := group) (u := u) (g := g) (cl := cl) (f := f)
    rw [nfsMayB_in ha (inR_yesN (by omega) (by omega)), e]
    have h2 := hasZ_in (h := n) (w := 255) (by omega) (by omega)
    rw [show ((255 : Nat) : Int) = 255 from rfl] at h2
    rw [h2]
    have h3 : n ≠ 255 := by intro h4; rw [h4] at e; exact h e
    have := (show ∀ n : Fin 256, n.val ≠ 255 → hasB n.val 255 = false by decide +kernel) ⟨n, by omega⟩ h3
    exact this
theorem acAt_leftN {a b : List Ac} {k : Nat} (h : k < a.length) : acAt (a ++ b) k = acAt a k := by
  rw [acAt_get h, acAt_get (by simp; omega), List.getElem_append_left h]
theorem acAt_midN {a : List Ac} {x : Ac} : acAt (a ++ [x]) a.length = x := by
  rw [acAt_get (by simp)]
  simp
theorem fltP_leftN (p : Ac → Bool) (a b : List Ac) : ∀ k, k ≤ a.length → fltP p (a ++ b) k = fltP p a k := by
  intro k
  induction k with
  | zero => intro _; rfl
  | succ k ih => intro hk; simp only [fltP, ih (by omega), acAt_leftN (show k < a.length by omega)]
theorem ace_evy {al : Bool} {ma : Int} (h0 : 1 ≤ ma) (h1 : ma ≤ 255) : aceB ⟨al, 3, 0, 0, ma⟩ = true := by
  exact aceB_iff.2 ⟨⟨by show (1 : Int) ≤ 3; decide, by show (3 : Int) ≤ 5; decide⟩, ⟨by show (0 : Int) ≤ 0; decide, by show (0 : Int) ≤ 9999; decide⟩, fun _ => rfl, ⟨⟨by show (0 : Int) ≤ 0; decide, by show (0 : Int) ≤ 15; decide⟩, .inl (by show (0 : Int) < 4; decide)⟩, h0, h1⟩
/-- An ace of everybody behind all others. -/
theorem give_behind {l : List Ac} {owner group u g : Int} {cl : Nat} {f : Nat → Int} {al : Bool} {ma : Int} : giveI (fltP (askB owner group u g cl f) (l ++ [(⟨al, 3, 0, 0, ma⟩ : Ac)]) (l ++ [(⟨al, 3, 0, 0, ma⟩ : Ac)]).length) = giveS (giveI (fltP (askB owner group u g cl f) l l.length)) ⟨al, 3, 0, 0, ma⟩ := by
  have e : (l ++ [(⟨al, 3, 0, 0, ma⟩ : Ac)]).length = l.length + 1 := by simp
  rw [e, fltP, fltP_leftN _ _ _ _ (Nat.le_refl _), acAt_midN]
  rw [if_pos (by simp [hldB, askB]), giveI_snoc]
theorem aces_snoc {l : List Ac} {x : Ac} (h : acesB l = true) (hx : aceB x = true) (hl : l.length < 32) : acesB (l ++ [x]) = true := by
  refine aces_all (by simp; omega) (fun y hy => ?_)
  rcases List.mem_append.1 hy with h1 | h1
  · obtain ⟨k, hk, rfl⟩ := List.getElem_of_mem h1
    have := aces_at h hk
    rwa [acAt_get hk] at this
  · rw [show y = x by simpa using h1]; exact hx
theorem ask_snoc {l : List Ac} {x : Ac} {owner group u g : Int} {cl : Nat} {f : Nat → Int} (h : askR l owner group u g cl f = true) (hx : aceB x = true) (hl : l.length < 32) : askR (l ++ [x]) owner group u g cl f = true := by
  obtain ⟨h1, h2, h3, h4⟩ := askR_iff.1 h
  exact askR_iff.2 ⟨aces_snoc h1 hx hl, h2, h3, h4⟩
theorem give_plain {l : List Ac} {owner group u g : Int} {cl : Nat} {f : Nat → Int} (h : acesB l = true) : ∃ gv s : Nat, giveI (fltP (askB owner group u g cl f) l l.length) = ((gv : Int), (s : Int)) ∧ gv ≤ 255 ∧ s ≤ 255 := by
  obtain ⟨gv, s, e, h1, h2, _⟩ := giveI_nat (ma_of h) (askB owner group u g cl f) l.length (Nat.le_refl _)
  exact ⟨gv, s, e, h1, h2⟩
/-- An allow behind all others takes nothing away. -/
theorem gives_plus {l : List Ac} {owner group u g : Int} {cl : Nat} {f : Nat → Int} {ma : Int} (h : askR l owner group u g cl f = true) (h0 : 1 ≤ ma) (h1 : ma ≤ 255) (hl : l.length < 32) :
    hasZ (givesI (l ++ [(⟨true, 3, 0, 0, ma⟩ : Ac)]) owner group u g cl f) (givesI l owner group u g cl f) = true := by
  have hR := (askR_iff.1 h).1
  obtain ⟨gv, s, e, hg, hs⟩ := give_plain (owner := owner) (group := group) (u := u) (g := g) (cl := cl) (f := f) hR
  rw [givesI_askY (ask_snoc h (ace_evy h0 h1) hl), givesI_askY h, give_behind, e, giveS_plain (by show 0 ≤ ma; omega) (by show ma ≤ 255; omega) hg hs]
  simp only [if_true]
  have hrl := rm_le ma.toNat s
  have := or_le hg (show rmN ma.toNat s ≤ 255 by omega)
  rw [hasZ_in (by omega) (by omega)]
  exact hasB_or _ _
/-- A deny behind all others gives nothing. -/
theorem gives_minus {l : List Ac} {owner group u g : Int} {cl : Nat} {f : Nat → Int} {ma : Int} (h : askR l owner group u g cl f = true) (h0 : 1 ≤ ma) (h1 : ma ≤ 255) (hl : l.length < 32) :
    givesI (l ++ [(⟨false, 3, 0, 0, ma⟩ : Ac)]) owner group u g cl f = givesI l owner group u g cl f := by
  have hR := (askR_iff.1 h).1
  obtain ⟨gv, s, e, hg, hs⟩ := give_plain (owner := owner) (group := group) (u := u) (g := g) (cl := cl) (f := f) hR
  rw [givesI_askY (ask_snoc h (ace_evy h0 h1) hl), givesI_askY h, give_behind, e, giveS_plain (by show 0 ≤ ma; omega) (by show ma ≤ 255; omega) hg hs]
  simp
/-- AceAdd at the end. -/
theorem add_end {l : List Ac} {x : Ac} (h : acesB l = true) (hx : aceB x = true) : addP l (l.length : Int) x = if l.length = 32 then ([], 9) else (l ++ [x], 0) := by
  by_cases h3 : l.length = 32
  · rw [if_pos h3]
    exact addP_full h hx (by omega) h3
  · rw [if_neg h3, addP_yes h hx (Nat.le_refl _) h3]
    simp
theorem add_right {l : List Ac} {n : Int} {x : Ac} (h : (addP l n x).2 = 0) : acesB (addP l n x).1 = true := by
  by_cases h0 : 400 < l.length
  · rw [addP_long h0] at h; cases h
  cases h1 : (acesB l && aceB x)
  · rw [addP_form h0 h1] at h; cases h
  obtain ⟨ha, hx⟩ : acesB l = true ∧ aceB x = true := by simpa using h1
  by_cases h2 : n < 0 ∨ (l.length : Int) < n
  · rw [addP_range ha hx h2] at h; cases h
  by_cases h3 : l.length = 32
  · rw [addP_full ha hx h2 h3] at h; cases h
  obtain ⟨k, rfl⟩ := Int.eq_ofNat_of_zero_le (show 0 ≤ n by omega)
  have hl := aces_len ha
  have hk : k ≤ l.length := by omega
  have hadd := addP_yes ha hx hk h3
  rw [hadd]
  refine aces_all (by simp; omega) (fun y hy => ?_)
  have hy2 : y ∈ l ∨ y = x := by
    rcases List.mem_append.1 hy with h4 | h4
    · rcases List.mem_append.1 h4 with h5 | h5
      · exact .inl (List.mem_of_mem_take h5)
      · exact .inr (by simpa using h5)
    · exact .inl (List.mem_of_mem_drop h4)
  rcases hy2 with h4 | rfl
  · obtain ⟨j, hj, rfl⟩ := List.getElem_of_mem h4
    have := aces_at ha hj
    rwa [acAt_get hj] at this
  · exact hx
theorem drop_right {l : List Ac} {n : Int} (h : (dropP l n).2 = 0) : acesB (dropP l n).1 = true := by
  by_cases h0 : 400 < l.length
  · rw [dropP_long h0] at h; cases h
  cases ha : acesB l
  · rw [dropP_form h0 ha] at h; cases h
  by_cases h2 : n < 0 ∨ (l.length : Int) ≤ n
  · rw [dropP_range h0 ha h2] at h; cases h
  obtain ⟨k, rfl⟩ := Int.eq_ofNat_of_zero_le (show 0 ≤ n by omega)
  have hl := aces_len ha
  have hk : k < l.length := by omega
  have hdrop := dropP_yes ha hk
  rw [hdrop]
  refine aces_all (by simp; omega) (fun y hy => ?_)
  have h4 : y ∈ l := by
    rcases List.mem_append.1 hy with h4 | h4
    · rcases List.mem_append.1 h4 with h5 | h5
      · exact List.mem_of_mem_take h5
      · cases h5
    · exact List.mem_of_mem_drop h4
  obtain ⟨j, hj, rfl⟩ := List.getElem_of_mem h4
  have := aces_at ha hj
  rwa [acAt_get hj] at this
/-- What is put in comes out again. -/
theorem drop_add {l : List Ac} {n : Int} {x : Ac} (h : (addP l n x).2 = 0) : (dropP (addP l n x).1 n).1 = l := by
  by_cases h0 : 400 < l.length
  · rw [addP_long h0] at h; cases h
  cases h1 : (acesB l && aceB x)
  · rw [addP_form h0 h1] at h; cases h
  obtain ⟨ha, hx⟩ : acesB l = true ∧ aceB x = true := by simpa using h1
  by_cases h2 : n < 0 ∨ (l.length : Int) < n
  · rw [addP_range ha hx h2] at h; cases h
  by_cases h3 : l.length = 32
  · rw [addP_full ha hx h2 h3] at h; cases h
  obtain ⟨k, rfl⟩ := Int.eq_ofNat_of_zero_le (show 0 ≤ n by omega)
  have hl := aces_len ha
  have hk : k ≤ l.length := by omega
  have hadd := addP_yes ha hx hk h3
  have e : ((k : Nat) : Int) = Int.ofNat k := rfl
  rw [hadd]
  have hR : acesB (l.take k ++ [x] ++ l.drop (k + 0)) = true := by
    refine aces_all (by simp; omega) (fun y hy => ?_)
    have hy2 : y ∈ l ∨ y = x := by
      rcases List.mem_append.1 hy with h4 | h4
      · rcases List.mem_append.1 h4 with h5 | h5
        · exact .inl (List.mem_of_mem_take h5)
        · exact .inr (by simpa using h5)
      · exact .inl (List.mem_of_mem_drop h4)
    rcases hy2 with h4 | rfl
    · obtain ⟨j, hj, rfl⟩ := List.getElem_of_mem h4
      have := aces_at ha hj
      rwa [acAt_get hj] at this
    · exact hx
  have hlen : (l.take k).length = k := by simp; omega
  rw [dropP_yes hR (by simp; omega)]
  show (List.take k (l.take k ++ [x] ++ l.drop (k + 0)) ++ [] ++ List.drop (k + 1) (l.take k ++ [x] ++ l.drop (k + 0))) = l
  have t1 : List.take k (l.take k ++ [x] ++ l.drop (k + 0)) = l.take k := by
    rw [List.append_assoc, List.take_append_of_le_length (by omega), List.take_of_length_le (by omega)]
  have t2 : List.drop (k + 1) (l.take k ++ [x] ++ l.drop (k + 0)) = l.drop k := by
    have e3 : (l.take k ++ [x]).length = k + 1 := by simp; omega
    rw [← e3, List.drop_left]
    rfl
  rw [t1, t2, List.append_nil, List.take_append_drop]
theorem rwx_bits {b : Int} (h0 : 0 ≤ b) (h1 : b ≤ 7) : rwxZ (bitsZ b) = b := by
  rcases (by omega : b = 0 ∨ b = 1 ∨ b = 2 ∨ b = 3 ∨ b = 4 ∨ b = 5 ∨ b = 6 ∨ b = 7) with rfl | rfl | rfl | rfl | rfl | rfl | rfl | rfl <;> decide
end Go.Proofs.YtdidbaadladkpaaDoor
