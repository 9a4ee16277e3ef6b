/- Laid together: HasMath, ModeOf. -/
import Derived.WalkKit
import Derived.Laws.BitsAllLaws
import Derived.Test.YtcgkkeooigjbbaaNM9
import Derived.Lib.QuietBelow
/- One set in another: 'h &&& w = w' of numbers, told by halves. Nothing here names a program. -/
namespace Go.Proofs.Ytcgkkeooigjbbaa
open Go.RowKit
set_option linter.unusedVariables false
theorem i64_and_nat (a b : Nat) (ha : a < 9223372036854775808) (hb : b < 9223372036854775808) : bits .and .i64 (a : Int) (b : Int) = ((a &&& b : Nat) : Int) := by
  have hx : a &&& b ≤ a := Nat.and_le_left
  show IntKind.i64.wrap ((BitVec.ofInt 64 (a : Int) &&& BitVec.ofInt 64 (b : Int)).toNat : Int) = _
  rw [BitVec.toNat_and, ofInt_u64 a (by omega), ofInt_u64 b (by omega), IntKind.wrap_i64]
  omega
theorem i64_or_nat (a b : Nat) (ha : a < 4611686018427387904) (hb : b < 4611686018427387904) : bits .or .i64 (a : Int) (b : Int) = ((a ||| b : Nat) : Int) := by
  have hx : a ||| b < 2 ^ 62 := Nat.or_lt_two_pow (by omega) (by omega)
  show IntKind.i64.wrap ((BitVec.ofInt 64 (a : Int) ||| BitVec.ofInt 64 (b : Int)).toNat : Int) = _
  rw [BitVec.toNat_or, ofInt_u64 a (by omega), ofInt_u64 b (by omega), IntKind.wrap_i64]
  omega
/-- Has h each number of the set w? -/
def hasB (h w : Nat) : Bool := (h &&& w) == w
theorem and_two (a b : Nat) : (a &&& b) % 2 = (a % 2) * (b % 2) := by
  have h := Nat.and_mod_two_pow (a := a) (b := b) (n := 1)
  simp only [Nat.pow_one] at h
  rw [h]
  rcases Nat.mod_two_eq_zero_or_one a with e | e <;> rcases Nat.mod_two_eq_zero_or_one b with e' | e' <;> rw [e, e'] <;> rfl
theorem hasB_zero (a : Nat) : hasB a 0 = true := by simp [hasB]
theorem hasB_no {a b : Nat} (ha : a % 2 = 0) (hb : b % 2 = 1) : hasB a b = false := by
  have h := and_two a b
  rw [ha, hb] at h
  have : (a &&& b) ≠ b := by omega
  simp [hasB, this]
theorem hasB_half {a b : Nat} (h : ¬ (a % 2 = 0 ∧ b % 2 = 1)) : hasB a b = hasB (a / 2) (b / 2) := by
  have h1 := and_two a b
  have h2 : (a &&& b) / 2 = (a / 2 &&& b / 2) := Nat.and_div_two
  have h3 : ((a &&& b) = b) ↔ ((a / 2 &&& b / 2) = b / 2) := by
    rw [← h2]
    constructor
    · intro e
      rw [e]
    · intro e
      rcases Nat.mod_two_eq_zero_or_one a with e1 | e1 <;> rcases Nat.mod_two_eq_zero_or_one b with e2 | e2 <;> rw [e1, e2] at h1 <;> first | omega | (exact absurd ⟨e1, e2⟩ h)
  unfold hasB
  rw [Bool.eq_iff_iff]
  simp [h3]
theorem hasB_self (a : Nat) : hasB a a = true := by simp [hasB]
theorem le_65535_and {h w : Nat} (h1 : h ≤ 65535) : (h &&& w) ≤ 65535 := Nat.le_trans Nat.and_le_left h1
/-- Has, of whatever two numbers. -/
def hasZ (h w : Int) : Bool := decide (0 ≤ h ∧ h ≤ 65535) && decide (0 ≤ w ∧ w ≤ 65535) && hasB h.toNat w.toNat
theorem hasZ_off {h w : Int} (e : ¬ (0 ≤ h ∧ h ≤ 65535)) : hasZ h w = false := by simp [hasZ, e]
theorem hasZ_off2 {h w : Int} (e : ¬ (0 ≤ w ∧ w ≤ 65535)) : hasZ h w = false := by simp [hasZ, e]
theorem hasZ_in {h w : Nat} (h1 : h ≤ 65535) (h2 : w ≤ 65535) : hasZ h w = hasB h w := by
  have e1 : (0 ≤ (h : Int) ∧ (h : Int) ≤ 65535) := by omega
  have e2 : (0 ≤ (w : Int) ∧ (w : Int) ≤ 65535) := by omega
  simp [hasZ, e1, e2]
end Go.Proofs.Ytcgkkeooigjbbaa
/- ModeOf, the program's and the specification's. -/
namespace Go.Proofs.Ytcgkkeooigjbbaa
open Go.RowKit Go.PlainAid
set_option linter.unusedVariables false
/-- The group class. -/
def clsOf (g : Int) (r : Bool) (m : Int) : Int := if r then m else g
theorem clsOf_t (g m : Int) : clsOf g true m = m := rfl
theorem clsOf_f (g m : Int) : clsOf g false m = g := rfl
set_option maxHeartbeats 1000000 in
/-- impl.groupClass. -/
theorem groupClass_any (u g o : Int) (au : Option Addr) (lu cu : Nat) (ag : Option Addr) (lg cg : Nat) (r : Bool) (m : Int) (w : World) :
    Calls Try.prog 66 #[.agg #[.int .i64 u, .int .i64 g, .int .i64 o, .slice au lu cu, .slice ag lg cg, .bool r, .int .i64 m]] w fun e w' => e = .returned (.int .i64 (clsOf g r m)) ∧ Below w.heap.size w w' := by
  cases r <;>
  · go_enter Try.func66, Try.ntmps66
    go_wp2
    go_ret
    exact ⟨rfl, bel_alloc _ _⟩
set_option maxHeartbeats 1000000 in
/-- spec.l03Class. -/
theorem sClass_any (u g o : Int) (au : Option Addr) (lu cu : Nat) (ag : Option Addr) (lg cg : Nat) (r : Bool) (m : Int) (w : World) :
    Calls Try.prog 91 #[.agg #[.int .i64 u, .int .i64 g, .int .i64 o, .slice au lu cu, .slice ag lg cg, .bool r, .int .i64 m]] w fun e w' => e = .returned (.int .i64 (clsOf g r m)) ∧ Below w.heap.size w w' := by
  cases r <;>
  · go_enter Try.func91, Try.ntmps91
    go_wp2
    go_ret
    exact ⟨rfl, bel_alloc _ _⟩
theorem aclB_parts {u g o : Int} {us gs : List (Int × Int)} {r : Bool} {m : Int} (h : aclB u g o us gs r m = true) : (0 ≤ u ∧ u ≤ 7) ∧ (0 ≤ g ∧ g ≤ 7) ∧ (0 ≤ o ∧ o ≤ 7) ∧ (0 ≤ m ∧ m ≤ 7) ∧ nmB us = true ∧ nmB gs = true := by
  unfold aclB at h
  simp only [Bool.and_eq_true] at h
  exact ⟨inR_iff.1 h.1, inR_iff.1 h.2.1, inR_iff.1 h.2.2.1, inR_iff.1 h.2.2.2.1, h.2.2.2.2.1, h.2.2.2.2.2.1⟩
theorem clsOf_in {u g o : Int} {us gs : List (Int × Int)} {r : Bool} {m : Int} (h : aclB u g o us gs r m = true) : 0 ≤ clsOf g r m ∧ clsOf g r m ≤ 7 := by
  obtain ⟨_, h1, _, h2, _⟩ := aclB_parts h
  cases r
  · exact h1
  · exact h2
/-- ModeOf. -/
def modeOfB (u g o : Int) (us gs : List (Int × Int)) (r : Bool) (m : Int) : Int := if aclB u g o us gs r m then 64 * u + 8 * clsOf g r m + o else 0
theorem ret_intM {a b : Int} (h : a = b) : Ending.returned (.int .i64 a) = .returned (.int .i64 b) := by rw [h]
theorem or3 (u c o : Nat) (h1 : u ≤ 7) (h2 : c ≤ 7) (h3 : o ≤ 7) : bits .or .i64 (bits .or .i64 ((u * 64 : Nat) : Int) ((c * 8 : Nat) : Int)) (o : Int) = 64 * u + 8 * c + o := by
  rw [i64_or_nat (u * 64) (c * 8) (by omega) (by omega)]
  have e1 : u * 64 ||| c * 8 = u * 64 + c * 8 := by
    have := Nat.shiftLeft_add_eq_or_of_lt (b := c * 8) (i := 6) (by omega) u
    rw [Nat.shiftLeft_eq] at this
    exact this.symm
  rw [e1, i64_or_nat (u * 64 + c * 8) o (by omega) (by omega)]
  have e2 : (u * 64 + c * 8) ||| o = u * 64 + c * 8 + o := by
    have := Nat.shiftLeft_add_eq_or_of_lt (b := o) (i := 3) (by omega) (u * 8 + c)
    rw [Nat.shiftLeft_eq] at this
    have e : (u * 8 + c) * 2 ^ 3 = u * 64 + c * 8 := by omega
    rw [e] at this
    exact this.symm
  rw [e2]
  omega
theorem or3i (u c o : Int) (a0 : 0 ≤ u) (h1 : u ≤ 7) (b0 : 0 ≤ c) (h2 : c ≤ 7) (c0 : 0 ≤ o) (h3 : o ≤ 7) : bits .or .i64 (bits .or .i64 (u * 64) (c * 8)) o = 64 * u + 8 * c + o := by
  obtain ⟨a, rfl⟩ := Int.eq_ofNat_of_zero_le a0
  obtain ⟨b, rfl⟩ := Int.eq_ofNat_of_zero_le b0
  obtain ⟨c, rfl⟩ := Int.eq_ofNat_of_zero_le c0
  exact or3 a b c (by omega) (by omega) (by omega)
set_option maxHeartbeats 4000000 in
/-- impl.ModeOf. -/
theorem iModeOf_any (u g o : Int) (au : Option Addr) (lu cu : Nat) (ag : Option Addr) (lg cg : Nat) (r : Bool) (m : Int) (us gs : List (Int × Int)) (w : World) (hu : Prs au lu us w) (hg : Prs ag lg gs w) :
    Calls Try.prog 34 #[.agg #[.int .i64 u, .int .i64 g, .int .i64 o, .slice au lu cu, .slice ag lg cg, .bool r, .int .i64 m]] w fun e w' => e = .returned (.int .i64 (modeOfB u g o us gs r m)) ∧ Below w.heap.size w w' := by
  have hc : Hid (∀ w', Below w.heap.size w w' → Calls Try.prog 65 #[.agg #[.int .i64 u, .int .i64 g, .int .i64 o, .slice au lu cu, .slice ag lg cg, .bool r, .int .i64 m]] w' fun e w'' => e = .returned (.bool (aclB u g o us gs r m)) ∧ Below w'.heap.size w' w'') := (fun w' hb => iAclRight_any u g o au lu cu ag lg cg r m us gs w' (hu.below hb) (hg.below hb))
  clear hu hg
  go_enter Try.func34, Try.ntmps34
  go_wp2_with fail
  refine (hc.out _ (bel_alloc _ _)).mono ?_
  rintro e w1 ⟨rfl, hb⟩
  have hW1 : Hid (Below w.heap.size w w1) := Below.on (bel_alloc _ _) hb
  obtain ⟨xl, x0, x1, x2, x3, x4, x5, x6⟩ := (box7_new w (.int .i64 u) (.int .i64 g) (.int .i64 o) (.slice au lu cu) (.slice ag lg cg) (.bool r) (.int .i64 m) 48).below hb
  clear hb hc
  cases h : aclB u g o us gs r m
  · have hno : Hid (modeOfB u g o us gs r m = 0) := (by show _ = _; simp [modeOfB, h])
    clear h
    go_wp2
    go_ret
    exact ⟨by rw [hno.out]; rfl, hW1.out⟩
  · have hyes : Hid (modeOfB u g o us gs r m = 64 * u + 8 * clsOf g r m + o) := (by show _ = _; simp [modeOfB, h])
    obtain ⟨⟨u0, u1⟩, _, ⟨o0, o1⟩, _⟩ := aclB_parts h
    obtain ⟨k0, k1⟩ := clsOf_in h
    clear h
    have cA : ∀ w d os, Calls Try.prog 66 #[.agg #[.int .i64 u, .int .i64 g, .int .i64 o, .slice au lu cu, .slice ag lg cg, .bool r, .int .i64 m]] (Go.Sort.grow (redrawn w d) os) fun e w'' => e = .returned (.int .i64 (clsOf g r m)) ∧ ∃ p : Regrown, w'' = Go.Sort.grow (redrawn w p.d) p.os := fun w d os => Calls.regrown_of (groupClass_any u g o au lu cu ag lg cg r m _)
    have HK : Hid (clsOf g r m = clsOf g r m) := rfl
    generalize clsOf g r m = k at cA hyes k0 k1 HK
    have z0 : ∀ d os, (Go.Sort.grow (redrawn w1 d) os).cell? ⟨w.heap.size, 0, none⟩ = some (.int .i64 u) := fun d os => cell_regrown x0 d os
    have z1 : ∀ d os, (Go.Sort.grow (redrawn w1 d) os).cell? ⟨w.heap.size, 1, none⟩ = some (.int .i64 g) := fun d os => cell_regrown x1 d os
    have z2 : ∀ d os, (Go.Sort.grow (redrawn w1 d) os).cell? ⟨w.heap.size, 2, none⟩ = some (.int .i64 o) := fun d os => cell_regrown x2 d os
    have z3 : ∀ d os, (Go.Sort.grow (redrawn w1 d) os).cell? ⟨w.heap.size, 3, none⟩ = some (.slice au lu cu) := fun d os => cell_regrown x3 d os
    have z4 : ∀ d os, (Go.Sort.grow (redrawn w1 d) os).cell? ⟨w.heap.size, 4, none⟩ = some (.slice ag lg cg) := fun d os => cell_regrown x4 d os
    have z5 : ∀ d os, (Go.Sort.grow (redrawn w1 d) os).cell? ⟨w.heap.size, 5, none⟩ = some (.bool r) := fun d os => cell_regrown x5 d os
    have z6 : ∀ d os, (Go.Sort.grow (redrawn w1 d) os).cell? ⟨w.heap.size, 6, none⟩ = some (.int .i64 m) := fun d os => cell_regrown x6 d os
    clear x0 x1 x2 x3 x4 x5 x6
    go_wp2
    refine wp_region_quiet_below (by kernel_rfl) (by kernel_rfl) ?_
    repeat (go_big_quiet_step (exact cA _ _ _))
    refine wpQuiet_nil ?_
    intro _ hw'
    obtain ⟨⟨dq, osq⟩, hw''⟩ := hw'
    subst hw''
    have hbq : Hid (Below w.heap.size w (Go.Sort.grow (redrawn w1 dq) osq)) := Below.on hW1.out (below_regrown w1 dq osq)
    generalize Go.Sort.grow (redrawn w1 dq) osq = w2 at hbq ⊢
    clear z0 z1 z2 z3 z4 z5 z6 cA
    go_wp2
    go_ret
    exact ⟨ret_intM (by rw [hyes.out]; exact or3i u k o u0 u1 k0 k1 o0 o1), hbq.out⟩
set_option maxHeartbeats 4000000 in
/-- spec.l03Mode. -/
theorem sMode03_any (u g o : Int) (au : Option Addr) (lu cu : Nat) (ag : Option Addr) (lg cg : Nat) (r : Bool) (m : Int) (a0 : 0 ≤ u) (h1 : u ≤ 7) (b0 : 0 ≤ clsOf g r m) (h2 : clsOf g r m ≤ 7) (c0 : 0 ≤ o) (h3 : o ≤ 7) (w : World) :
    Calls Try.prog 63 #[.agg #[.int .i64 u, .int .i64 g, .int .i64 o, .slice au lu cu, .slice ag lg cg, .bool r, .int .i64 m]] w fun e w' => e = .returned (.int .i64 (64 * u + 8 * clsOf g r m + o)) ∧ Below w.heap.size w w' := by
  have cA : ∀ w d os, Calls Try.prog 91 #[.agg #[.int .i64 u, .int .i64 g, .int .i64 o, .slice au lu cu, .slice ag lg cg, .bool r, .int .i64 m]] (Go.Sort.grow (redrawn w d) os) fun e w'' => e = .returned (.int .i64 (clsOf g r m)) ∧ ∃ p : Regrown, w'' = Go.Sort.grow (redrawn w p.d) p.os := fun w d os => Calls.regrown_of (sClass_any u g o au lu cu ag lg cg r m _)
  generalize clsOf g r m = k at cA b0 h2 ⊢
  go_enter Try.func63, Try.ntmps63
  obtain ⟨xl, x0, x1, x2, x3, x4, x5, x6⟩ := box7_new w (.int .i64 u) (.int .i64 g) (.int .i64 o) (.slice au lu cu) (.slice ag lg cg) (.bool r) (.int .i64 m) 48
  have hW1 : Hid (Below w.heap.size w (w.alloc (.cells #[.int .i64 u, .int .i64 g, .int .i64 o, .slice au lu cu, .slice ag lg cg, .bool r, .int .i64 m] 48))) := bel_alloc _ _
  go_wp2
  generalize w.alloc (.cells #[.int .i64 u, .int .i64 g, .int .i64 o, .slice au lu cu, .slice ag lg cg, .bool r, .int .i64 m] 48) = w1 at xl x0 x1 x2 x3 x4 x5 x6 hW1 ⊢
  have z0 : ∀ d os, (Go.Sort.grow (redrawn w1 d) os).cell? ⟨w.heap.size, 0, none⟩ = some (.int .i64 u) := fun d os => cell_regrown x0 d os
  have z1 : ∀ d os, (Go.Sort.grow (redrawn w1 d) os).cell? ⟨w.heap.size, 1, none⟩ = some (.int .i64 g) := fun d os => cell_regrown x1 d os
  have z2 : ∀ d os, (Go.Sort.grow (redrawn w1 d) os).cell? ⟨w.heap.size, 2, none⟩ = some (.int .i64 o) := fun d os => cell_regrown x2 d os
  have z3 : ∀ d os, (Go.Sort.grow (redrawn w1 d) os).cell? ⟨w.heap.size, 3, none⟩ = some (.slice au lu cu) := fun d os => cell_regrown x3 d os
  have z4 : ∀ d os, (Go.Sort.grow (redrawn w1 d) os).cell? ⟨w.heap.size, 4, none⟩ = some (.slice ag lg cg) := fun d os => cell_regrown x4 d os
  have z5 : ∀ d os, (Go.Sort.grow (redrawn w1 d) os).cell? ⟨w.heap.size, 5, none⟩ = some (.bool r) := fun d os => cell_regrown x5 d os
  have z6 : ∀ d os, (Go.Sort.grow (redrawn w1 d) os).cell? ⟨w.heap.size, 6, none⟩ = some (.int .i64 m) := fun d os => cell_regrown x6 d os
  clear x0 x1 x2 x3 x4 x5 x6
  refine wp_region_quiet_below (by kernel_rfl) (by kernel_rfl) ?_
  repeat (go_big_quiet_step (exact cA _ _ _))
  refine wpQuiet_nil ?_
  intro _ hw'
  obtain ⟨⟨dq, osq⟩, hw''⟩ := hw'
  subst hw''
  have hbq : Hid (Below w.heap.size w (Go.Sort.grow (redrawn w1 dq) osq)) := Below.on hW1.out (below_regrown w1 dq osq)
  generalize Go.Sort.grow (redrawn w1 dq) osq = w2 at hbq ⊢
  clear z0 z1 z2 z3 z4 z5 z6 cA
  go_wp2
  go_ret
  exact ⟨rfl, hbq.out⟩
end Go.Proofs.Ytcgkkeooigjbbaa
