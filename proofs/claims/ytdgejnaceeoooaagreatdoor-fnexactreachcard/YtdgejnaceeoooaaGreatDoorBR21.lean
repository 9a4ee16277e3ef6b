/- Laid together: HasMath, MaskMath, Both. -/
import Derived.WalkKit
import Derived.Laws.BitsAllLaws
import Derived.Test.YtdgejnaceeoooaaGreatDoorBR1
/- One set in another: 'h &&& w = w' of numbers, told by halves. Nothing here names a program. -/
namespace Go.Proofs.YtdgejnaceeoooaaGreatDoor
open Go.RowKit
set_option linter.unusedVariables false
theorem i64_and_nat (a b : Nat) (ha : a < 9223372036854775808) (hb : b < 9223372036854775808) : bits .and .i64 (a : Int) (b : Int) = ((a &&& b : Nat) : Int) := by
  have hx : a &&& b ≤ a := Nat.and_le_left
  show IntKind.i64.wrap ((BitVec.ofInt 64 (a : Int) &&& BitVec.ofInt 64 (b : Int)).toNat : Int) = _
  rw [BitVec.toNat_and, ofInt_u64 a (by omega), ofInt_u64 b (by omega), IntKind.wrap_i64]
  omega
theorem i64_or_nat (a b : Nat) (ha : a < 4611686018427387904) (hb : b < 4611686018427387904) : bits .or .i64 (a : Int) (b : Int) = ((a ||| b : Nat) : Int) := by
  have hx : a ||| b < 2 ^ 62 := Nat.or_lt_two_pow (by omega) (by omega)
  show IntKind.i64.wrap ((BitVec.ofInt 64 (a : Int) ||| BitVec.ofInt 64 (b : Int)).toNat : Int) = _
  rw [BitVec.toNat_or, ofInt_u64 a (by omega), ofInt_u64 b (by omega), IntKind.wrap_i64]
  omega
/-- Has h each number of the set w? -/
def hasB (h w : Nat) : Bool := (h &&& w) == w
theorem and_two (a b : Nat) : (a &&& b) % 2 = (a % 2) * (b % 2) := by
  have h := Nat.and_mod_two_pow (a := a) (b := b) (n := 1)
  simp only [Nat.pow_one] at h
  rw [h]
  rcases Nat.mod_two_eq_zero_or_one a with e | e <;> rcases Nat.mod_two_eq_zero_or_one b with e' | e' <;> rw [e, e'] <;> rfl
theorem hasB_zero (a : Nat) : hasB a 0 = true := by simp [hasB]
theorem hasB_no {a b : Nat} (ha : a % 2 = 0) (hb : b % 2 = 1) : hasB a b = false := by
  have h := and_two a b
  rw [ha, hb] at h
  have : (a &&& b) ≠ b := by omega
  simp [hasB, this]
theorem hasB_half {a b : Nat} (h : ¬ (a % 2 = 0 ∧ b % 2 = 1)) : hasB a b = hasB (a / 2) (b / 2) := by
  have h1 := and_two a b
  have h2 : (a &&& b) / 2 = (a / 2 &&& b / 2) := Nat.and_div_two
  have h3 : ((a &&& b) = b) ↔ ((a / 2 &&& b / 2) = b / 2) := by
    rw [← h2]
    constructor
    · intro e
      rw [e]
    · intro e
      rcases Nat.mod_two_eq_zero_or_one a with e1 | e1 <;> rcases Nat.mod_two_eq_zero_or_one b with e2 | e2 <;> rw [e1, e2] at h1 <;> first | omega | (exact absurd ⟨e1, e2⟩ h)
  unfold hasB
  rw [Bool.eq_iff_iff]
  simp [h3]
theorem hasB_self (a : Nat) : hasB a a = true := by simp [hasB]
theorem le_65535_and {h w : Nat} (h1 : h ≤ 65535) : (h &&& w) ≤ 65535 := Nat.le_trans Nat.and_le_left h1
/-- Has, of whatever two numbers. -/
def hasZ (h w : Int) : Bool := decide (0 ≤ h ∧ h ≤ 65535) && decide (0 ≤ w ∧ w ≤ 65535) && hasB h.toNat w.toNat
theorem hasZ_off {h w : Int} (e : ¬ (0 ≤ h ∧ h ≤ 65535)) : hasZ h w = false := by simp [hasZ, e]
theorem hasZ_off2 {h w : Int} (e : ¬ (0 ≤ w ∧ w ≤ 65535)) : hasZ h w = false := by simp [hasZ, e]
theorem hasZ_in {h w : Nat} (h1 : h ≤ 65535) (h2 : w ≤ 65535) : hasZ h w = hasB h w := by
  have e1 : (0 ≤ (h : Int) ∧ (h : Int) ≤ 65535) := by omega
  have e2 : (0 ≤ (w : Int) ∧ (w : Int) ≤ 65535) := by omega
  simp [hasZ, e1, e2]
end Go.Proofs.YtdgejnaceeoooaaGreatDoor
/- What one of several sets has: plain mathematics. Nothing here names a program. -/
namespace Go.Proofs.YtdgejnaceeoooaaGreatDoor
open Go.RowKit Go.PlainAid
set_option linter.unusedVariables false
def orI (a b : Int) : Int := ((a.toNat ||| b.toNat : Nat) : Int)
def andI (a b : Int) : Int := ((a.toNat &&& b.toNat : Nat) : Int)
theorem or_bits {a b : Int} (a0 : 0 ≤ a) (a1 : a ≤ 65535) (b0 : 0 ≤ b) (b1 : b ≤ 65535) : bits .or .i64 a b = orI a b := by
  obtain ⟨x, rfl⟩ := Int.eq_ofNat_of_zero_le a0
  obtain ⟨y, rfl⟩ := Int.eq_ofNat_of_zero_le b0
  exact i64_or_nat x y (by omega) (by omega)
theorem and_bits {a b : Int} (a0 : 0 ≤ a) (a1 : a ≤ 65535) (b0 : 0 ≤ b) (b1 : b ≤ 65535) : bits .and .i64 a b = andI a b := by
  obtain ⟨x, rfl⟩ := Int.eq_ofNat_of_zero_le a0
  obtain ⟨y, rfl⟩ := Int.eq_ofNat_of_zero_le b0
  exact i64_and_nat x y (by omega) (by omega)
theorem orI_in {a b : Int} (a0 : 0 ≤ a) (a1 : a ≤ 7) (b0 : 0 ≤ b) (b1 : b ≤ 7) : 0 ≤ orI a b ∧ orI a b ≤ 7 := by
  have h := Nat.or_lt_two_pow (x := a.toNat) (y := b.toNat) (n := 3) (by omega) (by omega)
  unfold orI
  omega
theorem andI_in {a b : Int} (a0 : 0 ≤ a) (a1 : a ≤ 7) : 0 ≤ andI a b ∧ andI a b ≤ 7 := by
  have h : a.toNat &&& b.toNat ≤ a.toNat := Nat.and_le_left
  unfold andI
  omega
/-- The bits of the first k of a list, and some. -/
def orTo (x : Int) (l : List (Int × Int)) : Nat → Int
  | 0 => x
  | k + 1 => orI (orTo x l k) (btAt l k)
theorem nm_bt {l : List (Int × Int)} (h : nmB l = true) : ∀ k, k < l.length → 0 ≤ btAt l k ∧ btAt l k ≤ 7 := by
  intro k hk
  cases e : inR 0 7 (btAt l k)
  · rw [nm_no hk (okN_bt e)] at h
    cases h
  · exact inR_iff.1 e
theorem nm_id {l : List (Int × Int)} (h : nmB l = true) : ∀ k, k < l.length → 0 ≤ idAt l k ∧ idAt l k ≤ 9999 := by
  intro k hk
  cases e : inR 0 9999 (idAt l k)
  · rw [nm_no hk (okN_id e)] at h
    cases h
  · exact inR_iff.1 e
theorem orTo_in {x : Int} {l : List (Int × Int)} (h0 : 0 ≤ x) (h1 : x ≤ 7) (hb : ∀ k, k < l.length → 0 ≤ btAt l k ∧ btAt l k ≤ 7) : ∀ k, k ≤ l.length → 0 ≤ orTo x l k ∧ orTo x l k ≤ 7 := by
  intro k
  induction k with
  | zero => intro _; exact ⟨h0, h1⟩
  | succ k ih =>
    intro hk
    obtain ⟨a0, a1⟩ := ih (by omega)
    obtain ⟨b0, b1⟩ := hb k (by omega)
    exact orI_in a0 a1 b0 b1
theorem btAt_left {us gs : List (Int × Int)} {k : Nat} (h : k < us.length) : btAt (us ++ gs) k = btAt us k := by
  unfold btAt
  simp [List.getD, List.getElem?_append_left h]
theorem btAt_right {us gs : List (Int × Int)} {k : Nat} : btAt (us ++ gs) (us.length + k) = btAt gs k := by
  unfold btAt
  simp [List.getD, List.getElem?_append_right (Nat.le_add_right us.length k)]
theorem idAt_left {us gs : List (Int × Int)} {k : Nat} (h : k < us.length) : idAt (us ++ gs) k = idAt us k := by
  unfold idAt
  simp [List.getD, List.getElem?_append_left h]
theorem idAt_right {us gs : List (Int × Int)} {k : Nat} : idAt (us ++ gs) (us.length + k) = idAt gs k := by
  unfold idAt
  simp [List.getD, List.getElem?_append_right (Nat.le_add_right us.length k)]
theorem orTo_left (x : Int) (us gs : List (Int × Int)) : ∀ k, k ≤ us.length → orTo x (us ++ gs) k = orTo x us k := by
  intro k
  induction k with
  | zero => intro _; rfl
  | succ k ih => intro hk; rw [orTo, orTo, ih (by omega), btAt_left (by omega)]
theorem orTo_right (x : Int) (us gs : List (Int × Int)) : ∀ k, orTo x (us ++ gs) (us.length + k) = orTo (orTo x us us.length) gs k := by
  intro k
  induction k with
  | zero => exact orTo_left x us gs us.length (Nat.le_refl _)
  | succ k ih =>
    show orI (orTo x (us ++ gs) (us.length + k)) (btAt (us ++ gs) (us.length + k)) = orI (orTo (orTo x us us.length) gs k) (btAt gs k)
    rw [ih, btAt_right]
/-- The bits in Group, or in one of Users or Groups. -/
def maskL (g : Int) (us gs : List (Int × Int)) : Int := orTo (orTo g us us.length) gs gs.length
theorem maskL_cat (g : Int) (us gs : List (Int × Int)) : orTo g (us ++ gs) (us ++ gs).length = maskL g us gs := by
  rw [List.length_append]
  exact orTo_right g us gs gs.length
theorem maskL_in {g : Int} {us gs : List (Int × Int)} (h0 : 0 ≤ g) (h1 : g ≤ 7) (hu : nmB us = true) (hg : nmB gs = true) : 0 ≤ maskL g us gs ∧ maskL g us gs ≤ 7 := by
  obtain ⟨a0, a1⟩ := orTo_in h0 h1 (nm_bt hu) us.length (Nat.le_refl _)
  exact orTo_in a0 a1 (nm_bt hg) gs.length (Nat.le_refl _)
/-- MaskOf. -/
def maskOfB (u g o : Int) (us gs : List (Int × Int)) (r : Bool) (m : Int) : Int := if aclB u g o us gs r m then maskL g us gs else 0
/-- What both of two have, of its lowest i places. -/
def bothTo (a b i : Nat) : Nat := (a &&& b) % 2 ^ i
theorem both_bit (a b i : Nat) : (a &&& b) / 2 ^ i % 2 = if a / 2 ^ i % 2 = 1 ∧ b / 2 ^ i % 2 = 1 then 1 else 0 := by
  have h := Nat.testBit_and a b i
  rw [Nat.testBit_eq_decide_div_mod_eq, Nat.testBit_eq_decide_div_mod_eq, Nat.testBit_eq_decide_div_mod_eq] at h
  have h2 := Nat.mod_two_eq_zero_or_one ((a &&& b) / 2 ^ i)
  by_cases ha : a / 2 ^ i % 2 = 1 <;> by_cases hb : b / 2 ^ i % 2 = 1 <;> simp [ha, hb] at h ⊢ <;> omega
theorem bothTo_yes {a b i : Nat} (h1 : a / 2 ^ i % 2 = 1) (h2 : b / 2 ^ i % 2 = 1) : bothTo a b (i + 1) = bothTo a b i + 2 ^ i := by
  unfold bothTo
  rw [Nat.mod_pow_succ, both_bit, if_pos ⟨h1, h2⟩, Nat.mul_one]
theorem bothTo_no {a b i : Nat} (h : ¬ (a / 2 ^ i % 2 = 1 ∧ b / 2 ^ i % 2 = 1)) : bothTo a b (i + 1) = bothTo a b i := by
  unfold bothTo
  rw [Nat.mod_pow_succ, both_bit, if_neg h, Nat.mul_zero, Nat.add_zero]
theorem bothTo_end {a b i : Nat} (h : a < 2 ^ i) : bothTo a b i = a &&& b := by
  unfold bothTo
  exact Nat.mod_eq_of_lt (Nat.lt_of_le_of_lt Nat.and_le_left h)
theorem or_both (a b : Nat) : a ||| b = a + b - (a &&& b) := by
  have : ∀ n a b : Nat, a ≤ n → (a ||| b) + (a &&& b) = a + b := by
    intro n
    induction n with
    | zero =>
      intro a b h
      have : a = 0 := by omega
      subst this
      simp
    | succ n ih =>
      intro a b h
      by_cases h0 : a = 0
      · subst h0; simp
      · have h1 := ih (a / 2) (b / 2) (by omega)
        have e1 : (a ||| b) / 2 = a / 2 ||| b / 2 := Nat.or_div_two
        have e2 : (a &&& b) / 2 = a / 2 &&& b / 2 := Nat.and_div_two
        have e3 : (a ||| b) % 2 = 1 ↔ a % 2 = 1 ∨ b % 2 = 1 := by
          have := Nat.testBit_or a b 0
          simp only [Nat.testBit_zero] at this
          by_cases x : a % 2 = 1 <;> by_cases y : b % 2 = 1 <;> simp_all
        have e4 : (a &&& b) % 2 = 1 ↔ a % 2 = 1 ∧ b % 2 = 1 := by
          have := Nat.testBit_and a b 0
          simp only [Nat.testBit_zero] at this
          by_cases x : a % 2 = 1 <;> by_cases y : b % 2 = 1 <;> simp_all
        omega
  have := this a a b (Nat.le_refl _)
  omega
end Go.Proofs.YtdgejnaceeoooaaGreatDoor
/- spec.l02Both, spec.l02Either: what both of two sets have, and what one of them has. -/
namespace Go.Proofs.YtdgejnaceeoooaaGreatDoor
open Go.RowKit Go.PlainAid
set_option linter.unusedVariables false
theorem wdm (a k : Nat) (h : a ≤ 65535) : (wrap64 ((a : Int) / (k : Int))).tmod 2 = ((a / k % 2 : Nat) : Int) := by
  rw [← Int.natCast_ediv]
  have hq : a / k ≤ 65535 := Nat.le_trans (Nat.div_le_self _ _) h
  generalize a / k = q at hq ⊢
  have e : wrap64 (q : Int) = q := by unfold wrap64; omega
  rw [e, Int.tmod_eq_emod_of_nonneg (by omega)]
  omega
end Go.Proofs.YtdgejnaceeoooaaGreatDoor
