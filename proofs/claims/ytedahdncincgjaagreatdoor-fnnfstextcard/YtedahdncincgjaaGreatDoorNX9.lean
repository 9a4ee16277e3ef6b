/- Laid together: HasMath, MaskMath, Both, AclOfWalks. -/
import Derived.Laws.BitsAllLaws
import Derived.Test.YtedahdncincgjaaGreatDoorNX3
import Derived.Deep.QuietTactic
import Derived.BigQuiet
import Derived.Handy
/- One set in another: 'h &&& w = w' of numbers, told by halves. Nothing here names a program. -/
namespace Go.Proofs.YtedahdncincgjaaGreatDoor
open Go.RowKit
set_option linter.unusedVariables false
theorem i64_and_nat (a b : Nat) (ha : a < 9223372036854775808) (hb : b < 9223372036854775808) : bits .and .i64 (a : Int) (b : Int) = ((a &&& b : Nat) : Int) := by
  have hx : a &&& b ≤ a := Nat.and_le_left
  show IntKind.i64.wrap ((BitVec.ofInt 64 (a : Int) &&& BitVec.ofInt 64 (b : Int)).toNat : Int) = _
  rw [BitVec.toNat_and, ofInt_u64 a (by omega), ofInt_u64 b (by omega), IntKind.wrap_i64]
  omega
theorem i64_or_nat (a b : Nat) (ha : a < 4611686018427387904) (hb : b < 4611686018427387904) : bits .or .i64 (a : Int) (b : Int) = ((a ||| b : Nat) : Int) := by
  have hx : a ||| b < 2 ^ 62 := Nat.or_lt_two_pow (by omega) (by omega)
  show IntKind.i64.wrap ((BitVec.ofInt 64 (a : Int) ||| BitVec.ofInt 64 (b : Int)).toNat : Int) = _
  rw [BitVec.toNat_or, ofInt_u64 a (by omega), ofInt_u64 b (by omega), IntKind.wrap_i64]
  omega
/-- Has h each number of the set w? -/
def hasB (h w : Nat) : Bool := (h &&& w) == w
/-- Has, of whatever two numbers. -/
def hasZ (h w : Int) : Bool := decide (0 ≤ h ∧ h ≤ 65535) && decide (0 ≤ w ∧ w ≤ 65535) && hasB h.toNat w.toNat
theorem hasZ_off {h w : Int} (e : ¬ (0 ≤ h ∧ h ≤ 65535)) : hasZ h w = false := by simp [hasZ, e]
theorem hasZ_off2 {h w : Int} (e : ¬ (0 ≤ w ∧ w ≤ 65535)) : hasZ h w = false := by simp [hasZ, e]
theorem hasZ_in {h w : Nat} (h1 : h ≤ 65535) (h2 : w ≤ 65535) : hasZ h w = hasB h w := by
  have e1 : (0 ≤ (h : Int) ∧ (h : Int) ≤ 65535) := by omega
  have e2 : (0 ≤ (w : Int) ∧ (w : Int) ≤ 65535) := by omega
  simp [hasZ, e1, e2]
end Go.Proofs.YtedahdncincgjaaGreatDoor
/- What one of several sets has: plain mathematics. Nothing here names a program. -/
namespace Go.Proofs.YtedahdncincgjaaGreatDoor
open Go.RowKit Go.PlainAid
set_option linter.unusedVariables false
def orI (a b : Int) : Int := ((a.toNat ||| b.toNat : Nat) : Int)
def andI (a b : Int) : Int := ((a.toNat &&& b.toNat : Nat) : Int)
theorem orI_in {a b : Int} (a0 : 0 ≤ a) (a1 : a ≤ 7) (b0 : 0 ≤ b) (b1 : b ≤ 7) : 0 ≤ orI a b ∧ orI a b ≤ 7 := by
  have h := Nat.or_lt_two_pow (x := a.toNat) (y := b.toNat) (n := 3) (by omega) (by omega)
  unfold orI
  omega
theorem andI_in {a b : Int} (a0 : 0 ≤ a) (a1 : a ≤ 7) : 0 ≤ andI a b ∧ andI a b ≤ 7 := by
  have h : a.toNat &&& b.toNat ≤ a.toNat := Nat.and_le_left
  unfold andI
  omega
/-- The bits of the first k of a list, and some. -/
def orTo (x : Int) (l : List (Int × Int)) : Nat → Int
  | 0 => x
  | k + 1 => orI (orTo x l k) (btAt l k)
theorem nm_bt {l : List (Int × Int)} (h : nmB l = true) : ∀ k, k < l.length → 0 ≤ btAt l k ∧ btAt l k ≤ 7 := by
  intro k hk
  cases e : inR 0 7 (btAt l k)
  · rw [nm_no hk (okN_bt e)] at h
    cases h
  · exact inR_iff.1 e
theorem nm_id {l : List (Int × Int)} (h : nmB l = true) : ∀ k, k < l.length → 0 ≤ idAt l k ∧ idAt l k ≤ 9999 := by
  intro k hk
  cases e : inR 0 9999 (idAt l k)
  · rw [nm_no hk (okN_id e)] at h
    cases h
  · exact inR_iff.1 e
theorem orTo_in {x : Int} {l : List (Int × Int)} (h0 : 0 ≤ x) (h1 : x ≤ 7) (hb : ∀ k, k < l.length → 0 ≤ btAt l k ∧ btAt l k ≤ 7) : ∀ k, k ≤ l.length → 0 ≤ orTo x l k ∧ orTo x l k ≤ 7 := by
  intro k
  induction k with
  | zero => intro _; exact ⟨h0, h1⟩
  | succ k ih =>
    intro hk
    obtain ⟨a0, a1⟩ := ih (by omega)
    obtain ⟨b0, b1⟩ := hb k (by omega)
    exact orI_in a0 a1 b0 b1
/-- The bits in Group, or in one of Users or Groups. -/
def maskL (g : Int) (us gs : List (Int × Int)) : Int := orTo (orTo g us us.length) gs gs.length
theorem maskL_in {g : Int} {us gs : List (Int × Int)} (h0 : 0 ≤ g) (h1 : g ≤ 7) (hu : nmB us = true) (hg : nmB gs = true) : 0 ≤ maskL g us gs ∧ maskL g us gs ≤ 7 := by
  obtain ⟨a0, a1⟩ := orTo_in h0 h1 (nm_bt hu) us.length (Nat.le_refl _)
  exact orTo_in a0 a1 (nm_bt hg) gs.length (Nat.le_refl _)
/-- What both of two have, of its lowest i places. -/
def bothTo (a b i : Nat) : Nat := (a &&& b) % 2 ^ i
theorem both_bit (a b i : Nat) : (a &&& b) / 2 ^ i % 2 = if a / 2 ^ i % 2 = 1 ∧ b / 2 ^ i % 2 = 1 then 1 else 0 := by
  have h := Nat.testBit_and a b i
  rw [Nat.testBit_eq_decide_div_mod_eq, Nat.testBit_eq_decide_div_mod_eq, Nat.testBit_eq_decide_div_mod_eq] at h
  have h2 := Nat.mod_two_eq_zero_or_one ((a &&& b) / 2 ^ i)
  by_cases ha : a / 2 ^ i % 2 = 1 <;> by_cases hb : b / 2 ^ i % 2 = 1 <;> simp [ha, hb] at h ⊢ <;> omega
theorem bothTo_yes {a b i : Nat} (h1 : a / 2 ^ i % 2 = 1) (h2 : b / 2 ^ i % 2 = 1) : bothTo a b (i + 1) = bothTo a b i + 2 ^ i := by
  unfold bothTo
  rw [Nat.mod_pow_succ, both_bit, if_pos ⟨h1, h2⟩, Nat.mul_one]
theorem bothTo_no {a b i : Nat} (h : ¬ (a / 2 ^ i % 2 = 1 ∧ b / 2 ^ i % 2 = 1)) : bothTo a b (i + 1) = bothTo a b i := by
  unfold bothTo
  rw [Nat.mod_pow_succ, both_bit, if_neg h, Nat.mul_zero, Nat.add_zero]
theorem bothTo_end {a b i : Nat} (h : a < 2 ^ i) : bothTo a b i = a &&& b := by
  unfold bothTo
  exact Nat.mod_eq_of_lt (Nat.lt_of_le_of_lt Nat.and_le_left h)
theorem or_both (a b : Nat) : a ||| b = a + b - (a &&& b) := by
  have : ∀ n a b : Nat, a ≤ n → (a ||| b) + (a &&& b) = a + b := by
    intro n
    induction n with
    | zero =>
      intro a b h
      have : a = 0 := by omega
      subst this
      simp
    | succ n ih =>
      intro a b h
      by_cases h0 : a = 0
      · subst h0; simp
      · have h1 := ih (a / 2) (b / 2) (by omega)
        have e1 : (a ||| b) / 2 = a / 2 ||| b / 2 := Nat.or_div_two
        have e2 : (a &&& b) / 2 = a / 2 &&& b / 2 := Nat.and_div_two
        have e3 : (a ||| b) % 2 = 1 ↔ a % 2 = 1 ∨ b % 2 = 1 := by
          have := Nat.testBit_or a b 0
          simp only [Nat.testBit_zero] at this
          by_cases x : a % 2 = 1 <;> by_cases y : b % 2 = 1 <;> simp_all
        have e4 : (a &&& b) % 2 = 1 ↔ a % 2 = 1 ∧ b % 2 = 1 := by
          have := Nat.testBit_and a b 0
          simp only [Nat.testBit_zero] at this
          by_cases x : a % 2 = 1 <;> by_cases y : b % 2 = 1 <;> simp_all
        omega
  have := this a a b (Nat.le_refl _)
  omega
theorem wdm (a k : Nat) (h : a ≤ 65535) : (wrap64 ((a : Int) / (k : Int))).tmod 2 = ((a / k % 2 : Nat) : Int) := by
  rw [← Int.natCast_ediv]
  have hq : a / k ≤ 65535 := Nat.le_trans (Nat.div_le_self _ _) h
  generalize a / k = q at hq ⊢
  have e : wrap64 (q : Int) = q := by unfold wrap64; omega
  rw [e, Int.tmod_eq_emod_of_nonneg (by omega)]
  omega
set_option maxHeartbeats 2000000 in
theorem sBoth_nat (a b : Nat) (h1 : a ≤ 65535) (h2 : b ≤ 65535) (w : World) :
    Calls Tryz.prog 106 #[.int .i64 a, .int .i64 b] w fun e w' => e = .returned (.int .i64 ((a &&& b : Nat) : Int)) ∧ w' = w := by
  go_enter Tryz.func106, Tryz.ntmps106
  go_wp2
  go_loop [5, 6] (fun o q => ∃ i k : Nat, 1 ≤ k ∧ k ≤ 200000 ∧ Hid (k = 2 ^ i) ∧ q = .int .i64 k ∧ o = .int .i64 ((bothTo a b i : Nat) : Int) ∧ bothTo a b i ≤ 65535) (fun _ q => a + 1 - (intOf q).toNat)
  case atStart => exact ⟨0, 1, by omega, by omega, rfl, rfl, by simp [bothTo, Nat.mod_one], by simp [bothTo, Nat.mod_one]⟩
  case round =>
    obtain ⟨i, k, hk1, hk2, he, rfl, rfl, hle⟩ := hrel
    by_cases hle2 : k ≤ a
    · have hle' : (k : Int) ≤ (a : Int) := by omega
      have hk0 : (0 : Int) < (k : Int) := by omega
      have hnext : Hid (2 * k = 2 ^ (i + 1)) := (by show _ = _; rw [he.out, Nat.pow_succ]; omega)
      have hlenext : bothTo a b (i + 1) ≤ 65535 := by
        have : bothTo a b (i + 1) ≤ a &&& b := Nat.mod_le _ _
        have h3 : a &&& b ≤ a := Nat.and_le_left
        omega
      by_cases ha : a / k % 2 = 1
      · have qa : (wrap64 ((a : Int) / (k : Int))).tmod 2 = 1 := by rw [wdm a k h1, ha]; rfl
        by_cases hb : b / k % 2 = 1
        · have qb : (wrap64 ((b : Int) / (k : Int))).tmod 2 = 1 := by rw [wdm b k h2, hb]; rfl
          have hy : Hid (bothTo a b (i + 1) = bothTo a b i + k) := (by
            show _ = _
            rw [he.out] at ha hb ⊢
            exact bothTo_yes ha hb)
          clear ha hb
          go_wp2
          go_round
          case rel => exact ⟨i + 1, 2 * k, by omega, by omega, hnext, by go_num, by rw [hy.out]; go_num, hlenext⟩
          case measure => simp [intOf]; omega
        · have qb : (wrap64 ((b : Int) / (k : Int))).tmod 2 = 0 := by rw [wdm b k h2, (by omega : b / k % 2 = 0)]; rfl
          have hy : Hid (bothTo a b (i + 1) = bothTo a b i) := (by
            show _ = _
            rw [he.out] at ha hb
            exact bothTo_no (fun h => hb h.2))
          clear ha hb
          go_wp2
          go_round
          case rel => exact ⟨i + 1, 2 * k, by omega, by omega, hnext, by go_num, by rw [hy.out], hlenext⟩
          case measure => simp [intOf]; omega
      · have qa : (wrap64 ((a : Int) / (k : Int))).tmod 2 = 0 := by rw [wdm a k h1, (by omega : a / k % 2 = 0)]; rfl
        have hy : Hid (bothTo a b (i + 1) = bothTo a b i) := (by
          show _ = _
          rw [he.out] at ha
          exact bothTo_no (fun h => ha h.1))
        clear ha
        go_wp2
        go_round
        case rel => exact ⟨i + 1, 2 * k, by omega, by omega, hnext, by go_num, by rw [hy.out], hlenext⟩
        case measure => simp [intOf]; omega
    · have hd : decide ((k : Int) ≤ (a : Int)) = false := decide_eq_false (by omega)
      have hy : Hid (bothTo a b i = a &&& b) := (by
        show _ = _
        rw [he.out] at hle2
        exact bothTo_end (by omega))
      go_wp2
      go_ret
      exact ⟨by rw [← hy.out]; rfl, rfl⟩
/-- spec.l02Both. -/
theorem sBoth_any (a b : Int) (a0 : 0 ≤ a) (a1 : a ≤ 65535) (b0 : 0 ≤ b) (b1 : b ≤ 65535) (w : World) :
    Calls Tryz.prog 106 #[.int .i64 a, .int .i64 b] w fun e w' => e = .returned (.int .i64 (andI a b)) ∧ w' = w := by
  obtain ⟨x, rfl⟩ := Int.eq_ofNat_of_zero_le a0
  obtain ⟨y, rfl⟩ := Int.eq_ofNat_of_zero_le b0
  exact sBoth_nat x y (by omega) (by omega) w
set_option maxHeartbeats 1000000 in
/-- spec.l02Either. -/
theorem sEither_any (a b : Int) (a0 : 0 ≤ a) (a1 : a ≤ 65535) (b0 : 0 ≤ b) (b1 : b ≤ 65535) (w : World) :
    Calls Tryz.prog 137 #[.int .i64 a, .int .i64 b] w fun e w' => e = .returned (.int .i64 (orI a b)) ∧ w' = w := by
  have e : Hid (a + b - andI a b = orI a b) := (by
    show _ = _
    obtain ⟨x, rfl⟩ := Int.eq_ofNat_of_zero_le a0
    obtain ⟨y, rfl⟩ := Int.eq_ofNat_of_zero_le b0
    have h := or_both x y
    have h2 : x &&& y ≤ x := Nat.and_le_left
    show (x : Int) + (y : Int) - ((x &&& y : Nat) : Int) = ((x ||| y : Nat) : Int)
    omega)
  have hA : 0 ≤ andI a b ∧ andI a b ≤ 65535 := by
    have h : a.toNat &&& b.toNat ≤ a.toNat := Nat.and_le_left
    unfold andI
    omega
  obtain ⟨k0, k1⟩ := hA
  have hc : Hid (∀ w, Calls Tryz.prog 106 #[.int .i64 a, .int .i64 b] w fun e w' => e = .returned (.int .i64 (andI a b)) ∧ w' = w) := sBoth_any a b a0 a1 b0 b1
  generalize andI a b = k at hc e k0 k1
  go_enter Tryz.func137, Tryz.ntmps137
  go_wp2_with (go_at_call 106; refine (hc.out _).mono ?_; rintro e w' ⟨rfl, rfl⟩)
  go_ret
  exact ⟨by rw [← e.out]; rfl, rfl⟩
/-- The three bits of a mode, of whatever number. -/
def mU (n : Int) : Int := if 0 ≤ n ∧ n ≤ 4095 then n / 64 % 8 else 0
def mG (n : Int) : Int := if 0 ≤ n ∧ n ≤ 4095 then n / 8 % 8 else 0
def mO (n : Int) : Int := if 0 ≤ n ∧ n ≤ 4095 then n % 8 else 0
theorem m_in {n : Int} (h : 0 ≤ n ∧ n ≤ 4095) : mU n = n / 64 % 8 ∧ mG n = n / 8 % 8 ∧ mO n = n % 8 := by simp [mU, mG, mO, h]
theorem m_off {n : Int} (h : ¬ (0 ≤ n ∧ n ≤ 4095)) : mU n = 0 ∧ mG n = 0 ∧ mO n = 0 := by
  refine ⟨?_, ?_, ?_⟩
  · rw [mU, if_neg h]
  · rw [mG, if_neg h]
  · rw [mO, if_neg h]
set_option maxHeartbeats 1000000 in
/-- spec.AclOf. -/
theorem sAclOf_any (n : Int) (w : World) :
    Calls Tryz.prog 89 #[.int .i64 n] w fun e w' => e = .returned (.agg #[.int .i64 (mU n), .int .i64 (mG n), .int .i64 (mO n), .slice none 0 0, .slice none 0 0, .bool false, .int .i64 0]) ∧ Below w.heap.size w w' := by
  by_cases hin : 0 ≤ n ∧ n ≤ 4095
  · obtain ⟨e1, e2, e3⟩ := m_in hin
    rw [e1, e2, e3]
    obtain ⟨h0, h1⟩ := hin
    have hi : inR 0 4095 n = true := inR_yes h0 h1
    clear e1 e2 e3
    go_enter Tryz.func89, Tryz.ntmps89
    go_wp2_with (go_at_call 109; refine (sMode_any _ _).mono ?_; rintro e w' ⟨rfl, rfl⟩)
    exact bodyPost_ret (v := .agg #[.int .i64 (n / 64 % 8), .int .i64 (n / 8 % 8), .int .i64 (n % 8), .slice none 0 0, .slice none 0 0, .bool false, .int .i64 0]) (by simp [results, Tryz.results89, go_sem]) rfl ⟨rfl, (Below.refl _ _).alloc (Nat.le_refl _) _⟩
  · obtain ⟨e1, e2, e3⟩ := m_off hin
    rw [e1, e2, e3]
    have hi : inR 0 4095 n = false := inR_no hin
    clear e1 e2 e3 hin
    go_enter Tryz.func89, Tryz.ntmps89
    go_wp2_with (go_at_call 109; refine (sMode_any _ _).mono ?_; rintro e w' ⟨rfl, rfl⟩)
    exact bodyPost_ret (v := .agg #[.int .i64 0, .int .i64 0, .int .i64 0, .slice none 0 0, .slice none 0 0, .bool false, .int .i64 0]) (by simp [results, Tryz.results89, go_sem]) rfl ⟨rfl, (Below.refl _ _).alloc (Nat.le_refl _) _⟩
end Go.Proofs.YtedahdncincgjaaGreatDoor
