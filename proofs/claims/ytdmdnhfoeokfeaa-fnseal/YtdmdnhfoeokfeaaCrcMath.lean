/- Plain mathematics of the CRC: a register's step can be told back, so one byte turned turns the CRC; a CRC goes on from text to text. -/
import Derived.Test.YtdmdnhfoeokfeaaSealWalks
namespace Go.Proofs.Ytdmdnhfoeokfeaa
open Go.RowKit Go.PlainAid
set_option linter.unusedVariables false
theorem xorR {a b c : Nat} (h : a ^^^ c = b ^^^ c) : a = b := by
  have e : ∀ x : Nat, (x ^^^ c) ^^^ c = x := fun x => by rw [Nat.xor_assoc, Nat.xor_self, Nat.xor_zero]
  rw [← e a, h, e b]
theorem xorL {a b c : Nat} (h : c ^^^ a = c ^^^ b) : a = b := xorR (c := c) (by rw [Nat.xor_comm a, Nat.xor_comm b]; exact h)
theorem and_one {r : Nat} (h : r ≤ 4294967295) : bits .and .u32 (r : Int) 1 = ((r % 2 : Nat) : Int) := by
  have h1 := u32_and_nat r 1 (by omega) (by decide)
  rw [Nat.and_one_is_mod] at h1
  exact h1
theorem stp_nat {r : Nat} (h : r ≤ 4294967295) : stp (r : Int) = (((if r % 2 = 1 then (r / 2) ^^^ 3988292384 else r / 2) : Nat) : Int) := by
  unfold stp
  rw [and_one h]
  have e : ((r : Int) / 2) = ((r / 2 : Nat) : Int) := by omega
  by_cases hp : r % 2 = 1
  · rw [if_pos (by rw [hp]; rfl), if_pos hp, e]
    exact u32_xor_nat (r / 2) 3988292384 (by omega) (by decide)
  · rw [if_neg (by rw [beq_iff_eq]; omega), if_neg hp, e]
theorem top_bit {x : Nat} (h : x < 2147483648) : (x ^^^ 3988292384).testBit 31 = true ∧ x.testBit 31 = false := by
  have h1 : x.testBit 31 = false := Nat.testBit_lt_two_pow (by omega)
  refine ⟨?_, h1⟩
  rw [Nat.testBit_xor, h1]
  decide
theorem stp_inj {a b : Int} (ha : Reg a) (hb : Reg b) (h : stp a = stp b) : a = b := by
  obtain ⟨a1, a2⟩ := ha
  obtain ⟨b1, b2⟩ := hb
  obtain ⟨m, rfl⟩ := Int.eq_ofNat_of_zero_le a1
  obtain ⟨n, rfl⟩ := Int.eq_ofNat_of_zero_le b1
  rw [stp_nat (by omega), stp_nat (by omega)] at h
  have h' := Int.ofNat.inj h
  have tm := top_bit (x := m / 2) (by omega)
  have tn := top_bit (x := n / 2) (by omega)
  by_cases hm : m % 2 = 1
  · by_cases hn : n % 2 = 1
    · rw [if_pos hm, if_pos hn] at h'
      have : m / 2 = n / 2 := xorR h'
      omega
    · rw [if_pos hm, if_neg hn] at h'
      rw [h', tn.2] at tm
      cases tm.1
  · by_cases hn : n % 2 = 1
    · rw [if_neg hm, if_pos hn] at h'
      rw [← h', tm.2] at tn
      cases tn.1
    · rw [if_neg hm, if_neg hn] at h'
      omega
theorem stpN_inj (k : Nat) {a b : Int} (ha : Reg a) (hb : Reg b) (h : stpN k a = stpN k b) : a = b := by
  induction k with
  | zero => exact h
  | succ k ih => exact ih (stp_inj (Reg_stpN k ha) (Reg_stpN k hb) h)
theorem xor_nat {a b : Int} (ha : Reg a) (hb : Reg b) : bits .xor .u32 a b = ((a.toNat ^^^ b.toNat : Nat) : Int) := by
  obtain ⟨a1, a2⟩ := ha
  obtain ⟨b1, b2⟩ := hb
  exact u32_xor a b a1 (by omega) b1 (by omega)
theorem xor_left {a b c : Int} (ha : Reg a) (hb : Reg b) (hc : Reg c) (h : bits .xor .u32 a c = bits .xor .u32 b c) : a = b := by
  rw [xor_nat ha hc, xor_nat hb hc] at h
  have h2 : a.toNat = b.toNat := xorR (Int.ofNat.inj h)
  have := ha.1; have := hb.1
  omega
theorem xor_right {a b c : Int} (ha : Reg a) (hb : Reg b) (hc : Reg c) (h : bits .xor .u32 c a = bits .xor .u32 c b) : a = b := by
  rw [xor_nat hc ha, xor_nat hc hb] at h
  have h2 : a.toNat = b.toNat := xorL (Int.ofNat.inj h)
  have := ha.1; have := hb.1
  omega
theorem Reg_bt (s : ByteArray) (k : Nat) : Reg (bt s k) := ⟨bt_nonneg s k, by have := bt_le s k; omega⟩
theorem Reg_ones : Reg 4294967295 := ⟨by decide, by decide⟩
/-- Texts that differ at place i alone have other registers from there on. -/
theorem reg_same {s t : ByteArray} {r : Int} {i : Nat} (h : ∀ k, k < i → bt s k = bt t k) : ∀ k, k ≤ i → regTo s r k = regTo t r k := by
  intro k
  induction k with
  | zero => intro _; rfl
  | succ k ih => intro hk; simp only [regTo]; rw [ih (by omega), h k (by omega)]
theorem reg_other {s t : ByteArray} {r : Int} (hr : Reg r) {i : Nat} (h : ∀ k, k ≠ i → bt s k = bt t k) (hd : bt s i ≠ bt t i) : ∀ k, i < k → regTo s r k ≠ regTo t r k := by
  intro k
  induction k with
  | zero => intro hk; omega
  | succ k ih =>
    intro hk e
    simp only [regTo] at e
    have e2 := stpN_inj 8 (Reg_bits .xor _ _) (Reg_bits .xor _ _) e
    by_cases hki : k = i
    · subst hki
      rw [reg_same (i := k) (fun j hj => h j (by omega)) k (Nat.le_refl _)] at e2
      exact hd (xor_right (Reg_bt s k) (Reg_bt t k) (Reg_regTo t hr k) e2)
    · rw [h k hki] at e2
      exact ih (by omega) (xor_left (Reg_regTo s hr k) (Reg_regTo t hr k) (Reg_bt t k) e2)
theorem crc_other {s t : ByteArray} (hz : s.size = t.size) {i : Nat} (hi : i < s.size) (h : ∀ k, k ≠ i → bt s k = bt t k) (hd : bt s i ≠ bt t i) : crcOf s 0 ≠ crcOf t 0 := by
  intro e
  unfold crcOf at e
  have e2 := xor_left (Reg_regTo s (Reg_bits .xor _ _) _) (Reg_regTo t (Reg_bits .xor _ _) _) Reg_ones e
  rw [hz] at e2
  exact reg_other (Reg_bits .xor _ _) h hd t.size (by omega) e2
/-- Its four bytes tell a number. -/
theorem four_inj {a b : Int} (ha : Reg a) (hb : Reg b) (h : fourOf a = fourOf b) : a = b := by
  obtain ⟨a1, a2⟩ := ha
  obtain ⟨b1, b2⟩ := hb
  simp only [fourOf, List.cons.injEq, and_true] at h
  obtain ⟨h0, h1, h2, h3⟩ := h
  have k : ∀ {x y : Int}, 0 ≤ x → x < 256 → 0 ≤ y → y < 256 → UInt8.ofNat x.toNat = UInt8.ofNat y.toNat → x = y := by
    intro x y x0 x1 y0 y1 e
    have := u8_back x0 x1
    rw [e, u8_back y0 y1] at this
    omega
  have k0 := k (by omega) (by omega) (by omega) (by omega) h0
  have k1 := k (by omega) (by omega) (by omega) (by omega) h1
  have k2 := k (by omega) (by omega) (by omega) (by omega) h2
  have k3 := k (by omega) (by omega) (by omega) (by omega) h3
  omega
/-- Twice turned is not turned. -/
theorem xor_twice {r : Int} (h : Reg r) : bits .xor .u32 (bits .xor .u32 r 4294967295) 4294967295 = r := by
  rw [xor_nat (Reg_bits .xor _ _) Reg_ones, xor_nat h Reg_ones]
  obtain ⟨a, b⟩ := h
  rw [Int.toNat_natCast, Nat.xor_assoc, Nat.xor_self, Nat.xor_zero]
  omega
theorem bt_left {s t : ByteArray} {k : Nat} (h : k < s.size) : bt (s ++ t) k = bt s k := by
  unfold bt
  rw [dif_pos (by rw [ByteArray.size_append]; omega), dif_pos h, ByteArray.getElem_append_left h]
theorem bt_right {s t : ByteArray} (k : Nat) : bt (s ++ t) (s.size + k) = bt t k := by
  unfold bt
  by_cases h : k < t.size
  · rw [dif_pos (by rw [ByteArray.size_append]; omega), dif_pos h, ByteArray.getElem_append_right (by omega)]
    simp
  · rw [dif_neg (by rw [ByteArray.size_append]; omega), dif_neg h]
theorem reg_append (s t : ByteArray) (r : Int) : ∀ k, regTo (s ++ t) r (s.size + k) = regTo t (regTo s r s.size) k := by
  have h0 : regTo (s ++ t) r s.size = regTo s r s.size := reg_same (i := s.size) (fun k hk => bt_left hk) _ (Nat.le_refl _)
  intro k
  induction k with
  | zero => exact h0
  | succ k ih =>
    rw [← Nat.add_assoc]
    simp only [regTo]
    rw [ih, bt_right]
/-- The CRC goes on. -/
theorem crc_more (s t : ByteArray) : crcOf t (crcOf s 0) = crcOf (s ++ t) 0 := by
  unfold crcOf
  rw [xor_twice (Reg_regTo s (Reg_bits .xor _ _) _), ByteArray.size_append, reg_append]
end Go.Proofs.Ytdmdnhfoeokfeaa
