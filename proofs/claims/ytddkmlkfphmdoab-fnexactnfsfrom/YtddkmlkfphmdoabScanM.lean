/- A number's bytes, read and written: what is read is the bytes of that number, and of none other. Nothing here names a program. -/
import Derived.Test.YtddkmlkfphmdoabNumMath
import Derived.Test.YtddkmlkfphmdoabNumV
namespace Go.Proofs.Ytddkmlkfphmdoab
open Go.RowKit Go.PlainAid
set_option linter.unusedVariables false
theorem unf_fold {n : Int} : unf (foldN n) = n := by
  by_cases h : n < 0
  · have e := fold_neg h
    unfold unf
    rw [if_pos (by omega)]
    omega
  · have e := fold_pos (n := n) (by omega)
    unfold unf
    rw [if_neg (by omega)]
    omega
/-- The bytes l stand at place a of s. -/
def At (s : ByteArray) (a : Nat) (l : List UInt8) : Prop := a + l.length ≤ s.size ∧ ∀ k (h : k < l.length), byte s (a + k) = (l[k]).toNat
theorem At.tail {s : ByteArray} {a : Nat} {b : UInt8} {l : List UInt8} (h : At s a (b :: l)) : byte s a = b.toNat ∧ a < s.size ∧ At s (a + 1) l := by
  obtain ⟨h1, h2⟩ := h
  simp only [List.length_cons] at h1
  have h0 := h2 0 (by simp)
  rw [Nat.add_zero] at h0
  refine ⟨h0, by omega, by omega, fun k hk => ?_⟩
  have := h2 (k + 1) (by simpa using hk)
  rw [show a + 1 + k = a + (k + 1) by omega]
  simpa using this
theorem small_back {x : Nat} (h : x < 256) : (UInt8.ofNat x).toNat = x := by
  rw [UInt8.toNat_ofNat_of_lt' (by simpa [UInt8.size] using h)]
theorem pow_nine : (128 : Nat) ^ 9 = 9223372036854775808 := by decide
theorem nine_le {u k acc m : Nat} (hm : acc + u * 128 ^ k = m) (hM : m ≤ 18446744073709551615) (hk : k = 9) : u ≤ 1 := by
  subst hk
  rw [pow_nine] at hm
  omega
/-- Read on from the k-th byte. -/
theorem scan_enc (s : ByteArray) (a m : Nat) (hM : m ≤ 18446744073709551615) : ∀ f k u acc, f + k = 10 → At s (a + k) (enc u) → acc + u * 128 ^ k = m → (0 < k → 0 < u) →
    scan s a f k acc = (unf m, (a : Int) + k + (enc u).length, 0) := by
  intro f
  induction f with
  | zero =>
    intro k u acc hf _ hm h0
    obtain rfl : k = 10 := by omega
    have e : (128 : Nat) ^ 10 = 1180591620717411303424 := by decide
    rw [e] at hm
    have := h0 (by omega)
    omega
  | succ f ih =>
    intro k u acc hf hat hm h0
    unfold scan
    by_cases hu : u < 128
    · rw [enc_last hu] at hat ⊢
      obtain ⟨hb, hlt, _⟩ := hat.tail
      rw [small_back (by omega)] at hb
      rw [if_neg (by omega), hb, if_neg (by intro h; have := nine_le hm hM h.1; omega), if_pos hu, if_neg (by omega)]
      have e : put7 k acc u = m := by unfold put7; rw [Nat.mod_eq_of_lt hu]; exact hm
      rw [e]
      simp
    · rw [enc_more (by omega)] at hat ⊢
      obtain ⟨hb, hlt, htl⟩ := hat.tail
      rw [small_back (by omega)] at hb
      have h9 : ¬ k = 9 := by intro h; have := nine_le hm hM h; omega
      rw [if_neg (by omega), hb, if_neg (by omega), if_neg (by omega)]
      have e1 : put7 k acc (u % 128 + 128) + u / 128 * 128 ^ (k + 1) = m := by
        unfold put7
        have e2 : (u % 128 + 128) % 128 = u % 128 := by omega
        have e3 : u / 128 * 128 ^ (k + 1) = u / 128 * 128 * 128 ^ k := by rw [Nat.pow_succ, Nat.mul_comm (128 ^ k), Nat.mul_assoc]
        have e4 : u = u / 128 * 128 + u % 128 := by omega
        rw [e2, e3, ← hm]
        conv => rhs; rw [e4, Nat.add_mul]
        omega
      rw [ih (k + 1) (u / 128) _ (by omega) (by rw [← Nat.add_assoc]; exact htl) e1 (fun _ => by omega)]
      simp only [List.length_cons]
      congr 2
      omega
/-- Cut ahead of its last byte it is short. -/
theorem scan_cut (s : ByteArray) (a m : Nat) (hM : m ≤ 18446744073709551615) : ∀ f k u acc, f + k = 10 → At s (a + k) (enc u).dropLast → a + k + (enc u).dropLast.length = s.size → acc + u * 128 ^ k = m → (0 < k → 0 < u) →
    scan s a f k acc = (0, 0, 4) := by
  intro f
  induction f with
  | zero =>
    intro k u acc hf _ _ hm h0
    obtain rfl : k = 10 := by omega
    have e : (128 : Nat) ^ 10 = 1180591620717411303424 := by decide
    rw [e] at hm
    have := h0 (by omega)
    omega
  | succ f ih =>
    intro k u acc hf hat hsz hm h0
    unfold scan
    by_cases hu : u < 128
    · rw [enc_last hu] at hsz
      simp at hsz
      rw [if_pos (by omega)]
    · have hne : enc (u / 128) ≠ [] := by intro e; have := enc_pos (u / 128); rw [e] at this; simp at this
      rw [enc_more (by omega), List.dropLast_cons_of_ne_nil hne] at hat hsz
      obtain ⟨hb, hlt, htl⟩ := hat.tail
      rw [small_back (by omega)] at hb
      have h9 : ¬ k = 9 := by intro h; have := nine_le hm hM h; omega
      rw [if_neg (by omega), hb, if_neg (by omega), if_neg (by omega)]
      have e1 : put7 k acc (u % 128 + 128) + u / 128 * 128 ^ (k + 1) = m := by
        unfold put7
        have e2 : (u % 128 + 128) % 128 = u % 128 := by omega
        have e3 : u / 128 * 128 ^ (k + 1) = u / 128 * 128 * 128 ^ k := by rw [Nat.pow_succ, Nat.mul_comm (128 ^ k), Nat.mul_assoc]
        have e4 : u = u / 128 * 128 + u % 128 := by omega
        rw [e2, e3, ← hm]
        conv => rhs; rw [e4, Nat.add_mul]
        omega
      simp only [List.length_cons] at hsz
      exact ih (k + 1) (u / 128) _ (by omega) (by rw [← Nat.add_assoc]; exact htl) (by omega) e1 (fun _ => by omega)
theorem byte_left {s t : ByteArray} {k : Nat} (h : k < s.size) : byte (s ++ t) k = byte s k := by
  unfold byte
  rw [dif_pos (by rw [ByteArray.size_append]; omega), dif_pos h, ByteArray.getElem_append_left h]
theorem byte_right {s t : ByteArray} (k : Nat) : byte (s ++ t) (s.size + k) = byte t k := by
  unfold byte
  by_cases h : k < t.size
  · rw [dif_pos (by rw [ByteArray.size_append]; omega), dif_pos h, ByteArray.getElem_append_right (by omega)]
    simp
  · rw [dif_neg (by rw [ByteArray.size_append]; omega), dif_neg h]
theorem byte_list {l : List UInt8} {k : Nat} (h : k < l.length) : byte ⟨l.toArray⟩ k = (l[k]).toNat := by
  have g : k < (⟨l.toArray⟩ : ByteArray).size := by simpa [ByteArray.size] using h
  unfold byte
  rw [dif_pos g]
  rfl
theorem size_list (l : List UInt8) : (⟨l.toArray⟩ : ByteArray).size = l.length := by simp [ByteArray.size]
theorem at_mid (x z : ByteArray) (l : List UInt8) : At (x ++ ⟨l.toArray⟩ ++ z) x.size l := by
  have e := size_list l
  refine ⟨by rw [ByteArray.size_append, ByteArray.size_append, e]; omega, fun k hk => ?_⟩
  rw [byte_left (by rw [ByteArray.size_append, e]; omega), byte_right, byte_list hk]
theorem byte_cut {s : ByteArray} {n k : Nat} (hn : n ≤ s.size) (hk : k < n) : byte (s.extract 0 n) k = byte s k := by
  have g : k < (s.extract 0 n).size := by simp; omega
  unfold byte
  rw [dif_pos g, dif_pos (by omega)]
  simp [ByteArray.getElem_extract]
theorem size_cut {s : ByteArray} {n : Nat} (hn : n ≤ s.size) : (s.extract 0 n).size = n := by simp; omega
theorem fold_unf {u : Nat} : foldN (unf u) = u := by
  by_cases h : u % 2 = 1
  · rw [unf_odd h]
    unfold foldN
    rw [if_pos (by omega)]
    omega
  · rw [unf_even h]
    unfold foldN
    rw [if_neg (by omega)]
    omega
theorem at_cons {s : ByteArray} {a : Nat} {b : UInt8} {l : List UInt8} (h1 : a < s.size) (h2 : byte s a = b.toNat) (h3 : At s (a + 1) l) : At s a (b :: l) := by
  refine ⟨by have := h3.1; simp only [List.length_cons]; omega, fun k hk => ?_⟩
  cases k with
  | zero => rw [Nat.add_zero]; simpa using h2
  | succ k =>
    have := h3.2 k (by simpa using hk)
    rw [show a + (k + 1) = a + 1 + k by omega]
    simpa using this
theorem at_nil {s : ByteArray} {a : Nat} (h : a ≤ s.size) : At s a [] := ⟨by simpa using h, fun k hk => by simp at hk⟩
/-- What is read is the bytes of a number, and of none other. -/
theorem scan_canon (s : ByteArray) (a : Nat) (n p : Int) : ∀ f k acc, f + k = 10 → acc < 128 ^ k → scan s a f k acc = (n, p, 0) →
    ∃ u, (0 < k → 0 < u) ∧ At s (a + k) (enc u) ∧ acc + u * 128 ^ k ≤ 18446744073709551615 ∧ n = unf (acc + u * 128 ^ k) ∧ p = (a : Int) + k + (enc u).length := by
  intro f
  induction f with
  | zero => intro k acc _ _ h; simp [scan] at h
  | succ f ih =>
    intro k acc hf hacc h
    unfold scan at h
    have hb255 := byte_le s (a + k)
    by_cases h1 : s.size ≤ a + k
    · rw [if_pos h1] at h; simp at h
    · rw [if_neg h1] at h
      by_cases h2 : k = 9 ∧ 1 < byte s (a + k)
      · rw [if_pos h2] at h; simp at h
      · rw [if_neg h2] at h
        by_cases h3 : byte s (a + k) < 128
        · rw [if_pos h3] at h
          by_cases h4 : byte s (a + k) = 0 ∧ 0 < k
          · rw [if_pos h4] at h; simp at h
          · rw [if_neg h4] at h
            simp only [Prod.mk.injEq] at h
            have hle := put7_le (k := k) (acc := acc) (b := byte s (a + k)) (by omega) hacc (by omega)
            have e : put7 k acc (byte s (a + k)) = acc + byte s (a + k) * 128 ^ k := by unfold put7; rw [Nat.mod_eq_of_lt h3]
            rw [e] at hle h
            refine ⟨byte s (a + k), by omega, ?_, hle, h.1.symm, ?_⟩
            · rw [enc_last h3]
              exact at_cons (by omega) (by rw [small_back (by omega)]) (at_nil (by omega))
            · rw [enc_last h3]; simp; omega
        · rw [if_neg h3] at h
          obtain ⟨u, hu, hat, hle, hn, hp⟩ := ih (k + 1) _ (by omega) (put7_lt hacc) h
          have hu0 := hu (by omega)
          have e3 : u * 128 ^ (k + 1) = u * 128 * 128 ^ k := by rw [Nat.pow_succ, Nat.mul_comm (128 ^ k), Nat.mul_assoc]
          have e1 : put7 k acc (byte s (a + k)) + u * 128 ^ (k + 1) = acc + (byte s (a + k) - 128 + u * 128) * 128 ^ k := by
            unfold put7
            have e2 : byte s (a + k) % 128 = byte s (a + k) - 128 := by omega
            rw [e2, e3, Nat.add_mul]
            omega
          rw [e1] at hle hn
          have hbig : 128 ≤ byte s (a + k) - 128 + u * 128 := by omega
          refine ⟨byte s (a + k) - 128 + u * 128, by omega, ?_, hle, hn, ?_⟩
          · rw [enc_more hbig]
            refine at_cons (by omega) ?_ ?_
            · rw [small_back (by omega)]; omega
            · have : (byte s (a + k) - 128 + u * 128) / 128 = u := by omega
              rw [this]
              rw [← Nat.add_assoc] at hat
              exact hat
          · rw [enc_more hbig, hp]
            have : (byte s (a + k) - 128 + u * 128) / 128 = u := by omega
            rw [this]
            simp only [List.length_cons]
            omega
/-- The bytes of a number of int64. -/
def encI (n : Int) : List UInt8 := enc (foldN n)
theorem scan_yes {s : ByteArray} {a : Nat} {n : Int} (h1 : -9223372036854775808 ≤ n) (h2 : n ≤ 9223372036854775807) (hat : At s a (encI n)) : scan s a 10 0 0 = (n, (a : Int) + (encI n).length, 0) := by
  have := scan_enc s a (foldN n) (fold_le h1 h2) 10 0 (foldN n) 0 rfl (by simpa [encI] using hat) (by simp) (by omega)
  rw [this, unf_fold]
  simp [encI]
theorem scan_of {s : ByteArray} {a : Nat} {n p c : Int} (h : scan s a 10 0 0 = (n, p, c)) (hc : c = 0) : At s a (encI n) ∧ p = (a : Int) + (encI n).length ∧ -9223372036854775808 ≤ n ∧ n ≤ 9223372036854775807 := by
  subst hc
  obtain ⟨u, _, hat, hle, hn, hp⟩ := scan_canon s a n p 10 0 0 rfl (by decide) h
  simp only [Nat.pow_zero, Nat.mul_one, Nat.zero_add, Nat.add_zero] at hat hle hn hp
  have e : foldN n = u := by rw [hn, fold_unf]
  have hb := unf_bd hle
  rw [← hn] at hb
  refine ⟨by rw [encI, e]; exact hat, by rw [encI, e, hp]; simp, hb.1, hb.2⟩
theorem scan_code (s : ByteArray) (a : Nat) : (scan s a 10 0 0).2.2 = 0 ∨ ((scan s a 10 0 0).1 = 0 ∧ (scan s a 10 0 0).2.1 = 0) := by
  have key : ∀ f k acc, (scan s a f k acc).2.2 = 0 ∨ ((scan s a f k acc).1 = 0 ∧ (scan s a f k acc).2.1 = 0) := by
    intro f
    induction f with
    | zero => intro k acc; exact .inr ⟨rfl, rfl⟩
    | succ f ih =>
      intro k acc
      unfold scan
      repeat' split
      all_goals first | exact .inr ⟨rfl, rfl⟩ | exact .inl rfl | exact ih _ _
  exact key _ _ _
end Go.Proofs.Ytddkmlkfphmdoab
