/- Laid together: GetMath, NumV, ScanM, NbM. -/
import Derived.Test.YtedahdncincgjaaGreatDoorNX1
import Derived.Test.YtedahdncincgjaaGreatDoorNX3
/- Plain mathematics of GetNum: what stands at a place of a text, byte by byte. Nothing here names a program. -/
namespace Go.Proofs.YtedahdncincgjaaGreatDoor
open Go.RowKit
set_option linter.unusedVariables false
/-- Byte i of a text as a number; 0 behind its end. -/
def byte (s : ByteArray) (i : Nat) : Nat := if h : i < s.size then (s[i]'h).toNat else 0
theorem get_byte (s : ByteArray) : ∀ (n : Nat) (h : n < s.size), ((s[n]'h).toNat : Int) = (byte s n : Int) := fun n h => by unfold byte; rw [dif_pos h]
theorem byte_le (s : ByteArray) (i : Nat) : byte s i ≤ 255 := by
  unfold byte; split
  · have := (s[i]).toNat_lt; omega
  · omega
/-- A number from 0 to 2^64-1 back as one of int64. -/
def unf (u : Nat) : Int := if u % 2 = 1 then -((u / 2 : Nat) : Int) - 1 else ((u / 2 : Nat) : Int)
/-- The number with one byte more. -/
def put7 (k acc b : Nat) : Nat := acc + b % 128 * 128 ^ k
/-- What stands at place a: the bytes from the k-th on, 'acc' being read: the number, the place behind it, the code. -/
def scan (s : ByteArray) (a : Nat) : Nat → Nat → Nat → Int × Int × Int
  | 0, _, _ => (0, 0, 3)
  | f + 1, k, acc =>
    if s.size ≤ a + k then (0, 0, 4)
    else if k = 9 ∧ 1 < byte s (a + k) then (0, 0, 3)
    else if byte s (a + k) < 128 then
      if byte s (a + k) = 0 ∧ 0 < k then (0, 0, 3) else (unf (put7 k acc (byte s (a + k))), (a : Int) + k + 1, 0)
    else scan s a f (k + 1) (put7 k acc (byte s (a + k)))
/-- From the k-th byte on it comes to what it comes to from the first one on. -/
def Goes (s : ByteArray) (a k acc : Nat) : Prop := scan s a (10 - k) k acc = scan s a 10 0 0 ∧ acc < 128 ^ k
theorem goes_start (s : ByteArray) (a : Nat) : Goes s a 0 0 := ⟨rfl, by decide⟩
theorem fuel {k : Nat} (h : k ≤ 9) : ∃ f, 10 - k = f + 1 ∧ f = 10 - (k + 1) := ⟨9 - k, by omega, by omega⟩
theorem goes_short {s : ByteArray} {a k acc : Nat} (hk : k ≤ 9) (h : Goes s a k acc) (h1 : s.size ≤ a + k) : scan s a 10 0 0 = (0, 0, 4) := by
  obtain ⟨f, e, _⟩ := fuel hk
  rw [← h.1, e, scan, if_pos h1]
theorem goes_nine {s : ByteArray} {a k acc : Nat} (hk : k = 9) (h : Goes s a k acc) (h1 : a + k < s.size) (h2 : 1 < byte s (a + k)) : scan s a 10 0 0 = (0, 0, 3) := by
  obtain ⟨f, e, _⟩ := fuel (k := k) (by omega)
  rw [← h.1, e, scan, if_neg (by omega), if_pos ⟨hk, h2⟩]
theorem goes_last {s : ByteArray} {a k acc : Nat} (hk : k ≤ 9) (h : Goes s a k acc) (h1 : a + k < s.size) (h2 : ¬ (k = 9 ∧ 1 < byte s (a + k))) (h3 : byte s (a + k) < 128) :
    scan s a 10 0 0 = if byte s (a + k) = 0 ∧ 0 < k then (0, 0, 3) else (unf (put7 k acc (byte s (a + k))), (a : Int) + k + 1, 0) := by
  obtain ⟨f, e, _⟩ := fuel hk
  rw [← h.1, e, scan, if_neg (by omega), if_neg h2, if_pos h3]
theorem pow_seven (k : Nat) : 128 ^ k = 2 ^ (7 * k) := by rw [Nat.pow_mul]
theorem put7_lt {k acc b : Nat} (h : acc < 128 ^ k) : put7 k acc b < 128 ^ (k + 1) := by
  unfold put7
  have h1 : b % 128 ≤ 127 := by omega
  have h2 : b % 128 * 128 ^ k ≤ 127 * 128 ^ k := Nat.mul_le_mul_right _ h1
  rw [Nat.pow_succ]
  omega
theorem goes_more {s : ByteArray} {a k acc : Nat} (hk : k ≤ 9) (h : Goes s a k acc) (h1 : a + k < s.size) (h2 : ¬ (k = 9 ∧ 1 < byte s (a + k))) (h3 : 128 ≤ byte s (a + k)) :
    k + 1 ≤ 9 ∧ Goes s a (k + 1) (put7 k acc (byte s (a + k))) := by
  refine ⟨by omega, ?_, put7_lt h.2⟩
  obtain ⟨f, e, e2⟩ := fuel hk
  rw [← h.1, e, scan, if_neg (by omega), if_neg h2, if_neg (by omega), e2]
theorem put7_le {k acc b : Nat} (hk : k ≤ 9) (h : acc < 128 ^ k) (h9 : k = 9 → b ≤ 1) : put7 k acc b ≤ 18446744073709551615 := by
  by_cases e : k = 9
  · subst e
    have hb := h9 rfl
    unfold put7
    have e9 : (128 : Nat) ^ 9 = 9223372036854775808 := by decide
    rw [e9] at h ⊢
    have : b % 128 ≤ 1 := by omega
    omega
  · have h1 := put7_lt (b := b) h
    have h2 : (128 : Nat) ^ (k + 1) ≤ 128 ^ 9 := Nat.pow_le_pow_right (by decide) (by omega)
    have e9 : (128 : Nat) ^ 9 = 9223372036854775808 := by decide
    omega
theorem part_le {k acc b : Nat} (hk : k ≤ 9) (h : acc < 128 ^ k) (h9 : k = 9 → b ≤ 1) : b % 128 * 128 ^ k ≤ 18446744073709551615 := by
  have := put7_le hk h h9
  unfold put7 at this
  omega
theorem wrap_nat {x : Nat} (h : x ≤ 18446744073709551615) : IntKind.u64.wrap (x : Int) = (x : Int) := by
  rw [IntKind.wrap_u64]; omega
theorem part_cast (k b : Nat) : ((b : Int) % 128 * 2 ^ (7 * k)) = ((b % 128 * 128 ^ k : Nat) : Int) := by
  rw [pow_seven, Int.natCast_mul, Int.natCast_pow]
  rfl
/-- The number as spec makes it: 'u + c%128<<uint(7*i)'. -/
theorem put_add {k acc b : Nat} (hk : k ≤ 9) (h : acc < 128 ^ k) (h9 : k = 9 → b ≤ 1) :
    IntKind.u64.wrap ((acc : Int) + IntKind.u64.wrap ((b : Int) % 128 * 2 ^ (7 * k))) = (put7 k acc b : Int) := by
  rw [part_cast, wrap_nat (part_le hk h h9), ← Int.natCast_add]
  exact wrap_nat (put7_le hk h h9)
/-- The number as impl makes it: 'u | uint64(b&127) << (7*count)'. -/
theorem put_or {k acc b : Nat} (hk : k ≤ 9) (h : acc < 128 ^ k) (h9 : k = 9 → b ≤ 1) :
    bits .or .u64 (acc : Int) (IntKind.u64.wrap ((b : Int) % 128 * 2 ^ (7 * k))) = (put7 k acc b : Int) := by
  have h1 := put7_le hk h h9
  have h2 := part_le hk h h9
  have h3 : acc ≤ 18446744073709551615 := by unfold put7 at h1; omega
  rw [part_cast, wrap_nat h2, u64_or_nat _ _ (by omega) (by omega)]
  have e : acc ||| b % 128 * 128 ^ k = put7 k acc b := by
    unfold put7
    rw [pow_seven, Nat.mul_comm, Nat.or_comm, ← Nat.two_pow_add_eq_or_of_lt (by rw [← pow_seven]; exact h), Nat.add_comm]
  rw [e]
theorem and127_u8 {b : Nat} (h : b ≤ 255) : bits .and .u8 (b : Int) 127 = (b : Int) % 128 := by
  have h1 := u8_and_nat b 127 (by omega) (by decide)
  have e : b &&& 127 = b % 128 := Nat.and_two_pow_sub_one_eq_mod b 7
  rw [e] at h1
  exact h1.trans (by omega)
theorem unf_odd {u : Nat} (h : u % 2 = 1) : unf u = -((u : Int) / 2) - 1 := by unfold unf; rw [if_pos h]; omega
theorem unf_even {u : Nat} (h : ¬ u % 2 = 1) : unf u = (u : Int) / 2 := by unfold unf; rw [if_neg h]; omega
theorem unf_bd {u : Nat} (h : u ≤ 18446744073709551615) : -9223372036854775808 ≤ unf u ∧ unf u ≤ 9223372036854775807 := by unfold unf; split <;> omega
/-- impl's way back: 'int64(u>>1) ^ -int64(u&1)'. -/
theorem and1 {u : Nat} (h : u ≤ 18446744073709551615) : bits .and .u64 (u : Int) 1 = (u : Int) % 2 := by
  have h1 := u64_and_nat u 1 (by omega) (by decide)
  rw [Nat.and_one_is_mod] at h1
  exact h1.trans (by omega)
end Go.Proofs.YtedahdncincgjaaGreatDoor
/- The answers of GetNum, and what it comes to. -/
namespace Go.Proofs.YtedahdncincgjaaGreatDoor
open Go.RowKit
/-- An answer of type NumOut. -/
def numV (r : Int × Int × Int) : Value := .agg #[.int .i64 r.1, .int .i64 r.2.1, .int .i64 r.2.2]
end Go.Proofs.YtedahdncincgjaaGreatDoor
/- A number's bytes, read and written: what is read is the bytes of that number, and of none other. Nothing here names a program. -/
namespace Go.Proofs.YtedahdncincgjaaGreatDoor
open Go.RowKit Go.PlainAid
set_option linter.unusedVariables false
theorem unf_fold {n : Int} : unf (foldN n) = n := by
  by_cases h : n < 0
  · have e := fold_neg h
    unfold unf
    rw [if_pos (by omega)]
    omega
  · have e := fold_pos (n := n) (by omega)
    unfold unf
    rw [if_neg (by omega)]
    omega
/-- The bytes l stand at place a of s. -/
def At (s : ByteArray) (a : Nat) (l : List UInt8) : Prop := a + l.length ≤ s.size ∧ ∀ k (h : k < l.length), byte s (a + k) = (l[k]).toNat
theorem At.tail {s : ByteArray} {a : Nat} {b : UInt8} {l : List UInt8} (h : At s a (b :: l)) : byte s a = b.toNat ∧ a < s.size ∧ At s (a + 1) l := by
  obtain ⟨h1, h2⟩ := h
  simp only [List.length_cons] at h1
  have h0 := h2 0 (by simp)
  rw [Nat.add_zero] at h0
  refine ⟨h0, by omega, by omega, fun k hk => ?_⟩
  have := h2 (k + 1) (by simpa using hk)
  rw [show a + 1 + k = a + (k + 1) by omega]
  simpa using this
theorem small_back {x : Nat} (h : x < 256) : (UInt8.ofNat x).toNat = x := by
  rw [UInt8.toNat_ofNat_of_lt' (by simpa [UInt8.size] using h)]
theorem pow_nine : (128 : Nat) ^ 9 = 9223372036854775808 := by decide
theorem nine_le {u k acc m : Nat} (hm : acc + u * 128 ^ k = m) (hM : m ≤ 18446744073709551615) (hk : k = 9) : u ≤ 1 := by
  subst hk
  rw [pow_nine] at hm
  omega
/-- Read on from the k-th byte. -/
theorem scan_enc (s : ByteArray) (a m : Nat) (hM : m ≤ 18446744073709551615) : ∀ f k u acc, f + k = 10 → At s (a + k) (enc u) → acc + u * 128 ^ k = m → (0 < k → 0 < u) →
    scan s a f k acc = (unf m, (a : Int) + k + (enc u).length, 0) := by
  intro f
  induction f with
  | zero =>
    intro k u acc hf _ hm h0
    obtain rfl : k = 10 := by omega
    have e : (128 : Nat) ^ 10 = 1180591620717411303424 := by decide
    rw [e] at hm
    have := h0 (by omega)
    omega
  | succ f ih =>
    intro k u acc hf hat hm h0
    unfold scan
    by_cases hu : u < 128
    · rw [enc_last hu] at hat ⊢
      obtain ⟨hb, hlt, _⟩ := hat.tail
      rw [small_back (by omega)] at hb
      rw [if_neg (by omega), hb, if_neg (by intro h; have := nine_le hm hM h.1; omega), if_pos hu, if_neg (by omega)]
      have e : put7 k acc u = m := by unfold put7; rw [Nat.mod_eq_of_lt hu]; exact hm
      rw [e]
      simp
    · rw [enc_more (by omega)] at hat ⊢
      obtain ⟨hb, hlt, htl⟩ := hat.tail
      rw [small_back (by omega)] at hb
      have h9 : ¬ k = 9 := by intro h; have := nine_le hm hM h; omega
      rw [if_neg (by omega), hb, if_neg (by omega), if_neg (by omega)]
      have e1 : put7 k acc (u % 128 + 128) + u / 128 * 128 ^ (k + 1) = m := by
        unfold put7
        have e2 : (u % 128 + 128) % 128 = u % 128 := by omega
        have e3 : u / 128 * 128 ^ (k + 1) = u / 128 * 128 * 128 ^ k := by rw [Nat.pow_succ, Nat.mul_comm (128 ^ k), Nat.mul_assoc]
        have e4 : u = u / 128 * 128 + u % 128 := by omega
        rw [e2, e3, ← hm]
        conv => rhs; rw [e4, Nat.add_mul]
        omega
      rw [ih (k + 1) (u / 128) _ (by omega) (by rw [← Nat.add_assoc]; exact htl) e1 (fun _ => by omega)]
      simp only [List.length_cons]
      congr 2
      omega
theorem fold_unf {u : Nat} : foldN (unf u) = u := by
  by_cases h : u % 2 = 1
  · rw [unf_odd h]
    unfold foldN
    rw [if_pos (by omega)]
    omega
  · rw [unf_even h]
    unfold foldN
    rw [if_neg (by omega)]
    omega
theorem at_cons {s : ByteArray} {a : Nat} {b : UInt8} {l : List UInt8} (h1 : a < s.size) (h2 : byte s a = b.toNat) (h3 : At s (a + 1) l) : At s a (b :: l) := by
  refine ⟨by have := h3.1; simp only [List.length_cons]; omega, fun k hk => ?_⟩
  cases k with
  | zero => rw [Nat.add_zero]; simpa using h2
  | succ k =>
    have := h3.2 k (by simpa using hk)
    rw [show a + (k + 1) = a + 1 + k by omega]
    simpa using this
theorem at_nil {s : ByteArray} {a : Nat} (h : a ≤ s.size) : At s a [] := ⟨by simpa using h, fun k hk => by simp at hk⟩
/-- What is read is the bytes of a number, and of none other. -/
theorem scan_canon (s : ByteArray) (a : Nat) (n p : Int) : ∀ f k acc, f + k = 10 → acc < 128 ^ k → scan s a f k acc = (n, p, 0) →
    ∃ u, (0 < k → 0 < u) ∧ At s (a + k) (enc u) ∧ acc + u * 128 ^ k ≤ 18446744073709551615 ∧ n = unf (acc + u * 128 ^ k) ∧ p = (a : Int) + k + (enc u).length := by
  intro f
  induction f with
  | zero => intro k acc _ _ h; simp [scan] at h
  | succ f ih =>
    intro k acc hf hacc h
    unfold scan at h
    have hb255 := byte_le s (a + k)
    by_cases h1 : s.size ≤ a + k
    · rw [if_pos h1] at h; simp at h
    · rw [if_neg h1] at h
      by_cases h2 : k = 9 ∧ 1 < byte s (a + k)
      · rw [if_pos h2] at h; simp at h
      · rw [if_neg h2] at h
        by_cases h3 : byte s (a + k) < 128
        · rw [if_pos h3] at h
          by_cases h4 : byte s (a + k) = 0 ∧ 0 < k
          · rw [if_pos h4] at h; simp at h
          · rw [if_neg h4] at h
            simp only [Prod.mk.injEq] at h
            have hle := put7_le (k := k) (acc := acc) (b := byte s (a + k)) (by omega) hacc (by omega)
            have e : put7 k acc (byte s (a + k)) = acc + byte s (a + k) * 128 ^ k := by unfold put7; rw [Nat.mod_eq_of_lt h3]
            rw [e] at hle h
            refine ⟨byte s (a + k), by omega, ?_, hle, h.1.symm, ?_⟩
            · rw [enc_last h3]
              exact at_cons (by omega) (by rw [small_back (by omega)]) (at_nil (by omega))
            · rw [enc_last h3]; simp; omega
        · rw [if_neg h3] at h
          obtain ⟨u, hu, hat, hle, hn, hp⟩ := ih (k + 1) _ (by omega) (put7_lt hacc) h
          have hu0 := hu (by omega)
          have e3 : u * 128 ^ (k + 1) = u * 128 * 128 ^ k := by rw [Nat.pow_succ, Nat.mul_comm (128 ^ k), Nat.mul_assoc]
          have e1 : put7 k acc (byte s (a + k)) + u * 128 ^ (k + 1) = acc + (byte s (a + k) - 128 + u * 128) * 128 ^ k := by
            unfold put7
            have e2 : byte s (a + k) % 128 = byte s (a + k) - 128 := by omega
            rw [e2, e3, Nat.add_mul]
            omega
          rw [e1] at hle hn
          have hbig : 128 ≤ byte s (a + k) - 128 + u * 128 := by omega
          refine ⟨byte s (a + k) - 128 + u * 128, by omega, ?_, hle, hn, ?_⟩
          · rw [enc_more hbig]
            refine at_cons (by omega) ?_ ?_
            · rw [small_back (by omega)]; omega
            · have : (byte s (a + k) - 128 + u * 128) / 128 = u := by omega
              rw [this]
              rw [← Nat.add_assoc] at hat
              exact hat
          · rw [enc_more hbig, hp]
            have : (byte s (a + k) - 128 + u * 128) / 128 = u := by omega
            rw [this]
            simp only [List.length_cons]
            omega
/-- The bytes of a number of int64. -/
def encI (n : Int) : List UInt8 := enc (foldN n)
theorem scan_yes {s : ByteArray} {a : Nat} {n : Int} (h1 : -9223372036854775808 ≤ n) (h2 : n ≤ 9223372036854775807) (hat : At s a (encI n)) : scan s a 10 0 0 = (n, (a : Int) + (encI n).length, 0) := by
  have := scan_enc s a (foldN n) (fold_le h1 h2) 10 0 (foldN n) 0 rfl (by simpa [encI] using hat) (by simp) (by omega)
  rw [this, unf_fold]
  simp [encI]
theorem scan_of {s : ByteArray} {a : Nat} {n p c : Int} (h : scan s a 10 0 0 = (n, p, c)) (hc : c = 0) : At s a (encI n) ∧ p = (a : Int) + (encI n).length ∧ -9223372036854775808 ≤ n ∧ n ≤ 9223372036854775807 := by
  subst hc
  obtain ⟨u, _, hat, hle, hn, hp⟩ := scan_canon s a n p 10 0 0 rfl (by decide) h
  simp only [Nat.pow_zero, Nat.mul_one, Nat.zero_add, Nat.add_zero] at hat hle hn hp
  have e : foldN n = u := by rw [hn, fold_unf]
  have hb := unf_bd hle
  rw [← hn] at hb
  refine ⟨by rw [encI, e]; exact hat, by rw [encI, e, hp]; simp, hb.1, hb.2⟩
theorem scan_code (s : ByteArray) (a : Nat) : (scan s a 10 0 0).2.2 = 0 ∨ ((scan s a 10 0 0).1 = 0 ∧ (scan s a 10 0 0).2.1 = 0) := by
  have key : ∀ f k acc, (scan s a f k acc).2.2 = 0 ∨ ((scan s a f k acc).1 = 0 ∧ (scan s a f k acc).2.1 = 0) := by
    intro f
    induction f with
    | zero => intro k acc; exact .inr ⟨rfl, rfl⟩
    | succ f ih =>
      intro k acc
      unfold scan
      repeat' split
      all_goals first | exact .inr ⟨rfl, rfl⟩ | exact .inl rfl | exact ih _ _
  exact key _ _ _
def alN (x : Ac) : Int := if x.al then 1 else 0
/-- The bytes of an ace, of some, of a list. -/
def aceBs (x : Ac) : List UInt8 := encI (alN x) ++ (encI x.wh ++ (encI x.id ++ (encI x.fl ++ encI x.ma)))
def acesBs (l : List Ac) : List UInt8 := l.flatMap aceBs
def nbB (l : List Ac) : List UInt8 := encI (l.length : Int) ++ acesBs l
theorem encI_len {n : Int} (h1 : -9223372036854775808 ≤ n) (h2 : n ≤ 9223372036854775807) : (encI n).length ≤ 10 := enc_ten (fold_le h1 h2)
theorem aceBs_len {x : Ac} (h : aceB x = true) : (aceBs x).length ≤ 50 := by
  obtain ⟨h1, h2, _, h4, h5⟩ := aceB_iff.1 h
  have a0 : (encI (alN x)).length ≤ 10 := encI_len (by unfold alN; split <;> omega) (by unfold alN; split <;> omega)
  have a1 := encI_len (n := x.wh) (by omega) (by omega)
  have a2 := encI_len (n := x.id) (by omega) (by omega)
  have a3 := encI_len (n := x.fl) (by omega) (by omega)
  have a4 := encI_len (n := x.ma) (by omega) (by omega)
  simp only [aceBs, List.length_append]
  omega
theorem acesBs_app (l k : List Ac) : acesBs (l ++ k) = acesBs l ++ acesBs k := by simp [acesBs]
theorem acesBs_one (x : Ac) : acesBs [x] = aceBs x := by simp [acesBs]
theorem acesBs_cons (x : Ac) (l : List Ac) : acesBs (x :: l) = aceBs x ++ acesBs l := rfl
theorem acesBs_len (l : List Ac) (h : ∀ x ∈ l, aceB x = true) : (acesBs l).length ≤ 50 * l.length := by
  induction l with
  | nil => simp [acesBs]
  | cons x l ih =>
    have h1 := aceBs_len (h x (by simp))
    have h2 := ih (fun y hy => h y (by simp [hy]))
    rw [acesBs_cons, List.length_append, List.length_cons]
    omega
theorem nbB_len {l : List Ac} (h : acesB l = true) : (nbB l).length ≤ 1700 := by
  have h1 := acesBs_len l (fun x hx => aces_mem h hx)
  have h2 := aces_len h
  have h3 := encI_len (n := (l.length : Int)) (by omega) (by omega)
  simp only [nbB, List.length_append]
  omega
theorem at_app {s : ByteArray} {a : Nat} {l m : List UInt8} : At s a (l ++ m) ↔ At s a l ∧ At s (a + l.length) m := by
  constructor
  · rintro ⟨h1, h2⟩
    rw [List.length_append] at h1
    refine ⟨⟨by omega, fun k hk => ?_⟩, ⟨by omega, fun k hk => ?_⟩⟩
    · rw [h2 k (by rw [List.length_append]; omega), List.getElem_append_left hk]
    · rw [Nat.add_assoc, h2 (l.length + k) (by rw [List.length_append]; omega), List.getElem_append_right (by omega)]
      simp
  · rintro ⟨⟨h1, h2⟩, h3, h4⟩
    refine ⟨by rw [List.length_append]; omega, fun k hk => ?_⟩
    by_cases e : k < l.length
    · rw [h2 k e, List.getElem_append_left e]
    · rw [List.length_append] at hk
      have := h4 (k - l.length) (by omega)
      rw [show a + l.length + (k - l.length) = a + k by omega] at this
      rw [this, List.getElem_append_right (by omega)]
theorem at_all {s : ByteArray} {l : List UInt8} (h : At s 0 l) (hz : l.length = s.size) : s.data.toList = l := by
  have hl : s.data.toList.length = s.size := (Lib.size_eq s).symm
  apply List.ext_getElem
  · omega
  · intro i h1 h2
    have := h.2 i h2
    rw [Nat.zero_add] at this
    unfold byte at this
    rw [dif_pos (by omega)] at this
    have e : s.data.toList[i] = s[i]'(by omega) := by rw [Array.getElem_toList]; rfl
    rw [e]
    exact UInt8.toNat_inj.1 this
theorem at_self {s : ByteArray} {l : List UInt8} (h : s.data.toList = l) : At s 0 l := by
  have hl : s.data.toList.length = s.size := (Lib.size_eq s).symm
  subst h
  refine ⟨by omega, fun k hk => ?_⟩
  rw [Nat.zero_add]
  unfold byte
  rw [dif_pos (by omega)]
  have e : s.data.toList[k] = s[k]'(by omega) := by rw [Array.getElem_toList]; rfl
  rw [e]
/-- A number read at a place, and the place behind it. -/
def rd1 (s : ByteArray) (a : Nat) : Option (Int × Nat) := if (scan s a 10 0 0).2.2 = 0 then some ((scan s a 10 0 0).1, (scan s a 10 0 0).2.1.toNat) else none
theorem rd1_yes {s : ByteArray} {a : Nat} {n : Int} (h1 : -9223372036854775808 ≤ n) (h2 : n ≤ 9223372036854775807) (hat : At s a (encI n)) : rd1 s a = some (n, a + (encI n).length) := by
  unfold rd1
  rw [scan_yes h1 h2 hat]
  simp
  omega
theorem rd1_of {s : ByteArray} {a p : Nat} {n : Int} (h : rd1 s a = some (n, p)) : At s a (encI n) ∧ p = a + (encI n).length := by
  unfold rd1 at h
  split at h
  · rename_i hc
    simp only [Option.some.injEq, Prod.mk.injEq] at h
    obtain ⟨h1, h2, h3, h4⟩ := scan_of (s := s) (a := a) (n := (scan s a 10 0 0).1) (p := (scan s a 10 0 0).2.1) (c := (scan s a 10 0 0).2.2) rfl hc
    rw [h.1] at h1 h2
    rw [h2] at h
    refine ⟨h1, ?_⟩
    have := h.2
    omega
  · cases h
/-- An ace read. -/
def rdAc (s : ByteArray) (a : Nat) : Option (Ac × Nat) := match rd1 s a with
  | none => none
  | some (n0, p0) => match rd1 s p0 with
    | none => none
    | some (n1, p1) => match rd1 s p1 with
      | none => none
      | some (n2, p2) => match rd1 s p2 with
        | none => none
        | some (n3, p3) => match rd1 s p3 with
          | none => none
          | some (n4, p4) => if (n0 = 0 ∨ n0 = 1) ∧ aceB ⟨n0 == 1, n1, n2, n3, n4⟩ = true then some (⟨n0 == 1, n1, n2, n3, n4⟩, p4) else none
theorem rdAc_yes {s : ByteArray} {a : Nat} {x : Ac} (h : aceB x = true) (hat : At s a (aceBs x)) : rdAc s a = some (x, a + (aceBs x).length) := by
  obtain ⟨h1, h2, _, h4, h5⟩ := aceB_iff.1 h
  unfold aceBs at hat
  rw [at_app] at hat
  obtain ⟨t0, hat⟩ := hat
  rw [at_app] at hat
  obtain ⟨t1, hat⟩ := hat
  rw [at_app] at hat
  obtain ⟨t2, hat⟩ := hat
  rw [at_app] at hat
  obtain ⟨t3, t4⟩ := hat
  have r0 := rd1_yes (n := alN x) (by unfold alN; split <;> omega) (by unfold alN; split <;> omega) t0
  have r1 := rd1_yes (n := x.wh) (by omega) (by omega) t1
  have r2 := rd1_yes (n := x.id) (by omega) (by omega) t2
  have r3 := rd1_yes (n := x.fl) (by omega) (by omega) t3
  have r4 := rd1_yes (n := x.ma) (by omega) (by omega) t4
  have e0 : (alN x == 1) = x.al := by unfold alN; cases x.al <;> rfl
  have e1 : alN x = 0 ∨ alN x = 1 := by unfold alN; cases x.al <;> simp
  unfold rdAc
  simp only [r0, r1, r2, r3, r4, e0]
  rw [if_pos ⟨e1, h⟩]
  simp only [aceBs, List.length_append, Option.some.injEq, Prod.mk.injEq, true_and]
  omega
theorem rdAc_of {s : ByteArray} {a p : Nat} {x : Ac} (h : rdAc s a = some (x, p)) : aceB x = true ∧ At s a (aceBs x) ∧ p = a + (aceBs x).length := by
  unfold rdAc at h
  split at h
  · cases h
  · rename_i n0 p0 e0
    split at h
    · cases h
    · rename_i n1 p1 e1
      split at h
      · cases h
      · rename_i n2 p2 e2
        split at h
        · cases h
        · rename_i n3 p3 e3
          split at h
          · cases h
          · rename_i n4 p4 e4
            split at h
            · rename_i hc
              simp only [Option.some.injEq, Prod.mk.injEq] at h
              obtain ⟨rfl, rfl⟩ := h
              obtain ⟨t0, q0⟩ := rd1_of e0
              obtain ⟨t1, q1⟩ := rd1_of e1
              obtain ⟨t2, q2⟩ := rd1_of e2
              obtain ⟨t3, q3⟩ := rd1_of e3
              obtain ⟨t4, q4⟩ := rd1_of e4
              have en : alN ⟨n0 == 1, n1, n2, n3, n4⟩ = n0 := by
                rcases hc.1 with h0 | h0 <;> subst h0 <;> rfl
              refine ⟨hc.2, ?_, ?_⟩
              · unfold aceBs
                rw [en]
                subst q0 q1 q2 q3
                exact at_app.2 ⟨t0, at_app.2 ⟨t1, at_app.2 ⟨t2, at_app.2 ⟨t3, t4⟩⟩⟩⟩
              · simp only [aceBs, List.length_append, en]
                omega
            · cases h
/-- Some aces read, one behind the other. -/
def rdAcs (s : ByteArray) : Nat → Nat → Option (List Ac × Nat)
  | 0, a => some ([], a)
  | c + 1, a => match rdAc s a with
    | none => none
    | some (x, p) => match rdAcs s c p with
      | none => none
      | some (l, q) => some (x :: l, q)
theorem rdAcs_yes {s : ByteArray} : ∀ (l : List Ac) (a : Nat), (∀ x ∈ l, aceB x = true) → At s a (acesBs l) → rdAcs s l.length a = some (l, a + (acesBs l).length) := by
  intro l
  induction l with
  | nil => intro a _ _; rfl
  | cons x l ih =>
    intro a h hat
    rw [acesBs_cons, at_app] at hat
    have e1 := rdAc_yes (h x (by simp)) hat.1
    have e2 := ih _ (fun y hy => h y (by simp [hy])) hat.2
    rw [List.length_cons, rdAcs, e1]
    simp only [e2, acesBs_cons, List.length_append, Option.some.injEq, Prod.mk.injEq, true_and]
    omega
theorem rdAcs_of {s : ByteArray} : ∀ (c a : Nat) (l : List Ac) (p : Nat), a ≤ s.size → rdAcs s c a = some (l, p) → l.length = c ∧ (∀ x ∈ l, aceB x = true) ∧ At s a (acesBs l) ∧ p = a + (acesBs l).length := by
  intro c
  induction c with
  | zero =>
    intro a l p ha h
    simp only [rdAcs, Option.some.injEq, Prod.mk.injEq] at h
    obtain ⟨rfl, rfl⟩ := h
    exact ⟨rfl, by simp, at_nil ha, by simp [acesBs]⟩
  | succ c ih =>
    intro a l p ha h
    rw [rdAcs] at h
    split at h
    · cases h
    · rename_i x q e
      split at h
      · cases h
      · rename_i l' p' e'
        simp only [Option.some.injEq, Prod.mk.injEq] at h
        obtain ⟨rfl, rfl⟩ := h
        obtain ⟨h1, h2, h3⟩ := rdAc_of e
        obtain ⟨g1, g2, g3, g4⟩ := ih q l' p' (by have := h2.1; omega) e'
        refine ⟨by simp [g1], fun y hy => ?_, ?_, ?_⟩
        · rcases List.mem_cons.1 hy with rfl | hy
          · exact h1
          · exact g2 y hy
        · rw [acesBs_cons, at_app]
          subst h3
          exact ⟨h2, g3⟩
        · rw [acesBs_cons, List.length_append]
          omega
/-- A list read of a whole text. -/
def rdNb (s : ByteArray) : Option (List Ac) := match rd1 s 0 with
  | none => none
  | some (c, p) => if c < 0 ∨ 32 < c then none else match rdAcs s c.toNat p with
    | none => none
    | some (l, q) => if q = s.size then some l else none
theorem allA_mem {l : List Ac} (h : ∀ x ∈ l, aceB x = true) : ∀ k, k ≤ l.length → allA l k = true := by
  intro k
  induction k with
  | zero => intro _; rfl
  | succ k ih =>
    intro hk
    refine allA_next (ih (by omega)) ?_
    rw [acAt_get (by omega)]
    exact h _ (List.getElem_mem _)
theorem rdNb_iff (s : ByteArray) (l : List Ac) : rdNb s = some l ↔ acesB l = true ∧ s.data.toList = nbB l := by
  constructor
  · intro h
    unfold rdNb at h
    split at h
    · cases h
    · rename_i c p e
      split at h
      · cases h
      · rename_i hc
        split at h
        · cases h
        · rename_i l' q e'
          split at h
          · rename_i hq
            simp only [Option.some.injEq] at h
            subst h
            obtain ⟨t0, q0⟩ := rd1_of e
            obtain ⟨g1, g2, g3, g4⟩ := rdAcs_of _ _ _ _ (by have := t0.1; omega) e'
            have ec : (l'.length : Int) = c := by omega
            refine ⟨aces_yes (by omega) (allA_mem g2 _ (Nat.le_refl _)), at_all ?_ ?_⟩
            · unfold nbB
              rw [at_app, ec]
              subst q0
              exact ⟨t0, g3⟩
            · simp only [nbB, List.length_append, ec]
              omega
          · cases h
  · rintro ⟨h1, h2⟩
    have hat := at_self h2
    have hz : s.size = (nbB l).length := by rw [Lib.size_eq, h2]
    unfold nbB at hat hz
    rw [at_app] at hat
    have hl := aces_len h1
    have r0 := rd1_yes (n := (l.length : Int)) (by omega) (by omega) hat.1
    have r1 := rdAcs_yes l _ (fun x hx => aces_mem h1 hx) hat.2
    unfold rdNb
    rw [r0]
    simp only [Int.toNat_natCast]
    rw [if_neg (by omega), r1]
    simp only
    rw [if_pos (by rw [hz, List.length_append]; omega)]
/-- The reader of the specification: the place, and whether something was wrong. -/
def rs1 (s : ByteArray) (σ : Nat × Bool) : Int × (Nat × Bool) := if σ.2 = true ∨ (scan s σ.1 10 0 0).2.2 ≠ 0 then (0, (σ.1, true)) else ((scan s σ.1 10 0 0).1, ((scan s σ.1 10 0 0).2.1.toNat, false))
theorem rs1_yes {s : ByteArray} {a : Nat} {n : Int} (h1 : -9223372036854775808 ≤ n) (h2 : n ≤ 9223372036854775807) (hat : At s a (encI n)) : rs1 s (a, false) = (n, (a + (encI n).length, false)) := by
  unfold rs1
  simp only []
  rw [scan_yes h1 h2 hat]
  rw [if_neg (by simp)]
  simp
  omega
def rsAc (s : ByteArray) (σ : Nat × Bool) : Ac × (Nat × Bool) :=
  (⟨(rs1 s σ).1 == 1, (rs1 s (rs1 s σ).2).1, (rs1 s (rs1 s (rs1 s σ).2).2).1, (rs1 s (rs1 s (rs1 s (rs1 s σ).2).2).2).1, (rs1 s (rs1 s (rs1 s (rs1 s (rs1 s σ).2).2).2).2).1⟩, (rs1 s (rs1 s (rs1 s (rs1 s (rs1 s σ).2).2).2).2).2)
theorem rsAc_yes {s : ByteArray} {a : Nat} {x : Ac} (h : aceB x = true) (hat : At s a (aceBs x)) : rsAc s (a, false) = (x, (a + (aceBs x).length, false)) := by
  obtain ⟨h1, h2, _, h4, h5⟩ := aceB_iff.1 h
  unfold aceBs at hat
  rw [at_app] at hat
  obtain ⟨t0, hat⟩ := hat
  rw [at_app] at hat
  obtain ⟨t1, hat⟩ := hat
  rw [at_app] at hat
  obtain ⟨t2, hat⟩ := hat
  rw [at_app] at hat
  obtain ⟨t3, t4⟩ := hat
  have r0 := rs1_yes (n := alN x) (by unfold alN; split <;> omega) (by unfold alN; split <;> omega) t0
  have r1 := rs1_yes (n := x.wh) (by omega) (by omega) t1
  have r2 := rs1_yes (n := x.id) (by omega) (by omega) t2
  have r3 := rs1_yes (n := x.fl) (by omega) (by omega) t3
  have r4 := rs1_yes (n := x.ma) (by omega) (by omega) t4
  have e0 : (alN x == 1) = x.al := by unfold alN; cases x.al <;> rfl
  unfold rsAc
  simp only [r0, r1, r2, r3, r4, e0]
  simp only [aceBs, List.length_append, Prod.mk.injEq, true_and, and_true]
  omega
/-- The aces that it has read behind k rounds, and where it stands. -/
def rsK (s : ByteArray) (σ : Nat × Bool) : Nat → List Ac × (Nat × Bool)
  | 0 => ([], σ)
  | k + 1 => ((rsK s σ k).1 ++ [(rsAc s (rsK s σ k).2).1], (rsAc s (rsK s σ k).2).2)
theorem rsK_len (s : ByteArray) (σ : Nat × Bool) (k : Nat) : (rsK s σ k).1.length = k := by
  induction k with
  | zero => rfl
  | succ k ih => simp [rsK, ih]
theorem rsK_yes {s : ByteArray} {l : List Ac} {a : Nat} (h : ∀ x ∈ l, aceB x = true) (hat : At s a (acesBs l)) : ∀ k, k ≤ l.length → rsK s (a, false) k = (l.take k, (a + (acesBs (l.take k)).length, false)) := by
  intro k
  induction k with
  | zero => intro _; simp [rsK, acesBs]
  | succ k ih =>
    intro hk
    have hlt : k < l.length := by omega
    have e := ih (by omega)
    have hs : l = l.take k ++ (l[k] :: l.drop (k + 1)) := by
      rw [List.getElem_cons_drop]
      exact (List.take_append_drop k l).symm
    have hat2 : At s (a + (acesBs (l.take k)).length) (aceBs l[k]) := by
      rw [hs, acesBs_app, at_app, acesBs_cons, at_app] at hat
      have := hat.2.1
      simpa using this
    have r := rsAc_yes (h _ (List.getElem_mem hlt)) hat2
    rw [rsK, e]
    simp only [r]
    rw [← List.take_append_getElem hlt, acesBs_app, acesBs_one, List.length_append, Nat.add_assoc]
/-- Of the bytes of a right list. -/
theorem rs_all {s : ByteArray} {l : List Ac} (h1 : acesB l = true) (h2 : s.data.toList = nbB l) : (rs1 s (0, false)).1 = (l.length : Int) ∧ ∀ k, k ≤ l.length → (rsK s (rs1 s (0, false)).2 k).1 = l.take k ∧ (rsK s (rs1 s (0, false)).2 k).2.2 = false := by
  have hat := at_self h2
  unfold nbB at hat
  rw [at_app] at hat
  have hl := aces_len h1
  have r0 := rs1_yes (n := (l.length : Int)) (by omega) (by omega) hat.1
  refine ⟨by rw [r0], fun k hk => ?_⟩
  rw [r0]
  simp only
  rw [rsK_yes (fun x hx => aces_mem h1 hx) hat.2 k hk]
  exact ⟨rfl, rfl⟩
end Go.Proofs.YtedahdncincgjaaGreatDoor
