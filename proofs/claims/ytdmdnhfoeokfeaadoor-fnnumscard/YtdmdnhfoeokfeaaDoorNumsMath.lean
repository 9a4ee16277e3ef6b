/- Plain mathematics: what PutNum writes, GetNum reads; cut short it is short; likewise a text. Nothing here names a program. -/
import Derived.Test.YtdmdnhfoeokfeaaDoorNumMath
import Derived.Test.YtdmdnhfoeokfeaaDoorNumV
import Derived.Test.YtdmdnhfoeokfeaaDoorGetTextI
import Derived.Test.YtdmdnhfoeokfeaaDoorPutTextWalks
namespace Go.Proofs.YtdmdnhfoeokfeaaDoor
open Go.RowKit
set_option linter.unusedVariables false
theorem unf_fold {n : Int} : unf (foldN n) = n := by
  by_cases h : n < 0
  · have e := fold_neg h
    unfold unf
    rw [if_pos (by omega)]
    omega
  · have e := fold_pos (n := n) (by omega)
    unfold unf
    rw [if_neg (by omega)]
    omega
/-- The bytes l stand at place a of s. -/
def At (s : ByteArray) (a : Nat) (l : List UInt8) : Prop := a + l.length ≤ s.size ∧ ∀ k (h : k < l.length), byte s (a + k) = (l[k]).toNat
theorem At.tail {s : ByteArray} {a : Nat} {b : UInt8} {l : List UInt8} (h : At s a (b :: l)) : byte s a = b.toNat ∧ a < s.size ∧ At s (a + 1) l := by
  obtain ⟨h1, h2⟩ := h
  simp only [List.length_cons] at h1
  have h0 := h2 0 (by simp)
  rw [Nat.add_zero] at h0
  refine ⟨h0, by omega, by omega, fun k hk => ?_⟩
  have := h2 (k + 1) (by simpa using hk)
  rw [show a + 1 + k = a + (k + 1) by omega]
  simpa using this
theorem small_back {x : Nat} (h : x < 256) : (UInt8.ofNat x).toNat = x := by
  rw [UInt8.toNat_ofNat_of_lt' (by simpa [UInt8.size] using h)]
theorem pow_nine : (128 : Nat) ^ 9 = 9223372036854775808 := by decide
theorem nine_le {u k acc m : Nat} (hm : acc + u * 128 ^ k = m) (hM : m ≤ 18446744073709551615) (hk : k = 9) : u ≤ 1 := by
  subst hk
  rw [pow_nine] at hm
  omega
/-- Read on from the k-th byte. -/
theorem scan_enc (s : ByteArray) (a m : Nat) (hM : m ≤ 18446744073709551615) : ∀ f k u acc, f + k = 10 → At s (a + k) (enc u) → acc + u * 128 ^ k = m → (0 < k → 0 < u) →
    scan s a f k acc = (unf m, (a : Int) + k + (enc u).length, 0) := by
  intro f
  induction f with
  | zero =>
    intro k u acc hf _ hm h0
    obtain rfl : k = 10 := by omega
    have e : (128 : Nat) ^ 10 = 1180591620717411303424 := by decide
    rw [e] at hm
    have := h0 (by omega)
    omega
  | succ f ih =>
    intro k u acc hf hat hm h0
    unfold scan
    by_cases hu : u < 128
    · rw [enc_last hu] at hat ⊢
      obtain ⟨hb, hlt, _⟩ := hat.tail
      rw [small_back (by omega)] at hb
      rw [if_neg (by omega), hb, if_neg (by intro h; have := nine_le hm hM h.1; omega), if_pos hu, if_neg (by omega)]
      have e : put7 k acc u = m := by unfold put7; rw [Nat.mod_eq_of_lt hu]; exact hm
      rw [e]
      simp
    · rw [enc_more (by omega)] at hat ⊢
      obtain ⟨hb, hlt, htl⟩ := hat.tail
      rw [small_back (by omega)] at hb
      have h9 : ¬ k = 9 := by intro h; have := nine_le hm hM h; omega
      rw [if_neg (by omega), hb, if_neg (by omega), if_neg (by omega)]
      have e1 : put7 k acc (u % 128 + 128) + u / 128 * 128 ^ (k + 1) = m := by
        unfold put7
        have e2 : (u % 128 + 128) % 128 = u % 128 := by omega
        have e3 : u / 128 * 128 ^ (k + 1) = u / 128 * 128 * 128 ^ k := by rw [Nat.pow_succ, Nat.mul_comm (128 ^ k), Nat.mul_assoc]
        have e4 : u = u / 128 * 128 + u % 128 := by omega
        rw [e2, e3, ← hm]
        conv => rhs; rw [e4, Nat.add_mul]
        omega
      rw [ih (k + 1) (u / 128) _ (by omega) (by rw [← Nat.add_assoc]; exact htl) e1 (fun _ => by omega)]
      simp only [List.length_cons]
      congr 2
      omega
/-- Cut ahead of its last byte it is short. -/
theorem scan_cut (s : ByteArray) (a m : Nat) (hM : m ≤ 18446744073709551615) : ∀ f k u acc, f + k = 10 → At s (a + k) (enc u).dropLast → a + k + (enc u).dropLast.length = s.size → acc + u * 128 ^ k = m → (0 < k → 0 < u) →
    scan s a f k acc = (0, 0, 4) := by
  intro f
  induction f with
  | zero =>
    intro k u acc hf _ _ hm h0
    obtain rfl : k = 10 := by omega
    have e : (128 : Nat) ^ 10 = 1180591620717411303424 := by decide
    rw [e] at hm
    have := h0 (by omega)
    omega
  | succ f ih =>
    intro k u acc hf hat hsz hm h0
    unfold scan
    by_cases hu : u < 128
    · rw [enc_last hu] at hsz
      simp at hsz
      rw [if_pos (by omega)]
    · have hne : enc (u / 128) ≠ [] := by intro e; have := enc_pos (u / 128); rw [e] at this; simp at this
      rw [enc_more (by omega), List.dropLast_cons_of_ne_nil hne] at hat hsz
      obtain ⟨hb, hlt, htl⟩ := hat.tail
      rw [small_back (by omega)] at hb
      have h9 : ¬ k = 9 := by intro h; have := nine_le hm hM h; omega
      rw [if_neg (by omega), hb, if_neg (by omega), if_neg (by omega)]
      have e1 : put7 k acc (u % 128 + 128) + u / 128 * 128 ^ (k + 1) = m := by
        unfold put7
        have e2 : (u % 128 + 128) % 128 = u % 128 := by omega
        have e3 : u / 128 * 128 ^ (k + 1) = u / 128 * 128 * 128 ^ k := by rw [Nat.pow_succ, Nat.mul_comm (128 ^ k), Nat.mul_assoc]
        have e4 : u = u / 128 * 128 + u % 128 := by omega
        rw [e2, e3, ← hm]
        conv => rhs; rw [e4, Nat.add_mul]
        omega
      simp only [List.length_cons] at hsz
      exact ih (k + 1) (u / 128) _ (by omega) (by rw [← Nat.add_assoc]; exact htl) (by omega) e1 (fun _ => by omega)
theorem byte_left {s t : ByteArray} {k : Nat} (h : k < s.size) : byte (s ++ t) k = byte s k := by
  unfold byte
  rw [dif_pos (by rw [ByteArray.size_append]; omega), dif_pos h, ByteArray.getElem_append_left h]
theorem byte_right {s t : ByteArray} (k : Nat) : byte (s ++ t) (s.size + k) = byte t k := by
  unfold byte
  by_cases h : k < t.size
  · rw [dif_pos (by rw [ByteArray.size_append]; omega), dif_pos h, ByteArray.getElem_append_right (by omega)]
    simp
  · rw [dif_neg (by rw [ByteArray.size_append]; omega), dif_neg h]
theorem byte_list {l : List UInt8} {k : Nat} (h : k < l.length) : byte ⟨l.toArray⟩ k = (l[k]).toNat := by
  have g : k < (⟨l.toArray⟩ : ByteArray).size := by simpa [ByteArray.size] using h
  unfold byte
  rw [dif_pos g]
  rfl
theorem size_list (l : List UInt8) : (⟨l.toArray⟩ : ByteArray).size = l.length := by simp [ByteArray.size]
theorem at_mid (x z : ByteArray) (l : List UInt8) : At (x ++ ⟨l.toArray⟩ ++ z) x.size l := by
  have e := size_list l
  refine ⟨by rw [ByteArray.size_append, ByteArray.size_append, e]; omega, fun k hk => ?_⟩
  rw [byte_left (by rw [ByteArray.size_append, e]; omega), byte_right, byte_list hk]
theorem byte_cut {s : ByteArray} {n k : Nat} (hn : n ≤ s.size) (hk : k < n) : byte (s.extract 0 n) k = byte s k := by
  have g : k < (s.extract 0 n).size := by simp; omega
  unfold byte
  rw [dif_pos g, dif_pos (by omega)]
  simp [ByteArray.getElem_extract]
theorem size_cut {s : ByteArray} {n : Nat} (hn : n ≤ s.size) : (s.extract 0 n).size = n := by simp; omega
/-- (A) A number comes back from the midst of a text. -/
theorem num_back {n : Int} (h1 : -9223372036854775808 ≤ n) (h2 : n ≤ 9223372036854775807) (x z : ByteArray) (hs : (x ++ numT n ++ z).size ≤ 8000) : getN (x ++ numT n ++ z) (x.size : Int) = (n, (x.size : Int) + (numT n).size, 0) := by
  have hat := at_mid x z (enc (foldN n))
  have hsc := scan_enc (x ++ numT n ++ z) x.size (foldN n) (fold_le h1 h2) 10 0 (foldN n) 0 rfl hat (by simp) (by omega)
  unfold getN
  rw [if_neg (by omega), if_neg (by omega), Int.toNat_natCast, hsc, unf_fold]
  have e : (numT n).size = (enc (foldN n)).length := size_list _
  rw [e]
  simp
/-- (B) cut short it is short. -/
theorem num_short {n : Int} (h1 : -9223372036854775808 ≤ n) (h2 : n ≤ 9223372036854775807) : getN ((numT n).extract 0 ((numT n).size - 1)) 0 = (0, 0, 4) := by
  have e : (numT n).size = (enc (foldN n)).length := size_list _
  have hl := enc_pos (foldN n)
  have h10 := enc_ten (fold_le h1 h2)
  have hz := size_cut (s := numT n) (n := (numT n).size - 1) (by omega)
  have hd : (enc (foldN n)).dropLast.length = (enc (foldN n)).length - 1 := List.length_dropLast
  have hat : At ((numT n).extract 0 ((numT n).size - 1)) (0 + 0) (enc (foldN n)).dropLast := by
    refine ⟨by rw [hz]; omega, fun k hk => ?_⟩
    rw [hd] at hk
    rw [show 0 + 0 + k = k by omega, byte_cut (by omega) (by omega), List.getElem_dropLast]
    exact byte_list (l := enc (foldN n)) (by omega)
  have hsc := scan_cut _ 0 (foldN n) (fold_le h1 h2) 10 0 (foldN n) 0 rfl hat (by rw [hz]; omega) (by simp) (by omega)
  unfold getN
  rw [if_neg (by omega), if_neg (by decide)]
  exact hsc
/-- (C) A text comes back. -/
theorem text_back {u x : ByteArray} (hu : u.size ≤ 8000) (hs : (x ++ (numT u.size ++ u)).size ≤ 8000) : getT (x ++ (numT u.size ++ u)) (x.size : Int) = (u, (x.size : Int) + (numT u.size ++ u).size, 0) := by
  have e0 : x ++ (numT u.size ++ u) = x ++ numT u.size ++ u := (ByteArray.append_assoc).symm
  have hn := num_back (n := u.size) (by omega) (by omega) x u (by rw [← e0]; exact hs)
  have hz : (x ++ (numT u.size ++ u)).size = x.size + ((numT u.size).size + u.size) := by rw [ByteArray.size_append, ByteArray.size_append]
  unfold getT
  rw [e0] at hz ⊢
  rw [hn]
  unfold textOf
  rw [if_neg (by simp), if_neg (by simp only []; omega), if_neg (by simp only [hz]; omega)]
  simp only [ByteArray.size_append]
  have e1 : ((x.size : Int) + (numT u.size).size).toNat = (x ++ numT u.size).size := by rw [ByteArray.size_append]; omega
  have e2 : ((u.size : Int)).toNat = u.size := by omega
  rw [e1, e2]
  refine Prod.ext ?_ (Prod.ext ?_ rfl)
  · exact ByteArray.extract_append_eq_right rfl (by rw [ByteArray.size_append])
  · simp only []; omega
/-- (D) cut short it is short. -/
theorem text_short {u : ByteArray} (hu : (numT u.size ++ u).size ≤ 8000) : (getT ((numT u.size ++ u).extract 0 ((numT u.size ++ u).size - 1)) 0).2.2 = 4 := by
  have e : (numT u.size).size = (enc (foldN u.size)).length := size_list _
  have hl := enc_pos (foldN u.size)
  have hp : (numT u.size ++ u).size = (numT u.size).size + u.size := ByteArray.size_append
  have hus : u.size ≤ 8000 := by omega
  have h10 := enc_ten (fold_le (n := (u.size : Int)) (by omega) (by omega))
  have hz := size_cut (s := numT u.size ++ u) (n := (numT u.size ++ u).size - 1) (by omega)
  have hby : ∀ k, k < (numT u.size).size → k < (numT u.size ++ u).size - 1 → byte ((numT u.size ++ u).extract 0 ((numT u.size ++ u).size - 1)) k = byte (numT u.size) k := fun k h1 h2 => by
    rw [byte_cut (by omega) h2, byte_left h1]
  generalize (numT u.size ++ u).extract 0 ((numT u.size ++ u).size - 1) = s at hz hby ⊢
  by_cases h0 : u.size = 0
  · have hd : (enc (foldN u.size)).dropLast.length = (enc (foldN u.size)).length - 1 := List.length_dropLast
    have hat : At s (0 + 0) (enc (foldN u.size)).dropLast := by
      refine ⟨by omega, fun k hk => ?_⟩
      rw [hd] at hk
      rw [show 0 + 0 + k = k by omega, hby k (by omega) (by omega), List.getElem_dropLast]
      exact byte_list (l := enc (foldN u.size)) (by omega)
    have hsc := scan_cut s 0 (foldN u.size) (fold_le (by omega) (by omega)) 10 0 (foldN u.size) 0 rfl hat (by omega) (by simp) (by omega)
    have hg : getN s 0 = (0, 0, 4) := by
      unfold getN
      rw [if_neg (by omega), if_neg (by decide)]
      exact hsc
    unfold getT
    rw [hg]
    rfl
  · have hat : At s (0 + 0) (enc (foldN u.size)) := by
      refine ⟨by omega, fun k hk => ?_⟩
      rw [show 0 + 0 + k = k by omega, hby k (by omega) (by omega)]
      exact byte_list (l := enc (foldN u.size)) hk
    by_cases hbig : 8000 < s.size
    · omega
    · have hsc := scan_enc s 0 (foldN u.size) (fold_le (by omega) (by omega)) 10 0 (foldN u.size) 0 rfl hat (by simp) (by omega)
      have hg : getN s 0 = ((u.size : Int), ((numT u.size).size : Int), 0) := by
        unfold getN
        rw [if_neg hbig, if_neg (by decide)]
        refine Eq.trans hsc ?_
        rw [unf_fold, e]
        simp
      unfold getT
      rw [hg]
      unfold textOf
      rw [if_neg (by simp), if_neg (by simp only []; omega), if_pos (by simp only []; omega)]
end Go.Proofs.YtdmdnhfoeokfeaaDoor
