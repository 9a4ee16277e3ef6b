/- Four digits to the base of eight read back: which mode they are. Nothing here names a program. -/
import Derived.Test.YtibofkjonepbpaaDoorOctMath
import Derived.Test.YtibofkjonepbpaaDoorHasMath
namespace Go.Proofs.YtibofkjonepbpaaDoor
open Go.RowKit Go.PlainAid
set_option linter.unusedVariables false
def dgO (b : Int) : Bool := decide (48 ≤ b) && decide (b ≤ 55)
def okO (s : ByteArray) : Bool := decide (s.size = 4) && dgO (bt s 0) && dgO (bt s 1) && dgO (bt s 2) && dgO (bt s 3)
def valO (s : ByteArray) : Int := 512 * (bt s 0 - 48) + 64 * (bt s 1 - 48) + 8 * (bt s 2 - 48) + (bt s 3 - 48)
/-- The mode whose four digits a text is. -/
def rdO (s : ByteArray) : Option Nat := if okO s then some (valO s).toNat else none
theorem dgO_iff {b : Int} : dgO b = true ↔ 48 ≤ b ∧ b ≤ 55 := by simp [dgO]
theorem okO_iff {s : ByteArray} : okO s = true ↔ s.size = 4 ∧ (48 ≤ bt s 0 ∧ bt s 0 ≤ 55) ∧ (48 ≤ bt s 1 ∧ bt s 1 ≤ 55) ∧ (48 ≤ bt s 2 ∧ bt s 2 ≤ 55) ∧ (48 ≤ bt s 3 ∧ bt s 3 ≤ 55) := by
  simp only [okO, Bool.and_eq_true, decide_eq_true_eq, dgO_iff]
  constructor
  · rintro ⟨⟨⟨⟨a, b⟩, c⟩, d⟩, e⟩
    exact ⟨a, b, c, d, e⟩
  · rintro ⟨a, b, c, d, e⟩
    exact ⟨⟨⟨⟨a, b⟩, c⟩, d⟩, e⟩
theorem rdO_none {s : ByteArray} (h : ¬ (s.size = 4 ∧ (48 ≤ bt s 0 ∧ bt s 0 ≤ 55) ∧ (48 ≤ bt s 1 ∧ bt s 1 ≤ 55) ∧ (48 ≤ bt s 2 ∧ bt s 2 ≤ 55) ∧ (48 ≤ bt s 3 ∧ bt s 3 ≤ 55))) : rdO s = none := by
  unfold rdO
  rw [if_neg]
  intro e
  exact h (okO_iff.mp e)
theorem rdO_some {s : ByteArray} {a b c d : Nat} (hs : s.size = 4) (ha : a ≤ 7) (hb : b ≤ 7) (hc : c ≤ 7) (hd : d ≤ 7) (h0 : bt s 0 = ((48 + a : Nat) : Int)) (h1 : bt s 1 = ((48 + b : Nat) : Int)) (h2 : bt s 2 = ((48 + c : Nat) : Int)) (h3 : bt s 3 = ((48 + d : Nat) : Int)) : rdO s = some (8 * (8 * (8 * a + b) + c) + d) := by
  unfold rdO
  rw [if_pos (okO_iff.mpr ⟨hs, by omega, by omega, by omega, by omega⟩)]
  congr 1
  unfold valO
  omega
theorem ext4 {s : ByteArray} {a b c d : UInt8} (hs : s.size = 4) (h0 : bt s 0 = (a.toNat : Int)) (h1 : bt s 1 = (b.toNat : Int)) (h2 : bt s 2 = (c.toNat : Int)) (h3 : bt s 3 = (d.toNat : Int)) : s = ⟨#[a, b, c, d]⟩ := by
  obtain ⟨⟨l⟩⟩ := s
  have hl : l.length = 4 := hs
  match l, hl with
  | [x, y, z, u], _ =>
    have e0 : x.toNat = a.toNat := by
      have : bt ⟨⟨[x, y, z, u]⟩⟩ 0 = (x.toNat : Int) := rfl
      omega
    have e1 : y.toNat = b.toNat := by
      have : bt ⟨⟨[x, y, z, u]⟩⟩ 1 = (y.toNat : Int) := rfl
      omega
    have e2 : z.toNat = c.toNat := by
      have : bt ⟨⟨[x, y, z, u]⟩⟩ 2 = (z.toNat : Int) := rfl
      omega
    have e3 : u.toNat = d.toNat := by
      have : bt ⟨⟨[x, y, z, u]⟩⟩ 3 = (u.toNat : Int) := rfl
      omega
    rw [UInt8.toNat_inj.1 e0, UInt8.toNat_inj.1 e1, UInt8.toNat_inj.1 e2, UInt8.toNat_inj.1 e3]
theorem octT_bt {n : Nat} (h : n ≤ 4095) : bt (octT n) 0 = ((48 + n / 512 : Nat) : Int) ∧ bt (octT n) 1 = ((48 + n / 64 % 8 : Nat) : Int) ∧ bt (octT n) 2 = ((48 + n / 8 % 8 : Nat) : Int) ∧ bt (octT n) 3 = ((48 + n % 8 : Nat) : Int) := by
  refine ⟨?_, ?_, ?_, ?_⟩
  · show ((od (n / 512)).toNat : Int) = _
    rw [od_toNat (by omega)]; omega
  · show ((od (n / 64 % 8)).toNat : Int) = _
    rw [od_toNat (by omega)]; omega
  · show ((od (n / 8 % 8)).toNat : Int) = _
    rw [od_toNat (by omega)]; omega
  · show ((od (n % 8)).toNat : Int) = _
    rw [od_toNat (by omega)]; omega
/-- A mode comes back from its digits. -/
theorem rdO_octT {n : Nat} (h : n ≤ 4095) : rdO (octT n) = some n := by
  obtain ⟨h0, h1, h2, h3⟩ := octT_bt h
  rw [rdO_some (octT_size n) (by omega) (by omega) (by omega) (by omega) h0 h1 h2 h3]
  congr 1
  omega
theorem rdO_inv {s : ByteArray} {n : Nat} (h : rdO s = some n) : n ≤ 4095 ∧ octT n = s ∧ s.size = 4 ∧ valO s = n := by
  unfold rdO at h
  split at h
  · rename_i ho
    rw [okO_iff] at ho
    obtain ⟨hs, a, b, c, d⟩ := ho
    have hv : (valO s).toNat = n := Option.some.inj h
    have hn : n ≤ 4095 := by unfold valO at hv; omega
    refine ⟨hn, ?_, hs, by unfold valO at hv ⊢; omega⟩
    unfold valO at hv
    refine (ext4 hs ?_ ?_ ?_ ?_).symm
    · rw [od_toNat (by omega)]; omega
    · rw [od_toNat (by omega)]; omega
    · rw [od_toNat (by omega)]; omega
    · rw [od_toNat (by omega)]; omega
  · cases h
/-- The specification's way: eight times what was, and the next sign's number less 48. -/
def oV (s : ByteArray) : Nat → Int
  | 0 => 0
  | k + 1 => 8 * oV s k + bt s k - 48
theorem bt_bd (s : ByteArray) (k : Nat) : 0 ≤ bt s k ∧ bt s k ≤ 255 := by
  unfold bt
  split
  · rename_i h
    have := (s[k]'h).toNat_lt
    omega
  · omega
theorem oV_bd (s : ByteArray) {k : Nat} (h : k ≤ 5) : -2000000 ≤ oV s k ∧ oV s k ≤ 2000000 := by
  have b0 := bt_bd s 0
  have b1 := bt_bd s 1
  have b2 := bt_bd s 2
  have b3 := bt_bd s 3
  have b4 := bt_bd s 4
  rcases (by omega : k = 0 ∨ k = 1 ∨ k = 2 ∨ k = 3 ∨ k = 4 ∨ k = 5) with rfl | rfl | rfl | rfl | rfl | rfl <;> simp only [oV] <;> omega
theorem oV_four (s : ByteArray) : oV s 4 = valO s := by simp only [oV, valO]; omega
theorem oct_ne {s : ByteArray} {k : Nat} (hs : s.size ≠ 0) (hr : rdO s = none) : ¬ octS (oV s k) = s := by
  intro e
  unfold octS at e
  split at e
  · rename_i hin
    have h4 : s.size = 4 := by rw [← e]; rfl
    have hn : (oV s k).toNat ≤ 4095 := by omega
    have := rdO_octT hn
    rw [e, hr] at this
    cases this
  · apply hs
    rw [← e]
    rfl
theorem oct_eq {s : ByteArray} {k n : Nat} (hk : s.size = k ∨ k = 5 ∧ 5 < s.size) (hr : rdO s = some n) : oV s k = n ∧ octS (oV s k) = s := by
  obtain ⟨hn, ht, hs, hv⟩ := rdO_inv hr
  have hk4 : k = 4 := by omega
  subst hk4
  rw [oV_four, hv]
  exact ⟨rfl, by rw [octS_in hn]; exact ht⟩
theorem rdO_size {s : ByteArray} (h : s.size ≠ 4) : rdO s = none := rdO_none (fun e => h e.1)
theorem or8 (x d : Nat) (hx : x ≤ 511) (hd : d ≤ 7) : bits .or .i64 ((x : Int) * 8) (d : Int) = ((8 * x + d : Nat) : Int) := by
  have e : ((x : Int) * 8) = ((8 * x : Nat) : Int) := by omega
  rw [e, i64_or_nat _ _ (by omega) (by omega)]
  have h2 : 8 * x + d = 2 ^ 3 * x ||| d := Nat.two_pow_add_eq_or_of_lt (i := 3) (by omega) x
  rw [h2]
end Go.Proofs.YtibofkjonepbpaaDoor
