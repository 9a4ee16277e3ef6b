/- The contracts of the functions on the road of Crc and CrcMore: each returns just what the plain functions of the Math text say, and leaves the world as it was. -/
import Derived.Test.YtddkmlkfphmdoabRows
import Derived.Test.YtddkmlkfphmdoabMath
import Derived.WalkKit
import Derived.WalkSpells
import Derived.WalkLawsBesides
import Derived.Laws.BitsAllLaws
namespace Go.Proofs.Ytddkmlkfphmdoab
open Go.RowKit Go.PlainAid
set_option linter.unusedVariables false
theorem val_u32 {a b : Int} (h : a = b) : Value.int .u32 a = Value.int .u32 b := by rw [h]
theorem ret_i64 {a b : Int} (h : a = b) : Ending.returned (.int .i64 a) = .returned (.int .i64 b) := by rw [h]
theorem stp_one {r : Int} (h : (bits BinOp.and IntKind.u32 r 1 == 1) = true) : bits BinOp.xor IntKind.u32 (r / 2) 3988292384 = stp r := by unfold stp; rw [if_pos h]
theorem stp_zero {r : Int} (h : (bits BinOp.and IntKind.u32 r 1 == 1) = false) : r / 2 = stp r := by unfold stp; rw [if_neg (by rw [h]; decide)]
set_option maxHeartbeats 400000 in
/-- impl.crcByte. -/
theorem crcByte_any (r b : Int) (hr : Reg r) (hb : 0 ≤ b) (hb2 : b ≤ 255) (w : World) :
    Calls Try.prog 41 #[.int .u32 r, .int .u8 b] w fun e w' => e = .returned (.int .u32 (stpN 8 (bits .xor .u32 r b))) ∧ w' = w := by
  obtain ⟨hr1, hr2⟩ := hr
  go_enter Try.func41, Try.ntmps41
  go_wp2
  go_loop [0, 10] (fun t i => ∃ k : Nat, k ≤ 8 ∧ i = .int .i64 k ∧ t = .int .u32 (stpN k (bits .xor .u32 r b))) (fun _ i => 8 - (intOf i).toNat)
  case atStart => exact ⟨0, Nat.zero_le _, rfl, rfl⟩
  case round =>
    obtain ⟨k, hk, rfl, rfl⟩ := hrel
    obtain ⟨hx1, hx2⟩ := Reg_stpN k (Reg_bits .xor r b)
    by_cases hlt : k < 8
    · go_wp2
      · go_round
        case rel => exact ⟨k + 1, by omega, by go_num, val_u32 (stp_one ‹_›)⟩
        case measure => simp [intOf]; omega
      · go_round
        case rel => exact ⟨k + 1, by omega, by go_num, val_u32 (stp_zero ‹_›)⟩
        case measure => simp [intOf]; omega
    · go_wp2
      go_ret
      have : k = 8 := by omega
      subst this
      exact ⟨rfl, rfl⟩
set_option maxHeartbeats 400000 in
/-- spec.l01Crc. -/
theorem l01Crc_any (r : Int) (s : ByteArray) (hr : Reg r) (hs : s.size ≤ 8000) (w : World) :
    Calls Try.prog 19 #[.int .i64 r, .string s] w fun e w' => e = .returned (.int .i64 (bits .xor .u32 (regTo s (bits .xor .u32 r 4294967295) s.size) 4294967295)) ∧ w' = w := by
  obtain ⟨hr1, hr2⟩ := hr
  have hbt := get_bt s
  go_enter Try.func19, Try.ntmps19
  go_wp2
  go_loop [5, 6] (fun t i => ∃ k : Nat, k ≤ s.size ∧ i = .int .i64 k ∧ t = .int .u32 (regTo s (bits .xor .u32 r 4294967295) k)) (fun _ i => s.size - (intOf i).toNat)
  case atStart => exact ⟨0, Nat.zero_le _, rfl, rfl⟩
  case round =>
    obtain ⟨k, hk, rfl, rfl⟩ := hrel
    obtain ⟨hx1, hx2⟩ := Reg_regTo s (Reg_bits .xor r 4294967295) k
    have b1 := bt_nonneg s k
    have b2 := bt_le s k
    by_cases hlt : k < s.size
    · go_wp2
      go_loop [5, 7] (fun t i => ∃ m : Nat, m ≤ 8 ∧ i = .int .i64 m ∧ t = .int .u32 (stpN m (bits .xor .u32 (regTo s (bits .xor .u32 r 4294967295) k) (bt s k)))) (fun _ i => 8 - (intOf i).toNat)
      case atStart => exact ⟨0, Nat.zero_le _, rfl, rfl⟩
      case round =>
        obtain ⟨m, hm, rfl, rfl⟩ := hrel
        obtain ⟨hy1, hy2⟩ := Reg_stpN m (Reg_bits .xor (regTo s (bits .xor .u32 r 4294967295) k) (bt s k))
        by_cases hlm : m < 8
        · go_wp2
          · go_round
            case rel => exact ⟨m + 1, by omega, by go_num, val_u32 (stp_one ‹_›)⟩
            case measure => simp [intOf]; omega
          · go_round
            case rel => exact ⟨m + 1, by omega, by go_num, val_u32 (stp_zero ‹_›)⟩
            case measure => simp [intOf]; omega
        · have : m = 8 := by omega
          subst this
          go_wp2
          go_round
          case rel => exact ⟨k + 1, by omega, by go_num, rfl⟩
          case measure => simp [intOf]; omega
    · have : k = s.size := by omega
      subst this
      obtain ⟨hz1, hz2⟩ := Reg_bits .xor (regTo s (bits .xor .u32 r 4294967295) s.size) 4294967295
      go_wp2
      go_ret
      exact ⟨rfl, rfl⟩
theorem xor_max {r : Int} (h : Reg r) : bits .xor .u32 IntKind.u32.max r = bits .xor .u32 r 4294967295 := by
  obtain ⟨h1, h2⟩ := h
  have e : IntKind.u32.max = 4294967295 := by decide
  rw [e, u32_xor _ _ (by decide) (by decide) h1 (by omega), u32_xor _ _ h1 (by omega) (by decide) (by decide), Nat.xor_comm]
/-- What both CRCs come to. -/
def crcOf (s : ByteArray) (r : Int) : Int := bits .xor .u32 (regTo s (bits .xor .u32 r 4294967295) s.size) 4294967295
theorem crcOf_Reg (s : ByteArray) (r : Int) : Reg (crcOf s r) := Reg_bits _ _ _
set_option maxHeartbeats 400000 in
/-- impl.CrcMore, of what is taken. -/
theorem iCrcMore_yes (r : Int) (s : ByteArray) (hr : Reg r) (hs : s.size ≤ 8000) (w : World) :
    Calls Try.prog 38 #[.int .i64 r, .string s] w fun e w' => e = .returned (.int .i64 (crcOf s r)) ∧ w' = w := by
  have hm := xor_max hr
  obtain ⟨hr1, hr2⟩ := hr
  have hbt := get_bt s
  have d1 : decide (8000 < (s.size : Int)) = false := by simp; omega
  have d2 : decide (r < 0) = false := by simp; omega
  have d3 : decide (4294967295 < r) = false := by simp; omega
  go_enter Try.func38, Try.ntmps38
  go_wp2
  go_loop [5, 23] (fun t i => ∃ k : Nat, k ≤ s.size ∧ i = .int .i64 k ∧ t = .int .u32 (regTo s (bits .xor .u32 r 4294967295) k)) (fun _ i => s.size - (intOf i).toNat)
  case atStart => exact ⟨0, Nat.zero_le _, rfl, rfl⟩
  case round =>
    obtain ⟨k, hk, rfl, rfl⟩ := hrel
    have hreg := Reg_regTo s (Reg_bits .xor r 4294967295) k
    have hx := hreg
    obtain ⟨hx1, hx2⟩ := hx
    have b1 := bt_nonneg s k
    have b2 := bt_le s k
    by_cases hlt : k < s.size
    · go_wp2_with (go_at_call 41; refine (crcByte_any _ _ hreg b1 b2 _).mono ?_; rintro e w' ⟨rfl, rfl⟩)
      go_round
      case rel => exact ⟨k + 1, by omega, by go_num, rfl⟩
      case measure => simp [intOf]; omega
    · have : k = s.size := by omega
      subst this
      have hm2 := xor_max hreg
      obtain ⟨hz1, hz2⟩ := Reg_bits .xor (regTo s (bits .xor .u32 r 4294967295) s.size) 4294967295
      go_wp2
      go_ret
      exact ⟨rfl, rfl⟩
set_option maxHeartbeats 400000 in
/-- impl.CrcMore, of what is refused. -/
theorem iCrcMore_no (r : Int) (s : ByteArray) (h : 8000 < (s.size : Int) ∨ r < 0 ∨ 4294967295 < r) (hs : s.size ≤ maxLen) (w : World) :
    Calls Try.prog 38 #[.int .i64 r, .string s] w fun e w' => e = .returned (.int .i64 0) ∧ w' = w := by
  unfold maxLen at hs
  by_cases h1 : 8000 < (s.size : Int)
  · go_enter Try.func38, Try.ntmps38
    go_wp2
    go_ret
    exact ⟨rfl, rfl⟩
  · by_cases h2 : r < 0
    · go_enter Try.func38, Try.ntmps38
      go_wp2
      go_ret
      exact ⟨rfl, rfl⟩
    · have h3 : 4294967295 < r := by omega
      go_enter Try.func38, Try.ntmps38
      go_wp2
      go_ret
      exact ⟨rfl, rfl⟩
theorem iCrc_yes (s : ByteArray) (hs : s.size ≤ 8000) (w : World) :
    Calls Try.prog 35 #[.string s] w fun e w' => e = .returned (.int .i64 (crcOf s 0)) ∧ w' = w := by
  go_enter Try.func35, Try.ntmps35
  go_wp2_with (go_at_call 38; refine (iCrcMore_yes _ _ ⟨by decide, by decide⟩ hs _).mono ?_; rintro e w' ⟨rfl, rfl⟩)
  go_ret
  exact ⟨rfl, rfl⟩
theorem iCrc_no (s : ByteArray) (h1 : 8000 < (s.size : Int)) (hs : s.size ≤ maxLen) (w : World) :
    Calls Try.prog 35 #[.string s] w fun e w' => e = .returned (.int .i64 0) ∧ w' = w := by
  go_enter Try.func35, Try.ntmps35
  go_wp2_with (go_at_call 38; refine (iCrcMore_no _ _ (.inl h1) hs _).mono ?_; rintro e w' ⟨rfl, rfl⟩)
  go_ret
  exact ⟨rfl, rfl⟩
end Go.Proofs.Ytddkmlkfphmdoab
