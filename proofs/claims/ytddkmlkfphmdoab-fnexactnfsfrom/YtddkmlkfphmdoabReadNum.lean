/- The contract of impl.readNum: at every text of at most 8000 bytes and place it answers what 'scan' says, an error beside zeros where the code is not OK. -/
import Derived.Test.YtddkmlkfphmdoabRows
import Derived.Test.YtddkmlkfphmdoabNumV
import Derived.Test.YtddkmlkfphmdoabScope
import Derived.WalkMore
namespace Go.Proofs.Ytddkmlkfphmdoab
open Go.RowKit
set_option linter.unusedVariables false
/-- The error of a code. -/
def errV (c : Int) : Value := if c = 0 then .nilIface else .iface 67 (.agg #[.int .i64 c])
theorem errV_ok : errV 0 = .nilIface := rfl
theorem errV_no {c : Int} (h : c ≠ 0) : errV c = .iface 67 (.agg #[.int .i64 c]) := by unfold errV; rw [if_neg h]
/-- The answer of readNum. -/
def readV (r : Int × Int × Int) : Value := .tuple #[.int .i64 r.1, .int .i64 r.2.1, errV r.2.2]
/-- What holds at the label 'wrong', 'more', 'last'. -/
def AtWrong (s : ByteArray) (x : Nat) (a : Act) : Prop := ∃ (c : Int) (v1 v7 v8 v9 v10 u11 u12 u13 u14 u15 u16 u17 u18 u19 u20 u21 u22 u23 u24 u25 u26 u27 u28 u29 u30 u31 u32 u33 u34 u35 u36 u37 u38 u39 u40 u41 u42 u43 u44 u45 u46 u47 u48 u49 u50 u51 u52 u53 u54 u55 u56 u57 : Value), Hid (c ≠ 0 ∧ scan s x 10 0 0 = (0, 0, c)) ∧ v10 = .int .i64 c ∧ a = { tmps := #[.string s, v1, undef, undef, .int .i64 0, .int .i64 0, .nilIface, v7, v8, v9, v10, u11, u12, u13, u14, u15, u16, u17, u18, u19, u20, u21, u22, u23, u24, u25, u26, u27, u28, u29, u30, u31, u32, u33, u34, u35, u36, u37, u38, u39, u40, u41, u42, u43, u44, u45, u46, u47, u48, u49, u50, u51, u52, u53, u54, u55, u56, u57], defers := [] }
def AtMore (s : ByteArray) (x : Nat) (a : Act) : Prop := ∃ (k acc : Nat) (v1 v7 v8 v9 v10 u11 u12 u13 u14 u15 u16 u17 u18 u19 u20 u21 u22 u23 u24 u25 u26 u27 u28 u29 u30 u31 u32 u33 u34 u35 u36 u37 u38 u39 u40 u41 u42 u43 u44 u45 u46 u47 u48 u49 u50 u51 u52 u53 u54 u55 u56 u57 : Value), k ≤ 9 ∧ Hid (Goes s x k acc) ∧ v1 = .int .i64 ((x : Int) + k) ∧ v7 = .int .u64 acc ∧ v9 = .int .u64 k ∧ a = { tmps := #[.string s, v1, undef, undef, .int .i64 0, .int .i64 0, .nilIface, v7, v8, v9, v10, u11, u12, u13, u14, u15, u16, u17, u18, u19, u20, u21, u22, u23, u24, u25, u26, u27, u28, u29, u30, u31, u32, u33, u34, u35, u36, u37, u38, u39, u40, u41, u42, u43, u44, u45, u46, u47, u48, u49, u50, u51, u52, u53, u54, u55, u56, u57], defers := [] }
def AtLast (s : ByteArray) (x : Nat) (a : Act) : Prop := ∃ (k u b : Nat) (v1 v7 v8 v9 v10 u11 u12 u13 u14 u15 u16 u17 u18 u19 u20 u21 u22 u23 u24 u25 u26 u27 u28 u29 u30 u31 u32 u33 u34 u35 u36 u37 u38 u39 u40 u41 u42 u43 u44 u45 u46 u47 u48 u49 u50 u51 u52 u53 u54 u55 u56 u57 : Value), k ≤ 9 ∧ u ≤ 18446744073709551615 ∧ b ≤ 255 ∧ x + k < 8000 ∧ Hid (scan s x 10 0 0 = (if b = 0 ∧ 0 < k then (0, 0, 3) else (unf u, (x : Int) + k + 1, 0))) ∧
  v1 = .int .i64 ((x : Int) + k + 1) ∧ v7 = .int .u64 u ∧ v8 = .int .u8 b ∧ v9 = .int .u64 ((k : Int) + 1) ∧ v10 = .int .i64 3 ∧ a = { tmps := #[.string s, v1, undef, undef, .int .i64 0, .int .i64 0, .nilIface, v7, v8, v9, v10, u11, u12, u13, u14, u15, u16, u17, u18, u19, u20, u21, u22, u23, u24, u25, u26, u27, u28, u29, u30, u31, u32, u33, u34, u35, u36, u37, u38, u39, u40, u41, u42, u43, u44, u45, u46, u47, u48, u49, u50, u51, u52, u53, u54, u55, u56, u57], defers := [] }
def J (s : ByteArray) (x : Nat) (w : World) (l : Nat) (a : Act) (w' : World) : Prop := w' = w ∧ (l = 0 ∧ AtWrong s x a ∨ l = 1 ∧ AtMore s x a ∨ l = 2 ∧ AtLast s x a)
def mu (l : Nat) (a : Act) (_ : World) : Nat := if l = 1 then 12 - (intOf (a.tmps.getD 9 undef)).toNat else if l = 2 then 1 else 0
theorem or_zero {b : Nat} (h : b ≤ 255) : bits .or .u64 0 ((b : Int) % 128) = (put7 0 0 b : Int) := by
  have e : ((b : Int) % 128) = ((b % 128 : Nat) : Int) := by omega
  have h0 := u64_or_nat 0 (b % 128) (by decide) (by omega)
  rw [Nat.zero_or] at h0
  rw [e, put7]
  simpa using h0
theorem xor_neg_one (n : Nat) (h : n < 9223372036854775808) : bits .xor .i64 (n : Int) (-1) = -(n : Int) - 1 := by
  have e : (BitVec.ofInt 64 (-1)) = BitVec.allOnes 64 := by decide
  have e2 : ((BitVec.ofInt 64 (n : Int)) ^^^ BitVec.allOnes 64).toNat = 18446744073709551615 - n := by
    rw [BitVec.xor_allOnes, BitVec.toNat_not, BitVec.toNat_ofInt]
    have : ((n : Int) % (2 ^ 64 : Nat)).toNat = n := by omega
    rw [this]
  show IntKind.i64.wrap (((BitVec.ofInt 64 (n : Int)) ^^^ (BitVec.ofInt 64 (-1))).toNat : Int) = _
  rw [e, e2, IntKind.wrap_i64]
  omega
theorem xor_nought (n : Nat) (h : n < 9223372036854775808) : bits .xor .i64 (n : Int) 0 = (n : Int) := by
  have e2 : ((BitVec.ofInt 64 (n : Int)) ^^^ (BitVec.ofInt 64 0)).toNat = n := by
    have e : (BitVec.ofInt 64 0) = 0#64 := by decide
    rw [e, BitVec.xor_zero, BitVec.toNat_ofInt]
    omega
  show IntKind.i64.wrap (((BitVec.ofInt 64 (n : Int)) ^^^ (BitVec.ofInt 64 0)).toNat : Int) = _
  rw [e2, IntKind.wrap_i64]
  omega
/-- impl's way back: 'int64(u>>1) ^ -int64(u&1)'. -/
theorem back_odd {u : Nat} (h : u % 2 = 1) (h2 : u ≤ 18446744073709551615) : bits .xor .i64 ((u : Int) / 2) (-1) = unf u := by
  rw [unf_odd h]
  have e : ((u : Int) / 2) = ((u / 2 : Nat) : Int) := by omega
  rw [e]
  exact xor_neg_one (u / 2) (by omega)
theorem back_even {u : Nat} (h : ¬ u % 2 = 1) (h2 : u ≤ 18446744073709551615) : bits .xor .i64 ((u : Int) / 2) 0 = unf u := by
  rw [unf_even h]
  have e : ((u : Int) / 2) = ((u / 2 : Nat) : Int) := by omega
  rw [e]
  exact xor_nought (u / 2) (by omega)
set_option maxRecDepth 100000 in
set_option maxHeartbeats 4000000 in
theorem readNum_in (s : ByteArray) (x : Nat) (hs : s.size ≤ 8000) (hx : x ≤ 9223372036854775807) (w : World) :
    Calls Try.prog 26 #[.string s, .int .i64 x] w fun e w' => e = .returned (readV (scan s x 10 0 0)) ∧ w' = w := by
  have hbt := get_byte s
  have d2 : decide ((x : Int) < 0) = false := by simp
  go_enter Try.func26, Try.ntmps26
  go_wp2
  refine wp_scope_labels (J s x w) mu ?first ?pass
  case first =>
    have hg0 : Hid (Goes s x 0 0) := goes_start s x
    by_cases hsh : x < s.size
    · have b1 := byte_le s x
      have ha := and127_u8 b1
      have ho := or_zero b1
      by_cases h128 : byte s x < 128
      · have hres : Hid _ := goes_last (k := 0) (by omega) hg0.out hsh (by omega) h128
        have hle := put7_le (k := 0) (acc := 0) (b := byte s x) (by omega) (by decide) (by omega)
        go_wp2
        go_step3
        go_wp2
        go_step3
        exact ⟨rfl, .inr (.inr ⟨rfl, 0, put7 0 0 (byte s x), byte s x, _, _, _, _, _, _, _, _, _, _, _, _, _, _, _, _, _, _, _, _, _, _, _, _, _, _, _, _, _, _, _, _, _, _, _, _, _, _, _, _, _, _, _, _, _, _, _, _, _, _, _, _, by omega, hle, b1, by omega, hres.out, by simp, rfl, rfl, by simp, rfl, rfl⟩)⟩
      · have hmo : Hid (0 + 1 ≤ 9 ∧ Goes s x (0 + 1) (put7 0 0 (byte s (x + 0)))) := goes_more (k := 0) (by omega) hg0.out hsh (by omega) (by simpa using Nat.le_of_not_lt h128)
        have g7 : 128 ≤ byte s x := by omega
        clear h128
        go_wp2
        go_step3
        go_wp2
        go_step3
        exact ⟨rfl, .inr (.inl ⟨rfl, 0 + 1, put7 0 0 (byte s (x + 0)), _, _, _, _, _, _, _, _, _, _, _, _, _, _, _, _, _, _, _, _, _, _, _, _, _, _, _, _, _, _, _, _, _, _, _, _, _, _, _, _, _, _, _, _, _, _, _, _, _, _, _, _, hmo.out.1, hmo.out.2, by simp, rfl, by simp, rfl⟩)⟩
    · have hres : Hid ((4 : Int) ≠ 0 ∧ scan s x 10 0 0 = (0, 0, 4)) := ⟨by decide, goes_short (k := 0) (by omega) hg0.out (by omega)⟩
      have g1 : s.size ≤ x := by omega
      clear hsh
      go_wp2
      go_step3
      go_wp2
      go_step3
      exact ⟨rfl, .inl ⟨rfl, 4, _, _, _, _, _, _, _, _, _, _, _, _, _, _, _, _, _, _, _, _, _, _, _, _, _, _, _, _, _, _, _, _, _, _, _, _, _, _, _, _, _, _, _, _, _, _, _, _, _, _, _, _, hres, rfl, rfl⟩⟩
  case pass =>
    intro l a' w' hJ
    obtain ⟨rfl, ⟨rfl, hW⟩ | ⟨rfl, hM⟩ | ⟨rfl, hL⟩⟩ := hJ
    · obtain ⟨c, v1, v7, v8, v9, v10, u11, u12, u13, u14, u15, u16, u17, u18, u19, u20, u21, u22, u23, u24, u25, u26, u27, u28, u29, u30, u31, u32, u33, u34, u35, u36, u37, u38, u39, u40, u41, u42, u43, u44, u45, u46, u47, u48, u49, u50, u51, u52, u53, u54, u55, u56, u57, hc, rfl, rfl⟩ := hW
      refine ⟨_, rfl, ?_⟩
      have hv : Hid (readV (scan s x 10 0 0) = .tuple #[.int .i64 0, .int .i64 0, .iface 67 (.agg #[.int .i64 c])]) := by
        show _ = _
        rw [hc.out.2, readV, errV_no hc.out.1]
      go_wp2
      simp only [labels]
      go_ret3
      exact ⟨by rw [hv.out]; rfl, rfl⟩
    · obtain ⟨k, acc, v1, v7, v8, v9, v10, u11, u12, u13, u14, u15, u16, u17, u18, u19, u20, u21, u22, u23, u24, u25, u26, u27, u28, u29, u30, u31, u32, u33, u34, u35, u36, u37, u38, u39, u40, u41, u42, u43, u44, u45, u46, u47, u48, u49, u50, u51, u52, u53, u54, u55, u56, u57, hk, hgo, rfl, rfl, rfl, rfl⟩ := hM
      refine ⟨_, rfl, ?_⟩
      by_cases hsh : x + k < s.size
      · have b1 := byte_le s (x + k)
        have g1 : decide ((s.size : Int) ≤ (x : Int) + k) = false := by simp; omega
        have ha := and127_u8 b1
        by_cases h9 : k = 9 ∧ 1 < byte s (x + k)
        · have hres : Hid ((3 : Int) ≠ 0 ∧ scan s x 10 0 0 = (0, 0, 3)) := ⟨by decide, goes_nine h9.1 hgo.out hsh h9.2⟩
          have g2 : ((k : Int) == 9) = true := by rw [h9.1]; rfl
          have g3 : 1 < byte s (x + k) := h9.2
          clear h9
          go_wp2
          go_step3
          exact ⟨⟨rfl, .inl ⟨rfl, 3, _, _, _, _, _, _, _, _, _, _, _, _, _, _, _, _, _, _, _, _, _, _, _, _, _, _, _, _, _, _, _, _, _, _, _, _, _, _, _, _, _, _, _, _, _, _, _, _, _, _, _, _, hres, rfl, rfl⟩⟩, by simp [mu, intOf]; omega⟩
        · have ho := put_or hk hgo.out.2 (b := byte s (x + k)) (by omega)
          have hle := put7_le hk hgo.out.2 (b := byte s (x + k)) (by omega)
          by_cases h128 : byte s (x + k) < 128
          · have hres : Hid _ := goes_last hk hgo.out hsh h9 h128
            by_cases hk9 : k = 9
            · have g2 : ((k : Int) == 9) = true := by rw [hk9]; rfl
              have g3 : decide (1 < (byte s (x + k) : Int)) = false := by simp; omega
              clear hk9 h9
              go_wp2
              go_step3
              exact ⟨⟨rfl, .inr (.inr ⟨rfl, k, put7 k acc (byte s (x + k)), byte s (x + k), _, _, _, _, _, _, _, _, _, _, _, _, _, _, _, _, _, _, _, _, _, _, _, _, _, _, _, _, _, _, _, _, _, _, _, _, _, _, _, _, _, _, _, _, _, _, _, _, _, _, _, _, hk, hle, b1, by omega, hres.out, rfl, rfl, rfl, rfl, rfl, rfl⟩)⟩, by simp [mu, intOf]; omega⟩
            · have g2 : ((k : Int) == 9) = false := by rw [beq_eq_false_iff_ne]; omega
              clear hk9 h9
              go_wp2
              go_step3
              exact ⟨⟨rfl, .inr (.inr ⟨rfl, k, put7 k acc (byte s (x + k)), byte s (x + k), _, _, _, _, _, _, _, _, _, _, _, _, _, _, _, _, _, _, _, _, _, _, _, _, _, _, _, _, _, _, _, _, _, _, _, _, _, _, _, _, _, _, _, _, _, _, _, _, _, _, _, _, hk, hle, b1, by omega, hres.out, rfl, rfl, rfl, rfl, rfl, rfl⟩)⟩, by simp [mu, intOf]; omega⟩
          · have hmo : Hid (k + 1 ≤ 9 ∧ Goes s x (k + 1) (put7 k acc (byte s (x + k)))) := goes_more hk hgo.out hsh h9 (by omega)
            have g7 : 128 ≤ byte s (x + k) := by omega
            have g2 : ((k : Int) == 9) = false := by rw [beq_eq_false_iff_ne]; omega
            clear h9 h128
            go_wp2
            go_step3
            exact ⟨⟨rfl, .inr (.inl ⟨rfl, k + 1, put7 k acc (byte s (x + k)), _, _, _, _, _, _, _, _, _, _, _, _, _, _, _, _, _, _, _, _, _, _, _, _, _, _, _, _, _, _, _, _, _, _, _, _, _, _, _, _, _, _, _, _, _, _, _, _, _, _, _, _, hmo.out.1, hmo.out.2, by simp; omega, rfl, by simp, rfl⟩)⟩, by simp [mu, intOf]; omega⟩
      · have hres : Hid ((4 : Int) ≠ 0 ∧ scan s x 10 0 0 = (0, 0, 4)) := ⟨by decide, goes_short hk hgo.out (by omega)⟩
        have g1 : decide ((s.size : Int) ≤ (x : Int) + k) = true := by simp; omega
        go_wp2
        go_step3
        exact ⟨⟨rfl, .inl ⟨rfl, 4, _, _, _, _, _, _, _, _, _, _, _, _, _, _, _, _, _, _, _, _, _, _, _, _, _, _, _, _, _, _, _, _, _, _, _, _, _, _, _, _, _, _, _, _, _, _, _, _, _, _, _, _, hres, rfl, rfl⟩⟩, by simp [mu, intOf]; omega⟩
    · obtain ⟨k, u, b, v1, v7, v8, v9, v10, u11, u12, u13, u14, u15, u16, u17, u18, u19, u20, u21, u22, u23, u24, u25, u26, u27, u28, u29, u30, u31, u32, u33, u34, u35, u36, u37, u38, u39, u40, u41, u42, u43, u44, u45, u46, u47, u48, u49, u50, u51, u52, u53, u54, u55, u56, u57, hk, hu, hb, hxk, hres, rfl, rfl, rfl, rfl, rfl, rfl⟩ := hL
      refine ⟨_, rfl, ?_⟩
      have ha := and1 hu
      by_cases h0 : b = 0 ∧ 0 < k
      · have hr2 : Hid ((3 : Int) ≠ 0 ∧ scan s x 10 0 0 = (0, 0, 3)) := ⟨by decide, by have := hres.out; rw [if_pos h0] at this; exact this⟩
        have g4 : ((b : Int) == 0) = true := by rw [h0.1]; rfl
        have g5 : 0 < k := h0.2
        clear h0 hres
        go_wp2
        go_step3
        exact ⟨⟨rfl, .inl ⟨rfl, 3, _, _, _, _, _, _, _, _, _, _, _, _, _, _, _, _, _, _, _, _, _, _, _, _, _, _, _, _, _, _, _, _, _, _, _, _, _, _, _, _, _, _, _, _, _, _, _, _, _, _, _, _, hr2, rfl, rfl⟩⟩, by simp [mu]⟩
      · have hr2 : Hid (scan s x 10 0 0 = (unf u, (x : Int) + k + 1, 0)) := by have := hres.out; rw [if_neg h0] at this; exact this
        have hv : Hid (readV (scan s x 10 0 0) = .tuple #[.int .i64 (unf u), .int .i64 ((x : Int) + k + 1), .nilIface]) := by
          show _ = _
          rw [hr2.out]; rfl
        clear hres
        by_cases hz : b = 0
        · have g4 : ((b : Int) == 0) = true := by rw [hz]; rfl
          have g5 : ¬ 0 < k := by omega
          clear hz
          by_cases hp : u % 2 = 1
          · have e1 : (u : Int) % 2 = 1 := by omega
            have e2 := back_odd hp hu
            rw [e1] at ha
            clear hp h0 e1
            go_wp2
            simp only [labels]
            go_ret3
            exact ⟨by rw [hv.out]; rfl, rfl⟩
          · have e1 : (u : Int) % 2 = 0 := by omega
            have e2 := back_even hp hu
            rw [e1] at ha
            clear hp h0 e1
            go_wp2
            simp only [labels]
            go_ret3
            exact ⟨by rw [hv.out]; rfl, rfl⟩
        · have g4 : ((b : Int) == 0) = false := by rw [beq_eq_false_iff_ne]; omega
          clear hz
          by_cases hp : u % 2 = 1
          · have e1 : (u : Int) % 2 = 1 := by omega
            have e2 := back_odd hp hu
            rw [e1] at ha
            clear hp h0 e1
            go_wp2
            simp only [labels]
            go_ret3
            exact ⟨by rw [hv.out]; rfl, rfl⟩
          · have e1 : (u : Int) % 2 = 0 := by omega
            have e2 := back_even hp hu
            rw [e1] at ha
            clear hp h0 e1
            go_wp2
            simp only [labels]
            go_ret3
            exact ⟨by rw [hv.out]; rfl, rfl⟩
theorem readNum_neg (s : ByteArray) (x : Int) (hx : x < 0) (w : World) :
    Calls Try.prog 26 #[.string s, .int .i64 x] w fun e w' => e = .returned (readV (0, 0, 1)) ∧ w' = w := by
  have d2 : decide (x < 0) = true := by simp; omega
  go_enter Try.func26, Try.ntmps26
  go_wp2
  refine wp_scope_labels (fun l a w' => w' = w ∧ l = 0 ∧ ∃ (v1 v7 v8 v9 v10 u11 u12 u13 u14 u15 u16 u17 u18 u19 u20 u21 u22 u23 u24 u25 u26 u27 u28 u29 u30 u31 u32 u33 u34 u35 u36 u37 u38 u39 u40 u41 u42 u43 u44 u45 u46 u47 u48 u49 u50 u51 u52 u53 u54 u55 u56 u57 : Value), v10 = .int .i64 1 ∧ a = { tmps := #[.string s, v1, undef, undef, .int .i64 0, .int .i64 0, .nilIface, v7, v8, v9, v10, u11, u12, u13, u14, u15, u16, u17, u18, u19, u20, u21, u22, u23, u24, u25, u26, u27, u28, u29, u30, u31, u32, u33, u34, u35, u36, u37, u38, u39, u40, u41, u42, u43, u44, u45, u46, u47, u48, u49, u50, u51, u52, u53, u54, u55, u56, u57], defers := [] }) (fun _ _ _ => 0) ?first ?pass
  case first =>
    go_wp2
    go_step3
    exact ⟨rfl, rfl, _, _, _, _, _, _, _, _, _, _, _, _, _, _, _, _, _, _, _, _, _, _, _, _, _, _, _, _, _, _, _, _, _, _, _, _, _, _, _, _, _, _, _, _, _, _, _, _, _, _, _, _, rfl, rfl⟩
  case pass =>
    intro l a' w' hJ
    obtain ⟨rfl, rfl, v1, v7, v8, v9, v10, u11, u12, u13, u14, u15, u16, u17, u18, u19, u20, u21, u22, u23, u24, u25, u26, u27, u28, u29, u30, u31, u32, u33, u34, u35, u36, u37, u38, u39, u40, u41, u42, u43, u44, u45, u46, u47, u48, u49, u50, u51, u52, u53, u54, u55, u56, u57, rfl, rfl⟩ := hJ
    refine ⟨_, rfl, ?_⟩
    go_wp2
    simp only [labels]
    go_ret3
    exact ⟨rfl, rfl⟩
/-- What readNum comes to. -/
def readN (s : ByteArray) (at_ : Int) : Int × Int × Int := if at_ < 0 then (0, 0, 1) else scan s at_.toNat 10 0 0
theorem readNum_any (s : ByteArray) (x : Int) (hs : s.size ≤ 8000) (hx : x ≤ 9223372036854775807) (w : World) :
    Calls Try.prog 26 #[.string s, .int .i64 x] w fun e w' => e = .returned (readV (readN s x)) ∧ w' = w := by
  by_cases h2 : x < 0
  · rw [readN, if_pos h2]; exact readNum_neg s x h2 w
  · rw [readN, if_neg h2]
    obtain ⟨n, rfl⟩ := Int.eq_ofNat_of_zero_le (by omega : 0 ≤ x)
    exact readNum_in s n hs (by omega) w
end Go.Proofs.Ytddkmlkfphmdoab
