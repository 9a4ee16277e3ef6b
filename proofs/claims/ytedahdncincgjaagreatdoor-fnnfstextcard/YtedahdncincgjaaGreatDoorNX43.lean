/- Laid together: Scope, ReadNum, IRaT, IRa0. -/
import Derived.Scope
import Derived.ScopeJumps
import Derived.Tactics
import Derived.WalkMore
import Derived.Test.YtedahdncincgjaaGreatDoorNX40
/- A law for a body with several labels: what holds at each jump, and a measure that every jump lowers (after the guide's law for one label). -/
namespace Go.Proofs.YtedahdncincgjaaGreatDoor
open Go
/-- As Q; by a goto to label l: J l. -/
def labels (J : Nat → Act → World → Prop) (Q : Exit → Act → World → Prop) : Exit → Act → World → Prop
  | .goto l, a, w => J l a w
  | e, a, w => Q e a w
theorem wp_scope_labels {P : Program} {a : Act} {w : World} {Q : Exit → Act → World → Prop} {c : Go.Code} (J : Nat → Act → World → Prop) (μ : Nat → Act → World → Nat)
    (first : c.wp P (labels J Q) a w)
    (pass : ∀ l a w, J l a w → ∃ rest, findLabel c l = some rest ∧ rest.wp P (labels (fun l' a' w' => J l' a' w' ∧ μ l' a' w' < μ l a w) Q) a w) : (Go.Code.scope c).wp P Q a w := by
  intro b k cs
  have key : ∀ n l a w, μ l a w = n → J l a w → ∃ rest, findLabel c l = some rest ∧ ∃ e a' w', Q e a' w' ∧ Arrives P (lone (b.at a (.code rest :: .inScope c :: k)) cs w) b k cs e a' w' := by
    intro n
    induction n using Nat.strongRecOn with
    | _ n ih =>
      intro l a w hn hJ
      obtain ⟨rest, hf, hp⟩ := pass l a w hJ
      refine ⟨rest, hf, ?_⟩
      obtain ⟨e, a₁, w₁, hq, harr⟩ := hp b (.inScope c :: k) cs
      cases e with
      | normal => exact ⟨.normal, a₁, w₁, hq, Steps.trans harr (.one step_inScope)⟩
      | exit id => exact ⟨.exit id, a₁, w₁, hq, fun k' hk => harr k' (by simp [exitTo, hk])⟩
      | goto l' =>
        obtain ⟨hJ', hlt⟩ := hq
        obtain ⟨rest', hf', e₂, a₂, w₂, hq₂, harr₂⟩ := ih _ (by omega) l' a₁ w₁ rfl hJ'
        have hg : gotoIn l' (.inScope c :: k) = some (.code rest' :: .inScope c :: k) := by simp [gotoIn, hf']
        exact ⟨e₂, a₂, w₂, hq₂, .of_steps (harr _ hg) harr₂⟩
      | ret => exact ⟨_, a₁, w₁, hq, harr⟩
      | panic ch => exact ⟨_, a₁, w₁, hq, harr⟩
      | outgrown => exact ⟨_, a₁, w₁, hq, harr⟩
  obtain ⟨e, a₁, w₁, hq, harr⟩ := first b (.inScope c :: k) cs
  cases e with
  | normal => exact ⟨.normal, a₁, w₁, hq, .head step_scope (Steps.trans harr (.one step_inScope))⟩
  | exit id => exact ⟨.exit id, a₁, w₁, hq, fun k' hk => .head step_scope (harr k' (by simp [exitTo, hk]))⟩
  | goto l' =>
    obtain ⟨rest', hf', e₂, a₂, w₂, hq₂, harr₂⟩ := key _ l' a₁ w₁ rfl hq
    have hg : gotoIn l' (.inScope c :: k) = some (.code rest' :: .inScope c :: k) := by simp [gotoIn, hf']
    exact ⟨e₂, a₂, w₂, hq₂, .of_steps (.head step_scope (harr _ hg)) harr₂⟩
  | ret => exact ⟨_, a₁, w₁, hq, .of_steps (.one step_scope) harr⟩
  | panic ch => exact ⟨_, a₁, w₁, hq, .of_steps (.one step_scope) harr⟩
  | outgrown => exact ⟨_, a₁, w₁, hq, .of_steps (.one step_scope) harr⟩
end Go.Proofs.YtedahdncincgjaaGreatDoor
/- The contract of impl.readNum: at every text of at most 8000 bytes and place it answers what 'scan' says, an error beside zeros where the code is not OK. -/
namespace Go.Proofs.YtedahdncincgjaaGreatDoor
open Go.RowKit
set_option linter.unusedVariables false
/-- The error of a code. -/
def errV (c : Int) : Value := if c = 0 then .nilIface else .iface 120 (.agg #[.int .i64 c])
theorem errV_no {c : Int} (h : c ≠ 0) : errV c = .iface 120 (.agg #[.int .i64 c]) := by unfold errV; rw [if_neg h]
/-- The answer of readNum. -/
def readV (r : Int × Int × Int) : Value := .tuple #[.int .i64 r.1, .int .i64 r.2.1, errV r.2.2]
/-- What holds at the label 'wrong', 'more', 'last'. -/
def AtWrong (s : ByteArray) (x : Nat) (a : Act) : Prop := ∃ (c : Int) (v1 v7 v8 v9 v10 u11 u12 u13 u14 u15 u16 u17 u18 u19 u20 u21 u22 u23 u24 u25 u26 u27 u28 u29 u30 u31 u32 u33 u34 u35 u36 u37 u38 u39 u40 u41 u42 u43 u44 u45 u46 u47 u48 u49 u50 u51 u52 u53 u54 u55 u56 u57 : Value), Hid (c ≠ 0 ∧ scan s x 10 0 0 = (0, 0, c)) ∧ v10 = .int .i64 c ∧ a = { tmps := #[.string s, v1, undef, undef, .int .i64 0, .int .i64 0, .nilIface, v7, v8, v9, v10, u11, u12, u13, u14, u15, u16, u17, u18, u19, u20, u21, u22, u23, u24, u25, u26, u27, u28, u29, u30, u31, u32, u33, u34, u35, u36, u37, u38, u39, u40, u41, u42, u43, u44, u45, u46, u47, u48, u49, u50, u51, u52, u53, u54, u55, u56, u57], defers := [] }
def AtMore (s : ByteArray) (x : Nat) (a : Act) : Prop := ∃ (k acc : Nat) (v1 v7 v8 v9 v10 u11 u12 u13 u14 u15 u16 u17 u18 u19 u20 u21 u22 u23 u24 u25 u26 u27 u28 u29 u30 u31 u32 u33 u34 u35 u36 u37 u38 u39 u40 u41 u42 u43 u44 u45 u46 u47 u48 u49 u50 u51 u52 u53 u54 u55 u56 u57 : Value), k ≤ 9 ∧ Hid (Goes s x k acc) ∧ v1 = .int .i64 ((x : Int) + k) ∧ v7 = .int .u64 acc ∧ v9 = .int .u64 k ∧ a = { tmps := #[.string s, v1, undef, undef, .int .i64 0, .int .i64 0, .nilIface, v7, v8, v9, v10, u11, u12, u13, u14, u15, u16, u17, u18, u19, u20, u21, u22, u23, u24, u25, u26, u27, u28, u29, u30, u31, u32, u33, u34, u35, u36, u37, u38, u39, u40, u41, u42, u43, u44, u45, u46, u47, u48, u49, u50, u51, u52, u53, u54, u55, u56, u57], defers := [] }
def AtLast (s : ByteArray) (x : Nat) (a : Act) : Prop := ∃ (k u b : Nat) (v1 v7 v8 v9 v10 u11 u12 u13 u14 u15 u16 u17 u18 u19 u20 u21 u22 u23 u24 u25 u26 u27 u28 u29 u30 u31 u32 u33 u34 u35 u36 u37 u38 u39 u40 u41 u42 u43 u44 u45 u46 u47 u48 u49 u50 u51 u52 u53 u54 u55 u56 u57 : Value), k ≤ 9 ∧ u ≤ 18446744073709551615 ∧ b ≤ 255 ∧ x + k < 8000 ∧ Hid (scan s x 10 0 0 = (if b = 0 ∧ 0 < k then (0, 0, 3) else (unf u, (x : Int) + k + 1, 0))) ∧
  v1 = .int .i64 ((x : Int) + k + 1) ∧ v7 = .int .u64 u ∧ v8 = .int .u8 b ∧ v9 = .int .u64 ((k : Int) + 1) ∧ v10 = .int .i64 3 ∧ a = { tmps := #[.string s, v1, undef, undef, .int .i64 0, .int .i64 0, .nilIface, v7, v8, v9, v10, u11, u12, u13, u14, u15, u16, u17, u18, u19, u20, u21, u22, u23, u24, u25, u26, u27, u28, u29, u30, u31, u32, u33, u34, u35, u36, u37, u38, u39, u40, u41, u42, u43, u44, u45, u46, u47, u48, u49, u50, u51, u52, u53, u54, u55, u56, u57], defers := [] }
def J (s : ByteArray) (x : Nat) (w : World) (l : Nat) (a : Act) (w' : World) : Prop := w' = w ∧ (l = 0 ∧ AtWrong s x a ∨ l = 1 ∧ AtMore s x a ∨ l = 2 ∧ AtLast s x a)
def mu (l : Nat) (a : Act) (_ : World) : Nat := if l = 1 then 12 - (intOf (a.tmps.getD 9 undef)).toNat else if l = 2 then 1 else 0
theorem or_zero {b : Nat} (h : b ≤ 255) : bits .or .u64 0 ((b : Int) % 128) = (put7 0 0 b : Int) := by
  have e : ((b : Int) % 128) = ((b % 128 : Nat) : Int) := by omega
  have h0 := u64_or_nat 0 (b % 128) (by decide) (by omega)
  rw [Nat.zero_or] at h0
  rw [e, put7]
  simpa using h0
theorem xor_neg_one (n : Nat) (h : n < 9223372036854775808) : bits .xor .i64 (n : Int) (-1) = -(n : Int) - 1 := by
  have e : (BitVec.ofInt 64 (-1)) = BitVec.allOnes 64 := by decide
  have e2 : ((BitVec.ofInt 64 (n : Int)) ^^^ BitVec.allOnes 64).toNat = 18446744073709551615 - n := by
    rw [BitVec.xor_allOnes, BitVec.toNat_not, BitVec.toNat_ofInt]
    have : ((n : Int) % (2 ^ 64 : Nat)).toNat = n := by omega
    rw [this]
  show IntKind.i64.wrap (((BitVec.ofInt 64 (n : Int)) ^^^ (BitVec.ofInt 64 (-1))).toNat : Int) = _
  rw [e, e2, IntKind.wrap_i64]
  omega
theorem xor_nought (n : Nat) (h : n < 9223372036854775808) : bits .xor .i64 (n : Int) 0 = (n : Int) := by
  have e2 : ((BitVec.ofInt 64 (n : Int)) ^^^ (BitVec.ofInt 64 0)).toNat = n := by
    have e : (BitVec.ofInt 64 0) = 0#64 := by decide
    rw [e, BitVec.xor_zero, BitVec.toNat_ofInt]
    omega
  show IntKind.i64.wrap (((BitVec.ofInt 64 (n : Int)) ^^^ (BitVec.ofInt 64 0)).toNat : Int) = _
  rw [e2, IntKind.wrap_i64]
  omega
/-- impl's way back: 'int64(u>>1) ^ -int64(u&1)'. -/
theorem back_odd {u : Nat} (h : u % 2 = 1) (h2 : u ≤ 18446744073709551615) : bits .xor .i64 ((u : Int) / 2) (-1) = unf u := by
  rw [unf_odd h]
  have e : ((u : Int) / 2) = ((u / 2 : Nat) : Int) := by omega
  rw [e]
  exact xor_neg_one (u / 2) (by omega)
theorem back_even {u : Nat} (h : ¬ u % 2 = 1) (h2 : u ≤ 18446744073709551615) : bits .xor .i64 ((u : Int) / 2) 0 = unf u := by
  rw [unf_even h]
  have e : ((u : Int) / 2) = ((u / 2 : Nat) : Int) := by omega
  rw [e]
  exact xor_nought (u / 2) (by omega)
set_option maxRecDepth 100000 in
set_option maxHeartbeats 4000000 in
theorem readNum_in (s : ByteArray) (x : Nat) (hs : s.size ≤ 8000) (hx : x ≤ 9223372036854775807) (w : World) :
    Calls Tryz.prog 71 #[.string s, .int .i64 x] w fun e w' => e = .returned (readV (scan s x 10 0 0)) ∧ w' = w := by
  have hbt := get_byte s
  have d2 : decide ((x : Int) < 0) = false := by simp
  go_enter Tryz.func71, Tryz.ntmps71
  go_wp2
  refine wp_scope_labels (J s x w) mu ?first ?pass
  case first =>
    have hg0 : Hid (Goes s x 0 0) := goes_start s x
    by_cases hsh : x < s.size
    · have b1 := byte_le s x
      have ha := and127_u8 b1
      have ho := or_zero b1
      by_cases h128 : byte s x < 128
      · have hres : Hid _ := goes_last (k := 0) (by omega) hg0.out hsh (by omega) h128
        have hle := put7_le (k := 0) (acc := 0) (b := byte s x) (by omega) (by decide) (by omega)
        go_wp2
        go_step3
        go_wp2
        go_step3
        exact ⟨rfl, .inr (.inr ⟨rfl, 0, put7 0 0 (byte s x), byte s x, _, _, _, _, _, _, _, _, _, _, _, _, _, _, _, _, _, _, _, _, _, _, _, _, _, _, _, _, _, _, _, _, _, _, _, _, _, _, _, _, _, _, _, _, _, _, _, _, _, _, _, _, by omega, hle, b1, by omega, hres.out, by simp, rfl, rfl, by simp, rfl, rfl⟩)⟩
      · have hmo : Hid (0 + 1 ≤ 9 ∧ Goes s x (0 + 1) (put7 0 0 (byte s (x + 0)))) := goes_more (k := 0) (by omega) hg0.out hsh (by omega) (by simpa using Nat.le_of_not_lt h128)
        have g7 : 128 ≤ byte s x := by omega
        clear h128
        go_wp2
        go_step3
        go_wp2
        go_step3
        exact ⟨rfl, .inr (.inl ⟨rfl, 0 + 1, put7 0 0 (byte s (x + 0)), _, _, _, _, _, _, _, _, _, _, _, _, _, _, _, _, _, _, _, _, _, _, _, _, _, _, _, _, _, _, _, _, _, _, _, _, _, _, _, _, _, _, _, _, _, _, _, _, _, _, _, _, hmo.out.1, hmo.out.2, by simp, rfl, by simp, rfl⟩)⟩
    · have hres : Hid ((4 : Int) ≠ 0 ∧ scan s x 10 0 0 = (0, 0, 4)) := ⟨by decide, goes_short (k := 0) (by omega) hg0.out (by omega)⟩
      have g1 : s.size ≤ x := by omega
      clear hsh
      go_wp2
      go_step3
      go_wp2
      go_step3
      exact ⟨rfl, .inl ⟨rfl, 4, _, _, _, _, _, _, _, _, _, _, _, _, _, _, _, _, _, _, _, _, _, _, _, _, _, _, _, _, _, _, _, _, _, _, _, _, _, _, _, _, _, _, _, _, _, _, _, _, _, _, _, _, hres, rfl, rfl⟩⟩
  case pass =>
    intro l a' w' hJ
    obtain ⟨rfl, ⟨rfl, hW⟩ | ⟨rfl, hM⟩ | ⟨rfl, hL⟩⟩ := hJ
    · obtain ⟨c, v1, v7, v8, v9, v10, u11, u12, u13, u14, u15, u16, u17, u18, u19, u20, u21, u22, u23, u24, u25, u26, u27, u28, u29, u30, u31, u32, u33, u34, u35, u36, u37, u38, u39, u40, u41, u42, u43, u44, u45, u46, u47, u48, u49, u50, u51, u52, u53, u54, u55, u56, u57, hc, rfl, rfl⟩ := hW
      refine ⟨_, rfl, ?_⟩
      have hv : Hid (readV (scan s x 10 0 0) = .tuple #[.int .i64 0, .int .i64 0, .iface 120 (.agg #[.int .i64 c])]) := by
        show _ = _
        rw [hc.out.2, readV, errV_no hc.out.1]
      go_wp2
      simp only [labels]
      go_ret3
      exact ⟨by rw [hv.out]; rfl, rfl⟩
    · obtain ⟨k, acc, v1, v7, v8, v9, v10, u11, u12, u13, u14, u15, u16, u17, u18, u19, u20, u21, u22, u23, u24, u25, u26, u27, u28, u29, u30, u31, u32, u33, u34, u35, u36, u37, u38, u39, u40, u41, u42, u43, u44, u45, u46, u47, u48, u49, u50, u51, u52, u53, u54, u55, u56, u57, hk, hgo, rfl, rfl, rfl, rfl⟩ := hM
      refine ⟨_, rfl, ?_⟩
      by_cases hsh : x + k < s.size
      · have b1 := byte_le s (x + k)
        have g1 : decide ((s.size : Int) ≤ (x : Int) + k) = false := by simp; omega
        have ha := and127_u8 b1
        by_cases h9 : k = 9 ∧ 1 < byte s (x + k)
        · have hres : Hid ((3 : Int) ≠ 0 ∧ scan s x 10 0 0 = (0, 0, 3)) := ⟨by decide, goes_nine h9.1 hgo.out hsh h9.2⟩
          have g2 : ((k : Int) == 9) = true := by rw [h9.1]; rfl
          have g3 : 1 < byte s (x + k) := h9.2
          clear h9
          go_wp2
          go_step3
          exact ⟨⟨rfl, .inl ⟨rfl, 3, _, _, _, _, _, _, _, _, _, _, _, _, _, _, _, _, _, _, _, _, _, _, _, _, _, _, _, _, _, _, _, _, _, _, _, _, _, _, _, _, _, _, _, _, _, _, _, _, _, _, _, _, hres, rfl, rfl⟩⟩, by simp [mu, intOf]; omega⟩
        · have ho := put_or hk hgo.out.2 (b := byte s (x + k)) (by omega)
          have hle := put7_le hk hgo.out.2 (b := byte s (x + k)) (by omega)
          by_cases h128 : byte s (x + k) < 128
          · have hres : Hid _ := goes_last hk hgo.out hsh h9 h128
            by_cases hk9 : k = 9
            · have g2 : ((k : Int) == 9) = true := by rw [hk9]; rfl
              have g3 : decide (1 < (byte s (x + k) : Int)) = false := by simp; omega
              clear hk9 h9
              go_wp2
              go_step3
              exact ⟨⟨rfl, .inr (.inr ⟨rfl, k, put7 k acc (byte s (x + k)), byte s (x + k), _, _, _, _, _, _, _, _, _, _, _, _, _, _, _, _, _, _, _, _, _, _, _, _, _, _, _, _, _, _, _, _, _, _, _, _, _, _, _, _, _, _, _, _, _, _, _, _, _, _, _, _, hk, hle, b1, by omega, hres.out, rfl, rfl, rfl, rfl, rfl, rfl⟩)⟩, by simp [mu, intOf]; omega⟩
            · have g2 : ((k : Int) == 9) = false := by rw [beq_eq_false_iff_ne]; omega
              clear hk9 h9
              go_wp2
              go_step3
              exact ⟨⟨rfl, .inr (.inr ⟨rfl, k, put7 k acc (byte s (x + k)), byte s (x + k), _, _, _, _, _, _, _, _, _, _, _, _, _, _, _, _, _, _, _, _, _, _, _, _, _, _, _, _, _, _, _, _, _, _, _, _, _, _, _, _, _, _, _, _, _, _, _, _, _, _, _, _, hk, hle, b1, by omega, hres.out, rfl, rfl, rfl, rfl, rfl, rfl⟩)⟩, by simp [mu, intOf]; omega⟩
          · have hmo : Hid (k + 1 ≤ 9 ∧ Goes s x (k + 1) (put7 k acc (byte s (x + k)))) := goes_more hk hgo.out hsh h9 (by omega)
            have g7 : 128 ≤ byte s (x + k) := by omega
            have g2 : ((k : Int) == 9) = false := by rw [beq_eq_false_iff_ne]; omega
            clear h9 h128
            go_wp2
            go_step3
            exact ⟨⟨rfl, .inr (.inl ⟨rfl, k + 1, put7 k acc (byte s (x + k)), _, _, _, _, _, _, _, _, _, _, _, _, _, _, _, _, _, _, _, _, _, _, _, _, _, _, _, _, _, _, _, _, _, _, _, _, _, _, _, _, _, _, _, _, _, _, _, _, _, _, _, _, hmo.out.1, hmo.out.2, by simp; omega, rfl, by simp, rfl⟩)⟩, by simp [mu, intOf]; omega⟩
      · have hres : Hid ((4 : Int) ≠ 0 ∧ scan s x 10 0 0 = (0, 0, 4)) := ⟨by decide, goes_short hk hgo.out (by omega)⟩
        have g1 : decide ((s.size : Int) ≤ (x : Int) + k) = true := by simp; omega
        go_wp2
        go_step3
        exact ⟨⟨rfl, .inl ⟨rfl, 4, _, _, _, _, _, _, _, _, _, _, _, _, _, _, _, _, _, _, _, _, _, _, _, _, _, _, _, _, _, _, _, _, _, _, _, _, _, _, _, _, _, _, _, _, _, _, _, _, _, _, _, _, hres, rfl, rfl⟩⟩, by simp [mu, intOf]; omega⟩
    · obtain ⟨k, u, b, v1, v7, v8, v9, v10, u11, u12, u13, u14, u15, u16, u17, u18, u19, u20, u21, u22, u23, u24, u25, u26, u27, u28, u29, u30, u31, u32, u33, u34, u35, u36, u37, u38, u39, u40, u41, u42, u43, u44, u45, u46, u47, u48, u49, u50, u51, u52, u53, u54, u55, u56, u57, hk, hu, hb, hxk, hres, rfl, rfl, rfl, rfl, rfl, rfl⟩ := hL
      refine ⟨_, rfl, ?_⟩
      have ha := and1 hu
      by_cases h0 : b = 0 ∧ 0 < k
      · have hr2 : Hid ((3 : Int) ≠ 0 ∧ scan s x 10 0 0 = (0, 0, 3)) := ⟨by decide, by have := hres.out; rw [if_pos h0] at this; exact this⟩
        have g4 : ((b : Int) == 0) = true := by rw [h0.1]; rfl
        have g5 : 0 < k := h0.2
        clear h0 hres
        go_wp2
        go_step3
        exact ⟨⟨rfl, .inl ⟨rfl, 3, _, _, _, _, _, _, _, _, _, _, _, _, _, _, _, _, _, _, _, _, _, _, _, _, _, _, _, _, _, _, _, _, _, _, _, _, _, _, _, _, _, _, _, _, _, _, _, _, _, _, _, _, hr2, rfl, rfl⟩⟩, by simp [mu]⟩
      · have hr2 : Hid (scan s x 10 0 0 = (unf u, (x : Int) + k + 1, 0)) := by have := hres.out; rw [if_neg h0] at this; exact this
        have hv : Hid (readV (scan s x 10 0 0) = .tuple #[.int .i64 (unf u), .int .i64 ((x : Int) + k + 1), .nilIface]) := by
          show _ = _
          rw [hr2.out]; rfl
        clear hres
        by_cases hz : b = 0
        · have g4 : ((b : Int) == 0) = true := by rw [hz]; rfl
          have g5 : ¬ 0 < k := by omega
          clear hz
          by_cases hp : u % 2 = 1
          · have e1 : (u : Int) % 2 = 1 := by omega
            have e2 := back_odd hp hu
            rw [e1] at ha
            clear hp h0 e1
            go_wp2
            simp only [labels]
            go_ret3
            exact ⟨by rw [hv.out]; rfl, rfl⟩
          · have e1 : (u : Int) % 2 = 0 := by omega
            have e2 := back_even hp hu
            rw [e1] at ha
            clear hp h0 e1
            go_wp2
            simp only [labels]
            go_ret3
            exact ⟨by rw [hv.out]; rfl, rfl⟩
        · have g4 : ((b : Int) == 0) = false := by rw [beq_eq_false_iff_ne]; omega
          clear hz
          by_cases hp : u % 2 = 1
          · have e1 : (u : Int) % 2 = 1 := by omega
            have e2 := back_odd hp hu
            rw [e1] at ha
            clear hp h0 e1
            go_wp2
            simp only [labels]
            go_ret3
            exact ⟨by rw [hv.out]; rfl, rfl⟩
          · have e1 : (u : Int) % 2 = 0 := by omega
            have e2 := back_even hp hu
            rw [e1] at ha
            clear hp h0 e1
            go_wp2
            simp only [labels]
            go_ret3
            exact ⟨by rw [hv.out]; rfl, rfl⟩
end Go.Proofs.YtedahdncincgjaaGreatDoor
/- An ace read of bytes by the program: readAceBytes. -/
namespace Go.Proofs.YtedahdncincgjaaGreatDoor
open Go.RowKit Go.PlainAid Go.Deep
set_option linter.unusedVariables false
theorem readNum_some {s : ByteArray} {p q : Nat} {n : Int} (hs : s.size ≤ 8000) (hp : p ≤ 8000) (h : rd1 s p = some (n, q)) (w : World) :
    Calls Tryz.prog 71 #[.string s, .int .i64 (p : Int)] w fun e w' => e = .returned (.tuple #[.int .i64 n, .int .i64 (q : Int), .nilIface]) ∧ w' = w := by
  have h1 := readNum_in s p hs (by omega) w
  rw [rd1_some h] at h1
  exact h1
theorem readNum_none {s : ByteArray} {p : Nat} (hs : s.size ≤ 8000) (hp : p ≤ 8000) (h : rd1 s p = none) : ∃ c : Int, ∀ w : World,
    Calls Tryz.prog 71 #[.string s, .int .i64 (p : Int)] w fun e w' => e = .returned (.tuple #[.int .i64 0, .int .i64 0, .iface 120 (.agg #[.int .i64 c])]) ∧ w' = w := by
  obtain ⟨c, hc, e⟩ := rd1_none h
  refine ⟨c, fun w => ?_⟩
  have h1 := readNum_in s p hs (by omega) w
  rw [e, readV, errV_no hc] at h1
  exact h1
/-- What readAceBytes ends in. -/
def AceB (s : ByteArray) (p : Nat) (w : World) (e : Ending) (w' : World) : Prop := Below w.heap.size w w' ∧ ((rdAc s p = none ∧ ∃ (x : Ac) (q : Int), e = .returned (.tuple #[.agg #[.bool x.al, .int .i64 x.wh, .int .i64 x.id, .int .i64 x.fl, .int .i64 x.ma], .int .i64 q, .bool false])) ∨ ∃ (x : Ac) (q : Nat), rdAc s p = some (x, q) ∧ q ≤ s.size ∧ e = .returned (.tuple #[.agg #[.bool x.al, .int .i64 x.wh, .int .i64 x.id, .int .i64 x.fl, .int .i64 x.ma], .int .i64 (q : Int), .bool true]))
theorem ace_ill {s : ByteArray} {p : Nat} {w w' : World} (h : rdAc s p = none) (hb : Below w.heap.size w w') : AceB s p w (.returned (.tuple #[.agg #[.bool false, .int .i64 0, .int .i64 0, .int .i64 0, .int .i64 0], .int .i64 0, .bool false])) w' := ⟨hb, .inl ⟨h, acZ, 0, rfl⟩⟩
/-- Five cells that may be written. -/
structure W5 (w : World) (b : Nat) (v0 v1 v2 v3 v4 : Value) : Prop where
  lt : b < w.heap.size
  c0 : w.cell? ⟨b, 0, none⟩ = some v0
  c1 : w.cell? ⟨b, 1, none⟩ = some v1
  c2 : w.cell? ⟨b, 2, none⟩ = some v2
  c3 : w.cell? ⟨b, 3, none⟩ = some v3
  c4 : w.cell? ⟨b, 4, none⟩ = some v4
  z : ∀ o, w.frozen? ⟨b, o, none⟩ = false
theorem W5.keep {w w' : World} {b : Nat} {v0 v1 v2 v3 v4 : Value} (h : W5 w b v0 v1 v2 v3 v4) (hs : w.heap.size ≤ w'.heap.size) (hk : w'.heap[b]? = w.heap[b]?) : W5 w' b v0 v1 v2 v3 v4 := by
  have hc : ∀ o, w'.cell? ⟨b, o, none⟩ = w.cell? ⟨b, o, none⟩ := fun o => World.cell?_of_block (a := ⟨b, o, none⟩) hk
  exact ⟨Nat.lt_of_lt_of_le h.lt hs, (hc 0).trans h.c0, (hc 1).trans h.c1, (hc 2).trans h.c2, (hc 3).trans h.c3, (hc 4).trans h.c4, fun o => (World.frozen?_of_block (a := ⟨b, o, none⟩) hk).trans (h.z o)⟩
theorem W5.below {w w' : World} {b : Nat} {v0 v1 v2 v3 v4 : Value} (h : W5 w b v0 v1 v2 v3 v4) (hb : Below w.heap.size w w') : W5 w' b v0 v1 v2 v3 v4 := h.keep hb.size (hb.block b h.lt)
theorem w5_new (w : World) (v0 v1 v2 v3 v4 : Value) (t : TypeId) : W5 (w.alloc (.cells #[v0, v1, v2, v3, v4] t)) w.heap.size v0 v1 v2 v3 v4 := by
  have hb : (w.alloc (.cells #[v0, v1, v2, v3, v4] t)).heap[w.heap.size]? = some (.cells #[v0, v1, v2, v3, v4] t) := by
    rw [World.alloc]
    exact Array.getElem?_push_size
  refine ⟨by simp, ?_, ?_, ?_, ?_, ?_, fun o => ?_⟩
  · simp only [World.cell?, hb]; rfl
  · simp only [World.cell?, hb]; rfl
  · simp only [World.cell?, hb]; rfl
  · simp only [World.cell?, hb]; rfl
  · simp only [World.cell?, hb]; rfl
  · unfold World.frozen?
    simp only [hb]
    simp
theorem W5.all {w : World} {b : Nat} {v0 v1 v2 v3 v4 : Value} (h : W5 w b v0 v1 v2 v3 v4) (u0 u1 u2 u3 u4 : Value) : W5 (((((w.setCell ⟨b, 0, none⟩ u0).setCell ⟨b, 1, none⟩ u1).setCell ⟨b, 2, none⟩ u2).setCell ⟨b, 3, none⟩ u3).setCell ⟨b, 4, none⟩ u4) b u0 u1 u2 u3 u4 := by
  obtain ⟨hl, c0, c1, c2, c3, c4, hz⟩ := h
  refine ⟨by simpa using hl, ?_, ?_, ?_, ?_, ?_, fun o => by simp only [World.frozen?_setCell]; exact hz o⟩ <;> simp [go_sem, *]
set_option maxRecDepth 100000 in
set_option maxHeartbeats 8000000 in
theorem iReadA_zero (s : ByteArray) (hs : s.size ≤ 8000) (p0 : Nat) (q0 : p0 ≤ 8000) (n1 n2 n3 n4 : Int) (p1 p2 p3 p4 p5 : Nat) (e0 : rd1 s p0 = some (0, p1)) (e1 : rd1 s p1 = some (n1, p2)) (e2 : rd1 s p2 = some (n2, p3)) (e3 : rd1 s p3 = some (n3, p4)) (e4 : rd1 s p4 = some (n4, p5)) (w : World) :
    Calls Tryz.prog 72 #[.string s, .int .i64 (p0 : Int)] w (AceB s p0 w) := by
  have q1 : p1 ≤ 8000 := by have := rd1_le e0; omega
  have q2 : p2 ≤ 8000 := by have := rd1_le e1; omega
  have q3 : p3 ≤ 8000 := by have := rd1_le e2; omega
  have q4 : p4 ≤ 8000 := by have := rd1_le e3; omega
  have d0 : Hid (∀ w, Calls Tryz.prog 71 #[.string s, .int .i64 (p0 : Int)] w fun e w' => e = .returned (.tuple #[.int .i64 0, .int .i64 (p1 : Int), .nilIface]) ∧ w' = w) := readNum_some hs q0 e0
  have d1 : Hid (∀ w, Calls Tryz.prog 71 #[.string s, .int .i64 (p1 : Int)] w fun e w' => e = .returned (.tuple #[.int .i64 n1, .int .i64 (p2 : Int), .nilIface]) ∧ w' = w) := readNum_some hs q1 e1
  have d2 : Hid (∀ w, Calls Tryz.prog 71 #[.string s, .int .i64 (p2 : Int)] w fun e w' => e = .returned (.tuple #[.int .i64 n2, .int .i64 (p3 : Int), .nilIface]) ∧ w' = w) := readNum_some hs q2 e2
  have d3 : Hid (∀ w, Calls Tryz.prog 71 #[.string s, .int .i64 (p3 : Int)] w fun e w' => e = .returned (.tuple #[.int .i64 n3, .int .i64 (p4 : Int), .nilIface]) ∧ w' = w) := readNum_some hs q3 e3
  have d4 : Hid (∀ w, Calls Tryz.prog 71 #[.string s, .int .i64 (p4 : Int)] w fun e w' => e = .returned (.tuple #[.int .i64 n4, .int .i64 (p5 : Int), .nilIface]) ∧ w' = w) := readNum_some hs q4 e4
  have HEND : Hid (∀ w', Below w.heap.size w w' → AceB s p0 w (.returned (.tuple #[.agg #[.bool false, .int .i64 n1, .int .i64 n2, .int .i64 n3, .int .i64 n4], .int .i64 (p5 : Int), .bool (aceB ⟨false, n1, n2, n3, n4⟩)])) w') := (fun w' hb => by
    have hr : rdAc s p0 = if aceB ⟨false, n1, n2, n3, n4⟩ = true then some (⟨false, n1, n2, n3, n4⟩, p5) else none := by
      unfold rdAc
      simp only [e0, e1, e2, e3, e4]
      simp
    refine ⟨hb, ?_⟩
    cases h : aceB ⟨false, n1, n2, n3, n4⟩
    · rw [h] at hr
      exact .inl ⟨by simpa using hr, ⟨false, n1, n2, n3, n4⟩, (p5 : Int), rfl⟩
    · rw [h] at hr
      exact .inr ⟨⟨false, n1, n2, n3, n4⟩, p5, by simpa using hr, rd1_le e4, rfl⟩)
  have HAR : Hid (∀ w, Calls Tryz.prog 26 #[.agg #[.bool false, .int .i64 n1, .int .i64 n2, .int .i64 n3, .int .i64 n4]] w fun e w' => e = .returned (.bool (aceB ⟨false, n1, n2, n3, n4⟩)) ∧ Below w.heap.size w w') := iAceRight_any ⟨false, n1, n2, n3, n4⟩
  generalize aceB ⟨false, n1, n2, n3, n4⟩ = AB at HEND HAR
  clear e0 e1 e2 e3 e4 q0 q1 q2 q3 q4
  have hR0 : Hid (W5 (((w.alloc (.cells #[.bool false, .int .i64 0, .int .i64 0, .int .i64 0, .int .i64 0] 24)).alloc (.cells #[.int .i64 0, .int .i64 n1, .int .i64 n2, .int .i64 n3, .int .i64 n4] 121)).alloc (.cells #[.bool false, .int .i64 n1, .int .i64 n2, .int .i64 n3, .int .i64 n4] 24)) w.heap.size (.bool false) (.int .i64 0) (.int .i64 0) (.int .i64 0) (.int .i64 0)) := ((w5_new w _ _ _ _ _ 24).below (bel_alloc _ _)).below (bel_alloc _ _)
  have hX0 : Hid (W5 (((w.alloc (.cells #[.bool false, .int .i64 0, .int .i64 0, .int .i64 0, .int .i64 0] 24)).alloc (.cells #[.int .i64 0, .int .i64 n1, .int .i64 n2, .int .i64 n3, .int .i64 n4] 121)).alloc (.cells #[.bool false, .int .i64 n1, .int .i64 n2, .int .i64 n3, .int .i64 n4] 24)) (w.heap.size + 2) (.bool false) (.int .i64 n1) (.int .i64 n2) (.int .i64 n3) (.int .i64 n4)) := (by
    have := w5_new ((w.alloc (.cells #[.bool false, .int .i64 0, .int .i64 0, .int .i64 0, .int .i64 0] 24)).alloc (.cells #[.int .i64 0, .int .i64 n1, .int .i64 n2, .int .i64 n3, .int .i64 n4] 121)) (.bool false) (.int .i64 n1) (.int .i64 n2) (.int .i64 n3) (.int .i64 n4) 24
    have hz : ((w.alloc (.cells #[.bool false, .int .i64 0, .int .i64 0, .int .i64 0, .int .i64 0] 24)).alloc (.cells #[.int .i64 0, .int .i64 n1, .int .i64 n2, .int .i64 n3, .int .i64 n4] 121)).heap.size = w.heap.size + 2 := by simp
    rw [hz] at this
    exact this)
  have hW0 : Hid (Below w.heap.size w (((w.alloc (.cells #[.bool false, .int .i64 0, .int .i64 0, .int .i64 0, .int .i64 0] 24)).alloc (.cells #[.int .i64 0, .int .i64 n1, .int .i64 n2, .int .i64 n3, .int .i64 n4] 121)).alloc (.cells #[.bool false, .int .i64 n1, .int .i64 n2, .int .i64 n3, .int .i64 n4] 24))) := Below.on (Below.on (bel_alloc _ _) (bel_alloc _ _)) (bel_alloc _ _)
  go_enter Tryz.func72, Tryz.ntmps72
  go_wp2
  refine wp_loop_rounds 6 ?_
  rw [rounds_succ]
  go_wp2_with fail
  refine (d0.out _).mono ?_
  rintro e w0 ⟨rfl, rfl⟩
  go_wp2
  rw [rounds_succ]
  go_wp2_with fail
  refine (d1.out _).mono ?_
  rintro e w1 ⟨rfl, rfl⟩
  go_wp2
  rw [rounds_succ]
  go_wp2_with fail
  refine (d2.out _).mono ?_
  rintro e w2 ⟨rfl, rfl⟩
  go_wp2
  rw [rounds_succ]
  go_wp2_with fail
  refine (d3.out _).mono ?_
  rintro e w3 ⟨rfl, rfl⟩
  go_wp2
  rw [rounds_succ]
  go_wp2_with fail
  refine (d4.out _).mono ?_
  rintro e w4 ⟨rfl, rfl⟩
  go_wp2
  rw [rounds_succ]
  go_upto_region 12 with fail
  generalize (((w.alloc (.cells #[.bool false, .int .i64 0, .int .i64 0, .int .i64 0, .int .i64 0] 24)).alloc (.cells #[.int .i64 0, .int .i64 n1, .int .i64 n2, .int .i64 n3, .int .i64 n4] 121)).alloc (.cells #[.bool false, .int .i64 n1, .int .i64 n2, .int .i64 n3, .int .i64 n4] 24)) = wz at hR0 hX0 hW0 ⊢
  obtain ⟨rl, r0, r1, r2, r3, r4, rz⟩ := hR0.out
  have rz0 := rz 0
  have rz1 := rz 1
  have rz2 := rz 2
  have rz3 := rz 3
  have rz4 := rz 4
  obtain ⟨xl, x0, x1, x2, x3, x4, xz⟩ := hX0.out
  clear rz xz d0 d1 d2 d3 d4
  first | go_region_law (go_simp; go_at_call 26; refine (HAR.out _).mono ?_; rintro e wq ⟨rfl, hbq⟩; have HBQ : Hid (Below wz.heap.size wz wq) := bdZ hbq; have hRq := hR0.out.below HBQ.out; have hXq := hX0.out.below HBQ.out; have HRQ : Hid _ := hRq; obtain ⟨tl, t0, t1, t2, t3, t4, tz⟩ := hRq; have tz0 := tz 0; have tz1 := tz 1; have tz2 := tz 2; have tz3 := tz 3; have tz4 := tz 4; obtain ⟨yl, y0, y1, y2, y3, y4, yz⟩ := hXq; clear tz yz hbq) | fail
  all_goals
    have HP5 : Hid _ := HRQ.out.all (.bool false) (.int .i64 n1) (.int .i64 n2) (.int .i64 n3) (.int .i64 n4)
    have HW5 : Hid (Below w.heap.size w (((((wq.setCell ⟨w.heap.size, 0, none⟩ (.bool false)).setCell ⟨w.heap.size, 1, none⟩ (.int .i64 n1)).setCell ⟨w.heap.size, 2, none⟩ (.int .i64 n2)).setCell ⟨w.heap.size, 3, none⟩ (.int .i64 n3)).setCell ⟨w.heap.size, 4, none⟩ (.int .i64 n4))) := (((((Below.on hW0.out HBQ.out).setCell (Nat.le_refl _) _).setCell (Nat.le_refl _) _).setCell (Nat.le_refl _) _).setCell (Nat.le_refl _) _).setCell (Nat.le_refl _) _
    generalize (((((wq.setCell ⟨w.heap.size, 0, none⟩ (.bool false)).setCell ⟨w.heap.size, 1, none⟩ (.int .i64 n1)).setCell ⟨w.heap.size, 2, none⟩ (.int .i64 n2)).setCell ⟨w.heap.size, 3, none⟩ (.int .i64 n3)).setCell ⟨w.heap.size, 4, none⟩ (.int .i64 n4)) = w9 at HP5 HW5 ⊢
    clear rl r0 r1 r2 r3 r4 rz0 rz1 rz2 rz3 rz4 xl x0 x1 x2 x3 x4 tl t0 t1 t2 t3 t4 tz0 tz1 tz2 tz3 tz4 yl y0 y1 y2 y3 y4
    obtain ⟨zl, z0, z1, z2, z3, z4, zz⟩ := HP5.out
    go_wp2
    exact bodyPost_ret (v := .tuple #[.agg #[.bool false, .int .i64 n1, .int .i64 n2, .int .i64 n3, .int .i64 n4], .int .i64 (p5 : Int), .bool AB]) (by simp [results, Tryz.results72, go_sem, z0, z1, z2, z3, z4]) rfl (HEND.out _ HW5.out)
end Go.Proofs.YtedahdncincgjaaGreatDoor
