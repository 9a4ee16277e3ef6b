/- impl.readMode: nine signs read, place by place. -/
import Derived.Test.YtibofkjonepbpaaDoorPRead
import Derived.Test.YtibofkjonepbpaaDoorPlW
namespace Go.Proofs.YtibofkjonepbpaaDoor
open Go.RowKit Go.PlainAid
set_option linter.unusedVariables false
set_option linter.unusedSimpArgs false
theorem jx0 (w : World) : (Instr.index 92 (.agg #[.int .i64 6, .int .i64 2048, .int .u8 115, .int .u8 83, .int .i64 3, .int .i64 1024, .int .u8 115, .int .u8 83, .int .i64 0, .int .i64 512, .int .u8 116, .int .u8 84]) (.int .i64 0)).run Tryd.prog w = .ok (.agg #[.int .i64 6, .int .i64 2048, .int .u8 115, .int .u8 83]) w := by kernel_rfl
theorem jx1 (w : World) : (Instr.index 92 (.agg #[.int .i64 6, .int .i64 2048, .int .u8 115, .int .u8 83, .int .i64 3, .int .i64 1024, .int .u8 115, .int .u8 83, .int .i64 0, .int .i64 512, .int .u8 116, .int .u8 84]) (.int .i64 1)).run Tryd.prog w = .ok (.agg #[.int .i64 3, .int .i64 1024, .int .u8 115, .int .u8 83]) w := by kernel_rfl
theorem jx2 (w : World) : (Instr.index 92 (.agg #[.int .i64 6, .int .i64 2048, .int .u8 115, .int .u8 83, .int .i64 3, .int .i64 1024, .int .u8 115, .int .u8 83, .int .i64 0, .int .i64 512, .int .u8 116, .int .u8 84]) (.int .i64 2)).run Tryd.prog w = .ok (.agg #[.int .i64 0, .int .i64 512, .int .u8 116, .int .u8 84]) w := by kernel_rfl
set_option maxHeartbeats 1000000 in
theorem readMode_size (s : ByteArray) (h : (s.size : Int) ≠ 9) (w : World) :
    Calls Tryd.prog 94 #[.string s] w fun e w' => e = .returned (optV (rdM s)) ∧ Below w.heap.size w w' := by
  have hy : Hid (rdM s = none) := rdM_size (by omega)
  have c1 : ((s.size : Int) != 9) = true := by rw [bne_iff_ne]; exact h
  clear h
  go_enter Tryd.func94, Tryd.ntmps94
  go_wp2
  go_ret2
  exact ⟨by rw [hy.out]; rfl, Below.refl _ _⟩
theorem or12 : ∀ u, u < 8 → ∀ x, x < 2 → ∀ g, g < 8 → ∀ y, y < 2 → (64 * u + 2048 * x) ||| (8 * g + 1024 * y) = 64 * u + 2048 * x + (8 * g + 1024 * y) := by decide +kernel
theorem or3 : ∀ a, a < 8 → ∀ b, b < 8 → ∀ x, x < 4 → ∀ o, o < 8 → ∀ z, z < 2 → (64 * a + 8 * b + 1024 * x) ||| (o + 512 * z) = 64 * a + 8 * b + 1024 * x + (o + 512 * z) := by decide +kernel
theorem bl_mul (b : Bool) (n : Nat) : ∃ x, x < 2 ∧ bl b n = n * x := by
  cases b
  · exact ⟨0, by decide, by simp [bl]⟩
  · exact ⟨1, by decide, by simp [bl]⟩
/-- The three numbers, how they are put together, and what the whole comes to. -/
theorem mode_vals (s : ByteArray) (h9 : s.size = 9) : ∃ V1 V2 V3 : Nat, pv1 (s.extract 0 3) = (V1 : Int) ∧ pv2 (s.extract 3 6) = (V2 : Int) ∧ pv3 (s.extract 6 9) = (V3 : Int) ∧ V1 ≤ 4095 ∧ V2 ≤ 4095 ∧ V3 ≤ 4095 ∧
    bits .or .i64 0 (V1 : Int) = (V1 : Int) ∧ bits .or .i64 (V1 : Int) (V2 : Int) = ((V1 + V2 : Nat) : Int) ∧ bits .or .i64 ((V1 + V2 : Nat) : Int) (V3 : Int) = ((V1 + V2 + V3 : Nat) : Int) ∧
    rdM s = if (rdB (fixT (s.extract 0 3) 115 83)).isSome && ((rdB (fixT (s.extract 3 6) 115 83)).isSome && (rdB (fixT (s.extract 6 9) 116 84)).isSome) then some (V1 + V2 + V3) else none := by
  have u7 := rd_le (fixT (s.extract 0 3) 115 83)
  have g7 := rd_le (fixT (s.extract 3 6) 115 83)
  have o7 := rd_le (fixT (s.extract 6 9) 116 84)
  obtain ⟨x, hx, ex⟩ := bl_mul (isX (s.extract 0 3) 115 83) 2048
  obtain ⟨y, hy, ey⟩ := bl_mul (isX (s.extract 3 6) 115 83) 1024
  obtain ⟨z, hz, ez⟩ := bl_mul (isX (s.extract 6 9) 116 84) 512
  have e1 := or12 _ (Nat.lt_succ_of_le u7) x hx _ (Nat.lt_succ_of_le g7) y hy
  have e2 := or3 _ (Nat.lt_succ_of_le u7) _ (Nat.lt_succ_of_le g7) (2 * x + y) (by omega) _ (Nat.lt_succ_of_le o7) z hz
  refine ⟨64 * (rdB (fixT (s.extract 0 3) 115 83)).getD 0 + 2048 * x, 8 * (rdB (fixT (s.extract 3 6) 115 83)).getD 0 + 1024 * y, (rdB (fixT (s.extract 6 9) 116 84)).getD 0 + 512 * z, ?_, ?_, ?_, by omega, by omega, by omega, ?_, ?_, ?_, ?_⟩
  · unfold pv1; rw [ex]; omega
  · unfold pv2; rw [ey]; omega
  · unfold pv3; rw [ez]; omega
  · have := i64_or_nat 0 (64 * (rdB (fixT (s.extract 0 3) 115 83)).getD 0 + 2048 * x) (by decide) (by omega)
    rw [Nat.zero_or] at this
    exact this
  · rw [i64_or_nat _ _ (by omega) (by omega), e1]
  · rw [i64_or_nat _ _ (by omega) (by omega)]
    congr 1
    have q : 64 * (rdB (fixT (s.extract 0 3) 115 83)).getD 0 + 2048 * x + (8 * (rdB (fixT (s.extract 3 6) 115 83)).getD 0 + 1024 * y) = 64 * (rdB (fixT (s.extract 0 3) 115 83)).getD 0 + 8 * (rdB (fixT (s.extract 3 6) 115 83)).getD 0 + 1024 * (2 * x + y) := by omega
    rw [q, e2]
  · unfold rdM
    rw [if_pos h9, ex, ey, ez]
    cases r1 : rdB (fixT (s.extract 0 3) 115 83) <;> cases r2 : rdB (fixT (s.extract 3 6) 115 83) <;> cases r3 : rdB (fixT (s.extract 6 9) 116 84) <;> simp
    omega
theorem bl_drR {w w' : World} {o : Obj} (h : Below (w.alloc o).drew.heap.size (w.alloc o).drew w') : Below w.heap.size w w' := ((Below.refl _ _).alloc (Nat.le_refl _) _).trans ⟨h.os, h.tape, h.output, Nat.le_trans (by simp) h.size, fun k hk => h.block k (Nat.lt_of_lt_of_le hk (by simp))⟩
set_option maxRecDepth 100000 in
set_option maxHeartbeats 16000000 in
theorem readMode_nine (s : ByteArray) (h9 : s.size = 9) (w : World) (hp : PlW w) :
    Calls Tryd.prog 94 #[.string s] w fun e w' => e = .returned (optV (rdM s)) ∧ Below w.heap.size w w' := by
  have z1 : (s.extract 0 3).size = 3 := by rw [ByteArray.size_extract, h9]; rfl
  have z2 : (s.extract 3 6).size = 3 := by rw [ByteArray.size_extract, h9]; rfl
  have z3 : (s.extract 6 9).size = 3 := by rw [ByteArray.size_extract, h9]; rfl
  have H1 : Hid (∀ w, Calls Tryd.prog 125 #[.agg #[.int .i64 6, .int .i64 2048, .int .u8 115, .int .u8 83], .string (s.extract 0 3)] w fun e w' => e = .returned (.tuple #[.int .i64 (pv1 (s.extract 0 3)), .bool (rdB (fixT (s.extract 0 3) 115 83)).isSome]) ∧ Below w.heap.size w w') := read1_any _ z1
  have H2 : Hid (∀ w, Calls Tryd.prog 125 #[.agg #[.int .i64 3, .int .i64 1024, .int .u8 115, .int .u8 83], .string (s.extract 3 6)] w fun e w' => e = .returned (.tuple #[.int .i64 (pv2 (s.extract 3 6)), .bool (rdB (fixT (s.extract 3 6) 115 83)).isSome]) ∧ Below w.heap.size w w') := read2_any _ z2
  have H3 : Hid (∀ w, Calls Tryd.prog 125 #[.agg #[.int .i64 0, .int .i64 512, .int .u8 116, .int .u8 84], .string (s.extract 6 9)] w fun e w' => e = .returned (.tuple #[.int .i64 (pv3 (s.extract 6 9)), .bool (rdB (fixT (s.extract 6 9) 116 84)).isSome]) ∧ Below w.heap.size w w') := read3_any _ z3
  obtain ⟨V1, V2, V3, e1, e2, e3, b1, b2, b3, o1, o2, o3, hy0⟩ := mode_vals s h9
  rw [e1] at H1
  rw [e2] at H2
  rw [e3] at H3
  generalize (rdB (fixT (s.extract 0 3) 115 83)).isSome = k1 at H1 hy0
  generalize (rdB (fixT (s.extract 3 6) 115 83)).isSome = k2 at H2 hy0
  generalize (rdB (fixT (s.extract 6 9) 116 84)).isSome = k3 at H3 hy0
  have hy : Hid (rdM s = if k1 && (k2 && k3) then some (V1 + V2 + V3) else none) := hy0
  clear e1 e2 e3 hy0 z1 z2 z3
  generalize V1 + V2 = V12 at o2 o3 hy
  generalize V12 + V3 = V at o3 hy
  have q3 : IntKind.i64.wrap 3 = 3 := by decide
  have q6 : IntKind.i64.wrap 6 = 6 := by decide
  have q9 : IntKind.i64.wrap 9 = 9 := by decide
  obtain ⟨hlt, p0, p1, p2, p3, p4, p5, p6, p7, p8, p9, p10, p11⟩ := hp
  have i0 := jx0
  have i1 := jx1
  have i2 := jx2
  go_enter Tryd.func94, Tryd.ntmps94
  go_wp2
  refine wp_loop_rounds 4 ?_
  rw [rounds_succ]
  go_wp2
  clear p0 p1 p2 p3 p4 p5 p6 p7 p8 p9 p10 p11
  go_region_with (go_at_call 125; refine (H1.out _).mono ?_; rintro e w1 ⟨rfl, hb1⟩)
  all_goals (
    have B1 : Hid (Below w.heap.size w w1) := bl_drR hb1
    clear hb1
    cases k1
    · have hn : Hid (rdM s = none) := hy
      go_wp2
      go_ret2
      exact ⟨by rw [hn.out]; rfl, B1.out⟩
    · go_wp2
      rw [rounds_succ]
      go_wp2
      go_region_with (go_at_call 125; refine (H2.out _).mono ?_; rintro e w2 ⟨rfl, hb2⟩)
      all_goals (
        have B2 : Hid (Below w.heap.size w w2) := bl_thenR B1.out (bl_drR hb2)
        clear hb2
        cases k2
        · have hn : Hid (rdM s = none) := hy
          go_wp2
          go_ret2
          exact ⟨by rw [hn.out]; rfl, B2.out⟩
        · go_wp2
          rw [rounds_succ]
          go_wp2
          go_region_with (go_at_call 125; refine (H3.out _).mono ?_; rintro e w3 ⟨rfl, hb3⟩)
          all_goals (
            have B3 : Hid (Below w.heap.size w w3) := bl_thenR B2.out (bl_drR hb3)
            clear hb3
            cases k3
            · have hn : Hid (rdM s = none) := hy
              go_wp2
              go_ret2
              exact ⟨by rw [hn.out]; rfl, B3.out⟩
            · have hn : Hid (rdM s = some V) := hy
              go_wp2
              rw [rounds_succ]
              go_wp2
              go_ret2
              exact ⟨by rw [hn.out]; rfl, B3.out⟩)))
/-- impl.readMode, of whatever text. -/
theorem readMode_any (s : ByteArray) (w : World) (hp : PlW w) :
    Calls Tryd.prog 94 #[.string s] w fun e w' => e = .returned (optV (rdM s)) ∧ Below w.heap.size w w' := by
  by_cases h : s.size = 9
  · exact readMode_nine s h w hp
  · exact readMode_size s (by omega) w
end Go.Proofs.YtibofkjonepbpaaDoor
