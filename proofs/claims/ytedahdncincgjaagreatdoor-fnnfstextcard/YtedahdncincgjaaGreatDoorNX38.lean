/- Laid together: PutNumWalks. -/
import Derived.Test.YtedahdncincgjaaGreatDoorNX1
/- The contracts of spec.PutNum, impl.PutNum and spec.l01Fold: both PutNums hand back the bytes of the number. -/
namespace Go.Proofs.YtedahdncincgjaaGreatDoor
open Go.RowKit Go.PlainAid
set_option linter.unusedVariables false
theorem infoByte : (Tryz.prog.info? 5).map (fun i => (i.zero, i.size, i.bytes)) = some (some (.int .u8 0), 1, 1) := by kernel_rfl
theorem ret_u64 {a b : Int} (h : a = b) : Ending.returned (.int .u64 a) = .returned (.int .u64 b) := by rw [h]
/-- spec.l01Fold. -/
theorem l01Fold_any (n : Int) (h1 : -9223372036854775808 ≤ n) (h2 : n ≤ 9223372036854775807) (w : World) :
    Calls Tryz.prog 79 #[.int .i64 n] w fun e w' => e = .returned (.int .u64 (foldN n : Int)) ∧ w' = w := by
  by_cases hn : n < 0
  · have H : Hid ((foldN n : Int) = 2 * -(n + 1) + 1) := fold_neg hn
    go_enter Tryz.func79, Tryz.ntmps79
    go_wp2
    go_ret
    exact ⟨ret_u64 H.out.symm, rfl⟩
  · have H : Hid ((foldN n : Int) = 2 * n) := fold_pos (by omega)
    have h0 : 0 ≤ n := by omega
    clear hn
    go_enter Tryz.func79, Tryz.ntmps79
    go_wp2
    go_ret
    exact ⟨ret_u64 H.out.symm, rfl⟩
set_option maxRecDepth 100000 in
set_option maxHeartbeats 1000000 in
/-- spec.PutNum. -/
theorem sPutNum_any (n : Int) (h1 : -9223372036854775808 ≤ n) (h2 : n ≤ 9223372036854775807) (w : World) :
    Calls Tryz.prog 49 #[.int .i64 n] w fun e w' => e = .returned (.string ⟨(enc (foldN n)).toArray⟩) ∧ Below w.heap.size w w' := by
  obtain ⟨i0, hi, hz0, hz1, hz2⟩ := info_parts infoByte
  have hm := fold_le h1 h2
  have hF : Hid (∀ w, Calls Tryz.prog 79 #[.int .i64 n] w fun e w' => e = .returned (.int .u64 (foldN n : Int)) ∧ w' = w) := l01Fold_any n h1 h2
  generalize foldN n = m at hm hF ⊢
  go_enter Tryz.func49, Tryz.ntmps49
  go_wp2_with (go_at_call 79; refine (hF.out _).mono ?_; rintro e w0 ⟨rfl, rfl⟩)
  clear hF
  go_loopw [3, 4] (fun x v wr => ∃ (acc : List UInt8) (u : Nat), u ≤ m ∧ x = .int .u64 u ∧ Hid (acc ++ enc u = enc m) ∧ Hid (wr.ownsRow w0.heap.size 5 1 v acc.length (Lib.byteCells acc)) ∧ Below w0.heap.size w0 wr) (fun x _ _ => (intOf x).toNat)
  case atStart => exact ⟨[], m, Nat.le_refl _, rfl, rfl, own_start w0 _, (Below.refl _ _).alloc (Nat.le_refl _) _⟩
  case round =>
    obtain ⟨acc, u, hu, rfl, hacc, hown, hbel⟩ := hrel
    have hla := acc_le hm hacc.out
    have hsz := hbel.size
    by_cases hlt : 128 ≤ u
    · go_wp2_with (at_builtin; refine wpList_append_own _ rfl (.tmp 10) (.tmp 15) 22 rfl w0.heap.size 5 i0 (.int .u8 0) 1 1 Tryz.underlying22 hi hz0 hz1 hz2 rfl (by decide) _ acc.length (Lib.byteCells acc) rfl (hown.out.alloc _) ⟨wr.heap.size, 0, none⟩ 1 1 [_] rfl rfl (cell_one_new _ _ _) (one_cell _) (by unfold maxLen; omega) (by omega) (by simp; omega) ?_; intro v' w1 hown1 hgrow1 _; have hown2 : Hid (w1.ownsRow w0.heap.size 5 1 v' (acc ++ [UInt8.ofNat (u % 128 + 128)]).length (Lib.byteCells (acc ++ [UInt8.ofNat (u % 128 + 128)]))) := own_snoc (x := u % 128 + 128) (by omega) (by omega) hown1; have hb1 : Below w0.heap.size w0 w1 := (hbel.alloc hsz _).grown hgrow1 (by simp; omega) (own_block hown.out); clear hown1 hgrow1)
      go_roundw
      case rel => exact ⟨acc ++ [UInt8.ofNat (u % 128 + 128)], u / 128, by omega, by go_num, enc_step hlt hacc.out, hown2, hb1⟩
      case measure => simp [intOf]; omega
    · go_wp2_with (at_builtin; refine wpList_append_own _ rfl (.tmp 19) (.tmp 22) 22 rfl w0.heap.size 5 i0 (.int .u8 0) 1 1 Tryz.underlying22 hi hz0 hz1 hz2 rfl (by decide) _ acc.length (Lib.byteCells acc) rfl (hown.out.alloc _) ⟨wr.heap.size, 0, none⟩ 1 1 [_] rfl rfl (cell_one_new _ _ _) (one_cell _) (by unfold maxLen; omega) (by omega) (by simp; omega) ?_; intro v' w1 hown1 hgrow1 _; have hb1 : Below w0.heap.size w0 w1 := (hbel.alloc hsz _).grown hgrow1 (by simp; omega) (own_block hown.out); obtain ⟨g, cap, hv, hby⟩ := own_last rfl (by omega) hacc.out hown1; rw [hv]; have hcv := run_convert_text (P := Tryz.prog) w1 22 5 9 Tryz.underlying22 Tryz.underlying5 Tryz.underlying9 g 0 (enc m) (enc m).length cap rfl hby; clear hby hown1 hgrow1 hv)
      go_ret
      exact ⟨rfl, hb1⟩
theorem make10 (w : World) : (Instr.makeSlice 22 (.int .i64 0) (.int .i64 10)).run Tryz.prog w = .ok (.slice (some ⟨w.heap.size, 0, none⟩) 0 10) (w.alloc (.cells #[.int .u8 0, .int .u8 0, .int .u8 0, .int .u8 0, .int .u8 0, .int .u8 0, .int .u8 0, .int .u8 0, .int .u8 0, .int .u8 0] 5)) := by kernel_rfl
theorem own_ten (w : World) (t : TypeId) : (w.alloc (.cells #[.int .u8 0, .int .u8 0, .int .u8 0, .int .u8 0, .int .u8 0, .int .u8 0, .int .u8 0, .int .u8 0, .int .u8 0, .int .u8 0] t)).ownsRow w.heap.size t 1 (.slice (some ⟨w.heap.size, 0, none⟩) 0 10) ([] : List UInt8).length (Lib.byteCells []) := by
  refine ⟨rfl, .inr ⟨w.heap.size, 10, #[.int .u8 0, .int .u8 0, .int .u8 0, .int .u8 0, .int .u8 0, .int .u8 0, .int .u8 0, .int .u8 0, .int .u8 0, .int .u8 0], rfl, Nat.le_refl _, ?_, by decide, by decide, rfl, rfl⟩⟩
  rw [World.alloc]
  exact Array.getElem?_push_size
theorem and127 {u : Nat} (h : u ≤ 18446744073709551615) : bits .and .u64 (u : Int) 127 = (u : Int) % 128 := by
  have h1 := u64_and_nat u 127 (by omega) (by decide)
  have e : u &&& 127 = u % 128 := Nat.and_two_pow_sub_one_eq_mod u 7
  rw [e] at h1
  exact h1.trans (by omega)
set_option maxRecDepth 100000 in
set_option maxHeartbeats 1000000 in
/-- impl.PutNum. -/
theorem iPutNum_any (n : Int) (h1 : -9223372036854775808 ≤ n) (h2 : n ≤ 9223372036854775807) (w : World) :
    Calls Tryz.prog 37 #[.int .i64 n] w fun e w' => e = .returned (.string ⟨(enc (foldN n)).toArray⟩) ∧ Below w.heap.size w w' := by
  obtain ⟨i0, hi, hz0, hz1, hz2⟩ := info_parts infoByte
  have hm := fold_le h1 h2
  have hF := fold_bits h1 h2
  have hmk := make10
  generalize foldN n = m at hm hF ⊢
  go_enter Tryz.func37, Tryz.ntmps37
  go_wp2
  clear hF hmk
  go_loopw [3, 4] (fun x v wr => ∃ (acc : List UInt8) (u : Nat), u ≤ m ∧ x = .int .u64 u ∧ Hid (acc ++ enc u = enc m) ∧ Hid (wr.ownsRow w.heap.size 5 1 v acc.length (Lib.byteCells acc)) ∧ Below w.heap.size w wr) (fun x _ _ => (intOf x).toNat)
  case atStart => exact ⟨[], m, Nat.le_refl _, rfl, rfl, own_ten w _, (Below.refl _ _).alloc (Nat.le_refl _) _⟩
  case round =>
    obtain ⟨acc, u, hu, rfl, hacc, hown, hbel⟩ := hrel
    have hla := acc_le hm hacc.out
    have hsz := hbel.size
    by_cases hlt : 128 ≤ u
    · have ha := and127 (u := u) (by omega)
      have ho := u8_or128_right ((u : Int) % 128) (by omega) (by omega)
      go_wp2_with (at_builtin; refine wpList_append_own _ rfl (.tmp 15) (.tmp 20) 22 rfl w.heap.size 5 i0 (.int .u8 0) 1 1 Tryz.underlying22 hi hz0 hz1 hz2 rfl (by decide) _ acc.length (Lib.byteCells acc) rfl (hown.out.alloc _) ⟨wr.heap.size, 0, none⟩ 1 1 [_] rfl rfl (cell_one_new _ _ _) (one_cell _) (by unfold maxLen; omega) (by omega) (by simp; omega) ?_; intro v' w1 hown1 hgrow1 _; have hown2 : Hid (w1.ownsRow w.heap.size 5 1 v' (acc ++ [UInt8.ofNat (u % 128 + 128)]).length (Lib.byteCells (acc ++ [UInt8.ofNat (u % 128 + 128)]))) := own_snoc (x := u % 128 + 128) (by omega) (by omega) hown1; have hb1 : Below w.heap.size w w1 := (hbel.alloc hsz _).grown hgrow1 (by simp; omega) (own_block hown.out); clear hown1 hgrow1)
      go_roundw
      case rel => exact ⟨acc ++ [UInt8.ofNat (u % 128 + 128)], u / 128, by omega, by go_num, enc_step hlt hacc.out, hown2, hb1⟩
      case measure => simp [intOf]; omega
    · go_wp2_with (at_builtin; refine wpList_append_own _ rfl (.tmp 24) (.tmp 27) 22 rfl w.heap.size 5 i0 (.int .u8 0) 1 1 Tryz.underlying22 hi hz0 hz1 hz2 rfl (by decide) _ acc.length (Lib.byteCells acc) rfl (hown.out.alloc _) ⟨wr.heap.size, 0, none⟩ 1 1 [_] rfl rfl (cell_one_new _ _ _) (one_cell _) (by unfold maxLen; omega) (by omega) (by simp; omega) ?_; intro v' w1 hown1 hgrow1 _; have hb1 : Below w.heap.size w w1 := (hbel.alloc hsz _).grown hgrow1 (by simp; omega) (own_block hown.out); obtain ⟨g, cap, hv, hby⟩ := own_last rfl (by omega) hacc.out hown1; rw [hv]; have hcv := run_convert_text (P := Tryz.prog) w1 22 5 9 Tryz.underlying22 Tryz.underlying5 Tryz.underlying9 g 0 (enc m) (enc m).length cap rfl hby; clear hby hown1 hgrow1 hv)
      go_ret
      exact ⟨rfl, hb1⟩
end Go.Proofs.YtedahdncincgjaaGreatDoor
