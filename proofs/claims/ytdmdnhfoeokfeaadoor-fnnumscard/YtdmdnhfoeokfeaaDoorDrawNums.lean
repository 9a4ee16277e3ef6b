/- The contracts of spec.DrawPutNum and spec.DrawPutText: some number of int64, some text. -/
import Derived.Test.YtdmdnhfoeokfeaaDoorEdge
import Derived.Deep.OwnRows
namespace Go.Proofs.YtdmdnhfoeokfeaaDoor
open Go.RowKit
set_option linter.unusedVariables false
theorem zeros_row (n : Nat) : rowTo [] n = Lib.byteCells (List.replicate n 0) := by simp [rowTo, Lib.byteCells]
theorem make_n (m : Nat) (hm : m ≤ 1000000) (c : Nat) (hc : c ≤ 1000000) (w : World) : (Instr.makeSlice 22 (.int .i64 ((c : Int) + m)) (.int .i64 ((c : Int) + m))).run Tryd.prog w =
    .ok (.slice (some ⟨w.heap.size, 0, none⟩) (c + m) (c + m)) (w.alloc (.cells (Lib.byteCells (List.replicate (c + m) 0)).toArray 5)) := by
  have h := run_make_row' (P := Tryd.prog) 22 5 (.int .u8 0) 1 Tryd.underlying22 infoB rfl .i64 .i64 (c + m) (by omega) (by omega) w
  rw [made_row, zeros_row] at h
  rw [← Int.natCast_add]
  exact h
set_option maxRecDepth 100000 in
set_option maxHeartbeats 2000000 in
theorem l01Any_any (a : Option Addr) (len cap : Nat) (g : Nat → Int) (p : Nat) (w : World) (hs : Src a len cap g p w) :
    Calls Tryd.prog 13 #[.pointer (some ⟨p, 0, none⟩)] w fun e w' => ∃ r : Int, e = .returned (.int .i64 r) ∧ -9223372036854775808 ≤ r ∧ r ≤ 9223372036854775807 ∧ Src a len cap g p w' ∧ Own p w w' := by
  go_enter Tryd.func13, Tryd.ntmps13
  go_wp2_with (go_at_call 17; refine (one_any a len cap g _ _ (by decide) _ hs).mono ?_; rintro e w1 ⟨r, rfl, hs1, ho1⟩)
  · refine (edge_any a len cap g _ _ hs1).mono ?_
    rintro e w2 ⟨x, rfl, x1, x2, hs2, ho2⟩
    have HO : Hid (Own p w w2) := ho1.trans ho2
    clear ho1 ho2 hs1 hs
    go_wp2
    go_ret
    exact ⟨x, rfl, x1, x2, hs2, HO.out⟩
  · refine (n_any a len cap g _ _ (by decide) _ hs1).mono ?_
    rintro e w2 ⟨x, rfl, x1, x2, hs2, ho2⟩
    have HO : Hid (Own p w w2) := ho1.trans ho2
    have x3 : x < 1099511627776 := by omega
    clear ho1 ho2 hs1 hs x2
    go_wp2
    go_ret
    exact ⟨x - 1048576, rfl, by omega, by omega, hs2, HO.out⟩
set_option maxRecDepth 100000 in
theorem drawPutNum_any (a : Option Addr) (len cap : Nat) (g : Nat → Int) (w : World) (hc : Code a len g w.heap.size w) :
    Calls Tryd.prog 4 #[.slice a len cap] w fun e w' => ∃ r : Int, e = .returned (.int .i64 r) ∧ -9223372036854775808 ≤ r ∧ r ≤ 9223372036854775807 ∧ Below w.heap.size w w' := by
  have HC : Hid (Code a len g w.heap.size w) := hc
  clear hc
  go_enter Tryd.func4, Tryd.ntmps4
  go_wp2_with (first | (go_at_call 12; refine (source_any a len cap g _ HC.out).mono ?_; rintro e w1 ⟨rfl, hs1, hb1⟩) | (go_at_call 13; refine (l01Any_any a len cap g _ _ hs1).mono ?_; rintro e w2 ⟨r, rfl, r1, r2, hs2, ho2⟩))
  go_ret
  exact ⟨r, rfl, r1, r2, ho2.below hb1 (Nat.le_refl _) hb1.size⟩
set_option maxRecDepth 100000 in
set_option maxHeartbeats 2000000 in
theorem drawPutText_any (a : Option Addr) (len cap : Nat) (g : Nat → Int) (w : World) (hc : Code a len g w.heap.size w) :
    Calls Tryd.prog 8 #[.slice a len cap] w fun e w' => ∃ t : ByteArray, t.size ≤ 30000 ∧ e = .returned (.string t) ∧ Below w.heap.size w w' := by
  have HC : Hid (Code a len g w.heap.size w) := hc
  clear hc
  go_enter Tryd.func8, Tryd.ntmps8
  go_wp2_with (first | (go_at_call 12; refine (source_any a len cap g _ HC.out).mono ?_; rintro e w1 ⟨rfl, hs1, hb1⟩) | (go_at_call 17; refine (one_any a len cap g _ _ (by decide) _ (by assumption)).mono ?_; rintro e w2 ⟨r, rfl, hs2, ho2⟩; have hb2 : Below w.heap.size w w2 := ho2.below hb1 (Nat.le_refl _) hb1.size))
  · refine (n_any a len cap g _ _ (by decide) _ hs2).mono ?_
    rintro e w3 ⟨x, rfl, x1, x2, hs3, ho3⟩
    have hb3 : Below w.heap.size w w3 := ho3.below hb2 (Nat.le_refl _) hb2.size
    obtain ⟨m, hm⟩ := Int.eq_ofNat_of_zero_le x1
    subst hm
    have hmm : m ≤ 3 := by omega
    have hmk : ∀ w, (Instr.makeSlice 22 (.int .i64 (19999 + (m : Int))) (.int .i64 (19999 + (m : Int)))).run Tryd.prog w = .ok (.slice (some ⟨w.heap.size, 0, none⟩) (19999 + m) (19999 + m)) (w.alloc (.cells (Lib.byteCells (List.replicate (19999 + m) 0)).toArray 5)) := fun w => make_n m (by omega) 19999 (by decide) w
    have hcv : (convert 22 9 (.slice (some ⟨w3.heap.size, 0, none⟩) (19999 + m) (19999 + m))).run Tryd.prog (w3.alloc (.cells (Lib.byteCells (List.replicate (19999 + m) 0)).toArray 5)) = .ok (.string ⟨(List.replicate (19999 + m) 0).toArray⟩) (w3.alloc (.cells (Lib.byteCells (List.replicate (19999 + m) 0)).toArray 5)) :=
      run_convert_text _ 22 5 9 Tryd.underlying22 Tryd.underlying5 Tryd.underlying9 _ 0 _ _ _ (by simp) (row_bytes (blk_new w3 _))
    have hsize : Hid ((⟨(List.replicate (19999 + m) (0 : UInt8)).toArray⟩ : ByteArray).size ≤ 30000) := by show _ ≤ _; simp [ByteArray.size]; omega
    have HB3 : Hid (Below w.heap.size w w3) := hb3
    generalize List.replicate (19999 + m) (0 : UInt8) = zz at hmk hcv hsize
    clear hs1 hs2 hs3 ho2 ho3 hb1 hb2 hb3 x2
    go_wp2
    go_ret
    exact ⟨_, hsize.out, rfl, HB3.out.alloc HB3.out.size _⟩
  · refine (n_any a len cap g _ _ (by decide) _ hs2).mono ?_
    rintro e w3 ⟨x, rfl, x1, x2, hs3, ho3⟩
    have hb3 : Below w.heap.size w w3 := ho3.below hb2 (Nat.le_refl _) hb2.size
    obtain ⟨m, hm⟩ := Int.eq_ofNat_of_zero_le x1
    subst hm
    have hmm : m ≤ 20 := by omega
    clear hs1 hs2 ho2 ho3 hb1 hb2 x2
    go_wp2_with (go_at_call 19; refine (bytes_any a len cap g _ m (by omega) _ hs3).mono ?_; rintro e w4 ⟨t, ht, rfl, hs4, ho4⟩)
    go_ret
    exact ⟨t, by omega, rfl, ho4.below hb3 (Nat.le_refl _) hb3.size⟩
end Go.Proofs.YtdmdnhfoeokfeaaDoor
