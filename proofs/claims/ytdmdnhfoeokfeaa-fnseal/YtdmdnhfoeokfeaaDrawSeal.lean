/- The contracts of spec.DrawSeal and spec.DrawCrcMore: some text of some bytes, some number. -/
import Derived.Test.YtdmdnhfoeokfeaaEdge
import Derived.Test.YtdmdnhfoeokfeaaCrcWalks
import Derived.Deep.OwnRows
namespace Go.Proofs.Ytdmdnhfoeokfeaa
open Go.RowKit
set_option linter.unusedVariables false
theorem zeros_row (n : Nat) : rowTo [] n = Lib.byteCells (List.replicate n 0) := by simp [rowTo, Lib.byteCells]
theorem make_n (m : Nat) (hm : m ≤ 1000000) (c : Nat) (hc : c ≤ 1000000) (w : World) : (Instr.makeSlice 22 (.int .i64 ((c : Int) + m)) (.int .i64 ((c : Int) + m))).run Try.prog w =
    .ok (.slice (some ⟨w.heap.size, 0, none⟩) (c + m) (c + m)) (w.alloc (.cells (Lib.byteCells (List.replicate (c + m) 0)).toArray 5)) := by
  have h := run_make_row' (P := Try.prog) 22 5 (.int .u8 0) 1 Try.underlying22 infoB rfl .i64 .i64 (c + m) (by omega) (by omega) w
  rw [made_row, zeros_row] at h
  rw [← Int.natCast_add]
  exact h
set_option maxRecDepth 100000 in
set_option maxHeartbeats 2000000 in
theorem drawSeal_any (a : Option Addr) (len cap : Nat) (g : Nat → Int) (w : World) (hc : Code a len g w.heap.size w) :
    Calls Try.prog 4 #[.slice a len cap] w fun e w' => ∃ t : ByteArray, t.size ≤ 20000 ∧ e = .returned (.string t) ∧ Below w.heap.size w w' := by
  have HC : Hid (Code a len g w.heap.size w) := hc
  clear hc
  go_enter Try.func4, Try.ntmps4
  go_wp2_with (first | (go_at_call 13; refine (source_any a len cap g _ HC.out).mono ?_; rintro e w1 ⟨rfl, hs1, hb1⟩) | (go_at_call 14; refine (one_any a len cap g _ _ (by decide) _ (by assumption)).mono ?_; rintro e w2 ⟨r, rfl, hs2, ho2⟩; have hb2 : Below w.heap.size w w2 := ho2.below hb1 (Nat.le_refl _) hb1.size))
  · refine (n_any a len cap g _ _ (by decide) _ hs2).mono ?_
    rintro e w3 ⟨x, rfl, x1, x2, hs3, ho3⟩
    have hb3 : Below w.heap.size w w3 := ho3.below hb2 (Nat.le_refl _) hb2.size
    obtain ⟨m, hm⟩ := Int.eq_ofNat_of_zero_le x1
    subst hm
    have hmm : m ≤ 3 := by omega
    have hmk : ∀ w, (Instr.makeSlice 22 (.int .i64 (19995 + (m : Int))) (.int .i64 (19995 + (m : Int)))).run Try.prog w = .ok (.slice (some ⟨w.heap.size, 0, none⟩) (19995 + m) (19995 + m)) (w.alloc (.cells (Lib.byteCells (List.replicate (19995 + m) 0)).toArray 5)) := fun w => make_n m (by omega) 19995 (by decide) w
    have hcv : (convert 22 9 (.slice (some ⟨w3.heap.size, 0, none⟩) (19995 + m) (19995 + m))).run Try.prog (w3.alloc (.cells (Lib.byteCells (List.replicate (19995 + m) 0)).toArray 5)) = .ok (.string ⟨(List.replicate (19995 + m) 0).toArray⟩) (w3.alloc (.cells (Lib.byteCells (List.replicate (19995 + m) 0)).toArray 5)) :=
      run_convert_text _ 22 5 9 Try.underlying22 Try.underlying5 Try.underlying9 _ 0 _ _ _ (by simp) (row_bytes (blk_new w3 _))
    have hsize : Hid ((⟨(List.replicate (19995 + m) (0 : UInt8)).toArray⟩ : ByteArray).size ≤ 20000) := by show _ ≤ _; simp [ByteArray.size]; omega
    have HB3 : Hid (Below w.heap.size w w3) := hb3
    generalize List.replicate (19995 + m) (0 : UInt8) = zz at hmk hcv hsize
    clear hs1 hs2 hs3 ho2 ho3 hb1 hb2 hb3 x2
    go_wp2
    go_ret
    exact ⟨_, hsize.out, rfl, HB3.out.alloc HB3.out.size _⟩
  · refine (n_any a len cap g _ _ (by decide) _ hs2).mono ?_
    rintro e w3 ⟨x, rfl, x1, x2, hs3, ho3⟩
    have hb3 : Below w.heap.size w w3 := ho3.below hb2 (Nat.le_refl _) hb2.size
    obtain ⟨m, hm⟩ := Int.eq_ofNat_of_zero_le x1
    subst hm
    have hmm : m ≤ 20 := by omega
    clear hs1 hs2 ho2 ho3 hb1 hb2 x2
    go_wp2_with (go_at_call 16; refine (bytes_any a len cap g _ m (by omega) _ hs3).mono ?_; rintro e w4 ⟨t, ht, rfl, hs4, ho4⟩)
    go_ret
    exact ⟨t, by omega, rfl, ho4.below hb3 (Nat.le_refl _) hb3.size⟩
set_option maxRecDepth 100000 in
set_option maxHeartbeats 2000000 in
theorem drawCrcMore_any (a : Option Addr) (len cap : Nat) (g : Nat → Int) (w : World) (hc : Code a len g w.heap.size w) :
    Calls Try.prog 9 #[.slice a len cap] w fun e w' => ∃ (c : Int) (t : ByteArray), -9223372036854775808 ≤ c ∧ c ≤ 9223372036854775807 ∧ t.size ≤ 9 ∧ e = .returned (.tuple #[.int .i64 c, .string t]) ∧ Below w.heap.size w w' := by
  have HC : Hid (Code a len g w.heap.size w) := hc
  clear hc
  go_enter Try.func9, Try.ntmps9
  go_wp2_with (go_at_call 13; refine (source_any a len cap g _ HC.out).mono ?_; rintro e w1 ⟨rfl, hs1, hb1⟩)
  refine (n_any a len cap g _ _ (by decide) _ hs1).mono ?_
  rintro e w2 ⟨x, rfl, x1, x2, hs2, ho2⟩
  have hb2 : Below w.heap.size w w2 := ho2.below hb1 (Nat.le_refl _) hb1.size
  obtain ⟨m, hm⟩ := Int.eq_ofNat_of_zero_le x1
  subst hm
  have hmm : m ≤ 9 := by omega
  clear hs1 ho2 hb1 x2
  go_wp2_with (first | (go_at_call 16; refine (bytes_any a len cap g _ m (by omega) _ hs2).mono ?_; rintro e w3 ⟨t, ht, rfl, hs3, ho3⟩; have hb3 : Below w.heap.size w w3 := ho3.below hb2 (Nat.le_refl _) hb2.size; clear hs2 ho3 hb2) | (go_at_call 14; refine (one_any a len cap g _ _ (by decide) _ hs3).mono ?_; rintro e w4 ⟨r, rfl, hs4, ho4⟩; have hb4 : Below w.heap.size w w4 := ho4.below hb3 (Nat.le_refl _) hb3.size; clear hs3 ho4 hb3))
  · refine (edge_any a len cap g _ _ hs4).mono ?_
    rintro e w5 ⟨c, rfl, c1, c2, hs5, ho5⟩
    have HB : Hid (Below w.heap.size w w5) := ho5.below hb4 (Nat.le_refl _) hb4.size
    have HT : Hid (t.size ≤ 9) := by show _ ≤ _; omega
    clear hs4 hs5 ho5 hb4 ht
    go_wp2
    go_ret2
    exact ⟨c, t, c1, c2, HT.out, rfl, HB.out⟩
  · refine (n_any a len cap g _ _ (by decide) _ hs4).mono ?_
    rintro e w5 ⟨y, rfl, y1, y2, hs5, ho5⟩
    have hb5 : Below w.heap.size w w5 := ho5.below hb4 (Nat.le_refl _) hb4.size
    have HT : Hid (t.size ≤ 9) := by show _ ≤ _; omega
    obtain ⟨k, hk⟩ := Int.eq_ofNat_of_zero_le y1
    subst hk
    have hkk : k ≤ 9 := by omega
    clear hs4 ho5 hb4 y2 ht
    go_wp2_with (first | (go_at_call 16; refine (bytes_any a len cap g _ k (by omega) _ hs5).mono ?_; rintro e w6 ⟨u, hu, rfl, hs6, ho6⟩; have HB6 : Hid (Below w.heap.size w w6) := ho6.below hb5 (Nat.le_refl _) hb5.size; have hu8 : u.size ≤ 8000 := (by omega); clear hs5 ho6 hb5 hs6 hu) | (go_at_call 22; refine (sCrc_yes _ hu8 _).mono ?_; rintro e w7 ⟨rfl, rfl⟩))
    go_ret2
    obtain ⟨c1, c2⟩ := crcOf_Reg u 0
    exact ⟨_, t, by omega, by omega, HT.out, rfl, HB6.out⟩
end Go.Proofs.Ytdmdnhfoeokfeaa
