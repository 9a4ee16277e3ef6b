/- spec.ModeRead, of whatever text. -/
import Derived.Test.YtibofkjonepbpaaDoorSPart
namespace Go.Proofs.YtibofkjonepbpaaDoor
open Go.RowKit Go.PlainAid
set_option linter.unusedVariables false
set_option linter.unusedSimpArgs false
set_option maxHeartbeats 1000000 in
theorem sModeRead_long (s : ByteArray) (h : 8000 < (s.size : Int)) (w : World) :
    Calls Tryd.prog 35 #[.string s] w fun e w' => e = .returned (numW 0 0 2) ∧ Below w.heap.size w w' := by
  go_enter Tryd.func35, Tryd.ntmps35
  go_wp2
  exact bodyPost_ret (v := numW 0 0 2) (by simp [results, Tryd.results35, go_sem, numW]) rfl ⟨rfl, (Below.refl _ _).alloc (Nat.le_refl _) _⟩
set_option maxHeartbeats 1000000 in
theorem sModeRead_size (s : ByteArray) (h : ¬ 8000 < (s.size : Int)) (h9 : (s.size : Int) ≠ 9) (w : World) :
    Calls Tryd.prog 35 #[.string s] w fun e w' => e = .returned (numW 0 0 3) ∧ Below w.heap.size w w' := by
  have c1 : ((s.size : Int) != 9) = true := by rw [bne_iff_ne]; exact h9
  clear h9
  go_enter Tryd.func35, Tryd.ntmps35
  go_wp2
  exact bodyPost_ret (v := numW 0 0 3) (by simp [results, Tryd.results35, go_sem, numW]) rfl ⟨rfl, (Below.refl _ _).alloc (Nat.le_refl _) _⟩
/-- The number that the specification reckons: of a part that is none, -1. -/
def vI (o : Option Nat) : Int := match o with | some n => (n : Int) | none => -1
def xI (o : Option Nat) (x : Bool) (n : Int) : Int := if o.isSome && x then n else 0
theorem vI_bd {t : ByteArray} : -1 ≤ vI (rdB t) ∧ vI (rdB t) ≤ 7 := by
  cases h : rdB t with
  | none => simp [vI]
  | some n => have := (rdB_inv h).1; simp [vI]; omega
def nI (s : ByteArray) : Int := 64 * vI (rdB (fixT (s.extract 0 3) 115 83)) + 8 * vI (rdB (fixT (s.extract 3 6) 115 83)) + vI (rdB (fixT (s.extract 6 9) 116 84)) + xI (rdB (fixT (s.extract 0 3) 115 83)) (isX (s.extract 0 3) 115 83) 2048 + xI (rdB (fixT (s.extract 3 6) 115 83)) (isX (s.extract 3 6) 115 83) 1024 + xI (rdB (fixT (s.extract 6 9) 116 84)) (isX (s.extract 6 9) 116 84) 512
theorem nI_some {s : ByteArray} {n : Nat} (h9 : s.size = 9) (h : rdM s = some n) : nI s = n ∧ modeS (nI s) = s := by
  obtain ⟨hn, hm⟩ := rdM_inv h
  have e : nI s = n := by
    unfold rdM at h
    rw [if_pos h9] at h
    split at h
    · rename_i u g o r1 r2 r3
      have := Option.some.inj h
      unfold nI
      rw [r1, r2, r3]
      have h1 : (if (true && isX (s.extract 0 3) 115 83) = true then (2048 : Int) else 0) = ((bl (isX (s.extract 0 3) 115 83) 2048 : Nat) : Int) := by cases isX (s.extract 0 3) 115 83 <;> rfl
      have h2 : (if (true && isX (s.extract 3 6) 115 83) = true then (1024 : Int) else 0) = ((bl (isX (s.extract 3 6) 115 83) 1024 : Nat) : Int) := by cases isX (s.extract 3 6) 115 83 <;> rfl
      have h3 : (if (true && isX (s.extract 6 9) 116 84) = true then (512 : Int) else 0) = ((bl (isX (s.extract 6 9) 116 84) 512 : Nat) : Int) := by cases isX (s.extract 6 9) 116 84 <;> rfl
      simp only [vI, xI, Option.isSome_some]
      rw [h1, h2, h3]
      omega
    · cases h
  refine ⟨e, ?_⟩
  rw [e, modeS_in hn]
  exact hm
theorem nI_none {s : ByteArray} (h9 : s.size = 9) (h : rdM s = none) (n : Int) : ¬ modeS n = s := by
  intro e
  unfold modeS at e
  split at e
  · rename_i hin
    have := rdM_modeT (n := n.toNat) (by omega)
    rw [e, h] at this
    cases this
  · rw [← e] at h9
    exact absurd h9 (by decide)
set_option maxHeartbeats 16000000 in
theorem sModeRead_nine (s : ByteArray) (h9 : s.size = 9) (w : World) :
    Calls Tryd.prog 35 #[.string s] w fun e w' => e = .returned (numW (whN s (rdM s)) 0 (whC s (rdM s))) ∧ Below w.heap.size w w' := by
  have z1 : (s.extract 0 3).size = 3 := by rw [ByteArray.size_extract, h9]; rfl
  have z2 : (s.extract 3 6).size = 3 := by rw [ByteArray.size_extract, h9]; rfl
  have z3 : (s.extract 6 9).size = 3 := by rw [ByteArray.size_extract, h9]; rfl
  have H1 : Hid (∀ w, Calls Tryd.prog 100 #[.string (s.extract 0 3), .int .u8 115, .int .u8 83] w fun e w' => e = .returned (.tuple #[.int .i64 (vI (rdB (fixT (s.extract 0 3) 115 83))), .bool ((rdB (fixT (s.extract 0 3) 115 83)).isSome && isX (s.extract 0 3) 115 83)]) ∧ Below w.heap.size w w') := part115_any _ z1
  have H2 : Hid (∀ w, Calls Tryd.prog 100 #[.string (s.extract 3 6), .int .u8 115, .int .u8 83] w fun e w' => e = .returned (.tuple #[.int .i64 (vI (rdB (fixT (s.extract 3 6) 115 83))), .bool ((rdB (fixT (s.extract 3 6) 115 83)).isSome && isX (s.extract 3 6) 115 83)]) ∧ Below w.heap.size w w') := part115_any _ z2
  have H3 : Hid (∀ w, Calls Tryd.prog 100 #[.string (s.extract 6 9), .int .u8 116, .int .u8 84] w fun e w' => e = .returned (.tuple #[.int .i64 (vI (rdB (fixT (s.extract 6 9) 116 84))), .bool ((rdB (fixT (s.extract 6 9) 116 84)).isSome && isX (s.extract 6 9) 116 84)]) ∧ Below w.heap.size w w') := part116_any _ z3
  have b1 := vI_bd (t := fixT (s.extract 0 3) 115 83)
  have b2 := vI_bd (t := fixT (s.extract 3 6) 115 83)
  have b3 := vI_bd (t := fixT (s.extract 6 9) 116 84)
  have hn : Hid (nI s = 64 * vI (rdB (fixT (s.extract 0 3) 115 83)) + 8 * vI (rdB (fixT (s.extract 3 6) 115 83)) + vI (rdB (fixT (s.extract 6 9) 116 84)) + (if ((rdB (fixT (s.extract 0 3) 115 83)).isSome && isX (s.extract 0 3) 115 83) = true then 2048 else 0) + (if ((rdB (fixT (s.extract 3 6) 115 83)).isSome && isX (s.extract 3 6) 115 83) = true then 1024 else 0) + (if ((rdB (fixT (s.extract 6 9) 116 84)).isSome && isX (s.extract 6 9) 116 84) = true then 512 else 0)) := rfl
  generalize vI (rdB (fixT (s.extract 0 3) 115 83)) = v1 at H1 b1 hn
  generalize vI (rdB (fixT (s.extract 3 6) 115 83)) = v2 at H2 b2 hn
  generalize vI (rdB (fixT (s.extract 6 9) 116 84)) = v3 at H3 b3 hn
  generalize ((rdB (fixT (s.extract 0 3) 115 83)).isSome && isX (s.extract 0 3) 115 83) = x1 at H1 hn
  generalize ((rdB (fixT (s.extract 3 6) 115 83)).isSome && isX (s.extract 3 6) 115 83) = x2 at H2 hn
  generalize ((rdB (fixT (s.extract 6 9) 116 84)).isSome && isX (s.extract 6 9) 116 84) = x3 at H3 hn
  have ht : Hid (∀ w, Calls Tryd.prog 32 #[.int .i64 (nI s)] w fun e w' => e = .returned (.string (modeS (nI s))) ∧ w' = w) := sModeText_any (nI s)
  have h8 : ¬ 8000 < s.size := by omega
  have fin : (∃ (d : Bool) (N c : Int), Hid (whN s (rdM s) = N) ∧ Hid (whC s (rdM s) = c) ∧ ((modeS (nI s)).toList == s.toList) = (!d) ∧ (d = true ∧ N = 0 ∧ c = 3 ∨ d = false ∧ N = nI s ∧ c = 0)) := by
    cases hr : rdM s with
    | none => exact ⟨true, 0, 3, (wh_none h8 rfl).1, (wh_none h8 rfl).2, str_ne (nI_none h9 hr (nI s)), .inl ⟨rfl, rfl, rfl⟩⟩
    | some n =>
      obtain ⟨e1, e2⟩ := nI_some h9 hr
      exact ⟨false, n, 0, (wh_some h8 rfl).1, (wh_some h8 rfl).2, str_eq e2, .inr ⟨rfl, e1.symm, rfl⟩⟩
  obtain ⟨d, N, c, fN, fC, fd, fcase⟩ := fin
  generalize modeS (nI s) = T at ht fd
  generalize nI s = n at hn ht fcase
  clear z1 z2 z3
  rcases fcase with ⟨rfl, rfl, rfl⟩ | ⟨rfl, rfl, rfl⟩
  · have fd2 : (T.toList == s.toList) = false := fd
    clear fd
    cases x1 <;> cases x2 <;> cases x3
    · have hX : 64 * v1 + 8 * v2 + v3 = n := by have h := hn.out; simp only [Bool.false_eq_true, if_false, if_true] at h; omega
      clear hn
      go_enter Tryd.func35, Tryd.ntmps35
      go_wp2_with fail
      refine (H1.out _).mono ?_
      rintro e w1 ⟨rfl, hb1⟩
      go_wp2_with fail
      refine (H2.out _).mono ?_
      rintro e w2 ⟨rfl, hb2⟩
      go_wp2_with fail
      refine (H3.out _).mono ?_
      rintro e w3 ⟨rfl, hb3⟩
      have B3 : Hid (Below (w.alloc (.cells #[.int .i64 0, .int .i64 0, .int .i64 0] 43)).heap.size (w.alloc (.cells #[.int .i64 0, .int .i64 0, .int .i64 0] 43)) w3) := bl_thenW (bl_thenW hb1 hb2) hb3
      obtain ⟨hcl, hfz⟩ := bl_cellW B3.out
      have hz := bl_sizeW B3.out
      simp at hcl hfz
      clear hb1 hb2 hb3
      go_wp2_with fail
      refine (ht.out _).mono ?_
      rintro e w4 ⟨rfl, rfl⟩
      go_wp2
      exact bodyPost_ret (v := numW 0 0 3) (by simp [results, Tryd.results35, go_sem, numW, hcl, hz]) rfl ⟨by rw [fN.out, fC.out], bl_set3W (bl_overW B3.out)⟩
    · have hX : 64 * v1 + 8 * v2 + v3 + 512 = n := by have h := hn.out; simp only [Bool.false_eq_true, if_false, if_true] at h; omega
      clear hn
      go_enter Tryd.func35, Tryd.ntmps35
      go_wp2_with fail
      refine (H1.out _).mono ?_
      rintro e w1 ⟨rfl, hb1⟩
      go_wp2_with fail
      refine (H2.out _).mono ?_
      rintro e w2 ⟨rfl, hb2⟩
      go_wp2_with fail
      refine (H3.out _).mono ?_
      rintro e w3 ⟨rfl, hb3⟩
      have B3 : Hid (Below (w.alloc (.cells #[.int .i64 0, .int .i64 0, .int .i64 0] 43)).heap.size (w.alloc (.cells #[.int .i64 0, .int .i64 0, .int .i64 0] 43)) w3) := bl_thenW (bl_thenW hb1 hb2) hb3
      obtain ⟨hcl, hfz⟩ := bl_cellW B3.out
      have hz := bl_sizeW B3.out
      simp at hcl hfz
      clear hb1 hb2 hb3
      go_wp2_with fail
      refine (ht.out _).mono ?_
      rintro e w4 ⟨rfl, rfl⟩
      go_wp2
      exact bodyPost_ret (v := numW 0 0 3) (by simp [results, Tryd.results35, go_sem, numW, hcl, hz]) rfl ⟨by rw [fN.out, fC.out], bl_set3W (bl_overW B3.out)⟩
    · have hX : 64 * v1 + 8 * v2 + v3 + 1024 = n := by have h := hn.out; simp only [Bool.false_eq_true, if_false, if_true] at h; omega
      clear hn
      go_enter Tryd.func35, Tryd.ntmps35
      go_wp2_with fail
      refine (H1.out _).mono ?_
      rintro e w1 ⟨rfl, hb1⟩
      go_wp2_with fail
      refine (H2.out _).mono ?_
      rintro e w2 ⟨rfl, hb2⟩
      go_wp2_with fail
      refine (H3.out _).mono ?_
      rintro e w3 ⟨rfl, hb3⟩
      have B3 : Hid (Below (w.alloc (.cells #[.int .i64 0, .int .i64 0, .int .i64 0] 43)).heap.size (w.alloc (.cells #[.int .i64 0, .int .i64 0, .int .i64 0] 43)) w3) := bl_thenW (bl_thenW hb1 hb2) hb3
      obtain ⟨hcl, hfz⟩ := bl_cellW B3.out
      have hz := bl_sizeW B3.out
      simp at hcl hfz
      clear hb1 hb2 hb3
      go_wp2_with fail
      refine (ht.out _).mono ?_
      rintro e w4 ⟨rfl, rfl⟩
      go_wp2
      exact bodyPost_ret (v := numW 0 0 3) (by simp [results, Tryd.results35, go_sem, numW, hcl, hz]) rfl ⟨by rw [fN.out, fC.out], bl_set3W (bl_overW B3.out)⟩
    · have hX : 64 * v1 + 8 * v2 + v3 + 1024 + 512 = n := by have h := hn.out; simp only [Bool.false_eq_true, if_false, if_true] at h; omega
      clear hn
      go_enter Tryd.func35, Tryd.ntmps35
      go_wp2_with fail
      refine (H1.out _).mono ?_
      rintro e w1 ⟨rfl, hb1⟩
      go_wp2_with fail
      refine (H2.out _).mono ?_
      rintro e w2 ⟨rfl, hb2⟩
      go_wp2_with fail
      refine (H3.out _).mono ?_
      rintro e w3 ⟨rfl, hb3⟩
      have B3 : Hid (Below (w.alloc (.cells #[.int .i64 0, .int .i64 0, .int .i64 0] 43)).heap.size (w.alloc (.cells #[.int .i64 0, .int .i64 0, .int .i64 0] 43)) w3) := bl_thenW (bl_thenW hb1 hb2) hb3
      obtain ⟨hcl, hfz⟩ := bl_cellW B3.out
      have hz := bl_sizeW B3.out
      simp at hcl hfz
      clear hb1 hb2 hb3
      go_wp2_with fail
      refine (ht.out _).mono ?_
      rintro e w4 ⟨rfl, rfl⟩
      go_wp2
      exact bodyPost_ret (v := numW 0 0 3) (by simp [results, Tryd.results35, go_sem, numW, hcl, hz]) rfl ⟨by rw [fN.out, fC.out], bl_set3W (bl_overW B3.out)⟩
    · have hX : 64 * v1 + 8 * v2 + v3 + 2048 = n := by have h := hn.out; simp only [Bool.false_eq_true, if_false, if_true] at h; omega
      clear hn
      go_enter Tryd.func35, Tryd.ntmps35
      go_wp2_with fail
      refine (H1.out _).mono ?_
      rintro e w1 ⟨rfl, hb1⟩
      go_wp2_with fail
      refine (H2.out _).mono ?_
      rintro e w2 ⟨rfl, hb2⟩
      go_wp2_with fail
      refine (H3.out _).mono ?_
      rintro e w3 ⟨rfl, hb3⟩
      have B3 : Hid (Below (w.alloc (.cells #[.int .i64 0, .int .i64 0, .int .i64 0] 43)).heap.size (w.alloc (.cells #[.int .i64 0, .int .i64 0, .int .i64 0] 43)) w3) := bl_thenW (bl_thenW hb1 hb2) hb3
      obtain ⟨hcl, hfz⟩ := bl_cellW B3.out
      have hz := bl_sizeW B3.out
      simp at hcl hfz
      clear hb1 hb2 hb3
      go_wp2_with fail
      refine (ht.out _).mono ?_
      rintro e w4 ⟨rfl, rfl⟩
      go_wp2
      exact bodyPost_ret (v := numW 0 0 3) (by simp [results, Tryd.results35, go_sem, numW, hcl, hz]) rfl ⟨by rw [fN.out, fC.out], bl_set3W (bl_overW B3.out)⟩
    · have hX : 64 * v1 + 8 * v2 + v3 + 2048 + 512 = n := by have h := hn.out; simp only [Bool.false_eq_true, if_false, if_true] at h; omega
      clear hn
      go_enter Tryd.func35, Tryd.ntmps35
      go_wp2_with fail
      refine (H1.out _).mono ?_
      rintro e w1 ⟨rfl, hb1⟩
      go_wp2_with fail
      refine (H2.out _).mono ?_
      rintro e w2 ⟨rfl, hb2⟩
      go_wp2_with fail
      refine (H3.out _).mono ?_
      rintro e w3 ⟨rfl, hb3⟩
      have B3 : Hid (Below (w.alloc (.cells #[.int .i64 0, .int .i64 0, .int .i64 0] 43)).heap.size (w.alloc (.cells #[.int .i64 0, .int .i64 0, .int .i64 0] 43)) w3) := bl_thenW (bl_thenW hb1 hb2) hb3
      obtain ⟨hcl, hfz⟩ := bl_cellW B3.out
      have hz := bl_sizeW B3.out
      simp at hcl hfz
      clear hb1 hb2 hb3
      go_wp2_with fail
      refine (ht.out _).mono ?_
      rintro e w4 ⟨rfl, rfl⟩
      go_wp2
      exact bodyPost_ret (v := numW 0 0 3) (by simp [results, Tryd.results35, go_sem, numW, hcl, hz]) rfl ⟨by rw [fN.out, fC.out], bl_set3W (bl_overW B3.out)⟩
    · have hX : 64 * v1 + 8 * v2 + v3 + 2048 + 1024 = n := by have h := hn.out; simp only [Bool.false_eq_true, if_false, if_true] at h; omega
      clear hn
      go_enter Tryd.func35, Tryd.ntmps35
      go_wp2_with fail
      refine (H1.out _).mono ?_
      rintro e w1 ⟨rfl, hb1⟩
      go_wp2_with fail
      refine (H2.out _).mono ?_
      rintro e w2 ⟨rfl, hb2⟩
      go_wp2_with fail
      refine (H3.out _).mono ?_
      rintro e w3 ⟨rfl, hb3⟩
      have B3 : Hid (Below (w.alloc (.cells #[.int .i64 0, .int .i64 0, .int .i64 0] 43)).heap.size (w.alloc (.cells #[.int .i64 0, .int .i64 0, .int .i64 0] 43)) w3) := bl_thenW (bl_thenW hb1 hb2) hb3
      obtain ⟨hcl, hfz⟩ := bl_cellW B3.out
      have hz := bl_sizeW B3.out
      simp at hcl hfz
      clear hb1 hb2 hb3
      go_wp2_with fail
      refine (ht.out _).mono ?_
      rintro e w4 ⟨rfl, rfl⟩
      go_wp2
      exact bodyPost_ret (v := numW 0 0 3) (by simp [results, Tryd.results35, go_sem, numW, hcl, hz]) rfl ⟨by rw [fN.out, fC.out], bl_set3W (bl_overW B3.out)⟩
    · have hX : 64 * v1 + 8 * v2 + v3 + 2048 + 1024 + 512 = n := by have h := hn.out; simp only [Bool.false_eq_true, if_false, if_true] at h; omega
      clear hn
      go_enter Tryd.func35, Tryd.ntmps35
      go_wp2_with fail
      refine (H1.out _).mono ?_
      rintro e w1 ⟨rfl, hb1⟩
      go_wp2_with fail
      refine (H2.out _).mono ?_
      rintro e w2 ⟨rfl, hb2⟩
      go_wp2_with fail
      refine (H3.out _).mono ?_
      rintro e w3 ⟨rfl, hb3⟩
      have B3 : Hid (Below (w.alloc (.cells #[.int .i64 0, .int .i64 0, .int .i64 0] 43)).heap.size (w.alloc (.cells #[.int .i64 0, .int .i64 0, .int .i64 0] 43)) w3) := bl_thenW (bl_thenW hb1 hb2) hb3
      obtain ⟨hcl, hfz⟩ := bl_cellW B3.out
      have hz := bl_sizeW B3.out
      simp at hcl hfz
      clear hb1 hb2 hb3
      go_wp2_with fail
      refine (ht.out _).mono ?_
      rintro e w4 ⟨rfl, rfl⟩
      go_wp2
      exact bodyPost_ret (v := numW 0 0 3) (by simp [results, Tryd.results35, go_sem, numW, hcl, hz]) rfl ⟨by rw [fN.out, fC.out], bl_set3W (bl_overW B3.out)⟩
  · have fd2 : (T.toList == s.toList) = true := fd
    clear fd
    cases x1 <;> cases x2 <;> cases x3
    · have hX : 64 * v1 + 8 * v2 + v3 = N := by have h := hn.out; simp only [Bool.false_eq_true, if_false, if_true] at h; omega
      clear hn
      go_enter Tryd.func35, Tryd.ntmps35
      go_wp2_with fail
      refine (H1.out _).mono ?_
      rintro e w1 ⟨rfl, hb1⟩
      go_wp2_with fail
      refine (H2.out _).mono ?_
      rintro e w2 ⟨rfl, hb2⟩
      go_wp2_with fail
      refine (H3.out _).mono ?_
      rintro e w3 ⟨rfl, hb3⟩
      have B3 : Hid (Below (w.alloc (.cells #[.int .i64 0, .int .i64 0, .int .i64 0] 43)).heap.size (w.alloc (.cells #[.int .i64 0, .int .i64 0, .int .i64 0] 43)) w3) := bl_thenW (bl_thenW hb1 hb2) hb3
      obtain ⟨hcl, hfz⟩ := bl_cellW B3.out
      have hz := bl_sizeW B3.out
      simp at hcl hfz
      clear hb1 hb2 hb3
      go_wp2_with fail
      refine (ht.out _).mono ?_
      rintro e w4 ⟨rfl, rfl⟩
      go_wp2
      exact bodyPost_ret (v := numW N 0 0) (by simp [results, Tryd.results35, go_sem, numW, hcl, hz]) rfl ⟨by rw [fN.out, fC.out], bl_set3W (bl_overW B3.out)⟩
    · have hX : 64 * v1 + 8 * v2 + v3 + 512 = N := by have h := hn.out; simp only [Bool.false_eq_true, if_false, if_true] at h; omega
      clear hn
      go_enter Tryd.func35, Tryd.ntmps35
      go_wp2_with fail
      refine (H1.out _).mono ?_
      rintro e w1 ⟨rfl, hb1⟩
      go_wp2_with fail
      refine (H2.out _).mono ?_
      rintro e w2 ⟨rfl, hb2⟩
      go_wp2_with fail
      refine (H3.out _).mono ?_
      rintro e w3 ⟨rfl, hb3⟩
      have B3 : Hid (Below (w.alloc (.cells #[.int .i64 0, .int .i64 0, .int .i64 0] 43)).heap.size (w.alloc (.cells #[.int .i64 0, .int .i64 0, .int .i64 0] 43)) w3) := bl_thenW (bl_thenW hb1 hb2) hb3
      obtain ⟨hcl, hfz⟩ := bl_cellW B3.out
      have hz := bl_sizeW B3.out
      simp at hcl hfz
      clear hb1 hb2 hb3
      go_wp2_with fail
      refine (ht.out _).mono ?_
      rintro e w4 ⟨rfl, rfl⟩
      go_wp2
      exact bodyPost_ret (v := numW N 0 0) (by simp [results, Tryd.results35, go_sem, numW, hcl, hz]) rfl ⟨by rw [fN.out, fC.out], bl_set3W (bl_overW B3.out)⟩
    · have hX : 64 * v1 + 8 * v2 + v3 + 1024 = N := by have h := hn.out; simp only [Bool.false_eq_true, if_false, if_true] at h; omega
      clear hn
      go_enter Tryd.func35, Tryd.ntmps35
      go_wp2_with fail
      refine (H1.out _).mono ?_
      rintro e w1 ⟨rfl, hb1⟩
      go_wp2_with fail
      refine (H2.out _).mono ?_
      rintro e w2 ⟨rfl, hb2⟩
      go_wp2_with fail
      refine (H3.out _).mono ?_
      rintro e w3 ⟨rfl, hb3⟩
      have B3 : Hid (Below (w.alloc (.cells #[.int .i64 0, .int .i64 0, .int .i64 0] 43)).heap.size (w.alloc (.cells #[.int .i64 0, .int .i64 0, .int .i64 0] 43)) w3) := bl_thenW (bl_thenW hb1 hb2) hb3
      obtain ⟨hcl, hfz⟩ := bl_cellW B3.out
      have hz := bl_sizeW B3.out
      simp at hcl hfz
      clear hb1 hb2 hb3
      go_wp2_with fail
      refine (ht.out _).mono ?_
      rintro e w4 ⟨rfl, rfl⟩
      go_wp2
      exact bodyPost_ret (v := numW N 0 0) (by simp [results, Tryd.results35, go_sem, numW, hcl, hz]) rfl ⟨by rw [fN.out, fC.out], bl_set3W (bl_overW B3.out)⟩
    · have hX : 64 * v1 + 8 * v2 + v3 + 1024 + 512 = N := by have h := hn.out; simp only [Bool.false_eq_true, if_false, if_true] at h; omega
      clear hn
      go_enter Tryd.func35, Tryd.ntmps35
      go_wp2_with fail
      refine (H1.out _).mono ?_
      rintro e w1 ⟨rfl, hb1⟩
      go_wp2_with fail
      refine (H2.out _).mono ?_
      rintro e w2 ⟨rfl, hb2⟩
      go_wp2_with fail
      refine (H3.out _).mono ?_
      rintro e w3 ⟨rfl, hb3⟩
      have B3 : Hid (Below (w.alloc (.cells #[.int .i64 0, .int .i64 0, .int .i64 0] 43)).heap.size (w.alloc (.cells #[.int .i64 0, .int .i64 0, .int .i64 0] 43)) w3) := bl_thenW (bl_thenW hb1 hb2) hb3
      obtain ⟨hcl, hfz⟩ := bl_cellW B3.out
      have hz := bl_sizeW B3.out
      simp at hcl hfz
      clear hb1 hb2 hb3
      go_wp2_with fail
      refine (ht.out _).mono ?_
      rintro e w4 ⟨rfl, rfl⟩
      go_wp2
      exact bodyPost_ret (v := numW N 0 0) (by simp [results, Tryd.results35, go_sem, numW, hcl, hz]) rfl ⟨by rw [fN.out, fC.out], bl_set3W (bl_overW B3.out)⟩
    · have hX : 64 * v1 + 8 * v2 + v3 + 2048 = N := by have h := hn.out; simp only [Bool.false_eq_true, if_false, if_true] at h; omega
      clear hn
      go_enter Tryd.func35, Tryd.ntmps35
      go_wp2_with fail
      refine (H1.out _).mono ?_
      rintro e w1 ⟨rfl, hb1⟩
      go_wp2_with fail
      refine (H2.out _).mono ?_
      rintro e w2 ⟨rfl, hb2⟩
      go_wp2_with fail
      refine (H3.out _).mono ?_
      rintro e w3 ⟨rfl, hb3⟩
      have B3 : Hid (Below (w.alloc (.cells #[.int .i64 0, .int .i64 0, .int .i64 0] 43)).heap.size (w.alloc (.cells #[.int .i64 0, .int .i64 0, .int .i64 0] 43)) w3) := bl_thenW (bl_thenW hb1 hb2) hb3
      obtain ⟨hcl, hfz⟩ := bl_cellW B3.out
      have hz := bl_sizeW B3.out
      simp at hcl hfz
      clear hb1 hb2 hb3
      go_wp2_with fail
      refine (ht.out _).mono ?_
      rintro e w4 ⟨rfl, rfl⟩
      go_wp2
      exact bodyPost_ret (v := numW N 0 0) (by simp [results, Tryd.results35, go_sem, numW, hcl, hz]) rfl ⟨by rw [fN.out, fC.out], bl_set3W (bl_overW B3.out)⟩
    · have hX : 64 * v1 + 8 * v2 + v3 + 2048 + 512 = N := by have h := hn.out; simp only [Bool.false_eq_true, if_false, if_true] at h; omega
      clear hn
      go_enter Tryd.func35, Tryd.ntmps35
      go_wp2_with fail
      refine (H1.out _).mono ?_
      rintro e w1 ⟨rfl, hb1⟩
      go_wp2_with fail
      refine (H2.out _).mono ?_
      rintro e w2 ⟨rfl, hb2⟩
      go_wp2_with fail
      refine (H3.out _).mono ?_
      rintro e w3 ⟨rfl, hb3⟩
      have B3 : Hid (Below (w.alloc (.cells #[.int .i64 0, .int .i64 0, .int .i64 0] 43)).heap.size (w.alloc (.cells #[.int .i64 0, .int .i64 0, .int .i64 0] 43)) w3) := bl_thenW (bl_thenW hb1 hb2) hb3
      obtain ⟨hcl, hfz⟩ := bl_cellW B3.out
      have hz := bl_sizeW B3.out
      simp at hcl hfz
      clear hb1 hb2 hb3
      go_wp2_with fail
      refine (ht.out _).mono ?_
      rintro e w4 ⟨rfl, rfl⟩
      go_wp2
      exact bodyPost_ret (v := numW N 0 0) (by simp [results, Tryd.results35, go_sem, numW, hcl, hz]) rfl ⟨by rw [fN.out, fC.out], bl_set3W (bl_overW B3.out)⟩
    · have hX : 64 * v1 + 8 * v2 + v3 + 2048 + 1024 = N := by have h := hn.out; simp only [Bool.false_eq_true, if_false, if_true] at h; omega
      clear hn
      go_enter Tryd.func35, Tryd.ntmps35
      go_wp2_with fail
      refine (H1.out _).mono ?_
      rintro e w1 ⟨rfl, hb1⟩
      go_wp2_with fail
      refine (H2.out _).mono ?_
      rintro e w2 ⟨rfl, hb2⟩
      go_wp2_with fail
      refine (H3.out _).mono ?_
      rintro e w3 ⟨rfl, hb3⟩
      have B3 : Hid (Below (w.alloc (.cells #[.int .i64 0, .int .i64 0, .int .i64 0] 43)).heap.size (w.alloc (.cells #[.int .i64 0, .int .i64 0, .int .i64 0] 43)) w3) := bl_thenW (bl_thenW hb1 hb2) hb3
      obtain ⟨hcl, hfz⟩ := bl_cellW B3.out
      have hz := bl_sizeW B3.out
      simp at hcl hfz
      clear hb1 hb2 hb3
      go_wp2_with fail
      refine (ht.out _).mono ?_
      rintro e w4 ⟨rfl, rfl⟩
      go_wp2
      exact bodyPost_ret (v := numW N 0 0) (by simp [results, Tryd.results35, go_sem, numW, hcl, hz]) rfl ⟨by rw [fN.out, fC.out], bl_set3W (bl_overW B3.out)⟩
    · have hX : 64 * v1 + 8 * v2 + v3 + 2048 + 1024 + 512 = N := by have h := hn.out; simp only [Bool.false_eq_true, if_false, if_true] at h; omega
      clear hn
      go_enter Tryd.func35, Tryd.ntmps35
      go_wp2_with fail
      refine (H1.out _).mono ?_
      rintro e w1 ⟨rfl, hb1⟩
      go_wp2_with fail
      refine (H2.out _).mono ?_
      rintro e w2 ⟨rfl, hb2⟩
      go_wp2_with fail
      refine (H3.out _).mono ?_
      rintro e w3 ⟨rfl, hb3⟩
      have B3 : Hid (Below (w.alloc (.cells #[.int .i64 0, .int .i64 0, .int .i64 0] 43)).heap.size (w.alloc (.cells #[.int .i64 0, .int .i64 0, .int .i64 0] 43)) w3) := bl_thenW (bl_thenW hb1 hb2) hb3
      obtain ⟨hcl, hfz⟩ := bl_cellW B3.out
      have hz := bl_sizeW B3.out
      simp at hcl hfz
      clear hb1 hb2 hb3
      go_wp2_with fail
      refine (ht.out _).mono ?_
      rintro e w4 ⟨rfl, rfl⟩
      go_wp2
      exact bodyPost_ret (v := numW N 0 0) (by simp [results, Tryd.results35, go_sem, numW, hcl, hz]) rfl ⟨by rw [fN.out, fC.out], bl_set3W (bl_overW B3.out)⟩
/-- spec.ModeRead. -/
theorem sModeRead_any (s : ByteArray) (w : World) :
    Calls Tryd.prog 35 #[.string s] w fun e w' => e = .returned (numW (whN s (rdM s)) 0 (whC s (rdM s))) ∧ Below w.heap.size w w' := by
  by_cases h : 8000 < s.size
  · rw [(wh_long h _).1, (wh_long h _).2]
    exact sModeRead_long s (by omega) w
  · by_cases h9 : s.size = 9
    · exact sModeRead_nine s h9 w
    · have hr := rdM_size h9
      rw [(wh_none h hr).1, (wh_none h hr).2]
      exact sModeRead_size s (by omega) (by omega) w
end Go.Proofs.YtibofkjonepbpaaDoor
