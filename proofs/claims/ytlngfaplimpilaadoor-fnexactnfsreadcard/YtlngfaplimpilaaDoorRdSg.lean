/- Signs read: spec.l05Set, impl.readSigns. -/
import Derived.Test.YtlngfaplimpilaaDoorAceRdM
import Derived.Lib.QuietBelow
import Derived.BigQuiet
namespace Go.Proofs.YtlngfaplimpilaaDoor
open Go.RowKit Go.PlainAid Go.Deep
set_option linter.unusedVariables false
theorem count_take {l : List UInt8} {j : Nat} (x : UInt8) (h : j < l.length) : (l.take (j + 1)).count x = (l.take j).count x + (if l[j] = x then 1 else 0) := by
  rw [← List.take_append_getElem h, List.count_append, List.count_singleton]
  by_cases e : l[j] = x <;> simp [e]
theorem cnt_end {l : List UInt8} {j : Nat} (x : UInt8) (h9 : j ≤ 9) (hl : j ≤ l.length) (he : ¬ (j < l.length ∧ j < 9)) : (l.take j).count x = cntS l x := by
  unfold cntS
  by_cases e : j = 9
  · rw [e]
  · have : j = l.length := by omega
    rw [this, List.take_length, List.take_of_length_le (by omega)]
theorem cnt_le (l : List UInt8) (j : Nat) (x : UInt8) : (l.take j).count x ≤ j := Nat.le_trans List.count_le_length (by simp; omega)
theorem setTo_le (t S : List UInt8) : ∀ k, setTo t S k ≤ 9 * 2 ^ k := by
  intro k
  induction k with
  | zero => simp [setTo]
  | succ k ih =>
    have h1 : cntS t (S.getD k 0) ≤ 9 := Nat.le_trans List.count_le_length (by simp; omega)
    have h2 : 2 ^ k * cntS t (S.getD k 0) ≤ 2 ^ k * 9 := Nat.mul_le_mul_left _ h1
    have h3 : 2 ^ (k + 1) = 2 ^ k + 2 ^ k := by rw [Nat.pow_succ]; omega
    simp only [setTo]
    omega
theorem byte_getD {S : ByteArray} {k : Nat} (h : k < S.size) : S.data.toList.getD k 0 = S[k] := by
  have hl : k < S.data.toList.length := by rw [← Lib.size_eq]; exact h
  rw [List.getD, List.getElem?_eq_getElem hl]
  rfl
theorem byte_ne {x y : UInt8} (h : ¬ x = y) : ((x.toNat : Int) == (y.toNat : Int)) = false := by
  cases e : ((x.toNat : Int) == (y.toNat : Int))
  · rfl
  · exact absurd (UInt8.toNat_inj.1 (by have := beq_iff_eq.1 e; omega)) h
theorem byte_eq {x y : UInt8} (h : x = y) : ((x.toNat : Int) == (y.toNat : Int)) = true := by rw [h]; simp
set_option maxRecDepth 100000 in
set_option maxHeartbeats 4000000 in
/-- spec.l05Set. -/
theorem sSet_any (t S : ByteArray) (ht : t.size ≤ 100000000) (hS : S.size ≤ 8) (w : World) :
    Calls Tryd.prog 100 #[.string t, .string S] w fun e w' => e = .returned (.int .i64 (setTo t.data.toList S.data.toList S.size : Nat)) ∧ Below w.heap.size w w' := by
  have HL : Hid (t.data.toList.length = t.size) := (Lib.size_eq t).symm
  go_enter Tryd.func100, Tryd.ntmps100
  go_wp2
  go_loopw [5, 6, 7] (fun n p i wr => ∃ k : Nat, k ≤ S.size ∧ n = .int .i64 (setTo t.data.toList S.data.toList k : Nat) ∧ p = .int .i64 (2 ^ k : Nat) ∧ i = .int .i64 k ∧ Hid (Below w.heap.size w wr)) (fun _ _ i _ => S.size - (intOf i).toNat)
  case atStart => exact ⟨0, Nat.zero_le _, rfl, rfl, rfl, Below.refl _ _⟩
  case round =>
    obtain ⟨k, hk, rfl, rfl, rfl, hB⟩ := hrel
    have hp8 : 2 ^ k ≤ 256 := by
      have := Nat.pow_le_pow_right (n := 2) (by decide) (show k ≤ 8 by omega)
      simpa using this
    have hs9 := setTo_le t.data.toList S.data.toList k
    by_cases hlt : k < S.size
    · have hlt' : (k : Int) < (S.size : Int) := by omega
      have HX : Hid (∀ j, (hj : j < t.size) → (t.data.toList.take (j + 1)).count S[k] = (t.data.toList.take j).count S[k] + (if t[j] = S[k] then 1 else 0)) := (fun j hj => count_take S[k] (by rw [HL.out]; exact hj))
      have HC : Hid (∀ j, (t.data.toList.take j).count S[k] ≤ j) := (fun j => cnt_le _ j _)
      have HE : Hid (∀ j, j ≤ 9 → j ≤ t.size → ¬ (j < t.size ∧ j < 9) → setTo t.data.toList S.data.toList (k + 1) = setTo t.data.toList S.data.toList k + 2 ^ k * (t.data.toList.take j).count S[k]) := (fun j h9 hj he => by
        rw [setTo, byte_getD hlt, cnt_end S[k] h9 (by rw [HL.out]; exact hj) (by rw [HL.out]; exact he)])
      have HP : Hid (2 ^ (k + 1) = 2 * 2 ^ k) := (by show _ = _; rw [Nat.pow_succ]; omega)
      generalize hP : 2 ^ k = P at hp8 hs9 HE HP
      generalize hSK : setTo t.data.toList S.data.toList k = Z at hs9 HE
      have HPP : Hid (2 ^ k = P) := hP
      have HSK : Hid (setTo t.data.toList S.data.toList k = Z) := hSK
      clear hP hSK
      go_wp2
      go_loopw [5, 8] (fun n jj wr => ∃ j : Nat, j ≤ 9 ∧ j ≤ t.size ∧ n = .int .i64 (Z + P * (t.data.toList.take j).count S[k] : Nat) ∧ jj = .int .i64 j ∧ Hid (Below w.heap.size w wr)) (fun _ jj _ => 9 - (intOf jj).toNat)
      case atStart => exact ⟨0, by omega, Nat.zero_le _, by simp, rfl, hB⟩
      case round =>
        obtain ⟨j, h9, hj, rfl, rfl, hB1⟩ := hrel
        have hcj := HC.out j
        have hmul : P * (t.data.toList.take j).count S[k] ≤ 256 * 9 := Nat.mul_le_mul hp8 (by omega)
        by_cases hj1 : j < t.size
        · have hj1' : (j : Int) < (t.size : Int) := by omega
          by_cases hj9 : j < 9
          · have hj9' : (j : Int) < 9 := by omega
            have hst := HX.out j hj1
            by_cases hx : t[j] = S[k]
            · rw [if_pos hx] at hst
              have heq := byte_eq hx
              have HST : Hid (P * (t.data.toList.take (j + 1)).count S[k] = P * (t.data.toList.take j).count S[k] + P) := (by show _ = _; rw [hst, Nat.mul_add, Nat.mul_one])
              clear hst hx
              generalize P * (t.data.toList.take j).count S[k] = Q at hmul HST
              go_wp2_with fail
              refine wp_region_quiet_below (by kernel_rfl) (by kernel_rfl) ?_
              repeat (go_big_quiet_step (fail))
              refine wpQuiet_nil ?_
              intro _ hw'
              obtain ⟨⟨dq, osq⟩, hw''⟩ := hw'
              subst hw''
              have hB2 : Hid (Below w.heap.size w (Go.Sort.grow (redrawn wr dq) osq)) := Below.on hB1.out (below_regrown wr dq osq)
              generalize Go.Sort.grow (redrawn wr dq) osq = w2 at hB2 ⊢
              go_wp2
              go_roundw
              case rel => exact ⟨j + 1, by omega, by omega, by rw [HST.out]; go_num, by go_num, hB2⟩
              case measure => simp [intOf]; omega
            · rw [if_neg hx] at hst
              have heq := byte_ne hx
              have HST : Hid (P * (t.data.toList.take (j + 1)).count S[k] = P * (t.data.toList.take j).count S[k]) := (by show _ = _; rw [hst, Nat.add_zero])
              clear hst hx
              generalize P * (t.data.toList.take j).count S[k] = Q at hmul HST
              go_wp2_with fail
              refine wp_region_quiet_below (by kernel_rfl) (by kernel_rfl) ?_
              repeat (go_big_quiet_step (fail))
              refine wpQuiet_nil ?_
              intro _ hw'
              obtain ⟨⟨dq, osq⟩, hw''⟩ := hw'
              subst hw''
              have hB2 : Hid (Below w.heap.size w (Go.Sort.grow (redrawn wr dq) osq)) := Below.on hB1.out (below_regrown wr dq osq)
              generalize Go.Sort.grow (redrawn wr dq) osq = w2 at hB2 ⊢
              go_wp2
              go_roundw
              case rel => exact ⟨j + 1, by omega, by omega, by rw [HST.out], by go_num, hB2⟩
              case measure => simp [intOf]; omega
          · have hj9' : ¬ (j : Int) < 9 := by omega
            have hend : Hid (setTo t.data.toList S.data.toList (k + 1) = Z + P * (t.data.toList.take j).count S[k]) := HE.out j h9 hj (fun h => hj9 h.2)
            generalize P * (t.data.toList.take j).count S[k] = Q at hmul hend
            go_wp2
            go_roundw
            case rel => exact ⟨k + 1, by omega, by rw [hend.out], by rw [HP.out]; go_num, by go_num, hB1⟩
            case measure => simp [intOf]; omega
        · have hj1' : ¬ (j : Int) < (t.size : Int) := by omega
          have hend : Hid (setTo t.data.toList S.data.toList (k + 1) = Z + P * (t.data.toList.take j).count S[k]) := HE.out j h9 hj (fun h => hj1 h.1)
          generalize P * (t.data.toList.take j).count S[k] = Q at hmul hend
          go_wp2
          go_roundw
          case rel => exact ⟨k + 1, by omega, by rw [hend.out], by rw [HP.out]; go_num, by go_num, hB1⟩
          case measure => simp [intOf]; omega
    · have : k = S.size := by omega
      subst this
      go_wp2
      go_ret
      exact ⟨rfl, hB.out⟩
theorem or_bit (k s p : Nat) (hp : 2 ^ k = p) (h8 : p ≤ 256) (h : s < 2 ^ k) : bits .or .i64 (s : Int) (p : Int) = ((s + p : Nat) : Int) := by
  subst hp
  have e := Nat.two_pow_add_eq_or_of_lt h 1
  rw [Nat.mul_one] at e
  rw [i64_or_nat s (2 ^ k) (by omega) (by omega), Nat.or_comm, ← e, Nat.add_comm]
set_option maxRecDepth 100000 in
set_option maxHeartbeats 4000000 in
/-- impl.readSigns. -/
theorem iRdSg_any (t S : ByteArray) (hS : S.size ≤ 8) (w : World) :
    Calls Tryd.prog 101 #[.string t, .string S] w fun e w' => e = .returned (.tuple #[.int .i64 ((rsTo t.data.toList S.data.toList S.size).1 : Nat), .bool (decide ((rsTo t.data.toList S.data.toList S.size).2 = t.size))]) ∧ Below w.heap.size w w' := by
  have HL : Hid (t.data.toList.length = t.size) := (Lib.size_eq t).symm
  go_enter Tryd.func101, Tryd.ntmps101
  go_wp2
  go_loopw [6, 7, 11] (fun n a i wr => ∃ k : Nat, k ≤ S.size ∧ i = .int .i64 k ∧ n = .int .i64 ((rsTo t.data.toList S.data.toList k).1 : Nat) ∧ a = .int .i64 ((rsTo t.data.toList S.data.toList k).2 : Nat) ∧ Hid (Below w.heap.size w wr)) (fun _ _ i _ => S.size - (intOf i).toNat)
  case atStart => exact ⟨0, Nat.zero_le _, rfl, rfl, rfl, Below.refl _ _⟩
  case round =>
    obtain ⟨k, hk, rfl, rfl, rfl, hB⟩ := hrel
    obtain ⟨i1, i2, i3, _⟩ := rs_inv t.data.toList S.data.toList k
    rw [HL.out] at i2
    by_cases hlt : k < S.size
    · have hlt' : (k : Int) < (S.size : Int) := by omega
      have hg := byte_getD hlt
      have HR : Hid (rsTo t.data.toList S.data.toList (k + 1) = if (rsTo t.data.toList S.data.toList k).2 < t.size ∧ t.data.toList.getD (rsTo t.data.toList S.data.toList k).2 0 = S[k] then ((rsTo t.data.toList S.data.toList k).1 + 2 ^ k, (rsTo t.data.toList S.data.toList k).2 + 1) else rsTo t.data.toList S.data.toList k) := (by
        show _ = _
        rw [rsTo, hg, HL.out])
      by_cases ha : (rsTo t.data.toList S.data.toList k).2 < t.size
      · have hga := byte_getD ha
        rw [hga] at HR
        by_cases hx : t[(rsTo t.data.toList S.data.toList k).2] = S[k]
        · have HN : Hid (rsTo t.data.toList S.data.toList (k + 1) = ((rsTo t.data.toList S.data.toList k).1 + 2 ^ k, (rsTo t.data.toList S.data.toList k).2 + 1)) := (by show _ = _; rw [HR.out, if_pos ⟨ha, hx⟩])
          have heq := byte_eq hx
          clear HR hga hx hg
          have hav : ((rsTo t.data.toList S.data.toList k).2 : Int) < (t.size : Int) := by omega
          generalize (rsTo t.data.toList S.data.toList k).1 = sv at i1 HN
          generalize (rsTo t.data.toList S.data.toList k).2 = av at i2 i3 HN ha heq hav
          have h8 : k < 8 := by omega
          rcases (by omega : k = 0 ∨ k = 1 ∨ k = 2 ∨ k = 3 ∨ k = 4 ∨ k = 5 ∨ k = 6 ∨ k = 7) with rfl | rfl | rfl | rfl | rfl | rfl | rfl | rfl
          · have hor := or_bit 0 sv 1 rfl (by decide) i1
            have hor2 : bits .or .i64 (sv : Int) 1 = (sv : Int) + 1 := by simpa using hor
            have hsv : sv < 1 := i1
            clear hor i1 h8
            go_wp2_with fail
            refine wp_region_quiet_below (by kernel_rfl) (by kernel_rfl) ?_
            repeat (go_big_quiet_step (fail))
            refine wpQuiet_nil ?_
            intro _ hw'
            obtain ⟨⟨dq, osq⟩, hw''⟩ := hw'
            subst hw''
            have hB2 : Hid (Below w.heap.size w (Go.Sort.grow (redrawn wr dq) osq)) := Below.on hB.out (below_regrown wr dq osq)
            generalize Go.Sort.grow (redrawn wr dq) osq = w2 at hB2 ⊢
            go_wp2
            go_roundw
            case rel => exact ⟨1, by omega, by go_num, by rw [HN.out]; simp, by rw [HN.out]; simp, hB2⟩
            case measure => simp [intOf]; omega
          · have hor := or_bit 1 sv 2 rfl (by decide) i1
            have hor2 : bits .or .i64 (sv : Int) 2 = (sv : Int) + 2 := by simpa using hor
            have hsv : sv < 2 := i1
            clear hor i1 h8
            go_wp2_with fail
            refine wp_region_quiet_below (by kernel_rfl) (by kernel_rfl) ?_
            repeat (go_big_quiet_step (fail))
            refine wpQuiet_nil ?_
            intro _ hw'
            obtain ⟨⟨dq, osq⟩, hw''⟩ := hw'
            subst hw''
            have hB2 : Hid (Below w.heap.size w (Go.Sort.grow (redrawn wr dq) osq)) := Below.on hB.out (below_regrown wr dq osq)
            generalize Go.Sort.grow (redrawn wr dq) osq = w2 at hB2 ⊢
            go_wp2
            go_roundw
            case rel => exact ⟨2, by omega, by go_num, by rw [HN.out]; simp, by rw [HN.out]; simp, hB2⟩
            case measure => simp [intOf]; omega
          · have hor := or_bit 2 sv 4 rfl (by decide) i1
            have hor2 : bits .or .i64 (sv : Int) 4 = (sv : Int) + 4 := by simpa using hor
            have hsv : sv < 4 := i1
            clear hor i1 h8
            go_wp2_with fail
            refine wp_region_quiet_below (by kernel_rfl) (by kernel_rfl) ?_
            repeat (go_big_quiet_step (fail))
            refine wpQuiet_nil ?_
            intro _ hw'
            obtain ⟨⟨dq, osq⟩, hw''⟩ := hw'
            subst hw''
            have hB2 : Hid (Below w.heap.size w (Go.Sort.grow (redrawn wr dq) osq)) := Below.on hB.out (below_regrown wr dq osq)
            generalize Go.Sort.grow (redrawn wr dq) osq = w2 at hB2 ⊢
            go_wp2
            go_roundw
            case rel => exact ⟨3, by omega, by go_num, by rw [HN.out]; simp, by rw [HN.out]; simp, hB2⟩
            case measure => simp [intOf]; omega
          · have hor := or_bit 3 sv 8 rfl (by decide) i1
            have hor2 : bits .or .i64 (sv : Int) 8 = (sv : Int) + 8 := by simpa using hor
            have hsv : sv < 8 := i1
            clear hor i1 h8
            go_wp2_with fail
            refine wp_region_quiet_below (by kernel_rfl) (by kernel_rfl) ?_
            repeat (go_big_quiet_step (fail))
            refine wpQuiet_nil ?_
            intro _ hw'
            obtain ⟨⟨dq, osq⟩, hw''⟩ := hw'
            subst hw''
            have hB2 : Hid (Below w.heap.size w (Go.Sort.grow (redrawn wr dq) osq)) := Below.on hB.out (below_regrown wr dq osq)
            generalize Go.Sort.grow (redrawn wr dq) osq = w2 at hB2 ⊢
            go_wp2
            go_roundw
            case rel => exact ⟨4, by omega, by go_num, by rw [HN.out]; simp, by rw [HN.out]; simp, hB2⟩
            case measure => simp [intOf]; omega
          · have hor := or_bit 4 sv 16 rfl (by decide) i1
            have hor2 : bits .or .i64 (sv : Int) 16 = (sv : Int) + 16 := by simpa using hor
            have hsv : sv < 16 := i1
            clear hor i1 h8
            go_wp2_with fail
            refine wp_region_quiet_below (by kernel_rfl) (by kernel_rfl) ?_
            repeat (go_big_quiet_step (fail))
            refine wpQuiet_nil ?_
            intro _ hw'
            obtain ⟨⟨dq, osq⟩, hw''⟩ := hw'
            subst hw''
            have hB2 : Hid (Below w.heap.size w (Go.Sort.grow (redrawn wr dq) osq)) := Below.on hB.out (below_regrown wr dq osq)
            generalize Go.Sort.grow (redrawn wr dq) osq = w2 at hB2 ⊢
            go_wp2
            go_roundw
            case rel => exact ⟨5, by omega, by go_num, by rw [HN.out]; simp, by rw [HN.out]; simp, hB2⟩
            case measure => simp [intOf]; omega
          · have hor := or_bit 5 sv 32 rfl (by decide) i1
            have hor2 : bits .or .i64 (sv : Int) 32 = (sv : Int) + 32 := by simpa using hor
            have hsv : sv < 32 := i1
            clear hor i1 h8
            go_wp2_with fail
            refine wp_region_quiet_below (by kernel_rfl) (by kernel_rfl) ?_
            repeat (go_big_quiet_step (fail))
            refine wpQuiet_nil ?_
            intro _ hw'
            obtain ⟨⟨dq, osq⟩, hw''⟩ := hw'
            subst hw''
            have hB2 : Hid (Below w.heap.size w (Go.Sort.grow (redrawn wr dq) osq)) := Below.on hB.out (below_regrown wr dq osq)
            generalize Go.Sort.grow (redrawn wr dq) osq = w2 at hB2 ⊢
            go_wp2
            go_roundw
            case rel => exact ⟨6, by omega, by go_num, by rw [HN.out]; simp, by rw [HN.out]; simp, hB2⟩
            case measure => simp [intOf]; omega
          · have hor := or_bit 6 sv 64 rfl (by decide) i1
            have hor2 : bits .or .i64 (sv : Int) 64 = (sv : Int) + 64 := by simpa using hor
            have hsv : sv < 64 := i1
            clear hor i1 h8
            go_wp2_with fail
            refine wp_region_quiet_below (by kernel_rfl) (by kernel_rfl) ?_
            repeat (go_big_quiet_step (fail))
            refine wpQuiet_nil ?_
            intro _ hw'
            obtain ⟨⟨dq, osq⟩, hw''⟩ := hw'
            subst hw''
            have hB2 : Hid (Below w.heap.size w (Go.Sort.grow (redrawn wr dq) osq)) := Below.on hB.out (below_regrown wr dq osq)
            generalize Go.Sort.grow (redrawn wr dq) osq = w2 at hB2 ⊢
            go_wp2
            go_roundw
            case rel => exact ⟨7, by omega, by go_num, by rw [HN.out]; simp, by rw [HN.out]; simp, hB2⟩
            case measure => simp [intOf]; omega
          · have hor := or_bit 7 sv 128 rfl (by decide) i1
            have hor2 : bits .or .i64 (sv : Int) 128 = (sv : Int) + 128 := by simpa using hor
            have hsv : sv < 128 := i1
            clear hor i1 h8
            go_wp2_with fail
            refine wp_region_quiet_below (by kernel_rfl) (by kernel_rfl) ?_
            repeat (go_big_quiet_step (fail))
            refine wpQuiet_nil ?_
            intro _ hw'
            obtain ⟨⟨dq, osq⟩, hw''⟩ := hw'
            subst hw''
            have hB2 : Hid (Below w.heap.size w (Go.Sort.grow (redrawn wr dq) osq)) := Below.on hB.out (below_regrown wr dq osq)
            generalize Go.Sort.grow (redrawn wr dq) osq = w2 at hB2 ⊢
            go_wp2
            go_roundw
            case rel => exact ⟨8, by omega, by go_num, by rw [HN.out]; simp, by rw [HN.out]; simp, hB2⟩
            case measure => simp [intOf]; omega
        · have HN : Hid (rsTo t.data.toList S.data.toList (k + 1) = rsTo t.data.toList S.data.toList k) := (by show _ = _; rw [HR.out, if_neg (fun h => hx h.2)])
          have heq := byte_ne hx
          have hav : ((rsTo t.data.toList S.data.toList k).2 : Int) < (t.size : Int) := by omega
          clear HR hga hx hg
          go_wp2_with fail
          refine wp_region_quiet_below (by kernel_rfl) (by kernel_rfl) ?_
          repeat (go_big_quiet_step (fail))
          refine wpQuiet_nil ?_
          intro _ hw'
          obtain ⟨⟨dq, osq⟩, hw''⟩ := hw'
          subst hw''
          have hB2 : Hid (Below w.heap.size w (Go.Sort.grow (redrawn wr dq) osq)) := Below.on hB.out (below_regrown wr dq osq)
          generalize Go.Sort.grow (redrawn wr dq) osq = w2 at hB2 ⊢
          go_wp2
          go_roundw
          case rel => exact ⟨k + 1, by omega, by go_num, by rw [HN.out], by rw [HN.out], hB2⟩
          case measure => simp [intOf]; omega
      · have HN : Hid (rsTo t.data.toList S.data.toList (k + 1) = rsTo t.data.toList S.data.toList k) := (by show _ = _; rw [HR.out, if_neg (fun h => ha h.1)])
        have hav : ¬ ((rsTo t.data.toList S.data.toList k).2 : Int) < (t.size : Int) := by omega
        clear HR hg
        go_wp2_with fail
        refine wp_region_quiet_below (by kernel_rfl) (by kernel_rfl) ?_
        repeat (go_big_quiet_step (fail))
        refine wpQuiet_nil ?_
        intro _ hw'
        obtain ⟨⟨dq, osq⟩, hw''⟩ := hw'
        subst hw''
        have hB2 : Hid (Below w.heap.size w (Go.Sort.grow (redrawn wr dq) osq)) := Below.on hB.out (below_regrown wr dq osq)
        generalize Go.Sort.grow (redrawn wr dq) osq = w2 at hB2 ⊢
        go_wp2
        go_roundw
        case rel => exact ⟨k + 1, by omega, by go_num, by rw [HN.out], by rw [HN.out], hB2⟩
        case measure => simp [intOf]; omega
    · have : k = S.size := by omega
      subst this
      have hdec : (((rsTo t.data.toList S.data.toList S.size).2 : Int) == (t.size : Int)) = decide ((rsTo t.data.toList S.data.toList S.size).2 = t.size) := by
        by_cases e : (rsTo t.data.toList S.data.toList S.size).2 = t.size
        · rw [e]; simp
        · rw [decide_eq_false e]
          rw [beq_eq_false_iff_ne]
          omega
      have HD : Hid _ := hdec
      clear hdec
      go_wp2
      go_ret2
      exact ⟨by rw [← HD.out]; rfl, hB.out⟩
end Go.Proofs.YtlngfaplimpilaaDoor
