/- Laid together: NamedRight. -/
import Derived.Test.YtfhhaencigmpoaaDoorDf6
import Derived.Test.YtfhhaencigmpoaaDoorDf4
/- impl.namedRight and spec.l03Named: at most six, rising. -/
namespace Go.Proofs.YtfhhaencigmpoaaDoor
open Go.RowKit Go.PlainAid
set_option linter.unusedVariables false
theorem below_drewM {B : Nat} {w w' : World} (h : Below B w w') (n : Nat) : Below B w (w'.drewN n) := h.trans ⟨rfl, rfl, rfl, Nat.le_refl _, fun _ _ => rfl⟩
theorem pair_new (w : World) (v0 v1 : Value) (t : TypeId) : (w.alloc (.cells #[v0, v1] t)).cell? ⟨w.heap.size, 0, none⟩ = some v0 ∧ (w.alloc (.cells #[v0, v1] t)).cell? ⟨w.heap.size, 1, none⟩ = some v1 := by
  have hb : (w.alloc (.cells #[v0, v1] t)).heap[w.heap.size]? = some (.cells #[v0, v1] t) := by
    rw [World.alloc]
    exact Array.getElem?_push_size
  refine ⟨?_, ?_⟩ <;> (simp only [World.cell?, hb]; rfl)
set_option maxHeartbeats 1000000 in
theorem named_long (a : Option Addr) (len cap : Nat) (h : 6 < (len : Int)) (w : World) :
    Calls Tryd.prog 74 #[.slice a len cap] w fun e w' => e = .returned (.bool false) ∧ w' = w := by
  go_enter Tryd.func74, Tryd.ntmps74
  go_wp2
  go_ret
  exact ⟨rfl, rfl⟩
set_option maxHeartbeats 1000000 in
theorem named_none (a : Option Addr) (cap : Nat) (w : World) :
    Calls Tryd.prog 74 #[.slice a 0 cap] w fun e w' => e = .returned (.bool true) ∧ w' = w := by
  go_enter Tryd.func74, Tryd.ntmps74
  go_wp2
  go_rounds 1
  go_ret
  exact ⟨rfl, rfl⟩
set_option maxHeartbeats 4000000 in
theorem named_some (b off cap : Nat) (l : List (Int × Int)) (hl : l.length ≤ 6) (w : World) (hb : b < w.heap.size) (hc : ∀ i, i < l.length → w.cell? ⟨b, off + i * 2, none⟩ = some (.int .i64 (idAt l i)) ∧ w.cell? ⟨b, off + i * 2 + 1, none⟩ = some (.int .i64 (btAt l i))) :
    Calls Tryd.prog 74 #[.slice (some ⟨b, off, none⟩) l.length cap] w fun e w' => e = .returned (.bool (nmB l)) ∧ Below w.heap.size w w' := by
  have HC : Hid (∀ i, i < l.length → w.cell? ⟨b, off + i * 2, none⟩ = some (.int .i64 (idAt l i)) ∧ w.cell? ⟨b, off + i * 2 + 1, none⟩ = some (.int .i64 (btAt l i))) := hc
  have HN : Hid (∀ k, k < l.length → okN l k = false → nmB l = false) := (fun k => nm_no)
  have HY : Hid (nmRises l l.length = true → nmB l = true) := nm_yes hl
  clear hc
  generalize hlen : l.length = len at hl HC HN HY ⊢
  clear hlen
  have d0 : decide (6 < (len : Int)) = false := by simp; omega
  go_enter Tryd.func74, Tryd.ntmps74
  go_wp2
  go_loopw [10] (fun i wr => ∃ k : Nat, k ≤ len ∧ i = .int .i64 k ∧ Hid (nmRises l k = true) ∧ Hid (Below w.heap.size w wr)) (fun i _ => len - (intOf i).toNat)
  case atStart => exact ⟨0, Nat.zero_le _, rfl, rfl, Below.refl _ _⟩
  case round =>
    obtain ⟨k, hk, rfl, hto, hB⟩ := hrel
    by_cases hlt : k < len
    · have hlt' : (k : Int) < (len : Int) := by omega
      have g0 : wr.cell? ⟨b, off + k * 2, none⟩ = some (.int .i64 (idAt l k)) := (hB.out.cell (p := ⟨b, off + k * 2, none⟩) hb).trans (HC.out k hlt).1
      have g1 : wr.cell? ⟨b, off + k * 2 + 1, none⟩ = some (.int .i64 (btAt l k)) := (hB.out.cell (p := ⟨b, off + k * 2 + 1, none⟩) hb).trans (HC.out k hlt).2
      obtain ⟨n0, n1⟩ := pair_new wr (.int .i64 (idAt l k)) (.int .i64 (btAt l k)) 92
      have hBA : Hid (Below w.heap.size w (wr.alloc (.cells #[.int .i64 (idAt l k), .int .i64 (btAt l k)] 92))) := Below.onA hB.out
      cases hid : inR 0 9999 (idAt l k)
      · have hno : Hid (nmB l = false) := HN.out k hlt (okN_id hid)
        go_wp2
        generalize wr.alloc (.cells #[.int .i64 (idAt l k), .int .i64 (btAt l k)] 92) = W at n0 n1 hBA ⊢
        go_quiet ((first | (go_at_call 101; exact Calls.quiet_of_same (isId_any _ _)) | (go_at_call 73; exact Calls.quiet_of_same (isBits_any _ _))))
        go_wp2
        go_ret
        exact ⟨ret_boolW hno.out.symm, below_drewM hBA.out _⟩
      · cases hbt : inR 0 7 (btAt l k)
        · have hno : Hid (nmB l = false) := HN.out k hlt (okN_bt hbt)
          go_wp2
          generalize wr.alloc (.cells #[.int .i64 (idAt l k), .int .i64 (btAt l k)] 92) = W at n0 n1 hBA ⊢
          go_quiet ((first | (go_at_call 101; exact Calls.quiet_of_same (isId_any _ _)) | (go_at_call 73; exact Calls.quiet_of_same (isBits_any _ _))))
          go_wp2
          go_ret
          exact ⟨ret_boolW hno.out.symm, below_drewM hBA.out _⟩
        · cases k with
          | zero =>
            have hok : Hid (okN l 0 = true) := okN_first hid hbt
            simp only [Nat.zero_mul, Nat.add_zero] at g0 g1
            go_wp2
            generalize wr.alloc (.cells #[.int .i64 (idAt l 0), .int .i64 (btAt l 0)] 92) = W at n0 n1 hBA ⊢
            go_quiet ((first | (go_at_call 101; exact Calls.quiet_of_same (isId_any _ _)) | (go_at_call 73; exact Calls.quiet_of_same (isBits_any _ _))))
            go_wp2
            go_roundw
            case rel => exact ⟨1, by omega, by go_num, nmRises_next hto.out hok.out, below_drewM hBA.out _⟩
            case measure => simp [intOf]; omega
          | succ j =>
            have hj' : (j : Int) < (len : Int) := by omega
            have hj2 : (j : Int) + 1 < (len : Int) := by omega
            have hj0 : (0 : Int) < (j : Int) + 1 := by omega
            have hj3 : (j : Int) + 1 - 1 = (j : Int) := by omega
            have gp : (wr.alloc (.cells #[.int .i64 (idAt l (j + 1)), .int .i64 (btAt l (j + 1))] 92)).cell? ⟨b, off + j * 2, none⟩ = some (.int .i64 (idAt l j)) := (hBA.out.cell (p := ⟨b, off + j * 2, none⟩) hb).trans (HC.out j (by omega)).1
            by_cases hup : idAt l j < idAt l (j + 1)
            · have hok : Hid (okN l (j + 1) = true) := okN_up hid hbt hup
              have dd : decide (idAt l (j + 1) ≤ idAt l j) = false := by simp; omega
              go_wp2
              generalize wr.alloc (.cells #[.int .i64 (idAt l (j + 1)), .int .i64 (btAt l (j + 1))] 92) = W at n0 n1 gp hBA ⊢
              go_quiet ((first | (go_at_call 101; exact Calls.quiet_of_same (isId_any _ _)) | (go_at_call 73; exact Calls.quiet_of_same (isBits_any _ _))))
              go_wp2
              go_roundw
              case rel => exact ⟨j + 1 + 1, by omega, by go_num, nmRises_next hto.out hok.out, below_drewM hBA.out _⟩
              case measure => simp [intOf]; omega
            · have hno : Hid (nmB l = false) := HN.out (j + 1) hlt (okN_down hup)
              have dd : idAt l (j + 1) ≤ idAt l j := by omega
              clear hup
              go_wp2
              generalize wr.alloc (.cells #[.int .i64 (idAt l (j + 1)), .int .i64 (btAt l (j + 1))] 92) = W at n0 n1 gp hBA ⊢
              go_quiet ((first | (go_at_call 101; exact Calls.quiet_of_same (isId_any _ _)) | (go_at_call 73; exact Calls.quiet_of_same (isBits_any _ _))))
              go_wp2
              go_ret
              exact ⟨ret_boolW hno.out.symm, below_drewM hBA.out _⟩
    · have : k = len := by omega
      subst this
      have hyes : Hid (nmB l = true) := HY.out hto.out
      go_wp2
      go_ret
      exact ⟨ret_boolW hyes.out.symm, hB.out⟩
/-- impl.namedRight. -/
theorem named_any (a : Option Addr) (len cap : Nat) (l : List (Int × Int)) (w : World) (hi : Prs a len l w) :
    Calls Tryd.prog 74 #[.slice a len cap] w fun e w' => e = .returned (.bool (nmB l)) ∧ Below w.heap.size w w' := by
  obtain ⟨hln, hp⟩ := hi
  subst hln
  by_cases h8 : 6 < l.length
  · rw [nm_long h8]
    refine (named_long a l.length cap (by omega) w).mono ?_
    rintro e w' ⟨rfl, rfl⟩
    exact ⟨rfl, Below.refl _ _⟩
  · by_cases h0 : l.length = 0
    · have e : nmB l = true := nm_yes (by omega) (by rw [h0]; rfl)
      rw [e, h0]
      refine (named_none a cap w).mono ?_
      rintro e w' ⟨rfl, rfl⟩
      exact ⟨rfl, Below.refl _ _⟩
    · obtain ⟨b, off, rfl, hlt, hc⟩ := hp (by omega)
      exact named_some b off cap l (by omega) w hlt hc
set_option maxHeartbeats 1000000 in
theorem sNamed_none (a : Option Addr) (cap : Nat) (w : World) :
    Calls Tryd.prog 60 #[.slice a 0 cap] w fun e w' => e = .returned (.bool true) ∧ w' = w := by
  go_enter Tryd.func60, Tryd.ntmps60
  go_wp2
  go_rounds 1
  go_ret
  exact ⟨rfl, rfl⟩
theorem nm_end {l : List (Int × Int)} (h : nmRises l l.length = true) : decide ((l.length : Int) ≤ 6) = nmB l := by
  by_cases e : l.length ≤ 6
  · have : (l.length : Int) ≤ 6 := by omega
    simp [nmB, h, e, this]
  · have : ¬ (l.length : Int) ≤ 6 := by omega
    simp [nmB, h, e, this]
set_option maxHeartbeats 4000000 in
theorem sNamed_some (b off cap : Nat) (l : List (Int × Int)) (hl : l.length ≤ 1048576) (w : World) (hb : b < w.heap.size) (hc : ∀ i, i < l.length → w.cell? ⟨b, off + i * 2, none⟩ = some (.int .i64 (idAt l i)) ∧ w.cell? ⟨b, off + i * 2 + 1, none⟩ = some (.int .i64 (btAt l i))) :
    Calls Tryd.prog 60 #[.slice (some ⟨b, off, none⟩) l.length cap] w fun e w' => e = .returned (.bool (nmB l)) ∧ Below w.heap.size w w' := by
  have HC : Hid (∀ i, i < l.length → w.cell? ⟨b, off + i * 2, none⟩ = some (.int .i64 (idAt l i)) ∧ w.cell? ⟨b, off + i * 2 + 1, none⟩ = some (.int .i64 (btAt l i))) := hc
  have HN : Hid (∀ k, k < l.length → okN l k = false → nmB l = false) := (fun k => nm_no)
  have HY : Hid (nmRises l l.length = true → decide ((l.length : Int) ≤ 6) = nmB l) := nm_end
  clear hc
  generalize hlen : l.length = len at hl HC HN HY ⊢
  clear hlen
  go_enter Tryd.func60, Tryd.ntmps60
  go_wp2
  go_loopw [3] (fun i wr => ∃ k : Nat, k ≤ len ∧ i = .int .i64 k ∧ Hid (nmRises l k = true) ∧ Hid (Below w.heap.size w wr)) (fun i _ => len - (intOf i).toNat)
  case atStart => exact ⟨0, Nat.zero_le _, rfl, rfl, Below.refl _ _⟩
  case round =>
    obtain ⟨k, hk, rfl, hto, hB⟩ := hrel
    by_cases hlt : k < len
    · have hlt' : (k : Int) < (len : Int) := by omega
      have g0 : wr.cell? ⟨b, off + k * 2, none⟩ = some (.int .i64 (idAt l k)) := (hB.out.cell (p := ⟨b, off + k * 2, none⟩) hb).trans (HC.out k hlt).1
      have g1 : wr.cell? ⟨b, off + k * 2 + 1, none⟩ = some (.int .i64 (btAt l k)) := (hB.out.cell (p := ⟨b, off + k * 2 + 1, none⟩) hb).trans (HC.out k hlt).2
      cases hid : inR 0 9999 (idAt l k)
      · have hno : Hid (nmB l = false) := HN.out k hlt (okN_id hid)
        go_wp2
        go_quiet ((first | (go_at_call 99; exact Calls.quiet_of_same (sId_any _ _)) | (go_at_call 59; exact Calls.quiet_of_same (sBits_any _ _))))
        go_wp2
        go_ret
        exact ⟨ret_boolW hno.out.symm, below_drewM hB.out _⟩
      · cases hbt : inR 0 7 (btAt l k)
        · have hno : Hid (nmB l = false) := HN.out k hlt (okN_bt hbt)
          go_wp2
          go_quiet ((first | (go_at_call 99; exact Calls.quiet_of_same (sId_any _ _)) | (go_at_call 59; exact Calls.quiet_of_same (sBits_any _ _))))
          go_wp2
          go_ret
          exact ⟨ret_boolW hno.out.symm, below_drewM hB.out _⟩
        · cases k with
          | zero =>
            have hok : Hid (okN l 0 = true) := okN_first hid hbt
            simp only [Nat.zero_mul, Nat.add_zero] at g0 g1
            go_wp2
            go_quiet ((first | (go_at_call 99; exact Calls.quiet_of_same (sId_any _ _)) | (go_at_call 59; exact Calls.quiet_of_same (sBits_any _ _))))
            go_wp2
            go_roundw
            case rel => exact ⟨1, by omega, by go_num, nmRises_next hto.out hok.out, below_drewM hB.out _⟩
            case measure => simp [intOf]; omega
          | succ j =>
            have hj' : (j : Int) < (len : Int) := by omega
            have hj2 : (j : Int) + 1 < (len : Int) := by omega
            have hj0 : (0 : Int) < (j : Int) + 1 := by omega
            have hj3 : (j : Int) + 1 - 1 = (j : Int) := by omega
            have gp : wr.cell? ⟨b, off + j * 2, none⟩ = some (.int .i64 (idAt l j)) := (hB.out.cell (p := ⟨b, off + j * 2, none⟩) hb).trans (HC.out j (by omega)).1
            by_cases hup : idAt l j < idAt l (j + 1)
            · have hok : Hid (okN l (j + 1) = true) := okN_up hid hbt hup
              have dd : decide (idAt l (j + 1) ≤ idAt l j) = false := by simp; omega
              go_wp2
              go_quiet ((first | (go_at_call 99; exact Calls.quiet_of_same (sId_any _ _)) | (go_at_call 59; exact Calls.quiet_of_same (sBits_any _ _))))
              go_wp2
              go_roundw
              case rel => exact ⟨j + 1 + 1, by omega, by go_num, nmRises_next hto.out hok.out, below_drewM hB.out _⟩
              case measure => simp [intOf]; omega
            · have hno : Hid (nmB l = false) := HN.out (j + 1) hlt (okN_down hup)
              have dd : idAt l (j + 1) ≤ idAt l j := by omega
              clear hup
              go_wp2
              go_quiet ((first | (go_at_call 99; exact Calls.quiet_of_same (sId_any _ _)) | (go_at_call 59; exact Calls.quiet_of_same (sBits_any _ _))))
              go_wp2
              go_ret
              exact ⟨ret_boolW hno.out.symm, below_drewM hB.out _⟩
    · have : k = len := by omega
      subst this
      have hyes : Hid (decide ((k : Int) ≤ 6) = nmB l) := HY.out hto.out
      go_wp2
      go_ret
      exact ⟨ret_boolW hyes.out, hB.out⟩
/-- spec.l03Named. -/
theorem sNamed_any (a : Option Addr) (len cap : Nat) (l : List (Int × Int)) (hl : len ≤ 1048576) (w : World) (hi : Prs a len l w) :
    Calls Tryd.prog 60 #[.slice a len cap] w fun e w' => e = .returned (.bool (nmB l)) ∧ Below w.heap.size w w' := by
  obtain ⟨hln, hp⟩ := hi
  subst hln
  by_cases h0 : l.length = 0
  · have e : nmB l = true := nm_yes (by omega) (by rw [h0]; rfl)
    rw [e, h0]
    refine (sNamed_none a cap w).mono ?_
    rintro e w' ⟨rfl, rfl⟩
    exact ⟨rfl, Below.refl _ _⟩
  · obtain ⟨b, off, rfl, hlt, hc⟩ := hp (by omega)
    exact sNamed_some b off cap l hl w hlt hc
end Go.Proofs.YtfhhaencigmpoaaDoor
