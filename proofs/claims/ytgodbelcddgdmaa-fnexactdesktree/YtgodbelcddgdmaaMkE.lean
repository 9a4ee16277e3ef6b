/- laws.markEntryS, heldEntryS: a list of entries is written over, and read again. -/
import Derived.Test.YtgodbelcddgdmaaTreeO
import Derived.Test.YtgodbelcddgdmaaMkTx
import Derived.Lib.QuietBelow
import Derived.BigQuiet
import Derived.Deep.Cut
namespace Go.Proofs.Ytgodbelcddgdmaa
open Go.RowKit Go.PlainAid Go.Deep
set_option linter.unusedVariables false
/-- What mark writes. -/
def marksE (k n : Nat) : List (ByteArray × Int) := (List.range n).map fun (i : Nat) => (mkT (k + 2 * i), ((k + 2 * i + 1 : Nat) : Int))
theorem marksE_len (k n : Nat) : (marksE k n).length = n := by simp [marksE]
theorem marksE_nm (k n i : Nat) (h : i < n) : nmAt (marksE k n) i = mkT (k + 2 * i) := by simp [nmAt, marksE, h]
theorem marksE_no (k n i : Nat) (h : i < n) : noAt (marksE k n) i = ((k + 2 * i + 1 : Nat) : Int) := by simp [noAt, marksE, h]
set_option maxHeartbeats 4000000 in
theorem markEntryS_none (a : Option Addr) (cap : Nat) (k : Int) (w : World) :
    Calls Try.prog 30 #[.slice a 0 cap, .int .i64 k] w fun e w' => e = .returned (.int .i64 k) ∧ w' = w := by
  go_enter Try.func30, Try.ntmps30
  go_wp2
  go_rounds 1
  go_ret
  exact ⟨rfl, rfl⟩
set_option maxHeartbeats 4000000 in
theorem markEntryS_some (B len cap k : Nat) (F0 : Nat → ByteArray) (G0 : Nat → Int) (h0 : 0 < k) (h1 : k ≤ 500000000) (hl : len ≤ 1048576) (w : World) (hlt0 : B < w.heap.size) (hp : EHold w B F0 G0 len) :
    Calls Try.prog 30 #[.slice (some ⟨B, 0, none⟩) len cap, .int .i64 k] w fun e w' => e = .returned (.int .i64 ((k : Int) + 2 * len)) ∧ EHold w' B (fun i => mkT (k + 2 * i)) (fun i => ((k + 2 * i + 1 : Nat) : Int)) len ∧ ButS (some ⟨B, 0, none⟩) w w' := by
  have HP : Hid (EHold w B F0 G0 len) := hp
  have HL0 : Hid (B < w.heap.size) := hlt0
  clear hp hlt0
  go_enter Try.func30, Try.ntmps30
  go_wp2
  go_loopw [5, 1] (fun i q wr => ∃ (j : Nat) (F : Nat → ByteArray) (G : Nat → Int), j ≤ len ∧ i = .int .i64 j ∧ q = .int .i64 ((k : Int) + 2 * j) ∧ Hid (EHold wr B F G len) ∧ Hid (∀ t, t < j → F t = mkT (k + 2 * t) ∧ G t = ((k + 2 * t + 1 : Nat) : Int)) ∧ Hid (ButS (some ⟨B, 0, none⟩) w wr)) (fun i _ _ => len - (intOf i).toNat)
  case atStart => exact ⟨0, F0, G0, Nat.zero_le _, rfl, by simp, HP, fun t ht => absurd ht (by omega), ButS.refl _ _⟩
  case round =>
    obtain ⟨j, F, G, hj, rfl, rfl, hH, hg, hB⟩ := hrel
    by_cases hlt : j < len
    · have hlt' : (j : Int) < (len : Int) := by omega
      have hj0 : (0 : Int) ≤ (j : Int) := by omega
      have hBr : Hid (B < wr.heap.size) := Nat.lt_of_lt_of_le HL0.out hB.out.size
      have HM : Hid (∀ w, Calls Try.prog 29 #[.int .i64 ((k : Int) + 2 * j)] w fun e w' => e = .returned (.string (mkT (k + 2 * j))) ∧ Below w.heap.size w w') := (fun w => by
        have h := markText_any (k + 2 * j) (by omega) (by omega) w
        have e : ((k + 2 * j : Nat) : Int) = (k : Int) + 2 * j := by omega
        rw [e] at h
        exact h)
      go_wp2_with fail
      refine (HM.out _).mono ?_
      rintro e w1 ⟨rfl, hb1⟩
      have hH1 : Hid (EHold w1 B F G len) := hH.out.below hBr.out hb1
      have q := hH1.out j hlt
      have g2 := q.1.1
      have g3 := q.1.2
      have g4 := q.2.1
      have g5 := q.2.2
      have ez : ((k + 2 * j + 1 : Nat) : Int) = (k : Int) + 2 * j + 1 := by omega
      have hH2 : Hid (EHold ((w1.setCell ⟨B, j * 2, none⟩ (.string (mkT (k + 2 * j)))).setCell ⟨B, j * 2 + 1, none⟩ (.int .i64 ((k : Int) + 2 * j + 1))) B (fun i => if i = j then mkT (k + 2 * j) else F i) (fun i => if i = j then (k : Int) + 2 * j + 1 else G i) len) := (hH1.out.set0 j hlt _).set1 j hlt _
      have hg2 : Hid (∀ t, t < j + 1 → (fun i => if i = j then mkT (k + 2 * j) else F i) t = mkT (k + 2 * t) ∧ (fun i => if i = j then (k : Int) + 2 * j + 1 else G i) t = ((k + 2 * t + 1 : Nat) : Int)) := (fun t ht => by
        show (if t = j then mkT (k + 2 * j) else F t) = mkT (k + 2 * t) ∧ (if t = j then (k : Int) + 2 * j + 1 else G t) = ((k + 2 * t + 1 : Nat) : Int)
        by_cases e : t = j
        · rw [if_pos e, if_pos e, e]; exact ⟨rfl, ez.symm⟩
        · rw [if_neg e, if_neg e]; exact hg.out t (by omega))
      have hB2 : Hid (ButS (some ⟨B, 0, none⟩) w ((w1.setCell ⟨B, j * 2, none⟩ (.string (mkT (k + 2 * j)))).setCell ⟨B, j * 2 + 1, none⟩ (.int .i64 ((k : Int) + 2 * j + 1)))) := (hB.out.on hb1).set.set
      clear q hH hg hB hb1 hH1 HM ez
      generalize mkT (k + 2 * j) = mt at hH2 hg2 hB2 ⊢
      go_wp2
      go_roundw
      case rel => exact ⟨j + 1, _, _, by omega, by go_num, by go_num, hH2, hg2, hB2⟩
      case measure => simp [intOf]; omega
    · have : j = len := by omega
      subst this
      go_wp2
      go_ret
      refine ⟨rfl, fun i hi => ?_, hB.out⟩
      have h1 := hH.out i hi
      rw [(hg.out i hi).1, (hg.out i hi).2] at h1
      exact h1
/-- laws.markEntryS. -/
theorem markEntryS_any (a : Option Addr) (len cap k : Nat) (l : List (ByteArray × Int)) (h0 : 0 < k) (h1 : k ≤ 500000000) (hl : len ≤ 1048576) (w : World) (ho : OwnE a len l w) :
    Calls Try.prog 30 #[.slice a len cap, .int .i64 k] w fun e w' => e = .returned (.int .i64 ((k : Int) + 2 * len)) ∧ OwnE a len (marksE k len) w' ∧ ButS (if 0 < len then a else none) w w' := by
  by_cases hz : len = 0
  · subst hz
    refine (markEntryS_none a cap k w).mono ?_
    rintro e w' ⟨rfl, rfl⟩
    exact ⟨by simp, ⟨marksE_len _ _, fun h => absurd h (by omega)⟩, ButS.refl _ _⟩
  · obtain ⟨B, rfl, hlt, hp⟩ := ho.2 (by omega)
    refine (markEntryS_some B len cap k _ _ h0 h1 hl w hlt hp).mono ?_
    rintro e w' ⟨rfl, hp2, hb⟩
    refine ⟨rfl, ⟨marksE_len _ _, fun _ => ⟨B, rfl, Nat.lt_of_lt_of_le hlt hb.size, fun i hi => ?_⟩⟩, by rw [if_pos (by omega)]; exact hb⟩
    rw [marksE_nm k len i hi, marksE_no k len i hi]
    exact hp2 i hi
/-- laws.markNamedS, of a number. -/
theorem markP_any (a : Option Addr) (len cap k : Nat) (l : List (Int × Int)) (h1 : k ≤ 500000000) (hl : len ≤ 1048576) (w : World) (ho : Own a len l w) :
    Calls Try.prog 28 #[.slice a len cap, .int .i64 k] w fun e w' => e = .returned (.int .i64 ((k : Int) + 2 * len)) ∧ Own a len (marks (k : Int) len) w' ∧ ButS (if 0 < len then a else none) w w' := by
  by_cases hz : len = 0
  · subst hz
    refine (markNamedS_none a cap k w).mono ?_
    rintro e w' ⟨rfl, rfl⟩
    exact ⟨by simp, ⟨marks_len _ _, fun h => absurd h (by omega)⟩, ButS.refl _ _⟩
  · rw [if_pos (by omega)]
    exact (markNamedS_any a len cap k l (by omega) (by omega) hl w ho).mono (fun e w' h => ⟨h.1, h.2.1, h.2.2.butS⟩)
set_option maxHeartbeats 4000000 in
theorem heldEntryS_any (a : Option Addr) (len cap k : Nat) (h0 : 0 < k) (h1 : k ≤ 500000000) (hl : len ≤ 1048576) (w : World) (hp : OwnE a len (marksE k len) w) :
    Calls Try.prog 32 #[.slice a len cap, .int .i64 k] w fun e w' => e = .returned (.int .i64 ((k : Int) + 2 * len)) ∧ Below w.heap.size w w' := by
  by_cases hz : len = 0
  · subst hz
    go_enter Try.func32, Try.ntmps32
    go_wp2
    go_rounds 1
    go_ret
    exact ⟨by simp, Below.refl _ _⟩
  obtain ⟨B, rfl, hB0, hp⟩ := hp.2 (by omega)
  have HP : Hid (∀ i, i < len → w.cell? ⟨B, i * 2, none⟩ = some (.string (mkT (k + 2 * i))) ∧ w.cell? ⟨B, i * 2 + 1, none⟩ = some (.int .i64 ((k : Int) + 2 * i + 1))) := (fun i hi => by
    have h := (hp i hi).1
    rw [marksE_nm k len i hi, marksE_no k len i hi] at h
    refine ⟨h.1, ?_⟩
    have ez : ((k + 2 * i + 1 : Nat) : Int) = (k : Int) + 2 * i + 1 := by omega
    rw [← ez]
    exact h.2)
  clear hp
  go_enter Try.func32, Try.ntmps32
  go_wp2
  go_loopw [5, 1] (fun i q wr => ∃ (j : Nat), j ≤ len ∧ i = .int .i64 j ∧ q = .int .i64 ((k : Int) + 2 * j) ∧ Hid (Below w.heap.size w wr)) (fun i _ _ => len - (intOf i).toNat)
  case atStart => exact ⟨0, Nat.zero_le _, rfl, by simp, Below.refl _ _⟩
  case round =>
    obtain ⟨j, hj, rfl, rfl, hB⟩ := hrel
    by_cases hlt : j < len
    · have hlt' : (j : Int) < (len : Int) := by omega
      have hj0 : (0 : Int) ≤ (j : Int) := by omega
      have HM : Hid (∀ w, Calls Try.prog 29 #[.int .i64 ((k : Int) + 2 * j)] w fun e w' => e = .returned (.string (mkT (k + 2 * j))) ∧ Below w.heap.size w w') := (fun w => by
        have h := markText_any (k + 2 * j) (by omega) (by omega) w
        have e : ((k + 2 * j : Nat) : Int) = (k : Int) + 2 * j := by omega
        rw [e] at h
        exact h)
      have g0 : ∀ d os, (Go.Sort.grow (redrawn wr d) os).cell? ⟨B, j * 2, none⟩ = some (.string (mkT (k + 2 * j))) := fun d os => cell_regrown ((hB.out.cell (p := ⟨B, j * 2, none⟩) hB0).trans (HP.out j hlt).1) d os
      have HG1 : Hid (wr.cell? ⟨B, j * 2 + 1, none⟩ = some (.int .i64 ((k : Int) + 2 * j + 1))) := (hB.out.cell (p := ⟨B, j * 2 + 1, none⟩) hB0).trans (HP.out j hlt).2
      have HBr : Hid (B < wr.heap.size) := Nat.lt_of_lt_of_le hB0 hB.out.size
      have cA : ∀ d os, Calls Try.prog 29 #[.int .i64 ((k : Int) + 2 * j)] (Go.Sort.grow (redrawn wr d) os) fun e w'' => e = .returned (.string (mkT (k + 2 * j))) ∧ ∃ p : Regrown, w'' = Go.Sort.grow (redrawn wr p.d) p.os := fun d os => Calls.regrown_of (HM.out _)
      have hmm : ((mkT (k + 2 * j)).toList != (mkT (k + 2 * j)).toList) = false := by simp
      generalize mkT (k + 2 * j) = mt at g0 cA hmm
      clear HM
      go_upto_region 4 with fail
      refine wp_region_quiet_below (by kernel_rfl) (by kernel_rfl) ?_
      repeat (go_big_quiet_step (exact cA _ _))
      refine wpQuiet_nil ?_
      intro _ hw'
      obtain ⟨⟨dq, osq⟩, hw''⟩ := hw'
      subst hw''
      have hbq : Below wr.heap.size wr (Go.Sort.grow (redrawn wr dq) osq) := below_regrown wr dq osq
      have HB2 : Hid (Below w.heap.size w (Go.Sort.grow (redrawn wr dq) osq)) := Below.on hB.out hbq
      have g1 : (Go.Sort.grow (redrawn wr dq) osq).cell? ⟨B, j * 2 + 1, none⟩ = some (.int .i64 ((k : Int) + 2 * j + 1)) := (hbq.cell (p := ⟨B, j * 2 + 1, none⟩) HBr.out).trans HG1.out
      clear hbq
      generalize Go.Sort.grow (redrawn wr dq) osq = w2 at HB2 g1 ⊢
      clear g0 cA hB
      go_wp2
      go_roundw
      case rel => exact ⟨j + 1, by omega, by go_num, by go_num, HB2⟩
      case measure => simp [intOf]; omega
    · have : j = len := by omega
      subst this
      go_wp2
      go_ret
      exact ⟨rfl, hB.out⟩
end Go.Proofs.Ytgodbelcddgdmaa
