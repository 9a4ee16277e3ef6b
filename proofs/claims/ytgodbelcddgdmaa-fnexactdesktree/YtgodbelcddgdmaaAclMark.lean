/- laws.markNamedS, heldNamedS, markAcl, heldAcl: a list is written over, and read again. -/
import Derived.Test.YtgodbelcddgdmaaAclEq
namespace Go.Proofs.Ytgodbelcddgdmaa
open Go.RowKit Go.PlainAid
set_option linter.unusedVariables false
/-- What mark writes. -/
def marks (k : Int) (n : Nat) : List (Int × Int) := (List.range n).map fun (i : Nat) => (k + 2 * (i : Int), k + 2 * (i : Int) + 1)
theorem marks_len (k : Int) (n : Nat) : (marks k n).length = n := by simp [marks]
theorem marks_id (k : Int) (n i : Nat) (h : i < n) : idAt (marks k n) i = k + 2 * i := idAt_map _ n i h
theorem marks_bt (k : Int) (n i : Nat) (h : i < n) : btAt (marks k n) i = k + 2 * i + 1 := btAt_map _ n i h
/-- The world is as it was, but for the cells of one block. -/
structure But (a : Option Addr) (w w' : World) : Prop where
  size : w'.heap.size = w.heap.size
  below : ∀ c, (∀ A, a = some A → c ≤ A.block) → Below c w w'
  cell : ∀ b o, (∀ A, a = some A → b ≠ A.block) → w'.cell? ⟨b, o, none⟩ = w.cell? ⟨b, o, none⟩ ∧ w'.frozen? ⟨b, o, none⟩ = w.frozen? ⟨b, o, none⟩
theorem But.refl (a : Option Addr) (w : World) : But a w w := ⟨rfl, fun _ _ => Below.refl _ _, fun _ _ _ => ⟨rfl, rfl⟩⟩
theorem But.set {B o : Nat} {w w' : World} {v : Value} (h : But (some ⟨B, 0, none⟩) w w') : But (some ⟨B, 0, none⟩) w (w'.setCell ⟨B, o, none⟩ v) := by
  refine ⟨by simpa using h.size, fun c hc => bl_setN (h.below c hc) (hc _ rfl), fun b o2 hb => ?_⟩
  have h1 := h.cell b o2 hb
  rw [World.frozen?_setCell, ← h1.1]
  exact ⟨World.cell?_setCell_other _ _ _ _ (by intro h; have h2 := congrArg Addr.block h; exact hb _ rfl (by simpa using h2.symm)), h1.2⟩
theorem But.own {a a2 : Option Addr} {len : Nat} {l : List (Int × Int)} {w w' : World} (h : But a w w') (ho : Own a2 len l w) (hne : ∀ A A2, a = some A → a2 = some A2 → A.block ≠ A2.block) : Own a2 len l w' := by
  refine ⟨ho.1, fun h0 => ?_⟩
  obtain ⟨B, ha, hlt, hp⟩ := ho.2 h0
  refine ⟨B, ha, by rw [h.size]; exact hlt, fun i hi => ?_⟩
  have hb : ∀ A, a = some A → B ≠ A.block := fun A e => fun e2 => hne A _ e ha (by simpa using e2.symm)
  have h0 := h.cell B (i * 2) hb
  have h1 := h.cell B (i * 2 + 1) hb
  rw [h0.1, h0.2, h1.1, h1.2]
  exact hp i hi
set_option maxHeartbeats 2000000 in
theorem markNamedS_none (a : Option Addr) (cap : Nat) (k : Int) (w : World) :
    Calls Try.prog 28 #[.slice a 0 cap, .int .i64 k] w fun e w' => e = .returned (.int .i64 k) ∧ w' = w := by
  go_enter Try.func28, Try.ntmps28
  go_wp2
  go_rounds 1
  go_ret
  exact ⟨rfl, rfl⟩
set_option maxHeartbeats 2000000 in
theorem markNamedS_some (B len cap : Nat) (k : Int) (F0 G0 : Nat → Int) (h0 : 0 ≤ k) (h1 : k ≤ 1000000000) (hl : len ≤ 1048576) (w : World) (hp : PHold w B F0 G0 len) :
    Calls Try.prog 28 #[.slice (some ⟨B, 0, none⟩) len cap, .int .i64 k] w fun e w' => e = .returned (.int .i64 (k + 2 * len)) ∧ PHold w' B (fun i => k + 2 * i) (fun i => k + 2 * i + 1) len ∧ But (some ⟨B, 0, none⟩) w w' := by
  have HP : Hid (PHold w B F0 G0 len) := hp
  clear hp
  go_enter Try.func28, Try.ntmps28
  go_wp2
  go_loopw [5, 1] (fun i q wr => ∃ (j : Nat) (F G : Nat → Int), j ≤ len ∧ i = .int .i64 j ∧ q = .int .i64 (k + 2 * j) ∧ Hid (PHold wr B F G len) ∧ Hid (∀ t, t < j → F t = k + 2 * t ∧ G t = k + 2 * t + 1) ∧ Hid (But (some ⟨B, 0, none⟩) w wr)) (fun i _ _ => len - (intOf i).toNat)
  case atStart => exact ⟨0, F0, G0, Nat.zero_le _, rfl, by simp, HP, fun t ht => absurd ht (by omega), But.refl _ _⟩
  case round =>
    obtain ⟨j, F, G, hj, rfl, rfl, hH, hg, hB⟩ := hrel
    by_cases hlt : j < len
    · have hlt' : (j : Int) < (len : Int) := by omega
      have q := hH.out j hlt
      have g2 := q.1.1
      have g3 := q.1.2
      have g4 := q.2.1
      have g5 := q.2.2
      have hH2 : Hid (PHold ((wr.setCell ⟨B, j * 2, none⟩ (.int .i64 (k + 2 * j))).setCell ⟨B, j * 2 + 1, none⟩ (.int .i64 (k + 2 * j + 1))) B (fun i => if i = j then k + 2 * j else F i) (fun i => if i = j then k + 2 * j + 1 else G i) len) := (hH.out.set0 j hlt _).set1 j hlt _
      have hg2 : Hid (∀ t, t < j + 1 → (fun i => if i = j then k + 2 * j else F i) t = k + 2 * t ∧ (fun i => if i = j then k + 2 * j + 1 else G i) t = k + 2 * t + 1) := (fun t ht => by
        show (if t = j then k + 2 * j else F t) = k + 2 * t ∧ (if t = j then k + 2 * j + 1 else G t) = k + 2 * t + 1
        by_cases e : t = j
        · rw [if_pos e, if_pos e, e]; exact ⟨rfl, rfl⟩
        · rw [if_neg e, if_neg e]; exact hg.out t (by omega))
      have hB2 : Hid (But (some ⟨B, 0, none⟩) w ((wr.setCell ⟨B, j * 2, none⟩ (.int .i64 (k + 2 * j))).setCell ⟨B, j * 2 + 1, none⟩ (.int .i64 (k + 2 * j + 1)))) := hB.out.set.set
      clear q hH hg hB
      go_wp2
      go_roundw
      case rel => exact ⟨j + 1, _, _, by omega, by go_num, by go_num, hH2, hg2, hB2⟩
      case measure => simp [intOf]; omega
    · have : j = len := by omega
      subst this
      go_wp2
      go_ret
      refine ⟨rfl, fun i hi => ?_, hB.out⟩
      have h1 := hH.out i hi
      rw [(hg.out i hi).1, (hg.out i hi).2] at h1
      exact h1
/-- laws.markNamedS. -/
theorem markNamedS_any (a : Option Addr) (len cap : Nat) (k : Int) (l : List (Int × Int)) (h0 : 0 ≤ k) (h1 : k ≤ 1000000000) (hl : len ≤ 1048576) (w : World) (ho : Own a len l w) :
    Calls Try.prog 28 #[.slice a len cap, .int .i64 k] w fun e w' => e = .returned (.int .i64 (k + 2 * len)) ∧ Own a len (marks k len) w' ∧ But a w w' := by
  by_cases hz : len = 0
  · subst hz
    refine (markNamedS_none a cap k w).mono ?_
    rintro e w' ⟨rfl, rfl⟩
    exact ⟨by simp, ⟨marks_len _ _, fun h => absurd h (by omega)⟩, But.refl _ _⟩
  · obtain ⟨B, rfl, hlt, hp⟩ := ho.2 (by omega)
    refine (markNamedS_some B len cap k _ _ h0 h1 hl w hp).mono ?_
    rintro e w' ⟨rfl, hp2, hb⟩
    refine ⟨rfl, ⟨marks_len _ _, fun _ => ⟨B, rfl, by rw [hb.size]; exact hlt, fun i hi => ?_⟩⟩, hb⟩
    rw [marks_id k len i hi, marks_bt k len i hi]
    exact hp2 i hi
set_option maxHeartbeats 2000000 in
theorem heldNamedS_none (a : Option Addr) (cap : Nat) (k : Int) (w : World) :
    Calls Try.prog 31 #[.slice a 0 cap, .int .i64 k] w fun e w' => e = .returned (.int .i64 k) ∧ w' = w := by
  go_enter Try.func31, Try.ntmps31
  go_wp2
  go_rounds 1
  go_ret
  exact ⟨rfl, rfl⟩
set_option maxHeartbeats 2000000 in
theorem heldNamedS_some (B len cap : Nat) (k : Int) (h0 : 0 ≤ k) (h1 : k ≤ 1000000000) (hl : len ≤ 1048576) (w : World) (hc : ∀ i, i < len → w.cell? ⟨B, i * 2, none⟩ = some (.int .i64 (k + 2 * i)) ∧ w.cell? ⟨B, i * 2 + 1, none⟩ = some (.int .i64 (k + 2 * i + 1))) :
    Calls Try.prog 31 #[.slice (some ⟨B, 0, none⟩) len cap, .int .i64 k] w fun e w' => e = .returned (.int .i64 (k + 2 * len)) ∧ w' = w := by
  have HC : Hid (∀ i, i < len → w.cell? ⟨B, i * 2, none⟩ = some (.int .i64 (k + 2 * i)) ∧ w.cell? ⟨B, i * 2 + 1, none⟩ = some (.int .i64 (k + 2 * i + 1))) := hc
  clear hc
  go_enter Try.func31, Try.ntmps31
  go_wp2
  go_loop [5, 1] (fun i q => ∃ (j : Nat), j ≤ len ∧ i = .int .i64 j ∧ q = .int .i64 (k + 2 * j)) (fun i _ => len - (intOf i).toNat)
  case atStart => exact ⟨0, Nat.zero_le _, rfl, by simp⟩
  case round =>
    obtain ⟨j, hj, rfl, rfl⟩ := hrel
    by_cases hlt : j < len
    · have hlt' : (j : Int) < (len : Int) := by omega
      obtain ⟨g0, g1⟩ := HC.out j hlt
      go_wp2
      go_round
      case rel => exact ⟨j + 1, by omega, by go_num, by go_num⟩
      case measure => simp [intOf]; omega
    · have : j = len := by omega
      subst this
      go_wp2
      go_ret
      exact ⟨rfl, rfl⟩
/-- laws.heldNamedS of what mark wrote. -/
theorem heldNamedS_any (a : Option Addr) (len cap : Nat) (k : Int) (h0 : 0 ≤ k) (h1 : k ≤ 1000000000) (hl : len ≤ 1048576) (w : World) (ho : Own a len (marks k len) w) :
    Calls Try.prog 31 #[.slice a len cap, .int .i64 k] w fun e w' => e = .returned (.int .i64 (k + 2 * len)) ∧ w' = w := by
  by_cases hz : len = 0
  · subst hz
    refine (heldNamedS_none a cap k w).mono ?_
    rintro e w' ⟨rfl, rfl⟩
    exact ⟨by simp, rfl⟩
  · obtain ⟨B, rfl, hlt, hp⟩ := ho.2 (by omega)
    refine heldNamedS_some B len cap k h0 h1 hl w fun i hi => ?_
    have h2 := (hp i hi).1
    rw [marks_id k len i hi, marks_bt k len i hi] at h2
    exact h2
/-- The world is as it was, but for the cells of two blocks, and for what is new. -/
structure But2 (a a2 : Option Addr) (w w' : World) : Prop where
  size : w.heap.size ≤ w'.heap.size
  below : ∀ c, c ≤ w.heap.size → (∀ A, a = some A → c ≤ A.block) → (∀ A, a2 = some A → c ≤ A.block) → Below c w w'
  cell : ∀ b o, b < w.heap.size → (∀ A, a = some A → b ≠ A.block) → (∀ A, a2 = some A → b ≠ A.block) → w'.cell? ⟨b, o, none⟩ = w.cell? ⟨b, o, none⟩ ∧ w'.frozen? ⟨b, o, none⟩ = w.frozen? ⟨b, o, none⟩
theorem But2.own {a a2 a3 : Option Addr} {len : Nat} {l : List (Int × Int)} {w w' : World} (h : But2 a a2 w w') (ho : Own a3 len l w) (hne : ∀ A A2, a = some A → a3 = some A2 → A.block ≠ A2.block) (hne2 : ∀ A A2, a2 = some A → a3 = some A2 → A.block ≠ A2.block) : Own a3 len l w' := by
  refine ⟨ho.1, fun h0 => ?_⟩
  obtain ⟨B, ha, hlt, hp⟩ := ho.2 h0
  refine ⟨B, ha, Nat.lt_of_lt_of_le hlt h.size, fun i hi => ?_⟩
  have hb : ∀ A, a = some A → B ≠ A.block := fun A e => fun e2 => hne A _ e ha (by simpa using e2.symm)
  have hb2 : ∀ A, a2 = some A → B ≠ A.block := fun A e => fun e2 => hne2 A _ e ha (by simpa using e2.symm)
  have h0 := h.cell B (i * 2) hlt hb hb2
  have h1 := h.cell B (i * 2 + 1) hlt hb hb2
  rw [h0.1, h0.2, h1.1, h1.2]
  exact hp i hi
theorem But2.prs {a a2 a3 : Option Addr} {len : Nat} {l : List (Int × Int)} {w w' : World} (h : But2 a a2 w w') (ho : Prs a3 len l w) (hne : ∀ A A2, a = some A → a3 = some A2 → A.block ≠ A2.block) (hne2 : ∀ A A2, a2 = some A → a3 = some A2 → A.block ≠ A2.block) : Prs a3 len l w' := by
  refine ⟨ho.1, fun h0 => ?_⟩
  obtain ⟨B, off, ha, hlt, hp⟩ := ho.2 h0
  refine ⟨B, off, ha, Nat.lt_of_lt_of_le hlt h.size, fun i hi => ?_⟩
  have hb : ∀ A, a = some A → B ≠ A.block := fun A e => fun e2 => hne A _ e ha (by simpa using e2.symm)
  have hb2 : ∀ A, a2 = some A → B ≠ A.block := fun A e => fun e2 => hne2 A _ e ha (by simpa using e2.symm)
  rw [(h.cell B (off + i * 2) hlt hb hb2).1, (h.cell B (off + i * 2 + 1) hlt hb hb2).1]
  exact hp i hi
/-- Where a list lies: nowhere, or in a block of the world. -/
def InW (a : Option Addr) (len : Nat) (w : World) : Prop := ∀ A, a = some A → A.block < w.heap.size
end Go.Proofs.Ytgodbelcddgdmaa
