/- Laid together: AclEq, AclMark. -/
import Derived.Test.YtgooanaacebncaaDoorRA3
import Derived.Lib.QuietBelow
/- laws.eqNamed, eqNamedS, eqAcl of two that hold the same. -/
namespace Go.Proofs.YtgooanaacebncaaDoor
open Go.RowKit Go.PlainAid
set_option linter.unusedVariables false
theorem bl2N (w : World) (o1 o2 : Obj) : Below w.heap.size w ((w.alloc o1).alloc o2) := ((Below.refl _ _).alloc (Nat.le_refl _) _).alloc (by simp) _
theorem eqNamed_same (x y : Int) (w : World) :
    Calls Tryd.prog 120 #[.agg #[.int .i64 x, .int .i64 y], .agg #[.int .i64 x, .int .i64 y]] w fun e w' => e = .returned (.bool true) ∧ Below w.heap.size w w' := by
  go_enter Tryd.func120, Tryd.ntmps120
  go_wp2
  go_ret
  exact ⟨rfl, bl2N _ _ _⟩
set_option maxHeartbeats 2000000 in
theorem eqNamedS_none (a a2 : Option Addr) (cap cap2 : Nat) (w : World) :
    Calls Tryd.prog 94 #[.slice a 0 cap, .slice a2 0 cap2] w fun e w' => e = .returned (.bool true) ∧ Below w.heap.size w w' := by
  go_enter Tryd.func94, Tryd.ntmps94
  go_wp2
  go_rounds 1
  go_ret
  exact ⟨rfl, Below.refl _ _⟩
set_option maxHeartbeats 2000000 in
theorem eqNamedS_some (b off b2 off2 len cap cap2 : Nat) (l : List (Int × Int)) (hl : len ≤ 1048576) (w : World) (hb : b < w.heap.size) (hb2 : b2 < w.heap.size)
    (hc : Hid (∀ i, i < len → w.cell? ⟨b, off + i * 2, none⟩ = some (.int .i64 (idAt l i)) ∧ w.cell? ⟨b, off + i * 2 + 1, none⟩ = some (.int .i64 (btAt l i))))
    (hc2 : Hid (∀ i, i < len → w.cell? ⟨b2, off2 + i * 2, none⟩ = some (.int .i64 (idAt l i)) ∧ w.cell? ⟨b2, off2 + i * 2 + 1, none⟩ = some (.int .i64 (btAt l i)))) :
    Calls Tryd.prog 94 #[.slice (some ⟨b, off, none⟩) len cap, .slice (some ⟨b2, off2, none⟩) len cap2] w fun e w' => e = .returned (.bool true) ∧ Below w.heap.size w w' := by
  go_enter Tryd.func94, Tryd.ntmps94
  go_wp2
  go_loopw [5] (fun i wr => ∃ (k : Nat), k ≤ len ∧ i = .int .i64 k ∧ Hid (Below w.heap.size w wr)) (fun i _ => len - (intOf i).toNat)
  case atStart => exact ⟨0, Nat.zero_le _, rfl, Below.refl _ _⟩
  case round =>
    obtain ⟨k, hk, rfl, hB⟩ := hrel
    by_cases hlt : k < len
    · have g0 : ∀ d os, (Go.Sort.grow (redrawn wr d) os).cell? ⟨b, off + k * 2, none⟩ = some (.int .i64 (idAt l k)) := fun d os => cell_regrown ((hB.out.cell (p := ⟨b, off + k * 2, none⟩) hb).trans (hc.out k hlt).1) d os
      have g1 : ∀ d os, (Go.Sort.grow (redrawn wr d) os).cell? ⟨b, off + k * 2 + 1, none⟩ = some (.int .i64 (btAt l k)) := fun d os => cell_regrown ((hB.out.cell (p := ⟨b, off + k * 2 + 1, none⟩) hb).trans (hc.out k hlt).2) d os
      have g2 : ∀ d os, (Go.Sort.grow (redrawn wr d) os).cell? ⟨b2, off2 + k * 2, none⟩ = some (.int .i64 (idAt l k)) := fun d os => cell_regrown ((hB.out.cell (p := ⟨b2, off2 + k * 2, none⟩) hb2).trans (hc2.out k hlt).1) d os
      have g3 : ∀ d os, (Go.Sort.grow (redrawn wr d) os).cell? ⟨b2, off2 + k * 2 + 1, none⟩ = some (.int .i64 (btAt l k)) := fun d os => cell_regrown ((hB.out.cell (p := ⟨b2, off2 + k * 2 + 1, none⟩) hb2).trans (hc2.out k hlt).2) d os
      have cA : ∀ w d os, Calls Tryd.prog 120 #[.agg #[.int .i64 (idAt l k), .int .i64 (btAt l k)], .agg #[.int .i64 (idAt l k), .int .i64 (btAt l k)]] (Go.Sort.grow (redrawn w d) os) fun e w'' => e = .returned (.bool true) ∧ ∃ p : Regrown, w'' = Go.Sort.grow (redrawn w p.d) p.os := fun w d os => Calls.regrown_of (eqNamed_same _ _ _)
      have hlt' : (k : Int) < (len : Int) := by omega
      go_wp2
      refine wp_region_quiet_below (by kernel_rfl) (by kernel_rfl) ?_
      repeat (go_big_quiet_step (exact cA _ _ _))
      refine wpQuiet_nil ?_
      intro _ hw'
      obtain ⟨⟨dq, osq⟩, hw''⟩ := hw'
      subst hw''
      have hbq : Hid (Below w.heap.size w (Go.Sort.grow (redrawn wr dq) osq)) := hB.out.trans ((below_regrown wr dq osq).mono hB.out.size)
      generalize Go.Sort.grow (redrawn wr dq) osq = w1 at hbq ⊢
      clear g0 g1 g2 g3 cA
      go_wp2
      go_roundw
      case rel => exact ⟨k + 1, by omega, by go_num, hbq⟩
      case measure => simp [intOf]; omega
    · have : k = len := by omega
      subst this
      go_wp2
      go_ret
      exact ⟨rfl, hB.out⟩
/-- laws.eqNamedS of two lists that hold the same. -/
theorem eqNamedS_any (a a2 : Option Addr) (len cap cap2 : Nat) (l : List (Int × Int)) (hl : len ≤ 1048576) (w : World) (h1 : Prs a len l w) (h2 : Prs a2 len l w) :
    Calls Tryd.prog 94 #[.slice a len cap, .slice a2 len cap2] w fun e w' => e = .returned (.bool true) ∧ Below w.heap.size w w' := by
  by_cases h0 : len = 0
  · subst h0
    exact eqNamedS_none a a2 cap cap2 w
  · obtain ⟨b, off, rfl, hb, hc⟩ := h1.2 (by omega)
    obtain ⟨b2, off2, rfl, hb2, hc2⟩ := h2.2 (by omega)
    exact eqNamedS_some b off b2 off2 len cap cap2 l hl w hb hb2 hc hc2
set_option maxHeartbeats 4000000 in
/-- laws.eqAcl of two that hold the same. -/
theorem eqAcl_any (u g o : Int) (au au2 : Option Addr) (lu cu cu2 : Nat) (ag ag2 : Option Addr) (lg cg cg2 : Nat) (r : Bool) (m : Int) (us gs : List (Int × Int)) (h1 : lu ≤ 1048576) (h2 : lg ≤ 1048576) (w : World) (hu : Prs au lu us w) (hu2 : Prs au2 lu us w) (hg : Prs ag lg gs w) (hg2 : Prs ag2 lg gs w) :
    Calls Tryd.prog 61 #[.agg #[.int .i64 u, .int .i64 g, .int .i64 o, .slice au lu cu, .slice ag lg cg, .bool r, .int .i64 m], .agg #[.int .i64 u, .int .i64 g, .int .i64 o, .slice au2 lu cu2, .slice ag2 lg cg2, .bool r, .int .i64 m]] w fun e w' => e = .returned (.bool true) ∧ Below w.heap.size w w' := by
  have hc : Hid (∀ w', Below w.heap.size w w' → Calls Tryd.prog 94 #[.slice au lu cu, .slice au2 lu cu2] w' fun e w'' => e = .returned (.bool true) ∧ Below w'.heap.size w' w'') := (fun w' hb => eqNamedS_any au au2 lu cu cu2 us h1 w' (hu.below hb) (hu2.below hb))
  have hd : Hid (∀ w', Below w.heap.size w w' → Calls Tryd.prog 94 #[.slice ag lg cg, .slice ag2 lg cg2] w' fun e w'' => e = .returned (.bool true) ∧ Below w'.heap.size w' w'') := (fun w' hb => eqNamedS_any ag ag2 lg cg cg2 gs h2 w' (hg.below hb) (hg2.below hb))
  clear hu hu2 hg hg2
  go_enter Tryd.func61, Tryd.ntmps61
  go_wp2_with fail
  refine (hc.out _ (bl2N _ _ _)).mono ?_
  rintro e w1 ⟨rfl, hb⟩
  have hbW : Hid (Below w.heap.size w w1) := (bl2N _ _ _).trans (hb.mono (by simp; omega))
  have hz : w.heap.size + 1 < w1.heap.size := by have := hb.size; simp at this; omega
  obtain ⟨hcl, hfz⟩ := bl_cellN hb
  clear hb hc
  simp at hcl hfz
  go_wp2_with fail
  refine (hd.out _ hbW.out).mono ?_
  rintro e w2 ⟨rfl, hb⟩
  have hbW2 : Hid (Below w.heap.size w w2) := hbW.out.trans (hb.mono hbW.out.size)
  have hcl2 : ∀ b o, b < w.heap.size + 1 + 1 → w2.cell? ⟨b, o, none⟩ = w1.cell? ⟨b, o, none⟩ := fun b o h => hb.cell (p := ⟨b, o, none⟩) (by show b < _; omega)
  clear hb hd hz
  go_wp2
  go_ret
  exact ⟨rfl, hbW2.out⟩
/-- What mark writes. -/
def marks (k : Int) (n : Nat) : List (Int × Int) := (List.range n).map fun (i : Nat) => (k + 2 * (i : Int), k + 2 * (i : Int) + 1)
theorem marks_len (k : Int) (n : Nat) : (marks k n).length = n := by simp [marks]
theorem marks_id (k : Int) (n i : Nat) (h : i < n) : idAt (marks k n) i = k + 2 * i := idAt_map _ n i h
theorem marks_bt (k : Int) (n i : Nat) (h : i < n) : btAt (marks k n) i = k + 2 * i + 1 := btAt_map _ n i h
/-- The world is as it was, but for the cells of one block. -/
structure But (a : Option Addr) (w w' : World) : Prop where
  size : w'.heap.size = w.heap.size
  below : ∀ c, (∀ A, a = some A → c ≤ A.block) → Below c w w'
  cell : ∀ b o, (∀ A, a = some A → b ≠ A.block) → w'.cell? ⟨b, o, none⟩ = w.cell? ⟨b, o, none⟩ ∧ w'.frozen? ⟨b, o, none⟩ = w.frozen? ⟨b, o, none⟩
theorem But.refl (a : Option Addr) (w : World) : But a w w := ⟨rfl, fun _ _ => Below.refl _ _, fun _ _ _ => ⟨rfl, rfl⟩⟩
theorem But.set {B o : Nat} {w w' : World} {v : Value} (h : But (some ⟨B, 0, none⟩) w w') : But (some ⟨B, 0, none⟩) w (w'.setCell ⟨B, o, none⟩ v) := by
  refine ⟨by simpa using h.size, fun c hc => bl_setN (h.below c hc) (hc _ rfl), fun b o2 hb => ?_⟩
  have h1 := h.cell b o2 hb
  rw [World.frozen?_setCell, ← h1.1]
  exact ⟨World.cell?_setCell_other _ _ _ _ (by intro h; have h2 := congrArg Addr.block h; exact hb _ rfl (by simpa using h2.symm)), h1.2⟩
theorem But.own {a a2 : Option Addr} {len : Nat} {l : List (Int × Int)} {w w' : World} (h : But a w w') (ho : Own a2 len l w) (hne : ∀ A A2, a = some A → a2 = some A2 → A.block ≠ A2.block) : Own a2 len l w' := by
  refine ⟨ho.1, fun h0 => ?_⟩
  obtain ⟨B, ha, hlt, hp⟩ := ho.2 h0
  refine ⟨B, ha, by rw [h.size]; exact hlt, fun i hi => ?_⟩
  have hb : ∀ A, a = some A → B ≠ A.block := fun A e => fun e2 => hne A _ e ha (by simpa using e2.symm)
  have h0 := h.cell B (i * 2) hb
  have h1 := h.cell B (i * 2 + 1) hb
  rw [h0.1, h0.2, h1.1, h1.2]
  exact hp i hi
set_option maxHeartbeats 2000000 in
theorem markNamedS_none (a : Option Addr) (cap : Nat) (k : Int) (w : World) :
    Calls Tryd.prog 95 #[.slice a 0 cap, .int .i64 k] w fun e w' => e = .returned (.int .i64 k) ∧ w' = w := by
  go_enter Tryd.func95, Tryd.ntmps95
  go_wp2
  go_rounds 1
  go_ret
  exact ⟨rfl, rfl⟩
set_option maxHeartbeats 2000000 in
theorem markNamedS_some (B len cap : Nat) (k : Int) (F0 G0 : Nat → Int) (h0 : 0 ≤ k) (h1 : k ≤ 1000000000) (hl : len ≤ 1048576) (w : World) (hp : PHold w B F0 G0 len) :
    Calls Tryd.prog 95 #[.slice (some ⟨B, 0, none⟩) len cap, .int .i64 k] w fun e w' => e = .returned (.int .i64 (k + 2 * len)) ∧ PHold w' B (fun i => k + 2 * i) (fun i => k + 2 * i + 1) len ∧ But (some ⟨B, 0, none⟩) w w' := by
  have HP : Hid (PHold w B F0 G0 len) := hp
  clear hp
  go_enter Tryd.func95, Tryd.ntmps95
  go_wp2
  go_loopw [5, 1] (fun i q wr => ∃ (j : Nat) (F G : Nat → Int), j ≤ len ∧ i = .int .i64 j ∧ q = .int .i64 (k + 2 * j) ∧ Hid (PHold wr B F G len) ∧ Hid (∀ t, t < j → F t = k + 2 * t ∧ G t = k + 2 * t + 1) ∧ Hid (But (some ⟨B, 0, none⟩) w wr)) (fun i _ _ => len - (intOf i).toNat)
  case atStart => exact ⟨0, F0, G0, Nat.zero_le _, rfl, by simp, HP, fun t ht => absurd ht (by omega), But.refl _ _⟩
  case round =>
    obtain ⟨j, F, G, hj, rfl, rfl, hH, hg, hB⟩ := hrel
    by_cases hlt : j < len
    · have hlt' : (j : Int) < (len : Int) := by omega
      have q := hH.out j hlt
      have g2 := q.1.1
      have g3 := q.1.2
      have g4 := q.2.1
      have g5 := q.2.2
      have hH2 : Hid (PHold ((wr.setCell ⟨B, j * 2, none⟩ (.int .i64 (k + 2 * j))).setCell ⟨B, j * 2 + 1, none⟩ (.int .i64 (k + 2 * j + 1))) B (fun i => if i = j then k + 2 * j else F i) (fun i => if i = j then k + 2 * j + 1 else G i) len) := (hH.out.set0 j hlt _).set1 j hlt _
      have hg2 : Hid (∀ t, t < j + 1 → (fun i => if i = j then k + 2 * j else F i) t = k + 2 * t ∧ (fun i => if i = j then k + 2 * j + 1 else G i) t = k + 2 * t + 1) := (fun t ht => by
        show (if t = j then k + 2 * j else F t) = k + 2 * t ∧ (if t = j then k + 2 * j + 1 else G t) = k + 2 * t + 1
        by_cases e : t = j
        · rw [if_pos e, if_pos e, e]; exact ⟨rfl, rfl⟩
        · rw [if_neg e, if_neg e]; exact hg.out t (by omega))
      have hB2 : Hid (But (some ⟨B, 0, none⟩) w ((wr.setCell ⟨B, j * 2, none⟩ (.int .i64 (k + 2 * j))).setCell ⟨B, j * 2 + 1, none⟩ (.int .i64 (k + 2 * j + 1)))) := hB.out.set.set
      clear q hH hg hB
      go_wp2
      go_roundw
      case rel => exact ⟨j + 1, _, _, by omega, by go_num, by go_num, hH2, hg2, hB2⟩
      case measure => simp [intOf]; omega
    · have : j = len := by omega
      subst this
      go_wp2
      go_ret
      refine ⟨rfl, fun i hi => ?_, hB.out⟩
      have h1 := hH.out i hi
      rw [(hg.out i hi).1, (hg.out i hi).2] at h1
      exact h1
/-- laws.markNamedS. -/
theorem markNamedS_any (a : Option Addr) (len cap : Nat) (k : Int) (l : List (Int × Int)) (h0 : 0 ≤ k) (h1 : k ≤ 1000000000) (hl : len ≤ 1048576) (w : World) (ho : Own a len l w) :
    Calls Tryd.prog 95 #[.slice a len cap, .int .i64 k] w fun e w' => e = .returned (.int .i64 (k + 2 * len)) ∧ Own a len (marks k len) w' ∧ But a w w' := by
  by_cases hz : len = 0
  · subst hz
    refine (markNamedS_none a cap k w).mono ?_
    rintro e w' ⟨rfl, rfl⟩
    exact ⟨by simp, ⟨marks_len _ _, fun h => absurd h (by omega)⟩, But.refl _ _⟩
  · obtain ⟨B, rfl, hlt, hp⟩ := ho.2 (by omega)
    refine (markNamedS_some B len cap k _ _ h0 h1 hl w hp).mono ?_
    rintro e w' ⟨rfl, hp2, hb⟩
    refine ⟨rfl, ⟨marks_len _ _, fun _ => ⟨B, rfl, by rw [hb.size]; exact hlt, fun i hi => ?_⟩⟩, hb⟩
    rw [marks_id k len i hi, marks_bt k len i hi]
    exact hp2 i hi
set_option maxHeartbeats 2000000 in
theorem heldNamedS_none (a : Option Addr) (cap : Nat) (k : Int) (w : World) :
    Calls Tryd.prog 96 #[.slice a 0 cap, .int .i64 k] w fun e w' => e = .returned (.int .i64 k) ∧ w' = w := by
  go_enter Tryd.func96, Tryd.ntmps96
  go_wp2
  go_rounds 1
  go_ret
  exact ⟨rfl, rfl⟩
set_option maxHeartbeats 2000000 in
theorem heldNamedS_some (B len cap : Nat) (k : Int) (h0 : 0 ≤ k) (h1 : k ≤ 1000000000) (hl : len ≤ 1048576) (w : World) (hc : ∀ i, i < len → w.cell? ⟨B, i * 2, none⟩ = some (.int .i64 (k + 2 * i)) ∧ w.cell? ⟨B, i * 2 + 1, none⟩ = some (.int .i64 (k + 2 * i + 1))) :
    Calls Tryd.prog 96 #[.slice (some ⟨B, 0, none⟩) len cap, .int .i64 k] w fun e w' => e = .returned (.int .i64 (k + 2 * len)) ∧ w' = w := by
  have HC : Hid (∀ i, i < len → w.cell? ⟨B, i * 2, none⟩ = some (.int .i64 (k + 2 * i)) ∧ w.cell? ⟨B, i * 2 + 1, none⟩ = some (.int .i64 (k + 2 * i + 1))) := hc
  clear hc
  go_enter Tryd.func96, Tryd.ntmps96
  go_wp2
  go_loop [5, 1] (fun i q => ∃ (j : Nat), j ≤ len ∧ i = .int .i64 j ∧ q = .int .i64 (k + 2 * j)) (fun i _ => len - (intOf i).toNat)
  case atStart => exact ⟨0, Nat.zero_le _, rfl, by simp⟩
  case round =>
    obtain ⟨j, hj, rfl, rfl⟩ := hrel
    by_cases hlt : j < len
    · have hlt' : (j : Int) < (len : Int) := by omega
      obtain ⟨g0, g1⟩ := HC.out j hlt
      go_wp2
      go_round
      case rel => exact ⟨j + 1, by omega, by go_num, by go_num⟩
      case measure => simp [intOf]; omega
    · have : j = len := by omega
      subst this
      go_wp2
      go_ret
      exact ⟨rfl, rfl⟩
/-- laws.heldNamedS of what mark wrote. -/
theorem heldNamedS_any (a : Option Addr) (len cap : Nat) (k : Int) (h0 : 0 ≤ k) (h1 : k ≤ 1000000000) (hl : len ≤ 1048576) (w : World) (ho : Own a len (marks k len) w) :
    Calls Tryd.prog 96 #[.slice a len cap, .int .i64 k] w fun e w' => e = .returned (.int .i64 (k + 2 * len)) ∧ w' = w := by
  by_cases hz : len = 0
  · subst hz
    refine (heldNamedS_none a cap k w).mono ?_
    rintro e w' ⟨rfl, rfl⟩
    exact ⟨by simp, rfl⟩
  · obtain ⟨B, rfl, hlt, hp⟩ := ho.2 (by omega)
    refine heldNamedS_some B len cap k h0 h1 hl w fun i hi => ?_
    have h2 := (hp i hi).1
    rw [marks_id k len i hi, marks_bt k len i hi] at h2
    exact h2
/-- The world is as it was, but for the cells of two blocks, and for what is new. -/
structure But2 (a a2 : Option Addr) (w w' : World) : Prop where
  size : w.heap.size ≤ w'.heap.size
  below : ∀ c, c ≤ w.heap.size → (∀ A, a = some A → c ≤ A.block) → (∀ A, a2 = some A → c ≤ A.block) → Below c w w'
  cell : ∀ b o, b < w.heap.size → (∀ A, a = some A → b ≠ A.block) → (∀ A, a2 = some A → b ≠ A.block) → w'.cell? ⟨b, o, none⟩ = w.cell? ⟨b, o, none⟩ ∧ w'.frozen? ⟨b, o, none⟩ = w.frozen? ⟨b, o, none⟩
theorem But2.own {a a2 a3 : Option Addr} {len : Nat} {l : List (Int × Int)} {w w' : World} (h : But2 a a2 w w') (ho : Own a3 len l w) (hne : ∀ A A2, a = some A → a3 = some A2 → A.block ≠ A2.block) (hne2 : ∀ A A2, a2 = some A → a3 = some A2 → A.block ≠ A2.block) : Own a3 len l w' := by
  refine ⟨ho.1, fun h0 => ?_⟩
  obtain ⟨B, ha, hlt, hp⟩ := ho.2 h0
  refine ⟨B, ha, Nat.lt_of_lt_of_le hlt h.size, fun i hi => ?_⟩
  have hb : ∀ A, a = some A → B ≠ A.block := fun A e => fun e2 => hne A _ e ha (by simpa using e2.symm)
  have hb2 : ∀ A, a2 = some A → B ≠ A.block := fun A e => fun e2 => hne2 A _ e ha (by simpa using e2.symm)
  have h0 := h.cell B (i * 2) hlt hb hb2
  have h1 := h.cell B (i * 2 + 1) hlt hb hb2
  rw [h0.1, h0.2, h1.1, h1.2]
  exact hp i hi
theorem But2.prs {a a2 a3 : Option Addr} {len : Nat} {l : List (Int × Int)} {w w' : World} (h : But2 a a2 w w') (ho : Prs a3 len l w) (hne : ∀ A A2, a = some A → a3 = some A2 → A.block ≠ A2.block) (hne2 : ∀ A A2, a2 = some A → a3 = some A2 → A.block ≠ A2.block) : Prs a3 len l w' := by
  refine ⟨ho.1, fun h0 => ?_⟩
  obtain ⟨B, off, ha, hlt, hp⟩ := ho.2 h0
  refine ⟨B, off, ha, Nat.lt_of_lt_of_le hlt h.size, fun i hi => ?_⟩
  have hb : ∀ A, a = some A → B ≠ A.block := fun A e => fun e2 => hne A _ e ha (by simpa using e2.symm)
  have hb2 : ∀ A, a2 = some A → B ≠ A.block := fun A e => fun e2 => hne2 A _ e ha (by simpa using e2.symm)
  rw [(h.cell B (off + i * 2) hlt hb hb2).1, (h.cell B (off + i * 2 + 1) hlt hb hb2).1]
  exact hp i hi
set_option maxHeartbeats 2000000 in
/-- laws.markAcl. -/
theorem markAcl_any (u g o : Int) (au : Option Addr) (lu cu : Nat) (ag : Option Addr) (lg cg : Nat) (r : Bool) (m : Int) (us gs : List (Int × Int)) (k : Int) (h0 : 0 ≤ k) (h1 : k ≤ 100000000) (hl : lu ≤ 1048576) (hl2 : lg ≤ 1048576) (w : World)
    (hu : Own au lu us w) (hg : Own ag lg gs w) (iu : ∀ A, au = some A → A.block < w.heap.size) (ig : ∀ A, ag = some A → A.block < w.heap.size) (hne : ∀ A A2, au = some A → ag = some A2 → A.block ≠ A2.block) :
    Calls Tryd.prog 62 #[.agg #[.int .i64 u, .int .i64 g, .int .i64 o, .slice au lu cu, .slice ag lg cg, .bool r, .int .i64 m], .int .i64 k] w fun e w' => e = .returned (.int .i64 (k + 2 * lu + 2 * lg)) ∧ Own au lu (marks k lu) w' ∧ Own ag lg (marks (k + 2 * lu) lg) w' ∧ But2 au ag w w' := by
  have HU : Hid (Own au lu us w) := hu
  have HG : Hid (Own ag lg gs w) := hg
  have HN : Hid (∀ A A2, au = some A → ag = some A2 → A.block ≠ A2.block) := hne
  have IU : Hid (∀ A, au = some A → A.block < w.heap.size) := iu
  have IG : Hid (∀ A, ag = some A → A.block < w.heap.size) := ig
  clear hu hg hne iu ig
  go_enter Tryd.func62, Tryd.ntmps62
  go_wp2_with fail
  have hB0 : Below w.heap.size w (w.alloc (.cells #[.int .i64 u, .int .i64 g, .int .i64 o, .slice au lu cu, .slice ag lg cg, .bool r, .int .i64 m] 43)) := (Below.refl _ _).alloc (Nat.le_refl _) _
  refine (markNamedS_any au lu cu k us h0 (by omega) hl _ (HU.out.below hB0)).mono ?_
  rintro e w1 ⟨rfl, ho1, hb1⟩
  have c4 : w1.cell? ⟨w.heap.size, 4, none⟩ = some (.slice ag lg cg) := by
    rw [(hb1.cell w.heap.size 4 (fun A e => by have := IU.out A e; omega)).1]
    simp
  have hg1 : Own ag lg gs w1 := hb1.own (HG.out.below hB0) HN.out
  have hz1 : w1.heap.size = w.heap.size + 1 := by rw [hb1.size]; simp
  go_wp2_with fail
  refine (markNamedS_any ag lg cg (k + 2 * lu) gs (by omega) (by omega) hl2 _ hg1).mono ?_
  rintro e w2 ⟨rfl, ho2, hb2⟩
  have hu2 : Own au lu (marks k lu) w2 := hb2.own ho1 (fun A A2 e e2 => fun h => HN.out A2 A e2 e h.symm)
  have hz2 : w2.heap.size = w.heap.size + 1 := by rw [hb2.size, hz1]
  have hB : But2 au ag w w2 := by
    refine ⟨by omega, fun c hc h1 h2 => ?_, fun b o hlt h1 h2 => ?_⟩
    · exact (hB0.mono hc).trans ((hb1.below c h1).trans (hb2.below c h2))
    · have e1 := hb1.cell b o h1
      have e2 := hb2.cell b o h2
      rw [e2.1, e2.2, e1.1, e1.2]
      exact ⟨hB0.cell (p := ⟨b, o, none⟩) hlt, hB0.frozen (p := ⟨b, o, none⟩) hlt⟩
  have R : Hid (Own au lu (marks k lu) w2 ∧ Own ag lg (marks (k + 2 * lu) lg) w2 ∧ But2 au ag w w2) := ⟨hu2, ho2, hB⟩
  clear hu2 ho2 hB hb2 hb1 ho1 hg1 hB0
  go_wp2
  go_ret
  exact ⟨rfl, R.out⟩
set_option maxHeartbeats 2000000 in
/-- laws.heldAcl of what mark wrote. -/
theorem heldAcl_any (u g o : Int) (au : Option Addr) (lu cu : Nat) (ag : Option Addr) (lg cg : Nat) (r : Bool) (m : Int) (k : Int) (h0 : 0 ≤ k) (h1 : k ≤ 100000000) (hl : lu ≤ 1048576) (hl2 : lg ≤ 1048576) (w : World)
    (hu : Own au lu (marks k lu) w) (hg : Own ag lg (marks (k + 2 * lu) lg) w) :
    Calls Tryd.prog 63 #[.agg #[.int .i64 u, .int .i64 g, .int .i64 o, .slice au lu cu, .slice ag lg cg, .bool r, .int .i64 m], .int .i64 k] w fun e w' => e = .returned (.int .i64 (k + 2 * lu + 2 * lg)) ∧ Below w.heap.size w w' := by
  have d1 : decide (k + 2 * (lu : Int) < 0) = false := by simp; omega
  have d2 : decide (k + 2 * (lu : Int) + 2 * (lg : Int) < 0) = false := by simp; omega
  have hB0 : Hid (Below w.heap.size w (w.alloc (.cells #[.int .i64 u, .int .i64 g, .int .i64 o, .slice au lu cu, .slice ag lg cg, .bool r, .int .i64 m] 43))) := (Below.refl _ _).alloc (Nat.le_refl _) _
  have hc : Hid (Calls Tryd.prog 96 #[.slice au lu cu, .int .i64 k] (w.alloc (.cells #[.int .i64 u, .int .i64 g, .int .i64 o, .slice au lu cu, .slice ag lg cg, .bool r, .int .i64 m] 43)) fun e w' => e = .returned (.int .i64 (k + 2 * lu)) ∧ w' = (w.alloc (.cells #[.int .i64 u, .int .i64 g, .int .i64 o, .slice au lu cu, .slice ag lg cg, .bool r, .int .i64 m] 43))) := heldNamedS_any au lu cu k h0 (by omega) hl _ (hu.below hB0.out)
  have hd : Hid (Calls Tryd.prog 96 #[.slice ag lg cg, .int .i64 (k + 2 * lu)] (w.alloc (.cells #[.int .i64 u, .int .i64 g, .int .i64 o, .slice au lu cu, .slice ag lg cg, .bool r, .int .i64 m] 43)) fun e w' => e = .returned (.int .i64 (k + 2 * lu + 2 * lg)) ∧ w' = (w.alloc (.cells #[.int .i64 u, .int .i64 g, .int .i64 o, .slice au lu cu, .slice ag lg cg, .bool r, .int .i64 m] 43))) := heldNamedS_any ag lg cg (k + 2 * lu) (by omega) (by omega) hl2 _ (hg.below hB0.out)
  clear hu hg
  go_enter Tryd.func63, Tryd.ntmps63
  go_wp2_with fail
  refine hc.out.mono ?_
  rintro e w1 ⟨rfl, rfl⟩
  go_wp2_with fail
  refine hd.out.mono ?_
  rintro e w1 ⟨rfl, rfl⟩
  go_wp2
  go_ret
  exact ⟨rfl, hB0.out⟩
end Go.Proofs.YtgooanaacebncaaDoor
