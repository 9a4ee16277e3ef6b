/- Laid together: AclMark, TreeO, LsT. -/
import Derived.Test.YtgodbelcddgdmaaGreatNF18
import Derived.Test.YtgodbelcddgdmaaGreatNF4
/- laws.markNamedS, heldNamedS, markAcl, heldAcl: a list is written over, and read again. -/
namespace Go.Proofs.YtgodbelcddgdmaaGreat
open Go.RowKit Go.PlainAid
set_option linter.unusedVariables false
/-- What mark writes. -/
def marks (k : Int) (n : Nat) : List (Int × Int) := (List.range n).map fun (i : Nat) => (k + 2 * (i : Int), k + 2 * (i : Int) + 1)
theorem marks_len (k : Int) (n : Nat) : (marks k n).length = n := by simp [marks]
theorem marks_id (k : Int) (n i : Nat) (h : i < n) : idAt (marks k n) i = k + 2 * i := idAt_map _ n i h
theorem marks_bt (k : Int) (n i : Nat) (h : i < n) : btAt (marks k n) i = k + 2 * i + 1 := btAt_map _ n i h
/-- The world is as it was, but for the cells of one block. -/
structure But (a : Option Addr) (w w' : World) : Prop where
  size : w'.heap.size = w.heap.size
  below : ∀ c, (∀ A, a = some A → c ≤ A.block) → Below c w w'
  cell : ∀ b o, (∀ A, a = some A → b ≠ A.block) → w'.cell? ⟨b, o, none⟩ = w.cell? ⟨b, o, none⟩ ∧ w'.frozen? ⟨b, o, none⟩ = w.frozen? ⟨b, o, none⟩
theorem But.refl (a : Option Addr) (w : World) : But a w w := ⟨rfl, fun _ _ => Below.refl _ _, fun _ _ _ => ⟨rfl, rfl⟩⟩
theorem But.set {B o : Nat} {w w' : World} {v : Value} (h : But (some ⟨B, 0, none⟩) w w') : But (some ⟨B, 0, none⟩) w (w'.setCell ⟨B, o, none⟩ v) := by
  refine ⟨by simpa using h.size, fun c hc => bl_setN (h.below c hc) (hc _ rfl), fun b o2 hb => ?_⟩
  have h1 := h.cell b o2 hb
  rw [World.frozen?_setCell, ← h1.1]
  exact ⟨World.cell?_setCell_other _ _ _ _ (by intro h; have h2 := congrArg Addr.block h; exact hb _ rfl (by simpa using h2.symm)), h1.2⟩
theorem But.own {a a2 : Option Addr} {len : Nat} {l : List (Int × Int)} {w w' : World} (h : But a w w') (ho : Own a2 len l w) (hne : ∀ A A2, a = some A → a2 = some A2 → A.block ≠ A2.block) : Own a2 len l w' := by
  refine ⟨ho.1, fun h0 => ?_⟩
  obtain ⟨B, ha, hlt, hp⟩ := ho.2 h0
  refine ⟨B, ha, by rw [h.size]; exact hlt, fun i hi => ?_⟩
  have hb : ∀ A, a = some A → B ≠ A.block := fun A e => fun e2 => hne A _ e ha (by simpa using e2.symm)
  have h0 := h.cell B (i * 2) hb
  have h1 := h.cell B (i * 2 + 1) hb
  rw [h0.1, h0.2, h1.1, h1.2]
  exact hp i hi
set_option maxHeartbeats 2000000 in
theorem markNamedS_none (a : Option Addr) (cap : Nat) (k : Int) (w : World) :
    Calls Tryz.prog 45 #[.slice a 0 cap, .int .i64 k] w fun e w' => e = .returned (.int .i64 k) ∧ w' = w := by
  go_enter Tryz.func45, Tryz.ntmps45
  go_wp2
  go_rounds 1
  go_ret
  exact ⟨rfl, rfl⟩
set_option maxHeartbeats 2000000 in
theorem markNamedS_some (B len cap : Nat) (k : Int) (F0 G0 : Nat → Int) (h0 : 0 ≤ k) (h1 : k ≤ 1000000000) (hl : len ≤ 1048576) (w : World) (hp : PHold w B F0 G0 len) :
    Calls Tryz.prog 45 #[.slice (some ⟨B, 0, none⟩) len cap, .int .i64 k] w fun e w' => e = .returned (.int .i64 (k + 2 * len)) ∧ PHold w' B (fun i => k + 2 * i) (fun i => k + 2 * i + 1) len ∧ But (some ⟨B, 0, none⟩) w w' := by
  have HP : Hid (PHold w B F0 G0 len) := hp
  clear hp
  go_enter Tryz.func45, Tryz.ntmps45
  go_wp2
  go_loopw [5, 1] (fun i q wr => ∃ (j : Nat) (F G : Nat → Int), j ≤ len ∧ i = .int .i64 j ∧ q = .int .i64 (k + 2 * j) ∧ Hid (PHold wr B F G len) ∧ Hid (∀ t, t < j → F t = k + 2 * t ∧ G t = k + 2 * t + 1) ∧ Hid (But (some ⟨B, 0, none⟩) w wr)) (fun i _ _ => len - (intOf i).toNat)
  case atStart => exact ⟨0, F0, G0, Nat.zero_le _, rfl, by simp, HP, fun t ht => absurd ht (by omega), But.refl _ _⟩
  case round =>
    obtain ⟨j, F, G, hj, rfl, rfl, hH, hg, hB⟩ := hrel
    by_cases hlt : j < len
    · have hlt' : (j : Int) < (len : Int) := by omega
      have q := hH.out j hlt
      have g2 := q.1.1
      have g3 := q.1.2
      have g4 := q.2.1
      have g5 := q.2.2
      have hH2 : Hid (PHold ((wr.setCell ⟨B, j * 2, none⟩ (.int .i64 (k + 2 * j))).setCell ⟨B, j * 2 + 1, none⟩ (.int .i64 (k + 2 * j + 1))) B (fun i => if i = j then k + 2 * j else F i) (fun i => if i = j then k + 2 * j + 1 else G i) len) := (hH.out.set0 j hlt _).set1 j hlt _
      have hg2 : Hid (∀ t, t < j + 1 → (fun i => if i = j then k + 2 * j else F i) t = k + 2 * t ∧ (fun i => if i = j then k + 2 * j + 1 else G i) t = k + 2 * t + 1) := (fun t ht => by
        show (if t = j then k + 2 * j else F t) = k + 2 * t ∧ (if t = j then k + 2 * j + 1 else G t) = k + 2 * t + 1
        by_cases e : t = j
        · rw [if_pos e, if_pos e, e]; exact ⟨rfl, rfl⟩
        · rw [if_neg e, if_neg e]; exact hg.out t (by omega))
      have hB2 : Hid (But (some ⟨B, 0, none⟩) w ((wr.setCell ⟨B, j * 2, none⟩ (.int .i64 (k + 2 * j))).setCell ⟨B, j * 2 + 1, none⟩ (.int .i64 (k + 2 * j + 1)))) := hB.out.set.set
      clear q hH hg hB
      go_wp2
      go_roundw
      case rel => exact ⟨j + 1, _, _, by omega, by go_num, by go_num, hH2, hg2, hB2⟩
      case measure => simp [intOf]; omega
    · have : j = len := by omega
      subst this
      go_wp2
      go_ret
      refine ⟨rfl, fun i hi => ?_, hB.out⟩
      have h1 := hH.out i hi
      rw [(hg.out i hi).1, (hg.out i hi).2] at h1
      exact h1
/-- laws.markNamedS. -/
theorem markNamedS_any (a : Option Addr) (len cap : Nat) (k : Int) (l : List (Int × Int)) (h0 : 0 ≤ k) (h1 : k ≤ 1000000000) (hl : len ≤ 1048576) (w : World) (ho : Own a len l w) :
    Calls Tryz.prog 45 #[.slice a len cap, .int .i64 k] w fun e w' => e = .returned (.int .i64 (k + 2 * len)) ∧ Own a len (marks k len) w' ∧ But a w w' := by
  by_cases hz : len = 0
  · subst hz
    refine (markNamedS_none a cap k w).mono ?_
    rintro e w' ⟨rfl, rfl⟩
    exact ⟨by simp, ⟨marks_len _ _, fun h => absurd h (by omega)⟩, But.refl _ _⟩
  · obtain ⟨B, rfl, hlt, hp⟩ := ho.2 (by omega)
    refine (markNamedS_some B len cap k _ _ h0 h1 hl w hp).mono ?_
    rintro e w' ⟨rfl, hp2, hb⟩
    refine ⟨rfl, ⟨marks_len _ _, fun _ => ⟨B, rfl, by rw [hb.size]; exact hlt, fun i hi => ?_⟩⟩, hb⟩
    rw [marks_id k len i hi, marks_bt k len i hi]
    exact hp2 i hi
set_option maxHeartbeats 2000000 in
theorem heldNamedS_none (a : Option Addr) (cap : Nat) (k : Int) (w : World) :
    Calls Tryz.prog 47 #[.slice a 0 cap, .int .i64 k] w fun e w' => e = .returned (.int .i64 k) ∧ w' = w := by
  go_enter Tryz.func47, Tryz.ntmps47
  go_wp2
  go_rounds 1
  go_ret
  exact ⟨rfl, rfl⟩
set_option maxHeartbeats 2000000 in
theorem heldNamedS_some (B len cap : Nat) (k : Int) (h0 : 0 ≤ k) (h1 : k ≤ 1000000000) (hl : len ≤ 1048576) (w : World) (hc : ∀ i, i < len → w.cell? ⟨B, i * 2, none⟩ = some (.int .i64 (k + 2 * i)) ∧ w.cell? ⟨B, i * 2 + 1, none⟩ = some (.int .i64 (k + 2 * i + 1))) :
    Calls Tryz.prog 47 #[.slice (some ⟨B, 0, none⟩) len cap, .int .i64 k] w fun e w' => e = .returned (.int .i64 (k + 2 * len)) ∧ w' = w := by
  have HC : Hid (∀ i, i < len → w.cell? ⟨B, i * 2, none⟩ = some (.int .i64 (k + 2 * i)) ∧ w.cell? ⟨B, i * 2 + 1, none⟩ = some (.int .i64 (k + 2 * i + 1))) := hc
  clear hc
  go_enter Tryz.func47, Tryz.ntmps47
  go_wp2
  go_loop [5, 1] (fun i q => ∃ (j : Nat), j ≤ len ∧ i = .int .i64 j ∧ q = .int .i64 (k + 2 * j)) (fun i _ => len - (intOf i).toNat)
  case atStart => exact ⟨0, Nat.zero_le _, rfl, by simp⟩
  case round =>
    obtain ⟨j, hj, rfl, rfl⟩ := hrel
    by_cases hlt : j < len
    · have hlt' : (j : Int) < (len : Int) := by omega
      obtain ⟨g0, g1⟩ := HC.out j hlt
      go_wp2
      go_round
      case rel => exact ⟨j + 1, by omega, by go_num, by go_num⟩
      case measure => simp [intOf]; omega
    · have : j = len := by omega
      subst this
      go_wp2
      go_ret
      exact ⟨rfl, rfl⟩
/-- laws.heldNamedS of what mark wrote. -/
theorem heldNamedS_any (a : Option Addr) (len cap : Nat) (k : Int) (h0 : 0 ≤ k) (h1 : k ≤ 1000000000) (hl : len ≤ 1048576) (w : World) (ho : Own a len (marks k len) w) :
    Calls Tryz.prog 47 #[.slice a len cap, .int .i64 k] w fun e w' => e = .returned (.int .i64 (k + 2 * len)) ∧ w' = w := by
  by_cases hz : len = 0
  · subst hz
    refine (heldNamedS_none a cap k w).mono ?_
    rintro e w' ⟨rfl, rfl⟩
    exact ⟨by simp, rfl⟩
  · obtain ⟨B, rfl, hlt, hp⟩ := ho.2 (by omega)
    refine heldNamedS_some B len cap k h0 h1 hl w fun i hi => ?_
    have h2 := (hp i hi).1
    rw [marks_id k len i hi, marks_bt k len i hi] at h2
    exact h2
/-- The world is as it was, but for the cells of two blocks, and for what is new. -/
structure But2 (a a2 : Option Addr) (w w' : World) : Prop where
  size : w.heap.size ≤ w'.heap.size
  below : ∀ c, c ≤ w.heap.size → (∀ A, a = some A → c ≤ A.block) → (∀ A, a2 = some A → c ≤ A.block) → Below c w w'
  cell : ∀ b o, b < w.heap.size → (∀ A, a = some A → b ≠ A.block) → (∀ A, a2 = some A → b ≠ A.block) → w'.cell? ⟨b, o, none⟩ = w.cell? ⟨b, o, none⟩ ∧ w'.frozen? ⟨b, o, none⟩ = w.frozen? ⟨b, o, none⟩
theorem But2.own {a a2 a3 : Option Addr} {len : Nat} {l : List (Int × Int)} {w w' : World} (h : But2 a a2 w w') (ho : Own a3 len l w) (hne : ∀ A A2, a = some A → a3 = some A2 → A.block ≠ A2.block) (hne2 : ∀ A A2, a2 = some A → a3 = some A2 → A.block ≠ A2.block) : Own a3 len l w' := by
  refine ⟨ho.1, fun h0 => ?_⟩
  obtain ⟨B, ha, hlt, hp⟩ := ho.2 h0
  refine ⟨B, ha, Nat.lt_of_lt_of_le hlt h.size, fun i hi => ?_⟩
  have hb : ∀ A, a = some A → B ≠ A.block := fun A e => fun e2 => hne A _ e ha (by simpa using e2.symm)
  have hb2 : ∀ A, a2 = some A → B ≠ A.block := fun A e => fun e2 => hne2 A _ e ha (by simpa using e2.symm)
  have h0 := h.cell B (i * 2) hlt hb hb2
  have h1 := h.cell B (i * 2 + 1) hlt hb hb2
  rw [h0.1, h0.2, h1.1, h1.2]
  exact hp i hi
theorem But2.prs {a a2 a3 : Option Addr} {len : Nat} {l : List (Int × Int)} {w w' : World} (h : But2 a a2 w w') (ho : Prs a3 len l w) (hne : ∀ A A2, a = some A → a3 = some A2 → A.block ≠ A2.block) (hne2 : ∀ A A2, a2 = some A → a3 = some A2 → A.block ≠ A2.block) : Prs a3 len l w' := by
  refine ⟨ho.1, fun h0 => ?_⟩
  obtain ⟨B, off, ha, hlt, hp⟩ := ho.2 h0
  refine ⟨B, off, ha, Nat.lt_of_lt_of_le hlt h.size, fun i hi => ?_⟩
  have hb : ∀ A, a = some A → B ≠ A.block := fun A e => fun e2 => hne A _ e ha (by simpa using e2.symm)
  have hb2 : ∀ A, a2 = some A → B ≠ A.block := fun A e => fun e2 => hne2 A _ e ha (by simpa using e2.symm)
  rw [(h.cell B (off + i * 2) hlt hb hb2).1, (h.cell B (off + i * 2 + 1) hlt hb hb2).1]
  exact hp i hi
set_option maxHeartbeats 2000000 in
/-- laws.markAcl. -/
theorem markAcl_any (u g o : Int) (au : Option Addr) (lu cu : Nat) (ag : Option Addr) (lg cg : Nat) (r : Bool) (m : Int) (us gs : List (Int × Int)) (k : Int) (h0 : 0 ≤ k) (h1 : k ≤ 100000000) (hl : lu ≤ 1048576) (hl2 : lg ≤ 1048576) (w : World)
    (hu : Own au lu us w) (hg : Own ag lg gs w) (iu : ∀ A, au = some A → A.block < w.heap.size) (ig : ∀ A, ag = some A → A.block < w.heap.size) (hne : ∀ A A2, au = some A → ag = some A2 → A.block ≠ A2.block) :
    Calls Tryz.prog 25 #[.agg #[.int .i64 u, .int .i64 g, .int .i64 o, .slice au lu cu, .slice ag lg cg, .bool r, .int .i64 m], .int .i64 k] w fun e w' => e = .returned (.int .i64 (k + 2 * lu + 2 * lg)) ∧ Own au lu (marks k lu) w' ∧ Own ag lg (marks (k + 2 * lu) lg) w' ∧ But2 au ag w w' := by
  have HU : Hid (Own au lu us w) := hu
  have HG : Hid (Own ag lg gs w) := hg
  have HN : Hid (∀ A A2, au = some A → ag = some A2 → A.block ≠ A2.block) := hne
  have IU : Hid (∀ A, au = some A → A.block < w.heap.size) := iu
  have IG : Hid (∀ A, ag = some A → A.block < w.heap.size) := ig
  clear hu hg hne iu ig
  go_enter Tryz.func25, Tryz.ntmps25
  go_wp2_with fail
  have hB0 : Below w.heap.size w (w.alloc (.cells #[.int .i64 u, .int .i64 g, .int .i64 o, .slice au lu cu, .slice ag lg cg, .bool r, .int .i64 m] 28)) := (Below.refl _ _).alloc (Nat.le_refl _) _
  refine (markNamedS_any au lu cu k us h0 (by omega) hl _ (HU.out.below hB0)).mono ?_
  rintro e w1 ⟨rfl, ho1, hb1⟩
  have c4 : w1.cell? ⟨w.heap.size, 4, none⟩ = some (.slice ag lg cg) := by
    rw [(hb1.cell w.heap.size 4 (fun A e => by have := IU.out A e; omega)).1]
    simp
  have hg1 : Own ag lg gs w1 := hb1.own (HG.out.below hB0) HN.out
  have hz1 : w1.heap.size = w.heap.size + 1 := by rw [hb1.size]; simp
  go_wp2_with fail
  refine (markNamedS_any ag lg cg (k + 2 * lu) gs (by omega) (by omega) hl2 _ hg1).mono ?_
  rintro e w2 ⟨rfl, ho2, hb2⟩
  have hu2 : Own au lu (marks k lu) w2 := hb2.own ho1 (fun A A2 e e2 => fun h => HN.out A2 A e2 e h.symm)
  have hz2 : w2.heap.size = w.heap.size + 1 := by rw [hb2.size, hz1]
  have hB : But2 au ag w w2 := by
    refine ⟨by omega, fun c hc h1 h2 => ?_, fun b o hlt h1 h2 => ?_⟩
    · exact (hB0.mono hc).trans ((hb1.below c h1).trans (hb2.below c h2))
    · have e1 := hb1.cell b o h1
      have e2 := hb2.cell b o h2
      rw [e2.1, e2.2, e1.1, e1.2]
      exact ⟨hB0.cell (p := ⟨b, o, none⟩) hlt, hB0.frozen (p := ⟨b, o, none⟩) hlt⟩
  have R : Hid (Own au lu (marks k lu) w2 ∧ Own ag lg (marks (k + 2 * lu) lg) w2 ∧ But2 au ag w w2) := ⟨hu2, ho2, hB⟩
  clear hu2 ho2 hB hb2 hb1 ho1 hg1 hB0
  go_wp2
  go_ret
  exact ⟨rfl, R.out⟩
set_option maxHeartbeats 2000000 in
/-- laws.heldAcl of what mark wrote. -/
theorem heldAcl_any (u g o : Int) (au : Option Addr) (lu cu : Nat) (ag : Option Addr) (lg cg : Nat) (r : Bool) (m : Int) (k : Int) (h0 : 0 ≤ k) (h1 : k ≤ 100000000) (hl : lu ≤ 1048576) (hl2 : lg ≤ 1048576) (w : World)
    (hu : Own au lu (marks k lu) w) (hg : Own ag lg (marks (k + 2 * lu) lg) w) :
    Calls Tryz.prog 27 #[.agg #[.int .i64 u, .int .i64 g, .int .i64 o, .slice au lu cu, .slice ag lg cg, .bool r, .int .i64 m], .int .i64 k] w fun e w' => e = .returned (.int .i64 (k + 2 * lu + 2 * lg)) ∧ Below w.heap.size w w' := by
  have d1 : decide (k + 2 * (lu : Int) < 0) = false := by simp; omega
  have d2 : decide (k + 2 * (lu : Int) + 2 * (lg : Int) < 0) = false := by simp; omega
  have hB0 : Hid (Below w.heap.size w (w.alloc (.cells #[.int .i64 u, .int .i64 g, .int .i64 o, .slice au lu cu, .slice ag lg cg, .bool r, .int .i64 m] 28))) := (Below.refl _ _).alloc (Nat.le_refl _) _
  have hc : Hid (Calls Tryz.prog 47 #[.slice au lu cu, .int .i64 k] (w.alloc (.cells #[.int .i64 u, .int .i64 g, .int .i64 o, .slice au lu cu, .slice ag lg cg, .bool r, .int .i64 m] 28)) fun e w' => e = .returned (.int .i64 (k + 2 * lu)) ∧ w' = (w.alloc (.cells #[.int .i64 u, .int .i64 g, .int .i64 o, .slice au lu cu, .slice ag lg cg, .bool r, .int .i64 m] 28))) := heldNamedS_any au lu cu k h0 (by omega) hl _ (hu.below hB0.out)
  have hd : Hid (Calls Tryz.prog 47 #[.slice ag lg cg, .int .i64 (k + 2 * lu)] (w.alloc (.cells #[.int .i64 u, .int .i64 g, .int .i64 o, .slice au lu cu, .slice ag lg cg, .bool r, .int .i64 m] 28)) fun e w' => e = .returned (.int .i64 (k + 2 * lu + 2 * lg)) ∧ w' = (w.alloc (.cells #[.int .i64 u, .int .i64 g, .int .i64 o, .slice au lu cu, .slice ag lg cg, .bool r, .int .i64 m] 28))) := heldNamedS_any ag lg cg (k + 2 * lu) (by omega) (by omega) hl2 _ (hg.below hB0.out)
  clear hu hg
  go_enter Tryz.func27, Tryz.ntmps27
  go_wp2_with fail
  refine hc.out.mono ?_
  rintro e w1 ⟨rfl, rfl⟩
  go_wp2_with fail
  refine hd.out.mono ?_
  rintro e w1 ⟨rfl, rfl⟩
  go_wp2
  go_ret
  exact ⟨rfl, hB0.out⟩
end Go.Proofs.YtgodbelcddgdmaaGreat
/- A tree's nodes and their lists, each in a block of its own, all of which may be written. Nothing here names a program. -/
namespace Go.Proofs.YtgodbelcddgdmaaGreat
open Go.RowKit Go.PlainAid Go.Deep
set_option linter.unusedVariables false
/-- The world is as it was, but for blocks from lo to below hi, and new ones. -/
structure Btw (lo hi : Nat) (w w' : World) : Prop where
  size : w.heap.size ≤ w'.heap.size
  below : ∀ c, c ≤ w.heap.size → c ≤ lo → Below c w w'
  cell : ∀ b o, b < w.heap.size → (b < lo ∨ hi ≤ b) → w'.cell? ⟨b, o, none⟩ = w.cell? ⟨b, o, none⟩ ∧ w'.frozen? ⟨b, o, none⟩ = w.frozen? ⟨b, o, none⟩
theorem Btw.refl (lo hi : Nat) (w : World) : Btw lo hi w w := ⟨Nat.le_refl _, fun _ _ _ => Below.refl _ _, fun _ _ _ _ => ⟨rfl, rfl⟩⟩
theorem Btw.trans {lo hi : Nat} {w w1 w2 : World} (h : Btw lo hi w w1) (h2 : Btw lo hi w1 w2) : Btw lo hi w w2 := by
  refine ⟨Nat.le_trans h.size h2.size, fun c hc hA => (h.below c hc hA).trans (h2.below c (Nat.le_trans hc h.size) hA), fun b o hb hA => ?_⟩
  have h3 := h.cell b o hb hA
  have h4 := h2.cell b o (Nat.lt_of_lt_of_le hb h.size) hA
  exact ⟨h4.1.trans h3.1, h4.2.trans h3.2⟩
theorem Btw.of {lo hi : Nat} {w w1 : World} (hb : Below w.heap.size w w1) : Btw lo hi w w1 := ⟨hb.size, fun c hc _ => hb.mono hc, fun b o h _ => ⟨hb.cell (p := ⟨b, o, none⟩) h, hb.frozen (p := ⟨b, o, none⟩) h⟩⟩
theorem Btw.on {lo hi : Nat} {w w1 w2 : World} (h : Btw lo hi w w1) (hb : Below w1.heap.size w1 w2) : Btw lo hi w w2 := h.trans (Btw.of hb)
theorem Btw.set {lo hi B o : Nat} {w w1 : World} {v : Value} (h : Btw lo hi w w1) (h1 : lo ≤ B) (h2 : B < hi) : Btw lo hi w (w1.setCell ⟨B, o, none⟩ v) := by
  refine ⟨by simpa using h.size, fun c hc hA => setS (h.below c hc hA) (Nat.le_trans hA h1), fun b o2 hb hA => ?_⟩
  have h3 := h.cell b o2 hb hA
  rw [World.frozen?_setCell, ← h3.1]
  exact ⟨World.cell?_setCell_other _ _ _ _ (by intro h; have h2 := congrArg Addr.block h; simp only at h2; omega), h3.2⟩
theorem ButS.btw {lo hi : Nat} {a : Option Addr} {w w1 : World} (h : ButS a w w1) (ha : ∀ A, a = some A → lo ≤ A.block ∧ A.block < hi) : Btw lo hi w w1 :=
  ⟨h.size, fun c hc hA => h.below c hc (fun A e => Nat.le_trans hA (ha A e).1), fun b o hb hA => h.cell b o hb (fun A e => by have := ha A e; omega)⟩
theorem But.butS {a : Option Addr} {w w1 : World} (h : But a w w1) : ButS a w w1 := ⟨by rw [h.size]; exact Nat.le_refl _, fun c _ hA => h.below c hA, fun b o _ hA => h.cell b o hA⟩
theorem BoxR.btw {lo hi : Nat} {w w' : World} {X : Nat} {cs : List Value} (h : BoxR w X cs) (hb : Btw lo hi w w') (hne : X < lo ∨ hi ≤ X) : BoxR w' X cs := ⟨Nat.lt_of_lt_of_le h.lt hb.size, range_keep h.at0 (fun j => (hb.cell X j h.lt hne).1)⟩
theorem BoxW.btw {lo hi : Nat} {w w' : World} {X : Nat} {cs : List Value} (h : BoxW w X cs) (hb : Btw lo hi w w') (hne : X < lo ∨ hi ≤ X) : BoxW w' X cs := ⟨Nat.lt_of_lt_of_le h.lt hb.size, range_keep h.at0 (fun j => (hb.cell X j h.lt hne).1), fun j => (hb.cell X j h.lt hne).2.trans (h.frz j)⟩
/-- Where the lists of a node lie, and how long they are, by number. -/
def laAt (y : Na) : Nat → Option Addr | 0 => y.aU | 1 => y.aG | 2 => y.dU | 3 => y.dG | _ => y.nA
def lnAt (x : Nd) : Nat → Nat | 0 => x.A.us.length | 1 => x.A.gs.length | 2 => x.D.us.length | 3 => x.D.gs.length | _ => x.ns.length
/-- The lists of a node, that may be written. -/
structure NdOwn (w : World) (x : Nd) (y : Na) : Prop where
  aU : Own y.aU x.A.us.length x.A.us w
  aG : Own y.aG x.A.gs.length x.A.gs w
  dU : Own y.dU x.D.us.length x.D.us w
  dG : Own y.dG x.D.gs.length x.D.gs w
  nA : OwnE y.nA x.ns.length x.ns w
theorem NdOwn.ndIn {w : World} {x : Nd} {y : Na} (h : NdOwn w x y) : NdIn w x y := ⟨h.aU.prs, h.aG.prs, h.dU.prs, h.dG.prs, h.nA.ens⟩
theorem NdOwn.below {w w' : World} {x : Nd} {y : Na} (h : NdOwn w x y) (hb : Below w.heap.size w w') : NdOwn w' x y := ⟨h.aU.below hb, h.aG.below hb, h.dU.below hb, h.dG.below hb, h.nA.below hb⟩
/-- A list keeps where the world is as it was but for other blocks. -/
theorem Own.keepS {a a2 : Option Addr} {len : Nat} {l : List (Int × Int)} {w w' : World} (ho : Own a2 len l w) (h : ButS a w w') (hne : 0 < len → ∀ A A2, a = some A → a2 = some A2 → A.block ≠ A2.block) : Own a2 len l w' := by
  refine ⟨ho.1, fun h0 => ?_⟩
  obtain ⟨B, ha, hlt, hp⟩ := ho.2 h0
  refine ⟨B, ha, Nat.lt_of_lt_of_le hlt h.size, fun i hi => ?_⟩
  have hb : ∀ A, a = some A → B ≠ A.block := fun A e => fun e2 => hne h0 A _ e ha (by simpa using e2.symm)
  have h0 := h.cell B (i * 2) hlt hb
  have h1 := h.cell B (i * 2 + 1) hlt hb
  rw [h0.1, h0.2, h1.1, h1.2]
  exact hp i hi
theorem OwnE.keepS {a a2 : Option Addr} {len : Nat} {l : List (ByteArray × Int)} {w w' : World} (ho : OwnE a2 len l w) (h : ButS a w w') (hne : 0 < len → ∀ A A2, a = some A → a2 = some A2 → A.block ≠ A2.block) : OwnE a2 len l w' := by
  refine ⟨ho.1, fun h0 => ?_⟩
  obtain ⟨B, ha, hlt, hp⟩ := ho.2 h0
  refine ⟨B, ha, Nat.lt_of_lt_of_le hlt h.size, fun i hi => ?_⟩
  have hb : ∀ A, a = some A → B ≠ A.block := fun A e => fun e2 => hne h0 A _ e ha (by simpa using e2.symm)
  have h0 := h.cell B (i * 2) hlt hb
  have h1 := h.cell B (i * 2 + 1) hlt hb
  rw [h0.1, h0.2, h1.1, h1.2]
  exact hp i hi
theorem Own.btw {lo hi : Nat} {a2 : Option Addr} {len : Nat} {l : List (Int × Int)} {w w' : World} (ho : Own a2 len l w) (h : Btw lo hi w w') (hne : 0 < len → ∀ A, a2 = some A → A.block < lo ∨ hi ≤ A.block) : Own a2 len l w' := by
  refine ⟨ho.1, fun h0 => ?_⟩
  obtain ⟨B, ha, hlt, hp⟩ := ho.2 h0
  refine ⟨B, ha, Nat.lt_of_lt_of_le hlt h.size, fun i hq => ?_⟩
  have hb : B < lo ∨ hi ≤ B := hne h0 _ ha
  have h0 := h.cell B (i * 2) hlt hb
  have h1 := h.cell B (i * 2 + 1) hlt hb
  rw [h0.1, h0.2, h1.1, h1.2]
  exact hp i hq
theorem OwnE.btw {lo hi : Nat} {a2 : Option Addr} {len : Nat} {l : List (ByteArray × Int)} {w w' : World} (ho : OwnE a2 len l w) (h : Btw lo hi w w') (hne : 0 < len → ∀ A, a2 = some A → A.block < lo ∨ hi ≤ A.block) : OwnE a2 len l w' := by
  refine ⟨ho.1, fun h0 => ?_⟩
  obtain ⟨B, ha, hlt, hp⟩ := ho.2 h0
  refine ⟨B, ha, Nat.lt_of_lt_of_le hlt h.size, fun i hq => ?_⟩
  have hb : B < lo ∨ hi ≤ B := hne h0 _ ha
  have h0 := h.cell B (i * 2) hlt hb
  have h1 := h.cell B (i * 2 + 1) hlt hb
  rw [h0.1, h0.2, h1.1, h1.2]
  exact hp i hq
theorem Prs.btw {lo hi : Nat} {a2 : Option Addr} {len : Nat} {l : List (Int × Int)} {w w' : World} (ho : Prs a2 len l w) (h : Btw lo hi w w') (hne : 0 < len → ∀ A, a2 = some A → A.block < lo ∨ hi ≤ A.block) : Prs a2 len l w' := by
  refine ⟨ho.1, fun h0 => ?_⟩
  obtain ⟨b, f, ha, hlt, hp⟩ := ho.2 h0
  refine ⟨b, f, ha, Nat.lt_of_lt_of_le hlt h.size, fun i hq => ?_⟩
  have hb : b < lo ∨ hi ≤ b := hne h0 _ ha
  rw [(h.cell b (f + i * 2) hlt hb).1, (h.cell b (f + i * 2 + 1) hlt hb).1]
  exact hp i hq
theorem Ens.btw {lo hi : Nat} {a2 : Option Addr} {len : Nat} {l : List (ByteArray × Int)} {w w' : World} (ho : Ens a2 len l w) (h : Btw lo hi w w') (hne : 0 < len → ∀ A, a2 = some A → A.block < lo ∨ hi ≤ A.block) : Ens a2 len l w' := by
  refine ⟨ho.1, fun h0 => ?_⟩
  obtain ⟨b, f, ha, hlt, hp⟩ := ho.2 h0
  refine ⟨b, f, ha, Nat.lt_of_lt_of_le hlt h.size, fun i hq => ?_⟩
  have hb : b < lo ∨ hi ≤ b := hne h0 _ ha
  rw [(h.cell b (f + i * 2) hlt hb).1, (h.cell b (f + i * 2 + 1) hlt hb).1]
  exact hp i hq
/-- A row of nodes, each list of which lies in a block of its own. -/
structure OwnT (w : World) (lo hi B : Nat) (F : Nat → Nd) (Y : Nat → Na) (n : Nat) : Prop where
  lt : B < w.heap.size
  inB : lo ≤ B ∧ B < hi
  row : NRow w B F Y n
  own : ∀ i, i < n → NdOwn w (F i) (Y i)
  rng : ∀ i j A, i < n → j < 5 → 0 < lnAt (F i) j → laAt (Y i) j = some A → lo ≤ A.block ∧ A.block < hi ∧ A.block ≠ B
  inj : ∀ i i' j j' A A', i < n → i' < n → j < 5 → j' < 5 → 0 < lnAt (F i) j → 0 < lnAt (F i') j' → laAt (Y i) j = some A → laAt (Y i') j' = some A' → A.block = A'.block → i = i' ∧ j = j'
theorem OwnT.below {w w' : World} {lo hi B n : Nat} {F : Nat → Nd} {Y : Nat → Na} (h : OwnT w lo hi B F Y n) (hb : Below w.heap.size w w') : OwnT w' lo hi B F Y n :=
  ⟨Nat.lt_of_lt_of_le h.lt hb.size, h.inB, h.row.below h.lt hb, fun i hi => (h.own i hi).below hb, h.rng, h.inj⟩
theorem OwnT.nds {w : World} {lo hi B n : Nat} {l : List Nd} {Y : Nat → Na} (h : OwnT w lo hi B (ndAt l) Y n) (hl : l.length = n) : Nds (some ⟨B, 0, none⟩) n l w :=
  ⟨hl, fun _ => ⟨B, 0, Y, rfl, h.lt, fun i hi => ⟨by rw [Nat.zero_add]; exact h.row.at' i hi, (h.own i hi).ndIn⟩⟩⟩
/-- All lists of a node but one keep. -/
theorem NdOwn.keepS {w w' : World} {x : Nd} {y : Na} {a : Option Addr} (h : NdOwn w x y) (hb : ButS a w w') (hne : ∀ j, j < 5 → 0 < lnAt x j → ∀ A A2, a = some A → laAt y j = some A2 → A.block ≠ A2.block) : NdOwn w' x y :=
  ⟨h.aU.keepS hb (fun h0 => hne 0 (by omega) h0), h.aG.keepS hb (fun h0 => hne 1 (by omega) h0), h.dU.keepS hb (fun h0 => hne 2 (by omega) h0), h.dG.keepS hb (fun h0 => hne 3 (by omega) h0), h.nA.keepS hb (fun h0 => hne 4 (by omega) h0)⟩
/-- One node in another one's place. -/
def updN (F : Nat → Nd) (i : Nat) (x : Nd) : Nat → Nd := fun k => if k = i then x else F k
theorem updN_at (F : Nat → Nd) (i : Nat) (x : Nd) : updN F i x i = x := by simp [updN]
theorem updN_ne {F : Nat → Nd} {i k : Nat} (x : Nd) (h : k ≠ i) : updN F i x k = F k := by simp [updN, h]
theorem updN_upd (F : Nat → Nd) (i : Nat) (x x2 : Nd) : updN (updN F i x) i x2 = updN F i x2 := by
  funext k
  by_cases h : k = i
  · subst h; rw [updN_at, updN_at]
  · rw [updN_ne _ h, updN_ne _ h, updN_ne _ h]
theorem updN_ln {F : Nat → Nd} {i : Nat} {x : Nd} (h : ∀ j, lnAt x j = lnAt (F i) j) (k j : Nat) : lnAt (updN F i x k) j = lnAt (F k) j := by
  by_cases e : k = i
  · subst e; rw [updN_at]; exact h j
  · rw [updN_ne _ e]
/-- One cell of a node is written. -/
theorem OwnT.cell {w : World} {lo hi B n : Nat} {F : Nat → Nd} {Y : Nat → Na} (h : OwnT w lo hi B F Y n) (i : Nat) (hi' : i < n) (c : Nat) (hc : c < 24) (v : Value) (x : Nd) (hV : ndV x (Y i) = (ndV (F i) (Y i)).set c v)
    (h1 : x.A.us = (F i).A.us) (h2 : x.A.gs = (F i).A.gs) (h3 : x.D.us = (F i).D.us) (h4 : x.D.gs = (F i).D.gs) (h5 : x.ns = (F i).ns) :
    OwnT (w.setCell ⟨B, i * 24 + c, none⟩ v) lo hi B (updN F i x) Y n := by
  have hB : ButS (some ⟨B, 0, none⟩) w (w.setCell ⟨B, i * 24 + c, none⟩ v) := (ButS.refl _ _).set
  have hln : ∀ j, lnAt x j = lnAt (F i) j := fun j => by
    match j with
    | 0 => exact congrArg List.length h1
    | 1 => exact congrArg List.length h2
    | 2 => exact congrArg List.length h3
    | 3 => exact congrArg List.length h4
    | _ + 4 => exact congrArg List.length h5
  have hk : ∀ k, k < n → NdOwn (w.setCell ⟨B, i * 24 + c, none⟩ v) (F k) (Y k) := fun k hk => (h.own k hk).keepS hB (fun j hj h0 A A2 e e2 => by
    have := h.rng k j A2 hk hj h0 e2
    cases e
    exact fun e3 => this.2.2 e3.symm)
  refine ⟨by simpa using h.lt, h.inB, ⟨fun k hkn => ?_, fun j => by rw [World.frozen?_setCell]; exact h.row.frz j⟩, fun k hkn => ?_, fun k j A hkn hj h0 e => h.rng k j A hkn hj (by rwa [updN_ln hln] at h0) e, fun k k' j j' A A' hk1 hk2 hj hj' h0 h0' e e' eb => h.inj k k' j j' A A' hk1 hk2 hj hj' (by rwa [updN_ln hln] at h0) (by rwa [updN_ln hln] at h0') e e' eb⟩
  · by_cases e : k = i
    · subst e
      rw [updN_at]
      show World.rangeAt _ _ _ _
      rw [hV]
      exact range_set (h.row.at' k hkn) c (by rw [ndV_len]; exact hc) v
    · rw [updN_ne _ e]
      intro j u hu
      have hj : j < 24 := (List.getElem?_eq_some_iff.1 hu).1
      rw [World.cell?_setCell_other _ _ _ _ (by intro h; have h2 := congrArg Addr.off h; simp only at h2; omega)]
      exact h.row.at' k hkn j u hu
  · by_cases e : k = i
    · subst e
      rw [updN_at]
      obtain ⟨q1, q2, q3, q4, q5⟩ := hk k hkn
      exact ⟨by rw [h1]; exact q1, by rw [h2]; exact q2, by rw [h3]; exact q3, by rw [h4]; exact q4, by rw [h5]; exact q5⟩
    · rw [updN_ne _ e]
      exact hk k hkn
/-- One list of a node is written over. -/
theorem OwnT.list {w w' : World} {lo hi B n : Nat} {F : Nat → Nd} {Y : Nat → Na} (h : OwnT w lo hi B F Y n) (i : Nat) (hi' : i < n) (j0 : Nat) (hj0 : j0 < 5) (x : Nd) (hb : ButS (if 0 < lnAt (F i) j0 then laAt (Y i) j0 else none) w w')
    (hV : ndV x (Y i) = ndV (F i) (Y i)) (hln : ∀ j, lnAt x j = lnAt (F i) j) (ho : NdOwn w' x (Y i)) : OwnT w' lo hi B (updN F i x) Y n := by
  have hBne : ∀ A, (if 0 < lnAt (F i) j0 then laAt (Y i) j0 else none) = some A → B ≠ A.block := fun A e => by
    by_cases h0 : 0 < lnAt (F i) j0
    · rw [if_pos h0] at e
      exact fun e2 => (h.rng i j0 A hi' hj0 h0 e).2.2 e2.symm
    · rw [if_neg h0] at e; cases e
  refine ⟨Nat.lt_of_lt_of_le h.lt hb.size, h.inB, ⟨fun k hkn => ?_, fun j => (hb.cell B j h.lt hBne).2.trans (h.row.frz j)⟩, fun k hkn => ?_, fun k j A hkn hj h0 e => h.rng k j A hkn hj (by rwa [updN_ln hln] at h0) e, fun k k' j j' A A' hk1 hk2 hj hj' h0 h0' e e' eb => h.inj k k' j j' A A' hk1 hk2 hj hj' (by rwa [updN_ln hln] at h0) (by rwa [updN_ln hln] at h0') e e' eb⟩
  · have hr := range_keep (h.row.at' k hkn) (fun j => (hb.cell B j h.lt hBne).1)
    by_cases e : k = i
    · subst e
      rw [updN_at]
      show World.rangeAt _ _ _ _
      rw [hV]
      exact hr
    · rw [updN_ne _ e]
      exact hr
  · by_cases e : k = i
    · subst e
      rw [updN_at]
      exact ho
    · rw [updN_ne _ e]
      refine (h.own k hkn).keepS hb (fun j hj h0 A A2 e1 e2 eb => ?_)
      by_cases hz : 0 < lnAt (F i) j0
      · rw [if_pos hz] at e1
        exact e (h.inj k i j j0 A2 A hkn hi' hj hj0 h0 hz e2 e1 eb.symm).1
      · rw [if_neg hz] at e1; cases e1
/-- The other lists of the node of which one list is written over. -/
theorem OwnT.others {w w' : World} {lo hi B n : Nat} {F : Nat → Nd} {Y : Nat → Na} (h : OwnT w lo hi B F Y n) (i : Nat) (hi' : i < n) (j0 : Nat) (hj0 : j0 < 5) (hb : ButS (if 0 < lnAt (F i) j0 then laAt (Y i) j0 else none) w w') :
    (j0 ≠ 0 → Own (Y i).aU (F i).A.us.length (F i).A.us w') ∧ (j0 ≠ 1 → Own (Y i).aG (F i).A.gs.length (F i).A.gs w') ∧ (j0 ≠ 2 → Own (Y i).dU (F i).D.us.length (F i).D.us w') ∧ (j0 ≠ 3 → Own (Y i).dG (F i).D.gs.length (F i).D.gs w') ∧ (j0 ≠ 4 → OwnE (Y i).nA (F i).ns.length (F i).ns w') := by
  have hq : ∀ j, j < 5 → j0 ≠ j → 0 < lnAt (F i) j → ∀ A A2, (if 0 < lnAt (F i) j0 then laAt (Y i) j0 else none) = some A → laAt (Y i) j = some A2 → A.block ≠ A2.block := fun j hj hne h0 A A2 e1 e2 eb => by
    by_cases hz : 0 < lnAt (F i) j0
    · rw [if_pos hz] at e1
      exact hne (h.inj i i j0 j A A2 hi' hi' hj0 hj hz h0 e1 e2 eb).2
    · rw [if_neg hz] at e1; cases e1
  have o := h.own i hi'
  exact ⟨fun hn => o.aU.keepS hb (hq 0 (by omega) hn), fun hn => o.aG.keepS hb (hq 1 (by omega) hn), fun hn => o.dU.keepS hb (hq 2 (by omega) hn), fun hn => o.dG.keepS hb (hq 3 (by omega) hn), fun hn => o.nA.keepS hb (hq 4 (by omega) hn)⟩
theorem OwnT.rngIf {w : World} {lo hi B n : Nat} {F : Nat → Nd} {Y : Nat → Na} (h : OwnT w lo hi B F Y n) (i : Nat) (hi' : i < n) (j0 : Nat) (hj0 : j0 < 5) : ∀ A, (if 0 < lnAt (F i) j0 then laAt (Y i) j0 else none) = some A → lo ≤ A.block ∧ A.block < hi := fun A e => by
  by_cases h0 : 0 < lnAt (F i) j0
  · rw [if_pos h0] at e
    have := h.rng i j0 A hi' hj0 h0 e
    exact ⟨this.1, this.2.1⟩
  · rw [if_neg h0] at e; cases e
theorem OwnT.btw {w w' : World} {lo hi lo2 hi2 B n : Nat} {F : Nat → Nd} {Y : Nat → Na} (h : OwnT w lo hi B F Y n) (hb : Btw lo2 hi2 w w') (hd : hi ≤ lo2 ∨ hi2 ≤ lo) : OwnT w' lo hi B F Y n := by
  have hB : B < lo2 ∨ hi2 ≤ B := by have := h.inB; omega
  have hq : ∀ i j A, i < n → j < 5 → 0 < lnAt (F i) j → laAt (Y i) j = some A → A.block < lo2 ∨ hi2 ≤ A.block := fun i j A hi' hj h0 e => by have := h.rng i j A hi' hj h0 e; omega
  exact ⟨Nat.lt_of_lt_of_le h.lt hb.size, h.inB, ⟨fun i hi' => range_keep (h.row.at' i hi') (fun j => (hb.cell B j h.lt hB).1), fun j => (hb.cell B j h.lt hB).2.trans (h.row.frz j)⟩,
    fun i hi' => ⟨(h.own i hi').aU.btw hb (fun h0 A e => hq i 0 A hi' (by omega) h0 e), (h.own i hi').aG.btw hb (fun h0 A e => hq i 1 A hi' (by omega) h0 e), (h.own i hi').dU.btw hb (fun h0 A e => hq i 2 A hi' (by omega) h0 e), (h.own i hi').dG.btw hb (fun h0 A e => hq i 3 A hi' (by omega) h0 e), (h.own i hi').nA.btw hb (fun h0 A e => hq i 4 A hi' (by omega) h0 e)⟩, h.rng, h.inj⟩
theorem block_of_some {B : Nat} {A : Addr} (h : (some ⟨B, 0, none⟩ : Option Addr) = some A) : A.block = B := by cases h; rfl
/-- A block that is there. -/
structure LtS (B : Nat) (w : World) : Prop where
  lt : B < w.heap.size
theorem LtS.below {B : Nat} {w w' : World} (h : LtS B w) (hb : Below w.heap.size w w') : LtS B w' := ⟨Nat.lt_of_lt_of_le h.lt hb.size⟩
theorem LtS.setA {B : Nat} {w : World} {Z o : Nat} {v : Value} (h : LtS B w) (hne : ∀ b f, (some ⟨B, 0, none⟩ : Option Addr) = some ⟨b, f, none⟩ → b ≠ Z) : LtS B (w.setCell ⟨Z, o, none⟩ v) := ⟨by simpa using h.lt⟩
theorem LtS.setsA {B : Nat} {Z : Nat} {w : World} (h : LtS B w) (hne : ∀ b f, (some ⟨B, 0, none⟩ : Option Addr) = some ⟨b, f, none⟩ → b ≠ Z) (vs : List Value) (o : Nat) : LtS B (w.setCells Z o vs) := ⟨by rw [size_setCellsT]; exact h.lt⟩
theorem butS_set {w : World} {Z o : Nat} {v : Value} : ButS (some ⟨Z, 0, none⟩) w (w.setCell ⟨Z, o, none⟩ v) := (ButS.refl _ _).set
theorem Own.setA {a : Option Addr} {len : Nat} {l : List (Int × Int)} {w : World} {Z o : Nat} {v : Value} (h : Own a len l w) (hne : ∀ b f, a = some ⟨b, f, none⟩ → b ≠ Z) : Own a len l (w.setCell ⟨Z, o, none⟩ v) :=
  h.set (fun B e => (hne B 0 e).symm)
theorem OwnE.setA {a : Option Addr} {len : Nat} {l : List (ByteArray × Int)} {w : World} {Z o : Nat} {v : Value} (h : OwnE a len l w) (hne : ∀ b f, a = some ⟨b, f, none⟩ → b ≠ Z) : OwnE a len l (w.setCell ⟨Z, o, none⟩ v) := by
  refine ⟨h.1, fun h0 => ?_⟩
  obtain ⟨B, ha, hlt, hp⟩ := h.2 h0
  have hn := hne B 0 ha
  refine ⟨B, ha, by simpa using hlt, fun i hi => ?_⟩
  have h1 := hp i hi
  rw [World.frozen?_setCell, World.frozen?_setCell]
  refine ⟨⟨?_, ?_⟩, h1.2⟩
  · rw [← h1.1.1]
    exact World.cell?_setCell_other _ _ _ _ (by intro h; have h2 := congrArg Addr.block h; simp only at h2; omega)
  · rw [← h1.1.2]
    exact World.cell?_setCell_other _ _ _ _ (by intro h; have h2 := congrArg Addr.block h; simp only at h2; omega)
theorem Own.setsA {a : Option Addr} {len : Nat} {l : List (Int × Int)} {Z : Nat} {w : World} (h : Own a len l w) (hne : ∀ b f, a = some ⟨b, f, none⟩ → b ≠ Z) : ∀ (vs : List Value) (o : Nat), Own a len l (w.setCells Z o vs) := by
  intro vs
  induction vs generalizing w with
  | nil => intro o; exact h
  | cons v r ih => intro o; rw [World.setCells]; exact ih (h.setA hne) (o + 1)
theorem OwnE.setsA {a : Option Addr} {len : Nat} {l : List (ByteArray × Int)} {Z : Nat} {w : World} (h : OwnE a len l w) (hne : ∀ b f, a = some ⟨b, f, none⟩ → b ≠ Z) : ∀ (vs : List Value) (o : Nat), OwnE a len l (w.setCells Z o vs) := by
  intro vs
  induction vs generalizing w with
  | nil => intro o; exact h
  | cons v r ih => intro o; rw [World.setCells]; exact ih (h.setA hne) (o + 1)
/-- The lists of one node lie from lo to below hi, each in a block of its own. -/
structure LsI (lo hi : Nat) (x : Nd) (y : Na) : Prop where
  rng : ∀ j A, j < 5 → 0 < lnAt x j → laAt y j = some A → lo ≤ A.block ∧ A.block < hi
  inj : ∀ j j' A A', j < 5 → j' < 5 → 0 < lnAt x j → 0 < lnAt x j' → laAt y j = some A → laAt y j' = some A' → A.block = A'.block → j = j'
theorem lsI_of {lo hi B1 B2 B3 B4 B5 c1 c2 c3 c4 c5 : Nat} {x : Nd} (h0 : lo ≤ B1) (h1 : B1 < B2) (h2 : B2 < B3) (h3 : B3 < B4) (h4 : B4 < B5) (h5 : B5 < hi) :
    LsI lo hi x ⟨some ⟨B1, 0, none⟩, c1, some ⟨B2, 0, none⟩, c2, some ⟨B3, 0, none⟩, c3, some ⟨B4, 0, none⟩, c4, some ⟨B5, 0, none⟩, c5⟩ := by
  have hb : ∀ j A, j < 5 → laAt ⟨some ⟨B1, 0, none⟩, c1, some ⟨B2, 0, none⟩, c2, some ⟨B3, 0, none⟩, c3, some ⟨B4, 0, none⟩, c4, some ⟨B5, 0, none⟩, c5⟩ j = some A → (j = 0 ∧ A.block = B1) ∨ (j = 1 ∧ A.block = B2) ∨ (j = 2 ∧ A.block = B3) ∨ (j = 3 ∧ A.block = B4) ∨ (j = 4 ∧ A.block = B5) := fun j A hj e => by
    match j, hj with
    | 0, _ => exact .inl ⟨rfl, block_of_some e⟩
    | 1, _ => exact .inr (.inl ⟨rfl, block_of_some e⟩)
    | 2, _ => exact .inr (.inr (.inl ⟨rfl, block_of_some e⟩))
    | 3, _ => exact .inr (.inr (.inr (.inl ⟨rfl, block_of_some e⟩)))
    | 4, _ => exact .inr (.inr (.inr (.inr ⟨rfl, block_of_some e⟩)))
  refine ⟨fun j A hj _ e => ?_, fun j j' A A' hj hj' _ _ e e' eb => ?_⟩
  · have := hb j A hj e; omega
  · have q1 := hb j A hj e
    have q2 := hb j' A' hj' e'
    omega
/-- The same of lists that have nothing in them as well. -/
structure LsU (lo hi : Nat) (y : Na) : Prop where
  rng : ∀ j A, j < 5 → laAt y j = some A → lo ≤ A.block ∧ A.block < hi
  inj : ∀ j j' A A', j < 5 → j' < 5 → laAt y j = some A → laAt y j' = some A' → A.block = A'.block → j = j'
theorem LsU.mono {lo lo2 hi hi2 : Nat} {y : Na} (h : LsU lo hi y) (h1 : lo2 ≤ lo) (h2 : hi ≤ hi2) : LsU lo2 hi2 y := ⟨fun j A hj e => by have := h.rng j A hj e; omega, h.inj⟩
theorem lsU_zero (lo hi : Nat) : LsU lo hi naZ := by
  have hz : ∀ j A, laAt naZ j = some A → False := fun j A e => by
    match j with
    | 0 => cases e
    | 1 => cases e
    | 2 => cases e
    | 3 => cases e
    | _ + 4 => cases e
  exact ⟨fun j A _ e => (hz j A e).elim, fun j j' A A' _ _ e _ _ => (hz j A e).elim⟩
/-- Five lists in three ranges. -/
theorem lsU_three {lo s1 s2 hi : Nat} {y : Na} (h1 : lo ≤ s1) (h2 : s1 ≤ s2) (h3 : s2 ≤ hi) (r0 : ∀ A, y.aU = some A → lo ≤ A.block ∧ A.block < s1) (r1 : ∀ A, y.aG = some A → lo ≤ A.block ∧ A.block < s1) (r2 : ∀ A, y.dU = some A → s1 ≤ A.block ∧ A.block < s2) (r3 : ∀ A, y.dG = some A → s1 ≤ A.block ∧ A.block < s2) (r4 : ∀ A, y.nA = some A → s2 ≤ A.block ∧ A.block < hi)
    (n1 : ∀ A A2, y.aU = some A → y.aG = some A2 → A.block ≠ A2.block) (n2 : ∀ A A2, y.dU = some A → y.dG = some A2 → A.block ≠ A2.block) : LsU lo hi y := by
  have hb : ∀ j A, j < 5 → laAt y j = some A → (j = 0 ∧ y.aU = some A ∧ lo ≤ A.block ∧ A.block < s1) ∨ (j = 1 ∧ y.aG = some A ∧ lo ≤ A.block ∧ A.block < s1) ∨ (j = 2 ∧ y.dU = some A ∧ s1 ≤ A.block ∧ A.block < s2) ∨ (j = 3 ∧ y.dG = some A ∧ s1 ≤ A.block ∧ A.block < s2) ∨ (j = 4 ∧ y.nA = some A ∧ s2 ≤ A.block ∧ A.block < hi) := fun j A hj e => by
    match j, hj with
    | 0, _ => exact .inl ⟨rfl, e, r0 A e⟩
    | 1, _ => exact .inr (.inl ⟨rfl, e, r1 A e⟩)
    | 2, _ => exact .inr (.inr (.inl ⟨rfl, e, r2 A e⟩))
    | 3, _ => exact .inr (.inr (.inr (.inl ⟨rfl, e, r3 A e⟩)))
    | 4, _ => exact .inr (.inr (.inr (.inr ⟨rfl, e, r4 A e⟩)))
  refine ⟨fun j A hj e => ?_, fun j j' A A' hj hj' e e' eb => ?_⟩
  · have := hb j A hj e; omega
  · rcases hb j A hj e with ⟨rfl, q, p, p2⟩ | ⟨rfl, q, p, p2⟩ | ⟨rfl, q, p, p2⟩ | ⟨rfl, q, p, p2⟩ | ⟨rfl, q, p, p2⟩ <;> rcases hb j' A' hj' e' with ⟨rfl, q', p', p2'⟩ | ⟨rfl, q', p', p2'⟩ | ⟨rfl, q', p', p2'⟩ | ⟨rfl, q', p', p2'⟩ | ⟨rfl, q', p', p2'⟩ <;> first | rfl | (exfalso; omega) | exact absurd eb (n1 _ _ q q') | exact absurd eb.symm (n1 _ _ q' q) | exact absurd eb (n2 _ _ q q') | exact absurd eb.symm (n2 _ _ q' q)
/-- The lists of the first k nodes of a row. -/
structure LsT (w : World) (lo : Nat) (F : Nat → Nd) (Y : Nat → Na) (k : Nat) : Prop where
  own : ∀ i, i < k → NdOwn w (F i) (Y i)
  rng : ∀ i j A, i < k → j < 5 → 0 < lnAt (F i) j → laAt (Y i) j = some A → lo ≤ A.block ∧ A.block < w.heap.size
  inj : ∀ i i' j j' A A', i < k → i' < k → j < 5 → j' < 5 → 0 < lnAt (F i) j → 0 < lnAt (F i') j' → laAt (Y i) j = some A → laAt (Y i') j' = some A' → A.block = A'.block → i = i' ∧ j = j'
theorem lsT_zero (w : World) (lo : Nat) (F : Nat → Nd) (Y : Nat → Na) : LsT w lo F Y 0 := ⟨fun i hi => absurd hi (by omega), fun i _ _ hi => absurd hi (by omega), fun i _ _ _ _ _ hi => absurd hi (by omega)⟩
theorem LsT.step {w w1 : World} {lo k : Nat} {F : Nat → Nd} {Y : Nat → Na} {x : Nd} {y : Na} (h : LsT w lo F Y k) (hb : Below w.heap.size w w1) (hn : NdOwn w1 x y) (hl : LsI w.heap.size w1.heap.size x y) (hlo : lo ≤ w.heap.size) :
    LsT w1 lo (fun i => if i = k then x else F i) (fun i => if i = k then y else Y i) (k + 1) := by
  refine ⟨fun i hi => ?_, fun i j A hi hj h0 e => ?_, fun i i' j j' A A' hi hi' hj hj' h0 h0' e e' eb => ?_⟩
  · by_cases e : i = k
    · simp only [if_pos e]; exact hn
    · simp only [if_neg e]; exact (h.own i (by omega)).below hb
  · by_cases ei : i = k
    · simp only [if_pos ei] at h0 e
      have := hl.rng j A hj h0 e
      omega
    · simp only [if_neg ei] at h0 e
      have := h.rng i j A (by omega) hj h0 e
      have := hb.size
      omega
  · by_cases ei : i = k
    · simp only [if_pos ei] at h0 e
      have q1 := hl.rng j A hj h0 e
      by_cases ei' : i' = k
      · simp only [if_pos ei'] at h0' e'
        exact ⟨by omega, hl.inj j j' A A' hj hj' h0 h0' e e' eb⟩
      · simp only [if_neg ei'] at h0' e'
        have q2 := h.rng i' j' A' (by omega) hj' h0' e'
        omega
    · simp only [if_neg ei] at h0 e
      have q1 := h.rng i j A (by omega) hj h0 e
      by_cases ei' : i' = k
      · simp only [if_pos ei'] at h0' e'
        have q2 := hl.rng j' A' hj' h0' e'
        omega
      · simp only [if_neg ei'] at h0' e'
        exact h.inj i i' j j' A A' (by omega) (by omega) hj hj' h0 h0' e e' eb
theorem LsT.congr {w : World} {lo k : Nat} {F G : Nat → Nd} {Y : Nat → Na} (h : LsT w lo F Y k) (hg : ∀ i, i < k → F i = G i) : LsT w lo G Y k :=
  ⟨fun i hi => by rw [← hg i hi]; exact h.own i hi, fun i j A hi hj h0 e => h.rng i j A hi hj (by rw [hg i hi]; exact h0) e, fun i i' j j' A A' hi hi' hj hj' h0 h0' e e' eb => h.inj i i' j j' A A' hi hi' hj hj' (by rw [hg i hi]; exact h0) (by rw [hg i' hi']; exact h0') e e' eb⟩
theorem NdOwn.setB {w : World} {x : Nd} {y : Na} {Z o : Nat} {v : Value} (h : NdOwn w x y) (hne : ∀ j A, j < 5 → 0 < lnAt x j → laAt y j = some A → A.block ≠ Z) : NdOwn (w.setCell ⟨Z, o, none⟩ v) x y :=
  h.keepS butS_set (fun j hj h0 A A2 e e2 => by cases e; exact fun e3 => hne j A2 hj h0 e2 e3.symm)
theorem LsT.set {w : World} {lo k Z o : Nat} {F : Nat → Nd} {Y : Nat → Na} {v : Value} (h : LsT w lo F Y k) (hz : Z < lo) : LsT (w.setCell ⟨Z, o, none⟩ v) lo F Y k :=
  ⟨fun i hi => (h.own i hi).setB (fun j A hj h0 e => by have := h.rng i j A hi hj h0 e; omega), fun i j A hi hj h0 e => by have := h.rng i j A hi hj h0 e; simpa using this, h.inj⟩
theorem LsT.sets {lo k Z : Nat} {F : Nat → Nd} {Y : Nat → Na} {w : World} (h : LsT w lo F Y k) (hz : Z < lo) : ∀ (vs : List Value) (o : Nat), LsT (w.setCells Z o vs) lo F Y k := by
  intro vs
  induction vs generalizing w with
  | nil => intro o; exact h
  | cons v r ih => intro o; rw [World.setCells]; exact ih (h.set hz) (o + 1)
/-- A row of nodes and their lists behind it. -/
structure OwnTa (w : World) (B : Nat) (F : Nat → Nd) (Y : Nat → Na) (n : Nat) : Prop where
  lt : B < w.heap.size
  row : NRow w B F Y n
  ls : LsT w (B + 1) F Y n
theorem OwnTa.set {w : World} {B n Z o : Nat} {F : Nat → Nd} {Y : Nat → Na} {v : Value} (h : OwnTa w B F Y n) (hz : Z < B) : OwnTa (w.setCell ⟨Z, o, none⟩ v) B F Y n := ⟨by simpa using h.lt, h.row.other (by omega), h.ls.set (by omega)⟩
theorem OwnTa.ownT {w : World} {B n : Nat} {F : Nat → Nd} {Y : Nat → Na} (h : OwnTa w B F Y n) : OwnT w B w.heap.size B F Y n :=
  ⟨h.lt, ⟨Nat.le_refl _, h.lt⟩, h.row, h.ls.own, fun i j A hi hj h0 e => by have := h.ls.rng i j A hi hj h0 e; omega, h.ls.inj⟩
end Go.Proofs.YtgodbelcddgdmaaGreat
