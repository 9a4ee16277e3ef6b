/- Laid together: AclMark, DefaultNfsLaw. -/
import Derived.Test.YtfhhaencigmpoaaDoorDf30
import Derived.Test.YtfhhaencigmpoaaDoorDf29
import Derived.Test.YtfhhaencigmpoaaDoorDf10
import Derived.Deep.RegionWith
import Derived.BigRegion
import Derived.Deep.RegionHeld3
/- laws.markNamedS, heldNamedS, markAcl, heldAcl: a list is written over, and read again. -/
namespace Go.Proofs.YtfhhaencigmpoaaDoor
open Go.RowKit Go.PlainAid
set_option linter.unusedVariables false
/-- What mark writes. -/
def marks (k : Int) (n : Nat) : List (Int × Int) := (List.range n).map fun (i : Nat) => (k + 2 * (i : Int), k + 2 * (i : Int) + 1)
theorem marks_len (k : Int) (n : Nat) : (marks k n).length = n := by simp [marks]
theorem marks_id (k : Int) (n i : Nat) (h : i < n) : idAt (marks k n) i = k + 2 * i := idAt_map _ n i h
theorem marks_bt (k : Int) (n i : Nat) (h : i < n) : btAt (marks k n) i = k + 2 * i + 1 := btAt_map _ n i h
/-- The world is as it was, but for the cells of one block. -/
structure But (a : Option Addr) (w w' : World) : Prop where
  size : w'.heap.size = w.heap.size
  below : ∀ c, (∀ A, a = some A → c ≤ A.block) → Below c w w'
  cell : ∀ b o, (∀ A, a = some A → b ≠ A.block) → w'.cell? ⟨b, o, none⟩ = w.cell? ⟨b, o, none⟩ ∧ w'.frozen? ⟨b, o, none⟩ = w.frozen? ⟨b, o, none⟩
theorem But.refl (a : Option Addr) (w : World) : But a w w := ⟨rfl, fun _ _ => Below.refl _ _, fun _ _ _ => ⟨rfl, rfl⟩⟩
theorem But.set {B o : Nat} {w w' : World} {v : Value} (h : But (some ⟨B, 0, none⟩) w w') : But (some ⟨B, 0, none⟩) w (w'.setCell ⟨B, o, none⟩ v) := by
  refine ⟨by simpa using h.size, fun c hc => bl_setN (h.below c hc) (hc _ rfl), fun b o2 hb => ?_⟩
  have h1 := h.cell b o2 hb
  rw [World.frozen?_setCell, ← h1.1]
  exact ⟨World.cell?_setCell_other _ _ _ _ (by intro h; have h2 := congrArg Addr.block h; exact hb _ rfl (by simpa using h2.symm)), h1.2⟩
theorem But.own {a a2 : Option Addr} {len : Nat} {l : List (Int × Int)} {w w' : World} (h : But a w w') (ho : Own a2 len l w) (hne : ∀ A A2, a = some A → a2 = some A2 → A.block ≠ A2.block) : Own a2 len l w' := by
  refine ⟨ho.1, fun h0 => ?_⟩
  obtain ⟨B, ha, hlt, hp⟩ := ho.2 h0
  refine ⟨B, ha, by rw [h.size]; exact hlt, fun i hi => ?_⟩
  have hb : ∀ A, a = some A → B ≠ A.block := fun A e => fun e2 => hne A _ e ha (by simpa using e2.symm)
  have h0 := h.cell B (i * 2) hb
  have h1 := h.cell B (i * 2 + 1) hb
  rw [h0.1, h0.2, h1.1, h1.2]
  exact hp i hi
set_option maxHeartbeats 2000000 in
theorem markNamedS_none (a : Option Addr) (cap : Nat) (k : Int) (w : World) :
    Calls Tryd.prog 44 #[.slice a 0 cap, .int .i64 k] w fun e w' => e = .returned (.int .i64 k) ∧ w' = w := by
  go_enter Tryd.func44, Tryd.ntmps44
  go_wp2
  go_rounds 1
  go_ret
  exact ⟨rfl, rfl⟩
set_option maxHeartbeats 2000000 in
theorem markNamedS_some (B len cap : Nat) (k : Int) (F0 G0 : Nat → Int) (h0 : 0 ≤ k) (h1 : k ≤ 1000000000) (hl : len ≤ 1048576) (w : World) (hp : PHold w B F0 G0 len) :
    Calls Tryd.prog 44 #[.slice (some ⟨B, 0, none⟩) len cap, .int .i64 k] w fun e w' => e = .returned (.int .i64 (k + 2 * len)) ∧ PHold w' B (fun i => k + 2 * i) (fun i => k + 2 * i + 1) len ∧ But (some ⟨B, 0, none⟩) w w' := by
  have HP : Hid (PHold w B F0 G0 len) := hp
  clear hp
  go_enter Tryd.func44, Tryd.ntmps44
  go_wp2
  go_loopw [5, 1] (fun i q wr => ∃ (j : Nat) (F G : Nat → Int), j ≤ len ∧ i = .int .i64 j ∧ q = .int .i64 (k + 2 * j) ∧ Hid (PHold wr B F G len) ∧ Hid (∀ t, t < j → F t = k + 2 * t ∧ G t = k + 2 * t + 1) ∧ Hid (But (some ⟨B, 0, none⟩) w wr)) (fun i _ _ => len - (intOf i).toNat)
  case atStart => exact ⟨0, F0, G0, Nat.zero_le _, rfl, by simp, HP, fun t ht => absurd ht (by omega), But.refl _ _⟩
  case round =>
    obtain ⟨j, F, G, hj, rfl, rfl, hH, hg, hB⟩ := hrel
    by_cases hlt : j < len
    · have hlt' : (j : Int) < (len : Int) := by omega
      have q := hH.out j hlt
      have g2 := q.1.1
      have g3 := q.1.2
      have g4 := q.2.1
      have g5 := q.2.2
      have hH2 : Hid (PHold ((wr.setCell ⟨B, j * 2, none⟩ (.int .i64 (k + 2 * j))).setCell ⟨B, j * 2 + 1, none⟩ (.int .i64 (k + 2 * j + 1))) B (fun i => if i = j then k + 2 * j else F i) (fun i => if i = j then k + 2 * j + 1 else G i) len) := (hH.out.set0 j hlt _).set1 j hlt _
      have hg2 : Hid (∀ t, t < j + 1 → (fun i => if i = j then k + 2 * j else F i) t = k + 2 * t ∧ (fun i => if i = j then k + 2 * j + 1 else G i) t = k + 2 * t + 1) := (fun t ht => by
        show (if t = j then k + 2 * j else F t) = k + 2 * t ∧ (if t = j then k + 2 * j + 1 else G t) = k + 2 * t + 1
        by_cases e : t = j
        · rw [if_pos e, if_pos e, e]; exact ⟨rfl, rfl⟩
        · rw [if_neg e, if_neg e]; exact hg.out t (by omega))
      have hB2 : Hid (But (some ⟨B, 0, none⟩) w ((wr.setCell ⟨B, j * 2, none⟩ (.int .i64 (k + 2 * j))).setCell ⟨B, j * 2 + 1, none⟩ (.int .i64 (k + 2 * j + 1)))) := hB.out.set.set
      clear q hH hg hB
      go_wp2
      go_roundw
      case rel => exact ⟨j + 1, _, _, by omega, by go_num, by go_num, hH2, hg2, hB2⟩
      case measure => simp [intOf]; omega
    · have : j = len := by omega
      subst this
      go_wp2
      go_ret
      refine ⟨rfl, fun i hi => ?_, hB.out⟩
      have h1 := hH.out i hi
      rw [(hg.out i hi).1, (hg.out i hi).2] at h1
      exact h1
/-- laws.markNamedS. -/
theorem markNamedS_any (a : Option Addr) (len cap : Nat) (k : Int) (l : List (Int × Int)) (h0 : 0 ≤ k) (h1 : k ≤ 1000000000) (hl : len ≤ 1048576) (w : World) (ho : Own a len l w) :
    Calls Tryd.prog 44 #[.slice a len cap, .int .i64 k] w fun e w' => e = .returned (.int .i64 (k + 2 * len)) ∧ Own a len (marks k len) w' ∧ But a w w' := by
  by_cases hz : len = 0
  · subst hz
    refine (markNamedS_none a cap k w).mono ?_
    rintro e w' ⟨rfl, rfl⟩
    exact ⟨by simp, ⟨marks_len _ _, fun h => absurd h (by omega)⟩, But.refl _ _⟩
  · obtain ⟨B, rfl, hlt, hp⟩ := ho.2 (by omega)
    refine (markNamedS_some B len cap k _ _ h0 h1 hl w hp).mono ?_
    rintro e w' ⟨rfl, hp2, hb⟩
    refine ⟨rfl, ⟨marks_len _ _, fun _ => ⟨B, rfl, by rw [hb.size]; exact hlt, fun i hi => ?_⟩⟩, hb⟩
    rw [marks_id k len i hi, marks_bt k len i hi]
    exact hp2 i hi
set_option maxHeartbeats 2000000 in
theorem heldNamedS_none (a : Option Addr) (cap : Nat) (k : Int) (w : World) :
    Calls Tryd.prog 89 #[.slice a 0 cap, .int .i64 k] w fun e w' => e = .returned (.int .i64 k) ∧ w' = w := by
  go_enter Tryd.func89, Tryd.ntmps89
  go_wp2
  go_rounds 1
  go_ret
  exact ⟨rfl, rfl⟩
set_option maxHeartbeats 2000000 in
theorem heldNamedS_some (B len cap : Nat) (k : Int) (h0 : 0 ≤ k) (h1 : k ≤ 1000000000) (hl : len ≤ 1048576) (w : World) (hc : ∀ i, i < len → w.cell? ⟨B, i * 2, none⟩ = some (.int .i64 (k + 2 * i)) ∧ w.cell? ⟨B, i * 2 + 1, none⟩ = some (.int .i64 (k + 2 * i + 1))) :
    Calls Tryd.prog 89 #[.slice (some ⟨B, 0, none⟩) len cap, .int .i64 k] w fun e w' => e = .returned (.int .i64 (k + 2 * len)) ∧ w' = w := by
  have HC : Hid (∀ i, i < len → w.cell? ⟨B, i * 2, none⟩ = some (.int .i64 (k + 2 * i)) ∧ w.cell? ⟨B, i * 2 + 1, none⟩ = some (.int .i64 (k + 2 * i + 1))) := hc
  clear hc
  go_enter Tryd.func89, Tryd.ntmps89
  go_wp2
  go_loop [5, 1] (fun i q => ∃ (j : Nat), j ≤ len ∧ i = .int .i64 j ∧ q = .int .i64 (k + 2 * j)) (fun i _ => len - (intOf i).toNat)
  case atStart => exact ⟨0, Nat.zero_le _, rfl, by simp⟩
  case round =>
    obtain ⟨j, hj, rfl, rfl⟩ := hrel
    by_cases hlt : j < len
    · have hlt' : (j : Int) < (len : Int) := by omega
      obtain ⟨g0, g1⟩ := HC.out j hlt
      go_wp2
      go_round
      case rel => exact ⟨j + 1, by omega, by go_num, by go_num⟩
      case measure => simp [intOf]; omega
    · have : j = len := by omega
      subst this
      go_wp2
      go_ret
      exact ⟨rfl, rfl⟩
/-- laws.heldNamedS of what mark wrote. -/
theorem heldNamedS_any (a : Option Addr) (len cap : Nat) (k : Int) (h0 : 0 ≤ k) (h1 : k ≤ 1000000000) (hl : len ≤ 1048576) (w : World) (ho : Own a len (marks k len) w) :
    Calls Tryd.prog 89 #[.slice a len cap, .int .i64 k] w fun e w' => e = .returned (.int .i64 (k + 2 * len)) ∧ w' = w := by
  by_cases hz : len = 0
  · subst hz
    refine (heldNamedS_none a cap k w).mono ?_
    rintro e w' ⟨rfl, rfl⟩
    exact ⟨by simp, rfl⟩
  · obtain ⟨B, rfl, hlt, hp⟩ := ho.2 (by omega)
    refine heldNamedS_some B len cap k h0 h1 hl w fun i hi => ?_
    have h2 := (hp i hi).1
    rw [marks_id k len i hi, marks_bt k len i hi] at h2
    exact h2
/-- The world is as it was, but for the cells of two blocks, and for what is new. -/
structure But2 (a a2 : Option Addr) (w w' : World) : Prop where
  size : w.heap.size ≤ w'.heap.size
  below : ∀ c, c ≤ w.heap.size → (∀ A, a = some A → c ≤ A.block) → (∀ A, a2 = some A → c ≤ A.block) → Below c w w'
  cell : ∀ b o, b < w.heap.size → (∀ A, a = some A → b ≠ A.block) → (∀ A, a2 = some A → b ≠ A.block) → w'.cell? ⟨b, o, none⟩ = w.cell? ⟨b, o, none⟩ ∧ w'.frozen? ⟨b, o, none⟩ = w.frozen? ⟨b, o, none⟩
theorem But2.own {a a2 a3 : Option Addr} {len : Nat} {l : List (Int × Int)} {w w' : World} (h : But2 a a2 w w') (ho : Own a3 len l w) (hne : ∀ A A2, a = some A → a3 = some A2 → A.block ≠ A2.block) (hne2 : ∀ A A2, a2 = some A → a3 = some A2 → A.block ≠ A2.block) : Own a3 len l w' := by
  refine ⟨ho.1, fun h0 => ?_⟩
  obtain ⟨B, ha, hlt, hp⟩ := ho.2 h0
  refine ⟨B, ha, Nat.lt_of_lt_of_le hlt h.size, fun i hi => ?_⟩
  have hb : ∀ A, a = some A → B ≠ A.block := fun A e => fun e2 => hne A _ e ha (by simpa using e2.symm)
  have hb2 : ∀ A, a2 = some A → B ≠ A.block := fun A e => fun e2 => hne2 A _ e ha (by simpa using e2.symm)
  have h0 := h.cell B (i * 2) hlt hb hb2
  have h1 := h.cell B (i * 2 + 1) hlt hb hb2
  rw [h0.1, h0.2, h1.1, h1.2]
  exact hp i hi
theorem But2.prs {a a2 a3 : Option Addr} {len : Nat} {l : List (Int × Int)} {w w' : World} (h : But2 a a2 w w') (ho : Prs a3 len l w) (hne : ∀ A A2, a = some A → a3 = some A2 → A.block ≠ A2.block) (hne2 : ∀ A A2, a2 = some A → a3 = some A2 → A.block ≠ A2.block) : Prs a3 len l w' := by
  refine ⟨ho.1, fun h0 => ?_⟩
  obtain ⟨B, off, ha, hlt, hp⟩ := ho.2 h0
  refine ⟨B, off, ha, Nat.lt_of_lt_of_le hlt h.size, fun i hi => ?_⟩
  have hb : ∀ A, a = some A → B ≠ A.block := fun A e => fun e2 => hne A _ e ha (by simpa using e2.symm)
  have hb2 : ∀ A, a2 = some A → B ≠ A.block := fun A e => fun e2 => hne2 A _ e ha (by simpa using e2.symm)
  rw [(h.cell B (off + i * 2) hlt hb hb2).1, (h.cell B (off + i * 2 + 1) hlt hb hb2).1]
  exact hp i hi
/-- Where a list lies: nowhere, or in a block of the world. -/
def InW (a : Option Addr) (len : Nat) (w : World) : Prop := ∀ A, a = some A → A.block < w.heap.size
set_option maxHeartbeats 2000000 in
/-- laws.markAcl. -/
theorem markAcl_any (u g o : Int) (au : Option Addr) (lu cu : Nat) (ag : Option Addr) (lg cg : Nat) (r : Bool) (m : Int) (us gs : List (Int × Int)) (k : Int) (h0 : 0 ≤ k) (h1 : k ≤ 100000000) (hl : lu ≤ 1048576) (hl2 : lg ≤ 1048576) (w : World)
    (hu : Own au lu us w) (hg : Own ag lg gs w) (iu : ∀ A, au = some A → A.block < w.heap.size) (ig : ∀ A, ag = some A → A.block < w.heap.size) (hne : ∀ A A2, au = some A → ag = some A2 → A.block ≠ A2.block) :
    Calls Tryd.prog 13 #[.agg #[.int .i64 u, .int .i64 g, .int .i64 o, .slice au lu cu, .slice ag lg cg, .bool r, .int .i64 m], .int .i64 k] w fun e w' => e = .returned (.int .i64 (k + 2 * lu + 2 * lg)) ∧ Own au lu (marks k lu) w' ∧ Own ag lg (marks (k + 2 * lu) lg) w' ∧ But2 au ag w w' := by
  have HU : Hid (Own au lu us w) := hu
  have HG : Hid (Own ag lg gs w) := hg
  have HN : Hid (∀ A A2, au = some A → ag = some A2 → A.block ≠ A2.block) := hne
  have IU : Hid (∀ A, au = some A → A.block < w.heap.size) := iu
  have IG : Hid (∀ A, ag = some A → A.block < w.heap.size) := ig
  clear hu hg hne iu ig
  go_enter Tryd.func13, Tryd.ntmps13
  go_wp2_with fail
  have hB0 : Below w.heap.size w (w.alloc (.cells #[.int .i64 u, .int .i64 g, .int .i64 o, .slice au lu cu, .slice ag lg cg, .bool r, .int .i64 m] 30)) := (Below.refl _ _).alloc (Nat.le_refl _) _
  refine (markNamedS_any au lu cu k us h0 (by omega) hl _ (HU.out.below hB0)).mono ?_
  rintro e w1 ⟨rfl, ho1, hb1⟩
  have c4 : w1.cell? ⟨w.heap.size, 4, none⟩ = some (.slice ag lg cg) := by
    rw [(hb1.cell w.heap.size 4 (fun A e => by have := IU.out A e; omega)).1]
    simp
  have hg1 : Own ag lg gs w1 := hb1.own (HG.out.below hB0) HN.out
  have hz1 : w1.heap.size = w.heap.size + 1 := by rw [hb1.size]; simp
  go_wp2_with fail
  refine (markNamedS_any ag lg cg (k + 2 * lu) gs (by omega) (by omega) hl2 _ hg1).mono ?_
  rintro e w2 ⟨rfl, ho2, hb2⟩
  have hu2 : Own au lu (marks k lu) w2 := hb2.own ho1 (fun A A2 e e2 => fun h => HN.out A2 A e2 e h.symm)
  have hz2 : w2.heap.size = w.heap.size + 1 := by rw [hb2.size, hz1]
  have hB : But2 au ag w w2 := by
    refine ⟨by omega, fun c hc h1 h2 => ?_, fun b o hlt h1 h2 => ?_⟩
    · exact (hB0.mono hc).trans ((hb1.below c h1).trans (hb2.below c h2))
    · have e1 := hb1.cell b o h1
      have e2 := hb2.cell b o h2
      rw [e2.1, e2.2, e1.1, e1.2]
      exact ⟨hB0.cell (p := ⟨b, o, none⟩) hlt, hB0.frozen (p := ⟨b, o, none⟩) hlt⟩
  have R : Hid (Own au lu (marks k lu) w2 ∧ Own ag lg (marks (k + 2 * lu) lg) w2 ∧ But2 au ag w w2) := ⟨hu2, ho2, hB⟩
  clear hu2 ho2 hB hb2 hb1 ho1 hg1 hB0
  go_wp2
  go_ret
  exact ⟨rfl, R.out⟩
set_option maxHeartbeats 2000000 in
/-- laws.heldAcl of what mark wrote. -/
theorem heldAcl_any (u g o : Int) (au : Option Addr) (lu cu : Nat) (ag : Option Addr) (lg cg : Nat) (r : Bool) (m : Int) (k : Int) (h0 : 0 ≤ k) (h1 : k ≤ 100000000) (hl : lu ≤ 1048576) (hl2 : lg ≤ 1048576) (w : World)
    (hu : Own au lu (marks k lu) w) (hg : Own ag lg (marks (k + 2 * lu) lg) w) :
    Calls Tryd.prog 56 #[.agg #[.int .i64 u, .int .i64 g, .int .i64 o, .slice au lu cu, .slice ag lg cg, .bool r, .int .i64 m], .int .i64 k] w fun e w' => e = .returned (.int .i64 (k + 2 * lu + 2 * lg)) ∧ Below w.heap.size w w' := by
  have d1 : decide (k + 2 * (lu : Int) < 0) = false := by simp; omega
  have d2 : decide (k + 2 * (lu : Int) + 2 * (lg : Int) < 0) = false := by simp; omega
  have hB0 : Hid (Below w.heap.size w (w.alloc (.cells #[.int .i64 u, .int .i64 g, .int .i64 o, .slice au lu cu, .slice ag lg cg, .bool r, .int .i64 m] 30))) := (Below.refl _ _).alloc (Nat.le_refl _) _
  have hc : Hid (Calls Tryd.prog 89 #[.slice au lu cu, .int .i64 k] (w.alloc (.cells #[.int .i64 u, .int .i64 g, .int .i64 o, .slice au lu cu, .slice ag lg cg, .bool r, .int .i64 m] 30)) fun e w' => e = .returned (.int .i64 (k + 2 * lu)) ∧ w' = (w.alloc (.cells #[.int .i64 u, .int .i64 g, .int .i64 o, .slice au lu cu, .slice ag lg cg, .bool r, .int .i64 m] 30))) := heldNamedS_any au lu cu k h0 (by omega) hl _ (hu.below hB0.out)
  have hd : Hid (Calls Tryd.prog 89 #[.slice ag lg cg, .int .i64 (k + 2 * lu)] (w.alloc (.cells #[.int .i64 u, .int .i64 g, .int .i64 o, .slice au lu cu, .slice ag lg cg, .bool r, .int .i64 m] 30)) fun e w' => e = .returned (.int .i64 (k + 2 * lu + 2 * lg)) ∧ w' = (w.alloc (.cells #[.int .i64 u, .int .i64 g, .int .i64 o, .slice au lu cu, .slice ag lg cg, .bool r, .int .i64 m] 30))) := heldNamedS_any ag lg cg (k + 2 * lu) (by omega) (by omega) hl2 _ (hg.below hB0.out)
  clear hu hg
  go_enter Tryd.func56, Tryd.ntmps56
  go_wp2_with fail
  refine hc.out.mono ?_
  rintro e w1 ⟨rfl, rfl⟩
  go_wp2_with fail
  refine hd.out.mono ?_
  rintro e w1 ⟨rfl, rfl⟩
  go_wp2
  go_ret
  exact ⟨rfl, hB0.out⟩
end Go.Proofs.YtfhhaencigmpoaaDoor
/- The law FnExactDefaultNfs, of a list of names that is not too long, and of one that is. -/
namespace Go.Proofs.YtfhhaencigmpoaaDoor
open Go.RowKit Go.PlainAid Go.Deep
set_option linter.unusedVariables false
theorem But2.ownA {a a2 a3 : Option Addr} {len : Nat} {l : List Ac} {w w' : World} (h : But2 a a2 w w') (ho : OwnA a3 len l w) (hne : ∀ A A2, a = some A → a3 = some A2 → A.block ≠ A2.block) (hne2 : ∀ A A2, a2 = some A → a3 = some A2 → A.block ≠ A2.block) : OwnA a3 len l w' := by
  refine ⟨ho.1, fun h0 => ?_⟩
  obtain ⟨B, ha, hlt, hp⟩ := ho.2 h0
  refine ⟨B, ha, Nat.lt_of_lt_of_le hlt h.size, fun i hi => ?_⟩
  have hb : ∀ A, a = some A → B ≠ A.block := fun A e => fun e2 => hne A _ e ha (by simpa using e2.symm)
  have hb2 : ∀ A, a2 = some A → B ≠ A.block := fun A e => fun e2 => hne2 A _ e ha (by simpa using e2.symm)
  exact ⟨(hp i hi).1.keep (fun j => (h.cell B j hlt hb hb2).1), (hp i hi).2.keep (fun j => (h.cell B j hlt hb hb2).2)⟩
set_option maxHeartbeats 2000000 in
theorem defaultNfs_long (u g o : Int) (au : Option Addr) (lu cu : Nat) (ag : Option Addr) (lg cg : Nat) (r : Bool) (m : Int) (hl : ¬ (lu + lg ≤ 1048576)) (hm : lu ≤ 9223372036854775807) (hm2 : lg ≤ 9223372036854775807) (w : World) :
    Calls Tryd.prog 4 #[.agg #[.int .i64 u, .int .i64 g, .int .i64 o, .slice au lu cu, .slice ag lg cg, .bool r, .int .i64 m]] w fun e w' => e = .returned (.bool true) ∧ Below w.heap.size w w' := by
  have hc : Hid (∀ w, Calls Tryd.prog 7 #[.agg #[.int .i64 u, .int .i64 g, .int .i64 o, .slice au lu cu, .slice ag lg cg, .bool r, .int .i64 m], .int .i64 1048576] w fun e w' => e = .returned (.int .i64 (-1)) ∧ Below w.heap.size w w') := (by
    intro w
    have := szAcl_any u g o au lu cu ag lg cg r m 1048576 (by omega) (by omega) hm hm2 w
    rw [szB_neg hl] at this
    exact this)
  clear hl hm hm2
  go_enter Tryd.func4, Tryd.ntmps4
  go_wp2_with (go_at_call 7; refine (hc.out _).mono ?_; rintro e w1 ⟨rfl, hb1⟩)
  go_ret
  exact ⟨rfl, Below.on (bel_alloc _ _) hb1⟩
set_option maxRecDepth 100000 in
set_option maxHeartbeats 8000000 in
theorem defaultNfs_short (u g o : Int) (au : Option Addr) (cu : Nat) (ag : Option Addr) (cg : Nat) (r : Bool) (m : Int) (us gs : List (Int × Int)) (hl : us.length + gs.length ≤ 1048576) (w : World) (hp : PlW w) (hu : Prs au us.length us w) (hg : Prs ag gs.length gs w) :
    Calls Tryd.prog 4 #[.agg #[.int .i64 u, .int .i64 g, .int .i64 o, .slice au us.length cu, .slice ag gs.length cg, .bool r, .int .i64 m]] w fun e w' => e = .returned (.bool true) ∧ Below w.heap.size w w' := by
  have hl1 : us.length ≤ 1048576 := by omega
  have hl2 : gs.length ≤ 1048576 := by omega
  have hz : Hid (∀ w, Calls Tryd.prog 7 #[.agg #[.int .i64 u, .int .i64 g, .int .i64 o, .slice au us.length cu, .slice ag gs.length cg, .bool r, .int .i64 m], .int .i64 1048576] w fun e w' => e = .returned (.int .i64 (1048576 - us.length - gs.length)) ∧ Below w.heap.size w w') := (by
    intro w
    have := szAcl_any u g o au us.length cu ag gs.length cg r m 1048576 (by omega) (by omega) (by omega) (by omega) w
    rw [szB_pos hl] at this
    exact this)
  have ht : Hid (∀ w', Below w.heap.size w w' → Calls Tryd.prog 9 #[.agg #[.int .i64 u, .int .i64 g, .int .i64 o, .slice au us.length cu, .slice ag gs.length cg, .bool r, .int .i64 m]] w' fun e w'' => ∃ B1 B2, e = .returned (.agg #[.int .i64 u, .int .i64 g, .int .i64 o, .slice (some ⟨B1, 0, none⟩) us.length us.length, .slice (some ⟨B2, 0, none⟩) gs.length gs.length, .bool r, .int .i64 m]) ∧
      Own (some ⟨B1, 0, none⟩) us.length us w'' ∧ Own (some ⟨B2, 0, none⟩) gs.length gs w'' ∧ w'.heap.size ≤ B1 ∧ B1 < B2 ∧ B2 < w''.heap.size ∧ Below w'.heap.size w' w'') := (fun w' hb => toAcl_any u g o au us.length cu ag gs.length cg r m us gs hl1 hl2 w' (hu.below hb) (hg.below hb))
  have HL : Hid (us.length ≤ 1048576 ∧ gs.length ≤ 1048576) := ⟨hl1, hl2⟩
  have hx : (dfN ⟨u, g, o, us, gs, r, m⟩).length ≤ 50 := dfN_len _
  have hS : Hid (∀ w' B1 B2, Own (some ⟨B1, 0, none⟩) us.length us w' → Own (some ⟨B2, 0, none⟩) gs.length gs w' → Calls Tryd.prog 16 #[.agg #[.int .i64 u, .int .i64 g, .int .i64 o, .slice (some ⟨B1, 0, none⟩) us.length us.length, .slice (some ⟨B2, 0, none⟩) gs.length gs.length, .bool r, .int .i64 m]] w' (AnsL (dfN ⟨u, g, o, us, gs, r, m⟩) w')) := (fun w' B1 B2 h1 h2 => sDefaultNfs_ans ⟨u, g, o, us, gs, r, m⟩ _ us.length _ gs.length hl1 hl2 w' h1.prs h2.prs)
  have hI : Hid (∀ w' B1 B2, Below w.heap.size w w' → Own (some ⟨B1, 0, none⟩) us.length us w' → Own (some ⟨B2, 0, none⟩) gs.length gs w' → Calls Tryd.prog 17 #[.agg #[.int .i64 u, .int .i64 g, .int .i64 o, .slice (some ⟨B1, 0, none⟩) us.length us.length, .slice (some ⟨B2, 0, none⟩) gs.length gs.length, .bool r, .int .i64 m]] w' (AnsL (dfN ⟨u, g, o, us, gs, r, m⟩) w')) := (fun w' B1 B2 hb h1 h2 => iDefaultNfs_any ⟨u, g, o, us, gs, r, m⟩ _ us.length _ gs.length w' (hp.below hb) h1.prs h2.prs)
  generalize dfN ⟨u, g, o, us, gs, r, m⟩ = xs at hS hI hx
  have HX : Hid (xs.length ≤ 1048576) := (by show xs.length ≤ 1048576; omega)
  have d1 : decide (1048576 - (us.length : Int) - (gs.length : Int) < 0) = false := by simp; omega
  have dk : decide (1 + 2 * (us.length : Int) + 2 * (gs.length : Int) < 0) = false := by simp; omega
  have dx : decide (1 + 5 * (xs.length : Int) < 0) = false := by simp; omega
  clear hu hg hl hl1 hl2 hx hp
  have hX0 := box7_new w (.int .i64 u) (.int .i64 g) (.int .i64 o) (.slice au us.length cu) (.slice ag gs.length cg) (.bool r) (.int .i64 m) 24
  have hB0 : Hid (Below w.heap.size w (w.alloc (.cells #[.int .i64 u, .int .i64 g, .int .i64 o, .slice au us.length cu, .slice ag gs.length cg, .bool r, .int .i64 m] 24))) := bel_alloc _ _
  go_enter Tryd.func4, Tryd.ntmps4
  go_wp2_with fail
  refine (hz.out _).mono ?_
  rintro e w1 ⟨rfl, hb1⟩
  have HX1 : Hid (Box7 w1 w.heap.size (.int .i64 u) (.int .i64 g) (.int .i64 o) (.slice au us.length cu) (.slice ag gs.length cg) (.bool r) (.int .i64 m)) := hX0.below hb1
  obtain ⟨xl, x0, x1, x2, x3, x4, x5, x6⟩ := HX1.out
  have hW1 : Hid (Below w.heap.size w w1) := Below.on hB0.out hb1
  clear hb1 hX0
  go_wp2_with fail
  refine (ht.out _ hW1.out).mono ?_
  rintro e w2 ⟨B1, B2, rfl, hU, hG, _, _, _, hb2⟩
  have HX2 : Hid (Box7 w2 w.heap.size (.int .i64 u) (.int .i64 g) (.int .i64 o) (.slice au us.length cu) (.slice ag gs.length cg) (.bool r) (.int .i64 m)) := HX1.out.below hb2
  have hW2 : Hid (Below w.heap.size w w2) := Below.on hW1.out hb2
  clear hb2 xl x0 x1 x2 x3 x4 x5 x6 hW1 HX1
  go_wp2_with fail
  refine (hS.out _ B1 B2 hU hG).mono ?_
  intro e w3 hA
  obtain ⟨a1, c1, rfl, hN⟩ := hA.out
  have hW3 : Hid (Below w.heap.size w w3) := Below.on hW2.out hN.bel
  have HX3 : Hid (Box7 w3 w.heap.size (.int .i64 u) (.int .i64 g) (.int .i64 o) (.slice au us.length cu) (.slice ag gs.length cg) (.bool r) (.int .i64 m)) := HX2.out.below hN.bel
  have HS3 : Hid (OwnA a1 xs.length xs w3) := hN.own
  have IW : Hid (∀ A, a1 = some A → A.block < w3.heap.size) := (fun A e => (hN.inn A e).2)
  obtain ⟨xl, x0, x1, x2, x3, x4, x5, x6⟩ := HX3.out
  clear hA hN hU hG HX2 hW2
  go_wp2_with fail
  refine (ht.out _ hW3.out).mono ?_
  rintro e w4 ⟨B3, B4, rfl, hU, hG, hB3, hB34, hB4, hb4⟩
  clear xl x0 x1 x2 x3 x4 x5 x6
  have hb5 := bel_alloc w4 (.cells #[.int .i64 u, .int .i64 g, .int .i64 o, .slice (some ⟨B3, 0, none⟩) us.length us.length, .slice (some ⟨B4, 0, none⟩) gs.length gs.length, .bool r, .int .i64 m] 30)
  have HX5 : Hid (Box7 (w4.alloc (.cells #[.int .i64 u, .int .i64 g, .int .i64 o, .slice (some ⟨B3, 0, none⟩) us.length us.length, .slice (some ⟨B4, 0, none⟩) gs.length gs.length, .bool r, .int .i64 m] 30)) w.heap.size (.int .i64 u) (.int .i64 g) (.int .i64 o) (.slice au us.length cu) (.slice ag gs.length cg) (.bool r) (.int .i64 m)) := (HX3.out.below hb4).below hb5
  have HV5 : Hid (Box7 (w4.alloc (.cells #[.int .i64 u, .int .i64 g, .int .i64 o, .slice (some ⟨B3, 0, none⟩) us.length us.length, .slice (some ⟨B4, 0, none⟩) gs.length gs.length, .bool r, .int .i64 m] 30)) w4.heap.size (.int .i64 u) (.int .i64 g) (.int .i64 o) (.slice (some ⟨B3, 0, none⟩) us.length us.length) (.slice (some ⟨B4, 0, none⟩) gs.length gs.length) (.bool r) (.int .i64 m)) := box7_new w4 _ _ _ _ _ _ _ _
  have HS5 : Hid (OwnA a1 xs.length xs (w4.alloc (.cells #[.int .i64 u, .int .i64 g, .int .i64 o, .slice (some ⟨B3, 0, none⟩) us.length us.length, .slice (some ⟨B4, 0, none⟩) gs.length gs.length, .bool r, .int .i64 m] 30))) := (HS3.out.below hb4).below hb5
  have HU5 : Hid (Own (some ⟨B3, 0, none⟩) us.length us (w4.alloc (.cells #[.int .i64 u, .int .i64 g, .int .i64 o, .slice (some ⟨B3, 0, none⟩) us.length us.length, .slice (some ⟨B4, 0, none⟩) gs.length gs.length, .bool r, .int .i64 m] 30))) := hU.below hb5
  have HG5 : Hid (Own (some ⟨B4, 0, none⟩) gs.length gs (w4.alloc (.cells #[.int .i64 u, .int .i64 g, .int .i64 o, .slice (some ⟨B3, 0, none⟩) us.length us.length, .slice (some ⟨B4, 0, none⟩) gs.length gs.length, .bool r, .int .i64 m] 30))) := hG.below hb5
  have OX : Hid (w.heap.size < B3 ∧ B3 < B4 ∧ B4 < w4.heap.size) := ⟨Nat.lt_of_lt_of_le HX3.out.lt hB3, hB34, hB4⟩
  have IS : Hid (∀ A, a1 = some A → A.block < B3) := (fun A e => Nat.lt_of_lt_of_le (IW.out A e) hB3)
  have hW5 : Hid (Below w.heap.size w (w4.alloc (.cells #[.int .i64 u, .int .i64 g, .int .i64 o, .slice (some ⟨B3, 0, none⟩) us.length us.length, .slice (some ⟨B4, 0, none⟩) gs.length gs.length, .bool r, .int .i64 m] 30))) := Below.on (Below.on hW3.out hb4) hb5
  obtain ⟨xl, x0, x1, x2, x3, x4, x5, x6⟩ := HX3.out.below hb4
  clear hb4 hb5 HX3 HS3 hU hG hB3 hB34 hB4 hW3 IW
  go_wp2_with fail
  refine (hI.out _ B3 B4 hW5.out HU5.out HG5.out).mono ?_
  intro e w5 hA
  obtain ⟨b1, f1, rfl, hN⟩ := hA.out
  clear xl x0 x1 x2 x3 x4 x5 x6
  have HX6 : Hid (Box7 w5 w.heap.size (.int .i64 u) (.int .i64 g) (.int .i64 o) (.slice au us.length cu) (.slice ag gs.length cg) (.bool r) (.int .i64 m)) := HX5.out.below hN.bel
  have HV6 : Hid (Box7 w5 w4.heap.size (.int .i64 u) (.int .i64 g) (.int .i64 o) (.slice (some ⟨B3, 0, none⟩) us.length us.length) (.slice (some ⟨B4, 0, none⟩) gs.length gs.length) (.bool r) (.int .i64 m)) := HV5.out.below hN.bel
  have HS6 : Hid (OwnA a1 xs.length xs w5) := HS5.out.below hN.bel
  have HU6 : Hid (Own (some ⟨B3, 0, none⟩) us.length us w5) := HU5.out.below hN.bel
  have HG6 : Hid (Own (some ⟨B4, 0, none⟩) gs.length gs w5) := HG5.out.below hN.bel
  have HR6 : Hid (OwnA b1 xs.length xs w5) := hN.own
  have IG : Hid (∀ A, b1 = some A → w4.heap.size < A.block) := (fun A e => by have := (hN.inn A e).1; simp only [World.alloc, Array.size_push] at this; omega)
  have hW6 : Hid (Below w.heap.size w w5) := Below.on hW5.out hN.bel
  clear hA hN HX5 HV5 HS5 HU5 HG5 hW5
  generalize w4.heap.size = X2 at HV6 OX IG ⊢
  go_wp2_with fail
  refine (eqAceS_any _ _ xs.length _ _ xs HX.out _ HR6.out.acs HS6.out.acs).mono ?_
  rintro e w6 ⟨rfl, hb⟩
  have HX7 : Hid (Box7 w6 w.heap.size (.int .i64 u) (.int .i64 g) (.int .i64 o) (.slice au us.length cu) (.slice ag gs.length cg) (.bool r) (.int .i64 m)) := HX6.out.below hb
  have HV7 : Hid (Box7 w6 X2 (.int .i64 u) (.int .i64 g) (.int .i64 o) (.slice (some ⟨B3, 0, none⟩) us.length us.length) (.slice (some ⟨B4, 0, none⟩) gs.length gs.length) (.bool r) (.int .i64 m)) := HV6.out.below hb
  have HS7 : Hid (OwnA a1 xs.length xs w6) := HS6.out.below hb
  have HU7 : Hid (Own (some ⟨B3, 0, none⟩) us.length us w6) := HU6.out.below hb
  have HG7 : Hid (Own (some ⟨B4, 0, none⟩) gs.length gs w6) := HG6.out.below hb
  have HR7 : Hid (OwnA b1 xs.length xs w6) := HR6.out.below hb
  have hW7 : Hid (Below w.heap.size w w6) := Below.on hW6.out hb
  clear hb HX6 HV6 HS6 HU6 HG6 HR6 hW6
  obtain ⟨xl, x0, x1, x2, x3, x4, x5, x6⟩ := HX7.out
  obtain ⟨yl, y0, y1, y2, y3, y4, y5, y6⟩ := HV7.out
  go_wp2_with fail
  go_region_held3 (fun w' => w'.cell? ⟨w.heap.size, 0, none⟩ = some (.int .i64 u) ∧ w'.cell? ⟨w.heap.size, 1, none⟩ = some (.int .i64 g) ∧ w'.cell? ⟨w.heap.size, 2, none⟩ = some (.int .i64 o) ∧ w'.cell? ⟨w.heap.size, 3, none⟩ = some (.slice au us.length cu) ∧ w'.cell? ⟨w.heap.size, 4, none⟩ = some (.slice ag gs.length cg) ∧ w'.cell? ⟨w.heap.size, 5, none⟩ = some (.bool r) ∧ w'.cell? ⟨w.heap.size, 6, none⟩ = some (.int .i64 m) ∧ w'.cell? ⟨X2, 0, none⟩ = some (.int .i64 u) ∧ w'.cell? ⟨X2, 1, none⟩ = some (.int .i64 g) ∧ w'.cell? ⟨X2, 2, none⟩ = some (.int .i64 o) ∧ w'.cell? ⟨X2, 3, none⟩ = some (.slice (some ⟨B3, 0, none⟩) us.length us.length) ∧ w'.cell? ⟨X2, 4, none⟩ = some (.slice (some ⟨B4, 0, none⟩) gs.length gs.length) ∧ w'.cell? ⟨X2, 5, none⟩ = some (.bool r) ∧ w'.cell? ⟨X2, 6, none⟩ = some (.int .i64 m)) (go_keep)
    (first
      | (go_at_call 9; refine (ht.out _ (below_drewD hW7.out)).mono ?_; rintro e w7 ⟨B5, B6, rfl, hU, hG, _, _, _, hb7⟩; have hB7 : Hid (Below w6.heap.size w6 w7) := below_drewE hb7; obtain ⟨_, xa1, xb1, xc1, xd1, xe1, xf1, xg1⟩ := HX7.out.below hB7.out; obtain ⟨_, ya1, yb1, yc1, yd1, ye1, yf1, yg1⟩ := HV7.out.below hB7.out)
      | (go_at_call 12; refine (eqAcl_any u g o _ _ us.length us.length us.length _ _ gs.length gs.length gs.length r m us gs HL.out.1 HL.out.2 _ (HU7.out.below hB7.out).prs hU.prs (HG7.out.below hB7.out).prs hG.prs).mono ?_; rintro e w8 ⟨rfl, hb8⟩; have hB8 : Hid (Below w6.heap.size w6 w8) := Below.on hB7.out hb8; obtain ⟨_, xa2, xb2, xc2, xd2, xe2, xf2, xg2⟩ := HX7.out.below hB8.out; obtain ⟨_, ya2, yb2, yc2, yd2, ye2, yf2, yg2⟩ := HV7.out.below hB8.out))
  have HX9 : Hid (Box7 w8 w.heap.size (.int .i64 u) (.int .i64 g) (.int .i64 o) (.slice au us.length cu) (.slice ag gs.length cg) (.bool r) (.int .i64 m)) := HX7.out.below hB8.out
  have HV9 : Hid (Box7 w8 X2 (.int .i64 u) (.int .i64 g) (.int .i64 o) (.slice (some ⟨B3, 0, none⟩) us.length us.length) (.slice (some ⟨B4, 0, none⟩) gs.length gs.length) (.bool r) (.int .i64 m)) := HV7.out.below hB8.out
  have HS9 : Hid (OwnA a1 xs.length xs w8) := HS7.out.below hB8.out
  have HU9 : Hid (Own (some ⟨B3, 0, none⟩) us.length us w8) := HU7.out.below hB8.out
  have HG9 : Hid (Own (some ⟨B4, 0, none⟩) gs.length gs w8) := HG7.out.below hB8.out
  have HR9 : Hid (OwnA b1 xs.length xs w8) := HR7.out.below hB8.out
  have hW9 : Hid (Below w.heap.size w w8) := Below.on hW7.out hB8.out
  clear xl x0 x1 x2 x3 x4 x5 x6 yl y0 y1 y2 y3 y4 y5 y6 xa1 xb1 xc1 xd1 xe1 xf1 xg1 ya1 yb1 yc1 yd1 ye1 yf1 yg1 xa2 xb2 xc2 xd2 xe2 xf2 xg2 ya2 yb2 yc2 yd2 ye2 yf2 yg2 hb7 hb8 hB7 hB8 hU hG HX7 HV7 HS7 HU7 HG7 HR7 hW7
  obtain ⟨yl, y0, y1, y2, y3, y4, y5, y6⟩ := HV9.out
  go_wp2_with fail
  refine (markAcl_any u g o _ us.length us.length _ gs.length gs.length r m us gs 1 (by omega) (by omega) HL.out.1 HL.out.2 _ HU9.out HG9.out (fun A e => by cases e; have := OX.out; have h2 := HV9.out.lt; dsimp only; omega) (fun A e => by cases e; have := OX.out; have h2 := HV9.out.lt; dsimp only; omega) (fun A A2 e e2 => by cases e; cases e2; have := OX.out; dsimp only; omega)).mono ?_
  rintro e w9 ⟨rfl, _, _, hM⟩
  have HX10 : Hid (Box7 w9 w.heap.size (.int .i64 u) (.int .i64 g) (.int .i64 o) (.slice au us.length cu) (.slice ag gs.length cg) (.bool r) (.int .i64 m)) := Box7.keep HX9.out (Nat.lt_of_lt_of_le HX9.out.lt hM.size) (fun o => (hM.cell _ o HX9.out.lt (fun A e => by cases e; have := OX.out; dsimp only; omega) (fun A e => by cases e; have := OX.out; dsimp only; omega)).1)
  have HS10 : Hid (OwnA a1 xs.length xs w9) := hM.ownA HS9.out (fun A A2 e e2 => by cases e; have h1 := IS.out A2 e2; have := OX.out; dsimp only; omega) (fun A A2 e e2 => by cases e; have h1 := IS.out A2 e2; have := OX.out; dsimp only; omega)
  have HR10 : Hid (OwnA b1 xs.length xs w9) := hM.ownA HR9.out (fun A A2 e e2 => by cases e; have h1 := IG.out A2 e2; have := OX.out; dsimp only; omega) (fun A A2 e e2 => by cases e; have h1 := IG.out A2 e2; have := OX.out; dsimp only; omega)
  have hW10 : Hid (Below w.heap.size w w9) := hW9.out.trans (hM.below _ hW9.out.size (fun A e => by cases e; have := OX.out; dsimp only; omega) (fun A e => by cases e; have := OX.out; dsimp only; omega))
  clear hM HX9 HV9 HS9 HU9 HG9 HR9 hW9 yl y0 y1 y2 y3 y4 y5 y6
  go_wp2_with fail
  refine (eqAceS_any _ _ xs.length _ _ xs HX.out _ HR10.out.acs HS10.out.acs).mono ?_
  rintro e w10 ⟨rfl, hb⟩
  have HX11 : Hid (Box7 w10 w.heap.size (.int .i64 u) (.int .i64 g) (.int .i64 o) (.slice au us.length cu) (.slice ag gs.length cg) (.bool r) (.int .i64 m)) := HX10.out.below hb
  have HS11 : Hid (OwnA a1 xs.length xs w10) := HS10.out.below hb
  have HR11 : Hid (OwnA b1 xs.length xs w10) := HR10.out.below hb
  have hW11 : Hid (Below w.heap.size w w10) := Below.on hW10.out hb
  clear hb HX10 HS10 HR10 hW10
  go_wp2_with fail
  refine (markAceS_any _ xs.length _ 1 xs (by omega) (by omega) HX.out _ HR11.out).mono ?_
  rintro e w11 ⟨rfl, hm1, hM⟩
  have hW12 : Hid (Below w.heap.size w w11) := hW11.out.trans (hM.below _ (fun A e => by have h1 := IG.out A e; have h2 := OX.out; omega))
  have HX12 : Hid (Box7 w11 w.heap.size (.int .i64 u) (.int .i64 g) (.int .i64 o) (.slice au us.length cu) (.slice ag gs.length cg) (.bool r) (.int .i64 m)) := Box7.keep HX11.out (by rw [hM.size]; exact HX11.out.lt) (fun o => (hM.cell _ o (fun A e => by have h1 := IG.out A e; have h2 := OX.out; omega)).1)
  have HS12 : Hid (OwnA a1 xs.length xs w11) := hM.own HS11.out (fun A A2 e e2 => by have h1 := IG.out A e; have := IS.out A2 e2; have h2 := OX.out; omega)
  have HM12 : Hid (OwnA b1 xs.length (marksA 1 xs.length) w11) := hm1
  clear hM hm1 hW11 HX11 HS11 HR11
  go_wp2_with fail
  refine (heldAceS_any _ xs.length _ 1 (by omega) (by omega) HX.out _ HM12.out).mono ?_
  rintro e w11 ⟨rfl, rfl⟩
  obtain ⟨xl, x0, x1, x2, x3, x4, x5, x6⟩ := HX12.out
  go_wp2_with fail
  refine (ht.out _ hW12.out).mono ?_
  rintro e w12 ⟨B7, B8, rfl, hU, hG, _, _, _, hb⟩
  have hW13 : Hid (Below w.heap.size w w12) := Below.on hW12.out hb
  have HS13 : Hid (OwnA a1 xs.length xs w12) := HS12.out.below hb
  have HM13 : Hid (OwnA b1 xs.length (marksA 1 xs.length) w12) := HM12.out.below hb
  clear xl x0 x1 x2 x3 x4 x5 x6 hb hW12 HS12 HM12 HX12
  go_wp2_with fail
  refine (hI.out _ B7 B8 hW13.out hU hG).mono ?_
  intro e w13 hA
  obtain ⟨d1', g1, rfl, hN⟩ := hA.out
  have hW14 : Hid (Below w.heap.size w w13) := Below.on hW13.out hN.bel
  have HS14 : Hid (OwnA a1 xs.length xs w13) := HS13.out.below hN.bel
  have HM14 : Hid (OwnA b1 xs.length (marksA 1 xs.length) w13) := HM13.out.below hN.bel
  have HH14 : Hid (OwnA d1' xs.length xs w13) := hN.own
  clear hA hN hU hG hW13 HS13 HM13
  go_wp2_with fail
  refine (eqAceS_any _ _ xs.length _ _ xs HX.out _ HH14.out.acs HS14.out.acs).mono ?_
  rintro e w14 ⟨rfl, hb⟩
  have hW15 : Hid (Below w.heap.size w w14) := Below.on hW14.out hb
  have HM15 : Hid (OwnA b1 xs.length (marksA 1 xs.length) w14) := HM14.out.below hb
  clear hb hW14 HS14 HM14 HH14
  go_wp2_with fail
  refine (heldAceS_any _ xs.length _ 1 (by omega) (by omega) HX.out _ HM15.out).mono ?_
  rintro e w14 ⟨rfl, rfl⟩
  go_wp2
  go_ret
  exact ⟨rfl, hW15.out⟩
end Go.Proofs.YtfhhaencigmpoaaDoor
