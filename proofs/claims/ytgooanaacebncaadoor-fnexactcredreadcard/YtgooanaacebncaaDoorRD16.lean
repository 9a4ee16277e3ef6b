/- Laid together: CredMark. -/
import Derived.Test.YtgooanaacebncaaDoorRD15
/- laws.markInt64S, heldInt64S, markCred, heldCred, markCredOut, heldCredOut. -/
namespace Go.Proofs.YtgooanaacebncaaDoor
open Go.RowKit Go.PlainAid
set_option linter.unusedVariables false
/-- A row of numbers that may be written. -/
def OwnN (a : Option Addr) (len : Nat) (f : Nat → Int) (w : World) : Prop := 0 < len → ∃ B, a = some ⟨B, 0, none⟩ ∧ B < w.heap.size ∧ IHolds w B f len
theorem OwnN.below {a : Option Addr} {len : Nat} {f : Nat → Int} {w w' : World} (h : OwnN a len f w) (hb : Below w.heap.size w w') : OwnN a len f w' := by
  intro h0
  obtain ⟨B, ha, hlt, hi⟩ := h h0
  exact ⟨B, ha, Nat.lt_of_lt_of_le hlt hb.size, fun i hi2 => (hb.cell (p := ⟨B, i, none⟩) hlt).trans (hi.1 i hi2), fun i hi2 => (hb.frozen (p := ⟨B, i, none⟩) hlt).trans (hi.2 i hi2)⟩
theorem OwnN.ints {a : Option Addr} {len : Nat} {f : Nat → Int} {w : World} (h : OwnN a len f w) : Ints a len f w := by
  intro h0
  obtain ⟨B, ha, hlt, hi⟩ := h h0
  exact ⟨B, 0, ha, hlt, fun i hi2 => by simpa using hi.1 i hi2⟩
/-- The world is as it was, but for the cells of one block. -/
structure ButN (a : Option Addr) (w w' : World) : Prop where
  size : w'.heap.size = w.heap.size
  below : ∀ c, (∀ A, a = some A → c ≤ A.block) → Below c w w'
  cell : ∀ b o, (∀ A, a = some A → b ≠ A.block) → w'.cell? ⟨b, o, none⟩ = w.cell? ⟨b, o, none⟩ ∧ w'.frozen? ⟨b, o, none⟩ = w.frozen? ⟨b, o, none⟩
theorem ButN.refl (a : Option Addr) (w : World) : ButN a w w := ⟨rfl, fun _ _ => Below.refl _ _, fun _ _ _ => ⟨rfl, rfl⟩⟩
theorem ButN.set {B o : Nat} {w w' : World} {v : Value} (h : ButN (some ⟨B, 0, none⟩) w w') : ButN (some ⟨B, 0, none⟩) w (w'.setCell ⟨B, o, none⟩ v) := by
  refine ⟨by simpa using h.size, fun c hc => setC (h.below c hc) (hc _ rfl), fun b o2 hb => ?_⟩
  have h1 := h.cell b o2 hb
  rw [World.frozen?_setCell, ← h1.1]
  exact ⟨World.cell?_setCell_other _ _ _ _ (by intro h; have h2 := congrArg Addr.block h; exact hb _ rfl (by simpa using h2.symm)), h1.2⟩
set_option maxHeartbeats 2000000 in
theorem markInts_none (a : Option Addr) (cap : Nat) (k : Int) (w : World) :
    Calls Tryd.prog 86 #[.slice a 0 cap, .int .i64 k] w fun e w' => e = .returned (.int .i64 k) ∧ w' = w := by
  go_enter Tryd.func86, Tryd.ntmps86
  go_wp2
  go_rounds 1
  go_ret
  exact ⟨rfl, rfl⟩
set_option maxHeartbeats 2000000 in
theorem markInts_some (B len cap : Nat) (k : Int) (F0 : Nat → Int) (h0 : 0 ≤ k) (h1 : k ≤ 1000000000) (hl : len ≤ 1048576) (w : World) (hp : IHolds w B F0 len) :
    Calls Tryd.prog 86 #[.slice (some ⟨B, 0, none⟩) len cap, .int .i64 k] w fun e w' => e = .returned (.int .i64 (k + len)) ∧ IHolds w' B (fun i => k + i) len ∧ ButN (some ⟨B, 0, none⟩) w w' := by
  have HP : Hid (IHolds w B F0 len) := hp
  clear hp
  go_enter Tryd.func86, Tryd.ntmps86
  go_wp2
  go_loopw [5, 1] (fun i q wr => ∃ (j : Nat) (F : Nat → Int), j ≤ len ∧ i = .int .i64 j ∧ q = .int .i64 (k + j) ∧ Hid (IHolds wr B F len) ∧ Hid (∀ t, t < j → F t = k + t) ∧ Hid (ButN (some ⟨B, 0, none⟩) w wr)) (fun i _ _ => len - (intOf i).toNat)
  case atStart => exact ⟨0, F0, Nat.zero_le _, rfl, by simp, HP, fun t ht => absurd ht (by omega), ButN.refl _ _⟩
  case round =>
    obtain ⟨j, F, hj, rfl, rfl, hH, hg, hB⟩ := hrel
    by_cases hlt : j < len
    · have hlt' : (j : Int) < (len : Int) := by omega
      have g2 := hH.out.1 j hlt
      have g3 := hH.out.2 j hlt
      have hH2 : Hid (IHolds (wr.setCell ⟨B, j, none⟩ (.int .i64 (k + j))) B (fun i => if i = j then k + j else F i) len) := hH.out.set j hlt _
      have hg2 : Hid (∀ t, t < j + 1 → (fun i => if i = j then k + j else F i) t = k + t) := (fun t ht => by
        show (if t = j then k + j else F t) = k + t
        by_cases e : t = j
        · rw [if_pos e, e]
        · rw [if_neg e]; exact hg.out t (by omega))
      have hB2 : Hid (ButN (some ⟨B, 0, none⟩) w (wr.setCell ⟨B, j, none⟩ (.int .i64 (k + j)))) := hB.out.set
      clear hH hg hB
      go_wp2
      go_roundw
      case rel => exact ⟨j + 1, _, by omega, by go_num, by go_num, hH2, hg2, hB2⟩
      case measure => simp [intOf]; omega
    · have : j = len := by omega
      subst this
      go_wp2
      go_ret
      refine ⟨rfl, ⟨fun i hi => ?_, hH.out.2⟩, hB.out⟩
      have h1 := hH.out.1 i hi
      rw [hg.out i hi] at h1
      exact h1
/-- laws.markInt64S. -/
theorem markInts_any (a : Option Addr) (len cap : Nat) (k : Int) (f : Nat → Int) (h0 : 0 ≤ k) (h1 : k ≤ 1000000000) (hl : len ≤ 1048576) (w : World) (ho : OwnN a len f w) :
    Calls Tryd.prog 86 #[.slice a len cap, .int .i64 k] w fun e w' => e = .returned (.int .i64 (k + len)) ∧ OwnN a len (fun i => k + i) w' ∧ ButN a w w' := by
  by_cases hz : len = 0
  · subst hz
    refine (markInts_none a cap k w).mono ?_
    rintro e w' ⟨rfl, rfl⟩
    exact ⟨by simp, fun h => absurd h (by omega), ButN.refl _ _⟩
  · obtain ⟨B, rfl, hlt, hp⟩ := ho (by omega)
    refine (markInts_some B len cap k _ h0 h1 hl w hp).mono ?_
    rintro e w' ⟨rfl, hp2, hb⟩
    exact ⟨rfl, fun _ => ⟨B, rfl, by rw [hb.size]; exact hlt, hp2⟩, hb⟩
set_option maxHeartbeats 2000000 in
theorem heldInts_none (a : Option Addr) (cap : Nat) (k : Int) (w : World) :
    Calls Tryd.prog 87 #[.slice a 0 cap, .int .i64 k] w fun e w' => e = .returned (.int .i64 k) ∧ w' = w := by
  go_enter Tryd.func87, Tryd.ntmps87
  go_wp2
  go_rounds 1
  go_ret
  exact ⟨rfl, rfl⟩
set_option maxHeartbeats 2000000 in
theorem heldInts_some (B len cap : Nat) (k : Int) (h0 : 0 ≤ k) (h1 : k ≤ 1000000000) (hl : len ≤ 1048576) (w : World) (hc : ∀ i, i < len → w.cell? ⟨B, i, none⟩ = some (.int .i64 (k + i))) :
    Calls Tryd.prog 87 #[.slice (some ⟨B, 0, none⟩) len cap, .int .i64 k] w fun e w' => e = .returned (.int .i64 (k + len)) ∧ w' = w := by
  have HC : Hid (∀ i, i < len → w.cell? ⟨B, i, none⟩ = some (.int .i64 (k + i))) := hc
  clear hc
  go_enter Tryd.func87, Tryd.ntmps87
  go_wp2
  go_loop [5, 1] (fun i q => ∃ (j : Nat), j ≤ len ∧ i = .int .i64 j ∧ q = .int .i64 (k + j)) (fun i _ => len - (intOf i).toNat)
  case atStart => exact ⟨0, Nat.zero_le _, rfl, by simp⟩
  case round =>
    obtain ⟨j, hj, rfl, rfl⟩ := hrel
    by_cases hlt : j < len
    · have hlt' : (j : Int) < (len : Int) := by omega
      have g0 := HC.out j hlt
      go_wp2
      go_round
      case rel => exact ⟨j + 1, by omega, by go_num, by go_num⟩
      case measure => simp [intOf]; omega
    · have : j = len := by omega
      subst this
      go_wp2
      go_ret
      exact ⟨rfl, rfl⟩
theorem heldInts_any (a : Option Addr) (len cap : Nat) (k : Int) (h0 : 0 ≤ k) (h1 : k ≤ 1000000000) (hl : len ≤ 1048576) (w : World) (ho : OwnN a len (fun i => k + i) w) :
    Calls Tryd.prog 87 #[.slice a len cap, .int .i64 k] w fun e w' => e = .returned (.int .i64 (k + len)) ∧ w' = w := by
  by_cases hz : len = 0
  · subst hz
    refine (heldInts_none a cap k w).mono ?_
    rintro e w' ⟨rfl, rfl⟩
    exact ⟨by simp, rfl⟩
  · obtain ⟨B, rfl, hlt, hp⟩ := ho (by omega)
    exact heldInts_some B len cap k h0 h1 hl w hp.1
/-- The world is as it was, but for the cells of one block, and for what is new. -/
structure ButA (a : Option Addr) (w w' : World) : Prop where
  size : w.heap.size ≤ w'.heap.size
  below : ∀ c, c ≤ w.heap.size → (∀ A, a = some A → c ≤ A.block) → Below c w w'
  cell : ∀ b o, b < w.heap.size → (∀ A, a = some A → b ≠ A.block) → w'.cell? ⟨b, o, none⟩ = w.cell? ⟨b, o, none⟩ ∧ w'.frozen? ⟨b, o, none⟩ = w.frozen? ⟨b, o, none⟩
theorem ButN.upon {a : Option Addr} {w w1 w2 : World} (hb : Below w.heap.size w w1) (h : ButN a w1 w2) : ButA a w w2 := by
  refine ⟨by rw [h.size]; exact hb.size, fun c hc ha => (hb.mono hc).trans (h.below c ha), fun b o hlt hne => ?_⟩
  have h1 := h.cell b o hne
  exact ⟨h1.1.trans (hb.cell (p := ⟨b, o, none⟩) hlt), h1.2.trans (hb.frozen (p := ⟨b, o, none⟩) hlt)⟩
theorem ButA.upon {a : Option Addr} {w w1 w2 : World} (hb : Below w.heap.size w w1) (h : ButA a w1 w2) : ButA a w w2 := by
  refine ⟨Nat.le_trans hb.size h.size, fun c hc ha => (hb.mono hc).trans (h.below c (Nat.le_trans hc hb.size) ha), fun b o hlt hne => ?_⟩
  have h1 := h.cell b o (Nat.lt_of_lt_of_le hlt hb.size) hne
  exact ⟨h1.1.trans (hb.cell (p := ⟨b, o, none⟩) hlt), h1.2.trans (hb.frozen (p := ⟨b, o, none⟩) hlt)⟩
set_option maxHeartbeats 2000000 in
theorem markCred_any (u g : Int) (a : Option Addr) (len cap : Nat) (r : Bool) (k : Int) (f : Nat → Int) (h0 : 0 ≤ k) (h1 : k ≤ 1000000000) (hl : len ≤ 1048576) (w : World) (ho : OwnN a len f w) :
    Calls Tryd.prog 56 #[.agg #[.int .i64 u, .int .i64 g, .slice a len cap, .bool r], .int .i64 k] w fun e w' => e = .returned (.int .i64 (k + len)) ∧ OwnN a len (fun i => k + i) w' ∧ ButA a w w' := by
  have hc : Hid (∀ w', Below w.heap.size w w' → Calls Tryd.prog 86 #[.slice a len cap, .int .i64 k] w' fun e w'' => e = .returned (.int .i64 (k + len)) ∧ OwnN a len (fun i => k + i) w'' ∧ ButN a w' w'') := (fun w' hb => markInts_any a len cap k f h0 h1 hl w' (ho.below hb))
  clear ho h0 h1 hl
  go_enter Tryd.func56, Tryd.ntmps56
  go_wp2_with fail
  refine (hc.out _ (bel_alloc _ _)).mono ?_
  rintro e w2 ⟨rfl, h2, h3⟩
  have h4 : Hid (ButA a w w2) := h3.upon (bel_alloc _ _)
  have h5 : Hid (OwnN a len (fun i => k + i) w2) := h2
  clear h2 h3 hc
  go_wp2
  go_ret
  exact ⟨rfl, h5.out, h4.out⟩
set_option maxHeartbeats 2000000 in
theorem heldCred_any (u g : Int) (a : Option Addr) (len cap : Nat) (r : Bool) (k : Int) (h0 : 0 ≤ k) (h1 : k ≤ 1000000000) (hl : len ≤ 1048576) (w : World) (ho : OwnN a len (fun i => k + i) w) :
    Calls Tryd.prog 57 #[.agg #[.int .i64 u, .int .i64 g, .slice a len cap, .bool r], .int .i64 k] w fun e w' => e = .returned (.int .i64 (k + len)) ∧ Below w.heap.size w w' := by
  have hc : Hid (∀ w', Below w.heap.size w w' → Calls Tryd.prog 87 #[.slice a len cap, .int .i64 k] w' fun e w'' => e = .returned (.int .i64 (k + len)) ∧ w'' = w') := (fun w' hb => heldInts_any a len cap k h0 h1 hl w' (ho.below hb))
  clear ho
  have hn : ¬ k + (len : Int) < 0 := by omega
  go_enter Tryd.func57, Tryd.ntmps57
  go_wp2_with fail
  refine (hc.out _ (bel_alloc _ _)).mono ?_
  rintro e w2 ⟨rfl, rfl⟩
  clear hc
  go_wp2
  go_ret
  exact ⟨rfl, bel_alloc _ _⟩
set_option maxHeartbeats 2000000 in
theorem markCredOut_any (u g : Int) (a : Option Addr) (len cap : Nat) (r : Bool) (c k : Int) (f : Nat → Int) (h0 : 0 ≤ k) (h1 : k ≤ 1000000000) (hl : len ≤ 1048576) (w : World) (ho : OwnN a len f w) :
    Calls Tryd.prog 21 #[.agg #[.int .i64 u, .int .i64 g, .slice a len cap, .bool r, .int .i64 c], .int .i64 k] w fun e w' => e = .returned (.int .i64 (k + len)) ∧ OwnN a len (fun i => k + i) w' ∧ ButA a w w' := by
  have hc : Hid (∀ w', Below w.heap.size w w' → Calls Tryd.prog 56 #[.agg #[.int .i64 u, .int .i64 g, .slice a len cap, .bool r], .int .i64 k] w' fun e w'' => e = .returned (.int .i64 (k + len)) ∧ OwnN a len (fun i => k + i) w'' ∧ ButA a w' w'') := (fun w' hb => markCred_any u g a len cap r k f h0 h1 hl w' (ho.below hb))
  clear ho h0 h1 hl
  go_enter Tryd.func21, Tryd.ntmps21
  go_wp2_with fail
  refine (hc.out _ (bel_alloc _ _)).mono ?_
  rintro e w2 ⟨rfl, h2, h3⟩
  have h4 : Hid (ButA a w w2) := h3.upon (bel_alloc _ _)
  have h5 : Hid (OwnN a len (fun i => k + i) w2) := h2
  clear h2 h3 hc
  go_wp2
  go_ret
  exact ⟨rfl, h5.out, h4.out⟩
set_option maxHeartbeats 2000000 in
theorem heldCredOut_any (u g : Int) (a : Option Addr) (len cap : Nat) (r : Bool) (c k : Int) (h0 : 0 ≤ k) (h1 : k ≤ 1000000000) (hl : len ≤ 1048576) (w : World) (ho : OwnN a len (fun i => k + i) w) :
    Calls Tryd.prog 22 #[.agg #[.int .i64 u, .int .i64 g, .slice a len cap, .bool r, .int .i64 c], .int .i64 k] w fun e w' => e = .returned (.int .i64 (k + len)) ∧ Below w.heap.size w w' := by
  have hc : Hid (∀ w', Below w.heap.size w w' → Calls Tryd.prog 57 #[.agg #[.int .i64 u, .int .i64 g, .slice a len cap, .bool r], .int .i64 k] w' fun e w'' => e = .returned (.int .i64 (k + len)) ∧ Below w'.heap.size w' w'') := (fun w' hb => heldCred_any u g a len cap r k h0 h1 hl w' (ho.below hb))
  clear ho
  have hn : ¬ k + (len : Int) < 0 := by omega
  go_enter Tryd.func22, Tryd.ntmps22
  go_wp2_with fail
  refine (hc.out _ (bel_alloc _ _)).mono ?_
  rintro e w2 ⟨rfl, hb2⟩
  have hb : Hid (Below w.heap.size w w2) := Below.on (bel_alloc _ _) hb2
  clear hc hb2
  go_wp2
  go_ret
  exact ⟨rfl, hb.out⟩
set_option maxHeartbeats 2000000 in
theorem eqCredOut_any (u g : Int) (a a2 : Option Addr) (len cap cap2 : Nat) (r : Bool) (c : Int) (f : Nat → Int) (hl : len ≤ 1048576) (w : World) (h1 : Ints a len f w) (h2 : Ints a2 len f w) :
    Calls Tryd.prog 20 #[.agg #[.int .i64 u, .int .i64 g, .slice a len cap, .bool r, .int .i64 c], .agg #[.int .i64 u, .int .i64 g, .slice a2 len cap2, .bool r, .int .i64 c]] w fun e w' => e = .returned (.bool true) ∧ Below w.heap.size w w' := by
  have hc : Hid (∀ w', Below w.heap.size w w' → Calls Tryd.prog 55 #[.agg #[.int .i64 u, .int .i64 g, .slice a len cap, .bool r], .agg #[.int .i64 u, .int .i64 g, .slice a2 len cap2, .bool r]] w' fun e w'' => e = .returned (.bool true) ∧ Below w'.heap.size w' w'') := (fun w' hb => eqCred_any u g a a2 len cap cap2 r f hl w' (h1.below hb) (h2.below hb))
  clear h1 h2 hl
  go_enter Tryd.func20, Tryd.ntmps20
  have hBA := Below.on (bel_alloc w (.cells #[.int .i64 u, .int .i64 g, .slice a len cap, .bool r, .int .i64 c] 30)) (bel_alloc _ (.cells #[.int .i64 u, .int .i64 g, .slice a2 len cap2, .bool r, .int .i64 c] 30))
  go_wp2_with fail
  refine (hc.out _ hBA).mono ?_
  rintro e w2 ⟨rfl, hb2⟩
  have hb : Hid (Below w.heap.size w w2) := Below.on hBA hb2
  have hY := (bf5_new (w.alloc (.cells #[.int .i64 u, .int .i64 g, .slice a len cap, .bool r, .int .i64 c] 30)) (.int .i64 u) (.int .i64 g) (.slice a2 len cap2) (.bool r) (.int .i64 c) 30).below hb2
  have eY : (w.alloc (.cells #[.int .i64 u, .int .i64 g, .slice a len cap, .bool r, .int .i64 c] 30)).heap.size = w.heap.size + 1 := by simp
  rw [eY] at hY
  have e2 := hY.c4
  have e1 := (((bf5_new w (.int .i64 u) (.int .i64 g) (.slice a len cap) (.bool r) (.int .i64 c) 30).below (bel_alloc _ _)).below hb2).c4
  clear hc hb2 hBA hY eY
  go_wp2
  go_ret
  exact ⟨rfl, hb.out⟩
end Go.Proofs.YtgooanaacebncaaDoor
