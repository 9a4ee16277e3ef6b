/- Laid together: AceMark, AnsL. -/
import Derived.Test.YtgooanaacebncaaDoorRC12
/- laws.markAceS, heldAceS, eqNfsOut, markNfsOut, heldNfsOut: a list of aces is written over, and read again. -/
namespace Go.Proofs.YtgooanaacebncaaDoor
open Go.RowKit Go.PlainAid
set_option linter.unusedVariables false
/-- What mark writes at a place. -/
def markA (k : Int) : Ac := ⟨k % 3 == 0, k + 1, k + 1 + 1, k + 1 + 1 + 1, k + 1 + 1 + 1 + 1⟩
/-- What mark writes. -/
def marksA (k : Int) (n : Nat) : List Ac := (List.range n).map fun (i : Nat) => markA (k + 5 * (i : Int))
theorem marksA_len (k : Int) (n : Nat) : (marksA k n).length = n := by simp [marksA]
theorem marksA_at (k : Int) (n i : Nat) (h : i < n) : acAt (marksA k n) i = markA (k + 5 * i) := acAt_map _ n i h
/-- The world is as it was, but for the cells of one block. -/
structure ButA (a : Option Addr) (w w' : World) : Prop where
  size : w'.heap.size = w.heap.size
  below : ∀ c, (∀ A, a = some A → c ≤ A.block) → Below c w w'
  cell : ∀ b o, (∀ A, a = some A → b ≠ A.block) → w'.cell? ⟨b, o, none⟩ = w.cell? ⟨b, o, none⟩ ∧ w'.frozen? ⟨b, o, none⟩ = w.frozen? ⟨b, o, none⟩
theorem ButA.refl (a : Option Addr) (w : World) : ButA a w w := ⟨rfl, fun _ _ => Below.refl _ _, fun _ _ _ => ⟨rfl, rfl⟩⟩
theorem ButA.set {B o : Nat} {w w' : World} {v : Value} (h : ButA (some ⟨B, 0, none⟩) w w') : ButA (some ⟨B, 0, none⟩) w (w'.setCell ⟨B, o, none⟩ v) := by
  refine ⟨by simpa using h.size, fun c hc => bl_setA (h.below c hc) (hc _ rfl), fun b o2 hb => ?_⟩
  have h1 := h.cell b o2 hb
  rw [World.frozen?_setCell, ← h1.1]
  exact ⟨World.cell?_setCell_other _ _ _ _ (by intro h; have h2 := congrArg Addr.block h; exact hb _ rfl (by simpa using h2.symm)), h1.2⟩
theorem ButA.own {a a2 : Option Addr} {len : Nat} {l : List Ac} {w w' : World} (h : ButA a w w') (ho : OwnA a2 len l w) (hne : ∀ A A2, a = some A → a2 = some A2 → A.block ≠ A2.block) : OwnA a2 len l w' := by
  refine ⟨ho.1, fun h0 => ?_⟩
  obtain ⟨B, ha, hlt, hp⟩ := ho.2 h0
  refine ⟨B, ha, by rw [h.size]; exact hlt, fun i hi => ?_⟩
  have hb : ∀ A, a = some A → B ≠ A.block := fun A e => fun e2 => hne A _ e ha (by simpa using e2.symm)
  exact ⟨(hp i hi).1.keep (fun j => (h.cell B j hb).1), (hp i hi).2.keep (fun j => (h.cell B j hb).2)⟩
set_option maxHeartbeats 2000000 in
theorem markAceS_none (a : Option Addr) (cap : Nat) (k : Int) (w : World) :
    Calls Tryd.prog 72 #[.slice a 0 cap, .int .i64 k] w fun e w' => e = .returned (.int .i64 k) ∧ w' = w := by
  go_enter Tryd.func72, Tryd.ntmps72
  go_wp2
  go_rounds 1
  go_ret
  exact ⟨rfl, rfl⟩
set_option maxHeartbeats 4000000 in
theorem markAceS_some (B len cap : Nat) (k : Int) (F0 : Nat → Ac) (h0 : 0 ≤ k) (h1 : k ≤ 1000000000) (hl : len ≤ 1048576) (w : World) (hp : AHold w B F0 len) :
    Calls Tryd.prog 72 #[.slice (some ⟨B, 0, none⟩) len cap, .int .i64 k] w fun e w' => e = .returned (.int .i64 (k + 5 * len)) ∧ AHold w' B (fun i => markA (k + 5 * i)) len ∧ ButA (some ⟨B, 0, none⟩) w w' := by
  have HP : Hid (AHold w B F0 len) := hp
  clear hp
  go_enter Tryd.func72, Tryd.ntmps72
  go_wp2
  go_loopw [5, 1] (fun i q wr => ∃ (j : Nat) (F : Nat → Ac), j ≤ len ∧ i = .int .i64 j ∧ q = .int .i64 (k + 5 * j) ∧ Hid (AHold wr B F len) ∧ Hid (∀ t, t < j → F t = markA (k + 5 * t)) ∧ Hid (ButA (some ⟨B, 0, none⟩) w wr)) (fun i _ _ => len - (intOf i).toNat)
  case atStart => exact ⟨0, F0, Nat.zero_le _, rfl, by simp, HP, fun t ht => absurd ht (by omega), ButA.refl _ _⟩
  case round =>
    obtain ⟨j, F, hj, rfl, rfl, hH, hg, hB⟩ := hrel
    by_cases hlt : j < len
    · have hlt' : (j : Int) < (len : Int) := by omega
      obtain ⟨⟨q0, q1, q2, q3, q4⟩, ⟨r0, r1, r2, r3, r4⟩⟩ := hH.out j hlt
      have hH2 : Hid (AHold (set5 wr B (j * 5) (markA (k + 5 * j))) B (fun i => if i = j then markA (k + 5 * j) else F i) len) := hH.out.set j hlt _
      have hg2 : Hid (∀ t, t < j + 1 → (fun i => if i = j then markA (k + 5 * j) else F i) t = markA (k + 5 * t)) := (fun t ht => by
        show (if t = j then markA (k + 5 * j) else F t) = markA (k + 5 * t)
        by_cases e : t = j
        · rw [if_pos e, e]
        · rw [if_neg e]; exact hg.out t (by omega))
      have hB2 : Hid (ButA (some ⟨B, 0, none⟩) w (set5 wr B (j * 5) (markA (k + 5 * j)))) := hB.out.set.set.set.set.set
      clear hH hg hB
      go_wp2
      go_roundw
      case rel => exact ⟨j + 1, _, by omega, by go_num, by go_num, hH2, hg2, hB2⟩
      case measure => simp [intOf]; omega
    · have : j = len := by omega
      subst this
      go_wp2
      go_ret
      refine ⟨rfl, fun i hi => ?_, hB.out⟩
      have h1 := hH.out i hi
      rw [hg.out i hi] at h1
      exact h1
/-- laws.markAceS. -/
theorem markAceS_any (a : Option Addr) (len cap : Nat) (k : Int) (l : List Ac) (h0 : 0 ≤ k) (h1 : k ≤ 1000000000) (hl : len ≤ 1048576) (w : World) (ho : OwnA a len l w) :
    Calls Tryd.prog 72 #[.slice a len cap, .int .i64 k] w fun e w' => e = .returned (.int .i64 (k + 5 * len)) ∧ OwnA a len (marksA k len) w' ∧ ButA a w w' := by
  by_cases hz : len = 0
  · subst hz
    refine (markAceS_none a cap k w).mono ?_
    rintro e w' ⟨rfl, rfl⟩
    exact ⟨by simp, ⟨marksA_len _ _, fun h => absurd h (by omega)⟩, ButA.refl _ _⟩
  · obtain ⟨B, rfl, hlt, hp⟩ := ho.2 (by omega)
    refine (markAceS_some B len cap k _ h0 h1 hl w hp).mono ?_
    rintro e w' ⟨rfl, hp2, hb⟩
    refine ⟨rfl, ⟨marksA_len _ _, fun _ => ⟨B, rfl, by rw [hb.size]; exact hlt, fun i hi => ?_⟩⟩, hb⟩
    rw [marksA_at k len i hi]
    exact hp2 i hi
set_option maxHeartbeats 2000000 in
theorem heldAceS_none (a : Option Addr) (cap : Nat) (k : Int) (w : World) :
    Calls Tryd.prog 73 #[.slice a 0 cap, .int .i64 k] w fun e w' => e = .returned (.int .i64 k) ∧ w' = w := by
  go_enter Tryd.func73, Tryd.ntmps73
  go_wp2
  go_rounds 1
  go_ret
  exact ⟨rfl, rfl⟩
set_option maxHeartbeats 4000000 in
theorem heldAceS_some (B len cap : Nat) (k : Int) (h0 : 0 ≤ k) (h1 : k ≤ 1000000000) (hl : len ≤ 1048576) (w : World) (hc : ∀ i, i < len → Five w B (i * 5) (markA (k + 5 * i))) :
    Calls Tryd.prog 73 #[.slice (some ⟨B, 0, none⟩) len cap, .int .i64 k] w fun e w' => e = .returned (.int .i64 (k + 5 * len)) ∧ w' = w := by
  have HC : Hid (∀ i, i < len → Five w B (i * 5) (markA (k + 5 * i))) := hc
  clear hc
  go_enter Tryd.func73, Tryd.ntmps73
  go_wp2
  go_loop [5, 1] (fun i q => ∃ (j : Nat), j ≤ len ∧ i = .int .i64 j ∧ q = .int .i64 (k + 5 * j)) (fun i _ => len - (intOf i).toNat)
  case atStart => exact ⟨0, Nat.zero_le _, rfl, by simp⟩
  case round =>
    obtain ⟨j, hj, rfl, rfl⟩ := hrel
    by_cases hlt : j < len
    · have hlt' : (j : Int) < (len : Int) := by omega
      obtain ⟨g0, g1, g2, g3, g4⟩ := HC.out j hlt
      obtain ⟨m, hm⟩ : ∃ m, m = k + 5 * (j : Int) := ⟨_, rfl⟩
      rw [← hm] at g0 g1 g2 g3 g4 ⊢
      simp only [markA] at g0 g1 g2 g3 g4
      have m0 : 0 ≤ m := by omega
      have m1 : m ≤ 2000000000 := by omega
      have hbb : ((m % 3 == 0) != (m % 3 == 0)) = false := by simp
      go_wp2
      go_round
      case rel => exact ⟨j + 1, by omega, by go_num, by go_num⟩
      case measure => simp [intOf]; omega
    · have : j = len := by omega
      subst this
      go_wp2
      go_ret
      exact ⟨rfl, rfl⟩
/-- laws.heldAceS of what mark wrote. -/
theorem heldAceS_any (a : Option Addr) (len cap : Nat) (k : Int) (h0 : 0 ≤ k) (h1 : k ≤ 1000000000) (hl : len ≤ 1048576) (w : World) (ho : OwnA a len (marksA k len) w) :
    Calls Tryd.prog 73 #[.slice a len cap, .int .i64 k] w fun e w' => e = .returned (.int .i64 (k + 5 * len)) ∧ w' = w := by
  by_cases hz : len = 0
  · subst hz
    refine (heldAceS_none a cap k w).mono ?_
    rintro e w' ⟨rfl, rfl⟩
    exact ⟨by simp, rfl⟩
  · obtain ⟨B, rfl, hlt, hp⟩ := ho.2 (by omega)
    refine heldAceS_some B len cap k h0 h1 hl w fun i hi => ?_
    have h2 := (hp i hi).1
    rw [marksA_at k len i hi] at h2
    exact h2
/-- A list in memory that was made since. -/
structure NewA (w w' : World) (a : Option Addr) (n : Nat) (l : List Ac) : Prop where
  own : OwnA a n l w'
  inn : ∀ A, a = some A → w.heap.size ≤ A.block ∧ A.block < w'.heap.size
  bel : Below w.heap.size w w'
theorem NewA.on {w w' w2 : World} {a : Option Addr} {n : Nat} {l : List Ac} (h : NewA w w' a n l) (hb : Below w'.heap.size w' w2) : NewA w w2 a n l :=
  ⟨h.own.below hb, fun A e => ⟨(h.inn A e).1, Nat.lt_of_lt_of_le (h.inn A e).2 hb.size⟩, Below.on h.bel hb⟩
theorem NewA.pre {w w0 w' : World} {a : Option Addr} {n : Nat} {l : List Ac} (h : NewA w w' a n l) (hb : Below w0.heap.size w0 w) : NewA w0 w' a n l :=
  ⟨h.own, fun A e => ⟨Nat.le_trans hb.size (h.inn A e).1, (h.inn A e).2⟩, Below.on hb h.bel⟩
/-- A cell of the call's own that is not of the list is written. -/
theorem NewA.set {w w' : World} {a : Option Addr} {n : Nat} {l : List Ac} {b o : Nat} {v : Value} (h : NewA w w' a n l) (hb : w.heap.size ≤ b) (h1 : ∀ A, a = some A → b ≠ A.block) : NewA w (w'.setCell ⟨b, o, none⟩ v) a n l :=
  ⟨h.own.set h1, fun A e => by simpa using h.inn A e, bl_setA h.bel hb⟩
theorem newA_nil {w w' : World} (h : Below w.heap.size w w') : NewA w w' none 0 [] := ⟨ownA_nil _ _, (fun A e => by cases e), h⟩
/-- What a call that answers a list ends in. -/
def AnsL (xs : List Ac) (w : World) (e : Ending) (w' : World) : Prop := ∃ a c, e = .returned (.slice a xs.length c) ∧ NewA w w' a xs.length xs
/-- What a call that answers a list and a code ends in. -/
def AnsN (xs : List Ac) (code : Int) (w : World) (e : Ending) (w' : World) : Prop := ∃ a c, e = .returned (.agg #[.slice a xs.length c, .int .i64 code]) ∧ NewA w w' a xs.length xs
theorem AnsL.out {xs : List Ac} {w w' : World} {e : Ending} (h : AnsL xs w e w') : ∃ a c, e = .returned (.slice a xs.length c) ∧ NewA w w' a xs.length xs := h
theorem AnsN.out {xs : List Ac} {code : Int} {w w' : World} {e : Ending} (h : AnsN xs code w e w') : ∃ a c, e = .returned (.agg #[.slice a xs.length c, .int .i64 code]) ∧ NewA w w' a xs.length xs := h
/-- Two cells of a block. -/
structure Box2 (w : World) (B : Nat) (v0 v1 : Value) : Prop where
  lt : B < w.heap.size
  c0 : w.cell? ⟨B, 0, none⟩ = some v0
  c1 : w.cell? ⟨B, 1, none⟩ = some v1
theorem Box2.keep {w w' : World} {B : Nat} {v0 v1 : Value} (h : Box2 w B v0 v1) (hlt : B < w'.heap.size) (hc : ∀ o, w'.cell? ⟨B, o, none⟩ = w.cell? ⟨B, o, none⟩) : Box2 w' B v0 v1 := ⟨hlt, (hc 0).trans h.c0, (hc 1).trans h.c1⟩
theorem Box2.below {w w' : World} {B : Nat} {v0 v1 : Value} (h : Box2 w B v0 v1) (hb : Below w.heap.size w w') : Box2 w' B v0 v1 :=
  h.keep (Nat.lt_of_lt_of_le h.lt hb.size) (fun o => hb.cell (p := ⟨B, o, none⟩) h.lt)
theorem box2_new (w : World) (v0 v1 : Value) (t : TypeId) : Box2 (w.alloc (.cells #[v0, v1] t)) w.heap.size v0 v1 := by
  have hb : (w.alloc (.cells #[v0, v1] t)).heap[w.heap.size]? = some (.cells #[v0, v1] t) := by
    rw [World.alloc]
    exact Array.getElem?_push_size
  refine ⟨by simp, ?_, ?_⟩ <;> (simp only [World.cell?, hb]; rfl)
theorem Box2.other {w : World} {B b o : Nat} {v0 v1 v : Value} (h : Box2 w B v0 v1) (hne : b ≠ B) : Box2 (w.setCell ⟨b, o, none⟩ v) B v0 v1 :=
  h.keep (by simpa using h.lt) (fun o2 => World.cell?_setCell_other _ _ _ _ (by intro h; have h2 := congrArg Addr.block h; simp only at h2; omega))
set_option maxHeartbeats 2000000 in
/-- laws.eqNfsOut of two that hold the same. -/
theorem eqNfsOut_any (a a2 : Option Addr) (len cap cap2 : Nat) (code : Int) (l : List Ac) (hl : len ≤ 1048576) (w : World) (h1 : Acs a len l w) (h2 : Acs a2 len l w) :
    Calls Tryd.prog 33 #[.agg #[.slice a len cap, .int .i64 code], .agg #[.slice a2 len cap2, .int .i64 code]] w fun e w' => e = .returned (.bool true) ∧ Below w.heap.size w w' := by
  have hc : Hid (∀ w', Below w.heap.size w w' → Calls Tryd.prog 71 #[.slice a len cap, .slice a2 len cap2] w' fun e w'' => e = .returned (.bool true) ∧ Below w'.heap.size w' w'') := (fun w' hb => eqAceS_any a a2 len cap cap2 l hl w' (h1.below hb) (h2.below hb))
  have hA := box2_new w (.slice a len cap) (.int .i64 code) 57
  have hb0 := bel_alloc (w.alloc (.cells #[.slice a len cap, .int .i64 code] 57)) (.cells #[.slice a2 len cap2, .int .i64 code] 57)
  have hA2 := hA.below hb0
  have hC := box2_new (w.alloc (.cells #[.slice a len cap, .int .i64 code] 57)) (.slice a2 len cap2) (.int .i64 code) 57
  have hz : (w.alloc (.cells #[.slice a len cap, .int .i64 code] 57)).heap.size = w.heap.size + 1 := by simp
  rw [hz] at hC
  clear h1 h2 hA hb0 hz
  go_enter Tryd.func33, Tryd.ntmps33
  go_wp2_with fail
  refine (hc.out _ (bl2A _ _ _)).mono ?_
  rintro e w1 ⟨rfl, hb⟩
  have hbW : Hid (Below w.heap.size w w1) := Below.on (bl2A _ _ _) hb
  obtain ⟨xl, x0, x1⟩ := hA2.below hb
  obtain ⟨yl, y0, y1⟩ := hC.below hb
  clear hb hc hA2 hC
  go_wp2
  go_ret
  exact ⟨rfl, hbW.out⟩
set_option maxHeartbeats 2000000 in
/-- laws.markNfsOut. -/
theorem markNfsOut_any (a : Option Addr) (len cap : Nat) (code : Int) (k : Int) (l : List Ac) (h0 : 0 ≤ k) (h1 : k ≤ 100000000) (hl : len ≤ 1048576) (w : World) (ho : OwnA a len l w) (hin : ∀ A, a = some A → A.block < w.heap.size) :
    Calls Tryd.prog 34 #[.agg #[.slice a len cap, .int .i64 code], .int .i64 k] w fun e w' => e = .returned (.int .i64 (k + 5 * len)) ∧ OwnA a len (marksA k len) w' ∧ w.heap.size ≤ w'.heap.size ∧ (∀ c, c ≤ w.heap.size → (∀ A, a = some A → c ≤ A.block) → Below c w w') ∧ (∀ b o, b < w.heap.size → (∀ A, a = some A → b ≠ A.block) → w'.cell? ⟨b, o, none⟩ = w.cell? ⟨b, o, none⟩ ∧ w'.frozen? ⟨b, o, none⟩ = w.frozen? ⟨b, o, none⟩) := by
  have hb0 := bel_alloc w (.cells #[.slice a len cap, .int .i64 code] 57)
  have hc : Hid (Calls Tryd.prog 72 #[.slice a len cap, .int .i64 k] (w.alloc (.cells #[.slice a len cap, .int .i64 code] 57)) fun e w' => e = .returned (.int .i64 (k + 5 * len)) ∧ OwnA a len (marksA k len) w' ∧ w.heap.size ≤ w'.heap.size ∧ (∀ c, c ≤ w.heap.size → (∀ A, a = some A → c ≤ A.block) → Below c w w') ∧ (∀ b o, b < w.heap.size → (∀ A, a = some A → b ≠ A.block) → w'.cell? ⟨b, o, none⟩ = w.cell? ⟨b, o, none⟩ ∧ w'.frozen? ⟨b, o, none⟩ = w.frozen? ⟨b, o, none⟩)) := (by
    refine (markAceS_any a len cap k l h0 (by omega) hl _ (ho.below hb0)).mono ?_
    rintro e w' ⟨rfl, h3, h4⟩
    have hs := hb0.size
    have h5 := h4.size
    refine ⟨rfl, h3, by omega, fun c hc hA => (hb0.mono hc).trans (h4.below c hA), fun b o hb hA => ?_⟩
    have h6 := h4.cell b o hA
    exact ⟨h6.1.trans (hb0.cell (p := ⟨b, o, none⟩) hb), h6.2.trans (hb0.frozen (p := ⟨b, o, none⟩) hb)⟩)
  clear ho hin hb0
  go_enter Tryd.func34, Tryd.ntmps34
  go_wp2_with fail
  refine hc.out.mono ?_
  rintro e w1 ⟨rfl, R⟩
  have HR : Hid (OwnA a len (marksA k len) w1 ∧ w.heap.size ≤ w1.heap.size ∧ (∀ c, c ≤ w.heap.size → (∀ A, a = some A → c ≤ A.block) → Below c w w1) ∧ (∀ b o, b < w.heap.size → (∀ A, a = some A → b ≠ A.block) → w1.cell? ⟨b, o, none⟩ = w.cell? ⟨b, o, none⟩ ∧ w1.frozen? ⟨b, o, none⟩ = w.frozen? ⟨b, o, none⟩)) := R
  clear R hc
  go_wp2
  go_ret
  exact ⟨rfl, HR.out⟩
set_option maxHeartbeats 2000000 in
/-- laws.heldNfsOut of what mark wrote. -/
theorem heldNfsOut_any (a : Option Addr) (len cap : Nat) (code : Int) (k : Int) (h0 : 0 ≤ k) (h1 : k ≤ 100000000) (hl : len ≤ 1048576) (w : World) (ho : OwnA a len (marksA k len) w) :
    Calls Tryd.prog 35 #[.agg #[.slice a len cap, .int .i64 code], .int .i64 k] w fun e w' => e = .returned (.int .i64 (k + 5 * len)) ∧ Below w.heap.size w w' := by
  have d2 : decide (k + 5 * (len : Int) < 0) = false := by simp; omega
  have hc : Hid (Calls Tryd.prog 73 #[.slice a len cap, .int .i64 k] (w.alloc (.cells #[.slice a len cap, .int .i64 code] 57)) fun e w'' => e = .returned (.int .i64 (k + 5 * len)) ∧ w'' = (w.alloc (.cells #[.slice a len cap, .int .i64 code] 57))) := heldAceS_any a len cap k h0 (by omega) hl _ (ho.below (bel_alloc _ _))
  clear ho
  go_enter Tryd.func35, Tryd.ntmps35
  go_wp2_with fail
  refine hc.out.mono ?_
  rintro e w1 ⟨rfl, rfl⟩
  clear hc
  go_wp2
  go_ret
  exact ⟨rfl, bel_alloc _ _⟩
end Go.Proofs.YtgooanaacebncaaDoor
