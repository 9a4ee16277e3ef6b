/- Laid together: ChmodD3. -/
import Derived.Test.YtdidbaadladkpaaDoorNm41
/- slices.DeleteFunc at a list of aces and impl.saysNothing. -/
namespace Go.Proofs.YtdidbaadladkpaaDoor
open Go.RowKit Go.PlainAid Go.Deep
set_option linter.unusedVariables false
/-- What a round of slices.DeleteFunc keeps. -/
structure DlI (B len N0 : Nat) (l : List Ac) (w : World) (i j : Nat) (wr : World) : Prop where
  le : (kpA l j).length = i
  lt : i < j
  ho : ∃ F, AHold wr B F len ∧ (∀ t, t < i → F t = acAt (kpA l j) t) ∧ (∀ t, j ≤ t → F t = acAt l t)
  bel : Below N0 w wr
  bl : B < wr.heap.size
theorem DlI.start {B len N0 k0 : Nat} {l : List Ac} {w w1 : World} (hA : AHold w B (acAt l) len) (hlt : B < w.heap.size) (hN : N0 ≤ w.heap.size) (hb : Below w.heap.size w w1) (h0 : (acAt l k0).ma = 0) (ha : ∀ i, i < k0 → (acAt l i).ma ≠ 0) : DlI B len N0 l w k0 (k0 + 1) w1 := by
  obtain ⟨h1, h2⟩ := kpA_all ha
  have e : kpA l (k0 + 1) = kpA l k0 := by simp only [kpA]; rw [if_pos h0]
  refine ⟨by rw [e, h1], by omega, ⟨acAt l, hA.below hlt hb, fun t ht => ?_, fun t _ => rfl⟩, hb.mono hN, Nat.lt_of_lt_of_le hlt hb.size⟩
  rw [e, h2 t ht]
theorem DlI.below {B len N0 i j : Nat} {l : List Ac} {w wr w1 : World} (h : DlI B len N0 l w i j wr) (hb : Below wr.heap.size wr w1) (hN : N0 ≤ B) : DlI B len N0 l w i j w1 := by
  obtain ⟨F, h1, h2, h3⟩ := h.ho
  exact ⟨h.le, h.lt, ⟨F, h1.below h.bl hb, h2, h3⟩, h.bel.trans (hb.mono (by have := h.bl; omega)), Nat.lt_of_lt_of_le h.bl hb.size⟩
theorem DlI.at {B len N0 i j : Nat} {l : List Ac} {w wr : World} (h : DlI B len N0 l w i j wr) (hj : j < len) : Five wr B (j * 5) (acAt l j) ∧ (∃ y, Five wr B (i * 5) y) ∧ Free5 wr B (i * 5) := by
  obtain ⟨F, h1, h2, h3⟩ := h.ho
  have hlt := h.lt
  refine ⟨?_, ⟨F i, (h1 i (by omega)).1⟩, (h1 i (by omega)).2⟩
  have := (h1 j hj).1
  rwa [h3 j (Nat.le_refl _)] at this
theorem DlI.skip {B len N0 i j : Nat} {l : List Ac} {w wr : World} (h : DlI B len N0 l w i j wr) (h0 : (acAt l j).ma = 0) : DlI B len N0 l w i (j + 1) wr := by
  obtain ⟨F, h1, h2, h3⟩ := h.ho
  have e : kpA l (j + 1) = kpA l j := by simp only [kpA]; rw [if_pos h0]
  exact ⟨by rw [e]; exact h.le, by have := h.lt; omega, ⟨F, h1, fun t ht => by rw [e]; exact h2 t ht, fun t ht => h3 t (by omega)⟩, h.bel, h.bl⟩
theorem DlI.keep {B len N0 i j : Nat} {l : List Ac} {w wr : World} (h : DlI B len N0 l w i j wr) (h0 : (acAt l j).ma ≠ 0) (hj : j < len) (hN : N0 ≤ B) : DlI B len N0 l w (i + 1) (j + 1) (set5 wr B (i * 5) (acAt l j)) := by
  obtain ⟨F, h1, h2, h3⟩ := h.ho
  have hlt := h.lt
  have hle := h.le
  have e : kpA l (j + 1) = kpA l j ++ [acAt l j] := by simp only [kpA]; rw [if_neg h0]
  refine ⟨by rw [e]; simp [hle], by omega, ⟨_, h1.set i (by omega) (acAt l j), fun t ht => ?_, fun t ht => ?_⟩, bl_setA (bl_setA (bl_setA (bl_setA (bl_setA h.bel hN) hN) hN) hN) hN, by simp [set5]; exact h.bl⟩
  · show (if t = i then acAt l j else F t) = _
    rw [e]
    by_cases q : t = i
    · rw [if_pos q, q, ← hle, acAt_last]
    · rw [if_neg q, acAt_app (by omega)]
      exact h2 t (by omega)
  · show (if t = i then acAt l j else F t) = _
    rw [if_neg (by omega)]
    exact h3 t (by omega)
/-- Behind the clear. -/
theorem DlI.done {B len N0 i : Nat} {l : List Ac} {w wr : World} (h : DlI B len N0 l w i len wr) (hN : N0 ≤ B) (vs : List Value) : AHold (wr.setCells B (i * 5) vs) B (acAt (kpA l len)) i ∧ Below N0 w (wr.setCells B (i * 5) vs) ∧ B < (wr.setCells B (i * 5) vs).heap.size := by
  obtain ⟨F, h1, h2, h3⟩ := h.ho
  have hlt := h.lt
  refine ⟨fun t ht => ?_, bl_setCs hN _ _ _ h.bel, by rw [sz_setCs]; exact h.bl⟩
  have hc : ∀ o : Nat, o < i * 5 → (wr.setCells B (i * 5) vs).cell? ⟨B, o, none⟩ = wr.cell? ⟨B, o, none⟩ := fun o ho => World.cell?_setCells_out B vs (i * 5) wr ⟨B, o, none⟩ (fun _ _ => .inl ho)
  obtain ⟨⟨c0, c1, c2, c3, c4⟩, hf⟩ := h1 t (by omega)
  rw [← h2 t ht]
  exact ⟨⟨(hc _ (by omega)).trans c0, (hc _ (by omega)).trans c1, (hc _ (by omega)).trans c2, (hc _ (by omega)).trans c3, (hc _ (by omega)).trans c4⟩, hf.keep (fun j => World.frozen?_setCells B vs (i * 5) wr _)⟩
theorem DlI.cells {B len N0 i : Nat} {l : List Ac} {w wr : World} (h : DlI B len N0 l w i len wr) : (∀ j, j < (len - i) * 5 → (wr.cell? ⟨B, i * 5 + j, none⟩).isSome = true) ∧ (∀ j, j < (len - i) * 5 → wr.frozen? ⟨B, i * 5 + j, none⟩ = false) := by
  obtain ⟨F, h1, h2, h3⟩ := h.ho
  have hlt := h.lt
  have key : ∀ j, j < (len - i) * 5 → ∃ t r, t < len ∧ r < 5 ∧ i * 5 + j = t * 5 + r := fun j hj => ⟨i + j / 5, j % 5, by omega, by omega, by omega⟩
  constructor
  · intro j hj
    obtain ⟨t, r, ht, hr, e⟩ := key j hj
    obtain ⟨⟨c0, c1, c2, c3, c4⟩, _⟩ := h1 t ht
    rw [e]
    rcases (by omega : r = 0 ∨ r = 1 ∨ r = 2 ∨ r = 3 ∨ r = 4) with rfl | rfl | rfl | rfl | rfl
    · rw [Nat.add_zero, c0]; rfl
    · rw [c1]; rfl
    · rw [c2]; rfl
    · rw [c3]; rfl
    · rw [c4]; rfl
  · intro j hj
    obtain ⟨t, r, ht, hr, e⟩ := key j hj
    obtain ⟨_, f0, f1, f2, f3, f4⟩ := h1 t ht
    rw [e]
    rcases (by omega : r = 0 ∨ r = 1 ∨ r = 2 ∨ r = 3 ∨ r = 4) with rfl | rfl | rfl | rfl | rfl
    · rw [Nat.add_zero]; exact f0
    · exact f1
    · exact f2
    · exact f3
    · exact f4
set_option maxRecDepth 100000 in
set_option maxHeartbeats 4000000 in
/-- slices.DeleteFunc. -/
theorem deleteFn_any (B len cap N0 : Nat) (l : List Ac) (hl : len ≤ 1000) (hcap : len ≤ cap) (w : World) (hlt : B < w.heap.size) (hN : N0 ≤ B) (hA : AHold w B (acAt l) len) :
    Calls Tryd.prog 65 #[.slice (some ⟨B, 0, none⟩) len cap, .func (.func 67) #[] #[]] w fun e w' => e = .returned (.slice (some ⟨B, 0, none⟩) (kpA l len).length cap) ∧ AHold w' B (acAt (kpA l len)) (kpA l len).length ∧ Below N0 w w' ∧ B < w'.heap.size := by
  have HA : Hid (AHold w B (acAt l) len) := hA
  have HS : Hid (∀ (x : Ac) (w : World), Calls Tryd.prog 67 #[.agg #[.bool x.al, .int .i64 x.wh, .int .i64 x.id, .int .i64 x.fl, .int .i64 x.ma]] w fun e w' => e = .returned (.bool (decide (x.ma = 0))) ∧ Below w.heap.size w w') := saysN_any
  have hcapI : (len : Int) ≤ (cap : Int) := by omega
  clear hA
  go_enter Tryd.func65, Tryd.ntmps65
  go_wp2_with fail
  refine (indexFn_any B len cap l hl w hlt HA.out).mono ?_
  rintro e w1 ⟨⟨rfl, hall⟩ | ⟨k0, hk0, rfl, h0, hall⟩, hb1⟩
  · obtain ⟨q1, q2⟩ := kpA_all hall
    have HQ : Hid ((kpA l len).length = len ∧ ∀ t, t < len → acAt (kpA l len) t = acAt l t) := ⟨q1, q2⟩
    have HB1 : Hid (Below w.heap.size w w1) := hb1
    clear hall hb1 q1 q2
    go_wp2
    go_ret
    obtain ⟨q1, q2⟩ := HQ.out
    refine ⟨by rw [q1]; rfl, ?_, HB1.out.mono (by omega), Nat.lt_of_lt_of_le hlt HB1.out.size⟩
    rw [q1]
    intro t ht
    rw [q2 t ht]
    exact HA.out.below hlt HB1.out t ht
  · have HI0 : Hid (DlI B len N0 l w k0 (k0 + 1) w1) := DlI.start HA.out hlt (by omega) hb1 h0 hall
    have hne1 : ((k0 : Int) == -1) = false := beq_eq_false_iff_ne.2 (by omega)
    clear hall hb1 h0 HA
    go_wp2
    go_loopw [5, 6, 7] (fun a b _ wr => ∃ i j : Nat, i < j ∧ j ≤ len ∧ a = .int .i64 i ∧ b = .int .i64 j ∧ Hid (DlI B len N0 l w i j wr)) (fun _ b _ _ => len - (intOf b).toNat)
    case atStart => exact ⟨k0, k0 + 1, by omega, by omega, rfl, by go_num, HI0⟩
    case round =>
      obtain ⟨i, j, hij, hj, rfl, rfl, hI⟩ := hrel
      have hijI : (i : Int) < (j : Int) := by omega
      by_cases hlt2 : j < len
      · have hlt' : (j : Int) < (len : Int) := by omega
        have hilt : (i : Int) < (len : Int) := by omega
        obtain ⟨⟨c0, c1, c2, c3, c4⟩, _, _⟩ := hI.out.at hlt2
        have HS0 : Hid (∀ y : Ac, y = acAt l j → y.ma = 0 → ∀ w9, DlI B len N0 l w i j w9 → DlI B len N0 l w i (j + 1) w9) := (fun y hy h0 w9 h => h.skip (by rw [← hy]; exact h0))
        have HS1 : Hid (∀ y : Ac, y = acAt l j → y.ma ≠ 0 → ∀ w9, DlI B len N0 l w i j w9 → DlI B len N0 l w (i + 1) (j + 1) (set5 w9 B (i * 5) y)) := (fun y hy h0 w9 h => by rw [hy]; exact h.keep (by rw [← hy]; exact h0) hlt2 hN)
        generalize hy : acAt l j = x at c0 c1 c2 c3 c4
        have HY : Hid (x = acAt l j) := hy.symm
        clear hy
        have hIA : Hid (DlI B len N0 l w i j (wr.alloc (.cells #[.bool x.al, .int .i64 x.wh, .int .i64 x.id, .int .i64 x.fl, .int .i64 x.ma] 33))) := hI.out.below ((Below.refl _ _).alloc (Nat.le_refl _) _) hN
        have hF : Hid (Five (wr.alloc (.cells #[.bool x.al, .int .i64 x.wh, .int .i64 x.id, .int .i64 x.fl, .int .i64 x.ma] 33)) wr.heap.size 0 x) := five_new wr x _
        go_wp2_with fail
        refine (HS.out x _).mono ?_
        rintro e w2 ⟨rfl, hb2⟩
        have hI2 : Hid (DlI B len N0 l w i j w2) := hIA.out.below hb2 hN
        have hF2 := hF.out.below (by simp) hb2
        clear hb2 hI hIA hF c0 c1 c2 c3 c4
        by_cases hz : x.ma = 0
        · have hzd : decide (x.ma = 0) = true := by simpa using hz
          have HZ : Hid (DlI B len N0 l w i (j + 1) w2) := HS0.out x HY.out hz _ hI2.out
          clear HS0 HS1 hz hF2 hI2
          go_wp2
          go_roundw
          case rel => exact ⟨i, j + 1, by omega, by omega, rfl, by go_num, HZ⟩
          case measure => simp [intOf]; omega
        · have hzd : decide (x.ma = 0) = false := by simpa using hz
          have HZ : Hid (DlI B len N0 l w (i + 1) (j + 1) (set5 w2 B (i * 5) x)) := HS1.out x HY.out hz _ hI2.out
          obtain ⟨_, ⟨y, q0, q1, q2, q3, q4⟩, ⟨r0, r1, r2, r3, r4⟩⟩ := hI2.out.at hlt2
          obtain ⟨d0, d1, d2, d3, d4⟩ := hF2
          simp only [Nat.zero_add] at d1 d2 d3 d4
          clear HS0 HS1 hz hI2
          go_wp2
          go_roundw
          case rel => exact ⟨i + 1, j + 1, by omega, by omega, by go_num, by go_num, HZ⟩
          case measure => simp [intOf]; omega
      · have : j = len := by omega
        subst this
        obtain ⟨k1, k2⟩ := hI.out.cells
        have hcl : ∀ ty, (Builtin.clear_ #[23] ty #[.slice (some ⟨B, i * 5, none⟩) (j - i) (cap - i)]).run Tryd.prog wr = .ok (.tuple #[]) (wr.setCells B (i * 5) (Builtin.zeroCells #[.bool false, .int .i64 0, .int .i64 0, .int .i64 0, .int .i64 0] (j - i)).toList) := fun ty => run_clearA wr ty B (i * 5) (j - i) (cap - i) (by omega) k1 k2
        have hic : (i : Int) ≤ (cap : Int) := by omega
        have hij' : (i : Int) ≤ (j : Int) := by omega
        have HD : Hid _ := hI.out.done hN (Builtin.zeroCells #[.bool false, .int .i64 0, .int .i64 0, .int .i64 0, .int .i64 0] (j - i)).toList
        have HL : Hid ((kpA l j).length = i) := hI.out.le
        generalize (Builtin.zeroCells #[.bool false, .int .i64 0, .int .i64 0, .int .i64 0, .int .i64 0] (j - i)).toList = zs at hcl HD
        clear k1 k2 hI
        go_wp2
        go_ret
        rw [HL.out]
        exact ⟨rfl, HD.out⟩
end Go.Proofs.YtdidbaadladkpaaDoor
