/- impl.place.read: three signs of a place, read. -/
import Derived.Test.YtibofkjonepbpaaDoorRdMMath
import Derived.Test.YtibofkjonepbpaaDoorReadBits
import Derived.Test.YtibofkjonepbpaaDoorJoin2
import Derived.Deep.RegionWith
import Derived.BigRegion
namespace Go.Proofs.YtibofkjonepbpaaDoor
open Go.RowKit Go.PlainAid
set_option linter.unusedVariables false
set_option linter.unusedSimpArgs false
theorem join2_d (s t : ByteArray) (B : Nat) (w : World) (hB : B = w.heap.size) (h : s.size + t.size ≤ 1099511627776) :
    Calls Tryd.prog 68 #[.slice (some ⟨B, 0, none⟩) 2 2] (w.alloc (.cells #[.string s, .string t] 9)).drew fun e w' => e = .returned (.string (s ++ t)) ∧ Below w.heap.size w w' := by
  subst hB
  refine (join_any (pick2 s t) w.heap.size 0 2 2 (w.alloc (.cells #[.string s, .string t] 9)).drew ?_ (by simp) (by decide) (by simp [totTo, pick2]; omega)).mono ?_
  · intro k hk
    match k, hk with
    | 0, _ => simp [pick2]
    | 1, _ => simp [pick2]
  · rintro e w' ⟨rfl, hb⟩
    rw [cat2]
    exact ⟨rfl, (((Below.refl _ _).alloc (Nat.le_refl _) _).drew).trans (hb.mono (by simp))⟩
theorem boxR (w : World) (v0 v1 v2 v3 : Value) (t : TypeId) : (w.alloc (.cells #[v0, v1, v2, v3] t)).cell? ⟨w.heap.size, 0, none⟩ = some v0 ∧ (w.alloc (.cells #[v0, v1, v2, v3] t)).cell? ⟨w.heap.size, 1, none⟩ = some v1 ∧ (w.alloc (.cells #[v0, v1, v2, v3] t)).cell? ⟨w.heap.size, 2, none⟩ = some v2 ∧ (w.alloc (.cells #[v0, v1, v2, v3] t)).cell? ⟨w.heap.size, 3, none⟩ = some v3 := by
  have hb : (w.alloc (.cells #[v0, v1, v2, v3] t)).heap[w.heap.size]? = some (.cells #[v0, v1, v2, v3] t) := by
    rw [World.alloc]
    exact Array.getElem?_push_size
  refine ⟨?_, ?_, ?_, ?_⟩ <;> (simp only [World.cell?, hb]; rfl)
theorem rd_le (t : ByteArray) : (rdB t).getD 0 ≤ 7 := by
  cases h : rdB t with
  | none => decide
  | some n => exact (rdB_inv h).1
theorem bl_dr {w w' : World} (h : Below w.drew.heap.size w.drew w') : Below w.heap.size w w' := ⟨h.os, h.tape, h.output, h.size, h.block⟩
theorem bl_thenR {w w1 w2 : World} (h1 : Below w.heap.size w w1) (h2 : Below w1.heap.size w1 w2) : Below w.heap.size w w2 := h1.trans (h2.mono h1.size)
theorem fix_lo {t : ByteArray} {lo hi : UInt8} (h : bt t 2 = (lo.toNat : Int)) : fixT t lo hi = t.extract 0 2 ++ ⟨#[120]⟩ ∧ isX t lo hi = true := by
  unfold fixT isX
  rw [if_pos h]
  simp [h]
theorem fix_hi {t : ByteArray} {lo hi : UInt8} (h0 : ¬ bt t 2 = (lo.toNat : Int)) (h : bt t 2 = (hi.toNat : Int)) : fixT t lo hi = t.extract 0 2 ++ ⟨#[45]⟩ ∧ isX t lo hi = true := by
  unfold fixT isX
  rw [if_neg h0, if_pos h]
  simp [h]
theorem fix_no {t : ByteArray} {lo hi : UInt8} (h0 : ¬ bt t 2 = (lo.toNat : Int)) (h : ¬ bt t 2 = (hi.toNat : Int)) : fixT t lo hi = t ∧ isX t lo hi = false := by
  unfold fixT isX
  rw [if_neg h0, if_neg h]
  simp [h0, h]
theorem or_2048 (m : Nat) (h : m ≤ 7) : bits .or .i64 ((m : Int) * 64) 2048 = 64 * (m : Int) + 2048 ∧ bits .or .i64 ((m : Int) * 64) 0 = 64 * (m : Int) := by
  rcases eight h with rfl | rfl | rfl | rfl | rfl | rfl | rfl | rfl <;> decide
/-- What the place's read comes to: the number. -/
def pv1 (t : ByteArray) : Int := 64 * (((rdB (fixT t 115 83)).getD 0 : Nat) : Int) + (bl (isX t 115 83) 2048 : Nat)
set_option maxHeartbeats 8000000 in
theorem read1_no (t : ByteArray) (ht : t.size = 3) (h0 : bt t 2 ≠ 115) (h1 : bt t 2 ≠ 83) (w : World) :
    Calls Tryd.prog 125 #[.agg #[.int .i64 6, .int .i64 2048, .int .u8 115, .int .u8 83], .string t] w fun e w' => e = .returned (.tuple #[.int .i64 (pv1 t), .bool (rdB (fixT t 115 83)).isSome]) ∧ Below w.heap.size w w' := by
  have hbt := get_bt t
  obtain ⟨hf, hx⟩ := fix_no (lo := 115) (hi := 83) h0 h1
  have hm := rd_le (fixT t 115 83)
  have hor := or_2048 ((rdB (fixT t 115 83)).getD 0) hm
  have hrd : Hid (∀ w, Calls Tryd.prog 93 #[.string (fixT t 115 83)] w fun e w' => e = .returned (.tuple #[.int .i64 (((rdB (fixT t 115 83)).getD 0 : Nat) : Int), .bool (rdB (fixT t 115 83)).isSome]) ∧ Below w.heap.size w w') := readBits_any (fixT t 115 83)
  have hpv : Hid (pv1 t = 64 * (((rdB (fixT t 115 83)).getD 0 : Nat) : Int) + 0) := (by
    show pv1 t = _
    unfold pv1
    rw [hx]
    rfl)
  generalize hok : (rdB (fixT t 115 83)).isSome = ok at hrd ⊢
  generalize (rdB (fixT t 115 83)).getD 0 = m at hm hor hrd hpv
  rw [hf] at hrd
  clear hf hx hok
  obtain ⟨o1, o2⟩ := hor
  have c1 : (bt t 2 == 115) = false := by rw [beq_eq_false_iff_ne]; exact h0
  have c2 : (bt t 2 == 83) = false := by rw [beq_eq_false_iff_ne]; exact h1
  clear h1 h0
  go_enter Tryd.func125, Tryd.ntmps125
  go_wp2_with (go_at_call 93; refine (hrd.out _).mono ?_; rintro e w1 ⟨rfl, hb1⟩; have y0 : w1.cell? ⟨w.heap.size, 0, none⟩ = some (.int .i64 6) := (hb1.cell (p := ⟨w.heap.size, 0, none⟩) (by simp)).trans (by simp))
  go_ret2
  exact ⟨by rw [hpv.out]; simp, ((Below.refl _ _).alloc (Nat.le_refl _) _).trans (hb1.mono (by simp))⟩
set_option maxHeartbeats 8000000 in
theorem read1_lo (t : ByteArray) (ht : t.size = 3) (h1 : bt t 2 = 115) (w : World) :
    Calls Tryd.prog 125 #[.agg #[.int .i64 6, .int .i64 2048, .int .u8 115, .int .u8 83], .string t] w fun e w' => e = .returned (.tuple #[.int .i64 (pv1 t), .bool (rdB (fixT t 115 83)).isSome]) ∧ Below w.heap.size w w' := by
  have hbt := get_bt t
  obtain ⟨hf, hx⟩ := fix_lo (lo := 115) (hi := 83) h1
  have hm := rd_le (fixT t 115 83)
  have hor := or_2048 ((rdB (fixT t 115 83)).getD 0) hm
  have hrd : Hid (∀ w, Calls Tryd.prog 93 #[.string (fixT t 115 83)] w fun e w' => e = .returned (.tuple #[.int .i64 (((rdB (fixT t 115 83)).getD 0 : Nat) : Int), .bool (rdB (fixT t 115 83)).isSome]) ∧ Below w.heap.size w w') := readBits_any (fixT t 115 83)
  have hpv : Hid (pv1 t = 64 * (((rdB (fixT t 115 83)).getD 0 : Nat) : Int) + 2048) := (by
    show pv1 t = _
    unfold pv1
    rw [hx]
    rfl)
  generalize hok : (rdB (fixT t 115 83)).isSome = ok at hrd ⊢
  generalize (rdB (fixT t 115 83)).getD 0 = m at hm hor hrd hpv
  rw [hf] at hrd
  clear hf hx hok
  obtain ⟨o1, o2⟩ := hor
  have c1 : (bt t 2 == 115) = true := by rw [h1]; rfl
  clear h1
  have hz2 : (t.extract 0 2).size = 2 := by rw [ByteArray.size_extract, ht]; rfl
  go_enter Tryd.func125, Tryd.ntmps125
  go_wp2
  go_region_with (go_at_call 68; refine (join2_d (t.extract 0 2) ⟨#[120]⟩ _ _ (by simp) (by rw [hz2]; decide)).mono ?_; rintro e w1 ⟨rfl, hb1⟩; have y0 : w1.cell? ⟨w.heap.size, 0, none⟩ = some (.int .i64 6) := (hb1.cell (p := ⟨w.heap.size, 0, none⟩) (by simp)).trans (by simp); have y1 : w1.cell? ⟨w.heap.size, 1, none⟩ = some (.int .i64 2048) := (hb1.cell (p := ⟨w.heap.size, 1, none⟩) (by simp)).trans (by simp))
  all_goals (
    have hw1 : w.heap.size < w1.heap.size := Nat.lt_of_lt_of_le (by simp) hb1.size
    go_wp2_with (go_at_call 93; refine (hrd.out _).mono ?_; rintro e w2 ⟨rfl, hb2⟩; have xc : w2.cell? ⟨w.heap.size, 0, none⟩ = some (.int .i64 6) := (hb2.cell (p := ⟨w.heap.size, 0, none⟩) hw1).trans y0)
    go_ret2
    exact ⟨by rw [hpv.out]; simp, (((Below.refl _ _).alloc (Nat.le_refl _) _).trans (hb1.mono (by simp))).trans (hb2.mono (Nat.le_of_lt hw1))⟩)
set_option maxHeartbeats 8000000 in
theorem read1_hi (t : ByteArray) (ht : t.size = 3) (h0 : bt t 2 ≠ 115) (h1 : bt t 2 = 83) (w : World) :
    Calls Tryd.prog 125 #[.agg #[.int .i64 6, .int .i64 2048, .int .u8 115, .int .u8 83], .string t] w fun e w' => e = .returned (.tuple #[.int .i64 (pv1 t), .bool (rdB (fixT t 115 83)).isSome]) ∧ Below w.heap.size w w' := by
  have hbt := get_bt t
  obtain ⟨hf, hx⟩ := fix_hi (lo := 115) (hi := 83) h0 h1
  have hm := rd_le (fixT t 115 83)
  have hor := or_2048 ((rdB (fixT t 115 83)).getD 0) hm
  have hrd : Hid (∀ w, Calls Tryd.prog 93 #[.string (fixT t 115 83)] w fun e w' => e = .returned (.tuple #[.int .i64 (((rdB (fixT t 115 83)).getD 0 : Nat) : Int), .bool (rdB (fixT t 115 83)).isSome]) ∧ Below w.heap.size w w') := readBits_any (fixT t 115 83)
  have hpv : Hid (pv1 t = 64 * (((rdB (fixT t 115 83)).getD 0 : Nat) : Int) + 2048) := (by
    show pv1 t = _
    unfold pv1
    rw [hx]
    rfl)
  generalize hok : (rdB (fixT t 115 83)).isSome = ok at hrd ⊢
  generalize (rdB (fixT t 115 83)).getD 0 = m at hm hor hrd hpv
  rw [hf] at hrd
  clear hf hx hok
  obtain ⟨o1, o2⟩ := hor
  have c1 : (bt t 2 == 115) = false := by rw [beq_eq_false_iff_ne]; exact h0
  have c2 : (bt t 2 == 83) = true := by rw [h1]; rfl
  clear h1 h0
  have hz2 : (t.extract 0 2).size = 2 := by rw [ByteArray.size_extract, ht]; rfl
  go_enter Tryd.func125, Tryd.ntmps125
  go_wp2
  go_region_with (go_at_call 68; refine (join2_d (t.extract 0 2) ⟨#[45]⟩ _ _ (by simp) (by rw [hz2]; decide)).mono ?_; rintro e w1 ⟨rfl, hb1⟩; have y0 : w1.cell? ⟨w.heap.size, 0, none⟩ = some (.int .i64 6) := (hb1.cell (p := ⟨w.heap.size, 0, none⟩) (by simp)).trans (by simp); have y1 : w1.cell? ⟨w.heap.size, 1, none⟩ = some (.int .i64 2048) := (hb1.cell (p := ⟨w.heap.size, 1, none⟩) (by simp)).trans (by simp))
  all_goals (
    have hw1 : w.heap.size < w1.heap.size := Nat.lt_of_lt_of_le (by simp) hb1.size
    go_wp2_with (go_at_call 93; refine (hrd.out _).mono ?_; rintro e w2 ⟨rfl, hb2⟩; have xc : w2.cell? ⟨w.heap.size, 0, none⟩ = some (.int .i64 6) := (hb2.cell (p := ⟨w.heap.size, 0, none⟩) hw1).trans y0)
    go_ret2
    exact ⟨by rw [hpv.out]; simp, (((Below.refl _ _).alloc (Nat.le_refl _) _).trans (hb1.mono (by simp))).trans (hb2.mono (Nat.le_of_lt hw1))⟩)
theorem read1_any (t : ByteArray) (ht : t.size = 3) (w : World) :
    Calls Tryd.prog 125 #[.agg #[.int .i64 6, .int .i64 2048, .int .u8 115, .int .u8 83], .string t] w fun e w' => e = .returned (.tuple #[.int .i64 (pv1 t), .bool (rdB (fixT t 115 83)).isSome]) ∧ Below w.heap.size w w' := by
  by_cases h0 : bt t 2 = 115
  · exact read1_lo t ht h0 w
  · by_cases h1 : bt t 2 = 83
    · exact read1_hi t ht h0 h1 w
    · exact read1_no t ht h0 h1 w
theorem or_1024 (m : Nat) (h : m ≤ 7) : bits .or .i64 ((m : Int) * 8) 1024 = 8 * (m : Int) + 1024 ∧ bits .or .i64 ((m : Int) * 8) 0 = 8 * (m : Int) := by
  rcases eight h with rfl | rfl | rfl | rfl | rfl | rfl | rfl | rfl <;> decide
/-- What the place's read comes to: the number. -/
def pv2 (t : ByteArray) : Int := 8 * (((rdB (fixT t 115 83)).getD 0 : Nat) : Int) + (bl (isX t 115 83) 1024 : Nat)
set_option maxHeartbeats 8000000 in
theorem read2_no (t : ByteArray) (ht : t.size = 3) (h0 : bt t 2 ≠ 115) (h1 : bt t 2 ≠ 83) (w : World) :
    Calls Tryd.prog 125 #[.agg #[.int .i64 3, .int .i64 1024, .int .u8 115, .int .u8 83], .string t] w fun e w' => e = .returned (.tuple #[.int .i64 (pv2 t), .bool (rdB (fixT t 115 83)).isSome]) ∧ Below w.heap.size w w' := by
  have hbt := get_bt t
  obtain ⟨hf, hx⟩ := fix_no (lo := 115) (hi := 83) h0 h1
  have hm := rd_le (fixT t 115 83)
  have hor := or_1024 ((rdB (fixT t 115 83)).getD 0) hm
  have hrd : Hid (∀ w, Calls Tryd.prog 93 #[.string (fixT t 115 83)] w fun e w' => e = .returned (.tuple #[.int .i64 (((rdB (fixT t 115 83)).getD 0 : Nat) : Int), .bool (rdB (fixT t 115 83)).isSome]) ∧ Below w.heap.size w w') := readBits_any (fixT t 115 83)
  have hpv : Hid (pv2 t = 8 * (((rdB (fixT t 115 83)).getD 0 : Nat) : Int) + 0) := (by
    show pv2 t = _
    unfold pv2
    rw [hx]
    rfl)
  generalize hok : (rdB (fixT t 115 83)).isSome = ok at hrd ⊢
  generalize (rdB (fixT t 115 83)).getD 0 = m at hm hor hrd hpv
  rw [hf] at hrd
  clear hf hx hok
  obtain ⟨o1, o2⟩ := hor
  have c1 : (bt t 2 == 115) = false := by rw [beq_eq_false_iff_ne]; exact h0
  have c2 : (bt t 2 == 83) = false := by rw [beq_eq_false_iff_ne]; exact h1
  clear h1 h0
  go_enter Tryd.func125, Tryd.ntmps125
  go_wp2_with (go_at_call 93; refine (hrd.out _).mono ?_; rintro e w1 ⟨rfl, hb1⟩; have y0 : w1.cell? ⟨w.heap.size, 0, none⟩ = some (.int .i64 3) := (hb1.cell (p := ⟨w.heap.size, 0, none⟩) (by simp)).trans (by simp))
  go_ret2
  exact ⟨by rw [hpv.out]; simp, ((Below.refl _ _).alloc (Nat.le_refl _) _).trans (hb1.mono (by simp))⟩
set_option maxHeartbeats 8000000 in
theorem read2_lo (t : ByteArray) (ht : t.size = 3) (h1 : bt t 2 = 115) (w : World) :
    Calls Tryd.prog 125 #[.agg #[.int .i64 3, .int .i64 1024, .int .u8 115, .int .u8 83], .string t] w fun e w' => e = .returned (.tuple #[.int .i64 (pv2 t), .bool (rdB (fixT t 115 83)).isSome]) ∧ Below w.heap.size w w' := by
  have hbt := get_bt t
  obtain ⟨hf, hx⟩ := fix_lo (lo := 115) (hi := 83) h1
  have hm := rd_le (fixT t 115 83)
  have hor := or_1024 ((rdB (fixT t 115 83)).getD 0) hm
  have hrd : Hid (∀ w, Calls Tryd.prog 93 #[.string (fixT t 115 83)] w fun e w' => e = .returned (.tuple #[.int .i64 (((rdB (fixT t 115 83)).getD 0 : Nat) : Int), .bool (rdB (fixT t 115 83)).isSome]) ∧ Below w.heap.size w w') := readBits_any (fixT t 115 83)
  have hpv : Hid (pv2 t = 8 * (((rdB (fixT t 115 83)).getD 0 : Nat) : Int) + 1024) := (by
    show pv2 t = _
    unfold pv2
    rw [hx]
    rfl)
  generalize hok : (rdB (fixT t 115 83)).isSome = ok at hrd ⊢
  generalize (rdB (fixT t 115 83)).getD 0 = m at hm hor hrd hpv
  rw [hf] at hrd
  clear hf hx hok
  obtain ⟨o1, o2⟩ := hor
  have c1 : (bt t 2 == 115) = true := by rw [h1]; rfl
  clear h1
  have hz2 : (t.extract 0 2).size = 2 := by rw [ByteArray.size_extract, ht]; rfl
  go_enter Tryd.func125, Tryd.ntmps125
  go_wp2
  go_region_with (go_at_call 68; refine (join2_d (t.extract 0 2) ⟨#[120]⟩ _ _ (by simp) (by rw [hz2]; decide)).mono ?_; rintro e w1 ⟨rfl, hb1⟩; have y0 : w1.cell? ⟨w.heap.size, 0, none⟩ = some (.int .i64 3) := (hb1.cell (p := ⟨w.heap.size, 0, none⟩) (by simp)).trans (by simp); have y1 : w1.cell? ⟨w.heap.size, 1, none⟩ = some (.int .i64 1024) := (hb1.cell (p := ⟨w.heap.size, 1, none⟩) (by simp)).trans (by simp))
  all_goals (
    have hw1 : w.heap.size < w1.heap.size := Nat.lt_of_lt_of_le (by simp) hb1.size
    go_wp2_with (go_at_call 93; refine (hrd.out _).mono ?_; rintro e w2 ⟨rfl, hb2⟩; have xc : w2.cell? ⟨w.heap.size, 0, none⟩ = some (.int .i64 3) := (hb2.cell (p := ⟨w.heap.size, 0, none⟩) hw1).trans y0)
    go_ret2
    exact ⟨by rw [hpv.out]; simp, (((Below.refl _ _).alloc (Nat.le_refl _) _).trans (hb1.mono (by simp))).trans (hb2.mono (Nat.le_of_lt hw1))⟩)
set_option maxHeartbeats 8000000 in
theorem read2_hi (t : ByteArray) (ht : t.size = 3) (h0 : bt t 2 ≠ 115) (h1 : bt t 2 = 83) (w : World) :
    Calls Tryd.prog 125 #[.agg #[.int .i64 3, .int .i64 1024, .int .u8 115, .int .u8 83], .string t] w fun e w' => e = .returned (.tuple #[.int .i64 (pv2 t), .bool (rdB (fixT t 115 83)).isSome]) ∧ Below w.heap.size w w' := by
  have hbt := get_bt t
  obtain ⟨hf, hx⟩ := fix_hi (lo := 115) (hi := 83) h0 h1
  have hm := rd_le (fixT t 115 83)
  have hor := or_1024 ((rdB (fixT t 115 83)).getD 0) hm
  have hrd : Hid (∀ w, Calls Tryd.prog 93 #[.string (fixT t 115 83)] w fun e w' => e = .returned (.tuple #[.int .i64 (((rdB (fixT t 115 83)).getD 0 : Nat) : Int), .bool (rdB (fixT t 115 83)).isSome]) ∧ Below w.heap.size w w') := readBits_any (fixT t 115 83)
  have hpv : Hid (pv2 t = 8 * (((rdB (fixT t 115 83)).getD 0 : Nat) : Int) + 1024) := (by
    show pv2 t = _
    unfold pv2
    rw [hx]
    rfl)
  generalize hok : (rdB (fixT t 115 83)).isSome = ok at hrd ⊢
  generalize (rdB (fixT t 115 83)).getD 0 = m at hm hor hrd hpv
  rw [hf] at hrd
  clear hf hx hok
  obtain ⟨o1, o2⟩ := hor
  have c1 : (bt t 2 == 115) = false := by rw [beq_eq_false_iff_ne]; exact h0
  have c2 : (bt t 2 == 83) = true := by rw [h1]; rfl
  clear h1 h0
  have hz2 : (t.extract 0 2).size = 2 := by rw [ByteArray.size_extract, ht]; rfl
  go_enter Tryd.func125, Tryd.ntmps125
  go_wp2
  go_region_with (go_at_call 68; refine (join2_d (t.extract 0 2) ⟨#[45]⟩ _ _ (by simp) (by rw [hz2]; decide)).mono ?_; rintro e w1 ⟨rfl, hb1⟩; have y0 : w1.cell? ⟨w.heap.size, 0, none⟩ = some (.int .i64 3) := (hb1.cell (p := ⟨w.heap.size, 0, none⟩) (by simp)).trans (by simp); have y1 : w1.cell? ⟨w.heap.size, 1, none⟩ = some (.int .i64 1024) := (hb1.cell (p := ⟨w.heap.size, 1, none⟩) (by simp)).trans (by simp))
  all_goals (
    have hw1 : w.heap.size < w1.heap.size := Nat.lt_of_lt_of_le (by simp) hb1.size
    go_wp2_with (go_at_call 93; refine (hrd.out _).mono ?_; rintro e w2 ⟨rfl, hb2⟩; have xc : w2.cell? ⟨w.heap.size, 0, none⟩ = some (.int .i64 3) := (hb2.cell (p := ⟨w.heap.size, 0, none⟩) hw1).trans y0)
    go_ret2
    exact ⟨by rw [hpv.out]; simp, (((Below.refl _ _).alloc (Nat.le_refl _) _).trans (hb1.mono (by simp))).trans (hb2.mono (Nat.le_of_lt hw1))⟩)
theorem read2_any (t : ByteArray) (ht : t.size = 3) (w : World) :
    Calls Tryd.prog 125 #[.agg #[.int .i64 3, .int .i64 1024, .int .u8 115, .int .u8 83], .string t] w fun e w' => e = .returned (.tuple #[.int .i64 (pv2 t), .bool (rdB (fixT t 115 83)).isSome]) ∧ Below w.heap.size w w' := by
  by_cases h0 : bt t 2 = 115
  · exact read2_lo t ht h0 w
  · by_cases h1 : bt t 2 = 83
    · exact read2_hi t ht h0 h1 w
    · exact read2_no t ht h0 h1 w
theorem or_512 (m : Nat) (h : m ≤ 7) : bits .or .i64 ((m : Int)) 512 = (m : Int) + 512 ∧ bits .or .i64 ((m : Int)) 0 = (m : Int) := by
  rcases eight h with rfl | rfl | rfl | rfl | rfl | rfl | rfl | rfl <;> decide
/-- What the place's read comes to: the number. -/
def pv3 (t : ByteArray) : Int := 1 * (((rdB (fixT t 116 84)).getD 0 : Nat) : Int) + (bl (isX t 116 84) 512 : Nat)
set_option maxHeartbeats 8000000 in
theorem read3_no (t : ByteArray) (ht : t.size = 3) (h0 : bt t 2 ≠ 116) (h1 : bt t 2 ≠ 84) (w : World) :
    Calls Tryd.prog 125 #[.agg #[.int .i64 0, .int .i64 512, .int .u8 116, .int .u8 84], .string t] w fun e w' => e = .returned (.tuple #[.int .i64 (pv3 t), .bool (rdB (fixT t 116 84)).isSome]) ∧ Below w.heap.size w w' := by
  have hbt := get_bt t
  obtain ⟨hf, hx⟩ := fix_no (lo := 116) (hi := 84) h0 h1
  have hm := rd_le (fixT t 116 84)
  have hor := or_512 ((rdB (fixT t 116 84)).getD 0) hm
  have hrd : Hid (∀ w, Calls Tryd.prog 93 #[.string (fixT t 116 84)] w fun e w' => e = .returned (.tuple #[.int .i64 (((rdB (fixT t 116 84)).getD 0 : Nat) : Int), .bool (rdB (fixT t 116 84)).isSome]) ∧ Below w.heap.size w w') := readBits_any (fixT t 116 84)
  have hpv : Hid (pv3 t = 1 * (((rdB (fixT t 116 84)).getD 0 : Nat) : Int) + 0) := (by
    show pv3 t = _
    unfold pv3
    rw [hx]
    rfl)
  generalize hok : (rdB (fixT t 116 84)).isSome = ok at hrd ⊢
  generalize (rdB (fixT t 116 84)).getD 0 = m at hm hor hrd hpv
  rw [hf] at hrd
  clear hf hx hok
  obtain ⟨o1, o2⟩ := hor
  have c1 : (bt t 2 == 116) = false := by rw [beq_eq_false_iff_ne]; exact h0
  have c2 : (bt t 2 == 84) = false := by rw [beq_eq_false_iff_ne]; exact h1
  clear h1 h0
  go_enter Tryd.func125, Tryd.ntmps125
  go_wp2_with (go_at_call 93; refine (hrd.out _).mono ?_; rintro e w1 ⟨rfl, hb1⟩; have y0 : w1.cell? ⟨w.heap.size, 0, none⟩ = some (.int .i64 0) := (hb1.cell (p := ⟨w.heap.size, 0, none⟩) (by simp)).trans (by simp))
  go_ret2
  exact ⟨by rw [hpv.out]; simp, ((Below.refl _ _).alloc (Nat.le_refl _) _).trans (hb1.mono (by simp))⟩
set_option maxHeartbeats 8000000 in
theorem read3_lo (t : ByteArray) (ht : t.size = 3) (h1 : bt t 2 = 116) (w : World) :
    Calls Tryd.prog 125 #[.agg #[.int .i64 0, .int .i64 512, .int .u8 116, .int .u8 84], .string t] w fun e w' => e = .returned (.tuple #[.int .i64 (pv3 t), .bool (rdB (fixT t 116 84)).isSome]) ∧ Below w.heap.size w w' := by
  have hbt := get_bt t
  obtain ⟨hf, hx⟩ := fix_lo (lo := 116) (hi := 84) h1
  have hm := rd_le (fixT t 116 84)
  have hor := or_512 ((rdB (fixT t 116 84)).getD 0) hm
  have hrd : Hid (∀ w, Calls Tryd.prog 93 #[.string (fixT t 116 84)] w fun e w' => e = .returned (.tuple #[.int .i64 (((rdB (fixT t 116 84)).getD 0 : Nat) : Int), .bool (rdB (fixT t 116 84)).isSome]) ∧ Below w.heap.size w w') := readBits_any (fixT t 116 84)
  have hpv : Hid (pv3 t = 1 * (((rdB (fixT t 116 84)).getD 0 : Nat) : Int) + 512) := (by
    show pv3 t = _
    unfold pv3
    rw [hx]
    rfl)
  generalize hok : (rdB (fixT t 116 84)).isSome = ok at hrd ⊢
  generalize (rdB (fixT t 116 84)).getD 0 = m at hm hor hrd hpv
  rw [hf] at hrd
  clear hf hx hok
  obtain ⟨o1, o2⟩ := hor
  have c1 : (bt t 2 == 116) = true := by rw [h1]; rfl
  clear h1
  have hz2 : (t.extract 0 2).size = 2 := by rw [ByteArray.size_extract, ht]; rfl
  go_enter Tryd.func125, Tryd.ntmps125
  go_wp2
  go_region_with (go_at_call 68; refine (join2_d (t.extract 0 2) ⟨#[120]⟩ _ _ (by simp) (by rw [hz2]; decide)).mono ?_; rintro e w1 ⟨rfl, hb1⟩; have y0 : w1.cell? ⟨w.heap.size, 0, none⟩ = some (.int .i64 0) := (hb1.cell (p := ⟨w.heap.size, 0, none⟩) (by simp)).trans (by simp); have y1 : w1.cell? ⟨w.heap.size, 1, none⟩ = some (.int .i64 512) := (hb1.cell (p := ⟨w.heap.size, 1, none⟩) (by simp)).trans (by simp))
  all_goals (
    have hw1 : w.heap.size < w1.heap.size := Nat.lt_of_lt_of_le (by simp) hb1.size
    go_wp2_with (go_at_call 93; refine (hrd.out _).mono ?_; rintro e w2 ⟨rfl, hb2⟩; have xc : w2.cell? ⟨w.heap.size, 0, none⟩ = some (.int .i64 0) := (hb2.cell (p := ⟨w.heap.size, 0, none⟩) hw1).trans y0)
    go_ret2
    exact ⟨by rw [hpv.out]; simp, (((Below.refl _ _).alloc (Nat.le_refl _) _).trans (hb1.mono (by simp))).trans (hb2.mono (Nat.le_of_lt hw1))⟩)
set_option maxHeartbeats 8000000 in
theorem read3_hi (t : ByteArray) (ht : t.size = 3) (h0 : bt t 2 ≠ 116) (h1 : bt t 2 = 84) (w : World) :
    Calls Tryd.prog 125 #[.agg #[.int .i64 0, .int .i64 512, .int .u8 116, .int .u8 84], .string t] w fun e w' => e = .returned (.tuple #[.int .i64 (pv3 t), .bool (rdB (fixT t 116 84)).isSome]) ∧ Below w.heap.size w w' := by
  have hbt := get_bt t
  obtain ⟨hf, hx⟩ := fix_hi (lo := 116) (hi := 84) h0 h1
  have hm := rd_le (fixT t 116 84)
  have hor := or_512 ((rdB (fixT t 116 84)).getD 0) hm
  have hrd : Hid (∀ w, Calls Tryd.prog 93 #[.string (fixT t 116 84)] w fun e w' => e = .returned (.tuple #[.int .i64 (((rdB (fixT t 116 84)).getD 0 : Nat) : Int), .bool (rdB (fixT t 116 84)).isSome]) ∧ Below w.heap.size w w') := readBits_any (fixT t 116 84)
  have hpv : Hid (pv3 t = 1 * (((rdB (fixT t 116 84)).getD 0 : Nat) : Int) + 512) := (by
    show pv3 t = _
    unfold pv3
    rw [hx]
    rfl)
  generalize hok : (rdB (fixT t 116 84)).isSome = ok at hrd ⊢
  generalize (rdB (fixT t 116 84)).getD 0 = m at hm hor hrd hpv
  rw [hf] at hrd
  clear hf hx hok
  obtain ⟨o1, o2⟩ := hor
  have c1 : (bt t 2 == 116) = false := by rw [beq_eq_false_iff_ne]; exact h0
  have c2 : (bt t 2 == 84) = true := by rw [h1]; rfl
  clear h1 h0
  have hz2 : (t.extract 0 2).size = 2 := by rw [ByteArray.size_extract, ht]; rfl
  go_enter Tryd.func125, Tryd.ntmps125
  go_wp2
  go_region_with (go_at_call 68; refine (join2_d (t.extract 0 2) ⟨#[45]⟩ _ _ (by simp) (by rw [hz2]; decide)).mono ?_; rintro e w1 ⟨rfl, hb1⟩; have y0 : w1.cell? ⟨w.heap.size, 0, none⟩ = some (.int .i64 0) := (hb1.cell (p := ⟨w.heap.size, 0, none⟩) (by simp)).trans (by simp); have y1 : w1.cell? ⟨w.heap.size, 1, none⟩ = some (.int .i64 512) := (hb1.cell (p := ⟨w.heap.size, 1, none⟩) (by simp)).trans (by simp))
  all_goals (
    have hw1 : w.heap.size < w1.heap.size := Nat.lt_of_lt_of_le (by simp) hb1.size
    go_wp2_with (go_at_call 93; refine (hrd.out _).mono ?_; rintro e w2 ⟨rfl, hb2⟩; have xc : w2.cell? ⟨w.heap.size, 0, none⟩ = some (.int .i64 0) := (hb2.cell (p := ⟨w.heap.size, 0, none⟩) hw1).trans y0)
    go_ret2
    exact ⟨by rw [hpv.out]; simp, (((Below.refl _ _).alloc (Nat.le_refl _) _).trans (hb1.mono (by simp))).trans (hb2.mono (Nat.le_of_lt hw1))⟩)
theorem read3_any (t : ByteArray) (ht : t.size = 3) (w : World) :
    Calls Tryd.prog 125 #[.agg #[.int .i64 0, .int .i64 512, .int .u8 116, .int .u8 84], .string t] w fun e w' => e = .returned (.tuple #[.int .i64 (pv3 t), .bool (rdB (fixT t 116 84)).isSome]) ∧ Below w.heap.size w w' := by
  by_cases h0 : bt t 2 = 116
  · exact read3_lo t ht h0 w
  · by_cases h1 : bt t 2 = 84
    · exact read3_hi t ht h0 h1 w
    · exact read3_no t ht h0 h1 w
end Go.Proofs.YtibofkjonepbpaaDoor
