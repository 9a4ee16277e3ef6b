/- spec.l02Part and spec.ModeRead: nine signs read, three by three, and held against the mode's own text. -/
import Derived.Test.YtibofkjonepbpaaDoorSBitsRead
import Derived.Test.YtibofkjonepbpaaDoorSModeText
import Derived.Test.YtibofkjonepbpaaDoorRdMMath
import Derived.Test.YtibofkjonepbpaaDoorStrBytes
namespace Go.Proofs.YtibofkjonepbpaaDoor
open Go.RowKit Go.PlainAid
set_option linter.unusedVariables false
set_option linter.unusedSimpArgs false
theorem conv3 (t : ByteArray) (w : World) : ∃ cap w', (convert 9 22 (.string t)).run Tryd.prog w = .ok (.slice (some ⟨w.heap.size, 0, none⟩) t.size cap) w' ∧ Holds w' w.heap.size (bt t) t.size ∧ Below w.heap.size w w' ∧ w.heap.size < w'.heap.size :=
  ⟨_, _, run_bytes_of_string (P := Tryd.prog) w 9 22 5 t Tryd.underlying9 Tryd.underlying22 Tryd.underlying5,
    conv_holds w t _ _, ((Below.refl _ _).drew).alloc (Nat.le_refl _) _, by rw [World.alloc]; exact Nat.lt_of_lt_of_eq (Nat.lt_succ_self _) (Array.size_push _).symm⟩
theorem bt_255 (s : ByteArray) (k : Nat) : 0 ≤ bt s k ∧ bt s k ≤ 255 := by
  unfold bt
  split
  · rename_i h
    have := (s[k]'h).toNat_lt
    omega
  · omega
theorem txt_same {t : ByteArray} (h : t.size = 3) : txtOf (bt t) 3 = t := by
  obtain ⟨a, b, c, rfl⟩ := three_of h
  obtain ⟨e0, e1, e2⟩ := bt3 a b c
  simp [txtOf, List.range, List.range.loop, e0, e1, e2]
theorem txt_put {t : ByteArray} (h : t.size = 3) (v : UInt8) : txtOf (fun k => if k = 2 then (v.toNat : Int) else bt t k) 3 = t.extract 0 2 ++ ⟨#[v]⟩ := by
  obtain ⟨a, b, c, rfl⟩ := three_of h
  obtain ⟨e0, e1, e2⟩ := bt3 a b c
  have : (⟨#[a, b, c]⟩ : ByteArray).extract 0 2 ++ ⟨#[v]⟩ = ⟨#[a, b, v]⟩ := rfl
  rw [this]
  simp [txtOf, List.range, List.range.loop, e0, e1]
/-- What l02Part answers. -/
def ptV (o : Option Nat) (x : Bool) : Value := .tuple #[.int .i64 (match o with | some n => (n : Int) | none => -1), .bool (o.isSome && x)]
theorem ptS_sz {t : ByteArray} (h : t.size = 3) (lo hi : UInt8) : (fixT t lo hi).size = 3 := by
  obtain ⟨a, b, c, rfl⟩ := three_of h
  unfold fixT
  split
  · rfl
  · split <;> rfl
theorem fixS_lo {t : ByteArray} {lo hi : UInt8} (h : bt t 2 = (lo.toNat : Int)) : fixT t lo hi = t.extract 0 2 ++ ⟨#[120]⟩ ∧ isX t lo hi = true := by
  unfold fixT isX
  rw [if_pos h]
  simp [h]
theorem fixS_hi {t : ByteArray} {lo hi : UInt8} (h0 : ¬ bt t 2 = (lo.toNat : Int)) (h : bt t 2 = (hi.toNat : Int)) : fixT t lo hi = t.extract 0 2 ++ ⟨#[45]⟩ ∧ isX t lo hi = true := by
  unfold fixT isX
  rw [if_neg h0, if_pos h]
  simp [h]
theorem fixS_no {t : ByteArray} {lo hi : UInt8} (h0 : ¬ bt t 2 = (lo.toNat : Int)) (h : ¬ bt t 2 = (hi.toNat : Int)) : fixT t lo hi = t ∧ isX t lo hi = false := by
  unfold fixT isX
  rw [if_neg h0, if_neg h]
  simp [h0, h]
set_option maxHeartbeats 8000000 in
theorem part115_no (t : ByteArray) (ht : t.size = 3) (h0 : bt t 2 ≠ 115) (h1 : bt t 2 ≠ 83) (w : World) :
    Calls Tryd.prog 100 #[.string t, .int .u8 115, .int .u8 83] w fun e w' => e = .returned (ptV (rdB (fixT t 115 83)) (isX t 115 83)) ∧ Below w.heap.size w w' := by
  have hbt := get_bt t
  obtain ⟨hf, hx⟩ := fixS_no (lo := 115) (hi := 83) h0 h1
  have hR : Hid (∀ w, Calls Tryd.prog 34 #[.string (fixT t 115 83)] w fun e w' => e = .returned (.agg #[.int .i64 (whN (fixT t 115 83) (rdB (fixT t 115 83))), .int .i64 0, .int .i64 (whC (fixT t 115 83) (rdB (fixT t 115 83)))]) ∧ Below w.heap.size w w') := sBitsRead_any (fixT t 115 83)
  have hz8 : ¬ 8000 < (fixT t 115 83).size := by rw [ptS_sz ht]; decide
  obtain ⟨cap, w1, hcv, hH, hB1, hZ1⟩ := conv3 t w
  rw [ht] at hcv hH
  have hH2 : Hid (Holds w1 w.heap.size (bt t) 3) := hH
  have hT := Holds.text (P := Tryd.prog) 22 5 9 Tryd.underlying22 Tryd.underlying5 Tryd.underlying9 hH (fun i _ => bt_255 t i) cap
  rw [txt_same ht] at hT
  have hW2 : Hid (Below w.heap.size w w1) := hB1
  rw [hf] at hR hz8
  rw [hf]
  generalize hgF : rdB t = O at hR ⊢
  rw [hx]
  have c1 : (bt t 2 == 115) = false := by rw [beq_eq_false_iff_ne]; exact h0
  have c2 : (bt t 2 == 83) = false := by rw [beq_eq_false_iff_ne]; exact h1
  clear hH hB1 hf hx hgF h0 h1
  have hZ : Hid (w.heap.size < w1.heap.size) := hZ1
  clear hZ1
  cases O with
  | none =>
    rw [(wh_none hz8 rfl).1, (wh_none hz8 rfl).2] at hR
    clear hz8
    go_enter Tryd.func100, Tryd.ntmps100
    go_wp2_with (go_at_call 34; refine (hR.out _).mono ?_; rintro e w3 ⟨rfl, hb3⟩)
    go_ret2
    exact ⟨rfl, (hW2.out.trans (hb3.mono hW2.out.size)).alloc (Nat.le_trans hW2.out.size hb3.size) _⟩
  | some n =>
    rw [(wh_some hz8 rfl).1, (wh_some hz8 rfl).2] at hR
    clear hz8
    go_enter Tryd.func100, Tryd.ntmps100
    go_wp2_with (go_at_call 34; refine (hR.out _).mono ?_; rintro e w3 ⟨rfl, hb3⟩)
    go_ret2
    exact ⟨rfl, (hW2.out.trans (hb3.mono hW2.out.size)).alloc (Nat.le_trans hW2.out.size hb3.size) _⟩
set_option maxHeartbeats 8000000 in
theorem part115_lo (t : ByteArray) (ht : t.size = 3) (h1 : bt t 2 = 115) (w : World) :
    Calls Tryd.prog 100 #[.string t, .int .u8 115, .int .u8 83] w fun e w' => e = .returned (ptV (rdB (fixT t 115 83)) (isX t 115 83)) ∧ Below w.heap.size w w' := by
  have hbt := get_bt t
  obtain ⟨hf, hx⟩ := fixS_lo (lo := 115) (hi := 83) h1
  have hR : Hid (∀ w, Calls Tryd.prog 34 #[.string (fixT t 115 83)] w fun e w' => e = .returned (.agg #[.int .i64 (whN (fixT t 115 83) (rdB (fixT t 115 83))), .int .i64 0, .int .i64 (whC (fixT t 115 83) (rdB (fixT t 115 83)))]) ∧ Below w.heap.size w w') := sBitsRead_any (fixT t 115 83)
  have hz8 : ¬ 8000 < (fixT t 115 83).size := by rw [ptS_sz ht]; decide
  obtain ⟨cap, w1, hcv, hH, hB1, hZ1⟩ := conv3 t w
  rw [ht] at hcv hH
  have g2 : w1.cell? ⟨w.heap.size, 2, none⟩ = some (.int .u8 (bt t 2)) := hH.1 2 (by decide)
  have f2 : w1.frozen? ⟨w.heap.size, 2, none⟩ = false := hH.2 2 (by decide)
  have hT := Holds.text (P := Tryd.prog) 22 5 9 Tryd.underlying22 Tryd.underlying5 Tryd.underlying9 (hH.set 2 (by decide) 120) (fun i _ => by
    show 0 ≤ (if i = 2 then (120 : Int) else bt t i) ∧ (if i = 2 then (120 : Int) else bt t i) ≤ 255
    split
    · decide
    · exact bt_255 t i) cap
  rw [show (fun k => if k = 2 then (120 : Int) else bt t k) = (fun k => if k = 2 then (((120 : UInt8).toNat : Nat) : Int) else bt t k) from rfl, txt_put ht] at hT
  have hW2 : Hid (Below w.heap.size w (w1.setCell ⟨w.heap.size, 2, none⟩ (.int .u8 120))) := hB1.setCell (Nat.le_refl _) _
  rw [← hf] at hT
  generalize hgF : fixT t 115 83 = F at hR hT hz8 ⊢
  generalize hgO : rdB F = O at hR ⊢
  rw [hx]
  have c1 : (bt t 2 == 115) = true := by rw [h1]; rfl
  clear hH hB1 hf hx hgF hgO h1
  have hZ : Hid (w.heap.size < w1.heap.size) := hZ1
  clear hZ1
  cases O with
  | none =>
    rw [(wh_none hz8 rfl).1, (wh_none hz8 rfl).2] at hR
    clear hz8
    go_enter Tryd.func100, Tryd.ntmps100
    go_wp2_with (go_at_call 34; refine (hR.out _).mono ?_; rintro e w3 ⟨rfl, hb3⟩)
    go_ret2
    exact ⟨rfl, (hW2.out.trans (hb3.mono hW2.out.size)).alloc (Nat.le_trans hW2.out.size hb3.size) _⟩
  | some n =>
    rw [(wh_some hz8 rfl).1, (wh_some hz8 rfl).2] at hR
    clear hz8
    go_enter Tryd.func100, Tryd.ntmps100
    go_wp2_with (go_at_call 34; refine (hR.out _).mono ?_; rintro e w3 ⟨rfl, hb3⟩)
    go_ret2
    exact ⟨rfl, (hW2.out.trans (hb3.mono hW2.out.size)).alloc (Nat.le_trans hW2.out.size hb3.size) _⟩
set_option maxHeartbeats 8000000 in
theorem part115_hi (t : ByteArray) (ht : t.size = 3) (h0 : bt t 2 ≠ 115) (h1 : bt t 2 = 83) (w : World) :
    Calls Tryd.prog 100 #[.string t, .int .u8 115, .int .u8 83] w fun e w' => e = .returned (ptV (rdB (fixT t 115 83)) (isX t 115 83)) ∧ Below w.heap.size w w' := by
  have hbt := get_bt t
  obtain ⟨hf, hx⟩ := fixS_hi (lo := 115) (hi := 83) h0 h1
  have hR : Hid (∀ w, Calls Tryd.prog 34 #[.string (fixT t 115 83)] w fun e w' => e = .returned (.agg #[.int .i64 (whN (fixT t 115 83) (rdB (fixT t 115 83))), .int .i64 0, .int .i64 (whC (fixT t 115 83) (rdB (fixT t 115 83)))]) ∧ Below w.heap.size w w') := sBitsRead_any (fixT t 115 83)
  have hz8 : ¬ 8000 < (fixT t 115 83).size := by rw [ptS_sz ht]; decide
  obtain ⟨cap, w1, hcv, hH, hB1, hZ1⟩ := conv3 t w
  rw [ht] at hcv hH
  have g2 : w1.cell? ⟨w.heap.size, 2, none⟩ = some (.int .u8 (bt t 2)) := hH.1 2 (by decide)
  have f2 : w1.frozen? ⟨w.heap.size, 2, none⟩ = false := hH.2 2 (by decide)
  have hT := Holds.text (P := Tryd.prog) 22 5 9 Tryd.underlying22 Tryd.underlying5 Tryd.underlying9 (hH.set 2 (by decide) 45) (fun i _ => by
    show 0 ≤ (if i = 2 then (45 : Int) else bt t i) ∧ (if i = 2 then (45 : Int) else bt t i) ≤ 255
    split
    · decide
    · exact bt_255 t i) cap
  rw [show (fun k => if k = 2 then (45 : Int) else bt t k) = (fun k => if k = 2 then (((45 : UInt8).toNat : Nat) : Int) else bt t k) from rfl, txt_put ht] at hT
  have hW2 : Hid (Below w.heap.size w (w1.setCell ⟨w.heap.size, 2, none⟩ (.int .u8 45))) := hB1.setCell (Nat.le_refl _) _
  rw [← hf] at hT
  generalize hgF : fixT t 115 83 = F at hR hT hz8 ⊢
  generalize hgO : rdB F = O at hR ⊢
  rw [hx]
  have c1 : (bt t 2 == 115) = false := by rw [beq_eq_false_iff_ne]; exact h0
  have c2 : (bt t 2 == 83) = true := by rw [h1]; rfl
  clear hH hB1 hf hx hgF hgO h0 h1
  have hZ : Hid (w.heap.size < w1.heap.size) := hZ1
  clear hZ1
  cases O with
  | none =>
    rw [(wh_none hz8 rfl).1, (wh_none hz8 rfl).2] at hR
    clear hz8
    go_enter Tryd.func100, Tryd.ntmps100
    go_wp2_with (go_at_call 34; refine (hR.out _).mono ?_; rintro e w3 ⟨rfl, hb3⟩)
    go_ret2
    exact ⟨rfl, (hW2.out.trans (hb3.mono hW2.out.size)).alloc (Nat.le_trans hW2.out.size hb3.size) _⟩
  | some n =>
    rw [(wh_some hz8 rfl).1, (wh_some hz8 rfl).2] at hR
    clear hz8
    go_enter Tryd.func100, Tryd.ntmps100
    go_wp2_with (go_at_call 34; refine (hR.out _).mono ?_; rintro e w3 ⟨rfl, hb3⟩)
    go_ret2
    exact ⟨rfl, (hW2.out.trans (hb3.mono hW2.out.size)).alloc (Nat.le_trans hW2.out.size hb3.size) _⟩
theorem part115_any (t : ByteArray) (ht : t.size = 3) (w : World) :
    Calls Tryd.prog 100 #[.string t, .int .u8 115, .int .u8 83] w fun e w' => e = .returned (ptV (rdB (fixT t 115 83)) (isX t 115 83)) ∧ Below w.heap.size w w' := by
  by_cases h0 : bt t 2 = 115
  · exact part115_lo t ht h0 w
  · by_cases h1 : bt t 2 = 83
    · exact part115_hi t ht h0 h1 w
    · exact part115_no t ht h0 h1 w
set_option maxHeartbeats 8000000 in
theorem part116_no (t : ByteArray) (ht : t.size = 3) (h0 : bt t 2 ≠ 116) (h1 : bt t 2 ≠ 84) (w : World) :
    Calls Tryd.prog 100 #[.string t, .int .u8 116, .int .u8 84] w fun e w' => e = .returned (ptV (rdB (fixT t 116 84)) (isX t 116 84)) ∧ Below w.heap.size w w' := by
  have hbt := get_bt t
  obtain ⟨hf, hx⟩ := fixS_no (lo := 116) (hi := 84) h0 h1
  have hR : Hid (∀ w, Calls Tryd.prog 34 #[.string (fixT t 116 84)] w fun e w' => e = .returned (.agg #[.int .i64 (whN (fixT t 116 84) (rdB (fixT t 116 84))), .int .i64 0, .int .i64 (whC (fixT t 116 84) (rdB (fixT t 116 84)))]) ∧ Below w.heap.size w w') := sBitsRead_any (fixT t 116 84)
  have hz8 : ¬ 8000 < (fixT t 116 84).size := by rw [ptS_sz ht]; decide
  obtain ⟨cap, w1, hcv, hH, hB1, hZ1⟩ := conv3 t w
  rw [ht] at hcv hH
  have hH2 : Hid (Holds w1 w.heap.size (bt t) 3) := hH
  have hT := Holds.text (P := Tryd.prog) 22 5 9 Tryd.underlying22 Tryd.underlying5 Tryd.underlying9 hH (fun i _ => bt_255 t i) cap
  rw [txt_same ht] at hT
  have hW2 : Hid (Below w.heap.size w w1) := hB1
  rw [hf] at hR hz8
  rw [hf]
  generalize hgF : rdB t = O at hR ⊢
  rw [hx]
  have c1 : (bt t 2 == 116) = false := by rw [beq_eq_false_iff_ne]; exact h0
  have c2 : (bt t 2 == 84) = false := by rw [beq_eq_false_iff_ne]; exact h1
  clear hH hB1 hf hx hgF h0 h1
  have hZ : Hid (w.heap.size < w1.heap.size) := hZ1
  clear hZ1
  cases O with
  | none =>
    rw [(wh_none hz8 rfl).1, (wh_none hz8 rfl).2] at hR
    clear hz8
    go_enter Tryd.func100, Tryd.ntmps100
    go_wp2_with (go_at_call 34; refine (hR.out _).mono ?_; rintro e w3 ⟨rfl, hb3⟩)
    go_ret2
    exact ⟨rfl, (hW2.out.trans (hb3.mono hW2.out.size)).alloc (Nat.le_trans hW2.out.size hb3.size) _⟩
  | some n =>
    rw [(wh_some hz8 rfl).1, (wh_some hz8 rfl).2] at hR
    clear hz8
    go_enter Tryd.func100, Tryd.ntmps100
    go_wp2_with (go_at_call 34; refine (hR.out _).mono ?_; rintro e w3 ⟨rfl, hb3⟩)
    go_ret2
    exact ⟨rfl, (hW2.out.trans (hb3.mono hW2.out.size)).alloc (Nat.le_trans hW2.out.size hb3.size) _⟩
set_option maxHeartbeats 8000000 in
theorem part116_lo (t : ByteArray) (ht : t.size = 3) (h1 : bt t 2 = 116) (w : World) :
    Calls Tryd.prog 100 #[.string t, .int .u8 116, .int .u8 84] w fun e w' => e = .returned (ptV (rdB (fixT t 116 84)) (isX t 116 84)) ∧ Below w.heap.size w w' := by
  have hbt := get_bt t
  obtain ⟨hf, hx⟩ := fixS_lo (lo := 116) (hi := 84) h1
  have hR : Hid (∀ w, Calls Tryd.prog 34 #[.string (fixT t 116 84)] w fun e w' => e = .returned (.agg #[.int .i64 (whN (fixT t 116 84) (rdB (fixT t 116 84))), .int .i64 0, .int .i64 (whC (fixT t 116 84) (rdB (fixT t 116 84)))]) ∧ Below w.heap.size w w') := sBitsRead_any (fixT t 116 84)
  have hz8 : ¬ 8000 < (fixT t 116 84).size := by rw [ptS_sz ht]; decide
  obtain ⟨cap, w1, hcv, hH, hB1, hZ1⟩ := conv3 t w
  rw [ht] at hcv hH
  have g2 : w1.cell? ⟨w.heap.size, 2, none⟩ = some (.int .u8 (bt t 2)) := hH.1 2 (by decide)
  have f2 : w1.frozen? ⟨w.heap.size, 2, none⟩ = false := hH.2 2 (by decide)
  have hT := Holds.text (P := Tryd.prog) 22 5 9 Tryd.underlying22 Tryd.underlying5 Tryd.underlying9 (hH.set 2 (by decide) 120) (fun i _ => by
    show 0 ≤ (if i = 2 then (120 : Int) else bt t i) ∧ (if i = 2 then (120 : Int) else bt t i) ≤ 255
    split
    · decide
    · exact bt_255 t i) cap
  rw [show (fun k => if k = 2 then (120 : Int) else bt t k) = (fun k => if k = 2 then (((120 : UInt8).toNat : Nat) : Int) else bt t k) from rfl, txt_put ht] at hT
  have hW2 : Hid (Below w.heap.size w (w1.setCell ⟨w.heap.size, 2, none⟩ (.int .u8 120))) := hB1.setCell (Nat.le_refl _) _
  rw [← hf] at hT
  generalize hgF : fixT t 116 84 = F at hR hT hz8 ⊢
  generalize hgO : rdB F = O at hR ⊢
  rw [hx]
  have c1 : (bt t 2 == 116) = true := by rw [h1]; rfl
  clear hH hB1 hf hx hgF hgO h1
  have hZ : Hid (w.heap.size < w1.heap.size) := hZ1
  clear hZ1
  cases O with
  | none =>
    rw [(wh_none hz8 rfl).1, (wh_none hz8 rfl).2] at hR
    clear hz8
    go_enter Tryd.func100, Tryd.ntmps100
    go_wp2_with (go_at_call 34; refine (hR.out _).mono ?_; rintro e w3 ⟨rfl, hb3⟩)
    go_ret2
    exact ⟨rfl, (hW2.out.trans (hb3.mono hW2.out.size)).alloc (Nat.le_trans hW2.out.size hb3.size) _⟩
  | some n =>
    rw [(wh_some hz8 rfl).1, (wh_some hz8 rfl).2] at hR
    clear hz8
    go_enter Tryd.func100, Tryd.ntmps100
    go_wp2_with (go_at_call 34; refine (hR.out _).mono ?_; rintro e w3 ⟨rfl, hb3⟩)
    go_ret2
    exact ⟨rfl, (hW2.out.trans (hb3.mono hW2.out.size)).alloc (Nat.le_trans hW2.out.size hb3.size) _⟩
set_option maxHeartbeats 8000000 in
theorem part116_hi (t : ByteArray) (ht : t.size = 3) (h0 : bt t 2 ≠ 116) (h1 : bt t 2 = 84) (w : World) :
    Calls Tryd.prog 100 #[.string t, .int .u8 116, .int .u8 84] w fun e w' => e = .returned (ptV (rdB (fixT t 116 84)) (isX t 116 84)) ∧ Below w.heap.size w w' := by
  have hbt := get_bt t
  obtain ⟨hf, hx⟩ := fixS_hi (lo := 116) (hi := 84) h0 h1
  have hR : Hid (∀ w, Calls Tryd.prog 34 #[.string (fixT t 116 84)] w fun e w' => e = .returned (.agg #[.int .i64 (whN (fixT t 116 84) (rdB (fixT t 116 84))), .int .i64 0, .int .i64 (whC (fixT t 116 84) (rdB (fixT t 116 84)))]) ∧ Below w.heap.size w w') := sBitsRead_any (fixT t 116 84)
  have hz8 : ¬ 8000 < (fixT t 116 84).size := by rw [ptS_sz ht]; decide
  obtain ⟨cap, w1, hcv, hH, hB1, hZ1⟩ := conv3 t w
  rw [ht] at hcv hH
  have g2 : w1.cell? ⟨w.heap.size, 2, none⟩ = some (.int .u8 (bt t 2)) := hH.1 2 (by decide)
  have f2 : w1.frozen? ⟨w.heap.size, 2, none⟩ = false := hH.2 2 (by decide)
  have hT := Holds.text (P := Tryd.prog) 22 5 9 Tryd.underlying22 Tryd.underlying5 Tryd.underlying9 (hH.set 2 (by decide) 45) (fun i _ => by
    show 0 ≤ (if i = 2 then (45 : Int) else bt t i) ∧ (if i = 2 then (45 : Int) else bt t i) ≤ 255
    split
    · decide
    · exact bt_255 t i) cap
  rw [show (fun k => if k = 2 then (45 : Int) else bt t k) = (fun k => if k = 2 then (((45 : UInt8).toNat : Nat) : Int) else bt t k) from rfl, txt_put ht] at hT
  have hW2 : Hid (Below w.heap.size w (w1.setCell ⟨w.heap.size, 2, none⟩ (.int .u8 45))) := hB1.setCell (Nat.le_refl _) _
  rw [← hf] at hT
  generalize hgF : fixT t 116 84 = F at hR hT hz8 ⊢
  generalize hgO : rdB F = O at hR ⊢
  rw [hx]
  have c1 : (bt t 2 == 116) = false := by rw [beq_eq_false_iff_ne]; exact h0
  have c2 : (bt t 2 == 84) = true := by rw [h1]; rfl
  clear hH hB1 hf hx hgF hgO h0 h1
  have hZ : Hid (w.heap.size < w1.heap.size) := hZ1
  clear hZ1
  cases O with
  | none =>
    rw [(wh_none hz8 rfl).1, (wh_none hz8 rfl).2] at hR
    clear hz8
    go_enter Tryd.func100, Tryd.ntmps100
    go_wp2_with (go_at_call 34; refine (hR.out _).mono ?_; rintro e w3 ⟨rfl, hb3⟩)
    go_ret2
    exact ⟨rfl, (hW2.out.trans (hb3.mono hW2.out.size)).alloc (Nat.le_trans hW2.out.size hb3.size) _⟩
  | some n =>
    rw [(wh_some hz8 rfl).1, (wh_some hz8 rfl).2] at hR
    clear hz8
    go_enter Tryd.func100, Tryd.ntmps100
    go_wp2_with (go_at_call 34; refine (hR.out _).mono ?_; rintro e w3 ⟨rfl, hb3⟩)
    go_ret2
    exact ⟨rfl, (hW2.out.trans (hb3.mono hW2.out.size)).alloc (Nat.le_trans hW2.out.size hb3.size) _⟩
theorem part116_any (t : ByteArray) (ht : t.size = 3) (w : World) :
    Calls Tryd.prog 100 #[.string t, .int .u8 116, .int .u8 84] w fun e w' => e = .returned (ptV (rdB (fixT t 116 84)) (isX t 116 84)) ∧ Below w.heap.size w w' := by
  by_cases h0 : bt t 2 = 116
  · exact part116_lo t ht h0 w
  · by_cases h1 : bt t 2 = 84
    · exact part116_hi t ht h0 h1 w
    · exact part116_no t ht h0 h1 w
end Go.Proofs.YtibofkjonepbpaaDoor
