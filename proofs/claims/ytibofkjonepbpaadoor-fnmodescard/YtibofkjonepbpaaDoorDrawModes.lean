/- The draws of FnModes: numbers, and texts. -/
import Derived.Test.YtibofkjonepbpaaDoorDrawText
import Derived.Test.YtibofkjonepbpaaDoorBitsTextWalks
import Derived.Test.YtibofkjonepbpaaDoorSModeText
import Derived.Test.YtibofkjonepbpaaDoorOctTextWalks
import Derived.Test.YtibofkjonepbpaaDoorBoth
namespace Go.Proofs.YtibofkjonepbpaaDoor
open Go.RowKit
set_option linter.unusedVariables false
theorem lits6 (w : World) (a b c d e f : ByteArray) (t : TypeId) (h : a.size ≤ 1000 ∧ b.size ≤ 1000 ∧ c.size ≤ 1000 ∧ d.size ≤ 1000 ∧ e.size ≤ 1000 ∧ f.size ≤ 1000) : ∀ j, j < 6 → ∃ x, (w.alloc (.cells #[.string a, .string b, .string c, .string d, .string e, .string f] t)).cell? ⟨w.heap.size, j, none⟩ = some (.string x) ∧ x.size ≤ 1000 := by
  intro j hj
  rw [lit_cell]
  match j, hj with
  | 0, _ => exact ⟨a, rfl, h.1⟩
  | 1, _ => exact ⟨b, rfl, h.2.1⟩
  | 2, _ => exact ⟨c, rfl, h.2.2.1⟩
  | 3, _ => exact ⟨d, rfl, h.2.2.2.1⟩
  | 4, _ => exact ⟨e, rfl, h.2.2.2.2.1⟩
  | 5, _ => exact ⟨f, rfl, h.2.2.2.2.2⟩
theorem lits5 (w : World) (a b c d e : ByteArray) (t : TypeId) (h : a.size ≤ 1000 ∧ b.size ≤ 1000 ∧ c.size ≤ 1000 ∧ d.size ≤ 1000 ∧ e.size ≤ 1000) : ∀ j, j < 5 → ∃ x, (w.alloc (.cells #[.string a, .string b, .string c, .string d, .string e] t)).cell? ⟨w.heap.size, j, none⟩ = some (.string x) ∧ x.size ≤ 1000 := by
  intro j hj
  rw [lit_cell]
  match j, hj with
  | 0, _ => exact ⟨a, rfl, h.1⟩
  | 1, _ => exact ⟨b, rfl, h.2.1⟩
  | 2, _ => exact ⟨c, rfl, h.2.2.1⟩
  | 3, _ => exact ⟨d, rfl, h.2.2.2.1⟩
  | 4, _ => exact ⟨e, rfl, h.2.2.2.2⟩
theorem bitsS_size (n : Int) : (bitsS n).size ≤ 3 := by
  unfold bitsS
  split
  · exact Nat.le_of_eq (bitsT_size _)
  · simp [ByteArray.size]
theorem modeS_size (n : Int) : (modeS n).size ≤ 9 := by
  unfold modeS
  split
  · simp only [modeT, m1, m2, m3, ByteArray.size_append, thr_size]
    omega
  · simp [ByteArray.size]
theorem octS_size (n : Int) : (octS n).size ≤ 4 := by
  unfold octS
  split
  · exact Nat.le_of_eq (octT_size _)
  · simp [ByteArray.size]
theorem Src.below {a : Option Addr} {len cap : Nat} {g : Nat → Int} {p : Nat} {w w' : World} (h : Src a len cap g p w) (hb : Below w.heap.size w w') : Src a len cap g p w' :=
  h.kept (fun k hk => hb.block k (Nat.lt_of_le_of_lt hk h.pos))
set_option maxRecDepth 100000 in
theorem dDrawBitsText_any (a : Option Addr) (len cap : Nat) (g : Nat → Int) (w : World) (hc : Code a len g w.heap.size w) :
    Calls Tryd.prog 18 #[.slice a len cap] w fun e w' => ∃ r : Int, e = .returned (.int .i64 r) ∧ -1 ≤ r ∧ r ≤ 8 ∧ Below w.heap.size w w' := by
  have HC : Hid (Code a len g w.heap.size w) := hc
  clear hc
  go_enter Tryd.func18, Tryd.ntmps18
  go_wp2_with fail
  refine (source_any a len cap g _ HC.out).mono ?_
  rintro e w1 ⟨rfl, hs1, hb1⟩
  go_wp2_with fail
  refine (drBits_any a len cap g _ _ hs1).mono ?_
  rintro e w2 ⟨r, rfl, r1, r2, hs2, ho2⟩
  have HB : Hid (Below w.heap.size w w2) := ho2.below hb1 (Nat.le_refl _) hb1.size
  clear hs1 hs2 ho2 hb1
  go_wp2
  go_ret
  exact ⟨r, rfl, r1, r2, HB.out⟩
set_option maxRecDepth 100000 in
theorem dDrawModeText_any (a : Option Addr) (len cap : Nat) (g : Nat → Int) (w : World) (hc : Code a len g w.heap.size w) :
    Calls Tryd.prog 19 #[.slice a len cap] w fun e w' => ∃ r : Int, e = .returned (.int .i64 r) ∧ -1 ≤ r ∧ r ≤ 4096 ∧ Below w.heap.size w w' := by
  have HC : Hid (Code a len g w.heap.size w) := hc
  clear hc
  go_enter Tryd.func19, Tryd.ntmps19
  go_wp2_with fail
  refine (source_any a len cap g _ HC.out).mono ?_
  rintro e w1 ⟨rfl, hs1, hb1⟩
  go_wp2_with fail
  refine (drMode_any a len cap g _ _ hs1).mono ?_
  rintro e w2 ⟨r, rfl, r1, r2, hs2, ho2⟩
  have HB : Hid (Below w.heap.size w w2) := ho2.below hb1 (Nat.le_refl _) hb1.size
  clear hs1 hs2 ho2 hb1
  go_wp2
  go_ret
  exact ⟨r, rfl, r1, r2, HB.out⟩
set_option maxRecDepth 100000 in
theorem dDrawOctText_any (a : Option Addr) (len cap : Nat) (g : Nat → Int) (w : World) (hc : Code a len g w.heap.size w) :
    Calls Tryd.prog 20 #[.slice a len cap] w fun e w' => ∃ r : Int, e = .returned (.int .i64 r) ∧ -1 ≤ r ∧ r ≤ 4096 ∧ Below w.heap.size w w' := by
  have HC : Hid (Code a len g w.heap.size w) := hc
  clear hc
  go_enter Tryd.func20, Tryd.ntmps20
  go_wp2_with fail
  refine (source_any a len cap g _ HC.out).mono ?_
  rintro e w1 ⟨rfl, hs1, hb1⟩
  go_wp2_with fail
  refine (drMode_any a len cap g _ _ hs1).mono ?_
  rintro e w2 ⟨r, rfl, r1, r2, hs2, ho2⟩
  have HB : Hid (Below w.heap.size w w2) := ho2.below hb1 (Nat.le_refl _) hb1.size
  clear hs1 hs2 ho2 hb1
  go_wp2
  go_ret
  exact ⟨r, rfl, r1, r2, HB.out⟩
set_option maxRecDepth 100000 in
set_option maxHeartbeats 2000000 in
theorem dDrawBitsRead_any (a : Option Addr) (len cap : Nat) (g : Nat → Int) (w : World) (hc : Code a len g w.heap.size w) :
    Calls Tryd.prog 21 #[.slice a len cap] w fun e w' => ∃ t : ByteArray, t.size ≤ 1000 ∧ e = .returned (.string t) ∧ Below w.heap.size w w' := by
  have HC : Hid (Code a len g w.heap.size w) := hc
  clear hc
  go_enter Tryd.func21, Tryd.ntmps21
  go_wp2_with fail
  refine (source_any a len cap g _ HC.out).mono ?_
  rintro e w1 ⟨rfl, hs1, hb1⟩
  go_wp2_with fail
  refine (drBits_any a len cap g _ _ hs1).mono ?_
  rintro e w2 ⟨r, rfl, r1, r2, hs2, ho2⟩
  have hb2 : Below w.heap.size w w2 := ho2.below hb1 (Nat.le_refl _) hb1.size
  have hz := bitsS_size r
  have hT : Hid (∀ w, Calls Tryd.prog 31 #[.int .i64 r] w fun e w' => e = .returned (.string (bitsS r)) ∧ w' = w) := sBitsText_any r
  generalize bitsS r = t at hT hz
  clear hs1 ho2 hb1 HC
  go_wp2_with (go_at_call 31; refine (hT.out _).mono ?_; rintro e w3 ⟨rfl, rfl⟩)
  refine (one_any a len cap g _ _ (by decide) _ hs2).mono ?_
  rintro e w4 ⟨r, rfl, hs4, ho4⟩
  have HB : Hid (Below w.heap.size w w4) := ho4.below hb2 (Nat.le_refl _) hb2.size
  clear ho4 hs2 hb2
  cases r
  · go_wp2
    go_ret
    exact ⟨t, by omega, rfl, HB.out⟩
  · go_wp2_with fail
    refine (spoil_any a len cap g _ t (by omega) _ hs4).mono ?_
    rintro e w5 ⟨t', ht', rfl, hs5, ho5⟩
    have HB5 : Hid (Below w.heap.size w w5) := ho5.below HB.out (Nat.le_refl _) HB.out.size
    clear ho5 hs5 hs4
    go_wp2
    go_ret
    exact ⟨t', by omega, rfl, HB5.out⟩
set_option maxRecDepth 100000 in
set_option maxHeartbeats 2000000 in
theorem dDrawModeRead_any (a : Option Addr) (len cap : Nat) (g : Nat → Int) (w : World) (hc : Code a len g w.heap.size w) :
    Calls Tryd.prog 22 #[.slice a len cap] w fun e w' => ∃ t : ByteArray, t.size ≤ 1000 ∧ e = .returned (.string t) ∧ Below w.heap.size w w' := by
  have HC : Hid (Code a len g w.heap.size w) := hc
  clear hc
  go_enter Tryd.func22, Tryd.ntmps22
  go_wp2_with fail
  refine (source_any a len cap g _ HC.out).mono ?_
  rintro e w1 ⟨rfl, hs1, hb1⟩
  go_wp2_with fail
  refine (drMode_any a len cap g _ _ hs1).mono ?_
  rintro e w2 ⟨r, rfl, r1, r2, hs2, ho2⟩
  have hb2 : Below w.heap.size w w2 := ho2.below hb1 (Nat.le_refl _) hb1.size
  have hz := modeS_size r
  have hT : Hid (∀ w, Calls Tryd.prog 32 #[.int .i64 r] w fun e w' => e = .returned (.string (modeS r)) ∧ w' = w) := sModeText_any r
  generalize modeS r = t at hT hz
  clear hs1 ho2 hb1 HC
  go_wp2_with fail
  refine (hT.out _).mono ?_
  rintro e w3 ⟨rfl, rfl⟩
  go_wp2_with fail
  refine (n_any a len cap g _ _ (by decide) _ hs2).mono ?_
  rintro e w4 ⟨x, rfl, x1, x2, hs4, ho4⟩
  have HB : Hid (Below w.heap.size w w4) := ho4.below hb2 (Nat.le_refl _) hb2.size
  have hpz := hs4.pos
  clear ho4 hs2 hb2
  by_cases e0 : x = 0
  · subst e0
    go_wp2_with fail
    refine (spoil_any a len cap g _ t (by omega) _ hs4).mono ?_
    rintro e w5 ⟨t', ht', rfl, hs5, ho5⟩
    have HB5 : Hid (Below w.heap.size w w5) := ho5.below HB.out (Nat.le_refl _) HB.out.size
    clear ho5 hs5 hs4
    go_wp2
    go_ret
    exact ⟨t', by omega, rfl, HB5.out⟩
  · have b0 : (x == 0) = false := by simpa using e0
    by_cases e1 : x = 1
    · subst e1
      clear e0
      go_wp2_with fail
      refine (pick_any a len cap g _ _ 6 _ (by omega) (by omega) _ (by simp) (by omega) (lits6 _  _ _ _ _ _ _ _ (by decide)) (src_alloc hs4 _)).mono ?_
      rintro e w5 ⟨t', ht', rfl, hs5, ho5⟩
      have HB5 : Hid (Below w.heap.size w w5) := ho5.below (HB.out.alloc HB.out.size _) (Nat.le_refl _) (by have := HB.out.size; simp; omega)
      clear ho5 hs5 hs4
      go_wp2
      go_ret
      exact ⟨t', ht', rfl, HB5.out⟩
    · have b1 : (x == 1) = false := by simpa using e1
      clear e0 e1
      go_wp2
      go_ret
      exact ⟨t, by omega, rfl, HB.out⟩
set_option maxRecDepth 100000 in
set_option maxHeartbeats 2000000 in
theorem dDrawOctRead_any (a : Option Addr) (len cap : Nat) (g : Nat → Int) (w : World) (hc : Code a len g w.heap.size w) :
    Calls Tryd.prog 23 #[.slice a len cap] w fun e w' => ∃ t : ByteArray, t.size ≤ 1000 ∧ e = .returned (.string t) ∧ Below w.heap.size w w' := by
  have HC : Hid (Code a len g w.heap.size w) := hc
  clear hc
  go_enter Tryd.func23, Tryd.ntmps23
  go_wp2_with fail
  refine (source_any a len cap g _ HC.out).mono ?_
  rintro e w1 ⟨rfl, hs1, hb1⟩
  go_wp2_with fail
  refine (drMode_any a len cap g _ _ hs1).mono ?_
  rintro e w2 ⟨r, rfl, r1, r2, hs2, ho2⟩
  have hb2 : Below w.heap.size w w2 := ho2.below hb1 (Nat.le_refl _) hb1.size
  have hz := octS_size r
  have hT : Hid (∀ w, Calls Tryd.prog 33 #[.int .i64 r] w fun e w' => e = .returned (.string (octS r)) ∧ Below w.heap.size w w') := sOctText_any r
  generalize octS r = t at hT hz
  clear hs1 ho2 hb1 HC
  go_wp2_with fail
  refine (hT.out _).mono ?_
  rintro e w3 ⟨rfl, hb3'⟩
  have hs3 := hs2.below hb3'
  have hb3 : Below w.heap.size w w3 := hb2.trans (hb3'.mono hb2.size)
  clear hs2 hb2 hb3'
  go_wp2_with fail
  refine (n_any a len cap g _ _ (by decide) _ hs3).mono ?_
  rintro e w4 ⟨x, rfl, x1, x2, hs4, ho4⟩
  have HB : Hid (Below w.heap.size w w4) := ho4.below hb3 (Nat.le_refl _) hb3.size
  have hpz := hs4.pos
  clear ho4 hs3 hb3
  by_cases e0 : x = 0
  · subst e0
    go_wp2_with fail
    refine (spoil_any a len cap g _ t (by omega) _ hs4).mono ?_
    rintro e w5 ⟨t', ht', rfl, hs5, ho5⟩
    have HB5 : Hid (Below w.heap.size w w5) := ho5.below HB.out (Nat.le_refl _) HB.out.size
    clear ho5 hs5 hs4
    go_wp2
    go_ret
    exact ⟨t', by omega, rfl, HB5.out⟩
  · have b0 : (x == 0) = false := by simpa using e0
    by_cases e1 : x = 1
    · subst e1
      clear e0
      go_wp2_with fail
      refine (pick_any a len cap g _ _ 5 _ (by omega) (by omega) _ (by simp) (by omega) (lits5 _  _ _ _ _ _ _ (by decide)) (src_alloc hs4 _)).mono ?_
      rintro e w5 ⟨t', ht', rfl, hs5, ho5⟩
      have HB5 : Hid (Below w.heap.size w w5) := ho5.below (HB.out.alloc HB.out.size _) (Nat.le_refl _) (by have := HB.out.size; simp; omega)
      clear ho5 hs5 hs4
      go_wp2
      go_ret
      exact ⟨t', ht', rfl, HB5.out⟩
    · have b1 : (x == 1) = false := by simpa using e1
      clear e0 e1
      go_wp2
      go_ret
      exact ⟨t, by omega, rfl, HB.out⟩
/-- Nothing that was there has turned. -/
def Kpt (w W : World) : Prop := w.heap.size ≤ W.heap.size ∧ Below w.heap.size w W
theorem Kpt.refl (w : World) : Kpt w w := ⟨Nat.le_refl _, Below.refl _ _⟩
theorem Kpt.alloc {w W : World} (o : Obj) (h : Kpt w W) : Kpt w (W.alloc o) := ⟨by have := h.1; simp; omega, h.2.alloc h.1 _⟩
theorem Kpt.drew {w W : World} (h : Kpt w W) : Kpt w W.drew := ⟨h.1, h.2.drew⟩
theorem Kpt.src {a : Option Addr} {len cap : Nat} {g : Nat → Int} {p : Nat} {w W : World} (hs : Src a len cap g p w) (h : Kpt w W) : Src a len cap g p W := hs.below h.2
theorem Kpt.bel {B : Nat} {w0 w W : World} (hb : Below B w0 w) (hB : B ≤ w.heap.size) (h : Kpt w W) : Below B w0 W := hb.trans (h.2.mono hB)
def pk3 (k : Nat) : Int := if k = 0 then -1 else if k = 1 then 65535 else 65536
def pk4 (k : Nat) : Int := if k = 0 then -1 else if k = 1 then 65535 else if k = 2 then 65536 else 0
theorem pk3_cell (w : World) (k : Nat) (h : k < 3) : (w.alloc (.cells #[.int .i64 (-1), .int .i64 65535, .int .i64 65536] 2)).cell? ⟨w.heap.size, k, none⟩ = some (.int .i64 (pk3 k)) := by
  rw [lit_cell]
  match k, h with
  | 0, _ => rfl
  | 1, _ => rfl
  | 2, _ => rfl
theorem pk4_cell (w : World) (k : Nat) (h : k < 4) : (w.alloc (.cells #[.int .i64 (-1), .int .i64 65535, .int .i64 65536, .int .i64 0] 2)).cell? ⟨w.heap.size, k, none⟩ = some (.int .i64 (pk4 k)) := by
  rw [lit_cell]
  match k, h with
  | 0, _ => rfl
  | 1, _ => rfl
  | 2, _ => rfl
  | 3, _ => rfl
end Go.Proofs.YtibofkjonepbpaaDoor
