/- Laid together: DrawBits, DrawText. -/
import Derived.Test.YtedahdncincgjaaGreatDoorNX1
import Derived.BigQuiet
/- The draws of chapter 3: an id, bits, a mode. What is drawn is not told, but its bounds. -/
namespace Go.Proofs.YtedahdncincgjaaGreatDoor
open Go.RowKit
set_option linter.unusedVariables false
theorem lit_cell (w : World) (xs : Array Value) (t : TypeId) (k : Nat) : (w.alloc (.cells xs t)).cell? ⟨w.heap.size, k, none⟩ = xs[k]? := by
  have hb : (w.alloc (.cells xs t)).heap[w.heap.size]? = some (.cells xs t) := blk_new w _
  simp only [World.cell?, hb]
  rfl
theorem pickI2 (w : World) (x y : Int) (t : TypeId) (r : Int) (h0 : 0 ≤ r) (h1 : r < 2) : ∃ z, (z = x ∨ z = y) ∧ (w.alloc (.cells #[.int .i64 x, .int .i64 y] t)).cell? ⟨w.heap.size, r.toNat, none⟩ = some (.int .i64 z) := by
  obtain ⟨k, rfl⟩ := Int.eq_ofNat_of_zero_le h0
  have hk : k < 2 := by omega
  rw [lit_cell, Int.toNat_natCast]
  match k, hk with
  | 0, _ => exact ⟨x, .inl rfl, rfl⟩
  | 1, _ => exact ⟨y, .inr rfl, rfl⟩
theorem pickI3 (w : World) (x y v : Int) (t : TypeId) (r : Int) (h0 : 0 ≤ r) (h1 : r < 3) : ∃ z, (z = x ∨ z = y ∨ z = v) ∧ (w.alloc (.cells #[.int .i64 x, .int .i64 y, .int .i64 v] t)).cell? ⟨w.heap.size, r.toNat, none⟩ = some (.int .i64 z) := by
  obtain ⟨k, rfl⟩ := Int.eq_ofNat_of_zero_le h0
  have hk : k < 3 := by omega
  rw [lit_cell, Int.toNat_natCast]
  match k, hk with
  | 0, _ => exact ⟨x, .inl rfl, rfl⟩
  | 1, _ => exact ⟨y, .inr (.inl rfl), rfl⟩
  | 2, _ => exact ⟨v, .inr (.inr rfl), rfl⟩
set_option maxRecDepth 100000 in
set_option maxHeartbeats 2000000 in
theorem drBits_any (a : Option Addr) (len cap : Nat) (g : Nat → Int) (p : Nat) (w : World) (hs : Src a len cap g p w) :
    Calls Tryz.prog 93 #[.pointer (some ⟨p, 0, none⟩)] w fun e w' => ∃ r : Int, e = .returned (.int .i64 r) ∧ -1 ≤ r ∧ r ≤ 8 ∧ Src a len cap g p w' ∧ Ownp p w w' := by
  have hp := hs.pos
  go_enter Tryz.func93, Tryz.ntmps93
  go_wp2_with (go_at_call 53; refine (one_any a len cap g _ _ (by decide) _ hs).mono ?_; rintro e w1 ⟨r, rfl, hs1, ho1⟩)
  · refine (n_any a len cap g _ _ (by decide) _ (src_alloc hs1 _)).mono ?_
    rintro e w2 ⟨x, rfl, x1, x2, hs2, ho2⟩
    obtain ⟨z, hz, hc⟩ := pickI2 w1 (-1) 8 2 x x1 (by omega)
    have hsz := ho1.size
    have hcx : w2.cell? ⟨w1.heap.size, x.toNat, none⟩ = some (.int .i64 z) := (ho2.cell (by simp) (by omega)).trans hc
    have HO : Hid (Ownp p w w2) := ho1.trans (((Ownp.refl p w1).alloc _).trans ho2)
    have HZ : Hid (-1 ≤ z ∧ z ≤ 8) := (show _ ∧ _ by omega)
    have x3 : x < 2 := by omega
    clear ho1 ho2 hs1 hs x2 hc hz hsz
    go_wp2
    go_ret
    exact ⟨z, rfl, HZ.out.1, HZ.out.2, hs2, HO.out⟩
  · refine (n_any a len cap g _ _ (by decide) _ hs1).mono ?_
    rintro e w2 ⟨x, rfl, x1, x2, hs2, ho2⟩
    have HO : Hid (Ownp p w w2) := ho1.trans ho2
    have x3 : x < 8 := by omega
    clear ho1 ho2 hs1 hs x2
    go_wp2
    go_ret
    exact ⟨x, rfl, by omega, by omega, hs2, HO.out⟩
set_option maxRecDepth 100000 in
set_option maxHeartbeats 2000000 in
theorem drId_any (a : Option Addr) (len cap : Nat) (g : Nat → Int) (p : Nat) (w : World) (hs : Src a len cap g p w) :
    Calls Tryz.prog 55 #[.pointer (some ⟨p, 0, none⟩)] w fun e w' => ∃ r : Int, e = .returned (.int .i64 r) ∧ -1 ≤ r ∧ r ≤ 10000 ∧ Src a len cap g p w' ∧ Ownp p w w' := by
  have hp := hs.pos
  go_enter Tryz.func55, Tryz.ntmps55
  go_wp2_with (go_at_call 53; refine (one_any a len cap g _ _ (by decide) _ hs).mono ?_; rintro e w1 ⟨r, rfl, hs1, ho1⟩)
  · refine (n_any a len cap g _ _ (by decide) _ (src_alloc hs1 _)).mono ?_
    rintro e w2 ⟨x, rfl, x1, x2, hs2, ho2⟩
    obtain ⟨z, hz, hc⟩ := pickI3 w1 (-1) 9999 10000 2 x x1 (by omega)
    have hsz := ho1.size
    have hcx : w2.cell? ⟨w1.heap.size, x.toNat, none⟩ = some (.int .i64 z) := (ho2.cell (by simp) (by omega)).trans hc
    have HO : Hid (Ownp p w w2) := ho1.trans (((Ownp.refl p w1).alloc _).trans ho2)
    have HZ : Hid (-1 ≤ z ∧ z ≤ 10000) := (show _ ∧ _ by omega)
    have x3 : x < 3 := by omega
    clear ho1 ho2 hs1 hs x2 hc hz hsz
    go_wp2
    go_ret
    exact ⟨z, rfl, HZ.out.1, HZ.out.2, hs2, HO.out⟩
  · refine (n_any a len cap g _ _ (by decide) _ hs1).mono ?_
    rintro e w2 ⟨x, rfl, x1, x2, hs2, ho2⟩
    have HO : Hid (Ownp p w w2) := ho1.trans ho2
    have x3 : x < 5 := by omega
    clear ho1 ho2 hs1 hs x2
    go_wp2
    go_ret
    exact ⟨x, rfl, by omega, by omega, hs2, HO.out⟩
theorem one_byte_text (w : World) (z : UInt8) :
    (convert 22 9 (.slice (some ⟨w.heap.size, 0, none⟩) 1 1)).run Tryz.prog (w.alloc (.cells #[.int .u8 (z.toNat : Int)] 5)) = .ok (.string ⟨#[z]⟩) (w.alloc (.cells #[.int .u8 (z.toNat : Int)] 5)) :=
  run_convert_text _ 22 5 9 Tryz.underlying22 Tryz.underlying5 Tryz.underlying9 _ 0 [z] 1 1 rfl (row_bytes (l := [z]) (blk_new w _))
set_option maxRecDepth 100000 in
set_option maxHeartbeats 2000000 in
/-- One of some texts. -/
theorem pick_any (a : Option Addr) (len cap : Nat) (g : Nat → Int) (p A n c : Nat) (hn : 1 ≤ n) (hn2 : n ≤ 1000) (w : World) (hA : A < w.heap.size) (hne : A ≠ p) (hc : ∀ j, j < n → ∃ t, w.cell? ⟨A, j, none⟩ = some (.string t) ∧ t.size ≤ 1000) (hs : Src a len cap g p w) :
    Calls Tryz.prog 32 #[.pointer (some ⟨p, 0, none⟩), .slice (some ⟨A, 0, none⟩) n c] w fun e w' => ∃ t, t.size ≤ 1000 ∧ e = .returned (.string t) ∧ Src a len cap g p w' ∧ Ownp p w w' := by
  have HC : Hid (∀ j, j < n → ∃ t, w.cell? ⟨A, j, none⟩ = some (.string t) ∧ t.size ≤ 1000) := hc
  clear hc
  go_enter Tryz.func32, Tryz.ntmps32
  go_wp2_with fail
  refine (n_any a len cap g _ _ (by omega) _ hs).mono ?_
  rintro e w1 ⟨x, rfl, x1, x2, hs1, ho1⟩
  obtain ⟨k, rfl⟩ := Int.eq_ofNat_of_zero_le x1
  have hk : k < n := by omega
  have hk' : (k : Int) < (n : Int) := by omega
  obtain ⟨t, ht0, ht1⟩ := HC.out k hk
  have hcx : w1.cell? ⟨A, k, none⟩ = some (.string t) := (ho1.cell hA hne).trans ht0
  have HO : Hid (Ownp p w w1) := ho1
  have HS : Hid (Src a len cap g p w1) := hs1
  clear ho1 hs1 x2 hs ht0
  go_wp2
  go_ret
  exact ⟨t, ht1, rfl, HS.out, HO.out⟩
theorem cut_sizeT (t : ByteArray) (i j : Nat) (h : j ≤ t.size) (hij : i ≤ j) : (t.extract i j).size = j - i := by
  rw [ByteArray.size_extract]
  omega
set_option maxRecDepth 100000 in
set_option maxHeartbeats 2000000 in
/-- A text that is turned a little. -/
theorem spoil_any (a : Option Addr) (len cap : Nat) (g : Nat → Int) (p : Nat) (t : ByteArray) (ht : t.size ≤ 100000) (w : World) (hs : Src a len cap g p w) :
    Calls Tryz.prog 31 #[.pointer (some ⟨p, 0, none⟩), .string t] w fun e w' => ∃ t', t'.size ≤ t.size + 1 ∧ e = .returned (.string t') ∧ Src a len cap g p w' ∧ Ownp p w w' := by
  have hp := hs.pos
  have hcv := one_byte_text
  go_enter Tryz.func31, Tryz.ntmps31
  go_wp2_with fail
  refine (n_any a len cap g _ _ (by omega) _ hs).mono ?_
  rintro e w1 ⟨x, rfl, x1, x2, hs1, ho1⟩
  obtain ⟨k, rfl⟩ := Int.eq_ofNat_of_zero_le x1
  have hk : k ≤ t.size := by omega
  clear x1 x2
  go_wp2_with fail
  refine (n_any a len cap g _ _ (by omega) _ hs1).mono ?_
  rintro e w2 ⟨y, rfl, y1, y2, hs2, ho2⟩
  obtain ⟨j, rfl⟩ := Int.eq_ofNat_of_zero_le y1
  have hj : j < 17 := by omega
  have hj' : (j : Int) < 17 := by omega
  clear y1 y2
  have HS2 : Hid (∀ o n, Src a len cap g p ((w2.alloc o).drewN n)) := (fun o n => (src_alloc hs2 o).kept (fun _ _ => rfl))
  have HO2 : Hid (∀ o n, Ownp p w ((w2.alloc o).drewN n)) := (fun o n => (((ho1.trans ho2).alloc o).trans ⟨rfl, rfl, rfl, Nat.le_refl _, fun _ _ _ => rfl⟩))
  have HS3 : Hid (∀ o, Src a len cap g p (w2.alloc o)) := (fun o => src_alloc hs2 o)
  have HO3 : Hid (∀ o, Ownp p w (w2.alloc o)) := (fun o => (ho1.trans ho2).alloc o)
  have hk' : (k : Int) ≤ (t.size : Int) := by omega
  have e1 : (t.extract 0 k).size = k := by rw [cut_sizeT _ _ _ hk (Nat.zero_le _)]; omega
  have e2 : (t.extract k t.size).size = t.size - k := cut_sizeT _ _ _ (Nat.le_refl _) hk
  have e3 : (t.extract (k + 1) t.size).size ≤ t.size - k := by rw [ByteArray.size_extract]; omega
  have E1 : Hid (∀ z : UInt8, (t.extract 0 k ++ ⟨#[z]⟩ ++ t.extract k t.size).size ≤ t.size + 1 ∧ (t.extract 0 k ++ ⟨#[z]⟩ ++ t.extract (k + 1) t.size).size ≤ t.size + 1 ∧ (t.extract 0 k ++ t.extract (k + 1) t.size).size ≤ t.size + 1) := (fun z => by
    have a1 : (⟨#[z]⟩ : ByteArray).size = 1 := rfl
    simp only [ByteArray.size_append]
    omega)
  clear e1 e2 e3 hs1 hs2 ho1 ho2 hs
  by_cases hkt : k = t.size
  · have hkb : ((k : Int) == (t.size : Int)) = true := by simp; omega
    clear hkt
    go_wp2_with fail
    go_quiet (fail)
    go_wp2
    go_ret
    exact ⟨_, (E1.out _).1, rfl, HS2.out _ _, HO2.out _ _⟩
  · have hkb : ((k : Int) == (t.size : Int)) = false := by simp; omega
    have hk2 : (k : Int) + 1 ≤ (t.size : Int) := by omega
    clear hkt
    go_wp2_with fail
    refine (one_any a len cap g _ _ (by decide) _ (HS3.out _)).mono ?_
    rintro e w3 ⟨r, rfl, hs3, ho3⟩
    have HO4 : Hid (∀ n, Ownp p w (w3.drewN n)) := (fun n => ((HO3.out _).trans ho3).trans ⟨rfl, rfl, rfl, Nat.le_refl _, fun _ _ _ => rfl⟩)
    have HS4 : Hid (∀ n, Src a len cap g p (w3.drewN n)) := (fun n => hs3.kept (fun _ _ => rfl))
    cases r
    · have HS5 : Hid (Src a len cap g p w3) := hs3
      have HO5 : Hid (Ownp p w w3) := (HO3.out _).trans ho3
      clear HO4 HS4 hs3 ho3
      go_wp2_with fail
      refine (one_any a len cap g _ _ (by decide) _ HS5.out).mono ?_
      rintro e w4 ⟨r, rfl, hs4, ho4⟩
      have HO6 : Hid (∀ n, Ownp p w (w4.drewN n)) := (fun n => (HO5.out.trans ho4).trans ⟨rfl, rfl, rfl, Nat.le_refl _, fun _ _ _ => rfl⟩)
      have HS6 : Hid (∀ n, Src a len cap g p (w4.drewN n)) := (fun n => hs4.kept (fun _ _ => rfl))
      clear hs4 ho4
      cases r
      · go_wp2_with fail
        go_quiet (fail)
        go_wp2
        go_ret
        exact ⟨_, (E1.out _).2.1, rfl, HS6.out _, HO6.out _⟩
      · go_wp2_with fail
        go_quiet (fail)
        go_wp2
        go_ret
        exact ⟨_, (E1.out 0).2.2, rfl, HS6.out _, HO6.out _⟩
    · clear hs3 ho3
      go_wp2_with fail
      go_quiet (fail)
      go_wp2
      go_ret
      exact ⟨_, (E1.out _).1, rfl, HS4.out _, HO4.out _⟩
end Go.Proofs.YtedahdncincgjaaGreatDoor
