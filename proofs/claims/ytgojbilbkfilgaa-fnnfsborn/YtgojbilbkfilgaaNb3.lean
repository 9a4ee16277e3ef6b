/- Laid together: DrawBits. -/
import Derived.Test.YtgojbilbkfilgaaNb2
/- The draws of chapter 3: an id, bits, a mode. What is drawn is not told, but its bounds. -/
namespace Go.Proofs.Ytgojbilbkfilgaa
open Go.RowKit
set_option linter.unusedVariables false
theorem lit_cell (w : World) (xs : Array Value) (t : TypeId) (k : Nat) : (w.alloc (.cells xs t)).cell? ⟨w.heap.size, k, none⟩ = xs[k]? := by
  have hb : (w.alloc (.cells xs t)).heap[w.heap.size]? = some (.cells xs t) := blk_new w _
  simp only [World.cell?, hb]
  rfl
theorem pickI2 (w : World) (x y : Int) (t : TypeId) (r : Int) (h0 : 0 ≤ r) (h1 : r < 2) : ∃ z, (z = x ∨ z = y) ∧ (w.alloc (.cells #[.int .i64 x, .int .i64 y] t)).cell? ⟨w.heap.size, r.toNat, none⟩ = some (.int .i64 z) := by
  obtain ⟨k, rfl⟩ := Int.eq_ofNat_of_zero_le h0
  have hk : k < 2 := by omega
  rw [lit_cell, Int.toNat_natCast]
  match k, hk with
  | 0, _ => exact ⟨x, .inl rfl, rfl⟩
  | 1, _ => exact ⟨y, .inr rfl, rfl⟩
theorem pickI3 (w : World) (x y v : Int) (t : TypeId) (r : Int) (h0 : 0 ≤ r) (h1 : r < 3) : ∃ z, (z = x ∨ z = y ∨ z = v) ∧ (w.alloc (.cells #[.int .i64 x, .int .i64 y, .int .i64 v] t)).cell? ⟨w.heap.size, r.toNat, none⟩ = some (.int .i64 z) := by
  obtain ⟨k, rfl⟩ := Int.eq_ofNat_of_zero_le h0
  have hk : k < 3 := by omega
  rw [lit_cell, Int.toNat_natCast]
  match k, hk with
  | 0, _ => exact ⟨x, .inl rfl, rfl⟩
  | 1, _ => exact ⟨y, .inr (.inl rfl), rfl⟩
  | 2, _ => exact ⟨v, .inr (.inr rfl), rfl⟩
set_option maxRecDepth 100000 in
set_option maxHeartbeats 2000000 in
theorem drBits_any (a : Option Addr) (len cap : Nat) (g : Nat → Int) (p : Nat) (w : World) (hs : Src a len cap g p w) :
    Calls Try.prog 62 #[.pointer (some ⟨p, 0, none⟩)] w fun e w' => ∃ r : Int, e = .returned (.int .i64 r) ∧ -1 ≤ r ∧ r ≤ 8 ∧ Src a len cap g p w' ∧ Ownp p w w' := by
  have hp := hs.pos
  go_enter Try.func62, Try.ntmps62
  go_wp2_with (go_at_call 63; refine (one_any a len cap g _ _ (by decide) _ hs).mono ?_; rintro e w1 ⟨r, rfl, hs1, ho1⟩)
  · refine (n_any a len cap g _ _ (by decide) _ (src_alloc hs1 _)).mono ?_
    rintro e w2 ⟨x, rfl, x1, x2, hs2, ho2⟩
    obtain ⟨z, hz, hc⟩ := pickI2 w1 (-1) 8 2 x x1 (by omega)
    have hsz := ho1.size
    have hcx : w2.cell? ⟨w1.heap.size, x.toNat, none⟩ = some (.int .i64 z) := (ho2.cell (by simp) (by omega)).trans hc
    have HO : Hid (Ownp p w w2) := ho1.trans (((Ownp.refl p w1).alloc _).trans ho2)
    have HZ : Hid (-1 ≤ z ∧ z ≤ 8) := (show _ ∧ _ by omega)
    have x3 : x < 2 := by omega
    clear ho1 ho2 hs1 hs x2 hc hz hsz
    go_wp2
    go_ret
    exact ⟨z, rfl, HZ.out.1, HZ.out.2, hs2, HO.out⟩
  · refine (n_any a len cap g _ _ (by decide) _ hs1).mono ?_
    rintro e w2 ⟨x, rfl, x1, x2, hs2, ho2⟩
    have HO : Hid (Ownp p w w2) := ho1.trans ho2
    have x3 : x < 8 := by omega
    clear ho1 ho2 hs1 hs x2
    go_wp2
    go_ret
    exact ⟨x, rfl, by omega, by omega, hs2, HO.out⟩
set_option maxRecDepth 100000 in
set_option maxHeartbeats 2000000 in
theorem drId_any (a : Option Addr) (len cap : Nat) (g : Nat → Int) (p : Nat) (w : World) (hs : Src a len cap g p w) :
    Calls Try.prog 61 #[.pointer (some ⟨p, 0, none⟩)] w fun e w' => ∃ r : Int, e = .returned (.int .i64 r) ∧ -1 ≤ r ∧ r ≤ 10000 ∧ Src a len cap g p w' ∧ Ownp p w w' := by
  have hp := hs.pos
  go_enter Try.func61, Try.ntmps61
  go_wp2_with (go_at_call 63; refine (one_any a len cap g _ _ (by decide) _ hs).mono ?_; rintro e w1 ⟨r, rfl, hs1, ho1⟩)
  · refine (n_any a len cap g _ _ (by decide) _ (src_alloc hs1 _)).mono ?_
    rintro e w2 ⟨x, rfl, x1, x2, hs2, ho2⟩
    obtain ⟨z, hz, hc⟩ := pickI3 w1 (-1) 9999 10000 2 x x1 (by omega)
    have hsz := ho1.size
    have hcx : w2.cell? ⟨w1.heap.size, x.toNat, none⟩ = some (.int .i64 z) := (ho2.cell (by simp) (by omega)).trans hc
    have HO : Hid (Ownp p w w2) := ho1.trans (((Ownp.refl p w1).alloc _).trans ho2)
    have HZ : Hid (-1 ≤ z ∧ z ≤ 10000) := (show _ ∧ _ by omega)
    have x3 : x < 3 := by omega
    clear ho1 ho2 hs1 hs x2 hc hz hsz
    go_wp2
    go_ret
    exact ⟨z, rfl, HZ.out.1, HZ.out.2, hs2, HO.out⟩
  · refine (n_any a len cap g _ _ (by decide) _ hs1).mono ?_
    rintro e w2 ⟨x, rfl, x1, x2, hs2, ho2⟩
    have HO : Hid (Ownp p w w2) := ho1.trans ho2
    have x3 : x < 5 := by omega
    clear ho1 ho2 hs1 hs x2
    go_wp2
    go_ret
    exact ⟨x, rfl, by omega, by omega, hs2, HO.out⟩
set_option maxRecDepth 100000 in
set_option maxHeartbeats 2000000 in
theorem drMode_any (a : Option Addr) (len cap : Nat) (g : Nat → Int) (p : Nat) (w : World) (hs : Src a len cap g p w) :
    Calls Try.prog 65 #[.pointer (some ⟨p, 0, none⟩)] w fun e w' => ∃ r : Int, e = .returned (.int .i64 r) ∧ -1 ≤ r ∧ r ≤ 4096 ∧ Src a len cap g p w' ∧ Ownp p w w' := by
  have hp := hs.pos
  go_enter Try.func65, Try.ntmps65
  go_wp2_with fail
  refine (one_any a len cap g _ _ (by decide) _ hs).mono ?_
  rintro e w1 ⟨r, rfl, hs1, ho1⟩
  cases r
  · go_wp2_with fail
    refine (one_any a len cap g _ _ (by decide) _ hs1).mono ?_
    rintro e w2 ⟨r, rfl, hs2, ho2⟩
    cases r
    · go_wp2_with fail
      refine (n_any a len cap g _ _ (by decide) _ hs2).mono ?_
      rintro e w3 ⟨x, rfl, x1, x2, hs3, ho3⟩
      have HO : Hid (Ownp p w w3) := (ho1.trans ho2).trans ho3
      have x3 : x < 512 := by omega
      clear ho1 ho2 ho3 hs1 hs2 hs x2
      go_wp2
      go_ret
      exact ⟨x, rfl, by omega, by omega, hs3, HO.out⟩
    · go_wp2_with fail
      refine (n_any a len cap g _ _ (by decide) _ hs2).mono ?_
      rintro e w3 ⟨x, rfl, x1, x2, hs3, ho3⟩
      have HO : Hid (Ownp p w w3) := (ho1.trans ho2).trans ho3
      have x3 : x < 4096 := by omega
      clear ho1 ho2 ho3 hs1 hs2 hs x2
      go_wp2
      go_ret
      exact ⟨x, rfl, by omega, by omega, hs3, HO.out⟩
  · go_wp2_with fail
    refine (n_any a len cap g _ _ (by decide) _ (src_alloc hs1 _)).mono ?_
    rintro e w2 ⟨x, rfl, x1, x2, hs2, ho2⟩
    obtain ⟨z, hz, hc⟩ := pickI3 w1 (-1) 4095 4096 2 x x1 (by omega)
    have hsz := ho1.size
    have hcx : w2.cell? ⟨w1.heap.size, x.toNat, none⟩ = some (.int .i64 z) := (ho2.cell (by simp) (by omega)).trans hc
    have HO : Hid (Ownp p w w2) := ho1.trans (((Ownp.refl p w1).alloc _).trans ho2)
    have HZ : Hid (-1 ≤ z ∧ z ≤ 4096) := (show _ ∧ _ by omega)
    have x3 : x < 3 := by omega
    clear ho1 ho2 hs1 hs x2 hc hz hsz
    go_wp2
    go_ret
    exact ⟨z, rfl, HZ.out.1, HZ.out.2, hs2, HO.out⟩
end Go.Proofs.Ytgojbilbkfilgaa
