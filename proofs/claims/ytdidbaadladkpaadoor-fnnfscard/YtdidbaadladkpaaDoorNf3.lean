/- Laid together: Source, DrawBits. -/
import Derived.Test.YtdidbaadladkpaaDoorNf2
import Derived.Maps.AppendAt
/- The contracts of spec.l01Source and of the source's bytes and edge. -/
namespace Go.Proofs.YtdidbaadladkpaaDoor
open Go.RowKit
set_option linter.unusedVariables false
theorem Code.below {a : Option Addr} {len : Nat} {g : Nat → Int} {w w' : World} (h : Code a len g w.heap.size w) (hb : Below w.heap.size w w') : Code a len g w.heap.size w' :=
  ⟨h.1, h.2.1, fun hl => by
    obtain ⟨b, off, e, hlt, hc⟩ := h.2.2 hl
    exact ⟨b, off, e, hlt, fun i hi => (hb.cell (p := ⟨b, off + i, none⟩) hlt).trans (hc i hi)⟩⟩
theorem infoB : (Tryd.prog.info? 5).map (fun i => (i.zero, i.size, i.bytes)) = some (some (.int .u8 0), 1, 1) := by kernel_rfl
theorem src_alloc {a : Option Addr} {len cap : Nat} {g : Nat → Int} {p : Nat} {w : World} (h : Src a len cap g p w) (o : Obj) : Src a len cap g p (w.alloc o) :=
  h.kept fun k hk => (World.grownBy_alloc w o none).block k (by have := h.pos; omega) (by simp)
/-- A row of the call's own, behind a draw. -/
theorem own_keep {w w1 : World} {B p : Nat} {t : TypeId} {v : Value} {n : Nat} {xs : List Value} (h : w.ownsRow B t 1 v n xs) (ho : Ownp p w w1) (hp : p < B) : w1.ownsRow B t 1 v n xs := by
  refine h.kept ho ?_
  cases hv : v.ownBlock with
  | none => exact .inl rfl
  | some k => exact .inr (by have := own_block h k hv; intro e; cases e; omega)
theorem own_grown {p : Nat} {w w1 w2 : World} {row : Option Nat} (h : Ownp p w w1) (hg : w1.grownBy w2 row) (hr : ∀ k, row = some k → w.heap.size ≤ k) : Ownp p w w2 :=
  ⟨hg.os.trans h.os, hg.tape.trans h.tape, hg.output.trans h.output, Nat.le_trans h.size hg.size, fun k hk hne =>
    (hg.block k (Nat.lt_of_lt_of_le hk h.size) (fun e => by have := hr k e.symm; omega)).trans (h.block k hk hne)⟩
theorem src_grown {a : Option Addr} {len cap : Nat} {g : Nat → Int} {p : Nat} {w w' : World} {row : Option Nat} (h : Src a len cap g p w) (hg : w.grownBy w' row) (hr : ∀ k, row = some k → p < k) : Src a len cap g p w' :=
  h.kept fun k hk => hg.block k (by have := h.pos; omega) (fun e => by have := hr k e.symm; omega)
/-- A row that is owned, as a text; an empty one too. -/
theorem own_text {P : Program} (src e dst : TypeId) (hs : P.underlying src = some (.slice e)) (he : P.underlying e = some (.int .u8)) (hd : P.underlying dst = some .string) {w : World} {B : Nat} {t : TypeId} {v : Value} {l : List UInt8} (h : w.ownsRow B t 1 v l.length (Lib.byteCells l)) :
    ∃ a cap, v = .slice a l.length cap ∧ (convert src dst (.slice a l.length cap)).run P w = .ok (.string ⟨l.toArray⟩) w := by
  by_cases hl : 0 < l.length
  · obtain ⟨g, cap, rfl, hb⟩ := own_bytes h hl
    exact ⟨_, cap, rfl, run_convert_text w src e dst hs he hd g 0 l _ cap rfl hb⟩
  · obtain rfl : l = [] := List.eq_nil_of_length_eq_zero (by omega)
    obtain ⟨_, ⟨rfl, _⟩ | ⟨g, cap, cur, rfl, _, hg, _⟩⟩ := h
    · exact ⟨none, 0, rfl, run_convert_bytes_nil (P := P) w src e hs he 0 0 dst hd⟩
    · exact ⟨_, cap, rfl, run_convert_text w src e dst hs he hd g 0 [] 0 cap rfl (fun i hi => absurd hi (by simp [ByteArray.size]))⟩
theorem wrap_bd (x : Int) : 0 ≤ IntKind.u64.wrap x ∧ IntKind.u64.wrap x ≤ 18446744073709551615 := bounds_u64 (wf_wrap .u64 x)
theorem blk_new (w : World) (x : Obj) : (w.alloc x).heap[w.heap.size]? = some x := by
  rw [World.alloc]
  exact Array.getElem?_push_size
set_option maxRecDepth 100000 in
set_option maxHeartbeats 2000000 in
theorem source_any (a : Option Addr) (len cap : Nat) (g : Nat → Int) (w : World) (hc : Code a len g w.heap.size w) :
    Calls Tryd.prog 39 #[.slice a len cap] w fun e w' => e = .returned (.pointer (some ⟨w.heap.size, 0, none⟩)) ∧ Src a len cap g w.heap.size w' ∧ Below w.heap.size w w' := by
  have HC : Hid (Code a len g w.heap.size w) := hc
  obtain ⟨hlen, hg, hrow⟩ := hc
  have HR : Hid (0 < len → ∃ b off, a = some ⟨b, off, none⟩ ∧ b < w.heap.size ∧ ∀ i, i < len → w.cell? ⟨b, off + i, none⟩ = some (.int .u8 (g i))) := hrow
  have HG : Hid (∀ i, 0 ≤ g i ∧ g i ≤ 255) := hg
  clear hrow hg
  go_enter Tryd.func39, Tryd.ntmps39
  go_wp2
  go_loopw [4] (fun i wr => ∃ (k : Nat) (mix : Int), k ≤ len ∧ k ≤ 64 ∧ i = .int .i64 k ∧ 0 ≤ mix ∧ mix ≤ 18446744073709551615 ∧ Hid (wr.heap[w.heap.size]? = some (srcBlk a len cap 0 mix 0)) ∧ Below w.heap.size w wr) (fun i _ => len - (intOf i).toNat)
  case atStart => exact ⟨0, _, Nat.zero_le _, Nat.zero_le _, rfl, by decide, by decide, blk_new w _, (Below.refl _ _).alloc (Nat.le_refl _) _⟩
  case round =>
    obtain ⟨k, mix, hk, hk2, rfl, m1, m2, hblk, hbel⟩ := hrel
    obtain ⟨⟨k0, k1, k2, k3⟩, f1, f2, f3⟩ := blk_cells hblk.out
    by_cases hlt : k < len ∧ k < 64
    · obtain ⟨b, off, hae, hbp, hcell⟩ := HR.out (by omega)
      have hz : wr.cell? ⟨b, off + k, none⟩ = some (.int .u8 (g k)) := (hbel.cell (by exact hbp)).trans (hcell k hlt.1)
      obtain ⟨z1, z2⟩ := HG.out k
      have t1 : (k : Int) < (len : Int) := by omega
      have t2 : (k : Int) < 64 := by omega
      clear hcell hlt
      subst hae
      go_wp2
      go_region
      go_wp2
      go_roundw
      case rel => exact ⟨k + 1, _, by omega, by omega, by go_num, (wrap_bd _).1, (wrap_bd _).2, blk_set2 hblk.out _, (hbel.setCell (Nat.le_refl _) _).drew⟩
      case measure => simp [intOf]; omega
    · by_cases h1 : k < len
      · have t1 : (k : Int) < (len : Int) := by omega
        have t2 : decide ((k : Int) < 64) = false := by simp; omega
        clear hlt
        by_cases h12 : 12 < (len : Int) / 20
        · go_wp2
          go_ret
          exact ⟨rfl, ⟨HC.out.below ((hbel.setCell (Nat.le_refl _) _).setCell (Nat.le_refl _) _), 0, mix, 12, Nat.zero_le _, m1, m2, by decide, by decide, blk_set3 (blk_set3 hblk.out _) _⟩, (hbel.setCell (Nat.le_refl _) _).setCell (Nat.le_refl _) _⟩
        · have h13 : 0 ≤ (len : Int) / 20 := by omega
          have h14 : (len : Int) / 20 ≤ 12 := by omega
          go_wp2
          go_ret
          exact ⟨rfl, ⟨HC.out.below (hbel.setCell (Nat.le_refl _) _), 0, mix, (len : Int) / 20, Nat.zero_le _, m1, m2, h13, h14, blk_set3 hblk.out _⟩, hbel.setCell (Nat.le_refl _) _⟩
      · have t1 : decide ((k : Int) < (len : Int)) = false := by simp; omega
        have h13 : 0 ≤ (len : Int) / 20 := by omega
        have h14 : (len : Int) / 20 ≤ 12 := by omega
        clear hlt
        go_wp2
        go_ret
        exact ⟨rfl, ⟨HC.out.below (hbel.setCell (Nat.le_refl _) _), 0, mix, (len : Int) / 20, Nat.zero_le _, m1, m2, h13, h14, blk_set3 hblk.out _⟩, hbel.setCell (Nat.le_refl _) _⟩
end Go.Proofs.YtdidbaadladkpaaDoor
/- The draws of chapter 3: an id, bits, a mode. What is drawn is not told, but its bounds. -/
namespace Go.Proofs.YtdidbaadladkpaaDoor
open Go.RowKit
set_option linter.unusedVariables false
theorem lit_cell (w : World) (xs : Array Value) (t : TypeId) (k : Nat) : (w.alloc (.cells xs t)).cell? ⟨w.heap.size, k, none⟩ = xs[k]? := by
  have hb : (w.alloc (.cells xs t)).heap[w.heap.size]? = some (.cells xs t) := blk_new w _
  simp only [World.cell?, hb]
  rfl
theorem pickI2 (w : World) (x y : Int) (t : TypeId) (r : Int) (h0 : 0 ≤ r) (h1 : r < 2) : ∃ z, (z = x ∨ z = y) ∧ (w.alloc (.cells #[.int .i64 x, .int .i64 y] t)).cell? ⟨w.heap.size, r.toNat, none⟩ = some (.int .i64 z) := by
  obtain ⟨k, rfl⟩ := Int.eq_ofNat_of_zero_le h0
  have hk : k < 2 := by omega
  rw [lit_cell, Int.toNat_natCast]
  match k, hk with
  | 0, _ => exact ⟨x, .inl rfl, rfl⟩
  | 1, _ => exact ⟨y, .inr rfl, rfl⟩
theorem pickI3 (w : World) (x y v : Int) (t : TypeId) (r : Int) (h0 : 0 ≤ r) (h1 : r < 3) : ∃ z, (z = x ∨ z = y ∨ z = v) ∧ (w.alloc (.cells #[.int .i64 x, .int .i64 y, .int .i64 v] t)).cell? ⟨w.heap.size, r.toNat, none⟩ = some (.int .i64 z) := by
  obtain ⟨k, rfl⟩ := Int.eq_ofNat_of_zero_le h0
  have hk : k < 3 := by omega
  rw [lit_cell, Int.toNat_natCast]
  match k, hk with
  | 0, _ => exact ⟨x, .inl rfl, rfl⟩
  | 1, _ => exact ⟨y, .inr (.inl rfl), rfl⟩
  | 2, _ => exact ⟨v, .inr (.inr rfl), rfl⟩
set_option maxRecDepth 100000 in
set_option maxHeartbeats 2000000 in
theorem drBits_any (a : Option Addr) (len cap : Nat) (g : Nat → Int) (p : Nat) (w : World) (hs : Src a len cap g p w) :
    Calls Tryd.prog 51 #[.pointer (some ⟨p, 0, none⟩)] w fun e w' => ∃ r : Int, e = .returned (.int .i64 r) ∧ -1 ≤ r ∧ r ≤ 8 ∧ Src a len cap g p w' ∧ Ownp p w w' := by
  have hp := hs.pos
  go_enter Tryd.func51, Tryd.ntmps51
  go_wp2_with (go_at_call 46; refine (one_any a len cap g _ _ (by decide) _ hs).mono ?_; rintro e w1 ⟨r, rfl, hs1, ho1⟩)
  · refine (n_any a len cap g _ _ (by decide) _ (src_alloc hs1 _)).mono ?_
    rintro e w2 ⟨x, rfl, x1, x2, hs2, ho2⟩
    obtain ⟨z, hz, hc⟩ := pickI2 w1 (-1) 8 2 x x1 (by omega)
    have hsz := ho1.size
    have hcx : w2.cell? ⟨w1.heap.size, x.toNat, none⟩ = some (.int .i64 z) := (ho2.cell (by simp) (by omega)).trans hc
    have HO : Hid (Ownp p w w2) := ho1.trans (((Ownp.refl p w1).alloc _).trans ho2)
    have HZ : Hid (-1 ≤ z ∧ z ≤ 8) := (show _ ∧ _ by omega)
    have x3 : x < 2 := by omega
    clear ho1 ho2 hs1 hs x2 hc hz hsz
    go_wp2
    go_ret
    exact ⟨z, rfl, HZ.out.1, HZ.out.2, hs2, HO.out⟩
  · refine (n_any a len cap g _ _ (by decide) _ hs1).mono ?_
    rintro e w2 ⟨x, rfl, x1, x2, hs2, ho2⟩
    have HO : Hid (Ownp p w w2) := ho1.trans ho2
    have x3 : x < 8 := by omega
    clear ho1 ho2 hs1 hs x2
    go_wp2
    go_ret
    exact ⟨x, rfl, by omega, by omega, hs2, HO.out⟩
set_option maxRecDepth 100000 in
set_option maxHeartbeats 2000000 in
theorem drId_any (a : Option Addr) (len cap : Nat) (g : Nat → Int) (p : Nat) (w : World) (hs : Src a len cap g p w) :
    Calls Tryd.prog 41 #[.pointer (some ⟨p, 0, none⟩)] w fun e w' => ∃ r : Int, e = .returned (.int .i64 r) ∧ -1 ≤ r ∧ r ≤ 10000 ∧ Src a len cap g p w' ∧ Ownp p w w' := by
  have hp := hs.pos
  go_enter Tryd.func41, Tryd.ntmps41
  go_wp2_with (go_at_call 46; refine (one_any a len cap g _ _ (by decide) _ hs).mono ?_; rintro e w1 ⟨r, rfl, hs1, ho1⟩)
  · refine (n_any a len cap g _ _ (by decide) _ (src_alloc hs1 _)).mono ?_
    rintro e w2 ⟨x, rfl, x1, x2, hs2, ho2⟩
    obtain ⟨z, hz, hc⟩ := pickI3 w1 (-1) 9999 10000 2 x x1 (by omega)
    have hsz := ho1.size
    have hcx : w2.cell? ⟨w1.heap.size, x.toNat, none⟩ = some (.int .i64 z) := (ho2.cell (by simp) (by omega)).trans hc
    have HO : Hid (Ownp p w w2) := ho1.trans (((Ownp.refl p w1).alloc _).trans ho2)
    have HZ : Hid (-1 ≤ z ∧ z ≤ 10000) := (show _ ∧ _ by omega)
    have x3 : x < 3 := by omega
    clear ho1 ho2 hs1 hs x2 hc hz hsz
    go_wp2
    go_ret
    exact ⟨z, rfl, HZ.out.1, HZ.out.2, hs2, HO.out⟩
  · refine (n_any a len cap g _ _ (by decide) _ hs1).mono ?_
    rintro e w2 ⟨x, rfl, x1, x2, hs2, ho2⟩
    have HO : Hid (Ownp p w w2) := ho1.trans ho2
    have x3 : x < 5 := by omega
    clear ho1 ho2 hs1 hs x2
    go_wp2
    go_ret
    exact ⟨x, rfl, by omega, by omega, hs2, HO.out⟩
set_option maxRecDepth 100000 in
set_option maxHeartbeats 2000000 in
theorem drMode_any (a : Option Addr) (len cap : Nat) (g : Nat → Int) (p : Nat) (w : World) (hs : Src a len cap g p w) :
    Calls Tryd.prog 63 #[.pointer (some ⟨p, 0, none⟩)] w fun e w' => ∃ r : Int, e = .returned (.int .i64 r) ∧ -1 ≤ r ∧ r ≤ 4096 ∧ Src a len cap g p w' ∧ Ownp p w w' := by
  have hp := hs.pos
  go_enter Tryd.func63, Tryd.ntmps63
  go_wp2_with fail
  refine (one_any a len cap g _ _ (by decide) _ hs).mono ?_
  rintro e w1 ⟨r, rfl, hs1, ho1⟩
  cases r
  · go_wp2_with fail
    refine (one_any a len cap g _ _ (by decide) _ hs1).mono ?_
    rintro e w2 ⟨r, rfl, hs2, ho2⟩
    cases r
    · go_wp2_with fail
      refine (n_any a len cap g _ _ (by decide) _ hs2).mono ?_
      rintro e w3 ⟨x, rfl, x1, x2, hs3, ho3⟩
      have HO : Hid (Ownp p w w3) := (ho1.trans ho2).trans ho3
      have x3 : x < 512 := by omega
      clear ho1 ho2 ho3 hs1 hs2 hs x2
      go_wp2
      go_ret
      exact ⟨x, rfl, by omega, by omega, hs3, HO.out⟩
    · go_wp2_with fail
      refine (n_any a len cap g _ _ (by decide) _ hs2).mono ?_
      rintro e w3 ⟨x, rfl, x1, x2, hs3, ho3⟩
      have HO : Hid (Ownp p w w3) := (ho1.trans ho2).trans ho3
      have x3 : x < 4096 := by omega
      clear ho1 ho2 ho3 hs1 hs2 hs x2
      go_wp2
      go_ret
      exact ⟨x, rfl, by omega, by omega, hs3, HO.out⟩
  · go_wp2_with fail
    refine (n_any a len cap g _ _ (by decide) _ (src_alloc hs1 _)).mono ?_
    rintro e w2 ⟨x, rfl, x1, x2, hs2, ho2⟩
    obtain ⟨z, hz, hc⟩ := pickI3 w1 (-1) 4095 4096 2 x x1 (by omega)
    have hsz := ho1.size
    have hcx : w2.cell? ⟨w1.heap.size, x.toNat, none⟩ = some (.int .i64 z) := (ho2.cell (by simp) (by omega)).trans hc
    have HO : Hid (Ownp p w w2) := ho1.trans (((Ownp.refl p w1).alloc _).trans ho2)
    have HZ : Hid (-1 ≤ z ∧ z ≤ 4096) := (show _ ∧ _ by omega)
    have x3 : x < 3 := by omega
    clear ho1 ho2 hs1 hs x2 hc hz hsz
    go_wp2
    go_ret
    exact ⟨z, rfl, HZ.out.1, HZ.out.2, hs2, HO.out⟩
end Go.Proofs.YtdidbaadladkpaaDoor
