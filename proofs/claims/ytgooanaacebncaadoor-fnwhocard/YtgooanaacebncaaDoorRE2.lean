/- Laid together: NumMath, Source. -/
import Derived.PlainAid
import Derived.Laws.BitsAllLaws
import Derived.Laws.Bits128
import Derived.Test.YtgooanaacebncaaDoorRE1
import Derived.Maps.AppendAt
/- Plain mathematics of PutNum: the number that is written, its bytes, and rows of bytes that grow. Nothing here names a program. -/
namespace Go.Proofs.YtgooanaacebncaaDoor
open Go.RowKit Go.PlainAid
set_option linter.unusedVariables false
/-- The bytes of a number, seven bits a byte, the lowest first, 128 more in all but the last. -/
def encF : Nat → Nat → List UInt8
  | 0, _ => []
  | f + 1, u => if u < 128 then [UInt8.ofNat u] else UInt8.ofNat (u % 128 + 128) :: encF f (u / 128)
/-- Ten bytes at most: a number below 2^64. -/
def enc (u : Nat) : List UInt8 := encF (u + 1) u
end Go.Proofs.YtgooanaacebncaaDoor
/- The contracts of spec.l01Source and of the source's bytes and edge. -/
namespace Go.Proofs.YtgooanaacebncaaDoor
open Go.RowKit
set_option linter.unusedVariables false
theorem Code.below {a : Option Addr} {len : Nat} {g : Nat → Int} {w w' : World} (h : Code a len g w.heap.size w) (hb : Below w.heap.size w w') : Code a len g w.heap.size w' :=
  ⟨h.1, h.2.1, fun hl => by
    obtain ⟨b, off, e, hlt, hc⟩ := h.2.2 hl
    exact ⟨b, off, e, hlt, fun i hi => (hb.cell (p := ⟨b, off + i, none⟩) hlt).trans (hc i hi)⟩⟩
theorem src_alloc {a : Option Addr} {len cap : Nat} {g : Nat → Int} {p : Nat} {w : World} (h : Src a len cap g p w) (o : Obj) : Src a len cap g p (w.alloc o) :=
  h.kept fun k hk => (World.grownBy_alloc w o none).block k (by have := h.pos; omega) (by simp)
theorem wrap_bd (x : Int) : 0 ≤ IntKind.u64.wrap x ∧ IntKind.u64.wrap x ≤ 18446744073709551615 := bounds_u64 (wf_wrap .u64 x)
theorem blk_new (w : World) (x : Obj) : (w.alloc x).heap[w.heap.size]? = some x := by
  rw [World.alloc]
  exact Array.getElem?_push_size
set_option maxRecDepth 100000 in
set_option maxHeartbeats 2000000 in
theorem source_any (a : Option Addr) (len cap : Nat) (g : Nat → Int) (w : World) (hc : Code a len g w.heap.size w) :
    Calls Tryd.prog 36 #[.slice a len cap] w fun e w' => e = .returned (.pointer (some ⟨w.heap.size, 0, none⟩)) ∧ Src a len cap g w.heap.size w' ∧ Below w.heap.size w w' := by
  have HC : Hid (Code a len g w.heap.size w) := hc
  obtain ⟨hlen, hg, hrow⟩ := hc
  have HR : Hid (0 < len → ∃ b off, a = some ⟨b, off, none⟩ ∧ b < w.heap.size ∧ ∀ i, i < len → w.cell? ⟨b, off + i, none⟩ = some (.int .u8 (g i))) := hrow
  have HG : Hid (∀ i, 0 ≤ g i ∧ g i ≤ 255) := hg
  clear hrow hg
  go_enter Tryd.func36, Tryd.ntmps36
  go_wp2
  go_loopw [4] (fun i wr => ∃ (k : Nat) (mix : Int), k ≤ len ∧ k ≤ 64 ∧ i = .int .i64 k ∧ 0 ≤ mix ∧ mix ≤ 18446744073709551615 ∧ Hid (wr.heap[w.heap.size]? = some (srcBlk a len cap 0 mix 0)) ∧ Below w.heap.size w wr) (fun i _ => len - (intOf i).toNat)
  case atStart => exact ⟨0, _, Nat.zero_le _, Nat.zero_le _, rfl, by decide, by decide, blk_new w _, (Below.refl _ _).alloc (Nat.le_refl _) _⟩
  case round =>
    obtain ⟨k, mix, hk, hk2, rfl, m1, m2, hblk, hbel⟩ := hrel
    obtain ⟨⟨k0, k1, k2, k3⟩, f1, f2, f3⟩ := blk_cells hblk.out
    by_cases hlt : k < len ∧ k < 64
    · obtain ⟨b, off, hae, hbp, hcell⟩ := HR.out (by omega)
      have hz : wr.cell? ⟨b, off + k, none⟩ = some (.int .u8 (g k)) := (hbel.cell (by exact hbp)).trans (hcell k hlt.1)
      obtain ⟨z1, z2⟩ := HG.out k
      have t1 : (k : Int) < (len : Int) := by omega
      have t2 : (k : Int) < 64 := by omega
      clear hcell hlt
      subst hae
      go_wp2
      go_region
      go_wp2
      go_roundw
      case rel => exact ⟨k + 1, _, by omega, by omega, by go_num, (wrap_bd _).1, (wrap_bd _).2, blk_set2 hblk.out _, (hbel.setCell (Nat.le_refl _) _).drew⟩
      case measure => simp [intOf]; omega
    · by_cases h1 : k < len
      · have t1 : (k : Int) < (len : Int) := by omega
        have t2 : decide ((k : Int) < 64) = false := by simp; omega
        clear hlt
        by_cases h12 : 12 < (len : Int) / 20
        · go_wp2
          go_ret
          exact ⟨rfl, ⟨HC.out.below ((hbel.setCell (Nat.le_refl _) _).setCell (Nat.le_refl _) _), 0, mix, 12, Nat.zero_le _, m1, m2, by decide, by decide, blk_set3 (blk_set3 hblk.out _) _⟩, (hbel.setCell (Nat.le_refl _) _).setCell (Nat.le_refl _) _⟩
        · have h13 : 0 ≤ (len : Int) / 20 := by omega
          have h14 : (len : Int) / 20 ≤ 12 := by omega
          go_wp2
          go_ret
          exact ⟨rfl, ⟨HC.out.below (hbel.setCell (Nat.le_refl _) _), 0, mix, (len : Int) / 20, Nat.zero_le _, m1, m2, h13, h14, blk_set3 hblk.out _⟩, hbel.setCell (Nat.le_refl _) _⟩
      · have t1 : decide ((k : Int) < (len : Int)) = false := by simp; omega
        have h13 : 0 ≤ (len : Int) / 20 := by omega
        have h14 : (len : Int) / 20 ≤ 12 := by omega
        clear hlt
        go_wp2
        go_ret
        exact ⟨rfl, ⟨HC.out.below (hbel.setCell (Nat.le_refl _) _), 0, mix, (len : Int) / 20, Nat.zero_le _, m1, m2, h13, h14, blk_set3 hblk.out _⟩, hbel.setCell (Nat.le_refl _) _⟩
end Go.Proofs.YtgooanaacebncaaDoor
