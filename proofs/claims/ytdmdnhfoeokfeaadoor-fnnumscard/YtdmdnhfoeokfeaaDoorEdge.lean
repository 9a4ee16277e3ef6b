/- The contract of the source's edge: some number of int64. -/
import Derived.Test.YtdmdnhfoeokfeaaDoorSource
namespace Go.Proofs.YtdmdnhfoeokfeaaDoor
open Go.RowKit
set_option linter.unusedVariables false
/-- The block of the edges. -/
abbrev edgeBlk : Obj := .cells #[.int .i64 0, .int .i64 1, .int .i64 (-1), .int .i64 2, .int .i64 1000, .int .i64 1001, .int .i64 2147483648, .int .i64 2147483647, .int .i64 (-2147483648), .int .i64 4611686018427387904, .int .i64 9223372036854775807, .int .i64 (-9223372036854775808), .int .i64 1000000, .int .i64 1000001] 2
theorem edge_cell (w : World) (r : Int) (h0 : 0 ≤ r) (h1 : r < 14) : ∃ x : Int, -9223372036854775808 ≤ x ∧ x ≤ 9223372036854775807 ∧ (w.alloc edgeBlk).cell? ⟨w.heap.size, r.toNat, none⟩ = some (.int .i64 x) := by
  have hb : (w.alloc edgeBlk).heap[w.heap.size]? = some edgeBlk := blk_new w _
  have e : ∀ k, (w.alloc edgeBlk).cell? ⟨w.heap.size, k, none⟩ = (#[Value.int .i64 0, .int .i64 1, .int .i64 (-1), .int .i64 2, .int .i64 1000, .int .i64 1001, .int .i64 2147483648, .int .i64 2147483647, .int .i64 (-2147483648), .int .i64 4611686018427387904, .int .i64 9223372036854775807, .int .i64 (-9223372036854775808), .int .i64 1000000, .int .i64 1000001])[k]? := by
    intro k
    simp only [World.cell?, hb]
    rfl
  obtain ⟨k, rfl⟩ := Int.eq_ofNat_of_zero_le h0
  have hk : k < 14 := by omega
  rw [e, Int.toNat_natCast]
  match k, hk with
  | 0, _ => exact ⟨_, by decide, by decide, rfl⟩
  | 1, _ => exact ⟨_, by decide, by decide, rfl⟩
  | 2, _ => exact ⟨_, by decide, by decide, rfl⟩
  | 3, _ => exact ⟨_, by decide, by decide, rfl⟩
  | 4, _ => exact ⟨_, by decide, by decide, rfl⟩
  | 5, _ => exact ⟨_, by decide, by decide, rfl⟩
  | 6, _ => exact ⟨_, by decide, by decide, rfl⟩
  | 7, _ => exact ⟨_, by decide, by decide, rfl⟩
  | 8, _ => exact ⟨_, by decide, by decide, rfl⟩
  | 9, _ => exact ⟨_, by decide, by decide, rfl⟩
  | 10, _ => exact ⟨_, by decide, by decide, rfl⟩
  | 11, _ => exact ⟨_, by decide, by decide, rfl⟩
  | 12, _ => exact ⟨_, by decide, by decide, rfl⟩
  | 13, _ => exact ⟨_, by decide, by decide, rfl⟩
set_option maxHeartbeats 1000000 in
theorem edge_any (a : Option Addr) (len cap : Nat) (g : Nat → Int) (p : Nat) (w : World) (hs : Src a len cap g p w) :
    Calls Tryd.prog 22 #[.pointer (some ⟨p, 0, none⟩)] w fun e w' => ∃ r : Int, e = .returned (.int .i64 r) ∧ -9223372036854775808 ≤ r ∧ r ≤ 9223372036854775807 ∧ Src a len cap g p w' ∧ Own p w w' := by
  have hp := hs.pos
  have HS : Hid (Src a len cap g p (w.alloc edgeBlk)) := src_alloc hs _
  clear hs
  go_enter Tryd.func22, Tryd.ntmps22
  go_wp2_with (go_at_call 18; refine (n_any a len cap g p 14 (by decide) _ HS.out).mono ?_; rintro e w1 ⟨r, rfl, r1, r2, hs1, ho1⟩; have r3 : r < 14 := (by omega); obtain ⟨x, x1, x2, hx⟩ := edge_cell w r r1 r3; have hcx : w1.cell? ⟨w.heap.size, r.toNat, none⟩ = some (.int .i64 x) := (ho1.cell (by simp) (by omega)).trans hx; have HS1 : Hid (Src a len cap g p w1) := hs1; have HO1 : Hid (Own p (w.alloc edgeBlk) w1) := ho1; clear hx hs1 ho1 r2)
  go_ret
  exact ⟨x, rfl, x1, x2, HS1.out, ((Own.refl p w).alloc _).trans HO1.out⟩
end Go.Proofs.YtdmdnhfoeokfeaaDoor
